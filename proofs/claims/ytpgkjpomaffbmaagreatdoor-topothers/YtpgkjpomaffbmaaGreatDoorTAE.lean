/- Out of my texts: CwO, CwQ, CwR, CwS, CwU, CwV, CwW, CwT, CwX, CwY, CwZ, CxA, CxB, CxC, CxD, CxE, CxF, CxG, CxH, CxI, CxJ, CxK, CxL, CxM, CxN, CxO, CxP, CxQ, KtZ, CxR, CyA, CyB, CyC, CyD, CyE, CyF, LqA, LqB, LqC, LqD, LqE, LqF, LqG. -/
import Derived.BigRegion
import Derived.Deep.DeepCutAuto
import Derived.Laws.OwnMore
import Derived.RegionTactic
import Derived.Test.YtpgkjpomaffbmaaGreatDoorTAA
import Derived.Test.YtpgkjpomaffbmaaGreatDoorTAB
import Derived.Test.YtpgkjpomaffbmaaGreatDoorTAC
import Derived.Test.YtpgkjpomaffbmaaGreatDoorTAD
set_option maxRecDepth 20000
set_option maxHeartbeats 8000000
set_option linter.unusedVariables false
namespace Go.Proofs.YtpgkjpomaffbmaaGreatDoor
open Go.RowKit
abbrev Bh:= @Int.toNat_of_nonneg
abbrev Bv:= @List.mem_of_mem_eraseIdx
abbrev BQ:= @List.take_take
abbrev Cj:= @Nat.mul_one
section
open Rv
theorem Jr{B B':Bt}{v:Ev}{an:An}{er:Int}(h:cY B v B' an true er):v.Ok:=by
 cases h with
 |done h hv=>exact hv
section
variable{u:Nv}{v:Wv}{l:Lt}{B8:Bt}{an:An}{k:Bool}{er:Int}
theorem CH(hr:¬((u.m l.q).B.r=1∨(u.m l.q).B.r=2))(h:bD (u.m l.q).B l.op=(B8,an,k,er)):gD u.pure v.pure l=(u.pure,e_ v.pure (gT l.nu an (u.hn l.q) (u.he l.q))):=by
 unfold gD;rw[Ae hr,h]
theorem CI(hr:(u.m l.q).B.r=1∨(u.m l.q).B.r=2)(h:bD (u.m l.q).B l.op=(B8,an,false,er)):gD u.pure v.pure l=(u.pure,dN u.pure v.pure l an):=by
 unfold gD;rw[Aa (fun k=>k hr),h,Ae rfl]
theorem CJ(hr:(u.m l.q).B.r=1∨(u.m l.q).B.r=2)(h:bD (u.m l.q).B l.op=(B8,an,true,er))(hf:100000<u.dl.length+(cp [⟨2,l.q,(u.m l.q).B.e,0,l.op⟩]).length):gD u.pure v.pure l=(u.pure,dN u.pure v.pure l ⟨14,0,0,0⟩):=by
 unfold gD lC;rw[Aa (fun k=>k hr),h,Aa (show ¬true=false by decide),Aa (BL.2 hf)]
theorem E3(hr:(u.m l.q).B.r=1∨(u.m l.q).B.r=2)(h:bD (u.m l.q).B l.op=(B8,an,true,er))(hf:u.dl.length+(cp [⟨2,l.q,(u.m l.q).B.e,0,l.op⟩]).length≤100000):gD u.pure v.pure l=({u.pure with dl:=u.dl++cp [⟨2,l.q,(u.m l.q).B.e,0,l.op⟩],af:=some (.serve l an)},v.pure):=by
 unfold gD lC;rw[Aa (fun k=>k hr),h,Aa (show ¬true=false by decide),Ae hf]
end
theorem TI(X N:Nat)(u:Nv)(v:Wv)(F U:tF)(w:tA)(hw:NW w X N u v F U)(P:Nat)(l:Lt)(a:tB)(c:Nat)(hq:l.q<4)(hop:∀x∈bf l.op,(Lit.int .i64 x).wf=true)(hl:cm U w fun w=>eN w P l a c)(hlen:v.fl.length≤1000000000000)(iF:v.sv.length≤1000000000000):cA 57 #[lp N,lp P] w fun x w'=>x= .returned (.tuple #[])∧∃u' v' F',Dn w X N u v F U (gD u.pure v.pure l) u' v' F' w':=by
 have ho:aW (jj (u.m l.q)) 47:=eF (hw.st.now.1.mo l.q hq).one;have gV:=jV (hw.ok.ok l.q hq).cG;have lop:∀{w1},eN w1 P l a c→∀j,j<6→w1.cell? ⟨P,5+j,none⟩=some (lF [iV l.op.k,iV l.op.p,iV l.op.i,iV l.op.b,iV l.op.he,iV l.op.hn] j):=fun h j hj=>(h.b.at (5+j) (by omega)).trans (AB some (qs rfl hj));refine en (H:=[⟨N,123,[.f 206 (mC X u)]⟩]) 74 [vp 0 0 N,vv (lp P)] Tryz.func57 rfl rfl (hw.init (G:=fun w=>eN w P l a c) hl) ?_;refine r [] rfl fun α=>l1 rfl (iV (l.q:Int)) (fun w hS=>hS.now.1.2.b.at 3 (cR rfl)) ?_;refine r [3,1] rfl fun β=>lo rfl rfl 0 rfl 47 (jj (u.m l.q)) (fun i hi=>oG hq hi) ?_;refine r [] rfl fun γ=> ?_;refine cut (X:=Nat×An×Bool) (fun x=>[(2,vp 1 0 (α 0)),(3,vp 2 0 (α 1)),(4,vp 3 0 (β 0)),(5,vp 4 0 (γ 0)),(7,vp 5 0 x.1),(8,vv (.bool x.2.2))]) (fun x=>[⟨N,123,[.f 206 (mC X u)]⟩,⟨α 0,98,[.p 0 0 N]⟩,⟨α 1,148,[.o (lp P)]⟩,⟨β 0,3,[.o (iV (l.q:Int))]⟩,⟨γ 0,114,[.f 47 (jj (u.m l.q))]⟩,⟨x.1,59,QS x.2.1⟩]) (fun _ b=>F b∨(U b∧b≠N)) (fun _ w=>(u.In w N∧∀r∈v.fl,oH w r)∧eN w P l a c) (fun _=>RW X (fun b=>b∈[N]) F w v F) (fun x=>∃B8 er8,cY (u.m l.q).B l.op B8 x.2.1 x.2.2 er8) ?_ (r [4] rfl fun _=>lf rfl 6 _ (fun w hS=>lop hS.now.1.2) ?_)
 case refine_2=>
  repeat' first|refine FC ?_ ?_|refine fk3 ?_ ?_ ?_|(refine cq (g:=89) rfl (fun y:(Bt×Option Addr×Nat×(Nat→Value))×An×Bool×Int=>vt [.g (qa y.1.1 y.1.2.1 y.1.2.2.1 y.1.2.2.2),.g (QS y.2.1),.o (.bool y.2.2.1),.o (iV y.2.2.2)]) (fun y=>cY (u.m l.q).B l.op y.1.1 y.2.1 y.2.2.1 y.2.2.2∧aW y.1.2.2.2 41) ?_ ?_;exact fun w hS=>(zM (fun b=>b∈(hs _).map bX.a∨F b∨(U b∧b≠N)) (u.m l.q).B (u.m l.q).a (u.m l.q).c (u.m l.q).g l.op w hS.ult (fun w2 c2=>(hS.g w2 c2).1.1.mo l.q hq) (hw.ok.ok l.q hq) hop).mono fun _ _ ⟨_,an,k,er,B8,h0,h1,⟨a8,c8,g8,hy,hm8⟩,b⟩=>⟨((B8,a8,c8,g8),an,k,er),by rw[h0,hy];rfl,b,h1,hm8.now.one⟩;rintro⟨⟨B8,a8,c8,g8⟩,an8,k8,er8⟩ ⟨G9,o8⟩)|refine rs [] rfl rfl fun _=> ?_
  all_goals first|exact bJ (_,an8,k8) ⟨rfl,rfl,rfl,rfl,rfl,rfl,trivial⟩ (fun w hS=>hS.Kj [0,1,2,3,4,5] (by decide)) ⟨_,_,G9⟩ Bp|exact bJ (_,an8,k8) ⟨rfl,rfl,rfl,rfl,rfl,rfl,trivial⟩ (fun w hS=>hS.Kj [0,1,2,3,4,6] (by decide)) ⟨_,_,G9⟩ Bp
 rintro f ⟨R7,an8,k8⟩ ⟨B8,er8,G9⟩;have e8:=eV G9;refine r [] rfl fun _=> ?_;by_cases rV:(u.m l.q).B.r=1∨(u.m l.q).B.r=2
 case neg=>
  refine Rv.cb rfl (vv (.bool false)) (fun w _=>(kQ _ _ _ _ _ _ _ _ _ w).mono fun _ _ ⟨h,b⟩=>⟨by rw[h,Ak rV];rfl,b⟩) (r [3,1] rfl fun _=>lo rfl rfl 0 rfl 2 (lF [iV (u.hn l.q),iV (u.he l.q)]) (fun i hi=>acV hq hi) (r [] rfl fun _=> ?_));refine cw rfl (vt []) _ _ (fun w hS=>Jo X v F _ w N u P l a c an8 (u.hn l.q) (u.he l.q) hS.now.2.wo hS.ult (fun b h=> .inr (.inl h)) (fun w2 c2=>(hS.xQ 0 rfl w2 (c2.mono fun b h=> .inl h)).2) (fun w2 c2=>(hS.g w2 c2).2) hlen) fun P1 F1=>r [] rfl fun _=>fin fun w hS=> ?_;exact⟨rfl,u,_,F1,Dn.fin hS hw.ub hw.nu (fun _ h=>⟨h.1.1.1,gf h.1.1.2 h.2⟩) hw.ok rfl rfl rfl rfl rfl (by rw[CH rV e8]) (by rw[CH rV e8];exact kG _ _)⟩
 refine Rv.cb rfl (vv (.bool true)) (fun w _=>(kQ _ _ _ _ _ _ _ _ _ w).mono fun _ _ ⟨h,b⟩=>⟨by rw[h,As rV];rfl,b⟩) ?_;cases k8
 ·refine r [] rfl fun _=>cw rfl (vt []) _ _ (fun w hS=>wO X v F _ w N u P l a c an8 hq hS.now.2.wo hS.ult (fun b h=> .inr (.inl h)) (fun w2 c2=>(hS.xQ 0 rfl w2 (c2.mono fun b h=> .inl h)).2) (fun w2 c2=>(hS.g w2 c2).2) hlen iF) fun P1 F1=>r [] rfl fun _=>dt rfl fun w hS=> ?_;exact⟨rfl,u,_,F1,Dn.fin hS hw.ub hw.nu (fun _ h=>⟨h.1.1.1,gf h.1.1.2 h.2⟩) hw.ok rfl rfl rfl rfl rfl (by rw[CI rV e8]) (by rw[CI rV e8];exact CB _ _ _)⟩
 refine r [3] rfl fun _=>lf rfl 6 _ (fun w hS=>lop hS.now.1.2) (r [] rfl fun δ=> ?_);refine kp 6 rfl (c0 rfl fun w1 hS=> ?_);obtain⟨oV,hu2,hu3⟩:=hS.rW;refine(ji X N u.i u.da u.dl.length u.dc u.dl u.sy (fun p=>jj (u.m p)) (u.hn) (u.he) u.wt u.af u.tu u.ct u.ub u.sk (.func 92) #[] #[.pointer (some ⟨α 0,0,none⟩),.pointer (some ⟨β 0,0,none⟩),.pointer (some ⟨α 1,0,none⟩),.pointer (some ⟨R7,0,none⟩)] [⟨2,l.q,(u.m l.q).B.e,0,l.op⟩] (some ⟨δ 0,0,none⟩) 1 1 _ (hS.at 0 rfl) _ oV hu2 (fun w2 cc=>⟨(hu3 w2 cc).1.1.1.row,mT ⟨2,l.q,(u.m l.q).B.e,0,l.op⟩ (pJ (by decide) hq gV (by decide) hop) (hu3 w2 cc).2⟩) hw.ok.nil hw.ok.cap hw.ok.max hw.ok.len hw.ok.s0 hw.ok.s1 rfl (by decide) (fun r hr=>by rw[Ab.1 hr];exact TC (.inl rfl) hq gV (Jr G9))).mono ?_;rintro _ w2 ⟨k,rfl,ch,⟨rfl,i_,a2,c2,wK,st2,jM,r_,rX⟩|⟨rfl,i_,wK⟩⟩
 ·refine⟨vv (.bool true),_,_,rfl,ch,wK,st2,r [] rfl fun _=>dt rfl fun w3 hS=> ?_⟩;let u':Nv:={u with da:=a2,dc:=c2,dl:=u.dl++cp [⟨2,l.q,(u.m l.q).B.e,0,l.op⟩],af:= .func (.func 92) #[] #[.pointer (some ⟨α 0,0,none⟩),.pointer (some ⟨β 0,0,none⟩),.pointer (some ⟨α 1,0,none⟩),.pointer (some ⟨R7,0,none⟩)],ax:=some (.serve l an8),ad:=⟨α 0,β 0,α 1,R7,P,a,c,u.m 0⟩};replace hS:=((((hS.take 1).add (hS.kept 1 rfl 1 (cR rfl))).add (hS.kept 3 rfl 1 (cR rfl))).add (hS.kept 2 rfl 1 (cR rfl))).add (hS.kept 5 rfl 1 (cR rfl));replace hS:=hS.congr 0 rfl (mC X u') (fun i _=>by simp only[u',mC,List.length_append];rfl);exact⟨rfl,u',v,F,Dn.fin hS hw.ub hw.nu (fun _ h=>⟨⟨by rw[Ag];exact h.1.1.1.1.2,h.1.1.1.1.1.1.1.1.mo,⟨rfl,h.1.1.1.2,h.1.1.2,h.1.2,h.2,h.1.1.1.1.1.1.2⟩,h.1.1.1.1.1.1.1.1.wl⟩,h.1.1.1.1.1.1.1.2⟩) (⟨hw.ok.ok,r_,by rw[Ag];exact jM,rX,by rw[Ag];exact i_,hw.ok.s0,by rw[Ag];show u.sy≤_;have:=hw.ok.s1;omega,hw.ok.i5,⟨hq,hop⟩⟩) rfl rfl rfl rfl rfl (by rw[E3 rV e8 i_]) (by rw[E3 rV e8 i_])⟩
 ·refine⟨vv (.bool false),_,fun _=>True,rfl,ch,wK,fun _ _=>trivial,r [] rfl fun _=>cw rfl (vt []) _ _ (fun w hS=>wO X v F _ w N u P l a c ⟨14,0,0,0⟩ hq hS.now.2.wo hS.ult (fun b h=> .inr (.inl h)) (fun w2 c2=>(hS.xQ 0 rfl w2 (c2.mono fun b h=> .inl h)).2) (fun w2 c2=>(hS.g w2 c2).1.1.2) hlen iF) fun P1 F1=>r [] rfl fun _=>dt rfl fun w hS=> ?_⟩;exact⟨rfl,u,_,F1,Dn.fin hS hw.ub hw.nu (fun _ h=>⟨h.1.1.1.1.1,gf h.1.1.1.1.2 h.2⟩) hw.ok rfl rfl rfl rfl rfl (by rw[CJ rV e8 i_]) (by rw[CJ rV e8 i_];exact CB _ _ _)⟩
end
section
variable{P:tY}{ops:tP}{Q:tI}{V:tW}{fx fl:tW}{n:Nat}{f:tD}{w:tA}{i:Nat}{t:Ord}{o:Oper}{d:Nat}{H:List bX}{M:tF}{G R:tJ}
theorem ac0{s s':Nat}{x y:tU}{a b c:Int}(hb:¬b=0)(hc:a.tmod b=c)(ho:ops[i]? =some o)(hd:o.dst=some d)(hw:Region.wanted o (yielded ops (ly n f))=true)(hK:jq n ops=true)(hp:o.op= .binOp .rem s x y s')(hx:ev f x=iV a)(hy:ev f y=iV b)(h:WF P ops Q V fx fl t n (up f d (iV c)) w):WF P ops Q V fx fl (.pu i t) n f w:=
 Ef ho hd hw hK (fun w'=>by subst hc;simp[execOp,hp,hx,hy,eqGuard,binOp,Op.intDiv,hb]) h
end
def dQ(n:Nd)(q:Nat):List Lt:=
 if(n.mo q).r=2 then[Jk n.i (n.mo q) q]else if(n.mo q).r=3 then[Jk n.i (n.mo q) q,Tp n.i q]else if(n.mo q).r=1∧1<(n.mo q).e∧n.he q<(n.mo q).e then[Lv n.i (n.mo q) q]else[]
def cS:Nat→Nd→Ws→Nd×Ws
 |0,n,s=>(n,s)
 |k+1,n,s=>if(dQ n n.tu).length=0 then cS k {n with tu:=(n.tu+1) % 4} s else({n with tu:=(n.tu+1) % 4},{s with fl:=s.fl++dQ n n.tu})
structure wP(w:tA)(R:Nat)(ls:List Lt):Prop where
 cell:∀k l,ls[k]? =some l→∀j,j<21→w.cell? ⟨R,k*21+j,none⟩=some (lF (Nn l none 0) j)
theorem wP.one{w:tA}{R:Nat}{l:Lt}(h:bh w R 147 21 (lF (Nn l none 0))):wP w R [l]:=⟨fun k l' hk j hj=>by
 obtain⟨Xh,rfl⟩:=Ap.1 hk;have:k=0:=by simpa using Xh
 subst this;rw[Nat.zero_mul,Aj]
 exact h.at j hj⟩
theorem wP.two{w:tA}{R:Nat}{l l':Lt}(h:bh w R 147 42 (lF (Nn l none 0++Nn l' none 0))):wP w R [l,l']:=⟨fun k x hk j hj=>by
 match k,hk with
 |0,hk=>
  cases hk;rw[Nat.zero_mul,h.at (0+j) (by omega)];exact AB some (qs (q:=0) (m:=21) rfl hj)
 |1,hk=>
  cases hk;rw[Nat.one_mul,h.at (21+j) (by omega)]
  exact AB some (qs (q:=21) (m:=21) rfl hj)⟩
section
open Rv
theorem TJ(X N:Nat)(u:Nv)(q:Nat)(hq:q<4)(w:tA)(hN:NB w X N u)(ok:(u.m q).B.Ok)(lY:aW (u.m q).g 41):cA 147 #[lp N,iV (q:Int)] w fun x w'=>∃s,x= .returned s∧((dQ u.pure q=[]∧s= .slice none 0 0)∨∃R,0<(dQ u.pure q).length∧s= .slice (some ⟨R,0,none⟩) (dQ u.pure q).length (dQ u.pure q).length∧w.heap.size≤R∧wP w' R (dQ u.pure q))∧bZ w w':=by
 have gV:=jV ok.cG;have ho:aW (jj (u.m q)) 47:=eF lY;have ui:∀{w1},NB w1 X N u→w1.cell? ⟨N,1,none⟩=some (iV (u.i:Int)):=fun h=>h.at 1 (cR rfl);refine en (H:=[]) 82 [vv (lp N),vi (q:Int)] Tryz.func147 rfl rfl (nZ (U:=fun _=>False) (G:=fun w=>NB w X N u) (fun _ h=>h.elim) fun w2 c=>hN.next (c.below (Ac _) fun _ _ h=>h)) ?_;refine r [] rfl fun _=>lf rfl 47 (jj (u.m q)) (fun w hS j hj=>(hS.now.1.at (5+q*47+j) (by omega)).trans (AB some (oG hq hj))) (sv 13 (vg (qa (u.m q).B (u.m q).a (u.m q).c (u.m q).g)) rfl (r [1] rfl fun _=>l1 rfl (iV (u.i:Int)) (fun w hS=>ui hS.now.1) ?_));refine rz [1] [(u.m q).B.e+1] rfl fun _=> ?_;by_cases h2:(u.m q).B.r=2
 ·rw[show dQ u.pure q=[Jk u.i (u.m q).B q] from Ae h2];exact r [1] rfl fun β=>fin fun w hS=>⟨_,rfl,.inr ⟨β 0,Nat.succ_pos _,rfl,hS.jN 2 rfl,wP.one (hS.at 2 rfl)⟩,hS.now.2⟩
 by_cases h3:(u.m q).B.r=3
 ·rw[show dQ u.pure q=[Jk u.i (u.m q).B q,Tp u.i q] from(Aa h2).trans (Ae h3)];exact r [0,1,1] rfl fun _=>l1 rfl (iV (u.i:Int)) (fun w hS=>ui hS.now.1) (r [] rfl fun β=>fin fun w hS=>⟨_,rfl,.inr ⟨β 0,Nat.succ_pos _,rfl,hS.jN 2 rfl,wP.two (hS.at 2 rfl)⟩,hS.now.2⟩)
 by_cases h1:(u.m q).B.r=1
 case neg=>
  rw[show dQ u.pure q=[] from(Aa h2).trans ((Aa h3).trans (Aa (fun k=>h1 k.1)))];exact r [0,0,1,0] rfl fun _=>fin fun w hS=>⟨.slice none 0 0,rfl,.inl ⟨rfl,rfl⟩,hS.now.2⟩
 by_cases he:1<(u.m q).B.e
 case neg=>
  rw[show dQ u.pure q=[] from(Aa h2).trans ((Aa h3).trans (Aa (fun k=>he k.2.1)))];exact r [0,0,1,1,0] rfl fun _=>fin fun w hS=>⟨.slice none 0 0,rfl,.inl ⟨rfl,rfl⟩,hS.now.2⟩
 refine r [0,0,1,1,1] rfl fun _=>l1 rfl (iV (u.he q)) (fun w hS=>(hS.now.1.at (193+q*2+1) (by omega)).trans (AB some (Np hq))) ?_;by_cases hh:u.he q<(u.m q).B.e
 ·rw[show dQ u.pure q=[Lv u.i (u.m q).B q] from(Aa h2).trans ((Aa h3).trans (Ae ⟨h1,he,hh⟩))];exact r [1,1] rfl fun _=>l1 rfl (iV (u.i:Int)) (fun w hS=>ui hS.now.1) (r [] rfl fun β=>fin fun w hS=>⟨_,rfl,.inr ⟨β 0,Nat.succ_pos _,rfl,hS.jN 2 rfl,wP.one (hS.at 2 rfl)⟩,hS.now.2⟩)
 ·rw[show dQ u.pure q=[] from(Aa h2).trans ((Aa h3).trans (Aa (fun k=>hh k.2.2)))];exact r [0] rfl fun _=>fin fun w hS=>⟨.slice none 0 0,rfl,.inl ⟨rfl,rfl⟩,hS.now.2⟩
theorem Xq(n:Nd)(q:Nat):(dQ n q).length≤2:=by
 unfold dQ;split
 ·exact cR rfl
 ·split
  ·exact cR rfl
  ·split
   ·exact cR rfl
   ·exact cR rfl
theorem aay(n:Nd)(q:Nat):∀l∈dQ n q,l.es=[]:=by
 intro l hl;unfold dQ at hl;split at hl
 ·rw[Ab.1 hl]
 ·split at hl
  ·rcases BI.1 hl with rfl|hl
   ·rfl
   ·rw[Ab.1 hl]
  ·split at hl
   ·rw[Ab.1 hl]
   ·cases hl
theorem TL{U:tF}{w:tA}{R:Nat}{ls:List Lt}(h:wP w R ls)(hU:∀b,U b→b≠R):cm U w fun w=>wP w R ls:=fun w2 c2=>⟨fun k l hk j hj=>by
 have hc:=h.cell k l hk j hj;have aN:R<w.heap.size:=by
  rcases AG R w.heap.size with h'|h'
  ·exact h'
  ·simp[World.cell?,Array.getElem?_eq_none h']at hc
 rw[c2.cell aN fun hu=>hU R hu rfl,hc]⟩
theorem oO{α:Type}{l:List α}{k:Nat}{x:α}(h:l[k]? =some x):l.take (k+1)=l.take k++[x]:=by
 rw[Ch,h];rfl
section
variable{u:Nv}{v:Wv}{t k:Nat}
theorem Xr(hk:k<4)(h:dQ u.pure t=[]):cS (4-k) ({u with tu:=t}:Nv).pure v.pure=cS (4-(k+1)) ({u with tu:=(t+1) % 4}:Nv).pure v.pure:=by
 obtain⟨m,hm⟩:∃m,4-k=m+1:=⟨4-k-1,by omega⟩;rw[hm,show 4-(k+1)=m by omega,cS,Ae];show(dQ u.pure t).length=0;rw[h];rfl
theorem TM{ls:List Lt}(hk:k<4)(h:0<(dQ u.pure t).length)(e:ls=dQ u.pure t):cS (4-k) ({u with tu:=t}:Nv).pure v.pure=(({u with tu:=(t+1) % 4}:Nv).pure,{v.pure with fl:=v.pure.fl++ls}):=by
 obtain⟨m,hm⟩:∃m,4-k=m+1:=⟨4-k-1,by omega⟩;rw[hm,cS,Aa,e]
 ·rfl
 ·show ¬(dQ u.pure t).length=0;omega
end
namespace Rv
section
variable{n:Nat}{ops:tP}{f:Nat→AV}{fn:Func}{Rr:Ending→World→Prop}{M:tF}{Φ R:tJ}{H:List En}{ks:List Fr}{t:Ord}{i d:Nat}{md:Md}
def rmA(n:Nat)(ops:tP)(f:Nat→AV)(i:Nat):Option (Nat×AV×AV):=match ops[i]? with
 |some o=>match o.dst,sS n ops f o,o.op with
  |some d,some true,.binOp .rem _ x y _=>some (d,ea f x,ea f y)
  |_,_,_=>none
 |none=>none
theorem rm{x y:AV}{a b:Int}(c:Int)(e:rmA n ops f i=some (d,x,y))(hb:¬b=0)(hc:a.tmod b=c)(hn:G Tryz.prog fn Rr n M Φ R (.g md ops t::ks) (ua f d (vi c)) H)(hx:x.val=iV a:=by rfl)(hy:y.val=iV b:=by rfl):G Tryz.prog fn Rr n M Φ R (.g md ops (.pu i t)::ks) f H:=by
 intro w hS hK;obtain⟨hK1,iC⟩:=bt.1 hK;have hn:=hn w hS (bt.2 ⟨hK1,iC⟩);show WF Tryz.prog ops (kq Tryz.prog fn Rr ks) md.va (o7 md ops) (vQ md ops) (.pu i t) n (cn f) w;unfold rmA at e;split at e
 ·rename_i o ho;split at e
  ·rename_i d' s' p q s2 hd hw hp;simp only[Option.some.injEq,Prod.mk.injEq]at e;obtain⟨rfl,rfl,rfl⟩:=e;exact ac0 hb hc ho hd (fF hw) (dU hK1).1 hp ((bC f p).symm.trans hx) ((bC f q).symm.trans hy) (by rw[show iV c=(vi c).val from rfl,←jK];exact hn)
  ·cases e
 ·cases e
end
end Rv
theorem Xt(X N:Nat)(u:Nv)(v:Wv)(F U:tF)(w:tA)(hw:NW w X N u v F U)(QX:u.tu<4)(hlen:v.fl.length≤1000000000000-4):cA 115 #[lp N] w fun x w'=>x= .returned (.tuple #[])∧∃u' v' F',Dn w X N u v F U (cS 4 u.pure v.pure) u' v' F' w':=by
 have hqs:∀q,q<4→aW (u.m q).g 41:=fun q hq=>(hw.st.now.1.mo q hq).one;refine en (H:=[nE X N u]) _ [vp 0 0 N] Tryz.func115 rfl rfl (hw.init (G:=fun w=>True) (fun _ _=>trivial)) (r [] rfl fun _=> ?_);refine iD (X:=Nat×Nat) ⟨fun x=>[(0,vp 0 0 N),(6,vi (x.1:Int))],fun x=>[nE X N {u with tu:=x.2}],fun _ b=>F b∨(U b∧b≠N),fun _ w=>(u.In w N∧∀r∈v.fl,oH w r)∧True,fun _=>RW X (fun b=>b∈[N]) F w v F,fun x=>x.1≤4∧x.2<4∧cS (4-x.1) ({u with tu:=x.2}:Nv).pure v.pure=cS 4 u.pure v.pure,fun x=>4-x.1⟩ (0,u.tu) ⟨rfl,rfl,trivial⟩ (fun w hS=>hS) ⟨Al _,QX,rfl⟩ ?_;rintro f ⟨k,t⟩ ⟨hk,ht,TN⟩;have hk:k≤4:=hk;have ht:t<4:=ht;have TN:cS (4-k) ({u with tu:=t}:Nv).pure v.pure=cS 4 u.pure v.pure:=TN;by_cases aN:k<4
 case neg=>
  obtain rfl:k=4:=by omega
  exact r [0] rfl fun _=>dt rfl fun w hS=>⟨rfl,({u with tu:=t}:Nv),v,F,Dn.fin (u:=u) hS hw.ub hw.nu (fun _ h=>⟨⟨h.1.1.row,h.1.1.mo,h.1.1.af,h.1.1.wl⟩,h.1.2⟩) ⟨hw.ok.ok,hw.ok.nil,hw.ok.cap,hw.ok.max,hw.ok.len,hw.ok.s0,hw.ok.s1,hw.ok.i5,hw.ok.Tq⟩ rfl rfl rfl rfl rfl (by rw[←TN];rfl) (by rw[←TN];rfl)⟩
 refine rz [1,1] [((t+1:Nat):Int)] rfl fun _=>rm (a:=((t+1:Nat):Int)) (b:=4) (((t+1) % 4:Nat):Int) rfl (by decide) (by obtain rfl|rfl|rfl|rfl:t=0∨t=1∨t=2∨t=3:=(by omega)<;>rfl) (r [] rfl fun _=>gn 0 (mC X {u with tu:=(t+1) % 4}) ?_)
 obtain⟨ls,els⟩:∃ls,ls=dQ u.pure t:=⟨_,rfl⟩;have own:∀w1,bh w1 N 123 206 (mC X {u with tu:=(t+1) % 4})→cA 147 #[lp N,iV (t:Int)] w1 fun x w'=>∃s,x= .returned s∧((ls=[]∧s= .slice none 0 0)∨∃R,0<ls.length∧s= .slice (some ⟨R,0,none⟩) ls.length ls.length∧w1.heap.size≤R∧wP w' R ls)∧bZ w1 w':=fun w1 hN=>by
  rw[els];exact TJ X N ({u with tu:=(t+1) % 4}:Nv) t ht w1 hN (hw.ok.ok t ht) (hqs t ht)
 by_cases h0:ls=[]
 ·refine Rv.cb rfl (vv (.slice none 0 0)) (fun w1 hS=>(own w1 (hS.at 0 rfl)).mono fun x w' ⟨s,h1,h2,b⟩=> ?_) (rz [0,1] [((k+1:Nat):Int)] rfl fun _=> ?_)
  ·rcases h2 with⟨_,rfl⟩|⟨_,h,_⟩
   ·exact⟨h1,b⟩
   ·rw[h0]at h;cases h
  ·exact bJ (k+1,(t+1) % 4) ⟨rfl,rfl,trivial⟩ (fun w hS=>hS) ⟨(show k+1≤4 by omega),Nat.mod_lt _ (by decide),(Xr aN (els▸h0)).symm.trans TN⟩ (show 4-(k+1)<4-k by omega)
 have ac1:0<ls.length:=List.length_pos_iff.2 h0;refine cx rfl (fun R:Nat=>vv (.slice (some ⟨R,0,none⟩) ls.length ls.length)) (fun _=>True) (fun R w=>wP w R ls) (fun w1 hS=>(own w1 (hS.at 0 rfl)).mono fun x w' ⟨s,h1,h2,b⟩=> ?_) fun R8 _=> ?_
 ·rcases h2 with⟨h,_⟩|⟨R,_,rfl,hR,dq⟩
  ·exact absurd h h0
  ·exact⟨R,h1,b,trivial,fun hU=>TL dq fun b hb e=>absurd (hU b hb) (by rw[e];exact Bb.2 hR)⟩
 refine r [1] rfl fun _=>iD (X:=Nat×Wv×(Nat→Prop)) ⟨fun x=>[(0,vp 0 0 N),(26,vv (.slice (some ⟨R8,0,none⟩) ls.length ls.length)),(27,vi (ls.length:Int)),(28,vi (x.1:Int))],fun x=>[nE X N {u with tu:=(t+1) % 4}],fun x b=>x.2.2 b∨(U b∧b≠N),fun x w=>(u.In w N∧∀r∈x.2.1.fl,oH w r)∧wP w R8 ls,fun x=>RW X (fun b=>b∈[N]) F w x.2.1 x.2.2,fun x=>x.1≤ls.length∧x.2.1.pure={v.pure with fl:=v.pure.fl++ls.take x.1}∧x.2.1.nd=v.nd∧x.2.1.tk=v.tk∧x.2.1.dd=v.dd∧x.2.1.fl.length=v.fl.length+x.1,fun x=>ls.length-x.1⟩ (0,v,F) ⟨rfl,rfl,rfl,rfl,trivial⟩ (fun w hS=>hS.said fun _ h=>⟨h.1.1,h.2⟩) ⟨Al _,by simp,rfl,rfl,rfl,rfl⟩ ?_;rintro f ⟨j,v2,F2⟩ ⟨hj,hv2,e3,e4,e5,wI⟩;have hj:j≤ls.length:=hj;have wI:v2.fl.length=v.fl.length+j:=wI;have ahF:ls.length≤2:=els▸Xq _ _;by_cases VO:j<ls.length
 case neg=>
  obtain rfl:j=ls.length:=by omega
  have hpp:=(TM (v:=v) aN (els▸ac1) els).symm.trans TN;exact r [0] rfl fun _=>fin fun w hS=>⟨rfl,({u with tu:=((t+1) % 4)}:Nv),v2,F2,Dn.fin (u:=u) hS hw.ub hw.nu (fun _ h=>⟨⟨h.1.1.row,h.1.1.mo,h.1.1.af,h.1.1.wl⟩,h.1.2⟩) ⟨hw.ok.ok,hw.ok.nil,hw.ok.cap,hw.ok.max,hw.ok.len,hw.ok.s0,hw.ok.s1,hw.ok.i5,hw.ok.Tq⟩ rfl rfl e3 e4 e5 (by rw[←hpp]) (by rw[←hpp];exact hv2.trans (by rw[BC]))⟩
 obtain⟨l2,Wh⟩:∃l2,ls[j]? =some l2:=⟨ls[j],Ai VO⟩;have hs2:l2.es=[]:=aay _ _ l2 (els▸Ar Wh);refine r [1] rfl fun _=>lf (q:=0+j*21) rfl 21 (lF (Nn l2 none 0)) (fun w hS i hi=>by rw[Aj];exact hS.now.1.2.cell j l2 Wh i hi) (r [1] rfl fun β=> ?_);refine cw rfl (vt []) _ _ (fun w hS=>rM X v2 F2 _ w l2 none 0 (lF (Nn l2 none 0)) rfl hS.now.2.wo hS.ult (fun b h=> .inr (.inl h)) (fun _ _=>by rw[hs2];exact RowK.nil _ _ _) (by rw[hs2];exact Ac _) (fun _=>rfl) (by omega)) fun P1 F1=> ?_;refine rz [1] [((j+1:Nat):Int)] rfl fun _=>bJ (j+1,_,F1) ⟨rfl,rfl,rfl,rfl,trivial⟩ (fun w hS=>(hS.take 1).said fun _ h=>⟨⟨h.1.1.1,gf h.1.1.2 h.2⟩,h.1.2⟩) ⟨(show j+1≤ls.length by omega), ?_,e3,e4,e5, ?_⟩ (show ls.length-(j+1)<ls.length-j by omega)
 ·show({v2 with fl:=v2.fl++[⟨P1,l2,none,0⟩]}:Wv).pure={v.pure with fl:=v.pure.fl++ls.take (j+1)};rw[kG,show v2.pure=_ from hv2,oO Wh];simp only[e_,List.append_assoc]
 ·show(v2.fl++[_]).length=v.fl.length+(j+1);rw[Ag,wI];rfl
end
theorem ac2{hd tl:tM}{mo:tT}{hn he:tH}{wt af v:tK}{tu:Int}(i:Nat):oX (kW hd (gj mo hn he wt af tu) tl) 201 v i=kW hd (gj mo hn he v af tu) tl i:=by
 by_cases hi:i=201
 ·subst hi;rfl
 ·rw[qh _ _ _ _ hi];unfold kW;by_cases h5:i<5
  ·rw[Ae h5,Ae h5]
  ·rw[Aa h5,Aa h5];by_cases h6:i<204
   ·rw[Ae h6,Ae h6];unfold gj;by_cases h7:i-5<188
    ·rw[Ae h7,Ae h7]
    ·rw[Aa h7,Aa h7];by_cases h8:i-5<196
     ·rw[Ae h8,Ae h8]
     ·rw[Aa h8,Aa h8];obtain rfl|rfl:i=202∨i=203:=by omega
      ·rfl
      ·rfl
   ·rw[Aa h6,Aa h6]
structure fC(w:tA)(B:Nat)(s:tK)(ls:List Lr):Prop where
 ex:∃a c,s= .slice a ls.length c∧ls.length≤c∧c≤maxLen∧((a=none∧c=0)∨∃o n f,a=some ⟨B,o,none⟩∧bh w B 148 n f∧o+c≤n∧∀k r,ls[k]? =some r→f (o+k)=lp r.p)
theorem fC.nil{w:tA}{B:Nat}{s:tK}(h:fC w B s []):∃a c,s= .slice a 0 c:=by
 obtain⟨a,c,h,_⟩:=h.ex;exact⟨a,c,h⟩
theorem fC.cons{w:tA}{B:Nat}{s:tK}{r:Lr}{ls:List Lr}(h:fC w B s (r::ls)):∃o c,s= .slice (some ⟨B,o,none⟩) (ls.length+1) c∧ls.length+1≤c:=by
 obtain⟨a,c,h,hc,_,⟨rfl,rfl⟩|⟨o,n,f,rfl,_⟩⟩:=h.ex
 ·simp at hc
 ·exact⟨o,c,h,hc⟩
theorem fC.head{w:tA}{b o c:Nat}{r:Lr}{ls:List Lr}(h:fC w b (.slice (some ⟨b,o,none⟩) (ls.length+1) c) (r::ls)):w.cell? ⟨b,o,none⟩=some (lp r.p):=by
 obtain⟨a,c',he,hc,_,⟨rfl,rfl⟩|⟨o',n,f,rfl,fb,hn,hk⟩⟩:=h.ex
 ·simp at hc
 ·cases he;rw[←hk 0 r rfl];exact fb.at o (by simp at hc;omega)
theorem fC.tail{w:tA}{b o c:Nat}{r:Lr}{ls:List Lr}(h:fC w b (.slice (some ⟨b,o,none⟩) (ls.length+1) c) (r::ls)):fC w b (.slice (gO (some ⟨b,o,none⟩) 1 1 c) (ls.length+1-1) (c-1)) ls:=by
 obtain⟨a,c',he,hc,hm,⟨rfl,rfl⟩|⟨o',n,f,rfl,fb,hn,hk⟩⟩:=h.ex
 ·simp at hc
 ·cases he;simp only[List.length_cons]at hc;refine⟨gO (some ⟨b,o,none⟩) 1 1 c,c-1,rfl,by omega,by omega,.inr ?_⟩;by_cases h1:1<c
  ·refine⟨o+1,n,f, ?_,fb,by omega,fun k r' hr=>by rw[show o+1+k=o+(k+1) by omega];exact hk (k+1) r' (by simpa using hr)⟩;unfold gO;rw[Aa (by omega)];simp[Addr.add_mid]
  ·have Gv:ls=[]:=AU.1 (by omega);refine⟨o,n,f, ?_,fb,by omega,fun k r' hr=>by rw[Gv]at hr;simp at hr⟩;unfold gO;rw[Ae (by omega)]
def Js(k:Int):Option Nat:=if k=0 then some 57 else if k=2 then some 58 else if k=3 then some 59 else if k=4 then some 60 else if k=7 then some 61 else none
def x_(w:tA)(dd:tK):Prop:=∀k g,Js k=some g→(Instr.lookup 96 dd (iV k) false).run Tryz.prog w= .ok (.func (.func g) #[] #[]) w
structure eY(l:Lt):Prop where
 q:l.q<4
 kd:l.kd=0∨l.kd=2∨l.kd=3∨l.kd=4∨l.kd=7
 op:∀x∈bf l.op,(Lit.int .i64 x).wf=true
 es:l.es.length≤2000
noncomputable def bm(n:Nd)(s:Ws)(l:Lt):Nd×Ws:=
 if l.kd=0 then gD n s l else if l.kd=2 then gE n s l else if l.kd=3 then fj n s l else if l.kd=4 then takeN n s l else gF n s l
noncomputable def cJ:Nat→Nd→Ws→Nd×Ws
 |0,n,s=>cS 4 n s
 |k+1,n,s=>match n.wt with
  |[]=>cS 4 n s
  |l::ls=>if(bm {n with wt:=ls} s l).1.af.isSome then bm {n with wt:=ls} s l else cJ k (bm {n with wt:=ls} s l).1 (bm {n with wt:=ls} s l).2
def TO(g:Nat)(l:Lt):Prop:=Rv.iS Tryz.prog g=true∧∀(X N:Nat) (u:Nv) (v:Wv) (F U:tF) (w:tA) (P:Nat) (a:tB) (c:Nat),NW w X N u v F U→cm U w (fun w=>eN w P l a c)→v.fl.length≤1000000000000→v.sv.length≤1000000000000→cA g #[lp N,lp P] w fun x w'=>x= .returned (.tuple #[])∧∃u' v' F',Dn w X N u v F U (bm u.pure v.pure l) u' v' F' w'
section
variable{w w':tA}{X N:Nat}{u u':Nv}{v v':Wv}{F F' U:tF}{H':List bX}{G:tJ}
theorem NW.fin(hS:Mem w' (⟨N,123,206,mC X u'⟩::H') (fun b=>F' b∨(U b∧b≠N)) G (RW X (fun b=>b∈[N]) F w v' F'))(hU:∀b,U b→b<w.heap.size)(hUN:U N)(J_:∀w,G w→u'.In w N∧∀r∈v'.fl,oH w r)(ok:u'.Ok):NW w' X N u' v' F' (fun b=>U b∨F' b)∧Mv (fun b=>F b∨b=N) w (fun b=>F' b∨b=N) w'∧cm (fun b=>U b∨F' b) w' G:=by
 have hr:=hS.now.2;have hs:∀b,(U b∨F' b)→b∈(⟨N,123,206,mC X u'⟩::H':List bX).map bX.a∨F' b∨(U b∧b≠N):=fun b hb=>by
  rcases hb with hb|hb
  ·by_cases e:b=N
   ·exact .inl (e▸Aq ..)
   ·exact .inr (.inr ⟨hb,e⟩)
  ·exact .inr (.inl hb)
 exact⟨⟨hS.at 0 rfl,hr.wo,fun hf=>hS.off _ (Aq ..) (.inl hf),fun b hb=>hb.elim (fun h=>Am (hU b h) hr.mv.c.size) (hr.wo.lt b),fun b hb=> .inr hb,.inl hUN,ok,fun w2 c2=>J_ w2 (hS.g w2 (c2.mono hs))⟩,hr.mv.less (fun b hb=>hb.imp id Ab.1) (fun b hb=> .inl (hb.imp id Ab.2)),fun w2 c2=>hS.g w2 (c2.mono hs)⟩
end
theorem cm.fn{F F':tF}{N:Nat}{w w':tA}{φ:tJ}(h:cm (fun b=>F b∨b=N) w φ)(m:Mv (fun b=>F b∨b=N) w (fun b=>F' b∨b=N) w'):cm (fun b=>F' b∨b=N) w' φ:=(h.mv m (fun _ h=>h)).mono fun _ _ h=> .inr h
structure Wk(w:tA)(X N wb:Nat)(v:Wv)(F U:tF)(r:Nd×Ws)(u':Nv)(v':Wv)(F':tF)(w':tA):Prop where
 nw:NW w' X N u' v' F' (fun b=>U b∨F' b)
 mv:Mv (fun b=>F b∨b=N) w (fun b=>F' b∨b=N) w'
 nd:v'.nd=v.nd
 tk:v'.tk=v.tk
 dd:v'.dd=v.dd
 n:u'.pure=r.1
 s:v'.pure=r.2
 wr:cm (fun b=>F' b∨b=N) w' fun w=>fC w wb u'.wt u'.wl∧x_ w v'.dd
theorem Wk.next{w w1 w2:tA}{X N wb:Nat}{v v':Wv}{F F' U:tF}{r:Nd×Ws}{u':Nv}(h:Wk w X N wb v F U r u' v' F' w1)(b:bZ w1 w2):Wk w X N wb v F U r u' v' F' w2:=⟨h.nw.next b,h.mv.next b,h.nd,h.tk,h.dd,h.n,h.s,h.wr.next b⟩
theorem TP{w:tA}{N:Nat}{u:Nv}(h:u.In w N)(hx:u.ax=none):u.af= .nilFunc:=by
 have:=h.af;rw[hx]at this;exact this
theorem Nu{w:tA}{N:Nat}{u:Nv}{x:Af}(h:u.In w N)(hx:u.ax=some x):∃g a b,u.af= .func g a b:=by
 have:=h.af;rw[hx]at this;cases x with
 |serve l an=>exact⟨_,_,_,this.1⟩
 |begin l B=>exact⟨_,_,_,this.1⟩
 |shut l B=>exact⟨_,_,_,this.1⟩
 |take l B=>exact⟨_,_,_,this.1⟩
 |fA q B=>exact⟨_,_,_,this.1⟩
theorem ac3{n n':Nd}{a:Af}{rs:List Rec}(h:lC n a rs=some n'):n'.tu=n.tu∧n'.wt=n.wt:=by
 unfold lC at h;split at h
 ·cases h;exact⟨rfl,rfl⟩
 ·cases h
theorem yE(n:Nd)(a:Af)(rs:List Rec):((lC n a rs).getD n).tu=n.tu∧((lC n a rs).getD n).wt=n.wt:=by
 unfold lC;split<;>exact⟨rfl,rfl⟩
theorem Nw(n:Nd)(l:Lt):(cV n l).tu=n.tu∧(cV n l).wt=n.wt:=by
 unfold cV;split<;>exact⟨rfl,rfl⟩
theorem ie(n:Nd)(s:Ws)(l:Lt):((bm n s l).1.tu=n.tu∧(bm n s l).1.wt=n.wt)∧(bm n s l).2.fl.length≤s.fl.length+1∧(bm n s l).2.sv.length≤s.sv.length+1:=by
 have hs:∀(s:Ws) (x:Lt),(e_ s x).fl.length≤s.fl.length+1∧(e_ s x).sv.length≤s.sv.length+1:=fun s x=>⟨by simp[e_],by simp[e_]⟩;have ha:∀(x:An),(dN n s l x).fl.length≤s.fl.length+1∧(dN n s l x).sv.length≤s.sv.length+1:=fun x=>⟨by simp[dN,e_,qC],by simp[dN,e_,qC]⟩;have h0:s.fl.length≤s.fl.length+1∧s.sv.length≤s.sv.length+1:=⟨by omega,by omega⟩;unfold bm;split
 ·unfold gD;split
  ·exact⟨⟨rfl,rfl⟩,hs _ _⟩
  ·split
   ·exact⟨⟨rfl,rfl⟩,ha _⟩
   ·split
    ·rename_i n' hn;exact⟨ac3 hn,h0⟩
    ·exact⟨⟨rfl,rfl⟩,ha _⟩
 ·split
  ·unfold gE;split
   ·exact⟨⟨rfl,rfl⟩,h0⟩
   ·split
    ·exact⟨⟨rfl,rfl⟩,hs _ _⟩
    ·exact⟨yE _ _ _,h0⟩
  ·split
   ·unfold fj;split
    ·exact⟨⟨rfl,rfl⟩,h0⟩
    ·split
     ·exact⟨⟨rfl,rfl⟩,h0⟩
     ·split
      ·refine⟨⟨rfl,rfl⟩, ?_⟩;unfold iE;split
       ·exact hs _ _
       ·exact h0
      ·exact⟨yE _ _ _,h0⟩
   ·split
    ·unfold takeN;split
     ·exact⟨⟨rfl,rfl⟩,h0⟩
     ·split
      ·exact⟨⟨rfl,rfl⟩,h0⟩
      ·exact⟨yE _ _ _,h0⟩
    ·unfold gF;split
     ·have h1:=yE (cV n l) (.fA l.q (bp (n.mo l.q) l.pe).1) [⟨7,l.q,(bp (n.mo l.q) l.pe).1.e,0,mB⟩];have h2:=Nw n l;exact⟨⟨h1.1.trans h2.1,h1.2.trans h2.2⟩,h0⟩
     ·exact⟨Nw n l,h0⟩
theorem Jt{n:Nd}{s:Ws}{k:Nat}(h:n.wt=[]):cJ k n s=cS 4 n s:=by
 cases k with
 |zero=>rfl
 |succ k=>
  unfold cJ;rw[h]
theorem TQ{n:Nd}{s:Ws}{k:Nat}{l:Lt}{ls:List Lt}(h:n.wt=l::ls)(hx:(bm {n with wt:=ls} s l).1.af.isSome=true):cJ (k+1) n s=bm {n with wt:=ls} s l:=by
 rw[cJ,h];simp only[hx,if_true]
theorem Xu{n:Nd}{s:Ws}{k:Nat}{l:Lt}{ls:List Lt}(h:n.wt=l::ls)(hx:(bm {n with wt:=ls} s l).1.af.isSome=false):cJ (k+1) n s=cJ k (bm {n with wt:=ls} s l).1 (bm {n with wt:=ls} s l).2:=by
 rw[cJ,h];simp only[hx,Bool.false_eq_true,if_false]
section
open Rv
theorem Xv(X N wb:Nat)(u0:Nv)(v0:Wv)(F0 U0:tF)(w0:tA)(hw0:NW w0 X N u0 v0 F0 U0)(Ke:u0.ax=none)(QX:u0.tu<4)(Ha:cm (fun b=>F0 b∨b=N) w0 fun w=>fC w wb u0.wt u0.wl∧x_ w v0.dd)(fw:∀r∈u0.wl,eY r.l)(Ki:∀l,eY l→∃g,Js l.kd=some g∧TO g l)(xK:v0.fl.length+u0.wl.length+8≤1000000000000∧v0.sv.length+u0.wl.length≤1000000000000):cA 72 #[lp N] w0 fun x w'=>x= .returned (.tuple #[])∧∃u' v' F',Wk w0 X N wb v0 F0 U0 (cJ u0.wl.length u0.pure v0.pure) u' v' F' w':=by
 refine en (H:=[]) 50 [vv (lp N)] Tryz.func72 rfl rfl (m0 w0) (r [] rfl fun _=> ?_);refine iD (X:=Nv×Wv×(Nat→Prop)) ⟨fun _=>[(0,vv (lp N))],fun _=>[],fun _ _=>False,fun _ _=>True,fun x y=>NW y X N x.1 x.2.1 x.2.2 (fun b=>U0 b∨x.2.2 b)∧Mv (fun b=>F0 b∨b=N) w0 (fun b=>x.2.2 b∨b=N) y∧cm (fun b=>x.2.2 b∨b=N) y (fun w=>fC w wb x.1.wt x.1.wl∧x_ w x.2.1.dd),fun x=>(x.2.1.nd=v0.nd∧x.2.1.tk=v0.tk∧x.2.1.dd=v0.dd)∧x.1.ax=none∧x.1.tu<4∧(∀r∈x.1.wl,eY r.l)∧(x.2.1.fl.length+x.1.wl.length+8≤1000000000000∧x.2.1.sv.length+x.1.wl.length≤1000000000000)∧cJ x.1.wl.length x.1.pure x.2.1.pure=cJ u0.wl.length u0.pure v0.pure,fun x=>x.1.wl.length⟩ (u0,v0,F0) ⟨rfl,trivial⟩ (fun w hS=>hS.sr fun w b=>⟨(hw0.next b).less (fun b h=>h.elim id (hw0.fu b)) (fun b h=> .inr h) (.inl hw0.nu),Mv.of (fun b h=>h.elim (hw0.wo.lt b) (fun e=>e▸hw0.nb.lt)) b,Ha.next b⟩) ⟨⟨rfl,rfl,rfl⟩,Ke,QX,fw,xK,rfl⟩ ?_;rintro f ⟨u,v,F⟩ ⟨mJ,Ke,QX,fw,xK,PW⟩;have Ke:u.ax=none:=Ke;have QX:u.tu<4:=QX;have fw:∀r∈u.wl,eY r.l:=fw;have xK:v.fl.length+u.wl.length+8≤1000000000000∧v.sv.length+u.wl.length≤1000000000000:=xK;have PW:cJ u.wl.length u.pure v.pure=cJ u0.wl.length u0.pure v0.pure:=PW;refine VP fun w1 yu=> ?_;have uR:fC w1 wb u.wt u.wl:=yu.now.2.2.2.now.1;rcases pZ:u.wl with _|⟨r1,ls⟩
 ·obtain⟨wa,wc,kh⟩:=(pZ▸uR:fC w1 wb u.wt []).nil;refine r [] rfl fun _=>l1 rfl (.slice wa 0 wc) (fun w hS=>(hS.now.2.1.nb.at 201 (cR rfl)).trans (AB some kh)) (r [0] rfl fun _=> ?_);refine ct (Y:=Nv×Wv×(Nat→Prop)) rfl (vt []) (fun y w'=>Wk w0 X N wb v0 F0 U0 (cJ u0.wl.length u0.pure v0.pure) y.1 y.2.1 y.2.2 w') (fun w hS=>(Xt X N u v F _ w hS.now.2.1 QX (by omega)).mono fun _ w' ⟨h1,u2,v2,F2,hd⟩=>⟨h1,(u2,v2,F2), ?_⟩) (fun _ _ _ h b=>h.next b) fun y=>r [] rfl fun _=>dt rfl fun _ hS=>⟨rfl,y.1,y.2.1,y.2.2,hS.now.2⟩
  exact⟨hd.nw.less (fun b h=>h.elim (fun h=> .inl (.inl h)) .inr) (fun b h=> .inr h) (hd.nw.nu.elim (fun h=>h.elim .inl fun h=>absurd h hS.now.2.1.nf) (fun h=>absurd h hd.nw.nf)),hS.now.2.2.1.trans hd.mv,hd.nd.trans mJ.1,hd.tk.trans mJ.2.1,hd.dd.trans mJ.2.2,by rw[hd.n,←PW,Jt (show u.wl.map Lr.l=[] by rw[pZ];rfl)],by rw[hd.s,←PW,Jt (show u.wl.map Lr.l=[] by rw[pZ];rfl)],fun w2 c2=>by
   have h:=(hS.now.2.2.2.fn hd.mv) w2 c2;rw[hd.wt,hd.wl,hd.dd]
   exact h⟩
 ·obtain⟨wo,wc,kh,hwc⟩:=(pZ▸uR:fC w1 wb u.wt (r1::ls)).cons;have st1:∀{w},cm (fun b=>F b∨b=N) w (fun w=>fC w wb u.wt u.wl∧x_ w v.dd)→cm (fun b=>F b∨b=N) w (fun w=>fC w wb (.slice (some ⟨wb,wo,none⟩) (ls.length+1) wc) (r1::ls)∧x_ w v.dd):=fun h w2 c2=>by have:=h w2 c2;rw[pZ,kh]at this;exact this
  have lw:∀{w} {U:tF},NW w X N u v F U→w.cell? ⟨N,201,none⟩=some (.slice (some ⟨wb,wo,none⟩) (ls.length+1) wc):=fun h=>(h.nb.at 201 (cR rfl)).trans (AB some kh);have af4:=fw r1 (pZ▸Aq ..);obtain⟨g,hg,hdg⟩:=Ki r1.l af4;refine r [] rfl fun _=>l1 rfl _ (fun w hS=>lw hS.now.2.1) (r [1] rfl fun _=>l1 rfl _ (fun w hS=>lw hS.now.2.1) (r [1] rfl fun _=>l1 (q:=wo) rfl (lp r1.p) (fun w hS=>(st1 hS.now.2.2.2).now.1.head) (r [] rfl fun _=>l1 rfl _ (fun w hS=>lw hS.now.2.1) (r [] rfl fun _=>Zw fun w1 yu=>⟨[nE X N u],_,_,_,yu.now.2.1.init (G:=fun _=>True) (fun _ _=>trivial), ?_⟩))));obtain⟨u3,e3⟩:∃u3:Nv,u3={u with wt:= .slice (gO (some ⟨wb,wo,none⟩) 1 1 wc) (ls.length+1-1) (wc-1),wl:=ls}:=⟨_,rfl⟩;have hw:=yu.now.2.1;have mv:=yu.now.2.2.1;have gV:=st1 yu.now.2.2.2;have hm:r1∈u.wl:=pZ▸Aq ..;refine so1 rfl 0 rfl (mC X u3) (show 201<206 by decide) (fun i=>by rw[e3];exact ac2 i) (r [1] rfl fun _=>l1 rfl (lp X) (fun w hS=>(hS.at 0 rfl).at 0 (cR rfl)) (r [] rfl fun _=>l1 rfl v.dd (fun w hS=>hS.now.2.wo.dd_) (r [] rfl fun _=>l1 rfl (iV r1.l.kd) (fun w hS=>(hS.now.1.1.1.wl r1 hm).b.at 0 (cR rfl)) (r [] rfl fun _=>lk (vv (.func (.func g) #[] #[])) rfl (fun w hS=>(gV w (hS.now.2.mv.c.mono fun b h=>h.imp id Ab.1)).2 r1.l.kd g hg) (r [] rfl fun _=> ?_)))));refine ct (Y:=Nv×Wv×(Nat→Prop)) rfl (vt []) (fun y w3=>NW w3 X N y.1 y.2.1 y.2.2 (fun b=>U0 b∨y.2.2 b)∧Mv (fun b=>F0 b∨b=N) w0 (fun b=>y.2.2 b∨b=N) w3∧cm (fun b=>y.2.2 b∨b=N) w3 (fun w=>fC w wb y.1.wt y.1.wl∧x_ w y.2.1.dd)∧(y.2.1.nd=v.nd∧y.2.1.tk=v.tk∧y.2.1.dd=v.dd)∧y.1.wt=u3.wt∧y.1.wl=ls∧y.1.pure=(bm u3.pure v.pure r1.l).1∧y.2.1.pure=(bm u3.pure v.pure r1.l).2) (fun w hS=> ?_) (fun _ _ _ ⟨h1,h2,h3,h4⟩ b=>⟨h1.next b,h2.next b,h3.next b,h4⟩) (fun y=> ?_) rfl hdg.1
  ·have Jc:=NW.fin (u':=u3) hS hw.ub hw.nu (fun _ h=>⟨by rw[e3];exact⟨h.1.1.row,h.1.1.mo,h.1.1.af,fun x hx=>h.1.1.wl x (pZ▸Az _ hx)⟩,h.1.2⟩) (by rw[e3];exact⟨hw.ok.ok,hw.ok.nil,hw.ok.cap,hw.ok.max,hw.ok.len,hw.ok.s0,hw.ok.s1,hw.ok.i5,hw.ok.Tq⟩);refine(hdg.2 X N u3 v F _ _ r1.p r1.a r1.c Jc.1 (fun w2 c2=>(Jc.2.2 w2 c2).1.1.wl r1 hm) (by omega) (by omega)).mono fun _ w3 ⟨h1,u4,v4,F4,hd⟩=>⟨h1,(u4,v4,F4),hd.nw.less (fun b h=>h.elim (fun h=> .inl (.inl (.inl h))) .inr) (fun b h=> .inr h) (hd.nw.nu.elim (fun h=>h.elim (fun h=>h.elim .inl fun h=>absurd h hw.nf) (fun h=>absurd h Jc.1.nf)) (fun h=>absurd h hd.nw.nf)),mv.trans (Jc.2.1.trans hd.mv),fun w2 c2=> ?_,⟨hd.nd,hd.tk,hd.dd⟩,hd.wt,hd.wl.trans (by rw[e3]),hd.n,hd.s⟩;have h:=(gV.fn (Jc.2.1.trans hd.mv)) w2 c2;show fC w2 wb u4.wt u4.wl∧x_ w2 v4.dd;rw[hd.wt,hd.wl,hd.dd,e3];exact⟨h.1.tail,h.2⟩
  obtain⟨u4,v4,F4⟩:=y;refine VP fun w4 hS4=> ?_;obtain⟨hw4,mv4,hst4,hc4,hwt4,Xw,Xx,YG⟩:=hS4.now.2;have Xx:u4.pure=(bm u3.pure v.pure r1.l).1:=Xx;have YG:v4.pure=(bm u3.pure v.pure r1.l).2:=YG;have Xw:u4.wl=ls:=Xw;have hpw:u.wl.map Lr.l=r1.l::ls.map Lr.l:=by rw[pZ];rfl
  have TR:bm u3.pure v.pure r1.l=bm {u.pure with wt:=ls.map Lr.l} v.pure r1.l:=by rw[e3]
  have QY:=ie u3.pure v.pure r1.l;have Wh:u.wl.length=ls.length+1:=by rw[pZ];rfl
  have la:∀{w} {z:tK},u4.af=z→NW w X N u4 v4 F4 (fun b=>U0 b∨F4 b)→w.cell? ⟨N,202,none⟩=some z:=fun e h=>(h.nb.at 202 (cR rfl)).trans (AB some e);rcases hx4:u4.ax with _|x4
  ·refine r [] rfl fun _=>l1 rfl .nilFunc (fun w hS=>la (TP hw4.st.now.1 hx4) hS.now.2.1) (r [] rfl fun _=> ?_);have af5:u4.tu=u.tu:=((AB Nd.tu Xx).trans QY.1.1).trans (by rw[e3]);have ai1:v4.fl.length≤v.fl.length+1:=by have h1:=AB (fun s:Ws=>s.fl.length) YG;have h2:=QY.2.1;simp only[List.length_map]at h1 h2;omega
   have ai2:v4.sv.length≤v.sv.length+1:=by have h1:=AB (fun s:Ws=>s.sv.length) YG;have h2:=QY.2.2;simp only at h1 h2;omega
   have Xy:u4.wl.length=ls.length:=by rw[Xw]
   exact bJ (u4,v4,F4) ⟨rfl,trivial⟩ (fun w hS=>hS.sr fun _ h=>⟨h.1,h.2.1,h.2.2.1⟩) ⟨⟨hc4.1.trans mJ.1,hc4.2.1.trans mJ.2.1,hc4.2.2.trans mJ.2.2⟩,hx4,by rw[af5];exact QX,fun r' hr'=>fw r' (by rw[pZ];exact Az _ (Xw▸hr')),⟨by show v4.fl.length+u4.wl.length+8≤_;omega,by show v4.sv.length+u4.wl.length≤_;omega⟩,by rw[Xy,Xx,YG,TR,←Xu (n:=u.pure) (s:=v.pure) (k:=ls.length) (l:=r1.l) hpw (by rw[←TR,←Xx];show u4.ax.isSome=false;rw[hx4];rfl),←PW,Wh]⟩ (by show u4.wl.length<u.wl.length;omega)
  ·obtain⟨g4,a4,b4,haf4⟩:=Nu hw4.st.now.1 hx4;have hwe:=TQ (n:=u.pure) (s:=v.pure) (k:=ls.length) (l:=r1.l) hpw (by rw[←TR,←Xx];show u4.ax.isSome=true;rw[hx4];rfl);exact r [] rfl fun _=>l1 rfl (.func g4 a4 b4) (fun w hS=>la haf4 hS.now.2.1) (r [] rfl fun _=>fin fun w hS=>⟨rfl,u4,v4,F4,hS.now.2.1,hS.now.2.2.1,hc4.1.trans mJ.1,hc4.2.1.trans mJ.2.1,hc4.2.2.trans mJ.2.2,by rw[Xx,←PW,Wh,hwe,TR],by rw[YG,←PW,Wh,hwe,TR],hS.now.2.2.2.1⟩)
noncomputable def eB(n:Nd)(s:Ws):Nd×Ws:=if n.up=false then(n,s)else match n.af with
 |some x=>fm {n with sy:=n.dl.length,af:=none} s x
 |none=>cJ n.wt.length n s
theorem jB{n:Nd}{s:Ws}(h:n.up=false):eB n s=(n,s):=Ae h
theorem jC{n:Nd}{s:Ws}{x:Af}(h:n.up=true)(hx:n.af=some x):eB n s=fm {n with sy:=n.dl.length,af:=none} s x:=by
 unfold eB;rw[Aa (by rw[h];decide),hx]
theorem jD{n:Nd}{s:Ws}(h:n.up=true)(hx:n.af=none):eB n s=cJ n.wt.length n s:=by
 unfold eB;rw[Aa (by rw[h];decide),hx]
theorem Xz(wb:Nat)(X N:Nat)(u:Nv)(v:Wv)(F U:tF)(w:tA)(hw:NW w X N u v F U)(QX:u.tu<4)(Ha:cm (fun b=>F b∨b=N) w fun w=>fC w wb u.wt u.wl∧x_ w v.dd)(fw:∀r∈u.wl,eY r.l)(Ki:∀l,eY l→∃g,Js l.kd=some g∧TO g l)(xK:v.fl.length+u.wl.length+8≤1000000000000∧v.sv.length+u.wl.length≤1000000000000):cA 46 #[lp N] w fun x w'=>x= .returned (.tuple #[])∧∃u' v' F',Wk w X N wb v F U (eB u.pure v.pure) u' v' F' w':=by
 have aN:∀b,(F b∨b=N)→b<w.heap.size:=fun b h=>h.elim (hw.wo.lt b) (fun e=>e▸hw.nb.lt);have lu:∀{w1:tA} {z:Bool},u.ub=z→bZ w w1→w1.cell? ⟨N,2,none⟩=some (.bool z):=fun e b=>((hw.next b).nb.at 2 (cR rfl)).trans (AB (fun z=>some (Value.bool z)) e);have la:∀{w1:tA} {z:tK},u.af=z→bZ w w1→w1.cell? ⟨N,202,none⟩=some z:=fun e b=>((hw.next b).nb.at 202 (cR rfl)).trans (AB some e);refine en (H:=[]) 19 [vv (lp N)] Tryz.func46 rfl rfl (m0 w) (r [] rfl fun _=> ?_);rcases mV:u.ub with _|_
 ·exact l1 rfl (.bool false) (fun w1 hS=>lu mV hS.now.2) (r [] rfl fun _=>dt rfl fun w1 hS=>⟨rfl,u,v,F,⟨(hw.next hS.now.2).less (fun b h=>h.elim id (hw.fu b)) (fun b h=> .inr h) (.inl hw.nu),Mv.of aN hS.now.2,rfl,rfl,rfl,by rw[jB (n:=u.pure) mV],by rw[jB (n:=u.pure) mV],Ha.next hS.now.2⟩⟩)
 rcases Ke:u.ax with _|x4
 ·refine l1 rfl (.bool true) (fun w1 hS=>lu mV hS.now.2) (r [] rfl fun _=>l1 rfl .nilFunc (fun w1 hS=>la (TP hw.st.now.1 Ke) hS.now.2) (r [] rfl fun _=> ?_));exact ct (Y:=Nv×Wv×(Nat→Prop)) rfl (vt []) (fun y w'=>Wk w X N wb v F U (eB u.pure v.pure) y.1 y.2.1 y.2.2 w') (fun w1 hS=>(Xv X N wb u v F U w1 (hw.next hS.now.2) Ke QX (Ha.next hS.now.2) fw Ki xK).mono fun _ _ ⟨h1,u2,v2,F2,hd⟩=>⟨h1,(u2,v2,F2),hd.nw,(Mv.of aN hS.now.2).trans hd.mv,hd.nd,hd.tk,hd.dd,by rw[hd.n,jD (n:=u.pure) mV Ke,AW],by rw[hd.s,jD (n:=u.pure) mV Ke,AW],hd.wr⟩) (fun _ _ _ h b=>h.next b) fun y=>r [] rfl fun _=>dt rfl fun _ hS=>⟨rfl,y.1,y.2.1,y.2.2,hS.now.2⟩
 ·obtain⟨g4,a4,b4,haf4⟩:=Nu hw.st.now.1 Ke;refine l1 rfl (.bool true) (fun w1 hS=>lu mV hS.now.2) (r [] rfl fun _=>l1 rfl (.func g4 a4 b4) (fun w1 hS=>la haf4 hS.now.2) (r [] rfl fun _=> ?_));refine ct (Y:=Nv×Wv×(Nat→Prop)) rfl (vt []) (fun y w'=>Wk w X N wb v F U (eB u.pure v.pure) y.1 y.2.1 y.2.2 w') (fun w1 hS=>(Xm X N u v F U w1 (hw.next hS.now.2) x4 Ke (by omega) (by omega)).mono fun _ _ ⟨h1,u2,v2,F2,hd⟩=>⟨h1,(u2,v2,F2),hd.nw,(Mv.of aN hS.now.2).trans hd.mv,hd.nd,hd.tk,hd.dd,by rw[hd.n,jC (n:=u.pure) mV Ke],by rw[hd.s,jC (n:=u.pure) mV Ke],fun w2 c2=> ?_⟩) (fun _ _ _ h b=>h.next b) fun y=>r [] rfl fun _=>dt rfl fun _ hS=>⟨rfl,y.1,y.2.1,y.2.2,hS.now.2⟩;have h:=((Ha.next hS.now.2).fn hd.mv) w2 c2;show fC w2 wb u2.wt u2.wl∧x_ w2 v2.dd;rw[hd.wt,hd.wl,hd.dd];exact h
theorem af6{u v:Ev}(h:∀j,j<6→(bf u).getD j 0=(bf v).getD j 0):u=v:=by
 have h0:=h 0 (by omega);have h1:=h 1 (by omega);have h2:=h 2 (by omega);have h3:=h 3 (by omega);have h4:=h 4 (by omega);have h5:=h 5 (by omega);cases u;cases v;simp[bf]at h0 h1 h2 h3 h4 h5;simp[h0,h1,h2,h3,h4,h5]
theorem TS{A B:List Ev}{k:Nat}(ha:k<A.length)(hb:k<B.length)(h:pq (au A) (au B) k):A[k]=B[k]:=
 af6 fun j hj=>by rw[←mr A k ha j hj,←mr B k hb j hj];exact h j hj
theorem TT{H C:List Ev}{n:Nat}(h:mK (au H) (au C) H.length C.length n):C.take H.length=H.take C.length↔min H.length C.length≤n:=by
 constructor
 ·intro e;refine h.least (k:=min H.length C.length) ?_ (Nat.min_le_left _ _) (Nat.min_le_right _ _);have e2:H.take (min H.length C.length)=C.take (min H.length C.length):=by
   rcases Nat.le_total H.length C.length with hle|hle
   ·rw[BG hle,BC];rw[AL (l:=H) (i:=C.length) hle]at e;exact e.symm
   ·rw[Nat.min_eq_right hle,BC];rw[AL (l:=C) (i:=H.length) hle]at e;exact e.symm
  exact I9 e2 (Nat.min_le_left _ _) (Nat.min_le_right _ _)
 ·intro hn;apply List.ext_getElem (by simp[List.length_take,Nat.min_comm]);intro i h1 h2;have hi:i<H.length∧i<C.length:=by simp only[List.length_take]at h1 h2;omega
  rw[List.getElem_take,List.getElem_take];exact(TS hi.1 hi.2 (h.same i (by omega))).symm
theorem vq{es:List Ev}{k:Nat}:(es.drop k).take (es.length-k)=es.drop k:=AL (by rw[AK];exact Ac _)
section
variable{B:Bt}{ep:Int}{at':Int}{k m:Nat}{l:List Ev}{la:Bool}
theorem ac5(ok:B.Ok)(h:¬B.r=4):a_ B ep at' l la=(Bt.zero,7):=by
 unfold a_;rw[Aa (fun k=>k ok),Ae h]
theorem ac6(ok:B.Ok)(h:B.r=4)(he:¬B.e=ep):a_ B ep at' l la=(Bt.zero,15):=by
 unfold a_;rw[Aa (fun k=>k ok),Aa (fun k=>k h),Ae he]
theorem Y3(ok:B.Ok)(h:B.r=4)(he:B.e=ep)(ha:¬(0≤at'∧at'≤B.es.length)):a_ B ep at' l la=(Bt.zero,2):=by
 unfold a_;rw[Aa (fun k=>k ok),Aa (fun k=>k h),Aa (fun k=>k he),Ae ha]
abbrev DU(B:Bt)(k:Nat)(l:List Ev):Bt:=B.more (l.drop (B.es.length-k))
theorem Y4(ok:B.Ok)(h:B.r=4)(he:B.e=ep)(hk:k≤B.es.length)(hf:¬Fits (B.es.drop k) l la):a_ B ep (k:Int) l la=(Bt.zero,3):=by
 unfold a_;rw[Aa (fun k=>k ok),Aa (fun k=>k h),Aa (fun k=>k he),Aa (fun k=>k ⟨by omega,by omega⟩),Bu,Ae (fun k=>hf k.2)]
theorem Y5(ok:B.Ok)(h:B.r=4)(he:B.e=ep)(hk:k≤B.es.length)(hl:l.length≤2000)(hf:Fits (B.es.drop k) l la)(ho:¬(if la=true then(DU B k l).broken else DU B k l).Ok):a_ B ep (k:Int) l la=(Bt.zero,3):=by
 unfold a_;rw[Aa (fun k=>k ok),Aa (fun k=>k h),Aa (fun k=>k he),Aa (fun k=>k ⟨by omega,by omega⟩),Bu,Aa (fun k=>k ⟨hl,hf⟩),Ae ho]
theorem Y6(ok:B.Ok)(h:B.r=4)(he:B.e=ep)(hk:k≤B.es.length)(hl:l.length≤2000)(hf:Fits (B.es.drop k) l la)(ho:(if la=true then(DU B k l).broken else DU B k l).Ok):a_ B ep (k:Int) l la=(if la=true then(DU B k l).broken else DU B k l,0):=by
 unfold a_;rw[Aa (fun k=>k ok),Aa (fun k=>k h),Aa (fun k=>k he),Aa (fun k=>k ⟨by omega,by omega⟩),Bu,Aa (fun k=>k ⟨hl,hf⟩),Aa (fun k=>k ho)]
theorem Nx(ok:B.Ok){l:List Ev}(h:B.r=4)(hl:B.es.length+l.length≤2000)(ht:∃s bu,bz (B.es++l) s bu):(B.more l).Ok:=by
 refine⟨?_,by simp[Bt.more];exact hl,ht⟩;have hs:=ok.cG;unfold Bt.b_ bg at hs⊢;rcases hs with k|k|k|k|k
 ·exact absurd k.1 (by omega)
 ·exact absurd k.1 (by omega)
 ·exact absurd k.1 (by omega)
 ·exact absurd k.1 (by omega)
 ·exact .inr (.inr (.inr (.inr k)))
theorem KQ(ok:B.Ok)(h:B.r=4)(hl:B.es.length+1≤2000)(ht:∃s bu,bz (B.es++[Ev.brk]) s bu):B.broken.Ok:=by
 refine⟨?_,by simp[Bt.broken];omega,ht⟩;have hs:=ok.cG;unfold Bt.b_ bg at hs⊢;rcases hs with k|k|k|k|k
 ·exact absurd k.1 (by omega)
 ·exact absurd k.1 (by omega)
 ·exact absurd k.1 (by omega)
 ·exact absurd k.1 (by omega)
 ·exact .inr (.inl ⟨rfl,k.2.1,k.2.2.1,rfl,rfl,rfl⟩)
theorem aaz{l:List Ev}(h:¬(B.es.length+l.length≤2000∧∃s bu,bz (B.es++l) s bu)):¬(if la=true then(B.more l).broken else B.more l).Ok:=by
 intro ok;apply h;cases la with
 |false=>
  have h1:=ok.len;have h2:=ok.told;simp only[Bool.false_eq_true,if_false,Bt.more,List.length_append]at h1 h2;exact⟨h1,h2⟩
 |true=>
  have h1:=ok.len;obtain⟨s,bu,h2⟩:=ok.told;simp only[if_true,Bt.more,Bt.broken,List.length_append]at h1 h2;obtain⟨s0,F5,_,h3,_⟩:=h2.last;exact⟨by simp at h1;omega,s0,F5,h3⟩
theorem Ny{m:Nat}(hk:k≤B.es.length)(hc:mK (au (B.es.drop k)) (au l) (B.es.length-k) l.length m)(h:m<min (B.es.length-k) l.length∨(la=true∧m<B.es.length-k)):¬Fits (B.es.drop k) l la:=by
 rintro⟨h1,h2⟩;have hd:(B.es.drop k).length=B.es.length-k:=AK;have:=(TT (by rw[hd];exact hc)).1 h1;rw[hd]at this h2;rcases h with h|⟨h,h3⟩
 ·omega
 ·have:=h2 h;omega
theorem XB{m:Nat}(hc:mK (au (B.es.drop k)) (au l) (B.es.length-k) l.length m)(h:¬m<min (B.es.length-k) l.length)(h2:la=true→¬m<B.es.length-k):Fits (B.es.drop k) l la∧l.drop m=l.drop (B.es.length-k):=by
 have hd:(B.es.drop k).length=B.es.length-k:=AK;have hm:m=min (B.es.length-k) l.length:=by have:=hc.lea;have:=hc.leb;omega
 refine⟨⟨(TT (by rw[hd];exact hc)).2 (by rw[hd];omega),fun h3=> ?_⟩, ?_⟩
 ·have:=h2 h3;rw[hd];omega
 ·rcases Nat.le_total (B.es.length-k) l.length with h4|h4
  ·rw[hm,BG h4]
  ·rw[hm,Nat.min_eq_right h4,List.drop_length,List.drop_of_length_le h4]
end
theorem aaA{w:tA}{b:tB}{lb cb m n:Nat}{l:List Ev}(Vn:lb=l.length)(hbc:lb≤cb)(hm:m≤l.length)(hdr:l.drop m=l.drop n)(h:RowK .i64 w b (6*lb) (au l)):RowK .i64 w (gO b m 6 cb) (6*(lb-m)) (au (l.drop n)):=by
 subst Vn;have:=vn (k:=m) (m:=l.length-m) (c:=cb) h (by omega) hbc;rwa [vq,hdr]at this
theorem PX(U:tF)(w:tA):s5 U w Bt.zero (jG 0 0 0 0 0 none 0 0 zQ):=⟨none,0,zQ,rfl,fun _ _=>ki.dG rfl⟩
theorem XC{B:Bt}(h:¬(B.es.length+[Ev.brk].length≤2000∧∃s bu,bz (B.es++[Ev.brk]) s bu)):¬(if true=true then B.broken else B).Ok:=by
 intro ok;apply h;have h1:=ok.len;have h2:=ok.told;simp only[if_true,Bt.broken,List.length_append]at h1 h2;exact⟨h1,h2⟩
abbrev MoY:=Bt×Option Addr×Nat×(Nat→Value)×Bool
abbrev moY(y:MoY):AV:=vt [.g (qa y.1 y.2.1 y.2.2.1 y.2.2.2.1),.o (.bool y.2.2.2.2)]
def Y7(B:Bt)(l:List Ev)(y:MoY):Prop:=aW y.2.2.2.1 41∧((y.2.2.2.2=true∧y.1=B.more l∧B.es.length+l.length≤2000∧∃s bu,bz (B.es++l) s bu)∨(y.2.2.2.2=false∧¬(B.es.length+l.length≤2000∧∃s bu,bz (B.es++l) s bu)))
theorem TU{U:tF}{w w':tA}{B:Bt}{l:List Ev}{x:Ending}{C:Prop}(h:∃y k,x= .returned (.tuple #[y,.bool k])∧sx U w' B l y k∧bZ w w'):∃y:MoY,x= .returned (moY y).val∧bZ w w'∧Y7 B l y∧(C→cm U w' fun w=>ki w y.1 y.2.1 y.2.2.1 y.2.2.2.1):=by
 obtain⟨_,k,rfl,hw,b⟩:=h;rcases hw with⟨rfl,h1,h2,⟨a8,c8,g8,rfl,h8⟩⟩|⟨rfl,h1,rfl⟩
 ·exact⟨(B.more l,a8,c8,g8,true),rfl,b,⟨h8.now.one,.inl ⟨rfl,rfl,h1,h2⟩⟩,fun _=>h8⟩
 ·exact⟨(Bt.zero,none,0,zQ,false),rfl,b,⟨(ki.dG (w:=w) (B:=Bt.zero) rfl).one,.inr ⟨rfl,h1⟩⟩,fun _ _ _=>ki.dG rfl⟩
def af9(B:Bt)(y:MoY):Prop:=aW y.2.2.2.1 41∧((y.2.2.2.2=true∧y.1=B.broken∧B.es.length+[Ev.brk].length≤2000∧∃s bu,bz (B.es++[Ev.brk]) s bu)∨(y.2.2.2.2=false∧¬(B.es.length+[Ev.brk].length≤2000∧∃s bu,bz (B.es++[Ev.brk]) s bu)))
theorem Ju(U:tF)(B:Bt)(a:tB)(c:Nat)(q:tD)(ep ya:Int)(l:List Ev)(b:tB)(lb cb:Nat)(la:Bool)(w:tA)(hU:∀b,U b→b<w.heap.size)(hm:cm U w fun w=>ki w B a c q)(ok:B.Ok)(hr:cm U w fun w=>RowK .i64 w b (6*lb) (au l))(Vn:lb=l.length)(vR:b=none→cb=0)(hbc:lb≤cb)(DI:lb≤2000):cA 100 #[zJ B a c q,iV ep,iV ya,.slice b lb cb,.bool la] w fun x w'=>∃y B' er,x= .returned (.tuple #[y,iV er])∧a_ B ep ya l la=(B',er)∧s5 U w' B' y∧bZ w w':=by
 have hq:=hm.now.one;have hc:=hm.now.b.cap;have z:=PX;refine en (H:=[]) 97 [vg (qa B a c q),vi ep,vi ya,vv (.slice b lb cb),vv (.bool la)] Tryz.func100 rfl rfl (nZ hU (G:=fun w=>ki w B a c q∧RowK .i64 w b (6*lb) (au l)) fun w2 c2=>⟨hm w2 c2,hr w2 c2⟩) ?_;by_cases h4:B.r=4
 case neg=>exact r [1] rfl fun _=>Rv.cb rfl (vt [.g (qa Bt.zero none 0 zQ),.o (iV 7)]) (fun w _=>jx 7 w) (r [] rfl fun _=>fin fun w hS=>⟨_,_,_,rfl,ac5 ok h4,z _ _,hS.now.2⟩)
 by_cases he:B.e=ep
 case neg=>exact r [0,1] rfl fun _=>Rv.cb rfl (vt [.g (qa Bt.zero none 0 zQ),.o (iV 15)]) (fun w _=>jx 15 w) (r [] rfl fun _=>fin fun w hS=>⟨_,_,_,rfl,ac6 ok h4 he,z _ _,hS.now.2⟩)
 have r2:=fun w=>jx 2 w;by_cases h0:ya<0
 ·exact r [0,0,1] rfl fun _=>Rv.cb rfl (vt [.g (qa Bt.zero none 0 zQ),.o (iV 2)]) (fun w _=>r2 w) (r [] rfl fun _=>fin fun w hS=>⟨_,_,_,rfl,Y3 ok h4 he (by omega),z _ _,hS.now.2⟩)
 by_cases hn:(B.es.length:Int)<ya
 ·exact r [0,0,0,1] rfl fun _=>Rv.cb rfl (vt [.g (qa Bt.zero none 0 zQ),.o (iV 2)]) (fun w _=>r2 w) (r [] rfl fun _=>fin fun w hS=>⟨_,_,_,rfl,Y3 ok h4 he (by omega),z _ _,hS.now.2⟩)
 obtain⟨k,rfl⟩:∃k:Nat,ya=k:=⟨ya.toNat,by omega⟩;have hk:k≤B.es.length:=by omega
 refine r [0,0,0,0] rfl fun _=>cq rfl (fun m:Nat=>vi (m:Int)) (fun m=>mK (au (B.es.drop k)) (au l) (B.es.length-k) l.length m) (fun w hS=> ?_) fun m QZ=> ?_
 ·refine(KM (gO a k 6 c) b (B.es.length-k) (c-k) lb cb (au (B.es.drop k)) (au l) w (by have:=vn hS.now.1.1.b.row (k:=k) (m:=B.es.length-k) (c:=c) (by omega) hc;rwa [vq]at this) hS.now.1.2 (by have:=ok.len;omega) (by omega)).mono ?_;rintro _ w3 ⟨m,rfl,QZ,b⟩;exact⟨m,rfl,b,by rw[Vn]at QZ;exact QZ⟩
 have r3:=fun w=>jx 3 w;by_cases hf:m<min (B.es.length-k) l.length
 ·refine rz [2,1] [((min (B.es.length-k) lb:Nat):Int)] rfl fun _=> ?_;exact Rv.cb rfl (vt [.g (qa Bt.zero none 0 zQ),.o (iV 3)]) (fun w _=>r3 w) (r [] rfl fun _=>fin fun w hS=>⟨_,_,_,rfl,Y4 ok h4 he hk (Ny hk QZ (.inl hf)),z _ _,hS.now.2⟩)
 have Tx:=QZ.leb;by_cases hl:la=true∧m<B.es.length-k
 ·obtain⟨rfl,hl⟩:=hl;refine rz [2,0,1] [((min (B.es.length-k) lb:Nat):Int)] rfl fun _=> ?_;exact Rv.cb rfl (vt [.g (qa Bt.zero none 0 zQ),.o (iV 3)]) (fun w _=>r3 w) (r [] rfl fun _=>fin fun w hS=>⟨_,_,_,rfl,Y4 ok h4 he hk (Ny hk QZ (.inr ⟨rfl,hl⟩)),z _ _,hS.now.2⟩)
 obtain⟨hfit,hdr⟩:=XB (B:=B) (k:=k) (l:=l) (m:=m) (la:=la) QZ hf (fun e h=>hl ⟨e,h⟩);cases la
 case' false=>refine rz [2,0,4] [((min (B.es.length-k) lb:Nat):Int)] rfl fun _=> ?_
 case' true=>
  have wI:¬m<B.es.length-k:=fun h=>hl ⟨rfl,h⟩;refine rz [2,0,0,4] [((min (B.es.length-k) lb:Nat):Int)] rfl fun _=> ?_
 all_goals
  repeat' first|refine FC ?_ ?_|(refine cx (g:=137) rfl moY (Y7 B (l.drop (B.es.length-k))) (fun y w=>ki w y.1 y.2.1 y.2.2.1 y.2.2.2.1) ?_ ?_;exact fun w hS=>(EG _ B a c q (l.drop (B.es.length-k)) (gO b m 6 cb) (lb-m) (cb-m) w hS.ult (fun w2 c2=>(hS.g w2 c2).1) (fun w2 c2=>aaA Vn hbc Tx hdr (hS.g w2 c2).2) (by rw[←hdr,AK,Vn]) (fun h=>by rw[vR (wM h)];omega) ok.len (by omega)).mono fun _ _ h=>TU h;rintro⟨B8,a8,c8,g8,k8⟩ ⟨o8,⟨rfl,rfl,h8,h9⟩|⟨rfl,h8⟩⟩)|(refine Rv.cb (g:=136) rfl (vt [.g (qa Bt.zero none 0 zQ),.o (.int .i64 3)]) ?_ ?_;exact fun w _=>r3 w)|(refine cx (g:=138) rfl moY (af9 (DU B k l)) (fun y w=>ki w y.1 y.2.1 y.2.2.1 y.2.2.2.1) ?_ ?_;exact fun w hS=>(xA _ (DU B k l) a8 c8 g8 w hS.ult (fun w2 c2=>(hS.g w2 c2).2) (by simp only[Bt.more,List.length_append];exact h8)).mono fun _ _ h=>TU (B:=⟨1,(DU B k l).e,0,0,0,(DU B k l).es⟩) h;rintro⟨B9,a9,c9,g9,k9⟩ ⟨o9,⟨rfl,rfl,hx1,hx2⟩|⟨rfl,hx1⟩⟩)|refine rs [] rfl rfl fun _=> ?_
 all_goals first
  |exact fin fun w hS=>⟨_,_,_,rfl,Y6 ok h4 he hk (by omega) hfit (Nx ok h4 h8 h9),⟨a8,c8,g8,rfl,fun w2 c2=>(hS.FD w2 c2).2⟩,hS.now.2⟩
  |exact fin fun w hS=>⟨_,_,_,rfl,Y5 ok h4 he hk (by omega) hfit (aaz h8),z _ _,hS.now.2⟩
  |exact fin fun w hS=>⟨_,_,_,rfl,Y6 ok h4 he hk (by omega) hfit (KQ (Nx ok h4 h8 h9) h4 hx1 hx2),⟨a9,c9,g9,rfl,fun w2 c2=>(hS.FD w2 c2).2⟩,hS.now.2⟩
  |exact fin fun w hS=>⟨_,_,_,rfl,Y5 ok h4 he hk (by omega) hfit (XC hx1),z _ _,hS.now.2⟩
abbrev XD(q:Nat)(B:Bt)(e:Ev):Rec:=⟨5,q,B.e,0,e⟩
abbrev mf(q:Nat)(B:Bt)(k j:Nat):List Rec:=((B.es.drop k).take j).map (XD q B)
theorem Jv{q k j:Nat}{B:Bt}(h:j≤B.es.length-k):(mf q B k j).length=j:=by
 unfold mf;rw[AW,AM,AK];omega
theorem E4{q k j:Nat}{B:Bt}{e:Ev}(h:(B.es.drop k)[j]? =some e):mf q B k (j+1)=mf q B k j++[XD q B e]:=by
 unfold mf;rw[oO h,AE];rfl
theorem TV{l:List Rec}{x y:Rec}{F:tD}(h:∀j,j<10*(l++[x]).length→F j=iV ((aD (l++[x])).getD j 0)):∀j,j<10*(l++[y]).length→gh F (0+l.length*10) 10 (lF [iV y.k,iV y.q,iV y.e,iV y.p,iV y.v.k,iV y.v.p,iV y.v.i,iV y.v.b,iV y.v.he,iV y.v.hn]) j=iV ((aD (l++[y])).getD j 0):=by
 have hl:∀z:Rec,aD (l++[z])=aD l++bn z:=fun z=>by simp[aD]
 have hlen:=iA l;refine PC (F:=F) (fun j hj=> ?_) (fun j hj=>qg _ _ _ _ _ (.inl (by omega))) (fun j hj=> ?_)
 ·rw[h j (by rw[Ag];omega),hl];simp only[List.getD_eq_getElem?_getD];rw[AZ (by omega)]
 ·rw[show l.length*10+j=0+l.length*10+j by omega,Fl _ _ _ _ _ (by omega)]
theorem Nz{q:Nat}{B:Bt}(hq:q<4)(he:0≤B.e∧B.e≤1048576){es:List Ev}(hw:∀u∈au es,(Lit.int .i64 u).wf=true):∀u∈aD (es.map (XD q B)),(Lit.int .i64 u).wf=true:=by
 intro u hu;simp only[aD,List.mem_flatMap,List.mem_map]at hu;obtain⟨r,⟨e,hem,rfl⟩,hu⟩:=hu;exact pJ (by decide) hq he (by decide) (fun x hx=>hw x (by unfold au;exact List.mem_flatMap.2 ⟨e,hem,hx⟩)) u hu
theorem CK{q k:Nat}{B:Bt}(h:¬B.r=1):dz q B k=mf q B k (B.es.length-k):=by
 unfold dz mf;rw[Aa h,vq]
theorem Jw{q k:Nat}{B:Bt}(h:B.r=1)(hk:k<B.es.length):dz q B k=mf q B k (B.es.length-k-1)++[⟨6,q,B.e,0,mB⟩]∧∃e,mf q B k (B.es.length-k)=mf q B k (B.es.length-k-1)++[XD q B e]:=by
 constructor
 ·unfold dz mf;rw[Ae h,List.dropLast_eq_take,AK]
 ·obtain⟨e,he⟩:∃e,(B.es.drop k)[B.es.length-k-1]? =some e:=⟨(B.es.drop k)[B.es.length-k-1]'(by rw[AK];omega),Ai _⟩;refine⟨e, ?_⟩;have:=E4 (q:=q) he;rwa [show B.es.length-k-1+1=B.es.length-k by omega]at this
theorem Lx{es:List Ev}{k j:Nat}{u:Int}(h:u∈au ((es.drop k).take j)):u∈au es:=by
 unfold au at h⊢;obtain⟨e,he,hu⟩:=List.mem_flatMap.1 h;exact List.mem_flatMap.2 ⟨e,Bl (AJ he),hu⟩
namespace Rv
section
variable{n:Nat}{f:Nat→AV}{fn:Func}{Rr:Ending→World→Prop}{T:tF}{Φ:tJ}{H:List En}{ks:List Fr}
theorem ob{w0:tA}{e sz l:Nat}{v:tK}{L:tM}(hl:0<l)(hT:∀b,T b→b<w0.heap.size)(hn:∀g c F,v= .slice (some ⟨g,0,none⟩) l c→l≤c→c≤maxLen→(∀j,j<l*sz→L[j]? =some (F j))→G Tryz.prog fn Rr n T Φ (fun w=>bZ w0 w) ks f (H++[⟨g,e,[.f (c*sz) F]⟩])):G Tryz.prog fn Rr n (fun b=>v.ownBlock=some b∨T b) Φ (fun w=>bZ w0 w∧w.ownsRow w0.heap.size e sz v l L) ks f H:=by
 intro w hS hK;have own:=hS.now.2.2;rcases id own.2 with⟨_,e0⟩|⟨g,c,cur,rfl,hg,hb,rY,hc,hs2,ht⟩
 ·omega
 have lG:=hS.Ry g rfl;have MA:g<w.heap.size:=(BP.1 hb).1;refine hn g c (fun j=>cur.getD j undef) rfl rY hc (fun j hj=> ?_) w ?_ hK
 ·have hle:l*sz≤c*sz:=Nat.mul_le_mul_right _ rY;rw[←ht,AO,Ae hj,BX,Ck (by omega)];simp[show j<cur.size by omega]
 have e4:hs (H++[⟨g,e,[.f (c*sz) fun j=>cur.getD j undef]⟩])=hs H++[⟨g,e,c*sz,fun j=>cur.getD j undef⟩]:=by
  rw[hs,AE];rfl
 rw[e4];have mem:∀x∈hs H++[(⟨g,e,c*sz,fun j=>cur.getD j undef⟩:bX)],x∈hs H∨x=⟨g,e,c*sz,fun j=>cur.getD j undef⟩:=fun x hx=>(Ah.1 hx).imp id Ab.1;refine⟨fun x hx=>(mem x hx).elim (hS.g_ x) fun h=>by rw[h];exact Fx hb hs2,fun i j x y hi hj ha=> ?_,fun x hx ht=>(mem x hx).elim (fun h=>hS.off x h (.inr ht)) fun h=>by rw[h]at ht;exact absurd hg (BL.2 (hT g ht)),fun b hb=>hS.mlt b (.inr hb),fun w2 c2=>hS.g w2 (c2.mono fun b hb=> ?_),fun w2 c2=> ?_⟩
 ·rw[List.getElem?_append]at hi hj;split at hi<;>split at hj
  ·exact hS.oY i j x y hi hj ha
  ·have:y=⟨g,e,c*sz,fun j=>cur.getD j undef⟩:=by
    have:=Ar hj;exact Ab.1 this
   subst this;exact absurd (Ay.2 ⟨x,Ar hi,ha⟩) lG
  ·have:x=⟨g,e,c*sz,fun j=>cur.getD j undef⟩:=Ab.1 (Ar hi);subst this;exact absurd (Ay.2 ⟨y,Ar hj,ha.symm⟩) lG
  ·have h1:=(Ap.1 hi).1;have h2:=(Ap.1 hj).1;simp only[List.length_singleton]at h1 h2;omega
 ·rw[AE,Ah]at hb;rcases hb with(h|h)|h
  ·exact .inl h
  ·exact .inr (.inl (AB some (Ab.1 h).symm))
  ·exact .inr (.inr h)
 ·refine hS.now.2.1.trans (c2.below hS.now.2.1.size fun b hb hu=> ?_);rw[AE,Ah]at hu;rcases hu with hu|hu
  ·obtain⟨x,hx,rfl⟩:=Ay.1 hu;obtain⟨j,hj⟩:=List.mem_iff_getElem?.1 hx;exact absurd hb (Bb.2 ((Mem.sr hS fun _ h=>h.1).jN j hj))
  ·exact absurd hb (Bb.2 ((Ab.1 hu)▸hg))
end
end Rv
theorem Jx(U:tF)(q:Nat)(hq:q<4)(m:Mg)(k:Nat)(hk:k≤m.B.es.length)(ok:m.B.Ok)(uR:m.B.r=1→k<m.B.es.length)(w:tA)(hU:∀b,U b→b<w.heap.size)(hm:cm U w fun w=>oI w m):cA 101 #[iV (q:Int),vF (jj m) 47,iV (k:Int)] w fun x w'=>∃a' c' n',x= .returned (.slice a' n' c')∧n'=(dz q m.B k).length∧cm U w' (fun w=>RowK .i64 w a' (10*n') (aD (dz q m.B k)))∧n'≤c'∧(a'=none→c'=0)∧bZ w w':=by
 have lY:=hm.now.one;have hc:=hm.now.b.cap;have he:=jV ok.cG;have hlen:=ok.len;have ac7:∀j,∀u∈au ((m.B.es.drop k).take j),(Lit.int .i64 u).wf=true:=fun j u hu=>hm.now.b.row.wf u (Lx hu);have HR:∀w,oI w m→RowK .i64 w (gO m.a k 6 m.c) (6*(m.B.es.length-k)) (au (m.B.es.drop k)):=fun w h=>by
  have:=vn h.b.row (k:=k) (m:=m.B.es.length-k) (c:=m.c) (by omega) hc;rwa [vq]at this
 refine en (H:=[]) 45 [vi (q:Int),vf 47 (jj m),vi (k:Int)] Tryz.func101 rfl rfl (nZ (G:=fun w=>oI w m) hU hm) (r [] rfl fun α=> ?_);refine jt (fun w2 hS=>hS.xR w.heap.size 144 10) ?_;refine iD (X:=Nat×Value) ⟨fun x=>[(0,vi (q:Int)),(4,vp 0 0 (α 0)),(7,vv x.2),(14,vv (.slice (gO m.a k 6 m.c) (m.B.es.length-k) (m.c-k))),(15,vi ((m.B.es.length-k:Nat):Int)),(16,vi (x.1:Int))],fun _=>[⟨α 0,114,[.f 47 (jj m)]⟩],fun x b=>x.2.ownBlock=some b∨U b,fun _ w=>oI w m,fun x w'=>bZ w w'∧w'.ownsRow w.heap.size 144 10 x.2 (mf q m.B k x.1).length ((aD (mf q m.B k x.1)).map (.int .i64)),fun x=>x.1≤m.B.es.length-k,fun x=>m.B.es.length-k-x.1⟩ (0,.slice none 0 0) ⟨rfl,rfl,rfl,rfl,rfl,rfl,trivial⟩ (fun w hS=>hS) (Al _) ?_;rintro f ⟨j,v7⟩ hj;have hj:j≤m.B.es.length-k:=hj;have Ly:=Jv (q:=q) (B:=m.B) (k:=k) (j:=j) hj;by_cases aN:j<m.B.es.length-k
 ·obtain⟨e2,YA⟩:∃e2,(m.B.es.drop k)[j]? =some e2:=⟨(m.B.es.drop k)[j]'(by rw[AK];omega),Ai _⟩;obtain⟨bb,bo,hsa⟩:=pw (HR w hm.now) (by omega);refine sv 14 (vv (.slice (some ⟨bb,bo,none⟩) (m.B.es.length-k) (m.c-k))) (AB (fun b=>Value.slice b (m.B.es.length-k) (m.c-k)) hsa) (r [1] rfl fun _=>lf (q:=bo+j*6) rfl 6 (lF [iV e2.k,iV e2.p,iV e2.i,iV e2.b,iV e2.he,iV e2.hn]) (fun w hS=>ju (hsa▸HR w hS.now.1) (by omega) (s6 YA)) (sv 19 (vg [.o (iV e2.k),.o (iV e2.p),.o (iV e2.i),.o (iV e2.b),.o (iV e2.he),.o (iV e2.hn)]) rfl ?_));refine r [] rfl fun _=>nJ 2 rfl sC (fun w hS=>hS.now.2.1.size) (fun _ _ h c=>cB h c (Ac _)) fun g c hc=> ?_;exact rz [1] [((j+1:Nat):Int)] rfl fun _=>bJ (j+1,_) ⟨rfl,rfl,rfl,(AB (fun b=>Value.slice b (m.B.es.length-k) (m.c-k)) hsa).symm,rfl,rfl,trivial⟩ (fun w hS=>(hS.take 1).sr fun w h=>⟨h.1,by rw[E4 YA,Ag,Jg];exact h.2⟩) (show j+1≤m.B.es.length-k by omega) (show m.B.es.length-k-(j+1)<m.B.es.length-k-j by omega)
 obtain rfl:j=m.B.es.length-k:=by omega
 by_cases hr:m.B.r=1
 case neg=>
  refine r [0,0] rfl fun _=>fin fun w1 hS=> ?_;have ho:w1.ownsRow w.heap.size 144 10 v7 (mf q m.B k (m.B.es.length-k)).length ((aD (mf q m.B k (m.B.es.length-k))).map (.int .i64)):=hS.now.2.2;obtain⟨a,c,rfl,dq,jM,_,QR,hf⟩:=RowK.eK ho (Nz hq he (ac7 _));rw[Ly]at dq jM;exact⟨a,c,m.B.es.length-k,by rw[Ly];rfl,by rw[CK hr,Ly],by rw[CK hr];exact bM dq hf hU,jM,QR,hS.now.2.1⟩
 have J6:=uR hr;obtain⟨ei,e9,ej⟩:=Jw (q:=q) (k:=k) hr J6;have ac8:=Jv (q:=q) (B:=m.B) (k:=k) (j:=m.B.es.length-k-1) (by omega);have Oz:(mf q m.B k (m.B.es.length-k-1)++[(⟨6,q,m.B.e,0,mB⟩:Rec)]).length=m.B.es.length-k:=by rw[Ag,ac8,BV];omega
 have xu:∀u∈aD (mf q m.B k (m.B.es.length-k-1)++[(⟨6,q,m.B.e,0,mB⟩:Rec)]),(Lit.int .i64 u).wf=true:=fun u hu=>by
  rw[show aD (mf q m.B k (m.B.es.length-k-1)++[(⟨6,q,m.B.e,0,mB⟩:Rec)])=aD (mf q m.B k (m.B.es.length-k-1))++bn ⟨6,q,m.B.e,0,mB⟩ by simp[aD]]at hu;exact(Ah.1 hu).elim (Nz hq he (ac7 _) u) (pJ (by decide) hq he (by decide) qD u)
 refine ob (v:=v7) (l:=(mf q m.B k (m.B.es.length-k)).length) (L:=(aD (mf q m.B k (m.B.es.length-k))).map (.int .i64)) (by omega) hU fun g c F e0 rY QZ hF=> ?_;subst e0;have hF0:∀i,i<10*(mf q m.B k (m.B.es.length-k)).length→F i=iV ((aD (mf q m.B k (m.B.es.length-k))).getD i 0):=fun i hi=>by
  have:=hF i (by omega);rw[Ax]at this;rw[Aw];cases h:(aD (mf q m.B k (m.B.es.length-k)))[i]? with
  |none=>rw[h]at this;cases this
  |some y=>rw[h]at this;exact(AY this).symm
 rw[ej]at hF0;have hF2:=TV (y:=⟨6,q,m.B.e,0,mB⟩) hF0;rw[ac8]at hF2;refine sv 7 (vv (.slice (some ⟨g,0,none⟩) (m.B.es.length-k) c)) (AB (fun n=>Value.slice (some ⟨g,0,none⟩) n c) Ly) (rz [0,1,1] [((m.B.es.length-k-1:Nat):Int)] rfl fun _=>so (g:=lF [iV 6,iV (q:Int),iV m.B.e,iV 0,iV 0,iV 0,iV 0,iV 0,iV 0,iV 0]) rfl rfl rfl 1 rfl _ (fun _ _=>rfl) ?_ (Ss rfl) (show 0+(m.B.es.length-k-1)*10+10≤c*10 by omega));refine r [] rfl fun _=>fin fun w1 hS=> ?_;have dq:=aan (U:=U) (hS.at 1 rfl) (fun h=>hS.off _ (Ar (i:=1) rfl) h) (by rw[iA,Oz];show _≤c*10;omega) (fun i hi=>hF2 i (by rw[iA]at hi;exact hi)) xu;rw[iA,Oz]at dq;exact⟨some ⟨g,0,none⟩,c,m.B.es.length-k,rfl,by rw[ei,Oz],fun w2 c2=>by rw[ei];exact dq w2 c2,by omega,(fun h=>by cases h),hS.now.2⟩
theorem E9{P:Prop}{_:Decidable (¬P)}{α:Type}{x y z:α}(h:(if ¬P then x else y)=z):x=z∨P∧y=z:=by
 by_cases hp:P
 ·rw[Aa (fun h=>h hp)]at h;exact .inr ⟨hp,h⟩
 ·rw[Ae hp]at h;exact .inl h
theorem CL{B B':Bt}{ep ya er:Int}{l:List Ev}{la:Bool}(h:a_ B ep ya l la=(B',er)):(B'=Bt.zero∧¬er=0)∨(B'.Ok∧er=0∧B.r=4∧B'=if la then(B.more (l.drop (B.es.length-ya.toNat))).broken else B.more (l.drop (B.es.length-ya.toNat))):=by
 have no:∀{e:Int},¬e=0→(Bt.zero,e)=(B',er)→B'=Bt.zero∧¬er=0:=fun h0 h=>⟨(AR h).1.symm,(AR h).2▸h0⟩;unfold a_ at h;rcases E9 h with h|⟨_,h⟩
 ·exact .inl (no (by decide) h)
 rcases E9 h with h|⟨h4,h⟩
 ·exact .inl (no (by decide) h)
 rcases E9 h with h|⟨_,h⟩
 ·exact .inl (no (by decide) h)
 rcases E9 h with h|⟨_,h⟩
 ·exact .inl (no (by decide) h)
 rcases E9 h with h|⟨_,h⟩
 ·exact .inl (no (by decide) h)
 rcases E9 h with h|⟨ho,h⟩
 ·exact .inl (no (by decide) h)
 ·exact .inr ⟨(AR h).1▸ho,(AR h).2.symm,h4,(AR h).1.symm⟩
theorem PY{B B':Bt}{ep ya:Int}{l:List Ev}{la:Bool}(h:a_ B ep ya l la=(B',0)):B.es.length≤B'.es.length∧(B'.r=1→B.es.length<B'.es.length):=by
 rcases CL h with⟨_,h0⟩|⟨_,_,h4,rfl⟩
 ·exact absurd rfl h0
 ·cases la with
  |true=>
   simp only[if_true,Bt.broken,Bt.more,List.length_append,List.length_singleton];exact⟨by omega,fun _=>by omega⟩
  |false=>
   simp only[Bool.false_eq_true,if_false,Bt.more,List.length_append];exact⟨by omega,fun h=>by omega⟩
theorem rO{B B':Bt}{ep ya er:Int}{l:List Ev}{la:Bool}(h:a_ B ep ya l la=(B',er)):B'.Ok:=by
 rcases CL h with⟨rfl,_⟩|⟨ho,_⟩
 ·exact Bt.dx
 ·exact ho
theorem TW{es:List Ev}{s:St}{bu:List An}(h:bz es s bu):∀v∈es,v.Ok:=by
 induction h with
 |nil=>intro v hv;cases hv
 |snoc h hv st ih=>
  intro x hx;rcases Ah.1 hx with hx|hx
  ·exact ih x hx
  ·rw[Ab.1 hx];exact hv
theorem PZ{q k:Nat}{B:Bt}(hq:q<4)(ok:B.Ok):∀r∈dz q B k,r.fault=0:=by
 obtain⟨s,bu,ht⟩:=ok.told;have he:=jV ok.cG;have KK:=TW ht;have h5:∀es:List Ev,(∀v∈es,v∈B.es)→∀r∈es.map (fun e=>(⟨5,q,B.e,0,e⟩:Rec)),r.fault=0:=fun es YT r hr=>by
  obtain⟨e,hm,rfl⟩:=Ay.1 hr;exact TC (.inr rfl) hq he (KK e (YT e hm))
 intro r hr;unfold dz at hr;split at hr
 ·rcases Ah.1 hr with hr|hr
  ·exact h5 _ (fun v hv=>Bl (List.dropLast_subset _ hv)) r hr
  ·rw[Ab.1 hr];exact vo (by decide) (by decide) hq he (by decide)
 ·exact h5 _ (fun v hv=>Bl hv) r hr
theorem XE{q k:Nat}{B:Bt}(hr:B.r=1→k<B.es.length):(dz q B k).length=B.es.length-k:=by
 unfold dz;split
 ·rename_i h;have:=hr h;rw[Ag,AW,List.length_dropLast,AK,BV];omega
 ·rw[AW,AK]
section
variable{u:Nv}{v:Wv}{l:Lt}{B8:Bt}{er:Int}
theorem Jy(h:a_ (u.m l.q).B l.ep l.pl l.es l.la=(B8,er))(h0:¬er=0):takeN u.pure v.pure l=(u.pure,v.pure):=by
 unfold takeN;rw[h,Ae h0]
theorem E_(h:a_ (u.m l.q).B l.ep l.pl l.es l.la=(B8,0))(hl:B8.es.length=(u.m l.q).B.es.length):takeN u.pure v.pure l=(u.pure,v.pure):=by
 unfold takeN;rw[h,Aa (fun h=>h rfl),Ae hl]
theorem Fa(h:a_ (u.m l.q).B l.ep l.pl l.es l.la=(B8,0))(hl:¬B8.es.length=(u.m l.q).B.es.length)(hf:100000<u.dl.length+(cp (dz l.q B8 (u.m l.q).B.es.length)).length):takeN u.pure v.pure l=(u.pure,v.pure):=by
 unfold takeN lC;rw[h,Aa (fun h=>h rfl),Aa hl,Aa (BL.2 hf)];rfl
theorem Jz(h:a_ (u.m l.q).B l.ep l.pl l.es l.la=(B8,0))(hl:¬B8.es.length=(u.m l.q).B.es.length)(hf:u.dl.length+(cp (dz l.q B8 (u.m l.q).B.es.length)).length≤100000):takeN u.pure v.pure l=({u.pure with dl:=u.dl++cp (dz l.q B8 (u.m l.q).B.es.length),af:=some (.take l B8)},v.pure):=by
 unfold takeN lC;rw[h,Aa (fun h=>h rfl),Aa hl,Ae hf];rfl
end
theorem XF(X N:Nat)(u:Nv)(v:Wv)(F U:tF)(w:tA)(hw:NW w X N u v F U)(P:Nat)(l:Lt)(a:tB)(c:Nat)(hq:l.q<4)(YT:l.es.length≤2000)(hl:cm U w fun w=>eN w P l a c):cA 60 #[lp N,lp P] w fun x w'=>x= .returned (.tuple #[])∧∃u' v' F',Dn w X N u v F U (takeN u.pure v.pure l) u' v' F' w':=by
 have ho:aW (jj (u.m l.q)) 47:=eF (hw.st.now.1.mo l.q hq).one;have ac9:=hl.now.nil;have ac_:=hl.now.cap;refine en (H:=[nE X N u]) 58 [vp 0 0 N,vv (lp P)] Tryz.func60 rfl rfl (hw.init (G:=fun w=>eN w P l a c) hl) ?_;refine r [3] rfl fun α=>l1 rfl (iV (l.q:Int)) (fun w hS=>hS.now.1.2.b.at 3 (cR rfl)) (r [1] rfl fun _=>lo rfl rfl 0 rfl 47 (jj (u.m l.q)) (fun i hi=>oG hq hi) ?_);refine r [] rfl fun β=>cut (X:=Nat×Int×OP) (fun x=>[(2,vp 1 0 (α 0)),(3,vp 2 0 (α 1)),(4,vp 3 0 (β 0)),(5,vp 4 0 x.1),(6,vi x.2.1)]) (fun x=>[nE X N u,npE (α 0) 0 N,lpE (α 1) P,mgE (β 0) (u.m l.q),moE x.1 x.2.2.1 x.2.2.2.1 x.2.2.2.2.1 x.2.2.2.2.2]) (fun _ b=>F b∨(U b∧b≠N)) (fun x w=>((u.In w N∧∀r∈v.fl,oH w r)∧eN w P l a c)∧Sw x.2.2 w) (fun _=>RW X (fun b=>b∈[N]) F w v F) (fun x=>a_ (u.m l.q).B l.ep l.pl l.es l.la=(x.2.2.1,x.2.1)) ?_ (r [4] rfl fun _=>l1 rfl (iV l.ep) (fun w hS=>hS.now.1.2.b.at 17 (cR rfl)) (r [] rfl fun _=>l1 rfl (iV l.pl) (fun w hS=>hS.now.1.2.b.at 18 (cR rfl)) (r [] rfl fun _=>l1 rfl (.slice a l.es.length c) (fun w hS=>hS.now.1.2.b.at 19 (cR rfl)) (r [] rfl fun _=>l1 rfl (.bool l.la) (fun w hS=>hS.now.1.2.b.at 20 (cR rfl)) ?_))))
 case refine_2=>
  repeat' first|refine FC ?_ ?_|(refine cx (g:=100) rfl (fun y:Int×OP=>vt [KV y.2,.o (iV y.1)]) (fun y=>a_ (u.m l.q).B l.ep l.pl l.es l.la=(y.2.1,y.1)∧aW y.2.2.2.2 41) (fun y=>Sw y.2) ?_ ?_;exact fun w hS=>(Ju _ (u.m l.q).B (u.m l.q).a (u.m l.q).c (u.m l.q).g l.ep l.pl l.es a l.es.length c l.la w hS.ult (fun w2 c2=>(hS.g w2 c2).1.1.mo l.q hq) (hw.ok.ok l.q hq) (fun w2 c2=>(hS.g w2 c2).2.row) rfl ac9 ac_ YT).mono fun _ _ ⟨_,B8,er8,h0,fJ,⟨a8,c8,g8,hy,hm8⟩,b⟩=>⟨(er8,B8,a8,c8,g8),by rw[h0,hy];rfl,b,⟨fJ,hm8.now.one⟩,fun _=>hm8⟩;rintro⟨er8,B8,a8,c8,g8⟩ ⟨fJ,o8⟩)|refine rs [] rfl rfl fun _=> ?_
  all_goals exact bJ (_,er8,B8,a8,c8,g8) ⟨rfl,rfl,rfl,rfl,rfl,trivial⟩ (fun w hS=>hS.Kj [0,1,2,3,4] (by decide)) fJ Bp
 rintro f ⟨R5,er8,B8,a8,c8,g8⟩ fJ;have fJ:a_ (u.m l.q).B l.ep l.pl l.es l.la=(B8,er8):=fJ;by_cases h0:er8=0
 case neg=>exact r [1] rfl fun _=>fin fun w hS=>⟨rfl,u,v,F,Dn.fin hS hw.ub hw.nu (fun _ h=>⟨h.1.1.1,h.1.1.2⟩) hw.ok rfl rfl rfl rfl rfl (by rw[Jy fJ h0]) (by rw[Jy fJ h0])⟩
 subst h0;have hio:=PY fJ;have ada:=XE (q:=l.q) hio.2;have ai3:=hio.1;refine r [0,4] rfl fun _=>l1 rfl (iV (l.q:Int)) (fun w hS=>hS.now.1.1.2.b.at 3 (cR rfl)) (r [] rfl fun _=>cx rfl (fun y:Option Addr×Nat×Nat=>vv (.slice y.1 y.2.1 y.2.2)) (fun y=>y.2.1=(dz l.q B8 (u.m l.q).B.es.length).length) (fun y w=>RowK .i64 w y.1 (10*y.2.1) (aD (dz l.q B8 (u.m l.q).B.es.length))) (fun w hS=>(Jx _ l.q hq ⟨B8,a8,c8,g8⟩ (u.m l.q).B.es.length hio.1 (rO fJ) hio.2 w hS.ult (fun w2 c2=>(hS.g w2 c2).2)).mono fun _ _ ⟨a9,c9,n9,h0,hn9,hr9,hc9,hz9,b⟩=>⟨(a9,n9,c9),h0,b,hn9,fun _=>hr9⟩) ?_);intro y hn9;replace hn9:y.2.1=(dz l.q B8 (u.m l.q).B.es.length).length:=hn9;have Te:=hn9.trans ada;refine r [] rfl fun _=> ?_;by_cases uk:B8.es.length=(u.m l.q).B.es.length
 ·exact r [1] rfl fun _=>fin fun w hS=>⟨rfl,u,v,F,Dn.fin hS hw.ub hw.nu (fun _ h=>⟨h.1.1.1.1,h.1.1.1.2⟩) hw.ok rfl rfl rfl rfl rfl (by rw[E_ fJ uk]) (by rw[E_ fJ uk])⟩
 refine r [0] rfl fun _=>c0 rfl fun w1 hS=> ?_;obtain⟨oV,hu2,hu3⟩:=hS.rW;refine(ji X N u.i u.da u.dl.length u.dc u.dl u.sy (fun p=>jj (u.m p)) u.hn u.he u.wt u.af u.tu u.ct u.ub u.sk (.func 102) #[] #[.pointer (some ⟨α 0,0,none⟩),.pointer (some ⟨α 1,0,none⟩),.pointer (some ⟨R5,0,none⟩)] (dz l.q B8 (u.m l.q).B.es.length) y.1 y.2.1 y.2.2 _ (hS.at 0 rfl) _ oV hu2 (fun w2 cc=>⟨(hu3 w2 cc).1.1.1.1.row,(hu3 w2 cc).2⟩) hw.ok.nil hw.ok.cap hw.ok.max hw.ok.len hw.ok.s0 hw.ok.s1 hn9 (by have:=(rO fJ).len;omega) (PZ hq (rO fJ))).mono ?_;rintro _ w2 ⟨k,rfl,ch,⟨rfl,i_,a2,c2,wK,st2,jM,r_,rX⟩|⟨rfl,i_,wK⟩⟩
 ·refine⟨vv (.bool true),_,_,rfl,ch,wK,st2,r [] rfl fun _=>dt rfl fun w3 hS=> ?_⟩;let u2:Nv:={u with da:=a2,dc:=c2,dl:=u.dl++cp (dz l.q B8 (u.m l.q).B.es.length),af:= .func (.func 102) #[] #[.pointer (some ⟨α 0,0,none⟩),.pointer (some ⟨α 1,0,none⟩),.pointer (some ⟨R5,0,none⟩)],ax:=some (.take l B8),ad:=⟨α 0,α 1,R5,0,P,a,c,⟨B8,a8,c8,g8⟩⟩};replace hS:=((hS.take 1).add (hS.kept 4 rfl 1 (cR rfl))).add (hS.kept 1 rfl 1 (cR rfl))|>.add (hS.kept 2 rfl 1 (cR rfl))
  replace hS:=hS.congr 0 rfl (mC X u2) (fun i _=>by simp only[u2,mC,List.length_append];rfl);exact⟨rfl,u2,v,F,Dn.fin hS hw.ub hw.nu (fun _ h=>⟨⟨by rw[Ag];exact h.1.1.1.2,h.1.1.1.1.1.1.1.1.mo,⟨rfl,h.1.1.2,h.1.2,h.2,h.1.1.1.1.1.1.2,h.1.1.1.1.1.2,rfl⟩,h.1.1.1.1.1.1.1.1.wl⟩,h.1.1.1.1.1.1.1.2⟩) (⟨hw.ok.ok,r_,by rw[Ag];exact jM,rX,by rw[Ag];exact i_,hw.ok.s0,by rw[Ag];show u.sy≤_;have:=hw.ok.s1;omega,hw.ok.i5,⟨hq,rO fJ⟩⟩) rfl rfl rfl rfl rfl (by rw[Jz fJ uk i_]) (by rw[Jz fJ uk i_])⟩
 ·refine⟨vv (.bool false),_,fun _=>True,rfl,ch,wK,fun _ _=>trivial,r [] rfl fun _=>dt rfl fun w hS=> ?_⟩;exact⟨rfl,u,v,F,Dn.fin hS hw.ub hw.nu (fun _ h=>⟨h.1.1.1.1.1,h.1.1.1.1.2⟩) hw.ok rfl rfl rfl rfl rfl (by rw[Fa fJ uk i_]) (by rw[Fa fJ uk i_])⟩
end
theorem aaB{l:Lt}(h:eY l):∃g,Js l.kd=some g∧TO g l:=by
 rcases h.kd with hk|hk|hk|hk|hk
 ·refine⟨57,by rw[hk];decide,by kernel_rfl,fun X N u v F U w P a c hw hl h1 h2=> ?_⟩;have e:∀n s,bm n s l=gD n s l:=fun n s=>by simp[bm,hk]
  rw[e];exact TI X N u v F U w hw P l a c h.q h.op hl h1 h2
 ·refine⟨58,by rw[hk];decide,by kernel_rfl,fun X N u v F U w P a c hw hl h1 h2=> ?_⟩;have e:∀n s,bm n s l=gE n s l:=fun n s=>by simp[bm,hk]
  rw[e];exact TG X N u v F U w hw P l a c h.q hl h1 h2
 ·refine⟨59,by rw[hk];decide,by kernel_rfl,fun X N u v F U w P a c hw hl h1 h2=> ?_⟩;have e:∀n s,bm n s l=fj n s l:=fun n s=>by simp[bm,hk]
  rw[e];exact TH X N u v F U w hw P l a c h.q hl h1 h2
 ·refine⟨60,by rw[hk];decide,by kernel_rfl,fun X N u v F U w P a c hw hl h1 h2=> ?_⟩;have e:∀n s,bm n s l=takeN n s l:=fun n s=>by simp[bm,hk]
  rw[e];exact XF X N u v F U w hw P l a c h.q h.es hl
 ·refine⟨61,by rw[hk];decide,by kernel_rfl,fun X N u v F U w P a c hw hl h1 h2=> ?_⟩;have e:∀n s,bm n s l=gF n s l:=fun n s=>by simp[bm,hk]
  rw[e];exact TF X N u v F U w hw P l a c h.q hl
def fK(s:tK)(b:Nat):Prop:=∃o n c,s= .slice (some ⟨b,o,none⟩) n c
theorem fC.blk{w:tA}{B:Nat}{s:tK}{ls:List Lr}(h:fC w B s ls){b:Nat}(hb:fK s b):b=B:=by
 obtain⟨o,n,c,rfl⟩:=hb;obtain⟨a,c',he,_,_,⟨rfl,_⟩|⟨o',n',f,rfl,_⟩⟩:=h.ex
 ·cases he
 ·cases he;rfl
theorem fC.still{w w':tA}{B:Nat}{s:tK}{ls:List Lr}(h:fC w B s ls)(hb:fK s B→w'.heap[B]? =w.heap[B]?):fC w' B s ls:=by
 obtain⟨a,c,rfl,hl,hm,⟨rfl,rfl⟩|⟨o,n,f,rfl,fb,hn,hk⟩⟩:=h.ex
 ·exact⟨none,0,rfl,hl,hm,.inl ⟨rfl,rfl⟩⟩
 ·exact⟨_,c,rfl,hl,hm,.inr ⟨o,n,f,rfl,fb.same (hb ⟨_,_,_,rfl⟩),hn,hk⟩⟩
theorem fC.lt{w:tA}{B:Nat}{s:tK}{ls:List Lr}(h:fC w B s ls){b:Nat}(hb:fK s b):b<w.heap.size:=by
 obtain⟨o,n,c,rfl⟩:=hb;obtain⟨a,c',he,_,_,⟨rfl,_⟩|⟨o',n',f,rfl,fb,_⟩⟩:=h.ex
 ·cases he
 ·cases he;exact fb.lt
theorem fC.any{w:tA}{B C:Nat}{s:tK}{ls:List Lr}(h:fC w B s ls)(hn:¬fK s B):fC w C s ls:=by
 obtain⟨a,c,rfl,hl,hm,⟨rfl,rfl⟩|⟨o,n,f,rfl,fb,_,hk⟩⟩:=h.ex
 ·exact⟨none,0,rfl,hl,hm,.inl ⟨rfl,rfl⟩⟩
 ·exact absurd ⟨_,_,_,rfl⟩ hn
theorem JA{w':tA}{R c n o:Nat}{ls:List Lr}{r:Lr}{f:tD}(hl:ls.length+1≤c)(hm:c≤maxLen)(fb:bh w' R 148 n f)(hn:o+c≤n)(h1:∀k r,ls[k]? =some r→f (o+k)=lp r.p)(h2:f (o+ls.length)=lp r.p):fC w' R (.slice (some ⟨R,o,none⟩) (ls.length+1) c) (ls++[r]):=by
 refine⟨_,c,by rw[Ag,BV],by rw[Ag,BV];exact hl,hm,.inr ⟨o,n,f,rfl,fb,hn,fun k x hx=> ?_⟩⟩;by_cases hk:k<ls.length
 ·rw[AZ hk]at hx;exact h1 k x hx
 ·rw[AQ (by omega)]at hx;have h0:=(Ap.1 hx).1;rw[BV]at h0;obtain rfl:k=ls.length:=by omega
  simp only[Nat.sub_self,List.getElem?_cons_zero,Option.some.injEq]at hx;rw[←hx];exact h2
section
variable{P:tY}{ops:tP}{Q:tI}{V:tW}{fx fl:tW}{n:Nat}{f:tD}{w:tA}{i:Nat}{t:Ord}{o:Oper}{d:Nat}
theorem af_{s lD b B:Nat}{x y:tU}{g:tD}{v:tK}{ls:List Lr}{r:Lr}(ht:jI P s 148 1 lD=true)(hr:fC w B v ls)(hl:(ls.length+1)*lD≤140737488355328)(wI:ls.length+1≤maxLen)(fb:bh w b 148 1 g)(hg:g 0=lp r.p)(PF:fx.contains i=true)(ho:ops[i]? =some o)(hd:o.dst=some d)(hw:Region.wanted o (yielded ops (ly n f))=true)(hK:jq n ops=true)(hp:o.op= .call ⟨.builtin .append,#[x,y],#[s,s]⟩)(hx:ev f x=v)(hy:ev f y= .slice (some ⟨b,0,none⟩) 1 1)
  (h:∀w' v' B',fC w' B' v' (ls++[r])→dB (fK v) w w'→(∀b,fK v' b→fK v b∨w.heap.size≤b)→WF P ops Q V fx fl t n (up f d v') w'):WF P ops Q V fx fl (.ef i t) n f w:=by
 obtain⟨hu,ti,z,hi,hz,hs,Dt,Mj,js⟩:=Eg ht;have qB:∀u∈cE g 0 1,u.oneCell'=true:=fun u hu=>by
  simp only[cE,List.mem_map,List.mem_range,Nat.zero_add]at hu;obtain⟨j,hj,rfl⟩:=hu;obtain rfl:j=0:=by omega
  rw[hg];rfl
 have hcut:cE g 0 1=[lp r.p]:=by simp[cE,hg]
 have grown:∀{v':tK} {w':tA},w'.ownsRow w.heap.size 148 1 v' (ls.length+1) ((ls.map fun r=>lp r.p)++[lp r.p])→∃R c,v'= .slice (some ⟨R,0,none⟩) (ls.length+1) c∧w.heap.size≤R∧fC w' R v' (ls++[r]):=fun {v' w'} ho=>by
  obtain⟨_,⟨e1,h0⟩|⟨R,c,cur,e1,hge,hb,rY,QZ,Oq,Lz⟩⟩:=ho
  ·omega
  ·refine⟨R,c,e1,hge, ?_⟩;rw[e1];have cell:∀j u,((ls.map fun r=>lp r.p)++[lp r.p])[j]? =some u→cur.getD j undef=u:=fun j u hj=>by
    rw[←Lz]at hj;rw[AO]at hj;split at hj
    ·rw[Cb,←BX,hj];rfl
    ·cases hj
   refine JA rY QZ (Fx hb Oq) (by omega) (fun k x hx=> ?_) ?_
   ·have hk:=(Ap.1 hx).1;exact cell (0+k) _ (by rw[Nat.zero_add,List.getElem?_append_left (by simpa using hk),List.getElem?_map,hx];rfl)
   ·exact cell (0+ls.length) _ (by rw[Aj,AQ (by simp)];simp)
 obtain⟨a,c,rfl,rY,hm,⟨rfl,rfl⟩|⟨off,m,f0,rfl,fB,hn,hk⟩⟩:=hr.ex
 ·obtain rfl:ls=[]:=AU.1 (by omega);have own:w.ownsRow w.heap.size 148 1 (.slice none 0 0) 0 []:=⟨by simp,.inl ⟨rfl,rfl⟩⟩;obtain⟨g1,cap,w1,uR,ho1,hgr,hat,aN⟩:=run_append_lies (P:=P) w s o.type w.heap.size 148 ti z 1 lD hu hi hz hs Dt Mj js _ 0 _ own ⟨b,0,none⟩ 1 1 (cE g 0 1) (by simp[bR]) (yr fb) qB (by omega) (by unfold maxLen;omega) (by simpa using hl) (Nat.le_refl _) w.heap.size rfl;rw[hcut]at ho1;obtain⟨R,c,e1,hge,dq⟩:=grown (v':= .slice (some ⟨g1,0,none⟩) (0+1) cap) ho1;refine o4 ho hd hw hK (sQ hp hx hy uR) (gq PF) (h _ _ R dq ⟨hgr.os,hgr.tape,hgr.output,hgr.size,fun x hx _=>hgr.block x hx (by simp[Value.ownBlock])⟩ fun b hb=> .inr ?_);rw[dq.blk hb];exact hge
 ·by_cases Fb:ls.length+1≤c
  ·have uR:=run_append_room_cells (P:=P) w s o.type 148 ti hu hi B off ls.length c ⟨b,0,none⟩ 1 1 (cE g 0 1) (by simp[bR,hs]) (yr fb) qB Fb (fun j hj=>by
    rw[bR]at hj
    rw[hs,fB.at _ (by omega)];rfl) (fun j _=>fB.free _)
   rw[hs,Cj]at uR;have tn:=aB.uu B (cE g 0 1) (off+ls.length) w;refine o4 ho hd hw hK (sQ hp hx hy uR) (gq PF) (h _ _ B (JA Fb hm (fB.put (off+ls.length) 1 g (by omega)) hn (fun k x hx=> ?_) ?_) ⟨tn.os,tn.tape,tn.output,Cc tn.size.symm,fun x _ hx=>tn.block x fun e=>hx (e▸⟨_,_,_,rfl⟩)⟩ fun b hb=> .inl ?_)
   ·rw[qg _ _ _ _ _ (.inl (by have:=(Ap.1 hx).1;omega))];exact hk k x hx
   ·have:=Fl f0 (off+ls.length) 1 g 0 (by omega);rw[Cn]at this;rw[this,hg]
   ·obtain⟨o1,n1,c1,e⟩:=hb;cases e;exact⟨_,_,_,rfl⟩
  ·obtain⟨v1,w1,uR,ho1,hgr⟩:=run_append_arg_grows (P:=P) w s o.type 148 ti z 1 lD hu hi hz hs Dt Mj js ⟨B,off,none⟩ ls.length c (ls.map fun r=>lp r.p) (by simp) (fun j u hj=>by
    rw[Ax]at hj;cases hx:ls[j]? with
    |none=>rw[hx]at hj;cases hj
    |some y=>
     rw[hx]at hj;cases hj;have aN:=(Ap.1 hx).1;rw[BM,fB.at _ (by omega),hk j y hx]) ⟨b,0,none⟩ 1 1 (cE g 0 1) (by simp[bR]) (yr fb) (by omega) wI hl
   rw[hcut]at ho1;obtain⟨R,c',e1,hge,dq⟩:=grown ho1;refine o4 ho hd hw hK (sQ hp hx hy uR) (gq PF) (h _ _ R dq ⟨hgr.os,hgr.tape,hgr.output,hgr.size,fun x hx _=>hgr.block x hx (by simp)⟩ fun b hb=> .inr ?_);rw[dq.blk hb];exact hge
end
section
open Rv
structure Tw(X N:Nat)(v:Wv)(F:tF)(B:Nat)(s0 s:tK)(ls:List Lr)(w0 x:tA):Prop where
 wo:WO x X v F
 mv:Mv (fun b=>b=N∨fK s0 b) w0 (fun b=>b=N∨fK s b) x
 rw:fC x B s ls
section
variable{P:tY}{ops:tP}{Q:tI}{V:tW}{fx fl:tW}{n:Nat}{f:tD}{w:tA}{i:Nat}{t:Ord}{o:Oper}{d:Nat}
theorem Tw.init{X N Tn nn B:Nat}{fN:tD}{v:Wv}{F:tF}{s:tK}{ls:List Lr}{G:tJ}(hW:WO w X v F)(hb:bh w N Tn nn fN)(hN:¬F N)(hr:fC w B s ls)(hs:∀b,fK s b→b≠N)(g:cm (fun b=>b=N∨fK s b) w G):Mem w [⟨N,Tn,nn,fN⟩] (fun b=>fK s b∨False) G (Tw X N v F B s s ls w):=by
 have hm:=Mem.begin (H:=[⟨N,Tn,nn,fN⟩]) (M:=fun b=>fK s b∨False) (G:=G) (fun e he=>by cases List.mem_singleton.1 he;exact hb) (by simp) (fun e he=>by cases List.mem_singleton.1 he;exact fun h=>h.elim (fun h=>hs _ h rfl) False.elim) (fun b h=>h.elim (fun h=>hr.lt h) False.elim) (fun w2 c2=>g w2 (c2.mono fun b h=>h.elim (fun h=> .inl (by simpa using h)) fun h=>h.elim .inr False.elim));refine⟨hm.g_,hm.oY,hm.off,hm.mlt,hm.g,fun w2 c2=> ?_⟩;have hc:dB (fun b=>b=N) w w2:=c2.mono fun b h=>by simpa using h
 exact⟨hW.Fu hc fun b e=>e▸hN,⟨hc.mono fun _=> .inl,fun _=> .inl,fun b h=>Am (h.elim (fun e=>e▸hb.lt) fun h=>hr.lt h) hc.size⟩,hr.still fun h=>hc.block B (hr.lt h) (hs B h)⟩
theorem aga{s lD b B X N Tn nn:Nat}{x y:tU}{g fN:tD}{v:Wv}{F:tF}{s0 vs:tK}{ls:List Lr}{r:Lr}{w0:tA}{G:tJ}(ht:jI P s 148 1 lD=true)(hS:Mem w [⟨N,Tn,nn,fN⟩] (fun b=>fK vs b∨False) G (Tw X N v F B s0 vs ls w0))(hF:∀b,fK vs b→¬F b)(hN:¬F N)(hl:(ls.length+1)*lD≤140737488355328)(wI:ls.length+1≤maxLen)(fb:bh w b 148 1 g)(hg:g 0=lp r.p)(PF:fx.contains i=true)(ho:ops[i]? =some o)(hd:o.dst=some d)(hw:Region.wanted o (yielded ops (ly n f))=true)(hK:jq n ops=true)(hp:o.op= .call ⟨.builtin .append,#[x,y],#[s,s]⟩)(hx:ev f x=vs)(hy:ev f y= .slice (some ⟨b,0,none⟩) 1 1)
  (h:∀w' v' B',Mem w' [⟨N,Tn,nn,fN⟩] (fun b=>fK v' b∨False) G (Tw X N v F B' s0 v' (ls++[r]) w0)→WF P ops Q V fx fl t n (up f d v') w'):WF P ops Q V fx fl (.ef i t) n f w:=by
 have aN:=(hS.at 0 rfl).lt;refine af_ ht hS.now.2.rw hl wI fb hg PF ho hd hw hK hp hx hy fun w' v' B' hr hc hb=>h w' v' B' ?_;have hmv:Mv (fK vs) w (fK v') w':=⟨hc,hb,fun b hb=>hr.lt hb⟩;refine hS.mv (F:=fK vs) (F':=fK v') (T:=fun _=>False) hmv fun w2 c2=> ?_;have jM:dB (fun b=>b=N) w' w2:=c2.mono fun b hb=>by simpa using hb
 have m2:Mv (fun b=>b=N∨fK vs b) w (fun b=>b=N∨fK v' b) w':=hmv.less (fun _=> .inr) fun b hb=>hb.elim (fun e=> .inr ⟨.inl e,e▸aN⟩) .inl;refine⟨(hS.now.2.wo.Fu hc hF).Fu jM fun b e=>e▸hN,(hS.now.2.mv.trans m2).trans ⟨jM.mono fun _=> .inl,fun _=> .inl,fun b hb=>Am (m2.l b hb) jM.size⟩,hr.still fun h1=>jM.block B' (hr.lt h1) fun e=> ?_⟩;rcases hb B' h1 with h2|h2
 ·exact hS.off _ (Ab.2 rfl) (.inl (e▸h2))
 ·exact absurd aN (Bb.2 (e▸h2))
end
namespace Rv
section
variable{n:Nat}{ops:tP}{f:Nat→AV}{fn:Func}{Rr:Ending→World→Prop}{Φ:tJ}{ks:List Fr}{t:Ord}{i d:Nat}{md:Md}
theorem ar{s lD b B X N Tn:Nat}{x y:AV}{g:tD}{v:Wv}{F:tF}{s0 vs:tK}{ls:List Lr}{w0:tA}{sg:List Sg}(r:Lr)(h1:Rz n ops f i=some (d,s,x,y))(ht:jI Tryz.prog s 148 1 lD=true)(hF:∀b,fK vs b→¬F b)(hN:¬F N)(hl:(ls.length+1)*lD≤140737488355328)(wI:ls.length+1≤maxLen)(fb:∀w,Φ w→bh w b 148 1 g)(hg:g 0=lp r.p)(hn:∀v' B',G Tryz.prog fn Rr n (fun b=>fK v' b∨False) Φ (Tw X N v F B' s0 v' (ls++[r]) w0) (.g md ops t::ks) (ua f d (vv v')) [⟨N,Tn,sg⟩])(hx:x.val=vs:=by rfl)(hy:y.val= .slice (some ⟨b,0,none⟩) 1 1:=by rfl)(Rs:md.vs.contains i=false:=by rfl):G Tryz.prog fn Rr n (fun b=>fK vs b∨False) Φ (Tw X N v F B s0 vs ls w0) (.g md ops (.ef i t)::ks) f [⟨N,Tn,sg⟩]:=by
 intro w hS hK;obtain⟨hK1,iC⟩:=bt.1 hK;show WF Tryz.prog ops (kq Tryz.prog fn Rr ks) md.va (o7 md ops) (vQ md ops) (.ef i t) n (cn f) w;obtain⟨o,p,r2,ho,hd,hw,hp,rfl,rfl⟩:=yU h1
 have Ho:(o7 md ops).contains i=true:=lE ho (by
  unfold nW;rw[Rs,hp]
  cases md.cb<;>rfl)
 refine aga (r:=r) ht hS hF hN hl wI (fb w hS.now.1) hg Ho ho hd (fF hw) (dU hK1).1 hp ((bC f p).symm.trans hx) ((bC f r2).symm.trans hy) fun w' v' B' DB=> ?_;have:=hn v' B' w' DB (bt.2 ⟨hK1,iC⟩);rw[jK]at this;exact this
end
end Rv
def toN(u:Nv)(r:Lr)(s:tK):Nv:=if u.ub=true then {u with wt:=s,wl:=u.wl++[r]}else u
theorem toNode_wo(X:Nat)(v:Wv)(F:tF)(w:tA)(N i:Nat)(u:Nv)(B:Nat)(P:Nat)(l:Lt)(a:tB)(c:Nat)(hi:i<5)(hd:l.dst=(i:Int))(hNi:v.nd i=N)(hW:WO w X v F)(EV:NB w X N u)(YQ:¬F N)(Ha:fC w B u.wt u.wl)(hbn:∀b,fK u.wt b→b≠N)(hbf:∀b,fK u.wt b→¬F b)(hl:cm (fun b=>b=N∨fK u.wt b) w fun w=>eN w P l a c)(hlen:u.wl.length≤1000000000000):cA 62 #[lp X,lp P] w fun x w'=>x= .returned (.tuple #[])∧∃u' B',u'=toN u ⟨P,l,a,c⟩ u'.wt∧NB w' X N u'∧fC w' B' u'.wt u'.wl∧Mv (fun b=>b=N∨fK u.wt b) w (fun b=>b=N∨fK u'.wt b) w':=by
 have hS:=Tw.init hW EV YQ Ha hbn hl;rcases mV:u.ub with _|_
 ·obtain⟨u1,rfl⟩:∃u1:Nv,u={u1 with ub:=false}:=⟨u,by rw[←mV]⟩;exact en (H:=[nE X N {u1 with ub:=false}]) 30 [vv (lp X),vv (lp P)] Tryz.func62 rfl rfl hS (r [1] rfl fun _=>l1 rfl (iV (i:Int)) (fun w hS=>by rw[←hd];exact hS.now.1.b.at 2 (cR rfl)) (r [1] rfl fun _=>l1 (q:=0+i*1) rfl (lp N) (fun w hS=>by rw[show 0+i*1=i by omega,←hNi];exact hS.now.2.wo.nd_ hi) (sv 13 (vp 0 0 N) rfl (r [] rfl fun _=>dt rfl fun w hS=>⟨rfl,_,B,rfl,hS.at 0 rfl,hS.now.2.rw,hS.now.2.mv⟩))))
 ·obtain⟨u1,rfl⟩:∃u1:Nv,u={u1 with ub:=true}:=⟨u,by rw[←mV]⟩;refine en (H:=[nE X N {u1 with ub:=true}]) 30 [vv (lp X),vv (lp P)] Tryz.func62 rfl rfl hS (r [1] rfl fun _=>l1 rfl (iV (i:Int)) (fun w hS=>by rw[←hd];exact hS.now.1.b.at 2 (cR rfl)) (r [1] rfl fun _=>l1 (q:=0+i*1) rfl (lp N) (fun w hS=>by rw[show 0+i*1=i by omega,←hNi];exact hS.now.2.wo.nd_ hi) (sv 13 (vp 0 0 N) rfl (r [] rfl fun α=>kp 1 rfl (ar ⟨P,l,a,c⟩ rfl gG hbf YQ (by omega) (by unfold maxLen;omega) (fun w h=>h.2) rfl fun v3 B3=> ?_)))));refine VP fun w1 yu=> ?_;obtain⟨a3,c3,rfl,_⟩:=yu.now.2.rw.ex;refine r [] rfl fun _=>gn 0 (mC X {u1 with ub:=true,wt:= .slice a3 (u1.wl++[(⟨P,l,a,c⟩:Lr)]).length c3,wl:=u1.wl++[⟨P,l,a,c⟩]}) ?_;exact dt rfl fun w hS=>⟨rfl,_,B3,rfl,hS.at 0 rfl,hS.now.2.rw,hS.now.2.mv⟩
end
def CM(k:Int):Option Nat:=if k=0∨k=2∨k=3∨k=4∨k=7 then some 62 else if k=1 then some 63 else if k=5 then some 64 else if k=6 then some 65 else none
def XG(w:tA)(X:Nat)(tk:tK):Prop:=∀k g,CM k=some g→(Instr.lookup 101 tk (iV k) false).run Tryz.prog w= .ok (.func (.func g) #[lp X] #[]) w
def CU(us:Nat→Nv)(v:Wv)(F:tF)(b:Nat):Prop:=F b∨(∃i,i<5∧b=v.nd i)∨∃i,i<5∧fK (us i).wt b
def CT(us:Nat→Nv)(v:Wv)(F:tF)(b:Nat):Prop:=CU us v F b∨b<v.nd 5
structure CW(w:tA)(X:Nat)(us:Nat→Nv)(v:Wv)(F:tF):Prop where
 wo:WO w X v F
 nb:∀i,i<5→NB w X (v.nd i) (us i)
 ok:∀i,i<5→(us i).Ok
 inj:∀i j,i<5→j<5→v.nd i=v.nd j→i=j
 nf:∀i,i<5→¬F (v.nd i)
 wr:∀i,i<5→∃B,fC w B (us i).wt (us i).wl
 wf:∀i b,i<5→fK (us i).wt b→¬F b
 wn:∀i b j,i<5→j<5→fK (us i).wt b→b≠v.nd j
 ww:∀i b j,i<5→j<5→fK (us i).wt b→fK (us j).wt b→i=j
 st:cm (CT us v F) w fun w=>((∀i,i<5→(us i).In w (v.nd i))∧∀r∈v.fl,oH w r)∧XG w X v.tk∧x_ w v.dd
 ln:v.nd 5≤w.heap.size
 lo:∀b,CU us v F b→v.nd 5≤b
section
variable{w w':tA}{X i:Nat}{us:Nat→Nv}{v v':Wv}{F F':tF}{u':Nv}
theorem CW.lt(h:CW w X us v F):∀b,CU us v F b→b<w.heap.size:=fun b hb=>by
 rcases hb with hb|⟨j,hj,rfl⟩|⟨j,hj,hb⟩
 ·exact h.wo.lt b hb
 ·exact(h.nb j hj).lt
 ·obtain⟨B,hr⟩:=h.wr j hj;exact hr.lt hb
theorem CW.Ml(h:CW w X us v F):∀b,CT us v F b→b<w.heap.size:=fun b hb=>hb.elim (h.lt b) fun e=>Am e h.ln
theorem CW.nw(h:CW w X us v F)(hi:i<5):NW w X (v.nd i) (us i) v F (CT us v F):=
 ⟨h.nb i hi,h.wo,h.nf i hi,h.Ml,fun _ hb=> .inl (.inl hb),.inl (.inr (.inl ⟨i,hi,rfl⟩)),h.ok i hi,fun w2 c2=>⟨(h.st w2 c2).1.1 i hi,(h.st w2 c2).1.2⟩⟩
theorem aI{α:Type}{m:Nat→α}{q j:Nat}{x:α}(h:¬j=q):ak m q x j=m j:=Aa h
theorem CW.put(h:CW w X us v F)(hi:i<5)(m:Mv (fun b=>F b∨b=v.nd i∨fK (us i).wt b) w (fun b=>F' b∨b=v.nd i∨fK u'.wt b) w')(LA:WO w' X v' F')(Fc:v'.nd=v.nd)(Lz:v'.tk=v.tk)(hdd:v'.dd=v.dd)(EV:NB w' X (v.nd i) u')(fw:u'.Ok)(YQ:¬F' (v.nd i))(Ha:∃B,fC w' B u'.wt u'.wl)(xu:∀b,fK u'.wt b→¬F' b)(hwn:∀b,fK u'.wt b→b≠v.nd i)(gV:cm (fun b=>CT us v F b∨F' b∨fK u'.wt b) w' fun w=>u'.In w (v.nd i)∧∀r∈v'.fl,oH w r):CW w' X (ak us i u') v' F':=by
 have oth:∀j b,j<5→¬j=i→(b=v.nd j∨fK (us j).wt b)→b<w.heap.size∧¬(F b∨b=v.nd i∨fK (us i).wt b):=fun j b hj hn hb=>by
  rcases hb with rfl|hb
  ·exact⟨(h.nb j hj).lt,fun e=>e.elim (h.nf j hj) fun e=>e.elim (fun e=>hn (h.inj j i hj hi e)) fun e=>h.wn i _ j hi hj e rfl⟩
  ·obtain⟨B,hr⟩:=h.wr j hj;exact⟨hr.lt hb,fun e=>e.elim (h.wf j b hj hb) fun e=>e.elim (h.wn j b i hj hi hb) fun e=>hn (h.ww j b i hj hi hb e)⟩
 have TX:∀j b,j<5→¬j=i→(b=v.nd j∨fK (us j).wt b)→¬(F' b∨b=v.nd i∨fK u'.wt b):=fun j b hj hn hb hf=>(m.f b hf).elim (oth j b hj hn hb).2 fun x=>absurd (oth j b hj hn hb).1 (Bb.2 x);have hCU:∀b,(F b∨b=v.nd i∨fK (us i).wt b)→CU us v F b:=fun b hb=>hb.imp id fun hb=>hb.imp (fun e=>⟨i,hi,e⟩) fun e=>⟨i,hi,e⟩;have hs:=h.st.mv m (fun b hb=> .inl (hCU b hb));refine⟨LA,fun j hj=> ?_,fun j hj=> ?_,fun j k hj hk=>Fc▸h.inj j k hj hk,fun j hj=> ?_,fun j hj=> ?_,fun j b hj hb=> ?_,fun j b k hj hk hb=> ?_,fun j b k hj hk hb hc=> ?_,fun w2 c2=> ?_,by rw[Fc];exact AN h.ln m.c.size,fun b hb=> ?_⟩
 ·rw[Fc];by_cases e:j=i
  ·rw[e,aj];exact EV
  ·rw[aI e];exact(h.nb j hj).same (m.c.block _ (h.nb j hj).lt (oth j _ hj e (.inl rfl)).2)
 ·by_cases e:j=i
  ·rw[e,aj];exact fw
  ·rw[aI e];exact h.ok j hj
 ·rw[Fc];by_cases e:j=i
  ·rw[e];exact YQ
  ·exact fun hf=>TX j _ hj e (.inl rfl) (.inl hf)
 ·by_cases e:j=i
  ·rw[e,aj];exact Ha
  ·rw[aI e];obtain⟨B,hr⟩:=h.wr j hj;exact⟨B,hr.still fun hb=>m.c.block _ (hr.lt hb) (oth j B hj e (.inr hb)).2⟩
 ·by_cases e:j=i
  ·rw[e,aj]at hb;exact xu b hb
  ·rw[aI e]at hb;exact fun hf=>TX j b hj e (.inr hb) (.inl hf)
 ·rw[Fc];by_cases e:j=i
  ·rw[e,aj]at hb;by_cases e2:k=i
   ·rw[e2];exact hwn b hb
   ·exact fun e3=>TX k b hk e2 (.inl e3) (.inr (.inr hb))
  ·rw[aI e]at hb;exact h.wn j b k hj hk hb
 ·by_cases e:j=i
  ·by_cases e2:k=i
   ·rw[e,e2]
   ·rw[e,aj]at hb;rw[aI e2]at hc;exact absurd (.inr (.inr hb)) (TX k b hk e2 (.inr hc))
  ·rw[aI e]at hb;by_cases e2:k=i
   ·rw[e2,aj]at hc;exact absurd (.inr (.inr hc)) (TX j b hj e (.inr hb))
   ·rw[aI e2]at hc;exact h.ww j b k hj hk hb hc
 ·have c3:dB (fun b=>CT us v F b∨F' b∨fK u'.wt b) w' w2:=c2.mono fun b hb=>by
   rcases hb with(hb|⟨j,hj,e⟩|⟨j,hj,hb⟩)|hb
   ·exact .inr (.inl hb)
   ·exact .inl (.inl (.inr (.inl ⟨j,hj,Fc▸e⟩)))
   ·by_cases e:j=i
    ·rw[e,aj]at hb;exact .inr (.inr hb)
    ·rw[aI e]at hb;exact .inl (.inl (.inr (.inr ⟨j,hj,hb⟩)))
   ·exact .inl (.inr (Fc▸hb))
  have h1:=hs w2 (c3.mono fun b hb=>hb.imp id fun hb=>hb.imp id .inr);have h2:=gV w2 c3;rw[Lz,hdd];refine⟨⟨fun j hj=> ?_,h2.2⟩,h1.2⟩;rw[Fc];by_cases e:j=i
  ·rw[e,aj];exact h2.1
  ·rw[aI e];exact h1.1.1 j hj
 ·rw[Fc];have uk:(F' b∨b=v.nd i∨fK u'.wt b)→v.nd 5≤b:=fun hb=>(m.f b hb).elim (fun e=>h.lo b (hCU b e)) fun e=>AN h.ln e;rcases hb with hb|⟨j,hj,e⟩|⟨j,hj,hb⟩
  ·exact uk (.inl hb)
  ·rw[Fc]at e;exact h.lo b (.inr (.inl ⟨j,hj,e⟩))
  ·by_cases e:j=i
   ·rw[e,aj]at hb;exact uk (.inr (.inr hb))
   ·rw[aI e]at hb;exact h.lo b (.inr (.inr ⟨j,hj,hb⟩))
end
noncomputable def bH(ns:Nat→Nd)(s:Ws)(l:Lt):(Nat→Nd)×Ws:=
 if l.kd=1 then(ns,{s with td:=s.td++[⟨l.nu,l.an,l.pn,l.pe⟩]})
 else if l.kd=5 then(ns,ko (dI s l) l)
 else if l.kd=6 then(ns,ko s l)
 else(ak ns l.dst.toNat (if(ns l.dst.toNat).up=true then {ns l.dst.toNat with wt:=(ns l.dst.toNat).wt++[l]}else ns l.dst.toNat),s)
structure TY(l:Lt):Prop where
 kd:l.kd=1∨(l.kd=5∧l.q<4∧-1000000000≤l.ep∧l.ep≤1000000000)∨(l.kd=6∧l.q<4)∨(eY l∧0≤l.dst∧l.dst<5)
structure Cd(w:tA)(X:Nat)(us:Nat→Nv)(v:Wv)(F:tF)(r:(Nat→Nd)×Ws)(qH:Nat→Nv)(v':Wv)(F':tF)(w':tA):Prop where
 cw:CW w' X qH v' F'
 mv:Mv (CU us v F) w (CU qH v' F') w'
 nd:v'.nd=v.nd
 tk:v'.tk=v.tk
 dd:v'.dd=v.dd
 n:(fun i=>(qH i).pure)=r.1
 s:v'.pure=r.2
section
variable{w w':tA}{X i:Nat}{us:Nat→Nv}{v v':Wv}{F F':tF}{u':Nv}
theorem CW.mvs(h:CW w X us v F)(hi:i<5)(m:Mv (fun b=>F b∨b=v.nd i∨fK (us i).wt b) w (fun b=>F' b∨b=v.nd i∨fK u'.wt b) w')(Fc:v'.nd=v.nd):Mv (CU us v F) w (CU (ak us i u') v' F') w':=by
 refine m.less (fun b hb=>hb.imp id fun hb=>hb.imp (fun e=>⟨i,hi,e⟩) fun e=>⟨i,hi,e⟩) fun b hb=> ?_;rcases hb with hb|⟨j,hj,e⟩|⟨j,hj,hb⟩
 ·exact .inl (.inl hb)
 ·rw[Fc]at e;have hc:CU us v F b:= .inr (.inl ⟨j,hj,e⟩);exact .inr ⟨hc,h.lt b hc⟩
 ·by_cases e:j=i
  ·rw[e,aj]at hb;exact .inl (.inr (.inr hb))
  ·rw[aI e]at hb;have hc:CU us v F b:= .inr (.inr ⟨j,hj,hb⟩);exact .inr ⟨hc,h.lt b hc⟩
theorem eO{α:Type}(m:Nat→α)(q:Nat):ak m q (m q)=m:=by
 funext j;by_cases e:j=q
 ·rw[e,aj]
 ·exact aI e
theorem oP(us:Nat→Nv)(i:Nat)(u':Nv):(fun j=>(ak us i u' j).pure)=ak (fun j=>(us j).pure) i u'.pure:=by
 funext j;by_cases e:j=i
 ·rw[e,aj,aj]
 ·rw[aI e,aI e]
theorem CW.world(h:CW w X us v F)(m:Mv F w F' w')(LA:WO w' X v' F')(Fc:v'.nd=v.nd)(Lz:v'.tk=v.tk)(hdd:v'.dd=v.dd)(gV:cm (fun b=>CT us v F b∨F' b) w' fun w=>∀r∈v'.fl,oH w r):CW w' X us v' F'∧Mv (CU us v F) w (CU us v' F') w':=by
 have h0:(0:Nat)<5:=by decide
 have aN:=h.lt;have vR:∀b,(b=v.nd 0∨fK (us 0).wt b)→CU us v F b:=fun b hb=> .inr (hb.imp (fun e=>⟨0,h0,e⟩) fun e=>⟨0,h0,e⟩);have Ka:∀b,(b=v.nd 0∨fK (us 0).wt b)→¬F b:=fun b hb=>hb.elim (fun e=>e▸h.nf 0 h0) (h.wf 0 b h0);have m':Mv (fun b=>F b∨b=v.nd 0∨fK (us 0).wt b) w (fun b=>F' b∨b=v.nd 0∨fK (us 0).wt b) w':=m.less (fun _=> .inl) fun b hb=>hb.imp id fun hb=>⟨.inr hb,aN b (vR b hb)⟩;have pt:∀b,(b=v.nd 0∨fK (us 0).wt b)→¬F' b:=fun b hb hf=>(m.f b hf).elim (Ka b hb) fun x=>absurd (aN b (vR b hb)) (Bb.2 x);have hs:=h.st.mv m (fun b hb=> .inl (.inl hb));obtain⟨B,hr⟩:=h.wr 0 h0
 have NA:=h.put (u':=us 0) h0 m' LA Fc Lz hdd ((h.nb 0 h0).same (m.c.block _ (h.nb 0 h0).lt (h.nf 0 h0))) (h.ok 0 h0) (pt _ (.inl rfl)) ⟨B,hr.still fun hb=>m.c.block B (hr.lt hb) (Ka B (.inr hb))⟩ (fun b hb=>pt b (.inr hb)) (fun b hb=>h.wn 0 b 0 h0 h0 hb) (fun w2 c2=>by
  have c3:dB (fun b=>CT us v F b∨F' b) w' w2:=c2.mono fun b hb=>hb.elim .inl fun hb=>hb.elim .inr fun hb=> .inl (.inl (vR b (.inr hb)))
  exact⟨(hs w2 c3).1.1 0 h0,gV w2 c3⟩)
 have hmv:=h.mvs (u':=us 0) (v':=v') h0 m' Fc;rw[eO]at NA hmv;exact⟨NA,hmv⟩
theorem toNode_cw(h:CW w X us v F){P:Nat}{l:Lt}{a:tB}{c:Nat}(hl:cm (CT us v F) w fun w=>eN w P l a c)(hi:i<5)(hd:l.dst=(i:Int))(hlen:(us i).wl.length≤1000000000000):cA 62 #[lp X,lp P] w fun x w'=>x= .returned (.tuple #[])∧∃u',CW w' X (ak us i u') v F∧Mv (CU us v F) w (CU (ak us i u') v F) w'∧u'.pure=if(us i).ub=true then {(us i).pure with wt:=(us i).pure.wt++[l]}else(us i).pure:=by
 obtain⟨B,hr⟩:=h.wr i hi;have DV:∀b,(b=v.nd i∨fK (us i).wt b)→CU us v F b:=fun b hb=> .inr (hb.imp (fun e=>⟨i,hi,e⟩) fun e=>⟨i,hi,e⟩);refine(toNode_wo X v F w (v.nd i) i (us i) B P l a c hi hd rfl h.wo (h.nb i hi) (h.nf i hi) hr (fun b hb=>h.wn i b i hi hi hb) (fun b hb=>h.wf i b hi hb) (hl.mono fun b _ hb=> .inl (DV b hb)) hlen).mono ?_;rintro x w' ⟨rfl,u',B',hu,EV,Ha,m⟩;have hF:∀b,F b→b<w.heap.size∧¬(b=v.nd i∨fK (us i).wt b):=fun b hb=>⟨h.wo.lt b hb,fun e=>e.elim (fun e=>h.nf i hi (e▸hb)) fun e=>h.wf i b hi e hb⟩;have m':Mv (fun b=>F b∨b=v.nd i∨fK (us i).wt b) w (fun b=>F b∨b=v.nd i∨fK u'.wt b) w':=m.less (fun _=> .inr) fun b hb=>hb.elim (fun hb=> .inr ⟨.inl hb,h.wo.lt b hb⟩) .inl;have LA:WO w' X v F:=h.wo.still fun b hb=>m.c.block b (hF b hb).1 (hF b hb).2;have hs:=h.st.mv m (fun b hb=> .inl (DV b hb));have hl':=hl.mv m (fun b hb=> .inl (DV b hb));have J_:∀w,((us i).In w (v.nd i))→eN w P l a c→u'.In w (v.nd i):=fun w h1 h2=>by
  rw[hu];unfold toN;split
  ·exact⟨h1.row,h1.mo,h1.af,gf h1.wl h2⟩
  ·exact h1
 have fw:u'.Ok:=by
  have h1:=h.ok i hi;rw[hu];unfold toN;split
  ·exact⟨h1.ok,h1.nil,h1.cap,h1.max,h1.len,h1.s0,h1.s1,h1.i5,h1.Tq⟩
  ·exact h1
 have hp:u'.pure=if(us i).ub=true then {(us i).pure with wt:=(us i).pure.wt++[l]}else(us i).pure:=by
  rw[hu];unfold toN;split
  ·show Nd.mk .. =Nd.mk ..;simp only[List.map_append,List.map_cons,List.map_nil]
  ·rfl
 have adb:∀b,fK u'.wt b→¬F b∧b≠v.nd i:=fun b hb=>by
  have hbN:b≠v.nd i:=fun e=>by
   obtain rfl:=Ha.blk hb;obtain⟨o,n,c',e1⟩:=hb;obtain⟨a',c2,e',_,_,⟨rfl,_⟩|⟨o',n',f,rfl,fb,_⟩⟩:=Ha.ex
   ·rw[e1]at e';cases e'
   ·have fx:=EV;rw[e]at fb;unfold NB bh at fx;unfold bh at fb;rw[fb]at fx;simp at fx
  refine⟨fun hf=> ?_,hbN⟩;rcases m.f b (.inr hb)with e|e
  ·exact(hF b hf).2 e
  ·exact absurd (hF b hf).1 (Bb.2 e)
 refine⟨rfl,u',h.put hi m' LA rfl rfl rfl EV fw (h.nf i hi) ⟨B',Ha⟩ (fun b hb=>(adb b hb).1) (fun b hb=>(adb b hb).2) (fun w2 c2=> ?_),h.mvs hi m' rfl,hp⟩;have c3:dB (fun b=>CT us v F b∨b=v.nd i∨fK u'.wt b) w' w2:=c2.mono fun b hb=>hb.elim .inl fun hb=>hb.elim (fun hb=> .inl (.inl (.inl hb))) fun hb=> .inr (.inr hb);exact⟨J_ w2 ((hs w2 c3).1.1 i hi) (hl' w2 c3),(hs w2 c3).1.2⟩
theorem JB(v:Wv)(l:Lt):((oL v l).nd=v.nd∧(oL v l).tk=v.tk∧(oL v l).dd=v.dd)∧(oL v l).fl=v.fl∧(oL v l).pure=dI v.pure l:=by
 unfold oL dI;by_cases h:bN v.pn v.pe∧¬v.pn l.q= -1∧wm (v.pn l.q) (v.pe l.q) (l.ep-1) l.fr=0
 ·rw[Ae h,Ae h];exact⟨⟨rfl,rfl,rfl⟩,rfl,rfl⟩
 ·rw[Aa h,Aa h];exact⟨⟨rfl,rfl,rfl⟩,rfl,rfl⟩
theorem vr(h:CW w X us v F){P:Nat}{l:Lt}{a:tB}{c:Nat}(hl:cm (CT us v F) w fun w=>eN w P l a c)(ok:TY l)(iG:v.fl.length≤1000000000000)(htd:v.td.length≤1000000000000)(pZ:∀i,i<5→(us i).wl.length≤1000000000000):∃g,CM l.kd=some g∧cA g #[lp X,lp P] w fun x w'=>x= .returned (.tuple #[])∧∃qH v' F',Cd w X us v F (bH (fun i=>(us i).pure) v.pure l) qH v' F' w':=by
 have aN:=h.Ml;have sf:∀b,F b→CT us v F b:=fun _ hb=> .inl (.inl hb);rcases ok.kd with hk|⟨hk,hq,he0,he1⟩|⟨hk,hq⟩|⟨hw,h0,h5⟩
 ·refine⟨63,by rw[hk];decide,(toClient_wo X v F _ w P l a c h.wo aN sf hl htd).mono ?_⟩;rintro x w' ⟨rfl,F',LA,m⟩;have hs:=h.st.mv m sf;obtain⟨h1,h2⟩:=h.world m LA rfl rfl rfl (fun w2 c2=>(hs w2 c2).1.2);exact⟨rfl,us,_,F',⟨h1,h2,rfl,rfl,rfl,by simp[bH,hk],by simp[bH,hk]⟩⟩
 ·refine⟨64,by rw[hk];decide,(Xi X v F _ w P l a c hq he0 he1 h.wo aN sf hl iG).mono ?_⟩;rintro x w' ⟨rfl,P',F',LA,m,gV⟩;have hs:=h.st.mv m sf;obtain⟨⟨k1,k2,k3⟩,k4,k5⟩:=JB v l;obtain⟨h1,h2⟩:=h.world m LA k1 k2 k3 (fun w2 c2=>gf (hs w2 c2).1.2 (gV w2 c2));refine⟨rfl,us,_,F',⟨h1,h2,k1,k2,k3,by simp[bH,hk], ?_⟩⟩;simp only[bH,hk];rw[Aa (by decide),Ae trivial,←k5];show Ws.mk .. =Ws.mk ..;simp only[List.map_append,List.map_cons,List.map_nil,k4]
 ·refine⟨65,by rw[hk];decide,(Nr X v F _ w P l a c hq h.wo aN sf hl iG).mono ?_⟩;rintro x w' ⟨rfl,P',F',LA,m,gV⟩;have hs:=h.st.mv m sf;obtain⟨h1,h2⟩:=h.world m LA rfl rfl rfl (fun w2 c2=>gf (hs w2 c2).1.2 (gV w2 c2));refine⟨rfl,us,_,F',⟨h1,h2,rfl,rfl,rfl,by simp[bH,hk], ?_⟩⟩;simp only[bH,hk];rw[Aa (by decide),Aa (by decide),Ae trivial,kG];rfl
 ·obtain⟨i,hd⟩:∃i:Nat,l.dst=(i:Int):=⟨l.dst.toNat,by omega⟩;have hi:i<5:=by omega
  have hto:l.dst.toNat=i:=by omega
  refine⟨62,by rcases hw.kd with hk|hk|hk|hk|hk<;>rw[hk]<;>decide,(toNode_cw h hl hi hd (pZ i hi)).mono ?_⟩
  rintro x w' ⟨rfl,u',h1,h2,h3⟩;have e:bH (fun i=>(us i).pure) v.pure l=(ak (fun i=>(us i).pure) i u'.pure,v.pure):=by
   unfold bH;rw[Aa (by rcases hw.kd with hk|hk|hk|hk|hk<;>rw[hk]<;>decide),Aa (by rcases hw.kd with hk|hk|hk|hk|hk<;>rw[hk]<;>decide),Aa (by rcases hw.kd with hk|hk|hk|hk|hk<;>rw[hk]<;>decide),hto,h3]
  exact⟨rfl,_,v,F,⟨h1,h2,rfl,rfl,rfl,by rw[e,oP],by rw[e]⟩⟩
end
section
variable{w w':tA}{X i:Nat}{us:Nat→Nv}{v v':Wv}{F F':tF}{u':Nv}
theorem CW.next(h:CW w X us v F)(c:bZ w w'):CW w' X us v F:=by
 have same:∀b,CU us v F b→w'.heap[b]? =w.heap[b]? :=fun b hb=>c.block b (h.lt b hb);refine⟨h.wo.still fun b hb=>same b (.inl hb),fun j hj=>(h.nb j hj).same (same _ (.inr (.inl ⟨j,hj,rfl⟩))),h.ok,h.inj,h.nf,fun j hj=> ?_,h.wf,h.wn,h.ww,h.st.next c,AN h.ln c.size,h.lo⟩;obtain⟨B,hr⟩:=h.wr j hj;exact⟨B,hr.still fun hb=>same B (.inr (.inr ⟨j,hj,hb⟩))⟩
theorem Cd.trans{w w1 w2:tA}{us Vt Kf:Nat→Nv}{v v1 v2:Wv}{F F1 F2:tF}{r r2:(Nat→Nd)×Ws}(h:Cd w X us v F r Vt v1 F1 w1)(k:Cd w1 X Vt v1 F1 r2 Kf v2 F2 w2):Cd w X us v F r2 Kf v2 F2 w2:=
 ⟨k.cw,h.mv.trans k.mv,k.nd.trans h.nd,k.tk.trans h.tk,k.dd.trans h.dd,k.n,k.s⟩
theorem XH(h:CW w X us v F)(k nd:Int)(q:Nat)(pl kp:Int)(e:Ev)(hlen:v.fl.length≤1000000000000)(Oq:v.cs≤1000000000000)(VI:0≤v.cs):cA 45 #[lp X,vF (lF [iV k,iV nd,iV (q:Int),iV pl,iV kp,iV e.k,iV e.p,iV e.i,iV e.b,iV e.he,iV e.hn]) 11] w fun x w'=>x= .returned (.tuple #[])∧∃qH v' F',Cd w X us v F (fun i=>(us i).pure,{e_ v.pure (vm nd q v.cs e)with cs:=v.cs+1}) qH v' F' w':=by
 refine(Xj X v F _ w k nd q pl kp e h.wo h.Ml (fun _ hb=> .inl (.inl hb)) hlen Oq VI).mono ?_;rintro x w' ⟨rfl,P',F',LA,m,gV⟩;have hs:=h.st.mv m fun _ hb=> .inl (.inl hb);obtain⟨h1,h2⟩:=h.world m LA rfl rfl rfl (fun w2 c2=>gf (hs w2 c2).1.2 (gV w2 c2));refine⟨rfl,us,_,F',⟨h1,h2,rfl,rfl,rfl,rfl, ?_⟩⟩;show(⟨v.pn,v.pe,(v.fl++[(⟨P',vm nd q v.cs e,none,0⟩:Lr)]).map Lr.l,v.cs+1,v.sv,v.td⟩:Ws)=⟨v.pn,v.pe,v.fl.map Lr.l++[vm nd q v.cs e],v.cs+1,v.sv,v.td⟩;rw[AE];rfl
end
theorem xL(s:Ws)(l:Lt):(dI s l).fl=s.fl∧(dI s l).cs=s.cs∧(dI s l).sv=s.sv∧(dI s l).td=s.td:=by
 unfold dI;split<;>exact⟨rfl,rfl,rfl,rfl⟩
theorem LB(ns:Nat→Nd)(s:Ws)(l:Lt):((bH ns s l).2.fl.length≤s.fl.length+1∧(bH ns s l).2.td.length≤s.td.length+1∧(bH ns s l).2.sv=s.sv∧(bH ns s l).2.cs=s.cs)∧∀i,((bH ns s l).1 i).wt.length≤(ns i).wt.length+1∧((bH ns s l).1 i).tu=(ns i).tu:=by
 have hf:=xL s l;unfold bH;split
 ·exact⟨⟨BJ _,by simp,rfl,rfl⟩,fun i=>⟨BJ _,rfl⟩⟩
 ·split
  ·refine⟨⟨?_, ?_, ?_, ?_⟩,fun i=>⟨BJ _,rfl⟩⟩
   ·simp[ko,e_,hf.1]
   ·simp[ko,e_,hf.2.2.2]
   ·simp[ko,e_,hf.2.2.1]
   ·simp[ko,e_,hf.2.1]
  ·split
   ·exact⟨⟨by simp[ko,e_],by simp[ko,e_],rfl,rfl⟩,fun i=>⟨BJ _,rfl⟩⟩
   ·refine⟨⟨BJ _,BJ _,rfl,rfl⟩,fun i=> ?_⟩;by_cases e:i=l.dst.toNat
    ·subst e;simp only[aj];split
     ·exact⟨by simp,rfl⟩
     ·exact⟨BJ _,rfl⟩
    ·simp only[aI e];exact⟨BJ _,trivial⟩
section
open Rv
theorem XI{w:tA}{T g n c j:Nat}{L:tM}{x:tK}(h:w.ownsRow 0 T 1 (.slice (some ⟨g,0,none⟩) n c) n L)(hj:L[j]? =some x):w.cell? ⟨g,j,none⟩=some x:=by
 obtain⟨_,⟨e,_⟩|⟨g',c',cur,e,_,hb,_,_,_,Lz⟩⟩:=h
 ·cases e
 ·cases e;rw[←Lz,AO]at hj;split at hj
  ·simp only[World.cell?,hb];rw[←BX];simpa using hj
  ·cases hj
theorem LD{w:tA}{T n:Nat}{L:tM}{v:tK}(h:w.ownsRow 0 T 1 v n L):∃a c,v= .slice a n c∧(0<n→∃g,a=some ⟨g,0,none⟩):=by
 obtain⟨_,⟨e,h0⟩|⟨g,c,cur,e,_⟩⟩:=h
 ·exact⟨none,0,by rw[e,h0],fun h=>by omega⟩
 ·exact⟨_,c,e,fun _=>⟨g,rfl⟩⟩
noncomputable def P3(ns:Nat→Nd)(s:Ws):(Nat→Nd)×Ws:=s.fl.foldl (fun p l=>bH p.1 p.2 l) (ns,{s with fl:=[]})
noncomputable abbrev Gw(ns:Nat→Nd)(s:Ws)(j:Nat):(Nat→Nd)×Ws:=(s.fl.take j).foldl (fun p l=>bH p.1 p.2 l) (ns,{s with fl:=[]})
theorem P4{ns:Nat→Nd}{s:Ws}{j:Nat}{l:Lt}(h:s.fl[j]? =some l):Gw ns s (j+1)=bH (Gw ns s j).1 (Gw ns s j).2 l:=by
 unfold Gw;rw[oO h,List.foldl_append];rfl
theorem JC(ns:Nat→Nd)(v:Wv):Gw ns v.pure v.fl.length=P3 ns v.pure:=by
 unfold Gw P3;rw[show v.pure.fl.take v.fl.length=v.pure.fl from AL (by simp)]
structure CR(X:Nat)(us0:Nat→Nv)(v0:Wv)(F0:tF)(w0:tA)(us:Nat→Nv)(v:Wv)(F:tF)(y:tA):Prop extends CW y X us v F where
 mv:Mv (CU us0 v0 F0) w0 (CU us v F) y
theorem ek1:iS Tryz.prog 62=true:=by kernel_rfl
theorem ek2:iS Tryz.prog 63=true:=by kernel_rfl
theorem ek3:iS Tryz.prog 64=true:=by kernel_rfl
theorem ek4:iS Tryz.prog 65=true:=by kernel_rfl
theorem TZ{k:Int}{g:Nat}(h:CM k=some g):iS Tryz.prog g=true:=by
 unfold CM at h
 repeat' split at h
 all_goals first|(cases h;exact ek1)|(cases h;exact ek2)|(cases h;exact ek3)|(cases h;exact ek4)|cases h
theorem aaE(X:Nat)(us:Nat→Nv)(v:Wv)(F:tF)(w:tA)(h:CW w X us v F)(fw:∀r∈v.fl,TY r.l)(hln:v.fl.length+v.td.length≤900000000000)(hlw:∀i,i<5→(us i).wl.length+v.fl.length≤900000000000):cA 48 #[lp X] w fun x w'=>x= .returned (.tuple #[])∧∃qH v' F',Cd w X us v F (P3 (fun i=>(us i).pure) v.pure) qH v' F' w':=by
 obtain⟨U,hUe⟩:∃U,U=CU us v F:=⟨_,rfl⟩;have hU:∀b,U b→b<w.heap.size:=hUe▸h.lt;have sf:∀b,F b→U b:=hUe▸fun _=> .inl;have hW:=h.wo;obtain⟨_,sv,td,fb,o1,o2,o3,hF⟩:=hW.ex;obtain⟨fa,fc,rfl,hfa0⟩:=LD o1;have hXU:U X:=sf X ((hF X).2 (.inl rfl));refine en (H:=[⟨X,103,[.f 19 (l_ v.nd v.pn v.pe [.slice fa v.fl.length fc,v.tk,v.dd,iV v.cs,sv,td])]⟩]) 30 [vp 0 0 X] Tryz.func48 rfl rfl (fb.open hU hXU (G:=fun _=>True) fun _ _=>trivial) (r [] rfl fun _=>gn 0 (l_ v.nd v.pn v.pe [.slice none 0 0,v.tk,v.dd,iV v.cs,sv,td]) (Rv.sv 0 (vv (lp X)) rfl (Zw fun w1 hS=> ?_)));obtain⟨F1,hW1,mv1,hF1⟩:=WO.make (v':={v with fl:=[]}) fb hF (hS.now.2.mono fun b hb=>(hF b).2 (.inl (Ab.1 hb))) (hS.at 0 rfl) ⟨rfl,.inl ⟨rfl,rfl⟩⟩ (aJ o2 (fun g hg hl=>hS.now.2.block g hl fun hm=>aX o2 fb (by decide) g hg (Ab.1 hm))) (aJ o3 (fun g hg hl=>hS.now.2.block g hl fun hm=>aX o3 fb (by decide) g hg (Ab.1 hm))) (fun b hb=>by cases hb) (fun b hb=> .inl ((hF b).2 (.inr (.inr (.inl hb))))) (fun b hb=> .inl ((hF b).2 (.inr (.inr (.inr hb)))));obtain⟨my,J5⟩:=h.world mv1 hW1 rfl rfl rfl (fun _ _ r hr=>by cases hr);have o1':=(aJ o1 (fun g hg hl=>hS.now.2.block g hl fun hm=>aX o1 fb (by decide) g hg (Ab.1 hm)));have lG:∀g,(.slice fa v.fl.length fc:tK).ownBlock=some g→¬CT us {v with fl:=[]} F1 g:=fun g hg hb=>by
  have hFg:F g:=(hF g).2 (.inr (.inl hg));rcases hb with(hb|⟨j,hj,e⟩|⟨j,hj,hb⟩)|hb
  ·rcases(hF1 g).1 hb with e|e|e|e
   ·exact aX o1 fb (by decide) g hg e
   ·cases e
   ·exact jv o1 o2 (by decide) g hg e
   ·exact jv o1 o3 (by decide) g hg e
  ·exact h.nf j hj (e▸hFg)
  ·exact h.wf j g hj hb hFg
  ·exact absurd (h.lo g (.inl hFg)) (BL.2 hb)
 refine⟨[],CT us {v with fl:=[]} F1,fun w=>w.ownsRow 0 148 1 (.slice fa v.fl.length fc) v.fl.length (v.fl.map fun r=>lp r.p)∧∀r∈v.fl,oH w r,CR X us v F w us {v with fl:=[]} F1,Mem.start my.Ml (fun w2 c2=>⟨aJ o1' (fun g hg hl=>c2.block g hl (lG g hg)),((h.st.mv J5 (fun _ h=> .inl h)) w2 (c2.mono fun _ hb=>hb.elim .inr fun e=> .inl (.inr e))).1.2⟩) (fun w2 b=>⟨my.next b,J5.next b⟩), ?_⟩;refine uD (X:=Nat×(Nat→Nv)×Wv×(Nat→Prop)) (fun x=>[(0,vv (lp X)),(12,vv (.slice fa v.fl.length fc)),(13,vi (v.fl.length:Int)),(14,vi (x.1:Int))]) (fun _=>[]) (fun x=>CT x.2.1 x.2.2.1 x.2.2.2) (fun x=>CR X us v F w x.2.1 x.2.2.1 x.2.2.2) (fun x=>x.1≤v.fl.length∧(x.2.2.1.nd=v.nd∧x.2.2.1.tk=v.tk∧x.2.2.1.dd=v.dd)∧((fun i=>(x.2.1 i).pure)=(Gw (fun i=>(us i).pure) v.pure x.1).1∧x.2.2.1.pure=(Gw (fun i=>(us i).pure) v.pure x.1).2)∧(x.2.2.1.fl.length≤x.1∧x.2.2.1.td.length≤v.td.length+x.1∧∀i,i<5→(x.2.1 i).wl.length≤(us i).wl.length+x.1)) (fun x=>v.fl.length-x.1) (0,us,{v with fl:=[]},F1) ⟨rfl,rfl,rfl,rfl,trivial⟩ (fun _ hS=>hS) ⟨Al _,⟨rfl,rfl,rfl⟩,⟨rfl,rfl⟩,Ac _,Ac _,fun _ _=>Ac _⟩ ?_;rintro f ⟨j,Vt,v1,F2⟩ ⟨hj,mJ,TN,n_,Du,Oo⟩;have hj:j≤v.fl.length:=hj;have n_:v1.fl.length≤j:=n_;have Du:v1.td.length≤v.td.length+j:=Du;have Oo:∀i,i<5→(Vt i).wl.length≤(us i).wl.length+j:=Oo;by_cases aN:j<v.fl.length
 case neg=>
  obtain rfl:j=v.fl.length:=by omega
  exact r [0] rfl fun _=>dt rfl fun w hS=>⟨rfl,Vt,v1,F2,⟨hS.now.2.toCW,hS.now.2.mv,mJ.1,mJ.2.1,mJ.2.2,by rw[TN.1,JC],by rw[TN.2,JC]⟩⟩
 obtain⟨r8,hr⟩:∃r,v.fl[j]? =some r:=⟨v.fl[j],Ai aN⟩;have NC:=Ar hr;obtain⟨fg,hfa⟩:=hfa0 (by omega);subst hfa;obtain⟨g,hg,_⟩:=vr h (P:=r8.p) (l:=r8.l) (a:=r8.a) (c:=r8.c) (fun w2 c2=>(h.st w2 c2).1.2 r8 NC) (fw r8 NC) (by omega) (by omega) (fun i hi=>by have:=hlw i hi;omega);refine r [1] rfl fun _=>l1 (q:=0+j*1) rfl (lp r8.p) (fun w hS=>by rw[show 0+j*1=j by omega];exact XI hS.now.1.1 (by rw[Ax,hr];rfl)) (r [1] rfl fun _=>l1 rfl v1.tk (fun w hS=>hS.now.2.wo.tk_) (r [] rfl fun _=>l1 rfl (iV r8.l.kd) (fun w hS=>(hS.now.1.2 r8 NC).b.at 0 (cR rfl)) (r [] rfl fun _=>lk (vv (.func (.func g) #[lp X] #[])) rfl (fun w hS=>(hS.now.2.st.now).2.1 r8.l.kd g hg) (r [] rfl fun _=>mG rfl (TZ hg) fun w2 hS=> ?_))));obtain⟨g',VU,mW⟩:=vr hS.now.2.toCW (P:=r8.p) (l:=r8.l) (a:=r8.a) (c:=r8.c) (fun w2 c2=>(hS.g w2 (c2.mono fun b h=> .inr h)).2 r8 NC) (fw r8 NC) (by omega) (by omega) (fun i hi=>by have h3:(Vt i).wl.length≤(us i).wl.length+j:=Oo i hi;have:=hlw i hi;show(Vt i).wl.length≤_;omega);obtain rfl:g'=g:=AY (VU.symm.trans hg);refine mW.mono ?_;rintro _ w3 ⟨rfl,Kf,v2,F3,hd⟩;have hmd:=hS.now.2.mv.trans hd.mv;have hnx:bH (fun i=>(Vt i).pure) v1.pure r8.l=Gw (fun i=>(us i).pure) v.pure (j+1):=by rw[P4 (l:=r8.l) (by show(v.fl.map Lr.l)[j]? =_;rw[Ax,hr];rfl),←TN.1,←TN.2]
 have hk:=LB (fun i=>(Vt i).pure) v1.pure r8.l;refine⟨vt [],[],CT Kf v2 F3,_,CR X us v F w Kf v2 F3,rfl,.inl rfl,Mem.start hd.cw.Ml (fun w2 c2=>(cm.mv (U:=CT Vt v1 F2) (fun w4 c4=>hS.g w4 (c4.mono fun b h=> .inr h)) hd.mv (fun _ h=> .inl h)) w2 (c2.mono fun _ hb=>hb.elim .inr fun e=> .inl (.inr (hd.nd▸e)))) (fun w2 b=>⟨hd.cw.next b,hmd.next b⟩),rz [1] [((j+1:Nat):Int)] rfl fun _=>bJ (j+1,Kf,v2,F3) ⟨rfl,rfl,rfl,rfl,trivial⟩ (fun _ hS=>hS) ⟨aN,⟨hd.nd.trans mJ.1,hd.tk.trans mJ.2.1,hd.dd.trans mJ.2.2⟩,⟨by rw[←hnx];exact hd.n,by rw[←hnx];exact hd.s⟩, ?_, ?_,fun i hi=> ?_⟩ (show v.fl.length-(j+1)<v.fl.length-j by omega)⟩
 ·have h1:=AB (fun s:Ws=>s.fl.length) hd.s;have h2:=hk.1.1;simp only[List.length_map]at h1 h2;show v2.fl.length≤j+1;omega
 ·have h1:=AB (fun s:Ws=>s.td.length) hd.s;have h2:=hk.1.2.1;simp only at h1 h2;show v2.td.length≤v.td.length+(j+1);omega
 ·have h1:=AB (fun n:Nat→Nd=>(n i).wt.length) hd.n;have h2:=(hk.2 i).1;have h3:=Oo i hi;simp only[List.length_map]at h1 h2;show(Kf i).wl.length≤(us i).wl.length+(j+1);omega
end
theorem LF{P:tY}{s sz:Nat}(hf:jr P s=some sz)(a:tB)(len cap l h m:Nat)(hl:l≤h)(hh:h≤m)(hm:m≤cap)(w:tA):
  (Instr.sliceAt s (.slice a len cap) (some (iV (l:Int))) (some (iV (h:Int))) (some (iV (m:Int)))).run P w= .ok (.slice (gO a l sz m) (h-l) (m-l)) w:=by
 unfold jr at hf;split at hf
 ·rename_i e hu;cases hi:P.info? e with
  |none=>simp[hi]at hf
  |some i=>
   simp[hi]at hf;subst hf;simp[Instr.sliceAt,Instr.slice,run_underlying hu,Instr.sliceBounds,Instr.sliceBound,asIntOf,sizeOf,typeInfo,hi,hl,hh,hm,gO]
 ·cases hf
section
variable{P:tY}{ops:tP}{Q:tI}{V:tW}{fx fl:tW}{n:Nat}{f:tD}{w:tA}{i:Nat}{t:Ord}{o:Oper}{d:Nat}{H:List bX}{M:tF}{G R:tJ}
theorem agc{s e lD l c m c2:Nat}{x y:tU}{A:Addr}(ht:jI P s e 1 lD=true)(hS:Mem w H M G R)(k:Nat){en:bX}(he:H[k]? =some en)(news:tD)(hn:∀j,j<m→w.cell? (A.add j)=some (news j))(h1:aW news m)(Fb:l+m≤c)(hen:c≤en.n)(PF:fx.contains i=true)(ho:ops[i]? =some o)(hd:o.dst=some d)(hw:Region.wanted o (yielded ops (ly n f))=true)(hK:jq n ops=true)(hp:o.op= .call ⟨.builtin .append,#[x,y],#[s,s]⟩)(hx:ev f x= .slice (some ⟨en.a,0,none⟩) l c)(hy:ev f y= .slice (some A) m c2)
  (h:∀w',Mem w' (H.set k ⟨en.a,en.t,en.n,gh en.f l m news⟩) M G R→WF P ops Q V fx fl t n (up f d (.slice (some ⟨en.a,0,none⟩) (l+m) c)) w'):WF P ops Q V fx fl (.ef i t) n f w:=by
 obtain⟨hu,ti,z,hi,hz,hs,Dt,Mj,js⟩:=Eg ht;have fb:=hS.at k he
 have hr:=run_append_room_cells (P:=P) w s o.type e ti hu hi en.a 0 l c A m c2 (cE news 0 m) (by simp[bR,hs]) (fun j u hj=>by
  have aN:=(Ap.1 hj).1;rw[bR]at aN;rw[bW _ _ _ _ aN,Aj]at hj;cases hj;exact hn j aN) (fun u hu=>by
  simp only[cE,List.mem_map,List.mem_range,Nat.zero_add]at hu;obtain⟨j,hj,rfl⟩:=hu;exact h1 j hj) Fb (fun j hj=>by
   rw[bR]at hj
   rw[hs,fb.at _ (by omega)];rfl) (fun j _=>fb.free _)
 rw[hs,Cj,Aj]at hr;exact o4 ho hd hw hK (sQ hp hx hy hr) (gq PF) (h _ (hS.turn he (aB.uu en.a _ l w) (fb.put l m news (by omega))))
theorem XJ{v:tK}{w1:tA}(ho:ops[i]? =some o)(hd:o.dst=none)(hw:Region.wanted o (yielded ops (ly n f))=true)(hK:jq n ops=true)(hr:(execOp (ev f) o).run P w= .ok (.value v) w1)(ht:fW (Ed V) fx fl i w w1)(h:WF P ops Q V fx fl t n f w1):WF P ops Q V fx fl (.ef i t) n f w:=by
 show wpOp P ops Q i _ _ w;unfold wpOp;simp only[ho,hw,if_true];refine .inl ?_;unfold Oper.wp;rw[ri (nV hK ho),hr,Oper.upon_value,nI,hd];exact⟨ht,h⟩
theorem agd{s e k c2 lD:Nat}{x:tU}(z:tK)(ht:jI P s e 1 lD=true)(hz:∀w,(zeroValue e).run P w= .ok z w)(hzc:z.cells= #[z])(xT:z.oneCell'=true)(hS:Mem w H M G R)(j:Nat){en:bX}(he:H[j]? =some en)(hk:k<en.n)(PF:fx.contains i=true)(ho:ops[i]? =some o)(hd:o.dst=none)(hw:Region.wanted o (yielded ops (ly n f))=true)(hK:jq n ops=true)(hp:o.op= .call ⟨.builtin .clear,#[x],#[s]⟩)(hx:ev f x= .slice (some ⟨en.a,k,none⟩) 1 c2)
  (h:∀w',Mem w' (H.set j ⟨en.a,en.t,en.n,gh en.f k 1 (fun _=>z)⟩) M G R→WF P ops Q V fx fl t n f w'):WF P ops Q V fx fl (.ef i t) n f w:=by
 obtain⟨hu,ti,z',hi,hz',hs,Dt,Mj,js⟩:=Eg ht;have fb:=hS.at j he
 have gV:=run_storeCells_cells (P:=P) en.a k [z] 0 w (fun j hj=>by
  simp only[List.length_singleton]at hj;rw[fb.at _ (by omega)];rfl) (fun j _=>fb.free _) (by simpa using xT)
 simp only[Nat.add_zero]at gV;have hr:(Builtin.clear_ #[s] o.type #[.slice (some ⟨en.a,k,none⟩) 1 c2]).run P w= .ok (.tuple #[]) (w.setCells en.a k [z]):=by
  simp[Builtin.clear_,run_underlying hu,hz,Builtin.zeroCells,hzc,gV]
 have hcut:cE (fun _=>z) 0 1=[z]:=rfl;refine XJ ho hd hw hK (w1:=w.setCells en.a k [z]) (v:= .tuple #[]) ?_ (gq PF) (h _ (hS.turn he (aB.uu en.a _ k w) (hcut▸fb.put k 1 (fun _=>z) (by omega))));simp[execOp,hp,resolve,hx,invoke,builtin,hr]
end
section
open Rv
namespace Rv
section
variable{n:Nat}{ops:tP}{f:Nat→AV}{fn:Func}{Rr:Ending→World→Prop}{M:tF}{Φ R:tJ}{H:List En}{ks:List Fr}{t:Ord}{i d:Nat}{md:Md}
theorem ex3{ρ:Operand→Value}{o:Oper}{s sz:Nat}{x y z u:tU}{a:tB}{len cap l k m:Nat}(hf:jr Tryz.prog s=some sz)(hl:l≤k)(hh:k≤m)(hm:m≤cap)(hp:o.op= .slice s x (some y) (some z) (some u))(hx:ρ x= .slice a len cap)(hy:ρ y=iV (l:Int))(hz:ρ z=iV (k:Int))(hu:ρ u=iV (m:Int))(w:tA):(execOp ρ o).run Tryz.prog w= .ok (.value (.slice (gO a l sz m) (k-l) (m-l))) w:=by
 simp only[execOp,hp,hx,hy,hz,hu,Option.map_some,Sem.run_bind,LF hf a len cap l k m hl hh hm,Result.andThen_ok,Sem.run_pure]
theorem aw{s lD l c m c2:Nat}{x y:AV}{A:Addr}{en:En}(h1:Rz n ops f i=some (d,s,x,y))(k:Nat)(he:nth H k=some en)(ht:jI Tryz.prog s en.t 1 lD=true)(news:tD)(hn:∀w,Mem w (hs H) M Φ R→∀j,j<m→w.cell? (A.add j)=some (news j))(N9:aW news m)(Fb:l+m≤c)(hen:c≤eX en.l)(hy:y.val= .slice (some A) m c2)(hg:G Tryz.prog fn Rr n M Φ R (.g md ops t::ks) (ua f d (vv (.slice (some ⟨en.a,0,none⟩) (l+m) c))) (H.set k ⟨en.a,en.t,[.f (eX en.l) (gh (cy en.l) l m news)]⟩))(hx:x.val= .slice (some ⟨en.a,0,none⟩) l c:=by rfl)(hv:md.vs.contains i=false:=by rfl):G Tryz.prog fn Rr n M Φ R (.g md ops (.ef i t)::ks) f H:=by
 intro w hS hK;obtain⟨hK1,iC⟩:=bt.1 hK;show WF Tryz.prog ops (kq Tryz.prog fn Rr ks) md.va (o7 md ops) (vQ md ops) (.ef i t) n (cn f) w;obtain⟨o,p,r,ho,hd,hw,hp,rfl,rfl⟩:=yU h1
 have Ho:(o7 md ops).contains i=true:=lE ho (by
  unfold nW;rw[hv,hp]
  cases md.cb<;>rfl)
 rw[eR]at he;have xn:(hs H)[k]? =some en.g_:=by rw[Ax,he];rfl
 refine agc ht hS k xn news (hn w hS) N9 Fb hen Ho ho hd (fF hw) (dU hK1).1 hp ((bC f p).symm.trans hx) ((bC f r).symm.trans hy) fun w' DB=> ?_
 have hg:=hg w' (by
  show Mem w' (List.map En.g_ (H.set k _)) M Φ R;rw[Co]
  exact DB) (bt.2 ⟨hK1,iC⟩)
 rw[jK]at hg;exact hg
def clB(n:Nat)(ops:tP)(f:Nat→AV)(i:Nat):Option (Nat×AV):=match ops[i]? with
 |some o=>match o.dst,sS n ops f o,o.op with
  |none,some true,.call ⟨.builtin .clear,xs,ts⟩=>match xs.toList,ts.toList with
   |[x],[s]=>some (s,ea f x)
   |_,_=>none
  |_,_,_=>none
 |none=>none
theorem clr{s lD q c2:Nat}{x:AV}{en:En}(z:tK)(h1:clB n ops f i=some (s,x))(k:Nat)(he:nth H k=some en)(ht:jI Tryz.prog s en.t 1 lD=true)(hz:∀w,(zeroValue en.t).run Tryz.prog w= .ok z w)(hzc:z.cells= #[z])(xT:z.oneCell'=true)(hq:q<eX en.l)(hx:x.val= .slice (some ⟨en.a,q,none⟩) 1 c2)(hg:G Tryz.prog fn Rr n M Φ R (.g md ops t::ks) f (H.set k ⟨en.a,en.t,[.f (eX en.l) (gh (cy en.l) q 1 (fun _=>z))]⟩))(hv:(o7 md ops).contains i=true:=by rfl):G Tryz.prog fn Rr n M Φ R (.g md ops (.ef i t)::ks) f H:=by
 intro w hS hK;obtain⟨hK1,iC⟩:=bt.1 hK;show WF Tryz.prog ops (kq Tryz.prog fn Rr ks) md.va (o7 md ops) (vQ md ops) (.ef i t) n (cn f) w;rw[eR]at he;have xn:(hs H)[k]? =some en.g_:=by rw[Ax,he];rfl
 unfold clB at h1;split at h1
 ·rename_i o ho;split at h1
  ·rename_i xs ts hd hw hp;split at h1
   ·rename_i p s2 e1 e2;simp only[Option.some.injEq,Prod.mk.injEq]at h1;obtain⟨rfl,rfl⟩:=h1;have e1:xs= #[p]:=Array.toList_inj.1 e1;have e2:ts= #[s2]:=Array.toList_inj.1 e2;rw[e1,e2]at hp
    refine agd z ht hz hzc xT hS k xn hq hv ho hd (fF hw) (dU hK1).1 hp ((bC f p).symm.trans hx) fun w' DB=>hg w' (by
     show Mem w' (List.map En.g_ (H.set k _)) M Φ R;rw[Co]
     exact DB) (bt.2 ⟨hK1,iC⟩)
   ·cases h1
  ·cases h1
 ·cases h1
end
end Rv
theorem P5(g ln c k:Nat)(f0:tD)(w:tA)(hb:bh w g 148 c f0)(hk:k<ln)(hc:ln≤c)(hm:c≤maxLen)(h1:∀j,j<ln→(f0 j).oneCell'=true):cA 73 #[.slice (some ⟨g,0,none⟩) ln c,iV (k:Int),iV ((k+1:Nat):Int)] w fun x w'=>x= .returned (.slice (some ⟨g,0,none⟩) (ln-1) c)∧bh w' g 148 c (gh (gh f0 k (ln-(k+1)) (fun j=>f0 (k+1+j))) (ln-1) 1 (fun _=> .pointer none))∧dB (fun b=>b∈[g]) w w':=by
 unfold maxLen at hm;have agf:k+(ln-(k+1))=ln-1:=by omega
 obtain⟨A,hA,hAd⟩:∃A,gO (some (⟨g,0,none⟩:Addr)) (k+1) 1 c=some A∧∀j,j<ln-(k+1)→A.add j=⟨g,k+1+j,none⟩:=by
  unfold gO;by_cases h:c=k+1
  ·exact⟨_,Ae h,fun j hj=>by omega⟩
  ·exact⟨⟨g,k+1,none⟩,by rw[Aa h];simp[Addr.add_mid],fun j _=>by rw[BM]⟩
 have hA2:Value.slice (gO (some (⟨g,0,none⟩:Addr)) (ln-1) 1 c) (ln-(ln-1)) (c-(ln-1))= .slice (some ⟨g,ln-1,none⟩) 1 (c-(ln-1)):=by
  unfold gO;rw[Aa (by omega),show ln-(ln-1)=1 by omega];simp[Addr.add_mid]
 have hS:Mem w (Rv.hs [⟨g,148,[.f c f0]⟩]) (fun _=>False) (fun _=>True) (fun w'=>dB (fun b=>b∈[g]) w w'):=Mem.begin (fun e he=>by cases Ab.1 he;exact hb) (BN _ _) (fun _ _ h=>h) (fun _ h=>h.elim) (fun _ _=>trivial);refine en 33 [vv (.slice (some ⟨g,0,none⟩) ln c),vi (k:Int),vi ((k+1:Nat):Int)] Tryz.func73 rfl rfl hS (r [] rfl fun _=> ?_);refine pv (vv (.slice (gO (some ⟨g,0,none⟩) k 1 ln) (k+1-k) (ln-k))) rfl (fun w=>ex3 sd (by omega) (by omega) hc rfl rfl rfl rfl rfl w) (r [0,1] rfl fun _=> ?_);refine aw (A:=A) (l:=k) (c:=c) (m:=ln-(k+1)) (c2:=c-(k+1)) rfl 0 rfl gG (fun j=>f0 (k+1+j)) (fun w hS j hj=> ?_) (fun j hj=>h1 _ (by omega)) (by omega) (Ac _) (AB (fun a=>Value.slice a (ln-(k+1)) (c-(k+1))) hA) ?_
 ·rw[hAd j hj];exact(hS.at 0 rfl).at (k+1+j) (by show _<c;omega)
 rw[agf];refine r [] rfl fun _=>clr (c2:=c-(ln-1)) (q:=ln-1) (.pointer none) rfl 0 rfl gG (fun w=>rfl) rfl rfl (by show ln-1<c;omega) hA2 ?_;exact r [] rfl fun _=>fin fun w hS=>⟨rfl,hS.at 0 rfl,hS.now.2⟩
end
theorem LG{g ln c k:Nat}{L:tM}{w:tA}(h:w.ownsRow 0 148 1 (.slice (some ⟨g,0,none⟩) ln c) ln L)(h1:∀u∈L,u.oneCell'=true)(hk:k<ln):cA 73 #[.slice (some ⟨g,0,none⟩) ln c,iV (k:Int),iV ((k+1:Nat):Int)] w fun x w'=>x= .returned (.slice (some ⟨g,0,none⟩) (ln-1) c)∧w'.ownsRow 0 148 1 (.slice (some ⟨g,0,none⟩) (ln-1) c) (ln-1) (L.eraseIdx k)∧dB (fun b=>b∈[g]) w w':=by
 rcases Tk h with⟨e,_⟩|⟨R,c',F,e,fb,hnc,hc,hl,hF⟩
 ·cases e
 cases e;rw[Cj]at fb hl;refine(P5 g ln c k F w fb hk hnc hc (fun j hj=>h1 _ (Ar (hF j (by omega))))).mono ?_;rintro x w' ⟨rfl,Zv,ch⟩;refine⟨rfl,aar (by rw[Cj];exact Zv) (by omega) hc (by rw[List.length_eraseIdx,Ae (by omega)];omega) (fun j hj=> ?_),ch⟩;rw[Cj]at hj;rw[List.getElem?_eraseIdx,qg _ _ _ _ _ (.inl hj)];by_cases hjk:j<k
 ·rw[Ae hjk,qg _ _ _ _ _ (.inl hjk)];exact hF j (by omega)
 ·rw[Aa hjk];have:=Fl F k (ln-(k+1)) (fun j=>F (k+1+j)) (j-k) (by omega);rw[show k+(j-k)=j by omega]at this;rw[this,show k+1+(j-k)=j+1 by omega];exact hF (j+1) (by omega)
structure OR(X:Nat)(sl:tK)(w0:tA)(s:tK)(n:Nat)(L:tM)(x:tA):Prop where
 own:x.ownsRow 0 148 1 s n L
 c:dB (fun b=>b=X∨sl.ownBlock=some b∨w0.heap.size≤b) w0 x
noncomputable def jc(ns:Nat→Nd)(s:Ws)(k:Int)(p:Nat):(Nat→Nd)×Ws:=match s.fl[p % s.fl.length]? with
 |none=>(ns,s)
 |some l=>if k=5 then(ns,if k=6 then s else {s with fl:=s.fl.eraseIdx (p % s.fl.length)})else bH ns (if k=6 then s else {s with fl:=s.fl.eraseIdx (p % s.fl.length)}) l
section
variable{w:tA}{X:Nat}{us:Nat→Nv}{v:Wv}{F:tF}
theorem OR.init{sl sv td:tK}(h:CW w X us v F)(fb:bh w X 103 19 (l_ v.nd v.pn v.pe [sl,v.tk,v.dd,iV v.cs,sv,td]))(o1:w.ownsRow 0 148 1 sl v.fl.length (v.fl.map fun r=>lp r.p))(hF:∀b,F b↔b=X∨sl.ownBlock=some b∨sv.ownBlock=some b∨td.ownBlock=some b):Mem w [⟨X,103,19,l_ v.nd v.pn v.pe [sl,v.tk,v.dd,iV v.cs,sv,td]⟩] (fun b=>sl.ownBlock=some b∨(CU us v F b∧b≠X∧¬sl.ownBlock=some b)) (fun w=>(∀r∈v.fl,oH w r)∧XG w X v.tk) (OR X sl w sl v.fl.length (v.fl.map fun r=>lp r.p)):=by
 have fR:∀g,sl.ownBlock=some g→g≠X:=aX o1 fb (by decide)
 have hm:=Mem.begin (H:=[⟨X,103,19,l_ v.nd v.pn v.pe [sl,v.tk,v.dd,iV v.cs,sv,td]⟩]) (M:=fun b=>sl.ownBlock=some b∨(CU us v F b∧b≠X∧¬sl.ownBlock=some b)) (G:=fun w=>(∀r∈v.fl,oH w r)∧XG w X v.tk) (fun e he=>by cases Ab.1 he;exact fb) (BN _ _) (fun e he=>by cases Ab.1 he;exact fun hh=>hh.elim (fun e=>fR _ e rfl) fun e=>e.2.1 rfl) (fun b hb=>hb.elim (fun e=>Cz o1 b e) fun e=>h.lt b e.1) (fun w2 c2=>by
  have c3:dB (CU us v F) w w2:=c2.mono fun b hb=>by
   rcases hb with hb|hb|hb
   ·have e:b=X:=by simpa using hb
    exact .inl ((hF b).2 (.inl e))
   ·exact .inl ((hF b).2 (.inr (.inl hb)))
   ·exact hb.1
  exact⟨(h.st w2 (c3.mono fun _=> .inl)).1.2,(h.st w2 (c3.mono fun _=> .inl)).2.1⟩)
 refine⟨hm.g_,hm.oY,hm.off,hm.mlt,hm.g,fun w2 c2=>⟨aJ o1 fun g hg hl=>c2.block g hl fun hb=>fR g hg (by simpa using hb),c2.mono fun b hb=> .inl (by simpa using hb)⟩⟩
theorem OR.close{sl s2 sv td:tK}{n2:Nat}{fl2:List Lr}{w':tA}(h:CW w X us v F)(fb:bh w X 103 19 (l_ v.nd v.pn v.pe [sl,v.tk,v.dd,iV v.cs,sv,td]))(o1:w.ownsRow 0 148 1 sl v.fl.length (v.fl.map fun r=>lp r.p))(o2:w.ownsRow 0 61 14 sv v.sv.length (v.sv.flatMap Jj))(o3:w.ownsRow 0 65 7 td v.td.length (v.td.flatMap Lu))(hF:∀b,F b↔b=X∨sl.ownBlock=some b∨sv.ownBlock=some b∨td.ownBlock=some b)(r:OR X sl w s2 n2 (fl2.map fun r=>lp r.p) w')(hn:n2=fl2.length)(Zv:bh w' X 103 19 (l_ v.nd v.pn v.pe [s2,v.tk,v.dd,iV v.cs,sv,td]))(hs:∀b,s2.ownBlock=some b→sl.ownBlock=some b)(DV:∀x∈fl2,x∈v.fl):∃F',Cd w X us v F (fun i=>(us i).pure,{v.pure with fl:=fl2.map Lr.l}) us {v with fl:=fl2} F' w':=by
 subst hn;have st:∀{T sz n:Nat} {u:tK} {L:tM},w.ownsRow 0 T sz u n L→T≠103→T≠148→w'.ownsRow 0 T sz u n L:=fun o h1 h2=>aJ o fun g hg hl=>r.c.block g hl fun hb=>hb.elim (aX o fb h1 g hg) fun hb=>hb.elim (jv o o1 h2 g hg) fun hb=>absurd hl (Bb.2 hb);have c:dB F w w':=⟨r.c.os,r.c.tape,r.c.output,r.c.size,fun b hb hf=>r.c.block b hb fun hh=>hh.elim (fun e=>hf ((hF b).2 (.inl e))) fun hh=>hh.elim (fun e=>hf ((hF b).2 (.inr (.inl e)))) fun e=>absurd hb (Bb.2 e)⟩;obtain⟨F1,hW1,mv1,hF1⟩:=WO.make (v':={v with fl:=fl2}) fb hF c Zv r.own (st o2 (by decide) (by decide)) (st o3 (by decide) (by decide)) (fun b hb=> .inl ((hF b).2 (.inr (.inl (hs b hb))))) (fun b hb=> .inl ((hF b).2 (.inr (.inr (.inl hb))))) (fun b hb=> .inl ((hF b).2 (.inr (.inr (.inr hb)))));have RB:=h.st.mv mv1 (fun _ hb=> .inl (.inl hb));obtain⟨my,J5⟩:=h.world mv1 hW1 rfl rfl rfl (fun w2 c2 x hx=>(RB w2 c2).1.2 x (DV x hx));exact⟨F1,my,J5,rfl,rfl,rfl,rfl,rfl⟩
end
section
open Rv
theorem XK{ns:Nat→Nd}{s:Ws}{k:Int}{p:Nat}(h:s.fl.length=0):jc ns s k p=(ns,s):=by
 unfold jc;rw[AU.1 h];rfl
theorem T_{ns:Nat→Nd}{s:Ws}{p:Nat}{l:Lt}(h:s.fl[p % s.fl.length]? =some l):jc ns s 5 p=(ns,{s with fl:=s.fl.eraseIdx (p % s.fl.length)}):=by
 unfold jc;rw[h];simp
theorem LH{ns:Nat→Nd}{s:Ws}{p:Nat}{l:Lt}(h:s.fl[p % s.fl.length]? =some l):jc ns s 6 p=bH ns s l:=by
 unfold jc;rw[h];simp
theorem P6{ns:Nat→Nd}{s:Ws}{k:Int}{p:Nat}{l:Lt}(h:s.fl[p % s.fl.length]? =some l)(h5:¬k=5)(h6:¬k=6):jc ns s k p=bH ns {s with fl:=s.fl.eraseIdx (p % s.fl.length)} l:=by
 unfold jc;rw[h];simp[h5,h6]
theorem wQ{α β:Type}(f:α→β):∀(l:List α) (i:Nat),(l.eraseIdx i).map f=(l.map f).eraseIdx i
 |[],i=>by simp
 |a::l,0=>by simp
 |a::l,i+1=>by simp[wQ f l i]
theorem Cd.next{w w1 w2:tA}{X:Nat}{us qH:Nat→Nv}{v v':Wv}{F F':tF}{r:(Nat→Nd)×Ws}(h:Cd w X us v F r qH v' F' w1)(b:bZ w1 w2):Cd w X us v F r qH v' F' w2:=⟨h.cw.next b,h.mv.next b,h.nd,h.tk,h.dd,h.n,h.s⟩
theorem aaF(X:Nat)(us:Nat→Nv)(v:Wv)(F:tF)(w:tA)(h:CW w X us v F)(k nd:Int)(q p:Nat)(kp:Int)(e:Ev)(fw:∀r∈v.fl,TY r.l)(hln:v.fl.length+v.td.length≤900000000000)(hlw:∀i,i<5→(us i).wl.length≤900000000000):cA 47 #[lp X,vF (lF [iV k,iV nd,iV (q:Int),iV (p:Int),iV kp,iV e.k,iV e.p,iV e.i,iV e.b,iV e.he,iV e.hn]) 11] w fun x w'=>x= .returned (.tuple #[])∧∃qH v' F',Cd w X us v F (jc (fun i=>(us i).pure) v.pure k p) qH v' F' w':=by
 obtain⟨_,sv,td,fb,o1,o2,o3,hF⟩:=h.wo.ex;obtain⟨fa,fc,rfl,hfa0⟩:=LD o1;refine en (H:=[⟨X,103,[.f 19 (l_ v.nd v.pn v.pe [.slice fa v.fl.length fc,v.tk,v.dd,iV v.cs,sv,td])]⟩]) 55 [vp 0 0 X,vg [.o (iV k),.o (iV nd),.o (iV (q:Int)),.o (iV (p:Int)),.o (iV kp),.o (iV e.k),.o (iV e.p),.o (iV e.i),.o (iV e.b),.o (iV e.he),.o (iV e.hn)]] Tryz.func47 rfl rfl (OR.init h fb o1 hF) (r [] rfl fun α=> ?_);by_cases fR:v.fl.length=0
 ·refine r [1] rfl fun _=>fin fun w1 hS=> ?_;obtain⟨F1,Ln⟩:=OR.close (fl2:=v.fl) h fb o1 o2 o3 hF hS.now.2 rfl (hS.at 0 rfl) (fun _ h=>h) (fun _ h=>h);exact⟨rfl,us,_,F1,by rw[XK (show(v.fl.map Lr.l).length=0 by rw[AW];exact fR)];exact Ln⟩
 obtain⟨fg,rfl⟩:=hfa0 (by omega);obtain⟨t,ht⟩:∃t,t=p % v.fl.length:=⟨_,rfl⟩;have htl:t<v.fl.length:=ht▸Nat.mod_lt _ (by omega);obtain⟨lr,hr⟩:∃r,v.fl[t]? =some r:=⟨v.fl[t],Ai htl⟩;have NC:=Ar hr;have G7:v.pure.fl[p % v.pure.fl.length]? =some lr.l:=by
  show(v.fl.map Lr.l)[p % (v.fl.map Lr.l).length]? =_;rw[AW,←ht,Ax,hr];rfl
 have VK:(v.fl.eraseIdx t).length=v.fl.length-1:=by rw[List.length_eraseIdx,Ae htl]
 have XL:v.pure.fl.eraseIdx (p % v.pure.fl.length)=(v.fl.eraseIdx t).map Lr.l:=by
  rw[wQ];show(v.fl.map Lr.l).eraseIdx (p % (v.fl.map Lr.l).length)=_;rw[AW,←ht]
 obtain⟨g,hg,_⟩:=vr h (P:=lr.p) (l:=lr.l) (a:=lr.a) (c:=lr.c) (fun w2 c2=>(h.st w2 c2).1.2 lr NC) (fw lr NC) (by omega) (by omega) (fun i hi=>by have:=hlw i hi;omega);have he:=TZ hg;have key:∀(s2:tK) (n2:Nat) (fl2:List Lr) (w1:tA),n2=fl2.length→OR X (.slice (some ⟨fg,0,none⟩) v.fl.length fc) w s2 n2 (fl2.map fun r=>lp r.p) w1→bh w1 X 103 19 (l_ v.nd v.pn v.pe [s2,v.tk,v.dd,iV v.cs,sv,td])→(∀b,s2.ownBlock=some b→(Value.slice (some ⟨fg,0,none⟩) v.fl.length fc).ownBlock=some b)→(∀x∈fl2,x∈v.fl)→fl2.length≤v.fl.length→jc (fun i=>(us i).pure) v.pure k p=bH (fun i=>(us i).pure) {v.pure with fl:=fl2.map Lr.l} lr.l→cA g #[lp X,lp lr.p] w1 fun x w'=>x= .returned (.tuple #[])∧∃y:(Nat→Nv)×Wv×(Nat→Prop),Cd w X us v F (jc (fun i=>(us i).pure) v.pure k p) y.1 y.2.1 y.2.2 w':=fun s2 n2 fl2 w1 hn ho wK hs DV hl hq=>by
  obtain⟨F1,Ln⟩:=OR.close (fl2:=fl2) h fb o1 o2 o3 hF ho hn wK hs DV;obtain⟨g',VU,mW⟩:=vr Ln.cw (P:=lr.p) (l:=lr.l) (a:=lr.a) (c:=lr.c) (fun w2 c2=>((h.st.mv Ln.mv (fun _ h=> .inl h)) w2 (c2.mono fun _ hb=>hb.elim .inr fun e=> .inl (.inr e))).1.2 lr NC) (fw lr NC) (show fl2.length≤_ by omega) (show v.td.length≤_ by omega) (fun i hi=>by have:=hlw i hi;omega);obtain rfl:g'=g:=AY (VU.symm.trans hg);exact mW.mono fun _ w4 ⟨h0,Kf,v2,F2,hd⟩=>⟨h0,(Kf,v2,F2),by rw[hq];exact Ln.trans hd⟩
 refine r [0,1] rfl fun _=>rm (a:=(p:Int)) (b:=(v.fl.length:Int)) (t:Int) rfl (by omega) (by rw[ht];rfl) (r [] rfl fun _=>l1 (q:=0+t*1) rfl (lp lr.p) (fun w hS=> ?_) (r [] rfl fun _=> ?_))
 ·have:=o_ hS.now.2.own (j:=t) (u:=lp lr.p) (by rw[Ax,hr];rfl);rw[BM]at this;rw[Cj];exact this
 by_cases h6:k=6
 ·refine r [0,1,1] rfl fun _=>l1 rfl (iV lr.l.kd) (fun w hS=>(hS.now.1.1 lr NC).b.at 0 (cR rfl)) (r [] rfl fun _=>lk (vv (.func (.func g) #[lp X] #[])) rfl (fun w hS=>hS.now.1.2 lr.l.kd g hg) (r [] rfl fun _=>ct rfl (vt []) (fun(y:(Nat→Nv)×Wv×(Nat→Prop)) w'=>Cd w X us v F (jc (fun i=>(us i).pure) v.pure k p) y.1 y.2.1 y.2.2 w') (fun w1 hS=>key _ _ v.fl w1 rfl hS.now.2 (hS.at 0 rfl) (fun _ h=>h) (fun _ h=>h) (Ac _) (by rw[h6];exact LH G7)) (fun _ _ _ h b=>h.next b) (fun y=>r [] rfl fun _=>dt rfl fun w hS=>⟨rfl,y.1,y.2.1,y.2.2,hS.now.2⟩) rfl he))
 refine rz [1,1] [((t+1:Nat):Int)] rfl fun _=>mG rfl (by kernel_rfl) fun w2 hS=>(LG (k:=t) hS.now.2.own (fun u hu=>by obtain⟨x,_,rfl⟩:=Ay.1 hu;rfl) htl).mono ?_;rintro _ w3 ⟨rfl,o',ch⟩;have hmv:Mv (fun b=>(.slice (some ⟨fg,0,none⟩) v.fl.length fc:tK).ownBlock=some b) w2 (fun b=>(.slice (some ⟨fg,0,none⟩) v.fl.length fc:tK).ownBlock=some b) w3:=⟨ch.mono fun b hb=>(AB some (Ab.1 hb)).symm,fun _=> .inl,fun b hb=>Am (Cz hS.now.2.own b hb) ch.size⟩;refine⟨vv (.slice (some ⟨fg,0,none⟩) (v.fl.length-1) fc),_,_,_,_,rfl,.inl rfl,hS.mv (R':=OR X (.slice (some ⟨fg,0,none⟩) v.fl.length fc) w (.slice (some ⟨fg,0,none⟩) (v.fl.length-1) fc) (v.fl.length-1) ((v.fl.eraseIdx t).map fun r=>lp r.p)) hmv (fun w2 c2=>⟨aJ (wQ (fun r:Lr=>lp r.p) v.fl t▸o') (fun g hg hl=>c2.block g hl fun hb=>by obtain⟨e,he,hea⟩:=Ay.1 hb;exact hS.off e he (.inl (by rw[hea];exact hg))),(hS.now.2.c.trans ch (fun b _ hb=> .inr (.inl (AB some (Ab.1 hb)).symm))).trans c2 (fun b _ hb=>(hS.aax (fun _ r=>r.c) b hb).elim id fun e=> .inr (.inr e))⟩),r [] rfl fun _=>gn 0 (l_ v.nd v.pn v.pe [.slice (some ⟨fg,0,none⟩) (v.fl.length-1) fc,v.tk,v.dd,iV v.cs,sv,td]) ?_⟩;have DV:∀x∈v.fl.eraseIdx t,x∈v.fl:=fun _ h=>Bv h;by_cases h5:k=5
 ·refine r [0] rfl fun _=>dt rfl fun w1 hS=> ?_;obtain⟨F1,Ln⟩:=OR.close (fl2:=v.fl.eraseIdx t) h fb o1 o2 o3 hF hS.now.2 VK.symm (hS.at 0 rfl) (fun _ h=>h) DV;exact⟨rfl,us,_,F1,by rw[h5,T_ G7,XL];exact Ln⟩
 refine r [1,1] rfl fun _=>l1 rfl (iV lr.l.kd) (fun w hS=>(hS.now.1.1 lr NC).b.at 0 (cR rfl)) (r [] rfl fun _=>lk (vv (.func (.func g) #[lp X] #[])) rfl (fun w hS=>hS.now.1.2 lr.l.kd g hg) (r [] rfl fun _=>ct rfl (vt []) (fun(y:(Nat→Nv)×Wv×(Nat→Prop)) w'=>Cd w X us v F (jc (fun i=>(us i).pure) v.pure k p) y.1 y.2.1 y.2.2 w') (fun w1 hS=>key _ _ (v.fl.eraseIdx t) w1 VK.symm hS.now.2 (hS.at 0 rfl) (fun _ h=>h) DV (by omega) (by rw[P6 G7 h5 h6,XL])) (fun _ _ _ h b=>h.next b) (fun y=>r [] rfl fun _=>dt rfl fun w hS=>⟨rfl,y.1,y.2.1,y.2.2,hS.now.2⟩) rfl he))
end
def qI(n:Nd)(kp:Int):Nd:={n with up:=false,dl:=n.dl.take (leftOf n.dl.length n.sy kp),sy:=leftOf n.dl.length n.sy kp,mo:=fun _=>Bt.zero,hn:=fun _=>0,he:=fun _=>0,wt:=[],af:=none,tu:=0,ct:=n.sy.toNat}
theorem JD{len:Nat}{s kp:Int}:leftOf len s kp≤len:=by
 unfold leftOf;split<;>omega
section
variable{w w':tA}{X i:Nat}{us:Nat→Nv}{v v':Wv}{F F':tF}
theorem Ua(h:CW w X us v F)(hi:i<5)(mV:(us i).ub=true)(kp:Int)(hk:0≤kp)(ZI:kp≤9223372036854775807):cA 49 #[lp (v.nd i),iV kp] w fun x w'=>x= .returned (.tuple #[])∧∃qH v' F',Cd w X us v F (ak (fun i=>(us i).pure) i (qI (us i).pure kp),v.pure) qH v' F' w':=by
 have ok:=h.ok i hi;have EV:=h.nb i hi;unfold NB mC at EV;rw[mV]at EV;have uG:=JD (len:=(us i).dl.length) (s:=(us i).sy) (kp:=kp);refine(S8 X (v.nd i) (us i).i (us i).da (us i).dl.length (us i).dc (us i).dl (us i).sy _ (us i).hn (us i).he (us i).wt (us i).af (us i).tu (us i).ct (us i).sk kp w EV (fun b=>CT us v F b∧b≠v.nd i) (fun b hb=>h.Ml b hb.1) (fun hb=>hb.2 rfl) (fun w2 c2=>((h.st w2 (c2.mono fun b hb=>hb.elim (fun e=> .inl (.inr (.inl ⟨i,hi,e⟩))) fun e=>e.1)).1.1 i hi).row) ok.nil ok.cap ok.len ok.s0 ok.s1 hk ZI).mono ?_;rintro x w' ⟨a1,c1,rfl,fb,gV,my,xT,J5,ch⟩;obtain⟨n1,hn1e⟩:∃n1,n1=leftOf (us i).dl.length (us i).sy kp:=⟨_,rfl⟩;rw[←hn1e]at fb gV my uG;have hlen:((us i).dl.take n1).length=n1:=by rw[AM];omega
 obtain⟨u',um⟩:∃u':Nv,u'={us i with ub:=false,da:=a1,dc:=c1,dl:=(us i).dl.take n1,sy:=(n1:Int),m:=fun _=>⟨Bt.zero,none,0,zQ⟩,hn:=fun _=>0,he:=fun _=>0,wt:= .slice none 0 0,wl:=[],af:= .nilFunc,ax:=none,tu:=0,ct:=(us i).sy.toNat}:=⟨_,rfl⟩;have hnv:NB w' X (v.nd i) u':=by
  have e1:(((us i).sy.toNat:Nat):Int)=(us i).sy:=Bh ok.s0;have e2:u'.dl.length=n1:=by rw[um];exact hlen
  have e:mC X u'=kW [.pointer (some ⟨X,0,none⟩),iV ((us i).i:Int),.bool false,.slice a1 n1 c1,iV (n1:Int)] zMe [iV (us i).sy,.bool (us i).sk]:=by
   unfold mC;rw[e2,um];simp only[e1];rfl
  unfold NB;rw[e];exact fb
 have aN:=h.lt;have kh:∀b,¬fK u'.wt b:=fun b hb=>by
  rw[um]at hb;obtain⟨o,n,c,e⟩:=hb;cases e
 have m:Mv (fun b=>F b∨b=v.nd i∨fK (us i).wt b) w (fun b=>F b∨b=v.nd i∨fK u'.wt b) w':=⟨ch.mono fun b hb=> .inr (.inl hb),fun b hb=> .inl (hb.imp id fun hb=>hb.imp id fun e=>absurd e (kh b)),fun b hb=>Am (aN b (hb.elim .inl fun hb=>hb.elim (fun e=> .inr (.inl ⟨i,hi,e⟩)) fun e=>absurd e (kh b))) ch.size⟩;have hs:=h.st.mv m (fun b hb=> .inl (hb.imp id fun hb=>hb.imp (fun e=>⟨i,hi,e⟩) fun e=>⟨i,hi,e⟩));have fw:u'.Ok:=by
  rw[um];exact⟨fun _ _=>Bt.dx,xT,by rw[hlen];exact my,J5,by rw[hlen];have:=ok.len;omega,by show(0:Int)≤(n1:Int);omega,by show(n1:Int)≤((us i).dl.take n1).length;rw[hlen];omega,ok.i5,trivial⟩
 have NA:=h.put hi m (h.wo.Fu ch fun b e=>e▸h.nf i hi) rfl rfl rfl hnv fw (h.nf i hi) ⟨0,by rw[um];exact⟨none,0,rfl,Ac _,Al _,.inl ⟨rfl,rfl⟩⟩⟩ (fun b hb=>absurd hb (kh b)) (fun b hb=>absurd hb (kh b)) (fun w2 c2=>by
  have c3:dB (CT us v F) w' w2:=c2.mono fun b hb=>hb.elim id fun hb=>hb.elim (fun hb=> .inl (.inl hb)) fun e=>absurd e (kh b)
  have dq:=gV w2 (c3.mono fun b hb=>by
   by_cases e:b=v.nd i
   ·exact .inl e
   ·exact .inr ⟨hb,e⟩)
  refine⟨?_,(hs w2 (c3.mono fun _=> .inl)).1.2⟩;rw[um]
  exact⟨by rw[hlen];exact dq,fun _ _=>ki.dG rfl,rfl,fun r hr=>by cases hr⟩)
 refine⟨rfl,_,v,F,⟨NA,h.mvs hi m rfl,rfl,rfl,rfl, ?_,rfl⟩⟩;rw[oP];congr 1;rw[um,hn1e];rfl
end
section
open Rv
noncomputable def jX(n:Nd)(s:Ws)(q:Nat)(tg:Int):Nd:=if s.pn q= -1∨s.pn q=tg∨n.up=false∨¬(n.mo q).e=s.pe q∨¬(cW (n.mo q) tg).2=0 then n else {n with mo:=ak n.mo q (cW (n.mo q) tg).1}
theorem qJ{n:Nd}{s:Ws}{q:Nat}{tg:Int}(h:s.pn q= -1∨s.pn q=tg∨n.up=false∨¬(n.mo q).e=s.pe q∨¬(cW (n.mo q) tg).2=0):jX n s q tg=n:=Ae h
theorem XM{u:Nv}{v:Wv}{q:Nat}{tg:Int}{B8:Bt}(h1:¬v.pn q= -1)(h2:¬v.pn q=tg)(h3:u.ub=true)(h4:(u.m q).B.e=v.pe q)(h5:cW (u.m q).B tg=(B8,0)):jX u.pure v.pure q tg={u.pure with mo:=ak u.pure.mo q B8}:=by
 unfold jX;rw[Aa]
 ·show({u.pure with mo:=ak u.pure.mo q (cW (u.m q).B tg).1}:Nd)=_;rw[h5]
 ·rintro(h|h|h|h|h)
  ·exact h1 h
  ·exact h2 h
  ·exact absurd (h3.symm.trans h) (by decide)
  ·exact h h4
  ·exact h (AB Prod.snd h5)
theorem JE{pn pe:tH}{q i:Nat}{a b c:Int}(hq:q<4)(hd:bN pn pe)(h:jS pn pe (q:Int) a b c)(hi:pn q= -1∨pn q=(i:Int)):(¬c=0∧pn q= -1)∨(a=(i:Int)∧b=pe q∧c=0∧pn q=(i:Int)):=by
 cases h with
 |state h=>exact absurd hd h
 |range h xX=>exact absurd ⟨by omega,by omega⟩ xX
 |none h k hk xX hn=>
  obtain rfl:q=k:=by omega
  exact .inl ⟨by decide,hn⟩
 |here h k hk xX hn=>
  obtain rfl:q=k:=by omega
  have:=hi.resolve_left hn;exact .inr ⟨this,rfl,rfl,this⟩
theorem ND{B B':Bt}{nd er:Int}(h:cW B nd=(B',er)):B'.Ok:=by
 unfold cW at h;split at h
 ·cases h;exact Bt.dx
 rename_i fw;have ok:=Br.1 fw;split at h
 ·cases h;exact Bt.dx
 rename_i hn;split at h
 ·cases h;exact Bt.dx
 split at h
 ·cases h;exact Bt.dx
 rename_i hr;have hr:=Br.1 hr;split at h
 ·cases h;exact Bt.dx
 cases h;have hs:=ok.cG;unfold Bt.b_ bg at hs;have hn:=Br.1 hn;refine⟨.inr (.inr (.inl ⟨rfl, ?_⟩)),ok.len,ok.told⟩;show 1≤B.e∧B.e≤1048576∧B.f=0∧0≤nd∧nd≤4∧0≤B.o∧B.o≤4;omega
theorem XN(X N:Nat)(u:Nv)(v:Wv)(F U:tF)(w:tA)(hw:NW w X N u v F U)(i q:Nat)(tg:Int)(hi:i<5)(hNi:v.nd i=N)(hq:q<4)(gg:bN v.pn v.pe)(G7:v.pn q= -1∨v.pn q=(i:Int)):cA 51 #[lp X,iV (q:Int),iV tg] w fun x w'=>x= .returned (.tuple #[])∧∃u' v' F',Dn w X N u v F U ((jX u.pure v.pure q tg,v.pure)) u' v' F' w':=by
 have ho:aW (jj (u.m q)) 47:=eF (hw.st.now.1.mo q hq).one;have off:∀{w'},(Mem w' (hs [nE X N u]) (fun b=>F b∨(U b∧b≠N)) (fun w=>(u.In w N∧∀r∈v.fl,oH w r)∧True) (RW X (fun b=>b∈[N]) F w v F))→jX u.pure v.pure q tg=u.pure→∃u' v' F',Dn w X N u v F U (jX u.pure v.pure q tg,v.pure) u' v' F' w':=fun hS e=>⟨u,v,F,Dn.fin hS hw.ub hw.nu (fun _ h=>⟨h.1.1,h.1.2⟩) hw.ok rfl rfl rfl rfl rfl (by rw[e]) rfl⟩;refine en (H:=[nE X N u]) 75 [vv (lp X),vi (q:Int),vi tg] Tryz.func51 rfl rfl (hw.init (G:=fun _=>True) fun _ _=>trivial) ?_;refine r [] rfl fun _=>lf rfl 8 _ (fun w hS j hj=>hS.now.2.wo.dir hj) (r [] rfl fun _=> ?_);refine cq rfl (fun y:Int×Int×Int=>vt [.g [.o (iV y.1),.o (iV y.2.1)],.o (iV y.2.2)]) (fun y=>jS v.pn v.pe q y.1 y.2.1 y.2.2) (fun w hS=>(EJ v.pn v.pe (q:Int) w).mono fun _ _ ⟨a,b,c,h0,h1,b1⟩=>⟨(a,b,c),h0,b1,h1⟩) ?_;rintro⟨pa,pb,er⟩ hwh;have hwh:jS v.pn v.pe q pa pb er:=hwh;rcases JE hq gg hwh G7 with⟨h0,QM⟩|⟨rfl,rfl,rfl,uW⟩
 ·exact r [1] rfl fun _=>fin fun w hS=>⟨rfl,off (hS.take 1) (qJ (.inl QM))⟩
 by_cases hto:(i:Int)=tg
 ·exact r [0,1] rfl fun _=>fin fun w hS=>⟨rfl,off (hS.take 1) (qJ (.inr (.inl (uW.trans hto))))⟩
 refine r [0,0,3] rfl fun _=>l1 (q:=0+0+i*1) rfl (lp N) (fun w hS=>by rw[show 0+0+i*1=i by omega,←hNi];exact hS.now.2.wo.nd_ hi) (sv 34 (vp 0 0 N) rfl ?_);cases mV:u.ub
 ·obtain⟨u1,rfl⟩:∃u1:Nv,u={u1 with ub:=false}:=⟨u,by rw[←mV]⟩;exact r [3] rfl fun _=>fin fun w hS=>⟨rfl,off (hS.take 1) (qJ (.inr (.inr (.inl mV))))⟩
 obtain⟨u1,rfl⟩:∃u1:Nv,u={u1 with ub:=true}:=⟨u,by rw[←mV]⟩;refine r [3,1] rfl fun _=>lo1 rfl rfl 0 rfl (iV (u1.m q).B.e) (oG (j:=1) hq (cR rfl)) ?_;by_cases zk:(u1.m q).B.e=v.pe q
 case neg=>exact r [1] rfl fun _=>fin fun w hS=>⟨rfl,off (hS.take 1) (qJ (.inr (.inr (.inr (.inl zk)))))⟩
 refine r [0,1] rfl fun _=>lo rfl rfl 0 rfl 47 (jj (u1.m q)) (fun i hi=>oG hq hi) (r [] rfl fun _=>cx rfl (fun y:Int×OP=>vt [KV y.2,.o (iV y.1)]) (fun y=>cW (u1.m q).B tg=(y.2.1,y.1)∧aW y.2.2.2.2 41) (fun y=>Sw y.2) (fun w hS=>(Wn _ (u1.m q).B (u1.m q).a (u1.m q).c (u1.m q).g tg w hS.ult (fun w2 c2=>(hS.g w2 c2).1.1.mo q hq) (hw.ok.ok q hq)).mono fun _ _ ⟨_,B8,er8,h0,fJ,⟨a8,c8,g8,hy,hm8⟩,b⟩=>⟨(er8,B8,a8,c8,g8),by rw[h0,hy];rfl,b,⟨fJ,hm8.now.one⟩,fun _=>hm8⟩) ?_);rintro⟨er8,B8,a8,c8,g8⟩ ⟨fJ,o8⟩;have fJ:cW (u1.m q).B tg=(B8,er8):=fJ;have o8:aW g8 41:=o8;by_cases h0:er8=0
 case neg=>exact r [0] rfl fun _=>dt rfl fun w hS=>⟨rfl,off ((hS.take 1).said fun _ h=>h.1) (qJ (.inr (.inr (.inr (.inr (by rw[show(Nv.pure _).mo q=(u1.m q).B from rfl,fJ];exact h0))))))⟩
 subst h0;refine r [1,3,1] rfl fun _=>so (g:=jj ⟨B8,a8,c8,g8⟩) rfl rfl rfl 0 rfl (mC X {u1 with ub:=true,m:=ak u1.m q ⟨B8,a8,c8,g8⟩}) (fun i _=>(pH hq i).trans (tr (x:=⟨B8,a8,c8,g8⟩) i)) ?_ (eF o8);exact r [] rfl fun _=>dt rfl fun w hS=>⟨rfl,_,v,F,Dn.fin hS hw.ub hw.nu (fun _ h=>⟨h.1.1.1.put h.2,h.1.1.2⟩) (hw.ok.put (ND fJ)) rfl rfl rfl rfl rfl (by rw[XM (u:={u1 with ub:=true}) (by rw[uW];omega) (by rw[uW];exact hto) mV zk fJ];exact jW (u:={u1 with ub:=true}) _ _) rfl⟩
end
theorem Ub{f g:tD}{n:Nat}(h:vF f n=vF g n):∀i,i<n→f i=g i:=fun i hi=>by
 have h1:cE f 0 n=cE g 0 n:=by
  have h2:=Value.agg.inj h;simpa using congrArg Array.toList h2
 have h3:=AB (fun l:List Value=>l[i]?) h1;simpa[cE,hi]using h3
theorem XO{w:tA}{N:Nat}{af:tK}{d:Ad}{x:Option Af}(h:aaw w N af d x):(x=none∧af= .nilFunc)∨(x≠none∧∃g a b,af= .func g a b):=by
 match x,h with
 |none,h=>exact .inl ⟨rfl,h⟩
 |some (.serve l an),h=>exact .inr ⟨by simp,_,_,_,h.1⟩
 |some (.begin l an),h=>exact .inr ⟨by simp,_,_,_,h.1⟩
 |some (.shut l an),h=>exact .inr ⟨by simp,_,_,_,h.1⟩
 |some (.take l an),h=>exact .inr ⟨by simp,_,_,_,h.1⟩
 |some (.fA l an),h=>exact .inr ⟨by simp,_,_,_,h.1⟩
theorem XP{hd tl:tM}{mo:tT}{hn he:tH}{wt af:tK}{tu:Int}{q:Nat}{g g':tD}(h:∀j,j<47→g j=g' j)(i:Nat):kW hd (gj (ak mo q g) hn he wt af tu) tl i=kW hd (gj (ak mo q g') hn he wt af tu) tl i:=by
 have e:∀j,j<188→ak mo q g (j/47) (j % 47)=ak mo q g' (j/47) (j % 47):=fun j hj=>by
  unfold ak;split
  ·exact h _ (Nat.mod_lt _ (by decide))
  ·rfl
 unfold kW;by_cases h5:i<5
 ·rw[Ae h5,Ae h5]
 rw[Aa h5,Aa h5];by_cases h6:i<204
 ·rw[Ae h6,Ae h6];unfold gj;by_cases h7:i-5<188
  ·rw[Ae h7,Ae h7];exact e _ h7
  ·rw[Aa h7,Aa h7]
 ·rw[Aa h6,Aa h6]
section
variable{w w':tA}{X i:Nat}{us:Nat→Nv}{v v':Wv}{F F':tF}{u':Nv}
theorem CW.dn(h:CW w X us v F)(hi:i<5){r:Nd×Ws}(hd:Dn w X (v.nd i) (us i) v F (CT us v F) r u' v' F' w'):Cd w X us v F (ak (fun i=>(us i).pure) i r.1,r.2) (ak us i u') v' F' w':=by
 obtain⟨B,hr⟩:=h.wr i hi;have kh:∀b,fK u'.wt b↔fK (us i).wt b:=fun b=>by rw[hd.wt]
 have aN:∀b,fK (us i).wt b→b<w.heap.size:=fun b hb=>h.lt b (.inr (.inr ⟨i,hi,hb⟩));have m:Mv (fun b=>F b∨b=v.nd i∨fK (us i).wt b) w (fun b=>F' b∨b=v.nd i∨fK u'.wt b) w':=hd.mv.less (fun b hb=>hb.imp id .inl) fun b hb=>by
  rcases hb with hb|hb|hb
  ·exact .inl (.inl hb)
  ·exact .inl (.inr hb)
  ·exact .inr ⟨.inr (.inr ((kh b).1 hb)),aN b ((kh b).1 hb)⟩
 have hnF:∀b,fK (us i).wt b→¬F' b:=fun b hb hf=>by
  rcases hd.mv.f b (.inl hf)with(e|e)|e
  ·exact h.wf i b hi hb e
  ·exact h.wn i b i hi hi hb e
  ·exact absurd (aN b hb) (Bb.2 e)
 have NA:=h.put hi m hd.nw.wo hd.nd hd.tk hd.dd hd.nw.nb hd.nw.ok hd.nw.nf ⟨B,by rw[hd.wt,hd.wl];exact hr.still fun hb=>hd.mv.c.block B (hr.lt hb) fun e=>e.elim (h.wf i B hi hb) (h.wn i B i hi hi hb)⟩ (fun b hb=>hnF b ((kh b).1 hb)) (fun b hb=>h.wn i b i hi hi ((kh b).1 hb)) (hd.nw.st.mono fun b _ hb=>by
  rcases hb with hb|hb|hb
  ·exact .inl hb
  ·exact .inr hb
  ·exact .inl (.inl (.inr (.inr ⟨i,hi,(kh b).1 hb⟩))))
 refine⟨NA,h.mvs hi m hd.nd,hd.nd,hd.tk,hd.dd, ?_,hd.s⟩;rw[oP,hd.n]
theorem CW.still(h:CW w X us v F)(c:dB (fun _=>False) w w'):Cd w X us v F (fun i=>(us i).pure,v.pure) us v F w':=by
 have same:∀b,CU us v F b→w'.heap[b]? =w.heap[b]? :=fun b hb=>c.block b (h.lt b hb) id;refine⟨⟨h.wo.still fun b hb=>same b (.inl hb),fun j hj=>(h.nb j hj).same (same _ (.inr (.inl ⟨j,hj,rfl⟩))),h.ok,h.inj,h.nf,fun j hj=> ?_,h.wf,h.wn,h.ww,h.st.Fu (c.mono fun _ h=>h.elim) fun _ _ h=>h,AN h.ln c.size,h.lo⟩,⟨c.mono fun _ h=>h.elim,fun _=> .inl,fun b hb=>Am (h.lt b hb) c.size⟩,rfl,rfl,rfl,rfl,rfl⟩;obtain⟨B,hr⟩:=h.wr j hj;exact⟨B,hr.still fun hb=>same B (.inr (.inr ⟨j,hj,hb⟩))⟩
noncomputable def Uc(ns:Nat→Nd)(s:Ws)(q:Nat)(tg:Int):(Nat→Nd)×Ws:=(ak ns (s.pn q).toNat (jX (ns (s.pn q).toNat) s q tg),s)
theorem XQ(h:CW w X us v F)(q:Nat)(hq:q<4)(tg:Int)(gg:bN v.pn v.pe):cA 51 #[lp X,iV (q:Int),iV tg] w fun x w'=>x= .returned (.tuple #[])∧∃qH v' F',Cd w X us v F (Uc (fun i=>(us i).pure) v.pure q tg) qH v' F' w':=by
 have hp:=gg q hq;unfold kS at hp;have hi:(v.pn q).toNat<5:=by omega
 refine(XN X (v.nd (v.pn q).toNat) (us (v.pn q).toNat) v F _ w (h.nw hi) (v.pn q).toNat q tg hi rfl hq gg (by omega)).mono ?_;rintro x w' ⟨rfl,u',v',F',hd⟩;exact⟨rfl,_,v',F',h.dn hi hd⟩
def NF(n:Nd)(s:Ws)(q:Nat):Prop:=(bN s.pn s.pe∧s.pn q= -1)∧n.up=true∧n.af=none∧(fh (n.mo q) 1).2=0∧n.dl.length+(cp [aU q]).length≤100000
open Classical in
noncomputable def dO(n:Nd)(s:Ws)(q:Nat):Nd×Ws:=if NF n s q then({n with dl:=n.dl++cp [aU q],sy:=((n.dl.length+(cp [aU q]).length:Nat):Int),mo:=ak n.mo q ⟨1,1,0,0,0,[]⟩},{s with pn:=bw s.pn q n.i,pe:=bw s.pe q 1})else(n,s)
theorem P7(h:CW w X us v F)(hi:i<5)(q:Nat)(hq:q<4):cA 44 #[lp X,iV (q:Int),lp (v.nd i)] w fun x w'=>x= .returned (.tuple #[])∧∃qH v' F',Cd w X us v F (ak (fun i=>(us i).pure) i (dO (us i).pure v.pure q).1,(dO (us i).pure v.pure q).2) qH v' F' w':=by
 have ok:=h.ok i hi;have J_:=h.st.now.1.1 i hi;obtain⟨fl,sv,td,fb,o1,o2,o3,hF⟩:=h.wo.ex;have hFX:F X:=(hF X).2 (.inl rfl);have hNX:v.nd i≠X:=fun e=>h.nf i hi (e▸hFX);have Gn:=XO J_.af;have qB:aW (jj ((us i).m q)) 47:=eF (J_.mo q hq).one;refine(Lm X (v.nd i) ((us i).i:Int) (us i).da (us i).dl.length (us i).dc (us i).dl (us i).sy (fun p=>jj ((us i).m p)) (us i).hn (us i).he (us i).wt (us i).af ((us i).tu:Int) ((us i).ct:Int) (us i).ub (us i).sk v.nd v.pn v.pe fl v.tk v.dd v.cs sv td q hq ((us i).m q).B ((us i).m q).a ((us i).m q).c ((us i).m q).g (ok.ok q hq) rfl qB (by have:=ok.i5;omega) (Gn.imp (fun h=>h.2) fun h=>h.2) w (h.nb i hi) fb (by simp[hNX]) (fun b=>CT us v F b∧b≠v.nd i∧b≠X) (fun b hb=>h.Ml b hb.1) (fun hb=>hb.2.1 rfl) (fun hb=>hb.2.2 rfl) (fun w2 c2=>((h.st w2 (c2.mono fun b hb=> ?_)).1.1 i hi).row) ok.nil ok.cap ok.max ok.len ok.s0 ok.s1).mono ?_
 ·rcases hb with(e|e)|hb
  ·exact .inl (.inr (.inl ⟨i,hi,e⟩))
  ·exact .inl (.inl (e▸hFX))
  ·exact hb.1
 rintro x w' ⟨rfl,ch,⟨QM,f0,f1⟩|⟨uW,a3,c3,a1,c1,q1,yg,hyg,f0,f1,gV,hc3,Jc,hm3⟩⟩
 ·have Ud:¬NF (us i).pure v.pure q:=fun hc=>QM ⟨hc.1,hc.2.1,(Gn.resolve_right fun k=>k.1 hc.2.2.1).2,hc.2.2.2⟩;have c0:dB (fun _=>False) w w':=ch.less fun b hb=>by
   rcases hb with rfl|rfl
   ·exact .inr ⟨_,_,_,h.nb i hi,f0⟩
   ·exact .inr ⟨_,_,_,fb,f1⟩
  have hs:=h.still c0;refine⟨rfl,us,v,F,hs.cw,hs.mv,rfl,rfl,rfl, ?_, ?_⟩
  ·unfold dO;rw[Aa Ud];exact(eO _ _).symm
  ·unfold dO;rw[Aa Ud]
 ·have Ke:(us i).ax=none:=(Gn.resolve_right fun k=>by obtain⟨_,g,a,b,e⟩:=k;have:=uW.2.2.1;rw[e]at this;cases this).1;have Ud:NF (us i).pure v.pure q:=⟨uW.1,uW.2.1,Ke,uW.2.2.2⟩;have mV:(us i).ub=true:=uW.2.1;obtain⟨L,hL⟩:∃L,L=cp [aU q]:=⟨_,rfl⟩;rw[←hL]at f0 gV hc3;obtain⟨u',um⟩:∃u':Nv,u'={us i with da:=a3,dc:=c3,dl:=(us i).dl++L,sy:=(((us i).dl.length+L.length:Nat):Int),m:=ak (us i).m q ⟨⟨1,1,0,0,0,[]⟩,a1,c1,q1⟩,af:= .nilFunc,ax:=none}:=⟨_,rfl⟩;have hlen:((us i).dl++L).length=(us i).dl.length+L.length:=Ag ..;have hnv:NB w' X (v.nd i) u':=by
   unfold NB;rw[um];refine f0.congr fun k _=> ?_;unfold mC;simp only[hlen,mV];rw[←tr (x:=(⟨⟨1,1,0,0,0,[]⟩,a1,c1,q1⟩:Mg)) k];exact XP (fun j hj=>Ub hyg j hj) k
  have QZ:∀b,(b=v.nd i∨b=X)→F b∨b=v.nd i∨fK (us i).wt b:=fun b hb=>hb.elim (fun e=> .inr (.inl e)) fun e=> .inl (e▸hFX);have kh:u'.wt=(us i).wt:=by rw[um]
  have pZ:u'.wl=(us i).wl:=by rw[um]
  have aN:∀b,(F b∨b=v.nd i∨fK (us i).wt b)→b<w.heap.size:=fun b hb=>h.lt b (hb.imp id fun hb=>hb.imp (fun e=>⟨i,hi,e⟩) fun e=>⟨i,hi,e⟩);have m:Mv (fun b=>F b∨b=v.nd i∨fK (us i).wt b) w (fun b=>F b∨b=v.nd i∨fK u'.wt b) w':=by
   rw[kh];exact⟨ch.mono QZ,fun _=> .inl,fun b hb=>Am (aN b hb) ch.size⟩
  have lG:∀{T sz n:Nat} {x:tK} {l:tM},w.ownsRow 0 T sz x n l→T≠103→T≠123→w'.ownsRow 0 T sz x n l:=fun o h1 h2=>aJ o fun g hg hl=>ch.block g hl fun hb=>hb.elim (aX o (h.nb i hi) h2 g hg) (aX o fb h1 g hg);have LA:WO w' X {v with pn:=bw v.pn q (us i).i,pe:=bw v.pe q 1} F:=⟨fl,sv,td,f1,lG o1 (by decide) (by decide),lG o2 (by decide) (by decide),lG o3 (by decide) (by decide),hF⟩;have hs:=h.st.mv m (fun b hb=> .inl (hb.imp id fun hb=>hb.imp (fun e=>⟨i,hi,e⟩) fun e=>⟨i,hi,e⟩));have fw:u'.Ok:=by
   rw[um];refine(Nv.Ok.put (u:={us i with da:=a3,dc:=c3,dl:=(us i).dl++L,sy:=(((us i).dl.length+L.length:Nat):Int),af:= .nilFunc,ax:=none}) ?_ (x:=⟨⟨1,1,0,0,0,[]⟩,a1,c1,q1⟩) ?_:_)
   ·exact⟨ok.ok,Jc,by rw[hlen];exact hc3,hm3,by rw[hlen,hL];exact uW.2.2.2.2,by show(0:Int)≤(((us i).dl.length+L.length:Nat):Int);omega,by show(((us i).dl.length+L.length:Nat):Int)≤(((us i).dl++L).length:Int);rw[hlen];exact Bq _,ok.i5,trivial⟩
   ·exact⟨.inr (.inl ⟨rfl,by show(1:Int)≤1;decide,by show(1:Int)≤1048576;decide,rfl,rfl,rfl⟩),Al _,St.zero,[],.nil⟩
  obtain⟨B,hr⟩:=h.wr i hi
  have NA:=h.put (v':={v with pn:=bw v.pn q (us i).i,pe:=bw v.pe q 1}) hi m LA rfl rfl rfl hnv fw (h.nf i hi) ⟨B,by rw[kh,pZ];exact hr.still fun hb=>ch.block B (hr.lt hb) fun e=>e.elim (h.wn i B i hi hi hb) fun e=>h.wf i B hi hb (e▸hFX)⟩ (fun b hb=>h.wf i b hi (kh▸hb)) (fun b hb=>h.wn i b i hi hi (kh▸hb)) (fun w2 c2=>by
   have cc:dB (CT us v F) w' w2:=c2.mono fun b hb=>hb.elim id fun hb=>hb.elim (fun hb=> .inl (.inl hb)) fun e=> .inl (.inr (.inr ⟨i,hi,kh▸e⟩));have h1:=hs w2 (cc.mono fun _=> .inl)
   have h2:=gV w2 (cc.mono fun b hb=>by
    by_cases e:b=v.nd i
    ·exact .inl (.inl e)
    ·by_cases e2:b=X
     ·exact .inl (.inr e2)
     ·exact .inr ⟨hb,e,e2⟩)
   refine⟨?_,h1.1.2⟩;have h3:=h1.1.1 i hi;rw[um]
   exact Nv.In.put (u:={us i with da:=a3,dc:=c3,dl:=(us i).dl++L,sy:=(((us i).dl.length+L.length:Nat):Int),af:= .nilFunc,ax:=none}) ⟨by rw[hlen,hL];exact hL▸h2.2,h3.mo,rfl,h3.wl⟩ h2.1)
  refine⟨rfl,_,_,F,NA,h.mvs hi m rfl,rfl,rfl,rfl, ?_, ?_⟩
  ·rw[oP];unfold dO;rw[Ae Ud,um,hL];congr 1;show Nd.mk .. =Nd.mk ..;simp only[acX,Ke]
  ·unfold dO;rw[Ae Ud]
end
section
open Rv
open Classical in
noncomputable def Ue(es:List Ev):List An:=if h:∃x:St×List An,bz es x.1 x.2 then h.choose.2 else[]
theorem Uf{es:List Ev}{s:St}{bu:List An}(h:bz es s bu):Ue es=bu:=by
 have hx:∃x:St×List An,bz es x.1 x.2:=⟨(s,bu),h⟩;unfold Ue;rw[dif_pos hx];exact(hx.choose_spec.one h).2
def jY(r:Rec):Prop:=r.k=2∨r.k=6
instance(r:Rec):Decidable (jY r):=by unfold jY;infer_instance
noncomputable def XR(i:Int)(Bs:Nat→Bt)(r:Rec):Ji:=⟨i,r.q,r.e,(Bs r.q.toNat).es.getLastD mB,(Ue (Bs r.q.toNat).es).getLastD CA,-1⟩
noncomputable def fD(i:Int)(Bs:Nat→Bt)(ps:List Rec):List Ji:=(ps.filter jY).map (XR i Bs)
theorem P8{i:Int}{Bs:Nat→Bt}{ps:List Rec}{k:Nat}{r:Rec}(h:ps[k]? =some r)(hl:jY r):fD i Bs (ps.take (k+1))=fD i Bs (ps.take k)++[XR i Bs r]:=by
 rw[Ch,h];simp[fD,hl]
theorem Ug{i:Int}{Bs:Nat→Bt}{ps:List Rec}{k:Nat}{r:Rec}(h:ps[k]? =some r)(hl:¬jY r):fD i Bs (ps.take (k+1))=fD i Bs (ps.take k):=by
 rw[Ch,h];simp[fD,hl]
theorem wT{i:Int}{Bs:Nat→Bt}{ps:List Rec}:(fD i Bs ps).length≤ps.length:=by
 unfold fD;rw[AW];exact List.length_filter_le ..
theorem XS{es:List Ev}{w w':tA}{va:tK}{er:Int}(h:Av es w w' va er)(hl:es.length≤2000)(ht:∃s bu,bz es s bu):∃s bu a c,er=0∧bz es s bu∧va= .slice a bu.length c∧RowK .i64 w' a (4*bu.length) (lJ bu)∧∀x,a=some x→w.heap.size≤x.block:=by
 cases h with
 |bad h hr=>
  obtain⟨s,bu,ht⟩:=ht;exact absurd (hr.one (.told bu hl ht)).2 h
 |told bu hl' YN own=>
  obtain⟨a,c,e,hr,_,_,_,hb⟩:=RowK.eK own YN.S6;exact⟨_,bu,a,c,rfl,YN,e,hr,hb⟩
theorem LI{l:List An}{k:Nat}{v:An}(hk:l[k]? =some v):∀j,j<4→iV ((lJ l).getD (4*k+j) 0)=lF [iV v.c,iV v.he,iV v.no,iV v.bd] j:=by
 induction l generalizing k with
 |nil=>simp at hk
 |cons u l ih=>
  intro j hj;cases k with
  |zero=>
   simp only[List.getElem?_cons_zero,Option.some.injEq]at hk;subst hk
   match j,hj with
   |0,_=>rfl
   |1,_=>rfl
   |2,_=>rfl
   |3,_=>rfl
  |succ k=>
   have:=ih (k:=k) (by simpa using hk) j hj;rw[←this];congr 1;show(ft u++lJ l).getD (4*(k+1)+j) 0=_;simp only[List.getD_eq_getElem?_getD];rw[AQ (by show 4≤_;omega),show 4*(k+1)+j-(ft u).length=4*k+j by show 4*(k+1)+j-4=_;omega]
theorem NG{α:Type}{l:List α}{x d:α}(h:l[l.length-1]? =some x):l.getLastD d=x:=by
 rw[List.getLastD_eq_getLast?,List.getLast?_eq_getElem?,h];rfl
theorem XT(X N:Nat)(u:Nv)(Bs:Nat→Bt)(Y yc:Nat)(A:Nat→Option Addr)(K:tV)(ps:List Rec)(kk:Nat)(w:tA)(U:tF)(hU:∀b,U b→b<w.heap.size)(hG:cm U w (fun w=>((NB w X N u)∧RowK .u8 w u.da u.dl.length u.dl)∧ma w Y 4 Bs A K))(ok:u.Ok)(hcn:u.ct≤u.dl.length)(Xb:bB (u.dl.drop u.ct)=(ps.map bn,kk))(xu:∀x∈aD ps,(Lit.int .i64 x).wf=true)(G7:ps.length≤100000)(hps:∀r∈ps,jY r→∃q:Nat,q<4∧r.q=(q:Int)∧(Bs q).Ok∧0<(Bs q).es.length):cA 77 #[lp N,.slice (some ⟨Y,0,none⟩) 4 yc] w fun x w'=>∃lv,x= .returned lv∧w'.ownsRow 0 61 14 lv (fD u.i Bs ps).length ((fD u.i Bs ps).flatMap Jj)∧(∀b,lv.ownBlock=some b→w.heap.size≤b)∧bZ w w':=by
 refine en (H:=[]) 81 [vv (lp N),vv (.slice (some ⟨Y,0,none⟩) 4 yc)] Tryz.func77 rfl rfl (nZ hU hG) (r [2] rfl fun _=>l1 rfl (.slice u.da u.dl.length u.dc) (fun w hS=>hS.now.1.1.1.at 3 (cR rfl)) (r [] rfl fun _=>l1 rfl (iV (u.ct:Int)) (fun w hS=>hS.now.1.1.1.at 204 (cR rfl)) (r [] rfl fun _=>cx rfl (fun y:Option Addr×Nat=>vt [.o (.slice y.1 ps.length y.2),.o (iV (kk:Nat)),.o (iV 0)]) (fun y=>0<ps.length→∃b o,y.1=some ⟨b,o,none⟩) (fun y w=>RowK .i64 w y.1 (10*ps.length) (aD ps)) (fun w hS=>(Nl (gO u.da u.ct 1 u.dc) (u.dl.length-u.ct) (u.dc-u.ct) (u.dl.drop u.ct) 0 ps kk _ (Tm hS.now.1.1.2 hcn ok.cap) (fun h=>by rw[ok.nil (wM h)];omega) (by have:=ok.cap;omega) (by have:=ok.max;omega) (by have:=ok.len;omega) (Bq _) (by omega) Xb xu).mono ?_) ?_)))
 ·rintro _ w2 ⟨a8,c8,rfl,r8,Hc,hm8,Te,hf8,b⟩;exact⟨(a8,c8),rfl,b,fun h=>pw r8 (by omega),fun hl=>bM r8 hf8 hl⟩
 rintro⟨a8,c8⟩ hbo;have hbo:0<ps.length→∃b o,a8=some ⟨b,o,none⟩:=hbo;refine r [] rfl fun _=>jt (fun w2 hS=>hS.xR w.heap.size 61 14) ?_;refine iD (X:=Nat×Value) ⟨fun x=>[(0,vv (lp N)),(1,vv (.slice (some ⟨Y,0,none⟩) 4 yc)),(8,vv x.2),(31,vv (.slice a8 ps.length c8)),(32,vi (ps.length:Int)),(33,vi (x.1:Int))],fun _=>[],fun x b=>x.2.ownBlock=some b∨U b,fun _ w=>((NB w X N u∧RowK .u8 w u.da u.dl.length u.dl)∧ma w Y 4 Bs A K)∧RowK .i64 w a8 (10*ps.length) (aD ps),fun x w'=>bZ w w'∧w'.ownsRow w.heap.size 61 14 x.2 (fD u.i Bs (ps.take x.1)).length ((fD u.i Bs (ps.take x.1)).flatMap Jj),fun x=>x.1≤ps.length,fun x=>ps.length-x.1⟩ (0,.slice none 0 0) ⟨rfl,rfl,rfl,rfl,rfl,rfl,trivial⟩ (fun w hS=>hS) (Al _) ?_;rintro f ⟨k,lv⟩ hk;have hk:k≤ps.length:=hk;by_cases aN:k<ps.length
 case neg=>
  obtain rfl:k=ps.length:=by omega
  refine r [0] rfl fun _=>fin fun w1 hS=> ?_;have ho:=hS.now.2.2;rw[BC]at ho
  exact⟨lv,rfl,⟨ho.1,ho.2.imp id fun⟨g,c,cur,e,_,h⟩=>⟨g,c,cur,e,Al _,h⟩⟩,fun b hb=>by
   rcases ho.2 with⟨rfl,_⟩|⟨g,c,cur,rfl,hg,_⟩
   ·cases hb
   ·cases hb;exact hg,hS.now.2.1⟩
 obtain⟨bb,bo,rfl⟩:=hbo (by omega);obtain⟨rec,hv⟩:∃r,ps[k]? =some r:=⟨ps[k],Ai aN⟩;have NC:=Ar hv;have hle:(fD u.i Bs (ps.take k)).length≤100000:=by
  have:=wT (i:=u.i) (Bs:=Bs) (ps:=ps.take k);rw[AM]at this;omega
 obtain⟨rk,rq,re,rp,rv⟩:=rec;have dq:=qA hv;by_cases hil:jY ⟨rk,rq,re,rp,rv⟩
 case neg=>
  have h2:¬rk=2:=fun h=>hil (.inl h);have h6:¬rk=6:=fun h=>hil (.inr h);exact r [1] rfl fun _=>lf (q:=bo+k*10) rfl 10 (lF [iV rk,iV rq,iV re,iV rp,iV rv.k,iV rv.p,iV rv.i,iV rv.b,iV rv.he,iV rv.hn]) (fun w hS=>ju hS.now.1.2 (by omega) dq) (sv 36 (vg [.o (iV rk),.o (iV rq),.o (iV re),.o (iV rp),.o (iV rv.k),.o (iV rv.p),.o (iV rv.i),.o (iV rv.b),.o (iV rv.he),.o (iV rv.hn)]) rfl (rz [1,1,1] [((k+1:Nat):Int)] rfl fun _=>bJ (k+1,lv) ⟨rfl,rfl,rfl,rfl,rfl,rfl,trivial⟩ (fun w hS=>(hS.take 0).sr fun w h=>⟨h.1,by rw[Ug hv hil];exact h.2⟩) (show k+1≤ps.length by omega) (show ps.length-(k+1)<ps.length-k by omega)))
 obtain⟨q,jb,hrq,okq,ac1⟩:=hps _ NC hil;obtain rfl:rq=(q:Int):=hrq;obtain⟨eb,eo,hA⟩:=pw (hG.now.2.bin q jb).row (by omega);obtain⟨e9,he9⟩:∃e9,(Bs q).es[(Bs q).es.length-1]? =some e9:=⟨_,Ai (by omega)⟩;obtain⟨s9,bu,hta⟩:=okq.told;have hal:=hta.len;have VK:=okq.len;obtain⟨n9,hn9⟩:∃n9,bu[(Bs q).es.length-1]? =some n9:=⟨_,Ai (by omega)⟩;have G9:XR u.i Bs ⟨rk,(q:Int),re,rp,rv⟩=⟨(u.i:Int),(q:Int),re,e9,n9,-1⟩:=by
  unfold XR;rw[show((q:Int)).toNat=q by omega,Uf hta,NG he9,NG (by rw[hal];exact hn9)]
 have uW:=P8 (i:=u.i) (Bs:=Bs) hv hil;refine r [1] rfl fun _=>lf (q:=bo+k*10) rfl 10 (lF [iV rk,iV (q:Int),iV re,iV rp,iV rv.k,iV rv.p,iV rv.i,iV rv.b,iV rv.he,iV rv.hn]) (fun w hS=>ju hS.now.1.2 (by omega) dq) (sv 36 (vg [.o (iV rk),.o (iV (q:Int)),.o (iV re),.o (iV rp),.o (iV rv.k),.o (iV rv.p),.o (iV rv.i),.o (iV rv.b),.o (iV rv.he),.o (iV rv.hn)]) rfl ?_);rcases hil with h2|h6
 case' inl=>
  have h2:rk=2:=h2;refine r [0] rfl fun _=> ?_
 case' inr=>
  have h6:rk=6:=h6;refine r [1,0] rfl fun _=> ?_
 all_goals
  refine l1 (q:=0+q*6+5) rfl (.slice (some ⟨eb,eo,none⟩) (Bs q).es.length (K q)) (fun w hS=>by rw[←hA,show 0+q*6+5=q*6+5 by omega];exact hS.now.1.1.2.cell q jb 5 (by decide)) (r [] rfl fun _=>cx rfl (fun y:Nat×Nat×Nat=>vt [.o (.slice (some ⟨y.1,y.2.1,none⟩) bu.length y.2.2),.o (iV 0)]) (fun _=>True) (fun y w=>RowK .i64 w (some ⟨y.1,y.2.1,none⟩) (4*bu.length) (lJ bu)) (fun w hS=>(Jb (Bs q).es (some ⟨eb,eo,none⟩) (K q) _ (hA▸(hS.now.1.1.2.bin q jb).row)).mono ?_) ?_)
  ·rintro _ w5 ⟨va,er,rfl,hav,b⟩;obtain⟨s8,an8,a9,c9,rfl,hta8,rfl,rn9,hf9⟩:=XS hav okq.len okq.told;obtain rfl:an8=bu:=(hta8.one hta).2;obtain⟨ab,ao,rfl⟩:=pw rn9 (by omega);exact⟨(ab,ao,c9),rfl,b,trivial,fun hl=>bM rn9 hf9 hl⟩
  rintro⟨ab,ao,c9⟩-;refine rz [1,1] [(((Bs q).es.length-1:Nat):Int)] rfl fun _=>l1 rfl (iV (u.i:Int)) (fun w hS=>hS.now.1.1.1.1.1.at 1 (cR rfl)) (r [] rfl fun _=>lf (q:=eo+((Bs q).es.length-1)*6) rfl 6 (lF [iV e9.k,iV e9.p,iV e9.i,iV e9.b,iV e9.he,iV e9.hn]) (fun w hS=>ju (hA▸(hS.now.1.1.1.2.bin q jb).row) (by omega) (s6 he9)) (sv 71 (vg [.o (iV e9.k),.o (iV e9.p),.o (iV e9.i),.o (iV e9.b),.o (iV e9.he),.o (iV e9.hn)]) rfl (r [] rfl fun _=>lf (q:=ao+((Bs q).es.length-1)*4) rfl 4 (lF [iV n9.c,iV n9.he,iV n9.no,iV n9.bd]) (fun w hS=>ju hS.now.1.2 (by omega) (LI hn9)) (sv 75 (vg [.o (iV n9.c),.o (iV n9.he),.o (iV n9.no),.o (iV n9.bd)]) rfl (r [] rfl fun _=>nJ 1 rfl sE (fun w hS=>hS.now.2.1.size) (fun _ _ h c=>cB h c (Ac _)) fun g c hc=> ?_)))));exact rz [1] [((k+1:Nat):Int)] rfl fun _=>bJ (k+1,_) ⟨rfl,rfl,rfl,rfl,rfl,rfl,trivial⟩ (fun w hS=>((hS.take 0).said fun _ h=>h.1).sr fun w h=>⟨h.1,by rw[uW,G9,Ag,List.flatMap_append];exact h.2⟩) (show k+1≤ps.length by omega) (show ps.length-(k+1)<ps.length-k by omega)
def CN(w:tA)(a:tB)(L:List Ji):Prop:=∀k y,L[k]? =some y→∃g,a=some ⟨g,0,none⟩∧∀j,j<14→w.cell? ⟨g,k*14+j,none⟩=some (lF (Jj y) j)
theorem Gx{α β:Type}{f:α→List β}{m:Nat}(hm:∀x,(f x).length=m):∀(l:List α) (k:Nat) (x:α) (j:Nat),l[k]? =some x→j<m→(l.flatMap f)[k*m+j]? =(f x)[j]?
 |[],k,x,j,h,_=>by simp at h
 |a::l,0,x,j,h,hj=>by
  simp only[List.getElem?_cons_zero,Option.some.injEq]at h;subst h;rw[List.flatMap_cons,Nat.zero_mul,Aj,AZ (by rw[hm];exact hj)]
 |a::l,k+1,x,j,h,hj=>by
  have ih:=Gx hm l k x j (by simpa using h) hj;rw[List.flatMap_cons,AQ (by rw[hm,Nat.succ_mul];omega),hm,←ih];congr 1;rw[Nat.succ_mul];omega
theorem aaH(y:Ji){j:Nat}(hj:j<14):(Jj y)[j]? =some (lF (Jj y) j):=by
 match j,hj with
 |0,_=>rfl
 |1,_=>rfl
 |2,_=>rfl
 |3,_=>rfl
 |4,_=>rfl
 |5,_=>rfl
 |6,_=>rfl
 |7,_=>rfl
 |8,_=>rfl
 |9,_=>rfl
 |10,_=>rfl
 |11,_=>rfl
 |12,_=>rfl
 |13,_=>rfl
theorem Gy{w:tA}{T:Nat}{lv:tK}{L:List Ji}(h:w.ownsRow 0 T 14 lv L.length (L.flatMap Jj)):∃a c,lv= .slice a L.length c∧CN w a L:=by
 obtain⟨_,⟨e,h0⟩|⟨g,c,cur,e,_,hb,_,_,_,Lz⟩⟩:=h
 ·exact⟨none,0,by rw[e,h0],fun k y hk=>by rw[AU.1 h0]at hk;simp at hk⟩
 ·refine⟨_,c,e,fun k y hk=>⟨g,rfl,fun j hj=> ?_⟩⟩;have h1:=Gx (f:=Jj) (m:=14) (fun _=>rfl) L k y j hk hj;rw[aaH y hj,←Lz,AO]at h1;split at h1
  ·simp only[World.cell?,hb];rw[←BX];simpa using h1
  ·cases h1
def P9(i:Nat)(mg:Nat→Mg)(r:Rec):Ji:=⟨i,r.q,(mg r.q.toNat).B.e,r.v,CA,-1⟩
theorem P_(X N:Nat)(u:Nv)(v:Wv)(F U:tF)(w:tA)(hw:NW w X N u v F U)(mg:Nat→Mg)(xV:∀q,q<4→(mg q).B.Ok)(la:tB)(ls:List Ji)(lc:Nat)(ra:tB)(rs:List Rec)(rc:Nat)(c0 c1 c2 c3:Nat)(hg:cm U w (fun w=>((((((bh w c0 117 199 (gj (fun p=>jj (mg p)) (dX 4) bK (.slice none 0 0) (.nilFunc) 0))∧bh w c1 98 1 (fun _=>lp N))∧bh w c2 37 1 (fun _=> .slice la ls.length lc))∧bh w c3 153 1 (fun _=> .slice ra rs.length rc))∧CN w la ls)∧RowK .i64 w ra (10*rs.length) (aD rs))∧(∀q,q<4→oI w (mg q))))(hrs:∀r∈rs,∃q:Nat,q<4∧r.q=(q:Int))(hlen:v.sv.length+ls.length+rs.length≤1000000000000):cA 78 #[lp c0,lp c1,lp c2,lp c3] w fun x w'=>x= .returned (.tuple #[])∧∃F',NW w' X N ({u with ub:=true,m:=mg,hn:=dX 4,he:=bK,wt:= .slice none 0 0,wl:=[],af:= .nilFunc,ax:=none,tu:=0}) {v with sv:=v.sv++ls++(rs.map (P9 u.i mg))} F' (fun b=>U b∨F' b)∧Mv (fun b=>F b∨b=N) w (fun b=>F' b∨b=N) w':=by
 have qB:aW (gj (fun p=>jj (mg p)) (dX 4) bK (.slice none 0 0) .nilFunc 0) 199:=wH (fun q hq=>eF (hg.now.2 q hq).one) rfl;have hv:∀a,a∈[N]→a∈[N]:=fun _ h=>h;obtain⟨u2,hu2⟩:∃u2:Nv,u2={u with ub:=true,m:=mg,hn:=dX 4,he:=bK,wt:= .slice none 0 0,wl:=[],af:= .nilFunc,ax:=none,tu:=0}:=⟨_,rfl⟩;rw[←hu2];refine en (H:=[nE X N u]) _ [vv (lp c0),vv (lp c1),vv (lp c2),vv (lp c3)] Tryz.func78 rfl rfl (hw.init hg) ?_;refine r [5,0,5] rfl fun _=>Zu rfl (lp N) (fun w h=>h.1.2.1.1.1.1.1.2.at 0 (cR rfl)) (Rv.sv 8 (vp 0 0 N) rfl (r [] rfl fun _=>Zu rfl (lp N) (fun w h=>h.1.2.1.1.1.1.1.2.at 0 (cR rfl)) (Rv.sv 9 (vp 0 0 N) rfl (r [] rfl fun _=>lfg rfl 199 (gj (fun p=>jj (mg p)) (dX 4) bK (.slice none 0 0) .nilFunc 0) (fun w h j hj=>by rw[Aj];exact h.1.2.1.1.1.1.1.1.at j (by omega)) ?_ hv)) hv)) hv;refine r [] rfl fun _=>gn 0 (mC X u2) ?_ rfl (by rw[hu2];kernel_rfl);refine l1 rfl (.slice la ls.length lc) (fun w hS=>hS.now.1.2.1.1.1.1.2.at 0 (cR rfl)) (r [] rfl fun _=> ?_);refine uD (X:=Nat×Wv×(Nat→Prop)) (fun x=>[(0,vv (lp c0)),(1,vv (lp c1)),(2,vv (lp c2)),(3,vv (lp c3)),(15,vv (.slice la ls.length lc)),(16,vi (ls.length:Int)),(17,vi (x.1:Int))]) (fun _=>[nE X N u2]) (fun x b=>x.2.2 b∨(U b∧b≠N)) (fun x=>RW X (fun b=>b∈[N]) F w x.2.1 x.2.2) (fun x=>x.1≤ls.length∧x.2.1={v with sv:=v.sv++ls.take x.1}) (fun x=>ls.length-x.1) (0,v,F) ⟨rfl,rfl,rfl,rfl,rfl,rfl,rfl,trivial⟩ (fun _ hS=>hS) ⟨Al _,by simp⟩ ?_;rintro f ⟨k,v1,F1⟩ ⟨hk,N7⟩;have hk:k≤ls.length:=hk;obtain rfl:v1={v with sv:=v.sv++ls.take k}:=N7;by_cases aN:k<ls.length
 ·obtain⟨y,hy⟩:∃y,ls[k]? =some y:=⟨ls[k],Ai aN⟩;obtain⟨lg,rfl,_⟩:=hg.now.1.1.2 k y hy;refine r [1] rfl fun _=>lf (q:=0+k*14) rfl 14 (lF (Jj y)) (fun w hS j hj=>by obtain⟨g2,e2,h2⟩:=hS.now.1.2.1.1.2 k y hy;cases e2;rw[Aj];exact h2 j hj) (r [1] rfl fun β=>l1 rfl (lp N) (fun w hS=>hS.now.1.2.1.1.1.1.1.2.at 0 (cR rfl)) (Rv.sv 21 (vp 0 0 N) rfl (r [] rfl fun _=>cv rfl (vt []) _ (fun w1 hS=>Jn X _ F1 w1 y _ rfl hS.now.2.wo (by show(v.sv++ls.take k).length≤_;rw[Ag,AM];omega)) fun F2=> ?_)));exact rz [1] [((k+1:Nat):Int)] rfl fun _=>bJ (k+1,_,F2) ⟨rfl,rfl,rfl,rfl,rfl,rfl,rfl,trivial⟩ (fun w hS=>hS.take 1) ⟨aN,by rw[oO hy,←AA]⟩ (show ls.length-(k+1)<ls.length-k by omega)
 obtain rfl:k=ls.length:=by omega
 refine r [0] rfl fun _=>l1 rfl (.slice ra rs.length rc) (fun w hS=>hS.now.1.2.1.1.1.2.at 0 (cR rfl)) (r [] rfl fun _=> ?_);refine uD (X:=Nat×Wv×(Nat→Prop)) (fun x=>[(0,vv (lp c0)),(1,vv (lp c1)),(2,vv (lp c2)),(3,vv (lp c3)),(28,vv (.slice ra rs.length rc)),(29,vi (rs.length:Int)),(30,vi (x.1:Int))]) (fun _=>[nE X N u2]) (fun x b=>x.2.2 b∨(U b∧b≠N)) (fun x=>RW X (fun b=>b∈[N]) F w x.2.1 x.2.2) (fun x=>x.1≤rs.length∧x.2.1={v with sv:=v.sv++ls++(rs.take x.1).map (P9 u.i mg)}) (fun x=>rs.length-x.1) (0,_,F1) ⟨rfl,rfl,rfl,rfl,rfl,rfl,rfl,trivial⟩ (fun _ hS=>hS) ⟨Al _,by simp⟩ ?_;rintro f ⟨k,v1,F2⟩ ⟨hk,N7⟩;have hk:k≤rs.length:=hk;obtain rfl:v1={v with sv:=v.sv++ls++(rs.take k).map (P9 u.i mg)}:=N7;by_cases aN:k<rs.length
 ·obtain⟨⟨rk,rq,re,rp,rv⟩,hv⟩:∃r,rs[k]? =some r:=⟨rs[k],Ai aN⟩;obtain⟨q,jb,hrq⟩:=hrs _ (Ar hv);obtain rfl:rq=(q:Int):=hrq;obtain⟨bb,bo,rfl⟩:=pw hg.now.1.2 (by omega);refine r [1] rfl fun _=>lf (q:=bo+k*10) rfl 10 (lF [iV rk,iV (q:Int),iV re,iV rp,iV rv.k,iV rv.p,iV rv.i,iV rv.b,iV rv.he,iV rv.hn]) (fun w hS=>ju hS.now.1.2.1.2 (by omega) (qA hv)) (Rv.sv 33 (vg [.o (iV rk),.o (iV (q:Int)),.o (iV re),.o (iV rp),.o (iV rv.k),.o (iV rv.p),.o (iV rv.i),.o (iV rv.b),.o (iV rv.he),.o (iV rv.hn)]) rfl (r [] rfl fun β=>l1 rfl (lp N) (fun w hS=>hS.now.1.2.1.1.1.1.1.2.at 0 (cR rfl)) (r [] rfl fun _=>cv rfl (vt []) _ (fun w1 hS=>wN X _ F2 w1 N u2 q jb rv CA (-1) hS.now.2.wo (fun w2 c2=>(hS.xQ 0 rfl w2 (c2.mono fun b h=> .inl h)).2) (by show(v.sv++ls++(rs.take k).map (P9 u.i mg)).length≤_;rw[Ag,Ag,AW,AM];omega)) fun F3=> ?_)));exact rz [1] [((k+1:Nat):Int)] rfl fun _=>bJ (k+1,_,F3) ⟨rfl,rfl,rfl,rfl,rfl,rfl,rfl,trivial⟩ (fun w hS=>hS.take 1) ⟨aN,by rw[oO hv,AE,←AA,hu2];simp[P9]⟩ (show rs.length-(k+1)<rs.length-k by omega)
 obtain rfl:k=rs.length:=by omega
 refine r [0] rfl fun _=>dt rfl fun w1 hS=> ?_;rw[BC]at hS;have hn:=NW.fin (u':=u2) hS hw.ub hw.nu (fun _ h=>⟨⟨by rw[hu2];exact h.1.1.row,by rw[hu2];exact h.2.2,by rw[hu2];rfl,by rw[hu2];exact fun r hr=>by cases hr⟩,h.1.2⟩) (by rw[hu2];exact⟨xV,hw.ok.nil,hw.ok.cap,hw.ok.max,hw.ok.len,hw.ok.s0,hw.ok.s1,hw.ok.i5,trivial⟩);exact⟨rfl,F2,hn.1,hn.2.1⟩
end
theorem Uh(Bs:Nat→Bt)(Y cb:Nat)(A:Nat→Option Addr)(K:tV)(ok:∀q,q<4→(Bs q).Ok)(p:Nat)(hp:p<4)(hlo:∀q,q<p→(aZ (Bs q)).2=0)(hhi:¬(aZ (Bs p)).2=0)(U:tF)(w:tA)(hU:∀b,U b→b<w.heap.size)(hb:cm U w fun w=>ma w Y 4 Bs A K):cA 76 #[.slice (some ⟨Y,0,none⟩) 4 cb] w (rB (.tuple #[vF zMe 199,.slice none 0 0,.bool false]) w):=by
 refine(EX Bs Y cb A K ok (fun q hq=>Y0 (ok q hq)) U w hU hb).mono ?_;rintro x w' (⟨_,h⟩|⟨h,_⟩)
 ·exact h
 ·exact absurd (h p hp) hhi
def nT(z:tG):List Int:=bytesOf (z.getD 0 0) (z.getD 1 0) (z.getD 2 0) (z.getD 3 0) (z.getD 4 0) (z.getD 5 0) (z.getD 6 0) (z.getD 7 0) (z.getD 8 0) (z.getD 9 0)
def aQ(rs:List (List Int)):List Int:=rs.flatMap (fun z=>dY (nT z))
theorem sG(rs:List (List Int))(z:tG):aQ (rs++[z])=aQ rs++dY (nT z):=by simp[aQ]
def mj(z:tG):Prop:=∃x0 x1 x2 x3 x4 x5 x6 x7 x8 x9,z=[x0,x1,x2,x3,x4,x5,x6,x7,x8,x9]∧aE x0 x1 x2 x3 x4 x5 x6 x7 x8 x9=0∧(¬(x0=2∨x0=5)→x4=0∧x5=0∧x6=0∧x7=0∧x8=0∧x9=0)
theorem CO(z:tG):16≤(nT z).length∧(nT z).length≤40:=by
 unfold nT;rw[xD];split<;>omega
theorem vu(rs:List (List Int)):22*rs.length≤(aQ rs).length∧(aQ rs).length≤46*rs.length:=by
 induction rs with
 |nil=>simp[aQ]
 |cons z rs ih=>
  have:=CO z;have hf:aQ (z::rs)=dY (nT z)++aQ rs:=by simp[aQ]
  rw[hf,Ag,nm,List.length_cons];omega
inductive Steps(b:tG):Nat→List (List Int)→Prop
 |start:Steps b 0 []
 |more {k m:Nat} {rs:List (List Int)} {zs:tG} (h:Steps b k rs) (hu:bj (b.drop k)=some (zs,m)):Steps b (k+m) (rs++[zs])
theorem Steps.going{b:tG}{k:Nat}{rs:List (List Int)}(h:Steps b k rs):EN b k rs:=by
 induction h with
 |start=>exact xC b
 |more _ hu ih=>exact z7 ih hu
theorem Steps.end{b:tG}{k:Nat}{rs:List (List Int)}(h:Steps b k rs)(hn:bj (b.drop k)=none):bB b=(rs,k):=wD h.going hn
theorem xM(b:tG):∀(f k:Nat) (rs:List (List Int)),Steps b k rs→k≤b.length→b.length+1≤f+k→Steps b (km f b k rs).2 (km f b k rs).1∧bj (b.drop (km f b k rs).2)=none
 |0,k,rs,_,h1,h2=>by omega
 |f+1,k,rs,hs,h1,h2=>by
  cases hu:bj (b.drop k)with
  |none=>rw[rG hu];exact⟨hs,hu⟩
  |some p=>
   obtain⟨zs,m⟩:=p;rw[pB hu];obtain⟨_,hm,hl,_⟩:=gC hu;rw[AK]at hl;exact xM b f (k+m) (rs++[zs]) (hs.more hu) (by omega) (by omega)
theorem pK(b:tG):Steps b (bB b).2 (bB b).1∧bj (b.drop (bB b).2)=none:=xM b _ 0 [] .start (Al _) (by omega)
theorem Fe(b:tG):∀(f k:Nat) (rs:List (List Int)),∃more,(km f b k rs).1=rs++more∧k≤(km f b k rs).2∧(more=[]→(km f b k rs).2=k)
 |0,k,rs=>⟨[],by simp[km],Ac _,fun _=>rfl⟩
 |f+1,k,rs=>by
  cases hu:bj (b.drop k)with
  |none=>rw[rG hu];exact⟨[],by simp,Ac _,fun _=>rfl⟩
  |some p=>
   obtain⟨zs,m⟩:=p;rw[pB hu];obtain⟨more,h1,h2,_⟩:=Fe b f (k+m) (rs++[zs]);exact⟨zs::more,by rw[h1];simp,by omega,fun h=>by cases h⟩
theorem Steps.prefix{b:tG}{k:Nat}{rs:List (List Int)}(h:Steps b k rs):∃more,(bB b).1=rs++more∧k≤(bB b).2∧(more=[]→(bB b).2=k):=by
 obtain⟨_,f,_,hf⟩:=h.going;obtain⟨more,h1,h2,h3⟩:=Fe b f k rs;rw[hf]at h1 h2 h3;exact⟨more,h1,h2,h3⟩
theorem xN(b:tG)(c:Nat)(h:2≤c):toldOf (b.take c)=toldOf b:=by
 unfold toldOf;simp[List.getD_eq_getElem?_getD,show 0<c by omega,show 1<c by omega]
theorem Gz{b zs:tG}{m c:Nat}(h:bj b=some (zs,m))(hc:m≤c):bj (b.take c)=some (zs,m):=by
 obtain⟨h2,hm,hl,hs,hd⟩:=gC h;have ht:=xN b c (by omega);unfold bj;rw[ht,Aa (by simp;omega),Aa (by simp;omega)];have e1:(b.take c).take (toldOf b+2)=b.take (toldOf b+2):=by rw[BQ,BG (by omega)]
 have e2:((b.take c).drop (toldOf b+2)).take 4=(b.drop (toldOf b+2)).take 4:=by
  rw[List.drop_take,BQ,BG (by omega)]
 have e3:((b.take c).drop 2).take (toldOf b)=(b.drop 2).take (toldOf b):=by
  rw[List.drop_take,BQ,BG (by omega)]
 rw[e1,e2,e3,Aa (Bc hs),hd,Aa (Bc rfl),hm]
theorem GB{b b' zs:tG}{m:Nat}(h:bj b=some (zs,m))(he:b.take m=b'.take m):bj b'=some (zs,m):=by
 have h1:=Gz h (Ac m);rw[he]at h1;obtain⟨h2,hm,hl,hs,hd⟩:=gC h1;have hl':m≤b'.length:=by simp at hl;omega
 have ht:=xN b' m (by omega);rw[ht]at hm hs hd;unfold bj;rw[Aa (by omega),Aa (by omega)];have e1:(b'.take m).take (toldOf b'+2)=b'.take (toldOf b'+2):=by rw[BQ,BG (by omega)]
 have e2:((b'.take m).drop (toldOf b'+2)).take 4=(b'.drop (toldOf b'+2)).take 4:=by
  rw[List.drop_take,BQ,BG (by omega)]
 have e3:((b'.take m).drop 2).take (toldOf b')=(b'.drop 2).take (toldOf b'):=by
  rw[List.drop_take,BQ,BG (by omega)]
 rw[e1,e2]at hs;rw[e3]at hd;rw[Aa (Bc hs),hd,Aa (Bc rfl),hm]
theorem Steps.same{b:tG}{k:Nat}{rs:List (List Int)}(h:Steps b k rs):∀{b':tG},b.take k=b'.take k→Steps b' k rs:=by
 induction h with
 |start=>intro b' _;exact .start
 | @more k m rs zs h hu ih=>
  intro b' he;have h1:b.take k=b'.take k:=by
   have:=AB (List.take k) he;simpa[List.take_take,Nat.min_eq_left (show k≤k+m by omega)]using this
  refine(ih h1).more (GB hu ?_);have:=AB (List.drop k) he;simpa[List.drop_take]using this
theorem DW{z:tG}(hz:mj z)(tail:tG):bj (dY (nT z)++tail)=some (z,(nT z).length+6):=by
 obtain⟨x0,x1,x2,x3,x4,x5,x6,x7,x8,x9,rfl,hf,hzz⟩:=hz;have Kl:=CO [x0,x1,x2,x3,x4,x5,x6,x7,x8,x9];have hdt:=IK x0 x1 x2 x3 x4 x5 x6 x7 x8 x9 [] hf hzz;rw[Au,Ae rfl]at hdt;have hbe:nT [x0,x1,x2,x3,x4,x5,x6,x7,x8,x9]=bytesOf x0 x1 x2 x3 x4 x5 x6 x7 x8 x9:=rfl;rw[hbe]at Kl⊢;generalize bytesOf x0 x1 x2 x3 x4 x5 x6 x7 x8 x9=p at Kl hdt;have hfp:dY p++tail=((p.length:Int)/256)::((p.length:Int) % 256)::(p++(four (sumOf (lN p))++tail)):=by simp[dY,lN]
 have adg:toldOf (dY p++tail)=p.length:=by
  rw[hfp];unfold toldOf;simp;omega
 have hlen:(dY p++tail).length=p.length+6+tail.length:=by rw[Ag,nm]
 have t1:(dY p++tail).take (p.length+2)=lN p:=by
  unfold dY;rw[AA,Ci (zW p)]
 have t2:((dY p++tail).drop (p.length+2)).take 4=four (sumOf (lN p)):=by
  unfold dY;rw[AA,List.drop_left' (zW p),Ci (by simp[four])]
 have t3:((dY p++tail).drop 2).take p.length=p:=by
  rw[hfp];simp
 unfold bj;rw[adg,Aa (by omega),Aa (by omega),t1,t2,Aa (Bc rfl),t3,hdt,Aa (Bc rfl)]
theorem pW(rs Y9:List (List Int)):aQ (rs++Y9)=aQ rs++aQ Y9:=by simp[aQ]
theorem qK(rs:List (List Int))(tail:tG)(hg:∀z∈rs,mj z):∀n,n≤rs.length→Steps (aQ rs++tail) (aQ (rs.take n)).length (rs.take n)
 |0,_=>by simpa[aQ]using Steps.start
 |n+1,h=>by
  have ht:rs.take (n+1)=rs.take n++[rs[n]]:=Bo h;have hs:aQ rs=aQ (rs.take n)++(dY (nT rs[n])++aQ (rs.drop (n+1))):=by
   have h1:rs=(rs.take n++[rs[n]])++rs.drop (n+1):=by rw[←ht,BU]
   have h2:=AB aQ h1;rw[pW,sG,AA]at h2;exact h2
  rw[ht,sG,Ag];refine(qK rs tail hg n (by omega)).more ?_;rw[hs,AA,List.drop_left' rfl,AA,nm];exact DW (hg _ (BE h)) _
theorem vw(rs:List (List Int))(tail:tG)(hg:∀z∈rs,mj z):Steps (aQ rs++tail) (aQ rs).length rs:=by
 have h:=qK rs tail hg rs.length (Ac _);rwa [BC]at h
theorem qL(rs:List (List Int))(hg:∀z∈rs,mj z):bB (aQ rs)=(rs,(aQ rs).length):=by
 have h:=vw rs [] hg;rw[Au]at h;exact h.end (by rw[List.drop_length];rfl)
theorem JF(b:tG):bB (b.take (bB b).2)=bB b:=by
 have h:=(pK b).1;have hb:=(gN b).2;have h1:Steps (b.take (bB b).2) (bB b).2 (bB b).1:=h.same (by rw[BQ,Nat.min_self]);exact h1.end (by rw[Cf (by simp;omega)];rfl)
theorem Qa(rs:List (List Int))(hg:∀z∈rs,mj z)(k:Nat)(hk:k≤(aQ rs).length):
  ∃more,rs=(bB ((aQ rs).take k)).1++more∧(more=[]↔k=(aQ rs).length):=by
 have h:=(pK ((aQ rs).take k)).1;have hb:=(gN ((aQ rs).take k)).2;rw[AM]at hb;have h1:Steps (aQ rs) (bB ((aQ rs).take k)).2 (bB ((aQ rs).take k)).1:=h.same (by rw[BQ,BG (by omega)]);obtain⟨more,h2,h3,h4⟩:=h1.prefix;rw[qL rs hg]at h2 h3 h4;refine⟨more,h2,fun hm=> ?_,fun xJ=> ?_⟩
 ·have:=h4 hm;simp only at this;omega
 ·rw[xJ,BC,qL rs hg]at h2;simp only at h2;have:=AB List.length h2;rw[Ag]at this;exact AU.1 (by omega)
section
open Rv
structure Ds(w:tA)(X N:Nat)(u:Nv)(v:Wv)(F U:tF)(r:Nd×Ws)(u':Nv)(v':Wv)(F':tF)(w':tA):Prop where
 nw:NW w' X N u' v' F' (fun b=>U b∨F' b)
 mv:Mv (fun b=>F b∨b=N) w (fun b=>F' b∨b=N) w'
 wq:(u'.wt=u.wt∧u'.wl=u.wl)∨(u'.wt= .slice none 0 0∧u'.wl=[])
 nd:v'.nd=v.nd
 tk:v'.tk=v.tk
 dd:v'.dd=v.dd
 n:u'.pure=r.1
 s:v'.pure=r.2
open Classical in
noncomputable def iL(n:Nd)(s:Ws)(Bs:Nat→Bt)(kk:Nat)(ps:List Rec):Nd×Ws:=
  if(∀q,q<4→(aZ (Bs q)).2=0)∧kk+(cp (a7 Bs 4)).length≤100000 then
    ({n with up:=true,dl:=n.dl.take kk++cp (a7 Bs 4),sy:=((kk+(cp (a7 Bs 4)).length:Nat):Int),mo:=fun q=>(aZ (Bs q)).1,hn:=dX 4,he:=bK,wt:=[],af:=none,tu:=0},
     {s with sv:=s.sv++fD n.i Bs ps++(a7 Bs 4).map fun r=>⟨n.i,r.q,(aZ (Bs r.q.toNat)).1.e,r.v,CA,-1⟩})
  else({n with dl:=n.dl.take kk,sy:=mP kk n.sy,sk:=true},s)
structure Y_(n:Nd)(Bs:Nat→Bt)(rs:List Rec)(kk:Nat)(ps:List Rec)(Q0:Nat):Prop where
 rd:bB n.dl=(rs.map bn,kk)
 wf:∀x∈aD rs,(Lit.int .i64 x).wf=true
 rl:rs.length≤100000
 reb:(kV (lz gb) 0 rs).1=some (lz Bs)
 ok:∀q,q<4→(Bs q).Ok
 cn:n.ct≤kk
 rd2:bB ((n.dl.take kk).drop n.ct)=(ps.map bn,Q0)
 wf2:∀x∈aD ps,(Lit.int .i64 x).wf=true
 pl:ps.length≤100000
 ps:∀r∈ps,jY r→∃q:Nat,q<4∧r.q=(q:Int)∧(Bs q).Ok∧0<(Bs q).es.length
noncomputable abbrev Za(Bs:Nat→Bt)(y:(Nat→Option Addr)×(Nat→Nat)×(Nat→Nat→Value)):Nat→Mg:=fun q=>⟨(aZ (Bs q)).1,y.1 q,y.2.1 q,y.2.2 q⟩
theorem Qc(a:tB)(len cap:Nat)(l:tG)(s:Int)(rs:List (List Int))(kk:Nat)(w:tA)(Xb:bB l=(rs,kk))(h:RowK .u8 w a len l)(hn:a=none→cap=0)(rY:len≤cap)(hc:cap≤9223372036854775807)(h1:len≤100000)(h2:0≤s)(h3:s≤len):
  cA 75 #[.agg #[.slice a len cap,iV s]] w fun e w'=>
   ∃a' bl,e= .returned (.tuple #[.agg #[.slice a' kk bl,iV (mP kk s)],iV 0])∧RowK .u8 w' a' kk (l.take kk)∧kk≤bl∧(a'=none→bl=0)∧bl≤9223372036854775807∧(∀x,a'=some x→w.heap.size≤x.block)∧bZ w w':=by
 have hh:=K7 a len cap l s w h hn rY hc h1 h2 h3;rw[Xb]at hh;exact hh
theorem LK{k:Nat}{s:Int}(h:0≤s):0≤mP k s∧mP k s≤k:=by
 unfold mP;split<;>omega
theorem Ff(X N:Nat)(u:Nv)(mV:u.ub=false)(ok:u.Ok)(Bs:Nat→Bt)(rs:List Rec)(kk:Nat)(w:tA)(EV:NB w X N u)(U:tF)(hU:∀b,U b→b<w.heap.size)(Hb:¬U N)(hr:cm (fun b=>b=N∨U b) w fun w=>RowK .u8 w u.da u.dl.length u.dl)(Xb:bB u.dl=(rs.map bn,kk))(xu:∀x∈aD rs,(Lit.int .i64 x).wf=true)(hrl:rs.length≤100000)(Ti:(kV (lz gb) 0 rs).1=some (lz Bs)):cA 52 #[lp N] w fun x w'=>∃Y c A K,x= .returned (.slice (some ⟨Y,0,none⟩) 4 c)∧4≤c∧cm (fun b=>b=N∨U b) w' (fun w=>ma w Y 4 Bs A K)∧bZ w w':=by
 unfold NB mC at EV;rw[mV]at EV;exact Jf X N u.i u.da u.dl.length u.dc u.dl u.sy _ u.hn u.he u.wt u.af u.tu u.ct u.sk Bs rs kk w EV U hU Hb hr ok.nil ok.cap ok.max ok.len ok.s0 ok.s1 Xb xu hrl Ti
theorem aaI{f:tH}(h:¬∀q,q<4→f q=0):∃p,p<4∧(∀q,q<p→f q=0)∧¬f p=0:=by
 by_cases h0:f 0=0
 ·by_cases h1:f 1=0
  ·by_cases h2:f 2=0
   ·by_cases h3:f 3=0
    ·exact absurd (fun q hq=>by
      obtain rfl|rfl|rfl|rfl:q=0∨q=1∨q=2∨q=3:=by omega
      ·exact h0
      ·exact h1
      ·exact h2
      ·exact h3) h
    ·exact⟨3,by decide,fun q hq=>by
      obtain rfl|rfl|rfl:q=0∨q=1∨q=2:=by omega
      ·exact h0
      ·exact h1
      ·exact h2,h3⟩
   ·exact⟨2,by decide,fun q hq=>by
     obtain rfl|rfl:q=0∨q=1:=by omega
     ·exact h0
     ·exact h1,h2⟩
  ·exact⟨1,by decide,fun q hq=>by
    obtain rfl:q=0:=by omega
    exact h0,h1⟩
 ·exact⟨0,by decide,fun q hq=>by omega,h0⟩
theorem aaJ{U:tF}{w w':tA}{T:Nat}{la:tB}{lc:Nat}{L:List Ji}(own:w'.ownsRow 0 T 14 (.slice la L.length lc) L.length (L.flatMap Jj))(hn:∀b,(Value.slice la L.length lc).ownBlock=some b→w.heap.size≤b)(hU:∀b,U b→b<w.heap.size):cm U w' fun w=>CN w la L:=fun w2 c2=>by
 obtain⟨a,c,e,hr⟩:=Gy (aJ own fun g hg hl=>c2.block g hl fun hu=>absurd (hU g hu) (Bb.2 (hn g hg)));cases e;exact hr
theorem adh{mo mo':tT}{hn he:tH}{wt af:tK}{tu:Int}(h:∀q,q<4→∀j,j<47→mo q j=mo' q j)(i:Nat):gj mo hn he wt af tu i=gj mo' hn he wt af tu i:=by
 unfold gj;by_cases h7:i<188
 ·rw[Ae h7,Ae h7];exact h _ (by omega) _ (Nat.mod_lt _ (by decide))
 ·rw[Aa h7,Aa h7]
theorem vx{Bs:Nat→Bt}:∀k,k≤4→∀r∈a7 Bs k,∃q:Nat,q<4∧r=sD Bs q∧(Bs q).r=1
 |0,_,r,hr=>by simp[a7]at hr
 |k+1,hk,r,hr=>by
  by_cases h1:(Bs k).r=1
  ·rw[pI h1]at hr;rcases Ah.1 hr with hr|hr
   ·exact vx k (by omega) r hr
   ·exact⟨k,by omega,Ab.1 hr,h1⟩
  ·rw[rK h1]at hr;exact vx k (by omega) r hr
theorem JG{Bs:Nat→Bt}{q:Nat}(hq:q<4)(ok:(Bs q).Ok)(h1:(Bs q).r=1):(sD Bs q).fault=0:=by
 have hs:=ok.cG;unfold Bt.b_ bg at hs;unfold Rec.fault aE aT;simp only;have:1≤(Bs q).e∧(Bs q).e≤1048576:=by omega
 simp;omega
theorem Qd{n:Nd}{s:Ws}{Bs:Nat→Bt}{kk:Nat}{ps:List Rec}(h1:∀q,q<4→(aZ (Bs q)).2=0)(h2:kk+(cp (a7 Bs 4)).length≤100000):iL n s Bs kk ps=({n with up:=true,dl:=n.dl.take kk++cp (a7 Bs 4),sy:=((kk+(cp (a7 Bs 4)).length:Nat):Int),mo:=fun q=>(aZ (Bs q)).1,hn:=dX 4,he:=bK,wt:=[],af:=none,tu:=0},
     {s with sv:=s.sv++fD n.i Bs ps++(a7 Bs 4).map fun r=>⟨n.i,r.q,(aZ (Bs r.q.toNat)).1.e,r.v,CA,-1⟩}):=Ae ⟨h1,h2⟩
theorem vy{n:Nd}{s:Ws}{Bs:Nat→Bt}{kk:Nat}{ps:List Rec}(h:¬((∀q,q<4→(aZ (Bs q)).2=0)∧kk+(cp (a7 Bs 4)).length≤100000)):iL n s Bs kk ps=({n with dl:=n.dl.take kk,sy:=mP kk n.sy,sk:=true},s):=Aa h
theorem XU{B:Bt}(ok:B.Ok):(aZ B).1.Ok:=by
 unfold aZ;rw[Aa (fun h=>h ok)];split
 ·exact ok
 ·split
  ·exact Bt.dx
  ·rename_i h;exact Br.1 h
theorem Ui(X N:Nat)(u:Nv)(v:Wv)(F U:tF)(w:tA)(hw:NW w X N u v F U)(Bs:Nat→Bt)(rs:List Rec)(kk:Nat)(ps:List Rec)(Q0:Nat)(mV:u.ub=false)(YH:u.sk=false)(h:Y_ u.pure Bs rs kk ps Q0)(hlen:v.sv.length≤900000000000):cA 50 #[lp N] w fun x w'=>x= .returned (.tuple #[])∧∃u' v' F',Ds w X N u v F U (iL u.pure v.pure Bs kk ps) u' v' F' w':=by
 obtain⟨u0,rfl⟩:∃u0:Nv,u={u0 with ub:=false,sk:=false}:=⟨u,by cases u;cases mV;cases YH;rfl⟩;have hkb:kk≤u0.dl.length:=by have:=(gN u0.dl).2;rw[show bB u0.dl=_ from h.rd]at this;exact this
 have J6:(u0.dl.take kk).length=kk:=by rw[AM];omega
 refine en (H:=[nE X N {u0 with ub:=false,sk:=false}]) 55 [vp 0 0 N] Tryz.func50 rfl rfl (hw.init (G:=fun _=>True) fun _ _=>trivial) (r [2] rfl fun α=> ?_);refine cx rfl (fun y:Option Addr×Nat=>vt [.g [.o (.slice y.1 (u0.dl.take kk).length y.2),.o (iV (mP kk u0.sy))],.o (iV 0)]) (fun y=>kk≤y.2∧(y.1=none→y.2=0)∧y.2≤9223372036854775807) (fun y w=>RowK .u8 w y.1 kk (u0.dl.take kk)) (fun w hS=>(Qc u0.da u0.dl.length u0.dc u0.dl u0.sy _ kk _ h.rd hS.now.1.1.1.row hw.ok.nil hw.ok.cap hw.ok.max hw.ok.len hw.ok.s0 hw.ok.s1).mono fun _ _ ⟨a2,c2,e,r2,jM,r_,rX,hf2,b⟩=>⟨(a2,c2),by rw[J6];exact e,b,⟨jM,r_,rX⟩,bM r2 hf2⟩) ?_;rintro⟨a2,c2⟩ ⟨jM,r_,rX⟩;obtain⟨u1,oV⟩:∃u1:Nv,u1={u0 with ub:=false,sk:=false,da:=a2,dc:=c2,dl:=u0.dl.take kk,sy:=mP kk u0.sy}:=⟨_,rfl⟩;refine r [] rfl fun _=>gn 0 (mC X u1) ?_ rfl (by rw[oV];kernel_rfl);have agk:u1.ub=false:=by rw[oV]
 have Uj:u1.dl=u0.dl.take kk:=by rw[oV]
 have adi:u1.ct=u0.ct:=by rw[oV]
 have agl:u1.i=u0.i:=by rw[oV]
 have rJ:u1.Ok:=by
  have hcb:=LK (k:=kk) hw.ok.s0;rw[oV];exact⟨hw.ok.ok,r_,by rw[J6];exact jM,rX,by rw[J6];have:u0.dl.length≤100000:=hw.ok.len;omega,hcb.1,by rw[J6];exact hcb.2,hw.ok.i5,hw.ok.Tq⟩
 have Uk:∀w,RowK .u8 w a2 kk (u0.dl.take kk)→RowK .u8 w u1.da u1.dl.length u1.dl:=fun w hr=>by rw[oV];show RowK .u8 w a2 (u0.dl.take kk).length (u0.dl.take kk);rw[J6];exact hr
 have agm:bB u1.dl=(rs.map bn,kk):=by
  have hh:=JF u0.dl;rw[show bB u0.dl=_ from h.rd]at hh;rw[Uj];exact hh
 have to0:∀{b:Nat} {H:tW} {M:Prop},(b∈N::H∨M)→b=N∨(b∈H∨M):=fun h=>h.elim (fun h=>(BI.1 h).imp id .inl) fun h=> .inr (.inr h);refine r [] rfl fun _=>cx rfl (fun y:Nat×Nat×(Nat→Option Addr)×(Nat→Nat)=>vv (.slice (some ⟨y.1,0,none⟩) 4 y.2.1)) (fun _=>True) (fun y w=>ma w y.1 4 Bs y.2.2.1 y.2.2.2) (fun w hS=>(Ff X N u1 agk rJ Bs rs kk _ (hS.at 0 rfl) _ hS.rW.1 hS.rW.2.1 (fun w2 c2=>Uk w2 (hS.rW.2.2 w2 c2).2) agm h.wf h.rl h.reb).mono fun _ _ ⟨Y,yc,A,K,e,_,gV,b⟩=>⟨(Y,yc,A,K),e,b,trivial,fun _ w2 c2=>gV w2 (c2.mono fun b h=>to0 h)⟩) ?_;rintro⟨Y,yc,A,K⟩ _;have late:∀(H:List bX) (M:tF) (Γ R:tJ) (w:tA),Mem w (⟨N,123,206,mC X u1⟩::H) M Γ R→(∀w,Γ w→RowK .u8 w a2 kk (u0.dl.take kk)∧ma w Y 4 Bs A K)→cA 77 #[lp N,.slice (some ⟨Y,0,none⟩) 4 yc] w fun x w'=>∃y:Option Addr×Nat,x= .returned (.slice y.1 (fD u1.i Bs ps).length y.2)∧bZ w w'∧True∧((∀b,(b∈(⟨N,123,206,mC X u1⟩::H:List bX).map bX.a∨M b)→b<w.heap.size)→cm (fun b=>b∈(⟨N,123,206,mC X u1⟩::H:List bX).map bX.a∨M b) w' fun w=>CN w y.1 (fD u1.i Bs ps)):=fun H M Γ R w hS hΓ=>
  (XT X N u1 Bs Y yc A K ps Q0 w M (fun b hb=>hS.ult b (.inr hb)) (fun w2 c2=>⟨⟨(hS.xQ 0 rfl w2 c2).2,Uk w2 (hΓ w2 (hS.xQ 0 rfl w2 c2).1).1⟩,(hΓ w2 (hS.xQ 0 rfl w2 c2).1).2⟩) rJ (by rw[adi,Uj,J6];exact h.cn) (by rw[adi,Uj];exact h.rd2) h.wf2 h.pl h.ps).mono fun _ _ ⟨lv,e,own,hnw,b⟩=>by
   obtain⟨la,lc,rfl,_⟩:=Gy own;exact⟨(la,lc),e,b,trivial,aaJ own hnw⟩
 by_cases PW:∀q,q<4→(aZ (Bs q)).2=0
 case neg=>
  obtain⟨p,hp4,hlo,hhi⟩:=aaI PW;refine r [] rfl fun _=>Rv.cb rfl (vt [.g [.f 199 zMe],.o (.slice none 0 0),.o (.bool false)]) (fun w hS=>Uh Bs Y yc A K h.ok p hp4 hlo hhi _ _ hS.ult (fun w2 c2=>(hS.g w2 c2).2)) (r [] rfl fun β=> ?_);refine cx rfl (fun y:Option Addr×Nat=>vv (.slice y.1 (fD u1.i Bs ps).length y.2)) (fun _=>True) (fun y w=>CN w y.1 (fD u1.i Bs ps)) (fun w hS=>late _ _ _ _ w hS fun w h=>⟨h.1.2,h.2⟩) fun y _=>r [] rfl fun γ=>gn 0 (mC X {u1 with sk:=true}) ?_;refine fin fun w hS=> ?_;have hn:=NW.fin (u':={u1 with sk:=true}) (v':=v) (F':=F) hS hw.ub hw.nu (fun _ h=>⟨⟨Uk _ h.1.1.2,by rw[oV];exact h.1.1.1.1.1.mo,by rw[oV];exact h.1.1.1.1.1.af,by rw[oV];exact h.1.1.1.1.1.wl⟩,h.1.1.1.1.2⟩) ⟨rJ.ok,rJ.nil,rJ.cap,rJ.max,rJ.len,rJ.s0,rJ.s1,rJ.i5,rJ.Tq⟩;exact⟨rfl,{u1 with sk:=true},v,F,hn.1,hn.2.1,.inl ⟨by rw[oV],by rw[oV]⟩,rfl,rfl,rfl,by rw[vy fun hh=>PW hh.1,oV],by rw[vy fun hh=>PW hh.1]⟩
 refine r [] rfl fun _=>cx rfl (fun y:((Nat→Option Addr)×(Nat→Nat)×(Nat→Nat→Value))×Option Addr×Nat=>vt [.g [.f 199 (gj (fun p=>jj (Za Bs y.1 p)) (dX 4) bK (.slice none 0 0) .nilFunc 0)],.o (.slice y.2.1 (a7 Bs 4).length y.2.2),.o (.bool true)]) (fun y=>∀q,q<4→aW (jj (Za Bs y.1 q)) 47) (fun y w=>(∀q,q<4→oI w (Za Bs y.1 q))∧RowK .i64 w y.2.1 (10*(a7 Bs 4).length) (aD (a7 Bs 4))) (fun w hS=>(PE Bs Y yc A K h.ok (fun q hq=>Y0 (h.ok q hq)) PW _ _ hS.ult (fun w2 c2=>(hS.g w2 c2).2)).mono fun _ _ ⟨mo,ba,bc,bq,ra,rc,e,Vs,qB,gV,hrc,b⟩=>⟨((ba,bc,bq),ra,rc),by rw[e,Nk fun j _=>adh (mo':=fun p=>jj (Za Bs (ba,bc,bq) p)) (fun q hq j hj=>Ub (Vs q hq) j hj) j];rfl,b,fun q hq j hj=>(AB Value.oneCell' (Ub (Vs q hq) j hj)).symm.trans (qB q hq j hj),fun _=>gV⟩) ?_;rintro⟨y1,ra,rc⟩ qB;have o1:aW (gj (fun p=>jj (Za Bs y1 p)) (dX 4) bK (.slice none 0 0) .nilFunc 0) 199:=wH qB rfl;refine r [] rfl fun β=>cx rfl (fun y:Option Addr×Nat=>vv (.slice y.1 (fD u1.i Bs ps).length y.2)) (fun _=>True) (fun y w=>CN w y.1 (fD u1.i Bs ps)) (fun w hS=>late _ _ _ _ w hS fun w h=>⟨h.1.1.2,h.1.2⟩) ?_;rintro⟨la,lc⟩ _;refine r [] rfl fun γ=>c0 rfl fun w1 hS=> ?_;obtain⟨hx1,hx2,hx3⟩:=hS.rW;refine(ji X N u1.i u1.da u1.dl.length u1.dc u1.dl u1.sy (fun p=>jj (u1.m p)) u1.hn u1.he u1.wt u1.af u1.tu u1.ct u1.ub u1.sk (.func 78) #[] #[.pointer (some ⟨β 0,0,none⟩),.pointer (some ⟨α 0,0,none⟩),.pointer (some ⟨γ 0,0,none⟩),.pointer (some ⟨β 1,0,none⟩)] (a7 Bs 4) ra (a7 Bs 4).length rc _ (hS.at 0 rfl) _ hx1 hx2 (fun w2 cc=>⟨Uk w2 (hx3 w2 cc).1.1.1.2,(hx3 w2 cc).1.2.2⟩) rJ.nil rJ.cap rJ.max rJ.len rJ.s0 rJ.s1 rfl (by have:=mU Bs 4;omega) (fun r hr=>by obtain⟨q,hq,rfl,h1⟩:=vx 4 (Ac _) r hr;exact JG hq (h.ok q hq) h1)).mono ?_;rintro _ w14 ⟨k,rfl,ch,⟨rfl,i_,a3,c3,fb3,st3,hc3,Jc,hm3⟩|⟨rfl,i_,fb3⟩⟩
 case inr=>
  refine⟨vv (.bool false),_,fun _=>True,rfl,ch,fb3,fun _ _=>trivial,r [] rfl fun _=>gn 0 (mC X {u1 with sk:=true}) ?_⟩;refine fin fun w hS=> ?_;have hn:=NW.fin (u':={u1 with sk:=true}) (v':=v) (F':=F) hS hw.ub hw.nu (fun _ h=>⟨⟨Uk _ h.1.1.1.1.2,by rw[oV];exact h.1.1.1.1.1.1.1.mo,by rw[oV];exact h.1.1.1.1.1.1.1.af,by rw[oV];exact h.1.1.1.1.1.1.1.wl⟩,h.1.1.1.1.1.1.2⟩) ⟨rJ.ok,rJ.nil,rJ.cap,rJ.max,rJ.len,rJ.s0,rJ.s1,rJ.i5,rJ.Tq⟩;have QM:¬((∀q,q<4→(aZ (Bs q)).2=0)∧kk+(cp (a7 Bs 4)).length≤100000):=fun hh=>by have:=hh.2;rw[Uj,J6]at i_;omega
  exact⟨rfl,{u1 with sk:=true},v,F,hn.1,hn.2.1,.inl ⟨by rw[oV],by rw[oV]⟩,rfl,rfl,rfl,by rw[vy QM,oV],by rw[vy QM]⟩
 have Xy:(u1.dl++cp (a7 Bs 4)).length=u1.dl.length+(cp (a7 Bs 4)).length:=Ag ..;refine⟨vv (.bool true),_,_,rfl,ch,fb3,st3,r [] rfl fun _=> ?_⟩;refine Rv.ct (Y:=Option Addr×Nat×(Nat→Prop)) rfl (vt []) (fun y z=>NW z X N {u1 with da:=y.1,dc:=y.2.1,dl:=u1.dl++cp (a7 Bs 4),sy:=((u1.dl.length+(cp (a7 Bs 4)).length:Nat):Int),ub:=true,m:=Za Bs y1,hn:=dX 4,he:=bK,wt:= .slice none 0 0,wl:=[],af:= .nilFunc,ax:=none,tu:=0} {v with sv:=v.sv++fD u1.i Bs ps++(a7 Bs 4).map (P9 u1.i (Za Bs y1))} y.2.2 (fun b=>U b∨y.2.2 b)∧Mv (fun b=>F b∨b=N) w (fun b=>y.2.2 b∨b=N) z) (fun w1 hS=> ?_) (fun _ _ _ h b=>⟨h.1.next b,h.2.next b⟩) fun y=>r [] rfl fun _=>dt rfl fun z hS=>⟨rfl,_,_,y.2.2,hS.now.2.1,hS.now.2.2,.inr ⟨rfl,rfl⟩,rfl,rfl,rfl, ?_, ?_⟩
 ·obtain⟨hx1,hx2,hx3⟩:=hS.rW;refine(wJ X N u1.i a3 _ c3 (u1.dl++cp (a7 Bs 4)) u1.sy (fun p=>jj (u1.m p)) u1.hn u1.he u1.wt u1.tu u1.ct u1.ub u1.sk 78 [.pointer (some ⟨β 0,0,none⟩),.pointer (some ⟨α 0,0,none⟩),.pointer (some ⟨γ 0,0,none⟩),.pointer (some ⟨β 1,0,none⟩)] _ (hS.at 0 rfl) _ hx1 hx2 (fun w2 cc=>(hx3 w2 cc).2) Jc hc3 i_ rJ.s0 (by have:=rJ.s1;omega) (by kernel_rfl) (fun z=>∃y:Option Addr×Nat×(Nat→Prop),NW z X N _ _ y.2.2 (fun b=>U b∨y.2.2 b)∧Mv (fun b=>F b∨b=N) w (fun b=>y.2.2 b∨b=N) z) (fun _ _ ⟨y,h1,h2⟩ b=>⟨y,h1.next b,h2.next b⟩) fun a4 c4 z fz rz hc4 Xx hm4 cz=> ?_);have yu:=(hS.Rx cz fz rz).congr 0 rfl (mC X {u1 with da:=a4,dc:=c4,dl:=u1.dl++cp (a7 Bs 4),sy:=((u1.dl.length+(cp (a7 Bs 4)).length:Nat):Int),af:= .nilFunc,ax:=none}) (fun i _=>by simp only[mC,Xy]);have hn:=NW.fin (v':=v) (F':=F) yu hw.ub hw.nu (fun _ h=>⟨⟨by rw[Xy];exact h.2,by rw[oV];exact h.1.1.1.1.1.1.1.1.mo,rfl,by rw[oV];exact h.1.1.1.1.1.1.1.1.wl⟩,h.1.1.1.1.1.1.1.2⟩) ⟨rJ.ok,Xx,by rw[Xy];exact hc4,hm4,by rw[Xy];exact i_,by show(0:Int)≤((u1.dl.length+(cp (a7 Bs 4)).length:Nat):Int);omega,by show((u1.dl.length+(cp (a7 Bs 4)).length:Nat):Int)≤((u1.dl++cp (a7 Bs 4)).length:Int);rw[Xy];exact Bq _,rJ.i5,trivial⟩;have k1:∀{k:Nat} {e:bX},1≤k→_→cm (fun b=>U b∨F b) z fun w=>bh w e.a e.t e.n e.f:=fun {k e} hk he w2 c2=>((yu.kept k (e:=e) he 1 hk).mono fun b _ h=>toNM h) w2 c2;refine(P_ X N _ v F _ z hn.1 (Za Bs y1) (fun q hq=>XU (h.ok q hq)) la (fD u1.i Bs ps) lc ra (a7 Bs 4) rc (β 0) (α 0) (γ 0) (β 1) (fun w2 c2=>have g:=yu.g w2 (c2.mono fun b h=>toHM h);⟨⟨⟨⟨⟨⟨k1 (k:=2) (cR rfl) rfl w2 c2,k1 (k:=1) (cR rfl) rfl w2 c2⟩,k1 (k:=4) (cR rfl) rfl w2 c2⟩,k1 (k:=3) (cR rfl) rfl w2 c2⟩,g.1.1.2⟩,g.1.1.1.2.2⟩,g.1.1.1.2.1⟩) (fun r hr=>by obtain⟨q,hq,rfl,_⟩:=vx 4 (Ac _) r hr;exact⟨q,hq,rfl⟩) (by have:=mU Bs 4;have:=wT (i:=u1.i) (Bs:=Bs) (ps:=ps);have:=h.pl;omega)).mono ?_;rintro _ z' ⟨rfl,F',h1,h2⟩;exact⟨rfl,(a4,c4,F'),h1.less (fun b hb=>hb.elim (fun hb=> .inl (.inl hb)) .inr) (fun b hb=> .inr hb) (.inl hw.nu),hn.2.1.trans h2⟩
 all_goals rw[Qd PW (by rw[Uj,J6]at i_;exact i_)]
 ·rw[oV];simp only[J6];rfl
 ·rw[agl];rfl
end
theorem GC{w:tA}{B clock:Nat}{es:Array MapEntry}{z:Int}{v:tK}(hb:w.heap[B]? =some (.map es clock))(hf:Instr.findNow (.int .i64) (iV z) es.toList 0=some none):
  (Instr.mapUpdate 96 (.map (some B)) (iV z) v).run Tryz.prog w= .ok () {w with heap:=w.heap.setIfInBounds B (.map (es.push ⟨iV z,v,clock⟩) (clock+1))}:=by
 have hc:(Instr.checkKey false 10000 3 (iV z)).run Tryz.prog w= .ok () w:=AX (k:=iV z) Tryz.underlying3 (by simp[MapKept.IsKey]) false 9999;simp[Instr.mapUpdate,run_underlying Tryz.underlying96,MapKept.run_getObj_map hb,hc,MapKept.run_findKey Tryz.underlying3 hf,MapKept.run_setObj_map _ hb,Result.andThen]
theorem mX{ops:tP}{rest:List Oper}{o:Oper}{a:Act}{Q:tI}{w:tA}{B clock:Nat}{es:Array MapEntry}{z:Int}{v:tK}(m k x:tU)(ho:o.op= .insert 96 m k x)(hw:Region.wanted o (yielded ops a.tmps)=true)
  (hm:a.eval m= .map (some B)) (hk:a.eval k=iV z) (hx:a.eval x=v) (hb:w.heap[B]? =some (.map es clock)) (hf:Instr.findNow (.int .i64) (iV z) es.toList 0=some none)
  (h:∀w',w'.heap[B]? =some (.map (es.push ⟨iV z,v,clock⟩) (clock+1))→aB B w w'→wpList Tryz.prog ops Q rest (a.put o.dst undef) w'):wpList Tryz.prog ops Q (o::rest) a w:=
 Bz fun K hK=>by
  rw[Ae hw];have sV:=GC (v:=v) hb hf;have hs:=MapKept.heap_set (o':= .map (es.push ⟨iV z,v,clock⟩) (clock+1)) hb;have:=hK _ _ (h {w with heap:=w.heap.setIfInBounds B (.map (es.push ⟨iV z,v,clock⟩) (clock+1))} hs.1 ⟨rfl,rfl,rfl,by simp,fun r hr=>hs.2 r hr⟩);unfold Oper.wp;simp only[execOp,ho,hm,hk,hx];simp[sV,Result.andThen];exact this
theorem Ul{ops:tP}{rest:List Oper}{o:Oper}{a:Act}{Q:tI}{w:tA}(ho:o.op= .makeMap 96 none)(hw:Region.wanted o (yielded ops a.tmps)=true)
  (h:∀w',w'.heap[w.heap.size]? =some (.map #[] 0)→bZ w w'→wpList Tryz.prog ops Q rest (a.put o.dst (.map (some w.heap.size))) w'):wpList Tryz.prog ops Q (o::rest) a w:=
 Bz fun K hK=>by
  rw[Ae hw];have:=hK _ _ (h _ (AP w _) (aC _ _));unfold Oper.wp;simp only[execOp,ho];simp[run_makeMap_plain,Result.andThen];exact this
theorem GF{w:tA}{B clock:Nat}{es:Array MapEntry}{z:Int}{v:tK}(hb:w.heap[B]? =some (.map es clock))(hf:Instr.findNow (.int .i64) (iV z) es.toList 0=some none):
  (Instr.mapUpdate 101 (.map (some B)) (iV z) v).run Tryz.prog w= .ok () {w with heap:=w.heap.setIfInBounds B (.map (es.push ⟨iV z,v,clock⟩) (clock+1))}:=by
 have hc:(Instr.checkKey false 10000 3 (iV z)).run Tryz.prog w= .ok () w:=AX (k:=iV z) Tryz.underlying3 (by simp[MapKept.IsKey]) false 9999;simp[Instr.mapUpdate,run_underlying Tryz.underlying101,MapKept.run_getObj_map hb,hc,MapKept.run_findKey Tryz.underlying3 hf,MapKept.run_setObj_map _ hb,Result.andThen]
theorem ig{ops:tP}{rest:List Oper}{o:Oper}{a:Act}{Q:tI}{w:tA}{B clock:Nat}{es:Array MapEntry}{z:Int}{v:tK}(m k x:tU)(ho:o.op= .insert 101 m k x)(hw:Region.wanted o (yielded ops a.tmps)=true)
  (hm:a.eval m= .map (some B)) (hk:a.eval k=iV z) (hx:a.eval x=v) (hb:w.heap[B]? =some (.map es clock)) (hf:Instr.findNow (.int .i64) (iV z) es.toList 0=some none)
  (h:∀w',w'.heap[B]? =some (.map (es.push ⟨iV z,v,clock⟩) (clock+1))→aB B w w'→wpList Tryz.prog ops Q rest (a.put o.dst undef) w'):wpList Tryz.prog ops Q (o::rest) a w:=
 Bz fun K hK=>by
  rw[Ae hw];have sV:=GF (v:=v) hb hf;have hs:=MapKept.heap_set (o':= .map (es.push ⟨iV z,v,clock⟩) (clock+1)) hb;have:=hK _ _ (h {w with heap:=w.heap.setIfInBounds B (.map (es.push ⟨iV z,v,clock⟩) (clock+1))} hs.1 ⟨rfl,rfl,rfl,by simp,fun r hr=>hs.2 r hr⟩);unfold Oper.wp;simp only[execOp,ho,hm,hk,hx];simp[sV,Result.andThen];exact this
theorem Um{ops:tP}{rest:List Oper}{o:Oper}{a:Act}{Q:tI}{w:tA}(ho:o.op= .makeMap 101 none)(hw:Region.wanted o (yielded ops a.tmps)=true)
  (h:∀w',w'.heap[w.heap.size]? =some (.map #[] 0)→bZ w w'→wpList Tryz.prog ops Q rest (a.put o.dst (.map (some w.heap.size))) w'):wpList Tryz.prog ops Q (o::rest) a w:=
 Bz fun K hK=>by
  rw[Ae hw];have:=hK _ _ (h _ (AP w _) (aC _ _));unfold Oper.wp;simp only[execOp,ho];simp[run_makeMap_plain,Result.andThen];exact this
def jk:Obj:= .map #[⟨iV 0,.func (.func 57) #[] #[],0⟩,⟨iV 2,.func (.func 58) #[] #[],1⟩,⟨iV 3,.func (.func 59) #[] #[],2⟩,⟨iV 4,.func (.func 60) #[] #[],3⟩,⟨iV 7,.func (.func 61) #[] #[],4⟩] 5
theorem LL(w:tA):
  cA 41 #[] w fun e w'=>e= .returned (.map (some w.heap.size))∧w'.heap[w.heap.size]? =some (jk)∧bZ w w':=by
 go_enter Tryz.func41,Tryz.ntmps41
 go_wp2_with (first
  |(refine Ul rfl rfl ?_;intro W1 m1 b1;have k1:=ai b1;clear b1)
  |(refine mX (es:= #[]) _ _ _ rfl rfl rfl rfl rfl m1 rfl ?_;intro W2 m2 t2;have k2:=ai (t2.under (aa k1) (Ac _));clear t2 m1)
  |(refine mX (clock:=1) _ _ _ rfl rfl rfl rfl rfl m2 rfl ?_;intro W3 m3 t3;have k3:=ai (t3.under (aa k2) (Ac _));clear t3 m2)
  |(refine mX (clock:=2) _ _ _ rfl rfl rfl rfl rfl m3 rfl ?_;intro W4 m4 t4;have k4:=ai (t4.under (aa k3) (Ac _));clear t4 m3)
  |(refine mX (clock:=3) _ _ _ rfl rfl rfl rfl rfl m4 rfl ?_;intro W5 m5 t5;have k5:=ai (t5.under (aa k4) (Ac _));clear t5 m4)
  |(refine mX (clock:=4) _ _ _ rfl rfl rfl rfl rfl m5 rfl ?_;intro W6 m6 t6;have k6:=ai (t6.under (aa k5) (Ac _));clear t6 m5;have M9:=ai m6;clear m6))
 go_ret;exact⟨rfl,aa M9,aa k6⟩
def dZ(X:Nat):Obj:= .map #[⟨iV 0,.func (.func 62) #[lp X] #[],0⟩,⟨iV 1,.func (.func 63) #[lp X] #[],1⟩,⟨iV 2,.func (.func 62) #[lp X] #[],2⟩,⟨iV 3,.func (.func 62) #[lp X] #[],3⟩,⟨iV 4,.func (.func 62) #[lp X] #[],4⟩,⟨iV 5,.func (.func 64) #[lp X] #[],5⟩,⟨iV 6,.func (.func 65) #[lp X] #[],6⟩,⟨iV 7,.func (.func 62) #[lp X] #[],7⟩] 8
theorem JH(X:Nat)(w:tA):
  cA 42 #[lp X] w fun e w'=>e= .returned (.map (some w.heap.size))∧w'.heap[w.heap.size]? =some (dZ X)∧bZ w w':=by
 go_enter Tryz.func42,Tryz.ntmps42
 go_wp2_with (first
  |(refine Um rfl rfl ?_;intro W1 m1 b1;have k1:=ai b1;clear b1)
  |(refine ig (es:= #[]) _ _ _ rfl rfl rfl rfl rfl m1 rfl ?_;intro W2 m2 t2;have k2:=ai (t2.under (aa k1) (Ac _));clear t2 m1)
  |(refine ig (clock:=1) _ _ _ rfl rfl rfl rfl rfl m2 rfl ?_;intro W3 m3 t3;have k3:=ai (t3.under (aa k2) (Ac _));clear t3 m2)
  |(refine ig (clock:=2) _ _ _ rfl rfl rfl rfl rfl m3 rfl ?_;intro W4 m4 t4;have k4:=ai (t4.under (aa k3) (Ac _));clear t4 m3)
  |(refine ig (clock:=3) _ _ _ rfl rfl rfl rfl rfl m4 rfl ?_;intro W5 m5 t5;have k5:=ai (t5.under (aa k4) (Ac _));clear t5 m4)
  |(refine ig (clock:=4) _ _ _ rfl rfl rfl rfl rfl m5 rfl ?_;intro W6 m6 t6;have k6:=ai (t6.under (aa k5) (Ac _));clear t6 m5)
  |(refine ig (clock:=5) _ _ _ rfl rfl rfl rfl rfl m6 rfl ?_;intro W7 m7 t7;have k7:=ai (t7.under (aa k6) (Ac _));clear t7 m6)
  |(refine ig (clock:=6) _ _ _ rfl rfl rfl rfl rfl m7 rfl ?_;intro W8 m8 t8;have k8:=ai (t8.under (aa k7) (Ac _));clear t8 m7)
  |(refine ig (clock:=7) _ _ _ rfl rfl rfl rfl rfl m8 rfl ?_;intro W9 m9 t9;have k9:=ai (t9.under (aa k8) (Ac _));clear t9 m8;have M9:=ai m9;clear m9))
 go_ret;exact⟨rfl,aa M9,aa k9⟩
theorem Un{w:tA}{B:Nat}(h:w.heap[B]? =some (jk)):(Instr.lookup 96 (.map (some B)) (iV 0) false).run Tryz.prog w= .ok (.func (.func 57) #[] #[]) w:=by
 have hc:(Instr.checkKey false 10000 3 (iV 0)).run Tryz.prog w= .ok () w:=AX (k:=iV 0) Tryz.underlying3 (by simp[MapKept.IsKey]) false 9999;unfold jk at h;have hf:Instr.findNow (.int .i64) (iV 0) [(⟨iV 0,.func (.func 57) #[] #[],0⟩:tf),⟨iV 2,.func (.func 58) #[] #[],1⟩,⟨iV 3,.func (.func 59) #[] #[],2⟩,⟨iV 4,.func (.func 60) #[] #[],3⟩,⟨iV 7,.func (.func 61) #[] #[],4⟩] 0=some (some (0,.func (.func 57) #[] #[])):=rfl;simp[Instr.lookup,run_underlying Tryz.underlying96,MapKept.run_getObj_map h,hc,MapKept.run_findKey Tryz.underlying3 hf,Result.andThen]
theorem Uo{w:tA}{B:Nat}(h:w.heap[B]? =some (jk)):(Instr.lookup 96 (.map (some B)) (iV 2) false).run Tryz.prog w= .ok (.func (.func 58) #[] #[]) w:=by
 have hc:(Instr.checkKey false 10000 3 (iV 2)).run Tryz.prog w= .ok () w:=AX (k:=iV 2) Tryz.underlying3 (by simp[MapKept.IsKey]) false 9999;unfold jk at h;have hf:Instr.findNow (.int .i64) (iV 2) [(⟨iV 0,.func (.func 57) #[] #[],0⟩:tf),⟨iV 2,.func (.func 58) #[] #[],1⟩,⟨iV 3,.func (.func 59) #[] #[],2⟩,⟨iV 4,.func (.func 60) #[] #[],3⟩,⟨iV 7,.func (.func 61) #[] #[],4⟩] 0=some (some (1,.func (.func 58) #[] #[])):=rfl;simp[Instr.lookup,run_underlying Tryz.underlying96,MapKept.run_getObj_map h,hc,MapKept.run_findKey Tryz.underlying3 hf,Result.andThen]
theorem Uq{w:tA}{B:Nat}(h:w.heap[B]? =some (jk)):(Instr.lookup 96 (.map (some B)) (iV 3) false).run Tryz.prog w= .ok (.func (.func 59) #[] #[]) w:=by
 have hc:(Instr.checkKey false 10000 3 (iV 3)).run Tryz.prog w= .ok () w:=AX (k:=iV 3) Tryz.underlying3 (by simp[MapKept.IsKey]) false 9999;unfold jk at h;have hf:Instr.findNow (.int .i64) (iV 3) [(⟨iV 0,.func (.func 57) #[] #[],0⟩:tf),⟨iV 2,.func (.func 58) #[] #[],1⟩,⟨iV 3,.func (.func 59) #[] #[],2⟩,⟨iV 4,.func (.func 60) #[] #[],3⟩,⟨iV 7,.func (.func 61) #[] #[],4⟩] 0=some (some (2,.func (.func 59) #[] #[])):=rfl;simp[Instr.lookup,run_underlying Tryz.underlying96,MapKept.run_getObj_map h,hc,MapKept.run_findKey Tryz.underlying3 hf,Result.andThen]
theorem Ur{w:tA}{B:Nat}(h:w.heap[B]? =some (jk)):(Instr.lookup 96 (.map (some B)) (iV 4) false).run Tryz.prog w= .ok (.func (.func 60) #[] #[]) w:=by
 have hc:(Instr.checkKey false 10000 3 (iV 4)).run Tryz.prog w= .ok () w:=AX (k:=iV 4) Tryz.underlying3 (by simp[MapKept.IsKey]) false 9999;unfold jk at h;have hf:Instr.findNow (.int .i64) (iV 4) [(⟨iV 0,.func (.func 57) #[] #[],0⟩:tf),⟨iV 2,.func (.func 58) #[] #[],1⟩,⟨iV 3,.func (.func 59) #[] #[],2⟩,⟨iV 4,.func (.func 60) #[] #[],3⟩,⟨iV 7,.func (.func 61) #[] #[],4⟩] 0=some (some (3,.func (.func 60) #[] #[])):=rfl;simp[Instr.lookup,run_underlying Tryz.underlying96,MapKept.run_getObj_map h,hc,MapKept.run_findKey Tryz.underlying3 hf,Result.andThen]
theorem Us{w:tA}{B:Nat}(h:w.heap[B]? =some (jk)):(Instr.lookup 96 (.map (some B)) (iV 7) false).run Tryz.prog w= .ok (.func (.func 61) #[] #[]) w:=by
 have hc:(Instr.checkKey false 10000 3 (iV 7)).run Tryz.prog w= .ok () w:=AX (k:=iV 7) Tryz.underlying3 (by simp[MapKept.IsKey]) false 9999;unfold jk at h;have hf:Instr.findNow (.int .i64) (iV 7) [(⟨iV 0,.func (.func 57) #[] #[],0⟩:tf),⟨iV 2,.func (.func 58) #[] #[],1⟩,⟨iV 3,.func (.func 59) #[] #[],2⟩,⟨iV 4,.func (.func 60) #[] #[],3⟩,⟨iV 7,.func (.func 61) #[] #[],4⟩] 0=some (some (4,.func (.func 61) #[] #[])):=rfl;simp[Instr.lookup,run_underlying Tryz.underlying96,MapKept.run_getObj_map h,hc,MapKept.run_findKey Tryz.underlying3 hf,Result.andThen]
theorem Qe(X:Nat){w:tA}{B:Nat}(h:w.heap[B]? =some (dZ X)):(Instr.lookup 101 (.map (some B)) (iV 0) false).run Tryz.prog w= .ok (.func (.func 62) #[lp X] #[]) w:=by
 have hc:(Instr.checkKey false 10000 3 (iV 0)).run Tryz.prog w= .ok () w:=AX (k:=iV 0) Tryz.underlying3 (by simp[MapKept.IsKey]) false 9999;unfold dZ at h;have hf:Instr.findNow (.int .i64) (iV 0) [(⟨iV 0,.func (.func 62) #[lp X] #[],0⟩:tf),⟨iV 1,.func (.func 63) #[lp X] #[],1⟩,⟨iV 2,.func (.func 62) #[lp X] #[],2⟩,⟨iV 3,.func (.func 62) #[lp X] #[],3⟩,⟨iV 4,.func (.func 62) #[lp X] #[],4⟩,⟨iV 5,.func (.func 64) #[lp X] #[],5⟩,⟨iV 6,.func (.func 65) #[lp X] #[],6⟩,⟨iV 7,.func (.func 62) #[lp X] #[],7⟩] 0=some (some (0,.func (.func 62) #[lp X] #[])):=rfl;simp[Instr.lookup,run_underlying Tryz.underlying101,MapKept.run_getObj_map h,hc,MapKept.run_findKey Tryz.underlying3 hf,Result.andThen]
theorem Qf(X:Nat){w:tA}{B:Nat}(h:w.heap[B]? =some (dZ X)):(Instr.lookup 101 (.map (some B)) (iV 1) false).run Tryz.prog w= .ok (.func (.func 63) #[lp X] #[]) w:=by
 have hc:(Instr.checkKey false 10000 3 (iV 1)).run Tryz.prog w= .ok () w:=AX (k:=iV 1) Tryz.underlying3 (by simp[MapKept.IsKey]) false 9999;unfold dZ at h;have hf:Instr.findNow (.int .i64) (iV 1) [(⟨iV 0,.func (.func 62) #[lp X] #[],0⟩:tf),⟨iV 1,.func (.func 63) #[lp X] #[],1⟩,⟨iV 2,.func (.func 62) #[lp X] #[],2⟩,⟨iV 3,.func (.func 62) #[lp X] #[],3⟩,⟨iV 4,.func (.func 62) #[lp X] #[],4⟩,⟨iV 5,.func (.func 64) #[lp X] #[],5⟩,⟨iV 6,.func (.func 65) #[lp X] #[],6⟩,⟨iV 7,.func (.func 62) #[lp X] #[],7⟩] 0=some (some (1,.func (.func 63) #[lp X] #[])):=rfl;simp[Instr.lookup,run_underlying Tryz.underlying101,MapKept.run_getObj_map h,hc,MapKept.run_findKey Tryz.underlying3 hf,Result.andThen]
theorem Qg(X:Nat){w:tA}{B:Nat}(h:w.heap[B]? =some (dZ X)):(Instr.lookup 101 (.map (some B)) (iV 2) false).run Tryz.prog w= .ok (.func (.func 62) #[lp X] #[]) w:=by
 have hc:(Instr.checkKey false 10000 3 (iV 2)).run Tryz.prog w= .ok () w:=AX (k:=iV 2) Tryz.underlying3 (by simp[MapKept.IsKey]) false 9999;unfold dZ at h;have hf:Instr.findNow (.int .i64) (iV 2) [(⟨iV 0,.func (.func 62) #[lp X] #[],0⟩:tf),⟨iV 1,.func (.func 63) #[lp X] #[],1⟩,⟨iV 2,.func (.func 62) #[lp X] #[],2⟩,⟨iV 3,.func (.func 62) #[lp X] #[],3⟩,⟨iV 4,.func (.func 62) #[lp X] #[],4⟩,⟨iV 5,.func (.func 64) #[lp X] #[],5⟩,⟨iV 6,.func (.func 65) #[lp X] #[],6⟩,⟨iV 7,.func (.func 62) #[lp X] #[],7⟩] 0=some (some (2,.func (.func 62) #[lp X] #[])):=rfl;simp[Instr.lookup,run_underlying Tryz.underlying101,MapKept.run_getObj_map h,hc,MapKept.run_findKey Tryz.underlying3 hf,Result.andThen]
theorem Qh(X:Nat){w:tA}{B:Nat}(h:w.heap[B]? =some (dZ X)):(Instr.lookup 101 (.map (some B)) (iV 3) false).run Tryz.prog w= .ok (.func (.func 62) #[lp X] #[]) w:=by
 have hc:(Instr.checkKey false 10000 3 (iV 3)).run Tryz.prog w= .ok () w:=AX (k:=iV 3) Tryz.underlying3 (by simp[MapKept.IsKey]) false 9999;unfold dZ at h;have hf:Instr.findNow (.int .i64) (iV 3) [(⟨iV 0,.func (.func 62) #[lp X] #[],0⟩:tf),⟨iV 1,.func (.func 63) #[lp X] #[],1⟩,⟨iV 2,.func (.func 62) #[lp X] #[],2⟩,⟨iV 3,.func (.func 62) #[lp X] #[],3⟩,⟨iV 4,.func (.func 62) #[lp X] #[],4⟩,⟨iV 5,.func (.func 64) #[lp X] #[],5⟩,⟨iV 6,.func (.func 65) #[lp X] #[],6⟩,⟨iV 7,.func (.func 62) #[lp X] #[],7⟩] 0=some (some (3,.func (.func 62) #[lp X] #[])):=rfl;simp[Instr.lookup,run_underlying Tryz.underlying101,MapKept.run_getObj_map h,hc,MapKept.run_findKey Tryz.underlying3 hf,Result.andThen]
theorem Qi(X:Nat){w:tA}{B:Nat}(h:w.heap[B]? =some (dZ X)):(Instr.lookup 101 (.map (some B)) (iV 4) false).run Tryz.prog w= .ok (.func (.func 62) #[lp X] #[]) w:=by
 have hc:(Instr.checkKey false 10000 3 (iV 4)).run Tryz.prog w= .ok () w:=AX (k:=iV 4) Tryz.underlying3 (by simp[MapKept.IsKey]) false 9999;unfold dZ at h;have hf:Instr.findNow (.int .i64) (iV 4) [(⟨iV 0,.func (.func 62) #[lp X] #[],0⟩:tf),⟨iV 1,.func (.func 63) #[lp X] #[],1⟩,⟨iV 2,.func (.func 62) #[lp X] #[],2⟩,⟨iV 3,.func (.func 62) #[lp X] #[],3⟩,⟨iV 4,.func (.func 62) #[lp X] #[],4⟩,⟨iV 5,.func (.func 64) #[lp X] #[],5⟩,⟨iV 6,.func (.func 65) #[lp X] #[],6⟩,⟨iV 7,.func (.func 62) #[lp X] #[],7⟩] 0=some (some (4,.func (.func 62) #[lp X] #[])):=rfl;simp[Instr.lookup,run_underlying Tryz.underlying101,MapKept.run_getObj_map h,hc,MapKept.run_findKey Tryz.underlying3 hf,Result.andThen]
theorem Qj(X:Nat){w:tA}{B:Nat}(h:w.heap[B]? =some (dZ X)):(Instr.lookup 101 (.map (some B)) (iV 5) false).run Tryz.prog w= .ok (.func (.func 64) #[lp X] #[]) w:=by
 have hc:(Instr.checkKey false 10000 3 (iV 5)).run Tryz.prog w= .ok () w:=AX (k:=iV 5) Tryz.underlying3 (by simp[MapKept.IsKey]) false 9999;unfold dZ at h;have hf:Instr.findNow (.int .i64) (iV 5) [(⟨iV 0,.func (.func 62) #[lp X] #[],0⟩:tf),⟨iV 1,.func (.func 63) #[lp X] #[],1⟩,⟨iV 2,.func (.func 62) #[lp X] #[],2⟩,⟨iV 3,.func (.func 62) #[lp X] #[],3⟩,⟨iV 4,.func (.func 62) #[lp X] #[],4⟩,⟨iV 5,.func (.func 64) #[lp X] #[],5⟩,⟨iV 6,.func (.func 65) #[lp X] #[],6⟩,⟨iV 7,.func (.func 62) #[lp X] #[],7⟩] 0=some (some (5,.func (.func 64) #[lp X] #[])):=rfl;simp[Instr.lookup,run_underlying Tryz.underlying101,MapKept.run_getObj_map h,hc,MapKept.run_findKey Tryz.underlying3 hf,Result.andThen]
theorem Qk(X:Nat){w:tA}{B:Nat}(h:w.heap[B]? =some (dZ X)):(Instr.lookup 101 (.map (some B)) (iV 6) false).run Tryz.prog w= .ok (.func (.func 65) #[lp X] #[]) w:=by
 have hc:(Instr.checkKey false 10000 3 (iV 6)).run Tryz.prog w= .ok () w:=AX (k:=iV 6) Tryz.underlying3 (by simp[MapKept.IsKey]) false 9999;unfold dZ at h;have hf:Instr.findNow (.int .i64) (iV 6) [(⟨iV 0,.func (.func 62) #[lp X] #[],0⟩:tf),⟨iV 1,.func (.func 63) #[lp X] #[],1⟩,⟨iV 2,.func (.func 62) #[lp X] #[],2⟩,⟨iV 3,.func (.func 62) #[lp X] #[],3⟩,⟨iV 4,.func (.func 62) #[lp X] #[],4⟩,⟨iV 5,.func (.func 64) #[lp X] #[],5⟩,⟨iV 6,.func (.func 65) #[lp X] #[],6⟩,⟨iV 7,.func (.func 62) #[lp X] #[],7⟩] 0=some (some (6,.func (.func 65) #[lp X] #[])):=rfl;simp[Instr.lookup,run_underlying Tryz.underlying101,MapKept.run_getObj_map h,hc,MapKept.run_findKey Tryz.underlying3 hf,Result.andThen]
theorem Ql(X:Nat){w:tA}{B:Nat}(h:w.heap[B]? =some (dZ X)):(Instr.lookup 101 (.map (some B)) (iV 7) false).run Tryz.prog w= .ok (.func (.func 62) #[lp X] #[]) w:=by
 have hc:(Instr.checkKey false 10000 3 (iV 7)).run Tryz.prog w= .ok () w:=AX (k:=iV 7) Tryz.underlying3 (by simp[MapKept.IsKey]) false 9999;unfold dZ at h;have hf:Instr.findNow (.int .i64) (iV 7) [(⟨iV 0,.func (.func 62) #[lp X] #[],0⟩:tf),⟨iV 1,.func (.func 63) #[lp X] #[],1⟩,⟨iV 2,.func (.func 62) #[lp X] #[],2⟩,⟨iV 3,.func (.func 62) #[lp X] #[],3⟩,⟨iV 4,.func (.func 62) #[lp X] #[],4⟩,⟨iV 5,.func (.func 64) #[lp X] #[],5⟩,⟨iV 6,.func (.func 65) #[lp X] #[],6⟩,⟨iV 7,.func (.func 62) #[lp X] #[],7⟩] 0=some (some (7,.func (.func 62) #[lp X] #[])):=rfl;simp[Instr.lookup,run_underlying Tryz.underlying101,MapKept.run_getObj_map h,hc,MapKept.run_findKey Tryz.underlying3 hf,Result.andThen]
theorem XV{w:tA}{B:Nat}(h:w.heap[B]? =some jk):x_ w (.map (some B)):=fun k g hg=>by
 unfold Js at hg;by_cases h0:k=0
 ·subst h0;simp at hg;subst hg;exact Un h
 by_cases h2:k=2
 ·subst h2;simp at hg;subst hg;exact Uo h
 by_cases h3:k=3
 ·subst h3;simp at hg;subst hg;exact Uq h
 by_cases h4:k=4
 ·subst h4;simp at hg;subst hg;exact Ur h
 by_cases h7:k=7
 ·subst h7;simp at hg;subst hg;exact Us h
 simp[h0,h2,h3,h4,h7]at hg
theorem XW{w:tA}{X B:Nat}(h:w.heap[B]? =some (dZ X)):XG w X (.map (some B)):=fun k g hg=>by
 unfold CM at hg;by_cases h0:k=0
 ·subst h0;simp at hg;subst hg;exact Qe X h
 by_cases h1:k=1
 ·subst h1;simp at hg;subst hg;exact Qf X h
 by_cases h2:k=2
 ·subst h2;simp at hg;subst hg;exact Qg X h
 by_cases h3:k=3
 ·subst h3;simp at hg;subst hg;exact Qh X h
 by_cases h4:k=4
 ·subst h4;simp at hg;subst hg;exact Qi X h
 by_cases h5:k=5
 ·subst h5;simp at hg;subst hg;exact Qj X h
 by_cases h6:k=6
 ·subst h6;simp at hg;subst hg;exact Qk X h
 by_cases h7:k=7
 ·subst h7;simp at hg;subst hg;exact Ql X h
 simp[h0,h1,h2,h3,h4,h5,h6,h7]at hg
section
open Rv
def Ut(m:Nat)(nd:tV)(tk dd:tK):Nat→Value:=fun k=>if k<5 then(if k<m then .pointer (some ⟨nd k,0,none⟩)else .pointer none)else l_ nd (dX 4) bK [.slice none 0 0,tk,dd,iV 0,.slice none 0 0,.slice none 0 0] k
theorem adj{nd:tV}{tk dd:tK}{k b:Nat}(hk:k<5)(i:Nat):oX (Ut k nd tk dd) (0+k*1) (.pointer (some ⟨b,0,none⟩)) i=Ut (k+1) (ak nd k b) tk dd i:=by
 rw[show 0+k*1=k by omega];by_cases hi:i=k
 ·subst hi;rw[Fm];unfold Ut;rw[Ae hk,Ae (by omega),aj]
 ·rw[qh _ _ _ _ hi];unfold Ut;by_cases h5:i<5
  ·rw[Ae h5,Ae h5];by_cases h6:i<k
   ·rw[Ae h6,Ae (by omega),show ak nd k b i=nd i from Aa hi]
   ·rw[Aa h6,Aa (by omega)]
  ·rw[Aa h5,Aa h5];unfold l_;rw[Aa h5,Aa h5]
abbrev aaK(X:Nat)(k:Int):Nat→Value:=kW [lp X,iV k,.bool true,.slice none 0 0,iV 0] (gj QU (dX 4) bK (.slice none 0 0) .nilFunc 0) [iV 0,.bool false]
def nv0(i:Nat):Nv:=⟨i,true,none,0,[],0,fun _=>⟨Bt.zero,none,0,zQ⟩,dX 4,bK,.slice none 0 0,[],.nilFunc,none,⟨0,0,0,0,0,none,0,⟨Bt.zero,none,0,zQ⟩⟩,0,0,false⟩
def Uu:Nat→Nd:=fun i=>⟨i,true,[],0,fun _=>Bt.zero,dX 4,bK,[],none,0,0,false⟩
def Q1:Ws:=⟨dX 4,bK,[],0,[],[]⟩
theorem XX{w:tA}{B:Nat}{o:Obj}(h:w.heap[B]? =some o):B<w.heap.size:=by
 rcases AG B w.heap.size with h'|h'
 ·exact h'
 ·simp[Array.getElem?_eq_none h']at h
theorem vz{U:tF}{w:tA}{B:Nat}{o:Obj}(h:w.heap[B]? =some o)(hU:¬U B):cm U w fun w=>w.heap[B]? =some o:=fun w2 c2=>(c2.block B (XX h) hU).trans h
theorem Mem.adk{w:tA}{H:List bX}{M:tF}{Γ R:tJ}{b t n:Nat}{f:tD}(h:Mem w H M Γ R)(hΓ:∀w,Γ w→bh w b t n f):b∉H.map bX.a:=fun hm=>by
 have aN:=h.lt hm
 have c:dB (fun b=>b∈H.map bX.a) w {w with heap:=w.heap.set b (.cells #[] (t+1) (0,0)) aN}:=⟨rfl,rfl,rfl,by simp,fun z hz vU=>by
  have fR:b≠z:=fun e=>vU (e▸hm)
  simp[fR]⟩
 have:=hΓ _ (h.g _ (c.mono fun _ h=> .inl h));unfold bh at this;simp at this
theorem aaL{w:tA}{X B1 B2:Nat}{nd Vr:tV}(fb:bh w X 103 19 (Ut 5 Vr (.map (some B2)) (.map (some B1))))(he:∀j,j<5→nd j=Vr j)(h5:nd 5≤X∧nd 5≤B1∧nd 5≤B2∧nd 5≤w.heap.size)(hn:∀j,j<5→bh w (nd j) 123 206 (aaK X j))(h1:w.heap[B1]? =some jk)(h2:w.heap[B2]? =some (dZ X))(hX:∀j,j<5→X≠nd j∧nd 5≤nd j)(ho:∀i j,i<j→j<5→nd i≠nd j):CW w X nv0 ⟨nd,.map (some B2),.map (some B1),dX 4,bK,[],0,[],[]⟩ (fun b=>b=X):=by
 have kh:∀i b,¬fK (nv0 i).wt b:=fun i b hb=>by
  obtain⟨o,n,c,e⟩:=hb;cases e
 have adl:∀{B:Nat} {es:Array MapEntry} {c:Nat},w.heap[B]? =some (.map es c)→¬CU nv0 (⟨nd,.map (some B2),.map (some B1),dX 4,bK,[],0,[],[]⟩:Wv) (fun b=>b=X) B:=fun hB hb=>by
  rcases hb with rfl|⟨j,hj,rfl⟩|⟨j,hj,hb⟩
  ·unfold bh at fb;rw[hB]at fb;cases fb
  ·have:=hn j hj;unfold bh at this;rw[hB]at this;cases this
  ·exact kh j _ hb
 refine⟨⟨.slice none 0 0,.slice none 0 0,.slice none 0 0,fb.congr fun i hi=> ?_,⟨rfl,.inl ⟨rfl,rfl⟩⟩,⟨rfl,.inl ⟨rfl,rfl⟩⟩,⟨rfl,.inl ⟨rfl,rfl⟩⟩,fun b=>⟨.inl,fun h=>h.elim id fun h=>h.elim (fun h=>by cases h) fun h=>h.elim (fun h=>by cases h) fun h=>by cases h⟩⟩,fun j hj=>hn j hj,fun j hj=>⟨fun _ _=>Bt.dx,fun _=>rfl,Ac _,Al _,Al _,Bq _,Bq _,hj,trivial⟩,fun i j hi hj e=> ?_,fun j hj e=>(hX j hj).1 (show nd j=X from e).symm,fun j hj=>⟨0,none,0,rfl,Ac _,Al _,.inl ⟨rfl,rfl⟩⟩,fun i b _ hb=>absurd hb (kh i b),fun i b j _ _ hb=>absurd hb (kh i b),fun i b j _ _ hb=>absurd hb (kh i b),fun w2 c2=>⟨⟨fun j hj=>⟨RowK.nil _ _ _,fun _ _=>ki.dG rfl,rfl,fun r hr=>by cases hr⟩,fun r hr=>by cases hr⟩,XW (vz h2 (fun e=>e.elim (adl h2) (Bb.2 h5.2.2.1)) w2 c2),XV (vz h1 (fun e=>e.elim (adl h1) (Bb.2 h5.2.1)) w2 c2)⟩,h5.2.2.2,fun b hb=>by
  rcases hb with rfl|⟨j,hj,rfl⟩|⟨j,hj,hb⟩
  ·exact h5.1
  ·exact(hX j hj).2
  ·exact absurd hb (kh j b)⟩
 ·show Ut 5 Vr _ _ i=l_ nd _ _ _ i;unfold Ut;by_cases h5:i<5
  ·rw[Ae h5,Ae h5,←he i h5];exact(S_ h5).symm
  ·rw[Aa h5];unfold l_;rw[Aa h5,Aa h5]
 ·have e:nd i=nd j:=e;rcases Nat.lt_trichotomy i j with h|h|h
  ·exact absurd e (ho i j h hj)
  ·exact h
  ·exact absurd e.symm (ho j i h hi)
theorem GG(w:tA):cA 32 #[] w fun x w'=>∃X nd tk dd,x= .returned (lp X)∧CW w' X nv0 ⟨nd,tk,dd,dX 4,bK,[],0,[],[]⟩ (fun b=>b=X)∧w.heap.size≤X∧nd 5=w.heap.size∧bZ w w':=by
 have o1:aW (gj QU (dX 4) bK (.slice none 0 0) .nilFunc 0) 199:=wH yD rfl;refine en (H:=[]) 27 [] Tryz.func32 rfl rfl (m0 w) (r [] rfl fun _=>Rv.cb rfl (vg (yz (dX 4) bK)) (fun w _=>M4 w) (r [] rfl fun _=> ?_));refine cx rfl (fun B:Nat=>vv (.map (some B))) (fun B=>w.heap.size≤B) (fun B w=>w.heap[B]? =some jk) (fun w1 hS=>(LL w1).mono fun _ _ ⟨e,hd,b⟩=>⟨_,e,b,hS.now.2.size,fun _=>vz hd fun h=>h.elim (fun h=>by cases h) id⟩) fun B1 hB1=> ?_;refine r [] rfl fun α=>gn 0 (Ut 0 (fun _=>0) (.map none) (.map (some B1))) ?_;refine cx rfl (fun B:Nat=>vv (.map (some B))) (fun B=>w.heap.size≤B) (fun B w=>w.heap[B]? =some (dZ (α 0))) (fun w3 hS=>(JH (α 0) w3).mono fun _ _ ⟨e,hd,b⟩=>⟨_,e,b,hS.now.2.size,fun _=>vz hd fun h=>h.elim (fun h=>Nat.ne_of_gt (hS.at 0 rfl).lt (Ab.1 h)) id⟩) fun B2 hB2=> ?_;refine r [] rfl fun _=>gn 0 (Ut 0 (fun _=>0) (.map (some B2)) (.map (some B1))) ?_;refine iD (X:=Nat×(Nat→Nat)) ⟨fun x=>[(1,vp 0 0 (α 0)),(12,vi (x.1:Int))],fun x=>[⟨α 0,103,[.f 19 (Ut x.1 x.2 (.map (some B2)) (.map (some B1)))]⟩],fun _ _=>False,fun x w=>((True∧w.heap[B1]? =some jk)∧w.heap[B2]? =some (dZ (α 0)))∧∀j,j<x.1→bh w (x.2 j) 123 206 (aaK (α 0) j),fun _ w'=>bZ w w',fun x=>x.1≤5∧(∀j,j<x.1→α 0≠x.2 j∧w.heap.size≤x.2 j)∧(∀i j,i<j→j<x.1→x.2 i≠x.2 j),fun x=>5-x.1⟩ (0,fun _=>0) ⟨rfl,rfl,trivial⟩ (fun w hS=>hS.said fun _ h=>⟨h,fun j hj=>absurd hj (AF j)⟩) ⟨Al _,fun j hj=>absurd hj (AF j),fun i j _ hj=>absurd hj (AF j)⟩ ?_;rintro f ⟨k,nd⟩ ⟨hk,uG,r_⟩;have hk:k≤5:=hk;have uG:∀j,j<k→α 0≠nd j∧w.heap.size≤nd j:=uG;have r_:∀i j,i<j→j<k→nd i≠nd j:=r_;by_cases aN:k<5
 case neg=>
  obtain rfl:k=5:=by omega
  refine r [0] rfl fun _=>fin fun w1 hS=> ?_;have hg:=hS.now.1;exact⟨α 0,ak nd 5 w.heap.size,_,_,rfl,aaL (nd:=ak nd 5 w.heap.size) (hS.at 0 rfl) (fun j hj=>aI (by omega)) (by rw[aj];exact⟨hS.jN 0 rfl,hB1,hB2,hS.now.2.size⟩) (fun j hj=>by rw[aI (by omega)];exact hg.2 j hj) hg.1.1.2 hg.1.2 (fun j hj=>by rw[aI (by omega),aj];exact uG j hj) (fun i j hi hj=>by rw[aI (by omega),aI (by omega)];exact r_ i j hi hj),hS.jN 0 rfl,aj ..,hS.now.2⟩
 refine r [1,4,1] rfl fun _=>Rv.cb rfl (vf 199 (gj QU (dX 4) bK (.slice none 0 0) .nilFunc 0)) (fun w _=>vj w) (r [1] rfl fun β=> ?_);refine so1 rfl 0 rfl (Ut (k+1) (ak nd k (β 0)) (.map (some B2)) (.map (some B1))) (show 0+k*1<19 by omega) (fun i=>adj aN i) (gn 1 (aaK (α 0) k) ?_ rfl (by kernel_rfl));refine VP fun w9 hS=> ?_;have hN:=hS.jN 1 (e:=⟨β 0,_,_,_⟩) rfl;have hX:α 0≠β 0:=fun e=>absurd (hS.oY 0 1 ⟨α 0,_,_,_⟩ ⟨β 0,_,_,_⟩ rfl rfl e) (by decide);have hnn:∀j,j<k→nd j≠β 0:=fun j hj e=>Mem.adk hS (fun w h=>h.2 j hj) (by show nd j∈_;rw[e];exact List.Mem.tail _ (List.Mem.head _));refine rz [1] [((k+1:Nat):Int)] rfl fun _=>bJ (k+1,ak nd k (β 0)) ⟨rfl,rfl,trivial⟩ (fun w hS=>((hS.take 1).add (hS.kept 1 rfl 1 (cR rfl))).said (fun w h=>⟨h.1.1,fun j hj=> ?_⟩)) ⟨aN,fun j hj=> ?_,fun i j h1 h2=> ?_⟩ (show 5-(k+1)<5-k by omega)
 ·by_cases e:j=k
  ·rw[e,show(k+1,ak nd k (β 0)).2 k=β 0 from aj ..];exact h.2
  ·rw[show(k+1,ak nd k (β 0)).2 j=nd j from aI e];exact h.1.2 j (by have:j<k+1:=hj;omega)
 ·have hj:j<k+1:=hj;show α 0≠ak nd k (β 0) j∧w.heap.size≤ak nd k (β 0) j;by_cases e:j=k
  ·rw[e,aj];exact⟨hX,hN⟩
  ·rw[aI e];exact uG j (by omega)
 ·have h2:j<k+1:=h2;show ak nd k (β 0) i≠ak nd k (β 0) j;rw[aI (show ¬i=k by omega)];by_cases e:j=k
  ·rw[e,aj];exact hnn i (by omega)
  ·rw[aI e];exact r_ i j h1 (by omega)
theorem Qm(X N:Nat)(u:Nv)(v:Wv)(F U:tF)(w:tA)(hw:NW w X N u v F U)(lG:u.ub=true∨(u.ub=false∧u.sk=true)):cA 50 #[lp N] w fun x w'=>x= .returned (.tuple #[])∧∃u' v' F',Dn w X N u v F U ((u.pure,v.pure)) u' v' F' w':=by
 rcases lG with mV|⟨mV,YH⟩
 ·obtain⟨u1,rfl⟩:∃u1:Nv,u={u1 with ub:=true}:=⟨u,by rw[←mV]⟩;exact en (H:=[nE X N {u1 with ub:=true}]) 55 [vp 0 0 N] Tryz.func50 rfl rfl (hw.init (G:=fun _=>True) fun _ _=>trivial) (r [] rfl fun _=>fin fun w hS=>⟨rfl,_,v,F,Dn.fin hS hw.ub hw.nu (fun _ h=>⟨h.1.1,h.1.2⟩) hw.ok rfl rfl rfl rfl rfl rfl rfl⟩)
 ·obtain⟨u1,rfl⟩:∃u1:Nv,u={u1 with ub:=false,sk:=true}:=⟨u,by rw[←mV,←YH]⟩;exact en (H:=[nE X N {u1 with ub:=false,sk:=true}]) 55 [vp 0 0 N] Tryz.func50 rfl rfl (hw.init (G:=fun _=>True) fun _ _=>trivial) (r [] rfl fun _=>fin fun w hS=>⟨rfl,_,v,F,Dn.fin hS hw.ub hw.nu (fun _ h=>⟨h.1.1,h.1.2⟩) hw.ok rfl rfl rfl rfl rfl rfl rfl⟩)
theorem Uv(X N:Nat)(u:Nv)(v:Wv)(F U:tF)(w:tA)(hw:NW w X N u v F U)(kp:Int)(mV:u.ub=false):cA 49 #[lp N,iV kp] w fun x w'=>x= .returned (.tuple #[])∧∃u' v' F',Dn w X N u v F U ((u.pure,v.pure)) u' v' F' w':=by
 obtain⟨u1,rfl⟩:∃u1:Nv,u={u1 with ub:=false}:=⟨u,by rw[←mV]⟩;exact en (H:=[nE X N {u1 with ub:=false}]) 36 [vp 0 0 N,vi kp] Tryz.func49 rfl rfl (hw.init (G:=fun _=>True) fun _ _=>trivial) (r [] rfl fun _=>fin fun w hS=>⟨rfl,_,v,F,Dn.fin hS hw.ub hw.nu (fun _ h=>⟨h.1.1,h.1.2⟩) hw.ok rfl rfl rfl rfl rfl rfl rfl⟩)
end
open Classical in
noncomputable def cQ(n:Nd)(s:Ws):Nd×Ws:=if n.up=true∨n.sk=true then(n,s)else if h:∃x:(Nat→Bt)×List Rec×Nat×List Rec×Nat,Y_ n x.1 x.2.1 x.2.2.1 x.2.2.2.1 x.2.2.2.2 then iL n s h.choose.1 h.choose.2.2.1 h.choose.2.2.2.1 else(n,s)
def jZ(n:Nd)(kp:Int):Nd:=if n.up=true then qI n kp else n
noncomputable def Qn(ns:Nat→Nd)(s:Ws)(k:Int)(n q p:Nat)(kp:Int)(e:Ev):(Nat→Nd)×Ws:=
 if k=1 then(ak ns n (dO (ns n) s q).1,(dO (ns n) s q).2)
 else if k=2 then(ns,{e_ s (vm n q s.cs e)with cs:=s.cs+1})
 else if k=3 then(ak ns n (eB (ns n) s).1,(eB (ns n) s).2)
 else if k=4∨k=5∨k=6 then jc ns s k p
 else if k=7 then P3 ns s
 else if k=8 then(ak ns n (jZ (ns n) kp),s)
 else if k=9 then(ak ns n (cQ (ns n) s).1,(cQ (ns n) s).2)
 else Uc ns s q n
structure Gd(ns:Nat→Nd)(s:Ws):Prop where
 tu:∀i,i<5→(ns i).tu<4
 wt:∀i,i<5→∀l∈(ns i).wt,eY l
 fl:∀l∈s.fl,TY l
 dir:bN s.pn s.pe
 st:∀i,i<5→(ns i).up=false→(ns i).sk=false→∃Bs rs kk ps Q0,Y_ (ns i) Bs rs kk ps Q0
 lf:s.fl.length≤100000000000
 ld:s.td.length≤100000000000
 ls:s.sv.length≤100000000000
 lw:∀i,i<5→(ns i).wt.length≤100000000000
 c0:0≤s.cs
 c1:s.cs≤100000000000
section
variable{w w':tA}{X i:Nat}{us:Nat→Nv}{v v':Wv}{F F':tF}{u':Nv}
theorem CW.ds(h:CW w X us v F)(hi:i<5){r:Nd×Ws}(hd:Ds w X (v.nd i) (us i) v F (CT us v F) r u' v' F' w'):Cd w X us v F (ak (fun i=>(us i).pure) i r.1,r.2) (ak us i u') v' F' w':=by
 have kh:∀b,fK u'.wt b→fK (us i).wt b:=fun b hb=>by
  rcases hd.wq with⟨e,_⟩|⟨e,_⟩
  ·rw[e]at hb;exact hb
  ·rw[e]at hb;obtain⟨o,n,c,e⟩:=hb;cases e
 have aN:∀b,fK (us i).wt b→b<w.heap.size:=fun b hb=>h.lt b (.inr (.inr ⟨i,hi,hb⟩));have m:Mv (fun b=>F b∨b=v.nd i∨fK (us i).wt b) w (fun b=>F' b∨b=v.nd i∨fK u'.wt b) w':=hd.mv.less (fun b hb=>hb.imp id .inl) fun b hb=>by
  rcases hb with hb|hb|hb
  ·exact .inl (.inl hb)
  ·exact .inl (.inr hb)
  ·exact .inr ⟨.inr (.inr (kh b hb)),aN b (kh b hb)⟩
 have hnF:∀b,fK (us i).wt b→¬F' b:=fun b hb hf=>by
  rcases hd.mv.f b (.inl hf)with(e|e)|e
  ·exact h.wf i b hi hb e
  ·exact h.wn i b i hi hi hb e
  ·exact absurd (aN b hb) (Bb.2 e)
 have dq:∃B,fC w' B u'.wt u'.wl:=by
  rcases hd.wq with⟨e1,e2⟩|⟨e1,e2⟩
  ·obtain⟨B,hr⟩:=h.wr i hi;exact⟨B,by rw[e1,e2];exact hr.still fun hb=>hd.mv.c.block B (hr.lt hb) fun e=>e.elim (h.wf i B hi hb) (h.wn i B i hi hi hb)⟩
  ·exact⟨0,by rw[e1,e2];exact⟨none,0,rfl,Ac _,Al _,.inl ⟨rfl,rfl⟩⟩⟩
 have NA:=h.put hi m hd.nw.wo hd.nd hd.tk hd.dd hd.nw.nb hd.nw.ok hd.nw.nf dq (fun b hb=>hnF b (kh b hb)) (fun b hb=>h.wn i b i hi hi (kh b hb)) (hd.nw.st.mono fun b _ hb=>by
  rcases hb with hb|hb|hb
  ·exact .inl hb
  ·exact .inr hb
  ·exact .inl (.inl (.inr (.inr ⟨i,hi,kh b hb⟩))))
 refine⟨NA,h.mvs hi m hd.nd,hd.nd,hd.tk,hd.dd, ?_,hd.s⟩;rw[oP,hd.n]
theorem Uw(h:CW w X us v F)(hi:i<5)(gV:(us i).ub=false→(us i).sk=false→∃Bs rs kk ps Q0,Y_ (us i).pure Bs rs kk ps Q0)(hlen:v.sv.length≤900000000000):cA 50 #[lp (v.nd i)] w fun x w'=>x= .returned (.tuple #[])∧∃qH v' F',Cd w X us v F (ak (fun i=>(us i).pure) i (cQ (us i).pure v.pure).1,(cQ (us i).pure v.pure).2) qH v' F' w':=by
 by_cases lG:(us i).ub=true∨(us i).sk=true
 ·have adm:(us i).ub=true∨((us i).ub=false∧(us i).sk=true):=by
   rcases hb:(us i).ub with _|_
   ·exact .inr ⟨rfl,lG.resolve_left (by rw[hb];simp)⟩
   ·exact .inl rfl
  refine(Qm X (v.nd i) (us i) v F _ w (h.nw hi) adm).mono ?_;rintro x w' ⟨rfl,u',v',F',hd⟩;have e:cQ (us i).pure v.pure=((us i).pure,v.pure):=Ae lG;rw[e];exact⟨rfl,_,v',F',h.dn hi hd⟩
 ·have mV:(us i).ub=false:=by
   rcases hb:(us i).ub with _|_
   ·rfl
   ·exact absurd (.inl hb) lG
  have YH:(us i).sk=false:=by
   rcases hb:(us i).sk with _|_
   ·rfl
   ·exact absurd (.inr hb) lG
  obtain⟨Bs,rs,kk,ps,Q0,hs⟩:=gV mV YH;have hx:∃x:(Nat→Bt)×List Rec×Nat×List Rec×Nat,Y_ (us i).pure x.1 x.2.1 x.2.2.1 x.2.2.2.1 x.2.2.2.2:=⟨(Bs,rs,kk,ps,Q0),hs⟩;have e:cQ (us i).pure v.pure=iL (us i).pure v.pure hx.choose.1 hx.choose.2.2.1 hx.choose.2.2.2.1:=by
   unfold cQ;rw[Aa lG,dif_pos hx]
  refine(Ui X (v.nd i) (us i) v F _ w (h.nw hi) hx.choose.1 hx.choose.2.1 hx.choose.2.2.1 hx.choose.2.2.2.1 hx.choose.2.2.2.2 mV YH hx.choose_spec hlen).mono ?_;rintro x w' ⟨rfl,u',v',F',hd⟩;rw[e];exact⟨rfl,_,v',F',h.ds hi hd⟩
theorem Qo(h:CW w X us v F)(hi:i<5)(kp:Int)(hk:0≤kp)(ZI:kp≤9223372036854775807):cA 49 #[lp (v.nd i),iV kp] w fun x w'=>x= .returned (.tuple #[])∧∃qH v' F',Cd w X us v F (ak (fun i=>(us i).pure) i (jZ (us i).pure kp),v.pure) qH v' F' w':=by
 rcases mV:(us i).ub with _|_
 ·refine(Uv X (v.nd i) (us i) v F _ w (h.nw hi) kp mV).mono ?_;rintro x w' ⟨rfl,u',v',F',hd⟩;have e:jZ (us i).pure kp=(us i).pure:=Aa (show ¬(us i).ub=true by rw[mV];simp);rw[e];exact⟨rfl,_,v',F',h.dn hi hd⟩
 ·have e:jZ (us i).pure kp=qI (us i).pure kp:=Ae (show(us i).ub=true from mV);rw[e];exact Ua h hi mV kp hk ZI
theorem XY(h:CW w X us v F)(hi:i<5)(QX:(us i).tu<4)(fw:∀r∈(us i).wl,eY r.l)(xK:v.fl.length+(us i).wl.length+8≤1000000000000∧v.sv.length+(us i).wl.length≤1000000000000):cA 46 #[lp (v.nd i)] w fun x w'=>x= .returned (.tuple #[])∧∃qH v' F',Cd w X us v F (ak (fun i=>(us i).pure) i (eB (us i).pure v.pure).1,(eB (us i).pure v.pure).2) qH v' F' w':=by
 have hw:=h.nw hi;obtain⟨B,hr,hB⟩:∃B,fC w B (us i).wt (us i).wl∧(fK (us i).wt B∨B=X):=by
  obtain⟨B,hr⟩:=h.wr i hi;by_cases e:fK (us i).wt B
  ·exact⟨B,hr,.inl e⟩
  ·exact⟨X,hr.any e,.inr rfl⟩
 have gV:cm (fun b=>F b∨b=v.nd i) w fun w=>fC w B (us i).wt (us i).wl∧x_ w v.dd:=fun w2 c2=>⟨hr.still fun hb=>c2.block B (hr.lt hb) fun e=>e.elim (h.wf i B hi hb) (h.wn i B i hi hi hb),(h.st w2 (c2.mono fun b hb=> .inl (hb.imp id fun e=> .inl ⟨i,hi,e⟩))).2.2⟩;refine(Xz B X (v.nd i) (us i) v F _ w hw QX gV fw (fun l hl=>aaB hl) xK).mono ?_;rintro x w' ⟨rfl,u',v',F',hk⟩;have hr':=hk.wr.now.1;have hold:∀b,fK u'.wt b→fK (us i).wt b:=fun b hb=>by
  obtain rfl:=hr'.blk hb;rcases hB with hB|rfl
  ·exact hB
  ·exfalso;obtain⟨o,n,c,e⟩:=hb;obtain⟨a,c',e',_,_,⟨rfl,_⟩|⟨o',n',f,rfl,fb,_⟩⟩:=hr'.ex
   ·rw[e]at e';cases e'
   ·obtain⟨fl,sv,td,fx,_⟩:=hk.nw.wo.ex;unfold bh at fb fx;rw[fb]at fx;simp at fx
 have aN:∀b,fK (us i).wt b→b<w.heap.size:=fun b hb=>h.lt b (.inr (.inr ⟨i,hi,hb⟩));have m:Mv (fun b=>F b∨b=v.nd i∨fK (us i).wt b) w (fun b=>F' b∨b=v.nd i∨fK u'.wt b) w':=hk.mv.less (fun b hb=>hb.elim .inl fun e=> .inr (.inl e)) fun b hb=>by
  rcases hb with hb|hb|hb
  ·exact .inl (.inl hb)
  ·exact .inl (.inr hb)
  ·exact .inr ⟨.inr (.inr (hold b hb)),aN b (hold b hb)⟩
 have NA:=h.put hi m hk.nw.wo hk.nd hk.tk hk.dd hk.nw.nb hk.nw.ok hk.nw.nf ⟨B,hr'⟩ (fun b hb hf=>by
  rcases hk.mv.f b (.inl hf)with(e|e)|e
  ·exact h.wf i b hi (hold b hb) e
  ·exact h.wn i b i hi hi (hold b hb) e
  ·exact absurd (aN b (hold b hb)) (Bb.2 e)) (fun b hb=>h.wn i b i hi hi (hold b hb)) (hk.nw.st.mono fun b _ hb=>by
  rcases hb with hb|hb|hb
  ·exact .inl hb
  ·exact .inr hb
  ·exact .inl (.inl (.inr (.inr ⟨i,hi,hold b hb⟩))))
 exact⟨rfl,_,v',F',NA,h.mvs hi m hk.nd,hk.nd,hk.tk,hk.dd,by rw[oP,hk.n],hk.s⟩
variable{k:Int}{n q p:Nat}{kp:Int}{e:Ev}
abbrev NH(w:tA)(X:Nat)(us:Nat→Nv)(v:Wv)(F:tF)(k:Int)(n q p:Nat)(kp:Int)(e:Ev)(x:Ending)(w':tA):Prop:=x= .returned (.tuple #[])∧∃qH v' F',Cd w X us v F (Qn (fun i=>(us i).pure) v.pure k n q p kp e) qH v' F' w'
theorem do_1(h:CW w X us v F)(hn:n<5)(hq:q<4)(hk:k=1):cA 44 #[lp X,iV (q:Int),lp (v.nd n)] w (NH w X us v F k n q p kp e):=by
 subst hk;exact P7 h hn q hq
theorem agn(h:CW w X us v F)(hg:Gd (fun i=>(us i).pure) v.pure)(hk:k=2):cA 45 #[lp X,vF (lF [iV k,iV (n:Int),iV (q:Int),iV (p:Int),iV kp,iV e.k,iV e.p,iV e.i,iV e.b,iV e.he,iV e.hn]) 11] w (NH w X us v F k n q p kp e):=by
 have h1:v.fl.length≤100000000000:=by have:=hg.lf;simpa using this
 have h2:v.cs≤100000000000:=hg.c1;subst hk;exact XH h 2 n q p kp e (by omega) (by omega) hg.c0
theorem ago(h:CW w X us v F)(hg:Gd (fun i=>(us i).pure) v.pure)(hn:n<5)(hk:k=3):cA 46 #[lp (v.nd n)] w (NH w X us v F k n q p kp e):=by
 have h1:v.fl.length≤100000000000:=by have:=hg.lf;simpa using this
 have h2:v.sv.length≤100000000000:=hg.ls;have h3:(us n).wl.length≤100000000000:=by have:=hg.lw n hn;simpa using this
 subst hk;exact XY h hn (hg.tu n hn) (fun r hr=>hg.wt n hn r.l (Ay.2 ⟨r,hr,rfl⟩)) ⟨by omega,by omega⟩
theorem LM(h:CW w X us v F)(hg:Gd (fun i=>(us i).pure) v.pure)(hk:k=4∨k=5∨k=6):cA 47 #[lp X,vF (lF [iV k,iV (n:Int),iV (q:Int),iV (p:Int),iV kp,iV e.k,iV e.p,iV e.i,iV e.b,iV e.he,iV e.hn]) 11] w (NH w X us v F k n q p kp e):=by
 have h1:v.fl.length≤100000000000:=by have:=hg.lf;simpa using this
 have h2:v.td.length≤100000000000:=hg.ld;have e1:Qn (fun i=>(us i).pure) v.pure k n q p kp e=jc (fun i=>(us i).pure) v.pure k p:=by
  unfold Qn;rw[Aa (by omega),Aa (by omega),Aa (by omega),Ae hk]
 unfold NH;rw[e1];exact aaF X us v F w h k n q p kp e (fun r hr=>hg.fl r.l (Ay.2 ⟨r,hr,rfl⟩)) (by omega) (fun i hi=>by have:=hg.lw i hi;simp only[List.length_map]at this;omega)
theorem agp(h:CW w X us v F)(hg:Gd (fun i=>(us i).pure) v.pure)(hk:k=7):cA 48 #[lp X] w (NH w X us v F k n q p kp e):=by
 have h1:v.fl.length≤100000000000:=by have:=hg.lf;simpa using this
 have h2:v.td.length≤100000000000:=hg.ld;have e1:Qn (fun i=>(us i).pure) v.pure k n q p kp e=P3 (fun i=>(us i).pure) v.pure:=by
  unfold Qn;rw[Aa (by omega),Aa (by omega),Aa (by omega),Aa (by omega),Ae hk]
 unfold NH;rw[e1];exact aaE X us v F w h (fun r hr=>hg.fl r.l (Ay.2 ⟨r,hr,rfl⟩)) (by omega) (fun i hi=>by have:=hg.lw i hi;simp only[List.length_map]at this;omega)
theorem agq(h:CW w X us v F)(hn:n<5)(QY:0≤kp∧kp≤9223372036854775807)(hk:k=8):cA 49 #[lp (v.nd n),iV kp] w (NH w X us v F k n q p kp e):=by
 subst hk;exact Qo h hn kp QY.1 QY.2
theorem agr(h:CW w X us v F)(hg:Gd (fun i=>(us i).pure) v.pure)(hn:n<5)(hk:k=9):cA 50 #[lp (v.nd n)] w (NH w X us v F k n q p kp e):=by
 subst hk;exact Uw h hn (hg.st n hn) (by have:=hg.ls;simp only at this;omega)
theorem adn(h:CW w X us v F)(hg:Gd (fun i=>(us i).pure) v.pure)(hq:q<4)(hk:k=10):cA 51 #[lp X,iV (q:Int),iV (n:Int)] w (NH w X us v F k n q p kp e):=by
 subst hk;exact XQ h q hq n hg.dir
end
section
open Rv
namespace Rv
section
variable{m:Nat}{ops:tP}{f:Nat→AV}{fn:Func}{Rr:Ending→World→Prop}{H:List En}{ks:List Fr}{t:Ord}{i d:Nat}{md:Md}
theorem cd{w:tA}{X:Nat}{us:Nat→Nv}{v:Wv}{F:tF}{k:Int}{n q p:Nat}{kp:Int}{e:Ev}{g:Nat}{al:List AV}(hc:Ru m ops f i=some (d,g,al))(hd:∀w1,CW w1 X us v F→cA g (al.map AV.val).toArray w1 (NH w1 X us v F k n q p kp e))(hn:G Tryz.prog fn Rr m (fun _=>False) (fun _=>True) (NH w X us v F k n q p kp e (.returned (.tuple #[]))) (.g md ops t::ks) (ua f d (vt [])) [])(hm:(md.cb||md.vs.contains i)=false:=by rfl)(he:iS Tryz.prog g=true:=by kernel_rfl):G Tryz.prog fn Rr m (CU us v F) (fun _=>True) (CR X us v F w us v F) (.g md ops (.ef i t)::ks) f H:=
 ct (Y:=Unit) hc (vt []) (fun _=>NH w X us v F k n q p kp e (.returned (.tuple #[]))) (fun _ hS=>(hd _ hS.now.2.toCW).mono fun _ _ ⟨h0,Kf,v2,F2,h⟩=>⟨h0,(),rfl,Kf,v2,F2,h.cw,hS.now.2.mv.trans h.mv,h.nd,h.tk,h.dd,h.n,h.s⟩) (fun _ _ _ ⟨h0,Kf,v2,F2,h⟩ b=>⟨h0,Kf,v2,F2,h.next b⟩) (fun _=>hn) hm he
end
end Rv
theorem ado(X:Nat)(us:Nat→Nv)(v:Wv)(F:tF)(w:tA)(h:CW w X us v F)(hg:Gd (fun i=>(us i).pure) v.pure)(k:Int)(n q p:Nat)(kp:Int)(e:Ev)(hk:1≤k∧k≤10)(hn:n<5)(hq:q<4)(QY:0≤kp∧kp≤9223372036854775807):cA 33 #[lp X,vF (lF [iV k,iV (n:Int),iV (q:Int),iV (p:Int),iV kp,iV e.k,iV e.p,iV e.i,iV e.b,iV e.he,iV e.hn]) 11] w (NH w X us v F k n q p kp e):=by
 have kg:k=1∨k=2∨k=3∨k=4∨k=5∨k=6∨k=7∨k=8∨k=9∨k=10:=by omega
 have hS:Mem w [] (CU us v F) (fun _=>True) (CR X us v F w us v F):=Mem.start h.lt (fun _ _=>trivial) (fun w2 b=>⟨h.next b,Mv.of h.lt b⟩);refine en (H:=[]) 75 [vv (lp X),vg [.o (iV k),.o (iV (n:Int)),.o (iV (q:Int)),.o (iV (p:Int)),.o (iV kp),.o (iV e.k),.o (iV e.p),.o (iV e.i),.o (iV e.b),.o (iV e.he),.o (iV e.hn)]] Tryz.func33 rfl rfl hS (r [] rfl fun α=> ?_);have nl:∀{H:List bX} {w1:tA},Mem w1 H (CU us v F) (fun _=>True) (CR X us v F w us v F)→w1.cell? ⟨X,0+0+n*1,none⟩=some (lp (v.nd n)):=fun hS=>by rw[show 0+0+n*1=n by omega];exact hS.now.2.toCW.wo.nd_ hn
 rcases kg with h1|h1|h1|h1|h1|h1|h1|h1|h1|h1
 ·exact r [1,1] rfl fun _=>l1 (q:=0+0+n*1) rfl (lp (v.nd n)) (fun _ hS=>nl hS) (r [] rfl fun _=>cd rfl (fun _ h=>do_1 h hn hq h1) (r [] rfl fun _=>dt rfl fun _ hS=>hS.now.2))
 ·exact r [0,1] rfl fun _=>cd rfl (fun _ h=>agn h hg h1) (r [] rfl fun _=>dt rfl fun _ hS=>hS.now.2)
 ·exact r [0,0,1,1] rfl fun _=>l1 (q:=0+0+n*1) rfl (lp (v.nd n)) (fun _ hS=>nl hS) (r [] rfl fun _=>cd rfl (fun _ h=>ago h hg hn h1) (r [] rfl fun _=>dt rfl fun _ hS=>hS.now.2))
 ·exact r [0,0,0,1] rfl fun _=>cd rfl (fun _ h=>LM h hg (by omega)) (r [] rfl fun _=>dt rfl fun _ hS=>hS.now.2)
 ·exact r [0,0,0,0,1] rfl fun _=>cd rfl (fun _ h=>LM h hg (by omega)) (r [] rfl fun _=>dt rfl fun _ hS=>hS.now.2)
 ·exact r [0,0,0,0,0,1] rfl fun _=>cd rfl (fun _ h=>LM h hg (by omega)) (r [] rfl fun _=>dt rfl fun _ hS=>hS.now.2)
 ·exact r [0,0,0,0,0,0,1] rfl fun _=>cd rfl (fun _ h=>agp h hg h1) (r [] rfl fun _=>dt rfl fun _ hS=>hS.now.2)
 ·exact r [0,0,0,0,0,0,0,1,1] rfl fun _=>l1 (q:=0+0+n*1) rfl (lp (v.nd n)) (fun _ hS=>nl hS) (r [] rfl fun _=>cd rfl (fun _ h=>agq h hn QY h1) (r [] rfl fun _=>dt rfl fun _ hS=>hS.now.2))
 ·exact r [0,0,0,0,0,0,0,0,1,1] rfl fun _=>l1 (q:=0+0+n*1) rfl (lp (v.nd n)) (fun _ hS=>nl hS) (r [] rfl fun _=>cd rfl (fun _ h=>agr h hg hn h1) (r [] rfl fun _=>dt rfl fun _ hS=>hS.now.2))
 ·exact r [0,0,0,0,0,0,0,0,0,1] rfl fun _=>cd rfl (fun _ h=>adn h hg hq h1) (r [] rfl fun _=>dt rfl fun _ hS=>hS.now.2)
end
structure Zb(n:Nd)(Bs:Nat→Bt)(rs:List Rec)(kk:Nat):Prop where
 rd:bB n.dl=(rs.map bn,kk)
 wf:∀x∈aD rs,(Lit.int .i64 x).wf=true
 rl:rs.length≤100000
 reb:(kV (lz gb) 0 rs).1=some (lz Bs)
open Classical in
noncomputable def kX(n:Nd):Nat→Bt:=if n.up=true then n.mo else if h:∃x:(Nat→Bt)×List Rec×Nat,Zb n x.1 x.2.1 x.2.2 then h.choose.1 else fun _=>Bt.zero
def Zc(w:tA)(a:tB)(L:List Tl):Prop:=∀k y,L[k]? =some y→∃g,a=some ⟨g,0,none⟩∧∀j,j<7→w.cell? ⟨g,k*7+j,none⟩=some (lF (Lu y) j)
theorem aaM(y:Tl){j:Nat}(hj:j<7):(Lu y)[j]? =some (lF (Lu y) j):=by
 match j,hj with
 |0,_=>rfl
 |1,_=>rfl
 |2,_=>rfl
 |3,_=>rfl
 |4,_=>rfl
 |5,_=>rfl
 |6,_=>rfl
theorem Ux{w:tA}{T:Nat}{lv:tK}{L:List Tl}(h:w.ownsRow 0 T 7 lv L.length (L.flatMap Lu)):∃a c,lv= .slice a L.length c∧Zc w a L:=by
 obtain⟨_,⟨e,h0⟩|⟨g,c,cur,e,_,hb,_,_,_,Lz⟩⟩:=h
 ·exact⟨none,0,by rw[e,h0],fun k y hk=>by rw[AU.1 h0]at hk;simp at hk⟩
 ·refine⟨_,c,e,fun k y hk=>⟨g,rfl,fun j hj=> ?_⟩⟩;have h1:=Gx (f:=Lu) (m:=7) (fun _=>rfl) L k y j hk hj;rw[aaM y hj,←Lz,AO]at h1;split at h1
  ·simp only[World.cell?,hb];rw[←BX];simpa using h1
  ·cases h1
structure Oc where
 fl:Nat
 up:Nat→Bool
 pn:Nat→Int
 pe:Nat→Int
 bs:Nat→Nat→Bt
 sv:List Ji
 td:List Tl
 cs:Int
structure j7 where
 R:Nat
 c:Nat
 F:Nat→Value
 Y:Nat→Nat
 C:Nat→Nat
 A:Nat→Nat→Option Addr
 K:Nat→Nat→Nat
 sa:Option Addr
 sc:Nat
 ta:Option Addr
 tc:Nat
def ocV(o:Oc)(t:j7):Value:=vF (Gr (iV (o.fl:Int)) (Cy o.up 5) o.pn o.pe (.slice (some ⟨t.R,0,none⟩) 5 t.c) (.slice t.sa o.sv.length t.sc) (.slice t.ta o.td.length t.tc) (iV o.cs)) 18
structure lO(w:tA)(o:Oc)(t:j7):Prop where
 c5:5≤t.c
 f:∀q,q<5→t.F q= .slice (some ⟨t.Y q,0,none⟩) 4 (t.C q)∧4≤t.C q
 r:bh w t.R 44 (t.c*1) t.F
 b:∀q,q<5→ma w (t.Y q) 4 (o.bs q) (t.A q) (t.K q)
 s:CN w t.sa o.sv
 t:Zc w t.ta o.td
noncomputable def ocS(ns:Nat→Nd)(s:Ws):Oc:=⟨s.fl.length,fun i=>(ns i).up,s.pn,s.pe,fun i=>kX (ns i),s.sv,s.td,s.cs⟩
section
variable{w w':tA}{X i:Nat}{us:Nat→Nv}{v v':Wv}{F F' U:tF}
theorem Qp(h:CW w X us v F)(hi:i<5)(gV:cm (fun b=>CU us v F b∨U b) w fun w=>∀i,i<5→(us i).In w (v.nd i))(hUn:¬U (v.nd i))(hdn:(us i).ub=false→∃Bs rs kk,Zb (us i).pure Bs rs kk)(U':tF)(w1:tA)(hU1:∀b,U' b→b<w1.heap.size)(hU2:∀b,b<w.heap.size→U' b→U b)(hb:bZ w w1):cA 52 #[lp (v.nd i)] w1 fun x w'=>∃Y c A K,x= .returned (.slice (some ⟨Y,0,none⟩) 4 c)∧4≤c∧cm U' w' (fun w=>ma w Y 4 (kX (us i).pure) A K)∧bZ w1 w':=by
 have EV:=(h.next hb).nb i hi;have hNl:=(h.nb i hi).lt;have Hb:¬U' (v.nd i):=fun e=>hUn (hU2 _ hNl e);have J_:cm (fun b=>b=v.nd i∨U' b) w1 fun w=>(us i).In w (v.nd i):=fun w2 c2=>gV w2 ((dB.of hb).trans c2 fun b hl e=>e.elim (fun e=> .inl (.inr (.inl ⟨i,hi,e⟩))) fun e=> .inr (hU2 b hl e)) i hi;have ok:=h.ok i hi;rcases mV:(us i).ub with _|_
 ·have hx:∃x:(Nat→Bt)×List Rec×Nat,Zb (us i).pure x.1 x.2.1 x.2.2:=by
   obtain⟨Bs,rs,kk,ht⟩:=hdn mV;exact⟨(Bs,rs,kk),ht⟩
  have e:kX (us i).pure=hx.choose.1:=by
   unfold kX;rw[Aa (show ¬(us i).ub=true by rw[mV];simp),dif_pos hx]
  have ht:=hx.choose_spec;refine(Ff X (v.nd i) (us i) mV ok hx.choose.1 hx.choose.2.1 hx.choose.2.2 w1 EV U' hU1 Hb (fun w2 c2=>(J_ w2 c2).row) ht.rd ht.wf ht.rl ht.reb).mono ?_;rintro x w' ⟨Y,c,A,K,rfl,hc,hs,b⟩;rw[e];exact⟨Y,c,A,K,rfl,hc,hs.mono fun _ _ h=> .inr h,b⟩
 ·have e:kX (us i).pure=fun q=>((us i).m q).B:=by
   unfold kX;rw[Ae (show(us i).ub=true from mV)]
  unfold NB mC at EV;rw[mV]at EV;refine(PB X (v.nd i) (us i).i (us i).da (us i).dl.length (us i).dc (us i).sy (fun p=>jj ((us i).m p)) (us i).hn (us i).he (us i).wt (us i).af (us i).tu (us i).ct (us i).sk (fun q=>((us i).m q).B) (fun q=>((us i).m q).a) (fun q=>((us i).m q).c) (fun q=>((us i).m q).g) (fun q hq=>rfl) (fun q hq=>eF (J_.now.mo q hq).one) (fun q hq=>by have:=(ok.ok q hq).len;omega) w1 EV U' hU1 Hb (fun w2 c2 q hq=>((J_ w2 c2).mo q hq).b)).mono ?_;rintro x w' ⟨Y,c,A,K,rfl,hc,hs,b⟩;rw[e];exact⟨Y,c,A,K,rfl,hc,hs.mono fun _ _ h=> .inr h,b⟩
theorem LN(h:CW w X us v F)(hU:∀b,U b→b<w.heap.size)(gV:cm (fun b=>CU us v F b∨U b) w fun w=>∀i,i<5→(us i).In w (v.nd i))(hUc:∀b,U b→¬CU us v F b)(hdn:∀i,i<5→(us i).ub=false→∃Bs rs kk,Zb (us i).pure Bs rs kk):cA 34 #[lp X] w fun x w'=>∃t,x= .returned (ocV (ocS (fun i=>(us i).pure) v.pure) t)∧cm U w' (fun w=>lO w (ocS (fun i=>(us i).pure) v.pure) t)∧bZ w w':=by
 obtain⟨fl,sv,td,fb,o1,o2,o3,hF⟩:=h.wo.ex;obtain⟨fa,fc,rfl,_⟩:=LD o1;obtain⟨sa,sc,rfl,_⟩:=Gy o2;obtain⟨ta,tc,rfl,_⟩:=Ux o3;have hUn:∀i,i<5→¬U (v.nd i):=fun i hi e=>hUc _ e (.inr (.inl ⟨i,hi,rfl⟩));have hFX:F X:=(hF X).2 (.inl rfl);have hX:cm U w fun w=>(bh w X 103 19 (l_ v.nd v.pn v.pe [.slice fa v.fl.length fc,v.tk,v.dd,iV v.cs,.slice sa v.sv.length sc,.slice ta v.td.length tc])∧∀q,q<5→w.cell? ⟨v.nd q,2,none⟩=some (.bool ((us q).ub))):=fun w2 c2=>by
  refine⟨?_,fun q hq=> ?_⟩
  ·unfold bh;rw[c2.block X (h.wo.lt X hFX) fun e=>hUc _ e (.inl hFX)];exact fb
  ·rw[c2.cell (h.nb q hq).lt (hUn q hq)];exact(h.nb q hq).at 2 (cR rfl)
 refine(Jh X v.nd v.pn v.pe fa v.fl.length fc v.tk v.dd v.cs sa v.sv.length sc ta v.td.length tc (fun q=>(us q).ub) (fun i=>kX (us i).pure) w U hU hX (fun k hk U' w1 h1 h2 h3=>Qp h hk gV (hUn k hk) (hdn k hk) U' w1 h1 h2 h3)).mono ?_;rintro x w' ⟨R,c,G,Y,C,A,K,rfl,hc,hG,hs,b⟩;refine⟨⟨R,c,G,Y,C,A,K,sa,sc,ta,tc⟩, ?_,fun w2 c2=> ?_,b⟩
 ·show _=Ending.returned (vF (Gr (iV ((v.fl.map Lr.l).length:Int)) _ _ _ _ _ _ _) 18);rw[AW];rfl
 ·have h2:=hs w2 c2;have c3:dB U w w2:=(dB.of b).trans c2 fun _ _ h=>h;have p2:=aJ o2 (w':=w2) fun g hg hl=>c3.block g hl fun e=>hUc _ e (.inl ((hF g).2 (.inr (.inr (.inl hg)))));have p3:=aJ o3 (w':=w2) fun g hg hl=>c3.block g hl fun e=>hUc _ e (.inl ((hF g).2 (.inr (.inr (.inr hg)))));obtain⟨a2,d2,e2,r2⟩:=Gy p2;obtain⟨a3,d3,e3,r3⟩:=Ux p3;cases e2;cases e3;exact⟨hc,hG,h2.2,h2.1.2,r2,r3⟩
end
namespace Lq
theorem GH{P:tF}(h0:P 0)(h1:P 1)(h2:P 2)(h3:P 3)(h4:P 4)(h5:P 5)(h6:P 6)(h7:P 7)(h8:P 8)(h9:P 9)(xP:P 10):∀i,i<11→P i
 |0,_=>h0
 |1,_=>h1
 |2,_=>h2
 |3,_=>h3
 |4,_=>h4
 |5,_=>h5
 |6,_=>h6
 |7,_=>h7
 |8,_=>h8
 |9,_=>h9
 |10,_=>xP
 |n+11,h=>absurd h (by omega)
abbrev Uy(f:tH):Array Value:= #[iV (f 0),iV (f 1),iV (f 2),iV (f 3),iV (f 4),iV (f 5),iV (f 6),iV (f 7),iV (f 8),iV (f 9),iV (f 10)]
abbrev DX(f:tH):Value:= .agg (Uy f)
def Qq(f:tH)(o:Nat)(x:Int):Nat→Int:=fun i=>if i=o then x else f i
def ij(w:tA)(R:Nat)(f:tH):Prop:=w.heap[R]? =some (.cells (Uy f) 63 (0,0))
section
variable{w w':tA}{R:Nat}{f:tH}
theorem ij.cell(h:ij w R f):∀i,i<11→w.cell? ⟨R,i,none⟩=some (iV (f i)):=by
 unfold ij at h;refine GH ?_ ?_ ?_ ?_ ?_ ?_ ?_ ?_ ?_ ?_ ?_<;>simp[World.cell?,h]
theorem ij.lt(h:ij w R f):R<w.heap.size:=cI h
theorem ij.below{N:Nat}(h:ij w R f)(hb:Below N w w')(hR:R<N):ij w' R f:=by
 unfold ij at h⊢;rw[←h];exact hb.block R hR
theorem ij.next(h:ij w R f)(hb:bZ w w'):ij w' R f:=h.below hb h.lt
end
def gJ(k o:Int):List Nat:=
 if k=1∨k=10 then[2,1]else if k=3∨k=9 then[1]else if k=8 then[1,4]else if k=4∨k=5∨k=6 then[3]
 else if k=2 then(if o=1 then[1,2,6,7,8]else if o=3 then[1,2,9,10]else[1,2])else[]
theorem tt(k o:Int):gJ k o=[2,1]∨gJ k o=[1]∨gJ k o=[1,4]∨gJ k o=[3]∨gJ k o=[1,2,6,7,8]∨gJ k o=[1,2,9,10]∨gJ k o=[1,2]∨gJ k o=[]:=by
 unfold gJ
 repeat' split
 all_goals simp
theorem XZ(k o:Int):∀x∈gJ k o,x<11:=by
 rcases tt k o with h|h|h|h|h|h|h|h<;>rw[h]<;>simp
theorem LO(k o:Int):(gJ k o).Nodup:=by
 rcases tt k o with h|h|h|h|h|h|h|h<;>rw[h]<;>simp
theorem Uz(k o:Int):(gJ k o).length≤5:=by
 rcases tt k o with h|h|h|h|h|h|h|h<;>rw[h]<;>simp
theorem LP{k o o':Int}(h:¬k=2):gJ k o=gJ k o':=by
 unfold gJ;simp[h]
def gH(k o:Int):Nat:=
 if k=1 then 0 else if k=10 then 1 else if k=3 then 2 else if k=9 then 3 else if k=8 then 4 else if k=4 then 5 else if k=5 then 6 else if k=6 then 7 else if k=7 then 8
 else if k=2 then(if o=1 then 9 else if o=2 then 10 else if o=3 then 11 else 12)else 12
def iX:Nat→ByteArray
 |0=>⟨#[109,97,107,101]⟩
 |1=>⟨#[109,111,118,101]⟩
 |2=>⟨#[115,116,101,112]⟩
 |3=>⟨#[115,116,97,114,116]⟩
 |4=>⟨#[99,114,97,115,104]⟩
 |5=>⟨#[99,97,114,114,121]⟩
 |6=>⟨#[108,111,115,101]⟩
 |7=>⟨#[100,111,117,98,108,101]⟩
 |8=>⟨#[97,108,108]⟩
 |9=>⟨#[112,117,98,108,105,115,104]⟩
 |10=>⟨#[114,101,99,101,105,118,101]⟩
 |11=>⟨#[97,99,107]⟩
 |_=>⟨#[]⟩
def iM:Nat→Int
 |0=>1
 |1=>10
 |2=>3
 |3=>9
 |4=>8
 |5=>4
 |6=>5
 |7=>6
 |8=>7
 |9=>2
 |10=>2
 |11=>2
 |_=>0
def tv:Nat→Int
 |9=>1
 |10=>2
 |11=>3
 |_=>0
theorem yF{P:tF}(h0:P 0)(h1:P 1)(h2:P 2)(h3:P 3)(h4:P 4)(h5:P 5)(h6:P 6)(h7:P 7)(h8:P 8)(h9:P 9)(xP:P 10)(Qr:P 11):∀i,i<12→P i
 |11,_=>Qr
 |i,h=>by
  by_cases e:i=11
  ·subst e;exact Qr
  ·exact GH h0 h1 h2 h3 h4 h5 h6 h7 h8 h9 xP i (by omega)
theorem wU(k o:Int):(k=1∧gH k o=0)∨(k=10∧gH k o=1)∨(k=3∧gH k o=2)∨(k=9∧gH k o=3)∨(k=8∧gH k o=4)∨(k=4∧gH k o=5)∨(k=5∧gH k o=6)∨(k=6∧gH k o=7)∨(k=7∧gH k o=8)∨(k=2∧o=1∧gH k o=9)∨(k=2∧o=2∧gH k o=10)∨(k=2∧o=3∧gH k o=11)∨(gH k o=12∧¬k=1∧¬k=10∧¬k=3∧¬k=9∧¬k=8∧¬k=4∧¬k=5∧¬k=6∧¬k=7∧¬(k=2∧o=1)∧¬(k=2∧o=2)∧¬(k=2∧o=3)):=by
 by_cases h0:k=1
 ·refine .inl ⟨h0, ?_⟩;unfold gH;rw[Ae h0]
 by_cases h1:k=10
 ·refine .inr (.inl ⟨h1, ?_⟩);unfold gH;rw[Aa h0,Ae h1]
 by_cases h2:k=3
 ·refine .inr (.inr (.inl ⟨h2, ?_⟩));unfold gH;rw[Aa h0,Aa h1,Ae h2]
 by_cases h3:k=9
 ·refine .inr (.inr (.inr (.inl ⟨h3, ?_⟩)));unfold gH;rw[Aa h0,Aa h1,Aa h2,Ae h3]
 by_cases h4:k=8
 ·refine .inr (.inr (.inr (.inr (.inl ⟨h4, ?_⟩))));unfold gH;rw[Aa h0,Aa h1,Aa h2,Aa h3,Ae h4]
 by_cases h5:k=4
 ·refine .inr (.inr (.inr (.inr (.inr (.inl ⟨h5, ?_⟩)))));unfold gH;rw[Aa h0,Aa h1,Aa h2,Aa h3,Aa h4,Ae h5]
 by_cases h6:k=5
 ·refine .inr (.inr (.inr (.inr (.inr (.inr (.inl ⟨h6, ?_⟩))))));unfold gH;rw[Aa h0,Aa h1,Aa h2,Aa h3,Aa h4,Aa h5,Ae h6]
 by_cases h7:k=6
 ·refine .inr (.inr (.inr (.inr (.inr (.inr (.inr (.inl ⟨h7, ?_⟩)))))));unfold gH;rw[Aa h0,Aa h1,Aa h2,Aa h3,Aa h4,Aa h5,Aa h6,Ae h7]
 by_cases h8:k=7
 ·refine .inr (.inr (.inr (.inr (.inr (.inr (.inr (.inr (.inl ⟨h8, ?_⟩))))))));unfold gH;rw[Aa h0,Aa h1,Aa h2,Aa h3,Aa h4,Aa h5,Aa h6,Aa h7,Ae h8]
 by_cases h9:k=2∧o=1
 ·refine .inr (.inr (.inr (.inr (.inr (.inr (.inr (.inr (.inr (.inl ⟨h9.1,h9.2, ?_⟩)))))))));unfold gH;rw[Aa h0,Aa h1,Aa h2,Aa h3,Aa h4,Aa h5,Aa h6,Aa h7,Aa h8,Ae h9.1,Ae h9.2]
 by_cases xP:k=2∧o=2
 ·refine .inr (.inr (.inr (.inr (.inr (.inr (.inr (.inr (.inr (.inr (.inl ⟨xP.1,xP.2, ?_⟩))))))))));unfold gH;rw[Aa h0,Aa h1,Aa h2,Aa h3,Aa h4,Aa h5,Aa h6,Aa h7,Aa h8,Ae xP.1,Aa (fun e=>h9 ⟨xP.1,e⟩),Ae xP.2]
 by_cases Qr:k=2∧o=3
 ·refine .inr (.inr (.inr (.inr (.inr (.inr (.inr (.inr (.inr (.inr (.inr (.inl ⟨Qr.1,Qr.2, ?_⟩)))))))))));unfold gH;rw[Aa h0,Aa h1,Aa h2,Aa h3,Aa h4,Aa h5,Aa h6,Aa h7,Aa h8,Ae Qr.1,Aa (fun e=>h9 ⟨Qr.1,e⟩),Aa (fun e=>xP ⟨Qr.1,e⟩),Ae Qr.2]
 refine .inr (.inr (.inr (.inr (.inr (.inr (.inr (.inr (.inr (.inr (.inr (.inr ⟨?_,h0,h1,h2,h3,h4,h5,h6,h7,h8,h9,xP,Qr⟩)))))))))));unfold gH;rw[Aa h0,Aa h1,Aa h2,Aa h3,Aa h4,Aa h5,Aa h6,Aa h7,Aa h8];by_cases hk:k=2
 ·rw[Ae hk,Aa (fun e=>h9 ⟨hk,e⟩),Aa (fun e=>xP ⟨hk,e⟩),Aa (fun e=>Qr ⟨hk,e⟩)]
 ·rw[Aa hk]
def vA(i:Nat)(k o:Int):Bool:=iM i==k&&(tv i==o||iM i !=2)
theorem LQ(k o:Int):∀i,i<12→(∀j,j<i→vA j k o=false)→vA i k o=true→gH k o=i:=by
 intro i hi hj hf;clear hj;revert hf;revert i;refine yF ?_ ?_ ?_ ?_ ?_ ?_ ?_ ?_ ?_ ?_ ?_ ?_<;>
 ·intro hf;simp only[vA,iM,tv,Bool.and_eq_true,beq_iff_eq,Bool.or_eq_true,bne_iff_ne,ne_eq]at hf;have:=wU k o
  first
   |omega
   |(simp at hf;omega)
theorem Qs(k o:Int)(h:∀j,j<12→vA j k o=false):gH k o=12:=by
 have g:∀j,j<12→¬(iM j=k∧(tv j=o∨¬iM j=2)):=fun j hj e=>by
  have:=h j hj;unfold vA at this;obtain⟨e1,e2⟩:=e;rcases e2 with e2|e2<;>simp[e1,e2]at this
  exact e2 (e1.trans this.2)
 have h0:=g 0 (by omega);have h1:=g 1 (by omega);have h2:=g 2 (by omega);have h3:=g 3 (by omega);have h4:=g 4 (by omega);have h5:=g 5 (by omega);have h6:=g 6 (by omega);have h7:=g 7 (by omega);have h8:=g 8 (by omega);have h9:=g 9 (by omega);have xP:=g 10 (by omega);have Qr:=g 11 (by omega);simp only[iM,tv]at h0 h1 h2 h3 h4 h5 h6 h7 h8 h9 xP Qr;rcases wU k o with h|h|h|h|h|h|h|h|h|h|h|h|h
 all_goals first
  |exact h.1
  |(exfalso;omega)
theorem X0(k o:Int)(h:gH k o<12):iM (gH k o)=k∧(k=2→tv (gH k o)=o)∧(¬k=2→tv (gH k o)=0):=by
 rcases wU k o with g|g|g|g|g|g|g|g|g|g|g|g|g
 all_goals first
  |(obtain⟨rfl,g⟩:=g;rw[g];exact⟨rfl,fun e=>absurd e (by decide),fun _=>rfl⟩)
  |(obtain⟨rfl,rfl,g⟩:=g;rw[g];exact⟨rfl,fun _=>rfl,fun e=>absurd rfl e⟩)
  |omega
def jE(i:Nat):Nat→Int:=fun j=>if j=0 then iM i else if j=5 then tv i else 0
def over(os:tW)(g f:tH):Nat→Int:=fun i=>if i∈os then f i else g i
def less(os:tW)(f:tH):Nat→Int:=fun i=>if i∈os then 0 else f i
abbrev ptr(B o:Nat):Value:= .pointer (some ⟨B,o,none⟩)
def sH(n m:Int):Bool:=decide (0≤n∧n≤m)
theorem JI(n m:Int)(w:tA):cA 54 #[iV n,iV m] w fun e w'=>e= .returned (.bool (sH n m))∧w'=w:=by
 by_cases h:0≤n
 ·by_cases h1:n≤m
  ·rw[show sH n m=true from As ⟨h,h1⟩];go_enter Tryz.func54,Tryz.ntmps54;go_wp2;go_ret;exact⟨rfl,rfl⟩
  ·rw[show sH n m=false from Ak fun g=>h1 g.2];go_enter Tryz.func54,Tryz.ntmps54;go_wp2;go_ret;exact⟨rfl,rfl⟩
 ·rw[show sH n m=false from Ak fun g=>h g.1];go_enter Tryz.func54,Tryz.ntmps54;go_wp2;go_ret;exact⟨rfl,rfl⟩
abbrev yb(w:tA)(base:Nat)(v:tK)(B:Nat)(os:tW):Prop:=w.ownsRow base 132 1 v os.length (os.map (ptr B))
end Lq
namespace Lq
open Rv
theorem UA:jI Tryz.prog 129 132 1 8=true:=by kernel_rfl
theorem UB{w:tA}{B:Nat}{f:tH}(hb:ij w B f):Mem w (hs []) (fun _=>False) (fun w=>ij w B f) (fun w'=>bZ w w'):=Mem.start (fun _ h=>h.elim) (fun w' c=>hb.next (c.below (Ac _) fun _ _ h=>h)) fun _ h=>h
theorem DY{w w0:tA}{H:List En}{M:tF}{Φ:tJ}{B a:Nat}{v:tK}{en:En}(os:tW)(k:Nat)(hS:Mem w (hs H) M Φ fun w'=>bZ w0 w')(he:nth H k=some en:=by rfl)(ht:en.t=132:=by rfl)(hs:eX en.l=os.length:=by rfl)(hl:cE (cy en.l) 0 os.length=os.map (ptr B):=by rfl)(hm:os.length≤maxLen:=by exact cR rfl)(hv:v= .slice (some ⟨a,0,none⟩) os.length os.length:=by rfl)(ha:en.a=a:=by rfl):yb w w0.heap.size v B os:=by
 subst hv ha;have fb:=vV hS k he;have YA:=he;rw[eR]at YA;have hb:=hS.jN k (e:=en.g_) (by rw[Ax,YA];rfl);rw[hs,ht,←Cj os.length]at fb;have:=Mw fb hb (Ac _) hm;rw[Cj,hl]at this;exact this
def LR(n:Nat):Option (Nat×Nat)→Value
 |none=> .slice none 0 0
 |some (g,c)=> .slice (some ⟨g,0,none⟩) n c
def pL(o:Int):List Nat:=if o=1 then[6,7,8]else if o=3 then[9,10]else[]
abbrev OpY(o:Int)(y:Option (Nat×Nat)):Prop:=(y=none→pL o=[])∧(¬y=none→0<(pL o).length)
theorem yd(B:Nat)(f:tH)(w:tA)(hb:ij w B f):cA 86 #[ptr B 5] w fun e w'=>∃y,e= .returned (LR (pL (f 5)).length y)∧OpY (f 5) y∧yb w' w.heap.size (LR (pL (f 5)).length y) B (pL (f 5))∧bZ w w':=by
 refine en (H:=[]) 30 [vv (ptr B 5)] Tryz.func86 rfl rfl (UB hb) (r [] rfl fun _=>l1 rfl (iV (f 5)) (fun w hS=>hS.now.1.cell 5 (cR rfl)) ?_);unfold OpY pL;by_cases h1:f 5=1
 ·rw[Ae h1];exact r [1,3] rfl fun _=>fin fun w hS=>⟨some (_,3),rfl,⟨fun h=>(by cases h),fun _=>cR rfl⟩,DY [6,7,8] 0 hS,hS.now.2⟩
 rw[Aa h1];by_cases h3:f 5=3
 ·rw[Ae h3];exact r [0,1,3] rfl fun _=>fin fun w hS=>⟨some (_,2),rfl,⟨fun h=>(by cases h),fun _=>cR rfl⟩,DY [9,10] 0 hS,hS.now.2⟩
 rw[Aa h3];exact r [0,0] rfl fun _=>fin fun w hS=>⟨none,rfl,⟨fun _=>rfl,fun h=>absurd rfl h⟩,BA _ _ _ _,hS.now.2⟩
theorem jz(B:Nat)(f:tH)(w:tA)(hb:ij w B f):
  cA 53 #[ptr B 0] w fun e w'=>∃v,e= .returned v∧yb w' w.heap.size v B (gJ (f 0) (f 5))∧bZ w w':=by
 refine en (H:=[]) 55 [vv (ptr B 0)] Tryz.func53 rfl rfl (UB hb) (r [] rfl fun _=>l1 rfl (iV (f 0)) (fun w hS=>hS.now.1.cell 0 (cR rfl)) ?_);unfold gJ;by_cases h1:f 0=1
 ·rw[Ae (.inl h1)];exact r [1,3] rfl fun _=>fin fun w hS=>⟨_,rfl,DY [2,1] 0 hS,hS.now.2⟩
 by_cases xP:f 0=10
 ·rw[Ae (.inr xP)];exact r [0,1,3] rfl fun _=>fin fun w hS=>⟨_,rfl,DY [2,1] 0 hS,hS.now.2⟩
 rw[Aa (by omega)];by_cases h3:f 0=3
 ·rw[Ae (.inl h3)];exact r [0,0,1] rfl fun _=>fin fun w hS=>⟨_,rfl,DY [1] 0 hS,hS.now.2⟩
 by_cases h9:f 0=9
 ·rw[Ae (.inr h9)];exact r [0,0,0,1] rfl fun _=>fin fun w hS=>⟨_,rfl,DY [1] 0 hS,hS.now.2⟩
 rw[Aa (by omega)];by_cases h8:f 0=8
 ·rw[Ae h8];exact r [0,0,0,0,1,3] rfl fun _=>fin fun w hS=>⟨_,rfl,DY [1,4] 0 hS,hS.now.2⟩
 rw[Aa h8];by_cases h4:f 0=4
 ·rw[Ae (.inl h4)];exact r [0,0,0,0,0,1] rfl fun _=>fin fun w hS=>⟨_,rfl,DY [3] 0 hS,hS.now.2⟩
 by_cases h5:f 0=5
 ·rw[Ae (.inr (.inl h5))];exact r [0,0,0,0,0,0,1] rfl fun _=>fin fun w hS=>⟨_,rfl,DY [3] 0 hS,hS.now.2⟩
 by_cases h6:f 0=6
 ·rw[Ae (.inr (.inr h6))];exact r [0,0,0,0,0,0,0,1] rfl fun _=>fin fun w hS=>⟨_,rfl,DY [3] 0 hS,hS.now.2⟩
 rw[Aa (by omega)];by_cases h2:f 0=2
 case neg=>
  rw[Aa h2];exact r [0,0,0,0,0,0,0,0,0] rfl fun _=>fin fun w hS=>⟨_,rfl,BA _ _ _ _,hS.now.2⟩
 rw[Ae h2]
 have hcx:∀w1,bZ w w1→ij w1 B f→cA 86 #[ptr B 5] w1 fun e w'=>∃y,e= .returned (LR (pL (f 5)).length y)∧bZ w1 w'∧OpY (f 5) y∧(∀U:Nat→Prop,(∀b,U b→b<w1.heap.size)→cm U w' fun w2=>yb w2 w.heap.size (LR (pL (f 5)).length y) B (pL (f 5))):=fun w1 b hb=>(yd B f w1 hb).mono fun _ w' ⟨y,h1,hy,h2,h3⟩=>⟨y,h1,h3,hy,fun U hU w2 c=>by
  have hv:∀g,(LR (pL (f 5)).length y).ownBlock=some g→w1.heap.size≤g:=fun g hg=>by
   rcases h2.2 with⟨e,_⟩|⟨g',_,_,e,h,_⟩
   ·rw[e]at hg;cases hg
   ·rw[e]at hg;cases hg;exact h
  have h4:=jO h2 fun g hg aN=>c.block g aN fun hu=>absurd (hU g hu) (Bb.2 (hv g hg))
  exact⟨h4.1,h4.2.imp id fun⟨g,c,cu,e,h,k⟩=>⟨g,c,cu,e,AN b.size h,k⟩⟩⟩
 have e9:[1,2]++pL (f 5)=if f 5=1 then[1,2,6,7,8]else if f 5=3 then[1,2,9,10]else[1,2]:=by
  unfold pL;split
  ·rfl
  ·split<;>rfl
 rw[←e9];refine r [0,0,0,0,0,0,0,0,1,4] rfl fun _=> ?_
 repeat' first|refine FC ?_ ?_|(refine cx rfl (fun y=>vv (LR (pL (f 5)).length y)) (OpY (f 5)) (fun y w2=>yb w2 w.heap.size (LR (pL (f 5)).length y) B (pL (f 5))) ?_ fun y hy=> ?_;exact fun w1 hS=>(hcx w1 hS.now.2 hS.now.1).mono fun _ _ ⟨y,h1,h2,h3,h4⟩=>⟨y,h1,h2,h3,h4 _⟩)|refine rs [] rfl rfl fun _=> ?_
 all_goals
  refine ro (w0:=w) 0 1 2 2 (fun _ h=>h) ?_;rcases y with _|⟨g,c⟩
  ·refine ap0 rfl rfl rfl UA (fun w2 hS=>hS.now.2.2) (r [] rfl fun _=>fin fun w2 hS=>⟨_,rfl, ?_,hS.now.2.1⟩);rw[hy.1 rfl];exact hS.now.2.2
  ·refine apr (m:=(pL (f 5)).length) (mc:=c) (ad:=⟨g,0,none⟩) (news:=(pL (f 5)).map (ptr B)) rfl rfl rfl UA (by rw[AW,Cj]) (fun w2 hS j u hu=>o_ hS.now.1.2 hu) (fun u hu=> ?_) (hy.2 (by simp)) ?_ ?_ (fun w2 hS=>hS.now.2.1.size) (fun _ _ h c=>cB h c (Nat.le_refl _)) (fun g c hc=>r [] rfl fun _=>fin fun w2 hS=>⟨_,rfl, ?_,hS.now.2.1⟩)
   ·obtain⟨o,_,rfl⟩:=Ay.1 hu;rfl
   ·unfold pL maxLen;split
    ·exact cR rfl
    ·split<;>exact cR rfl
   ·unfold pL;split
    ·exact cR rfl
    ·split<;>exact cR rfl
   ·show yb _ _ _ B _;rw[yb,Ag,AE];exact hS.now.2.2
abbrev UC(i:Nat):Value:= .agg #[.string (iX i),iV (iM i),iV (tv i)]
theorem kR(i:Nat)(w:tA):cA 37 #[UC i] w (rB (DX (jE i)) w):=by
 exact en (H:=[]) _ [vg [.o (.string (iX i)),.o (iV (iM i)),.o (iV (tv i))]] Tryz.func37 rfl rfl (m0 w) (r [] rfl fun _=>fin fun w hS=>⟨rfl,hS.now.2⟩)
abbrev aF(f:tH):Nat→Value:=fun i=>iV (f i)
theorem kY{n m:Int}{b:Bool}(h:sH n m=b)(w:tA):cA 54 #[iV n,iV m] w (rB (.bool b) w):=(JI n m w).mono fun _ _ ⟨h1,e⟩=>⟨by rw[h1,h],by rw[e];exact Bm _ _⟩
def lR(f:tH):Bool:=sH (f 1) 4&&(sH (f 2) 3&&(sH (f 4) 100000&&(sH (f 3) 1048576&&(f 0 !=2||aT (f 5) (f 6) (f 7) (f 8) (f 9) (f 10)==0))))
theorem GI(f:tH)(w:tA):cA 38 #[DX f] w (rB (.bool (lR f)) w):=by
 refine en (H:=[]) _ [vf 11 (aF f)] Tryz.func38 rfl rfl (m0 w) (r [] rfl fun _=> ?_);unfold lR;cases h1:sH (f 1) 4
 ·exact Rv.cb rfl (vv (.bool false)) (fun w _=>kY h1 w) (r [] rfl fun _=>fin fun w hS=>⟨rfl,hS.now.2⟩)
 refine Rv.cb rfl (vv (.bool true)) (fun w _=>kY h1 w) (r [] rfl fun _=> ?_);cases h2:sH (f 2) 3
 ·exact Rv.cb rfl (vv (.bool false)) (fun w _=>kY h2 w) (r [] rfl fun _=>fin fun w hS=>⟨rfl,hS.now.2⟩)
 refine Rv.cb rfl (vv (.bool true)) (fun w _=>kY h2 w) (r [] rfl fun _=> ?_);cases h3:sH (f 4) 100000
 ·exact Rv.cb rfl (vv (.bool false)) (fun w _=>kY h3 w) (r [] rfl fun _=>fin fun w hS=>⟨rfl,hS.now.2⟩)
 refine Rv.cb rfl (vv (.bool true)) (fun w _=>kY h3 w) (r [] rfl fun _=> ?_);cases h4:sH (f 3) 1048576
 ·exact Rv.cb rfl (vv (.bool false)) (fun w _=>kY h4 w) (r [] rfl fun _=>fin fun w hS=>⟨rfl,hS.now.2⟩)
 refine Rv.cb rfl (vv (.bool true)) (fun w _=>kY h4 w) ?_;by_cases h5:f 0=2
 case neg=>exact r [1] rfl fun _=>fin fun w hS=>⟨by rw[(by simpa using h5:(f 0 !=2)=true)];rfl,hS.now.2⟩
 refine r [0] rfl fun _=>Rv.cb rfl (vi (aT (f 5) (f 6) (f 7) (f 8) (f 9) (f 10))) (fun w _=>ot _ _ _ _ _ _ w) ?_;by_cases h6:aT (f 5) (f 6) (f 7) (f 8) (f 9) (f 10)=0
 ·exact r [1] rfl fun _=>fin fun w hS=>⟨by simp[h5,h6];rfl,hS.now.2⟩
 ·exact r [0] rfl fun _=>fin fun w hS=>⟨by simp only[h5];rw[(by simpa using h6:(aT (f 5) (f 6) (f 7) (f 8) (f 9) (f 10)==0)=false)];rfl,hS.now.2⟩
def qM:List Value:=[.string (iX 0),iV (iM 0),iV (tv 0),.string (iX 1),iV (iM 1),iV (tv 1),.string (iX 2),iV (iM 2),iV (tv 2),.string (iX 3),iV (iM 3),iV (tv 3),.string (iX 4),iV (iM 4),iV (tv 4),.string (iX 5),iV (iM 5),iV (tv 5),
 .string (iX 6),iV (iM 6),iV (tv 6),.string (iX 7),iV (iM 7),iV (tv 7),.string (iX 8),iV (iM 8),iV (tv 8),.string (iX 9),iV (iM 9),iV (tv 9),.string (iX 10),iV (iM 10),iV (tv 10),.string (iX 11),iV (iM 11),iV (tv 11)]
theorem Qt:qM.length=36:=rfl
def gl(w:tA):Prop:=∃e fz,w.heap[0]? =some (.cells qM.toArray e fz)
theorem gl.lt{w:tA}(h:gl w):0<w.heap.size:=by obtain⟨e,fz,h⟩:=h;exact cI h
theorem gl.next{w w':tA}(h:gl w)(b:bZ w w'):gl w':=by
 have hl:=h.lt;obtain⟨e,fz,h⟩:=h;exact⟨e,fz,(b.block 0 hl).trans h⟩
theorem ye:∀k:Nat,k<12→∀w:World,(Instr.index 128 (.agg qM.toArray) (iV k)).run Tryz.prog w= .ok (UC k) w:=by
 intro k hk w;revert k;refine yF ?_ ?_ ?_ ?_ ?_ ?_ ?_ ?_ ?_ ?_ ?_ ?_<;>(simp[Instr.index,run_underlying Tryz.underlying128,asIntOf,go_sem,qM])
theorem LS(f:tH)(w:tA)(hK:gl w):cA 35 #[DX f] w (rB (.tuple #[UC (gH (f 0) (f 5)),.bool (decide (gH (f 0) (f 5)<12))]) w):=by
 refine en (H:=[]) _ [vf 11 (aF f)] Tryz.func35 rfl rfl (m0 w) (r [] rfl fun α=>lf rfl 36 (fun i=>qM.getD i undef) (fun w hS j hj=> ?_) (r [] rfl fun _=> ?_))
 ·obtain⟨e,fz,h⟩:=hK.next hS.now.2;have hl:qM.length=36:=rfl;rw[Aj];simp only[World.cell?,h,List.getElem?_toArray];rw[Aw,Ai (hl▸hj)];rfl
 refine iD (X:=Nat) ⟨fun k=>[(1,vp 0 0 (α 0)),(2,vp 1 0 (α 1)),(6,vf 36 fun i=>qM.getD i undef),(7,vi (k:Int))],fun _=>[⟨α 0,63,[.f 11 (aF f)]⟩,⟨α 1,88,[.o (.string ⟨#[]⟩),.o (iV 0),.o (iV 0)]⟩],fun _ _=>False,fun _ _=>True,fun _ w'=>bZ w w',fun k=>k≤12∧∀j,j<k→vA j (f 0) (f 5)=false,fun k=>12-k⟩ 0 ⟨rfl,rfl,rfl,rfl,trivial⟩ (fun _ hS=>hS) ⟨Al _,fun j hj=>absurd hj (AF j)⟩ ?_;rintro f' k ⟨hk,hi⟩;have hk:k≤12:=hk;by_cases aN:k<12
 case neg=>
  obtain rfl:k=12:=by omega
  exact r [0] rfl fun _=>fin fun w hS=>⟨by rw[Qs _ _ hi];rfl,hS.now.2⟩
 have yes:vA k (f 0) (f 5)=true→Value.tuple #[UC k,.bool true]= .tuple #[UC (gH (f 0) (f 5)),.bool (decide (gH (f 0) (f 5)<12))]:=fun h=>by rw[LQ _ _ k aN hi h,As aN]
 have hd:vA k (f 0) (f 5)=(iM k==f 0&&(tv k==f 5||iM k !=2)):=rfl;refine r [1] rfl fun _=>ix (vg [.o (.string (iX k)),.o (iV (iM k)),.o (iV (tv k))]) rfl rfl (ye k aN) (r [] rfl fun _=> ?_);have next:=fun(h:vA k (f 0) (f 5)=false)=>upto hi h;by_cases g1:iM k=f 0
 case neg=>exact rz [0,1] [((k+1:Nat):Int)] rfl fun _=>bJ (k+1) ⟨rfl,rfl,rfl,rfl,trivial⟩ (fun w hS=>hS.take 2) ⟨aN,next (by rw[hd];simp[g1])⟩ (show 12-(k+1)<12-k by omega)
 by_cases g2:tv k=f 5
 ·exact r [1,1] rfl fun _=>fin fun w hS=>⟨AB Ending.returned (yes (by rw[hd];simp[g1,g2])),hS.now.2⟩
 by_cases g3:iM k=2
 ·exact rz [1,0,0,1] [((k+1:Nat):Int)] rfl fun _=>bJ (k+1) ⟨rfl,rfl,rfl,rfl,trivial⟩ (fun w hS=>hS.take 2) ⟨aN,next (by rw[hd];simp[g2,g3])⟩ (show 12-(k+1)<12-k by omega)
 ·exact r [1,0,1] rfl fun _=>fin fun w hS=>⟨AB Ending.returned (yes (by rw[hd];simp[g1,g1▸g3])),hS.now.2⟩
theorem yb.at{w:tA}{base:Nat}{v:tK}{B:Nat}{os:tW}(h:yb w base v B os)(k:Nat)(hk:k<os.length):∃G c,v= .slice (some ⟨G,0,none⟩) os.length c∧base≤G∧G<w.heap.size∧w.cell? ⟨G,k,none⟩=some (ptr B os[k])∧os.length≤c:=by
 obtain⟨hl,h2⟩:=id h;rcases h2 with⟨_,h0⟩|⟨G,c,cur,rfl,hb,hg,hc,_,_,_⟩
 ·omega
 ·refine⟨G,c,rfl,hb,cI hg, ?_,hc⟩;rw[h.cellAt k (by omega),Ax,Ai hk];rfl
theorem Qu{os:tW}{g f:tH}{k:Nat}(hk:k<os.length):∀i,Qq (over (os.take k) g f) os[k] (f os[k]) i=over (os.take (k+1)) g f i:=by
 intro i;have e:(i∈os.take (k+1))=(i∈os.take k∨i=os[k]):=by
  rw[show os.take (k+1)=os.take k++[os[k]] by rw[Ch,Ai hk];rfl];simp only[List.mem_append,List.mem_singleton]
 unfold Qq over;simp only[e];by_cases g:i=os[k]
 ·subst g;simp
 ·simp[g]
theorem Qv{os:tW}{f:tH}{k:Nat}(hk:k<os.length):∀i,Qq (less (os.take k) f) os[k] 0 i=less (os.take (k+1)) f i:=by
 intro i;have e:(i∈os.take (k+1))=(i∈os.take k∨i=os[k]):=by
  rw[show os.take (k+1)=os.take k++[os[k]] by rw[Ch,Ai hk];rfl];simp only[List.mem_append,List.mem_singleton]
 unfold Qq less;simp only[e];by_cases g:i=os[k]
 ·subst g;simp
 ·simp[g]
theorem X2{os:tW}{f:tH}{k:Nat}(hn:os.Nodup)(hk:k<os.length):less (os.take k) f os[k]=f os[k]:=by
 unfold less;rw[Aa];intro h;obtain⟨j,hj,e⟩:=List.mem_take_iff_getElem.1 h;have Sf:j<os.length:=by omega
 have:=(BD.1 hn) j k Sf hk (by omega);exact this e
def PrY(w:tA)(a:tB)(B:Nat)(os:tW):Prop:=∀k (hk:k<os.length),∀G,a=some ⟨G,0,none⟩→w.cell? ⟨G,k,none⟩=some (ptr B os[k])
theorem UD{w w':tA}{U:tF}{v:tK}{x:Ending}{B:Nat}{os:tW}(h:yb w' w.heap.size v B os)(e:x= .returned v)(b:bZ w w'):∃y:Option Addr×Nat,x= .returned (.slice y.1 os.length y.2)∧bZ w w'∧(0<os.length→∃G,y.1=some ⟨G,0,none⟩)∧((∀b,U b→b<w.heap.size)→cm U w' fun w=>PrY w y.1 B os):=by
 obtain⟨a,c,rfl⟩:=mI h;refine⟨(a,c),e,b,fun h0=> ?_,fun hU w2 c2 k hk G eG=> ?_⟩
 ·obtain⟨G,c',e,_⟩:=yb.at h 0 h0;cases e;exact⟨G,rfl⟩
 ·obtain⟨G',c',e,hb,hl,hc,_⟩:=yb.at h k hk;cases e;cases eG;rw[←hc];simp only[World.cell?,c2.block G hl fun hu=>absurd (hU G hu) (Nat.not_lt.2 hb)]
theorem UE(f g:tH)(os:tW)(w:tA)(hf:gJ (f 0) (f 5)=os)(hg:gJ (g 0) (g 5)=os):
  cA 36 #[DX f,DX g] w (rB (.tuple #[DX (over os g f),DX (less os f)]) w):=by
 have hlen:os.length≤5:=by rw[←hf];exact Uz _ _
 have hos:os.Nodup∧∀x∈os,x<11:=by rw[←hf];exact⟨LO _ _,XZ _ _⟩
 have on:∀h:Nat→Int,aW (aF h) 11:=fun _ _ _=>rfl;have of:=on f;have og:=on g;obtain⟨h,eh⟩:∃h:Nat→Nat→Int,h=fun k=>over (os.take k) g f:=⟨_,rfl⟩;obtain⟨l,el⟩:∃l:Nat→Nat→Int,l=fun k=>less (os.take k) f:=⟨_,rfl⟩;have h0:h 0=g:=by rw[eh];funext i;simp[over]
 have l0:l 0=f:=by rw[el];funext i;simp[less]
 refine en (H:=[]) _ [vf 11 (aF f),vf 11 (aF g)] Tryz.func36 rfl rfl (m0 w) (r [5,2,2] rfl fun α=> ?_);refine cx rfl (fun y:Option Addr×Nat=>vv (.slice y.1 os.length y.2)) (fun y=>0<os.length→∃G,y.1=some ⟨G,0,none⟩) (fun y w=>PrY w y.1 (α 2) os) (fun w1 hS=>(jz (α 2) g w1 (hS.at 2 rfl)).mono fun _ _ ⟨_,e,p,b⟩=>UD (hg▸p) e b) ?_;rintro⟨a1,c1⟩ q1;refine r [] rfl fun _=>cx rfl (fun y:Option Addr×Nat=>vv (.slice y.1 os.length y.2)) (fun y=>0<os.length→∃G,y.1=some ⟨G,0,none⟩) (fun y w=>PrY w y.1 (α 3) os) (fun w1 hS=>(jz (α 3) f w1 (hS.at 3 rfl)).mono fun _ _ ⟨_,e,p,b⟩=>UD (hf▸p) e b) ?_;rintro⟨a2,c2⟩ q2;refine r [] rfl fun _=>gn 2 (aF (h 0)) (gn 3 (aF (l 0)) ?_ rfl (by rw[l0];rfl)) rfl (by rw[h0];rfl);refine uD (X:=Nat) (fun k=>[(4,vp 2 0 (α 2)),(5,vp 3 0 (α 3)),(6,vv (.slice a1 os.length c1)),(12,vv (.slice a2 os.length c2)),(13,vi (os.length:Int)),(14,vi (k:Int))]) (fun k=>[⟨α 0,63,[.f 11 (aF f)]⟩,⟨α 1,63,[.f 11 (aF g)]⟩,⟨α 2,63,[.f 11 (aF (h k))]⟩,⟨α 3,63,[.f 11 (aF (l k))]⟩]) (fun _ _=>False) (fun _ w'=>bZ w w') (fun k=>k≤os.length) (fun k=>os.length-k) 0 ⟨rfl,rfl,rfl,rfl,rfl,rfl,trivial⟩ (fun _ hS=>hS) (Al _) ?_;rintro f' k hk;have hk:k≤os.length:=hk;have o1:=on (h k);have o2:=on (l k);by_cases aN:k<os.length
 case neg=>
  obtain rfl:k=os.length:=by omega
  exact r [0,5,2,2] rfl fun _=>fin fun w hS=>⟨by rw[show over os g f=h os.length by rw[eh];show _=over (os.take os.length) g f;rw[BC],show less os f=l os.length by rw[el];show _=less (os.take os.length) f;rw[BC]];rfl,hS.now.2⟩
 obtain⟨G1,rfl⟩:=q1 (by omega);obtain⟨G2,rfl⟩:=q2 (by omega);have hx:=hos.2 _ (BE aN);have a1:∀i,oX (aF (h k)) os[k] (iV (f os[k])) i=aF (h (k+1)) i:=fun i=>by rw[eh];show _=iV (over (os.take (k+1)) g f i);rw[←Qu aN i];unfold oX Qq aF;split<;>rfl
 have a2:∀i,oX (aF (l k)) os[k] (iV 0) i=aF (l (k+1)) i:=fun i=>by rw[el];show _=iV (less (os.take (k+1)) f i);rw[←Qv aN i];unfold oX Qq aF;split<;>rfl
 have la:aF (l k) os[k]=iV (f os[k]):=by rw[el];exact AB (Value.int .i64) (X2 hos.1 aN)
 refine r [1] rfl fun _=>l1 (q:=0+k*1) rfl (ptr (α 3) os[k]) (fun w hS=>by rw[Aj,Cj];exact hS.now.1.2 k aN G2 rfl) (r [1] rfl fun _=>l1 (q:=0+k*1) rfl (ptr (α 2) os[k]) (fun w hS=>by rw[Aj,Cj];exact hS.now.1.1.2 k aN G1 rfl) ?_);refine r [] rfl fun _=>lo1 rfl rfl 3 rfl (iV (f os[k])) la (r [] rfl fun _=> ?_) hx;refine so1 rfl 2 rfl (aF (h (k+1))) hx a1 (r [] rfl fun _=>so1 rfl 3 rfl (aF (l (k+1))) hx a2 (rz [1] [((k+1:Nat):Int)] rfl fun _=> ?_));exact bJ (k+1) ⟨rfl,rfl,rfl,rfl,rfl,rfl,trivial⟩ (fun _ hS=>hS) aN (show os.length-(k+1)<os.length-k by omega)
end Lq
namespace Lq
def Vu(f g:tH):Bool:=decide (f 0=g 0∧f 1=g 1∧f 2=g 2∧f 3=g 3∧f 4=g 4∧f 5=g 5∧f 6=g 6∧f 7=g 7∧f 8=g 8∧f 9=g 9∧f 10=g 10)
theorem GJ{f g:tH}:Vu f g=true↔∀i,i<11→f i=g i:=by
 unfold Vu;rw[decide_eq_true_eq];constructor
 ·rintro⟨h0,h1,h2,h3,h4,h5,h6,h7,h8,h9,xP⟩;exact GH h0 h1 h2 h3 h4 h5 h6 h7 h8 h9 xP
 ·intro h;exact⟨h 0 (by omega),h 1 (by omega),h 2 (by omega),h 3 (by omega),h 4 (by omega),h 5 (by omega),h 6 (by omega),h 7 (by omega),h 8 (by omega),h 9 (by omega),h 10 (by omega)⟩
theorem CP(f g:tH)(w:tA):(Op.equalIn 10000 63 (DX f) (DX g)).run Tryz.prog w= .ok (Vu f g) w:=by
 rw[run_equalIn_agg (P:=Tryz.prog) w 9999 63 _ _ Tryz.underlying63 (by kernel_rfl)];unfold Vu;by_cases h0:f 0=g 0
 case neg=>simp[go_sem,h0]
 by_cases h1:f 1=g 1
 case neg=>simp[go_sem,h0,h1]
 by_cases h2:f 2=g 2
 case neg=>simp[go_sem,h0,h1,h2]
 by_cases h3:f 3=g 3
 case neg=>simp[go_sem,h0,h1,h2,h3]
 by_cases h4:f 4=g 4
 case neg=>simp[go_sem,h0,h1,h2,h3,h4]
 by_cases h5:f 5=g 5
 case neg=>simp[go_sem,h0,h1,h2,h3,h4,h5]
 by_cases h6:f 6=g 6
 case neg=>simp[go_sem,h0,h1,h2,h3,h4,h5,h6]
 by_cases h7:f 7=g 7
 case neg=>simp[go_sem,h0,h1,h2,h3,h4,h5,h6,h7]
 by_cases h8:f 8=g 8
 case neg=>simp[go_sem,h0,h1,h2,h3,h4,h5,h6,h7,h8]
 by_cases h9:f 9=g 9
 case neg=>simp[go_sem,h0,h1,h2,h3,h4,h5,h6,h7,h8,h9]
 by_cases xP:f 10=g 10
 case neg=>simp[go_sem,h0,h1,h2,h3,h4,h5,h6,h7,h8,h9,xP]
 simp[go_sem,h0,h1,h2,h3,h4,h5,h6,h7,h8,h9,xP]
def fQ(f:tH):Int:=
 if gH (f 0) (f 5)<12 then(if lR (over (gJ (f 0) (f 5)) (jE (gH (f 0) (f 5))) f)=true then(if Vu (less (gJ (f 0) (f 5)) f) (jE (gH (f 0) (f 5)))=true then 0 else 3)else 2)else 3
theorem Qw{f:tH}(h:gH (f 0) (f 5)<12):gJ (jE (gH (f 0) (f 5)) 0) (jE (gH (f 0) (f 5)) 5)=gJ (f 0) (f 5):=by
 obtain⟨h1,h2,h3⟩:=X0 _ _ h;have e0:jE (gH (f 0) (f 5)) 0=f 0:=h1;have e5:jE (gH (f 0) (f 5)) 5=tv (gH (f 0) (f 5)):=rfl;rw[e0,e5];by_cases e:f 0=2
 ·rw[h2 e]
 ·exact LP e
end Lq
end Go.Proofs.YtpgkjpomaffbmaaGreatDoor
