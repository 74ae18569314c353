/- Out of my texts: CwR, CwS, CwU, CwV, CwW, CwT, CwX, CwY, CwZ, CxA, CxB, CxC, CxD, CxE, CxF, CxG, CxH, CxI, CxJ, CxK, CxL, CxM, CxN, CxO, CxP, CxQ, KtZ, CxR, CyA, CyB, CyC, CyD, CyE, CyF, LqA, LqB, LqC, LqD, LqE, LqF, LqG, LqI, LqH, LqM, LqN. -/
import Derived.BigRegion
import Derived.Deep.DeepCutAuto
import Derived.Laws.OwnMore
import Derived.RegionTactic
import Derived.Test.YtmhifeahpnkpiaaGreatDoorUAA
import Derived.Test.YtmhifeahpnkpiaaGreatDoorUAB
import Derived.Test.YtmhifeahpnkpiaaGreatDoorUAC
import Derived.Test.YtmhifeahpnkpiaaGreatDoorUAD
set_option maxRecDepth 20000
set_option maxHeartbeats 8000000
set_option linter.unusedVariables false
namespace Go.Proofs.YtmhifeahpnkpiaaGreatDoor
open Go.RowKit
abbrev Bz:= @Int.toNat_of_nonneg
abbrev BC:= @Nat.mul_one
abbrev BK:= @List.take_take
abbrev Ci:= @List.mem_of_mem_eraseIdx
section
open Rv
theorem S3(X N:Nat)(u:Nv)(q:Nat)(hq:q<4)(w:tA)(hN:NB w X N u)(ok:(u.m q).B.Ok)(kY:aS (u.m q).g 41):cA 181 #[lp N,iV (q:Int)] w fun x w'=>∃s,x= .returned s∧((fL u.pure q=[]∧s= .slice none 0 0)∨∃R,0<(fL u.pure q).length∧s= .slice (some ⟨R,0,none⟩) (fL u.pure q).length (fL u.pure q).length∧w.heap.size≤R∧u9 w' R (fL u.pure q))∧bZ w w':=by
 have gI:=jK ok.cO;have ho:aS (je (u.m q)) 47:=aag kY;have ui:∀{w1},NB w1 X N u→w1.cell? ⟨N,1,none⟩=some (iV (u.i:Int)):=fun h=>h.at 1 (cK rfl);refine en (H:=[]) 82 [vv (lp N),vi (q:Int)] Tryz.func181 rfl rfl (oE (U:=fun _=>False) (G:=fun w=>NB w X N u) (fun _ h=>h.elim) fun w2 c=>hN.next (c.below (Aa _) fun _ _ h=>h)) ?_;refine r [] rfl fun _=>lf rfl 47 (je (u.m q)) (fun w hS j hj=>(hS.now.1.at (5+q*47+j) (by omega)).trans (Au some (nG hq hj))) (sv 13 (vg (pD (u.m q).B (u.m q).a (u.m q).c (u.m q).g)) rfl (r [1] rfl fun _=>l1 rfl (iV (u.i:Int)) (fun w hS=>ui hS.now.1) ?_));refine rz [1] [(u.m q).B.e+1] rfl fun _=> ?_;by_cases h2:(u.m q).B.r=2
 ·rw[show fL u.pure q=[IA u.i (u.m q).B q] from if_pos h2];exact r [1] rfl fun β=>fin fun w hS=>⟨_,rfl,.inr ⟨β 0,Nat.succ_pos _,rfl,hS.jC 2 rfl,u9.one (hS.at 2 rfl)⟩,hS.now.2⟩
 by_cases h3:(u.m q).B.r=3
 ·rw[show fL u.pure q=[IA u.i (u.m q).B q,SI u.i q] from(if_neg h2).trans (if_pos h3)];exact r [0,1,1] rfl fun _=>l1 rfl (iV (u.i:Int)) (fun w hS=>ui hS.now.1) (r [] rfl fun β=>fin fun w hS=>⟨_,rfl,.inr ⟨β 0,Nat.succ_pos _,rfl,hS.jC 2 rfl,u9.two (hS.at 2 rfl)⟩,hS.now.2⟩)
 by_cases h1:(u.m q).B.r=1
 case neg=>
  rw[show fL u.pure q=[] from(if_neg h2).trans ((if_neg h3).trans (if_neg (fun k=>h1 k.1)))];exact r [0,0,1,0] rfl fun _=>fin fun w hS=>⟨.slice none 0 0,rfl,.inl ⟨rfl,rfl⟩,hS.now.2⟩
 by_cases he:1<(u.m q).B.e
 case neg=>
  rw[show fL u.pure q=[] from(if_neg h2).trans ((if_neg h3).trans (if_neg (fun k=>he k.2.1)))];exact r [0,0,1,1,0] rfl fun _=>fin fun w hS=>⟨.slice none 0 0,rfl,.inl ⟨rfl,rfl⟩,hS.now.2⟩
 refine r [0,0,1,1,1] rfl fun _=>l1 rfl (iV (u.he q)) (fun w hS=>(hS.now.1.at (193+q*2+1) (by omega)).trans (Au some (MF hq))) ?_;by_cases hh:u.he q<(u.m q).B.e
 ·rw[show fL u.pure q=[KM u.i (u.m q).B q] from(if_neg h2).trans ((if_neg h3).trans (if_pos ⟨h1,he,hh⟩))];exact r [1,1] rfl fun _=>l1 rfl (iV (u.i:Int)) (fun w hS=>ui hS.now.1) (r [] rfl fun β=>fin fun w hS=>⟨_,rfl,.inr ⟨β 0,Nat.succ_pos _,rfl,hS.jC 2 rfl,u9.one (hS.at 2 rfl)⟩,hS.now.2⟩)
 ·rw[show fL u.pure q=[] from(if_neg h2).trans ((if_neg h3).trans (if_neg (fun k=>hh k.2.2)))];exact r [0] rfl fun _=>fin fun w hS=>⟨.slice none 0 0,rfl,.inl ⟨rfl,rfl⟩,hS.now.2⟩
theorem WJ(n:Nd)(q:Nat):(fL n q).length≤2:=by
 unfold fL;split
 ·exact cK rfl
 ·split
  ·exact cK rfl
  ·split
   ·exact cK rfl
   ·exact cK rfl
theorem aab(n:Nd)(q:Nat):∀l∈fL n q,l.es=[]:=by
 intro l hl;unfold fL at hl;split at hl
 ·rw[Ab.1 hl]
 ·split at hl
  ·rcases BQ.1 hl with rfl|hl
   ·rfl
   ·rw[Ab.1 hl]
  ·split at hl
   ·rw[Ab.1 hl]
   ·cases hl
theorem S4{U:tF}{w:tA}{R:Nat}{ls:List Lt}(h:u9 w R ls)(hU:∀b,U b→b≠R):bV U w fun w=>u9 w R ls:=fun w2 c2=>⟨fun k l hk j hj=>by
 have hc:=h.cell k l hk j hj;have aM:R<w.heap.size:=by
  rcases AA R w.heap.size with h'|h'
  ·exact h'
  ·simp[World.cell?,Array.getElem?_eq_none h']at hc
 rw[c2.cell aM fun hu=>hU R hu rfl,hc]⟩
theorem nP{α:Type}{l:List α}{k:Nat}{x:α}(h:l[k]? =some x):l.take (k+1)=l.take k++[x]:=by
 rw[Cc,h];rfl
section
variable{u:Nv}{v:Wv}{t k:Nat}
theorem WK(hk:k<4)(h:fL u.pure t=[]):eX (4-k) ({u with tu:=t}:Nv).pure v.pure=eX (4-(k+1)) ({u with tu:=(t+1) % 4}:Nv).pure v.pure:=by
 obtain⟨m,hm⟩:∃m,4-k=m+1:=⟨4-k-1,by omega⟩;rw[hm,show 4-(k+1)=m by omega,eX,if_pos];show(fL u.pure t).length=0;rw[h];rfl
theorem S5{ls:List Lt}(hk:k<4)(h:0<(fL u.pure t).length)(e:ls=fL u.pure t):eX (4-k) ({u with tu:=t}:Nv).pure v.pure=(({u with tu:=(t+1) % 4}:Nv).pure,{v.pure with fl:=v.pure.fl++ls}):=by
 obtain⟨m,hm⟩:∃m,4-k=m+1:=⟨4-k-1,by omega⟩;rw[hm,eX,if_neg,e]
 ·rfl
 ·show ¬(fL u.pure t).length=0;omega
end
namespace Rv
section
variable{n:Nat}{ops:tP}{f:Nat→AV}{fn:Func}{Rr:Ending→World→Prop}{M:tF}{Φ R:tJ}{H:List En}{ks:List Fr}{t:Ord}{i d:Nat}{md:Md}
def rmA(n:Nat)(ops:tP)(f:Nat→AV)(i:Nat):Option (Nat×AV×AV):=match ops[i]? with
 |some o=>match o.dst,rP n ops f o,o.op with
  |some d,some true,.binOp .rem _ x y _=>some (d,ea f x,ea f y)
  |_,_,_=>none
 |none=>none
theorem rm{x y:AV}{a b:Int}(c:Int)(e:rmA n ops f i=some (d,x,y))(hb:¬b=0)(hc:a.tmod b=c)(hn:G Tryz.prog fn Rr n M Φ R (.g md ops t::ks) (ua f d (vi c)) H)(hx:x.val=iV a:=by rfl)(hy:y.val=iV b:=by rfl):G Tryz.prog fn Rr n M Φ R (.g md ops (.pu i t)::ks) f H:=by
 intro w hS hK;obtain⟨hK1,il⟩:=bn.1 hK;have hn:=hn w hS (bn.2 ⟨hK1,il⟩);show WF Tryz.prog ops (kq Tryz.prog fn Rr ks) md.va (oD md ops) (uv md ops) (.pu i t) n (cn f) w;unfold rmA at e;split at e
 ·rename_i o ho;split at e
  ·rename_i d' s' p q s2 hd hw hp;simp only[Option.some.injEq,Prod.mk.injEq]at e;obtain⟨rfl,rfl,rfl⟩:=e;exact acG hb hc ho hd (fC hw) (dI hK1).1 hp ((bz f p).symm.trans hx) ((bz f q).symm.trans hy) (by rw[show iV c=(vi c).val from rfl,←jz];exact hn)
  ·cases e
 ·cases e
end
end Rv
theorem WL(X N:Nat)(u:Nv)(v:Wv)(F U:tF)(w:tA)(hw:NW w X N u v F U)(Qs:u.tu<4)(hlen:v.fl.length≤1000000000000-4):cA 135 #[lp N] w fun x w'=>x= .returned (.tuple #[])∧∃u' v' F',Dn w X N u v F U (eX 4 u.pure v.pure) u' v' F' w':=by
 have hqs:∀q,q<4→aS (u.m q).g 41:=fun q hq=>(hw.st.now.1.mo q hq).one;refine en (H:=[nE X N u]) _ [vp 0 0 N] Tryz.func135 rfl rfl (hw.init (G:=fun w=>True) (fun _ _=>trivial)) (r [] rfl fun _=> ?_);refine iC (X:=Nat×Nat) ⟨fun x=>[(0,vp 0 0 N),(6,vi (x.1:Int))],fun x=>[nE X N {u with tu:=x.2}],fun _ b=>F b∨(U b∧b≠N),fun _ w=>(u.In w N∧∀r∈v.fl,nI w r)∧True,fun _=>RW X (fun b=>b∈[N]) F w v F,fun x=>x.1≤4∧x.2<4∧eX (4-x.1) ({u with tu:=x.2}:Nv).pure v.pure=eX 4 u.pure v.pure,fun x=>4-x.1⟩ (0,u.tu) ⟨rfl,rfl,trivial⟩ (fun w hS=>hS) ⟨Ak _,Qs,rfl⟩ ?_;rintro f ⟨k,t⟩ ⟨hk,ht,S6⟩;have hk:k≤4:=hk;have ht:t<4:=ht;have S6:eX (4-k) ({u with tu:=t}:Nv).pure v.pure=eX 4 u.pure v.pure:=S6;by_cases aM:k<4
 case neg=>
  obtain rfl:k=4:=by omega
  exact r [0] rfl fun _=>dh rfl fun w hS=>⟨rfl,({u with tu:=t}:Nv),v,F,Dn.fin (u:=u) hS hw.ub hw.nu (fun _ h=>⟨⟨h.1.1.row,h.1.1.mo,h.1.1.af,h.1.1.wl⟩,h.1.2⟩) ⟨hw.ok.ok,hw.ok.nil,hw.ok.cap,hw.ok.max,hw.ok.len,hw.ok.s0,hw.ok.s1,hw.ok.i5,hw.ok.SJ⟩ rfl rfl rfl rfl rfl (by rw[←S6];rfl) (by rw[←S6];rfl)⟩
 refine rz [1,1] [((t+1:Nat):Int)] rfl fun _=>rm (a:=((t+1:Nat):Int)) (b:=4) (((t+1) % 4:Nat):Int) rfl (by decide) (by obtain rfl|rfl|rfl|rfl:t=0∨t=1∨t=2∨t=3:=(by omega)<;>rfl) (r [] rfl fun _=>gn 0 (lU X {u with tu:=(t+1) % 4}) ?_)
 obtain⟨ls,els⟩:∃ls,ls=fL u.pure t:=⟨_,rfl⟩;have own:∀w1,aY w1 N 126 206 (lU X {u with tu:=(t+1) % 4})→cA 181 #[lp N,iV (t:Int)] w1 fun x w'=>∃s,x= .returned s∧((ls=[]∧s= .slice none 0 0)∨∃R,0<ls.length∧s= .slice (some ⟨R,0,none⟩) ls.length ls.length∧w1.heap.size≤R∧u9 w' R ls)∧bZ w1 w':=fun w1 hN=>by
  rw[els];exact S3 X N ({u with tu:=(t+1) % 4}:Nv) t ht w1 hN (hw.ok.ok t ht) (hqs t ht)
 by_cases h0:ls=[]
 ·refine Rv.cb rfl (vv (.slice none 0 0)) (fun w1 hS=>(own w1 (hS.at 0 rfl)).mono fun x w' ⟨s,h1,h2,b⟩=> ?_) (rz [0,1] [((k+1:Nat):Int)] rfl fun _=> ?_)
  ·rcases h2 with⟨_,rfl⟩|⟨_,h,_⟩
   ·exact⟨h1,b⟩
   ·rw[h0]at h;cases h
  ·exact b_ (k+1,(t+1) % 4) ⟨rfl,rfl,trivial⟩ (fun w hS=>hS) ⟨(show k+1≤4 by omega),Nat.mod_lt _ (by decide),(WK aM (els▸h0)).symm.trans S6⟩ (show 4-(k+1)<4-k by omega)
 have acH:0<ls.length:=List.length_pos_iff.2 h0;refine cx rfl (fun R:Nat=>vv (.slice (some ⟨R,0,none⟩) ls.length ls.length)) (fun _=>True) (fun R w=>u9 w R ls) (fun w1 hS=>(own w1 (hS.at 0 rfl)).mono fun x w' ⟨s,h1,h2,b⟩=> ?_) fun R8 _=> ?_
 ·rcases h2 with⟨h,_⟩|⟨R,_,rfl,hR,db⟩
  ·exact absurd h h0
  ·exact⟨R,h1,b,trivial,fun hU=>S4 db fun b hb e=>absurd (hU b hb) (by rw[e];exact AY.2 hR)⟩
 refine r [1] rfl fun _=>iC (X:=Nat×Wv×(Nat→Prop)) ⟨fun x=>[(0,vp 0 0 N),(26,vv (.slice (some ⟨R8,0,none⟩) ls.length ls.length)),(27,vi (ls.length:Int)),(28,vi (x.1:Int))],fun x=>[nE X N {u with tu:=(t+1) % 4}],fun x b=>x.2.2 b∨(U b∧b≠N),fun x w=>(u.In w N∧∀r∈x.2.1.fl,nI w r)∧u9 w R8 ls,fun x=>RW X (fun b=>b∈[N]) F w x.2.1 x.2.2,fun x=>x.1≤ls.length∧x.2.1.pure={v.pure with fl:=v.pure.fl++ls.take x.1}∧x.2.1.nd=v.nd∧x.2.1.tk=v.tk∧x.2.1.dd=v.dd∧x.2.1.fl.length=v.fl.length+x.1,fun x=>ls.length-x.1⟩ (0,v,F) ⟨rfl,rfl,rfl,rfl,trivial⟩ (fun w hS=>hS.said fun _ h=>⟨h.1.1,h.2⟩) ⟨Ak _,by simp,rfl,rfl,rfl,rfl⟩ ?_;rintro f ⟨j,v2,F2⟩ ⟨hj,hv2,e3,e4,e5,vS⟩;have hj:j≤ls.length:=hj;have vS:v2.fl.length=v.fl.length+j:=vS;have ahm:ls.length≤2:=els▸WJ _ _;by_cases hlt2:j<ls.length
 case neg=>
  obtain rfl:j=ls.length:=by omega
  have hpp:=(S5 (v:=v) aM (els▸acH) els).symm.trans S6;exact r [0] rfl fun _=>fin fun w hS=>⟨rfl,({u with tu:=((t+1) % 4)}:Nv),v2,F2,Dn.fin (u:=u) hS hw.ub hw.nu (fun _ h=>⟨⟨h.1.1.row,h.1.1.mo,h.1.1.af,h.1.1.wl⟩,h.1.2⟩) ⟨hw.ok.ok,hw.ok.nil,hw.ok.cap,hw.ok.max,hw.ok.len,hw.ok.s0,hw.ok.s1,hw.ok.i5,hw.ok.SJ⟩ rfl rfl e3 e4 e5 (by rw[←hpp]) (by rw[←hpp];exact hv2.trans (by rw[Bh]))⟩
 obtain⟨l2,VM⟩:∃l2,ls[j]? =some l2:=⟨ls[j],Ag hlt2⟩;have hs2:l2.es=[]:=aab _ _ l2 (els▸Ap VM);refine r [1] rfl fun _=>lf (q:=0+j*21) rfl 21 (lF (ME l2 none 0)) (fun w hS i hi=>by rw[Ae];exact hS.now.1.2.cell j l2 VM i hi) (r [1] rfl fun β=> ?_);refine cw rfl (vt []) _ _ (fun w hS=>qI X v2 F2 _ w l2 none 0 (lF (ME l2 none 0)) rfl hS.now.2.wo hS.ult (fun b h=> .inr (.inl h)) (fun _ _=>by rw[hs2];exact RowK.nil _ _ _) (by rw[hs2];exact Aa _) (fun _=>rfl) (by omega)) fun P1 F1=> ?_;refine rz [1] [((j+1:Nat):Int)] rfl fun _=>b_ (j+1,_,F1) ⟨rfl,rfl,rfl,rfl,trivial⟩ (fun w hS=>(hS.take 1).said fun _ h=>⟨⟨h.1.1.1,f_ h.1.1.2 h.2⟩,h.1.2⟩) ⟨(show j+1≤ls.length by omega), ?_,e3,e4,e5, ?_⟩ (show ls.length-(j+1)<ls.length-j by omega)
 ·show({v2 with fl:=v2.fl++[⟨P1,l2,none,0⟩]}:Wv).pure={v.pure with fl:=v.pure.fl++ls.take (j+1)};rw[kg,show v2.pure=_ from hv2,nP VM];simp only[fZ,List.append_assoc]
 ·show(v2.fl++[_]).length=v.fl.length+(j+1);rw[Ac,vS];rfl
end
theorem acI{hd tl:tM}{mo:tT}{hn he:tH}{wt af v:tK}{tu:Int}(i:Nat):ot (kF hd (gh mo hn he wt af tu) tl) 201 v i=kF hd (gh mo hn he v af tu) tl i:=by
 by_cases hi:i=201
 ·subst hi;rfl
 ·rw[pI _ _ _ _ hi];unfold kF;by_cases h5:i<5
  ·rw[if_pos h5,if_pos h5]
  ·rw[if_neg h5,if_neg h5];by_cases h6:i<204
   ·rw[if_pos h6,if_pos h6];unfold gh;by_cases h7:i-5<188
    ·rw[if_pos h7,if_pos h7]
    ·rw[if_neg h7,if_neg h7];by_cases h8:i-5<196
     ·rw[if_pos h8,if_pos h8]
     ·rw[if_neg h8,if_neg h8];obtain rfl|rfl:i=202∨i=203:=by omega
      ·rfl
      ·rfl
   ·rw[if_neg h6,if_neg h6]
structure ft(w:tA)(B:Nat)(s:tK)(ls:List Lr):Prop where
 ex:∃a c,s= .slice a ls.length c∧ls.length≤c∧c≤maxLen∧((a=none∧c=0)∨∃o n f,a=some ⟨B,o,none⟩∧aY w B 171 n f∧o+c≤n∧∀k r,ls[k]? =some r→f (o+k)=lp r.p)
theorem ft.nil{w:tA}{B:Nat}{s:tK}(h:ft w B s []):∃a c,s= .slice a 0 c:=by
 obtain⟨a,c,h,_⟩:=h.ex;exact⟨a,c,h⟩
theorem ft.cons{w:tA}{B:Nat}{s:tK}{r:Lr}{ls:List Lr}(h:ft w B s (r::ls)):∃o c,s= .slice (some ⟨B,o,none⟩) (ls.length+1) c∧ls.length+1≤c:=by
 obtain⟨a,c,h,hc,_,⟨rfl,rfl⟩|⟨o,n,f,rfl,_⟩⟩:=h.ex
 ·simp at hc
 ·exact⟨o,c,h,hc⟩
theorem ft.head{w:tA}{b o c:Nat}{r:Lr}{ls:List Lr}(h:ft w b (.slice (some ⟨b,o,none⟩) (ls.length+1) c) (r::ls)):w.cell? ⟨b,o,none⟩=some (lp r.p):=by
 obtain⟨a,c',he,hc,_,⟨rfl,rfl⟩|⟨o',n,f,rfl,fb,hn,hk⟩⟩:=h.ex
 ·simp at hc
 ·cases he;rw[←hk 0 r rfl];exact fb.at o (by simp at hc;omega)
theorem ft.tail{w:tA}{b o c:Nat}{r:Lr}{ls:List Lr}(h:ft w b (.slice (some ⟨b,o,none⟩) (ls.length+1) c) (r::ls)):ft w b (.slice (gM (some ⟨b,o,none⟩) 1 1 c) (ls.length+1-1) (c-1)) ls:=by
 obtain⟨a,c',he,hc,hm,⟨rfl,rfl⟩|⟨o',n,f,rfl,fb,hn,hk⟩⟩:=h.ex
 ·simp at hc
 ·cases he;simp only[List.length_cons]at hc;refine⟨gM (some ⟨b,o,none⟩) 1 1 c,c-1,rfl,by omega,by omega,.inr ?_⟩;by_cases h1:1<c
  ·refine⟨o+1,n,f, ?_,fb,by omega,fun k r' hr=>by rw[show o+1+k=o+(k+1) by omega];exact hk (k+1) r' (by simpa using hr)⟩;unfold gM;rw[if_neg (by omega)];simp[Addr.add_mid]
  ·have CH:ls=[]:=AU.1 (by omega);refine⟨o,n,f, ?_,fb,by omega,fun k r' hr=>by rw[CH]at hr;simp at hr⟩;unfold gM;rw[if_pos (by omega)]
def II(k:Int):Option Nat:=if k=0 then some 67 else if k=2 then some 68 else if k=3 then some 69 else if k=4 then some 70 else if k=7 then some 71 else none
def wD(w:tA)(dd:tK):Prop:=∀k g,II k=some g→(Instr.lookup 107 dd (iV k) false).run Tryz.prog w= .ok (.func (.func g) #[] #[]) w
structure mD(l:Lt):Prop where
 q:l.q<4
 kd:l.kd=0∨l.kd=2∨l.kd=3∨l.kd=4∨l.kd=7
 op:∀x∈aX l.op,(Lit.int .i64 x).wf=true
 es:l.es.length≤2000
noncomputable def cJ(n:Nd)(s:Ws)(l:Lt):Nd×Ws:=
 if l.kd=0 then gy n s l else if l.kd=2 then jL n s l else if l.kd=3 then h_ n s l else if l.kd=4 then takeN n s l else jM n s l
noncomputable def dX:Nat→Nd→Ws→Nd×Ws
 |0,n,s=>eX 4 n s
 |k+1,n,s=>match n.wt with
  |[]=>eX 4 n s
  |l::ls=>if(cJ {n with wt:=ls} s l).1.af.isSome then cJ {n with wt:=ls} s l else dX k (cJ {n with wt:=ls} s l).1 (cJ {n with wt:=ls} s l).2
def S7(g:Nat)(l:Lt):Prop:=Rv.iO Tryz.prog g=true∧∀(X N:Nat) (u:Nv) (v:Wv) (F U:tF) (w:tA) (P:Nat) (a:tB) (c:Nat),NW w X N u v F U→bV U w (fun w=>eH w P l a c)→v.fl.length≤1000000000000→v.sv.length≤1000000000000→cA g #[lp N,lp P] w fun x w'=>x= .returned (.tuple #[])∧∃u' v' F',Dn w X N u v F U (cJ u.pure v.pure l) u' v' F' w'
section
variable{w w':tA}{X N:Nat}{u u':Nv}{v v':Wv}{F F' U:tF}{H':List bU}{G:tJ}
theorem NW.fin(hS:Mem w' (⟨N,126,206,lU X u'⟩::H') (fun b=>F' b∨(U b∧b≠N)) G (RW X (fun b=>b∈[N]) F w v' F'))(hU:∀b,U b→b<w.heap.size)(hUN:U N)(Js:∀w,G w→u'.In w N∧∀r∈v'.fl,nI w r)(ok:u'.Ok):NW w' X N u' v' F' (fun b=>U b∨F' b)∧Mv (fun b=>F b∨b=N) w (fun b=>F' b∨b=N) w'∧bV (fun b=>U b∨F' b) w' G:=by
 have hr:=hS.now.2;have hs:∀b,(U b∨F' b)→b∈(⟨N,126,206,lU X u'⟩::H':List bU).map bU.a∨F' b∨(U b∧b≠N):=fun b hb=>by
  rcases hb with hb|hb
  ·by_cases e:b=N
   ·exact .inl (e▸Aw ..)
   ·exact .inr (.inr ⟨hb,e⟩)
  ·exact .inr (.inl hb)
 exact⟨⟨hS.at 0 rfl,hr.wo,fun hf=>hS.off _ (Aw ..) (.inl hf),fun b hb=>hb.elim (fun h=>Aj (hU b h) hr.mv.c.size) (hr.wo.lt b),fun b hb=> .inr hb,.inl hUN,ok,fun w2 c2=>Js w2 (hS.g w2 (c2.mono hs))⟩,hr.mv.less (fun b hb=>hb.imp id Ab.1) (fun b hb=> .inl (hb.imp id Ab.2)),fun w2 c2=>hS.g w2 (c2.mono hs)⟩
end
theorem bV.fn{F F':tF}{N:Nat}{w w':tA}{φ:tJ}(h:bV (fun b=>F b∨b=N) w φ)(m:Mv (fun b=>F b∨b=N) w (fun b=>F' b∨b=N) w'):bV (fun b=>F' b∨b=N) w' φ:=(h.mv m (fun _ h=>h)).mono fun _ _ h=> .inr h
structure Wk(w:tA)(X N wb:Nat)(v:Wv)(F U:tF)(r:Nd×Ws)(u':Nv)(v':Wv)(F':tF)(w':tA):Prop where
 nw:NW w' X N u' v' F' (fun b=>U b∨F' b)
 mv:Mv (fun b=>F b∨b=N) w (fun b=>F' b∨b=N) w'
 nd:v'.nd=v.nd
 tk:v'.tk=v.tk
 dd:v'.dd=v.dd
 n:u'.pure=r.1
 s:v'.pure=r.2
 wr:bV (fun b=>F' b∨b=N) w' fun w=>ft w wb u'.wt u'.wl∧wD w v'.dd
theorem Wk.next{w w1 w2:tA}{X N wb:Nat}{v v':Wv}{F F' U:tF}{r:Nd×Ws}{u':Nv}(h:Wk w X N wb v F U r u' v' F' w1)(b:bZ w1 w2):Wk w X N wb v F U r u' v' F' w2:=⟨h.nw.next b,h.mv.next b,h.nd,h.tk,h.dd,h.n,h.s,h.wr.next b⟩
theorem S8{w:tA}{N:Nat}{u:Nv}(h:u.In w N)(hx:u.ax=none):u.af= .nilFunc:=by
 have:=h.af;rw[hx]at this;exact this
theorem MK{w:tA}{N:Nat}{u:Nv}{x:Af}(h:u.In w N)(hx:u.ax=some x):∃g a b,u.af= .func g a b:=by
 have:=h.af;rw[hx]at this;cases x with
 |serve l an=>exact⟨_,_,_,this.1⟩
 |begin l B=>exact⟨_,_,_,this.1⟩
 |shut l B=>exact⟨_,_,_,this.1⟩
 |take l B=>exact⟨_,_,_,this.1⟩
 |kG q B=>exact⟨_,_,_,this.1⟩
theorem acJ{n n':Nd}{a:Af}{rs:List Rec}(h:pA n a rs=some n'):n'.tu=n.tu∧n'.wt=n.wt:=by
 unfold pA at h;split at h
 ·cases h;exact⟨rfl,rfl⟩
 ·cases h
theorem w_(n:Nd)(a:Af)(rs:List Rec):((pA n a rs).getD n).tu=n.tu∧((pA n a rs).getD n).wt=n.wt:=by
 unfold pA;split<;>exact⟨rfl,rfl⟩
theorem ML(n:Nd)(l:Lt):(eJ n l).tu=n.tu∧(eJ n l).wt=n.wt:=by
 unfold eJ;split<;>exact⟨rfl,rfl⟩
theorem sj(n:Nd)(s:Ws)(l:Lt):((cJ n s l).1.tu=n.tu∧(cJ n s l).1.wt=n.wt)∧(cJ n s l).2.fl.length≤s.fl.length+1∧(cJ n s l).2.sv.length≤s.sv.length+1:=by
 have hs:∀(s:Ws) (x:Lt),(fZ s x).fl.length≤s.fl.length+1∧(fZ s x).sv.length≤s.sv.length+1:=fun s x=>⟨by simp[fZ],by simp[fZ]⟩;have ha:∀(x:An),(iy n s l x).fl.length≤s.fl.length+1∧(iy n s l x).sv.length≤s.sv.length+1:=fun x=>⟨by simp[iy,fZ,aaB],by simp[iy,fZ,aaB]⟩;have h0:s.fl.length≤s.fl.length+1∧s.sv.length≤s.sv.length+1:=⟨by omega,by omega⟩;unfold cJ;split
 ·unfold gy;split
  ·exact⟨⟨rfl,rfl⟩,hs _ _⟩
  ·split
   ·exact⟨⟨rfl,rfl⟩,ha _⟩
   ·split
    ·rename_i n' hn;exact⟨acJ hn,h0⟩
    ·exact⟨⟨rfl,rfl⟩,ha _⟩
 ·split
  ·unfold jL;split
   ·exact⟨⟨rfl,rfl⟩,h0⟩
   ·split
    ·exact⟨⟨rfl,rfl⟩,hs _ _⟩
    ·exact⟨w_ _ _ _,h0⟩
  ·split
   ·unfold h_;split
    ·exact⟨⟨rfl,rfl⟩,h0⟩
    ·split
     ·exact⟨⟨rfl,rfl⟩,h0⟩
     ·split
      ·refine⟨⟨rfl,rfl⟩, ?_⟩;unfold aaA;split
       ·exact hs _ _
       ·exact h0
      ·exact⟨w_ _ _ _,h0⟩
   ·split
    ·unfold takeN;split
     ·exact⟨⟨rfl,rfl⟩,h0⟩
     ·split
      ·exact⟨⟨rfl,rfl⟩,h0⟩
      ·exact⟨w_ _ _ _,h0⟩
    ·unfold jM;split
     ·have h1:=w_ (eJ n l) (.kG l.q (bG (n.mo l.q) l.pe).1) [⟨7,l.q,(bG (n.mo l.q) l.pe).1.e,0,lT⟩];have h2:=ML n l;exact⟨⟨h1.1.trans h2.1,h1.2.trans h2.2⟩,h0⟩
     ·exact⟨ML n l,h0⟩
theorem yV{n:Nd}{s:Ws}{k:Nat}(h:n.wt=[]):dX k n s=eX 4 n s:=by
 cases k with
 |zero=>rfl
 |succ k=>
  unfold dX;rw[h]
theorem S9{n:Nd}{s:Ws}{k:Nat}{l:Lt}{ls:List Lt}(h:n.wt=l::ls)(hx:(cJ {n with wt:=ls} s l).1.af.isSome=true):dX (k+1) n s=cJ {n with wt:=ls} s l:=by
 rw[dX,h];simp only[hx,if_true]
theorem WM{n:Nd}{s:Ws}{k:Nat}{l:Lt}{ls:List Lt}(h:n.wt=l::ls)(hx:(cJ {n with wt:=ls} s l).1.af.isSome=false):dX (k+1) n s=dX k (cJ {n with wt:=ls} s l).1 (cJ {n with wt:=ls} s l).2:=by
 rw[dX,h];simp only[hx,Bool.false_eq_true,if_false]
section
open Rv
theorem WN(X N wb:Nat)(u0:Nv)(v0:Wv)(F0 U0:tF)(w0:tA)(hw0:NW w0 X N u0 v0 F0 U0)(Jx:u0.ax=none)(Qs:u0.tu<4)(Gi:bV (fun b=>F0 b∨b=N) w0 fun w=>ft w wb u0.wt u0.wl∧wD w v0.dd)(eC:∀r∈u0.wl,mD r.l)(JF:∀l,mD l→∃g,II l.kd=some g∧S7 g l)(vT:v0.fl.length+u0.wl.length+8≤1000000000000∧v0.sv.length+u0.wl.length≤1000000000000):cA 82 #[lp N] w0 fun x w'=>x= .returned (.tuple #[])∧∃u' v' F',Wk w0 X N wb v0 F0 U0 (dX u0.wl.length u0.pure v0.pure) u' v' F' w':=by
 refine en (H:=[]) 50 [vv (lp N)] Tryz.func82 rfl rfl (m0 w0) (r [] rfl fun _=> ?_);refine iC (X:=Nv×Wv×(Nat→Prop)) ⟨fun _=>[(0,vv (lp N))],fun _=>[],fun _ _=>False,fun _ _=>True,fun x y=>NW y X N x.1 x.2.1 x.2.2 (fun b=>U0 b∨x.2.2 b)∧Mv (fun b=>F0 b∨b=N) w0 (fun b=>x.2.2 b∨b=N) y∧bV (fun b=>x.2.2 b∨b=N) y (fun w=>ft w wb x.1.wt x.1.wl∧wD w x.2.1.dd),fun x=>(x.2.1.nd=v0.nd∧x.2.1.tk=v0.tk∧x.2.1.dd=v0.dd)∧x.1.ax=none∧x.1.tu<4∧(∀r∈x.1.wl,mD r.l)∧(x.2.1.fl.length+x.1.wl.length+8≤1000000000000∧x.2.1.sv.length+x.1.wl.length≤1000000000000)∧dX x.1.wl.length x.1.pure x.2.1.pure=dX u0.wl.length u0.pure v0.pure,fun x=>x.1.wl.length⟩ (u0,v0,F0) ⟨rfl,trivial⟩ (fun w hS=>hS.sr fun w b=>⟨(hw0.next b).less (fun b h=>h.elim id (hw0.fu b)) (fun b h=> .inr h) (.inl hw0.nu),Mv.of (fun b h=>h.elim (hw0.wo.lt b) (fun e=>e▸hw0.nb.lt)) b,Gi.next b⟩) ⟨⟨rfl,rfl,rfl⟩,Jx,Qs,eC,vT,rfl⟩ ?_;rintro f ⟨u,v,F⟩ ⟨lZ,Jx,Qs,eC,vT,Ps⟩;have Jx:u.ax=none:=Jx;have Qs:u.tu<4:=Qs;have eC:∀r∈u.wl,mD r.l:=eC;have vT:v.fl.length+u.wl.length+8≤1000000000000∧v.sv.length+u.wl.length≤1000000000000:=vT;have Ps:dX u.wl.length u.pure v.pure=dX u0.wl.length u0.pure v0.pure:=Ps;refine UN fun w1 wN=> ?_;have s7:ft w1 wb u.wt u.wl:=wN.now.2.2.2.now.1;rcases FF:u.wl with _|⟨r1,ls⟩
 ·obtain⟨wa,wc,lV⟩:=(FF▸s7:ft w1 wb u.wt []).nil;refine r [] rfl fun _=>l1 rfl (.slice wa 0 wc) (fun w hS=>(hS.now.2.1.nb.at 201 (cK rfl)).trans (Au some lV)) (r [0] rfl fun _=> ?_);refine ct (Y:=Nv×Wv×(Nat→Prop)) rfl (vt []) (fun y w'=>Wk w0 X N wb v0 F0 U0 (dX u0.wl.length u0.pure v0.pure) y.1 y.2.1 y.2.2 w') (fun w hS=>(WL X N u v F _ w hS.now.2.1 Qs (by omega)).mono fun _ w' ⟨h1,u2,v2,F2,hd⟩=>⟨h1,(u2,v2,F2), ?_⟩) (fun _ _ _ h b=>h.next b) fun y=>r [] rfl fun _=>dh rfl fun _ hS=>⟨rfl,y.1,y.2.1,y.2.2,hS.now.2⟩
  exact⟨hd.nw.less (fun b h=>h.elim (fun h=> .inl (.inl h)) .inr) (fun b h=> .inr h) (hd.nw.nu.elim (fun h=>h.elim .inl fun h=>absurd h hS.now.2.1.nf) (fun h=>absurd h hd.nw.nf)),hS.now.2.2.1.trans hd.mv,hd.nd.trans lZ.1,hd.tk.trans lZ.2.1,hd.dd.trans lZ.2.2,by rw[hd.n,←Ps,yV (show u.wl.map Lr.l=[] by rw[FF];rfl)],by rw[hd.s,←Ps,yV (show u.wl.map Lr.l=[] by rw[FF];rfl)],fun w2 c2=>by
   have h:=(hS.now.2.2.2.fn hd.mv) w2 c2;rw[hd.wt,hd.wl,hd.dd]
   exact h⟩
 ·obtain⟨wo,wc,lV,hwc⟩:=(FF▸s7:ft w1 wb u.wt (r1::ls)).cons;have st1:∀{w},bV (fun b=>F b∨b=N) w (fun w=>ft w wb u.wt u.wl∧wD w v.dd)→bV (fun b=>F b∨b=N) w (fun w=>ft w wb (.slice (some ⟨wb,wo,none⟩) (ls.length+1) wc) (r1::ls)∧wD w v.dd):=fun h w2 c2=>by have:=h w2 c2;rw[FF,lV]at this;exact this
  have lw:∀{w} {U:tF},NW w X N u v F U→w.cell? ⟨N,201,none⟩=some (.slice (some ⟨wb,wo,none⟩) (ls.length+1) wc):=fun h=>(h.nb.at 201 (cK rfl)).trans (Au some lV);have afN:=eC r1 (FF▸Aw ..);obtain⟨g,hg,hdg⟩:=JF r1.l afN;refine r [] rfl fun _=>l1 rfl _ (fun w hS=>lw hS.now.2.1) (r [1] rfl fun _=>l1 rfl _ (fun w hS=>lw hS.now.2.1) (r [1] rfl fun _=>l1 (q:=wo) rfl (lp r1.p) (fun w hS=>(st1 hS.now.2.2.2).now.1.head) (r [] rfl fun _=>l1 rfl _ (fun w hS=>lw hS.now.2.1) (r [] rfl fun _=>Y9 fun w1 wN=>⟨[nE X N u],_,_,_,wN.now.2.1.init (G:=fun _=>True) (fun _ _=>trivial), ?_⟩))));obtain⟨u3,e3⟩:∃u3:Nv,u3={u with wt:= .slice (gM (some ⟨wb,wo,none⟩) 1 1 wc) (ls.length+1-1) (wc-1),wl:=ls}:=⟨_,rfl⟩;have hw:=wN.now.2.1;have mv:=wN.now.2.2.1;have gI:=st1 wN.now.2.2.2;have hm:r1∈u.wl:=FF▸Aw ..;refine so1 rfl 0 rfl (lU X u3) (show 201<206 by decide) (fun i=>by rw[e3];exact acI i) (r [1] rfl fun _=>l1 rfl (lp X) (fun w hS=>(hS.at 0 rfl).at 0 (cK rfl)) (r [] rfl fun _=>l1 rfl v.dd (fun w hS=>hS.now.2.wo.dd_) (r [] rfl fun _=>l1 rfl (iV r1.l.kd) (fun w hS=>(hS.now.1.1.1.wl r1 hm).b.at 0 (cK rfl)) (r [] rfl fun _=>lk (vv (.func (.func g) #[] #[])) rfl (fun w hS=>(gI w (hS.now.2.mv.c.mono fun b h=>h.imp id Ab.1)).2 r1.l.kd g hg) (r [] rfl fun _=> ?_)))));refine ct (Y:=Nv×Wv×(Nat→Prop)) rfl (vt []) (fun y w3=>NW w3 X N y.1 y.2.1 y.2.2 (fun b=>U0 b∨y.2.2 b)∧Mv (fun b=>F0 b∨b=N) w0 (fun b=>y.2.2 b∨b=N) w3∧bV (fun b=>y.2.2 b∨b=N) w3 (fun w=>ft w wb y.1.wt y.1.wl∧wD w y.2.1.dd)∧(y.2.1.nd=v.nd∧y.2.1.tk=v.tk∧y.2.1.dd=v.dd)∧y.1.wt=u3.wt∧y.1.wl=ls∧y.1.pure=(cJ u3.pure v.pure r1.l).1∧y.2.1.pure=(cJ u3.pure v.pure r1.l).2) (fun w hS=> ?_) (fun _ _ _ ⟨h1,h2,h3,h4⟩ b=>⟨h1.next b,h2.next b,h3.next b,h4⟩) (fun y=> ?_) rfl hdg.1
  ·have It:=NW.fin (u':=u3) hS hw.ub hw.nu (fun _ h=>⟨by rw[e3];exact⟨h.1.1.row,h.1.1.mo,h.1.1.af,fun x hx=>h.1.1.wl x (FF▸AF _ hx)⟩,h.1.2⟩) (by rw[e3];exact⟨hw.ok.ok,hw.ok.nil,hw.ok.cap,hw.ok.max,hw.ok.len,hw.ok.s0,hw.ok.s1,hw.ok.i5,hw.ok.SJ⟩);refine(hdg.2 X N u3 v F _ _ r1.p r1.a r1.c It.1 (fun w2 c2=>(It.2.2 w2 c2).1.1.wl r1 hm) (by omega) (by omega)).mono fun _ w3 ⟨h1,u4,v4,F4,hd⟩=>⟨h1,(u4,v4,F4),hd.nw.less (fun b h=>h.elim (fun h=> .inl (.inl (.inl h))) .inr) (fun b h=> .inr h) (hd.nw.nu.elim (fun h=>h.elim (fun h=>h.elim .inl fun h=>absurd h hw.nf) (fun h=>absurd h It.1.nf)) (fun h=>absurd h hd.nw.nf)),mv.trans (It.2.1.trans hd.mv),fun w2 c2=> ?_,⟨hd.nd,hd.tk,hd.dd⟩,hd.wt,hd.wl.trans (by rw[e3]),hd.n,hd.s⟩;have h:=(gI.fn (It.2.1.trans hd.mv)) w2 c2;show ft w2 wb u4.wt u4.wl∧wD w2 v4.dd;rw[hd.wt,hd.wl,hd.dd,e3];exact⟨h.1.tail,h.2⟩
  obtain⟨u4,v4,F4⟩:=y;refine UN fun w4 hS4=> ?_;obtain⟨hw4,mv4,hst4,hc4,hwt4,WQ,WR,Ye⟩:=hS4.now.2;have WR:u4.pure=(cJ u3.pure v.pure r1.l).1:=WR;have Ye:v4.pure=(cJ u3.pure v.pure r1.l).2:=Ye;have WQ:u4.wl=ls:=WQ;have hpw:u.wl.map Lr.l=r1.l::ls.map Lr.l:=by rw[FF];rfl
  have S_:cJ u3.pure v.pure r1.l=cJ {u.pure with wt:=ls.map Lr.l} v.pure r1.l:=by rw[e3]
  have UZ:=sj u3.pure v.pure r1.l;have VM:u.wl.length=ls.length+1:=by rw[FF];rfl
  have la:∀{w} {z:tK},u4.af=z→NW w X N u4 v4 F4 (fun b=>U0 b∨F4 b)→w.cell? ⟨N,202,none⟩=some z:=fun e h=>(h.nb.at 202 (cK rfl)).trans (Au some e);rcases hx4:u4.ax with _|x4
  ·refine r [] rfl fun _=>l1 rfl .nilFunc (fun w hS=>la (S8 hw4.st.now.1 hx4) hS.now.2.1) (r [] rfl fun _=> ?_);have afO:u4.tu=u.tu:=((Au Nd.tu WR).trans UZ.1.1).trans (by rw[e3]);have aiL:v4.fl.length≤v.fl.length+1:=by have h1:=Au (fun s:Ws=>s.fl.length) Ye;have h2:=UZ.2.1;simp only[List.length_map]at h1 h2;omega
   have aiM:v4.sv.length≤v.sv.length+1:=by have h1:=Au (fun s:Ws=>s.sv.length) Ye;have h2:=UZ.2.2;simp only at h1 h2;omega
   have WS:u4.wl.length=ls.length:=by rw[WQ]
   exact b_ (u4,v4,F4) ⟨rfl,trivial⟩ (fun w hS=>hS.sr fun _ h=>⟨h.1,h.2.1,h.2.2.1⟩) ⟨⟨hc4.1.trans lZ.1,hc4.2.1.trans lZ.2.1,hc4.2.2.trans lZ.2.2⟩,hx4,by rw[afO];exact Qs,fun r' Z8=>eC r' (by rw[FF];exact AF _ (WQ▸Z8)),⟨by show v4.fl.length+u4.wl.length+8≤_;omega,by show v4.sv.length+u4.wl.length≤_;omega⟩,by rw[WS,WR,Ye,S_,←WM (n:=u.pure) (s:=v.pure) (k:=ls.length) (l:=r1.l) hpw (by rw[←S_,←WR];show u4.ax.isSome=false;rw[hx4];rfl),←Ps,VM]⟩ (by show u4.wl.length<u.wl.length;omega)
  ·obtain⟨g4,a4,b4,haf4⟩:=MK hw4.st.now.1 hx4;have hwe:=S9 (n:=u.pure) (s:=v.pure) (k:=ls.length) (l:=r1.l) hpw (by rw[←S_,←WR];show u4.ax.isSome=true;rw[hx4];rfl);exact r [] rfl fun _=>l1 rfl (.func g4 a4 b4) (fun w hS=>la haf4 hS.now.2.1) (r [] rfl fun _=>fin fun w hS=>⟨rfl,u4,v4,F4,hS.now.2.1,hS.now.2.2.1,hc4.1.trans lZ.1,hc4.2.1.trans lZ.2.1,hc4.2.2.trans lZ.2.2,by rw[WR,←Ps,VM,hwe,S_],by rw[Ye,←Ps,VM,hwe,S_],hS.now.2.2.2.1⟩)
noncomputable def eK(n:Nd)(s:Ws):Nd×Ws:=if n.up=false then(n,s)else match n.af with
 |some x=>eZ {n with sy:=n.dl.length,af:=none} s x
 |none=>dX n.wt.length n s
theorem qK{n:Nd}{s:Ws}(h:n.up=false):eK n s=(n,s):=if_pos h
theorem qL{n:Nd}{s:Ws}{x:Af}(h:n.up=true)(hx:n.af=some x):eK n s=eZ {n with sy:=n.dl.length,af:=none} s x:=by
 unfold eK;rw[if_neg (by rw[h];decide),hx]
theorem nQ{n:Nd}{s:Ws}(h:n.up=true)(hx:n.af=none):eK n s=dX n.wt.length n s:=by
 unfold eK;rw[if_neg (by rw[h];decide),hx]
theorem WT(wb:Nat)(X N:Nat)(u:Nv)(v:Wv)(F U:tF)(w:tA)(hw:NW w X N u v F U)(Qs:u.tu<4)(Gi:bV (fun b=>F b∨b=N) w fun w=>ft w wb u.wt u.wl∧wD w v.dd)(eC:∀r∈u.wl,mD r.l)(JF:∀l,mD l→∃g,II l.kd=some g∧S7 g l)(vT:v.fl.length+u.wl.length+8≤1000000000000∧v.sv.length+u.wl.length≤1000000000000):cA 46 #[lp N] w fun x w'=>x= .returned (.tuple #[])∧∃u' v' F',Wk w X N wb v F U (eK u.pure v.pure) u' v' F' w':=by
 have aM:∀b,(F b∨b=N)→b<w.heap.size:=fun b h=>h.elim (hw.wo.lt b) (fun e=>e▸hw.nb.lt);have lu:∀{w1:tA} {z:Bool},u.ub=z→bZ w w1→w1.cell? ⟨N,2,none⟩=some (.bool z):=fun e b=>((hw.next b).nb.at 2 (cK rfl)).trans (Au (fun z=>some (Value.bool z)) e);have la:∀{w1:tA} {z:tK},u.af=z→bZ w w1→w1.cell? ⟨N,202,none⟩=some z:=fun e b=>((hw.next b).nb.at 202 (cK rfl)).trans (Au some e);refine en (H:=[]) 19 [vv (lp N)] Tryz.func46 rfl rfl (m0 w) (r [] rfl fun _=> ?_);rcases mw:u.ub with _|_
 ·exact l1 rfl (.bool false) (fun w1 hS=>lu mw hS.now.2) (r [] rfl fun _=>dh rfl fun w1 hS=>⟨rfl,u,v,F,⟨(hw.next hS.now.2).less (fun b h=>h.elim id (hw.fu b)) (fun b h=> .inr h) (.inl hw.nu),Mv.of aM hS.now.2,rfl,rfl,rfl,by rw[qK (n:=u.pure) mw],by rw[qK (n:=u.pure) mw],Gi.next hS.now.2⟩⟩)
 rcases Jx:u.ax with _|x4
 ·refine l1 rfl (.bool true) (fun w1 hS=>lu mw hS.now.2) (r [] rfl fun _=>l1 rfl .nilFunc (fun w1 hS=>la (S8 hw.st.now.1 Jx) hS.now.2) (r [] rfl fun _=> ?_));exact ct (Y:=Nv×Wv×(Nat→Prop)) rfl (vt []) (fun y w'=>Wk w X N wb v F U (eK u.pure v.pure) y.1 y.2.1 y.2.2 w') (fun w1 hS=>(WN X N wb u v F U w1 (hw.next hS.now.2) Jx Qs (Gi.next hS.now.2) eC JF vT).mono fun _ _ ⟨h1,u2,v2,F2,hd⟩=>⟨h1,(u2,v2,F2),hd.nw,(Mv.of aM hS.now.2).trans hd.mv,hd.nd,hd.tk,hd.dd,by rw[hd.n,nQ (n:=u.pure) mw Jx,AX],by rw[hd.s,nQ (n:=u.pure) mw Jx,AX],hd.wr⟩) (fun _ _ _ h b=>h.next b) fun y=>r [] rfl fun _=>dh rfl fun _ hS=>⟨rfl,y.1,y.2.1,y.2.2,hS.now.2⟩
 ·obtain⟨g4,a4,b4,haf4⟩:=MK hw.st.now.1 Jx;refine l1 rfl (.bool true) (fun w1 hS=>lu mw hS.now.2) (r [] rfl fun _=>l1 rfl (.func g4 a4 b4) (fun w1 hS=>la haf4 hS.now.2) (r [] rfl fun _=> ?_));refine ct (Y:=Nv×Wv×(Nat→Prop)) rfl (vt []) (fun y w'=>Wk w X N wb v F U (eK u.pure v.pure) y.1 y.2.1 y.2.2 w') (fun w1 hS=>(WG X N u v F U w1 (hw.next hS.now.2) x4 Jx (by omega) (by omega)).mono fun _ _ ⟨h1,u2,v2,F2,hd⟩=>⟨h1,(u2,v2,F2),hd.nw,(Mv.of aM hS.now.2).trans hd.mv,hd.nd,hd.tk,hd.dd,by rw[hd.n,qL (n:=u.pure) mw Jx],by rw[hd.s,qL (n:=u.pure) mw Jx],fun w2 c2=> ?_⟩) (fun _ _ _ h b=>h.next b) fun y=>r [] rfl fun _=>dh rfl fun _ hS=>⟨rfl,y.1,y.2.1,y.2.2,hS.now.2⟩;have h:=((Gi.next hS.now.2).fn hd.mv) w2 c2;show ft w2 wb u2.wt u2.wl∧wD w2 v2.dd;rw[hd.wt,hd.wl,hd.dd];exact h
theorem afP{u v:Ev}(h:∀j,j<6→(aX u).getD j 0=(aX v).getD j 0):u=v:=by
 have h0:=h 0 (by omega);have h1:=h 1 (by omega);have h2:=h 2 (by omega);have h3:=h 3 (by omega);have h4:=h 4 (by omega);have h5:=h 5 (by omega);cases u;cases v;simp[aX]at h0 h1 h2 h3 h4 h5;simp[h0,h1,h2,h3,h4,h5]
theorem Ta{A B:List Ev}{k:Nat}(ha:k<A.length)(hb:k<B.length)(h:oN (ai A) (ai B) k):A[k]=B[k]:=
 afP fun j hj=>by rw[←lL A k ha j hj,←lL B k hb j hj];exact h j hj
theorem Tc{H C:List Ev}{n:Nat}(h:l8 (ai H) (ai C) H.length C.length n):C.take H.length=H.take C.length↔min H.length C.length≤n:=by
 constructor
 ·intro e;refine h.least (k:=min H.length C.length) ?_ (Nat.min_le_left _ _) (Nat.min_le_right _ _);have e2:H.take (min H.length C.length)=C.take (min H.length C.length):=by
   rcases Nat.le_total H.length C.length with hle|hle
   ·rw[BA hle,Bh];rw[AJ (l:=H) (i:=C.length) hle]at e;exact e.symm
   ·rw[Nat.min_eq_right hle,Bh];rw[AJ (l:=C) (i:=H.length) hle]at e;exact e.symm
  exact Ip e2 (Nat.min_le_left _ _) (Nat.min_le_right _ _)
 ·intro hn;apply List.ext_getElem (by simp[List.length_take,Nat.min_comm]);intro i h1 h2;have hi:i<H.length∧i<C.length:=by simp only[List.length_take]at h1 h2;omega
  rw[List.getElem_take,List.getElem_take];exact(Ta hi.1 hi.2 (h.same i (by omega))).symm
theorem t_{es:List Ev}{k:Nat}:(es.drop k).take (es.length-k)=es.drop k:=AJ (by rw[AM];exact Aa _)
section
variable{B:Bt}{ep:Int}{at':Int}{k m:Nat}{l:List Ev}{la:Bool}
theorem acL(ok:B.Ok)(h:¬B.r=4):bj B ep at' l la=(Bt.zero,7):=by
 unfold bj;rw[if_neg (fun k=>k ok),if_pos h]
theorem acM(ok:B.Ok)(h:B.r=4)(he:¬B.e=ep):bj B ep at' l la=(Bt.zero,15):=by
 unfold bj;rw[if_neg (fun k=>k ok),if_neg (fun k=>k h),if_pos he]
theorem YD(ok:B.Ok)(h:B.r=4)(he:B.e=ep)(ha:¬(0≤at'∧at'≤B.es.length)):bj B ep at' l la=(Bt.zero,2):=by
 unfold bj;rw[if_neg (fun k=>k ok),if_neg (fun k=>k h),if_neg (fun k=>k he),if_pos ha]
abbrev aa7(B:Bt)(k:Nat)(l:List Ev):Bt:=B.more (l.drop (B.es.length-k))
theorem YE(ok:B.Ok)(h:B.r=4)(he:B.e=ep)(hk:k≤B.es.length)(hf:¬Fits (B.es.drop k) l la):bj B ep (k:Int) l la=(Bt.zero,3):=by
 unfold bj;rw[if_neg (fun k=>k ok),if_neg (fun k=>k h),if_neg (fun k=>k he),if_neg (fun k=>k ⟨by omega,by omega⟩),AO,if_pos (fun k=>hf k.2)]
theorem YF(ok:B.Ok)(h:B.r=4)(he:B.e=ep)(hk:k≤B.es.length)(hl:l.length≤2000)(hf:Fits (B.es.drop k) l la)(ho:¬(if la=true then(aa7 B k l).broken else aa7 B k l).Ok):bj B ep (k:Int) l la=(Bt.zero,3):=by
 unfold bj;rw[if_neg (fun k=>k ok),if_neg (fun k=>k h),if_neg (fun k=>k he),if_neg (fun k=>k ⟨by omega,by omega⟩),AO,if_neg (fun k=>k ⟨hl,hf⟩),if_pos ho]
theorem YG(ok:B.Ok)(h:B.r=4)(he:B.e=ep)(hk:k≤B.es.length)(hl:l.length≤2000)(hf:Fits (B.es.drop k) l la)(ho:(if la=true then(aa7 B k l).broken else aa7 B k l).Ok):bj B ep (k:Int) l la=(if la=true then(aa7 B k l).broken else aa7 B k l,0):=by
 unfold bj;rw[if_neg (fun k=>k ok),if_neg (fun k=>k h),if_neg (fun k=>k he),if_neg (fun k=>k ⟨by omega,by omega⟩),AO,if_neg (fun k=>k ⟨hl,hf⟩),if_neg (fun k=>k ho)]
theorem MM(ok:B.Ok){l:List Ev}(h:B.r=4)(hl:B.es.length+l.length≤2000)(ht:∃s bw,bk (B.es++l) s bw):(B.more l).Ok:=by
 refine⟨?_,by simp[Bt.more];exact hl,ht⟩;have hs:=ok.cO;unfold Bt.cH bB at hs⊢;rcases hs with k|k|k|k|k
 ·exact absurd k.1 (by omega)
 ·exact absurd k.1 (by omega)
 ·exact absurd k.1 (by omega)
 ·exact absurd k.1 (by omega)
 ·exact .inr (.inr (.inr (.inr k)))
theorem Fj(ok:B.Ok)(h:B.r=4)(hl:B.es.length+1≤2000)(ht:∃s bw,bk (B.es++[Ev.brk]) s bw):B.broken.Ok:=by
 refine⟨?_,by simp[Bt.broken];omega,ht⟩;have hs:=ok.cO;unfold Bt.cH bB at hs⊢;rcases hs with k|k|k|k|k
 ·exact absurd k.1 (by omega)
 ·exact absurd k.1 (by omega)
 ·exact absurd k.1 (by omega)
 ·exact absurd k.1 (by omega)
 ·exact .inr (.inl ⟨rfl,k.2.1,k.2.2.1,rfl,rfl,rfl⟩)
theorem aac{l:List Ev}(h:¬(B.es.length+l.length≤2000∧∃s bw,bk (B.es++l) s bw)):¬(if la=true then(B.more l).broken else B.more l).Ok:=by
 intro ok;apply h;cases la with
 |false=>
  have h1:=ok.len;have h2:=ok.told;simp only[Bool.false_eq_true,if_false,Bt.more,List.length_append]at h1 h2;exact⟨h1,h2⟩
 |true=>
  have h1:=ok.len;obtain⟨s,bw,h2⟩:=ok.told;simp only[if_true,Bt.more,Bt.broken,List.length_append]at h1 h2;obtain⟨s0,Fi,_,h3,_⟩:=h2.last;exact⟨by simp at h1;omega,s0,Fi,h3⟩
theorem MN{m:Nat}(hk:k≤B.es.length)(hc:l8 (ai (B.es.drop k)) (ai l) (B.es.length-k) l.length m)(h:m<min (B.es.length-k) l.length∨(la=true∧m<B.es.length-k)):¬Fits (B.es.drop k) l la:=by
 rintro⟨h1,h2⟩;have hd:(B.es.drop k).length=B.es.length-k:=AM;have:=(Tc (by rw[hd];exact hc)).1 h1;rw[hd]at this h2;rcases h with h|⟨h,h3⟩
 ·omega
 ·have:=h2 h;omega
theorem WU{m:Nat}(hc:l8 (ai (B.es.drop k)) (ai l) (B.es.length-k) l.length m)(h:¬m<min (B.es.length-k) l.length)(h2:la=true→¬m<B.es.length-k):Fits (B.es.drop k) l la∧l.drop m=l.drop (B.es.length-k):=by
 have hd:(B.es.drop k).length=B.es.length-k:=AM;have hm:m=min (B.es.length-k) l.length:=by have:=hc.lea;have:=hc.leb;omega
 refine⟨⟨(Tc (by rw[hd];exact hc)).2 (by rw[hd];omega),fun h3=> ?_⟩, ?_⟩
 ·have:=h2 h3;rw[hd];omega
 ·rcases Nat.le_total (B.es.length-k) l.length with h4|h4
  ·rw[hm,BA h4]
  ·rw[hm,Nat.min_eq_right h4,List.drop_length,List.drop_of_length_le h4]
end
theorem aad{w:tA}{b:tB}{lb cb m n:Nat}{l:List Ev}(UR:lb=l.length)(hbc:lb≤cb)(hm:m≤l.length)(hdr:l.drop m=l.drop n)(h:RowK .i64 w b (6*lb) (ai l)):RowK .i64 w (gM b m 6 cb) (6*(lb-m)) (ai (l.drop n)):=by
 subst UR;have:=aaO (k:=m) (m:=l.length-m) (c:=cb) h (by omega) hbc;rwa [t_,hdr]at this
theorem Pt(U:tF)(w:tA):rY U w Bt.zero (jw 0 0 0 0 0 none 0 0 zQ):=⟨none,0,zQ,rfl,fun _ _=>jT.dq rfl⟩
theorem WV{B:Bt}(h:¬(B.es.length+[Ev.brk].length≤2000∧∃s bw,bk (B.es++[Ev.brk]) s bw)):¬(if true=true then B.broken else B).Ok:=by
 intro ok;apply h;have h1:=ok.len;have h2:=ok.told;simp only[if_true,Bt.broken,List.length_append]at h1 h2;exact⟨h1,h2⟩
abbrev MoY:=Bt×Option Addr×Nat×(Nat→Value)×Bool
abbrev moY(y:MoY):AV:=vt [.g (pD y.1 y.2.1 y.2.2.1 y.2.2.2.1),.o (.bool y.2.2.2.2)]
def YH(B:Bt)(l:List Ev)(y:MoY):Prop:=aS y.2.2.2.1 41∧((y.2.2.2.2=true∧y.1=B.more l∧B.es.length+l.length≤2000∧∃s bw,bk (B.es++l) s bw)∨(y.2.2.2.2=false∧¬(B.es.length+l.length≤2000∧∃s bw,bk (B.es++l) s bw)))
theorem Te{U:tF}{w w':tA}{B:Bt}{l:List Ev}{x:Ending}{C:Prop}(h:∃y k,x= .returned (.tuple #[y,.bool k])∧ri U w' B l y k∧bZ w w'):∃y:MoY,x= .returned (moY y).val∧bZ w w'∧YH B l y∧(C→bV U w' fun w=>jT w y.1 y.2.1 y.2.2.1 y.2.2.2.1):=by
 obtain⟨_,k,rfl,hw,b⟩:=h;rcases hw with⟨rfl,h1,h2,⟨a8,c8,g8,rfl,h8⟩⟩|⟨rfl,h1,rfl⟩
 ·exact⟨(B.more l,a8,c8,g8,true),rfl,b,⟨h8.now.one,.inl ⟨rfl,rfl,h1,h2⟩⟩,fun _=>h8⟩
 ·exact⟨(Bt.zero,none,0,zQ,false),rfl,b,⟨(jT.dq (w:=w) (B:=Bt.zero) rfl).one,.inr ⟨rfl,h1⟩⟩,fun _ _ _=>jT.dq rfl⟩
def afS(B:Bt)(y:MoY):Prop:=aS y.2.2.2.1 41∧((y.2.2.2.2=true∧y.1=B.broken∧B.es.length+[Ev.brk].length≤2000∧∃s bw,bk (B.es++[Ev.brk]) s bw)∨(y.2.2.2.2=false∧¬(B.es.length+[Ev.brk].length≤2000∧∃s bw,bk (B.es++[Ev.brk]) s bw)))
theorem IJ(U:tF)(B:Bt)(a:tB)(c:Nat)(q:tD)(ep CY:Int)(l:List Ev)(b:tB)(lb cb:Nat)(la:Bool)(w:tA)(hU:∀b,U b→b<w.heap.size)(hm:bV U w fun w=>jT w B a c q)(ok:B.Ok)(hr:bV U w fun w=>RowK .i64 w b (6*lb) (ai l))(UR:lb=l.length)(uw:b=none→cb=0)(hbc:lb≤cb)(Rn:lb≤2000):cA 120 #[yh B a c q,iV ep,iV CY,.slice b lb cb,.bool la] w fun x w'=>∃y B' er,x= .returned (.tuple #[y,iV er])∧bj B ep CY l la=(B',er)∧rY U w' B' y∧bZ w w':=by
 have hq:=hm.now.one;have hc:=hm.now.b.cap;have z:=Pt;refine en (H:=[]) 97 [vg (pD B a c q),vi ep,vi CY,vv (.slice b lb cb),vv (.bool la)] Tryz.func120 rfl rfl (oE hU (G:=fun w=>jT w B a c q∧RowK .i64 w b (6*lb) (ai l)) fun w2 c2=>⟨hm w2 c2,hr w2 c2⟩) ?_;by_cases h4:B.r=4
 case neg=>exact r [1] rfl fun _=>Rv.cb rfl (vt [.g (pD Bt.zero none 0 zQ),.o (iV 7)]) (fun w _=>jm 7 w) (r [] rfl fun _=>fin fun w hS=>⟨_,_,_,rfl,acL ok h4,z _ _,hS.now.2⟩)
 by_cases he:B.e=ep
 case neg=>exact r [0,1] rfl fun _=>Rv.cb rfl (vt [.g (pD Bt.zero none 0 zQ),.o (iV 15)]) (fun w _=>jm 15 w) (r [] rfl fun _=>fin fun w hS=>⟨_,_,_,rfl,acM ok h4 he,z _ _,hS.now.2⟩)
 have r2:=fun w=>jm 2 w;by_cases h0:CY<0
 ·exact r [0,0,1] rfl fun _=>Rv.cb rfl (vt [.g (pD Bt.zero none 0 zQ),.o (iV 2)]) (fun w _=>r2 w) (r [] rfl fun _=>fin fun w hS=>⟨_,_,_,rfl,YD ok h4 he (by omega),z _ _,hS.now.2⟩)
 by_cases hn:(B.es.length:Int)<CY
 ·exact r [0,0,0,1] rfl fun _=>Rv.cb rfl (vt [.g (pD Bt.zero none 0 zQ),.o (iV 2)]) (fun w _=>r2 w) (r [] rfl fun _=>fin fun w hS=>⟨_,_,_,rfl,YD ok h4 he (by omega),z _ _,hS.now.2⟩)
 obtain⟨k,rfl⟩:∃k:Nat,CY=k:=⟨CY.toNat,by omega⟩;have hk:k≤B.es.length:=by omega
 refine r [0,0,0,0] rfl fun _=>cq rfl (fun m:Nat=>vi (m:Int)) (fun m=>l8 (ai (B.es.drop k)) (ai l) (B.es.length-k) l.length m) (fun w hS=> ?_) fun m Qt=> ?_
 ·refine(Kc (gM a k 6 c) b (B.es.length-k) (c-k) lb cb (ai (B.es.drop k)) (ai l) w (by have:=aaO hS.now.1.1.b.row (k:=k) (m:=B.es.length-k) (c:=c) (by omega) hc;rwa [t_]at this) hS.now.1.2 (by have:=ok.len;omega) (by omega)).mono ?_;rintro _ w3 ⟨m,rfl,Qt,b⟩;exact⟨m,rfl,b,by rw[UR]at Qt;exact Qt⟩
 have r3:=fun w=>jm 3 w;by_cases hf:m<min (B.es.length-k) l.length
 ·refine rz [2,1] [((min (B.es.length-k) lb:Nat):Int)] rfl fun _=> ?_;exact Rv.cb rfl (vt [.g (pD Bt.zero none 0 zQ),.o (iV 3)]) (fun w _=>r3 w) (r [] rfl fun _=>fin fun w hS=>⟨_,_,_,rfl,YE ok h4 he hk (MN hk Qt (.inl hf)),z _ _,hS.now.2⟩)
 have SO:=Qt.leb;by_cases hl:la=true∧m<B.es.length-k
 ·obtain⟨rfl,hl⟩:=hl;refine rz [2,0,1] [((min (B.es.length-k) lb:Nat):Int)] rfl fun _=> ?_;exact Rv.cb rfl (vt [.g (pD Bt.zero none 0 zQ),.o (iV 3)]) (fun w _=>r3 w) (r [] rfl fun _=>fin fun w hS=>⟨_,_,_,rfl,YE ok h4 he hk (MN hk Qt (.inr ⟨rfl,hl⟩)),z _ _,hS.now.2⟩)
 obtain⟨hfit,hdr⟩:=WU (B:=B) (k:=k) (l:=l) (m:=m) (la:=la) Qt hf (fun e h=>hl ⟨e,h⟩);cases la
 case' false=>refine rz [2,0,4] [((min (B.es.length-k) lb:Nat):Int)] rfl fun _=> ?_
 case' true=>
  have vS:¬m<B.es.length-k:=fun h=>hl ⟨rfl,h⟩;refine rz [2,0,0,4] [((min (B.es.length-k) lb:Nat):Int)] rfl fun _=> ?_
 all_goals
  repeat' first|refine ER ?_ ?_|(refine cx (g:=171) rfl moY (YH B (l.drop (B.es.length-k))) (fun y w=>jT w y.1 y.2.1 y.2.2.1 y.2.2.2.1) ?_ ?_;exact fun w hS=>(DI _ B a c q (l.drop (B.es.length-k)) (gM b m 6 cb) (lb-m) (cb-m) w hS.ult (fun w2 c2=>(hS.g w2 c2).1) (fun w2 c2=>aad UR hbc SO hdr (hS.g w2 c2).2) (by rw[←hdr,AM,UR]) (fun h=>by rw[uw (uX h)];omega) ok.len (by omega)).mono fun _ _ h=>Te h;rintro⟨B8,a8,c8,g8,k8⟩ ⟨o8,⟨rfl,rfl,h8,h9⟩|⟨rfl,h8⟩⟩)|(refine Rv.cb (g:=169) rfl (vt [.g (pD Bt.zero none 0 zQ),.o (.int .i64 3)]) ?_ ?_;exact fun w _=>r3 w)|(refine cx (g:=172) rfl moY (afS (aa7 B k l)) (fun y w=>jT w y.1 y.2.1 y.2.2.1 y.2.2.2.1) ?_ ?_;exact fun w hS=>(vJ _ (aa7 B k l) a8 c8 g8 w hS.ult (fun w2 c2=>(hS.g w2 c2).2) (by simp only[Bt.more,List.length_append];exact h8)).mono fun _ _ h=>Te (B:=⟨1,(aa7 B k l).e,0,0,0,(aa7 B k l).es⟩) h;rintro⟨B9,a9,c9,g9,k9⟩ ⟨o9,⟨rfl,rfl,hx1,hx2⟩|⟨rfl,hx1⟩⟩)|refine rs [] rfl rfl fun _=> ?_
 all_goals first
  |exact fin fun w hS=>⟨_,_,_,rfl,YG ok h4 he hk (by omega) hfit (MM ok h4 h8 h9),⟨a8,c8,g8,rfl,fun w2 c2=>(hS.ES w2 c2).2⟩,hS.now.2⟩
  |exact fin fun w hS=>⟨_,_,_,rfl,YF ok h4 he hk (by omega) hfit (aac h8),z _ _,hS.now.2⟩
  |exact fin fun w hS=>⟨_,_,_,rfl,YG ok h4 he hk (by omega) hfit (Fj (MM ok h4 h8 h9) h4 hx1 hx2),⟨a9,c9,g9,rfl,fun w2 c2=>(hS.ES w2 c2).2⟩,hS.now.2⟩
  |exact fin fun w hS=>⟨_,_,_,rfl,YF ok h4 he hk (by omega) hfit (WV hx1),z _ _,hS.now.2⟩
abbrev WW(q:Nat)(B:Bt)(e:Ev):Rec:=⟨5,q,B.e,0,e⟩
abbrev lz(q:Nat)(B:Bt)(k j:Nat):List Rec:=((B.es.drop k).take j).map (WW q B)
theorem IK{q k j:Nat}{B:Bt}(h:j≤B.es.length-k):(lz q B k j).length=j:=by
 unfold lz;rw[AX,AL,AM];omega
theorem Ed{q k j:Nat}{B:Bt}{e:Ev}(h:(B.es.drop k)[j]? =some e):lz q B k (j+1)=lz q B k j++[WW q B e]:=by
 unfold lz;rw[nP h,AB];rfl
theorem Th{l:List Rec}{x y:Rec}{F:tD}(h:∀j,j<10*(l++[x]).length→F j=iV ((aC (l++[x])).getD j 0)):∀j,j<10*(l++[y]).length→gf F (0+l.length*10) 10 (lF [iV y.k,iV y.q,iV y.e,iV y.p,iV y.v.k,iV y.v.p,iV y.v.i,iV y.v.b,iV y.v.he,iV y.v.hn]) j=iV ((aC (l++[y])).getD j 0):=by
 have hl:∀z:Rec,aC (l++[z])=aC l++aZ z:=fun z=>by simp[aC]
 have hlen:=iw l;refine O4 (F:=F) (fun j hj=> ?_) (fun j hj=>pH _ _ _ _ _ (.inl (by omega))) (fun j hj=> ?_)
 ·rw[h j (by rw[Ac];omega),hl];simp only[List.getD_eq_getElem?_getD];rw[AD (by omega)]
 ·rw[show l.length*10+j=0+l.length*10+j by omega,EB _ _ _ _ _ (by omega)]
theorem MO{q:Nat}{B:Bt}(hq:q<4)(he:0≤B.e∧B.e≤1048576){es:List Ev}(hw:∀u∈ai es,(Lit.int .i64 u).wf=true):∀u∈aC (es.map (WW q B)),(Lit.int .i64 u).wf=true:=by
 intro u hu;simp only[aC,List.mem_flatMap,List.mem_map]at hu;obtain⟨r,⟨e,hem,rfl⟩,hu⟩:=hu;exact pf (by decide) hq he (by decide) (fun x hx=>hw x (by unfold ai;exact List.mem_flatMap.2 ⟨e,hem,hx⟩)) u hu
theorem yW{q k:Nat}{B:Bt}(h:¬B.r=1):dj q B k=lz q B k (B.es.length-k):=by
 unfold dj lz;rw[if_neg h,t_]
theorem IL{q k:Nat}{B:Bt}(h:B.r=1)(hk:k<B.es.length):dj q B k=lz q B k (B.es.length-k-1)++[⟨6,q,B.e,0,lT⟩]∧∃e,lz q B k (B.es.length-k)=lz q B k (B.es.length-k-1)++[WW q B e]:=by
 constructor
 ·unfold dj lz;rw[if_pos h,List.dropLast_eq_take,AM]
 ·obtain⟨e,he⟩:∃e,(B.es.drop k)[B.es.length-k-1]? =some e:=⟨(B.es.drop k)[B.es.length-k-1]'(by rw[AM];omega),Ag _⟩;refine⟨e, ?_⟩;have:=Ed (q:=q) he;rwa [show B.es.length-k-1+1=B.es.length-k by omega]at this
theorem KO{es:List Ev}{k j:Nat}{u:Int}(h:u∈ai ((es.drop k).take j)):u∈ai es:=by
 unfold ai at h⊢;obtain⟨e,he,hu⟩:=List.mem_flatMap.1 h;exact List.mem_flatMap.2 ⟨e,Bj (AK he),hu⟩
namespace Rv
section
variable{n:Nat}{f:Nat→AV}{fn:Func}{Rr:Ending→World→Prop}{T:tF}{Φ:tJ}{H:List En}{ks:List Fr}
theorem ob{w0:tA}{e sz l:Nat}{v:tK}{L:tM}(hl:0<l)(hT:∀b,T b→b<w0.heap.size)(hn:∀g c F,v= .slice (some ⟨g,0,none⟩) l c→l≤c→c≤maxLen→(∀j,j<l*sz→L[j]? =some (F j))→G Tryz.prog fn Rr n T Φ (fun w=>bZ w0 w) ks f (H++[⟨g,e,[.f (c*sz) F]⟩])):G Tryz.prog fn Rr n (fun b=>v.ownBlock=some b∨T b) Φ (fun w=>bZ w0 w∧w.ownsRow w0.heap.size e sz v l L) ks f H:=by
 intro w hS hK;have own:=hS.now.2.2;rcases id own.2 with⟨_,e0⟩|⟨g,c,cur,rfl,hg,hb,qv,hc,hs2,ht⟩
 ·omega
 have kN:=hS.QV g rfl;have LQ:g<w.heap.size:=(BJ.1 hb).1;refine hn g c (fun j=>cur.getD j undef) rfl qv hc (fun j hj=> ?_) w ?_ hK
 ·have hle:l*sz≤c*sz:=Nat.mul_le_mul_right _ qv;rw[←ht,AP,if_pos hj,BP,Cg (by omega)];simp[show j<cur.size by omega]
 have e4:hs (H++[⟨g,e,[.f (c*sz) fun j=>cur.getD j undef]⟩])=hs H++[⟨g,e,c*sz,fun j=>cur.getD j undef⟩]:=by
  rw[hs,AB];rfl
 rw[e4];have mem:∀x∈hs H++[(⟨g,e,c*sz,fun j=>cur.getD j undef⟩:bU)],x∈hs H∨x=⟨g,e,c*sz,fun j=>cur.getD j undef⟩:=fun x hx=>(Ao.1 hx).imp id Ab.1;refine⟨fun x hx=>(mem x hx).elim (hS.ik x) fun h=>by rw[h];exact EL hb hs2,fun i j x y hi hj ha=> ?_,fun x hx ht=>(mem x hx).elim (fun h=>hS.off x h (.inr ht)) fun h=>by rw[h]at ht;exact absurd hg (BE.2 (hT g ht)),fun b hb=>hS.mlt b (.inr hb),fun w2 c2=>hS.g w2 (c2.mono fun b hb=> ?_),fun w2 c2=> ?_⟩
 ·rw[List.getElem?_append]at hi hj;split at hi<;>split at hj
  ·exact hS.ov i j x y hi hj ha
  ·have:y=⟨g,e,c*sz,fun j=>cur.getD j undef⟩:=by
    have:=Ap hj;exact Ab.1 this
   subst this;exact absurd (Ax.2 ⟨x,Ap hi,ha⟩) kN
  ·have:x=⟨g,e,c*sz,fun j=>cur.getD j undef⟩:=Ab.1 (Ap hi);subst this;exact absurd (Ax.2 ⟨y,Ap hj,ha.symm⟩) kN
  ·have h1:=(Am.1 hi).1;have h2:=(Am.1 hj).1;simp only[List.length_singleton]at h1 h2;omega
 ·rw[AB,Ao]at hb;rcases hb with(h|h)|h
  ·exact .inl h
  ·exact .inr (.inl (Au some (Ab.1 h).symm))
  ·exact .inr (.inr h)
 ·refine hS.now.2.1.trans (c2.below hS.now.2.1.size fun b hb hu=> ?_);rw[AB,Ao]at hu;rcases hu with hu|hu
  ·obtain⟨x,hx,rfl⟩:=Ax.1 hu;obtain⟨j,hj⟩:=List.mem_iff_getElem?.1 hx;exact absurd hb (AY.2 ((Mem.sr hS fun _ h=>h.1).jC j hj))
  ·exact absurd hb (AY.2 ((Ab.1 hu)▸hg))
end
end Rv
theorem IM(U:tF)(q:Nat)(hq:q<4)(m:Mg)(k:Nat)(hk:k≤m.B.es.length)(ok:m.B.Ok)(s7:m.B.r=1→k<m.B.es.length)(w:tA)(hU:∀b,U b→b<w.heap.size)(hm:bV U w fun w=>nJ w m):cA 121 #[iV (q:Int),vF (je m) 47,iV (k:Int)] w fun x w'=>∃a' c' n',x= .returned (.slice a' n' c')∧n'=(dj q m.B k).length∧bV U w' (fun w=>RowK .i64 w a' (10*n') (aC (dj q m.B k)))∧n'≤c'∧(a'=none→c'=0)∧bZ w w':=by
 have kY:=hm.now.one;have hc:=hm.now.b.cap;have he:=jK ok.cO;have hlen:=ok.len;have acN:∀j,∀u∈ai ((m.B.es.drop k).take j),(Lit.int .i64 u).wf=true:=fun j u hu=>hm.now.b.row.wf u (KO hu);have HR:∀w,nJ w m→RowK .i64 w (gM m.a k 6 m.c) (6*(m.B.es.length-k)) (ai (m.B.es.drop k)):=fun w h=>by
  have:=aaO h.b.row (k:=k) (m:=m.B.es.length-k) (c:=m.c) (by omega) hc;rwa [t_]at this
 refine en (H:=[]) 45 [vi (q:Int),vf 47 (je m),vi (k:Int)] Tryz.func121 rfl rfl (oE (G:=fun w=>nJ w m) hU hm) (r [] rfl fun α=> ?_);refine jj (fun w2 hS=>hS.zT w.heap.size 167 10) ?_;refine iC (X:=Nat×Value) ⟨fun x=>[(0,vi (q:Int)),(4,vp 0 0 (α 0)),(7,vv x.2),(14,vv (.slice (gM m.a k 6 m.c) (m.B.es.length-k) (m.c-k))),(15,vi ((m.B.es.length-k:Nat):Int)),(16,vi (x.1:Int))],fun _=>[⟨α 0,117,[.f 47 (je m)]⟩],fun x b=>x.2.ownBlock=some b∨U b,fun _ w=>nJ w m,fun x w'=>bZ w w'∧w'.ownsRow w.heap.size 167 10 x.2 (lz q m.B k x.1).length ((aC (lz q m.B k x.1)).map (.int .i64)),fun x=>x.1≤m.B.es.length-k,fun x=>m.B.es.length-k-x.1⟩ (0,.slice none 0 0) ⟨rfl,rfl,rfl,rfl,rfl,rfl,trivial⟩ (fun w hS=>hS) (Ak _) ?_;rintro f ⟨j,v7⟩ hj;have hj:j≤m.B.es.length-k:=hj;have hlj:=IK (q:=q) (B:=m.B) (k:=k) (j:=j) hj;by_cases aM:j<m.B.es.length-k
 ·obtain⟨e2,X8⟩:∃e2,(m.B.es.drop k)[j]? =some e2:=⟨(m.B.es.drop k)[j]'(by rw[AM];omega),Ag _⟩;obtain⟨bb,bo,hsa⟩:=oP (HR w hm.now) (by omega);refine sv 14 (vv (.slice (some ⟨bb,bo,none⟩) (m.B.es.length-k) (m.c-k))) (Au (fun b=>Value.slice b (m.B.es.length-k) (m.c-k)) hsa) (r [1] rfl fun _=>lf (q:=bo+j*6) rfl 6 (lF [iV e2.k,iV e2.p,iV e2.i,iV e2.b,iV e2.he,iV e2.hn]) (fun w hS=>jV (hsa▸HR w hS.now.1) (by omega) (rZ X8)) (sv 19 (vg [.o (iV e2.k),.o (iV e2.p),.o (iV e2.i),.o (iV e2.b),.o (iV e2.he),.o (iV e2.hn)]) rfl ?_));refine r [] rfl fun _=>qT 2 rfl ry (fun w hS=>hS.now.2.1.size) (fun _ _ h c=>cV h c (Aa _)) fun g c hc=> ?_;exact rz [1] [((j+1:Nat):Int)] rfl fun _=>b_ (j+1,_) ⟨rfl,rfl,rfl,(Au (fun b=>Value.slice b (m.B.es.length-k) (m.c-k)) hsa).symm,rfl,rfl,trivial⟩ (fun w hS=>(hS.take 1).sr fun w h=>⟨h.1,by rw[Ed X8,Ac,Ix];exact h.2⟩) (show j+1≤m.B.es.length-k by omega) (show m.B.es.length-k-(j+1)<m.B.es.length-k-j by omega)
 obtain rfl:j=m.B.es.length-k:=by omega
 by_cases hr:m.B.r=1
 case neg=>
  refine r [0,0] rfl fun _=>fin fun w1 hS=> ?_;have ho:w1.ownsRow w.heap.size 167 10 v7 (lz q m.B k (m.B.es.length-k)).length ((aC (lz q m.B k (m.B.es.length-k))).map (.int .i64)):=hS.now.2.2;obtain⟨a,c,rfl,db,jB,_,Qm,hf⟩:=RowK.eO ho (MO hq he (acN _));rw[hlj]at db jB;exact⟨a,c,m.B.es.length-k,by rw[hlj];rfl,by rw[yW hr,hlj],by rw[yW hr];exact bW db hf hU,jB,Qm,hS.now.2.1⟩
 have Jp:=s7 hr;obtain⟨ei,e9,ej⟩:=IL (q:=q) (k:=k) hr Jp;have acO:=IK (q:=q) (B:=m.B) (k:=k) (j:=m.B.es.length-k-1) (by omega);have N2:(lz q m.B k (m.B.es.length-k-1)++[(⟨6,q,m.B.e,0,lT⟩:Rec)]).length=m.B.es.length-k:=by rw[Ac,acO,BO];omega
 have vC:∀u∈aC (lz q m.B k (m.B.es.length-k-1)++[(⟨6,q,m.B.e,0,lT⟩:Rec)]),(Lit.int .i64 u).wf=true:=fun u hu=>by
  rw[show aC (lz q m.B k (m.B.es.length-k-1)++[(⟨6,q,m.B.e,0,lT⟩:Rec)])=aC (lz q m.B k (m.B.es.length-k-1))++aZ ⟨6,q,m.B.e,0,lT⟩ by simp[aC]]at hu;exact(Ao.1 hu).elim (MO hq he (acN _) u) (pf (by decide) hq he (by decide) qd u)
 refine ob (v:=v7) (l:=(lz q m.B k (m.B.es.length-k)).length) (L:=(aC (lz q m.B k (m.B.es.length-k))).map (.int .i64)) (by omega) hU fun g c F e0 qv Qt hF=> ?_;subst e0;have hF0:∀i,i<10*(lz q m.B k (m.B.es.length-k)).length→F i=iV ((aC (lz q m.B k (m.B.es.length-k))).getD i 0):=fun i hi=>by
  have:=hF i (by omega);rw[Ar]at this;rw[Ah];cases h:(aC (lz q m.B k (m.B.es.length-k)))[i]? with
  |none=>rw[h]at this;cases this
  |some y=>rw[h]at this;exact(Option.some.inj this).symm
 rw[ej]at hF0;have hF2:=Th (y:=⟨6,q,m.B.e,0,lT⟩) hF0;rw[acO]at hF2;refine sv 7 (vv (.slice (some ⟨g,0,none⟩) (m.B.es.length-k) c)) (Au (fun n=>Value.slice (some ⟨g,0,none⟩) n c) hlj) (rz [0,1,1] [((m.B.es.length-k-1:Nat):Int)] rfl fun _=>so (g:=lF [iV 6,iV (q:Int),iV m.B.e,iV 0,iV 0,iV 0,iV 0,iV 0,iV 0,iV 0]) rfl rfl rfl 1 rfl _ (fun _ _=>rfl) ?_ (RI rfl) (show 0+(m.B.es.length-k-1)*10+10≤c*10 by omega));refine r [] rfl fun _=>fin fun w1 hS=> ?_;have db:=Z0 (U:=U) (hS.at 1 rfl) (fun h=>hS.off _ (Ap (i:=1) rfl) h) (by rw[iw,N2];show _≤c*10;omega) (fun i hi=>hF2 i (by rw[iw]at hi;exact hi)) vC;rw[iw,N2]at db;exact⟨some ⟨g,0,none⟩,c,m.B.es.length-k,rfl,by rw[ei,N2],fun w2 c2=>by rw[ei];exact db w2 c2,by omega,(fun h=>by cases h),hS.now.2⟩
theorem Ee{P:Prop}{_:Decidable (¬P)}{α:Type}{x y z:α}(h:(if ¬P then x else y)=z):x=z∨P∧y=z:=by
 by_cases hp:P
 ·rw[if_neg (fun h=>h hp)]at h;exact .inr ⟨hp,h⟩
 ·rw[if_pos hp]at h;exact .inl h
theorem yX{B B':Bt}{ep CY er:Int}{l:List Ev}{la:Bool}(h:bj B ep CY l la=(B',er)):(B'=Bt.zero∧¬er=0)∨(B'.Ok∧er=0∧B.r=4∧B'=if la then(B.more (l.drop (B.es.length-CY.toNat))).broken else B.more (l.drop (B.es.length-CY.toNat))):=by
 have no:∀{e:Int},¬e=0→(Bt.zero,e)=(B',er)→B'=Bt.zero∧¬er=0:=fun h0 h=>⟨(AR h).1.symm,(AR h).2▸h0⟩;unfold bj at h;rcases Ee h with h|⟨_,h⟩
 ·exact .inl (no (by decide) h)
 rcases Ee h with h|⟨h4,h⟩
 ·exact .inl (no (by decide) h)
 rcases Ee h with h|⟨_,h⟩
 ·exact .inl (no (by decide) h)
 rcases Ee h with h|⟨_,h⟩
 ·exact .inl (no (by decide) h)
 rcases Ee h with h|⟨_,h⟩
 ·exact .inl (no (by decide) h)
 rcases Ee h with h|⟨ho,h⟩
 ·exact .inl (no (by decide) h)
 ·exact .inr ⟨(AR h).1▸ho,(AR h).2.symm,h4,(AR h).1.symm⟩
theorem Pu{B B':Bt}{ep CY:Int}{l:List Ev}{la:Bool}(h:bj B ep CY l la=(B',0)):B.es.length≤B'.es.length∧(B'.r=1→B.es.length<B'.es.length):=by
 rcases yX h with⟨_,h0⟩|⟨_,_,h4,rfl⟩
 ·exact absurd rfl h0
 ·cases la with
  |true=>
   simp only[if_true,Bt.broken,Bt.more,List.length_append,List.length_singleton];exact⟨by omega,fun _=>by omega⟩
  |false=>
   simp only[Bool.false_eq_true,if_false,Bt.more,List.length_append];exact⟨by omega,fun h=>by omega⟩
theorem qM{B B':Bt}{ep CY er:Int}{l:List Ev}{la:Bool}(h:bj B ep CY l la=(B',er)):B'.Ok:=by
 rcases yX h with⟨rfl,_⟩|⟨ho,_⟩
 ·exact Bt.cI
 ·exact ho
theorem Ti{es:List Ev}{s:St}{bw:List An}(h:bk es s bw):∀v∈es,v.Ok:=by
 induction h with
 |nil=>intro v hv;cases hv
 |snoc h hv st ih=>
  intro x hx;rcases Ao.1 hx with hx|hx
  ·exact ih x hx
  ·rw[Ab.1 hx];exact hv
theorem Pv{q k:Nat}{B:Bt}(hq:q<4)(ok:B.Ok):∀r∈dj q B k,r.fault=0:=by
 obtain⟨s,bw,ht⟩:=ok.told;have he:=jK ok.cO;have Kb:=Ti ht;have h5:∀es:List Ev,(∀v∈es,v∈B.es)→∀r∈es.map (fun e=>(⟨5,q,B.e,0,e⟩:Rec)),r.fault=0:=fun es Yt r hr=>by
  obtain⟨e,hm,rfl⟩:=Ax.1 hr;exact SR (.inr rfl) hq he (Kb e (Yt e hm))
 intro r hr;unfold dj at hr;split at hr
 ·rcases Ao.1 hr with hr|hr
  ·exact h5 _ (fun v hv=>Bj (List.dropLast_subset _ hv)) r hr
  ·rw[Ab.1 hr];exact aaP (by decide) (by decide) hq he (by decide)
 ·exact h5 _ (fun v hv=>Bj hv) r hr
theorem WX{q k:Nat}{B:Bt}(hr:B.r=1→k<B.es.length):(dj q B k).length=B.es.length-k:=by
 unfold dj;split
 ·rename_i h;have:=hr h;rw[Ac,AX,List.length_dropLast,AM,BO];omega
 ·rw[AX,AM]
section
variable{u:Nv}{v:Wv}{l:Lt}{B8:Bt}{er:Int}
theorem IP(h:bj (u.m l.q).B l.ep l.pl l.es l.la=(B8,er))(h0:¬er=0):takeN u.pure v.pure l=(u.pure,v.pure):=by
 unfold takeN;rw[h,if_pos h0]
theorem Ef(h:bj (u.m l.q).B l.ep l.pl l.es l.la=(B8,0))(hl:B8.es.length=(u.m l.q).B.es.length):takeN u.pure v.pure l=(u.pure,v.pure):=by
 unfold takeN;rw[h,if_neg (fun h=>h rfl),if_pos hl]
theorem Eg(h:bj (u.m l.q).B l.ep l.pl l.es l.la=(B8,0))(hl:¬B8.es.length=(u.m l.q).B.es.length)(hf:100000<u.dl.length+(bI (dj l.q B8 (u.m l.q).B.es.length)).length):takeN u.pure v.pure l=(u.pure,v.pure):=by
 unfold takeN pA;rw[h,if_neg (fun h=>h rfl),if_neg hl,if_neg (BE.2 hf)];rfl
theorem IQ(h:bj (u.m l.q).B l.ep l.pl l.es l.la=(B8,0))(hl:¬B8.es.length=(u.m l.q).B.es.length)(hf:u.dl.length+(bI (dj l.q B8 (u.m l.q).B.es.length)).length≤100000):takeN u.pure v.pure l=({u.pure with dl:=u.dl++bI (dj l.q B8 (u.m l.q).B.es.length),af:=some (.take l B8)},v.pure):=by
 unfold takeN pA;rw[h,if_neg (fun h=>h rfl),if_neg hl,if_pos hf];rfl
end
theorem WY(X N:Nat)(u:Nv)(v:Wv)(F U:tF)(w:tA)(hw:NW w X N u v F U)(P:Nat)(l:Lt)(a:tB)(c:Nat)(hq:l.q<4)(Yt:l.es.length≤2000)(hl:bV U w fun w=>eH w P l a c):cA 70 #[lp N,lp P] w fun x w'=>x= .returned (.tuple #[])∧∃u' v' F',Dn w X N u v F U (takeN u.pure v.pure l) u' v' F' w':=by
 have ho:aS (je (u.m l.q)) 47:=aag (hw.st.now.1.mo l.q hq).one;have acP:=hl.now.nil;have acQ:=hl.now.cap;refine en (H:=[nE X N u]) 58 [vp 0 0 N,vv (lp P)] Tryz.func70 rfl rfl (hw.init (G:=fun w=>eH w P l a c) hl) ?_;refine r [3] rfl fun α=>l1 rfl (iV (l.q:Int)) (fun w hS=>hS.now.1.2.b.at 3 (cK rfl)) (r [1] rfl fun _=>lo rfl rfl 0 rfl 47 (je (u.m l.q)) (fun i hi=>nG hq hi) ?_);refine r [] rfl fun β=>cut (X:=Nat×Int×Oh) (fun x=>[(2,vp 1 0 (α 0)),(3,vp 2 0 (α 1)),(4,vp 3 0 (β 0)),(5,vp 4 0 x.1),(6,vi x.2.1)]) (fun x=>[nE X N u,npE (α 0) 0 N,lpE (α 1) P,mgE (β 0) (u.m l.q),moE x.1 x.2.2.1 x.2.2.2.1 x.2.2.2.2.1 x.2.2.2.2.2]) (fun _ b=>F b∨(U b∧b≠N)) (fun x w=>((u.In w N∧∀r∈v.fl,nI w r)∧eH w P l a c)∧RL x.2.2 w) (fun _=>RW X (fun b=>b∈[N]) F w v F) (fun x=>bj (u.m l.q).B l.ep l.pl l.es l.la=(x.2.2.1,x.2.1)) ?_ (r [4] rfl fun _=>l1 rfl (iV l.ep) (fun w hS=>hS.now.1.2.b.at 17 (cK rfl)) (r [] rfl fun _=>l1 rfl (iV l.pl) (fun w hS=>hS.now.1.2.b.at 18 (cK rfl)) (r [] rfl fun _=>l1 rfl (.slice a l.es.length c) (fun w hS=>hS.now.1.2.b.at 19 (cK rfl)) (r [] rfl fun _=>l1 rfl (.bool l.la) (fun w hS=>hS.now.1.2.b.at 20 (cK rfl)) ?_))))
 case refine_2=>
  repeat' first|refine ER ?_ ?_|(refine cx (g:=120) rfl (fun y:Int×Oh=>vt [Kk y.2,.o (iV y.1)]) (fun y=>bj (u.m l.q).B l.ep l.pl l.es l.la=(y.2.1,y.1)∧aS y.2.2.2.2 41) (fun y=>RL y.2) ?_ ?_;exact fun w hS=>(IJ _ (u.m l.q).B (u.m l.q).a (u.m l.q).c (u.m l.q).g l.ep l.pl l.es a l.es.length c l.la w hS.ult (fun w2 c2=>(hS.g w2 c2).1.1.mo l.q hq) (hw.ok.ok l.q hq) (fun w2 c2=>(hS.g w2 c2).2.row) rfl acP acQ Yt).mono fun _ _ ⟨_,B8,er8,h0,fF,⟨a8,c8,g8,hy,hm8⟩,b⟩=>⟨(er8,B8,a8,c8,g8),by rw[h0,hy];rfl,b,⟨fF,hm8.now.one⟩,fun _=>hm8⟩;rintro⟨er8,B8,a8,c8,g8⟩ ⟨fF,o8⟩)|refine rs [] rfl rfl fun _=> ?_
  all_goals exact b_ (_,er8,B8,a8,c8,g8) ⟨rfl,rfl,rfl,rfl,rfl,trivial⟩ (fun w hS=>hS.JG [0,1,2,3,4] (by decide)) fF Bi
 rintro f ⟨R5,er8,B8,a8,c8,g8⟩ fF;have fF:bj (u.m l.q).B l.ep l.pl l.es l.la=(B8,er8):=fF;by_cases h0:er8=0
 case neg=>exact r [1] rfl fun _=>fin fun w hS=>⟨rfl,u,v,F,Dn.fin hS hw.ub hw.nu (fun _ h=>⟨h.1.1.1,h.1.1.2⟩) hw.ok rfl rfl rfl rfl rfl (by rw[IP fF h0]) (by rw[IP fF h0])⟩
 subst h0;have hio:=Pu fF;have acR:=WX (q:=l.q) hio.2;have aiN:=hio.1;refine r [0,4] rfl fun _=>l1 rfl (iV (l.q:Int)) (fun w hS=>hS.now.1.1.2.b.at 3 (cK rfl)) (r [] rfl fun _=>cx rfl (fun y:Option Addr×Nat×Nat=>vv (.slice y.1 y.2.1 y.2.2)) (fun y=>y.2.1=(dj l.q B8 (u.m l.q).B.es.length).length) (fun y w=>RowK .i64 w y.1 (10*y.2.1) (aC (dj l.q B8 (u.m l.q).B.es.length))) (fun w hS=>(IM _ l.q hq ⟨B8,a8,c8,g8⟩ (u.m l.q).B.es.length hio.1 (qM fF) hio.2 w hS.ult (fun w2 c2=>(hS.g w2 c2).2)).mono fun _ _ ⟨a9,c9,n9,h0,hn9,hr9,hc9,hz9,b⟩=>⟨(a9,n9,c9),h0,b,hn9,fun _=>hr9⟩) ?_);intro y hn9;replace hn9:y.2.1=(dj l.q B8 (u.m l.q).B.es.length).length:=hn9;have SA:=hn9.trans acR;refine r [] rfl fun _=> ?_;by_cases sq:B8.es.length=(u.m l.q).B.es.length
 ·exact r [1] rfl fun _=>fin fun w hS=>⟨rfl,u,v,F,Dn.fin hS hw.ub hw.nu (fun _ h=>⟨h.1.1.1.1,h.1.1.1.2⟩) hw.ok rfl rfl rfl rfl rfl (by rw[Ef fF sq]) (by rw[Ef fF sq])⟩
 refine r [0] rfl fun _=>c0 rfl fun w1 hS=> ?_;obtain⟨oh,hu2,hu3⟩:=hS.qR;refine(jd X N u.i u.da u.dl.length u.dc u.dl u.sy (fun p=>je (u.m p)) u.hn u.he u.wt u.af u.tu u.ct u.ub u.sk (.func 122) #[] #[.pointer (some ⟨α 0,0,none⟩),.pointer (some ⟨α 1,0,none⟩),.pointer (some ⟨R5,0,none⟩)] (dj l.q B8 (u.m l.q).B.es.length) y.1 y.2.1 y.2.2 _ (hS.at 0 rfl) _ oh hu2 (fun w2 cc=>⟨(hu3 w2 cc).1.1.1.1.row,(hu3 w2 cc).2⟩) hw.ok.nil hw.ok.cap hw.ok.max hw.ok.len hw.ok.s0 hw.ok.s1 hn9 (by have:=(qM fF).len;omega) (Pv hq (qM fF))).mono ?_;rintro _ w2 ⟨k,rfl,ch,⟨rfl,iX,a2,c2,uW,st2,jB,qV,sD⟩|⟨rfl,iX,uW⟩⟩
 ·refine⟨vv (.bool true),_,_,rfl,ch,uW,st2,r [] rfl fun _=>dh rfl fun w3 hS=> ?_⟩;let u2:Nv:={u with da:=a2,dc:=c2,dl:=u.dl++bI (dj l.q B8 (u.m l.q).B.es.length),af:= .func (.func 122) #[] #[.pointer (some ⟨α 0,0,none⟩),.pointer (some ⟨α 1,0,none⟩),.pointer (some ⟨R5,0,none⟩)],ax:=some (.take l B8),ad:=⟨α 0,α 1,R5,0,P,a,c,⟨B8,a8,c8,g8⟩⟩};replace hS:=((hS.take 1).add (hS.kept 4 rfl 1 (cK rfl))).add (hS.kept 1 rfl 1 (cK rfl))|>.add (hS.kept 2 rfl 1 (cK rfl))
  replace hS:=hS.congr 0 rfl (lU X u2) (fun i _=>by simp only[u2,lU,List.length_append];rfl);exact⟨rfl,u2,v,F,Dn.fin hS hw.ub hw.nu (fun _ h=>⟨⟨by rw[Ac];exact h.1.1.1.2,h.1.1.1.1.1.1.1.1.mo,⟨rfl,h.1.1.2,h.1.2,h.2,h.1.1.1.1.1.1.2,h.1.1.1.1.1.2,rfl⟩,h.1.1.1.1.1.1.1.1.wl⟩,h.1.1.1.1.1.1.1.2⟩) (⟨hw.ok.ok,qV,by rw[Ac];exact jB,sD,by rw[Ac];exact iX,hw.ok.s0,by rw[Ac];show u.sy≤_;have:=hw.ok.s1;omega,hw.ok.i5,⟨hq,qM fF⟩⟩) rfl rfl rfl rfl rfl (by rw[IQ fF sq iX]) (by rw[IQ fF sq iX])⟩
 ·refine⟨vv (.bool false),_,fun _=>True,rfl,ch,uW,fun _ _=>trivial,r [] rfl fun _=>dh rfl fun w hS=> ?_⟩;exact⟨rfl,u,v,F,Dn.fin hS hw.ub hw.nu (fun _ h=>⟨h.1.1.1.1.1,h.1.1.1.1.2⟩) hw.ok rfl rfl rfl rfl rfl (by rw[Eg fF sq iX]) (by rw[Eg fF sq iX])⟩
end
theorem aae{l:Lt}(h:mD l):∃g,II l.kd=some g∧S7 g l:=by
 rcases h.kd with hk|hk|hk|hk|hk
 ·refine⟨67,by rw[hk];decide,by kernel_rfl,fun X N u v F U w P a c hw hl h1 h2=> ?_⟩;have e:∀n s,cJ n s l=gy n s l:=fun n s=>by simp[cJ,hk]
  rw[e];exact S2 X N u v F U w hw P l a c h.q h.op hl h1 h2
 ·refine⟨68,by rw[hk];decide,by kernel_rfl,fun X N u v F U w P a c hw hl h1 h2=> ?_⟩;have e:∀n s,cJ n s l=jL n s l:=fun n s=>by simp[cJ,hk]
  rw[e];exact SY X N u v F U w hw P l a c h.q hl h1 h2
 ·refine⟨69,by rw[hk];decide,by kernel_rfl,fun X N u v F U w P a c hw hl h1 h2=> ?_⟩;have e:∀n s,cJ n s l=h_ n s l:=fun n s=>by simp[cJ,hk]
  rw[e];exact SZ X N u v F U w hw P l a c h.q hl h1 h2
 ·refine⟨70,by rw[hk];decide,by kernel_rfl,fun X N u v F U w P a c hw hl h1 h2=> ?_⟩;have e:∀n s,cJ n s l=takeN n s l:=fun n s=>by simp[cJ,hk]
  rw[e];exact WY X N u v F U w hw P l a c h.q h.es hl
 ·refine⟨71,by rw[hk];decide,by kernel_rfl,fun X N u v F U w P a c hw hl h1 h2=> ?_⟩;have e:∀n s,cJ n s l=jM n s l:=fun n s=>by simp[cJ,hk]
  rw[e];exact SX X N u v F U w hw P l a c h.q hl
def fG(s:tK)(b:Nat):Prop:=∃o n c,s= .slice (some ⟨b,o,none⟩) n c
theorem ft.blk{w:tA}{B:Nat}{s:tK}{ls:List Lr}(h:ft w B s ls){b:Nat}(hb:fG s b):b=B:=by
 obtain⟨o,n,c,rfl⟩:=hb;obtain⟨a,c',he,_,_,⟨rfl,_⟩|⟨o',n',f,rfl,_⟩⟩:=h.ex
 ·cases he
 ·cases he;rfl
theorem ft.still{w w':tA}{B:Nat}{s:tK}{ls:List Lr}(h:ft w B s ls)(hb:fG s B→w'.heap[B]? =w.heap[B]?):ft w' B s ls:=by
 obtain⟨a,c,rfl,hl,hm,⟨rfl,rfl⟩|⟨o,n,f,rfl,fb,hn,hk⟩⟩:=h.ex
 ·exact⟨none,0,rfl,hl,hm,.inl ⟨rfl,rfl⟩⟩
 ·exact⟨_,c,rfl,hl,hm,.inr ⟨o,n,f,rfl,fb.same (hb ⟨_,_,_,rfl⟩),hn,hk⟩⟩
theorem ft.lt{w:tA}{B:Nat}{s:tK}{ls:List Lr}(h:ft w B s ls){b:Nat}(hb:fG s b):b<w.heap.size:=by
 obtain⟨o,n,c,rfl⟩:=hb;obtain⟨a,c',he,_,_,⟨rfl,_⟩|⟨o',n',f,rfl,fb,_⟩⟩:=h.ex
 ·cases he
 ·cases he;exact fb.lt
theorem ft.any{w:tA}{B C:Nat}{s:tK}{ls:List Lr}(h:ft w B s ls)(hn:¬fG s B):ft w C s ls:=by
 obtain⟨a,c,rfl,hl,hm,⟨rfl,rfl⟩|⟨o,n,f,rfl,fb,_,hk⟩⟩:=h.ex
 ·exact⟨none,0,rfl,hl,hm,.inl ⟨rfl,rfl⟩⟩
 ·exact absurd ⟨_,_,_,rfl⟩ hn
theorem IU{w':tA}{R c n o:Nat}{ls:List Lr}{r:Lr}{f:tD}(hl:ls.length+1≤c)(hm:c≤maxLen)(fb:aY w' R 171 n f)(hn:o+c≤n)(h1:∀k r,ls[k]? =some r→f (o+k)=lp r.p)(h2:f (o+ls.length)=lp r.p):ft w' R (.slice (some ⟨R,o,none⟩) (ls.length+1) c) (ls++[r]):=by
 refine⟨_,c,by rw[Ac,BO],by rw[Ac,BO];exact hl,hm,.inr ⟨o,n,f,rfl,fb,hn,fun k x hx=> ?_⟩⟩;by_cases hk:k<ls.length
 ·rw[AD hk]at hx;exact h1 k x hx
 ·rw[AE (by omega)]at hx;have h0:=(Am.1 hx).1;rw[BO]at h0;obtain rfl:k=ls.length:=by omega
  simp only[Nat.sub_self,List.getElem?_cons_zero,Option.some.injEq]at hx;rw[←hx];exact h2
section
variable{P:tY}{ops:tP}{Q:tI}{V:tW}{fx fl:tW}{n:Nat}{f:tD}{w:tA}{i:Nat}{t:Ord}{o:Oper}{d:Nat}
theorem afT{s kj b B:Nat}{x y:tU}{g:tD}{v:tK}{ls:List Lr}{r:Lr}(ht:jv P s 171 1 kj=true)(hr:ft w B v ls)(hl:(ls.length+1)*kj≤140737488355328)(vS:ls.length+1≤maxLen)(fb:aY w b 171 1 g)(hg:g 0=lp r.p)(Pa:fx.contains i=true)(ho:ops[i]? =some o)(hd:o.dst=some d)(hw:Region.wanted o (yielded ops (kK n f))=true)(hK:jh n ops=true)(hp:o.op= .call ⟨.builtin .append,#[x,y],#[s,s]⟩)(hx:ev f x=v)(hy:ev f y= .slice (some ⟨b,0,none⟩) 1 1)
  (h:∀w' v' B',ft w' B' v' (ls++[r])→dm (fG v) w w'→(∀b,fG v' b→fG v b∨w.heap.size≤b)→WF P ops Q V fx fl t n (up f d v') w'):WF P ops Q V fx fl (.ef i t) n f w:=by
 obtain⟨hu,ti,z,hi,hz,hs,wI,LA,iE⟩:=Dh ht;have p_:∀u∈cm g 0 1,u.oneCell'=true:=fun u hu=>by
  simp only[cm,List.mem_map,List.mem_range,Nat.zero_add]at hu;obtain⟨j,hj,rfl⟩:=hu;obtain rfl:j=0:=by omega
  rw[hg];rfl
 have hcut:cm g 0 1=[lp r.p]:=by simp[cm,hg]
 have grown:∀{v':tK} {w':tA},w'.ownsRow w.heap.size 171 1 v' (ls.length+1) ((ls.map fun r=>lp r.p)++[lp r.p])→∃R c,v'= .slice (some ⟨R,0,none⟩) (ls.length+1) c∧w.heap.size≤R∧ft w' R v' (ls++[r]):=fun {v' w'} ho=>by
  obtain⟨_,⟨e1,h0⟩|⟨R,c,cur,e1,hge,hb,qv,Qt,vx,KP⟩⟩:=ho
  ·omega
  ·refine⟨R,c,e1,hge, ?_⟩;rw[e1];have cell:∀j u,((ls.map fun r=>lp r.p)++[lp r.p])[j]? =some u→cur.getD j undef=u:=fun j u hj=>by
    rw[←KP]at hj;rw[AP]at hj;split at hj
    ·rw[BV,←BP,hj];rfl
    ·cases hj
   refine IU qv Qt (EL hb vx) (by omega) (fun k x hx=> ?_) ?_
   ·have hk:=(Am.1 hx).1;exact cell (0+k) _ (by rw[Nat.zero_add,List.getElem?_append_left (by simpa using hk),List.getElem?_map,hx];rfl)
   ·exact cell (0+ls.length) _ (by rw[Ae,AE (by simp)];simp)
 obtain⟨a,c,rfl,qv,hm,⟨rfl,rfl⟩|⟨off,m,f0,rfl,fB,hn,hk⟩⟩:=hr.ex
 ·obtain rfl:ls=[]:=AU.1 (by omega);have own:w.ownsRow w.heap.size 171 1 (.slice none 0 0) 0 []:=⟨by simp,.inl ⟨rfl,rfl⟩⟩;obtain⟨g1,cap,w1,s7,ho1,hgr,hat,aM⟩:=run_append_lies (P:=P) w s o.type w.heap.size 171 ti z 1 kj hu hi hz hs wI LA iE _ 0 _ own ⟨b,0,none⟩ 1 1 (cm g 0 1) (by simp[bK]) (wJ fb) p_ (by omega) (by unfold maxLen;omega) (by simpa using hl) (Nat.le_refl _) w.heap.size rfl;rw[hcut]at ho1;obtain⟨R,c,e1,hge,db⟩:=grown (v':= .slice (some ⟨g1,0,none⟩) (0+1) cap) ho1;refine oz ho hd hw hK (rN hp hx hy s7) (gk Pa) (h _ _ R db ⟨hgr.os,hgr.tape,hgr.output,hgr.size,fun x hx _=>hgr.block x hx (by simp[Value.ownBlock])⟩ fun b hb=> .inr ?_);rw[db.blk hb];exact hge
 ·by_cases Eh:ls.length+1≤c
  ·have s7:=run_append_room_cells (P:=P) w s o.type 171 ti hu hi B off ls.length c ⟨b,0,none⟩ 1 1 (cm g 0 1) (by simp[bK,hs]) (wJ fb) p_ Eh (fun j hj=>by
    rw[bK]at hj
    rw[hs,fB.at _ (by omega)];rfl) (fun j _=>fB.free _)
   rw[hs,BC]at s7;have tn:=av.sH B (cm g 0 1) (off+ls.length) w;refine oz ho hd hw hK (rN hp hx hy s7) (gk Pa) (h _ _ B (IU Eh hm (fB.put (off+ls.length) 1 g (by omega)) hn (fun k x hx=> ?_) ?_) ⟨tn.os,tn.tape,tn.output,BZ tn.size.symm,fun x _ hx=>tn.block x fun e=>hx (e▸⟨_,_,_,rfl⟩)⟩ fun b hb=> .inl ?_)
   ·rw[pH _ _ _ _ _ (.inl (by have:=(Am.1 hx).1;omega))];exact hk k x hx
   ·have:=EB f0 (off+ls.length) 1 g 0 (by omega);rw[Nat.add_zero]at this;rw[this,hg]
   ·obtain⟨o1,n1,c1,e⟩:=hb;cases e;exact⟨_,_,_,rfl⟩
  ·obtain⟨v1,w1,s7,ho1,hgr⟩:=run_append_arg_grows (P:=P) w s o.type 171 ti z 1 kj hu hi hz hs wI LA iE ⟨B,off,none⟩ ls.length c (ls.map fun r=>lp r.p) (by simp) (fun j u hj=>by
    rw[Ar]at hj;cases hx:ls[j]? with
    |none=>rw[hx]at hj;cases hj
    |some y=>
     rw[hx]at hj;cases hj;have aM:=(Am.1 hx).1;rw[BG,fB.at _ (by omega),hk j y hx]) ⟨b,0,none⟩ 1 1 (cm g 0 1) (by simp[bK]) (wJ fb) (by omega) vS hl
   rw[hcut]at ho1;obtain⟨R,c',e1,hge,db⟩:=grown ho1;refine oz ho hd hw hK (rN hp hx hy s7) (gk Pa) (h _ _ R db ⟨hgr.os,hgr.tape,hgr.output,hgr.size,fun x hx _=>hgr.block x hx (by simp)⟩ fun b hb=> .inr ?_);rw[db.blk hb];exact hge
end
section
open Rv
structure Tw(X N:Nat)(v:Wv)(F:tF)(B:Nat)(s0 s:tK)(ls:List Lr)(w0 x:tA):Prop where
 wo:WO x X v F
 mv:Mv (fun b=>b=N∨fG s0 b) w0 (fun b=>b=N∨fG s b) x
 rw:ft x B s ls
section
variable{P:tY}{ops:tP}{Q:tI}{V:tW}{fx fl:tW}{n:Nat}{f:tD}{w:tA}{i:Nat}{t:Ord}{o:Oper}{d:Nat}
theorem Tw.init{X N Tn nn B:Nat}{fN:tD}{v:Wv}{F:tF}{s:tK}{ls:List Lr}{G:tJ}(hW:WO w X v F)(hb:aY w N Tn nn fN)(hN:¬F N)(hr:ft w B s ls)(hs:∀b,fG s b→b≠N)(g:bV (fun b=>b=N∨fG s b) w G):Mem w [⟨N,Tn,nn,fN⟩] (fun b=>fG s b∨False) G (Tw X N v F B s s ls w):=by
 have hm:=Mem.begin (H:=[⟨N,Tn,nn,fN⟩]) (M:=fun b=>fG s b∨False) (G:=G) (fun e he=>by cases List.mem_singleton.1 he;exact hb) (by simp) (fun e he=>by cases List.mem_singleton.1 he;exact fun h=>h.elim (fun h=>hs _ h rfl) False.elim) (fun b h=>h.elim (fun h=>hr.lt h) False.elim) (fun w2 c2=>g w2 (c2.mono fun b h=>h.elim (fun h=> .inl (by simpa using h)) fun h=>h.elim .inr False.elim));refine⟨hm.ik,hm.ov,hm.off,hm.mlt,hm.g,fun w2 c2=> ?_⟩;have hc:dm (fun b=>b=N) w w2:=c2.mono fun b h=>by simpa using h
 exact⟨hW.EI hc fun b e=>e▸hN,⟨hc.mono fun _=> .inl,fun _=> .inl,fun b h=>Aj (h.elim (fun e=>e▸hb.lt) fun h=>hr.lt h) hc.size⟩,hr.still fun h=>hc.block B (hr.lt h) (hs B h)⟩
theorem afU{s kj b B X N Tn nn:Nat}{x y:tU}{g fN:tD}{v:Wv}{F:tF}{s0 vs:tK}{ls:List Lr}{r:Lr}{w0:tA}{G:tJ}(ht:jv P s 171 1 kj=true)(hS:Mem w [⟨N,Tn,nn,fN⟩] (fun b=>fG vs b∨False) G (Tw X N v F B s0 vs ls w0))(hF:∀b,fG vs b→¬F b)(hN:¬F N)(hl:(ls.length+1)*kj≤140737488355328)(vS:ls.length+1≤maxLen)(fb:aY w b 171 1 g)(hg:g 0=lp r.p)(Pa:fx.contains i=true)(ho:ops[i]? =some o)(hd:o.dst=some d)(hw:Region.wanted o (yielded ops (kK n f))=true)(hK:jh n ops=true)(hp:o.op= .call ⟨.builtin .append,#[x,y],#[s,s]⟩)(hx:ev f x=vs)(hy:ev f y= .slice (some ⟨b,0,none⟩) 1 1)
  (h:∀w' v' B',Mem w' [⟨N,Tn,nn,fN⟩] (fun b=>fG v' b∨False) G (Tw X N v F B' s0 v' (ls++[r]) w0)→WF P ops Q V fx fl t n (up f d v') w'):WF P ops Q V fx fl (.ef i t) n f w:=by
 have aM:=(hS.at 0 rfl).lt;refine afT ht hS.now.2.rw hl vS fb hg Pa ho hd hw hK hp hx hy fun w' v' B' hr hc hb=>h w' v' B' ?_;have CO:Mv (fG vs) w (fG v') w':=⟨hc,hb,fun b hb=>hr.lt hb⟩;refine hS.mv (F:=fG vs) (F':=fG v') (T:=fun _=>False) CO fun w2 c2=> ?_;have jB:dm (fun b=>b=N) w' w2:=c2.mono fun b hb=>by simpa using hb
 have m2:Mv (fun b=>b=N∨fG vs b) w (fun b=>b=N∨fG v' b) w':=CO.less (fun _=> .inr) fun b hb=>hb.elim (fun e=> .inr ⟨.inl e,e▸aM⟩) .inl;refine⟨(hS.now.2.wo.EI hc hF).EI jB fun b e=>e▸hN,(hS.now.2.mv.trans m2).trans ⟨jB.mono fun _=> .inl,fun _=> .inl,fun b hb=>Aj (m2.l b hb) jB.size⟩,hr.still fun h1=>jB.block B' (hr.lt h1) fun e=> ?_⟩;rcases hb B' h1 with h2|h2
 ·exact hS.off _ (Ab.2 rfl) (.inl (e▸h2))
 ·exact absurd aM (AY.2 (e▸h2))
end
namespace Rv
section
variable{n:Nat}{ops:tP}{f:Nat→AV}{fn:Func}{Rr:Ending→World→Prop}{Φ:tJ}{ks:List Fr}{t:Ord}{i d:Nat}{md:Md}
theorem ar{s kj b B X N Tn:Nat}{x y:AV}{g:tD}{v:Wv}{F:tF}{s0 vs:tK}{ls:List Lr}{w0:tA}{sg:List Sg}(r:Lr)(h1:Qk n ops f i=some (d,s,x,y))(ht:jv Tryz.prog s 171 1 kj=true)(hF:∀b,fG vs b→¬F b)(hN:¬F N)(hl:(ls.length+1)*kj≤140737488355328)(vS:ls.length+1≤maxLen)(fb:∀w,Φ w→aY w b 171 1 g)(hg:g 0=lp r.p)(hn:∀v' B',G Tryz.prog fn Rr n (fun b=>fG v' b∨False) Φ (Tw X N v F B' s0 v' (ls++[r]) w0) (.g md ops t::ks) (ua f d (vv v')) [⟨N,Tn,sg⟩])(hx:x.val=vs:=by rfl)(hy:y.val= .slice (some ⟨b,0,none⟩) 1 1:=by rfl)(QQ:md.vs.contains i=false:=by rfl):G Tryz.prog fn Rr n (fun b=>fG vs b∨False) Φ (Tw X N v F B s0 vs ls w0) (.g md ops (.ef i t)::ks) f [⟨N,Tn,sg⟩]:=by
 intro w hS hK;obtain⟨hK1,il⟩:=bn.1 hK;show WF Tryz.prog ops (kq Tryz.prog fn Rr ks) md.va (oD md ops) (uv md ops) (.ef i t) n (cn f) w;obtain⟨o,p,r2,ho,hd,hw,hp,rfl,rfl⟩:=xw h1
 have GC:(oD md ops).contains i=true:=kM ho (by
  unfold nc;rw[QQ,hp]
  cases md.cb<;>rfl)
 refine afU (r:=r) ht hS hF hN hl vS (fb w hS.now.1) hg GC ho hd (fC hw) (dI hK1).1 hp ((bz f p).symm.trans hx) ((bz f r2).symm.trans hy) fun w' v' B' zR=> ?_;have:=hn v' B' w' zR (bn.2 ⟨hK1,il⟩);rw[jz]at this;exact this
end
end Rv
def toN(u:Nv)(r:Lr)(s:tK):Nv:=if u.ub=true then {u with wt:=s,wl:=u.wl++[r]}else u
theorem toNode_wo(X:Nat)(v:Wv)(F:tF)(w:tA)(N i:Nat)(u:Nv)(B:Nat)(P:Nat)(l:Lt)(a:tB)(c:Nat)(hi:i<5)(hd:l.dst=(i:Int))(hNi:v.nd i=N)(hW:WO w X v F)(DW:NB w X N u)(Yp:¬F N)(Gi:ft w B u.wt u.wl)(hbn:∀b,fG u.wt b→b≠N)(hbf:∀b,fG u.wt b→¬F b)(hl:bV (fun b=>b=N∨fG u.wt b) w fun w=>eH w P l a c)(hlen:u.wl.length≤1000000000000):cA 72 #[lp X,lp P] w fun x w'=>x= .returned (.tuple #[])∧∃u' B',u'=toN u ⟨P,l,a,c⟩ u'.wt∧NB w' X N u'∧ft w' B' u'.wt u'.wl∧Mv (fun b=>b=N∨fG u.wt b) w (fun b=>b=N∨fG u'.wt b) w':=by
 have hS:=Tw.init hW DW Yp Gi hbn hl;rcases mw:u.ub with _|_
 ·obtain⟨u1,rfl⟩:∃u1:Nv,u={u1 with ub:=false}:=⟨u,by rw[←mw]⟩;exact en (H:=[nE X N {u1 with ub:=false}]) 30 [vv (lp X),vv (lp P)] Tryz.func72 rfl rfl hS (r [1] rfl fun _=>l1 rfl (iV (i:Int)) (fun w hS=>by rw[←hd];exact hS.now.1.b.at 2 (cK rfl)) (r [1] rfl fun _=>l1 (q:=0+i*1) rfl (lp N) (fun w hS=>by rw[show 0+i*1=i by omega,←hNi];exact hS.now.2.wo.nd_ hi) (sv 13 (vp 0 0 N) rfl (r [] rfl fun _=>dh rfl fun w hS=>⟨rfl,_,B,rfl,hS.at 0 rfl,hS.now.2.rw,hS.now.2.mv⟩))))
 ·obtain⟨u1,rfl⟩:∃u1:Nv,u={u1 with ub:=true}:=⟨u,by rw[←mw]⟩;refine en (H:=[nE X N {u1 with ub:=true}]) 30 [vv (lp X),vv (lp P)] Tryz.func72 rfl rfl hS (r [1] rfl fun _=>l1 rfl (iV (i:Int)) (fun w hS=>by rw[←hd];exact hS.now.1.b.at 2 (cK rfl)) (r [1] rfl fun _=>l1 (q:=0+i*1) rfl (lp N) (fun w hS=>by rw[show 0+i*1=i by omega,←hNi];exact hS.now.2.wo.nd_ hi) (sv 13 (vp 0 0 N) rfl (r [] rfl fun α=>kp 1 rfl (ar ⟨P,l,a,c⟩ rfl gz hbf Yp (by omega) (by unfold maxLen;omega) (fun w h=>h.2) rfl fun v3 B3=> ?_)))));refine UN fun w1 wN=> ?_;obtain⟨a3,c3,rfl,_⟩:=wN.now.2.rw.ex;refine r [] rfl fun _=>gn 0 (lU X {u1 with ub:=true,wt:= .slice a3 (u1.wl++[(⟨P,l,a,c⟩:Lr)]).length c3,wl:=u1.wl++[⟨P,l,a,c⟩]}) ?_;exact dh rfl fun w hS=>⟨rfl,_,B3,rfl,hS.at 0 rfl,hS.now.2.rw,hS.now.2.mv⟩
end
def yY(k:Int):Option Nat:=if k=0∨k=2∨k=3∨k=4∨k=7 then some 72 else if k=1 then some 73 else if k=5 then some 74 else if k=6 then some 75 else none
def WZ(w:tA)(X:Nat)(tk:tK):Prop:=∀k g,yY k=some g→(Instr.lookup 112 tk (iV k) false).run Tryz.prog w= .ok (.func (.func g) #[lp X] #[]) w
def CU(us:Nat→Nv)(v:Wv)(F:tF)(b:Nat):Prop:=F b∨(∃i,i<5∧b=v.nd i)∨∃i,i<5∧fG (us i).wt b
def CT(us:Nat→Nv)(v:Wv)(F:tF)(b:Nat):Prop:=CU us v F b∨b<v.nd 5
structure CW(w:tA)(X:Nat)(us:Nat→Nv)(v:Wv)(F:tF):Prop where
 wo:WO w X v F
 nb:∀i,i<5→NB w X (v.nd i) (us i)
 ok:∀i,i<5→(us i).Ok
 inj:∀i j,i<5→j<5→v.nd i=v.nd j→i=j
 nf:∀i,i<5→¬F (v.nd i)
 wr:∀i,i<5→∃B,ft w B (us i).wt (us i).wl
 wf:∀i b,i<5→fG (us i).wt b→¬F b
 wn:∀i b j,i<5→j<5→fG (us i).wt b→b≠v.nd j
 ww:∀i b j,i<5→j<5→fG (us i).wt b→fG (us j).wt b→i=j
 st:bV (CT us v F) w fun w=>((∀i,i<5→(us i).In w (v.nd i))∧∀r∈v.fl,nI w r)∧WZ w X v.tk∧wD w v.dd
 ln:v.nd 5≤w.heap.size
 lo:∀b,CU us v F b→v.nd 5≤b
section
variable{w w':tA}{X i:Nat}{us:Nat→Nv}{v v':Wv}{F F':tF}{u':Nv}
theorem CW.lt(h:CW w X us v F):∀b,CU us v F b→b<w.heap.size:=fun b hb=>by
 rcases hb with hb|⟨j,hj,rfl⟩|⟨j,hj,hb⟩
 ·exact h.wo.lt b hb
 ·exact(h.nb j hj).lt
 ·obtain⟨B,hr⟩:=h.wr j hj;exact hr.lt hb
theorem CW.CD(h:CW w X us v F):∀b,CT us v F b→b<w.heap.size:=fun b hb=>hb.elim (h.lt b) fun e=>Aj e h.ln
theorem CW.nw(h:CW w X us v F)(hi:i<5):NW w X (v.nd i) (us i) v F (CT us v F):=
 ⟨h.nb i hi,h.wo,h.nf i hi,h.CD,fun _ hb=> .inl (.inl hb),.inl (.inr (.inl ⟨i,hi,rfl⟩)),h.ok i hi,fun w2 c2=>⟨(h.st w2 c2).1.1 i hi,(h.st w2 c2).1.2⟩⟩
theorem bD{α:Type}{m:Nat→α}{q j:Nat}{x:α}(h:¬j=q):au m q x j=m j:=if_neg h
theorem CW.put(h:CW w X us v F)(hi:i<5)(m:Mv (fun b=>F b∨b=v.nd i∨fG (us i).wt b) w (fun b=>F' b∨b=v.nd i∨fG u'.wt b) w')(KQ:WO w' X v' F')(zv:v'.nd=v.nd)(KP:v'.tk=v.tk)(hdd:v'.dd=v.dd)(DW:NB w' X (v.nd i) u')(eC:u'.Ok)(Yp:¬F' (v.nd i))(Gi:∃B,ft w' B u'.wt u'.wl)(vC:∀b,fG u'.wt b→¬F' b)(hwn:∀b,fG u'.wt b→b≠v.nd i)(gI:bV (fun b=>CT us v F b∨F' b∨fG u'.wt b) w' fun w=>u'.In w (v.nd i)∧∀r∈v'.fl,nI w r):CW w' X (au us i u') v' F':=by
 have oth:∀j b,j<5→¬j=i→(b=v.nd j∨fG (us j).wt b)→b<w.heap.size∧¬(F b∨b=v.nd i∨fG (us i).wt b):=fun j b hj hn hb=>by
  rcases hb with rfl|hb
  ·exact⟨(h.nb j hj).lt,fun e=>e.elim (h.nf j hj) fun e=>e.elim (fun e=>hn (h.inj j i hj hi e)) fun e=>h.wn i _ j hi hj e rfl⟩
  ·obtain⟨B,hr⟩:=h.wr j hj;exact⟨hr.lt hb,fun e=>e.elim (h.wf j b hj hb) fun e=>e.elim (h.wn j b i hj hi hb) fun e=>hn (h.ww j b i hj hi hb e)⟩
 have Tj:∀j b,j<5→¬j=i→(b=v.nd j∨fG (us j).wt b)→¬(F' b∨b=v.nd i∨fG u'.wt b):=fun j b hj hn hb hf=>(m.f b hf).elim (oth j b hj hn hb).2 fun x=>absurd (oth j b hj hn hb).1 (AY.2 x);have hCU:∀b,(F b∨b=v.nd i∨fG (us i).wt b)→CU us v F b:=fun b hb=>hb.imp id fun hb=>hb.imp (fun e=>⟨i,hi,e⟩) fun e=>⟨i,hi,e⟩;have hs:=h.st.mv m (fun b hb=> .inl (hCU b hb));refine⟨KQ,fun j hj=> ?_,fun j hj=> ?_,fun j k hj hk=>zv▸h.inj j k hj hk,fun j hj=> ?_,fun j hj=> ?_,fun j b hj hb=> ?_,fun j b k hj hk hb=> ?_,fun j b k hj hk hb hc=> ?_,fun w2 c2=> ?_,by rw[zv];exact AN h.ln m.c.size,fun b hb=> ?_⟩
 ·rw[zv];by_cases e:j=i
  ·rw[e,az];exact DW
  ·rw[bD e];exact(h.nb j hj).same (m.c.block _ (h.nb j hj).lt (oth j _ hj e (.inl rfl)).2)
 ·by_cases e:j=i
  ·rw[e,az];exact eC
  ·rw[bD e];exact h.ok j hj
 ·rw[zv];by_cases e:j=i
  ·rw[e];exact Yp
  ·exact fun hf=>Tj j _ hj e (.inl rfl) (.inl hf)
 ·by_cases e:j=i
  ·rw[e,az];exact Gi
  ·rw[bD e];obtain⟨B,hr⟩:=h.wr j hj;exact⟨B,hr.still fun hb=>m.c.block _ (hr.lt hb) (oth j B hj e (.inr hb)).2⟩
 ·by_cases e:j=i
  ·rw[e,az]at hb;exact vC b hb
  ·rw[bD e]at hb;exact fun hf=>Tj j b hj e (.inr hb) (.inl hf)
 ·rw[zv];by_cases e:j=i
  ·rw[e,az]at hb;by_cases e2:k=i
   ·rw[e2];exact hwn b hb
   ·exact fun e3=>Tj k b hk e2 (.inl e3) (.inr (.inr hb))
  ·rw[bD e]at hb;exact h.wn j b k hj hk hb
 ·by_cases e:j=i
  ·by_cases e2:k=i
   ·rw[e,e2]
   ·rw[e,az]at hb;rw[bD e2]at hc;exact absurd (.inr (.inr hb)) (Tj k b hk e2 (.inr hc))
  ·rw[bD e]at hb;by_cases e2:k=i
   ·rw[e2,az]at hc;exact absurd (.inr (.inr hc)) (Tj j b hj e (.inr hb))
   ·rw[bD e2]at hc;exact h.ww j b k hj hk hb hc
 ·have c3:dm (fun b=>CT us v F b∨F' b∨fG u'.wt b) w' w2:=c2.mono fun b hb=>by
   rcases hb with(hb|⟨j,hj,e⟩|⟨j,hj,hb⟩)|hb
   ·exact .inr (.inl hb)
   ·exact .inl (.inl (.inr (.inl ⟨j,hj,zv▸e⟩)))
   ·by_cases e:j=i
    ·rw[e,az]at hb;exact .inr (.inr hb)
    ·rw[bD e]at hb;exact .inl (.inl (.inr (.inr ⟨j,hj,hb⟩)))
   ·exact .inl (.inr (zv▸hb))
  have h1:=hs w2 (c3.mono fun b hb=>hb.imp id fun hb=>hb.imp id .inr);have h2:=gI w2 c3;rw[KP,hdd];refine⟨⟨fun j hj=> ?_,h2.2⟩,h1.2⟩;rw[zv];by_cases e:j=i
  ·rw[e,az];exact h2.1
  ·rw[bD e];exact h1.1.1 j hj
 ·rw[zv];have sq:(F' b∨b=v.nd i∨fG u'.wt b)→v.nd 5≤b:=fun hb=>(m.f b hb).elim (fun e=>h.lo b (hCU b e)) fun e=>AN h.ln e;rcases hb with hb|⟨j,hj,e⟩|⟨j,hj,hb⟩
  ·exact sq (.inl hb)
  ·rw[zv]at e;exact h.lo b (.inr (.inl ⟨j,hj,e⟩))
  ·by_cases e:j=i
   ·rw[e,az]at hb;exact sq (.inr (.inr hb))
   ·rw[bD e]at hb;exact h.lo b (.inr (.inr ⟨j,hj,hb⟩))
end
noncomputable def bH(ns:Nat→Nd)(s:Ws)(l:Lt):(Nat→Nd)×Ws:=
 if l.kd=1 then(ns,{s with td:=s.td++[⟨l.nu,l.an,l.pn,l.pe⟩]})
 else if l.kd=5 then(ns,mr (g_ s l) l)
 else if l.kd=6 then(ns,mr s l)
 else(au ns l.dst.toNat (if(ns l.dst.toNat).up=true then {ns l.dst.toNat with wt:=(ns l.dst.toNat).wt++[l]}else ns l.dst.toNat),s)
structure Tk(l:Lt):Prop where
 kd:l.kd=1∨(l.kd=5∧l.q<4∧-1000000000≤l.ep∧l.ep≤1000000000)∨(l.kd=6∧l.q<4)∨(mD l∧0≤l.dst∧l.dst<5)
structure Cd(w:tA)(X:Nat)(us:Nat→Nv)(v:Wv)(F:tF)(r:(Nat→Nd)×Ws)(qf:Nat→Nv)(v':Wv)(F':tF)(w':tA):Prop where
 cw:CW w' X qf v' F'
 mv:Mv (CU us v F) w (CU qf v' F') w'
 nd:v'.nd=v.nd
 tk:v'.tk=v.tk
 dd:v'.dd=v.dd
 n:(fun i=>(qf i).pure)=r.1
 s:v'.pure=r.2
section
variable{w w':tA}{X i:Nat}{us:Nat→Nv}{v v':Wv}{F F':tF}{u':Nv}
theorem CW.CP(h:CW w X us v F)(hi:i<5)(m:Mv (fun b=>F b∨b=v.nd i∨fG (us i).wt b) w (fun b=>F' b∨b=v.nd i∨fG u'.wt b) w')(zv:v'.nd=v.nd):Mv (CU us v F) w (CU (au us i u') v' F') w':=by
 refine m.less (fun b hb=>hb.imp id fun hb=>hb.imp (fun e=>⟨i,hi,e⟩) fun e=>⟨i,hi,e⟩) fun b hb=> ?_;rcases hb with hb|⟨j,hj,e⟩|⟨j,hj,hb⟩
 ·exact .inl (.inl hb)
 ·rw[zv]at e;have hc:CU us v F b:= .inr (.inl ⟨j,hj,e⟩);exact .inr ⟨hc,h.lt b hc⟩
 ·by_cases e:j=i
  ·rw[e,az]at hb;exact .inl (.inr (.inr hb))
  ·rw[bD e]at hb;have hc:CU us v F b:= .inr (.inr ⟨j,hj,hb⟩);exact .inr ⟨hc,h.lt b hc⟩
theorem qN{α:Type}(m:Nat→α)(q:Nat):au m q (m q)=m:=by
 funext j;by_cases e:j=q
 ·rw[e,az]
 ·exact bD e
theorem nS(us:Nat→Nv)(i:Nat)(u':Nv):(fun j=>(au us i u' j).pure)=au (fun j=>(us j).pure) i u'.pure:=by
 funext j;by_cases e:j=i
 ·rw[e,az,az]
 ·rw[bD e,bD e]
theorem CW.world(h:CW w X us v F)(m:Mv F w F' w')(KQ:WO w' X v' F')(zv:v'.nd=v.nd)(KP:v'.tk=v.tk)(hdd:v'.dd=v.dd)(gI:bV (fun b=>CT us v F b∨F' b) w' fun w=>∀r∈v'.fl,nI w r):CW w' X us v' F'∧Mv (CU us v F) w (CU us v' F') w':=by
 have h0:(0:Nat)<5:=by decide
 have aM:=h.lt;have uw:∀b,(b=v.nd 0∨fG (us 0).wt b)→CU us v F b:=fun b hb=> .inr (hb.imp (fun e=>⟨0,h0,e⟩) fun e=>⟨0,h0,e⟩);have Ju:∀b,(b=v.nd 0∨fG (us 0).wt b)→¬F b:=fun b hb=>hb.elim (fun e=>e▸h.nf 0 h0) (h.wf 0 b h0);have m':Mv (fun b=>F b∨b=v.nd 0∨fG (us 0).wt b) w (fun b=>F' b∨b=v.nd 0∨fG (us 0).wt b) w':=m.less (fun _=> .inl) fun b hb=>hb.imp id fun hb=>⟨.inr hb,aM b (uw b hb)⟩;have ux:∀b,(b=v.nd 0∨fG (us 0).wt b)→¬F' b:=fun b hb hf=>(m.f b hf).elim (Ju b hb) fun x=>absurd (aM b (uw b hb)) (AY.2 x);have hs:=h.st.mv m (fun b hb=> .inl (.inl hb));obtain⟨B,hr⟩:=h.wr 0 h0
 have MP:=h.put (u':=us 0) h0 m' KQ zv KP hdd ((h.nb 0 h0).same (m.c.block _ (h.nb 0 h0).lt (h.nf 0 h0))) (h.ok 0 h0) (ux _ (.inl rfl)) ⟨B,hr.still fun hb=>m.c.block B (hr.lt hb) (Ju B (.inr hb))⟩ (fun b hb=>ux b (.inr hb)) (fun b hb=>h.wn 0 b 0 h0 h0 hb) (fun w2 c2=>by
  have c3:dm (fun b=>CT us v F b∨F' b) w' w2:=c2.mono fun b hb=>hb.elim .inl fun hb=>hb.elim .inr fun hb=> .inl (.inl (uw b (.inr hb)))
  exact⟨(hs w2 c3).1.1 0 h0,gI w2 c3⟩)
 have CO:=h.CP (u':=us 0) (v':=v') h0 m' zv;rw[qN]at MP CO;exact⟨MP,CO⟩
theorem toNode_cw(h:CW w X us v F){P:Nat}{l:Lt}{a:tB}{c:Nat}(hl:bV (CT us v F) w fun w=>eH w P l a c)(hi:i<5)(hd:l.dst=(i:Int))(hlen:(us i).wl.length≤1000000000000):cA 72 #[lp X,lp P] w fun x w'=>x= .returned (.tuple #[])∧∃u',CW w' X (au us i u') v F∧Mv (CU us v F) w (CU (au us i u') v F) w'∧u'.pure=if(us i).ub=true then {(us i).pure with wt:=(us i).pure.wt++[l]}else(us i).pure:=by
 obtain⟨B,hr⟩:=h.wr i hi;have aa8:∀b,(b=v.nd i∨fG (us i).wt b)→CU us v F b:=fun b hb=> .inr (hb.imp (fun e=>⟨i,hi,e⟩) fun e=>⟨i,hi,e⟩);refine(toNode_wo X v F w (v.nd i) i (us i) B P l a c hi hd rfl h.wo (h.nb i hi) (h.nf i hi) hr (fun b hb=>h.wn i b i hi hi hb) (fun b hb=>h.wf i b hi hb) (hl.mono fun b _ hb=> .inl (aa8 b hb)) hlen).mono ?_;rintro x w' ⟨rfl,u',B',hu,DW,Gi,m⟩;have hF:∀b,F b→b<w.heap.size∧¬(b=v.nd i∨fG (us i).wt b):=fun b hb=>⟨h.wo.lt b hb,fun e=>e.elim (fun e=>h.nf i hi (e▸hb)) fun e=>h.wf i b hi e hb⟩;have m':Mv (fun b=>F b∨b=v.nd i∨fG (us i).wt b) w (fun b=>F b∨b=v.nd i∨fG u'.wt b) w':=m.less (fun _=> .inr) fun b hb=>hb.elim (fun hb=> .inr ⟨.inl hb,h.wo.lt b hb⟩) .inl;have KQ:WO w' X v F:=h.wo.still fun b hb=>m.c.block b (hF b hb).1 (hF b hb).2;have hs:=h.st.mv m (fun b hb=> .inl (aa8 b hb));have hl':=hl.mv m (fun b hb=> .inl (aa8 b hb));have Js:∀w,((us i).In w (v.nd i))→eH w P l a c→u'.In w (v.nd i):=fun w h1 h2=>by
  rw[hu];unfold toN;split
  ·exact⟨h1.row,h1.mo,h1.af,f_ h1.wl h2⟩
  ·exact h1
 have eC:u'.Ok:=by
  have h1:=h.ok i hi;rw[hu];unfold toN;split
  ·exact⟨h1.ok,h1.nil,h1.cap,h1.max,h1.len,h1.s0,h1.s1,h1.i5,h1.SJ⟩
  ·exact h1
 have hp:u'.pure=if(us i).ub=true then {(us i).pure with wt:=(us i).pure.wt++[l]}else(us i).pure:=by
  rw[hu];unfold toN;split
  ·show Nd.mk .. =Nd.mk ..;simp only[List.map_append,List.map_cons,List.map_nil]
  ·rfl
 have acS:∀b,fG u'.wt b→¬F b∧b≠v.nd i:=fun b hb=>by
  have hbN:b≠v.nd i:=fun e=>by
   obtain rfl:=Gi.blk hb;obtain⟨o,n,c',e1⟩:=hb;obtain⟨a',c2,e',_,_,⟨rfl,_⟩|⟨o',n',f,rfl,fb,_⟩⟩:=Gi.ex
   ·rw[e1]at e';cases e'
   ·have fx:=DW;rw[e]at fb;unfold NB aY at fx;unfold aY at fb;rw[fb]at fx;simp at fx
  refine⟨fun hf=> ?_,hbN⟩;rcases m.f b (.inr hb)with e|e
  ·exact(hF b hf).2 e
  ·exact absurd (hF b hf).1 (AY.2 e)
 refine⟨rfl,u',h.put hi m' KQ rfl rfl rfl DW eC (h.nf i hi) ⟨B',Gi⟩ (fun b hb=>(acS b hb).1) (fun b hb=>(acS b hb).2) (fun w2 c2=> ?_),h.CP hi m' rfl,hp⟩;have c3:dm (fun b=>CT us v F b∨b=v.nd i∨fG u'.wt b) w' w2:=c2.mono fun b hb=>hb.elim .inl fun hb=>hb.elim (fun hb=> .inl (.inl (.inl hb))) fun hb=> .inr (.inr hb);exact⟨Js w2 ((hs w2 c3).1.1 i hi) (hl' w2 c3),(hs w2 c3).1.2⟩
theorem IV(v:Wv)(l:Lt):((nN v l).nd=v.nd∧(nN v l).tk=v.tk∧(nN v l).dd=v.dd)∧(nN v l).fl=v.fl∧(nN v l).pure=g_ v.pure l:=by
 unfold nN g_;by_cases h:de v.pn v.pe∧¬v.pn l.q= -1∧yo (v.pn l.q) (v.pe l.q) (l.ep-1) l.fr=0
 ·rw[if_pos h,if_pos h];exact⟨⟨rfl,rfl,rfl⟩,rfl,rfl⟩
 ·rw[if_neg h,if_neg h];exact⟨⟨rfl,rfl,rfl⟩,rfl,rfl⟩
theorem uc(h:CW w X us v F){P:Nat}{l:Lt}{a:tB}{c:Nat}(hl:bV (CT us v F) w fun w=>eH w P l a c)(ok:Tk l)(vu:v.fl.length≤1000000000000)(htd:v.td.length≤1000000000000)(FF:∀i,i<5→(us i).wl.length≤1000000000000):∃g,yY l.kd=some g∧cA g #[lp X,lp P] w fun x w'=>x= .returned (.tuple #[])∧∃qf v' F',Cd w X us v F (bH (fun i=>(us i).pure) v.pure l) qf v' F' w':=by
 have aM:=h.CD;have qY:∀b,F b→CT us v F b:=fun _ hb=> .inl (.inl hb);rcases ok.kd with hk|⟨hk,hq,he0,he1⟩|⟨hk,hq⟩|⟨hw,h0,h5⟩
 ·refine⟨73,by rw[hk];decide,(toClient_wo X v F _ w P l a c h.wo aM qY hl htd).mono ?_⟩;rintro x w' ⟨rfl,F',KQ,m⟩;have hs:=h.st.mv m qY;obtain⟨h1,h2⟩:=h.world m KQ rfl rfl rfl (fun w2 c2=>(hs w2 c2).1.2);exact⟨rfl,us,_,F',⟨h1,h2,rfl,rfl,rfl,by simp[bH,hk],by simp[bH,hk]⟩⟩
 ·refine⟨74,by rw[hk];decide,(Wy X v F _ w P l a c hq he0 he1 h.wo aM qY hl vu).mono ?_⟩;rintro x w' ⟨rfl,P',F',KQ,m,gI⟩;have hs:=h.st.mv m qY;obtain⟨⟨k1,k2,k3⟩,k4,k5⟩:=IV v l;obtain⟨h1,h2⟩:=h.world m KQ k1 k2 k3 (fun w2 c2=>f_ (hs w2 c2).1.2 (gI w2 c2));refine⟨rfl,us,_,F',⟨h1,h2,k1,k2,k3,by simp[bH,hk], ?_⟩⟩;simp only[bH,hk];rw[if_neg (by decide),if_pos trivial,←k5];show Ws.mk .. =Ws.mk ..;simp only[List.map_append,List.map_cons,List.map_nil,k4]
 ·refine⟨75,by rw[hk];decide,(MI X v F _ w P l a c hq h.wo aM qY hl vu).mono ?_⟩;rintro x w' ⟨rfl,P',F',KQ,m,gI⟩;have hs:=h.st.mv m qY;obtain⟨h1,h2⟩:=h.world m KQ rfl rfl rfl (fun w2 c2=>f_ (hs w2 c2).1.2 (gI w2 c2));refine⟨rfl,us,_,F',⟨h1,h2,rfl,rfl,rfl,by simp[bH,hk], ?_⟩⟩;simp only[bH,hk];rw[if_neg (by decide),if_neg (by decide),if_pos trivial,kg];rfl
 ·obtain⟨i,hd⟩:∃i:Nat,l.dst=(i:Int):=⟨l.dst.toNat,by omega⟩;have hi:i<5:=by omega
  have hto:l.dst.toNat=i:=by omega
  refine⟨72,by rcases hw.kd with hk|hk|hk|hk|hk<;>rw[hk]<;>decide,(toNode_cw h hl hi hd (FF i hi)).mono ?_⟩
  rintro x w' ⟨rfl,u',h1,h2,h3⟩;have e:bH (fun i=>(us i).pure) v.pure l=(au (fun i=>(us i).pure) i u'.pure,v.pure):=by
   unfold bH;rw[if_neg (by rcases hw.kd with hk|hk|hk|hk|hk<;>rw[hk]<;>decide),if_neg (by rcases hw.kd with hk|hk|hk|hk|hk<;>rw[hk]<;>decide),if_neg (by rcases hw.kd with hk|hk|hk|hk|hk<;>rw[hk]<;>decide),hto,h3]
  exact⟨rfl,_,v,F,⟨h1,h2,rfl,rfl,rfl,by rw[e,nS],by rw[e]⟩⟩
end
section
variable{w w':tA}{X i:Nat}{us:Nat→Nv}{v v':Wv}{F F':tF}{u':Nv}
theorem CW.next(h:CW w X us v F)(c:bZ w w'):CW w' X us v F:=by
 have same:∀b,CU us v F b→w'.heap[b]? =w.heap[b]? :=fun b hb=>c.block b (h.lt b hb);refine⟨h.wo.still fun b hb=>same b (.inl hb),fun j hj=>(h.nb j hj).same (same _ (.inr (.inl ⟨j,hj,rfl⟩))),h.ok,h.inj,h.nf,fun j hj=> ?_,h.wf,h.wn,h.ww,h.st.next c,AN h.ln c.size,h.lo⟩;obtain⟨B,hr⟩:=h.wr j hj;exact⟨B,hr.still fun hb=>same B (.inr (.inr ⟨j,hj,hb⟩))⟩
theorem Cd.trans{w w1 w2:tA}{us U1 Jy:Nat→Nv}{v v1 v2:Wv}{F F1 F2:tF}{r r2:(Nat→Nd)×Ws}(h:Cd w X us v F r U1 v1 F1 w1)(k:Cd w1 X U1 v1 F1 r2 Jy v2 F2 w2):Cd w X us v F r2 Jy v2 F2 w2:=
 ⟨k.cw,h.mv.trans k.mv,k.nd.trans h.nd,k.tk.trans h.tk,k.dd.trans h.dd,k.n,k.s⟩
theorem W_(h:CW w X us v F)(k nd:Int)(q:Nat)(pl kp:Int)(e:Ev)(hlen:v.fl.length≤1000000000000)(vx:v.cs≤1000000000000)(Qj:0≤v.cs):cA 45 #[lp X,vF (lF [iV k,iV nd,iV (q:Int),iV pl,iV kp,iV e.k,iV e.p,iV e.i,iV e.b,iV e.he,iV e.hn]) 11] w fun x w'=>x= .returned (.tuple #[])∧∃qf v' F',Cd w X us v F (fun i=>(us i).pure,{fZ v.pure (rD nd q v.cs e)with cs:=v.cs+1}) qf v' F' w':=by
 refine(Wz X v F _ w k nd q pl kp e h.wo h.CD (fun _ hb=> .inl (.inl hb)) hlen vx Qj).mono ?_;rintro x w' ⟨rfl,P',F',KQ,m,gI⟩;have hs:=h.st.mv m fun _ hb=> .inl (.inl hb);obtain⟨h1,h2⟩:=h.world m KQ rfl rfl rfl (fun w2 c2=>f_ (hs w2 c2).1.2 (gI w2 c2));refine⟨rfl,us,_,F',⟨h1,h2,rfl,rfl,rfl,rfl, ?_⟩⟩;show(⟨v.pn,v.pe,(v.fl++[(⟨P',rD nd q v.cs e,none,0⟩:Lr)]).map Lr.l,v.cs+1,v.sv,v.td⟩:Ws)=⟨v.pn,v.pe,v.fl.map Lr.l++[rD nd q v.cs e],v.cs+1,v.sv,v.td⟩;rw[AB];rfl
end
theorem vU(s:Ws)(l:Lt):(g_ s l).fl=s.fl∧(g_ s l).cs=s.cs∧(g_ s l).sv=s.sv∧(g_ s l).td=s.td:=by
 unfold g_;split<;>exact⟨rfl,rfl,rfl,rfl⟩
theorem KR(ns:Nat→Nd)(s:Ws)(l:Lt):((bH ns s l).2.fl.length≤s.fl.length+1∧(bH ns s l).2.td.length≤s.td.length+1∧(bH ns s l).2.sv=s.sv∧(bH ns s l).2.cs=s.cs)∧∀i,((bH ns s l).1 i).wt.length≤(ns i).wt.length+1∧((bH ns s l).1 i).tu=(ns i).tu:=by
 have hf:=vU s l;unfold bH;split
 ·exact⟨⟨Bv _,by simp,rfl,rfl⟩,fun i=>⟨Bv _,rfl⟩⟩
 ·split
  ·refine⟨⟨?_, ?_, ?_, ?_⟩,fun i=>⟨Bv _,rfl⟩⟩
   ·simp[mr,fZ,hf.1]
   ·simp[mr,fZ,hf.2.2.2]
   ·simp[mr,fZ,hf.2.2.1]
   ·simp[mr,fZ,hf.2.1]
  ·split
   ·exact⟨⟨by simp[mr,fZ],by simp[mr,fZ],rfl,rfl⟩,fun i=>⟨Bv _,rfl⟩⟩
   ·refine⟨⟨Bv _,Bv _,rfl,rfl⟩,fun i=> ?_⟩;by_cases e:i=l.dst.toNat
    ·subst e;simp only[az];split
     ·exact⟨by simp,rfl⟩
     ·exact⟨Bv _,rfl⟩
    ·simp only[bD e];exact⟨Bv _,trivial⟩
section
open Rv
theorem Xa{w:tA}{T g n c j:Nat}{L:tM}{x:tK}(h:w.ownsRow 0 T 1 (.slice (some ⟨g,0,none⟩) n c) n L)(hj:L[j]? =some x):w.cell? ⟨g,j,none⟩=some x:=by
 obtain⟨_,⟨e,_⟩|⟨g',c',cur,e,_,hb,_,_,_,KP⟩⟩:=h
 ·cases e
 ·cases e;rw[←KP,AP]at hj;split at hj
  ·simp only[World.cell?,hb];rw[←BP];simpa using hj
  ·cases hj
theorem KS{w:tA}{T n:Nat}{L:tM}{v:tK}(h:w.ownsRow 0 T 1 v n L):∃a c,v= .slice a n c∧(0<n→∃g,a=some ⟨g,0,none⟩):=by
 obtain⟨_,⟨e,h0⟩|⟨g,c,cur,e,_⟩⟩:=h
 ·exact⟨none,0,by rw[e,h0],fun h=>by omega⟩
 ·exact⟨_,c,e,fun _=>⟨g,rfl⟩⟩
noncomputable def IW(ns:Nat→Nd)(s:Ws):(Nat→Nd)×Ws:=s.fl.foldl (fun p l=>bH p.1 p.2 l) (ns,{s with fl:=[]})
noncomputable abbrev FJ(ns:Nat→Nd)(s:Ws)(j:Nat):(Nat→Nd)×Ws:=(s.fl.take j).foldl (fun p l=>bH p.1 p.2 l) (ns,{s with fl:=[]})
theorem Pw{ns:Nat→Nd}{s:Ws}{j:Nat}{l:Lt}(h:s.fl[j]? =some l):FJ ns s (j+1)=bH (FJ ns s j).1 (FJ ns s j).2 l:=by
 unfold FJ;rw[nP h,List.foldl_append];rfl
theorem IX(ns:Nat→Nd)(v:Wv):FJ ns v.pure v.fl.length=IW ns v.pure:=by
 unfold FJ IW;rw[show v.pure.fl.take v.fl.length=v.pure.fl from AJ (by simp)]
structure CR(X:Nat)(us0:Nat→Nv)(v0:Wv)(F0:tF)(w0:tA)(us:Nat→Nv)(v:Wv)(F:tF)(y:tA):Prop extends CW y X us v F where
 mv:Mv (CU us0 v0 F0) w0 (CU us v F) y
theorem ek1:iO Tryz.prog 72=true:=by kernel_rfl
theorem ek2:iO Tryz.prog 73=true:=by kernel_rfl
theorem ek3:iO Tryz.prog 74=true:=by kernel_rfl
theorem ek4:iO Tryz.prog 75=true:=by kernel_rfl
theorem Tm{k:Int}{g:Nat}(h:yY k=some g):iO Tryz.prog g=true:=by
 unfold yY at h
 repeat' split at h
 all_goals first|(cases h;exact ek1)|(cases h;exact ek2)|(cases h;exact ek3)|(cases h;exact ek4)|cases h
theorem aah(X:Nat)(us:Nat→Nv)(v:Wv)(F:tF)(w:tA)(h:CW w X us v F)(eC:∀r∈v.fl,Tk r.l)(hln:v.fl.length+v.td.length≤900000000000)(hlw:∀i,i<5→(us i).wl.length+v.fl.length≤900000000000):cA 48 #[lp X] w fun x w'=>x= .returned (.tuple #[])∧∃qf v' F',Cd w X us v F (IW (fun i=>(us i).pure) v.pure) qf v' F' w':=by
 obtain⟨U,hUe⟩:∃U,U=CU us v F:=⟨_,rfl⟩;have hU:∀b,U b→b<w.heap.size:=hUe▸h.lt;have qY:∀b,F b→U b:=hUe▸fun _=> .inl;have hW:=h.wo;obtain⟨_,sv,td,fb,o1,o2,o3,hF⟩:=hW.ex;obtain⟨fa,fc,rfl,hfa0⟩:=KS o1;have hXU:U X:=qY X ((hF X).2 (.inl rfl));refine en (H:=[⟨X,114,[.f 19 (lx v.nd v.pn v.pe [.slice fa v.fl.length fc,v.tk,v.dd,iV v.cs,sv,td])]⟩]) 30 [vp 0 0 X] Tryz.func48 rfl rfl (fb.open hU hXU (G:=fun _=>True) fun _ _=>trivial) (r [] rfl fun _=>gn 0 (lx v.nd v.pn v.pe [.slice none 0 0,v.tk,v.dd,iV v.cs,sv,td]) (Rv.sv 0 (vv (lp X)) rfl (Y9 fun w1 hS=> ?_)));obtain⟨F1,hW1,mv1,hF1⟩:=WO.make (v':={v with fl:=[]}) fb hF (hS.now.2.mono fun b hb=>(hF b).2 (.inl (Ab.1 hb))) (hS.at 0 rfl) ⟨rfl,.inl ⟨rfl,rfl⟩⟩ (aI o2 (fun g hg hl=>hS.now.2.block g hl fun hm=>aT o2 fb (by decide) g hg (Ab.1 hm))) (aI o3 (fun g hg hl=>hS.now.2.block g hl fun hm=>aT o3 fb (by decide) g hg (Ab.1 hm))) (fun b hb=>by cases hb) (fun b hb=> .inl ((hF b).2 (.inr (.inr (.inl hb))))) (fun b hb=> .inl ((hF b).2 (.inr (.inr (.inr hb)))));obtain⟨pr,Jn⟩:=h.world mv1 hW1 rfl rfl rfl (fun _ _ r hr=>by cases hr);have o1':=(aI o1 (fun g hg hl=>hS.now.2.block g hl fun hm=>aT o1 fb (by decide) g hg (Ab.1 hm)));have kN:∀g,(.slice fa v.fl.length fc:tK).ownBlock=some g→¬CT us {v with fl:=[]} F1 g:=fun g hg hb=>by
  have hFg:F g:=(hF g).2 (.inr (.inl hg));rcases hb with(hb|⟨j,hj,e⟩|⟨j,hj,hb⟩)|hb
  ·rcases(hF1 g).1 hb with e|e|e|e
   ·exact aT o1 fb (by decide) g hg e
   ·cases e
   ·exact jk o1 o2 (by decide) g hg e
   ·exact jk o1 o3 (by decide) g hg e
  ·exact h.nf j hj (e▸hFg)
  ·exact h.wf j g hj hb hFg
  ·exact absurd (h.lo g (.inl hFg)) (BE.2 hb)
 refine⟨[],CT us {v with fl:=[]} F1,fun w=>w.ownsRow 0 171 1 (.slice fa v.fl.length fc) v.fl.length (v.fl.map fun r=>lp r.p)∧∀r∈v.fl,nI w r,CR X us v F w us {v with fl:=[]} F1,Mem.start pr.CD (fun w2 c2=>⟨aI o1' (fun g hg hl=>c2.block g hl (kN g hg)),((h.st.mv Jn (fun _ h=> .inl h)) w2 (c2.mono fun _ hb=>hb.elim .inr fun e=> .inl (.inr e))).1.2⟩) (fun w2 b=>⟨pr.next b,Jn.next b⟩), ?_⟩;refine EV (X:=Nat×(Nat→Nv)×Wv×(Nat→Prop)) (fun x=>[(0,vv (lp X)),(12,vv (.slice fa v.fl.length fc)),(13,vi (v.fl.length:Int)),(14,vi (x.1:Int))]) (fun _=>[]) (fun x=>CT x.2.1 x.2.2.1 x.2.2.2) (fun x=>CR X us v F w x.2.1 x.2.2.1 x.2.2.2) (fun x=>x.1≤v.fl.length∧(x.2.2.1.nd=v.nd∧x.2.2.1.tk=v.tk∧x.2.2.1.dd=v.dd)∧((fun i=>(x.2.1 i).pure)=(FJ (fun i=>(us i).pure) v.pure x.1).1∧x.2.2.1.pure=(FJ (fun i=>(us i).pure) v.pure x.1).2)∧(x.2.2.1.fl.length≤x.1∧x.2.2.1.td.length≤v.td.length+x.1∧∀i,i<5→(x.2.1 i).wl.length≤(us i).wl.length+x.1)) (fun x=>v.fl.length-x.1) (0,us,{v with fl:=[]},F1) ⟨rfl,rfl,rfl,rfl,trivial⟩ (fun _ hS=>hS) ⟨Ak _,⟨rfl,rfl,rfl⟩,⟨rfl,rfl⟩,Aa _,Aa _,fun _ _=>Aa _⟩ ?_;rintro f ⟨j,U1,v1,F2⟩ ⟨hj,lZ,S6,mC,Ge,NU⟩;have hj:j≤v.fl.length:=hj;have mC:v1.fl.length≤j:=mC;have Ge:v1.td.length≤v.td.length+j:=Ge;have NU:∀i,i<5→(U1 i).wl.length≤(us i).wl.length+j:=NU;by_cases aM:j<v.fl.length
 case neg=>
  obtain rfl:j=v.fl.length:=by omega
  exact r [0] rfl fun _=>dh rfl fun w hS=>⟨rfl,U1,v1,F2,⟨hS.now.2.toCW,hS.now.2.mv,lZ.1,lZ.2.1,lZ.2.2,by rw[S6.1,IX],by rw[S6.2,IX]⟩⟩
 obtain⟨r8,hr⟩:∃r,v.fl[j]? =some r:=⟨v.fl[j],Ag aM⟩;have MQ:=Ap hr;obtain⟨fg,hfa⟩:=hfa0 (by omega);subst hfa;obtain⟨g,hg,_⟩:=uc h (P:=r8.p) (l:=r8.l) (a:=r8.a) (c:=r8.c) (fun w2 c2=>(h.st w2 c2).1.2 r8 MQ) (eC r8 MQ) (by omega) (by omega) (fun i hi=>by have:=hlw i hi;omega);refine r [1] rfl fun _=>l1 (q:=0+j*1) rfl (lp r8.p) (fun w hS=>by rw[show 0+j*1=j by omega];exact Xa hS.now.1.1 (by rw[Ar,hr];rfl)) (r [1] rfl fun _=>l1 rfl v1.tk (fun w hS=>hS.now.2.wo.tk_) (r [] rfl fun _=>l1 rfl (iV r8.l.kd) (fun w hS=>(hS.now.1.2 r8 MQ).b.at 0 (cK rfl)) (r [] rfl fun _=>lk (vv (.func (.func g) #[lp X] #[])) rfl (fun w hS=>(hS.now.2.st.now).2.1 r8.l.kd g hg) (r [] rfl fun _=>ky rfl (Tm hg) fun w2 hS=> ?_))));obtain⟨g',Vo,hcall⟩:=uc hS.now.2.toCW (P:=r8.p) (l:=r8.l) (a:=r8.a) (c:=r8.c) (fun w2 c2=>(hS.g w2 (c2.mono fun b h=> .inr h)).2 r8 MQ) (eC r8 MQ) (by omega) (by omega) (fun i hi=>by have h3:(U1 i).wl.length≤(us i).wl.length+j:=NU i hi;have:=hlw i hi;show(U1 i).wl.length≤_;omega);obtain rfl:g'=g:=Option.some.inj (Vo.symm.trans hg);refine hcall.mono ?_;rintro _ w3 ⟨rfl,Jy,v2,F3,hd⟩;have hmd:=hS.now.2.mv.trans hd.mv;have hnx:bH (fun i=>(U1 i).pure) v1.pure r8.l=FJ (fun i=>(us i).pure) v.pure (j+1):=by rw[Pw (l:=r8.l) (by show(v.fl.map Lr.l)[j]? =_;rw[Ar,hr];rfl),←S6.1,←S6.2]
 have hk:=KR (fun i=>(U1 i).pure) v1.pure r8.l;refine⟨vt [],[],CT Jy v2 F3,_,CR X us v F w Jy v2 F3,rfl,.inl rfl,Mem.start hd.cw.CD (fun w2 c2=>(bV.mv (U:=CT U1 v1 F2) (fun w4 c4=>hS.g w4 (c4.mono fun b h=> .inr h)) hd.mv (fun _ h=> .inl h)) w2 (c2.mono fun _ hb=>hb.elim .inr fun e=> .inl (.inr (hd.nd▸e)))) (fun w2 b=>⟨hd.cw.next b,hmd.next b⟩),rz [1] [((j+1:Nat):Int)] rfl fun _=>b_ (j+1,Jy,v2,F3) ⟨rfl,rfl,rfl,rfl,trivial⟩ (fun _ hS=>hS) ⟨aM,⟨hd.nd.trans lZ.1,hd.tk.trans lZ.2.1,hd.dd.trans lZ.2.2⟩,⟨by rw[←hnx];exact hd.n,by rw[←hnx];exact hd.s⟩, ?_, ?_,fun i hi=> ?_⟩ (show v.fl.length-(j+1)<v.fl.length-j by omega)⟩
 ·have h1:=Au (fun s:Ws=>s.fl.length) hd.s;have h2:=hk.1.1;simp only[List.length_map]at h1 h2;show v2.fl.length≤j+1;omega
 ·have h1:=Au (fun s:Ws=>s.td.length) hd.s;have h2:=hk.1.2.1;simp only at h1 h2;show v2.td.length≤v.td.length+(j+1);omega
 ·have h1:=Au (fun n:Nat→Nd=>(n i).wt.length) hd.n;have h2:=(hk.2 i).1;have h3:=NU i hi;simp only[List.length_map]at h1 h2;show(Jy i).wl.length≤(us i).wl.length+(j+1);omega
end
theorem KT{P:tY}{s sz:Nat}(hf:ji P s=some sz)(a:tB)(len cap l h m:Nat)(hl:l≤h)(hh:h≤m)(hm:m≤cap)(w:tA):
  (Instr.sliceAt s (.slice a len cap) (some (iV (l:Int))) (some (iV (h:Int))) (some (iV (m:Int)))).run P w= .ok (.slice (gM a l sz m) (h-l) (m-l)) w:=by
 unfold ji at hf;split at hf
 ·rename_i e hu;cases hi:P.info? e with
  |none=>simp[hi]at hf
  |some i=>
   simp[hi]at hf;subst hf;simp[Instr.sliceAt,Instr.slice,run_underlying hu,Instr.sliceBounds,Instr.sliceBound,asIntOf,sizeOf,typeInfo,hi,hl,hh,hm,gM]
 ·cases hf
section
variable{P:tY}{ops:tP}{Q:tI}{V:tW}{fx fl:tW}{n:Nat}{f:tD}{w:tA}{i:Nat}{t:Ord}{o:Oper}{d:Nat}{H:List bU}{M:tF}{G R:tJ}
theorem afW{s e kj l c m c2:Nat}{x y:tU}{A:Addr}(ht:jv P s e 1 kj=true)(hS:Mem w H M G R)(k:Nat){en:bU}(he:H[k]? =some en)(news:tD)(hn:∀j,j<m→w.cell? (A.add j)=some (news j))(h1:aS news m)(Eh:l+m≤c)(hen:c≤en.n)(Pa:fx.contains i=true)(ho:ops[i]? =some o)(hd:o.dst=some d)(hw:Region.wanted o (yielded ops (kK n f))=true)(hK:jh n ops=true)(hp:o.op= .call ⟨.builtin .append,#[x,y],#[s,s]⟩)(hx:ev f x= .slice (some ⟨en.a,0,none⟩) l c)(hy:ev f y= .slice (some A) m c2)
  (h:∀w',Mem w' (H.set k ⟨en.a,en.t,en.n,gf en.f l m news⟩) M G R→WF P ops Q V fx fl t n (up f d (.slice (some ⟨en.a,0,none⟩) (l+m) c)) w'):WF P ops Q V fx fl (.ef i t) n f w:=by
 obtain⟨hu,ti,z,hi,hz,hs,wI,LA,iE⟩:=Dh ht;have fb:=hS.at k he
 have hr:=run_append_room_cells (P:=P) w s o.type e ti hu hi en.a 0 l c A m c2 (cm news 0 m) (by simp[bK,hs]) (fun j u hj=>by
  have aM:=(Am.1 hj).1;rw[bK]at aM;rw[bX _ _ _ _ aM,Ae]at hj;cases hj;exact hn j aM) (fun u hu=>by
  simp only[cm,List.mem_map,List.mem_range,Nat.zero_add]at hu;obtain⟨j,hj,rfl⟩:=hu;exact h1 j hj) Eh (fun j hj=>by
   rw[bK]at hj
   rw[hs,fb.at _ (by omega)];rfl) (fun j _=>fb.free _)
 rw[hs,BC,Ae]at hr;exact oz ho hd hw hK (rN hp hx hy hr) (gk Pa) (h _ (hS.turn he (av.sH en.a _ l w) (fb.put l m news (by omega))))
theorem Xb{v:tK}{w1:tA}(ho:ops[i]? =some o)(hd:o.dst=none)(hw:Region.wanted o (yielded ops (kK n f))=true)(hK:jh n ops=true)(hr:(execOp (ev f) o).run P w= .ok (.value v) w1)(ht:fT (De V) fx fl i w w1)(h:WF P ops Q V fx fl t n f w1):WF P ops Q V fx fl (.ef i t) n f w:=by
 show wpOp P ops Q i _ _ w;unfold wpOp;simp only[ho,hw,if_true];refine .inl ?_;unfold Oper.wp;rw[qq (na hK ho),hr,Oper.upon_value,mN,hd];exact⟨ht,h⟩
theorem afX{s e k c2 kj:Nat}{x:tU}(z:tK)(ht:jv P s e 1 kj=true)(hz:∀w,(zeroValue e).run P w= .ok z w)(hzc:z.cells= #[z])(wh:z.oneCell'=true)(hS:Mem w H M G R)(j:Nat){en:bU}(he:H[j]? =some en)(hk:k<en.n)(Pa:fx.contains i=true)(ho:ops[i]? =some o)(hd:o.dst=none)(hw:Region.wanted o (yielded ops (kK n f))=true)(hK:jh n ops=true)(hp:o.op= .call ⟨.builtin .clear,#[x],#[s]⟩)(hx:ev f x= .slice (some ⟨en.a,k,none⟩) 1 c2)
  (h:∀w',Mem w' (H.set j ⟨en.a,en.t,en.n,gf en.f k 1 (fun _=>z)⟩) M G R→WF P ops Q V fx fl t n f w'):WF P ops Q V fx fl (.ef i t) n f w:=by
 obtain⟨hu,ti,z',hi,hz',hs,wI,LA,iE⟩:=Dh ht;have fb:=hS.at j he
 have gI:=run_storeCells_cells (P:=P) en.a k [z] 0 w (fun j hj=>by
  simp only[List.length_singleton]at hj;rw[fb.at _ (by omega)];rfl) (fun j _=>fb.free _) (by simpa using wh)
 simp only[Nat.add_zero]at gI;have hr:(Builtin.clear_ #[s] o.type #[.slice (some ⟨en.a,k,none⟩) 1 c2]).run P w= .ok (.tuple #[]) (w.setCells en.a k [z]):=by
  simp[Builtin.clear_,run_underlying hu,hz,Builtin.zeroCells,hzc,gI]
 have hcut:cm (fun _=>z) 0 1=[z]:=rfl;refine Xb ho hd hw hK (w1:=w.setCells en.a k [z]) (v:= .tuple #[]) ?_ (gk Pa) (h _ (hS.turn he (av.sH en.a _ k w) (hcut▸fb.put k 1 (fun _=>z) (by omega))));simp[execOp,hp,resolve,hx,invoke,builtin,hr]
end
section
open Rv
namespace Rv
section
variable{n:Nat}{ops:tP}{f:Nat→AV}{fn:Func}{Rr:Ending→World→Prop}{M:tF}{Φ R:tJ}{H:List En}{ks:List Fr}{t:Ord}{i d:Nat}{md:Md}
theorem ex3{ρ:Operand→Value}{o:Oper}{s sz:Nat}{x y z u:tU}{a:tB}{len cap l k m:Nat}(hf:ji Tryz.prog s=some sz)(hl:l≤k)(hh:k≤m)(hm:m≤cap)(hp:o.op= .slice s x (some y) (some z) (some u))(hx:ρ x= .slice a len cap)(hy:ρ y=iV (l:Int))(hz:ρ z=iV (k:Int))(hu:ρ u=iV (m:Int))(w:tA):(execOp ρ o).run Tryz.prog w= .ok (.value (.slice (gM a l sz m) (k-l) (m-l))) w:=by
 simp only[execOp,hp,hx,hy,hz,hu,Option.map_some,Sem.run_bind,KT hf a len cap l k m hl hh hm,Result.andThen_ok,Sem.run_pure]
theorem aw{s kj l c m c2:Nat}{x y:AV}{A:Addr}{en:En}(h1:Qk n ops f i=some (d,s,x,y))(k:Nat)(he:nth H k=some en)(ht:jv Tryz.prog s en.t 1 kj=true)(news:tD)(hn:∀w,Mem w (hs H) M Φ R→∀j,j<m→w.cell? (A.add j)=some (news j))(JJ:aS news m)(Eh:l+m≤c)(hen:c≤fj en.l)(hy:y.val= .slice (some A) m c2)(hg:G Tryz.prog fn Rr n M Φ R (.g md ops t::ks) (ua f d (vv (.slice (some ⟨en.a,0,none⟩) (l+m) c))) (H.set k ⟨en.a,en.t,[.f (fj en.l) (gf (cD en.l) l m news)]⟩))(hx:x.val= .slice (some ⟨en.a,0,none⟩) l c:=by rfl)(hv:md.vs.contains i=false:=by rfl):G Tryz.prog fn Rr n M Φ R (.g md ops (.ef i t)::ks) f H:=by
 intro w hS hK;obtain⟨hK1,il⟩:=bn.1 hK;show WF Tryz.prog ops (kq Tryz.prog fn Rr ks) md.va (oD md ops) (uv md ops) (.ef i t) n (cn f) w;obtain⟨o,p,r,ho,hd,hw,hp,rfl,rfl⟩:=xw h1
 have GC:(oD md ops).contains i=true:=kM ho (by
  unfold nc;rw[hv,hp]
  cases md.cb<;>rfl)
 rw[eY]at he;have wM:(hs H)[k]? =some en.ik:=by rw[Ar,he];rfl
 refine afW ht hS k wM news (hn w hS) JJ Eh hen GC ho hd (fC hw) (dI hK1).1 hp ((bz f p).symm.trans hx) ((bz f r).symm.trans hy) fun w' zR=> ?_
 have hg:=hg w' (by
  show Mem w' (List.map En.ik (H.set k _)) M Φ R;rw[Cq]
  exact zR) (bn.2 ⟨hK1,il⟩)
 rw[jz]at hg;exact hg
def clB(n:Nat)(ops:tP)(f:Nat→AV)(i:Nat):Option (Nat×AV):=match ops[i]? with
 |some o=>match o.dst,rP n ops f o,o.op with
  |none,some true,.call ⟨.builtin .clear,xs,ts⟩=>match xs.toList,ts.toList with
   |[x],[s]=>some (s,ea f x)
   |_,_=>none
  |_,_,_=>none
 |none=>none
theorem clr{s kj q c2:Nat}{x:AV}{en:En}(z:tK)(h1:clB n ops f i=some (s,x))(k:Nat)(he:nth H k=some en)(ht:jv Tryz.prog s en.t 1 kj=true)(hz:∀w,(zeroValue en.t).run Tryz.prog w= .ok z w)(hzc:z.cells= #[z])(wh:z.oneCell'=true)(hq:q<fj en.l)(hx:x.val= .slice (some ⟨en.a,q,none⟩) 1 c2)(hg:G Tryz.prog fn Rr n M Φ R (.g md ops t::ks) f (H.set k ⟨en.a,en.t,[.f (fj en.l) (gf (cD en.l) q 1 (fun _=>z))]⟩))(hv:(oD md ops).contains i=true:=by rfl):G Tryz.prog fn Rr n M Φ R (.g md ops (.ef i t)::ks) f H:=by
 intro w hS hK;obtain⟨hK1,il⟩:=bn.1 hK;show WF Tryz.prog ops (kq Tryz.prog fn Rr ks) md.va (oD md ops) (uv md ops) (.ef i t) n (cn f) w;rw[eY]at he;have wM:(hs H)[k]? =some en.ik:=by rw[Ar,he];rfl
 unfold clB at h1;split at h1
 ·rename_i o ho;split at h1
  ·rename_i xs ts hd hw hp;split at h1
   ·rename_i p s2 e1 e2;simp only[Option.some.injEq,Prod.mk.injEq]at h1;obtain⟨rfl,rfl⟩:=h1;have e1:xs= #[p]:=Array.toList_inj.1 e1;have e2:ts= #[s2]:=Array.toList_inj.1 e2;rw[e1,e2]at hp
    refine afX z ht hz hzc wh hS k wM hq hv ho hd (fC hw) (dI hK1).1 hp ((bz f p).symm.trans hx) fun w' zR=>hg w' (by
     show Mem w' (List.map En.ik (H.set k _)) M Φ R;rw[Cq]
     exact zR) (bn.2 ⟨hK1,il⟩)
   ·cases h1
  ·cases h1
 ·cases h1
end
end Rv
theorem Px(g ln c k:Nat)(f0:tD)(w:tA)(hb:aY w g 171 c f0)(hk:k<ln)(hc:ln≤c)(hm:c≤maxLen)(h1:∀j,j<ln→(f0 j).oneCell'=true):cA 83 #[.slice (some ⟨g,0,none⟩) ln c,iV (k:Int),iV ((k+1:Nat):Int)] w fun x w'=>x= .returned (.slice (some ⟨g,0,none⟩) (ln-1) c)∧aY w' g 171 c (gf (gf f0 k (ln-(k+1)) (fun j=>f0 (k+1+j))) (ln-1) 1 (fun _=> .pointer none))∧dm (fun b=>b∈[g]) w w':=by
 unfold maxLen at hm;have afZ:k+(ln-(k+1))=ln-1:=by omega
 obtain⟨A,hA,hAd⟩:∃A,gM (some (⟨g,0,none⟩:Addr)) (k+1) 1 c=some A∧∀j,j<ln-(k+1)→A.add j=⟨g,k+1+j,none⟩:=by
  unfold gM;by_cases h:c=k+1
  ·exact⟨_,if_pos h,fun j hj=>by omega⟩
  ·exact⟨⟨g,k+1,none⟩,by rw[if_neg h];simp[Addr.add_mid],fun j _=>by rw[BG]⟩
 have hA2:Value.slice (gM (some (⟨g,0,none⟩:Addr)) (ln-1) 1 c) (ln-(ln-1)) (c-(ln-1))= .slice (some ⟨g,ln-1,none⟩) 1 (c-(ln-1)):=by
  unfold gM;rw[if_neg (by omega),show ln-(ln-1)=1 by omega];simp[Addr.add_mid]
 have hS:Mem w (Rv.hs [⟨g,171,[.f c f0]⟩]) (fun _=>False) (fun _=>True) (fun w'=>dm (fun b=>b∈[g]) w w'):=Mem.begin (fun e he=>by cases Ab.1 he;exact hb) (BH _ _) (fun _ _ h=>h) (fun _ h=>h.elim) (fun _ _=>trivial);refine en 33 [vv (.slice (some ⟨g,0,none⟩) ln c),vi (k:Int),vi ((k+1:Nat):Int)] Tryz.func83 rfl rfl hS (r [] rfl fun _=> ?_);refine pv (vv (.slice (gM (some ⟨g,0,none⟩) k 1 ln) (k+1-k) (ln-k))) rfl (fun w=>ex3 qX (by omega) (by omega) hc rfl rfl rfl rfl rfl w) (r [0,1] rfl fun _=> ?_);refine aw (A:=A) (l:=k) (c:=c) (m:=ln-(k+1)) (c2:=c-(k+1)) rfl 0 rfl gz (fun j=>f0 (k+1+j)) (fun w hS j hj=> ?_) (fun j hj=>h1 _ (by omega)) (by omega) (Aa _) (Au (fun a=>Value.slice a (ln-(k+1)) (c-(k+1))) hA) ?_
 ·rw[hAd j hj];exact(hS.at 0 rfl).at (k+1+j) (by show _<c;omega)
 rw[afZ];refine r [] rfl fun _=>clr (c2:=c-(ln-1)) (q:=ln-1) (.pointer none) rfl 0 rfl gz (fun w=>rfl) rfl rfl (by show ln-1<c;omega) hA2 ?_;exact r [] rfl fun _=>fin fun w hS=>⟨rfl,hS.at 0 rfl,hS.now.2⟩
end
theorem KU{g ln c k:Nat}{L:tM}{w:tA}(h:w.ownsRow 0 171 1 (.slice (some ⟨g,0,none⟩) ln c) ln L)(h1:∀u∈L,u.oneCell'=true)(hk:k<ln):cA 83 #[.slice (some ⟨g,0,none⟩) ln c,iV (k:Int),iV ((k+1:Nat):Int)] w fun x w'=>x= .returned (.slice (some ⟨g,0,none⟩) (ln-1) c)∧w'.ownsRow 0 171 1 (.slice (some ⟨g,0,none⟩) (ln-1) c) (ln-1) (L.eraseIdx k)∧dm (fun b=>b∈[g]) w w':=by
 rcases SF h with⟨e,_⟩|⟨R,c',F,e,fb,Z6,hc,hl,hF⟩
 ·cases e
 cases e;rw[BC]at fb hl;refine(Px g ln c k F w fb hk Z6 hc (fun j hj=>h1 _ (Ap (hF j (by omega))))).mono ?_;rintro x w' ⟨rfl,Y7,ch⟩;refine⟨rfl,Z4 (by rw[BC];exact Y7) (by omega) hc (by rw[List.length_eraseIdx,if_pos (by omega)];omega) (fun j hj=> ?_),ch⟩;rw[BC]at hj;rw[List.getElem?_eraseIdx,pH _ _ _ _ _ (.inl hj)];by_cases hjk:j<k
 ·rw[if_pos hjk,pH _ _ _ _ _ (.inl hjk)];exact hF j (by omega)
 ·rw[if_neg hjk];have:=EB F k (ln-(k+1)) (fun j=>F (k+1+j)) (j-k) (by omega);rw[show k+(j-k)=j by omega]at this;rw[this,show k+1+(j-k)=j+1 by omega];exact hF (j+1) (by omega)
structure OR(X:Nat)(sl:tK)(w0:tA)(s:tK)(n:Nat)(L:tM)(x:tA):Prop where
 own:x.ownsRow 0 171 1 s n L
 c:dm (fun b=>b=X∨sl.ownBlock=some b∨w0.heap.size≤b) w0 x
noncomputable def eM(ns:Nat→Nd)(s:Ws)(k:Int)(p:Nat):(Nat→Nd)×Ws:=match s.fl[p % s.fl.length]? with
 |none=>(ns,s)
 |some l=>if k=5 then(ns,if k=6 then s else {s with fl:=s.fl.eraseIdx (p % s.fl.length)})else bH ns (if k=6 then s else {s with fl:=s.fl.eraseIdx (p % s.fl.length)}) l
section
variable{w:tA}{X:Nat}{us:Nat→Nv}{v:Wv}{F:tF}
theorem OR.init{sl sv td:tK}(h:CW w X us v F)(fb:aY w X 114 19 (lx v.nd v.pn v.pe [sl,v.tk,v.dd,iV v.cs,sv,td]))(o1:w.ownsRow 0 171 1 sl v.fl.length (v.fl.map fun r=>lp r.p))(hF:∀b,F b↔b=X∨sl.ownBlock=some b∨sv.ownBlock=some b∨td.ownBlock=some b):Mem w [⟨X,114,19,lx v.nd v.pn v.pe [sl,v.tk,v.dd,iV v.cs,sv,td]⟩] (fun b=>sl.ownBlock=some b∨(CU us v F b∧b≠X∧¬sl.ownBlock=some b)) (fun w=>(∀r∈v.fl,nI w r)∧WZ w X v.tk) (OR X sl w sl v.fl.length (v.fl.map fun r=>lp r.p)):=by
 have fM:∀g,sl.ownBlock=some g→g≠X:=aT o1 fb (by decide)
 have hm:=Mem.begin (H:=[⟨X,114,19,lx v.nd v.pn v.pe [sl,v.tk,v.dd,iV v.cs,sv,td]⟩]) (M:=fun b=>sl.ownBlock=some b∨(CU us v F b∧b≠X∧¬sl.ownBlock=some b)) (G:=fun w=>(∀r∈v.fl,nI w r)∧WZ w X v.tk) (fun e he=>by cases Ab.1 he;exact fb) (BH _ _) (fun e he=>by cases Ab.1 he;exact fun hh=>hh.elim (fun e=>fM _ e rfl) fun e=>e.2.1 rfl) (fun b hb=>hb.elim (fun e=>yK o1 b e) fun e=>h.lt b e.1) (fun w2 c2=>by
  have c3:dm (CU us v F) w w2:=c2.mono fun b hb=>by
   rcases hb with hb|hb|hb
   ·have e:b=X:=by simpa using hb
    exact .inl ((hF b).2 (.inl e))
   ·exact .inl ((hF b).2 (.inr (.inl hb)))
   ·exact hb.1
  exact⟨(h.st w2 (c3.mono fun _=> .inl)).1.2,(h.st w2 (c3.mono fun _=> .inl)).2.1⟩)
 refine⟨hm.ik,hm.ov,hm.off,hm.mlt,hm.g,fun w2 c2=>⟨aI o1 fun g hg hl=>c2.block g hl fun hb=>fM g hg (by simpa using hb),c2.mono fun b hb=> .inl (by simpa using hb)⟩⟩
theorem OR.close{sl s2 sv td:tK}{n2:Nat}{fl2:List Lr}{w':tA}(h:CW w X us v F)(fb:aY w X 114 19 (lx v.nd v.pn v.pe [sl,v.tk,v.dd,iV v.cs,sv,td]))(o1:w.ownsRow 0 171 1 sl v.fl.length (v.fl.map fun r=>lp r.p))(o2:w.ownsRow 0 61 14 sv v.sv.length (v.sv.flatMap DZ))(o3:w.ownsRow 0 63 7 td v.td.length (v.td.flatMap O_))(hF:∀b,F b↔b=X∨sl.ownBlock=some b∨sv.ownBlock=some b∨td.ownBlock=some b)(r:OR X sl w s2 n2 (fl2.map fun r=>lp r.p) w')(hn:n2=fl2.length)(Y7:aY w' X 114 19 (lx v.nd v.pn v.pe [s2,v.tk,v.dd,iV v.cs,sv,td]))(hs:∀b,s2.ownBlock=some b→sl.ownBlock=some b)(aa8:∀x∈fl2,x∈v.fl):∃F',Cd w X us v F (fun i=>(us i).pure,{v.pure with fl:=fl2.map Lr.l}) us {v with fl:=fl2} F' w':=by
 subst hn;have st:∀{T sz n:Nat} {u:tK} {L:tM},w.ownsRow 0 T sz u n L→T≠114→T≠171→w'.ownsRow 0 T sz u n L:=fun o h1 h2=>aI o fun g hg hl=>r.c.block g hl fun hb=>hb.elim (aT o fb h1 g hg) fun hb=>hb.elim (jk o o1 h2 g hg) fun hb=>absurd hl (AY.2 hb);have c:dm F w w':=⟨r.c.os,r.c.tape,r.c.output,r.c.size,fun b hb hf=>r.c.block b hb fun hh=>hh.elim (fun e=>hf ((hF b).2 (.inl e))) fun hh=>hh.elim (fun e=>hf ((hF b).2 (.inr (.inl e)))) fun e=>absurd hb (AY.2 e)⟩;obtain⟨F1,hW1,mv1,hF1⟩:=WO.make (v':={v with fl:=fl2}) fb hF c Y7 r.own (st o2 (by decide) (by decide)) (st o3 (by decide) (by decide)) (fun b hb=> .inl ((hF b).2 (.inr (.inl (hs b hb))))) (fun b hb=> .inl ((hF b).2 (.inr (.inr (.inl hb))))) (fun b hb=> .inl ((hF b).2 (.inr (.inr (.inr hb)))));have Jq:=h.st.mv mv1 (fun _ hb=> .inl (.inl hb));obtain⟨pr,Jn⟩:=h.world mv1 hW1 rfl rfl rfl (fun w2 c2 x hx=>(Jq w2 c2).1.2 x (aa8 x hx));exact⟨F1,pr,Jn,rfl,rfl,rfl,rfl,rfl⟩
end
section
open Rv
theorem Xc{ns:Nat→Nd}{s:Ws}{k:Int}{p:Nat}(h:s.fl.length=0):eM ns s k p=(ns,s):=by
 unfold eM;rw[AU.1 h];rfl
theorem To{ns:Nat→Nd}{s:Ws}{p:Nat}{l:Lt}(h:s.fl[p % s.fl.length]? =some l):eM ns s 5 p=(ns,{s with fl:=s.fl.eraseIdx (p % s.fl.length)}):=by
 unfold eM;rw[h];simp
theorem KV{ns:Nat→Nd}{s:Ws}{p:Nat}{l:Lt}(h:s.fl[p % s.fl.length]? =some l):eM ns s 6 p=bH ns s l:=by
 unfold eM;rw[h];simp
theorem Py{ns:Nat→Nd}{s:Ws}{k:Int}{p:Nat}{l:Lt}(h:s.fl[p % s.fl.length]? =some l)(h5:¬k=5)(h6:¬k=6):eM ns s k p=bH ns {s with fl:=s.fl.eraseIdx (p % s.fl.length)} l:=by
 unfold eM;rw[h];simp[h5,h6]
theorem u_{α β:Type}(f:α→β):∀(l:List α) (i:Nat),(l.eraseIdx i).map f=(l.map f).eraseIdx i
 |[],i=>by simp
 |a::l,0=>by simp
 |a::l,i+1=>by simp[u_ f l i]
theorem Cd.next{w w1 w2:tA}{X:Nat}{us qf:Nat→Nv}{v v':Wv}{F F':tF}{r:(Nat→Nd)×Ws}(h:Cd w X us v F r qf v' F' w1)(b:bZ w1 w2):Cd w X us v F r qf v' F' w2:=⟨h.cw.next b,h.mv.next b,h.nd,h.tk,h.dd,h.n,h.s⟩
theorem aai(X:Nat)(us:Nat→Nv)(v:Wv)(F:tF)(w:tA)(h:CW w X us v F)(k nd:Int)(q p:Nat)(kp:Int)(e:Ev)(eC:∀r∈v.fl,Tk r.l)(hln:v.fl.length+v.td.length≤900000000000)(hlw:∀i,i<5→(us i).wl.length≤900000000000):cA 47 #[lp X,vF (lF [iV k,iV nd,iV (q:Int),iV (p:Int),iV kp,iV e.k,iV e.p,iV e.i,iV e.b,iV e.he,iV e.hn]) 11] w fun x w'=>x= .returned (.tuple #[])∧∃qf v' F',Cd w X us v F (eM (fun i=>(us i).pure) v.pure k p) qf v' F' w':=by
 obtain⟨_,sv,td,fb,o1,o2,o3,hF⟩:=h.wo.ex;obtain⟨fa,fc,rfl,hfa0⟩:=KS o1;refine en (H:=[⟨X,114,[.f 19 (lx v.nd v.pn v.pe [.slice fa v.fl.length fc,v.tk,v.dd,iV v.cs,sv,td])]⟩]) 55 [vp 0 0 X,vg [.o (iV k),.o (iV nd),.o (iV (q:Int)),.o (iV (p:Int)),.o (iV kp),.o (iV e.k),.o (iV e.p),.o (iV e.i),.o (iV e.b),.o (iV e.he),.o (iV e.hn)]] Tryz.func47 rfl rfl (OR.init h fb o1 hF) (r [] rfl fun α=> ?_);by_cases fM:v.fl.length=0
 ·refine r [1] rfl fun _=>fin fun w1 hS=> ?_;obtain⟨F1,KJ⟩:=OR.close (fl2:=v.fl) h fb o1 o2 o3 hF hS.now.2 rfl (hS.at 0 rfl) (fun _ h=>h) (fun _ h=>h);exact⟨rfl,us,_,F1,by rw[Xc (show(v.fl.map Lr.l).length=0 by rw[AX];exact fM)];exact KJ⟩
 obtain⟨fg,rfl⟩:=hfa0 (by omega);obtain⟨t,ht⟩:∃t,t=p % v.fl.length:=⟨_,rfl⟩;have htl:t<v.fl.length:=ht▸Nat.mod_lt _ (by omega);obtain⟨lr,hr⟩:∃r,v.fl[t]? =some r:=⟨v.fl[t],Ag htl⟩;have MQ:=Ap hr;have JH:v.pure.fl[p % v.pure.fl.length]? =some lr.l:=by
  show(v.fl.map Lr.l)[p % (v.fl.map Lr.l).length]? =_;rw[AX,←ht,Ar,hr];rfl
 have Vh:(v.fl.eraseIdx t).length=v.fl.length-1:=by rw[List.length_eraseIdx,if_pos htl]
 have Tp:v.pure.fl.eraseIdx (p % v.pure.fl.length)=(v.fl.eraseIdx t).map Lr.l:=by
  rw[u_];show(v.fl.map Lr.l).eraseIdx (p % (v.fl.map Lr.l).length)=_;rw[AX,←ht]
 obtain⟨g,hg,_⟩:=uc h (P:=lr.p) (l:=lr.l) (a:=lr.a) (c:=lr.c) (fun w2 c2=>(h.st w2 c2).1.2 lr MQ) (eC lr MQ) (by omega) (by omega) (fun i hi=>by have:=hlw i hi;omega);have he:=Tm hg;have key:∀(s2:tK) (n2:Nat) (fl2:List Lr) (w1:tA),n2=fl2.length→OR X (.slice (some ⟨fg,0,none⟩) v.fl.length fc) w s2 n2 (fl2.map fun r=>lp r.p) w1→aY w1 X 114 19 (lx v.nd v.pn v.pe [s2,v.tk,v.dd,iV v.cs,sv,td])→(∀b,s2.ownBlock=some b→(Value.slice (some ⟨fg,0,none⟩) v.fl.length fc).ownBlock=some b)→(∀x∈fl2,x∈v.fl)→fl2.length≤v.fl.length→eM (fun i=>(us i).pure) v.pure k p=bH (fun i=>(us i).pure) {v.pure with fl:=fl2.map Lr.l} lr.l→cA g #[lp X,lp lr.p] w1 fun x w'=>x= .returned (.tuple #[])∧∃y:(Nat→Nv)×Wv×(Nat→Prop),Cd w X us v F (eM (fun i=>(us i).pure) v.pure k p) y.1 y.2.1 y.2.2 w':=fun s2 n2 fl2 w1 hn ho uW hs aa8 hl hq=>by
  obtain⟨F1,KJ⟩:=OR.close (fl2:=fl2) h fb o1 o2 o3 hF ho hn uW hs aa8;obtain⟨g',Vo,hcall⟩:=uc KJ.cw (P:=lr.p) (l:=lr.l) (a:=lr.a) (c:=lr.c) (fun w2 c2=>((h.st.mv KJ.mv (fun _ h=> .inl h)) w2 (c2.mono fun _ hb=>hb.elim .inr fun e=> .inl (.inr e))).1.2 lr MQ) (eC lr MQ) (show fl2.length≤_ by omega) (show v.td.length≤_ by omega) (fun i hi=>by have:=hlw i hi;omega);obtain rfl:g'=g:=Option.some.inj (Vo.symm.trans hg);exact hcall.mono fun _ w4 ⟨h0,Jy,v2,F2,hd⟩=>⟨h0,(Jy,v2,F2),by rw[hq];exact KJ.trans hd⟩
 refine r [0,1] rfl fun _=>rm (a:=(p:Int)) (b:=(v.fl.length:Int)) (t:Int) rfl (by omega) (by rw[ht];rfl) (r [] rfl fun _=>l1 (q:=0+t*1) rfl (lp lr.p) (fun w hS=> ?_) (r [] rfl fun _=> ?_))
 ·have:=oF hS.now.2.own (j:=t) (u:=lp lr.p) (by rw[Ar,hr];rfl);rw[BG]at this;rw[BC];exact this
 by_cases h6:k=6
 ·refine r [0,1,1] rfl fun _=>l1 rfl (iV lr.l.kd) (fun w hS=>(hS.now.1.1 lr MQ).b.at 0 (cK rfl)) (r [] rfl fun _=>lk (vv (.func (.func g) #[lp X] #[])) rfl (fun w hS=>hS.now.1.2 lr.l.kd g hg) (r [] rfl fun _=>ct rfl (vt []) (fun(y:(Nat→Nv)×Wv×(Nat→Prop)) w'=>Cd w X us v F (eM (fun i=>(us i).pure) v.pure k p) y.1 y.2.1 y.2.2 w') (fun w1 hS=>key _ _ v.fl w1 rfl hS.now.2 (hS.at 0 rfl) (fun _ h=>h) (fun _ h=>h) (Aa _) (by rw[h6];exact KV JH)) (fun _ _ _ h b=>h.next b) (fun y=>r [] rfl fun _=>dh rfl fun w hS=>⟨rfl,y.1,y.2.1,y.2.2,hS.now.2⟩) rfl he))
 refine rz [1,1] [((t+1:Nat):Int)] rfl fun _=>ky rfl (by kernel_rfl) fun w2 hS=>(KU (k:=t) hS.now.2.own (fun u hu=>by obtain⟨x,_,rfl⟩:=Ax.1 hu;rfl) htl).mono ?_;rintro _ w3 ⟨rfl,o',ch⟩;have CO:Mv (fun b=>(.slice (some ⟨fg,0,none⟩) v.fl.length fc:tK).ownBlock=some b) w2 (fun b=>(.slice (some ⟨fg,0,none⟩) v.fl.length fc:tK).ownBlock=some b) w3:=⟨ch.mono fun b hb=>(Au some (Ab.1 hb)).symm,fun _=> .inl,fun b hb=>Aj (yK hS.now.2.own b hb) ch.size⟩;refine⟨vv (.slice (some ⟨fg,0,none⟩) (v.fl.length-1) fc),_,_,_,_,rfl,.inl rfl,hS.mv (R':=OR X (.slice (some ⟨fg,0,none⟩) v.fl.length fc) w (.slice (some ⟨fg,0,none⟩) (v.fl.length-1) fc) (v.fl.length-1) ((v.fl.eraseIdx t).map fun r=>lp r.p)) CO (fun w2 c2=>⟨aI (u_ (fun r:Lr=>lp r.p) v.fl t▸o') (fun g hg hl=>c2.block g hl fun hb=>by obtain⟨e,he,hea⟩:=Ax.1 hb;exact hS.off e he (.inl (by rw[hea];exact hg))),(hS.now.2.c.trans ch (fun b _ hb=> .inr (.inl (Au some (Ab.1 hb)).symm))).trans c2 (fun b _ hb=>(hS.aaa (fun _ r=>r.c) b hb).elim id fun e=> .inr (.inr e))⟩),r [] rfl fun _=>gn 0 (lx v.nd v.pn v.pe [.slice (some ⟨fg,0,none⟩) (v.fl.length-1) fc,v.tk,v.dd,iV v.cs,sv,td]) ?_⟩;have aa8:∀x∈v.fl.eraseIdx t,x∈v.fl:=fun _ h=>Ci h;by_cases h5:k=5
 ·refine r [0] rfl fun _=>dh rfl fun w1 hS=> ?_;obtain⟨F1,KJ⟩:=OR.close (fl2:=v.fl.eraseIdx t) h fb o1 o2 o3 hF hS.now.2 Vh.symm (hS.at 0 rfl) (fun _ h=>h) aa8;exact⟨rfl,us,_,F1,by rw[h5,To JH,Tp];exact KJ⟩
 refine r [1,1] rfl fun _=>l1 rfl (iV lr.l.kd) (fun w hS=>(hS.now.1.1 lr MQ).b.at 0 (cK rfl)) (r [] rfl fun _=>lk (vv (.func (.func g) #[lp X] #[])) rfl (fun w hS=>hS.now.1.2 lr.l.kd g hg) (r [] rfl fun _=>ct rfl (vt []) (fun(y:(Nat→Nv)×Wv×(Nat→Prop)) w'=>Cd w X us v F (eM (fun i=>(us i).pure) v.pure k p) y.1 y.2.1 y.2.2 w') (fun w1 hS=>key _ _ (v.fl.eraseIdx t) w1 Vh.symm hS.now.2 (hS.at 0 rfl) (fun _ h=>h) aa8 (by omega) (by rw[Py JH h5 h6,Tp])) (fun _ _ _ h b=>h.next b) (fun y=>r [] rfl fun _=>dh rfl fun w hS=>⟨rfl,y.1,y.2.1,y.2.2,hS.now.2⟩) rfl he))
end
def iI(n:Nd)(kp:Int):Nd:={n with up:=false,dl:=n.dl.take (leftOf n.dl.length n.sy kp),sy:=leftOf n.dl.length n.sy kp,mo:=fun _=>Bt.zero,hn:=fun _=>0,he:=fun _=>0,wt:=[],af:=none,tu:=0,ct:=n.sy.toNat}
theorem IY{len:Nat}{s kp:Int}:leftOf len s kp≤len:=by
 unfold leftOf;split<;>omega
section
variable{w w':tA}{X i:Nat}{us:Nat→Nv}{v v':Wv}{F F':tF}
theorem Tq(h:CW w X us v F)(hi:i<5)(mw:(us i).ub=true)(kp:Int)(hk:0≤kp)(Zk:kp≤9223372036854775807):cA 49 #[lp (v.nd i),iV kp] w fun x w'=>x= .returned (.tuple #[])∧∃qf v' F',Cd w X us v F (au (fun i=>(us i).pure) i (iI (us i).pure kp),v.pure) qf v' F' w':=by
 have ok:=h.ok i hi;have DW:=h.nb i hi;unfold NB lU at DW;rw[mw]at DW;have sR:=IY (len:=(us i).dl.length) (s:=(us i).sy) (kp:=kp);refine(Su X (v.nd i) (us i).i (us i).da (us i).dl.length (us i).dc (us i).dl (us i).sy _ (us i).hn (us i).he (us i).wt (us i).af (us i).tu (us i).ct (us i).sk kp w DW (fun b=>CT us v F b∧b≠v.nd i) (fun b hb=>h.CD b hb.1) (fun hb=>hb.2 rfl) (fun w2 c2=>((h.st w2 (c2.mono fun b hb=>hb.elim (fun e=> .inl (.inr (.inl ⟨i,hi,e⟩))) fun e=>e.1)).1.1 i hi).row) ok.nil ok.cap ok.len ok.s0 ok.s1 hk Zk).mono ?_;rintro x w' ⟨a1,c1,rfl,fb,gI,pr,wh,Jn,ch⟩;obtain⟨n1,hn1e⟩:∃n1,n1=leftOf (us i).dl.length (us i).sy kp:=⟨_,rfl⟩;rw[←hn1e]at fb gI pr sR;have hlen:((us i).dl.take n1).length=n1:=by rw[AL];omega
 obtain⟨u',Cx⟩:∃u':Nv,u'={us i with ub:=false,da:=a1,dc:=c1,dl:=(us i).dl.take n1,sy:=(n1:Int),m:=fun _=>⟨Bt.zero,none,0,zQ⟩,hn:=fun _=>0,he:=fun _=>0,wt:= .slice none 0 0,wl:=[],af:= .nilFunc,ax:=none,tu:=0,ct:=(us i).sy.toNat}:=⟨_,rfl⟩;have hnv:NB w' X (v.nd i) u':=by
  have e1:(((us i).sy.toNat:Nat):Int)=(us i).sy:=Bz ok.s0;have e2:u'.dl.length=n1:=by rw[Cx];exact hlen
  have e:lU X u'=kF [.pointer (some ⟨X,0,none⟩),iV ((us i).i:Int),.bool false,.slice a1 n1 c1,iV (n1:Int)] ZU [iV (us i).sy,.bool (us i).sk]:=by
   unfold lU;rw[e2,Cx];simp only[e1];rfl
  unfold NB;rw[e];exact fb
 have aM:=h.lt;have lV:∀b,¬fG u'.wt b:=fun b hb=>by
  rw[Cx]at hb;obtain⟨o,n,c,e⟩:=hb;cases e
 have m:Mv (fun b=>F b∨b=v.nd i∨fG (us i).wt b) w (fun b=>F b∨b=v.nd i∨fG u'.wt b) w':=⟨ch.mono fun b hb=> .inr (.inl hb),fun b hb=> .inl (hb.imp id fun hb=>hb.imp id fun e=>absurd e (lV b)),fun b hb=>Aj (aM b (hb.elim .inl fun hb=>hb.elim (fun e=> .inr (.inl ⟨i,hi,e⟩)) fun e=>absurd e (lV b))) ch.size⟩;have hs:=h.st.mv m (fun b hb=> .inl (hb.imp id fun hb=>hb.imp (fun e=>⟨i,hi,e⟩) fun e=>⟨i,hi,e⟩));have eC:u'.Ok:=by
  rw[Cx];exact⟨fun _ _=>Bt.cI,wh,by rw[hlen];exact pr,Jn,by rw[hlen];have:=ok.len;omega,by show(0:Int)≤(n1:Int);omega,by show(n1:Int)≤((us i).dl.take n1).length;rw[hlen];omega,ok.i5,trivial⟩
 have MP:=h.put hi m (h.wo.EI ch fun b e=>e▸h.nf i hi) rfl rfl rfl hnv eC (h.nf i hi) ⟨0,by rw[Cx];exact⟨none,0,rfl,Aa _,Ak _,.inl ⟨rfl,rfl⟩⟩⟩ (fun b hb=>absurd hb (lV b)) (fun b hb=>absurd hb (lV b)) (fun w2 c2=>by
  have c3:dm (CT us v F) w' w2:=c2.mono fun b hb=>hb.elim id fun hb=>hb.elim (fun hb=> .inl (.inl hb)) fun e=>absurd e (lV b)
  have db:=gI w2 (c3.mono fun b hb=>by
   by_cases e:b=v.nd i
   ·exact .inl e
   ·exact .inr ⟨hb,e⟩)
  refine⟨?_,(hs w2 (c3.mono fun _=> .inl)).1.2⟩;rw[Cx]
  exact⟨by rw[hlen];exact db,fun _ _=>jT.dq rfl,rfl,fun r hr=>by cases hr⟩)
 refine⟨rfl,_,v,F,⟨MP,h.CP hi m rfl,rfl,rfl,rfl, ?_,rfl⟩⟩;rw[nS];congr 1;rw[Cx,hn1e];rfl
end
section
open Rv
noncomputable def nT(n:Nd)(s:Ws)(q:Nat)(tg:Int):Nd:=if s.pn q= -1∨s.pn q=tg∨n.up=false∨¬(n.mo q).e=s.pe q∨¬(dT (n.mo q) tg).2=0 then n else {n with mo:=au n.mo q (dT (n.mo q) tg).1}
theorem qg{n:Nd}{s:Ws}{q:Nat}{tg:Int}(h:s.pn q= -1∨s.pn q=tg∨n.up=false∨¬(n.mo q).e=s.pe q∨¬(dT (n.mo q) tg).2=0):nT n s q tg=n:=if_pos h
theorem Xd{u:Nv}{v:Wv}{q:Nat}{tg:Int}{B8:Bt}(h1:¬v.pn q= -1)(h2:¬v.pn q=tg)(h3:u.ub=true)(h4:(u.m q).B.e=v.pe q)(h5:dT (u.m q).B tg=(B8,0)):nT u.pure v.pure q tg={u.pure with mo:=au u.pure.mo q B8}:=by
 unfold nT;rw[if_neg]
 ·show({u.pure with mo:=au u.pure.mo q (dT (u.m q).B tg).1}:Nd)=_;rw[h5]
 ·rintro(h|h|h|h|h)
  ·exact h1 h
  ·exact h2 h
  ·exact absurd (h3.symm.trans h) (by decide)
  ·exact h h4
  ·exact h (Au Prod.snd h5)
theorem IZ{pn pe:tH}{q i:Nat}{a b c:Int}(hq:q<4)(hd:de pn pe)(h:jH pn pe (q:Int) a b c)(hi:pn q= -1∨pn q=(i:Int)):(¬c=0∧pn q= -1)∨(a=(i:Int)∧b=pe q∧c=0∧pn q=(i:Int)):=by
 cases h with
 |state h=>exact absurd hd h
 |range h yj=>exact absurd ⟨by omega,by omega⟩ yj
 |none h k hk yj hn=>
  obtain rfl:q=k:=by omega
  exact .inl ⟨by decide,hn⟩
 |here h k hk yj hn=>
  obtain rfl:q=k:=by omega
  have:=hi.resolve_left hn;exact .inr ⟨this,rfl,rfl,this⟩
theorem MR{B B':Bt}{nd er:Int}(h:dT B nd=(B',er)):B'.Ok:=by
 unfold dT at h;split at h
 ·cases h;exact Bt.cI
 rename_i eC;have ok:=Bk.1 eC;split at h
 ·cases h;exact Bt.cI
 rename_i hn;split at h
 ·cases h;exact Bt.cI
 split at h
 ·cases h;exact Bt.cI
 rename_i hr;have hr:=Bk.1 hr;split at h
 ·cases h;exact Bt.cI
 cases h;have hs:=ok.cO;unfold Bt.cH bB at hs;have hn:=Bk.1 hn;refine⟨.inr (.inr (.inl ⟨rfl, ?_⟩)),ok.len,ok.told⟩;show 1≤B.e∧B.e≤1048576∧B.f=0∧0≤nd∧nd≤4∧0≤B.o∧B.o≤4;omega
theorem Xe(X N:Nat)(u:Nv)(v:Wv)(F U:tF)(w:tA)(hw:NW w X N u v F U)(i q:Nat)(tg:Int)(hi:i<5)(hNi:v.nd i=N)(hq:q<4)(Xf:de v.pn v.pe)(JH:v.pn q= -1∨v.pn q=(i:Int)):cA 51 #[lp X,iV (q:Int),iV tg] w fun x w'=>x= .returned (.tuple #[])∧∃u' v' F',Dn w X N u v F U ((nT u.pure v.pure q tg,v.pure)) u' v' F' w':=by
 have ho:aS (je (u.m q)) 47:=aag (hw.st.now.1.mo q hq).one;have off:∀{w'},(Mem w' (hs [nE X N u]) (fun b=>F b∨(U b∧b≠N)) (fun w=>(u.In w N∧∀r∈v.fl,nI w r)∧True) (RW X (fun b=>b∈[N]) F w v F))→nT u.pure v.pure q tg=u.pure→∃u' v' F',Dn w X N u v F U (nT u.pure v.pure q tg,v.pure) u' v' F' w':=fun hS e=>⟨u,v,F,Dn.fin hS hw.ub hw.nu (fun _ h=>⟨h.1.1,h.1.2⟩) hw.ok rfl rfl rfl rfl rfl (by rw[e]) rfl⟩;refine en (H:=[nE X N u]) 75 [vv (lp X),vi (q:Int),vi tg] Tryz.func51 rfl rfl (hw.init (G:=fun _=>True) fun _ _=>trivial) ?_;refine r [] rfl fun _=>lf rfl 8 _ (fun w hS j hj=>hS.now.2.wo.dir hj) (r [] rfl fun _=> ?_);refine cq rfl (fun y:Int×Int×Int=>vt [.g [.o (iV y.1),.o (iV y.2.1)],.o (iV y.2.2)]) (fun y=>jH v.pn v.pe q y.1 y.2.1 y.2.2) (fun w hS=>(DL v.pn v.pe (q:Int) w).mono fun _ _ ⟨a,b,c,h0,h1,b1⟩=>⟨(a,b,c),h0,b1,h1⟩) ?_;rintro⟨pa,pb,er⟩ hwh;have hwh:jH v.pn v.pe q pa pb er:=hwh;rcases IZ hq Xf hwh JH with⟨h0,Qg⟩|⟨rfl,rfl,rfl,tj⟩
 ·exact r [1] rfl fun _=>fin fun w hS=>⟨rfl,off (hS.take 1) (qg (.inl Qg))⟩
 by_cases hto:(i:Int)=tg
 ·exact r [0,1] rfl fun _=>fin fun w hS=>⟨rfl,off (hS.take 1) (qg (.inr (.inl (tj.trans hto))))⟩
 refine r [0,0,3] rfl fun _=>l1 (q:=0+0+i*1) rfl (lp N) (fun w hS=>by rw[show 0+0+i*1=i by omega,←hNi];exact hS.now.2.wo.nd_ hi) (sv 34 (vp 0 0 N) rfl ?_);cases mw:u.ub
 ·obtain⟨u1,rfl⟩:∃u1:Nv,u={u1 with ub:=false}:=⟨u,by rw[←mw]⟩;exact r [3] rfl fun _=>fin fun w hS=>⟨rfl,off (hS.take 1) (qg (.inr (.inr (.inl mw))))⟩
 obtain⟨u1,rfl⟩:∃u1:Nv,u={u1 with ub:=true}:=⟨u,by rw[←mw]⟩;refine r [3,1] rfl fun _=>lo1 rfl rfl 0 rfl (iV (u1.m q).B.e) (nG (j:=1) hq (cK rfl)) ?_;by_cases JZ:(u1.m q).B.e=v.pe q
 case neg=>exact r [1] rfl fun _=>fin fun w hS=>⟨rfl,off (hS.take 1) (qg (.inr (.inr (.inr (.inl JZ)))))⟩
 refine r [0,1] rfl fun _=>lo rfl rfl 0 rfl 47 (je (u1.m q)) (fun i hi=>nG hq hi) (r [] rfl fun _=>cx rfl (fun y:Int×Oh=>vt [Kk y.2,.o (iV y.1)]) (fun y=>dT (u1.m q).B tg=(y.2.1,y.1)∧aS y.2.2.2.2 41) (fun y=>RL y.2) (fun w hS=>(VR _ (u1.m q).B (u1.m q).a (u1.m q).c (u1.m q).g tg w hS.ult (fun w2 c2=>(hS.g w2 c2).1.1.mo q hq) (hw.ok.ok q hq)).mono fun _ _ ⟨_,B8,er8,h0,fF,⟨a8,c8,g8,hy,hm8⟩,b⟩=>⟨(er8,B8,a8,c8,g8),by rw[h0,hy];rfl,b,⟨fF,hm8.now.one⟩,fun _=>hm8⟩) ?_);rintro⟨er8,B8,a8,c8,g8⟩ ⟨fF,o8⟩;have fF:dT (u1.m q).B tg=(B8,er8):=fF;have o8:aS g8 41:=o8;by_cases h0:er8=0
 case neg=>exact r [0] rfl fun _=>dh rfl fun w hS=>⟨rfl,off ((hS.take 1).said fun _ h=>h.1) (qg (.inr (.inr (.inr (.inr (by rw[show(Nv.pure _).mo q=(u1.m q).B from rfl,fF];exact h0))))))⟩
 subst h0;refine r [1,3,1] rfl fun _=>so (g:=je ⟨B8,a8,c8,g8⟩) rfl rfl rfl 0 rfl (lU X {u1 with ub:=true,m:=au u1.m q ⟨B8,a8,c8,g8⟩}) (fun i _=>(o4 hq i).trans (si (x:=⟨B8,a8,c8,g8⟩) i)) ?_ (aag o8);exact r [] rfl fun _=>dh rfl fun w hS=>⟨rfl,_,v,F,Dn.fin hS hw.ub hw.nu (fun _ h=>⟨h.1.1.1.put h.2,h.1.1.2⟩) (hw.ok.put (MR fF)) rfl rfl rfl rfl rfl (by rw[Xd (u:={u1 with ub:=true}) (by rw[tj];omega) (by rw[tj];exact hto) mw JZ fF];exact jN (u:={u1 with ub:=true}) _ _) rfl⟩
end
theorem Ts{f g:tD}{n:Nat}(h:vF f n=vF g n):∀i,i<n→f i=g i:=fun i hi=>by
 have h1:cm f 0 n=cm g 0 n:=by
  have h2:=Value.agg.inj h;simpa using congrArg Array.toList h2
 have h3:=Au (fun l:List Value=>l[i]?) h1;simpa[cm,hi]using h3
theorem Xg{w:tA}{N:Nat}{af:tK}{d:Ad}{x:Option Af}(h:Z_ w N af d x):(x=none∧af= .nilFunc)∨(x≠none∧∃g a b,af= .func g a b):=by
 match x,h with
 |none,h=>exact .inl ⟨rfl,h⟩
 |some (.serve l an),h=>exact .inr ⟨by simp,_,_,_,h.1⟩
 |some (.begin l an),h=>exact .inr ⟨by simp,_,_,_,h.1⟩
 |some (.shut l an),h=>exact .inr ⟨by simp,_,_,_,h.1⟩
 |some (.take l an),h=>exact .inr ⟨by simp,_,_,_,h.1⟩
 |some (.kG l an),h=>exact .inr ⟨by simp,_,_,_,h.1⟩
theorem Xh{hd tl:tM}{mo:tT}{hn he:tH}{wt af:tK}{tu:Int}{q:Nat}{g g':tD}(h:∀j,j<47→g j=g' j)(i:Nat):kF hd (gh (au mo q g) hn he wt af tu) tl i=kF hd (gh (au mo q g') hn he wt af tu) tl i:=by
 have e:∀j,j<188→au mo q g (j/47) (j % 47)=au mo q g' (j/47) (j % 47):=fun j hj=>by
  unfold au;split
  ·exact h _ (Nat.mod_lt _ (by decide))
  ·rfl
 unfold kF;by_cases h5:i<5
 ·rw[if_pos h5,if_pos h5]
 rw[if_neg h5,if_neg h5];by_cases h6:i<204
 ·rw[if_pos h6,if_pos h6];unfold gh;by_cases h7:i-5<188
  ·rw[if_pos h7,if_pos h7];exact e _ h7
  ·rw[if_neg h7,if_neg h7]
 ·rw[if_neg h6,if_neg h6]
section
variable{w w':tA}{X i:Nat}{us:Nat→Nv}{v v':Wv}{F F':tF}{u':Nv}
theorem CW.dn(h:CW w X us v F)(hi:i<5){r:Nd×Ws}(hd:Dn w X (v.nd i) (us i) v F (CT us v F) r u' v' F' w'):Cd w X us v F (au (fun i=>(us i).pure) i r.1,r.2) (au us i u') v' F' w':=by
 obtain⟨B,hr⟩:=h.wr i hi;have lV:∀b,fG u'.wt b↔fG (us i).wt b:=fun b=>by rw[hd.wt]
 have aM:∀b,fG (us i).wt b→b<w.heap.size:=fun b hb=>h.lt b (.inr (.inr ⟨i,hi,hb⟩));have m:Mv (fun b=>F b∨b=v.nd i∨fG (us i).wt b) w (fun b=>F' b∨b=v.nd i∨fG u'.wt b) w':=hd.mv.less (fun b hb=>hb.imp id .inl) fun b hb=>by
  rcases hb with hb|hb|hb
  ·exact .inl (.inl hb)
  ·exact .inl (.inr hb)
  ·exact .inr ⟨.inr (.inr ((lV b).1 hb)),aM b ((lV b).1 hb)⟩
 have hnF:∀b,fG (us i).wt b→¬F' b:=fun b hb hf=>by
  rcases hd.mv.f b (.inl hf)with(e|e)|e
  ·exact h.wf i b hi hb e
  ·exact h.wn i b i hi hi hb e
  ·exact absurd (aM b hb) (AY.2 e)
 have MP:=h.put hi m hd.nw.wo hd.nd hd.tk hd.dd hd.nw.nb hd.nw.ok hd.nw.nf ⟨B,by rw[hd.wt,hd.wl];exact hr.still fun hb=>hd.mv.c.block B (hr.lt hb) fun e=>e.elim (h.wf i B hi hb) (h.wn i B i hi hi hb)⟩ (fun b hb=>hnF b ((lV b).1 hb)) (fun b hb=>h.wn i b i hi hi ((lV b).1 hb)) (hd.nw.st.mono fun b _ hb=>by
  rcases hb with hb|hb|hb
  ·exact .inl hb
  ·exact .inr hb
  ·exact .inl (.inl (.inr (.inr ⟨i,hi,(lV b).1 hb⟩))))
 refine⟨MP,h.CP hi m hd.nd,hd.nd,hd.tk,hd.dd, ?_,hd.s⟩;rw[nS,hd.n]
theorem CW.still(h:CW w X us v F)(c:dm (fun _=>False) w w'):Cd w X us v F (fun i=>(us i).pure,v.pure) us v F w':=by
 have same:∀b,CU us v F b→w'.heap[b]? =w.heap[b]? :=fun b hb=>c.block b (h.lt b hb) id;refine⟨⟨h.wo.still fun b hb=>same b (.inl hb),fun j hj=>(h.nb j hj).same (same _ (.inr (.inl ⟨j,hj,rfl⟩))),h.ok,h.inj,h.nf,fun j hj=> ?_,h.wf,h.wn,h.ww,h.st.EI (c.mono fun _ h=>h.elim) fun _ _ h=>h,AN h.ln c.size,h.lo⟩,⟨c.mono fun _ h=>h.elim,fun _=> .inl,fun b hb=>Aj (h.lt b hb) c.size⟩,rfl,rfl,rfl,rfl,rfl⟩;obtain⟨B,hr⟩:=h.wr j hj;exact⟨B,hr.still fun hb=>same B (.inr (.inr ⟨j,hj,hb⟩))⟩
noncomputable def Tt(ns:Nat→Nd)(s:Ws)(q:Nat)(tg:Int):(Nat→Nd)×Ws:=(au ns (s.pn q).toNat (nT (ns (s.pn q).toNat) s q tg),s)
theorem Xi(h:CW w X us v F)(q:Nat)(hq:q<4)(tg:Int)(Xf:de v.pn v.pe):cA 51 #[lp X,iV (q:Int),iV tg] w fun x w'=>x= .returned (.tuple #[])∧∃qf v' F',Cd w X us v F (Tt (fun i=>(us i).pure) v.pure q tg) qf v' F' w':=by
 have hp:=Xf q hq;unfold Ho at hp;have hi:(v.pn q).toNat<5:=by omega
 refine(Xe X (v.nd (v.pn q).toNat) (us (v.pn q).toNat) v F _ w (h.nw hi) (v.pn q).toNat q tg hi rfl hq Xf (by omega)).mono ?_;rintro x w' ⟨rfl,u',v',F',hd⟩;exact⟨rfl,_,v',F',h.dn hi hd⟩
def yZ(n:Nd)(s:Ws)(q:Nat):Prop:=(de s.pn s.pe∧s.pn q= -1)∧n.up=true∧n.af=none∧(dS (n.mo q) 1).2=0∧n.dl.length+(bI [aB q]).length≤100000
open Classical in
noncomputable def bP(n:Nd)(s:Ws)(q:Nat):Nd×Ws:=if yZ n s q then({n with dl:=n.dl++bI [aB q],sy:=((n.dl.length+(bI [aB q]).length:Nat):Int),mo:=au n.mo q ⟨1,1,0,0,0,[]⟩},{s with pn:=cB s.pn q n.i,pe:=cB s.pe q 1})else(n,s)
theorem Pz(h:CW w X us v F)(hi:i<5)(q:Nat)(hq:q<4):cA 44 #[lp X,iV (q:Int),lp (v.nd i)] w fun x w'=>x= .returned (.tuple #[])∧∃qf v' F',Cd w X us v F (au (fun i=>(us i).pure) i (bP (us i).pure v.pure q).1,(bP (us i).pure v.pure q).2) qf v' F' w':=by
 have ok:=h.ok i hi;have Js:=h.st.now.1.1 i hi;obtain⟨fl,sv,td,fb,o1,o2,o3,hF⟩:=h.wo.ex;have CQ:F X:=(hF X).2 (.inl rfl);have hNX:v.nd i≠X:=fun e=>h.nf i hi (e▸CQ);have OY:=Xg Js.af;have p_:aS (je ((us i).m q)) 47:=aag (Js.mo q hq).one;refine(KI X (v.nd i) ((us i).i:Int) (us i).da (us i).dl.length (us i).dc (us i).dl (us i).sy (fun p=>je ((us i).m p)) (us i).hn (us i).he (us i).wt (us i).af ((us i).tu:Int) ((us i).ct:Int) (us i).ub (us i).sk v.nd v.pn v.pe fl v.tk v.dd v.cs sv td q hq ((us i).m q).B ((us i).m q).a ((us i).m q).c ((us i).m q).g (ok.ok q hq) rfl p_ (by have:=ok.i5;omega) (OY.imp (fun h=>h.2) fun h=>h.2) w (h.nb i hi) fb (by simp[hNX]) (fun b=>CT us v F b∧b≠v.nd i∧b≠X) (fun b hb=>h.CD b hb.1) (fun hb=>hb.2.1 rfl) (fun hb=>hb.2.2 rfl) (fun w2 c2=>((h.st w2 (c2.mono fun b hb=> ?_)).1.1 i hi).row) ok.nil ok.cap ok.max ok.len ok.s0 ok.s1).mono ?_
 ·rcases hb with(e|e)|hb
  ·exact .inl (.inr (.inl ⟨i,hi,e⟩))
  ·exact .inl (.inl (e▸CQ))
  ·exact hb.1
 rintro x w' ⟨rfl,ch,⟨Qg,f0,f1⟩|⟨tj,a3,c3,a1,c1,q1,yg,hyg,f0,f1,gI,hc3,It,hm3⟩⟩
 ·have Tu:¬yZ (us i).pure v.pure q:=fun hc=>Qg ⟨hc.1,hc.2.1,(OY.resolve_right fun k=>k.1 hc.2.2.1).2,hc.2.2.2⟩;have c0:dm (fun _=>False) w w':=ch.less fun b hb=>by
   rcases hb with rfl|rfl
   ·exact .inr ⟨_,_,_,h.nb i hi,f0⟩
   ·exact .inr ⟨_,_,_,fb,f1⟩
  have hs:=h.still c0;refine⟨rfl,us,v,F,hs.cw,hs.mv,rfl,rfl,rfl, ?_, ?_⟩
  ·unfold bP;rw[if_neg Tu];exact(qN _ _).symm
  ·unfold bP;rw[if_neg Tu]
 ·have Jx:(us i).ax=none:=(OY.resolve_right fun k=>by obtain⟨_,g,a,b,e⟩:=k;have:=tj.2.2.1;rw[e]at this;cases this).1;have Tu:yZ (us i).pure v.pure q:=⟨tj.1,tj.2.1,Jx,tj.2.2.2⟩;have mw:(us i).ub=true:=tj.2.1;obtain⟨L,hL⟩:∃L,L=bI [aB q]:=⟨_,rfl⟩;rw[←hL]at f0 gI hc3;obtain⟨u',Cx⟩:∃u':Nv,u'={us i with da:=a3,dc:=c3,dl:=(us i).dl++L,sy:=(((us i).dl.length+L.length:Nat):Int),m:=au (us i).m q ⟨⟨1,1,0,0,0,[]⟩,a1,c1,q1⟩,af:= .nilFunc,ax:=none}:=⟨_,rfl⟩;have hlen:((us i).dl++L).length=(us i).dl.length+L.length:=Ac ..;have hnv:NB w' X (v.nd i) u':=by
   unfold NB;rw[Cx];refine f0.congr fun k _=> ?_;unfold lU;simp only[hlen,mw];rw[←si (x:=(⟨⟨1,1,0,0,0,[]⟩,a1,c1,q1⟩:Mg)) k];exact Xh (fun j hj=>Ts hyg j hj) k
  have Qt:∀b,(b=v.nd i∨b=X)→F b∨b=v.nd i∨fG (us i).wt b:=fun b hb=>hb.elim (fun e=> .inr (.inl e)) fun e=> .inl (e▸CQ);have lV:u'.wt=(us i).wt:=by rw[Cx]
  have FF:u'.wl=(us i).wl:=by rw[Cx]
  have aM:∀b,(F b∨b=v.nd i∨fG (us i).wt b)→b<w.heap.size:=fun b hb=>h.lt b (hb.imp id fun hb=>hb.imp (fun e=>⟨i,hi,e⟩) fun e=>⟨i,hi,e⟩);have m:Mv (fun b=>F b∨b=v.nd i∨fG (us i).wt b) w (fun b=>F b∨b=v.nd i∨fG u'.wt b) w':=by
   rw[lV];exact⟨ch.mono Qt,fun _=> .inl,fun b hb=>Aj (aM b hb) ch.size⟩
  have kN:∀{T sz n:Nat} {x:tK} {l:tM},w.ownsRow 0 T sz x n l→T≠114→T≠126→w'.ownsRow 0 T sz x n l:=fun o h1 h2=>aI o fun g hg hl=>ch.block g hl fun hb=>hb.elim (aT o (h.nb i hi) h2 g hg) (aT o fb h1 g hg);have KQ:WO w' X {v with pn:=cB v.pn q (us i).i,pe:=cB v.pe q 1} F:=⟨fl,sv,td,f1,kN o1 (by decide) (by decide),kN o2 (by decide) (by decide),kN o3 (by decide) (by decide),hF⟩;have hs:=h.st.mv m (fun b hb=> .inl (hb.imp id fun hb=>hb.imp (fun e=>⟨i,hi,e⟩) fun e=>⟨i,hi,e⟩));have eC:u'.Ok:=by
   rw[Cx];refine(Nv.Ok.put (u:={us i with da:=a3,dc:=c3,dl:=(us i).dl++L,sy:=(((us i).dl.length+L.length:Nat):Int),af:= .nilFunc,ax:=none}) ?_ (x:=⟨⟨1,1,0,0,0,[]⟩,a1,c1,q1⟩) ?_:_)
   ·exact⟨ok.ok,It,by rw[hlen];exact hc3,hm3,by rw[hlen,hL];exact tj.2.2.2.2,by show(0:Int)≤(((us i).dl.length+L.length:Nat):Int);omega,by show(((us i).dl.length+L.length:Nat):Int)≤(((us i).dl++L).length:Int);rw[hlen];exact Bq _,ok.i5,trivial⟩
   ·exact⟨.inr (.inl ⟨rfl,by show(1:Int)≤1;decide,by show(1:Int)≤1048576;decide,rfl,rfl,rfl⟩),Ak _,St.zero,[],.nil⟩
  obtain⟨B,hr⟩:=h.wr i hi
  have MP:=h.put (v':={v with pn:=cB v.pn q (us i).i,pe:=cB v.pe q 1}) hi m KQ rfl rfl rfl hnv eC (h.nf i hi) ⟨B,by rw[lV,FF];exact hr.still fun hb=>ch.block B (hr.lt hb) fun e=>e.elim (h.wn i B i hi hi hb) fun e=>h.wf i B hi hb (e▸CQ)⟩ (fun b hb=>h.wf i b hi (lV▸hb)) (fun b hb=>h.wn i b i hi hi (lV▸hb)) (fun w2 c2=>by
   have cc:dm (CT us v F) w' w2:=c2.mono fun b hb=>hb.elim id fun hb=>hb.elim (fun hb=> .inl (.inl hb)) fun e=> .inl (.inr (.inr ⟨i,hi,lV▸e⟩));have h1:=hs w2 (cc.mono fun _=> .inl)
   have h2:=gI w2 (cc.mono fun b hb=>by
    by_cases e:b=v.nd i
    ·exact .inl (.inl e)
    ·by_cases e2:b=X
     ·exact .inl (.inr e2)
     ·exact .inr ⟨hb,e,e2⟩)
   refine⟨?_,h1.1.2⟩;have h3:=h1.1.1 i hi;rw[Cx]
   exact Nv.In.put (u:={us i with da:=a3,dc:=c3,dl:=(us i).dl++L,sy:=(((us i).dl.length+L.length:Nat):Int),af:= .nilFunc,ax:=none}) ⟨by rw[hlen,hL];exact hL▸h2.2,h3.mo,rfl,h3.wl⟩ h2.1)
  refine⟨rfl,_,_,F,MP,h.CP hi m rfl,rfl,rfl,rfl, ?_, ?_⟩
  ·rw[nS];unfold bP;rw[if_pos Tu,Cx,hL];congr 1;show Nd.mk .. =Nd.mk ..;simp only[acE,Jx]
  ·unfold bP;rw[if_pos Tu]
end
section
open Rv
open Classical in
noncomputable def Tv(es:List Ev):List An:=if h:∃x:St×List An,bk es x.1 x.2 then h.choose.2 else[]
theorem Tx{es:List Ev}{s:St}{bw:List An}(h:bk es s bw):Tv es=bw:=by
 have hx:∃x:St×List An,bk es x.1 x.2:=⟨(s,bw),h⟩;unfold Tv;rw[dif_pos hx];exact(hx.choose_spec.one h).2
def jO(r:Rec):Prop:=r.k=2∨r.k=6
instance(r:Rec):Decidable (jO r):=by unfold jO;infer_instance
noncomputable def Xj(i:Int)(Bs:Nat→Bt)(r:Rec):Jw:=⟨i,r.q,r.e,(Bs r.q.toNat).es.getLastD lT,(Tv (Bs r.q.toNat).es).getLastD Iz,-1⟩
noncomputable def gU(i:Int)(Bs:Nat→Bt)(ps:List Rec):List Jw:=(ps.filter jO).map (Xj i Bs)
theorem PA{i:Int}{Bs:Nat→Bt}{ps:List Rec}{k:Nat}{r:Rec}(h:ps[k]? =some r)(hl:jO r):gU i Bs (ps.take (k+1))=gU i Bs (ps.take k)++[Xj i Bs r]:=by
 rw[Cc,h];simp[gU,hl]
theorem Tz{i:Int}{Bs:Nat→Bt}{ps:List Rec}{k:Nat}{r:Rec}(h:ps[k]? =some r)(hl:¬jO r):gU i Bs (ps.take (k+1))=gU i Bs (ps.take k):=by
 rw[Cc,h];simp[gU,hl]
theorem vh{i:Int}{Bs:Nat→Bt}{ps:List Rec}:(gU i Bs ps).length≤ps.length:=by
 unfold gU;rw[AX];exact List.length_filter_le ..
theorem Xk{es:List Ev}{w w':tA}{va:tK}{er:Int}(h:Av es w w' va er)(hl:es.length≤2000)(ht:∃s bw,bk es s bw):∃s bw a c,er=0∧bk es s bw∧va= .slice a bw.length c∧RowK .i64 w' a (4*bw.length) (kP bw)∧∀x,a=some x→w.heap.size≤x.block:=by
 cases h with
 |bad h hr=>
  obtain⟨s,bw,ht⟩:=ht;exact absurd (hr.one (.told bw hl ht)).2 h
 |told bw hl' Ym own=>
  obtain⟨a,c,e,hr,_,_,_,hb⟩:=RowK.eO own Ym.Sr;exact⟨_,bw,a,c,rfl,Ym,e,hr,hb⟩
theorem KW{l:List An}{k:Nat}{v:An}(hk:l[k]? =some v):∀j,j<4→iV ((kP l).getD (4*k+j) 0)=lF [iV v.c,iV v.he,iV v.no,iV v.bd] j:=by
 induction l generalizing k with
 |nil=>simp at hk
 |cons u l ih=>
  intro j hj;cases k with
  |zero=>
   simp only[List.getElem?_cons_zero,Option.some.injEq]at hk;subst hk
   match j,hj with
   |0,_=>rfl
   |1,_=>rfl
   |2,_=>rfl
   |3,_=>rfl
  |succ k=>
   have:=ih (k:=k) (by simpa using hk) j hj;rw[←this];congr 1;show(fp u++kP l).getD (4*(k+1)+j) 0=_;simp only[List.getD_eq_getElem?_getD];rw[AE (by show 4≤_;omega),show 4*(k+1)+j-(fp u).length=4*k+j by show 4*(k+1)+j-4=_;omega]
theorem MS{α:Type}{l:List α}{x d:α}(h:l[l.length-1]? =some x):l.getLastD d=x:=by
 rw[List.getLastD_eq_getLast?,List.getLast?_eq_getElem?,h];rfl
theorem Xl(X N:Nat)(u:Nv)(Bs:Nat→Bt)(Y yc:Nat)(A:Nat→Option Addr)(K:tV)(ps:List Rec)(kk:Nat)(w:tA)(U:tF)(hU:∀b,U b→b<w.heap.size)(hG:bV U w (fun w=>((NB w X N u)∧RowK .u8 w u.da u.dl.length u.dl)∧ly w Y 4 Bs A K))(ok:u.Ok)(Qu:u.ct≤u.dl.length)(Wo:bu (u.dl.drop u.ct)=(ps.map aZ,kk))(vC:∀x∈aC ps,(Lit.int .i64 x).wf=true)(JH:ps.length≤100000)(hps:∀r∈ps,jO r→∃q:Nat,q<4∧r.q=(q:Int)∧(Bs q).Ok∧0<(Bs q).es.length):cA 87 #[lp N,.slice (some ⟨Y,0,none⟩) 4 yc] w fun x w'=>∃lv,x= .returned lv∧w'.ownsRow 0 61 14 lv (gU u.i Bs ps).length ((gU u.i Bs ps).flatMap DZ)∧(∀b,lv.ownBlock=some b→w.heap.size≤b)∧bZ w w':=by
 refine en (H:=[]) 81 [vv (lp N),vv (.slice (some ⟨Y,0,none⟩) 4 yc)] Tryz.func87 rfl rfl (oE hU hG) (r [2] rfl fun _=>l1 rfl (.slice u.da u.dl.length u.dc) (fun w hS=>hS.now.1.1.1.at 3 (cK rfl)) (r [] rfl fun _=>l1 rfl (iV (u.ct:Int)) (fun w hS=>hS.now.1.1.1.at 204 (cK rfl)) (r [] rfl fun _=>cx rfl (fun y:Option Addr×Nat=>vt [.o (.slice y.1 ps.length y.2),.o (iV (kk:Nat)),.o (iV 0)]) (fun y=>0<ps.length→∃b o,y.1=some ⟨b,o,none⟩) (fun y w=>RowK .i64 w y.1 (10*ps.length) (aC ps)) (fun w hS=>(MD (gM u.da u.ct 1 u.dc) (u.dl.length-u.ct) (u.dc-u.ct) (u.dl.drop u.ct) 0 ps kk _ (SG hS.now.1.1.2 Qu ok.cap) (fun h=>by rw[ok.nil (uX h)];omega) (by have:=ok.cap;omega) (by have:=ok.max;omega) (by have:=ok.len;omega) (Bq _) (by omega) Wo vC).mono ?_) ?_)))
 ·rintro _ w2 ⟨a8,c8,rfl,r8,Gk,hm8,SA,hf8,b⟩;exact⟨(a8,c8),rfl,b,fun h=>oP r8 (by omega),fun hl=>bW r8 hf8 hl⟩
 rintro⟨a8,c8⟩ hbo;have hbo:0<ps.length→∃b o,a8=some ⟨b,o,none⟩:=hbo;refine r [] rfl fun _=>jj (fun w2 hS=>hS.zT w.heap.size 61 14) ?_;refine iC (X:=Nat×Value) ⟨fun x=>[(0,vv (lp N)),(1,vv (.slice (some ⟨Y,0,none⟩) 4 yc)),(8,vv x.2),(31,vv (.slice a8 ps.length c8)),(32,vi (ps.length:Int)),(33,vi (x.1:Int))],fun _=>[],fun x b=>x.2.ownBlock=some b∨U b,fun _ w=>((NB w X N u∧RowK .u8 w u.da u.dl.length u.dl)∧ly w Y 4 Bs A K)∧RowK .i64 w a8 (10*ps.length) (aC ps),fun x w'=>bZ w w'∧w'.ownsRow w.heap.size 61 14 x.2 (gU u.i Bs (ps.take x.1)).length ((gU u.i Bs (ps.take x.1)).flatMap DZ),fun x=>x.1≤ps.length,fun x=>ps.length-x.1⟩ (0,.slice none 0 0) ⟨rfl,rfl,rfl,rfl,rfl,rfl,trivial⟩ (fun w hS=>hS) (Ak _) ?_;rintro f ⟨k,lv⟩ hk;have hk:k≤ps.length:=hk;by_cases aM:k<ps.length
 case neg=>
  obtain rfl:k=ps.length:=by omega
  refine r [0] rfl fun _=>fin fun w1 hS=> ?_;have ho:=hS.now.2.2;rw[Bh]at ho
  exact⟨lv,rfl,⟨ho.1,ho.2.imp id fun⟨g,c,cur,e,_,h⟩=>⟨g,c,cur,e,Ak _,h⟩⟩,fun b hb=>by
   rcases ho.2 with⟨rfl,_⟩|⟨g,c,cur,rfl,hg,_⟩
   ·cases hb
   ·cases hb;exact hg,hS.now.2.1⟩
 obtain⟨bb,bo,rfl⟩:=hbo (by omega);obtain⟨rec,hv⟩:∃r,ps[k]? =some r:=⟨ps[k],Ag aM⟩;have MQ:=Ap hv;have hle:(gU u.i Bs (ps.take k)).length≤100000:=by
  have:=vh (i:=u.i) (Bs:=Bs) (ps:=ps.take k);rw[AL]at this;omega
 obtain⟨rk,rq,re,rp,rv⟩:=rec;have db:=p8 hv;by_cases hil:jO ⟨rk,rq,re,rp,rv⟩
 case neg=>
  have h2:¬rk=2:=fun h=>hil (.inl h);have h6:¬rk=6:=fun h=>hil (.inr h);exact r [1] rfl fun _=>lf (q:=bo+k*10) rfl 10 (lF [iV rk,iV rq,iV re,iV rp,iV rv.k,iV rv.p,iV rv.i,iV rv.b,iV rv.he,iV rv.hn]) (fun w hS=>jV hS.now.1.2 (by omega) db) (sv 36 (vg [.o (iV rk),.o (iV rq),.o (iV re),.o (iV rp),.o (iV rv.k),.o (iV rv.p),.o (iV rv.i),.o (iV rv.b),.o (iV rv.he),.o (iV rv.hn)]) rfl (rz [1,1,1] [((k+1:Nat):Int)] rfl fun _=>b_ (k+1,lv) ⟨rfl,rfl,rfl,rfl,rfl,rfl,trivial⟩ (fun w hS=>(hS.take 0).sr fun w h=>⟨h.1,by rw[Tz hv hil];exact h.2⟩) (show k+1≤ps.length by omega) (show ps.length-(k+1)<ps.length-k by omega)))
 obtain⟨q,mZ,hrq,okq,acH⟩:=hps _ MQ hil;obtain rfl:rq=(q:Int):=hrq;obtain⟨eb,eo,hA⟩:=oP (hG.now.2.bin q mZ).row (by omega);obtain⟨e9,he9⟩:∃e9,(Bs q).es[(Bs q).es.length-1]? =some e9:=⟨_,Ag (by omega)⟩;obtain⟨s9,bw,hta⟩:=okq.told;have hal:=hta.len;have Vh:=okq.len;obtain⟨n9,hn9⟩:∃n9,bw[(Bs q).es.length-1]? =some n9:=⟨_,Ag (by omega)⟩;have Jt:Xj u.i Bs ⟨rk,(q:Int),re,rp,rv⟩=⟨(u.i:Int),(q:Int),re,e9,n9,-1⟩:=by
  unfold Xj;rw[show((q:Int)).toNat=q by omega,Tx hta,MS he9,MS (by rw[hal];exact hn9)]
 have tj:=PA (i:=u.i) (Bs:=Bs) hv hil;refine r [1] rfl fun _=>lf (q:=bo+k*10) rfl 10 (lF [iV rk,iV (q:Int),iV re,iV rp,iV rv.k,iV rv.p,iV rv.i,iV rv.b,iV rv.he,iV rv.hn]) (fun w hS=>jV hS.now.1.2 (by omega) db) (sv 36 (vg [.o (iV rk),.o (iV (q:Int)),.o (iV re),.o (iV rp),.o (iV rv.k),.o (iV rv.p),.o (iV rv.i),.o (iV rv.b),.o (iV rv.he),.o (iV rv.hn)]) rfl ?_);rcases hil with h2|h6
 case' inl=>
  have h2:rk=2:=h2;refine r [0] rfl fun _=> ?_
 case' inr=>
  have h6:rk=6:=h6;refine r [1,0] rfl fun _=> ?_
 all_goals
  refine l1 (q:=0+q*6+5) rfl (.slice (some ⟨eb,eo,none⟩) (Bs q).es.length (K q)) (fun w hS=>by rw[←hA,show 0+q*6+5=q*6+5 by omega];exact hS.now.1.1.2.cell q mZ 5 (by decide)) (r [] rfl fun _=>cx rfl (fun y:Nat×Nat×Nat=>vt [.o (.slice (some ⟨y.1,y.2.1,none⟩) bw.length y.2.2),.o (iV 0)]) (fun _=>True) (fun y w=>RowK .i64 w (some ⟨y.1,y.2.1,none⟩) (4*bw.length) (kP bw)) (fun w hS=>(Is (Bs q).es (some ⟨eb,eo,none⟩) (K q) _ (hA▸(hS.now.1.1.2.bin q mZ).row)).mono ?_) ?_)
  ·rintro _ w5 ⟨va,er,rfl,hav,b⟩;obtain⟨s8,an8,a9,c9,rfl,hta8,rfl,rn9,hf9⟩:=Xk hav okq.len okq.told;obtain rfl:an8=bw:=(hta8.one hta).2;obtain⟨ab,ao,rfl⟩:=oP rn9 (by omega);exact⟨(ab,ao,c9),rfl,b,trivial,fun hl=>bW rn9 hf9 hl⟩
  rintro⟨ab,ao,c9⟩-;refine rz [1,1] [(((Bs q).es.length-1:Nat):Int)] rfl fun _=>l1 rfl (iV (u.i:Int)) (fun w hS=>hS.now.1.1.1.1.1.at 1 (cK rfl)) (r [] rfl fun _=>lf (q:=eo+((Bs q).es.length-1)*6) rfl 6 (lF [iV e9.k,iV e9.p,iV e9.i,iV e9.b,iV e9.he,iV e9.hn]) (fun w hS=>jV (hA▸(hS.now.1.1.1.2.bin q mZ).row) (by omega) (rZ he9)) (sv 71 (vg [.o (iV e9.k),.o (iV e9.p),.o (iV e9.i),.o (iV e9.b),.o (iV e9.he),.o (iV e9.hn)]) rfl (r [] rfl fun _=>lf (q:=ao+((Bs q).es.length-1)*4) rfl 4 (lF [iV n9.c,iV n9.he,iV n9.no,iV n9.bd]) (fun w hS=>jV hS.now.1.2 (by omega) (KW hn9)) (sv 75 (vg [.o (iV n9.c),.o (iV n9.he),.o (iV n9.no),.o (iV n9.bd)]) rfl (r [] rfl fun _=>qT 1 rfl rC (fun w hS=>hS.now.2.1.size) (fun _ _ h c=>cV h c (Aa _)) fun g c hc=> ?_)))));exact rz [1] [((k+1:Nat):Int)] rfl fun _=>b_ (k+1,_) ⟨rfl,rfl,rfl,rfl,rfl,rfl,trivial⟩ (fun w hS=>((hS.take 0).said fun _ h=>h.1).sr fun w h=>⟨h.1,by rw[tj,Jt,Ac,List.flatMap_append];exact h.2⟩) (show k+1≤ps.length by omega) (show ps.length-(k+1)<ps.length-k by omega)
def y_(w:tA)(a:tB)(L:List Jw):Prop:=∀k y,L[k]? =some y→∃g,a=some ⟨g,0,none⟩∧∀j,j<14→w.cell? ⟨g,k*14+j,none⟩=some (lF (DZ y) j)
theorem FK{α β:Type}{f:α→List β}{m:Nat}(hm:∀x,(f x).length=m):∀(l:List α) (k:Nat) (x:α) (j:Nat),l[k]? =some x→j<m→(l.flatMap f)[k*m+j]? =(f x)[j]?
 |[],k,x,j,h,_=>by simp at h
 |a::l,0,x,j,h,hj=>by
  simp only[List.getElem?_cons_zero,Option.some.injEq]at h;subst h;rw[List.flatMap_cons,Nat.zero_mul,Ae,AD (by rw[hm];exact hj)]
 |a::l,k+1,x,j,h,hj=>by
  have ih:=FK hm l k x j (by simpa using h) hj;rw[List.flatMap_cons,AE (by rw[hm,Nat.succ_mul];omega),hm,←ih];congr 1;rw[Nat.succ_mul];omega
theorem aak(y:Jw){j:Nat}(hj:j<14):(DZ y)[j]? =some (lF (DZ y) j):=by
 match j,hj with
 |0,_=>rfl
 |1,_=>rfl
 |2,_=>rfl
 |3,_=>rfl
 |4,_=>rfl
 |5,_=>rfl
 |6,_=>rfl
 |7,_=>rfl
 |8,_=>rfl
 |9,_=>rfl
 |10,_=>rfl
 |11,_=>rfl
 |12,_=>rfl
 |13,_=>rfl
theorem FL{w:tA}{T:Nat}{lv:tK}{L:List Jw}(h:w.ownsRow 0 T 14 lv L.length (L.flatMap DZ)):∃a c,lv= .slice a L.length c∧y_ w a L:=by
 obtain⟨_,⟨e,h0⟩|⟨g,c,cur,e,_,hb,_,_,_,KP⟩⟩:=h
 ·exact⟨none,0,by rw[e,h0],fun k y hk=>by rw[AU.1 h0]at hk;simp at hk⟩
 ·refine⟨_,c,e,fun k y hk=>⟨g,rfl,fun j hj=> ?_⟩⟩;have h1:=FK (f:=DZ) (m:=14) (fun _=>rfl) L k y j hk hj;rw[aak y hj,←KP,AP]at h1;split at h1
  ·simp only[World.cell?,hb];rw[←BP];simpa using h1
  ·cases h1
def PB(i:Nat)(mg:Nat→Mg)(r:Rec):Jw:=⟨i,r.q,(mg r.q.toNat).B.e,r.v,Iz,-1⟩
theorem PC(X N:Nat)(u:Nv)(v:Wv)(F U:tF)(w:tA)(hw:NW w X N u v F U)(mg:Nat→Mg)(wm:∀q,q<4→(mg q).B.Ok)(la:tB)(ls:List Jw)(lc:Nat)(ra:tB)(rs:List Rec)(rc:Nat)(c0 c1 c2 c3:Nat)(hg:bV U w (fun w=>((((((aY w c0 120 199 (gh (fun p=>je (mg p)) (eD 4) bp (.slice none 0 0) (.nilFunc) 0))∧aY w c1 109 1 (fun _=>lp N))∧aY w c2 31 1 (fun _=> .slice la ls.length lc))∧aY w c3 176 1 (fun _=> .slice ra rs.length rc))∧y_ w la ls)∧RowK .i64 w ra (10*rs.length) (aC rs))∧(∀q,q<4→nJ w (mg q))))(hrs:∀r∈rs,∃q:Nat,q<4∧r.q=(q:Int))(hlen:v.sv.length+ls.length+rs.length≤1000000000000):cA 88 #[lp c0,lp c1,lp c2,lp c3] w fun x w'=>x= .returned (.tuple #[])∧∃F',NW w' X N ({u with ub:=true,m:=mg,hn:=eD 4,he:=bp,wt:= .slice none 0 0,wl:=[],af:= .nilFunc,ax:=none,tu:=0}) {v with sv:=v.sv++ls++(rs.map (PB u.i mg))} F' (fun b=>U b∨F' b)∧Mv (fun b=>F b∨b=N) w (fun b=>F' b∨b=N) w':=by
 have p_:aS (gh (fun p=>je (mg p)) (eD 4) bp (.slice none 0 0) .nilFunc 0) 199:=uU (fun q hq=>aag (hg.now.2 q hq).one) rfl;have hv:∀a,a∈[N]→a∈[N]:=fun _ h=>h;obtain⟨u2,hu2⟩:∃u2:Nv,u2={u with ub:=true,m:=mg,hn:=eD 4,he:=bp,wt:= .slice none 0 0,wl:=[],af:= .nilFunc,ax:=none,tu:=0}:=⟨_,rfl⟩;rw[←hu2];refine en (H:=[nE X N u]) _ [vv (lp c0),vv (lp c1),vv (lp c2),vv (lp c3)] Tryz.func88 rfl rfl (hw.init hg) ?_;refine r [5,0,5] rfl fun _=>Y6 rfl (lp N) (fun w h=>h.1.2.1.1.1.1.1.2.at 0 (cK rfl)) (Rv.sv 8 (vp 0 0 N) rfl (r [] rfl fun _=>Y6 rfl (lp N) (fun w h=>h.1.2.1.1.1.1.1.2.at 0 (cK rfl)) (Rv.sv 9 (vp 0 0 N) rfl (r [] rfl fun _=>lfg rfl 199 (gh (fun p=>je (mg p)) (eD 4) bp (.slice none 0 0) .nilFunc 0) (fun w h j hj=>by rw[Ae];exact h.1.2.1.1.1.1.1.1.at j (by omega)) ?_ hv)) hv)) hv;refine r [] rfl fun _=>gn 0 (lU X u2) ?_ rfl (by rw[hu2];kernel_rfl);refine l1 rfl (.slice la ls.length lc) (fun w hS=>hS.now.1.2.1.1.1.1.2.at 0 (cK rfl)) (r [] rfl fun _=> ?_);refine EV (X:=Nat×Wv×(Nat→Prop)) (fun x=>[(0,vv (lp c0)),(1,vv (lp c1)),(2,vv (lp c2)),(3,vv (lp c3)),(15,vv (.slice la ls.length lc)),(16,vi (ls.length:Int)),(17,vi (x.1:Int))]) (fun _=>[nE X N u2]) (fun x b=>x.2.2 b∨(U b∧b≠N)) (fun x=>RW X (fun b=>b∈[N]) F w x.2.1 x.2.2) (fun x=>x.1≤ls.length∧x.2.1={v with sv:=v.sv++ls.take x.1}) (fun x=>ls.length-x.1) (0,v,F) ⟨rfl,rfl,rfl,rfl,rfl,rfl,rfl,trivial⟩ (fun _ hS=>hS) ⟨Ak _,by simp⟩ ?_;rintro f ⟨k,v1,F1⟩ ⟨hk,ND⟩;have hk:k≤ls.length:=hk;obtain rfl:v1={v with sv:=v.sv++ls.take k}:=ND;by_cases aM:k<ls.length
 ·obtain⟨y,hy⟩:∃y,ls[k]? =some y:=⟨ls[k],Ag aM⟩;obtain⟨lg,rfl,_⟩:=hg.now.1.1.2 k y hy;refine r [1] rfl fun _=>lf (q:=0+k*14) rfl 14 (lF (DZ y)) (fun w hS j hj=>by obtain⟨g2,e2,h2⟩:=hS.now.1.2.1.1.2 k y hy;cases e2;rw[Ae];exact h2 j hj) (r [1] rfl fun β=>l1 rfl (lp N) (fun w hS=>hS.now.1.2.1.1.1.1.1.2.at 0 (cK rfl)) (Rv.sv 21 (vp 0 0 N) rfl (r [] rfl fun _=>cv rfl (vt []) _ (fun w1 hS=>ID X _ F1 w1 y _ rfl hS.now.2.wo (by show(v.sv++ls.take k).length≤_;rw[Ac,AL];omega)) fun F2=> ?_)));exact rz [1] [((k+1:Nat):Int)] rfl fun _=>b_ (k+1,_,F2) ⟨rfl,rfl,rfl,rfl,rfl,rfl,rfl,trivial⟩ (fun w hS=>hS.take 1) ⟨aM,by rw[nP hy,←Az]⟩ (show ls.length-(k+1)<ls.length-k by omega)
 obtain rfl:k=ls.length:=by omega
 refine r [0] rfl fun _=>l1 rfl (.slice ra rs.length rc) (fun w hS=>hS.now.1.2.1.1.1.2.at 0 (cK rfl)) (r [] rfl fun _=> ?_);refine EV (X:=Nat×Wv×(Nat→Prop)) (fun x=>[(0,vv (lp c0)),(1,vv (lp c1)),(2,vv (lp c2)),(3,vv (lp c3)),(28,vv (.slice ra rs.length rc)),(29,vi (rs.length:Int)),(30,vi (x.1:Int))]) (fun _=>[nE X N u2]) (fun x b=>x.2.2 b∨(U b∧b≠N)) (fun x=>RW X (fun b=>b∈[N]) F w x.2.1 x.2.2) (fun x=>x.1≤rs.length∧x.2.1={v with sv:=v.sv++ls++(rs.take x.1).map (PB u.i mg)}) (fun x=>rs.length-x.1) (0,_,F1) ⟨rfl,rfl,rfl,rfl,rfl,rfl,rfl,trivial⟩ (fun _ hS=>hS) ⟨Ak _,by simp⟩ ?_;rintro f ⟨k,v1,F2⟩ ⟨hk,ND⟩;have hk:k≤rs.length:=hk;obtain rfl:v1={v with sv:=v.sv++ls++(rs.take k).map (PB u.i mg)}:=ND;by_cases aM:k<rs.length
 ·obtain⟨⟨rk,rq,re,rp,rv⟩,hv⟩:∃r,rs[k]? =some r:=⟨rs[k],Ag aM⟩;obtain⟨q,mZ,hrq⟩:=hrs _ (Ap hv);obtain rfl:rq=(q:Int):=hrq;obtain⟨bb,bo,rfl⟩:=oP hg.now.1.2 (by omega);refine r [1] rfl fun _=>lf (q:=bo+k*10) rfl 10 (lF [iV rk,iV (q:Int),iV re,iV rp,iV rv.k,iV rv.p,iV rv.i,iV rv.b,iV rv.he,iV rv.hn]) (fun w hS=>jV hS.now.1.2.1.2 (by omega) (p8 hv)) (Rv.sv 33 (vg [.o (iV rk),.o (iV (q:Int)),.o (iV re),.o (iV rp),.o (iV rv.k),.o (iV rv.p),.o (iV rv.i),.o (iV rv.b),.o (iV rv.he),.o (iV rv.hn)]) rfl (r [] rfl fun β=>l1 rfl (lp N) (fun w hS=>hS.now.1.2.1.1.1.1.1.2.at 0 (cK rfl)) (r [] rfl fun _=>cv rfl (vt []) _ (fun w1 hS=>uY X _ F2 w1 N u2 q mZ rv Iz (-1) hS.now.2.wo (fun w2 c2=>(hS.we 0 rfl w2 (c2.mono fun b h=> .inl h)).2) (by show(v.sv++ls++(rs.take k).map (PB u.i mg)).length≤_;rw[Ac,Ac,AX,AL];omega)) fun F3=> ?_)));exact rz [1] [((k+1:Nat):Int)] rfl fun _=>b_ (k+1,_,F3) ⟨rfl,rfl,rfl,rfl,rfl,rfl,rfl,trivial⟩ (fun w hS=>hS.take 1) ⟨aM,by rw[nP hv,AB,←Az,hu2];simp[PB]⟩ (show rs.length-(k+1)<rs.length-k by omega)
 obtain rfl:k=rs.length:=by omega
 refine r [0] rfl fun _=>dh rfl fun w1 hS=> ?_;rw[Bh]at hS;have hn:=NW.fin (u':=u2) hS hw.ub hw.nu (fun _ h=>⟨⟨by rw[hu2];exact h.1.1.row,by rw[hu2];exact h.2.2,by rw[hu2];rfl,by rw[hu2];exact fun r hr=>by cases hr⟩,h.1.2⟩) (by rw[hu2];exact⟨wm,hw.ok.nil,hw.ok.cap,hw.ok.max,hw.ok.len,hw.ok.s0,hw.ok.s1,hw.ok.i5,trivial⟩);exact⟨rfl,F2,hn.1,hn.2.1⟩
end
theorem TA(Bs:Nat→Bt)(Y cb:Nat)(A:Nat→Option Addr)(K:tV)(ok:∀q,q<4→(Bs q).Ok)(p:Nat)(hp:p<4)(Z2:∀q,q<p→(bm (Bs q)).2=0)(hhi:¬(bm (Bs p)).2=0)(U:tF)(w:tA)(hU:∀b,U b→b<w.heap.size)(hb:bV U w fun w=>ly w Y 4 Bs A K):cA 86 #[.slice (some ⟨Y,0,none⟩) 4 cb] w (rB (.tuple #[vF ZU 199,.slice none 0 0,.bool false]) w):=by
 refine(DY Bs Y cb A K ok (fun q hq=>YA (ok q hq)) U w hU hb).mono ?_;rintro x w' (⟨_,h⟩|⟨h,_⟩)
 ·exact h
 ·exact absurd (h p hp) hhi
def mV(z:tG):List Int:=bytesOf (z.getD 0 0) (z.getD 1 0) (z.getD 2 0) (z.getD 3 0) (z.getD 4 0) (z.getD 5 0) (z.getD 6 0) (z.getD 7 0) (z.getD 8 0) (z.getD 9 0)
def aN(rs:List (List Int)):List Int:=rs.flatMap (fun z=>dL (mV z))
theorem rE(rs:List (List Int))(z:tG):aN (rs++[z])=aN rs++dL (mV z):=by simp[aN]
def lC(z:tG):Prop:=∃x0 x1 x2 x3 x4 x5 x6 x7 x8 x9,z=[x0,x1,x2,x3,x4,x5,x6,x7,x8,x9]∧aE x0 x1 x2 x3 x4 x5 x6 x7 x8 x9=0∧(¬(x0=2∨x0=5)→x4=0∧x5=0∧x6=0∧x7=0∧x8=0∧x9=0)
theorem za(z:tG):16≤(mV z).length∧(mV z).length≤40:=by
 unfold mV;rw[vM];split<;>omega
theorem iz(rs:List (List Int)):22*rs.length≤(aN rs).length∧(aN rs).length≤46*rs.length:=by
 induction rs with
 |nil=>simp[aN]
 |cons z rs ih=>
  have:=za z;have hf:aN (z::rs)=dL (mV z)++aN rs:=by simp[aN]
  rw[hf,Ac,mJ,List.length_cons];omega
inductive Steps(b:tG):Nat→List (List Int)→Prop
 |start:Steps b 0 []
 |more {k m:Nat} {rs:List (List Int)} {zs:tG} (h:Steps b k rs) (hu:a7 (b.drop k)=some (zs,m)):Steps b (k+m) (rs++[zs])
theorem Steps.going{b:tG}{k:Nat}{rs:List (List Int)}(h:Steps b k rs):DP b k rs:=by
 induction h with
 |start=>exact vL b
 |more _ hu ih=>exact yx ih hu
theorem Steps.end{b:tG}{k:Nat}{rs:List (List Int)}(h:Steps b k rs)(hn:a7 (b.drop k)=none):bu b=(rs,k):=uQ h.going hn
theorem vV(b:tG):∀(f k:Nat) (rs:List (List Int)),Steps b k rs→k≤b.length→b.length+1≤f+k→Steps b (jW f b k rs).2 (jW f b k rs).1∧a7 (b.drop (jW f b k rs).2)=none
 |0,k,rs,_,h1,h2=>by omega
 |f+1,k,rs,hs,h1,h2=>by
  cases hu:a7 (b.drop k)with
  |none=>rw[qB hu];exact⟨hs,hu⟩
  |some p=>
   obtain⟨zs,m⟩:=p;rw[oU hu];obtain⟨_,hm,hl,_⟩:=gx hu;rw[AM]at hl;exact vV b f (k+m) (rs++[zs]) (hs.more hu) (by omega) (by omega)
theorem pg(b:tG):Steps b (bu b).2 (bu b).1∧a7 (b.drop (bu b).2)=none:=vV b _ 0 [] .start (Ak _) (by omega)
theorem Ei(b:tG):∀(f k:Nat) (rs:List (List Int)),∃more,(jW f b k rs).1=rs++more∧k≤(jW f b k rs).2∧(more=[]→(jW f b k rs).2=k)
 |0,k,rs=>⟨[],by simp[jW],Aa _,fun _=>rfl⟩
 |f+1,k,rs=>by
  cases hu:a7 (b.drop k)with
  |none=>rw[qB hu];exact⟨[],by simp,Aa _,fun _=>rfl⟩
  |some p=>
   obtain⟨zs,m⟩:=p;rw[oU hu];obtain⟨more,h1,h2,_⟩:=Ei b f (k+m) (rs++[zs]);exact⟨zs::more,by rw[h1];simp,by omega,fun h=>by cases h⟩
theorem Steps.prefix{b:tG}{k:Nat}{rs:List (List Int)}(h:Steps b k rs):∃more,(bu b).1=rs++more∧k≤(bu b).2∧(more=[]→(bu b).2=k):=by
 obtain⟨_,f,_,hf⟩:=h.going;obtain⟨more,h1,h2,h3⟩:=Ei b f k rs;rw[hf]at h1 h2 h3;exact⟨more,h1,h2,h3⟩
theorem vW(b:tG)(c:Nat)(h:2≤c):toldOf (b.take c)=toldOf b:=by
 unfold toldOf;simp[List.getD_eq_getElem?_getD,show 0<c by omega,show 1<c by omega]
theorem FM{b zs:tG}{m c:Nat}(h:a7 b=some (zs,m))(hc:m≤c):a7 (b.take c)=some (zs,m):=by
 obtain⟨h2,hm,hl,hs,hd⟩:=gx h;have ht:=vW b c (by omega);unfold a7;rw[ht,if_neg (by simp;omega),if_neg (by simp;omega)];have e1:(b.take c).take (toldOf b+2)=b.take (toldOf b+2):=by rw[BK,BA (by omega)]
 have e2:((b.take c).drop (toldOf b+2)).take 4=(b.drop (toldOf b+2)).take 4:=by
  rw[List.drop_take,BK,BA (by omega)]
 have e3:((b.take c).drop 2).take (toldOf b)=(b.drop 2).take (toldOf b):=by
  rw[List.drop_take,BK,BA (by omega)]
 rw[e1,e2,e3,if_neg (AZ hs),hd,if_neg (AZ rfl),hm]
theorem FN{b b' zs:tG}{m:Nat}(h:a7 b=some (zs,m))(he:b.take m=b'.take m):a7 b'=some (zs,m):=by
 have h1:=FM h (Aa m);rw[he]at h1;obtain⟨h2,hm,hl,hs,hd⟩:=gx h1;have hl':m≤b'.length:=by simp at hl;omega
 have ht:=vW b' m (by omega);rw[ht]at hm hs hd;unfold a7;rw[if_neg (by omega),if_neg (by omega)];have e1:(b'.take m).take (toldOf b'+2)=b'.take (toldOf b'+2):=by rw[BK,BA (by omega)]
 have e2:((b'.take m).drop (toldOf b'+2)).take 4=(b'.drop (toldOf b'+2)).take 4:=by
  rw[List.drop_take,BK,BA (by omega)]
 have e3:((b'.take m).drop 2).take (toldOf b')=(b'.drop 2).take (toldOf b'):=by
  rw[List.drop_take,BK,BA (by omega)]
 rw[e1,e2]at hs;rw[e3]at hd;rw[if_neg (AZ hs),hd,if_neg (AZ rfl),hm]
theorem Steps.same{b:tG}{k:Nat}{rs:List (List Int)}(h:Steps b k rs):∀{b':tG},b.take k=b'.take k→Steps b' k rs:=by
 induction h with
 |start=>intro b' _;exact .start
 | @more k m rs zs h hu ih=>
  intro b' he;have h1:b.take k=b'.take k:=by
   have:=Au (List.take k) he;simpa[List.take_take,Nat.min_eq_left (show k≤k+m by omega)]using this
  refine(ih h1).more (FN hu ?_);have:=Au (List.drop k) he;simpa[List.drop_take]using this
theorem C0{z:tG}(hz:lC z)(tail:tG):a7 (dL (mV z)++tail)=some (z,(mV z).length+6):=by
 obtain⟨x0,x1,x2,x3,x4,x5,x6,x7,x8,x9,rfl,hf,hzz⟩:=hz;have JK:=za [x0,x1,x2,x3,x4,x5,x6,x7,x8,x9];have hdt:=Hz x0 x1 x2 x3 x4 x5 x6 x7 x8 x9 [] hf hzz;rw[As,if_pos rfl]at hdt;have hbe:mV [x0,x1,x2,x3,x4,x5,x6,x7,x8,x9]=bytesOf x0 x1 x2 x3 x4 x5 x6 x7 x8 x9:=rfl;rw[hbe]at JK⊢;generalize bytesOf x0 x1 x2 x3 x4 x5 x6 x7 x8 x9=p at JK hdt;have hfp:dL p++tail=((p.length:Int)/256)::((p.length:Int) % 256)::(p++(four (sumOf (kR p))++tail)):=by simp[dL,kR]
 have acV:toldOf (dL p++tail)=p.length:=by
  rw[hfp];unfold toldOf;simp;omega
 have hlen:(dL p++tail).length=p.length+6+tail.length:=by rw[Ac,mJ]
 have t1:(dL p++tail).take (p.length+2)=kR p:=by
  unfold dL;rw[Az,Cf (yt p)]
 have t2:((dL p++tail).drop (p.length+2)).take 4=four (sumOf (kR p)):=by
  unfold dL;rw[Az,List.drop_left' (yt p),Cf (by simp[four])]
 have t3:((dL p++tail).drop 2).take p.length=p:=by
  rw[hfp];simp
 unfold a7;rw[acV,if_neg (by omega),if_neg (by omega),t1,t2,if_neg (AZ rfl),t3,hdt,if_neg (AZ rfl)]
theorem px(rs YI:List (List Int)):aN (rs++YI)=aN rs++aN YI:=by simp[aN]
theorem qh(rs:List (List Int))(tail:tG)(hg:∀z∈rs,lC z):∀n,n≤rs.length→Steps (aN rs++tail) (aN (rs.take n)).length (rs.take n)
 |0,_=>by simpa[aN]using Steps.start
 |n+1,h=>by
  have ht:rs.take (n+1)=rs.take n++[rs[n]]:=Bf h;have hs:aN rs=aN (rs.take n)++(dL (mV rs[n])++aN (rs.drop (n+1))):=by
   have h1:rs=(rs.take n++[rs[n]])++rs.drop (n+1):=by rw[←ht,BN]
   have h2:=Au aN h1;rw[px,rE,Az]at h2;exact h2
  rw[ht,rE,Ac];refine(qh rs tail hg n (by omega)).more ?_;rw[hs,Az,List.drop_left' rfl,Az,mJ];exact C0 (hg _ (Bu h)) _
theorem ud(rs:List (List Int))(tail:tG)(hg:∀z∈rs,lC z):Steps (aN rs++tail) (aN rs).length rs:=by
 have h:=qh rs tail hg rs.length (Aa _);rwa [Bh]at h
theorem qi(rs:List (List Int))(hg:∀z∈rs,lC z):bu (aN rs)=(rs,(aN rs).length):=by
 have h:=ud rs [] hg;rw[As]at h;exact h.end (by rw[List.drop_length];rfl)
theorem I1(b:tG):bu (b.take (bu b).2)=bu b:=by
 have h:=(pg b).1;have hb:=(gK b).2;have h1:Steps (b.take (bu b).2) (bu b).2 (bu b).1:=h.same (by rw[BK,Nat.min_self]);exact h1.end (by rw[Ca (by simp;omega)];rfl)
theorem PD(rs:List (List Int))(hg:∀z∈rs,lC z)(k:Nat)(hk:k≤(aN rs).length):
  ∃more,rs=(bu ((aN rs).take k)).1++more∧(more=[]↔k=(aN rs).length):=by
 have h:=(pg ((aN rs).take k)).1;have hb:=(gK ((aN rs).take k)).2;rw[AL]at hb;have h1:Steps (aN rs) (bu ((aN rs).take k)).2 (bu ((aN rs).take k)).1:=h.same (by rw[BK,BA (by omega)]);obtain⟨more,h2,h3,h4⟩:=h1.prefix;rw[qi rs hg]at h2 h3 h4;refine⟨more,h2,fun hm=> ?_,fun MH=> ?_⟩
 ·have:=h4 hm;simp only at this;omega
 ·rw[MH,Bh,qi rs hg]at h2;simp only at h2;have:=Au List.length h2;rw[Ac]at this;exact AU.1 (by omega)
section
open Rv
structure Ds(w:tA)(X N:Nat)(u:Nv)(v:Wv)(F U:tF)(r:Nd×Ws)(u':Nv)(v':Wv)(F':tF)(w':tA):Prop where
 nw:NW w' X N u' v' F' (fun b=>U b∨F' b)
 mv:Mv (fun b=>F b∨b=N) w (fun b=>F' b∨b=N) w'
 wq:(u'.wt=u.wt∧u'.wl=u.wl)∨(u'.wt= .slice none 0 0∧u'.wl=[])
 nd:v'.nd=v.nd
 tk:v'.tk=v.tk
 dd:v'.dd=v.dd
 n:u'.pure=r.1
 s:v'.pure=r.2
open Classical in
noncomputable def jP(n:Nd)(s:Ws)(Bs:Nat→Bt)(kk:Nat)(ps:List Rec):Nd×Ws:=
  if(∀q,q<4→(bm (Bs q)).2=0)∧kk+(bI (aW Bs 4)).length≤100000 then
    ({n with up:=true,dl:=n.dl.take kk++bI (aW Bs 4),sy:=((kk+(bI (aW Bs 4)).length:Nat):Int),mo:=fun q=>(bm (Bs q)).1,hn:=eD 4,he:=bp,wt:=[],af:=none,tu:=0},
     {s with sv:=s.sv++gU n.i Bs ps++(aW Bs 4).map fun r=>⟨n.i,r.q,(bm (Bs r.q.toNat)).1.e,r.v,Iz,-1⟩})
  else({n with dl:=n.dl.take kk,sy:=nC kk n.sy,sk:=true},s)
structure YJ(n:Nd)(Bs:Nat→Bt)(rs:List Rec)(kk:Nat)(ps:List Rec)(Qv:Nat):Prop where
 rd:bu n.dl=(rs.map aZ,kk)
 wf:∀x∈aC rs,(Lit.int .i64 x).wf=true
 rl:rs.length≤100000
 reb:(kE (kL fY) 0 rs).1=some (kL Bs)
 ok:∀q,q<4→(Bs q).Ok
 cn:n.ct≤kk
 rd2:bu ((n.dl.take kk).drop n.ct)=(ps.map aZ,Qv)
 wf2:∀x∈aC ps,(Lit.int .i64 x).wf=true
 pl:ps.length≤100000
 ps:∀r∈ps,jO r→∃q:Nat,q<4∧r.q=(q:Int)∧(Bs q).Ok∧0<(Bs q).es.length
noncomputable abbrev YK(Bs:Nat→Bt)(y:(Nat→Option Addr)×(Nat→Nat)×(Nat→Nat→Value)):Nat→Mg:=fun q=>⟨(bm (Bs q)).1,y.1 q,y.2.1 q,y.2.2 q⟩
theorem PE(a:tB)(len cap:Nat)(l:tG)(s:Int)(rs:List (List Int))(kk:Nat)(w:tA)(Wo:bu l=(rs,kk))(h:RowK .u8 w a len l)(hn:a=none→cap=0)(qv:len≤cap)(hc:cap≤9223372036854775807)(h1:len≤100000)(h2:0≤s)(h3:s≤len):
  cA 85 #[.agg #[.slice a len cap,iV s]] w fun e w'=>
   ∃a' bh,e= .returned (.tuple #[.agg #[.slice a' kk bh,iV (nC kk s)],iV 0])∧RowK .u8 w' a' kk (l.take kk)∧kk≤bh∧(a'=none→bh=0)∧bh≤9223372036854775807∧(∀x,a'=some x→w.heap.size≤x.block)∧bZ w w':=by
 have hh:=Ku a len cap l s w h hn qv hc h1 h2 h3;rw[Wo]at hh;exact hh
theorem KX{k:Nat}{s:Int}(h:0≤s):0≤nC k s∧nC k s≤k:=by
 unfold nC;split<;>omega
theorem Ej(X N:Nat)(u:Nv)(mw:u.ub=false)(ok:u.Ok)(Bs:Nat→Bt)(rs:List Rec)(kk:Nat)(w:tA)(DW:NB w X N u)(U:tF)(hU:∀b,U b→b<w.heap.size)(Gj:¬U N)(hr:bV (fun b=>b=N∨U b) w fun w=>RowK .u8 w u.da u.dl.length u.dl)(Wo:bu u.dl=(rs.map aZ,kk))(vC:∀x∈aC rs,(Lit.int .i64 x).wf=true)(hrl:rs.length≤100000)(SD:(kE (kL fY) 0 rs).1=some (kL Bs)):cA 52 #[lp N] w fun x w'=>∃Y c A K,x= .returned (.slice (some ⟨Y,0,none⟩) 4 c)∧4≤c∧bV (fun b=>b=N∨U b) w' (fun w=>ly w Y 4 Bs A K)∧bZ w w':=by
 unfold NB lU at DW;rw[mw]at DW;exact Iw X N u.i u.da u.dl.length u.dc u.dl u.sy _ u.hn u.he u.wt u.af u.tu u.ct u.sk Bs rs kk w DW U hU Gj hr ok.nil ok.cap ok.max ok.len ok.s0 ok.s1 Wo vC hrl SD
theorem aal{f:tH}(h:¬∀q,q<4→f q=0):∃p,p<4∧(∀q,q<p→f q=0)∧¬f p=0:=by
 by_cases h0:f 0=0
 ·by_cases h1:f 1=0
  ·by_cases h2:f 2=0
   ·by_cases h3:f 3=0
    ·exact absurd (fun q hq=>by
      obtain rfl|rfl|rfl|rfl:q=0∨q=1∨q=2∨q=3:=by omega
      ·exact h0
      ·exact h1
      ·exact h2
      ·exact h3) h
    ·exact⟨3,by decide,fun q hq=>by
      obtain rfl|rfl|rfl:q=0∨q=1∨q=2:=by omega
      ·exact h0
      ·exact h1
      ·exact h2,h3⟩
   ·exact⟨2,by decide,fun q hq=>by
     obtain rfl|rfl:q=0∨q=1:=by omega
     ·exact h0
     ·exact h1,h2⟩
  ·exact⟨1,by decide,fun q hq=>by
    obtain rfl:q=0:=by omega
    exact h0,h1⟩
 ·exact⟨0,by decide,fun q hq=>by omega,h0⟩
theorem aam{U:tF}{w w':tA}{T:Nat}{la:tB}{lc:Nat}{L:List Jw}(own:w'.ownsRow 0 T 14 (.slice la L.length lc) L.length (L.flatMap DZ))(hn:∀b,(Value.slice la L.length lc).ownBlock=some b→w.heap.size≤b)(hU:∀b,U b→b<w.heap.size):bV U w' fun w=>y_ w la L:=fun w2 c2=>by
 obtain⟨a,c,e,hr⟩:=FL (aI own fun g hg hl=>c2.block g hl fun hu=>absurd (hU g hu) (AY.2 (hn g hg)));cases e;exact hr
theorem acX{mo mo':tT}{hn he:tH}{wt af:tK}{tu:Int}(h:∀q,q<4→∀j,j<47→mo q j=mo' q j)(i:Nat):gh mo hn he wt af tu i=gh mo' hn he wt af tu i:=by
 unfold gh;by_cases h7:i<188
 ·rw[if_pos h7,if_pos h7];exact h _ (by omega) _ (Nat.mod_lt _ (by decide))
 ·rw[if_neg h7,if_neg h7]
theorem ue{Bs:Nat→Bt}:∀k,k≤4→∀r∈aW Bs k,∃q:Nat,q<4∧r=rA Bs q∧(Bs q).r=1
 |0,_,r,hr=>by simp[aW]at hr
 |k+1,hk,r,hr=>by
  by_cases h1:(Bs k).r=1
  ·rw[o7 h1]at hr;rcases Ao.1 hr with hr|hr
   ·exact ue k (by omega) r hr
   ·exact⟨k,by omega,Ab.1 hr,h1⟩
  ·rw[qH h1]at hr;exact ue k (by omega) r hr
theorem I2{Bs:Nat→Bt}{q:Nat}(hq:q<4)(ok:(Bs q).Ok)(h1:(Bs q).r=1):(rA Bs q).fault=0:=by
 have hs:=ok.cO;unfold Bt.cH bB at hs;unfold Rec.fault aE aP;simp only;have:1≤(Bs q).e∧(Bs q).e≤1048576:=by omega
 simp;omega
theorem PF{n:Nd}{s:Ws}{Bs:Nat→Bt}{kk:Nat}{ps:List Rec}(h1:∀q,q<4→(bm (Bs q)).2=0)(h2:kk+(bI (aW Bs 4)).length≤100000):jP n s Bs kk ps=({n with up:=true,dl:=n.dl.take kk++bI (aW Bs 4),sy:=((kk+(bI (aW Bs 4)).length:Nat):Int),mo:=fun q=>(bm (Bs q)).1,hn:=eD 4,he:=bp,wt:=[],af:=none,tu:=0},
     {s with sv:=s.sv++gU n.i Bs ps++(aW Bs 4).map fun r=>⟨n.i,r.q,(bm (Bs r.q.toNat)).1.e,r.v,Iz,-1⟩}):=if_pos ⟨h1,h2⟩
theorem ug{n:Nd}{s:Ws}{Bs:Nat→Bt}{kk:Nat}{ps:List Rec}(h:¬((∀q,q<4→(bm (Bs q)).2=0)∧kk+(bI (aW Bs 4)).length≤100000)):jP n s Bs kk ps=({n with dl:=n.dl.take kk,sy:=nC kk n.sy,sk:=true},s):=if_neg h
theorem Xm{B:Bt}(ok:B.Ok):(bm B).1.Ok:=by
 unfold bm;rw[if_neg (fun h=>h ok)];split
 ·exact ok
 ·split
  ·exact Bt.cI
  ·rename_i h;exact Bk.1 h
theorem TB(X N:Nat)(u:Nv)(v:Wv)(F U:tF)(w:tA)(hw:NW w X N u v F U)(Bs:Nat→Bt)(rs:List Rec)(kk:Nat)(ps:List Rec)(Qv:Nat)(mw:u.ub=false)(Yf:u.sk=false)(h:YJ u.pure Bs rs kk ps Qv)(hlen:v.sv.length≤900000000000):cA 50 #[lp N] w fun x w'=>x= .returned (.tuple #[])∧∃u' v' F',Ds w X N u v F U (jP u.pure v.pure Bs kk ps) u' v' F' w':=by
 obtain⟨u0,rfl⟩:∃u0:Nv,u={u0 with ub:=false,sk:=false}:=⟨u,by cases u;cases mw;cases Yf;rfl⟩;have hkb:kk≤u0.dl.length:=by have:=(gK u0.dl).2;rw[show bu u0.dl=_ from h.rd]at this;exact this
 have Jp:(u0.dl.take kk).length=kk:=by rw[AL];omega
 refine en (H:=[nE X N {u0 with ub:=false,sk:=false}]) 55 [vp 0 0 N] Tryz.func50 rfl rfl (hw.init (G:=fun _=>True) fun _ _=>trivial) (r [2] rfl fun α=> ?_);refine cx rfl (fun y:Option Addr×Nat=>vt [.g [.o (.slice y.1 (u0.dl.take kk).length y.2),.o (iV (nC kk u0.sy))],.o (iV 0)]) (fun y=>kk≤y.2∧(y.1=none→y.2=0)∧y.2≤9223372036854775807) (fun y w=>RowK .u8 w y.1 kk (u0.dl.take kk)) (fun w hS=>(PE u0.da u0.dl.length u0.dc u0.dl u0.sy _ kk _ h.rd hS.now.1.1.1.row hw.ok.nil hw.ok.cap hw.ok.max hw.ok.len hw.ok.s0 hw.ok.s1).mono fun _ _ ⟨a2,c2,e,r2,jB,qV,sD,hf2,b⟩=>⟨(a2,c2),by rw[Jp];exact e,b,⟨jB,qV,sD⟩,bW r2 hf2⟩) ?_;rintro⟨a2,c2⟩ ⟨jB,qV,sD⟩;obtain⟨u1,oh⟩:∃u1:Nv,u1={u0 with ub:=false,sk:=false,da:=a2,dc:=c2,dl:=u0.dl.take kk,sy:=nC kk u0.sy}:=⟨_,rfl⟩;refine r [] rfl fun _=>gn 0 (lU X u1) ?_ rfl (by rw[oh];kernel_rfl);have af3:u1.ub=false:=by rw[oh]
 have TC:u1.dl=u0.dl.take kk:=by rw[oh]
 have acY:u1.ct=u0.ct:=by rw[oh]
 have af4:u1.i=u0.i:=by rw[oh]
 have qE:u1.Ok:=by
  have hcb:=KX (k:=kk) hw.ok.s0;rw[oh];exact⟨hw.ok.ok,qV,by rw[Jp];exact jB,sD,by rw[Jp];have:u0.dl.length≤100000:=hw.ok.len;omega,hcb.1,by rw[Jp];exact hcb.2,hw.ok.i5,hw.ok.SJ⟩
 have TD:∀w,RowK .u8 w a2 kk (u0.dl.take kk)→RowK .u8 w u1.da u1.dl.length u1.dl:=fun w hr=>by rw[oh];show RowK .u8 w a2 (u0.dl.take kk).length (u0.dl.take kk);rw[Jp];exact hr
 have af5:bu u1.dl=(rs.map aZ,kk):=by
  have hh:=I1 u0.dl;rw[show bu u0.dl=_ from h.rd]at hh;rw[TC];exact hh
 have to0:∀{b:Nat} {H:tW} {M:Prop},(b∈N::H∨M)→b=N∨(b∈H∨M):=fun h=>h.elim (fun h=>(BQ.1 h).imp id .inl) fun h=> .inr (.inr h);refine r [] rfl fun _=>cx rfl (fun y:Nat×Nat×(Nat→Option Addr)×(Nat→Nat)=>vv (.slice (some ⟨y.1,0,none⟩) 4 y.2.1)) (fun _=>True) (fun y w=>ly w y.1 4 Bs y.2.2.1 y.2.2.2) (fun w hS=>(Ej X N u1 af3 qE Bs rs kk _ (hS.at 0 rfl) _ hS.qR.1 hS.qR.2.1 (fun w2 c2=>TD w2 (hS.qR.2.2 w2 c2).2) af5 h.wf h.rl h.reb).mono fun _ _ ⟨Y,yc,A,K,e,_,gI,b⟩=>⟨(Y,yc,A,K),e,b,trivial,fun _ w2 c2=>gI w2 (c2.mono fun b h=>to0 h)⟩) ?_;rintro⟨Y,yc,A,K⟩ _;have late:∀(H:List bU) (M:tF) (Γ R:tJ) (w:tA),Mem w (⟨N,126,206,lU X u1⟩::H) M Γ R→(∀w,Γ w→RowK .u8 w a2 kk (u0.dl.take kk)∧ly w Y 4 Bs A K)→cA 87 #[lp N,.slice (some ⟨Y,0,none⟩) 4 yc] w fun x w'=>∃y:Option Addr×Nat,x= .returned (.slice y.1 (gU u1.i Bs ps).length y.2)∧bZ w w'∧True∧((∀b,(b∈(⟨N,126,206,lU X u1⟩::H:List bU).map bU.a∨M b)→b<w.heap.size)→bV (fun b=>b∈(⟨N,126,206,lU X u1⟩::H:List bU).map bU.a∨M b) w' fun w=>y_ w y.1 (gU u1.i Bs ps)):=fun H M Γ R w hS hΓ=>
  (Xl X N u1 Bs Y yc A K ps Qv w M (fun b hb=>hS.ult b (.inr hb)) (fun w2 c2=>⟨⟨(hS.we 0 rfl w2 c2).2,TD w2 (hΓ w2 (hS.we 0 rfl w2 c2).1).1⟩,(hΓ w2 (hS.we 0 rfl w2 c2).1).2⟩) qE (by rw[acY,TC,Jp];exact h.cn) (by rw[acY,TC];exact h.rd2) h.wf2 h.pl h.ps).mono fun _ _ ⟨lv,e,own,hnw,b⟩=>by
   obtain⟨la,lc,rfl,_⟩:=FL own;exact⟨(la,lc),e,b,trivial,aam own hnw⟩
 by_cases Ps:∀q,q<4→(bm (Bs q)).2=0
 case neg=>
  obtain⟨p,hp4,Z2,hhi⟩:=aal Ps;refine r [] rfl fun _=>Rv.cb rfl (vt [.g [.f 199 ZU],.o (.slice none 0 0),.o (.bool false)]) (fun w hS=>TA Bs Y yc A K h.ok p hp4 Z2 hhi _ _ hS.ult (fun w2 c2=>(hS.g w2 c2).2)) (r [] rfl fun β=> ?_);refine cx rfl (fun y:Option Addr×Nat=>vv (.slice y.1 (gU u1.i Bs ps).length y.2)) (fun _=>True) (fun y w=>y_ w y.1 (gU u1.i Bs ps)) (fun w hS=>late _ _ _ _ w hS fun w h=>⟨h.1.2,h.2⟩) fun y _=>r [] rfl fun γ=>gn 0 (lU X {u1 with sk:=true}) ?_;refine fin fun w hS=> ?_;have hn:=NW.fin (u':={u1 with sk:=true}) (v':=v) (F':=F) hS hw.ub hw.nu (fun _ h=>⟨⟨TD _ h.1.1.2,by rw[oh];exact h.1.1.1.1.1.mo,by rw[oh];exact h.1.1.1.1.1.af,by rw[oh];exact h.1.1.1.1.1.wl⟩,h.1.1.1.1.2⟩) ⟨qE.ok,qE.nil,qE.cap,qE.max,qE.len,qE.s0,qE.s1,qE.i5,qE.SJ⟩;exact⟨rfl,{u1 with sk:=true},v,F,hn.1,hn.2.1,.inl ⟨by rw[oh],by rw[oh]⟩,rfl,rfl,rfl,by rw[ug fun hh=>Ps hh.1,oh],by rw[ug fun hh=>Ps hh.1]⟩
 refine r [] rfl fun _=>cx rfl (fun y:((Nat→Option Addr)×(Nat→Nat)×(Nat→Nat→Value))×Option Addr×Nat=>vt [.g [.f 199 (gh (fun p=>je (YK Bs y.1 p)) (eD 4) bp (.slice none 0 0) .nilFunc 0)],.o (.slice y.2.1 (aW Bs 4).length y.2.2),.o (.bool true)]) (fun y=>∀q,q<4→aS (je (YK Bs y.1 q)) 47) (fun y w=>(∀q,q<4→nJ w (YK Bs y.1 q))∧RowK .i64 w y.2.1 (10*(aW Bs 4).length) (aC (aW Bs 4))) (fun w hS=>(O9 Bs Y yc A K h.ok (fun q hq=>YA (h.ok q hq)) Ps _ _ hS.ult (fun w2 c2=>(hS.g w2 c2).2)).mono fun _ _ ⟨mo,ba,bc,bq,ra,rc,e,UX,p_,gI,hrc,b⟩=>⟨((ba,bc,bq),ra,rc),by rw[e,MC fun j _=>acX (mo':=fun p=>je (YK Bs (ba,bc,bq) p)) (fun q hq j hj=>Ts (UX q hq) j hj) j];rfl,b,fun q hq j hj=>(Au Value.oneCell' (Ts (UX q hq) j hj)).symm.trans (p_ q hq j hj),fun _=>gI⟩) ?_;rintro⟨y1,ra,rc⟩ p_;have o1:aS (gh (fun p=>je (YK Bs y1 p)) (eD 4) bp (.slice none 0 0) .nilFunc 0) 199:=uU p_ rfl;refine r [] rfl fun β=>cx rfl (fun y:Option Addr×Nat=>vv (.slice y.1 (gU u1.i Bs ps).length y.2)) (fun _=>True) (fun y w=>y_ w y.1 (gU u1.i Bs ps)) (fun w hS=>late _ _ _ _ w hS fun w h=>⟨h.1.1.2,h.1.2⟩) ?_;rintro⟨la,lc⟩ _;refine r [] rfl fun γ=>c0 rfl fun w1 hS=> ?_;obtain⟨hx1,hx2,hx3⟩:=hS.qR;refine(jd X N u1.i u1.da u1.dl.length u1.dc u1.dl u1.sy (fun p=>je (u1.m p)) u1.hn u1.he u1.wt u1.af u1.tu u1.ct u1.ub u1.sk (.func 88) #[] #[.pointer (some ⟨β 0,0,none⟩),.pointer (some ⟨α 0,0,none⟩),.pointer (some ⟨γ 0,0,none⟩),.pointer (some ⟨β 1,0,none⟩)] (aW Bs 4) ra (aW Bs 4).length rc _ (hS.at 0 rfl) _ hx1 hx2 (fun w2 cc=>⟨TD w2 (hx3 w2 cc).1.1.1.2,(hx3 w2 cc).1.2.2⟩) qE.nil qE.cap qE.max qE.len qE.s0 qE.s1 rfl (by have:=mn Bs 4;omega) (fun r hr=>by obtain⟨q,hq,rfl,h1⟩:=ue 4 (Aa _) r hr;exact I2 hq (h.ok q hq) h1)).mono ?_;rintro _ w14 ⟨k,rfl,ch,⟨rfl,iX,a3,c3,fb3,st3,hc3,It,hm3⟩|⟨rfl,iX,fb3⟩⟩
 case inr=>
  refine⟨vv (.bool false),_,fun _=>True,rfl,ch,fb3,fun _ _=>trivial,r [] rfl fun _=>gn 0 (lU X {u1 with sk:=true}) ?_⟩;refine fin fun w hS=> ?_;have hn:=NW.fin (u':={u1 with sk:=true}) (v':=v) (F':=F) hS hw.ub hw.nu (fun _ h=>⟨⟨TD _ h.1.1.1.1.2,by rw[oh];exact h.1.1.1.1.1.1.1.mo,by rw[oh];exact h.1.1.1.1.1.1.1.af,by rw[oh];exact h.1.1.1.1.1.1.1.wl⟩,h.1.1.1.1.1.1.2⟩) ⟨qE.ok,qE.nil,qE.cap,qE.max,qE.len,qE.s0,qE.s1,qE.i5,qE.SJ⟩;have Qg:¬((∀q,q<4→(bm (Bs q)).2=0)∧kk+(bI (aW Bs 4)).length≤100000):=fun hh=>by have:=hh.2;rw[TC,Jp]at iX;omega
  exact⟨rfl,{u1 with sk:=true},v,F,hn.1,hn.2.1,.inl ⟨by rw[oh],by rw[oh]⟩,rfl,rfl,rfl,by rw[ug Qg,oh],by rw[ug Qg]⟩
 have WS:(u1.dl++bI (aW Bs 4)).length=u1.dl.length+(bI (aW Bs 4)).length:=Ac ..;refine⟨vv (.bool true),_,_,rfl,ch,fb3,st3,r [] rfl fun _=> ?_⟩;refine Rv.ct (Y:=Option Addr×Nat×(Nat→Prop)) rfl (vt []) (fun y z=>NW z X N {u1 with da:=y.1,dc:=y.2.1,dl:=u1.dl++bI (aW Bs 4),sy:=((u1.dl.length+(bI (aW Bs 4)).length:Nat):Int),ub:=true,m:=YK Bs y1,hn:=eD 4,he:=bp,wt:= .slice none 0 0,wl:=[],af:= .nilFunc,ax:=none,tu:=0} {v with sv:=v.sv++gU u1.i Bs ps++(aW Bs 4).map (PB u1.i (YK Bs y1))} y.2.2 (fun b=>U b∨y.2.2 b)∧Mv (fun b=>F b∨b=N) w (fun b=>y.2.2 b∨b=N) z) (fun w1 hS=> ?_) (fun _ _ _ h b=>⟨h.1.next b,h.2.next b⟩) fun y=>r [] rfl fun _=>dh rfl fun z hS=>⟨rfl,_,_,y.2.2,hS.now.2.1,hS.now.2.2,.inr ⟨rfl,rfl⟩,rfl,rfl,rfl, ?_, ?_⟩
 ·obtain⟨hx1,hx2,hx3⟩:=hS.qR;refine(uV X N u1.i a3 _ c3 (u1.dl++bI (aW Bs 4)) u1.sy (fun p=>je (u1.m p)) u1.hn u1.he u1.wt u1.tu u1.ct u1.ub u1.sk 88 [.pointer (some ⟨β 0,0,none⟩),.pointer (some ⟨α 0,0,none⟩),.pointer (some ⟨γ 0,0,none⟩),.pointer (some ⟨β 1,0,none⟩)] _ (hS.at 0 rfl) _ hx1 hx2 (fun w2 cc=>(hx3 w2 cc).2) It hc3 iX qE.s0 (by have:=qE.s1;omega) (by kernel_rfl) (fun z=>∃y:Option Addr×Nat×(Nat→Prop),NW z X N _ _ y.2.2 (fun b=>U b∨y.2.2 b)∧Mv (fun b=>F b∨b=N) w (fun b=>y.2.2 b∨b=N) z) (fun _ _ ⟨y,h1,h2⟩ b=>⟨y,h1.next b,h2.next b⟩) fun a4 c4 z fz rz hc4 WR hm4 cz=> ?_);have wN:=(hS.QU cz fz rz).congr 0 rfl (lU X {u1 with da:=a4,dc:=c4,dl:=u1.dl++bI (aW Bs 4),sy:=((u1.dl.length+(bI (aW Bs 4)).length:Nat):Int),af:= .nilFunc,ax:=none}) (fun i _=>by simp only[lU,WS]);have hn:=NW.fin (v':=v) (F':=F) wN hw.ub hw.nu (fun _ h=>⟨⟨by rw[WS];exact h.2,by rw[oh];exact h.1.1.1.1.1.1.1.1.mo,rfl,by rw[oh];exact h.1.1.1.1.1.1.1.1.wl⟩,h.1.1.1.1.1.1.1.2⟩) ⟨qE.ok,WR,by rw[WS];exact hc4,hm4,by rw[WS];exact iX,by show(0:Int)≤((u1.dl.length+(bI (aW Bs 4)).length:Nat):Int);omega,by show((u1.dl.length+(bI (aW Bs 4)).length:Nat):Int)≤((u1.dl++bI (aW Bs 4)).length:Int);rw[WS];exact Bq _,qE.i5,trivial⟩;have k1:∀{k:Nat} {e:bU},1≤k→_→bV (fun b=>U b∨F b) z fun w=>aY w e.a e.t e.n e.f:=fun {k e} hk he w2 c2=>((wN.kept k (e:=e) he 1 hk).mono fun b _ h=>toNM h) w2 c2;refine(PC X N _ v F _ z hn.1 (YK Bs y1) (fun q hq=>Xm (h.ok q hq)) la (gU u1.i Bs ps) lc ra (aW Bs 4) rc (β 0) (α 0) (γ 0) (β 1) (fun w2 c2=>have g:=wN.g w2 (c2.mono fun b h=>toHM h);⟨⟨⟨⟨⟨⟨k1 (k:=2) (cK rfl) rfl w2 c2,k1 (k:=1) (cK rfl) rfl w2 c2⟩,k1 (k:=4) (cK rfl) rfl w2 c2⟩,k1 (k:=3) (cK rfl) rfl w2 c2⟩,g.1.1.2⟩,g.1.1.1.2.2⟩,g.1.1.1.2.1⟩) (fun r hr=>by obtain⟨q,hq,rfl,_⟩:=ue 4 (Aa _) r hr;exact⟨q,hq,rfl⟩) (by have:=mn Bs 4;have:=vh (i:=u1.i) (Bs:=Bs) (ps:=ps);have:=h.pl;omega)).mono ?_;rintro _ z' ⟨rfl,F',h1,h2⟩;exact⟨rfl,(a4,c4,F'),h1.less (fun b hb=>hb.elim (fun hb=> .inl (.inl hb)) .inr) (fun b hb=> .inr hb) (.inl hw.nu),hn.2.1.trans h2⟩
 all_goals rw[PF Ps (by rw[TC,Jp]at iX;exact iX)]
 ·rw[oh];simp only[Jp];rfl
 ·rw[af4];rfl
end
theorem FO{w:tA}{B clock:Nat}{es:Array MapEntry}{z:Int}{v:tK}(hb:w.heap[B]? =some (.map es clock))(hf:Instr.findNow (.int .i64) (iV z) es.toList 0=some none):
  (Instr.mapUpdate 107 (.map (some B)) (iV z) v).run Tryz.prog w= .ok () {w with heap:=w.heap.setIfInBounds B (.map (es.push ⟨iV z,v,clock⟩) (clock+1))}:=by
 have hc:(Instr.checkKey false 10000 3 (iV z)).run Tryz.prog w= .ok () w:=AW (k:=iV z) Tryz.underlying3 (by simp[MapKept.IsKey]) false 9999;simp[Instr.mapUpdate,run_underlying Tryz.underlying107,MapKept.run_getObj_map hb,hc,MapKept.run_findKey Tryz.underlying3 hf,MapKept.run_setObj_map _ hb,Result.andThen]
theorem my{ops:tP}{rest:List Oper}{o:Oper}{a:Act}{Q:tI}{w:tA}{B clock:Nat}{es:Array MapEntry}{z:Int}{v:tK}(m k x:tU)(ho:o.op= .insert 107 m k x)(hw:Region.wanted o (yielded ops a.tmps)=true)
  (hm:a.eval m= .map (some B)) (hk:a.eval k=iV z) (hx:a.eval x=v) (hb:w.heap[B]? =some (.map es clock)) (hf:Instr.findNow (.int .i64) (iV z) es.toList 0=some none)
  (h:∀w',w'.heap[B]? =some (.map (es.push ⟨iV z,v,clock⟩) (clock+1))→av B w w'→wpList Tryz.prog ops Q rest (a.put o.dst undef) w'):wpList Tryz.prog ops Q (o::rest) a w:=
 Bm fun K hK=>by
  rw[if_pos hw];have rT:=FO (v:=v) hb hf;have hs:=MapKept.heap_set (o':= .map (es.push ⟨iV z,v,clock⟩) (clock+1)) hb;have:=hK _ _ (h {w with heap:=w.heap.setIfInBounds B (.map (es.push ⟨iV z,v,clock⟩) (clock+1))} hs.1 ⟨rfl,rfl,rfl,by simp,fun r hr=>hs.2 r hr⟩);unfold Oper.wp;simp only[execOp,ho,hm,hk,hx];simp[rT,Result.andThen];exact this
theorem TE{ops:tP}{rest:List Oper}{o:Oper}{a:Act}{Q:tI}{w:tA}(ho:o.op= .makeMap 107 none)(hw:Region.wanted o (yielded ops a.tmps)=true)
  (h:∀w',w'.heap[w.heap.size]? =some (.map #[] 0)→bZ w w'→wpList Tryz.prog ops Q rest (a.put o.dst (.map (some w.heap.size))) w'):wpList Tryz.prog ops Q (o::rest) a w:=
 Bm fun K hK=>by
  rw[if_pos hw];have:=hK _ _ (h _ (AQ w _) (aA _ _));unfold Oper.wp;simp only[execOp,ho];simp[run_makeMap_plain,Result.andThen];exact this
theorem FP{w:tA}{B clock:Nat}{es:Array MapEntry}{z:Int}{v:tK}(hb:w.heap[B]? =some (.map es clock))(hf:Instr.findNow (.int .i64) (iV z) es.toList 0=some none):
  (Instr.mapUpdate 112 (.map (some B)) (iV z) v).run Tryz.prog w= .ok () {w with heap:=w.heap.setIfInBounds B (.map (es.push ⟨iV z,v,clock⟩) (clock+1))}:=by
 have hc:(Instr.checkKey false 10000 3 (iV z)).run Tryz.prog w= .ok () w:=AW (k:=iV z) Tryz.underlying3 (by simp[MapKept.IsKey]) false 9999;simp[Instr.mapUpdate,run_underlying Tryz.underlying112,MapKept.run_getObj_map hb,hc,MapKept.run_findKey Tryz.underlying3 hf,MapKept.run_setObj_map _ hb,Result.andThen]
theorem ia{ops:tP}{rest:List Oper}{o:Oper}{a:Act}{Q:tI}{w:tA}{B clock:Nat}{es:Array MapEntry}{z:Int}{v:tK}(m k x:tU)(ho:o.op= .insert 112 m k x)(hw:Region.wanted o (yielded ops a.tmps)=true)
  (hm:a.eval m= .map (some B)) (hk:a.eval k=iV z) (hx:a.eval x=v) (hb:w.heap[B]? =some (.map es clock)) (hf:Instr.findNow (.int .i64) (iV z) es.toList 0=some none)
  (h:∀w',w'.heap[B]? =some (.map (es.push ⟨iV z,v,clock⟩) (clock+1))→av B w w'→wpList Tryz.prog ops Q rest (a.put o.dst undef) w'):wpList Tryz.prog ops Q (o::rest) a w:=
 Bm fun K hK=>by
  rw[if_pos hw];have rT:=FP (v:=v) hb hf;have hs:=MapKept.heap_set (o':= .map (es.push ⟨iV z,v,clock⟩) (clock+1)) hb;have:=hK _ _ (h {w with heap:=w.heap.setIfInBounds B (.map (es.push ⟨iV z,v,clock⟩) (clock+1))} hs.1 ⟨rfl,rfl,rfl,by simp,fun r hr=>hs.2 r hr⟩);unfold Oper.wp;simp only[execOp,ho,hm,hk,hx];simp[rT,Result.andThen];exact this
theorem TF{ops:tP}{rest:List Oper}{o:Oper}{a:Act}{Q:tI}{w:tA}(ho:o.op= .makeMap 112 none)(hw:Region.wanted o (yielded ops a.tmps)=true)
  (h:∀w',w'.heap[w.heap.size]? =some (.map #[] 0)→bZ w w'→wpList Tryz.prog ops Q rest (a.put o.dst (.map (some w.heap.size))) w'):wpList Tryz.prog ops Q (o::rest) a w:=
 Bm fun K hK=>by
  rw[if_pos hw];have:=hK _ _ (h _ (AQ w _) (aA _ _));unfold Oper.wp;simp only[execOp,ho];simp[run_makeMap_plain,Result.andThen];exact this
def jg:Obj:= .map #[⟨iV 0,.func (.func 67) #[] #[],0⟩,⟨iV 2,.func (.func 68) #[] #[],1⟩,⟨iV 3,.func (.func 69) #[] #[],2⟩,⟨iV 4,.func (.func 70) #[] #[],3⟩,⟨iV 7,.func (.func 71) #[] #[],4⟩] 5
theorem KY(w:tA):
  cA 41 #[] w fun e w'=>e= .returned (.map (some w.heap.size))∧w'.heap[w.heap.size]? =some (jg)∧bZ w w':=by
 go_enter Tryz.func41,Tryz.ntmps41
 go_wp2_with (first
  |(refine TE rfl rfl ?_;intro W1 m1 b1;have k1:=ah b1;clear b1)
  |(refine my (es:= #[]) _ _ _ rfl rfl rfl rfl rfl m1 rfl ?_;intro W2 m2 t2;have k2:=ah (t2.under (aa k1) (Aa _));clear t2 m1)
  |(refine my (clock:=1) _ _ _ rfl rfl rfl rfl rfl m2 rfl ?_;intro W3 m3 t3;have k3:=ah (t3.under (aa k2) (Aa _));clear t3 m2)
  |(refine my (clock:=2) _ _ _ rfl rfl rfl rfl rfl m3 rfl ?_;intro W4 m4 t4;have k4:=ah (t4.under (aa k3) (Aa _));clear t4 m3)
  |(refine my (clock:=3) _ _ _ rfl rfl rfl rfl rfl m4 rfl ?_;intro W5 m5 t5;have k5:=ah (t5.under (aa k4) (Aa _));clear t5 m4)
  |(refine my (clock:=4) _ _ _ rfl rfl rfl rfl rfl m5 rfl ?_;intro W6 m6 t6;have k6:=ah (t6.under (aa k5) (Aa _));clear t6 m5;have M9:=ah m6;clear m6))
 go_ret;exact⟨rfl,aa M9,aa k6⟩
def dM(X:Nat):Obj:= .map #[⟨iV 0,.func (.func 72) #[lp X] #[],0⟩,⟨iV 1,.func (.func 73) #[lp X] #[],1⟩,⟨iV 2,.func (.func 72) #[lp X] #[],2⟩,⟨iV 3,.func (.func 72) #[lp X] #[],3⟩,⟨iV 4,.func (.func 72) #[lp X] #[],4⟩,⟨iV 5,.func (.func 74) #[lp X] #[],5⟩,⟨iV 6,.func (.func 75) #[lp X] #[],6⟩,⟨iV 7,.func (.func 72) #[lp X] #[],7⟩] 8
theorem I3(X:Nat)(w:tA):
  cA 42 #[lp X] w fun e w'=>e= .returned (.map (some w.heap.size))∧w'.heap[w.heap.size]? =some (dM X)∧bZ w w':=by
 go_enter Tryz.func42,Tryz.ntmps42
 go_wp2_with (first
  |(refine TF rfl rfl ?_;intro W1 m1 b1;have k1:=ah b1;clear b1)
  |(refine ia (es:= #[]) _ _ _ rfl rfl rfl rfl rfl m1 rfl ?_;intro W2 m2 t2;have k2:=ah (t2.under (aa k1) (Aa _));clear t2 m1)
  |(refine ia (clock:=1) _ _ _ rfl rfl rfl rfl rfl m2 rfl ?_;intro W3 m3 t3;have k3:=ah (t3.under (aa k2) (Aa _));clear t3 m2)
  |(refine ia (clock:=2) _ _ _ rfl rfl rfl rfl rfl m3 rfl ?_;intro W4 m4 t4;have k4:=ah (t4.under (aa k3) (Aa _));clear t4 m3)
  |(refine ia (clock:=3) _ _ _ rfl rfl rfl rfl rfl m4 rfl ?_;intro W5 m5 t5;have k5:=ah (t5.under (aa k4) (Aa _));clear t5 m4)
  |(refine ia (clock:=4) _ _ _ rfl rfl rfl rfl rfl m5 rfl ?_;intro W6 m6 t6;have k6:=ah (t6.under (aa k5) (Aa _));clear t6 m5)
  |(refine ia (clock:=5) _ _ _ rfl rfl rfl rfl rfl m6 rfl ?_;intro W7 m7 t7;have k7:=ah (t7.under (aa k6) (Aa _));clear t7 m6)
  |(refine ia (clock:=6) _ _ _ rfl rfl rfl rfl rfl m7 rfl ?_;intro W8 m8 t8;have k8:=ah (t8.under (aa k7) (Aa _));clear t8 m7)
  |(refine ia (clock:=7) _ _ _ rfl rfl rfl rfl rfl m8 rfl ?_;intro W9 m9 t9;have k9:=ah (t9.under (aa k8) (Aa _));clear t9 m8;have M9:=ah m9;clear m9))
 go_ret;exact⟨rfl,aa M9,aa k9⟩
theorem TG{w:tA}{B:Nat}(h:w.heap[B]? =some (jg)):(Instr.lookup 107 (.map (some B)) (iV 0) false).run Tryz.prog w= .ok (.func (.func 67) #[] #[]) w:=by
 have hc:(Instr.checkKey false 10000 3 (iV 0)).run Tryz.prog w= .ok () w:=AW (k:=iV 0) Tryz.underlying3 (by simp[MapKept.IsKey]) false 9999;unfold jg at h;have hf:Instr.findNow (.int .i64) (iV 0) [(⟨iV 0,.func (.func 67) #[] #[],0⟩:tf),⟨iV 2,.func (.func 68) #[] #[],1⟩,⟨iV 3,.func (.func 69) #[] #[],2⟩,⟨iV 4,.func (.func 70) #[] #[],3⟩,⟨iV 7,.func (.func 71) #[] #[],4⟩] 0=some (some (0,.func (.func 67) #[] #[])):=rfl;simp[Instr.lookup,run_underlying Tryz.underlying107,MapKept.run_getObj_map h,hc,MapKept.run_findKey Tryz.underlying3 hf,Result.andThen]
theorem TH{w:tA}{B:Nat}(h:w.heap[B]? =some (jg)):(Instr.lookup 107 (.map (some B)) (iV 2) false).run Tryz.prog w= .ok (.func (.func 68) #[] #[]) w:=by
 have hc:(Instr.checkKey false 10000 3 (iV 2)).run Tryz.prog w= .ok () w:=AW (k:=iV 2) Tryz.underlying3 (by simp[MapKept.IsKey]) false 9999;unfold jg at h;have hf:Instr.findNow (.int .i64) (iV 2) [(⟨iV 0,.func (.func 67) #[] #[],0⟩:tf),⟨iV 2,.func (.func 68) #[] #[],1⟩,⟨iV 3,.func (.func 69) #[] #[],2⟩,⟨iV 4,.func (.func 70) #[] #[],3⟩,⟨iV 7,.func (.func 71) #[] #[],4⟩] 0=some (some (1,.func (.func 68) #[] #[])):=rfl;simp[Instr.lookup,run_underlying Tryz.underlying107,MapKept.run_getObj_map h,hc,MapKept.run_findKey Tryz.underlying3 hf,Result.andThen]
theorem TI{w:tA}{B:Nat}(h:w.heap[B]? =some (jg)):(Instr.lookup 107 (.map (some B)) (iV 3) false).run Tryz.prog w= .ok (.func (.func 69) #[] #[]) w:=by
 have hc:(Instr.checkKey false 10000 3 (iV 3)).run Tryz.prog w= .ok () w:=AW (k:=iV 3) Tryz.underlying3 (by simp[MapKept.IsKey]) false 9999;unfold jg at h;have hf:Instr.findNow (.int .i64) (iV 3) [(⟨iV 0,.func (.func 67) #[] #[],0⟩:tf),⟨iV 2,.func (.func 68) #[] #[],1⟩,⟨iV 3,.func (.func 69) #[] #[],2⟩,⟨iV 4,.func (.func 70) #[] #[],3⟩,⟨iV 7,.func (.func 71) #[] #[],4⟩] 0=some (some (2,.func (.func 69) #[] #[])):=rfl;simp[Instr.lookup,run_underlying Tryz.underlying107,MapKept.run_getObj_map h,hc,MapKept.run_findKey Tryz.underlying3 hf,Result.andThen]
theorem TJ{w:tA}{B:Nat}(h:w.heap[B]? =some (jg)):(Instr.lookup 107 (.map (some B)) (iV 4) false).run Tryz.prog w= .ok (.func (.func 70) #[] #[]) w:=by
 have hc:(Instr.checkKey false 10000 3 (iV 4)).run Tryz.prog w= .ok () w:=AW (k:=iV 4) Tryz.underlying3 (by simp[MapKept.IsKey]) false 9999;unfold jg at h;have hf:Instr.findNow (.int .i64) (iV 4) [(⟨iV 0,.func (.func 67) #[] #[],0⟩:tf),⟨iV 2,.func (.func 68) #[] #[],1⟩,⟨iV 3,.func (.func 69) #[] #[],2⟩,⟨iV 4,.func (.func 70) #[] #[],3⟩,⟨iV 7,.func (.func 71) #[] #[],4⟩] 0=some (some (3,.func (.func 70) #[] #[])):=rfl;simp[Instr.lookup,run_underlying Tryz.underlying107,MapKept.run_getObj_map h,hc,MapKept.run_findKey Tryz.underlying3 hf,Result.andThen]
theorem TL{w:tA}{B:Nat}(h:w.heap[B]? =some (jg)):(Instr.lookup 107 (.map (some B)) (iV 7) false).run Tryz.prog w= .ok (.func (.func 71) #[] #[]) w:=by
 have hc:(Instr.checkKey false 10000 3 (iV 7)).run Tryz.prog w= .ok () w:=AW (k:=iV 7) Tryz.underlying3 (by simp[MapKept.IsKey]) false 9999;unfold jg at h;have hf:Instr.findNow (.int .i64) (iV 7) [(⟨iV 0,.func (.func 67) #[] #[],0⟩:tf),⟨iV 2,.func (.func 68) #[] #[],1⟩,⟨iV 3,.func (.func 69) #[] #[],2⟩,⟨iV 4,.func (.func 70) #[] #[],3⟩,⟨iV 7,.func (.func 71) #[] #[],4⟩] 0=some (some (4,.func (.func 71) #[] #[])):=rfl;simp[Instr.lookup,run_underlying Tryz.underlying107,MapKept.run_getObj_map h,hc,MapKept.run_findKey Tryz.underlying3 hf,Result.andThen]
theorem PG(X:Nat){w:tA}{B:Nat}(h:w.heap[B]? =some (dM X)):(Instr.lookup 112 (.map (some B)) (iV 0) false).run Tryz.prog w= .ok (.func (.func 72) #[lp X] #[]) w:=by
 have hc:(Instr.checkKey false 10000 3 (iV 0)).run Tryz.prog w= .ok () w:=AW (k:=iV 0) Tryz.underlying3 (by simp[MapKept.IsKey]) false 9999;unfold dM at h;have hf:Instr.findNow (.int .i64) (iV 0) [(⟨iV 0,.func (.func 72) #[lp X] #[],0⟩:tf),⟨iV 1,.func (.func 73) #[lp X] #[],1⟩,⟨iV 2,.func (.func 72) #[lp X] #[],2⟩,⟨iV 3,.func (.func 72) #[lp X] #[],3⟩,⟨iV 4,.func (.func 72) #[lp X] #[],4⟩,⟨iV 5,.func (.func 74) #[lp X] #[],5⟩,⟨iV 6,.func (.func 75) #[lp X] #[],6⟩,⟨iV 7,.func (.func 72) #[lp X] #[],7⟩] 0=some (some (0,.func (.func 72) #[lp X] #[])):=rfl;simp[Instr.lookup,run_underlying Tryz.underlying112,MapKept.run_getObj_map h,hc,MapKept.run_findKey Tryz.underlying3 hf,Result.andThen]
theorem PH(X:Nat){w:tA}{B:Nat}(h:w.heap[B]? =some (dM X)):(Instr.lookup 112 (.map (some B)) (iV 1) false).run Tryz.prog w= .ok (.func (.func 73) #[lp X] #[]) w:=by
 have hc:(Instr.checkKey false 10000 3 (iV 1)).run Tryz.prog w= .ok () w:=AW (k:=iV 1) Tryz.underlying3 (by simp[MapKept.IsKey]) false 9999;unfold dM at h;have hf:Instr.findNow (.int .i64) (iV 1) [(⟨iV 0,.func (.func 72) #[lp X] #[],0⟩:tf),⟨iV 1,.func (.func 73) #[lp X] #[],1⟩,⟨iV 2,.func (.func 72) #[lp X] #[],2⟩,⟨iV 3,.func (.func 72) #[lp X] #[],3⟩,⟨iV 4,.func (.func 72) #[lp X] #[],4⟩,⟨iV 5,.func (.func 74) #[lp X] #[],5⟩,⟨iV 6,.func (.func 75) #[lp X] #[],6⟩,⟨iV 7,.func (.func 72) #[lp X] #[],7⟩] 0=some (some (1,.func (.func 73) #[lp X] #[])):=rfl;simp[Instr.lookup,run_underlying Tryz.underlying112,MapKept.run_getObj_map h,hc,MapKept.run_findKey Tryz.underlying3 hf,Result.andThen]
theorem PI(X:Nat){w:tA}{B:Nat}(h:w.heap[B]? =some (dM X)):(Instr.lookup 112 (.map (some B)) (iV 2) false).run Tryz.prog w= .ok (.func (.func 72) #[lp X] #[]) w:=by
 have hc:(Instr.checkKey false 10000 3 (iV 2)).run Tryz.prog w= .ok () w:=AW (k:=iV 2) Tryz.underlying3 (by simp[MapKept.IsKey]) false 9999;unfold dM at h;have hf:Instr.findNow (.int .i64) (iV 2) [(⟨iV 0,.func (.func 72) #[lp X] #[],0⟩:tf),⟨iV 1,.func (.func 73) #[lp X] #[],1⟩,⟨iV 2,.func (.func 72) #[lp X] #[],2⟩,⟨iV 3,.func (.func 72) #[lp X] #[],3⟩,⟨iV 4,.func (.func 72) #[lp X] #[],4⟩,⟨iV 5,.func (.func 74) #[lp X] #[],5⟩,⟨iV 6,.func (.func 75) #[lp X] #[],6⟩,⟨iV 7,.func (.func 72) #[lp X] #[],7⟩] 0=some (some (2,.func (.func 72) #[lp X] #[])):=rfl;simp[Instr.lookup,run_underlying Tryz.underlying112,MapKept.run_getObj_map h,hc,MapKept.run_findKey Tryz.underlying3 hf,Result.andThen]
theorem PJ(X:Nat){w:tA}{B:Nat}(h:w.heap[B]? =some (dM X)):(Instr.lookup 112 (.map (some B)) (iV 3) false).run Tryz.prog w= .ok (.func (.func 72) #[lp X] #[]) w:=by
 have hc:(Instr.checkKey false 10000 3 (iV 3)).run Tryz.prog w= .ok () w:=AW (k:=iV 3) Tryz.underlying3 (by simp[MapKept.IsKey]) false 9999;unfold dM at h;have hf:Instr.findNow (.int .i64) (iV 3) [(⟨iV 0,.func (.func 72) #[lp X] #[],0⟩:tf),⟨iV 1,.func (.func 73) #[lp X] #[],1⟩,⟨iV 2,.func (.func 72) #[lp X] #[],2⟩,⟨iV 3,.func (.func 72) #[lp X] #[],3⟩,⟨iV 4,.func (.func 72) #[lp X] #[],4⟩,⟨iV 5,.func (.func 74) #[lp X] #[],5⟩,⟨iV 6,.func (.func 75) #[lp X] #[],6⟩,⟨iV 7,.func (.func 72) #[lp X] #[],7⟩] 0=some (some (3,.func (.func 72) #[lp X] #[])):=rfl;simp[Instr.lookup,run_underlying Tryz.underlying112,MapKept.run_getObj_map h,hc,MapKept.run_findKey Tryz.underlying3 hf,Result.andThen]
theorem PK(X:Nat){w:tA}{B:Nat}(h:w.heap[B]? =some (dM X)):(Instr.lookup 112 (.map (some B)) (iV 4) false).run Tryz.prog w= .ok (.func (.func 72) #[lp X] #[]) w:=by
 have hc:(Instr.checkKey false 10000 3 (iV 4)).run Tryz.prog w= .ok () w:=AW (k:=iV 4) Tryz.underlying3 (by simp[MapKept.IsKey]) false 9999;unfold dM at h;have hf:Instr.findNow (.int .i64) (iV 4) [(⟨iV 0,.func (.func 72) #[lp X] #[],0⟩:tf),⟨iV 1,.func (.func 73) #[lp X] #[],1⟩,⟨iV 2,.func (.func 72) #[lp X] #[],2⟩,⟨iV 3,.func (.func 72) #[lp X] #[],3⟩,⟨iV 4,.func (.func 72) #[lp X] #[],4⟩,⟨iV 5,.func (.func 74) #[lp X] #[],5⟩,⟨iV 6,.func (.func 75) #[lp X] #[],6⟩,⟨iV 7,.func (.func 72) #[lp X] #[],7⟩] 0=some (some (4,.func (.func 72) #[lp X] #[])):=rfl;simp[Instr.lookup,run_underlying Tryz.underlying112,MapKept.run_getObj_map h,hc,MapKept.run_findKey Tryz.underlying3 hf,Result.andThen]
theorem PL(X:Nat){w:tA}{B:Nat}(h:w.heap[B]? =some (dM X)):(Instr.lookup 112 (.map (some B)) (iV 5) false).run Tryz.prog w= .ok (.func (.func 74) #[lp X] #[]) w:=by
 have hc:(Instr.checkKey false 10000 3 (iV 5)).run Tryz.prog w= .ok () w:=AW (k:=iV 5) Tryz.underlying3 (by simp[MapKept.IsKey]) false 9999;unfold dM at h;have hf:Instr.findNow (.int .i64) (iV 5) [(⟨iV 0,.func (.func 72) #[lp X] #[],0⟩:tf),⟨iV 1,.func (.func 73) #[lp X] #[],1⟩,⟨iV 2,.func (.func 72) #[lp X] #[],2⟩,⟨iV 3,.func (.func 72) #[lp X] #[],3⟩,⟨iV 4,.func (.func 72) #[lp X] #[],4⟩,⟨iV 5,.func (.func 74) #[lp X] #[],5⟩,⟨iV 6,.func (.func 75) #[lp X] #[],6⟩,⟨iV 7,.func (.func 72) #[lp X] #[],7⟩] 0=some (some (5,.func (.func 74) #[lp X] #[])):=rfl;simp[Instr.lookup,run_underlying Tryz.underlying112,MapKept.run_getObj_map h,hc,MapKept.run_findKey Tryz.underlying3 hf,Result.andThen]
theorem PM(X:Nat){w:tA}{B:Nat}(h:w.heap[B]? =some (dM X)):(Instr.lookup 112 (.map (some B)) (iV 6) false).run Tryz.prog w= .ok (.func (.func 75) #[lp X] #[]) w:=by
 have hc:(Instr.checkKey false 10000 3 (iV 6)).run Tryz.prog w= .ok () w:=AW (k:=iV 6) Tryz.underlying3 (by simp[MapKept.IsKey]) false 9999;unfold dM at h;have hf:Instr.findNow (.int .i64) (iV 6) [(⟨iV 0,.func (.func 72) #[lp X] #[],0⟩:tf),⟨iV 1,.func (.func 73) #[lp X] #[],1⟩,⟨iV 2,.func (.func 72) #[lp X] #[],2⟩,⟨iV 3,.func (.func 72) #[lp X] #[],3⟩,⟨iV 4,.func (.func 72) #[lp X] #[],4⟩,⟨iV 5,.func (.func 74) #[lp X] #[],5⟩,⟨iV 6,.func (.func 75) #[lp X] #[],6⟩,⟨iV 7,.func (.func 72) #[lp X] #[],7⟩] 0=some (some (6,.func (.func 75) #[lp X] #[])):=rfl;simp[Instr.lookup,run_underlying Tryz.underlying112,MapKept.run_getObj_map h,hc,MapKept.run_findKey Tryz.underlying3 hf,Result.andThen]
theorem PN(X:Nat){w:tA}{B:Nat}(h:w.heap[B]? =some (dM X)):(Instr.lookup 112 (.map (some B)) (iV 7) false).run Tryz.prog w= .ok (.func (.func 72) #[lp X] #[]) w:=by
 have hc:(Instr.checkKey false 10000 3 (iV 7)).run Tryz.prog w= .ok () w:=AW (k:=iV 7) Tryz.underlying3 (by simp[MapKept.IsKey]) false 9999;unfold dM at h;have hf:Instr.findNow (.int .i64) (iV 7) [(⟨iV 0,.func (.func 72) #[lp X] #[],0⟩:tf),⟨iV 1,.func (.func 73) #[lp X] #[],1⟩,⟨iV 2,.func (.func 72) #[lp X] #[],2⟩,⟨iV 3,.func (.func 72) #[lp X] #[],3⟩,⟨iV 4,.func (.func 72) #[lp X] #[],4⟩,⟨iV 5,.func (.func 74) #[lp X] #[],5⟩,⟨iV 6,.func (.func 75) #[lp X] #[],6⟩,⟨iV 7,.func (.func 72) #[lp X] #[],7⟩] 0=some (some (7,.func (.func 72) #[lp X] #[])):=rfl;simp[Instr.lookup,run_underlying Tryz.underlying112,MapKept.run_getObj_map h,hc,MapKept.run_findKey Tryz.underlying3 hf,Result.andThen]
theorem Xn{w:tA}{B:Nat}(h:w.heap[B]? =some jg):wD w (.map (some B)):=fun k g hg=>by
 unfold II at hg;by_cases h0:k=0
 ·subst h0;simp at hg;subst hg;exact TG h
 by_cases h2:k=2
 ·subst h2;simp at hg;subst hg;exact TH h
 by_cases h3:k=3
 ·subst h3;simp at hg;subst hg;exact TI h
 by_cases h4:k=4
 ·subst h4;simp at hg;subst hg;exact TJ h
 by_cases h7:k=7
 ·subst h7;simp at hg;subst hg;exact TL h
 simp[h0,h2,h3,h4,h7]at hg
theorem Xo{w:tA}{X B:Nat}(h:w.heap[B]? =some (dM X)):WZ w X (.map (some B)):=fun k g hg=>by
 unfold yY at hg;by_cases h0:k=0
 ·subst h0;simp at hg;subst hg;exact PG X h
 by_cases h1:k=1
 ·subst h1;simp at hg;subst hg;exact PH X h
 by_cases h2:k=2
 ·subst h2;simp at hg;subst hg;exact PI X h
 by_cases h3:k=3
 ·subst h3;simp at hg;subst hg;exact PJ X h
 by_cases h4:k=4
 ·subst h4;simp at hg;subst hg;exact PK X h
 by_cases h5:k=5
 ·subst h5;simp at hg;subst hg;exact PL X h
 by_cases h6:k=6
 ·subst h6;simp at hg;subst hg;exact PM X h
 by_cases h7:k=7
 ·subst h7;simp at hg;subst hg;exact PN X h
 simp[h0,h1,h2,h3,h4,h5,h6,h7]at hg
section
open Rv
def TM(m:Nat)(nd:tV)(tk dd:tK):Nat→Value:=fun k=>if k<5 then(if k<m then .pointer (some ⟨nd k,0,none⟩)else .pointer none)else lx nd (eD 4) bp [.slice none 0 0,tk,dd,iV 0,.slice none 0 0,.slice none 0 0] k
theorem acZ{nd:tV}{tk dd:tK}{k b:Nat}(hk:k<5)(i:Nat):ot (TM k nd tk dd) (0+k*1) (.pointer (some ⟨b,0,none⟩)) i=TM (k+1) (au nd k b) tk dd i:=by
 rw[show 0+k*1=k by omega];by_cases hi:i=k
 ·subst hi;rw[EC];unfold TM;rw[if_pos hk,if_pos (by omega),az]
 ·rw[pI _ _ _ _ hi];unfold TM;by_cases h5:i<5
  ·rw[if_pos h5,if_pos h5];by_cases h6:i<k
   ·rw[if_pos h6,if_pos (by omega),show au nd k b i=nd i from if_neg hi]
   ·rw[if_neg h6,if_neg (by omega)]
  ·rw[if_neg h5,if_neg h5];unfold lx;rw[if_neg h5,if_neg h5]
abbrev aan(X:Nat)(k:Int):Nat→Value:=kF [lp X,iV k,.bool true,.slice none 0 0,iV 0] (gh Qp (eD 4) bp (.slice none 0 0) .nilFunc 0) [iV 0,.bool false]
def nv0(i:Nat):Nv:=⟨i,true,none,0,[],0,fun _=>⟨Bt.zero,none,0,zQ⟩,eD 4,bp,.slice none 0 0,[],.nilFunc,none,⟨0,0,0,0,0,none,0,⟨Bt.zero,none,0,zQ⟩⟩,0,0,false⟩
def ph:Nat→Nd:=fun i=>⟨i,true,[],0,fun _=>Bt.zero,eD 4,bp,[],none,0,0,false⟩
def MT:Ws:=⟨eD 4,bp,[],0,[],[]⟩
theorem Xp{w:tA}{B:Nat}{o:Obj}(h:w.heap[B]? =some o):B<w.heap.size:=by
 rcases AA B w.heap.size with h'|h'
 ·exact h'
 ·simp[Array.getElem?_eq_none h']at h
theorem uh{U:tF}{w:tA}{B:Nat}{o:Obj}(h:w.heap[B]? =some o)(hU:¬U B):bV U w fun w=>w.heap[B]? =some o:=fun w2 c2=>(c2.block B (Xp h) hU).trans h
theorem Mem.ac0{w:tA}{H:List bU}{M:tF}{Γ R:tJ}{b t n:Nat}{f:tD}(h:Mem w H M Γ R)(hΓ:∀w,Γ w→aY w b t n f):b∉H.map bU.a:=fun hm=>by
 have aM:=h.lt hm
 have c:dm (fun b=>b∈H.map bU.a) w {w with heap:=w.heap.set b (.cells #[] (t+1) (0,0)) aM}:=⟨rfl,rfl,rfl,by simp,fun z hz uC=>by
  have fM:b≠z:=fun e=>uC (e▸hm)
  simp[fM]⟩
 have:=hΓ _ (h.g _ (c.mono fun _ h=> .inl h));unfold aY at this;simp at this
theorem aao{w:tA}{X B1 B2:Nat}{nd UW:tV}(fb:aY w X 114 19 (TM 5 UW (.map (some B2)) (.map (some B1))))(he:∀j,j<5→nd j=UW j)(h5:nd 5≤X∧nd 5≤B1∧nd 5≤B2∧nd 5≤w.heap.size)(hn:∀j,j<5→aY w (nd j) 126 206 (aan X j))(h1:w.heap[B1]? =some jg)(h2:w.heap[B2]? =some (dM X))(hX:∀j,j<5→X≠nd j∧nd 5≤nd j)(ho:∀i j,i<j→j<5→nd i≠nd j):CW w X nv0 ⟨nd,.map (some B2),.map (some B1),eD 4,bp,[],0,[],[]⟩ (fun b=>b=X):=by
 have lV:∀i b,¬fG (nv0 i).wt b:=fun i b hb=>by
  obtain⟨o,n,c,e⟩:=hb;cases e
 have ac1:∀{B:Nat} {es:Array MapEntry} {c:Nat},w.heap[B]? =some (.map es c)→¬CU nv0 (⟨nd,.map (some B2),.map (some B1),eD 4,bp,[],0,[],[]⟩:Wv) (fun b=>b=X) B:=fun hB hb=>by
  rcases hb with rfl|⟨j,hj,rfl⟩|⟨j,hj,hb⟩
  ·unfold aY at fb;rw[hB]at fb;cases fb
  ·have:=hn j hj;unfold aY at this;rw[hB]at this;cases this
  ·exact lV j _ hb
 refine⟨⟨.slice none 0 0,.slice none 0 0,.slice none 0 0,fb.congr fun i hi=> ?_,⟨rfl,.inl ⟨rfl,rfl⟩⟩,⟨rfl,.inl ⟨rfl,rfl⟩⟩,⟨rfl,.inl ⟨rfl,rfl⟩⟩,fun b=>⟨.inl,fun h=>h.elim id fun h=>h.elim (fun h=>by cases h) fun h=>h.elim (fun h=>by cases h) fun h=>by cases h⟩⟩,fun j hj=>hn j hj,fun j hj=>⟨fun _ _=>Bt.cI,fun _=>rfl,Aa _,Ak _,Ak _,Bq _,Bq _,hj,trivial⟩,fun i j hi hj e=> ?_,fun j hj e=>(hX j hj).1 (show nd j=X from e).symm,fun j hj=>⟨0,none,0,rfl,Aa _,Ak _,.inl ⟨rfl,rfl⟩⟩,fun i b _ hb=>absurd hb (lV i b),fun i b j _ _ hb=>absurd hb (lV i b),fun i b j _ _ hb=>absurd hb (lV i b),fun w2 c2=>⟨⟨fun j hj=>⟨RowK.nil _ _ _,fun _ _=>jT.dq rfl,rfl,fun r hr=>by cases hr⟩,fun r hr=>by cases hr⟩,Xo (uh h2 (fun e=>e.elim (ac1 h2) (AY.2 h5.2.2.1)) w2 c2),Xn (uh h1 (fun e=>e.elim (ac1 h1) (AY.2 h5.2.1)) w2 c2)⟩,h5.2.2.2,fun b hb=>by
  rcases hb with rfl|⟨j,hj,rfl⟩|⟨j,hj,hb⟩
  ·exact h5.1
  ·exact(hX j hj).2
  ·exact absurd hb (lV j b)⟩
 ·show TM 5 UW _ _ i=lx nd _ _ _ i;unfold TM;by_cases h5:i<5
  ·rw[if_pos h5,if_pos h5,←he i h5];exact(Sw h5).symm
  ·rw[if_neg h5];unfold lx;rw[if_neg h5,if_neg h5]
 ·have e:nd i=nd j:=e;rcases Nat.lt_trichotomy i j with h|h|h
  ·exact absurd e (ho i j h hj)
  ·exact h
  ·exact absurd e.symm (ho j i h hi)
theorem FQ(w:tA):cA 29 #[] w fun x w'=>∃X nd tk dd,x= .returned (lp X)∧CW w' X nv0 ⟨nd,tk,dd,eD 4,bp,[],0,[],[]⟩ (fun b=>b=X)∧w.heap.size≤X∧nd 5=w.heap.size∧bZ w w':=by
 have o1:aS (gh Qp (eD 4) bp (.slice none 0 0) .nilFunc 0) 199:=uU wZ rfl;refine en (H:=[]) 27 [] Tryz.func29 rfl rfl (m0 w) (r [] rfl fun _=>Rv.cb rfl (vg (wU (eD 4) bp)) (fun w _=>Mm w) (r [] rfl fun _=> ?_));refine cx rfl (fun B:Nat=>vv (.map (some B))) (fun B=>w.heap.size≤B) (fun B w=>w.heap[B]? =some jg) (fun w1 hS=>(KY w1).mono fun _ _ ⟨e,hd,b⟩=>⟨_,e,b,hS.now.2.size,fun _=>uh hd fun h=>h.elim (fun h=>by cases h) id⟩) fun B1 hB1=> ?_;refine r [] rfl fun α=>gn 0 (TM 0 (fun _=>0) (.map none) (.map (some B1))) ?_;refine cx rfl (fun B:Nat=>vv (.map (some B))) (fun B=>w.heap.size≤B) (fun B w=>w.heap[B]? =some (dM (α 0))) (fun w3 hS=>(I3 (α 0) w3).mono fun _ _ ⟨e,hd,b⟩=>⟨_,e,b,hS.now.2.size,fun _=>uh hd fun h=>h.elim (fun h=>Nat.ne_of_gt (hS.at 0 rfl).lt (Ab.1 h)) id⟩) fun B2 hB2=> ?_;refine r [] rfl fun _=>gn 0 (TM 0 (fun _=>0) (.map (some B2)) (.map (some B1))) ?_;refine iC (X:=Nat×(Nat→Nat)) ⟨fun x=>[(1,vp 0 0 (α 0)),(12,vi (x.1:Int))],fun x=>[⟨α 0,114,[.f 19 (TM x.1 x.2 (.map (some B2)) (.map (some B1)))]⟩],fun _ _=>False,fun x w=>((True∧w.heap[B1]? =some jg)∧w.heap[B2]? =some (dM (α 0)))∧∀j,j<x.1→aY w (x.2 j) 126 206 (aan (α 0) j),fun _ w'=>bZ w w',fun x=>x.1≤5∧(∀j,j<x.1→α 0≠x.2 j∧w.heap.size≤x.2 j)∧(∀i j,i<j→j<x.1→x.2 i≠x.2 j),fun x=>5-x.1⟩ (0,fun _=>0) ⟨rfl,rfl,trivial⟩ (fun w hS=>hS.said fun _ h=>⟨h,fun j hj=>absurd hj (AH j)⟩) ⟨Ak _,fun j hj=>absurd hj (AH j),fun i j _ hj=>absurd hj (AH j)⟩ ?_;rintro f ⟨k,nd⟩ ⟨hk,sR,qV⟩;have hk:k≤5:=hk;have sR:∀j,j<k→α 0≠nd j∧w.heap.size≤nd j:=sR;have qV:∀i j,i<j→j<k→nd i≠nd j:=qV;by_cases aM:k<5
 case neg=>
  obtain rfl:k=5:=by omega
  refine r [0] rfl fun _=>fin fun w1 hS=> ?_;have hg:=hS.now.1;exact⟨α 0,au nd 5 w.heap.size,_,_,rfl,aao (nd:=au nd 5 w.heap.size) (hS.at 0 rfl) (fun j hj=>bD (by omega)) (by rw[az];exact⟨hS.jC 0 rfl,hB1,hB2,hS.now.2.size⟩) (fun j hj=>by rw[bD (by omega)];exact hg.2 j hj) hg.1.1.2 hg.1.2 (fun j hj=>by rw[bD (by omega),az];exact sR j hj) (fun i j hi hj=>by rw[bD (by omega),bD (by omega)];exact qV i j hi hj),hS.jC 0 rfl,az ..,hS.now.2⟩
 refine r [1,4,1] rfl fun _=>Rv.cb rfl (vf 199 (gh Qp (eD 4) bp (.slice none 0 0) .nilFunc 0)) (fun w _=>tz w) (r [1] rfl fun β=> ?_);refine so1 rfl 0 rfl (TM (k+1) (au nd k (β 0)) (.map (some B2)) (.map (some B1))) (show 0+k*1<19 by omega) (fun i=>acZ aM i) (gn 1 (aan (α 0) k) ?_ rfl (by kernel_rfl));refine UN fun w9 hS=> ?_;have hN:=hS.jC 1 (e:=⟨β 0,_,_,_⟩) rfl;have hX:α 0≠β 0:=fun e=>absurd (hS.ov 0 1 ⟨α 0,_,_,_⟩ ⟨β 0,_,_,_⟩ rfl rfl e) (by decide);have Yr:∀j,j<k→nd j≠β 0:=fun j hj e=>Mem.ac0 hS (fun w h=>h.2 j hj) (by show nd j∈_;rw[e];exact List.Mem.tail _ (List.Mem.head _));refine rz [1] [((k+1:Nat):Int)] rfl fun _=>b_ (k+1,au nd k (β 0)) ⟨rfl,rfl,trivial⟩ (fun w hS=>((hS.take 1).add (hS.kept 1 rfl 1 (cK rfl))).said (fun w h=>⟨h.1.1,fun j hj=> ?_⟩)) ⟨aM,fun j hj=> ?_,fun i j h1 h2=> ?_⟩ (show 5-(k+1)<5-k by omega)
 ·by_cases e:j=k
  ·rw[e,show(k+1,au nd k (β 0)).2 k=β 0 from az ..];exact h.2
  ·rw[show(k+1,au nd k (β 0)).2 j=nd j from bD e];exact h.1.2 j (by have:j<k+1:=hj;omega)
 ·have hj:j<k+1:=hj;show α 0≠au nd k (β 0) j∧w.heap.size≤au nd k (β 0) j;by_cases e:j=k
  ·rw[e,az];exact⟨hX,hN⟩
  ·rw[bD e];exact sR j (by omega)
 ·have h2:j<k+1:=h2;show au nd k (β 0) i≠au nd k (β 0) j;rw[bD (show ¬i=k by omega)];by_cases e:j=k
  ·rw[e,az];exact Yr i (by omega)
  ·rw[bD e];exact qV i j h1 (by omega)
theorem PO(X N:Nat)(u:Nv)(v:Wv)(F U:tF)(w:tA)(hw:NW w X N u v F U)(kN:u.ub=true∨(u.ub=false∧u.sk=true)):cA 50 #[lp N] w fun x w'=>x= .returned (.tuple #[])∧∃u' v' F',Dn w X N u v F U ((u.pure,v.pure)) u' v' F' w':=by
 rcases kN with mw|⟨mw,Yf⟩
 ·obtain⟨u1,rfl⟩:∃u1:Nv,u={u1 with ub:=true}:=⟨u,by rw[←mw]⟩;exact en (H:=[nE X N {u1 with ub:=true}]) 55 [vp 0 0 N] Tryz.func50 rfl rfl (hw.init (G:=fun _=>True) fun _ _=>trivial) (r [] rfl fun _=>fin fun w hS=>⟨rfl,_,v,F,Dn.fin hS hw.ub hw.nu (fun _ h=>⟨h.1.1,h.1.2⟩) hw.ok rfl rfl rfl rfl rfl rfl rfl⟩)
 ·obtain⟨u1,rfl⟩:∃u1:Nv,u={u1 with ub:=false,sk:=true}:=⟨u,by rw[←mw,←Yf]⟩;exact en (H:=[nE X N {u1 with ub:=false,sk:=true}]) 55 [vp 0 0 N] Tryz.func50 rfl rfl (hw.init (G:=fun _=>True) fun _ _=>trivial) (r [] rfl fun _=>fin fun w hS=>⟨rfl,_,v,F,Dn.fin hS hw.ub hw.nu (fun _ h=>⟨h.1.1,h.1.2⟩) hw.ok rfl rfl rfl rfl rfl rfl rfl⟩)
theorem TN(X N:Nat)(u:Nv)(v:Wv)(F U:tF)(w:tA)(hw:NW w X N u v F U)(kp:Int)(mw:u.ub=false):cA 49 #[lp N,iV kp] w fun x w'=>x= .returned (.tuple #[])∧∃u' v' F',Dn w X N u v F U ((u.pure,v.pure)) u' v' F' w':=by
 obtain⟨u1,rfl⟩:∃u1:Nv,u={u1 with ub:=false}:=⟨u,by rw[←mw]⟩;exact en (H:=[nE X N {u1 with ub:=false}]) 36 [vp 0 0 N,vi kp] Tryz.func49 rfl rfl (hw.init (G:=fun _=>True) fun _ _=>trivial) (r [] rfl fun _=>fin fun w hS=>⟨rfl,_,v,F,Dn.fin hS hw.ub hw.nu (fun _ h=>⟨h.1.1,h.1.2⟩) hw.ok rfl rfl rfl rfl rfl rfl rfl⟩)
end
open Classical in
noncomputable def ee(n:Nd)(s:Ws):Nd×Ws:=if n.up=true∨n.sk=true then(n,s)else if h:∃x:(Nat→Bt)×List Rec×Nat×List Rec×Nat,YJ n x.1 x.2.1 x.2.2.1 x.2.2.2.1 x.2.2.2.2 then jP n s h.choose.1 h.choose.2.2.1 h.choose.2.2.2.1 else(n,s)
def mW(n:Nd)(kp:Int):Nd:=if n.up=true then iI n kp else n
noncomputable def U2(ns:Nat→Nd)(s:Ws)(k:Int)(n q p:Nat)(kp:Int)(e:Ev):(Nat→Nd)×Ws:=
 if k=1 then(au ns n (bP (ns n) s q).1,(bP (ns n) s q).2)
 else if k=2 then(ns,{fZ s (rD n q s.cs e)with cs:=s.cs+1})
 else if k=3 then(au ns n (eK (ns n) s).1,(eK (ns n) s).2)
 else if k=4∨k=5∨k=6 then eM ns s k p
 else if k=7 then IW ns s
 else if k=8 then(au ns n (mW (ns n) kp),s)
 else if k=9 then(au ns n (ee (ns n) s).1,(ee (ns n) s).2)
 else Tt ns s q n
structure Gd(ns:Nat→Nd)(s:Ws):Prop where
 tu:∀i,i<5→(ns i).tu<4
 wt:∀i,i<5→∀l∈(ns i).wt,mD l
 fl:∀l∈s.fl,Tk l
 dir:de s.pn s.pe
 st:∀i,i<5→(ns i).up=false→(ns i).sk=false→∃Bs rs kk ps Qv,YJ (ns i) Bs rs kk ps Qv
 lf:s.fl.length≤100000000000
 ld:s.td.length≤100000000000
 ls:s.sv.length≤100000000000
 lw:∀i,i<5→(ns i).wt.length≤100000000000
 c0:0≤s.cs
 c1:s.cs≤100000000000
section
variable{w w':tA}{X i:Nat}{us:Nat→Nv}{v v':Wv}{F F':tF}{u':Nv}
theorem CW.ds(h:CW w X us v F)(hi:i<5){r:Nd×Ws}(hd:Ds w X (v.nd i) (us i) v F (CT us v F) r u' v' F' w'):Cd w X us v F (au (fun i=>(us i).pure) i r.1,r.2) (au us i u') v' F' w':=by
 have lV:∀b,fG u'.wt b→fG (us i).wt b:=fun b hb=>by
  rcases hd.wq with⟨e,_⟩|⟨e,_⟩
  ·rw[e]at hb;exact hb
  ·rw[e]at hb;obtain⟨o,n,c,e⟩:=hb;cases e
 have aM:∀b,fG (us i).wt b→b<w.heap.size:=fun b hb=>h.lt b (.inr (.inr ⟨i,hi,hb⟩));have m:Mv (fun b=>F b∨b=v.nd i∨fG (us i).wt b) w (fun b=>F' b∨b=v.nd i∨fG u'.wt b) w':=hd.mv.less (fun b hb=>hb.imp id .inl) fun b hb=>by
  rcases hb with hb|hb|hb
  ·exact .inl (.inl hb)
  ·exact .inl (.inr hb)
  ·exact .inr ⟨.inr (.inr (lV b hb)),aM b (lV b hb)⟩
 have hnF:∀b,fG (us i).wt b→¬F' b:=fun b hb hf=>by
  rcases hd.mv.f b (.inl hf)with(e|e)|e
  ·exact h.wf i b hi hb e
  ·exact h.wn i b i hi hi hb e
  ·exact absurd (aM b hb) (AY.2 e)
 have db:∃B,ft w' B u'.wt u'.wl:=by
  rcases hd.wq with⟨e1,e2⟩|⟨e1,e2⟩
  ·obtain⟨B,hr⟩:=h.wr i hi;exact⟨B,by rw[e1,e2];exact hr.still fun hb=>hd.mv.c.block B (hr.lt hb) fun e=>e.elim (h.wf i B hi hb) (h.wn i B i hi hi hb)⟩
  ·exact⟨0,by rw[e1,e2];exact⟨none,0,rfl,Aa _,Ak _,.inl ⟨rfl,rfl⟩⟩⟩
 have MP:=h.put hi m hd.nw.wo hd.nd hd.tk hd.dd hd.nw.nb hd.nw.ok hd.nw.nf db (fun b hb=>hnF b (lV b hb)) (fun b hb=>h.wn i b i hi hi (lV b hb)) (hd.nw.st.mono fun b _ hb=>by
  rcases hb with hb|hb|hb
  ·exact .inl hb
  ·exact .inr hb
  ·exact .inl (.inl (.inr (.inr ⟨i,hi,lV b hb⟩))))
 refine⟨MP,h.CP hi m hd.nd,hd.nd,hd.tk,hd.dd, ?_,hd.s⟩;rw[nS,hd.n]
theorem TO(h:CW w X us v F)(hi:i<5)(gI:(us i).ub=false→(us i).sk=false→∃Bs rs kk ps Qv,YJ (us i).pure Bs rs kk ps Qv)(hlen:v.sv.length≤900000000000):cA 50 #[lp (v.nd i)] w fun x w'=>x= .returned (.tuple #[])∧∃qf v' F',Cd w X us v F (au (fun i=>(us i).pure) i (ee (us i).pure v.pure).1,(ee (us i).pure v.pure).2) qf v' F' w':=by
 by_cases kN:(us i).ub=true∨(us i).sk=true
 ·have ac2:(us i).ub=true∨((us i).ub=false∧(us i).sk=true):=by
   rcases hb:(us i).ub with _|_
   ·exact .inr ⟨rfl,kN.resolve_left (by rw[hb];simp)⟩
   ·exact .inl rfl
  refine(PO X (v.nd i) (us i) v F _ w (h.nw hi) ac2).mono ?_;rintro x w' ⟨rfl,u',v',F',hd⟩;have e:ee (us i).pure v.pure=((us i).pure,v.pure):=if_pos kN;rw[e];exact⟨rfl,_,v',F',h.dn hi hd⟩
 ·have mw:(us i).ub=false:=by
   rcases hb:(us i).ub with _|_
   ·rfl
   ·exact absurd (.inl hb) kN
  have Yf:(us i).sk=false:=by
   rcases hb:(us i).sk with _|_
   ·rfl
   ·exact absurd (.inr hb) kN
  obtain⟨Bs,rs,kk,ps,Qv,hs⟩:=gI mw Yf;have hx:∃x:(Nat→Bt)×List Rec×Nat×List Rec×Nat,YJ (us i).pure x.1 x.2.1 x.2.2.1 x.2.2.2.1 x.2.2.2.2:=⟨(Bs,rs,kk,ps,Qv),hs⟩;have e:ee (us i).pure v.pure=jP (us i).pure v.pure hx.choose.1 hx.choose.2.2.1 hx.choose.2.2.2.1:=by
   unfold ee;rw[if_neg kN,dif_pos hx]
  refine(TB X (v.nd i) (us i) v F _ w (h.nw hi) hx.choose.1 hx.choose.2.1 hx.choose.2.2.1 hx.choose.2.2.2.1 hx.choose.2.2.2.2 mw Yf hx.choose_spec hlen).mono ?_;rintro x w' ⟨rfl,u',v',F',hd⟩;rw[e];exact⟨rfl,_,v',F',h.ds hi hd⟩
theorem abL(h:CW w X us v F)(hi:i<5)(kp:Int)(hk:0≤kp)(Zk:kp≤9223372036854775807):cA 49 #[lp (v.nd i),iV kp] w fun x w'=>x= .returned (.tuple #[])∧∃qf v' F',Cd w X us v F (au (fun i=>(us i).pure) i (mW (us i).pure kp),v.pure) qf v' F' w':=by
 rcases mw:(us i).ub with _|_
 ·refine(TN X (v.nd i) (us i) v F _ w (h.nw hi) kp mw).mono ?_;rintro x w' ⟨rfl,u',v',F',hd⟩;have e:mW (us i).pure kp=(us i).pure:=if_neg (show ¬(us i).ub=true by rw[mw];simp);rw[e];exact⟨rfl,_,v',F',h.dn hi hd⟩
 ·have e:mW (us i).pure kp=iI (us i).pure kp:=if_pos (show(us i).ub=true from mw);rw[e];exact Tq h hi mw kp hk Zk
theorem Xq(h:CW w X us v F)(hi:i<5)(Qs:(us i).tu<4)(eC:∀r∈(us i).wl,mD r.l)(vT:v.fl.length+(us i).wl.length+8≤1000000000000∧v.sv.length+(us i).wl.length≤1000000000000):cA 46 #[lp (v.nd i)] w fun x w'=>x= .returned (.tuple #[])∧∃qf v' F',Cd w X us v F (au (fun i=>(us i).pure) i (eK (us i).pure v.pure).1,(eK (us i).pure v.pure).2) qf v' F' w':=by
 have hw:=h.nw hi;obtain⟨B,hr,hB⟩:∃B,ft w B (us i).wt (us i).wl∧(fG (us i).wt B∨B=X):=by
  obtain⟨B,hr⟩:=h.wr i hi;by_cases e:fG (us i).wt B
  ·exact⟨B,hr,.inl e⟩
  ·exact⟨X,hr.any e,.inr rfl⟩
 have gI:bV (fun b=>F b∨b=v.nd i) w fun w=>ft w B (us i).wt (us i).wl∧wD w v.dd:=fun w2 c2=>⟨hr.still fun hb=>c2.block B (hr.lt hb) fun e=>e.elim (h.wf i B hi hb) (h.wn i B i hi hi hb),(h.st w2 (c2.mono fun b hb=> .inl (hb.imp id fun e=> .inl ⟨i,hi,e⟩))).2.2⟩;refine(WT B X (v.nd i) (us i) v F _ w hw Qs gI eC (fun l hl=>aae hl) vT).mono ?_;rintro x w' ⟨rfl,u',v',F',hk⟩;have Z8:=hk.wr.now.1;have hold:∀b,fG u'.wt b→fG (us i).wt b:=fun b hb=>by
  obtain rfl:=Z8.blk hb;rcases hB with hB|rfl
  ·exact hB
  ·exfalso;obtain⟨o,n,c,e⟩:=hb;obtain⟨a,c',e',_,_,⟨rfl,_⟩|⟨o',n',f,rfl,fb,_⟩⟩:=Z8.ex
   ·rw[e]at e';cases e'
   ·obtain⟨fl,sv,td,fx,_⟩:=hk.nw.wo.ex;unfold aY at fb fx;rw[fb]at fx;simp at fx
 have aM:∀b,fG (us i).wt b→b<w.heap.size:=fun b hb=>h.lt b (.inr (.inr ⟨i,hi,hb⟩));have m:Mv (fun b=>F b∨b=v.nd i∨fG (us i).wt b) w (fun b=>F' b∨b=v.nd i∨fG u'.wt b) w':=hk.mv.less (fun b hb=>hb.elim .inl fun e=> .inr (.inl e)) fun b hb=>by
  rcases hb with hb|hb|hb
  ·exact .inl (.inl hb)
  ·exact .inl (.inr hb)
  ·exact .inr ⟨.inr (.inr (hold b hb)),aM b (hold b hb)⟩
 have MP:=h.put hi m hk.nw.wo hk.nd hk.tk hk.dd hk.nw.nb hk.nw.ok hk.nw.nf ⟨B,Z8⟩ (fun b hb hf=>by
  rcases hk.mv.f b (.inl hf)with(e|e)|e
  ·exact h.wf i b hi (hold b hb) e
  ·exact h.wn i b i hi hi (hold b hb) e
  ·exact absurd (aM b (hold b hb)) (AY.2 e)) (fun b hb=>h.wn i b i hi hi (hold b hb)) (hk.nw.st.mono fun b _ hb=>by
  rcases hb with hb|hb|hb
  ·exact .inl hb
  ·exact .inr hb
  ·exact .inl (.inl (.inr (.inr ⟨i,hi,hold b hb⟩))))
 exact⟨rfl,_,v',F',MP,h.CP hi m hk.nd,hk.nd,hk.tk,hk.dd,by rw[nS,hk.n],hk.s⟩
variable{k:Int}{n q p:Nat}{kp:Int}{e:Ev}
abbrev MU(w:tA)(X:Nat)(us:Nat→Nv)(v:Wv)(F:tF)(k:Int)(n q p:Nat)(kp:Int)(e:Ev)(x:Ending)(w':tA):Prop:=x= .returned (.tuple #[])∧∃qf v' F',Cd w X us v F (U2 (fun i=>(us i).pure) v.pure k n q p kp e) qf v' F' w'
theorem do_1(h:CW w X us v F)(hn:n<5)(hq:q<4)(hk:k=1):cA 44 #[lp X,iV (q:Int),lp (v.nd n)] w (MU w X us v F k n q p kp e):=by
 subst hk;exact Pz h hn q hq
theorem af6(h:CW w X us v F)(hg:Gd (fun i=>(us i).pure) v.pure)(hk:k=2):cA 45 #[lp X,vF (lF [iV k,iV (n:Int),iV (q:Int),iV (p:Int),iV kp,iV e.k,iV e.p,iV e.i,iV e.b,iV e.he,iV e.hn]) 11] w (MU w X us v F k n q p kp e):=by
 have h1:v.fl.length≤100000000000:=by have:=hg.lf;simpa using this
 have h2:v.cs≤100000000000:=hg.c1;subst hk;exact W_ h 2 n q p kp e (by omega) (by omega) hg.c0
theorem af7(h:CW w X us v F)(hg:Gd (fun i=>(us i).pure) v.pure)(hn:n<5)(hk:k=3):cA 46 #[lp (v.nd n)] w (MU w X us v F k n q p kp e):=by
 have h1:v.fl.length≤100000000000:=by have:=hg.lf;simpa using this
 have h2:v.sv.length≤100000000000:=hg.ls;have h3:(us n).wl.length≤100000000000:=by have:=hg.lw n hn;simpa using this
 subst hk;exact Xq h hn (hg.tu n hn) (fun r hr=>hg.wt n hn r.l (Ax.2 ⟨r,hr,rfl⟩)) ⟨by omega,by omega⟩
theorem KZ(h:CW w X us v F)(hg:Gd (fun i=>(us i).pure) v.pure)(hk:k=4∨k=5∨k=6):cA 47 #[lp X,vF (lF [iV k,iV (n:Int),iV (q:Int),iV (p:Int),iV kp,iV e.k,iV e.p,iV e.i,iV e.b,iV e.he,iV e.hn]) 11] w (MU w X us v F k n q p kp e):=by
 have h1:v.fl.length≤100000000000:=by have:=hg.lf;simpa using this
 have h2:v.td.length≤100000000000:=hg.ld;have e1:U2 (fun i=>(us i).pure) v.pure k n q p kp e=eM (fun i=>(us i).pure) v.pure k p:=by
  unfold U2;rw[if_neg (by omega),if_neg (by omega),if_neg (by omega),if_pos hk]
 unfold MU;rw[e1];exact aai X us v F w h k n q p kp e (fun r hr=>hg.fl r.l (Ax.2 ⟨r,hr,rfl⟩)) (by omega) (fun i hi=>by have:=hg.lw i hi;simp only[List.length_map]at this;omega)
theorem af8(h:CW w X us v F)(hg:Gd (fun i=>(us i).pure) v.pure)(hk:k=7):cA 48 #[lp X] w (MU w X us v F k n q p kp e):=by
 have h1:v.fl.length≤100000000000:=by have:=hg.lf;simpa using this
 have h2:v.td.length≤100000000000:=hg.ld;have e1:U2 (fun i=>(us i).pure) v.pure k n q p kp e=IW (fun i=>(us i).pure) v.pure:=by
  unfold U2;rw[if_neg (by omega),if_neg (by omega),if_neg (by omega),if_neg (by omega),if_pos hk]
 unfold MU;rw[e1];exact aah X us v F w h (fun r hr=>hg.fl r.l (Ax.2 ⟨r,hr,rfl⟩)) (by omega) (fun i hi=>by have:=hg.lw i hi;simp only[List.length_map]at this;omega)
theorem af9(h:CW w X us v F)(hn:n<5)(UZ:0≤kp∧kp≤9223372036854775807)(hk:k=8):cA 49 #[lp (v.nd n),iV kp] w (MU w X us v F k n q p kp e):=by
 subst hk;exact abL h hn kp UZ.1 UZ.2
theorem af_(h:CW w X us v F)(hg:Gd (fun i=>(us i).pure) v.pure)(hn:n<5)(hk:k=9):cA 50 #[lp (v.nd n)] w (MU w X us v F k n q p kp e):=by
 subst hk;exact TO h hn (hg.st n hn) (by have:=hg.ls;simp only at this;omega)
theorem ac3(h:CW w X us v F)(hg:Gd (fun i=>(us i).pure) v.pure)(hq:q<4)(hk:k=10):cA 51 #[lp X,iV (q:Int),iV (n:Int)] w (MU w X us v F k n q p kp e):=by
 subst hk;exact Xi h q hq n hg.dir
end
section
open Rv
namespace Rv
section
variable{m:Nat}{ops:tP}{f:Nat→AV}{fn:Func}{Rr:Ending→World→Prop}{H:List En}{ks:List Fr}{t:Ord}{i d:Nat}{md:Md}
theorem cd{w:tA}{X:Nat}{us:Nat→Nv}{v:Wv}{F:tF}{k:Int}{n q p:Nat}{kp:Int}{e:Ev}{g:Nat}{al:List AV}(hc:QS m ops f i=some (d,g,al))(hd:∀w1,CW w1 X us v F→cA g (al.map AV.val).toArray w1 (MU w1 X us v F k n q p kp e))(hn:G Tryz.prog fn Rr m (fun _=>False) (fun _=>True) (MU w X us v F k n q p kp e (.returned (.tuple #[]))) (.g md ops t::ks) (ua f d (vt [])) [])(hm:(md.cb||md.vs.contains i)=false:=by rfl)(he:iO Tryz.prog g=true:=by kernel_rfl):G Tryz.prog fn Rr m (CU us v F) (fun _=>True) (CR X us v F w us v F) (.g md ops (.ef i t)::ks) f H:=
 ct (Y:=Unit) hc (vt []) (fun _=>MU w X us v F k n q p kp e (.returned (.tuple #[]))) (fun _ hS=>(hd _ hS.now.2.toCW).mono fun _ _ ⟨h0,Jy,v2,F2,h⟩=>⟨h0,(),rfl,Jy,v2,F2,h.cw,hS.now.2.mv.trans h.mv,h.nd,h.tk,h.dd,h.n,h.s⟩) (fun _ _ _ ⟨h0,Jy,v2,F2,h⟩ b=>⟨h0,Jy,v2,F2,h.next b⟩) (fun _=>hn) hm he
end
end Rv
theorem ac4(X:Nat)(us:Nat→Nv)(v:Wv)(F:tF)(w:tA)(h:CW w X us v F)(hg:Gd (fun i=>(us i).pure) v.pure)(k:Int)(n q p:Nat)(kp:Int)(e:Ev)(hk:1≤k∧k≤10)(hn:n<5)(hq:q<4)(UZ:0≤kp∧kp≤9223372036854775807):cA 30 #[lp X,vF (lF [iV k,iV (n:Int),iV (q:Int),iV (p:Int),iV kp,iV e.k,iV e.p,iV e.i,iV e.b,iV e.he,iV e.hn]) 11] w (MU w X us v F k n q p kp e):=by
 have kW:k=1∨k=2∨k=3∨k=4∨k=5∨k=6∨k=7∨k=8∨k=9∨k=10:=by omega
 have hS:Mem w [] (CU us v F) (fun _=>True) (CR X us v F w us v F):=Mem.start h.lt (fun _ _=>trivial) (fun w2 b=>⟨h.next b,Mv.of h.lt b⟩);refine en (H:=[]) 75 [vv (lp X),vg [.o (iV k),.o (iV (n:Int)),.o (iV (q:Int)),.o (iV (p:Int)),.o (iV kp),.o (iV e.k),.o (iV e.p),.o (iV e.i),.o (iV e.b),.o (iV e.he),.o (iV e.hn)]] Tryz.func30 rfl rfl hS (r [] rfl fun α=> ?_);have nl:∀{H:List bU} {w1:tA},Mem w1 H (CU us v F) (fun _=>True) (CR X us v F w us v F)→w1.cell? ⟨X,0+0+n*1,none⟩=some (lp (v.nd n)):=fun hS=>by rw[show 0+0+n*1=n by omega];exact hS.now.2.toCW.wo.nd_ hn
 rcases kW with h1|h1|h1|h1|h1|h1|h1|h1|h1|h1
 ·exact r [1,1] rfl fun _=>l1 (q:=0+0+n*1) rfl (lp (v.nd n)) (fun _ hS=>nl hS) (r [] rfl fun _=>cd rfl (fun _ h=>do_1 h hn hq h1) (r [] rfl fun _=>dh rfl fun _ hS=>hS.now.2))
 ·exact r [0,1] rfl fun _=>cd rfl (fun _ h=>af6 h hg h1) (r [] rfl fun _=>dh rfl fun _ hS=>hS.now.2)
 ·exact r [0,0,1,1] rfl fun _=>l1 (q:=0+0+n*1) rfl (lp (v.nd n)) (fun _ hS=>nl hS) (r [] rfl fun _=>cd rfl (fun _ h=>af7 h hg hn h1) (r [] rfl fun _=>dh rfl fun _ hS=>hS.now.2))
 ·exact r [0,0,0,1] rfl fun _=>cd rfl (fun _ h=>KZ h hg (by omega)) (r [] rfl fun _=>dh rfl fun _ hS=>hS.now.2)
 ·exact r [0,0,0,0,1] rfl fun _=>cd rfl (fun _ h=>KZ h hg (by omega)) (r [] rfl fun _=>dh rfl fun _ hS=>hS.now.2)
 ·exact r [0,0,0,0,0,1] rfl fun _=>cd rfl (fun _ h=>KZ h hg (by omega)) (r [] rfl fun _=>dh rfl fun _ hS=>hS.now.2)
 ·exact r [0,0,0,0,0,0,1] rfl fun _=>cd rfl (fun _ h=>af8 h hg h1) (r [] rfl fun _=>dh rfl fun _ hS=>hS.now.2)
 ·exact r [0,0,0,0,0,0,0,1,1] rfl fun _=>l1 (q:=0+0+n*1) rfl (lp (v.nd n)) (fun _ hS=>nl hS) (r [] rfl fun _=>cd rfl (fun _ h=>af9 h hn UZ h1) (r [] rfl fun _=>dh rfl fun _ hS=>hS.now.2))
 ·exact r [0,0,0,0,0,0,0,0,1,1] rfl fun _=>l1 (q:=0+0+n*1) rfl (lp (v.nd n)) (fun _ hS=>nl hS) (r [] rfl fun _=>cd rfl (fun _ h=>af_ h hg hn h1) (r [] rfl fun _=>dh rfl fun _ hS=>hS.now.2))
 ·exact r [0,0,0,0,0,0,0,0,0,1] rfl fun _=>cd rfl (fun _ h=>ac3 h hg hq h1) (r [] rfl fun _=>dh rfl fun _ hS=>hS.now.2)
end
structure CN(n:Nd)(Bs:Nat→Bt)(rs:List Rec)(kk:Nat):Prop where
 rd:bu n.dl=(rs.map aZ,kk)
 wf:∀x∈aC rs,(Lit.int .i64 x).wf=true
 rl:rs.length≤100000
 reb:(kE (kL fY) 0 rs).1=some (kL Bs)
open Classical in
noncomputable def TP(n:Nd):Nat→Bt:=if n.up=true then n.mo else if h:∃x:(Nat→Bt)×List Rec×Nat,CN n x.1 x.2.1 x.2.2 then h.choose.1 else fun _=>Bt.zero
def YL(w:tA)(a:tB)(L:List Tl):Prop:=∀k y,L[k]? =some y→∃g,a=some ⟨g,0,none⟩∧∀j,j<7→w.cell? ⟨g,k*7+j,none⟩=some (lF (O_ y) j)
theorem aap(y:Tl){j:Nat}(hj:j<7):(O_ y)[j]? =some (lF (O_ y) j):=by
 match j,hj with
 |0,_=>rfl
 |1,_=>rfl
 |2,_=>rfl
 |3,_=>rfl
 |4,_=>rfl
 |5,_=>rfl
 |6,_=>rfl
theorem TQ{w:tA}{T:Nat}{lv:tK}{L:List Tl}(h:w.ownsRow 0 T 7 lv L.length (L.flatMap O_)):∃a c,lv= .slice a L.length c∧YL w a L:=by
 obtain⟨_,⟨e,h0⟩|⟨g,c,cur,e,_,hb,_,_,_,KP⟩⟩:=h
 ·exact⟨none,0,by rw[e,h0],fun k y hk=>by rw[AU.1 h0]at hk;simp at hk⟩
 ·refine⟨_,c,e,fun k y hk=>⟨g,rfl,fun j hj=> ?_⟩⟩;have h1:=FK (f:=O_) (m:=7) (fun _=>rfl) L k y j hk hj;rw[aap y hj,←KP,AP]at h1;split at h1
  ·simp only[World.cell?,hb];rw[←BP];simpa using h1
  ·cases h1
structure Oc where
 fl:Nat
 up:Nat→Bool
 pn:Nat→Int
 pe:Nat→Int
 bs:Nat→Nat→Bt
 sv:List Jw
 td:List Tl
 cs:Int
structure iJ where
 R:Nat
 c:Nat
 F:Nat→Value
 Y:Nat→Nat
 C:Nat→Nat
 A:Nat→Nat→Option Addr
 K:Nat→Nat→Nat
 sa:Option Addr
 sc:Nat
 ta:Option Addr
 tc:Nat
def ocV(o:Oc)(t:iJ):Value:=vF (A_ (iV (o.fl:Int)) (wC o.up 5) o.pn o.pe (.slice (some ⟨t.R,0,none⟩) 5 t.c) (.slice t.sa o.sv.length t.sc) (.slice t.ta o.td.length t.tc) (iV o.cs)) 18
structure jQ(w:tA)(o:Oc)(t:iJ):Prop where
 c5:5≤t.c
 f:∀q,q<5→t.F q= .slice (some ⟨t.Y q,0,none⟩) 4 (t.C q)∧4≤t.C q
 r:aY w t.R 50 (t.c*1) t.F
 b:∀q,q<5→ly w (t.Y q) 4 (o.bs q) (t.A q) (t.K q)
 s:y_ w t.sa o.sv
 t:YL w t.ta o.td
noncomputable def ocS(ns:Nat→Nd)(s:Ws):Oc:=⟨s.fl.length,fun i=>(ns i).up,s.pn,s.pe,fun i=>TP (ns i),s.sv,s.td,s.cs⟩
section
variable{w w':tA}{X i:Nat}{us:Nat→Nv}{v v':Wv}{F F' U:tF}
theorem PR(h:CW w X us v F)(hi:i<5)(gI:bV (fun b=>CU us v F b∨U b) w fun w=>∀i,i<5→(us i).In w (v.nd i))(hUn:¬U (v.nd i))(hdn:(us i).ub=false→∃Bs rs kk,CN (us i).pure Bs rs kk)(U':tF)(w1:tA)(hU1:∀b,U' b→b<w1.heap.size)(hU2:∀b,b<w.heap.size→U' b→U b)(hb:bZ w w1):cA 52 #[lp (v.nd i)] w1 fun x w'=>∃Y c A K,x= .returned (.slice (some ⟨Y,0,none⟩) 4 c)∧4≤c∧bV U' w' (fun w=>ly w Y 4 (TP (us i).pure) A K)∧bZ w1 w':=by
 have DW:=(h.next hb).nb i hi;have hNl:=(h.nb i hi).lt;have Gj:¬U' (v.nd i):=fun e=>hUn (hU2 _ hNl e);have Js:bV (fun b=>b=v.nd i∨U' b) w1 fun w=>(us i).In w (v.nd i):=fun w2 c2=>gI w2 ((dm.of hb).trans c2 fun b hl e=>e.elim (fun e=> .inl (.inr (.inl ⟨i,hi,e⟩))) fun e=> .inr (hU2 b hl e)) i hi;have ok:=h.ok i hi;rcases mw:(us i).ub with _|_
 ·have hx:∃x:(Nat→Bt)×List Rec×Nat,CN (us i).pure x.1 x.2.1 x.2.2:=by
   obtain⟨Bs,rs,kk,ht⟩:=hdn mw;exact⟨(Bs,rs,kk),ht⟩
  have e:TP (us i).pure=hx.choose.1:=by
   unfold TP;rw[if_neg (show ¬(us i).ub=true by rw[mw];simp),dif_pos hx]
  have ht:=hx.choose_spec;refine(Ej X (v.nd i) (us i) mw ok hx.choose.1 hx.choose.2.1 hx.choose.2.2 w1 DW U' hU1 Gj (fun w2 c2=>(Js w2 c2).row) ht.rd ht.wf ht.rl ht.reb).mono ?_;rintro x w' ⟨Y,c,A,K,rfl,hc,hs,b⟩;rw[e];exact⟨Y,c,A,K,rfl,hc,hs.mono fun _ _ h=> .inr h,b⟩
 ·have e:TP (us i).pure=fun q=>((us i).m q).B:=by
   unfold TP;rw[if_pos (show(us i).ub=true from mw)]
  unfold NB lU at DW;rw[mw]at DW;refine(OZ X (v.nd i) (us i).i (us i).da (us i).dl.length (us i).dc (us i).sy (fun p=>je ((us i).m p)) (us i).hn (us i).he (us i).wt (us i).af (us i).tu (us i).ct (us i).sk (fun q=>((us i).m q).B) (fun q=>((us i).m q).a) (fun q=>((us i).m q).c) (fun q=>((us i).m q).g) (fun q hq=>rfl) (fun q hq=>aag (Js.now.mo q hq).one) (fun q hq=>by have:=(ok.ok q hq).len;omega) w1 DW U' hU1 Gj (fun w2 c2 q hq=>((Js w2 c2).mo q hq).b)).mono ?_;rintro x w' ⟨Y,c,A,K,rfl,hc,hs,b⟩;rw[e];exact⟨Y,c,A,K,rfl,hc,hs.mono fun _ _ h=> .inr h,b⟩
theorem K0(h:CW w X us v F)(hU:∀b,U b→b<w.heap.size)(gI:bV (fun b=>CU us v F b∨U b) w fun w=>∀i,i<5→(us i).In w (v.nd i))(hUc:∀b,U b→¬CU us v F b)(hdn:∀i,i<5→(us i).ub=false→∃Bs rs kk,CN (us i).pure Bs rs kk):cA 31 #[lp X] w fun x w'=>∃t,x= .returned (ocV (ocS (fun i=>(us i).pure) v.pure) t)∧bV U w' (fun w=>jQ w (ocS (fun i=>(us i).pure) v.pure) t)∧bZ w w':=by
 obtain⟨fl,sv,td,fb,o1,o2,o3,hF⟩:=h.wo.ex;obtain⟨fa,fc,rfl,_⟩:=KS o1;obtain⟨sa,sc,rfl,_⟩:=FL o2;obtain⟨ta,tc,rfl,_⟩:=TQ o3;have hUn:∀i,i<5→¬U (v.nd i):=fun i hi e=>hUc _ e (.inr (.inl ⟨i,hi,rfl⟩));have CQ:F X:=(hF X).2 (.inl rfl);have hX:bV U w fun w=>(aY w X 114 19 (lx v.nd v.pn v.pe [.slice fa v.fl.length fc,v.tk,v.dd,iV v.cs,.slice sa v.sv.length sc,.slice ta v.td.length tc])∧∀q,q<5→w.cell? ⟨v.nd q,2,none⟩=some (.bool ((us q).ub))):=fun w2 c2=>by
  refine⟨?_,fun q hq=> ?_⟩
  ·unfold aY;rw[c2.block X (h.wo.lt X CQ) fun e=>hUc _ e (.inl CQ)];exact fb
  ·rw[c2.cell (h.nb q hq).lt (hUn q hq)];exact(h.nb q hq).at 2 (cK rfl)
 refine(Iy X v.nd v.pn v.pe fa v.fl.length fc v.tk v.dd v.cs sa v.sv.length sc ta v.td.length tc (fun q=>(us q).ub) (fun i=>TP (us i).pure) w U hU hX (fun k hk U' w1 h1 h2 h3=>PR h hk gI (hUn k hk) (hdn k hk) U' w1 h1 h2 h3)).mono ?_;rintro x w' ⟨R,c,G,Y,C,A,K,rfl,hc,hG,hs,b⟩;refine⟨⟨R,c,G,Y,C,A,K,sa,sc,ta,tc⟩, ?_,fun w2 c2=> ?_,b⟩
 ·show _=Ending.returned (vF (A_ (iV ((v.fl.map Lr.l).length:Int)) _ _ _ _ _ _ _) 18);rw[AX];rfl
 ·have h2:=hs w2 c2;have c3:dm U w w2:=(dm.of b).trans c2 fun _ _ h=>h;have p2:=aI o2 (w':=w2) fun g hg hl=>c3.block g hl fun e=>hUc _ e (.inl ((hF g).2 (.inr (.inr (.inl hg)))));have p3:=aI o3 (w':=w2) fun g hg hl=>c3.block g hl fun e=>hUc _ e (.inl ((hF g).2 (.inr (.inr (.inr hg)))));obtain⟨a2,d2,e2,r2⟩:=FL p2;obtain⟨a3,d3,e3,r3⟩:=TQ p3;cases e2;cases e3;exact⟨hc,hG,h2.2,h2.1.2,r2,r3⟩
end
namespace Lq
theorem FR{P:tF}(h0:P 0)(h1:P 1)(h2:P 2)(h3:P 3)(h4:P 4)(h5:P 5)(h6:P 6)(h7:P 7)(h8:P 8)(h9:P 9)(v_:P 10):∀i,i<11→P i
 |0,_=>h0
 |1,_=>h1
 |2,_=>h2
 |3,_=>h3
 |4,_=>h4
 |5,_=>h5
 |6,_=>h6
 |7,_=>h7
 |8,_=>h8
 |9,_=>h9
 |10,_=>v_
 |n+11,h=>absurd h (by omega)
abbrev TR(f:tH):Array Value:= #[iV (f 0),iV (f 1),iV (f 2),iV (f 3),iV (f 4),iV (f 5),iV (f 6),iV (f 7),iV (f 8),iV (f 9),iV (f 10)]
abbrev C1(f:tH):Value:= .agg (TR f)
def PT(f:tH)(o:Nat)(x:Int):Nat→Int:=fun i=>if i=o then x else f i
def ib(w:tA)(R:Nat)(f:tH):Prop:=w.heap[R]? =some (.cells (TR f) 57 (0,0))
section
variable{w w':tA}{R:Nat}{f:tH}
theorem ib.cell(h:ib w R f):∀i,i<11→w.cell? ⟨R,i,none⟩=some (iV (f i)):=by
 unfold ib at h;refine FR ?_ ?_ ?_ ?_ ?_ ?_ ?_ ?_ ?_ ?_ ?_<;>simp[World.cell?,h]
theorem ib.lt(h:ib w R f):R<w.heap.size:=bQ h
theorem ib.below{N:Nat}(h:ib w R f)(hb:Below N w w')(hR:R<N):ib w' R f:=by
 unfold ib at h⊢;rw[←h];exact hb.block R hR
theorem ib.next(h:ib w R f)(hb:bZ w w'):ib w' R f:=h.below hb h.lt
end
def gF(k o:Int):List Nat:=
 if k=1∨k=10 then[2,1]else if k=3∨k=9 then[1]else if k=8 then[1,4]else if k=4∨k=5∨k=6 then[3]
 else if k=2 then(if o=1 then[1,2,6,7,8]else if o=3 then[1,2,9,10]else[1,2])else[]
theorem ss(k o:Int):gF k o=[2,1]∨gF k o=[1]∨gF k o=[1,4]∨gF k o=[3]∨gF k o=[1,2,6,7,8]∨gF k o=[1,2,9,10]∨gF k o=[1,2]∨gF k o=[]:=by
 unfold gF
 repeat' split
 all_goals simp
theorem Xr(k o:Int):∀x∈gF k o,x<11:=by
 rcases ss k o with h|h|h|h|h|h|h|h<;>rw[h]<;>simp
theorem K1(k o:Int):(gF k o).Nodup:=by
 rcases ss k o with h|h|h|h|h|h|h|h<;>rw[h]<;>simp
theorem TS(k o:Int):(gF k o).length≤5:=by
 rcases ss k o with h|h|h|h|h|h|h|h<;>rw[h]<;>simp
theorem K3{k o o':Int}(h:¬k=2):gF k o=gF k o':=by
 unfold gF;simp[h]
def gD(k o:Int):Nat:=
 if k=1 then 0 else if k=10 then 1 else if k=3 then 2 else if k=9 then 3 else if k=8 then 4 else if k=4 then 5 else if k=5 then 6 else if k=6 then 7 else if k=7 then 8
 else if k=2 then(if o=1 then 9 else if o=2 then 10 else if o=3 then 11 else 12)else 12
def iS:Nat→ByteArray
 |0=>⟨#[109,97,107,101]⟩
 |1=>⟨#[109,111,118,101]⟩
 |2=>⟨#[115,116,101,112]⟩
 |3=>⟨#[115,116,97,114,116]⟩
 |4=>⟨#[99,114,97,115,104]⟩
 |5=>⟨#[99,97,114,114,121]⟩
 |6=>⟨#[108,111,115,101]⟩
 |7=>⟨#[100,111,117,98,108,101]⟩
 |8=>⟨#[97,108,108]⟩
 |9=>⟨#[112,117,98,108,105,115,104]⟩
 |10=>⟨#[114,101,99,101,105,118,101]⟩
 |11=>⟨#[97,99,107]⟩
 |_=>⟨#[]⟩
def iK:Nat→Int
 |0=>1
 |1=>10
 |2=>3
 |3=>9
 |4=>8
 |5=>4
 |6=>5
 |7=>6
 |8=>7
 |9=>2
 |10=>2
 |11=>2
 |_=>0
def su:Nat→Int
 |9=>1
 |10=>2
 |11=>3
 |_=>0
theorem xa{P:tF}(h0:P 0)(h1:P 1)(h2:P 2)(h3:P 3)(h4:P 4)(h5:P 5)(h6:P 6)(h7:P 7)(h8:P 8)(h9:P 9)(v_:P 10)(PU:P 11):∀i,i<12→P i
 |11,_=>PU
 |i,h=>by
  by_cases e:i=11
  ·subst e;exact PU
  ·exact FR h0 h1 h2 h3 h4 h5 h6 h7 h8 h9 v_ i (by omega)
theorem vj(k o:Int):(k=1∧gD k o=0)∨(k=10∧gD k o=1)∨(k=3∧gD k o=2)∨(k=9∧gD k o=3)∨(k=8∧gD k o=4)∨(k=4∧gD k o=5)∨(k=5∧gD k o=6)∨(k=6∧gD k o=7)∨(k=7∧gD k o=8)∨(k=2∧o=1∧gD k o=9)∨(k=2∧o=2∧gD k o=10)∨(k=2∧o=3∧gD k o=11)∨(gD k o=12∧¬k=1∧¬k=10∧¬k=3∧¬k=9∧¬k=8∧¬k=4∧¬k=5∧¬k=6∧¬k=7∧¬(k=2∧o=1)∧¬(k=2∧o=2)∧¬(k=2∧o=3)):=by
 by_cases h0:k=1
 ·refine .inl ⟨h0, ?_⟩;unfold gD;rw[if_pos h0]
 by_cases h1:k=10
 ·refine .inr (.inl ⟨h1, ?_⟩);unfold gD;rw[if_neg h0,if_pos h1]
 by_cases h2:k=3
 ·refine .inr (.inr (.inl ⟨h2, ?_⟩));unfold gD;rw[if_neg h0,if_neg h1,if_pos h2]
 by_cases h3:k=9
 ·refine .inr (.inr (.inr (.inl ⟨h3, ?_⟩)));unfold gD;rw[if_neg h0,if_neg h1,if_neg h2,if_pos h3]
 by_cases h4:k=8
 ·refine .inr (.inr (.inr (.inr (.inl ⟨h4, ?_⟩))));unfold gD;rw[if_neg h0,if_neg h1,if_neg h2,if_neg h3,if_pos h4]
 by_cases h5:k=4
 ·refine .inr (.inr (.inr (.inr (.inr (.inl ⟨h5, ?_⟩)))));unfold gD;rw[if_neg h0,if_neg h1,if_neg h2,if_neg h3,if_neg h4,if_pos h5]
 by_cases h6:k=5
 ·refine .inr (.inr (.inr (.inr (.inr (.inr (.inl ⟨h6, ?_⟩))))));unfold gD;rw[if_neg h0,if_neg h1,if_neg h2,if_neg h3,if_neg h4,if_neg h5,if_pos h6]
 by_cases h7:k=6
 ·refine .inr (.inr (.inr (.inr (.inr (.inr (.inr (.inl ⟨h7, ?_⟩)))))));unfold gD;rw[if_neg h0,if_neg h1,if_neg h2,if_neg h3,if_neg h4,if_neg h5,if_neg h6,if_pos h7]
 by_cases h8:k=7
 ·refine .inr (.inr (.inr (.inr (.inr (.inr (.inr (.inr (.inl ⟨h8, ?_⟩))))))));unfold gD;rw[if_neg h0,if_neg h1,if_neg h2,if_neg h3,if_neg h4,if_neg h5,if_neg h6,if_neg h7,if_pos h8]
 by_cases h9:k=2∧o=1
 ·refine .inr (.inr (.inr (.inr (.inr (.inr (.inr (.inr (.inr (.inl ⟨h9.1,h9.2, ?_⟩)))))))));unfold gD;rw[if_neg h0,if_neg h1,if_neg h2,if_neg h3,if_neg h4,if_neg h5,if_neg h6,if_neg h7,if_neg h8,if_pos h9.1,if_pos h9.2]
 by_cases v_:k=2∧o=2
 ·refine .inr (.inr (.inr (.inr (.inr (.inr (.inr (.inr (.inr (.inr (.inl ⟨v_.1,v_.2, ?_⟩))))))))));unfold gD;rw[if_neg h0,if_neg h1,if_neg h2,if_neg h3,if_neg h4,if_neg h5,if_neg h6,if_neg h7,if_neg h8,if_pos v_.1,if_neg (fun e=>h9 ⟨v_.1,e⟩),if_pos v_.2]
 by_cases PU:k=2∧o=3
 ·refine .inr (.inr (.inr (.inr (.inr (.inr (.inr (.inr (.inr (.inr (.inr (.inl ⟨PU.1,PU.2, ?_⟩)))))))))));unfold gD;rw[if_neg h0,if_neg h1,if_neg h2,if_neg h3,if_neg h4,if_neg h5,if_neg h6,if_neg h7,if_neg h8,if_pos PU.1,if_neg (fun e=>h9 ⟨PU.1,e⟩),if_neg (fun e=>v_ ⟨PU.1,e⟩),if_pos PU.2]
 refine .inr (.inr (.inr (.inr (.inr (.inr (.inr (.inr (.inr (.inr (.inr (.inr ⟨?_,h0,h1,h2,h3,h4,h5,h6,h7,h8,h9,v_,PU⟩)))))))))));unfold gD;rw[if_neg h0,if_neg h1,if_neg h2,if_neg h3,if_neg h4,if_neg h5,if_neg h6,if_neg h7,if_neg h8];by_cases hk:k=2
 ·rw[if_pos hk,if_neg (fun e=>h9 ⟨hk,e⟩),if_neg (fun e=>v_ ⟨hk,e⟩),if_neg (fun e=>PU ⟨hk,e⟩)]
 ·rw[if_neg hk]
def uj(i:Nat)(k o:Int):Bool:=iK i==k&&(su i==o||iK i !=2)
theorem K4(k o:Int):∀i,i<12→(∀j,j<i→uj j k o=false)→uj i k o=true→gD k o=i:=by
 intro i hi hj hf;clear hj;revert hf;revert i;refine xa ?_ ?_ ?_ ?_ ?_ ?_ ?_ ?_ ?_ ?_ ?_ ?_<;>
 ·intro hf;simp only[uj,iK,su,Bool.and_eq_true,beq_iff_eq,Bool.or_eq_true,bne_iff_ne,ne_eq]at hf;have:=vj k o
  first
   |omega
   |(simp at hf;omega)
theorem PV(k o:Int)(h:∀j,j<12→uj j k o=false):gD k o=12:=by
 have g:∀j,j<12→¬(iK j=k∧(su j=o∨¬iK j=2)):=fun j hj e=>by
  have:=h j hj;unfold uj at this;obtain⟨e1,e2⟩:=e;rcases e2 with e2|e2<;>simp[e1,e2]at this
  exact e2 (e1.trans this.2)
 have h0:=g 0 (by omega);have h1:=g 1 (by omega);have h2:=g 2 (by omega);have h3:=g 3 (by omega);have h4:=g 4 (by omega);have h5:=g 5 (by omega);have h6:=g 6 (by omega);have h7:=g 7 (by omega);have h8:=g 8 (by omega);have h9:=g 9 (by omega);have v_:=g 10 (by omega);have PU:=g 11 (by omega);simp only[iK,su]at h0 h1 h2 h3 h4 h5 h6 h7 h8 h9 v_ PU;rcases vj k o with h|h|h|h|h|h|h|h|h|h|h|h|h
 all_goals first
  |exact h.1
  |(exfalso;omega)
theorem Xt(k o:Int)(h:gD k o<12):iK (gD k o)=k∧(k=2→su (gD k o)=o)∧(¬k=2→su (gD k o)=0):=by
 rcases vj k o with g|g|g|g|g|g|g|g|g|g|g|g|g
 all_goals first
  |(obtain⟨rfl,g⟩:=g;rw[g];exact⟨rfl,fun e=>absurd e (by decide),fun _=>rfl⟩)
  |(obtain⟨rfl,rfl,g⟩:=g;rw[g];exact⟨rfl,fun _=>rfl,fun e=>absurd rfl e⟩)
  |omega
def jr(i:Nat):Nat→Int:=fun j=>if j=0 then iK i else if j=5 then su i else 0
def over(os:tW)(g f:tH):Nat→Int:=fun i=>if i∈os then f i else g i
def less(os:tW)(f:tH):Nat→Int:=fun i=>if i∈os then 0 else f i
abbrev ptr(B o:Nat):Value:= .pointer (some ⟨B,o,none⟩)
def rF(n m:Int):Bool:=decide (0≤n∧n≤m)
theorem I4(n m:Int)(w:tA):cA 108 #[iV n,iV m] w fun e w'=>e= .returned (.bool (rF n m))∧w'=w:=by
 by_cases h:0≤n
 ·by_cases h1:n≤m
  ·rw[show rF n m=true from Aq ⟨h,h1⟩];go_enter Tryz.func108,Tryz.ntmps108;go_wp2;go_ret;exact⟨rfl,rfl⟩
  ·rw[show rF n m=false from Ai fun g=>h1 g.2];go_enter Tryz.func108,Tryz.ntmps108;go_wp2;go_ret;exact⟨rfl,rfl⟩
 ·rw[show rF n m=false from Ai fun g=>h g.1];go_enter Tryz.func108,Tryz.ntmps108;go_wp2;go_ret;exact⟨rfl,rfl⟩
abbrev wE(w:tA)(base:Nat)(v:tK)(B:Nat)(os:tW):Prop:=w.ownsRow base 195 1 v os.length (os.map (ptr B))
end Lq
namespace Lq
open Rv
theorem TT:jv Tryz.prog 192 195 1 8=true:=by kernel_rfl
theorem TU{w:tA}{B:Nat}{f:tH}(hb:ib w B f):Mem w (hs []) (fun _=>False) (fun w=>ib w B f) (fun w'=>bZ w w'):=Mem.start (fun _ h=>h.elim) (fun w' c=>hb.next (c.below (Aa _) fun _ _ h=>h)) fun _ h=>h
theorem C8{w w0:tA}{H:List En}{M:tF}{Φ:tJ}{B a:Nat}{v:tK}{en:En}(os:tW)(k:Nat)(hS:Mem w (hs H) M Φ fun w'=>bZ w0 w')(he:nth H k=some en:=by rfl)(ht:en.t=195:=by rfl)(hs:fj en.l=os.length:=by rfl)(hl:cm (cD en.l) 0 os.length=os.map (ptr B):=by rfl)(hm:os.length≤maxLen:=by exact cK rfl)(hv:v= .slice (some ⟨a,0,none⟩) os.length os.length:=by rfl)(ha:en.a=a:=by rfl):wE w w0.heap.size v B os:=by
 subst hv ha;have fb:=rQ hS k he;have X8:=he;rw[eY]at X8;have hb:=hS.jC k (e:=en.ik) (by rw[Ar,X8];rfl);rw[hs,ht,←BC os.length]at fb;have:=LM fb hb (Aa _) hm;rw[BC,hl]at this;exact this
def K5(n:Nat):Option (Nat×Nat)→Value
 |none=> .slice none 0 0
 |some (g,c)=> .slice (some ⟨g,0,none⟩) n c
def pj(o:Int):List Nat:=if o=1 then[6,7,8]else if o=3 then[9,10]else[]
abbrev OpY(o:Int)(y:Option (Nat×Nat)):Prop:=(y=none→pj o=[])∧(¬y=none→0<(pj o).length)
theorem wF(B:Nat)(f:tH)(w:tA)(hb:ib w B f):cA 162 #[ptr B 5] w fun e w'=>∃y,e= .returned (K5 (pj (f 5)).length y)∧OpY (f 5) y∧wE w' w.heap.size (K5 (pj (f 5)).length y) B (pj (f 5))∧bZ w w':=by
 refine en (H:=[]) 30 [vv (ptr B 5)] Tryz.func162 rfl rfl (TU hb) (r [] rfl fun _=>l1 rfl (iV (f 5)) (fun w hS=>hS.now.1.cell 5 (cK rfl)) ?_);unfold OpY pj;by_cases h1:f 5=1
 ·rw[if_pos h1];exact r [1,3] rfl fun _=>fin fun w hS=>⟨some (_,3),rfl,⟨fun h=>(by cases h),fun _=>cK rfl⟩,C8 [6,7,8] 0 hS,hS.now.2⟩
 rw[if_neg h1];by_cases h3:f 5=3
 ·rw[if_pos h3];exact r [0,1,3] rfl fun _=>fin fun w hS=>⟨some (_,2),rfl,⟨fun h=>(by cases h),fun _=>cK rfl⟩,C8 [9,10] 0 hS,hS.now.2⟩
 rw[if_neg h3];exact r [0,0] rfl fun _=>fin fun w hS=>⟨none,rfl,⟨fun _=>rfl,fun h=>absurd rfl h⟩,Bn _ _ _ _,hS.now.2⟩
theorem jo(B:Nat)(f:tH)(w:tA)(hb:ib w B f):
  cA 107 #[ptr B 0] w fun e w'=>∃v,e= .returned v∧wE w' w.heap.size v B (gF (f 0) (f 5))∧bZ w w':=by
 refine en (H:=[]) 55 [vv (ptr B 0)] Tryz.func107 rfl rfl (TU hb) (r [] rfl fun _=>l1 rfl (iV (f 0)) (fun w hS=>hS.now.1.cell 0 (cK rfl)) ?_);unfold gF;by_cases h1:f 0=1
 ·rw[if_pos (.inl h1)];exact r [1,3] rfl fun _=>fin fun w hS=>⟨_,rfl,C8 [2,1] 0 hS,hS.now.2⟩
 by_cases v_:f 0=10
 ·rw[if_pos (.inr v_)];exact r [0,1,3] rfl fun _=>fin fun w hS=>⟨_,rfl,C8 [2,1] 0 hS,hS.now.2⟩
 rw[if_neg (by omega)];by_cases h3:f 0=3
 ·rw[if_pos (.inl h3)];exact r [0,0,1] rfl fun _=>fin fun w hS=>⟨_,rfl,C8 [1] 0 hS,hS.now.2⟩
 by_cases h9:f 0=9
 ·rw[if_pos (.inr h9)];exact r [0,0,0,1] rfl fun _=>fin fun w hS=>⟨_,rfl,C8 [1] 0 hS,hS.now.2⟩
 rw[if_neg (by omega)];by_cases h8:f 0=8
 ·rw[if_pos h8];exact r [0,0,0,0,1,3] rfl fun _=>fin fun w hS=>⟨_,rfl,C8 [1,4] 0 hS,hS.now.2⟩
 rw[if_neg h8];by_cases h4:f 0=4
 ·rw[if_pos (.inl h4)];exact r [0,0,0,0,0,1] rfl fun _=>fin fun w hS=>⟨_,rfl,C8 [3] 0 hS,hS.now.2⟩
 by_cases h5:f 0=5
 ·rw[if_pos (.inr (.inl h5))];exact r [0,0,0,0,0,0,1] rfl fun _=>fin fun w hS=>⟨_,rfl,C8 [3] 0 hS,hS.now.2⟩
 by_cases h6:f 0=6
 ·rw[if_pos (.inr (.inr h6))];exact r [0,0,0,0,0,0,0,1] rfl fun _=>fin fun w hS=>⟨_,rfl,C8 [3] 0 hS,hS.now.2⟩
 rw[if_neg (by omega)];by_cases h2:f 0=2
 case neg=>
  rw[if_neg h2];exact r [0,0,0,0,0,0,0,0,0] rfl fun _=>fin fun w hS=>⟨_,rfl,Bn _ _ _ _,hS.now.2⟩
 rw[if_pos h2]
 have hcx:∀w1,bZ w w1→ib w1 B f→cA 162 #[ptr B 5] w1 fun e w'=>∃y,e= .returned (K5 (pj (f 5)).length y)∧bZ w1 w'∧OpY (f 5) y∧(∀U:Nat→Prop,(∀b,U b→b<w1.heap.size)→bV U w' fun w2=>wE w2 w.heap.size (K5 (pj (f 5)).length y) B (pj (f 5))):=fun w1 b hb=>(wF B f w1 hb).mono fun _ w' ⟨y,h1,hy,h2,h3⟩=>⟨y,h1,h3,hy,fun U hU w2 c=>by
  have hv:∀g,(K5 (pj (f 5)).length y).ownBlock=some g→w1.heap.size≤g:=fun g hg=>by
   rcases h2.2 with⟨e,_⟩|⟨g',_,_,e,h,_⟩
   ·rw[e]at hg;cases hg
   ·rw[e]at hg;cases hg;exact h
  have h4:=jD h2 fun g hg aM=>c.block g aM fun hu=>absurd (hU g hu) (AY.2 (hv g hg))
  exact⟨h4.1,h4.2.imp id fun⟨g,c,cu,e,h,k⟩=>⟨g,c,cu,e,AN b.size h,k⟩⟩⟩
 have e9:[1,2]++pj (f 5)=if f 5=1 then[1,2,6,7,8]else if f 5=3 then[1,2,9,10]else[1,2]:=by
  unfold pj;split
  ·rfl
  ·split<;>rfl
 rw[←e9];refine r [0,0,0,0,0,0,0,0,1,4] rfl fun _=> ?_
 repeat' first|refine ER ?_ ?_|(refine cx rfl (fun y=>vv (K5 (pj (f 5)).length y)) (OpY (f 5)) (fun y w2=>wE w2 w.heap.size (K5 (pj (f 5)).length y) B (pj (f 5))) ?_ fun y hy=> ?_;exact fun w1 hS=>(hcx w1 hS.now.2 hS.now.1).mono fun _ _ ⟨y,h1,h2,h3,h4⟩=>⟨y,h1,h2,h3,h4 _⟩)|refine rs [] rfl rfl fun _=> ?_
 all_goals
  refine ro (w0:=w) 0 1 2 2 (fun _ h=>h) ?_;rcases y with _|⟨g,c⟩
  ·refine ap0 rfl rfl rfl TT (fun w2 hS=>hS.now.2.2) (r [] rfl fun _=>fin fun w2 hS=>⟨_,rfl, ?_,hS.now.2.1⟩);rw[hy.1 rfl];exact hS.now.2.2
  ·refine apr (m:=(pj (f 5)).length) (mc:=c) (ad:=⟨g,0,none⟩) (news:=(pj (f 5)).map (ptr B)) rfl rfl rfl TT (by rw[AX,BC]) (fun w2 hS j u hu=>oF hS.now.1.2 hu) (fun u hu=> ?_) (hy.2 (by simp)) ?_ ?_ (fun w2 hS=>hS.now.2.1.size) (fun _ _ h c=>cV h c (Nat.le_refl _)) (fun g c hc=>r [] rfl fun _=>fin fun w2 hS=>⟨_,rfl, ?_,hS.now.2.1⟩)
   ·obtain⟨o,_,rfl⟩:=Ax.1 hu;rfl
   ·unfold pj maxLen;split
    ·exact cK rfl
    ·split<;>exact cK rfl
   ·unfold pj;split
    ·exact cK rfl
    ·split<;>exact cK rfl
   ·show wE _ _ _ B _;rw[wE,Ac,AB];exact hS.now.2.2
abbrev TV(i:Nat):Value:= .agg #[.string (iS i),iV (iK i),iV (su i)]
theorem kB(i:Nat)(w:tA):cA 64 #[TV i] w (rB (C1 (jr i)) w):=by
 exact en (H:=[]) _ [vg [.o (.string (iS i)),.o (iV (iK i)),.o (iV (su i))]] Tryz.func64 rfl rfl (m0 w) (r [] rfl fun _=>fin fun w hS=>⟨rfl,hS.now.2⟩)
abbrev aF(f:tH):Nat→Value:=fun i=>iV (f i)
theorem kH{n m:Int}{b:Bool}(h:rF n m=b)(w:tA):cA 108 #[iV n,iV m] w (rB (.bool b) w):=(I4 n m w).mono fun _ _ ⟨h1,e⟩=>⟨by rw[h1,h],by rw[e];exact Be _ _⟩
def kS(f:tH):Bool:=rF (f 1) 4&&(rF (f 2) 3&&(rF (f 4) 100000&&(rF (f 3) 1048576&&(f 0 !=2||aP (f 5) (f 6) (f 7) (f 8) (f 9) (f 10)==0))))
theorem FT(f:tH)(w:tA):cA 65 #[C1 f] w (rB (.bool (kS f)) w):=by
 refine en (H:=[]) _ [vf 11 (aF f)] Tryz.func65 rfl rfl (m0 w) (r [] rfl fun _=> ?_);unfold kS;cases h1:rF (f 1) 4
 ·exact Rv.cb rfl (vv (.bool false)) (fun w _=>kH h1 w) (r [] rfl fun _=>fin fun w hS=>⟨rfl,hS.now.2⟩)
 refine Rv.cb rfl (vv (.bool true)) (fun w _=>kH h1 w) (r [] rfl fun _=> ?_);cases h2:rF (f 2) 3
 ·exact Rv.cb rfl (vv (.bool false)) (fun w _=>kH h2 w) (r [] rfl fun _=>fin fun w hS=>⟨rfl,hS.now.2⟩)
 refine Rv.cb rfl (vv (.bool true)) (fun w _=>kH h2 w) (r [] rfl fun _=> ?_);cases h3:rF (f 4) 100000
 ·exact Rv.cb rfl (vv (.bool false)) (fun w _=>kH h3 w) (r [] rfl fun _=>fin fun w hS=>⟨rfl,hS.now.2⟩)
 refine Rv.cb rfl (vv (.bool true)) (fun w _=>kH h3 w) (r [] rfl fun _=> ?_);cases h4:rF (f 3) 1048576
 ·exact Rv.cb rfl (vv (.bool false)) (fun w _=>kH h4 w) (r [] rfl fun _=>fin fun w hS=>⟨rfl,hS.now.2⟩)
 refine Rv.cb rfl (vv (.bool true)) (fun w _=>kH h4 w) ?_;by_cases h5:f 0=2
 case neg=>exact r [1] rfl fun _=>fin fun w hS=>⟨by rw[(by simpa using h5:(f 0 !=2)=true)];rfl,hS.now.2⟩
 refine r [0] rfl fun _=>Rv.cb rfl (vi (aP (f 5) (f 6) (f 7) (f 8) (f 9) (f 10))) (fun w _=>nm _ _ _ _ _ _ w) ?_;by_cases h6:aP (f 5) (f 6) (f 7) (f 8) (f 9) (f 10)=0
 ·exact r [1] rfl fun _=>fin fun w hS=>⟨by simp[h5,h6];rfl,hS.now.2⟩
 ·exact r [0] rfl fun _=>fin fun w hS=>⟨by simp only[h5];rw[(by simpa using h6:(aP (f 5) (f 6) (f 7) (f 8) (f 9) (f 10)==0)=false)];rfl,hS.now.2⟩
def qj:List Value:=[.string (iS 0),iV (iK 0),iV (su 0),.string (iS 1),iV (iK 1),iV (su 1),.string (iS 2),iV (iK 2),iV (su 2),.string (iS 3),iV (iK 3),iV (su 3),.string (iS 4),iV (iK 4),iV (su 4),.string (iS 5),iV (iK 5),iV (su 5),
 .string (iS 6),iV (iK 6),iV (su 6),.string (iS 7),iV (iK 7),iV (su 7),.string (iS 8),iV (iK 8),iV (su 8),.string (iS 9),iV (iK 9),iV (su 9),.string (iS 10),iV (iK 10),iV (su 10),.string (iS 11),iV (iK 11),iV (su 11)]
theorem PW:qj.length=36:=rfl
def eV(w:tA):Prop:=∃e fz,w.heap[0]? =some (.cells qj.toArray e fz)
theorem eV.lt{w:tA}(h:eV w):0<w.heap.size:=by obtain⟨e,fz,h⟩:=h;exact bQ h
theorem eV.next{w w':tA}(h:eV w)(b:bZ w w'):eV w':=by
 have hl:=h.lt;obtain⟨e,fz,h⟩:=h;exact⟨e,fz,(b.block 0 hl).trans h⟩
theorem wG:∀k:Nat,k<12→∀w:World,(Instr.index 191 (.agg qj.toArray) (iV k)).run Tryz.prog w= .ok (TV k) w:=by
 intro k hk w;revert k;refine xa ?_ ?_ ?_ ?_ ?_ ?_ ?_ ?_ ?_ ?_ ?_ ?_<;>(simp[Instr.index,run_underlying Tryz.underlying191,asIntOf,go_sem,qj])
theorem K6(f:tH)(w:tA)(hK:eV w):cA 62 #[C1 f] w (rB (.tuple #[TV (gD (f 0) (f 5)),.bool (decide (gD (f 0) (f 5)<12))]) w):=by
 refine en (H:=[]) _ [vf 11 (aF f)] Tryz.func62 rfl rfl (m0 w) (r [] rfl fun α=>lf rfl 36 (fun i=>qj.getD i undef) (fun w hS j hj=> ?_) (r [] rfl fun _=> ?_))
 ·obtain⟨e,fz,h⟩:=hK.next hS.now.2;have hl:qj.length=36:=rfl;rw[Ae];simp only[World.cell?,h,List.getElem?_toArray];rw[Ah,Ag (hl▸hj)];rfl
 refine iC (X:=Nat) ⟨fun k=>[(1,vp 0 0 (α 0)),(2,vp 1 0 (α 1)),(6,vf 36 fun i=>qj.getD i undef),(7,vi (k:Int))],fun _=>[⟨α 0,57,[.f 11 (aF f)]⟩,⟨α 1,151,[.o (.string ⟨#[]⟩),.o (iV 0),.o (iV 0)]⟩],fun _ _=>False,fun _ _=>True,fun _ w'=>bZ w w',fun k=>k≤12∧∀j,j<k→uj j (f 0) (f 5)=false,fun k=>12-k⟩ 0 ⟨rfl,rfl,rfl,rfl,trivial⟩ (fun _ hS=>hS) ⟨Ak _,fun j hj=>absurd hj (AH j)⟩ ?_;rintro f' k ⟨hk,hi⟩;have hk:k≤12:=hk;by_cases aM:k<12
 case neg=>
  obtain rfl:k=12:=by omega
  exact r [0] rfl fun _=>fin fun w hS=>⟨by rw[PV _ _ hi];rfl,hS.now.2⟩
 have yes:uj k (f 0) (f 5)=true→Value.tuple #[TV k,.bool true]= .tuple #[TV (gD (f 0) (f 5)),.bool (decide (gD (f 0) (f 5)<12))]:=fun h=>by rw[K4 _ _ k aM hi h,Aq aM]
 have hd:uj k (f 0) (f 5)=(iK k==f 0&&(su k==f 5||iK k !=2)):=rfl;refine r [1] rfl fun _=>ix (vg [.o (.string (iS k)),.o (iV (iK k)),.o (iV (su k))]) rfl rfl (wG k aM) (r [] rfl fun _=> ?_);have next:=fun(h:uj k (f 0) (f 5)=false)=>upto hi h;by_cases g1:iK k=f 0
 case neg=>exact rz [0,1] [((k+1:Nat):Int)] rfl fun _=>b_ (k+1) ⟨rfl,rfl,rfl,rfl,trivial⟩ (fun w hS=>hS.take 2) ⟨aM,next (by rw[hd];simp[g1])⟩ (show 12-(k+1)<12-k by omega)
 by_cases g2:su k=f 5
 ·exact r [1,1] rfl fun _=>fin fun w hS=>⟨Au Ending.returned (yes (by rw[hd];simp[g1,g2])),hS.now.2⟩
 by_cases g3:iK k=2
 ·exact rz [1,0,0,1] [((k+1:Nat):Int)] rfl fun _=>b_ (k+1) ⟨rfl,rfl,rfl,rfl,trivial⟩ (fun w hS=>hS.take 2) ⟨aM,next (by rw[hd];simp[g2,g3])⟩ (show 12-(k+1)<12-k by omega)
 ·exact r [1,0,1] rfl fun _=>fin fun w hS=>⟨Au Ending.returned (yes (by rw[hd];simp[g1,g1▸g3])),hS.now.2⟩
theorem wE.at{w:tA}{base:Nat}{v:tK}{B:Nat}{os:tW}(h:wE w base v B os)(k:Nat)(hk:k<os.length):∃G c,v= .slice (some ⟨G,0,none⟩) os.length c∧base≤G∧G<w.heap.size∧w.cell? ⟨G,k,none⟩=some (ptr B os[k])∧os.length≤c:=by
 obtain⟨hl,h2⟩:=id h;rcases h2 with⟨_,h0⟩|⟨G,c,cur,rfl,hb,hg,hc,_,_,_⟩
 ·omega
 ·refine⟨G,c,rfl,hb,bQ hg, ?_,hc⟩;rw[h.cellAt k (by omega),Ar,Ag hk];rfl
theorem PX{os:tW}{g f:tH}{k:Nat}(hk:k<os.length):∀i,PT (over (os.take k) g f) os[k] (f os[k]) i=over (os.take (k+1)) g f i:=by
 intro i;have e:(i∈os.take (k+1))=(i∈os.take k∨i=os[k]):=by
  rw[show os.take (k+1)=os.take k++[os[k]] by rw[Cc,Ag hk];rfl];simp only[List.mem_append,List.mem_singleton]
 unfold PT over;simp only[e];by_cases g:i=os[k]
 ·subst g;simp
 ·simp[g]
theorem PY{os:tW}{f:tH}{k:Nat}(hk:k<os.length):∀i,PT (less (os.take k) f) os[k] 0 i=less (os.take (k+1)) f i:=by
 intro i;have e:(i∈os.take (k+1))=(i∈os.take k∨i=os[k]):=by
  rw[show os.take (k+1)=os.take k++[os[k]] by rw[Cc,Ag hk];rfl];simp only[List.mem_append,List.mem_singleton]
 unfold PT less;simp only[e];by_cases g:i=os[k]
 ·subst g;simp
 ·simp[g]
theorem Xu{os:tW}{f:tH}{k:Nat}(hn:os.Nodup)(hk:k<os.length):less (os.take k) f os[k]=f os[k]:=by
 unfold less;rw[if_neg];intro h;obtain⟨j,hj,e⟩:=List.mem_take_iff_getElem.1 h;have Rw:j<os.length:=by omega
 have:=(Bp.1 hn) j k Rw hk (by omega);exact this e
def PrY(w:tA)(a:tB)(B:Nat)(os:tW):Prop:=∀k (hk:k<os.length),∀G,a=some ⟨G,0,none⟩→w.cell? ⟨G,k,none⟩=some (ptr B os[k])
theorem TW{w w':tA}{U:tF}{v:tK}{x:Ending}{B:Nat}{os:tW}(h:wE w' w.heap.size v B os)(e:x= .returned v)(b:bZ w w'):∃y:Option Addr×Nat,x= .returned (.slice y.1 os.length y.2)∧bZ w w'∧(0<os.length→∃G,y.1=some ⟨G,0,none⟩)∧((∀b,U b→b<w.heap.size)→bV U w' fun w=>PrY w y.1 B os):=by
 obtain⟨a,c,rfl⟩:=lY h;refine⟨(a,c),e,b,fun h0=> ?_,fun hU w2 c2 k hk G eG=> ?_⟩
 ·obtain⟨G,c',e,_⟩:=wE.at h 0 h0;cases e;exact⟨G,rfl⟩
 ·obtain⟨G',c',e,hb,hl,hc,_⟩:=wE.at h k hk;cases e;cases eG;rw[←hc];simp only[World.cell?,c2.block G hl fun hu=>absurd (hU G hu) (Nat.not_lt.2 hb)]
theorem TX(f g:tH)(os:tW)(w:tA)(hf:gF (f 0) (f 5)=os)(hg:gF (g 0) (g 5)=os):
  cA 63 #[C1 f,C1 g] w (rB (.tuple #[C1 (over os g f),C1 (less os f)]) w):=by
 have hlen:os.length≤5:=by rw[←hf];exact TS _ _
 have hos:os.Nodup∧∀x∈os,x<11:=by rw[←hf];exact⟨K1 _ _,Xr _ _⟩
 have on:∀h:Nat→Int,aS (aF h) 11:=fun _ _ _=>rfl;have of:=on f;have og:=on g;obtain⟨h,eh⟩:∃h:Nat→Nat→Int,h=fun k=>over (os.take k) g f:=⟨_,rfl⟩;obtain⟨l,el⟩:∃l:Nat→Nat→Int,l=fun k=>less (os.take k) f:=⟨_,rfl⟩;have h0:h 0=g:=by rw[eh];funext i;simp[over]
 have l0:l 0=f:=by rw[el];funext i;simp[less]
 refine en (H:=[]) _ [vf 11 (aF f),vf 11 (aF g)] Tryz.func63 rfl rfl (m0 w) (r [5,2,2] rfl fun α=> ?_);refine cx rfl (fun y:Option Addr×Nat=>vv (.slice y.1 os.length y.2)) (fun y=>0<os.length→∃G,y.1=some ⟨G,0,none⟩) (fun y w=>PrY w y.1 (α 2) os) (fun w1 hS=>(jo (α 2) g w1 (hS.at 2 rfl)).mono fun _ _ ⟨_,e,p,b⟩=>TW (hg▸p) e b) ?_;rintro⟨a1,c1⟩ q1;refine r [] rfl fun _=>cx rfl (fun y:Option Addr×Nat=>vv (.slice y.1 os.length y.2)) (fun y=>0<os.length→∃G,y.1=some ⟨G,0,none⟩) (fun y w=>PrY w y.1 (α 3) os) (fun w1 hS=>(jo (α 3) f w1 (hS.at 3 rfl)).mono fun _ _ ⟨_,e,p,b⟩=>TW (hf▸p) e b) ?_;rintro⟨a2,c2⟩ q2;refine r [] rfl fun _=>gn 2 (aF (h 0)) (gn 3 (aF (l 0)) ?_ rfl (by rw[l0];rfl)) rfl (by rw[h0];rfl);refine EV (X:=Nat) (fun k=>[(4,vp 2 0 (α 2)),(5,vp 3 0 (α 3)),(6,vv (.slice a1 os.length c1)),(12,vv (.slice a2 os.length c2)),(13,vi (os.length:Int)),(14,vi (k:Int))]) (fun k=>[⟨α 0,57,[.f 11 (aF f)]⟩,⟨α 1,57,[.f 11 (aF g)]⟩,⟨α 2,57,[.f 11 (aF (h k))]⟩,⟨α 3,57,[.f 11 (aF (l k))]⟩]) (fun _ _=>False) (fun _ w'=>bZ w w') (fun k=>k≤os.length) (fun k=>os.length-k) 0 ⟨rfl,rfl,rfl,rfl,rfl,rfl,trivial⟩ (fun _ hS=>hS) (Ak _) ?_;rintro f' k hk;have hk:k≤os.length:=hk;have o1:=on (h k);have o2:=on (l k);by_cases aM:k<os.length
 case neg=>
  obtain rfl:k=os.length:=by omega
  exact r [0,5,2,2] rfl fun _=>fin fun w hS=>⟨by rw[show over os g f=h os.length by rw[eh];show _=over (os.take os.length) g f;rw[Bh],show less os f=l os.length by rw[el];show _=less (os.take os.length) f;rw[Bh]];rfl,hS.now.2⟩
 obtain⟨G1,rfl⟩:=q1 (by omega);obtain⟨G2,rfl⟩:=q2 (by omega);have hx:=hos.2 _ (Bu aM);have a1:∀i,ot (aF (h k)) os[k] (iV (f os[k])) i=aF (h (k+1)) i:=fun i=>by rw[eh];show _=iV (over (os.take (k+1)) g f i);rw[←PX aM i];unfold ot PT aF;split<;>rfl
 have a2:∀i,ot (aF (l k)) os[k] (iV 0) i=aF (l (k+1)) i:=fun i=>by rw[el];show _=iV (less (os.take (k+1)) f i);rw[←PY aM i];unfold ot PT aF;split<;>rfl
 have la:aF (l k) os[k]=iV (f os[k]):=by rw[el];exact Au (Value.int .i64) (Xu hos.1 aM)
 refine r [1] rfl fun _=>l1 (q:=0+k*1) rfl (ptr (α 3) os[k]) (fun w hS=>by rw[Ae,BC];exact hS.now.1.2 k aM G2 rfl) (r [1] rfl fun _=>l1 (q:=0+k*1) rfl (ptr (α 2) os[k]) (fun w hS=>by rw[Ae,BC];exact hS.now.1.1.2 k aM G1 rfl) ?_);refine r [] rfl fun _=>lo1 rfl rfl 3 rfl (iV (f os[k])) la (r [] rfl fun _=> ?_) hx;refine so1 rfl 2 rfl (aF (h (k+1))) hx a1 (r [] rfl fun _=>so1 rfl 3 rfl (aF (l (k+1))) hx a2 (rz [1] [((k+1:Nat):Int)] rfl fun _=> ?_));exact b_ (k+1) ⟨rfl,rfl,rfl,rfl,rfl,rfl,trivial⟩ (fun _ hS=>hS) aM (show os.length-(k+1)<os.length-k by omega)
end Lq
namespace Lq
def U3(f g:tH):Bool:=decide (f 0=g 0∧f 1=g 1∧f 2=g 2∧f 3=g 3∧f 4=g 4∧f 5=g 5∧f 6=g 6∧f 7=g 7∧f 8=g 8∧f 9=g 9∧f 10=g 10)
theorem FU{f g:tH}:U3 f g=true↔∀i,i<11→f i=g i:=by
 unfold U3;rw[decide_eq_true_eq];constructor
 ·rintro⟨h0,h1,h2,h3,h4,h5,h6,h7,h8,h9,v_⟩;exact FR h0 h1 h2 h3 h4 h5 h6 h7 h8 h9 v_
 ·intro h;exact⟨h 0 (by omega),h 1 (by omega),h 2 (by omega),h 3 (by omega),h 4 (by omega),h 5 (by omega),h 6 (by omega),h 7 (by omega),h 8 (by omega),h 9 (by omega),h 10 (by omega)⟩
theorem zc(f g:tH)(w:tA):(Op.equalIn 10000 57 (C1 f) (C1 g)).run Tryz.prog w= .ok (U3 f g) w:=by
 rw[run_equalIn_agg (P:=Tryz.prog) w 9999 57 _ _ Tryz.underlying57 (by kernel_rfl)];unfold U3;by_cases h0:f 0=g 0
 case neg=>simp[go_sem,h0]
 by_cases h1:f 1=g 1
 case neg=>simp[go_sem,h0,h1]
 by_cases h2:f 2=g 2
 case neg=>simp[go_sem,h0,h1,h2]
 by_cases h3:f 3=g 3
 case neg=>simp[go_sem,h0,h1,h2,h3]
 by_cases h4:f 4=g 4
 case neg=>simp[go_sem,h0,h1,h2,h3,h4]
 by_cases h5:f 5=g 5
 case neg=>simp[go_sem,h0,h1,h2,h3,h4,h5]
 by_cases h6:f 6=g 6
 case neg=>simp[go_sem,h0,h1,h2,h3,h4,h5,h6]
 by_cases h7:f 7=g 7
 case neg=>simp[go_sem,h0,h1,h2,h3,h4,h5,h6,h7]
 by_cases h8:f 8=g 8
 case neg=>simp[go_sem,h0,h1,h2,h3,h4,h5,h6,h7,h8]
 by_cases h9:f 9=g 9
 case neg=>simp[go_sem,h0,h1,h2,h3,h4,h5,h6,h7,h8,h9]
 by_cases v_:f 10=g 10
 case neg=>simp[go_sem,h0,h1,h2,h3,h4,h5,h6,h7,h8,h9,v_]
 simp[go_sem,h0,h1,h2,h3,h4,h5,h6,h7,h8,h9,v_]
def fw(f:tH):Int:=
 if gD (f 0) (f 5)<12 then(if kS (over (gF (f 0) (f 5)) (jr (gD (f 0) (f 5))) f)=true then(if U3 (less (gF (f 0) (f 5)) f) (jr (gD (f 0) (f 5)))=true then 0 else 3)else 2)else 3
theorem PZ{f:tH}(h:gD (f 0) (f 5)<12):gF (jr (gD (f 0) (f 5)) 0) (jr (gD (f 0) (f 5)) 5)=gF (f 0) (f 5):=by
 obtain⟨h1,h2,h3⟩:=Xt _ _ h;have e0:jr (gD (f 0) (f 5)) 0=f 0:=h1;have e5:jr (gD (f 0) (f 5)) 5=su (gD (f 0) (f 5)):=rfl;rw[e0,e5];by_cases e:f 0=2
 ·rw[h2 e]
 ·exact K3 e
end Lq
namespace Lq
open Rv
abbrev dB(f:tH)(k o:Int):AV:=vg [.o (iV k),.f 4 (fun i=>aF f (i+1)),.o (iV o),.f 5 (fun i=>aF f (i+6))]
theorem K7(f:tH)(w:tA)(hK:eV w):cA 39 #[C1 f] w (rB (iV (fw f)) w):=by
 have hk:=K6 f;refine en (H:=[]) 28 [vf 11 fun i=>iV (f i)] Tryz.func39 rfl rfl (m0 w) (r [] rfl fun β=> ?_);unfold fw;by_cases hi:gD (f 0) (f 5)<12
 ·rw[Aq hi]at hk;refine cb rfl (vt [.g [.o (.string (iS _)),.o (iV (iK _)),.o (iV (su _))],.o (.bool true)]) (fun w hS=>hk w (hK.next hS.now.2)) (r [] rfl fun α=> ?_);refine aex (X:=Nat×Nat) (fun x=>[(1,vp 0 0 (β 0)),(3,vp 1 0 (α 0)),(5,vp 2 0 x.1),(6,vp 3 0 x.2)]) (fun x=>[⟨β 0,57,[.f 11 fun i=>iV (f i)]⟩,⟨α 0,151,[.o (.string (iS (gD (f 0) (f 5)))),.o (iV (iK (gD (f 0) (f 5)))),.o (iV (su (gD (f 0) (f 5))))]⟩,⟨x.1,57,[.f 11 fun i=>iV (over (gF (f 0) (f 5)) (jr (gD (f 0) (f 5))) f i)]⟩,⟨x.2,57,[.f 11 fun i=>iV (less (gF (f 0) (f 5)) f i)]⟩]) ?_ (r [4] rfl fun _=> ?_)
  case refine_2=>
   repeat' first|refine ER ?_ ?_|refine fk3 ?_ ?_ ?_|(refine cb rfl (vf 11 fun i=>iV (jr (gD (f 0) (f 5)) i)) ?_ ?_;exact fun w _=>kB _ w)|(refine cb rfl (vt [.g [.f 11 fun i=>iV (over (gF (f 0) (f 5)) (jr (gD (f 0) (f 5))) f i)],.g [.f 11 fun i=>iV (less (gF (f 0) (f 5)) f i)]]) ?_ ?_;exact fun w _=>TX f _ _ w rfl (PZ hi))|refine rs [] rfl rfl fun _=> ?_
   all_goals first|exact abA (_,_) ⟨rfl,rfl,rfl,rfl,trivial⟩ (fun w hS=>hS)|exact abA (_,_) ⟨rfl,rfl,rfl,rfl,trivial⟩ (fun w hS=>hS.JG [0,1,3,2] (by decide))
  intro f1 x;refine r [] rfl fun _=> ?_;have hb:=FT (over (gF (f 0) (f 5)) (jr (gD (f 0) (f 5))) f);cases h1:kS (over (gF (f 0) (f 5)) (jr (gD (f 0) (f 5))) f)
  ·rw[h1]at hb;exact cb rfl (vv (.bool false)) (fun w _=>hb w) (r [] rfl fun _=>fin fun w hS=>⟨by rw[if_pos hi];rfl,hS.now.2⟩)
  ·rw[h1]at hb;refine cb rfl (vv (.bool true)) (fun w _=>hb w) (r [2] rfl fun _=> ?_);refine cb rfl (vf 11 fun i=>iV (jr _ i)) (fun w _=>kB _ w) (r [] rfl fun _=> ?_);have he:=zc (less (gF (f 0) (f 5)) f) (jr (gD (f 0) (f 5)));cases h2:U3 (less (gF (f 0) (f 5)) f) (jr (gD (f 0) (f 5)))
   ·rw[h2]at he;exact eqs rfl he rfl (r [] rfl fun _=>fin fun w hS=>⟨by rw[if_pos hi];rfl,hS.now.2⟩)
   ·rw[h2]at he;exact eqs rfl he rfl (r [] rfl fun _=>fin fun w hS=>⟨by rw[if_pos hi];rfl,hS.now.2⟩)
 ·rw[Ai hi]at hk;exact cb rfl (vt [.g [.o (.string (iS _)),.o (iV (iK _)),.o (iV (su _))],.o (.bool false)]) (fun w hS=>hk w (hK.next hS.now.2)) (r [] rfl fun _=>fin fun w hS=>⟨by rw[if_neg hi];rfl,hS.now.2⟩)
end Lq
namespace Lq
theorem P0{p i b:Int}:(aP 1 p i b 0 0==0)=true↔(0≤p∧p≤3)∧(0≤i∧i≤1073741824)∧(0≤b∧b≤1000000):=by
 rw[beq_iff_eq];unfold aP;rw[if_pos rfl];by_cases h:0≤p∧p≤3∧0≤i∧i≤1073741824∧0≤b∧b≤1000000
 ·rw[if_neg (fun g=>g h),if_pos ⟨rfl,rfl⟩];omega
 ·rw[if_pos h];omega
theorem K9:(aP 2 0 0 0 0 0==0)=true:=by decide
theorem P3{e n:Int}:(aP 3 0 0 0 e n==0)=true↔(0≤e∧e≤1048576)∧(0≤n∧n≤1073741824):=by
 rw[beq_iff_eq];unfold aP;rw[if_neg (by decide),if_pos rfl];by_cases h:0≤e∧e≤1048576∧0≤n∧n≤1073741824
 ·rw[if_neg (fun g=>g h),if_pos ⟨rfl,rfl,rfl⟩];omega
 ·rw[if_pos h];omega
end Lq
namespace Lq
open Rv
def aD(D:tG)(k:Nat):Nat→Int:=fun o=>D.getD (11*k+o) 0
def I5(D:tG):Nat→Nat
 |0=>0
 |k+1=>I5 D k+if aD D k 0=2 then 1 else 0
theorem MV(D:tG):∀k,I5 D k≤k
 |0=>Aa _
 |k+1=>by have:=MV D k;unfold I5;split<;>omega
inductive mX(D:tG)(n:Nat):Int→Int→Prop
 |bad (k:Nat) (hk:k<n) (h:∀j,j<k→fw (aD D j)=0) (hb:¬fw (aD D k)=0):mX D n 0 (fw (aD D k))
 |fm (h:∀j,j<n→fw (aD D j)=0):mX D n (I5 D n) 0
theorem mX.Yi{D:tG}{n:Nat}{c e c' e':Int}(h:mX D n c e)(h':mX D n c' e'):c=c'∧e=e':=by
 cases h with
 |bad k hk h hb=>
  cases h' with
  |bad k' kW h' hb'=>
   rcases Nat.lt_trichotomy k k' with e|e|e
   ·exact absurd (h' k e) hb
   ·subst e;exact⟨rfl,rfl⟩
   ·exact absurd (h k' e) hb'
  |fm h'=>exact absurd (h' k hk) hb
 |fm h=>
  cases h' with
  |bad k' kW h' hb'=>exact absurd (h k' kW) hb'
  |fm h'=>exact⟨rfl,rfl⟩
theorem P4(a:tB)(len cap:Nat)(D:tG)(w:tA)(hK:eV w)(h:RowK .i64 w a (11*len) D)(hs:len*88≤140737488351232):
  cA 28 #[.slice a len cap] w fun x w'=>∃c e,x= .returned (.tuple #[iV c,iV e])∧mX D len c e∧bZ w w':=by
 refine en (H:=[]) _ [vv (.slice a len cap)] Tryz.func28 rfl rfl (m0 w) (r [] rfl fun _=> ?_);refine iC (X:=Nat) ⟨fun k=>[(4,vi (I5 D k:Int)),(8,vv (.slice a len cap)),(9,vi (len:Int)),(10,vi (k:Int))],fun _=>[],fun _ _=>False,fun _ _=>True,fun _ w'=>bZ w w',fun k=>k≤len∧∀j,j<k→fw (aD D j)=0,fun k=>len-k⟩ 0 ⟨rfl,rfl,rfl,rfl,trivial⟩ (fun _ hS=>hS) ⟨Ak _,fun j hj=>absurd hj (AH j)⟩ ?_;rintro f k ⟨hk,hi⟩;have hk:k≤len:=hk;have Dk:=MV D k;by_cases aM:k<len
 case neg=>
  obtain rfl:k=len:=by omega
  exact r [0] rfl fun _=>fin fun w hS=>⟨_,_,rfl,.fm hi,hS.now.2⟩
 obtain⟨b,o,rfl⟩:=h.form (by omega);have on:aS (aF (aD D k)) 11:=fun _ _=>rfl;refine r [1] rfl fun _=>lf (q:=o+k*11) rfl 11 (aF (aD D k)) (fun w hS=>jV (h.below hS.now.2) (by omega) fun j _=>rfl) (r [] rfl fun _=>Rv.cb rfl (vi (fw (aD D k))) (fun w hS=>K7 (aD D k) w (hK.next hS.now.2)) ?_);by_cases hc:fw (aD D k)=0
 case neg=>exact r [1] rfl fun _=>fin fun w hS=>⟨_,_,rfl,.bad k aM hi hc,hS.now.2⟩
 have hS:I5 D (k+1)=I5 D k+if aD D k 0=2 then 1 else 0:=rfl
 by_cases h2:aD D k 0=2
 ·rw[if_pos h2]at hS;exact rz [0,1,1,1] [(I5 D (k+1):Int),((k+1:Nat):Int)] rfl fun _=>b_ (k+1) ⟨rfl,rfl,rfl,rfl,trivial⟩ (fun w hS=>hS.take 0) ⟨aM,upto hi hc⟩ (show len-(k+1)<len-k by omega)
 ·rw[if_neg h2]at hS;exact rz [0,0,1] [((k+1:Nat):Int)] rfl fun _=>b_ (k+1) ⟨Au (fun n:Nat=>iV n) hS.symm,rfl,rfl,rfl,trivial⟩ (fun w hS=>hS.take 0) ⟨aM,upto hi hc⟩ (show len-(k+1)<len-k by omega)
end Lq
end Go.Proofs.YtmhifeahpnkpiaaGreatDoor
