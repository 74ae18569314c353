/- Out of my texts: CwR, CwS, CwU, CwV, CwW, CwT, CwX, CwY, CwZ, CxA, CxB, CxC, CxD, CxE, CxF, CxG, CxH, CxI, CxJ, CxK, CxL, CxM, CxN, CxO, CxP, CxQ, KtZ, CxR, CyA, CyB, CyC, CyD, CyE, CyF, LqA, LqB, LqC, LqD, LqE, LqF, LqG, LqI, LqH, LqM, LqN. -/
import Derived.BigRegion
import Derived.Deep.DeepCutAuto
import Derived.Laws.OwnMore
import Derived.RegionTactic
import Derived.Test.YtmhifeahpnkpiaaGreatDoorTAA
import Derived.Test.YtmhifeahpnkpiaaGreatDoorTAB
import Derived.Test.YtmhifeahpnkpiaaGreatDoorTAC
import Derived.Test.YtmhifeahpnkpiaaGreatDoorTAD
set_option maxRecDepth 20000
set_option maxHeartbeats 8000000
set_option linter.unusedVariables false
namespace Go.Proofs.YtmhifeahpnkpiaaGreatDoor
open Go.RowKit
section
open Rv
theorem QR(X N:Nat)(u:Nv)(q:Nat)(hq:q<4)(w:tA)(hN:NB w X N u)(ok:(u.m q).B.Ok)(kJ:aT (u.m q).g 41):cA 181 #[lp N,iV (q:Int)] w fun x w'=>∃s,x= .returned s∧((eW u.pure q=[]∧s= .slice none 0 0)∨∃R,0<(eW u.pure q).length∧s= .slice (some ⟨R,0,none⟩) (eW u.pure q).length (eW u.pure q).length∧w.heap.size≤R∧uY w' R (eW u.pure q))∧bZ w w':=by
 have gx:=jy ok.cJ;have ho:aT (iO (u.m q)) 47:=dY kJ;have ui:∀{w1},NB w1 X N u→w1.cell? ⟨N,1,none⟩=some (iV (u.i:Int)):=fun h=>h.at 1 (cF rfl);refine en (H:=[]) 82 [vv (lp N),vi (q:Int)] Tryz.func181 rfl rfl (nZ (U:=fun _=>False) (G:=fun w=>NB w X N u) (fun _ h=>h.elim) fun w2 c=>hN.next (c.below (Nat.le_refl _) fun _ _ h=>h)) ?_;refine r [] rfl fun _=>lf rfl 47 (iO (u.m q)) (fun w hS j hj=>(hS.now.1.at (5+q*47+j) (by omega)).trans (congrArg some (nh hq hj))) (sv 13 (vg (pr (u.m q).B (u.m q).a (u.m q).c (u.m q).g)) rfl (r [1] rfl fun _=>l1 rfl (iV (u.i:Int)) (fun w hS=>ui hS.now.1) ?_));refine rz [1] [(u.m q).B.e+1] rfl fun _=> ?_;by_cases h2:(u.m q).B.r=2
 ·rw[show eW u.pure q=[FR u.i (u.m q).B q] from if_pos h2];exact r [1] rfl fun β=>fin fun w hS=>⟨_,rfl,.inr ⟨β 0,Nat.succ_pos _,rfl,hS.jq 2 rfl,uY.one (hS.at 2 rfl)⟩,hS.now.2⟩
 by_cases h3:(u.m q).B.r=3
 ·rw[show eW u.pure q=[FR u.i (u.m q).B q,QA u.i q] from(if_neg h2).trans (if_pos h3)];exact r [0,1,1] rfl fun _=>l1 rfl (iV (u.i:Int)) (fun w hS=>ui hS.now.1) (r [] rfl fun β=>fin fun w hS=>⟨_,rfl,.inr ⟨β 0,Nat.succ_pos _,rfl,hS.jq 2 rfl,uY.two (hS.at 2 rfl)⟩,hS.now.2⟩)
 by_cases h1:(u.m q).B.r=1
 case neg=>
  rw[show eW u.pure q=[] from(if_neg h2).trans ((if_neg h3).trans (if_neg (fun k=>h1 k.1)))];exact r [0,0,1,0] rfl fun _=>fin fun w hS=>⟨.slice none 0 0,rfl,.inl ⟨rfl,rfl⟩,hS.now.2⟩
 by_cases he:1<(u.m q).B.e
 case neg=>
  rw[show eW u.pure q=[] from(if_neg h2).trans ((if_neg h3).trans (if_neg (fun k=>he k.2.1)))];exact r [0,0,1,1,0] rfl fun _=>fin fun w hS=>⟨.slice none 0 0,rfl,.inl ⟨rfl,rfl⟩,hS.now.2⟩
 refine r [0,0,1,1,1] rfl fun _=>l1 rfl (iV (u.he q)) (fun w hS=>(hS.now.1.at (193+q*2+1) (by omega)).trans (congrArg some (Ku hq))) ?_;by_cases hh:u.he q<(u.m q).B.e
 ·rw[show eW u.pure q=[IJ u.i (u.m q).B q] from(if_neg h2).trans ((if_neg h3).trans (if_pos ⟨h1,he,hh⟩))];exact r [1,1] rfl fun _=>l1 rfl (iV (u.i:Int)) (fun w hS=>ui hS.now.1) (r [] rfl fun β=>fin fun w hS=>⟨_,rfl,.inr ⟨β 0,Nat.succ_pos _,rfl,hS.jq 2 rfl,uY.one (hS.at 2 rfl)⟩,hS.now.2⟩)
 ·rw[show eW u.pure q=[] from(if_neg h2).trans ((if_neg h3).trans (if_neg (fun k=>hh k.2.2)))];exact r [0] rfl fun _=>fin fun w hS=>⟨.slice none 0 0,rfl,.inl ⟨rfl,rfl⟩,hS.now.2⟩
theorem UR(n:Nd)(q:Nat):(eW n q).length≤2:=by
 unfold eW;split
 ·exact cF rfl
 ·split
  ·exact cF rfl
  ·split
   ·exact cF rfl
   ·exact cF rfl
theorem Yy(n:Nd)(q:Nat):∀l∈eW n q,l.es=[]:=by
 intro l hl;unfold eW at hl;split at hl
 ·rw[List.mem_singleton.1 hl]
 ·split at hl
  ·rcases List.mem_cons.1 hl with rfl|hl
   ·rfl
   ·rw[List.mem_singleton.1 hl]
  ·split at hl
   ·rw[List.mem_singleton.1 hl]
   ·cases hl
theorem QS{U:tD}{w:tA}{R:Nat}{ls:List Lt}(h:uY w R ls)(hU:∀b,U b→b≠R):bR U w fun w=>uY w R ls:=fun w2 c2=>⟨fun k l hk j hj=>by
 have hc:=h.cell k l hk j hj;have aL:R<w.heap.size:=by
  rcases Nat.lt_or_ge R w.heap.size with h'|h'
  ·exact h'
  ·simp[World.cell?,Array.getElem?_eq_none h']at hc
 rw[c2.cell aL fun hu=>hU R hu rfl,hc]⟩
theorem nt{α:Type}{l:List α}{k:Nat}{x:α}(h:l[k]? =some x):l.take (k+1)=l.take k++[x]:=by
 rw[List.take_add_one,h];rfl
section
variable{u:Nv}{v:Wv}{t k:Nat}
theorem US(hk:k<4)(h:eW u.pure t=[]):ee (4-k) ({u with tu:=t}:Nv).pure v.pure=ee (4-(k+1)) ({u with tu:=(t+1) % 4}:Nv).pure v.pure:=by
 obtain⟨m,hm⟩:∃m,4-k=m+1:=⟨4-k-1,by omega⟩;rw[hm,show 4-(k+1)=m by omega,ee,if_pos];show(eW u.pure t).length=0;rw[h];rfl
theorem QT{ls:List Lt}(hk:k<4)(h:0<(eW u.pure t).length)(e:ls=eW u.pure t):ee (4-k) ({u with tu:=t}:Nv).pure v.pure=(({u with tu:=(t+1) % 4}:Nv).pure,{v.pure with fl:=v.pure.fl++ls}):=by
 obtain⟨m,hm⟩:∃m,4-k=m+1:=⟨4-k-1,by omega⟩;rw[hm,ee,if_neg,e]
 ·rfl
 ·show ¬(eW u.pure t).length=0;omega
end
namespace Rv
section
variable{n:Nat}{ops:tL}{f:Nat→AV}{fn:Func}{Rr:Ending→World→Prop}{M:tD}{Φ R:tI}{H:List En}{ks:List Fr}{t:Ord}{i d:Nat}{md:Md}
def rmA(n:Nat)(ops:tL)(f:Nat→AV)(i:Nat):Option (Nat×AV×AV):=match ops[i]? with
 |some o=>match o.dst,rE n ops f o,o.op with
  |some d,some true,.binOp .rem _ x y _=>some (d,ea f x,ea f y)
  |_,_,_=>none
 |none=>none
theorem rm{x y:AV}{a b:Int}(c:Int)(e:rmA n ops f i=some (d,x,y))(hb:¬b=0)(hc:a.tmod b=c)(hn:G Tryz.prog fn Rr n M Φ R (.g md ops t::ks) (ua f d (vi c)) H)(hx:x.val=iV a:=by rfl)(hy:y.val=iV b:=by rfl):G Tryz.prog fn Rr n M Φ R (.g md ops (.pu i t)::ks) f H:=by
 intro w hS hK;obtain⟨hK1,gW⟩:=bp.1 hK;have hn:=hn w hS (bp.2 ⟨hK1,gW⟩);show WF Tryz.prog ops (kq Tryz.prog fn Rr ks) md.va (nY md ops) (uq md ops) (.pu i t) n (cn f) w;unfold rmA at e;split at e
 ·rename_i o ho;split at e
  ·rename_i d' s' p q s2 hd hw hp;simp only[Option.some.injEq,Prod.mk.injEq]at e;obtain⟨rfl,rfl,rfl⟩:=e;exact aa5 hb hc ho hd (eZ hw) (dI hK1).1 hp ((bB f p).symm.trans hx) ((bB f q).symm.trans hy) (by rw[show iV c=(vi c).val from rfl,←jm];exact hn)
  ·cases e
 ·cases e
end
end Rv
theorem UT(X N:Nat)(u:Nv)(v:Wv)(F U:tD)(w:tA)(hw:NW w X N u v F U)(Om:u.tu<4)(hlen:v.fl.length≤1000000000000-4):cA 135 #[lp N] w fun x w'=>x= .returned (.tuple #[])∧∃u' v' F',Dn w X N u v F U (ee 4 u.pure v.pure) u' v' F' w':=by
 have hqs:∀q,q<4→aT (u.m q).g 41:=fun q hq=>(hw.st.now.1.mo q hq).one;refine en (H:=[nE X N u]) _ [vp 0 0 N] Tryz.func135 rfl rfl (hw.init (G:=fun w=>True) (fun _ _=>trivial)) (r [] rfl fun _=> ?_);refine ic (X:=Nat×Nat) ⟨fun x=>[(0,vp 0 0 N),(6,vi (x.1:Int))],fun x=>[nE X N {u with tu:=x.2}],fun _ b=>F b∨(U b∧b≠N),fun _ w=>(u.In w N∧∀r∈v.fl,ni w r)∧True,fun _=>RW X (fun b=>b∈[N]) F w v F,fun x=>x.1≤4∧x.2<4∧ee (4-x.1) ({u with tu:=x.2}:Nv).pure v.pure=ee 4 u.pure v.pure,fun x=>4-x.1⟩ (0,u.tu) ⟨rfl,rfl,trivial⟩ (fun w hS=>hS) ⟨Nat.zero_le _,Om,rfl⟩ ?_;rintro f ⟨k,t⟩ ⟨hk,ht,QU⟩;have hk:k≤4:=hk;have ht:t<4:=ht;have QU:ee (4-k) ({u with tu:=t}:Nv).pure v.pure=ee 4 u.pure v.pure:=QU;by_cases aL:k<4
 case neg=>
  obtain rfl:k=4:=by omega
  exact r [0] rfl fun _=>c_ rfl fun w hS=>⟨rfl,({u with tu:=t}:Nv),v,F,Dn.fin (u:=u) hS hw.ub hw.nu (fun _ h=>⟨⟨h.1.1.row,h.1.1.mo,h.1.1.af,h.1.1.wl⟩,h.1.2⟩) ⟨hw.ok.ok,hw.ok.nil,hw.ok.cap,hw.ok.max,hw.ok.len,hw.ok.s0,hw.ok.s1,hw.ok.i5,hw.ok.QB⟩ rfl rfl rfl rfl rfl (by rw[←QU];rfl) (by rw[←QU];rfl)⟩
 refine rz [1,1] [((t+1:Nat):Int)] rfl fun _=>rm (a:=((t+1:Nat):Int)) (b:=4) (((t+1) % 4:Nat):Int) rfl (by decide) (by obtain rfl|rfl|rfl|rfl:t=0∨t=1∨t=2∨t=3:=(by omega)<;>rfl) (r [] rfl fun _=>gn 0 (lh X {u with tu:=(t+1) % 4}) ?_)
 obtain⟨ls,els⟩:∃ls,ls=eW u.pure t:=⟨_,rfl⟩;have own:∀w1,aZ w1 N 126 206 (lh X {u with tu:=(t+1) % 4})→cA 181 #[lp N,iV (t:Int)] w1 fun x w'=>∃s,x= .returned s∧((ls=[]∧s= .slice none 0 0)∨∃R,0<ls.length∧s= .slice (some ⟨R,0,none⟩) ls.length ls.length∧w1.heap.size≤R∧uY w' R ls)∧bZ w1 w':=fun w1 hN=>by
  rw[els];exact QR X N ({u with tu:=(t+1) % 4}:Nv) t ht w1 hN (hw.ok.ok t ht) (hqs t ht)
 by_cases h0:ls=[]
 ·refine Rv.cb rfl (vv (.slice none 0 0)) (fun w1 hS=>(own w1 (hS.at 0 rfl)).mono fun x w' ⟨s,h1,h2,b⟩=> ?_) (rz [0,1] [((k+1:Nat):Int)] rfl fun _=> ?_)
  ·rcases h2 with⟨_,rfl⟩|⟨_,h,_⟩
   ·exact⟨h1,b⟩
   ·rw[h0]at h;cases h
  ·exact bU (k+1,(t+1) % 4) ⟨rfl,rfl,trivial⟩ (fun w hS=>hS) ⟨(show k+1≤4 by omega),Nat.mod_lt _ (by decide),(US aL (els▸h0)).symm.trans QU⟩ (show 4-(k+1)<4-k by omega)
 have aa6:0<ls.length:=List.length_pos_iff.2 h0;refine cx rfl (fun R:Nat=>vv (.slice (some ⟨R,0,none⟩) ls.length ls.length)) (fun _=>True) (fun R w=>uY w R ls) (fun w1 hS=>(own w1 (hS.at 0 rfl)).mono fun x w' ⟨s,h1,h2,b⟩=> ?_) fun R8 _=> ?_
 ·rcases h2 with⟨h,_⟩|⟨R,_,rfl,hR,de⟩
  ·exact absurd h h0
  ·exact⟨R,h1,b,trivial,fun hU=>QS de fun b hb e=>absurd (hU b hb) (by rw[e];exact Nat.not_lt.2 hR)⟩
 refine r [1] rfl fun _=>ic (X:=Nat×Wv×(Nat→Prop)) ⟨fun x=>[(0,vp 0 0 N),(26,vv (.slice (some ⟨R8,0,none⟩) ls.length ls.length)),(27,vi (ls.length:Int)),(28,vi (x.1:Int))],fun x=>[nE X N {u with tu:=(t+1) % 4}],fun x b=>x.2.2 b∨(U b∧b≠N),fun x w=>(u.In w N∧∀r∈x.2.1.fl,ni w r)∧uY w R8 ls,fun x=>RW X (fun b=>b∈[N]) F w x.2.1 x.2.2,fun x=>x.1≤ls.length∧x.2.1.pure={v.pure with fl:=v.pure.fl++ls.take x.1}∧x.2.1.nd=v.nd∧x.2.1.tk=v.tk∧x.2.1.dd=v.dd∧x.2.1.fl.length=v.fl.length+x.1,fun x=>ls.length-x.1⟩ (0,v,F) ⟨rfl,rfl,rfl,rfl,trivial⟩ (fun w hS=>hS.said fun _ h=>⟨h.1.1,h.2⟩) ⟨Nat.zero_le _,by simp,rfl,rfl,rfl,rfl⟩ ?_;rintro f ⟨j,v2,F2⟩ ⟨hj,hv2,e3,e4,e5,vQ⟩;have hj:j≤ls.length:=hj;have vQ:v2.fl.length=v.fl.length+j:=vQ;have af0:ls.length≤2:=els▸UR _ _;by_cases hlt2:j<ls.length
 case neg=>
  obtain rfl:j=ls.length:=by omega
  have hpp:=(QT (v:=v) aL (els▸aa6) els).symm.trans QU;exact r [0] rfl fun _=>fin fun w hS=>⟨rfl,({u with tu:=((t+1) % 4)}:Nv),v2,F2,Dn.fin (u:=u) hS hw.ub hw.nu (fun _ h=>⟨⟨h.1.1.row,h.1.1.mo,h.1.1.af,h.1.1.wl⟩,h.1.2⟩) ⟨hw.ok.ok,hw.ok.nil,hw.ok.cap,hw.ok.max,hw.ok.len,hw.ok.s0,hw.ok.s1,hw.ok.i5,hw.ok.QB⟩ rfl rfl e3 e4 e5 (by rw[←hpp]) (by rw[←hpp];exact hv2.trans (by rw[List.take_length]))⟩
 obtain⟨l2,TQ⟩:∃l2,ls[j]? =some l2:=⟨ls[j],List.getElem?_eq_getElem hlt2⟩;have tY:l2.es=[]:=Yy _ _ l2 (els▸List.mem_of_getElem? TQ);refine r [1] rfl fun _=>lf (q:=0+j*21) rfl 21 (lF (Kt l2 none 0)) (fun w hS i hi=>by rw[Nat.zero_add];exact hS.now.1.2.cell j l2 TQ i hi) (r [1] rfl fun β=> ?_);refine cw rfl (vt []) _ _ (fun w hS=>qx X v2 F2 _ w l2 none 0 (lF (Kt l2 none 0)) rfl hS.now.2.wo hS.ult (fun b h=> .inr (.inl h)) (fun _ _=>by rw[tY];exact RowK.nil _ _ _) (by rw[tY];exact Nat.le_refl _) (fun _=>rfl) (by omega)) fun P1 F1=> ?_;refine rz [1] [((j+1:Nat):Int)] rfl fun _=>bU (j+1,_,F1) ⟨rfl,rfl,rfl,rfl,trivial⟩ (fun w hS=>(hS.take 1).said fun _ h=>⟨⟨h.1.1.1,fP h.1.1.2 h.2⟩,h.1.2⟩) ⟨(show j+1≤ls.length by omega), ?_,e3,e4,e5, ?_⟩ (show ls.length-(j+1)<ls.length-j by omega)
 ·show({v2 with fl:=v2.fl++[⟨P1,l2,none,0⟩]}:Wv).pure={v.pure with fl:=v.pure.fl++ls.take (j+1)};rw[jY,show v2.pure=_ from hv2,nt TQ];simp only[fM,List.append_assoc]
 ·show(v2.fl++[_]).length=v.fl.length+(j+1);rw[List.length_append,vQ];rfl
end
theorem aa7{hd tl:tK}{mo:tO}{hn he:tG}{wt af v:tJ}{tu:Int}(i:Nat):nS (kj hd (fU mo hn he wt af tu) tl) 201 v i=kj hd (fU mo hn he v af tu) tl i:=by
 by_cases hi:i=201
 ·subst hi;rfl
 ·rw[pz _ _ _ _ hi];unfold kj;by_cases h5:i<5
  ·rw[if_pos h5,if_pos h5]
  ·rw[if_neg h5,if_neg h5];by_cases h6:i<204
   ·rw[if_pos h6,if_pos h6];unfold fU;by_cases h7:i-5<188
    ·rw[if_pos h7,if_pos h7]
    ·rw[if_neg h7,if_neg h7];by_cases h8:i-5<196
     ·rw[if_pos h8,if_pos h8]
     ·rw[if_neg h8,if_neg h8];obtain rfl|rfl:i=202∨i=203:=by omega
      ·rfl
      ·rfl
   ·rw[if_neg h6,if_neg h6]
structure eX(w:tA)(B:Nat)(s:tJ)(ls:List Lr):Prop where
 ex:∃a c,s= .slice a ls.length c∧ls.length≤c∧c≤maxLen∧((a=none∧c=0)∨∃o n f,a=some ⟨B,o,none⟩∧aZ w B 171 n f∧o+c≤n∧∀k r,ls[k]? =some r→f (o+k)=lp r.p)
theorem eX.nil{w:tA}{B:Nat}{s:tJ}(h:eX w B s []):∃a c,s= .slice a 0 c:=by
 obtain⟨a,c,h,_⟩:=h.ex;exact⟨a,c,h⟩
theorem eX.cons{w:tA}{B:Nat}{s:tJ}{r:Lr}{ls:List Lr}(h:eX w B s (r::ls)):∃o c,s= .slice (some ⟨B,o,none⟩) (ls.length+1) c∧ls.length+1≤c:=by
 obtain⟨a,c,h,hc,_,⟨rfl,rfl⟩|⟨o,n,f,rfl,_⟩⟩:=h.ex
 ·simp at hc
 ·exact⟨o,c,h,hc⟩
theorem eX.head{w:tA}{b o c:Nat}{r:Lr}{ls:List Lr}(h:eX w b (.slice (some ⟨b,o,none⟩) (ls.length+1) c) (r::ls)):w.cell? ⟨b,o,none⟩=some (lp r.p):=by
 obtain⟨a,c',he,hc,_,⟨rfl,rfl⟩|⟨o',n,f,rfl,fb,hn,hk⟩⟩:=h.ex
 ·simp at hc
 ·cases he;rw[←hk 0 r rfl];exact fb.at o (by simp at hc;omega)
theorem eX.tail{w:tA}{b o c:Nat}{r:Lr}{ls:List Lr}(h:eX w b (.slice (some ⟨b,o,none⟩) (ls.length+1) c) (r::ls)):eX w b (.slice (gD (some ⟨b,o,none⟩) 1 1 c) (ls.length+1-1) (c-1)) ls:=by
 obtain⟨a,c',he,hc,hm,⟨rfl,rfl⟩|⟨o',n,f,rfl,fb,hn,hk⟩⟩:=h.ex
 ·simp at hc
 ·cases he;simp only[List.length_cons]at hc;refine⟨gD (some ⟨b,o,none⟩) 1 1 c,c-1,rfl,by omega,by omega,.inr ?_⟩;by_cases h1:1<c
  ·refine⟨o+1,n,f, ?_,fb,by omega,fun k r' hr=>by rw[show o+1+k=o+(k+1) by omega];exact hk (k+1) r' (by simpa using hr)⟩;unfold gD;rw[if_neg (by omega)];simp[Addr.add_mid]
  ·have hls:ls=[]:=List.length_eq_zero_iff.1 (by omega);refine⟨o,n,f, ?_,fb,by omega,fun k r' hr=>by rw[hls]at hr;simp at hr⟩;unfold gD;rw[if_pos (by omega)]
def F5(k:Int):Option Nat:=if k=0 then some 67 else if k=2 then some 68 else if k=3 then some 69 else if k=4 then some 70 else if k=7 then some 71 else none
def wu(w:tA)(dd:tJ):Prop:=∀k g,F5 k=some g→(Instr.lookup 107 dd (iV k) false).run Tryz.prog w= .ok (.func (.func g) #[] #[]) w
structure lT(l:Lt):Prop where
 q:l.q<4
 kd:l.kd=0∨l.kd=2∨l.kd=3∨l.kd=4∨l.kd=7
 op:∀x∈aY l.op,(Lit.int .i64 x).wf=true
 es:l.es.length≤2000
noncomputable def cp(n:Nd)(s:Ws)(l:Lt):Nd×Ws:=
 if l.kd=0 then fO n s l else if l.kd=2 then iP n s l else if l.kd=3 then gJ n s l else if l.kd=4 then takeN n s l else iQ n s l
noncomputable def dU:Nat→Nd→Ws→Nd×Ws
 |0,n,s=>ee 4 n s
 |k+1,n,s=>match n.wt with
  |[]=>ee 4 n s
  |l::ls=>if(cp {n with wt:=ls} s l).1.af.isSome then cp {n with wt:=ls} s l else dU k (cp {n with wt:=ls} s l).1 (cp {n with wt:=ls} s l).2
def QV(g:Nat)(l:Lt):Prop:=Rv.iy Tryz.prog g=true∧∀(X N:Nat) (u:Nv) (v:Wv) (F U:tD) (w:tA) (P:Nat) (a:tB) (c:Nat),NW w X N u v F U→bR U w (fun w=>eu w P l a c)→v.fl.length≤1000000000000→v.sv.length≤1000000000000→cA g #[lp N,lp P] w fun x w'=>x= .returned (.tuple #[])∧∃u' v' F',Dn w X N u v F U (cp u.pure v.pure l) u' v' F' w'
section
variable{w w':tA}{X N:Nat}{u u':Nv}{v v':Wv}{F F' U:tD}{H':List bQ}{G:tI}
theorem NW.fin(hS:Mem w' (⟨N,126,206,lh X u'⟩::H') (fun b=>F' b∨(U b∧b≠N)) G (RW X (fun b=>b∈[N]) F w v' F'))(hU:∀b,U b→b<w.heap.size)(hUN:U N)(GS:∀w,G w→u'.In w N∧∀r∈v'.fl,ni w r)(ok:u'.Ok):NW w' X N u' v' F' (fun b=>U b∨F' b)∧Mv (fun b=>F b∨b=N) w (fun b=>F' b∨b=N) w'∧bR (fun b=>U b∨F' b) w' G:=by
 have hr:=hS.now.2;have hs:∀b,(U b∨F' b)→b∈(⟨N,126,206,lh X u'⟩::H':List bQ).map bQ.a∨F' b∨(U b∧b≠N):=fun b hb=>by
  rcases hb with hb|hb
  ·by_cases e:b=N
   ·exact .inl (e▸List.mem_cons_self ..)
   ·exact .inr (.inr ⟨hb,e⟩)
  ·exact .inr (.inl hb)
 exact⟨⟨hS.at 0 rfl,hr.wo,fun hf=>hS.off _ (List.mem_cons_self ..) (.inl hf),fun b hb=>hb.elim (fun h=>Nat.lt_of_lt_of_le (hU b h) hr.mv.c.size) (hr.wo.lt b),fun b hb=> .inr hb,.inl hUN,ok,fun w2 c2=>GS w2 (hS.g w2 (c2.mono hs))⟩,hr.mv.less (fun b hb=>hb.imp id List.mem_singleton.1) (fun b hb=> .inl (hb.imp id List.mem_singleton.2)),fun w2 c2=>hS.g w2 (c2.mono hs)⟩
end
theorem bR.fn{F F':tD}{N:Nat}{w w':tA}{φ:tI}(h:bR (fun b=>F b∨b=N) w φ)(m:Mv (fun b=>F b∨b=N) w (fun b=>F' b∨b=N) w'):bR (fun b=>F' b∨b=N) w' φ:=(h.mv m (fun _ h=>h)).mono fun _ _ h=> .inr h
structure Wk(w:tA)(X N wb:Nat)(v:Wv)(F U:tD)(r:Nd×Ws)(u':Nv)(v':Wv)(F':tD)(w':tA):Prop where
 nw:NW w' X N u' v' F' (fun b=>U b∨F' b)
 mv:Mv (fun b=>F b∨b=N) w (fun b=>F' b∨b=N) w'
 nd:v'.nd=v.nd
 tk:v'.tk=v.tk
 dd:v'.dd=v.dd
 n:u'.pure=r.1
 s:v'.pure=r.2
 wr:bR (fun b=>F' b∨b=N) w' fun w=>eX w wb u'.wt u'.wl∧wu w v'.dd
theorem Wk.next{w w1 w2:tA}{X N wb:Nat}{v v':Wv}{F F' U:tD}{r:Nd×Ws}{u':Nv}(h:Wk w X N wb v F U r u' v' F' w1)(b:bZ w1 w2):Wk w X N wb v F U r u' v' F' w2:=⟨h.nw.next b,h.mv.next b,h.nd,h.tk,h.dd,h.n,h.s,h.wr.next b⟩
theorem QW{w:tA}{N:Nat}{u:Nv}(h:u.In w N)(hx:u.ax=none):u.af= .nilFunc:=by
 have:=h.af;rw[hx]at this;exact this
theorem Kz{w:tA}{N:Nat}{u:Nv}{x:Af}(h:u.In w N)(hx:u.ax=some x):∃g a b,u.af= .func g a b:=by
 have:=h.af;rw[hx]at this;cases x with
 |serve l an=>exact⟨_,_,_,this.1⟩
 |begin l B=>exact⟨_,_,_,this.1⟩
 |shut l B=>exact⟨_,_,_,this.1⟩
 |take l B=>exact⟨_,_,_,this.1⟩
 |jz q B=>exact⟨_,_,_,this.1⟩
theorem aa8{n n':Nd}{a:Af}{rs:List Rec}(h:mO n a rs=some n'):n'.tu=n.tu∧n'.wt=n.wt:=by
 unfold mO at h;split at h
 ·cases h;exact⟨rfl,rfl⟩
 ·cases h
theorem wY(n:Nd)(a:Af)(rs:List Rec):((mO n a rs).getD n).tu=n.tu∧((mO n a rs).getD n).wt=n.wt:=by
 unfold mO;split<;>exact⟨rfl,rfl⟩
theorem KA(n:Nd)(l:Lt):(dH n l).tu=n.tu∧(dH n l).wt=n.wt:=by
 unfold dH;split<;>exact⟨rfl,rfl⟩
theorem rW(n:Nd)(s:Ws)(l:Lt):((cp n s l).1.tu=n.tu∧(cp n s l).1.wt=n.wt)∧(cp n s l).2.fl.length≤s.fl.length+1∧(cp n s l).2.sv.length≤s.sv.length+1:=by
 have hs:∀(s:Ws) (x:Lt),(fM s x).fl.length≤s.fl.length+1∧(fM s x).sv.length≤s.sv.length+1:=fun s x=>⟨by simp[fM],by simp[fM]⟩;have ha:∀(x:An),(gM n s l x).fl.length≤s.fl.length+1∧(gM n s l x).sv.length≤s.sv.length+1:=fun x=>⟨by simp[gM,fM,oT],by simp[gM,fM,oT]⟩;have h0:s.fl.length≤s.fl.length+1∧s.sv.length≤s.sv.length+1:=⟨by omega,by omega⟩;unfold cp;split
 ·unfold fO;split
  ·exact⟨⟨rfl,rfl⟩,hs _ _⟩
  ·split
   ·exact⟨⟨rfl,rfl⟩,ha _⟩
   ·split
    ·rename_i n' hn;exact⟨aa8 hn,h0⟩
    ·exact⟨⟨rfl,rfl⟩,ha _⟩
 ·split
  ·unfold iP;split
   ·exact⟨⟨rfl,rfl⟩,h0⟩
   ·split
    ·exact⟨⟨rfl,rfl⟩,hs _ _⟩
    ·exact⟨wY _ _ _,h0⟩
  ·split
   ·unfold gJ;split
    ·exact⟨⟨rfl,rfl⟩,h0⟩
    ·split
     ·exact⟨⟨rfl,rfl⟩,h0⟩
     ·split
      ·refine⟨⟨rfl,rfl⟩, ?_⟩;unfold pU;split
       ·exact hs _ _
       ·exact h0
      ·exact⟨wY _ _ _,h0⟩
   ·split
    ·unfold takeN;split
     ·exact⟨⟨rfl,rfl⟩,h0⟩
     ·split
      ·exact⟨⟨rfl,rfl⟩,h0⟩
      ·exact⟨wY _ _ _,h0⟩
    ·unfold iQ;split
     ·have h1:=wY (dH n l) (.jz l.q (bC (n.mo l.q) l.pe).1) [⟨7,l.q,(bC (n.mo l.q) l.pe).1.e,0,k_⟩];have h2:=KA n l;exact⟨⟨h1.1.trans h2.1,h1.2.trans h2.2⟩,h0⟩
     ·exact⟨KA n l,h0⟩
theorem yL{n:Nd}{s:Ws}{k:Nat}(h:n.wt=[]):dU k n s=ee 4 n s:=by
 cases k with
 |zero=>rfl
 |succ k=>
  unfold dU;rw[h]
theorem QX{n:Nd}{s:Ws}{k:Nat}{l:Lt}{ls:List Lt}(h:n.wt=l::ls)(hx:(cp {n with wt:=ls} s l).1.af.isSome=true):dU (k+1) n s=cp {n with wt:=ls} s l:=by
 rw[dU,h];simp only[hx,if_true]
theorem UU{n:Nd}{s:Ws}{k:Nat}{l:Lt}{ls:List Lt}(h:n.wt=l::ls)(hx:(cp {n with wt:=ls} s l).1.af.isSome=false):dU (k+1) n s=dU k (cp {n with wt:=ls} s l).1 (cp {n with wt:=ls} s l).2:=by
 rw[dU,h];simp only[hx,Bool.false_eq_true,if_false]
section
open Rv
theorem UW(X N wb:Nat)(u0:Nv)(v0:Wv)(F0 U0:tD)(w0:tA)(hw0:NW w0 X N u0 v0 F0 U0)(GY:u0.ax=none)(Om:u0.tu<4)(D7:bR (fun b=>F0 b∨b=N) w0 fun w=>eX w wb u0.wt u0.wl∧wu w v0.dd)(ed:∀r∈u0.wl,lT r.l)(G9:∀l,lT l→∃g,F5 l.kd=some g∧QV g l)(vR:v0.fl.length+u0.wl.length+8≤1000000000000∧v0.sv.length+u0.wl.length≤1000000000000):cA 82 #[lp N] w0 fun x w'=>x= .returned (.tuple #[])∧∃u' v' F',Wk w0 X N wb v0 F0 U0 (dU u0.wl.length u0.pure v0.pure) u' v' F' w':=by
 refine en (H:=[]) 50 [vv (lp N)] Tryz.func82 rfl rfl (m0 w0) (r [] rfl fun _=> ?_);refine ic (X:=Nv×Wv×(Nat→Prop)) ⟨fun _=>[(0,vv (lp N))],fun _=>[],fun _ _=>False,fun _ _=>True,fun x y=>NW y X N x.1 x.2.1 x.2.2 (fun b=>U0 b∨x.2.2 b)∧Mv (fun b=>F0 b∨b=N) w0 (fun b=>x.2.2 b∨b=N) y∧bR (fun b=>x.2.2 b∨b=N) y (fun w=>eX w wb x.1.wt x.1.wl∧wu w x.2.1.dd),fun x=>(x.2.1.nd=v0.nd∧x.2.1.tk=v0.tk∧x.2.1.dd=v0.dd)∧x.1.ax=none∧x.1.tu<4∧(∀r∈x.1.wl,lT r.l)∧(x.2.1.fl.length+x.1.wl.length+8≤1000000000000∧x.2.1.sv.length+x.1.wl.length≤1000000000000)∧dU x.1.wl.length x.1.pure x.2.1.pure=dU u0.wl.length u0.pure v0.pure,fun x=>x.1.wl.length⟩ (u0,v0,F0) ⟨rfl,trivial⟩ (fun w hS=>hS.sr fun w b=>⟨(hw0.next b).less (fun b h=>h.elim id (hw0.fu b)) (fun b h=> .inr h) (.inl hw0.nu),Mv.of (fun b h=>h.elim (hw0.wo.lt b) (fun e=>e▸hw0.nb.lt)) b,D7.next b⟩) ⟨⟨rfl,rfl,rfl⟩,GY,Om,ed,vR,rfl⟩ ?_;rintro f ⟨u,v,F⟩ ⟨lz,GY,Om,ed,vR,Nb⟩;have GY:u.ax=none:=GY;have Om:u.tu<4:=Om;have ed:∀r∈u.wl,lT r.l:=ed;have vR:v.fl.length+u.wl.length+8≤1000000000000∧v.sv.length+u.wl.length≤1000000000000:=vR;have Nb:dU u.wl.length u.pure v.pure=dU u0.wl.length u0.pure v0.pure:=Nb;refine SI fun w1 wK=> ?_;have sS:eX w1 wb u.wt u.wl:=wK.now.2.2.2.now.1;rcases Dm:u.wl with _|⟨r1,ls⟩
 ·obtain⟨wa,wc,kK⟩:=(Dm▸sS:eX w1 wb u.wt []).nil;refine r [] rfl fun _=>l1 rfl (.slice wa 0 wc) (fun w hS=>(hS.now.2.1.nb.at 201 (cF rfl)).trans (congrArg some kK)) (r [0] rfl fun _=> ?_);refine ct (Y:=Nv×Wv×(Nat→Prop)) rfl (vt []) (fun y w'=>Wk w0 X N wb v0 F0 U0 (dU u0.wl.length u0.pure v0.pure) y.1 y.2.1 y.2.2 w') (fun w hS=>(UT X N u v F _ w hS.now.2.1 Om (by omega)).mono fun _ w' ⟨h1,u2,v2,F2,hd⟩=>⟨h1,(u2,v2,F2), ?_⟩) (fun _ _ _ h b=>h.next b) fun y=>r [] rfl fun _=>c_ rfl fun _ hS=>⟨rfl,y.1,y.2.1,y.2.2,hS.now.2⟩
  exact⟨hd.nw.less (fun b h=>h.elim (fun h=> .inl (.inl h)) .inr) (fun b h=> .inr h) (hd.nw.nu.elim (fun h=>h.elim .inl fun h=>absurd h hS.now.2.1.nf) (fun h=>absurd h hd.nw.nf)),hS.now.2.2.1.trans hd.mv,hd.nd.trans lz.1,hd.tk.trans lz.2.1,hd.dd.trans lz.2.2,by rw[hd.n,←Nb,yL (show u.wl.map Lr.l=[] by rw[Dm];rfl)],by rw[hd.s,←Nb,yL (show u.wl.map Lr.l=[] by rw[Dm];rfl)],fun w2 c2=>by
   have h:=(hS.now.2.2.2.fn hd.mv) w2 c2;rw[hd.wt,hd.wl,hd.dd]
   exact h⟩
 ·obtain⟨wo,wc,kK,hwc⟩:=(Dm▸sS:eX w1 wb u.wt (r1::ls)).cons;have st1:∀{w},bR (fun b=>F b∨b=N) w (fun w=>eX w wb u.wt u.wl∧wu w v.dd)→bR (fun b=>F b∨b=N) w (fun w=>eX w wb (.slice (some ⟨wb,wo,none⟩) (ls.length+1) wc) (r1::ls)∧wu w v.dd):=fun h w2 c2=>by have:=h w2 c2;rw[Dm,kK]at this;exact this
  have lw:∀{w} {U:tD},NW w X N u v F U→w.cell? ⟨N,201,none⟩=some (.slice (some ⟨wb,wo,none⟩) (ls.length+1) wc):=fun h=>(h.nb.at 201 (cF rfl)).trans (congrArg some kK);have aen:=ed r1 (Dm▸List.mem_cons_self ..);obtain⟨g,hg,hdg⟩:=G9 r1.l aen;refine r [] rfl fun _=>l1 rfl _ (fun w hS=>lw hS.now.2.1) (r [1] rfl fun _=>l1 rfl _ (fun w hS=>lw hS.now.2.1) (r [1] rfl fun _=>l1 (q:=wo) rfl (lp r1.p) (fun w hS=>(st1 hS.now.2.2.2).now.1.head) (r [] rfl fun _=>l1 rfl _ (fun w hS=>lw hS.now.2.1) (r [] rfl fun _=>Xv fun w1 wK=>⟨[nE X N u],_,_,_,wK.now.2.1.init (G:=fun _=>True) (fun _ _=>trivial), ?_⟩))));obtain⟨u3,e3⟩:∃u3:Nv,u3={u with wt:= .slice (gD (some ⟨wb,wo,none⟩) 1 1 wc) (ls.length+1-1) (wc-1),wl:=ls}:=⟨_,rfl⟩;have hw:=wK.now.2.1;have mv:=wK.now.2.2.1;have gx:=st1 wK.now.2.2.2;have hm:r1∈u.wl:=Dm▸List.mem_cons_self ..;refine tf rfl 0 rfl (lh X u3) (show 201<206 by decide) (fun i=>by rw[e3];exact aa7 i) (r [1] rfl fun _=>l1 rfl (lp X) (fun w hS=>(hS.at 0 rfl).at 0 (cF rfl)) (r [] rfl fun _=>l1 rfl v.dd (fun w hS=>hS.now.2.wo.dd_) (r [] rfl fun _=>l1 rfl (iV r1.l.kd) (fun w hS=>(hS.now.1.1.1.wl r1 hm).b.at 0 (cF rfl)) (r [] rfl fun _=>lk (vv (.func (.func g) #[] #[])) rfl (fun w hS=>(gx w (hS.now.2.mv.c.mono fun b h=>h.imp id List.mem_singleton.1)).2 r1.l.kd g hg) (r [] rfl fun _=> ?_)))));refine ct (Y:=Nv×Wv×(Nat→Prop)) rfl (vt []) (fun y w3=>NW w3 X N y.1 y.2.1 y.2.2 (fun b=>U0 b∨y.2.2 b)∧Mv (fun b=>F0 b∨b=N) w0 (fun b=>y.2.2 b∨b=N) w3∧bR (fun b=>y.2.2 b∨b=N) w3 (fun w=>eX w wb y.1.wt y.1.wl∧wu w y.2.1.dd)∧(y.2.1.nd=v.nd∧y.2.1.tk=v.tk∧y.2.1.dd=v.dd)∧y.1.wt=u3.wt∧y.1.wl=ls∧y.1.pure=(cp u3.pure v.pure r1.l).1∧y.2.1.pure=(cp u3.pure v.pure r1.l).2) (fun w hS=> ?_) (fun _ _ _ ⟨h1,h2,h3,h4⟩ b=>⟨h1.next b,h2.next b,h3.next b,h4⟩) (fun y=> ?_) rfl hdg.1
  ·have FK:=NW.fin (u':=u3) hS hw.ub hw.nu (fun _ h=>⟨by rw[e3];exact⟨h.1.1.row,h.1.1.mo,h.1.1.af,fun x hx=>h.1.1.wl x (Dm▸List.mem_cons_of_mem _ hx)⟩,h.1.2⟩) (by rw[e3];exact⟨hw.ok.ok,hw.ok.nil,hw.ok.cap,hw.ok.max,hw.ok.len,hw.ok.s0,hw.ok.s1,hw.ok.i5,hw.ok.QB⟩);refine(hdg.2 X N u3 v F _ _ r1.p r1.a r1.c FK.1 (fun w2 c2=>(FK.2.2 w2 c2).1.1.wl r1 hm) (by omega) (by omega)).mono fun _ w3 ⟨h1,u4,v4,F4,hd⟩=>⟨h1,(u4,v4,F4),hd.nw.less (fun b h=>h.elim (fun h=> .inl (.inl (.inl h))) .inr) (fun b h=> .inr h) (hd.nw.nu.elim (fun h=>h.elim (fun h=>h.elim .inl fun h=>absurd h hw.nf) (fun h=>absurd h FK.1.nf)) (fun h=>absurd h hd.nw.nf)),mv.trans (FK.2.1.trans hd.mv),fun w2 c2=> ?_,⟨hd.nd,hd.tk,hd.dd⟩,hd.wt,hd.wl.trans (by rw[e3]),hd.n,hd.s⟩;have h:=(gx.fn (FK.2.1.trans hd.mv)) w2 c2;show eX w2 wb u4.wt u4.wl∧wu w2 v4.dd;rw[hd.wt,hd.wl,hd.dd,e3];exact⟨h.1.tail,h.2⟩
  obtain⟨u4,v4,F4⟩:=y;refine SI fun w4 hS4=> ?_;obtain⟨hw4,mv4,hst4,hc4,hwt4,UX,UY,Wg⟩:=hS4.now.2;have UY:u4.pure=(cp u3.pure v.pure r1.l).1:=UY;have Wg:v4.pure=(cp u3.pure v.pure r1.l).2:=Wg;have UX:u4.wl=ls:=UX;have hpw:u.wl.map Lr.l=r1.l::ls.map Lr.l:=by rw[Dm];rfl
  have QY:cp u3.pure v.pure r1.l=cp {u.pure with wt:=ls.map Lr.l} v.pure r1.l:=by rw[e3]
  have SS:=rW u3.pure v.pure r1.l;have TQ:u.wl.length=ls.length+1:=by rw[Dm];rfl
  have la:∀{w} {z:tJ},u4.af=z→NW w X N u4 v4 F4 (fun b=>U0 b∨F4 b)→w.cell? ⟨N,202,none⟩=some z:=fun e h=>(h.nb.at 202 (cF rfl)).trans (congrArg some e);rcases hx4:u4.ax with _|x4
  ·refine r [] rfl fun _=>l1 rfl .nilFunc (fun w hS=>la (QW hw4.st.now.1 hx4) hS.now.2.1) (r [] rfl fun _=> ?_);have aeo:u4.tu=u.tu:=((congrArg Nd.tu UY).trans SS.1.1).trans (by rw[e3]);have ahp:v4.fl.length≤v.fl.length+1:=by have h1:=congrArg (fun s:Ws=>s.fl.length) Wg;have h2:=SS.2.1;simp only[List.length_map]at h1 h2;omega
   have ahq:v4.sv.length≤v.sv.length+1:=by have h1:=congrArg (fun s:Ws=>s.sv.length) Wg;have h2:=SS.2.2;simp only at h1 h2;omega
   have UZ:u4.wl.length=ls.length:=by rw[UX]
   exact bU (u4,v4,F4) ⟨rfl,trivial⟩ (fun w hS=>hS.sr fun _ h=>⟨h.1,h.2.1,h.2.2.1⟩) ⟨⟨hc4.1.trans lz.1,hc4.2.1.trans lz.2.1,hc4.2.2.trans lz.2.2⟩,hx4,by rw[aeo];exact Om,fun r' Yu=>ed r' (by rw[Dm];exact List.mem_cons_of_mem _ (UX▸Yu)),⟨by show v4.fl.length+u4.wl.length+8≤_;omega,by show v4.sv.length+u4.wl.length≤_;omega⟩,by rw[UZ,UY,Wg,QY,←UU (n:=u.pure) (s:=v.pure) (k:=ls.length) (l:=r1.l) hpw (by rw[←QY,←UY];show u4.ax.isSome=false;rw[hx4];rfl),←Nb,TQ]⟩ (by show u4.wl.length<u.wl.length;omega)
  ·obtain⟨g4,a4,b4,haf4⟩:=Kz hw4.st.now.1 hx4;have hwe:=QX (n:=u.pure) (s:=v.pure) (k:=ls.length) (l:=r1.l) hpw (by rw[←QY,←UY];show u4.ax.isSome=true;rw[hx4];rfl);exact r [] rfl fun _=>l1 rfl (.func g4 a4 b4) (fun w hS=>la haf4 hS.now.2.1) (r [] rfl fun _=>fin fun w hS=>⟨rfl,u4,v4,F4,hS.now.2.1,hS.now.2.2.1,hc4.1.trans lz.1,hc4.2.1.trans lz.2.1,hc4.2.2.trans lz.2.2,by rw[UY,←Nb,TQ,hwe,QY],by rw[Wg,←Nb,TQ,hwe,QY],hS.now.2.2.2.1⟩)
noncomputable def eN(n:Nd)(s:Ws):Nd×Ws:=if n.up=false then(n,s)else match n.af with
 |some x=>eP {n with sy:=n.dl.length,af:=none} s x
 |none=>dU n.wt.length n s
theorem qz{n:Nd}{s:Ws}(h:n.up=false):eN n s=(n,s):=if_pos h
theorem qA{n:Nd}{s:Ws}{x:Af}(h:n.up=true)(hx:n.af=some x):eN n s=eP {n with sy:=n.dl.length,af:=none} s x:=by
 unfold eN;rw[if_neg (by rw[h];decide),hx]
theorem ny{n:Nd}{s:Ws}(h:n.up=true)(hx:n.af=none):eN n s=dU n.wt.length n s:=by
 unfold eN;rw[if_neg (by rw[h];decide),hx]
theorem U1(wb:Nat)(X N:Nat)(u:Nv)(v:Wv)(F U:tD)(w:tA)(hw:NW w X N u v F U)(Om:u.tu<4)(D7:bR (fun b=>F b∨b=N) w fun w=>eX w wb u.wt u.wl∧wu w v.dd)(ed:∀r∈u.wl,lT r.l)(G9:∀l,lT l→∃g,F5 l.kd=some g∧QV g l)(vR:v.fl.length+u.wl.length+8≤1000000000000∧v.sv.length+u.wl.length≤1000000000000):cA 46 #[lp N] w fun x w'=>x= .returned (.tuple #[])∧∃u' v' F',Wk w X N wb v F U (eN u.pure v.pure) u' v' F' w':=by
 have aL:∀b,(F b∨b=N)→b<w.heap.size:=fun b h=>h.elim (hw.wo.lt b) (fun e=>e▸hw.nb.lt);have lu:∀{w1:tA} {z:Bool},u.ub=z→bZ w w1→w1.cell? ⟨N,2,none⟩=some (.bool z):=fun e b=>((hw.next b).nb.at 2 (cF rfl)).trans (congrArg (fun z=>some (Value.bool z)) e);have la:∀{w1:tA} {z:tJ},u.af=z→bZ w w1→w1.cell? ⟨N,202,none⟩=some z:=fun e b=>((hw.next b).nb.at 202 (cF rfl)).trans (congrArg some e);refine en (H:=[]) 19 [vv (lp N)] Tryz.func46 rfl rfl (m0 w) (r [] rfl fun _=> ?_);rcases lU:u.ub with _|_
 ·exact l1 rfl (.bool false) (fun w1 hS=>lu lU hS.now.2) (r [] rfl fun _=>c_ rfl fun w1 hS=>⟨rfl,u,v,F,⟨(hw.next hS.now.2).less (fun b h=>h.elim id (hw.fu b)) (fun b h=> .inr h) (.inl hw.nu),Mv.of aL hS.now.2,rfl,rfl,rfl,by rw[qz (n:=u.pure) lU],by rw[qz (n:=u.pure) lU],D7.next hS.now.2⟩⟩)
 rcases GY:u.ax with _|x4
 ·refine l1 rfl (.bool true) (fun w1 hS=>lu lU hS.now.2) (r [] rfl fun _=>l1 rfl .nilFunc (fun w1 hS=>la (QW hw.st.now.1 GY) hS.now.2) (r [] rfl fun _=> ?_));exact ct (Y:=Nv×Wv×(Nat→Prop)) rfl (vt []) (fun y w'=>Wk w X N wb v F U (eN u.pure v.pure) y.1 y.2.1 y.2.2 w') (fun w1 hS=>(UW X N wb u v F U w1 (hw.next hS.now.2) GY Om (D7.next hS.now.2) ed G9 vR).mono fun _ _ ⟨h1,u2,v2,F2,hd⟩=>⟨h1,(u2,v2,F2),hd.nw,(Mv.of aL hS.now.2).trans hd.mv,hd.nd,hd.tk,hd.dd,by rw[hd.n,ny (n:=u.pure) lU GY,List.length_map],by rw[hd.s,ny (n:=u.pure) lU GY,List.length_map],hd.wr⟩) (fun _ _ _ h b=>h.next b) fun y=>r [] rfl fun _=>c_ rfl fun _ hS=>⟨rfl,y.1,y.2.1,y.2.2,hS.now.2⟩
 ·obtain⟨g4,a4,b4,haf4⟩:=Kz hw.st.now.1 GY;refine l1 rfl (.bool true) (fun w1 hS=>lu lU hS.now.2) (r [] rfl fun _=>l1 rfl (.func g4 a4 b4) (fun w1 hS=>la haf4 hS.now.2) (r [] rfl fun _=> ?_));refine ct (Y:=Nv×Wv×(Nat→Prop)) rfl (vt []) (fun y w'=>Wk w X N wb v F U (eN u.pure v.pure) y.1 y.2.1 y.2.2 w') (fun w1 hS=>(UO X N u v F U w1 (hw.next hS.now.2) x4 GY (by omega) (by omega)).mono fun _ _ ⟨h1,u2,v2,F2,hd⟩=>⟨h1,(u2,v2,F2),hd.nw,(Mv.of aL hS.now.2).trans hd.mv,hd.nd,hd.tk,hd.dd,by rw[hd.n,qA (n:=u.pure) lU GY],by rw[hd.s,qA (n:=u.pure) lU GY],fun w2 c2=> ?_⟩) (fun _ _ _ h b=>h.next b) fun y=>r [] rfl fun _=>c_ rfl fun _ hS=>⟨rfl,y.1,y.2.1,y.2.2,hS.now.2⟩;have h:=((D7.next hS.now.2).fn hd.mv) w2 c2;show eX w2 wb u2.wt u2.wl∧wu w2 v2.dd;rw[hd.wt,hd.wl,hd.dd];exact h
theorem aep{u v:Ev}(h:∀j,j<6→(aY u).getD j 0=(aY v).getD j 0):u=v:=by
 have h0:=h 0 (by omega);have h1:=h 1 (by omega);have h2:=h 2 (by omega);have h3:=h 3 (by omega);have h4:=h 4 (by omega);have h5:=h 5 (by omega);cases u;cases v;simp[aY]at h0 h1 h2 h3 h4 h5;simp[h0,h1,h2,h3,h4,h5]
theorem QZ{A B:List Ev}{k:Nat}(ha:k<A.length)(hb:k<B.length)(h:oz (ai A) (ai B) k):A[k]=B[k]:=
 aep fun j hj=>by rw[←kW A k ha j hj,←kW B k hb j hj];exact h j hj
theorem Q0{H C:List Ev}{n:Nat}(h:lC (ai H) (ai C) H.length C.length n):C.take H.length=H.take C.length↔min H.length C.length≤n:=by
 constructor
 ·intro e;refine h.least (k:=min H.length C.length) ?_ (Nat.min_le_left _ _) (Nat.min_le_right _ _);have e2:H.take (min H.length C.length)=C.take (min H.length C.length):=by
   rcases Nat.le_total H.length C.length with hle|hle
   ·rw[Nat.min_eq_left hle,List.take_length];rw[List.take_of_length_le (l:=H) (i:=C.length) hle]at e;exact e.symm
   ·rw[Nat.min_eq_right hle,List.take_length];rw[List.take_of_length_le (l:=C) (i:=H.length) hle]at e;exact e.symm
  exact FG e2 (Nat.min_le_left _ _) (Nat.min_le_right _ _)
 ·intro hn;apply List.ext_getElem (by simp[List.length_take,Nat.min_comm]);intro i h1 h2;have hi:i<H.length∧i<C.length:=by simp only[List.length_take]at h1 h2;omega
  rw[List.getElem_take,List.getElem_take];exact(QZ hi.1 hi.2 (h.same i (by omega))).symm
theorem tr{es:List Ev}{k:Nat}:(es.drop k).take (es.length-k)=es.drop k:=List.take_of_length_le (by rw[List.length_drop];exact Nat.le_refl _)
section
variable{B:Bt}{ep:Int}{at':Int}{k m:Nat}{l:List Ev}{la:Bool}
theorem aa_(ok:B.Ok)(h:¬B.r=4):a_ B ep at' l la=(Bt.zero,7):=by
 unfold a_;rw[if_neg (fun k=>k ok),if_pos h]
theorem aba(ok:B.Ok)(h:B.r=4)(he:¬B.e=ep):a_ B ep at' l la=(Bt.zero,15):=by
 unfold a_;rw[if_neg (fun k=>k ok),if_neg (fun k=>k h),if_pos he]
theorem WM(ok:B.Ok)(h:B.r=4)(he:B.e=ep)(ha:¬(0≤at'∧at'≤B.es.length)):a_ B ep at' l la=(Bt.zero,2):=by
 unfold a_;rw[if_neg (fun k=>k ok),if_neg (fun k=>k h),if_neg (fun k=>k he),if_pos ha]
abbrev Ag(B:Bt)(k:Nat)(l:List Ev):Bt:=B.more (l.drop (B.es.length-k))
theorem WN(ok:B.Ok)(h:B.r=4)(he:B.e=ep)(hk:k≤B.es.length)(hf:¬Fits (B.es.drop k) l la):a_ B ep (k:Int) l la=(Bt.zero,3):=by
 unfold a_;rw[if_neg (fun k=>k ok),if_neg (fun k=>k h),if_neg (fun k=>k he),if_neg (fun k=>k ⟨by omega,by omega⟩),Int.toNat_natCast,if_pos (fun k=>hf k.2)]
theorem WQ(ok:B.Ok)(h:B.r=4)(he:B.e=ep)(hk:k≤B.es.length)(hl:l.length≤2000)(hf:Fits (B.es.drop k) l la)(ho:¬(if la=true then(Ag B k l).broken else Ag B k l).Ok):a_ B ep (k:Int) l la=(Bt.zero,3):=by
 unfold a_;rw[if_neg (fun k=>k ok),if_neg (fun k=>k h),if_neg (fun k=>k he),if_neg (fun k=>k ⟨by omega,by omega⟩),Int.toNat_natCast,if_neg (fun k=>k ⟨hl,hf⟩),if_pos ho]
theorem WR(ok:B.Ok)(h:B.r=4)(he:B.e=ep)(hk:k≤B.es.length)(hl:l.length≤2000)(hf:Fits (B.es.drop k) l la)(ho:(if la=true then(Ag B k l).broken else Ag B k l).Ok):a_ B ep (k:Int) l la=(if la=true then(Ag B k l).broken else Ag B k l,0):=by
 unfold a_;rw[if_neg (fun k=>k ok),if_neg (fun k=>k h),if_neg (fun k=>k he),if_neg (fun k=>k ⟨by omega,by omega⟩),Int.toNat_natCast,if_neg (fun k=>k ⟨hl,hf⟩),if_neg (fun k=>k ho)]
theorem KB(ok:B.Ok){l:List Ev}(h:B.r=4)(hl:B.es.length+l.length≤2000)(ht:∃s bu,bm (B.es++l) s bu):(B.more l).Ok:=by
 refine⟨?_,by simp[Bt.more];exact hl,ht⟩;have hs:=ok.cJ;unfold Bt.cC bw at hs⊢;rcases hs with k|k|k|k|k
 ·exact absurd k.1 (by omega)
 ·exact absurd k.1 (by omega)
 ·exact absurd k.1 (by omega)
 ·exact absurd k.1 (by omega)
 ·exact .inr (.inr (.inr (.inr k)))
theorem CS(ok:B.Ok)(h:B.r=4)(hl:B.es.length+1≤2000)(ht:∃s bu,bm (B.es++[Ev.brk]) s bu):B.broken.Ok:=by
 refine⟨?_,by simp[Bt.broken];omega,ht⟩;have hs:=ok.cJ;unfold Bt.cC bw at hs⊢;rcases hs with k|k|k|k|k
 ·exact absurd k.1 (by omega)
 ·exact absurd k.1 (by omega)
 ·exact absurd k.1 (by omega)
 ·exact absurd k.1 (by omega)
 ·exact .inr (.inl ⟨rfl,k.2.1,k.2.2.1,rfl,rfl,rfl⟩)
theorem Yz{l:List Ev}(h:¬(B.es.length+l.length≤2000∧∃s bu,bm (B.es++l) s bu)):¬(if la=true then(B.more l).broken else B.more l).Ok:=by
 intro ok;apply h;cases la with
 |false=>
  have h1:=ok.len;have h2:=ok.told;simp only[Bool.false_eq_true,if_false,Bt.more,List.length_append]at h1 h2;exact⟨h1,h2⟩
 |true=>
  have h1:=ok.len;obtain⟨s,bu,h2⟩:=ok.told;simp only[if_true,Bt.more,Bt.broken,List.length_append]at h1 h2;obtain⟨s0,CQ,_,h3,_⟩:=h2.last;exact⟨by simp at h1;omega,s0,CQ,h3⟩
theorem KC{m:Nat}(hk:k≤B.es.length)(hc:lC (ai (B.es.drop k)) (ai l) (B.es.length-k) l.length m)(h:m<min (B.es.length-k) l.length∨(la=true∧m<B.es.length-k)):¬Fits (B.es.drop k) l la:=by
 rintro⟨h1,h2⟩;have hd:(B.es.drop k).length=B.es.length-k:=List.length_drop;have:=(Q0 (by rw[hd];exact hc)).1 h1;rw[hd]at this h2;rcases h with h|⟨h,h3⟩
 ·omega
 ·have:=h2 h;omega
theorem U2{m:Nat}(hc:lC (ai (B.es.drop k)) (ai l) (B.es.length-k) l.length m)(h:¬m<min (B.es.length-k) l.length)(h2:la=true→¬m<B.es.length-k):Fits (B.es.drop k) l la∧l.drop m=l.drop (B.es.length-k):=by
 have hd:(B.es.drop k).length=B.es.length-k:=List.length_drop;have hm:m=min (B.es.length-k) l.length:=by have:=hc.lea;have:=hc.leb;omega
 refine⟨⟨(Q0 (by rw[hd];exact hc)).2 (by rw[hd];omega),fun h3=> ?_⟩, ?_⟩
 ·have:=h2 h3;rw[hd];omega
 ·rcases Nat.le_total (B.es.length-k) l.length with h4|h4
  ·rw[hm,Nat.min_eq_left h4]
  ·rw[hm,Nat.min_eq_right h4,List.drop_length,List.drop_of_length_le h4]
end
theorem YA{w:tA}{b:tB}{lb cb m n:Nat}{l:List Ev}(SM:lb=l.length)(hbc:lb≤cb)(hm:m≤l.length)(Zh:l.drop m=l.drop n)(h:RowK .i64 w b (6*lb) (ai l)):RowK .i64 w (gD b m 6 cb) (6*(lb-m)) (ai (l.drop n)):=by
 subst SM;have:=tj (k:=m) (m:=l.length-m) (c:=cb) h (by omega) hbc;rwa [tr,Zh]at this
theorem Nc(U:tD)(w:tA):rN U w Bt.zero (jg 0 0 0 0 0 none 0 0 zQ):=⟨none,0,zQ,rfl,fun _ _=>jG.dp rfl⟩
theorem U3{B:Bt}(h:¬(B.es.length+[Ev.brk].length≤2000∧∃s bu,bm (B.es++[Ev.brk]) s bu)):¬(if true=true then B.broken else B).Ok:=by
 intro ok;apply h;have h1:=ok.len;have h2:=ok.told;simp only[if_true,Bt.broken,List.length_append]at h1 h2;exact⟨h1,h2⟩
abbrev MoY:=Bt×Option Addr×Nat×(Nat→Value)×Bool
abbrev moY(y:MoY):AV:=vt [.g (pr y.1 y.2.1 y.2.2.1 y.2.2.2.1),.o (.bool y.2.2.2.2)]
def WS(B:Bt)(l:List Ev)(y:MoY):Prop:=aT y.2.2.2.1 41∧((y.2.2.2.2=true∧y.1=B.more l∧B.es.length+l.length≤2000∧∃s bu,bm (B.es++l) s bu)∨(y.2.2.2.2=false∧¬(B.es.length+l.length≤2000∧∃s bu,bm (B.es++l) s bu)))
theorem Q1{U:tD}{w w':tA}{B:Bt}{l:List Ev}{x:Ending}{C:Prop}(h:∃y k,x= .returned (.tuple #[y,.bool k])∧qU U w' B l y k∧bZ w w'):∃y:MoY,x= .returned (moY y).val∧bZ w w'∧WS B l y∧(C→bR U w' fun w=>jG w y.1 y.2.1 y.2.2.1 y.2.2.2.1):=by
 obtain⟨_,k,rfl,hw,b⟩:=h;rcases hw with⟨rfl,h1,h2,⟨a8,c8,g8,rfl,h8⟩⟩|⟨rfl,h1,rfl⟩
 ·exact⟨(B.more l,a8,c8,g8,true),rfl,b,⟨h8.now.one,.inl ⟨rfl,rfl,h1,h2⟩⟩,fun _=>h8⟩
 ·exact⟨(Bt.zero,none,0,zQ,false),rfl,b,⟨(jG.dp (w:=w) (B:=Bt.zero) rfl).one,.inr ⟨rfl,h1⟩⟩,fun _ _ _=>jG.dp rfl⟩
def aes(B:Bt)(y:MoY):Prop:=aT y.2.2.2.1 41∧((y.2.2.2.2=true∧y.1=B.broken∧B.es.length+[Ev.brk].length≤2000∧∃s bu,bm (B.es++[Ev.brk]) s bu)∨(y.2.2.2.2=false∧¬(B.es.length+[Ev.brk].length≤2000∧∃s bu,bm (B.es++[Ev.brk]) s bu)))
theorem F6(U:tD)(B:Bt)(a:tB)(c:Nat)(q:tC)(ep yM:Int)(l:List Ev)(b:tB)(lb cb:Nat)(la:Bool)(w:tA)(hU:∀b,U b→b<w.heap.size)(hm:bR U w fun w=>jG w B a c q)(ok:B.Ok)(hr:bR U w fun w=>RowK .i64 w b (6*lb) (ai l))(SM:lb=l.length)(ur:b=none→cb=0)(hbc:lb≤cb)(GR:lb≤2000):cA 120 #[xV B a c q,iV ep,iV yM,.slice b lb cb,.bool la] w fun x w'=>∃y B' er,x= .returned (.tuple #[y,iV er])∧a_ B ep yM l la=(B',er)∧rN U w' B' y∧bZ w w':=by
 have hq:=hm.now.one;have hc:=hm.now.b.cap;have z:=Nc;refine en (H:=[]) 97 [vg (pr B a c q),vi ep,vi yM,vv (.slice b lb cb),vv (.bool la)] Tryz.func120 rfl rfl (nZ hU (G:=fun w=>jG w B a c q∧RowK .i64 w b (6*lb) (ai l)) fun w2 c2=>⟨hm w2 c2,hr w2 c2⟩) ?_;by_cases h4:B.r=4
 case neg=>exact r [1] rfl fun _=>Rv.cb rfl (vt [.g (pr Bt.zero none 0 zQ),.o (iV 7)]) (fun w _=>iZ 7 w) (r [] rfl fun _=>fin fun w hS=>⟨_,_,_,rfl,aa_ ok h4,z _ _,hS.now.2⟩)
 by_cases he:B.e=ep
 case neg=>exact r [0,1] rfl fun _=>Rv.cb rfl (vt [.g (pr Bt.zero none 0 zQ),.o (iV 15)]) (fun w _=>iZ 15 w) (r [] rfl fun _=>fin fun w hS=>⟨_,_,_,rfl,aba ok h4 he,z _ _,hS.now.2⟩)
 have r2:=fun w=>iZ 2 w;by_cases h0:yM<0
 ·exact r [0,0,1] rfl fun _=>Rv.cb rfl (vt [.g (pr Bt.zero none 0 zQ),.o (iV 2)]) (fun w _=>r2 w) (r [] rfl fun _=>fin fun w hS=>⟨_,_,_,rfl,WM ok h4 he (by omega),z _ _,hS.now.2⟩)
 by_cases hn:(B.es.length:Int)<yM
 ·exact r [0,0,0,1] rfl fun _=>Rv.cb rfl (vt [.g (pr Bt.zero none 0 zQ),.o (iV 2)]) (fun w _=>r2 w) (r [] rfl fun _=>fin fun w hS=>⟨_,_,_,rfl,WM ok h4 he (by omega),z _ _,hS.now.2⟩)
 obtain⟨k,rfl⟩:∃k:Nat,yM=k:=⟨yM.toNat,by omega⟩;have hk:k≤B.es.length:=by omega
 refine r [0,0,0,0] rfl fun _=>cq rfl (fun m:Nat=>vi (m:Int)) (fun m=>lC (ai (B.es.drop k)) (ai l) (B.es.length-k) l.length m) (fun w hS=> ?_) fun m On=> ?_
 ·refine(H6 (gD a k 6 c) b (B.es.length-k) (c-k) lb cb (ai (B.es.drop k)) (ai l) w (by have:=tj hS.now.1.1.b.row (k:=k) (m:=B.es.length-k) (c:=c) (by omega) hc;rwa [tr]at this) hS.now.1.2 (by have:=ok.len;omega) (by omega)).mono ?_;rintro _ w3 ⟨m,rfl,On,b⟩;exact⟨m,rfl,b,by rw[SM]at On;exact On⟩
 have r3:=fun w=>iZ 3 w;by_cases hf:m<min (B.es.length-k) l.length
 ·refine rz [2,1] [((min (B.es.length-k) lb:Nat):Int)] rfl fun _=> ?_;exact Rv.cb rfl (vt [.g (pr Bt.zero none 0 zQ),.o (iV 3)]) (fun w _=>r3 w) (r [] rfl fun _=>fin fun w hS=>⟨_,_,_,rfl,WN ok h4 he hk (KC hk On (.inl hf)),z _ _,hS.now.2⟩)
 have QG:=On.leb;by_cases hl:la=true∧m<B.es.length-k
 ·obtain⟨rfl,hl⟩:=hl;refine rz [2,0,1] [((min (B.es.length-k) lb:Nat):Int)] rfl fun _=> ?_;exact Rv.cb rfl (vt [.g (pr Bt.zero none 0 zQ),.o (iV 3)]) (fun w _=>r3 w) (r [] rfl fun _=>fin fun w hS=>⟨_,_,_,rfl,WN ok h4 he hk (KC hk On (.inr ⟨rfl,hl⟩)),z _ _,hS.now.2⟩)
 obtain⟨hfit,Zh⟩:=U2 (B:=B) (k:=k) (l:=l) (m:=m) (la:=la) On hf (fun e h=>hl ⟨e,h⟩);cases la
 case' false=>refine rz [2,0,4] [((min (B.es.length-k) lb:Nat):Int)] rfl fun _=> ?_
 case' true=>
  have vQ:¬m<B.es.length-k:=fun h=>hl ⟨rfl,h⟩;refine rz [2,0,0,4] [((min (B.es.length-k) lb:Nat):Int)] rfl fun _=> ?_
 all_goals
  repeat' first|refine Cq ?_ ?_|(refine cx (g:=171) rfl moY (WS B (l.drop (B.es.length-k))) (fun y w=>jG w y.1 y.2.1 y.2.2.1 y.2.2.2.1) ?_ ?_;exact fun w hS=>(A_ _ B a c q (l.drop (B.es.length-k)) (gD b m 6 cb) (lb-m) (cb-m) w hS.ult (fun w2 c2=>(hS.g w2 c2).1) (fun w2 c2=>YA SM hbc QG Zh (hS.g w2 c2).2) (by rw[←Zh,List.length_drop,SM]) (fun h=>by rw[ur (uV h)];omega) ok.len (by omega)).mono fun _ _ h=>Q1 h;rintro⟨B8,a8,c8,g8,k8⟩ ⟨o8,⟨rfl,rfl,h8,h9⟩|⟨rfl,h8⟩⟩)|(refine Rv.cb (g:=169) rfl (vt [.g (pr Bt.zero none 0 zQ),.o (.int .i64 3)]) ?_ ?_;exact fun w _=>r3 w)|(refine cx (g:=172) rfl moY (aes (Ag B k l)) (fun y w=>jG w y.1 y.2.1 y.2.2.1 y.2.2.2.1) ?_ ?_;exact fun w hS=>(vH _ (Ag B k l) a8 c8 g8 w hS.ult (fun w2 c2=>(hS.g w2 c2).2) (by simp only[Bt.more,List.length_append];exact h8)).mono fun _ _ h=>Q1 (B:=⟨1,(Ag B k l).e,0,0,0,(Ag B k l).es⟩) h;rintro⟨B9,a9,c9,g9,k9⟩ ⟨o9,⟨rfl,rfl,hx1,hx2⟩|⟨rfl,hx1⟩⟩)|refine rs [] rfl rfl fun _=> ?_
 all_goals first
  |exact fin fun w hS=>⟨_,_,_,rfl,WR ok h4 he hk (by omega) hfit (KB ok h4 h8 h9),⟨a8,c8,g8,rfl,fun w2 c2=>(hS.Cr w2 c2).2⟩,hS.now.2⟩
  |exact fin fun w hS=>⟨_,_,_,rfl,WQ ok h4 he hk (by omega) hfit (Yz h8),z _ _,hS.now.2⟩
  |exact fin fun w hS=>⟨_,_,_,rfl,WR ok h4 he hk (by omega) hfit (CS (KB ok h4 h8 h9) h4 hx1 hx2),⟨a9,c9,g9,rfl,fun w2 c2=>(hS.Cr w2 c2).2⟩,hS.now.2⟩
  |exact fin fun w hS=>⟨_,_,_,rfl,WQ ok h4 he hk (by omega) hfit (U3 hx1),z _ _,hS.now.2⟩
abbrev U4(q:Nat)(B:Bt)(e:Ev):Rec:=⟨5,q,B.e,0,e⟩
abbrev kQ(q:Nat)(B:Bt)(k j:Nat):List Rec:=((B.es.drop k).take j).map (U4 q B)
theorem F7{q k j:Nat}{B:Bt}(h:j≤B.es.length-k):(kQ q B k j).length=j:=by
 unfold kQ;rw[List.length_map,List.length_take,List.length_drop];omega
theorem BG{q k j:Nat}{B:Bt}{e:Ev}(h:(B.es.drop k)[j]? =some e):kQ q B k (j+1)=kQ q B k j++[U4 q B e]:=by
 unfold kQ;rw[nt h,List.map_append];rfl
theorem Q2{l:List Rec}{x y:Rec}{F:tC}(h:∀j,j<10*(l++[x]).length→F j=iV ((aB (l++[x])).getD j 0)):∀j,j<10*(l++[y]).length→fS F (0+l.length*10) 10 (lF [iV y.k,iV y.q,iV y.e,iV y.p,iV y.v.k,iV y.v.p,iV y.v.i,iV y.v.b,iV y.v.he,iV y.v.hn]) j=iV ((aB (l++[y])).getD j 0):=by
 have hl:∀z:Rec,aB (l++[z])=aB l++bj z:=fun z=>by simp[aB]
 have hlen:=ia l;refine MN (F:=F) (fun j hj=> ?_) (fun j hj=>py _ _ _ _ _ (.inl (by omega))) (fun j hj=> ?_)
 ·rw[h j (by rw[List.length_append];omega),hl];simp only[List.getD_eq_getElem?_getD];rw[List.getElem?_append_left (by omega)]
 ·rw[show l.length*10+j=0+l.length*10+j by omega,BZ _ _ _ _ _ (by omega)]
theorem KD{q:Nat}{B:Bt}(hq:q<4)(he:0≤B.e∧B.e≤1048576){es:List Ev}(hw:∀u∈ai es,(Lit.int .i64 u).wf=true):∀u∈aB (es.map (U4 q B)),(Lit.int .i64 u).wf=true:=by
 intro u hu;simp only[aB,List.mem_flatMap,List.mem_map]at hu;obtain⟨r,⟨e,hem,rfl⟩,hu⟩:=hu;exact oU (by decide) hq he (by decide) (fun x hx=>hw x (by unfold ai;exact List.mem_flatMap.2 ⟨e,hem,hx⟩)) u hu
theorem yN{q k:Nat}{B:Bt}(h:¬B.r=1):di q B k=kQ q B k (B.es.length-k):=by
 unfold di kQ;rw[if_neg h,tr]
theorem F8{q k:Nat}{B:Bt}(h:B.r=1)(hk:k<B.es.length):di q B k=kQ q B k (B.es.length-k-1)++[⟨6,q,B.e,0,k_⟩]∧∃e,kQ q B k (B.es.length-k)=kQ q B k (B.es.length-k-1)++[U4 q B e]:=by
 constructor
 ·unfold di kQ;rw[if_pos h,List.dropLast_eq_take,List.length_drop]
 ·obtain⟨e,he⟩:∃e,(B.es.drop k)[B.es.length-k-1]? =some e:=⟨(B.es.drop k)[B.es.length-k-1]'(by rw[List.length_drop];omega),List.getElem?_eq_getElem _⟩;refine⟨e, ?_⟩;have:=BG (q:=q) he;rwa [show B.es.length-k-1+1=B.es.length-k by omega]at this
theorem IL{es:List Ev}{k j:Nat}{u:Int}(h:u∈ai ((es.drop k).take j)):u∈ai es:=by
 unfold ai at h⊢;obtain⟨e,he,hu⟩:=List.mem_flatMap.1 h;exact List.mem_flatMap.2 ⟨e,List.mem_of_mem_drop (List.mem_of_mem_take he),hu⟩
namespace Rv
section
variable{n:Nat}{f:Nat→AV}{fn:Func}{Rr:Ending→World→Prop}{T:tD}{Φ:tI}{H:List En}{ks:List Fr}
theorem ob{w0:tA}{e sz l:Nat}{v:tJ}{L:tK}(hl:0<l)(hT:∀b,T b→b<w0.heap.size)(hn:∀g c F,v= .slice (some ⟨g,0,none⟩) l c→l≤c→c≤maxLen→(∀j,j<l*sz→L[j]? =some (F j))→G Tryz.prog fn Rr n T Φ (fun w=>bZ w0 w) ks f (H++[⟨g,e,[.f (c*sz) F]⟩])):G Tryz.prog fn Rr n (fun b=>v.ownBlock=some b∨T b) Φ (fun w=>bZ w0 w∧w.ownsRow w0.heap.size e sz v l L) ks f H:=by
 intro w hS hK;have own:=hS.now.2.2;rcases id own.2 with⟨_,e0⟩|⟨g,c,cur,rfl,hg,hb,qk,hc,tY,ht⟩
 ·omega
 have kx:=hS.OV g rfl;have JM:g<w.heap.size:=(Array.getElem?_eq_some_iff.1 hb).1;refine hn g c (fun j=>cur.getD j undef) rfl qk hc (fun j hj=> ?_) w ?_ hK
 ·have hle:l*sz≤c*sz:=Nat.mul_le_mul_right _ qk;rw[←ht,List.getElem?_take,if_pos hj,Array.getElem?_toList,Array.getElem?_eq_getElem (by omega)];simp[show j<cur.size by omega]
 have e4:hs (H++[⟨g,e,[.f (c*sz) fun j=>cur.getD j undef]⟩])=hs H++[⟨g,e,c*sz,fun j=>cur.getD j undef⟩]:=by
  rw[hs,List.map_append];rfl
 rw[e4];have mem:∀x∈hs H++[(⟨g,e,c*sz,fun j=>cur.getD j undef⟩:bQ)],x∈hs H∨x=⟨g,e,c*sz,fun j=>cur.getD j undef⟩:=fun x hx=>(List.mem_append.1 hx).imp id List.mem_singleton.1;refine⟨fun x hx=>(mem x hx).elim (hS.ib x) fun h=>by rw[h];exact Ck hb tY,fun i j x y hi hj ha=> ?_,fun x hx ht=>(mem x hx).elim (fun h=>hS.off x h (.inr ht)) fun h=>by rw[h]at ht;exact absurd hg (Nat.not_le.2 (hT g ht)),fun b hb=>hS.mlt b (.inr hb),fun w2 c2=>hS.g w2 (c2.mono fun b hb=> ?_),fun w2 c2=> ?_⟩
 ·rw[List.getElem?_append]at hi hj;split at hi<;>split at hj
  ·exact hS.nT i j x y hi hj ha
  ·have:y=⟨g,e,c*sz,fun j=>cur.getD j undef⟩:=by
    have:=List.mem_of_getElem? hj;exact List.mem_singleton.1 this
   subst this;exact absurd (List.mem_map.2 ⟨x,List.mem_of_getElem? hi,ha⟩) kx
  ·have:x=⟨g,e,c*sz,fun j=>cur.getD j undef⟩:=List.mem_singleton.1 (List.mem_of_getElem? hi);subst this;exact absurd (List.mem_map.2 ⟨y,List.mem_of_getElem? hj,ha.symm⟩) kx
  ·have h1:=(List.getElem?_eq_some_iff.1 hi).1;have h2:=(List.getElem?_eq_some_iff.1 hj).1;simp only[List.length_singleton]at h1 h2;omega
 ·rw[List.map_append,List.mem_append]at hb;rcases hb with(h|h)|h
  ·exact .inl h
  ·exact .inr (.inl (congrArg some (List.mem_singleton.1 h).symm))
  ·exact .inr (.inr h)
 ·refine hS.now.2.1.trans (c2.below hS.now.2.1.size fun b hb hu=> ?_);rw[List.map_append,List.mem_append]at hu;rcases hu with hu|hu
  ·obtain⟨x,hx,rfl⟩:=List.mem_map.1 hu;obtain⟨j,hj⟩:=List.mem_iff_getElem?.1 hx;exact absurd hb (Nat.not_lt.2 ((Mem.sr hS fun _ h=>h.1).jq j hj))
  ·exact absurd hb (Nat.not_lt.2 ((List.mem_singleton.1 hu)▸hg))
end
end Rv
theorem F9(U:tD)(q:Nat)(hq:q<4)(m:Mg)(k:Nat)(hk:k≤m.B.es.length)(ok:m.B.Ok)(sS:m.B.r=1→k<m.B.es.length)(w:tA)(hU:∀b,U b→b<w.heap.size)(hm:bR U w fun w=>nj w m):cA 121 #[iV (q:Int),vF (iO m) 47,iV (k:Int)] w fun x w'=>∃a' c' n',x= .returned (.slice a' n' c')∧n'=(di q m.B k).length∧bR U w' (fun w=>RowK .i64 w a' (10*n') (aB (di q m.B k)))∧n'≤c'∧(a'=none→c'=0)∧bZ w w':=by
 have kJ:=hm.now.one;have hc:=hm.now.b.cap;have he:=jy ok.cJ;have hlen:=ok.len;have abb:∀j,∀u∈ai ((m.B.es.drop k).take j),(Lit.int .i64 u).wf=true:=fun j u hu=>hm.now.b.row.wf u (IL hu);have HR:∀w,nj w m→RowK .i64 w (gD m.a k 6 m.c) (6*(m.B.es.length-k)) (ai (m.B.es.drop k)):=fun w h=>by
  have:=tj h.b.row (k:=k) (m:=m.B.es.length-k) (c:=m.c) (by omega) hc;rwa [tr]at this
 refine en (H:=[]) 45 [vi (q:Int),vf 47 (iO m),vi (k:Int)] Tryz.func121 rfl rfl (nZ (G:=fun w=>nj w m) hU hm) (r [] rfl fun α=> ?_);refine jH (fun w2 hS=>hS.zJ w.heap.size 167 10) ?_;refine ic (X:=Nat×Value) ⟨fun x=>[(0,vi (q:Int)),(4,vp 0 0 (α 0)),(7,vv x.2),(14,vv (.slice (gD m.a k 6 m.c) (m.B.es.length-k) (m.c-k))),(15,vi ((m.B.es.length-k:Nat):Int)),(16,vi (x.1:Int))],fun _=>[⟨α 0,117,[.f 47 (iO m)]⟩],fun x b=>x.2.ownBlock=some b∨U b,fun _ w=>nj w m,fun x w'=>bZ w w'∧w'.ownsRow w.heap.size 167 10 x.2 (kQ q m.B k x.1).length ((aB (kQ q m.B k x.1)).map (.int .i64)),fun x=>x.1≤m.B.es.length-k,fun x=>m.B.es.length-k-x.1⟩ (0,.slice none 0 0) ⟨rfl,rfl,rfl,rfl,rfl,rfl,trivial⟩ (fun w hS=>hS) (Nat.zero_le _) ?_;rintro f ⟨j,v7⟩ hj;have hj:j≤m.B.es.length-k:=hj;have Zz:=F7 (q:=q) (B:=m.B) (k:=k) (j:=j) hj;by_cases aL:j<m.B.es.length-k
 ·obtain⟨e2,V9⟩:∃e2,(m.B.es.drop k)[j]? =some e2:=⟨(m.B.es.drop k)[j]'(by rw[List.length_drop];omega),List.getElem?_eq_getElem _⟩;obtain⟨bb,bo,hsa⟩:=oD (HR w hm.now) (by omega);refine sv 14 (vv (.slice (some ⟨bb,bo,none⟩) (m.B.es.length-k) (m.c-k))) (congrArg (fun b=>Value.slice b (m.B.es.length-k) (m.c-k)) hsa) (r [1] rfl fun _=>lf (q:=bo+j*6) rfl 6 (lF [iV e2.k,iV e2.p,iV e2.i,iV e2.b,iV e2.he,iV e2.hn]) (fun w hS=>jJ (hsa▸HR w hS.now.1) (by omega) (rO V9)) (sv 19 (vg [.o (iV e2.k),.o (iV e2.p),.o (iV e2.i),.o (iV e2.b),.o (iV e2.he),.o (iV e2.hn)]) rfl ?_));refine r [] rfl fun _=>qJ 2 rfl qX (fun w hS=>hS.now.2.1.size) (fun _ _ h c=>cS h c (Nat.le_refl _)) fun g c hc=> ?_;exact rz [1] [((j+1:Nat):Int)] rfl fun _=>bU (j+1,_) ⟨rfl,rfl,rfl,(congrArg (fun b=>Value.slice b (m.B.es.length-k) (m.c-k)) hsa).symm,rfl,rfl,trivial⟩ (fun w hS=>(hS.take 1).sr fun w h=>⟨h.1,by rw[BG V9,List.length_append,FO];exact h.2⟩) (show j+1≤m.B.es.length-k by omega) (show m.B.es.length-k-(j+1)<m.B.es.length-k-j by omega)
 obtain rfl:j=m.B.es.length-k:=by omega
 by_cases hr:m.B.r=1
 case neg=>
  refine r [0,0] rfl fun _=>fin fun w1 hS=> ?_;have ho:w1.ownsRow w.heap.size 167 10 v7 (kQ q m.B k (m.B.es.length-k)).length ((aB (kQ q m.B k (m.B.es.length-k))).map (.int .i64)):=hS.now.2.2;obtain⟨a,c,rfl,de,jo,_,Of,hf⟩:=RowK.fY ho (KD hq he (abb _));rw[Zz]at de jo;exact⟨a,c,m.B.es.length-k,by rw[Zz];rfl,by rw[yN hr,Zz],by rw[yN hr];exact bT de hf hU,jo,Of,hS.now.2.1⟩
 have GO:=sS hr;obtain⟨ei,e9,ej⟩:=F8 (q:=q) (k:=k) hr GO;have abc:=F7 (q:=q) (B:=m.B) (k:=k) (j:=m.B.es.length-k-1) (by omega);have LM:(kQ q m.B k (m.B.es.length-k-1)++[(⟨6,q,m.B.e,0,k_⟩:Rec)]).length=m.B.es.length-k:=by rw[List.length_append,abc,List.length_singleton];omega
 have vA:∀u∈aB (kQ q m.B k (m.B.es.length-k-1)++[(⟨6,q,m.B.e,0,k_⟩:Rec)]),(Lit.int .i64 u).wf=true:=fun u hu=>by
  rw[show aB (kQ q m.B k (m.B.es.length-k-1)++[(⟨6,q,m.B.e,0,k_⟩:Rec)])=aB (kQ q m.B k (m.B.es.length-k-1))++bj ⟨6,q,m.B.e,0,k_⟩ by simp[aB]]at hu;exact(List.mem_append.1 hu).elim (KD hq he (abb _) u) (oU (by decide) hq he (by decide) pV u)
 refine ob (v:=v7) (l:=(kQ q m.B k (m.B.es.length-k)).length) (L:=(aB (kQ q m.B k (m.B.es.length-k))).map (.int .i64)) (by omega) hU fun g c F e0 qk On hF=> ?_;subst e0;have hF0:∀i,i<10*(kQ q m.B k (m.B.es.length-k)).length→F i=iV ((aB (kQ q m.B k (m.B.es.length-k))).getD i 0):=fun i hi=>by
  have:=hF i (by omega);rw[List.getElem?_map]at this;rw[List.getD_eq_getElem?_getD];cases h:(aB (kQ q m.B k (m.B.es.length-k)))[i]? with
  |none=>rw[h]at this;cases this
  |some y=>rw[h]at this;exact(Option.some.inj this).symm
 rw[ej]at hF0;have hF2:=Q2 (y:=⟨6,q,m.B.e,0,k_⟩) hF0;rw[abc]at hF2;refine sv 7 (vv (.slice (some ⟨g,0,none⟩) (m.B.es.length-k) c)) (congrArg (fun n=>Value.slice (some ⟨g,0,none⟩) n c) Zz) (rz [0,1,1] [((m.B.es.length-k-1:Nat):Int)] rfl fun _=>so (g:=lF [iV 6,iV (q:Int),iV m.B.e,iV 0,iV 0,iV 0,iV 0,iV 0,iV 0,iV 0]) rfl rfl rfl 1 rfl _ (fun _ _=>rfl) ?_ (PL rfl) (show 0+(m.B.es.length-k-1)*10+10≤c*10 by omega));refine r [] rfl fun _=>fin fun w1 hS=> ?_;have de:=Yn (U:=U) (hS.at 1 rfl) (fun h=>hS.off _ (List.mem_of_getElem? (i:=1) rfl) h) (by rw[ia,LM];show _≤c*10;omega) (fun i hi=>hF2 i (by rw[ia]at hi;exact hi)) vA;rw[ia,LM]at de;exact⟨some ⟨g,0,none⟩,c,m.B.es.length-k,rfl,by rw[ei,LM],fun w2 c2=>by rw[ei];exact de w2 c2,by omega,(fun h=>by cases h),hS.now.2⟩
theorem BH{P:Prop}{_:Decidable (¬P)}{α:Type}{x y z:α}(h:(if ¬P then x else y)=z):x=z∨P∧y=z:=by
 by_cases hp:P
 ·rw[if_neg (fun h=>h hp)]at h;exact .inr ⟨hp,h⟩
 ·rw[if_pos hp]at h;exact .inl h
theorem yO{B B':Bt}{ep yM er:Int}{l:List Ev}{la:Bool}(h:a_ B ep yM l la=(B',er)):(B'=Bt.zero∧¬er=0)∨(B'.Ok∧er=0∧B.r=4∧B'=if la then(B.more (l.drop (B.es.length-yM.toNat))).broken else B.more (l.drop (B.es.length-yM.toNat))):=by
 have no:∀{e:Int},¬e=0→(Bt.zero,e)=(B',er)→B'=Bt.zero∧¬er=0:=fun h0 h=>⟨(Prod.mk.inj h).1.symm,(Prod.mk.inj h).2▸h0⟩;unfold a_ at h;rcases BH h with h|⟨_,h⟩
 ·exact .inl (no (by decide) h)
 rcases BH h with h|⟨h4,h⟩
 ·exact .inl (no (by decide) h)
 rcases BH h with h|⟨_,h⟩
 ·exact .inl (no (by decide) h)
 rcases BH h with h|⟨_,h⟩
 ·exact .inl (no (by decide) h)
 rcases BH h with h|⟨_,h⟩
 ·exact .inl (no (by decide) h)
 rcases BH h with h|⟨ho,h⟩
 ·exact .inl (no (by decide) h)
 ·exact .inr ⟨(Prod.mk.inj h).1▸ho,(Prod.mk.inj h).2.symm,h4,(Prod.mk.inj h).1.symm⟩
theorem Nf{B B':Bt}{ep yM:Int}{l:List Ev}{la:Bool}(h:a_ B ep yM l la=(B',0)):B.es.length≤B'.es.length∧(B'.r=1→B.es.length<B'.es.length):=by
 rcases yO h with⟨_,h0⟩|⟨_,_,h4,rfl⟩
 ·exact absurd rfl h0
 ·cases la with
  |true=>
   simp only[if_true,Bt.broken,Bt.more,List.length_append,List.length_singleton];exact⟨by omega,fun _=>by omega⟩
  |false=>
   simp only[Bool.false_eq_true,if_false,Bt.more,List.length_append];exact⟨by omega,fun h=>by omega⟩
theorem qB{B B':Bt}{ep yM er:Int}{l:List Ev}{la:Bool}(h:a_ B ep yM l la=(B',er)):B'.Ok:=by
 rcases yO h with⟨rfl,_⟩|⟨ho,_⟩
 ·exact Bt.cR
 ·exact ho
theorem Q3{es:List Ev}{s:St}{bu:List An}(h:bm es s bu):∀v∈es,v.Ok:=by
 induction h with
 |nil=>intro v hv;cases hv
 |snoc h hv st ih=>
  intro x hx;rcases List.mem_append.1 hx with hx|hx
  ·exact ih x hx
  ·rw[List.mem_singleton.1 hx];exact hv
theorem Ng{q k:Nat}{B:Bt}(hq:q<4)(ok:B.Ok):∀r∈di q B k,r.fault=0:=by
 obtain⟨s,bu,ht⟩:=ok.told;have he:=jy ok.cJ;have H4:=Q3 ht;have h5:∀es:List Ev,(∀v∈es,v∈B.es)→∀r∈es.map (fun e=>(⟨5,q,B.e,0,e⟩:Rec)),r.fault=0:=fun es Wz r hr=>by
  obtain⟨e,hm,rfl⟩:=List.mem_map.1 hr;exact QJ (.inr rfl) hq he (H4 e (Wz e hm))
 intro r hr;unfold di at hr;split at hr
 ·rcases List.mem_append.1 hr with hr|hr
  ·exact h5 _ (fun v hv=>List.mem_of_mem_drop (List.dropLast_subset _ hv)) r hr
  ·rw[List.mem_singleton.1 hr];exact tq (by decide) (by decide) hq he (by decide)
 ·exact h5 _ (fun v hv=>List.mem_of_mem_drop hv) r hr
theorem U5{q k:Nat}{B:Bt}(hr:B.r=1→k<B.es.length):(di q B k).length=B.es.length-k:=by
 unfold di;split
 ·rename_i h;have:=hr h;rw[List.length_append,List.length_map,List.length_dropLast,List.length_drop,List.length_singleton];omega
 ·rw[List.length_map,List.length_drop]
section
variable{u:Nv}{v:Wv}{l:Lt}{B8:Bt}{er:Int}
theorem F_(h:a_ (u.m l.q).B l.ep l.pl l.es l.la=(B8,er))(h0:¬er=0):takeN u.pure v.pure l=(u.pure,v.pure):=by
 unfold takeN;rw[h,if_pos h0]
theorem BI(h:a_ (u.m l.q).B l.ep l.pl l.es l.la=(B8,0))(hl:B8.es.length=(u.m l.q).B.es.length):takeN u.pure v.pure l=(u.pure,v.pure):=by
 unfold takeN;rw[h,if_neg (fun h=>h rfl),if_pos hl]
theorem BJ(h:a_ (u.m l.q).B l.ep l.pl l.es l.la=(B8,0))(hl:¬B8.es.length=(u.m l.q).B.es.length)(hf:100000<u.dl.length+(bP (di l.q B8 (u.m l.q).B.es.length)).length):takeN u.pure v.pure l=(u.pure,v.pure):=by
 unfold takeN mO;rw[h,if_neg (fun h=>h rfl),if_neg hl,if_neg (Nat.not_le.2 hf)];rfl
theorem Ga(h:a_ (u.m l.q).B l.ep l.pl l.es l.la=(B8,0))(hl:¬B8.es.length=(u.m l.q).B.es.length)(hf:u.dl.length+(bP (di l.q B8 (u.m l.q).B.es.length)).length≤100000):takeN u.pure v.pure l=({u.pure with dl:=u.dl++bP (di l.q B8 (u.m l.q).B.es.length),af:=some (.take l B8)},v.pure):=by
 unfold takeN mO;rw[h,if_neg (fun h=>h rfl),if_neg hl,if_pos hf];rfl
end
theorem U6(X N:Nat)(u:Nv)(v:Wv)(F U:tD)(w:tA)(hw:NW w X N u v F U)(P:Nat)(l:Lt)(a:tB)(c:Nat)(hq:l.q<4)(Wz:l.es.length≤2000)(hl:bR U w fun w=>eu w P l a c):cA 70 #[lp N,lp P] w fun x w'=>x= .returned (.tuple #[])∧∃u' v' F',Dn w X N u v F U (takeN u.pure v.pure l) u' v' F' w':=by
 have ho:aT (iO (u.m l.q)) 47:=dY (hw.st.now.1.mo l.q hq).one;have abd:=hl.now.nil;have abe:=hl.now.cap;refine en (H:=[nE X N u]) 58 [vp 0 0 N,vv (lp P)] Tryz.func70 rfl rfl (hw.init (G:=fun w=>eu w P l a c) hl) ?_;refine r [3] rfl fun α=>l1 rfl (iV (l.q:Int)) (fun w hS=>hS.now.1.2.b.at 3 (cF rfl)) (r [1] rfl fun _=>lo rfl rfl 0 rfl 47 (iO (u.m l.q)) (fun i hi=>nh hq hi) ?_);refine r [] rfl fun β=>cut (X:=Nat×Int×L5) (fun x=>[(2,vp 1 0 (α 0)),(3,vp 2 0 (α 1)),(4,vp 3 0 (β 0)),(5,vp 4 0 x.1),(6,vi x.2.1)]) (fun x=>[nE X N u,npE (α 0) 0 N,lpE (α 1) P,mgE (β 0) (u.m l.q),moE x.1 x.2.2.1 x.2.2.2.1 x.2.2.2.2.1 x.2.2.2.2.2]) (fun _ b=>F b∨(U b∧b≠N)) (fun x w=>((u.In w N∧∀r∈v.fl,ni w r)∧eu w P l a c)∧PO x.2.2 w) (fun _=>RW X (fun b=>b∈[N]) F w v F) (fun x=>a_ (u.m l.q).B l.ep l.pl l.es l.la=(x.2.2.1,x.2.1)) ?_ (r [4] rfl fun _=>l1 rfl (iV l.ep) (fun w hS=>hS.now.1.2.b.at 17 (cF rfl)) (r [] rfl fun _=>l1 rfl (iV l.pl) (fun w hS=>hS.now.1.2.b.at 18 (cF rfl)) (r [] rfl fun _=>l1 rfl (.slice a l.es.length c) (fun w hS=>hS.now.1.2.b.at 19 (cF rfl)) (r [] rfl fun _=>l1 rfl (.bool l.la) (fun w hS=>hS.now.1.2.b.at 20 (cF rfl)) ?_))))
 case refine_2=>
  repeat' first|refine Cq ?_ ?_|(refine cx (g:=120) rfl (fun y:Int×L5=>vt [Ie y.2,.o (iV y.1)]) (fun y=>a_ (u.m l.q).B l.ep l.pl l.es l.la=(y.2.1,y.1)∧aT y.2.2.2.2 41) (fun y=>PO y.2) ?_ ?_;exact fun w hS=>(F6 _ (u.m l.q).B (u.m l.q).a (u.m l.q).c (u.m l.q).g l.ep l.pl l.es a l.es.length c l.la w hS.ult (fun w2 c2=>(hS.g w2 c2).1.1.mo l.q hq) (hw.ok.ok l.q hq) (fun w2 c2=>(hS.g w2 c2).2.row) rfl abd abe Wz).mono fun _ _ ⟨_,B8,er8,h0,fh,⟨a8,c8,g8,hy,hm8⟩,b⟩=>⟨(er8,B8,a8,c8,g8),by rw[h0,hy];rfl,b,⟨fh,hm8.now.one⟩,fun _=>hm8⟩;rintro⟨er8,B8,a8,c8,g8⟩ ⟨fh,o8⟩)|refine rs [] rfl rfl fun _=> ?_
  all_goals exact bU (_,er8,B8,a8,c8,g8) ⟨rfl,rfl,rfl,rfl,rfl,trivial⟩ (fun w hS=>hS.G_ [0,1,2,3,4] (by decide)) fh Nat.zero_lt_one
 rintro f ⟨R5,er8,B8,a8,c8,g8⟩ fh;have fh:a_ (u.m l.q).B l.ep l.pl l.es l.la=(B8,er8):=fh;by_cases h0:er8=0
 case neg=>exact r [1] rfl fun _=>fin fun w hS=>⟨rfl,u,v,F,Dn.fin hS hw.ub hw.nu (fun _ h=>⟨h.1.1.1,h.1.1.2⟩) hw.ok rfl rfl rfl rfl rfl (by rw[F_ fh h0]) (by rw[F_ fh h0])⟩
 subst h0;have hio:=Nf fh;have abf:=U5 (q:=l.q) hio.2;have ahr:=hio.1;refine r [0,4] rfl fun _=>l1 rfl (iV (l.q:Int)) (fun w hS=>hS.now.1.1.2.b.at 3 (cF rfl)) (r [] rfl fun _=>cx rfl (fun y:Option Addr×Nat×Nat=>vv (.slice y.1 y.2.1 y.2.2)) (fun y=>y.2.1=(di l.q B8 (u.m l.q).B.es.length).length) (fun y w=>RowK .i64 w y.1 (10*y.2.1) (aB (di l.q B8 (u.m l.q).B.es.length))) (fun w hS=>(F9 _ l.q hq ⟨B8,a8,c8,g8⟩ (u.m l.q).B.es.length hio.1 (qB fh) hio.2 w hS.ult (fun w2 c2=>(hS.g w2 c2).2)).mono fun _ _ ⟨a9,c9,n9,h0,hn9,hr9,hc9,hz9,b⟩=>⟨(a9,n9,c9),h0,b,hn9,fun _=>hr9⟩) ?_);intro y hn9;replace hn9:y.2.1=(di l.q B8 (u.m l.q).B.es.length).length:=hn9;have Qt:=hn9.trans abf;refine r [] rfl fun _=> ?_;by_cases rX:B8.es.length=(u.m l.q).B.es.length
 ·exact r [1] rfl fun _=>fin fun w hS=>⟨rfl,u,v,F,Dn.fin hS hw.ub hw.nu (fun _ h=>⟨h.1.1.1.1,h.1.1.1.2⟩) hw.ok rfl rfl rfl rfl rfl (by rw[BI fh rX]) (by rw[BI fh rX])⟩
 refine r [0] rfl fun _=>c0 rfl fun w1 hS=> ?_;obtain⟨nP,hu2,hu3⟩:=hS.qI;refine(iN X N u.i u.da u.dl.length u.dc u.dl u.sy (fun p=>iO (u.m p)) u.hn u.he u.wt u.af u.tu u.ct u.ub u.sk (.func 122) #[] #[.pointer (some ⟨α 0,0,none⟩),.pointer (some ⟨α 1,0,none⟩),.pointer (some ⟨R5,0,none⟩)] (di l.q B8 (u.m l.q).B.es.length) y.1 y.2.1 y.2.2 _ (hS.at 0 rfl) _ nP hu2 (fun w2 cc=>⟨(hu3 w2 cc).1.1.1.1.row,(hu3 w2 cc).2⟩) hw.ok.nil hw.ok.cap hw.ok.max hw.ok.len hw.ok.s0 hw.ok.s1 hn9 (by have:=(qB fh).len;omega) (Ng hq (qB fh))).mono ?_;rintro _ w2 ⟨k,rfl,ch,⟨rfl,iF,a2,c2,uU,st2,jo,qL,si⟩|⟨rfl,iF,uU⟩⟩
 ·refine⟨vv (.bool true),_,_,rfl,ch,uU,st2,r [] rfl fun _=>c_ rfl fun w3 hS=> ?_⟩;let u2:Nv:={u with da:=a2,dc:=c2,dl:=u.dl++bP (di l.q B8 (u.m l.q).B.es.length),af:= .func (.func 122) #[] #[.pointer (some ⟨α 0,0,none⟩),.pointer (some ⟨α 1,0,none⟩),.pointer (some ⟨R5,0,none⟩)],ax:=some (.take l B8),ad:=⟨α 0,α 1,R5,0,P,a,c,⟨B8,a8,c8,g8⟩⟩};replace hS:=((hS.take 1).add (hS.kept 4 rfl 1 (cF rfl))).add (hS.kept 1 rfl 1 (cF rfl))|>.add (hS.kept 2 rfl 1 (cF rfl))
  replace hS:=hS.congr 0 rfl (lh X u2) (fun i _=>by simp only[u2,lh,List.length_append];rfl);exact⟨rfl,u2,v,F,Dn.fin hS hw.ub hw.nu (fun _ h=>⟨⟨by rw[List.length_append];exact h.1.1.1.2,h.1.1.1.1.1.1.1.1.mo,⟨rfl,h.1.1.2,h.1.2,h.2,h.1.1.1.1.1.1.2,h.1.1.1.1.1.2,rfl⟩,h.1.1.1.1.1.1.1.1.wl⟩,h.1.1.1.1.1.1.1.2⟩) (⟨hw.ok.ok,qL,by rw[List.length_append];exact jo,si,by rw[List.length_append];exact iF,hw.ok.s0,by rw[List.length_append];show u.sy≤_;have:=hw.ok.s1;omega,hw.ok.i5,⟨hq,qB fh⟩⟩) rfl rfl rfl rfl rfl (by rw[Ga fh rX iF]) (by rw[Ga fh rX iF])⟩
 ·refine⟨vv (.bool false),_,fun _=>True,rfl,ch,uU,fun _ _=>trivial,r [] rfl fun _=>c_ rfl fun w hS=> ?_⟩;exact⟨rfl,u,v,F,Dn.fin hS hw.ub hw.nu (fun _ h=>⟨h.1.1.1.1.1,h.1.1.1.1.2⟩) hw.ok rfl rfl rfl rfl rfl (by rw[BJ fh rX iF]) (by rw[BJ fh rX iF])⟩
end
theorem YB{l:Lt}(h:lT l):∃g,F5 l.kd=some g∧QV g l:=by
 rcases h.kd with hk|hk|hk|hk|hk
 ·refine⟨67,by rw[hk];decide,by kernel_rfl,fun X N u v F U w P a c hw hl h1 h2=> ?_⟩;have e:∀n s,cp n s l=fO n s l:=fun n s=>by simp[cp,hk]
  rw[e];exact QQ X N u v F U w hw P l a c h.q h.op hl h1 h2
 ·refine⟨68,by rw[hk];decide,by kernel_rfl,fun X N u v F U w P a c hw hl h1 h2=> ?_⟩;have e:∀n s,cp n s l=iP n s l:=fun n s=>by simp[cp,hk]
  rw[e];exact QN X N u v F U w hw P l a c h.q hl h1 h2
 ·refine⟨69,by rw[hk];decide,by kernel_rfl,fun X N u v F U w P a c hw hl h1 h2=> ?_⟩;have e:∀n s,cp n s l=gJ n s l:=fun n s=>by simp[cp,hk]
  rw[e];exact QO X N u v F U w hw P l a c h.q hl h1 h2
 ·refine⟨70,by rw[hk];decide,by kernel_rfl,fun X N u v F U w P a c hw hl h1 h2=> ?_⟩;have e:∀n s,cp n s l=takeN n s l:=fun n s=>by simp[cp,hk]
  rw[e];exact U6 X N u v F U w hw P l a c h.q h.es hl
 ·refine⟨71,by rw[hk];decide,by kernel_rfl,fun X N u v F U w P a c hw hl h1 h2=> ?_⟩;have e:∀n s,cp n s l=iQ n s l:=fun n s=>by simp[cp,hk]
  rw[e];exact QM X N u v F U w hw P l a c h.q hl
def fj(s:tJ)(b:Nat):Prop:=∃o n c,s= .slice (some ⟨b,o,none⟩) n c
theorem eX.blk{w:tA}{B:Nat}{s:tJ}{ls:List Lr}(h:eX w B s ls){b:Nat}(hb:fj s b):b=B:=by
 obtain⟨o,n,c,rfl⟩:=hb;obtain⟨a,c',he,_,_,⟨rfl,_⟩|⟨o',n',f,rfl,_⟩⟩:=h.ex
 ·cases he
 ·cases he;rfl
theorem eX.still{w w':tA}{B:Nat}{s:tJ}{ls:List Lr}(h:eX w B s ls)(hb:fj s B→w'.heap[B]? =w.heap[B]?):eX w' B s ls:=by
 obtain⟨a,c,rfl,hl,hm,⟨rfl,rfl⟩|⟨o,n,f,rfl,fb,hn,hk⟩⟩:=h.ex
 ·exact⟨none,0,rfl,hl,hm,.inl ⟨rfl,rfl⟩⟩
 ·exact⟨_,c,rfl,hl,hm,.inr ⟨o,n,f,rfl,fb.same (hb ⟨_,_,_,rfl⟩),hn,hk⟩⟩
theorem eX.lt{w:tA}{B:Nat}{s:tJ}{ls:List Lr}(h:eX w B s ls){b:Nat}(hb:fj s b):b<w.heap.size:=by
 obtain⟨o,n,c,rfl⟩:=hb;obtain⟨a,c',he,_,_,⟨rfl,_⟩|⟨o',n',f,rfl,fb,_⟩⟩:=h.ex
 ·cases he
 ·cases he;exact fb.lt
theorem eX.any{w:tA}{B C:Nat}{s:tJ}{ls:List Lr}(h:eX w B s ls)(hn:¬fj s B):eX w C s ls:=by
 obtain⟨a,c,rfl,hl,hm,⟨rfl,rfl⟩|⟨o,n,f,rfl,fb,_,hk⟩⟩:=h.ex
 ·exact⟨none,0,rfl,hl,hm,.inl ⟨rfl,rfl⟩⟩
 ·exact absurd ⟨_,_,_,rfl⟩ hn
theorem Gb{w':tA}{R c n o:Nat}{ls:List Lr}{r:Lr}{f:tC}(hl:ls.length+1≤c)(hm:c≤maxLen)(fb:aZ w' R 171 n f)(hn:o+c≤n)(h1:∀k r,ls[k]? =some r→f (o+k)=lp r.p)(h2:f (o+ls.length)=lp r.p):eX w' R (.slice (some ⟨R,o,none⟩) (ls.length+1) c) (ls++[r]):=by
 refine⟨_,c,by rw[List.length_append,List.length_singleton],by rw[List.length_append,List.length_singleton];exact hl,hm,.inr ⟨o,n,f,rfl,fb,hn,fun k x hx=> ?_⟩⟩;by_cases hk:k<ls.length
 ·rw[List.getElem?_append_left hk]at hx;exact h1 k x hx
 ·rw[List.getElem?_append_right (by omega)]at hx;have h0:=(List.getElem?_eq_some_iff.1 hx).1;rw[List.length_singleton]at h0;obtain rfl:k=ls.length:=by omega
  simp only[Nat.sub_self,List.getElem?_cons_zero,Option.some.injEq]at hx;rw[←hx];exact h2
section
variable{P:tS}{ops:tL}{Q:tH}{V:tR}{fx fl:tR}{n:Nat}{f:tC}{w:tA}{i:Nat}{t:Ord}{o:Oper}{d:Nat}
theorem aet{s ku b B:Nat}{x y:tP}{g:tC}{v:tJ}{ls:List Lr}{r:Lr}(ht:jk P s 171 1 ku=true)(hr:eX w B v ls)(hl:(ls.length+1)*ku≤140737488355328)(vQ:ls.length+1≤maxLen)(fb:aZ w b 171 1 g)(hg:g 0=lp r.p)(MR:fx.contains i=true)(ho:ops[i]? =some o)(hd:o.dst=some d)(hw:Region.wanted o (yielded ops (kn n f))=true)(hK:iU n ops=true)(hp:o.op= .call ⟨.builtin .append,#[x,y],#[s,s]⟩)(hx:ev f x=v)(hy:ev f y= .slice (some ⟨b,0,none⟩) 1 1)
  (h:∀w' v' B',eX w' B' v' (ls++[r])→dk (fj v) w w'→(∀b,fj v' b→fj v b∨w.heap.size≤b)→WF P ops Q V fx fl t n (up f d v') w'):WF P ops Q V fx fl (.ef i t) n f w:=by
 obtain⟨hu,ti,z,hi,hz,hs,zx,Jx,ij⟩:=AH ht;have pS:∀u∈bW g 0 1,u.oneCell'=true:=fun u hu=>by
  simp only[bW,List.mem_map,List.mem_range,Nat.zero_add]at hu;obtain⟨j,hj,rfl⟩:=hu;obtain rfl:j=0:=by omega
  rw[hg];rfl
 have hcut:bW g 0 1=[lp r.p]:=by simp[bW,hg]
 have grown:∀{v':tJ} {w':tA},w'.ownsRow w.heap.size 171 1 v' (ls.length+1) ((ls.map fun r=>lp r.p)++[lp r.p])→∃R c,v'= .slice (some ⟨R,0,none⟩) (ls.length+1) c∧w.heap.size≤R∧eX w' R v' (ls++[r]):=fun {v' w'} ho=>by
  obtain⟨_,⟨e1,h0⟩|⟨R,c,cur,e1,hge,hb,qk,On,vu,IM⟩⟩:=ho
  ·omega
  ·refine⟨R,c,e1,hge, ?_⟩;rw[e1];have cell:∀j u,((ls.map fun r=>lp r.p)++[lp r.p])[j]? =some u→cur.getD j undef=u:=fun j u hj=>by
    rw[←IM]at hj;rw[List.getElem?_take]at hj;split at hj
    ·rw[Array.getD_eq_getD_getElem?,←Array.getElem?_toList,hj];rfl
    ·cases hj
   refine Gb qk On (Ck hb vu) (by omega) (fun k x hx=> ?_) ?_
   ·have hk:=(List.getElem?_eq_some_iff.1 hx).1;exact cell (0+k) _ (by rw[Nat.zero_add,List.getElem?_append_left (by simpa using hk),List.getElem?_map,hx];rfl)
   ·exact cell (0+ls.length) _ (by rw[Nat.zero_add,List.getElem?_append_right (by simp)];simp)
 obtain⟨a,c,rfl,qk,hm,⟨rfl,rfl⟩|⟨off,m,f0,rfl,fB,hn,hk⟩⟩:=hr.ex
 ·obtain rfl:ls=[]:=List.length_eq_zero_iff.1 (by omega);have own:w.ownsRow w.heap.size 171 1 (.slice none 0 0) 0 []:=⟨by simp,.inl ⟨rfl,rfl⟩⟩;obtain⟨g1,cap,w1,sS,ho1,hgr,hat,aL⟩:=run_append_lies (P:=P) w s o.type w.heap.size 171 ti z 1 ku hu hi hz hs zx Jx ij _ 0 _ own ⟨b,0,none⟩ 1 1 (bW g 0 1) (by simp[bI]) (wI fb) pS (by omega) (by unfold maxLen;omega) (by simpa using hl) (Nat.le_refl _) w.heap.size rfl;rw[hcut]at ho1;obtain⟨R,c,e1,hge,de⟩:=grown (v':= .slice (some ⟨g1,0,none⟩) (0+1) cap) ho1;refine nV ho hd hw hK (rC hp hx hy sS) (fW MR) (h _ _ R de ⟨hgr.os,hgr.tape,hgr.output,hgr.size,fun x hx _=>hgr.block x hx (by simp[Value.ownBlock])⟩ fun b hb=> .inr ?_);rw[de.blk hb];exact hge
 ·by_cases BK:ls.length+1≤c
  ·have sS:=run_append_room_cells (P:=P) w s o.type 171 ti hu hi B off ls.length c ⟨b,0,none⟩ 1 1 (bW g 0 1) (by simp[bI,hs]) (wI fb) pS BK (fun j hj=>by
    rw[bI]at hj
    rw[hs,fB.at _ (by omega)];rfl) (fun j _=>fB.free _)
   rw[hs,Nat.mul_one]at sS;have tn:=az.su B (bW g 0 1) (off+ls.length) w;refine nV ho hd hw hK (rC hp hx hy sS) (fW MR) (h _ _ B (Gb BK hm (fB.put (off+ls.length) 1 g (by omega)) hn (fun k x hx=> ?_) ?_) ⟨tn.os,tn.tape,tn.output,Nat.le_of_eq tn.size.symm,fun x _ hx=>tn.block x fun e=>hx (e▸⟨_,_,_,rfl⟩)⟩ fun b hb=> .inl ?_)
   ·rw[py _ _ _ _ _ (.inl (by have:=(List.getElem?_eq_some_iff.1 hx).1;omega))];exact hk k x hx
   ·have:=BZ f0 (off+ls.length) 1 g 0 (by omega);rw[Nat.add_zero]at this;rw[this,hg]
   ·obtain⟨o1,n1,c1,e⟩:=hb;cases e;exact⟨_,_,_,rfl⟩
  ·obtain⟨v1,w1,sS,ho1,hgr⟩:=run_append_arg_grows (P:=P) w s o.type 171 ti z 1 ku hu hi hz hs zx Jx ij ⟨B,off,none⟩ ls.length c (ls.map fun r=>lp r.p) (by simp) (fun j u hj=>by
    rw[List.getElem?_map]at hj;cases hx:ls[j]? with
    |none=>rw[hx]at hj;cases hj
    |some y=>
     rw[hx]at hj;cases hj;have aL:=(List.getElem?_eq_some_iff.1 hx).1;rw[Addr.add_mid,fB.at _ (by omega),hk j y hx]) ⟨b,0,none⟩ 1 1 (bW g 0 1) (by simp[bI]) (wI fb) (by omega) vQ hl
   rw[hcut]at ho1;obtain⟨R,c',e1,hge,de⟩:=grown ho1;refine nV ho hd hw hK (rC hp hx hy sS) (fW MR) (h _ _ R de ⟨hgr.os,hgr.tape,hgr.output,hgr.size,fun x hx _=>hgr.block x hx (by simp)⟩ fun b hb=> .inr ?_);rw[de.blk hb];exact hge
end
section
open Rv
structure Tw(X N:Nat)(v:Wv)(F:tD)(B:Nat)(s0 s:tJ)(ls:List Lr)(w0 x:tA):Prop where
 wo:WO x X v F
 mv:Mv (fun b=>b=N∨fj s0 b) w0 (fun b=>b=N∨fj s b) x
 rw:eX x B s ls
section
variable{P:tS}{ops:tL}{Q:tH}{V:tR}{fx fl:tR}{n:Nat}{f:tC}{w:tA}{i:Nat}{t:Ord}{o:Oper}{d:Nat}
theorem Tw.init{X N Tn nn B:Nat}{fN:tC}{v:Wv}{F:tD}{s:tJ}{ls:List Lr}{G:tI}(hW:WO w X v F)(hb:aZ w N Tn nn fN)(hN:¬F N)(hr:eX w B s ls)(hs:∀b,fj s b→b≠N)(g:bR (fun b=>b=N∨fj s b) w G):Mem w [⟨N,Tn,nn,fN⟩] (fun b=>fj s b∨False) G (Tw X N v F B s s ls w):=by
 have hm:=Mem.begin (H:=[⟨N,Tn,nn,fN⟩]) (M:=fun b=>fj s b∨False) (G:=G) (fun e he=>by cases List.mem_singleton.1 he;exact hb) (by simp) (fun e he=>by cases List.mem_singleton.1 he;exact fun h=>h.elim (fun h=>hs _ h rfl) False.elim) (fun b h=>h.elim (fun h=>hr.lt h) False.elim) (fun w2 c2=>g w2 (c2.mono fun b h=>h.elim (fun h=> .inl (by simpa using h)) fun h=>h.elim .inr False.elim));refine⟨hm.ib,hm.nT,hm.off,hm.mlt,hm.g,fun w2 c2=> ?_⟩;have hc:dk (fun b=>b=N) w w2:=c2.mono fun b h=>by simpa using h
 exact⟨hW.Ch hc fun b e=>e▸hN,⟨hc.mono fun _=> .inl,fun _=> .inl,fun b h=>Nat.lt_of_lt_of_le (h.elim (fun e=>e▸hb.lt) fun h=>hr.lt h) hc.size⟩,hr.still fun h=>hc.block B (hr.lt h) (hs B h)⟩
theorem aeu{s ku b B X N Tn nn:Nat}{x y:tP}{g fN:tC}{v:Wv}{F:tD}{s0 vs:tJ}{ls:List Lr}{r:Lr}{w0:tA}{G:tI}(ht:jk P s 171 1 ku=true)(hS:Mem w [⟨N,Tn,nn,fN⟩] (fun b=>fj vs b∨False) G (Tw X N v F B s0 vs ls w0))(hF:∀b,fj vs b→¬F b)(hN:¬F N)(hl:(ls.length+1)*ku≤140737488355328)(vQ:ls.length+1≤maxLen)(fb:aZ w b 171 1 g)(hg:g 0=lp r.p)(MR:fx.contains i=true)(ho:ops[i]? =some o)(hd:o.dst=some d)(hw:Region.wanted o (yielded ops (kn n f))=true)(hK:iU n ops=true)(hp:o.op= .call ⟨.builtin .append,#[x,y],#[s,s]⟩)(hx:ev f x=vs)(hy:ev f y= .slice (some ⟨b,0,none⟩) 1 1)
  (h:∀w' v' B',Mem w' [⟨N,Tn,nn,fN⟩] (fun b=>fj v' b∨False) G (Tw X N v F B' s0 v' (ls++[r]) w0)→WF P ops Q V fx fl t n (up f d v') w'):WF P ops Q V fx fl (.ef i t) n f w:=by
 have aL:=(hS.at 0 rfl).lt;refine aet ht hS.now.2.rw hl vQ fb hg MR ho hd hw hK hp hx hy fun w' v' B' hr hc hb=>h w' v' B' ?_;have YC:Mv (fj vs) w (fj v') w':=⟨hc,hb,fun b hb=>hr.lt hb⟩;refine hS.mv (F:=fj vs) (F':=fj v') (T:=fun _=>False) YC fun w2 c2=> ?_;have jo:dk (fun b=>b=N) w' w2:=c2.mono fun b hb=>by simpa using hb
 have m2:Mv (fun b=>b=N∨fj vs b) w (fun b=>b=N∨fj v' b) w':=YC.less (fun _=> .inr) fun b hb=>hb.elim (fun e=> .inr ⟨.inl e,e▸aL⟩) .inl;refine⟨(hS.now.2.wo.Ch hc hF).Ch jo fun b e=>e▸hN,(hS.now.2.mv.trans m2).trans ⟨jo.mono fun _=> .inl,fun _=> .inl,fun b hb=>Nat.lt_of_lt_of_le (m2.l b hb) jo.size⟩,hr.still fun h1=>jo.block B' (hr.lt h1) fun e=> ?_⟩;rcases hb B' h1 with h2|h2
 ·exact hS.off _ (List.mem_singleton.2 rfl) (.inl (e▸h2))
 ·exact absurd aL (Nat.not_lt.2 (e▸h2))
end
namespace Rv
section
variable{n:Nat}{ops:tL}{f:Nat→AV}{fn:Func}{Rr:Ending→World→Prop}{Φ:tI}{ks:List Fr}{t:Ord}{i d:Nat}{md:Md}
theorem ar{s ku b B X N Tn:Nat}{x y:AV}{g:tC}{v:Wv}{F:tD}{s0 vs:tJ}{ls:List Lr}{w0:tA}{sg:List Sg}(r:Lr)(h1:OW n ops f i=some (d,s,x,y))(ht:jk Tryz.prog s 171 1 ku=true)(hF:∀b,fj vs b→¬F b)(hN:¬F N)(hl:(ls.length+1)*ku≤140737488355328)(vQ:ls.length+1≤maxLen)(fb:∀w,Φ w→aZ w b 171 1 g)(hg:g 0=lp r.p)(hn:∀v' B',G Tryz.prog fn Rr n (fun b=>fj v' b∨False) Φ (Tw X N v F B' s0 v' (ls++[r]) w0) (.g md ops t::ks) (ua f d (vv v')) [⟨N,Tn,sg⟩])(hx:x.val=vs:=by rfl)(hy:y.val= .slice (some ⟨b,0,none⟩) 1 1:=by rfl)(OP:md.vs.contains i=false:=by rfl):G Tryz.prog fn Rr n (fun b=>fj vs b∨False) Φ (Tw X N v F B s0 vs ls w0) (.g md ops (.ef i t)::ks) f [⟨N,Tn,sg⟩]:=by
 intro w hS hK;obtain⟨hK1,gW⟩:=bp.1 hK;show WF Tryz.prog ops (kq Tryz.prog fn Rr ks) md.va (nY md ops) (uq md ops) (.ef i t) n (cn f) w;obtain⟨o,p,r2,ho,hd,hw,hp,rfl,rfl⟩:=xl h1
 have Em:(nY md ops).contains i=true:=kv ho (by
  unfold mQ;rw[OP,hp]
  cases md.cb<;>rfl)
 refine aeu (r:=r) ht hS hF hN hl vQ (fb w hS.now.1) hg Em ho hd (eZ hw) (dI hK1).1 hp ((bB f p).symm.trans hx) ((bB f r2).symm.trans hy) fun w' v' B' zH=> ?_;have:=hn v' B' w' zH (bp.2 ⟨hK1,gW⟩);rw[jm]at this;exact this
end
end Rv
def toN(u:Nv)(r:Lr)(s:tJ):Nv:=if u.ub=true then {u with wt:=s,wl:=u.wl++[r]}else u
theorem toNode_wo(X:Nat)(v:Wv)(F:tD)(w:tA)(N i:Nat)(u:Nv)(B:Nat)(P:Nat)(l:Lt)(a:tB)(c:Nat)(hi:i<5)(hd:l.dst=(i:Int))(hNi:v.nd i=N)(hW:WO w X v F)(Bp:NB w X N u)(Wu:¬F N)(D7:eX w B u.wt u.wl)(hbn:∀b,fj u.wt b→b≠N)(hbf:∀b,fj u.wt b→¬F b)(hl:bR (fun b=>b=N∨fj u.wt b) w fun w=>eu w P l a c)(hlen:u.wl.length≤1000000000000):cA 72 #[lp X,lp P] w fun x w'=>x= .returned (.tuple #[])∧∃u' B',u'=toN u ⟨P,l,a,c⟩ u'.wt∧NB w' X N u'∧eX w' B' u'.wt u'.wl∧Mv (fun b=>b=N∨fj u.wt b) w (fun b=>b=N∨fj u'.wt b) w':=by
 have hS:=Tw.init hW Bp Wu D7 hbn hl;rcases lU:u.ub with _|_
 ·obtain⟨u1,rfl⟩:∃u1:Nv,u={u1 with ub:=false}:=⟨u,by rw[←lU]⟩;exact en (H:=[nE X N {u1 with ub:=false}]) 30 [vv (lp X),vv (lp P)] Tryz.func72 rfl rfl hS (r [1] rfl fun _=>l1 rfl (iV (i:Int)) (fun w hS=>by rw[←hd];exact hS.now.1.b.at 2 (cF rfl)) (r [1] rfl fun _=>l1 (q:=0+i*1) rfl (lp N) (fun w hS=>by rw[show 0+i*1=i by omega,←hNi];exact hS.now.2.wo.nd_ hi) (sv 13 (vp 0 0 N) rfl (r [] rfl fun _=>c_ rfl fun w hS=>⟨rfl,_,B,rfl,hS.at 0 rfl,hS.now.2.rw,hS.now.2.mv⟩))))
 ·obtain⟨u1,rfl⟩:∃u1:Nv,u={u1 with ub:=true}:=⟨u,by rw[←lU]⟩;refine en (H:=[nE X N {u1 with ub:=true}]) 30 [vv (lp X),vv (lp P)] Tryz.func72 rfl rfl hS (r [1] rfl fun _=>l1 rfl (iV (i:Int)) (fun w hS=>by rw[←hd];exact hS.now.1.b.at 2 (cF rfl)) (r [1] rfl fun _=>l1 (q:=0+i*1) rfl (lp N) (fun w hS=>by rw[show 0+i*1=i by omega,←hNi];exact hS.now.2.wo.nd_ hi) (sv 13 (vp 0 0 N) rfl (r [] rfl fun α=>kp 1 rfl (ar ⟨P,l,a,c⟩ rfl gj hbf Wu (by omega) (by unfold maxLen;omega) (fun w h=>h.2) rfl fun v3 B3=> ?_)))));refine SI fun w1 wK=> ?_;obtain⟨a3,c3,rfl,_⟩:=wK.now.2.rw.ex;refine r [] rfl fun _=>gn 0 (lh X {u1 with ub:=true,wt:= .slice a3 (u1.wl++[(⟨P,l,a,c⟩:Lr)]).length c3,wl:=u1.wl++[⟨P,l,a,c⟩]}) ?_;exact c_ rfl fun w hS=>⟨rfl,_,B3,rfl,hS.at 0 rfl,hS.now.2.rw,hS.now.2.mv⟩
end
def yP(k:Int):Option Nat:=if k=0∨k=2∨k=3∨k=4∨k=7 then some 72 else if k=1 then some 73 else if k=5 then some 74 else if k=6 then some 75 else none
def U7(w:tA)(X:Nat)(tk:tJ):Prop:=∀k g,yP k=some g→(Instr.lookup 112 tk (iV k) false).run Tryz.prog w= .ok (.func (.func g) #[lp X] #[]) w
def CU(us:Nat→Nv)(v:Wv)(F:tD)(b:Nat):Prop:=F b∨(∃i,i<5∧b=v.nd i)∨∃i,i<5∧fj (us i).wt b
def CT(us:Nat→Nv)(v:Wv)(F:tD)(b:Nat):Prop:=CU us v F b∨b<v.nd 5
structure CW(w:tA)(X:Nat)(us:Nat→Nv)(v:Wv)(F:tD):Prop where
 wo:WO w X v F
 nb:∀i,i<5→NB w X (v.nd i) (us i)
 ok:∀i,i<5→(us i).Ok
 inj:∀i j,i<5→j<5→v.nd i=v.nd j→i=j
 nf:∀i,i<5→¬F (v.nd i)
 wr:∀i,i<5→∃B,eX w B (us i).wt (us i).wl
 wf:∀i b,i<5→fj (us i).wt b→¬F b
 wn:∀i b j,i<5→j<5→fj (us i).wt b→b≠v.nd j
 ww:∀i b j,i<5→j<5→fj (us i).wt b→fj (us j).wt b→i=j
 st:bR (CT us v F) w fun w=>((∀i,i<5→(us i).In w (v.nd i))∧∀r∈v.fl,ni w r)∧U7 w X v.tk∧wu w v.dd
 ln:v.nd 5≤w.heap.size
 lo:∀b,CU us v F b→v.nd 5≤b
section
variable{w w':tA}{X i:Nat}{us:Nat→Nv}{v v':Wv}{F F':tD}{u':Nv}
theorem CW.lt(h:CW w X us v F):∀b,CU us v F b→b<w.heap.size:=fun b hb=>by
 rcases hb with hb|⟨j,hj,rfl⟩|⟨j,hj,hb⟩
 ·exact h.wo.lt b hb
 ·exact(h.nb j hj).lt
 ·obtain⟨B,hr⟩:=h.wr j hj;exact hr.lt hb
theorem CW.Jz(h:CW w X us v F):∀b,CT us v F b→b<w.heap.size:=fun b hb=>hb.elim (h.lt b) fun e=>Nat.lt_of_lt_of_le e h.ln
theorem CW.nw(h:CW w X us v F)(hi:i<5):NW w X (v.nd i) (us i) v F (CT us v F):=
 ⟨h.nb i hi,h.wo,h.nf i hi,h.Jz,fun _ hb=> .inl (.inl hb),.inl (.inr (.inl ⟨i,hi,rfl⟩)),h.ok i hi,fun w2 c2=>⟨(h.st w2 c2).1.1 i hi,(h.st w2 c2).1.2⟩⟩
theorem bk{α:Type}{m:Nat→α}{q j:Nat}{x:α}(h:¬j=q):aj m q x j=m j:=if_neg h
theorem CW.put(h:CW w X us v F)(hi:i<5)(m:Mv (fun b=>F b∨b=v.nd i∨fj (us i).wt b) w (fun b=>F' b∨b=v.nd i∨fj u'.wt b) w')(IP:WO w' X v' F')(zC:v'.nd=v.nd)(IM:v'.tk=v.tk)(Z2:v'.dd=v.dd)(Bp:NB w' X (v.nd i) u')(ed:u'.Ok)(Wu:¬F' (v.nd i))(D7:∃B,eX w' B u'.wt u'.wl)(vA:∀b,fj u'.wt b→¬F' b)(hwn:∀b,fj u'.wt b→b≠v.nd i)(gx:bR (fun b=>CT us v F b∨F' b∨fj u'.wt b) w' fun w=>u'.In w (v.nd i)∧∀r∈v'.fl,ni w r):CW w' X (aj us i u') v' F':=by
 have oth:∀j b,j<5→¬j=i→(b=v.nd j∨fj (us j).wt b)→b<w.heap.size∧¬(F b∨b=v.nd i∨fj (us i).wt b):=fun j b hj hn hb=>by
  rcases hb with rfl|hb
  ·exact⟨(h.nb j hj).lt,fun e=>e.elim (h.nf j hj) fun e=>e.elim (fun e=>hn (h.inj j i hj hi e)) fun e=>h.wn i _ j hi hj e rfl⟩
  ·obtain⟨B,hr⟩:=h.wr j hj;exact⟨hr.lt hb,fun e=>e.elim (h.wf j b hj hb) fun e=>e.elim (h.wn j b i hj hi hb) fun e=>hn (h.ww j b i hj hi hb e)⟩
 have Q4:∀j b,j<5→¬j=i→(b=v.nd j∨fj (us j).wt b)→¬(F' b∨b=v.nd i∨fj u'.wt b):=fun j b hj hn hb hf=>(m.f b hf).elim (oth j b hj hn hb).2 fun x=>absurd (oth j b hj hn hb).1 (Nat.not_lt.2 x);have hCU:∀b,(F b∨b=v.nd i∨fj (us i).wt b)→CU us v F b:=fun b hb=>hb.imp id fun hb=>hb.imp (fun e=>⟨i,hi,e⟩) fun e=>⟨i,hi,e⟩;have hs:=h.st.mv m (fun b hb=> .inl (hCU b hb));refine⟨IP,fun j hj=> ?_,fun j hj=> ?_,fun j k hj hk=>zC▸h.inj j k hj hk,fun j hj=> ?_,fun j hj=> ?_,fun j b hj hb=> ?_,fun j b k hj hk hb=> ?_,fun j b k hj hk hb hc=> ?_,fun w2 c2=> ?_,by rw[zC];exact Nat.le_trans h.ln m.c.size,fun b hb=> ?_⟩
 ·rw[zC];by_cases e:j=i
  ·rw[e,au];exact Bp
  ·rw[bk e];exact(h.nb j hj).same (m.c.block _ (h.nb j hj).lt (oth j _ hj e (.inl rfl)).2)
 ·by_cases e:j=i
  ·rw[e,au];exact ed
  ·rw[bk e];exact h.ok j hj
 ·rw[zC];by_cases e:j=i
  ·rw[e];exact Wu
  ·exact fun hf=>Q4 j _ hj e (.inl rfl) (.inl hf)
 ·by_cases e:j=i
  ·rw[e,au];exact D7
  ·rw[bk e];obtain⟨B,hr⟩:=h.wr j hj;exact⟨B,hr.still fun hb=>m.c.block _ (hr.lt hb) (oth j B hj e (.inr hb)).2⟩
 ·by_cases e:j=i
  ·rw[e,au]at hb;exact vA b hb
  ·rw[bk e]at hb;exact fun hf=>Q4 j b hj e (.inr hb) (.inl hf)
 ·rw[zC];by_cases e:j=i
  ·rw[e,au]at hb;by_cases e2:k=i
   ·rw[e2];exact hwn b hb
   ·exact fun e3=>Q4 k b hk e2 (.inl e3) (.inr (.inr hb))
  ·rw[bk e]at hb;exact h.wn j b k hj hk hb
 ·by_cases e:j=i
  ·by_cases e2:k=i
   ·rw[e,e2]
   ·rw[e,au]at hb;rw[bk e2]at hc;exact absurd (.inr (.inr hb)) (Q4 k b hk e2 (.inr hc))
  ·rw[bk e]at hb;by_cases e2:k=i
   ·rw[e2,au]at hc;exact absurd (.inr (.inr hc)) (Q4 j b hj e (.inr hb))
   ·rw[bk e2]at hc;exact h.ww j b k hj hk hb hc
 ·have c3:dk (fun b=>CT us v F b∨F' b∨fj u'.wt b) w' w2:=c2.mono fun b hb=>by
   rcases hb with(hb|⟨j,hj,e⟩|⟨j,hj,hb⟩)|hb
   ·exact .inr (.inl hb)
   ·exact .inl (.inl (.inr (.inl ⟨j,hj,zC▸e⟩)))
   ·by_cases e:j=i
    ·rw[e,au]at hb;exact .inr (.inr hb)
    ·rw[bk e]at hb;exact .inl (.inl (.inr (.inr ⟨j,hj,hb⟩)))
   ·exact .inl (.inr (zC▸hb))
  have h1:=hs w2 (c3.mono fun b hb=>hb.imp id fun hb=>hb.imp id .inr);have h2:=gx w2 c3;rw[IM,Z2];refine⟨⟨fun j hj=> ?_,h2.2⟩,h1.2⟩;rw[zC];by_cases e:j=i
  ·rw[e,au];exact h2.1
  ·rw[bk e];exact h1.1.1 j hj
 ·rw[zC];have rX:(F' b∨b=v.nd i∨fj u'.wt b)→v.nd 5≤b:=fun hb=>(m.f b hb).elim (fun e=>h.lo b (hCU b e)) fun e=>Nat.le_trans h.ln e;rcases hb with hb|⟨j,hj,e⟩|⟨j,hj,hb⟩
  ·exact rX (.inl hb)
  ·rw[zC]at e;exact h.lo b (.inr (.inl ⟨j,hj,e⟩))
  ·by_cases e:j=i
   ·rw[e,au]at hb;exact rX (.inr (.inr hb))
   ·rw[bk e]at hb;exact h.lo b (.inr (.inr ⟨j,hj,hb⟩))
end
noncomputable def bJ(ns:Nat→Nd)(s:Ws)(l:Lt):(Nat→Nd)×Ws:=
 if l.kd=1 then(ns,{s with td:=s.td++[⟨l.nu,l.an,l.pn,l.pe⟩]})
 else if l.kd=5 then(ns,lR (jc s l) l)
 else if l.kd=6 then(ns,lR s l)
 else(aj ns l.dst.toNat (if(ns l.dst.toNat).up=true then {ns l.dst.toNat with wt:=(ns l.dst.toNat).wt++[l]}else ns l.dst.toNat),s)
structure Q5(l:Lt):Prop where
 kd:l.kd=1∨(l.kd=5∧l.q<4∧-1000000000≤l.ep∧l.ep≤1000000000)∨(l.kd=6∧l.q<4)∨(lT l∧0≤l.dst∧l.dst<5)
structure Cd(w:tA)(X:Nat)(us:Nat→Nv)(v:Wv)(F:tD)(r:(Nat→Nd)×Ws)(pX:Nat→Nv)(v':Wv)(F':tD)(w':tA):Prop where
 cw:CW w' X pX v' F'
 mv:Mv (CU us v F) w (CU pX v' F') w'
 nd:v'.nd=v.nd
 tk:v'.tk=v.tk
 dd:v'.dd=v.dd
 n:(fun i=>(pX i).pure)=r.1
 s:v'.pure=r.2
section
variable{w w':tA}{X i:Nat}{us:Nat→Nv}{v v':Wv}{F F':tD}{u':Nv}
theorem CW.YD(h:CW w X us v F)(hi:i<5)(m:Mv (fun b=>F b∨b=v.nd i∨fj (us i).wt b) w (fun b=>F' b∨b=v.nd i∨fj u'.wt b) w')(zC:v'.nd=v.nd):Mv (CU us v F) w (CU (aj us i u') v' F') w':=by
 refine m.less (fun b hb=>hb.imp id fun hb=>hb.imp (fun e=>⟨i,hi,e⟩) fun e=>⟨i,hi,e⟩) fun b hb=> ?_;rcases hb with hb|⟨j,hj,e⟩|⟨j,hj,hb⟩
 ·exact .inl (.inl hb)
 ·rw[zC]at e;have hc:CU us v F b:= .inr (.inl ⟨j,hj,e⟩);exact .inr ⟨hc,h.lt b hc⟩
 ·by_cases e:j=i
  ·rw[e,au]at hb;exact .inl (.inr (.inr hb))
  ·rw[bk e]at hb;have hc:CU us v F b:= .inr (.inr ⟨j,hj,hb⟩);exact .inr ⟨hc,h.lt b hc⟩
theorem my{α:Type}(m:Nat→α)(q:Nat):aj m q (m q)=m:=by
 funext j;by_cases e:j=q
 ·rw[e,au]
 ·exact bk e
theorem nz(us:Nat→Nv)(i:Nat)(u':Nv):(fun j=>(aj us i u' j).pure)=aj (fun j=>(us j).pure) i u'.pure:=by
 funext j;by_cases e:j=i
 ·rw[e,au,au]
 ·rw[bk e,bk e]
theorem CW.world(h:CW w X us v F)(m:Mv F w F' w')(IP:WO w' X v' F')(zC:v'.nd=v.nd)(IM:v'.tk=v.tk)(Z2:v'.dd=v.dd)(gx:bR (fun b=>CT us v F b∨F' b) w' fun w=>∀r∈v'.fl,ni w r):CW w' X us v' F'∧Mv (CU us v F) w (CU us v' F') w':=by
 have h0:(0:Nat)<5:=by decide
 have aL:=h.lt;have ur:∀b,(b=v.nd 0∨fj (us 0).wt b)→CU us v F b:=fun b hb=> .inr (hb.imp (fun e=>⟨0,h0,e⟩) fun e=>⟨0,h0,e⟩);have GV:∀b,(b=v.nd 0∨fj (us 0).wt b)→¬F b:=fun b hb=>hb.elim (fun e=>e▸h.nf 0 h0) (h.wf 0 b h0);have m':Mv (fun b=>F b∨b=v.nd 0∨fj (us 0).wt b) w (fun b=>F' b∨b=v.nd 0∨fj (us 0).wt b) w':=m.less (fun _=> .inl) fun b hb=>hb.imp id fun hb=>⟨.inr hb,aL b (ur b hb)⟩;have uu:∀b,(b=v.nd 0∨fj (us 0).wt b)→¬F' b:=fun b hb hf=>(m.f b hf).elim (GV b hb) fun x=>absurd (aL b (ur b hb)) (Nat.not_lt.2 x);have hs:=h.st.mv m (fun b hb=> .inl (.inl hb));obtain⟨B,hr⟩:=h.wr 0 h0
 have KE:=h.put (u':=us 0) h0 m' IP zC IM Z2 ((h.nb 0 h0).same (m.c.block _ (h.nb 0 h0).lt (h.nf 0 h0))) (h.ok 0 h0) (uu _ (.inl rfl)) ⟨B,hr.still fun hb=>m.c.block B (hr.lt hb) (GV B (.inr hb))⟩ (fun b hb=>uu b (.inr hb)) (fun b hb=>h.wn 0 b 0 h0 h0 hb) (fun w2 c2=>by
  have c3:dk (fun b=>CT us v F b∨F' b) w' w2:=c2.mono fun b hb=>hb.elim .inl fun hb=>hb.elim .inr fun hb=> .inl (.inl (ur b (.inr hb)))
  exact⟨(hs w2 c3).1.1 0 h0,gx w2 c3⟩)
 have YC:=h.YD (u':=us 0) (v':=v') h0 m' zC;rw[my]at KE YC;exact⟨KE,YC⟩
theorem toNode_cw(h:CW w X us v F){P:Nat}{l:Lt}{a:tB}{c:Nat}(hl:bR (CT us v F) w fun w=>eu w P l a c)(hi:i<5)(hd:l.dst=(i:Int))(hlen:(us i).wl.length≤1000000000000):cA 72 #[lp X,lp P] w fun x w'=>x= .returned (.tuple #[])∧∃u',CW w' X (aj us i u') v F∧Mv (CU us v F) w (CU (aj us i u') v F) w'∧u'.pure=if(us i).ub=true then {(us i).pure with wt:=(us i).pure.wt++[l]}else(us i).pure:=by
 obtain⟨B,hr⟩:=h.wr i hi;have Ah:∀b,(b=v.nd i∨fj (us i).wt b)→CU us v F b:=fun b hb=> .inr (hb.imp (fun e=>⟨i,hi,e⟩) fun e=>⟨i,hi,e⟩);refine(toNode_wo X v F w (v.nd i) i (us i) B P l a c hi hd rfl h.wo (h.nb i hi) (h.nf i hi) hr (fun b hb=>h.wn i b i hi hi hb) (fun b hb=>h.wf i b hi hb) (hl.mono fun b _ hb=> .inl (Ah b hb)) hlen).mono ?_;rintro x w' ⟨rfl,u',B',hu,Bp,D7,m⟩;have hF:∀b,F b→b<w.heap.size∧¬(b=v.nd i∨fj (us i).wt b):=fun b hb=>⟨h.wo.lt b hb,fun e=>e.elim (fun e=>h.nf i hi (e▸hb)) fun e=>h.wf i b hi e hb⟩;have m':Mv (fun b=>F b∨b=v.nd i∨fj (us i).wt b) w (fun b=>F b∨b=v.nd i∨fj u'.wt b) w':=m.less (fun _=> .inr) fun b hb=>hb.elim (fun hb=> .inr ⟨.inl hb,h.wo.lt b hb⟩) .inl;have IP:WO w' X v F:=h.wo.still fun b hb=>m.c.block b (hF b hb).1 (hF b hb).2;have hs:=h.st.mv m (fun b hb=> .inl (Ah b hb));have Z4:=hl.mv m (fun b hb=> .inl (Ah b hb));have GS:∀w,((us i).In w (v.nd i))→eu w P l a c→u'.In w (v.nd i):=fun w h1 h2=>by
  rw[hu];unfold toN;split
  ·exact⟨h1.row,h1.mo,h1.af,fP h1.wl h2⟩
  ·exact h1
 have ed:u'.Ok:=by
  have h1:=h.ok i hi;rw[hu];unfold toN;split
  ·exact⟨h1.ok,h1.nil,h1.cap,h1.max,h1.len,h1.s0,h1.s1,h1.i5,h1.QB⟩
  ·exact h1
 have hp:u'.pure=if(us i).ub=true then {(us i).pure with wt:=(us i).pure.wt++[l]}else(us i).pure:=by
  rw[hu];unfold toN;split
  ·show Nd.mk .. =Nd.mk ..;simp only[List.map_append,List.map_cons,List.map_nil]
  ·rfl
 have abg:∀b,fj u'.wt b→¬F b∧b≠v.nd i:=fun b hb=>by
  have hbN:b≠v.nd i:=fun e=>by
   obtain rfl:=D7.blk hb;obtain⟨o,n,c',e1⟩:=hb;obtain⟨a',c2,e',_,_,⟨rfl,_⟩|⟨o',n',f,rfl,fb,_⟩⟩:=D7.ex
   ·rw[e1]at e';cases e'
   ·have fx:=Bp;rw[e]at fb;unfold NB aZ at fx;unfold aZ at fb;rw[fb]at fx;simp at fx
  refine⟨fun hf=> ?_,hbN⟩;rcases m.f b (.inr hb)with e|e
  ·exact(hF b hf).2 e
  ·exact absurd (hF b hf).1 (Nat.not_lt.2 e)
 refine⟨rfl,u',h.put hi m' IP rfl rfl rfl Bp ed (h.nf i hi) ⟨B',D7⟩ (fun b hb=>(abg b hb).1) (fun b hb=>(abg b hb).2) (fun w2 c2=> ?_),h.YD hi m' rfl,hp⟩;have c3:dk (fun b=>CT us v F b∨b=v.nd i∨fj u'.wt b) w' w2:=c2.mono fun b hb=>hb.elim .inl fun hb=>hb.elim (fun hb=> .inl (.inl (.inl hb))) fun hb=> .inr (.inr hb);exact⟨GS w2 ((hs w2 c3).1.1 i hi) (Z4 w2 c3),(hs w2 c3).1.2⟩
theorem Gc(v:Wv)(l:Lt):((np v l).nd=v.nd∧(np v l).tk=v.tk∧(np v l).dd=v.dd)∧(np v l).fl=v.fl∧(np v l).pure=jc v.pure l:=by
 unfold np jc;by_cases h:dB v.pn v.pe∧¬v.pn l.q= -1∧yb (v.pn l.q) (v.pe l.q) (l.ep-1) l.fr=0
 ·rw[if_pos h,if_pos h];exact⟨⟨rfl,rfl,rfl⟩,rfl,rfl⟩
 ·rw[if_neg h,if_neg h];exact⟨⟨rfl,rfl,rfl⟩,rfl,rfl⟩
theorem tt(h:CW w X us v F){P:Nat}{l:Lt}{a:tB}{c:Nat}(hl:bR (CT us v F) w fun w=>eu w P l a c)(ok:Q5 l)(vq:v.fl.length≤1000000000000)(htd:v.td.length≤1000000000000)(Dm:∀i,i<5→(us i).wl.length≤1000000000000):∃g,yP l.kd=some g∧cA g #[lp X,lp P] w fun x w'=>x= .returned (.tuple #[])∧∃pX v' F',Cd w X us v F (bJ (fun i=>(us i).pure) v.pure l) pX v' F' w':=by
 have aL:=h.Jz;have qO:∀b,F b→CT us v F b:=fun _ hb=> .inl (.inl hb);rcases ok.kd with hk|⟨hk,hq,he0,he1⟩|⟨hk,hq⟩|⟨hw,h0,h5⟩
 ·refine⟨73,by rw[hk];decide,(toClient_wo X v F _ w P l a c h.wo aL qO hl htd).mono ?_⟩;rintro x w' ⟨rfl,F',IP,m⟩;have hs:=h.st.mv m qO;obtain⟨h1,h2⟩:=h.world m IP rfl rfl rfl (fun w2 c2=>(hs w2 c2).1.2);exact⟨rfl,us,_,F',⟨h1,h2,rfl,rfl,rfl,by simp[bJ,hk],by simp[bJ,hk]⟩⟩
 ·refine⟨74,by rw[hk];decide,(UJ X v F _ w P l a c hq he0 he1 h.wo aL qO hl vq).mono ?_⟩;rintro x w' ⟨rfl,P',F',IP,m,gx⟩;have hs:=h.st.mv m qO;obtain⟨⟨k1,k2,k3⟩,k4,k5⟩:=Gc v l;obtain⟨h1,h2⟩:=h.world m IP k1 k2 k3 (fun w2 c2=>fP (hs w2 c2).1.2 (gx w2 c2));refine⟨rfl,us,_,F',⟨h1,h2,k1,k2,k3,by simp[bJ,hk], ?_⟩⟩;simp only[bJ,hk];rw[if_neg (by decide),if_pos trivial,←k5];show Ws.mk .. =Ws.mk ..;simp only[List.map_append,List.map_cons,List.map_nil,k4]
 ·refine⟨75,by rw[hk];decide,(Kx X v F _ w P l a c hq h.wo aL qO hl vq).mono ?_⟩;rintro x w' ⟨rfl,P',F',IP,m,gx⟩;have hs:=h.st.mv m qO;obtain⟨h1,h2⟩:=h.world m IP rfl rfl rfl (fun w2 c2=>fP (hs w2 c2).1.2 (gx w2 c2));refine⟨rfl,us,_,F',⟨h1,h2,rfl,rfl,rfl,by simp[bJ,hk], ?_⟩⟩;simp only[bJ,hk];rw[if_neg (by decide),if_neg (by decide),if_pos trivial,jY];rfl
 ·obtain⟨i,hd⟩:∃i:Nat,l.dst=(i:Int):=⟨l.dst.toNat,by omega⟩;have hi:i<5:=by omega
  have hto:l.dst.toNat=i:=by omega
  refine⟨72,by rcases hw.kd with hk|hk|hk|hk|hk<;>rw[hk]<;>decide,(toNode_cw h hl hi hd (Dm i hi)).mono ?_⟩
  rintro x w' ⟨rfl,u',h1,h2,h3⟩;have e:bJ (fun i=>(us i).pure) v.pure l=(aj (fun i=>(us i).pure) i u'.pure,v.pure):=by
   unfold bJ;rw[if_neg (by rcases hw.kd with hk|hk|hk|hk|hk<;>rw[hk]<;>decide),if_neg (by rcases hw.kd with hk|hk|hk|hk|hk<;>rw[hk]<;>decide),if_neg (by rcases hw.kd with hk|hk|hk|hk|hk<;>rw[hk]<;>decide),hto,h3]
  exact⟨rfl,_,v,F,⟨h1,h2,rfl,rfl,rfl,by rw[e,nz],by rw[e]⟩⟩
end
section
variable{w w':tA}{X i:Nat}{us:Nat→Nv}{v v':Wv}{F F':tD}{u':Nv}
theorem CW.next(h:CW w X us v F)(c:bZ w w'):CW w' X us v F:=by
 have same:∀b,CU us v F b→w'.heap[b]? =w.heap[b]? :=fun b hb=>c.block b (h.lt b hb);refine⟨h.wo.still fun b hb=>same b (.inl hb),fun j hj=>(h.nb j hj).same (same _ (.inr (.inl ⟨j,hj,rfl⟩))),h.ok,h.inj,h.nf,fun j hj=> ?_,h.wf,h.wn,h.ww,h.st.next c,Nat.le_trans h.ln c.size,h.lo⟩;obtain⟨B,hr⟩:=h.wr j hj;exact⟨B,hr.still fun hb=>same B (.inr (.inr ⟨j,hj,hb⟩))⟩
theorem Cd.trans{w w1 w2:tA}{us SU GZ:Nat→Nv}{v v1 v2:Wv}{F F1 F2:tD}{r r2:(Nat→Nd)×Ws}(h:Cd w X us v F r SU v1 F1 w1)(k:Cd w1 X SU v1 F1 r2 GZ v2 F2 w2):Cd w X us v F r2 GZ v2 F2 w2:=
 ⟨k.cw,h.mv.trans k.mv,k.nd.trans h.nd,k.tk.trans h.tk,k.dd.trans h.dd,k.n,k.s⟩
theorem U8(h:CW w X us v F)(k nd:Int)(q:Nat)(pl kp:Int)(e:Ev)(hlen:v.fl.length≤1000000000000)(vu:v.cs≤1000000000000)(Od:0≤v.cs):cA 45 #[lp X,vF (lF [iV k,iV nd,iV (q:Int),iV pl,iV kp,iV e.k,iV e.p,iV e.i,iV e.b,iV e.he,iV e.hn]) 11] w fun x w'=>x= .returned (.tuple #[])∧∃pX v' F',Cd w X us v F (fun i=>(us i).pure,{fM v.pure (q7 nd q v.cs e)with cs:=v.cs+1}) pX v' F' w':=by
 refine(UK X v F _ w k nd q pl kp e h.wo h.Jz (fun _ hb=> .inl (.inl hb)) hlen vu Od).mono ?_;rintro x w' ⟨rfl,P',F',IP,m,gx⟩;have hs:=h.st.mv m fun _ hb=> .inl (.inl hb);obtain⟨h1,h2⟩:=h.world m IP rfl rfl rfl (fun w2 c2=>fP (hs w2 c2).1.2 (gx w2 c2));refine⟨rfl,us,_,F',⟨h1,h2,rfl,rfl,rfl,rfl, ?_⟩⟩;show(⟨v.pn,v.pe,(v.fl++[(⟨P',q7 nd q v.cs e,none,0⟩:Lr)]).map Lr.l,v.cs+1,v.sv,v.td⟩:Ws)=⟨v.pn,v.pe,v.fl.map Lr.l++[q7 nd q v.cs e],v.cs+1,v.sv,v.td⟩;rw[List.map_append];rfl
end
theorem vS(s:Ws)(l:Lt):(jc s l).fl=s.fl∧(jc s l).cs=s.cs∧(jc s l).sv=s.sv∧(jc s l).td=s.td:=by
 unfold jc;split<;>exact⟨rfl,rfl,rfl,rfl⟩
theorem IQ(ns:Nat→Nd)(s:Ws)(l:Lt):((bJ ns s l).2.fl.length≤s.fl.length+1∧(bJ ns s l).2.td.length≤s.td.length+1∧(bJ ns s l).2.sv=s.sv∧(bJ ns s l).2.cs=s.cs)∧∀i,((bJ ns s l).1 i).wt.length≤(ns i).wt.length+1∧((bJ ns s l).1 i).tu=(ns i).tu:=by
 have hf:=vS s l;unfold bJ;split
 ·exact⟨⟨Nat.le_succ _,by simp,rfl,rfl⟩,fun i=>⟨Nat.le_succ _,rfl⟩⟩
 ·split
  ·refine⟨⟨?_, ?_, ?_, ?_⟩,fun i=>⟨Nat.le_succ _,rfl⟩⟩
   ·simp[lR,fM,hf.1]
   ·simp[lR,fM,hf.2.2.2]
   ·simp[lR,fM,hf.2.2.1]
   ·simp[lR,fM,hf.2.1]
  ·split
   ·exact⟨⟨by simp[lR,fM],by simp[lR,fM],rfl,rfl⟩,fun i=>⟨Nat.le_succ _,rfl⟩⟩
   ·refine⟨⟨Nat.le_succ _,Nat.le_succ _,rfl,rfl⟩,fun i=> ?_⟩;by_cases e:i=l.dst.toNat
    ·subst e;simp only[au];split
     ·exact⟨by simp,rfl⟩
     ·exact⟨Nat.le_succ _,rfl⟩
    ·simp only[bk e];exact⟨Nat.le_succ _,trivial⟩
section
open Rv
theorem U9{w:tA}{T g n c j:Nat}{L:tK}{x:tJ}(h:w.ownsRow 0 T 1 (.slice (some ⟨g,0,none⟩) n c) n L)(hj:L[j]? =some x):w.cell? ⟨g,j,none⟩=some x:=by
 obtain⟨_,⟨e,_⟩|⟨g',c',cur,e,_,hb,_,_,_,IM⟩⟩:=h
 ·cases e
 ·cases e;rw[←IM,List.getElem?_take]at hj;split at hj
  ·simp only[World.cell?,hb];rw[←Array.getElem?_toList];simpa using hj
  ·cases hj
theorem IU{w:tA}{T n:Nat}{L:tK}{v:tJ}(h:w.ownsRow 0 T 1 v n L):∃a c,v= .slice a n c∧(0<n→∃g,a=some ⟨g,0,none⟩):=by
 obtain⟨_,⟨e,h0⟩|⟨g,c,cur,e,_⟩⟩:=h
 ·exact⟨none,0,by rw[e,h0],fun h=>by omega⟩
 ·exact⟨_,c,e,fun _=>⟨g,rfl⟩⟩
noncomputable def Ge(ns:Nat→Nd)(s:Ws):(Nat→Nd)×Ws:=s.fl.foldl (fun p l=>bJ p.1 p.2 l) (ns,{s with fl:=[]})
noncomputable abbrev Du(ns:Nat→Nd)(s:Ws)(j:Nat):(Nat→Nd)×Ws:=(s.fl.take j).foldl (fun p l=>bJ p.1 p.2 l) (ns,{s with fl:=[]})
theorem Nh{ns:Nat→Nd}{s:Ws}{j:Nat}{l:Lt}(h:s.fl[j]? =some l):Du ns s (j+1)=bJ (Du ns s j).1 (Du ns s j).2 l:=by
 unfold Du;rw[nt h,List.foldl_append];rfl
theorem Gf(ns:Nat→Nd)(v:Wv):Du ns v.pure v.fl.length=Ge ns v.pure:=by
 unfold Du Ge;rw[show v.pure.fl.take v.fl.length=v.pure.fl from List.take_of_length_le (by simp)]
structure CR(X:Nat)(us0:Nat→Nv)(v0:Wv)(F0:tD)(w0:tA)(us:Nat→Nv)(v:Wv)(F:tD)(y:tA):Prop extends CW y X us v F where
 mv:Mv (CU us0 v0 F0) w0 (CU us v F) y
theorem ek1:iy Tryz.prog 72=true:=by kernel_rfl
theorem ek2:iy Tryz.prog 73=true:=by kernel_rfl
theorem ek3:iy Tryz.prog 74=true:=by kernel_rfl
theorem ek4:iy Tryz.prog 75=true:=by kernel_rfl
theorem Q6{k:Int}{g:Nat}(h:yP k=some g):iy Tryz.prog g=true:=by
 unfold yP at h
 repeat' split at h
 all_goals first|(cases h;exact ek1)|(cases h;exact ek2)|(cases h;exact ek3)|(cases h;exact ek4)|cases h
theorem YE(X:Nat)(us:Nat→Nv)(v:Wv)(F:tD)(w:tA)(h:CW w X us v F)(ed:∀r∈v.fl,Q5 r.l)(tV:v.fl.length+v.td.length≤900000000000)(hlw:∀i,i<5→(us i).wl.length+v.fl.length≤900000000000):cA 48 #[lp X] w fun x w'=>x= .returned (.tuple #[])∧∃pX v' F',Cd w X us v F (Ge (fun i=>(us i).pure) v.pure) pX v' F' w':=by
 obtain⟨U,hUe⟩:∃U,U=CU us v F:=⟨_,rfl⟩;have hU:∀b,U b→b<w.heap.size:=hUe▸h.lt;have qO:∀b,F b→U b:=hUe▸fun _=> .inl;have hW:=h.wo;obtain⟨_,sv,td,fb,o1,o2,o3,hF⟩:=hW.ex;obtain⟨fa,fc,rfl,hfa0⟩:=IU o1;have hXU:U X:=qO X ((hF X).2 (.inl rfl));refine en (H:=[⟨X,114,[.f 19 (kO v.nd v.pn v.pe [.slice fa v.fl.length fc,v.tk,v.dd,iV v.cs,sv,td])]⟩]) 30 [vp 0 0 X] Tryz.func48 rfl rfl (fb.open hU hXU (G:=fun _=>True) fun _ _=>trivial) (r [] rfl fun _=>gn 0 (kO v.nd v.pn v.pe [.slice none 0 0,v.tk,v.dd,iV v.cs,sv,td]) (Rv.sv 0 (vv (lp X)) rfl (Xv fun w1 hS=> ?_)));obtain⟨F1,hW1,Zy,hF1⟩:=WO.make (v':={v with fl:=[]}) fb hF (hS.now.2.mono fun b hb=>(hF b).2 (.inl (List.mem_singleton.1 hb))) (hS.at 0 rfl) ⟨rfl,.inl ⟨rfl,rfl⟩⟩ (aG o2 (fun g hg hl=>hS.now.2.block g hl fun hm=>aU o2 fb (by decide) g hg (List.mem_singleton.1 hm))) (aG o3 (fun g hg hl=>hS.now.2.block g hl fun hm=>aU o3 fb (by decide) g hg (List.mem_singleton.1 hm))) (fun b hb=>by cases hb) (fun b hb=> .inl ((hF b).2 (.inr (.inr (.inl hb))))) (fun b hb=> .inl ((hF b).2 (.inr (.inr (.inr hb)))));obtain⟨mm,GM⟩:=h.world Zy hW1 rfl rfl rfl (fun _ _ r hr=>by cases hr);have o1':=(aG o1 (fun g hg hl=>hS.now.2.block g hl fun hm=>aU o1 fb (by decide) g hg (List.mem_singleton.1 hm)));have kx:∀g,(.slice fa v.fl.length fc:tJ).ownBlock=some g→¬CT us {v with fl:=[]} F1 g:=fun g hg hb=>by
  have hFg:F g:=(hF g).2 (.inr (.inl hg));rcases hb with(hb|⟨j,hj,e⟩|⟨j,hj,hb⟩)|hb
  ·rcases(hF1 g).1 hb with e|e|e|e
   ·exact aU o1 fb (by decide) g hg e
   ·cases e
   ·exact iX o1 o2 (by decide) g hg e
   ·exact iX o1 o3 (by decide) g hg e
  ·exact h.nf j hj (e▸hFg)
  ·exact h.wf j g hj hb hFg
  ·exact absurd (h.lo g (.inl hFg)) (Nat.not_le.2 hb)
 refine⟨[],CT us {v with fl:=[]} F1,fun w=>w.ownsRow 0 171 1 (.slice fa v.fl.length fc) v.fl.length (v.fl.map fun r=>lp r.p)∧∀r∈v.fl,ni w r,CR X us v F w us {v with fl:=[]} F1,Mem.start mm.Jz (fun w2 c2=>⟨aG o1' (fun g hg hl=>c2.block g hl (kx g hg)),((h.st.mv GM (fun _ h=> .inl h)) w2 (c2.mono fun _ hb=>hb.elim .inr fun e=> .inl (.inr e))).1.2⟩) (fun w2 b=>⟨mm.next b,GM.next b⟩), ?_⟩;refine Cv (X:=Nat×(Nat→Nv)×Wv×(Nat→Prop)) (fun x=>[(0,vv (lp X)),(12,vv (.slice fa v.fl.length fc)),(13,vi (v.fl.length:Int)),(14,vi (x.1:Int))]) (fun _=>[]) (fun x=>CT x.2.1 x.2.2.1 x.2.2.2) (fun x=>CR X us v F w x.2.1 x.2.2.1 x.2.2.2) (fun x=>x.1≤v.fl.length∧(x.2.2.1.nd=v.nd∧x.2.2.1.tk=v.tk∧x.2.2.1.dd=v.dd)∧((fun i=>(x.2.1 i).pure)=(Du (fun i=>(us i).pure) v.pure x.1).1∧x.2.2.1.pure=(Du (fun i=>(us i).pure) v.pure x.1).2)∧(x.2.2.1.fl.length≤x.1∧x.2.2.1.td.length≤v.td.length+x.1∧∀i,i<5→(x.2.1 i).wl.length≤(us i).wl.length+x.1)) (fun x=>v.fl.length-x.1) (0,us,{v with fl:=[]},F1) ⟨rfl,rfl,rfl,rfl,trivial⟩ (fun _ hS=>hS) ⟨Nat.zero_le _,⟨rfl,rfl,rfl⟩,⟨rfl,rfl⟩,Nat.le_refl _,Nat.le_refl _,fun _ _=>Nat.le_refl _⟩ ?_;rintro f ⟨j,SU,v1,F2⟩ ⟨hj,lz,QU,l9,AN,LF⟩;have hj:j≤v.fl.length:=hj;have l9:v1.fl.length≤j:=l9;have AN:v1.td.length≤v.td.length+j:=AN;have LF:∀i,i<5→(SU i).wl.length≤(us i).wl.length+j:=LF;by_cases aL:j<v.fl.length
 case neg=>
  obtain rfl:j=v.fl.length:=by omega
  exact r [0] rfl fun _=>c_ rfl fun w hS=>⟨rfl,SU,v1,F2,⟨hS.now.2.toCW,hS.now.2.mv,lz.1,lz.2.1,lz.2.2,by rw[QU.1,Gf],by rw[QU.2,Gf]⟩⟩
 obtain⟨r8,hr⟩:∃r,v.fl[j]? =some r:=⟨v.fl[j],List.getElem?_eq_getElem aL⟩;have KF:=List.mem_of_getElem? hr;obtain⟨fg,hfa⟩:=hfa0 (by omega);subst hfa;obtain⟨g,hg,_⟩:=tt h (P:=r8.p) (l:=r8.l) (a:=r8.a) (c:=r8.c) (fun w2 c2=>(h.st w2 c2).1.2 r8 KF) (ed r8 KF) (by omega) (by omega) (fun i hi=>by have:=hlw i hi;omega);refine r [1] rfl fun _=>l1 (q:=0+j*1) rfl (lp r8.p) (fun w hS=>by rw[show 0+j*1=j by omega];exact U9 hS.now.1.1 (by rw[List.getElem?_map,hr];rfl)) (r [1] rfl fun _=>l1 rfl v1.tk (fun w hS=>hS.now.2.wo.tk_) (r [] rfl fun _=>l1 rfl (iV r8.l.kd) (fun w hS=>(hS.now.1.2 r8 KF).b.at 0 (cF rfl)) (r [] rfl fun _=>lk (vv (.func (.func g) #[lp X] #[])) rfl (fun w hS=>(hS.now.2.st.now).2.1 r8.l.kd g hg) (r [] rfl fun _=>j_ rfl (Q6 hg) fun w2 hS=> ?_))));obtain⟨g',Tq,hcall⟩:=tt hS.now.2.toCW (P:=r8.p) (l:=r8.l) (a:=r8.a) (c:=r8.c) (fun w2 c2=>(hS.g w2 (c2.mono fun b h=> .inr h)).2 r8 KF) (ed r8 KF) (by omega) (by omega) (fun i hi=>by have h3:(SU i).wl.length≤(us i).wl.length+j:=LF i hi;have:=hlw i hi;show(SU i).wl.length≤_;omega);obtain rfl:g'=g:=Option.some.inj (Tq.symm.trans hg);refine hcall.mono ?_;rintro _ w3 ⟨rfl,GZ,v2,F3,hd⟩;have hmd:=hS.now.2.mv.trans hd.mv;have hnx:bJ (fun i=>(SU i).pure) v1.pure r8.l=Du (fun i=>(us i).pure) v.pure (j+1):=by rw[Nh (l:=r8.l) (by show(v.fl.map Lr.l)[j]? =_;rw[List.getElem?_map,hr];rfl),←QU.1,←QU.2]
 have hk:=IQ (fun i=>(SU i).pure) v1.pure r8.l;refine⟨vt [],[],CT GZ v2 F3,_,CR X us v F w GZ v2 F3,rfl,.inl rfl,Mem.start hd.cw.Jz (fun w2 c2=>(bR.mv (U:=CT SU v1 F2) (fun w4 c4=>hS.g w4 (c4.mono fun b h=> .inr h)) hd.mv (fun _ h=> .inl h)) w2 (c2.mono fun _ hb=>hb.elim .inr fun e=> .inl (.inr (hd.nd▸e)))) (fun w2 b=>⟨hd.cw.next b,hmd.next b⟩),rz [1] [((j+1:Nat):Int)] rfl fun _=>bU (j+1,GZ,v2,F3) ⟨rfl,rfl,rfl,rfl,trivial⟩ (fun _ hS=>hS) ⟨aL,⟨hd.nd.trans lz.1,hd.tk.trans lz.2.1,hd.dd.trans lz.2.2⟩,⟨by rw[←hnx];exact hd.n,by rw[←hnx];exact hd.s⟩, ?_, ?_,fun i hi=> ?_⟩ (show v.fl.length-(j+1)<v.fl.length-j by omega)⟩
 ·have h1:=congrArg (fun s:Ws=>s.fl.length) hd.s;have h2:=hk.1.1;simp only[List.length_map]at h1 h2;show v2.fl.length≤j+1;omega
 ·have h1:=congrArg (fun s:Ws=>s.td.length) hd.s;have h2:=hk.1.2.1;simp only at h1 h2;show v2.td.length≤v.td.length+(j+1);omega
 ·have h1:=congrArg (fun n:Nat→Nd=>(n i).wt.length) hd.n;have h2:=(hk.2 i).1;have h3:=LF i hi;simp only[List.length_map]at h1 h2;show(GZ i).wl.length≤(us i).wl.length+(j+1);omega
end
theorem IV{P:tS}{s sz:Nat}(hf:iW P s=some sz)(a:tB)(len cap l h m:Nat)(hl:l≤h)(hh:h≤m)(hm:m≤cap)(w:tA):
  (Instr.sliceAt s (.slice a len cap) (some (iV (l:Int))) (some (iV (h:Int))) (some (iV (m:Int)))).run P w= .ok (.slice (gD a l sz m) (h-l) (m-l)) w:=by
 unfold iW at hf;split at hf
 ·rename_i e hu;cases hi:P.info? e with
  |none=>simp[hi]at hf
  |some i=>
   simp[hi]at hf;subst hf;simp[Instr.sliceAt,Instr.slice,run_underlying hu,Instr.sliceBounds,Instr.sliceBound,asIntOf,sizeOf,typeInfo,hi,hl,hh,hm,gD]
 ·cases hf
section
variable{P:tS}{ops:tL}{Q:tH}{V:tR}{fx fl:tR}{n:Nat}{f:tC}{w:tA}{i:Nat}{t:Ord}{o:Oper}{d:Nat}{H:List bQ}{M:tD}{G R:tI}
theorem aew{s e ku l c m c2:Nat}{x y:tP}{A:Addr}(ht:jk P s e 1 ku=true)(hS:Mem w H M G R)(k:Nat){en:bQ}(he:H[k]? =some en)(news:tC)(hn:∀j,j<m→w.cell? (A.add j)=some (news j))(h1:aT news m)(BK:l+m≤c)(Zt:c≤en.n)(MR:fx.contains i=true)(ho:ops[i]? =some o)(hd:o.dst=some d)(hw:Region.wanted o (yielded ops (kn n f))=true)(hK:iU n ops=true)(hp:o.op= .call ⟨.builtin .append,#[x,y],#[s,s]⟩)(hx:ev f x= .slice (some ⟨en.a,0,none⟩) l c)(hy:ev f y= .slice (some A) m c2)
  (h:∀w',Mem w' (H.set k ⟨en.a,en.t,en.n,fS en.f l m news⟩) M G R→WF P ops Q V fx fl t n (up f d (.slice (some ⟨en.a,0,none⟩) (l+m) c)) w'):WF P ops Q V fx fl (.ef i t) n f w:=by
 obtain⟨hu,ti,z,hi,hz,hs,zx,Jx,ij⟩:=AH ht;have fb:=hS.at k he
 have hr:=run_append_room_cells (P:=P) w s o.type e ti hu hi en.a 0 l c A m c2 (bW news 0 m) (by simp[bI,hs]) (fun j u hj=>by
  have aL:=(List.getElem?_eq_some_iff.1 hj).1;rw[bI]at aL;rw[cg _ _ _ _ aL,Nat.zero_add]at hj;cases hj;exact hn j aL) (fun u hu=>by
  simp only[bW,List.mem_map,List.mem_range,Nat.zero_add]at hu;obtain⟨j,hj,rfl⟩:=hu;exact h1 j hj) BK (fun j hj=>by
   rw[bI]at hj
   rw[hs,fb.at _ (by omega)];rfl) (fun j _=>fb.free _)
 rw[hs,Nat.mul_one,Nat.zero_add]at hr;exact nV ho hd hw hK (rC hp hx hy hr) (fW MR) (h _ (hS.turn he (az.su en.a _ l w) (fb.put l m news (by omega))))
theorem U_{v:tJ}{w1:tA}(ho:ops[i]? =some o)(hd:o.dst=none)(hw:Region.wanted o (yielded ops (kn n f))=true)(hK:iU n ops=true)(hr:(execOp (ev f) o).run P w= .ok (.value v) w1)(ht:fE (AE V) fx fl i w w1)(h:WF P ops Q V fx fl t n f w1):WF P ops Q V fx fl (.ef i t) n f w:=by
 show wpOp P ops Q i _ _ w;unfold wpOp;simp only[ho,hw,if_true];refine .inl ?_;unfold Oper.wp;rw[qg (mP hK ho),hr,Oper.upon_value,mB,hd];exact⟨ht,h⟩
theorem aex{s e k c2 ku:Nat}{x:tP}(z:tJ)(ht:jk P s e 1 ku=true)(hz:∀w,(zeroValue e).run P w= .ok z w)(hzc:z.cells= #[z])(vZ:z.oneCell'=true)(hS:Mem w H M G R)(j:Nat){en:bQ}(he:H[j]? =some en)(hk:k<en.n)(MR:fx.contains i=true)(ho:ops[i]? =some o)(hd:o.dst=none)(hw:Region.wanted o (yielded ops (kn n f))=true)(hK:iU n ops=true)(hp:o.op= .call ⟨.builtin .clear,#[x],#[s]⟩)(hx:ev f x= .slice (some ⟨en.a,k,none⟩) 1 c2)
  (h:∀w',Mem w' (H.set j ⟨en.a,en.t,en.n,fS en.f k 1 (fun _=>z)⟩) M G R→WF P ops Q V fx fl t n f w'):WF P ops Q V fx fl (.ef i t) n f w:=by
 obtain⟨hu,ti,z',hi,hz',hs,zx,Jx,ij⟩:=AH ht;have fb:=hS.at j he
 have gx:=run_storeCells_cells (P:=P) en.a k [z] 0 w (fun j hj=>by
  simp only[List.length_singleton]at hj;rw[fb.at _ (by omega)];rfl) (fun j _=>fb.free _) (by simpa using vZ)
 simp only[Nat.add_zero]at gx;have hr:(Builtin.clear_ #[s] o.type #[.slice (some ⟨en.a,k,none⟩) 1 c2]).run P w= .ok (.tuple #[]) (w.setCells en.a k [z]):=by
  simp[Builtin.clear_,run_underlying hu,hz,Builtin.zeroCells,hzc,gx]
 have hcut:bW (fun _=>z) 0 1=[z]:=rfl;refine U_ ho hd hw hK (w1:=w.setCells en.a k [z]) (v:= .tuple #[]) ?_ (fW MR) (h _ (hS.turn he (az.su en.a _ k w) (hcut▸fb.put k 1 (fun _=>z) (by omega))));simp[execOp,hp,resolve,hx,invoke,builtin,hr]
end
section
open Rv
namespace Rv
section
variable{n:Nat}{ops:tL}{f:Nat→AV}{fn:Func}{Rr:Ending→World→Prop}{M:tD}{Φ R:tI}{H:List En}{ks:List Fr}{t:Ord}{i d:Nat}{md:Md}
theorem ex3{ρ:Operand→Value}{o:Oper}{s sz:Nat}{x y z u:tP}{a:tB}{len cap l k m:Nat}(hf:iW Tryz.prog s=some sz)(hl:l≤k)(hh:k≤m)(hm:m≤cap)(hp:o.op= .slice s x (some y) (some z) (some u))(hx:ρ x= .slice a len cap)(hy:ρ y=iV (l:Int))(hz:ρ z=iV (k:Int))(hu:ρ u=iV (m:Int))(w:tA):(execOp ρ o).run Tryz.prog w= .ok (.value (.slice (gD a l sz m) (k-l) (m-l))) w:=by
 simp only[execOp,hp,hx,hy,hz,hu,Option.map_some,Sem.run_bind,IV hf a len cap l k m hl hh hm,Result.andThen_ok,Sem.run_pure]
theorem aw{s ku l c m c2:Nat}{x y:AV}{A:Addr}{en:En}(h1:OW n ops f i=some (d,s,x,y))(k:Nat)(he:nth H k=some en)(ht:jk Tryz.prog s en.t 1 ku=true)(news:tC)(hn:∀w,Mem w (hs H) M Φ R→∀j,j<m→w.cell? (A.add j)=some (news j))(Hc:aT news m)(BK:l+m≤c)(Zt:c≤fX en.l)(hy:y.val= .slice (some A) m c2)(hg:G Tryz.prog fn Rr n M Φ R (.g md ops t::ks) (ua f d (vv (.slice (some ⟨en.a,0,none⟩) (l+m) c))) (H.set k ⟨en.a,en.t,[.f (fX en.l) (fS (cK en.l) l m news)]⟩))(hx:x.val= .slice (some ⟨en.a,0,none⟩) l c:=by rfl)(hv:md.vs.contains i=false:=by rfl):G Tryz.prog fn Rr n M Φ R (.g md ops (.ef i t)::ks) f H:=by
 intro w hS hK;obtain⟨hK1,gW⟩:=bp.1 hK;show WF Tryz.prog ops (kq Tryz.prog fn Rr ks) md.va (nY md ops) (uq md ops) (.ef i t) n (cn f) w;obtain⟨o,p,r,ho,hd,hw,hp,rfl,rfl⟩:=xl h1
 have Em:(nY md ops).contains i=true:=kv ho (by
  unfold mQ;rw[hv,hp]
  cases md.cb<;>rfl)
 rw[fF]at he;have AQ:(hs H)[k]? =some en.ib:=by rw[List.getElem?_map,he];rfl
 refine aew ht hS k AQ news (hn w hS) Hc BK Zt Em ho hd (eZ hw) (dI hK1).1 hp ((bB f p).symm.trans hx) ((bB f r).symm.trans hy) fun w' zH=> ?_
 have hg:=hg w' (by
  show Mem w' (List.map En.ib (H.set k _)) M Φ R;rw[List.map_set]
  exact zH) (bp.2 ⟨hK1,gW⟩)
 rw[jm]at hg;exact hg
def clB(n:Nat)(ops:tL)(f:Nat→AV)(i:Nat):Option (Nat×AV):=match ops[i]? with
 |some o=>match o.dst,rE n ops f o,o.op with
  |none,some true,.call ⟨.builtin .clear,xs,ts⟩=>match xs.toList,ts.toList with
   |[x],[s]=>some (s,ea f x)
   |_,_=>none
  |_,_,_=>none
 |none=>none
theorem clr{s ku q c2:Nat}{x:AV}{en:En}(z:tJ)(h1:clB n ops f i=some (s,x))(k:Nat)(he:nth H k=some en)(ht:jk Tryz.prog s en.t 1 ku=true)(hz:∀w,(zeroValue en.t).run Tryz.prog w= .ok z w)(hzc:z.cells= #[z])(vZ:z.oneCell'=true)(hq:q<fX en.l)(hx:x.val= .slice (some ⟨en.a,q,none⟩) 1 c2)(hg:G Tryz.prog fn Rr n M Φ R (.g md ops t::ks) f (H.set k ⟨en.a,en.t,[.f (fX en.l) (fS (cK en.l) q 1 (fun _=>z))]⟩))(hv:(nY md ops).contains i=true:=by rfl):G Tryz.prog fn Rr n M Φ R (.g md ops (.ef i t)::ks) f H:=by
 intro w hS hK;obtain⟨hK1,gW⟩:=bp.1 hK;show WF Tryz.prog ops (kq Tryz.prog fn Rr ks) md.va (nY md ops) (uq md ops) (.ef i t) n (cn f) w;rw[fF]at he;have AQ:(hs H)[k]? =some en.ib:=by rw[List.getElem?_map,he];rfl
 unfold clB at h1;split at h1
 ·rename_i o ho;split at h1
  ·rename_i xs ts hd hw hp;split at h1
   ·rename_i p s2 e1 e2;simp only[Option.some.injEq,Prod.mk.injEq]at h1;obtain⟨rfl,rfl⟩:=h1;have e1:xs= #[p]:=Array.toList_inj.1 e1;have e2:ts= #[s2]:=Array.toList_inj.1 e2;rw[e1,e2]at hp
    refine aex z ht hz hzc vZ hS k AQ hq hv ho hd (eZ hw) (dI hK1).1 hp ((bB f p).symm.trans hx) fun w' zH=>hg w' (by
     show Mem w' (List.map En.ib (H.set k _)) M Φ R;rw[List.map_set]
     exact zH) (bp.2 ⟨hK1,gW⟩)
   ·cases h1
  ·cases h1
 ·cases h1
end
end Rv
theorem Ni(g ln c k:Nat)(f0:tC)(w:tA)(hb:aZ w g 171 c f0)(hk:k<ln)(hc:ln≤c)(hm:c≤maxLen)(h1:∀j,j<ln→(f0 j).oneCell'=true):cA 83 #[.slice (some ⟨g,0,none⟩) ln c,iV (k:Int),iV ((k+1:Nat):Int)] w fun x w'=>x= .returned (.slice (some ⟨g,0,none⟩) (ln-1) c)∧aZ w' g 171 c (fS (fS f0 k (ln-(k+1)) (fun j=>f0 (k+1+j))) (ln-1) 1 (fun _=> .pointer none))∧dk (fun b=>b∈[g]) w w':=by
 unfold maxLen at hm;have aez:k+(ln-(k+1))=ln-1:=by omega
 obtain⟨A,hA,hAd⟩:∃A,gD (some (⟨g,0,none⟩:Addr)) (k+1) 1 c=some A∧∀j,j<ln-(k+1)→A.add j=⟨g,k+1+j,none⟩:=by
  unfold gD;by_cases h:c=k+1
  ·exact⟨_,if_pos h,fun j hj=>by omega⟩
  ·exact⟨⟨g,k+1,none⟩,by rw[if_neg h];simp[Addr.add_mid],fun j _=>by rw[Addr.add_mid]⟩
 have hA2:Value.slice (gD (some (⟨g,0,none⟩:Addr)) (ln-1) 1 c) (ln-(ln-1)) (c-(ln-1))= .slice (some ⟨g,ln-1,none⟩) 1 (c-(ln-1)):=by
  unfold gD;rw[if_neg (by omega),show ln-(ln-1)=1 by omega];simp[Addr.add_mid]
 have hS:Mem w (Rv.hs [⟨g,171,[.f c f0]⟩]) (fun _=>False) (fun _=>True) (fun w'=>dk (fun b=>b∈[g]) w w'):=Mem.begin (fun e he=>by cases List.mem_singleton.1 he;exact hb) (List.pairwise_singleton _ _) (fun _ _ h=>h) (fun _ h=>h.elim) (fun _ _=>trivial);refine en 33 [vv (.slice (some ⟨g,0,none⟩) ln c),vi (k:Int),vi ((k+1:Nat):Int)] Tryz.func83 rfl rfl hS (r [] rfl fun _=> ?_);refine pv (vv (.slice (gD (some ⟨g,0,none⟩) k 1 ln) (k+1-k) (ln-k))) rfl (fun w=>ex3 qN (by omega) (by omega) hc rfl rfl rfl rfl rfl w) (r [0,1] rfl fun _=> ?_);refine aw (A:=A) (l:=k) (c:=c) (m:=ln-(k+1)) (c2:=c-(k+1)) rfl 0 rfl gj (fun j=>f0 (k+1+j)) (fun w hS j hj=> ?_) (fun j hj=>h1 _ (by omega)) (by omega) (Nat.le_refl _) (congrArg (fun a=>Value.slice a (ln-(k+1)) (c-(k+1))) hA) ?_
 ·rw[hAd j hj];exact(hS.at 0 rfl).at (k+1+j) (by show _<c;omega)
 rw[aez];refine r [] rfl fun _=>clr (c2:=c-(ln-1)) (q:=ln-1) (.pointer none) rfl 0 rfl gj (fun w=>rfl) rfl rfl (by show ln-1<c;omega) hA2 ?_;exact r [] rfl fun _=>fin fun w hS=>⟨rfl,hS.at 0 rfl,hS.now.2⟩
end
theorem IW{g ln c k:Nat}{L:tK}{w:tA}(h:w.ownsRow 0 171 1 (.slice (some ⟨g,0,none⟩) ln c) ln L)(h1:∀u∈L,u.oneCell'=true)(hk:k<ln):cA 83 #[.slice (some ⟨g,0,none⟩) ln c,iV (k:Int),iV ((k+1:Nat):Int)] w fun x w'=>x= .returned (.slice (some ⟨g,0,none⟩) (ln-1) c)∧w'.ownsRow 0 171 1 (.slice (some ⟨g,0,none⟩) (ln-1) c) (ln-1) (L.eraseIdx k)∧dk (fun b=>b∈[g]) w w':=by
 rcases Qx h with⟨e,_⟩|⟨R,c',F,e,fb,Ys,hc,hl,hF⟩
 ·cases e
 cases e;rw[Nat.mul_one]at fb hl;refine(Ni g ln c k F w fb hk Ys hc (fun j hj=>h1 _ (List.mem_of_getElem? (hF j (by omega))))).mono ?_;rintro x w' ⟨rfl,Xu,ch⟩;refine⟨rfl,Yr (by rw[Nat.mul_one];exact Xu) (by omega) hc (by rw[List.length_eraseIdx,if_pos (by omega)];omega) (fun j hj=> ?_),ch⟩;rw[Nat.mul_one]at hj;rw[List.getElem?_eraseIdx,py _ _ _ _ _ (.inl hj)];by_cases hjk:j<k
 ·rw[if_pos hjk,py _ _ _ _ _ (.inl hjk)];exact hF j (by omega)
 ·rw[if_neg hjk];have:=BZ F k (ln-(k+1)) (fun j=>F (k+1+j)) (j-k) (by omega);rw[show k+(j-k)=j by omega]at this;rw[this,show k+1+(j-k)=j+1 by omega];exact hF (j+1) (by omega)
structure OR(X:Nat)(sl:tJ)(w0:tA)(s:tJ)(n:Nat)(L:tK)(x:tA):Prop where
 own:x.ownsRow 0 171 1 s n L
 c:dk (fun b=>b=X∨sl.ownBlock=some b∨w0.heap.size≤b) w0 x
noncomputable def eC(ns:Nat→Nd)(s:Ws)(k:Int)(p:Nat):(Nat→Nd)×Ws:=match s.fl[p % s.fl.length]? with
 |none=>(ns,s)
 |some l=>if k=5 then(ns,if k=6 then s else {s with fl:=s.fl.eraseIdx (p % s.fl.length)})else bJ ns (if k=6 then s else {s with fl:=s.fl.eraseIdx (p % s.fl.length)}) l
section
variable{w:tA}{X:Nat}{us:Nat→Nv}{v:Wv}{F:tD}
theorem OR.init{sl sv td:tJ}(h:CW w X us v F)(fb:aZ w X 114 19 (kO v.nd v.pn v.pe [sl,v.tk,v.dd,iV v.cs,sv,td]))(o1:w.ownsRow 0 171 1 sl v.fl.length (v.fl.map fun r=>lp r.p))(hF:∀b,F b↔b=X∨sl.ownBlock=some b∨sv.ownBlock=some b∨td.ownBlock=some b):Mem w [⟨X,114,19,kO v.nd v.pn v.pe [sl,v.tk,v.dd,iV v.cs,sv,td]⟩] (fun b=>sl.ownBlock=some b∨(CU us v F b∧b≠X∧¬sl.ownBlock=some b)) (fun w=>(∀r∈v.fl,ni w r)∧U7 w X v.tk) (OR X sl w sl v.fl.length (v.fl.map fun r=>lp r.p)):=by
 have fw:∀g,sl.ownBlock=some g→g≠X:=aU o1 fb (by decide)
 have hm:=Mem.begin (H:=[⟨X,114,19,kO v.nd v.pn v.pe [sl,v.tk,v.dd,iV v.cs,sv,td]⟩]) (M:=fun b=>sl.ownBlock=some b∨(CU us v F b∧b≠X∧¬sl.ownBlock=some b)) (G:=fun w=>(∀r∈v.fl,ni w r)∧U7 w X v.tk) (fun e he=>by cases List.mem_singleton.1 he;exact fb) (List.pairwise_singleton _ _) (fun e he=>by cases List.mem_singleton.1 he;exact fun hh=>hh.elim (fun e=>fw _ e rfl) fun e=>e.2.1 rfl) (fun b hb=>hb.elim (fun e=>yA o1 b e) fun e=>h.lt b e.1) (fun w2 c2=>by
  have c3:dk (CU us v F) w w2:=c2.mono fun b hb=>by
   rcases hb with hb|hb|hb
   ·have e:b=X:=by simpa using hb
    exact .inl ((hF b).2 (.inl e))
   ·exact .inl ((hF b).2 (.inr (.inl hb)))
   ·exact hb.1
  exact⟨(h.st w2 (c3.mono fun _=> .inl)).1.2,(h.st w2 (c3.mono fun _=> .inl)).2.1⟩)
 refine⟨hm.ib,hm.nT,hm.off,hm.mlt,hm.g,fun w2 c2=>⟨aG o1 fun g hg hl=>c2.block g hl fun hb=>fw g hg (by simpa using hb),c2.mono fun b hb=> .inl (by simpa using hb)⟩⟩
theorem OR.close{sl s2 sv td:tJ}{n2:Nat}{fl2:List Lr}{w':tA}(h:CW w X us v F)(fb:aZ w X 114 19 (kO v.nd v.pn v.pe [sl,v.tk,v.dd,iV v.cs,sv,td]))(o1:w.ownsRow 0 171 1 sl v.fl.length (v.fl.map fun r=>lp r.p))(o2:w.ownsRow 0 61 14 sv v.sv.length (v.sv.flatMap Bu))(o3:w.ownsRow 0 63 7 td v.td.length (v.td.flatMap MQ))(hF:∀b,F b↔b=X∨sl.ownBlock=some b∨sv.ownBlock=some b∨td.ownBlock=some b)(r:OR X sl w s2 n2 (fl2.map fun r=>lp r.p) w')(hn:n2=fl2.length)(Xu:aZ w' X 114 19 (kO v.nd v.pn v.pe [s2,v.tk,v.dd,iV v.cs,sv,td]))(hs:∀b,s2.ownBlock=some b→sl.ownBlock=some b)(Ah:∀x∈fl2,x∈v.fl):∃F',Cd w X us v F (fun i=>(us i).pure,{v.pure with fl:=fl2.map Lr.l}) us {v with fl:=fl2} F' w':=by
 subst hn;have st:∀{T sz n:Nat} {u:tJ} {L:tK},w.ownsRow 0 T sz u n L→T≠114→T≠171→w'.ownsRow 0 T sz u n L:=fun o h1 h2=>aG o fun g hg hl=>r.c.block g hl fun hb=>hb.elim (aU o fb h1 g hg) fun hb=>hb.elim (iX o o1 h2 g hg) fun hb=>absurd hl (Nat.not_lt.2 hb);have c:dk F w w':=⟨r.c.os,r.c.tape,r.c.output,r.c.size,fun b hb hf=>r.c.block b hb fun hh=>hh.elim (fun e=>hf ((hF b).2 (.inl e))) fun hh=>hh.elim (fun e=>hf ((hF b).2 (.inr (.inl e)))) fun e=>absurd hb (Nat.not_lt.2 e)⟩;obtain⟨F1,hW1,Zy,hF1⟩:=WO.make (v':={v with fl:=fl2}) fb hF c Xu r.own (st o2 (by decide) (by decide)) (st o3 (by decide) (by decide)) (fun b hb=> .inl ((hF b).2 (.inr (.inl (hs b hb))))) (fun b hb=> .inl ((hF b).2 (.inr (.inr (.inl hb))))) (fun b hb=> .inl ((hF b).2 (.inr (.inr (.inr hb)))));have GP:=h.st.mv Zy (fun _ hb=> .inl (.inl hb));obtain⟨mm,GM⟩:=h.world Zy hW1 rfl rfl rfl (fun w2 c2 x hx=>(GP w2 c2).1.2 x (Ah x hx));exact⟨F1,mm,GM,rfl,rfl,rfl,rfl,rfl⟩
end
section
open Rv
theorem Vb{ns:Nat→Nd}{s:Ws}{k:Int}{p:Nat}(h:s.fl.length=0):eC ns s k p=(ns,s):=by
 unfold eC;rw[List.length_eq_zero_iff.1 h];rfl
theorem Q7{ns:Nat→Nd}{s:Ws}{p:Nat}{l:Lt}(h:s.fl[p % s.fl.length]? =some l):eC ns s 5 p=(ns,{s with fl:=s.fl.eraseIdx (p % s.fl.length)}):=by
 unfold eC;rw[h];simp
theorem IX{ns:Nat→Nd}{s:Ws}{p:Nat}{l:Lt}(h:s.fl[p % s.fl.length]? =some l):eC ns s 6 p=bJ ns s l:=by
 unfold eC;rw[h];simp
theorem Nj{ns:Nat→Nd}{s:Ws}{k:Int}{p:Nat}{l:Lt}(h:s.fl[p % s.fl.length]? =some l)(h5:¬k=5)(h6:¬k=6):eC ns s k p=bJ ns {s with fl:=s.fl.eraseIdx (p % s.fl.length)} l:=by
 unfold eC;rw[h];simp[h5,h6]
theorem uZ{α β:Type}(f:α→β):∀(l:List α) (i:Nat),(l.eraseIdx i).map f=(l.map f).eraseIdx i
 |[],i=>by simp
 |a::l,0=>by simp
 |a::l,i+1=>by simp[uZ f l i]
theorem Cd.next{w w1 w2:tA}{X:Nat}{us pX:Nat→Nv}{v v':Wv}{F F':tD}{r:(Nat→Nd)×Ws}(h:Cd w X us v F r pX v' F' w1)(b:bZ w1 w2):Cd w X us v F r pX v' F' w2:=⟨h.cw.next b,h.mv.next b,h.nd,h.tk,h.dd,h.n,h.s⟩
theorem YF(X:Nat)(us:Nat→Nv)(v:Wv)(F:tD)(w:tA)(h:CW w X us v F)(k nd:Int)(q p:Nat)(kp:Int)(e:Ev)(ed:∀r∈v.fl,Q5 r.l)(tV:v.fl.length+v.td.length≤900000000000)(hlw:∀i,i<5→(us i).wl.length≤900000000000):cA 47 #[lp X,vF (lF [iV k,iV nd,iV (q:Int),iV (p:Int),iV kp,iV e.k,iV e.p,iV e.i,iV e.b,iV e.he,iV e.hn]) 11] w fun x w'=>x= .returned (.tuple #[])∧∃pX v' F',Cd w X us v F (eC (fun i=>(us i).pure) v.pure k p) pX v' F' w':=by
 obtain⟨_,sv,td,fb,o1,o2,o3,hF⟩:=h.wo.ex;obtain⟨fa,fc,rfl,hfa0⟩:=IU o1;refine en (H:=[⟨X,114,[.f 19 (kO v.nd v.pn v.pe [.slice fa v.fl.length fc,v.tk,v.dd,iV v.cs,sv,td])]⟩]) 55 [vp 0 0 X,vg [.o (iV k),.o (iV nd),.o (iV (q:Int)),.o (iV (p:Int)),.o (iV kp),.o (iV e.k),.o (iV e.p),.o (iV e.i),.o (iV e.b),.o (iV e.he),.o (iV e.hn)]] Tryz.func47 rfl rfl (OR.init h fb o1 hF) (r [] rfl fun α=> ?_);by_cases fw:v.fl.length=0
 ·refine r [1] rfl fun _=>fin fun w1 hS=> ?_;obtain⟨F1,IG⟩:=OR.close (fl2:=v.fl) h fb o1 o2 o3 hF hS.now.2 rfl (hS.at 0 rfl) (fun _ h=>h) (fun _ h=>h);exact⟨rfl,us,_,F1,by rw[Vb (show(v.fl.map Lr.l).length=0 by rw[List.length_map];exact fw)];exact IG⟩
 obtain⟨fg,rfl⟩:=hfa0 (by omega);obtain⟨t,ht⟩:∃t,t=p % v.fl.length:=⟨_,rfl⟩;have Zr:t<v.fl.length:=ht▸Nat.mod_lt _ (by omega);obtain⟨lr,hr⟩:∃r,v.fl[t]? =some r:=⟨v.fl[t],List.getElem?_eq_getElem Zr⟩;have KF:=List.mem_of_getElem? hr;have Ha:v.pure.fl[p % v.pure.fl.length]? =some lr.l:=by
  show(v.fl.map Lr.l)[p % (v.fl.map Lr.l).length]? =_;rw[List.length_map,←ht,List.getElem?_map,hr];rfl
 have Th:(v.fl.eraseIdx t).length=v.fl.length-1:=by rw[List.length_eraseIdx,if_pos Zr]
 have Q8:v.pure.fl.eraseIdx (p % v.pure.fl.length)=(v.fl.eraseIdx t).map Lr.l:=by
  rw[uZ];show(v.fl.map Lr.l).eraseIdx (p % (v.fl.map Lr.l).length)=_;rw[List.length_map,←ht]
 obtain⟨g,hg,_⟩:=tt h (P:=lr.p) (l:=lr.l) (a:=lr.a) (c:=lr.c) (fun w2 c2=>(h.st w2 c2).1.2 lr KF) (ed lr KF) (by omega) (by omega) (fun i hi=>by have:=hlw i hi;omega);have he:=Q6 hg;have key:∀(s2:tJ) (n2:Nat) (fl2:List Lr) (w1:tA),n2=fl2.length→OR X (.slice (some ⟨fg,0,none⟩) v.fl.length fc) w s2 n2 (fl2.map fun r=>lp r.p) w1→aZ w1 X 114 19 (kO v.nd v.pn v.pe [s2,v.tk,v.dd,iV v.cs,sv,td])→(∀b,s2.ownBlock=some b→(Value.slice (some ⟨fg,0,none⟩) v.fl.length fc).ownBlock=some b)→(∀x∈fl2,x∈v.fl)→fl2.length≤v.fl.length→eC (fun i=>(us i).pure) v.pure k p=bJ (fun i=>(us i).pure) {v.pure with fl:=fl2.map Lr.l} lr.l→cA g #[lp X,lp lr.p] w1 fun x w'=>x= .returned (.tuple #[])∧∃y:(Nat→Nv)×Wv×(Nat→Prop),Cd w X us v F (eC (fun i=>(us i).pure) v.pure k p) y.1 y.2.1 y.2.2 w':=fun s2 n2 fl2 w1 hn ho uU hs Ah hl hq=>by
  obtain⟨F1,IG⟩:=OR.close (fl2:=fl2) h fb o1 o2 o3 hF ho hn uU hs Ah;obtain⟨g',Tq,hcall⟩:=tt IG.cw (P:=lr.p) (l:=lr.l) (a:=lr.a) (c:=lr.c) (fun w2 c2=>((h.st.mv IG.mv (fun _ h=> .inl h)) w2 (c2.mono fun _ hb=>hb.elim .inr fun e=> .inl (.inr e))).1.2 lr KF) (ed lr KF) (show fl2.length≤_ by omega) (show v.td.length≤_ by omega) (fun i hi=>by have:=hlw i hi;omega);obtain rfl:g'=g:=Option.some.inj (Tq.symm.trans hg);exact hcall.mono fun _ w4 ⟨h0,GZ,v2,F2,hd⟩=>⟨h0,(GZ,v2,F2),by rw[hq];exact IG.trans hd⟩
 refine r [0,1] rfl fun _=>rm (a:=(p:Int)) (b:=(v.fl.length:Int)) (t:Int) rfl (by omega) (by rw[ht];rfl) (r [] rfl fun _=>l1 (q:=0+t*1) rfl (lp lr.p) (fun w hS=> ?_) (r [] rfl fun _=> ?_))
 ·have:=n_ hS.now.2.own (j:=t) (u:=lp lr.p) (by rw[List.getElem?_map,hr];rfl);rw[Addr.add_mid]at this;rw[Nat.mul_one];exact this
 by_cases h6:k=6
 ·refine r [0,1,1] rfl fun _=>l1 rfl (iV lr.l.kd) (fun w hS=>(hS.now.1.1 lr KF).b.at 0 (cF rfl)) (r [] rfl fun _=>lk (vv (.func (.func g) #[lp X] #[])) rfl (fun w hS=>hS.now.1.2 lr.l.kd g hg) (r [] rfl fun _=>ct rfl (vt []) (fun(y:(Nat→Nv)×Wv×(Nat→Prop)) w'=>Cd w X us v F (eC (fun i=>(us i).pure) v.pure k p) y.1 y.2.1 y.2.2 w') (fun w1 hS=>key _ _ v.fl w1 rfl hS.now.2 (hS.at 0 rfl) (fun _ h=>h) (fun _ h=>h) (Nat.le_refl _) (by rw[h6];exact IX Ha)) (fun _ _ _ h b=>h.next b) (fun y=>r [] rfl fun _=>c_ rfl fun w hS=>⟨rfl,y.1,y.2.1,y.2.2,hS.now.2⟩) rfl he))
 refine rz [1,1] [((t+1:Nat):Int)] rfl fun _=>j_ rfl (by kernel_rfl) fun w2 hS=>(IW (k:=t) hS.now.2.own (fun u hu=>by obtain⟨x,_,rfl⟩:=List.mem_map.1 hu;rfl) Zr).mono ?_;rintro _ w3 ⟨rfl,o',ch⟩;have YC:Mv (fun b=>(.slice (some ⟨fg,0,none⟩) v.fl.length fc:tJ).ownBlock=some b) w2 (fun b=>(.slice (some ⟨fg,0,none⟩) v.fl.length fc:tJ).ownBlock=some b) w3:=⟨ch.mono fun b hb=>(congrArg some (List.mem_singleton.1 hb)).symm,fun _=> .inl,fun b hb=>Nat.lt_of_lt_of_le (yA hS.now.2.own b hb) ch.size⟩;refine⟨vv (.slice (some ⟨fg,0,none⟩) (v.fl.length-1) fc),_,_,_,_,rfl,.inl rfl,hS.mv (R':=OR X (.slice (some ⟨fg,0,none⟩) v.fl.length fc) w (.slice (some ⟨fg,0,none⟩) (v.fl.length-1) fc) (v.fl.length-1) ((v.fl.eraseIdx t).map fun r=>lp r.p)) YC (fun w2 c2=>⟨aG (uZ (fun r:Lr=>lp r.p) v.fl t▸o') (fun g hg hl=>c2.block g hl fun hb=>by obtain⟨e,he,hea⟩:=List.mem_map.1 hb;exact hS.off e he (.inl (by rw[hea];exact hg))),(hS.now.2.c.trans ch (fun b _ hb=> .inr (.inl (congrArg some (List.mem_singleton.1 hb)).symm))).trans c2 (fun b _ hb=>(hS.Yx (fun _ r=>r.c) b hb).elim id fun e=> .inr (.inr e))⟩),r [] rfl fun _=>gn 0 (kO v.nd v.pn v.pe [.slice (some ⟨fg,0,none⟩) (v.fl.length-1) fc,v.tk,v.dd,iV v.cs,sv,td]) ?_⟩;have Ah:∀x∈v.fl.eraseIdx t,x∈v.fl:=fun _ h=>List.mem_of_mem_eraseIdx h;by_cases h5:k=5
 ·refine r [0] rfl fun _=>c_ rfl fun w1 hS=> ?_;obtain⟨F1,IG⟩:=OR.close (fl2:=v.fl.eraseIdx t) h fb o1 o2 o3 hF hS.now.2 Th.symm (hS.at 0 rfl) (fun _ h=>h) Ah;exact⟨rfl,us,_,F1,by rw[h5,Q7 Ha,Q8];exact IG⟩
 refine r [1,1] rfl fun _=>l1 rfl (iV lr.l.kd) (fun w hS=>(hS.now.1.1 lr KF).b.at 0 (cF rfl)) (r [] rfl fun _=>lk (vv (.func (.func g) #[lp X] #[])) rfl (fun w hS=>hS.now.1.2 lr.l.kd g hg) (r [] rfl fun _=>ct rfl (vt []) (fun(y:(Nat→Nv)×Wv×(Nat→Prop)) w'=>Cd w X us v F (eC (fun i=>(us i).pure) v.pure k p) y.1 y.2.1 y.2.2 w') (fun w1 hS=>key _ _ (v.fl.eraseIdx t) w1 Th.symm hS.now.2 (hS.at 0 rfl) (fun _ h=>h) Ah (by omega) (by rw[Nj Ha h5 h6,Q8])) (fun _ _ _ h b=>h.next b) (fun y=>r [] rfl fun _=>c_ rfl fun w hS=>⟨rfl,y.1,y.2.1,y.2.2,hS.now.2⟩) rfl he))
end
def gS(n:Nd)(kp:Int):Nd:={n with up:=false,dl:=n.dl.take (leftOf n.dl.length n.sy kp),sy:=leftOf n.dl.length n.sy kp,mo:=fun _=>Bt.zero,hn:=fun _=>0,he:=fun _=>0,wt:=[],af:=none,tu:=0,ct:=n.sy.toNat}
theorem Gg{len:Nat}{s kp:Int}:leftOf len s kp≤len:=by
 unfold leftOf;split<;>omega
section
variable{w w':tA}{X i:Nat}{us:Nat→Nv}{v v':Wv}{F F':tD}
theorem Q9(h:CW w X us v F)(hi:i<5)(lU:(us i).ub=true)(kp:Int)(hk:0≤kp)(XI:kp≤9223372036854775807):cA 49 #[lp (v.nd i),iV kp] w fun x w'=>x= .returned (.tuple #[])∧∃pX v' F',Cd w X us v F (aj (fun i=>(us i).pure) i (gS (us i).pure kp),v.pure) pX v' F' w':=by
 have ok:=h.ok i hi;have Bp:=h.nb i hi;unfold NB lh at Bp;rw[lU]at Bp;have sH:=Gg (len:=(us i).dl.length) (s:=(us i).sy) (kp:=kp);refine(Qo X (v.nd i) (us i).i (us i).da (us i).dl.length (us i).dc (us i).dl (us i).sy _ (us i).hn (us i).he (us i).wt (us i).af (us i).tu (us i).ct (us i).sk kp w Bp (fun b=>CT us v F b∧b≠v.nd i) (fun b hb=>h.Jz b hb.1) (fun hb=>hb.2 rfl) (fun w2 c2=>((h.st w2 (c2.mono fun b hb=>hb.elim (fun e=> .inl (.inr (.inl ⟨i,hi,e⟩))) fun e=>e.1)).1.1 i hi).row) ok.nil ok.cap ok.len ok.s0 ok.s1 hk XI).mono ?_;rintro x w' ⟨a1,c1,rfl,fb,gx,mm,vZ,GM,ch⟩;obtain⟨n1,hn1e⟩:∃n1,n1=leftOf (us i).dl.length (us i).sy kp:=⟨_,rfl⟩;rw[←hn1e]at fb gx mm sH;have hlen:((us i).dl.take n1).length=n1:=by rw[List.length_take];omega
 obtain⟨u',hu'⟩:∃u':Nv,u'={us i with ub:=false,da:=a1,dc:=c1,dl:=(us i).dl.take n1,sy:=(n1:Int),m:=fun _=>⟨Bt.zero,none,0,zQ⟩,hn:=fun _=>0,he:=fun _=>0,wt:= .slice none 0 0,wl:=[],af:= .nilFunc,ax:=none,tu:=0,ct:=(us i).sy.toNat}:=⟨_,rfl⟩;have ZR:NB w' X (v.nd i) u':=by
  have e1:(((us i).sy.toNat:Nat):Int)=(us i).sy:=Int.toNat_of_nonneg ok.s0;have e2:u'.dl.length=n1:=by rw[hu'];exact hlen
  have e:lh X u'=kj [.pointer (some ⟨X,0,none⟩),iV ((us i).i:Int),.bool false,.slice a1 n1 c1,iV (n1:Int)] Yh [iV (us i).sy,.bool (us i).sk]:=by
   unfold lh;rw[e2,hu'];simp only[e1];rfl
  unfold NB;rw[e];exact fb
 have aL:=h.lt;have kK:∀b,¬fj u'.wt b:=fun b hb=>by
  rw[hu']at hb;obtain⟨o,n,c,e⟩:=hb;cases e
 have m:Mv (fun b=>F b∨b=v.nd i∨fj (us i).wt b) w (fun b=>F b∨b=v.nd i∨fj u'.wt b) w':=⟨ch.mono fun b hb=> .inr (.inl hb),fun b hb=> .inl (hb.imp id fun hb=>hb.imp id fun e=>absurd e (kK b)),fun b hb=>Nat.lt_of_lt_of_le (aL b (hb.elim .inl fun hb=>hb.elim (fun e=> .inr (.inl ⟨i,hi,e⟩)) fun e=>absurd e (kK b))) ch.size⟩;have hs:=h.st.mv m (fun b hb=> .inl (hb.imp id fun hb=>hb.imp (fun e=>⟨i,hi,e⟩) fun e=>⟨i,hi,e⟩));have ed:u'.Ok:=by
  rw[hu'];exact⟨fun _ _=>Bt.cR,vZ,by rw[hlen];exact mm,GM,by rw[hlen];have:=ok.len;omega,by show(0:Int)≤(n1:Int);omega,by show(n1:Int)≤((us i).dl.take n1).length;rw[hlen];omega,ok.i5,trivial⟩
 have KE:=h.put hi m (h.wo.Ch ch fun b e=>e▸h.nf i hi) rfl rfl rfl ZR ed (h.nf i hi) ⟨0,by rw[hu'];exact⟨none,0,rfl,Nat.le_refl _,Nat.zero_le _,.inl ⟨rfl,rfl⟩⟩⟩ (fun b hb=>absurd hb (kK b)) (fun b hb=>absurd hb (kK b)) (fun w2 c2=>by
  have c3:dk (CT us v F) w' w2:=c2.mono fun b hb=>hb.elim id fun hb=>hb.elim (fun hb=> .inl (.inl hb)) fun e=>absurd e (kK b)
  have de:=gx w2 (c3.mono fun b hb=>by
   by_cases e:b=v.nd i
   ·exact .inl e
   ·exact .inr ⟨hb,e⟩)
  refine⟨?_,(hs w2 (c3.mono fun _=> .inl)).1.2⟩;rw[hu']
  exact⟨by rw[hlen];exact de,fun _ _=>jG.dp rfl,rfl,fun r hr=>by cases hr⟩)
 refine⟨rfl,_,v,F,⟨KE,h.YD hi m rfl,rfl,rfl,rfl, ?_,rfl⟩⟩;rw[nz];congr 1;rw[hu',hn1e];rfl
end
section
open Rv
noncomputable def nC(n:Nd)(s:Ws)(q:Nat)(tg:Int):Nd:=if s.pn q= -1∨s.pn q=tg∨n.up=false∨¬(n.mo q).e=s.pe q∨¬(dQ (n.mo q) tg).2=0 then n else {n with mo:=aj n.mo q (dQ (n.mo q) tg).1}
theorem pY{n:Nd}{s:Ws}{q:Nat}{tg:Int}(h:s.pn q= -1∨s.pn q=tg∨n.up=false∨¬(n.mo q).e=s.pe q∨¬(dQ (n.mo q) tg).2=0):nC n s q tg=n:=if_pos h
theorem Vc{u:Nv}{v:Wv}{q:Nat}{tg:Int}{B8:Bt}(h1:¬v.pn q= -1)(h2:¬v.pn q=tg)(h3:u.ub=true)(h4:(u.m q).B.e=v.pe q)(h5:dQ (u.m q).B tg=(B8,0)):nC u.pure v.pure q tg={u.pure with mo:=aj u.pure.mo q B8}:=by
 unfold nC;rw[if_neg]
 ·show({u.pure with mo:=aj u.pure.mo q (dQ (u.m q).B tg).1}:Nd)=_;rw[h5]
 ·rintro(h|h|h|h|h)
  ·exact h1 h
  ·exact h2 h
  ·exact absurd (h3.symm.trans h) (by decide)
  ·exact h h4
  ·exact h (congrArg Prod.snd h5)
theorem Gh{pn pe:tG}{q i:Nat}{a b c:Int}(hq:q<4)(hd:dB pn pe)(h:jv pn pe (q:Int) a b c)(hi:pn q= -1∨pn q=(i:Int)):(¬c=0∧pn q= -1)∨(a=(i:Int)∧b=pe q∧c=0∧pn q=(i:Int)):=by
 cases h with
 |state h=>exact absurd hd h
 |range h xX=>exact absurd ⟨by omega,by omega⟩ xX
 |none h k hk xX hn=>
  obtain rfl:q=k:=by omega
  exact .inl ⟨by decide,hn⟩
 |here h k hk xX hn=>
  obtain rfl:q=k:=by omega
  have:=hi.resolve_left hn;exact .inr ⟨this,rfl,rfl,this⟩
theorem KG{B B':Bt}{nd er:Int}(h:dQ B nd=(B',er)):B'.Ok:=by
 unfold dQ at h;split at h
 ·cases h;exact Bt.cR
 rename_i ed;have ok:=Classical.not_not.1 ed;split at h
 ·cases h;exact Bt.cR
 rename_i hn;split at h
 ·cases h;exact Bt.cR
 split at h
 ·cases h;exact Bt.cR
 rename_i hr;have hr:=Classical.not_not.1 hr;split at h
 ·cases h;exact Bt.cR
 cases h;have hs:=ok.cJ;unfold Bt.cC bw at hs;have hn:=Classical.not_not.1 hn;refine⟨.inr (.inr (.inl ⟨rfl, ?_⟩)),ok.len,ok.told⟩;show 1≤B.e∧B.e≤1048576∧B.f=0∧0≤nd∧nd≤4∧0≤B.o∧B.o≤4;omega
theorem Vd(X N:Nat)(u:Nv)(v:Wv)(F U:tD)(w:tA)(hw:NW w X N u v F U)(i q:Nat)(tg:Int)(hi:i<5)(hNi:v.nd i=N)(hq:q<4)(Ve:dB v.pn v.pe)(Ha:v.pn q= -1∨v.pn q=(i:Int)):cA 51 #[lp X,iV (q:Int),iV tg] w fun x w'=>x= .returned (.tuple #[])∧∃u' v' F',Dn w X N u v F U ((nC u.pure v.pure q tg,v.pure)) u' v' F' w':=by
 have ho:aT (iO (u.m q)) 47:=dY (hw.st.now.1.mo q hq).one;have off:∀{w'},(Mem w' (hs [nE X N u]) (fun b=>F b∨(U b∧b≠N)) (fun w=>(u.In w N∧∀r∈v.fl,ni w r)∧True) (RW X (fun b=>b∈[N]) F w v F))→nC u.pure v.pure q tg=u.pure→∃u' v' F',Dn w X N u v F U (nC u.pure v.pure q tg,v.pure) u' v' F' w':=fun hS e=>⟨u,v,F,Dn.fin hS hw.ub hw.nu (fun _ h=>⟨h.1.1,h.1.2⟩) hw.ok rfl rfl rfl rfl rfl (by rw[e]) rfl⟩;refine en (H:=[nE X N u]) 75 [vv (lp X),vi (q:Int),vi tg] Tryz.func51 rfl rfl (hw.init (G:=fun _=>True) fun _ _=>trivial) ?_;refine r [] rfl fun _=>lf rfl 8 _ (fun w hS j hj=>hS.now.2.wo.dir hj) (r [] rfl fun _=> ?_);refine cq rfl (fun y:Int×Int×Int=>vt [.g [.o (iV y.1),.o (iV y.2.1)],.o (iV y.2.2)]) (fun y=>jv v.pn v.pe q y.1 y.2.1 y.2.2) (fun w hS=>(Bd v.pn v.pe (q:Int) w).mono fun _ _ ⟨a,b,c,h0,h1,b1⟩=>⟨(a,b,c),h0,b1,h1⟩) ?_;rintro⟨pa,pb,er⟩ hwh;have hwh:jv v.pn v.pe q pa pb er:=hwh;rcases Gh hq Ve hwh Ha with⟨h0,N_⟩|⟨rfl,rfl,rfl,sW⟩
 ·exact r [1] rfl fun _=>fin fun w hS=>⟨rfl,off (hS.take 1) (pY (.inl N_))⟩
 by_cases hto:(i:Int)=tg
 ·exact r [0,1] rfl fun _=>fin fun w hS=>⟨rfl,off (hS.take 1) (pY (.inr (.inl (sW.trans hto))))⟩
 refine r [0,0,3] rfl fun _=>l1 (q:=0+0+i*1) rfl (lp N) (fun w hS=>by rw[show 0+0+i*1=i by omega,←hNi];exact hS.now.2.wo.nd_ hi) (sv 34 (vp 0 0 N) rfl ?_);cases lU:u.ub
 ·obtain⟨u1,rfl⟩:∃u1:Nv,u={u1 with ub:=false}:=⟨u,by rw[←lU]⟩;exact r [3] rfl fun _=>fin fun w hS=>⟨rfl,off (hS.take 1) (pY (.inr (.inr (.inl lU))))⟩
 obtain⟨u1,rfl⟩:∃u1:Nv,u={u1 with ub:=true}:=⟨u,by rw[←lU]⟩;refine r [3,1] rfl fun _=>Z8 rfl rfl 0 rfl (iV (u1.m q).B.e) (nh (j:=1) hq (cF rfl)) ?_;by_cases CI:(u1.m q).B.e=v.pe q
 case neg=>exact r [1] rfl fun _=>fin fun w hS=>⟨rfl,off (hS.take 1) (pY (.inr (.inr (.inr (.inl CI)))))⟩
 refine r [0,1] rfl fun _=>lo rfl rfl 0 rfl 47 (iO (u1.m q)) (fun i hi=>nh hq hi) (r [] rfl fun _=>cx rfl (fun y:Int×L5=>vt [Ie y.2,.o (iV y.1)]) (fun y=>dQ (u1.m q).B tg=(y.2.1,y.1)∧aT y.2.2.2.2 41) (fun y=>PO y.2) (fun w hS=>(TV _ (u1.m q).B (u1.m q).a (u1.m q).c (u1.m q).g tg w hS.ult (fun w2 c2=>(hS.g w2 c2).1.1.mo q hq) (hw.ok.ok q hq)).mono fun _ _ ⟨_,B8,er8,h0,fh,⟨a8,c8,g8,hy,hm8⟩,b⟩=>⟨(er8,B8,a8,c8,g8),by rw[h0,hy];rfl,b,⟨fh,hm8.now.one⟩,fun _=>hm8⟩) ?_);rintro⟨er8,B8,a8,c8,g8⟩ ⟨fh,o8⟩;have fh:dQ (u1.m q).B tg=(B8,er8):=fh;have o8:aT g8 41:=o8;by_cases h0:er8=0
 case neg=>exact r [0] rfl fun _=>c_ rfl fun w hS=>⟨rfl,off ((hS.take 1).said fun _ h=>h.1) (pY (.inr (.inr (.inr (.inr (by rw[show(Nv.pure _).mo q=(u1.m q).B from rfl,fh];exact h0))))))⟩
 subst h0;refine r [1,3,1] rfl fun _=>so (g:=iO ⟨B8,a8,c8,g8⟩) rfl rfl rfl 0 rfl (lh X {u1 with ub:=true,m:=aj u1.m q ⟨B8,a8,c8,g8⟩}) (fun i _=>(oP hq i).trans (rV (x:=⟨B8,a8,c8,g8⟩) i)) ?_ (dY o8);exact r [] rfl fun _=>c_ rfl fun w hS=>⟨rfl,_,v,F,Dn.fin hS hw.ub hw.nu (fun _ h=>⟨h.1.1.1.put h.2,h.1.1.2⟩) (hw.ok.put (KG fh)) rfl rfl rfl rfl rfl (by rw[Vc (u:={u1 with ub:=true}) (by rw[sW];omega) (by rw[sW];exact hto) lU CI fh];exact jA (u:={u1 with ub:=true}) _ _) rfl⟩
end
theorem Q_{f g:tC}{n:Nat}(h:vF f n=vF g n):∀i,i<n→f i=g i:=fun i hi=>by
 have h1:bW f 0 n=bW g 0 n:=by
  have h2:=Value.agg.inj h;simpa using congrArg Array.toList h2
 have h3:=congrArg (fun l:List Value=>l[i]?) h1;simpa[bW,hi]using h3
theorem Vf{w:tA}{N:Nat}{af:tJ}{d:Ad}{x:Option Af}(h:Yw w N af d x):(x=none∧af= .nilFunc)∨(x≠none∧∃g a b,af= .func g a b):=by
 match x,h with
 |none,h=>exact .inl ⟨rfl,h⟩
 |some (.serve l an),h=>exact .inr ⟨by simp,_,_,_,h.1⟩
 |some (.begin l an),h=>exact .inr ⟨by simp,_,_,_,h.1⟩
 |some (.shut l an),h=>exact .inr ⟨by simp,_,_,_,h.1⟩
 |some (.take l an),h=>exact .inr ⟨by simp,_,_,_,h.1⟩
 |some (.jz l an),h=>exact .inr ⟨by simp,_,_,_,h.1⟩
theorem Vg{hd tl:tK}{mo:tO}{hn he:tG}{wt af:tJ}{tu:Int}{q:Nat}{g g':tC}(h:∀j,j<47→g j=g' j)(i:Nat):kj hd (fU (aj mo q g) hn he wt af tu) tl i=kj hd (fU (aj mo q g') hn he wt af tu) tl i:=by
 have e:∀j,j<188→aj mo q g (j/47) (j % 47)=aj mo q g' (j/47) (j % 47):=fun j hj=>by
  unfold aj;split
  ·exact h _ (Nat.mod_lt _ (by decide))
  ·rfl
 unfold kj;by_cases h5:i<5
 ·rw[if_pos h5,if_pos h5]
 rw[if_neg h5,if_neg h5];by_cases h6:i<204
 ·rw[if_pos h6,if_pos h6];unfold fU;by_cases h7:i-5<188
  ·rw[if_pos h7,if_pos h7];exact e _ h7
  ·rw[if_neg h7,if_neg h7]
 ·rw[if_neg h6,if_neg h6]
section
variable{w w':tA}{X i:Nat}{us:Nat→Nv}{v v':Wv}{F F':tD}{u':Nv}
theorem CW.dn(h:CW w X us v F)(hi:i<5){r:Nd×Ws}(hd:Dn w X (v.nd i) (us i) v F (CT us v F) r u' v' F' w'):Cd w X us v F (aj (fun i=>(us i).pure) i r.1,r.2) (aj us i u') v' F' w':=by
 obtain⟨B,hr⟩:=h.wr i hi;have kK:∀b,fj u'.wt b↔fj (us i).wt b:=fun b=>by rw[hd.wt]
 have aL:∀b,fj (us i).wt b→b<w.heap.size:=fun b hb=>h.lt b (.inr (.inr ⟨i,hi,hb⟩));have m:Mv (fun b=>F b∨b=v.nd i∨fj (us i).wt b) w (fun b=>F' b∨b=v.nd i∨fj u'.wt b) w':=hd.mv.less (fun b hb=>hb.imp id .inl) fun b hb=>by
  rcases hb with hb|hb|hb
  ·exact .inl (.inl hb)
  ·exact .inl (.inr hb)
  ·exact .inr ⟨.inr (.inr ((kK b).1 hb)),aL b ((kK b).1 hb)⟩
 have hnF:∀b,fj (us i).wt b→¬F' b:=fun b hb hf=>by
  rcases hd.mv.f b (.inl hf)with(e|e)|e
  ·exact h.wf i b hi hb e
  ·exact h.wn i b i hi hi hb e
  ·exact absurd (aL b hb) (Nat.not_lt.2 e)
 have KE:=h.put hi m hd.nw.wo hd.nd hd.tk hd.dd hd.nw.nb hd.nw.ok hd.nw.nf ⟨B,by rw[hd.wt,hd.wl];exact hr.still fun hb=>hd.mv.c.block B (hr.lt hb) fun e=>e.elim (h.wf i B hi hb) (h.wn i B i hi hi hb)⟩ (fun b hb=>hnF b ((kK b).1 hb)) (fun b hb=>h.wn i b i hi hi ((kK b).1 hb)) (hd.nw.st.mono fun b _ hb=>by
  rcases hb with hb|hb|hb
  ·exact .inl hb
  ·exact .inr hb
  ·exact .inl (.inl (.inr (.inr ⟨i,hi,(kK b).1 hb⟩))))
 refine⟨KE,h.YD hi m hd.nd,hd.nd,hd.tk,hd.dd, ?_,hd.s⟩;rw[nz,hd.n]
theorem CW.still(h:CW w X us v F)(c:dk (fun _=>False) w w'):Cd w X us v F (fun i=>(us i).pure,v.pure) us v F w':=by
 have same:∀b,CU us v F b→w'.heap[b]? =w.heap[b]? :=fun b hb=>c.block b (h.lt b hb) id;refine⟨⟨h.wo.still fun b hb=>same b (.inl hb),fun j hj=>(h.nb j hj).same (same _ (.inr (.inl ⟨j,hj,rfl⟩))),h.ok,h.inj,h.nf,fun j hj=> ?_,h.wf,h.wn,h.ww,h.st.Ch (c.mono fun _ h=>h.elim) fun _ _ h=>h,Nat.le_trans h.ln c.size,h.lo⟩,⟨c.mono fun _ h=>h.elim,fun _=> .inl,fun b hb=>Nat.lt_of_lt_of_le (h.lt b hb) c.size⟩,rfl,rfl,rfl,rfl,rfl⟩;obtain⟨B,hr⟩:=h.wr j hj;exact⟨B,hr.still fun hb=>same B (.inr (.inr ⟨j,hj,hb⟩))⟩
noncomputable def Ra(ns:Nat→Nd)(s:Ws)(q:Nat)(tg:Int):(Nat→Nd)×Ws:=(aj ns (s.pn q).toNat (nC (ns (s.pn q).toNat) s q tg),s)
theorem Vh(h:CW w X us v F)(q:Nat)(hq:q<4)(tg:Int)(Ve:dB v.pn v.pe):cA 51 #[lp X,iV (q:Int),iV tg] w fun x w'=>x= .returned (.tuple #[])∧∃pX v' F',Cd w X us v F (Ra (fun i=>(us i).pure) v.pure q tg) pX v' F' w':=by
 have hp:=Ve q hq;unfold E_ at hp;have hi:(v.pn q).toNat<5:=by omega
 refine(Vd X (v.nd (v.pn q).toNat) (us (v.pn q).toNat) v F _ w (h.nw hi) (v.pn q).toNat q tg hi rfl hq Ve (by omega)).mono ?_;rintro x w' ⟨rfl,u',v',F',hd⟩;exact⟨rfl,_,v',F',h.dn hi hd⟩
def KH(n:Nd)(s:Ws)(q:Nat):Prop:=(dB s.pn s.pe∧s.pn q= -1)∧n.up=true∧n.af=none∧(fJ (n.mo q) 1).2=0∧n.dl.length+(bP [aI q]).length≤100000
open Classical in
noncomputable def cY(n:Nd)(s:Ws)(q:Nat):Nd×Ws:=if KH n s q then({n with dl:=n.dl++bP [aI q],sy:=((n.dl.length+(bP [aI q]).length:Nat):Int),mo:=aj n.mo q ⟨1,1,0,0,0,[]⟩},{s with pn:=cP s.pn q n.i,pe:=cP s.pe q 1})else(n,s)
theorem Nk(h:CW w X us v F)(hi:i<5)(q:Nat)(hq:q<4):cA 44 #[lp X,iV (q:Int),lp (v.nd i)] w fun x w'=>x= .returned (.tuple #[])∧∃pX v' F',Cd w X us v F (aj (fun i=>(us i).pure) i (cY (us i).pure v.pure q).1,(cY (us i).pure v.pure q).2) pX v' F' w':=by
 have ok:=h.ok i hi;have GS:=h.st.now.1.1 i hi;obtain⟨fl,sv,td,fb,o1,o2,o3,hF⟩:=h.wo.ex;have YG:F X:=(hF X).2 (.inl rfl);have hNX:v.nd i≠X:=fun e=>h.nf i hi (e▸YG);have MK:=Vf GS.af;have pS:aT (iO ((us i).m q)) 47:=dY (GS.mo q hq).one;refine(IF X (v.nd i) ((us i).i:Int) (us i).da (us i).dl.length (us i).dc (us i).dl (us i).sy (fun p=>iO ((us i).m p)) (us i).hn (us i).he (us i).wt (us i).af ((us i).tu:Int) ((us i).ct:Int) (us i).ub (us i).sk v.nd v.pn v.pe fl v.tk v.dd v.cs sv td q hq ((us i).m q).B ((us i).m q).a ((us i).m q).c ((us i).m q).g (ok.ok q hq) rfl pS (by have:=ok.i5;omega) (MK.imp (fun h=>h.2) fun h=>h.2) w (h.nb i hi) fb (by simp[hNX]) (fun b=>CT us v F b∧b≠v.nd i∧b≠X) (fun b hb=>h.Jz b hb.1) (fun hb=>hb.2.1 rfl) (fun hb=>hb.2.2 rfl) (fun w2 c2=>((h.st w2 (c2.mono fun b hb=> ?_)).1.1 i hi).row) ok.nil ok.cap ok.max ok.len ok.s0 ok.s1).mono ?_
 ·rcases hb with(e|e)|hb
  ·exact .inl (.inr (.inl ⟨i,hi,e⟩))
  ·exact .inl (.inl (e▸YG))
  ·exact hb.1
 rintro x w' ⟨rfl,ch,⟨N_,f0,f1⟩|⟨sW,a3,c3,a1,c1,q1,yg,hyg,f0,f1,gx,hc3,FK,hm3⟩⟩
 ·have Re:¬KH (us i).pure v.pure q:=fun hc=>N_ ⟨hc.1,hc.2.1,(MK.resolve_right fun k=>k.1 hc.2.2.1).2,hc.2.2.2⟩;have c0:dk (fun _=>False) w w':=ch.less fun b hb=>by
   rcases hb with rfl|rfl
   ·exact .inr ⟨_,_,_,h.nb i hi,f0⟩
   ·exact .inr ⟨_,_,_,fb,f1⟩
  have hs:=h.still c0;refine⟨rfl,us,v,F,hs.cw,hs.mv,rfl,rfl,rfl, ?_, ?_⟩
  ·unfold cY;rw[if_neg Re];exact(my _ _).symm
  ·unfold cY;rw[if_neg Re]
 ·have GY:(us i).ax=none:=(MK.resolve_right fun k=>by obtain⟨_,g,a,b,e⟩:=k;have:=sW.2.2.1;rw[e]at this;cases this).1;have Re:KH (us i).pure v.pure q:=⟨sW.1,sW.2.1,GY,sW.2.2.2⟩;have lU:(us i).ub=true:=sW.2.1;obtain⟨L,hL⟩:∃L,L=bP [aI q]:=⟨_,rfl⟩;rw[←hL]at f0 gx hc3;obtain⟨u',hu'⟩:∃u':Nv,u'={us i with da:=a3,dc:=c3,dl:=(us i).dl++L,sy:=(((us i).dl.length+L.length:Nat):Int),m:=aj (us i).m q ⟨⟨1,1,0,0,0,[]⟩,a1,c1,q1⟩,af:= .nilFunc,ax:=none}:=⟨_,rfl⟩;have hlen:((us i).dl++L).length=(us i).dl.length+L.length:=List.length_append ..;have ZR:NB w' X (v.nd i) u':=by
   unfold NB;rw[hu'];refine f0.congr fun k _=> ?_;unfold lh;simp only[hlen,lU];rw[←rV (x:=(⟨⟨1,1,0,0,0,[]⟩,a1,c1,q1⟩:Mg)) k];exact Vg (fun j hj=>Q_ hyg j hj) k
  have On:∀b,(b=v.nd i∨b=X)→F b∨b=v.nd i∨fj (us i).wt b:=fun b hb=>hb.elim (fun e=> .inr (.inl e)) fun e=> .inl (e▸YG);have kK:u'.wt=(us i).wt:=by rw[hu']
  have Dm:u'.wl=(us i).wl:=by rw[hu']
  have aL:∀b,(F b∨b=v.nd i∨fj (us i).wt b)→b<w.heap.size:=fun b hb=>h.lt b (hb.imp id fun hb=>hb.imp (fun e=>⟨i,hi,e⟩) fun e=>⟨i,hi,e⟩);have m:Mv (fun b=>F b∨b=v.nd i∨fj (us i).wt b) w (fun b=>F b∨b=v.nd i∨fj u'.wt b) w':=by
   rw[kK];exact⟨ch.mono On,fun _=> .inl,fun b hb=>Nat.lt_of_lt_of_le (aL b hb) ch.size⟩
  have kx:∀{T sz n:Nat} {x:tJ} {l:tK},w.ownsRow 0 T sz x n l→T≠114→T≠126→w'.ownsRow 0 T sz x n l:=fun o h1 h2=>aG o fun g hg hl=>ch.block g hl fun hb=>hb.elim (aU o (h.nb i hi) h2 g hg) (aU o fb h1 g hg);have IP:WO w' X {v with pn:=cP v.pn q (us i).i,pe:=cP v.pe q 1} F:=⟨fl,sv,td,f1,kx o1 (by decide) (by decide),kx o2 (by decide) (by decide),kx o3 (by decide) (by decide),hF⟩;have hs:=h.st.mv m (fun b hb=> .inl (hb.imp id fun hb=>hb.imp (fun e=>⟨i,hi,e⟩) fun e=>⟨i,hi,e⟩));have ed:u'.Ok:=by
   rw[hu'];refine(Nv.Ok.put (u:={us i with da:=a3,dc:=c3,dl:=(us i).dl++L,sy:=(((us i).dl.length+L.length:Nat):Int),af:= .nilFunc,ax:=none}) ?_ (x:=⟨⟨1,1,0,0,0,[]⟩,a1,c1,q1⟩) ?_:_)
   ·exact⟨ok.ok,FK,by rw[hlen];exact hc3,hm3,by rw[hlen,hL];exact sW.2.2.2.2,by show(0:Int)≤(((us i).dl.length+L.length:Nat):Int);omega,by show(((us i).dl.length+L.length:Nat):Int)≤(((us i).dl++L).length:Int);rw[hlen];exact Int.le_refl _,ok.i5,trivial⟩
   ·exact⟨.inr (.inl ⟨rfl,by show(1:Int)≤1;decide,by show(1:Int)≤1048576;decide,rfl,rfl,rfl⟩),Nat.zero_le _,St.zero,[],.nil⟩
  obtain⟨B,hr⟩:=h.wr i hi
  have KE:=h.put (v':={v with pn:=cP v.pn q (us i).i,pe:=cP v.pe q 1}) hi m IP rfl rfl rfl ZR ed (h.nf i hi) ⟨B,by rw[kK,Dm];exact hr.still fun hb=>ch.block B (hr.lt hb) fun e=>e.elim (h.wn i B i hi hi hb) fun e=>h.wf i B hi hb (e▸YG)⟩ (fun b hb=>h.wf i b hi (kK▸hb)) (fun b hb=>h.wn i b i hi hi (kK▸hb)) (fun w2 c2=>by
   have cc:dk (CT us v F) w' w2:=c2.mono fun b hb=>hb.elim id fun hb=>hb.elim (fun hb=> .inl (.inl hb)) fun e=> .inl (.inr (.inr ⟨i,hi,kK▸e⟩));have h1:=hs w2 (cc.mono fun _=> .inl)
   have h2:=gx w2 (cc.mono fun b hb=>by
    by_cases e:b=v.nd i
    ·exact .inl (.inl e)
    ·by_cases e2:b=X
     ·exact .inl (.inr e2)
     ·exact .inr ⟨hb,e,e2⟩)
   refine⟨?_,h1.1.2⟩;have h3:=h1.1.1 i hi;rw[hu']
   exact Nv.In.put (u:={us i with da:=a3,dc:=c3,dl:=(us i).dl++L,sy:=(((us i).dl.length+L.length:Nat):Int),af:= .nilFunc,ax:=none}) ⟨by rw[hlen,hL];exact hL▸h2.2,h3.mo,rfl,h3.wl⟩ h2.1)
  refine⟨rfl,_,_,F,KE,h.YD hi m rfl,rfl,rfl,rfl, ?_, ?_⟩
  ·rw[nz];unfold cY;rw[if_pos Re,hu',hL];congr 1;show Nd.mk .. =Nd.mk ..;simp only[aa3,GY]
  ·unfold cY;rw[if_pos Re]
end
section
open Rv
open Classical in
noncomputable def Rf(es:List Ev):List An:=if h:∃x:St×List An,bm es x.1 x.2 then h.choose.2 else[]
theorem Rg{es:List Ev}{s:St}{bu:List An}(h:bm es s bu):Rf es=bu:=by
 have hx:∃x:St×List An,bm es x.1 x.2:=⟨(s,bu),h⟩;unfold Rf;rw[dif_pos hx];exact(hx.choose_spec.one h).2
def jB(r:Rec):Prop:=r.k=2∨r.k=6
instance(r:Rec):Decidable (jB r):=by unfold jB;infer_instance
noncomputable def Vi(i:Int)(Bs:Nat→Bt)(r:Rec):GX:=⟨i,r.q,r.e,(Bs r.q.toNat).es.getLastD k_,(Rf (Bs r.q.toNat).es).getLastD FQ,-1⟩
noncomputable def gN(i:Int)(Bs:Nat→Bt)(ps:List Rec):List GX:=(ps.filter jB).map (Vi i Bs)
theorem Nl{i:Int}{Bs:Nat→Bt}{ps:List Rec}{k:Nat}{r:Rec}(h:ps[k]? =some r)(hl:jB r):gN i Bs (ps.take (k+1))=gN i Bs (ps.take k)++[Vi i Bs r]:=by
 rw[List.take_add_one,h];simp[gN,hl]
theorem Rh{i:Int}{Bs:Nat→Bt}{ps:List Rec}{k:Nat}{r:Rec}(h:ps[k]? =some r)(hl:¬jB r):gN i Bs (ps.take (k+1))=gN i Bs (ps.take k):=by
 rw[List.take_add_one,h];simp[gN,hl]
theorem u9{i:Int}{Bs:Nat→Bt}{ps:List Rec}:(gN i Bs ps).length≤ps.length:=by
 unfold gN;rw[List.length_map];exact List.length_filter_le ..
theorem Vj{es:List Ev}{w w':tA}{va:tJ}{er:Int}(h:Av es w w' va er)(hl:es.length≤2000)(ht:∃s bu,bm es s bu):∃s bu a c,er=0∧bm es s bu∧va= .slice a bu.length c∧RowK .i64 w' a (4*bu.length) (kz bu)∧∀x,a=some x→w.heap.size≤x.block:=by
 cases h with
 |bad h hr=>
  obtain⟨s,bu,ht⟩:=ht;exact absurd (hr.one (.told bu hl ht)).2 h
 |told bu Z4 Wp own=>
  obtain⟨a,c,e,hr,_,_,_,hb⟩:=RowK.fY own Wp.Qm;exact⟨_,bu,a,c,rfl,Wp,e,hr,hb⟩
theorem IY{l:List An}{k:Nat}{v:An}(hk:l[k]? =some v):∀j,j<4→iV ((kz l).getD (4*k+j) 0)=lF [iV v.c,iV v.he,iV v.no,iV v.bd] j:=by
 induction l generalizing k with
 |nil=>simp at hk
 |cons u l ih=>
  intro j hj;cases k with
  |zero=>
   simp only[List.getElem?_cons_zero,Option.some.injEq]at hk;subst hk
   match j,hj with
   |0,_=>rfl
   |1,_=>rfl
   |2,_=>rfl
   |3,_=>rfl
  |succ k=>
   have:=ih (k:=k) (by simpa using hk) j hj;rw[←this];congr 1;show(eU u++kz l).getD (4*(k+1)+j) 0=_;simp only[List.getD_eq_getElem?_getD];rw[List.getElem?_append_right (by show 4≤_;omega),show 4*(k+1)+j-(eU u).length=4*k+j by show 4*(k+1)+j-4=_;omega]
theorem KI{α:Type}{l:List α}{x d:α}(h:l[l.length-1]? =some x):l.getLastD d=x:=by
 rw[List.getLastD_eq_getLast?,List.getLast?_eq_getElem?,h];rfl
theorem Vk(X N:Nat)(u:Nv)(Bs:Nat→Bt)(Y yc:Nat)(A:Nat→Option Addr)(K:tQ)(ps:List Rec)(kk:Nat)(w:tA)(U:tD)(hU:∀b,U b→b<w.heap.size)(hG:bR U w (fun w=>((NB w X N u)∧RowK .u8 w u.da u.dl.length u.dl)∧kP w Y 4 Bs A K))(ok:u.Ok)(Oo:u.ct≤u.dl.length)(UC:bz (u.dl.drop u.ct)=(ps.map bj,kk))(vA:∀x∈aB ps,(Lit.int .i64 x).wf=true)(Ha:ps.length≤100000)(hps:∀r∈ps,jB r→∃q:Nat,q<4∧r.q=(q:Int)∧(Bs q).Ok∧0<(Bs q).es.length):cA 87 #[lp N,.slice (some ⟨Y,0,none⟩) 4 yc] w fun x w'=>∃lv,x= .returned lv∧w'.ownsRow 0 61 14 lv (gN u.i Bs ps).length ((gN u.i Bs ps).flatMap Bu)∧(∀b,lv.ownBlock=some b→w.heap.size≤b)∧bZ w w':=by
 refine en (H:=[]) 81 [vv (lp N),vv (.slice (some ⟨Y,0,none⟩) 4 yc)] Tryz.func87 rfl rfl (nZ hU hG) (r [2] rfl fun _=>l1 rfl (.slice u.da u.dl.length u.dc) (fun w hS=>hS.now.1.1.1.at 3 (cF rfl)) (r [] rfl fun _=>l1 rfl (iV (u.ct:Int)) (fun w hS=>hS.now.1.1.1.at 204 (cF rfl)) (r [] rfl fun _=>cx rfl (fun y:Option Addr×Nat=>vt [.o (.slice y.1 ps.length y.2),.o (iV (kk:Nat)),.o (iV 0)]) (fun y=>0<ps.length→∃b o,y.1=some ⟨b,o,none⟩) (fun y w=>RowK .i64 w y.1 (10*ps.length) (aB ps)) (fun w hS=>(Ks (gD u.da u.ct 1 u.dc) (u.dl.length-u.ct) (u.dc-u.ct) (u.dl.drop u.ct) 0 ps kk _ (Qy hS.now.1.1.2 Oo ok.cap) (fun h=>by rw[ok.nil (uV h)];omega) (by have:=ok.cap;omega) (by have:=ok.max;omega) (by have:=ok.len;omega) (Int.le_refl _) (by omega) UC vA).mono ?_) ?_)))
 ·rintro _ w2 ⟨a8,c8,rfl,r8,D_,hm8,Qt,hf8,b⟩;exact⟨(a8,c8),rfl,b,fun h=>oD r8 (by omega),fun hl=>bT r8 hf8 hl⟩
 rintro⟨a8,c8⟩ tZ;have tZ:0<ps.length→∃b o,a8=some ⟨b,o,none⟩:=tZ;refine r [] rfl fun _=>jH (fun w2 hS=>hS.zJ w.heap.size 61 14) ?_;refine ic (X:=Nat×Value) ⟨fun x=>[(0,vv (lp N)),(1,vv (.slice (some ⟨Y,0,none⟩) 4 yc)),(8,vv x.2),(31,vv (.slice a8 ps.length c8)),(32,vi (ps.length:Int)),(33,vi (x.1:Int))],fun _=>[],fun x b=>x.2.ownBlock=some b∨U b,fun _ w=>((NB w X N u∧RowK .u8 w u.da u.dl.length u.dl)∧kP w Y 4 Bs A K)∧RowK .i64 w a8 (10*ps.length) (aB ps),fun x w'=>bZ w w'∧w'.ownsRow w.heap.size 61 14 x.2 (gN u.i Bs (ps.take x.1)).length ((gN u.i Bs (ps.take x.1)).flatMap Bu),fun x=>x.1≤ps.length,fun x=>ps.length-x.1⟩ (0,.slice none 0 0) ⟨rfl,rfl,rfl,rfl,rfl,rfl,trivial⟩ (fun w hS=>hS) (Nat.zero_le _) ?_;rintro f ⟨k,lv⟩ hk;have hk:k≤ps.length:=hk;by_cases aL:k<ps.length
 case neg=>
  obtain rfl:k=ps.length:=by omega
  refine r [0] rfl fun _=>fin fun w1 hS=> ?_;have ho:=hS.now.2.2;rw[List.take_length]at ho
  exact⟨lv,rfl,⟨ho.1,ho.2.imp id fun⟨g,c,cur,e,_,h⟩=>⟨g,c,cur,e,Nat.zero_le _,h⟩⟩,fun b hb=>by
   rcases ho.2 with⟨rfl,_⟩|⟨g,c,cur,rfl,hg,_⟩
   ·cases hb
   ·cases hb;exact hg,hS.now.2.1⟩
 obtain⟨bb,bo,rfl⟩:=tZ (by omega);obtain⟨rec,hv⟩:∃r,ps[k]? =some r:=⟨ps[k],List.getElem?_eq_getElem aL⟩;have KF:=List.mem_of_getElem? hv;have hle:(gN u.i Bs (ps.take k)).length≤100000:=by
  have:=u9 (i:=u.i) (Bs:=Bs) (ps:=ps.take k);rw[List.length_take]at this;omega
 obtain⟨rk,rq,re,rp,rv⟩:=rec;have de:=pR hv;by_cases hil:jB ⟨rk,rq,re,rp,rv⟩
 case neg=>
  have h2:¬rk=2:=fun h=>hil (.inl h);have h6:¬rk=6:=fun h=>hil (.inr h);exact r [1] rfl fun _=>lf (q:=bo+k*10) rfl 10 (lF [iV rk,iV rq,iV re,iV rp,iV rv.k,iV rv.p,iV rv.i,iV rv.b,iV rv.he,iV rv.hn]) (fun w hS=>jJ hS.now.1.2 (by omega) de) (sv 36 (vg [.o (iV rk),.o (iV rq),.o (iV re),.o (iV rp),.o (iV rv.k),.o (iV rv.p),.o (iV rv.i),.o (iV rv.b),.o (iV rv.he),.o (iV rv.hn)]) rfl (rz [1,1,1] [((k+1:Nat):Int)] rfl fun _=>bU (k+1,lv) ⟨rfl,rfl,rfl,rfl,rfl,rfl,trivial⟩ (fun w hS=>(hS.take 0).sr fun w h=>⟨h.1,by rw[Rh hv hil];exact h.2⟩) (show k+1≤ps.length by omega) (show ps.length-(k+1)<ps.length-k by omega)))
 obtain⟨q,mN,hrq,okq,aa6⟩:=hps _ KF hil;obtain rfl:rq=(q:Int):=hrq;obtain⟨eb,eo,hA⟩:=oD (hG.now.2.bin q mN).row (by omega);obtain⟨e9,he9⟩:∃e9,(Bs q).es[(Bs q).es.length-1]? =some e9:=⟨_,List.getElem?_eq_getElem (by omega)⟩;obtain⟨s9,bu,hta⟩:=okq.told;have hal:=hta.len;have Th:=okq.len;obtain⟨n9,hn9⟩:∃n9,bu[(Bs q).es.length-1]? =some n9:=⟨_,List.getElem?_eq_getElem (by omega)⟩;have GU:Vi u.i Bs ⟨rk,(q:Int),re,rp,rv⟩=⟨(u.i:Int),(q:Int),re,e9,n9,-1⟩:=by
  unfold Vi;rw[show((q:Int)).toNat=q by omega,Rg hta,KI he9,KI (by rw[hal];exact hn9)]
 have sW:=Nl (i:=u.i) (Bs:=Bs) hv hil;refine r [1] rfl fun _=>lf (q:=bo+k*10) rfl 10 (lF [iV rk,iV (q:Int),iV re,iV rp,iV rv.k,iV rv.p,iV rv.i,iV rv.b,iV rv.he,iV rv.hn]) (fun w hS=>jJ hS.now.1.2 (by omega) de) (sv 36 (vg [.o (iV rk),.o (iV (q:Int)),.o (iV re),.o (iV rp),.o (iV rv.k),.o (iV rv.p),.o (iV rv.i),.o (iV rv.b),.o (iV rv.he),.o (iV rv.hn)]) rfl ?_);rcases hil with h2|h6
 case' inl=>
  have h2:rk=2:=h2;refine r [0] rfl fun _=> ?_
 case' inr=>
  have h6:rk=6:=h6;refine r [1,0] rfl fun _=> ?_
 all_goals
  refine l1 (q:=0+q*6+5) rfl (.slice (some ⟨eb,eo,none⟩) (Bs q).es.length (K q)) (fun w hS=>by rw[←hA,show 0+q*6+5=q*6+5 by omega];exact hS.now.1.1.2.cell q mN 5 (by decide)) (r [] rfl fun _=>cx rfl (fun y:Nat×Nat×Nat=>vt [.o (.slice (some ⟨y.1,y.2.1,none⟩) bu.length y.2.2),.o (iV 0)]) (fun _=>True) (fun y w=>RowK .i64 w (some ⟨y.1,y.2.1,none⟩) (4*bu.length) (kz bu)) (fun w hS=>(FJ (Bs q).es (some ⟨eb,eo,none⟩) (K q) _ (hA▸(hS.now.1.1.2.bin q mN).row)).mono ?_) ?_)
  ·rintro _ w5 ⟨va,er,rfl,hav,b⟩;obtain⟨s8,an8,a9,c9,rfl,hta8,rfl,rn9,hf9⟩:=Vj hav okq.len okq.told;obtain rfl:an8=bu:=(hta8.one hta).2;obtain⟨ab,ao,rfl⟩:=oD rn9 (by omega);exact⟨(ab,ao,c9),rfl,b,trivial,fun hl=>bT rn9 hf9 hl⟩
  rintro⟨ab,ao,c9⟩-;refine rz [1,1] [(((Bs q).es.length-1:Nat):Int)] rfl fun _=>l1 rfl (iV (u.i:Int)) (fun w hS=>hS.now.1.1.1.1.1.at 1 (cF rfl)) (r [] rfl fun _=>lf (q:=eo+((Bs q).es.length-1)*6) rfl 6 (lF [iV e9.k,iV e9.p,iV e9.i,iV e9.b,iV e9.he,iV e9.hn]) (fun w hS=>jJ (hA▸(hS.now.1.1.1.2.bin q mN).row) (by omega) (rO he9)) (sv 71 (vg [.o (iV e9.k),.o (iV e9.p),.o (iV e9.i),.o (iV e9.b),.o (iV e9.he),.o (iV e9.hn)]) rfl (r [] rfl fun _=>lf (q:=ao+((Bs q).es.length-1)*4) rfl 4 (lF [iV n9.c,iV n9.he,iV n9.no,iV n9.bd]) (fun w hS=>jJ hS.now.1.2 (by omega) (IY hn9)) (sv 75 (vg [.o (iV n9.c),.o (iV n9.he),.o (iV n9.no),.o (iV n9.bd)]) rfl (r [] rfl fun _=>qJ 1 rfl qZ (fun w hS=>hS.now.2.1.size) (fun _ _ h c=>cS h c (Nat.le_refl _)) fun g c hc=> ?_)))));exact rz [1] [((k+1:Nat):Int)] rfl fun _=>bU (k+1,_) ⟨rfl,rfl,rfl,rfl,rfl,rfl,trivial⟩ (fun w hS=>((hS.take 0).said fun _ h=>h.1).sr fun w h=>⟨h.1,by rw[sW,GU,List.length_append,List.flatMap_append];exact h.2⟩) (show k+1≤ps.length by omega) (show ps.length-(k+1)<ps.length-k by omega)
def yQ(w:tA)(a:tB)(L:List GX):Prop:=∀k y,L[k]? =some y→∃g,a=some ⟨g,0,none⟩∧∀j,j<14→w.cell? ⟨g,k*14+j,none⟩=some (lF (Bu y) j)
theorem Dv{α β:Type}{f:α→List β}{m:Nat}(hm:∀x,(f x).length=m):∀(l:List α) (k:Nat) (x:α) (j:Nat),l[k]? =some x→j<m→(l.flatMap f)[k*m+j]? =(f x)[j]?
 |[],k,x,j,h,_=>by simp at h
 |a::l,0,x,j,h,hj=>by
  simp only[List.getElem?_cons_zero,Option.some.injEq]at h;subst h;rw[List.flatMap_cons,Nat.zero_mul,Nat.zero_add,List.getElem?_append_left (by rw[hm];exact hj)]
 |a::l,k+1,x,j,h,hj=>by
  have ih:=Dv hm l k x j (by simpa using h) hj;rw[List.flatMap_cons,List.getElem?_append_right (by rw[hm,Nat.succ_mul];omega),hm,←ih];congr 1;rw[Nat.succ_mul];omega
theorem YH(y:GX){j:Nat}(hj:j<14):(Bu y)[j]? =some (lF (Bu y) j):=by
 match j,hj with
 |0,_=>rfl
 |1,_=>rfl
 |2,_=>rfl
 |3,_=>rfl
 |4,_=>rfl
 |5,_=>rfl
 |6,_=>rfl
 |7,_=>rfl
 |8,_=>rfl
 |9,_=>rfl
 |10,_=>rfl
 |11,_=>rfl
 |12,_=>rfl
 |13,_=>rfl
theorem Dx{w:tA}{T:Nat}{lv:tJ}{L:List GX}(h:w.ownsRow 0 T 14 lv L.length (L.flatMap Bu)):∃a c,lv= .slice a L.length c∧yQ w a L:=by
 obtain⟨_,⟨e,h0⟩|⟨g,c,cur,e,_,hb,_,_,_,IM⟩⟩:=h
 ·exact⟨none,0,by rw[e,h0],fun k y hk=>by rw[List.length_eq_zero_iff.1 h0]at hk;simp at hk⟩
 ·refine⟨_,c,e,fun k y hk=>⟨g,rfl,fun j hj=> ?_⟩⟩;have h1:=Dv (f:=Bu) (m:=14) (fun _=>rfl) L k y j hk hj;rw[YH y hj,←IM,List.getElem?_take]at h1;split at h1
  ·simp only[World.cell?,hb];rw[←Array.getElem?_toList];simpa using h1
  ·cases h1
def Nn(i:Nat)(mg:Nat→Mg)(r:Rec):GX:=⟨i,r.q,(mg r.q.toNat).B.e,r.v,FQ,-1⟩
theorem Np(X N:Nat)(u:Nv)(v:Wv)(F U:tD)(w:tA)(hw:NW w X N u v F U)(mg:Nat→Mg)(we:∀q,q<4→(mg q).B.Ok)(la:tB)(ls:List GX)(lc:Nat)(ra:tB)(rs:List Rec)(rc:Nat)(c0 c1 c2 c3:Nat)(hg:bR U w (fun w=>((((((aZ w c0 120 199 (fU (fun p=>iO (mg p)) (eD 4) bD (.slice none 0 0) (.nilFunc) 0))∧aZ w c1 109 1 (fun _=>lp N))∧aZ w c2 31 1 (fun _=> .slice la ls.length lc))∧aZ w c3 176 1 (fun _=> .slice ra rs.length rc))∧yQ w la ls)∧RowK .i64 w ra (10*rs.length) (aB rs))∧(∀q,q<4→nj w (mg q))))(hrs:∀r∈rs,∃q:Nat,q<4∧r.q=(q:Int))(hlen:v.sv.length+ls.length+rs.length≤1000000000000):cA 88 #[lp c0,lp c1,lp c2,lp c3] w fun x w'=>x= .returned (.tuple #[])∧∃F',NW w' X N ({u with ub:=true,m:=mg,hn:=eD 4,he:=bD,wt:= .slice none 0 0,wl:=[],af:= .nilFunc,ax:=none,tu:=0}) {v with sv:=v.sv++ls++(rs.map (Nn u.i mg))} F' (fun b=>U b∨F' b)∧Mv (fun b=>F b∨b=N) w (fun b=>F' b∨b=N) w':=by
 have pS:aT (fU (fun p=>iO (mg p)) (eD 4) bD (.slice none 0 0) .nilFunc 0) 199:=uS (fun q hq=>dY (hg.now.2 q hq).one) rfl;have hv:∀a,a∈[N]→a∈[N]:=fun _ h=>h;obtain⟨u2,hu2⟩:∃u2:Nv,u2={u with ub:=true,m:=mg,hn:=eD 4,he:=bD,wt:= .slice none 0 0,wl:=[],af:= .nilFunc,ax:=none,tu:=0}:=⟨_,rfl⟩;rw[←hu2];refine en (H:=[nE X N u]) _ [vv (lp c0),vv (lp c1),vv (lp c2),vv (lp c3)] Tryz.func88 rfl rfl (hw.init hg) ?_;refine r [5,0,5] rfl fun _=>Xt rfl (lp N) (fun w h=>h.1.2.1.1.1.1.1.2.at 0 (cF rfl)) (Rv.sv 8 (vp 0 0 N) rfl (r [] rfl fun _=>Xt rfl (lp N) (fun w h=>h.1.2.1.1.1.1.1.2.at 0 (cF rfl)) (Rv.sv 9 (vp 0 0 N) rfl (r [] rfl fun _=>Z7 rfl 199 (fU (fun p=>iO (mg p)) (eD 4) bD (.slice none 0 0) .nilFunc 0) (fun w h j hj=>by rw[Nat.zero_add];exact h.1.2.1.1.1.1.1.1.at j (by omega)) ?_ hv)) hv)) hv;refine r [] rfl fun _=>gn 0 (lh X u2) ?_ rfl (by rw[hu2];kernel_rfl);refine l1 rfl (.slice la ls.length lc) (fun w hS=>hS.now.1.2.1.1.1.1.2.at 0 (cF rfl)) (r [] rfl fun _=> ?_);refine Cv (X:=Nat×Wv×(Nat→Prop)) (fun x=>[(0,vv (lp c0)),(1,vv (lp c1)),(2,vv (lp c2)),(3,vv (lp c3)),(15,vv (.slice la ls.length lc)),(16,vi (ls.length:Int)),(17,vi (x.1:Int))]) (fun _=>[nE X N u2]) (fun x b=>x.2.2 b∨(U b∧b≠N)) (fun x=>RW X (fun b=>b∈[N]) F w x.2.1 x.2.2) (fun x=>x.1≤ls.length∧x.2.1={v with sv:=v.sv++ls.take x.1}) (fun x=>ls.length-x.1) (0,v,F) ⟨rfl,rfl,rfl,rfl,rfl,rfl,rfl,trivial⟩ (fun _ hS=>hS) ⟨Nat.zero_le _,by simp⟩ ?_;rintro f ⟨k,v1,F1⟩ ⟨hk,Lk⟩;have hk:k≤ls.length:=hk;obtain rfl:v1={v with sv:=v.sv++ls.take k}:=Lk;by_cases aL:k<ls.length
 ·obtain⟨y,hy⟩:∃y,ls[k]? =some y:=⟨ls[k],List.getElem?_eq_getElem aL⟩;obtain⟨lg,rfl,_⟩:=hg.now.1.1.2 k y hy;refine r [1] rfl fun _=>lf (q:=0+k*14) rfl 14 (lF (Bu y)) (fun w hS j hj=>by obtain⟨g2,e2,h2⟩:=hS.now.1.2.1.1.2 k y hy;cases e2;rw[Nat.zero_add];exact h2 j hj) (r [1] rfl fun β=>l1 rfl (lp N) (fun w hS=>hS.now.1.2.1.1.1.1.1.2.at 0 (cF rfl)) (Rv.sv 21 (vp 0 0 N) rfl (r [] rfl fun _=>cv rfl (vt []) _ (fun w1 hS=>FV X _ F1 w1 y _ rfl hS.now.2.wo (by show(v.sv++ls.take k).length≤_;rw[List.length_append,List.length_take];omega)) fun F2=> ?_)));exact rz [1] [((k+1:Nat):Int)] rfl fun _=>bU (k+1,_,F2) ⟨rfl,rfl,rfl,rfl,rfl,rfl,rfl,trivial⟩ (fun w hS=>hS.take 1) ⟨aL,by rw[nt hy,←List.append_assoc]⟩ (show ls.length-(k+1)<ls.length-k by omega)
 obtain rfl:k=ls.length:=by omega
 refine r [0] rfl fun _=>l1 rfl (.slice ra rs.length rc) (fun w hS=>hS.now.1.2.1.1.1.2.at 0 (cF rfl)) (r [] rfl fun _=> ?_);refine Cv (X:=Nat×Wv×(Nat→Prop)) (fun x=>[(0,vv (lp c0)),(1,vv (lp c1)),(2,vv (lp c2)),(3,vv (lp c3)),(28,vv (.slice ra rs.length rc)),(29,vi (rs.length:Int)),(30,vi (x.1:Int))]) (fun _=>[nE X N u2]) (fun x b=>x.2.2 b∨(U b∧b≠N)) (fun x=>RW X (fun b=>b∈[N]) F w x.2.1 x.2.2) (fun x=>x.1≤rs.length∧x.2.1={v with sv:=v.sv++ls++(rs.take x.1).map (Nn u.i mg)}) (fun x=>rs.length-x.1) (0,_,F1) ⟨rfl,rfl,rfl,rfl,rfl,rfl,rfl,trivial⟩ (fun _ hS=>hS) ⟨Nat.zero_le _,by simp⟩ ?_;rintro f ⟨k,v1,F2⟩ ⟨hk,Lk⟩;have hk:k≤rs.length:=hk;obtain rfl:v1={v with sv:=v.sv++ls++(rs.take k).map (Nn u.i mg)}:=Lk;by_cases aL:k<rs.length
 ·obtain⟨⟨rk,rq,re,rp,rv⟩,hv⟩:∃r,rs[k]? =some r:=⟨rs[k],List.getElem?_eq_getElem aL⟩;obtain⟨q,mN,hrq⟩:=hrs _ (List.mem_of_getElem? hv);obtain rfl:rq=(q:Int):=hrq;obtain⟨bb,bo,rfl⟩:=oD hg.now.1.2 (by omega);refine r [1] rfl fun _=>lf (q:=bo+k*10) rfl 10 (lF [iV rk,iV (q:Int),iV re,iV rp,iV rv.k,iV rv.p,iV rv.i,iV rv.b,iV rv.he,iV rv.hn]) (fun w hS=>jJ hS.now.1.2.1.2 (by omega) (pR hv)) (Rv.sv 33 (vg [.o (iV rk),.o (iV (q:Int)),.o (iV re),.o (iV rp),.o (iV rv.k),.o (iV rv.p),.o (iV rv.i),.o (iV rv.b),.o (iV rv.he),.o (iV rv.hn)]) rfl (r [] rfl fun β=>l1 rfl (lp N) (fun w hS=>hS.now.1.2.1.1.1.1.1.2.at 0 (cF rfl)) (r [] rfl fun _=>cv rfl (vt []) _ (fun w1 hS=>uW X _ F2 w1 N u2 q mN rv FQ (-1) hS.now.2.wo (fun w2 c2=>(hS.vX 0 rfl w2 (c2.mono fun b h=> .inl h)).2) (by show(v.sv++ls++(rs.take k).map (Nn u.i mg)).length≤_;rw[List.length_append,List.length_append,List.length_map,List.length_take];omega)) fun F3=> ?_)));exact rz [1] [((k+1:Nat):Int)] rfl fun _=>bU (k+1,_,F3) ⟨rfl,rfl,rfl,rfl,rfl,rfl,rfl,trivial⟩ (fun w hS=>hS.take 1) ⟨aL,by rw[nt hv,List.map_append,←List.append_assoc,hu2];simp[Nn]⟩ (show rs.length-(k+1)<rs.length-k by omega)
 obtain rfl:k=rs.length:=by omega
 refine r [0] rfl fun _=>c_ rfl fun w1 hS=> ?_;rw[List.take_length]at hS;have hn:=NW.fin (u':=u2) hS hw.ub hw.nu (fun _ h=>⟨⟨by rw[hu2];exact h.1.1.row,by rw[hu2];exact h.2.2,by rw[hu2];rfl,by rw[hu2];exact fun r hr=>by cases hr⟩,h.1.2⟩) (by rw[hu2];exact⟨we,hw.ok.nil,hw.ok.cap,hw.ok.max,hw.ok.len,hw.ok.s0,hw.ok.s1,hw.ok.i5,trivial⟩);exact⟨rfl,F2,hn.1,hn.2.1⟩
end
theorem Ri(Bs:Nat→Bt)(Y cb:Nat)(A:Nat→Option Addr)(K:tQ)(ok:∀q,q<4→(Bs q).Ok)(p:Nat)(hp:p<4)(Yp:∀q,q<p→(a7 (Bs q)).2=0)(hhi:¬(a7 (Bs p)).2=0)(U:tD)(w:tA)(hU:∀b,U b→b<w.heap.size)(hb:bR U w fun w=>kP w Y 4 Bs A K):cA 86 #[.slice (some ⟨Y,0,none⟩) 4 cb] w (rB (.tuple #[vF Yh 199,.slice none 0 0,.bool false]) w):=by
 refine(Br Bs Y cb A K ok (fun q hq=>WJ (ok q hq)) U w hU hb).mono ?_;rintro x w' (⟨_,h⟩|⟨h,_⟩)
 ·exact h
 ·exact absurd (h p hp) hhi
def mJ(z:tF):List Int:=bytesOf (z.getD 0 0) (z.getD 1 0) (z.getD 2 0) (z.getD 3 0) (z.getD 4 0) (z.getD 5 0) (z.getD 6 0) (z.getD 7 0) (z.getD 8 0) (z.getD 9 0)
def aM(rs:List (List Int)):List Int:=rs.flatMap (fun z=>dL (mJ z))
theorem q_(rs:List (List Int))(z:tF):aM (rs++[z])=aM rs++dL (mJ z):=by simp[aM]
def kR(z:tF):Prop:=∃x0 x1 x2 x3 x4 x5 x6 x7 x8 x9,z=[x0,x1,x2,x3,x4,x5,x6,x7,x8,x9]∧aC x0 x1 x2 x3 x4 x5 x6 x7 x8 x9=0∧(¬(x0=2∨x0=5)→x4=0∧x5=0∧x6=0∧x7=0∧x8=0∧x9=0)
theorem yR(z:tF):16≤(mJ z).length∧(mJ z).length≤40:=by
 unfold mJ;rw[vK];split<;>omega
theorem oV(rs:List (List Int)):22*rs.length≤(aM rs).length∧(aM rs).length≤46*rs.length:=by
 induction rs with
 |nil=>simp[aM]
 |cons z rs ih=>
  have:=yR z;have hf:aM (z::rs)=dL (mJ z)++aM rs:=by simp[aM]
  rw[hf,List.length_append,mn,List.length_cons];omega
inductive Steps(b:tF):Nat→List (List Int)→Prop
 |start:Steps b 0 []
 |more {k m:Nat} {rs:List (List Int)} {zs:tF} (h:Steps b k rs) (hu:bf (b.drop k)=some (zs,m)):Steps b (k+m) (rs++[zs])
theorem Steps.going{b:tF}{k:Nat}{rs:List (List Int)}(h:Steps b k rs):Bi b k rs:=by
 induction h with
 |start=>exact vJ b
 |more _ hu ih=>exact ym ih hu
theorem Steps.end{b:tF}{k:Nat}{rs:List (List Int)}(h:Steps b k rs)(hn:bf (b.drop k)=none):bz b=(rs,k):=uO h.going hn
theorem vT(b:tF):∀(f k:Nat) (rs:List (List Int)),Steps b k rs→k≤b.length→b.length+1≤f+k→Steps b (jK f b k rs).2 (jK f b k rs).1∧bf (b.drop (jK f b k rs).2)=none
 |0,k,rs,_,h1,h2=>by omega
 |f+1,k,rs,hs,h1,h2=>by
  cases hu:bf (b.drop k)with
  |none=>rw[qs hu];exact⟨hs,hu⟩
  |some p=>
   obtain⟨zs,m⟩:=p;rw[oI hu];obtain⟨_,hm,hl,_⟩:=gi hu;rw[List.length_drop]at hl;exact vT b f (k+m) (rs++[zs]) (hs.more hu) (by omega) (by omega)
theorem oW(b:tF):Steps b (bz b).2 (bz b).1∧bf (b.drop (bz b).2)=none:=vT b _ 0 [] .start (Nat.zero_le _) (by omega)
theorem BL(b:tF):∀(f k:Nat) (rs:List (List Int)),∃more,(jK f b k rs).1=rs++more∧k≤(jK f b k rs).2∧(more=[]→(jK f b k rs).2=k)
 |0,k,rs=>⟨[],by simp[jK],Nat.le_refl _,fun _=>rfl⟩
 |f+1,k,rs=>by
  cases hu:bf (b.drop k)with
  |none=>rw[qs hu];exact⟨[],by simp,Nat.le_refl _,fun _=>rfl⟩
  |some p=>
   obtain⟨zs,m⟩:=p;rw[oI hu];obtain⟨more,h1,h2,_⟩:=BL b f (k+m) (rs++[zs]);exact⟨zs::more,by rw[h1];simp,by omega,fun h=>by cases h⟩
theorem Steps.prefix{b:tF}{k:Nat}{rs:List (List Int)}(h:Steps b k rs):∃more,(bz b).1=rs++more∧k≤(bz b).2∧(more=[]→(bz b).2=k):=by
 obtain⟨_,f,_,hf⟩:=h.going;obtain⟨more,h1,h2,h3⟩:=BL b f k rs;rw[hf]at h1 h2 h3;exact⟨more,h1,h2,h3⟩
theorem vU(b:tF)(c:Nat)(h:2≤c):toldOf (b.take c)=toldOf b:=by
 unfold toldOf;simp[List.getD_eq_getElem?_getD,show 0<c by omega,show 1<c by omega]
theorem Dy{b zs:tF}{m c:Nat}(h:bf b=some (zs,m))(hc:m≤c):bf (b.take c)=some (zs,m):=by
 obtain⟨h2,hm,hl,hs,hd⟩:=gi h;have ht:=vU b c (by omega);unfold bf;rw[ht,if_neg (by simp;omega),if_neg (by simp;omega)];have e1:(b.take c).take (toldOf b+2)=b.take (toldOf b+2):=by rw[List.take_take,Nat.min_eq_left (by omega)]
 have e2:((b.take c).drop (toldOf b+2)).take 4=(b.drop (toldOf b+2)).take 4:=by
  rw[List.drop_take,List.take_take,Nat.min_eq_left (by omega)]
 have e3:((b.take c).drop 2).take (toldOf b)=(b.drop 2).take (toldOf b):=by
  rw[List.drop_take,List.take_take,Nat.min_eq_left (by omega)]
 rw[e1,e2,e3,if_neg (not_not_intro hs),hd,if_neg (not_not_intro rfl),hm]
theorem Dz{b b' zs:tF}{m:Nat}(h:bf b=some (zs,m))(he:b.take m=b'.take m):bf b'=some (zs,m):=by
 have h1:=Dy h (Nat.le_refl m);rw[he]at h1;obtain⟨h2,hm,hl,hs,hd⟩:=gi h1;have Z4:m≤b'.length:=by simp at hl;omega
 have ht:=vU b' m (by omega);rw[ht]at hm hs hd;unfold bf;rw[if_neg (by omega),if_neg (by omega)];have e1:(b'.take m).take (toldOf b'+2)=b'.take (toldOf b'+2):=by rw[List.take_take,Nat.min_eq_left (by omega)]
 have e2:((b'.take m).drop (toldOf b'+2)).take 4=(b'.drop (toldOf b'+2)).take 4:=by
  rw[List.drop_take,List.take_take,Nat.min_eq_left (by omega)]
 have e3:((b'.take m).drop 2).take (toldOf b')=(b'.drop 2).take (toldOf b'):=by
  rw[List.drop_take,List.take_take,Nat.min_eq_left (by omega)]
 rw[e1,e2]at hs;rw[e3]at hd;rw[if_neg (not_not_intro hs),hd,if_neg (not_not_intro rfl),hm]
theorem Steps.same{b:tF}{k:Nat}{rs:List (List Int)}(h:Steps b k rs):∀{b':tF},b.take k=b'.take k→Steps b' k rs:=by
 induction h with
 |start=>intro b' _;exact .start
 | @more k m rs zs h hu ih=>
  intro b' he;have h1:b.take k=b'.take k:=by
   have:=congrArg (List.take k) he;simpa[List.take_take,Nat.min_eq_left (show k≤k+m by omega)]using this
  refine(ih h1).more (Dz hu ?_);have:=congrArg (List.drop k) he;simpa[List.drop_take]using this
theorem Ai{z:tF}(hz:kR z)(tail:tF):bf (dL (mJ z)++tail)=some (z,(mJ z).length+6):=by
 obtain⟨x0,x1,x2,x3,x4,x5,x6,x7,x8,x9,rfl,hf,hzz⟩:=hz;have Hd:=yR [x0,x1,x2,x3,x4,x5,x6,x7,x8,x9];have hdt:=Fl x0 x1 x2 x3 x4 x5 x6 x7 x8 x9 [] hf hzz;rw[List.append_nil,if_pos rfl]at hdt;have LC:mJ [x0,x1,x2,x3,x4,x5,x6,x7,x8,x9]=bytesOf x0 x1 x2 x3 x4 x5 x6 x7 x8 x9:=rfl;rw[LC]at Hd⊢;generalize bytesOf x0 x1 x2 x3 x4 x5 x6 x7 x8 x9=p at Hd hdt;have hfp:dL p++tail=((p.length:Int)/256)::((p.length:Int) % 256)::(p++(four (sumOf (kB p))++tail)):=by simp[dL,kB]
 have abj:toldOf (dL p++tail)=p.length:=by
  rw[hfp];unfold toldOf;simp;omega
 have hlen:(dL p++tail).length=p.length+6+tail.length:=by rw[List.length_append,mn]
 have t1:(dL p++tail).take (p.length+2)=kB p:=by
  unfold dL;rw[List.append_assoc,List.take_left' (yi p)]
 have t2:((dL p++tail).drop (p.length+2)).take 4=four (sumOf (kB p)):=by
  unfold dL;rw[List.append_assoc,List.drop_left' (yi p),List.take_left' (by simp[four])]
 have t3:((dL p++tail).drop 2).take p.length=p:=by
  rw[hfp];simp
 unfold bf;rw[abj,if_neg (by omega),if_neg (by omega),t1,t2,if_neg (not_not_intro rfl),t3,hdt,if_neg (not_not_intro rfl)]
theorem ph(rs WT:List (List Int)):aM (rs++WT)=aM rs++aM WT:=by simp[aM]
theorem pZ(rs:List (List Int))(tail:tF)(hg:∀z∈rs,kR z):∀n,n≤rs.length→Steps (aM rs++tail) (aM (rs.take n)).length (rs.take n)
 |0,_=>by simpa[aM]using Steps.start
 |n+1,h=>by
  have ht:rs.take (n+1)=rs.take n++[rs[n]]:=List.take_succ_eq_append_getElem h;have hs:aM rs=aM (rs.take n)++(dL (mJ rs[n])++aM (rs.drop (n+1))):=by
   have h1:rs=(rs.take n++[rs[n]])++rs.drop (n+1):=by rw[←ht,List.take_append_drop]
   have h2:=congrArg aM h1;rw[ph,q_,List.append_assoc]at h2;exact h2
  rw[ht,q_,List.length_append];refine(pZ rs tail hg n (by omega)).more ?_;rw[hs,List.append_assoc,List.drop_left' rfl,List.append_assoc,mn];exact Ai (hg _ (List.getElem_mem h)) _
theorem tv(rs:List (List Int))(tail:tF)(hg:∀z∈rs,kR z):Steps (aM rs++tail) (aM rs).length rs:=by
 have h:=pZ rs tail hg rs.length (Nat.le_refl _);rwa [List.take_length]at h
theorem p8(rs:List (List Int))(hg:∀z∈rs,kR z):bz (aM rs)=(rs,(aM rs).length):=by
 have h:=tv rs [] hg;rw[List.append_nil]at h;exact h.end (by rw[List.drop_length];rfl)
theorem Gi(b:tF):bz (b.take (bz b).2)=bz b:=by
 have h:=(oW b).1;have hb:=(gz b).2;have h1:Steps (b.take (bz b).2) (bz b).2 (bz b).1:=h.same (by rw[List.take_take,Nat.min_self]);exact h1.end (by rw[List.drop_eq_nil_of_le (by simp;omega)];rfl)
theorem Nq(rs:List (List Int))(hg:∀z∈rs,kR z)(k:Nat)(hk:k≤(aM rs).length):
  ∃more,rs=(bz ((aM rs).take k)).1++more∧(more=[]↔k=(aM rs).length):=by
 have h:=(oW ((aM rs).take k)).1;have hb:=(gz ((aM rs).take k)).2;rw[List.length_take]at hb;have h1:Steps (aM rs) (bz ((aM rs).take k)).2 (bz ((aM rs).take k)).1:=h.same (by rw[List.take_take,Nat.min_eq_left (by omega)]);obtain⟨more,h2,h3,h4⟩:=h1.prefix;rw[p8 rs hg]at h2 h3 h4;refine⟨more,h2,fun hm=> ?_,fun Kw=> ?_⟩
 ·have:=h4 hm;simp only at this;omega
 ·rw[Kw,List.take_length,p8 rs hg]at h2;simp only at h2;have:=congrArg List.length h2;rw[List.length_append]at this;exact List.length_eq_zero_iff.1 (by omega)
section
open Rv
structure Ds(w:tA)(X N:Nat)(u:Nv)(v:Wv)(F U:tD)(r:Nd×Ws)(u':Nv)(v':Wv)(F':tD)(w':tA):Prop where
 nw:NW w' X N u' v' F' (fun b=>U b∨F' b)
 mv:Mv (fun b=>F b∨b=N) w (fun b=>F' b∨b=N) w'
 wq:(u'.wt=u.wt∧u'.wl=u.wl)∨(u'.wt= .slice none 0 0∧u'.wl=[])
 nd:v'.nd=v.nd
 tk:v'.tk=v.tk
 dd:v'.dd=v.dd
 n:u'.pure=r.1
 s:v'.pure=r.2
open Classical in
noncomputable def iR(n:Nd)(s:Ws)(Bs:Nat→Bt)(kk:Nat)(ps:List Rec):Nd×Ws:=
  if(∀q,q<4→(a7 (Bs q)).2=0)∧kk+(bP (aX Bs 4)).length≤100000 then
    ({n with up:=true,dl:=n.dl.take kk++bP (aX Bs 4),sy:=((kk+(bP (aX Bs 4)).length:Nat):Int),mo:=fun q=>(a7 (Bs q)).1,hn:=eD 4,he:=bD,wt:=[],af:=none,tu:=0},
     {s with sv:=s.sv++gN n.i Bs ps++(aX Bs 4).map fun r=>⟨n.i,r.q,(a7 (Bs r.q.toNat)).1.e,r.v,FQ,-1⟩})
  else({n with dl:=n.dl.take kk,sy:=mr kk n.sy,sk:=true},s)
structure WU(n:Nd)(Bs:Nat→Bt)(rs:List Rec)(kk:Nat)(ps:List Rec)(Oq:Nat):Prop where
 rd:bz n.dl=(rs.map bj,kk)
 wf:∀x∈aB rs,(Lit.int .i64 x).wf=true
 rl:rs.length≤100000
 ZA:(ki (ko fL) 0 rs).1=some (ko Bs)
 ok:∀q,q<4→(Bs q).Ok
 cn:n.ct≤kk
 rd2:bz ((n.dl.take kk).drop n.ct)=(ps.map bj,Oq)
 wf2:∀x∈aB ps,(Lit.int .i64 x).wf=true
 pl:ps.length≤100000
 ps:∀r∈ps,jB r→∃q:Nat,q<4∧r.q=(q:Int)∧(Bs q).Ok∧0<(Bs q).es.length
noncomputable abbrev WV(Bs:Nat→Bt)(y:(Nat→Option Addr)×(Nat→Nat)×(Nat→Nat→Value)):Nat→Mg:=fun q=>⟨(a7 (Bs q)).1,y.1 q,y.2.1 q,y.2.2 q⟩
theorem Nr(a:tB)(len cap:Nat)(l:tF)(s:Int)(rs:List (List Int))(kk:Nat)(w:tA)(UC:bz l=(rs,kk))(h:RowK .u8 w a len l)(hn:a=none→cap=0)(qk:len≤cap)(hc:cap≤9223372036854775807)(h1:len≤100000)(h2:0≤s)(h3:s≤len):
  cA 85 #[.agg #[.slice a len cap,iV s]] w fun e w'=>
   ∃a' bh,e= .returned (.tuple #[.agg #[.slice a' kk bh,iV (mr kk s)],iV 0])∧RowK .u8 w' a' kk (l.take kk)∧kk≤bh∧(a'=none→bh=0)∧bh≤9223372036854775807∧(∀x,a'=some x→w.heap.size≤x.block)∧bZ w w':=by
 have hh:=Ir a len cap l s w h hn qk hc h1 h2 h3;rw[UC]at hh;exact hh
theorem IZ{k:Nat}{s:Int}(h:0≤s):0≤mr k s∧mr k s≤k:=by
 unfold mr;split<;>omega
theorem BM(X N:Nat)(u:Nv)(lU:u.ub=false)(ok:u.Ok)(Bs:Nat→Bt)(rs:List Rec)(kk:Nat)(w:tA)(Bp:NB w X N u)(U:tD)(hU:∀b,U b→b<w.heap.size)(D8:¬U N)(hr:bR (fun b=>b=N∨U b) w fun w=>RowK .u8 w u.da u.dl.length u.dl)(UC:bz u.dl=(rs.map bj,kk))(vA:∀x∈aB rs,(Lit.int .i64 x).wf=true)(hrl:rs.length≤100000)(Qv:(ki (ko fL) 0 rs).1=some (ko Bs)):cA 52 #[lp N] w fun x w'=>∃Y c A K,x= .returned (.slice (some ⟨Y,0,none⟩) 4 c)∧4≤c∧bR (fun b=>b=N∨U b) w' (fun w=>kP w Y 4 Bs A K)∧bZ w w':=by
 unfold NB lh at Bp;rw[lU]at Bp;exact FN X N u.i u.da u.dl.length u.dc u.dl u.sy _ u.hn u.he u.wt u.af u.tu u.ct u.sk Bs rs kk w Bp U hU D8 hr ok.nil ok.cap ok.max ok.len ok.s0 ok.s1 UC vA hrl Qv
theorem YI{f:tG}(h:¬∀q,q<4→f q=0):∃p,p<4∧(∀q,q<p→f q=0)∧¬f p=0:=by
 by_cases h0:f 0=0
 ·by_cases h1:f 1=0
  ·by_cases h2:f 2=0
   ·by_cases h3:f 3=0
    ·exact absurd (fun q hq=>by
      obtain rfl|rfl|rfl|rfl:q=0∨q=1∨q=2∨q=3:=by omega
      ·exact h0
      ·exact h1
      ·exact h2
      ·exact h3) h
    ·exact⟨3,by decide,fun q hq=>by
      obtain rfl|rfl|rfl:q=0∨q=1∨q=2:=by omega
      ·exact h0
      ·exact h1
      ·exact h2,h3⟩
   ·exact⟨2,by decide,fun q hq=>by
     obtain rfl|rfl:q=0∨q=1:=by omega
     ·exact h0
     ·exact h1,h2⟩
  ·exact⟨1,by decide,fun q hq=>by
    obtain rfl:q=0:=by omega
    exact h0,h1⟩
 ·exact⟨0,by decide,fun q hq=>by omega,h0⟩
theorem YJ{U:tD}{w w':tA}{T:Nat}{la:tB}{lc:Nat}{L:List GX}(own:w'.ownsRow 0 T 14 (.slice la L.length lc) L.length (L.flatMap Bu))(hn:∀b,(Value.slice la L.length lc).ownBlock=some b→w.heap.size≤b)(hU:∀b,U b→b<w.heap.size):bR U w' fun w=>yQ w la L:=fun w2 c2=>by
 obtain⟨a,c,e,hr⟩:=Dx (aG own fun g hg hl=>c2.block g hl fun hu=>absurd (hU g hu) (Nat.not_lt.2 (hn g hg)));cases e;exact hr
theorem abk{mo mo':tO}{hn he:tG}{wt af:tJ}{tu:Int}(h:∀q,q<4→∀j,j<47→mo q j=mo' q j)(i:Nat):fU mo hn he wt af tu i=fU mo' hn he wt af tu i:=by
 unfold fU;by_cases h7:i<188
 ·rw[if_pos h7,if_pos h7];exact h _ (by omega) _ (Nat.mod_lt _ (by decide))
 ·rw[if_neg h7,if_neg h7]
theorem tw{Bs:Nat→Bt}:∀k,k≤4→∀r∈aX Bs k,∃q:Nat,q<4∧r=qY Bs q∧(Bs q).r=1
 |0,_,r,hr=>by simp[aX]at hr
 |k+1,hk,r,hr=>by
  by_cases h1:(Bs k).r=1
  ·rw[oR h1]at hr;rcases List.mem_append.1 hr with hr|hr
   ·exact tw k (by omega) r hr
   ·exact⟨k,by omega,List.mem_singleton.1 hr,h1⟩
  ·rw[qw h1]at hr;exact tw k (by omega) r hr
theorem Gj{Bs:Nat→Bt}{q:Nat}(hq:q<4)(ok:(Bs q).Ok)(h1:(Bs q).r=1):(qY Bs q).fault=0:=by
 have hs:=ok.cJ;unfold Bt.cC bw at hs;unfold Rec.fault aC aP;simp only;have:1≤(Bs q).e∧(Bs q).e≤1048576:=by omega
 simp;omega
theorem Ns{n:Nd}{s:Ws}{Bs:Nat→Bt}{kk:Nat}{ps:List Rec}(h1:∀q,q<4→(a7 (Bs q)).2=0)(h2:kk+(bP (aX Bs 4)).length≤100000):iR n s Bs kk ps=({n with up:=true,dl:=n.dl.take kk++bP (aX Bs 4),sy:=((kk+(bP (aX Bs 4)).length:Nat):Int),mo:=fun q=>(a7 (Bs q)).1,hn:=eD 4,he:=bD,wt:=[],af:=none,tu:=0},
     {s with sv:=s.sv++gN n.i Bs ps++(aX Bs 4).map fun r=>⟨n.i,r.q,(a7 (Bs r.q.toNat)).1.e,r.v,FQ,-1⟩}):=if_pos ⟨h1,h2⟩
theorem tx{n:Nd}{s:Ws}{Bs:Nat→Bt}{kk:Nat}{ps:List Rec}(h:¬((∀q,q<4→(a7 (Bs q)).2=0)∧kk+(bP (aX Bs 4)).length≤100000)):iR n s Bs kk ps=({n with dl:=n.dl.take kk,sy:=mr kk n.sy,sk:=true},s):=if_neg h
theorem Vl{B:Bt}(ok:B.Ok):(a7 B).1.Ok:=by
 unfold a7;rw[if_neg (fun h=>h ok)];split
 ·exact ok
 ·split
  ·exact Bt.cR
  ·rename_i h;exact Classical.not_not.1 h
theorem Rl(X N:Nat)(u:Nv)(v:Wv)(F U:tD)(w:tA)(hw:NW w X N u v F U)(Bs:Nat→Bt)(rs:List Rec)(kk:Nat)(ps:List Rec)(Oq:Nat)(lU:u.ub=false)(Wh:u.sk=false)(h:WU u.pure Bs rs kk ps Oq)(hlen:v.sv.length≤900000000000):cA 50 #[lp N] w fun x w'=>x= .returned (.tuple #[])∧∃u' v' F',Ds w X N u v F U (iR u.pure v.pure Bs kk ps) u' v' F' w':=by
 obtain⟨u0,rfl⟩:∃u0:Nv,u={u0 with ub:=false,sk:=false}:=⟨u,by cases u;cases lU;cases Wh;rfl⟩;have hkb:kk≤u0.dl.length:=by have:=(gz u0.dl).2;rw[show bz u0.dl=_ from h.rd]at this;exact this
 have GO:(u0.dl.take kk).length=kk:=by rw[List.length_take];omega
 refine en (H:=[nE X N {u0 with ub:=false,sk:=false}]) 55 [vp 0 0 N] Tryz.func50 rfl rfl (hw.init (G:=fun _=>True) fun _ _=>trivial) (r [2] rfl fun α=> ?_);refine cx rfl (fun y:Option Addr×Nat=>vt [.g [.o (.slice y.1 (u0.dl.take kk).length y.2),.o (iV (mr kk u0.sy))],.o (iV 0)]) (fun y=>kk≤y.2∧(y.1=none→y.2=0)∧y.2≤9223372036854775807) (fun y w=>RowK .u8 w y.1 kk (u0.dl.take kk)) (fun w hS=>(Nr u0.da u0.dl.length u0.dc u0.dl u0.sy _ kk _ h.rd hS.now.1.1.1.row hw.ok.nil hw.ok.cap hw.ok.max hw.ok.len hw.ok.s0 hw.ok.s1).mono fun _ _ ⟨a2,c2,e,r2,jo,qL,si,hf2,b⟩=>⟨(a2,c2),by rw[GO];exact e,b,⟨jo,qL,si⟩,bT r2 hf2⟩) ?_;rintro⟨a2,c2⟩ ⟨jo,qL,si⟩;obtain⟨u1,nP⟩:∃u1:Nv,u1={u0 with ub:=false,sk:=false,da:=a2,dc:=c2,dl:=u0.dl.take kk,sy:=mr kk u0.sy}:=⟨_,rfl⟩;refine r [] rfl fun _=>gn 0 (lh X u1) ?_ rfl (by rw[nP];kernel_rfl);have aeD:u1.ub=false:=by rw[nP]
 have Rm:u1.dl=u0.dl.take kk:=by rw[nP]
 have abl:u1.ct=u0.ct:=by rw[nP]
 have aeE:u1.i=u0.i:=by rw[nP]
 have qv:u1.Ok:=by
  have hcb:=IZ (k:=kk) hw.ok.s0;rw[nP];exact⟨hw.ok.ok,qL,by rw[GO];exact jo,si,by rw[GO];have:u0.dl.length≤100000:=hw.ok.len;omega,hcb.1,by rw[GO];exact hcb.2,hw.ok.i5,hw.ok.QB⟩
 have Rn:∀w,RowK .u8 w a2 kk (u0.dl.take kk)→RowK .u8 w u1.da u1.dl.length u1.dl:=fun w hr=>by rw[nP];show RowK .u8 w a2 (u0.dl.take kk).length (u0.dl.take kk);rw[GO];exact hr
 have aeF:bz u1.dl=(rs.map bj,kk):=by
  have hh:=Gi u0.dl;rw[show bz u0.dl=_ from h.rd]at hh;rw[Rm];exact hh
 have to0:∀{b:Nat} {H:tR} {M:Prop},(b∈N::H∨M)→b=N∨(b∈H∨M):=fun h=>h.elim (fun h=>(List.mem_cons.1 h).imp id .inl) fun h=> .inr (.inr h);refine r [] rfl fun _=>cx rfl (fun y:Nat×Nat×(Nat→Option Addr)×(Nat→Nat)=>vv (.slice (some ⟨y.1,0,none⟩) 4 y.2.1)) (fun _=>True) (fun y w=>kP w y.1 4 Bs y.2.2.1 y.2.2.2) (fun w hS=>(BM X N u1 aeD qv Bs rs kk _ (hS.at 0 rfl) _ hS.qI.1 hS.qI.2.1 (fun w2 c2=>Rn w2 (hS.qI.2.2 w2 c2).2) aeF h.wf h.rl h.ZA).mono fun _ _ ⟨Y,yc,A,K,e,_,gx,b⟩=>⟨(Y,yc,A,K),e,b,trivial,fun _ w2 c2=>gx w2 (c2.mono fun b h=>to0 h)⟩) ?_;rintro⟨Y,yc,A,K⟩ _;have late:∀(H:List bQ) (M:tD) (Γ R:tI) (w:tA),Mem w (⟨N,126,206,lh X u1⟩::H) M Γ R→(∀w,Γ w→RowK .u8 w a2 kk (u0.dl.take kk)∧kP w Y 4 Bs A K)→cA 87 #[lp N,.slice (some ⟨Y,0,none⟩) 4 yc] w fun x w'=>∃y:Option Addr×Nat,x= .returned (.slice y.1 (gN u1.i Bs ps).length y.2)∧bZ w w'∧True∧((∀b,(b∈(⟨N,126,206,lh X u1⟩::H:List bQ).map bQ.a∨M b)→b<w.heap.size)→bR (fun b=>b∈(⟨N,126,206,lh X u1⟩::H:List bQ).map bQ.a∨M b) w' fun w=>yQ w y.1 (gN u1.i Bs ps)):=fun H M Γ R w hS hΓ=>
  (Vk X N u1 Bs Y yc A K ps Oq w M (fun b hb=>hS.ult b (.inr hb)) (fun w2 c2=>⟨⟨(hS.vX 0 rfl w2 c2).2,Rn w2 (hΓ w2 (hS.vX 0 rfl w2 c2).1).1⟩,(hΓ w2 (hS.vX 0 rfl w2 c2).1).2⟩) qv (by rw[abl,Rm,GO];exact h.cn) (by rw[abl,Rm];exact h.rd2) h.wf2 h.pl h.ps).mono fun _ _ ⟨lv,e,own,hnw,b⟩=>by
   obtain⟨la,lc,rfl,_⟩:=Dx own;exact⟨(la,lc),e,b,trivial,YJ own hnw⟩
 by_cases Nb:∀q,q<4→(a7 (Bs q)).2=0
 case neg=>
  obtain⟨p,hp4,Yp,hhi⟩:=YI Nb;refine r [] rfl fun _=>Rv.cb rfl (vt [.g [.f 199 Yh],.o (.slice none 0 0),.o (.bool false)]) (fun w hS=>Ri Bs Y yc A K h.ok p hp4 Yp hhi _ _ hS.ult (fun w2 c2=>(hS.g w2 c2).2)) (r [] rfl fun β=> ?_);refine cx rfl (fun y:Option Addr×Nat=>vv (.slice y.1 (gN u1.i Bs ps).length y.2)) (fun _=>True) (fun y w=>yQ w y.1 (gN u1.i Bs ps)) (fun w hS=>late _ _ _ _ w hS fun w h=>⟨h.1.2,h.2⟩) fun y _=>r [] rfl fun γ=>gn 0 (lh X {u1 with sk:=true}) ?_;refine fin fun w hS=> ?_;have hn:=NW.fin (u':={u1 with sk:=true}) (v':=v) (F':=F) hS hw.ub hw.nu (fun _ h=>⟨⟨Rn _ h.1.1.2,by rw[nP];exact h.1.1.1.1.1.mo,by rw[nP];exact h.1.1.1.1.1.af,by rw[nP];exact h.1.1.1.1.1.wl⟩,h.1.1.1.1.2⟩) ⟨qv.ok,qv.nil,qv.cap,qv.max,qv.len,qv.s0,qv.s1,qv.i5,qv.QB⟩;exact⟨rfl,{u1 with sk:=true},v,F,hn.1,hn.2.1,.inl ⟨by rw[nP],by rw[nP]⟩,rfl,rfl,rfl,by rw[tx fun hh=>Nb hh.1,nP],by rw[tx fun hh=>Nb hh.1]⟩
 refine r [] rfl fun _=>cx rfl (fun y:((Nat→Option Addr)×(Nat→Nat)×(Nat→Nat→Value))×Option Addr×Nat=>vt [.g [.f 199 (fU (fun p=>iO (WV Bs y.1 p)) (eD 4) bD (.slice none 0 0) .nilFunc 0)],.o (.slice y.2.1 (aX Bs 4).length y.2.2),.o (.bool true)]) (fun y=>∀q,q<4→aT (iO (WV Bs y.1 q)) 47) (fun y w=>(∀q,q<4→nj w (WV Bs y.1 q))∧RowK .i64 w y.2.1 (10*(aX Bs 4).length) (aB (aX Bs 4))) (fun w hS=>(MP Bs Y yc A K h.ok (fun q hq=>WJ (h.ok q hq)) Nb _ _ hS.ult (fun w2 c2=>(hS.g w2 c2).2)).mono fun _ _ ⟨mo,ba,bc,bq,ra,rc,e,SR,pS,gx,hrc,b⟩=>⟨((ba,bc,bq),ra,rc),by rw[e,Kr fun j _=>abk (mo':=fun p=>iO (WV Bs (ba,bc,bq) p)) (fun q hq j hj=>Q_ (SR q hq) j hj) j];rfl,b,fun q hq j hj=>(congrArg Value.oneCell' (Q_ (SR q hq) j hj)).symm.trans (pS q hq j hj),fun _=>gx⟩) ?_;rintro⟨y1,ra,rc⟩ pS;have o1:aT (fU (fun p=>iO (WV Bs y1 p)) (eD 4) bD (.slice none 0 0) .nilFunc 0) 199:=uS pS rfl;refine r [] rfl fun β=>cx rfl (fun y:Option Addr×Nat=>vv (.slice y.1 (gN u1.i Bs ps).length y.2)) (fun _=>True) (fun y w=>yQ w y.1 (gN u1.i Bs ps)) (fun w hS=>late _ _ _ _ w hS fun w h=>⟨h.1.1.2,h.1.2⟩) ?_;rintro⟨la,lc⟩ _;refine r [] rfl fun γ=>c0 rfl fun w1 hS=> ?_;obtain⟨hx1,hx2,hx3⟩:=hS.qI;refine(iN X N u1.i u1.da u1.dl.length u1.dc u1.dl u1.sy (fun p=>iO (u1.m p)) u1.hn u1.he u1.wt u1.af u1.tu u1.ct u1.ub u1.sk (.func 88) #[] #[.pointer (some ⟨β 0,0,none⟩),.pointer (some ⟨α 0,0,none⟩),.pointer (some ⟨γ 0,0,none⟩),.pointer (some ⟨β 1,0,none⟩)] (aX Bs 4) ra (aX Bs 4).length rc _ (hS.at 0 rfl) _ hx1 hx2 (fun w2 cc=>⟨Rn w2 (hx3 w2 cc).1.1.1.2,(hx3 w2 cc).1.2.2⟩) qv.nil qv.cap qv.max qv.len qv.s0 qv.s1 rfl (by have:=lN Bs 4;omega) (fun r hr=>by obtain⟨q,hq,rfl,h1⟩:=tw 4 (Nat.le_refl _) r hr;exact Gj hq (h.ok q hq) h1)).mono ?_;rintro _ w14 ⟨k,rfl,ch,⟨rfl,iF,a3,c3,fb3,st3,hc3,FK,hm3⟩|⟨rfl,iF,fb3⟩⟩
 case inr=>
  refine⟨vv (.bool false),_,fun _=>True,rfl,ch,fb3,fun _ _=>trivial,r [] rfl fun _=>gn 0 (lh X {u1 with sk:=true}) ?_⟩;refine fin fun w hS=> ?_;have hn:=NW.fin (u':={u1 with sk:=true}) (v':=v) (F':=F) hS hw.ub hw.nu (fun _ h=>⟨⟨Rn _ h.1.1.1.1.2,by rw[nP];exact h.1.1.1.1.1.1.1.mo,by rw[nP];exact h.1.1.1.1.1.1.1.af,by rw[nP];exact h.1.1.1.1.1.1.1.wl⟩,h.1.1.1.1.1.1.2⟩) ⟨qv.ok,qv.nil,qv.cap,qv.max,qv.len,qv.s0,qv.s1,qv.i5,qv.QB⟩;have N_:¬((∀q,q<4→(a7 (Bs q)).2=0)∧kk+(bP (aX Bs 4)).length≤100000):=fun hh=>by have:=hh.2;rw[Rm,GO]at iF;omega
  exact⟨rfl,{u1 with sk:=true},v,F,hn.1,hn.2.1,.inl ⟨by rw[nP],by rw[nP]⟩,rfl,rfl,rfl,by rw[tx N_,nP],by rw[tx N_]⟩
 have UZ:(u1.dl++bP (aX Bs 4)).length=u1.dl.length+(bP (aX Bs 4)).length:=List.length_append ..;refine⟨vv (.bool true),_,_,rfl,ch,fb3,st3,r [] rfl fun _=> ?_⟩;refine Rv.ct (Y:=Option Addr×Nat×(Nat→Prop)) rfl (vt []) (fun y z=>NW z X N {u1 with da:=y.1,dc:=y.2.1,dl:=u1.dl++bP (aX Bs 4),sy:=((u1.dl.length+(bP (aX Bs 4)).length:Nat):Int),ub:=true,m:=WV Bs y1,hn:=eD 4,he:=bD,wt:= .slice none 0 0,wl:=[],af:= .nilFunc,ax:=none,tu:=0} {v with sv:=v.sv++gN u1.i Bs ps++(aX Bs 4).map (Nn u1.i (WV Bs y1))} y.2.2 (fun b=>U b∨y.2.2 b)∧Mv (fun b=>F b∨b=N) w (fun b=>y.2.2 b∨b=N) z) (fun w1 hS=> ?_) (fun _ _ _ h b=>⟨h.1.next b,h.2.next b⟩) fun y=>r [] rfl fun _=>c_ rfl fun z hS=>⟨rfl,_,_,y.2.2,hS.now.2.1,hS.now.2.2,.inr ⟨rfl,rfl⟩,rfl,rfl,rfl, ?_, ?_⟩
 ·obtain⟨hx1,hx2,hx3⟩:=hS.qI;refine(uT X N u1.i a3 _ c3 (u1.dl++bP (aX Bs 4)) u1.sy (fun p=>iO (u1.m p)) u1.hn u1.he u1.wt u1.tu u1.ct u1.ub u1.sk 88 [.pointer (some ⟨β 0,0,none⟩),.pointer (some ⟨α 0,0,none⟩),.pointer (some ⟨γ 0,0,none⟩),.pointer (some ⟨β 1,0,none⟩)] _ (hS.at 0 rfl) _ hx1 hx2 (fun w2 cc=>(hx3 w2 cc).2) FK hc3 iF qv.s0 (by have:=qv.s1;omega) (by kernel_rfl) (fun z=>∃y:Option Addr×Nat×(Nat→Prop),NW z X N _ _ y.2.2 (fun b=>U b∨y.2.2 b)∧Mv (fun b=>F b∨b=N) w (fun b=>y.2.2 b∨b=N) z) (fun _ _ ⟨y,h1,h2⟩ b=>⟨y,h1.next b,h2.next b⟩) fun a4 c4 z fz rz hc4 UY hm4 cz=> ?_);have wK:=(hS.OU cz fz rz).congr 0 rfl (lh X {u1 with da:=a4,dc:=c4,dl:=u1.dl++bP (aX Bs 4),sy:=((u1.dl.length+(bP (aX Bs 4)).length:Nat):Int),af:= .nilFunc,ax:=none}) (fun i _=>by simp only[lh,UZ]);have hn:=NW.fin (v':=v) (F':=F) wK hw.ub hw.nu (fun _ h=>⟨⟨by rw[UZ];exact h.2,by rw[nP];exact h.1.1.1.1.1.1.1.1.mo,rfl,by rw[nP];exact h.1.1.1.1.1.1.1.1.wl⟩,h.1.1.1.1.1.1.1.2⟩) ⟨qv.ok,UY,by rw[UZ];exact hc4,hm4,by rw[UZ];exact iF,by show(0:Int)≤((u1.dl.length+(bP (aX Bs 4)).length:Nat):Int);omega,by show((u1.dl.length+(bP (aX Bs 4)).length:Nat):Int)≤((u1.dl++bP (aX Bs 4)).length:Int);rw[UZ];exact Int.le_refl _,qv.i5,trivial⟩;have k1:∀{k:Nat} {e:bQ},1≤k→_→bR (fun b=>U b∨F b) z fun w=>aZ w e.a e.t e.n e.f:=fun {k e} hk he w2 c2=>((wK.kept k (e:=e) he 1 hk).mono fun b _ h=>toNM h) w2 c2;refine(Np X N _ v F _ z hn.1 (WV Bs y1) (fun q hq=>Vl (h.ok q hq)) la (gN u1.i Bs ps) lc ra (aX Bs 4) rc (β 0) (α 0) (γ 0) (β 1) (fun w2 c2=>have g:=wK.g w2 (c2.mono fun b h=>toHM h);⟨⟨⟨⟨⟨⟨k1 (k:=2) (cF rfl) rfl w2 c2,k1 (k:=1) (cF rfl) rfl w2 c2⟩,k1 (k:=4) (cF rfl) rfl w2 c2⟩,k1 (k:=3) (cF rfl) rfl w2 c2⟩,g.1.1.2⟩,g.1.1.1.2.2⟩,g.1.1.1.2.1⟩) (fun r hr=>by obtain⟨q,hq,rfl,_⟩:=tw 4 (Nat.le_refl _) r hr;exact⟨q,hq,rfl⟩) (by have:=lN Bs 4;have:=u9 (i:=u1.i) (Bs:=Bs) (ps:=ps);have:=h.pl;omega)).mono ?_;rintro _ z' ⟨rfl,F',h1,h2⟩;exact⟨rfl,(a4,c4,F'),h1.less (fun b hb=>hb.elim (fun hb=> .inl (.inl hb)) .inr) (fun b hb=> .inr hb) (.inl hw.nu),hn.2.1.trans h2⟩
 all_goals rw[Ns Nb (by rw[Rm,GO]at iF;exact iF)]
 ·rw[nP];simp only[GO];rfl
 ·rw[aeE];rfl
end
theorem DA{w:tA}{B clock:Nat}{es:Array MapEntry}{z:Int}{v:tJ}(hb:w.heap[B]? =some (.map es clock))(hf:Instr.findNow (.int .i64) (iV z) es.toList 0=some none):
  (Instr.mapUpdate 107 (.map (some B)) (iV z) v).run Tryz.prog w= .ok () {w with heap:=w.heap.setIfInBounds B (.map (es.push ⟨iV z,v,clock⟩) (clock+1))}:=by
 have hc:(Instr.checkKey false 10000 3 (iV z)).run Tryz.prog w= .ok () w:=MapKept.run_checkKey (k:=iV z) Tryz.underlying3 (by simp[MapKept.IsKey]) false 9999;simp[Instr.mapUpdate,run_underlying Tryz.underlying107,MapKept.run_getObj_map hb,hc,MapKept.run_findKey Tryz.underlying3 hf,MapKept.run_setObj_map _ hb,Result.andThen]
theorem lV{ops:tL}{rest:List Oper}{o:Oper}{a:Act}{Q:tH}{w:tA}{B clock:Nat}{es:Array MapEntry}{z:Int}{v:tJ}(m k x:tP)(ho:o.op= .insert 107 m k x)(hw:Region.wanted o (yielded ops a.tmps)=true)
  (hm:a.eval m= .map (some B)) (hk:a.eval k=iV z) (hx:a.eval x=v) (hb:w.heap[B]? =some (.map es clock)) (hf:Instr.findNow (.int .i64) (iV z) es.toList 0=some none)
  (h:∀w',w'.heap[B]? =some (.map (es.push ⟨iV z,v,clock⟩) (clock+1))→az B w w'→wpList Tryz.prog ops Q rest (a.put o.dst undef) w'):wpList Tryz.prog ops Q (o::rest) a w:=
 wpList_step fun K hK=>by
  rw[if_pos hw];have rH:=DA (v:=v) hb hf;have hs:=MapKept.heap_set (o':= .map (es.push ⟨iV z,v,clock⟩) (clock+1)) hb;have:=hK _ _ (h {w with heap:=w.heap.setIfInBounds B (.map (es.push ⟨iV z,v,clock⟩) (clock+1))} hs.1 ⟨rfl,rfl,rfl,by simp,fun r hr=>hs.2 r hr⟩);unfold Oper.wp;simp only[execOp,ho,hm,hk,hx];simp[rH,Result.andThen];exact this
theorem Ro{ops:tL}{rest:List Oper}{o:Oper}{a:Act}{Q:tH}{w:tA}(ho:o.op= .makeMap 107 none)(hw:Region.wanted o (yielded ops a.tmps)=true)
  (h:∀w',w'.heap[w.heap.size]? =some (.map #[] 0)→bZ w w'→wpList Tryz.prog ops Q rest (a.put o.dst (.map (some w.heap.size))) w'):wpList Tryz.prog ops Q (o::rest) a w:=
 wpList_step fun K hK=>by
  rw[if_pos hw];have:=hK _ _ (h _ (heap_alloc_new w _) (aA _ _));unfold Oper.wp;simp only[execOp,ho];simp[run_makeMap_plain,Result.andThen];exact this
theorem DB{w:tA}{B clock:Nat}{es:Array MapEntry}{z:Int}{v:tJ}(hb:w.heap[B]? =some (.map es clock))(hf:Instr.findNow (.int .i64) (iV z) es.toList 0=some none):
  (Instr.mapUpdate 112 (.map (some B)) (iV z) v).run Tryz.prog w= .ok () {w with heap:=w.heap.setIfInBounds B (.map (es.push ⟨iV z,v,clock⟩) (clock+1))}:=by
 have hc:(Instr.checkKey false 10000 3 (iV z)).run Tryz.prog w= .ok () w:=MapKept.run_checkKey (k:=iV z) Tryz.underlying3 (by simp[MapKept.IsKey]) false 9999;simp[Instr.mapUpdate,run_underlying Tryz.underlying112,MapKept.run_getObj_map hb,hc,MapKept.run_findKey Tryz.underlying3 hf,MapKept.run_setObj_map _ hb,Result.andThen]
theorem gT{ops:tL}{rest:List Oper}{o:Oper}{a:Act}{Q:tH}{w:tA}{B clock:Nat}{es:Array MapEntry}{z:Int}{v:tJ}(m k x:tP)(ho:o.op= .insert 112 m k x)(hw:Region.wanted o (yielded ops a.tmps)=true)
  (hm:a.eval m= .map (some B)) (hk:a.eval k=iV z) (hx:a.eval x=v) (hb:w.heap[B]? =some (.map es clock)) (hf:Instr.findNow (.int .i64) (iV z) es.toList 0=some none)
  (h:∀w',w'.heap[B]? =some (.map (es.push ⟨iV z,v,clock⟩) (clock+1))→az B w w'→wpList Tryz.prog ops Q rest (a.put o.dst undef) w'):wpList Tryz.prog ops Q (o::rest) a w:=
 wpList_step fun K hK=>by
  rw[if_pos hw];have rH:=DB (v:=v) hb hf;have hs:=MapKept.heap_set (o':= .map (es.push ⟨iV z,v,clock⟩) (clock+1)) hb;have:=hK _ _ (h {w with heap:=w.heap.setIfInBounds B (.map (es.push ⟨iV z,v,clock⟩) (clock+1))} hs.1 ⟨rfl,rfl,rfl,by simp,fun r hr=>hs.2 r hr⟩);unfold Oper.wp;simp only[execOp,ho,hm,hk,hx];simp[rH,Result.andThen];exact this
theorem Rq{ops:tL}{rest:List Oper}{o:Oper}{a:Act}{Q:tH}{w:tA}(ho:o.op= .makeMap 112 none)(hw:Region.wanted o (yielded ops a.tmps)=true)
  (h:∀w',w'.heap[w.heap.size]? =some (.map #[] 0)→bZ w w'→wpList Tryz.prog ops Q rest (a.put o.dst (.map (some w.heap.size))) w'):wpList Tryz.prog ops Q (o::rest) a w:=
 wpList_step fun K hK=>by
  rw[if_pos hw];have:=hK _ _ (h _ (heap_alloc_new w _) (aA _ _));unfold Oper.wp;simp only[execOp,ho];simp[run_makeMap_plain,Result.andThen];exact this
def iS:Obj:= .map #[⟨iV 0,.func (.func 67) #[] #[],0⟩,⟨iV 2,.func (.func 68) #[] #[],1⟩,⟨iV 3,.func (.func 69) #[] #[],2⟩,⟨iV 4,.func (.func 70) #[] #[],3⟩,⟨iV 7,.func (.func 71) #[] #[],4⟩] 5
theorem I1(w:tA):
  cA 41 #[] w fun e w'=>e= .returned (.map (some w.heap.size))∧w'.heap[w.heap.size]? =some (iS)∧bZ w w':=by
 go_enter Tryz.func41,Tryz.ntmps41
 go_wp2_with (first
  |(refine Ro rfl rfl ?_;intro W1 m1 b1;have k1:=ah b1;clear b1)
  |(refine lV (es:= #[]) _ _ _ rfl rfl rfl rfl rfl m1 rfl ?_;intro W2 m2 t2;have k2:=ah (t2.under (aa k1) (Nat.le_refl _));clear t2 m1)
  |(refine lV (clock:=1) _ _ _ rfl rfl rfl rfl rfl m2 rfl ?_;intro W3 m3 t3;have k3:=ah (t3.under (aa k2) (Nat.le_refl _));clear t3 m2)
  |(refine lV (clock:=2) _ _ _ rfl rfl rfl rfl rfl m3 rfl ?_;intro W4 m4 t4;have k4:=ah (t4.under (aa k3) (Nat.le_refl _));clear t4 m3)
  |(refine lV (clock:=3) _ _ _ rfl rfl rfl rfl rfl m4 rfl ?_;intro W5 m5 t5;have k5:=ah (t5.under (aa k4) (Nat.le_refl _));clear t5 m4)
  |(refine lV (clock:=4) _ _ _ rfl rfl rfl rfl rfl m5 rfl ?_;intro W6 m6 t6;have k6:=ah (t6.under (aa k5) (Nat.le_refl _));clear t6 m5;have M9:=ah m6;clear m6))
 go_ret;exact⟨rfl,aa M9,aa k6⟩
def dM(X:Nat):Obj:= .map #[⟨iV 0,.func (.func 72) #[lp X] #[],0⟩,⟨iV 1,.func (.func 73) #[lp X] #[],1⟩,⟨iV 2,.func (.func 72) #[lp X] #[],2⟩,⟨iV 3,.func (.func 72) #[lp X] #[],3⟩,⟨iV 4,.func (.func 72) #[lp X] #[],4⟩,⟨iV 5,.func (.func 74) #[lp X] #[],5⟩,⟨iV 6,.func (.func 75) #[lp X] #[],6⟩,⟨iV 7,.func (.func 72) #[lp X] #[],7⟩] 8
theorem Gk(X:Nat)(w:tA):
  cA 42 #[lp X] w fun e w'=>e= .returned (.map (some w.heap.size))∧w'.heap[w.heap.size]? =some (dM X)∧bZ w w':=by
 go_enter Tryz.func42,Tryz.ntmps42
 go_wp2_with (first
  |(refine Rq rfl rfl ?_;intro W1 m1 b1;have k1:=ah b1;clear b1)
  |(refine gT (es:= #[]) _ _ _ rfl rfl rfl rfl rfl m1 rfl ?_;intro W2 m2 t2;have k2:=ah (t2.under (aa k1) (Nat.le_refl _));clear t2 m1)
  |(refine gT (clock:=1) _ _ _ rfl rfl rfl rfl rfl m2 rfl ?_;intro W3 m3 t3;have k3:=ah (t3.under (aa k2) (Nat.le_refl _));clear t3 m2)
  |(refine gT (clock:=2) _ _ _ rfl rfl rfl rfl rfl m3 rfl ?_;intro W4 m4 t4;have k4:=ah (t4.under (aa k3) (Nat.le_refl _));clear t4 m3)
  |(refine gT (clock:=3) _ _ _ rfl rfl rfl rfl rfl m4 rfl ?_;intro W5 m5 t5;have k5:=ah (t5.under (aa k4) (Nat.le_refl _));clear t5 m4)
  |(refine gT (clock:=4) _ _ _ rfl rfl rfl rfl rfl m5 rfl ?_;intro W6 m6 t6;have k6:=ah (t6.under (aa k5) (Nat.le_refl _));clear t6 m5)
  |(refine gT (clock:=5) _ _ _ rfl rfl rfl rfl rfl m6 rfl ?_;intro W7 m7 t7;have k7:=ah (t7.under (aa k6) (Nat.le_refl _));clear t7 m6)
  |(refine gT (clock:=6) _ _ _ rfl rfl rfl rfl rfl m7 rfl ?_;intro W8 m8 t8;have k8:=ah (t8.under (aa k7) (Nat.le_refl _));clear t8 m7)
  |(refine gT (clock:=7) _ _ _ rfl rfl rfl rfl rfl m8 rfl ?_;intro W9 m9 t9;have k9:=ah (t9.under (aa k8) (Nat.le_refl _));clear t9 m8;have M9:=ah m9;clear m9))
 go_ret;exact⟨rfl,aa M9,aa k9⟩
theorem Rs{w:tA}{B:Nat}(h:w.heap[B]? =some (iS)):(Instr.lookup 107 (.map (some B)) (iV 0) false).run Tryz.prog w= .ok (.func (.func 67) #[] #[]) w:=by
 have hc:(Instr.checkKey false 10000 3 (iV 0)).run Tryz.prog w= .ok () w:=MapKept.run_checkKey (k:=iV 0) Tryz.underlying3 (by simp[MapKept.IsKey]) false 9999;unfold iS at h;have hf:Instr.findNow (.int .i64) (iV 0) [(⟨iV 0,.func (.func 67) #[] #[],0⟩:tU),⟨iV 2,.func (.func 68) #[] #[],1⟩,⟨iV 3,.func (.func 69) #[] #[],2⟩,⟨iV 4,.func (.func 70) #[] #[],3⟩,⟨iV 7,.func (.func 71) #[] #[],4⟩] 0=some (some (0,.func (.func 67) #[] #[])):=rfl;simp[Instr.lookup,run_underlying Tryz.underlying107,MapKept.run_getObj_map h,hc,MapKept.run_findKey Tryz.underlying3 hf,Result.andThen]
theorem Rt{w:tA}{B:Nat}(h:w.heap[B]? =some (iS)):(Instr.lookup 107 (.map (some B)) (iV 2) false).run Tryz.prog w= .ok (.func (.func 68) #[] #[]) w:=by
 have hc:(Instr.checkKey false 10000 3 (iV 2)).run Tryz.prog w= .ok () w:=MapKept.run_checkKey (k:=iV 2) Tryz.underlying3 (by simp[MapKept.IsKey]) false 9999;unfold iS at h;have hf:Instr.findNow (.int .i64) (iV 2) [(⟨iV 0,.func (.func 67) #[] #[],0⟩:tU),⟨iV 2,.func (.func 68) #[] #[],1⟩,⟨iV 3,.func (.func 69) #[] #[],2⟩,⟨iV 4,.func (.func 70) #[] #[],3⟩,⟨iV 7,.func (.func 71) #[] #[],4⟩] 0=some (some (1,.func (.func 68) #[] #[])):=rfl;simp[Instr.lookup,run_underlying Tryz.underlying107,MapKept.run_getObj_map h,hc,MapKept.run_findKey Tryz.underlying3 hf,Result.andThen]
theorem Ru{w:tA}{B:Nat}(h:w.heap[B]? =some (iS)):(Instr.lookup 107 (.map (some B)) (iV 3) false).run Tryz.prog w= .ok (.func (.func 69) #[] #[]) w:=by
 have hc:(Instr.checkKey false 10000 3 (iV 3)).run Tryz.prog w= .ok () w:=MapKept.run_checkKey (k:=iV 3) Tryz.underlying3 (by simp[MapKept.IsKey]) false 9999;unfold iS at h;have hf:Instr.findNow (.int .i64) (iV 3) [(⟨iV 0,.func (.func 67) #[] #[],0⟩:tU),⟨iV 2,.func (.func 68) #[] #[],1⟩,⟨iV 3,.func (.func 69) #[] #[],2⟩,⟨iV 4,.func (.func 70) #[] #[],3⟩,⟨iV 7,.func (.func 71) #[] #[],4⟩] 0=some (some (2,.func (.func 69) #[] #[])):=rfl;simp[Instr.lookup,run_underlying Tryz.underlying107,MapKept.run_getObj_map h,hc,MapKept.run_findKey Tryz.underlying3 hf,Result.andThen]
theorem Rw{w:tA}{B:Nat}(h:w.heap[B]? =some (iS)):(Instr.lookup 107 (.map (some B)) (iV 4) false).run Tryz.prog w= .ok (.func (.func 70) #[] #[]) w:=by
 have hc:(Instr.checkKey false 10000 3 (iV 4)).run Tryz.prog w= .ok () w:=MapKept.run_checkKey (k:=iV 4) Tryz.underlying3 (by simp[MapKept.IsKey]) false 9999;unfold iS at h;have hf:Instr.findNow (.int .i64) (iV 4) [(⟨iV 0,.func (.func 67) #[] #[],0⟩:tU),⟨iV 2,.func (.func 68) #[] #[],1⟩,⟨iV 3,.func (.func 69) #[] #[],2⟩,⟨iV 4,.func (.func 70) #[] #[],3⟩,⟨iV 7,.func (.func 71) #[] #[],4⟩] 0=some (some (3,.func (.func 70) #[] #[])):=rfl;simp[Instr.lookup,run_underlying Tryz.underlying107,MapKept.run_getObj_map h,hc,MapKept.run_findKey Tryz.underlying3 hf,Result.andThen]
theorem Rx{w:tA}{B:Nat}(h:w.heap[B]? =some (iS)):(Instr.lookup 107 (.map (some B)) (iV 7) false).run Tryz.prog w= .ok (.func (.func 71) #[] #[]) w:=by
 have hc:(Instr.checkKey false 10000 3 (iV 7)).run Tryz.prog w= .ok () w:=MapKept.run_checkKey (k:=iV 7) Tryz.underlying3 (by simp[MapKept.IsKey]) false 9999;unfold iS at h;have hf:Instr.findNow (.int .i64) (iV 7) [(⟨iV 0,.func (.func 67) #[] #[],0⟩:tU),⟨iV 2,.func (.func 68) #[] #[],1⟩,⟨iV 3,.func (.func 69) #[] #[],2⟩,⟨iV 4,.func (.func 70) #[] #[],3⟩,⟨iV 7,.func (.func 71) #[] #[],4⟩] 0=some (some (4,.func (.func 71) #[] #[])):=rfl;simp[Instr.lookup,run_underlying Tryz.underlying107,MapKept.run_getObj_map h,hc,MapKept.run_findKey Tryz.underlying3 hf,Result.andThen]
theorem Nu(X:Nat){w:tA}{B:Nat}(h:w.heap[B]? =some (dM X)):(Instr.lookup 112 (.map (some B)) (iV 0) false).run Tryz.prog w= .ok (.func (.func 72) #[lp X] #[]) w:=by
 have hc:(Instr.checkKey false 10000 3 (iV 0)).run Tryz.prog w= .ok () w:=MapKept.run_checkKey (k:=iV 0) Tryz.underlying3 (by simp[MapKept.IsKey]) false 9999;unfold dM at h;have hf:Instr.findNow (.int .i64) (iV 0) [(⟨iV 0,.func (.func 72) #[lp X] #[],0⟩:tU),⟨iV 1,.func (.func 73) #[lp X] #[],1⟩,⟨iV 2,.func (.func 72) #[lp X] #[],2⟩,⟨iV 3,.func (.func 72) #[lp X] #[],3⟩,⟨iV 4,.func (.func 72) #[lp X] #[],4⟩,⟨iV 5,.func (.func 74) #[lp X] #[],5⟩,⟨iV 6,.func (.func 75) #[lp X] #[],6⟩,⟨iV 7,.func (.func 72) #[lp X] #[],7⟩] 0=some (some (0,.func (.func 72) #[lp X] #[])):=rfl;simp[Instr.lookup,run_underlying Tryz.underlying112,MapKept.run_getObj_map h,hc,MapKept.run_findKey Tryz.underlying3 hf,Result.andThen]
theorem Nw(X:Nat){w:tA}{B:Nat}(h:w.heap[B]? =some (dM X)):(Instr.lookup 112 (.map (some B)) (iV 1) false).run Tryz.prog w= .ok (.func (.func 73) #[lp X] #[]) w:=by
 have hc:(Instr.checkKey false 10000 3 (iV 1)).run Tryz.prog w= .ok () w:=MapKept.run_checkKey (k:=iV 1) Tryz.underlying3 (by simp[MapKept.IsKey]) false 9999;unfold dM at h;have hf:Instr.findNow (.int .i64) (iV 1) [(⟨iV 0,.func (.func 72) #[lp X] #[],0⟩:tU),⟨iV 1,.func (.func 73) #[lp X] #[],1⟩,⟨iV 2,.func (.func 72) #[lp X] #[],2⟩,⟨iV 3,.func (.func 72) #[lp X] #[],3⟩,⟨iV 4,.func (.func 72) #[lp X] #[],4⟩,⟨iV 5,.func (.func 74) #[lp X] #[],5⟩,⟨iV 6,.func (.func 75) #[lp X] #[],6⟩,⟨iV 7,.func (.func 72) #[lp X] #[],7⟩] 0=some (some (1,.func (.func 73) #[lp X] #[])):=rfl;simp[Instr.lookup,run_underlying Tryz.underlying112,MapKept.run_getObj_map h,hc,MapKept.run_findKey Tryz.underlying3 hf,Result.andThen]
theorem Nx(X:Nat){w:tA}{B:Nat}(h:w.heap[B]? =some (dM X)):(Instr.lookup 112 (.map (some B)) (iV 2) false).run Tryz.prog w= .ok (.func (.func 72) #[lp X] #[]) w:=by
 have hc:(Instr.checkKey false 10000 3 (iV 2)).run Tryz.prog w= .ok () w:=MapKept.run_checkKey (k:=iV 2) Tryz.underlying3 (by simp[MapKept.IsKey]) false 9999;unfold dM at h;have hf:Instr.findNow (.int .i64) (iV 2) [(⟨iV 0,.func (.func 72) #[lp X] #[],0⟩:tU),⟨iV 1,.func (.func 73) #[lp X] #[],1⟩,⟨iV 2,.func (.func 72) #[lp X] #[],2⟩,⟨iV 3,.func (.func 72) #[lp X] #[],3⟩,⟨iV 4,.func (.func 72) #[lp X] #[],4⟩,⟨iV 5,.func (.func 74) #[lp X] #[],5⟩,⟨iV 6,.func (.func 75) #[lp X] #[],6⟩,⟨iV 7,.func (.func 72) #[lp X] #[],7⟩] 0=some (some (2,.func (.func 72) #[lp X] #[])):=rfl;simp[Instr.lookup,run_underlying Tryz.underlying112,MapKept.run_getObj_map h,hc,MapKept.run_findKey Tryz.underlying3 hf,Result.andThen]
theorem Ny(X:Nat){w:tA}{B:Nat}(h:w.heap[B]? =some (dM X)):(Instr.lookup 112 (.map (some B)) (iV 3) false).run Tryz.prog w= .ok (.func (.func 72) #[lp X] #[]) w:=by
 have hc:(Instr.checkKey false 10000 3 (iV 3)).run Tryz.prog w= .ok () w:=MapKept.run_checkKey (k:=iV 3) Tryz.underlying3 (by simp[MapKept.IsKey]) false 9999;unfold dM at h;have hf:Instr.findNow (.int .i64) (iV 3) [(⟨iV 0,.func (.func 72) #[lp X] #[],0⟩:tU),⟨iV 1,.func (.func 73) #[lp X] #[],1⟩,⟨iV 2,.func (.func 72) #[lp X] #[],2⟩,⟨iV 3,.func (.func 72) #[lp X] #[],3⟩,⟨iV 4,.func (.func 72) #[lp X] #[],4⟩,⟨iV 5,.func (.func 74) #[lp X] #[],5⟩,⟨iV 6,.func (.func 75) #[lp X] #[],6⟩,⟨iV 7,.func (.func 72) #[lp X] #[],7⟩] 0=some (some (3,.func (.func 72) #[lp X] #[])):=rfl;simp[Instr.lookup,run_underlying Tryz.underlying112,MapKept.run_getObj_map h,hc,MapKept.run_findKey Tryz.underlying3 hf,Result.andThen]
theorem Nz(X:Nat){w:tA}{B:Nat}(h:w.heap[B]? =some (dM X)):(Instr.lookup 112 (.map (some B)) (iV 4) false).run Tryz.prog w= .ok (.func (.func 72) #[lp X] #[]) w:=by
 have hc:(Instr.checkKey false 10000 3 (iV 4)).run Tryz.prog w= .ok () w:=MapKept.run_checkKey (k:=iV 4) Tryz.underlying3 (by simp[MapKept.IsKey]) false 9999;unfold dM at h;have hf:Instr.findNow (.int .i64) (iV 4) [(⟨iV 0,.func (.func 72) #[lp X] #[],0⟩:tU),⟨iV 1,.func (.func 73) #[lp X] #[],1⟩,⟨iV 2,.func (.func 72) #[lp X] #[],2⟩,⟨iV 3,.func (.func 72) #[lp X] #[],3⟩,⟨iV 4,.func (.func 72) #[lp X] #[],4⟩,⟨iV 5,.func (.func 74) #[lp X] #[],5⟩,⟨iV 6,.func (.func 75) #[lp X] #[],6⟩,⟨iV 7,.func (.func 72) #[lp X] #[],7⟩] 0=some (some (4,.func (.func 72) #[lp X] #[])):=rfl;simp[Instr.lookup,run_underlying Tryz.underlying112,MapKept.run_getObj_map h,hc,MapKept.run_findKey Tryz.underlying3 hf,Result.andThen]
theorem NA(X:Nat){w:tA}{B:Nat}(h:w.heap[B]? =some (dM X)):(Instr.lookup 112 (.map (some B)) (iV 5) false).run Tryz.prog w= .ok (.func (.func 74) #[lp X] #[]) w:=by
 have hc:(Instr.checkKey false 10000 3 (iV 5)).run Tryz.prog w= .ok () w:=MapKept.run_checkKey (k:=iV 5) Tryz.underlying3 (by simp[MapKept.IsKey]) false 9999;unfold dM at h;have hf:Instr.findNow (.int .i64) (iV 5) [(⟨iV 0,.func (.func 72) #[lp X] #[],0⟩:tU),⟨iV 1,.func (.func 73) #[lp X] #[],1⟩,⟨iV 2,.func (.func 72) #[lp X] #[],2⟩,⟨iV 3,.func (.func 72) #[lp X] #[],3⟩,⟨iV 4,.func (.func 72) #[lp X] #[],4⟩,⟨iV 5,.func (.func 74) #[lp X] #[],5⟩,⟨iV 6,.func (.func 75) #[lp X] #[],6⟩,⟨iV 7,.func (.func 72) #[lp X] #[],7⟩] 0=some (some (5,.func (.func 74) #[lp X] #[])):=rfl;simp[Instr.lookup,run_underlying Tryz.underlying112,MapKept.run_getObj_map h,hc,MapKept.run_findKey Tryz.underlying3 hf,Result.andThen]
theorem NC(X:Nat){w:tA}{B:Nat}(h:w.heap[B]? =some (dM X)):(Instr.lookup 112 (.map (some B)) (iV 6) false).run Tryz.prog w= .ok (.func (.func 75) #[lp X] #[]) w:=by
 have hc:(Instr.checkKey false 10000 3 (iV 6)).run Tryz.prog w= .ok () w:=MapKept.run_checkKey (k:=iV 6) Tryz.underlying3 (by simp[MapKept.IsKey]) false 9999;unfold dM at h;have hf:Instr.findNow (.int .i64) (iV 6) [(⟨iV 0,.func (.func 72) #[lp X] #[],0⟩:tU),⟨iV 1,.func (.func 73) #[lp X] #[],1⟩,⟨iV 2,.func (.func 72) #[lp X] #[],2⟩,⟨iV 3,.func (.func 72) #[lp X] #[],3⟩,⟨iV 4,.func (.func 72) #[lp X] #[],4⟩,⟨iV 5,.func (.func 74) #[lp X] #[],5⟩,⟨iV 6,.func (.func 75) #[lp X] #[],6⟩,⟨iV 7,.func (.func 72) #[lp X] #[],7⟩] 0=some (some (6,.func (.func 75) #[lp X] #[])):=rfl;simp[Instr.lookup,run_underlying Tryz.underlying112,MapKept.run_getObj_map h,hc,MapKept.run_findKey Tryz.underlying3 hf,Result.andThen]
theorem ND(X:Nat){w:tA}{B:Nat}(h:w.heap[B]? =some (dM X)):(Instr.lookup 112 (.map (some B)) (iV 7) false).run Tryz.prog w= .ok (.func (.func 72) #[lp X] #[]) w:=by
 have hc:(Instr.checkKey false 10000 3 (iV 7)).run Tryz.prog w= .ok () w:=MapKept.run_checkKey (k:=iV 7) Tryz.underlying3 (by simp[MapKept.IsKey]) false 9999;unfold dM at h;have hf:Instr.findNow (.int .i64) (iV 7) [(⟨iV 0,.func (.func 72) #[lp X] #[],0⟩:tU),⟨iV 1,.func (.func 73) #[lp X] #[],1⟩,⟨iV 2,.func (.func 72) #[lp X] #[],2⟩,⟨iV 3,.func (.func 72) #[lp X] #[],3⟩,⟨iV 4,.func (.func 72) #[lp X] #[],4⟩,⟨iV 5,.func (.func 74) #[lp X] #[],5⟩,⟨iV 6,.func (.func 75) #[lp X] #[],6⟩,⟨iV 7,.func (.func 72) #[lp X] #[],7⟩] 0=some (some (7,.func (.func 72) #[lp X] #[])):=rfl;simp[Instr.lookup,run_underlying Tryz.underlying112,MapKept.run_getObj_map h,hc,MapKept.run_findKey Tryz.underlying3 hf,Result.andThen]
theorem Vm{w:tA}{B:Nat}(h:w.heap[B]? =some iS):wu w (.map (some B)):=fun k g hg=>by
 unfold F5 at hg;by_cases h0:k=0
 ·subst h0;simp at hg;subst hg;exact Rs h
 by_cases h2:k=2
 ·subst h2;simp at hg;subst hg;exact Rt h
 by_cases h3:k=3
 ·subst h3;simp at hg;subst hg;exact Ru h
 by_cases h4:k=4
 ·subst h4;simp at hg;subst hg;exact Rw h
 by_cases h7:k=7
 ·subst h7;simp at hg;subst hg;exact Rx h
 simp[h0,h2,h3,h4,h7]at hg
theorem Vn{w:tA}{X B:Nat}(h:w.heap[B]? =some (dM X)):U7 w X (.map (some B)):=fun k g hg=>by
 unfold yP at hg;by_cases h0:k=0
 ·subst h0;simp at hg;subst hg;exact Nu X h
 by_cases h1:k=1
 ·subst h1;simp at hg;subst hg;exact Nw X h
 by_cases h2:k=2
 ·subst h2;simp at hg;subst hg;exact Nx X h
 by_cases h3:k=3
 ·subst h3;simp at hg;subst hg;exact Ny X h
 by_cases h4:k=4
 ·subst h4;simp at hg;subst hg;exact Nz X h
 by_cases h5:k=5
 ·subst h5;simp at hg;subst hg;exact NA X h
 by_cases h6:k=6
 ·subst h6;simp at hg;subst hg;exact NC X h
 by_cases h7:k=7
 ·subst h7;simp at hg;subst hg;exact ND X h
 simp[h0,h1,h2,h3,h4,h5,h6,h7]at hg
section
open Rv
def Ry(m:Nat)(nd:tQ)(tk dd:tJ):Nat→Value:=fun k=>if k<5 then(if k<m then .pointer (some ⟨nd k,0,none⟩)else .pointer none)else kO nd (eD 4) bD [.slice none 0 0,tk,dd,iV 0,.slice none 0 0,.slice none 0 0] k
theorem abm{nd:tQ}{tk dd:tJ}{k b:Nat}(hk:k<5)(i:Nat):nS (Ry k nd tk dd) (0+k*1) (.pointer (some ⟨b,0,none⟩)) i=Ry (k+1) (aj nd k b) tk dd i:=by
 rw[show 0+k*1=k by omega];by_cases hi:i=k
 ·subst hi;rw[B_];unfold Ry;rw[if_pos hk,if_pos (by omega),au]
 ·rw[pz _ _ _ _ hi];unfold Ry;by_cases h5:i<5
  ·rw[if_pos h5,if_pos h5];by_cases h6:i<k
   ·rw[if_pos h6,if_pos (by omega),show aj nd k b i=nd i from if_neg hi]
   ·rw[if_neg h6,if_neg (by omega)]
  ·rw[if_neg h5,if_neg h5];unfold kO;rw[if_neg h5,if_neg h5]
abbrev YK(X:Nat)(k:Int):Nat→Value:=kj [lp X,iV k,.bool true,.slice none 0 0,iV 0] (fU Oi (eD 4) bD (.slice none 0 0) .nilFunc 0) [iV 0,.bool false]
def ZB(i:Nat):Nv:=⟨i,true,none,0,[],0,fun _=>⟨Bt.zero,none,0,zQ⟩,eD 4,bD,.slice none 0 0,[],.nilFunc,none,⟨0,0,0,0,0,none,0,⟨Bt.zero,none,0,zQ⟩⟩,0,0,false⟩
def wA:Nat→Nd:=fun i=>⟨i,true,[],0,fun _=>Bt.zero,eD 4,bD,[],none,0,0,false⟩
def SX:Ws:=⟨eD 4,bD,[],0,[],[]⟩
theorem Vo{w:tA}{B:Nat}{o:Obj}(h:w.heap[B]? =some o):B<w.heap.size:=by
 rcases Nat.lt_or_ge B w.heap.size with h'|h'
 ·exact h'
 ·simp[Array.getElem?_eq_none h']at h
theorem tz{U:tD}{w:tA}{B:Nat}{o:Obj}(h:w.heap[B]? =some o)(hU:¬U B):bR U w fun w=>w.heap[B]? =some o:=fun w2 c2=>(c2.block B (Vo h) hU).trans h
theorem Mem.abn{w:tA}{H:List bQ}{M:tD}{Γ R:tI}{b t n:Nat}{f:tC}(h:Mem w H M Γ R)(hΓ:∀w,Γ w→aZ w b t n f):b∉H.map bQ.a:=fun hm=>by
 have aL:=h.lt hm
 have c:dk (fun b=>b∈H.map bQ.a) w {w with heap:=w.heap.set b (.cells #[] (t+1) (0,0)) aL}:=⟨rfl,rfl,rfl,by simp,fun z hz uz=>by
  have fw:b≠z:=fun e=>uz (e▸hm)
  simp[fw]⟩
 have:=hΓ _ (h.g _ (c.mono fun _ h=> .inl h));unfold aZ at this;simp at this
theorem YL{w:tA}{X B1 B2:Nat}{nd SQ:tQ}(fb:aZ w X 114 19 (Ry 5 SQ (.map (some B2)) (.map (some B1))))(he:∀j,j<5→nd j=SQ j)(h5:nd 5≤X∧nd 5≤B1∧nd 5≤B2∧nd 5≤w.heap.size)(hn:∀j,j<5→aZ w (nd j) 126 206 (YK X j))(h1:w.heap[B1]? =some iS)(h2:w.heap[B2]? =some (dM X))(hX:∀j,j<5→X≠nd j∧nd 5≤nd j)(ho:∀i j,i<j→j<5→nd i≠nd j):CW w X ZB ⟨nd,.map (some B2),.map (some B1),eD 4,bD,[],0,[],[]⟩ (fun b=>b=X):=by
 have kK:∀i b,¬fj (ZB i).wt b:=fun i b hb=>by
  obtain⟨o,n,c,e⟩:=hb;cases e
 have abo:∀{B:Nat} {es:Array MapEntry} {c:Nat},w.heap[B]? =some (.map es c)→¬CU ZB (⟨nd,.map (some B2),.map (some B1),eD 4,bD,[],0,[],[]⟩:Wv) (fun b=>b=X) B:=fun hB hb=>by
  rcases hb with rfl|⟨j,hj,rfl⟩|⟨j,hj,hb⟩
  ·unfold aZ at fb;rw[hB]at fb;cases fb
  ·have:=hn j hj;unfold aZ at this;rw[hB]at this;cases this
  ·exact kK j _ hb
 refine⟨⟨.slice none 0 0,.slice none 0 0,.slice none 0 0,fb.congr fun i hi=> ?_,⟨rfl,.inl ⟨rfl,rfl⟩⟩,⟨rfl,.inl ⟨rfl,rfl⟩⟩,⟨rfl,.inl ⟨rfl,rfl⟩⟩,fun b=>⟨.inl,fun h=>h.elim id fun h=>h.elim (fun h=>by cases h) fun h=>h.elim (fun h=>by cases h) fun h=>by cases h⟩⟩,fun j hj=>hn j hj,fun j hj=>⟨fun _ _=>Bt.cR,fun _=>rfl,Nat.le_refl _,Nat.zero_le _,Nat.zero_le _,Int.le_refl _,Int.le_refl _,hj,trivial⟩,fun i j hi hj e=> ?_,fun j hj e=>(hX j hj).1 (show nd j=X from e).symm,fun j hj=>⟨0,none,0,rfl,Nat.le_refl _,Nat.zero_le _,.inl ⟨rfl,rfl⟩⟩,fun i b _ hb=>absurd hb (kK i b),fun i b j _ _ hb=>absurd hb (kK i b),fun i b j _ _ hb=>absurd hb (kK i b),fun w2 c2=>⟨⟨fun j hj=>⟨RowK.nil _ _ _,fun _ _=>jG.dp rfl,rfl,fun r hr=>by cases hr⟩,fun r hr=>by cases hr⟩,Vn (tz h2 (fun e=>e.elim (abo h2) (Nat.not_lt.2 h5.2.2.1)) w2 c2),Vm (tz h1 (fun e=>e.elim (abo h1) (Nat.not_lt.2 h5.2.1)) w2 c2)⟩,h5.2.2.2,fun b hb=>by
  rcases hb with rfl|⟨j,hj,rfl⟩|⟨j,hj,hb⟩
  ·exact h5.1
  ·exact(hX j hj).2
  ·exact absurd hb (kK j b)⟩
 ·show Ry 5 SQ _ _ i=kO nd _ _ _ i;unfold Ry;by_cases h5:i<5
  ·rw[if_pos h5,if_pos h5,←he i h5];exact(Qq h5).symm
  ·rw[if_neg h5];unfold kO;rw[if_neg h5,if_neg h5]
 ·have e:nd i=nd j:=e;rcases Nat.lt_trichotomy i j with h|h|h
  ·exact absurd e (ho i j h hj)
  ·exact h
  ·exact absurd e.symm (ho j i h hi)
theorem DC(w:tA):cA 29 #[] w fun x w'=>∃X nd tk dd,x= .returned (lp X)∧CW w' X ZB ⟨nd,tk,dd,eD 4,bD,[],0,[],[]⟩ (fun b=>b=X)∧w.heap.size≤X∧nd 5=w.heap.size∧bZ w w':=by
 have o1:aT (fU Oi (eD 4) bD (.slice none 0 0) .nilFunc 0) 199:=uS wW rfl;refine en (H:=[]) 27 [] Tryz.func29 rfl rfl (m0 w) (r [] rfl fun _=>Rv.cb rfl (vg (wQ (eD 4) bD)) (fun w _=>Kf w) (r [] rfl fun _=> ?_));refine cx rfl (fun B:Nat=>vv (.map (some B))) (fun B=>w.heap.size≤B) (fun B w=>w.heap[B]? =some iS) (fun w1 hS=>(I1 w1).mono fun _ _ ⟨e,hd,b⟩=>⟨_,e,b,hS.now.2.size,fun _=>tz hd fun h=>h.elim (fun h=>by cases h) id⟩) fun B1 hB1=> ?_;refine r [] rfl fun α=>gn 0 (Ry 0 (fun _=>0) (.map none) (.map (some B1))) ?_;refine cx rfl (fun B:Nat=>vv (.map (some B))) (fun B=>w.heap.size≤B) (fun B w=>w.heap[B]? =some (dM (α 0))) (fun w3 hS=>(Gk (α 0) w3).mono fun _ _ ⟨e,hd,b⟩=>⟨_,e,b,hS.now.2.size,fun _=>tz hd fun h=>h.elim (fun h=>Nat.ne_of_gt (hS.at 0 rfl).lt (List.mem_singleton.1 h)) id⟩) fun B2 hB2=> ?_;refine r [] rfl fun _=>gn 0 (Ry 0 (fun _=>0) (.map (some B2)) (.map (some B1))) ?_;refine ic (X:=Nat×(Nat→Nat)) ⟨fun x=>[(1,vp 0 0 (α 0)),(12,vi (x.1:Int))],fun x=>[⟨α 0,114,[.f 19 (Ry x.1 x.2 (.map (some B2)) (.map (some B1)))]⟩],fun _ _=>False,fun x w=>((True∧w.heap[B1]? =some iS)∧w.heap[B2]? =some (dM (α 0)))∧∀j,j<x.1→aZ w (x.2 j) 126 206 (YK (α 0) j),fun _ w'=>bZ w w',fun x=>x.1≤5∧(∀j,j<x.1→α 0≠x.2 j∧w.heap.size≤x.2 j)∧(∀i j,i<j→j<x.1→x.2 i≠x.2 j),fun x=>5-x.1⟩ (0,fun _=>0) ⟨rfl,rfl,trivial⟩ (fun w hS=>hS.said fun _ h=>⟨h,fun j hj=>absurd hj (Nat.not_lt_zero j)⟩) ⟨Nat.zero_le _,fun j hj=>absurd hj (Nat.not_lt_zero j),fun i j _ hj=>absurd hj (Nat.not_lt_zero j)⟩ ?_;rintro f ⟨k,nd⟩ ⟨hk,sH,qL⟩;have hk:k≤5:=hk;have sH:∀j,j<k→α 0≠nd j∧w.heap.size≤nd j:=sH;have qL:∀i j,i<j→j<k→nd i≠nd j:=qL;by_cases aL:k<5
 case neg=>
  obtain rfl:k=5:=by omega
  refine r [0] rfl fun _=>fin fun w1 hS=> ?_;have hg:=hS.now.1;exact⟨α 0,aj nd 5 w.heap.size,_,_,rfl,YL (nd:=aj nd 5 w.heap.size) (hS.at 0 rfl) (fun j hj=>bk (by omega)) (by rw[au];exact⟨hS.jq 0 rfl,hB1,hB2,hS.now.2.size⟩) (fun j hj=>by rw[bk (by omega)];exact hg.2 j hj) hg.1.1.2 hg.1.2 (fun j hj=>by rw[bk (by omega),au];exact sH j hj) (fun i j hi hj=>by rw[bk (by omega),bk (by omega)];exact qL i j hi hj),hS.jq 0 rfl,au ..,hS.now.2⟩
 refine r [1,4,1] rfl fun _=>Rv.cb rfl (vf 199 (fU Oi (eD 4) bD (.slice none 0 0) .nilFunc 0)) (fun w _=>s_ w) (r [1] rfl fun β=> ?_);refine tf rfl 0 rfl (Ry (k+1) (aj nd k (β 0)) (.map (some B2)) (.map (some B1))) (show 0+k*1<19 by omega) (fun i=>abm aL i) (gn 1 (YK (α 0) k) ?_ rfl (by kernel_rfl));refine SI fun w9 hS=> ?_;have hN:=hS.jq 1 (e:=⟨β 0,_,_,_⟩) rfl;have hX:α 0≠β 0:=fun e=>absurd (hS.nT 0 1 ⟨α 0,_,_,_⟩ ⟨β 0,_,_,_⟩ rfl rfl e) (by decide);have Wx:∀j,j<k→nd j≠β 0:=fun j hj e=>Mem.abn hS (fun w h=>h.2 j hj) (by show nd j∈_;rw[e];exact List.Mem.tail _ (List.Mem.head _));refine rz [1] [((k+1:Nat):Int)] rfl fun _=>bU (k+1,aj nd k (β 0)) ⟨rfl,rfl,trivial⟩ (fun w hS=>((hS.take 1).add (hS.kept 1 rfl 1 (cF rfl))).said (fun w h=>⟨h.1.1,fun j hj=> ?_⟩)) ⟨aL,fun j hj=> ?_,fun i j h1 h2=> ?_⟩ (show 5-(k+1)<5-k by omega)
 ·by_cases e:j=k
  ·rw[e,show(k+1,aj nd k (β 0)).2 k=β 0 from au ..];exact h.2
  ·rw[show(k+1,aj nd k (β 0)).2 j=nd j from bk e];exact h.1.2 j (by have:j<k+1:=hj;omega)
 ·have hj:j<k+1:=hj;show α 0≠aj nd k (β 0) j∧w.heap.size≤aj nd k (β 0) j;by_cases e:j=k
  ·rw[e,au];exact⟨hX,hN⟩
  ·rw[bk e];exact sH j (by omega)
 ·have h2:j<k+1:=h2;show aj nd k (β 0) i≠aj nd k (β 0) j;rw[bk (show ¬i=k by omega)];by_cases e:j=k
  ·rw[e,au];exact Wx i (by omega)
  ·rw[bk e];exact qL i j h1 (by omega)
theorem NF(X N:Nat)(u:Nv)(v:Wv)(F U:tD)(w:tA)(hw:NW w X N u v F U)(kx:u.ub=true∨(u.ub=false∧u.sk=true)):cA 50 #[lp N] w fun x w'=>x= .returned (.tuple #[])∧∃u' v' F',Dn w X N u v F U ((u.pure,v.pure)) u' v' F' w':=by
 rcases kx with lU|⟨lU,Wh⟩
 ·obtain⟨u1,rfl⟩:∃u1:Nv,u={u1 with ub:=true}:=⟨u,by rw[←lU]⟩;exact en (H:=[nE X N {u1 with ub:=true}]) 55 [vp 0 0 N] Tryz.func50 rfl rfl (hw.init (G:=fun _=>True) fun _ _=>trivial) (r [] rfl fun _=>fin fun w hS=>⟨rfl,_,v,F,Dn.fin hS hw.ub hw.nu (fun _ h=>⟨h.1.1,h.1.2⟩) hw.ok rfl rfl rfl rfl rfl rfl rfl⟩)
 ·obtain⟨u1,rfl⟩:∃u1:Nv,u={u1 with ub:=false,sk:=true}:=⟨u,by rw[←lU,←Wh]⟩;exact en (H:=[nE X N {u1 with ub:=false,sk:=true}]) 55 [vp 0 0 N] Tryz.func50 rfl rfl (hw.init (G:=fun _=>True) fun _ _=>trivial) (r [] rfl fun _=>fin fun w hS=>⟨rfl,_,v,F,Dn.fin hS hw.ub hw.nu (fun _ h=>⟨h.1.1,h.1.2⟩) hw.ok rfl rfl rfl rfl rfl rfl rfl⟩)
theorem Rz(X N:Nat)(u:Nv)(v:Wv)(F U:tD)(w:tA)(hw:NW w X N u v F U)(kp:Int)(lU:u.ub=false):cA 49 #[lp N,iV kp] w fun x w'=>x= .returned (.tuple #[])∧∃u' v' F',Dn w X N u v F U ((u.pure,v.pure)) u' v' F' w':=by
 obtain⟨u1,rfl⟩:∃u1:Nv,u={u1 with ub:=false}:=⟨u,by rw[←lU]⟩;exact en (H:=[nE X N {u1 with ub:=false}]) 36 [vp 0 0 N,vi kp] Tryz.func49 rfl rfl (hw.init (G:=fun _=>True) fun _ _=>trivial) (r [] rfl fun _=>fin fun w hS=>⟨rfl,_,v,F,Dn.fin hS hw.ub hw.nu (fun _ h=>⟨h.1.1,h.1.2⟩) hw.ok rfl rfl rfl rfl rfl rfl rfl⟩)
end
open Classical in
noncomputable def du(n:Nd)(s:Ws):Nd×Ws:=if n.up=true∨n.sk=true then(n,s)else if h:∃x:(Nat→Bt)×List Rec×Nat×List Rec×Nat,WU n x.1 x.2.1 x.2.2.1 x.2.2.2.1 x.2.2.2.2 then iR n s h.choose.1 h.choose.2.2.1 h.choose.2.2.2.1 else(n,s)
def mK(n:Nd)(kp:Int):Nd:=if n.up=true then gS n kp else n
noncomputable def SY(ns:Nat→Nd)(s:Ws)(k:Int)(n q p:Nat)(kp:Int)(e:Ev):(Nat→Nd)×Ws:=
 if k=1 then(aj ns n (cY (ns n) s q).1,(cY (ns n) s q).2)
 else if k=2 then(ns,{fM s (q7 n q s.cs e)with cs:=s.cs+1})
 else if k=3 then(aj ns n (eN (ns n) s).1,(eN (ns n) s).2)
 else if k=4∨k=5∨k=6 then eC ns s k p
 else if k=7 then Ge ns s
 else if k=8 then(aj ns n (mK (ns n) kp),s)
 else if k=9 then(aj ns n (du (ns n) s).1,(du (ns n) s).2)
 else Ra ns s q n
structure Gd(ns:Nat→Nd)(s:Ws):Prop where
 tu:∀i,i<5→(ns i).tu<4
 wt:∀i,i<5→∀l∈(ns i).wt,lT l
 fl:∀l∈s.fl,Q5 l
 dir:dB s.pn s.pe
 st:∀i,i<5→(ns i).up=false→(ns i).sk=false→∃Bs rs kk ps Oq,WU (ns i) Bs rs kk ps Oq
 lf:s.fl.length≤100000000000
 ld:s.td.length≤100000000000
 ls:s.sv.length≤100000000000
 lw:∀i,i<5→(ns i).wt.length≤100000000000
 c0:0≤s.cs
 c1:s.cs≤100000000000
section
variable{w w':tA}{X i:Nat}{us:Nat→Nv}{v v':Wv}{F F':tD}{u':Nv}
theorem CW.ds(h:CW w X us v F)(hi:i<5){r:Nd×Ws}(hd:Ds w X (v.nd i) (us i) v F (CT us v F) r u' v' F' w'):Cd w X us v F (aj (fun i=>(us i).pure) i r.1,r.2) (aj us i u') v' F' w':=by
 have kK:∀b,fj u'.wt b→fj (us i).wt b:=fun b hb=>by
  rcases hd.wq with⟨e,_⟩|⟨e,_⟩
  ·rw[e]at hb;exact hb
  ·rw[e]at hb;obtain⟨o,n,c,e⟩:=hb;cases e
 have aL:∀b,fj (us i).wt b→b<w.heap.size:=fun b hb=>h.lt b (.inr (.inr ⟨i,hi,hb⟩));have m:Mv (fun b=>F b∨b=v.nd i∨fj (us i).wt b) w (fun b=>F' b∨b=v.nd i∨fj u'.wt b) w':=hd.mv.less (fun b hb=>hb.imp id .inl) fun b hb=>by
  rcases hb with hb|hb|hb
  ·exact .inl (.inl hb)
  ·exact .inl (.inr hb)
  ·exact .inr ⟨.inr (.inr (kK b hb)),aL b (kK b hb)⟩
 have hnF:∀b,fj (us i).wt b→¬F' b:=fun b hb hf=>by
  rcases hd.mv.f b (.inl hf)with(e|e)|e
  ·exact h.wf i b hi hb e
  ·exact h.wn i b i hi hi hb e
  ·exact absurd (aL b hb) (Nat.not_lt.2 e)
 have de:∃B,eX w' B u'.wt u'.wl:=by
  rcases hd.wq with⟨e1,e2⟩|⟨e1,e2⟩
  ·obtain⟨B,hr⟩:=h.wr i hi;exact⟨B,by rw[e1,e2];exact hr.still fun hb=>hd.mv.c.block B (hr.lt hb) fun e=>e.elim (h.wf i B hi hb) (h.wn i B i hi hi hb)⟩
  ·exact⟨0,by rw[e1,e2];exact⟨none,0,rfl,Nat.le_refl _,Nat.zero_le _,.inl ⟨rfl,rfl⟩⟩⟩
 have KE:=h.put hi m hd.nw.wo hd.nd hd.tk hd.dd hd.nw.nb hd.nw.ok hd.nw.nf de (fun b hb=>hnF b (kK b hb)) (fun b hb=>h.wn i b i hi hi (kK b hb)) (hd.nw.st.mono fun b _ hb=>by
  rcases hb with hb|hb|hb
  ·exact .inl hb
  ·exact .inr hb
  ·exact .inl (.inl (.inr (.inr ⟨i,hi,kK b hb⟩))))
 refine⟨KE,h.YD hi m hd.nd,hd.nd,hd.tk,hd.dd, ?_,hd.s⟩;rw[nz,hd.n]
theorem RB(h:CW w X us v F)(hi:i<5)(gx:(us i).ub=false→(us i).sk=false→∃Bs rs kk ps Oq,WU (us i).pure Bs rs kk ps Oq)(hlen:v.sv.length≤900000000000):cA 50 #[lp (v.nd i)] w fun x w'=>x= .returned (.tuple #[])∧∃pX v' F',Cd w X us v F (aj (fun i=>(us i).pure) i (du (us i).pure v.pure).1,(du (us i).pure v.pure).2) pX v' F' w':=by
 by_cases kx:(us i).ub=true∨(us i).sk=true
 ·have abp:(us i).ub=true∨((us i).ub=false∧(us i).sk=true):=by
   rcases hb:(us i).ub with _|_
   ·exact .inr ⟨rfl,kx.resolve_left (by rw[hb];simp)⟩
   ·exact .inl rfl
  refine(NF X (v.nd i) (us i) v F _ w (h.nw hi) abp).mono ?_;rintro x w' ⟨rfl,u',v',F',hd⟩;have e:du (us i).pure v.pure=((us i).pure,v.pure):=if_pos kx;rw[e];exact⟨rfl,_,v',F',h.dn hi hd⟩
 ·have lU:(us i).ub=false:=by
   rcases hb:(us i).ub with _|_
   ·rfl
   ·exact absurd (.inl hb) kx
  have Wh:(us i).sk=false:=by
   rcases hb:(us i).sk with _|_
   ·rfl
   ·exact absurd (.inr hb) kx
  obtain⟨Bs,rs,kk,ps,Oq,hs⟩:=gx lU Wh;have hx:∃x:(Nat→Bt)×List Rec×Nat×List Rec×Nat,WU (us i).pure x.1 x.2.1 x.2.2.1 x.2.2.2.1 x.2.2.2.2:=⟨(Bs,rs,kk,ps,Oq),hs⟩;have e:du (us i).pure v.pure=iR (us i).pure v.pure hx.choose.1 hx.choose.2.2.1 hx.choose.2.2.2.1:=by
   unfold du;rw[if_neg kx,dif_pos hx]
  refine(Rl X (v.nd i) (us i) v F _ w (h.nw hi) hx.choose.1 hx.choose.2.1 hx.choose.2.2.1 hx.choose.2.2.2.1 hx.choose.2.2.2.2 lU Wh hx.choose_spec hlen).mono ?_;rintro x w' ⟨rfl,u',v',F',hd⟩;rw[e];exact⟨rfl,_,v',F',h.ds hi hd⟩
theorem NG(h:CW w X us v F)(hi:i<5)(kp:Int)(hk:0≤kp)(XI:kp≤9223372036854775807):cA 49 #[lp (v.nd i),iV kp] w fun x w'=>x= .returned (.tuple #[])∧∃pX v' F',Cd w X us v F (aj (fun i=>(us i).pure) i (mK (us i).pure kp),v.pure) pX v' F' w':=by
 rcases lU:(us i).ub with _|_
 ·refine(Rz X (v.nd i) (us i) v F _ w (h.nw hi) kp lU).mono ?_;rintro x w' ⟨rfl,u',v',F',hd⟩;have e:mK (us i).pure kp=(us i).pure:=if_neg (show ¬(us i).ub=true by rw[lU];simp);rw[e];exact⟨rfl,_,v',F',h.dn hi hd⟩
 ·have e:mK (us i).pure kp=gS (us i).pure kp:=if_pos (show(us i).ub=true from lU);rw[e];exact Q9 h hi lU kp hk XI
theorem Vp(h:CW w X us v F)(hi:i<5)(Om:(us i).tu<4)(ed:∀r∈(us i).wl,lT r.l)(vR:v.fl.length+(us i).wl.length+8≤1000000000000∧v.sv.length+(us i).wl.length≤1000000000000):cA 46 #[lp (v.nd i)] w fun x w'=>x= .returned (.tuple #[])∧∃pX v' F',Cd w X us v F (aj (fun i=>(us i).pure) i (eN (us i).pure v.pure).1,(eN (us i).pure v.pure).2) pX v' F' w':=by
 have hw:=h.nw hi;obtain⟨B,hr,hB⟩:∃B,eX w B (us i).wt (us i).wl∧(fj (us i).wt B∨B=X):=by
  obtain⟨B,hr⟩:=h.wr i hi;by_cases e:fj (us i).wt B
  ·exact⟨B,hr,.inl e⟩
  ·exact⟨X,hr.any e,.inr rfl⟩
 have gx:bR (fun b=>F b∨b=v.nd i) w fun w=>eX w B (us i).wt (us i).wl∧wu w v.dd:=fun w2 c2=>⟨hr.still fun hb=>c2.block B (hr.lt hb) fun e=>e.elim (h.wf i B hi hb) (h.wn i B i hi hi hb),(h.st w2 (c2.mono fun b hb=> .inl (hb.imp id fun e=> .inl ⟨i,hi,e⟩))).2.2⟩;refine(U1 B X (v.nd i) (us i) v F _ w hw Om gx ed (fun l hl=>YB hl) vR).mono ?_;rintro x w' ⟨rfl,u',v',F',hk⟩;have Yu:=hk.wr.now.1;have hold:∀b,fj u'.wt b→fj (us i).wt b:=fun b hb=>by
  obtain rfl:=Yu.blk hb;rcases hB with hB|rfl
  ·exact hB
  ·exfalso;obtain⟨o,n,c,e⟩:=hb;obtain⟨a,c',e',_,_,⟨rfl,_⟩|⟨o',n',f,rfl,fb,_⟩⟩:=Yu.ex
   ·rw[e]at e';cases e'
   ·obtain⟨fl,sv,td,fx,_⟩:=hk.nw.wo.ex;unfold aZ at fb fx;rw[fb]at fx;simp at fx
 have aL:∀b,fj (us i).wt b→b<w.heap.size:=fun b hb=>h.lt b (.inr (.inr ⟨i,hi,hb⟩));have m:Mv (fun b=>F b∨b=v.nd i∨fj (us i).wt b) w (fun b=>F' b∨b=v.nd i∨fj u'.wt b) w':=hk.mv.less (fun b hb=>hb.elim .inl fun e=> .inr (.inl e)) fun b hb=>by
  rcases hb with hb|hb|hb
  ·exact .inl (.inl hb)
  ·exact .inl (.inr hb)
  ·exact .inr ⟨.inr (.inr (hold b hb)),aL b (hold b hb)⟩
 have KE:=h.put hi m hk.nw.wo hk.nd hk.tk hk.dd hk.nw.nb hk.nw.ok hk.nw.nf ⟨B,Yu⟩ (fun b hb hf=>by
  rcases hk.mv.f b (.inl hf)with(e|e)|e
  ·exact h.wf i b hi (hold b hb) e
  ·exact h.wn i b i hi hi (hold b hb) e
  ·exact absurd (aL b (hold b hb)) (Nat.not_lt.2 e)) (fun b hb=>h.wn i b i hi hi (hold b hb)) (hk.nw.st.mono fun b _ hb=>by
  rcases hb with hb|hb|hb
  ·exact .inl hb
  ·exact .inr hb
  ·exact .inl (.inl (.inr (.inr ⟨i,hi,hold b hb⟩))))
 exact⟨rfl,_,v',F',KE,h.YD hi m hk.nd,hk.nd,hk.tk,hk.dd,by rw[nz,hk.n],hk.s⟩
variable{k:Int}{n q p:Nat}{kp:Int}{e:Ev}
abbrev KJ(w:tA)(X:Nat)(us:Nat→Nv)(v:Wv)(F:tD)(k:Int)(n q p:Nat)(kp:Int)(e:Ev)(x:Ending)(w':tA):Prop:=x= .returned (.tuple #[])∧∃pX v' F',Cd w X us v F (SY (fun i=>(us i).pure) v.pure k n q p kp e) pX v' F' w'
theorem do_1(h:CW w X us v F)(hn:n<5)(hq:q<4)(hk:k=1):cA 44 #[lp X,iV (q:Int),lp (v.nd n)] w (KJ w X us v F k n q p kp e):=by
 subst hk;exact Nk h hn q hq
theorem aeG(h:CW w X us v F)(hg:Gd (fun i=>(us i).pure) v.pure)(hk:k=2):cA 45 #[lp X,vF (lF [iV k,iV (n:Int),iV (q:Int),iV (p:Int),iV kp,iV e.k,iV e.p,iV e.i,iV e.b,iV e.he,iV e.hn]) 11] w (KJ w X us v F k n q p kp e):=by
 have h1:v.fl.length≤100000000000:=by have:=hg.lf;simpa using this
 have h2:v.cs≤100000000000:=hg.c1;subst hk;exact U8 h 2 n q p kp e (by omega) (by omega) hg.c0
theorem aeH(h:CW w X us v F)(hg:Gd (fun i=>(us i).pure) v.pure)(hn:n<5)(hk:k=3):cA 46 #[lp (v.nd n)] w (KJ w X us v F k n q p kp e):=by
 have h1:v.fl.length≤100000000000:=by have:=hg.lf;simpa using this
 have h2:v.sv.length≤100000000000:=hg.ls;have h3:(us n).wl.length≤100000000000:=by have:=hg.lw n hn;simpa using this
 subst hk;exact Vp h hn (hg.tu n hn) (fun r hr=>hg.wt n hn r.l (List.mem_map.2 ⟨r,hr,rfl⟩)) ⟨by omega,by omega⟩
theorem I2(h:CW w X us v F)(hg:Gd (fun i=>(us i).pure) v.pure)(hk:k=4∨k=5∨k=6):cA 47 #[lp X,vF (lF [iV k,iV (n:Int),iV (q:Int),iV (p:Int),iV kp,iV e.k,iV e.p,iV e.i,iV e.b,iV e.he,iV e.hn]) 11] w (KJ w X us v F k n q p kp e):=by
 have h1:v.fl.length≤100000000000:=by have:=hg.lf;simpa using this
 have h2:v.td.length≤100000000000:=hg.ld;have e1:SY (fun i=>(us i).pure) v.pure k n q p kp e=eC (fun i=>(us i).pure) v.pure k p:=by
  unfold SY;rw[if_neg (by omega),if_neg (by omega),if_neg (by omega),if_pos hk]
 unfold KJ;rw[e1];exact YF X us v F w h k n q p kp e (fun r hr=>hg.fl r.l (List.mem_map.2 ⟨r,hr,rfl⟩)) (by omega) (fun i hi=>by have:=hg.lw i hi;simp only[List.length_map]at this;omega)
theorem aeI(h:CW w X us v F)(hg:Gd (fun i=>(us i).pure) v.pure)(hk:k=7):cA 48 #[lp X] w (KJ w X us v F k n q p kp e):=by
 have h1:v.fl.length≤100000000000:=by have:=hg.lf;simpa using this
 have h2:v.td.length≤100000000000:=hg.ld;have e1:SY (fun i=>(us i).pure) v.pure k n q p kp e=Ge (fun i=>(us i).pure) v.pure:=by
  unfold SY;rw[if_neg (by omega),if_neg (by omega),if_neg (by omega),if_neg (by omega),if_pos hk]
 unfold KJ;rw[e1];exact YE X us v F w h (fun r hr=>hg.fl r.l (List.mem_map.2 ⟨r,hr,rfl⟩)) (by omega) (fun i hi=>by have:=hg.lw i hi;simp only[List.length_map]at this;omega)
theorem aeJ(h:CW w X us v F)(hn:n<5)(SS:0≤kp∧kp≤9223372036854775807)(hk:k=8):cA 49 #[lp (v.nd n),iV kp] w (KJ w X us v F k n q p kp e):=by
 subst hk;exact NG h hn kp SS.1 SS.2
theorem aeK(h:CW w X us v F)(hg:Gd (fun i=>(us i).pure) v.pure)(hn:n<5)(hk:k=9):cA 50 #[lp (v.nd n)] w (KJ w X us v F k n q p kp e):=by
 subst hk;exact RB h hn (hg.st n hn) (by have:=hg.ls;simp only at this;omega)
theorem abq(h:CW w X us v F)(hg:Gd (fun i=>(us i).pure) v.pure)(hq:q<4)(hk:k=10):cA 51 #[lp X,iV (q:Int),iV (n:Int)] w (KJ w X us v F k n q p kp e):=by
 subst hk;exact Vh h q hq n hg.dir
end
section
open Rv
namespace Rv
section
variable{m:Nat}{ops:tL}{f:Nat→AV}{fn:Func}{Rr:Ending→World→Prop}{H:List En}{ks:List Fr}{t:Ord}{i d:Nat}{md:Md}
theorem cd{w:tA}{X:Nat}{us:Nat→Nv}{v:Wv}{F:tD}{k:Int}{n q p:Nat}{kp:Int}{e:Ev}{g:Nat}{al:List AV}(hc:OS m ops f i=some (d,g,al))(hd:∀w1,CW w1 X us v F→cA g (al.map AV.val).toArray w1 (KJ w1 X us v F k n q p kp e))(hn:G Tryz.prog fn Rr m (fun _=>False) (fun _=>True) (KJ w X us v F k n q p kp e (.returned (.tuple #[]))) (.g md ops t::ks) (ua f d (vt [])) [])(hm:(md.cb||md.vs.contains i)=false:=by rfl)(he:iy Tryz.prog g=true:=by kernel_rfl):G Tryz.prog fn Rr m (CU us v F) (fun _=>True) (CR X us v F w us v F) (.g md ops (.ef i t)::ks) f H:=
 ct (Y:=Unit) hc (vt []) (fun _=>KJ w X us v F k n q p kp e (.returned (.tuple #[]))) (fun _ hS=>(hd _ hS.now.2.toCW).mono fun _ _ ⟨h0,GZ,v2,F2,h⟩=>⟨h0,(),rfl,GZ,v2,F2,h.cw,hS.now.2.mv.trans h.mv,h.nd,h.tk,h.dd,h.n,h.s⟩) (fun _ _ _ ⟨h0,GZ,v2,F2,h⟩ b=>⟨h0,GZ,v2,F2,h.next b⟩) (fun _=>hn) hm he
end
end Rv
theorem abr(X:Nat)(us:Nat→Nv)(v:Wv)(F:tD)(w:tA)(h:CW w X us v F)(hg:Gd (fun i=>(us i).pure) v.pure)(k:Int)(n q p:Nat)(kp:Int)(e:Ev)(hk:1≤k∧k≤10)(hn:n<5)(hq:q<4)(SS:0≤kp∧kp≤9223372036854775807):cA 30 #[lp X,vF (lF [iV k,iV (n:Int),iV (q:Int),iV (p:Int),iV kp,iV e.k,iV e.p,iV e.i,iV e.b,iV e.he,iV e.hn]) 11] w (KJ w X us v F k n q p kp e):=by
 have j4:k=1∨k=2∨k=3∨k=4∨k=5∨k=6∨k=7∨k=8∨k=9∨k=10:=by omega
 have hS:Mem w [] (CU us v F) (fun _=>True) (CR X us v F w us v F):=Mem.start h.lt (fun _ _=>trivial) (fun w2 b=>⟨h.next b,Mv.of h.lt b⟩);refine en (H:=[]) 75 [vv (lp X),vg [.o (iV k),.o (iV (n:Int)),.o (iV (q:Int)),.o (iV (p:Int)),.o (iV kp),.o (iV e.k),.o (iV e.p),.o (iV e.i),.o (iV e.b),.o (iV e.he),.o (iV e.hn)]] Tryz.func30 rfl rfl hS (r [] rfl fun α=> ?_);have nl:∀{H:List bQ} {w1:tA},Mem w1 H (CU us v F) (fun _=>True) (CR X us v F w us v F)→w1.cell? ⟨X,0+0+n*1,none⟩=some (lp (v.nd n)):=fun hS=>by rw[show 0+0+n*1=n by omega];exact hS.now.2.toCW.wo.nd_ hn
 rcases j4 with h1|h1|h1|h1|h1|h1|h1|h1|h1|h1
 ·exact r [1,1] rfl fun _=>l1 (q:=0+0+n*1) rfl (lp (v.nd n)) (fun _ hS=>nl hS) (r [] rfl fun _=>cd rfl (fun _ h=>do_1 h hn hq h1) (r [] rfl fun _=>c_ rfl fun _ hS=>hS.now.2))
 ·exact r [0,1] rfl fun _=>cd rfl (fun _ h=>aeG h hg h1) (r [] rfl fun _=>c_ rfl fun _ hS=>hS.now.2)
 ·exact r [0,0,1,1] rfl fun _=>l1 (q:=0+0+n*1) rfl (lp (v.nd n)) (fun _ hS=>nl hS) (r [] rfl fun _=>cd rfl (fun _ h=>aeH h hg hn h1) (r [] rfl fun _=>c_ rfl fun _ hS=>hS.now.2))
 ·exact r [0,0,0,1] rfl fun _=>cd rfl (fun _ h=>I2 h hg (by omega)) (r [] rfl fun _=>c_ rfl fun _ hS=>hS.now.2)
 ·exact r [0,0,0,0,1] rfl fun _=>cd rfl (fun _ h=>I2 h hg (by omega)) (r [] rfl fun _=>c_ rfl fun _ hS=>hS.now.2)
 ·exact r [0,0,0,0,0,1] rfl fun _=>cd rfl (fun _ h=>I2 h hg (by omega)) (r [] rfl fun _=>c_ rfl fun _ hS=>hS.now.2)
 ·exact r [0,0,0,0,0,0,1] rfl fun _=>cd rfl (fun _ h=>aeI h hg h1) (r [] rfl fun _=>c_ rfl fun _ hS=>hS.now.2)
 ·exact r [0,0,0,0,0,0,0,1,1] rfl fun _=>l1 (q:=0+0+n*1) rfl (lp (v.nd n)) (fun _ hS=>nl hS) (r [] rfl fun _=>cd rfl (fun _ h=>aeJ h hn SS h1) (r [] rfl fun _=>c_ rfl fun _ hS=>hS.now.2))
 ·exact r [0,0,0,0,0,0,0,0,1,1] rfl fun _=>l1 (q:=0+0+n*1) rfl (lp (v.nd n)) (fun _ hS=>nl hS) (r [] rfl fun _=>cd rfl (fun _ h=>aeK h hg hn h1) (r [] rfl fun _=>c_ rfl fun _ hS=>hS.now.2))
 ·exact r [0,0,0,0,0,0,0,0,0,1] rfl fun _=>cd rfl (fun _ h=>abq h hg hq h1) (r [] rfl fun _=>c_ rfl fun _ hS=>hS.now.2)
end
structure WW(n:Nd)(Bs:Nat→Bt)(rs:List Rec)(kk:Nat):Prop where
 rd:bz n.dl=(rs.map bj,kk)
 wf:∀x∈aB rs,(Lit.int .i64 x).wf=true
 rl:rs.length≤100000
 ZA:(ki (ko fL) 0 rs).1=some (ko Bs)
open Classical in
noncomputable def Aj(n:Nd):Nat→Bt:=if n.up=true then n.mo else if h:∃x:(Nat→Bt)×List Rec×Nat,WW n x.1 x.2.1 x.2.2 then h.choose.1 else fun _=>Bt.zero
def WX(w:tA)(a:tB)(L:List Tl):Prop:=∀k y,L[k]? =some y→∃g,a=some ⟨g,0,none⟩∧∀j,j<7→w.cell? ⟨g,k*7+j,none⟩=some (lF (MQ y) j)
theorem YM(y:Tl){j:Nat}(hj:j<7):(MQ y)[j]? =some (lF (MQ y) j):=by
 match j,hj with
 |0,_=>rfl
 |1,_=>rfl
 |2,_=>rfl
 |3,_=>rfl
 |4,_=>rfl
 |5,_=>rfl
 |6,_=>rfl
theorem RC{w:tA}{T:Nat}{lv:tJ}{L:List Tl}(h:w.ownsRow 0 T 7 lv L.length (L.flatMap MQ)):∃a c,lv= .slice a L.length c∧WX w a L:=by
 obtain⟨_,⟨e,h0⟩|⟨g,c,cur,e,_,hb,_,_,_,IM⟩⟩:=h
 ·exact⟨none,0,by rw[e,h0],fun k y hk=>by rw[List.length_eq_zero_iff.1 h0]at hk;simp at hk⟩
 ·refine⟨_,c,e,fun k y hk=>⟨g,rfl,fun j hj=> ?_⟩⟩;have h1:=Dv (f:=MQ) (m:=7) (fun _=>rfl) L k y j hk hj;rw[YM y hj,←IM,List.getElem?_take]at h1;split at h1
  ·simp only[World.cell?,hb];rw[←Array.getElem?_toList];simpa using h1
  ·cases h1
structure Oc where
 fl:Nat
 up:Nat→Bool
 pn:Nat→Int
 pe:Nat→Int
 bs:Nat→Nat→Bt
 sv:List GX
 td:List Tl
 cs:Int
structure jC where
 R:Nat
 c:Nat
 F:Nat→Value
 Y:Nat→Nat
 C:Nat→Nat
 A:Nat→Nat→Option Addr
 K:Nat→Nat→Nat
 sa:Option Addr
 sc:Nat
 ta:Option Addr
 tc:Nat
def ocV(o:Oc)(t:jC):Value:=vF (Ac (iV (o.fl:Int)) (wm o.up 5) o.pn o.pe (.slice (some ⟨t.R,0,none⟩) 5 t.c) (.slice t.sa o.sv.length t.sc) (.slice t.ta o.td.length t.tc) (iV o.cs)) 18
structure kC(w:tA)(o:Oc)(t:jC):Prop where
 c5:5≤t.c
 f:∀q,q<5→t.F q= .slice (some ⟨t.Y q,0,none⟩) 4 (t.C q)∧4≤t.C q
 r:aZ w t.R 50 (t.c*1) t.F
 b:∀q,q<5→kP w (t.Y q) 4 (o.bs q) (t.A q) (t.K q)
 s:yQ w t.sa o.sv
 t:WX w t.ta o.td
noncomputable def ocS(ns:Nat→Nd)(s:Ws):Oc:=⟨s.fl.length,fun i=>(ns i).up,s.pn,s.pe,fun i=>Aj (ns i),s.sv,s.td,s.cs⟩
section
variable{w w':tA}{X i:Nat}{us:Nat→Nv}{v v':Wv}{F F' U:tD}
theorem NH(h:CW w X us v F)(hi:i<5)(gx:bR (fun b=>CU us v F b∨U b) w fun w=>∀i,i<5→(us i).In w (v.nd i))(hUn:¬U (v.nd i))(hdn:(us i).ub=false→∃Bs rs kk,WW (us i).pure Bs rs kk)(U':tD)(w1:tA)(hU1:∀b,U' b→b<w1.heap.size)(hU2:∀b,b<w.heap.size→U' b→U b)(hb:bZ w w1):cA 52 #[lp (v.nd i)] w1 fun x w'=>∃Y c A K,x= .returned (.slice (some ⟨Y,0,none⟩) 4 c)∧4≤c∧bR U' w' (fun w=>kP w Y 4 (Aj (us i).pure) A K)∧bZ w1 w':=by
 have Bp:=(h.next hb).nb i hi;have hNl:=(h.nb i hi).lt;have D8:¬U' (v.nd i):=fun e=>hUn (hU2 _ hNl e);have GS:bR (fun b=>b=v.nd i∨U' b) w1 fun w=>(us i).In w (v.nd i):=fun w2 c2=>gx w2 ((dk.of hb).trans c2 fun b hl e=>e.elim (fun e=> .inl (.inr (.inl ⟨i,hi,e⟩))) fun e=> .inr (hU2 b hl e)) i hi;have ok:=h.ok i hi;rcases lU:(us i).ub with _|_
 ·have hx:∃x:(Nat→Bt)×List Rec×Nat,WW (us i).pure x.1 x.2.1 x.2.2:=by
   obtain⟨Bs,rs,kk,ht⟩:=hdn lU;exact⟨(Bs,rs,kk),ht⟩
  have e:Aj (us i).pure=hx.choose.1:=by
   unfold Aj;rw[if_neg (show ¬(us i).ub=true by rw[lU];simp),dif_pos hx]
  have ht:=hx.choose_spec;refine(BM X (v.nd i) (us i) lU ok hx.choose.1 hx.choose.2.1 hx.choose.2.2 w1 Bp U' hU1 D8 (fun w2 c2=>(GS w2 c2).row) ht.rd ht.wf ht.rl ht.ZA).mono ?_;rintro x w' ⟨Y,c,A,K,rfl,hc,hs,b⟩;rw[e];exact⟨Y,c,A,K,rfl,hc,hs.mono fun _ _ h=> .inr h,b⟩
 ·have e:Aj (us i).pure=fun q=>((us i).m q).B:=by
   unfold Aj;rw[if_pos (show(us i).ub=true from lU)]
  unfold NB lh at Bp;rw[lU]at Bp;refine(MM X (v.nd i) (us i).i (us i).da (us i).dl.length (us i).dc (us i).sy (fun p=>iO ((us i).m p)) (us i).hn (us i).he (us i).wt (us i).af (us i).tu (us i).ct (us i).sk (fun q=>((us i).m q).B) (fun q=>((us i).m q).a) (fun q=>((us i).m q).c) (fun q=>((us i).m q).g) (fun q hq=>rfl) (fun q hq=>dY (GS.now.mo q hq).one) (fun q hq=>by have:=(ok.ok q hq).len;omega) w1 Bp U' hU1 D8 (fun w2 c2 q hq=>((GS w2 c2).mo q hq).b)).mono ?_;rintro x w' ⟨Y,c,A,K,rfl,hc,hs,b⟩;rw[e];exact⟨Y,c,A,K,rfl,hc,hs.mono fun _ _ h=> .inr h,b⟩
theorem I3(h:CW w X us v F)(hU:∀b,U b→b<w.heap.size)(gx:bR (fun b=>CU us v F b∨U b) w fun w=>∀i,i<5→(us i).In w (v.nd i))(hUc:∀b,U b→¬CU us v F b)(hdn:∀i,i<5→(us i).ub=false→∃Bs rs kk,WW (us i).pure Bs rs kk):cA 31 #[lp X] w fun x w'=>∃t,x= .returned (ocV (ocS (fun i=>(us i).pure) v.pure) t)∧bR U w' (fun w=>kC w (ocS (fun i=>(us i).pure) v.pure) t)∧bZ w w':=by
 obtain⟨fl,sv,td,fb,o1,o2,o3,hF⟩:=h.wo.ex;obtain⟨fa,fc,rfl,_⟩:=IU o1;obtain⟨sa,sc,rfl,_⟩:=Dx o2;obtain⟨ta,tc,rfl,_⟩:=RC o3;have hUn:∀i,i<5→¬U (v.nd i):=fun i hi e=>hUc _ e (.inr (.inl ⟨i,hi,rfl⟩));have YG:F X:=(hF X).2 (.inl rfl);have hX:bR U w fun w=>(aZ w X 114 19 (kO v.nd v.pn v.pe [.slice fa v.fl.length fc,v.tk,v.dd,iV v.cs,.slice sa v.sv.length sc,.slice ta v.td.length tc])∧∀q,q<5→w.cell? ⟨v.nd q,2,none⟩=some (.bool ((us q).ub))):=fun w2 c2=>by
  refine⟨?_,fun q hq=> ?_⟩
  ·unfold aZ;rw[c2.block X (h.wo.lt X YG) fun e=>hUc _ e (.inl YG)];exact fb
  ·rw[c2.cell (h.nb q hq).lt (hUn q hq)];exact(h.nb q hq).at 2 (cF rfl)
 refine(FP X v.nd v.pn v.pe fa v.fl.length fc v.tk v.dd v.cs sa v.sv.length sc ta v.td.length tc (fun q=>(us q).ub) (fun i=>Aj (us i).pure) w U hU hX (fun k hk U' w1 h1 h2 h3=>NH h hk gx (hUn k hk) (hdn k hk) U' w1 h1 h2 h3)).mono ?_;rintro x w' ⟨R,c,G,Y,C,A,K,rfl,hc,hG,hs,b⟩;refine⟨⟨R,c,G,Y,C,A,K,sa,sc,ta,tc⟩, ?_,fun w2 c2=> ?_,b⟩
 ·show _=Ending.returned (vF (Ac (iV ((v.fl.map Lr.l).length:Int)) _ _ _ _ _ _ _) 18);rw[List.length_map];rfl
 ·have h2:=hs w2 c2;have c3:dk U w w2:=(dk.of b).trans c2 fun _ _ h=>h;have p2:=aG o2 (w':=w2) fun g hg hl=>c3.block g hl fun e=>hUc _ e (.inl ((hF g).2 (.inr (.inr (.inl hg)))));have p3:=aG o3 (w':=w2) fun g hg hl=>c3.block g hl fun e=>hUc _ e (.inl ((hF g).2 (.inr (.inr (.inr hg)))));obtain⟨a2,d2,e2,r2⟩:=Dx p2;obtain⟨a3,d3,e3,r3⟩:=RC p3;cases e2;cases e3;exact⟨hc,hG,h2.2,h2.1.2,r2,r3⟩
end
namespace Lq
theorem DD{P:tD}(h0:P 0)(h1:P 1)(h2:P 2)(h3:P 3)(h4:P 4)(h5:P 5)(h6:P 6)(h7:P 7)(h8:P 8)(h9:P 9)(vW:P 10):∀i,i<11→P i
 |0,_=>h0
 |1,_=>h1
 |2,_=>h2
 |3,_=>h3
 |4,_=>h4
 |5,_=>h5
 |6,_=>h6
 |7,_=>h7
 |8,_=>h8
 |9,_=>h9
 |10,_=>vW
 |n+11,h=>absurd h (by omega)
abbrev RD(f:tG):Array Value:= #[iV (f 0),iV (f 1),iV (f 2),iV (f 3),iV (f 4),iV (f 5),iV (f 6),iV (f 7),iV (f 8),iV (f 9),iV (f 10)]
abbrev Ak(f:tG):Value:= .agg (RD f)
def NJ(f:tG)(o:Nat)(x:Int):Nat→Int:=fun i=>if i=o then x else f i
def gU(w:tA)(R:Nat)(f:tG):Prop:=w.heap[R]? =some (.cells (RD f) 57 (0,0))
section
variable{w w':tA}{R:Nat}{f:tG}
theorem gU.cell(h:gU w R f):∀i,i<11→w.cell? ⟨R,i,none⟩=some (iV (f i)):=by
 unfold gU at h;refine DD ?_ ?_ ?_ ?_ ?_ ?_ ?_ ?_ ?_ ?_ ?_<;>simp[World.cell?,h]
theorem gU.lt(h:gU w R f):R<w.heap.size:=cj h
theorem gU.below{N:Nat}(h:gU w R f)(hb:Below N w w')(hR:R<N):gU w' R f:=by
 unfold gU at h⊢;rw[←h];exact hb.block R hR
theorem gU.next(h:gU w R f)(hb:bZ w w'):gU w' R f:=h.below hb h.lt
end
def gq(k o:Int):List Nat:=
 if k=1∨k=10 then[2,1]else if k=3∨k=9 then[1]else if k=8 then[1,4]else if k=4∨k=5∨k=6 then[3]
 else if k=2 then(if o=1 then[1,2,6,7,8]else if o=3 then[1,2,9,10]else[1,2])else[]
theorem rY(k o:Int):gq k o=[2,1]∨gq k o=[1]∨gq k o=[1,4]∨gq k o=[3]∨gq k o=[1,2,6,7,8]∨gq k o=[1,2,9,10]∨gq k o=[1,2]∨gq k o=[]:=by
 unfold gq
 repeat' split
 all_goals simp
theorem Vq(k o:Int):∀x∈gq k o,x<11:=by
 rcases rY k o with h|h|h|h|h|h|h|h<;>rw[h]<;>simp
theorem I4(k o:Int):(gq k o).Nodup:=by
 rcases rY k o with h|h|h|h|h|h|h|h<;>rw[h]<;>simp
theorem RE(k o:Int):(gq k o).length≤5:=by
 rcases rY k o with h|h|h|h|h|h|h|h<;>rw[h]<;>simp
theorem I5{k o o':Int}(h:¬k=2):gq k o=gq k o':=by
 unfold gq;simp[h]
def gl(k o:Int):Nat:=
 if k=1 then 0 else if k=10 then 1 else if k=3 then 2 else if k=9 then 3 else if k=8 then 4 else if k=4 then 5 else if k=5 then 6 else if k=6 then 7 else if k=7 then 8
 else if k=2 then(if o=1 then 9 else if o=2 then 10 else if o=3 then 11 else 12)else 12
def iC:Nat→ByteArray
 |0=>⟨#[109,97,107,101]⟩
 |1=>⟨#[109,111,118,101]⟩
 |2=>⟨#[115,116,101,112]⟩
 |3=>⟨#[115,116,97,114,116]⟩
 |4=>⟨#[99,114,97,115,104]⟩
 |5=>⟨#[99,97,114,114,121]⟩
 |6=>⟨#[108,111,115,101]⟩
 |7=>⟨#[100,111,117,98,108,101]⟩
 |8=>⟨#[97,108,108]⟩
 |9=>⟨#[112,117,98,108,105,115,104]⟩
 |10=>⟨#[114,101,99,101,105,118,101]⟩
 |11=>⟨#[97,99,107]⟩
 |_=>⟨#[]⟩
def iq:Nat→Int
 |0=>1
 |1=>10
 |2=>3
 |3=>9
 |4=>8
 |5=>4
 |6=>5
 |7=>6
 |8=>7
 |9=>2
 |10=>2
 |11=>2
 |_=>0
def rZ:Nat→Int
 |9=>1
 |10=>2
 |11=>3
 |_=>0
theorem wZ{P:tD}(h0:P 0)(h1:P 1)(h2:P 2)(h3:P 3)(h4:P 4)(h5:P 5)(h6:P 6)(h7:P 7)(h8:P 8)(h9:P 9)(vW:P 10)(NK:P 11):∀i,i<12→P i
 |11,_=>NK
 |i,h=>by
  by_cases e:i=11
  ·subst e;exact NK
  ·exact DD h0 h1 h2 h3 h4 h5 h6 h7 h8 h9 vW i (by omega)
theorem u_(k o:Int):(k=1∧gl k o=0)∨(k=10∧gl k o=1)∨(k=3∧gl k o=2)∨(k=9∧gl k o=3)∨(k=8∧gl k o=4)∨(k=4∧gl k o=5)∨(k=5∧gl k o=6)∨(k=6∧gl k o=7)∨(k=7∧gl k o=8)∨(k=2∧o=1∧gl k o=9)∨(k=2∧o=2∧gl k o=10)∨(k=2∧o=3∧gl k o=11)∨(gl k o=12∧¬k=1∧¬k=10∧¬k=3∧¬k=9∧¬k=8∧¬k=4∧¬k=5∧¬k=6∧¬k=7∧¬(k=2∧o=1)∧¬(k=2∧o=2)∧¬(k=2∧o=3)):=by
 by_cases h0:k=1
 ·refine .inl ⟨h0, ?_⟩;unfold gl;rw[if_pos h0]
 by_cases h1:k=10
 ·refine .inr (.inl ⟨h1, ?_⟩);unfold gl;rw[if_neg h0,if_pos h1]
 by_cases h2:k=3
 ·refine .inr (.inr (.inl ⟨h2, ?_⟩));unfold gl;rw[if_neg h0,if_neg h1,if_pos h2]
 by_cases h3:k=9
 ·refine .inr (.inr (.inr (.inl ⟨h3, ?_⟩)));unfold gl;rw[if_neg h0,if_neg h1,if_neg h2,if_pos h3]
 by_cases h4:k=8
 ·refine .inr (.inr (.inr (.inr (.inl ⟨h4, ?_⟩))));unfold gl;rw[if_neg h0,if_neg h1,if_neg h2,if_neg h3,if_pos h4]
 by_cases h5:k=4
 ·refine .inr (.inr (.inr (.inr (.inr (.inl ⟨h5, ?_⟩)))));unfold gl;rw[if_neg h0,if_neg h1,if_neg h2,if_neg h3,if_neg h4,if_pos h5]
 by_cases h6:k=5
 ·refine .inr (.inr (.inr (.inr (.inr (.inr (.inl ⟨h6, ?_⟩))))));unfold gl;rw[if_neg h0,if_neg h1,if_neg h2,if_neg h3,if_neg h4,if_neg h5,if_pos h6]
 by_cases h7:k=6
 ·refine .inr (.inr (.inr (.inr (.inr (.inr (.inr (.inl ⟨h7, ?_⟩)))))));unfold gl;rw[if_neg h0,if_neg h1,if_neg h2,if_neg h3,if_neg h4,if_neg h5,if_neg h6,if_pos h7]
 by_cases h8:k=7
 ·refine .inr (.inr (.inr (.inr (.inr (.inr (.inr (.inr (.inl ⟨h8, ?_⟩))))))));unfold gl;rw[if_neg h0,if_neg h1,if_neg h2,if_neg h3,if_neg h4,if_neg h5,if_neg h6,if_neg h7,if_pos h8]
 by_cases h9:k=2∧o=1
 ·refine .inr (.inr (.inr (.inr (.inr (.inr (.inr (.inr (.inr (.inl ⟨h9.1,h9.2, ?_⟩)))))))));unfold gl;rw[if_neg h0,if_neg h1,if_neg h2,if_neg h3,if_neg h4,if_neg h5,if_neg h6,if_neg h7,if_neg h8,if_pos h9.1,if_pos h9.2]
 by_cases vW:k=2∧o=2
 ·refine .inr (.inr (.inr (.inr (.inr (.inr (.inr (.inr (.inr (.inr (.inl ⟨vW.1,vW.2, ?_⟩))))))))));unfold gl;rw[if_neg h0,if_neg h1,if_neg h2,if_neg h3,if_neg h4,if_neg h5,if_neg h6,if_neg h7,if_neg h8,if_pos vW.1,if_neg (fun e=>h9 ⟨vW.1,e⟩),if_pos vW.2]
 by_cases NK:k=2∧o=3
 ·refine .inr (.inr (.inr (.inr (.inr (.inr (.inr (.inr (.inr (.inr (.inr (.inl ⟨NK.1,NK.2, ?_⟩)))))))))));unfold gl;rw[if_neg h0,if_neg h1,if_neg h2,if_neg h3,if_neg h4,if_neg h5,if_neg h6,if_neg h7,if_neg h8,if_pos NK.1,if_neg (fun e=>h9 ⟨NK.1,e⟩),if_neg (fun e=>vW ⟨NK.1,e⟩),if_pos NK.2]
 refine .inr (.inr (.inr (.inr (.inr (.inr (.inr (.inr (.inr (.inr (.inr (.inr ⟨?_,h0,h1,h2,h3,h4,h5,h6,h7,h8,h9,vW,NK⟩)))))))))));unfold gl;rw[if_neg h0,if_neg h1,if_neg h2,if_neg h3,if_neg h4,if_neg h5,if_neg h6,if_neg h7,if_neg h8];by_cases hk:k=2
 ·rw[if_pos hk,if_neg (fun e=>h9 ⟨hk,e⟩),if_neg (fun e=>vW ⟨hk,e⟩),if_neg (fun e=>NK ⟨hk,e⟩)]
 ·rw[if_neg hk]
def t_(i:Nat)(k o:Int):Bool:=iq i==k&&(rZ i==o||iq i !=2)
theorem I6(k o:Int):∀i,i<12→(∀j,j<i→t_ j k o=false)→t_ i k o=true→gl k o=i:=by
 intro i hi hj hf;clear hj;revert hf;revert i;refine wZ ?_ ?_ ?_ ?_ ?_ ?_ ?_ ?_ ?_ ?_ ?_ ?_<;>
 ·intro hf;simp only[t_,iq,rZ,Bool.and_eq_true,beq_iff_eq,Bool.or_eq_true,bne_iff_ne,ne_eq]at hf;have:=u_ k o
  first
   |omega
   |(simp at hf;omega)
theorem NL(k o:Int)(h:∀j,j<12→t_ j k o=false):gl k o=12:=by
 have g:∀j,j<12→¬(iq j=k∧(rZ j=o∨¬iq j=2)):=fun j hj e=>by
  have:=h j hj;unfold t_ at this;obtain⟨e1,e2⟩:=e;rcases e2 with e2|e2<;>simp[e1,e2]at this
  exact e2 (e1.trans this.2)
 have h0:=g 0 (by omega);have h1:=g 1 (by omega);have h2:=g 2 (by omega);have h3:=g 3 (by omega);have h4:=g 4 (by omega);have h5:=g 5 (by omega);have h6:=g 6 (by omega);have h7:=g 7 (by omega);have h8:=g 8 (by omega);have h9:=g 9 (by omega);have vW:=g 10 (by omega);have NK:=g 11 (by omega);simp only[iq,rZ]at h0 h1 h2 h3 h4 h5 h6 h7 h8 h9 vW NK;rcases u_ k o with h|h|h|h|h|h|h|h|h|h|h|h|h
 all_goals first
  |exact h.1
  |(exfalso;omega)
theorem Vr(k o:Int)(h:gl k o<12):iq (gl k o)=k∧(k=2→rZ (gl k o)=o)∧(¬k=2→rZ (gl k o)=0):=by
 rcases u_ k o with g|g|g|g|g|g|g|g|g|g|g|g|g
 all_goals first
  |(obtain⟨rfl,g⟩:=g;rw[g];exact⟨rfl,fun e=>absurd e (by decide),fun _=>rfl⟩)
  |(obtain⟨rfl,rfl,g⟩:=g;rw[g];exact⟨rfl,fun _=>rfl,fun e=>absurd rfl e⟩)
  |omega
def jd(i:Nat):Nat→Int:=fun j=>if j=0 then iq i else if j=5 then rZ i else 0
def over(os:tR)(g f:tG):Nat→Int:=fun i=>if i∈os then f i else g i
def less(os:tR)(f:tG):Nat→Int:=fun i=>if i∈os then 0 else f i
abbrev ptr(B o:Nat):Value:= .pointer (some ⟨B,o,none⟩)
def rh(n m:Int):Bool:=decide (0≤n∧n≤m)
theorem Gl(n m:Int)(w:tA):cA 108 #[iV n,iV m] w fun e w'=>e= .returned (.bool (rh n m))∧w'=w:=by
 by_cases h:0≤n
 ·by_cases h1:n≤m
  ·rw[show rh n m=true from decide_eq_true ⟨h,h1⟩];go_enter Tryz.func108,Tryz.ntmps108;go_wp2;go_ret;exact⟨rfl,rfl⟩
  ·rw[show rh n m=false from decide_eq_false fun g=>h1 g.2];go_enter Tryz.func108,Tryz.ntmps108;go_wp2;go_ret;exact⟨rfl,rfl⟩
 ·rw[show rh n m=false from decide_eq_false fun g=>h g.1];go_enter Tryz.func108,Tryz.ntmps108;go_wp2;go_ret;exact⟨rfl,rfl⟩
abbrev wB(w:tA)(base:Nat)(v:tJ)(B:Nat)(os:tR):Prop:=w.ownsRow base 195 1 v os.length (os.map (ptr B))
end Lq
namespace Lq
open Rv
theorem RF:jk Tryz.prog 192 195 1 8=true:=by kernel_rfl
theorem RG{w:tA}{B:Nat}{f:tG}(hb:gU w B f):Mem w (hs []) (fun _=>False) (fun w=>gU w B f) (fun w'=>bZ w w'):=Mem.start (fun _ h=>h.elim) (fun w' c=>hb.next (c.below (Nat.le_refl _) fun _ _ h=>h)) fun _ h=>h
theorem Al{w w0:tA}{H:List En}{M:tD}{Φ:tI}{B a:Nat}{v:tJ}{en:En}(os:tR)(k:Nat)(hS:Mem w (hs H) M Φ fun w'=>bZ w0 w')(he:nth H k=some en:=by rfl)(ht:en.t=195:=by rfl)(hs:fX en.l=os.length:=by rfl)(hl:bW (cK en.l) 0 os.length=os.map (ptr B):=by rfl)(hm:os.length≤maxLen:=by exact cF rfl)(hv:v= .slice (some ⟨a,0,none⟩) os.length os.length:=by rfl)(ha:en.a=a:=by rfl):wB w w0.heap.size v B os:=by
 subst hv ha;have fb:=rF hS k he;have V9:=he;rw[fF]at V9;have hb:=hS.jq k (e:=en.ib) (by rw[List.getElem?_map,V9];rfl);rw[hs,ht,←Nat.mul_one os.length]at fb;have:=JI fb hb (Nat.le_refl _) hm;rw[Nat.mul_one,hl]at this;exact this
def I7(n:Nat):Option (Nat×Nat)→Value
 |none=> .slice none 0 0
 |some (g,c)=> .slice (some ⟨g,0,none⟩) n c
def oX(o:Int):List Nat:=if o=1 then[6,7,8]else if o=3 then[9,10]else[]
abbrev OpY(o:Int)(y:Option (Nat×Nat)):Prop:=(y=none→oX o=[])∧(¬y=none→0<(oX o).length)
theorem wC(B:Nat)(f:tG)(w:tA)(hb:gU w B f):cA 162 #[ptr B 5] w fun e w'=>∃y,e= .returned (I7 (oX (f 5)).length y)∧OpY (f 5) y∧wB w' w.heap.size (I7 (oX (f 5)).length y) B (oX (f 5))∧bZ w w':=by
 refine en (H:=[]) 30 [vv (ptr B 5)] Tryz.func162 rfl rfl (RG hb) (r [] rfl fun _=>l1 rfl (iV (f 5)) (fun w hS=>hS.now.1.cell 5 (cF rfl)) ?_);unfold OpY oX;by_cases h1:f 5=1
 ·rw[if_pos h1];exact r [1,3] rfl fun _=>fin fun w hS=>⟨some (_,3),rfl,⟨fun h=>(by cases h),fun _=>cF rfl⟩,Al [6,7,8] 0 hS,hS.now.2⟩
 rw[if_neg h1];by_cases h3:f 5=3
 ·rw[if_pos h3];exact r [0,1,3] rfl fun _=>fin fun w hS=>⟨some (_,2),rfl,⟨fun h=>(by cases h),fun _=>cF rfl⟩,Al [9,10] 0 hS,hS.now.2⟩
 rw[if_neg h3];exact r [0,0] rfl fun _=>fin fun w hS=>⟨none,rfl,⟨fun _=>rfl,fun h=>absurd rfl h⟩,World.ownsRow_nil _ _ _ _,hS.now.2⟩
theorem ja(B:Nat)(f:tG)(w:tA)(hb:gU w B f):
  cA 107 #[ptr B 0] w fun e w'=>∃v,e= .returned v∧wB w' w.heap.size v B (gq (f 0) (f 5))∧bZ w w':=by
 refine en (H:=[]) 55 [vv (ptr B 0)] Tryz.func107 rfl rfl (RG hb) (r [] rfl fun _=>l1 rfl (iV (f 0)) (fun w hS=>hS.now.1.cell 0 (cF rfl)) ?_);unfold gq;by_cases h1:f 0=1
 ·rw[if_pos (.inl h1)];exact r [1,3] rfl fun _=>fin fun w hS=>⟨_,rfl,Al [2,1] 0 hS,hS.now.2⟩
 by_cases vW:f 0=10
 ·rw[if_pos (.inr vW)];exact r [0,1,3] rfl fun _=>fin fun w hS=>⟨_,rfl,Al [2,1] 0 hS,hS.now.2⟩
 rw[if_neg (by omega)];by_cases h3:f 0=3
 ·rw[if_pos (.inl h3)];exact r [0,0,1] rfl fun _=>fin fun w hS=>⟨_,rfl,Al [1] 0 hS,hS.now.2⟩
 by_cases h9:f 0=9
 ·rw[if_pos (.inr h9)];exact r [0,0,0,1] rfl fun _=>fin fun w hS=>⟨_,rfl,Al [1] 0 hS,hS.now.2⟩
 rw[if_neg (by omega)];by_cases h8:f 0=8
 ·rw[if_pos h8];exact r [0,0,0,0,1,3] rfl fun _=>fin fun w hS=>⟨_,rfl,Al [1,4] 0 hS,hS.now.2⟩
 rw[if_neg h8];by_cases h4:f 0=4
 ·rw[if_pos (.inl h4)];exact r [0,0,0,0,0,1] rfl fun _=>fin fun w hS=>⟨_,rfl,Al [3] 0 hS,hS.now.2⟩
 by_cases h5:f 0=5
 ·rw[if_pos (.inr (.inl h5))];exact r [0,0,0,0,0,0,1] rfl fun _=>fin fun w hS=>⟨_,rfl,Al [3] 0 hS,hS.now.2⟩
 by_cases h6:f 0=6
 ·rw[if_pos (.inr (.inr h6))];exact r [0,0,0,0,0,0,0,1] rfl fun _=>fin fun w hS=>⟨_,rfl,Al [3] 0 hS,hS.now.2⟩
 rw[if_neg (by omega)];by_cases h2:f 0=2
 case neg=>
  rw[if_neg h2];exact r [0,0,0,0,0,0,0,0,0] rfl fun _=>fin fun w hS=>⟨_,rfl,World.ownsRow_nil _ _ _ _,hS.now.2⟩
 rw[if_pos h2]
 have Za:∀w1,bZ w w1→gU w1 B f→cA 162 #[ptr B 5] w1 fun e w'=>∃y,e= .returned (I7 (oX (f 5)).length y)∧bZ w1 w'∧OpY (f 5) y∧(∀U:Nat→Prop,(∀b,U b→b<w1.heap.size)→bR U w' fun w2=>wB w2 w.heap.size (I7 (oX (f 5)).length y) B (oX (f 5))):=fun w1 b hb=>(wC B f w1 hb).mono fun _ w' ⟨y,h1,hy,h2,h3⟩=>⟨y,h1,h3,hy,fun U hU w2 c=>by
  have hv:∀g,(I7 (oX (f 5)).length y).ownBlock=some g→w1.heap.size≤g:=fun g hg=>by
   rcases h2.2 with⟨e,_⟩|⟨g',_,_,e,h,_⟩
   ·rw[e]at hg;cases hg
   ·rw[e]at hg;cases hg;exact h
  have h4:=jr h2 fun g hg aL=>c.block g aL fun hu=>absurd (hU g hu) (Nat.not_lt.2 (hv g hg))
  exact⟨h4.1,h4.2.imp id fun⟨g,c,cu,e,h,k⟩=>⟨g,c,cu,e,Nat.le_trans b.size h,k⟩⟩⟩
 have e9:[1,2]++oX (f 5)=if f 5=1 then[1,2,6,7,8]else if f 5=3 then[1,2,9,10]else[1,2]:=by
  unfold oX;split
  ·rfl
  ·split<;>rfl
 rw[←e9];refine r [0,0,0,0,0,0,0,0,1,4] rfl fun _=> ?_
 repeat' first|refine Cq ?_ ?_|(refine cx rfl (fun y=>vv (I7 (oX (f 5)).length y)) (OpY (f 5)) (fun y w2=>wB w2 w.heap.size (I7 (oX (f 5)).length y) B (oX (f 5))) ?_ fun y hy=> ?_;exact fun w1 hS=>(Za w1 hS.now.2 hS.now.1).mono fun _ _ ⟨y,h1,h2,h3,h4⟩=>⟨y,h1,h2,h3,h4 _⟩)|refine rs [] rfl rfl fun _=> ?_
 all_goals
  refine ro (w0:=w) 0 1 2 2 (fun _ h=>h) ?_;rcases y with _|⟨g,c⟩
  ·refine ap0 rfl rfl rfl RF (fun w2 hS=>hS.now.2.2) (r [] rfl fun _=>fin fun w2 hS=>⟨_,rfl, ?_,hS.now.2.1⟩);rw[hy.1 rfl];exact hS.now.2.2
  ·refine pd (m:=(oX (f 5)).length) (mc:=c) (ad:=⟨g,0,none⟩) (news:=(oX (f 5)).map (ptr B)) rfl rfl rfl RF (by rw[List.length_map,Nat.mul_one]) (fun w2 hS j u hu=>n_ hS.now.1.2 hu) (fun u hu=> ?_) (hy.2 (by simp)) ?_ ?_ (fun w2 hS=>hS.now.2.1.size) (fun _ _ h c=>cS h c (Nat.le_refl _)) (fun g c hc=>r [] rfl fun _=>fin fun w2 hS=>⟨_,rfl, ?_,hS.now.2.1⟩)
   ·obtain⟨o,_,rfl⟩:=List.mem_map.1 hu;rfl
   ·unfold oX maxLen;split
    ·exact cF rfl
    ·split<;>exact cF rfl
   ·unfold oX;split
    ·exact cF rfl
    ·split<;>exact cF rfl
   ·show wB _ _ _ B _;rw[wB,List.length_append,List.map_append];exact hS.now.2.2
abbrev RH(i:Nat):Value:= .agg #[.string (iC i),iV (iq i),iV (rZ i)]
theorem kc(i:Nat)(w:tA):cA 64 #[RH i] w (rB (Ak (jd i)) w):=by
 exact en (H:=[]) _ [vg [.o (.string (iC i)),.o (iV (iq i)),.o (iV (rZ i))]] Tryz.func64 rfl rfl (m0 w) (r [] rfl fun _=>fin fun w hS=>⟨rfl,hS.now.2⟩)
abbrev aF(f:tG):Nat→Value:=fun i=>iV (f i)
theorem kl{n m:Int}{b:Bool}(h:rh n m=b)(w:tA):cA 108 #[iV n,iV m] w (rB (.bool b) w):=(Gl n m w).mono fun _ _ ⟨h1,e⟩=>⟨by rw[h1,h],by rw[e];exact Below.refl _ _⟩
def kD(f:tG):Bool:=rh (f 1) 4&&(rh (f 2) 3&&(rh (f 4) 100000&&(rh (f 3) 1048576&&(f 0 !=2||aP (f 5) (f 6) (f 7) (f 8) (f 9) (f 10)==0))))
theorem DE(f:tG)(w:tA):cA 65 #[Ak f] w (rB (.bool (kD f)) w):=by
 refine en (H:=[]) _ [vf 11 (aF f)] Tryz.func65 rfl rfl (m0 w) (r [] rfl fun _=> ?_);unfold kD;cases h1:rh (f 1) 4
 ·exact Rv.cb rfl (vv (.bool false)) (fun w _=>kl h1 w) (r [] rfl fun _=>fin fun w hS=>⟨rfl,hS.now.2⟩)
 refine Rv.cb rfl (vv (.bool true)) (fun w _=>kl h1 w) (r [] rfl fun _=> ?_);cases h2:rh (f 2) 3
 ·exact Rv.cb rfl (vv (.bool false)) (fun w _=>kl h2 w) (r [] rfl fun _=>fin fun w hS=>⟨rfl,hS.now.2⟩)
 refine Rv.cb rfl (vv (.bool true)) (fun w _=>kl h2 w) (r [] rfl fun _=> ?_);cases h3:rh (f 4) 100000
 ·exact Rv.cb rfl (vv (.bool false)) (fun w _=>kl h3 w) (r [] rfl fun _=>fin fun w hS=>⟨rfl,hS.now.2⟩)
 refine Rv.cb rfl (vv (.bool true)) (fun w _=>kl h3 w) (r [] rfl fun _=> ?_);cases h4:rh (f 3) 1048576
 ·exact Rv.cb rfl (vv (.bool false)) (fun w _=>kl h4 w) (r [] rfl fun _=>fin fun w hS=>⟨rfl,hS.now.2⟩)
 refine Rv.cb rfl (vv (.bool true)) (fun w _=>kl h4 w) ?_;by_cases h5:f 0=2
 case neg=>exact r [1] rfl fun _=>fin fun w hS=>⟨by rw[(by simpa using h5:(f 0 !=2)=true)];rfl,hS.now.2⟩
 refine r [0] rfl fun _=>Rv.cb rfl (vi (aP (f 5) (f 6) (f 7) (f 8) (f 9) (f 10))) (fun w _=>mW _ _ _ _ _ _ w) ?_;by_cases h6:aP (f 5) (f 6) (f 7) (f 8) (f 9) (f 10)=0
 ·exact r [1] rfl fun _=>fin fun w hS=>⟨by simp[h5,h6];rfl,hS.now.2⟩
 ·exact r [0] rfl fun _=>fin fun w hS=>⟨by simp only[h5];rw[(by simpa using h6:(aP (f 5) (f 6) (f 7) (f 8) (f 9) (f 10)==0)=false)];rfl,hS.now.2⟩
def p_:List Value:=[.string (iC 0),iV (iq 0),iV (rZ 0),.string (iC 1),iV (iq 1),iV (rZ 1),.string (iC 2),iV (iq 2),iV (rZ 2),.string (iC 3),iV (iq 3),iV (rZ 3),.string (iC 4),iV (iq 4),iV (rZ 4),.string (iC 5),iV (iq 5),iV (rZ 5),
 .string (iC 6),iV (iq 6),iV (rZ 6),.string (iC 7),iV (iq 7),iV (rZ 7),.string (iC 8),iV (iq 8),iV (rZ 8),.string (iC 9),iV (iq 9),iV (rZ 9),.string (iC 10),iV (iq 10),iV (rZ 10),.string (iC 11),iV (iq 11),iV (rZ 11)]
theorem NM:p_.length=36:=rfl
def eO(w:tA):Prop:=∃e fz,w.heap[0]? =some (.cells p_.toArray e fz)
theorem eO.lt{w:tA}(h:eO w):0<w.heap.size:=by obtain⟨e,fz,h⟩:=h;exact cj h
theorem eO.next{w w':tA}(h:eO w)(b:bZ w w'):eO w':=by
 have hl:=h.lt;obtain⟨e,fz,h⟩:=h;exact⟨e,fz,(b.block 0 hl).trans h⟩
theorem wD:∀k:Nat,k<12→∀w:World,(Instr.index 191 (.agg p_.toArray) (iV k)).run Tryz.prog w= .ok (RH k) w:=by
 intro k hk w;revert k;refine wZ ?_ ?_ ?_ ?_ ?_ ?_ ?_ ?_ ?_ ?_ ?_ ?_<;>(simp[Instr.index,run_underlying Tryz.underlying191,asIntOf,go_sem,p_])
theorem I8(f:tG)(w:tA)(hK:eO w):cA 62 #[Ak f] w (rB (.tuple #[RH (gl (f 0) (f 5)),.bool (decide (gl (f 0) (f 5)<12))]) w):=by
 refine en (H:=[]) _ [vf 11 (aF f)] Tryz.func62 rfl rfl (m0 w) (r [] rfl fun α=>lf rfl 36 (fun i=>p_.getD i undef) (fun w hS j hj=> ?_) (r [] rfl fun _=> ?_))
 ·obtain⟨e,fz,h⟩:=hK.next hS.now.2;have hl:p_.length=36:=rfl;rw[Nat.zero_add];simp only[World.cell?,h,List.getElem?_toArray];rw[List.getD_eq_getElem?_getD,List.getElem?_eq_getElem (hl▸hj)];rfl
 refine ic (X:=Nat) ⟨fun k=>[(1,vp 0 0 (α 0)),(2,vp 1 0 (α 1)),(6,vf 36 fun i=>p_.getD i undef),(7,vi (k:Int))],fun _=>[⟨α 0,57,[.f 11 (aF f)]⟩,⟨α 1,151,[.o (.string ⟨#[]⟩),.o (iV 0),.o (iV 0)]⟩],fun _ _=>False,fun _ _=>True,fun _ w'=>bZ w w',fun k=>k≤12∧∀j,j<k→t_ j (f 0) (f 5)=false,fun k=>12-k⟩ 0 ⟨rfl,rfl,rfl,rfl,trivial⟩ (fun _ hS=>hS) ⟨Nat.zero_le _,fun j hj=>absurd hj (Nat.not_lt_zero j)⟩ ?_;rintro f' k ⟨hk,hi⟩;have hk:k≤12:=hk;by_cases aL:k<12
 case neg=>
  obtain rfl:k=12:=by omega
  exact r [0] rfl fun _=>fin fun w hS=>⟨by rw[NL _ _ hi];rfl,hS.now.2⟩
 have yes:t_ k (f 0) (f 5)=true→Value.tuple #[RH k,.bool true]= .tuple #[RH (gl (f 0) (f 5)),.bool (decide (gl (f 0) (f 5)<12))]:=fun h=>by rw[I6 _ _ k aL hi h,decide_eq_true aL]
 have hd:t_ k (f 0) (f 5)=(iq k==f 0&&(rZ k==f 5||iq k !=2)):=rfl;refine r [1] rfl fun _=>ix (vg [.o (.string (iC k)),.o (iV (iq k)),.o (iV (rZ k))]) rfl rfl (wD k aL) (r [] rfl fun _=> ?_);have next:=fun(h:t_ k (f 0) (f 5)=false)=>upto hi h;by_cases g1:iq k=f 0
 case neg=>exact rz [0,1] [((k+1:Nat):Int)] rfl fun _=>bU (k+1) ⟨rfl,rfl,rfl,rfl,trivial⟩ (fun w hS=>hS.take 2) ⟨aL,next (by rw[hd];simp[g1])⟩ (show 12-(k+1)<12-k by omega)
 by_cases g2:rZ k=f 5
 ·exact r [1,1] rfl fun _=>fin fun w hS=>⟨congrArg Ending.returned (yes (by rw[hd];simp[g1,g2])),hS.now.2⟩
 by_cases g3:iq k=2
 ·exact rz [1,0,0,1] [((k+1:Nat):Int)] rfl fun _=>bU (k+1) ⟨rfl,rfl,rfl,rfl,trivial⟩ (fun w hS=>hS.take 2) ⟨aL,next (by rw[hd];simp[g2,g3])⟩ (show 12-(k+1)<12-k by omega)
 ·exact r [1,0,1] rfl fun _=>fin fun w hS=>⟨congrArg Ending.returned (yes (by rw[hd];simp[g1,g1▸g3])),hS.now.2⟩
theorem wB.at{w:tA}{base:Nat}{v:tJ}{B:Nat}{os:tR}(h:wB w base v B os)(k:Nat)(hk:k<os.length):∃G c,v= .slice (some ⟨G,0,none⟩) os.length c∧base≤G∧G<w.heap.size∧w.cell? ⟨G,k,none⟩=some (ptr B os[k])∧os.length≤c:=by
 obtain⟨hl,h2⟩:=id h;rcases h2 with⟨_,h0⟩|⟨G,c,cur,rfl,hb,hg,hc,_,_,_⟩
 ·omega
 ·refine⟨G,c,rfl,hb,cj hg, ?_,hc⟩;rw[h.cellAt k (by omega),List.getElem?_map,List.getElem?_eq_getElem hk];rfl
theorem NN{os:tR}{g f:tG}{k:Nat}(hk:k<os.length):∀i,NJ (over (os.take k) g f) os[k] (f os[k]) i=over (os.take (k+1)) g f i:=by
 intro i;have e:(i∈os.take (k+1))=(i∈os.take k∨i=os[k]):=by
  rw[show os.take (k+1)=os.take k++[os[k]] by rw[List.take_add_one,List.getElem?_eq_getElem hk];rfl];simp only[List.mem_append,List.mem_singleton]
 unfold NJ over;simp only[e];by_cases g:i=os[k]
 ·subst g;simp
 ·simp[g]
theorem NO{os:tR}{f:tG}{k:Nat}(hk:k<os.length):∀i,NJ (less (os.take k) f) os[k] 0 i=less (os.take (k+1)) f i:=by
 intro i;have e:(i∈os.take (k+1))=(i∈os.take k∨i=os[k]):=by
  rw[show os.take (k+1)=os.take k++[os[k]] by rw[List.take_add_one,List.getElem?_eq_getElem hk];rfl];simp only[List.mem_append,List.mem_singleton]
 unfold NJ less;simp only[e];by_cases g:i=os[k]
 ·subst g;simp
 ·simp[g]
theorem Vs{os:tR}{f:tG}{k:Nat}(hn:os.Nodup)(hk:k<os.length):less (os.take k) f os[k]=f os[k]:=by
 unfold less;rw[if_neg];intro h;obtain⟨j,hj,e⟩:=List.mem_take_iff_getElem.1 h;have PA:j<os.length:=by omega
 have:=(List.pairwise_iff_getElem.1 hn) j k PA hk (by omega);exact this e
def PrY(w:tA)(a:tB)(B:Nat)(os:tR):Prop:=∀k (hk:k<os.length),∀G,a=some ⟨G,0,none⟩→w.cell? ⟨G,k,none⟩=some (ptr B os[k])
theorem RI{w w':tA}{U:tD}{v:tJ}{x:Ending}{B:Nat}{os:tR}(h:wB w' w.heap.size v B os)(e:x= .returned v)(b:bZ w w'):∃y:Option Addr×Nat,x= .returned (.slice y.1 os.length y.2)∧bZ w w'∧(0<os.length→∃G,y.1=some ⟨G,0,none⟩)∧((∀b,U b→b<w.heap.size)→bR U w' fun w=>PrY w y.1 B os):=by
 obtain⟨a,c,rfl⟩:=ly h;refine⟨(a,c),e,b,fun h0=> ?_,fun hU w2 c2 k hk G eG=> ?_⟩
 ·obtain⟨G,c',e,_⟩:=wB.at h 0 h0;cases e;exact⟨G,rfl⟩
 ·obtain⟨G',c',e,hb,hl,hc,_⟩:=wB.at h k hk;cases e;cases eG;rw[←hc];simp only[World.cell?,c2.block G hl fun hu=>absurd (hU G hu) (Nat.not_lt.2 hb)]
theorem RJ(f g:tG)(os:tR)(w:tA)(hf:gq (f 0) (f 5)=os)(hg:gq (g 0) (g 5)=os):
  cA 63 #[Ak f,Ak g] w (rB (.tuple #[Ak (over os g f),Ak (less os f)]) w):=by
 have hlen:os.length≤5:=by rw[←hf];exact RE _ _
 have hos:os.Nodup∧∀x∈os,x<11:=by rw[←hf];exact⟨I4 _ _,Vq _ _⟩
 have on:∀h:Nat→Int,aT (aF h) 11:=fun _ _ _=>rfl;have of:=on f;have og:=on g;obtain⟨h,eh⟩:∃h:Nat→Nat→Int,h=fun k=>over (os.take k) g f:=⟨_,rfl⟩;obtain⟨l,el⟩:∃l:Nat→Nat→Int,l=fun k=>less (os.take k) f:=⟨_,rfl⟩;have h0:h 0=g:=by rw[eh];funext i;simp[over]
 have l0:l 0=f:=by rw[el];funext i;simp[less]
 refine en (H:=[]) _ [vf 11 (aF f),vf 11 (aF g)] Tryz.func63 rfl rfl (m0 w) (r [5,2,2] rfl fun α=> ?_);refine cx rfl (fun y:Option Addr×Nat=>vv (.slice y.1 os.length y.2)) (fun y=>0<os.length→∃G,y.1=some ⟨G,0,none⟩) (fun y w=>PrY w y.1 (α 2) os) (fun w1 hS=>(ja (α 2) g w1 (hS.at 2 rfl)).mono fun _ _ ⟨_,e,p,b⟩=>RI (hg▸p) e b) ?_;rintro⟨a1,c1⟩ q1;refine r [] rfl fun _=>cx rfl (fun y:Option Addr×Nat=>vv (.slice y.1 os.length y.2)) (fun y=>0<os.length→∃G,y.1=some ⟨G,0,none⟩) (fun y w=>PrY w y.1 (α 3) os) (fun w1 hS=>(ja (α 3) f w1 (hS.at 3 rfl)).mono fun _ _ ⟨_,e,p,b⟩=>RI (hf▸p) e b) ?_;rintro⟨a2,c2⟩ q2;refine r [] rfl fun _=>gn 2 (aF (h 0)) (gn 3 (aF (l 0)) ?_ rfl (by rw[l0];rfl)) rfl (by rw[h0];rfl);refine Cv (X:=Nat) (fun k=>[(4,vp 2 0 (α 2)),(5,vp 3 0 (α 3)),(6,vv (.slice a1 os.length c1)),(12,vv (.slice a2 os.length c2)),(13,vi (os.length:Int)),(14,vi (k:Int))]) (fun k=>[⟨α 0,57,[.f 11 (aF f)]⟩,⟨α 1,57,[.f 11 (aF g)]⟩,⟨α 2,57,[.f 11 (aF (h k))]⟩,⟨α 3,57,[.f 11 (aF (l k))]⟩]) (fun _ _=>False) (fun _ w'=>bZ w w') (fun k=>k≤os.length) (fun k=>os.length-k) 0 ⟨rfl,rfl,rfl,rfl,rfl,rfl,trivial⟩ (fun _ hS=>hS) (Nat.zero_le _) ?_;rintro f' k hk;have hk:k≤os.length:=hk;have o1:=on (h k);have o2:=on (l k);by_cases aL:k<os.length
 case neg=>
  obtain rfl:k=os.length:=by omega
  exact r [0,5,2,2] rfl fun _=>fin fun w hS=>⟨by rw[show over os g f=h os.length by rw[eh];show _=over (os.take os.length) g f;rw[List.take_length],show less os f=l os.length by rw[el];show _=less (os.take os.length) f;rw[List.take_length]];rfl,hS.now.2⟩
 obtain⟨G1,rfl⟩:=q1 (by omega);obtain⟨G2,rfl⟩:=q2 (by omega);have hx:=hos.2 _ (List.getElem_mem aL);have a1:∀i,nS (aF (h k)) os[k] (iV (f os[k])) i=aF (h (k+1)) i:=fun i=>by rw[eh];show _=iV (over (os.take (k+1)) g f i);rw[←NN aL i];unfold nS NJ aF;split<;>rfl
 have a2:∀i,nS (aF (l k)) os[k] (iV 0) i=aF (l (k+1)) i:=fun i=>by rw[el];show _=iV (less (os.take (k+1)) f i);rw[←NO aL i];unfold nS NJ aF;split<;>rfl
 have la:aF (l k) os[k]=iV (f os[k]):=by rw[el];exact congrArg (Value.int .i64) (Vs hos.1 aL)
 refine r [1] rfl fun _=>l1 (q:=0+k*1) rfl (ptr (α 3) os[k]) (fun w hS=>by rw[Nat.zero_add,Nat.mul_one];exact hS.now.1.2 k aL G2 rfl) (r [1] rfl fun _=>l1 (q:=0+k*1) rfl (ptr (α 2) os[k]) (fun w hS=>by rw[Nat.zero_add,Nat.mul_one];exact hS.now.1.1.2 k aL G1 rfl) ?_);refine r [] rfl fun _=>Z8 rfl rfl 3 rfl (iV (f os[k])) la (r [] rfl fun _=> ?_) hx;refine tf rfl 2 rfl (aF (h (k+1))) hx a1 (r [] rfl fun _=>tf rfl 3 rfl (aF (l (k+1))) hx a2 (rz [1] [((k+1:Nat):Int)] rfl fun _=> ?_));exact bU (k+1) ⟨rfl,rfl,rfl,rfl,rfl,rfl,trivial⟩ (fun _ hS=>hS) aL (show os.length-(k+1)<os.length-k by omega)
end Lq
namespace Lq
def SZ(f g:tG):Bool:=decide (f 0=g 0∧f 1=g 1∧f 2=g 2∧f 3=g 3∧f 4=g 4∧f 5=g 5∧f 6=g 6∧f 7=g 7∧f 8=g 8∧f 9=g 9∧f 10=g 10)
theorem DF{f g:tG}:SZ f g=true↔∀i,i<11→f i=g i:=by
 unfold SZ;rw[decide_eq_true_eq];constructor
 ·rintro⟨h0,h1,h2,h3,h4,h5,h6,h7,h8,h9,vW⟩;exact DD h0 h1 h2 h3 h4 h5 h6 h7 h8 h9 vW
 ·intro h;exact⟨h 0 (by omega),h 1 (by omega),h 2 (by omega),h 3 (by omega),h 4 (by omega),h 5 (by omega),h 6 (by omega),h 7 (by omega),h 8 (by omega),h 9 (by omega),h 10 (by omega)⟩
theorem yS(f g:tG)(w:tA):(Op.equalIn 10000 57 (Ak f) (Ak g)).run Tryz.prog w= .ok (SZ f g) w:=by
 rw[run_equalIn_agg (P:=Tryz.prog) w 9999 57 _ _ Tryz.underlying57 (by kernel_rfl)];unfold SZ;by_cases h0:f 0=g 0
 case neg=>simp[go_sem,h0]
 by_cases h1:f 1=g 1
 case neg=>simp[go_sem,h0,h1]
 by_cases h2:f 2=g 2
 case neg=>simp[go_sem,h0,h1,h2]
 by_cases h3:f 3=g 3
 case neg=>simp[go_sem,h0,h1,h2,h3]
 by_cases h4:f 4=g 4
 case neg=>simp[go_sem,h0,h1,h2,h3,h4]
 by_cases h5:f 5=g 5
 case neg=>simp[go_sem,h0,h1,h2,h3,h4,h5]
 by_cases h6:f 6=g 6
 case neg=>simp[go_sem,h0,h1,h2,h3,h4,h5,h6]
 by_cases h7:f 7=g 7
 case neg=>simp[go_sem,h0,h1,h2,h3,h4,h5,h6,h7]
 by_cases h8:f 8=g 8
 case neg=>simp[go_sem,h0,h1,h2,h3,h4,h5,h6,h7,h8]
 by_cases h9:f 9=g 9
 case neg=>simp[go_sem,h0,h1,h2,h3,h4,h5,h6,h7,h8,h9]
 by_cases vW:f 10=g 10
 case neg=>simp[go_sem,h0,h1,h2,h3,h4,h5,h6,h7,h8,h9,vW]
 simp[go_sem,h0,h1,h2,h3,h4,h5,h6,h7,h8,h9,vW]
def gC(f:tG):Int:=
 if gl (f 0) (f 5)<12 then(if kD (over (gq (f 0) (f 5)) (jd (gl (f 0) (f 5))) f)=true then(if SZ (less (gq (f 0) (f 5)) f) (jd (gl (f 0) (f 5)))=true then 0 else 3)else 2)else 3
theorem NP{f:tG}(h:gl (f 0) (f 5)<12):gq (jd (gl (f 0) (f 5)) 0) (jd (gl (f 0) (f 5)) 5)=gq (f 0) (f 5):=by
 obtain⟨h1,h2,h3⟩:=Vr _ _ h;have e0:jd (gl (f 0) (f 5)) 0=f 0:=h1;have e5:jd (gl (f 0) (f 5)) 5=rZ (gl (f 0) (f 5)):=rfl;rw[e0,e5];by_cases e:f 0=2
 ·rw[h2 e]
 ·exact I5 e
end Lq
namespace Lq
open Rv
abbrev fQ(f:tG)(k o:Int):AV:=vg [.o (iV k),.f 4 (fun i=>aF f (i+1)),.o (iV o),.f 5 (fun i=>aF f (i+6))]
theorem I9(f:tG)(w:tA)(hK:eO w):cA 39 #[Ak f] w (rB (iV (gC f)) w):=by
 have hk:=I8 f;refine en (H:=[]) 28 [vf 11 fun i=>iV (f i)] Tryz.func39 rfl rfl (m0 w) (r [] rfl fun β=> ?_);unfold gC;by_cases hi:gl (f 0) (f 5)<12
 ·rw[decide_eq_true hi]at hk;refine cb rfl (vt [.g [.o (.string (iC _)),.o (iV (iq _)),.o (iV (rZ _))],.o (.bool true)]) (fun w hS=>hk w (hK.next hS.now.2)) (r [] rfl fun α=> ?_);refine ac5 (X:=Nat×Nat) (fun x=>[(1,vp 0 0 (β 0)),(3,vp 1 0 (α 0)),(5,vp 2 0 x.1),(6,vp 3 0 x.2)]) (fun x=>[⟨β 0,57,[.f 11 fun i=>iV (f i)]⟩,⟨α 0,151,[.o (.string (iC (gl (f 0) (f 5)))),.o (iV (iq (gl (f 0) (f 5)))),.o (iV (rZ (gl (f 0) (f 5))))]⟩,⟨x.1,57,[.f 11 fun i=>iV (over (gq (f 0) (f 5)) (jd (gl (f 0) (f 5))) f i)]⟩,⟨x.2,57,[.f 11 fun i=>iV (less (gq (f 0) (f 5)) f i)]⟩]) ?_ (r [4] rfl fun _=> ?_)
  case refine_2=>
   repeat' first|refine Cq ?_ ?_|refine fk3 ?_ ?_ ?_|(refine cb rfl (vf 11 fun i=>iV (jd (gl (f 0) (f 5)) i)) ?_ ?_;exact fun w _=>kc _ w)|(refine cb rfl (vt [.g [.f 11 fun i=>iV (over (gq (f 0) (f 5)) (jd (gl (f 0) (f 5))) f i)],.g [.f 11 fun i=>iV (less (gq (f 0) (f 5)) f i)]]) ?_ ?_;exact fun w _=>RJ f _ _ w rfl (NP hi))|refine rs [] rfl rfl fun _=> ?_
   all_goals first|exact Z3 (_,_) ⟨rfl,rfl,rfl,rfl,trivial⟩ (fun w hS=>hS)|exact Z3 (_,_) ⟨rfl,rfl,rfl,rfl,trivial⟩ (fun w hS=>hS.G_ [0,1,3,2] (by decide))
  intro f1 x;refine r [] rfl fun _=> ?_;have hb:=DE (over (gq (f 0) (f 5)) (jd (gl (f 0) (f 5))) f);cases h1:kD (over (gq (f 0) (f 5)) (jd (gl (f 0) (f 5))) f)
  ·rw[h1]at hb;exact cb rfl (vv (.bool false)) (fun w _=>hb w) (r [] rfl fun _=>fin fun w hS=>⟨by rw[if_pos hi];rfl,hS.now.2⟩)
  ·rw[h1]at hb;refine cb rfl (vv (.bool true)) (fun w _=>hb w) (r [2] rfl fun _=> ?_);refine cb rfl (vf 11 fun i=>iV (jd _ i)) (fun w _=>kc _ w) (r [] rfl fun _=> ?_);have he:=yS (less (gq (f 0) (f 5)) f) (jd (gl (f 0) (f 5)));cases h2:SZ (less (gq (f 0) (f 5)) f) (jd (gl (f 0) (f 5)))
   ·rw[h2]at he;exact eqs rfl he rfl (r [] rfl fun _=>fin fun w hS=>⟨by rw[if_pos hi];rfl,hS.now.2⟩)
   ·rw[h2]at he;exact eqs rfl he rfl (r [] rfl fun _=>fin fun w hS=>⟨by rw[if_pos hi];rfl,hS.now.2⟩)
 ·rw[decide_eq_false hi]at hk;exact cb rfl (vt [.g [.o (.string (iC _)),.o (iV (iq _)),.o (iV (rZ _))],.o (.bool false)]) (fun w hS=>hk w (hK.next hS.now.2)) (r [] rfl fun _=>fin fun w hS=>⟨by rw[if_neg hi];rfl,hS.now.2⟩)
end Lq
namespace Lq
theorem NQ{p i b:Int}:(aP 1 p i b 0 0==0)=true↔(0≤p∧p≤3)∧(0≤i∧i≤1073741824)∧(0≤b∧b≤1000000):=by
 rw[beq_iff_eq];unfold aP;rw[if_pos rfl];by_cases h:0≤p∧p≤3∧0≤i∧i≤1073741824∧0≤b∧b≤1000000
 ·rw[if_neg (fun g=>g h),if_pos ⟨rfl,rfl⟩];omega
 ·rw[if_pos h];omega
theorem I_:(aP 2 0 0 0 0 0==0)=true:=by decide
theorem NR{e n:Int}:(aP 3 0 0 0 e n==0)=true↔(0≤e∧e≤1048576)∧(0≤n∧n≤1073741824):=by
 rw[beq_iff_eq];unfold aP;rw[if_neg (by decide),if_pos rfl];by_cases h:0≤e∧e≤1048576∧0≤n∧n≤1073741824
 ·rw[if_neg (fun g=>g h),if_pos ⟨rfl,rfl,rfl⟩];omega
 ·rw[if_pos h];omega
end Lq
namespace Lq
open Rv
def aO(D:tF)(k:Nat):Nat→Int:=fun o=>D.getD (11*k+o) 0
def Gm(D:tF):Nat→Nat
 |0=>0
 |k+1=>Gm D k+if aO D k 0=2 then 1 else 0
theorem KK(D:tF):∀k,Gm D k≤k
 |0=>Nat.le_refl _
 |k+1=>by have:=KK D k;unfold Gm;split<;>omega
inductive mL(D:tF)(n:Nat):Int→Int→Prop
 |bad (k:Nat) (hk:k<n) (h:∀j,j<k→gC (aO D j)=0) (hb:¬gC (aO D k)=0):mL D n 0 (gC (aO D k))
 |eS (h:∀j,j<n→gC (aO D j)=0):mL D n (Gm D n) 0
theorem mL.Wl{D:tF}{n:Nat}{c e c' e':Int}(h:mL D n c e)(h':mL D n c' e'):c=c'∧e=e':=by
 cases h with
 |bad k hk h hb=>
  cases h' with
  |bad k' j4 h' hb'=>
   rcases Nat.lt_trichotomy k k' with e|e|e
   ·exact absurd (h' k e) hb
   ·subst e;exact⟨rfl,rfl⟩
   ·exact absurd (h k' e) hb'
  |eS h'=>exact absurd (h' k hk) hb
 |eS h=>
  cases h' with
  |bad k' j4 h' hb'=>exact absurd (h k' j4) hb'
  |eS h'=>exact⟨rfl,rfl⟩
theorem NS(a:tB)(len cap:Nat)(D:tF)(w:tA)(hK:eO w)(h:RowK .i64 w a (11*len) D)(hs:len*88≤140737488351232):
  cA 28 #[.slice a len cap] w fun x w'=>∃c e,x= .returned (.tuple #[iV c,iV e])∧mL D len c e∧bZ w w':=by
 refine en (H:=[]) _ [vv (.slice a len cap)] Tryz.func28 rfl rfl (m0 w) (r [] rfl fun _=> ?_);refine ic (X:=Nat) ⟨fun k=>[(4,vi (Gm D k:Int)),(8,vv (.slice a len cap)),(9,vi (len:Int)),(10,vi (k:Int))],fun _=>[],fun _ _=>False,fun _ _=>True,fun _ w'=>bZ w w',fun k=>k≤len∧∀j,j<k→gC (aO D j)=0,fun k=>len-k⟩ 0 ⟨rfl,rfl,rfl,rfl,trivial⟩ (fun _ hS=>hS) ⟨Nat.zero_le _,fun j hj=>absurd hj (Nat.not_lt_zero j)⟩ ?_;rintro f k ⟨hk,hi⟩;have hk:k≤len:=hk;have AL:=KK D k;by_cases aL:k<len
 case neg=>
  obtain rfl:k=len:=by omega
  exact r [0] rfl fun _=>fin fun w hS=>⟨_,_,rfl,.eS hi,hS.now.2⟩
 obtain⟨b,o,rfl⟩:=h.form (by omega);have on:aT (aF (aO D k)) 11:=fun _ _=>rfl;refine r [1] rfl fun _=>lf (q:=o+k*11) rfl 11 (aF (aO D k)) (fun w hS=>jJ (h.below hS.now.2) (by omega) fun j _=>rfl) (r [] rfl fun _=>Rv.cb rfl (vi (gC (aO D k))) (fun w hS=>I9 (aO D k) w (hK.next hS.now.2)) ?_);by_cases hc:gC (aO D k)=0
 case neg=>exact r [1] rfl fun _=>fin fun w hS=>⟨_,_,rfl,.bad k aL hi hc,hS.now.2⟩
 have hS:Gm D (k+1)=Gm D k+if aO D k 0=2 then 1 else 0:=rfl
 by_cases h2:aO D k 0=2
 ·rw[if_pos h2]at hS;exact rz [0,1,1,1] [(Gm D (k+1):Int),((k+1:Nat):Int)] rfl fun _=>bU (k+1) ⟨rfl,rfl,rfl,rfl,trivial⟩ (fun w hS=>hS.take 0) ⟨aL,upto hi hc⟩ (show len-(k+1)<len-k by omega)
 ·rw[if_neg h2]at hS;exact rz [0,0,1] [((k+1:Nat):Int)] rfl fun _=>bU (k+1) ⟨congrArg (fun n:Nat=>iV n) hS.symm,rfl,rfl,rfl,trivial⟩ (fun w hS=>hS.take 0) ⟨aL,upto hi hc⟩ (show len-(k+1)<len-k by omega)
end Lq
end Go.Proofs.YtmhifeahpnkpiaaGreatDoor
