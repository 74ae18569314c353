/- Out of my texts: TgA@TopGrowsOwn. -/
import Derived.Test.YtmhifeahpnkpiaaGreatDoorTAA
import Derived.Test.YtmhifeahpnkpiaaGreatDoorTAF
set_option maxRecDepth 20000
set_option maxHeartbeats 8000000
set_option linter.unusedVariables false
namespace Go.Proofs.YtmhifeahpnkpiaaGreatDoor
open Go.RowKit
section
open Rv
namespace Rv
section
variable{n:Nat}{fn:Func}{Rr:Ending→World→Prop}{M:tD}{Φ R:tI}{H:List En}{ks:List Fr}{f:Nat→AV}
theorem gp{en:En}(j:Nat)(he:nth H j=some en)(l':List Sg)(hz:fX l'=fX en.l)(hg:dz en.l=dz l')(hn:G Tryz.prog fn Rr n M Φ R ks f (H.set j ⟨en.a,en.t,l'⟩)):G Tryz.prog fn Rr n M Φ R ks f H:=by
 refine jH (fun w hS=> ?_) hn;have El:=he;rw[fF]at El;have AQ:(hs H)[j]? =some en.ib:=by rw[List.getElem?_map,El];rfl
 have JG:=hS.congr j AQ (cK l') (fun i hi=>by
  have hi:i<fX en.l:=hi;show cK en.l i=cK l' i
  rw[ma _ hi,ma _ (hz▸hi),hg])
 have e4:hs (H.set j ⟨en.a,en.t,l'⟩)=(hs H).set j ⟨en.a,en.t,fX en.l,cK l'⟩:=by
  rw[hs,List.map_set];show _=List.set _ j (⟨en.a,en.t,fX en.l,cK l'⟩:bQ);rw[←hz];rfl
 rw[e4];exact JG
end
end Rv
structure Grow(k:Int)(s s':Ws):Prop where
 sv:∃L,s'.sv=s.sv++L
 td:∃L,s'.td=s.td++L
 ks:¬k=3→¬k=9→s'.sv=s.sv
 kt:¬k=4→¬k=6→¬k=7→s'.td=s.td
theorem Grow.same{k:Int}{s s':Ws}(h1:s'.sv=s.sv)(h2:s'.td=s.td):Grow k s s':=⟨⟨[],by rw[h1,List.append_nil]⟩,⟨[],by rw[h2,List.append_nil]⟩,fun _ _=>h1,fun _ _ _=>h2⟩
theorem pt.grow{a b:Nat}{s s':Ws}(h:pt a b s s'):Grow 3 s s':=⟨h.sv.imp fun _ h=>h.1,⟨[],by rw[h.td,List.append_nil]⟩,fun h=>absurd rfl h,fun _ _ _=>h.td⟩
theorem BU(ns:Nat→Nd)(s:Ws)(l:Lt):(bJ ns s l).2.sv=s.sv∧∃L,(bJ ns s l).2.td=s.td++L:=by
 have hf:(jc s l).sv=s.sv∧(jc s l).td=s.td:=by unfold jc;split<;>exact⟨rfl,rfl⟩
 unfold bJ;split
 ·exact⟨rfl,_,rfl⟩
 split
 ·exact⟨hf.1,[],by rw[List.append_nil];exact hf.2⟩
 split
 ·exact⟨rfl,[],by rw[List.append_nil];rfl⟩
 ·exact⟨rfl,[],by rw[List.append_nil]⟩
theorem zj:∀(ls:List Lt) (p:(Nat→Nd)×Ws),(ls.foldl (fun p l=>bJ p.1 p.2 l) p).2.sv=p.2.sv∧∃L,(ls.foldl (fun p l=>bJ p.1 p.2 l) p).2.td=p.2.td++L
 |[],_=>⟨rfl,[],(List.append_nil _).symm⟩
 |l::ls,p=>by
  obtain⟨h1,L,h2⟩:=BU p.1 p.2 l;obtain⟨h3,M,h4⟩:=zj ls (bJ p.1 p.2 l);rw[List.foldl_cons];exact⟨h3.trans h1,L++M,by rw[h4,h2,List.append_assoc]⟩
theorem grow_step{i:Nat}{n:Nd}{s:Ws}(h:NI i n)(hi:i<5):Grow 3 s (eN n s).2:=by
 have e:=h.i;unfold eN;split
 ·exact .same rfl rfl
 rename_i DL;have up:n.up=true:=by simpa using DL
 cases ha:n.af with
 |some x=>exact(qC (h.up up) ha (by omega)).grow
 |none=>
  obtain⟨⟨_,_,hs,_⟩,_⟩:=qa (s:=s) n.wt.length (h.up up) ha (by omega) h.tu h.ln h.wt;exact hs.grow
theorem Sn{j:Nat}{p:(Nat→Nd)×Ws}(h:Inv j p){f:tG}(hn:(f 1).toNat<5):Grow (f 0) p.2 (fQ p f).2:=by
 obtain⟨ns,s⟩:=p;unfold fQ;have uw:=h.n _ hn;generalize(f 1).toNat=n,(f 2).toNat=q,(f 3).toNat=j,f 4=kp,(⟨f 5,f 6,f 7,f 8,f 9,f 10⟩:Ev)=e,f 0=k at*;dsimp only at uw⊢;unfold SY;split
 ·unfold cY;split<;>exact .same rfl rfl
 split
 ·exact .same rfl rfl
 split
 ·rename_i h3;rw[h3];exact grow_step uw hn
 split
 ·rename_i h3;unfold eC;split
  ·exact .same rfl rfl
  rename_i l _;split
  ·rename_i h5;rw[h5];exact .same rfl rfl
  ·rename_i h5;have hk:(if k=6 then s else {s with fl:=s.fl.eraseIdx (j % s.fl.length)}).sv=s.sv∧(if k=6 then s else {s with fl:=s.fl.eraseIdx (j % s.fl.length)}).td=s.td:=by split<;>exact⟨rfl,rfl⟩
   obtain⟨h1,L,h2⟩:=BU ns (if k=6 then s else {s with fl:=s.fl.eraseIdx (j % s.fl.length)}) l;rw[hk.1]at h1;rw[hk.2]at h2;exact⟨⟨[],by rw[h1,List.append_nil]⟩,⟨L,h2⟩,fun _ _=>h1,fun h4 h6 _=>by omega⟩
 split
 ·rename_i h7;obtain⟨h1,L,h2⟩:=zj s.fl (ns,{s with fl:=[]});exact⟨⟨[],by rw[List.append_nil];exact h1⟩,⟨L,h2⟩,fun _ _=>h1,fun _ _ h=>absurd h7 h⟩
 split
 ·exact .same rfl rfl
 split
 ·rename_i h9;rw[h9];unfold du;split
  ·exact .same rfl rfl
  split
  ·unfold iR;split
   ·exact⟨⟨_,List.append_assoc _ _ _⟩,⟨[],(List.append_nil _).symm⟩,fun _ h=>absurd rfl h,fun _ _ _=>rfl⟩
   ·exact .same rfl rfl
  ·exact .same rfl rfl
 ·exact .same rfl rfl
theorem Sp(D:tF)(n:Nat)(hn:n≤100000)(ok:∀j,j<n→Lq.gC (Lq.aO D j)=0)(k:Nat)(hk:k<n):Grow (Lq.aO D k 0) (dg D k).2 (dg D (k+1)).2∧(dg D k).2.sv.length≤100000000000∧(dg D k).2.td.length≤100000000000:=
 ⟨Sn (gk D n hn ok k (by omega)) (by have:=(vh (ok k hk)).n;omega),((gk D n hn ok k (by omega)).gd (by omega)).g.ls,((gk D n hn ok k (by omega)).gd (by omega)).g.ld⟩
theorem Am(y:GX)(w:tA):(Op.equalIn 10000 61 (vF (lF (Bu y)) 14) (vF (lF (Bu y)) 14)).run Tryz.prog w= .ok true w:=by
 show(Op.equalIn 10000 61 (.agg #[iV y.nd,iV y.q,iV y.ep,iV y.op.k,iV y.op.p,iV y.op.i,iV y.op.b,iV y.op.he,iV y.op.hn,iV y.an.c,iV y.an.he,iV y.an.no,iV y.an.bd,iV y.nu]) (.agg #[iV y.nd,iV y.q,iV y.ep,iV y.op.k,iV y.op.p,iV y.op.i,iV y.op.b,iV y.op.he,iV y.op.hn,iV y.an.c,iV y.an.he,iV y.an.no,iV y.an.bd,iV y.nu])).run Tryz.prog w=_;rw[run_equalIn_agg (P:=Tryz.prog) w 9999 61 _ _ Tryz.underlying61 (by kernel_rfl)];simp[go_sem]
theorem DN(y:Tl)(w:tA):(Op.equalIn 10000 63 (vF (lF (MQ y)) 7) (vF (lF (MQ y)) 7)).run Tryz.prog w= .ok true w:=by
 show(Op.equalIn 10000 63 (.agg #[iV y.nu,iV y.an.c,iV y.an.he,iV y.an.no,iV y.an.bd,iV y.pn,iV y.pe]) (.agg #[iV y.nu,iV y.an.c,iV y.an.he,iV y.an.no,iV y.an.bd,iV y.pn,iV y.pe])).run Tryz.prog w=_;rw[run_equalIn_agg (P:=Tryz.prog) w 9999 63 _ _ Tryz.underlying63 (by kernel_rfl)];simp[go_sem]
theorem Ao(w:tA)(hK:Lq.eO w)(a:tB)(len cap:Nat)(GD:tF)(h:RowK .i64 w a (5*len) GD)(qk:len≤cap)(pk:a=none→cap=0)(hs:cap*40≤140737488351232):cA 6 #[.slice a len cap] w (rB (.bool true) w):=by
 obtain⟨n,hn⟩:∃n,n=min len 60:=⟨_,rfl⟩;have hD:(bn GD true n).length=11*(n+2):=jE _ _ _;have ed:=fun j hj=>uk GD true n j hj;have hg:=Sp (bn GD true n) (n+2) (by omega) ed;have rX:=se GD true n;refine en (H:=[]) _ [vv (.slice a len cap)] Tryz.func6 rfl rfl (m0 w) (r [] rfl fun _=> ?_);refine cx rfl (fun y:Option Addr×Nat=>vv (.slice y.1 (n+2) y.2)) (fun y=>n+2≤y.2∧∃b o,y.1=some ⟨b,o,none⟩) (fun y w=>RowK .i64 w y.1 (11*(n+2)) (bn GD true n)) (fun w1 hS=>(jZ a len cap 60 true GD w1 (h.below hS.now.2) (by omega) (by omega)).mono fun _ w2 ⟨v1,e,o1,b⟩=> ?_) ?_
 ·rw[←hn]at o1;obtain⟨a1,c1,rfl,r1,hc,_,_,uu⟩:=RowK.fY o1 fun u hu=>BS (rX u hu);obtain⟨b1,q1,rfl⟩:=r1.form (by omega);exact⟨(some ⟨b1,q1,none⟩,c1),e,b,⟨hc,_,_,rfl⟩,fun hl=>bT r1 uu hl⟩
 rintro⟨_,c1⟩ ⟨mm,b,o,rfl⟩;refine r [] rfl fun _=>cx rfl (fun y:Nat×Nat×(Nat→jC)=>vt [.o (.slice (some ⟨y.1,0,none⟩) (n+2+1) y.2.1),.o (.bool true)]) (fun _=>True) (fun y w=>∀q,q<n+2+1→kC w (cX (bn GD true n) q) (y.2.2 q)∧∀j,j<18→w.cell? ⟨y.1,q*18+j,none⟩=some (dN (cX (bn GD true n) q) (y.2.2 q) j)) (fun w1 hS=>(uh _ (n+2) c1 (bn GD true n) w1 (hK.next hS.now.2) hS.now.1.2 mm (by omega) ed).mono fun _ w2 ⟨Y,c,ts,e,ho,b⟩=>⟨(Y,c,ts),e,b,trivial,fun hl=>ho.mono fun b _ hu=>hl b hu⟩) ?_;rintro⟨Y,c,ts⟩-;refine r [] rfl fun _=>Cv (X:=Nat) (fun k=>[(3,vv (.slice (some ⟨b,o,none⟩) (n+2) c1)),(4,vv (.slice (some ⟨Y,0,none⟩) (n+2+1) c)),(5,vv (.bool true)),(6,vi (k:Int))]) (fun _=>[]) (fun _ _=>False) (fun _ w'=>bZ w w') (fun k=>k≤n+2) (fun k=>n+2-k) 0 ⟨rfl,rfl,rfl,rfl,trivial⟩ (fun _ hS=>hS) (Nat.zero_le _) ?_;rintro f k hk;have hk:k≤n+2:=hk;by_cases aL:k<n+2
 case neg=>
  obtain rfl:k=n+2:=by omega
  exact rz [1,0] [((n+2+1:Nat):Int)] rfl fun _=>fin fun w hS=>⟨rfl,hS.now.2⟩
 obtain⟨⟨⟨L,hL⟩,⟨T,hT⟩,ks,kt⟩,bs,bt⟩:=hg k aL;have bs:(cX (bn GD true n) k).sv.length≤100000000000:=bs;have bt:(cX (bn GD true n) k).td.length≤100000000000:=bt;have g1:aT (dN (cX (bn GD true n) k) (ts k)) 18:=iH;have g2:aT (dN (cX (bn GD true n) (k+1)) (ts (k+1))) 18:=iH;have h9:n+2-(k+1)<n+2-k:=by omega
 have ls:(cX (bn GD true n) (k+1)).sv.length=(cX (bn GD true n) k).sv.length+L.length:=by show(dg _ (k+1)).2.sv.length=_;rw[hL,List.length_append];rfl
 have lt:(cX (bn GD true n) (k+1)).td.length=(cX (bn GD true n) k).td.length+T.length:=by show(dg _ (k+1)).2.td.length=_;rw[hT,List.length_append];rfl
 refine rz [1,1] [((k+1:Nat):Int)] rfl fun _=>lf (q:=0+k*18) rfl 18 (dN (cX (bn GD true n) k) (ts k)) (fun w hS j hj=>by rw[Nat.zero_add];exact(hS.now.1.2 k (by omega)).2 j hj) ?_;refine rz [1] [((k+1:Nat):Int)] rfl fun β=>lf (q:=0+(k+1)*18) rfl 18 (dN (cX (bn GD true n) (k+1)) (ts (k+1))) (fun w hS j hj=>by rw[Nat.zero_add];exact(hS.now.1.2 (k+1) (by omega)).2 j hj) ?_;refine r [0,0] rfl fun α=>Cv (X:=Nat) (fun m=>[(3,vv (.slice (some ⟨b,o,none⟩) (n+2) c1)),(4,vv (.slice (some ⟨Y,0,none⟩) (n+2+1) c)),(5,vv (.bool true)),(6,vi (k:Int)),(7,vp 0 0 (β 0)),(8,vp 1 0 (α 0)),(9,vi (m:Int))]) (fun _=>[⟨β 0,34,[.f 18 (dN (cX (bn GD true n) k) (ts k))]⟩,⟨α 0,34,[.f 18 (dN (cX (bn GD true n) (k+1)) (ts (k+1)))]⟩]) (fun _ _=>False) (fun _ w'=>bZ w w') (fun m=>m≤(cX (bn GD true n) k).sv.length) (fun m=>(cX (bn GD true n) k).sv.length-m) 0 ⟨rfl,rfl,rfl,rfl,rfl,rfl,rfl,trivial⟩ (fun _ hS=>hS) (Nat.zero_le _) ?_;rintro f2 m hm;have hm:m≤(cX (bn GD true n) k).sv.length:=hm;by_cases hmt:m<(cX (bn GD true n) k).sv.length
 case pos=>
  refine SI fun w9 hS=> ?_;obtain⟨ga,e1,_⟩:=(hS.now.1.2 k (by omega)).1.s m _ (List.getElem?_eq_getElem hmt);have Ze:(cX (bn GD true n) (k+1)).sv[m]? =some (cX (bn GD true n) k).sv[m]:=by show(dg _ (k+1)).2.sv[m]? =_;rw[hL,List.getElem?_append_left (show m<(dg _ k).2.sv.length from hmt)];exact List.getElem?_eq_getElem hmt
  obtain⟨gb,e2,_⟩:=(hS.now.1.2 (k+1) (by omega)).1.s m _ Ze;refine gp 0 rfl [.f 15 (dN (cX (bn GD true n) k) (ts k)),.o (.slice (some ⟨ga,0,none⟩) (cX (bn GD true n) k).sv.length (ts k).sc),.f 2 (fun i=>dN (cX (bn GD true n) k) (ts k) (i+16))] rfl (by rw[←e1];rfl) ?_;refine gp 1 rfl [.f 15 (dN (cX (bn GD true n) (k+1)) (ts (k+1))),.o (.slice (some ⟨gb,0,none⟩) (cX (bn GD true n) (k+1)).sv.length (ts (k+1)).sc),.f 2 (fun i=>dN (cX (bn GD true n) (k+1)) (ts (k+1)) (i+16))] rfl (by rw[←e2];rfl) ?_;have oy:aT (lF (Bu (cX (bn GD true n) k).sv[m])) 14:=fun i hi=>by
   match i,hi with
   |0,_|1,_|2,_|3,_|4,_|5,_|6,_|7,_|8,_|9,_|10,_|11,_|12,_|13,_=>rfl
  refine r [1,1] rfl fun _=>lf (q:=0+m*14) rfl 14 (lF (Bu (cX (bn GD true n) k).sv[m])) (fun w hS j hj=> ?_) (r [] rfl fun _=>lf (q:=0+m*14) rfl 14 (lF (Bu (cX (bn GD true n) k).sv[m])) (fun w hS j hj=> ?_) (r [] rfl fun _=>eqs (b:=false) rfl (fun w=>Am _ w) rfl ?_))
  ·obtain⟨g,e,hc⟩:=(hS.now.1.2 k (by omega)).1.s m _ (List.getElem?_eq_getElem hmt);rw[e1]at e;cases e;rw[Nat.zero_add];exact hc j hj
  ·obtain⟨g,e,hc⟩:=(hS.now.1.2 (k+1) (by omega)).1.s m _ Ze;rw[e2]at e;cases e;rw[Nat.zero_add];exact hc j hj
  refine gp 0 rfl [.f 18 (dN (cX (bn GD true n) k) (ts k))] rfl (by rw[←e1];rfl) (gp 1 rfl [.f 18 (dN (cX (bn GD true n) (k+1)) (ts (k+1)))] rfl (by rw[←e2];rfl) ?_);exact rz [1] [((m+1:Nat):Int)] rfl fun _=>bU (m+1) ⟨rfl,rfl,rfl,rfl,rfl,rfl,rfl,trivial⟩ (fun _ hS=>hS) hmt (show(cX (bn GD true n) k).sv.length-(m+1)<(cX (bn GD true n) k).sv.length-m by omega)
 obtain rfl:m=(cX (bn GD true n) k).sv.length:=by omega
 refine r [0] rfl fun _=>Cv (X:=Nat) (fun m=>[(3,vv (.slice (some ⟨b,o,none⟩) (n+2) c1)),(4,vv (.slice (some ⟨Y,0,none⟩) (n+2+1) c)),(5,vv (.bool true)),(6,vi (k:Int)),(7,vp 0 0 (β 0)),(8,vp 1 0 (α 0)),(10,vi (m:Int))]) (fun _=>[⟨β 0,34,[.f 18 (dN (cX (bn GD true n) k) (ts k))]⟩,⟨α 0,34,[.f 18 (dN (cX (bn GD true n) (k+1)) (ts (k+1)))]⟩]) (fun _ _=>False) (fun _ w'=>bZ w w') (fun m=>m≤(cX (bn GD true n) k).td.length) (fun m=>(cX (bn GD true n) k).td.length-m) 0 ⟨rfl,rfl,rfl,rfl,rfl,rfl,rfl,trivial⟩ (fun _ hS=>hS) (Nat.zero_le _) ?_;rintro f3 m hm;have hm:m≤(cX (bn GD true n) k).td.length:=hm;by_cases hmt:m<(cX (bn GD true n) k).td.length
 case pos=>
  refine SI fun w9 hS=> ?_;obtain⟨ga,e1,_⟩:=(hS.now.1.2 k (by omega)).1.t m _ (List.getElem?_eq_getElem hmt);have Ze:(cX (bn GD true n) (k+1)).td[m]? =some (cX (bn GD true n) k).td[m]:=by show(dg _ (k+1)).2.td[m]? =_;rw[hT,List.getElem?_append_left (show m<(dg _ k).2.td.length from hmt)];exact List.getElem?_eq_getElem hmt
  obtain⟨gb,e2,_⟩:=(hS.now.1.2 (k+1) (by omega)).1.t m _ Ze;refine gp 0 rfl [.f 16 (dN (cX (bn GD true n) k) (ts k)),.o (.slice (some ⟨ga,0,none⟩) (cX (bn GD true n) k).td.length (ts k).tc),.f 1 (fun i=>dN (cX (bn GD true n) k) (ts k) (i+17))] rfl (by rw[←e1];rfl) ?_;refine gp 1 rfl [.f 16 (dN (cX (bn GD true n) (k+1)) (ts (k+1))),.o (.slice (some ⟨gb,0,none⟩) (cX (bn GD true n) (k+1)).td.length (ts (k+1)).tc),.f 1 (fun i=>dN (cX (bn GD true n) (k+1)) (ts (k+1)) (i+17))] rfl (by rw[←e2];rfl) ?_;have oy:aT (lF (MQ (cX (bn GD true n) k).td[m])) 7:=fun i hi=>by
   match i,hi with
   |0,_|1,_|2,_|3,_|4,_|5,_|6,_=>rfl
  refine r [1,1] rfl fun _=>lf (q:=0+m*7) rfl 7 (lF (MQ (cX (bn GD true n) k).td[m])) (fun w hS j hj=> ?_) (r [] rfl fun _=>lf (q:=0+m*7) rfl 7 (lF (MQ (cX (bn GD true n) k).td[m])) (fun w hS j hj=> ?_) (r [] rfl fun _=>eqs (b:=false) rfl (fun w=>DN _ w) rfl ?_))
  ·obtain⟨g,e,hc⟩:=(hS.now.1.2 k (by omega)).1.t m _ (List.getElem?_eq_getElem hmt);rw[e1]at e;cases e;rw[Nat.zero_add];exact hc j hj
  ·obtain⟨g,e,hc⟩:=(hS.now.1.2 (k+1) (by omega)).1.t m _ Ze;rw[e2]at e;cases e;rw[Nat.zero_add];exact hc j hj
  refine gp 0 rfl [.f 18 (dN (cX (bn GD true n) k) (ts k))] rfl (by rw[←e1];rfl) (gp 1 rfl [.f 18 (dN (cX (bn GD true n) (k+1)) (ts (k+1)))] rfl (by rw[←e2];rfl) ?_);exact rz [1] [((m+1:Nat):Int)] rfl fun _=>bU (m+1) ⟨rfl,rfl,rfl,rfl,rfl,rfl,rfl,trivial⟩ (fun _ hS=>hS) hmt (show(cX (bn GD true n) k).td.length-(m+1)<(cX (bn GD true n) k).td.length-m by omega)
 obtain rfl:m=(cX (bn GD true n) k).td.length:=by omega
 obtain⟨K,gW⟩:∃K,Lq.aO (bn GD true n) k 0=K:=⟨_,rfl⟩;rw[gW]at ks kt;have q1:L.length=0∨K=3∨¬K=3∧K=9:=by
  by_cases k3:K=3
  ·exact .inr (.inl k3)
  by_cases k9:K=9
  ·exact .inr (.inr ⟨k3,k9⟩)
  ·have:=congrArg List.length (ks k3 k9);rw[hL,List.length_append]at this;exact .inl (by omega)
 have q2:T.length=0∨K=4∨¬K=4∧K=6∨¬K=4∧¬K=6∧K=7:=by
  by_cases k4:K=4
  ·exact .inr (.inl k4)
  by_cases k6:K=6
  ·exact .inr (.inr (.inl ⟨k4,k6⟩))
  by_cases k7:K=7
  ·exact .inr (.inr (.inr ⟨k4,k6,k7⟩))
  ·have:=congrArg List.length (kt k4 k6 k7);rw[hT,List.length_append]at this;exact .inl (by omega)
 refine r [0] rfl fun _=>l1 (q:=o+k*11+0) rfl (iV K) (fun w hS=>by rw[←gW];exact jJ (k:=k) (m:=11) (g:=fun j=>iV (Lq.aO (bn GD true n) k j)) hS.now.1.1.2 (by omega) (fun j _=>rfl) 0 (by omega)) ?_;by_cases z1:0<L.length<;>by_cases z2:0<T.length
 ·exact absurd (q1.resolve_left (by omega)) fun x1=>absurd (q2.resolve_left (by omega)) (by omega)
 ·rcases q1.resolve_left (by omega)with e|⟨e,e'⟩
  ·exact rz [1,0,0,1] [((k+1:Nat):Int)] rfl fun _=>bU (k+1) ⟨rfl,rfl,rfl,rfl,trivial⟩ (fun _ hS=>hS.take 0) aL h9
  ·exact rz [1,1,0,0,1] [((k+1:Nat):Int)] rfl fun _=>bU (k+1) ⟨rfl,rfl,rfl,rfl,trivial⟩ (fun _ hS=>hS.take 0) aL h9
 ·rcases q2.resolve_left (by omega)with e|⟨e,e'⟩|⟨e,e',e2⟩
  ·exact rz [0,1,0,1] [((k+1:Nat):Int)] rfl fun _=>bU (k+1) ⟨rfl,rfl,rfl,rfl,trivial⟩ (fun _ hS=>hS.take 0) aL h9
  ·exact rz [0,1,1,0,1] [((k+1:Nat):Int)] rfl fun _=>bU (k+1) ⟨rfl,rfl,rfl,rfl,trivial⟩ (fun _ hS=>hS.take 0) aL h9
  ·exact rz [0,1,1,1,0,1] [((k+1:Nat):Int)] rfl fun _=>bU (k+1) ⟨rfl,rfl,rfl,rfl,trivial⟩ (fun _ hS=>hS.take 0) aL h9
 ·exact rz [0,0,1] [((k+1:Nat):Int)] rfl fun _=>bU (k+1) ⟨rfl,rfl,rfl,rfl,trivial⟩ (fun _ hS=>hS.take 0) aL h9
end
end Go.Proofs.YtmhifeahpnkpiaaGreatDoor
