/- Out of my texts: TgA@TopCalmOwn, TdB@TopCalmOwn, TmA@TopCalmOwn, TmB@TopCalmOwn, FlA@TopCalmOwn, TlB@TopCalmOwn, CaA@TopCalmOwn, FlB@TopCalmOwn, CaB@TopCalmOwn. -/
import Derived.Test.YtmhifeahpnkpiaaGreatDoorTAA
import Derived.Test.YtmhifeahpnkpiaaGreatDoorTAF
set_option maxRecDepth 20000
set_option maxHeartbeats 8000000
set_option linter.unusedVariables false
namespace Go.Proofs.YtmhifeahpnkpiaaGreatDoor
open Go.RowKit
section
open Rv
namespace Rv
section
variable{n:Nat}{fn:Func}{Rr:Ending→World→Prop}{M:tD}{Φ R:tI}{H:List En}{ks:List Fr}{f:Nat→AV}
theorem gp{en:En}(j:Nat)(he:nth H j=some en)(l':List Sg)(hz:fX l'=fX en.l)(hg:dz en.l=dz l')(hn:G Tryz.prog fn Rr n M Φ R ks f (H.set j ⟨en.a,en.t,l'⟩)):G Tryz.prog fn Rr n M Φ R ks f H:=by
 refine jH (fun w hS=> ?_) hn;have El:=he;rw[fF]at El;have AQ:(hs H)[j]? =some en.ib:=by rw[List.getElem?_map,El];rfl
 have JG:=hS.congr j AQ (cK l') (fun i hi=>by
  have hi:i<fX en.l:=hi;show cK en.l i=cK l' i
  rw[ma _ hi,ma _ (hz▸hi),hg])
 have e4:hs (H.set j ⟨en.a,en.t,l'⟩)=(hs H).set j ⟨en.a,en.t,fX en.l,cK l'⟩:=by
  rw[hs,List.map_set];show _=List.set _ j (⟨en.a,en.t,fX en.l,cK l'⟩:bQ);rw[←hz];rfl
 rw[e4];exact JG
end
end Rv
abbrev ig(w w':tA)(g l c:Nat)(D:tF):Prop:=bZ w w'∧w'.ownsRow w.heap.size 57 11 (.slice (some ⟨g,0,none⟩) l c) l (D.map (Value.int .i64))
theorem ig.row{w w':tA}{g l c:Nat}{D:tF}(h:ig w w' g l c D)(hs:∀u∈D,0≤u∧u≤1000000):RowK .i64 w' (some ⟨g,0,none⟩) (11*l) D:=by
 obtain⟨a1,c1,e,r1,_⟩:=RowK.fY h.2 fun u hu=>BS (hs u hu);cases e;exact r1
namespace Rv
end Rv
theorem DO{w:tA}{base e sz n:Nat}{v:tJ}{xs:tK}(h:w.ownsRow base e sz v n xs)(h0:0<n):∃g c,v= .slice (some ⟨g,0,none⟩) n c∧n≤c∧base≤g∧g<w.heap.size:=by
 rcases h.2 with⟨_,h1⟩|⟨g,c,cur,rfl,hb,hg,hc,_⟩
 ·omega
 ·exact⟨g,c,rfl,hc,hb,cj hg⟩
theorem K4{i:Nat}{n:Nd}{s:Ws}(h:NI i n)(hi:i<5):(eN n s).2.pn=s.pn:=by
 have e:=h.i;unfold eN;split
 ·rfl
 rename_i DL;have up:n.up=true:=by simpa using DL
 cases ha:n.af with
 |some x=>exact(qC (h.up up) ha (by omega)).pn
 |none=>
  obtain⟨⟨_,_,hs,_⟩,_⟩:=qa (s:=s) n.wt.length (h.up up) ha (by omega) h.tu h.ln h.wt;exact hs.pn
theorem DQ(r:Rec):(bP [r]).length≤46:=by
 rw[iT];exact(oV [bj r]).2
theorem BX{B:Bt}(h:B=Bt.zero):(fJ B 1).2=0:=by
 unfold fJ;rw[h,if_neg (fun h=>h Bt.cR),if_neg (by omega),if_neg (fun h=>h rfl),if_neg (by show ¬(1:Int)≤0;omega)]
theorem mk_one{ns:Nat→Nd}{s:Ws}{n q:Nat}(hd:dB s.pn s.pe)(hp:s.pn q= -1)(hN:ns n=wA n):fQ (ns,s) (lA [1,(n:Int),(q:Int),0,0,0,0,0,0,0,0])=(aj ns n {wA n with dl:=bP [aI q],sy:=((bP [aI q]).length:Int),mo:=aj (fun _=>Bt.zero) q ⟨1,1,0,0,0,[]⟩},{s with pn:=cP s.pn q n,pe:=cP s.pe q 1}):=by
 show(aj ns (n:Int).toNat (cY (ns (n:Int).toNat) s (q:Int).toNat).1,(cY (ns (n:Int).toNat) s (q:Int).toNat).2)=_;rw[Int.toNat_natCast,Int.toNat_natCast,hN];have h1:=DQ (aI q);have hc:KH (wA n) s q:=⟨⟨hd,hp⟩,rfl,rfl,BX rfl,by show 0+(bP [aI q]).length≤100000;omega⟩;unfold cY;rw[if_pos hc];have e:(wA n).dl.length+(bP [aI q]).length=(bP [aI q]).length:=Nat.zero_add _;rw[e];rfl
theorem zl{D:tF}(h0:∀o,o<11→Lq.aO D 0 o=lA [1,0,0,0,0,0,0,0,0,0,0] o)(h1:∀o,o<11→Lq.aO D 1 o=lA [1,1,1,0,0,0,0,0,0,0,0] o):(dg D 2).2={SX with pn:=cP (cP (eD 4) 0 0) 1 1,pe:=cP (cP bD 0 1) 1 1}:=by
 have e1:dg D 1=_:=(lW (p:=(wA,SX)) h0).trans (mk_one (n:=0) (q:=0) Sb.dir rfl rfl);have k1:dB (dg D 1).2.pn (dg D 1).2.pe:=by
  rw[e1];exact DK Sb.dir (.inr ⟨by decide,by decide,by decide,by decide⟩)
 show(fQ (dg D 1) _).2=_;rw[lW h1];rw[e1]at k1⊢;exact congrArg Prod.snd (mk_one (n:=1) (q:=1) k1 rfl rfl)
namespace Rv
section
variable{n:Nat}{ops:tL}{f:Nat→AV}{fn:Func}{Rr:Ending→World→Prop}{T:tD}{Φ R:tI}{H:List En}{ks:List Fr}{t:Ord}{i d:Nat}{md:Md}
theorem abI{s e sz ku base l m mc b o:Nat}{x y:AV}{v:tJ}{L:tK}{D:tF}{R0:tI}(hD:D.length=m*sz)(hm:0<m)(h1:OW n ops f i=some (d,s,x,y))(ht:jk Tryz.prog s e sz ku=true)(de:∀w,Mem w (hs H) (fun b=>v.ownBlock=some b∨T b) Φ (fun w=>R0 w∧w.ownsRow base e sz v l L)→RowK .i64 w (some ⟨b,o,none⟩) (m*sz) D)(hb:∀w,Mem w (hs H) (fun b=>v.ownBlock=some b∨T b) Φ (fun w=>R0 w∧w.ownsRow base e sz v l L)→base≤w.heap.size)(hR:∀w w',R0 w→dk (fun b=>base≤b) w w'→R0 w')(hn:∀g c,l+m≤c→G Tryz.prog fn Rr n (fun b=>(Value.slice (some ⟨g,0,none⟩) (l+m) c).ownBlock=some b∨T b) Φ (fun w=>R0 w∧w.ownsRow base e sz (.slice (some ⟨g,0,none⟩) (l+m) c) (l+m) (L++D.map (Value.int .i64))) (.g md ops t::ks) (ua f d (vv (.slice (some ⟨g,0,none⟩) (l+m) c))) H)(hx:x.val=v:=by rfl)(hy:y.val= .slice (some ⟨b,o,none⟩) m mc:=by rfl)(G7:l+m≤maxLen:=by(try dsimp only);unfold maxLen;omega)(zx:(l+m)*ku≤140737488355328:=by(try dsimp only);omega)(hv:md.vs.contains i=false:=by rfl):G Tryz.prog fn Rr n (fun b=>v.ownBlock=some b∨T b) Φ (fun w=>R0 w∧w.ownsRow base e sz v l L) (.g md ops (.ef i t)::ks) f H:=
 pd h1 hx hy ht (by rw[List.length_map];exact hD) (fun w hS j u hu=>by
  have hj:=(List.getElem?_eq_some_iff.1 hu).1;rw[List.length_map,hD]at hj;have h:=(de w hS).at j hj;rw[List.getElem?_map]at hu;rw[List.getD_eq_getElem?_getD]at h;cases hx:D[j]? with
  |none=>rw[hx]at hu;cases hu
  |some z=>
   rw[hx]at hu h;cases hu;rw[Addr.add_mid];exact h) (fun u hu=>by
  obtain⟨z,_,rfl⟩:=List.mem_map.1 hu
  rfl) hm G7 zx hb hR hn hv
end
end Rv
structure l8(Q:Nat→List Int→Prop)(D:tF)(n:Nat):Prop where
 len:D.length=11*n
 act:∀j,j<n→Q j (fm D j)
theorem l8.app{Q:Nat→List Int→Prop}{D l:tF}{n:Nat}(h:l8 Q D n)(hl:l.length=11)(hq:Q n l):l8 Q (D++l) (n+1):=by
 refine⟨by rw[List.length_append,h.len,hl];omega,fun j hj=> ?_⟩;by_cases e:j<n
 ·rw[iD (by rw[h.len];omega)];exact h.act j e
 ·obtain rfl:j=n:=by omega
  have:=lX (E:=l) (j:=0) h.len;rw[Nat.add_zero]at this;rw[this,uj hl];exact hq
theorem l8.gC{Q:Nat→List Int→Prop}{D:tF}{n:Nat}(h:l8 Q D n)(hq:∀j l,Q j l→Lq.gC (lA l)=0)(j:Nat)(hj:j<n):Lq.gC (Lq.aO D j)=0:=by
 rw[nI (iI _ _)];exact hq _ _ (h.act j hj)
theorem l8.at0{Q:Nat→List Int→Prop}{D:tF}{n:Nat}(h:l8 Q D n){j:Nat}(hj:j<n){l:tF}(e:fm D j=l):∀o,o<11→Lq.aO D j o=lA l o:=fun o ho=>by rw[iI _ _ o ho,e]
def kF(P:Int→Bool)(D:tF):Nat→List Int
 |0=>[]
 |k+1=>if P (Lq.aO D k 0)=true then kF P D k++fm D k else kF P D k
def ji(P:Int→Bool)(D:tF):Nat→Nat
 |0=>0
 |k+1=>if P (Lq.aO D k 0)=true then ji P D k+1 else ji P D k
section
variable{P:Int→Bool}{D:tF}{n:Nat}
theorem qD:∀k,ji P D k≤k
 |0=>Nat.le_refl _
 |k+1=>by
  have:=qD k;rw[ji];split<;>omega
theorem qf{j:Nat}(h:11*(j+1)≤D.length):(fm D j).length=11:=by
 unfold fm;rw[List.length_take,List.length_drop];omega
theorem zm(hl:11*n≤D.length):∀k,k≤n→l8 (fun j l=>∃i,j≤i∧i<k∧P (Lq.aO D i 0)=true∧l=fm D i) (kF P D k) (ji P D k)
 |0,_=>⟨rfl,fun j hj=>absurd hj (Nat.not_lt_zero _)⟩
 |k+1,hk=>by
  have ih:=zm hl k (by omega)
  have up:l8 (fun j l=>∃i,j≤i∧i<k+1∧P (Lq.aO D i 0)=true∧l=fm D i) (kF P D k) (ji P D k):=⟨ih.len,fun j hj=>by
   obtain⟨i,h1,h2,h3,h4⟩:=ih.act j hj
   exact⟨i,h1,by omega,h3,h4⟩⟩
  by_cases hp:P (Lq.aO D k 0)=true
  ·rw[kF,ji,if_pos hp,if_pos hp];exact up.app (qf (by omega)) ⟨k,qD k,by omega,hp,rfl⟩
  ·rw[kF,ji,if_neg hp,if_neg hp];exact up
theorem GF(hl:11*n≤D.length)(h0:P (Lq.aO D 0 0)=true)(h1:P (Lq.aO D 1 0)=true):∀k,k+2≤n→2≤ji P D (k+2)∧fm (kF P D (k+2)) 0=fm D 0∧fm (kF P D (k+2)) 1=fm D 1
 |0,hk=>by
  have e1:kF P D 1=fm D 0:=by rw[kF,if_pos h0];rfl
  have n1:ji P D 1=1:=by rw[ji,if_pos h0];rfl
  have l0:(fm D 0).length=11:=qf (by omega);have l1:(fm D 1).length=11:=qf (by omega);rw[show 0+2=1+1 from rfl,kF,ji,if_pos h1,if_pos h1,e1,n1];refine⟨Nat.le_refl _, ?_, ?_⟩
  ·rw[iD (by omega),uj l0]
  ·have:=lX (D:=fm D 0) (E:=fm D 1) (n:=1) (j:=0) l0;rw[this,uj l1]
 |k+1,hk=>by
  obtain⟨i1,i2,i3⟩:=GF hl h0 h1 k (by omega);have hlen:=(zm (P:=P) hl (k+2) (by omega)).len;rw[show k+1+2=(k+2)+1 from rfl,kF,ji];split
  ·exact⟨by omega,by rw[iD (by omega)];exact i2,by rw[iD (by omega)];exact i3⟩
  ·exact⟨i1,i2,i3⟩
theorem uo:∀k,∀u∈kF P D k,u∈D
 |0,_,h=>by cases h
 |k+1,u,h=>by
  rw[kF]at h;split at h
  ·rcases List.mem_append.1 h with h|h
   ·exact uo k u h
   ·exact List.mem_of_mem_drop (List.mem_of_mem_take h)
  ·exact uo k u h
end
abbrev VS:List Int:=[1,0,0,0,0,0,0,0,0,0,0]
abbrev VT:List Int:=[1,1,1,0,0,0,0,0,0,0,0]
def VU(cr:Bool)(P:Int→Bool)(j:Nat)(l:tF):Prop:=(j=0∧l=VS)∨(j=1∧l=VT)∨(2≤j∧GA cr l∧P (lA l 0)=true)
theorem K5(G:tF)(cr:Bool)(P:Int→Bool)(hP:P 1=true)(n:Nat):l8 (VU cr P) (kF P (bn G cr n) (n+2)) (ji P (bn G cr n) (n+2))∧2≤ji P (bn G cr n) (n+2):=by
 have hl:=jE G cr n;have a0:fm (bn G cr n) 0=VS:=by
  rcases o6 G cr n 0 (by omega)with⟨_,e⟩|⟨e,_⟩|⟨e,_⟩
  ·exact e
  ·omega
  ·omega
 have a1:fm (bn G cr n) 1=VT:=by
  rcases o6 G cr n 1 (by omega)with⟨e,_⟩|⟨_,e⟩|⟨e,_⟩
  ·omega
  ·exact e
  ·omega
 obtain⟨h2,h3,h4⟩:=GF (P:=P) (D:=bn G cr n) (n:=n+2) (by omega) (by rw[iI _ _ 0 (by decide),a0];exact hP) (by rw[iI _ _ 0 (by decide),a1];exact hP) n (by omega);have h5:=zm (P:=P) (D:=bn G cr n) (n:=n+2) (by omega) (n+2) (Nat.le_refl _);refine⟨⟨h5.len,fun j hj=> ?_⟩,h2⟩;by_cases e0:j=0
 ·exact .inl ⟨e0,by rw[e0,h3,a0]⟩
 by_cases e1:j=1
 ·exact .inr (.inl ⟨e1,by rw[e1,h4,a1]⟩)
 obtain⟨i,i1,i2,i3,i4⟩:=h5.act j hj;rcases o6 G cr n i i2 with⟨e,_⟩|⟨e,_⟩|⟨_,e⟩
 ·omega
 ·omega
 ·rw[iI _ _ 0 (by decide),←i4]at i3;exact .inr (.inr ⟨by omega,by rw[i4];exact e,i3⟩)
theorem VU.gC{cr:Bool}{P:Int→Bool}{j:Nat}{l:tF}(h:VU cr P j l):Lq.gC (lA l)=0:=by
 rcases h with⟨_,e⟩|⟨_,e⟩|⟨_,e,_⟩
 ·rw[e];exact nJ (by decide) (by decide)
 ·rw[e];exact nJ (by decide) (by decide)
 ·exact e.gC
def kS:Nat→List Int
 |0=>[]
 |k+1=>kS k++[9,(k:Int),0,0,0,0,0,0,0,0,0]
def mM:Nat→List Int
 |0=>[]
 |k+1=>mM k++[3,(k:Int),0,0,0,0,0,0,0,0,0]
def pj(D:tF):Nat→List Int
 |0=>D++kS 5
 |k+1=>pj D k++mM 5++[7,0,0,0,0,0,0,0,0,0,0]
def Xb(l:tF):Prop:=(∃i:Nat,i<5∧l=[9,(i:Int),0,0,0,0,0,0,0,0,0])∨(∃i:Nat,i<5∧l=[3,(i:Int),0,0,0,0,0,0,0,0,0])∨l=[7,0,0,0,0,0,0,0,0,0,0]
theorem l8.Sy{Q:Nat→List Int→Prop}{D:tF}{n:Nat}(h:l8 Q D n)(hq:∀j l,n≤j→Xb l→Q j l):∀k,k≤5→l8 Q (D++kS k) (n+k)
 |0,_=>by rw[kS,List.append_nil];exact h
 |k+1,hk=>by
  rw[kS,←List.append_assoc];exact(h.Sy hq k (by omega)).app rfl (hq _ _ (by omega) (.inl ⟨k,by omega,rfl⟩))
theorem l8.steps{Q:Nat→List Int→Prop}{D:tF}{n:Nat}(h:l8 Q D n)(hq:∀j l,n≤j→Xb l→Q j l):∀k,k≤5→l8 Q (D++mM k) (n+k)
 |0,_=>by rw[mM,List.append_nil];exact h
 |k+1,hk=>by
  rw[mM,←List.append_assoc];exact(h.steps hq k (by omega)).app rfl (hq _ _ (by omega) (.inr (.inl ⟨k,by omega,rfl⟩)))
theorem l8.fair{Q:Nat→List Int→Prop}{D:tF}{n:Nat}(h:l8 Q D n)(hq:∀j l,n≤j→Xb l→Q j l):∀r,l8 Q (pj D r) (n+5+6*r)
 |0=>h.Sy hq 5 (Nat.le_refl _)
 |r+1=>by
  have h1:=(h.fair hq r).steps (fun j l hj=>hq j l (by omega)) 5 (Nat.le_refl _);exact h1.app (l:=[7,0,0,0,0,0,0,0,0,0,0]) rfl (hq _ _ (by omega) (.inr (.inr rfl)))
theorem Xb.gC{l:tF}(h:Xb l):Lq.gC (lA l)=0:=by
 rcases h with⟨i,hi,rfl⟩|⟨i,hi,rfl⟩|rfl
 ·exact vk (by omega)
 ·exact zd (by omega)
 ·exact DM
theorem Xb.sm{l:tF}(h:Xb l):∀u∈l,0≤u∧u≤1000000:=by
 intro u hu;rcases h with⟨i,hi,rfl⟩|⟨i,hi,rfl⟩|rfl<;>simp only[List.mem_cons,List.not_mem_nil,or_false]at hu<;>omega
theorem K6{D:tF}(h:∀u∈D,0≤u∧u≤1000000):∀r,∀u∈pj D r,0≤u∧u≤1000000
 |0,u,hu=>by
  rcases List.mem_append.1 hu with hu|hu
  ·exact h u hu
  ·simp only[kS,List.nil_append,List.cons_append,List.mem_cons,List.not_mem_nil,or_false]at hu;omega
 |r+1,u,hu=>by
  rw[pj]at hu;rcases List.mem_append.1 hu with hu|hu
  ·rcases List.mem_append.1 hu with hu|hu
   ·exact K6 h r u hu
   ·simp only[mM,List.nil_append,List.cons_append,List.mem_cons,List.not_mem_nil,or_false]at hu;omega
  ·simp only[List.mem_cons,List.not_mem_nil,or_false]at hu;omega
theorem SA{D:tF}{k:Nat}(h:11*(k+1)≤D.length):dz [.f 11 fun j=>iV (Lq.aO D k j)]=(fm D k).map (Value.int .i64):=by
 refine List.ext_getElem? fun j=> ?_;by_cases hj:j<11
 ·refine(cg (fun j=>iV (Lq.aO D k j)) 0 11 j hj).trans ?_;rw[Nat.zero_add,iI _ _ j hj,List.getElem?_map];have hl:=qf h;show _=((fm D k)[j]?).map _;rw[List.getElem?_eq_getElem (by omega)];show some (iV ((fm D k).getD j 0))=_;rw[List.getD_eq_getElem?_getD,List.getElem?_eq_getElem (by omega)];rfl
 ·rw[List.getElem?_eq_none,List.getElem?_eq_none]
  ·rw[List.length_map,qf h];omega
  ·show 11≤j;omega
theorem K7{P:Int→Bool}{D:tF}{k:Nat}(h:P (Lq.aO D k 0)=true):kF P D (k+1)=kF P D k++fm D k∧ji P D (k+1)=ji P D k+1:=⟨if_pos h,if_pos h⟩
theorem SC{P:Int→Bool}{D:tF}{k:Nat}(h:¬P (Lq.aO D k 0)=true):kF P D (k+1)=kF P D k∧ji P D (k+1)=ji P D k:=⟨if_neg h,if_neg h⟩
def CL(l:Lt):Prop:=(l.kd=0∧¬l.op.k=4∧0≤l.nu)∨l.kd=1
def CMo(mo:Nat→Bt):Prop:=∀q,(mo q).r=0∨((mo q).r=1∧(mo q).e=1)
def CSv(y:GX):Prop:=¬y.op.k=4∧y.ep=1∧0≤y.nu
structure Jp(n:Nd):Prop where
 up:n.up=true
 mo:CMo n.mo
 wt:∀l∈n.wt,CL l
 af:∀x,n.af=some x→∃l an,x= .serve l an∧¬l.op.k=4∧0≤l.nu
structure G6(s:Ws):Prop where
 fl:∀l∈s.fl,CL l
 sv:∀y∈s.sv,CSv y
structure Calm(p:(Nat→Nd)×Ws):Prop where
 n:∀i,i<5→Jp (p.1 i)
 s:G6 p.2
theorem CMo.put{mo:Nat→Bt}(h:CMo mo)(q:Nat){B:Bt}(hB:B.r=0∨(B.r=1∧B.e=1)):CMo (aj mo q B):=fun p=>by
 by_cases e:p=q
 ·rw[e,au];exact hB
 ·rw[bk e];exact h p
theorem G6.send{s:Ws}(h:G6 s){l:Lt}(hl:CL l):G6 (fM s l):=⟨fun x hx=>by
 rcases List.mem_append.1 hx with hx|hx
 ·exact h.fl x hx
 ·rw[List.mem_singleton.1 hx];exact hl,h.sv⟩
theorem G6.answer{s:Ws}(h:G6 s){n:Nd}{l:Lt}{an:An}(he:(n.mo l.q).e=1)(h4:¬l.op.k=4)(h0:0≤l.nu):G6 (gM n s l an):=by
 refine G6.send (s:=oT s n l.q l.op an l.nu) (l:=lO l.nu an (-1) 0) ⟨h.fl,fun y hy=> ?_⟩ (.inr rfl);rcases List.mem_append.1 hy with hy|hy
 ·exact h.sv y hy
 ·rw[List.mem_singleton.1 hy];exact⟨h4,he,h0⟩
theorem YU{n:Nd}(h:CMo n.mo)(q:Nat):eW n q=[]:=by
 unfold eW;rcases h q with e|⟨e1,e2⟩
 ·rw[if_neg (by omega),if_neg (by omega),if_neg (by omega)]
 ·rw[if_neg (by omega),if_neg (by omega),if_neg (by omega)]
theorem DT:∀(k:Nat) (n:Nd) (s:Ws),Jp n→Jp (ee k n s).1∧(ee k n s).2=s
 |0,_,_,h=>⟨h,rfl⟩
 |k+1,n,s,h=>by
  unfold ee;rw[YU h.mo,if_pos (show([]:List Lt).length=0 from rfl)];exact DT k _ s ⟨h.up,h.mo,h.wt,h.af⟩
theorem SD{n:Nd}{s:Ws}{l:Lt}(h:Jp n)(hs:G6 s)(h4:¬l.op.k=4)(h0:0≤l.nu):Jp (fO n s l).1∧G6 (fO n s l).2∧(fO n s l).1.wt=n.wt:=by
 unfold fO;split
 ·exact⟨h,hs.send (.inr rfl),rfl⟩
 rename_i hr;have he:(n.mo l.q).e=1:=by rcases h.mo l.q with e|e<;>omega
 split
 ·exact⟨h,hs.answer he h4 h0,rfl⟩
 split
 ·rename_i n' e;unfold mO at e;split at e
  ·cases e;exact⟨⟨h.up,h.mo,h.wt,fun x hx=>by cases hx;exact⟨_,_,rfl,h4,h0⟩⟩,hs,rfl⟩
  ·cases e
 ·exact⟨h,hs.answer he h4 h0,rfl⟩
theorem CL.Un{l:Lt}(h:CL l)(hw:lT l):l.kd=0∧¬l.op.k=4∧0≤l.nu:=by
 rcases h with h|h
 ·exact h
 ·have:=hw.kd;omega
theorem K9:∀(k:Nat) (n:Nd) (s:Ws),Jp n→(∀l∈n.wt,lT l)→G6 s→Jp (dU k n s).1∧G6 (dU k n s).2
 |0,n,s,h,_,hs=>by
  obtain⟨h1,h2⟩:=DT 4 n s h;exact⟨h1,by rw[show(dU 0 n s).2=s from h2];exact hs⟩
 |k+1,n,s,h,hw,hs=>by
  unfold dU;split
  ·obtain⟨h1,h2⟩:=DT 4 n s h;exact⟨h1,by rw[h2];exact hs⟩
  ·rename_i l ls e;have hl:l∈n.wt:=by rw[e];exact List.mem_cons_self
   have hls:∀x∈ls,x∈n.wt:=fun x hx=>by rw[e];exact List.mem_cons_of_mem _ hx
   obtain⟨d1,d2,d3⟩:=(h.wt l hl).Un (hw l hl);have hd:cp {n with wt:=ls} s l=fO {n with wt:=ls} s l:=if_pos d1;obtain⟨g1,g2,g3⟩:=SD (n:={n with wt:=ls}) (s:=s) (l:=l) ⟨h.up,h.mo,fun x hx=>h.wt x (hls x hx),h.af⟩ hs d2 d3;rw[hd];split
   ·exact⟨g1,g2⟩
   ·exact K9 k _ _ g1 (fun x hx=>hw x (hls x (by rw[g3]at hx;exact hx))) g2
theorem VV{i:Nat}{n:Nd}{s:Ws}(hn:NI i n)(h:Jp n)(hs:G6 s):Jp (eN n s).1∧G6 (eN n s).2:=by
 cases ha:n.af with
 |none=>
  rw[ny h.up ha];exact K9 _ n s h hn.wt hs
 |some x=>
  rw[qA h.up ha];obtain⟨l,an,rfl,h4,h0⟩:=h.af x ha;obtain⟨dC,dx,Bs,_,_,_,_,e5⟩:=(hn.up h.up).ex;rcases e5 with⟨e,_⟩|⟨a,q,D,e,p⟩
  ·rw[ha]at e;cases e
  rw[ha]at e;cases e;obtain⟨rfl,hr,GU,_⟩:=p.af;have e1:(dh (n.mo l.q) l.op).1=(n.mo l.q).more [l.op]:=by rw[oS GU]
  have hm:((n.mo l.q).more [l.op]).r=0∨(((n.mo l.q).more [l.op]).r=1∧((n.mo l.q).more [l.op]).e=1):=h.mo l.q;have he:(n.mo l.q).e=1:=by rcases h.mo l.q with e|e<;>omega
  show Jp {n with sy:=n.dl.length,af:=none,mo:=aj n.mo l.q (dh (n.mo l.q) l.op).1}∧G6 (gM {n with sy:=n.dl.length,af:=none,mo:=aj n.mo l.q (dh (n.mo l.q) l.op).1} s l an);rw[e1];exact⟨⟨h.up,h.mo.put _ hm,h.wt,fun x hx=>by cases hx⟩,hs.answer (by show(aj n.mo l.q _ l.q).e=1;rw[au];exact he) h4 h0⟩
theorem Calm.put{ns:Nat→Nd}{s s':Ws}(h:Calm (ns,s)){n':Nd}(i:Nat)(h1:Jp n')(h2:G6 s'):Calm (aj ns i n',s'):=⟨fun j hj=>by
 by_cases e:j=i
 ·show Jp (aj ns i n' j);rw[e,au];exact h1
 ·show Jp (aj ns i n' j);rw[bk e];exact h.n j hj,h2⟩
theorem K_{ns:Nat→Nd}{s:Ws}{l:Lt}(h:Calm (ns,s))(hl:CL l):Calm (bJ ns s l)∧(bJ ns s l).2.pn=s.pn∧(bJ ns s l).2.pe=s.pe:=by
 rcases hl with hl|hl
 case inr=>
  have e:bJ ns s l=(ns,{s with td:=s.td++[⟨l.nu,l.an,l.pn,l.pe⟩]}):=if_pos hl;rw[e];exact⟨⟨h.n,h.s.fl,h.s.sv⟩,rfl,rfl⟩
 have e:bJ ns s l=(aj ns l.dst.toNat (if(ns l.dst.toNat).up=true then {ns l.dst.toNat with wt:=(ns l.dst.toNat).wt++[l]}else ns l.dst.toNat),s):=by
  unfold bJ;rw[if_neg (by omega),if_neg (by omega),if_neg (by omega)]
 rw[e];refine⟨⟨fun j hj=> ?_,h.s⟩,rfl,rfl⟩;show Jp (aj ns l.dst.toNat _ j);by_cases e:j=l.dst.toNat
 ·subst e;rw[au];have hn:=h.n l.dst.toNat hj;have hn:Jp (ns l.dst.toNat):=hn;rw[if_pos hn.up]
  exact⟨hn.up,hn.mo,fun x hx=>by
   rcases List.mem_append.1 hx with hx|hx
   ·exact hn.wt x hx
   ·rw[List.mem_singleton.1 hx];exact .inl hl,hn.af⟩
 ·rw[bk e];exact h.n j hj
theorem SE:∀(ls:List Lt) (p:(Nat→Nd)×Ws),Calm p→(∀l∈ls,CL l)→Calm (ls.foldl (fun p l=>bJ p.1 p.2 l) p)∧(ls.foldl (fun p l=>bJ p.1 p.2 l) p).2.pn=p.2.pn∧(ls.foldl (fun p l=>bJ p.1 p.2 l) p).2.pe=p.2.pe
 |[],_,h,_=>⟨h,rfl,rfl⟩
 |l::ls,p,h,hl=>by
  rw[List.foldl_cons];obtain⟨h1,h2,h3⟩:=K_ (ns:=p.1) (s:=p.2) h (hl l List.mem_cons_self);obtain⟨g1,g2,g3⟩:=SE ls _ h1 fun x hx=>hl x (List.mem_cons_of_mem _ hx);exact⟨g1,g2.trans h2,g3.trans h3⟩
theorem VW{i:Nat}{n:Nd}{s:Ws}(h:NI i n)(hi:i<5):(eN n s).2.pe=s.pe:=by
 have e:=h.i;unfold eN;split
 ·rfl
 rename_i DL;have up:n.up=true:=by simpa using DL
 cases ha:n.af with
 |some x=>exact(qC (h.up up) ha (by omega)).pe
 |none=>
  obtain⟨⟨_,_,hs,_⟩,_⟩:=qa (s:=s) n.wt.length (h.up up) ha (by omega) h.tu h.ln h.wt;exact hs.pe
theorem Jq{j:Nat}{p:(Nat→Nd)×Ws}(h:Inv j p){f:tG}(hn:(f 1).toNat<5)(hk:f 0=1∨f 0=2∨f 0=3∨f 0=4∨f 0=5∨f 0=6∨f 0=7∨f 0=9)(UL:f 0=2→¬f 5=4)(C:Calm p):Calm (fQ p f)∧(¬f 0=1→(fQ p f).2.pn=p.2.pn∧(fQ p f).2.pe=p.2.pe):=by
 obtain⟨ns,s⟩:=p;have uw:=h.n _ hn;have Oo:=C.n _ hn;have vu:=C.s;have Od:=h.c0;unfold fQ;have UL:f 0=2→¬(⟨f 5,f 6,f 7,f 8,f 9,f 10⟩:Ev).k=4:=UL;generalize(f 1).toNat=n,(f 2).toNat=q,(f 3).toNat=j,f 4=kp,(⟨f 5,f 6,f 7,f 8,f 9,f 10⟩:Ev)=e,f 0=k at*;dsimp only at uw Oo vu Od⊢;have one:∀k,Calm (eC ns s k j)∧(eC ns s k j).2.pn=s.pn∧(eC ns s k j).2.pe=s.pe:=fun k=>by
  unfold eC;split
  ·exact⟨C,rfl,rfl⟩
  rename_i l hl;have hl:=vu.fl l (List.mem_of_getElem? hl);have hc:∀s':Ws,s'=(if k=6 then s else {s with fl:=s.fl.eraseIdx (j % s.fl.length)})→Calm (ns,s')∧s'.pn=s.pn∧s'.pe=s.pe:=by
   rintro s' rfl;split
   ·exact⟨C,rfl,rfl⟩
   ·exact⟨⟨C.n,fun x hx=>vu.fl x (List.mem_of_mem_eraseIdx hx),vu.sv⟩,rfl,rfl⟩
  obtain⟨c1,c2,c3⟩:=hc _ rfl;split
  ·exact⟨c1,c2,c3⟩
  ·obtain⟨d1,d2,d3⟩:=K_ c1 hl;exact⟨d1,d2.trans c2,d3.trans c3⟩
 rcases hk with rfl|rfl|rfl|rfl|rfl|rfl|rfl|rfl
 ·refine⟨?_,fun h=>absurd rfl h⟩;show Calm (aj ns n (cY (ns n) s q).1,(cY (ns n) s q).2);unfold cY;split
  ·exact C.put n ⟨Oo.up,Oo.mo.put _ (.inr ⟨rfl,rfl⟩),Oo.wt,Oo.af⟩ ⟨vu.fl,vu.sv⟩
  ·exact C.put n Oo vu
 ·refine⟨⟨C.n, ?_⟩,fun _=>⟨rfl,rfl⟩⟩;have:=vu.send (l:=q7 n q s.cs e) (.inl ⟨rfl,UL rfl,Od⟩);exact⟨this.fl,this.sv⟩
 ·obtain⟨c1,c2⟩:=VV uw Oo vu;exact⟨C.put n c1 c2,fun _=>⟨K4 uw hn,VW uw hn⟩⟩
 ·exact⟨(one 4).1,fun _=>(one 4).2⟩
 ·exact⟨(one 5).1,fun _=>(one 5).2⟩
 ·exact⟨(one 6).1,fun _=>(one 6).2⟩
 ·have:=SE s.fl (ns,{s with fl:=[]}) ⟨C.n,(fun l hl=>by cases hl),vu.sv⟩ vu.fl;exact⟨this.1,fun _=>this.2⟩
 ·have e:du (ns n) s=(ns n,s):=if_pos (.inl Oo.up);refine⟨?_,fun _=> ?_⟩
  ·show Calm (aj ns n (du (ns n) s).1,(du (ns n) s).2);rw[e];exact C.put n Oo vu
  ·show(du (ns n) s).2.pn=_∧(du (ns n) s).2.pe=_;rw[e];exact⟨rfl,rfl⟩
theorem abN:Calm (wA,SX):=⟨fun _ _=>⟨rfl,fun _=> .inl rfl,(fun _ h=>by cases h),(fun _ h=>by cases h)⟩,(fun _ h=>by cases h),(fun _ h=>by cases h)⟩
abbrev nN(k:Int):Bool:=decide (¬k=10)
def S1(j:Nat)(l:tF):Prop:=VU false nN j l∨(2≤j∧Xb l)
theorem S1.gC{j:Nat}{l:tF}(h:S1 j l):Lq.gC (lA l)=0:=h.elim VU.gC fun h=>h.2.gC
theorem S1.kinds{j:Nat}{l:tF}(h:S1 j l)(hj:2≤j):(lA l 0=2∨lA l 0=3∨lA l 0=4∨lA l 0=5∨lA l 0=6∨lA l 0=7∨lA l 0=9)∧(lA l 0=2→¬lA l 5=4):=by
 rcases h with(⟨e,_⟩|⟨e,_⟩|⟨_,h,hp⟩)|⟨_,h⟩
 ·omega
 ·omega
 ·have hp:¬lA l 0=10:=of_decide_eq_true hp;cases h with
  |zT=>exact⟨.inl rfl,fun _=>(by decide:¬(1:Int)=4)⟩
  |recv=>exact⟨.inl rfl,fun _=>(by decide:¬(2:Int)=4)⟩
  |zU=>exact⟨.inl rfl,fun _=>(by decide:¬(3:Int)=4)⟩
  |step=>exact⟨.inr (.inl rfl),fun h=>absurd h (by show ¬(3:Int)=2;decide)⟩
  |carry=>exact⟨.inr (.inr (.inl rfl)),fun h=>absurd h (by show ¬(4:Int)=2;decide)⟩
  |Sl=>exact⟨.inr (.inr (.inr (.inl rfl))),fun h=>absurd h (by show ¬(5:Int)=2;decide)⟩
  |double=>exact⟨.inr (.inr (.inr (.inr (.inl rfl)))),fun h=>absurd h (by show ¬(6:Int)=2;decide)⟩
  |move=>exact absurd rfl hp
  |BN _ _ hc=>cases hc
  |start _ hc=>cases hc
  |all=>exact⟨.inr (.inr (.inr (.inr (.inr (.inl rfl))))),fun h=>absurd h (by show ¬(7:Int)=2;decide)⟩
 ·rcases h with⟨i,_,rfl⟩|⟨i,_,rfl⟩|rfl
  ·exact⟨.inr (.inr (.inr (.inr (.inr (.inr rfl))))),fun h=>absurd h (by show ¬(9:Int)=2;decide)⟩
  ·exact⟨.inr (.inl rfl),fun h=>absurd h (by show ¬(3:Int)=2;decide)⟩
  ·exact⟨.inr (.inr (.inr (.inr (.inr (.inl rfl))))),fun h=>absurd h (by show ¬(7:Int)=2;decide)⟩
theorem GH{D:tF}{n:Nat}(hn:n≤100000)(A:l8 S1 D n):∀k,2+k≤n→Calm (dg D (2+k))∧(dg D (2+k)).2.pn=cP (cP (eD 4) 0 0) 1 1∧(dg D (2+k)).2.pe=cP (cP bD 0 1) 1 1
 |0,hk=>by
  have ed:=fun j hj=>A.gC (fun _ _ h=>S1.gC h) j hj;have e0:fm D 0=VS:=by
   rcases A.act 0 (by omega)with(⟨_,e⟩|⟨e,_⟩|⟨e,_⟩)|⟨e,_⟩
   ·exact e
   ·omega
   ·omega
   ·omega
  have e1:fm D 1=VT:=by
   rcases A.act 1 (by omega)with(⟨e,_⟩|⟨_,e⟩|⟨e,_⟩)|⟨e,_⟩
   ·omega
   ·exact e
   ·omega
   ·omega
  have h0:=A.at0 (j:=0) (by omega) e0;have h1:=A.at0 (j:=1) (by omega) e1;have hf:=zl h0 h1;have k0:Lq.aO D 0 0=1:=h0 0 (by decide);have k1:Lq.aO D 1 0=1:=h1 0 (by decide);have m0:Lq.aO D 0 1=0:=h0 1 (by decide);have m1:Lq.aO D 1 1=1:=h1 1 (by decide);refine⟨?_,by rw[hf],by rw[hf]⟩;refine(Jq (gk D n hn ed 1 (by omega)) (f:=Lq.aO D 1) (by rw[m1];decide) (.inl k1) (by omega) ?_).1;exact(Jq (gk D n hn ed 0 (by omega)) (f:=Lq.aO D 0) (by rw[m0];decide) (.inl k0) (by omega) abN).1
 |k+1,hk=>by
  have ed:=fun j hj=>A.gC (fun _ _ h=>S1.gC h) j hj;obtain⟨h1,h2,h3⟩:=GH hn A k (by omega);have hb:2+k<n:=by omega
  obtain⟨hk0,hk5⟩:=(A.act (2+k) hb).kinds (by omega);rw[←iI _ _ 0 (by decide)]at hk0 hk5;rw[←iI _ _ 5 (by decide)]at hk5;obtain⟨g1,g2⟩:=Jq (gk D n hn ed (2+k) (by omega)) (f:=Lq.aO D (2+k)) (by have:=(vh (ed (2+k) hb)).n;omega) (.inr hk0) hk5 h1;obtain⟨g3,g4⟩:=g2 (by omega);exact⟨g1,g3.trans h2,g4.trans h3⟩
theorem Sz(a:tB)(len cap:Nat)(D:tF)(w:tA)(h:RowK .i64 w a (11*len) D)(h0:0<len)(hl:len≤50000)(rr:Nat)(hr:rr≤5000):cA 24 #[.slice a len cap,iV (rr:Int)] w fun x w'=>∃v,x= .returned v∧w'.ownsRow w.heap.size 57 11 v (len+5+6*rr) ((pj D rr).map (Value.int .i64))∧bZ w w':=by
 obtain⟨b,o,rfl⟩:=h.form (by omega);have hD:=h.b_;refine en (H:=[]) _ [vv (.slice (some ⟨b,o,none⟩) len cap),vi (rr:Int)] Tryz.func24 rfl rfl (m0 w) (r [] rfl fun _=>jH (fun w2 hS=>hS.zJ w.heap.size 57 11) ?_);refine abI (m:=len) (b:=b) (o:=o) (hD.trans (Nat.mul_comm _ _)) h0 rfl eK (fun w hS=>by rw[Nat.mul_comm];exact h.below hS.now.2.1) (fun w hS=>hS.now.2.1.size) (fun _ _ h c=>cS h c (Nat.le_refl _)) fun g2 c2 jo=> ?_;refine r [] rfl fun _=>Cv (X:=Nat×Nat×Nat×Nat) (fun x=>[(1,vi (rr:Int)),(5,vv (.slice (some ⟨x.2.2.1,0,none⟩) x.2.1 x.2.2.2)),(6,vi (x.1:Int))]) (fun _=>[]) (fun x b'=>(Value.slice (some ⟨x.2.2.1,0,none⟩) x.2.1 x.2.2.2).ownBlock=some b'∨False) (fun x w'=>ig w w' x.2.2.1 x.2.1 x.2.2.2 (D++kS x.1)) (fun x=>x.1≤5∧x.2.1=len+x.1) (fun x=>5-x.1) (0,0+len,g2,c2) ⟨rfl,rfl,rfl,trivial⟩ (fun w hS=>hS.sr fun w h=>⟨h.1,by show World.ownsRow w _ _ _ _ _ ((D++[]).map _);rw[List.append_nil];exact h.2⟩) ⟨Nat.zero_le _,Nat.add_comm _ _⟩ ?_;rintro f ⟨k,L,g,c⟩ ⟨hk,hL⟩;have hk:k≤5:=hk;have hL:L=len+k:=hL;by_cases aL:k<5
 ·refine r [1] rfl fun α=>qJ 0 rfl eK (fun w hS=>hS.now.2.1.size) (fun _ _ h c=>cS h c (Nat.le_refl _)) fun g3 c3 hc3=> ?_;exact rz [1] [((k+1:Nat):Int)] rfl fun _=>bU (k+1,L+1,g3,c3) ⟨rfl,rfl,rfl,trivial⟩ (fun w hS=>(hS.take 0).sr fun w h=>⟨h.1,by show World.ownsRow w _ _ _ _ _ ((D++kS (k+1)).map _);rw[kS,←List.append_assoc,List.map_append];exact h.2⟩) ⟨aL,by show L+1=len+(k+1);omega⟩ (show 5-(k+1)<5-k by omega)
 obtain rfl:k=5:=by omega
 refine r [0] rfl fun _=>Cv (X:=Nat×Nat×Nat×Nat) (fun x=>[(1,vi (rr:Int)),(5,vv (.slice (some ⟨x.2.2.1,0,none⟩) x.2.1 x.2.2.2)),(7,vi (x.1:Int))]) (fun _=>[]) (fun x b'=>(Value.slice (some ⟨x.2.2.1,0,none⟩) x.2.1 x.2.2.2).ownBlock=some b'∨False) (fun x w'=>ig w w' x.2.2.1 x.2.1 x.2.2.2 (pj D x.1)) (fun x=>x.1≤rr∧x.2.1=len+5+6*x.1) (fun x=>rr-x.1) (0,L,g,c) ⟨rfl,rfl,rfl,trivial⟩ (fun w hS=>hS) ⟨Nat.zero_le _,hL⟩ ?_;clear aL hL hk;rintro f2 ⟨k,L,g,c⟩ ⟨hk,hL⟩;have hk:k≤rr:=hk;have hL:L=len+5+6*k:=hL;by_cases aL:k<rr
 case neg=>
  obtain rfl:k=rr:=by omega
  exact r [0] rfl fun _=>fin fun w hS=>⟨_,rfl,by rw[←hL];exact hS.now.2.2,hS.now.2.1⟩
 refine r [1] rfl fun _=>Cv (X:=Nat×Nat×Nat×Nat) (fun x=>[(1,vi (rr:Int)),(5,vv (.slice (some ⟨x.2.2.1,0,none⟩) x.2.1 x.2.2.2)),(7,vi (k:Int)),(8,vi (x.1:Int))]) (fun _=>[]) (fun x b'=>(Value.slice (some ⟨x.2.2.1,0,none⟩) x.2.1 x.2.2.2).ownBlock=some b'∨False) (fun x w'=>ig w w' x.2.2.1 x.2.1 x.2.2.2 (pj D k++mM x.1)) (fun x=>x.1≤5∧x.2.1=L+x.1) (fun x=>5-x.1) (0,L,g,c) ⟨rfl,rfl,rfl,rfl,trivial⟩ (fun w hS=>hS.sr fun w h=>⟨h.1,by show World.ownsRow w _ _ _ _ _ ((pj D k++[]).map _);rw[List.append_nil];exact h.2⟩) ⟨Nat.zero_le _,rfl⟩ ?_;rintro f3 ⟨j,M,g4,c4⟩ ⟨hj,hM⟩;have hj:j≤5:=hj;have hM:M=L+j:=hM;by_cases Zz:j<5
 ·refine r [1] rfl fun α=>qJ 0 rfl eK (fun w hS=>hS.now.2.1.size) (fun _ _ h c=>cS h c (Nat.le_refl _)) fun g3 c3 hc3=> ?_;exact rz [1] [((j+1:Nat):Int)] rfl fun _=>bU (j+1,M+1,g3,c3) ⟨rfl,rfl,rfl,rfl,trivial⟩ (fun w hS=>(hS.take 0).sr fun w h=>⟨h.1,by show World.ownsRow w _ _ _ _ _ ((pj D k++mM (j+1)).map _);rw[mM,←List.append_assoc,List.map_append];exact h.2⟩) ⟨Zz,by show M+1=L+(j+1);omega⟩ (show 5-(j+1)<5-j by omega)
 obtain rfl:j=5:=by omega
 refine r [0] rfl fun α=>qJ 0 rfl eK (fun w hS=>hS.now.2.1.size) (fun _ _ h c=>cS h c (Nat.le_refl _)) fun g3 c3 hc3=> ?_;exact rz [1] [((k+1:Nat):Int)] rfl fun _=>bU (k+1,M+1,g3,c3) ⟨rfl,rfl,rfl,trivial⟩ (fun w hS=>(hS.take 0).sr fun w h=>⟨h.1,by show World.ownsRow w _ _ _ _ _ ((pj D k++mM 5++[7,0,0,0,0,0,0,0,0,0,0]).map _);rw[List.map_append];exact h.2⟩) ⟨aL,by show M+1=len+5+6*(k+1);omega⟩ (show rr-(k+1)<rr-k by omega)
theorem DU(w:tA)(hK:Lq.eO w)(a:tB)(len cap:Nat)(GD:tF)(h:RowK .i64 w a (5*len) GD)(qk:len≤cap)(pk:a=none→cap=0)(hs:cap*40≤140737488351232):cA 11 #[.slice a len cap] w (rB (.bool true) w):=by
 obtain⟨n,hn⟩:∃n,n=min len 120:=⟨_,rfl⟩;obtain⟨D,hDe⟩:∃D,bn GD false n=D:=⟨_,rfl⟩;have hD:D.length=11*(n+2):=hDe▸jE _ _ _;have rX:∀u∈D,0≤u∧u≤1000000:=hDe▸se GD false n;obtain⟨A,m2⟩:=K5 GD false nN (by decide) n;rw[hDe]at A m2;have m1:=qD (P:=nN) (D:=D) (n+2);have s0:∀u∈kF nN D (n+2),0≤u∧u≤1000000:=fun u hu=>rX u (uo _ u hu);obtain⟨m,hm⟩:∃m,ji nN D (n+2)=m:=⟨_,rfl⟩;obtain⟨D1,hD1⟩:∃D1,kF nN D (n+2)=D1:=⟨_,rfl⟩;rw[hm]at A m1 m2;rw[hD1]at A s0;obtain⟨M,hM⟩:∃M,M=m+5+6*40:=⟨_,rfl⟩;obtain⟨D2,hD2⟩:∃D2,D2=pj D1 40:=⟨_,rfl⟩;have A2:l8 S1 D2 M:=by
  rw[hD2,hM];exact l8.fair (Q:=S1) ⟨A.len,fun j hj=> .inl (A.act j hj)⟩ (fun j l hj hl=> .inr ⟨by omega,hl⟩) 40
 have k1:=fun j hj=>A2.gC (fun _ _ h=>S1.gC h) j hj;have s1:∀u∈D2,0≤u∧u≤1000000:=hD2▸K6 s0 40;have Xc:∀{w:tA} {v:tJ} {n:Nat},w.ownsRow n 57 11 v (m+5+6*40) ((pj D1 40).map (Value.int .i64))→w.ownsRow n 57 11 v M (D2.map (Value.int .i64)):=fun h=>by rw[hM,hD2];exact h
 obtain⟨lr,Io,Q8⟩:=GH (by omega) A2 (M-2) (by omega);rw[show 2+(M-2)=M by omega]at lr Io Q8;obtain⟨O,hO⟩:∃O,cX D2 M=O:=⟨_,rfl⟩;have e1:∀y∈O.sv,CSv y:=by rw[←hO];exact lr.s.sv
 have e2:O.sv.length≤100000000000:=by rw[←hO];exact((gk D2 M (by omega) k1 _ (Nat.le_refl _)).gd (by omega)).g.ls
 have e3:O.pn=cP (cP (eD 4) 0 0) 1 1:=by rw[←hO];exact Io
 have e4:O.pe=cP (cP bD 0 1) 1 1:=by rw[←hO];exact Q8
 have hMl:M≤50000:=by omega
 have hM0:0<M:=by omega
 clear hD2 hM lr Io Q8 A A2;refine en (H:=[]) _ [vv (.slice a len cap)] Tryz.func11 rfl rfl (m0 w) (r [] rfl fun _=> ?_);refine cx rfl (fun y:Option Addr×Nat=>vv (.slice y.1 (n+2) y.2)) (fun y=>n+2≤y.2∧∃b o,y.1=some ⟨b,o,none⟩) (fun y w=>RowK .i64 w y.1 (11*(n+2)) D) (fun w1 hS=>(jZ a len cap 120 false GD w1 (h.below hS.now.2) (by omega) (by omega)).mono fun _ w2 ⟨v1,e,o1,b⟩=> ?_) ?_
 ·rw[←hn,hDe]at o1;obtain⟨a1,c1,rfl,r1,hc,_,_,uu⟩:=RowK.fY o1 fun u hu=>BS (rX u hu);obtain⟨b1,q1,rfl⟩:=r1.form (by omega);exact⟨(some ⟨b1,q1,none⟩,c1),e,b,⟨hc,_,_,rfl⟩,fun hl=>bT r1 uu hl⟩
 rintro⟨_,c1⟩ ⟨mm,b,o,rfl⟩;refine r [] rfl fun _=>jH (fun w2 hS=>hS.zJ w.heap.size 57 11) ?_;refine Cv (X:=Nat×Value) (fun x=>[(3,vv (.slice (some ⟨b,o,none⟩) (n+2) c1)),(4,vv x.2),(5,vi (x.1:Int))]) (fun _=>[]) (fun x b'=>x.2.ownBlock=some b'∨False) (fun x w'=>bZ w w'∧w'.ownsRow w.heap.size 57 11 x.2 (ji nN D x.1) ((kF nN D x.1).map (Value.int .i64))) (fun x=>x.1≤n+2) (fun x=>n+2-x.1) (0,.slice none 0 0) ⟨rfl,rfl,rfl,trivial⟩ (fun _ hS=>hS) (Nat.zero_le _) ?_;rintro f ⟨k,v⟩ hk;have hk:k≤n+2:=hk;by_cases aL:k<n+2
 case pos=>
  have h9:n+2-(k+1)<n+2-k:=by omega
  have cF:=qD (P:=nN) (D:=D) k;obtain⟨K,gW⟩:∃K,Lq.aO D k 0=K:=⟨_,rfl⟩;refine r [1] rfl fun _=>Rv.l1 (q:=o+k*11+0) rfl (iV K) (fun w hS=>by rw[←gW];exact jJ (k:=k) (m:=11) (g:=fun j=>iV (Lq.aO D k j)) hS.now.1.2 (by omega) (fun j _=>rfl) 0 (by omega)) ?_;by_cases k4:K=10
  ·obtain⟨e1,e2⟩:=SC (P:=nN) (D:=D) (k:=k) (by rw[gW];simp[k4]);exact rz [0,1] [((k+1:Nat):Int)] rfl fun _=>bU (k+1,v) ⟨rfl,rfl,rfl,trivial⟩ (fun w hS=>hS.sr fun w h=>⟨h.1,by rw[e1,e2];exact h.2⟩) aL h9
  obtain⟨e1,e2⟩:=K7 (P:=nN) (D:=D) (k:=k) (by rw[gW];simp[k4]);refine r [1] rfl fun _=>lf (q:=o+k*11) rfl 11 (fun j=>iV (Lq.aO D k j)) (fun w hS=>jJ (k:=k) (m:=11) (g:=fun j=>iV (Lq.aO D k j)) hS.now.1.2 (by omega) (fun j _=>rfl)) ?_;refine r [] rfl fun α=>qJ 0 rfl eK (fun w hS=>hS.now.2.1.size) (fun _ _ h c=>cS h c (Nat.le_refl _)) fun g2 c2 jo=> ?_;exact rz [1] [((k+1:Nat):Int)] rfl fun _=>bU (k+1,.slice (some ⟨g2,0,none⟩) (ji nN D k+1) c2) ⟨rfl,rfl,rfl,trivial⟩ (fun w hS=>(hS.take 0).sr fun w h=>⟨h.1,by rw[e1,e2,List.map_append,←SA (by omega)];exact h.2⟩) aL h9
 obtain rfl:k=n+2:=by omega
 refine SI fun w9 hS=> ?_;obtain⟨g,c,rfl,hc,hb,hg⟩:=DO (n:=ji nN D (n+2)) (v:=v) hS.now.2.2 (by omega);clear hS;dsimp only;rw[hm,hD1];rw[hm]at hc;refine r [0] rfl fun _=>j_ rfl (by kernel_rfl) fun w1 hS=>(Sz (some ⟨g,0,none⟩) m c D1 w1 (ig.row hS.now.2 s0) (by omega) (by omega) 40 (by decide)).mono fun _ w2 ⟨v1,e,o1,bl⟩=> ?_;obtain⟨g1,c9,rfl,hc9,l9,GN⟩:=DO (Xc o1) (by omega);have o1:=Xc o1;refine⟨vv (.slice (some ⟨g1,0,none⟩) M c9),[],fun b'=>(Value.slice (some ⟨g1,0,none⟩) M c9).ownBlock=some b'∨False,fun _=>True,fun w'=>ig w w' g1 M c9 D2,e,.inr bl,Mem.start (fun b' hb'=>hb'.elim (fun hb'=>by cases hb';exact GN) fun h=>h.elim) (fun _ _=>trivial) (fun w3 b3=>⟨Below.next (Below.next hS.now.2.1 bl) b3,aG (kU o1 hS.now.2.1.size) fun g _ hg=>b3.block g hg⟩), ?_⟩;clear hS bl o1 l9 GN e hb hg;refine r [] rfl fun _=>cx rfl (fun t:jC=>vt [.g [.f 18 (dN O t)],.o (.bool true)]) (fun _=>True) (fun t w=>kC w O t) (fun w1 hS=>hO▸(mA (some ⟨g1,0,none⟩) M c9 D2 w1 (hK.next hS.now.2.1) (ig.row hS.now.2 s1) (by omega) k1).mono fun _ w2 ⟨t,e,ho,b⟩=>⟨t,e,b,trivial,fun hl=>ho.mono fun b _ hu=>hl b hu⟩) fun t _=> ?_;have og:aT (dN O t) 18:=iH;refine r [] rfl fun β=>Cv (X:=Nat) (fun k=>[(6,vp 0 0 (β 0)),(7,vv (.bool true)),(8,vi (k:Int))]) (fun _=>[⟨β 0,34,[.f 18 (dN O t)]⟩]) (fun _ b'=>(Value.slice (some ⟨g1,0,none⟩) M c9).ownBlock=some b'∨False) (fun _ w'=>ig w w' g1 M c9 D2) (fun k=>k≤O.sv.length) (fun k=>O.sv.length-k) 0 ⟨rfl,rfl,rfl,trivial⟩ (fun _ hS=>hS) (Nat.zero_le _) ?_;rintro f2 k hk;have hk:k≤O.sv.length:=hk;by_cases aL:k<O.sv.length
 case neg=>
  obtain rfl:k=O.sv.length:=by omega
  refine r [0] rfl fun _=>gp 0 rfl [.f 6 (dN O t),.f 2 (lF [iV 0,iV 1]),.f 10 fun i=>dN O t (i+8)] rfl ?_ ?_
  ·have f0:dN O t 6=iV 0:=by show iV (O.pn 0)=_;rw[e3];rfl
   have f1:dN O t 7=iV 1:=by show iV (O.pe 0)=_;rw[e4];rfl
   show[dN O t 0,dN O t 1,dN O t 2,dN O t 3,dN O t 4,dN O t 5,dN O t 6,dN O t 7,dN O t 8,dN O t 9,dN O t 10,dN O t 11,dN O t 12,dN O t 13,dN O t 14,dN O t 15,dN O t 16,dN O t 17]=_;rw[f0,f1];rfl
  refine r [0] rfl fun _=> ?_;refine eqs (b:=true) rfl (fun w=>gu 9998 0 1 w) rfl ?_;exact r [] rfl fun _=>fin fun w hS=>⟨rfl,hS.now.2.1⟩
 obtain⟨y,hy⟩:∃y,O.sv[k]? =some y:=⟨_,List.getElem?_eq_getElem aL⟩;obtain⟨y1,y2,y3⟩:=e1 y (List.mem_of_getElem? hy);refine SI fun w9 hS=> ?_;obtain⟨ga,ea,_⟩:=hS.now.1.2.s k y hy;clear hS;refine gp 0 rfl [.f 15 (dN O t),.o (.slice (some ⟨ga,0,none⟩) O.sv.length t.sc),.f 2 (fun i=>dN O t (i+16))] rfl (by rw[←ea];rfl) ?_;have cl:∀w,kC w O t→∀j,j<14→w.cell? ⟨ga,0+k*14+j,none⟩=some (lF (Bu y) j):=fun w hw j hj=>by
  obtain⟨g,e,hc⟩:=hw.s k y hy;rw[ea]at e;cases e;rw[Nat.zero_add];exact hc j hj
 refine r [1] rfl fun _=>Rv.l1 (q:=0+k*14+3) rfl (iV y.op.k) (fun w hS=>cl w hS.now.1.2 3 (by decide)) (r [0] rfl fun _=>Rv.l1 (q:=0+k*14+2) rfl (iV y.ep) (fun w hS=>cl w hS.now.1.2 2 (by decide)) (r [0] rfl fun _=>Rv.l1 (q:=0+k*14+13) rfl (iV y.nu) (fun w hS=>cl w hS.now.1.2 13 (by decide)) ?_));refine gp 0 rfl [.f 18 (dN O t)] rfl (by rw[←ea];rfl) ?_;exact rz [0,1] [((k+1:Nat):Int)] rfl fun _=>bU (k+1) ⟨rfl,rfl,rfl,trivial⟩ (fun _ hS=>hS) aL (show O.sv.length-(k+1)<O.sv.length-k by omega)
end
end Go.Proofs.YtmhifeahpnkpiaaGreatDoor
