/- Out of my texts: Base, TuA, GnA, GnO, GnS, GnB, GnT, GnU, RvA, RvB, RvC, RvD, RvE, RvF, RvG, RvH, RvI, RvT, RvN, KpP, RvR, RvS, WdA, WdB, QuA, QuB, QuL, QuC, PkA, QuD, QuE, QuF. -/
import Derived.Below
import Derived.BigQuiet
import Derived.Carry
import Derived.Deep.AppendLies
import Derived.Deep.MidRow
import Derived.Deep.QuietTactic
import Derived.Deep.RegionHeld3
import Derived.Laws.AppendOwnNone
import Derived.Laws.BitsLemmas
import Derived.Laws.Tables
import Derived.Lib.OwnBridge
import Derived.OpenShut
import Derived.OrdersHeld
import Derived.ProofKit
import Derived.Shelf.Slices.CompactI
import Derived.Shelf.Slices.In.SortNone
import Derived.Shelf.Sort.Plain
import Derived.SizedLaws
import Derived.Sort.OwnSortedInts
import Derived.WalkKit
import Derived.WalkLawsBesides
import Derived.WalkSpells
import Derived.Test.YtmhifeahpnkpiaaGreatDoorProg
set_option maxRecDepth 20000
set_option maxHeartbeats 8000000
set_option linter.unusedVariables false
namespace Go.Proofs.YtmhifeahpnkpiaaGreatDoor
open Go.RowKit
abbrev tA:Type:=World
abbrev tB:Type:=Option Addr
abbrev tC:Type:=Nat→Value
abbrev tD:Type:=Nat→Prop
abbrev tF:Type:=List Int
abbrev tG:Type:=Nat→Int
abbrev tH:Type:=Exit→Act→World→Prop
abbrev tI:Type:=World→Prop
abbrev tJ:Type:=Value
abbrev tK:Type:=List Value
abbrev tL:Type:=Array Oper
abbrev tM:Type:=Nat→Bool
abbrev tN:Type:=Array Value
abbrev tO:Type:=Nat→Nat→Value
abbrev tP:Type:=Operand
abbrev tQ:Type:=Nat→Nat
abbrev tR:Type:=List Nat
abbrev tS:Type:=Program
abbrev tT:Type:=TypeId
abbrev tU:Type:=MapEntry
abbrev bZ(w w':World):Prop:=Below w.heap.size w w'
abbrev cA(f:FuncId)(a:Array Value)(w:World)(Q:Ending→World→Prop):Prop:=Calls Tryz.prog f a w Q
abbrev rB(v:Value)(w:World):Ending→World→Prop:=fun e w'=>e= .returned v∧Below w.heap.size w w'
abbrev iV(n:Int):Value:=Value.int IntKind.i64 n
section
open Go.ChangeShapes Go.WideShapes Go.ChangeAt
structure RowK(k:IntKind)(w:tA)(a:tB)(len:Nat)(l:tF):Prop where
 b_:l.length=len
 wf:∀u∈l,(Lit.int k u).wf=true
 cell:∀i,i<len→∃b off,a=some ⟨b,off,none⟩∧b<w.heap.size∧w.cell? ⟨b,off+i,none⟩=some (.int k (l.getD i 0))
theorem RowK.below{k:IntKind}{w w':tA}{a:tB}{len:Nat}{l:tF}(h:RowK k w a len l)(hb:bZ w w'):RowK k w' a len l:=
 ⟨h.b_,h.wf,fun i hi=>by
  obtain⟨b,off,ha,aL,hc⟩:=h.cell i hi
  exact⟨b,off,ha,Nat.lt_of_lt_of_le aL hb.size,(hb.cell aL).trans hc⟩⟩
theorem RowK.nil(k:IntKind)(w:tA)(a:tB):RowK k w a 0 []:=⟨rfl,by simp,fun i hi=>by omega⟩
theorem RowK.at{k:IntKind}{w:tA}{b off len:Nat}{l:tF}(h:RowK k w (some ⟨b,off,none⟩) len l)(i:Nat)(hi:i<len):w.cell? ⟨b,off+i,none⟩=some (.int k (l.getD i 0)):=by
 obtain⟨b',off',ha,_,hc⟩:=h.cell i hi;simp at ha;obtain⟨rfl,rfl⟩:=ha;exact hc
theorem RowK.lt{k:IntKind}{w:tA}{b off len:Nat}{l:tF}(h:RowK k w (some ⟨b,off,none⟩) len l)(hi:0<len):b<w.heap.size:=by
 obtain⟨b',off',ha,hb,_⟩:=h.cell 0 hi;simp at ha;obtain⟨rfl,rfl⟩:=ha;exact hb
theorem RowK.form{k:IntKind}{w:tA}{a:tB}{len:Nat}{l:tF}(h:RowK k w a len l)(hi:0<len):∃b off,a=some ⟨b,off,none⟩:=by
 obtain⟨b',off',ha,hb,_⟩:=h.cell 0 hi;exact⟨b',off',ha⟩
theorem RowK.Jw{w:tA}{base e g n cap:Nat}{k:IntKind}{l:tF}(h:w.ownsRow base e 1 (.slice (some ⟨g,0,none⟩) n cap) n (l.map (Value.int k)))(hl:l.length=n)(hw:∀u∈l,(Lit.int k u).wf=true):RowK k w (some ⟨g,0,none⟩) n l:=
 ⟨hl,hw,fun i hi=>by
  have hc:=h.cellAt i (by omega);have hb:=(h.lt g rfl).2;refine⟨g,0,rfl,hb, ?_⟩;rw[Nat.zero_add,hc,List.getElem?_map,List.getElem?_eq_getElem (by omega)]
  simp[List.getElem?_eq_getElem (show i<l.length by omega)]⟩
theorem pw{P:tS}{w:tA}(src e:tT)(hs:P.underlying src=some (.slice e))(he:P.underlying e=some (.int .u8)){a:tB}{len cap:Nat}{l:tF}(h:RowK .u8 w a len l):
  ∀dst,P.underlying dst=some .string→(convert src dst (.slice a len cap)).run P w= .ok (.string (strOfNums l)) w:=by
 intro dst hd;by_cases h0:len=0
 ·subst h0;have hl:l=[]:=List.length_eq_zero_iff.1 h.b_;subst hl;cases a with
  |none=>rw[run_convert_bytes_nil w src e hs he 0 cap dst hd];rfl
  |some x=>
   rw[run_convert_bytes_string w src dst e _ 0 cap hs he hd,run_bytesToString w _ 0 cap [] (by simp[loadCells,loadCellsFrom,Sem.run_pure])];rfl
 ·obtain⟨b,off,rfl⟩:=h.form (by omega);exact run_convert_bytes_arg w src e hs he b off len cap l h.b_ (fun i hi=>h.at i hi) dst hd
theorem l_{P:tS}{w:tA}{ops:tL}{rest:List Oper}{o:Oper}{a:Act}{Q:tH}(Lc:o.guard=none)(s x:tP)(t:tT)
  (ho:o.op= .call {callee:= .builtin .append,args:= #[s,x],argTypes:= #[t,t]})
  (base:Nat) (e:tT) (i:TypeInfo) (z:tJ) (bytes:Nat) (ht:P.underlying t=some (.slice e)) (hi:P.info? e=some i) (hz:i.zero=some z)
  (Ea:i.size=1) (zx:i.bytes=bytes) (Jx:z.cells.size=1) (k:IntKind)
  (v:tJ) (n:Nat) (xs:tF) (hs:a.eval s=v) (bK:w.ownsRow base e 1 v n (xs.map (Value.int k)))
  (ad:tB) (m c:Nat) (l:tF) (hx:a.eval x= .slice ad m c) (hr:RowK k w ad m l) (pk:ad=none→c=0)
  (G7:n+m≤maxLen) (xb:(n+m)*bytes≤140737488355328) (dO:base≤w.heap.size)
  (h:∀v' w',w'.ownsRow base e 1 v' (n+m) ((xs++l).map (Value.int k))→w.grownBy w' v.ownBlock→wpList P ops Q rest (a.put o.dst v') w'):wpList P ops Q (o::rest) a w:=by
 cases ad with
 |none=>
  have hm:m=0:=by
   by_cases h0:0<m
   ·obtain⟨_,_,h',_⟩:=hr.cell 0 h0;cases h'
   ·omega
  subst hm;have hl:l=[]:=List.length_eq_zero_iff.1 hr.b_;subst hl;refine wpList_append_own_none Lc s x t ho base e i 1 ht hi v n _ hs bK (by rw[hx,pk rfl]) ?_;exact h v w (by simpa using bK) (World.grownBy.refl _ _)
 |some x0=>
  refine wpList_append_own w Lc s x t ho base e i z 1 bytes ht hi hz Ea zx Jx (by decide) v n _ hs bK x0 m c (l.map (Value.int k)) hx (by simp[hr.b_]) ?_ (ints_oneCell _ _) G7 xb dO ?_
  ·intro j u hj;have Xd:j<l.length:=by
    rcases Nat.lt_or_ge j l.length with h'|h'
    ·exact h'
    ·simp[List.getElem?_eq_none h']at hj
   obtain⟨b,off,hb,_,hc⟩:=hr.cell j (by rw[←hr.b_];exact Xd);simp only[Option.some.injEq]at hb;subst hb;have Ot:(⟨b,off,none⟩:Addr).add j=⟨b,off+j,none⟩:=by unfold Addr.add;split<;>simp_all
   rw[Ot,hc];simp[List.getElem?_eq_getElem Xd]at hj;simp[List.getElem?_eq_getElem Xd,hj]
  ·intro v' w' h1 h2 _;exact h v' w' (by rw[List.map_append];exact h1) h2
theorem RowK.xc{w:tA}{base e n:Nat}{k:IntKind}{v:tJ}{l:tF}(h:w.ownsRow base e 1 v n (l.map (Value.int k)))(hw:∀u∈l,(Lit.int k u).wf=true):
  ∃a cap,v= .slice a n cap∧RowK k w a n l∧n≤cap∧cap≤maxLen∧(a=none→cap=0)∧(∀x,a=some x→base≤x.block):=by
 have hl:l.length=n:=by have:=h.1;simpa using this
 rcases h.2 with⟨rfl,rfl⟩|⟨g,cap,cur,rfl,hb,hg,hc,hm,_⟩
 ·have:l=[]:=List.length_eq_zero_iff.1 hl;subst this;exact⟨none,0,rfl,RowK.nil _ _ _,Nat.le_refl _,by unfold maxLen;omega,fun _=>rfl,fun x hx=>by cases hx⟩
 ·exact⟨some ⟨g,0,none⟩,cap,rfl,RowK.Jw h hl hw,hc,hm,by simp,fun x hx=>by simp at hx;subst hx;exact hb⟩
theorem aA(w:tA)(o1:Obj):Below w.heap.size w (w.alloc o1):=(Below.refl _ _).alloc (Nat.le_refl _) o1
theorem fV(w:tA)(o1 o2:Obj):Below w.heap.size w ((w.alloc o1).alloc o2):=(aA w o1).alloc (by simp) o2
theorem nQ{w w':tA}{o1:Obj}(h:Below (w.alloc o1).heap.size (w.alloc o1) w'):bZ w w':=(aA w o1).trans (h.mono (by simp))
theorem ss{w w':tA}{o1 o2:Obj}(h:Below ((w.alloc o1).alloc o2).heap.size ((w.alloc o1).alloc o2) w'):bZ w w':=(fV w o1 o2).trans (h.mono (by simp;omega))
theorem px(w:tA)(n:Nat):Below w.heap.size w (w.drewN n):=⟨rfl,rfl,rfl,Nat.le_refl _,fun _ _=>rfl⟩
theorem Below.next{w w1 w2:tA}(h1:bZ w w1)(h2:bZ w1 w2):bZ w w2:=h1.trans (h2.mono h1.size)
section
variable{H:Type}{enc:TypeId×Value→H}{P:tS}
theorem eY{ts:List TypeId}(hl:laidOutB P=true)(hr:∀t∈ts,P.readableRec t=true∧t<P.types.size){W W':tA}:
  ∀{vs:tK} {ds:List (DataW H)} {ps:List MemPlace},DataW.TrodAll enc P W 0 (fun _=>true) true ts vs ds ps→bZ W W'→(∀x∈ps,x.block<W.heap.size)→
   DataW.TrodAll enc P W' 0 (fun b=>decide (b<W.heap.size)) true ts vs ds ps:=by
 induction ts with
 |nil=>
  intro vs ds ps h _ _;obtain⟨rfl,rfl,rfl⟩:=trodAll_nil h;exact trodAll_mk0
 |cons t ts ih=>
  intro vs ds ps h hb aL;obtain⟨v,vs',d,ds',p,q,rfl,rfl,rfl,h1,h2⟩:=trodAll_cons h;exact trodAll_cons_mk (Below.trod hl (hr t (by simp)).1 (hr t (by simp)).2 h1 hb (fun x hx=>aL x (by simp[hx]))) (ih (fun t ht=>hr t (by simp[ht])) h2 hb (fun x hx=>aL x (by simp[hx])))
theorem jN{ts:List TypeId}{ds:List (DataW H)}(h:(DataW.weightsEach P ts ds).all (·≤reachBytes)=true){j:Nat}{t e:tT}{d:DataW H}{cap bytes:Nat}(ht:ts[j]? =some t)(hd:ds[j]? =some d)
  (hu:P.underlying t=some (.slice e)) (hb:P.bytesOf e=bytes) (hc:(d= .nil∧cap=0)∨∃es sp,d= .slice es sp∧es.length+sp.length=cap):cap*bytes≤140737488351232:=by
 rcases hc with⟨_,rfl⟩|⟨es,sp,rfl,rfl⟩
 ·simp
 ·have:=sized_slice h ht hd hu;rw[hb]at this;simpa[reachBytes]using this
end
end
theorem heap_set{w:tA}{R o:Nat}{cs:tN}{T:tT}{v:tJ}(h:w.heap[R]? =some (.cells cs T (0,0))):(w.setCell ⟨R,o,none⟩ v).heap[R]? =some (.cells (cs.set! o v) T (0,0)):=by
 rw[setCell_eq_setRow w R o _ _ (0,0) _ h,setRow_heap w R _ _ _ _ h];rfl
section
variable{w w':tA}{R:Nat}
theorem jj:∀(vs:tK) (o:Nat) (w:tA) (cs:tN) (t:tT),w.heap[R]? =some (.cells cs t (0,0))→o+vs.length≤cs.size→
  ∃N9,(w.setCells R o vs).heap[R]? =some (.cells N9 t (0,0))∧N9.size=cs.size∧∀i,N9[i]? =if o≤i∧i<o+vs.length then vs[i-o]? else cs[i]?
 |[],o,w,cs,t,h,_=>⟨cs,h,rfl,fun i=>by rw[if_neg (by simp)]⟩
 |v::vs,o,w,cs,t,h,hl=>by
  have h1:=heap_set (o:=o) (v:=v) h;simp only[List.length_cons]at hl;obtain⟨N9,h2,h3,h4⟩:=jj vs (o+1) _ _ t h1 (by simp;omega);refine⟨N9,h2,by simpa using h3,fun i=> ?_⟩;rw[h4];by_cases ha:o+1≤i∧i<o+1+vs.length
  ·rw[if_pos ha,if_pos ⟨by omega,by simp;omega⟩,show i-o=(i-(o+1))+1 by omega];rfl
  ·rw[if_neg ha];by_cases hi:i=o
   ·subst hi;rw[if_pos ⟨by omega,by simp⟩];simp[show i<cs.size by omega]
   ·rw[if_neg (by simp;omega)];simp[show ¬o=i by omega]
structure az(R:Nat)(w w':tA):Prop where
 os:w'.os=w.os
 tape:w'.tape=w.tape
 output:w'.output=w.output
 size:w'.heap.size=w.heap.size
 block:∀k,k≠R→w'.heap[k]? =w.heap[k]?
theorem az.set(R o:Nat)(w:tA)(v:tJ):az R w (w.setCell ⟨R,o,none⟩ v):=by
 refine⟨?_, ?_, ?_, ?_,fun k hk=>Below.heap_setCell w _ v k hk⟩<;>(unfold World.setCell;split<;>simp)
theorem az.refl(R:Nat)(w:tA):az R w w:=⟨rfl,rfl,rfl,rfl,fun _ _=>rfl⟩
theorem az.trans{a b c:tA}(h:az R a b)(k:az R b c):az R a c:=
 ⟨k.os.trans h.os,k.tape.trans h.tape,k.output.trans h.output,k.size.trans h.size,fun x hx=>(k.block x hx).trans (h.block x hx)⟩
theorem az.su(R:Nat):∀(vs:tK) (o:Nat) (w:tA),az R w (w.setCells R o vs)
 |[],_,w=>az.refl R w
 |_::vs,o,w=>(az.set R o w _).trans (az.su R vs (o+1) _)
theorem az.under{B:Nat}{w0:tA}(h:az R w w')(hb:Below B w0 w)(hR:B≤R):Below B w0 w':=
 ⟨h.os.trans hb.os,h.tape.trans hb.tape,h.output.trans hb.output,by rw[h.size];exact hb.size,fun k hk=>(h.block k (by omega)).trans (hb.block k hk)⟩
end
def bW(f:tC)(k n:Nat):List Value:=(List.range n).map fun i=>f (k+i)
theorem bI(f:tC)(k n:Nat):(bW f k n).length=n:=by simp[bW]
theorem cg(f:tC)(k n j:Nat)(h:j<n):(bW f k n)[j]? =some (f (k+j)):=by simp[bW,h]
theorem gw(f:tC)(k n j:Nat)(h:n≤j):(bW f k n)[j]? =none:=by simp[bW,h]
theorem xd{f g:tC}{k k' n:Nat}(h:∀i,i<n→f (k+i)=g (k'+i)):bW f k n=bW g k' n:=by
 apply List.ext_getElem?;intro i;by_cases hi:i<n
 ·rw[cg _ _ _ _ hi,cg _ _ _ _ hi,h i hi]
 ·rw[gw _ _ _ _ (by omega),gw _ _ _ _ (by omega)]
abbrev vF(f:tC)(n:Nat):Value:= .agg (bW f 0 n).toArray
def fS(f:tC)(k n:Nat)(g:tC):Nat→Value:=fun i=>if k≤i∧i<k+n then g (i-k)else f i
theorem BZ(f:tC)(k n:Nat)(g:tC)(i:Nat)(h:i<n):fS f k n g (k+i)=g i:=by
 unfold fS;rw[if_pos ⟨by omega,by omega⟩,show k+i-k=i by omega]
theorem py(f:tC)(k n:Nat)(g:tC)(i:Nat)(h:i<k∨k+n≤i):fS f k n g i=f i:=by
 unfold fS;rw[if_neg (by omega)]
def nS(f:tC)(k:Nat)(v:tJ):Nat→Value:=fun i=>if i=k then v else f i
theorem B_(f:tC)(k:Nat)(v:tJ):nS f k v k=v:=by simp[nS]
theorem pz(f:tC)(k:Nat)(v:tJ)(i:Nat)(h:i≠k):nS f k v i=f i:=by simp[nS,h]
def aT(f:tC)(n:Nat):Prop:=∀i,i<n→(f i).oneCell'=true
theorem aT.all{f:tC}{n:Nat}(h:aT f n):((bW f 0 n).toArray).all (·.oneCell')=true:=by
 refine all_oneCell_toArray ?_;intro v hv;simp only[bW,List.mem_map,List.mem_range,Nat.zero_add]at hv;obtain⟨i,hi,rfl⟩:=hv;exact h i hi
def aZ(w:tA)(R:Nat)(T:tT)(n:Nat)(f:tC):Prop:=w.heap[R]? =some (.cells (bW f 0 n).toArray T (0,0))
section
variable{w w':tA}{R T n:Nat}{f g:tC}
theorem aZ.lt(h:aZ w R T n f):R<w.heap.size:=by
 unfold aZ at h;rcases Nat.lt_or_ge R w.heap.size with h'|h'
 ·exact h'
 ·simp[Array.getElem?_eq_none h']at h
theorem aZ.below{B:Nat}(h:aZ w R T n f)(hb:Below B w w')(hR:R<B):aZ w' R T n f:=by
 unfold aZ at h⊢;rw[←h];exact hb.block R hR
theorem aZ.next(h:aZ w R T n f)(hb:bZ w w'):aZ w' R T n f:=h.below hb h.lt
theorem aZ.dD{R':Nat}(h:aZ w R T n f)(t:az R' w w')(hR:R≠R'):aZ w' R T n f:=by
 unfold aZ at h⊢;rw[t.block R hR];exact h
theorem aZ.congr(h:aZ w R T n f)(hg:∀i,i<n→f i=g i):aZ w R T n g:=by
 unfold aZ at h⊢;rw[h,xd (f:=f) (g:=g) (k:=0) (k':=0) (fun i hi=>by simpa using hg i hi)]
theorem aZ.new(w:tA)(T n:Nat)(f:tC):aZ (w.alloc (.cells (bW f 0 n).toArray T)) w.heap.size T n f:=heap_alloc_new w _
theorem aZ.free(h:aZ w R T n f)(o:Nat):w.frozen? ⟨R,o,none⟩=false:=by
 unfold aZ at h;simp[World.frozen?,h]
theorem aZ.at(h:aZ w R T n f)(i:Nat)(hi:i<n):w.cell? ⟨R,i,none⟩=some (f i):=by
 unfold aZ at h;simp only[World.cell?,h,List.getElem?_toArray];have:=cg f 0 n i hi;rw[Nat.zero_add]at this;simpa using this
theorem aZ.range(h:aZ w R T n f)(k m:Nat)(hk:k+m≤n):w.rangeAt R k (bW f k m):=fun j v hv=>by
 have hj:j<m:=by
  have:=(List.getElem?_eq_some_iff.1 hv).1;rwa [bI]at this
 rw[h.at (k+j) (by omega),←hv,cg f k m j hj]
theorem aZ.there(h:aZ w R T n f)(k m:Nat)(hk:k+m≤n):w.there R k m:=fun j hj=>by
 refine⟨?_,h.free _⟩;rw[h.at (k+j) (by omega)];rfl
theorem aZ.put(h:aZ w R T n f)(k m:Nat)(g:tC)(hk:k+m≤n):aZ (w.setCells R k (bW g 0 m)) R T n (fS f k m g):=by
 obtain⟨N9,h1,h2,h3⟩:=jj (R:=R) (bW g 0 m) k w _ _ h (by simp[bI];omega);unfold aZ;rw[h1];have:N9=(bW (fS f k m g) 0 n).toArray:=by
  apply Array.ext_getElem?;intro i;rw[h3];simp only[bI,List.getElem?_toArray];by_cases hi:i<n
  ·rw[cg (fS f k m g) _ _ _ hi,Nat.zero_add];by_cases hc:k≤i∧i<k+m
   ·rw[if_pos hc,cg _ _ _ _ (by omega),Nat.zero_add];simp only[fS,if_pos hc]
   ·rw[if_neg hc,cg _ _ _ _ hi,Nat.zero_add];simp only[fS,if_neg hc]
  ·rw[if_neg (by omega),gw _ _ _ _ (by omega),gw _ _ _ _ (by omega)]
 rw[this]
theorem aZ.set(h:aZ w R T n f)(k:Nat)(v:tJ)(hk:k<n):aZ (w.setCell ⟨R,k,none⟩ v) R T n (nS f k v):=by
 have h1:=h.put k 1 (fun _=>v) (by omega);have e:w.setCells R k (bW (fun _=>v) 0 1)=w.setCell ⟨R,k,none⟩ v:=rfl;rw[e]at h1;refine h1.congr fun i _=> ?_;unfold fS nS;by_cases hi:i=k
 ·rw[if_pos (by omega),if_pos hi]
 ·rw[if_neg (by omega),if_neg hi]
end
section
variable{P:tS}{ops:tL}{rest:List Oper}{o:Oper}{a:Act}{Q:tH}{w w':tA}{R T n:Nat}{f:tC}
theorem Eb(t:tT)(d:TypeDesc)(k m:Nat)(g:tC)(x:tP)(ho:o.op= .load t x)(hw:Region.wanted o (yielded ops a.tmps)=true)(hx:a.eval x= .pointer (some ⟨R,k,none⟩))(fb:aZ w R T n f)(hk:k+m≤n)
  (hu:P.underlying t=some d) (hd:d.isRow=true) (hi:(P.info? t).map (·.size)=some m) (hg:∀i,i<m→f (k+i)=g i)
  (h:wpList P ops Q rest (a.put o.dst (vF g m)) w):wpList P ops Q (o::rest) a w:=
 wpList_step fun K hK=>by
  rw[if_pos hw];have e:bW f k m=bW g 0 m:=xd (fun i hi=>by rw[Nat.zero_add];exact hg i hi);exact wp_load_mid t x ho R k hx (bW g 0 m) d (e▸fb.range k m hk) hu hd (by rw[bI];exact hi) (hK _ _ h)
theorem AB(t:tT)(k m:Nat)(g:tC)(x y:tP)(ho:o.op= .store t x y)(hw:Region.wanted o (yielded ops a.tmps)=true)(hx:a.eval x= .pointer (some ⟨R,k,none⟩))(hy:a.eval y=vF g m)(fb:aZ w R T n f)(hk:k+m≤n)
  (hi:(P.info? t).map (·.size)=some m) (h1:aT g m)
  (h:∀w',aZ w' R T n (fS f k m g)→az R w w'→wpList P ops Q rest (a.put o.dst undef) w'):wpList P ops Q (o::rest) a w:=
 wpList_step fun K hK=>by
  rw[if_pos hw];refine wp_store_mid t x y ho R k _ hx hy ?_ ?_ h1.all (hK _ _ (h _ ?_ (az.su R _ k w)))
  ·simpa[bI]using fb.there k m hk
  ·simpa[bI]using hi
  ·simpa using fb.put k m g hk
theorem Ou(t:tT)(m:Nat)(g:tC)(x:tP)(ho:o.op= .box t x)(hw:Region.wanted o (yielded ops a.tmps)=true)(hx:a.eval x=vF g m)
  (h:∀w',aZ w' w.heap.size t m g→bZ w w'→w'.heap.size=w.heap.size+1→wpList P ops Q rest (a.put o.dst (.pointer (some ⟨w.heap.size,0,none⟩))) w'):wpList P ops Q (o::rest) a w:=
 wpList_step fun K hK=>by
  rw[if_pos hw];have:=hK _ _ (h _ (aZ.new w t m g) (aA _ _) (by simp));unfold Oper.wp;simp only[execOp,ho,hx];simpa[go_sem]using this
end
section
variable{P:tS}{ops:tL}{Q:tH}{md:Region.Mode}{fx fl:tR}{E:World→World→Prop}
def fE(E:World→World→Prop)(fx fl:tR)(i:Nat)(w w':tA):Prop:=if fx.contains i then True else if fl.contains i then E w w' else w'=w
def zF(P:tS)(md:Region.Mode)(ops:tL)(Q:tH)(E:World→World→Prop)(fx fl:tR):Nat→Array Bool→Act→World→Prop
 |0,listed,a,w=>Region.ready md ops listed=[]∧Q .normal a w
 |n+1,listed,a,w=>(Region.ready md ops listed=[]→Q .normal a w)∧
  ∀i∈Region.ready md ops listed,wpOp P ops Q i (fun a' w'=>fE E fx fl i w w'∧zF P md ops Q E fx fl n (listed.setIfInBounds i true) a' w') a w
theorem Ec:∀(n:Nat) (listed:Array Bool) (a:Act) (w:tA),zF P md ops Q E fx fl n listed a w→wpAny P md ops Q n listed a w
 |0,_,_,_,h=>h
 |n+1,_,_,_,h=>⟨h.1,fun i hi=>wpOp_mono (fun a' w' h'=>Ec n _ a' w' h'.2) (h.2 i hi)⟩
def sw(md:Region.Mode)(ops:tL)(listed:Array Bool):Prop:=
 ∀j o,ops[j]? =some o→listed.getD j false=true→∀e∈o.after,Region.binds md e=true→listed.getD e.on false=true
theorem o7{l:Array Bool}{j:Nat}(h:l.getD j true=false):j<l.size∧l.getD j false=false:=by
 rcases Nat.lt_or_ge j l.size with h'|h'
 ·refine⟨h', ?_⟩;simp[h']at h⊢;exact h
 ·simp[Array.getElem?_eq_none h']at h
theorem sw.step{listed:Array Bool}{j:Nat}(h:sw md ops listed)(hj:j∈Region.ready md ops listed):sw md ops (listed.setIfInBounds j true):=by
 intro k o ho hk e he hb;obtain⟨_,oj,hoj,je⟩:=mem_ready.1 hj;by_cases hjk:j=k
 ·subst hjk;rw[ho]at hoj;cases hoj;exact getD_set_true (je e he hb)
 ·rw[getD_set_ne false hjk]at hk;exact getD_set_true (h k o ho hk e he hb)
theorem sw.start(n:Nat):sw md ops (Array.replicate n false):=by
 intro j o _ hj;exfalso;rcases Nat.lt_or_ge j n with h'|h'
 ·simp[h']at hj
 ·simp[Nat.not_lt.2 h']at hj
def ri(md:Region.Mode)(ops:tL):Nat→Nat→Nat→Bool
 |0,_,_=>false
 |n+1,j,i=>match ops[j]? with
  |none=>false
  |some o=>o.after.any fun e=>Region.binds md e&&(e.on==i||ri md ops n e.on i)
theorem sx{listed:Array Bool}(hd:sw md ops listed){i:Nat}:∀(n j:Nat) (o:Oper),ops[j]? =some o→(∀e∈o.after,Region.binds md e=true→listed.getD e.on false=true)→ri md ops n j i=true→listed.getD i false=true
 |0,_,_,_,_,h=>by simp[ri]at h
 |n+1,j,o,ho,je,h=>by
  simp only[ri,ho]at h;obtain⟨e,he,h⟩:=Array.any_eq_true'.1 h;simp only[Bool.and_eq_true,Bool.or_eq_true,beq_iff_eq]at h;obtain⟨hb,rfl|hw⟩:=h
  ·exact je e he hb
  ·cases hk:ops[e.on]? with
   |none=>cases n<;>simp[ri,hk]at hw
   |some ok=>exact sx hd n e.on ok hk (hd e.on ok hk (je e he hb)) hw
theorem G8(Ca:∀w,E w w)(Jy:∀w w1 w2,E w w1→E w1 w2→E w w2){i:Nat}{oi:Oper}{v:tJ}(hi:ops[i]? =some oi)(qE:∀(j:Nat) (o:Oper) cs b,ops[j]? =some o→o.op≠ .select cs b)(uw:fx.contains i=false)(Xe:fl.contains i=false)
  (hQ:∀c a w,Q (.panic c) (a.put oi.dst v) w→Q (.panic c) a w):
  ∀(fuel:Nat) (listed:Array Bool) (a:Act) (w:tA),sw md ops listed→
   (∀j oj,ops[j]? =some oj→j≠i→listed.getD j true=false→(∀e∈oj.after,Region.binds md e=true→e.on≠i)→oi.apart ops oj=true)→
   (∀j,listed.getD j true=false→fx.contains j=true→ri md ops ops.size j i=true)→
   i∈Region.ready md ops listed→YieldsIf P ops (E w) oi v a→
   zF P md ops Q E fx fl fuel (listed.setIfInBounds i true) (a.put oi.dst v) w→zF P md ops Q E fx fl (fuel+1) listed a w:=by
 have still:∀w,fE E fx fl i w w:=fun w=>by
  unfold fE;rw[uw,Xe];rfl
 intro fuel
 induction fuel with
 |zero=>
  intro listed a w _ _ _ hr hy H;refine⟨fun h=>(by rw[h]at hr;cases hr),fun j hj=> ?_⟩;by_cases hji:j=i
  ·subst hji;exact hy.wpOp hi (Ca w) ⟨still w,H⟩
  ·have:=ready_mono hj hji;rw[H.1]at this;cases this
 |succ fuel ih=>
  intro listed a w G9 hfree hlate hr hy H;refine⟨fun h=>(by rw[h]at hr;cases hr),fun j hj=> ?_⟩;by_cases hji:j=i
  ·subst hji;exact hy.wpOp hi (Ca w) ⟨still w,H⟩
  ·have h1:=H.2 j (ready_mono hj hji);obtain⟨hjun,oj,hoj,je⟩:=mem_ready.1 hj;have Xf:=(o7 (mem_ready.1 hr).1).2;have hq:fx.contains j=false:=by
    cases hq:fx.contains j with
    |false=>rfl
    |true=>
     have:=sx G9 _ j oj hoj je (hlate j hjun hq);rw[Xf]at this;cases this
   have Xg:∀e∈oj.after,Region.binds md e=true→e.on≠i:=fun e he hb heq=>by
    have h1:=je e he hb;rw[heq,Xf]at h1;cases h1
   have h2:=wpOp_putIf hoj (hfree j oj hoj hji hjun Xg) (fun cs b=>qE i oi cs b hi) (fun cs b=>qE j oj cs b hoj) hQ hy h1;have hun:∀k,(listed.setIfInBounds j true).getD k true=false→listed.getD k true=false:=fun k hk=>by
    by_cases hjk:j=k
    ·subst hjk;exact hjun
    ·rw[getD_set_ne true hjk]at hk;exact hk
   refine wpOp_mono (fun a' w' h3=> ?_) h2;obtain⟨hy',hT,hG⟩:=h3;have hww:E w w':=by
    unfold fE at hT;rw[hq]at hT;cases hl:fl.contains j with
    |true=>rw[hl]at hT;exact hT
    |false=>rw[hl]at hT;have hT:w'=w:=hT;rw[hT];exact Ca w
   refine⟨hT,ih (listed.setIfInBounds j true) a' w' (G9.step hj) (fun k ok hk GL hu N_=>hfree k ok hk GL (hun k hu) N_) (fun k hu hk=>hlate k (hun k hu) hk) (ready_mono hr (Ne.symm hji)) ?_ ?_⟩
   ·rcases hy' with⟨h1,h2⟩|h1
    ·exact .inl ⟨h1,fun u hu=>h2 u (Jy _ _ _ hww hu)⟩
    ·exact .inr h1
   ·rw[Array.setIfInBounds_comm _ _ hji];exact hG
theorem Ld{i:Nat}{oi:Oper}{v:tJ}(hi:ops[i]? =some oi)(qE:∀(j:Nat) (o:Oper) cs b,ops[j]? =some o→o.op≠ .select cs b)(uw:fx.contains i=false)(Xe:fl.contains i=false)
  (hQ:∀c a w,Q (.panic c) (a.put oi.dst v) w→Q (.panic c) a w):
  ∀(fuel:Nat) (listed:Array Bool) (a:Act) (w:tA),
   (∀j oj,ops[j]? =some oj→j≠i→listed.getD j true=false→(∀e∈oj.after,Region.binds md e=true→e.on≠i)→oi.apart ops oj=true)→
   i∈Region.ready md ops listed→Yields P ops oi v a→
   zF P md ops Q E fx fl fuel (listed.setIfInBounds i true) (a.put oi.dst v) w→zF P md ops Q E fx fl (fuel+1) listed a w:=by
 have still:∀w,fE E fx fl i w w:=fun w=>by
  unfold fE;rw[uw,Xe];rfl
 intro fuel
 induction fuel with
 |zero=>
  intro listed a w _ hr hy H;refine⟨fun h=>(by rw[h]at hr;cases hr),fun j hj=> ?_⟩;by_cases hji:j=i
  ·subst hji;exact hy.wpOp hi ⟨still w,H⟩
  ·have:=ready_mono hj hji;rw[H.1]at this;cases this
 |succ fuel ih=>
  intro listed a w hfree hr hy H;refine⟨fun h=>(by rw[h]at hr;cases hr),fun j hj=> ?_⟩;by_cases hji:j=i
  ·subst hji;exact hy.wpOp hi ⟨still w,H⟩
  ·have h1:=H.2 j (ready_mono hj hji);obtain⟨hjun,oj,hoj,je⟩:=mem_ready.1 hj;have Xf:=(o7 (mem_ready.1 hr).1).2;have Xg:∀e∈oj.after,Region.binds md e=true→e.on≠i:=fun e he hb heq=>by
    have h1:=je e he hb;rw[heq,Xf]at h1;cases h1
   have h2:=wpOp_put hoj (hfree j oj hoj hji hjun Xg) (fun cs b=>qE i oi cs b hi) (fun cs b=>qE j oj cs b hoj) hQ hy h1;have hun:∀k,(listed.setIfInBounds j true).getD k true=false→listed.getD k true=false:=fun k hk=>by
    by_cases hjk:j=k
    ·subst hjk;exact hjun
    ·rw[getD_set_ne true hjk]at hk;exact hk
   refine wpOp_mono (fun a' w' h3=> ?_) h2;obtain⟨hy',hT,hG⟩:=h3;refine⟨hT,ih (listed.setIfInBounds j true) a' w' (fun k ok hk GL hu N_=>hfree k ok hk GL (hun k hu) N_) (ready_mono hr (Ne.symm hji)) hy' ?_⟩;rw[Array.setIfInBounds_comm _ _ hji];exact hG
inductive Ord where
 |nil
 |rd (i:Nat) (t:Ord)
 |pu (i:Nat) (t:Ord)
 |ef (i:Nat) (t:Ord)
 |fk (i j:Nat) (s t:Ord)
 |f3 (i j k:Nat) (s t u:Ord)
def Ord.len:Ord→Nat
 | .nil=>0
 | .rd _ t=>t.len+1
 | .pu _ t=>t.len+1
 | .ef _ t=>t.len+1
 | .fk _ _ s _=>s.len+1
 | .f3 _ _ _ s _ _=>s.len+1
def kG(P:tS)(ops:tL)(Q:tH)(E:World→World→Prop)(fx fl:tR):Ord→Act→World→Prop
 | .nil,a,w=>Q .normal a w
 | .rd i t,a,w=>∃o v,ops[i]? =some o∧YieldsIf P ops (E w) o v a∧kG P ops Q E fx fl t (a.put o.dst v) w
 | .pu i t,a,w=>∃o v,ops[i]? =some o∧Yields P ops o v a∧kG P ops Q E fx fl t (a.put o.dst v) w
 | .ef i t,a,w=>wpOp P ops Q i (fun a' w'=>fE E fx fl i w w'∧kG P ops Q E fx fl t a' w') a w
 | .fk i j s t,a,w=>wpOp P ops Q i (fun a' w'=>fE E fx fl i w w'∧kG P ops Q E fx fl s a' w') a w∧wpOp P ops Q j (fun a' w'=>fE E fx fl j w w'∧kG P ops Q E fx fl t a' w') a w
 | .f3 i j k s t u,a,w=>wpOp P ops Q i (fun a' w'=>fE E fx fl i w w'∧kG P ops Q E fx fl s a' w') a w∧wpOp P ops Q j (fun a' w'=>fE E fx fl j w w'∧kG P ops Q E fx fl t a' w') a w∧wpOp P ops Q k (fun a' w'=>fE E fx fl k w w'∧kG P ops Q E fx fl u a' w') a w
def j8(md:Region.Mode)(ops:tL)(fx fl:tR):Ord→Array Bool→Bool
 | .nil,listed=>(Region.ready md ops listed).isEmpty
 | .rd i t,listed=>(Region.ready md ops listed).contains i&&Region.free md ops listed i&&fx.all (fun j=>listed.getD j true||ri md ops ops.size j i)&& !fx.contains i&& !fl.contains i&&j8 md ops fx fl t (listed.setIfInBounds i true)
 | .pu i t,listed=>(Region.ready md ops listed).contains i&&Region.free md ops listed i&& !fx.contains i&& !fl.contains i&&j8 md ops fx fl t (listed.setIfInBounds i true)
 | .ef i t,listed=>(Region.ready md ops listed==[i])&&j8 md ops fx fl t (listed.setIfInBounds i true)
 | .fk i j s t,listed=>(Region.ready md ops listed==[i,j])&&(s.len==t.len)&&j8 md ops fx fl s (listed.setIfInBounds i true)&&j8 md ops fx fl t (listed.setIfInBounds j true)
 | .f3 i j k s t u,listed=>(Region.ready md ops listed==[i,j,k])&&(s.len==t.len)&&(s.len==u.len)&&j8 md ops fx fl s (listed.setIfInBounds i true)&&j8 md ops fx fl t (listed.setIfInBounds j true)&&j8 md ops fx fl u (listed.setIfInBounds k true)
theorem eR(Ca:∀w,E w w)(Jy:∀w w1 w2,E w w1→E w1 w2→E w w2)(qE:Region.noSelect ops=true)(hQ:∀c a d v w,Q (.panic c) (a.put d v) w→Q (.panic c) a w):∀(σ:Ord) (listed:Array Bool) (a:Act) (w:tA),
  sw md ops listed→j8 md ops fx fl σ listed=true→kG P ops Q E fx fl σ a w→zF P md ops Q E fx fl σ.len listed a w
 | .nil,listed,a,w,_,hc,h=>⟨by simpa[j8]using hc,h⟩
 | .rd i t,listed,a,w,hd,hc,h=>by
  simp only[j8,Bool.and_eq_true]at hc;obtain⟨⟨⟨⟨⟨hr,hf⟩,hl⟩,hn⟩,sf⟩,hc⟩:=hc;obtain⟨o,v,ho,hy,h⟩:=h;have hr:i∈Region.ready md ops listed:=by simpa using hr
  refine G8 Ca Jy ho (Region.noSelect_spec qE) (by simpa using hn) (by simpa using sf) (fun c a w=>hQ c a _ _ w) _ listed a w hd (Region.free_spec ho hf) (fun j hu hq=> ?_) hr hy (eR Ca Jy qE hQ t _ _ _ (hd.step hr) hc h);have hj:j∈fx:=by simpa using hq
  have:=List.all_eq_true.1 hl j hj;rw[hu]at this;simpa using this
 | .pu i t,listed,a,w,hd,hc,h=>by
  simp only[j8,Bool.and_eq_true]at hc;obtain⟨⟨⟨⟨hr,hf⟩,hn⟩,sf⟩,hc⟩:=hc;obtain⟨o,v,ho,hy,h⟩:=h;have hr:i∈Region.ready md ops listed:=by simpa using hr
  exact Ld ho (Region.noSelect_spec qE) (by simpa using hn) (by simpa using sf) (fun c a w=>hQ c a _ _ w) _ listed a w (Region.free_spec ho hf) hr hy (eR Ca Jy qE hQ t _ _ _ (hd.step hr) hc h)
 | .ef i t,listed,a,w,hd,hc,h=>by
  simp only[j8,Bool.and_eq_true,beq_iff_eq]at hc;obtain⟨hr,hc⟩:=hc;have hi:i∈Region.ready md ops listed:=by rw[hr];simp
  refine⟨fun h0=>(by rw[h0]at hr;cases hr),fun j hj=> ?_⟩;rw[hr,List.mem_singleton]at hj;subst hj;exact wpOp_mono (fun a' w' h'=>⟨h'.1,eR Ca Jy qE hQ t _ _ _ (hd.step hi) hc h'.2⟩) h
 | .fk i j s t,listed,a,w,hd,hc,h=>by
  simp only[j8,Bool.and_eq_true,beq_iff_eq]at hc;obtain⟨⟨⟨hr,hlen⟩,hc⟩,hc'⟩:=hc;have hi:i∈Region.ready md ops listed:=by rw[hr];simp
  have hj:j∈Region.ready md ops listed:=by rw[hr];simp
  refine⟨fun h0=>(by rw[h0]at hr;cases hr),fun k hk=> ?_⟩;rw[hr]at hk;simp only[List.mem_cons,List.not_mem_nil,or_false]at hk;rcases hk with rfl|rfl
  ·exact wpOp_mono (fun a' w' h'=>⟨h'.1,eR Ca Jy qE hQ s _ _ _ (hd.step hi) hc h'.2⟩) h.1
  ·refine wpOp_mono (fun a' w' h'=>⟨h'.1, ?_⟩) h.2;show zF P md ops Q E fx fl s.len _ a' w';rw[hlen];exact eR Ca Jy qE hQ t _ _ _ (hd.step hj) hc' h'.2
 | .f3 i j k s t u,listed,a,w,hd,hc,h=>by
  simp only[j8,Bool.and_eq_true,beq_iff_eq]at hc;obtain⟨⟨⟨⟨⟨hr,hlen⟩,Ed⟩,hc⟩,hc'⟩,hc''⟩:=hc;have hi:i∈Region.ready md ops listed:=by rw[hr];simp
  have hj:j∈Region.ready md ops listed:=by rw[hr];simp
  have hk:k∈Region.ready md ops listed:=by rw[hr];simp
  refine⟨fun h0=>(by rw[h0]at hr;cases hr),fun x hx=> ?_⟩;rw[hr]at hx;simp only[List.mem_cons,List.not_mem_nil,or_false]at hx;rcases hx with rfl|rfl|rfl
  ·exact wpOp_mono (fun a' w' h'=>⟨h'.1,eR Ca Jy qE hQ s _ _ _ (hd.step hi) hc h'.2⟩) h.1
  ·refine wpOp_mono (fun a' w' h'=>⟨h'.1, ?_⟩) h.2.1;show zF P md ops Q E fx fl s.len _ a' w';rw[hlen];exact eR Ca Jy qE hQ t _ _ _ (hd.step hj) hc' h'.2
  ·refine wpOp_mono (fun a' w' h'=>⟨h'.1, ?_⟩) h.2.2;show zF P md ops Q E fx fl s.len _ a' w';rw[Ed];exact eR Ca Jy qE hQ u _ _ _ (hd.step hk) hc'' h'.2
theorem zG{id:Nat}{a:Act}{w:tA}(hm:P.follows .mixedOrders=true)(σ:Ord)(Ca:∀w,E w w)(Jy:∀w w1 w2,E w w1→E w1 w2→E w w2)
  (hc:(σ.len==ops.size&&Region.noSelect ops&&j8 .any ops fx fl σ (Array.replicate ops.size false))=true) (hQ:∀c a d v w,Q (.panic c) (a.put d v) w→Q (.panic c) a w)
  (h:kG P ops Q E fx fl σ a w.drew):(Code.region id ops true).wp P Q a w:=by
 simp only[Bool.and_eq_true,beq_iff_eq]at hc;obtain⟨⟨hl,hs⟩,hc⟩:=hc;refine wp_region_any hm (Ec (E:=E) (fx:=fx) (fl:=fl) _ _ _ _ ?_);have hG:=eR Ca Jy hs hQ σ _ a _ (sw.start _) hc h;rw[hl]at hG;exact hG
variable{a:Act}{w:tA}{t:Ord}{i:Nat}{o:Oper}
end
def kn(n:Nat)(f:tC):Array Value:=((List.range n).map f).toArray
def up(f:tC)(d:Nat)(v:tJ):Nat→Value:=fun i=>cond (Nat.beq i d) v (f i)
def upo(f:tC):Option Nat→Value→(Nat→Value)
 |some d,v=>up f d v
 |none,_=>f
def ev(f:tC):Operand→Value
 | .tmp t=>f t
 | .const v=>v
 | .global g=> .pointer (some ⟨g,0,none⟩)
 | .func g=> .func (.func g) #[] #[]
def Lf(vs:tK):Nat→Value
 |i=>vs.getD i undef
theorem xe(n:Nat)(f:tC):(kn n f).size=n:=by simp[kn]
theorem pA{n:Nat}{f:tC}{t:Nat}(h:t<n):(kn n f)[t]? =some (f t):=by simp[kn,h]
theorem S2(n:Nat)(f:tC)(d:Nat)(v:tJ):(kn n f).setIfInBounds d v=kn n (up f d v):=by
 apply Array.ext_getElem?;intro i;by_cases hi:i<n
 ·rw[pA hi];by_cases hd:d=i
  ·subst hd;rw[Array.getElem?_setIfInBounds_self_of_lt (by rw[xe];exact hi)];have e:up f d v d=v:=by
    unfold up;rw[show Nat.beq d d=true from Nat.beq_refl d];rfl
   rw[e]
  ·rw[Array.getElem?_setIfInBounds_ne hd,pA hi];have e:up f d v i=f i:=by
    unfold up;cases hb:Nat.beq i d with
    |false=>rfl
    |true=>exact absurd (Nat.eq_of_beq_eq_true hb).symm hd
   rw[e]
 ·rw[Array.getElem?_eq_none (by simp[kn];omega),Array.getElem?_eq_none (by rw[xe];omega)]
theorem mB(n:Nat)(f:tC)(d:Option Nat)(v:tJ):(⟨kn n f,[]⟩:Act).put d v=⟨kn n (upo f d v),[]⟩:=by
 cases d with
 |none=>rfl
 |some d=>simp only[Act.put,S2];rfl
def ZI(n:Nat):Operand→Bool
 | .tmp t=>Nat.blt t n
 |_=>true
def S3(n:Nat)(o:Oper):Bool:=(match o.op with| .select .. =>false|_=>true)&&o.op.operands.all (ZI n)
def iU(n:Nat)(ops:tL):Bool:=ops.all (S3 n)
theorem mP{n:Nat}{ops:tL}{i:Nat}{o:Oper}(h:iU n ops=true)(ho:ops[i]? =some o):S3 n o=true:=Array.all_eq_true_iff_forall_mem.1 h o (Array.mem_of_getElem? ho)
theorem cF{a b:Nat}(h:Nat.ble a b=true):a≤b:=Nat.le_of_ble_eq_true h
theorem Cb{n:Nat}{f:tC}{x:tP}(h:ZI n x=true):(⟨kn n f,[]⟩:Act).eval x=ev f x:=by
 cases x with
 |tmp t=>
  have ht:t<n:=by simpa[ZI,Nat.blt_eq]using h
  simp only[Act.eval,ev];rw[Array.getD_eq_getD_getElem?,pA ht];rfl
 |_=>rfl
theorem qg{n:Nat}{f:tC}{o:Oper}(h:S3 n o=true):execOp (⟨kn n f,[]⟩:Act).eval o=execOp (ev f) o:=by
 simp only[S3,Bool.and_eq_true]at h;refine execOp_congr o (fun cs b e=>by rw[e]at h;simp at h) (fun x hx=>Cb ?_);exact Array.all_eq_true_iff_forall_mem.1 h.2 x hx
theorem S4(n:Nat)(vs:tK)(h:vs.length≤n):vs.toArray++Array.replicate (n-vs.toArray.size) undef=kn n (Lf vs):=by
 apply Array.ext_getElem?;intro i;by_cases hi:i<n
 ·rw[pA hi];by_cases hv:i<vs.length
  ·rw[Array.getElem?_append_left (by simpa using hv)];simp[Lf,hv]
  ·rw[Array.getElem?_append_right (by simpa using hv)];have e:Lf vs i=undef:=by
    unfold Lf;rw[List.getD_eq_getElem?_getD,List.getElem?_eq_none (by omega)];rfl
   rw[e,Array.getElem?_replicate,if_pos (by simp;omega)]
 ·rw[Array.getElem?_eq_none (by simp;omega),Array.getElem?_eq_none (by rw[xe];omega)]
theorem Ov{P:tS}{f:FuncId}{fn:Func}{c:Code}{vs:tK}{w:tA}{R:Ending→World→Prop}(n:Nat)(hf:P.funcs[f]? =some fn)(hb:fn.body=some c)(hn:fn.ntmps=n)(hl:vs.length≤n)
  (h:c.wp P (bodyPost P fn R) ⟨kn n (Lf vs),[]⟩ w):Calls P f vs.toArray w R:=by
 refine calls_of_wp hf hb ?_;rw[hn,S4 n vs hl];exact h
structure dk(U:tD)(w w':tA):Prop where
 os:w'.os=w.os
 tape:w'.tape=w.tape
 output:w'.output=w.output
 size:w.heap.size≤w'.heap.size
 block:∀b,b<w.heap.size→¬U b→w'.heap[b]? =w.heap[b]?
theorem dk.below{U:tD}{w w':tA}(h:dk U w w'){B:Nat}(hB:B≤w.heap.size)(hU:∀b,b<B→¬U b):Below B w w':=⟨h.os,h.tape,h.output,h.size,fun b hb=>h.block b (by omega) (hU b hb)⟩
theorem dk.of{U:tD}{w w':tA}(h:bZ w w'):dk U w w':=⟨h.os,h.tape,h.output,h.size,fun b hb _=>h.block b hb⟩
theorem dk.trans{U V:tD}{w w1 w2:tA}(h:dk U w w1)(k:dk V w1 w2)(hV:∀b,b<w.heap.size→V b→U b):dk U w w2:=
 ⟨k.os.trans h.os,k.tape.trans h.tape,k.output.trans h.output,Nat.le_trans h.size k.size,fun b hb hu=>(k.block b (Nat.lt_of_lt_of_le hb h.size) (fun hv=>hu (hV b hb hv))).trans (h.block b hb hu)⟩
structure bQ where
 a:Nat
 t:TypeId
 n:Nat
 f:Nat→Value
structure Mem(w:tA)(H:List bQ)(M:tD)(G R:tI):Prop where
 ib:∀e∈H,aZ w e.a e.t e.n e.f
 nT:∀(i j:Nat) (x y:bQ),H[i]? =some x→H[j]? =some y→x.a=y.a→i=j
 off:∀e∈H,¬M e.a
 mlt:∀b,M b→b<w.heap.size
 g:∀w',dk (fun b=>b∈H.map bQ.a∨M b) w w'→G w'
 r:∀w',dk (fun b=>b∈H.map bQ.a) w w'→R w'
theorem Mem.start{w:tA}{M:tD}{G R:tI}(hM:∀b,M b→b<w.heap.size)(hG:∀w',dk M w w'→G w')(hR:∀w',bZ w w'→R w'):Mem w [] M G R:=
 ⟨fun e he=>(by cases he),fun i j x y hi=>(by simp at hi),fun e he=>(by cases he),hM,fun w' h=>hG w' ⟨h.os,h.tape,h.output,h.size,fun b hb hm=>h.block b hb (fun h=>h.elim (fun h=>by cases h) hm)⟩,fun w' h=>hR w' (h.below (Nat.le_refl _) (fun b _ h=>by cases h))⟩
section
variable{w w':tA}{H:List bQ}{M:tD}{G R:tI}
theorem Mem.lt(h:Mem w H M G R){b:Nat}(hb:b∈H.map bQ.a):b<w.heap.size:=by
 obtain⟨e,he,rfl⟩:=List.mem_map.1 hb;exact(h.ib e he).lt
theorem Mem.now(h:Mem w H M G R):G w∧R w:=⟨h.g w ⟨rfl,rfl,rfl,Nat.le_refl _,fun _ _ _=>rfl⟩,h.r w ⟨rfl,rfl,rfl,Nat.le_refl _,fun _ _ _=>rfl⟩⟩
theorem Mem.next(h:Mem w H M G R)(hb:bZ w w'):Mem w' H M G R:=
 ⟨fun e he=>(h.ib e he).next hb,h.nT,h.off,fun b hm=>Nat.lt_of_lt_of_le (h.mlt b hm) hb.size,fun w2 h2=>h.g w2 ((dk.of hb).trans h2 fun _ _ h=>h),fun w2 h2=>h.r w2 ((dk.of hb).trans h2 fun _ _ h=>h)⟩
theorem Mem.more(h:Mem w H M G R)(hb:bZ w w'){t n:Nat}{f:tC}(hn:aZ w' w.heap.size t n f):Mem w' (H++[⟨w.heap.size,t,n,f⟩]) M G R:=by
 have h1:=h.next hb;have key:∀b,b<w.heap.size→b∈(H++[(⟨w.heap.size,t,n,f⟩:bQ)]).map bQ.a→b∈H.map bQ.a:=fun b hb hm=>by
  simp only[List.map_append,List.mem_append,List.map_cons,List.map_nil,List.mem_singleton]at hm;rcases hm with hm|rfl
  ·exact hm
  ·omega
 refine⟨fun e he=> ?_, ?_,fun e he=> ?_,h1.mlt,fun w2 h2=>h.g w2 ((dk.of hb).trans h2 fun b hb hm=>hm.imp (key b hb) id),fun w2 h2=>h.r w2 ((dk.of hb).trans h2 key)⟩
 ·rcases List.mem_append.1 he with he|he
  ·exact h1.ib e he
  ·rw[List.mem_singleton.1 he];exact hn
 ·have nU:∀i x,i<H.length→(H++[(⟨w.heap.size,t,n,f⟩:bQ)])[i]? =some x→H[i]? =some x∧x.a<w.heap.size:=fun i x hi hx=>by
   rw[List.getElem?_append_left hi]at hx;exact⟨hx,(h.ib x (List.mem_of_getElem? hx)).lt⟩
  have new:∀i x,¬i<H.length→(H++[(⟨w.heap.size,t,n,f⟩:bQ)])[i]? =some x→i=H.length∧x.a=w.heap.size:=fun i x hi hx=>by
   rw[List.getElem?_append_right (by omega)]at hx;obtain⟨h1,h2⟩:=List.getElem?_eq_some_iff.1 hx;simp at h1;refine⟨by omega, ?_⟩;rw[←h2];simp[h1]
  intro i j x y hx hy Cc;by_cases hi:i<H.length<;>by_cases hj:j<H.length
  ·exact h.nT i j x y (nU i x hi hx).1 (nU j y hj hy).1 Cc
  ·have:=(nU i x hi hx).2;have:=(new j y hj hy).2;omega
  ·have:=(new i x hi hx).2;have:=(nU j y hj hy).2;omega
  ·have:=(new i x hi hx).1;have:=(new j y hj hy).1;omega
 ·rcases List.mem_append.1 he with he|he
  ·exact h.off e he
  ·rw[List.mem_singleton.1 he];exact fun hm=>absurd (h.mlt _ hm) (Nat.lt_irrefl _)
theorem ux{l:List bQ}{k:Nat}{e e':bQ}(hk:l[k]? =some e)(ha:e'.a=e.a):(l.set k e').map bQ.a=l.map bQ.a:=by
 apply List.ext_getElem?;intro i;simp only[List.getElem?_map,List.getElem?_set];by_cases hi:k=i
 ·subst hi;obtain⟨aL,he⟩:=List.getElem?_eq_some_iff.1 hk;simp[aL,ha,he]
 ·simp[hi]
theorem Mem.turn(h:Mem w H M G R){k:Nat}{e:bQ}(hk:H[k]? =some e)(ht:az e.a w w'){f':tC}(hn:aZ w' e.a e.t e.n f'):Mem w' (H.set k ⟨e.a,e.t,e.n,f'⟩) M G R:=by
 have hm:e∈H:=List.mem_of_getElem? hk;have ea:=ux (e':=⟨e.a,e.t,e.n,f'⟩) hk rfl;have ch:dk (fun b=>b∈H.map bQ.a) w w':=⟨ht.os,ht.tape,ht.output,Nat.le_of_eq ht.size.symm,fun b _ hb=>ht.block b (fun he=>hb (List.mem_map.2 ⟨e,hm,he.symm⟩))⟩;refine⟨fun x hx=> ?_, ?_,fun x hx=> ?_,fun b hb=>by rw[ht.size];exact h.mlt b hb,fun w2 h2=> ?_,fun w2 h2=> ?_⟩
 ·obtain⟨i,hi⟩:=List.getElem?_of_mem hx;rw[List.getElem?_set]at hi;by_cases GL:k=i
  ·subst GL;rw[if_pos rfl]at hi;split at hi
   ·cases hi;exact hn
   ·cases hi
  ·rw[if_neg GL]at hi;refine(h.ib x (List.mem_of_getElem? hi)).dD ht (fun he=> ?_);exact GL (h.nT k i e x hk hi he.symm)
 ·have nU:∀(i:Nat) (x:bQ),(H.set k ⟨e.a,e.t,e.n,f'⟩)[i]? =some x→∃y,H[i]? =some y∧y.a=x.a:=fun i x hx=>by
   rw[List.getElem?_set]at hx;by_cases GL:k=i
   ·subst GL;rw[if_pos rfl]at hx;split at hx
    ·cases hx;exact⟨e,hk,rfl⟩
    ·cases hx
   ·rw[if_neg GL]at hx;exact⟨x,hx,rfl⟩
  intro i j x y hx hy Cc;obtain⟨x',hx',ex⟩:=nU i x hx;obtain⟨y',hy',ey⟩:=nU j y hy;exact h.nT i j x' y' hx' hy' (by rw[ex,ey,Cc])
 ·have:x.a∈(H.set k ⟨e.a,e.t,e.n,f'⟩).map bQ.a:=List.mem_map.2 ⟨x,hx,rfl⟩;rw[ea]at this;obtain⟨y,hy,hya⟩:=List.mem_map.1 this;rw[←hya];exact h.off y hy
 ·rw[ea]at h2;refine h.g w2 (dk.trans (U:=fun b=>b∈H.map bQ.a∨M b) ⟨ch.os,ch.tape,ch.output,ch.size,fun b hb hu=>ch.block b hb (fun h=>hu (.inl h))⟩ h2 fun _ _ h=>h)
 ·rw[ea]at h2;exact h.r w2 (ch.trans h2 fun _ _ h=>h)
theorem Mem.add(h:Mem w H M G R){φ:tI}(ZJ:∀w',dk (fun b=>b∈H.map bQ.a∨M b) w w'→φ w'):Mem w H M (fun w=>G w∧φ w) R:=
 ⟨h.ib,h.nT,h.off,h.mlt,fun w' h'=>⟨h.g w' h',ZJ w' h'⟩,h.r⟩
theorem Mem.take(h:Mem w H M G R)(k:Nat):Mem w (H.take k) M G R:=by
 have sub:∀b,b∈(H.take k).map bQ.a→b∈H.map bQ.a:=fun b hb=>by
  obtain⟨e,he,rfl⟩:=List.mem_map.1 hb;exact List.mem_map.2 ⟨e,List.mem_of_mem_take he,rfl⟩
 refine⟨fun e he=>h.ib e (List.mem_of_mem_take he),fun i j x y hi hj=> ?_,fun e he=>h.off e (List.mem_of_mem_take he),h.mlt,fun w' c=>h.g w' ⟨c.os,c.tape,c.output,c.size,fun b hb hu=>c.block b hb fun hm=>hu (hm.imp (sub b) id)⟩,fun w' c=>h.r w' ⟨c.os,c.tape,c.output,c.size,fun b hb hu=>c.block b hb fun hm=>hu (sub b hm)⟩⟩;have nU:∀(i:Nat) (x:bQ),(H.take k)[i]? =some x→H[i]? =some x:=fun i x hx=>by
  rw[List.getElem?_take]at hx;split at hx
  ·exact hx
  ·cases hx
 exact h.nT i j x y (nU i x hi) (nU j y hj)
theorem rj(nT:∀(i j:Nat) (x y:bQ),H[i]? =some x→H[j]? =some y→x.a=y.a→i=j):∀σ:List Nat,σ.Nodup→(σ.filterMap (H[·]?)).Pairwise (fun x y=>x.a≠y.a)
 |[],_=>List.Pairwise.nil
 |i::σ,hσ=>by
  obtain⟨h1,h2⟩:=List.nodup_cons.1 hσ;cases hx:H[i]? with
  |none=>rw[List.filterMap_cons_none (by simpa using hx)];exact rj nT σ h2
  |some x=>
   rw[List.filterMap_cons_some (b:=x) (by simpa using hx),List.pairwise_cons];refine⟨fun y hy he=> ?_,rj nT σ h2⟩;obtain⟨j,hj,hjy⟩:=List.mem_filterMap.1 hy;have:=nT i j x y hx hjy he;exact h1 (this▸hj)
theorem Mem.G_(h:Mem w H M G R)(σ:tR)(hσ:σ.Nodup):Mem w (σ.filterMap (H[·]?)) M G R:=by
 have mem:∀e,e∈σ.filterMap (H[·]?)→e∈H:=fun e he=>by
  obtain⟨j,_,hj⟩:=List.mem_filterMap.1 he;exact List.mem_of_getElem? hj
 have sub:∀b,b∈(σ.filterMap (H[·]?)).map bQ.a→b∈H.map bQ.a:=fun b hb=>by
  obtain⟨e,he,rfl⟩:=List.mem_map.1 hb;exact List.mem_map.2 ⟨e,mem e he,rfl⟩
 refine⟨fun e he=>h.ib e (mem e he),fun i j x y hi hj Cc=> ?_,fun e he=>h.off e (mem e he),h.mlt,fun w' c=>h.g w' ⟨c.os,c.tape,c.output,c.size,fun b hb hu=>c.block b hb fun hm=>hu (hm.imp (sub b) id)⟩,fun w' c=>h.r w' ⟨c.os,c.tape,c.output,c.size,fun b hb hu=>c.block b hb fun hm=>hu (sub b hm)⟩⟩;have hp:=List.pairwise_iff_getElem.1 (rj h.nT σ hσ);obtain⟨li,rfl⟩:=List.getElem?_eq_some_iff.1 hi;obtain⟨lj,rfl⟩:=List.getElem?_eq_some_iff.1 hj;rcases Nat.lt_trichotomy i j with aL|heq|Lg
 ·exact absurd Cc (hp i j li lj aL)
 ·exact heq
 ·exact absurd Cc.symm (hp j i lj li Lg)
theorem Mem.said{G':tI}(h:Mem w H M G R)(hg:∀w,G w→G' w):Mem w H M G' R:=⟨h.ib,h.nT,h.off,h.mlt,fun w' c=>hg w' (h.g w' c),h.r⟩
theorem Mem.congr(h:Mem w H M G R)(k:Nat){e:bQ}(hk:H[k]? =some e)(f':tC)(hf:∀i,i<e.n→e.f i=f' i):Mem w (H.set k ⟨e.a,e.t,e.n,f'⟩) M G R:=
 h.turn hk (az.refl e.a w) ((h.ib e (List.mem_of_getElem? hk)).congr hf)
theorem Mem.at(h:Mem w H M G R)(k:Nat){e:bQ}(hk:H[k]? =some e):aZ w e.a e.t e.n e.f:=h.ib e (List.mem_of_getElem? hk)
end
section
variable{P:tS}{ops:tL}{rest:List Oper}{o:Oper}{a:Act}{Q:tH}{w w':tA}
theorem sA{t:tT}{v:tJ}(h:(P.info? t).map (·.zero)=some (some v))(w:tA):(zeroValue t).run P w= .ok v w:=by
 cases hq:P.info? t with
 |none=>simp[hq]at h
 |some i=>
  have hs:i.zero=some v:=by simpa[hq]using h
  simp[zeroValue,typeInfo,Sem.run_bind,hq,hs]
theorem Ee(t:tT)(m:Nat)(z:tC)(ho:o.op= .alloc t)(hw:Region.wanted o (yielded ops a.tmps)=true)(hz:(P.info? t).map (·.zero)=some (some (vF z m)))
  (h:∀w',aZ w' w.heap.size t m z→bZ w w'→w'.heap.size=w.heap.size+1→wpList P ops Q rest (a.put o.dst (.pointer (some ⟨w.heap.size,0,none⟩))) w'):wpList P ops Q (o::rest) a w:=
 wpList_step fun K hK=>by
  rw[if_pos hw];have:=hK _ _ (h _ (aZ.new w t m z) (aA _ _) (by simp));unfold Oper.wp;simp only[execOp,ho];simpa[go_sem,sA hz]using this
theorem AD(Z:tN)(off:Nat):∀(l:tK) (k:Nat),off+k+l.length≤Z.size→(List.foldl (fun(cs:tN) (x:Value×Nat)=>cs.setIfInBounds (off+x.2) x.1) Z (l.zipIdx k)).size=Z.size∧
  ∀i,(List.foldl (fun(cs:tN) (x:Value×Nat)=>cs.setIfInBounds (off+x.2) x.1) Z (l.zipIdx k))[i]? =if off+k≤i∧i<off+k+l.length then l[i-(off+k)]? else Z[i]?
 |[],k,_=>⟨rfl,fun i=>by rw[if_neg (by simp)];rfl⟩
 |v::l,k,h=>by
  simp only[List.length_cons]at h;obtain⟨h1,h2⟩:=AD (Z.setIfInBounds (off+k) v) off l (k+1) (by simp;omega);simp only[List.zipIdx_cons,List.foldl_cons];refine⟨by simpa using h1,fun i=> ?_⟩;rw[h2];by_cases ha:off+(k+1)≤i∧i<off+(k+1)+l.length
  ·rw[if_pos ha,if_pos ⟨by omega,by simp;omega⟩,show i-(off+k)=(i-(off+(k+1)))+1 by omega];rfl
  ·rw[if_neg ha];by_cases hi:i=off+k
   ·subst hi;rw[if_pos ⟨by omega,by simp⟩];simp[show off+k<Z.size by omega]
   ·rw[if_neg (by simp;omega)];simp[show ¬off+k=i by omega]
theorem run_build{t:tT}{fields:Array Go.Field}{places:Array (Nat×Nat)}{z g:tC}{n:Nat}{parts:Array (Nat×Value)}(hz:(P.info? t).map (·.zero)=some (some (vF z n)))(hu:P.underlying t=some (.struct fields))
  (hp:∀w,Sem.run P (Array.mapM (m:=Sem) (fun(f:Go.Field)=>do let s←sizeOf f.type;pure (f.offset,s)) fields) w= .ok places w) (hf:Instr.fill (places[·]?) (bW z 0 n).toArray parts.toList=some (bW g 0 n).toArray) (w:tA):(Instr.build t parts).run P w= .ok (vF g n) w:=by
 have hc:(vF z n).cells=(bW z 0 n).toArray:=rfl;simp only[Instr.build,Sem.run_bind,sA hz,Result.andThen_ok,run_underlying hu,hp,hc,hf,Sem.run_pure]
theorem Ox{t:tT}{n:Nat}(parts:Array (Nat×Operand))(vs:Array (Nat×Value))(g:tC)(ho:o.op= .build t parts)(hw:Region.wanted o (yielded ops a.tmps)=true)(hv:(parts.map fun(i,x)=>(i,a.eval x))=vs)
  (hb:(Instr.build t vs).run P w= .ok (vF g n) w)
  (h:wpList P ops Q rest (a.put o.dst (vF g n)) w):wpList P ops Q (o::rest) a w:=
 wpList_step fun K hK=>by
  rw[if_pos hw];have:=hK _ _ h;unfold Oper.wp;simp only[execOp,ho,hv,Sem.run_bind,hb,Result.andThen_ok,Sem.run_pure];exact this
end
abbrev AE(V:tR):World→World→Prop:=fun w w'=>dk (fun b=>b∈V) w w'
theorem nv{a:Nat}:a∉([]:tR):=fun h=>by cases h
abbrev WF(P:tS)(ops:tL)(Q:tH)(V:tR)(fx fl:tR)(σ:Ord)(n:Nat)(f:tC)(w:tA):Prop:=kG P ops Q (AE V) fx fl σ ⟨kn n f,[]⟩ w
def sB(P:tS)(s k:Nat):Option Nat:=
 match P.underlying s with
 |some (.struct fs)=>match fs[k]? with
  |some f=>match P.info? f.type with
   |some i=>if i.size=0 then none else some f.offset
   |none=>none
  |none=>none
 |_=>none
def Ef(P:tS)(t:Nat):Option (Nat×Nat):=
 match P.underlying t with
 |some (.array len e)=>(P.info? e).map fun i=>(len,i.size)
 |_=>none
def iW(P:tS)(t:Nat):Option Nat:=
 match P.underlying t with
 |some (.slice e)=>(P.info? e).map fun i=>i.size
 |_=>none
def o_(P:tS)(t:Nat):Bool:=
 match P.underlying t with
 |some (.struct _)|some (.array ..)=>false
 |some _=>(P.info? t).any fun i=>i.size==1
 |none=>false
def vo(P:tS)(t m:Nat):Bool:=
 match P.underlying t with
 |some (.struct _)|some (.array ..)=>(P.info? t).any fun i=>i.size==m
 |_=>false
theorem AF{P:tS}{s k off:Nat}(h:sB P s k=some off)(b o:Nat)(w:tA):(Instr.fieldAt s (.pointer (some ⟨b,o,none⟩)) k).run P w= .ok (.pointer (some ⟨b,o+off,none⟩)) w:=by
 unfold sB at h;split at h
 ·rename_i fs hu;split at h
  ·rename_i f hf;split at h
   ·rename_i i hi;split at h
    ·cases h
    ·rename_i hs;cases h;simp[Instr.fieldAt,run_underlying hu,hf,Instr.sureAddr,fieldPlace,sizeOf,typeInfo,hi,hs,Addr.add_mid]
   ·cases h
  ·cases h
 ·cases h
theorem Cf{P:tS}{t len sz:Nat}(h:Ef P t=some (len,sz))(b o j:Nat)(hj:j<len)(w:tA):(Instr.indexAt t (.pointer (some ⟨b,o,none⟩)) (iV (j:Int))).run P w= .ok (.pointer (some ⟨b,o+j*sz,none⟩)) w:=by
 unfold Ef at h;split at h
 ·rename_i l e hu;cases hi:P.info? e with
  |none=>simp[hi]at h
  |some i=>
   simp[hi]at h;obtain⟨rfl,rfl⟩:=h;simp[Instr.indexAt,run_underlying hu,asIntOf,Instr.sureAddr,sizeOf,typeInfo,hi,Addr.add_mid];intro h3;omega
 ·cases h
theorem S5{P:tS}{t sz:Nat}(h:iW P t=some sz)(b o len cap j:Nat)(hj:j<len)(w:tA):(Instr.indexAt t (.slice (some ⟨b,o,none⟩) len cap) (iV (j:Int))).run P w= .ok (.pointer (some ⟨b,o+j*sz,none⟩)) w:=by
 unfold iW at h;split at h
 ·rename_i e hu;cases hi:P.info? e with
  |none=>simp[hi]at h
  |some i=>
   simp[hi]at h;subst h;simp[Instr.indexAt,run_underlying hu,asIntOf,sizeOf,typeInfo,hi,Addr.add_mid];intro h3;omega
 ·cases h
theorem Cg{P:tS}{t:Nat}(h:o_ P t=true){b o:Nat}{v:tJ}{w:tA}(hc:w.cell? ⟨b,o,none⟩=some v):(Instr.loadAt t (.pointer (some ⟨b,o,none⟩))).run P w= .ok v w:=by
 unfold o_ at h;split at h
 ·cases h
 ·cases h
 ·rename_i d h1 h2 hu;have:(isAgg t).run P w= .ok false w:=by
   simp only[isAgg,Sem.run_bind,run_underlying hu,Result.andThen_ok];cases d<;>first|exact absurd rfl (h1 _)|exact absurd rfl (h2 _ _)|rfl
  simp[Instr.loadAt,Instr.sureAddr,loadVar,this,hc]
 ·cases h
theorem Oy{P:tS}{t:Nat}(h:o_ P t=true):(P.info? t).map (·.size)=some 1:=by
 unfold o_ at h;split at h
 ·cases h
 ·cases h
 ·cases hi:P.info? t with
  |none=>simp[hi]at h
  |some i=>simpa[hi]using h
 ·cases h
theorem ru{P:tS}{t m:Nat}(h:vo P t m=true):∃d,P.underlying t=some d∧d.isRow=true∧(P.info? t).map (·.size)=some m:=by
 unfold vo at h;split at h
 ·rename_i fs hu;refine⟨_,hu,rfl, ?_⟩;cases hi:P.info? t with
  |none=>simp[hi]at h
  |some i=>simpa[hi]using h
 ·rename_i n e hu;refine⟨_,hu,rfl, ?_⟩;cases hi:P.info? t with
  |none=>simp[hi]at h
  |some i=>simpa[hi]using h
 ·cases h
theorem xg{α β:Type}(g:α→β)(xs:Array α):xs.map g=(xs.toList.map g).toArray:=by
 apply Array.ext';simp
theorem aZ.Ch{w w':tA}{R T n:Nat}{f:tC}{V:tR}(h:aZ w R T n f)(c:dk (fun b=>b∈V) w w')(hV:R∉V):aZ w' R T n f:=by
 unfold aZ at h⊢;rw[←h];exact c.block R (aZ.lt (f:=f) (T:=T) (n:=n) h) hV
section
variable{P:tS}{ops:tL}{Q:tH}{V:tR}{fx fl:tR}{n:Nat}{f:tC}{w:tA}{i:Nat}{t:Ord}{o:Oper}{d:Nat}
theorem nl(h:Q .normal ⟨kn n f,[]⟩ w):WF P ops Q V fx fl .nil n f w:=h
theorem Oz{v:tJ}(ho:ops[i]? =some o)(hd:o.dst=some d)(hw:Region.wanted o (yielded ops (kn n f))=true)(hK:iU n ops=true)(hv:∀w',AE V w w'→(execOp (ev f) o).run P w'= .ok (.value v) w')
  (h:WF P ops Q V fx fl t n (up f d v) w):WF P ops Q V fx fl (.rd i t) n f w:=by
 refine⟨o,v,ho,.inl ⟨hw,fun w' hb=> ?_⟩, ?_⟩
 ·rw[qg (mP hK ho)];exact hv w' hb
 ·rw[mB,hd];exact h
theorem AG{v:tJ}(ho:ops[i]? =some o)(hd:o.dst=some d)(hw:Region.wanted o (yielded ops (kn n f))=true)(hK:iU n ops=true)(hv:∀w',(execOp (ev f) o).run P w'= .ok (.value v) w')
  (h:WF P ops Q V fx fl t n (up f d v) w):WF P ops Q V fx fl (.pu i t) n f w:=by
 refine⟨o,v,ho,.inl ⟨hw,fun w'=> ?_⟩, ?_⟩
 ·rw[qg (mP hK ho)];exact hv w'
 ·rw[mB,hd];exact h
theorem acQ(ho:ops[i]? =some o)(hd:o.dst=some d)(hw:Region.wanted o (yielded ops (kn n f))=false)(h:WF P ops Q V fx fl t n (up f d undef) w):WF P ops Q V fx fl (.pu i t) n f w:=by
 refine⟨o,undef,ho,.inr ⟨hw,rfl⟩, ?_⟩;rw[mB,hd];exact h
theorem acR(ho:ops[i]? =some o)(hd:o.dst=some d)(hw:Region.wanted o (yielded ops (kn n f))=false)(h:WF P ops Q V fx fl t n (up f d undef) w):WF P ops Q V fx fl (.rd i t) n f w:=by
 refine⟨o,undef,ho,.inr ⟨hw,rfl⟩, ?_⟩;rw[mB,hd];exact h
def ry:BinOp→Int→Int→Option Bool
 | .eql,a,b=>some (a==b)
 | .neq,a,b=>some (a !=b)
 | .lss,a,b=>some (a<b)
 | .leq,a,b=>some (a≤b)
 | .gtr,a,b=>some (a>b)
 | .geq,a,b=>some (a≥b)
 |_,_,_=>none
theorem YX{a b:Int}(h:a=b):ry .eql a b=some true:=congrArg some (beq_iff_eq.2 h)
theorem YY{a b:Int}(h:¬a=b):ry .eql a b=some false:=congrArg some (beq_eq_false_iff_ne.2 h)
theorem neT{a b:Int}(h:¬a=b):ry .neq a b=some true:=congrArg some (bne_iff_ne.2 h)
theorem neF{a b:Int}(h:a=b):ry .neq a b=some false:=congrArg some (by subst h;exact bne_self_eq_false a)
theorem Jz{a b:Int}(h:a<b):ry .lss a b=some true:=congrArg some (decide_eq_true h)
theorem YZ{a b:Int}(h:¬a<b):ry .lss a b=some false:=congrArg some (decide_eq_false h)
theorem gtT{a b:Int}(h:b<a):ry .gtr a b=some true:=congrArg some (decide_eq_true h)
theorem gtF{a b:Int}(h:¬b<a):ry .gtr a b=some false:=congrArg some (decide_eq_false h)
theorem geT{a b:Int}(h:b≤a):ry .geq a b=some true:=congrArg some (decide_eq_true h)
theorem geF{a b:Int}(h:¬b≤a):ry .geq a b=some false:=congrArg some (decide_eq_false h)
def gD(a:tB)(l sz cap:Nat):Option Addr:=if cap=l then a else a.map (·.add (l*sz))
theorem Lh{P:tS}{s sz:Nat}(hf:iW P s=some sz)(a:tB)(len cap l h:Nat)(hl:l≤h)(hh:h≤cap)(w:tA):
  (Instr.sliceAt s (.slice a len cap) (some (iV (l:Int))) (some (iV (h:Int))) none).run P w= .ok (.slice (gD a l sz cap) (h-l) (cap-l)) w:=by
 unfold iW at hf;split at hf
 ·rename_i e hu;cases hi:P.info? e with
  |none=>simp[hi]at hf
  |some i=>
   simp[hi]at hf;subst hf;simp[Instr.sliceAt,Instr.slice,run_underlying hu,Instr.sliceBounds,Instr.sliceBound,asIntOf,sizeOf,typeInfo,hi,hl,hh,gD]
 ·cases hf
theorem Ci{P:tS}{s sz:Nat}(hf:iW P s=some sz)(a:tB)(len cap l:Nat)(hl:l≤len)(w:tA):
  (Instr.sliceAt s (.slice a len cap) (some (iV (l:Int))) none none).run P w= .ok (.slice (gD a l sz cap) (len-l) (cap-l)) w:=by
 unfold iW at hf;split at hf
 ·rename_i e hu;cases hi:P.info? e with
  |none=>simp[hi]at hf
  |some i=>
   simp[hi]at hf;subst hf;simp[Instr.sliceAt,Instr.slice,run_underlying hu,Instr.sliceBounds,Instr.sliceBound,asIntOf,sizeOf,typeInfo,hi,hl,gD]
 ·cases hf
theorem Li(a:tB)(sz cap:Nat):gD a 0 sz cap=a:=by
 unfold gD;split
 ·rfl
 ·cases a<;>simp[Addr.add]
theorem Cj{P:tS}{s sz:Nat}(hf:iW P s=some sz)(a:tB)(len cap h:Nat)(hh:h≤cap)(w:tA):
  (Instr.sliceAt s (.slice a len cap) none (some (iV (h:Int))) none).run P w= .ok (.slice a h cap) w:=by
 have e:=Li a sz cap;unfold gD at e;unfold iW at hf;split at hf
 ·rename_i e' hu;cases hi:P.info? e' with
  |none=>simp[hi]at hf
  |some i=>
   simp[hi]at hf;subst hf;simp only[Nat.zero_mul]at e;simp[Instr.sliceAt,Instr.slice,run_underlying hu,Instr.sliceBounds,Instr.sliceBound,asIntOf,sizeOf,typeInfo,hi,hh,e]
 ·cases hf
theorem JA{w1:tA}(hx:(fx.contains i||fl.contains i)=true)(hb:bZ w w1):fE (AE V) fx fl i w w1:=by
 unfold fE;cases h:fx.contains i with
 |true=>trivial
 |false=>
  rw[h]at hx;have hx:fl.contains i=true:=by simpa using hx
  rw[hx];exact dk.of hb
theorem fW{w1:tA}(hx:fx.contains i=true):fE (AE V) fx fl i w w1:=by
 unfold fE;rw[hx];trivial
theorem nV{v:tJ}{w1:tA}(ho:ops[i]? =some o)(hd:o.dst=some d)(hw:Region.wanted o (yielded ops (kn n f))=true)(hK:iU n ops=true)(hr:(execOp (ev f) o).run P w= .ok (.value v) w1)(ht:fE (AE V) fx fl i w w1)(h:WF P ops Q V fx fl t n (up f d v) w1):WF P ops Q V fx fl (.ef i t) n f w:=by
 show wpOp P ops Q i _ _ w;unfold wpOp;simp only[ho,hw,if_true];refine .inl ?_;unfold Oper.wp;rw[qg (mP hK ho),hr,Oper.upon_value,mB,hd];exact⟨ht,h⟩
theorem qh{w1:tA}(ho:ops[i]? =some o)(hd:o.dst=none)(hw:Region.wanted o (yielded ops (kn n f))=true)(hK:iU n ops=true)(hr:(execOp (ev f) o).run P w= .ok .skip w1)(ht:fE (AE V) fx fl i w w1)(h:WF P ops Q V fx fl t n f w1):WF P ops Q V fx fl (.ef i t) n f w:=by
 show wpOp P ops Q i _ _ w;unfold wpOp;simp only[ho,hw,if_true];refine .inl ?_;unfold Oper.wp;rw[qg (mP hK ho),hr,Oper.upon_skip,mB,hd];exact⟨ht,h⟩
theorem S6{g:Nat}{args:tN}(ho:ops[i]? =some o)(hd:o.dst=some d)(hw:Region.wanted o (yielded ops (kn n f))=true)(hK:iU n ops=true)(hr:(execOp (ev f) o).run P w= .ok (.enter g args) w)(hc:Calls P g args w fun x w'=>∃v,x= .returned v∧fE (AE V) fx fl i w w'∧WF P ops Q V fx fl t n (up f d v) w'):WF P ops Q V fx fl (.ef i t) n f w:=by
 show wpOp P ops Q i _ _ w;unfold wpOp;simp only[ho,hw,if_true];refine .inl ?_;unfold Oper.wp;rw[qg (mP hK ho),hr,Oper.upon_enter];refine hc.mono fun x w' hx=> ?_;obtain⟨v,rfl,ht,h⟩:=hx;show fE _ _ _ _ _ _∧kG P ops Q (AE V) fx fl t _ w';rw[mB,hd];exact⟨ht,h⟩
theorem Lj{c:tP}{xs:Array Operand}{ts:Array TypeId}{g:Nat}{first cap:tN}(hp:o.op= .call ⟨.value c,xs,ts⟩)(hc:ev f c= .func (.func g) first cap)(he:∀args w,(callFunc g args).run P w= .ok (.enter g args) w)(w:tA):(execOp (ev f) o).run P w= .ok (.enter g (first++xs.map (ev f)++cap)) w:=by
 simp[execOp,hp,resolve,hc,Deferred.ofValue,invoke,he]
theorem acY{c:tP}{xs:Array Operand}{ts:Array TypeId}{g:Nat}{first cap:tN}{args:tK}(he:∀args w,(callFunc g args).run P w= .ok (.enter g args) w)(ho:ops[i]? =some o)(hd:o.dst=some d)(hw:Region.wanted o (yielded ops (kn n f))=true)(hK:iU n ops=true)(hp:o.op= .call ⟨.value c,xs,ts⟩)(hcv:ev f c= .func (.func g) first cap)(ha:first.toList++xs.toList.map (ev f)++cap.toList=args)(hc:Calls P g args.toArray w fun x w'=>∃v,x= .returned v∧fE (AE V) fx fl i w w'∧WF P ops Q V fx fl t n (up f d v) w'):WF P ops Q V fx fl (.ef i t) n f w:=
 S6 ho hd hw hK ((Lj hp hcv he w).trans (by rw[←ha];congr 2;apply Array.ext';simp)) hc
variable{H:List bQ}{M:tD}{G R:tI}
theorem acZ{s m b q:Nat}{x y:tP}{g:tC}(hs:vo P s m=true)(hS:Mem w H M G R)(k:Nat){e:bQ}(he:H[k]? =some e)(hx:fx.contains i=true)(ho:ops[i]? =some o)(hd:o.dst=none)(hw:Region.wanted o (yielded ops (kn n f))=true)(hK:iU n ops=true)(hp:o.op= .store s x y)(ZK:ev f x= .pointer (some ⟨b,q,none⟩))(hy:ev f y=vF g m)(ha:e.a=b)(hq:q+m≤e.n)(hg:aT g m)
  (h:∀w',Mem w' (H.set k ⟨e.a,e.t,e.n,fS e.f q m g⟩) M G R→WF P ops Q V fx fl t n f w'):WF P ops Q V fx fl (.ef i t) n f w:=by
 obtain⟨dd,hu,hr,hi⟩:=ru hs;subst ha;have fb:=hS.at k he;refine qh (w1:=w.setCells e.a q (bW g 0 m)) ho hd hw hK ?_ (fW hx) (h _ (hS.turn he (az.su e.a _ q w) (fb.put q m g hq)));have:=run_storeAt_mid (P:=P) w e.a q s (bW g 0 m).toArray (by simpa[bI]using fb.there q m hq) (by simpa[bI]using hi) hg.all;simp only[execOp,hp,ZK,hy,Sem.run_bind,this,Result.andThen_ok,Sem.run_pure]
theorem rA{P:tS}{t:Nat}(h:o_ P t=true){b o:Nat}{v:tJ}{w:tA}(hv:v.cells= #[v])(h1:v.oneCell'=true)(ht:w.there b o 1):(Instr.storeAt t (.pointer (some ⟨b,o,none⟩)) v).run P w= .ok () (w.setCell ⟨b,o,none⟩ v):=by
 have:=run_storeCells_cells (P:=P) b o [v] 0 w (fun j hj=>by simpa using(ht j (by simpa using hj)).1) (fun j hj=>by simpa using(ht j (by simpa using hj)).2)
  (fun x hx=>by simp at hx;subst hx;exact h1)
 have hi:=Oy h;cases hq:P.info? t with
 |none=>simp[hq]at hi
 |some i=>
  have hs:i.size=1:=by simpa[hq]using hi
  simp only[Nat.add_zero]at this;simp[Instr.storeAt,Instr.sureAddr,storeVar,sizeOf,typeInfo,hq,hv,hs,this];rfl
theorem ac0{s b q:Nat}{x y:tP}{v:tJ}(hs:o_ P s=true)(hS:Mem w H M G R)(k:Nat){e:bQ}(he:H[k]? =some e)(hx:fx.contains i=true)(ho:ops[i]? =some o)(hd:o.dst=none)(hw:Region.wanted o (yielded ops (kn n f))=true)(hK:iU n ops=true)(hp:o.op= .store s x y)(ZK:ev f x= .pointer (some ⟨b,q,none⟩))(hy:ev f y=v)(ha:e.a=b)(hq:q<e.n)(Lk:v.cells= #[v])(h1:v.oneCell'=true)
  (h:∀w',Mem w' (H.set k ⟨e.a,e.t,e.n,nS e.f q v⟩) M G R→WF P ops Q V fx fl t n f w'):WF P ops Q V fx fl (.ef i t) n f w:=by
 subst ha;have fb:=hS.at k he;refine qh (w1:=w.setCell ⟨e.a,q,none⟩ v) ho hd hw hK ?_ (fW hx) (h _ (hS.turn he (az.set e.a q w v) (fb.set q v hq)));simp only[execOp,hp,ZK,hy,Sem.run_bind,rA hs Lk h1 (fb.there q 1 (by omega)),Result.andThen_ok,Sem.run_pure]
theorem S7{w1:tA}{R:Nat}(hx:(fx.contains i||fl.contains i)=true)(ht:az R w w1)(hV:R∈V):fE (AE V) fx fl i w w1:=by
 unfold fE;cases h:fx.contains i with
 |true=>trivial
 |false=>
  rw[h]at hx;have hx:fl.contains i=true:=by simpa using hx
  rw[hx];exact⟨ht.os,ht.tape,ht.output,Nat.le_of_eq ht.size.symm,fun b _ hb=>ht.block b (fun e=>hb (e▸hV))⟩
theorem ac1{s m b q:Nat}{x y:tP}{g:tC}(hs:vo P s m=true)(hS:Mem w H M G R)(k:Nat){e:bQ}(he:H[k]? =some e)(hV:e.a∈V)(hx:(fx.contains i||fl.contains i)=true)(ho:ops[i]? =some o)(hd:o.dst=none)(hw:Region.wanted o (yielded ops (kn n f))=true)(hK:iU n ops=true)(hp:o.op= .store s x y)(ZK:ev f x= .pointer (some ⟨b,q,none⟩))(hy:ev f y=vF g m)(ha:e.a=b)(hq:q+m≤e.n)(hg:aT g m)
  (h:∀w',Mem w' (H.set k ⟨e.a,e.t,e.n,fS e.f q m g⟩) M G R→WF P ops Q V fx fl t n f w'):WF P ops Q V fx fl (.ef i t) n f w:=by
 obtain⟨dd,hu,hr,hi⟩:=ru hs;subst ha;have fb:=hS.at k he;refine qh (w1:=w.setCells e.a q (bW g 0 m)) ho hd hw hK ?_ (S7 hx (az.su e.a _ q w) hV) (h _ (hS.turn he (az.su e.a _ q w) (fb.put q m g hq)));have:=run_storeAt_mid (P:=P) w e.a q s (bW g 0 m).toArray (by simpa[bI]using fb.there q m hq) (by simpa[bI]using hi) hg.all;simp only[execOp,hp,ZK,hy,Sem.run_bind,this,Result.andThen_ok,Sem.run_pure]
def PS(Q:tH):Prop:=∀c a d v w,Q (.panic c) (a.put d v) w→Q (.panic c) a w
theorem S8{fn:Func}{Rr:Ending→World→Prop}:PS (bodyPost P fn Rr):=fun c a d v w h=>by cases d<;>exact h
def Ord.idx:Ord→List Nat
 | .nil=>[]
 | .rd i t=>i::t.idx
 | .pu i t=>i::t.idx
 | .ef i t=>i::t.idx
 | .fk _ _ _ _=>[10000]
 | .f3 _ _ _ _ _ _=>[10000]
theorem nW{E:World→World→Prop}(hE:∀w,E w w):∀(σ:Ord) (a:Act) (w:tA),σ.idx.contains 10000=false→kG P ops Q E fx fl σ a w→wpOps P ops Q σ.idx a w
 | .nil,a,w,_,h=>h
 | .rd i t,a,w,hn,h=>by
  obtain⟨o,v,ho,hy,h⟩:=h;have hn:t.idx.contains 10000=false:=by
   simp only[Ord.idx,List.contains_cons,Bool.or_eq_false_iff]at hn;exact hn.2
  rw[Ord.idx,wpOps_cons];exact hy.wpOp ho (hE w) (nW hE t _ _ hn h)
 | .pu i t,a,w,hn,h=>by
  obtain⟨o,v,ho,hy,h⟩:=h;have hn:t.idx.contains 10000=false:=by
   simp only[Ord.idx,List.contains_cons,Bool.or_eq_false_iff]at hn;exact hn.2
  rw[Ord.idx,wpOps_cons];exact hy.wpOp ho (nW hE t _ _ hn h)
 | .ef i t,a,w,hn,h=>by
  have hn:t.idx.contains 10000=false:=by
   simp only[Ord.idx,List.contains_cons,Bool.or_eq_false_iff]at hn;exact hn.2
  rw[Ord.idx,wpOps_cons];exact wpOp_mono (fun a' w' h'=>nW hE t a' w' hn h'.2) h
 | .fk _ _ _ _,a,w,hn,_=>by simp[Ord.idx]at hn
 | .f3 _ _ _ _ _ _,a,w,hn,_=>by simp[Ord.idx]at hn
variable{fn:Func}{Rr:Ending→World→Prop}
end
section
variable{w w':tA}{H:List bQ}{M:tD}{G R:tI}
theorem Mem.begin{w:tA}{H:List bQ}{M:tD}{G:tI}(ib:∀e∈H,aZ w e.a e.t e.n e.f)(nT:H.Pairwise fun x y=>x.a≠y.a)(off:∀e∈H,¬M e.a)(mlt:∀b,M b→b<w.heap.size)(g:∀w',dk (fun b=>b∈H.map bQ.a∨M b) w w'→G w'):Mem w H M G (fun w'=>dk (fun b=>b∈H.map bQ.a) w w'):=by
 refine⟨ib,fun i j x y hi hj Cc=> ?_,off,mlt,g,fun _ c=>c⟩;obtain⟨li,rfl⟩:=List.getElem?_eq_some_iff.1 hi;obtain⟨lj,rfl⟩:=List.getElem?_eq_some_iff.1 hj;have hp:=List.pairwise_iff_getElem.1 nT;rcases Nat.lt_trichotomy i j with aL|heq|Lg
 ·exact absurd Cc (hp i j li lj aL)
 ·exact heq
 ·exact absurd Cc.symm (hp j i lj li Lg)
theorem Mem.put(h:Mem w H M G R)(k:Nat){e:bQ}(hk:H[k]? =some e)(c:dk (fun b=>b=e.a) w w'){t m:Nat}{f':tC}{g:Nat}(hg:g=e.a∨w.heap.size≤g)(hn:aZ w' g t m f'):Mem w' (H.set k ⟨g,t,m,f'⟩) M G R:=by
 have hm:e∈H:=List.mem_of_getElem? hk;have he:e.a∈H.map bQ.a:=List.mem_map.2 ⟨e,hm,rfl⟩;have ch:dk (fun b=>b∈H.map bQ.a) w w':=⟨c.os,c.tape,c.output,c.size,fun b hb hu=>c.block b hb fun hb'=>hu (hb'▸he)⟩;have sub:∀x,x<w.heap.size→x∈(H.set k (⟨g,t,m,f'⟩:bQ)).map bQ.a→x∈H.map bQ.a:=fun x hx hm=>by
  obtain⟨y,hy,rfl⟩:=List.mem_map.1 hm;rcases List.mem_or_eq_of_mem_set hy with hy|rfl
  ·exact List.mem_map.2 ⟨y,hy,rfl⟩
  ·rcases hg with rfl|hg
   ·exact he
   ·exact absurd hx (Nat.not_lt.2 hg)
 have at_:∀(i:Nat) (x:bQ),(H.set k (⟨g,t,m,f'⟩:bQ))[i]? =some x→(i=k∧x=⟨g,t,m,f'⟩)∨(i≠k∧H[i]? =some x∧x.a<w.heap.size∧x.a≠e.a):=fun i x hx=>by
  rw[List.getElem?_set]at hx;by_cases GL:k=i
  ·subst GL;rw[if_pos rfl]at hx;split at hx
   ·cases hx;exact .inl ⟨rfl,rfl⟩
   ·cases hx
  ·rw[if_neg GL]at hx;exact .inr ⟨fun e=>GL e.symm,hx,(h.ib x (List.mem_of_getElem? hx)).lt,fun hxa=>GL (h.nT k i e x hk hx hxa.symm)⟩
 refine⟨fun x hx=> ?_,fun i j x y hx hy Cc=> ?_,fun x hx=> ?_,fun b hb=>Nat.lt_of_lt_of_le (h.mlt b hb) c.size,fun w2 h2=>h.g w2 (dk.trans (U:=fun b=>b∈H.map bQ.a∨M b) ⟨ch.os,ch.tape,ch.output,ch.size,fun b hb hu=>ch.block b hb (fun h=>hu (.inl h))⟩ h2 fun x hx hm=>hm.imp (sub x hx) id),fun w2 h2=>h.r w2 (ch.trans h2 sub)⟩
 ·obtain⟨i,hi⟩:=List.getElem?_of_mem hx;rcases at_ i x hi with⟨_,rfl⟩|⟨_,h1,h2,h3⟩
  ·exact hn
  ·have fb:=h.ib x (List.mem_of_getElem? h1);unfold aZ at fb⊢;rw[←fb];exact c.block x.a h2 h3
 ·rcases at_ i x hx with⟨rfl,rfl⟩|⟨n1,e1,l1,d1⟩<;>rcases at_ j y hy with⟨rfl,rfl⟩|⟨n2,e2,l2,d2⟩
  ·rfl
  ·rcases hg with rfl|hg
   ·exact absurd Cc.symm d2
   ·have Cc:g=y.a:=Cc;omega
  ·rcases hg with rfl|hg
   ·exact absurd Cc d1
   ·have Cc:x.a=g:=Cc;omega
  ·exact h.nT i j x y e1 e2 Cc
 ·rcases List.mem_or_eq_of_mem_set hx with hx|rfl
  ·exact h.off x hx
  ·rcases hg with rfl|hg
   ·exact h.off e hm
   ·exact fun hm=>absurd (h.mlt _ hm) (Nat.not_lt.2 hg)
end
def jk(P:tS)(t e sz ku:Nat):Bool:=
 match P.underlying t with
 |some (.slice e')=>e'==e&&(P.info? e).any fun i=>i.size==sz&&i.bytes==ku&&(match i.zero with|some z=>z.cells.size==sz|none=>false)&&decide (0<sz)
 |_=>false
theorem AH{P:tS}{t e sz ku:Nat}(h:jk P t e sz ku=true):P.underlying t=some (.slice e)∧∃i z,P.info? e=some i∧i.zero=some z∧i.size=sz∧i.bytes=ku∧z.cells.size=sz∧0<sz:=by
 unfold jk at h;split at h
 ·rename_i e' hu;simp only[Bool.and_eq_true,beq_iff_eq]at h;obtain⟨rfl,h⟩:=h;refine⟨hu, ?_⟩;cases hi:P.info? e' with
  |none=>simp[hi]at h
  |some i=>
   simp only[hi,Option.any_some,Bool.and_eq_true,beq_iff_eq,decide_eq_true_eq]at h;obtain⟨⟨⟨h1,h2⟩,h3⟩,h4⟩:=h;cases hz:i.zero with
   |none=>rw[hz]at h3;cases h3
   |some z=>
    rw[hz]at h3;exact⟨i,z,rfl,hz,h1,h2,by simpa using h3,h4⟩
 ·cases h
theorem Ck{w:tA}{g e m:Nat}{cur:tN}(h:w.heap[g]? =some (.cells cur e (0,0)))(hm:cur.size=m):aZ w g e m (fun j=>cur.getD j undef):=by
 unfold aZ;rw[h];congr 2;apply Array.ext_getElem?;intro i;by_cases hi:i<m
 ·have e1:(bW (fun j=>cur.getD j undef) 0 m).toArray[i]? =some (cur.getD i undef):=by
   have:=cg (fun j=>cur.getD j undef) 0 m i hi;rw[Nat.zero_add]at this;simpa using this
  rw[e1,Array.getElem?_eq_getElem (by omega)];simp[hm,hi]
 ·rw[Array.getElem?_eq_none (by omega),Array.getElem?_eq_none (by simp[bI];omega)]
section
variable{P:tS}{ops:tL}{Q:tH}{V:tR}{fx fl:tR}{n:Nat}{f:tC}{w:tA}{i:Nat}{t:Ord}{o:Oper}{d:Nat}{H:List bQ}{M:tD}{G R:tI}
theorem wI{w:tA}{b e sz:Nat}{g:tC}(fb:aZ w b e sz g):∀j u,(bW g 0 sz)[j]? =some u→w.cell? ((⟨b,0,none⟩:Addr).add j)=some u:=fun j u hu=>by
 have hj:j<sz:=by
  have:=(List.getElem?_eq_some_iff.1 hu).1;rwa [bI]at this
 rw[cg _ _ _ _ hj,Nat.zero_add]at hu;cases hu;rw[Addr.add_mid,Nat.zero_add];exact fb.at j hj
theorem rC{s:Nat}{x y:tP}(hp:o.op= .call ⟨.builtin .append,#[x,y],#[s,s]⟩){v u:tJ}(hx:ev f x=v)(hy:ev f y=u){r:tJ}{w1:tA}(hr:(Builtin.append_ #[s,s] o.type #[v,u]).run P w= .ok r w1):(execOp (ev f) o).run P w= .ok (.value r) w1:=by
 simp[execOp,hp,resolve,hx,hy,invoke,builtin,hr]
end
namespace Rv
inductive Sg where
 |o (x:tJ)
 |p (j q b:Nat)
 |f (m:Nat) (g:tC)
def Sg.sz:Sg→Nat
 | .o _=>1
 | .p _ _ _=>1
 | .f m _=>m
def Sg.cl:Sg→List Value
 | .o x=>[x]
 | .p _ q b=>[.pointer (some ⟨b,q,none⟩)]
 | .f m g=>bW g 0 m
def fX:List Sg→Nat
 |[]=>0
 |[s]=>s.sz
 |s::l=>fX l+s.sz
def dz:List Sg→List Value
 |[]=>[]
 |[s]=>s.cl
 |s::l=>s.cl++dz l
theorem eE(s:Sg)(l:List Sg):dz (s::l)=s.cl++dz l:=by
 cases l with
 |nil=>show s.cl=s.cl++[];rw[List.append_nil]
 |cons _ _=>rfl
theorem OA(s:Sg)(l:List Sg):fX (s::l)=s.sz+fX l:=by
 cases l with
 |nil=>rfl
 |cons _ _=>exact Nat.add_comm ..
theorem Sg.len(s:Sg):s.cl.length=s.sz:=by cases s<;>first|rfl|exact bI _ _ _
theorem cG:∀l:List Sg,(dz l).length=fX l
 |[]=>rfl
 |s::l=>by rw[eE,OA,List.length_append,s.len,cG l]
theorem dV:∀l k:List Sg,dz (l++k)=dz l++dz k
 |[],k=>rfl
 |s::l,k=>by rw[List.cons_append,eE,eE,dV l k,List.append_assoc]
def iv:List Sg→Nat→List Sg
 |[],_=>[]
 |s::l,q=>match q with
  |0=>s::l
  |q+1=>match s with
   | .f m g=>cond (Nat.ble m (q+1)) (iv l (q+1-m)) (.f (m-(q+1)) (fun j=>g (j+(q+1)))::l)
   |_=>iv l q
def eM:List Sg→Nat→List Sg
 |[],_=>[]
 |s::l,q=>match q with
  |0=>[]
  |q+1=>match s with
   | .f m g=>cond (Nat.ble m (q+1)) (.f m g::eM l (q+1-m)) [.f (q+1) g]
   |s=>s::eM l q
theorem OB(g:tC)(m q:Nat):(bW g 0 m).drop q=bW (fun j=>g (j+q)) 0 (m-q):=by
 apply List.ext_getElem?;intro i;rw[List.getElem?_drop];by_cases h:i<m-q
 ·rw[cg _ _ _ _ h,cg _ _ _ _ (by omega),Nat.zero_add,Nat.zero_add,Nat.add_comm]
 ·rw[gw _ _ _ _ (by omega),gw _ _ _ _ (by omega)]
theorem OC(g:tC)(m q:Nat)(h:q≤m):(bW g 0 m).take q=bW g 0 q:=by
 apply List.ext_getElem?;intro i;rw[List.getElem?_take];by_cases hi:i<q
 ·rw[if_pos hi,cg _ _ _ _ hi,cg _ _ _ _ (by omega)]
 ·rw[if_neg hi,gw _ _ _ _ (by omega)]
theorem iw:∀(l:List Sg) (q:Nat),dz (iv l q)=(dz l).drop q
 |[],q=>by simp[iv,dz]
 |s::l,0=>rfl
 |s::l,q+1=>by
  rw[eE,List.drop_append,s.len];cases s with
  |f m g=>
   show dz (cond (Nat.ble m (q+1)) _ _)=_;cases hb:Nat.ble m (q+1)with
   |true=>
    have hle:=Nat.le_of_ble_eq_true hb;show dz (iv l (q+1-m))=(bW g 0 m).drop (q+1)++_;rw[List.drop_eq_nil_of_le (by rw[bI];exact hle),iw l];rfl
   |false=>
    have aL:q+1<m:=by
     rcases Nat.lt_or_ge (q+1) m with h|h
     ·exact h
     ·rw[Nat.ble_eq_true_of_le h]at hb;cases hb
    show dz (.f (m-(q+1)) _::l)=_;rw[eE,show q+1-(Sg.f m g).sz=0 from Nat.sub_eq_zero_of_le (Nat.le_of_lt aL),List.drop_zero];exact congrArg (·++dz l) (OB g m (q+1)).symm
  |o x=>
   show dz (iv l q)=_;rw[iw l,show q+1-(Sg.o x).sz=q from rfl,show(Sg.o x).cl.drop (q+1)=[] from by simp[Sg.cl]];rfl
  |p a b c=>
   show dz (iv l q)=_;rw[iw l,show q+1-(Sg.p a b c).sz=q from rfl,show(Sg.p a b c).cl.drop (q+1)=[] from by simp[Sg.cl]];rfl
theorem jl:∀(l:List Sg) (q:Nat),dz (eM l q)=(dz l).take q
 |[],q=>by simp[eM,dz]
 |s::l,0=>by simp[eM,dz]
 |s::l,q+1=>by
  rw[eE,List.take_append,s.len];cases s with
  |f m g=>
   show dz (cond (Nat.ble m (q+1)) _ _)=_;cases hb:Nat.ble m (q+1)with
   |true=>
    have hle:=Nat.le_of_ble_eq_true hb;show dz (.f m g::eM l (q+1-m))=_;rw[eE,jl l,List.take_of_length_le (l:=(Sg.f m g).cl) (by rw[Sg.len];exact hle)];rfl
   |false=>
    have aL:q+1<m:=by
     rcases Nat.lt_or_ge (q+1) m with h|h
     ·exact h
     ·rw[Nat.ble_eq_true_of_le h]at hb;cases hb
    show bW g 0 (q+1)=(bW g 0 m).take (q+1)++_;rw[OC _ _ _ (Nat.le_of_lt aL),show q+1-(Sg.f m g).sz=0 from Nat.sub_eq_zero_of_le (Nat.le_of_lt aL),List.take_zero,List.append_nil]
  |o x=>
   show dz (.o x::eM l q)=_;rw[eE,jl l];simp[Sg.cl,Sg.sz]
  |p a b c=>
   show dz (.p a b c::eM l q)=_;rw[eE,jl l];simp[Sg.cl,Sg.sz]
inductive SV where
 |o (x:tJ)
 |p (j q b:Nat)
 |g (l:List Sg)
def SV.val:SV→Value
 | .o x=>x
 | .p _ q b=> .pointer (some ⟨b,q,none⟩)
 | .g l=> .agg (dz l).toArray
def SV.j9:SV→List Sg
 | .o x=>[.o x]
 | .p j q b=>[.p j q b]
 | .g l=>l
inductive AV where
 |s (v:SV)
 |t (l:List SV)
def AV.val:AV→Value
 | .s v=>v.val
 | .t l=> .tuple (l.map SV.val).toArray
abbrev vv(x:tJ):AV:= .s (.o x)
abbrev vp(j q b:Nat):AV:= .s (.p j q b)
abbrev vg(l:List Sg):AV:= .s (.g l)
abbrev vf(m:Nat)(g:tC):AV:= .s (.g [.f m g])
abbrev vi(n:Int):AV:= .s (.o (iV n))
abbrev vt(l:List SV):AV:= .t l
def cn(f:Nat→AV):Nat→Value:=fun i=>(f i).val
def ua(f:Nat→AV)(d:Nat)(v:AV):Nat→AV:=fun i=>cond (Nat.beq i d) v (f i)
theorem jm(f:Nat→AV)(d:Nat)(v:AV):cn (ua f d v)=up (cn f) d v.val:=by
 funext i;unfold cn ua up;cases Nat.beq i d<;>rfl
def ea(f:Nat→AV):Operand→AV
 | .tmp t=>f t
 | .const v=>vv v
 | .global g=>vv (.pointer (some ⟨g,0,none⟩))
 | .func g=>vv (.func (.func g) #[] #[])
theorem bB(f:Nat→AV)(x:tP):(ea f x).val=ev (cn f) x:=by cases x<;>rfl
def V1{α:Type}:List Sg→(List Sg→α)→α
 |[],k=>k []
 | .o x::l,k=>V1 l fun l=>k (.o x::l)
 | .p j q b::l,k=>V1 l fun l=>k (.p j q b::l)
 | .f m g::l,k=>V1 l fun l=>k (.f m g::l)
theorem rD{α:Type}:∀(l:List Sg) (k:List Sg→α),V1 l k=k l
 |[],_=>rfl
 | .o _::l,_=>rD l _
 | .p _ _ _::l,_=>rD l _
 | .f _ _::l,_=>rD l _
structure Ty where
 id:Nat
 kd:Nat
 m:Nat
 fl:List (Nat×Nat×Bool)
 el:Nat
 es:Nat
 ar:Nat
 z:List Sg
inductive Tr where
 |l
 |n (a:Tr) (e:Ty) (b:Tr)
def Tr.find(s:Nat):Tr→Option Ty
 | .l=>none
 | .n a e b=>cond (Nat.beq s e.id) (some e) (cond (Nat.blt s e.id) (a.find s) (b.find s))
def Tr.all(p:Ty→Bool):Tr→Bool
 | .l=>true
 | .n a e b=>a.all p&&(p e&&b.all p)
theorem Tr.xh{p:Ty→Bool}{s:Nat}{e:Ty}:∀{t:Tr},t.all p=true→t.find s=some e→p e=true∧e.id=s
 | .l,_,h=>by cases h
 | .n a x b,ha,h=>by
  unfold Tr.all at ha;simp only[Bool.and_eq_true]at ha;unfold Tr.find at h;cases hb:Nat.beq s x.id with
  |true=>rw[hb]at h;cases h;exact⟨ha.2.1,(Nat.eq_of_beq_eq_true hb).symm⟩
  |false=>
   rw[hb]at h;cases hc:Nat.blt s x.id with
   |true=>rw[hc]at h;exact xh ha.1 h
   |false=>rw[hc]at h;exact xh ha.2.2 h
def S9(P:tS)(s:Nat):Option (List (Nat×Nat)):=match P.underlying s with
 |some (.struct fs)=>fs.toList.mapM fun f=>(P.info? f.type).map fun i=>(f.offset,i.size)
 |_=>none
def S_(P:tS)(s:Nat):Option Nat:=match P.underlying s with
 |some (.slice e)=>some e
 |some (.array _ e)=>some e
 |_=>none
def Xh(P:tS)(s:Nat):Bool:=match P.underlying s with
 |some (.func _ _ _)=>true
 |_=>false
def Ty.eS(P:tS)(e:Ty):Bool:=Nat.beq (fX e.z) e.m&&match e.kd with
 |0=>o_ P e.id&&Nat.beq e.m 1
 |1=>vo P e.id e.m&&(S9 P e.id==some (e.fl.map fun x=>(x.1,x.2.1)))&&e.fl.all fun x=> !(Nat.beq x.2.1 0)
 |2=>o_ P e.id&&Nat.beq e.m 1&&(iW P e.id==some e.es)&&(S_ P e.id==some e.el)
 |4=>o_ P e.id&&Nat.beq e.m 1&&Xh P e.id
 |_=>vo P e.id e.m&&(Ef P e.id==some (e.ar,e.es))&&(S_ P e.id==some e.el)
def Ty.fp(e:Ty):Bool:=match e.kd with
 |0=>true
 |2=>true
 |4=>true
 |_=>false
def Ty.zero(e:Ty):Value:=match e.fp with
 |true=>(dz e.z).headD undef
 |false=> .agg (dz e.z).toArray
def Tr.list:Tr→List Ty
 | .l=>[]
 | .n a e b=>a.list++(e::b.list)
structure Tr.Ok(T:Tr)(P:tS):Prop where
 g:T.all (Ty.eS P)=true
 z:T.list.map (fun e=>(P.info? e.id).map (·.zero))=T.list.map fun e=>some (some e.zero)
 m:P.follows .mixedOrders=true
theorem Tr.xi{s:Nat}{e:Ty}:∀{t:Tr},t.find s=some e→e∈t.list
 | .l,h=>by cases h
 | .n a x b,h=>by
  unfold Tr.find at h;unfold Tr.list;cases hb:Nat.beq s x.id with
  |true=>rw[hb]at h;cases h;simp
  |false=>
   rw[hb]at h;cases hc:Nat.blt s x.id with
   |true=>rw[hc]at h;exact List.mem_append_left _ (xi h)
   |false=>rw[hc]at h;exact List.mem_append_right _ (List.mem_cons_of_mem _ (xi h))
section
variable{P:tS}{T:Tr}{s:Nat}{e:Ty}
theorem Tr.Ok.eS(h:T.Ok P)(hf:T.find s=some e):e.eS P=true∧e.id=s:=Tr.xh h.g hf
theorem Tr.Ok.zero(h:T.Ok P)(hf:T.find s=some e):(P.info? s).map (·.zero)=some (some e.zero):=by
 have:=List.map_inj_left.1 h.z e (Tr.xi hf);rw[←(h.eS hf).2];exact this
theorem Ty.one(h:e.eS P=true)(hk:e.fp=true):o_ P e.id=true∧e.m=1:=by
 unfold Ty.eS at h;unfold Ty.fp at hk;rw[Bool.and_eq_true]at h;have h:=h.2;split at h<;>simp only[Bool.and_eq_true]at h
 ·exact⟨h.1,Nat.eq_of_beq_eq_true h.2⟩
 ·rename_i k;rw[k]at hk;cases hk
 ·exact⟨h.1.1.1,Nat.eq_of_beq_eq_true h.1.1.2⟩
 ·exact⟨h.1.1,Nat.eq_of_beq_eq_true h.1.2⟩
 ·split at hk
  ·contradiction
  ·contradiction
  ·contradiction
  ·cases hk
theorem Ty.row(h:e.eS P=true)(hk:e.fp=false):vo P e.id e.m=true:=by
 unfold Ty.eS at h;unfold Ty.fp at hk;rw[Bool.and_eq_true]at h;have h:=h.2;split at h<;>simp only[Bool.and_eq_true]at h
 ·rename_i k;rw[k]at hk;cases hk
 ·exact h.1.1
 ·rename_i k;rw[k]at hk;cases hk
 ·rename_i k;rw[k]at hk;cases hk
 ·exact h.1.1
theorem Ty.fn(h:e.eS P=true)(hk:e.kd=4):Xh P e.id=true:=by
 unfold Ty.eS at h;rw[Bool.and_eq_true,hk]at h;simp only[Bool.and_eq_true]at h;exact h.2.2
theorem Ty.Y0(h:e.eS P=true)(hk:e.kd=2):iW P e.id=some e.es∧S_ P e.id=some e.el:=by
 unfold Ty.eS at h;rw[Bool.and_eq_true,hk]at h;simp only[Bool.and_eq_true,beq_iff_eq]at h;exact⟨h.2.1.2,h.2.2⟩
theorem Ty.arr(h:e.eS P=true)(hk:e.kd=3):Ef P e.id=some (e.ar,e.es):=by
 unfold Ty.eS at h;rw[Bool.and_eq_true,hk]at h;simp only[Bool.and_eq_true,beq_iff_eq]at h;exact h.2.1.2
theorem Ty.plc(h:e.eS P=true)(hk:e.kd=1):S9 P e.id=some (e.fl.map fun x=>(x.1,x.2.1))∧∀x∈e.fl,¬x.2.1=0:=by
 unfold Ty.eS at h;rw[Bool.and_eq_true,hk]at h;simp only[Bool.and_eq_true,beq_iff_eq,List.all_eq_true,Bool.not_eq_true']at h;refine⟨h.2.1.2,fun x hx e0=> ?_⟩;have:=h.2.2 x hx;rw[e0,Nat.beq_refl]at this;cases this
theorem OD(h:e.eS P=true)(hk:e.kd=1){k:Nat}{x:Nat×Nat×Bool}(hx:e.fl[k]? =some x):sB P e.id k=some x.1:=by
 obtain⟨h1,h2⟩:=Ty.plc h hk;unfold S9 at h1;split at h1
 ·rename_i fs hu;have hm:∀(l:List Go.Field) (r:List (Nat×Nat)) (k:Nat) (y:Nat×Nat),l.mapM (fun f=>(P.info? f.type).map fun i=>(f.offset,i.size))=some r→r[k]? =some y→∃f i,l[k]? =some f∧P.info? f.type=some i∧y=(f.offset,i.size):=by
   intro l
   induction l with
   |nil=>intro r k y hr hy;simp at hr;subst hr;simp at hy
   |cons f l ih=>
    intro r k y hr hy;rw[List.mapM_cons]at hr;cases hi:P.info? f.type with
    |none=>simp[hi]at hr
    |some i=>
     cases hl:l.mapM (fun f=>(P.info? f.type).map fun i=>(f.offset,i.size))with
     |none=>simp[hi,hl]at hr
     |some r'=>
      simp[hi,hl]at hr;subst hr;cases k with
      |zero=>simp at hy;exact⟨f,i,rfl,hi,hy.symm⟩
      |succ k=>
       obtain⟨f',i',e1,e2,e3⟩:=ih r' k y hl (by simpa using hy);exact⟨f',i',by simpa using e1,e2,e3⟩
  obtain⟨f,i,e1,e2,e3⟩:=hm fs.toList _ k (x.1,x.2.1) h1 (by rw[List.getElem?_map,hx];rfl);have e1:fs[k]? =some f:=by simpa using e1
  obtain⟨e3,e4⟩:=Prod.mk.inj e3;have hs:¬i.size=0:=fun e0=>h2 x (List.mem_of_getElem? hx) (e4.trans e0);unfold sB;simp[hu,e1,e2,hs,e3]
 ·cases h1
end
structure En where
 a:Nat
 t:Nat
 l:List Sg
def cK:List Sg→Nat→Value
 |[.f _ g]=>g
 |l=>fun i=>(dz l).getD i undef
theorem ma(l:List Sg){i:Nat}(hi:i<fX l):cK l i=(dz l).getD i undef:=by
 unfold cK;split
 ·rename_i m g;have hi:i<m:=hi;show g i=(bW g 0 m).getD i undef;rw[List.getD_eq_getElem?_getD,cg _ _ _ _ hi,Nat.zero_add];rfl
 ·rfl
def En.ib(e:En):bQ:=⟨e.a,e.t,fX e.l,cK e.l⟩
abbrev hs(H:List En):List bQ:=H.map En.ib
def nth{α:Type}:List α→Nat→Option α
 |[],_=>none
 |x::_,0=>some x
 |_::l,k+1=>nth l k
theorem fF{α:Type}:∀(l:List α) (k:Nat),nth l k=l[k]?
 |[],_=>by simp[nth]
 |x::l,0=>by simp[nth]
 |x::l,k+1=>by simp[nth,fF l k]
def Xi{α β:Type}:List α→Nat→α→(List α→β)→β
 |[],_,_,k=>k []
 |_::l,0,e,k=>k (e::l)
 |x::l,j+1,e,k=>Xi l j e fun l=>k (x::l)
theorem JB{α β:Type}:∀(l:List α) (j:Nat) (e:α) (k:List α→β),Xi l j e k=k (l.set j e)
 |[],_,_,_=>rfl
 |_::_,0,_,_=>rfl
 |_::l,j+1,e,_=>JB l j e _
def Xj{α β:Type}:List α→α→(List α→β)→β
 |[],e,k=>k [e]
 |x::l,e,k=>Xj l e fun l=>k (x::l)
theorem Cl{α β:Type}:∀(l:List α) (e:α) (k:List α→β),Xj l e k=k (l++[e])
 |[],_,_=>rfl
 |_::l,e,_=>Cl l e _
structure Md where
 cb:Bool
 vi:List Nat
 va:List Nat
 vs:List Nat
abbrev OE:Md:=⟨false,[],[],[]⟩
abbrev Y1:Md:=⟨true,[],[],[]⟩
inductive Fr where
 |c (c:Code)
 |b (id:Nat)
 |j (J:Act→World→Prop)
 |g (md:Md) (ops:tL) (t:Ord)
 |e (a:AV)
def cls:Op→Nat
 | .alloc _=>3
 | .box _ _=>3
 | .buildSlice _ _ _=>3
 | .load _ _=>1
 | .lookup _ _ _ _=>1
 | .move _=>0
 | .assign _=>0
 | .nilCheck _=>0
 | .fieldAddr _ _ _=>0
 | .indexAddr _ _ _=>0
 | .extract _ _=>0
 | .pick _ _ _=>0
 | .unOp _ _ _=>0
 | .binOp _ _ _ _ _=>0
 | .build _ _=>0
 | .field _ _ _=>0
 | .index _ _ _=>0
 | .slice _ _ _ _ _=>0
 | .makeFunc _ _ _=>0
 | .makeInterface _ _=>0
 | .call ⟨.builtin .len,_,_⟩=>0
 | .call ⟨.builtin .min,_,_⟩=>0
 | .call ⟨.builtin .max,_,_⟩=>0
 | .call ⟨.builtin .cap,_,_⟩=>0
 |_=>2
def mQ(md:Md)(i:Nat)(o:Op):Nat:=match md.vs.contains i,md.cb,o with
 |true,_,_=>3
 |_,true,.call ⟨.value _,_,_⟩=>3
 |_,_,o=>cls o
def AJ(md:Md)(ops:tL)(i:Nat):Nat:=match ops[i]? with
 |some o=>mQ md i o.op
 |none=>0
def nY(md:Md)(ops:tL):List Nat:=(List.range ops.size).filter fun i=>Nat.beq (AJ md ops i) 2
def uq(md:Md)(ops:tL):List Nat:=(List.range ops.size).filter fun i=>Nat.beq (AJ md ops i) 3
theorem kv{md:Md}{ops:tL}{i:Nat}{o:Oper}(ho:ops[i]? =some o)(hc:mQ md i o.op=2):(nY md ops).contains i=true:=by
 have hi:=(Array.getElem?_eq_some_iff.1 ho).1;simp only[nY,List.contains_iff_mem,List.mem_filter,List.mem_range];refine⟨hi, ?_⟩;unfold AJ;rw[ho];simp[hc]
theorem Cn{md:Md}{ops:tL}{i:Nat}{o:Oper}(ho:ops[i]? =some o)(hc:mQ md i o.op=3):((nY md ops).contains i||(uq md ops).contains i)=true:=by
 have hi:=(Array.getElem?_eq_some_iff.1 ho).1;rw[Bool.or_eq_true];refine .inr ?_;simp only[uq,List.contains_iff_mem,List.mem_filter,List.mem_range];refine⟨hi, ?_⟩;unfold AJ;rw[ho];simp[hc]
def Oa(ops:tL):Nat→Nat→Ord
 |0,_=> .nil
 |k+1,i=>match ops[i]? with
  |none=> .nil
  |some o=>match cls o.op with
   |0=> .pu i (Oa ops k (i+1))
   |1=> .rd i (Oa ops k (i+1))
   |_=> .ef i (Oa ops k (i+1))
theorem JC(ops:tL):∀(k i:Nat),i+k=ops.size→(Oa ops k i).idx=(List.range' i k)
 |0,i,_=>rfl
 |k+1,i,h=>by
  have hl:i<ops.size:=by omega
  have ih:=JC ops k (i+1) (by omega);unfold Oa;rw[Array.getElem?_eq_getElem hl];simp only;split<;>(rw[Ord.idx,ih];rfl)
def AK(es:tR)(ops:tL):Nat→List Nat→Ord
 |0,_=> .nil
 |k+1,done=>match(List.range ops.size).filter (fun i=> !done.contains i&&(match ops[i]? with
  |some o=>o.after.toList.all fun e=> !(Region.binds .any e)||done.contains e.on
  |none=>false))with
  |[]=> .nil
  |l=>match l.find? (fun i=> !es.contains i&&Nat.blt (AJ OE ops i) 2)with
   |some i=>match AJ OE ops i with
    |0=> .pu i (AK es ops k (i::done))
    |_=> .rd i (AK es ops k (i::done))
   |none=>match l with
    |[i]=> .ef i (AK es ops k (i::done))
    |[i,j]=> .fk i j (AK es ops k (i::done)) (AK es ops k (j::done))
    |[i,j,m]=> .f3 i j m (AK es ops k (i::done)) (AK es ops k (j::done)) (AK es ops k (m::done))
    |_=> .nil
def ZL(md:Md)(ops:tL)(σ:Ord):Bool:=σ.len==ops.size&&Region.noSelect ops&&j8 .any ops (nY md ops) (uq md ops) σ (Array.replicate ops.size false)
def okR(n:Nat)(ops:tL):Bool:=iU n ops&&Nat.ble ops.size 9999
def DY(n:Nat):Code→Bool
 | .region _ ops _=>okR n ops
 | .seq a b=>DY n a&&DY n b
 | .cond c a b=>ZI n c&&(DY n a&&DY n b)
 | .block _ c=>DY n c
 | .loop c=>DY n c
 | .scope c=>DY n c
 | .rangeFunc _ _ a b=>DY n a&&DY n b
 |_=>true
def okF(n:Nat):Fr→Bool
 | .c c=>DY n c
 | .g _ ops _=>okR n ops
 |_=>true
def Eg(n:Nat):List Fr→Bool
 |[]=>true
 |fr::ks=>okF n fr&&Eg n ks
def kq(P:tS)(fn:Func)(Rr:Ending→World→Prop):List Fr→Exit→Act→World→Prop
 |[]=>bodyPost P fn Rr
 | .c c::ks=>Exit.then (c.wp P (kq P fn Rr ks)) (kq P fn Rr ks)
 | .b id::ks=>Exit.inBlock id (kq P fn Rr ks)
 | .j J::ks=>Exit.then J (kq P fn Rr ks)
 | .g md ops t::ks=>Exit.then (kG P ops (kq P fn Rr ks) (AE md.va) (nY md ops) (uq md ops) t) (kq P fn Rr ks)
 | .e a::ks=>Exit.then (fun _ w=>Rr (.returned a.val) w) (kq P fn Rr ks)
def G(P:tS)(fn:Func)(Rr:Ending→World→Prop)(n:Nat)(M:tD)(Φ R:tI)(ks:List Fr)(f:Nat→AV)(H:List En):Prop:=
 ∀w,Mem w (hs H) M Φ R→Eg n ks=true→kq P fn Rr ks .normal ⟨kn n (cn f),[]⟩ w
def Ad(a b:Nat):Prop:=a=b
def Cm(g:BinOp)(a b:Int)(c:Bool):Prop:=ry g a b=some c
def Ce(x:tJ):Prop:=x.cells= #[x]
structure Cs(x:tJ):Prop where
 c:x.cells= #[x]
 k:x.oneCell'=true
def Lt(j n:Nat):Prop:=j<n
def Mn(a b c:Int):Prop:=(if b<a then b else a)=c
def Le(j n:Nat):Prop:=j≤n
def Wr(a c:Int):Prop:=IntKind.i64.wrap a=c
def Dr(md:Md)(ops:tL)(t:Ord):Prop:=ZL md ops t=true
structure Va(H:List En)(md:Md)(j:Nat)(b:Bool):Prop where
 a:md.va.map some=md.vi.map fun k=>(nth H k).map En.a
 b:md.vi.contains j=b
def Kd(k m:Nat):Prop:=k=m
def rE(n:Nat)(ops:tL)(f:Nat→AV)(o:Oper):Option Bool:=match o.guard with
 |none=>some true
 |some (j,b)=>match ops[j]? with
  |some oj=>match oj.dst with
   |some d=>match Nat.blt d n,f d with
    |true,.s (.o (.bool c))=>some (c==b)
    |true,.s (.o (.tuple _))=>some false
    |_,_=>none
   |none=>none
  |none=>none
def hdA:List Sg→Option SV
 | .o x::_=>some (.o x)
 | .p j q b::_=>some (.p j q b)
 | .f (_+1) g::_=>some (.o (g 0))
 |_=>none
def Eh(l:List Sg)(q m:Nat)(one:Bool):Option SV:=match one with
 |true=>hdA (iv l q)
 |false=>V1 (eM (iv l q) m) fun l=>match Nat.beq (fX l) m with
  |true=>some (.g l)
  |false=>none
def Xk(f:Nat→AV)(pl:Nat→Option (Nat×Nat)):List (Nat×Operand)→List Sg→List Prop→Option (List Sg×List Prop)
 |[],l,c=>some (l,c)
 |(i,x)::r,l,c=>match pl i,ea f x with
  |some (off,sz),.s v=>match Nat.beq (fX v.j9) sz&&Nat.ble (off+sz) (fX l)with
   |true=>V1 (eM l off++(v.j9++iv l (off+sz))) fun l'=>match v with
    | .o x=>Xk f pl r l' (Ce x::c)
    |_=>Xk f pl r l' c
   |false=>none
  |_,_=>none
def Ta(e:Ty)(i:Nat):Option (Nat×Nat):=match e.kd with
 |1=>match nth e.fl i with
  |some (off,sz,_)=>some (off,sz)
  |none=>none
 |3=>some (i*e.es,e.es)
 |_=>none
def Ob(T:Tr)(f:Nat→AV):Op→Option (AV×List Prop)
 | .move x=>match ea f x with
  | .s v=>some (.s v,[])
  | .t l=>some (.t l,[])
 | .assign x=>match ea f x with
  | .s v=>some (.s v,[])
  | .t l=>some (.t l,[])
 | .nilCheck x=>match ea f x with
  | .s (.p j q b)=>some (vp j q b,[])
  | .s (.o (.pointer (some p)))=>some (vv (.pointer (some p)),[])
  |_=>none
 | .fieldAddr s x k=>match T.find s with
  |some e=>match e.kd,nth e.fl k with
   |1,some (off,_,_)=>match ea f x with
    | .s (.p j q b)=>some (vp j (q+off) b,[])
    | .s (.o (.pointer (some ⟨b,q,none⟩)))=>some (vv (.pointer (some ⟨b,q+off,none⟩)),[])
    |_=>none
   |_,_=>none
  |none=>none
 | .extract x k=>match ea f x with
  | .t l=>match nth l k with
   |some v=>some (.s v,[])
   |none=>none
  |_=>none
 | .pick x y z=>match ea f x with
  | .s (.o (.bool true))=>some (ea f y,[])
  | .s (.o (.bool false))=>some (ea f z,[])
  |_=>none
 | .unOp .not _ x=>match ea f x with
  | .s (.o (.bool true))=>some (vv (.bool false),[])
  | .s (.o (.bool false))=>some (vv (.bool true),[])
  |_=>none
 | .call ⟨.builtin .len,xs,ts⟩=>match xs.toList,ts.toList with
  |[x],[s]=>match T.find s,ea f x with
   |some e,.s (.o (.slice _ l _))=>match e.kd with
    |2=>some (vi (l:Int),[])
    |_=>none
   |_,_=>none
  |_,_=>none
 | .build s parts=>match T.find s with
  |some e=>match e.fp with
   |true=>none
   |false=>match Xk f (Ta e) parts.toList e.z []with
    |some (l,c)=>some (vg l,c)
    |none=>none
  |none=>none
 | .makeFunc fn xs ys=>some (vv (.func fn (xs.toList.map fun x=>(ea f x).val).toArray (ys.toList.map fun x=>(ea f x).val).toArray),[])
 |_=>none
def cpA(T:Tr)(g:BinOp)(s:Nat)(x y:AV)(h:tR)(z:tF):Option (List Nat×List Int×AV×List Prop):=match ry g 0 0,x,y with
 |some _,.s (.o (.int .i64 a)),.s (.o (.int .i64 b))=>match h with
  |0::h=>some (h,z,vv (.bool false),[Cm g a b false])
  |1::h=>some (h,z,vv (.bool true),[Cm g a b true])
  |_=>none
 |some _,.s (.o .nilFunc),.s (.o .nilFunc)=>match g,T.find s with
  | .neq,some e=>some (h,z,vv (.bool false),[Kd e.kd 4])
  |_,_=>none
 |some _,.s (.o (.func _ _ _)),.s (.o .nilFunc)=>match g,T.find s with
  | .neq,some e=>some (h,z,vv (.bool true),[Kd e.kd 4])
  |_,_=>none
 |_,_,_=>none
def OG(T:Tr)(f:Nat→AV)(h:tR)(z:tF):Op→Option (List Nat×List Int×AV×List Prop)
 | .binOp g s x y _=>match g with
  | .add=>match ea f x,ea f y,h with
   | .s (.o (.int .i64 a)),.s (.o (.int .i64 b)),0::h=>some (h,z,vi (IntKind.i64.wrap (a+b)),[])
   | .s (.o (.int .i64 a)),.s (.o (.int .i64 b)),_::h=>match z with
    |c::z=>some (h,z,vi c,[Wr (a+b) c])
    |[]=>none
   |_,_,_=>none
  | .sub=>match ea f x,ea f y,h with
   | .s (.o (.int .i64 a)),.s (.o (.int .i64 b)),0::h=>some (h,z,vi (IntKind.i64.wrap (a-b)),[])
   | .s (.o (.int .i64 a)),.s (.o (.int .i64 b)),_::h=>match z with
    |c::z=>some (h,z,vi c,[Wr (a-b) c])
    |[]=>none
   |_,_,_=>none
  |g=>cpA T g s (ea f x) (ea f y) h z
 | .indexAddr s x y=>match T.find s with
  |some e=>match e.kd with
   |2=>match ea f x,ea f y with
    | .s (.o (.slice (some ⟨b,q,none⟩) len _)),.s (.o (.int .i64 (.ofNat j)))=>some (h,z,vv (.pointer (some ⟨b,q+j*e.es,none⟩)),[Lt j len])
    |_,_=>none
   |3=>match ea f x,ea f y with
    | .s (.p k q b),.s (.o (.int .i64 (.ofNat j)))=>match h with
     |0::h=>some (h,z,vp k (q+j*e.es) b,[Lt j e.ar])
     |1::h=>some (h,z,vv (.pointer (some ⟨b,q+j*e.es,none⟩)),[Lt j e.ar])
     |_=>none
    | .s (.o (.pointer (some ⟨b,q,none⟩))),.s (.o (.int .i64 (.ofNat j)))=>some (h,z,vv (.pointer (some ⟨b,q+j*e.es,none⟩)),[Lt j e.ar])
    |_,_=>none
   |_=>none
  |none=>none
 | .slice s x lo hi none=>match T.find s,ea f x with
  |some e,.s (.o (.slice a len cap))=>match e.kd,lo,hi with
   |2,some y,some u=>match ea f y,ea f u with
    | .s (.o (.int .i64 (.ofNat l))),.s (.o (.int .i64 (.ofNat k)))=>some (h,z,vv (.slice (gD a l e.es cap) (k-l) (cap-l)),[Le l k,Le k cap])
    |_,_=>none
   |2,some y,none=>match ea f y with
    | .s (.o (.int .i64 (.ofNat l)))=>some (h,z,vv (.slice (gD a l e.es cap) (len-l) (cap-l)),[Le l len])
    |_=>none
   |2,none,some u=>match ea f u with
    | .s (.o (.int .i64 (.ofNat k)))=>some (h,z,vv (.slice a k cap),[Le k cap])
    |_=>none
   |_,_,_=>none
  |_,_=>none
 | .call ⟨.builtin .min,xs,_⟩=>match xs.toList with
  |[x,y]=>match ea f x,ea f y,h with
   | .s (.o (.int .i64 a)),.s (.o (.int .i64 b)),0::h=>some (h,z,vi a,[¬b<a])
   | .s (.o (.int .i64 a)),.s (.o (.int .i64 b)),1::h=>some (h,z,vi b,[b<a])
   | .s (.o (.int .i64 a)),.s (.o (.int .i64 b)),2::h=>match z with
    |c::z=>some (h,z,vi c,[Mn a b c])
    |[]=>none
   |_,_,_=>none
  |_=>none
 |_=>none
def ZM(T:Tr)(md:Md)(f:Nat→AV)(H:List En):Op→Option (AV×List Prop)
 | .load s x=>match T.find s,ea f x with
  |some e,.s (.p j q b)=>match nth H j with
   |some ⟨a,_,l⟩=>match Eh l q e.m e.fp with
    |some v=>match md.vi with
     |[]=>some (.s v,[Ad a b,md.va=[]])
     |_=>some (.s v,[Ad a b,Va H md j false])
    |none=>none
   |none=>none
  |_,_=>none
 |_=>none
def SF:List Sg→Prop
 |[]=>True
 | .o x::l=>Cs x∧SF l
 | .p _ _ _::l=>SF l
 | .f m g::l=>aT g m∧SF l
def ZN(T:Tr)(md:Md)(i:Nat)(f:Nat→AV)(H:List En):Op→Option (List En×List Prop)
 | .store s x y=>match T.find s,ea f x,ea f y with
  |some e,.s (.p j q b),.s v=>match nth H j with
   |some ⟨a,t,l⟩=>match Nat.beq (fX v.j9) e.m&&Nat.ble (q+e.m) (fX l)with
    |true=>match e.fp,v with
     |true,.g _=>none
     |false,.o _=>none
     |false,.p _ _ _=>none
     |_,_=>V1 (eM l q++(v.j9++iv l (q+e.m))) fun l'=>Xi H j ⟨a,t,l'⟩ fun H'=>match md.vs.contains i with
      |true=>some (H',[Ad a b,SF v.j9,Va H md j true])
      |false=>some (H',[Ad a b,SF v.j9])
    |false=>none
   |none=>none
  |_,_,_=>none
 |_=>none
def Y2(f:Nat→AV)(sz:Nat):Nat→List (Nat×Operand)→List Prop→Option (List Sg×List Prop)
 |_,[],c=>some ([],c)
 |k,(i,x)::r,c=>match Nat.beq i k,ea f x with
  |true,.s v=>match Nat.beq (fX v.j9) sz with
   |true=>match v with
    | .o x=>match Y2 f sz (k+1) r (Ce x::c)with
     |some (l,c)=>some (.o x::l,c)
     |none=>none
    |v=>match Y2 f sz (k+1) r c with
     |some (l,c)=>some (v.j9++l,c)
     |none=>none
   |false=>none
  |_,_=>none
def Xl(T:Tr)(f:Nat→AV):Op→Option (Nat×List Sg×Nat×List Prop)
 | .alloc s=>match T.find s with
  |some e=>some (s,e.z,0,match e.fp,e.z with|true,[.o x]=>[Ce x]|true,_=>[False]|false,_=>[])
  |none=>none
 | .box s x=>match ea f x with
  | .s (.o x)=>some (s,[.o x],0,[Ce x])
  | .s v=>some (s,v.j9,0,[])
  | .t _=>none
 | .buildSlice s k parts=>match T.find s with
  |some e=>match e.kd,T.find e.el with
   |2,some _=>match Y2 f e.es 0 parts.toList []with
    |some (l,c)=>V1 l fun l=>match Nat.beq parts.size k&&(Nat.blt 0 (k*e.es)&&(Nat.ble (k*e.es) 16777216&&Nat.beq (fX l) (k*e.es)))with
     |true=>match k with
      |0=>none
      |k+1=>some (e.el,l,k+1,c)
     |false=>none
    |none=>none
   |_,_=>none
  |none=>none
 |_=>none
def Xm(id:Nat):List Fr→Option (List Fr)
 |[]=>none
 | .b i::ks=>cond (Nat.beq i id) (some ks) (Xm id ks)
 |_::ks=>Xm id ks
def Xn(T:Tr)(n:Nat)(f:Nat→AV)(H:List En):List ResultVar→List Prop→Option (List SV×List Prop)
 |[],c=>some ([],c)
 | .tmp d::r,c=>match Nat.blt d n,f d with
  |true,.s v=>match Xn T n f H r c with
   |some (l,c)=>some (v::l,c)
   |none=>none
  |_,_=>none
 | .cell d s::r,c=>match Nat.blt d n,f d,T.find s with
  |true,.s (.p j q b),some e=>match nth H j with
   |some ⟨a,_,l⟩=>match Eh l q e.m e.fp with
    |some v=>match Xn T n f H r (Ad a b::c)with
     |some (l,c)=>some (v::l,c)
     |none=>none
    |none=>none
   |none=>none
  |_,_,_=>none
def reA:List SV→AV
 |[v]=> .s v
 |l=> .t l
def jn:List Prop→Prop
 |[]=>True
 |p::l=>p∧jn l
structure Sx where
 h:List Nat
 z:List Int
 ks:List Fr
 f:Nat→AV
 H:List En
def ZO(T:Tr)(n:Nat)(md:Md)(ops:tL)(i m:Nat)(t:Ord):Sx→Option (Sx×List Prop)
 |⟨h,z,ks,f,H⟩=>match ops[i]? with
  |none=>none
  |some o=>match rE n ops f o with
   |none=>none
   |some false=>match o.dst with
    |some d=>some (⟨h,z,.g md ops t::ks,ua f d (vv undef),H⟩,[])
    |none=>match m with
     |2=>some (⟨h,z,.g md ops t::ks,f,H⟩,[])
     |_=>none
   |some true=>match m with
    |0=>match o.dst with
     |some d=>match Ob T f o.op with
      |some (v,c)=>some (⟨h,z,.g md ops t::ks,ua f d v,H⟩,c)
      |none=>match OG T f h z o.op with
       |some (h,z,v,c)=>some (⟨h,z,.g md ops t::ks,ua f d v,H⟩,c)
       |none=>none
     |none=>none
    |1=>match o.dst with
     |some d=>match ZM T md f H o.op with
      |some (v,c)=>some (⟨h,z,.g md ops t::ks,ua f d v,H⟩,c)
      |none=>none
     |none=>none
    |_=>match o.dst with
     |some d=>match ZM T OE f H o.op with
      |some (v,c)=>some (⟨h,z,.g md ops t::ks,ua f d v,H⟩,c)
      |none=>none
     |none=>match ZN T md i f H o.op with
      |some (H,c)=>some (⟨h,z,.g md ops t::ks,f,H⟩,c)
      |none=>none
def eC(T:Tr)(n:Nat)(rs:List ResultVar):Sx→Option (Sx×List Prop)
 |⟨_,_,[],_,_⟩=>none
 |⟨h,z,.c c::ks,f,H⟩=>match c with
  | .seq a b=>some (⟨h,z,.c a:: .c b::ks,f,H⟩,[])
  | .skip=>some (⟨h,z,ks,f,H⟩,[])
  | .block id b=>some (⟨h,z,.c b:: .b id::ks,f,H⟩,[])
  | .exit id=>match Xm id ks with
   |some ks=>some (⟨h,z,ks,f,H⟩,[])
   |none=>none
  | .ret=>match Xn T n f H rs []with
   |some (l,c)=>some (⟨h,z,[.e (reA l)],f,H⟩,c)
   |none=>none
  | .cond x a b=>match ea f x with
   | .s (.o (.bool true))=>some (⟨h,z,.c a::ks,f,H⟩,[])
   | .s (.o (.bool false))=>some (⟨h,z,.c b::ks,f,H⟩,[])
   |_=>none
  | .region _ ops false=>some (⟨h,z,.g OE ops (Oa ops ops.size 0)::ks,f,H⟩,[])
  | .region _ ops true=>match h with
   |1::h=>some (⟨h,z,.g OE ops (Oa ops ops.size 0)::ks,f,H⟩,[Dr OE ops (Oa ops ops.size 0)])
   |2::h=>some (⟨h,z,.g Y1 ops (Oa ops ops.size 0)::ks,f,H⟩,[Dr Y1 ops (Oa ops ops.size 0)])
   |3::h=>some (⟨h,z,.g OE ops (AK [] ops ops.size [])::ks,f,H⟩,[Dr OE ops (AK [] ops ops.size [])])
   |4::h=>some (⟨h,z,.g Y1 ops (AK [] ops ops.size [])::ks,f,H⟩,[Dr Y1 ops (AK [] ops ops.size [])])
   |5::j::i::h=>match nth H j with
    |some ⟨a,_,_⟩=>some (⟨h,z,.g ⟨false,[j],[a],[i]⟩ ops (AK [] ops ops.size [])::ks,f,H⟩,[Dr ⟨false,[j],[a],[i]⟩ ops (AK [] ops ops.size [])])
    |none=>none
   |6::j::i::h=>match nth H j with
    |some ⟨a,_,_⟩=>some (⟨h,z,.g ⟨true,[j],[a],[i]⟩ ops (AK [] ops ops.size [])::ks,f,H⟩,[Dr ⟨true,[j],[a],[i]⟩ ops (AK [] ops ops.size [])])
    |none=>none
   |8::j::h=>some (⟨h,z,.g Y1 ops (AK [j] ops ops.size [])::ks,f,H⟩,[Dr Y1 ops (AK [j] ops ops.size [])])
   |7::j::i::k::h=>match nth H j with
    |some ⟨a,_,_⟩=>some (⟨h,z,.g ⟨true,[j],[a],[i,k]⟩ ops (AK [] ops ops.size [])::ks,f,H⟩,[Dr ⟨true,[j],[a],[i,k]⟩ ops (AK [] ops ops.size [])])
    |none=>none
   |_=>none
  |_=>none
 |⟨h,z,.b _::ks,f,H⟩=>some (⟨h,z,ks,f,H⟩,[])
 |⟨h,z,.g md ops t::ks,f,H⟩=>match t with
  | .nil=>some (⟨h,z,ks,f,H⟩,[])
  | .pu i t=>ZO T n md ops i 0 t ⟨h,z,ks,f,H⟩
  | .rd i t=>ZO T n md ops i 1 t ⟨h,z,ks,f,H⟩
  | .ef i t=>ZO T n md ops i 2 t ⟨h,z,ks,f,H⟩
  |_=>none
 |_=>none
def ZP(T:Tr)(n:Nat):Sx→Option (Nat×Ord×Md×Array Oper×List Fr×Nat×List Sg×Nat×List Prop)
 |⟨_,_,.g md ops (.ef i t)::ks,f,_⟩=>match ops[i]? with
  |some o=>match o.dst,rE n ops f o with
   |some d,some true=>match Xl T f o.op with
    |some (s,l,k,c)=>some (d,t,md,ops,ks,s,l,k,c)
    |none=>none
   |_,_=>none
  |none=>none
 |_=>none
def OH(j k a:Nat):AV:=match k with
 |0=>vp j 0 a
 |k=>vv (.slice (some ⟨a,0,none⟩) k k)
def sh(α:tQ):Nat→Nat:=fun i=>α (i+1)
def V2(c' c:List Prop):List Prop:=match c' with
 |[]=>c
 |[p]=>p::c
 |[p,q]=>p::q::c
 |c'=>c'++c
theorem Co(c' c:List Prop):V2 c' c=c'++c:=by
 unfold V2;split<;>rfl
def run(T:Tr)(n:Nat)(rs:List ResultVar):Nat→(Nat→Nat)→Sx→List Prop→Sx×List Prop
 |0,_,s,c=>(s,c)
 |k+1,α,⟨h,z,ks,f,H⟩,c=>match eC T n rs ⟨h,z,ks,f,H⟩with
  |some (s,c')=>run T n rs k α s (V2 c' c)
  |none=>match ZP T n ⟨h,z,ks,f,H⟩with
   |some (d,t,md,ops,ks,s,l,m,c')=>Xj H ⟨α 0,s,l⟩ fun H'=>run T n rs k (sh α) ⟨h,z,.g md ops t::ks,ua f d (OH H.length m (α 0)),H'⟩ (V2 c' c)
   |none=>(⟨h,z,ks,f,H⟩,c)
theorem OI(L:tK):bW (fun i=>L.getD i undef) 0 L.length=L:=by
 apply List.ext_getElem?;intro i;by_cases h:i<L.length
 ·rw[cg _ _ _ _ h,Nat.zero_add,List.getD_eq_getElem?_getD,List.getElem?_eq_getElem h];rfl
 ·rw[gw _ _ _ _ (by omega),List.getElem?_eq_none (by omega)]
theorem En.n(e:En):e.ib.n=(dz e.l).length:=(cG e.l).symm
section
variable{w:tA}{e:En}
theorem En.cell(h:aZ w e.ib.a e.ib.t e.ib.n e.ib.f){i:Nat}{v:tJ}(hv:(dz e.l)[i]? =some v):w.cell? ⟨e.a,i,none⟩=some v:=by
 have hi:=(List.getElem?_eq_some_iff.1 hv).1;have:=h.at i (by rw[En.n];exact hi);rw[show w.cell? ⟨e.a,i,none⟩=some (e.ib.f i) from this];show some (cK e.l i)=_;rw[ma e.l (by rw[←cG];exact hi),List.getD_eq_getElem?_getD,hv];rfl
theorem En.range(h:aZ w e.ib.a e.ib.t e.ib.n e.ib.f){q:Nat}{L:tK}(hL:∀j v,L[j]? =some v→(dz e.l)[q+j]? =some v):w.rangeAt e.a q L:=fun j v hv=>En.cell h (hL j v hv)
theorem JD{w:tA}{a t:Nat}{l:List Sg}:aZ w a t (fX l) (cK l)↔aZ w a t (fX l) fun i=>(dz l).getD i undef:=
 ⟨fun h=>h.congr fun _ hi=>ma l hi,fun h=>h.congr fun _ hi=>(ma l hi).symm⟩
theorem En.new(w:tA)(t:Nat)(l:List Sg):aZ (w.alloc (.cells (dz l).toArray t)) w.heap.size t (fX l) (cK l):=by
 rw[JD];have:=aZ.new w t (fX l) fun i=>(dz l).getD i undef;rw[←cG,OI,cG]at this;exact this
theorem En.put{a t:Nat}{l:List Sg}(h:aZ w a t (fX l) (cK l))(q:Nat){N:tK}{l':List Sg}(hq:q+N.length≤fX l)(hl:dz l'=(dz l).take q++(N++(dz l).drop (q+N.length))):aZ (w.setCells a q N) a t (fX l') (cK l'):=by
 rw[JD]at h⊢;have h1:=h.put q N.length (fun i=>N.getD i undef) hq;rw[OI]at h1;have hs:fX l'=fX l:=by
  rw[←cG,←cG,hl];rw[←cG]at hq;simp only[List.length_append,List.length_take,List.length_drop];omega
 rw[hs];refine h1.congr fun i hi=> ?_;rw[←cG]at hq hi;unfold fS;show(if q≤i∧i<q+N.length then N.getD (i-q) undef else(dz l).getD i undef)=(dz l').getD i undef;rw[hl];simp only[List.getD_eq_getElem?_getD];by_cases h1:i<q
 ·rw[if_neg (by omega),List.getElem?_append_left (by simp;omega),List.getElem?_take,if_pos h1]
 ·have Y3:((dz l).take q).length=q:=by rw[List.length_take];omega
  rw[List.getElem?_append_right (by omega),Y3];by_cases h2:i<q+N.length
  ·rw[if_pos ⟨by omega,h2⟩,List.getElem?_append_left (by omega)]
  ·rw[if_neg (by omega),List.getElem?_append_right (by omega),List.getElem?_drop,show q+N.length+(i-q-N.length)=i by omega]
end
theorem ZQ:∀{l:List Sg} {v:SV},hdA l=some v→(dz l)[0]? =some v.val
 |[],_,h=>by cases h
 | .o x::l,v,h=>by cases h;rw[eE];rfl
 | .p j q b::l,v,h=>by cases h;rw[eE];rfl
 | .f 0 g::l,v,h=>by cases h
 | .f (m+1) g::l,v,h=>by
  cases h;rw[eE,List.getElem?_append_left (by rw[Sg.len];exact Nat.succ_pos m)];show(bW g 0 (m+1))[0]? =_;rw[cg _ _ _ _ (Nat.succ_pos m)];rfl
theorem Ei{l:List Sg}{q m:Nat}{v:SV}(h:Eh l q m true=some v):(dz l)[q]? =some v.val:=by
 have h1:=ZQ (l:=iv l q) h;rw[iw,List.getElem?_drop,Nat.add_zero]at h1;exact h1
theorem Ej{l:List Sg}{q m:Nat}{v:SV}(h:Eh l q m false=some v):∃l',v= .g l'∧(dz l').length=m∧∀(j:Nat) (x:tJ),(dz l')[j]? =some x→(dz l)[q+j]? =some x:=by
 unfold Eh at h;simp only[rD]at h;split at h
 ·rename_i hb;cases h;refine⟨_,rfl,by rw[cG];exact Nat.eq_of_beq_eq_true hb,fun j x hx=> ?_⟩;rw[jl,iw,List.getElem?_take]at hx;split at hx
  ·rw[List.getElem?_drop]at hx;exact hx
  ·cases hx
 ·cases h
section
variable{P:tS}{T:Tr}{n:Nat}{ops:tL}{f:Nat→AV}{o:Oper}{c:Bool}
theorem eZ(h:rE n ops f o=some c):Region.wanted o (yielded ops (kn n (cn f)))=c:=by
 unfold rE at h;unfold Region.wanted;cases hg:o.guard with
 |none=>rw[hg]at h;exact Option.some.inj h
 |some g=>
  obtain⟨j,b⟩:=g;rw[hg]at h;simp only at h⊢;cases hj:ops[j]? with
  |none=>rw[hj]at h;cases h
  |some oj=>
   rw[hj]at h;simp only at h;cases hd:oj.dst with
   |none=>rw[hd]at h;cases h
   |some d=>
    rw[hd]at h;simp only at h;split at h
    ·rename_i c' aL hv;have hl:d<n:=by simpa[Nat.blt_eq]using aL
     have hy:yielded ops (kn n (cn f)) j=some c':=by
      unfold yielded;rw[hj];simp only[Option.bind_some,hd,pA hl];show(match some (cn f d)with|some (.bool b)=>some b|_=>none)=_;unfold cn;rw[hv];rfl
     rw[hy];have:=Option.some.inj h;rw[←this];simp
    ·rename_i aL hv;have hl:d<n:=by simpa[Nat.blt_eq]using aL
     have hy:yielded ops (kn n (cn f)) j=none:=by
      unfold yielded;rw[hj];simp only[Option.bind_some,hd,pA hl];show(match some (cn f d)with|some (.bool b)=>some b|_=>none)=_;unfold cn;rw[hv];rfl
     rw[hy];have:=Option.some.inj h;rw[←this];rfl
    ·cases h
theorem V3{md:Md}{H:List En}{M:tD}{Φ R:tI}{w:tA}{v:AV}{c:List Prop}(hT:T.Ok P)(hr:ZM T md f H o.op=some (v,c))(hc:jn c)(hS:Mem w (hs H) M Φ R):∀w',AE md.va w w'→(execOp (ev (cn f)) o).run P w'= .ok (.value v.val) w':=by
 intro w' hb;cases hp:o.op with
 |load s x=>
  rw[hp]at hr;simp only[ZM]at hr;split at hr
  ·rename_i e j q b hf hx;split at hr
   ·rename_i a t l hn;split at hr
    ·rename_i v' hv;have jo:a=b∧v= .s v'∧(md.va=[]∨Va H md j false):=by
      split at hr<;>cases hr
      ·exact⟨hc.1,rfl,.inl hc.2.1⟩
      ·exact⟨hc.1,rfl,.inr hc.2.1⟩
     obtain⟨rfl,rfl,Ll⟩:=jo;have hx:ev (cn f) x= .pointer (some ⟨a,q,none⟩):=by rw[←bB,hx];rfl
     rw[fF]at hn;have he:(hs H)[j]? =some (En.ib ⟨a,t,l⟩):=by rw[List.getElem?_map,hn];rfl
     have ZR:a∉md.va:=by
      rcases Ll with e|⟨e1,e2⟩
      ·rw[e];exact nv
      ·intro hm;have hm:some a∈md.va.map some:=List.mem_map.2 ⟨a,hm,rfl⟩;rw[e1]at hm;obtain⟨k,hk,SG⟩:=List.mem_map.1 hm;rw[fF]at SG;cases hHk:H[k]? with
       |none=>rw[hHk]at SG;cases SG
       |some en=>
        rw[hHk]at SG;have SG:en.a=a:=by simpa using SG
        have:=hS.nT j k (En.ib ⟨a,t,l⟩) en.ib he (by rw[List.getElem?_map,hHk];rfl) SG.symm;subst this;rw[List.contains_iff_mem.2 hk]at e2;cases e2
     have fb:=(hS.at j he).Ch hb ZR;obtain⟨hg,rfl⟩:=hT.eS hf;cases h1:e.fp with
     |true=>
      rw[h1]at hv;have h2:=En.cell (e:=⟨a,t,l⟩) fb (Ei hv);simp only[execOp,hp,hx,Sem.run_bind,Cg (Ty.one hg h1).1 h2,Result.andThen_ok,Sem.run_pure];rfl
     |false=>
      rw[h1]at hv;obtain⟨l',rfl,hl,hr⟩:=Ej hv;obtain⟨dd,hu,qH,hi⟩:=ru (Ty.row hg h1);have:=run_loadAt_mid (P:=P) w' a q e.id (dz l') dd (En.range (e:=⟨a,t,l⟩) fb hr) hu qH (by rw[hl];exact hi);simp only[execOp,hp,hx,Sem.run_bind,this,Result.andThen_ok,Sem.run_pure];rfl
    ·cases hr
   ·cases hr
  ·cases hr
 |_=>rw[hp]at hr;simp only[ZM,reduceCtorEq]at hr
theorem wJ:∀{l:List Sg},SF l→(dz l).all (·.oneCell')=true
 |[],_=>rfl
 | .o x::l,h=>by
  rw[eE,List.all_append,wJ h.2];simp[Sg.cl,h.1.2]
 | .p j q b::l,h=>by
  rw[eE,List.all_append,wJ (l:=l) h];rfl
 | .f m g::l,h=>by
  rw[eE,List.all_append,wJ h.2,Bool.and_true];have:=aT.all h.1;simpa[Sg.cl]using this
theorem ZS{md:Md}{i:Nat}{H H':List En}{M:tD}{Φ R:tI}{w:tA}{c:List Prop}(hT:T.Ok P)(hr:ZN T md i f H o.op=some (H',c))(hc:jn c)(hS:Mem w (hs H) M Φ R):∃w',(execOp (ev (cn f)) o).run P w= .ok .skip w'∧Mem w' (hs H') M Φ R∧(md.vs.contains i=true→AE md.va w w'):=by
 cases hp:o.op with
 |store s x y=>
  rw[hp]at hr;simp only[ZN,rD,JB]at hr;split at hr
  ·rename_i e j q b v hf hx hy;split at hr
   ·rename_i a t l hn;split at hr
    ·rename_i hb;rw[Bool.and_eq_true]at hb;have hm:=Nat.eq_of_beq_eq_true hb.1;have hq:=Nat.le_of_ble_eq_true hb.2;rw[fF]at hn;have he:(hs H)[j]? =some (En.ib ⟨a,t,l⟩):=by rw[List.getElem?_map,hn];rfl
     have fb:=hS.at j he;obtain⟨hg,rfl⟩:=hT.eS hf;have hx:ev (cn f) x= .pointer (some ⟨b,q,none⟩):=by rw[←bB,hx];rfl
     have hy:ev (cn f) y=v.val:=by rw[←bB,hy];rfl
     have hlen:(dz v.j9).length=e.m:=(cG _).trans hm;have key:H'=H.set j ⟨a,t,eM l q++(v.j9++iv l (q+e.m))⟩→(execOp (ev (cn f)) o).run P w= .ok .skip (w.setCells a q (dz v.j9))→(md.vs.contains i=true→a∈md.va)→∃w',(execOp (ev (cn f)) o).run P w= .ok .skip w'∧Mem w' (hs H') M Φ R∧(md.vs.contains i=true→AE md.va w w'):=fun e1 e2 e5=>by
      refine⟨_,e2, ?_,fun e6=> ?_⟩
      rotate_left
      ·have ht:=az.su a (dz v.j9) q w;exact⟨ht.os,ht.tape,ht.output,Nat.le_of_eq ht.size.symm,fun b _ hb=>ht.block b fun e=>hb (e▸e5 e6)⟩
      subst e1;have h1:=En.put (w:=w) (a:=a) (t:=t) (l:=l) fb q (N:=dz v.j9) (l':=eM l q++(v.j9++iv l (q+e.m))) (by rw[hlen];exact hq) (by rw[dV,dV,jl,iw,hlen])
      have h2:=hS.turn he (az.su a (dz v.j9) q w) (f':=cK (eM l q++(v.j9++iv l (q+e.m)))) (by
       have e3:fX (eM l q++(v.j9++iv l (q+e.m)))=fX l:=by
        rw[←cG,dV,dV,jl,iw];simp only[List.length_append,List.length_take,List.length_drop,cG,hm];omega
       rw[e3]at h1
       exact h1)
      have e4:hs (H.set j ⟨a,t,eM l q++(v.j9++iv l (q+e.m))⟩)=(hs H).set j ⟨a,t,fX l,cK (eM l q++(v.j9++iv l (q+e.m)))⟩:=by
       rw[hs,List.map_set];congr 1;show bQ.mk _ _ _ _=_;congr 1;rw[←cG,dV,dV,jl,iw];simp only[List.length_append,List.length_take,List.length_drop,cG,hm];omega
      rw[e4];exact h2
     have Tc:aZ w a t (fX l) (cK l):=fb;have one:a=b→SF v.j9→e.fp=true→v.j9=[.o v.val]∨(∃j q b,v= .p j q b)→(execOp (ev (cn f)) o).run P w= .ok .skip (w.setCells a q (dz v.j9)):=fun ha ho h1 hv=>by
      subst ha;have AL:dz v.j9=[v.val]∧v.val.cells= #[v.val]∧v.val.oneCell'=true:=by
       rcases hv with hv|⟨j,q,b,rfl⟩
       ·rw[hv]at ho⊢;exact⟨rfl,ho.1.1,ho.1.2⟩
       ·exact⟨rfl,rfl,rfl⟩
      obtain⟨c1,c2,c3⟩:=AL;have GM:=(Ty.one hg h1).2;rw[GM]at hq;rw[c1];simp only[execOp,hp,hx,hy,Sem.run_bind,rA (Ty.one hg h1).1 c2 c3 (Tc.there q 1 hq),Result.andThen_ok,Sem.run_pure];rfl
     have fin:∀{H0:List En},(match md.vs.contains i with
       |true=>some (H0,[Ad a b,SF v.j9,Va H md j true])
       |false=>some (H0,[Ad a b,SF v.j9]))=some (H',c)→H'=H0∧a=b∧SF v.j9∧(md.vs.contains i=true→a∈md.va):=fun {H0} h=>by
      split at h
      ·cases h;obtain⟨ha,ho,⟨e1,e2⟩,_⟩:=hc;refine⟨rfl,ha,ho,fun _=> ?_⟩;have hj:j∈md.vi:=by rwa [List.contains_iff_mem]at e2
       have:some a∈md.va.map some:=by
        rw[e1];exact List.mem_map.2 ⟨j,hj,by rw[fF,hn];rfl⟩
       simpa using this
      ·rename_i hf;cases h;exact⟨rfl,hc.1,hc.2.1,fun e=>by rw[hf]at e;cases e⟩
     cases h1:e.fp with
     |true=>
      rw[h1]at hr;cases v with
      |o x=>
       obtain⟨e1,ha,ho,hl⟩:=fin hr;subst ha;exact key e1 (one rfl ho h1 (.inl rfl)) hl
      |p j' q' b'=>
       obtain⟨e1,ha,ho,hl⟩:=fin hr;subst ha;exact key e1 (one rfl ho h1 (.inr ⟨j',q',b',rfl⟩)) hl
      |g l=>cases hr
     |false=>
      rw[h1]at hr;cases v with
      |o x=>cases hr
      |p j' q' b'=>cases hr
      |g l'=>
       obtain⟨e1,ha,ho,hl⟩:=fin hr;subst ha;refine key e1 ?_ hl;obtain⟨dd,hu,qH,hi⟩:=ru (Ty.row hg h1);have Ed:(dz l').length=e.m:=hlen;have:=run_storeAt_mid (P:=P) w a q e.id (dz l').toArray (by simp only[List.size_toArray,Ed];exact Tc.there q e.m hq) (by simp only[List.size_toArray,Ed];exact hi) (by simpa using wJ (l:=l') ho);have hy:ev (cn f) y= .agg (dz l').toArray:=hy;simp only[execOp,hp,hx,hy,Sem.run_bind,this,Result.andThen_ok,Sem.run_pure];rfl
    ·cases hr
   ·cases hr
  ·cases hr
 |_=>rw[hp]at hr;simp only[ZN,reduceCtorEq]at hr
end
theorem AM(Z N:tK)(off:Nat)(h:off+N.length≤Z.length):(N.toArray.zipIdx.foldl (fun(cs:tN) (x:Value×Nat)=>cs.setIfInBounds (off+x.2) x.1) Z.toArray)=(Z.take off++(N++Z.drop (off+N.length))).toArray:=by
 obtain⟨h1,h2⟩:=AD Z.toArray off N 0 (by simpa using h);have e1:N.toArray.zipIdx=(N.zipIdx 0).toArray:=by simp
 rw[e1,←Array.foldl_toList];apply Array.ext_getElem?;intro i;refine(h2 i).trans ?_;simp only[Nat.add_zero,List.getElem?_toArray];by_cases a:i<off
 ·rw[if_neg (by omega),List.getElem?_append_left (by rw[List.length_take];omega),List.getElem?_take,if_pos a]
 ·have Y3:(Z.take off).length=off:=by rw[List.length_take];omega
  rw[List.getElem?_append_right (by omega),Y3];by_cases b:i<off+N.length
  ·rw[if_pos ⟨by omega,b⟩,List.getElem?_append_left (by omega)]
  ·rw[if_neg (by omega),List.getElem?_append_right (by omega),List.getElem?_drop,show off+N.length+(i-off-N.length)=i by omega]
theorem lq{v:SV}(h:∀x,v= .o x→x.cells= #[x]):v.val.cells=(dz v.j9).toArray:=by
 cases v with
 |o x=>exact(h x rfl).trans rfl
 |p j q b=>rfl
 |g l=>rfl
theorem xj{pl:Nat→Option (Nat×Nat)}{i off sz:Nat}{l:List Sg}{v:SV}{rest:List (Nat×Value)}(hp:pl i=some (off,sz))(hv:v.val.cells=(dz v.j9).toArray)(hs:fX v.j9=sz)(ho:off+sz≤fX l):
  Instr.fill pl (dz l).toArray ((i,v.val)::rest)=Instr.fill pl (dz (eM l off++(v.j9++iv l (off+sz)))).toArray rest:=by
 have hl:(dz v.j9).length=sz:=(cG _).trans hs;rw[Instr.fill,hp];simp only[hv];have e1:((dz v.j9).toArray.size≠sz||decide (off+(dz v.j9).toArray.size>(dz l).toArray.size))=false:=by
  simp only[List.size_toArray,hl,cG];simp;omega
 have e2:=AM (dz l) (dz v.j9) off (by rw[hl,cG];exact ho);rw[e1];simp only[Bool.false_eq_true,if_false];have e3:dz (eM l off++(v.j9++iv l (off+sz)))=(dz l).take off++(dz v.j9++(dz l).drop (off+(dz v.j9).length)):=by rw[dV,dV,jl,iw,hl]
 rw[e3,←e2]
section
variable{P:tS}{T:Tr}{n:Nat}{ops:tL}{f:Nat→AV}{o:Oper}
theorem mR:∀{a b:List Prop},jn (a++b)→jn a∧jn b
 |[],_,h=>⟨trivial,h⟩
 |_::_,_,h=>⟨⟨h.1,(mR h.2).1⟩,(mR h.2).2⟩
theorem JE{pl:Nat→Option (Nat×Nat)}:∀(r:List (Nat×Operand)) (l:List Sg) (c:List Prop) {l':List Sg} {c':List Prop},Xk f pl r l c=some (l',c')→jn c'→Instr.fill pl (dz l).toArray (r.map fun(p:Nat×Operand)=>(p.1,ev (cn f) p.2))=some (dz l').toArray∧fX l'=fX l∧jn c
 |[],l,c,l',c',h,hc=>by
  cases h;exact⟨rfl,rfl,hc⟩
 |(i,x)::r,l,c,l',c',h,hc=>by
  unfold Xk at h;simp only[rD]at h;split at h
  ·rename_i off sz v hp hx;split at h
   ·rename_i hb;rw[Bool.and_eq_true]at hb;have hs:=Nat.eq_of_beq_eq_true hb.1;have ho:=Nat.le_of_ble_eq_true hb.2;have hv:ev (cn f) x=v.val:=by rw[←bB,hx];rfl
    have ij:fX (eM l off++(v.j9++iv l (off+sz)))=fX l:=by
     rw[←cG,dV,dV,jl,iw];simp only[List.length_append,List.length_take,List.length_drop,cG,hs];omega
    rw[List.map_cons];simp only[hv];cases v with
    |o y=>
     obtain⟨h1,h2,h3⟩:=JE r _ _ h hc;refine⟨?_,h2.trans ij,h3.2⟩;rw[xj hp (lq fun z e=>by cases e;exact h3.1) hs ho];exact h1
    |p j q b=>
     obtain⟨h1,h2,h3⟩:=JE r _ _ h hc;refine⟨?_,h2.trans ij,h3⟩;rw[xj hp (lq fun z e=>by cases e) hs ho];exact h1
    |g k=>
     obtain⟨h1,h2,h3⟩:=JE r _ _ h hc;refine⟨?_,h2.trans ij,h3⟩;rw[xj hp (lq fun z e=>by cases e) hs ho];exact h1
   ·cases h
  ·cases h
theorem OJ{s:Nat}{e:Ty}{parts:Array (Nat×Operand)}{l:List Sg}{c:List Prop}(hT:T.Ok P)(hf:T.find s=some e)(h1:e.fp=false)(hb:Xk f (Ta e) parts.toList e.z []=some (l,c))(hc:jn c)(w:tA):(Instr.build s (parts.toList.map fun(p:Nat×Operand)=>(p.1,ev (cn f) p.2)).toArray).run P w= .ok (.agg (dz l).toArray) w:=by
 obtain⟨h2,_,_⟩:=JE (f:=f) (pl:=Ta e) parts.toList e.z [] hb hc;obtain⟨hg,rfl⟩:=hT.eS hf;have hz:=hT.zero hf;have ez:e.zero= .agg (dz e.z).toArray:=by
  unfold Ty.zero;rw[h1]
 rw[ez]at hz;refine Go.run_build w e.id _ (dz l).toArray ?_;cases hit:P.info? e.id with
 |none=>simp[hit]at hz
 |some it=>
  have hz:it.zero=some (.agg (dz e.z).toArray):=by simpa[hit]using hz
  have Od:(Value.agg (dz e.z).toArray).cells=(dz e.z).toArray:=rfl;have Cp:=hg;unfold Ty.eS at Cp;rw[Bool.and_eq_true]at Cp;have Cp:=Cp.2;have nk:∀{k:Nat},e.kd=k→(match k with|0=>true|2=>true|4=>true|_=>false)=false:=fun e0=>by subst e0;exact h1
  split at Cp
  ·rename_i k;cases nk k
  ·rename_i k1;have hp:=(Ty.plc hg k1).1;unfold S9 at hp;split at hp
   ·rename_i fs hu;have Ha:(Ta e)=((e.fl.map fun x=>(x.1,x.2.1)).toArray[·]?):=by
     funext i;unfold Ta;rw[k1];simp only[fF,List.getElem?_toArray,List.getElem?_map];cases e.fl[i]? <;>rfl
    rw[Ha]at h2;unfold Program.built;simp only[hit,hu,hz,hp,Od];exact h2
   ·cases hp
  ·rename_i k;cases nk k
  ·rename_i k;cases nk k
  ·rename_i k1 _ _;simp only[Bool.and_eq_true,beq_iff_eq]at Cp;have ha:=Cp.1.2;unfold Ef at ha;split at ha
   ·rename_i len el hu;cases hi:P.info? el with
    |none=>simp[hi]at ha
    |some ti=>
     simp[hi]at ha;unfold Program.built;simp only[hit,hu,hz,hi,Od];by_cases k3:e.kd=3
     ·have Ha:(Ta e)=fun i=>some (i*e.es,e.es):=by
       funext i;unfold Ta;rw[k3];rfl
      rw[Ha,←ha.2]at h2;exact h2
     ·have Ha:∀i,Ta e i=none:=fun i=>by
       unfold Ta;split
       ·rename_i k;exact absurd k k1
       ·rename_i k;exact absurd k k3
       ·rfl
      cases hq:parts.toList with
      |nil=>rw[hq]at h2;exact h2
      |cons p r=>
       obtain⟨i,x⟩:=p;rw[hq]at hb;unfold Xk at hb;rw[Ha]at hb;simp at hb
   ·cases ha
theorem ZT{v:AV}{c:List Prop}(hT:T.Ok P)(h:Ob T f o.op=some (v,c))(hc:jn c)(w:tA):(execOp (ev (cn f)) o).run P w= .ok (.value v.val) w:=by
 have mv:∀x v c,(match ea f x with| .s v=>some (AV.s v,([]:List Prop))| .t l=>some (.t l,[]))=some (v,c)→v=ea f x:=fun x v c h=>by
  split at h<;>(rename_i e;cases h;exact e.symm)
 cases hp:o.op with
 |move x=>
  rw[hp]at h;obtain rfl:=mv x v c h;simp only[execOp,hp,Sem.run_pure,bB]
 |assign x=>
  rw[hp]at h;obtain rfl:=mv x v c h;simp only[execOp,hp,Sem.run_pure,bB]
 |nilCheck x=>
  rw[hp]at h;simp only[Ob]at h;split at h
  ·rename_i hx;cases h;have hx:ev (cn f) x=_:=(bB f x).symm.trans (congrArg AV.val hx);simp only[execOp,hp,hx];rfl
  ·rename_i hx;cases h;have hx:ev (cn f) x=_:=(bB f x).symm.trans (congrArg AV.val hx);simp only[execOp,hp,hx];rfl
  ·cases h
 |fieldAddr s x k=>
  rw[hp]at h;simp only[Ob]at h;split at h
  ·rename_i e hf;obtain⟨hg,rfl⟩:=hT.eS hf;split at h
   ·rename_i off _ _ k1 hk;rw[fF]at hk;have Y4:=OD hg k1 hk;split at h
    ·rename_i hx;cases h;have hx:ev (cn f) x= .pointer _:=(bB f x).symm.trans (congrArg AV.val hx);simp only[execOp,hp,hx,Sem.run_bind,AF Y4,Result.andThen_ok,Sem.run_pure];rfl
    ·rename_i hx;cases h;have hx:ev (cn f) x= .pointer _:=(bB f x).symm.trans (congrArg AV.val hx);simp only[execOp,hp,hx,Sem.run_bind,AF Y4,Result.andThen_ok,Sem.run_pure];rfl
    ·cases h
   ·cases h
  ·cases h
 |extract x k=>
  rw[hp]at h;simp only[Ob]at h;split at h
  ·rename_i l hx;split at h
   ·rename_i s hk;cases h;rw[fF]at hk;have hx:ev (cn f) x= .tuple (l.map SV.val).toArray:=(bB f x).symm.trans (congrArg AV.val hx);have hk:(l.map SV.val).toArray[k]? =some s.val:=by simp[hk]
    simp only[execOp,hp,hx,Instr.extract,hk,Sem.run_bind,Result.andThen_ok,Sem.run_pure];rfl
   ·cases h
  ·cases h
 |pick x y z=>
  rw[hp]at h;simp only[Ob]at h;split at h
  ·rename_i hx;cases h;have hx:ev (cn f) x= .bool true:=(bB f x).symm.trans (congrArg AV.val hx);simp only[execOp,hp,hx,asBool,Sem.run_bind,Result.andThen_ok,Sem.run_pure,bB,if_true]
  ·rename_i hx;cases h;have hx:ev (cn f) x= .bool false:=(bB f x).symm.trans (congrArg AV.val hx);simp[execOp,hp,hx,asBool,bB]
  ·cases h
 |unOp u s x=>
  rw[hp]at h;cases u<;>simp only[Ob,reduceCtorEq]at h
  split at h
  ·rename_i hx;cases h;have hx:ev (cn f) x= .bool true:=(bB f x).symm.trans (congrArg AV.val hx);simp only[execOp,hp,hx,Op.unary,Sem.run_bind,Result.andThen_ok,Sem.run_pure];rfl
  ·rename_i hx;cases h;have hx:ev (cn f) x= .bool false:=(bB f x).symm.trans (congrArg AV.val hx);simp only[execOp,hp,hx,Op.unary,Sem.run_bind,Result.andThen_ok,Sem.run_pure];rfl
  ·cases h
 |build s parts=>
  rw[hp]at h;simp only[Ob]at h;split at h
  ·rename_i e hf;split at h
   ·cases h
   ·rename_i h1;split at h
    ·rename_i l c' hb;cases h;have h1:e.fp=false:=h1;have e1:(parts.map fun(i,x)=>(i,ev (cn f) x))=(parts.toList.map fun(p:Nat×Operand)=>(p.1,ev (cn f) p.2)).toArray:=xg _ _;simp only[execOp,hp,Sem.run_bind,e1,OJ hT hf h1 hb hc,Result.andThen_ok,Sem.run_pure];rfl
    ·cases h
  ·cases h
 |makeFunc fn xs ys=>
  rw[hp]at h;cases h;have e1:∀xs:Array Operand,xs.map (ev (cn f))=(xs.toList.map fun x=>(ea f x).val).toArray:=fun xs=>by
   rw[xg];congr 1;exact List.map_congr_left fun x _=>(bB f x).symm
  simp only[execOp,hp,Instr.makeFunc,Sem.run_bind,Result.andThen_ok,Sem.run_pure,e1];rfl
 |call cl=>
  obtain⟨ce,xs,ts⟩:=cl;rw[hp]at h;cases ce with
  |value v=>simp only[Ob,reduceCtorEq]at h
  |builtin bi=>
   cases bi<;>simp only[Ob,reduceCtorEq]at h
   split at h
   ·rename_i x s e1 e2;split at h
    ·rename_i e a l c' hf hx;split at h
     ·rename_i k2;cases h;obtain⟨hg,rfl⟩:=hT.eS hf;have hx:ev (cn f) x= .slice a l c':=(bB f x).symm.trans (congrArg AV.val hx);have Y4:=(Ty.Y0 hg k2).1;obtain rfl:xs= #[x]:=by
       apply Array.ext';rw[e1]
      obtain rfl:ts= #[e.id]:=by
       apply Array.ext';rw[e2]
      unfold iW at Y4;split at Y4
      ·rename_i e hu;simp[execOp,hp,resolve,hx,invoke,builtin,Builtin.len_,run_underlying hu,goInt];rfl
      ·cases Y4
     ·cases h
    ·cases h
   ·cases h
  |_=>simp only[Ob,reduceCtorEq]at h
 |_=>rw[hp]at h;simp only[Ob,reduceCtorEq]at h
end
section
variable{P:tS}{T:Tr}{n:Nat}{ops:tL}{f:Nat→AV}{o:Oper}
theorem dt{x:tP}{v:AV}(hx:ea f x=v):ev (cn f) x=v.val:=(bB f x).symm.trans (congrArg AV.val hx)
theorem V4{s:Nat}{e:Ty}(hT:T.Ok P)(hf:T.find s=some e)(hk:e.kd=4):∃a b c,P.underlying s=some (.func a b c):=by
 obtain⟨hg,rfl⟩:=hT.eS hf;have:=Ty.fn hg hk;unfold Xh at this;split at this
 ·rename_i a b c hu;exact⟨a,b,c,hu⟩
 ·cases this
theorem OK{s:Nat}{v:tJ}{b:Bool}(hu:∃a b c,P.underlying s=some (.func a b c))(hv:(v= .nilFunc∧b=false)∨(∃x y z,v= .func x y z)∧b=true)(x y:tP)(w:tA):(do eqGuard .neq s x y v .nilFunc;pure (Next.value (←binOp .neq s v .nilFunc))).run P w= .ok (.value (.bool b)) w:=by
 obtain⟨a,b',c,hu⟩:=hu;have e1:∀u v,Op.equal s u v=Op.equalIn (9999+1) s u v:=fun _ _=>rfl;have k1:∀d w,(Op.equalIn (d+1) s .nilFunc .nilFunc).run P w= .ok true w:=fun d w=>by
  rw[Op.equalIn];simp[run_underlying hu]
 have k2:∀d x y z w,(Op.equalIn (d+1) s (.func x y z) .nilFunc).run P w= .ok false w:=fun d x y z w=>by
  rw[Op.equalIn];simp[run_underlying hu]
 rcases hv with⟨rfl,rfl⟩|⟨⟨a1,a2,a3,rfl⟩,rfl⟩
 ·simp only[eqGuard,binOp,e1];simp[k1]
 ·simp only[eqGuard,binOp,e1];simp[k2]
theorem ZU{g:BinOp}{s s':Nat}{x y:tP}{h h':tR}{z z':tF}{v:AV}{c:List Prop}(hT:T.Ok P)(hp:o.op= .binOp g s x y s')(hr:cpA T g s (ea f x) (ea f y) h z=some (h',z',v,c))(hc:jn c)(w:tA):(execOp (ev (cn f)) o).run P w= .ok (.value v.val) w:=by
 have cmp:∀{a b:Int} {cc:Bool},ev (cn f) x=iV a→ev (cn f) y=iV b→ry g a b=some cc→(execOp (ev (cn f)) o).run P w= .ok (.value (.bool cc)) w:=fun {a b cc} hx hy hc=>by
  cases g<;>simp only[ry,Option.some.injEq,reduceCtorEq]at hc<;>subst hc<;>simp[execOp,hp,hx,hy,eqGuard,binOp,Op.intCmp]
 unfold cpA at hr;split at hr
 ·rename_i hx hy;split at hr
  ·cases hr;exact cmp (dt hx) (dt hy) hc.1
  ·cases hr;exact cmp (dt hx) (dt hy) hc.1
  ·cases hr
 ·rename_i hx hy;split at hr
  ·rename_i hf _;cases hr;have hx:ev (cn f) x= .nilFunc:=dt hx;have hy:ev (cn f) y= .nilFunc:=dt hy;simp only[execOp,hp,hx,hy];exact OK (V4 hT hf hc.1) (.inl ⟨rfl,rfl⟩) x y w
  ·cases hr
 ·rename_i hx hy;split at hr
  ·rename_i hf _;cases hr;have hx:ev (cn f) x= .func _ _ _:=dt hx;have hy:ev (cn f) y= .nilFunc:=dt hy;simp only[execOp,hp,hx,hy];exact OK (V4 hT hf hc.1) (.inr ⟨⟨_,_,_,rfl⟩,rfl⟩) x y w
  ·cases hr
 ·cases hr
theorem ZV{h h':tR}{z z':tF}{v:AV}{c:List Prop}(hT:T.Ok P)(hr:OG T f h z o.op=some (h',z',v,c))(hc:jn c)(w:tA):(execOp (ev (cn f)) o).run P w= .ok (.value v.val) w:=by
 cases hp:o.op with
 |binOp g s x y s'=>
  rw[hp]at hr;have rest:=fun hr=>ZU (o:=o) (f:=f) (h:=h) (z:=z) (h':=h') (z':=z') (v:=v) hT hp hr hc w;cases g with
  |add=>
   simp only[OG]at hr;split at hr
   ·rename_i hx hy;cases hr;have hx:ev (cn f) x=iV _:=dt hx;have hy:ev (cn f) y=iV _:=dt hy;simp[execOp,hp,hx,hy,eqGuard,binOp,Op.intArith];rfl
   ·rename_i hx hy;split at hr
    ·cases hr;obtain⟨rfl,_⟩:=hc;have hx:ev (cn f) x=iV _:=dt hx;have hy:ev (cn f) y=iV _:=dt hy;simp[execOp,hp,hx,hy,eqGuard,binOp,Op.intArith];rfl
    ·cases hr
   ·cases hr
  |sub=>
   simp only[OG]at hr;split at hr
   ·rename_i hx hy;cases hr;have hx:ev (cn f) x=iV _:=dt hx;have hy:ev (cn f) y=iV _:=dt hy;simp[execOp,hp,hx,hy,eqGuard,binOp,Op.intArith];rfl
   ·rename_i hx hy;split at hr
    ·cases hr;obtain⟨rfl,_⟩:=hc;have hx:ev (cn f) x=iV _:=dt hx;have hy:ev (cn f) y=iV _:=dt hy;simp[execOp,hp,hx,hy,eqGuard,binOp,Op.intArith];rfl
    ·cases hr
   ·cases hr
  |_=>exact rest hr
 |indexAddr s x y=>
  rw[hp]at hr;simp only[OG]at hr;split at hr
  ·rename_i e hf;obtain⟨hg,rfl⟩:=hT.eS hf;split at hr
   ·rename_i k2;split at hr
    ·rename_i b q len cap j hx hy;cases hr;have hx:ev (cn f) x= .slice (some ⟨b,q,none⟩) len cap:=dt hx;have hy:ev (cn f) y=iV (j:Int):=dt hy;simp only[execOp,hp,hx,hy,Sem.run_bind,S5 (Ty.Y0 hg k2).1 b q len cap j hc.1,Result.andThen_ok,Sem.run_pure];rfl
    ·cases hr
   ·rename_i k3;split at hr
    ·rename_i k q b j hx hy;have hx:ev (cn f) x= .pointer (some ⟨b,q,none⟩):=dt hx;have hy:ev (cn f) y=iV (j:Int):=dt hy;split at hr
     ·cases hr;simp only[execOp,hp,hx,hy,Sem.run_bind,Cf (len:=e.ar) (sz:=e.es) (Ty.arr hg k3) b q j hc.1,Result.andThen_ok,Sem.run_pure];rfl
     ·cases hr;simp only[execOp,hp,hx,hy,Sem.run_bind,Cf (len:=e.ar) (sz:=e.es) (Ty.arr hg k3) b q j hc.1,Result.andThen_ok,Sem.run_pure];rfl
     ·cases hr
    ·rename_i b q j hx hy;cases hr;have hx:ev (cn f) x= .pointer (some ⟨b,q,none⟩):=dt hx;have hy:ev (cn f) y=iV (j:Int):=dt hy;simp only[execOp,hp,hx,hy,Sem.run_bind,Cf (len:=e.ar) (sz:=e.es) (Ty.arr hg k3) b q j hc.1,Result.andThen_ok,Sem.run_pure];rfl
    ·cases hr
   ·cases hr
  ·cases hr
 |slice s x lo hi mx=>
  rw[hp]at hr;cases mx with
  |some _=>simp only[OG,reduceCtorEq]at hr
  |none=>
   simp only[OG]at hr;split at hr
   ·rename_i e a len cap hf hx;obtain⟨hg,rfl⟩:=hT.eS hf;have hx:ev (cn f) x= .slice a len cap:=dt hx;split at hr
    ·rename_i y u k2;split at hr
     ·rename_i l k hy hu;cases hr;have hy:ev (cn f) y=iV (l:Int):=dt hy;have hu:ev (cn f) u=iV (k:Int):=dt hu;simp only[execOp,hp,hx,hy,hu,Option.map_some,Option.map_none,Sem.run_bind,Lh (Ty.Y0 hg k2).1 a len cap l k hc.1 hc.2.1,Result.andThen_ok,Sem.run_pure];rfl
     ·cases hr
    ·rename_i y k2;split at hr
     ·rename_i l hy;cases hr;have hy:ev (cn f) y=iV (l:Int):=dt hy;simp only[execOp,hp,hx,hy,Option.map_some,Option.map_none,Sem.run_bind,Ci (Ty.Y0 hg k2).1 a len cap l hc.1,Result.andThen_ok,Sem.run_pure];rfl
     ·cases hr
    ·rename_i u k2;split at hr
     ·rename_i k hu;cases hr;have hu:ev (cn f) u=iV (k:Int):=dt hu;simp only[execOp,hp,hx,hu,Option.map_some,Option.map_none,Sem.run_bind,Cj (Ty.Y0 hg k2).1 a len cap k hc.1,Result.andThen_ok,Sem.run_pure];rfl
     ·cases hr
    ·cases hr
   ·cases hr
 |call cl=>
  obtain⟨ce,xs,ts⟩:=cl;rw[hp]at hr;cases ce with
  |value v=>simp only[OG,reduceCtorEq]at hr
  |builtin bi=>
   cases bi<;>simp only[OG,reduceCtorEq]at hr
   split at hr
   ·rename_i x y e1;obtain rfl:xs= #[x,y]:=by
     apply Array.ext';rw[e1]
    split at hr
    ·rename_i hx hy;cases hr;have hx:ev (cn f) x=iV _:=dt hx;have hy:ev (cn f) y=iV _:=dt hy;have h1:=hc.1;simp[execOp,hp,resolve,hx,hy,invoke,builtin,Builtin.min_,Builtin.min2,h1];rfl
    ·rename_i hx hy;cases hr;have hx:ev (cn f) x=iV _:=dt hx;have hy:ev (cn f) y=iV _:=dt hy;have h1:=hc.1;simp[execOp,hp,resolve,hx,hy,invoke,builtin,Builtin.min_,Builtin.min2,h1];rfl
    ·rename_i hx hy;split at hr
     ·cases hr;have hx:ev (cn f) x=iV _:=dt hx;have hy:ev (cn f) y=iV _:=dt hy;have h1:=hc.1;unfold Mn at h1;simp[execOp,hp,resolve,hx,hy,invoke,builtin,Builtin.min_,Builtin.min2,h1];rfl
     ·cases hr
    ·cases hr
   ·cases hr
  |_=>simp only[OG,reduceCtorEq]at hr
 |_=>rw[hp]at hr;simp only[OG,reduceCtorEq]at hr
end
theorem Te{i sz:Nat}{A B:tK}{v:SV}{rest:List (Nat×Value)}(hv:v.val.cells=(dz v.j9).toArray)(hs:fX v.j9=sz)(hA:A.length=i*sz)(hB:sz≤B.length):
  Instr.fill (fun i=>some (i*sz,sz)) (A++B).toArray ((i,v.val)::rest)=Instr.fill (fun i=>some (i*sz,sz)) ((A++dz v.j9)++B.drop sz).toArray rest:=by
 have hl:(dz v.j9).length=sz:=(cG _).trans hs;rw[Instr.fill];simp only[hv];have e1:((dz v.j9).toArray.size≠sz||decide (i*sz+(dz v.j9).toArray.size>(A++B).toArray.size))=false:=by
  simp only[List.size_toArray,hl,List.length_append,hA];simp;exact hB
 have e2:=AM (A++B) (dz v.j9) (i*sz) (by rw[hl,List.length_append,hA];omega);rw[e1];simp only[Bool.false_eq_true,if_false];rw[e2,hl];congr 2;rw[←hA,List.take_left,List.drop_append,List.drop_eq_nil_of_le (by omega),List.nil_append,Nat.add_sub_cancel_left,List.append_assoc]
section
variable{P:tS}{T:Tr}{n:Nat}{ops:tL}{f:Nat→AV}{o:Oper}
theorem OL{sz:Nat}:∀(r:List (Nat×Operand)) (k:Nat) (c:List Prop) {l:List Sg} {c':List Prop} (A B:tK),Y2 f sz k r c=some (l,c')→jn c'→A.length=k*sz→B.length=r.length*sz→
  Instr.fill (fun i=>some (i*sz,sz)) (A++B).toArray (r.map fun(p:Nat×Operand)=>(p.1,ev (cn f) p.2))=some (A++dz l).toArray∧jn c
 |[],k,c,l,c',A,B,h,hc,hA,hB=>by
  cases h;obtain rfl:B=[]:=List.eq_nil_of_length_eq_zero (by simpa using hB);exact⟨rfl,hc⟩
 |(i,x)::r,k,c,l,c',A,B,h,hc,hA,hB=>by
  unfold Y2 at h;split at h
  ·rename_i v hb hx;obtain rfl:i=k:=Nat.eq_of_beq_eq_true hb;have hv:ev (cn f) x=v.val:=dt hx;split at h
   ·rename_i AN;have hs:=Nat.eq_of_beq_eq_true AN;have hl:(dz v.j9).length=sz:=(cG _).trans hs;have hB2:B.length=r.length*sz+sz:=by rw[hB,List.length_cons,Nat.add_mul,Nat.one_mul]
    have step:∀c1 l1,Y2 f sz (i+1) r c1=some (l1,c')→v.val.cells=(dz v.j9).toArray→Instr.fill (fun i=>some (i*sz,sz)) (A++B).toArray (((i,x)::r).map fun(p:Nat×Operand)=>(p.1,ev (cn f) p.2))=some (A++dz (v.j9++l1)).toArray∧jn c1:=fun c1 l1 h1 AL=>by
     rw[List.map_cons];simp only[hv];rw[Te AL hs hA (by omega)];obtain⟨h2,h3⟩:=OL r (i+1) c1 (A++dz v.j9) (B.drop sz) h1 hc (by rw[List.length_append,hA,hl,Nat.add_mul,Nat.one_mul]) (by rw[List.length_drop,hB2];omega);rw[h2,dV,List.append_assoc];exact⟨rfl,h3⟩
    split at h
    ·rename_i y;split at h
     ·rename_i l1 c1 h1;cases h;have Y5:=(OL r (i+1) ((y.cells= #[y])::c) (A++dz (SV.o y).j9) (B.drop sz) h1 hc (by rw[List.length_append,hA,hl,Nat.add_mul,Nat.one_mul]) (by rw[List.length_drop,hB2];omega)).2;obtain⟨h2,h3⟩:=step _ l1 h1 (lq fun z e=>by cases e;exact Y5.1);exact⟨h2,h3.2⟩
     ·cases h
    ·rename_i nv;split at h
     ·rename_i l1 c1 h1;cases h;exact step _ l1 h1 (lq fun z e=>absurd e (nv z))
     ·cases h
   ·cases h
  ·cases h
theorem ZW{j s k:Nat}{l:List Sg}{c:List Prop}{w:tA}(hT:T.Ok P)(hr:Xl T f o.op=some (s,l,k,c))(hc:jn c):(execOp (ev (cn f)) o).run P w= .ok (.value (OH j k w.heap.size).val) (w.alloc (.cells (dz l).toArray s)):=by
 cases hp:o.op with
 |alloc s'=>
  rw[hp]at hr;simp only[Xl]at hr;split at hr
  ·rename_i e hf;cases hr;have hz:=sA (hT.zero hf) w;have AL:e.zero.cells=(dz e.z).toArray:=by
    unfold Ty.zero;cases h1:e.fp with
    |true=>
     rw[h1]at hc;cases hz:e.z with
     |nil=>rw[hz]at hc;exact hc.1.elim
     |cons a t=>
      rw[hz]at hc;cases a with
      |o x=>
       cases t with
       |nil=>exact hc.1
       |cons _ _=>exact hc.1.elim
      |p _ _ _=>exact hc.1.elim
      |f _ _=>exact hc.1.elim
    |false=>rfl
   simp[execOp,hp,Instr.alloc,hz,go_sem];refine⟨rfl, ?_⟩;show w.alloc (.cells e.zero.cells _)=_;rw[AL]
  ·cases hr
 |box s' x=>
  rw[hp]at hr;simp only[Xl]at hr;have key:∀v:SV,ea f x= .s v→v.val.cells=(dz v.j9).toArray→(execOp (ev (cn f)) o).run P w= .ok (.value (.pointer (some ⟨w.heap.size,0,none⟩))) (w.alloc (.cells (dz v.j9).toArray s')):=fun v hx AL=>by
   have hx:ev (cn f) x=v.val:=dt hx;simp[execOp,hp,hx,Instr.box,go_sem];show w.alloc (.cells v.val.cells s')=_;rw[AL]
  split at hr
  ·rename_i y hx;cases hr;exact key (.o y) hx (lq fun z e=>by cases e;exact hc.1)
  ·rename_i v nv hx;cases hr;exact key v hx (lq fun z e=>by subst e;exact absurd rfl (nv z))
  ·cases hr
 |buildSlice s' k' parts=>
  rw[hp]at hr;simp only[Xl,rD]at hr;split at hr
  ·rename_i e hf;obtain⟨hg,rfl⟩:=hT.eS hf;split at hr
   ·rename_i e2 k2 hf2;split at hr
    ·rename_i l1 c1 he;split at hr
     ·rename_i hb;simp only[Bool.and_eq_true]at hb;obtain⟨b1,b2,b3,b4⟩:=hb;have b1:=Nat.eq_of_beq_eq_true b1;have b2:0<k'*e.es:=by simpa[Nat.blt_eq]using b2
      have b3:=Nat.le_of_ble_eq_true b3;have b4:=Nat.eq_of_beq_eq_true b4;cases k' with
      |zero=>cases hr
      |succ k''=>
       cases hr;obtain⟨hs,Th⟩:=Ty.Y0 hg k2;unfold iW at hs;unfold S_ at Th;split at hs
       ·rename_i el hu;rw[hu]at Th;obtain rfl:el=e.el:=by simpa using Th
        cases hi:P.info? e.el with
        |none=>simp[hi]at hs
        |some ti=>
         have hs:ti.size=e.es:=by simpa[hi]using hs
         have ij:∀w,(sizeOf e.el).run P w= .ok e.es w:=fun w=>by simp[sizeOf,typeInfo,hi,hs]
         have hz:∃z,(zeroValue e.el).run P w= .ok z w:=⟨_,sA (hT.zero hf2) w⟩;have h24:¬(k''+1)*e.es>2^24:=by omega
         have vW:¬(k''+1)*e.es=0:=by omega
         obtain⟨z,hz⟩:=hz;have e1:(parts.map fun(i,x)=>(i,ev (cn f) x))=(parts.toList.map fun(p:Nat×Operand)=>(p.1,ev (cn f) p.2)).toArray:=xg _ _;have vq:=(OL (f:=f) parts.toList 0 [] [] ((Array.range ((k''+1)*e.es)).map (z.cells[· % z.cells.size]!)).toList he hc (by simp) (by simp[b1])).1;simp only[List.nil_append,Array.toArray_toList]at vq;simp only[execOp,hp,e1,Instr.buildSlice,Sem.run_bind,run_underlying hu,Result.andThen_ok,ij,if_neg h24,if_neg vW,hz,Sem.run_pure,vq];simp[newRow,newObj,Sem.run];rfl
       ·cases hs
     ·cases hr
    ·cases hr
   ·cases hr
  ·cases hr
 |_=>rw[hp]at hr;simp only[Xl,reduceCtorEq]at hr
end
section
variable{P:tS}{T:Tr}{n:Nat}{ops:tL}{f:Nat→AV}{o:Oper}{fn:Func}{Rr:Ending→World→Prop}{M:tD}{Φ R:tI}{H:List En}{w:tA}
theorem sC{V:tR}(w:tA):AE V w w:=⟨rfl,rfl,rfl,Nat.le_refl _,fun _ _ _=>rfl⟩
theorem xk{V fx fl:tR}{i:Nat}:fE (AE V) fx fl i w w:=by
 unfold fE;split
 ·trivial
 ·split
  ·exact sC w
  ·rfl
theorem V5{V:tR}{Q:tH}{fx fl:tR}{i:Nat}{t:Ord}{g:tC}(ho:ops[i]? =some o)(hw:Region.wanted o (yielded ops (kn n g))=false)(h:kG P ops Q (AE V) fx fl t ((⟨kn n g,[]⟩:Act).put o.dst undef) w):WF P ops Q V fx fl (.ef i t) n g w:=by
 show wpOp P ops Q i _ _ w;unfold wpOp;simp only[ho,hw];exact⟨xk,h⟩
theorem OM{t b q:Nat}{v:tJ}(h:o_ P t=true)(hc:w.cell? ⟨b,q,none⟩=some v):(loadVar t ⟨b,q,none⟩).run P w= .ok v w:=by
 have:=Cg h hc;simpa[Instr.loadAt,Instr.sureAddr]using this
theorem ON(hT:T.Ok P)(hS:Mem w (hs H) M Φ R){g:ResultVar→Sem Value}(GN:∀d,g (.tmp d)=pure ((kn n (cn f)).getD d undef))(Cp:∀a t,g (.cell a t)=(do loadVar t (←asAddr ((kn n (cn f)).getD a undef)))):∀(rs:List ResultVar) (c:List Prop) {l:List SV} {c':List Prop},Xn T n f H rs c=some (l,c')→jn c'→(rs.mapM (m:=Sem) g).run P w= .ok (l.map SV.val) w∧jn c
 |[],c,l,c',h,hc=>by
  cases h;exact⟨by simp,hc⟩
 | .tmp d::rs,c,l,c',h,hc=>by
  unfold Xn at h;split at h
  ·rename_i v hd hv;split at h
   ·rename_i l1 c1 h1;cases h;obtain⟨h2,h3⟩:=ON hT hS GN Cp rs c h1 hc;have hd:d<n:=by simpa[Nat.blt_eq]using hd
    have e1:(kn n (cn f)).getD d undef=v.val:=by
     rw[Array.getD_eq_getD_getElem?,pA hd];show cn f d=_;unfold cn;rw[hv];rfl
    refine⟨?_,h3⟩;simp only[List.mapM_cons,GN,Sem.run_bind,e1,Sem.run_pure,Result.andThen_ok,h2];rfl
   ·cases h
  ·cases h
 | .cell d s::rs,c,l,c',h,hc=>by
  unfold Xn at h;split at h
  ·rename_i j q b e hd hv hf;split at h
   ·rename_i a t l0 hn;split at h
    ·rename_i v hp;split at h
     ·rename_i l1 c1 h1;cases h;obtain⟨h2,rfl,h3⟩:=ON hT hS GN Cp rs _ h1 hc;have hd:d<n:=by simpa[Nat.blt_eq]using hd
      have e1:(kn n (cn f)).getD d undef= .pointer (some ⟨a,q,none⟩):=by
       rw[Array.getD_eq_getD_getElem?,pA hd];show cn f d=_;unfold cn;rw[hv];rfl
      rw[fF]at hn;have he:(hs H)[j]? =some (En.ib ⟨a,t,l0⟩):=by rw[List.getElem?_map,hn];rfl
      have fb:=hS.at j he;obtain⟨hg,rfl⟩:=hT.eS hf;have e2:(loadVar e.id ⟨a,q,none⟩).run P w= .ok v.val w:=by
       cases h1:e.fp with
       |true=>
        rw[h1]at hp;exact OM (Ty.one hg h1).1 (En.cell (e:=⟨a,t,l0⟩) fb (Ei hp))
       |false=>
        rw[h1]at hp;obtain⟨l',rfl,hl,hr⟩:=Ej hp;obtain⟨dd,hu,qH,hi⟩:=ru (Ty.row hg h1);exact run_loadVar_mid (P:=P) w a q e.id (dz l') dd (En.range (e:=⟨a,t,l0⟩) fb hr) hu qH (by rw[hl];exact hi)
      refine⟨?_,h3⟩;simp only[List.mapM_cons,Cp,Sem.run_bind,e1,asAddr,Sem.run_pure,Result.andThen_ok,e2,h2];rfl
     ·cases h
    ·cases h
   ·cases h
  ·cases h
theorem ZX(hT:T.Ok P)(hS:Mem w (hs H) M Φ R){rs:List ResultVar}(hr:fn.results=rs.toArray){l:List SV}{c:List Prop}(h:Xn T n f H rs []=some (l,c))(hc:jn c):(results fn (kn n (cn f))).run P w= .ok (reA l).val w:=by
 have key:∀g:ResultVar→Sem Value,(∀d,g (.tmp d)=pure ((kn n (cn f)).getD d undef))→(∀a t,g (.cell a t)=(do loadVar t (←asAddr ((kn n (cn f)).getD a undef))))→Sem.run P (do let vs←Array.mapM (m:=Sem) g rs.toArray;pure (if h:vs.size=1 then vs[0]else .tuple vs)) w= .ok (reA l).val w:=fun g h1 h2=>by
  have h3:=(ON hT hS h1 h2 rs [] h hc).1;rw[Array.mapM_eq_mapM_toList];simp only[Sem.run_bind,Sem.run_map,h3,Result.andThen_ok];cases l with
  |nil=>rfl
  |cons a l=>
   cases l with
   |nil=>rfl
   |cons b l=>rfl
 unfold results;rw[hr];exact key _ (fun _=>rfl) (fun _ _=>rfl)
theorem AO:∀ks:List Fr,PS (kq P fn Rr ks)
 |[]=>S8
 | .c _::ks=>fun c a d v w h=>AO ks c a d v w h
 | .b _::ks=>fun c a d v w h=>AO ks c a d v w h
 | .j _::ks=>fun c a d v w h=>AO ks c a d v w h
 | .g _ _ _::ks=>fun c a d v w h=>AO ks c a d v w h
 | .e _::ks=>fun c a d v w h=>AO ks c a d v w h
theorem uy{a:Act}(h:bodyPost P fn Rr .ret a w):∀ks:List Fr,kq P fn Rr ks .ret a w
 |[]=>h
 | .c _::ks=>uy h ks
 | .b _::ks=>uy h ks
 | .j _::ks=>uy h ks
 | .g _ _ _::ks=>uy h ks
 | .e _::ks=>uy h ks
theorem qi{a:Act}{id:Nat}{sD:List Fr}(hq:kq P fn Rr sD .normal a w):∀ks:List Fr,Xm id ks=some sD→kq P fn Rr ks (.exit id) a w
 |[],h=>by cases h
 | .c _::ks,h=>qi hq ks h
 | .j _::ks,h=>qi hq ks h
 | .g _ _ _::ks,h=>qi hq ks h
 | .e _::ks,h=>qi hq ks h
 | .b i::ks,h=>by
  have h:cond (Nat.beq i id) (some ks) (Xm id ks)=some sD:=h;show(if id=i then kq P fn Rr ks .normal a w else kq P fn Rr ks (.exit id) a w);cases hb:Nat.beq i id with
  |true=>
   rw[hb]at h;obtain rfl:ks=sD:=Option.some.inj h;rw[if_pos (Nat.eq_of_beq_eq_true hb).symm];exact hq
  |false=>
   rw[hb]at h;have fw:¬id=i:=fun e=>by rw[e,Nat.beq_refl]at hb;cases hb
   rw[if_neg fw];exact qi hq ks h
theorem qj{id:Nat}{sD:List Fr}:∀ks:List Fr,Xm id ks=some sD→Eg n ks=true→Eg n sD=true
 |[],h,_=>by cases h
 | .c _::ks,h,k=>qj ks h (Bool.and_eq_true _ _▸k).2
 | .j _::ks,h,k=>qj ks h (Bool.and_eq_true _ _▸k).2
 | .g _ _ _::ks,h,k=>qj ks h (Bool.and_eq_true _ _▸k).2
 | .e _::ks,h,k=>qj ks h (Bool.and_eq_true _ _▸k).2
 | .b i::ks,h,k=>by
  have h:cond (Nat.beq i id) (some ks) (Xm id ks)=some sD:=h;have k2:=(Bool.and_eq_true _ _▸k:okF n (.b i)=true∧Eg n ks=true).2;cases hb:Nat.beq i id with
  |true=>
   rw[hb]at h;obtain rfl:ks=sD:=Option.some.inj h;exact k2
  |false=>rw[hb]at h;exact qj ks h k2
theorem bp{fr:Fr}{ks:List Fr}:Eg n (fr::ks)=true↔okF n fr=true∧Eg n ks=true:=by
 show(okF n fr&&Eg n ks)=true↔_;rw[Bool.and_eq_true]
theorem dI{ops:tL}(h:okR n ops=true):iU n ops=true∧ops.size<10000:=by
 unfold okR at h;rw[Bool.and_eq_true]at h;exact⟨h.1,Nat.lt_succ_of_le (Nat.le_of_ble_eq_true h.2)⟩
theorem OO(hT:T.Ok P){md:Md}{i m:Nat}{t t0:Ord}{h:tR}{z:tF}{ks:List Fr}{s:Sx}{c:List Prop}(ht:(m=0∧t0= .pu i t)∨(m=1∧t0= .rd i t)∨(m=2∧t0= .ef i t))(hr:ZO T n md ops i m t ⟨h,z,ks,f,H⟩=some (s,c))(hc:jn c)(hn:G P fn Rr n M Φ R s.ks s.f s.H):G P fn Rr n M Φ R (.g md ops t0::ks) f H:=by
 intro w hS hK;obtain⟨hK1,gW⟩:=bp.1 hK;have ZY:=(dI hK1).1;show WF P ops (kq P fn Rr ks) md.va (nY md ops) (uq md ops) t0 n (cn f) w;have next:∀{f':Nat→AV} {H':List En} {w':tA},G P fn Rr n M Φ R (.g md ops t::ks) f' H'→Mem w' (hs H') M Φ R→WF P ops (kq P fn Rr ks) md.va (nY md ops) (uq md ops) t n (cn f') w':=fun hg zH=>hg _ zH (bp.2 ⟨hK1,gW⟩);simp only[ZO]at hr;split at hr
 ·cases hr
 ·rename_i o ho;split at hr
  ·cases hr
  ·rename_i hw;have hw:=eZ hw;split at hr
   ·rename_i d hd;cases hr;have h1:=next hn hS;rw[jm]at h1;rcases ht with⟨_,rfl⟩|⟨_,rfl⟩|⟨_,rfl⟩
    ·exact acQ ho hd hw h1
    ·exact acR ho hd hw h1
    ·refine V5 ho hw ?_;rw[mB,hd];exact h1
   ·rename_i hd;split at hr
    ·cases hr;rcases ht with⟨e,_⟩|⟨e,_⟩|⟨_,rfl⟩
     ·cases e
     ·cases e
     ·refine V5 ho hw ?_;rw[mB,hd];exact next hn hS
    ·cases hr
  ·rename_i hw;have hw:=eZ hw;split at hr
   ·obtain rfl:t0= .pu i t:=by
     rcases ht with⟨_,e⟩|⟨e,_⟩|⟨e,_⟩
     ·exact e
     ·cases e
     ·cases e
    split at hr
    ·rename_i d hd;split at hr
     ·rename_i v c' hv;cases hr;have h1:=next hn hS;rw[jm]at h1;exact AG ho hd hw ZY (ZT hT hv hc) h1
     ·split at hr
      ·rename_i v c' hv;cases hr;have h1:=next hn hS;rw[jm]at h1;exact AG ho hd hw ZY (ZV hT hv hc) h1
      ·cases hr
    ·cases hr
   ·obtain rfl:t0= .rd i t:=by
     rcases ht with⟨e,_⟩|⟨_,e⟩|⟨e,_⟩
     ·cases e
     ·exact e
     ·cases e
    split at hr
    ·rename_i d hd;split at hr
     ·rename_i v c' hv;cases hr;have h1:=next hn hS;rw[jm]at h1;exact Oz ho hd hw ZY (V3 hT hv hc hS) h1
     ·cases hr
    ·cases hr
   ·rename_i m1 m2;obtain rfl:t0= .ef i t:=by
     rcases ht with⟨e,_⟩|⟨e,_⟩|⟨_,e⟩
     ·exact absurd e m1
     ·exact absurd e m2
     ·exact e
    split at hr
    ·rename_i d hd;split at hr
     ·rename_i v c' hv;cases hr;have h1:=next hn hS;rw[jm]at h1;exact nV ho hd hw ZY (V3 hT hv hc hS w (sC w)) xk h1
     ·cases hr
    ·rename_i hd;split at hr
     ·rename_i H' c' hv;cases hr;obtain⟨w',e1,zH,hl⟩:=ZS hT hv hc hS;refine qh ho hd hw ZY e1 ?_ (next hn zH);cases OP:md.vs.contains i with
      |false=>
       refine fW (kv ho ?_);unfold mQ;rw[OP];cases hp:o.op<;>rw[hp]at hv<;>simp only[ZN,reduceCtorEq]at hv
       cases md.cb<;>rfl
      |true=>
       have h2:=Cn (md:=md) ho (by unfold mQ;rw[OP]);unfold fE;cases h:(nY md ops).contains i with
       |true=>trivial
       |false=>
        rw[h]at h2;have h2:(uq md ops).contains i=true:=by simpa using h2
        rw[h2];exact hl OP
     ·cases hr
end
section
variable{P:tS}{T:Tr}{n:Nat}{ops:tL}{f:Nat→AV}{o:Oper}{fn:Func}{Rr:Ending→World→Prop}{M:tD}{Φ R:tI}{H:List En}{w:tA}
theorem ZZ{id:Nat}{Q:tH}{a:Act}(h:kG P ops Q (AE []) (nY OE ops) (uq OE ops) (Oa ops ops.size 0) a w)(hz:ops.size<10000):(Code.region id ops false).wp P Q a w:=by
 have e:=JC ops ops.size 0 (Nat.zero_add _);rw[←List.range_eq_range']at e;refine wp_region ?_;have:=nW (fun w=>sC w) (Oa ops ops.size 0) a w (by rw[e];simp;omega) h;rw[e]at this;exact this
theorem OQ(hT:T.Ok P){s s':Sx}{c:List Prop}(hr:eC T n fn.results.toList s=some (s',c))(hc:jn c)(hn:G P fn Rr n M Φ R s'.ks s'.f s'.H):G P fn Rr n M Φ R s.ks s.f s.H:=by
 obtain⟨h,z,ks,f,H⟩:=s;intro w hS hK;cases ks with
 |nil=>cases hr
 |cons fr ks=>
  obtain⟨hK1,gW⟩:=bp.1 hK;cases fr with
  |c c0=>
   show c0.wp P (kq P fn Rr ks) ⟨kn n (cn f),[]⟩ w;cases c0 with
   |seq a b=>
    cases hr;have Y6:=(Bool.and_eq_true _ _▸hK1:DY n a=true∧DY n b=true);exact wp_seq (hn w hS (bp.2 ⟨Y6.1,bp.2 ⟨Y6.2,gW⟩⟩))
   |skip=>cases hr;exact wp_skip (hn w hS gW)
   |block id b=>cases hr;exact wp_block (hn w hS (bp.2 ⟨hK1,bp.2 ⟨rfl,gW⟩⟩))
   |exit id=>
    simp only[eC]at hr;split at hr
    ·rename_i sD he;cases hr;exact wp_exit (qi (hn w hS (qj ks he gW)) ks he)
    ·cases hr
   |ret=>
    simp only[eC]at hr;split at hr
    ·rename_i l c' hl;cases hr;exact wp_ret (uy (bodyPost_ret (ZX hT hS (by simp) hl hc) rfl (hn w hS rfl)) ks)
    ·cases hr
   |cond x a b=>
    have Y6:=(Bool.and_eq_true _ _▸hK1:ZI n x=true∧(DY n a&&DY n b)=true);have Z0:=(Bool.and_eq_true _ _▸Y6.2:DY n a=true∧DY n b=true);simp only[eC]at hr;split at hr
    ·rename_i hx;cases hr;exact wp_cond_true ((Cb Y6.1).trans (dt hx)) (hn w hS (bp.2 ⟨Z0.1,gW⟩))
    ·rename_i hx;cases hr;exact wp_cond_false ((Cb Y6.1).trans (dt hx)) (hn w hS (bp.2 ⟨Z0.2,gW⟩))
    ·cases hr
   |region id ops d=>
    have hz:=(dI hK1).2;cases d with
    |false=>cases hr;exact ZZ (hn w hS (bp.2 ⟨hK1,gW⟩)) hz
    |true=>
     simp only[eC]at hr;have key:∀{md:Md} {t:Ord},Dr md ops t→G P fn Rr n M Φ R (.g md ops t::ks) f H→(Code.region id ops true).wp P (kq P fn Rr ks) ⟨kn n (cn f),[]⟩ w:=fun hc hn=>zG hT.m _ (fun w=>sC w) (fun _ _ _ h1 h2=>h1.trans h2 fun _ _ h=>h) hc (AO ks) (hn _ (hS.next (Below.refl _ _).drew) (bp.2 ⟨hK1,gW⟩));split at hr
     ·cases hr;exact key hc.1 hn
     ·cases hr;exact key hc.1 hn
     ·cases hr;exact key hc.1 hn
     ·cases hr;exact key hc.1 hn
     ·split at hr
      ·cases hr;exact key hc.1 hn
      ·cases hr
     ·split at hr
      ·cases hr;exact key hc.1 hn
      ·cases hr
     ·cases hr;exact key hc.1 hn
     ·split at hr
      ·cases hr;exact key hc.1 hn
      ·cases hr
     ·cases hr
   |_=>cases hr
  |b id=>cases hr;exact hn w hS gW
  |j J=>cases hr
  |e a=>cases hr
  |g md ops t=>
   cases t with
   |nil=>cases hr;exact hn w hS gW
   |pu i t=>exact OO hT (.inl ⟨rfl,rfl⟩) hr hc hn w hS hK
   |rd i t=>exact OO hT (.inr (.inl ⟨rfl,rfl⟩)) hr hc hn w hS hK
   |ef i t=>exact OO hT (.inr (.inr ⟨rfl,rfl⟩)) hr hc hn w hS hK
   |fk _ _ _ _=>cases hr
   |f3 _ _ _ _ _ _=>cases hr
theorem Xo(hT:T.Ok P){md:Md}{h:tR}{z:tF}{ks sD:List Fr}{d s m:Nat}{t:Ord}{l:List Sg}{c:List Prop}(hr:ZP T n ⟨h,z,ks,f,H⟩=some (d,t,md,ops,sD,s,l,m,c))(hn:∀a,jn c∧G P fn Rr n M Φ R (.g md ops t::sD) (ua f d (OH H.length m a)) (H++[⟨a,s,l⟩])):G P fn Rr n M Φ R ks f H:=by
 intro w hS hK;simp only[ZP]at hr;split at hr
 ·rename_i OE ops i t0 ks0 f0 H0 he;cases he;split at hr
  ·rename_i o ho;split at hr
   ·rename_i d0 hd hw;split at hr
    ·rename_i hv;cases hr;obtain⟨hK1,gW⟩:=bp.1 hK;obtain⟨hc,hg⟩:=hn w.heap.size;have AL:mQ md i o.op=3:=by
      unfold mQ;cases hp:o.op<;>rw[hp]at hv<;>simp only[Xl,reduceCtorEq]at hv<;>cases md.vs.contains i<;>cases md.cb<;>rfl
     show WF P ops (kq P fn Rr sD) md.va (nY md ops) (uq md ops) (.ef i t) n (cn f) w;have e1:=ZW (j:=H.length) (o:=o) hT hv hc (w:=w) (f:=f);refine nV ho hd (eZ hw) (dI hK1).1 e1 (JA (Cn ho AL) (aA _ _)) ?_;have zH:=hS.more (aA w (.cells (dz l).toArray s)) (En.new w s l);have:=hg _ (by rw[hs,List.map_append];exact zH) (bp.2 ⟨hK1,gW⟩);rw[←jm];exact this
    ·cases hr
   ·cases hr
  ·cases hr
 ·cases hr
theorem JF{rs:List ResultVar}:∀(k:Nat) (α:tQ) (s:Sx) (c:List Prop),jn (run T n rs k α s c).2→jn c
 |0,_,_,_,h=>h
 |k+1,α,⟨h0,z,ks,f,H⟩,c,h=>by
  unfold run at h;split at h
  ·exact(mR (Co _ _▸JF k _ _ _ h)).2
  ·split at h
   ·rw[Cl]at h;exact(mR (Co _ _▸JF k _ _ _ h)).2
   ·exact h
def cons(a:Nat)(α:tQ):Nat→Nat
 |0=>a
 |i+1=>α i
theorem Hb(hT:T.Ok P):∀(k:Nat) (s:Sx) (c:List Prop),(∀α,jn (run T n fn.results.toList k α s c).2∧G P fn Rr n M Φ R (run T n fn.results.toList k α s c).1.ks (run T n fn.results.toList k α s c).1.f (run T n fn.results.toList k α s c).1.H)→G P fn Rr n M Φ R s.ks s.f s.H
 |0,s,c,h=>(h fun _=>0).2
 |k+1,⟨h0,z,ks,f,H⟩,c,h=>by
  cases h1:eC T n fn.results.toList ⟨h0,z,ks,f,H⟩with
  |some r=>
   obtain⟨s',c'⟩:=r;have h2:∀α,run T n fn.results.toList (k+1) α ⟨h0,z,ks,f,H⟩ c=run T n fn.results.toList k α s' (V2 c' c):=fun α=>by rw[run,h1]
   simp only[h2]at h;exact OQ hT h1 (mR (Co _ _▸JF k _ _ _ (h fun _=>0).1)).1 (Hb hT k s' (V2 c' c) h)
  |none=>
   cases h3:ZP T n ⟨h0,z,ks,f,H⟩with
   |none=>
    have h2:∀α,run T n fn.results.toList (k+1) α ⟨h0,z,ks,f,H⟩ c=(⟨h0,z,ks,f,H⟩,c):=fun α=>by rw[run,h1,h3]
    simp only[h2]at h;exact(h fun _=>0).2
   |some r=>
    obtain⟨d,t,md,ops,sD,s,l,m,c'⟩:=r;have h2:∀α,run T n fn.results.toList (k+1) α ⟨h0,z,ks,f,H⟩ c=run T n fn.results.toList k (sh α) ⟨h0,z,.g md ops t::sD,ua f d (OH H.length m (α 0)),H++[⟨α 0,s,l⟩]⟩ (V2 c' c):=fun α=>by rw[run,h1,h3];exact Cl _ _ _
    simp only[h2]at h
    exact Xo hT h3 fun a=>⟨(mR (Co _ _▸JF k _ _ _ (h (cons a fun _=>0)).1)).1,Hb hT k ⟨h0,z,.g md ops t::sD,ua f d (OH H.length m a),H++[⟨a,s,l⟩]⟩ (V2 c' c) fun α=>by
     have h4:=h (cons a α);rw[show sh (cons a α)=α from funext fun _=>rfl,show cons a α 0=a from rfl]at h4
     exact h4⟩
theorem Xp(hT:T.Ok P){ks:List Fr}{h':(Nat→Nat)→List Nat}{z':(Nat→Nat)→List Int}{sD:(Nat→Nat)→List Fr}{f':(Nat→Nat)→Nat→AV}{H':(Nat→Nat)→List En}{c':(Nat→Nat)→List Prop}(k:Nat)(h:tR)(z:tF)(hr:∀α,run T n fn.results.toList k α ⟨h,z,ks,f,H⟩ []=(⟨h' α,z' α,sD α,f' α,H' α⟩,c' α))(hn:∀α,G P fn Rr n M Φ R (sD α) (f' α) (H' α))(hc:∀α,jn (c' α)):G P fn Rr n M Φ R ks f H:=
 Hb hT k ⟨h,z,ks,f,H⟩ [] fun α=>by rw[hr α];exact⟨hc α,hn α⟩
def Ti:List AV→Nat→AV
 |[],_=>vv undef
 |a::_,0=>a
 |_::l,i+1=>Ti l i
theorem Xq(l:List AV):cn (Ti l)=Lf (l.map AV.val):=by
 funext i
 induction l generalizing i with
 |nil=>cases i<;>rfl
 |cons a l ih=>
  cases i with
  |zero=>rfl
  |succ i=>exact(ih i).trans rfl
theorem Z1{g:FuncId}{b:Code}(n:Nat)(al:List AV)(hf:P.funcs[g]? =some fn)(hb:fn.body=some b)(hn:fn.ntmps=n)(hl:Nat.ble al.length n=true)(hk:DY n b=true)(hS:Mem w (hs H) M Φ R)(h:G P fn Rr n M Φ R [.c b] (Ti al) H):Calls P g (al.map AV.val).toArray w Rr:=by
 refine Ov n hf hb hn (by rw[List.length_map];exact Nat.le_of_ble_eq_true hl) ?_;rw[←Xq];exact h w hS (bp.2 ⟨hk,rfl⟩)
theorem fin{a:AV}{ks:List Fr}(h:∀w,Mem w (hs H) M Φ R→Rr (.returned a.val) w):G P fn Rr n M Φ R (.e a::ks) f H:=fun w hS _=>h w hS
theorem c_(hr:fn.results= #[])(h:∀w,Mem w (hs H) M Φ R→Rr (.returned (.tuple #[])) w):G P fn Rr n M Φ R [] f H:=fun w hS _=>bodyPost_end (results_none hr _ _ _) rfl (h w hS)
theorem jH{H':List En}{M':tD}{DZ R':tI}{ks:List Fr}(h:∀w,Mem w (hs H) M Φ R→Mem w (hs H') M' DZ R')(hn:G P fn Rr n M' DZ R' ks f H'):G P fn Rr n M Φ R ks f H:=fun w hS hK=>hn w (h w hS) hK
theorem Cq{md:Md}{i j:Nat}{s t:Ord}{ks:List Fr}(h1:G P fn Rr n M Φ R (.g md ops (.ef i s)::ks) f H)(h2:G P fn Rr n M Φ R (.g md ops (.ef j t)::ks) f H):G P fn Rr n M Φ R (.g md ops (.fk i j s t)::ks) f H:=fun w hS hK=>⟨h1 w hS hK,h2 w hS hK⟩
theorem fk3{md:Md}{i j k:Nat}{s t u:Ord}{ks:List Fr}(h1:G P fn Rr n M Φ R (.g md ops (.ef i s)::ks) f H)(h2:G P fn Rr n M Φ R (.g md ops (.ef j t)::ks) f H)(h3:G P fn Rr n M Φ R (.g md ops (.ef k u)::ks) f H):G P fn Rr n M Φ R (.g md ops (.f3 i j k s t u)::ks) f H:=fun w hS hK=>⟨h1 w hS hK,h2 w hS hK,h3 w hS hK⟩
def OS(n:Nat)(ops:tL)(f:Nat→AV)(i:Nat):Option (Nat×FuncId×List AV):=match ops[i]? with
 |some o=>match o.dst,rE n ops f o,o.op with
  |some d,some true,.call ⟨.value x,xs,_⟩=>match ea f x with
   | .s (.o (.func (.func g) fi ca))=>match fi.toList,ca.toList with
    |[],[]=>some (d,g,xs.toList.map (ea f))
    |fi,ca=>some (d,g,fi.map vv++(xs.toList.map (ea f)++ca.map vv))
   |_=>none
  |_,_,_=>none
 |none=>none
def iy(P:tS)(g:Nat):Bool:=match P.funcs[g]? with
 |some fn=> !(fn.name== "runtime.NumGoroutine")&&fn.body.isSome
 |none=>false
theorem Xr{g:Nat}(h:iy P g=true):∀args w,(callFunc g args).run P w= .ok (.enter g args) w:=by
 unfold iy at h;split at h
 ·rename_i fn hf;rw[Bool.and_eq_true,Bool.not_eq_true']at h;obtain⟨b,hb⟩:=Option.isSome_iff_exists.1 h.2;have h1:fn.name≠ "runtime.NumGoroutine" :=by simpa using h.1
  intro args w;simp[callFunc,hf,h1,hb,mark]
 ·cases h
theorem j_{md:Md}{i d g:Nat}{t:Ord}{ks:List Fr}{al:List AV}(e:OS n ops f i=some (d,g,al))(he:iy P g=true)(hc:∀w,Mem w (hs H) M Φ R→Calls P g (al.map AV.val).toArray w fun x w'=>∃(a:AV) (H':List En) (M':tD) (DZ R':tI),x= .returned a.val∧((md.cb||md.vs.contains i)=false∨bZ w w')∧Mem w' (hs H') M' DZ R'∧G P fn Rr n M' DZ R' (.g md ops t::ks) (ua f d a) H'):G P fn Rr n M Φ R (.g md ops (.ef i t)::ks) f H:=by
 intro w hS hK;obtain⟨hK1,gW⟩:=bp.1 hK;show WF P ops (kq P fn Rr ks) md.va (nY md ops) (uq md ops) (.ef i t) n (cn f) w;unfold OS at e;split at e
 ·rename_i o ho;split at e
  ·rename_i d' x xs ts hd hw hp;have key:∀{fi ca:tN} {al:List AV},ea f x= .s (.o (.func (.func g) fi ca))→d'=d→fi.toList++xs.toList.map (ev (cn f))++ca.toList=al.map AV.val→(∀w,Mem w (hs H) M Φ R→Calls P g (al.map AV.val).toArray w fun x w'=>∃(a:AV) (H':List En) (M':tD) (DZ R':tI),x= .returned a.val∧((md.cb||md.vs.contains i)=false∨bZ w w')∧Mem w' (hs H') M' DZ R'∧G P fn Rr n M' DZ R' (.g md ops t::ks) (ua f d a) H')→WF P ops (kq P fn Rr ks) md.va (nY md ops) (uq md ops) (.ef i t) n (cn f) w:=fun {fi ca al} hx Z2 ha hc=>by
    subst Z2;refine acY (Xr he) ho hd (eZ hw) (dI hK1).1 hp (dt hx) ha ((hc w hS).mono ?_);rintro _ w' ⟨a,H',M',DZ,R',rfl,hb,zH,hg⟩;refine⟨_,rfl, ?_, ?_⟩
    ·rcases hb with hb|hb
     ·rw[Bool.or_eq_false_iff]at hb;exact fW (kv ho (by unfold mQ;rw[hp,hb.1,hb.2];rfl))
     ·by_cases h2:mQ md i o.op=3
      ·exact JA (Cn ho h2) hb
      ·refine fW (kv ho ?_);unfold mQ at h2⊢;rw[hp]at h2⊢;cases h3:md.vs.contains i with
       |true=>rw[h3]at h2;exact absurd rfl h2
       |false=>
        cases h4:md.cb with
        |true=>rw[h3,h4]at h2;exact absurd rfl h2
        |false=>rfl
    rw[←jm];exact hg w' zH (bp.2 ⟨hK1,gW⟩)
   have ex:∀xs:List Operand,xs.map (ev (cn f))=(xs.map (ea f)).map AV.val:=fun xs=>by
    rw[List.map_map];exact List.map_congr_left fun x _=>(bB f x).symm
   have ev':∀l:List Value,l=(l.map vv).map AV.val:=fun l=>by
    rw[List.map_map];exact(List.map_id l).symm.trans (List.map_congr_left fun x _=>rfl)
   split at e
   ·rename_i g' fi ca hx;split at e
    ·rename_i e1 e2;cases e;exact key hx rfl (by rw[e1,e2,ex];simp) hc
    ·cases e;refine key hx rfl ?_ hc;rw[List.map_append,List.map_append,←ev',←ev',ex,List.append_assoc]
   ·cases e
  ·cases e
 ·cases e
def V6(n:Nat)(ops:tL)(f:Nat→AV)(i:Nat):Option (Nat×Nat×AV):=match ops[i]? with
 |some o=>match o.dst,rE n ops f o,o.op with
  |some d,some true,.load s x=>some (d,s,ea f x)
  |_,_,_=>none
 |none=>none
theorem AP{w':tA}(h:AE [] w w'):bZ w w':=h.below (Nat.le_refl _) fun _ _ h=>by cases h
theorem V7(hT:T.Ok P){md:Md}{i d s b q:Nat}{t:Ord}{ks:List Fr}{x:AV}{e:Ty}(v:SV)(h1:V6 n ops f i=some (d,s,x))(hx:x.val= .pointer (some ⟨b,q,none⟩))(hf:T.find s=some e)(hv:(match e.fp,v with|true,.g _=>false|false,.g l=>Nat.beq (fX l) e.m|false,_=>false|true,_=>true)=true)(hc:∀w,Φ w∧(md.va=[]→Mem w (hs H) M Φ R)→∀j y,(match v with| .g l=>dz l|v=>[v.val])[j]? =some y→w.cell? ⟨b,q+j,none⟩=some y)(Ll:∀a,a∈md.va→a∈(hs H).map bQ.a)(hn:G P fn Rr n M Φ R (.g md ops t::ks) (ua f d (.s v)) H):G P fn Rr n M Φ R (.g md ops (.rd i t)::ks) f H:=by
 intro w hS hK;obtain⟨hK1,gW⟩:=bp.1 hK;show WF P ops (kq P fn Rr ks) md.va (nY md ops) (uq md ops) (.rd i t) n (cn f) w;obtain⟨hg,rfl⟩:=hT.eS hf;unfold V6 at h1;split at h1
 ·rename_i o ho;split at h1
  ·rename_i d' s' y hd hw hp;simp only[Option.some.injEq,Prod.mk.injEq]at h1;obtain⟨rfl,rfl,rfl⟩:=h1;have hx:ev (cn f) y= .pointer (some ⟨b,q,none⟩):=(bB f y).symm.trans hx;refine Oz (v:=v.val) ho hd (eZ hw) (dI hK1).1 (fun w' hb=> ?_) ?_
   ·have hc:=hc w' ⟨hS.g w' ⟨hb.os,hb.tape,hb.output,hb.size,fun x hx hu=>hb.block x hx fun hm=>hu (.inl (Ll x hm))⟩,fun e0=>hS.next (AP (e0▸hb))⟩;cases h1:e.fp with
    |true=>
     have one:(∀j y,[v.val][j]? =some y→w'.cell? ⟨b,q+j,none⟩=some y)→(execOp (ev (cn f)) o).run P w'= .ok (.value v.val) w':=fun hc=>by
      have h0:w'.cell? ⟨b,q,none⟩=some v.val:=hc 0 v.val rfl;simp only[execOp,hp,hx,Sem.run_bind,Cg (Ty.one hg h1).1 h0,Result.andThen_ok,Sem.run_pure]
     cases v with
     |g l=>rw[h1]at hv;cases hv
     |o y=>exact one hc
     |p _ _ _=>exact one hc
    |false=>
     rw[h1]at hv;cases v with
     |o y=>cases hv
     |p _ _ _=>cases hv
     |g l=>
      obtain⟨dd,hu,qH,hi⟩:=ru (Ty.row hg h1);have:=run_loadAt_mid (P:=P) w' b q e.id (dz l) dd (fun j y hy=>hc j y hy) hu qH (by rw[cG];exact(Nat.eq_of_beq_eq_true hv).symm▸hi);simp only[execOp,hp,hx,Sem.run_bind,this,Result.andThen_ok,Sem.run_pure];rfl
   ·have:=hn w hS (bp.2 ⟨hK1,gW⟩);rw[show up (cn f) d' v.val=cn (ua f d' (.s v)) from(jm f d' (.s v)).symm];exact this
  ·cases h1
 ·cases h1
end
def us(f:Nat→AV):List (Nat×AV)→Nat→AV
 |[]=>f
 |(d,a)::l=>ua (us f l) d a
def Ek(f:Nat→AV):List (Nat×AV)→Prop
 |[]=>True
 |(d,a)::l=>(f d).val=a.val∧Ek f l
theorem sE(f:Nat→AV):∀l:List (Nat×AV),Ek f l→cn (us f l)=cn f
 |[],_=>rfl
 |(d,a)::l,h=>by
  unfold us;rw[jm,sE f l h.2];funext i;unfold up;cases hb:Nat.beq i d with
  |true=>rw[Nat.eq_of_beq_eq_true hb];exact h.1.symm
  |false=>rfl
theorem least{p:tD}(h:∃m,p m):∃m,p m∧∀k,p k→m≤k:=by
 obtain⟨m,hm⟩:=h
 induction m using Nat.strongRecOn with
 |_ m ih=>
  by_cases hk:∃k,k<m∧p k
  ·obtain⟨k,hk,hp⟩:=hk;exact ih k hk hp
  ·exact⟨m,hm,fun k hp=>Nat.le_of_not_lt fun aL=>hk ⟨k,aL,hp⟩⟩
open Classical in
theorem Tj{P:tS}{Q:tH}{c:Code}{a:Act}{w:tA}(J:Nat→Act→World→Prop){m0:Nat}(h0:J m0 a w)(round:∀m a w,J m a w→c.wp P (Exit.then (fun a' w'=>∃m',m'<m∧J m' a' w') Q) a w):(Code.loop c).wp P Q a w:=by
 have spec:∀a w,(∃m,J m a w)→∃m,(if h:∃m,J m a w then Classical.choose (least h)else 0)=m∧J m a w∧∀k,J k a w→m≤k:=fun a w hI=>by
  rw[dif_pos hI];exact⟨_,rfl,Classical.choose_spec (least hI)⟩
 refine wp_loop (fun a w=>∃m,J m a w) (fun a w=>if h:∃m,J m a w then Classical.choose (least h)else 0) ⟨m0,h0⟩ ?_;intro a w hI;obtain⟨m,e1,hm,_⟩:=spec a w hI;refine Code.wp_mono (fun e a' w' hq=> ?_) (round m a w hm);cases e with
 |normal=>
  obtain⟨m',aL,hj⟩:=hq;obtain⟨m2,e2,_,h2⟩:=spec a' w' ⟨m',hj⟩;refine⟨⟨m',hj⟩, ?_⟩;rw[e1,e2];exact Nat.lt_of_le_of_lt (h2 m' hj) aL
 |_=>exact hq
section
variable{P:tS}{n:Nat}{f:Nat→AV}{fn:Func}{Rr:Ending→World→Prop}{M:tD}{Φ R:tI}{H:List En}{w:tA}{ks:List Fr}{X:Type}
structure Lp(X:Type)where
 s:X→List (Nat×AV)
 H:X→List En
 M:X→Nat→Prop
 Φ:X→World→Prop
 R:X→World→Prop
 J:X→Prop
 k:X→Nat
def LJ(n:Nat)(L:Lp X)(m:Nat):Act→World→Prop:=fun a w=>∃f x,a=⟨kn n (cn f),[]⟩∧Ek f (L.s x)∧Mem w (hs (L.H x)) (L.M x) (L.Φ x) (L.R x)∧L.J x∧L.k x<m
theorem ic{c:Code}(L:Lp X)(x0:X)(h1:Ek f (L.s x0))(h2:∀w,Mem w (hs H) M Φ R→Mem w (hs (L.H x0)) (L.M x0) (L.Φ x0) (L.R x0))(h3:L.J x0)(round:∀f x,L.J x→G P fn Rr n (L.M x) (L.Φ x) (L.R x) (.c c:: .j (LJ n L (L.k x))::ks) (us f (L.s x)) (L.H x)):G P fn Rr n M Φ R (.c (.loop c)::ks) f H:=by
 intro w hS hK;obtain⟨hK1,gW⟩:=bp.1 hK;show(Code.loop c).wp P (kq P fn Rr ks) ⟨kn n (cn f),[]⟩ w;refine Tj (fun m a w=>∃f x,a=⟨kn n (cn f),[]⟩∧Ek f (L.s x)∧Mem w (hs (L.H x)) (L.M x) (L.Φ x) (L.R x)∧L.J x∧L.k x=m) ⟨f,x0,rfl,h1,h2 w hS,h3,rfl⟩ ?_;rintro m a w ⟨f,x,rfl,hs,hS,hJ,rfl⟩;have:=round f x hJ w hS (bp.2 ⟨hK1,bp.2 ⟨rfl,gW⟩⟩);rw[sE f _ hs]at this;refine Code.wp_mono (fun e a' w' hq=> ?_) (show c.wp P _ _ w from this);cases e with
 |normal=>
  obtain⟨f',x',e1,e2,e3,e4,e5⟩:=hq;exact⟨L.k x',e5,f',x',e1,e2,e3,e4,rfl⟩
 |_=>exact hq
theorem bU{L:Lp X}{m:Nat}(x:X)(h1:Ek f (L.s x))(h2:∀w,Mem w (hs H) M Φ R→Mem w (hs (L.H x)) (L.M x) (L.Φ x) (L.R x))(h3:L.J x)(h4:L.k x<m):G P fn Rr n M Φ R (.j (LJ n L m)::ks) f H:=fun w hS _=>⟨f,x,rfl,h1,h2 w hS,h3,h4⟩
theorem cut{c:Code}(s:X→List (Nat×AV))(H':X→List En)(M':X→Nat→Prop)(DZ R':X→World→Prop)(J:X→Prop)(h1:∀f x,J x→G P fn Rr n (M' x) (DZ x) (R' x) ks (us f (s x)) (H' x))(h2:G P fn Rr n M Φ R (.c c:: .j (LJ n ⟨s,H',M',DZ,R',J,fun _=>0⟩ 1)::ks) f H):G P fn Rr n M Φ R (.c c::ks) f H:=by
 intro w hS hK;obtain⟨hK1,gW⟩:=bp.1 hK;have h:=h2 w hS (bp.2 ⟨hK1,bp.2 ⟨rfl,gW⟩⟩);refine Code.wp_mono (fun e a' w' hq=> ?_) (show c.wp P _ _ w from h);cases e with
 |normal=>
  obtain⟨f,x,rfl,e1,e2,e3,_⟩:=hq;have:=h1 f x e3 w' e2 gW;rw[sE f _ e1]at this;exact this
 |_=>exact hq
theorem ac5{c:Code}(s:X→List (Nat×AV))(H':X→List En)(h1:∀f x,G P fn Rr n M Φ R ks (us f (s x)) (H' x))(h2:G P fn Rr n M Φ R (.c c:: .j (LJ n ⟨s,H',fun _=>M,fun _=>Φ,fun _=>R,fun _=>True,fun _=>0⟩ 1)::ks) f H):G P fn Rr n M Φ R (.c c::ks) f H:=cut s H' _ _ _ _ (fun f x _=>h1 f x) h2
theorem Z3{s:X→List (Nat×AV)}{H':X→List En}(x:X)(h1:Ek f (s x))(h2:∀w,Mem w (hs H) M Φ R→Mem w (hs (H' x)) M Φ R):G P fn Rr n M Φ R (.j (LJ n ⟨s,H',fun _=>M,fun _=>Φ,fun _=>R,fun _=>True,fun _=>0⟩ 1)::ks) f H:=bU x h1 h2 trivial Nat.zero_lt_one
end
end Rv
def bR(U:tD)(w:tA)(φ:tI):Prop:=∀w',dk U w w'→φ w'
theorem dk.mono{U V:tD}{w w':tA}(c:dk U w w')(h:∀b,U b→V b):dk V w w':=⟨c.os,c.tape,c.output,c.size,fun b hb hv=>c.block b hb fun hu=>hv (h b hu)⟩
theorem Mem.Cr{w:tA}{H:List bQ}{M:tD}{G R:tI}(h:Mem w H M G R):bR M w G:=fun w' c=>h.g w' ⟨c.os,c.tape,c.output,c.size,fun b hb hu=>c.block b hb fun hm=>hu (.inr hm)⟩
theorem Mem.ult{w:tA}{H:List bQ}{M:tD}{G R:tI}(h:Mem w H M G R):∀b,(b∈H.map bQ.a∨M b)→b<w.heap.size:=fun b hb=>hb.elim (fun h'=>h.lt h') (h.mlt b)
theorem dk.less{U:tD}{w w':tA}{V:tD}(c:dk V w w')(h:∀b,V b→U b∨∃t n f,aZ w b t n f∧aZ w' b t n f):dk U w w':=
 ⟨c.os,c.tape,c.output,c.size,fun b hb hu=>by
  by_cases hv:V b
  ·rcases h b hv with h|⟨t,n,f,h1,h2⟩
   ·exact absurd h hu
   ·unfold aZ at h1 h2;rw[h1,h2]
  ·exact c.block b hb hv⟩
theorem Mem.nodup{w:tA}{H:List bQ}{M:tD}{G R:tI}(h:Mem w H M G R):(H.map bQ.a).Nodup:=by
 refine List.pairwise_map.2 (List.pairwise_iff_getElem.2 fun i j hi hj hij he=> ?_);have:=h.nT i j _ _ (List.getElem?_eq_getElem hi) (List.getElem?_eq_getElem hj) he;omega
theorem OT{H:List bQ}(h:(H.map bQ.a).Nodup):H.Pairwise fun x y=>x.a≠y.a:=by
 unfold List.Nodup at h;rwa [List.pairwise_map]at h
theorem Mem.all{w w':tA}{H H':List bQ}{M:tD}{G R:tI}(h:Mem w H M G R)(c:dk (fun b=>b∈H.map bQ.a) w w')(ha:H'.map bQ.a=H.map bQ.a)(hn:∀e∈H',aZ w' e.a e.t e.n e.f):Mem w' H' M G R:=by
 have at_:∀(i:Nat) (x:bQ),H'[i]? =some x→∃y,H[i]? =some y∧y.a=x.a:=fun i x hx=>by
  have e:(H'.map bQ.a)[i]? =some x.a:=by rw[List.getElem?_map,hx];rfl
  rw[ha,List.getElem?_map]at e;cases hy:H[i]? with
  |none=>rw[hy]at e;cases e
  |some y=>rw[hy]at e;exact⟨y,rfl,Option.some.inj e⟩
 refine⟨hn,fun i j x y hx hy Cc=> ?_,fun x hx=> ?_,fun b hb=>Nat.lt_of_lt_of_le (h.mlt b hb) c.size,fun w2 h2=>h.g w2 (dk.trans (U:=fun b=>b∈H.map bQ.a∨M b) ⟨c.os,c.tape,c.output,c.size,fun b hb hu=>c.block b hb (fun h=>hu (.inl h))⟩ h2 fun x _ hm=>by rwa [ha]at hm),fun w2 h2=>h.r w2 (c.trans h2 fun x _ hm=>by rwa [ha]at hm)⟩
 ·obtain⟨x',hx',ex⟩:=at_ i x hx;obtain⟨y',hy',ey⟩:=at_ j y hy;exact h.nT i j x' y' hx' hy' (by rw[ex,ey,Cc])
 ·obtain⟨i,hi⟩:=List.getElem?_of_mem hx;obtain⟨y,hy,ey⟩:=at_ i x hi;rw[←ey];exact h.off y (List.mem_of_getElem? hy)
theorem Mem.ac6{w w':tA}{H:List bQ}{M:tD}{G R:tI}(h:Mem w H M G R)(k l:Nat){e d:bQ}(hk:H[k]? =some e)(hl:H[l]? =some d)(GO:k≠l)(c:dk (fun b=>b=e.a∨b=d.a) w w'){f g:tC}(hf:aZ w' e.a e.t e.n f)(hg:aZ w' d.a d.t d.n g):Mem w' ((H.set k ⟨e.a,e.t,e.n,f⟩).set l ⟨d.a,d.t,d.n,g⟩) M G R:=by
 have hke:=List.mem_of_getElem? hk;have hld:=List.mem_of_getElem? hl;refine h.all (c.mono fun b hb=> ?_) ?_ fun x hx=> ?_
 ·rcases hb with rfl|rfl
  ·exact List.mem_map.2 ⟨e,hke,rfl⟩
  ·exact List.mem_map.2 ⟨d,hld,rfl⟩
 ·have e1:=ux (e':=⟨e.a,e.t,e.n,f⟩) hk rfl;have Z4:(H.set k ⟨e.a,e.t,e.n,f⟩)[l]? =some d:=by rw[List.getElem?_set_ne GO];exact hl
  rw[ux (e':=⟨d.a,d.t,d.n,g⟩) Z4 rfl,e1]
 ·obtain⟨i,hi⟩:=List.getElem?_of_mem hx;by_cases h1:l=i
  ·subst h1;rw[List.getElem?_set_self (by rw[List.length_set];exact(List.getElem?_eq_some_iff.1 hl).1)]at hi;cases hi;exact hg
  ·rw[List.getElem?_set_ne h1]at hi;by_cases h2:k=i
   ·subst h2;rw[List.getElem?_set_self (List.getElem?_eq_some_iff.1 hk).1]at hi;cases hi;exact hf
   ·rw[List.getElem?_set_ne h2]at hi;have fb:=h.ib x (List.mem_of_getElem? hi);have n1:x.a≠e.a:=fun hh=>h2 (h.nT k i e x hk hi hh.symm);have n2:x.a≠d.a:=fun hh=>h1 (h.nT l i d x hl hi hh.symm);unfold aZ at fb⊢;rw[←fb];exact c.block x.a (h.ib x (List.mem_of_getElem? hi)).lt fun hh=>hh.elim n1 n2
theorem nZ{w:tA}{U:tD}(hU:∀b,U b→b<w.heap.size){G:tI}(hG:bR U w G):Mem w [] U G (fun w'=>bZ w w'):=Mem.start hU hG (fun _ h=>h)
theorem nn{p:Prop}(h:p):¬¬p:=fun k=>k h
theorem bR.now{U:tD}{w:tA}{φ:tI}(h:bR U w φ):φ w:=h w ⟨rfl,rfl,rfl,Nat.le_refl _,fun _ _ _=>rfl⟩
theorem bR.next{U:tD}{w w':tA}{φ:tI}(h:bR U w φ)(b:bZ w w'):bR U w' φ:=fun w2 h2=>h w2 ((dk.of b).trans h2 fun _ _ h=>h)
theorem bR.Ch{U V:tD}{w w':tA}{φ:tI}(h:bR U w φ)(c:dk U w w')(hV:∀b,b<w.heap.size→V b→U b):bR V w' φ:=fun w2 h2=>h w2 (c.trans h2 hV)
theorem bR.mono{U V:tD}{w:tA}{φ:tI}(h:bR U w φ)(hV:∀b,b<w.heap.size→V b→U b):bR V w φ:=fun w2 c=>h w2 ⟨c.os,c.tape,c.output,c.size,fun b hb hu=>c.block b hb fun hv=>hu (hV b hb hv)⟩
theorem dk.cell{U:tD}{w w':tA}(c:dk U w w'){b o:Nat}(hb:b<w.heap.size)(hu:¬U b):w'.cell? ⟨b,o,none⟩=w.cell? ⟨b,o,none⟩:=World.cell?_of_block (c.block b hb hu)
theorem mf{k:IntKind}{U:tD}{w w':tA}{a:tB}{len:Nat}{l:tF}(h:RowK k w a len l)(c:dk U w w')(hu:∀x,a=some x→0<len→¬U x.block):RowK k w' a len l:=
 ⟨h.b_,h.wf,fun i hi=>by
  obtain⟨b,off,ha,aL,hc⟩:=h.cell i hi
  exact⟨b,off,ha,Nat.lt_of_lt_of_le aL c.size,(c.cell aL (hu _ ha (by omega))).trans hc⟩⟩
theorem bT{k:IntKind}{U:tD}{w w':tA}{a:tB}{len:Nat}{l:tF}(h:RowK k w' a len l)(hn:∀x,a=some x→w.heap.size≤x.block)(hU:∀b,U b→b<w.heap.size):bR U w' fun w=>RowK k w a len l:=fun w2 c=>
 mf h c fun x hx _ hux=>by have:=hn x hx;have:=hU _ hux;omega
theorem Mem.qI{w:tA}{e:bQ}{H:List bQ}{M:tD}{G R:tI}(h:Mem w (e::H) M G R):(∀b,(b∈H.map bQ.a∨M b)→b<w.heap.size)∧¬(e.a∈H.map bQ.a∨M e.a)∧bR (fun b=>b=e.a∨(b∈H.map bQ.a∨M b)) w G:=by
 refine⟨fun b hb=>h.ult b (hb.imp (fun h=>List.mem_cons_of_mem _ h) id), ?_,fun w2 c=>h.g w2 (c.mono fun b hb=> ?_)⟩
 ·rintro(h1|h1)
  ·have:=h.nodup;rw[List.map_cons,List.nodup_cons]at this;exact this.1 h1
  ·exact h.off e (List.mem_cons_self ..) h1
 ·rcases hb with rfl|hb|hb
  ·exact .inl (List.mem_cons_self ..)
  ·exact .inl (List.mem_cons_of_mem _ hb)
  ·exact .inr hb
theorem Mem.ac7{w w':tA}{e:bQ}{H:List bQ}{M:tD}{G R:tI}(h:Mem w (e::H) M G R)(c:dk (fun b=>b=e.a) w w'){f':tC}(hn:aZ w' e.a e.t e.n f'):Mem w' (⟨e.a,e.t,e.n,f'⟩::H) M G R:=h.put 0 rfl c (.inl rfl) hn
theorem Mem.OU{w w':tA}{e:bQ}{H:List bQ}{M:tD}{G R:tI}(h:Mem w (e::H) M G R)(c:dk (fun b=>b=e.a) w w'){f':tC}(hn:aZ w' e.a e.t e.n f'){φ:tI}(ZJ:bR (fun b=>b=e.a∨(b∈H.map bQ.a∨M b)) w' φ):Mem w' (⟨e.a,e.t,e.n,f'⟩::H) M (fun w=>G w∧φ w) R:=
 (h.ac7 c hn).add fun w2 cc=>ZJ w2 (cc.mono fun b hb=>by
  rcases hb with hb|hb
  ·rcases List.mem_cons.1 hb with rfl|hb
   ·exact .inl rfl
   ·exact .inr (.inl hb)
  ·exact .inr (.inr hb))
structure Mv(F:tD)(w:tA)(F':tD)(w':tA):Prop where
 c:dk F w w'
 f:∀b,F' b→F b∨w.heap.size≤b
 l:∀b,F' b→b<w'.heap.size
theorem dk.refl{U:tD}(w:tA):dk U w w:=⟨rfl,rfl,rfl,Nat.le_refl _,fun _ _ _=>rfl⟩
theorem Mv.refl{F:tD}{w:tA}(h:∀b,F b→b<w.heap.size):Mv F w F w:=⟨dk.refl w,fun _ h=> .inl h,h⟩
theorem Mv.trans{F F1 F2:tD}{w w1 w2:tA}(h:Mv F w F1 w1)(k:Mv F1 w1 F2 w2):Mv F w F2 w2:=
 ⟨h.c.trans k.c fun b hb hv=>(h.f b hv).elim id fun h=>absurd hb (Nat.not_lt.2 h),fun b hb=>(k.f b hb).elim (h.f b) fun x=> .inr (Nat.le_trans h.c.size x),k.l⟩
theorem Mv.next{F F':tD}{w w' w2:tA}(h:Mv F w F' w')(b:bZ w' w2):Mv F w F' w2:=
 ⟨h.c.trans (dk.of (U:=fun _=>False) b) fun _ _ h=>h.elim,h.f,fun b' hb=>Nat.lt_of_lt_of_le (h.l b' hb) b.size⟩
theorem Mv.of{F:tD}{w w':tA}(hl:∀b,F b→b<w.heap.size)(b:bZ w w'):Mv F w F w':=(Mv.refl hl).next b
theorem Mv.with{F F' T:tD}{w w':tA}(h:Mv F w F' w')(hT:∀b,T b→b<w.heap.size):Mv (fun b=>F b∨T b) w (fun b=>F' b∨T b) w':=
 ⟨h.c.mono fun _ h=> .inl h,fun b hb=>hb.elim (fun hb=>(h.f b hb).imp .inl id) (fun hb=> .inl (.inr hb)),fun b hb=>hb.elim (h.l b) fun hb=>Nat.lt_of_lt_of_le (hT b hb) h.c.size⟩
theorem Mv.less{F F' F2 F2':tD}{w w':tA}(h:Mv F w F' w')(h1:∀b,F b→F2 b)(h2:∀b,F2' b→F' b∨(F2 b∧b<w.heap.size)):Mv F2 w F2' w':=
 ⟨h.c.mono h1,fun b hb=>(h2 b hb).elim (fun hb=>(h.f b hb).imp (h1 b) id) fun hb=> .inl hb.1,fun b hb=>(h2 b hb).elim (h.l b) fun hb=>Nat.lt_of_lt_of_le hb.2 h.c.size⟩
theorem bR.mv{U F F':tD}{w w':tA}{φ:tI}(h:bR U w φ)(m:Mv F w F' w')(hF:∀b,F b→U b):bR (fun b=>U b∨F' b) w' φ:=fun w2 c2=>
 h w2 ((m.c.mono hF).trans c2 fun b hb hv=>hv.elim id fun hv=>(m.f b hv).elim (hF b) fun x=>absurd hb (Nat.not_lt.2 x))
theorem Mem.mv{w w':tA}{H:List bQ}{F F' T:tD}{G R R':tI}(h:Mem w H (fun b=>F b∨T b) G R)(m:Mv F w F' w')(hR:∀w2,dk (fun b=>b∈H.map bQ.a) w' w2→R' w2):Mem w' H (fun b=>F' b∨T b) G R':=by
 refine⟨fun e he=> ?_,h.nT,fun e he hm=> ?_,fun b hb=>hb.elim (m.l b) fun hb=>Nat.lt_of_lt_of_le (h.mlt b (.inr hb)) m.c.size,fun w2 c2=>h.g w2 ?_,hR⟩
 ·have fb:=h.ib e he;unfold aZ at fb⊢;rw[←fb];exact m.c.block e.a (h.ib e he).lt fun hf=>h.off e he (.inl hf)
 ·rcases hm with hm|hm
  ·rcases m.f _ hm with hm|hm
   ·exact h.off e he (.inl hm)
   ·exact absurd (h.ib e he).lt (Nat.not_lt.2 hm)
  ·exact h.off e he (.inr hm)
 ·refine(m.c.mono (V:=fun b=>b∈H.map bQ.a∨F b∨T b) fun b hb=> .inr (.inl hb)).trans c2 fun b hb hv=> ?_;rcases hv with hv|hv|hv
  ·exact .inl hv
  ·exact(m.f b hv).elim (fun h=> .inr (.inl h)) fun x=>absurd hb (Nat.not_lt.2 x)
  ·exact .inr (.inr hv)
theorem Mem.vX{w:tA}{H:List bQ}{M:tD}{G R:tI}(h:Mem w H M G R)(k:Nat){e:bQ}(hk:H[k]? =some e):bR M w fun w=>G w∧aZ w e.a e.t e.n e.f:=fun w2 c=>by
 have hm:=List.mem_of_getElem? hk;have fb:=h.ib e hm;refine⟨h.Cr w2 c, ?_⟩;have:=c.block e.a fb.lt (h.off e hm);unfold aZ at fb⊢;rw[this,fb]
theorem aZ.same{w w':tA}{R T n:Nat}{f:tC}(h:aZ w R T n f)(e:w'.heap[R]? =w.heap[R]?):aZ w' R T n f:=by
 unfold aZ at h⊢;rw[e,h]
theorem Mem.kept{w:tA}{H:List bQ}{M:tD}{G R:tI}(h:Mem w H M G R)(k:Nat){e:bQ}(hk:H[k]? =some e)(j:Nat)(hj:j≤k):bR (fun b=>b∈(H.take j).map bQ.a∨M b) w (fun w=>aZ w e.a e.t e.n e.f):=fun w2 c2=>by
 refine(h.at k hk).same (c2.block e.a (h.at k hk).lt fun hb=> ?_);rcases hb with hb|hb
 ·obtain⟨x,hx,hxa⟩:=List.mem_map.1 hb;obtain⟨i,hi⟩:=List.getElem?_of_mem hx;rw[List.getElem?_take]at hi;split at hi
  ·have:=h.nT i k x e hi hk hxa;omega
  ·cases hi
 ·exact h.off e (List.mem_of_getElem? hk) hb
theorem Mem.jq{w w0:tA}{H:List bQ}{M:tD}{Γ:tI}(h:Mem w H M Γ (fun w'=>bZ w0 w'))(k:Nat){e:bQ}(hk:H[k]? =some e):w0.heap.size≤e.a:=by
 refine Nat.le_of_not_lt fun ur=> ?_;have hb:e.a∈H.map bQ.a:=List.mem_map.2 ⟨e,List.mem_of_getElem? hk,rfl⟩;have aL:=h.lt hb;have key:∀B,w0.heap[e.a]? =some B:=fun B=>by
  have c:dk (fun b=>b∈H.map bQ.a) w {w with heap:=w.heap.set e.a B aL}:=⟨rfl,rfl,rfl,by simp,fun z hz uz=>by
   have fw:e.a≠z:=fun e=>uz (e▸hb)
   simp[fw]⟩
  rw[←(h.r _ c).block e.a ur];simp
 have:=(key (.cells #[] 0 (0,0))).symm.trans (key (.cells #[] 1 (0,0)));simp at this
namespace Rv
def zI:Nat→List Sg→List Sg
 |0,l=>l
 |n+1,l=> .o (iV 0)::zI n l
def zB:Nat→List Sg→List Sg
 |0,l=>l
 |n+1,l=> .o (.bool false)::zB n l
def zS:Nat→List Sg→List Sg
 |0,l=>l
 |n+1,l=> .o (.slice none 0 0)::zS n l
def zP:Nat→List Sg→List Sg
 |0,l=>l
 |n+1,l=> .o (.pointer none)::zP n l
def zA:Nat→Nat→List Sg→List Sg
 |0,_,_=>[]
 |n+1,m,l=> .f m (fun i=>(dz l).getD i undef)::zA n m l
def T0:Tr:= .n (.n (.n (.n (.n (.n (.n .l ⟨1,4,1,[],0,0,0,(.o (.nilFunc)::[])⟩ .l) ⟨3,0,1,[],0,0,0,zI 1 []⟩ .l) ⟨4,0,1,[],0,0,0,zB 1 []⟩ (.n .l ⟨5,0,1,[],0,0,0,(.o (.int .u8 0)::[])⟩ .l)) ⟨22,2,1,[],57,11,0,zS 1 []⟩ (.n (.n .l ⟨24,3,5,[],4,1,5,zB 5 []⟩ .l) ⟨26,1,2,[(0,1,false),(1,1,false)],0,0,0,zI 2 []⟩ (.n .l ⟨27,3,8,[],26,2,4,zI 8 []⟩ .l))) ⟨29,1,8,[(0,8,true)],0,0,0,zI 8 []⟩ (.n (.n (.n .l ⟨30,2,1,[],50,1,0,zS 1 []⟩ .l) ⟨31,2,1,[],61,14,0,zS 1 []⟩ (.n .l ⟨32,2,1,[],63,7,0,zS 1 []⟩ .l)) ⟨34,1,18,[(0,1,false),(1,5,true),(6,8,true),(14,1,false),(15,1,false),(16,1,false),(17,1,false)],0,0,0,zI 1 (zB 5 (zI 8 (zS 3 (zI 1 []))))⟩ (.n (.n .l ⟨35,0,1,[],0,0,0,zI 1 []⟩ .l) ⟨41,2,1,[],98,5,0,zS 1 []⟩ (.n .l ⟨42,2,1,[],34,18,0,zS 1 []⟩ .l)))) ⟨47,2,1,[],55,6,0,zS 1 []⟩ (.n (.n (.n (.n (.n .l ⟨49,1,6,[(0,1,false),(1,1,false),(2,1,false),(3,1,false),(4,1,false),(5,1,false)],0,0,0,zI 5 (zS 1 [])⟩ .l) ⟨50,2,1,[],49,6,0,zS 1 []⟩ .l) ⟨53,1,2,[(0,1,false),(1,1,false)],0,0,0,zI 2 []⟩ (.n .l ⟨55,1,6,[(0,1,false),(1,1,false),(2,1,false),(3,1,false),(4,2,true)],0,0,0,zI 6 []⟩ .l)) ⟨57,1,11,[(0,1,false),(1,1,false),(2,1,false),(3,1,false),(4,1,false),(5,6,true)],0,0,0,zI 11 []⟩ (.n (.n .l ⟨59,1,4,[(0,1,false),(1,2,true),(3,1,false)],0,0,0,zI 4 []⟩ .l) ⟨61,1,14,[(0,1,false),(1,1,false),(2,1,false),(3,6,true),(9,4,true),(13,1,false)],0,0,0,zI 14 []⟩ (.n .l ⟨63,1,7,[(0,1,false),(1,4,true),(5,2,true)],0,0,0,zI 7 []⟩ .l))) ⟨71,2,1,[],3,1,0,zS 1 []⟩ (.n (.n (.n .l ⟨73,2,1,[],87,2,0,zS 1 []⟩ .l) ⟨74,2,1,[],232,4,0,zS 1 []⟩ (.n .l ⟨75,3,8,[],4,1,8,zB 8 []⟩ .l)) ⟨77,1,9,[(0,1,false),(1,8,true)],0,0,0,zI 1 (zB 8 [])⟩ (.n (.n .l ⟨78,3,36,[],77,9,4,zA 4 9 (zI 1 (zB 8 []))⟩ .l) ⟨80,1,41,[(0,1,false),(1,1,false),(2,1,false),(3,1,false),(4,1,false),(5,36,true)],0,0,0,(zI 1 [])++(zI 1 [])++(zI 1 [])++(zS 1 [])++(zS 1 [])++(zA 4 9 (zI 1 (zB 8 [])))⟩ (.n .l ⟨87,1,2,[(0,1,false),(1,1,false)],0,0,0,zI 2 []⟩ .l))))) ⟨91,0,1,[],0,0,0,zP 1 []⟩ (.n (.n (.n (.n (.n (.n .l ⟨98,1,5,[(0,1,false),(1,1,false),(2,1,false),(3,1,false),(4,1,false)],0,0,0,zI 5 []⟩ .l) ⟨103,1,45,[(0,41,true),(41,4,true)],0,0,0,((zI 1 [])++(zI 1 [])++(zI 1 [])++(zS 1 [])++(zS 1 [])++(zA 4 9 (zI 1 (zB 8 []))))++(zI 4 [])⟩ .l) ⟨107,0,1,[],0,0,0,(.o (.map none)::[])⟩ (.n .l ⟨109,0,1,[],0,0,0,zP 1 []⟩ .l)) ⟨110,3,5,[],109,1,5,zP 5 []⟩ (.n (.n .l ⟨111,2,1,[],171,1,0,zS 1 []⟩ .l) ⟨112,0,1,[],0,0,0,(.o (.map none)::[])⟩ (.n .l ⟨114,1,19,[(0,5,true),(5,8,true),(13,1,false),(14,1,false),(15,1,false),(16,1,false),(17,1,false),(18,1,false)],0,0,0,(zP 5 ((zI 8 ((zS 1 ((.o (.map none)::(.o (.map none)::zI 1 (zS 2 [])))))))))⟩ .l))) ⟨117,1,47,[(0,6,true),(6,41,true)],0,0,0,(zI 5 (zS 1 []))++((zI 1 [])++(zI 1 [])++(zI 1 [])++(zS 1 [])++(zS 1 [])++(zA 4 9 (zI 1 (zB 8 []))))⟩ (.n (.n (.n .l ⟨118,3,188,[],117,47,4,zA 4 47 ((zI 5 (zS 1 []))++((zI 1 [])++(zI 1 [])++(zI 1 [])++(zS 1 [])++(zS 1 [])++(zA 4 9 (zI 1 (zB 8 [])))))⟩ .l) ⟨120,1,199,[(0,188,true),(188,8,true),(196,1,false),(197,1,false),(198,1,false)],0,0,0,(zA 4 47 ((zI 5 (zS 1 []))++((zI 1 [])++(zI 1 [])++(zI 1 [])++(zS 1 [])++(zS 1 [])++(zA 4 9 (zI 1 (zB 8 []))))))++(zI 8 [])++(zS 1 [])++((.o (.nilFunc)::[]))++(zI 1 [])⟩ (.n .l ⟨122,2,1,[],5,1,0,zS 1 []⟩ .l)) ⟨124,1,2,[(0,1,false),(1,1,false)],0,0,0,zS 1 (zI 1 [])⟩ (.n (.n .l ⟨126,1,206,[(0,1,false),(1,1,false),(2,1,false),(3,2,true),(5,199,true),(204,1,false),(205,1,false)],0,0,0,(zP 1 [])++(zI 1 [])++(zB 1 [])++(zS 1 (zI 1 []))++((zA 4 47 ((zI 5 (zS 1 []))++((zI 1 [])++(zI 1 [])++(zI 1 [])++(zS 1 [])++(zS 1 [])++(zA 4 9 (zI 1 (zB 8 []))))))++(zI 8 [])++(zS 1 [])++((.o (.nilFunc)::[]))++(zI 1 []))++(zI 1 [])++(zB 1 [])⟩ .l) ⟨138,1,4,[(0,1,false),(1,1,false),(2,1,false),(3,1,false)],0,0,0,zI 4 []⟩ (.n .l ⟨148,1,41,[(0,41,true)],0,0,0,((zI 1 [])++(zI 1 [])++(zI 1 [])++(zS 1 [])++(zS 1 [])++(zA 4 9 (zI 1 (zB 8 []))))⟩ .l)))) ⟨151,1,3,[(0,1,false),(1,1,false),(2,1,false)],0,0,0,(.o (.string ⟨#[]⟩)::zI 2 [])⟩ (.n (.n (.n (.n (.n .l ⟨167,1,10,[(0,1,false),(1,1,false),(2,1,false),(3,1,false),(4,6,true)],0,0,0,zI 10 []⟩ .l) ⟨170,1,21,[(0,1,false),(1,1,false),(2,1,false),(3,1,false),(4,1,false),(5,6,true),(11,4,true),(15,2,true),(17,1,false),(18,1,false),(19,1,false),(20,1,false)],0,0,0,zI 19 (zS 1 (zB 1 []))⟩ .l) ⟨171,0,1,[],0,0,0,zP 1 []⟩ (.n .l ⟨176,2,1,[],167,10,0,zS 1 []⟩ .l)) ⟨191,3,36,[],151,3,12,(.o (.string ⟨#[]⟩)::(zI 2 ((.o (.string ⟨#[]⟩)::(zI 2 ((.o (.string ⟨#[]⟩)::(zI 2 ((.o (.string ⟨#[]⟩)::(zI 2 ((.o (.string ⟨#[]⟩)::(zI 2 ((.o (.string ⟨#[]⟩)::(zI 2 ((.o (.string ⟨#[]⟩)::(zI 2 ((.o (.string ⟨#[]⟩)::(zI 2 ((.o (.string ⟨#[]⟩)::(zI 2 ((.o (.string ⟨#[]⟩)::(zI 2 ((.o (.string ⟨#[]⟩)::(zI 2 ((.o (.string ⟨#[]⟩)::zI 2 []))))))))))))))))))))))))))))))))))⟩ (.n (.n .l ⟨192,2,1,[],195,1,0,zS 1 []⟩ .l) ⟨195,0,1,[],0,0,0,zP 1 []⟩ (.n .l ⟨218,2,1,[],59,4,0,zS 1 []⟩ .l))) ⟨232,1,4,[(0,2,true),(2,2,true)],0,0,0,zI 4 []⟩ (.n (.n (.n .l ⟨263,2,1,[],170,21,0,zS 1 []⟩ .l) ⟨265,2,1,[],122,1,0,zS 1 []⟩ (.n .l ⟨267,1,46,[(0,45,true),(45,1,false)],0,0,0,(((zI 1 [])++(zI 1 [])++(zI 1 [])++(zS 1 [])++(zS 1 [])++(zA 4 9 (zI 1 (zB 8 []))))++(zI 4 []))++(zS 1 [])⟩ .l)) ⟨277,4,1,[],0,0,0,(.o (.nilFunc)::[])⟩ (.n (.n .l ⟨294,3,10,[],195,1,10,zP 10 []⟩ .l) ⟨304,2,1,[],4,1,0,zS 1 []⟩ (.n .l ⟨317,2,1,[],47,1,0,zS 1 []⟩ .l)))))
theorem V8:T0.Ok Tryz.prog:=⟨by kernel_rfl,by kernel_rfl,by kernel_rfl⟩
section
variable{n:Nat}{ops:tL}{f:Nat→AV}{fn:Func}{Rr:Ending→World→Prop}{M:tD}{Φ R:tI}{H:List En}{w:tA}{ks:List Fr}{t:Ord}{i d:Nat}{md:Md}
theorem ad_{a b:Nat}(h:a=b):Ad a b:=h
theorem ce_{x:tJ}(h:x.cells= #[x]):Ce x:=h
theorem Y7{x:tJ}(h:x.cells= #[x])(k:x.oneCell'=true):Cs x:=⟨h,k⟩
theorem on_{g:tC}{m:Nat}(h:(List.range m).all (fun i=>(g i).oneCell')=true):aT g m:=fun i hi=>List.all_eq_true.1 h i (List.mem_range.2 hi)
theorem cm_{g:BinOp}{a b:Int}{c:Bool}(h:ry g a b=some c):Cm g a b c:=h
theorem wr_{a c:Int}(e:a=c)(h: -9223372036854775808≤a)(k:a≤9223372036854775807):Wr a c:=by
 subst e;show IntKind.i64.wrap a=a;rw[IntKind.wrap_i64];omega
theorem va_{md:Md}{j:Nat}{b:Bool}(h:md.va.map some=md.vi.map fun k=>(nth H k).map En.a)(k:md.vi.contains j=b):Va H md j b:=⟨h,k⟩
theorem mn_{a b c:Int}(h:c≤a)(k:c≤b)(l:c=a∨c=b):Mn a b c:=by
 unfold Mn;split<;>omega
theorem Y9{a b:Nat}(h:a<b):Lt a b:=h
theorem Y_{a b:Nat}(h:a≤b):Le a b:=h
theorem dr_{md:Md}{t:Ord}(h:ZL md ops t=true):Dr md ops t:=h
theorem r{h':(Nat→Nat)→List Nat}{z':(Nat→Nat)→List Int}{sD:(Nat→Nat)→List Fr}{f':(Nat→Nat)→Nat→AV}{H':(Nat→Nat)→List En}{c':(Nat→Nat)→List Prop}(h:tR)(hr:(fun α=>run T0 n fn.results.toList 2000 α ⟨h,[],ks,f,H⟩ [])=fun α=>(⟨h' α,z' α,sD α,f' α,H' α⟩,c' α))(hn:∀α,G Tryz.prog fn Rr n M Φ R (sD α) (f' α) (H' α))(hc:∀α,jn (c' α):=by intro _;repeat' first|exact trivial|refine And.intro ?_ ?_|exact ad_ rfl|exact ce_ rfl|exact Y7 rfl rfl|assumption|exact cm_ rfl|exact Jz (by assumption)|exact YZ (by assumption)|exact YX (by assumption)|exact YY (by assumption)|exact Jz (by omega)|exact YZ (by omega)|exact YX (by omega)|exact YY (by omega)|exact gtT (by omega)|exact gtF (by omega)|exact geT (by omega)|exact geF (by omega)|exact neT (by omega)|exact neF (by omega)|exact leT (by omega)|exact leF (by omega)|exact wr_ (by omega) (by omega) (by omega)|exact mn_ (by omega) (by omega) (by omega)|exact on_ rfl|exact kd_ rfl|exact(rfl:([]:tR)=[])|exact va_ rfl rfl|exact dr_ (by kernel_rfl)|exact Y9 (cF rfl)|exact Y9 (by omega)|exact Y_ (cF rfl)|exact Y_ (by omega)|omega|dsimp only):G Tryz.prog fn Rr n M Φ R ks f H:=
 Xp V8 2000 h [] (fun α=>congrFun hr α) hn hc
theorem rs{h':(Nat→Nat)→List Nat}{z':(Nat→Nat)→List Int}{sD:(Nat→Nat)→List Fr}{f':(Nat→Nat)→Nat→AV}{H':(Nat→Nat)→List En}{c':(Nat→Nat)→List Prop}(h:tR)(hr:(fun α=>run T0 n fn.results.toList 2000 α ⟨h,[],ks,f,H⟩ [])=fun α=>(⟨h' α,z' α,sD α,f' α,H' α⟩,c' α))(_:(match eC T0 n fn.results.toList ⟨h,[],ks,f,H⟩with|some _=>true|none=>(ZP T0 n ⟨h,[],ks,f,H⟩).isSome)=true)(hn:∀α,G Tryz.prog fn Rr n M Φ R (sD α) (f' α) (H' α))(hc:∀α,jn (c' α):=by intro _;repeat' first|exact trivial|refine And.intro ?_ ?_|exact ad_ rfl|exact ce_ rfl|exact Y7 rfl rfl|assumption|exact cm_ rfl|exact Jz (by assumption)|exact YZ (by assumption)|exact YX (by assumption)|exact YY (by assumption)|exact Jz (by omega)|exact YZ (by omega)|exact YX (by omega)|exact YY (by omega)|exact gtT (by omega)|exact gtF (by omega)|exact geT (by omega)|exact geF (by omega)|exact neT (by omega)|exact neF (by omega)|exact leT (by omega)|exact leF (by omega)|exact wr_ (by omega) (by omega) (by omega)|exact mn_ (by omega) (by omega) (by omega)|exact on_ rfl|exact kd_ rfl|exact(rfl:([]:tR)=[])|exact va_ rfl rfl|exact dr_ (by kernel_rfl)|exact Y9 (cF rfl)|exact Y9 (by omega)|exact Y_ (cF rfl)|exact Y_ (by omega)|omega|dsimp only):G Tryz.prog fn Rr n M Φ R ks f H:=
 Xp V8 2000 h [] (fun α=>congrFun hr α) hn hc
theorem rz{h':(Nat→Nat)→List Nat}{z':(Nat→Nat)→List Int}{sD:(Nat→Nat)→List Fr}{f':(Nat→Nat)→Nat→AV}{H':(Nat→Nat)→List En}{c':(Nat→Nat)→List Prop}(h:tR)(z:tF)(hr:(fun α=>run T0 n fn.results.toList 2000 α ⟨h,z,ks,f,H⟩ [])=fun α=>(⟨h' α,z' α,sD α,f' α,H' α⟩,c' α))(hn:∀α,G Tryz.prog fn Rr n M Φ R (sD α) (f' α) (H' α))(hc:∀α,jn (c' α):=by intro _;repeat' first|exact trivial|refine And.intro ?_ ?_|exact ad_ rfl|exact ce_ rfl|exact Y7 rfl rfl|assumption|exact cm_ rfl|exact Jz (by assumption)|exact YZ (by assumption)|exact YX (by assumption)|exact YY (by assumption)|exact Jz (by omega)|exact YZ (by omega)|exact YX (by omega)|exact YY (by omega)|exact gtT (by omega)|exact gtF (by omega)|exact geT (by omega)|exact geF (by omega)|exact neT (by omega)|exact neF (by omega)|exact leT (by omega)|exact leF (by omega)|exact wr_ (by omega) (by omega) (by omega)|exact mn_ (by omega) (by omega) (by omega)|exact on_ rfl|exact kd_ rfl|exact(rfl:([]:tR)=[])|exact va_ rfl rfl|exact dr_ (by kernel_rfl)|exact Y9 (cF rfl)|exact Y9 (by omega)|exact Y_ (cF rfl)|exact Y_ (by omega)|omega|dsimp only):G Tryz.prog fn Rr n M Φ R ks f H:=
 Xp V8 2000 h z (fun α=>congrFun hr α) hn hc
theorem cb{g:Nat}{al:List AV}(e:OS n ops f i=some (d,g,al))(a:AV)(hc:∀w,Mem w (hs H) M Φ R→cA g (al.map AV.val).toArray w (rB a.val w))(hn:G Tryz.prog fn Rr n M Φ R (.g md ops t::ks) (ua f d a) H)(he:iy Tryz.prog g=true:=by kernel_rfl):G Tryz.prog fn Rr n M Φ R (.g md ops (.ef i t)::ks) f H:=
 j_ e he fun w hS=>(hc w hS).mono fun _ _ ⟨h1,h2⟩=>⟨a,H,M,Φ,R,h1,.inr h2,hS.next h2,hn⟩
theorem m0(w:tA):Mem w (hs []) (fun _=>False) (fun _=>True) (fun w'=>bZ w w'):=Mem.start (fun _ h=>h.elim) (fun _ _=>trivial) (fun _ h=>h)
theorem en{g:FuncId}{b:Code}(n:Nat)(al:List AV)(hf:Tryz.prog.funcs[g]? =some fn)(hb:fn.body=some b)(hn:fn.ntmps=n)(hS:Mem w (hs H) M Φ R)(h:G Tryz.prog fn Rr n M Φ R [.c b] (Ti al) H)(hl:Nat.ble al.length n=true:=by rfl)(hk:DY n b=true:=by kernel_rfl):cA g (al.map AV.val).toArray w Rr:=Z1 n al hf hb hn hl hk hS h
theorem cx{Y:Type}{g:Nat}{al:List AV}(e:OS n ops f i=some (d,g,al))(a:Y→AV)(Q:Y→Prop)(φ:Y→World→Prop)(hc:∀w,Mem w (hs H) M Φ R→cA g (al.map AV.val).toArray w fun x w'=>∃y,x= .returned (a y).val∧bZ w w'∧Q y∧((∀b,(b∈(hs H).map bQ.a∨M b)→b<w.heap.size)→bR (fun b=>b∈(hs H).map bQ.a∨M b) w' (φ y)))(hn:∀y,Q y→G Tryz.prog fn Rr n M (fun w=>Φ w∧φ y w) R (.g md ops t::ks) (ua f d (a y)) H)(he:iy Tryz.prog g=true:=by kernel_rfl):G Tryz.prog fn Rr n M Φ R (.g md ops (.ef i t)::ks) f H:=
 j_ e he fun w hS=>(hc w hS).mono fun _ _ ⟨y,h1,h2,h3,h4⟩=>⟨a y,H,M,_,R,h1,.inr h2,(hS.next h2).add (h4 hS.ult),hn y h3⟩
theorem cq{Y:Type}{g:Nat}{al:List AV}(e:OS n ops f i=some (d,g,al))(a:Y→AV)(Q:Y→Prop)(hc:∀w,Mem w (hs H) M Φ R→cA g (al.map AV.val).toArray w fun x w'=>∃y,x= .returned (a y).val∧bZ w w'∧Q y)(hn:∀y,Q y→G Tryz.prog fn Rr n M Φ R (.g md ops t::ks) (ua f d (a y)) H)(he:iy Tryz.prog g=true:=by kernel_rfl):G Tryz.prog fn Rr n M Φ R (.g md ops (.ef i t)::ks) f H:=
 j_ e he fun w hS=>(hc w hS).mono fun _ _ ⟨y,h1,h2,h3⟩=>⟨a y,H,M,Φ,R,h1,.inr h2,hS.next h2,hn y h3⟩
def Z6(n:Nat)(ops:tL)(f:Nat→AV)(i:Nat):Option (Nat×Bool×Nat×AV×AV):=match ops[i]? with
 |some o=>match o.dst,rE n ops f o,o.op with
  |some d,some true,.binOp .eql s x y _=>some (d,false,s,ea f x,ea f y)
  |some d,some true,.binOp .neq s x y _=>some (d,true,s,ea f x,ea f y)
  |_,_,_=>none
 |none=>none
theorem eqs{s:Nat}{neg c b:Bool}{x y:AV}{u v:tN}(e:Z6 n ops f i=some (d,neg,s,x,y))(h:∀w,(Op.equalIn 10000 s x.val y.val).run Tryz.prog w= .ok c w)(hb:(c !=neg)=b)(hn:G Tryz.prog fn Rr n M Φ R (.g md ops t::ks) (ua f d (vv (.bool b))) H)(hx:x.val= .agg u:=by rfl)(hy:y.val= .agg v:=by rfl)(hg:Tryz.prog.eqGuardType Tryz.prog.depth s=false:=by kernel_rfl):G Tryz.prog fn Rr n M Φ R (.g md ops (.pu i t)::ks) f H:=by
 intro w hS hK;obtain⟨hK1,gW⟩:=bp.1 hK;have hn:=hn w hS (bp.2 ⟨hK1,gW⟩);show WF Tryz.prog ops (kq Tryz.prog fn Rr ks) md.va (nY md ops) (uq md ops) (.pu i t) n (cn f) w;have h2:∀u v,Op.equal s u v=Op.equalIn 10000 s u v:=fun _ _=>rfl;subst hb;unfold Z6 at e;split at e
 ·rename_i o ho;split at e
  ·rename_i d' s' p q s2 hd hw hp;simp only[Option.some.injEq,Prod.mk.injEq]at e;obtain⟨rfl,rfl,rfl,rfl,rfl⟩:=e;refine AG ho hd (eZ hw) (dI hK1).1 (v:=(vv (.bool (c !=false))).val) (fun w'=> ?_) (by rw[←jm];exact hn);have hxe:ev (cn f) p= .agg u:=(bB f p).symm.trans hx;have hye:ev (cn f) q= .agg v:=(bB f q).symm.trans hy;have h:=h w';rw[hx,hy]at h;simp[execOp,hp,hxe,hye,eqGuard,hg,binOp,h2,h];rfl
  ·rename_i d' s' p q s2 hd hw hp;simp only[Option.some.injEq,Prod.mk.injEq]at e;obtain⟨rfl,rfl,rfl,rfl,rfl⟩:=e;refine AG ho hd (eZ hw) (dI hK1).1 (v:=(vv (.bool (c !=true))).val) (fun w'=> ?_) (by rw[←jm];exact hn);have hxe:ev (cn f) p= .agg u:=(bB f p).symm.trans hx;have hye:ev (cn f) q= .agg v:=(bB f q).symm.trans hy;have h:=h w';rw[hx,hy]at h;simp[execOp,hp,hxe,hye,eqGuard,hg,binOp,h2,h];rfl
  ·cases e
 ·cases e
theorem Xt{s b q:Nat}{x:AV}{e:Ty}(h1:V6 n ops f i=some (d,s,x))(v:tJ)(hc:∀w,Φ w∧(md.va=[]→Mem w (hs H) M Φ R)→w.cell? ⟨b,q,none⟩=some v)(hn:G Tryz.prog fn Rr n M Φ R (.g md ops t::ks) (ua f d (vv v)) H)(Ll:∀a,a∈md.va→a∈(hs H).map bQ.a)(hx:x.val= .pointer (some ⟨b,q,none⟩):=by rfl)(hf:T0.find s=some e:=by rfl)(ho:e.fp=true:=by rfl):G Tryz.prog fn Rr n M Φ R (.g md ops (.rd i t)::ks) f H:=
 V7 V8 (.o v) h1 hx hf (by rw[ho]) (fun w hS j y hy=>by
  cases j with
  |zero=>cases hy;exact hc w hS
  |succ j=>cases hy) Ll hn
theorem l1{va vi vs:_}{cb:Bool}{s b q:Nat}{x:AV}{e:Ty}(h1:V6 n ops f i=some (d,s,x))(v:tJ)(hc:∀w,Mem w (hs H) M Φ R→w.cell? ⟨b,q,none⟩=some v)(hn:G Tryz.prog fn Rr n M Φ R (.g ⟨cb,vi,va,vs⟩ ops t::ks) (ua f d (vv v)) H)(hv:va=[]:=by rfl)(hx:x.val= .pointer (some ⟨b,q,none⟩):=by rfl)(hf:T0.find s=some e:=by rfl)(ho:e.fp=true:=by rfl):G Tryz.prog fn Rr n M Φ R (.g ⟨cb,vi,va,vs⟩ ops (.rd i t)::ks) f H:=
 Xt h1 v (fun w h=>hc w (h.2 hv)) hn (fun a ha=>by rw[show va=[] from hv]at ha;cases ha) hx hf ho
theorem Z7{s b q:Nat}{x:AV}{e:Ty}(h1:V6 n ops f i=some (d,s,x))(m:Nat)(g:tC)(hc:∀w,Φ w∧(md.va=[]→Mem w (hs H) M Φ R)→∀j,j<m→w.cell? ⟨b,q+j,none⟩=some (g j))(hn:G Tryz.prog fn Rr n M Φ R (.g md ops t::ks) (ua f d (vf m g)) H)(Ll:∀a,a∈md.va→a∈(hs H).map bQ.a)(hx:x.val= .pointer (some ⟨b,q,none⟩):=by rfl)(hf:T0.find s=some e:=by rfl)(ho:e.fp=false:=by rfl)(hm:e.m=m:=by rfl):G Tryz.prog fn Rr n M Φ R (.g md ops (.rd i t)::ks) f H:=
 V7 V8 (.g [.f m g]) h1 hx hf (by rw[ho];subst hm;exact Nat.beq_refl _) (fun w hS j y hy=>by
  have hj:=(List.getElem?_eq_some_iff.1 hy).1;have hj:j<m:=by
   rw[cG]at hj;exact hj
  have hy:(bW g 0 m)[j]? =some y:=hy;rw[cg _ _ _ _ hj,Nat.zero_add]at hy;cases hy
  exact hc w hS j hj) Ll hn
theorem lf{va vi vs:_}{cb:Bool}{s b q:Nat}{x:AV}{e:Ty}(h1:V6 n ops f i=some (d,s,x))(m:Nat)(g:tC)(hc:∀w,Mem w (hs H) M Φ R→∀j,j<m→w.cell? ⟨b,q+j,none⟩=some (g j))(hn:G Tryz.prog fn Rr n M Φ R (.g ⟨cb,vi,va,vs⟩ ops t::ks) (ua f d (vf m g)) H)(hv:va=[]:=by rfl)(hx:x.val= .pointer (some ⟨b,q,none⟩):=by rfl)(hf:T0.find s=some e:=by rfl)(ho:e.fp=false:=by rfl)(hm:e.m=m:=by rfl):G Tryz.prog fn Rr n M Φ R (.g ⟨cb,vi,va,vs⟩ ops (.rd i t)::ks) f H:=
 Z7 h1 m g (fun w h=>hc w (h.2 hv)) hn (fun a ha=>by rw[show va=[] from hv]at ha;cases ha) hx hf ho hm
end
section
variable{n:Nat}{ops:tL}{f:Nat→AV}{fn:Func}{Rr:Ending→World→Prop}{M:tD}{Φ R:tI}{H:List En}{w:tA}{ks:List Fr}{t:Ord}{i d:Nat}{md:Md}
theorem rF(hS:Mem w (hs H) M Φ R)(j:Nat){e:En}(he:nth H j=some e):aZ w e.a e.t (fX e.l) (cK e.l):=by
 rw[fF]at he;exact hS.at j (by rw[List.getElem?_map,he];rfl)
theorem lo{va vi vs:_}{cb:Bool}{s b q:Nat}{x:AV}{e:Ty}{en:En}(h1:V6 n ops f i=some (d,s,x))(hx:x.val= .pointer (some ⟨b,q,none⟩))(j:Nat)(he:nth H j=some en)(m:Nat)(g:tC)(hg:∀i,i<m→cK en.l (q+i)=g i)(hn:G Tryz.prog fn Rr n M Φ R (.g ⟨cb,vi,va,vs⟩ ops t::ks) (ua f d (vf m g)) H)(hq:q+m≤fX en.l:=by first|exact cF rfl|(show _≤206;(try dsimp only);omega)|(show _≤199;(try dsimp only);omega)|(show _≤19;(try dsimp only);omega)|(show _≤18;(try dsimp only);omega)|(show _≤8;(try dsimp only);omega))(ha:en.a=b:=by rfl)(hv:va=[]:=by rfl)(hf:T0.find s=some e:=by rfl)(ho:e.fp=false:=by rfl)(hm:e.m=m:=by rfl):G Tryz.prog fn Rr n M Φ R (.g ⟨cb,vi,va,vs⟩ ops (.rd i t)::ks) f H:=
 lf h1 m g (fun w hS i hi=>by
  have:=(rF hS j he).at (q+i) (by omega);rw[ha,hg i hi]at this
  exact this) hn hv hx hf ho hm
theorem Z8{va vi vs:_}{cb:Bool}{s b q:Nat}{x:AV}{e:Ty}{en:En}(h1:V6 n ops f i=some (d,s,x))(hx:x.val= .pointer (some ⟨b,q,none⟩))(j:Nat)(he:nth H j=some en)(v:tJ)(hg:cK en.l q=v)(hn:G Tryz.prog fn Rr n M Φ R (.g ⟨cb,vi,va,vs⟩ ops t::ks) (ua f d (vv v)) H)(hq:q<fX en.l:=by first|exact cF rfl|(show _<206;(try dsimp only);omega)|(show _<199;(try dsimp only);omega)|(show _<19;(try dsimp only);omega)|(show _<18;(try dsimp only);omega)|(show _<8;(try dsimp only);omega))(ha:en.a=b:=by rfl)(hv:va=[]:=by rfl)(hf:T0.find s=some e:=by rfl)(ho:e.fp=true:=by rfl):G Tryz.prog fn Rr n M Φ R (.g ⟨cb,vi,va,vs⟩ ops (.rd i t)::ks) f H:=
 l1 h1 v (fun w hS=>by
  have:=(rF hS j he).at q hq;rw[ha,hg]at this
  exact this) hn hv hx hf ho
def SH(n:Nat)(ops:tL)(f:Nat→AV)(i:Nat):Option (Nat×AV×AV):=match ops[i]? with
 |some o=>match o.dst,rE n ops f o,o.op with
  |none,some true,.store s x y=>some (s,ea f x,ea f y)
  |_,_,_=>none
 |none=>none
theorem so{s b q m:Nat}{x y:AV}{e:Ty}{en:En}{g:tC}(h1:SH n ops f i=some (s,x,y))(hx:x.val= .pointer (some ⟨b,q,none⟩))(hy:y.val=vF g m)(j:Nat)(he:nth H j=some en)(g':tC)(hg:∀i,i<fX en.l→fS (cK en.l) q m g i=g' i)(hn:G Tryz.prog fn Rr n M Φ R (.g md ops t::ks) f (H.set j ⟨en.a,en.t,[.f (fX en.l) g']⟩))(Hc:aT g m)(hq:q+m≤fX en.l:=by first|exact cF rfl|(show _≤206;(try dsimp only);omega)|(show _≤199;(try dsimp only);omega)|(show _≤19;(try dsimp only);omega)|(show _≤18;(try dsimp only);omega)|(show _≤8;(try dsimp only);omega))(ha:en.a=b:=by rfl)(hv:md.vs.contains i=false:=by rfl)(hf:T0.find s=some e:=by rfl)(ho:e.fp=false:=by rfl)(hm:e.m=m:=by rfl):G Tryz.prog fn Rr n M Φ R (.g md ops (.ef i t)::ks) f H:=by
 intro w hS hK;obtain⟨hK1,gW⟩:=bp.1 hK;show WF Tryz.prog ops (kq Tryz.prog fn Rr ks) md.va (nY md ops) (uq md ops) (.ef i t) n (cn f) w;obtain⟨Lc,rfl⟩:=V8.eS hf;have El:=he;rw[fF]at El;have AQ:(hs H)[j]? =some en.ib:=by rw[List.getElem?_map,El];rfl
 unfold SH at h1;split at h1
 ·rename_i o hoo;split at h1
  ·rename_i s' p r hd hw hp;simp only[Option.some.injEq,Prod.mk.injEq]at h1;obtain⟨rfl,rfl,rfl⟩:=h1;have hx:ev (cn f) p= .pointer (some ⟨b,q,none⟩):=(bB f p).symm.trans hx;have hy:ev (cn f) r=vF g m:=(bB f r).symm.trans hy
   have Em:(nY md ops).contains i=true:=kv hoo (by
    unfold mQ;rw[hv,hp]
    cases md.cb<;>rfl)
   refine acZ (P:=Tryz.prog) (hm▸Ty.row Lc ho) hS j AQ Em hoo hd (eZ hw) (dI hK1).1 hp hx hy ha hq Hc fun w' zH=> ?_
   have JG:=zH.congr j (e:=⟨en.a,en.t,fX en.l,fS (cK en.l) q m g⟩) (by
    rw[List.getElem?_set_self (List.getElem?_eq_some_iff.1 AQ).1]
    rfl) g' hg
   rw[List.set_set]at JG;have e4:hs (H.set j ⟨en.a,en.t,[.f (fX en.l) g']⟩)=(hs H).set j ⟨en.a,en.t,fX en.l,g'⟩:=by
    rw[hs,List.map_set];rfl
   exact hn w' (by rw[e4];exact JG) (bp.2 ⟨hK1,gW⟩)
  ·cases h1
 ·cases h1
theorem gn{en:En}(j:Nat)(g:tC)(hn:G Tryz.prog fn Rr n M Φ R ks f (H.set j ⟨en.a,en.t,[.f (fX en.l) g]⟩))(he:nth H j=some en:=by rfl)(hg:dz en.l=bW g 0 (fX en.l):=by rfl):G Tryz.prog fn Rr n M Φ R ks f H:=by
 refine jH (fun w hS=> ?_) hn;have El:=he;rw[fF]at El;have AQ:(hs H)[j]? =some en.ib:=by rw[List.getElem?_map,El];rfl
 have JG:=hS.congr j AQ g (fun i hi=>by
  have hi:i<fX en.l:=hi;show cK en.l i=g i;rw[ma _ hi,hg,List.getD_eq_getElem?_getD,cg _ _ _ _ hi,Nat.zero_add]
  rfl)
 have e4:hs (H.set j ⟨en.a,en.t,[.f (fX en.l) g]⟩)=(hs H).set j ⟨en.a,en.t,fX en.l,g⟩:=by
  rw[hs,List.map_set];rfl
 rw[e4];exact JG
theorem sv{fn:Func}{Rr:Ending→World→Prop}{n:Nat}{M:tD}{Φ R:tI}{ks:List Fr}{f:Nat→AV}{H:List En}(d:Nat)(a:AV)(h:(f d).val=a.val)(hn:G Tryz.prog fn Rr n M Φ R ks (ua f d a) H):G Tryz.prog fn Rr n M Φ R ks f H:=by
 intro w hS hK;have:=hn w hS hK;rw[show cn (ua f d a)=cn f from sE f [(d,a)] ⟨h,trivial⟩]at this;exact this
theorem c0{M:tD}{R:tI}{e0:En}{g:Nat}{al:List AV}(e:OS n ops f i=some (d,g,al))(hc:∀w,Mem w (hs (e0::H)) M Φ R→cA g (al.map AV.val).toArray w fun x w'=>∃(a:AV) (g':tC) (φ:tI),x= .returned a.val∧dk (fun b=>b=e0.a) w w'∧aZ w' e0.a e0.t (fX e0.l) g'∧bR (fun b=>b=e0.a∨(b∈(hs H).map bQ.a∨M b)) w' φ∧G Tryz.prog fn Rr n M (fun w=>Φ w∧φ w) R (.g md ops t::ks) (ua f d a) (⟨e0.a,e0.t,[.f (fX e0.l) g']⟩::H))(hm:(md.cb||md.vs.contains i)=false:=by rfl)(he:iy Tryz.prog g=true:=by kernel_rfl):G Tryz.prog fn Rr n M Φ R (.g md ops (.ef i t)::ks) f (e0::H):=
 j_ e he fun w hS=>(hc w hS).mono fun _ w' ⟨a,g',φ,h1,c,fb,s,hn⟩=>⟨a,⟨e0.a,e0.t,[.f (fX e0.l) g']⟩::H,_,_,_,h1,.inl hm,hS.OU c fb s,hn⟩
theorem kp{M:tD}{R:tI}(k:Nat){e:En}(he:nth H k=some e)(hn:G Tryz.prog fn Rr n M (fun w=>Φ w∧aZ w e.a e.t (fX e.l) (cK e.l)) R ks f (H.take k)):G Tryz.prog fn Rr n M Φ R ks f H:=
 jH (fun w hS=>by
  rw[fF]at he;have hh:hs (H.take k)=(hs H).take k:=List.map_take;rw[hh];refine(hS.take k).add (hS.kept k (e:=e.ib) ?_ k (Nat.le_refl _));rw[List.getElem?_map,he]
  rfl) hn
def JH:List Fr→Bool
 |[]=>true
 | .c _::l=>JH l
 | .b _::l=>JH l
 |_=>false
theorem Ct{P:tS}{k1 k2:List Fr}(h:∀e a w,kq P fn Rr k1 e a w→kq P fn Rr k2 e a w):∀(l:List Fr),JH l=true→∀e a w,kq P fn Rr (l++k1) e a w→kq P fn Rr (l++k2) e a w
 |[],_,e,a,w,hq=>h e a w hq
 | .c c::l,hp,e,a,w,hq=>by
  have ih:=Ct h l hp;cases e with
  |normal=>exact Code.wp_mono ih hq
  |_=>exact ih _ _ _ hq
 | .b id::l,hp,e,a,w,hq=>by
  have ih:=Ct h l hp;cases e with
  |exit id'=>
   show(if id'=id then _ else _);have hq:(if id'=id then kq P fn Rr (l++k1) .normal a w else kq P fn Rr (l++k1) (.exit id') a w):=hq;split
   ·rename_i e;rw[if_pos e]at hq;exact ih _ _ _ hq
   ·rename_i e;rw[if_neg e]at hq;exact ih _ _ _ hq
  |_=>exact ih _ _ _ hq
theorem Cu(n:Nat):∀a b:List Fr,Eg n (a++b)=(Eg n a&&Eg n b)
 |[],b=>rfl
 |x::a,b=>by
  show(okF n x&&Eg n (a++b))=((okF n x&&Eg n a)&&Eg n b);rw[Cu n a b,Bool.and_assoc]
theorem adj{X:Type}(k:Nat)(s:X→List (Nat×AV))(H':X→List En)(M':X→Nat→Prop)(DZ R':X→World→Prop)(J:X→Prop)(h1:∀f x,J x→G Tryz.prog fn Rr n (M' x) (DZ x) (R' x) (ks.drop k) (us f (s x)) (H' x))(h2:G Tryz.prog fn Rr n M Φ R (ks.take k++ .j (LJ n ⟨s,H',M',DZ,R',J,fun _=>0⟩ 1)::ks.drop k) f H)(hp:JH (ks.take k)=true:=by rfl):G Tryz.prog fn Rr n M Φ R ks f H:=by
 intro w hS hK;have gW:(Eg n (ks.take k)&&Eg n (ks.drop k))=true:=by rw[←Cu,List.take_append_drop];exact hK
 have hKa:=(Bool.and_eq_true_iff.1 gW).1;have hKb:=(Bool.and_eq_true_iff.1 gW).2;have h:=h2 w hS (by rw[Cu,hKa];exact(Bool.and_eq_true_iff.2 ⟨rfl,hKb⟩:(true&&Eg n (ks.drop k))=true));rw[show ks=ks.take k++ks.drop k from(List.take_append_drop k ks).symm];refine Ct (fun e a' w' hq=> ?_) _ hp _ _ _ h;cases e with
 |normal=>
  obtain⟨f,x,rfl,e1,e2,e3,_⟩:=hq;have:=h1 f x e3 w' e2 hKb;rw[sE f _ e1]at this;exact this
 |_=>exact hq
end
end Rv
def av(n m:Int):Int:=(if n<0 then-(n+1)else n) % m
theorem cH(n m:Int)(h:0<m):0≤av n m∧av n m<m:=by
 unfold av;exact⟨Int.emod_nonneg _ (by omega),Int.emod_lt_of_pos _ h⟩
theorem iJ(n m:Int)(w:tA)(hn:(Lit.int .i64 n).wf=true)(hm:0<m)(si:m≤4294967296):
  cA 34 #[iV n,iV m] w fun e w'=>e= .returned (iV (av n m))∧w=w':=by
 have hb:=bounds_i64 hn;clear hn;obtain⟨l9,AN⟩:=hb;by_cases h:n<0
 ·have e1:av n m=(-(n+1)) % m:=by unfold av;rw[if_pos h]
  rw[e1];clear e1;have hm0:¬m=0:=by omega
  go_enter Tryz.func34,Tryz.ntmps34;go_wp2;go_ret;refine⟨congrArg (fun z=>Ending.returned (iV z)) ?_,rfl⟩;rw[←Int.neg_tmod,Int.tmod_eq_emod_of_nonneg (by omega)]
 ·have e1:av n m=n % m:=by unfold av;rw[if_neg h]
  rw[e1];clear e1;have hm0:¬m=0:=by omega
  go_enter Tryz.func34,Tryz.ntmps34;go_wp2;go_ret;exact⟨rfl,rfl⟩
theorem Mem.OV{w:tA}{H:List bQ}{M:tD}{Γ R0:tI}{base e sz n:Nat}{v:tJ}{xs:tK}(h:Mem w H M Γ fun w=>R0 w∧w.ownsRow base e sz v n xs):∀b,v.ownBlock=some b→b∉H.map bQ.a:=by
 intro b hb hm;have aL:=h.lt hm
 have c:dk (fun b=>b∈H.map bQ.a) w {w with heap:=w.heap.set b (.cells #[] (e+1) (0,0)) aL}:=⟨rfl,rfl,rfl,by simp,fun z hz uz=>by
  have fw:b≠z:=fun e=>uz (e▸hm)
  simp[fw]⟩
 rcases(h.r _ c).2.2 with⟨rfl,_⟩|⟨g,cap,cur,rfl,_,hh,_⟩
 ·cases hb
 ·obtain rfl:g=b:=by simpa[Value.ownBlock]using hb
  simp at hh
theorem jr{w w':tA}{base e sz n:Nat}{v:tJ}{xs:tK}(h:w.ownsRow base e sz v n xs)(hb:∀g,v.ownBlock=some g→g<w.heap.size→w'.heap[g]? =w.heap[g]?):w'.ownsRow base e sz v n xs:=by
 refine⟨h.1,h.2.imp id ?_⟩;rintro⟨g,cap,cur,rfl,h1,h2,h3⟩;exact⟨g,cap,cur,rfl,h1,(hb g rfl (Array.getElem?_eq_some_iff.1 h2).1).trans h2,h3⟩
theorem cS{w0 w w':tA}{B:Nat}(h:bZ w0 w)(c:dk (fun b=>B≤b) w w')(hB:w0.heap.size≤B):bZ w0 w':=⟨c.os.trans h.os,c.tape.trans h.tape,c.output.trans h.output,Nat.le_trans h.size c.size,fun b hb=>(c.block b (Nat.lt_of_lt_of_le hb h.size) (by omega)).trans (h.block b hb)⟩
theorem Mem.sr{w:tA}{H:List bQ}{M:tD}{Γ R R':tI}(h:Mem w H M Γ R)(hR:∀w,R w→R' w):Mem w H M Γ R':=⟨h.ib,h.nT,h.off,h.mlt,h.g,fun w c=>hR w (h.r w c)⟩
theorem Mem.zJ{w:tA}{H:List bQ}{M:tD}{Γ R0:tI}(base e sz:Nat)(h:Mem w H M Γ R0):Mem w H (fun b=>(Value.slice none 0 0).ownBlock=some b∨M b) Γ fun w=>R0 w∧w.ownsRow base e sz (.slice none 0 0) 0 []:=
 ⟨h.ib,h.nT,fun e he hm=>hm.elim (fun k=>by cases k) (h.off e he),fun b hb=>hb.elim (fun k=>by cases k) (h.mlt b),fun w2 c=>h.g w2 ⟨c.os,c.tape,c.output,c.size,fun b hb hu=>c.block b hb fun k=>hu (k.imp id fun k=>k.elim (fun k=>by cases k) id)⟩,fun w2 c=>⟨h.r w2 c,by simp,.inl ⟨rfl,rfl⟩⟩⟩
theorem n_{w:tA}{base e sz n g c j:Nat}{xs:tK}{u:tJ}(h:w.ownsRow base e sz (.slice (some ⟨g,0,none⟩) n c) n xs)(hj:xs[j]? =some u):w.cell? ((⟨g,0,none⟩:Addr).add j)=some u:=by
 rcases h.2 with⟨k,_⟩|⟨g2,c2,cur,k,_,hh,_,_,_,ht⟩
 ·cases k
 ·cases k;rw[←ht,List.getElem?_take]at hj;split at hj
  ·rw[Addr.add_mid,Nat.zero_add];simpa[World.cell?,hh]using hj
  ·cases hj
theorem JI{w:tA}{a t sz c l base:Nat}{g:tC}(fb:aZ w a t (c*sz) g)(hb:base≤a)(qk:l≤c)(hc:c≤maxLen):w.ownsRow base t sz (.slice (some ⟨a,0,none⟩) l c) l (bW g 0 (l*sz)):=by
 refine⟨bI _ _ _,.inr ⟨a,c,(bW g 0 (c*sz)).toArray,rfl,hb,fb,qk,hc,by simp[bI], ?_⟩⟩;apply List.ext_getElem?;intro j;have hle:l*sz≤c*sz:=Nat.mul_le_mul_right _ qk;by_cases hj:j<l*sz
 ·rw[List.getElem?_take,if_pos hj,cg _ _ _ _ hj];show(bW g 0 (c*sz))[j]? =_;rw[cg _ _ _ _ (by omega)]
 ·rw[List.getElem?_take,if_neg hj,gw _ _ _ _ (by omega)]
namespace Rv
section
variable{n:Nat}{ops:tL}{f:Nat→AV}{fn:Func}{Rr:Ending→World→Prop}{T:tD}{Φ R:tI}{H:List En}{ks:List Fr}{t:Ord}{i d:Nat}{md:Md}
def OW(n:Nat)(ops:tL)(f:Nat→AV)(i:Nat):Option (Nat×Nat×AV×AV):=match ops[i]? with
 |some o=>match o.dst,rE n ops f o,o.op with
  |some d,some true,.call ⟨.builtin .append,xs,ts⟩=>match xs.toList,ts.toList with
   |[x,y],[s,s']=>if s=s' then some (d,s,ea f x,ea f y)else none
   |_,_=>none
  |_,_,_=>none
 |none=>none
theorem xl{s:Nat}{x y:AV}(h:OW n ops f i=some (d,s,x,y)):∃o p r,ops[i]? =some o∧o.dst=some d∧rE n ops f o=some true∧o.op= .call ⟨.builtin .append,#[p,r],#[s,s]⟩∧x=ea f p∧y=ea f r:=by
 unfold OW at h;split at h
 ·rename_i o ho;split at h
  ·rename_i d' xs ts hd hw hp;split at h
   ·rename_i p r s1 s2 h1 h2;split at h
    ·rename_i e;simp only[Option.some.injEq,Prod.mk.injEq]at h;obtain⟨rfl,rfl,rfl,rfl⟩:=h;subst e;have e1:xs= #[p,r]:=Array.toList_inj.1 h1;have e2:ts= #[s1,s1]:=Array.toList_inj.1 h2;exact⟨o,p,r,ho,hd,hw,by rw[hp,e1,e2],rfl,rfl⟩
    ·cases h
   ·cases h
  ·cases h
 ·cases h
theorem pd{s e sz ku base l m mc:Nat}{x y:AV}{v:tJ}{L news:tK}{ad:Addr}{R0:tI}(h1:OW n ops f i=some (d,s,x,y))(hx:x.val=v)(hy:y.val= .slice (some ad) m mc)(ht:jk Tryz.prog s e sz ku=true)(hl:news.length=m*sz)(vr:∀w,Mem w (hs H) (fun b=>v.ownBlock=some b∨T b) Φ (fun w=>R0 w∧w.ownsRow base e sz v l L)→∀j u,news[j]? =some u→w.cell? (ad.add j)=some u)(Hc:∀u∈news,u.oneCell'=true)(hm:0<m)(G7:l+m≤maxLen)(zx:(l+m)*ku≤140737488355328)(hb:∀w,Mem w (hs H) (fun b=>v.ownBlock=some b∨T b) Φ (fun w=>R0 w∧w.ownsRow base e sz v l L)→base≤w.heap.size)(hR:∀w w',R0 w→dk (fun b=>base≤b) w w'→R0 w')(hn:∀g c,l+m≤c→G Tryz.prog fn Rr n (fun b=>(Value.slice (some ⟨g,0,none⟩) (l+m) c).ownBlock=some b∨T b) Φ (fun w=>R0 w∧w.ownsRow base e sz (.slice (some ⟨g,0,none⟩) (l+m) c) (l+m) (L++news)) (.g md ops t::ks) (ua f d (vv (.slice (some ⟨g,0,none⟩) (l+m) c))) H)(hv:md.vs.contains i=false:=by rfl):G Tryz.prog fn Rr n (fun b=>v.ownBlock=some b∨T b) Φ (fun w=>R0 w∧w.ownsRow base e sz v l L) (.g md ops (.ef i t)::ks) f H:=by
 intro w hS hK;obtain⟨hK1,gW⟩:=bp.1 hK;show WF Tryz.prog ops (kq Tryz.prog fn Rr ks) md.va (nY md ops) (uq md ops) (.ef i t) n (cn f) w;obtain⟨o,p,r,ho,hd,hw,hp,rfl,rfl⟩:=xl h1
 have Em:(nY md ops).contains i=true:=kv ho (by
  unfold mQ;rw[hv,hp]
  cases md.cb<;>rfl)
 obtain⟨hu,ti,z,hi,hz,GP,hby1,Jx,ij⟩:=AH ht;have own:=hS.now.2.2;obtain⟨g1,cap,w1,hr,ho1,hgr,hat,aL⟩:=run_append_lies (P:=Tryz.prog) w s o.type base e ti z sz ku hu hi hz GP hby1 Jx ij v l L own ad m mc news hl (vr w hS) Hc hm G7 zx (hb w hS) w.heap.size rfl;have Hd:∀b,v.ownBlock=some b→base≤b:=fun b h=>by
  rcases own.2 with⟨rfl,_⟩|⟨g,c2,cu,rfl,hg,_⟩
  ·cases h
  ·cases h;exact hg
 have kx:=hS.OV;have lc:l+m≤cap:=by
  rcases ho1.2 with⟨k,_⟩|⟨g2,c2,cu,k,_,_,h3,_⟩
  ·cases k
  ·cases k;exact h3
 refine nV ho hd (eZ hw) (dI hK1).1 (rC hp ((bB f p).symm.trans hx) ((bB f r).symm.trans hy) hr) (fW Em) ?_;have hc:dk (fun b=>v.ownBlock=some b) w w1:=⟨hgr.os,hgr.tape,hgr.output,hgr.size,fun x hx fw=>hgr.block x hx fun e=>fw e.symm⟩
 have wK:=hS.mv (F':=fun b=>(Value.slice (some ⟨g1,0,none⟩) (l+m) cap).ownBlock=some b) (R':=fun w=>R0 w∧w.ownsRow base e sz (.slice (some ⟨g1,0,none⟩) (l+m) cap) (l+m) (L++news)) ⟨hc,fun b hb=>by
  cases hb;exact hat.imp id fun e=>Nat.le_of_eq e.symm,fun b hb=>by cases hb;exact aL⟩ fun w2 c2=>⟨?_, ?_⟩
 ·have:=hn g1 cap lc w1 wK (bp.2 ⟨hK1,gW⟩);rw[jm]at this;exact this
 ·have key:∀w3:World,w3.os=w2.os→w3.tape=w2.tape→w3.output=w2.output→w3.heap.size=w2.heap.size→(∀b,base≤b∨w3.heap[b]? =w2.heap[b]?)→(∀b,b<w.heap.size→b∉(hs H).map bQ.a→w3.heap[b]? =w.heap[b]?)→R0 w2:=fun w3 q1 q2 q3 q4 q5 q6=>hR w3 w2 (hS.r w3 ⟨q1.trans (c2.os.trans hc.os),q2.trans (c2.tape.trans hc.tape),q3.trans (c2.output.trans hc.output),by rw[q4];exact Nat.le_trans hc.size c2.size,q6⟩).1 ⟨q1.symm,q2.symm,q3.symm,Nat.le_of_eq q4,fun b _ hb=>((q5 b).resolve_left hb).symm⟩;have nU:∀b,b<w.heap.size→b∉(hs H).map bQ.a→¬v.ownBlock=some b→w2.heap[b]? =w.heap[b]? :=fun b hb si hv2=>(c2.block b (Nat.lt_of_lt_of_le hb hc.size) si).trans (hc.block b hb hv2);cases hv2:v.ownBlock with
  |none=>exact key w2 rfl rfl rfl rfl (fun b=> .inr rfl) fun b hb si=>nU b hb si (by rw[hv2];simp)
  |some g=>
   have hg:g<w.heap.size:=hS.mlt g (.inl hv2);have Cp:g<w2.heap.size:=Nat.lt_of_lt_of_le hg (Nat.le_trans hc.size c2.size);refine key {w2 with heap:=w2.heap.set g w.heap[g] Cp} rfl rfl rfl (by simp) (fun b=> ?_) fun b hb si=> ?_
   ·by_cases e:b=g
    ·exact .inl (e▸Hd g hv2)
    ·exact .inr (by simp[Array.getElem?_set_ne,Ne.symm e])
   ·by_cases e:b=g
    ·subst e;simp[hg]
    ·show(w2.heap.set g w.heap[g] Cp)[b]? =_;rw[Array.getElem?_set_ne Cp (Ne.symm e)];exact nU b hb si (by rw[hv2];simpa using Ne.symm e)
 ·refine jr ho1 fun g hg hlt2=>c2.block g hlt2 fun si=> ?_;cases hg;rcases hat with e|e
  ·exact kx _ e si
  ·exact absurd (hS.lt si) (Nat.not_lt.2 (Nat.le_of_eq e.symm))
theorem qJ{s e sz ku base l mc b:Nat}{x y:AV}{v:tJ}{L:tK}{R0:tI}{en:En}(j:Nat)(h1:OW n ops f i=some (d,s,x,y))(ht:jk Tryz.prog s e sz ku=true)(hb:∀w,Mem w (hs H) (fun b=>v.ownBlock=some b∨T b) Φ (fun w=>R0 w∧w.ownsRow base e sz v l L)→base≤w.heap.size)(hR:∀w w',R0 w→dk (fun b=>base≤b) w w'→R0 w')(hn:∀g c,l+1≤c→G Tryz.prog fn Rr n (fun b=>(Value.slice (some ⟨g,0,none⟩) (l+1) c).ownBlock=some b∨T b) Φ (fun w=>R0 w∧w.ownsRow base e sz (.slice (some ⟨g,0,none⟩) (l+1) c) (l+1) (L++dz en.l)) (.g md ops t::ks) (ua f d (vv (.slice (some ⟨g,0,none⟩) (l+1) c))) H)(hx:x.val=v:=by rfl)(hy:y.val= .slice (some ⟨b,0,none⟩) 1 mc:=by rfl)(he:nth H j=some en:=by rfl)(ha:en.a=b:=by rfl)(hl:fX en.l=sz:=by rfl)(Hc:(dz en.l).all (·.oneCell')=true:=by rfl)(G7:l+1≤maxLen:=by(try dsimp only);unfold maxLen;omega)(zx:(l+1)*ku≤140737488355328:=by(try dsimp only);omega)(hv:md.vs.contains i=false:=by rfl):G Tryz.prog fn Rr n (fun b=>v.ownBlock=some b∨T b) Φ (fun w=>R0 w∧w.ownsRow base e sz v l L) (.g md ops (.ef i t)::ks) f H:=
 pd h1 hx hy ht (by rw[cG,Nat.one_mul];exact hl) (fun w hS j2 u hu=>by
  have fb:=rF hS j he;have hj:=(List.getElem?_eq_some_iff.1 hu).1;rw[cG]at hj;have:=fb.at j2 hj;rw[ma _ hj,List.getD_eq_getElem?_getD,hu,ha]at this;rw[Addr.add_mid,Nat.zero_add]
  exact this) (fun u hu=>List.all_eq_true.1 Hc u hu) Nat.zero_lt_one G7 zx hb hR hn hv
theorem ro{w0:tA}{M:tD}{R0:tI}{en:En}(k sz l c:Nat)(h0:∀w,R0 w→bZ w0 w)(hn:G Tryz.prog fn Rr n (fun b=>(Value.slice (some ⟨en.a,0,none⟩) l c).ownBlock=some b∨M b) Φ (fun w=>R0 w∧w.ownsRow w0.heap.size en.t sz (.slice (some ⟨en.a,0,none⟩) l c) l (bW (cK en.l) 0 (l*sz))) ks f (H.take k))(he:nth H k=some en:=by rfl)(ij:fX en.l=c*sz:=by rfl)(qk:l≤c:=by exact Nat.le_refl _)(hc:c≤maxLen:=by exact cF rfl):G Tryz.prog fn Rr n M Φ R0 ks f H:=by
 refine jH (fun w hS=> ?_) hn;have V9:=he;rw[fF]at V9;have AQ:(hs H)[k]? =some en.ib:=by rw[List.getElem?_map,V9];rfl
 have dO:w0.heap.size≤en.a:=(Mem.mk hS.ib hS.nT hS.off hS.mlt hS.g (fun w' c=>h0 _ (hS.r w' c))).jq k AQ;have fb:=rF hS k he;rw[ij]at fb;have hh:hs (H.take k)=(hs H).take k:=List.map_take;rw[hh];have sub:∀b,b∈((hs H).take k).map bQ.a→b∈(hs H).map bQ.a:=fun b hb=>by
  obtain⟨e,he,rfl⟩:=List.mem_map.1 hb;exact List.mem_map_of_mem (List.mem_of_mem_take he)
 have fw:∀b,b∈((hs H).take k).map bQ.a→b≠en.a:=fun b hb e=>by
  obtain⟨x,hx,rfl⟩:=List.mem_map.1 hb;obtain⟨j,hj⟩:=List.mem_iff_getElem?.1 hx;rw[List.getElem?_take]at hj;split at hj
  ·rename_i hjk;exact absurd (hS.nT j k x _ hj AQ e) (Nat.ne_of_lt hjk)
  ·cases hj
 have Z9:en.a∈(hs H).map bQ.a:=List.mem_map.2 ⟨_,List.mem_of_getElem? AQ,rfl⟩;refine⟨fun e he=>hS.ib e (List.mem_of_mem_take he),(hS.take k).nT,fun e he hm=> ?_,fun b hb=> ?_,fun w2 c2=>hS.g w2 (c2.mono fun b hb=> ?_),fun w2 c2=>⟨hS.r w2 (c2.mono sub), ?_⟩⟩
 ·rcases hm with hm|hm
  ·exact fw _ (List.mem_map_of_mem he) (Option.some.inj hm).symm
  ·exact hS.off e (List.mem_of_mem_take he) hm
 ·rcases hb with hb|hb
  ·cases hb;exact hS.lt Z9
  ·exact hS.mlt b hb
 ·rcases hb with hb|hb|hb
  ·exact .inl (sub b hb)
  ·cases hb;exact .inl Z9
  ·exact .inr hb
 ·exact jr (JI fb dO qk hc) fun g hg aL=>c2.block g aL fun hm=>by
   cases hg;exact fw _ hm rfl
theorem ap0{M:tD}{s e base l sz ku:Nat}{x y:AV}{v:tJ}{L:tK}(h1:OW n ops f i=some (d,s,x,y))(hx:x.val=v)(hy:y.val= .slice none 0 0)(ht:jk Tryz.prog s e sz ku=true)(own:∀w,Mem w (hs H) M Φ R→w.ownsRow base e sz v l L)(hn:G Tryz.prog fn Rr n M Φ R (.g md ops t::ks) (ua f d (vv v)) H)(hv:md.vs.contains i=false:=by rfl):G Tryz.prog fn Rr n M Φ R (.g md ops (.ef i t)::ks) f H:=by
 intro w hS hK;obtain⟨hK1,gW⟩:=bp.1 hK;show WF Tryz.prog ops (kq Tryz.prog fn Rr ks) md.va (nY md ops) (uq md ops) (.ef i t) n (cn f) w;obtain⟨o,p,r,ho,hd,hw,hp,rfl,rfl⟩:=xl h1
 have Em:(nY md ops).contains i=true:=kv ho (by
  unfold mQ;rw[hv,hp]
  cases md.cb<;>rfl)
 obtain⟨hu,ti,z,hi,_⟩:=AH ht;have hr:=run_append_owned_none (P:=Tryz.prog) (w:=w) base s o.type e ti sz hu hi v l L (own w hS);refine nV ho hd (eZ hw) (dI hK1).1 (rC hp ((bB f p).symm.trans hx) ((bB f r).symm.trans hy) hr) (fW Em) ?_;have:=hn w hS (bp.2 ⟨hK1,gW⟩);rw[jm]at this;exact this
end
end Rv
theorem aZ.JJ{w:tA}{X t c:Nat}{g:tC}{U:tD}{G:tI}(fb:aZ w X t c g)(hU:∀b,U b→b<w.heap.size)(hX:¬U X)(hG:bR (fun b=>b=X∨U b) w G):Mem w (Rv.hs [⟨X,t,[.f c g]⟩]) U G (fun w'=>dk (fun b=>b∈[X]) w w'):=
 Mem.begin (H:=[⟨X,t,c,g⟩]) (fun e he=>by cases List.mem_singleton.1 he;exact fb) (List.pairwise_singleton _ _) (fun e he=>by cases List.mem_singleton.1 he;exact hX) hU fun w2 c=>hG w2 (c.mono fun b h=>h.imp (fun h=>List.mem_singleton.1 h) id)
theorem aZ.Z_{w:tA}{N X t c t' c':Nat}{g g':tC}{U:tD}{G:tI}(fb:aZ w N t c g)(Xu:aZ w X t' c' g')(fw:N≠X)(hU:∀b,U b→b<w.heap.size)(hN:¬U N)(hX:¬U X)(hG:bR (fun b=>(b=N∨b=X)∨U b) w G):Mem w (Rv.hs [⟨N,t,[.f c g]⟩,⟨X,t',[.f c' g']⟩]) U G (fun w'=>dk (fun b=>b∈[N,X]) w w'):=by
 refine Mem.begin (H:=[⟨N,t,c,g⟩,⟨X,t',c',g'⟩]) (fun e he=> ?_) (List.pairwise_pair.2 fw) (fun e he=> ?_) hU fun w2 c=>hG w2 (c.mono fun b h=>h.imp (fun h=>by simpa using h) id)
 ·simp only[List.mem_cons,List.not_mem_nil,or_false]at he;rcases he with rfl|rfl
  ·exact fb
  ·exact Xu
 ·simp only[List.mem_cons,List.not_mem_nil,or_false]at he;rcases he with rfl|rfl
  ·exact hN
  ·exact hX
namespace Rv
section
variable{n:Nat}{ops:tL}{f:Nat→AV}{fn:Func}{Rr:Ending→World→Prop}{M:tD}{Φ R:tI}{H:List En}{ks:List Fr}{t:Ord}{i d:Nat}{md:Md}
def opA(n:Nat)(ops:tL)(f:Nat→AV)(i:Nat):Option (Nat×Oper):=match ops[i]? with
 |some o=>match o.dst,rE n ops f o with
  |some d,some true=>some (d,o)
  |_,_=>none
 |none=>none
theorem pv{o:Oper}(a:AV)(e:opA n ops f i=some (d,o))(h:∀w,(execOp (fun x=>(ea f x).val) o).run Tryz.prog w= .ok (.value a.val) w)(hn:G Tryz.prog fn Rr n M Φ R (.g md ops t::ks) (ua f d a) H):G Tryz.prog fn Rr n M Φ R (.g md ops (.pu i t)::ks) f H:=by
 intro w hS hK;obtain⟨hK1,gW⟩:=bp.1 hK;have hn:=hn w hS (bp.2 ⟨hK1,gW⟩);show WF Tryz.prog ops (kq Tryz.prog fn Rr ks) md.va (nY md ops) (uq md ops) (.pu i t) n (cn f) w;unfold opA at e;split at e
 ·rename_i o' ho;split at e
  ·rename_i d' hd hw;simp only[Option.some.injEq,Prod.mk.injEq]at e;obtain⟨rfl,rfl⟩:=e;have e1:ev (cn f)=fun x=>(ea f x).val:=funext fun x=>(bB f x).symm;exact AG ho hd (eZ hw) (dI hK1).1 (v:=a.val) (fun w'=>by rw[e1];exact h w') (by rw[←jm];exact hn)
  ·cases e
 ·cases e
theorem ct{Y:Type}{g:Nat}{al:List AV}(e:OS n ops f i=some (d,g,al))(a:AV)(R':Y→World→Prop)(hc:∀w,Mem w (hs H) M Φ R→cA g (al.map AV.val).toArray w fun x w'=>x= .returned a.val∧∃y,R' y w')(hR:∀y w' w2,R' y w'→bZ w' w2→R' y w2)(hn:∀y,G Tryz.prog fn Rr n (fun _=>False) (fun _=>True) (R' y) (.g md ops t::ks) (ua f d a) [])(hm:(md.cb||md.vs.contains i)=false:=by rfl)(he:iy Tryz.prog g=true:=by kernel_rfl):G Tryz.prog fn Rr n M Φ R (.g md ops (.ef i t)::ks) f H:=
 j_ e he fun w hS=>(hc w hS).mono fun _ w' ⟨h1,y,h⟩=>⟨a,[],_,_,_,h1,.inl hm,Mem.start (fun _ h=>h.elim) (fun _ _=>trivial) fun w2 b=>hR y _ _ h b,hn y⟩
theorem ix{s:Nat}{x y:tP}{o:Oper}(a:AV)(e:opA n ops f i=some (d,o))(hp:o.op= .index s x y)(h:∀w,(Instr.index s (ea f x).val (ea f y).val).run Tryz.prog w= .ok a.val w)(hn:G Tryz.prog fn Rr n M Φ R (.g md ops t::ks) (ua f d a) H):G Tryz.prog fn Rr n M Φ R (.g md ops (.pu i t)::ks) f H:=
 pv a e (fun w=>by simp only[execOp,hp,Sem.run_bind,h,Result.andThen_ok,Sem.run_pure]) hn
theorem tf{s b q:Nat}{x y:AV}{e:Ty}{en:En}{v:tJ}(h1:SH n ops f i=some (s,x,y))(j:Nat)(he:nth H j=some en)(g':tC)(hq:q<fX en.l)(hg:∀i,nS (cK en.l) q v i=g' i)(hn:G Tryz.prog fn Rr n M Φ R (.g md ops t::ks) f (H.set j ⟨en.a,en.t,[.f (fX en.l) g']⟩))(hx:x.val= .pointer (some ⟨b,q,none⟩):=by rfl)(hy:y.val=v:=by rfl)(hc:v.cells= #[v]:=by rfl)(Hc:v.oneCell'=true:=by rfl)(ha:en.a=b:=by rfl)(hv:md.vs.contains i=false:=by rfl)(hf:T0.find s=some e:=by rfl)(ho:e.fp=true:=by rfl):G Tryz.prog fn Rr n M Φ R (.g md ops (.ef i t)::ks) f H:=by
 intro w hS hK;obtain⟨hK1,gW⟩:=bp.1 hK;show WF Tryz.prog ops (kq Tryz.prog fn Rr ks) md.va (nY md ops) (uq md ops) (.ef i t) n (cn f) w;obtain⟨Lc,rfl⟩:=V8.eS hf;have El:=he;rw[fF]at El;have AQ:(hs H)[j]? =some en.ib:=by rw[List.getElem?_map,El];rfl
 unfold SH at h1;split at h1
 ·rename_i o hoo;split at h1
  ·rename_i s' p r hd hw hp;simp only[Option.some.injEq,Prod.mk.injEq]at h1;obtain⟨rfl,rfl,rfl⟩:=h1;have hx:ev (cn f) p= .pointer (some ⟨b,q,none⟩):=(bB f p).symm.trans hx;have hy:ev (cn f) r=v:=(bB f r).symm.trans hy
   have Em:(nY md ops).contains i=true:=kv hoo (by
    unfold mQ;rw[hv,hp]
    cases md.cb<;>rfl)
   refine ac0 (P:=Tryz.prog) (Ty.one Lc ho).1 hS j AQ Em hoo hd (eZ hw) (dI hK1).1 hp hx hy ha hq hc Hc fun w' zH=> ?_
   have JG:=zH.congr j (e:=⟨en.a,en.t,fX en.l,nS (cK en.l) q v⟩) (by
    rw[List.getElem?_set_self (List.getElem?_eq_some_iff.1 AQ).1]
    rfl) g' fun i _=>hg i
   rw[List.set_set]at JG;have e4:hs (H.set j ⟨en.a,en.t,[.f (fX en.l) g']⟩)=(hs H).set j ⟨en.a,en.t,fX en.l,g'⟩:=by
    rw[hs,List.map_set];rfl
   exact hn w' (by rw[e4];exact JG) (bp.2 ⟨hK1,gW⟩)
  ·cases h1
 ·cases h1
theorem SI(h:∀w,Mem w (hs H) M Φ R→G Tryz.prog fn Rr n M Φ R ks f H):G Tryz.prog fn Rr n M Φ R ks f H:=fun w hS hK=>h w hS w hS hK
theorem Xv(h:∀w,Mem w (hs H) M Φ R→∃H' M' DZ R',Mem w (hs H') M' DZ R'∧G Tryz.prog fn Rr n M' DZ R' ks f H'):G Tryz.prog fn Rr n M Φ R ks f H:=fun w hS hK=>by
 obtain⟨_,_,_,_,h1,h2⟩:=h w hS;exact h2 w h1 hK
theorem Cv{X:Type}{c:Code}(s:X→List (Nat×AV))(H':X→List En)(M':X→Nat→Prop)(R':X→World→Prop)(J:X→Prop)(k:X→Nat)(x0:X)(h1:Ek f (s x0))(h2:∀w,Mem w (hs H) M Φ R→Mem w (hs (H' x0)) (M' x0) Φ (R' x0))(h3:J x0)(round:∀f x,J x→G Tryz.prog fn Rr n (M' x) Φ (R' x) (.c c:: .j (LJ n ⟨s,H',M',fun _=>Φ,R',J,k⟩ (k x))::ks) (us f (s x)) (H' x)):G Tryz.prog fn Rr n M Φ R (.c (.loop c)::ks) f H:=
 ic ⟨s,H',M',fun _=>Φ,R',J,k⟩ x0 h1 h2 h3 round
end
end Rv
abbrev eT(t:Int)(s:tM):Array Value:= #[iV t,.bool (s 0),.bool (s 1),.bool (s 2),.bool (s 3),.bool (s 4),.bool (s 5),.bool (s 6),.bool (s 7)]
abbrev cm(t:Int)(s:tM):Value:= .agg #[iV t,.bool (s 0),.bool (s 1),.bool (s 2),.bool (s 3),.bool (s 4),.bool (s 5),.bool (s 6),.bool (s 7)]
def jI:Nat→Bool:=fun _=>false
theorem ah{p:Prop}(h:p):Hid p:=h
theorem aa{p:Prop}(h:Hid p):p:=h
theorem xm{p:tD}(h0:p 0)(h1:p 1)(h2:p 2)(h3:p 3)(h4:p 4)(h5:p 5)(h6:p 6)(h7:p 7):∀i,i<8→p i
 |0,_=>h0
 |1,_=>h1
 |2,_=>h2
 |3,_=>h3
 |4,_=>h4
 |5,_=>h5
 |6,_=>h6
 |7,_=>h7
 |n+8,h=>absurd h (by omega)
theorem AR{t t':Int}{s s':tM}(ht:t=t')(hs:∀i,i<8→s i=s' i):cm t s=cm t' s':=by
 simp only[cm,ht,hs 0 (by omega),hs 1 (by omega),hs 2 (by omega),hs 3 (by omega),hs 4 (by omega),hs 5 (by omega),hs 6 (by omega),hs 7 (by omega)]
theorem Cw(t:Int)(s s':tM)(b:Bool)(k:Nat)(hk:k<8)(hs:∀i,i<8→s' i=if i=k then b else s i):(eT t s).set! (1+k) (.bool b)=eT t s':=by
 have e0:=hs 0 (by omega);have e1:=hs 1 (by omega);have e2:=hs 2 (by omega);have e3:=hs 3 (by omega);have e4:=hs 4 (by omega);have e5:=hs 5 (by omega);have e6:=hs 6 (by omega);have e7:=hs 7 (by omega);rw[eT,eT,e0,e1,e2,e3,e4,e5,e6,e7];revert k;refine xm ?_ ?_ ?_ ?_ ?_ ?_ ?_ ?_<;>(intros;rfl)
structure fq(t:Int)(s:tM):Prop where
 low:0≤t
 high:t≤1073741825
 ids:∀i:Nat,i<8→s i=true→8≤t+i
 last:t=0∨s 7=true
def gK(t:Int)(s:tM)(x:Int):Bool:=decide (t-8≤x)&&decide (x<t)&&s (x-(t-8)).toNat
theorem uA{t x:Int}{s:tM}:gK t s x=true↔∃i:Nat,i<8∧s i=true∧x=t-8+i:=by
 unfold gK;constructor
 ·intro h;simp only[Bool.and_eq_true,decide_eq_true_eq]at h;exact⟨(x-(t-8)).toNat,by omega,h.2,by omega⟩
 ·rintro⟨i,hi,hs,rfl⟩;have e:(t-8+(i:Int)-(t-8)).toNat=i:=by omega
  simp only[Bool.and_eq_true,decide_eq_true_eq];rw[e];exact⟨⟨by omega,by omega⟩,hs⟩
theorem pB{t:Int}{s:tM}(i:Nat)(hi:i<8):gK t s (t-8+i)=s i:=by
 rw[Bool.eq_iff_iff,uA];constructor
 ·rintro⟨j,_,hs,he⟩;obtain rfl:i=j:=by omega
  exact hs
 ·exact fun h=>⟨i,hi,h,rfl⟩
theorem fq.none:fq 0 jI:=⟨by omega,by omega,fun i _ h=>by simp[jI]at h,.inl rfl⟩
theorem fq.Xw{t x:Int}{s:tM}(h:fq t s)(hx:gK t s x=true):0≤x∧x<t:=by
 obtain⟨i,hi,hs,rfl⟩:=uA.1 hx;have:=h.ids i hi hs;omega
def gO(t id:Int):Int:=if t≤id then id+1 else t
def eM(t:Int)(s:tM)(id:Int):Nat→Bool:=fun j=>decide (gO t id-8+j=id)||gK t s (gO t id-8+j)
theorem OX(t id:Int):t≤gO t id∧id<gO t id:=by unfold gO;split<;>omega
theorem fq.take{t id:Int}{s:tM}(h:fq t s)(h0:0≤id)(h1:id≤1073741824):fq (gO t id) (eM t s id):=by
 have hl:=h.low;have hh:=h.high;have hg:=OX t id;refine⟨by omega,by unfold gO;split<;>omega, ?_,.inr ?_⟩
 ·intro i hi hs;have:(decide (gO t id-8+i=id)||gK t s (gO t id-8+i))=true:=hs;simp only[Bool.or_eq_true,decide_eq_true_eq]at this;rcases this with e|e
  ·omega
  ·have:=h.Xw e;omega
 ·show(decide (gO t id-8+((7:Nat):Int)=id)||gK t s (gO t id-8+((7:Nat):Int)))=true;by_cases hc:t≤id
  ·have e:gO t id=id+1:=by unfold gO;rw[if_pos hc]
   rw[e];simp;left;omega
  ·have e:gO t id=t:=by unfold gO;rw[if_neg hc]
   rw[e,pB 7 (by omega)];rcases h.last with hz|hz
   ·omega
   ·simp[hz]
def aH(w:tA)(R:Nat)(t:Int)(s:tM):Prop:=w.heap[R]? =some (.cells (eT t s) 77 (0,0))
theorem aH.cell0{w:tA}{R:Nat}{t:Int}{s:tM}(h:aH w R t s):w.cell? ⟨R,0,none⟩=some (iV t):=by
 unfold aH at h;simp[World.cell?,h]
theorem aH.cell{w:tA}{R:Nat}{t:Int}{s:tM}(h:aH w R t s):∀i,i<8→w.cell? ⟨R,1+i,none⟩=some (.bool (s i)):=by
 unfold aH at h;refine xm ?_ ?_ ?_ ?_ ?_ ?_ ?_ ?_<;>simp[World.cell?,h]
theorem aH.cells{w:tA}{R:Nat}{t:Int}{s:tM}(h:aH w R t s):
  w.cell? ⟨R,0,none⟩=some (iV t)∧w.cell? ⟨R,1,none⟩=some (.bool (s 0))∧w.cell? ⟨R,2,none⟩=some (.bool (s 1))∧w.cell? ⟨R,3,none⟩=some (.bool (s 2))∧w.cell? ⟨R,4,none⟩=some (.bool (s 3))∧
  w.cell? ⟨R,5,none⟩=some (.bool (s 4))∧w.cell? ⟨R,6,none⟩=some (.bool (s 5))∧w.cell? ⟨R,7,none⟩=some (.bool (s 6))∧w.cell? ⟨R,8,none⟩=some (.bool (s 7)):=
 ⟨h.cell0,h.cell 0 (by omega),h.cell 1 (by omega),h.cell 2 (by omega),h.cell 3 (by omega),h.cell 4 (by omega),h.cell 5 (by omega),h.cell 6 (by omega),h.cell 7 (by omega)⟩
theorem aH.free{w:tA}{R:Nat}{t:Int}{s:tM}(h:aH w R t s)(o:Nat):w.frozen? ⟨R,o,none⟩=false:=by
 unfold aH at h;simp[World.frozen?,h]
theorem aH.lt{w:tA}{R:Nat}{t:Int}{s:tM}(h:aH w R t s):R<w.heap.size:=by
 unfold aH at h;rcases Nat.lt_or_ge R w.heap.size with h'|h'
 ·exact h'
 ·simp[Array.getElem?_eq_none h']at h
theorem aH.below{w w':tA}{R B:Nat}{t:Int}{s:tM}(h:aH w R t s)(hb:Below B w w')(hR:R<B):aH w' R t s:=by
 unfold aH at h⊢;rw[←h];exact hb.block R hR
theorem aH.next{w w':tA}{R:Nat}{t:Int}{s:tM}(h:aH w R t s)(hb:bZ w w'):aH w' R t s:=h.below hb h.lt
theorem aH.new(w:tA)(t:Int)(s:tM):aH (w.alloc (.cells (eT t s) 77)) w.heap.size t s:=heap_alloc_new w _
abbrev lx(w:tA)(R:Nat)(t:Int)(s:tM):World:=
 ((((((((w.setCell ⟨R,0,none⟩ (iV t)).setCell ⟨R,1,none⟩ (.bool (s 0))).setCell ⟨R,2,none⟩ (.bool (s 1))).setCell ⟨R,3,none⟩ (.bool (s 2))).setCell ⟨R,4,none⟩ (.bool (s 3))).setCell ⟨R,5,none⟩ (.bool (s 4))).setCell ⟨R,6,none⟩ (.bool (s 5))).setCell ⟨R,7,none⟩ (.bool (s 6))).setCell ⟨R,8,none⟩ (.bool (s 7))
theorem aH.store{w:tA}{R:Nat}{t:Int}{s:tM}(h:aH w R t s)(t':Int)(s':tM):aH (lx w R t' s') R t' s':=by
 unfold aH at h⊢;rw[lx,heap_set (heap_set (heap_set (heap_set (heap_set (heap_set (heap_set (heap_set (heap_set h))))))))];simp
theorem fG{B:Nat}{w0 w:tA}(hb:Below B w0 w)(R:Nat)(hR:B≤R)(t:Int)(s:tM):Below B w0 (lx w R t s):=
 ((((((((hb.setCell hR _).setCell hR _).setCell hR _).setCell hR _).setCell hR _).setCell hR _).setCell hR _).setCell hR _).setCell hR _
theorem xn(w:tA)(R:Nat)(t:Int)(s:tM)(k:Nat)(hk:k≠R):(lx w R t s).heap[k]? =w.heap[k]? :=by
 simp only[lx]
 repeat rw[Below.heap_setCell _ _ _ k hk]
theorem aH.mark{w:tA}{R:Nat}{t:Int}{s:tM}(h:aH w R t s)(k:Nat)(hk:k<8)(b:Bool)(s':tM)(hs:∀i,i<8→s' i=if i=k then b else s i):aH (w.setCell ⟨R,1+k,none⟩ (.bool b)) R t s':=by
 have:=heap_set (o:=1+k) (v:= .bool b) h;rw[Cw t s s' b k hk hs]at this;exact this
theorem aH.other{w:tA}{R R' o:Nat}{t:Int}{s:tM}{v:tJ}(h:aH w R t s)(hR:R≠R'):aH (w.setCell ⟨R',o,none⟩ v) R t s:=by
 unfold aH at h⊢;rw[Below.heap_setCell _ _ _ R hR];exact h
theorem sF(w:tA)(t:Int)(s:tM):∃W,W=w.alloc (.cells (eT t s) 77)∧aH W w.heap.size t s∧bZ w W∧W.heap.size=w.heap.size+1:=
 ⟨_,rfl,aH.new w t s,aA _ _,by simp⟩
theorem pC(s:tM):∀k:Nat,k<8→∀w:World,
  (Instr.index 75 (.agg #[.bool (s 0),.bool (s 1),.bool (s 2),.bool (s 3),.bool (s 4),.bool (s 5),.bool (s 6),.bool (s 7)]) (iV k)).run Tryz.prog w= .ok (.bool (s k)) w:=by
 refine xm ?_ ?_ ?_ ?_ ?_ ?_ ?_ ?_<;>(intro w;simp[Instr.index,run_underlying Tryz.underlying75,asIntOf,go_sem])
theorem gP(t:Int)(s:tM)(w:tA)(h0:0≤t)(h1:t≤1073741825):
  cA 193 #[cm t s] w (rB (iV (t-8)) w):=by
 go_enter Tryz.func193,Tryz.ntmps193;go_wp2;go_ret;exact⟨rfl,aA _ _⟩
theorem ql(t:Int)(s:tM)(w:tA)(h:fq t s):
  cA 151 #[cm t s] w (rB (iV 0) w):=by
 have hl:=h.low;have hh:=h.high;go_enter Tryz.func151,Tryz.ntmps151
 go_wp2_with fail
 obtain⟨W,hW,wb0,B0,S0⟩:=sF w t s;rw[←hW];clear hW
 go_loopw [15] (fun i wr=>∃k:Nat,k≤8∧i=iV k∧aH wr w.heap.size t s∧bZ w wr) (fun i _=>8-(intOf i).toNat)
 case atStart=>exact⟨0,by omega,rfl,wb0,B0⟩
 case round=>
  obtain⟨k,hk,rfl,wb,B⟩:=hrel;clear wb0 B0 S0;have HB:=ah B;have HW:=ah wb;obtain⟨c0,c1,c2,c3,c4,c5,c6,c7,c8⟩:=wb.cells;clear wb B;by_cases aL:k<8
  ·have Lm:=h.ids k aL;have Xx:=pC s k aL;cases hb:s k
   ·rw[hb]at Xx;go_wp2
    go_roundw
    case rel=>exact⟨k+1,by omega,by go_num,aa HW,aa HB⟩
    case measure=>simp[intOf];omega
   ·have agz:=Lm hb;rw[hb]at Xx;clear Lm
    go_wp2_with (go_at_call 193;refine(gP t s _ hl hh).mono ?_;rintro e w1 ⟨rfl,b1⟩)
    go_roundw
    case rel=>exact⟨k+1,by omega,by go_num,(aa HW).next b1,Below.next (aa HB) b1⟩
    case measure=>simp[intOf];omega
  ·obtain rfl:k=8:=by omega
   rcases h.last with hz|hz
   ·subst hz;go_wp2;go_ret;exact⟨rfl,aa HB⟩
   ·go_wp2
    all_goals(go_ret;exact⟨rfl,aa HB⟩)
theorem Ep(t:Int)(s:tM)(w:tA)(h:¬fq t s):
  cA 151 #[cm t s] w (rB (iV 6) w):=by
 by_cases hr:0≤t∧t≤1073741825
 case neg=>
  by_cases h0:t<0
  ·go_enter Tryz.func151,Tryz.ntmps151;go_wp2;go_ret;exact⟨rfl,aA _ _⟩
  ·have h1:1073741825<t:=by omega
   have h2:¬t≤1073741825:=by omega
   have h3:0≤t:=by omega
   clear hr;go_enter Tryz.func151,Tryz.ntmps151;go_wp2;go_ret;exact⟨rfl,aA _ _⟩
 obtain⟨hl,hh⟩:=hr;have hn:(∀i:Nat,i<8→s i=true→8≤t+i)→¬t=0∧s 7=false:=by
  intro hi;refine⟨fun h0=>h ⟨hl,hh,hi,.inl h0⟩, ?_⟩;cases h7:s 7
  ·rfl
  ·exact absurd ⟨hl,hh,hi,.inr h7⟩ h
 have HN:=ah hn;clear hn h;go_enter Tryz.func151,Tryz.ntmps151
 go_wp2_with fail
 obtain⟨W,hW,wb0,B0,S0⟩:=sF w t s;rw[←hW];clear hW
 go_loopw [15] (fun i wr=>∃k:Nat,k≤8∧i=iV k∧(∀i:Nat,i<k→s i=true→8≤t+i)∧aH wr w.heap.size t s∧bZ w wr) (fun i _=>8-(intOf i).toNat)
 case atStart=>exact⟨0,by omega,rfl,fun i hi=>by omega,wb0,B0⟩
 case round=>
  obtain⟨k,hk,rfl,hi,wb,B⟩:=hrel;clear wb0 B0 S0;have HB:=ah B;have HW:=ah wb;have HI:=ah hi;obtain⟨c0,c1,c2,c3,c4,c5,c6,c7,c8⟩:=wb.cells;clear wb B hi;by_cases aL:k<8
  ·have Xx:=pC s k aL;cases hb:s k
   ·rw[hb]at Xx
    have HI':Hid (∀i:Nat,i<k+1→s i=true→8≤t+i):=ah (by
     intro i h1 h2;rcases Nat.lt_or_ge i k with h3|h3
     ·exact aa HI i h3 h2
     ·obtain rfl:i=k:=by omega
      rw[hb]at h2;cases h2)
    go_wp2
    go_roundw
    case rel=>exact⟨k+1,by omega,by go_num,aa HI',aa HW,aa HB⟩
    case measure=>simp[intOf];omega
   ·rw[hb]at Xx;by_cases Lm:8≤t+k
    ·have HI':Hid (∀i:Nat,i<k+1→s i=true→8≤t+i):=ah (by
      intro i h1 h2;rcases Nat.lt_or_ge i k with h3|h3
      ·exact aa HI i h3 h2
      ·obtain rfl:i=k:=by omega
       exact Lm)
     go_wp2_with (go_at_call 193;refine(gP t s _ hl hh).mono ?_;rintro e w1 ⟨rfl,b1⟩)
     go_roundw
     case rel=>exact⟨k+1,by omega,by go_num,aa HI',(aa HW).next b1,Below.next (aa HB) b1⟩
     case measure=>simp[intOf];omega
    ·go_wp2_with (go_at_call 193;refine(gP t s _ hl hh).mono ?_;rintro e w1 ⟨rfl,b1⟩)
     go_ret;exact⟨rfl,Below.next (aa HB) b1⟩
  ·obtain rfl:k=8:=by omega
   obtain⟨h0,h7⟩:=aa HN (aa HI);go_wp2;go_ret;exact⟨rfl,aa HB⟩
section
open Rv
def mC(ws:tC):List Value:=(List.range 36).map ws
def kH(ep nx gv:Int)(r l:tJ)(ws:tC):List Value:=iV ep::iV nx::iV gv::r::l::mC ws
def dP(ep nx gv:Int)(r l:tJ)(ws:tC):Array Value:=(kH ep nx gv r l ws).toArray
abbrev ik(ep nx gv:Int)(r l:tJ)(ws:tC):Value:= .agg (dP ep nx gv r l ws)
theorem cQ(ep nx gv:Int)(r l:tJ)(ws:tC):(dP ep nx gv r l ws).size=41:=by simp[dP,kH,mC]
theorem He(ws:tC)(j:Nat)(h:j<36):(mC ws)[j]? =some (ws j):=by simp[mC,h]
theorem oc(ep nx gv:Int)(r l:tJ)(ws:tC):
  (dP ep nx gv r l ws)[0]? =some (iV ep)∧(dP ep nx gv r l ws)[1]? =some (iV nx)∧(dP ep nx gv r l ws)[2]? =some (iV gv)∧(dP ep nx gv r l ws)[3]? =some r∧(dP ep nx gv r l ws)[4]? =some l:=by
 simp[dP,kH]
theorem Ln(ep nx gv:Int)(r l:tJ)(ws:tC)(j:Nat)(h:j<36):(dP ep nx gv r l ws)[5+j]? =some (ws j):=by
 rw[dP,List.getElem?_toArray,kH,Nat.add_comm 5 j];simp only[List.getElem?_cons_succ];exact He ws j h
def aV(w:tA)(R:Nat)(ep nx gv:Int)(r l:tJ)(ws:tC):Prop:=w.heap[R]? =some (.cells (dP ep nx gv r l ws) 80 (0,0))
section
variable{w w':tA}{R B:Nat}{ep nx gv:Int}{r l:tJ}{ws:tC}
theorem aV.lt(h:aV w R ep nx gv r l ws):R<w.heap.size:=by
 unfold aV at h;rcases Nat.lt_or_ge R w.heap.size with h'|h'
 ·exact h'
 ·simp[Array.getElem?_eq_none h']at h
theorem aV.below(h:aV w R ep nx gv r l ws)(hb:Below B w w')(hR:R<B):aV w' R ep nx gv r l ws:=by
 unfold aV at h⊢;rw[←h];exact hb.block R hR
theorem aV.next(h:aV w R ep nx gv r l ws)(hb:bZ w w'):aV w' R ep nx gv r l ws:=h.below hb h.lt
theorem aV.new(w:tA)(ep nx gv:Int)(r l:tJ)(ws:tC):aV (w.alloc (.cells (dP ep nx gv r l ws) 80)) w.heap.size ep nx gv r l ws:=heap_alloc_new w _
theorem aV.free(h:aV w R ep nx gv r l ws)(o:Nat):w.frozen? ⟨R,o,none⟩=false:=by
 unfold aV at h;simp[World.frozen?,h]
theorem aV.at(h:aV w R ep nx gv r l ws)(i:Nat):w.cell? ⟨R,i,none⟩=(dP ep nx gv r l ws)[i]? :=by
 unfold aV at h;simp[World.cell?,h]
theorem aV.heads(h:aV w R ep nx gv r l ws):
  w.cell? ⟨R,0,none⟩=some (iV ep)∧w.cell? ⟨R,1,none⟩=some (iV nx)∧w.cell? ⟨R,2,none⟩=some (iV gv)∧w.cell? ⟨R,3,none⟩=some r∧w.cell? ⟨R,4,none⟩=some l:=by
 obtain⟨h0,h1,h2,h3,h4⟩:=oc ep nx gv r l ws;exact⟨(h.at 0).trans h0,(h.at 1).trans h1,(h.at 2).trans h2,(h.at 3).trans h3,(h.at 4).trans h4⟩
theorem Xy{o:Oper}{a:Act}{K:Act→World→Prop}{Q:tH}(x:tP)(ho:o.op= .load 80 x)(hx:a.eval x= .pointer (some ⟨R,0,none⟩))(qb:aV w R ep nx gv r l ws)
  (h:K (a.put o.dst (ik ep nx gv r l ws)) w):o.wp Tryz.prog a w K Q:=
 wp_load_row 80 x ho R hx 80 _ (0,0) _ qb Tryz.underlying80 rfl (by rw[cQ];kernel_rfl) h
theorem Cx{ops:tL}{rest:List Oper}{o:Oper}{a:Act}{Q:tH}(x:tP)(ho:o.op= .load 80 x)(hw:Region.wanted o (yielded ops a.tmps)=true)(hx:a.eval x= .pointer (some ⟨R,0,none⟩))(qb:aV w R ep nx gv r l ws)
  (h:wpList Tryz.prog ops Q rest (a.put o.dst (ik ep nx gv r l ws)) w):wpList Tryz.prog ops Q (o::rest) a w:=
 wpList_step fun K hK=>by
  rw[if_pos hw];exact Xy x ho hx qb (hK _ _ h)
theorem OY{ops:tL}{S:tI}{o:Oper}{a:Act}(x:tP)(ho:o.op= .load 80 x)(hw:Region.wanted o (yielded ops a.tmps)=true)(hx:a.eval x= .pointer (some ⟨R,0,none⟩))(hS:∀w,S w→aV w R ep nx gv r l ws):
  YieldsIf Tryz.prog ops S o (ik ep nx gv r l ws) a:=
 .inl ⟨hw,fun w hs=>by
  unfold execOp
  simp only[ho,hx,Instr.loadAt,Instr.sureAddr,Sem.run_bind,Sem.run_pure,Result.andThen_ok,run_loadVar_row w R 80 80 _ (0,0) _ (hS w hs) Tryz.underlying80 rfl (by rw[cQ];kernel_rfl)]⟩
end
def rG(n m:Int):Bool:=decide (0≤n)&&decide (n≤m)
theorem gY{n m:Int}:rG n m=true↔0≤n∧n≤m:=by simp[rG]
theorem Er(n m:Int)(w:tA):
  cA 149 #[iV n,iV m] w fun e w'=>e= .returned (.bool (rG n m))∧w'=w:=by
 unfold rG;by_cases h0:0≤n
 ·by_cases h1:n≤m
  ·go_enter Tryz.func149,Tryz.ntmps149;go_wp2;go_ret;simp[h0,h1]
  ·go_enter Tryz.func149,Tryz.ntmps149;go_wp2;go_ret;exact⟨by simp[h1],rfl⟩
 ·go_enter Tryz.func149,Tryz.ntmps149;go_wp2;go_ret;exact⟨by rw[show decide (0≤n)=false from decide_eq_false (by omega)];rfl,rfl⟩
abbrev qS(ep nx gv:Int)(r l:tJ)(ws:tC):List Rv.Sg:=[.o (iV ep),.o (iV nx),.o (iV gv),.o r,.o l,.f 36 ws]
theorem jJ{w:World}{b o len m k:Nat}{L:List Int}{g:Nat→Value}(h:RowK .i64 w (some ⟨b,o,none⟩) len L)(hk:m*k+m≤len)(hg:∀j,j<m→Value.int .i64 (L.getD (m*k+j) 0)=g j):∀j,j<m→w.cell? ⟨b,o+k*m+j,none⟩=some (g j):=fun j hj=>by
 have:=h.at (m*k+j) (by omega);rw[hg j hj,←Nat.add_assoc,Nat.mul_comm m k]at this;exact this
abbrev mS(R:tF)(k:Nat):List Rv.Sg:=[.o (iV (R.getD (2*k) 0)),.o (iV (R.getD (2*k+1) 0))]
abbrev lS(L:tF)(k:Nat):List Rv.Sg:=[.o (iV (L.getD (4*k) 0)),.o (iV (L.getD (4*k+1) 0)),.o (iV (L.getD (4*k+2) 0)),.o (iV (L.getD (4*k+3) 0))]
theorem adm{w:tA}{b o len k:Nat}{L:tF}(h:RowK .i64 w (some ⟨b,o,none⟩) len L)(hk:2*k+2≤len):∀j,j<2→w.cell? ⟨b,o+k*2+j,none⟩=some (Rv.cK (mS L k) j):=jJ h hk fun j hj=>by obtain rfl|rfl:j=0∨j=1:=(by omega)<;>rfl
theorem aab{w:tA}{b o len k:Nat}{L:tF}(h:RowK .i64 w (some ⟨b,o,none⟩) len L)(hk:4*k+4≤len):∀j,j<4→w.cell? ⟨b,o+k*4+j,none⟩=some (Rv.cK (lS L k) j):=jJ h hk fun j hj=>by obtain rfl|rfl|rfl|rfl:j=0∨j=1∨j=2∨j=3:=(by omega)<;>rfl
theorem upto{P:tD}{k:Nat}(h:∀i,i<k→P i)(hk:P k):∀i,i<k+1→P i:=fun i hi=>by
 by_cases e:i=k
 ·exact e▸hk
 ·exact h i (by omega)
theorem eQ{n m:Int}{b:Bool}(h:rG n m=b)(w:tA):cA 149 #[iV n,iV m] w (rB (.bool b) w):=(Er n m w).mono fun _ _ ⟨h1,e⟩=>⟨by rw[h1,h],by rw[e];exact Below.refl _ _⟩
theorem oh(ep nx gv:Int)(ra la:tB)(rn rc ln lc:Nat)(ws:tC)(w:tA)(hs:rn+ln≤9223372036854775807):
  cA 150 #[ik ep nx gv (.slice ra rn rc) (.slice la ln lc) ws] w (rB (iV (rn+ln:Nat)) w):=by
 exact en (H:=[]) _ [vg (qS ep nx gv (.slice ra rn rc) (.slice la ln lc) ws)] Tryz.func150 rfl rfl (m0 w) (rz [1] [((rn+ln:Nat):Int)] rfl fun _=>fin fun w hS=>⟨rfl,hS.now.2⟩)
theorem Cy(ep nx gv:Int)(ra la:tB)(rn rc ln lc:Nat)(ws:tC)(w:tA)(hs:rn+ln≤9223372036854775807):
  cA 97 #[ik ep nx gv (.slice ra rn rc) (.slice la ln lc) ws] w fun e w'=>
   e= .returned (.bool (rG ep 1048576&&rG nx 1073741824&&rG gv 1073741824&&decide (rn+ln≤500)))∧bZ w w':=by
 refine en (H:=[]) _ [vg (qS ep nx gv (.slice ra rn rc) (.slice la ln lc) ws)] Tryz.func97 rfl rfl (m0 w) (r [] rfl fun _=> ?_);cases h0:rG ep 1048576
 ·exact Rv.cb rfl (vv (.bool false)) (fun w _=>eQ h0 w) (r [] rfl fun _=>fin fun w hS=>⟨rfl,hS.now.2⟩)
 refine Rv.cb rfl (vv (.bool true)) (fun w _=>eQ h0 w) (r [] rfl fun _=> ?_);cases h1:rG nx 1073741824
 ·exact Rv.cb rfl (vv (.bool false)) (fun w _=>eQ h1 w) (r [] rfl fun _=>fin fun w hS=>⟨rfl,hS.now.2⟩)
 refine Rv.cb rfl (vv (.bool true)) (fun w _=>eQ h1 w) (r [] rfl fun _=> ?_);cases h2:rG gv 1073741824
 ·exact Rv.cb rfl (vv (.bool false)) (fun w _=>eQ h2 w) (r [] rfl fun _=>fin fun w hS=>⟨rfl,hS.now.2⟩)
 refine Rv.cb rfl (vv (.bool true)) (fun w _=>eQ h2 w) (r [] rfl fun _=>Rv.cb rfl (vi ((rn+ln:Nat):Int)) (fun w _=>oh ep nx gv ra la rn rc ln lc ws w hs) ?_);by_cases h3:rn+ln≤500
 ·exact r [1] rfl fun _=>fin fun w hS=>⟨by rw[decide_eq_true h3];rfl,hS.now.2⟩
 ·exact r [0] rfl fun _=>fin fun w hS=>⟨by rw[decide_eq_false h3];rfl,hS.now.2⟩
theorem mj(ep nx gv:Int)(r l:tJ)(ws:tC)(no bd:Int)(w:tA)(h0:0≤nx)(h1:nx≤1073741824):
  cA 152 #[ik ep nx gv r l ws,.agg #[iV no,iV bd]] w fun e w'=>
   e= .returned (.bool (rG no (nx-1)&&rG bd 1000000))∧bZ w w':=by
 refine en (H:=[]) _ [vg (qS ep nx gv r l ws),vg [.o (iV no),.o (iV bd)]] Tryz.func152 rfl rfl (m0 w) (rz [1] [nx-1] rfl fun _=> ?_);cases h:rG no (nx-1)
 ·exact Rv.cb rfl (vv (.bool false)) (fun w _=>eQ h w) (Rv.r [] rfl fun _=>fin fun w hS=>⟨rfl,hS.now.2⟩)
 refine Rv.cb rfl (vv (.bool true)) (fun w _=>eQ h w) (Rv.r [] rfl fun _=> ?_);cases h2:rG bd 1000000
 ·exact Rv.cb rfl (vv (.bool false)) (fun w _=>eQ h2 w) (Rv.r [] rfl fun _=>fin fun w hS=>⟨rfl,hS.now.2⟩)
 ·exact Rv.cb rfl (vv (.bool true)) (fun w _=>eQ h2 w) (Rv.r [] rfl fun _=>fin fun w hS=>⟨rfl,hS.now.2⟩)
theorem aac(w:tA)(ep nx gv:Int)(r l:tJ)(ws:tC):∃W,W=w.alloc (.cells (dP ep nx gv r l ws) 80)∧aV W w.heap.size ep nx gv r l ws∧bZ w W∧W.heap.size=w.heap.size+1:=
 ⟨_,rfl,aV.new w ep nx gv r l ws,aA _ _,by simp⟩
def gE(ws:tC)(wt:tG)(wz:Nat→Nat→Bool):Prop:=∀p,p<4→ws (9*p)=iV (wt p)∧∀j,j<8→ws (9*p+1+j)= .bool (wz p j)
theorem Xz{p:tD}(h0:p 0)(h1:p 1)(h2:p 2)(h3:p 3):∀i,i<4→p i
 |0,_=>h0
 |1,_=>h1
 |2,_=>h2
 |3,_=>h3
 |n+4,h=>absurd h (by omega)
theorem gE.nine{ws:tC}{wt:tG}{wz:Nat→Nat→Bool}(h:gE ws wt wz)(p:Nat)(hp:p<4):
  Value.agg #[ws (9*p),ws (9*p+1+0),ws (9*p+1+1),ws (9*p+1+2),ws (9*p+1+3),ws (9*p+1+4),ws (9*p+1+5),ws (9*p+1+6),ws (9*p+1+7)]=cm (wt p) (wz p):=by
 obtain⟨h0,h1⟩:=h p hp;rw[h0,h1 0 (by omega),h1 1 (by omega),h1 2 (by omega),h1 3 (by omega),h1 4 (by omega),h1 5 (by omega),h1 6 (by omega),h1 7 (by omega)]
theorem xo{ws:tC}{wt:tG}{wz:Nat→Nat→Bool}(h:gE ws wt wz):∀p:Nat,p<4→∀w:World,(Instr.index 78 (.agg (mC ws).toArray) (iV p)).run Tryz.prog w= .ok (cm (wt p) (wz p)) w:=by
 intro p hp w;rw[←h.nine p hp];revert p;refine Xz ?_ ?_ ?_ ?_<;>(simp[Instr.index,run_underlying Tryz.underlying78,asIntOf,go_sem,mC])
abbrev wS(t:Int)(s:tM):List Rv.Sg:=[.o (iV t),.o (.bool (s 0)),.o (.bool (s 1)),.o (.bool (s 2)),.o (.bool (s 3)),.o (.bool (s 4)),.o (.bool (s 5)),.o (.bool (s 6)),.o (.bool (s 7))]
noncomputable def sG(wt:tG)(wz:Nat→Nat→Bool):Bool:= @decide (∀p,p<4→fq (wt p) (wz p)) (Classical.propDecidable _)
theorem Lo{wt:tG}{wz:Nat→Nat→Bool}(h:∀p,p<4→fq (wt p) (wz p)):sG wt wz=true:=by
 unfold sG;exact @decide_eq_true _ (Classical.propDecidable _) h
theorem OZ{wt:tG}{wz:Nat→Nat→Bool}(p:Nat)(hp:p<4)(h:¬fq (wt p) (wz p)):sG wt wz=false:=by
 unfold sG;exact @decide_eq_false _ (Classical.propDecidable _) (fun h'=>h (h' p hp))
theorem Ls{wt:tG}{wz:Nat→Nat→Bool}:sG wt wz=true↔∀p,p<4→fq (wt p) (wz p):=by
 unfold sG;exact @decide_eq_true_iff _ (Classical.propDecidable _)
theorem vY(ep nx gv:Int)(r l:tJ)(ws:tC)(wt:tG)(wz:Nat→Nat→Bool)(w:tA)(h:gE ws wt wz):
  cA 98 #[ik ep nx gv r l ws] w (rB (.bool (sG wt wz)) w):=by
 have Xx:=xo h;refine en (H:=[]) _ [vg (qS ep nx gv r l ws)] Tryz.func98 rfl rfl (m0 w) (Rv.r [] rfl fun _=> ?_);refine ic (X:=Nat) ⟨fun k=>[(6,vf 36 ws),(7,vi (k:Int))],fun _=>[],fun _ _=>False,fun _ _=>True,fun _ w'=>bZ w w',fun k=>k≤4∧∀p,p<k→fq (wt p) (wz p),fun k=>4-k⟩ 0 ⟨rfl,rfl,trivial⟩ (fun w hS=>hS.take 0) ⟨Nat.zero_le _,fun p hp=>absurd hp (Nat.not_lt_zero p)⟩ ?_;rintro f k ⟨hk,hi⟩;have hk:k≤4:=hk;by_cases aL:k<4
 case neg=>
  obtain rfl:k=4:=by omega
  exact Rv.r [0] rfl fun _=>fin fun w hS=>⟨by rw[Lo hi];rfl,hS.now.2⟩
 refine Rv.r [1] rfl fun _=>ix (vg (wS (wt k) (wz k))) rfl rfl (Xx k aL) (Rv.r [] rfl fun _=> ?_);by_cases ok:fq (wt k) (wz k)
 ·refine Rv.cb rfl (vi 0) (fun w _=>ql (wt k) (wz k) w ok) (rz [0,1] [((k+1:Nat):Int)] rfl fun _=>bU (k+1) ⟨rfl,rfl,trivial⟩ (fun w hS=>hS.take 0) ⟨aL,upto hi ok⟩ (show 4-(k+1)<4-k by omega))
 ·exact Rv.cb rfl (vi 6) (fun w _=>Ep (wt k) (wz k) w ok) (Rv.r [1] rfl fun _=>fin fun w hS=>⟨by rw[OZ k aL ok];rfl,hS.now.2⟩)
def xp(L:tF)(k:Nat):Int:=if k=0 then-1 else L.getD (4*(k-1)+1) 0
structure ml(ep gv:Int)(L:tF)(i:Nat):Prop where
 JK:L.getD (4*i) 0=ep
 no:rG (L.getD (4*i+1) 0) (gv-1)=true
 Hf:xp L i<L.getD (4*i+1) 0
noncomputable def mD(ep gv:Int)(L:tF)(n:Nat):Bool:= @decide (∀i,i<n→ml ep gv L i) (Classical.propDecidable _)
theorem Hg{ep gv:Int}{L:tF}{n:Nat}(h:∀i,i<n→ml ep gv L i):mD ep gv L n=true:=by
 unfold mD;exact @decide_eq_true _ (Classical.propDecidable _) h
theorem Lu{ep gv:Int}{L:tF}{n:Nat}(p:Nat)(hp:p<n)(h:¬ml ep gv L p):mD ep gv L n=false:=by
 unfold mD;exact @decide_eq_false _ (Classical.propDecidable _) (fun h'=>h (h' p hp))
theorem Hh{ep gv:Int}{L:tF}{n:Nat}:mD ep gv L n=true↔∀i,i<n→ml ep gv L i:=by
 unfold mD;exact @decide_eq_true_iff _ (Classical.propDecidable _)
theorem Cz(ep nx gv:Int)(r:tJ)(la:tB)(ln lc:Nat)(L:tF)(ws:tC)(w:tA)(hg0:0≤gv)(GN:gv≤1073741824)(hL:RowK .i64 w la (4*ln) L)(tV:ln≤9223372036854775807):
  cA 100 #[ik ep nx gv r (.slice la ln lc) ws] w (rB (.bool (mD ep gv L ln)) w):=by
 refine en (H:=[]) _ [vg (qS ep nx gv r (.slice la ln lc) ws)] Tryz.func100 rfl rfl (m0 w) (Rv.r [] rfl fun α=> ?_);refine ic (X:=Nat) ⟨fun k=>[(1,vp 0 0 (α 0)),(3,vi (xp L k)),(7,vv (.slice la ln lc)),(8,vi (ln:Int)),(9,vi (k:Int))],fun _=>[⟨α 0,80,qS ep nx gv r (.slice la ln lc) ws⟩],fun _ _=>False,fun _ _=>True,fun _ w'=>bZ w w',fun k=>k≤ln∧∀i,i<k→ml ep gv L i,fun k=>ln-k⟩ 0 ⟨rfl,rfl,rfl,rfl,rfl,trivial⟩ (fun _ hS=>hS) ⟨Nat.zero_le _,fun p hp=>absurd hp (Nat.not_lt_zero p)⟩ ?_;rintro f k ⟨hk,hi⟩;have hk:k≤ln:=hk;by_cases aL:k<ln
 case neg=>
  obtain rfl:k=ln:=by omega
  exact Rv.r [0] rfl fun _=>fin fun w hS=>⟨by rw[Hg hi];rfl,hS.now.2⟩
 obtain⟨lb,lo,rfl⟩:=hL.form (by omega);have no:¬ml ep gv L k→mD ep gv L ln=false:=Lu k aL;refine Rv.r [1] rfl fun _=>lf (q:=lo+k*4) rfl 4 (cK (lS L k)) (fun w hS=>aab (hL.below hS.now.2) (by omega)) (Rv.r [] rfl fun _=> ?_);by_cases h1:L.getD (4*k) 0=ep
 case neg=>exact Rv.r [1] rfl fun _=>fin fun w hS=>⟨by rw[no fun h=>h1 h.JK];rfl,hS.now.2⟩
 refine rz [0,1] [gv-1] rfl fun _=> ?_;cases h2:rG (L.getD (4*k+1) 0) (gv-1)
 ·exact Rv.cb rfl (vv (.bool false)) (fun w _=>eQ h2 w) (Rv.r [] rfl fun _=>fin fun w hS=>⟨by rw[no fun h=>by rw[h.no]at h2;cases h2];rfl,hS.now.2⟩)
 refine Rv.cb rfl (vv (.bool true)) (fun w _=>eQ h2 w) (Rv.r [] rfl fun _=> ?_);by_cases h3:L.getD (4*k+1) 0≤xp L k
 ·exact Rv.r [1] rfl fun _=>fin fun w hS=>⟨by rw[no fun h=>absurd h.Hf (Int.not_lt.2 h3)];rfl,hS.now.2⟩
 refine rz [0,1] [((k+1:Nat):Int)] rfl fun _=>bU (k+1) ⟨rfl,rfl,rfl,rfl,rfl,trivial⟩ (fun w hS=>hS.take 1) ⟨aL,upto hi ⟨h1,h2,Int.not_le.1 h3⟩⟩ (show ln-(k+1)<ln-k by omega)
end
end Go.Proofs.YtmhifeahpnkpiaaGreatDoor
namespace Go.Proofs
open Go.Shelf
def Tryz.laysSort_ren:Go.Shelf.Ren:=⟨fun|189=>194|125=>199|257=>224|128=>233|129=>234|294=>240|295=>241|296=>242|297=>243|298=>244|299=>245|216=>246|300=>247|301=>248|328=>254|329=>250|330=>251|331=>255|332=>256|215=>200|343=>258|n=>n,fun|28=>71|3=>3|46=>269|0=>0|51=>314|53=>316|4=>4|183=>307|182=>306|131=>311|5=>5|9=>9|218=>324|222=>195|228=>331|229=>332|n=>n,fun|n=>n⟩
theorem Tryz.laysSort:Go.Proofs.Lays.n189 Tryz.prog Tryz.laysSort_ren:={
 mixed:=by kernel_rfl
 f125:=Tryz.func199.trans (congrArg some (by kernel_rfl))
 f128:=Tryz.func233.trans (congrArg some (by kernel_rfl))
 f129:=Tryz.func234.trans (congrArg some (by kernel_rfl))
 f189:=Tryz.func194.trans (congrArg some (by kernel_rfl))
 f215:=Tryz.func200.trans (congrArg some (by kernel_rfl))
 f216:=Tryz.func246.trans (congrArg some (by kernel_rfl))
 f257:=Tryz.func224.trans (congrArg some (by kernel_rfl))
 f294:=Tryz.func240.trans (congrArg some (by kernel_rfl))
 f295:=Tryz.func241.trans (congrArg some (by kernel_rfl))
 f296:=Tryz.func242.trans (congrArg some (by kernel_rfl))
 f297:=Tryz.func243.trans (congrArg some (by kernel_rfl))
 f298:=Tryz.func244.trans (congrArg some (by kernel_rfl))
 f299:=Tryz.func245.trans (congrArg some (by kernel_rfl))
 f300:=Tryz.func247.trans (congrArg some (by kernel_rfl))
 f301:=Tryz.func248.trans (congrArg some (by kernel_rfl))
 f328:=Tryz.func254.trans (congrArg some (by kernel_rfl))
 f329:=Tryz.func250.trans (congrArg some (by kernel_rfl))
 f330:=Tryz.func251.trans (congrArg some (by kernel_rfl))
 f331:=Tryz.func255.trans (congrArg some (by kernel_rfl))
 f332:=Tryz.func256.trans (congrArg some (by kernel_rfl))
 f343:=Tryz.func258.trans (congrArg some (by kernel_rfl))
 t0:=Tryz.underlying0
 a0:=Tryz.isAgg0
 z0:=Tryz.sizeOf0
 v0:=Tryz.zeroValue0
 t3:=Tryz.underlying3
 a3:=Tryz.isAgg3
 z3:=Tryz.sizeOf3
 v3:=Tryz.zeroValue3
 t4:=Tryz.underlying4
 a4:=Tryz.isAgg4
 z4:=Tryz.sizeOf4
 v4:=Tryz.zeroValue4
 t5:=Tryz.underlying5
 a5:=Tryz.isAgg5
 z5:=Tryz.sizeOf5
 v5:=Tryz.zeroValue5
 t9:=Tryz.underlying9
 a9:=Tryz.isAgg9
 z9:=Tryz.sizeOf9
 v9:=Tryz.zeroValue9
 t28:=Tryz.underlying71
 a28:=Tryz.isAgg71
 z28:=Tryz.sizeOf71
 v28:=Tryz.zeroValue71
 t46:=Tryz.underlying269
 a46:=Tryz.isAgg269
 z46:=Tryz.sizeOf269
 v46:=Tryz.zeroValue269
 t51:=Tryz.underlying314
 a51:=Tryz.isAgg314
 z51:=Tryz.sizeOf314
 v51:=Tryz.zeroValue314
 t53:=Tryz.underlying316
 a53:=Tryz.isAgg316
 z53:=Tryz.sizeOf316
 v53:=Tryz.zeroValue316
 t131:=Tryz.underlying311
 a131:=Tryz.isAgg311
 z131:=Tryz.sizeOf311
 v131:=Tryz.zeroValue311
 t182:=Tryz.underlying306
 a182:=Tryz.isAgg306
 z182:=Tryz.sizeOf306
 v182:=Tryz.zeroValue306
 t183:=Tryz.underlying307
 a183:=Tryz.isAgg307
 z183:=Tryz.sizeOf307
 v183:=Tryz.zeroValue307
 t218:=Tryz.underlying324
 a218:=Tryz.isAgg324
 z218:=Tryz.sizeOf324
 v218:=Tryz.zeroValue324
 t222:=Tryz.underlying195
 a222:=Tryz.isAgg195
 z222:=Tryz.sizeOf195
 v222:=Tryz.zeroValue195
 t228:=Tryz.underlying331
 a228:=Tryz.isAgg331
 z228:=Tryz.sizeOf331
 v228:=Tryz.zeroValue331
 t229:=Tryz.underlying332
 a229:=Tryz.isAgg332
 z229:=Tryz.sizeOf332
 v229:=Tryz.zeroValue332}
def Tryz.laysCompact_ren:Go.Shelf.Ren:=⟨fun|20=>195|n=>n,fun|22=>71|3=>3|4=>4|0=>0|n=>n,fun|n=>n⟩
theorem Tryz.laysCompact:Go.Proofs.Lays2.n20 Tryz.prog Tryz.laysCompact_ren:={
 mixed:=by kernel_rfl
 f20:=Tryz.func195.trans (congrArg some (by kernel_rfl))
 t0:=Tryz.underlying0
 a0:=Tryz.isAgg0
 z0:=Tryz.sizeOf0
 v0:=Tryz.zeroValue0
 t3:=Tryz.underlying3
 a3:=Tryz.isAgg3
 z3:=Tryz.sizeOf3
 v3:=Tryz.zeroValue3
 t4:=Tryz.underlying4
 a4:=Tryz.isAgg4
 z4:=Tryz.sizeOf4
 v4:=Tryz.zeroValue4
 t22:=Tryz.underlying71
 a22:=Tryz.isAgg71
 z22:=Tryz.sizeOf71
 v22:=Tryz.zeroValue71
 i3:=by kernel_rfl}
end Go.Proofs
namespace Go.Proofs.YtmhifeahpnkpiaaGreatDoor
open Go.RowKit
def cV(L:tF)(k:Nat):List Int:=(List.range k).map fun i=>L.getD (4*i+2) 0
def cD(R:tF)(k:Nat):List Int:=(List.range k).map fun i=>R.getD (2*i) 0
def fH(L:tF)(ln:Nat)(R:tF)(rn:Nat):List Int:=cV L ln++cD R rn
theorem CA(L:tF)(k:Nat):(cV L k).length=k:=by simp[cV]
theorem CB(R:tF)(k:Nat):(cD R k).length=k:=by simp[cD]
theorem qQ(L:tF)(k:Nat):cV L (k+1)=cV L k++[L.getD (4*k+2) 0]:=by
 simp[cV,List.range_succ]
theorem zK(R:tF)(k:Nat):cD R (k+1)=cD R k++[R.getD (2*k) 0]:=by
 simp[cD,List.range_succ]
theorem Lv(L:tF)(ln:Nat)(R:tF)(rn:Nat):(fH L ln R rn).length=ln+rn:=by simp[fH,CA,CB]
theorem xq(L:tF)(ln:Nat)(R:tF)(k:Nat):fH L ln R (k+1)=fH L ln R k++[R.getD (2*k) 0]:=by
 simp[fH,zK]
theorem Hi(L:tF)(ln:Nat)(R:tF):fH L ln R 0=cV L ln:=by simp[fH,cD]
theorem kT(l:tF)(hw:∀u∈l,(Lit.int .i64 u).wf=true)(i:Nat):(Lit.int .i64 (l.getD i 0)).wf=true:=by
 rcases Nat.lt_or_ge i l.length with h|h
 ·rw[List.getD_eq_getElem?_getD,List.getElem?_eq_getElem h];exact hw _ (List.getElem_mem h)
 ·rw[List.getD_eq_getElem?_getD,List.getElem?_eq_none h];decide
theorem Lw(l:tF):(l.mergeSort fun x y=>decide (x≤y)).Pairwise (fun x y=>x≤y):=by
 have h:=List.pairwise_mergeSort (le:=fun x y:Int=>decide (x≤y)) (fun a b c h1 h2=>by simp at*;omega) (fun a b=>by simp;omega) l;exact h.imp (fun h=>by simpa using h)
theorem Es(s:tF)(hs:s.Pairwise (fun x y=>x≤y)):(Lib.compact s).length<s.length↔¬s.Nodup:=by
 have e:(Lib.compact s).length=((List.range s.length).filter (Lib.keeps s.toArray)).length:=by simp[Lib.compact,Lib.compactUpTo]
 have e2:(Lib.compact s).length<s.length↔∃j,j<s.length∧Lib.keeps s.toArray j=false:=by
  rw[e]
  conv=>lhs;rhs;rw[←List.length_range (n:=s.length)]
  rw[List.length_filter_lt_length_iff_exists];simp
 rw[e2];have hp:=List.pairwise_iff_getElem.1 hs;constructor
 ·rintro⟨j,hj,hk⟩ hn;have sf:=List.pairwise_iff_getElem.1 hn;simp only[Lib.keeps,decide_eq_false_iff_not,not_or,Decidable.not_not]at hk;have h0:0<j:=by omega
  have:=sf (j-1) j (by omega) hj (by omega);have e1:s.toArray[j]! =s[j]:=by rw[getElem!_pos s.toArray j (by simpa using hj)];simp
  have e2:s.toArray[j-1]! =s[j-1]'(by omega):=by rw[getElem!_pos s.toArray (j-1) (by simp;omega)];simp
  have h2:=hk.2;rw[e1,e2]at h2;exact this h2.symm
 ·intro hn;rcases Classical.em (∃j,j<s.length∧Lib.keeps s.toArray j=false)with h|h
  ·exact h
  ·refine absurd (List.pairwise_iff_getElem.2 fun i j hi hj hij=> ?_) hn;intro he;refine h ⟨j,hj, ?_⟩;have h1:s[i]≤s[j-1]'(by omega):=by
    rcases Nat.lt_or_ge i (j-1)with h'|h'
    ·exact hp i (j-1) hi (by omega) h'
    ·have:i=j-1:=by omega
     subst this;exact Int.le_refl _
   have h2:s[j-1]'(by omega)≤s[j]:=hp (j-1) j (by omega) hj (by omega);have h3:s[j]=s[j-1]'(by omega):=by omega
   simp only[Lib.keeps,decide_eq_false_iff_not,not_or,Decidable.not_not];refine⟨by omega, ?_⟩;have e1:s.toArray[j]! =s[j]:=by rw[getElem!_pos s.toArray j (by simpa using hj)];simp
   have e2:s.toArray[j-1]! =s[j-1]'(by omega):=by rw[getElem!_pos s.toArray (j-1) (by simp;omega)];simp
   rw[e1,e2];exact h3
def xr(l:tF):Bool:=decide (¬l.Nodup)
theorem Tk(l:tF)(c n:Nat)(hc:c=(Lib.compact (l.mergeSort fun x y=>decide (x≤y))).length)(hn:n=l.length):decide ((c:Int)<(n:Int))=xr l:=by
 have h1:=Es _ (Lw l);rw[List.length_mergeSort,←hc,←hn,(List.mergeSort_perm l _).nodup_iff]at h1;unfold xr;rw[decide_eq_decide];rw[←h1];omega
theorem Et(zs:tF)(k:Nat)(h:k<zs.length):zs.getD k 0∈zs:=by
 rw[List.getD_eq_getElem?_getD,List.getElem?_eq_getElem h];exact List.getElem_mem h
theorem Tryz.O4:(Tryz.prog.info? 5).map (fun i=>(i.zero,i.size,i.bytes))=some (some (.int .u8 0),1,1):=by kernel_rfl
def four(n:Int):List Int:=[n/16777216,n/65536 % 256,n/256 % 256,n % 256]
def dZ(l:tF):List Int:=l.flatMap four
theorem Hj(zs:tF)(k:Nat)(h:k<zs.length):dZ (zs.take (k+1))=dZ (zs.take k)++four (zs.getD k 0):=by
 rw[List.take_succ_eq_append_getElem h];simp only[dZ,List.flatMap_append,List.flatMap_cons,List.flatMap_nil,List.append_nil];simp[h]
theorem mT(zs:tF):(dZ zs).length=4*zs.length:=by
 induction zs with
 |nil=>rfl
 |cons z zs ih=>simp only[dZ,List.flatMap_cons,List.length_append,List.length_cons]at*;rw[ih];simp[four];omega
theorem Tm(n:Int)(h0:0≤n)(h1:n≤2147483647):∀u∈four n,(Lit.int .u8 u).wf=true:=by
 intro u hu;simp only[four,List.mem_cons,List.not_mem_nil,or_false]at hu;rcases hu with rfl|rfl|rfl|rfl<;>exact WalkArith.wf_u8 (by omega)
theorem O8(zs:tF)(hr:∀n∈zs,0≤n∧n≤2147483647):∀u∈dZ zs,(Lit.int .u8 u).wf=true:=by
 intro u hu;simp only[dZ,List.mem_flatMap]at hu;obtain⟨n,hn,hu⟩:=hu;exact Tm n (hr n hn).1 (hr n hn).2 u hu
theorem JL(b off cap:Nat)(zs:tF)(w:tA)(hb:b<w.heap.size)(hlen:zs.length≤1000)
  (hr:∀n∈zs,0≤n∧n≤2147483647)
  (hc:∀k,k<zs.length→w.cell? ⟨b,off+k,none⟩=some (iV (zs.getD k 0))):
  cA 210 #[.slice (some ⟨b,off,none⟩) zs.length cap] w fun e w'=>
   e= .returned (.slice (some ⟨w.heap.size,0,none⟩) (4*zs.length) (4*zs.length))∧
   RowK .u8 w' (some ⟨w.heap.size,0,none⟩) (4*zs.length) (dZ zs)∧
   bZ w w':=by
 obtain⟨i0,hi,AU,vZ,uz⟩:=info_parts Tryz.O4;go_enter Tryz.func210,Tryz.ntmps210
 go_wp2_with (at_make;refine wpList_make_own _ rfl _ _ 122 rfl w.heap.size 5 i0 (.int .u8 0) 1 Tryz.underlying122 hi AU vZ _ _ _ (4*zs.length) rfl rfl (by omega) (by rw[uz];omega) (by unfold maxLen;omega) (Nat.le_refl _) ?_;intro w1 hown1 hgrow1)
 go_loopw [3,12] (fun v i wr=>∃k:Nat,k≤zs.length∧i=iV k∧v= .slice (some ⟨w.heap.size,0,none⟩) (4*k) (4*zs.length)∧
   wr.ownsRow w.heap.size 5 1 (.slice (some ⟨w.heap.size,0,none⟩) (4*k) (4*zs.length)) (4*k) ((dZ (zs.take k)).map (Value.int .u8))∧bZ w wr)
  (fun _ i _=>zs.length-(intOf i).toNat)
 case atStart=>exact⟨0,Nat.zero_le _,rfl,rfl,by simpa[dZ]using hown1,(Below.refl _ _).grown hgrow1 (Nat.le_refl _) (by simp)⟩
 case round=>
  obtain⟨k,hk,rfl,rfl,bK,gF⟩:=hrel;by_cases aL:k<zs.length
  ·have Za:wr.cell? ⟨b,off+k,none⟩=some (iV (zs.getD k 0)):=(gF.cell (by exact hb)).trans (hc k aL);have hn:=hr (zs.getD k 0) (Et zs k aL);generalize hx:zs.getD k 0=n at Za hn;have HX:Hid (zs.getD k 0=n):=hx;clear hx;obtain⟨Hk,sH⟩:=hn
   go_wp2_with (at_builtin;refine wpList_append_fits _ rfl _ _ 122 rfl w.heap.size 5 i0 1 Tryz.underlying122 hi vZ _ _ _ _ rfl (bK.alloc _) ⟨wr.heap.size,0,none⟩ 4 4 ((four n).map (Value.int .u8)) rfl rfl ?c1 (ints_oneCell _ _) (by omega) ?_;rotate_right;intro w2 hown2 hgrow2)
   case c1=>
    intro j u hj
    match j,hj with
    |0,hj=>simp[four]at hj;subst hj;simp[Addr.add]
    |1,hj=>simp[four]at hj;subst hj;simp[Addr.add]
    |2,hj=>simp[four]at hj;subst hj;simp[Addr.add]
    |3,hj=>simp[four]at hj;subst hj;simp[Addr.add]
    |(j+4),hj=>simp[four]at hj
   have R1:Hid (w2.ownsRow w.heap.size 5 1 (.slice (some ⟨w.heap.size,0,none⟩) (4*(k+1)) (4*zs.length)) (4*(k+1)) ((dZ (zs.take (k+1))).map (Value.int .u8))):=by
    rw[Hj zs k aL,HX.out,List.map_append];exact hown2
   have R2:bZ w w2:=(gF.alloc gF.size _).grown hgrow2 (by have:=gF.size;simp;omega) (by intro k hk;simp at hk;omega);clear hown2 hgrow2 bK Za;go_wp2
   go_roundw
   case rel=>exact⟨k+1,by omega,by go_num,by rfl,R1.out,R2⟩
   case measure=>simp[intOf];omega
  ·have j4:k=zs.length:=by omega
   subst j4;go_wp2;go_ret;exact⟨rfl,RowK.Jw (by simpa using bK) (mT zs) (O8 zs hr),gF⟩
theorem O9(base:Nat)(v:tJ)(n:Nat)(l:tF)(w:tA)(h:w.ownsRow base 3 1 v n (l.map (Value.int .i64)))(hn:n<4611686018427387904):
  cA 194 #[v] w fun e w'=>e= .returned (.tuple #[])∧w'.ownsRow base 3 1 v n ((l.mergeSort fun x y=>decide (x≤y)).map (Value.int .i64))∧w.grownBy w' v.ownBlock:=by
 have hl:l.length=n:=by simpa using h.1
 rcases h.2 with⟨rfl,rfl⟩|⟨g,cap,cur,rfl,hb,hg,hc,hm,hs,ht⟩
 ·have GQ:l=[]:=List.length_eq_zero_iff.1 hl;subst GQ;refine(Any.slices_Sort_int_none Tryz.laysSort none 0 w).mono ?_;rintro e w' ⟨rfl,rfl⟩;exact⟨rfl,by simpa using World.ownsRow_nil _ _ _ _,World.grownBy.refl _ _⟩
 ·subst hl;obtain⟨g',bh,he,_,JM,_,_,_,hH⟩:=Lib.holds_of_ownsRow h (by simp);injection he with e1 _ e3
  injection e1 with e1
  injection e1 with e1
  subst e1;subst e3;refine(Any.slices_Sort_int Tryz.laysSort g 0 cap l w hH JM hn).mono ?_;rintro e w' ⟨rfl,nn,os,rfl⟩;exact⟨rfl,Go.ownsRow_sortedI (List.length_mergeSort l) hb hg hc hm hs,Go.grownBy_sortedI _⟩
theorem CC{w:tA}{g q:Nat}(d:Array Int):w.grownBy (Go.Sort.putRow (Value.int .i64) (Go.Sort.ahead w q) g 0 d) (some g):=by
 refine⟨rfl,rfl,rfl,by simp[Go.Sort.putRow,Go.Sort.mapBlock,Go.Sort.ahead],fun k hk fw=> ?_⟩;have:g≠k:=fun e=>fw (by rw[e]);simp[Go.Sort.putRow,Go.Sort.mapBlock,Go.Sort.ahead,Array.getElem?_modify,this]
theorem Eu(base:Nat)(v:tJ)(n:Nat)(l:tF)(w:tA)(h:w.ownsRow base 3 1 v n (l.map (Value.int .i64)))(hn:n<4611686018427387904):
  cA 195 #[v] w fun e w'=>∃a c cap,e= .returned (.slice a c cap)∧w.grownBy w' v.ownBlock∧c≤cap∧Hid (c=(Lib.compact l).length):=by
 have hl:l.length=n:=by simpa using h.1
 rcases h.2 with⟨rfl,rfl⟩|⟨g,cap,cur,rfl,hb,hg,hc,hm,hs,ht⟩
 ·have GQ:l=[]:=List.length_eq_zero_iff.1 hl;subst GQ;refine(Any.slices_Compact_int_empty Tryz.laysCompact none 0 w).mono ?_;rintro e w' ⟨rfl,rfl⟩;exact⟨none,0,0,rfl,World.grownBy.refl _ _,Nat.le_refl _,ah (by simp[Lib.compact,Lib.compactUpTo])⟩
 ·subst hl;obtain⟨g',bh,he,_,JM,_,_,_,hH⟩:=Lib.holds_of_ownsRow h (by simp);injection he with e1 _ e3
  injection e1 with e1
  injection e1 with e1
  subst e1;subst e3;refine(Any.slices_Compact_int Tryz.laysCompact g 0 cap l w hH (by omega) hc).mono ?_;rintro e w' ⟨rfl,q,rfl⟩;exact⟨_,_,cap,rfl,CC _,Nat.le_trans (Lib.compact_length_le l) hc,ah rfl⟩
theorem Tryz.To:(Tryz.prog.info? 3).map (fun i=>(i.zero,i.size,i.bytes))=some (some (iV 0),1,8):=by kernel_rfl
theorem gZ{P:tS}{e:tT}{z:tJ}{s b:Nat}(h:(P.info? e).map (fun i=>(i.zero,i.size,i.bytes))=some (some z,s,b)):∃i,P.info? e=some i∧i.zero=some z∧i.size=s∧i.bytes=b:=by
 obtain⟨i,hi,hzz⟩:=Option.map_eq_some_iff.1 h;simp only[Prod.mk.injEq]at hzz;exact⟨i,hi,hzz.1,hzz.2.1,hzz.2.2⟩
theorem AW(w:tA)(A:Obj)(v:tJ)(t:tT):∀j u,([v]:tK)[j]? =some u→((w.alloc A).alloc (.cells #[v] t)).cell? ((⟨w.heap.size+1,0,none⟩:Addr).add j)=some u:=by
 intro j u hj;have:=cell_one_new (w.alloc A) v t j u hj;simpa using this
theorem AX(ep nx gv:Int)(ra la:tB)(rn rc ln lc:Nat)(R L:tF)(ws:tC)(w:tA)(hR:RowK .i64 w ra (2*rn) R)(hL:RowK .i64 w la (4*ln) L)(hs:rn+ln≤500):
    cA 153 #[ik ep nx gv (.slice ra rn rc) (.slice la ln lc) ws] w (rB (.bool (xr (fH L ln R rn))) w):=by
  obtain⟨i0,hi,AU,vZ,uz⟩:=gZ Tryz.To;obtain⟨W,hW,qb0,B0,S0⟩:=aac w ep nx gv (.slice ra rn rc) (.slice la ln lc) ws;have q0:=qb0;rw[hW]at q0;go_enter Tryz.func153,Tryz.ntmps153
  go_wp2_with (first
    |(refine Cx _ rfl rfl rfl (by assumption) ?_)
    |(go_at_call 150;refine(oh _ _ _ _ _ _ _ _ _ _ _ (by omega)).mono ?_;rintro e w1 ⟨rfl,b1⟩
      have l9:Below (w.heap.size+1) W w1:=by rw[hW];simpa using b1
      obtain⟨c0,c1,c2,c3,c4⟩:=(qb0.below l9 (by omega)).heads
      clear b1 q0)
    |(at_make;refine wpList_make_own _ rfl _ _ 71 rfl (w.heap.size+1) 3 i0 (iV 0) 1 Tryz.underlying71 hi AU vZ _ _ _ (rn+ln) rfl rfl (by omega) (by rw[uz];omega) (by unfold maxLen;omega) (by have:=l9.size;omega) ?_;intro w2 hown1 hgrow1
      have AN:Below (w.heap.size+1) W w2:=l9.grown hgrow1 (by have:=l9.size;omega) (by simp);clear c0 c1 c2 c3 c4;obtain⟨c0,c1,c2,c3,c4⟩:=(qb0.below AN (by omega)).heads
      clear l9 hgrow1))
  clear c0 c1 c2 c3 c4 hW
  go_loopw [3,14] (fun v t wr=>∃k:Nat,k≤ln∧t=iV k∧wr.ownsRow (w.heap.size+1) 3 1 v k ((cV L k).map (Value.int .i64))∧Below (w.heap.size+1) W wr) (fun _ t _=>ln-(intOf t).toNat)
  case atStart=>exact⟨0,Nat.zero_le _,rfl,by simpa[cV]using hown1,AN⟩
  case round=>
    obtain⟨k,hk,rfl,bK,hb⟩:=hrel;clear hown1 AN;have ij:w.heap.size+1≤wr.heap.size:=by have:=hb.size;omega
    have Tp:bZ w wr:=B0.trans (hb.mono (by omega));by_cases aL:k<ln
    ·have rL:=hL.below Tp;have HBw:=ah Tp;have HB:=ah hb;clear Tp hb;obtain⟨b,off,rfl⟩:=hL.form (by omega);obtain⟨x0,hx0⟩:∃x,x=L.getD (4*k) 0:=⟨_,rfl⟩;obtain⟨x1,hx1⟩:∃x,x=L.getD (4*k+1) 0:=⟨_,rfl⟩;obtain⟨x2,hx2⟩:∃x,x=L.getD (4*k+2) 0:=⟨_,rfl⟩;obtain⟨x3,hx3⟩:∃x,x=L.getD (4*k+3) 0:=⟨_,rfl⟩;have k0:wr.cell? ⟨b,off+k*4,none⟩=some (iV x0):=by rw[Nat.mul_comm k 4,hx0];exact rL.at (4*k) (by omega)
     have k1:wr.cell? ⟨b,off+k*4+1,none⟩=some (iV x1):=by rw[Nat.mul_comm k 4,hx1];exact rL.at (4*k+1) (by omega)
     have k2:wr.cell? ⟨b,off+k*4+2,none⟩=some (iV x2):=by rw[Nat.mul_comm k 4,hx2];exact rL.at (4*k+2) (by omega)
     have k3:wr.cell? ⟨b,off+k*4+3,none⟩=some (iV x3):=by rw[Nat.mul_comm k 4,hx3];exact rL.at (4*k+3) (by omega)
     have X:Hid (x2=L.getD (4*k+2) 0):=ah hx2;clear rL hx0 hx1 hx2 hx3
     go_wp2_with (at_builtin;refine wpList_append_own _ rfl _ _ 71 rfl (w.heap.size+1) 3 i0 (iV 0) 1 8 Tryz.underlying71 hi AU vZ uz rfl (by decide) _ _ _ rfl ((bK.alloc _).alloc _) ⟨wr.heap.size+1,0,none⟩ 1 1 [iV x2] rfl rfl (AW _ _ _ _) (ints_oneCell .i64 [x2]) (by unfold maxLen;omega) (by omega) (by simp;omega) ?_;intro v' w4 hown4 hgrow4 _)
     have R1:Hid (w4.ownsRow (w.heap.size+1) 3 1 v' (k+1) ((cV L (k+1)).map (Value.int .i64))):=ah (by
       rw[qQ,List.map_append,←aa X];exact hown4)
     have R2:Hid (Below (w.heap.size+1) W w4):=ah ((((aa HB).alloc ij _).alloc (by simp;omega) _).grown hgrow4 (by simp;omega) (by intro t ht;exact(bK.lt t ht).1));clear hown4 hgrow4 bK k0 k1 k2 k3;go_wp2
     go_roundw
     case rel=>exact⟨k+1,by omega,by go_num,aa R1,aa R2⟩
     case measure=>simp[intOf];omega
    ·obtain rfl:k=ln:=by omega
     obtain⟨c0,c1,c2,c3,c4⟩:=(qb0.below hb (by omega)).heads;have O_:=bK;rw[←Hi L k R]at O_;clear bK
     go_wp2_with fail
     clear c0 c1 c2 c3 c4
     go_loopw [3,28] (fun v t wr=>∃j:Nat,j≤rn∧t=iV j∧wr.ownsRow (w.heap.size+1) 3 1 v (k+j) ((fH L k R j).map (Value.int .i64))∧Below (w.heap.size+1) W wr) (fun _ t _=>rn-(intOf t).toNat)
     case atStart=>exact⟨0,Nat.zero_le _,rfl,O_,hb⟩
     case round=>
       obtain⟨j,hj,rfl,bK,hb'⟩:=hrel;clear O_ hb Tp;have aae:w.heap.size+1≤wr.heap.size:=by have:=hb'.size;omega
       have Tp:bZ w wr:=B0.trans (hb'.mono (by omega));by_cases aL:j<rn
       ·have rR:=hR.below Tp;have HBw:=ah Tp;have HB:=ah hb';clear Tp hb';obtain⟨b,off,rfl⟩:=hR.form (by omega);obtain⟨x0,hx0⟩:∃x,x=R.getD (2*j) 0:=⟨_,rfl⟩;obtain⟨x1,hx1⟩:∃x,x=R.getD (2*j+1) 0:=⟨_,rfl⟩;have k0:wr.cell? ⟨b,off+j*2,none⟩=some (iV x0):=by rw[Nat.mul_comm j 2,hx0];exact rR.at (2*j) (by omega)
        have k1:wr.cell? ⟨b,off+j*2+1,none⟩=some (iV x1):=by rw[Nat.mul_comm j 2,hx1];exact rR.at (2*j+1) (by omega)
        have X:Hid (x0=R.getD (2*j) 0):=ah hx0;clear rR hx0 hx1
        go_wp2_with (at_builtin;refine wpList_append_own _ rfl _ _ 71 rfl (w.heap.size+1) 3 i0 (iV 0) 1 8 Tryz.underlying71 hi AU vZ uz rfl (by decide) _ _ _ rfl ((bK.alloc _).alloc _) ⟨wr.heap.size+1,0,none⟩ 1 1 [iV x0] rfl rfl (AW _ _ _ _) (ints_oneCell .i64 [x0]) (by unfold maxLen;omega) (by omega) (by simp;omega) ?_;intro v' w4 hown4 hgrow4 _)
        have R1:Hid (w4.ownsRow (w.heap.size+1) 3 1 v' (k+(j+1)) ((fH L k R (j+1)).map (Value.int .i64))):=ah (by
          rw[xq,List.map_append,←aa X];exact hown4)
        have R2:Hid (Below (w.heap.size+1) W w4):=ah ((((aa HB).alloc aae _).alloc (by simp;omega) _).grown hgrow4 (by simp;omega) (by intro t ht;exact(bK.lt t ht).1));clear hown4 hgrow4 bK k0 k1;go_wp2
        go_roundw
        case rel=>exact⟨j+1,by omega,by go_num,aa R1,aa R2⟩
        case measure=>simp[intOf];omega
       ·obtain rfl:j=rn:=by omega
        have hn:k+j<4611686018427387904:=by omega
        clear hR hL;have HB:=ah hb';have HO:=ah bK;clear hb' bK Tp
        go_wp2_with (go_at_call 194;refine(O9 _ _ _ _ _ (aa HO) hn).mono ?_;rintro e w5 ⟨rfl,hown5,hgrow5⟩)
        have Oe:Below (w.heap.size+1) W w5:=(aa HB).grown hgrow5 aae (by intro t ht;exact((aa HO).lt t ht).1);have O5:=ah hown5;clear hown5 hgrow5 HO HB;have q5:=qb0.below Oe (by omega);refine wp_region_held_drew (S:=fun w'=>aV w' w.heap.size ep nx gv (.slice ra j rc) (.slice la k lc) ws) (by kernel_rfl) q5 (fun hHeld=> ?_);refine wpAnyH_take (i:=0) (v:=_) rfl (by kernel_rfl) (by kernel_rfl) (by kernel_rfl) (fun _ _ _ h=>h) (Or.inl ⟨by rfl,fun _ _=>rfl⟩) hHeld ?_;simp only[List.getElem_toArray,List.getElem_cons_zero,Act.put,List.setIfInBounds_toArray,List.set_cons_zero,List.set_cons_succ];refine wpAnyH_take (i:=3) (v:=_) rfl (by kernel_rfl) (by kernel_rfl) (by kernel_rfl) (fun _ _ _ h=>h) (OY _ rfl rfl rfl (fun _ h=>h)) hHeld ?_;simp only[List.getElem_toArray,List.getElem_cons_zero,List.getElem_cons_succ,Act.put,List.setIfInBounds_toArray,List.set_cons_zero,List.set_cons_succ];refine wpAnyH_ready (rs:=[1]) (by kernel_rfl) (by simp) ?_;refine AllReadyH.cons rfl (fun K hK=> ?_) AllReadyH.nil;simp only[List.getElem_toArray,List.getElem_cons_zero,List.getElem_cons_succ];go_simp;refine(Eu (w.heap.size+1) _ (k+j) _ w5.drew (aa O5) hn).mono ?_;rintro e w6 ⟨a6,c,cap6,rfl,g6,h6,C6⟩;have hb6:Below (w.heap.size+1) W w6:=(show Below (w.heap.size+1) W w5.drew from⟨Oe.os,Oe.tape,Oe.output,Oe.size,Oe.block⟩).grown g6 (by have:=Oe.size;simp;omega) (by intro t ht;exact((aa O5).lt t ht).1);have q6:=qb0.below hb6 (by omega);refine hK.out _ _ q6 (fun hHeld=> ?_);clear hK K g6;refine wpAnyH_take (i:=2) (v:=iV (c:Int)) rfl (by kernel_rfl) (by kernel_rfl) (by kernel_rfl) (fun _ _ _ h=>h) (Or.inl ⟨by rfl,fun _ _=>by go_simp⟩) hHeld ?_;simp only[List.getElem_toArray,List.getElem_cons_zero,List.getElem_cons_succ,Act.put,List.setIfInBounds_toArray,List.set_cons_zero,List.set_cons_succ];refine wpAnyH_ready (rs:=[4]) (by kernel_rfl) (by simp) ?_;refine AllReadyH.cons rfl (fun K hK=> ?_) AllReadyH.nil;simp only[List.getElem_toArray,List.getElem_cons_zero,List.getElem_cons_succ];go_simp;refine(oh _ _ _ _ _ _ _ _ _ _ _ (by omega)).mono ?_;rintro e w7 ⟨rfl,b7⟩;refine hK.out _ _ (q6.next b7) (fun hHeld=> ?_);clear hK K;refine wpAnyH_take (i:=5) (v:= .bool (decide ((c:Int)<((j+k:Nat):Int)))) rfl (by kernel_rfl) (by kernel_rfl) (by kernel_rfl) (fun _ _ _ h=>h) (Or.inl ⟨by rfl,fun _ _=>by go_simp⟩) hHeld ?_;simp only[List.getElem_toArray,List.getElem_cons_zero,List.getElem_cons_succ,Act.put,List.setIfInBounds_toArray,List.set_cons_zero,List.set_cons_succ];refine wpAnyH_take (i:=6) (v:= .bool (decide ((c:Int)<((j+k:Nat):Int)))) rfl (by kernel_rfl) (by kernel_rfl) (by kernel_rfl) (fun _ _ _ h=>h) (Or.inl ⟨by rfl,fun _ _=>by go_simp⟩) hHeld ?_;simp only[List.getElem_toArray,List.getElem_cons_zero,List.getElem_cons_succ,Act.put,List.setIfInBounds_toArray,List.set_cons_zero,List.set_cons_succ];refine wpAnyH_done (by kernel_rfl) ?_ _;have hd:=Tk (fH L k R j) c (j+k) (aa C6) (by rw[Lv];omega);rw[hd];clear hd;have hb7:bZ w w7:=B0.trans ((hb6.trans (b7.mono (by have:=hb6.size;omega))).mono (by omega));have Pa:=ah hb7;clear hb7 hb6 Oe q6 q5 b7 hHeld;go_wp2;go_ret;exact⟨rfl,aa Pa⟩
section
open Rv
def Ew(R:tF)(k:Nat):Int:=if k=0 then-1 else R.getD (2*(k-1)) 0
structure wM(nx:Int)(R:tF)(i:Nat):Prop where
 CD:(rG (R.getD (2*i) 0) (nx-1)&&rG (R.getD (2*i+1) 0) 1000000)=true
 Hf:Ew R i<R.getD (2*i) 0
def uC(nx:Int)(L:tF)(i:Nat):Prop:=(rG (L.getD (4*i+2) 0) (nx-1)&&rG (L.getD (4*i+3) 0) 1000000)=true
structure xt(nx:Int)(R:tF)(rn:Nat)(L:tF)(ln:Nat):Prop where
 ready:∀i,i<rn→wM nx R i
 CD:∀i,i<ln→uC nx L i
 apart:xr (fH L ln R rn)=false
noncomputable def qR(nx:Int)(R:tF)(rn:Nat)(L:tF)(ln:Nat):Bool:= @decide (xt nx R rn L ln) (Classical.propDecidable _)
theorem Lx{nx:Int}{R:tF}{rn:Nat}{L:tF}{ln:Nat}(h:xt nx R rn L ln):qR nx R rn L ln=true:=by
 unfold qR;exact @decide_eq_true _ (Classical.propDecidable _) h
theorem xu{nx:Int}{R:tF}{rn:Nat}{L:tF}{ln:Nat}(h:¬xt nx R rn L ln):qR nx R rn L ln=false:=by
 unfold qR;exact @decide_eq_false _ (Classical.propDecidable _) h
theorem Ly{nx:Int}{R:tF}{rn:Nat}{L:tF}{ln:Nat}:qR nx R rn L ln=true↔xt nx R rn L ln:=by
 unfold qR;exact @decide_eq_true_iff _ (Classical.propDecidable _)
theorem Ex(ep nx gv:Int)(ra la:tB)(rn rc ln lc:Nat)(R L:tF)(ws:tC)(w:tA)(hR:RowK .i64 w ra (2*rn) R)(hL:RowK .i64 w la (4*ln) L)(hs:rn+ln≤500)(Hk:0≤nx)(sH:nx≤1073741824):
  cA 99 #[ik ep nx gv (.slice ra rn rc) (.slice la ln lc) ws] w (rB (.bool (qR nx R rn L ln)) w):=by
 refine en (H:=[]) _ [vg (qS ep nx gv (.slice ra rn rc) (.slice la ln lc) ws)] Tryz.func99 rfl rfl (m0 w) (r [] rfl fun α=> ?_);refine ic (X:=Nat) ⟨fun k=>[(1,vp 0 0 (α 0)),(3,vi (Ew R k)),(9,vv (.slice ra rn rc)),(10,vi (rn:Int)),(11,vi (k:Int))],fun _=>[⟨α 0,80,qS ep nx gv (.slice ra rn rc) (.slice la ln lc) ws⟩],fun _ _=>False,fun _ _=>True,fun _ w'=>bZ w w',fun k=>k≤rn∧∀i,i<k→wM nx R i,fun k=>rn-k⟩ 0 ⟨rfl,rfl,rfl,rfl,rfl,trivial⟩ (fun _ hS=>hS) ⟨Nat.zero_le _,fun p hp=>absurd hp (Nat.not_lt_zero p)⟩ ?_;rintro f k ⟨hk,hi⟩;have hk:k≤rn:=hk;by_cases aL:k<rn
 case pos=>
  obtain⟨rb,ro,rfl⟩:=hR.form (by omega);have no:¬wM nx R k→qR nx R rn L ln=false:=fun h=>xu fun h'=>h (h'.ready k aL);refine r [1] rfl fun _=>lf (q:=ro+k*2) rfl 2 (cK (mS R k)) (fun w hS=>adm (hR.below hS.now.2) (by omega)) (r [] rfl fun _=> ?_);cases h1:rG (R.getD (2*k) 0) (nx-1)&&rG (R.getD (2*k+1) 0) 1000000
  ·exact Rv.cb rfl (vv (.bool false)) (fun w _=>h1▸mj ep nx gv _ _ ws _ _ w Hk sH) (r [] rfl fun _=>fin fun w hS=>⟨by rw[no fun h=>by rw[h.CD]at h1;cases h1];rfl,hS.now.2⟩)
  refine Rv.cb rfl (vv (.bool true)) (fun w _=>h1▸mj ep nx gv _ _ ws _ _ w Hk sH) (r [] rfl fun _=> ?_);by_cases h3:R.getD (2*k) 0≤Ew R k
  ·exact r [1] rfl fun _=>fin fun w hS=>⟨by rw[no fun h=>absurd h.Hf (Int.not_lt.2 h3)];rfl,hS.now.2⟩
  refine rz [0,1] [((k+1:Nat):Int)] rfl fun _=>bU (k+1) ⟨rfl,rfl,rfl,rfl,rfl,trivial⟩ (fun w hS=>hS.take 1) ⟨aL,upto hi ⟨h1,Int.not_le.1 h3⟩⟩ (show rn-(k+1)<rn-k by omega)
 obtain rfl:k=rn:=by omega
 refine r [0] rfl fun _=>ic (X:=Nat) ⟨fun j=>[(1,vp 0 0 (α 0)),(29,vv (.slice la ln lc)),(30,vi (ln:Int)),(31,vi (j:Int))],fun _=>[⟨α 0,80,qS ep nx gv (.slice ra k rc) (.slice la ln lc) ws⟩],fun _ _=>False,fun _ _=>True,fun _ w'=>bZ w w',fun j=>j≤ln∧∀i,i<j→uC nx L i,fun j=>ln-j⟩ 0 ⟨rfl,rfl,rfl,rfl,trivial⟩ (fun _ hS=>hS) ⟨Nat.zero_le _,fun p hp=>absurd hp (Nat.not_lt_zero p)⟩ ?_;rintro f j ⟨hj,hc⟩;have hj:j≤ln:=hj;by_cases aL:j<ln
 case pos=>
  obtain⟨lb,lo,rfl⟩:=hL.form (by omega);refine r [1] rfl fun _=>lf (q:=lo+j*4) rfl 4 (cK (lS L j)) (fun w hS=>aab (hL.below hS.now.2) (by omega)) (r [] rfl fun _=> ?_);cases h1:rG (L.getD (4*j+2) 0) (nx-1)&&rG (L.getD (4*j+3) 0) 1000000
  ·exact Rv.cb rfl (vv (.bool false)) (fun w _=>h1▸mj ep nx gv _ _ ws _ _ w Hk sH) (r [] rfl fun _=>fin fun w hS=>⟨by rw[xu fun h'=>by have:=h'.CD j aL;unfold uC at this;rw[this]at h1;cases h1];rfl,hS.now.2⟩)
  refine Rv.cb rfl (vv (.bool true)) (fun w _=>h1▸mj ep nx gv _ _ ws _ _ w Hk sH) (rz [1] [((j+1:Nat):Int)] rfl fun _=>bU (j+1) ⟨rfl,rfl,rfl,rfl,trivial⟩ (fun w hS=>hS.take 1) ⟨aL,upto hc h1⟩ (show ln-(j+1)<ln-j by omega))
 obtain rfl:j=ln:=by omega
 refine r [0] rfl fun _=> ?_;cases h1:xr (fH L j R k)
 ·exact Rv.cb rfl (vv (.bool false)) (fun w hS=>h1▸AX ep nx gv ra la k rc j lc R L ws w (hR.below hS.now.2) (hL.below hS.now.2) hs) (r [] rfl fun _=>fin fun w hS=>⟨by rw[Lx ⟨hi,hc,h1⟩];rfl,hS.now.2⟩)
 ·exact Rv.cb rfl (vv (.bool true)) (fun w hS=>h1▸AX ep nx gv ra la k rc j lc R L ws w (hR.below hS.now.2) (hL.below hS.now.2) hs) (r [] rfl fun _=>fin fun w hS=>⟨by rw[xu fun h=>by rw[h.apart]at h1;cases h1];rfl,hS.now.2⟩)
def CE(ep nx gv:Int)(rn ln:Nat):Bool:=rG ep 1048576&&rG nx 1073741824&&rG gv 1073741824&&decide (rn+ln≤500)
structure JN(ep nx gv:Int)(rn ln:Nat):Prop where
 e0:0≤ep
 e1:ep≤1048576
 n0:0≤nx
 n1:nx≤1073741824
 g0:0≤gv
 g1:gv≤1073741824
 sz:rn+ln≤500
theorem xv{ep nx gv:Int}{rn ln:Nat}:CE ep nx gv rn ln=true↔JN ep nx gv rn ln:=by
 unfold CE;rw[Bool.and_eq_true,Bool.and_eq_true,Bool.and_eq_true,gY,gY,gY,decide_eq_true_eq];exact⟨fun⟨⟨⟨⟨a,b⟩,c,d⟩,e,f⟩,g⟩=>⟨a,b,c,d,e,f,g⟩,fun⟨a,b,c,d,e,f,g⟩=>⟨⟨⟨⟨a,b⟩,c,d⟩,e,f⟩,g⟩⟩
structure CF(ep nx gv:Int)(R:tF)(rn:Nat)(L:tF)(ln:Nat)(wt:tG)(wz:Nat→Nat→Bool):Prop where
 count:JN ep nx gv rn ln
 Ey:∀p,p<4→fq (wt p) (wz p)
 hold:xt nx R rn L ln
 Ez:∀i,i<ln→ml ep gv L i
theorem EA(ep nx gv:Int)(ra la:tB)(rn rc ln lc:Nat)(R L:tF)(ws:tC)(wt:tG)(wz:Nat→Nat→Bool)(w:tA)(hR:RowK .i64 w ra (2*rn) R)(hL:RowK .i64 w la (4*ln) L)(hW:gE ws wt wz)
  (hs:rn+ln≤9223372036854775807) (B1 B2 B3 B4:Bool) (h1:B1=CE ep nx gv rn ln) (h2:B1=true→B2=sG wt wz) (h3:B1=true→B3=qR nx R rn L ln) (h4:B1=true→B4=mD ep gv L ln):
  cA 58 #[ik ep nx gv (.slice ra rn rc) (.slice la ln lc) ws] w (rB (iV (if B1&&B2&&B3&&B4 then 0 else 6)) w):=by
 refine en (H:=[]) _ [vg (qS ep nx gv (.slice ra rn rc) (.slice la ln lc) ws)] Tryz.func58 rfl rfl (m0 w) (r [] rfl fun _=> ?_);have XB:=fun w=>Cy ep nx gv ra la rn rc ln lc ws w hs;rw[show(rG ep 1048576&&rG nx 1073741824&&rG gv 1073741824&&decide (rn+ln≤500))=B1 from h1.symm]at XB;cases B1
 ·exact Rv.cb rfl (vv (.bool false)) (fun w _=>XB w) (r [] rfl fun _=>fin fun w hS=>⟨rfl,hS.now.2⟩)
 have ok:=xv.1 h1.symm;have XC:=fun w=>vY ep nx gv (.slice ra rn rc) (.slice la ln lc) ws wt wz w hW;rw[←h2 rfl]at XC;refine Rv.cb rfl (vv (.bool true)) (fun w _=>XB w) (r [] rfl fun _=> ?_);cases B2
 ·exact Rv.cb rfl (vv (.bool false)) (fun w _=>XC w) (r [] rfl fun _=>fin fun w hS=>⟨rfl,hS.now.2⟩)
 refine Rv.cb rfl (vv (.bool true)) (fun w _=>XC w) (r [] rfl fun _=> ?_);have hh:=fun w1 (b:bZ w w1)=>Ex ep nx gv ra la rn rc ln lc R L ws w1 (hR.below b) (hL.below b) ok.sz ok.n0 ok.n1;rw[←h3 rfl]at hh;cases B3
 ·exact Rv.cb rfl (vv (.bool false)) (fun w hS=>hh w hS.now.2) (r [] rfl fun _=>fin fun w hS=>⟨rfl,hS.now.2⟩)
 refine Rv.cb rfl (vv (.bool true)) (fun w hS=>hh w hS.now.2) (r [] rfl fun _=> ?_);have hl:=fun w1 (b:bZ w w1)=>Cz ep nx gv (.slice ra rn rc) la ln lc L ws w1 ok.g0 ok.g1 (hL.below b) (by omega);rw[←h4 rfl]at hl;cases B4
 ·exact Rv.cb rfl (vv (.bool false)) (fun w hS=>hl w hS.now.2) (r [] rfl fun _=>fin fun w hS=>⟨rfl,hS.now.2⟩)
 ·exact Rv.cb rfl (vv (.bool true)) (fun w hS=>hl w hS.now.2) (r [] rfl fun _=>fin fun w hS=>⟨rfl,hS.now.2⟩)
theorem zL{ep nx gv:Int}{R:tF}{rn:Nat}{L:tF}{ln:Nat}{wt:tG}{wz:Nat→Nat→Bool}:
  (CE ep nx gv rn ln&&sG wt wz&&qR nx R rn L ln&&mD ep gv L ln)=true↔CF ep nx gv R rn L ln wt wz:=by
 rw[Bool.and_eq_true,Bool.and_eq_true,Bool.and_eq_true,xv,Ls,Ly,Hh];exact⟨fun⟨⟨⟨a,b⟩,c⟩,d⟩=>⟨a,b,c,d⟩,fun⟨a,b,c,d⟩=>⟨⟨⟨a,b⟩,c⟩,d⟩⟩
theorem xw(ep nx gv:Int)(ra la:tB)(rn rc ln lc:Nat)(R L:tF)(ws:tC)(wt:tG)(wz:Nat→Nat→Bool)(w:tA)(hR:RowK .i64 w ra (2*rn) R)(hL:RowK .i64 w la (4*ln) L)(hW:gE ws wt wz)(h:CF ep nx gv R rn L ln wt wz):
  cA 58 #[ik ep nx gv (.slice ra rn rc) (.slice la ln lc) ws] w (rB (iV 0) w):=by
 have:=EA ep nx gv ra la rn rc ln lc R L ws wt wz w hR hL hW (by have:=h.count.sz;omega) _ _ _ _ rfl (fun _=>rfl) (fun _=>rfl) (fun _=>rfl);rwa [zL.2 h,if_pos rfl]at this
end
end Go.Proofs.YtmhifeahpnkpiaaGreatDoor
