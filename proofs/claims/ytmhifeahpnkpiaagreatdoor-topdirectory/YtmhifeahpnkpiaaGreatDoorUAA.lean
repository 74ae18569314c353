/- Out of my texts: Base, TuA, GnA, GnO, GnS, GnB, GnT, GnU, RvA, RvB, RvC, RvD, RvE, RvF, RvG, RvH, RvI, RvT, RvN, KpP, RvR, RvS, WdA, WdB, QuA, QuB, QuL, QuC, PkA, QuD, QuE, QuF. -/
import Derived.Below
import Derived.BigQuiet
import Derived.Carry
import Derived.Deep.AppendLies
import Derived.Deep.MidRow
import Derived.Deep.QuietTactic
import Derived.Deep.RegionHeld3
import Derived.Laws.AppendOwnNone
import Derived.Laws.BitsLemmas
import Derived.Laws.Tables
import Derived.Lib.OwnBridge
import Derived.OpenShut
import Derived.OrdersHeld
import Derived.ProofKit
import Derived.Shelf.Slices.CompactI
import Derived.Shelf.Slices.In.SortNone
import Derived.Shelf.Sort.Plain
import Derived.SizedLaws
import Derived.Sort.OwnSortedInts
import Derived.WalkKit
import Derived.WalkLawsBesides
import Derived.WalkSpells
import Derived.Test.YtmhifeahpnkpiaaGreatDoorProg
set_option maxRecDepth 20000
set_option maxHeartbeats 8000000
set_option linter.unusedVariables false
namespace Go.Proofs.YtmhifeahpnkpiaaGreatDoor
open Go.RowKit
abbrev Aa:= @Nat.le_refl
abbrev Ab:= @List.mem_singleton
abbrev Ac:= @List.length_append
abbrev Ae:= @Nat.zero_add
abbrev Ag:= @List.getElem?_eq_getElem
abbrev Ah:= @List.getD_eq_getElem?_getD
abbrev Ai:= @decide_eq_false
abbrev Aj:= @Nat.lt_of_lt_of_le
abbrev Ak:= @Nat.zero_le
abbrev Al:= @bodyPost_ret
abbrev Am:= @List.getElem?_eq_some_iff
abbrev Ao:= @List.mem_append
abbrev Ap:= @List.mem_of_getElem?
abbrev Aq:= @decide_eq_true
abbrev Ar:= @List.getElem?_map
abbrev As:= @List.append_nil
abbrev Au:= @congrArg
abbrev Aw:= @List.mem_cons_self
abbrev Ax:= @List.mem_map
abbrev Az:= @List.append_assoc
abbrev AA:= @Nat.lt_or_ge
abbrev AB:= @List.map_append
abbrev AD:= @List.getElem?_append_left
abbrev AE:= @List.getElem?_append_right
abbrev AF:= @List.mem_cons_of_mem
abbrev AG:= @Bool.and_eq_true
abbrev AH:= @Nat.not_lt_zero
abbrev AJ:= @List.take_of_length_le
abbrev AK:= @List.mem_of_mem_take
abbrev AL:= @List.length_take
abbrev AM:= @List.length_drop
abbrev AN:= @Nat.le_trans
abbrev AP:= @List.getElem?_take
abbrev AQ:= @heap_alloc_new
abbrev AR:= @Prod.mk.inj
abbrev AU:= @List.length_eq_zero_iff
abbrev AX:= @List.length_map
abbrev AY:= @Nat.not_lt
abbrev Bb:= @Nat.eq_of_beq_eq_true
abbrev Bc:= @Array.getElem?_eq_none
abbrev Bd:= @List.getElem?_eq_none
abbrev Be:= @Below.refl
abbrev Bf:= @List.take_succ_eq_append_getElem
abbrev Bi:= @Nat.zero_lt_one
abbrev Bl:= @Nat.mul_comm
abbrev Bm:= @wpList_step
abbrev Bo:= @List.mem_append_right
abbrev Bp:= @List.pairwise_iff_getElem
abbrev Bq:= @Int.le_refl
abbrev Br:= @List.mem_append_left
abbrev Bu:= @List.getElem_mem
abbrev BD:= @Nat.le_of_ble_eq_true
abbrev BF:= @List.ext_getElem?
abbrev BG:= @Addr.add_mid
abbrev BH:= @List.pairwise_singleton
abbrev BI:= @List.getElem?_drop
abbrev BJ:= @Array.getElem?_eq_some_iff
abbrev BL:= @List.map_congr_left
abbrev BM:= @wpAnyH_take
abbrev BN:= @List.take_append_drop
abbrev BQ:= @List.mem_cons
abbrev BS:= @Array.ext_getElem?
abbrev BU:= @Nat.add_sub_cancel_left
abbrev BV:= @Array.getD_eq_getD_getElem?
abbrev BX:= @Nat.add_assoc
abbrev BZ:= @Nat.le_of_eq
abbrev Ca:= @List.drop_eq_nil_of_le
abbrev Cb:= @List.mem_range
abbrev Cg:= @Array.getElem?_eq_getElem
abbrev Cj:= @List.getElem?_of_mem
abbrev Ck:= @World.cell?_of_block
abbrev Cl:= @wpList_append_own
abbrev Cn:= @setCell_eq_setRow
abbrev Cp:= @ints_oneCell
abbrev Cq:= @List.map_set
abbrev Cr:= @List.getElem?_set_self
abbrev Ct:= @IntKind.wrap_i64
abbrev tA:Type:=World
abbrev tB:Type:=Option Addr
abbrev tD:Type:=Nat→Value
abbrev tF:Type:=Nat→Prop
abbrev tG:Type:=List Int
abbrev tH:Type:=Nat→Int
abbrev tI:Type:=Exit→Act→World→Prop
abbrev tJ:Type:=World→Prop
abbrev tK:Type:=Value
abbrev tM:Type:=List Value
abbrev tP:Type:=Array Oper
abbrev tQ:Type:=Nat→Bool
abbrev tR:Type:=Array Value
abbrev tT:Type:=Nat→Nat→Value
abbrev tU:Type:=Operand
abbrev tV:Type:=Nat→Nat
abbrev tW:Type:=List Nat
abbrev tY:Type:=Program
abbrev tZ:Type:=TypeId
abbrev tf:Type:=MapEntry
abbrev bZ(w w':World):Prop:=Below w.heap.size w w'
abbrev cA(f:FuncId)(a:Array Value)(w:World)(Q:Ending→World→Prop):Prop:=Calls Tryz.prog f a w Q
abbrev rB(v:Value)(w:World):Ending→World→Prop:=fun e w'=>e= .returned v∧Below w.heap.size w w'
abbrev iV(n:Int):Value:=Value.int IntKind.i64 n
section
open Go.ChangeShapes Go.WideShapes Go.ChangeAt
structure RowK(k:IntKind)(w:tA)(a:tB)(len:Nat)(l:tG):Prop where
 cy:l.length=len
 wf:∀u∈l,(Lit.int k u).wf=true
 cell:∀i,i<len→∃b off,a=some ⟨b,off,none⟩∧b<w.heap.size∧w.cell? ⟨b,off+i,none⟩=some (.int k (l.getD i 0))
theorem RowK.below{k:IntKind}{w w':tA}{a:tB}{len:Nat}{l:tG}(h:RowK k w a len l)(hb:bZ w w'):RowK k w' a len l:=
 ⟨h.cy,h.wf,fun i hi=>by
  obtain⟨b,off,ha,aM,hc⟩:=h.cell i hi
  exact⟨b,off,ha,Aj aM hb.size,(hb.cell aM).trans hc⟩⟩
theorem RowK.nil(k:IntKind)(w:tA)(a:tB):RowK k w a 0 []:=⟨rfl,by simp,fun i hi=>by omega⟩
theorem RowK.at{k:IntKind}{w:tA}{b off len:Nat}{l:tG}(h:RowK k w (some ⟨b,off,none⟩) len l)(i:Nat)(hi:i<len):w.cell? ⟨b,off+i,none⟩=some (.int k (l.getD i 0)):=by
 obtain⟨b',off',ha,_,hc⟩:=h.cell i hi;simp at ha;obtain⟨rfl,rfl⟩:=ha;exact hc
theorem RowK.lt{k:IntKind}{w:tA}{b off len:Nat}{l:tG}(h:RowK k w (some ⟨b,off,none⟩) len l)(hi:0<len):b<w.heap.size:=by
 obtain⟨b',off',ha,hb,_⟩:=h.cell 0 hi;simp at ha;obtain⟨rfl,rfl⟩:=ha;exact hb
theorem RowK.form{k:IntKind}{w:tA}{a:tB}{len:Nat}{l:tG}(h:RowK k w a len l)(hi:0<len):∃b off,a=some ⟨b,off,none⟩:=by
 obtain⟨b',off',ha,hb,_⟩:=h.cell 0 hi;exact⟨b',off',ha⟩
theorem RowK.Lz{w:tA}{base e g n cap:Nat}{k:IntKind}{l:tG}(h:w.ownsRow base e 1 (.slice (some ⟨g,0,none⟩) n cap) n (l.map (Value.int k)))(hl:l.length=n)(hw:∀u∈l,(Lit.int k u).wf=true):RowK k w (some ⟨g,0,none⟩) n l:=
 ⟨hl,hw,fun i hi=>by
  have hc:=h.cellAt i (by omega);have hb:=(h.lt g rfl).2;refine⟨g,0,rfl,hb, ?_⟩;rw[Ae,hc,Ar,Ag (by omega)]
  simp[List.getElem?_eq_getElem (show i<l.length by omega)]⟩
theorem pF{P:tY}{w:tA}(src e:tZ)(hs:P.underlying src=some (.slice e))(he:P.underlying e=some (.int .u8)){a:tB}{len cap:Nat}{l:tG}(h:RowK .u8 w a len l):
  ∀dst,P.underlying dst=some .string→(convert src dst (.slice a len cap)).run P w= .ok (.string (strOfNums l)) w:=by
 intro dst hd;by_cases h0:len=0
 ·subst h0;have hl:l=[]:=AU.1 h.cy;subst hl;cases a with
  |none=>rw[run_convert_bytes_nil w src e hs he 0 cap dst hd];rfl
  |some x=>
   rw[run_convert_bytes_string w src dst e _ 0 cap hs he hd,run_bytesToString w _ 0 cap [] (by simp[loadCells,loadCellsFrom,Sem.run_pure])];rfl
 ·obtain⟨b,off,rfl⟩:=h.form (by omega);exact run_convert_bytes_arg w src e hs he b off len cap l h.cy (fun i hi=>h.at i hi) dst hd
theorem mE{P:tY}{w:tA}{ops:tP}{rest:List Oper}{o:Oper}{a:Act}{Q:tI}(Nu:o.guard=none)(s x:tU)(t:tZ)
  (ho:o.op= .call {callee:= .builtin .append,args:= #[s,x],argTypes:= #[t,t]})
  (base:Nat) (e:tZ) (i:TypeInfo) (z:tK) (bytes:Nat) (ht:P.underlying t=some (.slice e)) (hi:P.info? e=some i) (hz:i.zero=some z)
  (Gp:i.size=1) (wI:i.bytes=bytes) (LA:z.cells.size=1) (k:IntKind)
  (v:tK) (n:Nat) (xs:tG) (hs:a.eval s=v) (bM:w.ownsRow base e 1 v n (xs.map (Value.int k)))
  (ad:tB) (m c:Nat) (l:tG) (hx:a.eval x= .slice ad m c) (hr:RowK k w ad m l) (pz:ad=none→c=0)
  (Gq:n+m≤maxLen) (xl:(n+m)*bytes≤140737488355328) (dQ:base≤w.heap.size)
  (h:∀v' w',w'.ownsRow base e 1 v' (n+m) ((xs++l).map (Value.int k))→w.grownBy w' v.ownBlock→wpList P ops Q rest (a.put o.dst v') w'):wpList P ops Q (o::rest) a w:=by
 cases ad with
 |none=>
  have hm:m=0:=by
   by_cases h0:0<m
   ·obtain⟨_,_,h',_⟩:=hr.cell 0 h0;cases h'
   ·omega
  subst hm;have hl:l=[]:=AU.1 hr.cy;subst hl;refine wpList_append_own_none Nu s x t ho base e i 1 ht hi v n _ hs bM (by rw[hx,pz rfl]) ?_;exact h v w (by simpa using bM) (World.grownBy.refl _ _)
 |some x0=>
  refine Cl w Nu s x t ho base e i z 1 bytes ht hi hz Gp wI LA (by decide) v n _ hs bM x0 m c (l.map (Value.int k)) hx (by simp[hr.cy]) ?_ (Cp _ _) Gq xl dQ ?_
  ·intro j u hj;have YR:j<l.length:=by
    rcases AA j l.length with h'|h'
    ·exact h'
    ·simp[List.getElem?_eq_none h']at hj
   obtain⟨b,off,hb,_,hc⟩:=hr.cell j (by rw[←hr.cy];exact YR);simp only[Option.some.injEq]at hb;subst hb;have Qw:(⟨b,off,none⟩:Addr).add j=⟨b,off+j,none⟩:=by unfold Addr.add;split<;>simp_all
   rw[Qw,hc];simp[List.getElem?_eq_getElem YR]at hj;simp[List.getElem?_eq_getElem YR,hj]
  ·intro v' w' h1 h2 _;exact h v' w' (by rw[AB];exact h1) h2
theorem RowK.xm{w:tA}{base e n:Nat}{k:IntKind}{v:tK}{l:tG}(h:w.ownsRow base e 1 v n (l.map (Value.int k)))(hw:∀u∈l,(Lit.int k u).wf=true):
  ∃a cap,v= .slice a n cap∧RowK k w a n l∧n≤cap∧cap≤maxLen∧(a=none→cap=0)∧(∀x,a=some x→base≤x.block):=by
 have hl:l.length=n:=by have:=h.1;simpa using this
 rcases h.2 with⟨rfl,rfl⟩|⟨g,cap,cur,rfl,hb,hg,hc,hm,_⟩
 ·have:l=[]:=AU.1 hl;subst this;exact⟨none,0,rfl,RowK.nil _ _ _,Aa _,by unfold maxLen;omega,fun _=>rfl,fun x hx=>by cases hx⟩
 ·exact⟨some ⟨g,0,none⟩,cap,rfl,RowK.Lz h hl hw,hc,hm,by simp,fun x hx=>by simp at hx;subst hx;exact hb⟩
theorem aA(w:tA)(o1:Obj):Below w.heap.size w (w.alloc o1):=(Be _ _).alloc (Aa _) o1
theorem gj(w:tA)(o1 o2:Obj):Below w.heap.size w ((w.alloc o1).alloc o2):=(aA w o1).alloc (by simp) o2
theorem oo{w w':tA}{o1:Obj}(h:Below (w.alloc o1).heap.size (w.alloc o1) w'):bZ w w':=(aA w o1).trans (h.mono (by simp))
theorem sG{w w':tA}{o1 o2:Obj}(h:Below ((w.alloc o1).alloc o2).heap.size ((w.alloc o1).alloc o2) w'):bZ w w':=(gj w o1 o2).trans (h.mono (by simp;omega))
theorem pG(w:tA)(n:Nat):Below w.heap.size w (w.drewN n):=⟨rfl,rfl,rfl,Aa _,fun _ _=>rfl⟩
theorem Below.next{w w1 w2:tA}(h1:bZ w w1)(h2:bZ w1 w2):bZ w w2:=h1.trans (h2.mono h1.size)
section
variable{H:Type}{enc:TypeId×Value→H}{P:tY}
theorem fA{ts:List TypeId}(hl:laidOutB P=true)(hr:∀t∈ts,P.readableRec t=true∧t<P.types.size){W W':tA}:
  ∀{vs:tM} {ds:List (DataW H)} {ps:List MemPlace},DataW.TrodAll enc P W 0 (fun _=>true) true ts vs ds ps→bZ W W'→(∀x∈ps,x.block<W.heap.size)→
   DataW.TrodAll enc P W' 0 (fun b=>decide (b<W.heap.size)) true ts vs ds ps:=by
 induction ts with
 |nil=>
  intro vs ds ps h _ _;obtain⟨rfl,rfl,rfl⟩:=trodAll_nil h;exact trodAll_mk0
 |cons t ts ih=>
  intro vs ds ps h hb aM;obtain⟨v,vs',d,ds',p,q,rfl,rfl,rfl,h1,h2⟩:=trodAll_cons h;exact trodAll_cons_mk (Below.trod hl (hr t (by simp)).1 (hr t (by simp)).2 h1 hb (fun x hx=>aM x (by simp[hx]))) (ih (fun t ht=>hr t (by simp[ht])) h2 hb (fun x hx=>aM x (by simp[hx])))
theorem j3{ts:List TypeId}{ds:List (DataW H)}(h:(DataW.weightsEach P ts ds).all (·≤reachBytes)=true){j:Nat}{t e:tZ}{d:DataW H}{cap bytes:Nat}(ht:ts[j]? =some t)(hd:ds[j]? =some d)
  (hu:P.underlying t=some (.slice e)) (hb:P.bytesOf e=bytes) (hc:(d= .nil∧cap=0)∨∃es sp,d= .slice es sp∧es.length+sp.length=cap):cap*bytes≤140737488351232:=by
 rcases hc with⟨_,rfl⟩|⟨es,sp,rfl,rfl⟩
 ·simp
 ·have:=sized_slice h ht hd hu;rw[hb]at this;simpa[reachBytes]using this
end
end
theorem heap_set{w:tA}{R o:Nat}{cs:tR}{T:tZ}{v:tK}(h:w.heap[R]? =some (.cells cs T (0,0))):(w.setCell ⟨R,o,none⟩ v).heap[R]? =some (.cells (cs.set! o v) T (0,0)):=by
 rw[Cn w R o _ _ (0,0) _ h,setRow_heap w R _ _ _ _ h];rfl
section
variable{w w':tA}{R:Nat}
theorem jx:∀(vs:tM) (o:Nat) (w:tA) (cs:tR) (t:tZ),w.heap[R]? =some (.cells cs t (0,0))→o+vs.length≤cs.size→
  ∃Qf,(w.setCells R o vs).heap[R]? =some (.cells Qf t (0,0))∧Qf.size=cs.size∧∀i,Qf[i]? =if o≤i∧i<o+vs.length then vs[i-o]? else cs[i]?
 |[],o,w,cs,t,h,_=>⟨cs,h,rfl,fun i=>by rw[if_neg (by simp)]⟩
 |v::vs,o,w,cs,t,h,hl=>by
  have h1:=heap_set (o:=o) (v:=v) h;simp only[List.length_cons]at hl;obtain⟨Qf,h2,h3,h4⟩:=jx vs (o+1) _ _ t h1 (by simp;omega);refine⟨Qf,h2,by simpa using h3,fun i=> ?_⟩;rw[h4];by_cases ha:o+1≤i∧i<o+1+vs.length
  ·rw[if_pos ha,if_pos ⟨by omega,by simp;omega⟩,show i-o=(i-(o+1))+1 by omega];rfl
  ·rw[if_neg ha];by_cases hi:i=o
   ·subst hi;rw[if_pos ⟨by omega,by simp⟩];simp[show i<cs.size by omega]
   ·rw[if_neg (by simp;omega)];simp[show ¬o=i by omega]
structure av(R:Nat)(w w':tA):Prop where
 os:w'.os=w.os
 tape:w'.tape=w.tape
 output:w'.output=w.output
 size:w'.heap.size=w.heap.size
 block:∀k,k≠R→w'.heap[k]? =w.heap[k]?
theorem av.set(R o:Nat)(w:tA)(v:tK):av R w (w.setCell ⟨R,o,none⟩ v):=by
 refine⟨?_, ?_, ?_, ?_,fun k hk=>Below.heap_setCell w _ v k hk⟩<;>(unfold World.setCell;split<;>simp)
theorem av.refl(R:Nat)(w:tA):av R w w:=⟨rfl,rfl,rfl,rfl,fun _ _=>rfl⟩
theorem av.trans{a b c:tA}(h:av R a b)(k:av R b c):av R a c:=
 ⟨k.os.trans h.os,k.tape.trans h.tape,k.output.trans h.output,k.size.trans h.size,fun x hx=>(k.block x hx).trans (h.block x hx)⟩
theorem av.sH(R:Nat):∀(vs:tM) (o:Nat) (w:tA),av R w (w.setCells R o vs)
 |[],_,w=>av.refl R w
 |_::vs,o,w=>(av.set R o w _).trans (av.sH R vs (o+1) _)
theorem av.under{B:Nat}{w0:tA}(h:av R w w')(hb:Below B w0 w)(hR:B≤R):Below B w0 w':=
 ⟨h.os.trans hb.os,h.tape.trans hb.tape,h.output.trans hb.output,by rw[h.size];exact hb.size,fun k hk=>(h.block k (by omega)).trans (hb.block k hk)⟩
end
def cm(f:tD)(k n:Nat):List Value:=(List.range n).map fun i=>f (k+i)
theorem bK(f:tD)(k n:Nat):(cm f k n).length=n:=by simp[cm]
theorem bX(f:tD)(k n j:Nat)(h:j<n):(cm f k n)[j]? =some (f (k+j)):=by simp[cm,h]
theorem gH(f:tD)(k n j:Nat)(h:n≤j):(cm f k n)[j]? =none:=by simp[cm,h]
theorem xn{f g:tD}{k k' n:Nat}(h:∀i,i<n→f (k+i)=g (k'+i)):cm f k n=cm g k' n:=by
 apply BF;intro i;by_cases hi:i<n
 ·rw[bX _ _ _ _ hi,bX _ _ _ _ hi,h i hi]
 ·rw[gH _ _ _ _ (by omega),gH _ _ _ _ (by omega)]
abbrev vF(f:tD)(n:Nat):Value:= .agg (cm f 0 n).toArray
def gf(f:tD)(k n:Nat)(g:tD):Nat→Value:=fun i=>if k≤i∧i<k+n then g (i-k)else f i
theorem EB(f:tD)(k n:Nat)(g:tD)(i:Nat)(h:i<n):gf f k n g (k+i)=g i:=by
 unfold gf;rw[if_pos ⟨by omega,by omega⟩,show k+i-k=i by omega]
theorem pH(f:tD)(k n:Nat)(g:tD)(i:Nat)(h:i<k∨k+n≤i):gf f k n g i=f i:=by
 unfold gf;rw[if_neg (by omega)]
def ot(f:tD)(k:Nat)(v:tK):Nat→Value:=fun i=>if i=k then v else f i
theorem EC(f:tD)(k:Nat)(v:tK):ot f k v k=v:=by simp[ot]
theorem pI(f:tD)(k:Nat)(v:tK)(i:Nat)(h:i≠k):ot f k v i=f i:=by simp[ot,h]
def aS(f:tD)(n:Nat):Prop:=∀i,i<n→(f i).oneCell'=true
theorem aS.all{f:tD}{n:Nat}(h:aS f n):((cm f 0 n).toArray).all (·.oneCell')=true:=by
 refine all_oneCell_toArray ?_;intro v hv;simp only[cm,List.mem_map,List.mem_range,Nat.zero_add]at hv;obtain⟨i,hi,rfl⟩:=hv;exact h i hi
def aY(w:tA)(R:Nat)(T:tZ)(n:Nat)(f:tD):Prop:=w.heap[R]? =some (.cells (cm f 0 n).toArray T (0,0))
section
variable{w w':tA}{R T n:Nat}{f g:tD}
theorem aY.lt(h:aY w R T n f):R<w.heap.size:=by
 unfold aY at h;rcases AA R w.heap.size with h'|h'
 ·exact h'
 ·simp[Array.getElem?_eq_none h']at h
theorem aY.below{B:Nat}(h:aY w R T n f)(hb:Below B w w')(hR:R<B):aY w' R T n f:=by
 unfold aY at h⊢;rw[←h];exact hb.block R hR
theorem aY.next(h:aY w R T n f)(hb:bZ w w'):aY w' R T n f:=h.below hb h.lt
theorem aY.dC{R':Nat}(h:aY w R T n f)(t:av R' w w')(hR:R≠R'):aY w' R T n f:=by
 unfold aY at h⊢;rw[t.block R hR];exact h
theorem aY.congr(h:aY w R T n f)(hg:∀i,i<n→f i=g i):aY w R T n g:=by
 unfold aY at h⊢;rw[h,xn (f:=f) (g:=g) (k:=0) (k':=0) (fun i hi=>by simpa using hg i hi)]
theorem aY.new(w:tA)(T n:Nat)(f:tD):aY (w.alloc (.cells (cm f 0 n).toArray T)) w.heap.size T n f:=AQ w _
theorem aY.free(h:aY w R T n f)(o:Nat):w.frozen? ⟨R,o,none⟩=false:=by
 unfold aY at h;simp[World.frozen?,h]
theorem aY.at(h:aY w R T n f)(i:Nat)(hi:i<n):w.cell? ⟨R,i,none⟩=some (f i):=by
 unfold aY at h;simp only[World.cell?,h,List.getElem?_toArray];have:=bX f 0 n i hi;rw[Ae]at this;simpa using this
theorem aY.range(h:aY w R T n f)(k m:Nat)(hk:k+m≤n):w.rangeAt R k (cm f k m):=fun j v hv=>by
 have hj:j<m:=by
  have:=(Am.1 hv).1;rwa [bK]at this
 rw[h.at (k+j) (by omega),←hv,bX f k m j hj]
theorem aY.there(h:aY w R T n f)(k m:Nat)(hk:k+m≤n):w.there R k m:=fun j hj=>by
 refine⟨?_,h.free _⟩;rw[h.at (k+j) (by omega)];rfl
theorem aY.put(h:aY w R T n f)(k m:Nat)(g:tD)(hk:k+m≤n):aY (w.setCells R k (cm g 0 m)) R T n (gf f k m g):=by
 obtain⟨Qf,h1,h2,h3⟩:=jx (R:=R) (cm g 0 m) k w _ _ h (by simp[bK];omega);unfold aY;rw[h1];have:Qf=(cm (gf f k m g) 0 n).toArray:=by
  apply BS;intro i;rw[h3];simp only[bK,List.getElem?_toArray];by_cases hi:i<n
  ·rw[bX (gf f k m g) _ _ _ hi,Ae];by_cases hc:k≤i∧i<k+m
   ·rw[if_pos hc,bX _ _ _ _ (by omega),Ae];simp only[gf,if_pos hc]
   ·rw[if_neg hc,bX _ _ _ _ hi,Ae];simp only[gf,if_neg hc]
  ·rw[if_neg (by omega),gH _ _ _ _ (by omega),gH _ _ _ _ (by omega)]
 rw[this]
theorem aY.set(h:aY w R T n f)(k:Nat)(v:tK)(hk:k<n):aY (w.setCell ⟨R,k,none⟩ v) R T n (ot f k v):=by
 have h1:=h.put k 1 (fun _=>v) (by omega);have e:w.setCells R k (cm (fun _=>v) 0 1)=w.setCell ⟨R,k,none⟩ v:=rfl;rw[e]at h1;refine h1.congr fun i _=> ?_;unfold gf ot;by_cases hi:i=k
 ·rw[if_pos (by omega),if_pos hi]
 ·rw[if_neg (by omega),if_neg hi]
end
section
variable{P:tY}{ops:tP}{rest:List Oper}{o:Oper}{a:Act}{Q:tI}{w w':tA}{R T n:Nat}{f:tD}
theorem Gr(t:tZ)(d:TypeDesc)(k m:Nat)(g:tD)(x:tU)(ho:o.op= .load t x)(hw:Region.wanted o (yielded ops a.tmps)=true)(hx:a.eval x= .pointer (some ⟨R,k,none⟩))(fb:aY w R T n f)(hk:k+m≤n)
  (hu:P.underlying t=some d) (hd:d.isRow=true) (hi:(P.info? t).map (·.size)=some m) (hg:∀i,i<m→f (k+i)=g i)
  (h:wpList P ops Q rest (a.put o.dst (vF g m)) w):wpList P ops Q (o::rest) a w:=
 Bm fun K hK=>by
  rw[if_pos hw];have e:cm f k m=cm g 0 m:=xn (fun i hi=>by rw[Ae];exact hg i hi);exact wp_load_mid t x ho R k hx (cm g 0 m) d (e▸fb.range k m hk) hu hd (by rw[bK];exact hi) (hK _ _ h)
theorem Db(t:tZ)(k m:Nat)(g:tD)(x y:tU)(ho:o.op= .store t x y)(hw:Region.wanted o (yielded ops a.tmps)=true)(hx:a.eval x= .pointer (some ⟨R,k,none⟩))(hy:a.eval y=vF g m)(fb:aY w R T n f)(hk:k+m≤n)
  (hi:(P.info? t).map (·.size)=some m) (h1:aS g m)
  (h:∀w',aY w' R T n (gf f k m g)→av R w w'→wpList P ops Q rest (a.put o.dst undef) w'):wpList P ops Q (o::rest) a w:=
 Bm fun K hK=>by
  rw[if_pos hw];refine wp_store_mid t x y ho R k _ hx hy ?_ ?_ h1.all (hK _ _ (h _ ?_ (av.sH R _ k w)))
  ·simpa[bK]using fb.there k m hk
  ·simpa[bK]using hi
  ·simpa using fb.put k m g hk
theorem Qx(t:tZ)(m:Nat)(g:tD)(x:tU)(ho:o.op= .box t x)(hw:Region.wanted o (yielded ops a.tmps)=true)(hx:a.eval x=vF g m)
  (h:∀w',aY w' w.heap.size t m g→bZ w w'→w'.heap.size=w.heap.size+1→wpList P ops Q rest (a.put o.dst (.pointer (some ⟨w.heap.size,0,none⟩))) w'):wpList P ops Q (o::rest) a w:=
 Bm fun K hK=>by
  rw[if_pos hw];have:=hK _ _ (h _ (aY.new w t m g) (aA _ _) (by simp));unfold Oper.wp;simp only[execOp,ho,hx];simpa[go_sem]using this
end
section
variable{P:tY}{ops:tP}{Q:tI}{md:Region.Mode}{fx fl:tW}{E:World→World→Prop}
def fT(E:World→World→Prop)(fx fl:tW)(i:Nat)(w w':tA):Prop:=if fx.contains i then True else if fl.contains i then E w w' else w'=w
def zL(P:tY)(md:Region.Mode)(ops:tP)(Q:tI)(E:World→World→Prop)(fx fl:tW):Nat→Array Bool→Act→World→Prop
 |0,listed,a,w=>Region.ready md ops listed=[]∧Q .normal a w
 |n+1,listed,a,w=>(Region.ready md ops listed=[]→Q .normal a w)∧
  ∀i∈Region.ready md ops listed,wpOp P ops Q i (fun a' w'=>fT E fx fl i w w'∧zL P md ops Q E fx fl n (listed.setIfInBounds i true) a' w') a w
theorem Gs:∀(n:Nat) (listed:Array Bool) (a:Act) (w:tA),zL P md ops Q E fx fl n listed a w→wpAny P md ops Q n listed a w
 |0,_,_,_,h=>h
 |n+1,_,_,_,h=>⟨h.1,fun i hi=>wpOp_mono (fun a' w' h'=>Gs n _ a' w' h'.2) (h.2 i hi)⟩
def sI(md:Region.Mode)(ops:tP)(listed:Array Bool):Prop:=
 ∀j o,ops[j]? =some o→listed.getD j false=true→∀e∈o.after,Region.binds md e=true→listed.getD e.on false=true
theorem po{l:Array Bool}{j:Nat}(h:l.getD j true=false):j<l.size∧l.getD j false=false:=by
 rcases AA j l.size with h'|h'
 ·refine⟨h', ?_⟩;simp[h']at h⊢;exact h
 ·simp[Array.getElem?_eq_none h']at h
theorem sI.step{listed:Array Bool}{j:Nat}(h:sI md ops listed)(hj:j∈Region.ready md ops listed):sI md ops (listed.setIfInBounds j true):=by
 intro k o ho hk e he hb;obtain⟨_,oj,hoj,ju⟩:=mem_ready.1 hj;by_cases hjk:j=k
 ·subst hjk;rw[ho]at hoj;cases hoj;exact getD_set_true (ju e he hb)
 ·rw[getD_set_ne false hjk]at hk;exact getD_set_true (h k o ho hk e he hb)
theorem sI.start(n:Nat):sI md ops (Array.replicate n false):=by
 intro j o _ hj;exfalso;rcases AA j n with h'|h'
 ·simp[h']at hj
 ·simp[Nat.not_lt.2 h']at hj
def rH(md:Region.Mode)(ops:tP):Nat→Nat→Nat→Bool
 |0,_,_=>false
 |n+1,j,i=>match ops[j]? with
  |none=>false
  |some o=>o.after.any fun e=>Region.binds md e&&(e.on==i||rH md ops n e.on i)
theorem sJ{listed:Array Bool}(hd:sI md ops listed){i:Nat}:∀(n j:Nat) (o:Oper),ops[j]? =some o→(∀e∈o.after,Region.binds md e=true→listed.getD e.on false=true)→rH md ops n j i=true→listed.getD i false=true
 |0,_,_,_,_,h=>by simp[rH]at h
 |n+1,j,o,ho,ju,h=>by
  simp only[rH,ho]at h;obtain⟨e,he,h⟩:=Array.any_eq_true'.1 h;simp only[Bool.and_eq_true,Bool.or_eq_true,beq_iff_eq]at h;obtain⟨hb,rfl|hw⟩:=h
  ·exact ju e he hb
  ·cases hk:ops[e.on]? with
   |none=>cases n<;>simp[rH,hk]at hw
   |some ok=>exact sJ hd n e.on ok hk (hd e.on ok hk (ju e he hb)) hw
theorem JE(ED:∀w,E w w)(LB:∀w w1 w2,E w w1→E w1 w2→E w w2){i:Nat}{oi:Oper}{v:tK}(hi:ops[i]? =some oi)(qP:∀(j:Nat) (o:Oper) cs b,ops[j]? =some o→o.op≠ .select cs b)(zM:fx.contains i=false)(YS:fl.contains i=false)
  (hQ:∀c a w,Q (.panic c) (a.put oi.dst v) w→Q (.panic c) a w):
  ∀(fuel:Nat) (listed:Array Bool) (a:Act) (w:tA),sI md ops listed→
   (∀j oj,ops[j]? =some oj→j≠i→listed.getD j true=false→(∀e∈oj.after,Region.binds md e=true→e.on≠i)→oi.apart ops oj=true)→
   (∀j,listed.getD j true=false→fx.contains j=true→rH md ops ops.size j i=true)→
   i∈Region.ready md ops listed→YieldsIf P ops (E w) oi v a→
   zL P md ops Q E fx fl fuel (listed.setIfInBounds i true) (a.put oi.dst v) w→zL P md ops Q E fx fl (fuel+1) listed a w:=by
 have still:∀w,fT E fx fl i w w:=fun w=>by
  unfold fT;rw[zM,YS];rfl
 intro fuel
 induction fuel with
 |zero=>
  intro listed a w _ _ _ hr hy H;refine⟨fun h=>(by rw[h]at hr;cases hr),fun j hj=> ?_⟩;by_cases hji:j=i
  ·subst hji;exact hy.wpOp hi (ED w) ⟨still w,H⟩
  ·have:=ready_mono hj hji;rw[H.1]at this;cases this
 |succ fuel ih=>
  intro listed a w JF hfree hlate hr hy H;refine⟨fun h=>(by rw[h]at hr;cases hr),fun j hj=> ?_⟩;by_cases hji:j=i
  ·subst hji;exact hy.wpOp hi (ED w) ⟨still w,H⟩
  ·have h1:=H.2 j (ready_mono hj hji);obtain⟨hjun,oj,hoj,ju⟩:=mem_ready.1 hj;have YT:=(po (mem_ready.1 hr).1).2;have hq:fx.contains j=false:=by
    cases hq:fx.contains j with
    |false=>rfl
    |true=>
     have:=sJ JF _ j oj hoj ju (hlate j hjun hq);rw[YT]at this;cases this
   have YU:∀e∈oj.after,Region.binds md e=true→e.on≠i:=fun e he hb heq=>by
    have h1:=ju e he hb;rw[heq,YT]at h1;cases h1
   have h2:=wpOp_putIf hoj (hfree j oj hoj hji hjun YU) (fun cs b=>qP i oi cs b hi) (fun cs b=>qP j oj cs b hoj) hQ hy h1;have hun:∀k,(listed.setIfInBounds j true).getD k true=false→listed.getD k true=false:=fun k hk=>by
    by_cases hjk:j=k
    ·subst hjk;exact hjun
    ·rw[getD_set_ne true hjk]at hk;exact hk
   refine wpOp_mono (fun a' w' h3=> ?_) h2;obtain⟨hy',hT,hG⟩:=h3;have hww:E w w':=by
    unfold fT at hT;rw[hq]at hT;cases hl:fl.contains j with
    |true=>rw[hl]at hT;exact hT
    |false=>rw[hl]at hT;have hT:w'=w:=hT;rw[hT];exact ED w
   refine⟨hT,ih (listed.setIfInBounds j true) a' w' (JF.step hj) (fun k ok hk Jm hu Qg=>hfree k ok hk Jm (hun k hu) Qg) (fun k hu hk=>hlate k (hun k hu) hk) (ready_mono hr (Ne.symm hji)) ?_ ?_⟩
   ·rcases hy' with⟨h1,h2⟩|h1
    ·exact .inl ⟨h1,fun u hu=>h2 u (LB _ _ _ hww hu)⟩
    ·exact .inr h1
   ·rw[Array.setIfInBounds_comm _ _ hji];exact hG
theorem Nw{i:Nat}{oi:Oper}{v:tK}(hi:ops[i]? =some oi)(qP:∀(j:Nat) (o:Oper) cs b,ops[j]? =some o→o.op≠ .select cs b)(zM:fx.contains i=false)(YS:fl.contains i=false)
  (hQ:∀c a w,Q (.panic c) (a.put oi.dst v) w→Q (.panic c) a w):
  ∀(fuel:Nat) (listed:Array Bool) (a:Act) (w:tA),
   (∀j oj,ops[j]? =some oj→j≠i→listed.getD j true=false→(∀e∈oj.after,Region.binds md e=true→e.on≠i)→oi.apart ops oj=true)→
   i∈Region.ready md ops listed→Yields P ops oi v a→
   zL P md ops Q E fx fl fuel (listed.setIfInBounds i true) (a.put oi.dst v) w→zL P md ops Q E fx fl (fuel+1) listed a w:=by
 have still:∀w,fT E fx fl i w w:=fun w=>by
  unfold fT;rw[zM,YS];rfl
 intro fuel
 induction fuel with
 |zero=>
  intro listed a w _ hr hy H;refine⟨fun h=>(by rw[h]at hr;cases hr),fun j hj=> ?_⟩;by_cases hji:j=i
  ·subst hji;exact hy.wpOp hi ⟨still w,H⟩
  ·have:=ready_mono hj hji;rw[H.1]at this;cases this
 |succ fuel ih=>
  intro listed a w hfree hr hy H;refine⟨fun h=>(by rw[h]at hr;cases hr),fun j hj=> ?_⟩;by_cases hji:j=i
  ·subst hji;exact hy.wpOp hi ⟨still w,H⟩
  ·have h1:=H.2 j (ready_mono hj hji);obtain⟨hjun,oj,hoj,ju⟩:=mem_ready.1 hj;have YT:=(po (mem_ready.1 hr).1).2;have YU:∀e∈oj.after,Region.binds md e=true→e.on≠i:=fun e he hb heq=>by
    have h1:=ju e he hb;rw[heq,YT]at h1;cases h1
   have h2:=wpOp_put hoj (hfree j oj hoj hji hjun YU) (fun cs b=>qP i oi cs b hi) (fun cs b=>qP j oj cs b hoj) hQ hy h1;have hun:∀k,(listed.setIfInBounds j true).getD k true=false→listed.getD k true=false:=fun k hk=>by
    by_cases hjk:j=k
    ·subst hjk;exact hjun
    ·rw[getD_set_ne true hjk]at hk;exact hk
   refine wpOp_mono (fun a' w' h3=> ?_) h2;obtain⟨hy',hT,hG⟩:=h3;refine⟨hT,ih (listed.setIfInBounds j true) a' w' (fun k ok hk Jm hu Qg=>hfree k ok hk Jm (hun k hu) Qg) (ready_mono hr (Ne.symm hji)) hy' ?_⟩;rw[Array.setIfInBounds_comm _ _ hji];exact hG
inductive Ord where
 |nil
 |rd (i:Nat) (t:Ord)
 |pu (i:Nat) (t:Ord)
 |ef (i:Nat) (t:Ord)
 |fk (i j:Nat) (s t:Ord)
 |f3 (i j k:Nat) (s t u:Ord)
def Ord.len:Ord→Nat
 | .nil=>0
 | .rd _ t=>t.len+1
 | .pu _ t=>t.len+1
 | .ef _ t=>t.len+1
 | .fk _ _ s _=>s.len+1
 | .f3 _ _ _ s _ _=>s.len+1
def kU(P:tY)(ops:tP)(Q:tI)(E:World→World→Prop)(fx fl:tW):Ord→Act→World→Prop
 | .nil,a,w=>Q .normal a w
 | .rd i t,a,w=>∃o v,ops[i]? =some o∧YieldsIf P ops (E w) o v a∧kU P ops Q E fx fl t (a.put o.dst v) w
 | .pu i t,a,w=>∃o v,ops[i]? =some o∧Yields P ops o v a∧kU P ops Q E fx fl t (a.put o.dst v) w
 | .ef i t,a,w=>wpOp P ops Q i (fun a' w'=>fT E fx fl i w w'∧kU P ops Q E fx fl t a' w') a w
 | .fk i j s t,a,w=>wpOp P ops Q i (fun a' w'=>fT E fx fl i w w'∧kU P ops Q E fx fl s a' w') a w∧wpOp P ops Q j (fun a' w'=>fT E fx fl j w w'∧kU P ops Q E fx fl t a' w') a w
 | .f3 i j k s t u,a,w=>wpOp P ops Q i (fun a' w'=>fT E fx fl i w w'∧kU P ops Q E fx fl s a' w') a w∧wpOp P ops Q j (fun a' w'=>fT E fx fl j w w'∧kU P ops Q E fx fl t a' w') a w∧wpOp P ops Q k (fun a' w'=>fT E fx fl k w w'∧kU P ops Q E fx fl u a' w') a w
def kv(md:Region.Mode)(ops:tP)(fx fl:tW):Ord→Array Bool→Bool
 | .nil,listed=>(Region.ready md ops listed).isEmpty
 | .rd i t,listed=>(Region.ready md ops listed).contains i&&Region.free md ops listed i&&fx.all (fun j=>listed.getD j true||rH md ops ops.size j i)&& !fx.contains i&& !fl.contains i&&kv md ops fx fl t (listed.setIfInBounds i true)
 | .pu i t,listed=>(Region.ready md ops listed).contains i&&Region.free md ops listed i&& !fx.contains i&& !fl.contains i&&kv md ops fx fl t (listed.setIfInBounds i true)
 | .ef i t,listed=>(Region.ready md ops listed==[i])&&kv md ops fx fl t (listed.setIfInBounds i true)
 | .fk i j s t,listed=>(Region.ready md ops listed==[i,j])&&(s.len==t.len)&&kv md ops fx fl s (listed.setIfInBounds i true)&&kv md ops fx fl t (listed.setIfInBounds j true)
 | .f3 i j k s t u,listed=>(Region.ready md ops listed==[i,j,k])&&(s.len==t.len)&&(s.len==u.len)&&kv md ops fx fl s (listed.setIfInBounds i true)&&kv md ops fx fl t (listed.setIfInBounds j true)&&kv md ops fx fl u (listed.setIfInBounds k true)
theorem fh(ED:∀w,E w w)(LB:∀w w1 w2,E w w1→E w1 w2→E w w2)(qP:Region.noSelect ops=true)(hQ:∀c a d v w,Q (.panic c) (a.put d v) w→Q (.panic c) a w):∀(σ:Ord) (listed:Array Bool) (a:Act) (w:tA),
  sI md ops listed→kv md ops fx fl σ listed=true→kU P ops Q E fx fl σ a w→zL P md ops Q E fx fl σ.len listed a w
 | .nil,listed,a,w,_,hc,h=>⟨by simpa[kv]using hc,h⟩
 | .rd i t,listed,a,w,hd,hc,h=>by
  simp only[kv,Bool.and_eq_true]at hc;obtain⟨⟨⟨⟨⟨hr,hf⟩,hl⟩,hn⟩,sC⟩,hc⟩:=hc;obtain⟨o,v,ho,hy,h⟩:=h;have hr:i∈Region.ready md ops listed:=by simpa using hr
  refine JE ED LB ho (Region.noSelect_spec qP) (by simpa using hn) (by simpa using sC) (fun c a w=>hQ c a _ _ w) _ listed a w hd (Region.free_spec ho hf) (fun j hu hq=> ?_) hr hy (fh ED LB qP hQ t _ _ _ (hd.step hr) hc h);have hj:j∈fx:=by simpa using hq
  have:=List.all_eq_true.1 hl j hj;rw[hu]at this;simpa using this
 | .pu i t,listed,a,w,hd,hc,h=>by
  simp only[kv,Bool.and_eq_true]at hc;obtain⟨⟨⟨⟨hr,hf⟩,hn⟩,sC⟩,hc⟩:=hc;obtain⟨o,v,ho,hy,h⟩:=h;have hr:i∈Region.ready md ops listed:=by simpa using hr
  exact Nw ho (Region.noSelect_spec qP) (by simpa using hn) (by simpa using sC) (fun c a w=>hQ c a _ _ w) _ listed a w (Region.free_spec ho hf) hr hy (fh ED LB qP hQ t _ _ _ (hd.step hr) hc h)
 | .ef i t,listed,a,w,hd,hc,h=>by
  simp only[kv,Bool.and_eq_true,beq_iff_eq]at hc;obtain⟨hr,hc⟩:=hc;have hi:i∈Region.ready md ops listed:=by rw[hr];simp
  refine⟨fun h0=>(by rw[h0]at hr;cases hr),fun j hj=> ?_⟩;rw[hr,Ab]at hj;subst hj;exact wpOp_mono (fun a' w' h'=>⟨h'.1,fh ED LB qP hQ t _ _ _ (hd.step hi) hc h'.2⟩) h
 | .fk i j s t,listed,a,w,hd,hc,h=>by
  simp only[kv,Bool.and_eq_true,beq_iff_eq]at hc;obtain⟨⟨⟨hr,hlen⟩,hc⟩,hc'⟩:=hc;have hi:i∈Region.ready md ops listed:=by rw[hr];simp
  have hj:j∈Region.ready md ops listed:=by rw[hr];simp
  refine⟨fun h0=>(by rw[h0]at hr;cases hr),fun k hk=> ?_⟩;rw[hr]at hk;simp only[List.mem_cons,List.not_mem_nil,or_false]at hk;rcases hk with rfl|rfl
  ·exact wpOp_mono (fun a' w' h'=>⟨h'.1,fh ED LB qP hQ s _ _ _ (hd.step hi) hc h'.2⟩) h.1
  ·refine wpOp_mono (fun a' w' h'=>⟨h'.1, ?_⟩) h.2;show zL P md ops Q E fx fl s.len _ a' w';rw[hlen];exact fh ED LB qP hQ t _ _ _ (hd.step hj) hc' h'.2
 | .f3 i j k s t u,listed,a,w,hd,hc,h=>by
  simp only[kv,Bool.and_eq_true,beq_iff_eq]at hc;obtain⟨⟨⟨⟨⟨hr,hlen⟩,Gt⟩,hc⟩,hc'⟩,hc''⟩:=hc;have hi:i∈Region.ready md ops listed:=by rw[hr];simp
  have hj:j∈Region.ready md ops listed:=by rw[hr];simp
  have hk:k∈Region.ready md ops listed:=by rw[hr];simp
  refine⟨fun h0=>(by rw[h0]at hr;cases hr),fun x hx=> ?_⟩;rw[hr]at hx;simp only[List.mem_cons,List.not_mem_nil,or_false]at hx;rcases hx with rfl|rfl|rfl
  ·exact wpOp_mono (fun a' w' h'=>⟨h'.1,fh ED LB qP hQ s _ _ _ (hd.step hi) hc h'.2⟩) h.1
  ·refine wpOp_mono (fun a' w' h'=>⟨h'.1, ?_⟩) h.2.1;show zL P md ops Q E fx fl s.len _ a' w';rw[hlen];exact fh ED LB qP hQ t _ _ _ (hd.step hj) hc' h'.2
  ·refine wpOp_mono (fun a' w' h'=>⟨h'.1, ?_⟩) h.2.2;show zL P md ops Q E fx fl s.len _ a' w';rw[Gt];exact fh ED LB qP hQ u _ _ _ (hd.step hk) hc'' h'.2
theorem zN{id:Nat}{a:Act}{w:tA}(hm:P.follows .mixedOrders=true)(σ:Ord)(ED:∀w,E w w)(LB:∀w w1 w2,E w w1→E w1 w2→E w w2)
  (hc:(σ.len==ops.size&&Region.noSelect ops&&kv .any ops fx fl σ (Array.replicate ops.size false))=true) (hQ:∀c a d v w,Q (.panic c) (a.put d v) w→Q (.panic c) a w)
  (h:kU P ops Q E fx fl σ a w.drew):(Code.region id ops true).wp P Q a w:=by
 simp only[Bool.and_eq_true,beq_iff_eq]at hc;obtain⟨⟨hl,hs⟩,hc⟩:=hc;refine wp_region_any hm (Gs (E:=E) (fx:=fx) (fl:=fl) _ _ _ _ ?_);have hG:=fh ED LB hs hQ σ _ a _ (sI.start _) hc h;rw[hl]at hG;exact hG
variable{a:Act}{w:tA}{t:Ord}{i:Nat}{o:Oper}
end
def kK(n:Nat)(f:tD):Array Value:=((List.range n).map f).toArray
def up(f:tD)(d:Nat)(v:tK):Nat→Value:=fun i=>cond (Nat.beq i d) v (f i)
def upo(f:tD):Option Nat→Value→(Nat→Value)
 |some d,v=>up f d v
 |none,_=>f
def ev(f:tD):Operand→Value
 | .tmp t=>f t
 | .const v=>v
 | .global g=> .pointer (some ⟨g,0,none⟩)
 | .func g=> .func (.func g) #[] #[]
def Nx(vs:tM):Nat→Value
 |i=>vs.getD i undef
theorem xo(n:Nat)(f:tD):(kK n f).size=n:=by simp[kK]
theorem pJ{n:Nat}{f:tD}{t:Nat}(h:t<n):(kK n f)[t]? =some (f t):=by simp[kK,h]
theorem U5(n:Nat)(f:tD)(d:Nat)(v:tK):(kK n f).setIfInBounds d v=kK n (up f d v):=by
 apply BS;intro i;by_cases hi:i<n
 ·rw[pJ hi];by_cases hd:d=i
  ·subst hd;rw[Array.getElem?_setIfInBounds_self_of_lt (by rw[xo];exact hi)];have e:up f d v d=v:=by
    unfold up;rw[show Nat.beq d d=true from Nat.beq_refl d];rfl
   rw[e]
  ·rw[Array.getElem?_setIfInBounds_ne hd,pJ hi];have e:up f d v i=f i:=by
    unfold up;cases hb:Nat.beq i d with
    |false=>rfl
    |true=>exact absurd (Bb hb).symm hd
   rw[e]
 ·rw[Bc (by simp[kK];omega),Bc (by rw[xo];omega)]
theorem mN(n:Nat)(f:tD)(d:Option Nat)(v:tK):(⟨kK n f,[]⟩:Act).put d v=⟨kK n (upo f d v),[]⟩:=by
 cases d with
 |none=>rfl
 |some d=>simp only[Act.put,U5];rfl
def okX(n:Nat):Operand→Bool
 | .tmp t=>Nat.blt t n
 |_=>true
def U6(n:Nat)(o:Oper):Bool:=(match o.op with| .select .. =>false|_=>true)&&o.op.operands.all (okX n)
def jh(n:Nat)(ops:tP):Bool:=ops.all (U6 n)
theorem na{n:Nat}{ops:tP}{i:Nat}{o:Oper}(h:jh n ops=true)(ho:ops[i]? =some o):U6 n o=true:=Array.all_eq_true_iff_forall_mem.1 h o (Array.mem_of_getElem? ho)
theorem cK{a b:Nat}(h:Nat.ble a b=true):a≤b:=BD h
theorem EE{n:Nat}{f:tD}{x:tU}(h:okX n x=true):(⟨kK n f,[]⟩:Act).eval x=ev f x:=by
 cases x with
 |tmp t=>
  have ht:t<n:=by simpa[okX,Nat.blt_eq]using h
  simp only[Act.eval,ev];rw[BV,pJ ht];rfl
 |_=>rfl
theorem qq{n:Nat}{f:tD}{o:Oper}(h:U6 n o=true):execOp (⟨kK n f,[]⟩:Act).eval o=execOp (ev f) o:=by
 simp only[U6,Bool.and_eq_true]at h;refine execOp_congr o (fun cs b e=>by rw[e]at h;simp at h) (fun x hx=>EE ?_);exact Array.all_eq_true_iff_forall_mem.1 h.2 x hx
theorem U7(n:Nat)(vs:tM)(h:vs.length≤n):vs.toArray++Array.replicate (n-vs.toArray.size) undef=kK n (Nx vs):=by
 apply BS;intro i;by_cases hi:i<n
 ·rw[pJ hi];by_cases hv:i<vs.length
  ·rw[Array.getElem?_append_left (by simpa using hv)];simp[Nx,hv]
  ·rw[Array.getElem?_append_right (by simpa using hv)];have e:Nx vs i=undef:=by
    unfold Nx;rw[Ah,Bd (by omega)];rfl
   rw[e,Array.getElem?_replicate,if_pos (by simp;omega)]
 ·rw[Bc (by simp;omega),Bc (by rw[xo];omega)]
theorem Qy{P:tY}{f:FuncId}{fn:Func}{c:Code}{vs:tM}{w:tA}{R:Ending→World→Prop}(n:Nat)(hf:P.funcs[f]? =some fn)(hb:fn.body=some c)(hn:fn.ntmps=n)(hl:vs.length≤n)
  (h:c.wp P (bodyPost P fn R) ⟨kK n (Nx vs),[]⟩ w):Calls P f vs.toArray w R:=by
 refine calls_of_wp hf hb ?_;rw[hn,U7 n vs hl];exact h
structure dm(U:tF)(w w':tA):Prop where
 os:w'.os=w.os
 tape:w'.tape=w.tape
 output:w'.output=w.output
 size:w.heap.size≤w'.heap.size
 block:∀b,b<w.heap.size→¬U b→w'.heap[b]? =w.heap[b]?
theorem dm.below{U:tF}{w w':tA}(h:dm U w w'){B:Nat}(hB:B≤w.heap.size)(hU:∀b,b<B→¬U b):Below B w w':=⟨h.os,h.tape,h.output,h.size,fun b hb=>h.block b (by omega) (hU b hb)⟩
theorem dm.of{U:tF}{w w':tA}(h:bZ w w'):dm U w w':=⟨h.os,h.tape,h.output,h.size,fun b hb _=>h.block b hb⟩
theorem dm.trans{U V:tF}{w w1 w2:tA}(h:dm U w w1)(k:dm V w1 w2)(hV:∀b,b<w.heap.size→V b→U b):dm U w w2:=
 ⟨k.os.trans h.os,k.tape.trans h.tape,k.output.trans h.output,AN h.size k.size,fun b hb hu=>(k.block b (Aj hb h.size) (fun hv=>hu (hV b hb hv))).trans (h.block b hb hu)⟩
structure bU where
 a:Nat
 t:TypeId
 n:Nat
 f:Nat→Value
structure Mem(w:tA)(H:List bU)(M:tF)(G R:tJ):Prop where
 ik:∀e∈H,aY w e.a e.t e.n e.f
 ov:∀(i j:Nat) (x y:bU),H[i]? =some x→H[j]? =some y→x.a=y.a→i=j
 off:∀e∈H,¬M e.a
 mlt:∀b,M b→b<w.heap.size
 g:∀w',dm (fun b=>b∈H.map bU.a∨M b) w w'→G w'
 r:∀w',dm (fun b=>b∈H.map bU.a) w w'→R w'
theorem Mem.start{w:tA}{M:tF}{G R:tJ}(hM:∀b,M b→b<w.heap.size)(hG:∀w',dm M w w'→G w')(hR:∀w',bZ w w'→R w'):Mem w [] M G R:=
 ⟨fun e he=>(by cases he),fun i j x y hi=>(by simp at hi),fun e he=>(by cases he),hM,fun w' h=>hG w' ⟨h.os,h.tape,h.output,h.size,fun b hb hm=>h.block b hb (fun h=>h.elim (fun h=>by cases h) hm)⟩,fun w' h=>hR w' (h.below (Aa _) (fun b _ h=>by cases h))⟩
section
variable{w w':tA}{H:List bU}{M:tF}{G R:tJ}
theorem Mem.lt(h:Mem w H M G R){b:Nat}(hb:b∈H.map bU.a):b<w.heap.size:=by
 obtain⟨e,he,rfl⟩:=Ax.1 hb;exact(h.ik e he).lt
theorem Mem.now(h:Mem w H M G R):G w∧R w:=⟨h.g w ⟨rfl,rfl,rfl,Aa _,fun _ _ _=>rfl⟩,h.r w ⟨rfl,rfl,rfl,Aa _,fun _ _ _=>rfl⟩⟩
theorem Mem.next(h:Mem w H M G R)(hb:bZ w w'):Mem w' H M G R:=
 ⟨fun e he=>(h.ik e he).next hb,h.ov,h.off,fun b hm=>Aj (h.mlt b hm) hb.size,fun w2 h2=>h.g w2 ((dm.of hb).trans h2 fun _ _ h=>h),fun w2 h2=>h.r w2 ((dm.of hb).trans h2 fun _ _ h=>h)⟩
theorem Mem.more(h:Mem w H M G R)(hb:bZ w w'){t n:Nat}{f:tD}(hn:aY w' w.heap.size t n f):Mem w' (H++[⟨w.heap.size,t,n,f⟩]) M G R:=by
 have h1:=h.next hb;have key:∀b,b<w.heap.size→b∈(H++[(⟨w.heap.size,t,n,f⟩:bU)]).map bU.a→b∈H.map bU.a:=fun b hb hm=>by
  simp only[List.map_append,List.mem_append,List.map_cons,List.map_nil,List.mem_singleton]at hm;rcases hm with hm|rfl
  ·exact hm
  ·omega
 refine⟨fun e he=> ?_, ?_,fun e he=> ?_,h1.mlt,fun w2 h2=>h.g w2 ((dm.of hb).trans h2 fun b hb hm=>hm.imp (key b hb) id),fun w2 h2=>h.r w2 ((dm.of hb).trans h2 key)⟩
 ·rcases Ao.1 he with he|he
  ·exact h1.ik e he
  ·rw[Ab.1 he];exact hn
 ·have ox:∀i x,i<H.length→(H++[(⟨w.heap.size,t,n,f⟩:bU)])[i]? =some x→H[i]? =some x∧x.a<w.heap.size:=fun i x hi hx=>by
   rw[AD hi]at hx;exact⟨hx,(h.ik x (Ap hx)).lt⟩
  have new:∀i x,¬i<H.length→(H++[(⟨w.heap.size,t,n,f⟩:bU)])[i]? =some x→i=H.length∧x.a=w.heap.size:=fun i x hi hx=>by
   rw[AE (by omega)]at hx;obtain⟨h1,h2⟩:=Am.1 hx;simp at h1;refine⟨by omega, ?_⟩;rw[←h2];simp[h1]
  intro i j x y hx hy EF;by_cases hi:i<H.length<;>by_cases hj:j<H.length
  ·exact h.ov i j x y (ox i x hi hx).1 (ox j y hj hy).1 EF
  ·have:=(ox i x hi hx).2;have:=(new j y hj hy).2;omega
  ·have:=(new i x hi hx).2;have:=(ox j y hj hy).2;omega
  ·have:=(new i x hi hx).1;have:=(new j y hj hy).1;omega
 ·rcases Ao.1 he with he|he
  ·exact h.off e he
  ·rw[Ab.1 he];exact fun hm=>absurd (h.mlt _ hm) (Nat.lt_irrefl _)
theorem uz{l:List bU}{k:Nat}{e e':bU}(hk:l[k]? =some e)(ha:e'.a=e.a):(l.set k e').map bU.a=l.map bU.a:=by
 apply BF;intro i;simp only[List.getElem?_map,List.getElem?_set];by_cases hi:k=i
 ·subst hi;obtain⟨aM,he⟩:=Am.1 hk;simp[aM,ha,he]
 ·simp[hi]
theorem Mem.turn(h:Mem w H M G R){k:Nat}{e:bU}(hk:H[k]? =some e)(ht:av e.a w w'){f':tD}(hn:aY w' e.a e.t e.n f'):Mem w' (H.set k ⟨e.a,e.t,e.n,f'⟩) M G R:=by
 have hm:e∈H:=Ap hk;have ea:=uz (e':=⟨e.a,e.t,e.n,f'⟩) hk rfl;have ch:dm (fun b=>b∈H.map bU.a) w w':=⟨ht.os,ht.tape,ht.output,BZ ht.size.symm,fun b _ hb=>ht.block b (fun he=>hb (Ax.2 ⟨e,hm,he.symm⟩))⟩;refine⟨fun x hx=> ?_, ?_,fun x hx=> ?_,fun b hb=>by rw[ht.size];exact h.mlt b hb,fun w2 h2=> ?_,fun w2 h2=> ?_⟩
 ·obtain⟨i,hi⟩:=Cj hx;rw[List.getElem?_set]at hi;by_cases Jm:k=i
  ·subst Jm;rw[if_pos rfl]at hi;split at hi
   ·cases hi;exact hn
   ·cases hi
  ·rw[if_neg Jm]at hi;refine(h.ik x (Ap hi)).dC ht (fun he=> ?_);exact Jm (h.ov k i e x hk hi he.symm)
 ·have ox:∀(i:Nat) (x:bU),(H.set k ⟨e.a,e.t,e.n,f'⟩)[i]? =some x→∃y,H[i]? =some y∧y.a=x.a:=fun i x hx=>by
   rw[List.getElem?_set]at hx;by_cases Jm:k=i
   ·subst Jm;rw[if_pos rfl]at hx;split at hx
    ·cases hx;exact⟨e,hk,rfl⟩
    ·cases hx
   ·rw[if_neg Jm]at hx;exact⟨x,hx,rfl⟩
  intro i j x y hx hy EF;obtain⟨x',hx',ex⟩:=ox i x hx;obtain⟨y',hy',ey⟩:=ox j y hy;exact h.ov i j x' y' hx' hy' (by rw[ex,ey,EF])
 ·have:x.a∈(H.set k ⟨e.a,e.t,e.n,f'⟩).map bU.a:=Ax.2 ⟨x,hx,rfl⟩;rw[ea]at this;obtain⟨y,hy,hya⟩:=Ax.1 this;rw[←hya];exact h.off y hy
 ·rw[ea]at h2;refine h.g w2 (dm.trans (U:=fun b=>b∈H.map bU.a∨M b) ⟨ch.os,ch.tape,ch.output,ch.size,fun b hb hu=>ch.block b hb (fun h=>hu (.inl h))⟩ h2 fun _ _ h=>h)
 ·rw[ea]at h2;exact h.r w2 (ch.trans h2 fun _ _ h=>h)
theorem Mem.add(h:Mem w H M G R){φ:tJ}(hφ:∀w',dm (fun b=>b∈H.map bU.a∨M b) w w'→φ w'):Mem w H M (fun w=>G w∧φ w) R:=
 ⟨h.ik,h.ov,h.off,h.mlt,fun w' h'=>⟨h.g w' h',hφ w' h'⟩,h.r⟩
theorem Mem.take(h:Mem w H M G R)(k:Nat):Mem w (H.take k) M G R:=by
 have sub:∀b,b∈(H.take k).map bU.a→b∈H.map bU.a:=fun b hb=>by
  obtain⟨e,he,rfl⟩:=Ax.1 hb;exact Ax.2 ⟨e,AK he,rfl⟩
 refine⟨fun e he=>h.ik e (AK he),fun i j x y hi hj=> ?_,fun e he=>h.off e (AK he),h.mlt,fun w' c=>h.g w' ⟨c.os,c.tape,c.output,c.size,fun b hb hu=>c.block b hb fun hm=>hu (hm.imp (sub b) id)⟩,fun w' c=>h.r w' ⟨c.os,c.tape,c.output,c.size,fun b hb hu=>c.block b hb fun hm=>hu (sub b hm)⟩⟩;have ox:∀(i:Nat) (x:bU),(H.take k)[i]? =some x→H[i]? =some x:=fun i x hx=>by
  rw[AP]at hx;split at hx
  ·exact hx
  ·cases hx
 exact h.ov i j x y (ox i x hi) (ox j y hj)
theorem rI(ov:∀(i j:Nat) (x y:bU),H[i]? =some x→H[j]? =some y→x.a=y.a→i=j):∀σ:List Nat,σ.Nodup→(σ.filterMap (H[·]?)).Pairwise (fun x y=>x.a≠y.a)
 |[],_=>List.Pairwise.nil
 |i::σ,hσ=>by
  obtain⟨h1,h2⟩:=List.nodup_cons.1 hσ;cases hx:H[i]? with
  |none=>rw[List.filterMap_cons_none (by simpa using hx)];exact rI ov σ h2
  |some x=>
   rw[List.filterMap_cons_some (b:=x) (by simpa using hx),List.pairwise_cons];refine⟨fun y hy he=> ?_,rI ov σ h2⟩;obtain⟨j,hj,hjy⟩:=List.mem_filterMap.1 hy;have:=ov i j x y hx hjy he;exact h1 (this▸hj)
theorem Mem.JG(h:Mem w H M G R)(σ:tW)(hσ:σ.Nodup):Mem w (σ.filterMap (H[·]?)) M G R:=by
 have mem:∀e,e∈σ.filterMap (H[·]?)→e∈H:=fun e he=>by
  obtain⟨j,_,hj⟩:=List.mem_filterMap.1 he;exact Ap hj
 have sub:∀b,b∈(σ.filterMap (H[·]?)).map bU.a→b∈H.map bU.a:=fun b hb=>by
  obtain⟨e,he,rfl⟩:=Ax.1 hb;exact Ax.2 ⟨e,mem e he,rfl⟩
 refine⟨fun e he=>h.ik e (mem e he),fun i j x y hi hj EF=> ?_,fun e he=>h.off e (mem e he),h.mlt,fun w' c=>h.g w' ⟨c.os,c.tape,c.output,c.size,fun b hb hu=>c.block b hb fun hm=>hu (hm.imp (sub b) id)⟩,fun w' c=>h.r w' ⟨c.os,c.tape,c.output,c.size,fun b hb hu=>c.block b hb fun hm=>hu (sub b hm)⟩⟩;have hp:=Bp.1 (rI h.ov σ hσ);obtain⟨li,rfl⟩:=Am.1 hi;obtain⟨lj,rfl⟩:=Am.1 hj;rcases Nat.lt_trichotomy i j with aM|heq|Ny
 ·exact absurd EF (hp i j li lj aM)
 ·exact heq
 ·exact absurd EF.symm (hp j i lj li Ny)
theorem Mem.said{G':tJ}(h:Mem w H M G R)(hg:∀w,G w→G' w):Mem w H M G' R:=⟨h.ik,h.ov,h.off,h.mlt,fun w' c=>hg w' (h.g w' c),h.r⟩
theorem Mem.congr(h:Mem w H M G R)(k:Nat){e:bU}(hk:H[k]? =some e)(f':tD)(hf:∀i,i<e.n→e.f i=f' i):Mem w (H.set k ⟨e.a,e.t,e.n,f'⟩) M G R:=
 h.turn hk (av.refl e.a w) ((h.ik e (Ap hk)).congr hf)
theorem Mem.at(h:Mem w H M G R)(k:Nat){e:bU}(hk:H[k]? =some e):aY w e.a e.t e.n e.f:=h.ik e (Ap hk)
end
section
variable{P:tY}{ops:tP}{rest:List Oper}{o:Oper}{a:Act}{Q:tI}{w w':tA}
theorem sK{t:tZ}{v:tK}(h:(P.info? t).map (·.zero)=some (some v))(w:tA):(zeroValue t).run P w= .ok v w:=by
 cases hq:P.info? t with
 |none=>simp[hq]at h
 |some i=>
  have hs:i.zero=some v:=by simpa[hq]using h
  simp[zeroValue,typeInfo,Sem.run_bind,hq,hs]
theorem Gu(t:tZ)(m:Nat)(z:tD)(ho:o.op= .alloc t)(hw:Region.wanted o (yielded ops a.tmps)=true)(hz:(P.info? t).map (·.zero)=some (some (vF z m)))
  (h:∀w',aY w' w.heap.size t m z→bZ w w'→w'.heap.size=w.heap.size+1→wpList P ops Q rest (a.put o.dst (.pointer (some ⟨w.heap.size,0,none⟩))) w'):wpList P ops Q (o::rest) a w:=
 Bm fun K hK=>by
  rw[if_pos hw];have:=hK _ _ (h _ (aY.new w t m z) (aA _ _) (by simp));unfold Oper.wp;simp only[execOp,ho];simpa[go_sem,sK hz]using this
theorem Dc(Z:tR)(off:Nat):∀(l:tM) (k:Nat),off+k+l.length≤Z.size→(List.foldl (fun(cs:tR) (x:Value×Nat)=>cs.setIfInBounds (off+x.2) x.1) Z (l.zipIdx k)).size=Z.size∧
  ∀i,(List.foldl (fun(cs:tR) (x:Value×Nat)=>cs.setIfInBounds (off+x.2) x.1) Z (l.zipIdx k))[i]? =if off+k≤i∧i<off+k+l.length then l[i-(off+k)]? else Z[i]?
 |[],k,_=>⟨rfl,fun i=>by rw[if_neg (by simp)];rfl⟩
 |v::l,k,h=>by
  simp only[List.length_cons]at h;obtain⟨h1,h2⟩:=Dc (Z.setIfInBounds (off+k) v) off l (k+1) (by simp;omega);simp only[List.zipIdx_cons,List.foldl_cons];refine⟨by simpa using h1,fun i=> ?_⟩;rw[h2];by_cases ha:off+(k+1)≤i∧i<off+(k+1)+l.length
  ·rw[if_pos ha,if_pos ⟨by omega,by simp;omega⟩,show i-(off+k)=(i-(off+(k+1)))+1 by omega];rfl
  ·rw[if_neg ha];by_cases hi:i=off+k
   ·subst hi;rw[if_pos ⟨by omega,by simp⟩];simp[show off+k<Z.size by omega]
   ·rw[if_neg (by simp;omega)];simp[show ¬off+k=i by omega]
theorem run_build{t:tZ}{fields:Array Go.Field}{places:Array (Nat×Nat)}{z g:tD}{n:Nat}{parts:Array (Nat×Value)}(hz:(P.info? t).map (·.zero)=some (some (vF z n)))(hu:P.underlying t=some (.struct fields))
  (hp:∀w,Sem.run P (Array.mapM (m:=Sem) (fun(f:Go.Field)=>do let s←sizeOf f.type;pure (f.offset,s)) fields) w= .ok places w) (hf:Instr.fill (places[·]?) (cm z 0 n).toArray parts.toList=some (cm g 0 n).toArray) (w:tA):(Instr.build t parts).run P w= .ok (vF g n) w:=by
 have hc:(vF z n).cells=(cm z 0 n).toArray:=rfl;simp only[Instr.build,Sem.run_bind,sK hz,Result.andThen_ok,run_underlying hu,hp,hc,hf,Sem.run_pure]
theorem Qz{t:tZ}{n:Nat}(parts:Array (Nat×Operand))(vs:Array (Nat×Value))(g:tD)(ho:o.op= .build t parts)(hw:Region.wanted o (yielded ops a.tmps)=true)(hv:(parts.map fun(i,x)=>(i,a.eval x))=vs)
  (hb:(Instr.build t vs).run P w= .ok (vF g n) w)
  (h:wpList P ops Q rest (a.put o.dst (vF g n)) w):wpList P ops Q (o::rest) a w:=
 Bm fun K hK=>by
  rw[if_pos hw];have:=hK _ _ h;unfold Oper.wp;simp only[execOp,ho,hv,Sem.run_bind,hb,Result.andThen_ok,Sem.run_pure];exact this
end
abbrev De(V:tW):World→World→Prop:=fun w w'=>dm (fun b=>b∈V) w w'
theorem nv{a:Nat}:a∉([]:tW):=fun h=>by cases h
abbrev WF(P:tY)(ops:tP)(Q:tI)(V:tW)(fx fl:tW)(σ:Ord)(n:Nat)(f:tD)(w:tA):Prop:=kU P ops Q (De V) fx fl σ ⟨kK n f,[]⟩ w
def sL(P:tY)(s k:Nat):Option Nat:=
 match P.underlying s with
 |some (.struct fs)=>match fs[k]? with
  |some f=>match P.info? f.type with
   |some i=>if i.size=0 then none else some f.offset
   |none=>none
  |none=>none
 |_=>none
def Gv(P:tY)(t:Nat):Option (Nat×Nat):=
 match P.underlying t with
 |some (.array len e)=>(P.info? e).map fun i=>(len,i.size)
 |_=>none
def ji(P:tY)(t:Nat):Option Nat:=
 match P.underlying t with
 |some (.slice e)=>(P.info? e).map fun i=>i.size
 |_=>none
def pq(P:tY)(t:Nat):Bool:=
 match P.underlying t with
 |some (.struct _)|some (.array ..)=>false
 |some _=>(P.info? t).any fun i=>i.size==1
 |none=>false
def vr(P:tY)(t m:Nat):Bool:=
 match P.underlying t with
 |some (.struct _)|some (.array ..)=>(P.info? t).any fun i=>i.size==m
 |_=>false
theorem Df{P:tY}{s k off:Nat}(h:sL P s k=some off)(b o:Nat)(w:tA):(Instr.fieldAt s (.pointer (some ⟨b,o,none⟩)) k).run P w= .ok (.pointer (some ⟨b,o+off,none⟩)) w:=by
 unfold sL at h;split at h
 ·rename_i fs hu;split at h
  ·rename_i f hf;split at h
   ·rename_i i hi;split at h
    ·cases h
    ·rename_i hs;cases h;simp[Instr.fieldAt,run_underlying hu,hf,Instr.sureAddr,fieldPlace,sizeOf,typeInfo,hi,hs,Addr.add_mid]
   ·cases h
  ·cases h
 ·cases h
theorem EG{P:tY}{t len sz:Nat}(h:Gv P t=some (len,sz))(b o j:Nat)(hj:j<len)(w:tA):(Instr.indexAt t (.pointer (some ⟨b,o,none⟩)) (iV (j:Int))).run P w= .ok (.pointer (some ⟨b,o+j*sz,none⟩)) w:=by
 unfold Gv at h;split at h
 ·rename_i l e hu;cases hi:P.info? e with
  |none=>simp[hi]at h
  |some i=>
   simp[hi]at h;obtain⟨rfl,rfl⟩:=h;simp[Instr.indexAt,run_underlying hu,asIntOf,Instr.sureAddr,sizeOf,typeInfo,hi,Addr.add_mid];intro h3;omega
 ·cases h
theorem U8{P:tY}{t sz:Nat}(h:ji P t=some sz)(b o len cap j:Nat)(hj:j<len)(w:tA):(Instr.indexAt t (.slice (some ⟨b,o,none⟩) len cap) (iV (j:Int))).run P w= .ok (.pointer (some ⟨b,o+j*sz,none⟩)) w:=by
 unfold ji at h;split at h
 ·rename_i e hu;cases hi:P.info? e with
  |none=>simp[hi]at h
  |some i=>
   simp[hi]at h;subst h;simp[Instr.indexAt,run_underlying hu,asIntOf,sizeOf,typeInfo,hi,Addr.add_mid];intro h3;omega
 ·cases h
theorem EH{P:tY}{t:Nat}(h:pq P t=true){b o:Nat}{v:tK}{w:tA}(hc:w.cell? ⟨b,o,none⟩=some v):(Instr.loadAt t (.pointer (some ⟨b,o,none⟩))).run P w= .ok v w:=by
 unfold pq at h;split at h
 ·cases h
 ·cases h
 ·rename_i d h1 h2 hu;have:(isAgg t).run P w= .ok false w:=by
   simp only[isAgg,Sem.run_bind,run_underlying hu,Result.andThen_ok];cases d<;>first|exact absurd rfl (h1 _)|exact absurd rfl (h2 _ _)|rfl
  simp[Instr.loadAt,Instr.sureAddr,loadVar,this,hc]
 ·cases h
theorem QA{P:tY}{t:Nat}(h:pq P t=true):(P.info? t).map (·.size)=some 1:=by
 unfold pq at h;split at h
 ·cases h
 ·cases h
 ·cases hi:P.info? t with
  |none=>simp[hi]at h
  |some i=>simpa[hi]using h
 ·cases h
theorem rJ{P:tY}{t m:Nat}(h:vr P t m=true):∃d,P.underlying t=some d∧d.isRow=true∧(P.info? t).map (·.size)=some m:=by
 unfold vr at h;split at h
 ·rename_i fs hu;refine⟨_,hu,rfl, ?_⟩;cases hi:P.info? t with
  |none=>simp[hi]at h
  |some i=>simpa[hi]using h
 ·rename_i n e hu;refine⟨_,hu,rfl, ?_⟩;cases hi:P.info? t with
  |none=>simp[hi]at h
  |some i=>simpa[hi]using h
 ·cases h
theorem xp{α β:Type}(g:α→β)(xs:Array α):xs.map g=(xs.toList.map g).toArray:=by
 apply Array.ext';simp
theorem aY.EI{w w':tA}{R T n:Nat}{f:tD}{V:tW}(h:aY w R T n f)(c:dm (fun b=>b∈V) w w')(hV:R∉V):aY w' R T n f:=by
 unfold aY at h⊢;rw[←h];exact c.block R (aY.lt (f:=f) (T:=T) (n:=n) h) hV
section
variable{P:tY}{ops:tP}{Q:tI}{V:tW}{fx fl:tW}{n:Nat}{f:tD}{w:tA}{i:Nat}{t:Ord}{o:Oper}{d:Nat}
theorem nl(h:Q .normal ⟨kK n f,[]⟩ w):WF P ops Q V fx fl .nil n f w:=h
theorem QB{v:tK}(ho:ops[i]? =some o)(hd:o.dst=some d)(hw:Region.wanted o (yielded ops (kK n f))=true)(hK:jh n ops=true)(hv:∀w',De V w w'→(execOp (ev f) o).run P w'= .ok (.value v) w')
  (h:WF P ops Q V fx fl t n (up f d v) w):WF P ops Q V fx fl (.rd i t) n f w:=by
 refine⟨o,v,ho,.inl ⟨hw,fun w' hb=> ?_⟩, ?_⟩
 ·rw[qq (na hK ho)];exact hv w' hb
 ·rw[mN,hd];exact h
theorem Dg{v:tK}(ho:ops[i]? =some o)(hd:o.dst=some d)(hw:Region.wanted o (yielded ops (kK n f))=true)(hK:jh n ops=true)(hv:∀w',(execOp (ev f) o).run P w'= .ok (.value v) w')
  (h:WF P ops Q V fx fl t n (up f d v) w):WF P ops Q V fx fl (.pu i t) n f w:=by
 refine⟨o,v,ho,.inl ⟨hw,fun w'=> ?_⟩, ?_⟩
 ·rw[qq (na hK ho)];exact hv w'
 ·rw[mN,hd];exact h
theorem aeh(ho:ops[i]? =some o)(hd:o.dst=some d)(hw:Region.wanted o (yielded ops (kK n f))=false)(h:WF P ops Q V fx fl t n (up f d undef) w):WF P ops Q V fx fl (.pu i t) n f w:=by
 refine⟨o,undef,ho,.inr ⟨hw,rfl⟩, ?_⟩;rw[mN,hd];exact h
theorem aei(ho:ops[i]? =some o)(hd:o.dst=some d)(hw:Region.wanted o (yielded ops (kK n f))=false)(h:WF P ops Q V fx fl t n (up f d undef) w):WF P ops Q V fx fl (.rd i t) n f w:=by
 refine⟨o,undef,ho,.inr ⟨hw,rfl⟩, ?_⟩;rw[mN,hd];exact h
def rK:BinOp→Int→Int→Option Bool
 | .eql,a,b=>some (a==b)
 | .neq,a,b=>some (a !=b)
 | .lss,a,b=>some (a<b)
 | .leq,a,b=>some (a≤b)
 | .gtr,a,b=>some (a>b)
 | .geq,a,b=>some (a≥b)
 |_,_,_=>none
theorem CS{a b:Int}(h:a=b):rK .eql a b=some true:=Au some (beq_iff_eq.2 h)
theorem CV{a b:Int}(h:¬a=b):rK .eql a b=some false:=Au some (beq_eq_false_iff_ne.2 h)
theorem neT{a b:Int}(h:¬a=b):rK .neq a b=some true:=Au some (bne_iff_ne.2 h)
theorem neF{a b:Int}(h:a=b):rK .neq a b=some false:=Au some (by subst h;exact bne_self_eq_false a)
theorem CD{a b:Int}(h:a<b):rK .lss a b=some true:=Au some (Aq h)
theorem CX{a b:Int}(h:¬a<b):rK .lss a b=some false:=Au some (Ai h)
theorem gtT{a b:Int}(h:b<a):rK .gtr a b=some true:=Au some (Aq h)
theorem gtF{a b:Int}(h:¬b<a):rK .gtr a b=some false:=Au some (Ai h)
theorem geT{a b:Int}(h:b≤a):rK .geq a b=some true:=Au some (Aq h)
theorem geF{a b:Int}(h:¬b≤a):rK .geq a b=some false:=Au some (Ai h)
def gM(a:tB)(l sz cap:Nat):Option Addr:=if cap=l then a else a.map (·.add (l*sz))
theorem Nz{P:tY}{s sz:Nat}(hf:ji P s=some sz)(a:tB)(len cap l h:Nat)(hl:l≤h)(hh:h≤cap)(w:tA):
  (Instr.sliceAt s (.slice a len cap) (some (iV (l:Int))) (some (iV (h:Int))) none).run P w= .ok (.slice (gM a l sz cap) (h-l) (cap-l)) w:=by
 unfold ji at hf;split at hf
 ·rename_i e hu;cases hi:P.info? e with
  |none=>simp[hi]at hf
  |some i=>
   simp[hi]at hf;subst hf;simp[Instr.sliceAt,Instr.slice,run_underlying hu,Instr.sliceBounds,Instr.sliceBound,asIntOf,sizeOf,typeInfo,hi,hl,hh,gM]
 ·cases hf
theorem EJ{P:tY}{s sz:Nat}(hf:ji P s=some sz)(a:tB)(len cap l:Nat)(hl:l≤len)(w:tA):
  (Instr.sliceAt s (.slice a len cap) (some (iV (l:Int))) none none).run P w= .ok (.slice (gM a l sz cap) (len-l) (cap-l)) w:=by
 unfold ji at hf;split at hf
 ·rename_i e hu;cases hi:P.info? e with
  |none=>simp[hi]at hf
  |some i=>
   simp[hi]at hf;subst hf;simp[Instr.sliceAt,Instr.slice,run_underlying hu,Instr.sliceBounds,Instr.sliceBound,asIntOf,sizeOf,typeInfo,hi,hl,gM]
 ·cases hf
theorem NA(a:tB)(sz cap:Nat):gM a 0 sz cap=a:=by
 unfold gM;split
 ·rfl
 ·cases a<;>simp[Addr.add]
theorem EK{P:tY}{s sz:Nat}(hf:ji P s=some sz)(a:tB)(len cap h:Nat)(hh:h≤cap)(w:tA):
  (Instr.sliceAt s (.slice a len cap) none (some (iV (h:Int))) none).run P w= .ok (.slice a h cap) w:=by
 have e:=NA a sz cap;unfold gM at e;unfold ji at hf;split at hf
 ·rename_i e' hu;cases hi:P.info? e' with
  |none=>simp[hi]at hf
  |some i=>
   simp[hi]at hf;subst hf;simp only[Nat.zero_mul]at e;simp[Instr.sliceAt,Instr.slice,run_underlying hu,Instr.sliceBounds,Instr.sliceBound,asIntOf,sizeOf,typeInfo,hi,hh,e]
 ·cases hf
theorem LD{w1:tA}(hx:(fx.contains i||fl.contains i)=true)(hb:bZ w w1):fT (De V) fx fl i w w1:=by
 unfold fT;cases h:fx.contains i with
 |true=>trivial
 |false=>
  rw[h]at hx;have hx:fl.contains i=true:=by simpa using hx
  rw[hx];exact dm.of hb
theorem gk{w1:tA}(hx:fx.contains i=true):fT (De V) fx fl i w w1:=by
 unfold fT;rw[hx];trivial
theorem oz{v:tK}{w1:tA}(ho:ops[i]? =some o)(hd:o.dst=some d)(hw:Region.wanted o (yielded ops (kK n f))=true)(hK:jh n ops=true)(hr:(execOp (ev f) o).run P w= .ok (.value v) w1)(ht:fT (De V) fx fl i w w1)(h:WF P ops Q V fx fl t n (up f d v) w1):WF P ops Q V fx fl (.ef i t) n f w:=by
 show wpOp P ops Q i _ _ w;unfold wpOp;simp only[ho,hw,if_true];refine .inl ?_;unfold Oper.wp;rw[qq (na hK ho),hr,Oper.upon_value,mN,hd];exact⟨ht,h⟩
theorem qs{w1:tA}(ho:ops[i]? =some o)(hd:o.dst=none)(hw:Region.wanted o (yielded ops (kK n f))=true)(hK:jh n ops=true)(hr:(execOp (ev f) o).run P w= .ok .skip w1)(ht:fT (De V) fx fl i w w1)(h:WF P ops Q V fx fl t n f w1):WF P ops Q V fx fl (.ef i t) n f w:=by
 show wpOp P ops Q i _ _ w;unfold wpOp;simp only[ho,hw,if_true];refine .inl ?_;unfold Oper.wp;rw[qq (na hK ho),hr,Oper.upon_skip,mN,hd];exact⟨ht,h⟩
theorem U9{g:Nat}{args:tR}(ho:ops[i]? =some o)(hd:o.dst=some d)(hw:Region.wanted o (yielded ops (kK n f))=true)(hK:jh n ops=true)(hr:(execOp (ev f) o).run P w= .ok (.enter g args) w)(hc:Calls P g args w fun x w'=>∃v,x= .returned v∧fT (De V) fx fl i w w'∧WF P ops Q V fx fl t n (up f d v) w'):WF P ops Q V fx fl (.ef i t) n f w:=by
 show wpOp P ops Q i _ _ w;unfold wpOp;simp only[ho,hw,if_true];refine .inl ?_;unfold Oper.wp;rw[qq (na hK ho),hr,Oper.upon_enter];refine hc.mono fun x w' hx=> ?_;obtain⟨v,rfl,ht,h⟩:=hx;show fT _ _ _ _ _ _∧kU P ops Q (De V) fx fl t _ w';rw[mN,hd];exact⟨ht,h⟩
theorem NC{c:tU}{xs:Array Operand}{ts:Array TypeId}{g:Nat}{first cap:tR}(hp:o.op= .call ⟨.value c,xs,ts⟩)(hc:ev f c= .func (.func g) first cap)(he:∀args w,(callFunc g args).run P w= .ok (.enter g args) w)(w:tA):(execOp (ev f) o).run P w= .ok (.enter g (first++xs.map (ev f)++cap)) w:=by
 simp[execOp,hp,resolve,hc,Deferred.ofValue,invoke,he]
theorem aep{c:tU}{xs:Array Operand}{ts:Array TypeId}{g:Nat}{first cap:tR}{args:tM}(he:∀args w,(callFunc g args).run P w= .ok (.enter g args) w)(ho:ops[i]? =some o)(hd:o.dst=some d)(hw:Region.wanted o (yielded ops (kK n f))=true)(hK:jh n ops=true)(hp:o.op= .call ⟨.value c,xs,ts⟩)(hcv:ev f c= .func (.func g) first cap)(ha:first.toList++xs.toList.map (ev f)++cap.toList=args)(hc:Calls P g args.toArray w fun x w'=>∃v,x= .returned v∧fT (De V) fx fl i w w'∧WF P ops Q V fx fl t n (up f d v) w'):WF P ops Q V fx fl (.ef i t) n f w:=
 U9 ho hd hw hK ((NC hp hcv he w).trans (by rw[←ha];congr 2;apply Array.ext';simp)) hc
variable{H:List bU}{M:tF}{G R:tJ}
theorem aeq{s m b q:Nat}{x y:tU}{g:tD}(hs:vr P s m=true)(hS:Mem w H M G R)(k:Nat){e:bU}(he:H[k]? =some e)(hx:fx.contains i=true)(ho:ops[i]? =some o)(hd:o.dst=none)(hw:Region.wanted o (yielded ops (kK n f))=true)(hK:jh n ops=true)(hp:o.op= .store s x y)(hxv:ev f x= .pointer (some ⟨b,q,none⟩))(hy:ev f y=vF g m)(ha:e.a=b)(hq:q+m≤e.n)(hg:aS g m)
  (h:∀w',Mem w' (H.set k ⟨e.a,e.t,e.n,gf e.f q m g⟩) M G R→WF P ops Q V fx fl t n f w'):WF P ops Q V fx fl (.ef i t) n f w:=by
 obtain⟨dd,hu,hr,hi⟩:=rJ hs;subst ha;have fb:=hS.at k he;refine qs (w1:=w.setCells e.a q (cm g 0 m)) ho hd hw hK ?_ (gk hx) (h _ (hS.turn he (av.sH e.a _ q w) (fb.put q m g hq)));have:=run_storeAt_mid (P:=P) w e.a q s (cm g 0 m).toArray (by simpa[bK]using fb.there q m hq) (by simpa[bK]using hi) hg.all;simp only[execOp,hp,hxv,hy,Sem.run_bind,this,Result.andThen_ok,Sem.run_pure]
theorem rM{P:tY}{t:Nat}(h:pq P t=true){b o:Nat}{v:tK}{w:tA}(hv:v.cells= #[v])(h1:v.oneCell'=true)(ht:w.there b o 1):(Instr.storeAt t (.pointer (some ⟨b,o,none⟩)) v).run P w= .ok () (w.setCell ⟨b,o,none⟩ v):=by
 have:=run_storeCells_cells (P:=P) b o [v] 0 w (fun j hj=>by simpa using(ht j (by simpa using hj)).1) (fun j hj=>by simpa using(ht j (by simpa using hj)).2)
  (fun x hx=>by simp at hx;subst hx;exact h1)
 have hi:=QA h;cases hq:P.info? t with
 |none=>simp[hq]at hi
 |some i=>
  have hs:i.size=1:=by simpa[hq]using hi
  simp only[Nat.add_zero]at this;simp[Instr.storeAt,Instr.sureAddr,storeVar,sizeOf,typeInfo,hq,hv,hs,this];rfl
theorem aer{s b q:Nat}{x y:tU}{v:tK}(hs:pq P s=true)(hS:Mem w H M G R)(k:Nat){e:bU}(he:H[k]? =some e)(hx:fx.contains i=true)(ho:ops[i]? =some o)(hd:o.dst=none)(hw:Region.wanted o (yielded ops (kK n f))=true)(hK:jh n ops=true)(hp:o.op= .store s x y)(hxv:ev f x= .pointer (some ⟨b,q,none⟩))(hy:ev f y=v)(ha:e.a=b)(hq:q<e.n)(ND:v.cells= #[v])(h1:v.oneCell'=true)
  (h:∀w',Mem w' (H.set k ⟨e.a,e.t,e.n,ot e.f q v⟩) M G R→WF P ops Q V fx fl t n f w'):WF P ops Q V fx fl (.ef i t) n f w:=by
 subst ha;have fb:=hS.at k he;refine qs (w1:=w.setCell ⟨e.a,q,none⟩ v) ho hd hw hK ?_ (gk hx) (h _ (hS.turn he (av.set e.a q w v) (fb.set q v hq)));simp only[execOp,hp,hxv,hy,Sem.run_bind,rM hs ND h1 (fb.there q 1 (by omega)),Result.andThen_ok,Sem.run_pure]
theorem U_{w1:tA}{R:Nat}(hx:(fx.contains i||fl.contains i)=true)(ht:av R w w1)(hV:R∈V):fT (De V) fx fl i w w1:=by
 unfold fT;cases h:fx.contains i with
 |true=>trivial
 |false=>
  rw[h]at hx;have hx:fl.contains i=true:=by simpa using hx
  rw[hx];exact⟨ht.os,ht.tape,ht.output,BZ ht.size.symm,fun b _ hb=>ht.block b (fun e=>hb (e▸hV))⟩
theorem aes{s m b q:Nat}{x y:tU}{g:tD}(hs:vr P s m=true)(hS:Mem w H M G R)(k:Nat){e:bU}(he:H[k]? =some e)(hV:e.a∈V)(hx:(fx.contains i||fl.contains i)=true)(ho:ops[i]? =some o)(hd:o.dst=none)(hw:Region.wanted o (yielded ops (kK n f))=true)(hK:jh n ops=true)(hp:o.op= .store s x y)(hxv:ev f x= .pointer (some ⟨b,q,none⟩))(hy:ev f y=vF g m)(ha:e.a=b)(hq:q+m≤e.n)(hg:aS g m)
  (h:∀w',Mem w' (H.set k ⟨e.a,e.t,e.n,gf e.f q m g⟩) M G R→WF P ops Q V fx fl t n f w'):WF P ops Q V fx fl (.ef i t) n f w:=by
 obtain⟨dd,hu,hr,hi⟩:=rJ hs;subst ha;have fb:=hS.at k he;refine qs (w1:=w.setCells e.a q (cm g 0 m)) ho hd hw hK ?_ (U_ hx (av.sH e.a _ q w) hV) (h _ (hS.turn he (av.sH e.a _ q w) (fb.put q m g hq)));have:=run_storeAt_mid (P:=P) w e.a q s (cm g 0 m).toArray (by simpa[bK]using fb.there q m hq) (by simpa[bK]using hi) hg.all;simp only[execOp,hp,hxv,hy,Sem.run_bind,this,Result.andThen_ok,Sem.run_pure]
def PS(Q:tI):Prop:=∀c a d v w,Q (.panic c) (a.put d v) w→Q (.panic c) a w
theorem Vb{fn:Func}{Rr:Ending→World→Prop}:PS (bodyPost P fn Rr):=fun c a d v w h=>by cases d<;>exact h
def Ord.idx:Ord→List Nat
 | .nil=>[]
 | .rd i t=>i::t.idx
 | .pu i t=>i::t.idx
 | .ef i t=>i::t.idx
 | .fk _ _ _ _=>[10000]
 | .f3 _ _ _ _ _ _=>[10000]
theorem oC{E:World→World→Prop}(hE:∀w,E w w):∀(σ:Ord) (a:Act) (w:tA),σ.idx.contains 10000=false→kU P ops Q E fx fl σ a w→wpOps P ops Q σ.idx a w
 | .nil,a,w,_,h=>h
 | .rd i t,a,w,hn,h=>by
  obtain⟨o,v,ho,hy,h⟩:=h;have hn:t.idx.contains 10000=false:=by
   simp only[Ord.idx,List.contains_cons,Bool.or_eq_false_iff]at hn;exact hn.2
  rw[Ord.idx,wpOps_cons];exact hy.wpOp ho (hE w) (oC hE t _ _ hn h)
 | .pu i t,a,w,hn,h=>by
  obtain⟨o,v,ho,hy,h⟩:=h;have hn:t.idx.contains 10000=false:=by
   simp only[Ord.idx,List.contains_cons,Bool.or_eq_false_iff]at hn;exact hn.2
  rw[Ord.idx,wpOps_cons];exact hy.wpOp ho (oC hE t _ _ hn h)
 | .ef i t,a,w,hn,h=>by
  have hn:t.idx.contains 10000=false:=by
   simp only[Ord.idx,List.contains_cons,Bool.or_eq_false_iff]at hn;exact hn.2
  rw[Ord.idx,wpOps_cons];exact wpOp_mono (fun a' w' h'=>oC hE t a' w' hn h'.2) h
 | .fk _ _ _ _,a,w,hn,_=>by simp[Ord.idx]at hn
 | .f3 _ _ _ _ _ _,a,w,hn,_=>by simp[Ord.idx]at hn
variable{fn:Func}{Rr:Ending→World→Prop}
end
section
variable{w w':tA}{H:List bU}{M:tF}{G R:tJ}
theorem Mem.begin{w:tA}{H:List bU}{M:tF}{G:tJ}(ik:∀e∈H,aY w e.a e.t e.n e.f)(ov:H.Pairwise fun x y=>x.a≠y.a)(off:∀e∈H,¬M e.a)(mlt:∀b,M b→b<w.heap.size)(g:∀w',dm (fun b=>b∈H.map bU.a∨M b) w w'→G w'):Mem w H M G (fun w'=>dm (fun b=>b∈H.map bU.a) w w'):=by
 refine⟨ik,fun i j x y hi hj EF=> ?_,off,mlt,g,fun _ c=>c⟩;obtain⟨li,rfl⟩:=Am.1 hi;obtain⟨lj,rfl⟩:=Am.1 hj;have hp:=Bp.1 ov;rcases Nat.lt_trichotomy i j with aM|heq|Ny
 ·exact absurd EF (hp i j li lj aM)
 ·exact heq
 ·exact absurd EF.symm (hp j i lj li Ny)
theorem Mem.put(h:Mem w H M G R)(k:Nat){e:bU}(hk:H[k]? =some e)(c:dm (fun b=>b=e.a) w w'){t m:Nat}{f':tD}{g:Nat}(hg:g=e.a∨w.heap.size≤g)(hn:aY w' g t m f'):Mem w' (H.set k ⟨g,t,m,f'⟩) M G R:=by
 have hm:e∈H:=Ap hk;have he:e.a∈H.map bU.a:=Ax.2 ⟨e,hm,rfl⟩;have ch:dm (fun b=>b∈H.map bU.a) w w':=⟨c.os,c.tape,c.output,c.size,fun b hb hu=>c.block b hb fun hb'=>hu (hb'▸he)⟩;have sub:∀x,x<w.heap.size→x∈(H.set k (⟨g,t,m,f'⟩:bU)).map bU.a→x∈H.map bU.a:=fun x hx hm=>by
  obtain⟨y,hy,rfl⟩:=Ax.1 hm;rcases List.mem_or_eq_of_mem_set hy with hy|rfl
  ·exact Ax.2 ⟨y,hy,rfl⟩
  ·rcases hg with rfl|hg
   ·exact he
   ·exact absurd hx (AY.2 hg)
 have at_:∀(i:Nat) (x:bU),(H.set k (⟨g,t,m,f'⟩:bU))[i]? =some x→(i=k∧x=⟨g,t,m,f'⟩)∨(i≠k∧H[i]? =some x∧x.a<w.heap.size∧x.a≠e.a):=fun i x hx=>by
  rw[List.getElem?_set]at hx;by_cases Jm:k=i
  ·subst Jm;rw[if_pos rfl]at hx;split at hx
   ·cases hx;exact .inl ⟨rfl,rfl⟩
   ·cases hx
  ·rw[if_neg Jm]at hx;exact .inr ⟨fun e=>Jm e.symm,hx,(h.ik x (Ap hx)).lt,fun hxa=>Jm (h.ov k i e x hk hx hxa.symm)⟩
 refine⟨fun x hx=> ?_,fun i j x y hx hy EF=> ?_,fun x hx=> ?_,fun b hb=>Aj (h.mlt b hb) c.size,fun w2 h2=>h.g w2 (dm.trans (U:=fun b=>b∈H.map bU.a∨M b) ⟨ch.os,ch.tape,ch.output,ch.size,fun b hb hu=>ch.block b hb (fun h=>hu (.inl h))⟩ h2 fun x hx hm=>hm.imp (sub x hx) id),fun w2 h2=>h.r w2 (ch.trans h2 sub)⟩
 ·obtain⟨i,hi⟩:=Cj hx;rcases at_ i x hi with⟨_,rfl⟩|⟨_,h1,h2,h3⟩
  ·exact hn
  ·have fb:=h.ik x (Ap h1);unfold aY at fb⊢;rw[←fb];exact c.block x.a h2 h3
 ·rcases at_ i x hx with⟨rfl,rfl⟩|⟨n1,e1,l1,d1⟩<;>rcases at_ j y hy with⟨rfl,rfl⟩|⟨n2,e2,l2,d2⟩
  ·rfl
  ·rcases hg with rfl|hg
   ·exact absurd EF.symm d2
   ·have EF:g=y.a:=EF;omega
  ·rcases hg with rfl|hg
   ·exact absurd EF d1
   ·have EF:x.a=g:=EF;omega
  ·exact h.ov i j x y e1 e2 EF
 ·rcases List.mem_or_eq_of_mem_set hx with hx|rfl
  ·exact h.off x hx
  ·rcases hg with rfl|hg
   ·exact h.off e hm
   ·exact fun hm=>absurd (h.mlt _ hm) (AY.2 hg)
end
def jv(P:tY)(t e sz kj:Nat):Bool:=
 match P.underlying t with
 |some (.slice e')=>e'==e&&(P.info? e).any fun i=>i.size==sz&&i.bytes==kj&&(match i.zero with|some z=>z.cells.size==sz|none=>false)&&decide (0<sz)
 |_=>false
theorem Dh{P:tY}{t e sz kj:Nat}(h:jv P t e sz kj=true):P.underlying t=some (.slice e)∧∃i z,P.info? e=some i∧i.zero=some z∧i.size=sz∧i.bytes=kj∧z.cells.size=sz∧0<sz:=by
 unfold jv at h;split at h
 ·rename_i e' hu;simp only[Bool.and_eq_true,beq_iff_eq]at h;obtain⟨rfl,h⟩:=h;refine⟨hu, ?_⟩;cases hi:P.info? e' with
  |none=>simp[hi]at h
  |some i=>
   simp only[hi,Option.any_some,Bool.and_eq_true,beq_iff_eq,decide_eq_true_eq]at h;obtain⟨⟨⟨h1,h2⟩,h3⟩,h4⟩:=h;cases hz:i.zero with
   |none=>rw[hz]at h3;cases h3
   |some z=>
    rw[hz]at h3;exact⟨i,z,rfl,hz,h1,h2,by simpa using h3,h4⟩
 ·cases h
theorem EL{w:tA}{g e m:Nat}{cur:tR}(h:w.heap[g]? =some (.cells cur e (0,0)))(hm:cur.size=m):aY w g e m (fun j=>cur.getD j undef):=by
 unfold aY;rw[h];congr 2;apply BS;intro i;by_cases hi:i<m
 ·have e1:(cm (fun j=>cur.getD j undef) 0 m).toArray[i]? =some (cur.getD i undef):=by
   have:=bX (fun j=>cur.getD j undef) 0 m i hi;rw[Ae]at this;simpa using this
  rw[e1,Cg (by omega)];simp[hm,hi]
 ·rw[Bc (by omega),Bc (by simp[bK];omega)]
section
variable{P:tY}{ops:tP}{Q:tI}{V:tW}{fx fl:tW}{n:Nat}{f:tD}{w:tA}{i:Nat}{t:Ord}{o:Oper}{d:Nat}{H:List bU}{M:tF}{G R:tJ}
theorem wJ{w:tA}{b e sz:Nat}{g:tD}(fb:aY w b e sz g):∀j u,(cm g 0 sz)[j]? =some u→w.cell? ((⟨b,0,none⟩:Addr).add j)=some u:=fun j u hu=>by
 have hj:j<sz:=by
  have:=(Am.1 hu).1;rwa [bK]at this
 rw[bX _ _ _ _ hj,Ae]at hu;cases hu;rw[BG,Ae];exact fb.at j hj
theorem rN{s:Nat}{x y:tU}(hp:o.op= .call ⟨.builtin .append,#[x,y],#[s,s]⟩){v u:tK}(hx:ev f x=v)(hy:ev f y=u){r:tK}{w1:tA}(hr:(Builtin.append_ #[s,s] o.type #[v,u]).run P w= .ok r w1):(execOp (ev f) o).run P w= .ok (.value r) w1:=by
 simp[execOp,hp,resolve,hx,hy,invoke,builtin,hr]
end
namespace Rv
inductive Sg where
 |o (x:tK)
 |p (j q b:Nat)
 |f (m:Nat) (g:tD)
def Sg.sz:Sg→Nat
 | .o _=>1
 | .p _ _ _=>1
 | .f m _=>m
def Sg.cl:Sg→List Value
 | .o x=>[x]
 | .p _ q b=>[.pointer (some ⟨b,q,none⟩)]
 | .f m g=>cm g 0 m
def fj:List Sg→Nat
 |[]=>0
 |[s]=>s.sz
 |s::l=>fj l+s.sz
def dx:List Sg→List Value
 |[]=>[]
 |[s]=>s.cl
 |s::l=>s.cl++dx l
theorem eN(s:Sg)(l:List Sg):dx (s::l)=s.cl++dx l:=by
 cases l with
 |nil=>show s.cl=s.cl++[];rw[As]
 |cons _ _=>rfl
theorem QC(s:Sg)(l:List Sg):fj (s::l)=s.sz+fj l:=by
 cases l with
 |nil=>rfl
 |cons _ _=>exact Nat.add_comm ..
theorem Sg.len(s:Sg):s.cl.length=s.sz:=by cases s<;>first|rfl|exact bK _ _ _
theorem cL:∀l:List Sg,(dx l).length=fj l
 |[]=>rfl
 |s::l=>by rw[eN,QC,Ac,s.len,cL l]
theorem dZ:∀l k:List Sg,dx (l++k)=dx l++dx k
 |[],k=>rfl
 |s::l,k=>by rw[List.cons_append,eN,eN,dZ l k,Az]
def iM:List Sg→Nat→List Sg
 |[],_=>[]
 |s::l,q=>match q with
  |0=>s::l
  |q+1=>match s with
   | .f m g=>cond (Nat.ble m (q+1)) (iM l (q+1-m)) (.f (m-(q+1)) (fun j=>g (j+(q+1)))::l)
   |_=>iM l q
def eW:List Sg→Nat→List Sg
 |[],_=>[]
 |s::l,q=>match q with
  |0=>[]
  |q+1=>match s with
   | .f m g=>cond (Nat.ble m (q+1)) (.f m g::eW l (q+1-m)) [.f (q+1) g]
   |s=>s::eW l q
theorem QD(g:tD)(m q:Nat):(cm g 0 m).drop q=cm (fun j=>g (j+q)) 0 (m-q):=by
 apply BF;intro i;rw[BI];by_cases h:i<m-q
 ·rw[bX _ _ _ _ h,bX _ _ _ _ (by omega),Ae,Ae,Nat.add_comm]
 ·rw[gH _ _ _ _ (by omega),gH _ _ _ _ (by omega)]
theorem QE(g:tD)(m q:Nat)(h:q≤m):(cm g 0 m).take q=cm g 0 q:=by
 apply BF;intro i;rw[AP];by_cases hi:i<q
 ·rw[if_pos hi,bX _ _ _ _ hi,bX _ _ _ _ (by omega)]
 ·rw[if_neg hi,gH _ _ _ _ (by omega)]
theorem iN:∀(l:List Sg) (q:Nat),dx (iM l q)=(dx l).drop q
 |[],q=>by simp[iM,dx]
 |s::l,0=>rfl
 |s::l,q+1=>by
  rw[eN,List.drop_append,s.len];cases s with
  |f m g=>
   show dx (cond (Nat.ble m (q+1)) _ _)=_;cases hb:Nat.ble m (q+1)with
   |true=>
    have hle:=BD hb;show dx (iM l (q+1-m))=(cm g 0 m).drop (q+1)++_;rw[Ca (by rw[bK];exact hle),iN l];rfl
   |false=>
    have aM:q+1<m:=by
     rcases AA (q+1) m with h|h
     ·exact h
     ·rw[Nat.ble_eq_true_of_le h]at hb;cases hb
    show dx (.f (m-(q+1)) _::l)=_;rw[eN,show q+1-(Sg.f m g).sz=0 from Nat.sub_eq_zero_of_le (Nat.le_of_lt aM),List.drop_zero];exact Au (·++dx l) (QD g m (q+1)).symm
  |o x=>
   show dx (iM l q)=_;rw[iN l,show q+1-(Sg.o x).sz=q from rfl,show(Sg.o x).cl.drop (q+1)=[] from by simp[Sg.cl]];rfl
  |p a b c=>
   show dx (iM l q)=_;rw[iN l,show q+1-(Sg.p a b c).sz=q from rfl,show(Sg.p a b c).cl.drop (q+1)=[] from by simp[Sg.cl]];rfl
theorem jy:∀(l:List Sg) (q:Nat),dx (eW l q)=(dx l).take q
 |[],q=>by simp[eW,dx]
 |s::l,0=>by simp[eW,dx]
 |s::l,q+1=>by
  rw[eN,List.take_append,s.len];cases s with
  |f m g=>
   show dx (cond (Nat.ble m (q+1)) _ _)=_;cases hb:Nat.ble m (q+1)with
   |true=>
    have hle:=BD hb;show dx (.f m g::eW l (q+1-m))=_;rw[eN,jy l,AJ (l:=(Sg.f m g).cl) (by rw[Sg.len];exact hle)];rfl
   |false=>
    have aM:q+1<m:=by
     rcases AA (q+1) m with h|h
     ·exact h
     ·rw[Nat.ble_eq_true_of_le h]at hb;cases hb
    show cm g 0 (q+1)=(cm g 0 m).take (q+1)++_;rw[QE _ _ _ (Nat.le_of_lt aM),show q+1-(Sg.f m g).sz=0 from Nat.sub_eq_zero_of_le (Nat.le_of_lt aM),List.take_zero,As]
  |o x=>
   show dx (.o x::eW l q)=_;rw[eN,jy l];simp[Sg.cl,Sg.sz]
  |p a b c=>
   show dx (.p a b c::eW l q)=_;rw[eN,jy l];simp[Sg.cl,Sg.sz]
inductive SV where
 |o (x:tK)
 |p (j q b:Nat)
 |g (l:List Sg)
def SV.val:SV→Value
 | .o x=>x
 | .p _ q b=> .pointer (some ⟨b,q,none⟩)
 | .g l=> .agg (dx l).toArray
def SV.kx:SV→List Sg
 | .o x=>[.o x]
 | .p j q b=>[.p j q b]
 | .g l=>l
inductive AV where
 |s (v:SV)
 |t (l:List SV)
def AV.val:AV→Value
 | .s v=>v.val
 | .t l=> .tuple (l.map SV.val).toArray
abbrev vv(x:tK):AV:= .s (.o x)
abbrev vp(j q b:Nat):AV:= .s (.p j q b)
abbrev vg(l:List Sg):AV:= .s (.g l)
abbrev vf(m:Nat)(g:tD):AV:= .s (.g [.f m g])
abbrev vi(n:Int):AV:= .s (.o (iV n))
abbrev vt(l:List SV):AV:= .t l
def cn(f:Nat→AV):Nat→Value:=fun i=>(f i).val
def ua(f:Nat→AV)(d:Nat)(v:AV):Nat→AV:=fun i=>cond (Nat.beq i d) v (f i)
theorem jz(f:Nat→AV)(d:Nat)(v:AV):cn (ua f d v)=up (cn f) d v.val:=by
 funext i;unfold cn ua up;cases Nat.beq i d<;>rfl
def ea(f:Nat→AV):Operand→AV
 | .tmp t=>f t
 | .const v=>vv v
 | .global g=>vv (.pointer (some ⟨g,0,none⟩))
 | .func g=>vv (.func (.func g) #[] #[])
theorem bz(f:Nat→AV)(x:tU):(ea f x).val=ev (cn f) x:=by cases x<;>rfl
def XZ{α:Type}:List Sg→(List Sg→α)→α
 |[],k=>k []
 | .o x::l,k=>XZ l fun l=>k (.o x::l)
 | .p j q b::l,k=>XZ l fun l=>k (.p j q b::l)
 | .f m g::l,k=>XZ l fun l=>k (.f m g::l)
theorem rO{α:Type}:∀(l:List Sg) (k:List Sg→α),XZ l k=k l
 |[],_=>rfl
 | .o _::l,_=>rO l _
 | .p _ _ _::l,_=>rO l _
 | .f _ _::l,_=>rO l _
structure Ty where
 id:Nat
 kd:Nat
 m:Nat
 fl:List (Nat×Nat×Bool)
 el:Nat
 es:Nat
 ar:Nat
 z:List Sg
inductive Tr where
 |l
 |n (a:Tr) (e:Ty) (b:Tr)
def Tr.find(s:Nat):Tr→Option Ty
 | .l=>none
 | .n a e b=>cond (Nat.beq s e.id) (some e) (cond (Nat.blt s e.id) (a.find s) (b.find s))
def Tr.all(p:Ty→Bool):Tr→Bool
 | .l=>true
 | .n a e b=>a.all p&&(p e&&b.all p)
theorem Tr.xq{p:Ty→Bool}{s:Nat}{e:Ty}:∀{t:Tr},t.all p=true→t.find s=some e→p e=true∧e.id=s
 | .l,_,h=>by cases h
 | .n a x b,ha,h=>by
  unfold Tr.all at ha;simp only[Bool.and_eq_true]at ha;unfold Tr.find at h;cases hb:Nat.beq s x.id with
  |true=>rw[hb]at h;cases h;exact⟨ha.2.1,(Bb hb).symm⟩
  |false=>
   rw[hb]at h;cases hc:Nat.blt s x.id with
   |true=>rw[hc]at h;exact xq ha.1 h
   |false=>rw[hc]at h;exact xq ha.2.2 h
def Vc(P:tY)(s:Nat):Option (List (Nat×Nat)):=match P.underlying s with
 |some (.struct fs)=>fs.toList.mapM fun f=>(P.info? f.type).map fun i=>(f.offset,i.size)
 |_=>none
def Vd(P:tY)(s:Nat):Option Nat:=match P.underlying s with
 |some (.slice e)=>some e
 |some (.array _ e)=>some e
 |_=>none
def YV(P:tY)(s:Nat):Bool:=match P.underlying s with
 |some (.func _ _ _)=>true
 |_=>false
def Ty.fm(P:tY)(e:Ty):Bool:=Nat.beq (fj e.z) e.m&&match e.kd with
 |0=>pq P e.id&&Nat.beq e.m 1
 |1=>vr P e.id e.m&&(Vc P e.id==some (e.fl.map fun x=>(x.1,x.2.1)))&&e.fl.all fun x=> !(Nat.beq x.2.1 0)
 |2=>pq P e.id&&Nat.beq e.m 1&&(ji P e.id==some e.es)&&(Vd P e.id==some e.el)
 |4=>pq P e.id&&Nat.beq e.m 1&&YV P e.id
 |_=>vr P e.id e.m&&(Gv P e.id==some (e.ar,e.es))&&(Vd P e.id==some e.el)
def Ty.fI(e:Ty):Bool:=match e.kd with
 |0=>true
 |2=>true
 |4=>true
 |_=>false
def Ty.zero(e:Ty):Value:=match e.fI with
 |true=>(dx e.z).headD undef
 |false=> .agg (dx e.z).toArray
def Tr.list:Tr→List Ty
 | .l=>[]
 | .n a e b=>a.list++(e::b.list)
structure Tr.Ok(T:Tr)(P:tY):Prop where
 g:T.all (Ty.fm P)=true
 z:T.list.map (fun e=>(P.info? e.id).map (·.zero))=T.list.map fun e=>some (some e.zero)
 m:P.follows .mixedOrders=true
theorem Tr.xr{s:Nat}{e:Ty}:∀{t:Tr},t.find s=some e→e∈t.list
 | .l,h=>by cases h
 | .n a x b,h=>by
  unfold Tr.find at h;unfold Tr.list;cases hb:Nat.beq s x.id with
  |true=>rw[hb]at h;cases h;simp
  |false=>
   rw[hb]at h;cases hc:Nat.blt s x.id with
   |true=>rw[hc]at h;exact Br _ (xr h)
   |false=>rw[hc]at h;exact Bo _ (AF _ (xr h))
section
variable{P:tY}{T:Tr}{s:Nat}{e:Ty}
theorem Tr.Ok.fm(h:T.Ok P)(hf:T.find s=some e):e.fm P=true∧e.id=s:=Tr.xq h.g hf
theorem Tr.Ok.zero(h:T.Ok P)(hf:T.find s=some e):(P.info? s).map (·.zero)=some (some e.zero):=by
 have:=List.map_inj_left.1 h.z e (Tr.xr hf);rw[←(h.fm hf).2];exact this
theorem Ty.one(h:e.fm P=true)(hk:e.fI=true):pq P e.id=true∧e.m=1:=by
 unfold Ty.fm at h;unfold Ty.fI at hk;rw[AG]at h;have h:=h.2;split at h<;>simp only[Bool.and_eq_true]at h
 ·exact⟨h.1,Bb h.2⟩
 ·rename_i k;rw[k]at hk;cases hk
 ·exact⟨h.1.1.1,Bb h.1.1.2⟩
 ·exact⟨h.1.1,Bb h.1.2⟩
 ·split at hk
  ·contradiction
  ·contradiction
  ·contradiction
  ·cases hk
theorem Ty.row(h:e.fm P=true)(hk:e.fI=false):vr P e.id e.m=true:=by
 unfold Ty.fm at h;unfold Ty.fI at hk;rw[AG]at h;have h:=h.2;split at h<;>simp only[Bool.and_eq_true]at h
 ·rename_i k;rw[k]at hk;cases hk
 ·exact h.1.1
 ·rename_i k;rw[k]at hk;cases hk
 ·rename_i k;rw[k]at hk;cases hk
 ·exact h.1.1
theorem Ty.fn(h:e.fm P=true)(hk:e.kd=4):YV P e.id=true:=by
 unfold Ty.fm at h;rw[AG,hk]at h;simp only[Bool.and_eq_true]at h;exact h.2.2
theorem Ty.CZ(h:e.fm P=true)(hk:e.kd=2):ji P e.id=some e.es∧Vd P e.id=some e.el:=by
 unfold Ty.fm at h;rw[AG,hk]at h;simp only[Bool.and_eq_true,beq_iff_eq]at h;exact⟨h.2.1.2,h.2.2⟩
theorem Ty.arr(h:e.fm P=true)(hk:e.kd=3):Gv P e.id=some (e.ar,e.es):=by
 unfold Ty.fm at h;rw[AG,hk]at h;simp only[Bool.and_eq_true,beq_iff_eq]at h;exact h.2.1.2
theorem Ty.plc(h:e.fm P=true)(hk:e.kd=1):Vc P e.id=some (e.fl.map fun x=>(x.1,x.2.1))∧∀x∈e.fl,¬x.2.1=0:=by
 unfold Ty.fm at h;rw[AG,hk]at h;simp only[Bool.and_eq_true,beq_iff_eq,List.all_eq_true,Bool.not_eq_true']at h;refine⟨h.2.1.2,fun x hx e0=> ?_⟩;have:=h.2.2 x hx;rw[e0,Nat.beq_refl]at this;cases this
theorem QF(h:e.fm P=true)(hk:e.kd=1){k:Nat}{x:Nat×Nat×Bool}(hx:e.fl[k]? =some x):sL P e.id k=some x.1:=by
 obtain⟨h1,h2⟩:=Ty.plc h hk;unfold Vc at h1;split at h1
 ·rename_i fs hu;have hm:∀(l:List Go.Field) (r:List (Nat×Nat)) (k:Nat) (y:Nat×Nat),l.mapM (fun f=>(P.info? f.type).map fun i=>(f.offset,i.size))=some r→r[k]? =some y→∃f i,l[k]? =some f∧P.info? f.type=some i∧y=(f.offset,i.size):=by
   intro l
   induction l with
   |nil=>intro r k y hr hy;simp at hr;subst hr;simp at hy
   |cons f l ih=>
    intro r k y hr hy;rw[List.mapM_cons]at hr;cases hi:P.info? f.type with
    |none=>simp[hi]at hr
    |some i=>
     cases hl:l.mapM (fun f=>(P.info? f.type).map fun i=>(f.offset,i.size))with
     |none=>simp[hi,hl]at hr
     |some r'=>
      simp[hi,hl]at hr;subst hr;cases k with
      |zero=>simp at hy;exact⟨f,i,rfl,hi,hy.symm⟩
      |succ k=>
       obtain⟨f',i',e1,e2,e3⟩:=ih r' k y hl (by simpa using hy);exact⟨f',i',by simpa using e1,e2,e3⟩
  obtain⟨f,i,e1,e2,e3⟩:=hm fs.toList _ k (x.1,x.2.1) h1 (by rw[Ar,hx];rfl);have e1:fs[k]? =some f:=by simpa using e1
  obtain⟨e3,e4⟩:=AR e3;have hs:¬i.size=0:=fun e0=>h2 x (Ap hx) (e4.trans e0);unfold sL;simp[hu,e1,e2,hs,e3]
 ·cases h1
end
structure En where
 a:Nat
 t:Nat
 l:List Sg
def cD:List Sg→Nat→Value
 |[.f _ g]=>g
 |l=>fun i=>(dx l).getD i undef
theorem iU(l:List Sg){i:Nat}(hi:i<fj l):cD l i=(dx l).getD i undef:=by
 unfold cD;split
 ·rename_i m g;have hi:i<m:=hi;show g i=(cm g 0 m).getD i undef;rw[Ah,bX _ _ _ _ hi,Ae];rfl
 ·rfl
def En.ik(e:En):bU:=⟨e.a,e.t,fj e.l,cD e.l⟩
abbrev hs(H:List En):List bU:=H.map En.ik
def nth{α:Type}:List α→Nat→Option α
 |[],_=>none
 |x::_,0=>some x
 |_::l,k+1=>nth l k
theorem eY{α:Type}:∀(l:List α) (k:Nat),nth l k=l[k]?
 |[],_=>by simp[nth]
 |x::l,0=>by simp[nth]
 |x::l,k+1=>by simp[nth,eY l k]
def YW{α β:Type}:List α→Nat→α→(List α→β)→β
 |[],_,_,k=>k []
 |_::l,0,e,k=>k (e::l)
 |x::l,j+1,e,k=>YW l j e fun l=>k (x::l)
theorem LF{α β:Type}:∀(l:List α) (j:Nat) (e:α) (k:List α→β),YW l j e k=k (l.set j e)
 |[],_,_,_=>rfl
 |_::_,0,_,_=>rfl
 |_::l,j+1,e,_=>LF l j e _
def YX{α β:Type}:List α→α→(List α→β)→β
 |[],e,k=>k [e]
 |x::l,e,k=>YX l e fun l=>k (x::l)
theorem EM{α β:Type}:∀(l:List α) (e:α) (k:List α→β),YX l e k=k (l++[e])
 |[],_,_=>rfl
 |_::l,e,_=>EM l e _
structure Md where
 cb:Bool
 vi:List Nat
 va:List Nat
 vs:List Nat
abbrev QG:Md:=⟨false,[],[],[]⟩
abbrev Da:Md:=⟨true,[],[],[]⟩
inductive Fr where
 |c (c:Code)
 |b (id:Nat)
 |j (J:Act→World→Prop)
 |g (md:Md) (ops:tP) (t:Ord)
 |e (a:AV)
def cls:Op→Nat
 | .alloc _=>3
 | .box _ _=>3
 | .buildSlice _ _ _=>3
 | .load _ _=>1
 | .lookup _ _ _ _=>1
 | .move _=>0
 | .assign _=>0
 | .nilCheck _=>0
 | .fieldAddr _ _ _=>0
 | .indexAddr _ _ _=>0
 | .extract _ _=>0
 | .pick _ _ _=>0
 | .unOp _ _ _=>0
 | .binOp _ _ _ _ _=>0
 | .build _ _=>0
 | .field _ _ _=>0
 | .index _ _ _=>0
 | .slice _ _ _ _ _=>0
 | .makeFunc _ _ _=>0
 | .makeInterface _ _=>0
 | .call ⟨.builtin .len,_,_⟩=>0
 | .call ⟨.builtin .min,_,_⟩=>0
 | .call ⟨.builtin .max,_,_⟩=>0
 | .call ⟨.builtin .cap,_,_⟩=>0
 |_=>2
def nc(md:Md)(i:Nat)(o:Op):Nat:=match md.vs.contains i,md.cb,o with
 |true,_,_=>3
 |_,true,.call ⟨.value _,_,_⟩=>3
 |_,_,o=>cls o
def Di(md:Md)(ops:tP)(i:Nat):Nat:=match ops[i]? with
 |some o=>nc md i o.op
 |none=>0
def oD(md:Md)(ops:tP):List Nat:=(List.range ops.size).filter fun i=>Nat.beq (Di md ops i) 2
def uv(md:Md)(ops:tP):List Nat:=(List.range ops.size).filter fun i=>Nat.beq (Di md ops i) 3
theorem kM{md:Md}{ops:tP}{i:Nat}{o:Oper}(ho:ops[i]? =some o)(hc:nc md i o.op=2):(oD md ops).contains i=true:=by
 have hi:=(BJ.1 ho).1;simp only[oD,List.contains_iff_mem,List.mem_filter,List.mem_range];refine⟨hi, ?_⟩;unfold Di;rw[ho];simp[hc]
theorem EN{md:Md}{ops:tP}{i:Nat}{o:Oper}(ho:ops[i]? =some o)(hc:nc md i o.op=3):((oD md ops).contains i||(uv md ops).contains i)=true:=by
 have hi:=(BJ.1 ho).1;rw[Bool.or_eq_true];refine .inr ?_;simp only[uv,List.contains_iff_mem,List.mem_filter,List.mem_range];refine⟨hi, ?_⟩;unfold Di;rw[ho];simp[hc]
def Qh(ops:tP):Nat→Nat→Ord
 |0,_=> .nil
 |k+1,i=>match ops[i]? with
  |none=> .nil
  |some o=>match cls o.op with
   |0=> .pu i (Qh ops k (i+1))
   |1=> .rd i (Qh ops k (i+1))
   |_=> .ef i (Qh ops k (i+1))
theorem LG(ops:tP):∀(k i:Nat),i+k=ops.size→(Qh ops k i).idx=(List.range' i k)
 |0,i,_=>rfl
 |k+1,i,h=>by
  have hl:i<ops.size:=by omega
  have ih:=LG ops k (i+1) (by omega);unfold Qh;rw[Cg hl];simp only;split<;>(rw[Ord.idx,ih];rfl)
def Dj(es:tW)(ops:tP):Nat→List Nat→Ord
 |0,_=> .nil
 |k+1,done=>match(List.range ops.size).filter (fun i=> !done.contains i&&(match ops[i]? with
  |some o=>o.after.toList.all fun e=> !(Region.binds .any e)||done.contains e.on
  |none=>false))with
  |[]=> .nil
  |l=>match l.find? (fun i=> !es.contains i&&Nat.blt (Di QG ops i) 2)with
   |some i=>match Di QG ops i with
    |0=> .pu i (Dj es ops k (i::done))
    |_=> .rd i (Dj es ops k (i::done))
   |none=>match l with
    |[i]=> .ef i (Dj es ops k (i::done))
    |[i,j]=> .fk i j (Dj es ops k (i::done)) (Dj es ops k (j::done))
    |[i,j,m]=> .f3 i j m (Dj es ops k (i::done)) (Dj es ops k (j::done)) (Dj es ops k (m::done))
    |_=> .nil
def abh(md:Md)(ops:tP)(σ:Ord):Bool:=σ.len==ops.size&&Region.noSelect ops&&kv .any ops (oD md ops) (uv md ops) σ (Array.replicate ops.size false)
def okR(n:Nat)(ops:tP):Bool:=jh n ops&&Nat.ble ops.size 9999
def Gc(n:Nat):Code→Bool
 | .region _ ops _=>okR n ops
 | .seq a b=>Gc n a&&Gc n b
 | .cond c a b=>okX n c&&(Gc n a&&Gc n b)
 | .block _ c=>Gc n c
 | .loop c=>Gc n c
 | .scope c=>Gc n c
 | .rangeFunc _ _ a b=>Gc n a&&Gc n b
 |_=>true
def okF(n:Nat):Fr→Bool
 | .c c=>Gc n c
 | .g _ ops _=>okR n ops
 |_=>true
def Gw(n:Nat):List Fr→Bool
 |[]=>true
 |fr::ks=>okF n fr&&Gw n ks
def kq(P:tY)(fn:Func)(Rr:Ending→World→Prop):List Fr→Exit→Act→World→Prop
 |[]=>bodyPost P fn Rr
 | .c c::ks=>Exit.then (c.wp P (kq P fn Rr ks)) (kq P fn Rr ks)
 | .b id::ks=>Exit.inBlock id (kq P fn Rr ks)
 | .j J::ks=>Exit.then J (kq P fn Rr ks)
 | .g md ops t::ks=>Exit.then (kU P ops (kq P fn Rr ks) (De md.va) (oD md ops) (uv md ops) t) (kq P fn Rr ks)
 | .e a::ks=>Exit.then (fun _ w=>Rr (.returned a.val) w) (kq P fn Rr ks)
def G(P:tY)(fn:Func)(Rr:Ending→World→Prop)(n:Nat)(M:tF)(Φ R:tJ)(ks:List Fr)(f:Nat→AV)(H:List En):Prop:=
 ∀w,Mem w (hs H) M Φ R→Gw n ks=true→kq P fn Rr ks .normal ⟨kK n (cn f),[]⟩ w
def Ad(a b:Nat):Prop:=a=b
def Cm(g:BinOp)(a b:Int)(c:Bool):Prop:=rK g a b=some c
def Ce(x:tK):Prop:=x.cells= #[x]
structure Cs(x:tK):Prop where
 c:x.cells= #[x]
 k:x.oneCell'=true
def Lt(j n:Nat):Prop:=j<n
def Mn(a b c:Int):Prop:=(if b<a then b else a)=c
def Le(j n:Nat):Prop:=j≤n
def Wr(a c:Int):Prop:=IntKind.i64.wrap a=c
def Dr(md:Md)(ops:tP)(t:Ord):Prop:=abh md ops t=true
structure Va(H:List En)(md:Md)(j:Nat)(b:Bool):Prop where
 a:md.va.map some=md.vi.map fun k=>(nth H k).map En.a
 b:md.vi.contains j=b
def Kd(k m:Nat):Prop:=k=m
def rP(n:Nat)(ops:tP)(f:Nat→AV)(o:Oper):Option Bool:=match o.guard with
 |none=>some true
 |some (j,b)=>match ops[j]? with
  |some oj=>match oj.dst with
   |some d=>match Nat.blt d n,f d with
    |true,.s (.o (.bool c))=>some (c==b)
    |true,.s (.o (.tuple _))=>some false
    |_,_=>none
   |none=>none
  |none=>none
def hdA:List Sg→Option SV
 | .o x::_=>some (.o x)
 | .p j q b::_=>some (.p j q b)
 | .f (_+1) g::_=>some (.o (g 0))
 |_=>none
def Gx(l:List Sg)(q m:Nat)(one:Bool):Option SV:=match one with
 |true=>hdA (iM l q)
 |false=>XZ (eW (iM l q) m) fun l=>match Nat.beq (fj l) m with
  |true=>some (.g l)
  |false=>none
def YY(f:Nat→AV)(pl:Nat→Option (Nat×Nat)):List (Nat×Operand)→List Sg→List Prop→Option (List Sg×List Prop)
 |[],l,c=>some (l,c)
 |(i,x)::r,l,c=>match pl i,ea f x with
  |some (off,sz),.s v=>match Nat.beq (fj v.kx) sz&&Nat.ble (off+sz) (fj l)with
   |true=>XZ (eW l off++(v.kx++iM l (off+sz))) fun l'=>match v with
    | .o x=>YY f pl r l' (Ce x::c)
    |_=>YY f pl r l' c
   |false=>none
  |_,_=>none
def Ve(e:Ty)(i:Nat):Option (Nat×Nat):=match e.kd with
 |1=>match nth e.fl i with
  |some (off,sz,_)=>some (off,sz)
  |none=>none
 |3=>some (i*e.es,e.es)
 |_=>none
def Qi(T:Tr)(f:Nat→AV):Op→Option (AV×List Prop)
 | .move x=>match ea f x with
  | .s v=>some (.s v,[])
  | .t l=>some (.t l,[])
 | .assign x=>match ea f x with
  | .s v=>some (.s v,[])
  | .t l=>some (.t l,[])
 | .nilCheck x=>match ea f x with
  | .s (.p j q b)=>some (vp j q b,[])
  | .s (.o (.pointer (some p)))=>some (vv (.pointer (some p)),[])
  |_=>none
 | .fieldAddr s x k=>match T.find s with
  |some e=>match e.kd,nth e.fl k with
   |1,some (off,_,_)=>match ea f x with
    | .s (.p j q b)=>some (vp j (q+off) b,[])
    | .s (.o (.pointer (some ⟨b,q,none⟩)))=>some (vv (.pointer (some ⟨b,q+off,none⟩)),[])
    |_=>none
   |_,_=>none
  |none=>none
 | .extract x k=>match ea f x with
  | .t l=>match nth l k with
   |some v=>some (.s v,[])
   |none=>none
  |_=>none
 | .pick x y z=>match ea f x with
  | .s (.o (.bool true))=>some (ea f y,[])
  | .s (.o (.bool false))=>some (ea f z,[])
  |_=>none
 | .unOp .not _ x=>match ea f x with
  | .s (.o (.bool true))=>some (vv (.bool false),[])
  | .s (.o (.bool false))=>some (vv (.bool true),[])
  |_=>none
 | .call ⟨.builtin .len,xs,ts⟩=>match xs.toList,ts.toList with
  |[x],[s]=>match T.find s,ea f x with
   |some e,.s (.o (.slice _ l _))=>match e.kd with
    |2=>some (vi (l:Int),[])
    |_=>none
   |_,_=>none
  |_,_=>none
 | .build s parts=>match T.find s with
  |some e=>match e.fI with
   |true=>none
   |false=>match YY f (Ve e) parts.toList e.z []with
    |some (l,c)=>some (vg l,c)
    |none=>none
  |none=>none
 | .makeFunc fn xs ys=>some (vv (.func fn (xs.toList.map fun x=>(ea f x).val).toArray (ys.toList.map fun x=>(ea f x).val).toArray),[])
 |_=>none
def cpA(T:Tr)(g:BinOp)(s:Nat)(x y:AV)(h:tW)(z:tG):Option (List Nat×List Int×AV×List Prop):=match rK g 0 0,x,y with
 |some _,.s (.o (.int .i64 a)),.s (.o (.int .i64 b))=>match h with
  |0::h=>some (h,z,vv (.bool false),[Cm g a b false])
  |1::h=>some (h,z,vv (.bool true),[Cm g a b true])
  |_=>none
 |some _,.s (.o .nilFunc),.s (.o .nilFunc)=>match g,T.find s with
  | .neq,some e=>some (h,z,vv (.bool false),[Kd e.kd 4])
  |_,_=>none
 |some _,.s (.o (.func _ _ _)),.s (.o .nilFunc)=>match g,T.find s with
  | .neq,some e=>some (h,z,vv (.bool true),[Kd e.kd 4])
  |_,_=>none
 |_,_,_=>none
def QH(T:Tr)(f:Nat→AV)(h:tW)(z:tG):Op→Option (List Nat×List Int×AV×List Prop)
 | .binOp g s x y _=>match g with
  | .add=>match ea f x,ea f y,h with
   | .s (.o (.int .i64 a)),.s (.o (.int .i64 b)),0::h=>some (h,z,vi (IntKind.i64.wrap (a+b)),[])
   | .s (.o (.int .i64 a)),.s (.o (.int .i64 b)),_::h=>match z with
    |c::z=>some (h,z,vi c,[Wr (a+b) c])
    |[]=>none
   |_,_,_=>none
  | .sub=>match ea f x,ea f y,h with
   | .s (.o (.int .i64 a)),.s (.o (.int .i64 b)),0::h=>some (h,z,vi (IntKind.i64.wrap (a-b)),[])
   | .s (.o (.int .i64 a)),.s (.o (.int .i64 b)),_::h=>match z with
    |c::z=>some (h,z,vi c,[Wr (a-b) c])
    |[]=>none
   |_,_,_=>none
  |g=>cpA T g s (ea f x) (ea f y) h z
 | .indexAddr s x y=>match T.find s with
  |some e=>match e.kd with
   |2=>match ea f x,ea f y with
    | .s (.o (.slice (some ⟨b,q,none⟩) len _)),.s (.o (.int .i64 (.ofNat j)))=>some (h,z,vv (.pointer (some ⟨b,q+j*e.es,none⟩)),[Lt j len])
    |_,_=>none
   |3=>match ea f x,ea f y with
    | .s (.p k q b),.s (.o (.int .i64 (.ofNat j)))=>match h with
     |0::h=>some (h,z,vp k (q+j*e.es) b,[Lt j e.ar])
     |1::h=>some (h,z,vv (.pointer (some ⟨b,q+j*e.es,none⟩)),[Lt j e.ar])
     |_=>none
    | .s (.o (.pointer (some ⟨b,q,none⟩))),.s (.o (.int .i64 (.ofNat j)))=>some (h,z,vv (.pointer (some ⟨b,q+j*e.es,none⟩)),[Lt j e.ar])
    |_,_=>none
   |_=>none
  |none=>none
 | .slice s x lo hi none=>match T.find s,ea f x with
  |some e,.s (.o (.slice a len cap))=>match e.kd,lo,hi with
   |2,some y,some u=>match ea f y,ea f u with
    | .s (.o (.int .i64 (.ofNat l))),.s (.o (.int .i64 (.ofNat k)))=>some (h,z,vv (.slice (gM a l e.es cap) (k-l) (cap-l)),[Le l k,Le k cap])
    |_,_=>none
   |2,some y,none=>match ea f y with
    | .s (.o (.int .i64 (.ofNat l)))=>some (h,z,vv (.slice (gM a l e.es cap) (len-l) (cap-l)),[Le l len])
    |_=>none
   |2,none,some u=>match ea f u with
    | .s (.o (.int .i64 (.ofNat k)))=>some (h,z,vv (.slice a k cap),[Le k cap])
    |_=>none
   |_,_,_=>none
  |_,_=>none
 | .call ⟨.builtin .min,xs,_⟩=>match xs.toList with
  |[x,y]=>match ea f x,ea f y,h with
   | .s (.o (.int .i64 a)),.s (.o (.int .i64 b)),0::h=>some (h,z,vi a,[¬b<a])
   | .s (.o (.int .i64 a)),.s (.o (.int .i64 b)),1::h=>some (h,z,vi b,[b<a])
   | .s (.o (.int .i64 a)),.s (.o (.int .i64 b)),2::h=>match z with
    |c::z=>some (h,z,vi c,[Mn a b c])
    |[]=>none
   |_,_,_=>none
  |_=>none
 |_=>none
def rdA(T:Tr)(md:Md)(f:Nat→AV)(H:List En):Op→Option (AV×List Prop)
 | .load s x=>match T.find s,ea f x with
  |some e,.s (.p j q b)=>match nth H j with
   |some ⟨a,_,l⟩=>match Gx l q e.m e.fI with
    |some v=>match md.vi with
     |[]=>some (.s v,[Ad a b,md.va=[]])
     |_=>some (.s v,[Ad a b,Va H md j false])
    |none=>none
   |none=>none
  |_,_=>none
 |_=>none
def UK:List Sg→Prop
 |[]=>True
 | .o x::l=>Cs x∧UK l
 | .p _ _ _::l=>UK l
 | .f m g::l=>aS g m∧UK l
def stA(T:Tr)(md:Md)(i:Nat)(f:Nat→AV)(H:List En):Op→Option (List En×List Prop)
 | .store s x y=>match T.find s,ea f x,ea f y with
  |some e,.s (.p j q b),.s v=>match nth H j with
   |some ⟨a,t,l⟩=>match Nat.beq (fj v.kx) e.m&&Nat.ble (q+e.m) (fj l)with
    |true=>match e.fI,v with
     |true,.g _=>none
     |false,.o _=>none
     |false,.p _ _ _=>none
     |_,_=>XZ (eW l q++(v.kx++iM l (q+e.m))) fun l'=>YW H j ⟨a,t,l'⟩ fun H'=>match md.vs.contains i with
      |true=>some (H',[Ad a b,UK v.kx,Va H md j true])
      |false=>some (H',[Ad a b,UK v.kx])
    |false=>none
   |none=>none
  |_,_,_=>none
 |_=>none
def elA(f:Nat→AV)(sz:Nat):Nat→List (Nat×Operand)→List Prop→Option (List Sg×List Prop)
 |_,[],c=>some ([],c)
 |k,(i,x)::r,c=>match Nat.beq i k,ea f x with
  |true,.s v=>match Nat.beq (fj v.kx) sz with
   |true=>match v with
    | .o x=>match elA f sz (k+1) r (Ce x::c)with
     |some (l,c)=>some (.o x::l,c)
     |none=>none
    |v=>match elA f sz (k+1) r c with
     |some (l,c)=>some (v.kx++l,c)
     |none=>none
   |false=>none
  |_,_=>none
def YZ(T:Tr)(f:Nat→AV):Op→Option (Nat×List Sg×Nat×List Prop)
 | .alloc s=>match T.find s with
  |some e=>some (s,e.z,0,match e.fI,e.z with|true,[.o x]=>[Ce x]|true,_=>[False]|false,_=>[])
  |none=>none
 | .box s x=>match ea f x with
  | .s (.o x)=>some (s,[.o x],0,[Ce x])
  | .s v=>some (s,v.kx,0,[])
  | .t _=>none
 | .buildSlice s k parts=>match T.find s with
  |some e=>match e.kd,T.find e.el with
   |2,some _=>match elA f e.es 0 parts.toList []with
    |some (l,c)=>XZ l fun l=>match Nat.beq parts.size k&&(Nat.blt 0 (k*e.es)&&(Nat.ble (k*e.es) 16777216&&Nat.beq (fj l) (k*e.es)))with
     |true=>match k with
      |0=>none
      |k+1=>some (e.el,l,k+1,c)
     |false=>none
    |none=>none
   |_,_=>none
  |none=>none
 |_=>none
def Y0(id:Nat):List Fr→Option (List Fr)
 |[]=>none
 | .b i::ks=>cond (Nat.beq i id) (some ks) (Y0 id ks)
 |_::ks=>Y0 id ks
def Y1(T:Tr)(n:Nat)(f:Nat→AV)(H:List En):List ResultVar→List Prop→Option (List SV×List Prop)
 |[],c=>some ([],c)
 | .tmp d::r,c=>match Nat.blt d n,f d with
  |true,.s v=>match Y1 T n f H r c with
   |some (l,c)=>some (v::l,c)
   |none=>none
  |_,_=>none
 | .cell d s::r,c=>match Nat.blt d n,f d,T.find s with
  |true,.s (.p j q b),some e=>match nth H j with
   |some ⟨a,_,l⟩=>match Gx l q e.m e.fI with
    |some v=>match Y1 T n f H r (Ad a b::c)with
     |some (l,c)=>some (v::l,c)
     |none=>none
    |none=>none
   |none=>none
  |_,_,_=>none
def reA:List SV→AV
 |[v]=> .s v
 |l=> .t l
def jA:List Prop→Prop
 |[]=>True
 |p::l=>p∧jA l
structure Sx where
 h:List Nat
 z:List Int
 ks:List Fr
 f:Nat→AV
 H:List En
def opS(T:Tr)(n:Nat)(md:Md)(ops:tP)(i m:Nat)(t:Ord):Sx→Option (Sx×List Prop)
 |⟨h,z,ks,f,H⟩=>match ops[i]? with
  |none=>none
  |some o=>match rP n ops f o with
   |none=>none
   |some false=>match o.dst with
    |some d=>some (⟨h,z,.g md ops t::ks,ua f d (vv undef),H⟩,[])
    |none=>match m with
     |2=>some (⟨h,z,.g md ops t::ks,f,H⟩,[])
     |_=>none
   |some true=>match m with
    |0=>match o.dst with
     |some d=>match Qi T f o.op with
      |some (v,c)=>some (⟨h,z,.g md ops t::ks,ua f d v,H⟩,c)
      |none=>match QH T f h z o.op with
       |some (h,z,v,c)=>some (⟨h,z,.g md ops t::ks,ua f d v,H⟩,c)
       |none=>none
     |none=>none
    |1=>match o.dst with
     |some d=>match rdA T md f H o.op with
      |some (v,c)=>some (⟨h,z,.g md ops t::ks,ua f d v,H⟩,c)
      |none=>none
     |none=>none
    |_=>match o.dst with
     |some d=>match rdA T QG f H o.op with
      |some (v,c)=>some (⟨h,z,.g md ops t::ks,ua f d v,H⟩,c)
      |none=>none
     |none=>match stA T md i f H o.op with
      |some (H,c)=>some (⟨h,z,.g md ops t::ks,f,H⟩,c)
      |none=>none
def eM(T:Tr)(n:Nat)(rs:List ResultVar):Sx→Option (Sx×List Prop)
 |⟨_,_,[],_,_⟩=>none
 |⟨h,z,.c c::ks,f,H⟩=>match c with
  | .seq a b=>some (⟨h,z,.c a:: .c b::ks,f,H⟩,[])
  | .skip=>some (⟨h,z,ks,f,H⟩,[])
  | .block id b=>some (⟨h,z,.c b:: .b id::ks,f,H⟩,[])
  | .exit id=>match Y0 id ks with
   |some ks=>some (⟨h,z,ks,f,H⟩,[])
   |none=>none
  | .ret=>match Y1 T n f H rs []with
   |some (l,c)=>some (⟨h,z,[.e (reA l)],f,H⟩,c)
   |none=>none
  | .cond x a b=>match ea f x with
   | .s (.o (.bool true))=>some (⟨h,z,.c a::ks,f,H⟩,[])
   | .s (.o (.bool false))=>some (⟨h,z,.c b::ks,f,H⟩,[])
   |_=>none
  | .region _ ops false=>some (⟨h,z,.g QG ops (Qh ops ops.size 0)::ks,f,H⟩,[])
  | .region _ ops true=>match h with
   |1::h=>some (⟨h,z,.g QG ops (Qh ops ops.size 0)::ks,f,H⟩,[Dr QG ops (Qh ops ops.size 0)])
   |2::h=>some (⟨h,z,.g Da ops (Qh ops ops.size 0)::ks,f,H⟩,[Dr Da ops (Qh ops ops.size 0)])
   |3::h=>some (⟨h,z,.g QG ops (Dj [] ops ops.size [])::ks,f,H⟩,[Dr QG ops (Dj [] ops ops.size [])])
   |4::h=>some (⟨h,z,.g Da ops (Dj [] ops ops.size [])::ks,f,H⟩,[Dr Da ops (Dj [] ops ops.size [])])
   |5::j::i::h=>match nth H j with
    |some ⟨a,_,_⟩=>some (⟨h,z,.g ⟨false,[j],[a],[i]⟩ ops (Dj [] ops ops.size [])::ks,f,H⟩,[Dr ⟨false,[j],[a],[i]⟩ ops (Dj [] ops ops.size [])])
    |none=>none
   |6::j::i::h=>match nth H j with
    |some ⟨a,_,_⟩=>some (⟨h,z,.g ⟨true,[j],[a],[i]⟩ ops (Dj [] ops ops.size [])::ks,f,H⟩,[Dr ⟨true,[j],[a],[i]⟩ ops (Dj [] ops ops.size [])])
    |none=>none
   |8::j::h=>some (⟨h,z,.g Da ops (Dj [j] ops ops.size [])::ks,f,H⟩,[Dr Da ops (Dj [j] ops ops.size [])])
   |7::j::i::k::h=>match nth H j with
    |some ⟨a,_,_⟩=>some (⟨h,z,.g ⟨true,[j],[a],[i,k]⟩ ops (Dj [] ops ops.size [])::ks,f,H⟩,[Dr ⟨true,[j],[a],[i,k]⟩ ops (Dj [] ops ops.size [])])
    |none=>none
   |_=>none
  |_=>none
 |⟨h,z,.b _::ks,f,H⟩=>some (⟨h,z,ks,f,H⟩,[])
 |⟨h,z,.g md ops t::ks,f,H⟩=>match t with
  | .nil=>some (⟨h,z,ks,f,H⟩,[])
  | .pu i t=>opS T n md ops i 0 t ⟨h,z,ks,f,H⟩
  | .rd i t=>opS T n md ops i 1 t ⟨h,z,ks,f,H⟩
  | .ef i t=>opS T n md ops i 2 t ⟨h,z,ks,f,H⟩
  |_=>none
 |_=>none
def alS(T:Tr)(n:Nat):Sx→Option (Nat×Ord×Md×Array Oper×List Fr×Nat×List Sg×Nat×List Prop)
 |⟨_,_,.g md ops (.ef i t)::ks,f,_⟩=>match ops[i]? with
  |some o=>match o.dst,rP n ops f o with
   |some d,some true=>match YZ T f o.op with
    |some (s,l,k,c)=>some (d,t,md,ops,ks,s,l,k,c)
    |none=>none
   |_,_=>none
  |none=>none
 |_=>none
def QI(j k a:Nat):AV:=match k with
 |0=>vp j 0 a
 |k=>vv (.slice (some ⟨a,0,none⟩) k k)
def sh(α:tV):Nat→Nat:=fun i=>α (i+1)
def X0(c' c:List Prop):List Prop:=match c' with
 |[]=>c
 |[p]=>p::c
 |[p,q]=>p::q::c
 |c'=>c'++c
theorem EO(c' c:List Prop):X0 c' c=c'++c:=by
 unfold X0;split<;>rfl
def run(T:Tr)(n:Nat)(rs:List ResultVar):Nat→(Nat→Nat)→Sx→List Prop→Sx×List Prop
 |0,_,s,c=>(s,c)
 |k+1,α,⟨h,z,ks,f,H⟩,c=>match eM T n rs ⟨h,z,ks,f,H⟩with
  |some (s,c')=>run T n rs k α s (X0 c' c)
  |none=>match alS T n ⟨h,z,ks,f,H⟩with
   |some (d,t,md,ops,ks,s,l,m,c')=>YX H ⟨α 0,s,l⟩ fun H'=>run T n rs k (sh α) ⟨h,z,.g md ops t::ks,ua f d (QI H.length m (α 0)),H'⟩ (X0 c' c)
   |none=>(⟨h,z,ks,f,H⟩,c)
theorem QJ(L:tM):cm (fun i=>L.getD i undef) 0 L.length=L:=by
 apply BF;intro i;by_cases h:i<L.length
 ·rw[bX _ _ _ _ h,Ae,Ah,Ag h];rfl
 ·rw[gH _ _ _ _ (by omega),Bd (by omega)]
theorem En.n(e:En):e.ik.n=(dx e.l).length:=(cL e.l).symm
section
variable{w:tA}{e:En}
theorem En.cell(h:aY w e.ik.a e.ik.t e.ik.n e.ik.f){i:Nat}{v:tK}(hv:(dx e.l)[i]? =some v):w.cell? ⟨e.a,i,none⟩=some v:=by
 have hi:=(Am.1 hv).1;have:=h.at i (by rw[En.n];exact hi);rw[show w.cell? ⟨e.a,i,none⟩=some (e.ik.f i) from this];show some (cD e.l i)=_;rw[iU e.l (by rw[←cL];exact hi),Ah,hv];rfl
theorem En.range(h:aY w e.ik.a e.ik.t e.ik.n e.ik.f){q:Nat}{L:tM}(hL:∀j v,L[j]? =some v→(dx e.l)[q+j]? =some v):w.rangeAt e.a q L:=fun j v hv=>En.cell h (hL j v hv)
theorem LH{w:tA}{a t:Nat}{l:List Sg}:aY w a t (fj l) (cD l)↔aY w a t (fj l) fun i=>(dx l).getD i undef:=
 ⟨fun h=>h.congr fun _ hi=>iU l hi,fun h=>h.congr fun _ hi=>(iU l hi).symm⟩
theorem En.new(w:tA)(t:Nat)(l:List Sg):aY (w.alloc (.cells (dx l).toArray t)) w.heap.size t (fj l) (cD l):=by
 rw[LH];have:=aY.new w t (fj l) fun i=>(dx l).getD i undef;rw[←cL,QJ,cL]at this;exact this
theorem En.put{a t:Nat}{l:List Sg}(h:aY w a t (fj l) (cD l))(q:Nat){N:tM}{l':List Sg}(hq:q+N.length≤fj l)(hl:dx l'=(dx l).take q++(N++(dx l).drop (q+N.length))):aY (w.setCells a q N) a t (fj l') (cD l'):=by
 rw[LH]at h⊢;have h1:=h.put q N.length (fun i=>N.getD i undef) hq;rw[QJ]at h1;have hs:fj l'=fj l:=by
  rw[←cL,←cL,hl];rw[←cL]at hq;simp only[List.length_append,List.length_take,List.length_drop];omega
 rw[hs];refine h1.congr fun i hi=> ?_;rw[←cL]at hq hi;unfold gf;show(if q≤i∧i<q+N.length then N.getD (i-q) undef else(dx l).getD i undef)=(dx l').getD i undef;rw[hl];simp only[List.getD_eq_getElem?_getD];by_cases h1:i<q
 ·rw[if_neg (by omega),AD (by simp;omega),AP,if_pos h1]
 ·have hl1:((dx l).take q).length=q:=by rw[AL];omega
  rw[AE (by omega),hl1];by_cases h2:i<q+N.length
  ·rw[if_pos ⟨by omega,h2⟩,AD (by omega)]
  ·rw[if_neg (by omega),AE (by omega),BI,show q+N.length+(i-q-N.length)=i by omega]
end
theorem abm:∀{l:List Sg} {v:SV},hdA l=some v→(dx l)[0]? =some v.val
 |[],_,h=>by cases h
 | .o x::l,v,h=>by cases h;rw[eN];rfl
 | .p j q b::l,v,h=>by cases h;rw[eN];rfl
 | .f 0 g::l,v,h=>by cases h
 | .f (m+1) g::l,v,h=>by
  cases h;rw[eN,AD (by rw[Sg.len];exact Nat.succ_pos m)];show(cm g 0 (m+1))[0]? =_;rw[bX _ _ _ _ (Nat.succ_pos m)];rfl
theorem Gy{l:List Sg}{q m:Nat}{v:SV}(h:Gx l q m true=some v):(dx l)[q]? =some v.val:=by
 have h1:=abm (l:=iM l q) h;rw[iN,BI,Nat.add_zero]at h1;exact h1
theorem Gz{l:List Sg}{q m:Nat}{v:SV}(h:Gx l q m false=some v):∃l',v= .g l'∧(dx l').length=m∧∀(j:Nat) (x:tK),(dx l')[j]? =some x→(dx l)[q+j]? =some x:=by
 unfold Gx at h;simp only[rO]at h;split at h
 ·rename_i hb;cases h;refine⟨_,rfl,by rw[cL];exact Bb hb,fun j x hx=> ?_⟩;rw[jy,iN,AP]at hx;split at hx
  ·rw[BI]at hx;exact hx
  ·cases hx
 ·cases h
section
variable{P:tY}{T:Tr}{n:Nat}{ops:tP}{f:Nat→AV}{o:Oper}{c:Bool}
theorem fC(h:rP n ops f o=some c):Region.wanted o (yielded ops (kK n (cn f)))=c:=by
 unfold rP at h;unfold Region.wanted;cases hg:o.guard with
 |none=>rw[hg]at h;exact Option.some.inj h
 |some g=>
  obtain⟨j,b⟩:=g;rw[hg]at h;simp only at h⊢;cases hj:ops[j]? with
  |none=>rw[hj]at h;cases h
  |some oj=>
   rw[hj]at h;simp only at h;cases hd:oj.dst with
   |none=>rw[hd]at h;cases h
   |some d=>
    rw[hd]at h;simp only at h;split at h
    ·rename_i c' aM hv;have hl:d<n:=by simpa[Nat.blt_eq]using aM
     have hy:yielded ops (kK n (cn f)) j=some c':=by
      unfold yielded;rw[hj];simp only[Option.bind_some,hd,pJ hl];show(match some (cn f d)with|some (.bool b)=>some b|_=>none)=_;unfold cn;rw[hv];rfl
     rw[hy];have:=Option.some.inj h;rw[←this];simp
    ·rename_i aM hv;have hl:d<n:=by simpa[Nat.blt_eq]using aM
     have hy:yielded ops (kK n (cn f)) j=none:=by
      unfold yielded;rw[hj];simp only[Option.bind_some,hd,pJ hl];show(match some (cn f d)with|some (.bool b)=>some b|_=>none)=_;unfold cn;rw[hv];rfl
     rw[hy];have:=Option.some.inj h;rw[←this];rfl
    ·cases h
theorem X2{md:Md}{H:List En}{M:tF}{Φ R:tJ}{w:tA}{v:AV}{c:List Prop}(hT:T.Ok P)(hr:rdA T md f H o.op=some (v,c))(hc:jA c)(hS:Mem w (hs H) M Φ R):∀w',De md.va w w'→(execOp (ev (cn f)) o).run P w'= .ok (.value v.val) w':=by
 intro w' hb;cases hp:o.op with
 |load s x=>
  rw[hp]at hr;simp only[rdA]at hr;split at hr
  ·rename_i e j q b hf hx;split at hr
   ·rename_i a t l hn;split at hr
    ·rename_i v' hv;have jB:a=b∧v= .s v'∧(md.va=[]∨Va H md j false):=by
      split at hr<;>cases hr
      ·exact⟨hc.1,rfl,.inl hc.2.1⟩
      ·exact⟨hc.1,rfl,.inr hc.2.1⟩
     obtain⟨rfl,rfl,NF⟩:=jB;have hx:ev (cn f) x= .pointer (some ⟨a,q,none⟩):=by rw[←bz,hx];rfl
     rw[eY]at hn;have he:(hs H)[j]? =some (En.ik ⟨a,t,l⟩):=by rw[Ar,hn];rfl
     have hnv:a∉md.va:=by
      rcases NF with e|⟨e1,e2⟩
      ·rw[e];exact nv
      ·intro hm;have hm:some a∈md.va.map some:=Ax.2 ⟨a,hm,rfl⟩;rw[e1]at hm;obtain⟨k,hk,UL⟩:=Ax.1 hm;rw[eY]at UL;cases hHk:H[k]? with
       |none=>rw[hHk]at UL;cases UL
       |some en=>
        rw[hHk]at UL;have UL:en.a=a:=by simpa using UL
        have:=hS.ov j k (En.ik ⟨a,t,l⟩) en.ik he (by rw[Ar,hHk];rfl) UL.symm;subst this;rw[List.contains_iff_mem.2 hk]at e2;cases e2
     have fb:=(hS.at j he).EI hb hnv;obtain⟨hg,rfl⟩:=hT.fm hf;cases h1:e.fI with
     |true=>
      rw[h1]at hv;have h2:=En.cell (e:=⟨a,t,l⟩) fb (Gy hv);simp only[execOp,hp,hx,Sem.run_bind,EH (Ty.one hg h1).1 h2,Result.andThen_ok,Sem.run_pure];rfl
     |false=>
      rw[h1]at hv;obtain⟨l',rfl,hl,hr⟩:=Gz hv;obtain⟨dd,hu,qQ,hi⟩:=rJ (Ty.row hg h1);have:=run_loadAt_mid (P:=P) w' a q e.id (dx l') dd (En.range (e:=⟨a,t,l⟩) fb hr) hu qQ (by rw[hl];exact hi);simp only[execOp,hp,hx,Sem.run_bind,this,Result.andThen_ok,Sem.run_pure];rfl
    ·cases hr
   ·cases hr
  ·cases hr
 |_=>rw[hp]at hr;simp only[rdA,reduceCtorEq]at hr
theorem wK:∀{l:List Sg},UK l→(dx l).all (·.oneCell')=true
 |[],_=>rfl
 | .o x::l,h=>by
  rw[eN,List.all_append,wK h.2];simp[Sg.cl,h.1.2]
 | .p j q b::l,h=>by
  rw[eN,List.all_append,wK (l:=l) h];rfl
 | .f m g::l,h=>by
  rw[eN,List.all_append,wK h.2,Bool.and_true];have:=aS.all h.1;simpa[Sg.cl]using this
theorem abo{md:Md}{i:Nat}{H H':List En}{M:tF}{Φ R:tJ}{w:tA}{c:List Prop}(hT:T.Ok P)(hr:stA T md i f H o.op=some (H',c))(hc:jA c)(hS:Mem w (hs H) M Φ R):∃w',(execOp (ev (cn f)) o).run P w= .ok .skip w'∧Mem w' (hs H') M Φ R∧(md.vs.contains i=true→De md.va w w'):=by
 cases hp:o.op with
 |store s x y=>
  rw[hp]at hr;simp only[stA,rO,LF]at hr;split at hr
  ·rename_i e j q b v hf hx hy;split at hr
   ·rename_i a t l hn;split at hr
    ·rename_i hb;rw[AG]at hb;have hm:=Bb hb.1;have hq:=BD hb.2;rw[eY]at hn;have he:(hs H)[j]? =some (En.ik ⟨a,t,l⟩):=by rw[Ar,hn];rfl
     have fb:=hS.at j he;obtain⟨hg,rfl⟩:=hT.fm hf;have hx:ev (cn f) x= .pointer (some ⟨b,q,none⟩):=by rw[←bz,hx];rfl
     have hy:ev (cn f) y=v.val:=by rw[←bz,hy];rfl
     have hlen:(dx v.kx).length=e.m:=(cL _).trans hm;have key:H'=H.set j ⟨a,t,eW l q++(v.kx++iM l (q+e.m))⟩→(execOp (ev (cn f)) o).run P w= .ok .skip (w.setCells a q (dx v.kx))→(md.vs.contains i=true→a∈md.va)→∃w',(execOp (ev (cn f)) o).run P w= .ok .skip w'∧Mem w' (hs H') M Φ R∧(md.vs.contains i=true→De md.va w w'):=fun e1 e2 e5=>by
      refine⟨_,e2, ?_,fun e6=> ?_⟩
      rotate_left
      ·have ht:=av.sH a (dx v.kx) q w;exact⟨ht.os,ht.tape,ht.output,BZ ht.size.symm,fun b _ hb=>ht.block b fun e=>hb (e▸e5 e6)⟩
      subst e1;have h1:=En.put (w:=w) (a:=a) (t:=t) (l:=l) fb q (N:=dx v.kx) (l':=eW l q++(v.kx++iM l (q+e.m))) (by rw[hlen];exact hq) (by rw[dZ,dZ,jy,iN,hlen])
      have h2:=hS.turn he (av.sH a (dx v.kx) q w) (f':=cD (eW l q++(v.kx++iM l (q+e.m)))) (by
       have e3:fj (eW l q++(v.kx++iM l (q+e.m)))=fj l:=by
        rw[←cL,dZ,dZ,jy,iN];simp only[List.length_append,List.length_take,List.length_drop,cL,hm];omega
       rw[e3]at h1
       exact h1)
      have e4:hs (H.set j ⟨a,t,eW l q++(v.kx++iM l (q+e.m))⟩)=(hs H).set j ⟨a,t,fj l,cD (eW l q++(v.kx++iM l (q+e.m)))⟩:=by
       rw[hs,Cq];congr 1;show bU.mk _ _ _ _=_;congr 1;rw[←cL,dZ,dZ,jy,iN];simp only[List.length_append,List.length_take,List.length_drop,cL,hm];omega
      rw[e4];exact h2
     have Vf:aY w a t (fj l) (cD l):=fb;have one:a=b→UK v.kx→e.fI=true→v.kx=[.o v.val]∨(∃j q b,v= .p j q b)→(execOp (ev (cn f)) o).run P w= .ok .skip (w.setCells a q (dx v.kx)):=fun ha ho h1 hv=>by
      subst ha;have Dk:dx v.kx=[v.val]∧v.val.cells= #[v.val]∧v.val.oneCell'=true:=by
       rcases hv with hv|⟨j,q,b,rfl⟩
       ·rw[hv]at ho⊢;exact⟨rfl,ho.1.1,ho.1.2⟩
       ·exact⟨rfl,rfl,rfl⟩
      obtain⟨c1,c2,c3⟩:=Dk;have Jn:=(Ty.one hg h1).2;rw[Jn]at hq;rw[c1];simp only[execOp,hp,hx,hy,Sem.run_bind,rM (Ty.one hg h1).1 c2 c3 (Vf.there q 1 hq),Result.andThen_ok,Sem.run_pure];rfl
     have fin:∀{H0:List En},(match md.vs.contains i with
       |true=>some (H0,[Ad a b,UK v.kx,Va H md j true])
       |false=>some (H0,[Ad a b,UK v.kx]))=some (H',c)→H'=H0∧a=b∧UK v.kx∧(md.vs.contains i=true→a∈md.va):=fun {H0} h=>by
      split at h
      ·cases h;obtain⟨ha,ho,⟨e1,e2⟩,_⟩:=hc;refine⟨rfl,ha,ho,fun _=> ?_⟩;have hj:j∈md.vi:=by rwa [List.contains_iff_mem]at e2
       have:some a∈md.va.map some:=by
        rw[e1];exact Ax.2 ⟨j,hj,by rw[eY,hn];rfl⟩
       simpa using this
      ·rename_i hf;cases h;exact⟨rfl,hc.1,hc.2.1,fun e=>by rw[hf]at e;cases e⟩
     cases h1:e.fI with
     |true=>
      rw[h1]at hr;cases v with
      |o x=>
       obtain⟨e1,ha,ho,hl⟩:=fin hr;subst ha;exact key e1 (one rfl ho h1 (.inl rfl)) hl
      |p j' q' b'=>
       obtain⟨e1,ha,ho,hl⟩:=fin hr;subst ha;exact key e1 (one rfl ho h1 (.inr ⟨j',q',b',rfl⟩)) hl
      |g l=>cases hr
     |false=>
      rw[h1]at hr;cases v with
      |o x=>cases hr
      |p j' q' b'=>cases hr
      |g l'=>
       obtain⟨e1,ha,ho,hl⟩:=fin hr;subst ha;refine key e1 ?_ hl;obtain⟨dd,hu,qQ,hi⟩:=rJ (Ty.row hg h1);have Gt:(dx l').length=e.m:=hlen;have:=run_storeAt_mid (P:=P) w a q e.id (dx l').toArray (by simp only[List.size_toArray,Gt];exact Vf.there q e.m hq) (by simp only[List.size_toArray,Gt];exact hi) (by simpa using wK (l:=l') ho);have hy:ev (cn f) y= .agg (dx l').toArray:=hy;simp only[execOp,hp,hx,hy,Sem.run_bind,this,Result.andThen_ok,Sem.run_pure];rfl
    ·cases hr
   ·cases hr
  ·cases hr
 |_=>rw[hp]at hr;simp only[stA,reduceCtorEq]at hr
end
theorem Dm(Z N:tM)(off:Nat)(h:off+N.length≤Z.length):(N.toArray.zipIdx.foldl (fun(cs:tR) (x:Value×Nat)=>cs.setIfInBounds (off+x.2) x.1) Z.toArray)=(Z.take off++(N++Z.drop (off+N.length))).toArray:=by
 obtain⟨h1,h2⟩:=Dc Z.toArray off N 0 (by simpa using h);have e1:N.toArray.zipIdx=(N.zipIdx 0).toArray:=by simp
 rw[e1,←Array.foldl_toList];apply BS;intro i;refine(h2 i).trans ?_;simp only[Nat.add_zero,List.getElem?_toArray];by_cases a:i<off
 ·rw[if_neg (by omega),AD (by rw[AL];omega),AP,if_pos a]
 ·have hl1:(Z.take off).length=off:=by rw[AL];omega
  rw[AE (by omega),hl1];by_cases b:i<off+N.length
  ·rw[if_pos ⟨by omega,b⟩,AD (by omega)]
  ·rw[if_neg (by omega),AE (by omega),BI,show off+N.length+(i-off-N.length)=i by omega]
theorem lW{v:SV}(h:∀x,v= .o x→x.cells= #[x]):v.val.cells=(dx v.kx).toArray:=by
 cases v with
 |o x=>exact(h x rfl).trans rfl
 |p j q b=>rfl
 |g l=>rfl
theorem xt{pl:Nat→Option (Nat×Nat)}{i off sz:Nat}{l:List Sg}{v:SV}{rest:List (Nat×Value)}(hp:pl i=some (off,sz))(hv:v.val.cells=(dx v.kx).toArray)(hs:fj v.kx=sz)(ho:off+sz≤fj l):
  Instr.fill pl (dx l).toArray ((i,v.val)::rest)=Instr.fill pl (dx (eW l off++(v.kx++iM l (off+sz)))).toArray rest:=by
 have hl:(dx v.kx).length=sz:=(cL _).trans hs;rw[Instr.fill,hp];simp only[hv];have e1:((dx v.kx).toArray.size≠sz||decide (off+(dx v.kx).toArray.size>(dx l).toArray.size))=false:=by
  simp only[List.size_toArray,hl,cL];simp;omega
 have e2:=Dm (dx l) (dx v.kx) off (by rw[hl,cL];exact ho);rw[e1];simp only[Bool.false_eq_true,if_false];have e3:dx (eW l off++(v.kx++iM l (off+sz)))=(dx l).take off++(dx v.kx++(dx l).drop (off+(dx v.kx).length)):=by rw[dZ,dZ,jy,iN,hl]
 rw[e3,←e2]
section
variable{P:tY}{T:Tr}{n:Nat}{ops:tP}{f:Nat→AV}{o:Oper}
theorem ng:∀{a b:List Prop},jA (a++b)→jA a∧jA b
 |[],_,h=>⟨trivial,h⟩
 |_::_,_,h=>⟨⟨h.1,(ng h.2).1⟩,(ng h.2).2⟩
theorem LI{pl:Nat→Option (Nat×Nat)}:∀(r:List (Nat×Operand)) (l:List Sg) (c:List Prop) {l':List Sg} {c':List Prop},YY f pl r l c=some (l',c')→jA c'→Instr.fill pl (dx l).toArray (r.map fun(p:Nat×Operand)=>(p.1,ev (cn f) p.2))=some (dx l').toArray∧fj l'=fj l∧jA c
 |[],l,c,l',c',h,hc=>by
  cases h;exact⟨rfl,rfl,hc⟩
 |(i,x)::r,l,c,l',c',h,hc=>by
  unfold YY at h;simp only[rO]at h;split at h
  ·rename_i off sz v hp hx;split at h
   ·rename_i hb;rw[AG]at hb;have hs:=Bb hb.1;have ho:=BD hb.2;have hv:ev (cn f) x=v.val:=by rw[←bz,hx];rfl
    have iE:fj (eW l off++(v.kx++iM l (off+sz)))=fj l:=by
     rw[←cL,dZ,dZ,jy,iN];simp only[List.length_append,List.length_take,List.length_drop,cL,hs];omega
    rw[List.map_cons];simp only[hv];cases v with
    |o y=>
     obtain⟨h1,h2,h3⟩:=LI r _ _ h hc;refine⟨?_,h2.trans iE,h3.2⟩;rw[xt hp (lW fun z e=>by cases e;exact h3.1) hs ho];exact h1
    |p j q b=>
     obtain⟨h1,h2,h3⟩:=LI r _ _ h hc;refine⟨?_,h2.trans iE,h3⟩;rw[xt hp (lW fun z e=>by cases e) hs ho];exact h1
    |g k=>
     obtain⟨h1,h2,h3⟩:=LI r _ _ h hc;refine⟨?_,h2.trans iE,h3⟩;rw[xt hp (lW fun z e=>by cases e) hs ho];exact h1
   ·cases h
  ·cases h
theorem QK{s:Nat}{e:Ty}{parts:Array (Nat×Operand)}{l:List Sg}{c:List Prop}(hT:T.Ok P)(hf:T.find s=some e)(h1:e.fI=false)(hb:YY f (Ve e) parts.toList e.z []=some (l,c))(hc:jA c)(w:tA):(Instr.build s (parts.toList.map fun(p:Nat×Operand)=>(p.1,ev (cn f) p.2)).toArray).run P w= .ok (.agg (dx l).toArray) w:=by
 obtain⟨h2,_,_⟩:=LI (f:=f) (pl:=Ve e) parts.toList e.z [] hb hc;obtain⟨hg,rfl⟩:=hT.fm hf;have hz:=hT.zero hf;have ez:e.zero= .agg (dx e.z).toArray:=by
  unfold Ty.zero;rw[h1]
 rw[ez]at hz;refine Go.run_build w e.id _ (dx l).toArray ?_;cases hit:P.info? e.id with
 |none=>simp[hit]at hz
 |some it=>
  have hz:it.zero=some (.agg (dx e.z).toArray):=by simpa[hit]using hz
  have Qj:(Value.agg (dx e.z).toArray).cells=(dx e.z).toArray:=rfl;have EP:=hg;unfold Ty.fm at EP;rw[AG]at EP;have EP:=EP.2;have nk:∀{k:Nat},e.kd=k→(match k with|0=>true|2=>true|4=>true|_=>false)=false:=fun e0=>by subst e0;exact h1
  split at EP
  ·rename_i k;cases nk k
  ·rename_i k1;have hp:=(Ty.plc hg k1).1;unfold Vc at hp;split at hp
   ·rename_i fs hu;have JH:(Ve e)=((e.fl.map fun x=>(x.1,x.2.1)).toArray[·]?):=by
     funext i;unfold Ve;rw[k1];simp only[eY,List.getElem?_toArray,List.getElem?_map];cases e.fl[i]? <;>rfl
    rw[JH]at h2;unfold Program.built;simp only[hit,hu,hz,hp,Qj];exact h2
   ·cases hp
  ·rename_i k;cases nk k
  ·rename_i k;cases nk k
  ·rename_i k1 _ _;simp only[Bool.and_eq_true,beq_iff_eq]at EP;have ha:=EP.1.2;unfold Gv at ha;split at ha
   ·rename_i len el hu;cases hi:P.info? el with
    |none=>simp[hi]at ha
    |some ti=>
     simp[hi]at ha;unfold Program.built;simp only[hit,hu,hz,hi,Qj];by_cases k3:e.kd=3
     ·have JH:(Ve e)=fun i=>some (i*e.es,e.es):=by
       funext i;unfold Ve;rw[k3];rfl
      rw[JH,←ha.2]at h2;exact h2
     ·have JH:∀i,Ve e i=none:=fun i=>by
       unfold Ve;split
       ·rename_i k;exact absurd k k1
       ·rename_i k;exact absurd k k3
       ·rfl
      cases hq:parts.toList with
      |nil=>rw[hq]at h2;exact h2
      |cons p r=>
       obtain⟨i,x⟩:=p;rw[hq]at hb;unfold YY at hb;rw[JH]at hb;simp at hb
   ·cases ha
theorem abp{v:AV}{c:List Prop}(hT:T.Ok P)(h:Qi T f o.op=some (v,c))(hc:jA c)(w:tA):(execOp (ev (cn f)) o).run P w= .ok (.value v.val) w:=by
 have mv:∀x v c,(match ea f x with| .s v=>some (AV.s v,([]:List Prop))| .t l=>some (.t l,[]))=some (v,c)→v=ea f x:=fun x v c h=>by
  split at h<;>(rename_i e;cases h;exact e.symm)
 cases hp:o.op with
 |move x=>
  rw[hp]at h;obtain rfl:=mv x v c h;simp only[execOp,hp,Sem.run_pure,bz]
 |assign x=>
  rw[hp]at h;obtain rfl:=mv x v c h;simp only[execOp,hp,Sem.run_pure,bz]
 |nilCheck x=>
  rw[hp]at h;simp only[Qi]at h;split at h
  ·rename_i hx;cases h;have hx:ev (cn f) x=_:=(bz f x).symm.trans (Au AV.val hx);simp only[execOp,hp,hx];rfl
  ·rename_i hx;cases h;have hx:ev (cn f) x=_:=(bz f x).symm.trans (Au AV.val hx);simp only[execOp,hp,hx];rfl
  ·cases h
 |fieldAddr s x k=>
  rw[hp]at h;simp only[Qi]at h;split at h
  ·rename_i e hf;obtain⟨hg,rfl⟩:=hT.fm hf;split at h
   ·rename_i off _ _ k1 hk;rw[eY]at hk;have hfo:=QF hg k1 hk;split at h
    ·rename_i hx;cases h;have hx:ev (cn f) x= .pointer _:=(bz f x).symm.trans (Au AV.val hx);simp only[execOp,hp,hx,Sem.run_bind,Df hfo,Result.andThen_ok,Sem.run_pure];rfl
    ·rename_i hx;cases h;have hx:ev (cn f) x= .pointer _:=(bz f x).symm.trans (Au AV.val hx);simp only[execOp,hp,hx,Sem.run_bind,Df hfo,Result.andThen_ok,Sem.run_pure];rfl
    ·cases h
   ·cases h
  ·cases h
 |extract x k=>
  rw[hp]at h;simp only[Qi]at h;split at h
  ·rename_i l hx;split at h
   ·rename_i s hk;cases h;rw[eY]at hk;have hx:ev (cn f) x= .tuple (l.map SV.val).toArray:=(bz f x).symm.trans (Au AV.val hx);have hk:(l.map SV.val).toArray[k]? =some s.val:=by simp[hk]
    simp only[execOp,hp,hx,Instr.extract,hk,Sem.run_bind,Result.andThen_ok,Sem.run_pure];rfl
   ·cases h
  ·cases h
 |pick x y z=>
  rw[hp]at h;simp only[Qi]at h;split at h
  ·rename_i hx;cases h;have hx:ev (cn f) x= .bool true:=(bz f x).symm.trans (Au AV.val hx);simp only[execOp,hp,hx,asBool,Sem.run_bind,Result.andThen_ok,Sem.run_pure,bz,if_true]
  ·rename_i hx;cases h;have hx:ev (cn f) x= .bool false:=(bz f x).symm.trans (Au AV.val hx);simp[execOp,hp,hx,asBool,bz]
  ·cases h
 |unOp u s x=>
  rw[hp]at h;cases u<;>simp only[Qi,reduceCtorEq]at h
  split at h
  ·rename_i hx;cases h;have hx:ev (cn f) x= .bool true:=(bz f x).symm.trans (Au AV.val hx);simp only[execOp,hp,hx,Op.unary,Sem.run_bind,Result.andThen_ok,Sem.run_pure];rfl
  ·rename_i hx;cases h;have hx:ev (cn f) x= .bool false:=(bz f x).symm.trans (Au AV.val hx);simp only[execOp,hp,hx,Op.unary,Sem.run_bind,Result.andThen_ok,Sem.run_pure];rfl
  ·cases h
 |build s parts=>
  rw[hp]at h;simp only[Qi]at h;split at h
  ·rename_i e hf;split at h
   ·cases h
   ·rename_i h1;split at h
    ·rename_i l c' hb;cases h;have h1:e.fI=false:=h1;have e1:(parts.map fun(i,x)=>(i,ev (cn f) x))=(parts.toList.map fun(p:Nat×Operand)=>(p.1,ev (cn f) p.2)).toArray:=xp _ _;simp only[execOp,hp,Sem.run_bind,e1,QK hT hf h1 hb hc,Result.andThen_ok,Sem.run_pure];rfl
    ·cases h
  ·cases h
 |makeFunc fn xs ys=>
  rw[hp]at h;cases h;have e1:∀xs:Array Operand,xs.map (ev (cn f))=(xs.toList.map fun x=>(ea f x).val).toArray:=fun xs=>by
   rw[xp];congr 1;exact BL fun x _=>(bz f x).symm
  simp only[execOp,hp,Instr.makeFunc,Sem.run_bind,Result.andThen_ok,Sem.run_pure,e1];rfl
 |call cl=>
  obtain⟨ce,xs,ts⟩:=cl;rw[hp]at h;cases ce with
  |value v=>simp only[Qi,reduceCtorEq]at h
  |builtin bi=>
   cases bi<;>simp only[Qi,reduceCtorEq]at h
   split at h
   ·rename_i x s e1 e2;split at h
    ·rename_i e a l c' hf hx;split at h
     ·rename_i k2;cases h;obtain⟨hg,rfl⟩:=hT.fm hf;have hx:ev (cn f) x= .slice a l c':=(bz f x).symm.trans (Au AV.val hx);have hfo:=(Ty.CZ hg k2).1;obtain rfl:xs= #[x]:=by
       apply Array.ext';rw[e1]
      obtain rfl:ts= #[e.id]:=by
       apply Array.ext';rw[e2]
      unfold ji at hfo;split at hfo
      ·rename_i e hu;simp[execOp,hp,resolve,hx,invoke,builtin,Builtin.len_,run_underlying hu,goInt];rfl
      ·cases hfo
     ·cases h
    ·cases h
   ·cases h
  |_=>simp only[Qi,reduceCtorEq]at h
 |_=>rw[hp]at h;simp only[Qi,reduceCtorEq]at h
end
section
variable{P:tY}{T:Tr}{n:Nat}{ops:tP}{f:Nat→AV}{o:Oper}
theorem dz{x:tU}{v:AV}(hx:ea f x=v):ev (cn f) x=v.val:=(bz f x).symm.trans (Au AV.val hx)
theorem X3{s:Nat}{e:Ty}(hT:T.Ok P)(hf:T.find s=some e)(hk:e.kd=4):∃a b c,P.underlying s=some (.func a b c):=by
 obtain⟨hg,rfl⟩:=hT.fm hf;have:=Ty.fn hg hk;unfold YV at this;split at this
 ·rename_i a b c hu;exact⟨a,b,c,hu⟩
 ·cases this
theorem QL{s:Nat}{v:tK}{b:Bool}(hu:∃a b c,P.underlying s=some (.func a b c))(hv:(v= .nilFunc∧b=false)∨(∃x y z,v= .func x y z)∧b=true)(x y:tU)(w:tA):(do eqGuard .neq s x y v .nilFunc;pure (Next.value (←binOp .neq s v .nilFunc))).run P w= .ok (.value (.bool b)) w:=by
 obtain⟨a,b',c,hu⟩:=hu;have e1:∀u v,Op.equal s u v=Op.equalIn (9999+1) s u v:=fun _ _=>rfl;have k1:∀d w,(Op.equalIn (d+1) s .nilFunc .nilFunc).run P w= .ok true w:=fun d w=>by
  rw[Op.equalIn];simp[run_underlying hu]
 have k2:∀d x y z w,(Op.equalIn (d+1) s (.func x y z) .nilFunc).run P w= .ok false w:=fun d x y z w=>by
  rw[Op.equalIn];simp[run_underlying hu]
 rcases hv with⟨rfl,rfl⟩|⟨⟨a1,a2,a3,rfl⟩,rfl⟩
 ·simp only[eqGuard,binOp,e1];simp[k1]
 ·simp only[eqGuard,binOp,e1];simp[k2]
theorem abq{g:BinOp}{s s':Nat}{x y:tU}{h h':tW}{z z':tG}{v:AV}{c:List Prop}(hT:T.Ok P)(hp:o.op= .binOp g s x y s')(hr:cpA T g s (ea f x) (ea f y) h z=some (h',z',v,c))(hc:jA c)(w:tA):(execOp (ev (cn f)) o).run P w= .ok (.value v.val) w:=by
 have cmp:∀{a b:Int} {cc:Bool},ev (cn f) x=iV a→ev (cn f) y=iV b→rK g a b=some cc→(execOp (ev (cn f)) o).run P w= .ok (.value (.bool cc)) w:=fun {a b cc} hx hy hc=>by
  cases g<;>simp only[rK,Option.some.injEq,reduceCtorEq]at hc<;>subst hc<;>simp[execOp,hp,hx,hy,eqGuard,binOp,Op.intCmp]
 unfold cpA at hr;split at hr
 ·rename_i hx hy;split at hr
  ·cases hr;exact cmp (dz hx) (dz hy) hc.1
  ·cases hr;exact cmp (dz hx) (dz hy) hc.1
  ·cases hr
 ·rename_i hx hy;split at hr
  ·rename_i hf _;cases hr;have hx:ev (cn f) x= .nilFunc:=dz hx;have hy:ev (cn f) y= .nilFunc:=dz hy;simp only[execOp,hp,hx,hy];exact QL (X3 hT hf hc.1) (.inl ⟨rfl,rfl⟩) x y w
  ·cases hr
 ·rename_i hx hy;split at hr
  ·rename_i hf _;cases hr;have hx:ev (cn f) x= .func _ _ _:=dz hx;have hy:ev (cn f) y= .nilFunc:=dz hy;simp only[execOp,hp,hx,hy];exact QL (X3 hT hf hc.1) (.inr ⟨⟨_,_,_,rfl⟩,rfl⟩) x y w
  ·cases hr
 ·cases hr
theorem abr{h h':tW}{z z':tG}{v:AV}{c:List Prop}(hT:T.Ok P)(hr:QH T f h z o.op=some (h',z',v,c))(hc:jA c)(w:tA):(execOp (ev (cn f)) o).run P w= .ok (.value v.val) w:=by
 cases hp:o.op with
 |binOp g s x y s'=>
  rw[hp]at hr;have rest:=fun hr=>abq (o:=o) (f:=f) (h:=h) (z:=z) (h':=h') (z':=z') (v:=v) hT hp hr hc w;cases g with
  |add=>
   simp only[QH]at hr;split at hr
   ·rename_i hx hy;cases hr;have hx:ev (cn f) x=iV _:=dz hx;have hy:ev (cn f) y=iV _:=dz hy;simp[execOp,hp,hx,hy,eqGuard,binOp,Op.intArith];rfl
   ·rename_i hx hy;split at hr
    ·cases hr;obtain⟨rfl,_⟩:=hc;have hx:ev (cn f) x=iV _:=dz hx;have hy:ev (cn f) y=iV _:=dz hy;simp[execOp,hp,hx,hy,eqGuard,binOp,Op.intArith];rfl
    ·cases hr
   ·cases hr
  |sub=>
   simp only[QH]at hr;split at hr
   ·rename_i hx hy;cases hr;have hx:ev (cn f) x=iV _:=dz hx;have hy:ev (cn f) y=iV _:=dz hy;simp[execOp,hp,hx,hy,eqGuard,binOp,Op.intArith];rfl
   ·rename_i hx hy;split at hr
    ·cases hr;obtain⟨rfl,_⟩:=hc;have hx:ev (cn f) x=iV _:=dz hx;have hy:ev (cn f) y=iV _:=dz hy;simp[execOp,hp,hx,hy,eqGuard,binOp,Op.intArith];rfl
    ·cases hr
   ·cases hr
  |_=>exact rest hr
 |indexAddr s x y=>
  rw[hp]at hr;simp only[QH]at hr;split at hr
  ·rename_i e hf;obtain⟨hg,rfl⟩:=hT.fm hf;split at hr
   ·rename_i k2;split at hr
    ·rename_i b q len cap j hx hy;cases hr;have hx:ev (cn f) x= .slice (some ⟨b,q,none⟩) len cap:=dz hx;have hy:ev (cn f) y=iV (j:Int):=dz hy;simp only[execOp,hp,hx,hy,Sem.run_bind,U8 (Ty.CZ hg k2).1 b q len cap j hc.1,Result.andThen_ok,Sem.run_pure];rfl
    ·cases hr
   ·rename_i k3;split at hr
    ·rename_i k q b j hx hy;have hx:ev (cn f) x= .pointer (some ⟨b,q,none⟩):=dz hx;have hy:ev (cn f) y=iV (j:Int):=dz hy;split at hr
     ·cases hr;simp only[execOp,hp,hx,hy,Sem.run_bind,EG (len:=e.ar) (sz:=e.es) (Ty.arr hg k3) b q j hc.1,Result.andThen_ok,Sem.run_pure];rfl
     ·cases hr;simp only[execOp,hp,hx,hy,Sem.run_bind,EG (len:=e.ar) (sz:=e.es) (Ty.arr hg k3) b q j hc.1,Result.andThen_ok,Sem.run_pure];rfl
     ·cases hr
    ·rename_i b q j hx hy;cases hr;have hx:ev (cn f) x= .pointer (some ⟨b,q,none⟩):=dz hx;have hy:ev (cn f) y=iV (j:Int):=dz hy;simp only[execOp,hp,hx,hy,Sem.run_bind,EG (len:=e.ar) (sz:=e.es) (Ty.arr hg k3) b q j hc.1,Result.andThen_ok,Sem.run_pure];rfl
    ·cases hr
   ·cases hr
  ·cases hr
 |slice s x lo hi mx=>
  rw[hp]at hr;cases mx with
  |some _=>simp only[QH,reduceCtorEq]at hr
  |none=>
   simp only[QH]at hr;split at hr
   ·rename_i e a len cap hf hx;obtain⟨hg,rfl⟩:=hT.fm hf;have hx:ev (cn f) x= .slice a len cap:=dz hx;split at hr
    ·rename_i y u k2;split at hr
     ·rename_i l k hy hu;cases hr;have hy:ev (cn f) y=iV (l:Int):=dz hy;have hu:ev (cn f) u=iV (k:Int):=dz hu;simp only[execOp,hp,hx,hy,hu,Option.map_some,Option.map_none,Sem.run_bind,Nz (Ty.CZ hg k2).1 a len cap l k hc.1 hc.2.1,Result.andThen_ok,Sem.run_pure];rfl
     ·cases hr
    ·rename_i y k2;split at hr
     ·rename_i l hy;cases hr;have hy:ev (cn f) y=iV (l:Int):=dz hy;simp only[execOp,hp,hx,hy,Option.map_some,Option.map_none,Sem.run_bind,EJ (Ty.CZ hg k2).1 a len cap l hc.1,Result.andThen_ok,Sem.run_pure];rfl
     ·cases hr
    ·rename_i u k2;split at hr
     ·rename_i k hu;cases hr;have hu:ev (cn f) u=iV (k:Int):=dz hu;simp only[execOp,hp,hx,hu,Option.map_some,Option.map_none,Sem.run_bind,EK (Ty.CZ hg k2).1 a len cap k hc.1,Result.andThen_ok,Sem.run_pure];rfl
     ·cases hr
    ·cases hr
   ·cases hr
 |call cl=>
  obtain⟨ce,xs,ts⟩:=cl;rw[hp]at hr;cases ce with
  |value v=>simp only[QH,reduceCtorEq]at hr
  |builtin bi=>
   cases bi<;>simp only[QH,reduceCtorEq]at hr
   split at hr
   ·rename_i x y e1;obtain rfl:xs= #[x,y]:=by
     apply Array.ext';rw[e1]
    split at hr
    ·rename_i hx hy;cases hr;have hx:ev (cn f) x=iV _:=dz hx;have hy:ev (cn f) y=iV _:=dz hy;have h1:=hc.1;simp[execOp,hp,resolve,hx,hy,invoke,builtin,Builtin.min_,Builtin.min2,h1];rfl
    ·rename_i hx hy;cases hr;have hx:ev (cn f) x=iV _:=dz hx;have hy:ev (cn f) y=iV _:=dz hy;have h1:=hc.1;simp[execOp,hp,resolve,hx,hy,invoke,builtin,Builtin.min_,Builtin.min2,h1];rfl
    ·rename_i hx hy;split at hr
     ·cases hr;have hx:ev (cn f) x=iV _:=dz hx;have hy:ev (cn f) y=iV _:=dz hy;have h1:=hc.1;unfold Mn at h1;simp[execOp,hp,resolve,hx,hy,invoke,builtin,Builtin.min_,Builtin.min2,h1];rfl
     ·cases hr
    ·cases hr
   ·cases hr
  |_=>simp only[QH,reduceCtorEq]at hr
 |_=>rw[hp]at hr;simp only[QH,reduceCtorEq]at hr
end
theorem Vg{i sz:Nat}{A B:tM}{v:SV}{rest:List (Nat×Value)}(hv:v.val.cells=(dx v.kx).toArray)(hs:fj v.kx=sz)(hA:A.length=i*sz)(hB:sz≤B.length):
  Instr.fill (fun i=>some (i*sz,sz)) (A++B).toArray ((i,v.val)::rest)=Instr.fill (fun i=>some (i*sz,sz)) ((A++dx v.kx)++B.drop sz).toArray rest:=by
 have hl:(dx v.kx).length=sz:=(cL _).trans hs;rw[Instr.fill];simp only[hv];have e1:((dx v.kx).toArray.size≠sz||decide (i*sz+(dx v.kx).toArray.size>(A++B).toArray.size))=false:=by
  simp only[List.size_toArray,hl,List.length_append,hA];simp;exact hB
 have e2:=Dm (A++B) (dx v.kx) (i*sz) (by rw[hl,Ac,hA];omega);rw[e1];simp only[Bool.false_eq_true,if_false];rw[e2,hl];congr 2;rw[←hA,List.take_left,List.drop_append,Ca (by omega),List.nil_append,BU,Az]
section
variable{P:tY}{T:Tr}{n:Nat}{ops:tP}{f:Nat→AV}{o:Oper}
theorem QM{sz:Nat}:∀(r:List (Nat×Operand)) (k:Nat) (c:List Prop) {l:List Sg} {c':List Prop} (A B:tM),elA f sz k r c=some (l,c')→jA c'→A.length=k*sz→B.length=r.length*sz→
  Instr.fill (fun i=>some (i*sz,sz)) (A++B).toArray (r.map fun(p:Nat×Operand)=>(p.1,ev (cn f) p.2))=some (A++dx l).toArray∧jA c
 |[],k,c,l,c',A,B,h,hc,hA,hB=>by
  cases h;obtain rfl:B=[]:=List.eq_nil_of_length_eq_zero (by simpa using hB);exact⟨rfl,hc⟩
 |(i,x)::r,k,c,l,c',A,B,h,hc,hA,hB=>by
  unfold elA at h;split at h
  ·rename_i v hb hx;obtain rfl:i=k:=Bb hb;have hv:ev (cn f) x=v.val:=dz hx;split at h
   ·rename_i Ge;have hs:=Bb Ge;have hl:(dx v.kx).length=sz:=(cL _).trans hs;have hB2:B.length=r.length*sz+sz:=by rw[hB,List.length_cons,Nat.add_mul,Nat.one_mul]
    have step:∀c1 l1,elA f sz (i+1) r c1=some (l1,c')→v.val.cells=(dx v.kx).toArray→Instr.fill (fun i=>some (i*sz,sz)) (A++B).toArray (((i,x)::r).map fun(p:Nat×Operand)=>(p.1,ev (cn f) p.2))=some (A++dx (v.kx++l1)).toArray∧jA c1:=fun c1 l1 h1 Dk=>by
     rw[List.map_cons];simp only[hv];rw[Vg Dk hs hA (by omega)];obtain⟨h2,h3⟩:=QM r (i+1) c1 (A++dx v.kx) (B.drop sz) h1 hc (by rw[Ac,hA,hl,Nat.add_mul,Nat.one_mul]) (by rw[AM,hB2];omega);rw[h2,dZ,Az];exact⟨rfl,h3⟩
    split at h
    ·rename_i y;split at h
     ·rename_i l1 c1 h1;cases h;have CI:=(QM r (i+1) ((y.cells= #[y])::c) (A++dx (SV.o y).kx) (B.drop sz) h1 hc (by rw[Ac,hA,hl,Nat.add_mul,Nat.one_mul]) (by rw[AM,hB2];omega)).2;obtain⟨h2,h3⟩:=step _ l1 h1 (lW fun z e=>by cases e;exact CI.1);exact⟨h2,h3.2⟩
     ·cases h
    ·rename_i nv;split at h
     ·rename_i l1 c1 h1;cases h;exact step _ l1 h1 (lW fun z e=>absurd e (nv z))
     ·cases h
   ·cases h
  ·cases h
theorem abt{j s k:Nat}{l:List Sg}{c:List Prop}{w:tA}(hT:T.Ok P)(hr:YZ T f o.op=some (s,l,k,c))(hc:jA c):(execOp (ev (cn f)) o).run P w= .ok (.value (QI j k w.heap.size).val) (w.alloc (.cells (dx l).toArray s)):=by
 cases hp:o.op with
 |alloc s'=>
  rw[hp]at hr;simp only[YZ]at hr;split at hr
  ·rename_i e hf;cases hr;have hz:=sK (hT.zero hf) w;have Dk:e.zero.cells=(dx e.z).toArray:=by
    unfold Ty.zero;cases h1:e.fI with
    |true=>
     rw[h1]at hc;cases hz:e.z with
     |nil=>rw[hz]at hc;exact hc.1.elim
     |cons a t=>
      rw[hz]at hc;cases a with
      |o x=>
       cases t with
       |nil=>exact hc.1
       |cons _ _=>exact hc.1.elim
      |p _ _ _=>exact hc.1.elim
      |f _ _=>exact hc.1.elim
    |false=>rfl
   simp[execOp,hp,Instr.alloc,hz,go_sem];refine⟨rfl, ?_⟩;show w.alloc (.cells e.zero.cells _)=_;rw[Dk]
  ·cases hr
 |box s' x=>
  rw[hp]at hr;simp only[YZ]at hr;have key:∀v:SV,ea f x= .s v→v.val.cells=(dx v.kx).toArray→(execOp (ev (cn f)) o).run P w= .ok (.value (.pointer (some ⟨w.heap.size,0,none⟩))) (w.alloc (.cells (dx v.kx).toArray s')):=fun v hx Dk=>by
   have hx:ev (cn f) x=v.val:=dz hx;simp[execOp,hp,hx,Instr.box,go_sem];show w.alloc (.cells v.val.cells s')=_;rw[Dk]
  split at hr
  ·rename_i y hx;cases hr;exact key (.o y) hx (lW fun z e=>by cases e;exact hc.1)
  ·rename_i v nv hx;cases hr;exact key v hx (lW fun z e=>by subst e;exact absurd rfl (nv z))
  ·cases hr
 |buildSlice s' k' parts=>
  rw[hp]at hr;simp only[YZ,rO]at hr;split at hr
  ·rename_i e hf;obtain⟨hg,rfl⟩:=hT.fm hf;split at hr
   ·rename_i e2 k2 hf2;split at hr
    ·rename_i l1 c1 he;split at hr
     ·rename_i hb;simp only[Bool.and_eq_true]at hb;obtain⟨b1,b2,b3,b4⟩:=hb;have b1:=Bb b1;have b2:0<k'*e.es:=by simpa[Nat.blt_eq]using b2
      have b3:=BD b3;have b4:=Bb b4;cases k' with
      |zero=>cases hr
      |succ k''=>
       cases hr;obtain⟨hs,Vh⟩:=Ty.CZ hg k2;unfold ji at hs;unfold Vd at Vh;split at hs
       ·rename_i el hu;rw[hu]at Vh;obtain rfl:el=e.el:=by simpa using Vh
        cases hi:P.info? e.el with
        |none=>simp[hi]at hs
        |some ti=>
         have hs:ti.size=e.es:=by simpa[hi]using hs
         have iE:∀w,(sizeOf e.el).run P w= .ok e.es w:=fun w=>by simp[sizeOf,typeInfo,hi,hs]
         have hz:∃z,(zeroValue e.el).run P w= .ok z w:=⟨_,sK (hT.zero hf2) w⟩;have h24:¬(k''+1)*e.es>2^24:=by omega
         have v_:¬(k''+1)*e.es=0:=by omega
         obtain⟨z,hz⟩:=hz;have e1:(parts.map fun(i,x)=>(i,ev (cn f) x))=(parts.toList.map fun(p:Nat×Operand)=>(p.1,ev (cn f) p.2)).toArray:=xp _ _;have vu:=(QM (f:=f) parts.toList 0 [] [] ((Array.range ((k''+1)*e.es)).map (z.cells[· % z.cells.size]!)).toList he hc (by simp) (by simp[b1])).1;simp only[List.nil_append,Array.toArray_toList]at vu;simp only[execOp,hp,e1,Instr.buildSlice,Sem.run_bind,run_underlying hu,Result.andThen_ok,iE,if_neg h24,if_neg v_,hz,Sem.run_pure,vu];simp[newRow,newObj,Sem.run];rfl
       ·cases hs
     ·cases hr
    ·cases hr
   ·cases hr
  ·cases hr
 |_=>rw[hp]at hr;simp only[YZ,reduceCtorEq]at hr
end
section
variable{P:tY}{T:Tr}{n:Nat}{ops:tP}{f:Nat→AV}{o:Oper}{fn:Func}{Rr:Ending→World→Prop}{M:tF}{Φ R:tJ}{H:List En}{w:tA}
theorem sM{V:tW}(w:tA):De V w w:=⟨rfl,rfl,rfl,Aa _,fun _ _ _=>rfl⟩
theorem xu{V fx fl:tW}{i:Nat}:fT (De V) fx fl i w w:=by
 unfold fT;split
 ·trivial
 ·split
  ·exact sM w
  ·rfl
theorem X4{V:tW}{Q:tI}{fx fl:tW}{i:Nat}{t:Ord}{g:tD}(ho:ops[i]? =some o)(hw:Region.wanted o (yielded ops (kK n g))=false)(h:kU P ops Q (De V) fx fl t ((⟨kK n g,[]⟩:Act).put o.dst undef) w):WF P ops Q V fx fl (.ef i t) n g w:=by
 show wpOp P ops Q i _ _ w;unfold wpOp;simp only[ho,hw];exact⟨xu,h⟩
theorem QN{t b q:Nat}{v:tK}(h:pq P t=true)(hc:w.cell? ⟨b,q,none⟩=some v):(loadVar t ⟨b,q,none⟩).run P w= .ok v w:=by
 have:=EH h hc;simpa[Instr.loadAt,Instr.sureAddr]using this
theorem QO(hT:T.Ok P)(hS:Mem w (hs H) M Φ R){g:ResultVar→Sem Value}(Jo:∀d,g (.tmp d)=pure ((kK n (cn f)).getD d undef))(EP:∀a t,g (.cell a t)=(do loadVar t (←asAddr ((kK n (cn f)).getD a undef)))):∀(rs:List ResultVar) (c:List Prop) {l:List SV} {c':List Prop},Y1 T n f H rs c=some (l,c')→jA c'→(rs.mapM (m:=Sem) g).run P w= .ok (l.map SV.val) w∧jA c
 |[],c,l,c',h,hc=>by
  cases h;exact⟨by simp,hc⟩
 | .tmp d::rs,c,l,c',h,hc=>by
  unfold Y1 at h;split at h
  ·rename_i v hd hv;split at h
   ·rename_i l1 c1 h1;cases h;obtain⟨h2,h3⟩:=QO hT hS Jo EP rs c h1 hc;have hd:d<n:=by simpa[Nat.blt_eq]using hd
    have e1:(kK n (cn f)).getD d undef=v.val:=by
     rw[BV,pJ hd];show cn f d=_;unfold cn;rw[hv];rfl
    refine⟨?_,h3⟩;simp only[List.mapM_cons,Jo,Sem.run_bind,e1,Sem.run_pure,Result.andThen_ok,h2];rfl
   ·cases h
  ·cases h
 | .cell d s::rs,c,l,c',h,hc=>by
  unfold Y1 at h;split at h
  ·rename_i j q b e hd hv hf;split at h
   ·rename_i a t l0 hn;split at h
    ·rename_i v hp;split at h
     ·rename_i l1 c1 h1;cases h;obtain⟨h2,rfl,h3⟩:=QO hT hS Jo EP rs _ h1 hc;have hd:d<n:=by simpa[Nat.blt_eq]using hd
      have e1:(kK n (cn f)).getD d undef= .pointer (some ⟨a,q,none⟩):=by
       rw[BV,pJ hd];show cn f d=_;unfold cn;rw[hv];rfl
      rw[eY]at hn;have he:(hs H)[j]? =some (En.ik ⟨a,t,l0⟩):=by rw[Ar,hn];rfl
      have fb:=hS.at j he;obtain⟨hg,rfl⟩:=hT.fm hf;have e2:(loadVar e.id ⟨a,q,none⟩).run P w= .ok v.val w:=by
       cases h1:e.fI with
       |true=>
        rw[h1]at hp;exact QN (Ty.one hg h1).1 (En.cell (e:=⟨a,t,l0⟩) fb (Gy hp))
       |false=>
        rw[h1]at hp;obtain⟨l',rfl,hl,hr⟩:=Gz hp;obtain⟨dd,hu,qQ,hi⟩:=rJ (Ty.row hg h1);exact run_loadVar_mid (P:=P) w a q e.id (dx l') dd (En.range (e:=⟨a,t,l0⟩) fb hr) hu qQ (by rw[hl];exact hi)
      refine⟨?_,h3⟩;simp only[List.mapM_cons,EP,Sem.run_bind,e1,asAddr,Sem.run_pure,Result.andThen_ok,e2,h2];rfl
     ·cases h
    ·cases h
   ·cases h
  ·cases h
theorem abu(hT:T.Ok P)(hS:Mem w (hs H) M Φ R){rs:List ResultVar}(hr:fn.results=rs.toArray){l:List SV}{c:List Prop}(h:Y1 T n f H rs []=some (l,c))(hc:jA c):(results fn (kK n (cn f))).run P w= .ok (reA l).val w:=by
 have key:∀g:ResultVar→Sem Value,(∀d,g (.tmp d)=pure ((kK n (cn f)).getD d undef))→(∀a t,g (.cell a t)=(do loadVar t (←asAddr ((kK n (cn f)).getD a undef))))→Sem.run P (do let vs←Array.mapM (m:=Sem) g rs.toArray;pure (if h:vs.size=1 then vs[0]else .tuple vs)) w= .ok (reA l).val w:=fun g h1 h2=>by
  have h3:=(QO hT hS h1 h2 rs [] h hc).1;rw[Array.mapM_eq_mapM_toList];simp only[Sem.run_bind,Sem.run_map,h3,Result.andThen_ok];cases l with
  |nil=>rfl
  |cons a l=>
   cases l with
   |nil=>rfl
   |cons b l=>rfl
 unfold results;rw[hr];exact key _ (fun _=>rfl) (fun _ _=>rfl)
theorem Dp:∀ks:List Fr,PS (kq P fn Rr ks)
 |[]=>Vb
 | .c _::ks=>fun c a d v w h=>Dp ks c a d v w h
 | .b _::ks=>fun c a d v w h=>Dp ks c a d v w h
 | .j _::ks=>fun c a d v w h=>Dp ks c a d v w h
 | .g _ _ _::ks=>fun c a d v w h=>Dp ks c a d v w h
 | .e _::ks=>fun c a d v w h=>Dp ks c a d v w h
theorem uA{a:Act}(h:bodyPost P fn Rr .ret a w):∀ks:List Fr,kq P fn Rr ks .ret a w
 |[]=>h
 | .c _::ks=>uA h ks
 | .b _::ks=>uA h ks
 | .j _::ks=>uA h ks
 | .g _ _ _::ks=>uA h ks
 | .e _::ks=>uA h ks
theorem qt{a:Act}{id:Nat}{sN:List Fr}(hq:kq P fn Rr sN .normal a w):∀ks:List Fr,Y0 id ks=some sN→kq P fn Rr ks (.exit id) a w
 |[],h=>by cases h
 | .c _::ks,h=>qt hq ks h
 | .j _::ks,h=>qt hq ks h
 | .g _ _ _::ks,h=>qt hq ks h
 | .e _::ks,h=>qt hq ks h
 | .b i::ks,h=>by
  have h:cond (Nat.beq i id) (some ks) (Y0 id ks)=some sN:=h;show(if id=i then kq P fn Rr ks .normal a w else kq P fn Rr ks (.exit id) a w);cases hb:Nat.beq i id with
  |true=>
   rw[hb]at h;obtain rfl:ks=sN:=Option.some.inj h;rw[if_pos (Bb hb).symm];exact hq
  |false=>
   rw[hb]at h;have fM:¬id=i:=fun e=>by rw[e,Nat.beq_refl]at hb;cases hb
   rw[if_neg fM];exact qt hq ks h
theorem qu{id:Nat}{sN:List Fr}:∀ks:List Fr,Y0 id ks=some sN→Gw n ks=true→Gw n sN=true
 |[],h,_=>by cases h
 | .c _::ks,h,k=>qu ks h (AG _ _▸k).2
 | .j _::ks,h,k=>qu ks h (AG _ _▸k).2
 | .g _ _ _::ks,h,k=>qu ks h (AG _ _▸k).2
 | .e _::ks,h,k=>qu ks h (AG _ _▸k).2
 | .b i::ks,h,k=>by
  have h:cond (Nat.beq i id) (some ks) (Y0 id ks)=some sN:=h;have k2:=(AG _ _▸k:okF n (.b i)=true∧Gw n ks=true).2;cases hb:Nat.beq i id with
  |true=>
   rw[hb]at h;obtain rfl:ks=sN:=Option.some.inj h;exact k2
  |false=>rw[hb]at h;exact qu ks h k2
theorem bn{fr:Fr}{ks:List Fr}:Gw n (fr::ks)=true↔okF n fr=true∧Gw n ks=true:=by
 show(okF n fr&&Gw n ks)=true↔_;rw[AG]
theorem dI{ops:tP}(h:okR n ops=true):jh n ops=true∧ops.size<10000:=by
 unfold okR at h;rw[AG]at h;exact⟨h.1,Nat.lt_succ_of_le (BD h.2)⟩
theorem QP(hT:T.Ok P){md:Md}{i m:Nat}{t t0:Ord}{h:tW}{z:tG}{ks:List Fr}{s:Sx}{c:List Prop}(ht:(m=0∧t0= .pu i t)∨(m=1∧t0= .rd i t)∨(m=2∧t0= .ef i t))(hr:opS T n md ops i m t ⟨h,z,ks,f,H⟩=some (s,c))(hc:jA c)(hn:G P fn Rr n M Φ R s.ks s.f s.H):G P fn Rr n M Φ R (.g md ops t0::ks) f H:=by
 intro w hS hK;obtain⟨hK1,il⟩:=bn.1 hK;have hK0:=(dI hK1).1;show WF P ops (kq P fn Rr ks) md.va (oD md ops) (uv md ops) t0 n (cn f) w;have next:∀{f':Nat→AV} {H':List En} {w':tA},G P fn Rr n M Φ R (.g md ops t::ks) f' H'→Mem w' (hs H') M Φ R→WF P ops (kq P fn Rr ks) md.va (oD md ops) (uv md ops) t n (cn f') w':=fun hg zR=>hg _ zR (bn.2 ⟨hK1,il⟩);simp only[opS]at hr;split at hr
 ·cases hr
 ·rename_i o ho;split at hr
  ·cases hr
  ·rename_i hw;have hw:=fC hw;split at hr
   ·rename_i d hd;cases hr;have h1:=next hn hS;rw[jz]at h1;rcases ht with⟨_,rfl⟩|⟨_,rfl⟩|⟨_,rfl⟩
    ·exact aeh ho hd hw h1
    ·exact aei ho hd hw h1
    ·refine X4 ho hw ?_;rw[mN,hd];exact h1
   ·rename_i hd;split at hr
    ·cases hr;rcases ht with⟨e,_⟩|⟨e,_⟩|⟨_,rfl⟩
     ·cases e
     ·cases e
     ·refine X4 ho hw ?_;rw[mN,hd];exact next hn hS
    ·cases hr
  ·rename_i hw;have hw:=fC hw;split at hr
   ·obtain rfl:t0= .pu i t:=by
     rcases ht with⟨_,e⟩|⟨e,_⟩|⟨e,_⟩
     ·exact e
     ·cases e
     ·cases e
    split at hr
    ·rename_i d hd;split at hr
     ·rename_i v c' hv;cases hr;have h1:=next hn hS;rw[jz]at h1;exact Dg ho hd hw hK0 (abp hT hv hc) h1
     ·split at hr
      ·rename_i v c' hv;cases hr;have h1:=next hn hS;rw[jz]at h1;exact Dg ho hd hw hK0 (abr hT hv hc) h1
      ·cases hr
    ·cases hr
   ·obtain rfl:t0= .rd i t:=by
     rcases ht with⟨e,_⟩|⟨_,e⟩|⟨e,_⟩
     ·cases e
     ·exact e
     ·cases e
    split at hr
    ·rename_i d hd;split at hr
     ·rename_i v c' hv;cases hr;have h1:=next hn hS;rw[jz]at h1;exact QB ho hd hw hK0 (X2 hT hv hc hS) h1
     ·cases hr
    ·cases hr
   ·rename_i m1 m2;obtain rfl:t0= .ef i t:=by
     rcases ht with⟨e,_⟩|⟨e,_⟩|⟨_,e⟩
     ·exact absurd e m1
     ·exact absurd e m2
     ·exact e
    split at hr
    ·rename_i d hd;split at hr
     ·rename_i v c' hv;cases hr;have h1:=next hn hS;rw[jz]at h1;exact oz ho hd hw hK0 (X2 hT hv hc hS w (sM w)) xu h1
     ·cases hr
    ·rename_i hd;split at hr
     ·rename_i H' c' hv;cases hr;obtain⟨w',e1,zR,hl⟩:=abo hT hv hc hS;refine qs ho hd hw hK0 e1 ?_ (next hn zR);cases QQ:md.vs.contains i with
      |false=>
       refine gk (kM ho ?_);unfold nc;rw[QQ];cases hp:o.op<;>rw[hp]at hv<;>simp only[stA,reduceCtorEq]at hv
       cases md.cb<;>rfl
      |true=>
       have h2:=EN (md:=md) ho (by unfold nc;rw[QQ]);unfold fT;cases h:(oD md ops).contains i with
       |true=>trivial
       |false=>
        rw[h]at h2;have h2:(uv md ops).contains i=true:=by simpa using h2
        rw[h2];exact hl QQ
     ·cases hr
end
section
variable{P:tY}{T:Tr}{n:Nat}{ops:tP}{f:Nat→AV}{o:Oper}{fn:Func}{Rr:Ending→World→Prop}{M:tF}{Φ R:tJ}{H:List En}{w:tA}
theorem abw{id:Nat}{Q:tI}{a:Act}(h:kU P ops Q (De []) (oD QG ops) (uv QG ops) (Qh ops ops.size 0) a w)(hz:ops.size<10000):(Code.region id ops false).wp P Q a w:=by
 have e:=LG ops ops.size 0 (Ae _);rw[←List.range_eq_range']at e;refine wp_region ?_;have:=oC (fun w=>sM w) (Qh ops ops.size 0) a w (by rw[e];simp;omega) h;rw[e]at this;exact this
theorem QR(hT:T.Ok P){s s':Sx}{c:List Prop}(hr:eM T n fn.results.toList s=some (s',c))(hc:jA c)(hn:G P fn Rr n M Φ R s'.ks s'.f s'.H):G P fn Rr n M Φ R s.ks s.f s.H:=by
 obtain⟨h,z,ks,f,H⟩:=s;intro w hS hK;cases ks with
 |nil=>cases hr
 |cons fr ks=>
  obtain⟨hK1,il⟩:=bn.1 hK;cases fr with
  |c c0=>
   show c0.wp P (kq P fn Rr ks) ⟨kK n (cn f),[]⟩ w;cases c0 with
   |seq a b=>
    cases hr;have hab:=(AG _ _▸hK1:Gc n a=true∧Gc n b=true);exact wp_seq (hn w hS (bn.2 ⟨hab.1,bn.2 ⟨hab.2,il⟩⟩))
   |skip=>cases hr;exact wp_skip (hn w hS il)
   |block id b=>cases hr;exact wp_block (hn w hS (bn.2 ⟨hK1,bn.2 ⟨rfl,il⟩⟩))
   |exit id=>
    simp only[eM]at hr;split at hr
    ·rename_i sN he;cases hr;exact wp_exit (qt (hn w hS (qu ks he il)) ks he)
    ·cases hr
   |ret=>
    simp only[eM]at hr;split at hr
    ·rename_i l c' hl;cases hr;exact wp_ret (uA (Al (abu hT hS (by simp) hl hc) rfl (hn w hS rfl)) ks)
    ·cases hr
   |cond x a b=>
    have hab:=(AG _ _▸hK1:okX n x=true∧(Gc n a&&Gc n b)=true);have abx:=(AG _ _▸hab.2:Gc n a=true∧Gc n b=true);simp only[eM]at hr;split at hr
    ·rename_i hx;cases hr;exact wp_cond_true ((EE hab.1).trans (dz hx)) (hn w hS (bn.2 ⟨abx.1,il⟩))
    ·rename_i hx;cases hr;exact wp_cond_false ((EE hab.1).trans (dz hx)) (hn w hS (bn.2 ⟨abx.2,il⟩))
    ·cases hr
   |region id ops d=>
    have hz:=(dI hK1).2;cases d with
    |false=>cases hr;exact abw (hn w hS (bn.2 ⟨hK1,il⟩)) hz
    |true=>
     simp only[eM]at hr;have key:∀{md:Md} {t:Ord},Dr md ops t→G P fn Rr n M Φ R (.g md ops t::ks) f H→(Code.region id ops true).wp P (kq P fn Rr ks) ⟨kK n (cn f),[]⟩ w:=fun hc hn=>zN hT.m _ (fun w=>sM w) (fun _ _ _ h1 h2=>h1.trans h2 fun _ _ h=>h) hc (Dp ks) (hn _ (hS.next (Be _ _).drew) (bn.2 ⟨hK1,il⟩));split at hr
     ·cases hr;exact key hc.1 hn
     ·cases hr;exact key hc.1 hn
     ·cases hr;exact key hc.1 hn
     ·cases hr;exact key hc.1 hn
     ·split at hr
      ·cases hr;exact key hc.1 hn
      ·cases hr
     ·split at hr
      ·cases hr;exact key hc.1 hn
      ·cases hr
     ·cases hr;exact key hc.1 hn
     ·split at hr
      ·cases hr;exact key hc.1 hn
      ·cases hr
     ·cases hr
   |_=>cases hr
  |b id=>cases hr;exact hn w hS il
  |j J=>cases hr
  |e a=>cases hr
  |g md ops t=>
   cases t with
   |nil=>cases hr;exact hn w hS il
   |pu i t=>exact QP hT (.inl ⟨rfl,rfl⟩) hr hc hn w hS hK
   |rd i t=>exact QP hT (.inr (.inl ⟨rfl,rfl⟩)) hr hc hn w hS hK
   |ef i t=>exact QP hT (.inr (.inr ⟨rfl,rfl⟩)) hr hc hn w hS hK
   |fk _ _ _ _=>cases hr
   |f3 _ _ _ _ _ _=>cases hr
theorem Y2(hT:T.Ok P){md:Md}{h:tW}{z:tG}{ks sN:List Fr}{d s m:Nat}{t:Ord}{l:List Sg}{c:List Prop}(hr:alS T n ⟨h,z,ks,f,H⟩=some (d,t,md,ops,sN,s,l,m,c))(hn:∀a,jA c∧G P fn Rr n M Φ R (.g md ops t::sN) (ua f d (QI H.length m a)) (H++[⟨a,s,l⟩])):G P fn Rr n M Φ R ks f H:=by
 intro w hS hK;simp only[alS]at hr;split at hr
 ·rename_i QG ops i t0 ks0 f0 H0 he;cases he;split at hr
  ·rename_i o ho;split at hr
   ·rename_i d0 hd hw;split at hr
    ·rename_i hv;cases hr;obtain⟨hK1,il⟩:=bn.1 hK;obtain⟨hc,hg⟩:=hn w.heap.size;have Dk:nc md i o.op=3:=by
      unfold nc;cases hp:o.op<;>rw[hp]at hv<;>simp only[YZ,reduceCtorEq]at hv<;>cases md.vs.contains i<;>cases md.cb<;>rfl
     show WF P ops (kq P fn Rr sN) md.va (oD md ops) (uv md ops) (.ef i t) n (cn f) w;have e1:=abt (j:=H.length) (o:=o) hT hv hc (w:=w) (f:=f);refine oz ho hd (fC hw) (dI hK1).1 e1 (LD (EN ho Dk) (aA _ _)) ?_;have zR:=hS.more (aA w (.cells (dx l).toArray s)) (En.new w s l);have:=hg _ (by rw[hs,AB];exact zR) (bn.2 ⟨hK1,il⟩);rw[←jz];exact this
    ·cases hr
   ·cases hr
  ·cases hr
 ·cases hr
theorem LK{rs:List ResultVar}:∀(k:Nat) (α:tV) (s:Sx) (c:List Prop),jA (run T n rs k α s c).2→jA c
 |0,_,_,_,h=>h
 |k+1,α,⟨h0,z,ks,f,H⟩,c,h=>by
  unfold run at h;split at h
  ·exact(ng (EO _ _▸LK k _ _ _ h)).2
  ·split at h
   ·rw[EM]at h;exact(ng (EO _ _▸LK k _ _ _ h)).2
   ·exact h
def cons(a:Nat)(α:tV):Nat→Nat
 |0=>a
 |i+1=>α i
theorem JI(hT:T.Ok P):∀(k:Nat) (s:Sx) (c:List Prop),(∀α,jA (run T n fn.results.toList k α s c).2∧G P fn Rr n M Φ R (run T n fn.results.toList k α s c).1.ks (run T n fn.results.toList k α s c).1.f (run T n fn.results.toList k α s c).1.H)→G P fn Rr n M Φ R s.ks s.f s.H
 |0,s,c,h=>(h fun _=>0).2
 |k+1,⟨h0,z,ks,f,H⟩,c,h=>by
  cases h1:eM T n fn.results.toList ⟨h0,z,ks,f,H⟩with
  |some r=>
   obtain⟨s',c'⟩:=r;have h2:∀α,run T n fn.results.toList (k+1) α ⟨h0,z,ks,f,H⟩ c=run T n fn.results.toList k α s' (X0 c' c):=fun α=>by rw[run,h1]
   simp only[h2]at h;exact QR hT h1 (ng (EO _ _▸LK k _ _ _ (h fun _=>0).1)).1 (JI hT k s' (X0 c' c) h)
  |none=>
   cases h3:alS T n ⟨h0,z,ks,f,H⟩with
   |none=>
    have h2:∀α,run T n fn.results.toList (k+1) α ⟨h0,z,ks,f,H⟩ c=(⟨h0,z,ks,f,H⟩,c):=fun α=>by rw[run,h1,h3]
    simp only[h2]at h;exact(h fun _=>0).2
   |some r=>
    obtain⟨d,t,md,ops,sN,s,l,m,c'⟩:=r;have h2:∀α,run T n fn.results.toList (k+1) α ⟨h0,z,ks,f,H⟩ c=run T n fn.results.toList k (sh α) ⟨h0,z,.g md ops t::sN,ua f d (QI H.length m (α 0)),H++[⟨α 0,s,l⟩]⟩ (X0 c' c):=fun α=>by rw[run,h1,h3];exact EM _ _ _
    simp only[h2]at h
    exact Y2 hT h3 fun a=>⟨(ng (EO _ _▸LK k _ _ _ (h (cons a fun _=>0)).1)).1,JI hT k ⟨h0,z,.g md ops t::sN,ua f d (QI H.length m a),H++[⟨a,s,l⟩]⟩ (X0 c' c) fun α=>by
     have h4:=h (cons a α);rw[show sh (cons a α)=α from funext fun _=>rfl,show cons a α 0=a from rfl]at h4
     exact h4⟩
theorem Y3(hT:T.Ok P){ks:List Fr}{h':(Nat→Nat)→List Nat}{z':(Nat→Nat)→List Int}{sN:(Nat→Nat)→List Fr}{f':(Nat→Nat)→Nat→AV}{H':(Nat→Nat)→List En}{c':(Nat→Nat)→List Prop}(k:Nat)(h:tW)(z:tG)(hr:∀α,run T n fn.results.toList k α ⟨h,z,ks,f,H⟩ []=(⟨h' α,z' α,sN α,f' α,H' α⟩,c' α))(hn:∀α,G P fn Rr n M Φ R (sN α) (f' α) (H' α))(hc:∀α,jA (c' α)):G P fn Rr n M Φ R ks f H:=
 JI hT k ⟨h,z,ks,f,H⟩ [] fun α=>by rw[hr α];exact⟨hc α,hn α⟩
def Vi:List AV→Nat→AV
 |[],_=>vv undef
 |a::_,0=>a
 |_::l,i+1=>Vi l i
theorem Y4(l:List AV):cn (Vi l)=Nx (l.map AV.val):=by
 funext i
 induction l generalizing i with
 |nil=>cases i<;>rfl
 |cons a l ih=>
  cases i with
  |zero=>rfl
  |succ i=>exact(ih i).trans rfl
theorem aby{g:FuncId}{b:Code}(n:Nat)(al:List AV)(hf:P.funcs[g]? =some fn)(hb:fn.body=some b)(hn:fn.ntmps=n)(hl:Nat.ble al.length n=true)(hk:Gc n b=true)(hS:Mem w (hs H) M Φ R)(h:G P fn Rr n M Φ R [.c b] (Vi al) H):Calls P g (al.map AV.val).toArray w Rr:=by
 refine Qy n hf hb hn (by rw[AX];exact BD hl) ?_;rw[←Y4];exact h w hS (bn.2 ⟨hk,rfl⟩)
theorem fin{a:AV}{ks:List Fr}(h:∀w,Mem w (hs H) M Φ R→Rr (.returned a.val) w):G P fn Rr n M Φ R (.e a::ks) f H:=fun w hS _=>h w hS
theorem dh(hr:fn.results= #[])(h:∀w,Mem w (hs H) M Φ R→Rr (.returned (.tuple #[])) w):G P fn Rr n M Φ R [] f H:=fun w hS _=>bodyPost_end (results_none hr _ _ _) rfl (h w hS)
theorem jj{H':List En}{M':tF}{Gf R':tJ}{ks:List Fr}(h:∀w,Mem w (hs H) M Φ R→Mem w (hs H') M' Gf R')(hn:G P fn Rr n M' Gf R' ks f H'):G P fn Rr n M Φ R ks f H:=fun w hS hK=>hn w (h w hS) hK
theorem ER{md:Md}{i j:Nat}{s t:Ord}{ks:List Fr}(h1:G P fn Rr n M Φ R (.g md ops (.ef i s)::ks) f H)(h2:G P fn Rr n M Φ R (.g md ops (.ef j t)::ks) f H):G P fn Rr n M Φ R (.g md ops (.fk i j s t)::ks) f H:=fun w hS hK=>⟨h1 w hS hK,h2 w hS hK⟩
theorem fk3{md:Md}{i j k:Nat}{s t u:Ord}{ks:List Fr}(h1:G P fn Rr n M Φ R (.g md ops (.ef i s)::ks) f H)(h2:G P fn Rr n M Φ R (.g md ops (.ef j t)::ks) f H)(h3:G P fn Rr n M Φ R (.g md ops (.ef k u)::ks) f H):G P fn Rr n M Φ R (.g md ops (.f3 i j k s t u)::ks) f H:=fun w hS hK=>⟨h1 w hS hK,h2 w hS hK,h3 w hS hK⟩
def QS(n:Nat)(ops:tP)(f:Nat→AV)(i:Nat):Option (Nat×FuncId×List AV):=match ops[i]? with
 |some o=>match o.dst,rP n ops f o,o.op with
  |some d,some true,.call ⟨.value x,xs,_⟩=>match ea f x with
   | .s (.o (.func (.func g) fi ca))=>match fi.toList,ca.toList with
    |[],[]=>some (d,g,xs.toList.map (ea f))
    |fi,ca=>some (d,g,fi.map vv++(xs.toList.map (ea f)++ca.map vv))
   |_=>none
  |_,_,_=>none
 |none=>none
def iO(P:tY)(g:Nat):Bool:=match P.funcs[g]? with
 |some fn=> !(fn.name== "runtime.NumGoroutine")&&fn.body.isSome
 |none=>false
theorem Y5{g:Nat}(h:iO P g=true):∀args w,(callFunc g args).run P w= .ok (.enter g args) w:=by
 unfold iO at h;split at h
 ·rename_i fn hf;rw[AG,Bool.not_eq_true']at h;obtain⟨b,hb⟩:=Option.isSome_iff_exists.1 h.2;have h1:fn.name≠ "runtime.NumGoroutine" :=by simpa using h.1
  intro args w;simp[callFunc,hf,h1,hb,mark]
 ·cases h
theorem ky{md:Md}{i d g:Nat}{t:Ord}{ks:List Fr}{al:List AV}(e:QS n ops f i=some (d,g,al))(he:iO P g=true)(hc:∀w,Mem w (hs H) M Φ R→Calls P g (al.map AV.val).toArray w fun x w'=>∃(a:AV) (H':List En) (M':tF) (Gf R':tJ),x= .returned a.val∧((md.cb||md.vs.contains i)=false∨bZ w w')∧Mem w' (hs H') M' Gf R'∧G P fn Rr n M' Gf R' (.g md ops t::ks) (ua f d a) H'):G P fn Rr n M Φ R (.g md ops (.ef i t)::ks) f H:=by
 intro w hS hK;obtain⟨hK1,il⟩:=bn.1 hK;show WF P ops (kq P fn Rr ks) md.va (oD md ops) (uv md ops) (.ef i t) n (cn f) w;unfold QS at e;split at e
 ·rename_i o ho;split at e
  ·rename_i d' x xs ts hd hw hp;have key:∀{fi ca:tR} {al:List AV},ea f x= .s (.o (.func (.func g) fi ca))→d'=d→fi.toList++xs.toList.map (ev (cn f))++ca.toList=al.map AV.val→(∀w,Mem w (hs H) M Φ R→Calls P g (al.map AV.val).toArray w fun x w'=>∃(a:AV) (H':List En) (M':tF) (Gf R':tJ),x= .returned a.val∧((md.cb||md.vs.contains i)=false∨bZ w w')∧Mem w' (hs H') M' Gf R'∧G P fn Rr n M' Gf R' (.g md ops t::ks) (ua f d a) H')→WF P ops (kq P fn Rr ks) md.va (oD md ops) (uv md ops) (.ef i t) n (cn f) w:=fun {fi ca al} hx hdd ha hc=>by
    subst hdd;refine aep (Y5 he) ho hd (fC hw) (dI hK1).1 hp (dz hx) ha ((hc w hS).mono ?_);rintro _ w' ⟨a,H',M',Gf,R',rfl,hb,zR,hg⟩;refine⟨_,rfl, ?_, ?_⟩
    ·rcases hb with hb|hb
     ·rw[Bool.or_eq_false_iff]at hb;exact gk (kM ho (by unfold nc;rw[hp,hb.1,hb.2];rfl))
     ·by_cases h2:nc md i o.op=3
      ·exact LD (EN ho h2) hb
      ·refine gk (kM ho ?_);unfold nc at h2⊢;rw[hp]at h2⊢;cases h3:md.vs.contains i with
       |true=>rw[h3]at h2;exact absurd rfl h2
       |false=>
        cases h4:md.cb with
        |true=>rw[h3,h4]at h2;exact absurd rfl h2
        |false=>rfl
    rw[←jz];exact hg w' zR (bn.2 ⟨hK1,il⟩)
   have ex:∀xs:List Operand,xs.map (ev (cn f))=(xs.map (ea f)).map AV.val:=fun xs=>by
    rw[List.map_map];exact BL fun x _=>(bz f x).symm
   have ev':∀l:List Value,l=(l.map vv).map AV.val:=fun l=>by
    rw[List.map_map];exact(List.map_id l).symm.trans (BL fun x _=>rfl)
   split at e
   ·rename_i g' fi ca hx;split at e
    ·rename_i e1 e2;cases e;exact key hx rfl (by rw[e1,e2,ex];simp) hc
    ·cases e;refine key hx rfl ?_ hc;rw[AB,AB,←ev',←ev',ex,Az]
   ·cases e
  ·cases e
 ·cases e
def X5(n:Nat)(ops:tP)(f:Nat→AV)(i:Nat):Option (Nat×Nat×AV):=match ops[i]? with
 |some o=>match o.dst,rP n ops f o,o.op with
  |some d,some true,.load s x=>some (d,s,ea f x)
  |_,_,_=>none
 |none=>none
theorem Dq{w':tA}(h:De [] w w'):bZ w w':=h.below (Aa _) fun _ _ h=>by cases h
theorem X6(hT:T.Ok P){md:Md}{i d s b q:Nat}{t:Ord}{ks:List Fr}{x:AV}{e:Ty}(v:SV)(h1:X5 n ops f i=some (d,s,x))(hx:x.val= .pointer (some ⟨b,q,none⟩))(hf:T.find s=some e)(hv:(match e.fI,v with|true,.g _=>false|false,.g l=>Nat.beq (fj l) e.m|false,_=>false|true,_=>true)=true)(hc:∀w,Φ w∧(md.va=[]→Mem w (hs H) M Φ R)→∀j y,(match v with| .g l=>dx l|v=>[v.val])[j]? =some y→w.cell? ⟨b,q+j,none⟩=some y)(NF:∀a,a∈md.va→a∈(hs H).map bU.a)(hn:G P fn Rr n M Φ R (.g md ops t::ks) (ua f d (.s v)) H):G P fn Rr n M Φ R (.g md ops (.rd i t)::ks) f H:=by
 intro w hS hK;obtain⟨hK1,il⟩:=bn.1 hK;show WF P ops (kq P fn Rr ks) md.va (oD md ops) (uv md ops) (.rd i t) n (cn f) w;obtain⟨hg,rfl⟩:=hT.fm hf;unfold X5 at h1;split at h1
 ·rename_i o ho;split at h1
  ·rename_i d' s' y hd hw hp;simp only[Option.some.injEq,Prod.mk.injEq]at h1;obtain⟨rfl,rfl,rfl⟩:=h1;have hx:ev (cn f) y= .pointer (some ⟨b,q,none⟩):=(bz f y).symm.trans hx;refine QB (v:=v.val) ho hd (fC hw) (dI hK1).1 (fun w' hb=> ?_) ?_
   ·have hc:=hc w' ⟨hS.g w' ⟨hb.os,hb.tape,hb.output,hb.size,fun x hx hu=>hb.block x hx fun hm=>hu (.inl (NF x hm))⟩,fun e0=>hS.next (Dq (e0▸hb))⟩;cases h1:e.fI with
    |true=>
     have one:(∀j y,[v.val][j]? =some y→w'.cell? ⟨b,q+j,none⟩=some y)→(execOp (ev (cn f)) o).run P w'= .ok (.value v.val) w':=fun hc=>by
      have h0:w'.cell? ⟨b,q,none⟩=some v.val:=hc 0 v.val rfl;simp only[execOp,hp,hx,Sem.run_bind,EH (Ty.one hg h1).1 h0,Result.andThen_ok,Sem.run_pure]
     cases v with
     |g l=>rw[h1]at hv;cases hv
     |o y=>exact one hc
     |p _ _ _=>exact one hc
    |false=>
     rw[h1]at hv;cases v with
     |o y=>cases hv
     |p _ _ _=>cases hv
     |g l=>
      obtain⟨dd,hu,qQ,hi⟩:=rJ (Ty.row hg h1);have:=run_loadAt_mid (P:=P) w' b q e.id (dx l) dd (fun j y hy=>hc j y hy) hu qQ (by rw[cL];exact(Bb hv).symm▸hi);simp only[execOp,hp,hx,Sem.run_bind,this,Result.andThen_ok,Sem.run_pure];rfl
   ·have:=hn w hS (bn.2 ⟨hK1,il⟩);rw[show up (cn f) d' v.val=cn (ua f d' (.s v)) from(jz f d' (.s v)).symm];exact this
  ·cases h1
 ·cases h1
end
def us(f:Nat→AV):List (Nat×AV)→Nat→AV
 |[]=>f
 |(d,a)::l=>ua (us f l) d a
def GB(f:Nat→AV):List (Nat×AV)→Prop
 |[]=>True
 |(d,a)::l=>(f d).val=a.val∧GB f l
theorem sO(f:Nat→AV):∀l:List (Nat×AV),GB f l→cn (us f l)=cn f
 |[],_=>rfl
 |(d,a)::l,h=>by
  unfold us;rw[jz,sO f l h.2];funext i;unfold up;cases hb:Nat.beq i d with
  |true=>rw[Bb hb];exact h.1.symm
  |false=>rfl
theorem least{p:tF}(h:∃m,p m):∃m,p m∧∀k,p k→m≤k:=by
 obtain⟨m,hm⟩:=h
 induction m using Nat.strongRecOn with
 |_ m ih=>
  by_cases hk:∃k,k<m∧p k
  ·obtain⟨k,hk,hp⟩:=hk;exact ih k hk hp
  ·exact⟨m,hm,fun k hp=>Nat.le_of_not_lt fun aM=>hk ⟨k,aM,hp⟩⟩
open Classical in
theorem Vj{P:tY}{Q:tI}{c:Code}{a:Act}{w:tA}(J:Nat→Act→World→Prop){m0:Nat}(h0:J m0 a w)(round:∀m a w,J m a w→c.wp P (Exit.then (fun a' w'=>∃m',m'<m∧J m' a' w') Q) a w):(Code.loop c).wp P Q a w:=by
 have spec:∀a w,(∃m,J m a w)→∃m,(if h:∃m,J m a w then Classical.choose (least h)else 0)=m∧J m a w∧∀k,J k a w→m≤k:=fun a w hI=>by
  rw[dif_pos hI];exact⟨_,rfl,Classical.choose_spec (least hI)⟩
 refine wp_loop (fun a w=>∃m,J m a w) (fun a w=>if h:∃m,J m a w then Classical.choose (least h)else 0) ⟨m0,h0⟩ ?_;intro a w hI;obtain⟨m,e1,hm,_⟩:=spec a w hI;refine Code.wp_mono (fun e a' w' hq=> ?_) (round m a w hm);cases e with
 |normal=>
  obtain⟨m',aM,hj⟩:=hq;obtain⟨m2,e2,_,h2⟩:=spec a' w' ⟨m',hj⟩;refine⟨⟨m',hj⟩, ?_⟩;rw[e1,e2];exact Nat.lt_of_le_of_lt (h2 m' hj) aM
 |_=>exact hq
section
variable{P:tY}{n:Nat}{f:Nat→AV}{fn:Func}{Rr:Ending→World→Prop}{M:tF}{Φ R:tJ}{H:List En}{w:tA}{ks:List Fr}{X:Type}
structure Lp(X:Type)where
 s:X→List (Nat×AV)
 H:X→List En
 M:X→Nat→Prop
 Φ:X→World→Prop
 R:X→World→Prop
 J:X→Prop
 k:X→Nat
def LJ(n:Nat)(L:Lp X)(m:Nat):Act→World→Prop:=fun a w=>∃f x,a=⟨kK n (cn f),[]⟩∧GB f (L.s x)∧Mem w (hs (L.H x)) (L.M x) (L.Φ x) (L.R x)∧L.J x∧L.k x<m
theorem iC{c:Code}(L:Lp X)(x0:X)(h1:GB f (L.s x0))(h2:∀w,Mem w (hs H) M Φ R→Mem w (hs (L.H x0)) (L.M x0) (L.Φ x0) (L.R x0))(h3:L.J x0)(round:∀f x,L.J x→G P fn Rr n (L.M x) (L.Φ x) (L.R x) (.c c:: .j (LJ n L (L.k x))::ks) (us f (L.s x)) (L.H x)):G P fn Rr n M Φ R (.c (.loop c)::ks) f H:=by
 intro w hS hK;obtain⟨hK1,il⟩:=bn.1 hK;show(Code.loop c).wp P (kq P fn Rr ks) ⟨kK n (cn f),[]⟩ w;refine Vj (fun m a w=>∃f x,a=⟨kK n (cn f),[]⟩∧GB f (L.s x)∧Mem w (hs (L.H x)) (L.M x) (L.Φ x) (L.R x)∧L.J x∧L.k x=m) ⟨f,x0,rfl,h1,h2 w hS,h3,rfl⟩ ?_;rintro m a w ⟨f,x,rfl,hs,hS,hJ,rfl⟩;have:=round f x hJ w hS (bn.2 ⟨hK1,bn.2 ⟨rfl,il⟩⟩);rw[sO f _ hs]at this;refine Code.wp_mono (fun e a' w' hq=> ?_) (show c.wp P _ _ w from this);cases e with
 |normal=>
  obtain⟨f',x',e1,e2,e3,e4,e5⟩:=hq;exact⟨L.k x',e5,f',x',e1,e2,e3,e4,rfl⟩
 |_=>exact hq
theorem b_{L:Lp X}{m:Nat}(x:X)(h1:GB f (L.s x))(h2:∀w,Mem w (hs H) M Φ R→Mem w (hs (L.H x)) (L.M x) (L.Φ x) (L.R x))(h3:L.J x)(h4:L.k x<m):G P fn Rr n M Φ R (.j (LJ n L m)::ks) f H:=fun w hS _=>⟨f,x,rfl,h1,h2 w hS,h3,h4⟩
theorem cut{c:Code}(s:X→List (Nat×AV))(H':X→List En)(M':X→Nat→Prop)(Gf R':X→World→Prop)(J:X→Prop)(h1:∀f x,J x→G P fn Rr n (M' x) (Gf x) (R' x) ks (us f (s x)) (H' x))(h2:G P fn Rr n M Φ R (.c c:: .j (LJ n ⟨s,H',M',Gf,R',J,fun _=>0⟩ 1)::ks) f H):G P fn Rr n M Φ R (.c c::ks) f H:=by
 intro w hS hK;obtain⟨hK1,il⟩:=bn.1 hK;have h:=h2 w hS (bn.2 ⟨hK1,bn.2 ⟨rfl,il⟩⟩);refine Code.wp_mono (fun e a' w' hq=> ?_) (show c.wp P _ _ w from h);cases e with
 |normal=>
  obtain⟨f,x,rfl,e1,e2,e3,_⟩:=hq;have:=h1 f x e3 w' e2 il;rw[sO f _ e1]at this;exact this
 |_=>exact hq
theorem aex{c:Code}(s:X→List (Nat×AV))(H':X→List En)(h1:∀f x,G P fn Rr n M Φ R ks (us f (s x)) (H' x))(h2:G P fn Rr n M Φ R (.c c:: .j (LJ n ⟨s,H',fun _=>M,fun _=>Φ,fun _=>R,fun _=>True,fun _=>0⟩ 1)::ks) f H):G P fn Rr n M Φ R (.c c::ks) f H:=cut s H' _ _ _ _ (fun f x _=>h1 f x) h2
theorem abA{s:X→List (Nat×AV)}{H':X→List En}(x:X)(h1:GB f (s x))(h2:∀w,Mem w (hs H) M Φ R→Mem w (hs (H' x)) M Φ R):G P fn Rr n M Φ R (.j (LJ n ⟨s,H',fun _=>M,fun _=>Φ,fun _=>R,fun _=>True,fun _=>0⟩ 1)::ks) f H:=b_ x h1 h2 trivial Bi
end
end Rv
def bV(U:tF)(w:tA)(φ:tJ):Prop:=∀w',dm U w w'→φ w'
theorem dm.mono{U V:tF}{w w':tA}(c:dm U w w')(h:∀b,U b→V b):dm V w w':=⟨c.os,c.tape,c.output,c.size,fun b hb hv=>c.block b hb fun hu=>hv (h b hu)⟩
theorem Mem.ES{w:tA}{H:List bU}{M:tF}{G R:tJ}(h:Mem w H M G R):bV M w G:=fun w' c=>h.g w' ⟨c.os,c.tape,c.output,c.size,fun b hb hu=>c.block b hb fun hm=>hu (.inr hm)⟩
theorem Mem.ult{w:tA}{H:List bU}{M:tF}{G R:tJ}(h:Mem w H M G R):∀b,(b∈H.map bU.a∨M b)→b<w.heap.size:=fun b hb=>hb.elim (fun h'=>h.lt h') (h.mlt b)
theorem dm.less{U:tF}{w w':tA}{V:tF}(c:dm V w w')(h:∀b,V b→U b∨∃t n f,aY w b t n f∧aY w' b t n f):dm U w w':=
 ⟨c.os,c.tape,c.output,c.size,fun b hb hu=>by
  by_cases hv:V b
  ·rcases h b hv with h|⟨t,n,f,h1,h2⟩
   ·exact absurd h hu
   ·unfold aY at h1 h2;rw[h1,h2]
  ·exact c.block b hb hv⟩
theorem Mem.nodup{w:tA}{H:List bU}{M:tF}{G R:tJ}(h:Mem w H M G R):(H.map bU.a).Nodup:=by
 refine List.pairwise_map.2 (Bp.2 fun i j hi hj hij he=> ?_);have:=h.ov i j _ _ (Ag hi) (Ag hj) he;omega
theorem QT{H:List bU}(h:(H.map bU.a).Nodup):H.Pairwise fun x y=>x.a≠y.a:=by
 unfold List.Nodup at h;rwa [List.pairwise_map]at h
theorem Mem.all{w w':tA}{H H':List bU}{M:tF}{G R:tJ}(h:Mem w H M G R)(c:dm (fun b=>b∈H.map bU.a) w w')(ha:H'.map bU.a=H.map bU.a)(hn:∀e∈H',aY w' e.a e.t e.n e.f):Mem w' H' M G R:=by
 have at_:∀(i:Nat) (x:bU),H'[i]? =some x→∃y,H[i]? =some y∧y.a=x.a:=fun i x hx=>by
  have e:(H'.map bU.a)[i]? =some x.a:=by rw[Ar,hx];rfl
  rw[ha,Ar]at e;cases hy:H[i]? with
  |none=>rw[hy]at e;cases e
  |some y=>rw[hy]at e;exact⟨y,rfl,Option.some.inj e⟩
 refine⟨hn,fun i j x y hx hy EF=> ?_,fun x hx=> ?_,fun b hb=>Aj (h.mlt b hb) c.size,fun w2 h2=>h.g w2 (dm.trans (U:=fun b=>b∈H.map bU.a∨M b) ⟨c.os,c.tape,c.output,c.size,fun b hb hu=>c.block b hb (fun h=>hu (.inl h))⟩ h2 fun x _ hm=>by rwa [ha]at hm),fun w2 h2=>h.r w2 (c.trans h2 fun x _ hm=>by rwa [ha]at hm)⟩
 ·obtain⟨x',hx',ex⟩:=at_ i x hx;obtain⟨y',hy',ey⟩:=at_ j y hy;exact h.ov i j x' y' hx' hy' (by rw[ex,ey,EF])
 ·obtain⟨i,hi⟩:=Cj hx;obtain⟨y,hy,ey⟩:=at_ i x hi;rw[←ey];exact h.off y (Ap hy)
theorem Mem.aey{w w':tA}{H:List bU}{M:tF}{G R:tJ}(h:Mem w H M G R)(k l:Nat){e d:bU}(hk:H[k]? =some e)(hl:H[l]? =some d)(Jp:k≠l)(c:dm (fun b=>b=e.a∨b=d.a) w w'){f g:tD}(hf:aY w' e.a e.t e.n f)(hg:aY w' d.a d.t d.n g):Mem w' ((H.set k ⟨e.a,e.t,e.n,f⟩).set l ⟨d.a,d.t,d.n,g⟩) M G R:=by
 have hke:=Ap hk;have hld:=Ap hl;refine h.all (c.mono fun b hb=> ?_) ?_ fun x hx=> ?_
 ·rcases hb with rfl|rfl
  ·exact Ax.2 ⟨e,hke,rfl⟩
  ·exact Ax.2 ⟨d,hld,rfl⟩
 ·have e1:=uz (e':=⟨e.a,e.t,e.n,f⟩) hk rfl;have hl':(H.set k ⟨e.a,e.t,e.n,f⟩)[l]? =some d:=by rw[List.getElem?_set_ne Jp];exact hl
  rw[uz (e':=⟨d.a,d.t,d.n,g⟩) hl' rfl,e1]
 ·obtain⟨i,hi⟩:=Cj hx;by_cases h1:l=i
  ·subst h1;rw[Cr (by rw[List.length_set];exact(Am.1 hl).1)]at hi;cases hi;exact hg
  ·rw[List.getElem?_set_ne h1]at hi;by_cases h2:k=i
   ·subst h2;rw[Cr (Am.1 hk).1]at hi;cases hi;exact hf
   ·rw[List.getElem?_set_ne h2]at hi;have fb:=h.ik x (Ap hi);have n1:x.a≠e.a:=fun hh=>h2 (h.ov k i e x hk hi hh.symm);have n2:x.a≠d.a:=fun hh=>h1 (h.ov l i d x hl hi hh.symm);unfold aY at fb⊢;rw[←fb];exact c.block x.a (h.ik x (Ap hi)).lt fun hh=>hh.elim n1 n2
theorem oE{w:tA}{U:tF}(hU:∀b,U b→b<w.heap.size){G:tJ}(hG:bV U w G):Mem w [] U G (fun w'=>bZ w w'):=Mem.start hU hG (fun _ h=>h)
theorem nn{p:Prop}(h:p):¬¬p:=fun k=>k h
theorem bV.now{U:tF}{w:tA}{φ:tJ}(h:bV U w φ):φ w:=h w ⟨rfl,rfl,rfl,Aa _,fun _ _ _=>rfl⟩
theorem bV.next{U:tF}{w w':tA}{φ:tJ}(h:bV U w φ)(b:bZ w w'):bV U w' φ:=fun w2 h2=>h w2 ((dm.of b).trans h2 fun _ _ h=>h)
theorem bV.EI{U V:tF}{w w':tA}{φ:tJ}(h:bV U w φ)(c:dm U w w')(hV:∀b,b<w.heap.size→V b→U b):bV V w' φ:=fun w2 h2=>h w2 (c.trans h2 hV)
theorem bV.mono{U V:tF}{w:tA}{φ:tJ}(h:bV U w φ)(hV:∀b,b<w.heap.size→V b→U b):bV V w φ:=fun w2 c=>h w2 ⟨c.os,c.tape,c.output,c.size,fun b hb hu=>c.block b hb fun hv=>hu (hV b hb hv)⟩
theorem dm.cell{U:tF}{w w':tA}(c:dm U w w'){b o:Nat}(hb:b<w.heap.size)(hu:¬U b):w'.cell? ⟨b,o,none⟩=w.cell? ⟨b,o,none⟩:=Ck (c.block b hb hu)
theorem mG{k:IntKind}{U:tF}{w w':tA}{a:tB}{len:Nat}{l:tG}(h:RowK k w a len l)(c:dm U w w')(hu:∀x,a=some x→0<len→¬U x.block):RowK k w' a len l:=
 ⟨h.cy,h.wf,fun i hi=>by
  obtain⟨b,off,ha,aM,hc⟩:=h.cell i hi
  exact⟨b,off,ha,Aj aM c.size,(c.cell aM (hu _ ha (by omega))).trans hc⟩⟩
theorem bW{k:IntKind}{U:tF}{w w':tA}{a:tB}{len:Nat}{l:tG}(h:RowK k w' a len l)(hn:∀x,a=some x→w.heap.size≤x.block)(hU:∀b,U b→b<w.heap.size):bV U w' fun w=>RowK k w a len l:=fun w2 c=>
 mG h c fun x hx _ hux=>by have:=hn x hx;have:=hU _ hux;omega
theorem Mem.qR{w:tA}{e:bU}{H:List bU}{M:tF}{G R:tJ}(h:Mem w (e::H) M G R):(∀b,(b∈H.map bU.a∨M b)→b<w.heap.size)∧¬(e.a∈H.map bU.a∨M e.a)∧bV (fun b=>b=e.a∨(b∈H.map bU.a∨M b)) w G:=by
 refine⟨fun b hb=>h.ult b (hb.imp (fun h=>AF _ h) id), ?_,fun w2 c=>h.g w2 (c.mono fun b hb=> ?_)⟩
 ·rintro(h1|h1)
  ·have:=h.nodup;rw[List.map_cons,List.nodup_cons]at this;exact this.1 h1
  ·exact h.off e (Aw ..) h1
 ·rcases hb with rfl|hb|hb
  ·exact .inl (Aw ..)
  ·exact .inl (AF _ hb)
  ·exact .inr hb
theorem Mem.aez{w w':tA}{e:bU}{H:List bU}{M:tF}{G R:tJ}(h:Mem w (e::H) M G R)(c:dm (fun b=>b=e.a) w w'){f':tD}(hn:aY w' e.a e.t e.n f'):Mem w' (⟨e.a,e.t,e.n,f'⟩::H) M G R:=h.put 0 rfl c (.inl rfl) hn
theorem Mem.QU{w w':tA}{e:bU}{H:List bU}{M:tF}{G R:tJ}(h:Mem w (e::H) M G R)(c:dm (fun b=>b=e.a) w w'){f':tD}(hn:aY w' e.a e.t e.n f'){φ:tJ}(hφ:bV (fun b=>b=e.a∨(b∈H.map bU.a∨M b)) w' φ):Mem w' (⟨e.a,e.t,e.n,f'⟩::H) M (fun w=>G w∧φ w) R:=
 (h.aez c hn).add fun w2 cc=>hφ w2 (cc.mono fun b hb=>by
  rcases hb with hb|hb
  ·rcases BQ.1 hb with rfl|hb
   ·exact .inl rfl
   ·exact .inr (.inl hb)
  ·exact .inr (.inr hb))
structure Mv(F:tF)(w:tA)(F':tF)(w':tA):Prop where
 c:dm F w w'
 f:∀b,F' b→F b∨w.heap.size≤b
 l:∀b,F' b→b<w'.heap.size
theorem dm.refl{U:tF}(w:tA):dm U w w:=⟨rfl,rfl,rfl,Aa _,fun _ _ _=>rfl⟩
theorem Mv.refl{F:tF}{w:tA}(h:∀b,F b→b<w.heap.size):Mv F w F w:=⟨dm.refl w,fun _ h=> .inl h,h⟩
theorem Mv.trans{F F1 F2:tF}{w w1 w2:tA}(h:Mv F w F1 w1)(k:Mv F1 w1 F2 w2):Mv F w F2 w2:=
 ⟨h.c.trans k.c fun b hb hv=>(h.f b hv).elim id fun h=>absurd hb (AY.2 h),fun b hb=>(k.f b hb).elim (h.f b) fun x=> .inr (AN h.c.size x),k.l⟩
theorem Mv.next{F F':tF}{w w' w2:tA}(h:Mv F w F' w')(b:bZ w' w2):Mv F w F' w2:=
 ⟨h.c.trans (dm.of (U:=fun _=>False) b) fun _ _ h=>h.elim,h.f,fun b' hb=>Aj (h.l b' hb) b.size⟩
theorem Mv.of{F:tF}{w w':tA}(hl:∀b,F b→b<w.heap.size)(b:bZ w w'):Mv F w F w':=(Mv.refl hl).next b
theorem Mv.with{F F' T:tF}{w w':tA}(h:Mv F w F' w')(hT:∀b,T b→b<w.heap.size):Mv (fun b=>F b∨T b) w (fun b=>F' b∨T b) w':=
 ⟨h.c.mono fun _ h=> .inl h,fun b hb=>hb.elim (fun hb=>(h.f b hb).imp .inl id) (fun hb=> .inl (.inr hb)),fun b hb=>hb.elim (h.l b) fun hb=>Aj (hT b hb) h.c.size⟩
theorem Mv.less{F F' F2 F2':tF}{w w':tA}(h:Mv F w F' w')(h1:∀b,F b→F2 b)(h2:∀b,F2' b→F' b∨(F2 b∧b<w.heap.size)):Mv F2 w F2' w':=
 ⟨h.c.mono h1,fun b hb=>(h2 b hb).elim (fun hb=>(h.f b hb).imp (h1 b) id) fun hb=> .inl hb.1,fun b hb=>(h2 b hb).elim (h.l b) fun hb=>Aj hb.2 h.c.size⟩
theorem bV.mv{U F F':tF}{w w':tA}{φ:tJ}(h:bV U w φ)(m:Mv F w F' w')(hF:∀b,F b→U b):bV (fun b=>U b∨F' b) w' φ:=fun w2 c2=>
 h w2 ((m.c.mono hF).trans c2 fun b hb hv=>hv.elim id fun hv=>(m.f b hv).elim (hF b) fun x=>absurd hb (AY.2 x))
theorem Mem.mv{w w':tA}{H:List bU}{F F' T:tF}{G R R':tJ}(h:Mem w H (fun b=>F b∨T b) G R)(m:Mv F w F' w')(hR:∀w2,dm (fun b=>b∈H.map bU.a) w' w2→R' w2):Mem w' H (fun b=>F' b∨T b) G R':=by
 refine⟨fun e he=> ?_,h.ov,fun e he hm=> ?_,fun b hb=>hb.elim (m.l b) fun hb=>Aj (h.mlt b (.inr hb)) m.c.size,fun w2 c2=>h.g w2 ?_,hR⟩
 ·have fb:=h.ik e he;unfold aY at fb⊢;rw[←fb];exact m.c.block e.a (h.ik e he).lt fun hf=>h.off e he (.inl hf)
 ·rcases hm with hm|hm
  ·rcases m.f _ hm with hm|hm
   ·exact h.off e he (.inl hm)
   ·exact absurd (h.ik e he).lt (AY.2 hm)
  ·exact h.off e he (.inr hm)
 ·refine(m.c.mono (V:=fun b=>b∈H.map bU.a∨F b∨T b) fun b hb=> .inr (.inl hb)).trans c2 fun b hb hv=> ?_;rcases hv with hv|hv|hv
  ·exact .inl hv
  ·exact(m.f b hv).elim (fun h=> .inr (.inl h)) fun x=>absurd hb (AY.2 x)
  ·exact .inr (.inr hv)
theorem Mem.we{w:tA}{H:List bU}{M:tF}{G R:tJ}(h:Mem w H M G R)(k:Nat){e:bU}(hk:H[k]? =some e):bV M w fun w=>G w∧aY w e.a e.t e.n e.f:=fun w2 c=>by
 have hm:=Ap hk;have fb:=h.ik e hm;refine⟨h.ES w2 c, ?_⟩;have:=c.block e.a fb.lt (h.off e hm);unfold aY at fb⊢;rw[this,fb]
theorem aY.same{w w':tA}{R T n:Nat}{f:tD}(h:aY w R T n f)(e:w'.heap[R]? =w.heap[R]?):aY w' R T n f:=by
 unfold aY at h⊢;rw[e,h]
theorem Mem.kept{w:tA}{H:List bU}{M:tF}{G R:tJ}(h:Mem w H M G R)(k:Nat){e:bU}(hk:H[k]? =some e)(j:Nat)(hj:j≤k):bV (fun b=>b∈(H.take j).map bU.a∨M b) w (fun w=>aY w e.a e.t e.n e.f):=fun w2 c2=>by
 refine(h.at k hk).same (c2.block e.a (h.at k hk).lt fun hb=> ?_);rcases hb with hb|hb
 ·obtain⟨x,hx,hxa⟩:=Ax.1 hb;obtain⟨i,hi⟩:=Cj hx;rw[AP]at hi;split at hi
  ·have:=h.ov i k x e hi hk hxa;omega
  ·cases hi
 ·exact h.off e (Ap hk) hb
theorem Mem.jC{w w0:tA}{H:List bU}{M:tF}{Γ:tJ}(h:Mem w H M Γ (fun w'=>bZ w0 w'))(k:Nat){e:bU}(hk:H[k]? =some e):w0.heap.size≤e.a:=by
 refine Nat.le_of_not_lt fun uw=> ?_;have hb:e.a∈H.map bU.a:=Ax.2 ⟨e,Ap hk,rfl⟩;have aM:=h.lt hb;have key:∀B,w0.heap[e.a]? =some B:=fun B=>by
  have c:dm (fun b=>b∈H.map bU.a) w {w with heap:=w.heap.set e.a B aM}:=⟨rfl,rfl,rfl,by simp,fun z hz uC=>by
   have fM:e.a≠z:=fun e=>uC (e▸hb)
   simp[fM]⟩
  rw[←(h.r _ c).block e.a uw];simp
 have:=(key (.cells #[] 0 (0,0))).symm.trans (key (.cells #[] 1 (0,0)));simp at this
namespace Rv
def zI:Nat→List Sg→List Sg
 |0,l=>l
 |n+1,l=> .o (iV 0)::zI n l
def zB:Nat→List Sg→List Sg
 |0,l=>l
 |n+1,l=> .o (.bool false)::zB n l
def zS:Nat→List Sg→List Sg
 |0,l=>l
 |n+1,l=> .o (.slice none 0 0)::zS n l
def zP:Nat→List Sg→List Sg
 |0,l=>l
 |n+1,l=> .o (.pointer none)::zP n l
def zA:Nat→Nat→List Sg→List Sg
 |0,_,_=>[]
 |n+1,m,l=> .f m (fun i=>(dx l).getD i undef)::zA n m l
def T0:Tr:= .n (.n (.n (.n (.n (.n (.n .l ⟨1,4,1,[],0,0,0,(.o (.nilFunc)::[])⟩ .l) ⟨3,0,1,[],0,0,0,zI 1 []⟩ .l) ⟨4,0,1,[],0,0,0,zB 1 []⟩ (.n .l ⟨5,0,1,[],0,0,0,(.o (.int .u8 0)::[])⟩ .l)) ⟨22,2,1,[],57,11,0,zS 1 []⟩ (.n (.n .l ⟨24,3,5,[],4,1,5,zB 5 []⟩ .l) ⟨26,1,2,[(0,1,false),(1,1,false)],0,0,0,zI 2 []⟩ (.n .l ⟨27,3,8,[],26,2,4,zI 8 []⟩ .l))) ⟨29,1,8,[(0,8,true)],0,0,0,zI 8 []⟩ (.n (.n (.n .l ⟨30,2,1,[],50,1,0,zS 1 []⟩ .l) ⟨31,2,1,[],61,14,0,zS 1 []⟩ (.n .l ⟨32,2,1,[],63,7,0,zS 1 []⟩ .l)) ⟨34,1,18,[(0,1,false),(1,5,true),(6,8,true),(14,1,false),(15,1,false),(16,1,false),(17,1,false)],0,0,0,zI 1 (zB 5 (zI 8 (zS 3 (zI 1 []))))⟩ (.n (.n .l ⟨35,0,1,[],0,0,0,zI 1 []⟩ .l) ⟨41,2,1,[],98,5,0,zS 1 []⟩ (.n .l ⟨42,2,1,[],34,18,0,zS 1 []⟩ .l)))) ⟨47,2,1,[],55,6,0,zS 1 []⟩ (.n (.n (.n (.n (.n .l ⟨49,1,6,[(0,1,false),(1,1,false),(2,1,false),(3,1,false),(4,1,false),(5,1,false)],0,0,0,zI 5 (zS 1 [])⟩ .l) ⟨50,2,1,[],49,6,0,zS 1 []⟩ .l) ⟨53,1,2,[(0,1,false),(1,1,false)],0,0,0,zI 2 []⟩ (.n .l ⟨55,1,6,[(0,1,false),(1,1,false),(2,1,false),(3,1,false),(4,2,true)],0,0,0,zI 6 []⟩ .l)) ⟨57,1,11,[(0,1,false),(1,1,false),(2,1,false),(3,1,false),(4,1,false),(5,6,true)],0,0,0,zI 11 []⟩ (.n (.n .l ⟨59,1,4,[(0,1,false),(1,2,true),(3,1,false)],0,0,0,zI 4 []⟩ .l) ⟨61,1,14,[(0,1,false),(1,1,false),(2,1,false),(3,6,true),(9,4,true),(13,1,false)],0,0,0,zI 14 []⟩ (.n .l ⟨63,1,7,[(0,1,false),(1,4,true),(5,2,true)],0,0,0,zI 7 []⟩ .l))) ⟨71,2,1,[],3,1,0,zS 1 []⟩ (.n (.n (.n .l ⟨73,2,1,[],87,2,0,zS 1 []⟩ .l) ⟨74,2,1,[],232,4,0,zS 1 []⟩ (.n .l ⟨75,3,8,[],4,1,8,zB 8 []⟩ .l)) ⟨77,1,9,[(0,1,false),(1,8,true)],0,0,0,zI 1 (zB 8 [])⟩ (.n (.n .l ⟨78,3,36,[],77,9,4,zA 4 9 (zI 1 (zB 8 []))⟩ .l) ⟨80,1,41,[(0,1,false),(1,1,false),(2,1,false),(3,1,false),(4,1,false),(5,36,true)],0,0,0,(zI 1 [])++(zI 1 [])++(zI 1 [])++(zS 1 [])++(zS 1 [])++(zA 4 9 (zI 1 (zB 8 [])))⟩ (.n .l ⟨87,1,2,[(0,1,false),(1,1,false)],0,0,0,zI 2 []⟩ .l))))) ⟨91,0,1,[],0,0,0,zP 1 []⟩ (.n (.n (.n (.n (.n (.n .l ⟨98,1,5,[(0,1,false),(1,1,false),(2,1,false),(3,1,false),(4,1,false)],0,0,0,zI 5 []⟩ .l) ⟨103,1,45,[(0,41,true),(41,4,true)],0,0,0,((zI 1 [])++(zI 1 [])++(zI 1 [])++(zS 1 [])++(zS 1 [])++(zA 4 9 (zI 1 (zB 8 []))))++(zI 4 [])⟩ .l) ⟨107,0,1,[],0,0,0,(.o (.map none)::[])⟩ (.n .l ⟨109,0,1,[],0,0,0,zP 1 []⟩ .l)) ⟨110,3,5,[],109,1,5,zP 5 []⟩ (.n (.n .l ⟨111,2,1,[],171,1,0,zS 1 []⟩ .l) ⟨112,0,1,[],0,0,0,(.o (.map none)::[])⟩ (.n .l ⟨114,1,19,[(0,5,true),(5,8,true),(13,1,false),(14,1,false),(15,1,false),(16,1,false),(17,1,false),(18,1,false)],0,0,0,(zP 5 ((zI 8 ((zS 1 ((.o (.map none)::(.o (.map none)::zI 1 (zS 2 [])))))))))⟩ .l))) ⟨117,1,47,[(0,6,true),(6,41,true)],0,0,0,(zI 5 (zS 1 []))++((zI 1 [])++(zI 1 [])++(zI 1 [])++(zS 1 [])++(zS 1 [])++(zA 4 9 (zI 1 (zB 8 []))))⟩ (.n (.n (.n .l ⟨118,3,188,[],117,47,4,zA 4 47 ((zI 5 (zS 1 []))++((zI 1 [])++(zI 1 [])++(zI 1 [])++(zS 1 [])++(zS 1 [])++(zA 4 9 (zI 1 (zB 8 [])))))⟩ .l) ⟨120,1,199,[(0,188,true),(188,8,true),(196,1,false),(197,1,false),(198,1,false)],0,0,0,(zA 4 47 ((zI 5 (zS 1 []))++((zI 1 [])++(zI 1 [])++(zI 1 [])++(zS 1 [])++(zS 1 [])++(zA 4 9 (zI 1 (zB 8 []))))))++(zI 8 [])++(zS 1 [])++((.o (.nilFunc)::[]))++(zI 1 [])⟩ (.n .l ⟨122,2,1,[],5,1,0,zS 1 []⟩ .l)) ⟨124,1,2,[(0,1,false),(1,1,false)],0,0,0,zS 1 (zI 1 [])⟩ (.n (.n .l ⟨126,1,206,[(0,1,false),(1,1,false),(2,1,false),(3,2,true),(5,199,true),(204,1,false),(205,1,false)],0,0,0,(zP 1 [])++(zI 1 [])++(zB 1 [])++(zS 1 (zI 1 []))++((zA 4 47 ((zI 5 (zS 1 []))++((zI 1 [])++(zI 1 [])++(zI 1 [])++(zS 1 [])++(zS 1 [])++(zA 4 9 (zI 1 (zB 8 []))))))++(zI 8 [])++(zS 1 [])++((.o (.nilFunc)::[]))++(zI 1 []))++(zI 1 [])++(zB 1 [])⟩ .l) ⟨138,1,4,[(0,1,false),(1,1,false),(2,1,false),(3,1,false)],0,0,0,zI 4 []⟩ (.n .l ⟨148,1,41,[(0,41,true)],0,0,0,((zI 1 [])++(zI 1 [])++(zI 1 [])++(zS 1 [])++(zS 1 [])++(zA 4 9 (zI 1 (zB 8 []))))⟩ .l)))) ⟨151,1,3,[(0,1,false),(1,1,false),(2,1,false)],0,0,0,(.o (.string ⟨#[]⟩)::zI 2 [])⟩ (.n (.n (.n (.n (.n .l ⟨167,1,10,[(0,1,false),(1,1,false),(2,1,false),(3,1,false),(4,6,true)],0,0,0,zI 10 []⟩ .l) ⟨170,1,21,[(0,1,false),(1,1,false),(2,1,false),(3,1,false),(4,1,false),(5,6,true),(11,4,true),(15,2,true),(17,1,false),(18,1,false),(19,1,false),(20,1,false)],0,0,0,zI 19 (zS 1 (zB 1 []))⟩ .l) ⟨171,0,1,[],0,0,0,zP 1 []⟩ (.n .l ⟨176,2,1,[],167,10,0,zS 1 []⟩ .l)) ⟨191,3,36,[],151,3,12,(.o (.string ⟨#[]⟩)::(zI 2 ((.o (.string ⟨#[]⟩)::(zI 2 ((.o (.string ⟨#[]⟩)::(zI 2 ((.o (.string ⟨#[]⟩)::(zI 2 ((.o (.string ⟨#[]⟩)::(zI 2 ((.o (.string ⟨#[]⟩)::(zI 2 ((.o (.string ⟨#[]⟩)::(zI 2 ((.o (.string ⟨#[]⟩)::(zI 2 ((.o (.string ⟨#[]⟩)::(zI 2 ((.o (.string ⟨#[]⟩)::(zI 2 ((.o (.string ⟨#[]⟩)::(zI 2 ((.o (.string ⟨#[]⟩)::zI 2 []))))))))))))))))))))))))))))))))))⟩ (.n (.n .l ⟨192,2,1,[],195,1,0,zS 1 []⟩ .l) ⟨195,0,1,[],0,0,0,zP 1 []⟩ (.n .l ⟨218,2,1,[],59,4,0,zS 1 []⟩ .l))) ⟨232,1,4,[(0,2,true),(2,2,true)],0,0,0,zI 4 []⟩ (.n (.n (.n .l ⟨263,2,1,[],170,21,0,zS 1 []⟩ .l) ⟨265,2,1,[],122,1,0,zS 1 []⟩ (.n .l ⟨267,1,46,[(0,45,true),(45,1,false)],0,0,0,(((zI 1 [])++(zI 1 [])++(zI 1 [])++(zS 1 [])++(zS 1 [])++(zA 4 9 (zI 1 (zB 8 []))))++(zI 4 []))++(zS 1 [])⟩ .l)) ⟨277,4,1,[],0,0,0,(.o (.nilFunc)::[])⟩ (.n (.n .l ⟨294,3,10,[],195,1,10,zP 10 []⟩ .l) ⟨304,2,1,[],4,1,0,zS 1 []⟩ (.n .l ⟨317,2,1,[],47,1,0,zS 1 []⟩ .l)))))
theorem X7:T0.Ok Tryz.prog:=⟨by kernel_rfl,by kernel_rfl,by kernel_rfl⟩
section
variable{n:Nat}{ops:tP}{f:Nat→AV}{fn:Func}{Rr:Ending→World→Prop}{M:tF}{Φ R:tJ}{H:List En}{w:tA}{ks:List Fr}{t:Ord}{i d:Nat}{md:Md}
theorem ad_{a b:Nat}(h:a=b):Ad a b:=h
theorem ce_{x:tK}(h:x.cells= #[x]):Ce x:=h
theorem cs_{x:tK}(h:x.cells= #[x])(k:x.oneCell'=true):Cs x:=⟨h,k⟩
theorem on_{g:tD}{m:Nat}(h:(List.range m).all (fun i=>(g i).oneCell')=true):aS g m:=fun i hi=>List.all_eq_true.1 h i (Cb.2 hi)
theorem cm_{g:BinOp}{a b:Int}{c:Bool}(h:rK g a b=some c):Cm g a b c:=h
theorem wr_{a c:Int}(e:a=c)(h: -9223372036854775808≤a)(k:a≤9223372036854775807):Wr a c:=by
 subst e;show IntKind.i64.wrap a=a;rw[Ct];omega
theorem va_{md:Md}{j:Nat}{b:Bool}(h:md.va.map some=md.vi.map fun k=>(nth H k).map En.a)(k:md.vi.contains j=b):Va H md j b:=⟨h,k⟩
theorem mn_{a b c:Int}(h:c≤a)(k:c≤b)(l:c=a∨c=b):Mn a b c:=by
 unfold Mn;split<;>omega
theorem lt_{a b:Nat}(h:a<b):Lt a b:=h
theorem le_{a b:Nat}(h:a≤b):Le a b:=h
theorem dr_{md:Md}{t:Ord}(h:abh md ops t=true):Dr md ops t:=h
theorem r{h':(Nat→Nat)→List Nat}{z':(Nat→Nat)→List Int}{sN:(Nat→Nat)→List Fr}{f':(Nat→Nat)→Nat→AV}{H':(Nat→Nat)→List En}{c':(Nat→Nat)→List Prop}(h:tW)(hr:(fun α=>run T0 n fn.results.toList 2000 α ⟨h,[],ks,f,H⟩ [])=fun α=>(⟨h' α,z' α,sN α,f' α,H' α⟩,c' α))(hn:∀α,G Tryz.prog fn Rr n M Φ R (sN α) (f' α) (H' α))(hc:∀α,jA (c' α):=by intro _;repeat' first|exact trivial|refine And.intro ?_ ?_|exact ad_ rfl|exact ce_ rfl|exact cs_ rfl rfl|assumption|exact cm_ rfl|exact CD (by assumption)|exact CX (by assumption)|exact CS (by assumption)|exact CV (by assumption)|exact CD (by omega)|exact CX (by omega)|exact CS (by omega)|exact CV (by omega)|exact gtT (by omega)|exact gtF (by omega)|exact geT (by omega)|exact geF (by omega)|exact neT (by omega)|exact neF (by omega)|exact leT (by omega)|exact leF (by omega)|exact wr_ (by omega) (by omega) (by omega)|exact mn_ (by omega) (by omega) (by omega)|exact on_ rfl|exact kd_ rfl|exact(rfl:([]:tW)=[])|exact va_ rfl rfl|exact dr_ (by kernel_rfl)|exact lt_ (cK rfl)|exact lt_ (by omega)|exact le_ (cK rfl)|exact le_ (by omega)|omega|dsimp only):G Tryz.prog fn Rr n M Φ R ks f H:=
 Y3 X7 2000 h [] (fun α=>congrFun hr α) hn hc
theorem rs{h':(Nat→Nat)→List Nat}{z':(Nat→Nat)→List Int}{sN:(Nat→Nat)→List Fr}{f':(Nat→Nat)→Nat→AV}{H':(Nat→Nat)→List En}{c':(Nat→Nat)→List Prop}(h:tW)(hr:(fun α=>run T0 n fn.results.toList 2000 α ⟨h,[],ks,f,H⟩ [])=fun α=>(⟨h' α,z' α,sN α,f' α,H' α⟩,c' α))(_:(match eM T0 n fn.results.toList ⟨h,[],ks,f,H⟩with|some _=>true|none=>(alS T0 n ⟨h,[],ks,f,H⟩).isSome)=true)(hn:∀α,G Tryz.prog fn Rr n M Φ R (sN α) (f' α) (H' α))(hc:∀α,jA (c' α):=by intro _;repeat' first|exact trivial|refine And.intro ?_ ?_|exact ad_ rfl|exact ce_ rfl|exact cs_ rfl rfl|assumption|exact cm_ rfl|exact CD (by assumption)|exact CX (by assumption)|exact CS (by assumption)|exact CV (by assumption)|exact CD (by omega)|exact CX (by omega)|exact CS (by omega)|exact CV (by omega)|exact gtT (by omega)|exact gtF (by omega)|exact geT (by omega)|exact geF (by omega)|exact neT (by omega)|exact neF (by omega)|exact leT (by omega)|exact leF (by omega)|exact wr_ (by omega) (by omega) (by omega)|exact mn_ (by omega) (by omega) (by omega)|exact on_ rfl|exact kd_ rfl|exact(rfl:([]:tW)=[])|exact va_ rfl rfl|exact dr_ (by kernel_rfl)|exact lt_ (cK rfl)|exact lt_ (by omega)|exact le_ (cK rfl)|exact le_ (by omega)|omega|dsimp only):G Tryz.prog fn Rr n M Φ R ks f H:=
 Y3 X7 2000 h [] (fun α=>congrFun hr α) hn hc
theorem rz{h':(Nat→Nat)→List Nat}{z':(Nat→Nat)→List Int}{sN:(Nat→Nat)→List Fr}{f':(Nat→Nat)→Nat→AV}{H':(Nat→Nat)→List En}{c':(Nat→Nat)→List Prop}(h:tW)(z:tG)(hr:(fun α=>run T0 n fn.results.toList 2000 α ⟨h,z,ks,f,H⟩ [])=fun α=>(⟨h' α,z' α,sN α,f' α,H' α⟩,c' α))(hn:∀α,G Tryz.prog fn Rr n M Φ R (sN α) (f' α) (H' α))(hc:∀α,jA (c' α):=by intro _;repeat' first|exact trivial|refine And.intro ?_ ?_|exact ad_ rfl|exact ce_ rfl|exact cs_ rfl rfl|assumption|exact cm_ rfl|exact CD (by assumption)|exact CX (by assumption)|exact CS (by assumption)|exact CV (by assumption)|exact CD (by omega)|exact CX (by omega)|exact CS (by omega)|exact CV (by omega)|exact gtT (by omega)|exact gtF (by omega)|exact geT (by omega)|exact geF (by omega)|exact neT (by omega)|exact neF (by omega)|exact leT (by omega)|exact leF (by omega)|exact wr_ (by omega) (by omega) (by omega)|exact mn_ (by omega) (by omega) (by omega)|exact on_ rfl|exact kd_ rfl|exact(rfl:([]:tW)=[])|exact va_ rfl rfl|exact dr_ (by kernel_rfl)|exact lt_ (cK rfl)|exact lt_ (by omega)|exact le_ (cK rfl)|exact le_ (by omega)|omega|dsimp only):G Tryz.prog fn Rr n M Φ R ks f H:=
 Y3 X7 2000 h z (fun α=>congrFun hr α) hn hc
theorem cb{g:Nat}{al:List AV}(e:QS n ops f i=some (d,g,al))(a:AV)(hc:∀w,Mem w (hs H) M Φ R→cA g (al.map AV.val).toArray w (rB a.val w))(hn:G Tryz.prog fn Rr n M Φ R (.g md ops t::ks) (ua f d a) H)(he:iO Tryz.prog g=true:=by kernel_rfl):G Tryz.prog fn Rr n M Φ R (.g md ops (.ef i t)::ks) f H:=
 ky e he fun w hS=>(hc w hS).mono fun _ _ ⟨h1,h2⟩=>⟨a,H,M,Φ,R,h1,.inr h2,hS.next h2,hn⟩
theorem m0(w:tA):Mem w (hs []) (fun _=>False) (fun _=>True) (fun w'=>bZ w w'):=Mem.start (fun _ h=>h.elim) (fun _ _=>trivial) (fun _ h=>h)
theorem en{g:FuncId}{b:Code}(n:Nat)(al:List AV)(hf:Tryz.prog.funcs[g]? =some fn)(hb:fn.body=some b)(hn:fn.ntmps=n)(hS:Mem w (hs H) M Φ R)(h:G Tryz.prog fn Rr n M Φ R [.c b] (Vi al) H)(hl:Nat.ble al.length n=true:=by rfl)(hk:Gc n b=true:=by kernel_rfl):cA g (al.map AV.val).toArray w Rr:=aby n al hf hb hn hl hk hS h
theorem cx{Y:Type}{g:Nat}{al:List AV}(e:QS n ops f i=some (d,g,al))(a:Y→AV)(Q:Y→Prop)(φ:Y→World→Prop)(hc:∀w,Mem w (hs H) M Φ R→cA g (al.map AV.val).toArray w fun x w'=>∃y,x= .returned (a y).val∧bZ w w'∧Q y∧((∀b,(b∈(hs H).map bU.a∨M b)→b<w.heap.size)→bV (fun b=>b∈(hs H).map bU.a∨M b) w' (φ y)))(hn:∀y,Q y→G Tryz.prog fn Rr n M (fun w=>Φ w∧φ y w) R (.g md ops t::ks) (ua f d (a y)) H)(he:iO Tryz.prog g=true:=by kernel_rfl):G Tryz.prog fn Rr n M Φ R (.g md ops (.ef i t)::ks) f H:=
 ky e he fun w hS=>(hc w hS).mono fun _ _ ⟨y,h1,h2,h3,h4⟩=>⟨a y,H,M,_,R,h1,.inr h2,(hS.next h2).add (h4 hS.ult),hn y h3⟩
theorem cq{Y:Type}{g:Nat}{al:List AV}(e:QS n ops f i=some (d,g,al))(a:Y→AV)(Q:Y→Prop)(hc:∀w,Mem w (hs H) M Φ R→cA g (al.map AV.val).toArray w fun x w'=>∃y,x= .returned (a y).val∧bZ w w'∧Q y)(hn:∀y,Q y→G Tryz.prog fn Rr n M Φ R (.g md ops t::ks) (ua f d (a y)) H)(he:iO Tryz.prog g=true:=by kernel_rfl):G Tryz.prog fn Rr n M Φ R (.g md ops (.ef i t)::ks) f H:=
 ky e he fun w hS=>(hc w hS).mono fun _ _ ⟨y,h1,h2,h3⟩=>⟨a y,H,M,Φ,R,h1,.inr h2,hS.next h2,hn y h3⟩
def abC(n:Nat)(ops:tP)(f:Nat→AV)(i:Nat):Option (Nat×Bool×Nat×AV×AV):=match ops[i]? with
 |some o=>match o.dst,rP n ops f o,o.op with
  |some d,some true,.binOp .eql s x y _=>some (d,false,s,ea f x,ea f y)
  |some d,some true,.binOp .neq s x y _=>some (d,true,s,ea f x,ea f y)
  |_,_,_=>none
 |none=>none
theorem eqs{s:Nat}{neg c b:Bool}{x y:AV}{u v:tR}(e:abC n ops f i=some (d,neg,s,x,y))(h:∀w,(Op.equalIn 10000 s x.val y.val).run Tryz.prog w= .ok c w)(hb:(c !=neg)=b)(hn:G Tryz.prog fn Rr n M Φ R (.g md ops t::ks) (ua f d (vv (.bool b))) H)(hx:x.val= .agg u:=by rfl)(hy:y.val= .agg v:=by rfl)(hg:Tryz.prog.eqGuardType Tryz.prog.depth s=false:=by kernel_rfl):G Tryz.prog fn Rr n M Φ R (.g md ops (.pu i t)::ks) f H:=by
 intro w hS hK;obtain⟨hK1,il⟩:=bn.1 hK;have hn:=hn w hS (bn.2 ⟨hK1,il⟩);show WF Tryz.prog ops (kq Tryz.prog fn Rr ks) md.va (oD md ops) (uv md ops) (.pu i t) n (cn f) w;have h2:∀u v,Op.equal s u v=Op.equalIn 10000 s u v:=fun _ _=>rfl;subst hb;unfold abC at e;split at e
 ·rename_i o ho;split at e
  ·rename_i d' s' p q s2 hd hw hp;simp only[Option.some.injEq,Prod.mk.injEq]at e;obtain⟨rfl,rfl,rfl,rfl,rfl⟩:=e;refine Dg ho hd (fC hw) (dI hK1).1 (v:=(vv (.bool (c !=false))).val) (fun w'=> ?_) (by rw[←jz];exact hn);have hxe:ev (cn f) p= .agg u:=(bz f p).symm.trans hx;have hye:ev (cn f) q= .agg v:=(bz f q).symm.trans hy;have h:=h w';rw[hx,hy]at h;simp[execOp,hp,hxe,hye,eqGuard,hg,binOp,h2,h];rfl
  ·rename_i d' s' p q s2 hd hw hp;simp only[Option.some.injEq,Prod.mk.injEq]at e;obtain⟨rfl,rfl,rfl,rfl,rfl⟩:=e;refine Dg ho hd (fC hw) (dI hK1).1 (v:=(vv (.bool (c !=true))).val) (fun w'=> ?_) (by rw[←jz];exact hn);have hxe:ev (cn f) p= .agg u:=(bz f p).symm.trans hx;have hye:ev (cn f) q= .agg v:=(bz f q).symm.trans hy;have h:=h w';rw[hx,hy]at h;simp[execOp,hp,hxe,hye,eqGuard,hg,binOp,h2,h];rfl
  ·cases e
 ·cases e
theorem Y6{s b q:Nat}{x:AV}{e:Ty}(h1:X5 n ops f i=some (d,s,x))(v:tK)(hc:∀w,Φ w∧(md.va=[]→Mem w (hs H) M Φ R)→w.cell? ⟨b,q,none⟩=some v)(hn:G Tryz.prog fn Rr n M Φ R (.g md ops t::ks) (ua f d (vv v)) H)(NF:∀a,a∈md.va→a∈(hs H).map bU.a)(hx:x.val= .pointer (some ⟨b,q,none⟩):=by rfl)(hf:T0.find s=some e:=by rfl)(ho:e.fI=true:=by rfl):G Tryz.prog fn Rr n M Φ R (.g md ops (.rd i t)::ks) f H:=
 X6 X7 (.o v) h1 hx hf (by rw[ho]) (fun w hS j y hy=>by
  cases j with
  |zero=>cases hy;exact hc w hS
  |succ j=>cases hy) NF hn
theorem l1{va vi vs:_}{cb:Bool}{s b q:Nat}{x:AV}{e:Ty}(h1:X5 n ops f i=some (d,s,x))(v:tK)(hc:∀w,Mem w (hs H) M Φ R→w.cell? ⟨b,q,none⟩=some v)(hn:G Tryz.prog fn Rr n M Φ R (.g ⟨cb,vi,va,vs⟩ ops t::ks) (ua f d (vv v)) H)(hv:va=[]:=by rfl)(hx:x.val= .pointer (some ⟨b,q,none⟩):=by rfl)(hf:T0.find s=some e:=by rfl)(ho:e.fI=true:=by rfl):G Tryz.prog fn Rr n M Φ R (.g ⟨cb,vi,va,vs⟩ ops (.rd i t)::ks) f H:=
 Y6 h1 v (fun w h=>hc w (h.2 hv)) hn (fun a ha=>by rw[show va=[] from hv]at ha;cases ha) hx hf ho
theorem lfg{s b q:Nat}{x:AV}{e:Ty}(h1:X5 n ops f i=some (d,s,x))(m:Nat)(g:tD)(hc:∀w,Φ w∧(md.va=[]→Mem w (hs H) M Φ R)→∀j,j<m→w.cell? ⟨b,q+j,none⟩=some (g j))(hn:G Tryz.prog fn Rr n M Φ R (.g md ops t::ks) (ua f d (vf m g)) H)(NF:∀a,a∈md.va→a∈(hs H).map bU.a)(hx:x.val= .pointer (some ⟨b,q,none⟩):=by rfl)(hf:T0.find s=some e:=by rfl)(ho:e.fI=false:=by rfl)(hm:e.m=m:=by rfl):G Tryz.prog fn Rr n M Φ R (.g md ops (.rd i t)::ks) f H:=
 X6 X7 (.g [.f m g]) h1 hx hf (by rw[ho];subst hm;exact Nat.beq_refl _) (fun w hS j y hy=>by
  have hj:=(Am.1 hy).1;have hj:j<m:=by
   rw[cL]at hj;exact hj
  have hy:(cm g 0 m)[j]? =some y:=hy;rw[bX _ _ _ _ hj,Ae]at hy;cases hy
  exact hc w hS j hj) NF hn
theorem lf{va vi vs:_}{cb:Bool}{s b q:Nat}{x:AV}{e:Ty}(h1:X5 n ops f i=some (d,s,x))(m:Nat)(g:tD)(hc:∀w,Mem w (hs H) M Φ R→∀j,j<m→w.cell? ⟨b,q+j,none⟩=some (g j))(hn:G Tryz.prog fn Rr n M Φ R (.g ⟨cb,vi,va,vs⟩ ops t::ks) (ua f d (vf m g)) H)(hv:va=[]:=by rfl)(hx:x.val= .pointer (some ⟨b,q,none⟩):=by rfl)(hf:T0.find s=some e:=by rfl)(ho:e.fI=false:=by rfl)(hm:e.m=m:=by rfl):G Tryz.prog fn Rr n M Φ R (.g ⟨cb,vi,va,vs⟩ ops (.rd i t)::ks) f H:=
 lfg h1 m g (fun w h=>hc w (h.2 hv)) hn (fun a ha=>by rw[show va=[] from hv]at ha;cases ha) hx hf ho hm
end
section
variable{n:Nat}{ops:tP}{f:Nat→AV}{fn:Func}{Rr:Ending→World→Prop}{M:tF}{Φ R:tJ}{H:List En}{w:tA}{ks:List Fr}{t:Ord}{i d:Nat}{md:Md}
theorem rQ(hS:Mem w (hs H) M Φ R)(j:Nat){e:En}(he:nth H j=some e):aY w e.a e.t (fj e.l) (cD e.l):=by
 rw[eY]at he;exact hS.at j (by rw[Ar,he];rfl)
theorem lo{va vi vs:_}{cb:Bool}{s b q:Nat}{x:AV}{e:Ty}{en:En}(h1:X5 n ops f i=some (d,s,x))(hx:x.val= .pointer (some ⟨b,q,none⟩))(j:Nat)(he:nth H j=some en)(m:Nat)(g:tD)(hg:∀i,i<m→cD en.l (q+i)=g i)(hn:G Tryz.prog fn Rr n M Φ R (.g ⟨cb,vi,va,vs⟩ ops t::ks) (ua f d (vf m g)) H)(hq:q+m≤fj en.l:=by first|exact cK rfl|(show _≤206;(try dsimp only);omega)|(show _≤199;(try dsimp only);omega)|(show _≤19;(try dsimp only);omega)|(show _≤18;(try dsimp only);omega)|(show _≤8;(try dsimp only);omega))(ha:en.a=b:=by rfl)(hv:va=[]:=by rfl)(hf:T0.find s=some e:=by rfl)(ho:e.fI=false:=by rfl)(hm:e.m=m:=by rfl):G Tryz.prog fn Rr n M Φ R (.g ⟨cb,vi,va,vs⟩ ops (.rd i t)::ks) f H:=
 lf h1 m g (fun w hS i hi=>by
  have:=(rQ hS j he).at (q+i) (by omega);rw[ha,hg i hi]at this
  exact this) hn hv hx hf ho hm
theorem lo1{va vi vs:_}{cb:Bool}{s b q:Nat}{x:AV}{e:Ty}{en:En}(h1:X5 n ops f i=some (d,s,x))(hx:x.val= .pointer (some ⟨b,q,none⟩))(j:Nat)(he:nth H j=some en)(v:tK)(hg:cD en.l q=v)(hn:G Tryz.prog fn Rr n M Φ R (.g ⟨cb,vi,va,vs⟩ ops t::ks) (ua f d (vv v)) H)(hq:q<fj en.l:=by first|exact cK rfl|(show _<206;(try dsimp only);omega)|(show _<199;(try dsimp only);omega)|(show _<19;(try dsimp only);omega)|(show _<18;(try dsimp only);omega)|(show _<8;(try dsimp only);omega))(ha:en.a=b:=by rfl)(hv:va=[]:=by rfl)(hf:T0.find s=some e:=by rfl)(ho:e.fI=true:=by rfl):G Tryz.prog fn Rr n M Φ R (.g ⟨cb,vi,va,vs⟩ ops (.rd i t)::ks) f H:=
 l1 h1 v (fun w hS=>by
  have:=(rQ hS j he).at q hq;rw[ha,hg]at this
  exact this) hn hv hx hf ho
def UM(n:Nat)(ops:tP)(f:Nat→AV)(i:Nat):Option (Nat×AV×AV):=match ops[i]? with
 |some o=>match o.dst,rP n ops f o,o.op with
  |none,some true,.store s x y=>some (s,ea f x,ea f y)
  |_,_,_=>none
 |none=>none
theorem so{s b q m:Nat}{x y:AV}{e:Ty}{en:En}{g:tD}(h1:UM n ops f i=some (s,x,y))(hx:x.val= .pointer (some ⟨b,q,none⟩))(hy:y.val=vF g m)(j:Nat)(he:nth H j=some en)(g':tD)(hg:∀i,i<fj en.l→gf (cD en.l) q m g i=g' i)(hn:G Tryz.prog fn Rr n M Φ R (.g md ops t::ks) f (H.set j ⟨en.a,en.t,[.f (fj en.l) g']⟩))(JJ:aS g m)(hq:q+m≤fj en.l:=by first|exact cK rfl|(show _≤206;(try dsimp only);omega)|(show _≤199;(try dsimp only);omega)|(show _≤19;(try dsimp only);omega)|(show _≤18;(try dsimp only);omega)|(show _≤8;(try dsimp only);omega))(ha:en.a=b:=by rfl)(hv:md.vs.contains i=false:=by rfl)(hf:T0.find s=some e:=by rfl)(ho:e.fI=false:=by rfl)(hm:e.m=m:=by rfl):G Tryz.prog fn Rr n M Φ R (.g md ops (.ef i t)::ks) f H:=by
 intro w hS hK;obtain⟨hK1,il⟩:=bn.1 hK;show WF Tryz.prog ops (kq Tryz.prog fn Rr ks) md.va (oD md ops) (uv md ops) (.ef i t) n (cn f) w;obtain⟨Nu,rfl⟩:=X7.fm hf;have xv:=he;rw[eY]at xv;have wM:(hs H)[j]? =some en.ik:=by rw[Ar,xv];rfl
 unfold UM at h1;split at h1
 ·rename_i o hoo;split at h1
  ·rename_i s' p r hd hw hp;simp only[Option.some.injEq,Prod.mk.injEq]at h1;obtain⟨rfl,rfl,rfl⟩:=h1;have hx:ev (cn f) p= .pointer (some ⟨b,q,none⟩):=(bz f p).symm.trans hx;have hy:ev (cn f) r=vF g m:=(bz f r).symm.trans hy
   have GC:(oD md ops).contains i=true:=kM hoo (by
    unfold nc;rw[hv,hp]
    cases md.cb<;>rfl)
   refine aeq (P:=Tryz.prog) (hm▸Ty.row Nu ho) hS j wM GC hoo hd (fC hw) (dI hK1).1 hp hx hy ha hq JJ fun w' zR=> ?_
   have Gg:=zR.congr j (e:=⟨en.a,en.t,fj en.l,gf (cD en.l) q m g⟩) (by
    rw[Cr (Am.1 wM).1]
    rfl) g' hg
   rw[List.set_set]at Gg;have e4:hs (H.set j ⟨en.a,en.t,[.f (fj en.l) g']⟩)=(hs H).set j ⟨en.a,en.t,fj en.l,g'⟩:=by
    rw[hs,Cq];rfl
   exact hn w' (by rw[e4];exact Gg) (bn.2 ⟨hK1,il⟩)
  ·cases h1
 ·cases h1
theorem gn{en:En}(j:Nat)(g:tD)(hn:G Tryz.prog fn Rr n M Φ R ks f (H.set j ⟨en.a,en.t,[.f (fj en.l) g]⟩))(he:nth H j=some en:=by rfl)(hg:dx en.l=cm g 0 (fj en.l):=by rfl):G Tryz.prog fn Rr n M Φ R ks f H:=by
 refine jj (fun w hS=> ?_) hn;have xv:=he;rw[eY]at xv;have wM:(hs H)[j]? =some en.ik:=by rw[Ar,xv];rfl
 have Gg:=hS.congr j wM g (fun i hi=>by
  have hi:i<fj en.l:=hi;show cD en.l i=g i;rw[iU _ hi,hg,Ah,bX _ _ _ _ hi,Ae]
  rfl)
 have e4:hs (H.set j ⟨en.a,en.t,[.f (fj en.l) g]⟩)=(hs H).set j ⟨en.a,en.t,fj en.l,g⟩:=by
  rw[hs,Cq];rfl
 rw[e4];exact Gg
theorem sv{fn:Func}{Rr:Ending→World→Prop}{n:Nat}{M:tF}{Φ R:tJ}{ks:List Fr}{f:Nat→AV}{H:List En}(d:Nat)(a:AV)(h:(f d).val=a.val)(hn:G Tryz.prog fn Rr n M Φ R ks (ua f d a) H):G Tryz.prog fn Rr n M Φ R ks f H:=by
 intro w hS hK;have:=hn w hS hK;rw[show cn (ua f d a)=cn f from sO f [(d,a)] ⟨h,trivial⟩]at this;exact this
theorem c0{M:tF}{R:tJ}{e0:En}{g:Nat}{al:List AV}(e:QS n ops f i=some (d,g,al))(hc:∀w,Mem w (hs (e0::H)) M Φ R→cA g (al.map AV.val).toArray w fun x w'=>∃(a:AV) (g':tD) (φ:tJ),x= .returned a.val∧dm (fun b=>b=e0.a) w w'∧aY w' e0.a e0.t (fj e0.l) g'∧bV (fun b=>b=e0.a∨(b∈(hs H).map bU.a∨M b)) w' φ∧G Tryz.prog fn Rr n M (fun w=>Φ w∧φ w) R (.g md ops t::ks) (ua f d a) (⟨e0.a,e0.t,[.f (fj e0.l) g']⟩::H))(hm:(md.cb||md.vs.contains i)=false:=by rfl)(he:iO Tryz.prog g=true:=by kernel_rfl):G Tryz.prog fn Rr n M Φ R (.g md ops (.ef i t)::ks) f (e0::H):=
 ky e he fun w hS=>(hc w hS).mono fun _ w' ⟨a,g',φ,h1,c,fb,s,hn⟩=>⟨a,⟨e0.a,e0.t,[.f (fj e0.l) g']⟩::H,_,_,_,h1,.inl hm,hS.QU c fb s,hn⟩
theorem kp{M:tF}{R:tJ}(k:Nat){e:En}(he:nth H k=some e)(hn:G Tryz.prog fn Rr n M (fun w=>Φ w∧aY w e.a e.t (fj e.l) (cD e.l)) R ks f (H.take k)):G Tryz.prog fn Rr n M Φ R ks f H:=
 jj (fun w hS=>by
  rw[eY]at he;have hh:hs (H.take k)=(hs H).take k:=List.map_take;rw[hh];refine(hS.take k).add (hS.kept k (e:=e.ik) ?_ k (Aa _));rw[Ar,he]
  rfl) hn
def LL:List Fr→Bool
 |[]=>true
 | .c _::l=>LL l
 | .b _::l=>LL l
 |_=>false
theorem ET{P:tY}{k1 k2:List Fr}(h:∀e a w,kq P fn Rr k1 e a w→kq P fn Rr k2 e a w):∀(l:List Fr),LL l=true→∀e a w,kq P fn Rr (l++k1) e a w→kq P fn Rr (l++k2) e a w
 |[],_,e,a,w,hq=>h e a w hq
 | .c c::l,hp,e,a,w,hq=>by
  have ih:=ET h l hp;cases e with
  |normal=>exact Code.wp_mono ih hq
  |_=>exact ih _ _ _ hq
 | .b id::l,hp,e,a,w,hq=>by
  have ih:=ET h l hp;cases e with
  |exit id'=>
   show(if id'=id then _ else _);have hq:(if id'=id then kq P fn Rr (l++k1) .normal a w else kq P fn Rr (l++k1) (.exit id') a w):=hq;split
   ·rename_i e;rw[if_pos e]at hq;exact ih _ _ _ hq
   ·rename_i e;rw[if_neg e]at hq;exact ih _ _ _ hq
  |_=>exact ih _ _ _ hq
theorem EU(n:Nat):∀a b:List Fr,Gw n (a++b)=(Gw n a&&Gw n b)
 |[],b=>rfl
 |x::a,b=>by
  show(okF n x&&Gw n (a++b))=((okF n x&&Gw n a)&&Gw n b);rw[EU n a b,Bool.and_assoc]
theorem aeK{X:Type}(k:Nat)(s:X→List (Nat×AV))(H':X→List En)(M':X→Nat→Prop)(Gf R':X→World→Prop)(J:X→Prop)(h1:∀f x,J x→G Tryz.prog fn Rr n (M' x) (Gf x) (R' x) (ks.drop k) (us f (s x)) (H' x))(h2:G Tryz.prog fn Rr n M Φ R (ks.take k++ .j (LJ n ⟨s,H',M',Gf,R',J,fun _=>0⟩ 1)::ks.drop k) f H)(hp:LL (ks.take k)=true:=by rfl):G Tryz.prog fn Rr n M Φ R ks f H:=by
 intro w hS hK;have il:(Gw n (ks.take k)&&Gw n (ks.drop k))=true:=by rw[←EU,BN];exact hK
 have hKa:=(Bool.and_eq_true_iff.1 il).1;have hKb:=(Bool.and_eq_true_iff.1 il).2;have h:=h2 w hS (by rw[EU,hKa];exact(Bool.and_eq_true_iff.2 ⟨rfl,hKb⟩:(true&&Gw n (ks.drop k))=true));rw[show ks=ks.take k++ks.drop k from(BN k ks).symm];refine ET (fun e a' w' hq=> ?_) _ hp _ _ _ h;cases e with
 |normal=>
  obtain⟨f,x,rfl,e1,e2,e3,_⟩:=hq;have:=h1 f x e3 w' e2 hKb;rw[sO f _ e1]at this;exact this
 |_=>exact hq
end
end Rv
def aj(n m:Int):Int:=(if n<0 then-(n+1)else n) % m
theorem cg(n m:Int)(h:0<m):0≤aj n m∧aj n m<m:=by
 unfold aj;exact⟨Int.emod_nonneg _ (by omega),Int.emod_lt_of_pos _ h⟩
theorem i_(n m:Int)(w:tA)(hn:(Lit.int .i64 n).wf=true)(hm:0<m)(sD:m≤4294967296):
  cA 34 #[iV n,iV m] w fun e w'=>e= .returned (iV (aj n m))∧w=w':=by
 have hb:=bounds_i64 hn;clear hn;obtain⟨mC,Ge⟩:=hb;by_cases h:n<0
 ·have e1:aj n m=(-(n+1)) % m:=by unfold aj;rw[if_pos h]
  rw[e1];clear e1;have CJ:¬m=0:=by omega
  go_enter Tryz.func34,Tryz.ntmps34;go_wp2;go_ret;refine⟨Au (fun z=>Ending.returned (iV z)) ?_,rfl⟩;rw[←Int.neg_tmod,Int.tmod_eq_emod_of_nonneg (by omega)]
 ·have e1:aj n m=n % m:=by unfold aj;rw[if_neg h]
  rw[e1];clear e1;have CJ:¬m=0:=by omega
  go_enter Tryz.func34,Tryz.ntmps34;go_wp2;go_ret;exact⟨rfl,rfl⟩
theorem Mem.QV{w:tA}{H:List bU}{M:tF}{Γ R0:tJ}{base e sz n:Nat}{v:tK}{xs:tM}(h:Mem w H M Γ fun w=>R0 w∧w.ownsRow base e sz v n xs):∀b,v.ownBlock=some b→b∉H.map bU.a:=by
 intro b hb hm;have aM:=h.lt hm
 have c:dm (fun b=>b∈H.map bU.a) w {w with heap:=w.heap.set b (.cells #[] (e+1) (0,0)) aM}:=⟨rfl,rfl,rfl,by simp,fun z hz uC=>by
  have fM:b≠z:=fun e=>uC (e▸hm)
  simp[fM]⟩
 rcases(h.r _ c).2.2 with⟨rfl,_⟩|⟨g,cap,cur,rfl,_,hh,_⟩
 ·cases hb
 ·obtain rfl:g=b:=by simpa[Value.ownBlock]using hb
  simp at hh
theorem jD{w w':tA}{base e sz n:Nat}{v:tK}{xs:tM}(h:w.ownsRow base e sz v n xs)(hb:∀g,v.ownBlock=some g→g<w.heap.size→w'.heap[g]? =w.heap[g]?):w'.ownsRow base e sz v n xs:=by
 refine⟨h.1,h.2.imp id ?_⟩;rintro⟨g,cap,cur,rfl,h1,h2,h3⟩;exact⟨g,cap,cur,rfl,h1,(hb g rfl (BJ.1 h2).1).trans h2,h3⟩
theorem cV{w0 w w':tA}{B:Nat}(h:bZ w0 w)(c:dm (fun b=>B≤b) w w')(hB:w0.heap.size≤B):bZ w0 w':=⟨c.os.trans h.os,c.tape.trans h.tape,c.output.trans h.output,AN h.size c.size,fun b hb=>(c.block b (Aj hb h.size) (by omega)).trans (h.block b hb)⟩
theorem Mem.sr{w:tA}{H:List bU}{M:tF}{Γ R R':tJ}(h:Mem w H M Γ R)(hR:∀w,R w→R' w):Mem w H M Γ R':=⟨h.ik,h.ov,h.off,h.mlt,h.g,fun w c=>hR w (h.r w c)⟩
theorem Mem.zT{w:tA}{H:List bU}{M:tF}{Γ R0:tJ}(base e sz:Nat)(h:Mem w H M Γ R0):Mem w H (fun b=>(Value.slice none 0 0).ownBlock=some b∨M b) Γ fun w=>R0 w∧w.ownsRow base e sz (.slice none 0 0) 0 []:=
 ⟨h.ik,h.ov,fun e he hm=>hm.elim (fun k=>by cases k) (h.off e he),fun b hb=>hb.elim (fun k=>by cases k) (h.mlt b),fun w2 c=>h.g w2 ⟨c.os,c.tape,c.output,c.size,fun b hb hu=>c.block b hb fun k=>hu (k.imp id fun k=>k.elim (fun k=>by cases k) id)⟩,fun w2 c=>⟨h.r w2 c,by simp,.inl ⟨rfl,rfl⟩⟩⟩
theorem oF{w:tA}{base e sz n g c j:Nat}{xs:tM}{u:tK}(h:w.ownsRow base e sz (.slice (some ⟨g,0,none⟩) n c) n xs)(hj:xs[j]? =some u):w.cell? ((⟨g,0,none⟩:Addr).add j)=some u:=by
 rcases h.2 with⟨k,_⟩|⟨g2,c2,cur,k,_,hh,_,_,_,ht⟩
 ·cases k
 ·cases k;rw[←ht,AP]at hj;split at hj
  ·rw[BG,Ae];simpa[World.cell?,hh]using hj
  ·cases hj
theorem LM{w:tA}{a t sz c l base:Nat}{g:tD}(fb:aY w a t (c*sz) g)(hb:base≤a)(qv:l≤c)(hc:c≤maxLen):w.ownsRow base t sz (.slice (some ⟨a,0,none⟩) l c) l (cm g 0 (l*sz)):=by
 refine⟨bK _ _ _,.inr ⟨a,c,(cm g 0 (c*sz)).toArray,rfl,hb,fb,qv,hc,by simp[bK], ?_⟩⟩;apply BF;intro j;have hle:l*sz≤c*sz:=Nat.mul_le_mul_right _ qv;by_cases hj:j<l*sz
 ·rw[AP,if_pos hj,bX _ _ _ _ hj];show(cm g 0 (c*sz))[j]? =_;rw[bX _ _ _ _ (by omega)]
 ·rw[AP,if_neg hj,gH _ _ _ _ (by omega)]
namespace Rv
section
variable{n:Nat}{ops:tP}{f:Nat→AV}{fn:Func}{Rr:Ending→World→Prop}{T:tF}{Φ R:tJ}{H:List En}{ks:List Fr}{t:Ord}{i d:Nat}{md:Md}
def Qk(n:Nat)(ops:tP)(f:Nat→AV)(i:Nat):Option (Nat×Nat×AV×AV):=match ops[i]? with
 |some o=>match o.dst,rP n ops f o,o.op with
  |some d,some true,.call ⟨.builtin .append,xs,ts⟩=>match xs.toList,ts.toList with
   |[x,y],[s,s']=>if s=s' then some (d,s,ea f x,ea f y)else none
   |_,_=>none
  |_,_,_=>none
 |none=>none
theorem xw{s:Nat}{x y:AV}(h:Qk n ops f i=some (d,s,x,y)):∃o p r,ops[i]? =some o∧o.dst=some d∧rP n ops f o=some true∧o.op= .call ⟨.builtin .append,#[p,r],#[s,s]⟩∧x=ea f p∧y=ea f r:=by
 unfold Qk at h;split at h
 ·rename_i o ho;split at h
  ·rename_i d' xs ts hd hw hp;split at h
   ·rename_i p r s1 s2 h1 h2;split at h
    ·rename_i e;simp only[Option.some.injEq,Prod.mk.injEq]at h;obtain⟨rfl,rfl,rfl,rfl⟩:=h;subst e;have e1:xs= #[p,r]:=Array.toList_inj.1 h1;have e2:ts= #[s1,s1]:=Array.toList_inj.1 h2;exact⟨o,p,r,ho,hd,hw,by rw[hp,e1,e2],rfl,rfl⟩
    ·cases h
   ·cases h
  ·cases h
 ·cases h
theorem apr{s e sz kj base l m mc:Nat}{x y:AV}{v:tK}{L news:tM}{ad:Addr}{R0:tJ}(h1:Qk n ops f i=some (d,s,x,y))(hx:x.val=v)(hy:y.val= .slice (some ad) m mc)(ht:jv Tryz.prog s e sz kj=true)(hl:news.length=m*sz)(vw:∀w,Mem w (hs H) (fun b=>v.ownBlock=some b∨T b) Φ (fun w=>R0 w∧w.ownsRow base e sz v l L)→∀j u,news[j]? =some u→w.cell? (ad.add j)=some u)(JJ:∀u∈news,u.oneCell'=true)(hm:0<m)(Gq:l+m≤maxLen)(wI:(l+m)*kj≤140737488355328)(hb:∀w,Mem w (hs H) (fun b=>v.ownBlock=some b∨T b) Φ (fun w=>R0 w∧w.ownsRow base e sz v l L)→base≤w.heap.size)(hR:∀w w',R0 w→dm (fun b=>base≤b) w w'→R0 w')(hn:∀g c,l+m≤c→G Tryz.prog fn Rr n (fun b=>(Value.slice (some ⟨g,0,none⟩) (l+m) c).ownBlock=some b∨T b) Φ (fun w=>R0 w∧w.ownsRow base e sz (.slice (some ⟨g,0,none⟩) (l+m) c) (l+m) (L++news)) (.g md ops t::ks) (ua f d (vv (.slice (some ⟨g,0,none⟩) (l+m) c))) H)(hv:md.vs.contains i=false:=by rfl):G Tryz.prog fn Rr n (fun b=>v.ownBlock=some b∨T b) Φ (fun w=>R0 w∧w.ownsRow base e sz v l L) (.g md ops (.ef i t)::ks) f H:=by
 intro w hS hK;obtain⟨hK1,il⟩:=bn.1 hK;show WF Tryz.prog ops (kq Tryz.prog fn Rr ks) md.va (oD md ops) (uv md ops) (.ef i t) n (cn f) w;obtain⟨o,p,r,ho,hd,hw,hp,rfl,rfl⟩:=xw h1
 have GC:(oD md ops).contains i=true:=kM ho (by
  unfold nc;rw[hv,hp]
  cases md.cb<;>rfl)
 obtain⟨hu,ti,z,hi,hz,Jq,hby1,LA,iE⟩:=Dh ht;have own:=hS.now.2.2;obtain⟨g1,cap,w1,hr,ho1,hgr,hat,aM⟩:=run_append_lies (P:=Tryz.prog) w s o.type base e ti z sz kj hu hi hz Jq hby1 LA iE v l L own ad m mc news hl (vw w hS) JJ hm Gq wI (hb w hS) w.heap.size rfl;have JK:∀b,v.ownBlock=some b→base≤b:=fun b h=>by
  rcases own.2 with⟨rfl,_⟩|⟨g,c2,cu,rfl,hg,_⟩
  ·cases h
  ·cases h;exact hg
 have kN:=hS.QV;have lc:l+m≤cap:=by
  rcases ho1.2 with⟨k,_⟩|⟨g2,c2,cu,k,_,_,h3,_⟩
  ·cases k
  ·cases k;exact h3
 refine oz ho hd (fC hw) (dI hK1).1 (rN hp ((bz f p).symm.trans hx) ((bz f r).symm.trans hy) hr) (gk GC) ?_;have hc:dm (fun b=>v.ownBlock=some b) w w1:=⟨hgr.os,hgr.tape,hgr.output,hgr.size,fun x hx fM=>hgr.block x hx fun e=>fM e.symm⟩
 have wN:=hS.mv (F':=fun b=>(Value.slice (some ⟨g1,0,none⟩) (l+m) cap).ownBlock=some b) (R':=fun w=>R0 w∧w.ownsRow base e sz (.slice (some ⟨g1,0,none⟩) (l+m) cap) (l+m) (L++news)) ⟨hc,fun b hb=>by
  cases hb;exact hat.imp id fun e=>BZ e.symm,fun b hb=>by cases hb;exact aM⟩ fun w2 c2=>⟨?_, ?_⟩
 ·have:=hn g1 cap lc w1 wN (bn.2 ⟨hK1,il⟩);rw[jz]at this;exact this
 ·have key:∀w3:World,w3.os=w2.os→w3.tape=w2.tape→w3.output=w2.output→w3.heap.size=w2.heap.size→(∀b,base≤b∨w3.heap[b]? =w2.heap[b]?)→(∀b,b<w.heap.size→b∉(hs H).map bU.a→w3.heap[b]? =w.heap[b]?)→R0 w2:=fun w3 q1 q2 q3 q4 q5 q6=>hR w3 w2 (hS.r w3 ⟨q1.trans (c2.os.trans hc.os),q2.trans (c2.tape.trans hc.tape),q3.trans (c2.output.trans hc.output),by rw[q4];exact AN hc.size c2.size,q6⟩).1 ⟨q1.symm,q2.symm,q3.symm,BZ q4,fun b _ hb=>((q5 b).resolve_left hb).symm⟩;have ox:∀b,b<w.heap.size→b∉(hs H).map bU.a→¬v.ownBlock=some b→w2.heap[b]? =w.heap[b]? :=fun b hb sD hv2=>(c2.block b (Aj hb hc.size) sD).trans (hc.block b hb hv2);cases hv2:v.ownBlock with
  |none=>exact key w2 rfl rfl rfl rfl (fun b=> .inr rfl) fun b hb sD=>ox b hb sD (by rw[hv2];simp)
  |some g=>
   have hg:g<w.heap.size:=hS.mlt g (.inl hv2);have EP:g<w2.heap.size:=Aj hg (AN hc.size c2.size);refine key {w2 with heap:=w2.heap.set g w.heap[g] EP} rfl rfl rfl (by simp) (fun b=> ?_) fun b hb sD=> ?_
   ·by_cases e:b=g
    ·exact .inl (e▸JK g hv2)
    ·exact .inr (by simp[Array.getElem?_set_ne,Ne.symm e])
   ·by_cases e:b=g
    ·subst e;simp[hg]
    ·show(w2.heap.set g w.heap[g] EP)[b]? =_;rw[Array.getElem?_set_ne EP (Ne.symm e)];exact ox b hb sD (by rw[hv2];simpa using Ne.symm e)
 ·refine jD ho1 fun g hg hlt2=>c2.block g hlt2 fun sD=> ?_;cases hg;rcases hat with e|e
  ·exact kN _ e sD
  ·exact absurd (hS.lt sD) (AY.2 (BZ e.symm))
theorem qT{s e sz kj base l mc b:Nat}{x y:AV}{v:tK}{L:tM}{R0:tJ}{en:En}(j:Nat)(h1:Qk n ops f i=some (d,s,x,y))(ht:jv Tryz.prog s e sz kj=true)(hb:∀w,Mem w (hs H) (fun b=>v.ownBlock=some b∨T b) Φ (fun w=>R0 w∧w.ownsRow base e sz v l L)→base≤w.heap.size)(hR:∀w w',R0 w→dm (fun b=>base≤b) w w'→R0 w')(hn:∀g c,l+1≤c→G Tryz.prog fn Rr n (fun b=>(Value.slice (some ⟨g,0,none⟩) (l+1) c).ownBlock=some b∨T b) Φ (fun w=>R0 w∧w.ownsRow base e sz (.slice (some ⟨g,0,none⟩) (l+1) c) (l+1) (L++dx en.l)) (.g md ops t::ks) (ua f d (vv (.slice (some ⟨g,0,none⟩) (l+1) c))) H)(hx:x.val=v:=by rfl)(hy:y.val= .slice (some ⟨b,0,none⟩) 1 mc:=by rfl)(he:nth H j=some en:=by rfl)(ha:en.a=b:=by rfl)(hl:fj en.l=sz:=by rfl)(JJ:(dx en.l).all (·.oneCell')=true:=by rfl)(Gq:l+1≤maxLen:=by(try dsimp only);unfold maxLen;omega)(wI:(l+1)*kj≤140737488355328:=by(try dsimp only);omega)(hv:md.vs.contains i=false:=by rfl):G Tryz.prog fn Rr n (fun b=>v.ownBlock=some b∨T b) Φ (fun w=>R0 w∧w.ownsRow base e sz v l L) (.g md ops (.ef i t)::ks) f H:=
 apr h1 hx hy ht (by rw[cL,Nat.one_mul];exact hl) (fun w hS j2 u hu=>by
  have fb:=rQ hS j he;have hj:=(Am.1 hu).1;rw[cL]at hj;have:=fb.at j2 hj;rw[iU _ hj,Ah,hu,ha]at this;rw[BG,Ae]
  exact this) (fun u hu=>List.all_eq_true.1 JJ u hu) Bi Gq wI hb hR hn hv
theorem ro{w0:tA}{M:tF}{R0:tJ}{en:En}(k sz l c:Nat)(h0:∀w,R0 w→bZ w0 w)(hn:G Tryz.prog fn Rr n (fun b=>(Value.slice (some ⟨en.a,0,none⟩) l c).ownBlock=some b∨M b) Φ (fun w=>R0 w∧w.ownsRow w0.heap.size en.t sz (.slice (some ⟨en.a,0,none⟩) l c) l (cm (cD en.l) 0 (l*sz))) ks f (H.take k))(he:nth H k=some en:=by rfl)(iE:fj en.l=c*sz:=by rfl)(qv:l≤c:=by exact Aa _)(hc:c≤maxLen:=by exact cK rfl):G Tryz.prog fn Rr n M Φ R0 ks f H:=by
 refine jj (fun w hS=> ?_) hn;have X8:=he;rw[eY]at X8;have wM:(hs H)[k]? =some en.ik:=by rw[Ar,X8];rfl
 have dQ:w0.heap.size≤en.a:=(Mem.mk hS.ik hS.ov hS.off hS.mlt hS.g (fun w' c=>h0 _ (hS.r w' c))).jC k wM;have fb:=rQ hS k he;rw[iE]at fb;have hh:hs (H.take k)=(hs H).take k:=List.map_take;rw[hh];have sub:∀b,b∈((hs H).take k).map bU.a→b∈(hs H).map bU.a:=fun b hb=>by
  obtain⟨e,he,rfl⟩:=Ax.1 hb;exact List.mem_map_of_mem (AK he)
 have fM:∀b,b∈((hs H).take k).map bU.a→b≠en.a:=fun b hb e=>by
  obtain⟨x,hx,rfl⟩:=Ax.1 hb;obtain⟨j,hj⟩:=List.mem_iff_getElem?.1 hx;rw[AP]at hj;split at hj
  ·rename_i hjk;exact absurd (hS.ov j k x _ hj wM e) (Nat.ne_of_lt hjk)
  ·cases hj
 have abG:en.a∈(hs H).map bU.a:=Ax.2 ⟨_,Ap wM,rfl⟩;refine⟨fun e he=>hS.ik e (AK he),(hS.take k).ov,fun e he hm=> ?_,fun b hb=> ?_,fun w2 c2=>hS.g w2 (c2.mono fun b hb=> ?_),fun w2 c2=>⟨hS.r w2 (c2.mono sub), ?_⟩⟩
 ·rcases hm with hm|hm
  ·exact fM _ (List.mem_map_of_mem he) (Option.some.inj hm).symm
  ·exact hS.off e (AK he) hm
 ·rcases hb with hb|hb
  ·cases hb;exact hS.lt abG
  ·exact hS.mlt b hb
 ·rcases hb with hb|hb|hb
  ·exact .inl (sub b hb)
  ·cases hb;exact .inl abG
  ·exact .inr hb
 ·exact jD (LM fb dQ qv hc) fun g hg aM=>c2.block g aM fun hm=>by
   cases hg;exact fM _ hm rfl
theorem ap0{M:tF}{s e base l sz kj:Nat}{x y:AV}{v:tK}{L:tM}(h1:Qk n ops f i=some (d,s,x,y))(hx:x.val=v)(hy:y.val= .slice none 0 0)(ht:jv Tryz.prog s e sz kj=true)(own:∀w,Mem w (hs H) M Φ R→w.ownsRow base e sz v l L)(hn:G Tryz.prog fn Rr n M Φ R (.g md ops t::ks) (ua f d (vv v)) H)(hv:md.vs.contains i=false:=by rfl):G Tryz.prog fn Rr n M Φ R (.g md ops (.ef i t)::ks) f H:=by
 intro w hS hK;obtain⟨hK1,il⟩:=bn.1 hK;show WF Tryz.prog ops (kq Tryz.prog fn Rr ks) md.va (oD md ops) (uv md ops) (.ef i t) n (cn f) w;obtain⟨o,p,r,ho,hd,hw,hp,rfl,rfl⟩:=xw h1
 have GC:(oD md ops).contains i=true:=kM ho (by
  unfold nc;rw[hv,hp]
  cases md.cb<;>rfl)
 obtain⟨hu,ti,z,hi,_⟩:=Dh ht;have hr:=run_append_owned_none (P:=Tryz.prog) (w:=w) base s o.type e ti sz hu hi v l L (own w hS);refine oz ho hd (fC hw) (dI hK1).1 (rN hp ((bz f p).symm.trans hx) ((bz f r).symm.trans hy) hr) (gk GC) ?_;have:=hn w hS (bn.2 ⟨hK1,il⟩);rw[jz]at this;exact this
end
end Rv
theorem aY.LN{w:tA}{X t c:Nat}{g:tD}{U:tF}{G:tJ}(fb:aY w X t c g)(hU:∀b,U b→b<w.heap.size)(hX:¬U X)(hG:bV (fun b=>b=X∨U b) w G):Mem w (Rv.hs [⟨X,t,[.f c g]⟩]) U G (fun w'=>dm (fun b=>b∈[X]) w w'):=
 Mem.begin (H:=[⟨X,t,c,g⟩]) (fun e he=>by cases Ab.1 he;exact fb) (BH _ _) (fun e he=>by cases Ab.1 he;exact hX) hU fun w2 c=>hG w2 (c.mono fun b h=>h.imp (fun h=>Ab.1 h) id)
theorem aY.abH{w:tA}{N X t c t' c':Nat}{g g':tD}{U:tF}{G:tJ}(fb:aY w N t c g)(Y7:aY w X t' c' g')(fM:N≠X)(hU:∀b,U b→b<w.heap.size)(hN:¬U N)(hX:¬U X)(hG:bV (fun b=>(b=N∨b=X)∨U b) w G):Mem w (Rv.hs [⟨N,t,[.f c g]⟩,⟨X,t',[.f c' g']⟩]) U G (fun w'=>dm (fun b=>b∈[N,X]) w w'):=by
 refine Mem.begin (H:=[⟨N,t,c,g⟩,⟨X,t',c',g'⟩]) (fun e he=> ?_) (List.pairwise_pair.2 fM) (fun e he=> ?_) hU fun w2 c=>hG w2 (c.mono fun b h=>h.imp (fun h=>by simpa using h) id)
 ·simp only[List.mem_cons,List.not_mem_nil,or_false]at he;rcases he with rfl|rfl
  ·exact fb
  ·exact Y7
 ·simp only[List.mem_cons,List.not_mem_nil,or_false]at he;rcases he with rfl|rfl
  ·exact hN
  ·exact hX
namespace Rv
section
variable{n:Nat}{ops:tP}{f:Nat→AV}{fn:Func}{Rr:Ending→World→Prop}{M:tF}{Φ R:tJ}{H:List En}{ks:List Fr}{t:Ord}{i d:Nat}{md:Md}
def opA(n:Nat)(ops:tP)(f:Nat→AV)(i:Nat):Option (Nat×Oper):=match ops[i]? with
 |some o=>match o.dst,rP n ops f o with
  |some d,some true=>some (d,o)
  |_,_=>none
 |none=>none
theorem pv{o:Oper}(a:AV)(e:opA n ops f i=some (d,o))(h:∀w,(execOp (fun x=>(ea f x).val) o).run Tryz.prog w= .ok (.value a.val) w)(hn:G Tryz.prog fn Rr n M Φ R (.g md ops t::ks) (ua f d a) H):G Tryz.prog fn Rr n M Φ R (.g md ops (.pu i t)::ks) f H:=by
 intro w hS hK;obtain⟨hK1,il⟩:=bn.1 hK;have hn:=hn w hS (bn.2 ⟨hK1,il⟩);show WF Tryz.prog ops (kq Tryz.prog fn Rr ks) md.va (oD md ops) (uv md ops) (.pu i t) n (cn f) w;unfold opA at e;split at e
 ·rename_i o' ho;split at e
  ·rename_i d' hd hw;simp only[Option.some.injEq,Prod.mk.injEq]at e;obtain⟨rfl,rfl⟩:=e;have e1:ev (cn f)=fun x=>(ea f x).val:=funext fun x=>(bz f x).symm;exact Dg ho hd (fC hw) (dI hK1).1 (v:=a.val) (fun w'=>by rw[e1];exact h w') (by rw[←jz];exact hn)
  ·cases e
 ·cases e
theorem ct{Y:Type}{g:Nat}{al:List AV}(e:QS n ops f i=some (d,g,al))(a:AV)(R':Y→World→Prop)(hc:∀w,Mem w (hs H) M Φ R→cA g (al.map AV.val).toArray w fun x w'=>x= .returned a.val∧∃y,R' y w')(hR:∀y w' w2,R' y w'→bZ w' w2→R' y w2)(hn:∀y,G Tryz.prog fn Rr n (fun _=>False) (fun _=>True) (R' y) (.g md ops t::ks) (ua f d a) [])(hm:(md.cb||md.vs.contains i)=false:=by rfl)(he:iO Tryz.prog g=true:=by kernel_rfl):G Tryz.prog fn Rr n M Φ R (.g md ops (.ef i t)::ks) f H:=
 ky e he fun w hS=>(hc w hS).mono fun _ w' ⟨h1,y,h⟩=>⟨a,[],_,_,_,h1,.inl hm,Mem.start (fun _ h=>h.elim) (fun _ _=>trivial) fun w2 b=>hR y _ _ h b,hn y⟩
theorem ix{s:Nat}{x y:tU}{o:Oper}(a:AV)(e:opA n ops f i=some (d,o))(hp:o.op= .index s x y)(h:∀w,(Instr.index s (ea f x).val (ea f y).val).run Tryz.prog w= .ok a.val w)(hn:G Tryz.prog fn Rr n M Φ R (.g md ops t::ks) (ua f d a) H):G Tryz.prog fn Rr n M Φ R (.g md ops (.pu i t)::ks) f H:=
 pv a e (fun w=>by simp only[execOp,hp,Sem.run_bind,h,Result.andThen_ok,Sem.run_pure]) hn
theorem so1{s b q:Nat}{x y:AV}{e:Ty}{en:En}{v:tK}(h1:UM n ops f i=some (s,x,y))(j:Nat)(he:nth H j=some en)(g':tD)(hq:q<fj en.l)(hg:∀i,ot (cD en.l) q v i=g' i)(hn:G Tryz.prog fn Rr n M Φ R (.g md ops t::ks) f (H.set j ⟨en.a,en.t,[.f (fj en.l) g']⟩))(hx:x.val= .pointer (some ⟨b,q,none⟩):=by rfl)(hy:y.val=v:=by rfl)(hc:v.cells= #[v]:=by rfl)(JJ:v.oneCell'=true:=by rfl)(ha:en.a=b:=by rfl)(hv:md.vs.contains i=false:=by rfl)(hf:T0.find s=some e:=by rfl)(ho:e.fI=true:=by rfl):G Tryz.prog fn Rr n M Φ R (.g md ops (.ef i t)::ks) f H:=by
 intro w hS hK;obtain⟨hK1,il⟩:=bn.1 hK;show WF Tryz.prog ops (kq Tryz.prog fn Rr ks) md.va (oD md ops) (uv md ops) (.ef i t) n (cn f) w;obtain⟨Nu,rfl⟩:=X7.fm hf;have xv:=he;rw[eY]at xv;have wM:(hs H)[j]? =some en.ik:=by rw[Ar,xv];rfl
 unfold UM at h1;split at h1
 ·rename_i o hoo;split at h1
  ·rename_i s' p r hd hw hp;simp only[Option.some.injEq,Prod.mk.injEq]at h1;obtain⟨rfl,rfl,rfl⟩:=h1;have hx:ev (cn f) p= .pointer (some ⟨b,q,none⟩):=(bz f p).symm.trans hx;have hy:ev (cn f) r=v:=(bz f r).symm.trans hy
   have GC:(oD md ops).contains i=true:=kM hoo (by
    unfold nc;rw[hv,hp]
    cases md.cb<;>rfl)
   refine aer (P:=Tryz.prog) (Ty.one Nu ho).1 hS j wM GC hoo hd (fC hw) (dI hK1).1 hp hx hy ha hq hc JJ fun w' zR=> ?_
   have Gg:=zR.congr j (e:=⟨en.a,en.t,fj en.l,ot (cD en.l) q v⟩) (by
    rw[Cr (Am.1 wM).1]
    rfl) g' fun i _=>hg i
   rw[List.set_set]at Gg;have e4:hs (H.set j ⟨en.a,en.t,[.f (fj en.l) g']⟩)=(hs H).set j ⟨en.a,en.t,fj en.l,g'⟩:=by
    rw[hs,Cq];rfl
   exact hn w' (by rw[e4];exact Gg) (bn.2 ⟨hK1,il⟩)
  ·cases h1
 ·cases h1
theorem UN(h:∀w,Mem w (hs H) M Φ R→G Tryz.prog fn Rr n M Φ R ks f H):G Tryz.prog fn Rr n M Φ R ks f H:=fun w hS hK=>h w hS w hS hK
theorem Y9(h:∀w,Mem w (hs H) M Φ R→∃H' M' Gf R',Mem w (hs H') M' Gf R'∧G Tryz.prog fn Rr n M' Gf R' ks f H'):G Tryz.prog fn Rr n M Φ R ks f H:=fun w hS hK=>by
 obtain⟨_,_,_,_,h1,h2⟩:=h w hS;exact h2 w h1 hK
theorem EV{X:Type}{c:Code}(s:X→List (Nat×AV))(H':X→List En)(M':X→Nat→Prop)(R':X→World→Prop)(J:X→Prop)(k:X→Nat)(x0:X)(h1:GB f (s x0))(h2:∀w,Mem w (hs H) M Φ R→Mem w (hs (H' x0)) (M' x0) Φ (R' x0))(h3:J x0)(round:∀f x,J x→G Tryz.prog fn Rr n (M' x) Φ (R' x) (.c c:: .j (LJ n ⟨s,H',M',fun _=>Φ,R',J,k⟩ (k x))::ks) (us f (s x)) (H' x)):G Tryz.prog fn Rr n M Φ R (.c (.loop c)::ks) f H:=
 iC ⟨s,H',M',fun _=>Φ,R',J,k⟩ x0 h1 h2 h3 round
end
end Rv
abbrev fo(t:Int)(s:tQ):Array Value:= #[iV t,.bool (s 0),.bool (s 1),.bool (s 2),.bool (s 3),.bool (s 4),.bool (s 5),.bool (s 6),.bool (s 7)]
abbrev cC(t:Int)(s:tQ):Value:= .agg #[iV t,.bool (s 0),.bool (s 1),.bool (s 2),.bool (s 3),.bool (s 4),.bool (s 5),.bool (s 6),.bool (s 7)]
def jU:Nat→Bool:=fun _=>false
theorem ah{p:Prop}(h:p):Hid p:=h
theorem aa{p:Prop}(h:Hid p):p:=h
theorem xx{p:tF}(h0:p 0)(h1:p 1)(h2:p 2)(h3:p 3)(h4:p 4)(h5:p 5)(h6:p 6)(h7:p 7):∀i,i<8→p i
 |0,_=>h0
 |1,_=>h1
 |2,_=>h2
 |3,_=>h3
 |4,_=>h4
 |5,_=>h5
 |6,_=>h6
 |7,_=>h7
 |n+8,h=>absurd h (by omega)
theorem Dt{t t':Int}{s s':tQ}(ht:t=t')(hs:∀i,i<8→s i=s' i):cC t s=cC t' s':=by
 simp only[cC,ht,hs 0 (by omega),hs 1 (by omega),hs 2 (by omega),hs 3 (by omega),hs 4 (by omega),hs 5 (by omega),hs 6 (by omega),hs 7 (by omega)]
theorem EW(t:Int)(s s':tQ)(b:Bool)(k:Nat)(hk:k<8)(hs:∀i,i<8→s' i=if i=k then b else s i):(fo t s).set! (1+k) (.bool b)=fo t s':=by
 have e0:=hs 0 (by omega);have e1:=hs 1 (by omega);have e2:=hs 2 (by omega);have e3:=hs 3 (by omega);have e4:=hs 4 (by omega);have e5:=hs 5 (by omega);have e6:=hs 6 (by omega);have e7:=hs 7 (by omega);rw[fo,fo,e0,e1,e2,e3,e4,e5,e6,e7];revert k;refine xx ?_ ?_ ?_ ?_ ?_ ?_ ?_ ?_<;>(intros;rfl)
structure fJ(t:Int)(s:tQ):Prop where
 low:0≤t
 high:t≤1073741825
 ids:∀i:Nat,i<8→s i=true→8≤t+i
 last:t=0∨s 7=true
def gS(t:Int)(s:tQ)(x:Int):Bool:=decide (t-8≤x)&&decide (x<t)&&s (x-(t-8)).toNat
theorem uD{t x:Int}{s:tQ}:gS t s x=true↔∃i:Nat,i<8∧s i=true∧x=t-8+i:=by
 unfold gS;constructor
 ·intro h;simp only[Bool.and_eq_true,decide_eq_true_eq]at h;exact⟨(x-(t-8)).toNat,by omega,h.2,by omega⟩
 ·rintro⟨i,hi,hs,rfl⟩;have e:(t-8+(i:Int)-(t-8)).toNat=i:=by omega
  simp only[Bool.and_eq_true,decide_eq_true_eq];rw[e];exact⟨⟨by omega,by omega⟩,hs⟩
theorem pK{t:Int}{s:tQ}(i:Nat)(hi:i<8):gS t s (t-8+i)=s i:=by
 rw[Bool.eq_iff_iff,uD];constructor
 ·rintro⟨j,_,hs,he⟩;obtain rfl:i=j:=by omega
  exact hs
 ·exact fun h=>⟨i,hi,h,rfl⟩
theorem fJ.none:fJ 0 jU:=⟨by omega,by omega,fun i _ h=>by simp[jU]at h,.inl rfl⟩
theorem fJ.Y_{t x:Int}{s:tQ}(h:fJ t s)(hx:gS t s x=true):0≤x∧x<t:=by
 obtain⟨i,hi,hs,rfl⟩:=uD.1 hx;have:=h.ids i hi hs;omega
def gV(t id:Int):Int:=if t≤id then id+1 else t
def eW(t:Int)(s:tQ)(id:Int):Nat→Bool:=fun j=>decide (gV t id-8+j=id)||gS t s (gV t id-8+j)
theorem QW(t id:Int):t≤gV t id∧id<gV t id:=by unfold gV;split<;>omega
theorem fJ.take{t id:Int}{s:tQ}(h:fJ t s)(h0:0≤id)(h1:id≤1073741824):fJ (gV t id) (eW t s id):=by
 have hl:=h.low;have hh:=h.high;have hg:=QW t id;refine⟨by omega,by unfold gV;split<;>omega, ?_,.inr ?_⟩
 ·intro i hi hs;have:(decide (gV t id-8+i=id)||gS t s (gV t id-8+i))=true:=hs;simp only[Bool.or_eq_true,decide_eq_true_eq]at this;rcases this with e|e
  ·omega
  ·have:=h.Y_ e;omega
 ·show(decide (gV t id-8+((7:Nat):Int)=id)||gS t s (gV t id-8+((7:Nat):Int)))=true;by_cases hc:t≤id
  ·have e:gV t id=id+1:=by unfold gV;rw[if_pos hc]
   rw[e];simp;left;omega
  ·have e:gV t id=t:=by unfold gV;rw[if_neg hc]
   rw[e,pK 7 (by omega)];rcases h.last with hz|hz
   ·omega
   ·simp[hz]
def aJ(w:tA)(R:Nat)(t:Int)(s:tQ):Prop:=w.heap[R]? =some (.cells (fo t s) 77 (0,0))
theorem aJ.cell0{w:tA}{R:Nat}{t:Int}{s:tQ}(h:aJ w R t s):w.cell? ⟨R,0,none⟩=some (iV t):=by
 unfold aJ at h;simp[World.cell?,h]
theorem aJ.cell{w:tA}{R:Nat}{t:Int}{s:tQ}(h:aJ w R t s):∀i,i<8→w.cell? ⟨R,1+i,none⟩=some (.bool (s i)):=by
 unfold aJ at h;refine xx ?_ ?_ ?_ ?_ ?_ ?_ ?_ ?_<;>simp[World.cell?,h]
theorem aJ.cells{w:tA}{R:Nat}{t:Int}{s:tQ}(h:aJ w R t s):
  w.cell? ⟨R,0,none⟩=some (iV t)∧w.cell? ⟨R,1,none⟩=some (.bool (s 0))∧w.cell? ⟨R,2,none⟩=some (.bool (s 1))∧w.cell? ⟨R,3,none⟩=some (.bool (s 2))∧w.cell? ⟨R,4,none⟩=some (.bool (s 3))∧
  w.cell? ⟨R,5,none⟩=some (.bool (s 4))∧w.cell? ⟨R,6,none⟩=some (.bool (s 5))∧w.cell? ⟨R,7,none⟩=some (.bool (s 6))∧w.cell? ⟨R,8,none⟩=some (.bool (s 7)):=
 ⟨h.cell0,h.cell 0 (by omega),h.cell 1 (by omega),h.cell 2 (by omega),h.cell 3 (by omega),h.cell 4 (by omega),h.cell 5 (by omega),h.cell 6 (by omega),h.cell 7 (by omega)⟩
theorem aJ.free{w:tA}{R:Nat}{t:Int}{s:tQ}(h:aJ w R t s)(o:Nat):w.frozen? ⟨R,o,none⟩=false:=by
 unfold aJ at h;simp[World.frozen?,h]
theorem aJ.lt{w:tA}{R:Nat}{t:Int}{s:tQ}(h:aJ w R t s):R<w.heap.size:=by
 unfold aJ at h;rcases AA R w.heap.size with h'|h'
 ·exact h'
 ·simp[Array.getElem?_eq_none h']at h
theorem aJ.below{w w':tA}{R B:Nat}{t:Int}{s:tQ}(h:aJ w R t s)(hb:Below B w w')(hR:R<B):aJ w' R t s:=by
 unfold aJ at h⊢;rw[←h];exact hb.block R hR
theorem aJ.next{w w':tA}{R:Nat}{t:Int}{s:tQ}(h:aJ w R t s)(hb:bZ w w'):aJ w' R t s:=h.below hb h.lt
theorem aJ.new(w:tA)(t:Int)(s:tQ):aJ (w.alloc (.cells (fo t s) 77)) w.heap.size t s:=AQ w _
abbrev lX(w:tA)(R:Nat)(t:Int)(s:tQ):World:=
 ((((((((w.setCell ⟨R,0,none⟩ (iV t)).setCell ⟨R,1,none⟩ (.bool (s 0))).setCell ⟨R,2,none⟩ (.bool (s 1))).setCell ⟨R,3,none⟩ (.bool (s 2))).setCell ⟨R,4,none⟩ (.bool (s 3))).setCell ⟨R,5,none⟩ (.bool (s 4))).setCell ⟨R,6,none⟩ (.bool (s 5))).setCell ⟨R,7,none⟩ (.bool (s 6))).setCell ⟨R,8,none⟩ (.bool (s 7))
theorem aJ.store{w:tA}{R:Nat}{t:Int}{s:tQ}(h:aJ w R t s)(t':Int)(s':tQ):aJ (lX w R t' s') R t' s':=by
 unfold aJ at h⊢;rw[lX,heap_set (heap_set (heap_set (heap_set (heap_set (heap_set (heap_set (heap_set (heap_set h))))))))];simp
theorem fU{B:Nat}{w0 w:tA}(hb:Below B w0 w)(R:Nat)(hR:B≤R)(t:Int)(s:tQ):Below B w0 (lX w R t s):=
 ((((((((hb.setCell hR _).setCell hR _).setCell hR _).setCell hR _).setCell hR _).setCell hR _).setCell hR _).setCell hR _).setCell hR _
theorem xy(w:tA)(R:Nat)(t:Int)(s:tQ)(k:Nat)(hk:k≠R):(lX w R t s).heap[k]? =w.heap[k]? :=by
 simp only[lX]
 repeat rw[Below.heap_setCell _ _ _ k hk]
theorem aJ.mark{w:tA}{R:Nat}{t:Int}{s:tQ}(h:aJ w R t s)(k:Nat)(hk:k<8)(b:Bool)(s':tQ)(hs:∀i,i<8→s' i=if i=k then b else s i):aJ (w.setCell ⟨R,1+k,none⟩ (.bool b)) R t s':=by
 have:=heap_set (o:=1+k) (v:= .bool b) h;rw[EW t s s' b k hk hs]at this;exact this
theorem aJ.other{w:tA}{R R' o:Nat}{t:Int}{s:tQ}{v:tK}(h:aJ w R t s)(hR:R≠R'):aJ (w.setCell ⟨R',o,none⟩ v) R t s:=by
 unfold aJ at h⊢;rw[Below.heap_setCell _ _ _ R hR];exact h
theorem sP(w:tA)(t:Int)(s:tQ):∃W,W=w.alloc (.cells (fo t s) 77)∧aJ W w.heap.size t s∧bZ w W∧W.heap.size=w.heap.size+1:=
 ⟨_,rfl,aJ.new w t s,aA _ _,by simp⟩
theorem pL(s:tQ):∀k:Nat,k<8→∀w:World,
  (Instr.index 75 (.agg #[.bool (s 0),.bool (s 1),.bool (s 2),.bool (s 3),.bool (s 4),.bool (s 5),.bool (s 6),.bool (s 7)]) (iV k)).run Tryz.prog w= .ok (.bool (s k)) w:=by
 refine xx ?_ ?_ ?_ ?_ ?_ ?_ ?_ ?_<;>(intro w;simp[Instr.index,run_underlying Tryz.underlying75,asIntOf,go_sem])
theorem gW(t:Int)(s:tQ)(w:tA)(h0:0≤t)(h1:t≤1073741825):
  cA 193 #[cC t s] w (rB (iV (t-8)) w):=by
 go_enter Tryz.func193,Tryz.ntmps193;go_wp2;go_ret;exact⟨rfl,aA _ _⟩
theorem qw(t:Int)(s:tQ)(w:tA)(h:fJ t s):
  cA 151 #[cC t s] w (rB (iV 0) w):=by
 have hl:=h.low;have hh:=h.high;go_enter Tryz.func151,Tryz.ntmps151
 go_wp2_with fail
 obtain⟨W,hW,wb0,B0,S0⟩:=sP w t s;rw[←hW];clear hW
 go_loopw [15] (fun i wr=>∃k:Nat,k≤8∧i=iV k∧aJ wr w.heap.size t s∧bZ w wr) (fun i _=>8-(intOf i).toNat)
 case atStart=>exact⟨0,by omega,rfl,wb0,B0⟩
 case round=>
  obtain⟨k,hk,rfl,wb,B⟩:=hrel;clear wb0 B0 S0;have HB:=ah B;have HW:=ah wb;obtain⟨c0,c1,c2,c3,c4,c5,c6,c7,c8⟩:=wb.cells;clear wb B;by_cases aM:k<8
  ·have NG:=h.ids k aM;have Za:=pL s k aM;cases hb:s k
   ·rw[hb]at Za;go_wp2
    go_roundw
    case rel=>exact⟨k+1,by omega,by go_num,aa HW,aa HB⟩
    case measure=>simp[intOf];omega
   ·have ahT:=NG hb;rw[hb]at Za;clear NG
    go_wp2_with (go_at_call 193;refine(gW t s _ hl hh).mono ?_;rintro e w1 ⟨rfl,b1⟩)
    go_roundw
    case rel=>exact⟨k+1,by omega,by go_num,(aa HW).next b1,Below.next (aa HB) b1⟩
    case measure=>simp[intOf];omega
  ·obtain rfl:k=8:=by omega
   rcases h.last with hz|hz
   ·subst hz;go_wp2;go_ret;exact⟨rfl,aa HB⟩
   ·go_wp2
    all_goals(go_ret;exact⟨rfl,aa HB⟩)
theorem GF(t:Int)(s:tQ)(w:tA)(h:¬fJ t s):
  cA 151 #[cC t s] w (rB (iV 6) w):=by
 by_cases hr:0≤t∧t≤1073741825
 case neg=>
  by_cases h0:t<0
  ·go_enter Tryz.func151,Tryz.ntmps151;go_wp2;go_ret;exact⟨rfl,aA _ _⟩
  ·have h1:1073741825<t:=by omega
   have h2:¬t≤1073741825:=by omega
   have h3:0≤t:=by omega
   clear hr;go_enter Tryz.func151,Tryz.ntmps151;go_wp2;go_ret;exact⟨rfl,aA _ _⟩
 obtain⟨hl,hh⟩:=hr;have hn:(∀i:Nat,i<8→s i=true→8≤t+i)→¬t=0∧s 7=false:=by
  intro hi;refine⟨fun h0=>h ⟨hl,hh,hi,.inl h0⟩, ?_⟩;cases h7:s 7
  ·rfl
  ·exact absurd ⟨hl,hh,hi,.inr h7⟩ h
 have HN:=ah hn;clear hn h;go_enter Tryz.func151,Tryz.ntmps151
 go_wp2_with fail
 obtain⟨W,hW,wb0,B0,S0⟩:=sP w t s;rw[←hW];clear hW
 go_loopw [15] (fun i wr=>∃k:Nat,k≤8∧i=iV k∧(∀i:Nat,i<k→s i=true→8≤t+i)∧aJ wr w.heap.size t s∧bZ w wr) (fun i _=>8-(intOf i).toNat)
 case atStart=>exact⟨0,by omega,rfl,fun i hi=>by omega,wb0,B0⟩
 case round=>
  obtain⟨k,hk,rfl,hi,wb,B⟩:=hrel;clear wb0 B0 S0;have HB:=ah B;have HW:=ah wb;have HI:=ah hi;obtain⟨c0,c1,c2,c3,c4,c5,c6,c7,c8⟩:=wb.cells;clear wb B hi;by_cases aM:k<8
  ·have Za:=pL s k aM;cases hb:s k
   ·rw[hb]at Za
    have HI':Hid (∀i:Nat,i<k+1→s i=true→8≤t+i):=ah (by
     intro i h1 h2;rcases AA i k with h3|h3
     ·exact aa HI i h3 h2
     ·obtain rfl:i=k:=by omega
      rw[hb]at h2;cases h2)
    go_wp2
    go_roundw
    case rel=>exact⟨k+1,by omega,by go_num,aa HI',aa HW,aa HB⟩
    case measure=>simp[intOf];omega
   ·rw[hb]at Za;by_cases NG:8≤t+k
    ·have HI':Hid (∀i:Nat,i<k+1→s i=true→8≤t+i):=ah (by
      intro i h1 h2;rcases AA i k with h3|h3
      ·exact aa HI i h3 h2
      ·obtain rfl:i=k:=by omega
       exact NG)
     go_wp2_with (go_at_call 193;refine(gW t s _ hl hh).mono ?_;rintro e w1 ⟨rfl,b1⟩)
     go_roundw
     case rel=>exact⟨k+1,by omega,by go_num,aa HI',(aa HW).next b1,Below.next (aa HB) b1⟩
     case measure=>simp[intOf];omega
    ·go_wp2_with (go_at_call 193;refine(gW t s _ hl hh).mono ?_;rintro e w1 ⟨rfl,b1⟩)
     go_ret;exact⟨rfl,Below.next (aa HB) b1⟩
  ·obtain rfl:k=8:=by omega
   obtain⟨h0,h7⟩:=aa HN (aa HI);go_wp2;go_ret;exact⟨rfl,aa HB⟩
section
open Rv
def mO(ws:tD):List Value:=(List.range 36).map ws
def kV(ep nx gv:Int)(r l:tK)(ws:tD):List Value:=iV ep::iV nx::iV gv::r::l::mO ws
def dR(ep nx gv:Int)(r l:tK)(ws:tD):Array Value:=(kV ep nx gv r l ws).toArray
abbrev iF(ep nx gv:Int)(r l:tK)(ws:tD):Value:= .agg (dR ep nx gv r l ws)
theorem cT(ep nx gv:Int)(r l:tK)(ws:tD):(dR ep nx gv r l ws).size=41:=by simp[dR,kV,mO]
theorem JL(ws:tD)(j:Nat)(h:j<36):(mO ws)[j]? =some (ws j):=by simp[mO,h]
theorem oG(ep nx gv:Int)(r l:tK)(ws:tD):
  (dR ep nx gv r l ws)[0]? =some (iV ep)∧(dR ep nx gv r l ws)[1]? =some (iV nx)∧(dR ep nx gv r l ws)[2]? =some (iV gv)∧(dR ep nx gv r l ws)[3]? =some r∧(dR ep nx gv r l ws)[4]? =some l:=by
 simp[dR,kV]
theorem NH(ep nx gv:Int)(r l:tK)(ws:tD)(j:Nat)(h:j<36):(dR ep nx gv r l ws)[5+j]? =some (ws j):=by
 rw[dR,List.getElem?_toArray,kV,Nat.add_comm 5 j];simp only[List.getElem?_cons_succ];exact JL ws j h
def aV(w:tA)(R:Nat)(ep nx gv:Int)(r l:tK)(ws:tD):Prop:=w.heap[R]? =some (.cells (dR ep nx gv r l ws) 80 (0,0))
section
variable{w w':tA}{R B:Nat}{ep nx gv:Int}{r l:tK}{ws:tD}
theorem aV.lt(h:aV w R ep nx gv r l ws):R<w.heap.size:=by
 unfold aV at h;rcases AA R w.heap.size with h'|h'
 ·exact h'
 ·simp[Array.getElem?_eq_none h']at h
theorem aV.below(h:aV w R ep nx gv r l ws)(hb:Below B w w')(hR:R<B):aV w' R ep nx gv r l ws:=by
 unfold aV at h⊢;rw[←h];exact hb.block R hR
theorem aV.next(h:aV w R ep nx gv r l ws)(hb:bZ w w'):aV w' R ep nx gv r l ws:=h.below hb h.lt
theorem aV.new(w:tA)(ep nx gv:Int)(r l:tK)(ws:tD):aV (w.alloc (.cells (dR ep nx gv r l ws) 80)) w.heap.size ep nx gv r l ws:=AQ w _
theorem aV.free(h:aV w R ep nx gv r l ws)(o:Nat):w.frozen? ⟨R,o,none⟩=false:=by
 unfold aV at h;simp[World.frozen?,h]
theorem aV.at(h:aV w R ep nx gv r l ws)(i:Nat):w.cell? ⟨R,i,none⟩=(dR ep nx gv r l ws)[i]? :=by
 unfold aV at h;simp[World.cell?,h]
theorem aV.heads(h:aV w R ep nx gv r l ws):
  w.cell? ⟨R,0,none⟩=some (iV ep)∧w.cell? ⟨R,1,none⟩=some (iV nx)∧w.cell? ⟨R,2,none⟩=some (iV gv)∧w.cell? ⟨R,3,none⟩=some r∧w.cell? ⟨R,4,none⟩=some l:=by
 obtain⟨h0,h1,h2,h3,h4⟩:=oG ep nx gv r l ws;exact⟨(h.at 0).trans h0,(h.at 1).trans h1,(h.at 2).trans h2,(h.at 3).trans h3,(h.at 4).trans h4⟩
theorem Zb{o:Oper}{a:Act}{K:Act→World→Prop}{Q:tI}(x:tU)(ho:o.op= .load 80 x)(hx:a.eval x= .pointer (some ⟨R,0,none⟩))(qb:aV w R ep nx gv r l ws)
  (h:K (a.put o.dst (iF ep nx gv r l ws)) w):o.wp Tryz.prog a w K Q:=
 wp_load_row 80 x ho R hx 80 _ (0,0) _ qb Tryz.underlying80 rfl (by rw[cT];kernel_rfl) h
theorem EX{ops:tP}{rest:List Oper}{o:Oper}{a:Act}{Q:tI}(x:tU)(ho:o.op= .load 80 x)(hw:Region.wanted o (yielded ops a.tmps)=true)(hx:a.eval x= .pointer (some ⟨R,0,none⟩))(qb:aV w R ep nx gv r l ws)
  (h:wpList Tryz.prog ops Q rest (a.put o.dst (iF ep nx gv r l ws)) w):wpList Tryz.prog ops Q (o::rest) a w:=
 Bm fun K hK=>by
  rw[if_pos hw];exact Zb x ho hx qb (hK _ _ h)
theorem QX{ops:tP}{S:tJ}{o:Oper}{a:Act}(x:tU)(ho:o.op= .load 80 x)(hw:Region.wanted o (yielded ops a.tmps)=true)(hx:a.eval x= .pointer (some ⟨R,0,none⟩))(hS:∀w,S w→aV w R ep nx gv r l ws):
  YieldsIf Tryz.prog ops S o (iF ep nx gv r l ws) a:=
 .inl ⟨hw,fun w hs=>by
  unfold execOp
  simp only[ho,hx,Instr.loadAt,Instr.sureAddr,Sem.run_bind,Sem.run_pure,Result.andThen_ok,run_loadVar_row w R 80 80 _ (0,0) _ (hS w hs) Tryz.underlying80 rfl (by rw[cT];kernel_rfl)]⟩
end
def rS(n m:Int):Bool:=decide (0≤n)&&decide (n≤m)
theorem im{n m:Int}:rS n m=true↔0≤n∧n≤m:=by simp[rS]
theorem GG(n m:Int)(w:tA):
  cA 149 #[iV n,iV m] w fun e w'=>e= .returned (.bool (rS n m))∧w'=w:=by
 unfold rS;by_cases h0:0≤n
 ·by_cases h1:n≤m
  ·go_enter Tryz.func149,Tryz.ntmps149;go_wp2;go_ret;simp[h0,h1]
  ·go_enter Tryz.func149,Tryz.ntmps149;go_wp2;go_ret;exact⟨by simp[h1],rfl⟩
 ·go_enter Tryz.func149,Tryz.ntmps149;go_wp2;go_ret;exact⟨by rw[show decide (0≤n)=false from Ai (by omega)];rfl,rfl⟩
abbrev qS(ep nx gv:Int)(r l:tK)(ws:tD):List Rv.Sg:=[.o (iV ep),.o (iV nx),.o (iV gv),.o r,.o l,.f 36 ws]
theorem jV{w:World}{b o len m k:Nat}{L:List Int}{g:Nat→Value}(h:RowK .i64 w (some ⟨b,o,none⟩) len L)(hk:m*k+m≤len)(hg:∀j,j<m→Value.int .i64 (L.getD (m*k+j) 0)=g j):∀j,j<m→w.cell? ⟨b,o+k*m+j,none⟩=some (g j):=fun j hj=>by
 have:=h.at (m*k+j) (by omega);rw[hg j hj,←BX,Bl m k]at this;exact this
abbrev mS(R:tG)(k:Nat):List Rv.Sg:=[.o (iV (R.getD (2*k) 0)),.o (iV (R.getD (2*k+1) 0))]
abbrev lS(L:tG)(k:Nat):List Rv.Sg:=[.o (iV (L.getD (4*k) 0)),.o (iV (L.getD (4*k+1) 0)),.o (iV (L.getD (4*k+2) 0)),.o (iV (L.getD (4*k+3) 0))]
theorem aeN{w:tA}{b o len k:Nat}{L:tG}(h:RowK .i64 w (some ⟨b,o,none⟩) len L)(hk:2*k+2≤len):∀j,j<2→w.cell? ⟨b,o+k*2+j,none⟩=some (Rv.cD (mS L k) j):=jV h hk fun j hj=>by obtain rfl|rfl:j=0∨j=1:=(by omega)<;>rfl
theorem abJ{w:tA}{b o len k:Nat}{L:tG}(h:RowK .i64 w (some ⟨b,o,none⟩) len L)(hk:4*k+4≤len):∀j,j<4→w.cell? ⟨b,o+k*4+j,none⟩=some (Rv.cD (lS L k) j):=jV h hk fun j hj=>by obtain rfl|rfl|rfl|rfl:j=0∨j=1∨j=2∨j=3:=(by omega)<;>rfl
theorem upto{P:tF}{k:Nat}(h:∀i,i<k→P i)(hk:P k):∀i,i<k+1→P i:=fun i hi=>by
 by_cases e:i=k
 ·exact e▸hk
 ·exact h i (by omega)
theorem fe{n m:Int}{b:Bool}(h:rS n m=b)(w:tA):cA 149 #[iV n,iV m] w (rB (.bool b) w):=(GG n m w).mono fun _ _ ⟨h1,e⟩=>⟨by rw[h1,h],by rw[e];exact Be _ _⟩
theorem oH(ep nx gv:Int)(ra la:tB)(rn rc ln lc:Nat)(ws:tD)(w:tA)(hs:rn+ln≤9223372036854775807):
  cA 150 #[iF ep nx gv (.slice ra rn rc) (.slice la ln lc) ws] w (rB (iV (rn+ln:Nat)) w):=by
 exact en (H:=[]) _ [vg (qS ep nx gv (.slice ra rn rc) (.slice la ln lc) ws)] Tryz.func150 rfl rfl (m0 w) (rz [1] [((rn+ln:Nat):Int)] rfl fun _=>fin fun w hS=>⟨rfl,hS.now.2⟩)
theorem EY(ep nx gv:Int)(ra la:tB)(rn rc ln lc:Nat)(ws:tD)(w:tA)(hs:rn+ln≤9223372036854775807):
  cA 97 #[iF ep nx gv (.slice ra rn rc) (.slice la ln lc) ws] w fun e w'=>
   e= .returned (.bool (rS ep 1048576&&rS nx 1073741824&&rS gv 1073741824&&decide (rn+ln≤500)))∧bZ w w':=by
 refine en (H:=[]) _ [vg (qS ep nx gv (.slice ra rn rc) (.slice la ln lc) ws)] Tryz.func97 rfl rfl (m0 w) (r [] rfl fun _=> ?_);cases h0:rS ep 1048576
 ·exact Rv.cb rfl (vv (.bool false)) (fun w _=>fe h0 w) (r [] rfl fun _=>fin fun w hS=>⟨rfl,hS.now.2⟩)
 refine Rv.cb rfl (vv (.bool true)) (fun w _=>fe h0 w) (r [] rfl fun _=> ?_);cases h1:rS nx 1073741824
 ·exact Rv.cb rfl (vv (.bool false)) (fun w _=>fe h1 w) (r [] rfl fun _=>fin fun w hS=>⟨rfl,hS.now.2⟩)
 refine Rv.cb rfl (vv (.bool true)) (fun w _=>fe h1 w) (r [] rfl fun _=> ?_);cases h2:rS gv 1073741824
 ·exact Rv.cb rfl (vv (.bool false)) (fun w _=>fe h2 w) (r [] rfl fun _=>fin fun w hS=>⟨rfl,hS.now.2⟩)
 refine Rv.cb rfl (vv (.bool true)) (fun w _=>fe h2 w) (r [] rfl fun _=>Rv.cb rfl (vi ((rn+ln:Nat):Int)) (fun w _=>oH ep nx gv ra la rn rc ln lc ws w hs) ?_);by_cases h3:rn+ln≤500
 ·exact r [1] rfl fun _=>fin fun w hS=>⟨by rw[Aq h3];rfl,hS.now.2⟩
 ·exact r [0] rfl fun _=>fin fun w hS=>⟨by rw[Ai h3];rfl,hS.now.2⟩
theorem mH(ep nx gv:Int)(r l:tK)(ws:tD)(no bd:Int)(w:tA)(h0:0≤nx)(h1:nx≤1073741824):
  cA 152 #[iF ep nx gv r l ws,.agg #[iV no,iV bd]] w fun e w'=>
   e= .returned (.bool (rS no (nx-1)&&rS bd 1000000))∧bZ w w':=by
 refine en (H:=[]) _ [vg (qS ep nx gv r l ws),vg [.o (iV no),.o (iV bd)]] Tryz.func152 rfl rfl (m0 w) (rz [1] [nx-1] rfl fun _=> ?_);cases h:rS no (nx-1)
 ·exact Rv.cb rfl (vv (.bool false)) (fun w _=>fe h w) (Rv.r [] rfl fun _=>fin fun w hS=>⟨rfl,hS.now.2⟩)
 refine Rv.cb rfl (vv (.bool true)) (fun w _=>fe h w) (Rv.r [] rfl fun _=> ?_);cases h2:rS bd 1000000
 ·exact Rv.cb rfl (vv (.bool false)) (fun w _=>fe h2 w) (Rv.r [] rfl fun _=>fin fun w hS=>⟨rfl,hS.now.2⟩)
 ·exact Rv.cb rfl (vv (.bool true)) (fun w _=>fe h2 w) (Rv.r [] rfl fun _=>fin fun w hS=>⟨rfl,hS.now.2⟩)
theorem abK(w:tA)(ep nx gv:Int)(r l:tK)(ws:tD):∃W,W=w.alloc (.cells (dR ep nx gv r l ws) 80)∧aV W w.heap.size ep nx gv r l ws∧bZ w W∧W.heap.size=w.heap.size+1:=
 ⟨_,rfl,aV.new w ep nx gv r l ws,aA _ _,by simp⟩
def gN(ws:tD)(wt:tH)(wz:Nat→Nat→Bool):Prop:=∀p,p<4→ws (9*p)=iV (wt p)∧∀j,j<8→ws (9*p+1+j)= .bool (wz p j)
theorem Zc{p:tF}(h0:p 0)(h1:p 1)(h2:p 2)(h3:p 3):∀i,i<4→p i
 |0,_=>h0
 |1,_=>h1
 |2,_=>h2
 |3,_=>h3
 |n+4,h=>absurd h (by omega)
theorem gN.nine{ws:tD}{wt:tH}{wz:Nat→Nat→Bool}(h:gN ws wt wz)(p:Nat)(hp:p<4):
  Value.agg #[ws (9*p),ws (9*p+1+0),ws (9*p+1+1),ws (9*p+1+2),ws (9*p+1+3),ws (9*p+1+4),ws (9*p+1+5),ws (9*p+1+6),ws (9*p+1+7)]=cC (wt p) (wz p):=by
 obtain⟨h0,h1⟩:=h p hp;rw[h0,h1 0 (by omega),h1 1 (by omega),h1 2 (by omega),h1 3 (by omega),h1 4 (by omega),h1 5 (by omega),h1 6 (by omega),h1 7 (by omega)]
theorem xz{ws:tD}{wt:tH}{wz:Nat→Nat→Bool}(h:gN ws wt wz):∀p:Nat,p<4→∀w:World,(Instr.index 78 (.agg (mO ws).toArray) (iV p)).run Tryz.prog w= .ok (cC (wt p) (wz p)) w:=by
 intro p hp w;rw[←h.nine p hp];revert p;refine Zc ?_ ?_ ?_ ?_<;>(simp[Instr.index,run_underlying Tryz.underlying78,asIntOf,go_sem,mO])
abbrev wS(t:Int)(s:tQ):List Rv.Sg:=[.o (iV t),.o (.bool (s 0)),.o (.bool (s 1)),.o (.bool (s 2)),.o (.bool (s 3)),.o (.bool (s 4)),.o (.bool (s 5)),.o (.bool (s 6)),.o (.bool (s 7))]
noncomputable def sQ(wt:tH)(wz:Nat→Nat→Bool):Bool:= @decide (∀p,p<4→fJ (wt p) (wz p)) (Classical.propDecidable _)
theorem NJ{wt:tH}{wz:Nat→Nat→Bool}(h:∀p,p<4→fJ (wt p) (wz p)):sQ wt wz=true:=by
 unfold sQ;exact @decide_eq_true _ (Classical.propDecidable _) h
theorem QY{wt:tH}{wz:Nat→Nat→Bool}(p:Nat)(hp:p<4)(h:¬fJ (wt p) (wz p)):sQ wt wz=false:=by
 unfold sQ;exact @decide_eq_false _ (Classical.propDecidable _) (fun h'=>h (h' p hp))
theorem NK{wt:tH}{wz:Nat→Nat→Bool}:sQ wt wz=true↔∀p,p<4→fJ (wt p) (wz p):=by
 unfold sQ;exact @decide_eq_true_iff _ (Classical.propDecidable _)
theorem wg(ep nx gv:Int)(r l:tK)(ws:tD)(wt:tH)(wz:Nat→Nat→Bool)(w:tA)(h:gN ws wt wz):
  cA 98 #[iF ep nx gv r l ws] w (rB (.bool (sQ wt wz)) w):=by
 have Za:=xz h;refine en (H:=[]) _ [vg (qS ep nx gv r l ws)] Tryz.func98 rfl rfl (m0 w) (Rv.r [] rfl fun _=> ?_);refine iC (X:=Nat) ⟨fun k=>[(6,vf 36 ws),(7,vi (k:Int))],fun _=>[],fun _ _=>False,fun _ _=>True,fun _ w'=>bZ w w',fun k=>k≤4∧∀p,p<k→fJ (wt p) (wz p),fun k=>4-k⟩ 0 ⟨rfl,rfl,trivial⟩ (fun w hS=>hS.take 0) ⟨Ak _,fun p hp=>absurd hp (AH p)⟩ ?_;rintro f k ⟨hk,hi⟩;have hk:k≤4:=hk;by_cases aM:k<4
 case neg=>
  obtain rfl:k=4:=by omega
  exact Rv.r [0] rfl fun _=>fin fun w hS=>⟨by rw[NJ hi];rfl,hS.now.2⟩
 refine Rv.r [1] rfl fun _=>ix (vg (wS (wt k) (wz k))) rfl rfl (Za k aM) (Rv.r [] rfl fun _=> ?_);by_cases ok:fJ (wt k) (wz k)
 ·refine Rv.cb rfl (vi 0) (fun w _=>qw (wt k) (wz k) w ok) (rz [0,1] [((k+1:Nat):Int)] rfl fun _=>b_ (k+1) ⟨rfl,rfl,trivial⟩ (fun w hS=>hS.take 0) ⟨aM,upto hi ok⟩ (show 4-(k+1)<4-k by omega))
 ·exact Rv.cb rfl (vi 6) (fun w _=>GF (wt k) (wz k) w ok) (Rv.r [1] rfl fun _=>fin fun w hS=>⟨by rw[QY k aM ok];rfl,hS.now.2⟩)
def xA(L:tG)(k:Nat):Int:=if k=0 then-1 else L.getD (4*(k-1)+1) 0
structure mI(ep gv:Int)(L:tG)(i:Nat):Prop where
 LO:L.getD (4*i) 0=ep
 no:rS (L.getD (4*i+1) 0) (gv-1)=true
 JM:xA L i<L.getD (4*i+1) 0
noncomputable def mP(ep gv:Int)(L:tG)(n:Nat):Bool:= @decide (∀i,i<n→mI ep gv L i) (Classical.propDecidable _)
theorem JN{ep gv:Int}{L:tG}{n:Nat}(h:∀i,i<n→mI ep gv L i):mP ep gv L n=true:=by
 unfold mP;exact @decide_eq_true _ (Classical.propDecidable _) h
theorem NL{ep gv:Int}{L:tG}{n:Nat}(p:Nat)(hp:p<n)(h:¬mI ep gv L p):mP ep gv L n=false:=by
 unfold mP;exact @decide_eq_false _ (Classical.propDecidable _) (fun h'=>h (h' p hp))
theorem JO{ep gv:Int}{L:tG}{n:Nat}:mP ep gv L n=true↔∀i,i<n→mI ep gv L i:=by
 unfold mP;exact @decide_eq_true_iff _ (Classical.propDecidable _)
theorem EZ(ep nx gv:Int)(r:tK)(la:tB)(ln lc:Nat)(L:tG)(ws:tD)(w:tA)(hg0:0≤gv)(Jo:gv≤1073741824)(hL:RowK .i64 w la (4*ln) L)(hln:ln≤9223372036854775807):
  cA 100 #[iF ep nx gv r (.slice la ln lc) ws] w (rB (.bool (mP ep gv L ln)) w):=by
 refine en (H:=[]) _ [vg (qS ep nx gv r (.slice la ln lc) ws)] Tryz.func100 rfl rfl (m0 w) (Rv.r [] rfl fun α=> ?_);refine iC (X:=Nat) ⟨fun k=>[(1,vp 0 0 (α 0)),(3,vi (xA L k)),(7,vv (.slice la ln lc)),(8,vi (ln:Int)),(9,vi (k:Int))],fun _=>[⟨α 0,80,qS ep nx gv r (.slice la ln lc) ws⟩],fun _ _=>False,fun _ _=>True,fun _ w'=>bZ w w',fun k=>k≤ln∧∀i,i<k→mI ep gv L i,fun k=>ln-k⟩ 0 ⟨rfl,rfl,rfl,rfl,rfl,trivial⟩ (fun _ hS=>hS) ⟨Ak _,fun p hp=>absurd hp (AH p)⟩ ?_;rintro f k ⟨hk,hi⟩;have hk:k≤ln:=hk;by_cases aM:k<ln
 case neg=>
  obtain rfl:k=ln:=by omega
  exact Rv.r [0] rfl fun _=>fin fun w hS=>⟨by rw[JN hi];rfl,hS.now.2⟩
 obtain⟨lb,lo,rfl⟩:=hL.form (by omega);have no:¬mI ep gv L k→mP ep gv L ln=false:=NL k aM;refine Rv.r [1] rfl fun _=>lf (q:=lo+k*4) rfl 4 (cD (lS L k)) (fun w hS=>abJ (hL.below hS.now.2) (by omega)) (Rv.r [] rfl fun _=> ?_);by_cases h1:L.getD (4*k) 0=ep
 case neg=>exact Rv.r [1] rfl fun _=>fin fun w hS=>⟨by rw[no fun h=>h1 h.LO];rfl,hS.now.2⟩
 refine rz [0,1] [gv-1] rfl fun _=> ?_;cases h2:rS (L.getD (4*k+1) 0) (gv-1)
 ·exact Rv.cb rfl (vv (.bool false)) (fun w _=>fe h2 w) (Rv.r [] rfl fun _=>fin fun w hS=>⟨by rw[no fun h=>by rw[h.no]at h2;cases h2];rfl,hS.now.2⟩)
 refine Rv.cb rfl (vv (.bool true)) (fun w _=>fe h2 w) (Rv.r [] rfl fun _=> ?_);by_cases h3:L.getD (4*k+1) 0≤xA L k
 ·exact Rv.r [1] rfl fun _=>fin fun w hS=>⟨by rw[no fun h=>absurd h.JM (Int.not_lt.2 h3)];rfl,hS.now.2⟩
 refine rz [0,1] [((k+1:Nat):Int)] rfl fun _=>b_ (k+1) ⟨rfl,rfl,rfl,rfl,rfl,trivial⟩ (fun w hS=>hS.take 1) ⟨aM,upto hi ⟨h1,h2,Int.not_le.1 h3⟩⟩ (show ln-(k+1)<ln-k by omega)
end
end Go.Proofs.YtmhifeahpnkpiaaGreatDoor
namespace Go.Proofs
open Go.Shelf
def Tryz.laysSort_ren:Go.Shelf.Ren:=⟨fun|189=>194|125=>199|257=>224|128=>233|129=>234|294=>240|295=>241|296=>242|297=>243|298=>244|299=>245|216=>246|300=>247|301=>248|328=>254|329=>250|330=>251|331=>255|332=>256|215=>200|343=>258|n=>n,fun|28=>71|3=>3|46=>269|0=>0|51=>314|53=>316|4=>4|183=>307|182=>306|131=>311|5=>5|9=>9|218=>324|222=>195|228=>331|229=>332|n=>n,fun|n=>n⟩
theorem Tryz.laysSort:Go.Proofs.Lays.n189 Tryz.prog Tryz.laysSort_ren:={
 mixed:=by kernel_rfl
 f125:=Tryz.func199.trans (congrArg some (by kernel_rfl))
 f128:=Tryz.func233.trans (congrArg some (by kernel_rfl))
 f129:=Tryz.func234.trans (congrArg some (by kernel_rfl))
 f189:=Tryz.func194.trans (congrArg some (by kernel_rfl))
 f215:=Tryz.func200.trans (congrArg some (by kernel_rfl))
 f216:=Tryz.func246.trans (congrArg some (by kernel_rfl))
 f257:=Tryz.func224.trans (congrArg some (by kernel_rfl))
 f294:=Tryz.func240.trans (congrArg some (by kernel_rfl))
 f295:=Tryz.func241.trans (congrArg some (by kernel_rfl))
 f296:=Tryz.func242.trans (congrArg some (by kernel_rfl))
 f297:=Tryz.func243.trans (congrArg some (by kernel_rfl))
 f298:=Tryz.func244.trans (congrArg some (by kernel_rfl))
 f299:=Tryz.func245.trans (congrArg some (by kernel_rfl))
 f300:=Tryz.func247.trans (congrArg some (by kernel_rfl))
 f301:=Tryz.func248.trans (congrArg some (by kernel_rfl))
 f328:=Tryz.func254.trans (congrArg some (by kernel_rfl))
 f329:=Tryz.func250.trans (congrArg some (by kernel_rfl))
 f330:=Tryz.func251.trans (congrArg some (by kernel_rfl))
 f331:=Tryz.func255.trans (congrArg some (by kernel_rfl))
 f332:=Tryz.func256.trans (congrArg some (by kernel_rfl))
 f343:=Tryz.func258.trans (congrArg some (by kernel_rfl))
 t0:=Tryz.underlying0
 a0:=Tryz.isAgg0
 z0:=Tryz.sizeOf0
 v0:=Tryz.zeroValue0
 t3:=Tryz.underlying3
 a3:=Tryz.isAgg3
 z3:=Tryz.sizeOf3
 v3:=Tryz.zeroValue3
 t4:=Tryz.underlying4
 a4:=Tryz.isAgg4
 z4:=Tryz.sizeOf4
 v4:=Tryz.zeroValue4
 t5:=Tryz.underlying5
 a5:=Tryz.isAgg5
 z5:=Tryz.sizeOf5
 v5:=Tryz.zeroValue5
 t9:=Tryz.underlying9
 a9:=Tryz.isAgg9
 z9:=Tryz.sizeOf9
 v9:=Tryz.zeroValue9
 t28:=Tryz.underlying71
 a28:=Tryz.isAgg71
 z28:=Tryz.sizeOf71
 v28:=Tryz.zeroValue71
 t46:=Tryz.underlying269
 a46:=Tryz.isAgg269
 z46:=Tryz.sizeOf269
 v46:=Tryz.zeroValue269
 t51:=Tryz.underlying314
 a51:=Tryz.isAgg314
 z51:=Tryz.sizeOf314
 v51:=Tryz.zeroValue314
 t53:=Tryz.underlying316
 a53:=Tryz.isAgg316
 z53:=Tryz.sizeOf316
 v53:=Tryz.zeroValue316
 t131:=Tryz.underlying311
 a131:=Tryz.isAgg311
 z131:=Tryz.sizeOf311
 v131:=Tryz.zeroValue311
 t182:=Tryz.underlying306
 a182:=Tryz.isAgg306
 z182:=Tryz.sizeOf306
 v182:=Tryz.zeroValue306
 t183:=Tryz.underlying307
 a183:=Tryz.isAgg307
 z183:=Tryz.sizeOf307
 v183:=Tryz.zeroValue307
 t218:=Tryz.underlying324
 a218:=Tryz.isAgg324
 z218:=Tryz.sizeOf324
 v218:=Tryz.zeroValue324
 t222:=Tryz.underlying195
 a222:=Tryz.isAgg195
 z222:=Tryz.sizeOf195
 v222:=Tryz.zeroValue195
 t228:=Tryz.underlying331
 a228:=Tryz.isAgg331
 z228:=Tryz.sizeOf331
 v228:=Tryz.zeroValue331
 t229:=Tryz.underlying332
 a229:=Tryz.isAgg332
 z229:=Tryz.sizeOf332
 v229:=Tryz.zeroValue332}
def Tryz.laysCompact_ren:Go.Shelf.Ren:=⟨fun|20=>195|n=>n,fun|22=>71|3=>3|4=>4|0=>0|n=>n,fun|n=>n⟩
theorem Tryz.laysCompact:Go.Proofs.Lays2.n20 Tryz.prog Tryz.laysCompact_ren:={
 mixed:=by kernel_rfl
 f20:=Tryz.func195.trans (congrArg some (by kernel_rfl))
 t0:=Tryz.underlying0
 a0:=Tryz.isAgg0
 z0:=Tryz.sizeOf0
 v0:=Tryz.zeroValue0
 t3:=Tryz.underlying3
 a3:=Tryz.isAgg3
 z3:=Tryz.sizeOf3
 v3:=Tryz.zeroValue3
 t4:=Tryz.underlying4
 a4:=Tryz.isAgg4
 z4:=Tryz.sizeOf4
 v4:=Tryz.zeroValue4
 t22:=Tryz.underlying71
 a22:=Tryz.isAgg71
 z22:=Tryz.sizeOf71
 v22:=Tryz.zeroValue71
 i3:=by kernel_rfl}
end Go.Proofs
namespace Go.Proofs.YtmhifeahpnkpiaaGreatDoor
open Go.RowKit
def cX(L:tG)(k:Nat):List Int:=(List.range k).map fun i=>L.getD (4*i+2) 0
def cG(R:tG)(k:Nat):List Int:=(List.range k).map fun i=>R.getD (2*i) 0
def fV(L:tG)(ln:Nat)(R:tG)(rn:Nat):List Int:=cX L ln++cG R rn
theorem E0(L:tG)(k:Nat):(cX L k).length=k:=by simp[cX]
theorem E1(R:tG)(k:Nat):(cG R k).length=k:=by simp[cG]
theorem q7(L:tG)(k:Nat):cX L (k+1)=cX L k++[L.getD (4*k+2) 0]:=by
 simp[cX,List.range_succ]
theorem zU(R:tG)(k:Nat):cG R (k+1)=cG R k++[R.getD (2*k) 0]:=by
 simp[cG,List.range_succ]
theorem NM(L:tG)(ln:Nat)(R:tG)(rn:Nat):(fV L ln R rn).length=ln+rn:=by simp[fV,E0,E1]
theorem xB(L:tG)(ln:Nat)(R:tG)(k:Nat):fV L ln R (k+1)=fV L ln R k++[R.getD (2*k) 0]:=by
 simp[fV,zU]
theorem JP(L:tG)(ln:Nat)(R:tG):fV L ln R 0=cX L ln:=by simp[fV,cG]
theorem lI(l:tG)(hw:∀u∈l,(Lit.int .i64 u).wf=true)(i:Nat):(Lit.int .i64 (l.getD i 0)).wf=true:=by
 rcases AA i l.length with h|h
 ·rw[Ah,Ag h];exact hw _ (Bu h)
 ·rw[Ah,Bd h];decide
theorem NN(l:tG):(l.mergeSort fun x y=>decide (x≤y)).Pairwise (fun x y=>x≤y):=by
 have h:=List.pairwise_mergeSort (le:=fun x y:Int=>decide (x≤y)) (fun a b c h1 h2=>by simp at*;omega) (fun a b=>by simp;omega) l;exact h.imp (fun h=>by simpa using h)
theorem GH(s:tG)(hs:s.Pairwise (fun x y=>x≤y)):(Lib.compact s).length<s.length↔¬s.Nodup:=by
 have e:(Lib.compact s).length=((List.range s.length).filter (Lib.keeps s.toArray)).length:=by simp[Lib.compact,Lib.compactUpTo]
 have e2:(Lib.compact s).length<s.length↔∃j,j<s.length∧Lib.keeps s.toArray j=false:=by
  rw[e]
  conv=>lhs;rhs;rw[←List.length_range (n:=s.length)]
  rw[List.length_filter_lt_length_iff_exists];simp
 rw[e2];have hp:=Bp.1 hs;constructor
 ·rintro⟨j,hj,hk⟩ hn;have sC:=Bp.1 hn;simp only[Lib.keeps,decide_eq_false_iff_not,not_or,Decidable.not_not]at hk;have h0:0<j:=by omega
  have:=sC (j-1) j (by omega) hj (by omega);have e1:s.toArray[j]! =s[j]:=by rw[getElem!_pos s.toArray j (by simpa using hj)];simp
  have e2:s.toArray[j-1]! =s[j-1]'(by omega):=by rw[getElem!_pos s.toArray (j-1) (by simp;omega)];simp
  have h2:=hk.2;rw[e1,e2]at h2;exact this h2.symm
 ·intro hn;rcases Classical.em (∃j,j<s.length∧Lib.keeps s.toArray j=false)with h|h
  ·exact h
  ·refine absurd (Bp.2 fun i j hi hj hij=> ?_) hn;intro he;refine h ⟨j,hj, ?_⟩;have h1:s[i]≤s[j-1]'(by omega):=by
    rcases AA i (j-1)with h'|h'
    ·exact hp i (j-1) hi (by omega) h'
    ·have:i=j-1:=by omega
     subst this;exact Bq _
   have h2:s[j-1]'(by omega)≤s[j]:=hp (j-1) j (by omega) hj (by omega);have h3:s[j]=s[j-1]'(by omega):=by omega
   simp only[Lib.keeps,decide_eq_false_iff_not,not_or,Decidable.not_not];refine⟨by omega, ?_⟩;have e1:s.toArray[j]! =s[j]:=by rw[getElem!_pos s.toArray j (by simpa using hj)];simp
   have e2:s.toArray[j-1]! =s[j-1]'(by omega):=by rw[getElem!_pos s.toArray (j-1) (by simp;omega)];simp
   rw[e1,e2];exact h3
def xC(l:tG):Bool:=decide (¬l.Nodup)
theorem Vk(l:tG)(c n:Nat)(hc:c=(Lib.compact (l.mergeSort fun x y=>decide (x≤y))).length)(hn:n=l.length):decide ((c:Int)<(n:Int))=xC l:=by
 have h1:=GH _ (NN l);rw[List.length_mergeSort,←hc,←hn,(List.mergeSort_perm l _).nodup_iff]at h1;unfold xC;rw[decide_eq_decide];rw[←h1];omega
theorem GI(zs:tG)(k:Nat)(h:k<zs.length):zs.getD k 0∈zs:=by
 rw[Ah,Ag h];exact Bu h
theorem Tryz.QZ:(Tryz.prog.info? 5).map (fun i=>(i.zero,i.size,i.bytes))=some (some (.int .u8 0),1,1):=by kernel_rfl
def four(n:Int):List Int:=[n/16777216,n/65536 % 256,n/256 % 256,n % 256]
def et(l:tG):List Int:=l.flatMap four
theorem JQ(zs:tG)(k:Nat)(h:k<zs.length):et (zs.take (k+1))=et (zs.take k)++four (zs.getD k 0):=by
 rw[Bf h];simp only[et,List.flatMap_append,List.flatMap_cons,List.flatMap_nil,List.append_nil];simp[h]
theorem nh(zs:tG):(et zs).length=4*zs.length:=by
 induction zs with
 |nil=>rfl
 |cons z zs ih=>simp only[et,List.flatMap_cons,List.length_append,List.length_cons]at*;rw[ih];simp[four];omega
theorem Vl(n:Int)(h0:0≤n)(h1:n≤2147483647):∀u∈four n,(Lit.int .u8 u).wf=true:=by
 intro u hu;simp only[four,List.mem_cons,List.not_mem_nil,or_false]at hu;rcases hu with rfl|rfl|rfl|rfl<;>exact WalkArith.wf_u8 (by omega)
theorem Q0(zs:tG)(hr:∀n∈zs,0≤n∧n≤2147483647):∀u∈et zs,(Lit.int .u8 u).wf=true:=by
 intro u hu;simp only[et,List.mem_flatMap]at hu;obtain⟨n,hn,hu⟩:=hu;exact Vl n (hr n hn).1 (hr n hn).2 u hu
theorem LP(b off cap:Nat)(zs:tG)(w:tA)(hb:b<w.heap.size)(hlen:zs.length≤1000)
  (hr:∀n∈zs,0≤n∧n≤2147483647)
  (hc:∀k,k<zs.length→w.cell? ⟨b,off+k,none⟩=some (iV (zs.getD k 0))):
  cA 210 #[.slice (some ⟨b,off,none⟩) zs.length cap] w fun e w'=>
   e= .returned (.slice (some ⟨w.heap.size,0,none⟩) (4*zs.length) (4*zs.length))∧
   RowK .u8 w' (some ⟨w.heap.size,0,none⟩) (4*zs.length) (et zs)∧
   bZ w w':=by
 obtain⟨i0,hi,Du,wh,uC⟩:=info_parts Tryz.QZ;go_enter Tryz.func210,Tryz.ntmps210
 go_wp2_with (at_make;refine wpList_make_own _ rfl _ _ 122 rfl w.heap.size 5 i0 (.int .u8 0) 1 Tryz.underlying122 hi Du wh _ _ _ (4*zs.length) rfl rfl (by omega) (by rw[uC];omega) (by unfold maxLen;omega) (Aa _) ?_;intro w1 hown1 hgrow1)
 go_loopw [3,12] (fun v i wr=>∃k:Nat,k≤zs.length∧i=iV k∧v= .slice (some ⟨w.heap.size,0,none⟩) (4*k) (4*zs.length)∧
   wr.ownsRow w.heap.size 5 1 (.slice (some ⟨w.heap.size,0,none⟩) (4*k) (4*zs.length)) (4*k) ((et (zs.take k)).map (Value.int .u8))∧bZ w wr)
  (fun _ i _=>zs.length-(intOf i).toNat)
 case atStart=>exact⟨0,Nat.zero_le _,rfl,rfl,by simpa[et]using hown1,(Below.refl _ _).grown hgrow1 (Nat.le_refl _) (by simp)⟩
 case round=>
  obtain⟨k,hk,rfl,rfl,bM,gO⟩:=hrel;by_cases aM:k<zs.length
  ·have hcx:wr.cell? ⟨b,off+k,none⟩=some (iV (zs.getD k 0)):=(gO.cell (by exact hb)).trans (hc k aM);have hn:=hr (zs.getD k 0) (GI zs k aM);generalize hx:zs.getD k 0=n at hcx hn;have HX:Hid (zs.getD k 0=n):=hx;clear hx;obtain⟨JR,sR⟩:=hn
   go_wp2_with (at_builtin;refine wpList_append_fits _ rfl _ _ 122 rfl w.heap.size 5 i0 1 Tryz.underlying122 hi wh _ _ _ _ rfl (bM.alloc _) ⟨wr.heap.size,0,none⟩ 4 4 ((four n).map (Value.int .u8)) rfl rfl ?c1 (Cp _ _) (by omega) ?_;rotate_right;intro w2 hown2 hgrow2)
   case c1=>
    intro j u hj
    match j,hj with
    |0,hj=>simp[four]at hj;subst hj;simp[Addr.add]
    |1,hj=>simp[four]at hj;subst hj;simp[Addr.add]
    |2,hj=>simp[four]at hj;subst hj;simp[Addr.add]
    |3,hj=>simp[four]at hj;subst hj;simp[Addr.add]
    |(j+4),hj=>simp[four]at hj
   have R1:Hid (w2.ownsRow w.heap.size 5 1 (.slice (some ⟨w.heap.size,0,none⟩) (4*(k+1)) (4*zs.length)) (4*(k+1)) ((et (zs.take (k+1))).map (Value.int .u8))):=by
    rw[JQ zs k aM,HX.out,AB];exact hown2
   have R2:bZ w w2:=(gO.alloc gO.size _).grown hgrow2 (by have:=gO.size;simp;omega) (by intro k hk;simp at hk;omega);clear hown2 hgrow2 bM hcx;go_wp2
   go_roundw
   case rel=>exact⟨k+1,by omega,by go_num,by rfl,R1.out,R2⟩
   case measure=>simp[intOf];omega
  ·have kW:k=zs.length:=by omega
   subst kW;go_wp2;go_ret;exact⟨rfl,RowK.Lz (by simpa using bM) (nh zs) (Q0 zs hr),gO⟩
theorem Q1(base:Nat)(v:tK)(n:Nat)(l:tG)(w:tA)(h:w.ownsRow base 3 1 v n (l.map (Value.int .i64)))(hn:n<4611686018427387904):
  cA 194 #[v] w fun e w'=>e= .returned (.tuple #[])∧w'.ownsRow base 3 1 v n ((l.mergeSort fun x y=>decide (x≤y)).map (Value.int .i64))∧w.grownBy w' v.ownBlock:=by
 have hl:l.length=n:=by simpa using h.1
 rcases h.2 with⟨rfl,rfl⟩|⟨g,cap,cur,rfl,hb,hg,hc,hm,hs,ht⟩
 ·have Jr:l=[]:=AU.1 hl;subst Jr;refine(Any.slices_Sort_int_none Tryz.laysSort none 0 w).mono ?_;rintro e w' ⟨rfl,rfl⟩;exact⟨rfl,by simpa using World.ownsRow_nil _ _ _ _,World.grownBy.refl _ _⟩
 ·subst hl;obtain⟨g',bh,he,_,LQ,_,_,_,hH⟩:=Lib.holds_of_ownsRow h (by simp);injection he with e1 _ e3
  injection e1 with e1
  injection e1 with e1
  subst e1;subst e3;refine(Any.slices_Sort_int Tryz.laysSort g 0 cap l w hH LQ hn).mono ?_;rintro e w' ⟨rfl,nn,os,rfl⟩;exact⟨rfl,Go.ownsRow_sortedI (List.length_mergeSort l) hb hg hc hm hs,Go.grownBy_sortedI _⟩
theorem E2{w:tA}{g q:Nat}(d:Array Int):w.grownBy (Go.Sort.putRow (Value.int .i64) (Go.Sort.ahead w q) g 0 d) (some g):=by
 refine⟨rfl,rfl,rfl,by simp[Go.Sort.putRow,Go.Sort.mapBlock,Go.Sort.ahead],fun k hk fM=> ?_⟩;have:g≠k:=fun e=>fM (by rw[e]);simp[Go.Sort.putRow,Go.Sort.mapBlock,Go.Sort.ahead,Array.getElem?_modify,this]
theorem GJ(base:Nat)(v:tK)(n:Nat)(l:tG)(w:tA)(h:w.ownsRow base 3 1 v n (l.map (Value.int .i64)))(hn:n<4611686018427387904):
  cA 195 #[v] w fun e w'=>∃a c cap,e= .returned (.slice a c cap)∧w.grownBy w' v.ownBlock∧c≤cap∧Hid (c=(Lib.compact l).length):=by
 have hl:l.length=n:=by simpa using h.1
 rcases h.2 with⟨rfl,rfl⟩|⟨g,cap,cur,rfl,hb,hg,hc,hm,hs,ht⟩
 ·have Jr:l=[]:=AU.1 hl;subst Jr;refine(Any.slices_Compact_int_empty Tryz.laysCompact none 0 w).mono ?_;rintro e w' ⟨rfl,rfl⟩;exact⟨none,0,0,rfl,World.grownBy.refl _ _,Aa _,ah (by simp[Lib.compact,Lib.compactUpTo])⟩
 ·subst hl;obtain⟨g',bh,he,_,LQ,_,_,_,hH⟩:=Lib.holds_of_ownsRow h (by simp);injection he with e1 _ e3
  injection e1 with e1
  injection e1 with e1
  subst e1;subst e3;refine(Any.slices_Compact_int Tryz.laysCompact g 0 cap l w hH (by omega) hc).mono ?_;rintro e w' ⟨rfl,q,rfl⟩;exact⟨_,_,cap,rfl,E2 _,AN (Lib.compact_length_le l) hc,ah rfl⟩
theorem Tryz.Vm:(Tryz.prog.info? 3).map (fun i=>(i.zero,i.size,i.bytes))=some (some (iV 0),1,8):=by kernel_rfl
theorem iq{P:tY}{e:tZ}{z:tK}{s b:Nat}(h:(P.info? e).map (fun i=>(i.zero,i.size,i.bytes))=some (some z,s,b)):∃i,P.info? e=some i∧i.zero=some z∧i.size=s∧i.bytes=b:=by
 obtain⟨i,hi,hzz⟩:=Option.map_eq_some_iff.1 h;simp only[Prod.mk.injEq]at hzz;exact⟨i,hi,hzz.1,hzz.2.1,hzz.2.2⟩
theorem Dv(w:tA)(A:Obj)(v:tK)(t:tZ):∀j u,([v]:tM)[j]? =some u→((w.alloc A).alloc (.cells #[v] t)).cell? ((⟨w.heap.size+1,0,none⟩:Addr).add j)=some u:=by
 intro j u hj;have:=cell_one_new (w.alloc A) v t j u hj;simpa using this
theorem Dx(ep nx gv:Int)(ra la:tB)(rn rc ln lc:Nat)(R L:tG)(ws:tD)(w:tA)(hR:RowK .i64 w ra (2*rn) R)(hL:RowK .i64 w la (4*ln) L)(hs:rn+ln≤500):
    cA 153 #[iF ep nx gv (.slice ra rn rc) (.slice la ln lc) ws] w (rB (.bool (xC (fV L ln R rn))) w):=by
  obtain⟨i0,hi,Du,wh,uC⟩:=iq Tryz.Vm;obtain⟨W,hW,qb0,B0,S0⟩:=abK w ep nx gv (.slice ra rn rc) (.slice la ln lc) ws;have q0:=qb0;rw[hW]at q0;go_enter Tryz.func153,Tryz.ntmps153
  go_wp2_with (first
    |(refine EX _ rfl rfl rfl (by assumption) ?_)
    |(go_at_call 150;refine(oH _ _ _ _ _ _ _ _ _ _ _ (by omega)).mono ?_;rintro e w1 ⟨rfl,b1⟩
      have mC:Below (w.heap.size+1) W w1:=by rw[hW];simpa using b1
      obtain⟨c0,c1,c2,c3,c4⟩:=(qb0.below mC (by omega)).heads
      clear b1 q0)
    |(at_make;refine wpList_make_own _ rfl _ _ 71 rfl (w.heap.size+1) 3 i0 (iV 0) 1 Tryz.underlying71 hi Du wh _ _ _ (rn+ln) rfl rfl (by omega) (by rw[uC];omega) (by unfold maxLen;omega) (by have:=mC.size;omega) ?_;intro w2 hown1 hgrow1
      have Ge:Below (w.heap.size+1) W w2:=mC.grown hgrow1 (by have:=mC.size;omega) (by simp);clear c0 c1 c2 c3 c4;obtain⟨c0,c1,c2,c3,c4⟩:=(qb0.below Ge (by omega)).heads
      clear mC hgrow1))
  clear c0 c1 c2 c3 c4 hW
  go_loopw [3,14] (fun v t wr=>∃k:Nat,k≤ln∧t=iV k∧wr.ownsRow (w.heap.size+1) 3 1 v k ((cX L k).map (Value.int .i64))∧Below (w.heap.size+1) W wr) (fun _ t _=>ln-(intOf t).toNat)
  case atStart=>exact⟨0,Nat.zero_le _,rfl,by simpa[cX]using hown1,Ge⟩
  case round=>
    obtain⟨k,hk,rfl,bM,hb⟩:=hrel;clear hown1 Ge;have iE:w.heap.size+1≤wr.heap.size:=by have:=hb.size;omega
    have Vn:bZ w wr:=B0.trans (hb.mono (by omega));by_cases aM:k<ln
    ·have rL:=hL.below Vn;have HBw:=ah Vn;have HB:=ah hb;clear Vn hb;obtain⟨b,off,rfl⟩:=hL.form (by omega);obtain⟨x0,hx0⟩:∃x,x=L.getD (4*k) 0:=⟨_,rfl⟩;obtain⟨x1,hx1⟩:∃x,x=L.getD (4*k+1) 0:=⟨_,rfl⟩;obtain⟨x2,hx2⟩:∃x,x=L.getD (4*k+2) 0:=⟨_,rfl⟩;obtain⟨x3,hx3⟩:∃x,x=L.getD (4*k+3) 0:=⟨_,rfl⟩;have k0:wr.cell? ⟨b,off+k*4,none⟩=some (iV x0):=by rw[Bl k 4,hx0];exact rL.at (4*k) (by omega)
     have k1:wr.cell? ⟨b,off+k*4+1,none⟩=some (iV x1):=by rw[Bl k 4,hx1];exact rL.at (4*k+1) (by omega)
     have k2:wr.cell? ⟨b,off+k*4+2,none⟩=some (iV x2):=by rw[Bl k 4,hx2];exact rL.at (4*k+2) (by omega)
     have k3:wr.cell? ⟨b,off+k*4+3,none⟩=some (iV x3):=by rw[Bl k 4,hx3];exact rL.at (4*k+3) (by omega)
     have X:Hid (x2=L.getD (4*k+2) 0):=ah hx2;clear rL hx0 hx1 hx2 hx3
     go_wp2_with (at_builtin;refine Cl _ rfl _ _ 71 rfl (w.heap.size+1) 3 i0 (iV 0) 1 8 Tryz.underlying71 hi Du wh uC rfl (by decide) _ _ _ rfl ((bM.alloc _).alloc _) ⟨wr.heap.size+1,0,none⟩ 1 1 [iV x2] rfl rfl (Dv _ _ _ _) (Cp .i64 [x2]) (by unfold maxLen;omega) (by omega) (by simp;omega) ?_;intro v' w4 hown4 hgrow4 _)
     have R1:Hid (w4.ownsRow (w.heap.size+1) 3 1 v' (k+1) ((cX L (k+1)).map (Value.int .i64))):=ah (by
       rw[q7,AB,←aa X];exact hown4)
     have R2:Hid (Below (w.heap.size+1) W w4):=ah ((((aa HB).alloc iE _).alloc (by simp;omega) _).grown hgrow4 (by simp;omega) (by intro t ht;exact(bM.lt t ht).1));clear hown4 hgrow4 bM k0 k1 k2 k3;go_wp2
     go_roundw
     case rel=>exact⟨k+1,by omega,by go_num,aa R1,aa R2⟩
     case measure=>simp[intOf];omega
    ·obtain rfl:k=ln:=by omega
     obtain⟨c0,c1,c2,c3,c4⟩:=(qb0.below hb (by omega)).heads;have Q2:=bM;rw[←JP L k R]at Q2;clear bM
     go_wp2_with fail
     clear c0 c1 c2 c3 c4
     go_loopw [3,28] (fun v t wr=>∃j:Nat,j≤rn∧t=iV j∧wr.ownsRow (w.heap.size+1) 3 1 v (k+j) ((fV L k R j).map (Value.int .i64))∧Below (w.heap.size+1) W wr) (fun _ t _=>rn-(intOf t).toNat)
     case atStart=>exact⟨0,Ak _,rfl,Q2,hb⟩
     case round=>
       obtain⟨j,hj,rfl,bM,hb'⟩:=hrel;clear Q2 hb Vn;have abM:w.heap.size+1≤wr.heap.size:=by have:=hb'.size;omega
       have Vn:bZ w wr:=B0.trans (hb'.mono (by omega));by_cases aM:j<rn
       ·have rR:=hR.below Vn;have HBw:=ah Vn;have HB:=ah hb';clear Vn hb';obtain⟨b,off,rfl⟩:=hR.form (by omega);obtain⟨x0,hx0⟩:∃x,x=R.getD (2*j) 0:=⟨_,rfl⟩;obtain⟨x1,hx1⟩:∃x,x=R.getD (2*j+1) 0:=⟨_,rfl⟩;have k0:wr.cell? ⟨b,off+j*2,none⟩=some (iV x0):=by rw[Bl j 2,hx0];exact rR.at (2*j) (by omega)
        have k1:wr.cell? ⟨b,off+j*2+1,none⟩=some (iV x1):=by rw[Bl j 2,hx1];exact rR.at (2*j+1) (by omega)
        have X:Hid (x0=R.getD (2*j) 0):=ah hx0;clear rR hx0 hx1
        go_wp2_with (at_builtin;refine Cl _ rfl _ _ 71 rfl (w.heap.size+1) 3 i0 (iV 0) 1 8 Tryz.underlying71 hi Du wh uC rfl (by decide) _ _ _ rfl ((bM.alloc _).alloc _) ⟨wr.heap.size+1,0,none⟩ 1 1 [iV x0] rfl rfl (Dv _ _ _ _) (Cp .i64 [x0]) (by unfold maxLen;omega) (by omega) (by simp;omega) ?_;intro v' w4 hown4 hgrow4 _)
        have R1:Hid (w4.ownsRow (w.heap.size+1) 3 1 v' (k+(j+1)) ((fV L k R (j+1)).map (Value.int .i64))):=ah (by
          rw[xB,AB,←aa X];exact hown4)
        have R2:Hid (Below (w.heap.size+1) W w4):=ah ((((aa HB).alloc abM _).alloc (by simp;omega) _).grown hgrow4 (by simp;omega) (by intro t ht;exact(bM.lt t ht).1));clear hown4 hgrow4 bM k0 k1;go_wp2
        go_roundw
        case rel=>exact⟨j+1,by omega,by go_num,aa R1,aa R2⟩
        case measure=>simp[intOf];omega
       ·obtain rfl:j=rn:=by omega
        have hn:k+j<4611686018427387904:=by omega
        clear hR hL;have HB:=ah hb';have HO:=ah bM;clear hb' bM Vn
        go_wp2_with (go_at_call 194;refine(Q1 _ _ _ _ _ (aa HO) hn).mono ?_;rintro e w5 ⟨rfl,hown5,hgrow5⟩)
        have Ql:Below (w.heap.size+1) W w5:=(aa HB).grown hgrow5 abM (by intro t ht;exact((aa HO).lt t ht).1);have O5:=ah hown5;clear hown5 hgrow5 HO HB;have q5:=qb0.below Ql (by omega);refine wp_region_held_drew (S:=fun w'=>aV w' w.heap.size ep nx gv (.slice ra j rc) (.slice la k lc) ws) (by kernel_rfl) q5 (fun hHeld=> ?_);refine BM (i:=0) (v:=_) rfl (by kernel_rfl) (by kernel_rfl) (by kernel_rfl) (fun _ _ _ h=>h) (Or.inl ⟨by rfl,fun _ _=>rfl⟩) hHeld ?_;simp only[List.getElem_toArray,List.getElem_cons_zero,Act.put,List.setIfInBounds_toArray,List.set_cons_zero,List.set_cons_succ];refine BM (i:=3) (v:=_) rfl (by kernel_rfl) (by kernel_rfl) (by kernel_rfl) (fun _ _ _ h=>h) (QX _ rfl rfl rfl (fun _ h=>h)) hHeld ?_;simp only[List.getElem_toArray,List.getElem_cons_zero,List.getElem_cons_succ,Act.put,List.setIfInBounds_toArray,List.set_cons_zero,List.set_cons_succ];refine wpAnyH_ready (rs:=[1]) (by kernel_rfl) (by simp) ?_;refine AllReadyH.cons rfl (fun K hK=> ?_) AllReadyH.nil;simp only[List.getElem_toArray,List.getElem_cons_zero,List.getElem_cons_succ];go_simp;refine(GJ (w.heap.size+1) _ (k+j) _ w5.drew (aa O5) hn).mono ?_;rintro e w6 ⟨a6,c,cap6,rfl,g6,h6,C6⟩;have hb6:Below (w.heap.size+1) W w6:=(show Below (w.heap.size+1) W w5.drew from⟨Ql.os,Ql.tape,Ql.output,Ql.size,Ql.block⟩).grown g6 (by have:=Ql.size;simp;omega) (by intro t ht;exact((aa O5).lt t ht).1);have q6:=qb0.below hb6 (by omega);refine hK.out _ _ q6 (fun hHeld=> ?_);clear hK K g6;refine BM (i:=2) (v:=iV (c:Int)) rfl (by kernel_rfl) (by kernel_rfl) (by kernel_rfl) (fun _ _ _ h=>h) (Or.inl ⟨by rfl,fun _ _=>by go_simp⟩) hHeld ?_;simp only[List.getElem_toArray,List.getElem_cons_zero,List.getElem_cons_succ,Act.put,List.setIfInBounds_toArray,List.set_cons_zero,List.set_cons_succ];refine wpAnyH_ready (rs:=[4]) (by kernel_rfl) (by simp) ?_;refine AllReadyH.cons rfl (fun K hK=> ?_) AllReadyH.nil;simp only[List.getElem_toArray,List.getElem_cons_zero,List.getElem_cons_succ];go_simp;refine(oH _ _ _ _ _ _ _ _ _ _ _ (by omega)).mono ?_;rintro e w7 ⟨rfl,b7⟩;refine hK.out _ _ (q6.next b7) (fun hHeld=> ?_);clear hK K;refine BM (i:=5) (v:= .bool (decide ((c:Int)<((j+k:Nat):Int)))) rfl (by kernel_rfl) (by kernel_rfl) (by kernel_rfl) (fun _ _ _ h=>h) (Or.inl ⟨by rfl,fun _ _=>by go_simp⟩) hHeld ?_;simp only[List.getElem_toArray,List.getElem_cons_zero,List.getElem_cons_succ,Act.put,List.setIfInBounds_toArray,List.set_cons_zero,List.set_cons_succ];refine BM (i:=6) (v:= .bool (decide ((c:Int)<((j+k:Nat):Int)))) rfl (by kernel_rfl) (by kernel_rfl) (by kernel_rfl) (fun _ _ _ h=>h) (Or.inl ⟨by rfl,fun _ _=>by go_simp⟩) hHeld ?_;simp only[List.getElem_toArray,List.getElem_cons_zero,List.getElem_cons_succ,Act.put,List.setIfInBounds_toArray,List.set_cons_zero,List.set_cons_succ];refine wpAnyH_done (by kernel_rfl) ?_ _;have hd:=Vk (fV L k R j) c (j+k) (aa C6) (by rw[NM];omega);rw[hd];clear hd;have hb7:bZ w w7:=B0.trans ((hb6.trans (b7.mono (by have:=hb6.size;omega))).mono (by omega));have Q3:=ah hb7;clear hb7 hb6 Ql q6 q5 b7 hHeld;go_wp2;go_ret;exact⟨rfl,aa Q3⟩
section
open Rv
def GK(R:tG)(k:Nat):Int:=if k=0 then-1 else R.getD (2*(k-1)) 0
structure wO(nx:Int)(R:tG)(i:Nat):Prop where
 E3:(rS (R.getD (2*i) 0) (nx-1)&&rS (R.getD (2*i+1) 0) 1000000)=true
 JM:GK R i<R.getD (2*i) 0
def uE(nx:Int)(L:tG)(i:Nat):Prop:=(rS (L.getD (4*i+2) 0) (nx-1)&&rS (L.getD (4*i+3) 0) 1000000)=true
structure xD(nx:Int)(R:tG)(rn:Nat)(L:tG)(ln:Nat):Prop where
 ready:∀i,i<rn→wO nx R i
 E3:∀i,i<ln→uE nx L i
 apart:xC (fV L ln R rn)=false
noncomputable def q_(nx:Int)(R:tG)(rn:Nat)(L:tG)(ln:Nat):Bool:= @decide (xD nx R rn L ln) (Classical.propDecidable _)
theorem NO{nx:Int}{R:tG}{rn:Nat}{L:tG}{ln:Nat}(h:xD nx R rn L ln):q_ nx R rn L ln=true:=by
 unfold q_;exact @decide_eq_true _ (Classical.propDecidable _) h
theorem xE{nx:Int}{R:tG}{rn:Nat}{L:tG}{ln:Nat}(h:¬xD nx R rn L ln):q_ nx R rn L ln=false:=by
 unfold q_;exact @decide_eq_false _ (Classical.propDecidable _) h
theorem NP{nx:Int}{R:tG}{rn:Nat}{L:tG}{ln:Nat}:q_ nx R rn L ln=true↔xD nx R rn L ln:=by
 unfold q_;exact @decide_eq_true_iff _ (Classical.propDecidable _)
theorem GL(ep nx gv:Int)(ra la:tB)(rn rc ln lc:Nat)(R L:tG)(ws:tD)(w:tA)(hR:RowK .i64 w ra (2*rn) R)(hL:RowK .i64 w la (4*ln) L)(hs:rn+ln≤500)(JR:0≤nx)(sR:nx≤1073741824):
  cA 99 #[iF ep nx gv (.slice ra rn rc) (.slice la ln lc) ws] w (rB (.bool (q_ nx R rn L ln)) w):=by
 refine en (H:=[]) _ [vg (qS ep nx gv (.slice ra rn rc) (.slice la ln lc) ws)] Tryz.func99 rfl rfl (m0 w) (r [] rfl fun α=> ?_);refine iC (X:=Nat) ⟨fun k=>[(1,vp 0 0 (α 0)),(3,vi (GK R k)),(9,vv (.slice ra rn rc)),(10,vi (rn:Int)),(11,vi (k:Int))],fun _=>[⟨α 0,80,qS ep nx gv (.slice ra rn rc) (.slice la ln lc) ws⟩],fun _ _=>False,fun _ _=>True,fun _ w'=>bZ w w',fun k=>k≤rn∧∀i,i<k→wO nx R i,fun k=>rn-k⟩ 0 ⟨rfl,rfl,rfl,rfl,rfl,trivial⟩ (fun _ hS=>hS) ⟨Ak _,fun p hp=>absurd hp (AH p)⟩ ?_;rintro f k ⟨hk,hi⟩;have hk:k≤rn:=hk;by_cases aM:k<rn
 case pos=>
  obtain⟨rb,ro,rfl⟩:=hR.form (by omega);have no:¬wO nx R k→q_ nx R rn L ln=false:=fun h=>xE fun h'=>h (h'.ready k aM);refine r [1] rfl fun _=>lf (q:=ro+k*2) rfl 2 (cD (mS R k)) (fun w hS=>aeN (hR.below hS.now.2) (by omega)) (r [] rfl fun _=> ?_);cases h1:rS (R.getD (2*k) 0) (nx-1)&&rS (R.getD (2*k+1) 0) 1000000
  ·exact Rv.cb rfl (vv (.bool false)) (fun w _=>h1▸mH ep nx gv _ _ ws _ _ w JR sR) (r [] rfl fun _=>fin fun w hS=>⟨by rw[no fun h=>by rw[h.E3]at h1;cases h1];rfl,hS.now.2⟩)
  refine Rv.cb rfl (vv (.bool true)) (fun w _=>h1▸mH ep nx gv _ _ ws _ _ w JR sR) (r [] rfl fun _=> ?_);by_cases h3:R.getD (2*k) 0≤GK R k
  ·exact r [1] rfl fun _=>fin fun w hS=>⟨by rw[no fun h=>absurd h.JM (Int.not_lt.2 h3)];rfl,hS.now.2⟩
  refine rz [0,1] [((k+1:Nat):Int)] rfl fun _=>b_ (k+1) ⟨rfl,rfl,rfl,rfl,rfl,trivial⟩ (fun w hS=>hS.take 1) ⟨aM,upto hi ⟨h1,Int.not_le.1 h3⟩⟩ (show rn-(k+1)<rn-k by omega)
 obtain rfl:k=rn:=by omega
 refine r [0] rfl fun _=>iC (X:=Nat) ⟨fun j=>[(1,vp 0 0 (α 0)),(29,vv (.slice la ln lc)),(30,vi (ln:Int)),(31,vi (j:Int))],fun _=>[⟨α 0,80,qS ep nx gv (.slice ra k rc) (.slice la ln lc) ws⟩],fun _ _=>False,fun _ _=>True,fun _ w'=>bZ w w',fun j=>j≤ln∧∀i,i<j→uE nx L i,fun j=>ln-j⟩ 0 ⟨rfl,rfl,rfl,rfl,trivial⟩ (fun _ hS=>hS) ⟨Ak _,fun p hp=>absurd hp (AH p)⟩ ?_;rintro f j ⟨hj,hc⟩;have hj:j≤ln:=hj;by_cases aM:j<ln
 case pos=>
  obtain⟨lb,lo,rfl⟩:=hL.form (by omega);refine r [1] rfl fun _=>lf (q:=lo+j*4) rfl 4 (cD (lS L j)) (fun w hS=>abJ (hL.below hS.now.2) (by omega)) (r [] rfl fun _=> ?_);cases h1:rS (L.getD (4*j+2) 0) (nx-1)&&rS (L.getD (4*j+3) 0) 1000000
  ·exact Rv.cb rfl (vv (.bool false)) (fun w _=>h1▸mH ep nx gv _ _ ws _ _ w JR sR) (r [] rfl fun _=>fin fun w hS=>⟨by rw[xE fun h'=>by have:=h'.E3 j aM;unfold uE at this;rw[this]at h1;cases h1];rfl,hS.now.2⟩)
  refine Rv.cb rfl (vv (.bool true)) (fun w _=>h1▸mH ep nx gv _ _ ws _ _ w JR sR) (rz [1] [((j+1:Nat):Int)] rfl fun _=>b_ (j+1) ⟨rfl,rfl,rfl,rfl,trivial⟩ (fun w hS=>hS.take 1) ⟨aM,upto hc h1⟩ (show ln-(j+1)<ln-j by omega))
 obtain rfl:j=ln:=by omega
 refine r [0] rfl fun _=> ?_;cases h1:xC (fV L j R k)
 ·exact Rv.cb rfl (vv (.bool false)) (fun w hS=>h1▸Dx ep nx gv ra la k rc j lc R L ws w (hR.below hS.now.2) (hL.below hS.now.2) hs) (r [] rfl fun _=>fin fun w hS=>⟨by rw[NO ⟨hi,hc,h1⟩];rfl,hS.now.2⟩)
 ·exact Rv.cb rfl (vv (.bool true)) (fun w hS=>h1▸Dx ep nx gv ra la k rc j lc R L ws w (hR.below hS.now.2) (hL.below hS.now.2) hs) (r [] rfl fun _=>fin fun w hS=>⟨by rw[xE fun h=>by rw[h.apart]at h1;cases h1];rfl,hS.now.2⟩)
def E4(ep nx gv:Int)(rn ln:Nat):Bool:=rS ep 1048576&&rS nx 1073741824&&rS gv 1073741824&&decide (rn+ln≤500)
structure LR(ep nx gv:Int)(rn ln:Nat):Prop where
 e0:0≤ep
 e1:ep≤1048576
 n0:0≤nx
 n1:nx≤1073741824
 g0:0≤gv
 g1:gv≤1073741824
 sz:rn+ln≤500
theorem xF{ep nx gv:Int}{rn ln:Nat}:E4 ep nx gv rn ln=true↔LR ep nx gv rn ln:=by
 unfold E4;rw[AG,AG,AG,im,im,im,decide_eq_true_eq];exact⟨fun⟨⟨⟨⟨a,b⟩,c,d⟩,e,f⟩,g⟩=>⟨a,b,c,d,e,f,g⟩,fun⟨a,b,c,d,e,f,g⟩=>⟨⟨⟨⟨a,b⟩,c,d⟩,e,f⟩,g⟩⟩
structure E9(ep nx gv:Int)(R:tG)(rn:Nat)(L:tG)(ln:Nat)(wt:tH)(wz:Nat→Nat→Bool):Prop where
 count:LR ep nx gv rn ln
 GM:∀p,p<4→fJ (wt p) (wz p)
 hold:xD nx R rn L ln
 GN:∀i,i<ln→mI ep gv L i
theorem GO(ep nx gv:Int)(ra la:tB)(rn rc ln lc:Nat)(R L:tG)(ws:tD)(wt:tH)(wz:Nat→Nat→Bool)(w:tA)(hR:RowK .i64 w ra (2*rn) R)(hL:RowK .i64 w la (4*ln) L)(hW:gN ws wt wz)
  (hs:rn+ln≤9223372036854775807) (B1 B2 B3 B4:Bool) (h1:B1=E4 ep nx gv rn ln) (h2:B1=true→B2=sQ wt wz) (h3:B1=true→B3=q_ nx R rn L ln) (h4:B1=true→B4=mP ep gv L ln):
  cA 58 #[iF ep nx gv (.slice ra rn rc) (.slice la ln lc) ws] w (rB (iV (if B1&&B2&&B3&&B4 then 0 else 6)) w):=by
 refine en (H:=[]) _ [vg (qS ep nx gv (.slice ra rn rc) (.slice la ln lc) ws)] Tryz.func58 rfl rfl (m0 w) (r [] rfl fun _=> ?_);have Zd:=fun w=>EY ep nx gv ra la rn rc ln lc ws w hs;rw[show(rS ep 1048576&&rS nx 1073741824&&rS gv 1073741824&&decide (rn+ln≤500))=B1 from h1.symm]at Zd;cases B1
 ·exact Rv.cb rfl (vv (.bool false)) (fun w _=>Zd w) (r [] rfl fun _=>fin fun w hS=>⟨rfl,hS.now.2⟩)
 have ok:=xF.1 h1.symm;have Ze:=fun w=>wg ep nx gv (.slice ra rn rc) (.slice la ln lc) ws wt wz w hW;rw[←h2 rfl]at Ze;refine Rv.cb rfl (vv (.bool true)) (fun w _=>Zd w) (r [] rfl fun _=> ?_);cases B2
 ·exact Rv.cb rfl (vv (.bool false)) (fun w _=>Ze w) (r [] rfl fun _=>fin fun w hS=>⟨rfl,hS.now.2⟩)
 refine Rv.cb rfl (vv (.bool true)) (fun w _=>Ze w) (r [] rfl fun _=> ?_);have hh:=fun w1 (b:bZ w w1)=>GL ep nx gv ra la rn rc ln lc R L ws w1 (hR.below b) (hL.below b) ok.sz ok.n0 ok.n1;rw[←h3 rfl]at hh;cases B3
 ·exact Rv.cb rfl (vv (.bool false)) (fun w hS=>hh w hS.now.2) (r [] rfl fun _=>fin fun w hS=>⟨rfl,hS.now.2⟩)
 refine Rv.cb rfl (vv (.bool true)) (fun w hS=>hh w hS.now.2) (r [] rfl fun _=> ?_);have hl:=fun w1 (b:bZ w w1)=>EZ ep nx gv (.slice ra rn rc) la ln lc L ws w1 ok.g0 ok.g1 (hL.below b) (by omega);rw[←h4 rfl]at hl;cases B4
 ·exact Rv.cb rfl (vv (.bool false)) (fun w hS=>hl w hS.now.2) (r [] rfl fun _=>fin fun w hS=>⟨rfl,hS.now.2⟩)
 ·exact Rv.cb rfl (vv (.bool true)) (fun w hS=>hl w hS.now.2) (r [] rfl fun _=>fin fun w hS=>⟨rfl,hS.now.2⟩)
theorem zV{ep nx gv:Int}{R:tG}{rn:Nat}{L:tG}{ln:Nat}{wt:tH}{wz:Nat→Nat→Bool}:
  (E4 ep nx gv rn ln&&sQ wt wz&&q_ nx R rn L ln&&mP ep gv L ln)=true↔E9 ep nx gv R rn L ln wt wz:=by
 rw[AG,AG,AG,xF,NK,NP,JO];exact⟨fun⟨⟨⟨a,b⟩,c⟩,d⟩=>⟨a,b,c,d⟩,fun⟨a,b,c,d⟩=>⟨⟨⟨a,b⟩,c⟩,d⟩⟩
theorem xG(ep nx gv:Int)(ra la:tB)(rn rc ln lc:Nat)(R L:tG)(ws:tD)(wt:tH)(wz:Nat→Nat→Bool)(w:tA)(hR:RowK .i64 w ra (2*rn) R)(hL:RowK .i64 w la (4*ln) L)(hW:gN ws wt wz)(h:E9 ep nx gv R rn L ln wt wz):
  cA 58 #[iF ep nx gv (.slice ra rn rc) (.slice la ln lc) ws] w (rB (iV 0) w):=by
 have:=GO ep nx gv ra la rn rc ln lc R L ws wt wz w hR hL hW (by have:=h.count.sz;omega) _ _ _ _ rfl (fun _=>rfl) (fun _=>rfl) (fun _=>rfl);rwa [zV.2 h,if_pos rfl]at this
end
end Go.Proofs.YtmhifeahpnkpiaaGreatDoor
