/- Out of my texts: Base, TuA, GnA, GnO, GnS, GnB, GnT, GnU, RvA, RvB, RvC, RvD, RvE, RvF, RvG, RvH, RvI, RvT, RvN, KpP, RvR, RvS, WdA, WdB, QuA, QuB, QuL, QuC, PkA, QuD, QuE, QuF. -/
import Derived.Below
import Derived.BigQuiet
import Derived.Carry
import Derived.Deep.AppendLies
import Derived.Deep.MidRow
import Derived.Deep.QuietTactic
import Derived.Deep.RegionHeld3
import Derived.Laws.AppendOwnNone
import Derived.Laws.BitsLemmas
import Derived.Laws.Tables
import Derived.Lib.OwnBridge
import Derived.OpenShut
import Derived.OrdersHeld
import Derived.ProofKit
import Derived.Shelf.Slices.CompactI
import Derived.Shelf.Slices.In.SortNone
import Derived.Shelf.Sort.Plain
import Derived.SizedLaws
import Derived.Sort.OwnSortedInts
import Derived.WalkKit
import Derived.WalkLawsBesides
import Derived.WalkSpells
import Derived.Test.YtpgkjpomaffbmaaGreatDoorProg
set_option maxRecDepth 20000
set_option maxHeartbeats 8000000
set_option linter.unusedVariables false
namespace Go.Proofs.YtpgkjpomaffbmaaGreatDoor
open Go.RowKit
abbrev Aa:= @if_neg
abbrev Ab:= @List.mem_singleton
abbrev Ac:= @Nat.le_refl
abbrev Ae:= @if_pos
abbrev Ag:= @List.length_append
abbrev Ah:= @List.mem_append
abbrev Ai:= @List.getElem?_eq_getElem
abbrev Aj:= @Nat.zero_add
abbrev Ak:= @decide_eq_false
abbrev Al:= @Nat.zero_le
abbrev Am:= @Nat.lt_of_lt_of_le
abbrev Ao:= @bodyPost_ret
abbrev Ap:= @List.getElem?_eq_some_iff
abbrev Aq:= @List.mem_cons_self
abbrev Ar:= @List.mem_of_getElem?
abbrev As:= @decide_eq_true
abbrev Au:= @List.append_nil
abbrev Aw:= @List.getD_eq_getElem?_getD
abbrev Ax:= @List.getElem?_map
abbrev Ay:= @List.mem_map
abbrev Az:= @List.mem_cons_of_mem
abbrev AA:= @List.append_assoc
abbrev AB:= @congrArg
abbrev AE:= @List.map_append
abbrev AF:= @Nat.not_lt_zero
abbrev AG:= @Nat.lt_or_ge
abbrev AH:= @Bool.and_eq_true
abbrev AJ:= @List.mem_of_mem_take
abbrev AK:= @List.length_drop
abbrev AL:= @List.take_of_length_le
abbrev AM:= @List.length_take
abbrev AN:= @Nat.le_trans
abbrev AO:= @List.getElem?_take
abbrev AP:= @heap_alloc_new
abbrev AQ:= @List.getElem?_append_right
abbrev AR:= @Prod.mk.inj
abbrev AU:= @List.length_eq_zero_iff
abbrev AW:= @List.length_map
abbrev AY:= @Option.some.inj
abbrev AZ:= @List.getElem?_append_left
abbrev Bb:= @Nat.not_lt
abbrev Bd:= @Nat.eq_of_beq_eq_true
abbrev Be:= @List.getElem?_eq_none
abbrev Bf:= @Array.getElem?_eq_none
abbrev Bj:= @List.mem_append_right
abbrev Bk:= @List.mem_append_left
abbrev Bm:= @Below.refl
abbrev Bn:= @Nat.mul_comm
abbrev Bo:= @List.take_succ_eq_append_getElem
abbrev Bp:= @Nat.zero_lt_one
abbrev Bq:= @Int.le_refl
abbrev Bz:= @wpList_step
abbrev BD:= @List.pairwise_iff_getElem
abbrev BE:= @List.getElem_mem
abbrev BF:= @Nat.add_assoc
abbrev BH:= @List.ext_getElem?
abbrev BI:= @List.mem_cons
abbrev BK:= @Nat.le_of_ble_eq_true
abbrev BM:= @Addr.add_mid
abbrev BN:= @List.pairwise_singleton
abbrev BO:= @List.getElem?_drop
abbrev BP:= @Array.getElem?_eq_some_iff
abbrev BR:= @List.map_congr_left
abbrev BS:= @wpAnyH_take
abbrev BU:= @List.take_append_drop
abbrev Ca:= @Array.ext_getElem?
abbrev Cb:= @Array.getD_eq_getD_getElem?
abbrev Cc:= @Nat.le_of_eq
abbrev Cf:= @List.drop_eq_nil_of_le
abbrev Cg:= @List.mem_range
abbrev Ck:= @Array.getElem?_eq_getElem
abbrev Cn:= @Nat.add_zero
abbrev Co:= @List.map_set
abbrev Cp:= @List.getElem?_of_mem
abbrev Cq:= @World.cell?_of_block
abbrev Cr:= @wpList_append_own
abbrev Ct:= @setCell_eq_setRow
abbrev Cu:= @Nat.add_sub_cancel_left
abbrev Cw:= @ints_oneCell
abbrev Cx:= @List.getElem?_set_self
abbrev tA:Type:=World
abbrev tB:Type:=Option Addr
abbrev tD:Type:=Nat→Value
abbrev tF:Type:=Nat→Prop
abbrev tG:Type:=List Int
abbrev tH:Type:=Nat→Int
abbrev tI:Type:=Exit→Act→World→Prop
abbrev tJ:Type:=World→Prop
abbrev tK:Type:=Value
abbrev tM:Type:=List Value
abbrev tP:Type:=Array Oper
abbrev tQ:Type:=Nat→Bool
abbrev tR:Type:=Array Value
abbrev tT:Type:=Nat→Nat→Value
abbrev tU:Type:=Operand
abbrev tV:Type:=Nat→Nat
abbrev tW:Type:=List Nat
abbrev tY:Type:=Program
abbrev tZ:Type:=TypeId
abbrev tf:Type:=MapEntry
abbrev bZ(w w':World):Prop:=Below w.heap.size w w'
abbrev cA(f:FuncId)(a:Array Value)(w:World)(Q:Ending→World→Prop):Prop:=Calls Tryz.prog f a w Q
abbrev rB(v:Value)(w:World):Ending→World→Prop:=fun e w'=>e= .returned v∧Below w.heap.size w w'
abbrev iV(n:Int):Value:=Value.int IntKind.i64 n
section
open Go.ChangeShapes Go.WideShapes Go.ChangeAt
structure RowK(k:IntKind)(w:tA)(a:tB)(len:Nat)(l:tG):Prop where
 bP:l.length=len
 wf:∀u∈l,(Lit.int k u).wf=true
 cell:∀i,i<len→∃b off,a=some ⟨b,off,none⟩∧b<w.heap.size∧w.cell? ⟨b,off+i,none⟩=some (.int k (l.getD i 0))
theorem RowK.below{k:IntKind}{w w':tA}{a:tB}{len:Nat}{l:tG}(h:RowK k w a len l)(hb:bZ w w'):RowK k w' a len l:=
 ⟨h.bP,h.wf,fun i hi=>by
  obtain⟨b,off,ha,aN,hc⟩:=h.cell i hi
  exact⟨b,off,ha,Am aN hb.size,(hb.cell aN).trans hc⟩⟩
theorem RowK.nil(k:IntKind)(w:tA)(a:tB):RowK k w a 0 []:=⟨rfl,by simp,fun i hi=>by omega⟩
theorem RowK.at{k:IntKind}{w:tA}{b off len:Nat}{l:tG}(h:RowK k w (some ⟨b,off,none⟩) len l)(i:Nat)(hi:i<len):w.cell? ⟨b,off+i,none⟩=some (.int k (l.getD i 0)):=by
 obtain⟨b',off',ha,_,hc⟩:=h.cell i hi;simp at ha;obtain⟨rfl,rfl⟩:=ha;exact hc
theorem RowK.lt{k:IntKind}{w:tA}{b off len:Nat}{l:tG}(h:RowK k w (some ⟨b,off,none⟩) len l)(hi:0<len):b<w.heap.size:=by
 obtain⟨b',off',ha,hb,_⟩:=h.cell 0 hi;simp at ha;obtain⟨rfl,rfl⟩:=ha;exact hb
theorem RowK.form{k:IntKind}{w:tA}{a:tB}{len:Nat}{l:tG}(h:RowK k w a len l)(hi:0<len):∃b off,a=some ⟨b,off,none⟩:=by
 obtain⟨b',off',ha,hb,_⟩:=h.cell 0 hi;exact⟨b',off',ha⟩
theorem RowK.Mi{w:tA}{base e g n cap:Nat}{k:IntKind}{l:tG}(h:w.ownsRow base e 1 (.slice (some ⟨g,0,none⟩) n cap) n (l.map (Value.int k)))(hl:l.length=n)(hw:∀u∈l,(Lit.int k u).wf=true):RowK k w (some ⟨g,0,none⟩) n l:=
 ⟨hl,hw,fun i hi=>by
  have hc:=h.cellAt i (by omega);have hb:=(h.lt g rfl).2;refine⟨g,0,rfl,hb, ?_⟩;rw[Aj,hc,Ax,Ai (by omega)]
  simp[List.getElem?_eq_getElem (show i<l.length by omega)]⟩
theorem qd{P:tY}{w:tA}(src e:tZ)(hs:P.underlying src=some (.slice e))(he:P.underlying e=some (.int .u8)){a:tB}{len cap:Nat}{l:tG}(h:RowK .u8 w a len l):
  ∀dst,P.underlying dst=some .string→(convert src dst (.slice a len cap)).run P w= .ok (.string (strOfNums l)) w:=by
 intro dst hd;by_cases h0:len=0
 ·subst h0;have hl:l=[]:=AU.1 h.bP;subst hl;cases a with
  |none=>rw[run_convert_bytes_nil w src e hs he 0 cap dst hd];rfl
  |some x=>
   rw[run_convert_bytes_string w src dst e _ 0 cap hs he hd,run_bytesToString w _ 0 cap [] (by simp[loadCells,loadCellsFrom,Sem.run_pure])];rfl
 ·obtain⟨b,off,rfl⟩:=h.form (by omega);exact run_convert_bytes_arg w src e hs he b off len cap l h.bP (fun i hi=>h.at i hi) dst hd
theorem ng{P:tY}{w:tA}{ops:tP}{rest:List Oper}{o:Oper}{a:Act}{Q:tI}(NZ:o.guard=none)(s x:tU)(t:tZ)
  (ho:o.op= .call {callee:= .builtin .append,args:= #[s,x],argTypes:= #[t,t]})
  (base:Nat) (e:tZ) (i:TypeInfo) (z:tK) (bytes:Nat) (ht:P.underlying t=some (.slice e)) (hi:P.info? e=some i) (hz:i.zero=some z)
  (Hd:i.size=1) (Dt:i.bytes=bytes) (Mj:z.cells.size=1) (k:IntKind)
  (v:tK) (n:Nat) (xs:tG) (hs:a.eval s=v) (bU:w.ownsRow base e 1 v n (xs.map (Value.int k)))
  (ad:tB) (m c:Nat) (l:tG) (hx:a.eval x= .slice ad m c) (hr:RowK k w ad m l) (qe:ad=none→c=0)
  (Kg:n+m≤maxLen) (yL:(n+m)*bytes≤140737488355328) (d_:base≤w.heap.size)
  (h:∀v' w',w'.ownsRow base e 1 v' (n+m) ((xs++l).map (Value.int k))→w.grownBy w' v.ownBlock→wpList P ops Q rest (a.put o.dst v') w'):wpList P ops Q (o::rest) a w:=by
 cases ad with
 |none=>
  have hm:m=0:=by
   by_cases h0:0<m
   ·obtain⟨_,_,h',_⟩:=hr.cell 0 h0;cases h'
   ·omega
  subst hm;have hl:l=[]:=AU.1 hr.bP;subst hl;refine wpList_append_own_none NZ s x t ho base e i 1 ht hi v n _ hs bU (by rw[hx,qe rfl]) ?_;exact h v w (by simpa using bU) (World.grownBy.refl _ _)
 |some x0=>
  refine Cr w NZ s x t ho base e i z 1 bytes ht hi hz Hd Dt Mj (by decide) v n _ hs bU x0 m c (l.map (Value.int k)) hx (by simp[hr.bP]) ?_ (Cw _ _) Kg yL d_ ?_
  ·intro j u hj;have Zf:j<l.length:=by
    rcases AG j l.length with h'|h'
    ·exact h'
    ·simp[List.getElem?_eq_none h']at hj
   obtain⟨b,off,hb,_,hc⟩:=hr.cell j (by rw[←hr.bP];exact Zf);simp only[Option.some.injEq]at hb;subst hb;have Q2:(⟨b,off,none⟩:Addr).add j=⟨b,off+j,none⟩:=by unfold Addr.add;split<;>simp_all
   rw[Q2,hc];simp[List.getElem?_eq_getElem Zf]at hj;simp[List.getElem?_eq_getElem Zf,hj]
  ·intro v' w' h1 h2 _;exact h v' w' (by rw[AE];exact h1) h2
theorem RowK.yM{w:tA}{base e n:Nat}{k:IntKind}{v:tK}{l:tG}(h:w.ownsRow base e 1 v n (l.map (Value.int k)))(hw:∀u∈l,(Lit.int k u).wf=true):
  ∃a cap,v= .slice a n cap∧RowK k w a n l∧n≤cap∧cap≤maxLen∧(a=none→cap=0)∧(∀x,a=some x→base≤x.block):=by
 have hl:l.length=n:=by have:=h.1;simpa using this
 rcases h.2 with⟨rfl,rfl⟩|⟨g,cap,cur,rfl,hb,hg,hc,hm,_⟩
 ·have:l=[]:=AU.1 hl;subst this;exact⟨none,0,rfl,RowK.nil _ _ _,Ac _,by unfold maxLen;omega,fun _=>rfl,fun x hx=>by cases hx⟩
 ·exact⟨some ⟨g,0,none⟩,cap,rfl,RowK.Mi h hl hw,hc,hm,by simp,fun x hx=>by simp at hx;subst hx;exact hb⟩
theorem aC(w:tA)(o1:Obj):Below w.heap.size w (w.alloc o1):=(Bm _ _).alloc (Ac _) o1
theorem gm(w:tA)(o1 o2:Obj):Below w.heap.size w ((w.alloc o1).alloc o2):=(aC w o1).alloc (by simp) o2
theorem oW{w w':tA}{o1:Obj}(h:Below (w.alloc o1).heap.size (w.alloc o1) w'):bZ w w':=(aC w o1).trans (h.mono (by simp))
theorem ur{w w':tA}{o1 o2:Obj}(h:Below ((w.alloc o1).alloc o2).heap.size ((w.alloc o1).alloc o2) w'):bZ w w':=(gm w o1 o2).trans (h.mono (by simp;omega))
theorem qf(w:tA)(n:Nat):Below w.heap.size w (w.drewN n):=⟨rfl,rfl,rfl,Ac _,fun _ _=>rfl⟩
theorem Below.next{w w1 w2:tA}(h1:bZ w w1)(h2:bZ w1 w2):bZ w w2:=h1.trans (h2.mono h1.size)
section
variable{H:Type}{enc:TypeId×Value→H}{P:tY}
theorem iP{ts:List TypeId}(hl:laidOutB P=true)(hr:∀t∈ts,P.readableRec t=true∧t<P.types.size){W W':tA}:
  ∀{vs:tM} {ds:List (DataW H)} {ps:List MemPlace},DataW.TrodAll enc P W 0 (fun _=>true) true ts vs ds ps→bZ W W'→(∀x∈ps,x.block<W.heap.size)→
   DataW.TrodAll enc P W' 0 (fun b=>decide (b<W.heap.size)) true ts vs ds ps:=by
 induction ts with
 |nil=>
  intro vs ds ps h _ _;obtain⟨rfl,rfl,rfl⟩:=trodAll_nil h;exact trodAll_mk0
 |cons t ts ih=>
  intro vs ds ps h hb aN;obtain⟨v,vs',d,ds',p,q,rfl,rfl,rfl,h1,h2⟩:=trodAll_cons h;exact trodAll_cons_mk (Below.trod hl (hr t (by simp)).1 (hr t (by simp)).2 h1 hb (fun x hx=>aN x (by simp[hx]))) (ih (fun t ht=>hr t (by simp[ht])) h2 hb (fun x hx=>aN x (by simp[hx])))
theorem mD{ts:List TypeId}{ds:List (DataW H)}(h:(DataW.weightsEach P ts ds).all (·≤reachBytes)=true){j:Nat}{t e:tZ}{d:DataW H}{cap bytes:Nat}(ht:ts[j]? =some t)(hd:ds[j]? =some d)
  (hu:P.underlying t=some (.slice e)) (hb:P.bytesOf e=bytes) (hc:(d= .nil∧cap=0)∨∃es sp,d= .slice es sp∧es.length+sp.length=cap):cap*bytes≤140737488351232:=by
 rcases hc with⟨_,rfl⟩|⟨es,sp,rfl,rfl⟩
 ·simp
 ·have:=sized_slice h ht hd hu;rw[hb]at this;simpa[reachBytes]using this
end
end
theorem heap_set{w:tA}{R o:Nat}{cs:tR}{T:tZ}{v:tK}(h:w.heap[R]? =some (.cells cs T (0,0))):(w.setCell ⟨R,o,none⟩ v).heap[R]? =some (.cells (cs.set! o v) T (0,0)):=by
 rw[Ct w R o _ _ (0,0) _ h,setRow_heap w R _ _ _ _ h];rfl
section
variable{w w':tA}{R:Nat}
theorem jH:∀(vs:tM) (o:Nat) (w:tA) (cs:tR) (t:tZ),w.heap[R]? =some (.cells cs t (0,0))→o+vs.length≤cs.size→
  ∃QL,(w.setCells R o vs).heap[R]? =some (.cells QL t (0,0))∧QL.size=cs.size∧∀i,QL[i]? =if o≤i∧i<o+vs.length then vs[i-o]? else cs[i]?
 |[],o,w,cs,t,h,_=>⟨cs,h,rfl,fun i=>by rw[Aa (by simp)]⟩
 |v::vs,o,w,cs,t,h,hl=>by
  have h1:=heap_set (o:=o) (v:=v) h;simp only[List.length_cons]at hl;obtain⟨QL,h2,h3,h4⟩:=jH vs (o+1) _ _ t h1 (by simp;omega);refine⟨QL,h2,by simpa using h3,fun i=> ?_⟩;rw[h4];by_cases ha:o+1≤i∧i<o+1+vs.length
  ·rw[Ae ha,Ae ⟨by omega,by simp;omega⟩,show i-o=(i-(o+1))+1 by omega];rfl
  ·rw[Aa ha];by_cases hi:i=o
   ·subst hi;rw[Ae ⟨by omega,by simp⟩];simp[show i<cs.size by omega]
   ·rw[Aa (by simp;omega)];simp[show ¬o=i by omega]
structure aB(R:Nat)(w w':tA):Prop where
 os:w'.os=w.os
 tape:w'.tape=w.tape
 output:w'.output=w.output
 size:w'.heap.size=w.heap.size
 block:∀k,k≠R→w'.heap[k]? =w.heap[k]?
theorem aB.set(R o:Nat)(w:tA)(v:tK):aB R w (w.setCell ⟨R,o,none⟩ v):=by
 refine⟨?_, ?_, ?_, ?_,fun k hk=>Below.heap_setCell w _ v k hk⟩<;>(unfold World.setCell;split<;>simp)
theorem aB.refl(R:Nat)(w:tA):aB R w w:=⟨rfl,rfl,rfl,rfl,fun _ _=>rfl⟩
theorem aB.trans{a b c:tA}(h:aB R a b)(k:aB R b c):aB R a c:=
 ⟨k.os.trans h.os,k.tape.trans h.tape,k.output.trans h.output,k.size.trans h.size,fun x hx=>(k.block x hx).trans (h.block x hx)⟩
theorem aB.uu(R:Nat):∀(vs:tM) (o:Nat) (w:tA),aB R w (w.setCells R o vs)
 |[],_,w=>aB.refl R w
 |_::vs,o,w=>(aB.set R o w _).trans (aB.uu R vs (o+1) _)
theorem aB.under{B:Nat}{w0:tA}(h:aB R w w')(hb:Below B w0 w)(hR:B≤R):Below B w0 w':=
 ⟨h.os.trans hb.os,h.tape.trans hb.tape,h.output.trans hb.output,by rw[h.size];exact hb.size,fun k hk=>(h.block k (by omega)).trans (hb.block k hk)⟩
end
def cE(f:tD)(k n:Nat):List Value:=(List.range n).map fun i=>f (k+i)
theorem bR(f:tD)(k n:Nat):(cE f k n).length=n:=by simp[cE]
theorem bW(f:tD)(k n j:Nat)(h:j<n):(cE f k n)[j]? =some (f (k+j)):=by simp[cE,h]
theorem gL(f:tD)(k n j:Nat)(h:n≤j):(cE f k n)[j]? =none:=by simp[cE,h]
theorem yN{f g:tD}{k k' n:Nat}(h:∀i,i<n→f (k+i)=g (k'+i)):cE f k n=cE g k' n:=by
 apply BH;intro i;by_cases hi:i<n
 ·rw[bW _ _ _ _ hi,bW _ _ _ _ hi,h i hi]
 ·rw[gL _ _ _ _ (by omega),gL _ _ _ _ (by omega)]
abbrev vF(f:tD)(n:Nat):Value:= .agg (cE f 0 n).toArray
def gh(f:tD)(k n:Nat)(g:tD):Nat→Value:=fun i=>if k≤i∧i<k+n then g (i-k)else f i
theorem Fl(f:tD)(k n:Nat)(g:tD)(i:Nat)(h:i<n):gh f k n g (k+i)=g i:=by
 unfold gh;rw[Ae ⟨by omega,by omega⟩,show k+i-k=i by omega]
theorem qg(f:tD)(k n:Nat)(g:tD)(i:Nat)(h:i<k∨k+n≤i):gh f k n g i=f i:=by
 unfold gh;rw[Aa (by omega)]
def oX(f:tD)(k:Nat)(v:tK):Nat→Value:=fun i=>if i=k then v else f i
theorem Fm(f:tD)(k:Nat)(v:tK):oX f k v k=v:=by simp[oX]
theorem qh(f:tD)(k:Nat)(v:tK)(i:Nat)(h:i≠k):oX f k v i=f i:=by simp[oX,h]
def aW(f:tD)(n:Nat):Prop:=∀i,i<n→(f i).oneCell'=true
theorem aW.all{f:tD}{n:Nat}(h:aW f n):((cE f 0 n).toArray).all (·.oneCell')=true:=by
 refine all_oneCell_toArray ?_;intro v hv;simp only[cE,List.mem_map,List.mem_range,Nat.zero_add]at hv;obtain⟨i,hi,rfl⟩:=hv;exact h i hi
def bh(w:tA)(R:Nat)(T:tZ)(n:Nat)(f:tD):Prop:=w.heap[R]? =some (.cells (cE f 0 n).toArray T (0,0))
section
variable{w w':tA}{R T n:Nat}{f g:tD}
theorem bh.lt(h:bh w R T n f):R<w.heap.size:=by
 unfold bh at h;rcases AG R w.heap.size with h'|h'
 ·exact h'
 ·simp[Array.getElem?_eq_none h']at h
theorem bh.below{B:Nat}(h:bh w R T n f)(hb:Below B w w')(hR:R<B):bh w' R T n f:=by
 unfold bh at h⊢;rw[←h];exact hb.block R hR
theorem bh.next(h:bh w R T n f)(hb:bZ w w'):bh w' R T n f:=h.below hb h.lt
theorem bh.dR{R':Nat}(h:bh w R T n f)(t:aB R' w w')(hR:R≠R'):bh w' R T n f:=by
 unfold bh at h⊢;rw[t.block R hR];exact h
theorem bh.congr(h:bh w R T n f)(hg:∀i,i<n→f i=g i):bh w R T n g:=by
 unfold bh at h⊢;rw[h,yN (f:=f) (g:=g) (k:=0) (k':=0) (fun i hi=>by simpa using hg i hi)]
theorem bh.new(w:tA)(T n:Nat)(f:tD):bh (w.alloc (.cells (cE f 0 n).toArray T)) w.heap.size T n f:=AP w _
theorem bh.free(h:bh w R T n f)(o:Nat):w.frozen? ⟨R,o,none⟩=false:=by
 unfold bh at h;simp[World.frozen?,h]
theorem bh.at(h:bh w R T n f)(i:Nat)(hi:i<n):w.cell? ⟨R,i,none⟩=some (f i):=by
 unfold bh at h;simp only[World.cell?,h,List.getElem?_toArray];have:=bW f 0 n i hi;rw[Aj]at this;simpa using this
theorem bh.range(h:bh w R T n f)(k m:Nat)(hk:k+m≤n):w.rangeAt R k (cE f k m):=fun j v hv=>by
 have hj:j<m:=by
  have:=(Ap.1 hv).1;rwa [bR]at this
 rw[h.at (k+j) (by omega),←hv,bW f k m j hj]
theorem bh.there(h:bh w R T n f)(k m:Nat)(hk:k+m≤n):w.there R k m:=fun j hj=>by
 refine⟨?_,h.free _⟩;rw[h.at (k+j) (by omega)];rfl
theorem bh.put(h:bh w R T n f)(k m:Nat)(g:tD)(hk:k+m≤n):bh (w.setCells R k (cE g 0 m)) R T n (gh f k m g):=by
 obtain⟨QL,h1,h2,h3⟩:=jH (R:=R) (cE g 0 m) k w _ _ h (by simp[bR];omega);unfold bh;rw[h1];have:QL=(cE (gh f k m g) 0 n).toArray:=by
  apply Ca;intro i;rw[h3];simp only[bR,List.getElem?_toArray];by_cases hi:i<n
  ·rw[bW (gh f k m g) _ _ _ hi,Aj];by_cases hc:k≤i∧i<k+m
   ·rw[Ae hc,bW _ _ _ _ (by omega),Aj];simp only[gh,if_pos hc]
   ·rw[Aa hc,bW _ _ _ _ hi,Aj];simp only[gh,if_neg hc]
  ·rw[Aa (by omega),gL _ _ _ _ (by omega),gL _ _ _ _ (by omega)]
 rw[this]
theorem bh.set(h:bh w R T n f)(k:Nat)(v:tK)(hk:k<n):bh (w.setCell ⟨R,k,none⟩ v) R T n (oX f k v):=by
 have h1:=h.put k 1 (fun _=>v) (by omega);have e:w.setCells R k (cE (fun _=>v) 0 1)=w.setCell ⟨R,k,none⟩ v:=rfl;rw[e]at h1;refine h1.congr fun i _=> ?_;unfold gh oX;by_cases hi:i=k
 ·rw[Ae (by omega),Ae hi]
 ·rw[Aa (by omega),Aa hi]
end
section
variable{P:tY}{ops:tP}{rest:List Oper}{o:Oper}{a:Act}{Q:tI}{w w':tA}{R T n:Nat}{f:tD}
theorem He(t:tZ)(d:TypeDesc)(k m:Nat)(g:tD)(x:tU)(ho:o.op= .load t x)(hw:Region.wanted o (yielded ops a.tmps)=true)(hx:a.eval x= .pointer (some ⟨R,k,none⟩))(fb:bh w R T n f)(hk:k+m≤n)
  (hu:P.underlying t=some d) (hd:d.isRow=true) (hi:(P.info? t).map (·.size)=some m) (hg:∀i,i<m→f (k+i)=g i)
  (h:wpList P ops Q rest (a.put o.dst (vF g m)) w):wpList P ops Q (o::rest) a w:=
 Bz fun K hK=>by
  rw[Ae hw];have e:cE f k m=cE g 0 m:=yN (fun i hi=>by rw[Aj];exact hg i hi);exact wp_load_mid t x ho R k hx (cE g 0 m) d (e▸fb.range k m hk) hu hd (by rw[bR];exact hi) (hK _ _ h)
theorem Eb(t:tZ)(k m:Nat)(g:tD)(x y:tU)(ho:o.op= .store t x y)(hw:Region.wanted o (yielded ops a.tmps)=true)(hx:a.eval x= .pointer (some ⟨R,k,none⟩))(hy:a.eval y=vF g m)(fb:bh w R T n f)(hk:k+m≤n)
  (hi:(P.info? t).map (·.size)=some m) (h1:aW g m)
  (h:∀w',bh w' R T n (gh f k m g)→aB R w w'→wpList P ops Q rest (a.put o.dst undef) w'):wpList P ops Q (o::rest) a w:=
 Bz fun K hK=>by
  rw[Ae hw];refine wp_store_mid t x y ho R k _ hx hy ?_ ?_ h1.all (hK _ _ (h _ ?_ (aB.uu R _ k w)))
  ·simpa[bR]using fb.there k m hk
  ·simpa[bR]using hi
  ·simpa using fb.put k m g hk
theorem Q3(t:tZ)(m:Nat)(g:tD)(x:tU)(ho:o.op= .box t x)(hw:Region.wanted o (yielded ops a.tmps)=true)(hx:a.eval x=vF g m)
  (h:∀w',bh w' w.heap.size t m g→bZ w w'→w'.heap.size=w.heap.size+1→wpList P ops Q rest (a.put o.dst (.pointer (some ⟨w.heap.size,0,none⟩))) w'):wpList P ops Q (o::rest) a w:=
 Bz fun K hK=>by
  rw[Ae hw];have:=hK _ _ (h _ (bh.new w t m g) (aC _ _) (by simp));unfold Oper.wp;simp only[execOp,ho,hx];simpa[go_sem]using this
end
section
variable{P:tY}{ops:tP}{Q:tI}{md:Region.Mode}{fx fl:tW}{E:World→World→Prop}
def fW(E:World→World→Prop)(fx fl:tW)(i:Nat)(w w':tA):Prop:=if fx.contains i then True else if fl.contains i then E w w' else w'=w
def Dy(P:tY)(md:Region.Mode)(ops:tP)(Q:tI)(E:World→World→Prop)(fx fl:tW):Nat→Array Bool→Act→World→Prop
 |0,listed,a,w=>Region.ready md ops listed=[]∧Q .normal a w
 |n+1,listed,a,w=>(Region.ready md ops listed=[]→Q .normal a w)∧
  ∀i∈Region.ready md ops listed,wpOp P ops Q i (fun a' w'=>fW E fx fl i w w'∧Dy P md ops Q E fx fl n (listed.setIfInBounds i true) a' w') a w
theorem Hf:∀(n:Nat) (listed:Array Bool) (a:Act) (w:tA),Dy P md ops Q E fx fl n listed a w→wpAny P md ops Q n listed a w
 |0,_,_,_,h=>h
 |n+1,_,_,_,h=>⟨h.1,fun i hi=>wpOp_mono (fun a' w' h'=>Hf n _ a' w' h'.2) (h.2 i hi)⟩
def uv(md:Region.Mode)(ops:tP)(listed:Array Bool):Prop:=
 ∀j o,ops[j]? =some o→listed.getD j false=true→∀e∈o.after,Region.binds md e=true→listed.getD e.on false=true
theorem pR{l:Array Bool}{j:Nat}(h:l.getD j true=false):j<l.size∧l.getD j false=false:=by
 rcases AG j l.size with h'|h'
 ·refine⟨h', ?_⟩;simp[h']at h⊢;exact h
 ·simp[Array.getElem?_eq_none h']at h
theorem uv.step{listed:Array Bool}{j:Nat}(h:uv md ops listed)(hj:j∈Region.ready md ops listed):uv md ops (listed.setIfInBounds j true):=by
 intro k o ho hk e he hb;obtain⟨_,oj,hoj,kM⟩:=mem_ready.1 hj;by_cases hjk:j=k
 ·subst hjk;rw[ho]at hoj;cases hoj;exact getD_set_true (kM e he hb)
 ·rw[getD_set_ne false hjk]at hk;exact getD_set_true (h k o ho hk e he hb)
theorem uv.start(n:Nat):uv md ops (Array.replicate n false):=by
 intro j o _ hj;exfalso;rcases AG j n with h'|h'
 ·simp[h']at hj
 ·simp[Nat.not_lt.2 h']at hj
def sK(md:Region.Mode)(ops:tP):Nat→Nat→Nat→Bool
 |0,_,_=>false
 |n+1,j,i=>match ops[j]? with
  |none=>false
  |some o=>o.after.any fun e=>Region.binds md e&&(e.on==i||sK md ops n e.on i)
theorem uw{listed:Array Bool}(hd:uv md ops listed){i:Nat}:∀(n j:Nat) (o:Oper),ops[j]? =some o→(∀e∈o.after,Region.binds md e=true→listed.getD e.on false=true)→sK md ops n j i=true→listed.getD i false=true
 |0,_,_,_,_,h=>by simp[sK]at h
 |n+1,j,o,ho,kM,h=>by
  simp only[sK,ho]at h;obtain⟨e,he,h⟩:=Array.any_eq_true'.1 h;simp only[Bool.and_eq_true,Bool.or_eq_true,beq_iff_eq]at h;obtain⟨hb,rfl|hw⟩:=h
  ·exact kM e he hb
  ·cases hk:ops[e.on]? with
   |none=>cases n<;>simp[sK,hk]at hw
   |some ok=>exact uw hd n e.on ok hk (hd e.on ok hk (kM e he hb)) hw
theorem Kh(Fo:∀w,E w w)(Mk:∀w w1 w2,E w w1→E w1 w2→E w w2){i:Nat}{oi:Oper}{v:tK}(hi:ops[i]? =some oi)(rU:∀(j:Nat) (o:Oper) cs b,ops[j]? =some o→o.op≠ .select cs b)(sL:fx.contains i=false)(Zg:fl.contains i=false)
  (hQ:∀c a w,Q (.panic c) (a.put oi.dst v) w→Q (.panic c) a w):
  ∀(fuel:Nat) (listed:Array Bool) (a:Act) (w:tA),uv md ops listed→
   (∀j oj,ops[j]? =some oj→j≠i→listed.getD j true=false→(∀e∈oj.after,Region.binds md e=true→e.on≠i)→oi.apart ops oj=true)→
   (∀j,listed.getD j true=false→fx.contains j=true→sK md ops ops.size j i=true)→
   i∈Region.ready md ops listed→YieldsIf P ops (E w) oi v a→
   Dy P md ops Q E fx fl fuel (listed.setIfInBounds i true) (a.put oi.dst v) w→Dy P md ops Q E fx fl (fuel+1) listed a w:=by
 have still:∀w,fW E fx fl i w w:=fun w=>by
  unfold fW;rw[sL,Zg];rfl
 intro fuel
 induction fuel with
 |zero=>
  intro listed a w _ _ _ hr hy H;refine⟨fun h=>(by rw[h]at hr;cases hr),fun j hj=> ?_⟩;by_cases hji:j=i
  ·subst hji;exact hy.wpOp hi (Fo w) ⟨still w,H⟩
  ·have:=ready_mono hj hji;rw[H.1]at this;cases this
 |succ fuel ih=>
  intro listed a w Ki hfree hlate hr hy H;refine⟨fun h=>(by rw[h]at hr;cases hr),fun j hj=> ?_⟩;by_cases hji:j=i
  ·subst hji;exact hy.wpOp hi (Fo w) ⟨still w,H⟩
  ·have h1:=H.2 j (ready_mono hj hji);obtain⟨hjun,oj,hoj,kM⟩:=mem_ready.1 hj;have Zh:=(pR (mem_ready.1 hr).1).2;have hq:fx.contains j=false:=by
    cases hq:fx.contains j with
    |false=>rfl
    |true=>
     have:=uw Ki _ j oj hoj kM (hlate j hjun hq);rw[Zh]at this;cases this
   have Zi:∀e∈oj.after,Region.binds md e=true→e.on≠i:=fun e he hb heq=>by
    have h1:=kM e he hb;rw[heq,Zh]at h1;cases h1
   have h2:=wpOp_putIf hoj (hfree j oj hoj hji hjun Zi) (fun cs b=>rU i oi cs b hi) (fun cs b=>rU j oj cs b hoj) hQ hy h1;have hun:∀k,(listed.setIfInBounds j true).getD k true=false→listed.getD k true=false:=fun k hk=>by
    by_cases hjk:j=k
    ·subst hjk;exact hjun
    ·rw[getD_set_ne true hjk]at hk;exact hk
   refine wpOp_mono (fun a' w' h3=> ?_) h2;obtain⟨hy',hT,hG⟩:=h3;have hww:E w w':=by
    unfold fW at hT;rw[hq]at hT;cases hl:fl.contains j with
    |true=>rw[hl]at hT;exact hT
    |false=>rw[hl]at hT;have hT:w'=w:=hT;rw[hT];exact Fo w
   refine⟨hT,ih (listed.setIfInBounds j true) a' w' (Ki.step hj) (fun k ok hk J4 hu QM=>hfree k ok hk J4 (hun k hu) QM) (fun k hu hk=>hlate k (hun k hu) hk) (ready_mono hr (Ne.symm hji)) ?_ ?_⟩
   ·rcases hy' with⟨h1,h2⟩|h1
    ·exact .inl ⟨h1,fun u hu=>h2 u (Mk _ _ _ hww hu)⟩
    ·exact .inr h1
   ·rw[Array.setIfInBounds_comm _ _ hji];exact hG
theorem N0{i:Nat}{oi:Oper}{v:tK}(hi:ops[i]? =some oi)(rU:∀(j:Nat) (o:Oper) cs b,ops[j]? =some o→o.op≠ .select cs b)(sL:fx.contains i=false)(Zg:fl.contains i=false)
  (hQ:∀c a w,Q (.panic c) (a.put oi.dst v) w→Q (.panic c) a w):
  ∀(fuel:Nat) (listed:Array Bool) (a:Act) (w:tA),
   (∀j oj,ops[j]? =some oj→j≠i→listed.getD j true=false→(∀e∈oj.after,Region.binds md e=true→e.on≠i)→oi.apart ops oj=true)→
   i∈Region.ready md ops listed→Yields P ops oi v a→
   Dy P md ops Q E fx fl fuel (listed.setIfInBounds i true) (a.put oi.dst v) w→Dy P md ops Q E fx fl (fuel+1) listed a w:=by
 have still:∀w,fW E fx fl i w w:=fun w=>by
  unfold fW;rw[sL,Zg];rfl
 intro fuel
 induction fuel with
 |zero=>
  intro listed a w _ hr hy H;refine⟨fun h=>(by rw[h]at hr;cases hr),fun j hj=> ?_⟩;by_cases hji:j=i
  ·subst hji;exact hy.wpOp hi ⟨still w,H⟩
  ·have:=ready_mono hj hji;rw[H.1]at this;cases this
 |succ fuel ih=>
  intro listed a w hfree hr hy H;refine⟨fun h=>(by rw[h]at hr;cases hr),fun j hj=> ?_⟩;by_cases hji:j=i
  ·subst hji;exact hy.wpOp hi ⟨still w,H⟩
  ·have h1:=H.2 j (ready_mono hj hji);obtain⟨hjun,oj,hoj,kM⟩:=mem_ready.1 hj;have Zh:=(pR (mem_ready.1 hr).1).2;have Zi:∀e∈oj.after,Region.binds md e=true→e.on≠i:=fun e he hb heq=>by
    have h1:=kM e he hb;rw[heq,Zh]at h1;cases h1
   have h2:=wpOp_put hoj (hfree j oj hoj hji hjun Zi) (fun cs b=>rU i oi cs b hi) (fun cs b=>rU j oj cs b hoj) hQ hy h1;have hun:∀k,(listed.setIfInBounds j true).getD k true=false→listed.getD k true=false:=fun k hk=>by
    by_cases hjk:j=k
    ·subst hjk;exact hjun
    ·rw[getD_set_ne true hjk]at hk;exact hk
   refine wpOp_mono (fun a' w' h3=> ?_) h2;obtain⟨hy',hT,hG⟩:=h3;refine⟨hT,ih (listed.setIfInBounds j true) a' w' (fun k ok hk J4 hu QM=>hfree k ok hk J4 (hun k hu) QM) (ready_mono hr (Ne.symm hji)) hy' ?_⟩;rw[Array.setIfInBounds_comm _ _ hji];exact hG
inductive Ord where
 |nil
 |rd (i:Nat) (t:Ord)
 |pu (i:Nat) (t:Ord)
 |ef (i:Nat) (t:Ord)
 |fk (i j:Nat) (s t:Ord)
 |f3 (i j k:Nat) (s t u:Ord)
def Ord.len:Ord→Nat
 | .nil=>0
 | .rd _ t=>t.len+1
 | .pu _ t=>t.len+1
 | .ef _ t=>t.len+1
 | .fk _ _ s _=>s.len+1
 | .f3 _ _ _ s _ _=>s.len+1
def lV(P:tY)(ops:tP)(Q:tI)(E:World→World→Prop)(fx fl:tW):Ord→Act→World→Prop
 | .nil,a,w=>Q .normal a w
 | .rd i t,a,w=>∃o v,ops[i]? =some o∧YieldsIf P ops (E w) o v a∧lV P ops Q E fx fl t (a.put o.dst v) w
 | .pu i t,a,w=>∃o v,ops[i]? =some o∧Yields P ops o v a∧lV P ops Q E fx fl t (a.put o.dst v) w
 | .ef i t,a,w=>wpOp P ops Q i (fun a' w'=>fW E fx fl i w w'∧lV P ops Q E fx fl t a' w') a w
 | .fk i j s t,a,w=>wpOp P ops Q i (fun a' w'=>fW E fx fl i w w'∧lV P ops Q E fx fl s a' w') a w∧wpOp P ops Q j (fun a' w'=>fW E fx fl j w w'∧lV P ops Q E fx fl t a' w') a w
 | .f3 i j k s t u,a,w=>wpOp P ops Q i (fun a' w'=>fW E fx fl i w w'∧lV P ops Q E fx fl s a' w') a w∧wpOp P ops Q j (fun a' w'=>fW E fx fl j w w'∧lV P ops Q E fx fl t a' w') a w∧wpOp P ops Q k (fun a' w'=>fW E fx fl k w w'∧lV P ops Q E fx fl u a' w') a w
def kN(md:Region.Mode)(ops:tP)(fx fl:tW):Ord→Array Bool→Bool
 | .nil,listed=>(Region.ready md ops listed).isEmpty
 | .rd i t,listed=>(Region.ready md ops listed).contains i&&Region.free md ops listed i&&fx.all (fun j=>listed.getD j true||sK md ops ops.size j i)&& !fx.contains i&& !fl.contains i&&kN md ops fx fl t (listed.setIfInBounds i true)
 | .pu i t,listed=>(Region.ready md ops listed).contains i&&Region.free md ops listed i&& !fx.contains i&& !fl.contains i&&kN md ops fx fl t (listed.setIfInBounds i true)
 | .ef i t,listed=>(Region.ready md ops listed==[i])&&kN md ops fx fl t (listed.setIfInBounds i true)
 | .fk i j s t,listed=>(Region.ready md ops listed==[i,j])&&(s.len==t.len)&&kN md ops fx fl s (listed.setIfInBounds i true)&&kN md ops fx fl t (listed.setIfInBounds j true)
 | .f3 i j k s t u,listed=>(Region.ready md ops listed==[i,j,k])&&(s.len==t.len)&&(s.len==u.len)&&kN md ops fx fl s (listed.setIfInBounds i true)&&kN md ops fx fl t (listed.setIfInBounds j true)&&kN md ops fx fl u (listed.setIfInBounds k true)
theorem fp(Fo:∀w,E w w)(Mk:∀w w1 w2,E w w1→E w1 w2→E w w2)(rU:Region.noSelect ops=true)(hQ:∀c a d v w,Q (.panic c) (a.put d v) w→Q (.panic c) a w):∀(σ:Ord) (listed:Array Bool) (a:Act) (w:tA),
  uv md ops listed→kN md ops fx fl σ listed=true→lV P ops Q E fx fl σ a w→Dy P md ops Q E fx fl σ.len listed a w
 | .nil,listed,a,w,_,hc,h=>⟨by simpa[kN]using hc,h⟩
 | .rd i t,listed,a,w,hd,hc,h=>by
  simp only[kN,Bool.and_eq_true]at hc;obtain⟨⟨⟨⟨⟨hr,hf⟩,hl⟩,hn⟩,pS⟩,hc⟩:=hc;obtain⟨o,v,ho,hy,h⟩:=h;have hr:i∈Region.ready md ops listed:=by simpa using hr
  refine Kh Fo Mk ho (Region.noSelect_spec rU) (by simpa using hn) (by simpa using pS) (fun c a w=>hQ c a _ _ w) _ listed a w hd (Region.free_spec ho hf) (fun j hu hq=> ?_) hr hy (fp Fo Mk rU hQ t _ _ _ (hd.step hr) hc h);have hj:j∈fx:=by simpa using hq
  have:=List.all_eq_true.1 hl j hj;rw[hu]at this;simpa using this
 | .pu i t,listed,a,w,hd,hc,h=>by
  simp only[kN,Bool.and_eq_true]at hc;obtain⟨⟨⟨⟨hr,hf⟩,hn⟩,pS⟩,hc⟩:=hc;obtain⟨o,v,ho,hy,h⟩:=h;have hr:i∈Region.ready md ops listed:=by simpa using hr
  exact N0 ho (Region.noSelect_spec rU) (by simpa using hn) (by simpa using pS) (fun c a w=>hQ c a _ _ w) _ listed a w (Region.free_spec ho hf) hr hy (fp Fo Mk rU hQ t _ _ _ (hd.step hr) hc h)
 | .ef i t,listed,a,w,hd,hc,h=>by
  simp only[kN,Bool.and_eq_true,beq_iff_eq]at hc;obtain⟨hr,hc⟩:=hc;have hi:i∈Region.ready md ops listed:=by rw[hr];simp
  refine⟨fun h0=>(by rw[h0]at hr;cases hr),fun j hj=> ?_⟩;rw[hr,Ab]at hj;subst hj;exact wpOp_mono (fun a' w' h'=>⟨h'.1,fp Fo Mk rU hQ t _ _ _ (hd.step hi) hc h'.2⟩) h
 | .fk i j s t,listed,a,w,hd,hc,h=>by
  simp only[kN,Bool.and_eq_true,beq_iff_eq]at hc;obtain⟨⟨⟨hr,hlen⟩,hc⟩,hc'⟩:=hc;have hi:i∈Region.ready md ops listed:=by rw[hr];simp
  have hj:j∈Region.ready md ops listed:=by rw[hr];simp
  refine⟨fun h0=>(by rw[h0]at hr;cases hr),fun k hk=> ?_⟩;rw[hr]at hk;simp only[List.mem_cons,List.not_mem_nil,or_false]at hk;rcases hk with rfl|rfl
  ·exact wpOp_mono (fun a' w' h'=>⟨h'.1,fp Fo Mk rU hQ s _ _ _ (hd.step hi) hc h'.2⟩) h.1
  ·refine wpOp_mono (fun a' w' h'=>⟨h'.1, ?_⟩) h.2;show Dy P md ops Q E fx fl s.len _ a' w';rw[hlen];exact fp Fo Mk rU hQ t _ _ _ (hd.step hj) hc' h'.2
 | .f3 i j k s t u,listed,a,w,hd,hc,h=>by
  simp only[kN,Bool.and_eq_true,beq_iff_eq]at hc;obtain⟨⟨⟨⟨⟨hr,hlen⟩,Hg⟩,hc⟩,hc'⟩,hc''⟩:=hc;have hi:i∈Region.ready md ops listed:=by rw[hr];simp
  have hj:j∈Region.ready md ops listed:=by rw[hr];simp
  have hk:k∈Region.ready md ops listed:=by rw[hr];simp
  refine⟨fun h0=>(by rw[h0]at hr;cases hr),fun x hx=> ?_⟩;rw[hr]at hx;simp only[List.mem_cons,List.not_mem_nil,or_false]at hx;rcases hx with rfl|rfl|rfl
  ·exact wpOp_mono (fun a' w' h'=>⟨h'.1,fp Fo Mk rU hQ s _ _ _ (hd.step hi) hc h'.2⟩) h.1
  ·refine wpOp_mono (fun a' w' h'=>⟨h'.1, ?_⟩) h.2.1;show Dy P md ops Q E fx fl s.len _ a' w';rw[hlen];exact fp Fo Mk rU hQ t _ _ _ (hd.step hj) hc' h'.2
  ·refine wpOp_mono (fun a' w' h'=>⟨h'.1, ?_⟩) h.2.2;show Dy P md ops Q E fx fl s.len _ a' w';rw[Hg];exact fp Fo Mk rU hQ u _ _ _ (hd.step hk) hc'' h'.2
theorem Dz{id:Nat}{a:Act}{w:tA}(hm:P.follows .mixedOrders=true)(σ:Ord)(Fo:∀w,E w w)(Mk:∀w w1 w2,E w w1→E w1 w2→E w w2)
  (hc:(σ.len==ops.size&&Region.noSelect ops&&kN .any ops fx fl σ (Array.replicate ops.size false))=true) (hQ:∀c a d v w,Q (.panic c) (a.put d v) w→Q (.panic c) a w)
  (h:lV P ops Q E fx fl σ a w.drew):(Code.region id ops true).wp P Q a w:=by
 simp only[Bool.and_eq_true,beq_iff_eq]at hc;obtain⟨⟨hl,hs⟩,hc⟩:=hc;refine wp_region_any hm (Hf (E:=E) (fx:=fx) (fl:=fl) _ _ _ _ ?_);have hG:=fp Fo Mk hs hQ σ _ a _ (uv.start _) hc h;rw[hl]at hG;exact hG
variable{a:Act}{w:tA}{t:Ord}{i:Nat}{o:Oper}
end
def ly(n:Nat)(f:tD):Array Value:=((List.range n).map f).toArray
def up(f:tD)(d:Nat)(v:tK):Nat→Value:=fun i=>cond (Nat.beq i d) v (f i)
def upo(f:tD):Option Nat→Value→(Nat→Value)
 |some d,v=>up f d v
 |none,_=>f
def ev(f:tD):Operand→Value
 | .tmp t=>f t
 | .const v=>v
 | .global g=> .pointer (some ⟨g,0,none⟩)
 | .func g=> .func (.func g) #[] #[]
def N2(vs:tM):Nat→Value
 |i=>vs.getD i undef
theorem yO(n:Nat)(f:tD):(ly n f).size=n:=by simp[ly]
theorem qi{n:Nat}{f:tD}{t:Nat}(h:t<n):(ly n f)[t]? =some (f t):=by simp[ly,h]
theorem Vv(n:Nat)(f:tD)(d:Nat)(v:tK):(ly n f).setIfInBounds d v=ly n (up f d v):=by
 apply Ca;intro i;by_cases hi:i<n
 ·rw[qi hi];by_cases hd:d=i
  ·subst hd;rw[Array.getElem?_setIfInBounds_self_of_lt (by rw[yO];exact hi)];have e:up f d v d=v:=by
    unfold up;rw[show Nat.beq d d=true from Nat.beq_refl d];rfl
   rw[e]
  ·rw[Array.getElem?_setIfInBounds_ne hd,qi hi];have e:up f d v i=f i:=by
    unfold up;cases hb:Nat.beq i d with
    |false=>rfl
    |true=>exact absurd (Bd hb).symm hd
   rw[e]
 ·rw[Bf (by simp[ly];omega),Bf (by rw[yO];omega)]
theorem nI(n:Nat)(f:tD)(d:Option Nat)(v:tK):(⟨ly n f,[]⟩:Act).put d v=⟨ly n (upo f d v),[]⟩:=by
 cases d with
 |none=>rfl
 |some d=>simp only[Act.put,Vv];rfl
def okX(n:Nat):Operand→Bool
 | .tmp t=>Nat.blt t n
 |_=>true
def Vw(n:Nat)(o:Oper):Bool:=(match o.op with| .select .. =>false|_=>true)&&o.op.operands.all (okX n)
def jq(n:Nat)(ops:tP):Bool:=ops.all (Vw n)
theorem nV{n:Nat}{ops:tP}{i:Nat}{o:Oper}(h:jq n ops=true)(ho:ops[i]? =some o):Vw n o=true:=Array.all_eq_true_iff_forall_mem.1 h o (Array.mem_of_getElem? ho)
theorem cR{a b:Nat}(h:Nat.ble a b=true):a≤b:=BK h
theorem Fp{n:Nat}{f:tD}{x:tU}(h:okX n x=true):(⟨ly n f,[]⟩:Act).eval x=ev f x:=by
 cases x with
 |tmp t=>
  have ht:t<n:=by simpa[okX,Nat.blt_eq]using h
  simp only[Act.eval,ev];rw[Cb,qi ht];rfl
 |_=>rfl
theorem ri{n:Nat}{f:tD}{o:Oper}(h:Vw n o=true):execOp (⟨ly n f,[]⟩:Act).eval o=execOp (ev f) o:=by
 simp only[Vw,Bool.and_eq_true]at h;refine execOp_congr o (fun cs b e=>by rw[e]at h;simp at h) (fun x hx=>Fp ?_);exact Array.all_eq_true_iff_forall_mem.1 h.2 x hx
theorem Vx(n:Nat)(vs:tM)(h:vs.length≤n):vs.toArray++Array.replicate (n-vs.toArray.size) undef=ly n (N2 vs):=by
 apply Ca;intro i;by_cases hi:i<n
 ·rw[qi hi];by_cases hv:i<vs.length
  ·rw[Array.getElem?_append_left (by simpa using hv)];simp[N2,hv]
  ·rw[Array.getElem?_append_right (by simpa using hv)];have e:N2 vs i=undef:=by
    unfold N2;rw[Aw,Be (by omega)];rfl
   rw[e,Array.getElem?_replicate,Ae (by simp;omega)]
 ·rw[Bf (by simp;omega),Bf (by rw[yO];omega)]
theorem Q4{P:tY}{f:FuncId}{fn:Func}{c:Code}{vs:tM}{w:tA}{R:Ending→World→Prop}(n:Nat)(hf:P.funcs[f]? =some fn)(hb:fn.body=some c)(hn:fn.ntmps=n)(hl:vs.length≤n)
  (h:c.wp P (bodyPost P fn R) ⟨ly n (N2 vs),[]⟩ w):Calls P f vs.toArray w R:=by
 refine calls_of_wp hf hb ?_;rw[hn,Vx n vs hl];exact h
structure dB(U:tF)(w w':tA):Prop where
 os:w'.os=w.os
 tape:w'.tape=w.tape
 output:w'.output=w.output
 size:w.heap.size≤w'.heap.size
 block:∀b,b<w.heap.size→¬U b→w'.heap[b]? =w.heap[b]?
theorem dB.below{U:tF}{w w':tA}(h:dB U w w'){B:Nat}(hB:B≤w.heap.size)(hU:∀b,b<B→¬U b):Below B w w':=⟨h.os,h.tape,h.output,h.size,fun b hb=>h.block b (by omega) (hU b hb)⟩
theorem dB.of{U:tF}{w w':tA}(h:bZ w w'):dB U w w':=⟨h.os,h.tape,h.output,h.size,fun b hb _=>h.block b hb⟩
theorem dB.trans{U V:tF}{w w1 w2:tA}(h:dB U w w1)(k:dB V w1 w2)(hV:∀b,b<w.heap.size→V b→U b):dB U w w2:=
 ⟨k.os.trans h.os,k.tape.trans h.tape,k.output.trans h.output,AN h.size k.size,fun b hb hu=>(k.block b (Am hb h.size) (fun hv=>hu (hV b hb hv))).trans (h.block b hb hu)⟩
structure bX where
 a:Nat
 t:TypeId
 n:Nat
 f:Nat→Value
structure Mem(w:tA)(H:List bX)(M:tF)(G R:tJ):Prop where
 g_:∀e∈H,bh w e.a e.t e.n e.f
 oY:∀(i j:Nat) (x y:bX),H[i]? =some x→H[j]? =some y→x.a=y.a→i=j
 off:∀e∈H,¬M e.a
 mlt:∀b,M b→b<w.heap.size
 g:∀w',dB (fun b=>b∈H.map bX.a∨M b) w w'→G w'
 r:∀w',dB (fun b=>b∈H.map bX.a) w w'→R w'
theorem Mem.start{w:tA}{M:tF}{G R:tJ}(hM:∀b,M b→b<w.heap.size)(hG:∀w',dB M w w'→G w')(hR:∀w',bZ w w'→R w'):Mem w [] M G R:=
 ⟨fun e he=>(by cases he),fun i j x y hi=>(by simp at hi),fun e he=>(by cases he),hM,fun w' h=>hG w' ⟨h.os,h.tape,h.output,h.size,fun b hb hm=>h.block b hb (fun h=>h.elim (fun h=>by cases h) hm)⟩,fun w' h=>hR w' (h.below (Ac _) (fun b _ h=>by cases h))⟩
section
variable{w w':tA}{H:List bX}{M:tF}{G R:tJ}
theorem Mem.lt(h:Mem w H M G R){b:Nat}(hb:b∈H.map bX.a):b<w.heap.size:=by
 obtain⟨e,he,rfl⟩:=Ay.1 hb;exact(h.g_ e he).lt
theorem Mem.now(h:Mem w H M G R):G w∧R w:=⟨h.g w ⟨rfl,rfl,rfl,Ac _,fun _ _ _=>rfl⟩,h.r w ⟨rfl,rfl,rfl,Ac _,fun _ _ _=>rfl⟩⟩
theorem Mem.next(h:Mem w H M G R)(hb:bZ w w'):Mem w' H M G R:=
 ⟨fun e he=>(h.g_ e he).next hb,h.oY,h.off,fun b hm=>Am (h.mlt b hm) hb.size,fun w2 h2=>h.g w2 ((dB.of hb).trans h2 fun _ _ h=>h),fun w2 h2=>h.r w2 ((dB.of hb).trans h2 fun _ _ h=>h)⟩
theorem Mem.more(h:Mem w H M G R)(hb:bZ w w'){t n:Nat}{f:tD}(hn:bh w' w.heap.size t n f):Mem w' (H++[⟨w.heap.size,t,n,f⟩]) M G R:=by
 have h1:=h.next hb;have key:∀b,b<w.heap.size→b∈(H++[(⟨w.heap.size,t,n,f⟩:bX)]).map bX.a→b∈H.map bX.a:=fun b hb hm=>by
  simp only[List.map_append,List.mem_append,List.map_cons,List.map_nil,List.mem_singleton]at hm;rcases hm with hm|rfl
  ·exact hm
  ·omega
 refine⟨fun e he=> ?_, ?_,fun e he=> ?_,h1.mlt,fun w2 h2=>h.g w2 ((dB.of hb).trans h2 fun b hb hm=>hm.imp (key b hb) id),fun w2 h2=>h.r w2 ((dB.of hb).trans h2 key)⟩
 ·rcases Ah.1 he with he|he
  ·exact h1.g_ e he
  ·rw[Ab.1 he];exact hn
 ·have oZ:∀i x,i<H.length→(H++[(⟨w.heap.size,t,n,f⟩:bX)])[i]? =some x→H[i]? =some x∧x.a<w.heap.size:=fun i x hi hx=>by
   rw[AZ hi]at hx;exact⟨hx,(h.g_ x (Ar hx)).lt⟩
  have new:∀i x,¬i<H.length→(H++[(⟨w.heap.size,t,n,f⟩:bX)])[i]? =some x→i=H.length∧x.a=w.heap.size:=fun i x hi hx=>by
   rw[AQ (by omega)]at hx;obtain⟨h1,h2⟩:=Ap.1 hx;simp at h1;refine⟨by omega, ?_⟩;rw[←h2];simp[h1]
  intro i j x y hx hy Fq;by_cases hi:i<H.length<;>by_cases hj:j<H.length
  ·exact h.oY i j x y (oZ i x hi hx).1 (oZ j y hj hy).1 Fq
  ·have:=(oZ i x hi hx).2;have:=(new j y hj hy).2;omega
  ·have:=(new i x hi hx).2;have:=(oZ j y hj hy).2;omega
  ·have:=(new i x hi hx).1;have:=(new j y hj hy).1;omega
 ·rcases Ah.1 he with he|he
  ·exact h.off e he
  ·rw[Ab.1 he];exact fun hm=>absurd (h.mlt _ hm) (Nat.lt_irrefl _)
theorem vS{l:List bX}{k:Nat}{e e':bX}(hk:l[k]? =some e)(ha:e'.a=e.a):(l.set k e').map bX.a=l.map bX.a:=by
 apply BH;intro i;simp only[List.getElem?_map,List.getElem?_set];by_cases hi:k=i
 ·subst hi;obtain⟨aN,he⟩:=Ap.1 hk;simp[aN,ha,he]
 ·simp[hi]
theorem Mem.turn(h:Mem w H M G R){k:Nat}{e:bX}(hk:H[k]? =some e)(ht:aB e.a w w'){f':tD}(hn:bh w' e.a e.t e.n f'):Mem w' (H.set k ⟨e.a,e.t,e.n,f'⟩) M G R:=by
 have hm:e∈H:=Ar hk;have ea:=vS (e':=⟨e.a,e.t,e.n,f'⟩) hk rfl;have ch:dB (fun b=>b∈H.map bX.a) w w':=⟨ht.os,ht.tape,ht.output,Cc ht.size.symm,fun b _ hb=>ht.block b (fun he=>hb (Ay.2 ⟨e,hm,he.symm⟩))⟩;refine⟨fun x hx=> ?_, ?_,fun x hx=> ?_,fun b hb=>by rw[ht.size];exact h.mlt b hb,fun w2 h2=> ?_,fun w2 h2=> ?_⟩
 ·obtain⟨i,hi⟩:=Cp hx;rw[List.getElem?_set]at hi;by_cases J4:k=i
  ·subst J4;rw[Ae rfl]at hi;split at hi
   ·cases hi;exact hn
   ·cases hi
  ·rw[Aa J4]at hi;refine(h.g_ x (Ar hi)).dR ht (fun he=> ?_);exact J4 (h.oY k i e x hk hi he.symm)
 ·have oZ:∀(i:Nat) (x:bX),(H.set k ⟨e.a,e.t,e.n,f'⟩)[i]? =some x→∃y,H[i]? =some y∧y.a=x.a:=fun i x hx=>by
   rw[List.getElem?_set]at hx;by_cases J4:k=i
   ·subst J4;rw[Ae rfl]at hx;split at hx
    ·cases hx;exact⟨e,hk,rfl⟩
    ·cases hx
   ·rw[Aa J4]at hx;exact⟨x,hx,rfl⟩
  intro i j x y hx hy Fq;obtain⟨x',hx',ex⟩:=oZ i x hx;obtain⟨y',hy',ey⟩:=oZ j y hy;exact h.oY i j x' y' hx' hy' (by rw[ex,ey,Fq])
 ·have:x.a∈(H.set k ⟨e.a,e.t,e.n,f'⟩).map bX.a:=Ay.2 ⟨x,hx,rfl⟩;rw[ea]at this;obtain⟨y,hy,hya⟩:=Ay.1 this;rw[←hya];exact h.off y hy
 ·rw[ea]at h2;refine h.g w2 (dB.trans (U:=fun b=>b∈H.map bX.a∨M b) ⟨ch.os,ch.tape,ch.output,ch.size,fun b hb hu=>ch.block b hb (fun h=>hu (.inl h))⟩ h2 fun _ _ h=>h)
 ·rw[ea]at h2;exact h.r w2 (ch.trans h2 fun _ _ h=>h)
theorem Mem.add(h:Mem w H M G R){φ:tJ}(hφ:∀w',dB (fun b=>b∈H.map bX.a∨M b) w w'→φ w'):Mem w H M (fun w=>G w∧φ w) R:=
 ⟨h.g_,h.oY,h.off,h.mlt,fun w' h'=>⟨h.g w' h',hφ w' h'⟩,h.r⟩
theorem Mem.take(h:Mem w H M G R)(k:Nat):Mem w (H.take k) M G R:=by
 have sub:∀b,b∈(H.take k).map bX.a→b∈H.map bX.a:=fun b hb=>by
  obtain⟨e,he,rfl⟩:=Ay.1 hb;exact Ay.2 ⟨e,AJ he,rfl⟩
 refine⟨fun e he=>h.g_ e (AJ he),fun i j x y hi hj=> ?_,fun e he=>h.off e (AJ he),h.mlt,fun w' c=>h.g w' ⟨c.os,c.tape,c.output,c.size,fun b hb hu=>c.block b hb fun hm=>hu (hm.imp (sub b) id)⟩,fun w' c=>h.r w' ⟨c.os,c.tape,c.output,c.size,fun b hb hu=>c.block b hb fun hm=>hu (sub b hm)⟩⟩;have oZ:∀(i:Nat) (x:bX),(H.take k)[i]? =some x→H[i]? =some x:=fun i x hx=>by
  rw[AO]at hx;split at hx
  ·exact hx
  ·cases hx
 exact h.oY i j x y (oZ i x hi) (oZ j y hj)
theorem sM(oY:∀(i j:Nat) (x y:bX),H[i]? =some x→H[j]? =some y→x.a=y.a→i=j):∀σ:List Nat,σ.Nodup→(σ.filterMap (H[·]?)).Pairwise (fun x y=>x.a≠y.a)
 |[],_=>List.Pairwise.nil
 |i::σ,hσ=>by
  obtain⟨h1,h2⟩:=List.nodup_cons.1 hσ;cases hx:H[i]? with
  |none=>rw[List.filterMap_cons_none (by simpa using hx)];exact sM oY σ h2
  |some x=>
   rw[List.filterMap_cons_some (b:=x) (by simpa using hx),List.pairwise_cons];refine⟨fun y hy he=> ?_,sM oY σ h2⟩;obtain⟨j,hj,hjy⟩:=List.mem_filterMap.1 hy;have:=oY i j x y hx hjy he;exact h1 (this▸hj)
theorem Mem.Kj(h:Mem w H M G R)(σ:tW)(hσ:σ.Nodup):Mem w (σ.filterMap (H[·]?)) M G R:=by
 have mem:∀e,e∈σ.filterMap (H[·]?)→e∈H:=fun e he=>by
  obtain⟨j,_,hj⟩:=List.mem_filterMap.1 he;exact Ar hj
 have sub:∀b,b∈(σ.filterMap (H[·]?)).map bX.a→b∈H.map bX.a:=fun b hb=>by
  obtain⟨e,he,rfl⟩:=Ay.1 hb;exact Ay.2 ⟨e,mem e he,rfl⟩
 refine⟨fun e he=>h.g_ e (mem e he),fun i j x y hi hj Fq=> ?_,fun e he=>h.off e (mem e he),h.mlt,fun w' c=>h.g w' ⟨c.os,c.tape,c.output,c.size,fun b hb hu=>c.block b hb fun hm=>hu (hm.imp (sub b) id)⟩,fun w' c=>h.r w' ⟨c.os,c.tape,c.output,c.size,fun b hb hu=>c.block b hb fun hm=>hu (sub b hm)⟩⟩;have hp:=BD.1 (sM h.oY σ hσ);obtain⟨li,rfl⟩:=Ap.1 hi;obtain⟨lj,rfl⟩:=Ap.1 hj;rcases Nat.lt_trichotomy i j with aN|heq|N3
 ·exact absurd Fq (hp i j li lj aN)
 ·exact heq
 ·exact absurd Fq.symm (hp j i lj li N3)
theorem Mem.said{G':tJ}(h:Mem w H M G R)(hg:∀w,G w→G' w):Mem w H M G' R:=⟨h.g_,h.oY,h.off,h.mlt,fun w' c=>hg w' (h.g w' c),h.r⟩
theorem Mem.congr(h:Mem w H M G R)(k:Nat){e:bX}(hk:H[k]? =some e)(f':tD)(hf:∀i,i<e.n→e.f i=f' i):Mem w (H.set k ⟨e.a,e.t,e.n,f'⟩) M G R:=
 h.turn hk (aB.refl e.a w) ((h.g_ e (Ar hk)).congr hf)
theorem Mem.at(h:Mem w H M G R)(k:Nat){e:bX}(hk:H[k]? =some e):bh w e.a e.t e.n e.f:=h.g_ e (Ar hk)
end
section
variable{P:tY}{ops:tP}{rest:List Oper}{o:Oper}{a:Act}{Q:tI}{w w':tA}
theorem ux{t:tZ}{v:tK}(h:(P.info? t).map (·.zero)=some (some v))(w:tA):(zeroValue t).run P w= .ok v w:=by
 cases hq:P.info? t with
 |none=>simp[hq]at h
 |some i=>
  have hs:i.zero=some v:=by simpa[hq]using h
  simp[zeroValue,typeInfo,Sem.run_bind,hq,hs]
theorem Hh(t:tZ)(m:Nat)(z:tD)(ho:o.op= .alloc t)(hw:Region.wanted o (yielded ops a.tmps)=true)(hz:(P.info? t).map (·.zero)=some (some (vF z m)))
  (h:∀w',bh w' w.heap.size t m z→bZ w w'→w'.heap.size=w.heap.size+1→wpList P ops Q rest (a.put o.dst (.pointer (some ⟨w.heap.size,0,none⟩))) w'):wpList P ops Q (o::rest) a w:=
 Bz fun K hK=>by
  rw[Ae hw];have:=hK _ _ (h _ (bh.new w t m z) (aC _ _) (by simp));unfold Oper.wp;simp only[execOp,ho];simpa[go_sem,ux hz]using this
theorem Ec(Z:tR)(off:Nat):∀(l:tM) (k:Nat),off+k+l.length≤Z.size→(List.foldl (fun(cs:tR) (x:Value×Nat)=>cs.setIfInBounds (off+x.2) x.1) Z (l.zipIdx k)).size=Z.size∧
  ∀i,(List.foldl (fun(cs:tR) (x:Value×Nat)=>cs.setIfInBounds (off+x.2) x.1) Z (l.zipIdx k))[i]? =if off+k≤i∧i<off+k+l.length then l[i-(off+k)]? else Z[i]?
 |[],k,_=>⟨rfl,fun i=>by rw[Aa (by simp)];rfl⟩
 |v::l,k,h=>by
  simp only[List.length_cons]at h;obtain⟨h1,h2⟩:=Ec (Z.setIfInBounds (off+k) v) off l (k+1) (by simp;omega);simp only[List.zipIdx_cons,List.foldl_cons];refine⟨by simpa using h1,fun i=> ?_⟩;rw[h2];by_cases ha:off+(k+1)≤i∧i<off+(k+1)+l.length
  ·rw[Ae ha,Ae ⟨by omega,by simp;omega⟩,show i-(off+k)=(i-(off+(k+1)))+1 by omega];rfl
  ·rw[Aa ha];by_cases hi:i=off+k
   ·subst hi;rw[Ae ⟨by omega,by simp⟩];simp[show off+k<Z.size by omega]
   ·rw[Aa (by simp;omega)];simp[show ¬off+k=i by omega]
theorem run_build{t:tZ}{fields:Array Go.Field}{places:Array (Nat×Nat)}{z g:tD}{n:Nat}{parts:Array (Nat×Value)}(hz:(P.info? t).map (·.zero)=some (some (vF z n)))(hu:P.underlying t=some (.struct fields))
  (hp:∀w,Sem.run P (Array.mapM (m:=Sem) (fun(f:Go.Field)=>do let s←sizeOf f.type;pure (f.offset,s)) fields) w= .ok places w) (hf:Instr.fill (places[·]?) (cE z 0 n).toArray parts.toList=some (cE g 0 n).toArray) (w:tA):(Instr.build t parts).run P w= .ok (vF g n) w:=by
 have hc:(vF z n).cells=(cE z 0 n).toArray:=rfl;simp only[Instr.build,Sem.run_bind,ux hz,Result.andThen_ok,run_underlying hu,hp,hc,hf,Sem.run_pure]
theorem Q5{t:tZ}{n:Nat}(parts:Array (Nat×Operand))(vs:Array (Nat×Value))(g:tD)(ho:o.op= .build t parts)(hw:Region.wanted o (yielded ops a.tmps)=true)(hv:(parts.map fun(i,x)=>(i,a.eval x))=vs)
  (hb:(Instr.build t vs).run P w= .ok (vF g n) w)
  (h:wpList P ops Q rest (a.put o.dst (vF g n)) w):wpList P ops Q (o::rest) a w:=
 Bz fun K hK=>by
  rw[Ae hw];have:=hK _ _ h;unfold Oper.wp;simp only[execOp,ho,hv,Sem.run_bind,hb,Result.andThen_ok,Sem.run_pure];exact this
end
abbrev Ed(V:tW):World→World→Prop:=fun w w'=>dB (fun b=>b∈V) w w'
theorem nv{a:Nat}:a∉([]:tW):=fun h=>by cases h
abbrev WF(P:tY)(ops:tP)(Q:tI)(V:tW)(fx fl:tW)(σ:Ord)(n:Nat)(f:tD)(w:tA):Prop:=lV P ops Q (Ed V) fx fl σ ⟨ly n f,[]⟩ w
def uy(P:tY)(s k:Nat):Option Nat:=
 match P.underlying s with
 |some (.struct fs)=>match fs[k]? with
  |some f=>match P.info? f.type with
   |some i=>if i.size=0 then none else some f.offset
   |none=>none
  |none=>none
 |_=>none
def Hi(P:tY)(t:Nat):Option (Nat×Nat):=
 match P.underlying t with
 |some (.array len e)=>(P.info? e).map fun i=>(len,i.size)
 |_=>none
def jr(P:tY)(t:Nat):Option Nat:=
 match P.underlying t with
 |some (.slice e)=>(P.info? e).map fun i=>i.size
 |_=>none
def pT(P:tY)(t:Nat):Bool:=
 match P.underlying t with
 |some (.struct _)|some (.array ..)=>false
 |some _=>(P.info? t).any fun i=>i.size==1
 |none=>false
def xl(P:tY)(t m:Nat):Bool:=
 match P.underlying t with
 |some (.struct _)|some (.array ..)=>(P.info? t).any fun i=>i.size==m
 |_=>false
theorem Ee{P:tY}{s k off:Nat}(h:uy P s k=some off)(b o:Nat)(w:tA):(Instr.fieldAt s (.pointer (some ⟨b,o,none⟩)) k).run P w= .ok (.pointer (some ⟨b,o+off,none⟩)) w:=by
 unfold uy at h;split at h
 ·rename_i fs hu;split at h
  ·rename_i f hf;split at h
   ·rename_i i hi;split at h
    ·cases h
    ·rename_i hs;cases h;simp[Instr.fieldAt,run_underlying hu,hf,Instr.sureAddr,fieldPlace,sizeOf,typeInfo,hi,hs,Addr.add_mid]
   ·cases h
  ·cases h
 ·cases h
theorem Fs{P:tY}{t len sz:Nat}(h:Hi P t=some (len,sz))(b o j:Nat)(hj:j<len)(w:tA):(Instr.indexAt t (.pointer (some ⟨b,o,none⟩)) (iV (j:Int))).run P w= .ok (.pointer (some ⟨b,o+j*sz,none⟩)) w:=by
 unfold Hi at h;split at h
 ·rename_i l e hu;cases hi:P.info? e with
  |none=>simp[hi]at h
  |some i=>
   simp[hi]at h;obtain⟨rfl,rfl⟩:=h;simp[Instr.indexAt,run_underlying hu,asIntOf,Instr.sureAddr,sizeOf,typeInfo,hi,Addr.add_mid];intro h3;omega
 ·cases h
theorem Vy{P:tY}{t sz:Nat}(h:jr P t=some sz)(b o len cap j:Nat)(hj:j<len)(w:tA):(Instr.indexAt t (.slice (some ⟨b,o,none⟩) len cap) (iV (j:Int))).run P w= .ok (.pointer (some ⟨b,o+j*sz,none⟩)) w:=by
 unfold jr at h;split at h
 ·rename_i e hu;cases hi:P.info? e with
  |none=>simp[hi]at h
  |some i=>
   simp[hi]at h;subst h;simp[Instr.indexAt,run_underlying hu,asIntOf,sizeOf,typeInfo,hi,Addr.add_mid];intro h3;omega
 ·cases h
theorem Ft{P:tY}{t:Nat}(h:pT P t=true){b o:Nat}{v:tK}{w:tA}(hc:w.cell? ⟨b,o,none⟩=some v):(Instr.loadAt t (.pointer (some ⟨b,o,none⟩))).run P w= .ok v w:=by
 unfold pT at h;split at h
 ·cases h
 ·cases h
 ·rename_i d h1 h2 hu;have:(isAgg t).run P w= .ok false w:=by
   simp only[isAgg,Sem.run_bind,run_underlying hu,Result.andThen_ok];cases d<;>first|exact absurd rfl (h1 _)|exact absurd rfl (h2 _ _)|rfl
  simp[Instr.loadAt,Instr.sureAddr,loadVar,this,hc]
 ·cases h
theorem Q6{P:tY}{t:Nat}(h:pT P t=true):(P.info? t).map (·.size)=some 1:=by
 unfold pT at h;split at h
 ·cases h
 ·cases h
 ·cases hi:P.info? t with
  |none=>simp[hi]at h
  |some i=>simpa[hi]using h
 ·cases h
theorem sN{P:tY}{t m:Nat}(h:xl P t m=true):∃d,P.underlying t=some d∧d.isRow=true∧(P.info? t).map (·.size)=some m:=by
 unfold xl at h;split at h
 ·rename_i fs hu;refine⟨_,hu,rfl, ?_⟩;cases hi:P.info? t with
  |none=>simp[hi]at h
  |some i=>simpa[hi]using h
 ·rename_i n e hu;refine⟨_,hu,rfl, ?_⟩;cases hi:P.info? t with
  |none=>simp[hi]at h
  |some i=>simpa[hi]using h
 ·cases h
theorem yP{α β:Type}(g:α→β)(xs:Array α):xs.map g=(xs.toList.map g).toArray:=by
 apply Array.ext';simp
theorem bh.Fu{w w':tA}{R T n:Nat}{f:tD}{V:tW}(h:bh w R T n f)(c:dB (fun b=>b∈V) w w')(hV:R∉V):bh w' R T n f:=by
 unfold bh at h⊢;rw[←h];exact c.block R (bh.lt (f:=f) (T:=T) (n:=n) h) hV
section
variable{P:tY}{ops:tP}{Q:tI}{V:tW}{fx fl:tW}{n:Nat}{f:tD}{w:tA}{i:Nat}{t:Ord}{o:Oper}{d:Nat}
theorem nl(h:Q .normal ⟨ly n f,[]⟩ w):WF P ops Q V fx fl .nil n f w:=h
theorem Q7{v:tK}(ho:ops[i]? =some o)(hd:o.dst=some d)(hw:Region.wanted o (yielded ops (ly n f))=true)(hK:jq n ops=true)(hv:∀w',Ed V w w'→(execOp (ev f) o).run P w'= .ok (.value v) w')
  (h:WF P ops Q V fx fl t n (up f d v) w):WF P ops Q V fx fl (.rd i t) n f w:=by
 refine⟨o,v,ho,.inl ⟨hw,fun w' hb=> ?_⟩, ?_⟩
 ·rw[ri (nV hK ho)];exact hv w' hb
 ·rw[nI,hd];exact h
theorem Ef{v:tK}(ho:ops[i]? =some o)(hd:o.dst=some d)(hw:Region.wanted o (yielded ops (ly n f))=true)(hK:jq n ops=true)(hv:∀w',(execOp (ev f) o).run P w'= .ok (.value v) w')
  (h:WF P ops Q V fx fl t n (up f d v) w):WF P ops Q V fx fl (.pu i t) n f w:=by
 refine⟨o,v,ho,.inl ⟨hw,fun w'=> ?_⟩, ?_⟩
 ·rw[ri (nV hK ho)];exact hv w'
 ·rw[nI,hd];exact h
theorem aex(ho:ops[i]? =some o)(hd:o.dst=some d)(hw:Region.wanted o (yielded ops (ly n f))=false)(h:WF P ops Q V fx fl t n (up f d undef) w):WF P ops Q V fx fl (.pu i t) n f w:=by
 refine⟨o,undef,ho,.inr ⟨hw,rfl⟩, ?_⟩;rw[nI,hd];exact h
theorem aey(ho:ops[i]? =some o)(hd:o.dst=some d)(hw:Region.wanted o (yielded ops (ly n f))=false)(h:WF P ops Q V fx fl t n (up f d undef) w):WF P ops Q V fx fl (.rd i t) n f w:=by
 refine⟨o,undef,ho,.inr ⟨hw,rfl⟩, ?_⟩;rw[nI,hd];exact h
def sO:BinOp→Int→Int→Option Bool
 | .eql,a,b=>some (a==b)
 | .neq,a,b=>some (a !=b)
 | .lss,a,b=>some (a<b)
 | .leq,a,b=>some (a≤b)
 | .gtr,a,b=>some (a>b)
 | .geq,a,b=>some (a≥b)
 |_,_,_=>none
theorem eqT{a b:Int}(h:a=b):sO .eql a b=some true:=AB some (beq_iff_eq.2 h)
theorem eqF{a b:Int}(h:¬a=b):sO .eql a b=some false:=AB some (beq_eq_false_iff_ne.2 h)
theorem neT{a b:Int}(h:¬a=b):sO .neq a b=some true:=AB some (bne_iff_ne.2 h)
theorem neF{a b:Int}(h:a=b):sO .neq a b=some false:=AB some (by subst h;exact bne_self_eq_false a)
theorem Ml{a b:Int}(h:a<b):sO .lss a b=some true:=AB some (As h)
theorem ltF{a b:Int}(h:¬a<b):sO .lss a b=some false:=AB some (Ak h)
theorem gtT{a b:Int}(h:b<a):sO .gtr a b=some true:=AB some (As h)
theorem gtF{a b:Int}(h:¬b<a):sO .gtr a b=some false:=AB some (Ak h)
theorem geT{a b:Int}(h:b≤a):sO .geq a b=some true:=AB some (As h)
theorem geF{a b:Int}(h:¬b≤a):sO .geq a b=some false:=AB some (Ak h)
def gO(a:tB)(l sz cap:Nat):Option Addr:=if cap=l then a else a.map (·.add (l*sz))
theorem N4{P:tY}{s sz:Nat}(hf:jr P s=some sz)(a:tB)(len cap l h:Nat)(hl:l≤h)(hh:h≤cap)(w:tA):
  (Instr.sliceAt s (.slice a len cap) (some (iV (l:Int))) (some (iV (h:Int))) none).run P w= .ok (.slice (gO a l sz cap) (h-l) (cap-l)) w:=by
 unfold jr at hf;split at hf
 ·rename_i e hu;cases hi:P.info? e with
  |none=>simp[hi]at hf
  |some i=>
   simp[hi]at hf;subst hf;simp[Instr.sliceAt,Instr.slice,run_underlying hu,Instr.sliceBounds,Instr.sliceBound,asIntOf,sizeOf,typeInfo,hi,hl,hh,gO]
 ·cases hf
theorem Fv{P:tY}{s sz:Nat}(hf:jr P s=some sz)(a:tB)(len cap l:Nat)(hl:l≤len)(w:tA):
  (Instr.sliceAt s (.slice a len cap) (some (iV (l:Int))) none none).run P w= .ok (.slice (gO a l sz cap) (len-l) (cap-l)) w:=by
 unfold jr at hf;split at hf
 ·rename_i e hu;cases hi:P.info? e with
  |none=>simp[hi]at hf
  |some i=>
   simp[hi]at hf;subst hf;simp[Instr.sliceAt,Instr.slice,run_underlying hu,Instr.sliceBounds,Instr.sliceBound,asIntOf,sizeOf,typeInfo,hi,hl,gO]
 ·cases hf
theorem N5(a:tB)(sz cap:Nat):gO a 0 sz cap=a:=by
 unfold gO;split
 ·rfl
 ·cases a<;>simp[Addr.add]
theorem Fw{P:tY}{s sz:Nat}(hf:jr P s=some sz)(a:tB)(len cap h:Nat)(hh:h≤cap)(w:tA):
  (Instr.sliceAt s (.slice a len cap) none (some (iV (h:Int))) none).run P w= .ok (.slice a h cap) w:=by
 have e:=N5 a sz cap;unfold gO at e;unfold jr at hf;split at hf
 ·rename_i e' hu;cases hi:P.info? e' with
  |none=>simp[hi]at hf
  |some i=>
   simp[hi]at hf;subst hf;simp only[Nat.zero_mul]at e;simp[Instr.sliceAt,Instr.slice,run_underlying hu,Instr.sliceBounds,Instr.sliceBound,asIntOf,sizeOf,typeInfo,hi,hh,e]
 ·cases hf
theorem Mm{w1:tA}(hx:(fx.contains i||fl.contains i)=true)(hb:bZ w w1):fW (Ed V) fx fl i w w1:=by
 unfold fW;cases h:fx.contains i with
 |true=>trivial
 |false=>
  rw[h]at hx;have hx:fl.contains i=true:=by simpa using hx
  rw[hx];exact dB.of hb
theorem gq{w1:tA}(hx:fx.contains i=true):fW (Ed V) fx fl i w w1:=by
 unfold fW;rw[hx];trivial
theorem o4{v:tK}{w1:tA}(ho:ops[i]? =some o)(hd:o.dst=some d)(hw:Region.wanted o (yielded ops (ly n f))=true)(hK:jq n ops=true)(hr:(execOp (ev f) o).run P w= .ok (.value v) w1)(ht:fW (Ed V) fx fl i w w1)(h:WF P ops Q V fx fl t n (up f d v) w1):WF P ops Q V fx fl (.ef i t) n f w:=by
 show wpOp P ops Q i _ _ w;unfold wpOp;simp only[ho,hw,if_true];refine .inl ?_;unfold Oper.wp;rw[ri (nV hK ho),hr,Oper.upon_value,nI,hd];exact⟨ht,h⟩
theorem rj{w1:tA}(ho:ops[i]? =some o)(hd:o.dst=none)(hw:Region.wanted o (yielded ops (ly n f))=true)(hK:jq n ops=true)(hr:(execOp (ev f) o).run P w= .ok .skip w1)(ht:fW (Ed V) fx fl i w w1)(h:WF P ops Q V fx fl t n f w1):WF P ops Q V fx fl (.ef i t) n f w:=by
 show wpOp P ops Q i _ _ w;unfold wpOp;simp only[ho,hw,if_true];refine .inl ?_;unfold Oper.wp;rw[ri (nV hK ho),hr,Oper.upon_skip,nI,hd];exact⟨ht,h⟩
theorem Vz{g:Nat}{args:tR}(ho:ops[i]? =some o)(hd:o.dst=some d)(hw:Region.wanted o (yielded ops (ly n f))=true)(hK:jq n ops=true)(hr:(execOp (ev f) o).run P w= .ok (.enter g args) w)(hc:Calls P g args w fun x w'=>∃v,x= .returned v∧fW (Ed V) fx fl i w w'∧WF P ops Q V fx fl t n (up f d v) w'):WF P ops Q V fx fl (.ef i t) n f w:=by
 show wpOp P ops Q i _ _ w;unfold wpOp;simp only[ho,hw,if_true];refine .inl ?_;unfold Oper.wp;rw[ri (nV hK ho),hr,Oper.upon_enter];refine hc.mono fun x w' hx=> ?_;obtain⟨v,rfl,ht,h⟩:=hx;show fW _ _ _ _ _ _∧lV P ops Q (Ed V) fx fl t _ w';rw[nI,hd];exact⟨ht,h⟩
theorem N6{c:tU}{xs:Array Operand}{ts:Array TypeId}{g:Nat}{first cap:tR}(hp:o.op= .call ⟨.value c,xs,ts⟩)(hc:ev f c= .func (.func g) first cap)(he:∀args w,(callFunc g args).run P w= .ok (.enter g args) w)(w:tA):(execOp (ev f) o).run P w= .ok (.enter g (first++xs.map (ev f)++cap)) w:=by
 simp[execOp,hp,resolve,hc,Deferred.ofValue,invoke,he]
theorem aeF{c:tU}{xs:Array Operand}{ts:Array TypeId}{g:Nat}{first cap:tR}{args:tM}(he:∀args w,(callFunc g args).run P w= .ok (.enter g args) w)(ho:ops[i]? =some o)(hd:o.dst=some d)(hw:Region.wanted o (yielded ops (ly n f))=true)(hK:jq n ops=true)(hp:o.op= .call ⟨.value c,xs,ts⟩)(hcv:ev f c= .func (.func g) first cap)(ha:first.toList++xs.toList.map (ev f)++cap.toList=args)(hc:Calls P g args.toArray w fun x w'=>∃v,x= .returned v∧fW (Ed V) fx fl i w w'∧WF P ops Q V fx fl t n (up f d v) w'):WF P ops Q V fx fl (.ef i t) n f w:=
 Vz ho hd hw hK ((N6 hp hcv he w).trans (by rw[←ha];congr 2;apply Array.ext';simp)) hc
variable{H:List bX}{M:tF}{G R:tJ}
theorem aeG{s m b q:Nat}{x y:tU}{g:tD}(hs:xl P s m=true)(hS:Mem w H M G R)(k:Nat){e:bX}(he:H[k]? =some e)(hx:fx.contains i=true)(ho:ops[i]? =some o)(hd:o.dst=none)(hw:Region.wanted o (yielded ops (ly n f))=true)(hK:jq n ops=true)(hp:o.op= .store s x y)(hxv:ev f x= .pointer (some ⟨b,q,none⟩))(hy:ev f y=vF g m)(ha:e.a=b)(hq:q+m≤e.n)(hg:aW g m)
  (h:∀w',Mem w' (H.set k ⟨e.a,e.t,e.n,gh e.f q m g⟩) M G R→WF P ops Q V fx fl t n f w'):WF P ops Q V fx fl (.ef i t) n f w:=by
 obtain⟨dd,hu,hr,hi⟩:=sN hs;subst ha;have fb:=hS.at k he;refine rj (w1:=w.setCells e.a q (cE g 0 m)) ho hd hw hK ?_ (gq hx) (h _ (hS.turn he (aB.uu e.a _ q w) (fb.put q m g hq)));have:=run_storeAt_mid (P:=P) w e.a q s (cE g 0 m).toArray (by simpa[bR]using fb.there q m hq) (by simpa[bR]using hi) hg.all;simp only[execOp,hp,hxv,hy,Sem.run_bind,this,Result.andThen_ok,Sem.run_pure]
theorem sP{P:tY}{t:Nat}(h:pT P t=true){b o:Nat}{v:tK}{w:tA}(hv:v.cells= #[v])(h1:v.oneCell'=true)(ht:w.there b o 1):(Instr.storeAt t (.pointer (some ⟨b,o,none⟩)) v).run P w= .ok () (w.setCell ⟨b,o,none⟩ v):=by
 have:=run_storeCells_cells (P:=P) b o [v] 0 w (fun j hj=>by simpa using(ht j (by simpa using hj)).1) (fun j hj=>by simpa using(ht j (by simpa using hj)).2)
  (fun x hx=>by simp at hx;subst hx;exact h1)
 have hi:=Q6 h;cases hq:P.info? t with
 |none=>simp[hq]at hi
 |some i=>
  have hs:i.size=1:=by simpa[hq]using hi
  simp only[Nat.add_zero]at this;simp[Instr.storeAt,Instr.sureAddr,storeVar,sizeOf,typeInfo,hq,hv,hs,this];rfl
theorem aeH{s b q:Nat}{x y:tU}{v:tK}(hs:pT P s=true)(hS:Mem w H M G R)(k:Nat){e:bX}(he:H[k]? =some e)(hx:fx.contains i=true)(ho:ops[i]? =some o)(hd:o.dst=none)(hw:Region.wanted o (yielded ops (ly n f))=true)(hK:jq n ops=true)(hp:o.op= .store s x y)(hxv:ev f x= .pointer (some ⟨b,q,none⟩))(hy:ev f y=v)(ha:e.a=b)(hq:q<e.n)(N7:v.cells= #[v])(h1:v.oneCell'=true)
  (h:∀w',Mem w' (H.set k ⟨e.a,e.t,e.n,oX e.f q v⟩) M G R→WF P ops Q V fx fl t n f w'):WF P ops Q V fx fl (.ef i t) n f w:=by
 subst ha;have fb:=hS.at k he;refine rj (w1:=w.setCell ⟨e.a,q,none⟩ v) ho hd hw hK ?_ (gq hx) (h _ (hS.turn he (aB.set e.a q w v) (fb.set q v hq)));simp only[execOp,hp,hxv,hy,Sem.run_bind,sP hs N7 h1 (fb.there q 1 (by omega)),Result.andThen_ok,Sem.run_pure]
theorem VA{w1:tA}{R:Nat}(hx:(fx.contains i||fl.contains i)=true)(ht:aB R w w1)(hV:R∈V):fW (Ed V) fx fl i w w1:=by
 unfold fW;cases h:fx.contains i with
 |true=>trivial
 |false=>
  rw[h]at hx;have hx:fl.contains i=true:=by simpa using hx
  rw[hx];exact⟨ht.os,ht.tape,ht.output,Cc ht.size.symm,fun b _ hb=>ht.block b (fun e=>hb (e▸hV))⟩
theorem aeI{s m b q:Nat}{x y:tU}{g:tD}(hs:xl P s m=true)(hS:Mem w H M G R)(k:Nat){e:bX}(he:H[k]? =some e)(hV:e.a∈V)(hx:(fx.contains i||fl.contains i)=true)(ho:ops[i]? =some o)(hd:o.dst=none)(hw:Region.wanted o (yielded ops (ly n f))=true)(hK:jq n ops=true)(hp:o.op= .store s x y)(hxv:ev f x= .pointer (some ⟨b,q,none⟩))(hy:ev f y=vF g m)(ha:e.a=b)(hq:q+m≤e.n)(hg:aW g m)
  (h:∀w',Mem w' (H.set k ⟨e.a,e.t,e.n,gh e.f q m g⟩) M G R→WF P ops Q V fx fl t n f w'):WF P ops Q V fx fl (.ef i t) n f w:=by
 obtain⟨dd,hu,hr,hi⟩:=sN hs;subst ha;have fb:=hS.at k he;refine rj (w1:=w.setCells e.a q (cE g 0 m)) ho hd hw hK ?_ (VA hx (aB.uu e.a _ q w) hV) (h _ (hS.turn he (aB.uu e.a _ q w) (fb.put q m g hq)));have:=run_storeAt_mid (P:=P) w e.a q s (cE g 0 m).toArray (by simpa[bR]using fb.there q m hq) (by simpa[bR]using hi) hg.all;simp only[execOp,hp,hxv,hy,Sem.run_bind,this,Result.andThen_ok,Sem.run_pure]
def PS(Q:tI):Prop:=∀c a d v w,Q (.panic c) (a.put d v) w→Q (.panic c) a w
theorem VB{fn:Func}{Rr:Ending→World→Prop}:PS (bodyPost P fn Rr):=fun c a d v w h=>by cases d<;>exact h
def Ord.idx:Ord→List Nat
 | .nil=>[]
 | .rd i t=>i::t.idx
 | .pu i t=>i::t.idx
 | .ef i t=>i::t.idx
 | .fk _ _ _ _=>[10000]
 | .f3 _ _ _ _ _ _=>[10000]
theorem o6{E:World→World→Prop}(hE:∀w,E w w):∀(σ:Ord) (a:Act) (w:tA),σ.idx.contains 10000=false→lV P ops Q E fx fl σ a w→wpOps P ops Q σ.idx a w
 | .nil,a,w,_,h=>h
 | .rd i t,a,w,hn,h=>by
  obtain⟨o,v,ho,hy,h⟩:=h;have hn:t.idx.contains 10000=false:=by
   simp only[Ord.idx,List.contains_cons,Bool.or_eq_false_iff]at hn;exact hn.2
  rw[Ord.idx,wpOps_cons];exact hy.wpOp ho (hE w) (o6 hE t _ _ hn h)
 | .pu i t,a,w,hn,h=>by
  obtain⟨o,v,ho,hy,h⟩:=h;have hn:t.idx.contains 10000=false:=by
   simp only[Ord.idx,List.contains_cons,Bool.or_eq_false_iff]at hn;exact hn.2
  rw[Ord.idx,wpOps_cons];exact hy.wpOp ho (o6 hE t _ _ hn h)
 | .ef i t,a,w,hn,h=>by
  have hn:t.idx.contains 10000=false:=by
   simp only[Ord.idx,List.contains_cons,Bool.or_eq_false_iff]at hn;exact hn.2
  rw[Ord.idx,wpOps_cons];exact wpOp_mono (fun a' w' h'=>o6 hE t a' w' hn h'.2) h
 | .fk _ _ _ _,a,w,hn,_=>by simp[Ord.idx]at hn
 | .f3 _ _ _ _ _ _,a,w,hn,_=>by simp[Ord.idx]at hn
variable{fn:Func}{Rr:Ending→World→Prop}
end
section
variable{w w':tA}{H:List bX}{M:tF}{G R:tJ}
theorem Mem.begin{w:tA}{H:List bX}{M:tF}{G:tJ}(g_:∀e∈H,bh w e.a e.t e.n e.f)(oY:H.Pairwise fun x y=>x.a≠y.a)(off:∀e∈H,¬M e.a)(mlt:∀b,M b→b<w.heap.size)(g:∀w',dB (fun b=>b∈H.map bX.a∨M b) w w'→G w'):Mem w H M G (fun w'=>dB (fun b=>b∈H.map bX.a) w w'):=by
 refine⟨g_,fun i j x y hi hj Fq=> ?_,off,mlt,g,fun _ c=>c⟩;obtain⟨li,rfl⟩:=Ap.1 hi;obtain⟨lj,rfl⟩:=Ap.1 hj;have hp:=BD.1 oY;rcases Nat.lt_trichotomy i j with aN|heq|N3
 ·exact absurd Fq (hp i j li lj aN)
 ·exact heq
 ·exact absurd Fq.symm (hp j i lj li N3)
theorem Mem.put(h:Mem w H M G R)(k:Nat){e:bX}(hk:H[k]? =some e)(c:dB (fun b=>b=e.a) w w'){t m:Nat}{f':tD}{g:Nat}(hg:g=e.a∨w.heap.size≤g)(hn:bh w' g t m f'):Mem w' (H.set k ⟨g,t,m,f'⟩) M G R:=by
 have hm:e∈H:=Ar hk;have he:e.a∈H.map bX.a:=Ay.2 ⟨e,hm,rfl⟩;have ch:dB (fun b=>b∈H.map bX.a) w w':=⟨c.os,c.tape,c.output,c.size,fun b hb hu=>c.block b hb fun hb'=>hu (hb'▸he)⟩;have sub:∀x,x<w.heap.size→x∈(H.set k (⟨g,t,m,f'⟩:bX)).map bX.a→x∈H.map bX.a:=fun x hx hm=>by
  obtain⟨y,hy,rfl⟩:=Ay.1 hm;rcases List.mem_or_eq_of_mem_set hy with hy|rfl
  ·exact Ay.2 ⟨y,hy,rfl⟩
  ·rcases hg with rfl|hg
   ·exact he
   ·exact absurd hx (Bb.2 hg)
 have at_:∀(i:Nat) (x:bX),(H.set k (⟨g,t,m,f'⟩:bX))[i]? =some x→(i=k∧x=⟨g,t,m,f'⟩)∨(i≠k∧H[i]? =some x∧x.a<w.heap.size∧x.a≠e.a):=fun i x hx=>by
  rw[List.getElem?_set]at hx;by_cases J4:k=i
  ·subst J4;rw[Ae rfl]at hx;split at hx
   ·cases hx;exact .inl ⟨rfl,rfl⟩
   ·cases hx
  ·rw[Aa J4]at hx;exact .inr ⟨fun e=>J4 e.symm,hx,(h.g_ x (Ar hx)).lt,fun hxa=>J4 (h.oY k i e x hk hx hxa.symm)⟩
 refine⟨fun x hx=> ?_,fun i j x y hx hy Fq=> ?_,fun x hx=> ?_,fun b hb=>Am (h.mlt b hb) c.size,fun w2 h2=>h.g w2 (dB.trans (U:=fun b=>b∈H.map bX.a∨M b) ⟨ch.os,ch.tape,ch.output,ch.size,fun b hb hu=>ch.block b hb (fun h=>hu (.inl h))⟩ h2 fun x hx hm=>hm.imp (sub x hx) id),fun w2 h2=>h.r w2 (ch.trans h2 sub)⟩
 ·obtain⟨i,hi⟩:=Cp hx;rcases at_ i x hi with⟨_,rfl⟩|⟨_,h1,h2,h3⟩
  ·exact hn
  ·have fb:=h.g_ x (Ar h1);unfold bh at fb⊢;rw[←fb];exact c.block x.a h2 h3
 ·rcases at_ i x hx with⟨rfl,rfl⟩|⟨n1,e1,l1,d1⟩<;>rcases at_ j y hy with⟨rfl,rfl⟩|⟨n2,e2,l2,d2⟩
  ·rfl
  ·rcases hg with rfl|hg
   ·exact absurd Fq.symm d2
   ·have Fq:g=y.a:=Fq;omega
  ·rcases hg with rfl|hg
   ·exact absurd Fq d1
   ·have Fq:x.a=g:=Fq;omega
  ·exact h.oY i j x y e1 e2 Fq
 ·rcases List.mem_or_eq_of_mem_set hx with hx|rfl
  ·exact h.off x hx
  ·rcases hg with rfl|hg
   ·exact h.off e hm
   ·exact fun hm=>absurd (h.mlt _ hm) (Bb.2 hg)
end
def jI(P:tY)(t e sz lD:Nat):Bool:=
 match P.underlying t with
 |some (.slice e')=>e'==e&&(P.info? e).any fun i=>i.size==sz&&i.bytes==lD&&(match i.zero with|some z=>z.cells.size==sz|none=>false)&&decide (0<sz)
 |_=>false
theorem Eg{P:tY}{t e sz lD:Nat}(h:jI P t e sz lD=true):P.underlying t=some (.slice e)∧∃i z,P.info? e=some i∧i.zero=some z∧i.size=sz∧i.bytes=lD∧z.cells.size=sz∧0<sz:=by
 unfold jI at h;split at h
 ·rename_i e' hu;simp only[Bool.and_eq_true,beq_iff_eq]at h;obtain⟨rfl,h⟩:=h;refine⟨hu, ?_⟩;cases hi:P.info? e' with
  |none=>simp[hi]at h
  |some i=>
   simp only[hi,Option.any_some,Bool.and_eq_true,beq_iff_eq,decide_eq_true_eq]at h;obtain⟨⟨⟨h1,h2⟩,h3⟩,h4⟩:=h;cases hz:i.zero with
   |none=>rw[hz]at h3;cases h3
   |some z=>
    rw[hz]at h3;exact⟨i,z,rfl,hz,h1,h2,by simpa using h3,h4⟩
 ·cases h
theorem Fx{w:tA}{g e m:Nat}{cur:tR}(h:w.heap[g]? =some (.cells cur e (0,0)))(hm:cur.size=m):bh w g e m (fun j=>cur.getD j undef):=by
 unfold bh;rw[h];congr 2;apply Ca;intro i;by_cases hi:i<m
 ·have e1:(cE (fun j=>cur.getD j undef) 0 m).toArray[i]? =some (cur.getD i undef):=by
   have:=bW (fun j=>cur.getD j undef) 0 m i hi;rw[Aj]at this;simpa using this
  rw[e1,Ck (by omega)];simp[hm,hi]
 ·rw[Bf (by omega),Bf (by simp[bR];omega)]
section
variable{P:tY}{ops:tP}{Q:tI}{V:tW}{fx fl:tW}{n:Nat}{f:tD}{w:tA}{i:Nat}{t:Ord}{o:Oper}{d:Nat}{H:List bX}{M:tF}{G R:tJ}
theorem yr{w:tA}{b e sz:Nat}{g:tD}(fb:bh w b e sz g):∀j u,(cE g 0 sz)[j]? =some u→w.cell? ((⟨b,0,none⟩:Addr).add j)=some u:=fun j u hu=>by
 have hj:j<sz:=by
  have:=(Ap.1 hu).1;rwa [bR]at this
 rw[bW _ _ _ _ hj,Aj]at hu;cases hu;rw[BM,Aj];exact fb.at j hj
theorem sQ{s:Nat}{x y:tU}(hp:o.op= .call ⟨.builtin .append,#[x,y],#[s,s]⟩){v u:tK}(hx:ev f x=v)(hy:ev f y=u){r:tK}{w1:tA}(hr:(Builtin.append_ #[s,s] o.type #[v,u]).run P w= .ok r w1):(execOp (ev f) o).run P w= .ok (.value r) w1:=by
 simp[execOp,hp,resolve,hx,hy,invoke,builtin,hr]
end
namespace Rv
inductive Sg where
 |o (x:tK)
 |p (j q b:Nat)
 |f (m:Nat) (g:tD)
def Sg.sz:Sg→Nat
 | .o _=>1
 | .p _ _ _=>1
 | .f m _=>m
def Sg.cl:Sg→List Value
 | .o x=>[x]
 | .p _ q b=>[.pointer (some ⟨b,q,none⟩)]
 | .f m g=>cE g 0 m
def eX:List Sg→Nat
 |[]=>0
 |[s]=>s.sz
 |s::l=>eX l+s.sz
def dD:List Sg→List Value
 |[]=>[]
 |[s]=>s.cl
 |s::l=>s.cl++dD l
theorem eQ(s:Sg)(l:List Sg):dD (s::l)=s.cl++dD l:=by
 cases l with
 |nil=>show s.cl=s.cl++[];rw[Au]
 |cons _ _=>rfl
theorem Q8(s:Sg)(l:List Sg):eX (s::l)=s.sz+eX l:=by
 cases l with
 |nil=>rfl
 |cons _ _=>exact Nat.add_comm ..
theorem Sg.len(s:Sg):s.cl.length=s.sz:=by cases s<;>first|rfl|exact bR _ _ _
theorem de:∀l:List Sg,(dD l).length=eX l
 |[]=>rfl
 |s::l=>by rw[eQ,Q8,Ag,s.len,de l]
theorem eC:∀l k:List Sg,dD (l++k)=dD l++dD k
 |[],k=>rfl
 |s::l,k=>by rw[List.cons_append,eQ,eQ,eC l k,AA]
def iQ:List Sg→Nat→List Sg
 |[],_=>[]
 |s::l,q=>match q with
  |0=>s::l
  |q+1=>match s with
   | .f m g=>cond (Nat.ble m (q+1)) (iQ l (q+1-m)) (.f (m-(q+1)) (fun j=>g (j+(q+1)))::l)
   |_=>iQ l q
def eZ:List Sg→Nat→List Sg
 |[],_=>[]
 |s::l,q=>match q with
  |0=>[]
  |q+1=>match s with
   | .f m g=>cond (Nat.ble m (q+1)) (.f m g::eZ l (q+1-m)) [.f (q+1) g]
   |s=>s::eZ l q
theorem Q9(g:tD)(m q:Nat):(cE g 0 m).drop q=cE (fun j=>g (j+q)) 0 (m-q):=by
 apply BH;intro i;rw[BO];by_cases h:i<m-q
 ·rw[bW _ _ _ _ h,bW _ _ _ _ (by omega),Aj,Aj,Nat.add_comm]
 ·rw[gL _ _ _ _ (by omega),gL _ _ _ _ (by omega)]
theorem Q_(g:tD)(m q:Nat)(h:q≤m):(cE g 0 m).take q=cE g 0 q:=by
 apply BH;intro i;rw[AO];by_cases hi:i<q
 ·rw[Ae hi,bW _ _ _ _ hi,bW _ _ _ _ (by omega)]
 ·rw[Aa hi,gL _ _ _ _ (by omega)]
theorem iR:∀(l:List Sg) (q:Nat),dD (iQ l q)=(dD l).drop q
 |[],q=>by simp[iQ,dD]
 |s::l,0=>rfl
 |s::l,q+1=>by
  rw[eQ,List.drop_append,s.len];cases s with
  |f m g=>
   show dD (cond (Nat.ble m (q+1)) _ _)=_;cases hb:Nat.ble m (q+1)with
   |true=>
    have hle:=BK hb;show dD (iQ l (q+1-m))=(cE g 0 m).drop (q+1)++_;rw[Cf (by rw[bR];exact hle),iR l];rfl
   |false=>
    have aN:q+1<m:=by
     rcases AG (q+1) m with h|h
     ·exact h
     ·rw[Nat.ble_eq_true_of_le h]at hb;cases hb
    show dD (.f (m-(q+1)) _::l)=_;rw[eQ,show q+1-(Sg.f m g).sz=0 from Nat.sub_eq_zero_of_le (Nat.le_of_lt aN),List.drop_zero];exact AB (·++dD l) (Q9 g m (q+1)).symm
  |o x=>
   show dD (iQ l q)=_;rw[iR l,show q+1-(Sg.o x).sz=q from rfl,show(Sg.o x).cl.drop (q+1)=[] from by simp[Sg.cl]];rfl
  |p a b c=>
   show dD (iQ l q)=_;rw[iR l,show q+1-(Sg.p a b c).sz=q from rfl,show(Sg.p a b c).cl.drop (q+1)=[] from by simp[Sg.cl]];rfl
theorem jJ:∀(l:List Sg) (q:Nat),dD (eZ l q)=(dD l).take q
 |[],q=>by simp[eZ,dD]
 |s::l,0=>by simp[eZ,dD]
 |s::l,q+1=>by
  rw[eQ,List.take_append,s.len];cases s with
  |f m g=>
   show dD (cond (Nat.ble m (q+1)) _ _)=_;cases hb:Nat.ble m (q+1)with
   |true=>
    have hle:=BK hb;show dD (.f m g::eZ l (q+1-m))=_;rw[eQ,jJ l,AL (l:=(Sg.f m g).cl) (by rw[Sg.len];exact hle)];rfl
   |false=>
    have aN:q+1<m:=by
     rcases AG (q+1) m with h|h
     ·exact h
     ·rw[Nat.ble_eq_true_of_le h]at hb;cases hb
    show cE g 0 (q+1)=(cE g 0 m).take (q+1)++_;rw[Q_ _ _ _ (Nat.le_of_lt aN),show q+1-(Sg.f m g).sz=0 from Nat.sub_eq_zero_of_le (Nat.le_of_lt aN),List.take_zero,Au]
  |o x=>
   show dD (.o x::eZ l q)=_;rw[eQ,jJ l];simp[Sg.cl,Sg.sz]
  |p a b c=>
   show dD (.p a b c::eZ l q)=_;rw[eQ,jJ l];simp[Sg.cl,Sg.sz]
inductive SV where
 |o (x:tK)
 |p (j q b:Nat)
 |g (l:List Sg)
def SV.val:SV→Value
 | .o x=>x
 | .p _ q b=> .pointer (some ⟨b,q,none⟩)
 | .g l=> .agg (dD l).toArray
def SV.kO:SV→List Sg
 | .o x=>[.o x]
 | .p j q b=>[.p j q b]
 | .g l=>l
inductive AV where
 |s (v:SV)
 |t (l:List SV)
def AV.val:AV→Value
 | .s v=>v.val
 | .t l=> .tuple (l.map SV.val).toArray
abbrev vv(x:tK):AV:= .s (.o x)
abbrev vp(j q b:Nat):AV:= .s (.p j q b)
abbrev vg(l:List Sg):AV:= .s (.g l)
abbrev vf(m:Nat)(g:tD):AV:= .s (.g [.f m g])
abbrev vi(n:Int):AV:= .s (.o (iV n))
abbrev vt(l:List SV):AV:= .t l
def cn(f:Nat→AV):Nat→Value:=fun i=>(f i).val
def ua(f:Nat→AV)(d:Nat)(v:AV):Nat→AV:=fun i=>cond (Nat.beq i d) v (f i)
theorem jK(f:Nat→AV)(d:Nat)(v:AV):cn (ua f d v)=up (cn f) d v.val:=by
 funext i;unfold cn ua up;cases Nat.beq i d<;>rfl
def ea(f:Nat→AV):Operand→AV
 | .tmp t=>f t
 | .const v=>vv v
 | .global g=>vv (.pointer (some ⟨g,0,none⟩))
 | .func g=>vv (.func (.func g) #[] #[])
theorem bC(f:Nat→AV)(x:tU):(ea f x).val=ev (cn f) x:=by cases x<;>rfl
def Ys{α:Type}:List Sg→(List Sg→α)→α
 |[],k=>k []
 | .o x::l,k=>Ys l fun l=>k (.o x::l)
 | .p j q b::l,k=>Ys l fun l=>k (.p j q b::l)
 | .f m g::l,k=>Ys l fun l=>k (.f m g::l)
theorem sR{α:Type}:∀(l:List Sg) (k:List Sg→α),Ys l k=k l
 |[],_=>rfl
 | .o _::l,_=>sR l _
 | .p _ _ _::l,_=>sR l _
 | .f _ _::l,_=>sR l _
structure Ty where
 id:Nat
 kd:Nat
 m:Nat
 fl:List (Nat×Nat×Bool)
 el:Nat
 es:Nat
 ar:Nat
 z:List Sg
inductive Tr where
 |l
 |n (a:Tr) (e:Ty) (b:Tr)
def Tr.find(s:Nat):Tr→Option Ty
 | .l=>none
 | .n a e b=>cond (Nat.beq s e.id) (some e) (cond (Nat.blt s e.id) (a.find s) (b.find s))
def Tr.all(p:Ty→Bool):Tr→Bool
 | .l=>true
 | .n a e b=>a.all p&&(p e&&b.all p)
theorem Tr.yQ{p:Ty→Bool}{s:Nat}{e:Ty}:∀{t:Tr},t.all p=true→t.find s=some e→p e=true∧e.id=s
 | .l,_,h=>by cases h
 | .n a x b,ha,h=>by
  unfold Tr.all at ha;simp only[Bool.and_eq_true]at ha;unfold Tr.find at h;cases hb:Nat.beq s x.id with
  |true=>rw[hb]at h;cases h;exact⟨ha.2.1,(Bd hb).symm⟩
  |false=>
   rw[hb]at h;cases hc:Nat.blt s x.id with
   |true=>rw[hc]at h;exact yQ ha.1 h
   |false=>rw[hc]at h;exact yQ ha.2.2 h
def VE(P:tY)(s:Nat):Option (List (Nat×Nat)):=match P.underlying s with
 |some (.struct fs)=>fs.toList.mapM fun f=>(P.info? f.type).map fun i=>(f.offset,i.size)
 |_=>none
def VF(P:tY)(s:Nat):Option Nat:=match P.underlying s with
 |some (.slice e)=>some e
 |some (.array _ e)=>some e
 |_=>none
def Zj(P:tY)(s:Nat):Bool:=match P.underlying s with
 |some (.func _ _ _)=>true
 |_=>false
def Ty.fe(P:tY)(e:Ty):Bool:=Nat.beq (eX e.z) e.m&&match e.kd with
 |0=>pT P e.id&&Nat.beq e.m 1
 |1=>xl P e.id e.m&&(VE P e.id==some (e.fl.map fun x=>(x.1,x.2.1)))&&e.fl.all fun x=> !(Nat.beq x.2.1 0)
 |2=>pT P e.id&&Nat.beq e.m 1&&(jr P e.id==some e.es)&&(VF P e.id==some e.el)
 |4=>pT P e.id&&Nat.beq e.m 1&&Zj P e.id
 |_=>xl P e.id e.m&&(Hi P e.id==some (e.ar,e.es))&&(VF P e.id==some e.el)
def Ty.fM(e:Ty):Bool:=match e.kd with
 |0=>true
 |2=>true
 |4=>true
 |_=>false
def Ty.zero(e:Ty):Value:=match e.fM with
 |true=>(dD e.z).headD undef
 |false=> .agg (dD e.z).toArray
def Tr.list:Tr→List Ty
 | .l=>[]
 | .n a e b=>a.list++(e::b.list)
structure Tr.Ok(T:Tr)(P:tY):Prop where
 g:T.all (Ty.fe P)=true
 z:T.list.map (fun e=>(P.info? e.id).map (·.zero))=T.list.map fun e=>some (some e.zero)
 m:P.follows .mixedOrders=true
theorem Tr.yR{s:Nat}{e:Ty}:∀{t:Tr},t.find s=some e→e∈t.list
 | .l,h=>by cases h
 | .n a x b,h=>by
  unfold Tr.find at h;unfold Tr.list;cases hb:Nat.beq s x.id with
  |true=>rw[hb]at h;cases h;simp
  |false=>
   rw[hb]at h;cases hc:Nat.blt s x.id with
   |true=>rw[hc]at h;exact Bk _ (yR h)
   |false=>rw[hc]at h;exact Bj _ (Az _ (yR h))
section
variable{P:tY}{T:Tr}{s:Nat}{e:Ty}
theorem Tr.Ok.fe(h:T.Ok P)(hf:T.find s=some e):e.fe P=true∧e.id=s:=Tr.yQ h.g hf
theorem Tr.Ok.zero(h:T.Ok P)(hf:T.find s=some e):(P.info? s).map (·.zero)=some (some e.zero):=by
 have:=List.map_inj_left.1 h.z e (Tr.yR hf);rw[←(h.fe hf).2];exact this
theorem Ty.one(h:e.fe P=true)(hk:e.fM=true):pT P e.id=true∧e.m=1:=by
 unfold Ty.fe at h;unfold Ty.fM at hk;rw[AH]at h;have h:=h.2;split at h<;>simp only[Bool.and_eq_true]at h
 ·exact⟨h.1,Bd h.2⟩
 ·rename_i k;rw[k]at hk;cases hk
 ·exact⟨h.1.1.1,Bd h.1.1.2⟩
 ·exact⟨h.1.1,Bd h.1.2⟩
 ·split at hk
  ·contradiction
  ·contradiction
  ·contradiction
  ·cases hk
theorem Ty.row(h:e.fe P=true)(hk:e.fM=false):xl P e.id e.m=true:=by
 unfold Ty.fe at h;unfold Ty.fM at hk;rw[AH]at h;have h:=h.2;split at h<;>simp only[Bool.and_eq_true]at h
 ·rename_i k;rw[k]at hk;cases hk
 ·exact h.1.1
 ·rename_i k;rw[k]at hk;cases hk
 ·rename_i k;rw[k]at hk;cases hk
 ·exact h.1.1
theorem Ty.fn(h:e.fe P=true)(hk:e.kd=4):Zj P e.id=true:=by
 unfold Ty.fe at h;rw[AH,hk]at h;simp only[Bool.and_eq_true]at h;exact h.2.2
theorem Ty.slc(h:e.fe P=true)(hk:e.kd=2):jr P e.id=some e.es∧VF P e.id=some e.el:=by
 unfold Ty.fe at h;rw[AH,hk]at h;simp only[Bool.and_eq_true,beq_iff_eq]at h;exact⟨h.2.1.2,h.2.2⟩
theorem Ty.arr(h:e.fe P=true)(hk:e.kd=3):Hi P e.id=some (e.ar,e.es):=by
 unfold Ty.fe at h;rw[AH,hk]at h;simp only[Bool.and_eq_true,beq_iff_eq]at h;exact h.2.1.2
theorem Ty.plc(h:e.fe P=true)(hk:e.kd=1):VE P e.id=some (e.fl.map fun x=>(x.1,x.2.1))∧∀x∈e.fl,¬x.2.1=0:=by
 unfold Ty.fe at h;rw[AH,hk]at h;simp only[Bool.and_eq_true,beq_iff_eq,List.all_eq_true,Bool.not_eq_true']at h;refine⟨h.2.1.2,fun x hx e0=> ?_⟩;have:=h.2.2 x hx;rw[e0,Nat.beq_refl]at this;cases this
theorem Ra(h:e.fe P=true)(hk:e.kd=1){k:Nat}{x:Nat×Nat×Bool}(hx:e.fl[k]? =some x):uy P e.id k=some x.1:=by
 obtain⟨h1,h2⟩:=Ty.plc h hk;unfold VE at h1;split at h1
 ·rename_i fs hu;have hm:∀(l:List Go.Field) (r:List (Nat×Nat)) (k:Nat) (y:Nat×Nat),l.mapM (fun f=>(P.info? f.type).map fun i=>(f.offset,i.size))=some r→r[k]? =some y→∃f i,l[k]? =some f∧P.info? f.type=some i∧y=(f.offset,i.size):=by
   intro l
   induction l with
   |nil=>intro r k y hr hy;simp at hr;subst hr;simp at hy
   |cons f l ih=>
    intro r k y hr hy;rw[List.mapM_cons]at hr;cases hi:P.info? f.type with
    |none=>simp[hi]at hr
    |some i=>
     cases hl:l.mapM (fun f=>(P.info? f.type).map fun i=>(f.offset,i.size))with
     |none=>simp[hi,hl]at hr
     |some r'=>
      simp[hi,hl]at hr;subst hr;cases k with
      |zero=>simp at hy;exact⟨f,i,rfl,hi,hy.symm⟩
      |succ k=>
       obtain⟨f',i',e1,e2,e3⟩:=ih r' k y hl (by simpa using hy);exact⟨f',i',by simpa using e1,e2,e3⟩
  obtain⟨f,i,e1,e2,e3⟩:=hm fs.toList _ k (x.1,x.2.1) h1 (by rw[Ax,hx];rfl);have e1:fs[k]? =some f:=by simpa using e1
  obtain⟨e3,e4⟩:=AR e3;have hs:¬i.size=0:=fun e0=>h2 x (Ar hx) (e4.trans e0);unfold uy;simp[hu,e1,e2,hs,e3]
 ·cases h1
end
structure En where
 a:Nat
 t:Nat
 l:List Sg
def cy:List Sg→Nat→Value
 |[.f _ g]=>g
 |l=>fun i=>(dD l).getD i undef
theorem iu(l:List Sg){i:Nat}(hi:i<eX l):cy l i=(dD l).getD i undef:=by
 unfold cy;split
 ·rename_i m g;have hi:i<m:=hi;show g i=(cE g 0 m).getD i undef;rw[Aw,bW _ _ _ _ hi,Aj];rfl
 ·rfl
def En.g_(e:En):bX:=⟨e.a,e.t,eX e.l,cy e.l⟩
abbrev hs(H:List En):List bX:=H.map En.g_
def nth{α:Type}:List α→Nat→Option α
 |[],_=>none
 |x::_,0=>some x
 |_::l,k+1=>nth l k
theorem eR{α:Type}:∀(l:List α) (k:Nat),nth l k=l[k]?
 |[],_=>by simp[nth]
 |x::l,0=>by simp[nth]
 |x::l,k+1=>by simp[nth,eR l k]
def Zk{α β:Type}:List α→Nat→α→(List α→β)→β
 |[],_,_,k=>k []
 |_::l,0,e,k=>k (e::l)
 |x::l,j+1,e,k=>Zk l j e fun l=>k (x::l)
theorem Mo{α β:Type}:∀(l:List α) (j:Nat) (e:α) (k:List α→β),Zk l j e k=k (l.set j e)
 |[],_,_,_=>rfl
 |_::_,0,_,_=>rfl
 |_::l,j+1,e,_=>Mo l j e _
def Zl{α β:Type}:List α→α→(List α→β)→β
 |[],e,k=>k [e]
 |x::l,e,k=>Zl l e fun l=>k (x::l)
theorem Fy{α β:Type}:∀(l:List α) (e:α) (k:List α→β),Zl l e k=k (l++[e])
 |[],_,_=>rfl
 |_::l,e,_=>Fy l e _
structure Md where
 cb:Bool
 vi:List Nat
 va:List Nat
 vs:List Nat
abbrev Re:Md:=⟨false,[],[],[]⟩
abbrev md1:Md:=⟨true,[],[],[]⟩
inductive Fr where
 |c (c:Code)
 |b (id:Nat)
 |j (J:Act→World→Prop)
 |g (md:Md) (ops:tP) (t:Ord)
 |e (a:AV)
def cls:Op→Nat
 | .alloc _=>3
 | .box _ _=>3
 | .buildSlice _ _ _=>3
 | .load _ _=>1
 | .lookup _ _ _ _=>1
 | .move _=>0
 | .assign _=>0
 | .nilCheck _=>0
 | .fieldAddr _ _ _=>0
 | .indexAddr _ _ _=>0
 | .extract _ _=>0
 | .pick _ _ _=>0
 | .unOp _ _ _=>0
 | .binOp _ _ _ _ _=>0
 | .build _ _=>0
 | .field _ _ _=>0
 | .index _ _ _=>0
 | .slice _ _ _ _ _=>0
 | .makeFunc _ _ _=>0
 | .makeInterface _ _=>0
 | .call ⟨.builtin .len,_,_⟩=>0
 | .call ⟨.builtin .min,_,_⟩=>0
 | .call ⟨.builtin .max,_,_⟩=>0
 | .call ⟨.builtin .cap,_,_⟩=>0
 |_=>2
def nW(md:Md)(i:Nat)(o:Op):Nat:=match md.vs.contains i,md.cb,o with
 |true,_,_=>3
 |_,true,.call ⟨.value _,_,_⟩=>3
 |_,_,o=>cls o
def Eh(md:Md)(ops:tP)(i:Nat):Nat:=match ops[i]? with
 |some o=>nW md i o.op
 |none=>0
def o7(md:Md)(ops:tP):List Nat:=(List.range ops.size).filter fun i=>Nat.beq (Eh md ops i) 2
def vQ(md:Md)(ops:tP):List Nat:=(List.range ops.size).filter fun i=>Nat.beq (Eh md ops i) 3
theorem lE{md:Md}{ops:tP}{i:Nat}{o:Oper}(ho:ops[i]? =some o)(hc:nW md i o.op=2):(o7 md ops).contains i=true:=by
 have hi:=(BP.1 ho).1;simp only[o7,List.contains_iff_mem,List.mem_filter,List.mem_range];refine⟨hi, ?_⟩;unfold Eh;rw[ho];simp[hc]
theorem Fz{md:Md}{ops:tP}{i:Nat}{o:Oper}(ho:ops[i]? =some o)(hc:nW md i o.op=3):((o7 md ops).contains i||(vQ md ops).contains i)=true:=by
 have hi:=(BP.1 ho).1;rw[Bool.or_eq_true];refine .inr ?_;simp only[vQ,List.contains_iff_mem,List.mem_filter,List.mem_range];refine⟨hi, ?_⟩;unfold Eh;rw[ho];simp[hc]
def QN(ops:tP):Nat→Nat→Ord
 |0,_=> .nil
 |k+1,i=>match ops[i]? with
  |none=> .nil
  |some o=>match cls o.op with
   |0=> .pu i (QN ops k (i+1))
   |1=> .rd i (QN ops k (i+1))
   |_=> .ef i (QN ops k (i+1))
theorem Mp(ops:tP):∀(k i:Nat),i+k=ops.size→(QN ops k i).idx=(List.range' i k)
 |0,i,_=>rfl
 |k+1,i,h=>by
  have hl:i<ops.size:=by omega
  have ih:=Mp ops k (i+1) (by omega);unfold QN;rw[Ck hl];simp only;split<;>(rw[Ord.idx,ih];rfl)
def Ei(es:tW)(ops:tP):Nat→List Nat→Ord
 |0,_=> .nil
 |k+1,done=>match(List.range ops.size).filter (fun i=> !done.contains i&&(match ops[i]? with
  |some o=>o.after.toList.all fun e=> !(Region.binds .any e)||done.contains e.on
  |none=>false))with
  |[]=> .nil
  |l=>match l.find? (fun i=> !es.contains i&&Nat.blt (Eh Re ops i) 2)with
   |some i=>match Eh Re ops i with
    |0=> .pu i (Ei es ops k (i::done))
    |_=> .rd i (Ei es ops k (i::done))
   |none=>match l with
    |[i]=> .ef i (Ei es ops k (i::done))
    |[i,j]=> .fk i j (Ei es ops k (i::done)) (Ei es ops k (j::done))
    |[i,j,m]=> .f3 i j m (Ei es ops k (i::done)) (Ei es ops k (j::done)) (Ei es ops k (m::done))
    |_=> .nil
def abD(md:Md)(ops:tP)(σ:Ord):Bool:=σ.len==ops.size&&Region.noSelect ops&&kN .any ops (o7 md ops) (vQ md ops) σ (Array.replicate ops.size false)
def okR(n:Nat)(ops:tP):Bool:=jq n ops&&Nat.ble ops.size 9999
def G6(n:Nat):Code→Bool
 | .region _ ops _=>okR n ops
 | .seq a b=>G6 n a&&G6 n b
 | .cond c a b=>okX n c&&(G6 n a&&G6 n b)
 | .block _ c=>G6 n c
 | .loop c=>G6 n c
 | .scope c=>G6 n c
 | .rangeFunc _ _ a b=>G6 n a&&G6 n b
 |_=>true
def okF(n:Nat):Fr→Bool
 | .c c=>G6 n c
 | .g _ ops _=>okR n ops
 |_=>true
def Hj(n:Nat):List Fr→Bool
 |[]=>true
 |fr::ks=>okF n fr&&Hj n ks
def kq(P:tY)(fn:Func)(Rr:Ending→World→Prop):List Fr→Exit→Act→World→Prop
 |[]=>bodyPost P fn Rr
 | .c c::ks=>Exit.then (c.wp P (kq P fn Rr ks)) (kq P fn Rr ks)
 | .b id::ks=>Exit.inBlock id (kq P fn Rr ks)
 | .j J::ks=>Exit.then J (kq P fn Rr ks)
 | .g md ops t::ks=>Exit.then (lV P ops (kq P fn Rr ks) (Ed md.va) (o7 md ops) (vQ md ops) t) (kq P fn Rr ks)
 | .e a::ks=>Exit.then (fun _ w=>Rr (.returned a.val) w) (kq P fn Rr ks)
def G(P:tY)(fn:Func)(Rr:Ending→World→Prop)(n:Nat)(M:tF)(Φ R:tJ)(ks:List Fr)(f:Nat→AV)(H:List En):Prop:=
 ∀w,Mem w (hs H) M Φ R→Hj n ks=true→kq P fn Rr ks .normal ⟨ly n (cn f),[]⟩ w
def Ad(a b:Nat):Prop:=a=b
def Cm(g:BinOp)(a b:Int)(c:Bool):Prop:=sO g a b=some c
def Ce(x:tK):Prop:=x.cells= #[x]
structure Cs(x:tK):Prop where
 c:x.cells= #[x]
 k:x.oneCell'=true
def Lt(j n:Nat):Prop:=j<n
def Mn(a b c:Int):Prop:=(if b<a then b else a)=c
def Le(j n:Nat):Prop:=j≤n
def Wr(a c:Int):Prop:=IntKind.i64.wrap a=c
def Dr(md:Md)(ops:tP)(t:Ord):Prop:=abD md ops t=true
structure Va(H:List En)(md:Md)(j:Nat)(b:Bool):Prop where
 a:md.va.map some=md.vi.map fun k=>(nth H k).map En.a
 b:md.vi.contains j=b
def Kd(k m:Nat):Prop:=k=m
def sS(n:Nat)(ops:tP)(f:Nat→AV)(o:Oper):Option Bool:=match o.guard with
 |none=>some true
 |some (j,b)=>match ops[j]? with
  |some oj=>match oj.dst with
   |some d=>match Nat.blt d n,f d with
    |true,.s (.o (.bool c))=>some (c==b)
    |true,.s (.o (.tuple _))=>some false
    |_,_=>none
   |none=>none
  |none=>none
def hdA:List Sg→Option SV
 | .o x::_=>some (.o x)
 | .p j q b::_=>some (.p j q b)
 | .f (_+1) g::_=>some (.o (g 0))
 |_=>none
def Hk(l:List Sg)(q m:Nat)(one:Bool):Option SV:=match one with
 |true=>hdA (iQ l q)
 |false=>Ys (eZ (iQ l q) m) fun l=>match Nat.beq (eX l) m with
  |true=>some (.g l)
  |false=>none
def Zm(f:Nat→AV)(pl:Nat→Option (Nat×Nat)):List (Nat×Operand)→List Sg→List Prop→Option (List Sg×List Prop)
 |[],l,c=>some (l,c)
 |(i,x)::r,l,c=>match pl i,ea f x with
  |some (off,sz),.s v=>match Nat.beq (eX v.kO) sz&&Nat.ble (off+sz) (eX l)with
   |true=>Ys (eZ l off++(v.kO++iQ l (off+sz))) fun l'=>match v with
    | .o x=>Zm f pl r l' (Ce x::c)
    |_=>Zm f pl r l' c
   |false=>none
  |_,_=>none
def VG(e:Ty)(i:Nat):Option (Nat×Nat):=match e.kd with
 |1=>match nth e.fl i with
  |some (off,sz,_)=>some (off,sz)
  |none=>none
 |3=>some (i*e.es,e.es)
 |_=>none
def QO(T:Tr)(f:Nat→AV):Op→Option (AV×List Prop)
 | .move x=>match ea f x with
  | .s v=>some (.s v,[])
  | .t l=>some (.t l,[])
 | .assign x=>match ea f x with
  | .s v=>some (.s v,[])
  | .t l=>some (.t l,[])
 | .nilCheck x=>match ea f x with
  | .s (.p j q b)=>some (vp j q b,[])
  | .s (.o (.pointer (some p)))=>some (vv (.pointer (some p)),[])
  |_=>none
 | .fieldAddr s x k=>match T.find s with
  |some e=>match e.kd,nth e.fl k with
   |1,some (off,_,_)=>match ea f x with
    | .s (.p j q b)=>some (vp j (q+off) b,[])
    | .s (.o (.pointer (some ⟨b,q,none⟩)))=>some (vv (.pointer (some ⟨b,q+off,none⟩)),[])
    |_=>none
   |_,_=>none
  |none=>none
 | .extract x k=>match ea f x with
  | .t l=>match nth l k with
   |some v=>some (.s v,[])
   |none=>none
  |_=>none
 | .pick x y z=>match ea f x with
  | .s (.o (.bool true))=>some (ea f y,[])
  | .s (.o (.bool false))=>some (ea f z,[])
  |_=>none
 | .unOp .not _ x=>match ea f x with
  | .s (.o (.bool true))=>some (vv (.bool false),[])
  | .s (.o (.bool false))=>some (vv (.bool true),[])
  |_=>none
 | .call ⟨.builtin .len,xs,ts⟩=>match xs.toList,ts.toList with
  |[x],[s]=>match T.find s,ea f x with
   |some e,.s (.o (.slice _ l _))=>match e.kd with
    |2=>some (vi (l:Int),[])
    |_=>none
   |_,_=>none
  |_,_=>none
 | .build s parts=>match T.find s with
  |some e=>match e.fM with
   |true=>none
   |false=>match Zm f (VG e) parts.toList e.z []with
    |some (l,c)=>some (vg l,c)
    |none=>none
  |none=>none
 | .makeFunc fn xs ys=>some (vv (.func fn (xs.toList.map fun x=>(ea f x).val).toArray (ys.toList.map fun x=>(ea f x).val).toArray),[])
 |_=>none
def cpA(T:Tr)(g:BinOp)(s:Nat)(x y:AV)(h:tW)(z:tG):Option (List Nat×List Int×AV×List Prop):=match sO g 0 0,x,y with
 |some _,.s (.o (.int .i64 a)),.s (.o (.int .i64 b))=>match h with
  |0::h=>some (h,z,vv (.bool false),[Cm g a b false])
  |1::h=>some (h,z,vv (.bool true),[Cm g a b true])
  |_=>none
 |some _,.s (.o .nilFunc),.s (.o .nilFunc)=>match g,T.find s with
  | .neq,some e=>some (h,z,vv (.bool false),[Kd e.kd 4])
  |_,_=>none
 |some _,.s (.o (.func _ _ _)),.s (.o .nilFunc)=>match g,T.find s with
  | .neq,some e=>some (h,z,vv (.bool true),[Kd e.kd 4])
  |_,_=>none
 |_,_,_=>none
def Rf(T:Tr)(f:Nat→AV)(h:tW)(z:tG):Op→Option (List Nat×List Int×AV×List Prop)
 | .binOp g s x y _=>match g with
  | .add=>match ea f x,ea f y,h with
   | .s (.o (.int .i64 a)),.s (.o (.int .i64 b)),0::h=>some (h,z,vi (IntKind.i64.wrap (a+b)),[])
   | .s (.o (.int .i64 a)),.s (.o (.int .i64 b)),_::h=>match z with
    |c::z=>some (h,z,vi c,[Wr (a+b) c])
    |[]=>none
   |_,_,_=>none
  | .sub=>match ea f x,ea f y,h with
   | .s (.o (.int .i64 a)),.s (.o (.int .i64 b)),0::h=>some (h,z,vi (IntKind.i64.wrap (a-b)),[])
   | .s (.o (.int .i64 a)),.s (.o (.int .i64 b)),_::h=>match z with
    |c::z=>some (h,z,vi c,[Wr (a-b) c])
    |[]=>none
   |_,_,_=>none
  |g=>cpA T g s (ea f x) (ea f y) h z
 | .indexAddr s x y=>match T.find s with
  |some e=>match e.kd with
   |2=>match ea f x,ea f y with
    | .s (.o (.slice (some ⟨b,q,none⟩) len _)),.s (.o (.int .i64 (.ofNat j)))=>some (h,z,vv (.pointer (some ⟨b,q+j*e.es,none⟩)),[Lt j len])
    |_,_=>none
   |3=>match ea f x,ea f y with
    | .s (.p k q b),.s (.o (.int .i64 (.ofNat j)))=>match h with
     |0::h=>some (h,z,vp k (q+j*e.es) b,[Lt j e.ar])
     |1::h=>some (h,z,vv (.pointer (some ⟨b,q+j*e.es,none⟩)),[Lt j e.ar])
     |_=>none
    | .s (.o (.pointer (some ⟨b,q,none⟩))),.s (.o (.int .i64 (.ofNat j)))=>some (h,z,vv (.pointer (some ⟨b,q+j*e.es,none⟩)),[Lt j e.ar])
    |_,_=>none
   |_=>none
  |none=>none
 | .slice s x lo hi none=>match T.find s,ea f x with
  |some e,.s (.o (.slice a len cap))=>match e.kd,lo,hi with
   |2,some y,some u=>match ea f y,ea f u with
    | .s (.o (.int .i64 (.ofNat l))),.s (.o (.int .i64 (.ofNat k)))=>some (h,z,vv (.slice (gO a l e.es cap) (k-l) (cap-l)),[Le l k,Le k cap])
    |_,_=>none
   |2,some y,none=>match ea f y with
    | .s (.o (.int .i64 (.ofNat l)))=>some (h,z,vv (.slice (gO a l e.es cap) (len-l) (cap-l)),[Le l len])
    |_=>none
   |2,none,some u=>match ea f u with
    | .s (.o (.int .i64 (.ofNat k)))=>some (h,z,vv (.slice a k cap),[Le k cap])
    |_=>none
   |_,_,_=>none
  |_,_=>none
 | .call ⟨.builtin .min,xs,_⟩=>match xs.toList with
  |[x,y]=>match ea f x,ea f y,h with
   | .s (.o (.int .i64 a)),.s (.o (.int .i64 b)),0::h=>some (h,z,vi a,[¬b<a])
   | .s (.o (.int .i64 a)),.s (.o (.int .i64 b)),1::h=>some (h,z,vi b,[b<a])
   | .s (.o (.int .i64 a)),.s (.o (.int .i64 b)),2::h=>match z with
    |c::z=>some (h,z,vi c,[Mn a b c])
    |[]=>none
   |_,_,_=>none
  |_=>none
 |_=>none
def rdA(T:Tr)(md:Md)(f:Nat→AV)(H:List En):Op→Option (AV×List Prop)
 | .load s x=>match T.find s,ea f x with
  |some e,.s (.p j q b)=>match nth H j with
   |some ⟨a,_,l⟩=>match Hk l q e.m e.fM with
    |some v=>match md.vi with
     |[]=>some (.s v,[Ad a b,md.va=[]])
     |_=>some (.s v,[Ad a b,Va H md j false])
    |none=>none
   |none=>none
  |_,_=>none
 |_=>none
def Vh:List Sg→Prop
 |[]=>True
 | .o x::l=>Cs x∧Vh l
 | .p _ _ _::l=>Vh l
 | .f m g::l=>aW g m∧Vh l
def stA(T:Tr)(md:Md)(i:Nat)(f:Nat→AV)(H:List En):Op→Option (List En×List Prop)
 | .store s x y=>match T.find s,ea f x,ea f y with
  |some e,.s (.p j q b),.s v=>match nth H j with
   |some ⟨a,t,l⟩=>match Nat.beq (eX v.kO) e.m&&Nat.ble (q+e.m) (eX l)with
    |true=>match e.fM,v with
     |true,.g _=>none
     |false,.o _=>none
     |false,.p _ _ _=>none
     |_,_=>Ys (eZ l q++(v.kO++iQ l (q+e.m))) fun l'=>Zk H j ⟨a,t,l'⟩ fun H'=>match md.vs.contains i with
      |true=>some (H',[Ad a b,Vh v.kO,Va H md j true])
      |false=>some (H',[Ad a b,Vh v.kO])
    |false=>none
   |none=>none
  |_,_,_=>none
 |_=>none
def elA(f:Nat→AV)(sz:Nat):Nat→List (Nat×Operand)→List Prop→Option (List Sg×List Prop)
 |_,[],c=>some ([],c)
 |k,(i,x)::r,c=>match Nat.beq i k,ea f x with
  |true,.s v=>match Nat.beq (eX v.kO) sz with
   |true=>match v with
    | .o x=>match elA f sz (k+1) r (Ce x::c)with
     |some (l,c)=>some (.o x::l,c)
     |none=>none
    |v=>match elA f sz (k+1) r c with
     |some (l,c)=>some (v.kO++l,c)
     |none=>none
   |false=>none
  |_,_=>none
def Zn(T:Tr)(f:Nat→AV):Op→Option (Nat×List Sg×Nat×List Prop)
 | .alloc s=>match T.find s with
  |some e=>some (s,e.z,0,match e.fM,e.z with|true,[.o x]=>[Ce x]|true,_=>[False]|false,_=>[])
  |none=>none
 | .box s x=>match ea f x with
  | .s (.o x)=>some (s,[.o x],0,[Ce x])
  | .s v=>some (s,v.kO,0,[])
  | .t _=>none
 | .buildSlice s k parts=>match T.find s with
  |some e=>match e.kd,T.find e.el with
   |2,some _=>match elA f e.es 0 parts.toList []with
    |some (l,c)=>Ys l fun l=>match Nat.beq parts.size k&&(Nat.blt 0 (k*e.es)&&(Nat.ble (k*e.es) 16777216&&Nat.beq (eX l) (k*e.es)))with
     |true=>match k with
      |0=>none
      |k+1=>some (e.el,l,k+1,c)
     |false=>none
    |none=>none
   |_,_=>none
  |none=>none
 |_=>none
def Zo(id:Nat):List Fr→Option (List Fr)
 |[]=>none
 | .b i::ks=>cond (Nat.beq i id) (some ks) (Zo id ks)
 |_::ks=>Zo id ks
def Zp(T:Tr)(n:Nat)(f:Nat→AV)(H:List En):List ResultVar→List Prop→Option (List SV×List Prop)
 |[],c=>some ([],c)
 | .tmp d::r,c=>match Nat.blt d n,f d with
  |true,.s v=>match Zp T n f H r c with
   |some (l,c)=>some (v::l,c)
   |none=>none
  |_,_=>none
 | .cell d s::r,c=>match Nat.blt d n,f d,T.find s with
  |true,.s (.p j q b),some e=>match nth H j with
   |some ⟨a,_,l⟩=>match Hk l q e.m e.fM with
    |some v=>match Zp T n f H r (Ad a b::c)with
     |some (l,c)=>some (v::l,c)
     |none=>none
    |none=>none
   |none=>none
  |_,_,_=>none
def reA:List SV→AV
 |[v]=> .s v
 |l=> .t l
def jL:List Prop→Prop
 |[]=>True
 |p::l=>p∧jL l
structure Sx where
 h:List Nat
 z:List Int
 ks:List Fr
 f:Nat→AV
 H:List En
def opS(T:Tr)(n:Nat)(md:Md)(ops:tP)(i m:Nat)(t:Ord):Sx→Option (Sx×List Prop)
 |⟨h,z,ks,f,H⟩=>match ops[i]? with
  |none=>none
  |some o=>match sS n ops f o with
   |none=>none
   |some false=>match o.dst with
    |some d=>some (⟨h,z,.g md ops t::ks,ua f d (vv undef),H⟩,[])
    |none=>match m with
     |2=>some (⟨h,z,.g md ops t::ks,f,H⟩,[])
     |_=>none
   |some true=>match m with
    |0=>match o.dst with
     |some d=>match QO T f o.op with
      |some (v,c)=>some (⟨h,z,.g md ops t::ks,ua f d v,H⟩,c)
      |none=>match Rf T f h z o.op with
       |some (h,z,v,c)=>some (⟨h,z,.g md ops t::ks,ua f d v,H⟩,c)
       |none=>none
     |none=>none
    |1=>match o.dst with
     |some d=>match rdA T md f H o.op with
      |some (v,c)=>some (⟨h,z,.g md ops t::ks,ua f d v,H⟩,c)
      |none=>none
     |none=>none
    |_=>match o.dst with
     |some d=>match rdA T Re f H o.op with
      |some (v,c)=>some (⟨h,z,.g md ops t::ks,ua f d v,H⟩,c)
      |none=>none
     |none=>match stA T md i f H o.op with
      |some (H,c)=>some (⟨h,z,.g md ops t::ks,f,H⟩,c)
      |none=>none
def jc(T:Tr)(n:Nat)(rs:List ResultVar):Sx→Option (Sx×List Prop)
 |⟨_,_,[],_,_⟩=>none
 |⟨h,z,.c c::ks,f,H⟩=>match c with
  | .seq a b=>some (⟨h,z,.c a:: .c b::ks,f,H⟩,[])
  | .skip=>some (⟨h,z,ks,f,H⟩,[])
  | .block id b=>some (⟨h,z,.c b:: .b id::ks,f,H⟩,[])
  | .exit id=>match Zo id ks with
   |some ks=>some (⟨h,z,ks,f,H⟩,[])
   |none=>none
  | .ret=>match Zp T n f H rs []with
   |some (l,c)=>some (⟨h,z,[.e (reA l)],f,H⟩,c)
   |none=>none
  | .cond x a b=>match ea f x with
   | .s (.o (.bool true))=>some (⟨h,z,.c a::ks,f,H⟩,[])
   | .s (.o (.bool false))=>some (⟨h,z,.c b::ks,f,H⟩,[])
   |_=>none
  | .region _ ops false=>some (⟨h,z,.g Re ops (QN ops ops.size 0)::ks,f,H⟩,[])
  | .region _ ops true=>match h with
   |1::h=>some (⟨h,z,.g Re ops (QN ops ops.size 0)::ks,f,H⟩,[Dr Re ops (QN ops ops.size 0)])
   |2::h=>some (⟨h,z,.g md1 ops (QN ops ops.size 0)::ks,f,H⟩,[Dr md1 ops (QN ops ops.size 0)])
   |3::h=>some (⟨h,z,.g Re ops (Ei [] ops ops.size [])::ks,f,H⟩,[Dr Re ops (Ei [] ops ops.size [])])
   |4::h=>some (⟨h,z,.g md1 ops (Ei [] ops ops.size [])::ks,f,H⟩,[Dr md1 ops (Ei [] ops ops.size [])])
   |5::j::i::h=>match nth H j with
    |some ⟨a,_,_⟩=>some (⟨h,z,.g ⟨false,[j],[a],[i]⟩ ops (Ei [] ops ops.size [])::ks,f,H⟩,[Dr ⟨false,[j],[a],[i]⟩ ops (Ei [] ops ops.size [])])
    |none=>none
   |6::j::i::h=>match nth H j with
    |some ⟨a,_,_⟩=>some (⟨h,z,.g ⟨true,[j],[a],[i]⟩ ops (Ei [] ops ops.size [])::ks,f,H⟩,[Dr ⟨true,[j],[a],[i]⟩ ops (Ei [] ops ops.size [])])
    |none=>none
   |8::j::h=>some (⟨h,z,.g md1 ops (Ei [j] ops ops.size [])::ks,f,H⟩,[Dr md1 ops (Ei [j] ops ops.size [])])
   |7::j::i::k::h=>match nth H j with
    |some ⟨a,_,_⟩=>some (⟨h,z,.g ⟨true,[j],[a],[i,k]⟩ ops (Ei [] ops ops.size [])::ks,f,H⟩,[Dr ⟨true,[j],[a],[i,k]⟩ ops (Ei [] ops ops.size [])])
    |none=>none
   |_=>none
  |_=>none
 |⟨h,z,.b _::ks,f,H⟩=>some (⟨h,z,ks,f,H⟩,[])
 |⟨h,z,.g md ops t::ks,f,H⟩=>match t with
  | .nil=>some (⟨h,z,ks,f,H⟩,[])
  | .pu i t=>opS T n md ops i 0 t ⟨h,z,ks,f,H⟩
  | .rd i t=>opS T n md ops i 1 t ⟨h,z,ks,f,H⟩
  | .ef i t=>opS T n md ops i 2 t ⟨h,z,ks,f,H⟩
  |_=>none
 |_=>none
def alS(T:Tr)(n:Nat):Sx→Option (Nat×Ord×Md×Array Oper×List Fr×Nat×List Sg×Nat×List Prop)
 |⟨_,_,.g md ops (.ef i t)::ks,f,_⟩=>match ops[i]? with
  |some o=>match o.dst,sS n ops f o with
   |some d,some true=>match Zn T f o.op with
    |some (s,l,k,c)=>some (d,t,md,ops,ks,s,l,k,c)
    |none=>none
   |_,_=>none
  |none=>none
 |_=>none
def Rg(j k a:Nat):AV:=match k with
 |0=>vp j 0 a
 |k=>vv (.slice (some ⟨a,0,none⟩) k k)
def sh(α:tV):Nat→Nat:=fun i=>α (i+1)
def Yt(c' c:List Prop):List Prop:=match c' with
 |[]=>c
 |[p]=>p::c
 |[p,q]=>p::q::c
 |c'=>c'++c
theorem FA(c' c:List Prop):Yt c' c=c'++c:=by
 unfold Yt;split<;>rfl
def run(T:Tr)(n:Nat)(rs:List ResultVar):Nat→(Nat→Nat)→Sx→List Prop→Sx×List Prop
 |0,_,s,c=>(s,c)
 |k+1,α,⟨h,z,ks,f,H⟩,c=>match jc T n rs ⟨h,z,ks,f,H⟩with
  |some (s,c')=>run T n rs k α s (Yt c' c)
  |none=>match alS T n ⟨h,z,ks,f,H⟩with
   |some (d,t,md,ops,ks,s,l,m,c')=>Zl H ⟨α 0,s,l⟩ fun H'=>run T n rs k (sh α) ⟨h,z,.g md ops t::ks,ua f d (Rg H.length m (α 0)),H'⟩ (Yt c' c)
   |none=>(⟨h,z,ks,f,H⟩,c)
theorem Rh(L:tM):cE (fun i=>L.getD i undef) 0 L.length=L:=by
 apply BH;intro i;by_cases h:i<L.length
 ·rw[bW _ _ _ _ h,Aj,Aw,Ai h];rfl
 ·rw[gL _ _ _ _ (by omega),Be (by omega)]
theorem En.n(e:En):e.g_.n=(dD e.l).length:=(de e.l).symm
section
variable{w:tA}{e:En}
theorem En.cell(h:bh w e.g_.a e.g_.t e.g_.n e.g_.f){i:Nat}{v:tK}(hv:(dD e.l)[i]? =some v):w.cell? ⟨e.a,i,none⟩=some v:=by
 have hi:=(Ap.1 hv).1;have:=h.at i (by rw[En.n];exact hi);rw[show w.cell? ⟨e.a,i,none⟩=some (e.g_.f i) from this];show some (cy e.l i)=_;rw[iu e.l (by rw[←de];exact hi),Aw,hv];rfl
theorem En.range(h:bh w e.g_.a e.g_.t e.g_.n e.g_.f){q:Nat}{L:tM}(hL:∀j v,L[j]? =some v→(dD e.l)[q+j]? =some v):w.rangeAt e.a q L:=fun j v hv=>En.cell h (hL j v hv)
theorem Mq{w:tA}{a t:Nat}{l:List Sg}:bh w a t (eX l) (cy l)↔bh w a t (eX l) fun i=>(dD l).getD i undef:=
 ⟨fun h=>h.congr fun _ hi=>iu l hi,fun h=>h.congr fun _ hi=>(iu l hi).symm⟩
theorem En.new(w:tA)(t:Nat)(l:List Sg):bh (w.alloc (.cells (dD l).toArray t)) w.heap.size t (eX l) (cy l):=by
 rw[Mq];have:=bh.new w t (eX l) fun i=>(dD l).getD i undef;rw[←de,Rh,de]at this;exact this
theorem En.put{a t:Nat}{l:List Sg}(h:bh w a t (eX l) (cy l))(q:Nat){N:tM}{l':List Sg}(hq:q+N.length≤eX l)(hl:dD l'=(dD l).take q++(N++(dD l).drop (q+N.length))):bh (w.setCells a q N) a t (eX l') (cy l'):=by
 rw[Mq]at h⊢;have h1:=h.put q N.length (fun i=>N.getD i undef) hq;rw[Rh]at h1;have hs:eX l'=eX l:=by
  rw[←de,←de,hl];rw[←de]at hq;simp only[List.length_append,List.length_take,List.length_drop];omega
 rw[hs];refine h1.congr fun i hi=> ?_;rw[←de]at hq hi;unfold gh;show(if q≤i∧i<q+N.length then N.getD (i-q) undef else(dD l).getD i undef)=(dD l').getD i undef;rw[hl];simp only[List.getD_eq_getElem?_getD];by_cases h1:i<q
 ·rw[Aa (by omega),AZ (by simp;omega),AO,Ae h1]
 ·have hl1:((dD l).take q).length=q:=by rw[AM];omega
  rw[AQ (by omega),hl1];by_cases h2:i<q+N.length
  ·rw[Ae ⟨by omega,h2⟩,AZ (by omega)]
  ·rw[Aa (by omega),AQ (by omega),BO,show q+N.length+(i-q-N.length)=i by omega]
end
theorem abI:∀{l:List Sg} {v:SV},hdA l=some v→(dD l)[0]? =some v.val
 |[],_,h=>by cases h
 | .o x::l,v,h=>by cases h;rw[eQ];rfl
 | .p j q b::l,v,h=>by cases h;rw[eQ];rfl
 | .f 0 g::l,v,h=>by cases h
 | .f (m+1) g::l,v,h=>by
  cases h;rw[eQ,AZ (by rw[Sg.len];exact Nat.succ_pos m)];show(cE g 0 (m+1))[0]? =_;rw[bW _ _ _ _ (Nat.succ_pos m)];rfl
theorem Hl{l:List Sg}{q m:Nat}{v:SV}(h:Hk l q m true=some v):(dD l)[q]? =some v.val:=by
 have h1:=abI (l:=iQ l q) h;rw[iR,BO,Cn]at h1;exact h1
theorem Hm{l:List Sg}{q m:Nat}{v:SV}(h:Hk l q m false=some v):∃l',v= .g l'∧(dD l').length=m∧∀(j:Nat) (x:tK),(dD l')[j]? =some x→(dD l)[q+j]? =some x:=by
 unfold Hk at h;simp only[sR]at h;split at h
 ·rename_i hb;cases h;refine⟨_,rfl,by rw[de];exact Bd hb,fun j x hx=> ?_⟩;rw[jJ,iR,AO]at hx;split at hx
  ·rw[BO]at hx;exact hx
  ·cases hx
 ·cases h
section
variable{P:tY}{T:Tr}{n:Nat}{ops:tP}{f:Nat→AV}{o:Oper}{c:Bool}
theorem fF(h:sS n ops f o=some c):Region.wanted o (yielded ops (ly n (cn f)))=c:=by
 unfold sS at h;unfold Region.wanted;cases hg:o.guard with
 |none=>rw[hg]at h;exact AY h
 |some g=>
  obtain⟨j,b⟩:=g;rw[hg]at h;simp only at h⊢;cases hj:ops[j]? with
  |none=>rw[hj]at h;cases h
  |some oj=>
   rw[hj]at h;simp only at h;cases hd:oj.dst with
   |none=>rw[hd]at h;cases h
   |some d=>
    rw[hd]at h;simp only at h;split at h
    ·rename_i c' aN hv;have hl:d<n:=by simpa[Nat.blt_eq]using aN
     have hy:yielded ops (ly n (cn f)) j=some c':=by
      unfold yielded;rw[hj];simp only[Option.bind_some,hd,qi hl];show(match some (cn f d)with|some (.bool b)=>some b|_=>none)=_;unfold cn;rw[hv];rfl
     rw[hy];have:=AY h;rw[←this];simp
    ·rename_i aN hv;have hl:d<n:=by simpa[Nat.blt_eq]using aN
     have hy:yielded ops (ly n (cn f)) j=none:=by
      unfold yielded;rw[hj];simp only[Option.bind_some,hd,qi hl];show(match some (cn f d)with|some (.bool b)=>some b|_=>none)=_;unfold cn;rw[hv];rfl
     rw[hy];have:=AY h;rw[←this];rfl
    ·cases h
theorem Yu{md:Md}{H:List En}{M:tF}{Φ R:tJ}{w:tA}{v:AV}{c:List Prop}(hT:T.Ok P)(hr:rdA T md f H o.op=some (v,c))(hc:jL c)(hS:Mem w (hs H) M Φ R):∀w',Ed md.va w w'→(execOp (ev (cn f)) o).run P w'= .ok (.value v.val) w':=by
 intro w' hb;cases hp:o.op with
 |load s x=>
  rw[hp]at hr;simp only[rdA]at hr;split at hr
  ·rename_i e j q b hf hx;split at hr
   ·rename_i a t l hn;split at hr
    ·rename_i v' hv;have jM:a=b∧v= .s v'∧(md.va=[]∨Va H md j false):=by
      split at hr<;>cases hr
      ·exact⟨hc.1,rfl,.inl hc.2.1⟩
      ·exact⟨hc.1,rfl,.inr hc.2.1⟩
     obtain⟨rfl,rfl,N8⟩:=jM;have hx:ev (cn f) x= .pointer (some ⟨a,q,none⟩):=by rw[←bC,hx];rfl
     rw[eR]at hn;have he:(hs H)[j]? =some (En.g_ ⟨a,t,l⟩):=by rw[Ax,hn];rfl
     have hnv:a∉md.va:=by
      rcases N8 with e|⟨e1,e2⟩
      ·rw[e];exact nv
      ·intro hm;have hm:some a∈md.va.map some:=Ay.2 ⟨a,hm,rfl⟩;rw[e1]at hm;obtain⟨k,hk,DA⟩:=Ay.1 hm;rw[eR]at DA;cases hHk:H[k]? with
       |none=>rw[hHk]at DA;cases DA
       |some en=>
        rw[hHk]at DA;have DA:en.a=a:=by simpa using DA
        have:=hS.oY j k (En.g_ ⟨a,t,l⟩) en.g_ he (by rw[Ax,hHk];rfl) DA.symm;subst this;rw[List.contains_iff_mem.2 hk]at e2;cases e2
     have fb:=(hS.at j he).Fu hb hnv;obtain⟨hg,rfl⟩:=hT.fe hf;cases h1:e.fM with
     |true=>
      rw[h1]at hv;have h2:=En.cell (e:=⟨a,t,l⟩) fb (Hl hv);simp only[execOp,hp,hx,Sem.run_bind,Ft (Ty.one hg h1).1 h2,Result.andThen_ok,Sem.run_pure];rfl
     |false=>
      rw[h1]at hv;obtain⟨l',rfl,hl,hr⟩:=Hm hv;obtain⟨dd,hu,rV,hi⟩:=sN (Ty.row hg h1);have:=run_loadAt_mid (P:=P) w' a q e.id (dD l') dd (En.range (e:=⟨a,t,l⟩) fb hr) hu rV (by rw[hl];exact hi);simp only[execOp,hp,hx,Sem.run_bind,this,Result.andThen_ok,Sem.run_pure];rfl
    ·cases hr
   ·cases hr
  ·cases hr
 |_=>rw[hp]at hr;simp only[rdA,reduceCtorEq]at hr
theorem yt:∀{l:List Sg},Vh l→(dD l).all (·.oneCell')=true
 |[],_=>rfl
 | .o x::l,h=>by
  rw[eQ,List.all_append,yt h.2];simp[Sg.cl,h.1.2]
 | .p j q b::l,h=>by
  rw[eQ,List.all_append,yt (l:=l) h];rfl
 | .f m g::l,h=>by
  rw[eQ,List.all_append,yt h.2,Bool.and_true];have:=aW.all h.1;simpa[Sg.cl]using this
theorem abK{md:Md}{i:Nat}{H H':List En}{M:tF}{Φ R:tJ}{w:tA}{c:List Prop}(hT:T.Ok P)(hr:stA T md i f H o.op=some (H',c))(hc:jL c)(hS:Mem w (hs H) M Φ R):∃w',(execOp (ev (cn f)) o).run P w= .ok .skip w'∧Mem w' (hs H') M Φ R∧(md.vs.contains i=true→Ed md.va w w'):=by
 cases hp:o.op with
 |store s x y=>
  rw[hp]at hr;simp only[stA,sR,Mo]at hr;split at hr
  ·rename_i e j q b v hf hx hy;split at hr
   ·rename_i a t l hn;split at hr
    ·rename_i hb;rw[AH]at hb;have hm:=Bd hb.1;have hq:=BK hb.2;rw[eR]at hn;have he:(hs H)[j]? =some (En.g_ ⟨a,t,l⟩):=by rw[Ax,hn];rfl
     have fb:=hS.at j he;obtain⟨hg,rfl⟩:=hT.fe hf;have hx:ev (cn f) x= .pointer (some ⟨b,q,none⟩):=by rw[←bC,hx];rfl
     have hy:ev (cn f) y=v.val:=by rw[←bC,hy];rfl
     have hlen:(dD v.kO).length=e.m:=(de _).trans hm;have key:H'=H.set j ⟨a,t,eZ l q++(v.kO++iQ l (q+e.m))⟩→(execOp (ev (cn f)) o).run P w= .ok .skip (w.setCells a q (dD v.kO))→(md.vs.contains i=true→a∈md.va)→∃w',(execOp (ev (cn f)) o).run P w= .ok .skip w'∧Mem w' (hs H') M Φ R∧(md.vs.contains i=true→Ed md.va w w'):=fun e1 e2 e5=>by
      refine⟨_,e2, ?_,fun e6=> ?_⟩
      rotate_left
      ·have ht:=aB.uu a (dD v.kO) q w;exact⟨ht.os,ht.tape,ht.output,Cc ht.size.symm,fun b _ hb=>ht.block b fun e=>hb (e▸e5 e6)⟩
      subst e1;have h1:=En.put (w:=w) (a:=a) (t:=t) (l:=l) fb q (N:=dD v.kO) (l':=eZ l q++(v.kO++iQ l (q+e.m))) (by rw[hlen];exact hq) (by rw[eC,eC,jJ,iR,hlen])
      have h2:=hS.turn he (aB.uu a (dD v.kO) q w) (f':=cy (eZ l q++(v.kO++iQ l (q+e.m)))) (by
       have e3:eX (eZ l q++(v.kO++iQ l (q+e.m)))=eX l:=by
        rw[←de,eC,eC,jJ,iR];simp only[List.length_append,List.length_take,List.length_drop,de,hm];omega
       rw[e3]at h1
       exact h1)
      have e4:hs (H.set j ⟨a,t,eZ l q++(v.kO++iQ l (q+e.m))⟩)=(hs H).set j ⟨a,t,eX l,cy (eZ l q++(v.kO++iQ l (q+e.m)))⟩:=by
       rw[hs,Co];congr 1;show bX.mk _ _ _ _=_;congr 1;rw[←de,eC,eC,jJ,iR];simp only[List.length_append,List.length_take,List.length_drop,de,hm];omega
      rw[e4];exact h2
     have VH:bh w a t (eX l) (cy l):=fb;have one:a=b→Vh v.kO→e.fM=true→v.kO=[.o v.val]∨(∃j q b,v= .p j q b)→(execOp (ev (cn f)) o).run P w= .ok .skip (w.setCells a q (dD v.kO)):=fun ha ho h1 hv=>by
      subst ha;have Ej:dD v.kO=[v.val]∧v.val.cells= #[v.val]∧v.val.oneCell'=true:=by
       rcases hv with hv|⟨j,q,b,rfl⟩
       ·rw[hv]at ho⊢;exact⟨rfl,ho.1.1,ho.1.2⟩
       ·exact⟨rfl,rfl,rfl⟩
      obtain⟨c1,c2,c3⟩:=Ej;have J5:=(Ty.one hg h1).2;rw[J5]at hq;rw[c1];simp only[execOp,hp,hx,hy,Sem.run_bind,sP (Ty.one hg h1).1 c2 c3 (VH.there q 1 hq),Result.andThen_ok,Sem.run_pure];rfl
     have fin:∀{H0:List En},(match md.vs.contains i with
       |true=>some (H0,[Ad a b,Vh v.kO,Va H md j true])
       |false=>some (H0,[Ad a b,Vh v.kO]))=some (H',c)→H'=H0∧a=b∧Vh v.kO∧(md.vs.contains i=true→a∈md.va):=fun {H0} h=>by
      split at h
      ·cases h;obtain⟨ha,ho,⟨e1,e2⟩,_⟩:=hc;refine⟨rfl,ha,ho,fun _=> ?_⟩;have hj:j∈md.vi:=by rwa [List.contains_iff_mem]at e2
       have:some a∈md.va.map some:=by
        rw[e1];exact Ay.2 ⟨j,hj,by rw[eR,hn];rfl⟩
       simpa using this
      ·rename_i hf;cases h;exact⟨rfl,hc.1,hc.2.1,fun e=>by rw[hf]at e;cases e⟩
     cases h1:e.fM with
     |true=>
      rw[h1]at hr;cases v with
      |o x=>
       obtain⟨e1,ha,ho,hl⟩:=fin hr;subst ha;exact key e1 (one rfl ho h1 (.inl rfl)) hl
      |p j' q' b'=>
       obtain⟨e1,ha,ho,hl⟩:=fin hr;subst ha;exact key e1 (one rfl ho h1 (.inr ⟨j',q',b',rfl⟩)) hl
      |g l=>cases hr
     |false=>
      rw[h1]at hr;cases v with
      |o x=>cases hr
      |p j' q' b'=>cases hr
      |g l'=>
       obtain⟨e1,ha,ho,hl⟩:=fin hr;subst ha;refine key e1 ?_ hl;obtain⟨dd,hu,rV,hi⟩:=sN (Ty.row hg h1);have Hg:(dD l').length=e.m:=hlen;have:=run_storeAt_mid (P:=P) w a q e.id (dD l').toArray (by simp only[List.size_toArray,Hg];exact VH.there q e.m hq) (by simp only[List.size_toArray,Hg];exact hi) (by simpa using yt (l:=l') ho);have hy:ev (cn f) y= .agg (dD l').toArray:=hy;simp only[execOp,hp,hx,hy,Sem.run_bind,this,Result.andThen_ok,Sem.run_pure];rfl
    ·cases hr
   ·cases hr
  ·cases hr
 |_=>rw[hp]at hr;simp only[stA,reduceCtorEq]at hr
end
theorem Ek(Z N:tM)(off:Nat)(h:off+N.length≤Z.length):(N.toArray.zipIdx.foldl (fun(cs:tR) (x:Value×Nat)=>cs.setIfInBounds (off+x.2) x.1) Z.toArray)=(Z.take off++(N++Z.drop (off+N.length))).toArray:=by
 obtain⟨h1,h2⟩:=Ec Z.toArray off N 0 (by simpa using h);have e1:N.toArray.zipIdx=(N.zipIdx 0).toArray:=by simp
 rw[e1,←Array.foldl_toList];apply Ca;intro i;refine(h2 i).trans ?_;simp only[Nat.add_zero,List.getElem?_toArray];by_cases a:i<off
 ·rw[Aa (by omega),AZ (by rw[AM];omega),AO,Ae a]
 ·have hl1:(Z.take off).length=off:=by rw[AM];omega
  rw[AQ (by omega),hl1];by_cases b:i<off+N.length
  ·rw[Ae ⟨by omega,b⟩,AZ (by omega)]
  ·rw[Aa (by omega),AQ (by omega),BO,show off+N.length+(i-off-N.length)=i by omega]
theorem mE{v:SV}(h:∀x,v= .o x→x.cells= #[x]):v.val.cells=(dD v.kO).toArray:=by
 cases v with
 |o x=>exact(h x rfl).trans rfl
 |p j q b=>rfl
 |g l=>rfl
theorem yS{pl:Nat→Option (Nat×Nat)}{i off sz:Nat}{l:List Sg}{v:SV}{rest:List (Nat×Value)}(hp:pl i=some (off,sz))(hv:v.val.cells=(dD v.kO).toArray)(hs:eX v.kO=sz)(ho:off+sz≤eX l):
  Instr.fill pl (dD l).toArray ((i,v.val)::rest)=Instr.fill pl (dD (eZ l off++(v.kO++iQ l (off+sz)))).toArray rest:=by
 have hl:(dD v.kO).length=sz:=(de _).trans hs;rw[Instr.fill,hp];simp only[hv];have e1:((dD v.kO).toArray.size≠sz||decide (off+(dD v.kO).toArray.size>(dD l).toArray.size))=false:=by
  simp only[List.size_toArray,hl,de];simp;omega
 have e2:=Ek (dD l) (dD v.kO) off (by rw[hl,de];exact ho);rw[e1];simp only[Bool.false_eq_true,if_false];have e3:dD (eZ l off++(v.kO++iQ l (off+sz)))=(dD l).take off++(dD v.kO++(dD l).drop (off+(dD v.kO).length)):=by rw[eC,eC,jJ,iR,hl]
 rw[e3,←e2]
section
variable{P:tY}{T:Tr}{n:Nat}{ops:tP}{f:Nat→AV}{o:Oper}
theorem nY:∀{a b:List Prop},jL (a++b)→jL a∧jL b
 |[],_,h=>⟨trivial,h⟩
 |_::_,_,h=>⟨⟨h.1,(nY h.2).1⟩,(nY h.2).2⟩
theorem Ms{pl:Nat→Option (Nat×Nat)}:∀(r:List (Nat×Operand)) (l:List Sg) (c:List Prop) {l':List Sg} {c':List Prop},Zm f pl r l c=some (l',c')→jL c'→Instr.fill pl (dD l).toArray (r.map fun(p:Nat×Operand)=>(p.1,ev (cn f) p.2))=some (dD l').toArray∧eX l'=eX l∧jL c
 |[],l,c,l',c',h,hc=>by
  cases h;exact⟨rfl,rfl,hc⟩
 |(i,x)::r,l,c,l',c',h,hc=>by
  unfold Zm at h;simp only[sR]at h;split at h
  ·rename_i off sz v hp hx;split at h
   ·rename_i hb;rw[AH]at hb;have hs:=Bd hb.1;have ho:=BK hb.2;have hv:ev (cn f) x=v.val:=by rw[←bC,hx];rfl
    have js:eX (eZ l off++(v.kO++iQ l (off+sz)))=eX l:=by
     rw[←de,eC,eC,jJ,iR];simp only[List.length_append,List.length_take,List.length_drop,de,hs];omega
    rw[List.map_cons];simp only[hv];cases v with
    |o y=>
     obtain⟨h1,h2,h3⟩:=Ms r _ _ h hc;refine⟨?_,h2.trans js,h3.2⟩;rw[yS hp (mE fun z e=>by cases e;exact h3.1) hs ho];exact h1
    |p j q b=>
     obtain⟨h1,h2,h3⟩:=Ms r _ _ h hc;refine⟨?_,h2.trans js,h3⟩;rw[yS hp (mE fun z e=>by cases e) hs ho];exact h1
    |g k=>
     obtain⟨h1,h2,h3⟩:=Ms r _ _ h hc;refine⟨?_,h2.trans js,h3⟩;rw[yS hp (mE fun z e=>by cases e) hs ho];exact h1
   ·cases h
  ·cases h
theorem Ri{s:Nat}{e:Ty}{parts:Array (Nat×Operand)}{l:List Sg}{c:List Prop}(hT:T.Ok P)(hf:T.find s=some e)(h1:e.fM=false)(hb:Zm f (VG e) parts.toList e.z []=some (l,c))(hc:jL c)(w:tA):(Instr.build s (parts.toList.map fun(p:Nat×Operand)=>(p.1,ev (cn f) p.2)).toArray).run P w= .ok (.agg (dD l).toArray) w:=by
 obtain⟨h2,_,_⟩:=Ms (f:=f) (pl:=VG e) parts.toList e.z [] hb hc;obtain⟨hg,rfl⟩:=hT.fe hf;have hz:=hT.zero hf;have ez:e.zero= .agg (dD e.z).toArray:=by
  unfold Ty.zero;rw[h1]
 rw[ez]at hz;refine Go.run_build w e.id _ (dD l).toArray ?_;cases hit:P.info? e.id with
 |none=>simp[hit]at hz
 |some it=>
  have hz:it.zero=some (.agg (dD e.z).toArray):=by simpa[hit]using hz
  have VI:(Value.agg (dD e.z).toArray).cells=(dD e.z).toArray:=rfl;have FB:=hg;unfold Ty.fe at FB;rw[AH]at FB;have FB:=FB.2;have nk:∀{k:Nat},e.kd=k→(match k with|0=>true|2=>true|4=>true|_=>false)=false:=fun e0=>by subst e0;exact h1
  split at FB
  ·rename_i k;cases nk k
  ·rename_i k1;have hp:=(Ty.plc hg k1).1;unfold VE at hp;split at hp
   ·rename_i fs hu;have G7:(VG e)=((e.fl.map fun x=>(x.1,x.2.1)).toArray[·]?):=by
     funext i;unfold VG;rw[k1];simp only[eR,List.getElem?_toArray,List.getElem?_map];cases e.fl[i]? <;>rfl
    rw[G7]at h2;unfold Program.built;simp only[hit,hu,hz,hp,VI];exact h2
   ·cases hp
  ·rename_i k;cases nk k
  ·rename_i k;cases nk k
  ·rename_i k1 _ _;simp only[Bool.and_eq_true,beq_iff_eq]at FB;have ha:=FB.1.2;unfold Hi at ha;split at ha
   ·rename_i len el hu;cases hi:P.info? el with
    |none=>simp[hi]at ha
    |some ti=>
     simp[hi]at ha;unfold Program.built;simp only[hit,hu,hz,hi,VI];by_cases k3:e.kd=3
     ·have G7:(VG e)=fun i=>some (i*e.es,e.es):=by
       funext i;unfold VG;rw[k3];rfl
      rw[G7,←ha.2]at h2;exact h2
     ·have G7:∀i,VG e i=none:=fun i=>by
       unfold VG;split
       ·rename_i k;exact absurd k k1
       ·rename_i k;exact absurd k k3
       ·rfl
      cases hq:parts.toList with
      |nil=>rw[hq]at h2;exact h2
      |cons p r=>
       obtain⟨i,x⟩:=p;rw[hq]at hb;unfold Zm at hb;rw[G7]at hb;simp at hb
   ·cases ha
theorem abL{v:AV}{c:List Prop}(hT:T.Ok P)(h:QO T f o.op=some (v,c))(hc:jL c)(w:tA):(execOp (ev (cn f)) o).run P w= .ok (.value v.val) w:=by
 have mv:∀x v c,(match ea f x with| .s v=>some (AV.s v,([]:List Prop))| .t l=>some (.t l,[]))=some (v,c)→v=ea f x:=fun x v c h=>by
  split at h<;>(rename_i e;cases h;exact e.symm)
 cases hp:o.op with
 |move x=>
  rw[hp]at h;obtain rfl:=mv x v c h;simp only[execOp,hp,Sem.run_pure,bC]
 |assign x=>
  rw[hp]at h;obtain rfl:=mv x v c h;simp only[execOp,hp,Sem.run_pure,bC]
 |nilCheck x=>
  rw[hp]at h;simp only[QO]at h;split at h
  ·rename_i hx;cases h;have hx:ev (cn f) x=_:=(bC f x).symm.trans (AB AV.val hx);simp only[execOp,hp,hx];rfl
  ·rename_i hx;cases h;have hx:ev (cn f) x=_:=(bC f x).symm.trans (AB AV.val hx);simp only[execOp,hp,hx];rfl
  ·cases h
 |fieldAddr s x k=>
  rw[hp]at h;simp only[QO]at h;split at h
  ·rename_i e hf;obtain⟨hg,rfl⟩:=hT.fe hf;split at h
   ·rename_i off _ _ k1 hk;rw[eR]at hk;have hfo:=Ra hg k1 hk;split at h
    ·rename_i hx;cases h;have hx:ev (cn f) x= .pointer _:=(bC f x).symm.trans (AB AV.val hx);simp only[execOp,hp,hx,Sem.run_bind,Ee hfo,Result.andThen_ok,Sem.run_pure];rfl
    ·rename_i hx;cases h;have hx:ev (cn f) x= .pointer _:=(bC f x).symm.trans (AB AV.val hx);simp only[execOp,hp,hx,Sem.run_bind,Ee hfo,Result.andThen_ok,Sem.run_pure];rfl
    ·cases h
   ·cases h
  ·cases h
 |extract x k=>
  rw[hp]at h;simp only[QO]at h;split at h
  ·rename_i l hx;split at h
   ·rename_i s hk;cases h;rw[eR]at hk;have hx:ev (cn f) x= .tuple (l.map SV.val).toArray:=(bC f x).symm.trans (AB AV.val hx);have hk:(l.map SV.val).toArray[k]? =some s.val:=by simp[hk]
    simp only[execOp,hp,hx,Instr.extract,hk,Sem.run_bind,Result.andThen_ok,Sem.run_pure];rfl
   ·cases h
  ·cases h
 |pick x y z=>
  rw[hp]at h;simp only[QO]at h;split at h
  ·rename_i hx;cases h;have hx:ev (cn f) x= .bool true:=(bC f x).symm.trans (AB AV.val hx);simp only[execOp,hp,hx,asBool,Sem.run_bind,Result.andThen_ok,Sem.run_pure,bC,if_true]
  ·rename_i hx;cases h;have hx:ev (cn f) x= .bool false:=(bC f x).symm.trans (AB AV.val hx);simp[execOp,hp,hx,asBool,bC]
  ·cases h
 |unOp u s x=>
  rw[hp]at h;cases u<;>simp only[QO,reduceCtorEq]at h
  split at h
  ·rename_i hx;cases h;have hx:ev (cn f) x= .bool true:=(bC f x).symm.trans (AB AV.val hx);simp only[execOp,hp,hx,Op.unary,Sem.run_bind,Result.andThen_ok,Sem.run_pure];rfl
  ·rename_i hx;cases h;have hx:ev (cn f) x= .bool false:=(bC f x).symm.trans (AB AV.val hx);simp only[execOp,hp,hx,Op.unary,Sem.run_bind,Result.andThen_ok,Sem.run_pure];rfl
  ·cases h
 |build s parts=>
  rw[hp]at h;simp only[QO]at h;split at h
  ·rename_i e hf;split at h
   ·cases h
   ·rename_i h1;split at h
    ·rename_i l c' hb;cases h;have h1:e.fM=false:=h1;have e1:(parts.map fun(i,x)=>(i,ev (cn f) x))=(parts.toList.map fun(p:Nat×Operand)=>(p.1,ev (cn f) p.2)).toArray:=yP _ _;simp only[execOp,hp,Sem.run_bind,e1,Ri hT hf h1 hb hc,Result.andThen_ok,Sem.run_pure];rfl
    ·cases h
  ·cases h
 |makeFunc fn xs ys=>
  rw[hp]at h;cases h;have e1:∀xs:Array Operand,xs.map (ev (cn f))=(xs.toList.map fun x=>(ea f x).val).toArray:=fun xs=>by
   rw[yP];congr 1;exact BR fun x _=>(bC f x).symm
  simp only[execOp,hp,Instr.makeFunc,Sem.run_bind,Result.andThen_ok,Sem.run_pure,e1];rfl
 |call cl=>
  obtain⟨ce,xs,ts⟩:=cl;rw[hp]at h;cases ce with
  |value v=>simp only[QO,reduceCtorEq]at h
  |builtin bi=>
   cases bi<;>simp only[QO,reduceCtorEq]at h
   split at h
   ·rename_i x s e1 e2;split at h
    ·rename_i e a l c' hf hx;split at h
     ·rename_i k2;cases h;obtain⟨hg,rfl⟩:=hT.fe hf;have hx:ev (cn f) x= .slice a l c':=(bC f x).symm.trans (AB AV.val hx);have hfo:=(Ty.slc hg k2).1;obtain rfl:xs= #[x]:=by
       apply Array.ext';rw[e1]
      obtain rfl:ts= #[e.id]:=by
       apply Array.ext';rw[e2]
      unfold jr at hfo;split at hfo
      ·rename_i e hu;simp[execOp,hp,resolve,hx,invoke,builtin,Builtin.len_,run_underlying hu,goInt];rfl
      ·cases hfo
     ·cases h
    ·cases h
   ·cases h
  |_=>simp only[QO,reduceCtorEq]at h
 |_=>rw[hp]at h;simp only[QO,reduceCtorEq]at h
end
section
variable{P:tY}{T:Tr}{n:Nat}{ops:tP}{f:Nat→AV}{o:Oper}
theorem dM{x:tU}{v:AV}(hx:ea f x=v):ev (cn f) x=v.val:=(bC f x).symm.trans (AB AV.val hx)
theorem Yv{s:Nat}{e:Ty}(hT:T.Ok P)(hf:T.find s=some e)(hk:e.kd=4):∃a b c,P.underlying s=some (.func a b c):=by
 obtain⟨hg,rfl⟩:=hT.fe hf;have:=Ty.fn hg hk;unfold Zj at this;split at this
 ·rename_i a b c hu;exact⟨a,b,c,hu⟩
 ·cases this
theorem Rl{s:Nat}{v:tK}{b:Bool}(hu:∃a b c,P.underlying s=some (.func a b c))(hv:(v= .nilFunc∧b=false)∨(∃x y z,v= .func x y z)∧b=true)(x y:tU)(w:tA):(do eqGuard .neq s x y v .nilFunc;pure (Next.value (←binOp .neq s v .nilFunc))).run P w= .ok (.value (.bool b)) w:=by
 obtain⟨a,b',c,hu⟩:=hu;have e1:∀u v,Op.equal s u v=Op.equalIn (9999+1) s u v:=fun _ _=>rfl;have k1:∀d w,(Op.equalIn (d+1) s .nilFunc .nilFunc).run P w= .ok true w:=fun d w=>by
  rw[Op.equalIn];simp[run_underlying hu]
 have k2:∀d x y z w,(Op.equalIn (d+1) s (.func x y z) .nilFunc).run P w= .ok false w:=fun d x y z w=>by
  rw[Op.equalIn];simp[run_underlying hu]
 rcases hv with⟨rfl,rfl⟩|⟨⟨a1,a2,a3,rfl⟩,rfl⟩
 ·simp only[eqGuard,binOp,e1];simp[k1]
 ·simp only[eqGuard,binOp,e1];simp[k2]
theorem abM{g:BinOp}{s s':Nat}{x y:tU}{h h':tW}{z z':tG}{v:AV}{c:List Prop}(hT:T.Ok P)(hp:o.op= .binOp g s x y s')(hr:cpA T g s (ea f x) (ea f y) h z=some (h',z',v,c))(hc:jL c)(w:tA):(execOp (ev (cn f)) o).run P w= .ok (.value v.val) w:=by
 have cmp:∀{a b:Int} {cc:Bool},ev (cn f) x=iV a→ev (cn f) y=iV b→sO g a b=some cc→(execOp (ev (cn f)) o).run P w= .ok (.value (.bool cc)) w:=fun {a b cc} hx hy hc=>by
  cases g<;>simp only[sO,Option.some.injEq,reduceCtorEq]at hc<;>subst hc<;>simp[execOp,hp,hx,hy,eqGuard,binOp,Op.intCmp]
 unfold cpA at hr;split at hr
 ·rename_i hx hy;split at hr
  ·cases hr;exact cmp (dM hx) (dM hy) hc.1
  ·cases hr;exact cmp (dM hx) (dM hy) hc.1
  ·cases hr
 ·rename_i hx hy;split at hr
  ·rename_i hf _;cases hr;have hx:ev (cn f) x= .nilFunc:=dM hx;have hy:ev (cn f) y= .nilFunc:=dM hy;simp only[execOp,hp,hx,hy];exact Rl (Yv hT hf hc.1) (.inl ⟨rfl,rfl⟩) x y w
  ·cases hr
 ·rename_i hx hy;split at hr
  ·rename_i hf _;cases hr;have hx:ev (cn f) x= .func _ _ _:=dM hx;have hy:ev (cn f) y= .nilFunc:=dM hy;simp only[execOp,hp,hx,hy];exact Rl (Yv hT hf hc.1) (.inr ⟨⟨_,_,_,rfl⟩,rfl⟩) x y w
  ·cases hr
 ·cases hr
theorem abN{h h':tW}{z z':tG}{v:AV}{c:List Prop}(hT:T.Ok P)(hr:Rf T f h z o.op=some (h',z',v,c))(hc:jL c)(w:tA):(execOp (ev (cn f)) o).run P w= .ok (.value v.val) w:=by
 cases hp:o.op with
 |binOp g s x y s'=>
  rw[hp]at hr;have rest:=fun hr=>abM (o:=o) (f:=f) (h:=h) (z:=z) (h':=h') (z':=z') (v:=v) hT hp hr hc w;cases g with
  |add=>
   simp only[Rf]at hr;split at hr
   ·rename_i hx hy;cases hr;have hx:ev (cn f) x=iV _:=dM hx;have hy:ev (cn f) y=iV _:=dM hy;simp[execOp,hp,hx,hy,eqGuard,binOp,Op.intArith];rfl
   ·rename_i hx hy;split at hr
    ·cases hr;obtain⟨rfl,_⟩:=hc;have hx:ev (cn f) x=iV _:=dM hx;have hy:ev (cn f) y=iV _:=dM hy;simp[execOp,hp,hx,hy,eqGuard,binOp,Op.intArith];rfl
    ·cases hr
   ·cases hr
  |sub=>
   simp only[Rf]at hr;split at hr
   ·rename_i hx hy;cases hr;have hx:ev (cn f) x=iV _:=dM hx;have hy:ev (cn f) y=iV _:=dM hy;simp[execOp,hp,hx,hy,eqGuard,binOp,Op.intArith];rfl
   ·rename_i hx hy;split at hr
    ·cases hr;obtain⟨rfl,_⟩:=hc;have hx:ev (cn f) x=iV _:=dM hx;have hy:ev (cn f) y=iV _:=dM hy;simp[execOp,hp,hx,hy,eqGuard,binOp,Op.intArith];rfl
    ·cases hr
   ·cases hr
  |_=>exact rest hr
 |indexAddr s x y=>
  rw[hp]at hr;simp only[Rf]at hr;split at hr
  ·rename_i e hf;obtain⟨hg,rfl⟩:=hT.fe hf;split at hr
   ·rename_i k2;split at hr
    ·rename_i b q len cap j hx hy;cases hr;have hx:ev (cn f) x= .slice (some ⟨b,q,none⟩) len cap:=dM hx;have hy:ev (cn f) y=iV (j:Int):=dM hy;simp only[execOp,hp,hx,hy,Sem.run_bind,Vy (Ty.slc hg k2).1 b q len cap j hc.1,Result.andThen_ok,Sem.run_pure];rfl
    ·cases hr
   ·rename_i k3;split at hr
    ·rename_i k q b j hx hy;have hx:ev (cn f) x= .pointer (some ⟨b,q,none⟩):=dM hx;have hy:ev (cn f) y=iV (j:Int):=dM hy;split at hr
     ·cases hr;simp only[execOp,hp,hx,hy,Sem.run_bind,Fs (len:=e.ar) (sz:=e.es) (Ty.arr hg k3) b q j hc.1,Result.andThen_ok,Sem.run_pure];rfl
     ·cases hr;simp only[execOp,hp,hx,hy,Sem.run_bind,Fs (len:=e.ar) (sz:=e.es) (Ty.arr hg k3) b q j hc.1,Result.andThen_ok,Sem.run_pure];rfl
     ·cases hr
    ·rename_i b q j hx hy;cases hr;have hx:ev (cn f) x= .pointer (some ⟨b,q,none⟩):=dM hx;have hy:ev (cn f) y=iV (j:Int):=dM hy;simp only[execOp,hp,hx,hy,Sem.run_bind,Fs (len:=e.ar) (sz:=e.es) (Ty.arr hg k3) b q j hc.1,Result.andThen_ok,Sem.run_pure];rfl
    ·cases hr
   ·cases hr
  ·cases hr
 |slice s x lo hi mx=>
  rw[hp]at hr;cases mx with
  |some _=>simp only[Rf,reduceCtorEq]at hr
  |none=>
   simp only[Rf]at hr;split at hr
   ·rename_i e a len cap hf hx;obtain⟨hg,rfl⟩:=hT.fe hf;have hx:ev (cn f) x= .slice a len cap:=dM hx;split at hr
    ·rename_i y u k2;split at hr
     ·rename_i l k hy hu;cases hr;have hy:ev (cn f) y=iV (l:Int):=dM hy;have hu:ev (cn f) u=iV (k:Int):=dM hu;simp only[execOp,hp,hx,hy,hu,Option.map_some,Option.map_none,Sem.run_bind,N4 (Ty.slc hg k2).1 a len cap l k hc.1 hc.2.1,Result.andThen_ok,Sem.run_pure];rfl
     ·cases hr
    ·rename_i y k2;split at hr
     ·rename_i l hy;cases hr;have hy:ev (cn f) y=iV (l:Int):=dM hy;simp only[execOp,hp,hx,hy,Option.map_some,Option.map_none,Sem.run_bind,Fv (Ty.slc hg k2).1 a len cap l hc.1,Result.andThen_ok,Sem.run_pure];rfl
     ·cases hr
    ·rename_i u k2;split at hr
     ·rename_i k hu;cases hr;have hu:ev (cn f) u=iV (k:Int):=dM hu;simp only[execOp,hp,hx,hu,Option.map_some,Option.map_none,Sem.run_bind,Fw (Ty.slc hg k2).1 a len cap k hc.1,Result.andThen_ok,Sem.run_pure];rfl
     ·cases hr
    ·cases hr
   ·cases hr
 |call cl=>
  obtain⟨ce,xs,ts⟩:=cl;rw[hp]at hr;cases ce with
  |value v=>simp only[Rf,reduceCtorEq]at hr
  |builtin bi=>
   cases bi<;>simp only[Rf,reduceCtorEq]at hr
   split at hr
   ·rename_i x y e1;obtain rfl:xs= #[x,y]:=by
     apply Array.ext';rw[e1]
    split at hr
    ·rename_i hx hy;cases hr;have hx:ev (cn f) x=iV _:=dM hx;have hy:ev (cn f) y=iV _:=dM hy;have h1:=hc.1;simp[execOp,hp,resolve,hx,hy,invoke,builtin,Builtin.min_,Builtin.min2,h1];rfl
    ·rename_i hx hy;cases hr;have hx:ev (cn f) x=iV _:=dM hx;have hy:ev (cn f) y=iV _:=dM hy;have h1:=hc.1;simp[execOp,hp,resolve,hx,hy,invoke,builtin,Builtin.min_,Builtin.min2,h1];rfl
    ·rename_i hx hy;split at hr
     ·cases hr;have hx:ev (cn f) x=iV _:=dM hx;have hy:ev (cn f) y=iV _:=dM hy;have h1:=hc.1;unfold Mn at h1;simp[execOp,hp,resolve,hx,hy,invoke,builtin,Builtin.min_,Builtin.min2,h1];rfl
     ·cases hr
    ·cases hr
   ·cases hr
  |_=>simp only[Rf,reduceCtorEq]at hr
 |_=>rw[hp]at hr;simp only[Rf,reduceCtorEq]at hr
end
theorem VJ{i sz:Nat}{A B:tM}{v:SV}{rest:List (Nat×Value)}(hv:v.val.cells=(dD v.kO).toArray)(hs:eX v.kO=sz)(hA:A.length=i*sz)(hB:sz≤B.length):
  Instr.fill (fun i=>some (i*sz,sz)) (A++B).toArray ((i,v.val)::rest)=Instr.fill (fun i=>some (i*sz,sz)) ((A++dD v.kO)++B.drop sz).toArray rest:=by
 have hl:(dD v.kO).length=sz:=(de _).trans hs;rw[Instr.fill];simp only[hv];have e1:((dD v.kO).toArray.size≠sz||decide (i*sz+(dD v.kO).toArray.size>(A++B).toArray.size))=false:=by
  simp only[List.size_toArray,hl,List.length_append,hA];simp;exact hB
 have e2:=Ek (A++B) (dD v.kO) (i*sz) (by rw[hl,Ag,hA];omega);rw[e1];simp only[Bool.false_eq_true,if_false];rw[e2,hl];congr 2;rw[←hA,List.take_left,List.drop_append,Cf (by omega),List.nil_append,Cu,AA]
section
variable{P:tY}{T:Tr}{n:Nat}{ops:tP}{f:Nat→AV}{o:Oper}
theorem Rm{sz:Nat}:∀(r:List (Nat×Operand)) (k:Nat) (c:List Prop) {l:List Sg} {c':List Prop} (A B:tM),elA f sz k r c=some (l,c')→jL c'→A.length=k*sz→B.length=r.length*sz→
  Instr.fill (fun i=>some (i*sz,sz)) (A++B).toArray (r.map fun(p:Nat×Operand)=>(p.1,ev (cn f) p.2))=some (A++dD l).toArray∧jL c
 |[],k,c,l,c',A,B,h,hc,hA,hB=>by
  cases h;obtain rfl:B=[]:=List.eq_nil_of_length_eq_zero (by simpa using hB);exact⟨rfl,hc⟩
 |(i,x)::r,k,c,l,c',A,B,h,hc,hA,hB=>by
  unfold elA at h;split at h
  ·rename_i v hb hx;obtain rfl:i=k:=Bd hb;have hv:ev (cn f) x=v.val:=dM hx;split at h
   ·rename_i Du;have hs:=Bd Du;have hl:(dD v.kO).length=sz:=(de _).trans hs;have hB2:B.length=r.length*sz+sz:=by rw[hB,List.length_cons,Nat.add_mul,Nat.one_mul]
    have step:∀c1 l1,elA f sz (i+1) r c1=some (l1,c')→v.val.cells=(dD v.kO).toArray→Instr.fill (fun i=>some (i*sz,sz)) (A++B).toArray (((i,x)::r).map fun(p:Nat×Operand)=>(p.1,ev (cn f) p.2))=some (A++dD (v.kO++l1)).toArray∧jL c1:=fun c1 l1 h1 Ej=>by
     rw[List.map_cons];simp only[hv];rw[VJ Ej hs hA (by omega)];obtain⟨h2,h3⟩:=Rm r (i+1) c1 (A++dD v.kO) (B.drop sz) h1 hc (by rw[Ag,hA,hl,Nat.add_mul,Nat.one_mul]) (by rw[AK,hB2];omega);rw[h2,eC,AA];exact⟨rfl,h3⟩
    split at h
    ·rename_i y;split at h
     ·rename_i l1 c1 h1;cases h;have QP:=(Rm r (i+1) ((y.cells= #[y])::c) (A++dD (SV.o y).kO) (B.drop sz) h1 hc (by rw[Ag,hA,hl,Nat.add_mul,Nat.one_mul]) (by rw[AK,hB2];omega)).2;obtain⟨h2,h3⟩:=step _ l1 h1 (mE fun z e=>by cases e;exact QP.1);exact⟨h2,h3.2⟩
     ·cases h
    ·rename_i nv;split at h
     ·rename_i l1 c1 h1;cases h;exact step _ l1 h1 (mE fun z e=>absurd e (nv z))
     ·cases h
   ·cases h
  ·cases h
theorem abO{j s k:Nat}{l:List Sg}{c:List Prop}{w:tA}(hT:T.Ok P)(hr:Zn T f o.op=some (s,l,k,c))(hc:jL c):(execOp (ev (cn f)) o).run P w= .ok (.value (Rg j k w.heap.size).val) (w.alloc (.cells (dD l).toArray s)):=by
 cases hp:o.op with
 |alloc s'=>
  rw[hp]at hr;simp only[Zn]at hr;split at hr
  ·rename_i e hf;cases hr;have hz:=ux (hT.zero hf) w;have Ej:e.zero.cells=(dD e.z).toArray:=by
    unfold Ty.zero;cases h1:e.fM with
    |true=>
     rw[h1]at hc;cases hz:e.z with
     |nil=>rw[hz]at hc;exact hc.1.elim
     |cons a t=>
      rw[hz]at hc;cases a with
      |o x=>
       cases t with
       |nil=>exact hc.1
       |cons _ _=>exact hc.1.elim
      |p _ _ _=>exact hc.1.elim
      |f _ _=>exact hc.1.elim
    |false=>rfl
   simp[execOp,hp,Instr.alloc,hz,go_sem];refine⟨rfl, ?_⟩;show w.alloc (.cells e.zero.cells _)=_;rw[Ej]
  ·cases hr
 |box s' x=>
  rw[hp]at hr;simp only[Zn]at hr;have key:∀v:SV,ea f x= .s v→v.val.cells=(dD v.kO).toArray→(execOp (ev (cn f)) o).run P w= .ok (.value (.pointer (some ⟨w.heap.size,0,none⟩))) (w.alloc (.cells (dD v.kO).toArray s')):=fun v hx Ej=>by
   have hx:ev (cn f) x=v.val:=dM hx;simp[execOp,hp,hx,Instr.box,go_sem];show w.alloc (.cells v.val.cells s')=_;rw[Ej]
  split at hr
  ·rename_i y hx;cases hr;exact key (.o y) hx (mE fun z e=>by cases e;exact hc.1)
  ·rename_i v nv hx;cases hr;exact key v hx (mE fun z e=>by subst e;exact absurd rfl (nv z))
  ·cases hr
 |buildSlice s' k' parts=>
  rw[hp]at hr;simp only[Zn,sR]at hr;split at hr
  ·rename_i e hf;obtain⟨hg,rfl⟩:=hT.fe hf;split at hr
   ·rename_i e2 k2 hf2;split at hr
    ·rename_i l1 c1 he;split at hr
     ·rename_i hb;simp only[Bool.and_eq_true]at hb;obtain⟨b1,b2,b3,b4⟩:=hb;have b1:=Bd b1;have b2:0<k'*e.es:=by simpa[Nat.blt_eq]using b2
      have b3:=BK b3;have b4:=Bd b4;cases k' with
      |zero=>cases hr
      |succ k''=>
       cases hr;obtain⟨hs,VK⟩:=Ty.slc hg k2;unfold jr at hs;unfold VF at VK;split at hs
       ·rename_i el hu;rw[hu]at VK;obtain rfl:el=e.el:=by simpa using VK
        cases hi:P.info? e.el with
        |none=>simp[hi]at hs
        |some ti=>
         have hs:ti.size=e.es:=by simpa[hi]using hs
         have js:∀w,(sizeOf e.el).run P w= .ok e.es w:=fun w=>by simp[sizeOf,typeInfo,hi,hs]
         have hz:∃z,(zeroValue e.el).run P w= .ok z w:=⟨_,ux (hT.zero hf2) w⟩;have h24:¬(k''+1)*e.es>2^24:=by omega
         have xP:¬(k''+1)*e.es=0:=by omega
         obtain⟨z,hz⟩:=hz;have e1:(parts.map fun(i,x)=>(i,ev (cn f) x))=(parts.toList.map fun(p:Nat×Operand)=>(p.1,ev (cn f) p.2)).toArray:=yP _ _;have iG:=(Rm (f:=f) parts.toList 0 [] [] ((Array.range ((k''+1)*e.es)).map (z.cells[· % z.cells.size]!)).toList he hc (by simp) (by simp[b1])).1;simp only[List.nil_append,Array.toArray_toList]at iG;simp only[execOp,hp,e1,Instr.buildSlice,Sem.run_bind,run_underlying hu,Result.andThen_ok,js,if_neg h24,if_neg xP,hz,Sem.run_pure,iG];simp[newRow,newObj,Sem.run];rfl
       ·cases hs
     ·cases hr
    ·cases hr
   ·cases hr
  ·cases hr
 |_=>rw[hp]at hr;simp only[Zn,reduceCtorEq]at hr
end
section
variable{P:tY}{T:Tr}{n:Nat}{ops:tP}{f:Nat→AV}{o:Oper}{fn:Func}{Rr:Ending→World→Prop}{M:tF}{Φ R:tJ}{H:List En}{w:tA}
theorem uz{V:tW}(w:tA):Ed V w w:=⟨rfl,rfl,rfl,Ac _,fun _ _ _=>rfl⟩
theorem yT{V fx fl:tW}{i:Nat}:fW (Ed V) fx fl i w w:=by
 unfold fW;split
 ·trivial
 ·split
  ·exact uz w
  ·rfl
theorem Yw{V:tW}{Q:tI}{fx fl:tW}{i:Nat}{t:Ord}{g:tD}(ho:ops[i]? =some o)(hw:Region.wanted o (yielded ops (ly n g))=false)(h:lV P ops Q (Ed V) fx fl t ((⟨ly n g,[]⟩:Act).put o.dst undef) w):WF P ops Q V fx fl (.ef i t) n g w:=by
 show wpOp P ops Q i _ _ w;unfold wpOp;simp only[ho,hw];exact⟨yT,h⟩
theorem Rn{t b q:Nat}{v:tK}(h:pT P t=true)(hc:w.cell? ⟨b,q,none⟩=some v):(loadVar t ⟨b,q,none⟩).run P w= .ok v w:=by
 have:=Ft h hc;simpa[Instr.loadAt,Instr.sureAddr]using this
theorem Ro(hT:T.Ok P)(hS:Mem w (hs H) M Φ R){g:ResultVar→Sem Value}(Vi:∀d,g (.tmp d)=pure ((ly n (cn f)).getD d undef))(FB:∀a t,g (.cell a t)=(do loadVar t (←asAddr ((ly n (cn f)).getD a undef)))):∀(rs:List ResultVar) (c:List Prop) {l:List SV} {c':List Prop},Zp T n f H rs c=some (l,c')→jL c'→(rs.mapM (m:=Sem) g).run P w= .ok (l.map SV.val) w∧jL c
 |[],c,l,c',h,hc=>by
  cases h;exact⟨by simp,hc⟩
 | .tmp d::rs,c,l,c',h,hc=>by
  unfold Zp at h;split at h
  ·rename_i v hd hv;split at h
   ·rename_i l1 c1 h1;cases h;obtain⟨h2,h3⟩:=Ro hT hS Vi FB rs c h1 hc;have hd:d<n:=by simpa[Nat.blt_eq]using hd
    have e1:(ly n (cn f)).getD d undef=v.val:=by
     rw[Cb,qi hd];show cn f d=_;unfold cn;rw[hv];rfl
    refine⟨?_,h3⟩;simp only[List.mapM_cons,Vi,Sem.run_bind,e1,Sem.run_pure,Result.andThen_ok,h2];rfl
   ·cases h
  ·cases h
 | .cell d s::rs,c,l,c',h,hc=>by
  unfold Zp at h;split at h
  ·rename_i j q b e hd hv hf;split at h
   ·rename_i a t l0 hn;split at h
    ·rename_i v hp;split at h
     ·rename_i l1 c1 h1;cases h;obtain⟨h2,rfl,h3⟩:=Ro hT hS Vi FB rs _ h1 hc;have hd:d<n:=by simpa[Nat.blt_eq]using hd
      have e1:(ly n (cn f)).getD d undef= .pointer (some ⟨a,q,none⟩):=by
       rw[Cb,qi hd];show cn f d=_;unfold cn;rw[hv];rfl
      rw[eR]at hn;have he:(hs H)[j]? =some (En.g_ ⟨a,t,l0⟩):=by rw[Ax,hn];rfl
      have fb:=hS.at j he;obtain⟨hg,rfl⟩:=hT.fe hf;have e2:(loadVar e.id ⟨a,q,none⟩).run P w= .ok v.val w:=by
       cases h1:e.fM with
       |true=>
        rw[h1]at hp;exact Rn (Ty.one hg h1).1 (En.cell (e:=⟨a,t,l0⟩) fb (Hl hp))
       |false=>
        rw[h1]at hp;obtain⟨l',rfl,hl,hr⟩:=Hm hp;obtain⟨dd,hu,rV,hi⟩:=sN (Ty.row hg h1);exact run_loadVar_mid (P:=P) w a q e.id (dD l') dd (En.range (e:=⟨a,t,l0⟩) fb hr) hu rV (by rw[hl];exact hi)
      refine⟨?_,h3⟩;simp only[List.mapM_cons,FB,Sem.run_bind,e1,asAddr,Sem.run_pure,Result.andThen_ok,e2,h2];rfl
     ·cases h
    ·cases h
   ·cases h
  ·cases h
theorem abP(hT:T.Ok P)(hS:Mem w (hs H) M Φ R){rs:List ResultVar}(hr:fn.results=rs.toArray){l:List SV}{c:List Prop}(h:Zp T n f H rs []=some (l,c))(hc:jL c):(results fn (ly n (cn f))).run P w= .ok (reA l).val w:=by
 have key:∀g:ResultVar→Sem Value,(∀d,g (.tmp d)=pure ((ly n (cn f)).getD d undef))→(∀a t,g (.cell a t)=(do loadVar t (←asAddr ((ly n (cn f)).getD a undef))))→Sem.run P (do let vs←Array.mapM (m:=Sem) g rs.toArray;pure (if h:vs.size=1 then vs[0]else .tuple vs)) w= .ok (reA l).val w:=fun g h1 h2=>by
  have h3:=(Ro hT hS h1 h2 rs [] h hc).1;rw[Array.mapM_eq_mapM_toList];simp only[Sem.run_bind,Sem.run_map,h3,Result.andThen_ok];cases l with
  |nil=>rfl
  |cons a l=>
   cases l with
   |nil=>rfl
   |cons b l=>rfl
 unfold results;rw[hr];exact key _ (fun _=>rfl) (fun _ _=>rfl)
theorem El:∀ks:List Fr,PS (kq P fn Rr ks)
 |[]=>VB
 | .c _::ks=>fun c a d v w h=>El ks c a d v w h
 | .b _::ks=>fun c a d v w h=>El ks c a d v w h
 | .j _::ks=>fun c a d v w h=>El ks c a d v w h
 | .g _ _ _::ks=>fun c a d v w h=>El ks c a d v w h
 | .e _::ks=>fun c a d v w h=>El ks c a d v w h
theorem vT{a:Act}(h:bodyPost P fn Rr .ret a w):∀ks:List Fr,kq P fn Rr ks .ret a w
 |[]=>h
 | .c _::ks=>vT h ks
 | .b _::ks=>vT h ks
 | .j _::ks=>vT h ks
 | .g _ _ _::ks=>vT h ks
 | .e _::ks=>vT h ks
theorem ru{a:Act}{id:Nat}{uA:List Fr}(hq:kq P fn Rr uA .normal a w):∀ks:List Fr,Zo id ks=some uA→kq P fn Rr ks (.exit id) a w
 |[],h=>by cases h
 | .c _::ks,h=>ru hq ks h
 | .j _::ks,h=>ru hq ks h
 | .g _ _ _::ks,h=>ru hq ks h
 | .e _::ks,h=>ru hq ks h
 | .b i::ks,h=>by
  have h:cond (Nat.beq i id) (some ks) (Zo id ks)=some uA:=h;show(if id=i then kq P fn Rr ks .normal a w else kq P fn Rr ks (.exit id) a w);cases hb:Nat.beq i id with
  |true=>
   rw[hb]at h;obtain rfl:ks=uA:=AY h;rw[Ae (Bd hb).symm];exact hq
  |false=>
   rw[hb]at h;have fR:¬id=i:=fun e=>by rw[e,Nat.beq_refl]at hb;cases hb
   rw[Aa fR];exact ru hq ks h
theorem ry{id:Nat}{uA:List Fr}:∀ks:List Fr,Zo id ks=some uA→Hj n ks=true→Hj n uA=true
 |[],h,_=>by cases h
 | .c _::ks,h,k=>ry ks h (AH _ _▸k).2
 | .j _::ks,h,k=>ry ks h (AH _ _▸k).2
 | .g _ _ _::ks,h,k=>ry ks h (AH _ _▸k).2
 | .e _::ks,h,k=>ry ks h (AH _ _▸k).2
 | .b i::ks,h,k=>by
  have h:cond (Nat.beq i id) (some ks) (Zo id ks)=some uA:=h;have k2:=(AH _ _▸k:okF n (.b i)=true∧Hj n ks=true).2;cases hb:Nat.beq i id with
  |true=>
   rw[hb]at h;obtain rfl:ks=uA:=AY h;exact k2
  |false=>rw[hb]at h;exact ry ks h k2
theorem bt{fr:Fr}{ks:List Fr}:Hj n (fr::ks)=true↔okF n fr=true∧Hj n ks=true:=by
 show(okF n fr&&Hj n ks)=true↔_;rw[AH]
theorem dU{ops:tP}(h:okR n ops=true):jq n ops=true∧ops.size<10000:=by
 unfold okR at h;rw[AH]at h;exact⟨h.1,Nat.lt_succ_of_le (BK h.2)⟩
theorem Rq(hT:T.Ok P){md:Md}{i m:Nat}{t t0:Ord}{h:tW}{z:tG}{ks:List Fr}{s:Sx}{c:List Prop}(ht:(m=0∧t0= .pu i t)∨(m=1∧t0= .rd i t)∨(m=2∧t0= .ef i t))(hr:opS T n md ops i m t ⟨h,z,ks,f,H⟩=some (s,c))(hc:jL c)(hn:G P fn Rr n M Φ R s.ks s.f s.H):G P fn Rr n M Φ R (.g md ops t0::ks) f H:=by
 intro w hS hK;obtain⟨hK1,iC⟩:=bt.1 hK;have hK0:=(dU hK1).1;show WF P ops (kq P fn Rr ks) md.va (o7 md ops) (vQ md ops) t0 n (cn f) w;have next:∀{f':Nat→AV} {H':List En} {w':tA},G P fn Rr n M Φ R (.g md ops t::ks) f' H'→Mem w' (hs H') M Φ R→WF P ops (kq P fn Rr ks) md.va (o7 md ops) (vQ md ops) t n (cn f') w':=fun hg DB=>hg _ DB (bt.2 ⟨hK1,iC⟩);simp only[opS]at hr;split at hr
 ·cases hr
 ·rename_i o ho;split at hr
  ·cases hr
  ·rename_i hw;have hw:=fF hw;split at hr
   ·rename_i d hd;cases hr;have h1:=next hn hS;rw[jK]at h1;rcases ht with⟨_,rfl⟩|⟨_,rfl⟩|⟨_,rfl⟩
    ·exact aex ho hd hw h1
    ·exact aey ho hd hw h1
    ·refine Yw ho hw ?_;rw[nI,hd];exact h1
   ·rename_i hd;split at hr
    ·cases hr;rcases ht with⟨e,_⟩|⟨e,_⟩|⟨_,rfl⟩
     ·cases e
     ·cases e
     ·refine Yw ho hw ?_;rw[nI,hd];exact next hn hS
    ·cases hr
  ·rename_i hw;have hw:=fF hw;split at hr
   ·obtain rfl:t0= .pu i t:=by
     rcases ht with⟨_,e⟩|⟨e,_⟩|⟨e,_⟩
     ·exact e
     ·cases e
     ·cases e
    split at hr
    ·rename_i d hd;split at hr
     ·rename_i v c' hv;cases hr;have h1:=next hn hS;rw[jK]at h1;exact Ef ho hd hw hK0 (abL hT hv hc) h1
     ·split at hr
      ·rename_i v c' hv;cases hr;have h1:=next hn hS;rw[jK]at h1;exact Ef ho hd hw hK0 (abN hT hv hc) h1
      ·cases hr
    ·cases hr
   ·obtain rfl:t0= .rd i t:=by
     rcases ht with⟨e,_⟩|⟨_,e⟩|⟨e,_⟩
     ·cases e
     ·exact e
     ·cases e
    split at hr
    ·rename_i d hd;split at hr
     ·rename_i v c' hv;cases hr;have h1:=next hn hS;rw[jK]at h1;exact Q7 ho hd hw hK0 (Yu hT hv hc hS) h1
     ·cases hr
    ·cases hr
   ·rename_i m1 m2;obtain rfl:t0= .ef i t:=by
     rcases ht with⟨e,_⟩|⟨e,_⟩|⟨_,e⟩
     ·exact absurd e m1
     ·exact absurd e m2
     ·exact e
    split at hr
    ·rename_i d hd;split at hr
     ·rename_i v c' hv;cases hr;have h1:=next hn hS;rw[jK]at h1;exact o4 ho hd hw hK0 (Yu hT hv hc hS w (uz w)) yT h1
     ·cases hr
    ·rename_i hd;split at hr
     ·rename_i H' c' hv;cases hr;obtain⟨w',e1,DB,hl⟩:=abK hT hv hc hS;refine rj ho hd hw hK0 e1 ?_ (next hn DB);cases Rs:md.vs.contains i with
      |false=>
       refine gq (lE ho ?_);unfold nW;rw[Rs];cases hp:o.op<;>rw[hp]at hv<;>simp only[stA,reduceCtorEq]at hv
       cases md.cb<;>rfl
      |true=>
       have h2:=Fz (md:=md) ho (by unfold nW;rw[Rs]);unfold fW;cases h:(o7 md ops).contains i with
       |true=>trivial
       |false=>
        rw[h]at h2;have h2:(vQ md ops).contains i=true:=by simpa using h2
        rw[h2];exact hl Rs
     ·cases hr
end
section
variable{P:tY}{T:Tr}{n:Nat}{ops:tP}{f:Nat→AV}{o:Oper}{fn:Func}{Rr:Ending→World→Prop}{M:tF}{Φ R:tJ}{H:List En}{w:tA}
theorem abR{id:Nat}{Q:tI}{a:Act}(h:lV P ops Q (Ed []) (o7 Re ops) (vQ Re ops) (QN ops ops.size 0) a w)(hz:ops.size<10000):(Code.region id ops false).wp P Q a w:=by
 have e:=Mp ops ops.size 0 (Aj _);rw[←List.range_eq_range']at e;refine wp_region ?_;have:=o6 (fun w=>uz w) (QN ops ops.size 0) a w (by rw[e];simp;omega) h;rw[e]at this;exact this
theorem Rt(hT:T.Ok P){s s':Sx}{c:List Prop}(hr:jc T n fn.results.toList s=some (s',c))(hc:jL c)(hn:G P fn Rr n M Φ R s'.ks s'.f s'.H):G P fn Rr n M Φ R s.ks s.f s.H:=by
 obtain⟨h,z,ks,f,H⟩:=s;intro w hS hK;cases ks with
 |nil=>cases hr
 |cons fr ks=>
  obtain⟨hK1,iC⟩:=bt.1 hK;cases fr with
  |c c0=>
   show c0.wp P (kq P fn Rr ks) ⟨ly n (cn f),[]⟩ w;cases c0 with
   |seq a b=>
    cases hr;have hab:=(AH _ _▸hK1:G6 n a=true∧G6 n b=true);exact wp_seq (hn w hS (bt.2 ⟨hab.1,bt.2 ⟨hab.2,iC⟩⟩))
   |skip=>cases hr;exact wp_skip (hn w hS iC)
   |block id b=>cases hr;exact wp_block (hn w hS (bt.2 ⟨hK1,bt.2 ⟨rfl,iC⟩⟩))
   |exit id=>
    simp only[jc]at hr;split at hr
    ·rename_i uA he;cases hr;exact wp_exit (ru (hn w hS (ry ks he iC)) ks he)
    ·cases hr
   |ret=>
    simp only[jc]at hr;split at hr
    ·rename_i l c' hl;cases hr;exact wp_ret (vT (Ao (abP hT hS (by simp) hl hc) rfl (hn w hS rfl)) ks)
    ·cases hr
   |cond x a b=>
    have hab:=(AH _ _▸hK1:okX n x=true∧(G6 n a&&G6 n b)=true);have abS:=(AH _ _▸hab.2:G6 n a=true∧G6 n b=true);simp only[jc]at hr;split at hr
    ·rename_i hx;cases hr;exact wp_cond_true ((Fp hab.1).trans (dM hx)) (hn w hS (bt.2 ⟨abS.1,iC⟩))
    ·rename_i hx;cases hr;exact wp_cond_false ((Fp hab.1).trans (dM hx)) (hn w hS (bt.2 ⟨abS.2,iC⟩))
    ·cases hr
   |region id ops d=>
    have hz:=(dU hK1).2;cases d with
    |false=>cases hr;exact abR (hn w hS (bt.2 ⟨hK1,iC⟩)) hz
    |true=>
     simp only[jc]at hr;have key:∀{md:Md} {t:Ord},Dr md ops t→G P fn Rr n M Φ R (.g md ops t::ks) f H→(Code.region id ops true).wp P (kq P fn Rr ks) ⟨ly n (cn f),[]⟩ w:=fun hc hn=>Dz hT.m _ (fun w=>uz w) (fun _ _ _ h1 h2=>h1.trans h2 fun _ _ h=>h) hc (El ks) (hn _ (hS.next (Bm _ _).drew) (bt.2 ⟨hK1,iC⟩));split at hr
     ·cases hr;exact key hc.1 hn
     ·cases hr;exact key hc.1 hn
     ·cases hr;exact key hc.1 hn
     ·cases hr;exact key hc.1 hn
     ·split at hr
      ·cases hr;exact key hc.1 hn
      ·cases hr
     ·split at hr
      ·cases hr;exact key hc.1 hn
      ·cases hr
     ·cases hr;exact key hc.1 hn
     ·split at hr
      ·cases hr;exact key hc.1 hn
      ·cases hr
     ·cases hr
   |_=>cases hr
  |b id=>cases hr;exact hn w hS iC
  |j J=>cases hr
  |e a=>cases hr
  |g md ops t=>
   cases t with
   |nil=>cases hr;exact hn w hS iC
   |pu i t=>exact Rq hT (.inl ⟨rfl,rfl⟩) hr hc hn w hS hK
   |rd i t=>exact Rq hT (.inr (.inl ⟨rfl,rfl⟩)) hr hc hn w hS hK
   |ef i t=>exact Rq hT (.inr (.inr ⟨rfl,rfl⟩)) hr hc hn w hS hK
   |fk _ _ _ _=>cases hr
   |f3 _ _ _ _ _ _=>cases hr
theorem Zq(hT:T.Ok P){md:Md}{h:tW}{z:tG}{ks uA:List Fr}{d s m:Nat}{t:Ord}{l:List Sg}{c:List Prop}(hr:alS T n ⟨h,z,ks,f,H⟩=some (d,t,md,ops,uA,s,l,m,c))(hn:∀a,jL c∧G P fn Rr n M Φ R (.g md ops t::uA) (ua f d (Rg H.length m a)) (H++[⟨a,s,l⟩])):G P fn Rr n M Φ R ks f H:=by
 intro w hS hK;simp only[alS]at hr;split at hr
 ·rename_i Re ops i t0 ks0 f0 H0 he;cases he;split at hr
  ·rename_i o ho;split at hr
   ·rename_i d0 hd hw;split at hr
    ·rename_i hv;cases hr;obtain⟨hK1,iC⟩:=bt.1 hK;obtain⟨hc,hg⟩:=hn w.heap.size;have Ej:nW md i o.op=3:=by
      unfold nW;cases hp:o.op<;>rw[hp]at hv<;>simp only[Zn,reduceCtorEq]at hv<;>cases md.vs.contains i<;>cases md.cb<;>rfl
     show WF P ops (kq P fn Rr uA) md.va (o7 md ops) (vQ md ops) (.ef i t) n (cn f) w;have e1:=abO (j:=H.length) (o:=o) hT hv hc (w:=w) (f:=f);refine o4 ho hd (fF hw) (dU hK1).1 e1 (Mm (Fz ho Ej) (aC _ _)) ?_;have DB:=hS.more (aC w (.cells (dD l).toArray s)) (En.new w s l);have:=hg _ (by rw[hs,AE];exact DB) (bt.2 ⟨hK1,iC⟩);rw[←jK];exact this
    ·cases hr
   ·cases hr
  ·cases hr
 ·cases hr
theorem Mt{rs:List ResultVar}:∀(k:Nat) (α:tV) (s:Sx) (c:List Prop),jL (run T n rs k α s c).2→jL c
 |0,_,_,_,h=>h
 |k+1,α,⟨h0,z,ks,f,H⟩,c,h=>by
  unfold run at h;split at h
  ·exact(nY (FA _ _▸Mt k _ _ _ h)).2
  ·split at h
   ·rw[Fy]at h;exact(nY (FA _ _▸Mt k _ _ _ h)).2
   ·exact h
def cons(a:Nat)(α:tV):Nat→Nat
 |0=>a
 |i+1=>α i
theorem Kk(hT:T.Ok P):∀(k:Nat) (s:Sx) (c:List Prop),(∀α,jL (run T n fn.results.toList k α s c).2∧G P fn Rr n M Φ R (run T n fn.results.toList k α s c).1.ks (run T n fn.results.toList k α s c).1.f (run T n fn.results.toList k α s c).1.H)→G P fn Rr n M Φ R s.ks s.f s.H
 |0,s,c,h=>(h fun _=>0).2
 |k+1,⟨h0,z,ks,f,H⟩,c,h=>by
  cases h1:jc T n fn.results.toList ⟨h0,z,ks,f,H⟩with
  |some r=>
   obtain⟨s',c'⟩:=r;have h2:∀α,run T n fn.results.toList (k+1) α ⟨h0,z,ks,f,H⟩ c=run T n fn.results.toList k α s' (Yt c' c):=fun α=>by rw[run,h1]
   simp only[h2]at h;exact Rt hT h1 (nY (FA _ _▸Mt k _ _ _ (h fun _=>0).1)).1 (Kk hT k s' (Yt c' c) h)
  |none=>
   cases h3:alS T n ⟨h0,z,ks,f,H⟩with
   |none=>
    have h2:∀α,run T n fn.results.toList (k+1) α ⟨h0,z,ks,f,H⟩ c=(⟨h0,z,ks,f,H⟩,c):=fun α=>by rw[run,h1,h3]
    simp only[h2]at h;exact(h fun _=>0).2
   |some r=>
    obtain⟨d,t,md,ops,uA,s,l,m,c'⟩:=r;have h2:∀α,run T n fn.results.toList (k+1) α ⟨h0,z,ks,f,H⟩ c=run T n fn.results.toList k (sh α) ⟨h0,z,.g md ops t::uA,ua f d (Rg H.length m (α 0)),H++[⟨α 0,s,l⟩]⟩ (Yt c' c):=fun α=>by rw[run,h1,h3];exact Fy _ _ _
    simp only[h2]at h
    exact Zq hT h3 fun a=>⟨(nY (FA _ _▸Mt k _ _ _ (h (cons a fun _=>0)).1)).1,Kk hT k ⟨h0,z,.g md ops t::uA,ua f d (Rg H.length m a),H++[⟨a,s,l⟩]⟩ (Yt c' c) fun α=>by
     have h4:=h (cons a α);rw[show sh (cons a α)=α from funext fun _=>rfl,show cons a α 0=a from rfl]at h4
     exact h4⟩
theorem Zr(hT:T.Ok P){ks:List Fr}{h':(Nat→Nat)→List Nat}{z':(Nat→Nat)→List Int}{uA:(Nat→Nat)→List Fr}{f':(Nat→Nat)→Nat→AV}{H':(Nat→Nat)→List En}{c':(Nat→Nat)→List Prop}(k:Nat)(h:tW)(z:tG)(hr:∀α,run T n fn.results.toList k α ⟨h,z,ks,f,H⟩ []=(⟨h' α,z' α,uA α,f' α,H' α⟩,c' α))(hn:∀α,G P fn Rr n M Φ R (uA α) (f' α) (H' α))(hc:∀α,jL (c' α)):G P fn Rr n M Φ R ks f H:=
 Kk hT k ⟨h,z,ks,f,H⟩ [] fun α=>by rw[hr α];exact⟨hc α,hn α⟩
def VL:List AV→Nat→AV
 |[],_=>vv undef
 |a::_,0=>a
 |_::l,i+1=>VL l i
theorem Zs(l:List AV):cn (VL l)=N2 (l.map AV.val):=by
 funext i
 induction l generalizing i with
 |nil=>cases i<;>rfl
 |cons a l ih=>
  cases i with
  |zero=>rfl
  |succ i=>exact(ih i).trans rfl
theorem abT{g:FuncId}{b:Code}(n:Nat)(al:List AV)(hf:P.funcs[g]? =some fn)(hb:fn.body=some b)(hn:fn.ntmps=n)(hl:Nat.ble al.length n=true)(hk:G6 n b=true)(hS:Mem w (hs H) M Φ R)(h:G P fn Rr n M Φ R [.c b] (VL al) H):Calls P g (al.map AV.val).toArray w Rr:=by
 refine Q4 n hf hb hn (by rw[AW];exact BK hl) ?_;rw[←Zs];exact h w hS (bt.2 ⟨hk,rfl⟩)
theorem fin{a:AV}{ks:List Fr}(h:∀w,Mem w (hs H) M Φ R→Rr (.returned a.val) w):G P fn Rr n M Φ R (.e a::ks) f H:=fun w hS _=>h w hS
theorem dt(hr:fn.results= #[])(h:∀w,Mem w (hs H) M Φ R→Rr (.returned (.tuple #[])) w):G P fn Rr n M Φ R [] f H:=fun w hS _=>bodyPost_end (results_none hr _ _ _) rfl (h w hS)
theorem jt{H':List En}{M':tF}{G8 R':tJ}{ks:List Fr}(h:∀w,Mem w (hs H) M Φ R→Mem w (hs H') M' G8 R')(hn:G P fn Rr n M' G8 R' ks f H'):G P fn Rr n M Φ R ks f H:=fun w hS hK=>hn w (h w hS) hK
theorem FC{md:Md}{i j:Nat}{s t:Ord}{ks:List Fr}(h1:G P fn Rr n M Φ R (.g md ops (.ef i s)::ks) f H)(h2:G P fn Rr n M Φ R (.g md ops (.ef j t)::ks) f H):G P fn Rr n M Φ R (.g md ops (.fk i j s t)::ks) f H:=fun w hS hK=>⟨h1 w hS hK,h2 w hS hK⟩
theorem fk3{md:Md}{i j k:Nat}{s t u:Ord}{ks:List Fr}(h1:G P fn Rr n M Φ R (.g md ops (.ef i s)::ks) f H)(h2:G P fn Rr n M Φ R (.g md ops (.ef j t)::ks) f H)(h3:G P fn Rr n M Φ R (.g md ops (.ef k u)::ks) f H):G P fn Rr n M Φ R (.g md ops (.f3 i j k s t u)::ks) f H:=fun w hS hK=>⟨h1 w hS hK,h2 w hS hK,h3 w hS hK⟩
def Ru(n:Nat)(ops:tP)(f:Nat→AV)(i:Nat):Option (Nat×FuncId×List AV):=match ops[i]? with
 |some o=>match o.dst,sS n ops f o,o.op with
  |some d,some true,.call ⟨.value x,xs,_⟩=>match ea f x with
   | .s (.o (.func (.func g) fi ca))=>match fi.toList,ca.toList with
    |[],[]=>some (d,g,xs.toList.map (ea f))
    |fi,ca=>some (d,g,fi.map vv++(xs.toList.map (ea f)++ca.map vv))
   |_=>none
  |_,_,_=>none
 |none=>none
def iS(P:tY)(g:Nat):Bool:=match P.funcs[g]? with
 |some fn=> !(fn.name== "runtime.NumGoroutine")&&fn.body.isSome
 |none=>false
theorem Zt{g:Nat}(h:iS P g=true):∀args w,(callFunc g args).run P w= .ok (.enter g args) w:=by
 unfold iS at h;split at h
 ·rename_i fn hf;rw[AH,Bool.not_eq_true']at h;obtain⟨b,hb⟩:=Option.isSome_iff_exists.1 h.2;have h1:fn.name≠ "runtime.NumGoroutine" :=by simpa using h.1
  intro args w;simp[callFunc,hf,h1,hb,mark]
 ·cases h
theorem mG{md:Md}{i d g:Nat}{t:Ord}{ks:List Fr}{al:List AV}(e:Ru n ops f i=some (d,g,al))(he:iS P g=true)(hc:∀w,Mem w (hs H) M Φ R→Calls P g (al.map AV.val).toArray w fun x w'=>∃(a:AV) (H':List En) (M':tF) (G8 R':tJ),x= .returned a.val∧((md.cb||md.vs.contains i)=false∨bZ w w')∧Mem w' (hs H') M' G8 R'∧G P fn Rr n M' G8 R' (.g md ops t::ks) (ua f d a) H'):G P fn Rr n M Φ R (.g md ops (.ef i t)::ks) f H:=by
 intro w hS hK;obtain⟨hK1,iC⟩:=bt.1 hK;show WF P ops (kq P fn Rr ks) md.va (o7 md ops) (vQ md ops) (.ef i t) n (cn f) w;unfold Ru at e;split at e
 ·rename_i o ho;split at e
  ·rename_i d' x xs ts hd hw hp;have key:∀{fi ca:tR} {al:List AV},ea f x= .s (.o (.func (.func g) fi ca))→d'=d→fi.toList++xs.toList.map (ev (cn f))++ca.toList=al.map AV.val→(∀w,Mem w (hs H) M Φ R→Calls P g (al.map AV.val).toArray w fun x w'=>∃(a:AV) (H':List En) (M':tF) (G8 R':tJ),x= .returned a.val∧((md.cb||md.vs.contains i)=false∨bZ w w')∧Mem w' (hs H') M' G8 R'∧G P fn Rr n M' G8 R' (.g md ops t::ks) (ua f d a) H')→WF P ops (kq P fn Rr ks) md.va (o7 md ops) (vQ md ops) (.ef i t) n (cn f) w:=fun {fi ca al} hx hdd ha hc=>by
    subst hdd;refine aeF (Zt he) ho hd (fF hw) (dU hK1).1 hp (dM hx) ha ((hc w hS).mono ?_);rintro _ w' ⟨a,H',M',G8,R',rfl,hb,DB,hg⟩;refine⟨_,rfl, ?_, ?_⟩
    ·rcases hb with hb|hb
     ·rw[Bool.or_eq_false_iff]at hb;exact gq (lE ho (by unfold nW;rw[hp,hb.1,hb.2];rfl))
     ·by_cases h2:nW md i o.op=3
      ·exact Mm (Fz ho h2) hb
      ·refine gq (lE ho ?_);unfold nW at h2⊢;rw[hp]at h2⊢;cases h3:md.vs.contains i with
       |true=>rw[h3]at h2;exact absurd rfl h2
       |false=>
        cases h4:md.cb with
        |true=>rw[h3,h4]at h2;exact absurd rfl h2
        |false=>rfl
    rw[←jK];exact hg w' DB (bt.2 ⟨hK1,iC⟩)
   have ex:∀xs:List Operand,xs.map (ev (cn f))=(xs.map (ea f)).map AV.val:=fun xs=>by
    rw[List.map_map];exact BR fun x _=>(bC f x).symm
   have ev':∀l:List Value,l=(l.map vv).map AV.val:=fun l=>by
    rw[List.map_map];exact(List.map_id l).symm.trans (BR fun x _=>rfl)
   split at e
   ·rename_i g' fi ca hx;split at e
    ·rename_i e1 e2;cases e;exact key hx rfl (by rw[e1,e2,ex];simp) hc
    ·cases e;refine key hx rfl ?_ hc;rw[AE,AE,←ev',←ev',ex,AA]
   ·cases e
  ·cases e
 ·cases e
def Yx(n:Nat)(ops:tP)(f:Nat→AV)(i:Nat):Option (Nat×Nat×AV):=match ops[i]? with
 |some o=>match o.dst,sS n ops f o,o.op with
  |some d,some true,.load s x=>some (d,s,ea f x)
  |_,_,_=>none
 |none=>none
theorem Em{w':tA}(h:Ed [] w w'):bZ w w':=h.below (Ac _) fun _ _ h=>by cases h
theorem Yy(hT:T.Ok P){md:Md}{i d s b q:Nat}{t:Ord}{ks:List Fr}{x:AV}{e:Ty}(v:SV)(h1:Yx n ops f i=some (d,s,x))(hx:x.val= .pointer (some ⟨b,q,none⟩))(hf:T.find s=some e)(hv:(match e.fM,v with|true,.g _=>false|false,.g l=>Nat.beq (eX l) e.m|false,_=>false|true,_=>true)=true)(hc:∀w,Φ w∧(md.va=[]→Mem w (hs H) M Φ R)→∀j y,(match v with| .g l=>dD l|v=>[v.val])[j]? =some y→w.cell? ⟨b,q+j,none⟩=some y)(N8:∀a,a∈md.va→a∈(hs H).map bX.a)(hn:G P fn Rr n M Φ R (.g md ops t::ks) (ua f d (.s v)) H):G P fn Rr n M Φ R (.g md ops (.rd i t)::ks) f H:=by
 intro w hS hK;obtain⟨hK1,iC⟩:=bt.1 hK;show WF P ops (kq P fn Rr ks) md.va (o7 md ops) (vQ md ops) (.rd i t) n (cn f) w;obtain⟨hg,rfl⟩:=hT.fe hf;unfold Yx at h1;split at h1
 ·rename_i o ho;split at h1
  ·rename_i d' s' y hd hw hp;simp only[Option.some.injEq,Prod.mk.injEq]at h1;obtain⟨rfl,rfl,rfl⟩:=h1;have hx:ev (cn f) y= .pointer (some ⟨b,q,none⟩):=(bC f y).symm.trans hx;refine Q7 (v:=v.val) ho hd (fF hw) (dU hK1).1 (fun w' hb=> ?_) ?_
   ·have hc:=hc w' ⟨hS.g w' ⟨hb.os,hb.tape,hb.output,hb.size,fun x hx hu=>hb.block x hx fun hm=>hu (.inl (N8 x hm))⟩,fun e0=>hS.next (Em (e0▸hb))⟩;cases h1:e.fM with
    |true=>
     have one:(∀j y,[v.val][j]? =some y→w'.cell? ⟨b,q+j,none⟩=some y)→(execOp (ev (cn f)) o).run P w'= .ok (.value v.val) w':=fun hc=>by
      have h0:w'.cell? ⟨b,q,none⟩=some v.val:=hc 0 v.val rfl;simp only[execOp,hp,hx,Sem.run_bind,Ft (Ty.one hg h1).1 h0,Result.andThen_ok,Sem.run_pure]
     cases v with
     |g l=>rw[h1]at hv;cases hv
     |o y=>exact one hc
     |p _ _ _=>exact one hc
    |false=>
     rw[h1]at hv;cases v with
     |o y=>cases hv
     |p _ _ _=>cases hv
     |g l=>
      obtain⟨dd,hu,rV,hi⟩:=sN (Ty.row hg h1);have:=run_loadAt_mid (P:=P) w' b q e.id (dD l) dd (fun j y hy=>hc j y hy) hu rV (by rw[de];exact(Bd hv).symm▸hi);simp only[execOp,hp,hx,Sem.run_bind,this,Result.andThen_ok,Sem.run_pure];rfl
   ·have:=hn w hS (bt.2 ⟨hK1,iC⟩);rw[show up (cn f) d' v.val=cn (ua f d' (.s v)) from(jK f d' (.s v)).symm];exact this
  ·cases h1
 ·cases h1
end
def us(f:Nat→AV):List (Nat×AV)→Nat→AV
 |[]=>f
 |(d,a)::l=>ua (us f l) d a
def Hn(f:Nat→AV):List (Nat×AV)→Prop
 |[]=>True
 |(d,a)::l=>(f d).val=a.val∧Hn f l
theorem uC(f:Nat→AV):∀l:List (Nat×AV),Hn f l→cn (us f l)=cn f
 |[],_=>rfl
 |(d,a)::l,h=>by
  unfold us;rw[jK,uC f l h.2];funext i;unfold up;cases hb:Nat.beq i d with
  |true=>rw[Bd hb];exact h.1.symm
  |false=>rfl
theorem least{p:tF}(h:∃m,p m):∃m,p m∧∀k,p k→m≤k:=by
 obtain⟨m,hm⟩:=h
 induction m using Nat.strongRecOn with
 |_ m ih=>
  by_cases hk:∃k,k<m∧p k
  ·obtain⟨k,hk,hp⟩:=hk;exact ih k hk hp
  ·exact⟨m,hm,fun k hp=>Nat.le_of_not_lt fun aN=>hk ⟨k,aN,hp⟩⟩
open Classical in
theorem VM{P:tY}{Q:tI}{c:Code}{a:Act}{w:tA}(J:Nat→Act→World→Prop){m0:Nat}(h0:J m0 a w)(round:∀m a w,J m a w→c.wp P (Exit.then (fun a' w'=>∃m',m'<m∧J m' a' w') Q) a w):(Code.loop c).wp P Q a w:=by
 have spec:∀a w,(∃m,J m a w)→∃m,(if h:∃m,J m a w then Classical.choose (least h)else 0)=m∧J m a w∧∀k,J k a w→m≤k:=fun a w hI=>by
  rw[dif_pos hI];exact⟨_,rfl,Classical.choose_spec (least hI)⟩
 refine wp_loop (fun a w=>∃m,J m a w) (fun a w=>if h:∃m,J m a w then Classical.choose (least h)else 0) ⟨m0,h0⟩ ?_;intro a w hI;obtain⟨m,e1,hm,_⟩:=spec a w hI;refine Code.wp_mono (fun e a' w' hq=> ?_) (round m a w hm);cases e with
 |normal=>
  obtain⟨m',aN,hj⟩:=hq;obtain⟨m2,e2,_,h2⟩:=spec a' w' ⟨m',hj⟩;refine⟨⟨m',hj⟩, ?_⟩;rw[e1,e2];exact Nat.lt_of_le_of_lt (h2 m' hj) aN
 |_=>exact hq
section
variable{P:tY}{n:Nat}{f:Nat→AV}{fn:Func}{Rr:Ending→World→Prop}{M:tF}{Φ R:tJ}{H:List En}{w:tA}{ks:List Fr}{X:Type}
structure Lp(X:Type)where
 s:X→List (Nat×AV)
 H:X→List En
 M:X→Nat→Prop
 Φ:X→World→Prop
 R:X→World→Prop
 J:X→Prop
 k:X→Nat
def LJ(n:Nat)(L:Lp X)(m:Nat):Act→World→Prop:=fun a w=>∃f x,a=⟨ly n (cn f),[]⟩∧Hn f (L.s x)∧Mem w (hs (L.H x)) (L.M x) (L.Φ x) (L.R x)∧L.J x∧L.k x<m
theorem iD{c:Code}(L:Lp X)(x0:X)(h1:Hn f (L.s x0))(h2:∀w,Mem w (hs H) M Φ R→Mem w (hs (L.H x0)) (L.M x0) (L.Φ x0) (L.R x0))(h3:L.J x0)(round:∀f x,L.J x→G P fn Rr n (L.M x) (L.Φ x) (L.R x) (.c c:: .j (LJ n L (L.k x))::ks) (us f (L.s x)) (L.H x)):G P fn Rr n M Φ R (.c (.loop c)::ks) f H:=by
 intro w hS hK;obtain⟨hK1,iC⟩:=bt.1 hK;show(Code.loop c).wp P (kq P fn Rr ks) ⟨ly n (cn f),[]⟩ w;refine VM (fun m a w=>∃f x,a=⟨ly n (cn f),[]⟩∧Hn f (L.s x)∧Mem w (hs (L.H x)) (L.M x) (L.Φ x) (L.R x)∧L.J x∧L.k x=m) ⟨f,x0,rfl,h1,h2 w hS,h3,rfl⟩ ?_;rintro m a w ⟨f,x,rfl,hs,hS,hJ,rfl⟩;have:=round f x hJ w hS (bt.2 ⟨hK1,bt.2 ⟨rfl,iC⟩⟩);rw[uC f _ hs]at this;refine Code.wp_mono (fun e a' w' hq=> ?_) (show c.wp P _ _ w from this);cases e with
 |normal=>
  obtain⟨f',x',e1,e2,e3,e4,e5⟩:=hq;exact⟨L.k x',e5,f',x',e1,e2,e3,e4,rfl⟩
 |_=>exact hq
theorem bJ{L:Lp X}{m:Nat}(x:X)(h1:Hn f (L.s x))(h2:∀w,Mem w (hs H) M Φ R→Mem w (hs (L.H x)) (L.M x) (L.Φ x) (L.R x))(h3:L.J x)(h4:L.k x<m):G P fn Rr n M Φ R (.j (LJ n L m)::ks) f H:=fun w hS _=>⟨f,x,rfl,h1,h2 w hS,h3,h4⟩
theorem cut{c:Code}(s:X→List (Nat×AV))(H':X→List En)(M':X→Nat→Prop)(G8 R':X→World→Prop)(J:X→Prop)(h1:∀f x,J x→G P fn Rr n (M' x) (G8 x) (R' x) ks (us f (s x)) (H' x))(h2:G P fn Rr n M Φ R (.c c:: .j (LJ n ⟨s,H',M',G8,R',J,fun _=>0⟩ 1)::ks) f H):G P fn Rr n M Φ R (.c c::ks) f H:=by
 intro w hS hK;obtain⟨hK1,iC⟩:=bt.1 hK;have h:=h2 w hS (bt.2 ⟨hK1,bt.2 ⟨rfl,iC⟩⟩);refine Code.wp_mono (fun e a' w' hq=> ?_) (show c.wp P _ _ w from h);cases e with
 |normal=>
  obtain⟨f,x,rfl,e1,e2,e3,_⟩:=hq;have:=h1 f x e3 w' e2 iC;rw[uC f _ e1]at this;exact this
 |_=>exact hq
theorem aeM{c:Code}(s:X→List (Nat×AV))(H':X→List En)(h1:∀f x,G P fn Rr n M Φ R ks (us f (s x)) (H' x))(h2:G P fn Rr n M Φ R (.c c:: .j (LJ n ⟨s,H',fun _=>M,fun _=>Φ,fun _=>R,fun _=>True,fun _=>0⟩ 1)::ks) f H):G P fn Rr n M Φ R (.c c::ks) f H:=cut s H' _ _ _ _ (fun f x _=>h1 f x) h2
theorem abV{s:X→List (Nat×AV)}{H':X→List En}(x:X)(h1:Hn f (s x))(h2:∀w,Mem w (hs H) M Φ R→Mem w (hs (H' x)) M Φ R):G P fn Rr n M Φ R (.j (LJ n ⟨s,H',fun _=>M,fun _=>Φ,fun _=>R,fun _=>True,fun _=>0⟩ 1)::ks) f H:=bJ x h1 h2 trivial Bp
end
end Rv
def cm(U:tF)(w:tA)(φ:tJ):Prop:=∀w',dB U w w'→φ w'
theorem dB.mono{U V:tF}{w w':tA}(c:dB U w w')(h:∀b,U b→V b):dB V w w':=⟨c.os,c.tape,c.output,c.size,fun b hb hv=>c.block b hb fun hu=>hv (h b hu)⟩
theorem Mem.FD{w:tA}{H:List bX}{M:tF}{G R:tJ}(h:Mem w H M G R):cm M w G:=fun w' c=>h.g w' ⟨c.os,c.tape,c.output,c.size,fun b hb hu=>c.block b hb fun hm=>hu (.inr hm)⟩
theorem Mem.ult{w:tA}{H:List bX}{M:tF}{G R:tJ}(h:Mem w H M G R):∀b,(b∈H.map bX.a∨M b)→b<w.heap.size:=fun b hb=>hb.elim (fun h'=>h.lt h') (h.mlt b)
theorem dB.less{U:tF}{w w':tA}{V:tF}(c:dB V w w')(h:∀b,V b→U b∨∃t n f,bh w b t n f∧bh w' b t n f):dB U w w':=
 ⟨c.os,c.tape,c.output,c.size,fun b hb hu=>by
  by_cases hv:V b
  ·rcases h b hv with h|⟨t,n,f,h1,h2⟩
   ·exact absurd h hu
   ·unfold bh at h1 h2;rw[h1,h2]
  ·exact c.block b hb hv⟩
theorem Mem.nodup{w:tA}{H:List bX}{M:tF}{G R:tJ}(h:Mem w H M G R):(H.map bX.a).Nodup:=by
 refine List.pairwise_map.2 (BD.2 fun i j hi hj hij he=> ?_);have:=h.oY i j _ _ (Ai hi) (Ai hj) he;omega
theorem Rw{H:List bX}(h:(H.map bX.a).Nodup):H.Pairwise fun x y=>x.a≠y.a:=by
 unfold List.Nodup at h;rwa [List.pairwise_map]at h
theorem Mem.all{w w':tA}{H H':List bX}{M:tF}{G R:tJ}(h:Mem w H M G R)(c:dB (fun b=>b∈H.map bX.a) w w')(ha:H'.map bX.a=H.map bX.a)(hn:∀e∈H',bh w' e.a e.t e.n e.f):Mem w' H' M G R:=by
 have at_:∀(i:Nat) (x:bX),H'[i]? =some x→∃y,H[i]? =some y∧y.a=x.a:=fun i x hx=>by
  have e:(H'.map bX.a)[i]? =some x.a:=by rw[Ax,hx];rfl
  rw[ha,Ax]at e;cases hy:H[i]? with
  |none=>rw[hy]at e;cases e
  |some y=>rw[hy]at e;exact⟨y,rfl,AY e⟩
 refine⟨hn,fun i j x y hx hy Fq=> ?_,fun x hx=> ?_,fun b hb=>Am (h.mlt b hb) c.size,fun w2 h2=>h.g w2 (dB.trans (U:=fun b=>b∈H.map bX.a∨M b) ⟨c.os,c.tape,c.output,c.size,fun b hb hu=>c.block b hb (fun h=>hu (.inl h))⟩ h2 fun x _ hm=>by rwa [ha]at hm),fun w2 h2=>h.r w2 (c.trans h2 fun x _ hm=>by rwa [ha]at hm)⟩
 ·obtain⟨x',hx',ex⟩:=at_ i x hx;obtain⟨y',hy',ey⟩:=at_ j y hy;exact h.oY i j x' y' hx' hy' (by rw[ex,ey,Fq])
 ·obtain⟨i,hi⟩:=Cp hx;obtain⟨y,hy,ey⟩:=at_ i x hi;rw[←ey];exact h.off y (Ar hy)
theorem Mem.aeN{w w':tA}{H:List bX}{M:tF}{G R:tJ}(h:Mem w H M G R)(k l:Nat){e d:bX}(hk:H[k]? =some e)(hl:H[l]? =some d)(J6:k≠l)(c:dB (fun b=>b=e.a∨b=d.a) w w'){f g:tD}(hf:bh w' e.a e.t e.n f)(hg:bh w' d.a d.t d.n g):Mem w' ((H.set k ⟨e.a,e.t,e.n,f⟩).set l ⟨d.a,d.t,d.n,g⟩) M G R:=by
 have hke:=Ar hk;have hld:=Ar hl;refine h.all (c.mono fun b hb=> ?_) ?_ fun x hx=> ?_
 ·rcases hb with rfl|rfl
  ·exact Ay.2 ⟨e,hke,rfl⟩
  ·exact Ay.2 ⟨d,hld,rfl⟩
 ·have e1:=vS (e':=⟨e.a,e.t,e.n,f⟩) hk rfl;have hl':(H.set k ⟨e.a,e.t,e.n,f⟩)[l]? =some d:=by rw[List.getElem?_set_ne J6];exact hl
  rw[vS (e':=⟨d.a,d.t,d.n,g⟩) hl' rfl,e1]
 ·obtain⟨i,hi⟩:=Cp hx;by_cases h1:l=i
  ·subst h1;rw[Cx (by rw[List.length_set];exact(Ap.1 hl).1)]at hi;cases hi;exact hg
  ·rw[List.getElem?_set_ne h1]at hi;by_cases h2:k=i
   ·subst h2;rw[Cx (Ap.1 hk).1]at hi;cases hi;exact hf
   ·rw[List.getElem?_set_ne h2]at hi;have fb:=h.g_ x (Ar hi);have n1:x.a≠e.a:=fun hh=>h2 (h.oY k i e x hk hi hh.symm);have n2:x.a≠d.a:=fun hh=>h1 (h.oY l i d x hl hi hh.symm);unfold bh at fb⊢;rw[←fb];exact c.block x.a (h.g_ x (Ar hi)).lt fun hh=>hh.elim n1 n2
theorem nZ{w:tA}{U:tF}(hU:∀b,U b→b<w.heap.size){G:tJ}(hG:cm U w G):Mem w [] U G (fun w'=>bZ w w'):=Mem.start hU hG (fun _ h=>h)
theorem nn{p:Prop}(h:p):¬¬p:=fun k=>k h
theorem cm.now{U:tF}{w:tA}{φ:tJ}(h:cm U w φ):φ w:=h w ⟨rfl,rfl,rfl,Ac _,fun _ _ _=>rfl⟩
theorem cm.next{U:tF}{w w':tA}{φ:tJ}(h:cm U w φ)(b:bZ w w'):cm U w' φ:=fun w2 h2=>h w2 ((dB.of b).trans h2 fun _ _ h=>h)
theorem cm.Fu{U V:tF}{w w':tA}{φ:tJ}(h:cm U w φ)(c:dB U w w')(hV:∀b,b<w.heap.size→V b→U b):cm V w' φ:=fun w2 h2=>h w2 (c.trans h2 hV)
theorem cm.mono{U V:tF}{w:tA}{φ:tJ}(h:cm U w φ)(hV:∀b,b<w.heap.size→V b→U b):cm V w φ:=fun w2 c=>h w2 ⟨c.os,c.tape,c.output,c.size,fun b hb hu=>c.block b hb fun hv=>hu (hV b hb hv)⟩
theorem dB.cell{U:tF}{w w':tA}(c:dB U w w'){b o:Nat}(hb:b<w.heap.size)(hu:¬U b):w'.cell? ⟨b,o,none⟩=w.cell? ⟨b,o,none⟩:=Cq (c.block b hb hu)
theorem nh{k:IntKind}{U:tF}{w w':tA}{a:tB}{len:Nat}{l:tG}(h:RowK k w a len l)(c:dB U w w')(hu:∀x,a=some x→0<len→¬U x.block):RowK k w' a len l:=
 ⟨h.bP,h.wf,fun i hi=>by
  obtain⟨b,off,ha,aN,hc⟩:=h.cell i hi
  exact⟨b,off,ha,Am aN c.size,(c.cell aN (hu _ ha (by omega))).trans hc⟩⟩
theorem bM{k:IntKind}{U:tF}{w w':tA}{a:tB}{len:Nat}{l:tG}(h:RowK k w' a len l)(hn:∀x,a=some x→w.heap.size≤x.block)(hU:∀b,U b→b<w.heap.size):cm U w' fun w=>RowK k w a len l:=fun w2 c=>
 nh h c fun x hx _ hux=>by have:=hn x hx;have:=hU _ hux;omega
theorem Mem.rW{w:tA}{e:bX}{H:List bX}{M:tF}{G R:tJ}(h:Mem w (e::H) M G R):(∀b,(b∈H.map bX.a∨M b)→b<w.heap.size)∧¬(e.a∈H.map bX.a∨M e.a)∧cm (fun b=>b=e.a∨(b∈H.map bX.a∨M b)) w G:=by
 refine⟨fun b hb=>h.ult b (hb.imp (fun h=>Az _ h) id), ?_,fun w2 c=>h.g w2 (c.mono fun b hb=> ?_)⟩
 ·rintro(h1|h1)
  ·have:=h.nodup;rw[List.map_cons,List.nodup_cons]at this;exact this.1 h1
  ·exact h.off e (Aq ..) h1
 ·rcases hb with rfl|hb|hb
  ·exact .inl (Aq ..)
  ·exact .inl (Az _ hb)
  ·exact .inr hb
theorem Mem.aeO{w w':tA}{e:bX}{H:List bX}{M:tF}{G R:tJ}(h:Mem w (e::H) M G R)(c:dB (fun b=>b=e.a) w w'){f':tD}(hn:bh w' e.a e.t e.n f'):Mem w' (⟨e.a,e.t,e.n,f'⟩::H) M G R:=h.put 0 rfl c (.inl rfl) hn
theorem Mem.Rx{w w':tA}{e:bX}{H:List bX}{M:tF}{G R:tJ}(h:Mem w (e::H) M G R)(c:dB (fun b=>b=e.a) w w'){f':tD}(hn:bh w' e.a e.t e.n f'){φ:tJ}(hφ:cm (fun b=>b=e.a∨(b∈H.map bX.a∨M b)) w' φ):Mem w' (⟨e.a,e.t,e.n,f'⟩::H) M (fun w=>G w∧φ w) R:=
 (h.aeO c hn).add fun w2 cc=>hφ w2 (cc.mono fun b hb=>by
  rcases hb with hb|hb
  ·rcases BI.1 hb with rfl|hb
   ·exact .inl rfl
   ·exact .inr (.inl hb)
  ·exact .inr (.inr hb))
structure Mv(F:tF)(w:tA)(F':tF)(w':tA):Prop where
 c:dB F w w'
 f:∀b,F' b→F b∨w.heap.size≤b
 l:∀b,F' b→b<w'.heap.size
theorem dB.refl{U:tF}(w:tA):dB U w w:=⟨rfl,rfl,rfl,Ac _,fun _ _ _=>rfl⟩
theorem Mv.refl{F:tF}{w:tA}(h:∀b,F b→b<w.heap.size):Mv F w F w:=⟨dB.refl w,fun _ h=> .inl h,h⟩
theorem Mv.trans{F F1 F2:tF}{w w1 w2:tA}(h:Mv F w F1 w1)(k:Mv F1 w1 F2 w2):Mv F w F2 w2:=
 ⟨h.c.trans k.c fun b hb hv=>(h.f b hv).elim id fun h=>absurd hb (Bb.2 h),fun b hb=>(k.f b hb).elim (h.f b) fun x=> .inr (AN h.c.size x),k.l⟩
theorem Mv.next{F F':tF}{w w' w2:tA}(h:Mv F w F' w')(b:bZ w' w2):Mv F w F' w2:=
 ⟨h.c.trans (dB.of (U:=fun _=>False) b) fun _ _ h=>h.elim,h.f,fun b' hb=>Am (h.l b' hb) b.size⟩
theorem Mv.of{F:tF}{w w':tA}(hl:∀b,F b→b<w.heap.size)(b:bZ w w'):Mv F w F w':=(Mv.refl hl).next b
theorem Mv.with{F F' T:tF}{w w':tA}(h:Mv F w F' w')(hT:∀b,T b→b<w.heap.size):Mv (fun b=>F b∨T b) w (fun b=>F' b∨T b) w':=
 ⟨h.c.mono fun _ h=> .inl h,fun b hb=>hb.elim (fun hb=>(h.f b hb).imp .inl id) (fun hb=> .inl (.inr hb)),fun b hb=>hb.elim (h.l b) fun hb=>Am (hT b hb) h.c.size⟩
theorem Mv.less{F F' F2 F2':tF}{w w':tA}(h:Mv F w F' w')(h1:∀b,F b→F2 b)(h2:∀b,F2' b→F' b∨(F2 b∧b<w.heap.size)):Mv F2 w F2' w':=
 ⟨h.c.mono h1,fun b hb=>(h2 b hb).elim (fun hb=>(h.f b hb).imp (h1 b) id) fun hb=> .inl hb.1,fun b hb=>(h2 b hb).elim (h.l b) fun hb=>Am hb.2 h.c.size⟩
theorem cm.mv{U F F':tF}{w w':tA}{φ:tJ}(h:cm U w φ)(m:Mv F w F' w')(hF:∀b,F b→U b):cm (fun b=>U b∨F' b) w' φ:=fun w2 c2=>
 h w2 ((m.c.mono hF).trans c2 fun b hb hv=>hv.elim id fun hv=>(m.f b hv).elim (hF b) fun x=>absurd hb (Bb.2 x))
theorem Mem.mv{w w':tA}{H:List bX}{F F' T:tF}{G R R':tJ}(h:Mem w H (fun b=>F b∨T b) G R)(m:Mv F w F' w')(hR:∀w2,dB (fun b=>b∈H.map bX.a) w' w2→R' w2):Mem w' H (fun b=>F' b∨T b) G R':=by
 refine⟨fun e he=> ?_,h.oY,fun e he hm=> ?_,fun b hb=>hb.elim (m.l b) fun hb=>Am (h.mlt b (.inr hb)) m.c.size,fun w2 c2=>h.g w2 ?_,hR⟩
 ·have fb:=h.g_ e he;unfold bh at fb⊢;rw[←fb];exact m.c.block e.a (h.g_ e he).lt fun hf=>h.off e he (.inl hf)
 ·rcases hm with hm|hm
  ·rcases m.f _ hm with hm|hm
   ·exact h.off e he (.inl hm)
   ·exact absurd (h.g_ e he).lt (Bb.2 hm)
  ·exact h.off e he (.inr hm)
 ·refine(m.c.mono (V:=fun b=>b∈H.map bX.a∨F b∨T b) fun b hb=> .inr (.inl hb)).trans c2 fun b hb hv=> ?_;rcases hv with hv|hv|hv
  ·exact .inl hv
  ·exact(m.f b hv).elim (fun h=> .inr (.inl h)) fun x=>absurd hb (Bb.2 x)
  ·exact .inr (.inr hv)
theorem Mem.xQ{w:tA}{H:List bX}{M:tF}{G R:tJ}(h:Mem w H M G R)(k:Nat){e:bX}(hk:H[k]? =some e):cm M w fun w=>G w∧bh w e.a e.t e.n e.f:=fun w2 c=>by
 have hm:=Ar hk;have fb:=h.g_ e hm;refine⟨h.FD w2 c, ?_⟩;have:=c.block e.a fb.lt (h.off e hm);unfold bh at fb⊢;rw[this,fb]
theorem bh.same{w w':tA}{R T n:Nat}{f:tD}(h:bh w R T n f)(e:w'.heap[R]? =w.heap[R]?):bh w' R T n f:=by
 unfold bh at h⊢;rw[e,h]
theorem Mem.kept{w:tA}{H:List bX}{M:tF}{G R:tJ}(h:Mem w H M G R)(k:Nat){e:bX}(hk:H[k]? =some e)(j:Nat)(hj:j≤k):cm (fun b=>b∈(H.take j).map bX.a∨M b) w (fun w=>bh w e.a e.t e.n e.f):=fun w2 c2=>by
 refine(h.at k hk).same (c2.block e.a (h.at k hk).lt fun hb=> ?_);rcases hb with hb|hb
 ·obtain⟨x,hx,hxa⟩:=Ay.1 hb;obtain⟨i,hi⟩:=Cp hx;rw[AO]at hi;split at hi
  ·have:=h.oY i k x e hi hk hxa;omega
  ·cases hi
 ·exact h.off e (Ar hk) hb
theorem Mem.jN{w w0:tA}{H:List bX}{M:tF}{Γ:tJ}(h:Mem w H M Γ (fun w'=>bZ w0 w'))(k:Nat){e:bX}(hk:H[k]? =some e):w0.heap.size≤e.a:=by
 refine Nat.le_of_not_lt fun vR=> ?_;have hb:e.a∈H.map bX.a:=Ay.2 ⟨e,Ar hk,rfl⟩;have aN:=h.lt hb;have key:∀B,w0.heap[e.a]? =some B:=fun B=>by
  have c:dB (fun b=>b∈H.map bX.a) w {w with heap:=w.heap.set e.a B aN}:=⟨rfl,rfl,rfl,by simp,fun z hz vU=>by
   have fR:e.a≠z:=fun e=>vU (e▸hb)
   simp[fR]⟩
  rw[←(h.r _ c).block e.a vR];simp
 have:=(key (.cells #[] 0 (0,0))).symm.trans (key (.cells #[] 1 (0,0)));simp at this
namespace Rv
def zI:Nat→List Sg→List Sg
 |0,l=>l
 |n+1,l=> .o (iV 0)::zI n l
def zB:Nat→List Sg→List Sg
 |0,l=>l
 |n+1,l=> .o (.bool false)::zB n l
def zS:Nat→List Sg→List Sg
 |0,l=>l
 |n+1,l=> .o (.slice none 0 0)::zS n l
def zP:Nat→List Sg→List Sg
 |0,l=>l
 |n+1,l=> .o (.pointer none)::zP n l
def zA:Nat→Nat→List Sg→List Sg
 |0,_,_=>[]
 |n+1,m,l=> .f m (fun i=>(dD l).getD i undef)::zA n m l
def T0:Tr:= .n (.n (.n (.n (.n (.n (.n .l ⟨1,4,1,[],0,0,0,(.o (.nilFunc)::[])⟩ .l) ⟨3,0,1,[],0,0,0,zI 1 []⟩ .l) ⟨4,0,1,[],0,0,0,zB 1 []⟩ (.n .l ⟨5,0,1,[],0,0,0,(.o (.int .u8 0)::[])⟩ .l)) ⟨22,2,1,[],72,5,0,zS 1 []⟩ (.n (.n .l ⟨23,2,1,[],40,18,0,zS 1 []⟩ .l) ⟨26,2,1,[],63,11,0,zS 1 []⟩ (.n .l ⟨30,3,5,[],4,1,5,zB 5 []⟩ .l))) ⟨32,1,2,[(0,1,false),(1,1,false)],0,0,0,zI 2 []⟩ (.n (.n (.n (.n .l ⟨33,3,8,[],32,2,4,zI 8 []⟩ .l) ⟨35,1,8,[(0,8,true)],0,0,0,zI 8 []⟩ .l) ⟨36,2,1,[],44,1,0,zS 1 []⟩ (.n .l ⟨37,2,1,[],61,14,0,zS 1 []⟩ .l)) ⟨38,2,1,[],65,7,0,zS 1 []⟩ (.n (.n .l ⟨40,1,18,[(0,1,false),(1,5,true),(6,8,true),(14,1,false),(15,1,false),(16,1,false),(17,1,false)],0,0,0,zI 1 (zB 5 (zI 8 (zS 3 (zI 1 []))))⟩ .l) ⟨41,2,1,[],56,6,0,zS 1 []⟩ (.n .l ⟨43,1,6,[(0,1,false),(1,1,false),(2,1,false),(3,1,false),(4,1,false),(5,1,false)],0,0,0,zI 5 (zS 1 [])⟩ .l)))) ⟨44,2,1,[],43,6,0,zS 1 []⟩ (.n (.n (.n (.n (.n .l ⟨46,3,2,[],3,1,2,zI 2 []⟩ .l) ⟨47,3,10,[],46,2,5,zI 10 []⟩ .l) ⟨54,1,2,[(0,1,false),(1,1,false)],0,0,0,zI 2 []⟩ (.n .l ⟨56,1,6,[(0,1,false),(1,1,false),(2,1,false),(3,1,false),(4,2,true)],0,0,0,zI 6 []⟩ .l)) ⟨57,0,1,[],0,0,0,zI 1 []⟩ (.n (.n .l ⟨59,1,4,[(0,1,false),(1,2,true),(3,1,false)],0,0,0,zI 4 []⟩ .l) ⟨61,1,14,[(0,1,false),(1,1,false),(2,1,false),(3,6,true),(9,4,true),(13,1,false)],0,0,0,zI 14 []⟩ (.n .l ⟨63,1,11,[(0,1,false),(1,1,false),(2,1,false),(3,1,false),(4,1,false),(5,6,true)],0,0,0,zI 11 []⟩ .l))) ⟨65,1,7,[(0,1,false),(1,4,true),(5,2,true)],0,0,0,zI 7 []⟩ (.n (.n (.n .l ⟨72,1,5,[(0,1,false),(1,1,false),(2,1,false),(3,1,false),(4,1,false)],0,0,0,zI 5 []⟩ .l) ⟨82,1,4,[(0,1,false),(1,1,false),(2,1,false),(3,1,false)],0,0,0,zI 4 []⟩ (.n .l ⟨83,0,1,[],0,0,0,zP 1 []⟩ .l)) ⟨88,1,3,[(0,1,false),(1,1,false),(2,1,false)],0,0,0,(.o (.string ⟨#[]⟩)::zI 2 [])⟩ (.n (.n .l ⟨96,0,1,[],0,0,0,(.o (.map none)::[])⟩ .l) ⟨98,0,1,[],0,0,0,zP 1 []⟩ (.n .l ⟨99,3,5,[],98,1,5,zP 5 []⟩ .l))))) ⟨100,2,1,[],148,1,0,zS 1 []⟩ (.n (.n (.n (.n (.n (.n .l ⟨101,0,1,[],0,0,0,(.o (.map none)::[])⟩ .l) ⟨103,1,19,[(0,5,true),(5,8,true),(13,1,false),(14,1,false),(15,1,false),(16,1,false),(17,1,false),(18,1,false)],0,0,0,(zP 5 ((zI 8 ((zS 1 ((.o (.map none)::(.o (.map none)::zI 1 (zS 2 [])))))))))⟩ .l) ⟨105,2,1,[],278,2,0,zS 1 []⟩ (.n .l ⟨106,2,1,[],281,4,0,zS 1 []⟩ .l)) ⟨107,3,8,[],4,1,8,zB 8 []⟩ (.n (.n .l ⟨109,1,9,[(0,1,false),(1,8,true)],0,0,0,zI 1 (zB 8 [])⟩ .l) ⟨110,3,36,[],109,9,4,zA 4 9 (zI 1 (zB 8 []))⟩ (.n .l ⟨112,1,41,[(0,1,false),(1,1,false),(2,1,false),(3,1,false),(4,1,false),(5,36,true)],0,0,0,(zI 1 [])++(zI 1 [])++(zI 1 [])++(zS 1 [])++(zS 1 [])++(zA 4 9 (zI 1 (zB 8 [])))⟩ .l))) ⟨114,1,47,[(0,6,true),(6,41,true)],0,0,0,(zI 5 (zS 1 []))++((zI 1 [])++(zI 1 [])++(zI 1 [])++(zS 1 [])++(zS 1 [])++(zA 4 9 (zI 1 (zB 8 []))))⟩ (.n (.n (.n (.n .l ⟨115,3,188,[],114,47,4,zA 4 47 ((zI 5 (zS 1 []))++((zI 1 [])++(zI 1 [])++(zI 1 [])++(zS 1 [])++(zS 1 [])++(zA 4 9 (zI 1 (zB 8 [])))))⟩ .l) ⟨117,1,199,[(0,188,true),(188,8,true),(196,1,false),(197,1,false),(198,1,false)],0,0,0,(zA 4 47 ((zI 5 (zS 1 []))++((zI 1 [])++(zI 1 [])++(zI 1 [])++(zS 1 [])++(zS 1 [])++(zA 4 9 (zI 1 (zB 8 []))))))++(zI 8 [])++(zS 1 [])++((.o (.nilFunc)::[]))++(zI 1 [])⟩ .l) ⟨119,2,1,[],5,1,0,zS 1 []⟩ (.n .l ⟨121,1,2,[(0,1,false),(1,1,false)],0,0,0,zS 1 (zI 1 [])⟩ .l)) ⟨123,1,206,[(0,1,false),(1,1,false),(2,1,false),(3,2,true),(5,199,true),(204,1,false),(205,1,false)],0,0,0,(zP 1 [])++(zI 1 [])++(zB 1 [])++(zS 1 (zI 1 []))++((zA 4 47 ((zI 5 (zS 1 []))++((zI 1 [])++(zI 1 [])++(zI 1 [])++(zS 1 [])++(zS 1 [])++(zA 4 9 (zI 1 (zB 8 []))))))++(zI 8 [])++(zS 1 [])++((.o (.nilFunc)::[]))++(zI 1 []))++(zI 1 [])++(zB 1 [])⟩ (.n (.n .l ⟨128,3,36,[],88,3,12,(.o (.string ⟨#[]⟩)::(zI 2 ((.o (.string ⟨#[]⟩)::(zI 2 ((.o (.string ⟨#[]⟩)::(zI 2 ((.o (.string ⟨#[]⟩)::(zI 2 ((.o (.string ⟨#[]⟩)::(zI 2 ((.o (.string ⟨#[]⟩)::(zI 2 ((.o (.string ⟨#[]⟩)::(zI 2 ((.o (.string ⟨#[]⟩)::(zI 2 ((.o (.string ⟨#[]⟩)::(zI 2 ((.o (.string ⟨#[]⟩)::(zI 2 ((.o (.string ⟨#[]⟩)::(zI 2 ((.o (.string ⟨#[]⟩)::zI 2 []))))))))))))))))))))))))))))))))))⟩ .l) ⟨129,2,1,[],132,1,0,zS 1 []⟩ (.n .l ⟨132,0,1,[],0,0,0,zP 1 []⟩ .l)))) ⟨144,1,10,[(0,1,false),(1,1,false),(2,1,false),(3,1,false),(4,6,true)],0,0,0,zI 10 []⟩ (.n (.n (.n (.n (.n .l ⟨147,1,21,[(0,1,false),(1,1,false),(2,1,false),(3,1,false),(4,1,false),(5,6,true),(11,4,true),(15,2,true),(17,1,false),(18,1,false),(19,1,false),(20,1,false)],0,0,0,zI 19 (zS 1 (zB 1 []))⟩ .l) ⟨148,0,1,[],0,0,0,zP 1 []⟩ .l) ⟨153,2,1,[],144,10,0,zS 1 []⟩ (.n .l ⟨190,2,1,[],59,4,0,zS 1 []⟩ .l)) ⟨221,2,1,[],147,21,0,zS 1 []⟩ (.n (.n .l ⟨223,2,1,[],119,1,0,zS 1 []⟩ .l) ⟨227,1,45,[(0,41,true),(41,4,true)],0,0,0,((zI 1 [])++(zI 1 [])++(zI 1 [])++(zS 1 [])++(zS 1 [])++(zA 4 9 (zI 1 (zB 8 []))))++(zI 4 [])⟩ (.n .l ⟨229,1,46,[(0,45,true),(45,1,false)],0,0,0,(((zI 1 [])++(zI 1 [])++(zI 1 [])++(zS 1 [])++(zS 1 [])++(zA 4 9 (zI 1 (zB 8 []))))++(zI 4 []))++(zS 1 [])⟩ .l))) ⟨241,4,1,[],0,0,0,(.o (.nilFunc)::[])⟩ (.n (.n (.n .l ⟨255,1,41,[(0,41,true)],0,0,0,((zI 1 [])++(zI 1 [])++(zI 1 [])++(zS 1 [])++(zS 1 [])++(zA 4 9 (zI 1 (zB 8 []))))⟩ .l) ⟨259,3,10,[],132,1,10,zP 10 []⟩ (.n .l ⟨262,2,1,[],3,1,0,zS 1 []⟩ .l)) ⟨271,2,1,[],41,1,0,zS 1 []⟩ (.n (.n .l ⟨278,1,2,[(0,1,false),(1,1,false)],0,0,0,zI 2 []⟩ .l) ⟨281,1,4,[(0,2,true),(2,2,true)],0,0,0,zI 4 []⟩ (.n .l ⟨299,2,1,[],4,1,0,zS 1 []⟩ .l)))))
theorem Yz:T0.Ok Tryz.prog:=⟨by kernel_rfl,by kernel_rfl,by kernel_rfl⟩
section
variable{n:Nat}{ops:tP}{f:Nat→AV}{fn:Func}{Rr:Ending→World→Prop}{M:tF}{Φ R:tJ}{H:List En}{w:tA}{ks:List Fr}{t:Ord}{i d:Nat}{md:Md}
theorem ad_{a b:Nat}(h:a=b):Ad a b:=h
theorem ce_{x:tK}(h:x.cells= #[x]):Ce x:=h
theorem cs_{x:tK}(h:x.cells= #[x])(k:x.oneCell'=true):Cs x:=⟨h,k⟩
theorem on_{g:tD}{m:Nat}(h:(List.range m).all (fun i=>(g i).oneCell')=true):aW g m:=fun i hi=>List.all_eq_true.1 h i (Cg.2 hi)
theorem cm_{g:BinOp}{a b:Int}{c:Bool}(h:sO g a b=some c):Cm g a b c:=h
theorem wr_{a c:Int}(e:a=c)(h: -9223372036854775808≤a)(k:a≤9223372036854775807):Wr a c:=by
 subst e;show IntKind.i64.wrap a=a;rw[IntKind.wrap_i64];omega
theorem va_{md:Md}{j:Nat}{b:Bool}(h:md.va.map some=md.vi.map fun k=>(nth H k).map En.a)(k:md.vi.contains j=b):Va H md j b:=⟨h,k⟩
theorem mn_{a b c:Int}(h:c≤a)(k:c≤b)(l:c=a∨c=b):Mn a b c:=by
 unfold Mn;split<;>omega
theorem lt_{a b:Nat}(h:a<b):Lt a b:=h
theorem le_{a b:Nat}(h:a≤b):Le a b:=h
theorem dr_{md:Md}{t:Ord}(h:abD md ops t=true):Dr md ops t:=h
theorem r{h':(Nat→Nat)→List Nat}{z':(Nat→Nat)→List Int}{uA:(Nat→Nat)→List Fr}{f':(Nat→Nat)→Nat→AV}{H':(Nat→Nat)→List En}{c':(Nat→Nat)→List Prop}(h:tW)(hr:(fun α=>run T0 n fn.results.toList 2000 α ⟨h,[],ks,f,H⟩ [])=fun α=>(⟨h' α,z' α,uA α,f' α,H' α⟩,c' α))(hn:∀α,G Tryz.prog fn Rr n M Φ R (uA α) (f' α) (H' α))(hc:∀α,jL (c' α):=by intro _;repeat' first|exact trivial|refine And.intro ?_ ?_|exact ad_ rfl|exact ce_ rfl|exact cs_ rfl rfl|assumption|exact cm_ rfl|exact Ml (by assumption)|exact ltF (by assumption)|exact eqT (by assumption)|exact eqF (by assumption)|exact Ml (by omega)|exact ltF (by omega)|exact eqT (by omega)|exact eqF (by omega)|exact gtT (by omega)|exact gtF (by omega)|exact geT (by omega)|exact geF (by omega)|exact neT (by omega)|exact neF (by omega)|exact leT (by omega)|exact leF (by omega)|exact wr_ (by omega) (by omega) (by omega)|exact mn_ (by omega) (by omega) (by omega)|exact on_ rfl|exact kd_ rfl|exact(rfl:([]:tW)=[])|exact va_ rfl rfl|exact dr_ (by kernel_rfl)|exact lt_ (cR rfl)|exact lt_ (by omega)|exact le_ (cR rfl)|exact le_ (by omega)|omega|dsimp only):G Tryz.prog fn Rr n M Φ R ks f H:=
 Zr Yz 2000 h [] (fun α=>congrFun hr α) hn hc
theorem rs{h':(Nat→Nat)→List Nat}{z':(Nat→Nat)→List Int}{uA:(Nat→Nat)→List Fr}{f':(Nat→Nat)→Nat→AV}{H':(Nat→Nat)→List En}{c':(Nat→Nat)→List Prop}(h:tW)(hr:(fun α=>run T0 n fn.results.toList 2000 α ⟨h,[],ks,f,H⟩ [])=fun α=>(⟨h' α,z' α,uA α,f' α,H' α⟩,c' α))(_:(match jc T0 n fn.results.toList ⟨h,[],ks,f,H⟩with|some _=>true|none=>(alS T0 n ⟨h,[],ks,f,H⟩).isSome)=true)(hn:∀α,G Tryz.prog fn Rr n M Φ R (uA α) (f' α) (H' α))(hc:∀α,jL (c' α):=by intro _;repeat' first|exact trivial|refine And.intro ?_ ?_|exact ad_ rfl|exact ce_ rfl|exact cs_ rfl rfl|assumption|exact cm_ rfl|exact Ml (by assumption)|exact ltF (by assumption)|exact eqT (by assumption)|exact eqF (by assumption)|exact Ml (by omega)|exact ltF (by omega)|exact eqT (by omega)|exact eqF (by omega)|exact gtT (by omega)|exact gtF (by omega)|exact geT (by omega)|exact geF (by omega)|exact neT (by omega)|exact neF (by omega)|exact leT (by omega)|exact leF (by omega)|exact wr_ (by omega) (by omega) (by omega)|exact mn_ (by omega) (by omega) (by omega)|exact on_ rfl|exact kd_ rfl|exact(rfl:([]:tW)=[])|exact va_ rfl rfl|exact dr_ (by kernel_rfl)|exact lt_ (cR rfl)|exact lt_ (by omega)|exact le_ (cR rfl)|exact le_ (by omega)|omega|dsimp only):G Tryz.prog fn Rr n M Φ R ks f H:=
 Zr Yz 2000 h [] (fun α=>congrFun hr α) hn hc
theorem rz{h':(Nat→Nat)→List Nat}{z':(Nat→Nat)→List Int}{uA:(Nat→Nat)→List Fr}{f':(Nat→Nat)→Nat→AV}{H':(Nat→Nat)→List En}{c':(Nat→Nat)→List Prop}(h:tW)(z:tG)(hr:(fun α=>run T0 n fn.results.toList 2000 α ⟨h,z,ks,f,H⟩ [])=fun α=>(⟨h' α,z' α,uA α,f' α,H' α⟩,c' α))(hn:∀α,G Tryz.prog fn Rr n M Φ R (uA α) (f' α) (H' α))(hc:∀α,jL (c' α):=by intro _;repeat' first|exact trivial|refine And.intro ?_ ?_|exact ad_ rfl|exact ce_ rfl|exact cs_ rfl rfl|assumption|exact cm_ rfl|exact Ml (by assumption)|exact ltF (by assumption)|exact eqT (by assumption)|exact eqF (by assumption)|exact Ml (by omega)|exact ltF (by omega)|exact eqT (by omega)|exact eqF (by omega)|exact gtT (by omega)|exact gtF (by omega)|exact geT (by omega)|exact geF (by omega)|exact neT (by omega)|exact neF (by omega)|exact leT (by omega)|exact leF (by omega)|exact wr_ (by omega) (by omega) (by omega)|exact mn_ (by omega) (by omega) (by omega)|exact on_ rfl|exact kd_ rfl|exact(rfl:([]:tW)=[])|exact va_ rfl rfl|exact dr_ (by kernel_rfl)|exact lt_ (cR rfl)|exact lt_ (by omega)|exact le_ (cR rfl)|exact le_ (by omega)|omega|dsimp only):G Tryz.prog fn Rr n M Φ R ks f H:=
 Zr Yz 2000 h z (fun α=>congrFun hr α) hn hc
theorem cb{g:Nat}{al:List AV}(e:Ru n ops f i=some (d,g,al))(a:AV)(hc:∀w,Mem w (hs H) M Φ R→cA g (al.map AV.val).toArray w (rB a.val w))(hn:G Tryz.prog fn Rr n M Φ R (.g md ops t::ks) (ua f d a) H)(he:iS Tryz.prog g=true:=by kernel_rfl):G Tryz.prog fn Rr n M Φ R (.g md ops (.ef i t)::ks) f H:=
 mG e he fun w hS=>(hc w hS).mono fun _ _ ⟨h1,h2⟩=>⟨a,H,M,Φ,R,h1,.inr h2,hS.next h2,hn⟩
theorem m0(w:tA):Mem w (hs []) (fun _=>False) (fun _=>True) (fun w'=>bZ w w'):=Mem.start (fun _ h=>h.elim) (fun _ _=>trivial) (fun _ h=>h)
theorem en{g:FuncId}{b:Code}(n:Nat)(al:List AV)(hf:Tryz.prog.funcs[g]? =some fn)(hb:fn.body=some b)(hn:fn.ntmps=n)(hS:Mem w (hs H) M Φ R)(h:G Tryz.prog fn Rr n M Φ R [.c b] (VL al) H)(hl:Nat.ble al.length n=true:=by rfl)(hk:G6 n b=true:=by kernel_rfl):cA g (al.map AV.val).toArray w Rr:=abT n al hf hb hn hl hk hS h
theorem cx{Y:Type}{g:Nat}{al:List AV}(e:Ru n ops f i=some (d,g,al))(a:Y→AV)(Q:Y→Prop)(φ:Y→World→Prop)(hc:∀w,Mem w (hs H) M Φ R→cA g (al.map AV.val).toArray w fun x w'=>∃y,x= .returned (a y).val∧bZ w w'∧Q y∧((∀b,(b∈(hs H).map bX.a∨M b)→b<w.heap.size)→cm (fun b=>b∈(hs H).map bX.a∨M b) w' (φ y)))(hn:∀y,Q y→G Tryz.prog fn Rr n M (fun w=>Φ w∧φ y w) R (.g md ops t::ks) (ua f d (a y)) H)(he:iS Tryz.prog g=true:=by kernel_rfl):G Tryz.prog fn Rr n M Φ R (.g md ops (.ef i t)::ks) f H:=
 mG e he fun w hS=>(hc w hS).mono fun _ _ ⟨y,h1,h2,h3,h4⟩=>⟨a y,H,M,_,R,h1,.inr h2,(hS.next h2).add (h4 hS.ult),hn y h3⟩
theorem cq{Y:Type}{g:Nat}{al:List AV}(e:Ru n ops f i=some (d,g,al))(a:Y→AV)(Q:Y→Prop)(hc:∀w,Mem w (hs H) M Φ R→cA g (al.map AV.val).toArray w fun x w'=>∃y,x= .returned (a y).val∧bZ w w'∧Q y)(hn:∀y,Q y→G Tryz.prog fn Rr n M Φ R (.g md ops t::ks) (ua f d (a y)) H)(he:iS Tryz.prog g=true:=by kernel_rfl):G Tryz.prog fn Rr n M Φ R (.g md ops (.ef i t)::ks) f H:=
 mG e he fun w hS=>(hc w hS).mono fun _ _ ⟨y,h1,h2,h3⟩=>⟨a y,H,M,Φ,R,h1,.inr h2,hS.next h2,hn y h3⟩
def abX(n:Nat)(ops:tP)(f:Nat→AV)(i:Nat):Option (Nat×Bool×Nat×AV×AV):=match ops[i]? with
 |some o=>match o.dst,sS n ops f o,o.op with
  |some d,some true,.binOp .eql s x y _=>some (d,false,s,ea f x,ea f y)
  |some d,some true,.binOp .neq s x y _=>some (d,true,s,ea f x,ea f y)
  |_,_,_=>none
 |none=>none
theorem eqs{s:Nat}{neg c b:Bool}{x y:AV}{u v:tR}(e:abX n ops f i=some (d,neg,s,x,y))(h:∀w,(Op.equalIn 10000 s x.val y.val).run Tryz.prog w= .ok c w)(hb:(c !=neg)=b)(hn:G Tryz.prog fn Rr n M Φ R (.g md ops t::ks) (ua f d (vv (.bool b))) H)(hx:x.val= .agg u:=by rfl)(hy:y.val= .agg v:=by rfl)(hg:Tryz.prog.eqGuardType Tryz.prog.depth s=false:=by kernel_rfl):G Tryz.prog fn Rr n M Φ R (.g md ops (.pu i t)::ks) f H:=by
 intro w hS hK;obtain⟨hK1,iC⟩:=bt.1 hK;have hn:=hn w hS (bt.2 ⟨hK1,iC⟩);show WF Tryz.prog ops (kq Tryz.prog fn Rr ks) md.va (o7 md ops) (vQ md ops) (.pu i t) n (cn f) w;have h2:∀u v,Op.equal s u v=Op.equalIn 10000 s u v:=fun _ _=>rfl;subst hb;unfold abX at e;split at e
 ·rename_i o ho;split at e
  ·rename_i d' s' p q s2 hd hw hp;simp only[Option.some.injEq,Prod.mk.injEq]at e;obtain⟨rfl,rfl,rfl,rfl,rfl⟩:=e;refine Ef ho hd (fF hw) (dU hK1).1 (v:=(vv (.bool (c !=false))).val) (fun w'=> ?_) (by rw[←jK];exact hn);have hxe:ev (cn f) p= .agg u:=(bC f p).symm.trans hx;have hye:ev (cn f) q= .agg v:=(bC f q).symm.trans hy;have h:=h w';rw[hx,hy]at h;simp[execOp,hp,hxe,hye,eqGuard,hg,binOp,h2,h];rfl
  ·rename_i d' s' p q s2 hd hw hp;simp only[Option.some.injEq,Prod.mk.injEq]at e;obtain⟨rfl,rfl,rfl,rfl,rfl⟩:=e;refine Ef ho hd (fF hw) (dU hK1).1 (v:=(vv (.bool (c !=true))).val) (fun w'=> ?_) (by rw[←jK];exact hn);have hxe:ev (cn f) p= .agg u:=(bC f p).symm.trans hx;have hye:ev (cn f) q= .agg v:=(bC f q).symm.trans hy;have h:=h w';rw[hx,hy]at h;simp[execOp,hp,hxe,hye,eqGuard,hg,binOp,h2,h];rfl
  ·cases e
 ·cases e
theorem Zu{s b q:Nat}{x:AV}{e:Ty}(h1:Yx n ops f i=some (d,s,x))(v:tK)(hc:∀w,Φ w∧(md.va=[]→Mem w (hs H) M Φ R)→w.cell? ⟨b,q,none⟩=some v)(hn:G Tryz.prog fn Rr n M Φ R (.g md ops t::ks) (ua f d (vv v)) H)(N8:∀a,a∈md.va→a∈(hs H).map bX.a)(hx:x.val= .pointer (some ⟨b,q,none⟩):=by rfl)(hf:T0.find s=some e:=by rfl)(ho:e.fM=true:=by rfl):G Tryz.prog fn Rr n M Φ R (.g md ops (.rd i t)::ks) f H:=
 Yy Yz (.o v) h1 hx hf (by rw[ho]) (fun w hS j y hy=>by
  cases j with
  |zero=>cases hy;exact hc w hS
  |succ j=>cases hy) N8 hn
theorem l1{va vi vs:_}{cb:Bool}{s b q:Nat}{x:AV}{e:Ty}(h1:Yx n ops f i=some (d,s,x))(v:tK)(hc:∀w,Mem w (hs H) M Φ R→w.cell? ⟨b,q,none⟩=some v)(hn:G Tryz.prog fn Rr n M Φ R (.g ⟨cb,vi,va,vs⟩ ops t::ks) (ua f d (vv v)) H)(hv:va=[]:=by rfl)(hx:x.val= .pointer (some ⟨b,q,none⟩):=by rfl)(hf:T0.find s=some e:=by rfl)(ho:e.fM=true:=by rfl):G Tryz.prog fn Rr n M Φ R (.g ⟨cb,vi,va,vs⟩ ops (.rd i t)::ks) f H:=
 Zu h1 v (fun w h=>hc w (h.2 hv)) hn (fun a ha=>by rw[show va=[] from hv]at ha;cases ha) hx hf ho
theorem lfg{s b q:Nat}{x:AV}{e:Ty}(h1:Yx n ops f i=some (d,s,x))(m:Nat)(g:tD)(hc:∀w,Φ w∧(md.va=[]→Mem w (hs H) M Φ R)→∀j,j<m→w.cell? ⟨b,q+j,none⟩=some (g j))(hn:G Tryz.prog fn Rr n M Φ R (.g md ops t::ks) (ua f d (vf m g)) H)(N8:∀a,a∈md.va→a∈(hs H).map bX.a)(hx:x.val= .pointer (some ⟨b,q,none⟩):=by rfl)(hf:T0.find s=some e:=by rfl)(ho:e.fM=false:=by rfl)(hm:e.m=m:=by rfl):G Tryz.prog fn Rr n M Φ R (.g md ops (.rd i t)::ks) f H:=
 Yy Yz (.g [.f m g]) h1 hx hf (by rw[ho];subst hm;exact Nat.beq_refl _) (fun w hS j y hy=>by
  have hj:=(Ap.1 hy).1;have hj:j<m:=by
   rw[de]at hj;exact hj
  have hy:(cE g 0 m)[j]? =some y:=hy;rw[bW _ _ _ _ hj,Aj]at hy;cases hy
  exact hc w hS j hj) N8 hn
theorem lf{va vi vs:_}{cb:Bool}{s b q:Nat}{x:AV}{e:Ty}(h1:Yx n ops f i=some (d,s,x))(m:Nat)(g:tD)(hc:∀w,Mem w (hs H) M Φ R→∀j,j<m→w.cell? ⟨b,q+j,none⟩=some (g j))(hn:G Tryz.prog fn Rr n M Φ R (.g ⟨cb,vi,va,vs⟩ ops t::ks) (ua f d (vf m g)) H)(hv:va=[]:=by rfl)(hx:x.val= .pointer (some ⟨b,q,none⟩):=by rfl)(hf:T0.find s=some e:=by rfl)(ho:e.fM=false:=by rfl)(hm:e.m=m:=by rfl):G Tryz.prog fn Rr n M Φ R (.g ⟨cb,vi,va,vs⟩ ops (.rd i t)::ks) f H:=
 lfg h1 m g (fun w h=>hc w (h.2 hv)) hn (fun a ha=>by rw[show va=[] from hv]at ha;cases ha) hx hf ho hm
end
section
variable{n:Nat}{ops:tP}{f:Nat→AV}{fn:Func}{Rr:Ending→World→Prop}{M:tF}{Φ R:tJ}{H:List En}{w:tA}{ks:List Fr}{t:Ord}{i d:Nat}{md:Md}
theorem vV(hS:Mem w (hs H) M Φ R)(j:Nat){e:En}(he:nth H j=some e):bh w e.a e.t (eX e.l) (cy e.l):=by
 rw[eR]at he;exact hS.at j (by rw[Ax,he];rfl)
theorem lo{va vi vs:_}{cb:Bool}{s b q:Nat}{x:AV}{e:Ty}{en:En}(h1:Yx n ops f i=some (d,s,x))(hx:x.val= .pointer (some ⟨b,q,none⟩))(j:Nat)(he:nth H j=some en)(m:Nat)(g:tD)(hg:∀i,i<m→cy en.l (q+i)=g i)(hn:G Tryz.prog fn Rr n M Φ R (.g ⟨cb,vi,va,vs⟩ ops t::ks) (ua f d (vf m g)) H)(hq:q+m≤eX en.l:=by first|exact cR rfl|(show _≤206;(try dsimp only);omega)|(show _≤199;(try dsimp only);omega)|(show _≤19;(try dsimp only);omega)|(show _≤18;(try dsimp only);omega)|(show _≤8;(try dsimp only);omega))(ha:en.a=b:=by rfl)(hv:va=[]:=by rfl)(hf:T0.find s=some e:=by rfl)(ho:e.fM=false:=by rfl)(hm:e.m=m:=by rfl):G Tryz.prog fn Rr n M Φ R (.g ⟨cb,vi,va,vs⟩ ops (.rd i t)::ks) f H:=
 lf h1 m g (fun w hS i hi=>by
  have:=(vV hS j he).at (q+i) (by omega);rw[ha,hg i hi]at this
  exact this) hn hv hx hf ho hm
theorem lo1{va vi vs:_}{cb:Bool}{s b q:Nat}{x:AV}{e:Ty}{en:En}(h1:Yx n ops f i=some (d,s,x))(hx:x.val= .pointer (some ⟨b,q,none⟩))(j:Nat)(he:nth H j=some en)(v:tK)(hg:cy en.l q=v)(hn:G Tryz.prog fn Rr n M Φ R (.g ⟨cb,vi,va,vs⟩ ops t::ks) (ua f d (vv v)) H)(hq:q<eX en.l:=by first|exact cR rfl|(show _<206;(try dsimp only);omega)|(show _<199;(try dsimp only);omega)|(show _<19;(try dsimp only);omega)|(show _<18;(try dsimp only);omega)|(show _<8;(try dsimp only);omega))(ha:en.a=b:=by rfl)(hv:va=[]:=by rfl)(hf:T0.find s=some e:=by rfl)(ho:e.fM=true:=by rfl):G Tryz.prog fn Rr n M Φ R (.g ⟨cb,vi,va,vs⟩ ops (.rd i t)::ks) f H:=
 l1 h1 v (fun w hS=>by
  have:=(vV hS j he).at q hq;rw[ha,hg]at this
  exact this) hn hv hx hf ho
def Vj(n:Nat)(ops:tP)(f:Nat→AV)(i:Nat):Option (Nat×AV×AV):=match ops[i]? with
 |some o=>match o.dst,sS n ops f o,o.op with
  |none,some true,.store s x y=>some (s,ea f x,ea f y)
  |_,_,_=>none
 |none=>none
theorem so{s b q m:Nat}{x y:AV}{e:Ty}{en:En}{g:tD}(h1:Vj n ops f i=some (s,x,y))(hx:x.val= .pointer (some ⟨b,q,none⟩))(hy:y.val=vF g m)(j:Nat)(he:nth H j=some en)(g':tD)(hg:∀i,i<eX en.l→gh (cy en.l) q m g i=g' i)(hn:G Tryz.prog fn Rr n M Φ R (.g md ops t::ks) f (H.set j ⟨en.a,en.t,[.f (eX en.l) g']⟩))(N9:aW g m)(hq:q+m≤eX en.l:=by first|exact cR rfl|(show _≤206;(try dsimp only);omega)|(show _≤199;(try dsimp only);omega)|(show _≤19;(try dsimp only);omega)|(show _≤18;(try dsimp only);omega)|(show _≤8;(try dsimp only);omega))(ha:en.a=b:=by rfl)(hv:md.vs.contains i=false:=by rfl)(hf:T0.find s=some e:=by rfl)(ho:e.fM=false:=by rfl)(hm:e.m=m:=by rfl):G Tryz.prog fn Rr n M Φ R (.g md ops (.ef i t)::ks) f H:=by
 intro w hS hK;obtain⟨hK1,iC⟩:=bt.1 hK;show WF Tryz.prog ops (kq Tryz.prog fn Rr ks) md.va (o7 md ops) (vQ md ops) (.ef i t) n (cn f) w;obtain⟨NZ,rfl⟩:=Yz.fe hf;have xm:=he;rw[eR]at xm;have xn:(hs H)[j]? =some en.g_:=by rw[Ax,xm];rfl
 unfold Vj at h1;split at h1
 ·rename_i o hoo;split at h1
  ·rename_i s' p r hd hw hp;simp only[Option.some.injEq,Prod.mk.injEq]at h1;obtain⟨rfl,rfl,rfl⟩:=h1;have hx:ev (cn f) p= .pointer (some ⟨b,q,none⟩):=(bC f p).symm.trans hx;have hy:ev (cn f) r=vF g m:=(bC f r).symm.trans hy
   have Ho:(o7 md ops).contains i=true:=lE hoo (by
    unfold nW;rw[hv,hp]
    cases md.cb<;>rfl)
   refine aeG (P:=Tryz.prog) (hm▸Ty.row NZ ho) hS j xn Ho hoo hd (fF hw) (dU hK1).1 hp hx hy ha hq N9 fun w' DB=> ?_
   have Ep:=DB.congr j (e:=⟨en.a,en.t,eX en.l,gh (cy en.l) q m g⟩) (by
    rw[Cx (Ap.1 xn).1]
    rfl) g' hg
   rw[List.set_set]at Ep;have e4:hs (H.set j ⟨en.a,en.t,[.f (eX en.l) g']⟩)=(hs H).set j ⟨en.a,en.t,eX en.l,g'⟩:=by
    rw[hs,Co];rfl
   exact hn w' (by rw[e4];exact Ep) (bt.2 ⟨hK1,iC⟩)
  ·cases h1
 ·cases h1
theorem gn{en:En}(j:Nat)(g:tD)(hn:G Tryz.prog fn Rr n M Φ R ks f (H.set j ⟨en.a,en.t,[.f (eX en.l) g]⟩))(he:nth H j=some en:=by rfl)(hg:dD en.l=cE g 0 (eX en.l):=by rfl):G Tryz.prog fn Rr n M Φ R ks f H:=by
 refine jt (fun w hS=> ?_) hn;have xm:=he;rw[eR]at xm;have xn:(hs H)[j]? =some en.g_:=by rw[Ax,xm];rfl
 have Ep:=hS.congr j xn g (fun i hi=>by
  have hi:i<eX en.l:=hi;show cy en.l i=g i;rw[iu _ hi,hg,Aw,bW _ _ _ _ hi,Aj]
  rfl)
 have e4:hs (H.set j ⟨en.a,en.t,[.f (eX en.l) g]⟩)=(hs H).set j ⟨en.a,en.t,eX en.l,g⟩:=by
  rw[hs,Co];rfl
 rw[e4];exact Ep
theorem sv{fn:Func}{Rr:Ending→World→Prop}{n:Nat}{M:tF}{Φ R:tJ}{ks:List Fr}{f:Nat→AV}{H:List En}(d:Nat)(a:AV)(h:(f d).val=a.val)(hn:G Tryz.prog fn Rr n M Φ R ks (ua f d a) H):G Tryz.prog fn Rr n M Φ R ks f H:=by
 intro w hS hK;have:=hn w hS hK;rw[show cn (ua f d a)=cn f from uC f [(d,a)] ⟨h,trivial⟩]at this;exact this
theorem c0{M:tF}{R:tJ}{e0:En}{g:Nat}{al:List AV}(e:Ru n ops f i=some (d,g,al))(hc:∀w,Mem w (hs (e0::H)) M Φ R→cA g (al.map AV.val).toArray w fun x w'=>∃(a:AV) (g':tD) (φ:tJ),x= .returned a.val∧dB (fun b=>b=e0.a) w w'∧bh w' e0.a e0.t (eX e0.l) g'∧cm (fun b=>b=e0.a∨(b∈(hs H).map bX.a∨M b)) w' φ∧G Tryz.prog fn Rr n M (fun w=>Φ w∧φ w) R (.g md ops t::ks) (ua f d a) (⟨e0.a,e0.t,[.f (eX e0.l) g']⟩::H))(hm:(md.cb||md.vs.contains i)=false:=by rfl)(he:iS Tryz.prog g=true:=by kernel_rfl):G Tryz.prog fn Rr n M Φ R (.g md ops (.ef i t)::ks) f (e0::H):=
 mG e he fun w hS=>(hc w hS).mono fun _ w' ⟨a,g',φ,h1,c,fb,s,hn⟩=>⟨a,⟨e0.a,e0.t,[.f (eX e0.l) g']⟩::H,_,_,_,h1,.inl hm,hS.Rx c fb s,hn⟩
theorem kp{M:tF}{R:tJ}(k:Nat){e:En}(he:nth H k=some e)(hn:G Tryz.prog fn Rr n M (fun w=>Φ w∧bh w e.a e.t (eX e.l) (cy e.l)) R ks f (H.take k)):G Tryz.prog fn Rr n M Φ R ks f H:=
 jt (fun w hS=>by
  rw[eR]at he;have hh:hs (H.take k)=(hs H).take k:=List.map_take;rw[hh];refine(hS.take k).add (hS.kept k (e:=e.g_) ?_ k (Ac _));rw[Ax,he]
  rfl) hn
def Mu:List Fr→Bool
 |[]=>true
 | .c _::l=>Mu l
 | .b _::l=>Mu l
 |_=>false
theorem FE{P:tY}{k1 k2:List Fr}(h:∀e a w,kq P fn Rr k1 e a w→kq P fn Rr k2 e a w):∀(l:List Fr),Mu l=true→∀e a w,kq P fn Rr (l++k1) e a w→kq P fn Rr (l++k2) e a w
 |[],_,e,a,w,hq=>h e a w hq
 | .c c::l,hp,e,a,w,hq=>by
  have ih:=FE h l hp;cases e with
  |normal=>exact Code.wp_mono ih hq
  |_=>exact ih _ _ _ hq
 | .b id::l,hp,e,a,w,hq=>by
  have ih:=FE h l hp;cases e with
  |exit id'=>
   show(if id'=id then _ else _);have hq:(if id'=id then kq P fn Rr (l++k1) .normal a w else kq P fn Rr (l++k1) (.exit id') a w):=hq;split
   ·rename_i e;rw[Ae e]at hq;exact ih _ _ _ hq
   ·rename_i e;rw[Aa e]at hq;exact ih _ _ _ hq
  |_=>exact ih _ _ _ hq
theorem FF(n:Nat):∀a b:List Fr,Hj n (a++b)=(Hj n a&&Hj n b)
 |[],b=>rfl
 |x::a,b=>by
  show(okF n x&&Hj n (a++b))=((okF n x&&Hj n a)&&Hj n b);rw[FF n a b,Bool.and_assoc]
theorem aeZ{X:Type}(k:Nat)(s:X→List (Nat×AV))(H':X→List En)(M':X→Nat→Prop)(G8 R':X→World→Prop)(J:X→Prop)(h1:∀f x,J x→G Tryz.prog fn Rr n (M' x) (G8 x) (R' x) (ks.drop k) (us f (s x)) (H' x))(h2:G Tryz.prog fn Rr n M Φ R (ks.take k++ .j (LJ n ⟨s,H',M',G8,R',J,fun _=>0⟩ 1)::ks.drop k) f H)(hp:Mu (ks.take k)=true:=by rfl):G Tryz.prog fn Rr n M Φ R ks f H:=by
 intro w hS hK;have iC:(Hj n (ks.take k)&&Hj n (ks.drop k))=true:=by rw[←FF,BU];exact hK
 have hKa:=(Bool.and_eq_true_iff.1 iC).1;have hKb:=(Bool.and_eq_true_iff.1 iC).2;have h:=h2 w hS (by rw[FF,hKa];exact(Bool.and_eq_true_iff.2 ⟨rfl,hKb⟩:(true&&Hj n (ks.drop k))=true));rw[show ks=ks.take k++ks.drop k from(BU k ks).symm];refine FE (fun e a' w' hq=> ?_) _ hp _ _ _ h;cases e with
 |normal=>
  obtain⟨f,x,rfl,e1,e2,e3,_⟩:=hq;have:=h1 f x e3 w' e2 hKb;rw[uC f _ e1]at this;exact this
 |_=>exact hq
end
end Rv
def aA(n m:Int):Int:=(if n<0 then-(n+1)else n) % m
theorem di(n m:Int)(h:0<m):0≤aA n m∧aA n m<m:=by
 unfold aA;exact⟨Int.emod_nonneg _ (by omega),Int.emod_lt_of_pos _ h⟩
theorem jd(n m:Int)(w:tA)(hn:(Lit.int .i64 n).wf=true)(hm:0<m)(rX:m≤4294967296):
  cA 30 #[iV n,iV m] w fun e w'=>e= .returned (iV (aA n m))∧w=w':=by
 have hb:=bounds_i64 hn;clear hn;obtain⟨n_,Du⟩:=hb;by_cases h:n<0
 ·have e1:aA n m=(-(n+1)) % m:=by unfold aA;rw[Ae h]
  rw[e1];clear e1;have VN:¬m=0:=by omega
  go_enter Tryz.func30,Tryz.ntmps30;go_wp2;go_ret;refine⟨AB (fun z=>Ending.returned (iV z)) ?_,rfl⟩;rw[←Int.neg_tmod,Int.tmod_eq_emod_of_nonneg (by omega)]
 ·have e1:aA n m=n % m:=by unfold aA;rw[Aa h]
  rw[e1];clear e1;have VN:¬m=0:=by omega
  go_enter Tryz.func30,Tryz.ntmps30;go_wp2;go_ret;exact⟨rfl,rfl⟩
theorem Mem.Ry{w:tA}{H:List bX}{M:tF}{Γ R0:tJ}{base e sz n:Nat}{v:tK}{xs:tM}(h:Mem w H M Γ fun w=>R0 w∧w.ownsRow base e sz v n xs):∀b,v.ownBlock=some b→b∉H.map bX.a:=by
 intro b hb hm;have aN:=h.lt hm
 have c:dB (fun b=>b∈H.map bX.a) w {w with heap:=w.heap.set b (.cells #[] (e+1) (0,0)) aN}:=⟨rfl,rfl,rfl,by simp,fun z hz vU=>by
  have fR:b≠z:=fun e=>vU (e▸hm)
  simp[fR]⟩
 rcases(h.r _ c).2.2 with⟨rfl,_⟩|⟨g,cap,cur,rfl,_,hh,_⟩
 ·cases hb
 ·obtain rfl:g=b:=by simpa[Value.ownBlock]using hb
  simp at hh
theorem jO{w w':tA}{base e sz n:Nat}{v:tK}{xs:tM}(h:w.ownsRow base e sz v n xs)(hb:∀g,v.ownBlock=some g→g<w.heap.size→w'.heap[g]? =w.heap[g]?):w'.ownsRow base e sz v n xs:=by
 refine⟨h.1,h.2.imp id ?_⟩;rintro⟨g,cap,cur,rfl,h1,h2,h3⟩;exact⟨g,cap,cur,rfl,h1,(hb g rfl (BP.1 h2).1).trans h2,h3⟩
theorem cB{w0 w w':tA}{B:Nat}(h:bZ w0 w)(c:dB (fun b=>B≤b) w w')(hB:w0.heap.size≤B):bZ w0 w':=⟨c.os.trans h.os,c.tape.trans h.tape,c.output.trans h.output,AN h.size c.size,fun b hb=>(c.block b (Am hb h.size) (by omega)).trans (h.block b hb)⟩
theorem Mem.sr{w:tA}{H:List bX}{M:tF}{Γ R R':tJ}(h:Mem w H M Γ R)(hR:∀w,R w→R' w):Mem w H M Γ R':=⟨h.g_,h.oY,h.off,h.mlt,h.g,fun w c=>hR w (h.r w c)⟩
theorem Mem.xR{w:tA}{H:List bX}{M:tF}{Γ R0:tJ}(base e sz:Nat)(h:Mem w H M Γ R0):Mem w H (fun b=>(Value.slice none 0 0).ownBlock=some b∨M b) Γ fun w=>R0 w∧w.ownsRow base e sz (.slice none 0 0) 0 []:=
 ⟨h.g_,h.oY,fun e he hm=>hm.elim (fun k=>by cases k) (h.off e he),fun b hb=>hb.elim (fun k=>by cases k) (h.mlt b),fun w2 c=>h.g w2 ⟨c.os,c.tape,c.output,c.size,fun b hb hu=>c.block b hb fun k=>hu (k.imp id fun k=>k.elim (fun k=>by cases k) id)⟩,fun w2 c=>⟨h.r w2 c,by simp,.inl ⟨rfl,rfl⟩⟩⟩
theorem o_{w:tA}{base e sz n g c j:Nat}{xs:tM}{u:tK}(h:w.ownsRow base e sz (.slice (some ⟨g,0,none⟩) n c) n xs)(hj:xs[j]? =some u):w.cell? ((⟨g,0,none⟩:Addr).add j)=some u:=by
 rcases h.2 with⟨k,_⟩|⟨g2,c2,cur,k,_,hh,_,_,_,ht⟩
 ·cases k
 ·cases k;rw[←ht,AO]at hj;split at hj
  ·rw[BM,Aj];simpa[World.cell?,hh]using hj
  ·cases hj
theorem Mw{w:tA}{a t sz c l base:Nat}{g:tD}(fb:bh w a t (c*sz) g)(hb:base≤a)(rY:l≤c)(hc:c≤maxLen):w.ownsRow base t sz (.slice (some ⟨a,0,none⟩) l c) l (cE g 0 (l*sz)):=by
 refine⟨bR _ _ _,.inr ⟨a,c,(cE g 0 (c*sz)).toArray,rfl,hb,fb,rY,hc,by simp[bR], ?_⟩⟩;apply BH;intro j;have hle:l*sz≤c*sz:=Nat.mul_le_mul_right _ rY;by_cases hj:j<l*sz
 ·rw[AO,Ae hj,bW _ _ _ _ hj];show(cE g 0 (c*sz))[j]? =_;rw[bW _ _ _ _ (by omega)]
 ·rw[AO,Aa hj,gL _ _ _ _ (by omega)]
namespace Rv
section
variable{n:Nat}{ops:tP}{f:Nat→AV}{fn:Func}{Rr:Ending→World→Prop}{T:tF}{Φ R:tJ}{H:List En}{ks:List Fr}{t:Ord}{i d:Nat}{md:Md}
def Rz(n:Nat)(ops:tP)(f:Nat→AV)(i:Nat):Option (Nat×Nat×AV×AV):=match ops[i]? with
 |some o=>match o.dst,sS n ops f o,o.op with
  |some d,some true,.call ⟨.builtin .append,xs,ts⟩=>match xs.toList,ts.toList with
   |[x,y],[s,s']=>if s=s' then some (d,s,ea f x,ea f y)else none
   |_,_=>none
  |_,_,_=>none
 |none=>none
theorem yU{s:Nat}{x y:AV}(h:Rz n ops f i=some (d,s,x,y)):∃o p r,ops[i]? =some o∧o.dst=some d∧sS n ops f o=some true∧o.op= .call ⟨.builtin .append,#[p,r],#[s,s]⟩∧x=ea f p∧y=ea f r:=by
 unfold Rz at h;split at h
 ·rename_i o ho;split at h
  ·rename_i d' xs ts hd hw hp;split at h
   ·rename_i p r s1 s2 h1 h2;split at h
    ·rename_i e;simp only[Option.some.injEq,Prod.mk.injEq]at h;obtain⟨rfl,rfl,rfl,rfl⟩:=h;subst e;have e1:xs= #[p,r]:=Array.toList_inj.1 h1;have e2:ts= #[s1,s1]:=Array.toList_inj.1 h2;exact⟨o,p,r,ho,hd,hw,by rw[hp,e1,e2],rfl,rfl⟩
    ·cases h
   ·cases h
  ·cases h
 ·cases h
theorem apr{s e sz lD base l m mc:Nat}{x y:AV}{v:tK}{L news:tM}{ad:Addr}{R0:tJ}(h1:Rz n ops f i=some (d,s,x,y))(hx:x.val=v)(hy:y.val= .slice (some ad) m mc)(ht:jI Tryz.prog s e sz lD=true)(hl:news.length=m*sz)(xo:∀w,Mem w (hs H) (fun b=>v.ownBlock=some b∨T b) Φ (fun w=>R0 w∧w.ownsRow base e sz v l L)→∀j u,news[j]? =some u→w.cell? (ad.add j)=some u)(N9:∀u∈news,u.oneCell'=true)(hm:0<m)(Kg:l+m≤maxLen)(Dt:(l+m)*lD≤140737488355328)(hb:∀w,Mem w (hs H) (fun b=>v.ownBlock=some b∨T b) Φ (fun w=>R0 w∧w.ownsRow base e sz v l L)→base≤w.heap.size)(hR:∀w w',R0 w→dB (fun b=>base≤b) w w'→R0 w')(hn:∀g c,l+m≤c→G Tryz.prog fn Rr n (fun b=>(Value.slice (some ⟨g,0,none⟩) (l+m) c).ownBlock=some b∨T b) Φ (fun w=>R0 w∧w.ownsRow base e sz (.slice (some ⟨g,0,none⟩) (l+m) c) (l+m) (L++news)) (.g md ops t::ks) (ua f d (vv (.slice (some ⟨g,0,none⟩) (l+m) c))) H)(hv:md.vs.contains i=false:=by rfl):G Tryz.prog fn Rr n (fun b=>v.ownBlock=some b∨T b) Φ (fun w=>R0 w∧w.ownsRow base e sz v l L) (.g md ops (.ef i t)::ks) f H:=by
 intro w hS hK;obtain⟨hK1,iC⟩:=bt.1 hK;show WF Tryz.prog ops (kq Tryz.prog fn Rr ks) md.va (o7 md ops) (vQ md ops) (.ef i t) n (cn f) w;obtain⟨o,p,r,ho,hd,hw,hp,rfl,rfl⟩:=yU h1
 have Ho:(o7 md ops).contains i=true:=lE ho (by
  unfold nW;rw[hv,hp]
  cases md.cb<;>rfl)
 obtain⟨hu,ti,z,hi,hz,RB,hby1,Mj,js⟩:=Eg ht;have own:=hS.now.2.2;obtain⟨g1,cap,w1,hr,ho1,hgr,hat,aN⟩:=run_append_lies (P:=Tryz.prog) w s o.type base e ti z sz lD hu hi hz RB hby1 Mj js v l L own ad m mc news hl (xo w hS) N9 hm Kg Dt (hb w hS) w.heap.size rfl;have Kl:∀b,v.ownBlock=some b→base≤b:=fun b h=>by
  rcases own.2 with⟨rfl,_⟩|⟨g,c2,cu,rfl,hg,_⟩
  ·cases h
  ·cases h;exact hg
 have lG:=hS.Ry;have lc:l+m≤cap:=by
  rcases ho1.2 with⟨k,_⟩|⟨g2,c2,cu,k,_,_,h3,_⟩
  ·cases k
  ·cases k;exact h3
 refine o4 ho hd (fF hw) (dU hK1).1 (sQ hp ((bC f p).symm.trans hx) ((bC f r).symm.trans hy) hr) (gq Ho) ?_;have hc:dB (fun b=>v.ownBlock=some b) w w1:=⟨hgr.os,hgr.tape,hgr.output,hgr.size,fun x hx fR=>hgr.block x hx fun e=>fR e.symm⟩
 have yu:=hS.mv (F':=fun b=>(Value.slice (some ⟨g1,0,none⟩) (l+m) cap).ownBlock=some b) (R':=fun w=>R0 w∧w.ownsRow base e sz (.slice (some ⟨g1,0,none⟩) (l+m) cap) (l+m) (L++news)) ⟨hc,fun b hb=>by
  cases hb;exact hat.imp id fun e=>Cc e.symm,fun b hb=>by cases hb;exact aN⟩ fun w2 c2=>⟨?_, ?_⟩
 ·have:=hn g1 cap lc w1 yu (bt.2 ⟨hK1,iC⟩);rw[jK]at this;exact this
 ·have key:∀w3:World,w3.os=w2.os→w3.tape=w2.tape→w3.output=w2.output→w3.heap.size=w2.heap.size→(∀b,base≤b∨w3.heap[b]? =w2.heap[b]?)→(∀b,b<w.heap.size→b∉(hs H).map bX.a→w3.heap[b]? =w.heap[b]?)→R0 w2:=fun w3 q1 q2 q3 q4 q5 q6=>hR w3 w2 (hS.r w3 ⟨q1.trans (c2.os.trans hc.os),q2.trans (c2.tape.trans hc.tape),q3.trans (c2.output.trans hc.output),by rw[q4];exact AN hc.size c2.size,q6⟩).1 ⟨q1.symm,q2.symm,q3.symm,Cc q4,fun b _ hb=>((q5 b).resolve_left hb).symm⟩;have oZ:∀b,b<w.heap.size→b∉(hs H).map bX.a→¬v.ownBlock=some b→w2.heap[b]? =w.heap[b]? :=fun b hb rX hv2=>(c2.block b (Am hb hc.size) rX).trans (hc.block b hb hv2);cases hv2:v.ownBlock with
  |none=>exact key w2 rfl rfl rfl rfl (fun b=> .inr rfl) fun b hb rX=>oZ b hb rX (by rw[hv2];simp)
  |some g=>
   have hg:g<w.heap.size:=hS.mlt g (.inl hv2);have FB:g<w2.heap.size:=Am hg (AN hc.size c2.size);refine key {w2 with heap:=w2.heap.set g w.heap[g] FB} rfl rfl rfl (by simp) (fun b=> ?_) fun b hb rX=> ?_
   ·by_cases e:b=g
    ·exact .inl (e▸Kl g hv2)
    ·exact .inr (by simp[Array.getElem?_set_ne,Ne.symm e])
   ·by_cases e:b=g
    ·subst e;simp[hg]
    ·show(w2.heap.set g w.heap[g] FB)[b]? =_;rw[Array.getElem?_set_ne FB (Ne.symm e)];exact oZ b hb rX (by rw[hv2];simpa using Ne.symm e)
 ·refine jO ho1 fun g hg VO=>c2.block g VO fun rX=> ?_;cases hg;rcases hat with e|e
  ·exact lG _ e rX
  ·exact absurd (hS.lt rX) (Bb.2 (Cc e.symm))
theorem nJ{s e sz lD base l mc b:Nat}{x y:AV}{v:tK}{L:tM}{R0:tJ}{en:En}(j:Nat)(h1:Rz n ops f i=some (d,s,x,y))(ht:jI Tryz.prog s e sz lD=true)(hb:∀w,Mem w (hs H) (fun b=>v.ownBlock=some b∨T b) Φ (fun w=>R0 w∧w.ownsRow base e sz v l L)→base≤w.heap.size)(hR:∀w w',R0 w→dB (fun b=>base≤b) w w'→R0 w')(hn:∀g c,l+1≤c→G Tryz.prog fn Rr n (fun b=>(Value.slice (some ⟨g,0,none⟩) (l+1) c).ownBlock=some b∨T b) Φ (fun w=>R0 w∧w.ownsRow base e sz (.slice (some ⟨g,0,none⟩) (l+1) c) (l+1) (L++dD en.l)) (.g md ops t::ks) (ua f d (vv (.slice (some ⟨g,0,none⟩) (l+1) c))) H)(hx:x.val=v:=by rfl)(hy:y.val= .slice (some ⟨b,0,none⟩) 1 mc:=by rfl)(he:nth H j=some en:=by rfl)(ha:en.a=b:=by rfl)(hl:eX en.l=sz:=by rfl)(N9:(dD en.l).all (·.oneCell')=true:=by rfl)(Kg:l+1≤maxLen:=by(try dsimp only);unfold maxLen;omega)(Dt:(l+1)*lD≤140737488355328:=by(try dsimp only);omega)(hv:md.vs.contains i=false:=by rfl):G Tryz.prog fn Rr n (fun b=>v.ownBlock=some b∨T b) Φ (fun w=>R0 w∧w.ownsRow base e sz v l L) (.g md ops (.ef i t)::ks) f H:=
 apr h1 hx hy ht (by rw[de,Nat.one_mul];exact hl) (fun w hS j2 u hu=>by
  have fb:=vV hS j he;have hj:=(Ap.1 hu).1;rw[de]at hj;have:=fb.at j2 hj;rw[iu _ hj,Aw,hu,ha]at this;rw[BM,Aj]
  exact this) (fun u hu=>List.all_eq_true.1 N9 u hu) Bp Kg Dt hb hR hn hv
theorem ro{w0:tA}{M:tF}{R0:tJ}{en:En}(k sz l c:Nat)(h0:∀w,R0 w→bZ w0 w)(hn:G Tryz.prog fn Rr n (fun b=>(Value.slice (some ⟨en.a,0,none⟩) l c).ownBlock=some b∨M b) Φ (fun w=>R0 w∧w.ownsRow w0.heap.size en.t sz (.slice (some ⟨en.a,0,none⟩) l c) l (cE (cy en.l) 0 (l*sz))) ks f (H.take k))(he:nth H k=some en:=by rfl)(js:eX en.l=c*sz:=by rfl)(rY:l≤c:=by exact Ac _)(hc:c≤maxLen:=by exact cR rfl):G Tryz.prog fn Rr n M Φ R0 ks f H:=by
 refine jt (fun w hS=> ?_) hn;have YA:=he;rw[eR]at YA;have xn:(hs H)[k]? =some en.g_:=by rw[Ax,YA];rfl
 have d_:w0.heap.size≤en.a:=(Mem.mk hS.g_ hS.oY hS.off hS.mlt hS.g (fun w' c=>h0 _ (hS.r w' c))).jN k xn;have fb:=vV hS k he;rw[js]at fb;have hh:hs (H.take k)=(hs H).take k:=List.map_take;rw[hh];have sub:∀b,b∈((hs H).take k).map bX.a→b∈(hs H).map bX.a:=fun b hb=>by
  obtain⟨e,he,rfl⟩:=Ay.1 hb;exact List.mem_map_of_mem (AJ he)
 have fR:∀b,b∈((hs H).take k).map bX.a→b≠en.a:=fun b hb e=>by
  obtain⟨x,hx,rfl⟩:=Ay.1 hb;obtain⟨j,hj⟩:=List.mem_iff_getElem?.1 hx;rw[AO]at hj;split at hj
  ·rename_i hjk;exact absurd (hS.oY j k x _ hj xn e) (Nat.ne_of_lt hjk)
  ·cases hj
 have ab0:en.a∈(hs H).map bX.a:=Ay.2 ⟨_,Ar xn,rfl⟩;refine⟨fun e he=>hS.g_ e (AJ he),(hS.take k).oY,fun e he hm=> ?_,fun b hb=> ?_,fun w2 c2=>hS.g w2 (c2.mono fun b hb=> ?_),fun w2 c2=>⟨hS.r w2 (c2.mono sub), ?_⟩⟩
 ·rcases hm with hm|hm
  ·exact fR _ (List.mem_map_of_mem he) (AY hm).symm
  ·exact hS.off e (AJ he) hm
 ·rcases hb with hb|hb
  ·cases hb;exact hS.lt ab0
  ·exact hS.mlt b hb
 ·rcases hb with hb|hb|hb
  ·exact .inl (sub b hb)
  ·cases hb;exact .inl ab0
  ·exact .inr hb
 ·exact jO (Mw fb d_ rY hc) fun g hg aN=>c2.block g aN fun hm=>by
   cases hg;exact fR _ hm rfl
theorem ap0{M:tF}{s e base l sz lD:Nat}{x y:AV}{v:tK}{L:tM}(h1:Rz n ops f i=some (d,s,x,y))(hx:x.val=v)(hy:y.val= .slice none 0 0)(ht:jI Tryz.prog s e sz lD=true)(own:∀w,Mem w (hs H) M Φ R→w.ownsRow base e sz v l L)(hn:G Tryz.prog fn Rr n M Φ R (.g md ops t::ks) (ua f d (vv v)) H)(hv:md.vs.contains i=false:=by rfl):G Tryz.prog fn Rr n M Φ R (.g md ops (.ef i t)::ks) f H:=by
 intro w hS hK;obtain⟨hK1,iC⟩:=bt.1 hK;show WF Tryz.prog ops (kq Tryz.prog fn Rr ks) md.va (o7 md ops) (vQ md ops) (.ef i t) n (cn f) w;obtain⟨o,p,r,ho,hd,hw,hp,rfl,rfl⟩:=yU h1
 have Ho:(o7 md ops).contains i=true:=lE ho (by
  unfold nW;rw[hv,hp]
  cases md.cb<;>rfl)
 obtain⟨hu,ti,z,hi,_⟩:=Eg ht;have hr:=run_append_owned_none (P:=Tryz.prog) (w:=w) base s o.type e ti sz hu hi v l L (own w hS);refine o4 ho hd (fF hw) (dU hK1).1 (sQ hp ((bC f p).symm.trans hx) ((bC f r).symm.trans hy) hr) (gq Ho) ?_;have:=hn w hS (bt.2 ⟨hK1,iC⟩);rw[jK]at this;exact this
end
end Rv
theorem bh.Mx{w:tA}{X t c:Nat}{g:tD}{U:tF}{G:tJ}(fb:bh w X t c g)(hU:∀b,U b→b<w.heap.size)(hX:¬U X)(hG:cm (fun b=>b=X∨U b) w G):Mem w (Rv.hs [⟨X,t,[.f c g]⟩]) U G (fun w'=>dB (fun b=>b∈[X]) w w'):=
 Mem.begin (H:=[⟨X,t,c,g⟩]) (fun e he=>by cases Ab.1 he;exact fb) (BN _ _) (fun e he=>by cases Ab.1 he;exact hX) hU fun w2 c=>hG w2 (c.mono fun b h=>h.imp (fun h=>Ab.1 h) id)
theorem bh.ab1{w:tA}{N X t c t' c':Nat}{g g':tD}{U:tF}{G:tJ}(fb:bh w N t c g)(Zv:bh w X t' c' g')(fR:N≠X)(hU:∀b,U b→b<w.heap.size)(hN:¬U N)(hX:¬U X)(hG:cm (fun b=>(b=N∨b=X)∨U b) w G):Mem w (Rv.hs [⟨N,t,[.f c g]⟩,⟨X,t',[.f c' g']⟩]) U G (fun w'=>dB (fun b=>b∈[N,X]) w w'):=by
 refine Mem.begin (H:=[⟨N,t,c,g⟩,⟨X,t',c',g'⟩]) (fun e he=> ?_) (List.pairwise_pair.2 fR) (fun e he=> ?_) hU fun w2 c=>hG w2 (c.mono fun b h=>h.imp (fun h=>by simpa using h) id)
 ·simp only[List.mem_cons,List.not_mem_nil,or_false]at he;rcases he with rfl|rfl
  ·exact fb
  ·exact Zv
 ·simp only[List.mem_cons,List.not_mem_nil,or_false]at he;rcases he with rfl|rfl
  ·exact hN
  ·exact hX
namespace Rv
section
variable{n:Nat}{ops:tP}{f:Nat→AV}{fn:Func}{Rr:Ending→World→Prop}{M:tF}{Φ R:tJ}{H:List En}{ks:List Fr}{t:Ord}{i d:Nat}{md:Md}
def opA(n:Nat)(ops:tP)(f:Nat→AV)(i:Nat):Option (Nat×Oper):=match ops[i]? with
 |some o=>match o.dst,sS n ops f o with
  |some d,some true=>some (d,o)
  |_,_=>none
 |none=>none
theorem pv{o:Oper}(a:AV)(e:opA n ops f i=some (d,o))(h:∀w,(execOp (fun x=>(ea f x).val) o).run Tryz.prog w= .ok (.value a.val) w)(hn:G Tryz.prog fn Rr n M Φ R (.g md ops t::ks) (ua f d a) H):G Tryz.prog fn Rr n M Φ R (.g md ops (.pu i t)::ks) f H:=by
 intro w hS hK;obtain⟨hK1,iC⟩:=bt.1 hK;have hn:=hn w hS (bt.2 ⟨hK1,iC⟩);show WF Tryz.prog ops (kq Tryz.prog fn Rr ks) md.va (o7 md ops) (vQ md ops) (.pu i t) n (cn f) w;unfold opA at e;split at e
 ·rename_i o' ho;split at e
  ·rename_i d' hd hw;simp only[Option.some.injEq,Prod.mk.injEq]at e;obtain⟨rfl,rfl⟩:=e;have e1:ev (cn f)=fun x=>(ea f x).val:=funext fun x=>(bC f x).symm;exact Ef ho hd (fF hw) (dU hK1).1 (v:=a.val) (fun w'=>by rw[e1];exact h w') (by rw[←jK];exact hn)
  ·cases e
 ·cases e
theorem ct{Y:Type}{g:Nat}{al:List AV}(e:Ru n ops f i=some (d,g,al))(a:AV)(R':Y→World→Prop)(hc:∀w,Mem w (hs H) M Φ R→cA g (al.map AV.val).toArray w fun x w'=>x= .returned a.val∧∃y,R' y w')(hR:∀y w' w2,R' y w'→bZ w' w2→R' y w2)(hn:∀y,G Tryz.prog fn Rr n (fun _=>False) (fun _=>True) (R' y) (.g md ops t::ks) (ua f d a) [])(hm:(md.cb||md.vs.contains i)=false:=by rfl)(he:iS Tryz.prog g=true:=by kernel_rfl):G Tryz.prog fn Rr n M Φ R (.g md ops (.ef i t)::ks) f H:=
 mG e he fun w hS=>(hc w hS).mono fun _ w' ⟨h1,y,h⟩=>⟨a,[],_,_,_,h1,.inl hm,Mem.start (fun _ h=>h.elim) (fun _ _=>trivial) fun w2 b=>hR y _ _ h b,hn y⟩
theorem ix{s:Nat}{x y:tU}{o:Oper}(a:AV)(e:opA n ops f i=some (d,o))(hp:o.op= .index s x y)(h:∀w,(Instr.index s (ea f x).val (ea f y).val).run Tryz.prog w= .ok a.val w)(hn:G Tryz.prog fn Rr n M Φ R (.g md ops t::ks) (ua f d a) H):G Tryz.prog fn Rr n M Φ R (.g md ops (.pu i t)::ks) f H:=
 pv a e (fun w=>by simp only[execOp,hp,Sem.run_bind,h,Result.andThen_ok,Sem.run_pure]) hn
theorem so1{s b q:Nat}{x y:AV}{e:Ty}{en:En}{v:tK}(h1:Vj n ops f i=some (s,x,y))(j:Nat)(he:nth H j=some en)(g':tD)(hq:q<eX en.l)(hg:∀i,oX (cy en.l) q v i=g' i)(hn:G Tryz.prog fn Rr n M Φ R (.g md ops t::ks) f (H.set j ⟨en.a,en.t,[.f (eX en.l) g']⟩))(hx:x.val= .pointer (some ⟨b,q,none⟩):=by rfl)(hy:y.val=v:=by rfl)(hc:v.cells= #[v]:=by rfl)(N9:v.oneCell'=true:=by rfl)(ha:en.a=b:=by rfl)(hv:md.vs.contains i=false:=by rfl)(hf:T0.find s=some e:=by rfl)(ho:e.fM=true:=by rfl):G Tryz.prog fn Rr n M Φ R (.g md ops (.ef i t)::ks) f H:=by
 intro w hS hK;obtain⟨hK1,iC⟩:=bt.1 hK;show WF Tryz.prog ops (kq Tryz.prog fn Rr ks) md.va (o7 md ops) (vQ md ops) (.ef i t) n (cn f) w;obtain⟨NZ,rfl⟩:=Yz.fe hf;have xm:=he;rw[eR]at xm;have xn:(hs H)[j]? =some en.g_:=by rw[Ax,xm];rfl
 unfold Vj at h1;split at h1
 ·rename_i o hoo;split at h1
  ·rename_i s' p r hd hw hp;simp only[Option.some.injEq,Prod.mk.injEq]at h1;obtain⟨rfl,rfl,rfl⟩:=h1;have hx:ev (cn f) p= .pointer (some ⟨b,q,none⟩):=(bC f p).symm.trans hx;have hy:ev (cn f) r=v:=(bC f r).symm.trans hy
   have Ho:(o7 md ops).contains i=true:=lE hoo (by
    unfold nW;rw[hv,hp]
    cases md.cb<;>rfl)
   refine aeH (P:=Tryz.prog) (Ty.one NZ ho).1 hS j xn Ho hoo hd (fF hw) (dU hK1).1 hp hx hy ha hq hc N9 fun w' DB=> ?_
   have Ep:=DB.congr j (e:=⟨en.a,en.t,eX en.l,oX (cy en.l) q v⟩) (by
    rw[Cx (Ap.1 xn).1]
    rfl) g' fun i _=>hg i
   rw[List.set_set]at Ep;have e4:hs (H.set j ⟨en.a,en.t,[.f (eX en.l) g']⟩)=(hs H).set j ⟨en.a,en.t,eX en.l,g'⟩:=by
    rw[hs,Co];rfl
   exact hn w' (by rw[e4];exact Ep) (bt.2 ⟨hK1,iC⟩)
  ·cases h1
 ·cases h1
theorem VP(h:∀w,Mem w (hs H) M Φ R→G Tryz.prog fn Rr n M Φ R ks f H):G Tryz.prog fn Rr n M Φ R ks f H:=fun w hS hK=>h w hS w hS hK
theorem Zw(h:∀w,Mem w (hs H) M Φ R→∃H' M' G8 R',Mem w (hs H') M' G8 R'∧G Tryz.prog fn Rr n M' G8 R' ks f H'):G Tryz.prog fn Rr n M Φ R ks f H:=fun w hS hK=>by
 obtain⟨_,_,_,_,h1,h2⟩:=h w hS;exact h2 w h1 hK
theorem uD{X:Type}{c:Code}(s:X→List (Nat×AV))(H':X→List En)(M':X→Nat→Prop)(R':X→World→Prop)(J:X→Prop)(k:X→Nat)(x0:X)(h1:Hn f (s x0))(h2:∀w,Mem w (hs H) M Φ R→Mem w (hs (H' x0)) (M' x0) Φ (R' x0))(h3:J x0)(round:∀f x,J x→G Tryz.prog fn Rr n (M' x) Φ (R' x) (.c c:: .j (LJ n ⟨s,H',M',fun _=>Φ,R',J,k⟩ (k x))::ks) (us f (s x)) (H' x)):G Tryz.prog fn Rr n M Φ R (.c (.loop c)::ks) f H:=
 iD ⟨s,H',M',fun _=>Φ,R',J,k⟩ x0 h1 h2 h3 round
end
end Rv
abbrev fq(t:Int)(s:tQ):Array Value:= #[iV t,.bool (s 0),.bool (s 1),.bool (s 2),.bool (s 3),.bool (s 4),.bool (s 5),.bool (s 6),.bool (s 7)]
abbrev cH(t:Int)(s:tQ):Value:= .agg #[iV t,.bool (s 0),.bool (s 1),.bool (s 2),.bool (s 3),.bool (s 4),.bool (s 5),.bool (s 6),.bool (s 7)]
def kl:Nat→Bool:=fun _=>false
theorem ai{p:Prop}(h:p):Hid p:=h
theorem aa{p:Prop}(h:Hid p):p:=h
theorem yV{p:tF}(h0:p 0)(h1:p 1)(h2:p 2)(h3:p 3)(h4:p 4)(h5:p 5)(h6:p 6)(h7:p 7):∀i,i<8→p i
 |0,_=>h0
 |1,_=>h1
 |2,_=>h2
 |3,_=>h3
 |4,_=>h4
 |5,_=>h5
 |6,_=>h6
 |7,_=>h7
 |n+8,h=>absurd h (by omega)
theorem Er{t t':Int}{s s':tQ}(ht:t=t')(hs:∀i,i<8→s i=s' i):cH t s=cH t' s':=by
 simp only[cH,ht,hs 0 (by omega),hs 1 (by omega),hs 2 (by omega),hs 3 (by omega),hs 4 (by omega),hs 5 (by omega),hs 6 (by omega),hs 7 (by omega)]
theorem FG(t:Int)(s s':tQ)(b:Bool)(k:Nat)(hk:k<8)(hs:∀i,i<8→s' i=if i=k then b else s i):(fq t s).set! (1+k) (.bool b)=fq t s':=by
 have e0:=hs 0 (by omega);have e1:=hs 1 (by omega);have e2:=hs 2 (by omega);have e3:=hs 3 (by omega);have e4:=hs 4 (by omega);have e5:=hs 5 (by omega);have e6:=hs 6 (by omega);have e7:=hs 7 (by omega);rw[fq,fq,e0,e1,e2,e3,e4,e5,e6,e7];revert k;refine yV ?_ ?_ ?_ ?_ ?_ ?_ ?_ ?_<;>(intros;rfl)
structure fO(t:Int)(s:tQ):Prop where
 low:0≤t
 high:t≤1073741825
 ids:∀i:Nat,i<8→s i=true→8≤t+i
 last:t=0∨s 7=true
def gU(t:Int)(s:tQ)(x:Int):Bool:=decide (t-8≤x)&&decide (x<t)&&s (x-(t-8)).toNat
theorem vW{t x:Int}{s:tQ}:gU t s x=true↔∃i:Nat,i<8∧s i=true∧x=t-8+i:=by
 unfold gU;constructor
 ·intro h;simp only[Bool.and_eq_true,decide_eq_true_eq]at h;exact⟨(x-(t-8)).toNat,by omega,h.2,by omega⟩
 ·rintro⟨i,hi,hs,rfl⟩;have e:(t-8+(i:Int)-(t-8)).toNat=i:=by omega
  simp only[Bool.and_eq_true,decide_eq_true_eq];rw[e];exact⟨⟨by omega,by omega⟩,hs⟩
theorem qj{t:Int}{s:tQ}(i:Nat)(hi:i<8):gU t s (t-8+i)=s i:=by
 rw[Bool.eq_iff_iff,vW];constructor
 ·rintro⟨j,_,hs,he⟩;obtain rfl:i=j:=by omega
  exact hs
 ·exact fun h=>⟨i,hi,h,rfl⟩
theorem fO.none:fO 0 kl:=⟨by omega,by omega,fun i _ h=>by simp[kl]at h,.inl rfl⟩
theorem fO.Zx{t x:Int}{s:tQ}(h:fO t s)(hx:gU t s x=true):0≤x∧x<t:=by
 obtain⟨i,hi,hs,rfl⟩:=vW.1 hx;have:=h.ids i hi hs;omega
def h_(t id:Int):Int:=if t≤id then id+1 else t
def eZ(t:Int)(s:tQ)(id:Int):Nat→Bool:=fun j=>decide (h_ t id-8+j=id)||gU t s (h_ t id-8+j)
theorem RC(t id:Int):t≤h_ t id∧id<h_ t id:=by unfold h_;split<;>omega
theorem fO.take{t id:Int}{s:tQ}(h:fO t s)(h0:0≤id)(h1:id≤1073741824):fO (h_ t id) (eZ t s id):=by
 have hl:=h.low;have hh:=h.high;have hg:=RC t id;refine⟨by omega,by unfold h_;split<;>omega, ?_,.inr ?_⟩
 ·intro i hi hs;have:(decide (h_ t id-8+i=id)||gU t s (h_ t id-8+i))=true:=hs;simp only[Bool.or_eq_true,decide_eq_true_eq]at this;rcases this with e|e
  ·omega
  ·have:=h.Zx e;omega
 ·show(decide (h_ t id-8+((7:Nat):Int)=id)||gU t s (h_ t id-8+((7:Nat):Int)))=true;by_cases hc:t≤id
  ·have e:h_ t id=id+1:=by unfold h_;rw[Ae hc]
   rw[e];simp;left;omega
  ·have e:h_ t id=t:=by unfold h_;rw[Aa hc]
   rw[e,qj 7 (by omega)];rcases h.last with hz|hz
   ·omega
   ·simp[hz]
def aK(w:tA)(R:Nat)(t:Int)(s:tQ):Prop:=w.heap[R]? =some (.cells (fq t s) 109 (0,0))
theorem aK.cell0{w:tA}{R:Nat}{t:Int}{s:tQ}(h:aK w R t s):w.cell? ⟨R,0,none⟩=some (iV t):=by
 unfold aK at h;simp[World.cell?,h]
theorem aK.cell{w:tA}{R:Nat}{t:Int}{s:tQ}(h:aK w R t s):∀i,i<8→w.cell? ⟨R,1+i,none⟩=some (.bool (s i)):=by
 unfold aK at h;refine yV ?_ ?_ ?_ ?_ ?_ ?_ ?_ ?_<;>simp[World.cell?,h]
theorem aK.cells{w:tA}{R:Nat}{t:Int}{s:tQ}(h:aK w R t s):
  w.cell? ⟨R,0,none⟩=some (iV t)∧w.cell? ⟨R,1,none⟩=some (.bool (s 0))∧w.cell? ⟨R,2,none⟩=some (.bool (s 1))∧w.cell? ⟨R,3,none⟩=some (.bool (s 2))∧w.cell? ⟨R,4,none⟩=some (.bool (s 3))∧
  w.cell? ⟨R,5,none⟩=some (.bool (s 4))∧w.cell? ⟨R,6,none⟩=some (.bool (s 5))∧w.cell? ⟨R,7,none⟩=some (.bool (s 6))∧w.cell? ⟨R,8,none⟩=some (.bool (s 7)):=
 ⟨h.cell0,h.cell 0 (by omega),h.cell 1 (by omega),h.cell 2 (by omega),h.cell 3 (by omega),h.cell 4 (by omega),h.cell 5 (by omega),h.cell 6 (by omega),h.cell 7 (by omega)⟩
theorem aK.free{w:tA}{R:Nat}{t:Int}{s:tQ}(h:aK w R t s)(o:Nat):w.frozen? ⟨R,o,none⟩=false:=by
 unfold aK at h;simp[World.frozen?,h]
theorem aK.lt{w:tA}{R:Nat}{t:Int}{s:tQ}(h:aK w R t s):R<w.heap.size:=by
 unfold aK at h;rcases AG R w.heap.size with h'|h'
 ·exact h'
 ·simp[Array.getElem?_eq_none h']at h
theorem aK.below{w w':tA}{R B:Nat}{t:Int}{s:tQ}(h:aK w R t s)(hb:Below B w w')(hR:R<B):aK w' R t s:=by
 unfold aK at h⊢;rw[←h];exact hb.block R hR
theorem aK.next{w w':tA}{R:Nat}{t:Int}{s:tQ}(h:aK w R t s)(hb:bZ w w'):aK w' R t s:=h.below hb h.lt
theorem aK.new(w:tA)(t:Int)(s:tQ):aK (w.alloc (.cells (fq t s) 109)) w.heap.size t s:=AP w _
abbrev mH(w:tA)(R:Nat)(t:Int)(s:tQ):World:=
 ((((((((w.setCell ⟨R,0,none⟩ (iV t)).setCell ⟨R,1,none⟩ (.bool (s 0))).setCell ⟨R,2,none⟩ (.bool (s 1))).setCell ⟨R,3,none⟩ (.bool (s 2))).setCell ⟨R,4,none⟩ (.bool (s 3))).setCell ⟨R,5,none⟩ (.bool (s 4))).setCell ⟨R,6,none⟩ (.bool (s 5))).setCell ⟨R,7,none⟩ (.bool (s 6))).setCell ⟨R,8,none⟩ (.bool (s 7))
theorem aK.store{w:tA}{R:Nat}{t:Int}{s:tQ}(h:aK w R t s)(t':Int)(s':tQ):aK (mH w R t' s') R t' s':=by
 unfold aK at h⊢;rw[mH,heap_set (heap_set (heap_set (heap_set (heap_set (heap_set (heap_set (heap_set (heap_set h))))))))];simp
theorem fX{B:Nat}{w0 w:tA}(hb:Below B w0 w)(R:Nat)(hR:B≤R)(t:Int)(s:tQ):Below B w0 (mH w R t s):=
 ((((((((hb.setCell hR _).setCell hR _).setCell hR _).setCell hR _).setCell hR _).setCell hR _).setCell hR _).setCell hR _).setCell hR _
theorem yW(w:tA)(R:Nat)(t:Int)(s:tQ)(k:Nat)(hk:k≠R):(mH w R t s).heap[k]? =w.heap[k]? :=by
 simp only[mH]
 repeat rw[Below.heap_setCell _ _ _ k hk]
theorem aK.mark{w:tA}{R:Nat}{t:Int}{s:tQ}(h:aK w R t s)(k:Nat)(hk:k<8)(b:Bool)(s':tQ)(hs:∀i,i<8→s' i=if i=k then b else s i):aK (w.setCell ⟨R,1+k,none⟩ (.bool b)) R t s':=by
 have:=heap_set (o:=1+k) (v:= .bool b) h;rw[FG t s s' b k hk hs]at this;exact this
theorem aK.other{w:tA}{R R' o:Nat}{t:Int}{s:tQ}{v:tK}(h:aK w R t s)(hR:R≠R'):aK (w.setCell ⟨R',o,none⟩ v) R t s:=by
 unfold aK at h⊢;rw[Below.heap_setCell _ _ _ R hR];exact h
theorem uE(w:tA)(t:Int)(s:tQ):∃W,W=w.alloc (.cells (fq t s) 109)∧aK W w.heap.size t s∧bZ w W∧W.heap.size=w.heap.size+1:=
 ⟨_,rfl,aK.new w t s,aC _ _,by simp⟩
theorem qk(s:tQ):∀k:Nat,k<8→∀w:World,
  (Instr.index 107 (.agg #[.bool (s 0),.bool (s 1),.bool (s 2),.bool (s 3),.bool (s 4),.bool (s 5),.bool (s 6),.bool (s 7)]) (iV k)).run Tryz.prog w= .ok (.bool (s k)) w:=by
 refine yV ?_ ?_ ?_ ?_ ?_ ?_ ?_ ?_<;>(intro w;simp[Instr.index,run_underlying Tryz.underlying107,asIntOf,go_sem])
theorem ia(t:Int)(s:tQ)(w:tA)(h0:0≤t)(h1:t≤1073741825):
  cA 214 #[cH t s] w (rB (iV (t-8)) w):=by
 go_enter Tryz.func214,Tryz.ntmps214;go_wp2;go_ret;exact⟨rfl,aC _ _⟩
theorem rA(t:Int)(s:tQ)(w:tA)(h:fO t s):
  cA 203 #[cH t s] w (rB (iV 0) w):=by
 have hl:=h.low;have hh:=h.high;go_enter Tryz.func203,Tryz.ntmps203
 go_wp2_with fail
 obtain⟨W,hW,wb0,B0,S0⟩:=uE w t s;rw[←hW];clear hW
 go_loopw [15] (fun i wr=>∃k:Nat,k≤8∧i=iV k∧aK wr w.heap.size t s∧bZ w wr) (fun i _=>8-(intOf i).toNat)
 case atStart=>exact⟨0,by omega,rfl,wb0,B0⟩
 case round=>
  obtain⟨k,hk,rfl,wb,B⟩:=hrel;clear wb0 B0 S0;have HB:=ai B;have HW:=ai wb;obtain⟨c0,c1,c2,c3,c4,c5,c6,c7,c8⟩:=wb.cells;clear wb B;by_cases aN:k<8
  ·have N_:=h.ids k aN;have Zy:=qk s k aN;cases hb:s k
   ·rw[hb]at Zy;go_wp2
    go_roundw
    case rel=>exact⟨k+1,by omega,by go_num,aa HW,aa HB⟩
    case measure=>simp[intOf];omega
   ·have ah_:=N_ hb;rw[hb]at Zy;clear N_
    go_wp2_with (go_at_call 214;refine(ia t s _ hl hh).mono ?_;rintro e w1 ⟨rfl,b1⟩)
    go_roundw
    case rel=>exact⟨k+1,by omega,by go_num,(aa HW).next b1,Below.next (aa HB) b1⟩
    case measure=>simp[intOf];omega
  ·obtain rfl:k=8:=by omega
   rcases h.last with hz|hz
   ·subst hz;go_wp2;go_ret;exact⟨rfl,aa HB⟩
   ·go_wp2
    all_goals(go_ret;exact⟨rfl,aa HB⟩)
theorem Hp(t:Int)(s:tQ)(w:tA)(h:¬fO t s):
  cA 203 #[cH t s] w (rB (iV 6) w):=by
 by_cases hr:0≤t∧t≤1073741825
 case neg=>
  by_cases h0:t<0
  ·go_enter Tryz.func203,Tryz.ntmps203;go_wp2;go_ret;exact⟨rfl,aC _ _⟩
  ·have h1:1073741825<t:=by omega
   have h2:¬t≤1073741825:=by omega
   have h3:0≤t:=by omega
   clear hr;go_enter Tryz.func203,Tryz.ntmps203;go_wp2;go_ret;exact⟨rfl,aC _ _⟩
 obtain⟨hl,hh⟩:=hr;have hn:(∀i:Nat,i<8→s i=true→8≤t+i)→¬t=0∧s 7=false:=by
  intro hi;refine⟨fun h0=>h ⟨hl,hh,hi,.inl h0⟩, ?_⟩;cases h7:s 7
  ·rfl
  ·exact absurd ⟨hl,hh,hi,.inr h7⟩ h
 have HN:=ai hn;clear hn h;go_enter Tryz.func203,Tryz.ntmps203
 go_wp2_with fail
 obtain⟨W,hW,wb0,B0,S0⟩:=uE w t s;rw[←hW];clear hW
 go_loopw [15] (fun i wr=>∃k:Nat,k≤8∧i=iV k∧(∀i:Nat,i<k→s i=true→8≤t+i)∧aK wr w.heap.size t s∧bZ w wr) (fun i _=>8-(intOf i).toNat)
 case atStart=>exact⟨0,by omega,rfl,fun i hi=>by omega,wb0,B0⟩
 case round=>
  obtain⟨k,hk,rfl,hi,wb,B⟩:=hrel;clear wb0 B0 S0;have HB:=ai B;have HW:=ai wb;have HI:=ai hi;obtain⟨c0,c1,c2,c3,c4,c5,c6,c7,c8⟩:=wb.cells;clear wb B hi;by_cases aN:k<8
  ·have Zy:=qk s k aN;cases hb:s k
   ·rw[hb]at Zy
    have HI':Hid (∀i:Nat,i<k+1→s i=true→8≤t+i):=ai (by
     intro i h1 h2;rcases AG i k with h3|h3
     ·exact aa HI i h3 h2
     ·obtain rfl:i=k:=by omega
      rw[hb]at h2;cases h2)
    go_wp2
    go_roundw
    case rel=>exact⟨k+1,by omega,by go_num,aa HI',aa HW,aa HB⟩
    case measure=>simp[intOf];omega
   ·rw[hb]at Zy;by_cases N_:8≤t+k
    ·have HI':Hid (∀i:Nat,i<k+1→s i=true→8≤t+i):=ai (by
      intro i h1 h2;rcases AG i k with h3|h3
      ·exact aa HI i h3 h2
      ·obtain rfl:i=k:=by omega
       exact N_)
     go_wp2_with (go_at_call 214;refine(ia t s _ hl hh).mono ?_;rintro e w1 ⟨rfl,b1⟩)
     go_roundw
     case rel=>exact⟨k+1,by omega,by go_num,aa HI',(aa HW).next b1,Below.next (aa HB) b1⟩
     case measure=>simp[intOf];omega
    ·go_wp2_with (go_at_call 214;refine(ia t s _ hl hh).mono ?_;rintro e w1 ⟨rfl,b1⟩)
     go_ret;exact⟨rfl,Below.next (aa HB) b1⟩
  ·obtain rfl:k=8:=by omega
   obtain⟨h0,h7⟩:=aa HN (aa HI);go_wp2;go_ret;exact⟨rfl,aa HB⟩
section
open Rv
def nK(ws:tD):List Value:=(List.range 36).map ws
def lW(ep nx gv:Int)(r l:tK)(ws:tD):List Value:=iV ep::iV nx::iV gv::r::l::nK ws
def ec(ep nx gv:Int)(r l:tK)(ws:tD):Array Value:=(lW ep nx gv r l ws).toArray
abbrev iH(ep nx gv:Int)(r l:tK)(ws:tD):Value:= .agg (ec ep nx gv r l ws)
theorem dg(ep nx gv:Int)(r l:tK)(ws:tD):(ec ep nx gv r l ws).size=41:=by simp[ec,lW,nK]
theorem Km(ws:tD)(j:Nat)(h:j<36):(nK ws)[j]? =some (ws j):=by simp[nK,h]
theorem pf(ep nx gv:Int)(r l:tK)(ws:tD):
  (ec ep nx gv r l ws)[0]? =some (iV ep)∧(ec ep nx gv r l ws)[1]? =some (iV nx)∧(ec ep nx gv r l ws)[2]? =some (iV gv)∧(ec ep nx gv r l ws)[3]? =some r∧(ec ep nx gv r l ws)[4]? =some l:=by
 simp[ec,lW]
theorem Oa(ep nx gv:Int)(r l:tK)(ws:tD)(j:Nat)(h:j<36):(ec ep nx gv r l ws)[5+j]? =some (ws j):=by
 rw[ec,List.getElem?_toArray,lW,Nat.add_comm 5 j];simp only[List.getElem?_cons_succ];exact Km ws j h
def aY(w:tA)(R:Nat)(ep nx gv:Int)(r l:tK)(ws:tD):Prop:=w.heap[R]? =some (.cells (ec ep nx gv r l ws) 112 (0,0))
section
variable{w w':tA}{R B:Nat}{ep nx gv:Int}{r l:tK}{ws:tD}
theorem aY.lt(h:aY w R ep nx gv r l ws):R<w.heap.size:=by
 unfold aY at h;rcases AG R w.heap.size with h'|h'
 ·exact h'
 ·simp[Array.getElem?_eq_none h']at h
theorem aY.below(h:aY w R ep nx gv r l ws)(hb:Below B w w')(hR:R<B):aY w' R ep nx gv r l ws:=by
 unfold aY at h⊢;rw[←h];exact hb.block R hR
theorem aY.next(h:aY w R ep nx gv r l ws)(hb:bZ w w'):aY w' R ep nx gv r l ws:=h.below hb h.lt
theorem aY.new(w:tA)(ep nx gv:Int)(r l:tK)(ws:tD):aY (w.alloc (.cells (ec ep nx gv r l ws) 112)) w.heap.size ep nx gv r l ws:=AP w _
theorem aY.free(h:aY w R ep nx gv r l ws)(o:Nat):w.frozen? ⟨R,o,none⟩=false:=by
 unfold aY at h;simp[World.frozen?,h]
theorem aY.at(h:aY w R ep nx gv r l ws)(i:Nat):w.cell? ⟨R,i,none⟩=(ec ep nx gv r l ws)[i]? :=by
 unfold aY at h;simp[World.cell?,h]
theorem aY.heads(h:aY w R ep nx gv r l ws):
  w.cell? ⟨R,0,none⟩=some (iV ep)∧w.cell? ⟨R,1,none⟩=some (iV nx)∧w.cell? ⟨R,2,none⟩=some (iV gv)∧w.cell? ⟨R,3,none⟩=some r∧w.cell? ⟨R,4,none⟩=some l:=by
 obtain⟨h0,h1,h2,h3,h4⟩:=pf ep nx gv r l ws;exact⟨(h.at 0).trans h0,(h.at 1).trans h1,(h.at 2).trans h2,(h.at 3).trans h3,(h.at 4).trans h4⟩
theorem Zz{o:Oper}{a:Act}{K:Act→World→Prop}{Q:tI}(x:tU)(ho:o.op= .load 112 x)(hx:a.eval x= .pointer (some ⟨R,0,none⟩))(qb:aY w R ep nx gv r l ws)
  (h:K (a.put o.dst (iH ep nx gv r l ws)) w):o.wp Tryz.prog a w K Q:=
 wp_load_row 112 x ho R hx 112 _ (0,0) _ qb Tryz.underlying112 rfl (by rw[dg];kernel_rfl) h
theorem FH{ops:tP}{rest:List Oper}{o:Oper}{a:Act}{Q:tI}(x:tU)(ho:o.op= .load 112 x)(hw:Region.wanted o (yielded ops a.tmps)=true)(hx:a.eval x= .pointer (some ⟨R,0,none⟩))(qb:aY w R ep nx gv r l ws)
  (h:wpList Tryz.prog ops Q rest (a.put o.dst (iH ep nx gv r l ws)) w):wpList Tryz.prog ops Q (o::rest) a w:=
 Bz fun K hK=>by
  rw[Ae hw];exact Zz x ho hx qb (hK _ _ h)
theorem RD{ops:tP}{S:tJ}{o:Oper}{a:Act}(x:tU)(ho:o.op= .load 112 x)(hw:Region.wanted o (yielded ops a.tmps)=true)(hx:a.eval x= .pointer (some ⟨R,0,none⟩))(hS:∀w,S w→aY w R ep nx gv r l ws):
  YieldsIf Tryz.prog ops S o (iH ep nx gv r l ws) a:=
 .inl ⟨hw,fun w hs=>by
  unfold execOp
  simp only[ho,hx,Instr.loadAt,Instr.sureAddr,Sem.run_bind,Sem.run_pure,Result.andThen_ok,run_loadVar_row w R 112 112 _ (0,0) _ (hS w hs) Tryz.underlying112 rfl (by rw[dg];kernel_rfl)]⟩
end
def sT(n m:Int):Bool:=decide (0≤n)&&decide (n≤m)
theorem iv{n m:Int}:sT n m=true↔0≤n∧n≤m:=by simp[sT]
theorem Hq(n m:Int)(w:tA):
  cA 201 #[iV n,iV m] w fun e w'=>e= .returned (.bool (sT n m))∧w'=w:=by
 unfold sT;by_cases h0:0≤n
 ·by_cases h1:n≤m
  ·go_enter Tryz.func201,Tryz.ntmps201;go_wp2;go_ret;simp[h0,h1]
  ·go_enter Tryz.func201,Tryz.ntmps201;go_wp2;go_ret;exact⟨by simp[h1],rfl⟩
 ·go_enter Tryz.func201,Tryz.ntmps201;go_wp2;go_ret;exact⟨by rw[show decide (0≤n)=false from Ak (by omega)];rfl,rfl⟩
abbrev qS(ep nx gv:Int)(r l:tK)(ws:tD):List Rv.Sg:=[.o (iV ep),.o (iV nx),.o (iV gv),.o r,.o l,.f 36 ws]
theorem ju{w:World}{b o len m k:Nat}{L:List Int}{g:Nat→Value}(h:RowK .i64 w (some ⟨b,o,none⟩) len L)(hk:m*k+m≤len)(hg:∀j,j<m→Value.int .i64 (L.getD (m*k+j) 0)=g j):∀j,j<m→w.cell? ⟨b,o+k*m+j,none⟩=some (g j):=fun j hj=>by
 have:=h.at (m*k+j) (by omega);rw[hg j hj,←BF,Bn m k]at this;exact this
abbrev mS(R:tG)(k:Nat):List Rv.Sg:=[.o (iV (R.getD (2*k) 0)),.o (iV (R.getD (2*k+1) 0))]
abbrev lS(L:tG)(k:Nat):List Rv.Sg:=[.o (iV (L.getD (4*k) 0)),.o (iV (L.getD (4*k+1) 0)),.o (iV (L.getD (4*k+2) 0)),.o (iV (L.getD (4*k+3) 0))]
theorem ae2{w:tA}{b o len k:Nat}{L:tG}(h:RowK .i64 w (some ⟨b,o,none⟩) len L)(hk:2*k+2≤len):∀j,j<2→w.cell? ⟨b,o+k*2+j,none⟩=some (Rv.cy (mS L k) j):=ju h hk fun j hj=>by obtain rfl|rfl:j=0∨j=1:=(by omega)<;>rfl
theorem ab2{w:tA}{b o len k:Nat}{L:tG}(h:RowK .i64 w (some ⟨b,o,none⟩) len L)(hk:4*k+4≤len):∀j,j<4→w.cell? ⟨b,o+k*4+j,none⟩=some (Rv.cy (lS L k) j):=ju h hk fun j hj=>by obtain rfl|rfl|rfl|rfl:j=0∨j=1∨j=2∨j=3:=(by omega)<;>rfl
theorem upto{P:tF}{k:Nat}(h:∀i,i<k→P i)(hk:P k):∀i,i<k+1→P i:=fun i hi=>by
 by_cases e:i=k
 ·exact e▸hk
 ·exact h i (by omega)
theorem fo{n m:Int}{b:Bool}(h:sT n m=b)(w:tA):cA 201 #[iV n,iV m] w (rB (.bool b) w):=(Hq n m w).mono fun _ _ ⟨h1,e⟩=>⟨by rw[h1,h],by rw[e];exact Bm _ _⟩
theorem pg(ep nx gv:Int)(ra la:tB)(rn rc ln lc:Nat)(ws:tD)(w:tA)(hs:rn+ln≤9223372036854775807):
  cA 202 #[iH ep nx gv (.slice ra rn rc) (.slice la ln lc) ws] w (rB (iV (rn+ln:Nat)) w):=by
 exact en (H:=[]) _ [vg (qS ep nx gv (.slice ra rn rc) (.slice la ln lc) ws)] Tryz.func202 rfl rfl (m0 w) (rz [1] [((rn+ln:Nat):Int)] rfl fun _=>fin fun w hS=>⟨rfl,hS.now.2⟩)
theorem FI(ep nx gv:Int)(ra la:tB)(rn rc ln lc:Nat)(ws:tD)(w:tA)(hs:rn+ln≤9223372036854775807):
  cA 189 #[iH ep nx gv (.slice ra rn rc) (.slice la ln lc) ws] w fun e w'=>
   e= .returned (.bool (sT ep 1048576&&sT nx 1073741824&&sT gv 1073741824&&decide (rn+ln≤500)))∧bZ w w':=by
 refine en (H:=[]) _ [vg (qS ep nx gv (.slice ra rn rc) (.slice la ln lc) ws)] Tryz.func189 rfl rfl (m0 w) (r [] rfl fun _=> ?_);cases h0:sT ep 1048576
 ·exact Rv.cb rfl (vv (.bool false)) (fun w _=>fo h0 w) (r [] rfl fun _=>fin fun w hS=>⟨rfl,hS.now.2⟩)
 refine Rv.cb rfl (vv (.bool true)) (fun w _=>fo h0 w) (r [] rfl fun _=> ?_);cases h1:sT nx 1073741824
 ·exact Rv.cb rfl (vv (.bool false)) (fun w _=>fo h1 w) (r [] rfl fun _=>fin fun w hS=>⟨rfl,hS.now.2⟩)
 refine Rv.cb rfl (vv (.bool true)) (fun w _=>fo h1 w) (r [] rfl fun _=> ?_);cases h2:sT gv 1073741824
 ·exact Rv.cb rfl (vv (.bool false)) (fun w _=>fo h2 w) (r [] rfl fun _=>fin fun w hS=>⟨rfl,hS.now.2⟩)
 refine Rv.cb rfl (vv (.bool true)) (fun w _=>fo h2 w) (r [] rfl fun _=>Rv.cb rfl (vi ((rn+ln:Nat):Int)) (fun w _=>pg ep nx gv ra la rn rc ln lc ws w hs) ?_);by_cases h3:rn+ln≤500
 ·exact r [1] rfl fun _=>fin fun w hS=>⟨by rw[As h3];rfl,hS.now.2⟩
 ·exact r [0] rfl fun _=>fin fun w hS=>⟨by rw[Ak h3];rfl,hS.now.2⟩
theorem ni(ep nx gv:Int)(r l:tK)(ws:tD)(no bd:Int)(w:tA)(h0:0≤nx)(h1:nx≤1073741824):
  cA 204 #[iH ep nx gv r l ws,.agg #[iV no,iV bd]] w fun e w'=>
   e= .returned (.bool (sT no (nx-1)&&sT bd 1000000))∧bZ w w':=by
 refine en (H:=[]) _ [vg (qS ep nx gv r l ws),vg [.o (iV no),.o (iV bd)]] Tryz.func204 rfl rfl (m0 w) (rz [1] [nx-1] rfl fun _=> ?_);cases h:sT no (nx-1)
 ·exact Rv.cb rfl (vv (.bool false)) (fun w _=>fo h w) (Rv.r [] rfl fun _=>fin fun w hS=>⟨rfl,hS.now.2⟩)
 refine Rv.cb rfl (vv (.bool true)) (fun w _=>fo h w) (Rv.r [] rfl fun _=> ?_);cases h2:sT bd 1000000
 ·exact Rv.cb rfl (vv (.bool false)) (fun w _=>fo h2 w) (Rv.r [] rfl fun _=>fin fun w hS=>⟨rfl,hS.now.2⟩)
 ·exact Rv.cb rfl (vv (.bool true)) (fun w _=>fo h2 w) (Rv.r [] rfl fun _=>fin fun w hS=>⟨rfl,hS.now.2⟩)
theorem ab3(w:tA)(ep nx gv:Int)(r l:tK)(ws:tD):∃W,W=w.alloc (.cells (ec ep nx gv r l ws) 112)∧aY W w.heap.size ep nx gv r l ws∧bZ w W∧W.heap.size=w.heap.size+1:=
 ⟨_,rfl,aY.new w ep nx gv r l ws,aC _ _,by simp⟩
def gP(ws:tD)(wt:tH)(wz:Nat→Nat→Bool):Prop:=∀p,p<4→ws (9*p)=iV (wt p)∧∀j,j<8→ws (9*p+1+j)= .bool (wz p j)
theorem ZA{p:tF}(h0:p 0)(h1:p 1)(h2:p 2)(h3:p 3):∀i,i<4→p i
 |0,_=>h0
 |1,_=>h1
 |2,_=>h2
 |3,_=>h3
 |n+4,h=>absurd h (by omega)
theorem gP.nine{ws:tD}{wt:tH}{wz:Nat→Nat→Bool}(h:gP ws wt wz)(p:Nat)(hp:p<4):
  Value.agg #[ws (9*p),ws (9*p+1+0),ws (9*p+1+1),ws (9*p+1+2),ws (9*p+1+3),ws (9*p+1+4),ws (9*p+1+5),ws (9*p+1+6),ws (9*p+1+7)]=cH (wt p) (wz p):=by
 obtain⟨h0,h1⟩:=h p hp;rw[h0,h1 0 (by omega),h1 1 (by omega),h1 2 (by omega),h1 3 (by omega),h1 4 (by omega),h1 5 (by omega),h1 6 (by omega),h1 7 (by omega)]
theorem yX{ws:tD}{wt:tH}{wz:Nat→Nat→Bool}(h:gP ws wt wz):∀p:Nat,p<4→∀w:World,(Instr.index 110 (.agg (nK ws).toArray) (iV p)).run Tryz.prog w= .ok (cH (wt p) (wz p)) w:=by
 intro p hp w;rw[←h.nine p hp];revert p;refine ZA ?_ ?_ ?_ ?_<;>(simp[Instr.index,run_underlying Tryz.underlying110,asIntOf,go_sem,nK])
abbrev wS(t:Int)(s:tQ):List Rv.Sg:=[.o (iV t),.o (.bool (s 0)),.o (.bool (s 1)),.o (.bool (s 2)),.o (.bool (s 3)),.o (.bool (s 4)),.o (.bool (s 5)),.o (.bool (s 6)),.o (.bool (s 7))]
noncomputable def uF(wt:tH)(wz:Nat→Nat→Bool):Bool:= @decide (∀p,p<4→fO (wt p) (wz p)) (Classical.propDecidable _)
theorem Ob{wt:tH}{wz:Nat→Nat→Bool}(h:∀p,p<4→fO (wt p) (wz p)):uF wt wz=true:=by
 unfold uF;exact @decide_eq_true _ (Classical.propDecidable _) h
theorem RE{wt:tH}{wz:Nat→Nat→Bool}(p:Nat)(hp:p<4)(h:¬fO (wt p) (wz p)):uF wt wz=false:=by
 unfold uF;exact @decide_eq_false _ (Classical.propDecidable _) (fun h'=>h (h' p hp))
theorem Od{wt:tH}{wz:Nat→Nat→Bool}:uF wt wz=true↔∀p,p<4→fO (wt p) (wz p):=by
 unfold uF;exact @decide_eq_true_iff _ (Classical.propDecidable _)
theorem xS(ep nx gv:Int)(r l:tK)(ws:tD)(wt:tH)(wz:Nat→Nat→Bool)(w:tA)(h:gP ws wt wz):
  cA 190 #[iH ep nx gv r l ws] w (rB (.bool (uF wt wz)) w):=by
 have Zy:=yX h;refine en (H:=[]) _ [vg (qS ep nx gv r l ws)] Tryz.func190 rfl rfl (m0 w) (Rv.r [] rfl fun _=> ?_);refine iD (X:=Nat) ⟨fun k=>[(6,vf 36 ws),(7,vi (k:Int))],fun _=>[],fun _ _=>False,fun _ _=>True,fun _ w'=>bZ w w',fun k=>k≤4∧∀p,p<k→fO (wt p) (wz p),fun k=>4-k⟩ 0 ⟨rfl,rfl,trivial⟩ (fun w hS=>hS.take 0) ⟨Al _,fun p hp=>absurd hp (AF p)⟩ ?_;rintro f k ⟨hk,hi⟩;have hk:k≤4:=hk;by_cases aN:k<4
 case neg=>
  obtain rfl:k=4:=by omega
  exact Rv.r [0] rfl fun _=>fin fun w hS=>⟨by rw[Ob hi];rfl,hS.now.2⟩
 refine Rv.r [1] rfl fun _=>ix (vg (wS (wt k) (wz k))) rfl rfl (Zy k aN) (Rv.r [] rfl fun _=> ?_);by_cases ok:fO (wt k) (wz k)
 ·refine Rv.cb rfl (vi 0) (fun w _=>rA (wt k) (wz k) w ok) (rz [0,1] [((k+1:Nat):Int)] rfl fun _=>bJ (k+1) ⟨rfl,rfl,trivial⟩ (fun w hS=>hS.take 0) ⟨aN,upto hi ok⟩ (show 4-(k+1)<4-k by omega))
 ·exact Rv.cb rfl (vi 6) (fun w _=>Hp (wt k) (wz k) w ok) (Rv.r [1] rfl fun _=>fin fun w hS=>⟨by rw[RE k aN ok];rfl,hS.now.2⟩)
def yY(L:tG)(k:Nat):Int:=if k=0 then-1 else L.getD (4*(k-1)+1) 0
structure nj(ep gv:Int)(L:tG)(i:Nat):Prop where
 My:L.getD (4*i) 0=ep
 no:sT (L.getD (4*i+1) 0) (gv-1)=true
 Kn:yY L i<L.getD (4*i+1) 0
noncomputable def nN(ep gv:Int)(L:tG)(n:Nat):Bool:= @decide (∀i,i<n→nj ep gv L i) (Classical.propDecidable _)
theorem Ko{ep gv:Int}{L:tG}{n:Nat}(h:∀i,i<n→nj ep gv L i):nN ep gv L n=true:=by
 unfold nN;exact @decide_eq_true _ (Classical.propDecidable _) h
theorem Oe{ep gv:Int}{L:tG}{n:Nat}(p:Nat)(hp:p<n)(h:¬nj ep gv L p):nN ep gv L n=false:=by
 unfold nN;exact @decide_eq_false _ (Classical.propDecidable _) (fun h'=>h (h' p hp))
theorem Kp{ep gv:Int}{L:tG}{n:Nat}:nN ep gv L n=true↔∀i,i<n→nj ep gv L i:=by
 unfold nN;exact @decide_eq_true_iff _ (Classical.propDecidable _)
theorem FJ(ep nx gv:Int)(r:tK)(la:tB)(ln lc:Nat)(L:tG)(ws:tD)(w:tA)(hg0:0≤gv)(Vi:gv≤1073741824)(hL:RowK .i64 w la (4*ln) L)(hln:ln≤9223372036854775807):
  cA 192 #[iH ep nx gv r (.slice la ln lc) ws] w (rB (.bool (nN ep gv L ln)) w):=by
 refine en (H:=[]) _ [vg (qS ep nx gv r (.slice la ln lc) ws)] Tryz.func192 rfl rfl (m0 w) (Rv.r [] rfl fun α=> ?_);refine iD (X:=Nat) ⟨fun k=>[(1,vp 0 0 (α 0)),(3,vi (yY L k)),(7,vv (.slice la ln lc)),(8,vi (ln:Int)),(9,vi (k:Int))],fun _=>[⟨α 0,112,qS ep nx gv r (.slice la ln lc) ws⟩],fun _ _=>False,fun _ _=>True,fun _ w'=>bZ w w',fun k=>k≤ln∧∀i,i<k→nj ep gv L i,fun k=>ln-k⟩ 0 ⟨rfl,rfl,rfl,rfl,rfl,trivial⟩ (fun _ hS=>hS) ⟨Al _,fun p hp=>absurd hp (AF p)⟩ ?_;rintro f k ⟨hk,hi⟩;have hk:k≤ln:=hk;by_cases aN:k<ln
 case neg=>
  obtain rfl:k=ln:=by omega
  exact Rv.r [0] rfl fun _=>fin fun w hS=>⟨by rw[Ko hi];rfl,hS.now.2⟩
 obtain⟨lb,lo,rfl⟩:=hL.form (by omega);have no:¬nj ep gv L k→nN ep gv L ln=false:=Oe k aN;refine Rv.r [1] rfl fun _=>lf (q:=lo+k*4) rfl 4 (cy (lS L k)) (fun w hS=>ab2 (hL.below hS.now.2) (by omega)) (Rv.r [] rfl fun _=> ?_);by_cases h1:L.getD (4*k) 0=ep
 case neg=>exact Rv.r [1] rfl fun _=>fin fun w hS=>⟨by rw[no fun h=>h1 h.My];rfl,hS.now.2⟩
 refine rz [0,1] [gv-1] rfl fun _=> ?_;cases h2:sT (L.getD (4*k+1) 0) (gv-1)
 ·exact Rv.cb rfl (vv (.bool false)) (fun w _=>fo h2 w) (Rv.r [] rfl fun _=>fin fun w hS=>⟨by rw[no fun h=>by rw[h.no]at h2;cases h2];rfl,hS.now.2⟩)
 refine Rv.cb rfl (vv (.bool true)) (fun w _=>fo h2 w) (Rv.r [] rfl fun _=> ?_);by_cases h3:L.getD (4*k+1) 0≤yY L k
 ·exact Rv.r [1] rfl fun _=>fin fun w hS=>⟨by rw[no fun h=>absurd h.Kn (Int.not_lt.2 h3)];rfl,hS.now.2⟩
 refine rz [0,1] [((k+1:Nat):Int)] rfl fun _=>bJ (k+1) ⟨rfl,rfl,rfl,rfl,rfl,trivial⟩ (fun w hS=>hS.take 1) ⟨aN,upto hi ⟨h1,h2,Int.not_le.1 h3⟩⟩ (show ln-(k+1)<ln-k by omega)
end
end Go.Proofs.YtpgkjpomaffbmaaGreatDoor
namespace Go.Proofs
open Go.Shelf
def Tryz.laysSort_ren:Go.Shelf.Ren:=⟨fun|189=>215|125=>220|257=>222|128=>231|129=>232|294=>233|295=>234|296=>235|297=>236|298=>237|299=>238|216=>239|300=>240|301=>241|328=>247|329=>243|330=>244|331=>248|332=>249|215=>221|343=>251|n=>n,fun|28=>262|3=>3|46=>233|0=>0|51=>308|53=>310|4=>4|183=>302|182=>301|131=>28|5=>5|9=>9|218=>316|222=>132|228=>323|229=>324|n=>n,fun|n=>n⟩
theorem Tryz.laysSort:Go.Proofs.Lays.n189 Tryz.prog Tryz.laysSort_ren:={
 mixed:=by kernel_rfl
 f125:=Tryz.func220.trans (congrArg some (by kernel_rfl))
 f128:=Tryz.func231.trans (congrArg some (by kernel_rfl))
 f129:=Tryz.func232.trans (congrArg some (by kernel_rfl))
 f189:=Tryz.func215.trans (congrArg some (by kernel_rfl))
 f215:=Tryz.func221.trans (congrArg some (by kernel_rfl))
 f216:=Tryz.func239.trans (congrArg some (by kernel_rfl))
 f257:=Tryz.func222.trans (congrArg some (by kernel_rfl))
 f294:=Tryz.func233.trans (congrArg some (by kernel_rfl))
 f295:=Tryz.func234.trans (congrArg some (by kernel_rfl))
 f296:=Tryz.func235.trans (congrArg some (by kernel_rfl))
 f297:=Tryz.func236.trans (congrArg some (by kernel_rfl))
 f298:=Tryz.func237.trans (congrArg some (by kernel_rfl))
 f299:=Tryz.func238.trans (congrArg some (by kernel_rfl))
 f300:=Tryz.func240.trans (congrArg some (by kernel_rfl))
 f301:=Tryz.func241.trans (congrArg some (by kernel_rfl))
 f328:=Tryz.func247.trans (congrArg some (by kernel_rfl))
 f329:=Tryz.func243.trans (congrArg some (by kernel_rfl))
 f330:=Tryz.func244.trans (congrArg some (by kernel_rfl))
 f331:=Tryz.func248.trans (congrArg some (by kernel_rfl))
 f332:=Tryz.func249.trans (congrArg some (by kernel_rfl))
 f343:=Tryz.func251.trans (congrArg some (by kernel_rfl))
 t0:=Tryz.underlying0
 a0:=Tryz.isAgg0
 z0:=Tryz.sizeOf0
 v0:=Tryz.zeroValue0
 t3:=Tryz.underlying3
 a3:=Tryz.isAgg3
 z3:=Tryz.sizeOf3
 v3:=Tryz.zeroValue3
 t4:=Tryz.underlying4
 a4:=Tryz.isAgg4
 z4:=Tryz.sizeOf4
 v4:=Tryz.zeroValue4
 t5:=Tryz.underlying5
 a5:=Tryz.isAgg5
 z5:=Tryz.sizeOf5
 v5:=Tryz.zeroValue5
 t9:=Tryz.underlying9
 a9:=Tryz.isAgg9
 z9:=Tryz.sizeOf9
 v9:=Tryz.zeroValue9
 t28:=Tryz.underlying262
 a28:=Tryz.isAgg262
 z28:=Tryz.sizeOf262
 v28:=Tryz.zeroValue262
 t46:=Tryz.underlying233
 a46:=Tryz.isAgg233
 z46:=Tryz.sizeOf233
 v46:=Tryz.zeroValue233
 t51:=Tryz.underlying308
 a51:=Tryz.isAgg308
 z51:=Tryz.sizeOf308
 v51:=Tryz.zeroValue308
 t53:=Tryz.underlying310
 a53:=Tryz.isAgg310
 z53:=Tryz.sizeOf310
 v53:=Tryz.zeroValue310
 t131:=Tryz.underlying28
 a131:=Tryz.isAgg28
 z131:=Tryz.sizeOf28
 v131:=Tryz.zeroValue28
 t182:=Tryz.underlying301
 a182:=Tryz.isAgg301
 z182:=Tryz.sizeOf301
 v182:=Tryz.zeroValue301
 t183:=Tryz.underlying302
 a183:=Tryz.isAgg302
 z183:=Tryz.sizeOf302
 v183:=Tryz.zeroValue302
 t218:=Tryz.underlying316
 a218:=Tryz.isAgg316
 z218:=Tryz.sizeOf316
 v218:=Tryz.zeroValue316
 t222:=Tryz.underlying132
 a222:=Tryz.isAgg132
 z222:=Tryz.sizeOf132
 v222:=Tryz.zeroValue132
 t228:=Tryz.underlying323
 a228:=Tryz.isAgg323
 z228:=Tryz.sizeOf323
 v228:=Tryz.zeroValue323
 t229:=Tryz.underlying324
 a229:=Tryz.isAgg324
 z229:=Tryz.sizeOf324
 v229:=Tryz.zeroValue324}
def Tryz.laysCompact_ren:Go.Shelf.Ren:=⟨fun|20=>216|n=>n,fun|22=>262|3=>3|4=>4|0=>0|n=>n,fun|n=>n⟩
theorem Tryz.laysCompact:Go.Proofs.Lays2.n20 Tryz.prog Tryz.laysCompact_ren:={
 mixed:=by kernel_rfl
 f20:=Tryz.func216.trans (congrArg some (by kernel_rfl))
 t0:=Tryz.underlying0
 a0:=Tryz.isAgg0
 z0:=Tryz.sizeOf0
 v0:=Tryz.zeroValue0
 t3:=Tryz.underlying3
 a3:=Tryz.isAgg3
 z3:=Tryz.sizeOf3
 v3:=Tryz.zeroValue3
 t4:=Tryz.underlying4
 a4:=Tryz.isAgg4
 z4:=Tryz.sizeOf4
 v4:=Tryz.zeroValue4
 t22:=Tryz.underlying262
 a22:=Tryz.isAgg262
 z22:=Tryz.sizeOf262
 v22:=Tryz.zeroValue262
 i3:=by kernel_rfl}
end Go.Proofs
namespace Go.Proofs.YtpgkjpomaffbmaaGreatDoor
open Go.RowKit
def dj(L:tG)(k:Nat):List Int:=(List.range k).map fun i=>L.getD (4*i+2) 0
def cO(R:tG)(k:Nat):List Int:=(List.range k).map fun i=>R.getD (2*i) 0
def fY(L:tG)(ln:Nat)(R:tG)(rn:Nat):List Int:=dj L ln++cO R rn
theorem FK(L:tG)(k:Nat):(dj L k).length=k:=by simp[dj]
theorem FL(R:tG)(k:Nat):(cO R k).length=k:=by simp[cO]
theorem ss(L:tG)(k:Nat):dj L (k+1)=dj L k++[L.getD (4*k+2) 0]:=by
 simp[dj,List.range_succ]
theorem DC(R:tG)(k:Nat):cO R (k+1)=cO R k++[R.getD (2*k) 0]:=by
 simp[cO,List.range_succ]
theorem Of(L:tG)(ln:Nat)(R:tG)(rn:Nat):(fY L ln R rn).length=ln+rn:=by simp[fY,FK,FL]
theorem yZ(L:tG)(ln:Nat)(R:tG)(k:Nat):fY L ln R (k+1)=fY L ln R k++[R.getD (2*k) 0]:=by
 simp[fY,DC]
theorem Kq(L:tG)(ln:Nat)(R:tG):fY L ln R 0=dj L ln:=by simp[fY,cO]
theorem mn(l:tG)(hw:∀u∈l,(Lit.int .i64 u).wf=true)(i:Nat):(Lit.int .i64 (l.getD i 0)).wf=true:=by
 rcases AG i l.length with h|h
 ·rw[Aw,Ai h];exact hw _ (BE h)
 ·rw[Aw,Be h];decide
theorem Og(l:tG):(l.mergeSort fun x y=>decide (x≤y)).Pairwise (fun x y=>x≤y):=by
 have h:=List.pairwise_mergeSort (le:=fun x y:Int=>decide (x≤y)) (fun a b c h1 h2=>by simp at*;omega) (fun a b=>by simp;omega) l;exact h.imp (fun h=>by simpa using h)
theorem Hr(s:tG)(hs:s.Pairwise (fun x y=>x≤y)):(Lib.compact s).length<s.length↔¬s.Nodup:=by
 have e:(Lib.compact s).length=((List.range s.length).filter (Lib.keeps s.toArray)).length:=by simp[Lib.compact,Lib.compactUpTo]
 have e2:(Lib.compact s).length<s.length↔∃j,j<s.length∧Lib.keeps s.toArray j=false:=by
  rw[e]
  conv=>lhs;rhs;rw[←List.length_range (n:=s.length)]
  rw[List.length_filter_lt_length_iff_exists];simp
 rw[e2];have hp:=BD.1 hs;constructor
 ·rintro⟨j,hj,hk⟩ hn;have pS:=BD.1 hn;simp only[Lib.keeps,decide_eq_false_iff_not,not_or,Decidable.not_not]at hk;have h0:0<j:=by omega
  have:=pS (j-1) j (by omega) hj (by omega);have e1:s.toArray[j]! =s[j]:=by rw[getElem!_pos s.toArray j (by simpa using hj)];simp
  have e2:s.toArray[j-1]! =s[j-1]'(by omega):=by rw[getElem!_pos s.toArray (j-1) (by simp;omega)];simp
  have h2:=hk.2;rw[e1,e2]at h2;exact this h2.symm
 ·intro hn;rcases Classical.em (∃j,j<s.length∧Lib.keeps s.toArray j=false)with h|h
  ·exact h
  ·refine absurd (BD.2 fun i j hi hj hij=> ?_) hn;intro he;refine h ⟨j,hj, ?_⟩;have h1:s[i]≤s[j-1]'(by omega):=by
    rcases AG i (j-1)with h'|h'
    ·exact hp i (j-1) hi (by omega) h'
    ·have:i=j-1:=by omega
     subst this;exact Bq _
   have h2:s[j-1]'(by omega)≤s[j]:=hp (j-1) j (by omega) hj (by omega);have h3:s[j]=s[j-1]'(by omega):=by omega
   simp only[Lib.keeps,decide_eq_false_iff_not,not_or,Decidable.not_not];refine⟨by omega, ?_⟩;have e1:s.toArray[j]! =s[j]:=by rw[getElem!_pos s.toArray j (by simpa using hj)];simp
   have e2:s.toArray[j-1]! =s[j-1]'(by omega):=by rw[getElem!_pos s.toArray (j-1) (by simp;omega)];simp
   rw[e1,e2];exact h3
def y_(l:tG):Bool:=decide (¬l.Nodup)
theorem VQ(l:tG)(c n:Nat)(hc:c=(Lib.compact (l.mergeSort fun x y=>decide (x≤y))).length)(hn:n=l.length):decide ((c:Int)<(n:Int))=y_ l:=by
 have h1:=Hr _ (Og l);rw[List.length_mergeSort,←hc,←hn,(List.mergeSort_perm l _).nodup_iff]at h1;unfold y_;rw[decide_eq_decide];rw[←h1];omega
theorem Hs(zs:tG)(k:Nat)(h:k<zs.length):zs.getD k 0∈zs:=by
 rw[Aw,Ai h];exact BE h
theorem Tryz.RF:(Tryz.prog.info? 5).map (fun i=>(i.zero,i.size,i.bytes))=some (some (.int .u8 0),1,1):=by kernel_rfl
def four(n:Int):List Int:=[n/16777216,n/65536 % 256,n/256 % 256,n % 256]
def eH(l:tG):List Int:=l.flatMap four
theorem Kr(zs:tG)(k:Nat)(h:k<zs.length):eH (zs.take (k+1))=eH (zs.take k)++four (zs.getD k 0):=by
 rw[Bo h];simp only[eH,List.flatMap_append,List.flatMap_cons,List.flatMap_nil,List.append_nil];simp[h]
theorem oc(zs:tG):(eH zs).length=4*zs.length:=by
 induction zs with
 |nil=>rfl
 |cons z zs ih=>simp only[eH,List.flatMap_cons,List.length_append,List.length_cons]at*;rw[ih];simp[four];omega
theorem VR(n:Int)(h0:0≤n)(h1:n≤2147483647):∀u∈four n,(Lit.int .u8 u).wf=true:=by
 intro u hu;simp only[four,List.mem_cons,List.not_mem_nil,or_false]at hu;rcases hu with rfl|rfl|rfl|rfl<;>exact WalkArith.wf_u8 (by omega)
theorem RG(zs:tG)(hr:∀n∈zs,0≤n∧n≤2147483647):∀u∈eH zs,(Lit.int .u8 u).wf=true:=by
 intro u hu;simp only[eH,List.mem_flatMap]at hu;obtain⟨n,hn,hu⟩:=hu;exact VR n (hr n hn).1 (hr n hn).2 u hu
theorem Mz(b off cap:Nat)(zs:tG)(w:tA)(hb:b<w.heap.size)(hlen:zs.length≤1000)
  (hr:∀n∈zs,0≤n∧n≤2147483647)
  (hc:∀k,k<zs.length→w.cell? ⟨b,off+k,none⟩=some (iV (zs.getD k 0))):
  cA 173 #[.slice (some ⟨b,off,none⟩) zs.length cap] w fun e w'=>
   e= .returned (.slice (some ⟨w.heap.size,0,none⟩) (4*zs.length) (4*zs.length))∧
   RowK .u8 w' (some ⟨w.heap.size,0,none⟩) (4*zs.length) (eH zs)∧
   bZ w w':=by
 obtain⟨i0,hi,Es,xT,vU⟩:=info_parts Tryz.RF;go_enter Tryz.func173,Tryz.ntmps173
 go_wp2_with (at_make;refine wpList_make_own _ rfl _ _ 119 rfl w.heap.size 5 i0 (.int .u8 0) 1 Tryz.underlying119 hi Es xT _ _ _ (4*zs.length) rfl rfl (by omega) (by rw[vU];omega) (by unfold maxLen;omega) (Ac _) ?_;intro w1 hown1 hgrow1)
 go_loopw [3,12] (fun v i wr=>∃k:Nat,k≤zs.length∧i=iV k∧v= .slice (some ⟨w.heap.size,0,none⟩) (4*k) (4*zs.length)∧
   wr.ownsRow w.heap.size 5 1 (.slice (some ⟨w.heap.size,0,none⟩) (4*k) (4*zs.length)) (4*k) ((eH (zs.take k)).map (Value.int .u8))∧bZ w wr)
  (fun _ i _=>zs.length-(intOf i).toNat)
 case atStart=>exact⟨0,Nat.zero_le _,rfl,rfl,by simpa[eH]using hown1,(Below.refl _ _).grown hgrow1 (Nat.le_refl _) (by simp)⟩
 case round=>
  obtain⟨k,hk,rfl,rfl,bU,gQ⟩:=hrel;by_cases aN:k<zs.length
  ·have hcx:wr.cell? ⟨b,off+k,none⟩=some (iV (zs.getD k 0)):=(gQ.cell (by exact hb)).trans (hc k aN);have hn:=hr (zs.getD k 0) (Hs zs k aN);generalize hx:zs.getD k 0=n at hcx hn;have HX:Hid (zs.getD k 0=n):=hx;clear hx;obtain⟨Ks,uG⟩:=hn
   go_wp2_with (at_builtin;refine wpList_append_fits _ rfl _ _ 119 rfl w.heap.size 5 i0 1 Tryz.underlying119 hi xT _ _ _ _ rfl (bU.alloc _) ⟨wr.heap.size,0,none⟩ 4 4 ((four n).map (Value.int .u8)) rfl rfl ?c1 (Cw _ _) (by omega) ?_;rotate_right;intro w2 hown2 hgrow2)
   case c1=>
    intro j u hj
    match j,hj with
    |0,hj=>simp[four]at hj;subst hj;simp[Addr.add]
    |1,hj=>simp[four]at hj;subst hj;simp[Addr.add]
    |2,hj=>simp[four]at hj;subst hj;simp[Addr.add]
    |3,hj=>simp[four]at hj;subst hj;simp[Addr.add]
    |(j+4),hj=>simp[four]at hj
   have R1:Hid (w2.ownsRow w.heap.size 5 1 (.slice (some ⟨w.heap.size,0,none⟩) (4*(k+1)) (4*zs.length)) (4*(k+1)) ((eH (zs.take (k+1))).map (Value.int .u8))):=by
    rw[Kr zs k aN,HX.out,AE];exact hown2
   have R2:bZ w w2:=(gQ.alloc gQ.size _).grown hgrow2 (by have:=gQ.size;simp;omega) (by intro k hk;simp at hk;omega);clear hown2 hgrow2 bU hcx;go_wp2
   go_roundw
   case rel=>exact⟨k+1,by omega,by go_num,by rfl,R1.out,R2⟩
   case measure=>simp[intOf];omega
  ·have kg:k=zs.length:=by omega
   subst kg;go_wp2;go_ret;exact⟨rfl,RowK.Mi (by simpa using bU) (oc zs) (RG zs hr),gQ⟩
theorem RH(base:Nat)(v:tK)(n:Nat)(l:tG)(w:tA)(h:w.ownsRow base 3 1 v n (l.map (Value.int .i64)))(hn:n<4611686018427387904):
  cA 215 #[v] w fun e w'=>e= .returned (.tuple #[])∧w'.ownsRow base 3 1 v n ((l.mergeSort fun x y=>decide (x≤y)).map (Value.int .i64))∧w.grownBy w' v.ownBlock:=by
 have hl:l.length=n:=by simpa using h.1
 rcases h.2 with⟨rfl,rfl⟩|⟨g,cap,cur,rfl,hb,hg,hc,hm,hs,ht⟩
 ·have J7:l=[]:=AU.1 hl;subst J7;refine(Any.slices_Sort_int_none Tryz.laysSort none 0 w).mono ?_;rintro e w' ⟨rfl,rfl⟩;exact⟨rfl,by simpa using World.ownsRow_nil _ _ _ _,World.grownBy.refl _ _⟩
 ·subst hl;obtain⟨g',bl,he,_,MA,_,_,_,hH⟩:=Lib.holds_of_ownsRow h (by simp);injection he with e1 _ e3
  injection e1 with e1
  injection e1 with e1
  subst e1;subst e3;refine(Any.slices_Sort_int Tryz.laysSort g 0 cap l w hH MA hn).mono ?_;rintro e w' ⟨rfl,nn,os,rfl⟩;exact⟨rfl,Go.ownsRow_sortedI (List.length_mergeSort l) hb hg hc hm hs,Go.grownBy_sortedI _⟩
theorem FM{w:tA}{g q:Nat}(d:Array Int):w.grownBy (Go.Sort.putRow (Value.int .i64) (Go.Sort.ahead w q) g 0 d) (some g):=by
 refine⟨rfl,rfl,rfl,by simp[Go.Sort.putRow,Go.Sort.mapBlock,Go.Sort.ahead],fun k hk fR=> ?_⟩;have:g≠k:=fun e=>fR (by rw[e]);simp[Go.Sort.putRow,Go.Sort.mapBlock,Go.Sort.ahead,Array.getElem?_modify,this]
theorem Ht(base:Nat)(v:tK)(n:Nat)(l:tG)(w:tA)(h:w.ownsRow base 3 1 v n (l.map (Value.int .i64)))(hn:n<4611686018427387904):
  cA 216 #[v] w fun e w'=>∃a c cap,e= .returned (.slice a c cap)∧w.grownBy w' v.ownBlock∧c≤cap∧Hid (c=(Lib.compact l).length):=by
 have hl:l.length=n:=by simpa using h.1
 rcases h.2 with⟨rfl,rfl⟩|⟨g,cap,cur,rfl,hb,hg,hc,hm,hs,ht⟩
 ·have J7:l=[]:=AU.1 hl;subst J7;refine(Any.slices_Compact_int_empty Tryz.laysCompact none 0 w).mono ?_;rintro e w' ⟨rfl,rfl⟩;exact⟨none,0,0,rfl,World.grownBy.refl _ _,Ac _,ai (by simp[Lib.compact,Lib.compactUpTo])⟩
 ·subst hl;obtain⟨g',bl,he,_,MA,_,_,_,hH⟩:=Lib.holds_of_ownsRow h (by simp);injection he with e1 _ e3
  injection e1 with e1
  injection e1 with e1
  subst e1;subst e3;refine(Any.slices_Compact_int Tryz.laysCompact g 0 cap l w hH (by omega) hc).mono ?_;rintro e w' ⟨rfl,q,rfl⟩;exact⟨_,_,cap,rfl,FM _,AN (Lib.compact_length_le l) hc,ai rfl⟩
theorem Tryz.VS:(Tryz.prog.info? 3).map (fun i=>(i.zero,i.size,i.bytes))=some (some (iV 0),1,8):=by kernel_rfl
theorem iw{P:tY}{e:tZ}{z:tK}{s b:Nat}(h:(P.info? e).map (fun i=>(i.zero,i.size,i.bytes))=some (some z,s,b)):∃i,P.info? e=some i∧i.zero=some z∧i.size=s∧i.bytes=b:=by
 obtain⟨i,hi,hzz⟩:=Option.map_eq_some_iff.1 h;simp only[Prod.mk.injEq]at hzz;exact⟨i,hi,hzz.1,hzz.2.1,hzz.2.2⟩
theorem Et(w:tA)(A:Obj)(v:tK)(t:tZ):∀j u,([v]:tM)[j]? =some u→((w.alloc A).alloc (.cells #[v] t)).cell? ((⟨w.heap.size+1,0,none⟩:Addr).add j)=some u:=by
 intro j u hj;have:=cell_one_new (w.alloc A) v t j u hj;simpa using this
theorem Eu(ep nx gv:Int)(ra la:tB)(rn rc ln lc:Nat)(R L:tG)(ws:tD)(w:tA)(hR:RowK .i64 w ra (2*rn) R)(hL:RowK .i64 w la (4*ln) L)(hs:rn+ln≤500):
    cA 205 #[iH ep nx gv (.slice ra rn rc) (.slice la ln lc) ws] w (rB (.bool (y_ (fY L ln R rn))) w):=by
  obtain⟨i0,hi,Es,xT,vU⟩:=iw Tryz.VS;obtain⟨W,hW,qb0,B0,S0⟩:=ab3 w ep nx gv (.slice ra rn rc) (.slice la ln lc) ws;have q0:=qb0;rw[hW]at q0;go_enter Tryz.func205,Tryz.ntmps205
  go_wp2_with (first
    |(refine FH _ rfl rfl rfl (by assumption) ?_)
    |(go_at_call 202;refine(pg _ _ _ _ _ _ _ _ _ _ _ (by omega)).mono ?_;rintro e w1 ⟨rfl,b1⟩
      have n_:Below (w.heap.size+1) W w1:=by rw[hW];simpa using b1
      obtain⟨c0,c1,c2,c3,c4⟩:=(qb0.below n_ (by omega)).heads
      clear b1 q0)
    |(at_make;refine wpList_make_own _ rfl _ _ 262 rfl (w.heap.size+1) 3 i0 (iV 0) 1 Tryz.underlying262 hi Es xT _ _ _ (rn+ln) rfl rfl (by omega) (by rw[vU];omega) (by unfold maxLen;omega) (by have:=n_.size;omega) ?_;intro w2 hown1 hgrow1
      have Du:Below (w.heap.size+1) W w2:=n_.grown hgrow1 (by have:=n_.size;omega) (by simp);clear c0 c1 c2 c3 c4;obtain⟨c0,c1,c2,c3,c4⟩:=(qb0.below Du (by omega)).heads
      clear n_ hgrow1))
  clear c0 c1 c2 c3 c4 hW
  go_loopw [3,14] (fun v t wr=>∃k:Nat,k≤ln∧t=iV k∧wr.ownsRow (w.heap.size+1) 3 1 v k ((dj L k).map (Value.int .i64))∧Below (w.heap.size+1) W wr) (fun _ t _=>ln-(intOf t).toNat)
  case atStart=>exact⟨0,Nat.zero_le _,rfl,by simpa[dj]using hown1,Du⟩
  case round=>
    obtain⟨k,hk,rfl,bU,hb⟩:=hrel;clear hown1 Du;have js:w.heap.size+1≤wr.heap.size:=by have:=hb.size;omega
    have VT:bZ w wr:=B0.trans (hb.mono (by omega));by_cases aN:k<ln
    ·have rL:=hL.below VT;have HBw:=ai VT;have HB:=ai hb;clear VT hb;obtain⟨b,off,rfl⟩:=hL.form (by omega);obtain⟨x0,hx0⟩:∃x,x=L.getD (4*k) 0:=⟨_,rfl⟩;obtain⟨x1,hx1⟩:∃x,x=L.getD (4*k+1) 0:=⟨_,rfl⟩;obtain⟨x2,hx2⟩:∃x,x=L.getD (4*k+2) 0:=⟨_,rfl⟩;obtain⟨x3,hx3⟩:∃x,x=L.getD (4*k+3) 0:=⟨_,rfl⟩;have k0:wr.cell? ⟨b,off+k*4,none⟩=some (iV x0):=by rw[Bn k 4,hx0];exact rL.at (4*k) (by omega)
     have k1:wr.cell? ⟨b,off+k*4+1,none⟩=some (iV x1):=by rw[Bn k 4,hx1];exact rL.at (4*k+1) (by omega)
     have k2:wr.cell? ⟨b,off+k*4+2,none⟩=some (iV x2):=by rw[Bn k 4,hx2];exact rL.at (4*k+2) (by omega)
     have k3:wr.cell? ⟨b,off+k*4+3,none⟩=some (iV x3):=by rw[Bn k 4,hx3];exact rL.at (4*k+3) (by omega)
     have X:Hid (x2=L.getD (4*k+2) 0):=ai hx2;clear rL hx0 hx1 hx2 hx3
     go_wp2_with (at_builtin;refine Cr _ rfl _ _ 262 rfl (w.heap.size+1) 3 i0 (iV 0) 1 8 Tryz.underlying262 hi Es xT vU rfl (by decide) _ _ _ rfl ((bU.alloc _).alloc _) ⟨wr.heap.size+1,0,none⟩ 1 1 [iV x2] rfl rfl (Et _ _ _ _) (Cw .i64 [x2]) (by unfold maxLen;omega) (by omega) (by simp;omega) ?_;intro v' w4 hown4 hgrow4 _)
     have R1:Hid (w4.ownsRow (w.heap.size+1) 3 1 v' (k+1) ((dj L (k+1)).map (Value.int .i64))):=ai (by
       rw[ss,AE,←aa X];exact hown4)
     have R2:Hid (Below (w.heap.size+1) W w4):=ai ((((aa HB).alloc js _).alloc (by simp;omega) _).grown hgrow4 (by simp;omega) (by intro t ht;exact(bU.lt t ht).1));clear hown4 hgrow4 bU k0 k1 k2 k3;go_wp2
     go_roundw
     case rel=>exact⟨k+1,by omega,by go_num,aa R1,aa R2⟩
     case measure=>simp[intOf];omega
    ·obtain rfl:k=ln:=by omega
     obtain⟨c0,c1,c2,c3,c4⟩:=(qb0.below hb (by omega)).heads;have RI:=bU;rw[←Kq L k R]at RI;clear bU
     go_wp2_with fail
     clear c0 c1 c2 c3 c4
     go_loopw [3,28] (fun v t wr=>∃j:Nat,j≤rn∧t=iV j∧wr.ownsRow (w.heap.size+1) 3 1 v (k+j) ((fY L k R j).map (Value.int .i64))∧Below (w.heap.size+1) W wr) (fun _ t _=>rn-(intOf t).toNat)
     case atStart=>exact⟨0,Al _,rfl,RI,hb⟩
     case round=>
       obtain⟨j,hj,rfl,bU,hb'⟩:=hrel;clear RI hb VT;have ab5:w.heap.size+1≤wr.heap.size:=by have:=hb'.size;omega
       have VT:bZ w wr:=B0.trans (hb'.mono (by omega));by_cases aN:j<rn
       ·have rR:=hR.below VT;have HBw:=ai VT;have HB:=ai hb';clear VT hb';obtain⟨b,off,rfl⟩:=hR.form (by omega);obtain⟨x0,hx0⟩:∃x,x=R.getD (2*j) 0:=⟨_,rfl⟩;obtain⟨x1,hx1⟩:∃x,x=R.getD (2*j+1) 0:=⟨_,rfl⟩;have k0:wr.cell? ⟨b,off+j*2,none⟩=some (iV x0):=by rw[Bn j 2,hx0];exact rR.at (2*j) (by omega)
        have k1:wr.cell? ⟨b,off+j*2+1,none⟩=some (iV x1):=by rw[Bn j 2,hx1];exact rR.at (2*j+1) (by omega)
        have X:Hid (x0=R.getD (2*j) 0):=ai hx0;clear rR hx0 hx1
        go_wp2_with (at_builtin;refine Cr _ rfl _ _ 262 rfl (w.heap.size+1) 3 i0 (iV 0) 1 8 Tryz.underlying262 hi Es xT vU rfl (by decide) _ _ _ rfl ((bU.alloc _).alloc _) ⟨wr.heap.size+1,0,none⟩ 1 1 [iV x0] rfl rfl (Et _ _ _ _) (Cw .i64 [x0]) (by unfold maxLen;omega) (by omega) (by simp;omega) ?_;intro v' w4 hown4 hgrow4 _)
        have R1:Hid (w4.ownsRow (w.heap.size+1) 3 1 v' (k+(j+1)) ((fY L k R (j+1)).map (Value.int .i64))):=ai (by
          rw[yZ,AE,←aa X];exact hown4)
        have R2:Hid (Below (w.heap.size+1) W w4):=ai ((((aa HB).alloc ab5 _).alloc (by simp;omega) _).grown hgrow4 (by simp;omega) (by intro t ht;exact(bU.lt t ht).1));clear hown4 hgrow4 bU k0 k1;go_wp2
        go_roundw
        case rel=>exact⟨j+1,by omega,by go_num,aa R1,aa R2⟩
        case measure=>simp[intOf];omega
       ·obtain rfl:j=rn:=by omega
        have hn:k+j<4611686018427387904:=by omega
        clear hR hL;have HB:=ai hb';have HO:=ai bU;clear hb' bU VT
        go_wp2_with (go_at_call 215;refine(RH _ _ _ _ _ (aa HO) hn).mono ?_;rintro e w5 ⟨rfl,hown5,hgrow5⟩)
        have QQ:Below (w.heap.size+1) W w5:=(aa HB).grown hgrow5 ab5 (by intro t ht;exact((aa HO).lt t ht).1);have O5:=ai hown5;clear hown5 hgrow5 HO HB;have q5:=qb0.below QQ (by omega);refine wp_region_held_drew (S:=fun w'=>aY w' w.heap.size ep nx gv (.slice ra j rc) (.slice la k lc) ws) (by kernel_rfl) q5 (fun hHeld=> ?_);refine BS (i:=0) (v:=_) rfl (by kernel_rfl) (by kernel_rfl) (by kernel_rfl) (fun _ _ _ h=>h) (Or.inl ⟨by rfl,fun _ _=>rfl⟩) hHeld ?_;simp only[List.getElem_toArray,List.getElem_cons_zero,Act.put,List.setIfInBounds_toArray,List.set_cons_zero,List.set_cons_succ];refine BS (i:=3) (v:=_) rfl (by kernel_rfl) (by kernel_rfl) (by kernel_rfl) (fun _ _ _ h=>h) (RD _ rfl rfl rfl (fun _ h=>h)) hHeld ?_;simp only[List.getElem_toArray,List.getElem_cons_zero,List.getElem_cons_succ,Act.put,List.setIfInBounds_toArray,List.set_cons_zero,List.set_cons_succ];refine wpAnyH_ready (rs:=[1]) (by kernel_rfl) (by simp) ?_;refine AllReadyH.cons rfl (fun K hK=> ?_) AllReadyH.nil;simp only[List.getElem_toArray,List.getElem_cons_zero,List.getElem_cons_succ];go_simp;refine(Ht (w.heap.size+1) _ (k+j) _ w5.drew (aa O5) hn).mono ?_;rintro e w6 ⟨a6,c,cap6,rfl,g6,h6,C6⟩;have hb6:Below (w.heap.size+1) W w6:=(show Below (w.heap.size+1) W w5.drew from⟨QQ.os,QQ.tape,QQ.output,QQ.size,QQ.block⟩).grown g6 (by have:=QQ.size;simp;omega) (by intro t ht;exact((aa O5).lt t ht).1);have q6:=qb0.below hb6 (by omega);refine hK.out _ _ q6 (fun hHeld=> ?_);clear hK K g6;refine BS (i:=2) (v:=iV (c:Int)) rfl (by kernel_rfl) (by kernel_rfl) (by kernel_rfl) (fun _ _ _ h=>h) (Or.inl ⟨by rfl,fun _ _=>by go_simp⟩) hHeld ?_;simp only[List.getElem_toArray,List.getElem_cons_zero,List.getElem_cons_succ,Act.put,List.setIfInBounds_toArray,List.set_cons_zero,List.set_cons_succ];refine wpAnyH_ready (rs:=[4]) (by kernel_rfl) (by simp) ?_;refine AllReadyH.cons rfl (fun K hK=> ?_) AllReadyH.nil;simp only[List.getElem_toArray,List.getElem_cons_zero,List.getElem_cons_succ];go_simp;refine(pg _ _ _ _ _ _ _ _ _ _ _ (by omega)).mono ?_;rintro e w7 ⟨rfl,b7⟩;refine hK.out _ _ (q6.next b7) (fun hHeld=> ?_);clear hK K;refine BS (i:=5) (v:= .bool (decide ((c:Int)<((j+k:Nat):Int)))) rfl (by kernel_rfl) (by kernel_rfl) (by kernel_rfl) (fun _ _ _ h=>h) (Or.inl ⟨by rfl,fun _ _=>by go_simp⟩) hHeld ?_;simp only[List.getElem_toArray,List.getElem_cons_zero,List.getElem_cons_succ,Act.put,List.setIfInBounds_toArray,List.set_cons_zero,List.set_cons_succ];refine BS (i:=6) (v:= .bool (decide ((c:Int)<((j+k:Nat):Int)))) rfl (by kernel_rfl) (by kernel_rfl) (by kernel_rfl) (fun _ _ _ h=>h) (Or.inl ⟨by rfl,fun _ _=>by go_simp⟩) hHeld ?_;simp only[List.getElem_toArray,List.getElem_cons_zero,List.getElem_cons_succ,Act.put,List.setIfInBounds_toArray,List.set_cons_zero,List.set_cons_succ];refine wpAnyH_done (by kernel_rfl) ?_ _;have hd:=VQ (fY L k R j) c (j+k) (aa C6) (by rw[Of];omega);rw[hd];clear hd;have hb7:bZ w w7:=B0.trans ((hb6.trans (b7.mono (by have:=hb6.size;omega))).mono (by omega));have RJ:=ai hb7;clear hb7 hb6 QQ q6 q5 b7 hHeld;go_wp2;go_ret;exact⟨rfl,aa RJ⟩
section
open Rv
def Hu(R:tG)(k:Nat):Int:=if k=0 then-1 else R.getD (2*(k-1)) 0
structure yv(nx:Int)(R:tG)(i:Nat):Prop where
 sU:(sT (R.getD (2*i) 0) (nx-1)&&sT (R.getD (2*i+1) 0) 1000000)=true
 Kn:Hu R i<R.getD (2*i) 0
def vX(nx:Int)(L:tG)(i:Nat):Prop:=(sT (L.getD (4*i+2) 0) (nx-1)&&sT (L.getD (4*i+3) 0) 1000000)=true
structure za(nx:Int)(R:tG)(rn:Nat)(L:tG)(ln:Nat):Prop where
 ready:∀i,i<rn→yv nx R i
 sU:∀i,i<ln→vX nx L i
 apart:y_ (fY L ln R rn)=false
noncomputable def su(nx:Int)(R:tG)(rn:Nat)(L:tG)(ln:Nat):Bool:= @decide (za nx R rn L ln) (Classical.propDecidable _)
theorem Oh{nx:Int}{R:tG}{rn:Nat}{L:tG}{ln:Nat}(h:za nx R rn L ln):su nx R rn L ln=true:=by
 unfold su;exact @decide_eq_true _ (Classical.propDecidable _) h
theorem zc{nx:Int}{R:tG}{rn:Nat}{L:tG}{ln:Nat}(h:¬za nx R rn L ln):su nx R rn L ln=false:=by
 unfold su;exact @decide_eq_false _ (Classical.propDecidable _) h
theorem Oi{nx:Int}{R:tG}{rn:Nat}{L:tG}{ln:Nat}:su nx R rn L ln=true↔za nx R rn L ln:=by
 unfold su;exact @decide_eq_true_iff _ (Classical.propDecidable _)
theorem Hv(ep nx gv:Int)(ra la:tB)(rn rc ln lc:Nat)(R L:tG)(ws:tD)(w:tA)(hR:RowK .i64 w ra (2*rn) R)(hL:RowK .i64 w la (4*ln) L)(hs:rn+ln≤500)(Ks:0≤nx)(uG:nx≤1073741824):
  cA 191 #[iH ep nx gv (.slice ra rn rc) (.slice la ln lc) ws] w (rB (.bool (su nx R rn L ln)) w):=by
 refine en (H:=[]) _ [vg (qS ep nx gv (.slice ra rn rc) (.slice la ln lc) ws)] Tryz.func191 rfl rfl (m0 w) (r [] rfl fun α=> ?_);refine iD (X:=Nat) ⟨fun k=>[(1,vp 0 0 (α 0)),(3,vi (Hu R k)),(9,vv (.slice ra rn rc)),(10,vi (rn:Int)),(11,vi (k:Int))],fun _=>[⟨α 0,112,qS ep nx gv (.slice ra rn rc) (.slice la ln lc) ws⟩],fun _ _=>False,fun _ _=>True,fun _ w'=>bZ w w',fun k=>k≤rn∧∀i,i<k→yv nx R i,fun k=>rn-k⟩ 0 ⟨rfl,rfl,rfl,rfl,rfl,trivial⟩ (fun _ hS=>hS) ⟨Al _,fun p hp=>absurd hp (AF p)⟩ ?_;rintro f k ⟨hk,hi⟩;have hk:k≤rn:=hk;by_cases aN:k<rn
 case pos=>
  obtain⟨rb,ro,rfl⟩:=hR.form (by omega);have no:¬yv nx R k→su nx R rn L ln=false:=fun h=>zc fun h'=>h (h'.ready k aN);refine r [1] rfl fun _=>lf (q:=ro+k*2) rfl 2 (cy (mS R k)) (fun w hS=>ae2 (hR.below hS.now.2) (by omega)) (r [] rfl fun _=> ?_);cases h1:sT (R.getD (2*k) 0) (nx-1)&&sT (R.getD (2*k+1) 0) 1000000
  ·exact Rv.cb rfl (vv (.bool false)) (fun w _=>h1▸ni ep nx gv _ _ ws _ _ w Ks uG) (r [] rfl fun _=>fin fun w hS=>⟨by rw[no fun h=>by rw[h.sU]at h1;cases h1];rfl,hS.now.2⟩)
  refine Rv.cb rfl (vv (.bool true)) (fun w _=>h1▸ni ep nx gv _ _ ws _ _ w Ks uG) (r [] rfl fun _=> ?_);by_cases h3:R.getD (2*k) 0≤Hu R k
  ·exact r [1] rfl fun _=>fin fun w hS=>⟨by rw[no fun h=>absurd h.Kn (Int.not_lt.2 h3)];rfl,hS.now.2⟩
  refine rz [0,1] [((k+1:Nat):Int)] rfl fun _=>bJ (k+1) ⟨rfl,rfl,rfl,rfl,rfl,trivial⟩ (fun w hS=>hS.take 1) ⟨aN,upto hi ⟨h1,Int.not_le.1 h3⟩⟩ (show rn-(k+1)<rn-k by omega)
 obtain rfl:k=rn:=by omega
 refine r [0] rfl fun _=>iD (X:=Nat) ⟨fun j=>[(1,vp 0 0 (α 0)),(29,vv (.slice la ln lc)),(30,vi (ln:Int)),(31,vi (j:Int))],fun _=>[⟨α 0,112,qS ep nx gv (.slice ra k rc) (.slice la ln lc) ws⟩],fun _ _=>False,fun _ _=>True,fun _ w'=>bZ w w',fun j=>j≤ln∧∀i,i<j→vX nx L i,fun j=>ln-j⟩ 0 ⟨rfl,rfl,rfl,rfl,trivial⟩ (fun _ hS=>hS) ⟨Al _,fun p hp=>absurd hp (AF p)⟩ ?_;rintro f j ⟨hj,hc⟩;have hj:j≤ln:=hj;by_cases aN:j<ln
 case pos=>
  obtain⟨lb,lo,rfl⟩:=hL.form (by omega);refine r [1] rfl fun _=>lf (q:=lo+j*4) rfl 4 (cy (lS L j)) (fun w hS=>ab2 (hL.below hS.now.2) (by omega)) (r [] rfl fun _=> ?_);cases h1:sT (L.getD (4*j+2) 0) (nx-1)&&sT (L.getD (4*j+3) 0) 1000000
  ·exact Rv.cb rfl (vv (.bool false)) (fun w _=>h1▸ni ep nx gv _ _ ws _ _ w Ks uG) (r [] rfl fun _=>fin fun w hS=>⟨by rw[zc fun h'=>by have:=h'.sU j aN;unfold vX at this;rw[this]at h1;cases h1];rfl,hS.now.2⟩)
  refine Rv.cb rfl (vv (.bool true)) (fun w _=>h1▸ni ep nx gv _ _ ws _ _ w Ks uG) (rz [1] [((j+1:Nat):Int)] rfl fun _=>bJ (j+1) ⟨rfl,rfl,rfl,rfl,trivial⟩ (fun w hS=>hS.take 1) ⟨aN,upto hc h1⟩ (show ln-(j+1)<ln-j by omega))
 obtain rfl:j=ln:=by omega
 refine r [0] rfl fun _=> ?_;cases h1:y_ (fY L j R k)
 ·exact Rv.cb rfl (vv (.bool false)) (fun w hS=>h1▸Eu ep nx gv ra la k rc j lc R L ws w (hR.below hS.now.2) (hL.below hS.now.2) hs) (r [] rfl fun _=>fin fun w hS=>⟨by rw[Oh ⟨hi,hc,h1⟩];rfl,hS.now.2⟩)
 ·exact Rv.cb rfl (vv (.bool true)) (fun w hS=>h1▸Eu ep nx gv ra la k rc j lc R L ws w (hR.below hS.now.2) (hL.below hS.now.2) hs) (r [] rfl fun _=>fin fun w hS=>⟨by rw[zc fun h=>by rw[h.apart]at h1;cases h1];rfl,hS.now.2⟩)
def FN(ep nx gv:Int)(rn ln:Nat):Bool:=sT ep 1048576&&sT nx 1073741824&&sT gv 1073741824&&decide (rn+ln≤500)
structure MB(ep nx gv:Int)(rn ln:Nat):Prop where
 e0:0≤ep
 e1:ep≤1048576
 n0:0≤nx
 n1:nx≤1073741824
 g0:0≤gv
 g1:gv≤1073741824
 sz:rn+ln≤500
theorem zd{ep nx gv:Int}{rn ln:Nat}:FN ep nx gv rn ln=true↔MB ep nx gv rn ln:=by
 unfold FN;rw[AH,AH,AH,iv,iv,iv,decide_eq_true_eq];exact⟨fun⟨⟨⟨⟨a,b⟩,c,d⟩,e,f⟩,g⟩=>⟨a,b,c,d,e,f,g⟩,fun⟨a,b,c,d,e,f,g⟩=>⟨⟨⟨⟨a,b⟩,c,d⟩,e,f⟩,g⟩⟩
structure FO(ep nx gv:Int)(R:tG)(rn:Nat)(L:tG)(ln:Nat)(wt:tH)(wz:Nat→Nat→Bool):Prop where
 count:MB ep nx gv rn ln
 Hw:∀p,p<4→fO (wt p) (wz p)
 hold:za nx R rn L ln
 Hx:∀i,i<ln→nj ep gv L i
theorem Hy(ep nx gv:Int)(ra la:tB)(rn rc ln lc:Nat)(R L:tG)(ws:tD)(wt:tH)(wz:Nat→Nat→Bool)(w:tA)(hR:RowK .i64 w ra (2*rn) R)(hL:RowK .i64 w la (4*ln) L)(hW:gP ws wt wz)
  (hs:rn+ln≤9223372036854775807) (B1 B2 B3 B4:Bool) (h1:B1=FN ep nx gv rn ln) (h2:B1=true→B2=uF wt wz) (h3:B1=true→B3=su nx R rn L ln) (h4:B1=true→B4=nN ep gv L ln):
  cA 164 #[iH ep nx gv (.slice ra rn rc) (.slice la ln lc) ws] w (rB (iV (if B1&&B2&&B3&&B4 then 0 else 6)) w):=by
 refine en (H:=[]) _ [vg (qS ep nx gv (.slice ra rn rc) (.slice la ln lc) ws)] Tryz.func164 rfl rfl (m0 w) (r [] rfl fun _=> ?_);have ZB:=fun w=>FI ep nx gv ra la rn rc ln lc ws w hs;rw[show(sT ep 1048576&&sT nx 1073741824&&sT gv 1073741824&&decide (rn+ln≤500))=B1 from h1.symm]at ZB;cases B1
 ·exact Rv.cb rfl (vv (.bool false)) (fun w _=>ZB w) (r [] rfl fun _=>fin fun w hS=>⟨rfl,hS.now.2⟩)
 have ok:=zd.1 h1.symm;have ZC:=fun w=>xS ep nx gv (.slice ra rn rc) (.slice la ln lc) ws wt wz w hW;rw[←h2 rfl]at ZC;refine Rv.cb rfl (vv (.bool true)) (fun w _=>ZB w) (r [] rfl fun _=> ?_);cases B2
 ·exact Rv.cb rfl (vv (.bool false)) (fun w _=>ZC w) (r [] rfl fun _=>fin fun w hS=>⟨rfl,hS.now.2⟩)
 refine Rv.cb rfl (vv (.bool true)) (fun w _=>ZC w) (r [] rfl fun _=> ?_);have hh:=fun w1 (b:bZ w w1)=>Hv ep nx gv ra la rn rc ln lc R L ws w1 (hR.below b) (hL.below b) ok.sz ok.n0 ok.n1;rw[←h3 rfl]at hh;cases B3
 ·exact Rv.cb rfl (vv (.bool false)) (fun w hS=>hh w hS.now.2) (r [] rfl fun _=>fin fun w hS=>⟨rfl,hS.now.2⟩)
 refine Rv.cb rfl (vv (.bool true)) (fun w hS=>hh w hS.now.2) (r [] rfl fun _=> ?_);have hl:=fun w1 (b:bZ w w1)=>FJ ep nx gv (.slice ra rn rc) la ln lc L ws w1 ok.g0 ok.g1 (hL.below b) (by omega);rw[←h4 rfl]at hl;cases B4
 ·exact Rv.cb rfl (vv (.bool false)) (fun w hS=>hl w hS.now.2) (r [] rfl fun _=>fin fun w hS=>⟨rfl,hS.now.2⟩)
 ·exact Rv.cb rfl (vv (.bool true)) (fun w hS=>hl w hS.now.2) (r [] rfl fun _=>fin fun w hS=>⟨rfl,hS.now.2⟩)
theorem DD{ep nx gv:Int}{R:tG}{rn:Nat}{L:tG}{ln:Nat}{wt:tH}{wz:Nat→Nat→Bool}:
  (FN ep nx gv rn ln&&uF wt wz&&su nx R rn L ln&&nN ep gv L ln)=true↔FO ep nx gv R rn L ln wt wz:=by
 rw[AH,AH,AH,zd,Od,Oi,Kp];exact⟨fun⟨⟨⟨a,b⟩,c⟩,d⟩=>⟨a,b,c,d⟩,fun⟨a,b,c,d⟩=>⟨⟨⟨a,b⟩,c⟩,d⟩⟩
theorem ze(ep nx gv:Int)(ra la:tB)(rn rc ln lc:Nat)(R L:tG)(ws:tD)(wt:tH)(wz:Nat→Nat→Bool)(w:tA)(hR:RowK .i64 w ra (2*rn) R)(hL:RowK .i64 w la (4*ln) L)(hW:gP ws wt wz)(h:FO ep nx gv R rn L ln wt wz):
  cA 164 #[iH ep nx gv (.slice ra rn rc) (.slice la ln lc) ws] w (rB (iV 0) w):=by
 have:=Hy ep nx gv ra la rn rc ln lc R L ws wt wz w hR hL hW (by have:=h.count.sz;omega) _ _ _ _ rfl (fun _=>rfl) (fun _=>rfl) (fun _=>rfl);rwa [DD.2 h,Ae rfl]at this
end
end Go.Proofs.YtpgkjpomaffbmaaGreatDoor
