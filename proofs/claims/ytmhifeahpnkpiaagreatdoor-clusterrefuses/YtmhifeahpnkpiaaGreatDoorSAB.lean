/- Out of my texts: QuH, QuN, QuP, QuQ, QuR, WdC, WdD, WdE, QuT, QuV, QuU, QuW, QuM, QuX, QuY, PkC, QvA, QvD, RvL, QvB, QvC, HsA, QkB, QvE, QrA, RvP, MoL, MoB, MoC, QkC, QkG, QkD, PkO, QkE, HsB, HsC, HsD, HsE, QkH, BeA, BeB, MoA, MoD, MoE, GnC, MoF, MoG, MpA, MpB, BeC, BeD, BeE, BeF. -/
import Derived.Deep.CutRange
import Derived.Deep.DeepCutAuto
import Derived.Deep.QuietTactic
import Derived.Deep.RegionHeld3
import Derived.Deep.RegionLaw
import Derived.Deep.Slices
import Derived.Laws.CopyOwn
import Derived.OwnWalk
import Derived.Shelf.SlGeneric
import Derived.Shelf.SlSortCmp.NoneTotal
import Derived.Shelf.SlicesG.Cmp
import Derived.Shelf.SlicesQ.IndexFunc
import Derived.Shelf.Spec.SlicesGrow
import Derived.WideMake
import Derived.Test.YtmhifeahpnkpiaaGreatDoorProg
import Derived.Test.YtmhifeahpnkpiaaGreatDoorSAA
set_option maxRecDepth 20000
set_option maxHeartbeats 8000000
set_option linter.unusedVariables false
namespace Go.Proofs.YtmhifeahpnkpiaaGreatDoor
open Go.RowKit
theorem Tryz.K5:(Tryz.prog.info? 87).map (fun i=>(i.zero,i.size,i.bytes))=some (some (.agg #[iV 0,iV 0]),2,16):=by kernel_rfl
theorem Tryz.wA:(Tryz.prog.info? 232).map (fun i=>(i.zero,i.size,i.bytes))=some (some (.agg #[iV 0,iV 0,iV 0,iV 0]),4,32):=by kernel_rfl
theorem Tryz.K6:(Tryz.prog.info? 80).map (·.size)=some 41:=by kernel_rfl
theorem Xu{ws:tH}{wt:tK}{wz:Nat→Nat→Bool}(h:gR ws wt wz):∀v∈na ws,v.oneCell'=true:=by
 intro v hv;simp only[na,List.mem_map,List.mem_range]at hv;obtain⟨i,hi,rfl⟩:=hv;obtain⟨h0,h1⟩:=h (i/9) (by omega);rcases Nat.eq_zero_or_pos (i % 9)with he|he
 ·rw[show i=9*(i/9) by omega,h0];rfl
 ·rw[show i=9*(i/9)+1+(i % 9-1) by omega,h1 _ (by omega)];rfl
theorem Jp{ep nx gv:Int}{ra la:tG}{rn rc ln lc:Nat}{ws:tH}{wt:tK}{wz:Nat→Nat→Bool}(h:gR ws wt wz):(dU ep nx gv (.slice ra rn rc) (.slice la ln lc) ws).all (·.oneCell')=true:=by
 refine all_oneCell_toArray ?_;intro v hv;simp only[lz,List.mem_cons]at hv;rcases hv with rfl|rfl|rfl|rfl|rfl|hv
 ·rfl
 ·rfl
 ·rfl
 ·rfl
 ·rfl
 ·exact Xu h v hv
section
variable{w w':tF}{R:Nat}{ep nx gv:Int}{r l:tN}{ws:tH}
theorem aV.there(h:aV w R ep nx gv r l ws):w.there R 0 41:=fun j hj=>by
 refine⟨?_,h.free _⟩;rw[Nat.zero_add,h.at,Array.getElem?_eq_getElem (by rw[cV];exact hj)];rfl
theorem aV.stored(h:aV w R ep nx gv r l ws)(MX MY MZ:Int)(r' l':tN)(ws':tH):aV (w.setCells R 0 (dU MX MY MZ r' l' ws').toList) R MX MY MZ r' l' ws':=by
 obtain⟨Pp,h1,h2,h3⟩:=jG (R:=R) (dU MX MY MZ r' l' ws').toList 0 w _ _ h (by simp[cV]);unfold aV;rw[h1];have:Pp=dU MX MY MZ r' l' ws':=by
  apply Array.ext_getElem?;intro i;rw[h3];by_cases hi:i<41
  ·rw[if_pos ⟨by omega,by simp[cV];omega⟩];simp
  ·rw[if_neg (by simp[cV];omega),Array.getElem?_eq_none (by rw[cV];omega),Array.getElem?_eq_none (by rw[cV];omega)]
 rw[this]
theorem aV.ready(h:aV w R ep nx gv r l ws)(r':tN):aV (w.setCell ⟨R,3,none⟩ r') R ep nx gv r' l ws:=by
 have:=heap_set (o:=3) (v:=r') h;unfold aV;rw[this];rfl
theorem aV.zo(h:aV w R ep nx gv r l ws)(l':tN):aV (w.setCell ⟨R,4,none⟩ l') R ep nx gv r l' ws:=by
 have:=heap_set (o:=4) (v:=l') h;unfold aV;rw[this];rfl
theorem av.queue{R':Nat}(h:av R' w w')(q:aV w R ep nx gv r l ws)(hR:R≠R'):aV w' R ep nx gv r l ws:=by
 unfold aV at q⊢;rw[h.block R hR];exact q
theorem av.own{base e size n:Nat}{v:tN}{xs:tO}(h:av R w w')(o:w.ownsRow base e size v n xs)(hb:R<base):w'.ownsRow base e size v n xs:=by
 refine⟨o.1, ?_⟩;rcases o.2 with h2|⟨g,cap,cur,h1,h2,h3,h4⟩
 ·exact .inl h2
 ·exact .inr ⟨g,cap,cur,h1,h2,by rw[h.block g (by omega)];exact h3,h4⟩
theorem av.row{k:IntKind}{a:tG}{len:Nat}{l:tJ}(h:av R w w')(hr:RowK k w a len l)(fJ:∀x,a=some x→0<len→x.block≠R):RowK k w' a len l:=
 ⟨hr.cB,hr.wf,fun i hi=>by
  obtain⟨b,off,ha,aW,hc⟩:=hr.cell i hi
  exact⟨b,off,ha,by rw[h.size];exact aW,(World.cell?_of_block (w:=w) (h.block b (fJ _ ha (by omega)))).trans hc⟩⟩
theorem oZ{ops:tP}{rest:List Oper}{o:Oper}{a:Act}{Q:tL}{ra la:tG}{rn rc ln lc:Nat}{ws':tH}{MX MY MZ:Int}{wt:tK}{wz:Nat→Nat→Bool}(x y:tT)(ho:o.op= .store 80 x y)(hw:Region.wanted o (yielded ops a.tmps)=true)(hx:a.eval x= .pointer (some ⟨R,0,none⟩))(hy:a.eval y=iI MX MY MZ (.slice ra rn rc) (.slice la ln lc) ws')
  (qb:aV w R ep nx gv r l ws) (hW:gR ws' wt wz)
  (h:∀w',aV w' R MX MY MZ (.slice ra rn rc) (.slice la ln lc) ws'→av R w w'→wpList Tryz.prog ops Q rest (a.put o.dst undef) w'):wpList Tryz.prog ops Q (o::rest) a w:=
 wpList_step fun K hK=>by
  rw[if_pos hw];exact wp_store_mid 80 x y ho R 0 _ hx hy (by rw[cV];exact qb.there) (by rw[cV];exact Tryz.K6) (Jp hW) (hK _ _ (h _ (qb.stored _ _ _ _ _ _) (av.uC R _ 0 w)))
theorem RowK.jF{base e size n:Nat}{v:tN}{xs:tJ}(h:w.ownsRow base e size v n (xs.map (Value.int .i64)))(hw:∀u∈xs,(Lit.int .i64 u).wf=true):
  ∃a cap,v= .slice a n cap∧RowK .i64 w a (size*n) xs∧n≤cap∧cap≤maxLen∧(a=none→cap=0)∧(∀x,a=some x→base≤x.block):=by
 have hl:xs.length=size*n:=by have:=h.1;rw[Nat.mul_comm];simpa using this
 rcases h.2 with⟨rfl,rfl⟩|⟨g,cap,cur,rfl,hb,hg,hc,hm,hs,ht⟩
 ·have:xs=[]:=List.length_eq_zero_iff.1 (by simpa using hl);subst this;exact⟨none,0,rfl,RowK.nil _ _ _,Nat.le_refl _,by unfold maxLen;omega,fun _=>rfl,fun x hx=>by cases hx⟩
 ·refine⟨some ⟨g,0,none⟩,cap,rfl,⟨hl,hw,fun i hi=> ?_⟩,hc,hm,by simp,fun x hx=>by simp at hx;subst hx;exact hb⟩;have hci:=h.cellAt i (by rw[Nat.mul_comm];exact hi);have I_:=(h.lt g rfl).2;refine⟨g,0,rfl,I_, ?_⟩;rw[Nat.zero_add,hci,List.getElem?_map,List.getElem?_eq_getElem (by omega)];simp[List.getElem?_eq_getElem (show i<xs.length by omega)]
theorem jj{base e e' size abb n n':Nat}{v v':tN}{xs xs':tO}(h:w.ownsRow base e size v n xs)(h':w.ownsRow base e' abb v' n' xs')(he:e≠e'):∀g,v.ownBlock=some g→v'.ownBlock≠some g:=by
 intro g hg Us;rcases h.2 with⟨rfl,_⟩|⟨g1,cap,cur,rfl,_,h3,_⟩
 ·cases hg
 ·rcases h'.2 with⟨rfl,_⟩|⟨g2,bg,cur',rfl,_,h4,_⟩
  ·cases Us
  ·simp only[Value.ownBlock,Option.some.injEq]at hg Us;subst hg;rw[Us]at h4;rw[h3]at h4;simp only[Option.some.injEq,Obj.cells.injEq]at h4;exact he h4.2.1
theorem aK{base e size n:Nat}{v:tN}{xs:tO}(h:w.ownsRow base e size v n xs)(hb:∀g,v.ownBlock=some g→g<w.heap.size→w'.heap[g]? =w.heap[g]?):w'.ownsRow base e size v n xs:=by
 refine⟨h.1, ?_⟩;rcases h.2 with h2|⟨g,cap,cur,rfl,h2,h3,h4⟩
 ·exact .inl h2
 ·exact .inr ⟨g,cap,cur,rfl,h2,by rw[hb g rfl (h.lt g rfl).2];exact h3,h4⟩
theorem iN{base e size n:Nat}{v:tN}{xs:tO}(h:w.ownsRow base e size v n xs):∃a cap,v= .slice a n cap:=by
 rcases h.2 with⟨rfl,rfl⟩|⟨g,cap,cur,rfl,_⟩
 ·exact⟨_,_,rfl⟩
 ·exact⟨_,_,rfl⟩
theorem rD{base Xv e size n:Nat}{v:tN}{xs:tO}(h:w.ownsRow base e size v n xs)(hb:Xv≤base):w.ownsRow Xv e size v n xs:=by
 refine⟨h.1, ?_⟩;rcases h.2 with h2|⟨g,cap,cur,h1,h2,h3⟩
 ·exact .inl h2
 ·exact .inr ⟨g,cap,cur,h1,by omega,h3⟩
theorem rE{base e size n:Nat}{v:tN}{xs:tO}{row:Option Nat}(h:w.ownsRow base e size v n xs)(hg:w.grownBy w' row)(fJ:∀g,v.ownBlock=some g→row≠some g):w'.ownsRow base e size v n xs:=by
 refine⟨h.1, ?_⟩;rcases h.2 with h2|⟨g,cap,cur,rfl,h2,h3,h4⟩
 ·exact .inl h2
 ·have hl:g<w.heap.size:=(h.lt g rfl).2;exact .inr ⟨g,cap,cur,rfl,h2,by rw[hg.block g hl (fun e=>fJ g rfl e.symm)];exact h3,h4⟩
theorem nP{P:tW}{ops:tP}{o:Oper}{a:Act}{w:tF}{K:Act→World→Prop}{Q:tL}{E:Prop}(MF:o.guard=none)(s x:tT)(t:tY)
  (ho:o.op= .call {callee:= .builtin .append,args:= #[s,x],argTypes:= #[t,t]})
  (base:Nat) (e:tY) (i:TypeInfo) (z:tN) (size bytes:Nat) (ht:P.underlying t=some (.slice e)) (hi:P.info? e=some i) (hz:i.zero=some z)
  (FC:i.size=size) (Iq:i.bytes=bytes) (KO:z.cells.size=size) (lq:0<size)
  (v:tN) (n:Nat) (xs:tJ) (hs:a.eval s=v) (bN:w.ownsRow base e size v n (xs.map (Value.int .i64)))
  (ad:Addr) (m c:Nat) (l:tJ) (hx:a.eval x= .slice (some ad) m c) (hl:l.length=m*size) (xv:∀j u,(l.map (Value.int .i64))[j]? =some u→w.cell? (ad.add j)=some u)
  (UO:n+m≤maxLen) (yR:(n+m)*bytes≤140737488355328) (dS:base≤w.heap.size)
  (h:∀v' w',w'.ownsRow base e size v' (n+m) ((xs++l).map (Value.int .i64))→w.grownBy w' v.ownBlock→K (a.put o.dst v') w'):
  if Region.wanted o (yielded ops a.tmps)=true then Oper.wp P o a w K Q else E:=by
 have hw:Region.wanted o (yielded ops a.tmps)=true:=by simp[Region.wanted,MF]
 rw[if_pos hw];exact wp_append_own w s x t ho base e i z size bytes ht hi hz FC Iq KO lq v n _ hs bN ad m c (l.map (Value.int .i64)) hx (by simpa using hl) xv (ints_oneCell _ _) UO yR dS (fun v' w' h1 h2 _=>h v' w' (by rw[List.map_append];exact h1) h2)
end
theorem abf(w:tF)(x0 x1:Int)(t:tY):∀j u,([x0,x1].map (Value.int .i64))[j]? =some u→(w.alloc (.cells #[iV x0,iV x1] t)).drew.cell? ((⟨w.heap.size,0,none⟩:Addr).add j)=some u:=by
 intro j u hj;rw[Addr.add_mid]
 match j,hj with
 |0,hj=>simp at hj;subst hj;simp
 |1,hj=>simp at hj;subst hj;simp
 |n+2,hj=>simp at hj
theorem abh(w:tF)(x0 x1 x2 x3:Int)(t:tY):∀j u,([x0,x1,x2,x3].map (Value.int .i64))[j]? =some u→(w.alloc (.cells #[iV x0,iV x1,iV x2,iV x3] t)).drew.cell? ((⟨w.heap.size,0,none⟩:Addr).add j)=some u:=by
 intro j u hj;rw[Addr.add_mid]
 match j,hj with
 |0,hj=>simp at hj;subst hj;simp
 |1,hj=>simp at hj;subst hj;simp
 |2,hj=>simp at hj;subst hj;simp
 |3,hj=>simp at hj;subst hj;simp
 |n+4,hj=>simp at hj
abbrev D7:Array Value:= #[iV 0,iV 0,iV 0,.slice none 0 0,.slice none 0 0,iV 0,.bool false,.bool false,.bool false,.bool false,.bool false,.bool false,.bool false,.bool false,iV 0,.bool false,.bool false,.bool false,.bool false,.bool false,.bool false,.bool false,.bool false,iV 0,.bool false,.bool false,.bool false,.bool false,.bool false,.bool false,.bool false,.bool false,iV 0,.bool false,.bool false,.bool false,.bool false,.bool false,.bool false,.bool false,.bool false]
def eT(i:Nat):Value:=if i % 9=0 then iV 0 else .bool false
theorem abi:D7=dU 0 0 0 (.slice none 0 0) (.slice none 0 0) eT:=rfl
theorem jK:gR eT (fun _=>0) (fun _ _=>false):=fun p _=>⟨by unfold eT;rw[if_pos (by omega)],fun j hj=>by unfold eT;rw[if_neg (by omega)]⟩
theorem Vb(w:tF):aV (w.alloc (.cells D7 80)) w.heap.size 0 0 0 (.slice none 0 0) (.slice none 0 0) eT:=by
 rw[abi];exact aV.new w _ _ _ _ _ _
theorem Vc{w W:tF}(h:W=w.alloc (.cells D7 80)):aV W w.heap.size 0 0 0 (.slice none 0 0) (.slice none 0 0) eT∧bZ w W:=by
 subst h;exact⟨Vb w,aB _ _⟩
theorem uS{ops:tP}{rest:List Oper}{o:Oper}{a:Act}{Q:tL}{w:tF}(d:Nat)(ho:o.op= .alloc 80)(hd:o.dst=some d)(hw:Region.wanted o (yielded ops a.tmps)=true)
  (h:∀w',aV w' w.heap.size 0 0 0 (.slice none 0 0) (.slice none 0 0) eT→bZ w w'→wpList Tryz.prog ops Q rest (a.put (some d) (.pointer (some ⟨w.heap.size,0,none⟩))) w'):wpList Tryz.prog ops Q (o::rest) a w:=
 wpList_step fun K hK=>by
  rw[if_pos hw];obtain⟨z1,z2⟩:=Vc (w:=w) rfl;have:=hK _ _ (h _ z1 z2);rw[←hd]at this;unfold Oper.wp;simp only[execOp,ho];simpa[go_sem]using this
theorem abj{ops:tP}{rest:List Oper}{o:Oper}{a:Act}{Q:tL}{w:tF}{ep nx gv:Int}{r l:tN}{ws:tH}(d:Nat)(x:tT)(ho:o.op= .box 80 x)(hd:o.dst=some d)(hw:Region.wanted o (yielded ops a.tmps)=true)(hx:a.eval x=iI ep nx gv r l ws)
  (h:∀w',aV w' w.heap.size ep nx gv r l ws→bZ w w'→wpList Tryz.prog ops Q rest (a.put (some d) (.pointer (some ⟨w.heap.size,0,none⟩))) w'):wpList Tryz.prog ops Q (o::rest) a w:=
 wpList_step fun K hK=>by
  rw[if_pos hw];have:=hK _ _ (h _ (aV.new w ep nx gv r l ws) (aB _ _));rw[←hd]at this;unfold Oper.wp;simp only[execOp,ho,hx];simpa[go_sem]using this
theorem Jq{w:tF}{B clock:Nat}{es:Array MapEntry}{z:Int}{v:tN}(hb:w.heap[B]? =some (.map es clock))(hf:Instr.findNow (.int .i64) (iV z) es.toList 0=some none):
  (Instr.mapUpdate 144 (.map (some B)) (iV z) v).run Tryz.prog w= .ok () {w with heap:=w.heap.setIfInBounds B (.map (es.push ⟨iV z,v,clock⟩) (clock+1))}:=by
 have hc:(Instr.checkKey false 10000 3 (iV z)).run Tryz.prog w= .ok () w:=MapKept.run_checkKey (k:=iV z) Tryz.underlying3 (by simp[MapKept.IsKey]) false 9999;simp[Instr.mapUpdate,run_underlying Tryz.underlying144,MapKept.run_getObj_map hb,hc,MapKept.run_findKey Tryz.underlying3 hf,MapKept.run_setObj_map _ hb,Result.andThen]
theorem uT{ops:tP}{rest:List Oper}{o:Oper}{a:Act}{Q:tL}{w:tF}{B clock:Nat}{es:Array MapEntry}{z:Int}{v:tN}(m k x:tT)(ho:o.op= .insert 144 m k x)(hw:Region.wanted o (yielded ops a.tmps)=true)
  (hm:a.eval m= .map (some B)) (hk:a.eval k=iV z) (hx:a.eval x=v) (hb:w.heap[B]? =some (.map es clock)) (hf:Instr.findNow (.int .i64) (iV z) es.toList 0=some none)
  (h:∀w',w'.heap[B]? =some (.map (es.push ⟨iV z,v,clock⟩) (clock+1))→av B w w'→wpList Tryz.prog ops Q rest (a.put o.dst undef) w'):wpList Tryz.prog ops Q (o::rest) a w:=
 wpList_step fun K hK=>by
  rw[if_pos hw];have sD:=Jq (v:=v) hb hf;have hs:=MapKept.heap_set (o':= .map (es.push ⟨iV z,v,clock⟩) (clock+1)) hb;have:=hK _ _ (h {w with heap:=w.heap.setIfInBounds B (.map (es.push ⟨iV z,v,clock⟩) (clock+1))} hs.1 ⟨rfl,rfl,rfl,by simp,fun r hr=>hs.2 r hr⟩);unfold Oper.wp;simp only[execOp,ho,hm,hk,hx];simp[sD,Result.andThen];exact this
theorem YN{ops:tP}{rest:List Oper}{o:Oper}{a:Act}{Q:tL}{w:tF}(ho:o.op= .makeMap 144 none)(hw:Region.wanted o (yielded ops a.tmps)=true)
  (h:∀w',w'.heap[w.heap.size]? =some (.map #[] 0)→bZ w w'→wpList Tryz.prog ops Q rest (a.put o.dst (.map (some w.heap.size))) w'):wpList Tryz.prog ops Q (o::rest) a w:=
 wpList_step fun K hK=>by
  rw[if_pos hw];have:=hK _ _ (h _ (heap_alloc_new w _) (aB _ _));unfold Oper.wp;simp only[execOp,ho];simp[run_makeMap_plain,Result.andThen];exact this
def uU:Obj:= .map #[⟨iV 1,.func (.func 103) #[] #[],0⟩,⟨iV 2,.func (.func 104) #[] #[],1⟩,⟨iV 3,.func (.func 105) #[] #[],2⟩,⟨iV 4,.func (.func 106) #[] #[],3⟩] 4
theorem Ge(w:tF):
  cA 61 #[] w fun e w'=>e= .returned (.map (some w.heap.size))∧w'.heap[w.heap.size]? =some uU∧bZ w w':=by
 go_enter Tryz.func61,Tryz.ntmps61
 go_wp2_with (first
  |(refine YN rfl rfl ?_;intro W1 m1 b1;have k1:=ai b1;clear b1)
  |(refine uT (es:= #[]) _ _ _ rfl rfl rfl rfl rfl m1 rfl ?_;intro W2 m2 t2;have k2:=ai (t2.under (aa k1) (Nat.le_refl _));clear t2 m1)
  |(refine uT (clock:=1) _ _ _ rfl rfl rfl rfl rfl m2 rfl ?_;intro W3 m3 t3;have k3:=ai (t3.under (aa k2) (Nat.le_refl _));clear t3 m2)
  |(refine uT (clock:=2) _ _ _ rfl rfl rfl rfl rfl m3 rfl ?_;intro W4 m4 t4;have k4:=ai (t4.under (aa k3) (Nat.le_refl _));clear t4 m3)
  |(refine uT (clock:=3) _ _ _ rfl rfl rfl rfl rfl m4 rfl ?_;intro W5 m5 t5;have k5:=ai (t5.under (aa k4) (Nat.le_refl _));clear t5 m4;have M5:=ai m5;clear m5))
 go_ret;exact⟨rfl,aa M5,aa k5⟩
def methodOf(k:Int):Nat:=if k=1 then 103 else if k=2 then 104 else if k=3 then 105 else 106
theorem Jr{w:tF}{B:Nat}(h:w.heap[B]? =some uU):∀k:Int,(k=1∨k=2∨k=3∨k=4)→
  (Instr.lookup 144 (.map (some B)) (iV k) false).run Tryz.prog w= .ok (.func (.func (methodOf k)) #[] #[]) w:=by
 intro k hk;have hc:(Instr.checkKey false 10000 3 (iV k)).run Tryz.prog w= .ok () w:=MapKept.run_checkKey (k:=iV k) Tryz.underlying3 (by simp[MapKept.IsKey]) false 9999;unfold uU at h;rcases hk with rfl|rfl|rfl|rfl
 ·have hf:Instr.findNow (.int .i64) (iV 1) [(⟨iV 1,.func (.func 103) #[] #[],0⟩:tZ),⟨iV 2,.func (.func 104) #[] #[],1⟩,⟨iV 3,.func (.func 105) #[] #[],2⟩,⟨iV 4,.func (.func 106) #[] #[],3⟩] 0=some (some (0,.func (.func 103) #[] #[])):=rfl;simp[Instr.lookup,run_underlying Tryz.underlying144,MapKept.run_getObj_map h,hc,MapKept.run_findKey Tryz.underlying3 hf,Result.andThen,methodOf]
 ·have hf:Instr.findNow (.int .i64) (iV 2) [(⟨iV 1,.func (.func 103) #[] #[],0⟩:tZ),⟨iV 2,.func (.func 104) #[] #[],1⟩,⟨iV 3,.func (.func 105) #[] #[],2⟩,⟨iV 4,.func (.func 106) #[] #[],3⟩] 0=some (some (1,.func (.func 104) #[] #[])):=rfl;simp[Instr.lookup,run_underlying Tryz.underlying144,MapKept.run_getObj_map h,hc,MapKept.run_findKey Tryz.underlying3 hf,Result.andThen,methodOf]
 ·have hf:Instr.findNow (.int .i64) (iV 3) [(⟨iV 1,.func (.func 103) #[] #[],0⟩:tZ),⟨iV 2,.func (.func 104) #[] #[],1⟩,⟨iV 3,.func (.func 105) #[] #[],2⟩,⟨iV 4,.func (.func 106) #[] #[],3⟩] 0=some (some (2,.func (.func 105) #[] #[])):=rfl;simp[Instr.lookup,run_underlying Tryz.underlying144,MapKept.run_getObj_map h,hc,MapKept.run_findKey Tryz.underlying3 hf,Result.andThen,methodOf]
 ·have hf:Instr.findNow (.int .i64) (iV 4) [(⟨iV 1,.func (.func 103) #[] #[],0⟩:tZ),⟨iV 2,.func (.func 104) #[] #[],1⟩,⟨iV 3,.func (.func 105) #[] #[],2⟩,⟨iV 4,.func (.func 106) #[] #[],3⟩] 0=some (some (3,.func (.func 106) #[] #[])):=rfl;simp[Instr.lookup,run_underlying Tryz.underlying144,MapKept.run_getObj_map h,hc,MapKept.run_findKey Tryz.underlying3 hf,Result.andThen,methodOf]
abbrev il(c he no bd:Int):Value:= .agg #[iV c,iV he,iV no,iV bd]
def aS(w:tF)(R:Nat)(c he no bd:Int):Prop:=w.heap[R]? =some (.cells #[iV c,iV he,iV no,iV bd] 59 (0,0))
theorem aS.cells{w:tF}{R:Nat}{c he no bd:Int}(h:aS w R c he no bd):w.cell? ⟨R,0,none⟩=some (iV c)∧w.cell? ⟨R,1,none⟩=some (iV he)∧w.cell? ⟨R,2,none⟩=some (iV no)∧w.cell? ⟨R,3,none⟩=some (iV bd):=by
 unfold aS at h;simp[World.cell?,h]
theorem aS.free{w:tF}{R:Nat}{c he no bd:Int}(h:aS w R c he no bd)(o:Nat):w.frozen? ⟨R,o,none⟩=false:=by
 unfold aS at h;simp[World.frozen?,h]
theorem aS.lt{w:tF}{R:Nat}{c he no bd:Int}(h:aS w R c he no bd):R<w.heap.size:=by
 unfold aS at h;rcases Nat.lt_or_ge R w.heap.size with h'|h'
 ·exact h'
 ·simp[Array.getElem?_eq_none h']at h
theorem aS.below{w w':tF}{R B:Nat}{c he no bd:Int}(h:aS w R c he no bd)(hb:Below B w w')(hR:R<B):aS w' R c he no bd:=by
 unfold aS at h⊢;rw[←h];exact hb.block R hR
theorem aS.next{w w':tF}{R:Nat}{c he no bd:Int}(h:aS w R c he no bd)(hb:bZ w w'):aS w' R c he no bd:=h.below hb h.lt
theorem aS.new(w:tF)(c he no bd:Int):aS (w.alloc (.cells #[iV c,iV he,iV no,iV bd] 59)) w.heap.size c he no bd:=heap_alloc_new w _
theorem aS.dG{w w':tF}{R R':Nat}{c he no bd:Int}(h:aS w R c he no bd)(t:av R' w w')(hR:R≠R'):aS w' R c he no bd:=by
 unfold aS at h⊢;rw[t.block R hR];exact h
abbrev zp(w:tF)(R:Nat)(c he no bd:Int):World:=(((w.setCell ⟨R,0,none⟩ (iV c)).setCell ⟨R,1,none⟩ (iV he)).setCell ⟨R,2,none⟩ (iV no)).setCell ⟨R,3,none⟩ (iV bd)
theorem aS.store{w:tF}{R:Nat}{c he no bd:Int}(h:aS w R c he no bd)(c' KX no' bd':Int):aS (zp w R c' KX no' bd') R c' KX no' bd':=by
 unfold aS at h⊢;rw[zp,heap_set (heap_set (heap_set (heap_set h)))];simp
theorem gC(w:tF)(R:Nat)(c he no bd:Int):av R w (zp w R c he no bd):=
 (((av.set R 0 w _).trans (av.set R 1 _ _)).trans (av.set R 2 _ _)).trans (av.set R 3 _ _)
theorem A_{W:tF}{R:Nat}{c he no bd:Int}{b:Bool}{tmps:tR}(h:aS W R c he no bd)(t:tmps[2]? =some (.pointer (some ⟨R,0,none⟩)))(tb:tmps[3]? =some (.bool b)):
  (results Tryz.f155 tmps).run Tryz.prog W= .ok (.tuple #[il c he no bd,.bool b]) W:=by
 obtain⟨k0,k1,k2,k3⟩:=h.cells;simp[results,Tryz.results155,go_sem,k0,k1,k2,k3,t,tb]
theorem dJ(c:Int)(w:tF):
  cA 155 #[iV c] w (rB (.tuple #[il c 0 0 0,.bool false]) w):=by
 go_enter Tryz.func155,Tryz.ntmps155;go_wp2;exact bodyPost_ret (A_ (aS.new w _ _ _ _) rfl rfl) rfl ⟨rfl,aB _ _⟩
theorem Gf:∀(l:tO) (k:Nat) (Z:tR),k+l.length≤Z.size→(List.foldl (fun(cs:tR) (x:Value×Nat)=>cs.setIfInBounds x.snd x.fst) Z (l.zipIdx k)).size=Z.size∧
  ∀i,(List.foldl (fun(cs:tR) (x:Value×Nat)=>cs.setIfInBounds x.snd x.fst) Z (l.zipIdx k))[i]? =if k≤i∧i<k+l.length then l[i-k]? else Z[i]?
 |[],k,Z,_=>⟨rfl,fun i=>by rw[if_neg (by simp)];rfl⟩
 |v::l,k,Z,h=>by
  simp only[List.length_cons]at h;obtain⟨h1,h2⟩:=Gf l (k+1) (Z.setIfInBounds k v) (by simp;omega);simp only[List.zipIdx_cons,List.foldl_cons];refine⟨by simpa using h1,fun i=> ?_⟩;rw[h2];by_cases ha:k+1≤i∧i<k+1+l.length
  ·rw[if_pos ha,if_pos ⟨by omega,by simp;omega⟩,show i-k=(i-(k+1))+1 by omega];rfl
  ·rw[if_neg ha];by_cases hi:i=k
   ·subst hi;rw[if_pos ⟨by omega,by simp⟩];simp[show i<Z.size by omega]
   ·rw[if_neg (by simp;omega)];simp[show ¬k=i by omega]
theorem Js(l:tO)(Z:tR)(h:l.length=Z.size):List.foldl (fun(cs:tR) (x:Value×Nat)=>cs.setIfInBounds x.snd x.fst) Z (l.zipIdx 0)=l.toArray:=by
 obtain⟨h1,h2⟩:=Gf l 0 Z (by omega);apply Array.ext_getElem?;intro i;rw[h2];by_cases hi:i<l.length
 ·rw[if_pos ⟨by omega,by omega⟩];simp
 ·rw[if_neg (by omega),Array.getElem?_eq_none (by omega),Array.getElem?_eq_none (by simp;omega)]
theorem QN(ep nx gv:Int)(r l:tN)(ws:tH)(w:tF):(Instr.build 148 #[(0,iI ep nx gv r l ws)]).run Tryz.prog w= .ok (iI ep nx gv r l ws) w:=by
 have hC:=cV ep nx gv r l ws;have hl:(lz ep nx gv r l ws).length=41:=by simp[lz,na]
 simp[Instr.build,run_underlying Tryz.underlying148,Tryz.zeroValue148,go_sem,hC];have e:(dU ep nx gv r l ws).zipIdx=((lz ep nx gv r l ws).zipIdx 0).toArray:=by simp[dU]
 have hz:((lz ep nx gv r l ws).zipIdx 0).toArray.size=41:=by simp[hl]
 rw[e];generalize hA:((lz ep nx gv r l ws).zipIdx 0).toArray=A at hz;rw[←hz,←Array.foldl_toList,←hA];exact Js _ _ (by rw[hl];rfl)
def bj(w:tF)(R:Nat)(ep nx gv:Int)(r l:tN)(ws:tH):Prop:=w.heap[R]? =some (.cells (dU ep nx gv r l ws) 148 (0,0))
section
variable{w w':tF}{R B:Nat}{ep nx gv:Int}{r l:tN}{ws:tH}
theorem bj.lt(h:bj w R ep nx gv r l ws):R<w.heap.size:=by
 unfold bj at h;rcases Nat.lt_or_ge R w.heap.size with h'|h'
 ·exact h'
 ·simp[Array.getElem?_eq_none h']at h
theorem bj.below(h:bj w R ep nx gv r l ws)(hb:Below B w w')(hR:R<B):bj w' R ep nx gv r l ws:=by
 unfold bj at h⊢;rw[←h];exact hb.block R hR
theorem bj.next(h:bj w R ep nx gv r l ws)(hb:bZ w w'):bj w' R ep nx gv r l ws:=h.below hb h.lt
theorem bj.new(w:tF)(ep nx gv:Int)(r l:tN)(ws:tH):bj (w.alloc (.cells (dU ep nx gv r l ws) 148)) w.heap.size ep nx gv r l ws:=heap_alloc_new w _
theorem bj.free(h:bj w R ep nx gv r l ws)(o:Nat):w.frozen? ⟨R,o,none⟩=false:=by
 unfold bj at h;simp[World.frozen?,h]
theorem bj.at(h:bj w R ep nx gv r l ws)(i:Nat):w.cell? ⟨R,i,none⟩=(dU ep nx gv r l ws)[i]? :=by
 unfold bj at h;simp[World.cell?,h]
theorem bj.heads(h:bj w R ep nx gv r l ws):
  w.cell? ⟨R,0,none⟩=some (iV ep)∧w.cell? ⟨R,1,none⟩=some (iV nx)∧w.cell? ⟨R,2,none⟩=some (iV gv)∧w.cell? ⟨R,3,none⟩=some r∧w.cell? ⟨R,4,none⟩=some l:=by
 obtain⟨h0,h1,h2,h3,h4⟩:=oX ep nx gv r l ws;exact⟨(h.at 0).trans h0,(h.at 1).trans h1,(h.at 2).trans h2,(h.at 3).trans h3,(h.at 4).trans h4⟩
theorem bj.dG{R':Nat}(h:bj w R ep nx gv r l ws)(t:av R' w w')(hR:R≠R'):bj w' R ep nx gv r l ws:=by
 unfold bj at h⊢;rw[t.block R hR];exact h
theorem bj.K0(h:bj w R ep nx gv r l ws)(x:Int):bj (w.setCell ⟨R,0,none⟩ (iV x)) R x nx gv r l ws:=by
 have:=heap_set (o:=0) (v:=iV x) h;unfold bj;rw[this];rfl
theorem bj.given(h:bj w R ep nx gv r l ws)(x:Int):bj (w.setCell ⟨R,2,none⟩ (iV x)) R ep nx x r l ws:=by
 have:=heap_set (o:=2) (v:=iV x) h;unfold bj;rw[this];rfl
theorem bj.ready(h:bj w R ep nx gv r l ws)(r':tN):bj (w.setCell ⟨R,3,none⟩ r') R ep nx gv r' l ws:=by
 have:=heap_set (o:=3) (v:=r') h;unfold bj;rw[this];rfl
theorem bj.zo(h:bj w R ep nx gv r l ws)(l':tN):bj (w.setCell ⟨R,4,none⟩ l') R ep nx gv r l' ws:=by
 have:=heap_set (o:=4) (v:=l') h;unfold bj;rw[this];rfl
theorem Vd{ops:tP}{rest:List Oper}{o:Oper}{a:Act}{Q:tL}(x:tT)(ho:o.op= .build 148 #[(0,x)])(hw:Region.wanted o (yielded ops a.tmps)=true)(hx:a.eval x=iI ep nx gv r l ws)
  (h:wpList Tryz.prog ops Q rest (a.put o.dst (iI ep nx gv r l ws)) w):wpList Tryz.prog ops Q (o::rest) a w:=
 wpList_step fun K hK=>by
  rw[if_pos hw];have sD:=QN ep nx gv r l ws w;have:=hK _ _ h;unfold Oper.wp;simp only[execOp,ho];simp only[List.map_toArray,List.map_cons,List.map_nil,hx];simp[sD,Result.andThen];exact this
theorem abk{ops:tP}{rest:List Oper}{o:Oper}{a:Act}{Q:tL}(x:tT)(ho:o.op= .box 148 x)(hw:Region.wanted o (yielded ops a.tmps)=true)(hx:a.eval x=iI ep nx gv r l ws)
  (h:∀w',bj w' w.heap.size ep nx gv r l ws→bZ w w'→wpList Tryz.prog ops Q rest (a.put o.dst (.pointer (some ⟨w.heap.size,0,none⟩))) w'):wpList Tryz.prog ops Q (o::rest) a w:=
 wpList_step fun K hK=>by
  rw[if_pos hw];have:=hK _ _ (h _ (bj.new w ep nx gv r l ws) (aB _ _));unfold Oper.wp;simp only[execOp,ho,hx];simpa[go_sem]using this
end
theorem cI{P:tW}{w:tF}{ops:tP}{rest:List Oper}{o:Oper}{a:Act}{Q:tL}(MF:o.guard=none)(s x:tT)(t:tY)
  (ho:o.op= .call {callee:= .builtin .append,args:= #[s,x],argTypes:= #[t,t]})
  (base:Nat) (e:tY) (i:TypeInfo) (z:tN) (size bytes:Nat) (ht:P.underlying t=some (.slice e)) (hi:P.info? e=some i) (hz:i.zero=some z)
  (FC:i.size=size) (Iq:i.bytes=bytes) (KO:z.cells.size=size) (lq:0<size)
  (v:tN) (n:Nat) (xs:tJ) (hs:a.eval s=v) (bN:w.ownsRow base e size v n (xs.map (Value.int .i64)))
  (ad:tG) (m c:Nat) (l:tJ) (hx:a.eval x= .slice ad m c) (hr:RowK .i64 w ad (size*m) l) (rN:ad=none→c=0)
  (UO:n+m≤maxLen) (yR:(n+m)*bytes≤140737488355328) (dS:base≤w.heap.size)
  (h:∀v' w',w'.ownsRow base e size v' (n+m) ((xs++l).map (Value.int .i64))→w.grownBy w' v.ownBlock→wpList P ops Q rest (a.put o.dst v') w'):wpList P ops Q (o::rest) a w:=by
 cases ad with
 |none=>
  have hm:m=0:=by
   by_cases h0:0<size*m
   ·obtain⟨_,_,h',_⟩:=hr.cell 0 h0;cases h'
   ·rcases Nat.eq_zero_or_pos m with hm|hm
    ·exact hm
    ·exact absurd (Nat.mul_pos lq hm) h0
  subst hm;have hl:l=[]:=List.length_eq_zero_iff.1 (by simpa using hr.cB);subst hl;refine wpList_append_own_none MF s x t ho base e i size ht hi v n _ hs bN (by rw[hx,rN rfl]) ?_;exact h v w (by simpa using bN) (World.grownBy.refl _ _)
 |some x0=>
  refine wpList_append_own w MF s x t ho base e i z size bytes ht hi hz FC Iq KO lq v n _ hs bN x0 m c (l.map (Value.int .i64)) hx (by rw[List.length_map,hr.cB,Nat.mul_comm]) ?_ (ints_oneCell _ _) UO yR dS ?_
  ·intro j u hj;have Yg:j<l.length:=by
    rcases Nat.lt_or_ge j l.length with h'|h'
    ·exact h'
    ·simp[List.getElem?_eq_none h']at hj
   obtain⟨b,off,hb,_,hc⟩:=hr.cell j (by rw[←hr.cB];exact Yg);simp only[Option.some.injEq]at hb;subst hb;rw[Addr.add_mid,hc];simp[List.getElem?_eq_getElem Yg]at hj;simp[List.getElem?_eq_getElem Yg,hj]
  ·intro v' w' h1 h2 _;exact h v' w' (by rw[List.map_append];exact h1) h2
theorem Jt(ep nx gv:Int)(ra la:tG)(rn rc ln lc:Nat)(R L:tJ)(ws:tH)(w:tF)(hR:RowK .i64 w ra (2*rn) R)(hL:RowK .i64 w la (4*ln) L)(nR:ra=none→rc=0)(nL:la=none→lc=0)(hs:rn+ln≤500):
    cA 60 #[iI ep nx gv (.slice ra rn rc) (.slice la ln lc) ws] w fun e w'=>∃B a1 c1 a2 c2,e= .returned (.pointer (some ⟨B,0,none⟩))∧w.heap.size≤B∧bj w' B ep nx gv (.slice a1 rn c1) (.slice a2 ln c2) ws∧
      w'.ownsRow w.heap.size 87 2 (.slice a1 rn c1) rn (R.map (Value.int .i64))∧w'.ownsRow w.heap.size 232 4 (.slice a2 ln c2) ln (L.map (Value.int .i64))∧bZ w w':=by
  obtain⟨i1,hi1,QO,hz11,hz12⟩:=gY Tryz.K5;obtain⟨i2,TZ,hz20,hz21,hz22⟩:=gY Tryz.wA;go_enter Tryz.func60,Tryz.ntmps60
  go_wp2_with (first
    |(refine abj 1 _ rfl rfl rfl rfl ?_;intro W1 q1 b1;obtain⟨c0,c1,c2,c3,c4⟩:=q1.heads)
    |(at_builtin;refine cI rfl (.const (.slice none 0 0)) (.tmp 4) 73 rfl (w.heap.size+1) 87 i1 _ 2 16 Tryz.underlying73 hi1 QO hz11 hz12 rfl (by decide) (.slice none 0 0) 0 [] rfl (World.ownsRow_nil _ _ _ _) ra rn rc R rfl (hR.below b1) nR (by unfold maxLen;omega) (by omega) (by have:=q1.lt;omega) ?_;intro v1 W2 o1 g1
      simp only[Nat.zero_add,List.nil_append]at o1;obtain⟨a1,k1,rfl⟩:=iN o1;have b2:Below (w.heap.size+1) W1 W2:=(Below.refl _ _).grown g1 (by have:=q1.lt;omega) (by simp[Value.ownBlock]);have q2:=q1.below b2 (by omega);have l2:w.heap.size+1≤W2.heap.size:=by have:=b2.size;have:=q1.lt;omega
      clear c0 c1 c2 c3 c4;obtain⟨c0,c1,c2,c3,c4⟩:=q2.heads;have f2:=q2.free;have T2:=av.set w.heap.size 3 W2 (.slice a1 rn k1);have q3:=q2.ready (.slice a1 rn k1);have O1:=ai (T2.own o1 (by omega));have Bb:=ai (T2.under (b1.trans (b2.mono (by omega))) (Nat.le_refl _));have HZ3:=ai (show w.heap.size+1≤(W2.setCell ⟨w.heap.size,3,none⟩ (.slice a1 rn k1)).heap.size by rw[T2.size];exact l2)
      clear o1 g1 T2 b2 l2 q2)
    |(at_builtin;refine cI rfl (.const (.slice none 0 0)) (.tmp 8) 74 rfl (w.heap.size+1) 232 i2 _ 4 32 Tryz.underlying74 TZ hz20 hz21 hz22 rfl (by decide) (.slice none 0 0) 0 [] rfl (World.ownsRow_nil _ _ _ _) la ln lc L rfl (hL.below (aa Bb)) nL (by unfold maxLen;omega) (by omega) (aa HZ3) ?_;intro v2 W4 o2 g2
      simp only[Nat.zero_add,List.nil_append]at o2;obtain⟨a2,k2,rfl⟩:=iN o2;have b4:=(Below.refl (w.heap.size+1) (W2.setCell ⟨w.heap.size,3,none⟩ (.slice a1 rn k1))).grown g2 (aa HZ3) (by simp[Value.ownBlock]);have q4:=q3.below b4 (by omega);clear c0 c1 c2 c3 c4;obtain⟨c0,c1,c2,c3,c4⟩:=q4.heads;have f4:=q4.free;have T4:=av.set w.heap.size 4 W4 (.slice a2 ln k2);have q5:=q4.zo (.slice a2 ln k2);have O1':=ai (T4.own (rE (aa O1) g2 (by simp[Value.ownBlock])) (by omega));have O2:=ai (T4.own o2 (by omega));have Ve:=ai (T4.under ((aa Bb).trans (b4.mono (by omega))) (Nat.le_refl _))
      clear o2 g2 T4 b4 q4)
    |(refine DT _ rfl rfl rfl q5 ?_)
    |(refine Vd _ rfl rfl rfl ?_)
    |(refine abk _ rfl rfl rfl ?_;intro W6 d6 b6))
  have l5:=q5.lt;have e5:(W4.setCell ⟨w.heap.size,4,none⟩ (.slice a2 ln k2)).heap.size=W4.heap.size:=(av.set _ _ _ _).size;have O6:=rD (aK (aa O1') (fun g _ hg=>b6.block g hg)) (Nat.le_succ w.heap.size);have O7:=rD (aK (aa O2) (fun g _ hg=>b6.block g hg)) (Nat.le_succ w.heap.size);have B7:=Below.next (aa Ve) b6;rw[e5]at l5 d6;go_ret;exact⟨_,_,_,_,_,rfl,by omega,d6,O6,O7,B7⟩
structure rT(w:tF)(base B:Nat)(ep nx gv:Int)(a1:tG)(rn c1:Nat)(a2:tG)(ln c2:Nat)(R L:tJ)(ws:tH):Prop where
 d:bj w B ep nx gv (.slice a1 rn c1) (.slice a2 ln c2) ws
 up:base≤B
 o1:w.ownsRow base 87 2 (.slice a1 rn c1) rn (R.map (Value.int .i64))
 o2:w.ownsRow base 232 4 (.slice a2 ln c2) ln (L.map (Value.int .i64))
 wR:∀u∈R,(Lit.int .i64 u).wf=true
 wL:∀u∈L,(Lit.int .i64 u).wf=true
def jL(w:tF)(base B:Nat)(ep nx gv:Int)(rn:Nat)(R:tJ)(ln:Nat)(L:tJ)(wt:tK)(wz:Nat→Nat→Bool):Prop:=
 ∃a1 c1 a2 c2 ws,bj w B ep nx gv (.slice a1 rn c1) (.slice a2 ln c2) ws∧RowK .i64 w a1 (2*rn) R∧RowK .i64 w a2 (4*ln) L∧rn≤c1∧ln≤c2∧(a1=none→c1=0)∧(a2=none→c2=0)∧gR ws wt wz∧(∀x,a1=some x→base≤x.block)∧(∀x,a2=some x→base≤x.block)
section
variable{w w':tF}{base B:Nat}{ep nx gv:Int}{a1 a2:tG}{rn c1 ln c2:Nat}{R L:tJ}{ws:tH}{wt:tK}{wz:Nat→Nat→Bool}
theorem rT.out(D:rT w base B ep nx gv a1 rn c1 a2 ln c2 R L ws)(hW:gR ws wt wz):jL w base B ep nx gv rn R ln L wt wz:=by
 obtain⟨_,_,e1,r1,l1,_,n1,x1⟩:=RowK.jF D.o1 D.wR;obtain⟨_,_,e2,r2,l2,_,n2,x2⟩:=RowK.jF D.o2 D.wL;cases e1;cases e2;exact⟨a1,c1,a2,c2,ws,D.d,r1,r2,l1,l2,n1,n2,hW,x1,x2⟩
theorem rT.next(D:rT w base B ep nx gv a1 rn c1 a2 ln c2 R L ws)(hb:bZ w w'):rT w' base B ep nx gv a1 rn c1 a2 ln c2 R L ws:=
 ⟨D.d.next hb,D.up,aK D.o1 (fun g _ hg=>hb.block g hg),aK D.o2 (fun g _ hg=>hb.block g hg),D.wR,D.wL⟩
theorem aU{e t size n:Nat}{v:tN}{xs:tO}{cs:tR}(o:w.ownsRow base e size v n xs)(h:w.heap[B]? =some (.cells cs t (0,0)))(he:e≠t):∀g,v.ownBlock=some g→g≠B:=by
 intro g hg hgB;subst hgB;rcases o.2 with⟨rfl,_⟩|⟨g1,cap,cur,rfl,_,h3,_⟩
 ·cases hg
 ·simp only[Value.ownBlock,Option.some.injEq]at hg;subst hg;rw[h3]at h;simp only[Option.some.injEq,Obj.cells.injEq]at h;exact he h.2.1
theorem av.owns{e size n:Nat}{v:tN}{xs:tO}(t:av B w w')(o:w.ownsRow base e size v n xs)(fJ:∀g,v.ownBlock=some g→g≠B):w'.ownsRow base e size v n xs:=
 aK o (fun g hg _=>t.block g (fJ g hg))
end
theorem qB{W:tF}{R:Nat}{c he no bd:Int}{b:Bool}{tmps:tR}(h:aS W R c he no bd)(t:tmps[4]? =some (.pointer (some ⟨R,0,none⟩)))(tb:tmps[5]? =some (.bool b)):
  (results Tryz.f104 tmps).run Tryz.prog W= .ok (.tuple #[il c he no bd,.bool b]) W:=by
 obtain⟨k0,k1,k2,k3⟩:=h.cells;simp[results,Tryz.results104,go_sem,k0,k1,k2,k3,t,tb]
abbrev zq(k p i b he hn:Int):Value:= .agg #[iV k,iV p,iV i,iV b,iV he,iV hn]
theorem D8{w w1:tF}{k p i b he hn:Int}(b1:Below ((w.alloc (.cells #[iV k,iV p,iV i,iV b,iV he,iV hn] 55)).alloc (.cells #[iV 0,iV 0,iV 0,iV 0] 59)).heap.size ((w.alloc (.cells #[iV k,iV p,iV i,iV b,iV he,iV hn] 55)).alloc (.cells #[iV 0,iV 0,iV 0,iV 0] 59)) w1):
  aS w1 (w.heap.size+1) 0 0 0 0∧bZ w w1:=by
 have z:=(aS.new (w.alloc (.cells #[iV k,iV p,iV i,iV b,iV he,iV hn] 55)) 0 0 0 0).next b1;have e:(w.alloc (.cells #[iV k,iV p,iV i,iV b,iV he,iV hn] 55)).heap.size=w.heap.size+1:=by simp
 rw[e]at z;exact⟨z,uA b1⟩
theorem zr(base B:Nat)(ep nx gv:Int)(a1:tG)(rn c1:Nat)(a2:tG)(ln c2:Nat)(R L:tJ)(ws:tH)(wt:tK)(wz:Nat→Nat→Bool)(k p i b he hn:Int)(w:tF)(D:rT w base B ep nx gv a1 rn c1 a2 ln c2 R L ws)(hW:gR ws wt wz)(dS:base≤w.heap.size)(code:Int)(hc:(rn=0∧code=10)∨(0<rn∧gv=1073741824∧code=14)):
  cA 104 #[.pointer (some ⟨B,0,none⟩),zq k p i b he hn] w fun e w'=>e= .returned (.tuple #[il code 0 0 0,.bool false])∧jL w' base B ep nx gv rn R ln L wt wz∧Below base w w':=by
 obtain⟨d0,d1,d2,d3,d4⟩:=D.d.heads;have hBl:=D.d.lt;have Xw:B≠w.heap.size:=by omega
 have M4:B≠w.heap.size+1:=by omega
 have HD:=ai D;have HBW:Hid (∀w',bZ w w'→jL w' base B ep nx gv rn R ln L wt wz∧Below base w w'):=ai fun w' hb=>⟨(D.next hb).out hW,hb.mono dS⟩;clear D;rcases hc with⟨rfl,rfl⟩|⟨h0,rfl,rfl⟩
 ·go_enter Tryz.func104,Tryz.ntmps104
  go_wp2_with (go_at_call 155;refine(dJ _ _).mono ?_;rintro e w1 ⟨rfl,b1⟩;obtain⟨z1,b2⟩:=D8 b1;obtain⟨y0,y1,y2,y3⟩:=z1.cells;have yf:=z1.free;have HZ:=ai z1;have HB:=ai b2;clear b1 z1 b2)
  obtain⟨r1,r2⟩:=aa HBW _ ((gC w1 (w.heap.size+1) _ 0 0 0).under (aa HB) (Nat.le_succ _));exact bodyPost_ret (qB ((aa HZ).store _ 0 0 0) rfl rfl) rfl ⟨rfl,r1,r2⟩
 ·go_enter Tryz.func104,Tryz.ntmps104
  go_wp2_with (go_at_call 155;refine(dJ _ _).mono ?_;rintro e w1 ⟨rfl,b1⟩;obtain⟨z1,b2⟩:=D8 b1;obtain⟨y0,y1,y2,y3⟩:=z1.cells;have yf:=z1.free;have HZ:=ai z1;have HB:=ai b2;clear b1 z1 b2)
  obtain⟨r1,r2⟩:=aa HBW _ ((gC w1 (w.heap.size+1) _ 0 0 0).under (aa HB) (Nat.le_succ _));exact bodyPost_ret (qB ((aa HZ).store _ 0 0 0) rfl rfl) rfl ⟨rfl,r1,r2⟩
theorem Ju(w:tF)(k p i b he hn:Int):∃W,W=(w.alloc (.cells #[iV k,iV p,iV i,iV b,iV he,iV hn] 55)).alloc (.cells #[iV 0,iV 0,iV 0,iV 0] 59)∧
  aS W (w.heap.size+1) 0 0 0 0∧bZ w W∧W.heap.size=w.heap.size+2∧W.heap[w.heap.size]? =some (.cells #[iV k,iV p,iV i,iV b,iV he,iV hn] 55 (0,0)):=by
 obtain⟨h1,h2⟩:=D8 (Below.refl _ ((w.alloc (.cells #[iV k,iV p,iV i,iV b,iV he,iV hn] 55)).alloc (.cells #[iV 0,iV 0,iV 0,iV 0] 59)));exact⟨_,rfl,h1,h2,by simp,heap_alloc2_old w _ _⟩
structure Jv(w wx:tF)(M H:Nat)(x0 x1 ep gv:Int):Prop where
 m:wx.heap[M]? =some (.cells #[iV x0,iV x1] 87 (0,0))
 h:wx.heap[H]? =some (.cells #[iV ep,iV gv] 53 (0,0))
 dC:bZ w wx
 upM:w.heap.size≤M
 upH:w.heap.size≤H
theorem Jv.mh(w:tF)(x0 x1 ep gv:Int):Jv w ((w.alloc (.cells #[iV x0,iV x1] 87)).alloc (.cells #[iV ep,iV gv] 53)).drew w.heap.size (w.heap.size+1) x0 x1 ep gv:=
 ⟨heap_alloc2_old w _ _,heap_alloc2_new w _ _,Below.next (mw _ _ _) ⟨rfl,rfl,rfl,Nat.le_refl _,fun _ _=>rfl⟩,Nat.le_refl _,Nat.le_succ _⟩
theorem Jv.hm(w:tF)(x0 x1 ep gv:Int):Jv w ((w.alloc (.cells #[iV ep,iV gv] 53)).alloc (.cells #[iV x0,iV x1] 87)).drew (w.heap.size+1) w.heap.size x0 x1 ep gv:=
 ⟨heap_alloc2_new w _ _,heap_alloc2_old w _ _,Below.next (mw _ _ _) ⟨rfl,rfl,rfl,Nat.le_refl _,fun _ _=>rfl⟩,Nat.le_succ _,Nat.le_refl _⟩
structure Rc(w wx:tF)(base B:Nat)(ep nx gv:Int)(v1:tN)(a2:tG)(ln c2:Nat)(L:tJ)(ws:tH)(g rn c1:Nat)(R:tJ)(M H A:Nat)(x0 x1 Z9:Int):Prop where
 d:bj wx B ep nx gv v1 (.slice a2 ln c2) ws
 o1:wx.ownsRow base 87 2 (.slice (some ⟨g,0,none⟩) rn c1) rn (R.map (Value.int .i64))
 o2:wx.ownsRow base 232 4 (.slice a2 ln c2) ln (L.map (Value.int .i64))
 m:wx.heap[M]? =some (.cells #[iV x0,iV x1] 87 (0,0))
 h:wx.heap[H]? =some (.cells #[iV ep,iV Z9] 53 (0,0))
 a:aS wx A 0 0 0 0
 dC:Below base w wx
 up:base≤B
section
variable{w wx W5 w5:tF}{base B:Nat}{ep nx gv:Int}{v1:tN}{a2 a3:tG}{ln c2 c3:Nat}{L:tJ}{ws:tH}{g rn c1:Nat}{R:tJ}{M H A:Nat}{x0 x1 Z9:Int}
theorem cj{w:tF}{X:Nat}{o:Obj}(h:w.heap[X]? =some o):X<w.heap.size:=by
 rcases Nat.lt_or_ge X w.heap.size with h'|h'
 ·exact h'
 ·rw[Array.getElem?_eq_none h']at h;cases h
theorem cK{w:tF}{X Y:Nat}{cs Pp:tR}{t t':tY}(h:w.heap[X]? =some (.cells cs t (0,0)))(h':w.heap[Y]? =some (.cells Pp t' (0,0)))(ht:t≠t'):X≠Y:=by
 rintro rfl;rw[h]at h';simp only[Option.some.injEq,Obj.cells.injEq]at h';exact ht h'.2.1
theorem Rc.mL(C:Rc w wx base B ep nx gv v1 a2 ln c2 L ws g rn c1 R M H A x0 x1 Z9){wy:tF}(t:av B wx wy){MX MY MZ:Int}{v1':tN}(Jw:MX=ep)(d:bj wy B MX MY MZ v1' (.slice a2 ln c2) ws):Rc w wy base B ep MY MZ v1' a2 ln c2 L ws g rn c1 R M H A x0 x1 Z9:=by
 subst Jw;exact⟨d,t.owns C.o1 (aU C.o1 C.d (by decide)),t.owns C.o2 (aU C.o2 C.d (by decide)),(t.block M (cK C.m C.d (by decide))).trans C.m,(t.block H (cK C.h C.d (by decide))).trans C.h,C.a.dG t (cK C.a C.d (by decide)),t.under C.dC C.up,C.up⟩
theorem Rc.Gb(C:Rc w wx base B ep nx gv v1 a2 ln c2 L ws g rn c1 R M H A x0 x1 Z9)(b5:bZ wx W5)(gr:W5.grownBy w5 (Value.slice a2 ln c2).ownBlock)(ys:tJ)(dS:base≤wx.heap.size)
  (own:w5.ownsRow base 232 4 (.slice a3 (ln+1) c3) (ln+1) ((L++ys).map (Value.int .i64))):
  bj w5 B ep nx gv v1 (.slice a2 ln c2) ws∧Rc w (w5.setCell ⟨B,4,none⟩ (.slice a3 (ln+1) c3)) base B ep nx gv v1 a3 (ln+1) c3 (L++ys) ws g rn c1 R M H A x0 x1 Z9:=by
 have keep:∀X o,wx.heap[X]? =some o→(Value.slice a2 ln c2).ownBlock≠some X→w5.heap[X]? =some o:=by
  intro X o hX fJ;have hl:=cj hX;rw[gr.block X (by have:=b5.size;omega) (fun e=>fJ e.symm),b5.block X hl];exact hX
 have hB:bj w5 B ep nx gv v1 (.slice a2 ln c2) ws:=keep B _ C.d (fun e=>aU C.o2 C.d (by decide) B e rfl);have t:=av.set B 4 w5 (.slice a3 (ln+1) c3);have hM:=keep M _ C.m (fun e=>aU C.o2 C.m (by decide) M e rfl);have hH:=keep H _ C.h (fun e=>aU C.o2 C.h (by decide) H e rfl);have hA:aS w5 A 0 0 0 0:=keep A _ C.a (fun e=>aU C.o2 C.a (by decide) A e rfl);have o1':w5.ownsRow base 87 2 (.slice (some ⟨g,0,none⟩) rn c1) rn (R.map (Value.int .i64)):=
  rE (aK C.o1 (fun q _ hq=>b5.block q hq)) gr (fun q h1 h2=>jj C.o1 C.o2 (by decide) q h1 h2)
 have gS:Below base w w5:=(C.dC.trans (b5.mono dS)).grown gr (by have:=b5.size;omega) (fun q hq=>(C.o2.lt q hq).1);exact⟨hB,hB.zo _,t.owns o1' (aU o1' hB (by decide)),t.owns own (aU own hB (by decide)),(t.block M (cK hM hB (by decide))).trans hM,(t.block H (cK hH hB (by decide))).trans hH,hA.dG t (cK hA hB (by decide)),t.under gS C.up,C.up⟩
end
theorem uV{x:Int}(h0:0≤x)(h1:x≤1073741825):(Lit.int .i64 x).wf=true:=by
 exact WalkArith.wf_i64 ⟨by omega,by omega⟩
theorem Vf{w:tF}{g o rn:Nat}{R:tJ}(h:RowK .i64 w (some ⟨g,0,none⟩) (2*rn) R)(hr:0<rn)(ho:1<rn→o=2):RowK .i64 w (some ⟨g,o,none⟩) (2*(rn-1)) (R.drop 2):=by
 have hl:=h.cB;refine⟨by simp;omega,fun u hu=>h.wf u (List.mem_of_mem_drop hu),fun i hi=> ?_⟩;refine⟨g,o,rfl,h.lt (by omega), ?_⟩;have:=h.at (2+i) (by omega);rw[ho (by omega)];rw[Nat.zero_add]at this;rw[this];simp[List.getD_eq_getElem?_getD]
theorem Gg(base B g:Nat)(ep nx gv:Int)(rn c1:Nat)(a2:tG)(ln c2:Nat)(R L:tJ)(ws:tH)(wt:tK)(wz:Nat→Nat→Bool)(k p i b he hn:Int)(w:tF)(D:rT w base B ep nx gv (some ⟨g,0,none⟩) rn c1 a2 ln c2 R L ws)(hW:gR ws wt wz)(dS:base≤w.heap.size)(h0:0<rn)(hs:rn+ln≤500)(g0:0≤gv)(g1:gv<1073741824)(wep:(Lit.int .i64 ep).wf=true):
  cA 104 #[.pointer (some ⟨B,0,none⟩),zq k p i b he hn] w fun e w'=>e= .returned (.tuple #[il 0 ep gv (R.getD 1 0),.bool true])∧jL w' base B ep nx (gv+1) (rn-1) (R.drop 2) (ln+1) (L++[ep,gv,R.getD 0 0,R.getD 1 0]) wt wz∧Below base w w':=by
 obtain⟨i2,TZ,hz20,hz21,hz22⟩:=gY Tryz.wA;obtain⟨d0,d1,d2,d3,d4⟩:=D.d.heads;have hBl:=D.d.lt;have Xw:B≠w.heap.size:=by omega
 have M4:B≠w.heap.size+1:=by omega
 have hgz:¬gv=1073741824:=by omega
 have hrz:¬rn=0:=by omega
 go_enter Tryz.func104,Tryz.ntmps104
 go_wp2_with fail
 obtain⟨W2,hW2,z2,b2,s2,-⟩:=Ju w k p i b he hn;rw[←hW2];clear hW2 d0 d1 d2 d3 d4 Xw M4;have D2:=D.next b2;have hA:W2.heap.size=w.heap.size+2:=s2;obtain⟨x0,hx0⟩:∃x,x=R.getD 0 0:=⟨_,rfl⟩;obtain⟨x1,hx1⟩:∃x,x=R.getD 1 0:=⟨_,rfl⟩;obtain⟨_,_,e1,r1,l1,_,n1,y1⟩:=RowK.jF D2.o1 D2.wR;cases e1;have k0:W2.cell? ⟨g,0,none⟩=some (iV x0):=by rw[hx0];exact r1.at 0 (by omega)
 have k1:W2.cell? ⟨g,1,none⟩=some (iV x1):=by rw[hx1];exact r1.at 1 (by omega)
 have K3:g<W2.heap.size:=r1.lt (by omega);obtain⟨d0,d1,d2,d3,d4⟩:=D2.d.heads;have adY:=D2.d.lt;have Xw:B≠W2.heap.size:=by omega
 have M4:B≠W2.heap.size+1:=by omega
 have hgn:g≠W2.heap.size:=by omega
 have ad0:g≠W2.heap.size+1:=by omega
 have HX:Hid (x0=R.getD 0 0∧x1=R.getD 1 0):=ai ⟨hx0,hx1⟩;have hwR:=ai D2.wR
 have ad1:Hid (∀u∈L++[ep,gv,x0,x1],(Lit.int .i64 u).wf=true):=ai (by
  intro u hu;rcases List.mem_append.1 hu with hu|hu
  ·exact D2.wL u hu
  ·simp only[List.mem_cons,List.not_mem_nil,or_false]at hu;rcases hu with rfl|rfl|rfl|rfl
   ·exact wep
   ·exact uV (by omega) (by omega)
   ·rw[hx0];exact l8 R D2.wR _
   ·rw[hx1];exact l8 R D2.wR _)
 have Ud:=ai D2;have Xx:=ai z2;have th:=ai b2;have HA:=ai hA;clear D D2 r1 y1 n1 hx0 hx1 z2 b2 s2 hA
 go_cut [6,7] (fun p6 p7 wx=>∃M H,p6= .pointer (some ⟨M,0,none⟩)∧p7= .pointer (some ⟨H,0,none⟩)∧Jv W2 wx M H x0 x1 ep gv)
 case first=>
  go_region_held3 (fun w'=>w'.cell? ⟨B,3,none⟩=some (.slice (some ⟨g,0,none⟩) rn c1)∧w'.cell? ⟨B,0,none⟩=some (iV ep)∧w'.cell? ⟨B,2,none⟩=some (iV gv)∧w'.cell? ⟨g,0,none⟩=some (iV x0)∧w'.cell? ⟨g,1,none⟩=some (iV x1)) (go_keep) (fail)
  all_goals(try go_wp2_with fail)
  all_goals go_meet
  all_goals first|exact⟨_,_,rfl,rfl,Jv.mh _ _ _ _ _⟩|exact⟨_,_,rfl,rfl,Jv.hm _ _ _ _ _⟩
 case rest=>
  obtain⟨M,H,rfl,rfl,PP⟩:=hcut;obtain⟨W3,h3⟩:∃W3,W3=wc:=⟨_,rfl⟩;subst h3;clear d0 d1 d2 d3 d4 k0 k1 Xw M4 hgn ad0 adY;have D3:=(aa Ud).next PP.dC;have l3:W2.heap.size≤W3.heap.size:=PP.dC.size;have lA:w.heap.size+2=W2.heap.size:=(aa HA).symm;have C3:Rc w W3 base B ep nx gv (.slice (some ⟨g,0,none⟩) rn c1) a2 ln c2 L ws g rn c1 R M H (w.heap.size+1) x0 x1 gv:=
   ⟨D3.d,D3.o1,D3.o2,PP.m,PP.h,(aa Xx).next PP.dC,((aa th).mono dS).trans (PP.dC.mono (by omega)),D3.up⟩
  have ee:Hid (rn≤c1):=ai l1;obtain⟨d0,d1,d2,d3,d4⟩:=C3.d.heads;have df:=C3.d.free;have Xy:=ai C3;have M6:base≤W3.heap.size:=by omega
  clear D3 PP C3 Ud Xx th HA lA K3
  go_step
  go_step
  go_cut [] (fun wx=>∃o c',(1<rn→o=2)∧rn-1≤c'∧wx.heap.size=W3.heap.size∧Rc w wx base B ep nx gv (.slice (some ⟨g,o,none⟩) (rn-1) c') a2 ln c2 L ws g rn c1 R M H (w.heap.size+1) x0 x1 gv)
  case first=>
   go_wp2_with fail
   all_goals go_meet
   ·rename_i hc;have T:=av.set B 3 W3 (.slice (some ⟨g,0,none⟩) (rn-1) 0);exact⟨0,0,fun h=>by have:=aa ee;omega,by have:=aa ee;omega,T.size,(aa Xy).mL T rfl ((aa Xy).d.ready _)⟩
   ·have T:=av.set B 3 W3 (.slice (some ⟨g,2,none⟩) (rn-1) (c1-1));exact⟨2,c1-1,fun _=>rfl,by have:=aa ee;omega,T.size,(aa Xy).mL T rfl ((aa Xy).d.ready _)⟩
  case rest=>
   obtain⟨o,c',ho,hoc,Xz,C4⟩:=hcut;obtain⟨W4,h4⟩:∃W4,W4=wc:=⟨_,rfl⟩;subst h4;clear d0 d1 d2 d3 d4 df Xy l3;have Z_:base≤W4.heap.size:=by omega
   obtain⟨d0,d1,d2,d3,d4⟩:=C4.d.heads;have df:=C4.d.free;have m0:W4.cell? ⟨M,0,none⟩=some (iV x0):=by have:=C4.m;simp[World.cell?,this]
   have m1:W4.cell? ⟨M,1,none⟩=some (iV x1):=by have:=C4.m;simp[World.cell?,this]
   have q0:W4.cell? ⟨H,0,none⟩=some (iV ep):=by have:=C4.h;simp[World.cell?,this]
   have q1:W4.cell? ⟨H,1,none⟩=some (iV gv):=by have:=C4.h;simp[World.cell?,this]
   have lM:=cj C4.m;have lH:=cj C4.h;have lB:=C4.d.lt;have nM:M≠W4.heap.size:=by omega
   have nH:H≠W4.heap.size:=by omega
   have nB:B≠W4.heap.size:=by omega
   have b5:Below W4.heap.size W4 (W4.alloc (.cells #[iV ep,iV gv,iV x0,iV x1] 232)).drew:=Below.next (aB _ _) ⟨rfl,rfl,rfl,Nat.le_refl _,fun _ _=>rfl⟩;have HO5:Hid ((W4.alloc (.cells #[iV ep,iV gv,iV x0,iV x1] 232)).drew.ownsRow base 232 4 (.slice a2 ln c2) ln (L.map (Value.int .i64))):=ai (aK C4.o2 (fun q _ hq=>b5.block q hq));have HC4:=ai C4;have Ve:=ai b5;clear C4 b5 Xz
   go_wp2_with fail
   go_cut [] (fun wx=>∃a3 c3,Rc w wx base B ep nx gv (.slice (some ⟨g,o,none⟩) (rn-1) c') a3 (ln+1) c3 (L++[ep,gv,x0,x1]) ws g rn c1 R M H (w.heap.size+1) x0 x1 gv)
   case first=>
    go_region_law (refine nP rfl (.tmp 60) (.tmp 64) 74 rfl base 232 i2 _ 4 32 Tryz.underlying74 TZ hz20 hz21 hz22 rfl (by decide) (.slice a2 ln c2) ln L rfl (aa HO5) ⟨W4.heap.size,0,none⟩ 1 1 [ep,gv,x0,x1] rfl rfl (abh _ _ _ _ _ _) (by unfold maxLen;omega) (by omega) (by simp;omega) ?_;intro v' w5 Gh grow5;obtain⟨a3,c3,rfl⟩:=iN Gh;obtain⟨e5,C5⟩:=(aa HC4).Gb (aa Ve) grow5 [ep,gv,x0,x1] Z_ Gh;have k4:=e5.heads.2.2.2.2;have f4:=e5.free;have HC5:=ai C5;clear C5 e5 Gh grow5)
    all_goals(try go_wp2_with fail)
    all_goals go_meet
    all_goals exact⟨_,_,aa HC5⟩
   case rest=>
    obtain⟨a3,c3,C6⟩:=hcut;obtain⟨W6,h6⟩:∃W6,W6=wc:=⟨_,rfl⟩;subst h6;clear d0 d1 d2 d3 d4 df m0 m1 q0 q1 lM lH lB nM nH nB HO5 HC4 Ve Z_;obtain⟨d0,d1,d2,d3,d4⟩:=C6.d.heads;have df:=C6.d.free;have m1:W6.cell? ⟨M,1,none⟩=some (iV x1):=by have:=C6.m;simp[World.cell?,this]
    have q0:W6.cell? ⟨H,0,none⟩=some (iV ep):=by have:=C6.h;simp[World.cell?,this]
    have q1:W6.cell? ⟨H,1,none⟩=some (iV gv):=by have:=C6.h;simp[World.cell?,this]
    obtain⟨y0,y1,y2,y3⟩:=C6.a.cells;have yf:=C6.a.free;have nM:M≠B:=cK C6.m C6.d (by decide);have nH:H≠B:=cK C6.h C6.d (by decide);have nA:w.heap.size+1≠B:=cK C6.a C6.d (by decide);have HC6:=ai C6;have hwL:Hid (∀u∈L++[ep,gv,x0,x1],(Lit.int .i64 u).wf=true):=ad1;clear C6;go_wp2;have C7:=(aa HC6).mL (av.set B 2 W6 (iV (gv+1))) rfl ((aa HC6).d.given (gv+1));have T8:=gC (W6.setCell ⟨B,2,none⟩ (iV (gv+1))) (w.heap.size+1) 0 ep gv x1;have o1:=T8.owns C7.o1 (aU C7.o1 C7.a (by decide));have o2:=T8.owns C7.o2 (aU C7.o2 C7.a (by decide));obtain⟨_,_,e1,r1,_,_,_,y1⟩:=RowK.jF o1 (aa hwR);obtain⟨_,_,e2,r2,l2,_,n2,y2⟩:=RowK.jF o2 (aa hwL);cases e1;cases e2;refine bodyPost_ret (qB (C7.a.store 0 ep gv x1) rfl rfl) rfl ⟨by rw[(aa HX).2],⟨some ⟨g,o,none⟩,c',a3,c3,ws,C7.d.dG T8 (fun e=>nA e.symm),Vf r1 h0 ho, ?_,hoc,l2,by simp,n2,hW,fun x hx=>by cases hx;exact(y1 ⟨g,0,none⟩ rfl:base≤g),y2⟩,T8.under C7.dC (by omega)⟩;rw[←(aa HX).1,←(aa HX).2];exact r2
theorem YO(t id:Int)(s:tQ)(w:tF)(h:¬fG t s):
  cA 196 #[cm t s,iV id] w (rB (.tuple #[.bool false,iV 6]) w):=by
 go_enter Tryz.func196,Tryz.ntmps196
 go_wp2_with (go_at_call 151;refine(FZ t s _ h).mono ?_;rintro e w1 ⟨rfl,b1⟩)
 go_ret2;exact⟨rfl,oR b1⟩
theorem QP(t id:Int)(s:tQ)(w:tF)(h:fG t s)(h0:0≤id)(h1:id≤1073741824)(h2:id<t-8):
  cA 196 #[cm t s,iV id] w (rB (.tuple #[.bool false,iV 9]) w):=by
 have hl:=h.low;have hh:=h.high;go_enter Tryz.func196,Tryz.ntmps196
 go_wp2_with fail
 obtain⟨W,hW,wb0,B0,S0⟩:=uO w t s;rw[←hW];clear hW;refine(rC t s _ h).mono ?_;rintro e w1 ⟨rfl,b1⟩;have wb:=wb0.next b1;have HB:=ai (Below.next B0 b1);obtain⟨c0,c1,c2,c3,c4,c5,c6,c7,c8⟩:=wb.cells;clear wb wb0 B0 S0 b1 h
 go_wp2_with (go_at_call 193;refine(ik t s _ hl hh).mono ?_;rintro e w2 ⟨rfl,b2⟩)
 go_ret2;exact⟨rfl,Below.next (aa HB) b2⟩
theorem K7(t:Int)(k:Nat)(s:tQ)(w:tF)(h:fG t s)(h0:0≤t-8+(k:Int))(h1:k<8):
  cA 196 #[cm t s,iV (t-8+(k:Int))] w (rB (.tuple #[.bool (s k),iV 0]) w):=by
 have hl:=h.low;have hh:=h.high;obtain⟨id,hid⟩:∃id,id=t-8+(k:Int):=⟨_,rfl⟩;rw[←hid];have h3:¬id<t-8:=by omega
 have h4:¬id<0:=by omega
 have h5:¬1073741824<id:=by omega
 have h6:id<t:=by omega
 have h7:(id-(t-8)).toNat=k:=by omega
 have h8:0≤id-(t-8):=by omega
 have h9:id-(t-8)<8:=by omega
 have HI:=ai hid;clear hid h0;go_enter Tryz.func196,Tryz.ntmps196
 go_wp2_with fail
 obtain⟨W,hW,wb0,B0,S0⟩:=uO w t s;rw[←hW];clear hW;refine(rC t s _ h).mono ?_;rintro e w1 ⟨rfl,b1⟩;have wb:=wb0.next b1;have HW:=ai wb;have HB:=ai (Below.next B0 b1);obtain⟨c0,c1,c2,c3,c4,c5,c6,c7,c8⟩:=wb.cells;clear wb wb0 B0 S0 b1 h
 go_wp2_with (go_at_call 193;refine(ik t s _ hl hh).mono ?_;rintro e w2 ⟨rfl,b2⟩;have wb2:=(aa HW).next b2;have th:=ai (Below.next (aa HB) b2);clear HB HW;obtain⟨c0,c1,c2,c3,c4,c5,c6,c7,c8⟩:=wb2.cells;have ck:=wb2.cell k h1;have HW:=ai wb2;clear wb2;have HB:=th)
 go_ret2;exact⟨rfl,aa HB⟩
theorem Cj(t id:Int)(s:tQ)(w:tF)(h:fG t s)(h0:0≤id)(h1:id≤1073741824)(h2:t≤id):
  cA 196 #[cm t s,iV id] w (rB (.tuple #[.bool false,iV 0]) w):=by
 have hl:=h.low;have hh:=h.high;have h3:¬id<t-8:=by omega
 have h4:¬id<0:=by omega
 have h5:¬1073741824<id:=by omega
 have h6:¬id<t:=by omega
 go_enter Tryz.func196,Tryz.ntmps196
 go_wp2_with fail
 obtain⟨W,hW,wb0,B0,S0⟩:=uO w t s;rw[←hW];clear hW;refine(rC t s _ h).mono ?_;rintro e w1 ⟨rfl,b1⟩;have wb:=wb0.next b1;have HW:=ai wb;have HB:=ai (Below.next B0 b1);obtain⟨c0,c1,c2,c3,c4,c5,c6,c7,c8⟩:=wb.cells;clear wb wb0 B0 S0 b1 h
 go_wp2_with (go_at_call 193;refine(ik t s _ hl hh).mono ?_;rintro e w2 ⟨rfl,b2⟩;obtain⟨c0,c1,c2,c3,c4,c5,c6,c7,c8⟩:=((aa HW).next b2).cells)
 go_ret2;exact⟨rfl,Below.next (aa HB) b2⟩
theorem QQ(t id:Int)(s:tQ)(w:tF)(h:fG t s)(h0:0≤id)(h1:id≤1073741824)(h2:t-8≤id):
  cA 196 #[cm t s,iV id] w (rB (.tuple #[.bool (h_ t s id),iV 0]) w):=by
 by_cases aW:id<t
 ·obtain⟨k,hk⟩:∃k:Nat,id=t-8+k:=⟨(id-(t-8)).toNat,by omega⟩;subst hk;rw[qz k (by omega)];exact K7 t k s w h h0 (by omega)
 ·have e1:h_ t s id=false:=by
   simp only[h_];rw[show decide (id<t)=false by simp;omega];simp
  rw[e1];exact Cj t id s w h h0 h1 (by omega)
theorem zt{W:tF}{R:Nat}{t:Int}{s:tQ}{tmps:tR}(h:aL W R t s)(t4:tmps[4]? =some (.pointer (some ⟨R,0,none⟩))):
  (results Tryz.f197 tmps).run Tryz.prog W= .ok (cm t s) W:=by
 obtain⟨c0,c1,c2,c3,c4,c5,c6,c7,c8⟩:=h.cells;simp[results,Tryz.results197,go_sem,c0,c1,c2,c3,c4,c5,c6,c7,c8,t4]
def j6(w:tF)(R:Nat)(s:tQ):Prop:=w.heap[R]? =some (.cells #[.bool (s 0),.bool (s 1),.bool (s 2),.bool (s 3),.bool (s 4),.bool (s 5),.bool (s 6),.bool (s 7)] 75 (0,0))
theorem j6.cells{w:tF}{R:Nat}{s:tQ}(h:j6 w R s):
  w.cell? ⟨R,0,none⟩=some (.bool (s 0))∧w.cell? ⟨R,1,none⟩=some (.bool (s 1))∧w.cell? ⟨R,2,none⟩=some (.bool (s 2))∧w.cell? ⟨R,3,none⟩=some (.bool (s 3))∧
  w.cell? ⟨R,4,none⟩=some (.bool (s 4))∧w.cell? ⟨R,5,none⟩=some (.bool (s 5))∧w.cell? ⟨R,6,none⟩=some (.bool (s 6))∧w.cell? ⟨R,7,none⟩=some (.bool (s 7)):=by
 unfold j6 at h;simp[World.cell?,h]
theorem uW(w:tF)(t z:Int)(s:tQ):∃W,W=((w.alloc (.cells (fo t s) 77)).alloc (.cells #[iV z,.bool false,.bool false,.bool false,.bool false,.bool false,.bool false,.bool false,.bool false] 77)).alloc
   (.cells #[.bool false,.bool false,.bool false,.bool false,.bool false,.bool false,.bool false,.bool false] 75)∧
  aL W w.heap.size t s∧aL W (w.heap.size+1) z jY∧j6 W (w.heap.size+1+1) jY∧bZ w W∧W.heap.size=w.heap.size+3:=by
 refine⟨_,rfl, ?_, ?_, ?_, ?_,by simp⟩
 ·exact((aL.new w t s).below (aB _ _) (by simp)).below (aB _ _) (by simp;omega)
 ·have:=(aL.new (w.alloc (.cells (fo t s) 77)) z jY).below (aB _ (.cells #[.bool false,.bool false,.bool false,.bool false,.bool false,.bool false,.bool false,.bool false] 75)) (by simp);rw[show(w.alloc (.cells (fo t s) 77)).heap.size=w.heap.size+1 by simp]at this;exact this
 ·have:=heap_alloc_new ((w.alloc (.cells (fo t s) 77)).alloc (.cells #[iV z,.bool false,.bool false,.bool false,.bool false,.bool false,.bool false,.bool false,.bool false] 77)) (.cells #[.bool false,.bool false,.bool false,.bool false,.bool false,.bool false,.bool false,.bool false] 75);simpa[j6,jY]using this
 ·exact(mw w _ _).trans ((aB _ _).mono (by simp;omega))
theorem zu(R o:Nat):∀u:Nat,u<8→∀w:World,
  (Instr.sliceAt 75 (.pointer (some ⟨R,o,none⟩)) (some (iV u)) none none).run Tryz.prog w= .ok (.slice (some ⟨R,o+u,none⟩) (8-u) (8-u)) w:=by
 refine za ?_ ?_ ?_ ?_ ?_ ?_ ?_ ?_<;>(intro w;simp[go_sem])
theorem QR{W:tF}{R:Nat}{t:Int}{s:tQ}(h:aL W R t s)(u:Nat)(hu:u<8):
  ∀j v,((List.range (8-u)).map fun j=>Value.bool (s (u+j)))[j]? =some v→W.cell? ((⟨R,1+u,none⟩:Addr).add j)=some v:=by
 intro j v hj;have aW:j<8-u:=by
  rcases Nat.lt_or_ge j (8-u)with h'|h'
  ·exact h'
  ·rw[List.getElem?_eq_none (by simpa using h')]at hj;cases hj
 rw[List.getElem?_map,List.getElem?_range aW]at hj;simp only[Option.map_some,Option.some.injEq]at hj;have e:(⟨R,1+u,none⟩:Addr).add j=⟨R,1+(u+j),none⟩:=by unfold Addr.add;split<;>simp_all;omega
 rw[e,h.cell (u+j) (by omega),hj]
theorem copied(u:Nat)(s s':tQ)(h0:u<8)(hs:∀j,j<8→s' j=(decide (j+u<8)&&s (u+j))):
  (splice [Value.bool false,.bool false,.bool false,.bool false,.bool false,.bool false,.bool false,.bool false] 0 ((List.range (8-u)).map fun j=>Value.bool (s (u+j)))).toArray= #[.bool (s' 0),.bool (s' 1),.bool (s' 2),.bool (s' 3),.bool (s' 4),.bool (s' 5),.bool (s' 6),.bool (s' 7)]:=by
 rw[hs 0 (by omega),hs 1 (by omega),hs 2 (by omega),hs 3 (by omega),hs 4 (by omega),hs 5 (by omega),hs 6 (by omega),hs 7 (by omega)];revert u;refine za ?_ ?_ ?_ ?_ ?_ ?_ ?_ ?_<;>(intros;simp[splice,List.range_succ])
theorem Jx(B:Nat)(W:tF):Below B W W.drew:=⟨rfl,rfl,rfl,Nat.le_refl _,fun _ _=>rfl⟩
theorem Gi(t:Int)(u:Nat)(s:tQ)(w:tF)(_:0≤t)(_:t≤1073741825)(hu0:0<u)(oF:u<8):
  cA 197 #[cm t s,iV (t+(u:Int))] w (rB (cm (t+(u:Int)) (fun j=>decide (j+u<8)&&s (u+j))) w):=by
 obtain⟨top,htop⟩:∃top,top=t+(u:Int):=⟨_,rfl⟩;rw[←htop];have e1:top-t=(u:Int):=by omega
 have HT:=ai htop;clear htop;go_enter Tryz.func197,Tryz.ntmps197
 go_wp2_with fail
 obtain⟨W,hW,wb0,wb1,sb0,B0,S0⟩:=uW w t 0 s;rw[←hW];clear hW;have hsl:=zu w.heap.size 1 u oF;have Mz:=QR wb0 u oF;have hln:((List.range (8-u)).map fun j=>Value.bool (s (u+j))).length=Nat.min (8-u) 8:=by simp
 have hft:0+((List.range (8-u)).map fun j=>Value.bool (s (u+j))).length≤[Value.bool false,.bool false,.bool false,.bool false,.bool false,.bool false,.bool false,.bool false].length:=by simp
 have hon:∀v∈((List.range (8-u)).map fun j=>Value.bool (s (u+j))),v.oneCell'=true:=by
  intro v hv;obtain⟨j,_,rfl⟩:=List.mem_map.1 hv;rfl
 go_region_law (refine step_copy_splice rfl (.tmp 13) (.tmp 16) 304 304 rfl 4 Tryz.underlying304 (by kernel_rfl) (some ⟨w.heap.size+1+1,0,none⟩) (some ⟨w.heap.size,1+u,none⟩) 8 8 (8-u) (8-u) rfl rfl (w.heap.size+1+1) 0 [.bool false,.bool false,.bool false,.bool false,.bool false,.bool false,.bool false,.bool false] 75 sb0 _ hln (fun _=>⟨rfl,_,rfl,Mz⟩) hft hon (w.heap.size+2) W (Jx _ _) (Nat.le_refl _) ?_;intro w4 hg4 Z_)
 obtain⟨s',hs'⟩:∃s':Nat→Bool,s'=fun j=>decide (j+u<8)&&s (u+j):=⟨_,rfl⟩;have HS:=ai hs';have sb4:j6 w4 (w.heap.size+1+1) s':=by
  unfold j6;rw[←copied u s s' oF (fun j _=>by rw[hs'])];exact hg4.out
 have wb4:aL w4 (w.heap.size+1) 0 jY:=wb1.below Z_ (by omega);have B4:bZ w w4:=B0.trans (Z_.mono (by omega));obtain⟨c0,c1,c2,c3,c4,c5,c6,c7⟩:=sb4.cells;obtain⟨d0,d1,d2,d3,d4,d5,d6,d7,d8⟩:=wb4.cells;have df:=wb4.free;have HB:=ai B4;have HW:=ai wb4;clear sb4 wb4 B4 hs' hg4 Z_ sb0 wb0 wb1 B0 S0 Mz hln hft hon hsl;go_wp2;have e2:(fun j=>decide (j+u<8)&&s (u+j))=s':=(aa HS).symm;exact bodyPost_ret (zt ((aa HW).store top s') rfl) rfl ⟨by rw[e2],fX (aa HB) _ (by omega) _ _⟩
theorem Jy(t top:Int)(s:tQ)(w:tF)(h0:0≤t)(h1:t+8≤top)(h2:top≤1073741825):
  cA 197 #[cm t s,iV top] w (rB (cm top jY) w):=by
 have e1:¬top-t<8:=by omega
 go_enter Tryz.func197,Tryz.ntmps197
 go_wp2_with fail
 obtain⟨W,hW,wb0,wb1,sb0,B0,S0⟩:=uW w t top s;rw[←hW];exact bodyPost_ret (zt wb1 rfl) rfl ⟨rfl,B0⟩
theorem Jz(t top:Int)(s:tQ)(w:tF)(h0:0≤t)(h1:t<top)(h2:top≤1073741825):
  cA 197 #[cm t s,iV top] w (rB (cm top (fun j=>h_ t s (top-8+j))) w):=by
 by_cases hf:t+8≤top
 ·refine(Jy t top s w h0 hf h2).mono ?_;rintro e w' ⟨rfl,b⟩;refine⟨?_,b⟩;congr 1;refine Cf rfl fun i hi=> ?_;simp only[h_];rw[show decide (top-8+(i:Int)<t)=false by simp;omega];simp[jY]
 ·obtain⟨u,hu⟩:∃u:Nat,top=t+u:=⟨(top-t).toNat,by omega⟩;subst hu;refine(Gi t u s w h0 (by omega) (by omega) (by omega)).mono ?_;rintro e w' ⟨rfl,b⟩;refine⟨?_,b⟩;congr 1;refine Cf rfl fun i hi=> ?_;by_cases Yi:i+u<8
  ·rw[show t+(u:Int)-8+(i:Int)=t-8+((u+i:Nat):Int) by omega,qz (u+i) (by omega)];simp[Yi]
  ·simp only[h_];rw[show decide (t+(u:Int)-8+(i:Int)<t)=false by simp;omega];simp[Yi]
theorem uX{W:tF}{R:Nat}{t e:Int}{s:tQ}{b:Bool}{tmps:tR}(h:aL W R t s)(t4:tmps[4]? =some (.pointer (some ⟨R,0,none⟩)))(t5:tmps[5]? =some (.bool b))(t6:tmps[6]? =some (iV e)):
  (results Tryz.f154 tmps).run Tryz.prog W= .ok (.tuple #[cm t s,.bool b,iV e]) W:=by
 obtain⟨c0,c1,c2,c3,c4,c5,c6,c7,c8⟩:=h.cells;simp[results,Tryz.results154,go_sem,c0,c1,c2,c3,c4,c5,c6,c7,c8,t4,t5,t6]
theorem uY(w:tF)(t:Int)(s:tQ):∃W,W=(w.alloc (.cells (fo t s) 77)).alloc (.cells #[iV 0,.bool false,.bool false,.bool false,.bool false,.bool false,.bool false,.bool false,.bool false] 77)∧
  aL W w.heap.size t s∧aL W (w.heap.size+1) 0 jY∧bZ w W∧W.heap.size=w.heap.size+2:=by
 refine⟨_,rfl,(aL.new w t s).below (aB _ _) (by simp), ?_,mw _ _ _,by simp⟩;have:=aL.new (w.alloc (.cells (fo t s) 77)) 0 jY;rw[show(w.alloc (.cells (fo t s) 77)).heap.size=w.heap.size+1 by simp]at this;exact this
theorem aL.none{w:tF}{R:Nat}{t:Int}{s:tQ}(h:aL w R t s):
  aL (((((((((w.setCell ⟨R,0,none⟩ (iV 0)).setCell ⟨R,1,none⟩ (.bool false)).setCell ⟨R,2,none⟩ (.bool false)).setCell ⟨R,3,none⟩ (.bool false)).setCell ⟨R,4,none⟩ (.bool false)).setCell ⟨R,5,none⟩ (.bool false)).setCell ⟨R,6,none⟩ (.bool false)).setCell ⟨R,7,none⟩ (.bool false)).setCell ⟨R,8,none⟩ (.bool false)) R 0 jY:=
 h.store 0 jY
theorem Bc{B:Nat}{w0 w:tF}(hb:Below B w0 w)(R:Nat)(hR:B≤R):
  Below B w0 (((((((((w.setCell ⟨R,0,none⟩ (iV 0)).setCell ⟨R,1,none⟩ (.bool false)).setCell ⟨R,2,none⟩ (.bool false)).setCell ⟨R,3,none⟩ (.bool false)).setCell ⟨R,4,none⟩ (.bool false)).setCell ⟨R,5,none⟩ (.bool false)).setCell ⟨R,6,none⟩ (.bool false)).setCell ⟨R,7,none⟩ (.bool false)).setCell ⟨R,8,none⟩ (.bool false)):=
 fX hb R hR 0 jY
theorem QS(t id e0:Int)(s:tQ)(w:tF)(he:¬e0=0)(h:∀w,cA 196 #[cm t s,iV id] w (rB (.tuple #[.bool false,iV e0]) w)):
  cA 154 #[cm t s,iV id] w (rB (.tuple #[cm 0 jY,.bool false,iV e0]) w):=by
 go_enter Tryz.func154,Tryz.ntmps154
 go_wp2_with fail
 obtain⟨W,hW,wb0,wb1,B0,S0⟩:=uY w t s;rw[←hW];clear hW;refine(h _).mono ?_;rintro e w1 ⟨rfl,b1⟩;have wb:=wb1.next b1;have HW:=ai wb;have HB:=ai (Below.next B0 b1);obtain⟨d0,d1,d2,d3,d4,d5,d6,d7,d8⟩:=wb.cells;have df:=wb.free;clear wb wb0 wb1 B0 S0 b1 h;go_wp2;exact bodyPost_ret (uX (aa HW).none rfl rfl rfl) rfl ⟨rfl,Bc (aa HB) _ (by omega)⟩
theorem QT(t id:Int)(s:tQ)(w:tF)(h:fG t s)(h0:0≤id)(h1:id≤1073741824)(h2:id<t-8):
  cA 154 #[cm t s,iV id] w (rB (.tuple #[cm 0 jY,.bool false,iV 9]) w):=
 QS t id 9 s w (by decide) (fun w=>QP t id s w h h0 h1 h2)
theorem QU(t id:Int)(s:tQ)(w:tF)(h:fG t s)(h0:0≤id)(h1:id≤1073741824)(h2:h_ t s id=true):
  cA 154 #[cm t s,iV id] w (rB (.tuple #[cm t s,.bool false,iV 0]) w):=by
 have h3:t-8≤id:=by
  obtain⟨i,_,_,rfl⟩:=wm.1 h2;omega
 go_enter Tryz.func154,Tryz.ntmps154
 go_wp2_with fail
 obtain⟨W,hW,wb0,wb1,B0,S0⟩:=uY w t s;rw[←hW];clear hW;refine(QQ t id s _ h h0 h1 h3).mono ?_;rw[h2];rintro e w1 ⟨rfl,b1⟩;have wa:=wb0.next b1;have wb:=wb1.next b1;have HW:=ai wb;have HB:=ai (Below.next B0 b1);obtain⟨c0,c1,c2,c3,c4,c5,c6,c7,c8⟩:=wa.cells;obtain⟨d0,d1,d2,d3,d4,d5,d6,d7,d8⟩:=wb.cells;have df:=wb.free;clear wa wb wb0 wb1 B0 S0 b1 h;go_wp2;exact bodyPost_ret (uX ((aa HW).store t s) rfl rfl rfl) rfl ⟨rfl,fX (aa HB) _ (by omega) _ _⟩
theorem zv{B R o:Nat}{w0 w:tF}{v:tN}(hb:Below B w0 w)(hR:B≤R):Below B w0 (w.setCell ⟨R,o,none⟩ v):=hb.setCell hR v
theorem QV(t:Int)(k:Nat)(s s':tQ)(w:tF)(h:fG t s)(h0:0≤t-8+(k:Int))(h1:k<8)(h2:s k=false)(hs:∀i,i<8→s' i=if i=k then true else s i):
  cA 154 #[cm t s,iV (t-8+(k:Int))] w (rB (.tuple #[cm t s',.bool true,iV 0]) w):=by
 have hl:=h.low;have hh:=h.high;obtain⟨id,hid⟩:∃id,id=t-8+(k:Int):=⟨_,rfl⟩;have H1:∀w,cA 196 #[cm t s,iV id] w (rB (.tuple #[.bool false,iV 0]) w):=by
  intro w;have:=K7 t k s w h h0 h1;rw[h2]at this;rw[hid];exact this
 rw[←hid];have h6:¬t≤id:=by omega
 have h7:(id-(t-8)).toNat=k:=by omega
 have h8:0≤id-(t-8):=by omega
 have h9:id-(t-8)<8:=by omega
 have HI:=ai hid;have HS:=ai hs;clear hid h0 hs;go_enter Tryz.func154,Tryz.ntmps154
 go_wp2_with fail
 obtain⟨W,hW,wb0,wb1,B0,S0⟩:=uY w t s;rw[←hW];clear hW;refine(H1 _).mono ?_;rintro e w1 ⟨rfl,b1⟩;have wa:=wb0.next b1;have wb:=wb1.next b1;have HV:=ai wa;have HW:=ai wb;have HB:=ai (Below.next B0 b1);obtain⟨c0,c1,c2,c3,c4,c5,c6,c7,c8⟩:=wa.cells;clear wa wb wb0 wb1 B0 S0 b1 h h2 H1
 go_wp2_with (go_at_call 193;refine(ik t s _ hl hh).mono ?_;rintro e w2 ⟨rfl,b2⟩;have va:=(aa HV).next b2;have vb:=(aa HW).next b2;have th:=ai (Below.next (aa HB) b2);clear HB HW HV;have ck:=va.cell k h1;have cf:=va.free;have vc:=va.mark k h1 true s' (aa HS);have vd:=vb.other (o:=1+k) (v:= .bool true) (R':=w.heap.size) (by omega);obtain⟨c0,c1,c2,c3,c4,c5,c6,c7,c8⟩:=vc.cells;obtain⟨d0,d1,d2,d3,d4,d5,d6,d7,d8⟩:=vd.cells;have df:=vd.free;have VC:=ai vc;have VD:=ai vd;clear va vb vc vd)
 exact bodyPost_ret (uX ((aa VD).store t s') rfl rfl rfl) rfl ⟨rfl,fX (zv (aa th) (Nat.le_refl _)) _ (by omega) _ _⟩
theorem M7(t id:Int)(s s1 s':tQ)(w:tF)(h:fG t s)(h0:t≤id)(h1:id≤1073741824)(QE:s1=fun j:Nat=>h_ t s (id+1-8+(j:Int)))(hs:∀i,i<8→s' i=if i=7 then true else s1 i):
  cA 154 #[cm t s,iV id] w (rB (.tuple #[cm (id+1) s',.bool true,iV 0]) w):=by
 have hl:=h.low;have hh:=h.high;obtain⟨T,hT⟩:∃T,T=id+1:=⟨_,rfl⟩;have H2:∀w,cA 197 #[cm t s,iV T] w (rB (cm T s1) w):=by
  intro w;have:=Jz t T s w hl (by omega) (by omega);rw[QE,←hT];exact this
 have H1:=fun w=>Cj t id s w h (by omega) h1 h0;rw[←hT];have h7:id-(T-8)=7:=by omega
 have h8:0≤T:=by omega
 have h9:T≤1073741825:=by omega
 have hw:IntKind.i64.wrap (id+1)=T:=by rw[IntKind.wrap_i64];omega
 have HS:=ai hs;clear hs QE hT;go_enter Tryz.func154,Tryz.ntmps154
 go_wp2_with fail
 obtain⟨W,hW,wb0,wb1,B0,S0⟩:=uY w t s;rw[←hW];clear hW;refine(H1 _).mono ?_;rintro e w1 ⟨rfl,b1⟩;have wa:=wb0.next b1;have wb:=wb1.next b1;have HV:=ai wa;have HW:=ai wb;have HB:=ai (Below.next B0 b1);obtain⟨c0,c1,c2,c3,c4,c5,c6,c7,c8⟩:=wa.cells;clear wa wb wb0 wb1 B0 S0 b1 h H1
 go_wp2_with fail
 refine(H2 _).mono ?_;rintro e w2 ⟨rfl,b2⟩;have va:=(aa HV).next b2;have vb:=(aa HW).next b2;have th:=ai (Below.next (aa HB) b2);obtain⟨c0,c1,c2,c3,c4,c5,c6,c7,c8⟩:=va.cells;have cf:=va.free;clear HB HV HW b2 H2
 go_wp2_with fail
 obtain⟨W3,hW3,va3,vb3,Bb⟩:∃W3,W3=mz w2 w.heap.size T s1∧aL W3 w.heap.size T s1∧aL W3 (w.heap.size+1) 0 jY∧bZ w W3:=by
  refine⟨_,rfl,va.store T s1, ?_,fX (aa th) _ (Nat.le_refl _) _ _⟩;unfold aL at vb⊢;rw[zc _ _ _ _ _ (by omega)];exact vb
 unfold mz at hW3;rw[←hW3];clear hW3 va vb th c0 c1 c2 c3 c4 c5 c6 c7 c8 cf;refine(ik T s1 _ h8 h9).mono ?_;rintro e w4 ⟨rfl,b4⟩;have va:=va3.next b4;have vb:=vb3.next b4;have K9:=ai (Below.next Bb b4);have vc:=va.mark 7 (by omega) true s' (aa HS);have vd:=vb.other (o:=8) (v:= .bool true) (R':=w.heap.size) (by omega);have ck:=va.cell 7 (by omega);have cf:=va.free;obtain⟨c0,c1,c2,c3,c4,c5,c6,c7,c8⟩:=vc.cells;obtain⟨d0,d1,d2,d3,d4,d5,d6,d7,d8⟩:=vd.cells;have df:=vd.free;have VC:=ai vc;have VD:=ai vd;clear va vb vc vd va3 vb3 Bb b4;go_wp2;exact bodyPost_ret (uX ((aa VD).store T s') rfl rfl rfl) rfl ⟨rfl,fX (zv (aa K9) (Nat.le_refl _)) _ (by omega) _ _⟩
theorem QW(t id:Int)(s:tQ)(w:tF)(h:fG t s)(h0:0≤id)(h1:id≤1073741824)(h2:t-8≤id)(h3:h_ t s id=false):
  cA 154 #[cm t s,iV id] w (rB (.tuple #[cm (ij t id) (eX t s id),.bool true,iV 0]) w):=by
 by_cases hc:t≤id
 ·have e:ij t id=id+1:=by unfold ij;rw[if_pos hc]
  have:=M7 t id s (fun j:Nat=>h_ t s (id+1-8+(j:Int))) (eX t s id) w h hc h1 rfl (by
   intro i hi;unfold eX;rw[e];by_cases h7:i=7
   ·subst h7;rw[if_pos rfl,show decide (id+1-8+((7:Nat):Int)=id)=true by simp;omega];rfl
   ·rw[if_neg h7,show decide (id+1-8+(i:Int)=id)=false by simp;omega]
    rfl)
  rw[e];exact this
 ·have e:ij t id=t:=by unfold ij;rw[if_neg hc]
  obtain⟨k,hk⟩:∃k:Nat,id=t-8+k:=⟨(id-(t-8)).toNat,by omega⟩;have hk8:k<8:=by omega
  have XB:s k=false:=by rw[←qz (t:=t) (s:=s) k hk8,←hk];exact h3
  have:=QV t k s (eX t s id) w h (by omega) hk8 XB (by
   intro i hi;unfold eX;rw[e,qz i hi];by_cases h7:i=k
   ·subst h7;rw[if_pos rfl,show decide (t-8+(i:Int)=id)=true by simp;omega];rfl
   ·rw[if_neg h7,show decide (t-8+(i:Int)=id)=false by simp;omega]
    rfl)
  rw[e];rw[←hk]at this;exact this
def xW{α:Type}(f:Nat→α)(P:Nat)(x:α):Nat→α:=fun q=>if q=P then x else f q
theorem Gj(B:Nat)(w:tF):av B w w.drew:=⟨rfl,rfl,rfl,rfl,fun _ _=>rfl⟩
structure Pc(w wx:tF)(base B:Nat)(ep nx gv:Int)(a1:tG)(rn c1:Nat)(R:tJ)(a2:tG)(ln c2:Nat)(L:tJ)(ws:tH)(A:Nat):Prop where
 d:bj wx B ep nx gv (.slice a1 rn c1) (.slice a2 ln c2) ws
 o1:wx.ownsRow base 87 2 (.slice a1 rn c1) rn (R.map (Value.int .i64))
 o2:wx.ownsRow base 232 4 (.slice a2 ln c2) ln (L.map (Value.int .i64))
 a:aS wx A 0 0 0 0
 dC:Below base w wx
 up:base≤B
section
variable{w wx W5 w5:tF}{base B:Nat}{ep nx gv:Int}{a1 a2 a3:tG}{rn ln c1 c2 c3:Nat}{R L:tJ}{ws ws':tH}{A:Nat}
theorem Pc.next(C:Pc w wx base B ep nx gv a1 rn c1 R a2 ln c2 L ws A){wy:tF}(hb:bZ wx wy)(dS:base≤wx.heap.size):Pc w wy base B ep nx gv a1 rn c1 R a2 ln c2 L ws A:=
 ⟨C.d.next hb,aK C.o1 (fun g _ hg=>hb.block g hg),aK C.o2 (fun g _ hg=>hb.block g hg),C.a.next hb,C.dC.trans (hb.mono dS),C.up⟩
theorem Pc.ready(C:Pc w wx base B ep nx gv a1 rn c1 R a2 ln c2 L ws A)(b5:bZ wx W5)(gr:W5.grownBy w5 (Value.slice a1 rn c1).ownBlock)(ys:tJ)(dS:base≤wx.heap.size)
  (own:w5.ownsRow base 87 2 (.slice a3 (rn+1) c3) (rn+1) ((R++ys).map (Value.int .i64))):
  bj w5 B ep nx gv (.slice a1 rn c1) (.slice a2 ln c2) ws∧Pc w (w5.setCell ⟨B,3,none⟩ (.slice a3 (rn+1) c3)) base B ep nx gv a3 (rn+1) c3 (R++ys) a2 ln c2 L ws A:=by
 have keep:∀X o,wx.heap[X]? =some o→(Value.slice a1 rn c1).ownBlock≠some X→w5.heap[X]? =some o:=by
  intro X o hX fJ;have hl:=cj hX;rw[gr.block X (by have:=b5.size;omega) (fun e=>fJ e.symm),b5.block X hl];exact hX
 have hB:bj w5 B ep nx gv (.slice a1 rn c1) (.slice a2 ln c2) ws:=keep B _ C.d (fun e=>aU C.o1 C.d (by decide) B e rfl);have t:=av.set B 3 w5 (.slice a3 (rn+1) c3);have hA:aS w5 A 0 0 0 0:=keep A _ C.a (fun e=>aU C.o1 C.a (by decide) A e rfl);have o2':w5.ownsRow base 232 4 (.slice a2 ln c2) ln (L.map (Value.int .i64)):=
  rE (aK C.o2 (fun q _ hq=>b5.block q hq)) gr (fun q h1 h2=>jj C.o2 C.o1 (by decide) q h1 h2)
 have gS:Below base w w5:=(C.dC.trans (b5.mono dS)).grown gr (by have:=b5.size;omega) (fun q hq=>(C.o1.lt q hq).1);exact⟨hB,hB.ready _,t.owns own (aU own hB (by decide)),t.owns o2' (aU o2' hB (by decide)),hA.dG t (cK hA hB (by decide)),t.under gS C.up,C.up⟩
end
section
open Rv
theorem zw(w:tF):Below w.heap.size w w.drew:=⟨rfl,rfl,rfl,Nat.le_refl _,fun _ _=>rfl⟩
def qG(ep nx gv:Int)(r l:tN)(ws:tH):Nat→Value:=fun i=>if i<5 then[iV ep,iV nx,iV gv,r,l].getD i undef else ws (i-5)
theorem YP{t:Int}{s:tQ}:a7 (di (wS t s)) 9:=fun i hi=>by
 obtain rfl|rfl|rfl|rfl|rfl|rfl|rfl|rfl|rfl:i=0∨i=1∨i=2∨i=3∨i=4∨i=5∨i=6∨i=7∨i=8:=(by omega)<;>rfl
theorem QX(t:Int)(s:tQ){i:Nat}(hi:i<9):di (wS t s) i=if i=0 then iV t else .bool (s (i-1)):=by
 obtain rfl|rfl|rfl|rfl|rfl|rfl|rfl|rfl|rfl:i=0∨i=1∨i=2∨i=3∨i=4∨i=5∨i=6∨i=7∨i=8:=(by omega)<;>rfl
theorem YQ{ep nx gv:Int}{r l:tN}{ws:tH}{wt:tK}{wz:Nat→Nat→Bool}(hW:gR ws wt wz){P i:Nat}(hP:P<4)(hi:i<9):qG ep nx gv r l ws (0+5+P*9+i)=di (wS (wt P) (wz P)) i:=by
 obtain⟨h0,h1⟩:=hW P hP;unfold qG;rw[if_neg (by omega),QX _ _ hi];by_cases e:i=0
 ·rw[if_pos e,←h0];exact congrArg ws (by omega)
 ·rw[if_neg e,←h1 (i-1) (by omega)];exact congrArg ws (by omega)
def ww(ws:tH)(P:Nat)(t:Int)(s:tQ):Nat→Value:=fun i=>if 9*P≤i∧i<9*P+9 then di (wS t s) (i-9*P)else ws i
theorem YR{ep nx gv:Int}{r l:tN}{ws:tH}{t:Int}{s:tQ}{P:Nat}(i:Nat):gj (qG ep nx gv r l ws) (0+5+P*9) 9 (di (wS t s)) i=qG ep nx gv r l (ww ws P t s) i:=by
 unfold gj qG ww;by_cases h5:i<5
 ·rw[if_neg (by omega),if_pos h5,if_pos h5]
 ·rw[if_neg h5,if_neg h5];by_cases hc:9*P≤i-5∧i-5<9*P+9
  ·rw[if_pos (by omega),if_pos hc];exact congrArg _ (by omega)
  ·rw[if_neg (by omega),if_neg hc]
theorem gR.ww{ws:tH}{wt:tK}{wz:Nat→Nat→Bool}(h:gR ws wt wz)(P:Nat)(t:Int)(s:tQ):gR (ww ws P t s) (xW wt P t) (xW wz P s):=fun q hq=>by
 obtain⟨h0,h1⟩:=h q hq;unfold Go.Proofs.YtmhifeahpnkpiaaGreatDoor.ww xW;by_cases e:q=P
 ·subst e;refine⟨?_,fun j hj=> ?_⟩
  ·rw[if_pos (by omega),if_pos rfl,QX _ _ (by omega),if_pos (by omega)]
  ·rw[if_pos (by omega),if_pos rfl,QX _ _ (by omega),if_neg (by omega)];exact congrArg (fun n=>Value.bool (s n)) (by omega)
 ·refine⟨?_,fun j hj=> ?_⟩
  ·rw[if_neg (by omega),if_neg e];exact h0
  ·rw[if_neg (by omega),if_neg e];exact h1 j hj
theorem qC(base B P:Nat)(ep nx gv:Int)(a1:tG)(rn c1:Nat)(a2:tG)(ln c2:Nat)(R L:tJ)(ws:tH)(wt:tK)(wz:Nat→Nat→Bool)(k i b he hn:Int)(w:tF)(D:rT w base B ep nx gv a1 rn c1 a2 ln c2 R L ws)(hW:gR ws wt wz)(dS:base≤w.heap.size)(hP:P<4)(hs:rn+ln≤500)(n0:0≤nx)(n1:nx≤1073741824)(wb:(Lit.int .i64 b).wf=true)
  (t':Int) (s':tQ) (fr:Bool) (rf:Int) (TK:∀w,cA 154 #[cm (wt P) (wz P),iV i] w (rB (.tuple #[cm t' s',.bool fr,iV rf]) w))
  (Q:Value→World→Prop) (HN:Hid (((¬rf=0)∨(rf=0∧fr=false))→∀w',bZ w w'→Q (.tuple #[il rf 0 0 0,.bool false]) w'))
  (HF:Hid ((rf=0∧fr=true)→(500≤rn+ln∨nx=1073741824)→∀w',bZ w w'→Q (.tuple #[il 14 0 0 0,.bool false]) w'))
  (HY:Hid ((rf=0∧fr=true)→rn+ln<500→nx<1073741824→∀w',jL w' base B ep (nx+1) gv (rn+1) (R++[nx,b]) ln L (xW wt P t') (xW wz P s')→Below base w w'→Q (.tuple #[il 0 0 0 0,.bool true]) w')):
  cA 103 #[.pointer (some ⟨B,0,none⟩),zq k P i b he hn] w fun e w'=>∃v,e= .returned v∧Q v w':=by
 have os':a7 (di (wS t' s')) 9:=YP;have fb:aZ w B 148 41 (qG ep nx gv (.slice a1 rn c1) (.slice a2 ln c2) ws):=D.d;have hb:=D.d.lt;have hS:Mem w (Rv.hs [⟨B,148,[.f 41 (qG ep nx gv (.slice a1 rn c1) (.slice a2 ln c2) ws)]⟩]) (fun b=>(Value.slice a1 rn c1).ownBlock=some b∨False) (fun y=>y.ownsRow base 232 4 (.slice a2 ln c2) ln (L.map (Value.int .i64))) (fun y=>dB (fun b=>b∈[B]) w y∧y.ownsRow base 87 2 (.slice a1 rn c1) rn (R.map (Value.int .i64))):=
  Mem.sr (Mem.begin (fun e he=>by cases List.mem_singleton.1 he;exact fb) (List.pairwise_singleton _ _) (fun e he h=>by cases List.mem_singleton.1 he;exact h.elim (fun h=>aU D.o1 D.d (by decide) B h rfl) id) (fun b h=>h.elim (fun h=>(D.o1.lt b h).2) False.elim) fun y c=>aK D.o2 fun g hg hl=>c.block g hl fun hu=>hu.elim (fun hu=>aU D.o2 D.d (by decide) g hg (List.mem_singleton.1 hu)) fun hu=>hu.elim (fun hu=>jj D.o1 D.o2 (by decide) g hu hg) id) fun y c=>⟨c,aK D.o1 fun g hg hl=>c.block g hl fun hu=>aU D.o1 D.d (by decide) g hg (List.mem_singleton.1 hu)⟩
 have out:∀{H:List bT} {M:tI} {Γ:tM} {y:tF},Mem y (⟨B,148,41,qG ep nx gv (.slice a1 rn c1) (.slice a2 ln c2) ws⟩::H) M Γ (fun y=>dB (fun b=>b∈[B]) w y∧y.ownsRow base 87 2 (.slice a1 rn c1) rn (R.map (Value.int .i64)))→bZ w y:=fun hS=>(hS.now.2.1.less (U:=fun _=>False) fun b hb=> .inr ⟨_,_,_,List.mem_singleton.1 hb▸fb,List.mem_singleton.1 hb▸hS.at 0 rfl⟩).below (Nat.le_refl _) fun _ _ h=>h;refine en _ [vp 0 0 B,vg [.o (iV k),.o (iV (P:Int)),.o (iV i),.o (iV b),.o (iV he),.o (iV hn)]] Tryz.func103 rfl rfl hS (r [] rfl fun α=> ?_);refine cut (X:=Nat) (fun x=>[(0,vp 0 0 B),(3,vp 1 0 (α 0)),(4,vp 2 0 (α 1)),(6,vp 3 0 x),(7,vv (.bool fr)),(8,vi rf)]) (fun x=>[⟨B,148,[.f 41 (qG ep nx gv (.slice a1 rn c1) (.slice a2 ln c2) ws)]⟩,⟨α 0,55,[.o (iV k),.o (iV (P:Int)),.o (iV i),.o (iV b),.o (iV he),.o (iV hn)]⟩,⟨α 1,59,[.o (iV 0),.o (iV 0),.o (iV 0),.o (iV 0)]⟩,⟨x,77,wS t' s'⟩]) (fun _ b=>(Value.slice a1 rn c1).ownBlock=some b∨False) (fun _ y=>y.ownsRow base 232 4 (.slice a2 ln c2) ln (L.map (Value.int .i64))) (fun _ y=>dB (fun b=>b∈[B]) w y∧y.ownsRow base 87 2 (.slice a1 rn c1) rn (R.map (Value.int .i64))) (fun _=>True) ?_ (r [4,1] rfl fun _=>lo rfl rfl 0 rfl 9 (di (wS (wt P) (wz P))) (fun j hj=>YQ hW hP hj) ?_ (show 0+0+5+P*9+9≤41 by omega))
 case refine_2=>
  repeat' first|refine C9 ?_ ?_|(refine Rv.cb (g:=154) rfl (vt [.g (wS t' s'),.o (.bool fr),.o (.int .i64 rf)]) ?_ ?_;exact fun w _=>TK w)|refine rs [] rfl rfl fun _=> ?_
  all_goals exact eJ _ ⟨rfl,rfl,rfl,rfl,rfl,rfl,trivial⟩ (fun w hS=>hS.IM [0,1,2,3] (by decide)) trivial Nat.zero_lt_one
 rintro f X _;by_cases hrf:rf=0
 case neg=>exact r [1] rfl fun _=>Rv.cb rfl (vt [.g [.o (iV rf),.o (iV 0),.o (iV 0),.o (iV 0)],.o (.bool false)]) (fun w _=>dJ rf w) (r [] rfl fun _=>fin fun w hS=>⟨_,rfl,aa HN (.inl hrf) w (out hS)⟩)
 cases fr
 ·exact r [0] rfl fun _=>Rv.cb rfl (vt [.g [.o (iV rf),.o (iV 0),.o (iV 0),.o (iV 0)],.o (.bool false)]) (fun w _=>dJ rf w) (r [] rfl fun _=>fin fun w hS=>⟨_,rfl,aa HN (.inr ⟨hrf,rfl⟩) w (out hS)⟩)
 refine r [0] rfl fun _=>Rv.cb rfl (vi ((rn+ln:Nat):Int)) (fun w _=>oY ep nx gv a1 a2 rn c1 ln c2 ws w (by omega)) ?_;by_cases h5:500≤rn+ln
 ·exact r [1] rfl fun _=>Rv.cb rfl (vt [.g [.o (iV 14),.o (iV 0),.o (iV 0),.o (iV 0)],.o (.bool false)]) (fun w _=>dJ 14 w) (r [] rfl fun _=>fin fun w hS=>⟨_,rfl,aa HF ⟨hrf,rfl⟩ (.inl h5) w (out hS)⟩)
 by_cases h6:nx=1073741824
 ·exact r [0,1] rfl fun _=>Rv.cb rfl (vt [.g [.o (iV 14),.o (iV 0),.o (iV 0),.o (iV 0)],.o (.bool false)]) (fun w _=>dJ 14 w) (r [] rfl fun _=>fin fun w hS=>⟨_,rfl,aa HF ⟨hrf,rfl⟩ (.inr h6) w (out hS)⟩)
 refine r [0,0,1,1] rfl fun _=>so (g:=di (wS t' s')) rfl rfl rfl 0 rfl (qG ep nx gv (.slice a1 rn c1) (.slice a2 ln c2) (ww ws P t' s')) (fun j _=>YR j) ?_ os' (show 0+0+5+P*9+9≤41 by omega);refine uL (fun y hS=>Mem.sr hS (R':=fun y=>Below base w y∧y.ownsRow base 87 2 (.slice a1 rn c1) rn (R.map (Value.int .i64))) fun y h=>⟨h.1.below dS fun z hz hu=>absurd D.up (Nat.not_le.2 (List.mem_singleton.1 hu▸hz)),h.2⟩) ?_;refine r [1] rfl fun _=>Jh 4 rfl (show lL Tryz.prog 73 87 2 16=true by kernel_rfl) (fun w hS=>Nat.le_trans dS hS.now.2.1.size) (fun y y' h c=>h.trans (c.below (Nat.le_trans dS h.size) fun z hz hu=>absurd hu (Nat.not_le.2 hz))) fun g c hc=> ?_;refine rz [1] [nx+1] rfl fun _=>gn 0 (qG ep (nx+1) gv (.slice (some ⟨g,0,none⟩) (rn+1) c) (.slice a2 ln c2) (ww ws P t' s')) ?_ rfl (by kernel_rfl);refine fin fun w9 hS=> ?_;have o9:=hS.now.2.2;have D9:rT w9 base B ep (nx+1) gv (some ⟨g,0,none⟩) (rn+1) c a2 ln c2 (R++[nx,b]) L (ww ws P t' s'):=⟨hS.at 0 rfl,D.up,by rw[List.map_append];exact o9,hS.now.1,fun u hu=> ?_,D.wL⟩
 ·exact⟨_,rfl,aa HY ⟨hrf,rfl⟩ (by omega) (by omega) w9 (D9.out (hW.ww P t' s')) hS.now.2.1⟩
 ·rcases List.mem_append.1 hu with h|h
  ·exact D.wR u h
  ·simp only[List.mem_cons,List.not_mem_nil,or_false]at h;rcases h with rfl|rfl
   ·exact uV (by omega) (by omega)
   ·exact wb
end
theorem zx(w:tF)(b o c:Nat)(ty:tY)(hc:∀j,j<4→(w.cell? ⟨b,o+j,none⟩).isSome=true)(hf:∀j,j<4→w.frozen? ⟨b,o+j,none⟩=false):
  (Builtin.clear_ #[74] ty #[.slice (some ⟨b,o,none⟩) 1 c]).run Tryz.prog w= .ok (.tuple #[]) (w.setCells b o [iV 0,iV 0,iV 0,iV 0]):=by
 have gZ:=run_storeCells_cells (P:=Tryz.prog) b o [iV 0,iV 0,iV 0,iV 0] 0 w (by simpa using hc) (by simpa using hf) (by simp[Value.oneCell']);simp only[Nat.add_zero]at gZ;simp[Builtin.clear_,run_underlying Tryz.underlying74,Tryz.zeroValue232,Builtin.zeroCells,Value.cells];rw[show(List.map (fun i=>([Value.int IntKind.i64 0,Value.int IntKind.i64 0,Value.int IntKind.i64 0,Value.int IntKind.i64 0]:tO)[i % 4]?.getD default) (List.range 4))=[Value.int IntKind.i64 0,Value.int IntKind.i64 0,Value.int IntKind.i64 0,Value.int IntKind.i64 0] from rfl,gZ];rfl
theorem QY(L:tJ)(k j:Nat):(L.take (4*k)++L.drop (4*k+4)).getD j 0=if j<4*k∧j<L.length then L.getD j 0 else if 4*k≤L.length then L.getD (j+4) 0 else 0:=by
 simp only[List.getD_eq_getElem?_getD];rcases Nat.lt_or_ge j (4*k)with h|h
 ·rcases Nat.lt_or_ge j L.length with h2|h2
  ·rw[if_pos ⟨h,h2⟩,List.getElem?_append_left (by simp;omega),List.getElem?_take_of_lt h]
  ·rw[if_neg (by omega),if_neg (by omega),List.getElem?_eq_none (by simp;omega)];rfl
 ·rw[if_neg (by omega)];rcases Nat.lt_or_ge L.length (4*k)with h2|h2
  ·rw[if_neg (by omega),List.getElem?_eq_none (by simp;omega)];rfl
  ·rw[if_pos h2,List.getElem?_append_right (by simp;omega),List.getElem?_drop];congr 2;simp;omega
theorem JA{w:tF}{base g ln c:Nat}{L:tJ}(k:Nat)(h:w.ownsRow base 232 4 (.slice (some ⟨g,0,none⟩) ln c) ln (L.map (Value.int .i64)))(hk:k<ln):
  cA 158 #[.slice (some ⟨g,0,none⟩) ln c,iV k,iV (k+1)] w fun e w'=>e= .returned (.slice (some ⟨g,0,none⟩) (ln-1) c)∧av g w w'∧∀j,j<4*(ln-1)→w'.cell? ⟨g,j,none⟩=some (iV ((L.take (4*k)++L.drop (4*k+4)).getD j 0)):=by
 obtain⟨i2,TZ,hz20,hz21,hz22⟩:=gY Tryz.wA;have wB:=h.cells (g:=g) rfl;have hlen:L.length=ln*4:=by have:=h.1;simpa using this
 rcases h.2 with⟨h0,_⟩|⟨g',cap,cur,e,_,hg,hc,hm,hs,ht⟩
 ·cases h0
 cases e;have cell:∀j,j<ln*4→w.cell? ⟨g,j,none⟩=some (iV (L.getD j 0)):=fun j hj=>by
  have:=wB j (iV (L.getD j 0)) (by simp[List.getElem?_eq_getElem (show j<L.length by omega)]);simpa[Addr.add_mid]using this
 have free:∀o,w.frozen? ⟨g,o,none⟩=false:=fun o=>by simp[World.frozen?,hg]
 unfold maxLen at hm;obtain⟨news,xv⟩:∃news,news=(L.drop (4*k+4)).map (Value.int .i64):=⟨_,rfl⟩;have Pv:news.length=(ln-(k+1))*4:=by rw[xv];simp;omega
 have Vg:∀t,t<(ln-(k+1))*4→news[t]? =some (iV (L.getD (4*k+4+t) 0)):=fun t ht=>by
  rw[xv];simp[List.getElem?_eq_getElem (show 4*k+4+t<L.length by omega)]
 obtain⟨m,yL⟩:∃m,m=k+1:=⟨_,rfl⟩;have hmi:(k:Int)+1=(m:Int):=by omega
 rw[hmi];rw[←yL]at Pv Vg;obtain⟨A,hA,hsrc⟩:∃A:Addr,(if c=m then some (⟨g,0,none⟩:Addr)else some ⟨g,m*4,none⟩)=some A∧Hid (∀t u,news[t]? =some u→w.drew.cell? (A.add t)=some u):=by
  by_cases hh:c=m
  ·refine⟨⟨g,0,none⟩,by simp[hh],ai fun t u hu=> ?_⟩;have h0:news.length=0:=by rw[Pv];omega
   rw[List.length_eq_zero_iff.1 h0]at hu;simp at hu
  ·refine⟨⟨g,m*4,none⟩,by simp[hh],ai fun t u hu=> ?_⟩;have ht:t<(ln-m)*4:=by
    have:=(List.getElem?_eq_some_iff.1 hu).1;rwa [Pv]at this
   rw[Vg t ht]at hu;cases hu;rw[Addr.add_mid,show m*4+t=4*k+4+t by omega];exact cell (4*k+4+t) (by omega)
 have s2:Hid (∀u∈news,u.oneCell'=true):=ai (by
  intro u hu;rw[xv]at hu;obtain⟨x,_,rfl⟩:=List.mem_map.1 hu
  rfl)
 have s3:Hid (∀t,t<news.length→(w.drew.cell? ⟨g,0+k*4+t,none⟩).isSome=true∧w.drew.frozen? ⟨g,0+k*4+t,none⟩=false):=ai (by
  intro t ht;rw[Pv]at ht
  exact⟨by show(w.cell? _).isSome=true;rw[Nat.zero_add,cell _ (by omega)];rfl,free _⟩)
 have s1:Hid (news.length=(ln-m)*4):=ai Pv;obtain⟨W1,hW1⟩:∃W1,W1=w.drew.setCells g (0+k*4) news:=⟨_,rfl⟩;have HW1:Hid (W1=w.drew.setCells g (0+k*4) news):=ai hW1;have T1:av g w W1:=by rw[hW1];exact(Gj g w).trans (av.uC g _ _ _)
 have inn:∀t,t<news.length→W1.cell? ⟨g,k*4+t,none⟩=news[t]? :=fun t ht=>by
  rw[hW1,Nat.zero_add];have:=World.cell?_setCells_in g news (k*4) w.drew (fun j hj=>by have:=(aa s3 j hj).1;rwa [Nat.zero_add]at this) t ht;rw[this,List.getElem?_eq_getElem ht]
 have out:∀o,o<k*4∨k*4+news.length≤o→W1.cell? ⟨g,o,none⟩=w.cell? ⟨g,o,none⟩:=fun o ho=>by
  rw[hW1,Nat.zero_add];exact World.cell?_setCells_out g news (k*4) w.drew ⟨g,o,none⟩ (fun _ _=>by simpa using ho)
 have f1:∀o,W1.frozen? ⟨g,o,none⟩=false:=fun o=>by rw[hW1,World.frozen?_setCells];exact free o
 have ne:k+(ln-m)=ln-1:=by omega
 have BH:∀ty,(Builtin.clear_ #[74] ty #[.slice (some ⟨g,(ln-1)*4,none⟩) (ln-(ln-1)) (c-(ln-1))]).run Tryz.prog W1= .ok (.tuple #[]) (W1.setCells g ((ln-1)*4) [iV 0,iV 0,iV 0,iV 0]):=
  fun ty=>by
   rw[show ln-(ln-1)=1 by omega];exact zx W1 g ((ln-1)*4) _ ty (fun j hj=>by rw[out _ (by rw[Pv];omega),cell _ (by omega)];rfl) (fun j _=>f1 _)
 have HF:Hid (av g w (W1.setCells g ((ln-1)*4) [iV 0,iV 0,iV 0,iV 0])∧∀j,j<4*(ln-1)→(W1.setCells g ((ln-1)*4) [iV 0,iV 0,iV 0,iV 0]).cell? ⟨g,j,none⟩=some (iV ((L.take (4*k)++L.drop (4*k+4)).getD j 0))):=ai (by
  refine⟨T1.trans (av.uC g _ _ _),fun j hj=> ?_⟩;rw[World.cell?_setCells_out g _ _ W1 ⟨g,j,none⟩ (fun _ _=>Or.inl (by show j<_;omega)),QY];rcases Nat.lt_or_ge j (4*k)with h1|h1
  ·rw[if_pos ⟨h1,by omega⟩,out j (by omega)];exact cell j (by omega)
  ·rw[if_neg (by omega),if_pos (by omega)];have:=inn (j-k*4) (by rw[Pv];omega);rw[show k*4+(j-k*4)=j by omega]at this
   rw[this,Vg _ (by omega),show 4*k+4+(j-k*4)=j+4 by omega])
 have hic:k≤c:=by omega
 have hjc:m≤c:=by omega
 have hjl:m≤ln:=by omega
 have YS:k<m:=by omega
 have ahq:¬k=m:=by omega
 have Hmk:=ai yL;clear yL hmi hW1 T1 inn out f1 Vg xv Pv cell free wB hs ht hlen h hg;go_enter Tryz.func158,Tryz.ntmps158
 go_wp2_with fail
 go_region_law (refine step_append_room rfl (.tmp 22) (.tmp 25) 74 rfl 232 i2 4 Tryz.underlying74 TZ hz21 g 0 k c (by simp[Act.eval,Act.put]) A (ln-m) (c-m) news (by simp[Act.eval,Act.put]) (aa s1) (aa hsrc) (aa s2) (by omega) (aa s3) ?_;rw[←aa HW1,ne])
 all_goals go_wp2
 go_ret;exact⟨rfl,aa HF⟩
end Go.Proofs.YtmhifeahpnkpiaaGreatDoor
namespace Go.Proofs
open Go.Shelf
def Tryz.laysIndex_ren:Go.Shelf.Ren:=⟨fun|6=>156|n=>n,fun|22=>74|23=>232|25=>237|3=>3|0=>0|4=>4|n=>n,fun|n=>n⟩
theorem Tryz.laysIndex:Go.Proofs.SlLaysH0.n6 Tryz.prog Tryz.laysIndex_ren:={
 mixed:=by kernel_rfl
 f6:=⟨Tryz.f156.name,by decide,Tryz.func156.trans (congrArg some (by kernel_rfl))⟩
 t0:=Tryz.underlying0
 a0:=Tryz.isAgg0
 z0:=Tryz.sizeOf0
 v0:=Tryz.zeroValue0
 t3:=Tryz.underlying3
 a3:=Tryz.isAgg3
 z3:=Tryz.sizeOf3
 v3:=Tryz.zeroValue3
 t4:=Tryz.underlying4
 a4:=Tryz.isAgg4
 z4:=Tryz.sizeOf4
 v4:=Tryz.zeroValue4
 t22:=Tryz.underlying74
 a22:=Tryz.isAgg74
 z22:=Tryz.sizeOf74
 v22:=Tryz.zeroValue74
 t25:=Tryz.underlying237
 a25:=Tryz.isAgg237
 z25:=Tryz.sizeOf237
 v25:=Tryz.zeroValue237}
def Tryz.laysOrder_ren:Go.Shelf.Ren:=⟨fun|6=>159|15=>199|14=>198|28=>233|29=>234|20=>225|21=>226|22=>227|23=>228|24=>229|25=>230|26=>231|27=>232|46=>249|47=>250|48=>251|49=>252|50=>253|57=>257|n=>n,fun|22=>73|24=>87|25=>240|3=>3|39=>269|0=>0|53=>314|55=>316|4=>4|46=>307|45=>306|50=>311|5=>5|9=>9|66=>324|70=>195|76=>331|77=>332|n=>n,fun|n=>n⟩
theorem Tryz.laysOrder:Go.Proofs.SlLaysF0.n6 Tryz.prog Tryz.laysOrder_ren:={
 mixed:=by kernel_rfl
 f6:=⟨Tryz.f159.name,by decide,Tryz.func159.trans (congrArg some (by kernel_rfl))⟩
 f14:=⟨Tryz.f198.name,by decide,Tryz.func198.trans (congrArg some (by kernel_rfl))⟩
 f15:=Tryz.func199.trans (congrArg some (by kernel_rfl))
 f20:=⟨Tryz.f225.name,by decide,Tryz.func225.trans (congrArg some (by kernel_rfl))⟩
 f21:=⟨Tryz.f226.name,by decide,Tryz.func226.trans (congrArg some (by kernel_rfl))⟩
 f22:=⟨Tryz.f227.name,by decide,Tryz.func227.trans (congrArg some (by kernel_rfl))⟩
 f23:=⟨Tryz.f228.name,by decide,Tryz.func228.trans (congrArg some (by kernel_rfl))⟩
 f24:=⟨Tryz.f229.name,by decide,Tryz.func229.trans (congrArg some (by kernel_rfl))⟩
 f25:=⟨Tryz.f230.name,by decide,Tryz.func230.trans (congrArg some (by kernel_rfl))⟩
 f26:=⟨Tryz.f231.name,by decide,Tryz.func231.trans (congrArg some (by kernel_rfl))⟩
 f27:=⟨Tryz.f232.name,by decide,Tryz.func232.trans (congrArg some (by kernel_rfl))⟩
 f28:=Tryz.func233.trans (congrArg some (by kernel_rfl))
 f29:=Tryz.func234.trans (congrArg some (by kernel_rfl))
 f46:=⟨Tryz.f249.name,by decide,Tryz.func249.trans (congrArg some (by kernel_rfl))⟩
 f47:=Tryz.func250.trans (congrArg some (by kernel_rfl))
 f48:=Tryz.func251.trans (congrArg some (by kernel_rfl))
 f49:=⟨Tryz.f252.name,by decide,Tryz.func252.trans (congrArg some (by kernel_rfl))⟩
 f50:=⟨Tryz.f253.name,by decide,Tryz.func253.trans (congrArg some (by kernel_rfl))⟩
 f57:=⟨Tryz.f257.name,by decide,Tryz.func257.trans (congrArg some (by kernel_rfl))⟩
 t0:=Tryz.underlying0
 a0:=Tryz.isAgg0
 z0:=Tryz.sizeOf0
 v0:=Tryz.zeroValue0
 t3:=Tryz.underlying3
 a3:=Tryz.isAgg3
 z3:=Tryz.sizeOf3
 v3:=Tryz.zeroValue3
 t4:=Tryz.underlying4
 a4:=Tryz.isAgg4
 z4:=Tryz.sizeOf4
 v4:=Tryz.zeroValue4
 t5:=Tryz.underlying5
 a5:=Tryz.isAgg5
 z5:=Tryz.sizeOf5
 v5:=Tryz.zeroValue5
 t9:=Tryz.underlying9
 a9:=Tryz.isAgg9
 z9:=Tryz.sizeOf9
 v9:=Tryz.zeroValue9
 t22:=Tryz.underlying73
 a22:=Tryz.isAgg73
 z22:=Tryz.sizeOf73
 v22:=Tryz.zeroValue73
 t25:=Tryz.underlying240
 a25:=Tryz.isAgg240
 z25:=Tryz.sizeOf240
 v25:=Tryz.zeroValue240
 t39:=Tryz.underlying269
 a39:=Tryz.isAgg269
 z39:=Tryz.sizeOf269
 v39:=Tryz.zeroValue269
 t45:=Tryz.underlying306
 a45:=Tryz.isAgg306
 z45:=Tryz.sizeOf306
 v45:=Tryz.zeroValue306
 t46:=Tryz.underlying307
 a46:=Tryz.isAgg307
 z46:=Tryz.sizeOf307
 v46:=Tryz.zeroValue307
 t50:=Tryz.underlying311
 a50:=Tryz.isAgg311
 z50:=Tryz.sizeOf311
 v50:=Tryz.zeroValue311
 t53:=Tryz.underlying314
 a53:=Tryz.isAgg314
 z53:=Tryz.sizeOf314
 v53:=Tryz.zeroValue314
 t55:=Tryz.underlying316
 a55:=Tryz.isAgg316
 z55:=Tryz.sizeOf316
 v55:=Tryz.zeroValue316
 t66:=Tryz.underlying324
 a66:=Tryz.isAgg324
 z66:=Tryz.sizeOf324
 v66:=Tryz.zeroValue324
 t70:=Tryz.underlying195
 a70:=Tryz.isAgg195
 z70:=Tryz.sizeOf195
 v70:=Tryz.zeroValue195
 t76:=Tryz.underlying331
 a76:=Tryz.isAgg331
 z76:=Tryz.sizeOf331
 v76:=Tryz.zeroValue331
 t77:=Tryz.underlying332
 a77:=Tryz.isAgg332
 z77:=Tryz.sizeOf332
 v77:=Tryz.zeroValue332}
def Tryz.laysCompare_ren:Go.Shelf.Ren:=⟨fun|5=>161|7=>200|n=>n,fun|22=>3|3=>3|4=>4|n=>n,fun|n=>n⟩
theorem Tryz.laysCompare:Go.Proofs.SlLaysC2.n5 Tryz.prog Tryz.laysCompare_ren:={
 mixed:=by kernel_rfl
 f5:=⟨Tryz.f161.name,by decide,Tryz.func161.trans (congrArg some (by kernel_rfl))⟩
 f7:=⟨Tryz.f200.name,by decide,Tryz.func200.trans (congrArg some (by kernel_rfl))⟩
 t3:=Tryz.underlying3
 a3:=Tryz.isAgg3
 z3:=Tryz.sizeOf3
 v3:=Tryz.zeroValue3
 t4:=Tryz.underlying4
 a4:=Tryz.isAgg4
 z4:=Tryz.sizeOf4
 v4:=Tryz.zeroValue4
 t22:=Tryz.underlying3
 a22:=Tryz.isAgg3
 z22:=Tryz.sizeOf3
 v22:=Tryz.zeroValue3}
end Go.Proofs
namespace Go.Proofs.YtmhifeahpnkpiaaGreatDoor
open Go.RowKit
section
open Go.Lib
theorem D_{W:tF}{R:Nat}{c he no bd:Int}{b:Bool}{tmps:tR}(h:aS W R c he no bd)(t:tmps[4]? =some (.pointer (some ⟨R,0,none⟩)))(tb:tmps[5]? =some (.bool b)):
  (results Tryz.f105 tmps).run Tryz.prog W= .ok (.tuple #[il c he no bd,.bool b]) W:=by
 obtain⟨k0,k1,k2,k3⟩:=h.cells;simp[results,Tryz.results105,go_sem,k0,k1,k2,k3,t,tb]
abbrev QZ:=Int×Int×Int×Int
abbrev JB(x:QZ):List Value:=[iV x.1,iV x.2.1,iV x.2.2.1,iV x.2.2.2]
def kQ(L:tJ)(j:Nat):QZ:=(L.getD (4*j) 0,L.getD (4*j+1) 0,L.getD (4*j+2) 0,L.getD (4*j+3) 0)
def iW(L:tJ)(n:Nat):List QZ:=(List.range n).map (kQ L)
theorem qD(L:tJ)(n:Nat):(iW L n).length=n:=by simp[iW]
theorem o6(L:tJ)(n j:Nat)(h:j<n):(iW L n)[j]! =kQ L j:=by
 simp[iW,h]
def gb(he hn:Int)(x:QZ):Bool:=x.1==he&&x.2.1==hn
theorem Vh{w:tF}{E:Nat}{k p i b he hn:Int}(hE:w.heap[E]? =some (.cells #[iV k,iV p,iV i,iV b,iV he,iV hn] 55 (0,0))):
  PredBelow Tryz.prog 157 #[.pointer (some ⟨E,0,none⟩)] (fun x:QZ=> .agg (JB x).toArray) (gb he hn) w:=by
 rintro W ⟨x0,x1,x2,x3⟩ hb;have e1:W.heap[E]? =_:=(hb.block E (cj hE)).trans hE;have hl:=cj e1;have k4:W.cell? ⟨E,4,none⟩=some (iV he):=by simp[World.cell?,e1]
 have k5:W.cell? ⟨E,5,none⟩=some (iV hn):=by simp[World.cell?,e1]
 have uR:E≠W.heap.size:=by omega
 clear hE e1;show cA 157 #[.agg #[iV x0,iV x1,iV x2,iV x3],.pointer (some ⟨E,0,none⟩)] W _;go_enter Tryz.func157,Tryz.ntmps157;go_wp2
 all_goals(go_ret;exact⟨by simp_all [gb],hb.alloc hb.size _⟩)
theorem index_none(fv:tN)(w:tF):cA 156 #[.slice none 0 0,fv] w fun e w'=>e= .returned (iV (-1))∧w'=w:=by
 go_enter Tryz.func156,Tryz.ntmps156;go_wp2
 go_loopw [5,8] (fun _ s8 wr=>s8=iV 0∧wr=w) (fun _ _ _=>0)
 case atStart=>exact⟨rfl,rfl⟩
 case round=>
  obtain⟨rfl,rfl⟩:=hrel;go_wp2;go_ret;exact⟨rfl,rfl⟩
def xw(he hn:Int)(L:tJ)(ln:Nat):Int:=Lib.idxBy (fun _ y=>gb he hn y) ((iW L ln).take ln) default
theorem M8{W:tF}{base E ln c2:Nat}{a2:tG}{L:tJ}{k p i b he hn:Int}(hE:W.heap[E]? =some (.cells #[iV k,iV p,iV i,iV b,iV he,iV hn] 55 (0,0)))
  (ow:W.ownsRow base 232 4 (.slice a2 ln c2) ln (L.map (Value.int .i64))) (hl:ln≤500):
  cA 156 #[.slice a2 ln c2,.func (.func 157) #[] #[.pointer (some ⟨E,0,none⟩)]] W (rB (iV (xw he hn L ln)) W):=by
 have wB:∀g,_→_:=fun g h=>ow.cells (g:=g) h;have hlen:L.length=ln*4:=by have:=ow.1;simpa using this
 rcases ow.2 with⟨h0,h1⟩|⟨g,cap,cur,e,_,hg,_⟩
 ·subst h1;cases h0;refine(index_none _ W).mono ?_;rintro e w' ⟨rfl,rfl⟩;exact⟨by simp[xw,iW,Lib.idxBy,Lib.idxByFrom],Below.refl _ _⟩
 ·cases e;have eg:∀args w,(callFunc 157 args).run Tryz.prog w= .ok (.enter 157 args) w:=enters_of Tryz.func157 (by kernel_rfl) rfl;have cell:∀j,j<ln*4→W.cell? ⟨g,j,none⟩=some (iV (L.getD j 0)):=fun j hj=>by
   have:=wB g rfl j (iV (L.getD j 0)) (by simp[List.getElem?_eq_getElem (show j<L.length by omega)]);simpa[Addr.add_mid]using this
  exact AnyQ.slices_IndexFunc Tryz.laysIndex 4 Tryz.isAgg232 Tryz.sizeOf232 JB (fun _=>rfl) (gb he hn) 157 #[.pointer (some ⟨E,0,none⟩)] eg g 0 ln c2 (iW L ln) W (Vh hE) (by rw[qD];exact Nat.le_refl _) (by omega) (cj hg) (fun j hj i v hi=>by
   rw[qD]at hj;rw[o6 L ln j hj]at hi;rw[Nat.zero_add]
   match i,hi with
   |0,hi=>simp[JB,kQ]at hi;rw[←hi,cell _ (by omega)];simp[Nat.mul_comm]
   |1,hi=>simp[JB,kQ]at hi;rw[←hi,cell _ (by omega)];simp[Nat.mul_comm]
   |2,hi=>simp[JB,kQ]at hi;rw[←hi,cell _ (by omega)];simp[Nat.mul_comm]
   |3,hi=>simp[JB,kQ]at hi;rw[←hi,cell _ (by omega)];simp[Nat.mul_comm]
   |i+4,hi=>simp[JB]at hi)
structure Dl(w wx:tF)(base B:Nat)(ep nx gv:Int)(a1:tG)(rn c1:Nat)(R:tJ)(g ln c2:Nat)(L:tJ)(ws:tH)(A:Nat):Prop where
 d:bj wx B ep nx gv (.slice a1 rn c1) (.slice (some ⟨g,0,none⟩) ln c2) ws
 o1:wx.ownsRow base 87 2 (.slice a1 rn c1) rn (R.map (Value.int .i64))
 row:RowK .i64 wx (some ⟨g,0,none⟩) (4*ln) L
 off:g≠A
 le:ln≤c2
 a:aS wx A 0 0 0 0
 dC:Below base w wx
 up:base≤B
 low:base≤g
section
variable{w wx wy:tF}{base B g:Nat}{ep nx gv:Int}{a1:tG}{rn ln c1 c2:Nat}{R L L':tJ}{ws:tH}{A:Nat}{wt:tK}{wz:Nat→Nat→Bool}
theorem Pc.Vi(C:Pc w wx base B ep nx gv a1 rn c1 R (some ⟨g,0,none⟩) ln c2 L ws A)(t:av g wx wy)(hl:L'.length=4*(ln-1))(hc:∀j,j<4*(ln-1)→wy.cell? ⟨g,j,none⟩=some (iV (L'.getD j 0)))
  (wL:∀u∈L',(Lit.int .i64 u).wf=true):
  bj wy B ep nx gv (.slice a1 rn c1) (.slice (some ⟨g,0,none⟩) ln c2) ws∧Dl w (wy.setCell ⟨B,4,none⟩ (.slice (some ⟨g,0,none⟩) (ln-1) c2)) base B ep nx gv a1 rn c1 R g (ln-1) c2 L' ws A:=by
 have gB:g≠B:=aU C.o2 C.d (by decide) g rfl;have gA:g≠A:=aU C.o2 C.a (by decide) g rfl;have nA:A≠B:=cK C.a C.d (by decide);have hg:=C.o2.lt g rfl;have dy:bj wy B ep nx gv (.slice a1 rn c1) (.slice (some ⟨g,0,none⟩) ln c2) ws:=C.d.dG t (fun e=>gB e.symm);have ay:aS wy A 0 0 0 0:=C.a.dG t (fun e=>gA e.symm);have o1y:=t.owns C.o1 (fun q hq e=>jj C.o1 C.o2 (by decide) q hq (by rw[e];rfl));have T2:=av.set B 4 wy (.slice (some ⟨g,0,none⟩) (ln-1) c2);have lc:ln≤c2:=by
  rcases C.o2.2 with⟨h,_⟩|⟨g',cap,cur,e,_,_,h,_⟩
  ·cases h
  ·cases e;exact h
 refine⟨dy,dy.zo _,T2.owns o1y (aU o1y dy (by decide)), ?_,gA,by omega,ay.dG T2 nA,T2.under (t.under C.dC hg.1) C.up,C.up,hg.1⟩;generalize wy.setCell ⟨B,4,none⟩ (.slice (some ⟨g,0,none⟩) (ln-1) c2)=wv at T2⊢;refine⟨hl,wL,fun j hj=>⟨g,0,rfl,by rw[T2.size,t.size];exact hg.2, ?_⟩⟩;rw[Nat.zero_add,←hc j hj];exact World.cell?_of_block (T2.block g gB)
theorem Dl.mL(C:Dl w wx base B ep nx gv a1 rn c1 R g ln c2 L ws A)(T:av A wx wy)(wR:∀u∈R,(Lit.int .i64 u).wf=true)(hW:gR ws wt wz)(hA:base≤A):jL wy base B ep nx gv rn R ln L wt wz∧Below base w wy:=by
 have nA:A≠B:=cK C.a C.d (by decide);have o1z:=T.owns C.o1 (aU C.o1 C.a (by decide));obtain⟨_,_,e1,r1,l1,_,n1,x1⟩:=RowK.jF o1z wR;cases e1;refine⟨⟨a1,c1,some ⟨g,0,none⟩,c2,ws,C.d.dG T (fun e=>nA e.symm),r1,T.row C.row (fun x hx _=>by cases hx;exact C.off),l1,C.le,n1,(by intro h;cases h),hW,x1, ?_⟩,T.under C.dC hA⟩;intro x hx;cases hx;exact C.low
end
theorem Gk(he hn:Int)(L:tJ)(ln:Nat):xw he hn L ln= -1∨∃m:Nat,m<ln∧xw he hn L ln=m:=by
 by_cases h:∃m,m<ln∧gb he hn (kQ L m)=true
 ·right;have hP:∃m,m<ln∧gb he hn (kQ L m)=true:=h;obtain⟨m,⟨hm,hh⟩,hmin⟩:∃m,(m<ln∧gb he hn (kQ L m)=true)∧∀j,j<m→¬(j<ln∧gb he hn (kQ L j)=true):=by
   obtain⟨m,hm⟩:=hP
   induction m using Nat.strongRecOn with
   |ind m ih=>
    by_cases hj:∃j,j<m∧(j<ln∧gb he hn (kQ L j)=true)
    ·obtain⟨j,hj1,hj2⟩:=hj;exact ih j hj1 hj2
    ·exact⟨m,hm,fun j hj1 hj2=>hj ⟨j,hj1,hj2⟩⟩
  refine⟨m,hm,Lib.idxBy_hit _ (iW L ln) ln m default hm (by rw[qD];exact Nat.le_refl _) (by show gb he hn (iW L ln)[m]! =true;rw[o6 L ln m hm];exact hh) (fun j hj=> ?_)⟩;show gb he hn (iW L ln)[j]! =false;rw[o6 L ln j (by omega)];have:=hmin j hj;simpa[show j<ln by omega]using this
 ·left;refine Lib.idxBy_miss _ (iW L ln) ln default (fun j hj=> ?_);show gb he hn (iW L ln)[j]! =false;rw[o6 L ln j hj];have:¬gb he hn (kQ L j)=true:=fun e=>h ⟨j,hj,e⟩;simpa using this
theorem Vj(L:tJ)(m ln:Nat)(h:L.length=ln*4)(hm:m<ln):(L.take (4*m)++L.drop (4*m+4)).length=4*(ln-1):=by simp;omega
theorem YT{L:tJ}(h:∀u∈L,(Lit.int .i64 u).wf=true)(a b:Nat):∀u∈L.take a++L.drop b,(Lit.int .i64 u).wf=true:=by
 intro u hu;rcases List.mem_append.1 hu with hu|hu
 ·exact h u (List.mem_of_mem_take hu)
 ·exact h u (List.mem_of_mem_drop hu)
theorem Vk(base B:Nat)(ep nx gv:Int)(a1:tG)(rn c1:Nat)(a2:tG)(ln c2:Nat)(R L:tJ)(ws:tH)(wt:tK)(wz:Nat→Nat→Bool)(k p i b he hn:Int)(w:tF)(D:rT w base B ep nx gv a1 rn c1 a2 ln c2 R L ws)(hW:gR ws wt wz)(dS:base≤w.heap.size)(hs:rn+ln≤500)
  (Q:Value→World→Prop) (HS:Hid ((¬he=ep)→∀w',bZ w w'→Q (.tuple #[il 11 0 0 0,.bool false]) w'))
  (HN:Hid (he=ep→xw he hn L ln= -1→∀w',bZ w w'→Q (.tuple #[il 7 0 0 0,.bool false]) w'))
  (HY:Hid (he=ep→∀m:Nat,m<ln→xw he hn L ln=m→∀w',jL w' base B ep nx gv rn R (ln-1) (L.take (4*m)++L.drop (4*m+4)) wt wz→Below base w w'→Q (.tuple #[il 0 0 0 0,.bool true]) w')):
  cA 105 #[.pointer (some ⟨B,0,none⟩),zq k p i b he hn] w fun e w'=>∃v,e= .returned v∧Q v w':=by
 go_enter Tryz.func105,Tryz.ntmps105
 go_wp2_with fail
 obtain⟨W2,hW2,z2,b2,s2,ev2⟩:=Ju w k p i b he hn;rw[←hW2];clear hW2;have D2:=D.next b2;obtain⟨d0,d1,d2,d3,d4⟩:=D2.d.heads;have v4:W2.cell? ⟨w.heap.size,4,none⟩=some (iV he):=by simp[World.cell?,ev2]
 have v5:W2.cell? ⟨w.heap.size,5,none⟩=some (iV hn):=by simp[World.cell?,ev2]
 have Xx:=ai z2;have th:=ai b2;have zy:=ai ev2;have Ud:=ai D2;clear D D2 z2 b2 s2 ev2;by_cases gZ:he=ep
 case neg=>
  go_quiet (fail)
  have HZC:=ai ((aa Xx).next (qv W2 nq));have HBC:=ai (Below.next (aa th) (qv W2 nq));clear Xx th zy Ud d0 d1 d2 d3 d4 v4 v5
  go_wp2_with (go_at_call 155;refine(dJ _ _).mono ?_;rintro e w1 ⟨rfl,b1⟩;have z1:=(aa HZC).next b1;have b2:=Below.next (aa HBC) b1;obtain⟨y0,y1,y2,y3⟩:=z1.cells;have yf:=z1.free;have HZ:=ai z1;have HB:=ai b2;clear b1 z1 b2)
  exact bodyPost_ret (D_ ((aa HZ).store _ 0 0 0) rfl rfl) rfl ⟨_,rfl,aa HS gZ _ ((gC w1 (w.heap.size+1) _ 0 0 0).under (aa HB) (Nat.le_succ _))⟩
 case pos=>
  subst gZ
  go_quiet (fail)
  go_wp2_with fail
  have b3:Below W2.heap.size W2 (W2.drewN nq):=qv W2 nq;have D3:=(aa Ud).next b3;have Xw:=D3.d.lt;refine(M8 (show(W2.drewN nq).heap[w.heap.size]? =_ from aa zy) D3.o2 (by omega)).mono ?_;rintro e w4 ⟨rfl,b4⟩;have D4:=D3.next b4;have C4:Pc w w4 base B he nx gv a1 rn c1 R a2 ln c2 L ws (w.heap.size+1):=
   ⟨D4.d,D4.o1,D4.o2,((aa Xx).next b3).next b4,(Below.next (Below.next (aa th) b3) b4).mono dS,D4.up⟩
  have K9:=ai (Below.next (Below.next (aa th) b3) b4);have HZC:=ai (((aa Xx).next b3).next b4);have K_:=ai D4;have Xl:base≤w4.heap.size:=by have:=D4.d.lt;have:=D4.up;omega
  clear Xx th zy Ud d0 d1 d2 d3 d4 v4 v5 D3 D4 b3 b4 Xw;rcases Gk he hn L ln with hk|⟨m,hm,hk⟩
  case inl=>
   rw[hk];have HK:=ai hk;clear C4 hk
   go_wp2_with (go_at_call 155;refine(dJ _ _).mono ?_;rintro e w1 ⟨rfl,b1⟩;have z1:=(aa HZC).next b1;have b2:=Below.next (aa K9) b1;obtain⟨y0,y1,y2,y3⟩:=z1.cells;have yf:=z1.free;have HZ:=ai z1;have HB:=ai b2;clear b1 z1 b2)
   exact bodyPost_ret (D_ ((aa HZ).store _ 0 0 0) rfl rfl) rfl ⟨_,rfl,aa HN (by simp) (aa HK) _ ((gC w1 (w.heap.size+1) _ 0 0 0).under (aa HB) (Nat.le_succ _))⟩
  case inr=>
   rw[hk];have HK:=ai hk;clear hk HZC;obtain⟨d0,d1,d2,d3,d4⟩:=C4.d.heads;have hmz:¬(m:Int)<0:=by omega
   have hlen:L.length=ln*4:=by have:=C4.o2.1;simpa using this
   obtain⟨g,hg⟩:∃g,a2=some ⟨g,0,none⟩:=by
    rcases C4.o2.2 with⟨_,h0⟩|⟨g,cap,cur,e,_⟩
    ·omega
    ·cases e;exact⟨g,rfl⟩
   subst hg;have HC4:=ai C4;have wL:=(aa K_).wL;have HWR:=ai (aa K_).wR;clear C4
   go_wp2_with fail
   refine(JA m (aa HC4).o2 hm).mono ?_;rintro e w5 ⟨rfl,t5,c5⟩;obtain⟨y5,C5⟩:=(aa HC4).Vi t5 (Vj L m ln hlen hm) c5 (YT wL _ _);obtain⟨e0,e1,e2,e3,e4⟩:=y5.heads;have ef:=y5.free;obtain⟨u0,u1,u2,u3⟩:=C5.a.cells;have uf:=C5.a.free;have HC5:=ai C5;clear d0 d1 d2 d3 d4 t5 c5 y5 C5 HC4 wL K_;go_wp2;obtain⟨D9,B9⟩:=(aa HC5).mL (gC _ (w.heap.size+1) 0 0 0 0) (aa HWR) hW (by omega);exact bodyPost_ret (D_ ((aa HC5).a.store 0 0 0 0) rfl rfl) rfl ⟨_,rfl,aa HY (by simp) m hm (aa HK) _ D9 B9⟩
end
section
open Go.Lib Go.Sort
abbrev Ea(x:Int×Int):List Value:=[iV x.1,iV x.2]
def gD(R:tJ)(i:Nat):Int×Int:=(R.getD (2*i) 0,R.getD (2*i+1) 0)
def cg(R:tJ)(n:Nat):List (Int×Int):=(List.range n).map (gD R)
theorem Gl(R:tJ)(n:Nat):(cg R n).length=n:=by simp[cg]
structure Ordered(R R':tJ)(n:Nat):Prop where
 len:R'.length=2*n
 perm:(cg R' n).Perm (cg R n)
 Jj:∀i j,i<j→j<n→R'.getD (2*i) 0≤R'.getD (2*j) 0
theorem Vl(x y:Int×Int):ltOf (fun x y:Int×Int=>Lib.compareInt x.1 y.1) x y=decide (x.1<y.1):=by
 unfold ltOf Lib.compareInt;by_cases h1:x.1<y.1
 ·simp[h1]
 ·by_cases h2:y.1<x.1<;>simp[h1,h2]
theorem abl:SWO (ltOf fun x y:Int×Int=>Lib.compareInt x.1 y.1) where
 irrefl x:=by rw[Vl];simp
 trans x y z h1 h2:=by rw[Vl]at*;simp at*;omega
 ntrans x y z h1 h2:=by rw[Vl]at*;simp at*;omega
theorem YU(x y:Int×Int)(W:tF):cA 160 #[.agg #[iV x.1,iV x.2],.agg #[iV y.1,iV y.2]] W fun e w'=>e= .returned (iV (Lib.compareInt x.1 y.1))∧∃q os',w'=grow (W.drewN q) os':=by
 have mA:=fun W'=>AnyG.cmp_Compare_int Tryz.laysCompare x.1 y.1 W';change∀W',cA 161 _ _ _ at mA;generalize Lib.compareInt x.1 y.1=r at mA⊢;go_enter Tryz.func160,Tryz.ntmps160
 go_wp2_with (go_at_call 161;refine(mA _).mono ?_;rintro e w' ⟨rfl,rfl⟩)
 go_ret;exact⟨rfl,0,_,by rw[alloc_eq_grow,alloc_eq_grow,grow_grow];rfl⟩
def zz(d:Array (Int×Int)):List Int:=(List.range (2*d.size)).map fun j=>if j % 2=0 then(d[j/2]!).1 else(d[j/2]!).2
theorem nQ(d:Array (Int×Int))(j:Nat)(h:j<2*d.size):(zz d).getD j 0=if j % 2=0 then(d[j/2]!).1 else(d[j/2]!).2:=by
 simp[zz,h]
theorem JC(d:Array (Int×Int)):cg (zz d) d.size=d.toList:=by
 apply List.ext_getElem
 ·simp[cg]
 ·intro i h1 h2;have hi:i<d.size:=by simpa using h2
  simp only[cg,gD,List.getElem_map,List.getElem_range];rw[nQ d _ (by omega),nQ d _ (by omega),if_pos (by omega),if_neg (by omega),show 2*i/2=i by omega,show(2*i+1)/2=i by omega];simp[hi]
theorem M_(R:tJ)(n i:Nat)(h:i<n):(cg R n).toArray[i]! =gD R i:=by
 simp[cg,h]
theorem JD{w:tF}{base g n c:Nat}{R:tJ}(h:w.ownsRow base 87 2 (.slice (some ⟨g,0,none⟩) n c) n (R.map (Value.int .i64)))(hn:n≤500):
  cA 159 #[.slice (some ⟨g,0,none⟩) n c,.func (.func 160) #[] #[]] w fun e w'=>e= .returned (.tuple #[])∧∃R',Ordered R R' n∧w.grownBy w' (some g)∧∀j,j<2*n→w'.cell? ⟨g,j,none⟩=some (iV (R'.getD j 0)):=by
 have wB:∀j u,_→_:=fun j u hu=>h.cells (g:=g) rfl j u hu;have hlen:R.length=n*2:=by have:=h.1;simpa using this
 have K3:=(h.lt g rfl).2;rcases h.2 with⟨h0,_⟩|⟨g',cap,cur,e,_,hg,_⟩
 ·cases h0
 cases e;have cell:∀j,j<n*2→w.cell? ⟨g,j,none⟩=some (iV (R.getD j 0)):=fun j hj=>by
  have:=wB j (iV (R.getD j 0)) (by simp[List.getElem?_eq_getElem (show j<R.length by omega)]);simpa[Addr.add_mid]using this
 have eg:∀args w,(callFunc 160 args).run Tryz.prog w= .ok (.enter 160 args) w:=enters_of Tryz.func160 (by kernel_rfl) rfl;have lq:(cg R n).toArray.size=n:=by simp[cg]
 have hH:HoldsK Ea 2 w g 0 (cg R n).toArray:=by
  intro j hj;rw[size_flatK,lq]at hj;refine⟨?_,by simp[World.frozen?,hg]⟩;rw[Nat.zero_add,cell j hj,get_flatK _ _ _ _ (by rw[lq];exact hj),M_ R n _ (by omega)];rcases Nat.mod_two_eq_zero_or_one j with hm|hm
  ·rw[hm];simp only[id,Ea,gD];rw[show 2*(j/2)=j by omega];rfl
  ·rw[hm];simp only[id,Ea,gD];rw[show 2*(j/2)+1=j by omega];rfl
 have mA:=AnyQ.slices_SortFunc Tryz.laysOrder 2 Tryz.isAgg87 Tryz.sizeOf87 Ea (fun _=>rfl) (fun x v hv=>by simp[Ea]at hv;rcases hv with rfl|rfl<;>rfl) (fun x y=>Lib.compareInt x.1 y.1) abl 160 #[] g 0 c (cg R n).toArray w eg (fun _ _ _ _ x y=>YU x y _) hH K3 (by rw[lq];omega)
 rw[lq]at mA;refine(show cA 159 _ _ _ from mA).mono ?_;rintro e w' ⟨rfl,d',m,os,⟨ps,_,pp⟩,so,rfl⟩;rw[lq]at ps;have hK:=holdsK_sortWorldK Ea 2 w g 0 m (cg R n).toArray d' os K3 hH (by rw[ps,lq]);refine⟨rfl,zz d',⟨by simp[zz,ps], ?_, ?_⟩, ?_, ?_⟩
 ·have e1:=JC d';rw[ps]at e1;rw[e1];have e2:(d'.extract 0 n).toList=d'.toList:=by rw[←ps];simp
  have e3:((cg R n).toArray.extract 0 n).toList=cg R n:=by simp[List.take_of_length_le (Nat.le_of_eq (Gl R n))]
  rw[e2,e3]at pp;exact pp
 ·intro i j hij hj;have:=so i j (Nat.zero_le _) hij hj;rw[Vl]at this;rw[nQ d' _ (by omega),nQ d' _ (by omega),if_pos (by omega),if_pos (by omega),show 2*i/2=i by omega,show 2*j/2=j by omega];simp at this;exact this
 ·refine⟨rfl,rfl,rfl, ?_,fun k hk fJ=> ?_⟩
  ·simp[sortWorldK,putRowK,Go.Sort.putRow,Go.Sort.mapBlock,Go.Sort.ahead]
  ·have:g≠k:=fun e=>fJ (by rw[e]);show(grow (putRowK Ea 2 (Go.Sort.ahead w m) g 0 d') os).heap[k]? =w.heap[k]?;rw[heap_grow_old _ _ (by simp[putRowK,Go.Sort.putRow,Go.Sort.mapBlock,Go.Sort.ahead];exact hk)];simp[putRowK,Go.Sort.putRow,Go.Sort.mapBlock,Go.Sort.ahead,Array.getElem?_modify,this]
 ·intro j hj;have:=(hK j (by rw[size_flatK,ps];omega)).1;rw[Nat.zero_add]at this;rw[this,get_flatK _ _ _ _ (by rw[ps];omega),nQ d' j (by omega)];rcases Nat.mod_two_eq_zero_or_one j with hm|hm
  ·rw[hm];simp[Ea]
  ·rw[hm];simp[Ea]
theorem La{W:tF}{R:Nat}{c he no bd:Int}{b:Bool}{tmps:tR}(h:aS W R c he no bd)(t:tmps[4]? =some (.pointer (some ⟨R,0,none⟩)))(tb:tmps[5]? =some (.bool b)):
  (results Tryz.f106 tmps).run Tryz.prog W= .ok (.tuple #[il c he no bd,.bool b]) W:=by
 obtain⟨k0,k1,k2,k3⟩:=h.cells;simp[results,Tryz.results106,go_sem,k0,k1,k2,k3,t,tb]
def dH(L:tJ):Nat→List Int
 |0=>[]
 |k+1=>dH L k++[L.getD (4*k+2) 0,L.getD (4*k+3) 0]
theorem Ck{L:tJ}(wL:∀u∈L,(Lit.int .i64 u).wf=true):∀k,∀u∈dH L k,(Lit.int .i64 u).wf=true
 |0,u,hu=>by cases hu
 |k+1,u,hu=>by
  simp only[dH,List.mem_append,List.mem_cons,List.not_mem_nil,or_false]at hu;rcases hu with hu|rfl|rfl
  ·exact Ck wL k u hu
  ·exact l8 L wL _
  ·exact l8 L wL _
theorem Ordered.wf{X R':tJ}{n:Nat}(h:Ordered X R' n)(wX:∀u∈X,(Lit.int .i64 u).wf=true):∀u∈R',(Lit.int .i64 u).wf=true:=by
 intro u hu;obtain⟨j,hj,rfl⟩:=List.mem_iff_getElem.1 hu;have hl:=h.len;have hm:gD R' (j/2)∈cg R' n:=List.mem_map.2 ⟨j/2,by simp;omega,rfl⟩;obtain⟨i,_,hi⟩:=List.mem_map.1 (h.perm.mem_iff.1 hm);simp only[gD,Prod.mk.injEq]at hi;rcases Nat.mod_two_eq_zero_or_one j with hm|hm
 ·have:R'[j]=R'.getD (2*(j/2)) 0:=by rw[show 2*(j/2)=j by omega];simp[hj]
  rw[this,←hi.1];exact l8 X wX _
 ·have:R'[j]=R'.getD (2*(j/2)+1) 0:=by rw[show 2*(j/2)+1=j by omega];simp[hj]
  rw[this,←hi.2];exact l8 X wX _
theorem Na{w:tF}{base n c:Nat}{a:tG}{X:tJ}(h:w.ownsRow base 87 2 (.slice a n c) n (X.map (Value.int .i64)))(hn:n≤500)(wX:∀u∈X,(Lit.int .i64 u).wf=true):
  cA 159 #[.slice a n c,.func (.func 160) #[] #[]] w fun e w'=>e= .returned (.tuple #[])∧∃R',Ordered X R' n∧w.grownBy w' (Value.slice a n c).ownBlock∧RowK .i64 w' a (2*n) R'∧(a=none→c=0)∧n≤c:=by
 have hlen:X.length=n*2:=by have:=h.1;simpa using this
 rcases h.2 with⟨h0,h1⟩|⟨g,cap,cur,e,_,hg,hc,_⟩
 ·subst h1;cases h0;have hX:X=[]:=List.length_eq_zero_iff.1 hlen;refine(show cA 159 _ _ _ from AnyF.slices_SortFunc_none Tryz.laysOrder none 0 _ w).mono ?_;rintro e w' ⟨rfl,rfl⟩;exact⟨rfl,[],⟨rfl,by simp[cg],fun i j _ h=>absurd h (Nat.not_lt_zero _)⟩,World.grownBy.refl _ _,RowK.nil _ _ _,fun _=>rfl,Nat.le_refl _⟩
 ·cases e;have K3:=(h.lt g rfl).2;refine(JD h hn).mono ?_;rintro e w' ⟨rfl,R',o,gr,cell⟩;refine⟨rfl,R',o,gr,⟨o.len,o.wf wX,fun j hj=>⟨g,0,rfl,by have:=gr.size;omega,by rw[Nat.zero_add];exact cell j hj⟩⟩,(fun h=>by cases h),hc⟩
structure Eo(w wx:tF)(base B:Nat)(ep nx gv:Int)(a:tG)(n c:Nat)(R':tJ)(lv:tN)(ws:tH)(A:Nat):Prop where
 d:bj wx B ep nx gv (.slice a n c) lv ws
 row:RowK .i64 wx a (2*n) R'
 off:∀x,a=some x→x.block≠B∧x.block≠A∧base≤x.block
 le:n≤c
 nil:a=none→c=0
 a:aS wx A 0 0 0 0
 dC:Below base w wx
 up:base≤B
section
variable{w wx wy:tF}{base B:Nat}{ep nx gv:Int}{a a2:tG}{n ln c c2:Nat}{X R' L:tJ}{lv:tN}{ws:tH}{A:Nat}{wt:tK}{wz:Nat→Nat→Bool}
theorem Pc.sorted(C:Pc w wx base B ep nx gv a n c X a2 ln c2 L ws A)(gr:wx.grownBy wy (Value.slice a n c).ownBlock)(row:RowK .i64 wy a (2*n) R')(rN:a=none→c=0)(hle:n≤c):Eo w wy base B ep nx gv a n c R' (.slice a2 ln c2) ws A:=by
 have keep:∀Y o,wx.heap[Y]? =some o→(Value.slice a n c).ownBlock≠some Y→wy.heap[Y]? =some o:=by
  intro Y o hY fJ;rw[gr.block Y (cj hY) (fun e=>fJ e.symm)];exact hY
 have oB:=aU C.o1 C.d (by decide);have oA:=aU C.o1 C.a (by decide);refine⟨keep B _ C.d (fun e=>oB B e rfl),row,fun x hx=> ?_,hle,rN,keep A _ C.a (fun e=>oA A e rfl),C.dC.grown gr (by have:=C.d.lt;have:=C.up;omega) (fun q hq=>(C.o1.lt q hq).1),C.up⟩;subst hx;exact⟨oB _ rfl,oA _ rfl,(C.o1.lt _ rfl).1⟩
theorem Eo.mL(E:Eo w wx base B ep nx gv a n c R' lv ws A)(t:av B wx wy){MX MY MZ:Int}{lv':tN}(d:bj wy B MX MY MZ (.slice a n c) lv' ws):Eo w wy base B MX MY MZ a n c R' lv' ws A:=
 ⟨d,t.row E.row (fun x hx _=>(E.off x hx).1),E.off,E.le,E.nil,E.a.dG t (cK E.a E.d (by decide)),t.under E.dC E.up,E.up⟩
theorem Eo.out(E:Eo w wx base B ep nx gv a n c R' (.slice none 0 0) ws A)(t:av A wx wy)(hW:gR ws wt wz)(hA:base≤A):jL wy base B ep nx gv n R' 0 [] wt wz∧Below base w wy:=by
 have nA:A≠B:=cK E.a E.d (by decide);exact⟨⟨a,c,none,0,ws,E.d.dG t (fun e=>nA e.symm),t.row E.row (fun x hx _=>(E.off x hx).2.1),RowK.nil _ _ _,E.le,Nat.le_refl _,E.nil,fun _=>rfl,hW,fun x hx=>(E.off x hx).2.2,fun x hx=>by cases hx⟩,t.under E.dC hA⟩
end
theorem Vm(base B:Nat)(ep nx gv:Int)(a1:tG)(rn c1:Nat)(a2:tG)(ln c2:Nat)(R L:tJ)(ws:tH)(wt:tK)(wz:Nat→Nat→Bool)(k p i b he hn:Int)(w:tF)(D:rT w base B ep nx gv a1 rn c1 a2 ln c2 R L ws)(hW:gR ws wt wz)(dS:base≤w.heap.size)(hs:rn+ln≤500)(h0:0≤ep)(h1:ep≤1048576)
  (Q:Value→World→Prop) (HF:Hid (ep=1048576→∀w',bZ w w'→Q (.tuple #[il 14 0 0 0,.bool false]) w'))
  (HY:Hid (ep<1048576→∀R' w',Ordered (R++dH L ln) R' (rn+ln)→jL w' base B (ep+1) nx 0 (rn+ln) R' 0 [] wt wz→Below base w w'→Q (.tuple #[il 0 0 0 0,.bool true]) w')):
  cA 106 #[.pointer (some ⟨B,0,none⟩),zq k p i b he hn] w fun e w'=>∃v,e= .returned v∧Q v w':=by
 obtain⟨i1,hi1,QO,hz11,hz12⟩:=gY Tryz.K5;obtain⟨d0,d1,d2,d3,d4⟩:=D.d.heads;have hBl:=D.d.lt;have Xw:B≠w.heap.size:=by omega
 have M4:B≠w.heap.size+1:=by omega
 by_cases hf:ep=1048576
 case pos=>
  clear D;go_enter Tryz.func106,Tryz.ntmps106
  go_wp2_with (go_at_call 155;refine(dJ _ _).mono ?_;rintro e w1 ⟨rfl,b1⟩;obtain⟨z1,b2⟩:=D8 b1;obtain⟨y0,y1,y2,y3⟩:=z1.cells;have yf:=z1.free;have HZ:=ai z1;have HB:=ai b2;clear b1 z1 b2)
  exact bodyPost_ret (La ((aa HZ).store _ 0 0 0) rfl rfl) rfl ⟨_,rfl,aa HF (by simp[hf]) _ ((gC w1 (w.heap.size+1) _ 0 0 0).under (aa HB) (Nat.le_succ _))⟩
 case neg=>
  go_enter Tryz.func106,Tryz.ntmps106
  go_wp2_with fail
  obtain⟨W2,hW2,z2,b2,s2,-⟩:=Ju w k p i b he hn;rw[←hW2,show(ep==1048576)=false by simpa using hf];clear hW2;have D2:=D.next b2;have C2:Pc w W2 base B ep nx gv a1 rn c1 R a2 ln c2 L ws (w.heap.size+1):=⟨D2.d,D2.o1,D2.o2,z2,b2.mono dS,D2.up⟩;have HD:=ai D;have wL:=D.wL;clear d0 d1 d2 d3 d4 Xw M4 D D2 z2 b2 s2
  go_loopw [23] (fun t wr=>∃(m:Nat) (a:tG) (c:Nat),m≤ln∧t=iV m∧Pc w wr base B ep nx gv a (rn+m) c (R++dH L m) a2 ln c2 L ws (w.heap.size+1)) (fun t _=>ln-(intOf t).toNat)
  case atStart=>exact⟨0,a1,c1,by omega,rfl,by simpa[dH]using C2⟩
  case round=>
   obtain⟨m,a,c,hm,rfl,C⟩:=hrel;clear C2;by_cases aW:m<ln
   ·obtain⟨_,_,e2,r2,_,_,_,_⟩:=RowK.jF C.o2 wL;cases e2;obtain⟨g,off,rfl⟩:=r2.form (by omega);obtain⟨x0,hx0⟩:∃x,x=L.getD (4*m) 0:=⟨_,rfl⟩;obtain⟨x1,hx1⟩:∃x,x=L.getD (4*m+1) 0:=⟨_,rfl⟩;obtain⟨x2,hx2⟩:∃x,x=L.getD (4*m+2) 0:=⟨_,rfl⟩;obtain⟨x3,hx3⟩:∃x,x=L.getD (4*m+3) 0:=⟨_,rfl⟩;have k0:wr.cell? ⟨g,off+m*4,none⟩=some (iV x0):=by rw[Nat.mul_comm m 4,hx0];exact r2.at (4*m) (by omega)
    have k1:wr.cell? ⟨g,off+m*4+1,none⟩=some (iV x1):=by rw[Nat.mul_comm m 4,hx1];exact r2.at (4*m+1) (by omega)
    have k2:wr.cell? ⟨g,off+m*4+2,none⟩=some (iV x2):=by rw[Nat.mul_comm m 4,hx2];exact r2.at (4*m+2) (by omega)
    have k3:wr.cell? ⟨g,off+m*4+3,none⟩=some (iV x3):=by rw[Nat.mul_comm m 4,hx3];exact r2.at (4*m+3) (by omega)
    have K3:g<wr.heap.size:=r2.lt (by omega);have hgn:g≠wr.heap.size:=by omega
    have lB:=C.d.lt;have nB:B≠wr.heap.size:=by omega
    have hT:Hid (R++dH L (m+1)=(R++dH L m)++[x2,x3]):=ai (by rw[hx2,hx3];simp[dH]);have HC:=ai C;clear C r2 hx0 hx1 hx2 hx3
    go_wp2_with fail
    obtain⟨W3,hW3,b3,s3,e3⟩:∃W3,W3=wr.alloc (.cells #[iV x0,iV x1,iV x2,iV x3] 232)∧bZ wr W3∧W3.heap.size=wr.heap.size+1∧W3.heap[wr.heap.size]? =some (.cells #[iV x0,iV x1,iV x2,iV x3] 232 (0,0)):=⟨_,rfl,aB _ _,by simp,heap_alloc_new wr _⟩;rw[←hW3];have q2:W3.cell? ⟨wr.heap.size,2,none⟩=some (iV x2):=by simp[World.cell?,e3]
    have q3:W3.cell? ⟨wr.heap.size,3,none⟩=some (iV x3):=by simp[World.cell?,e3]
    have hbr:base≤wr.heap.size:=by have:=(aa HC).up;omega
    have C3:=(aa HC).next b3 hbr;obtain⟨d0,d1,d2,d3,d4⟩:=C3.d.heads;have df:=C3.d.free;have lB3:=C3.d.lt;have nB3:B≠W3.heap.size:=by omega
    have nw3:wr.heap.size≠W3.heap.size:=by omega
    have lw3:wr.heap.size<W3.heap.size:=by omega
    have M6:base≤W3.heap.size:=by omega
    have b7:Below W3.heap.size W3 (W3.alloc (.cells #[iV x2,iV x3] 87)).drew:=Below.next (aB _ _) ⟨rfl,rfl,rfl,Nat.le_refl _,fun _ _=>rfl⟩;have HO7:Hid ((W3.alloc (.cells #[iV x2,iV x3] 87)).drew.ownsRow base 87 2 (.slice a (rn+m) c) (rn+m) ((R++dH L m).map (Value.int .i64))):=ai (aK C3.o1 (fun q _ hq=>b7.block q hq));have Xy:=ai C3;have QM:=ai b7;clear hW3 b3 s3 e3 k0 k1 k2 k3 HC C3 b7 lB nB K3 hgn;generalize hXs:R++dH L m=Xs at HO7 Xy hT;have HXs:=ai hXs;clear hXs
    go_region_law (refine nP rfl (.tmp 32) (.tmp 35) 73 rfl base 87 i1 _ 2 16 Tryz.underlying73 hi1 QO hz11 hz12 rfl (by decide) (.slice a (rn+m) c) (rn+m) Xs rfl (aa HO7) ⟨W3.heap.size,0,none⟩ 1 1 [x2,x3] rfl rfl (abf _ _ _ _) (by unfold maxLen;omega) (by omega) (by simp;omega) ?_;intro v' w7 own7 grow7;obtain⟨a3,c3,rfl⟩:=iN own7;obtain⟨e7,C7⟩:=(aa Xy).ready (aa QM) grow7 [x2,x3] M6 own7;have f3:=e7.free;have k3:=e7.heads.2.2.2.1;rw[←aa hT]at C7;have HC7:Hid (Pc w (w7.setCell ⟨B,3,none⟩ (.slice a3 (rn+m+1) c3)) base B ep nx gv a3 (rn+(m+1)) c3 (R++dH L (m+1)) (some ⟨g,off,none⟩) ln c2 L ws (w.heap.size+1)):=ai C7;clear C7 e7 own7 grow7)
    all_goals go_wp2
    all_goals
     go_roundw
     case rel=>exact⟨m+1,_,_,by omega,by go_num,aa HC7⟩
     case measure=>simp[intOf];omega
   ·obtain rfl:m=ln:=by omega
    obtain⟨d0,d1,d2,d3,d4⟩:=C.d.heads;have df:=C.d.free;have HC:=ai C;have wX:∀u∈R++dH L m,(Lit.int .i64 u).wf=true:=by
     intro u hu;rcases List.mem_append.1 hu with hu|hu
     ·exact(aa HD).wR u hu
     ·exact Ck wL m u hu
    clear C
    go_wp2_with fail
    refine(Na (aa HC).o1 hs wX).mono ?_;rintro e w5 ⟨rfl,R',o5,g5,r5,n5,l5⟩;have E5:=(aa HC).sorted g5 r5 n5 l5;obtain⟨u0,u1,u2,u3,u4⟩:=E5.d.heads;have uf:=E5.d.free;obtain⟨y0,y1,y2,y3⟩:=E5.a.cells;have yf:=E5.a.free;have nA:w.heap.size+1≠B:=cK E5.a E5.d (by decide);have HE5:=ai E5;have HO5:=ai o5;clear d0 d1 d2 d3 d4 df HC wX g5 r5 E5 o5 HD n5 l5;go_wp2;have E6:=(aa HE5).mL (av.set B 4 w5 (.slice none 0 0)) ((aa HE5).d.zo _);have E7:=E6.mL (av.set B 0 _ (iV (ep+1))) (E6.d.K0 _);have E8:=E7.mL (av.set B 2 _ (iV 0)) (E7.d.given _);obtain⟨D9,B9⟩:=E8.out (gC _ (w.heap.size+1) 0 0 0 0) hW (by omega);exact bodyPost_ret (La (E8.a.store 0 0 0 0) rfl rfl) rfl ⟨_,rfl,aa HY (by omega) R' _ (aa HO5) D9 B9⟩
end
theorem Eb{k:IntKind}{a b:Int}(h:a=b):Ending.returned (.int k a)= .returned (.int k b):=by rw[h]
def gM(k p i b he hn:Int):Int:=if k=0∧p=0∧i=0∧b=0∧he=0∧hn=0 then 0 else 3
def aQ(k p i b he hn:Int):Int:=
 if k=1 then(if ¬(0≤p∧p≤3∧0≤i∧i≤1073741824∧0≤b∧b≤1000000)then 2 else if he=0∧hn=0 then 0 else 3)
 else if k=3 then(if ¬(0≤he∧he≤1048576∧0≤hn∧hn≤1073741824)then 2 else if p=0∧i=0∧b=0 then 0 else 3)
 else if(k=2∨k=4)∧p=0∧i=0∧b=0∧he=0∧hn=0 then 0 else 3
theorem xx(k p i b he hn:Int)(w:tF):
  cA 102 #[.agg #[iV k,iV p,iV i,iV b,iV he,iV hn]] w fun e w'=>
   e= .returned (iV (gM k p i b he hn))∧bZ w w':=by
 go_enter Tryz.func102,Tryz.ntmps102;go_wp2
 all_goals
  go_ret;refine⟨Eb ?_,(Below.refl _ _).alloc (Nat.le_refl _) _⟩;simp only[gM]
  repeat' split
  all_goals omega
theorem nT(k p i b he hn:Int)(w:tF):
  cA 59 #[.agg #[iV k,iV p,iV i,iV b,iV he,iV hn]] w fun e w'=>
   e= .returned (iV (aQ k p i b he hn))∧bZ w w':=by
 obtain⟨v,hv⟩:∃v,aQ k p i b he hn=v:=⟨_,rfl⟩;rw[hv];have HV:Hid (aQ k p i b he hn=v):=hv;clear hv;have Ue:∀x m:Int,x<0∨¬x≤m∧0≤x∨(0≤x∧x≤m):=by intro x m;omega
 have S:(k=2∨k=4∨k<1∨4<k)∨(k=1∧(p<0∨¬p≤3∧0≤p∨(0≤p∧p≤3)∧(i<0∨¬i≤1073741824∧0≤i∨(0≤i∧i≤1073741824)∧(b<0∨¬b≤1000000∧0≤b∨(0≤b∧b≤1000000)))))∨
   (k=3∧(he<0∨¬he≤1048576∧0≤he∨(0≤he∧he≤1048576)∧(hn<0∨¬hn≤1073741824∧0≤hn∨(0≤hn∧hn≤1073741824)))):=by
  by_cases k1:k=1
  ·refine .inr (.inl ⟨k1, ?_⟩);rcases Ue p 3 with h|h|h
   ·exact .inl h
   ·exact .inr (.inl h)
   refine .inr (.inr ⟨h, ?_⟩);rcases Ue i 1073741824 with h|h|h
   ·exact .inl h
   ·exact .inr (.inl h)
   exact .inr (.inr ⟨h,Ue b 1000000⟩)
  ·by_cases k3:k=3
   ·refine .inr (.inr ⟨k3, ?_⟩);rcases Ue he 1048576 with h|h|h
    ·exact .inl h
    ·exact .inr (.inl h)
    exact .inr (.inr ⟨h,Ue hn 1073741824⟩)
   ·exact .inl (by omega)
 clear Ue;rcases S with(rfl|rfl|h1|h1)|⟨rfl,h1|⟨h1,h1'⟩|⟨⟨h1,h2⟩,h3|⟨h3,h3'⟩|⟨⟨h3,h4⟩,h5|⟨h5,h5'⟩|⟨h5,h6⟩⟩⟩⟩|⟨rfl,h1|⟨h1,h1'⟩|⟨⟨h1,h2⟩,h3|⟨h3,h3'⟩|⟨h3,h4⟩⟩⟩
 all_goals
  go_enter Tryz.func59,Tryz.ntmps59
  go_wp2_with (first|(go_at_call 102;refine(xx _ _ _ _ _ _ _).mono ?_;rintro e w1 ⟨rfl,hb⟩)|(go_at_call 101;go_in))
  go_ret;refine⟨Eb ?_, ?_⟩
  ·have h:=HV.out;subst h;clear HV;unfold aQ
   try unfold gM
   repeat' split
   all_goals omega
  ·first|exact mw _ _ _|exact uA hb
structure St where
 ep:Int
 nx:Int
 gv:Int
 rn:Nat
 R:List Int
 ln:Nat
 L:List Int
 wt:Nat→Int
 wz:Nat→Nat→Bool
structure Ev where
 k:Int
 p:Int
 i:Int
 b:Int
 he:Int
 hn:Int
structure An where
 c:Int
 he:Int
 no:Int
 bd:Int
inductive Step(s:St)(v:Ev):St→An→Bool→Prop
 |iJ (hk:v.k=1) (h:v.i<s.wt v.p.toNat-8):Step s v s ⟨9,0,0,0⟩ false
 |iK (hk:v.k=1) (h:h_ (s.wt v.p.toNat) (s.wz v.p.toNat) v.i=true):Step s v s ⟨0,0,0,0⟩ false
 |fK (hk:v.k=1) (h:s.wt v.p.toNat-8≤v.i) (hn:h_ (s.wt v.p.toNat) (s.wz v.p.toNat) v.i=false) (hf:500≤s.rn+s.ln∨s.nx=1073741824):Step s v s ⟨14,0,0,0⟩ false
 |IG (hk:v.k=1) (h:s.wt v.p.toNat-8≤v.i) (hn:h_ (s.wt v.p.toNat) (s.wz v.p.toNat) v.i=false) (hr:s.rn+s.ln<500) (hx:s.nx<1073741824):
   Step s v ⟨s.ep,s.nx+1,s.gv,s.rn+1,s.R++[s.nx,v.b],s.ln,s.L,xW s.wt v.p.toNat (ij (s.wt v.p.toNat) v.i),xW s.wz v.p.toNat (eX (s.wt v.p.toNat) (s.wz v.p.toNat) v.i)⟩ ⟨0,0,0,0⟩ true
 |eH (hk:v.k=2) (h:s.rn=0):Step s v s ⟨10,0,0,0⟩ false
 |fL (hk:v.k=2) (h:0<s.rn) (hg:s.gv=1073741824):Step s v s ⟨14,0,0,0⟩ false
 |recv (hk:v.k=2) (h:0<s.rn) (hg:s.gv<1073741824):
   Step s v ⟨s.ep,s.nx,s.gv+1,s.rn-1,s.R.drop 2,s.ln+1,s.L++[s.ep,s.gv,s.R.getD 0 0,s.R.getD 1 0],s.wt,s.wz⟩ ⟨0,s.ep,s.gv,s.R.getD 1 0⟩ true
 |eI (hk:v.k=3) (h:¬v.he=s.ep):Step s v s ⟨11,0,0,0⟩ false
 |fM (hk:v.k=3) (h:v.he=s.ep) (ha:xw v.he v.hn s.L s.ln= -1):Step s v s ⟨7,0,0,0⟩ false
 |IH (hk:v.k=3) (h:v.he=s.ep) (m:Nat) (hm:m<s.ln) (ha:xw v.he v.hn s.L s.ln=m):
   Step s v ⟨s.ep,s.nx,s.gv,s.rn,s.R,s.ln-1,s.L.take (4*m)++s.L.drop (4*m+4),s.wt,s.wz⟩ ⟨0,0,0,0⟩ true
 |fP (hk:v.k=4) (h:s.ep=1048576):Step s v s ⟨14,0,0,0⟩ false
 |stop (hk:v.k=4) (h:s.ep<1048576) (R':tJ) (ho:Ordered (s.R++dH s.L s.ln) R' (s.rn+s.ln)):
   Step s v ⟨s.ep+1,s.nx,0,s.rn+s.ln,R',0,[],s.wt,s.wz⟩ ⟨0,0,0,0⟩ true
def St.Ok(s:St):Prop:=D1 s.ep s.nx s.gv s.R s.rn s.L s.ln s.wt s.wz
def Ev.Ok(v:Ev):Prop:=aQ v.k v.p v.i v.b v.he v.hn=0
theorem Ev.cases{v:Ev}(h:v.Ok):(v.k=1∧0≤v.p∧v.p≤3∧0≤v.i∧v.i≤1073741824∧0≤v.b∧v.b≤1000000∧v.he=0∧v.hn=0)∨(v.k=2∧v.p=0∧v.i=0∧v.b=0∧v.he=0∧v.hn=0)∨
  (v.k=3∧0≤v.he∧v.he≤1048576∧0≤v.hn∧v.hn≤1073741824∧v.p=0∧v.i=0∧v.b=0)∨(v.k=4∧v.p=0∧v.i=0∧v.b=0∧v.he=0∧v.hn=0):=by
 unfold Ev.Ok aQ at h;split at h
 ·rename_i hk;split at h
  ·omega
  ·rename_i h1;split at h
   ·rename_i h2;have h1:=Decidable.not_not.1 h1;exact .inl ⟨hk,h1.1,h1.2.1,h1.2.2.1,h1.2.2.2.1,h1.2.2.2.2.1,h1.2.2.2.2.2,h2.1,h2.2⟩
   ·omega
 ·split at h
  ·rename_i hk;split at h
   ·omega
   ·rename_i h1;split at h
    ·rename_i h2;have h1:=Decidable.not_not.1 h1;exact .inr (.inr (.inl ⟨hk,h1.1,h1.2.1,h1.2.2.1,h1.2.2.2,h2.1,h2.2.1,h2.2.2⟩))
    ·omega
  ·split at h
   ·rename_i h1;obtain⟨h1|h1,h2⟩:=h1
    ·exact .inr (.inl ⟨h1,h2⟩)
    ·exact .inr (.inr (.inr ⟨h1,h2⟩))
   ·omega
abbrev qE(v:Ev):Value:=zq v.k v.p v.i v.b v.he v.hn
abbrev Gm(a:An):Value:=il a.c a.he a.no a.bd
def Nb(s:St)(v:Ev)(base B:Nat)(w:tF)(x:tN)(w':tF):Prop:=
 ∃(s':St) (an:An) (ch:Bool),x= .tuple #[Gm an,.bool ch]∧Step s v s' an ch∧jL w' base B s'.ep s'.nx s'.gv s'.rn s'.R s'.ln s'.L s'.wt s'.wz∧Below base w w'
theorem JE(base B:Nat)(s:St)(a1:tG)(c1:Nat)(a2:tG)(c2:Nat)(ws:tH)(v:Ev)(w:tF)(D:rT w base B s.ep s.nx s.gv a1 s.rn c1 a2 s.ln c2 s.R s.L ws)(hW:gR ws s.wt s.wz)(dS:base≤w.heap.size)(ok:s.Ok)(hv:v.Ok):
  cA (methodOf v.k) #[.pointer (some ⟨B,0,none⟩),qE v] w fun e w'=>∃x,e= .returned x∧Nb s v base B w x w':=by
 have hc:=ok.count;have lq:s.rn+s.ln≤500:=hc.sz;have out:∀w',bZ w w'→jL w' base B s.ep s.nx s.gv s.rn s.R s.ln s.L s.wt s.wz∧Below base w w':=fun w' hb=>⟨(D.next hb).out hW,hb.mono dS⟩;rcases Ev.cases hv with⟨hk,h1,h2,h3,h4,h5,h6,h7,h8⟩|⟨hk,h1,h2,h3,h4,h5⟩|⟨hk,h1,h2,h3,h4,h5,h6,h7⟩|⟨hk,h1,h2,h3,h4,h5⟩
 ·obtain⟨P,hP⟩:∃P:Nat,v.p=P:=⟨v.p.toNat,by omega⟩;have YV:v.p.toNat=P:=by omega
  have hP4:P<4:=by omega
  have hw:=ok.Ga P hP4;have hm:methodOf v.k=103:=by rw[hk];rfl
  rw[hm,show qE v=zq v.k (P:Int) v.i v.b v.he v.hn by rw[←hP]];by_cases g1:v.i<s.wt P-8
  ·refine qC base B P s.ep s.nx s.gv a1 s.rn c1 a2 s.ln c2 s.R s.L ws s.wt s.wz v.k v.i v.b v.he v.hn w D hW dS hP4 lq hc.n0 hc.n1 (uV (by omega) (by omega)) 0 jY false 9 (fun w=>QT _ _ _ w hw h3 h4 g1) (Nb s v base B w) (ai fun _ w' hb=> ?_) (ai fun h=>by simp at h) (ai fun h=>by simp at h);obtain⟨d,bb⟩:=out w' hb;exact⟨s,⟨9,0,0,0⟩,false,rfl,.iJ hk (by rw[YV];exact g1),d,bb⟩
  ·cases g2:h_ (s.wt P) (s.wz P) v.i with
   |true=>
    refine qC base B P s.ep s.nx s.gv a1 s.rn c1 a2 s.ln c2 s.R s.L ws s.wt s.wz v.k v.i v.b v.he v.hn w D hW dS hP4 lq hc.n0 hc.n1 (uV (by omega) (by omega)) (s.wt P) (s.wz P) false 0 (fun w=>QU _ _ _ w hw h3 h4 g2) (Nb s v base B w) (ai fun _ w' hb=> ?_) (ai fun h=>by simp at h) (ai fun h=>by simp at h);obtain⟨d,bb⟩:=out w' hb;exact⟨s,⟨0,0,0,0⟩,false,rfl,.iK hk (by rw[YV];exact g2),d,bb⟩
   |false=>
    refine qC base B P s.ep s.nx s.gv a1 s.rn c1 a2 s.ln c2 s.R s.L ws s.wt s.wz v.k v.i v.b v.he v.hn w D hW dS hP4 lq hc.n0 hc.n1 (uV (by omega) (by omega)) (ij (s.wt P) v.i) (eX (s.wt P) (s.wz P) v.i) true 0 (fun w=>QW _ _ _ w hw h3 h4 (by omega) g2) (Nb s v base B w) (ai fun h=>by simp at h) (ai fun _ hf w' hb=> ?_) (ai fun _ hr hx w' d bb=> ?_)
    ·obtain⟨d,bb⟩:=out w' hb;exact⟨s,⟨14,0,0,0⟩,false,rfl,.fK hk (by rw[YV];omega) (by rw[YV];exact g2) hf,d,bb⟩
    ·refine⟨_,⟨0,0,0,0⟩,true,rfl,.IG hk (by rw[YV];omega) (by rw[YV];exact g2) hr hx, ?_,bb⟩;rw[YV];exact d
 ·have hm:methodOf v.k=104:=by rw[hk];rfl
  rw[hm];by_cases g1:s.rn=0
  ·refine(zr base B s.ep s.nx s.gv a1 s.rn c1 a2 s.ln c2 s.R s.L ws s.wt s.wz v.k v.p v.i v.b v.he v.hn w D hW dS 10 (.inl ⟨g1,rfl⟩)).mono ?_;rintro e w' ⟨rfl,d,bb⟩;exact⟨_,rfl,s,⟨10,0,0,0⟩,false,rfl,.eH hk g1,d,bb⟩
  ·by_cases g2:s.gv=1073741824
   ·refine(zr base B s.ep s.nx s.gv a1 s.rn c1 a2 s.ln c2 s.R s.L ws s.wt s.wz v.k v.p v.i v.b v.he v.hn w D hW dS 14 (.inr ⟨by omega,g2,rfl⟩)).mono ?_;rintro e w' ⟨rfl,d,bb⟩;exact⟨_,rfl,s,⟨14,0,0,0⟩,false,rfl,.fL hk (by omega) g2,d,bb⟩
   ·obtain⟨g,hg⟩:∃g,a1=some ⟨g,0,none⟩:=by
     rcases D.o1.2 with⟨_,h0⟩|⟨g,cap,cur,e,_⟩
     ·omega
     ·cases e;exact⟨g,rfl⟩
    subst hg;have:=hc.g1;refine(Gg base B g s.ep s.nx s.gv s.rn c1 a2 s.ln c2 s.R s.L ws s.wt s.wz v.k v.p v.i v.b v.he v.hn w D hW dS (by omega) lq hc.g0 (by omega) (uV hc.e0 (by have:=hc.e1;omega))).mono ?_;rintro e w' ⟨rfl,d,bb⟩;exact⟨_,rfl,_,⟨0,s.ep,s.gv,s.R.getD 1 0⟩,true,rfl,.recv hk (by omega) (by omega),d,bb⟩
 ·have hm:methodOf v.k=105:=by rw[hk];rfl
  rw[hm];refine Vk base B s.ep s.nx s.gv a1 s.rn c1 a2 s.ln c2 s.R s.L ws s.wt s.wz v.k v.p v.i v.b v.he v.hn w D hW dS lq (Nb s v base B w) (ai fun h w' hb=> ?_) (ai fun h ha w' hb=> ?_) (ai fun h m hm ha w' d bb=> ?_)
  ·obtain⟨d,bb⟩:=out w' hb;exact⟨s,⟨11,0,0,0⟩,false,rfl,.eI hk h,d,bb⟩
  ·obtain⟨d,bb⟩:=out w' hb;exact⟨s,⟨7,0,0,0⟩,false,rfl,.fM hk h ha,d,bb⟩
  ·exact⟨_,⟨0,0,0,0⟩,true,rfl,.IH hk h m hm ha,d,bb⟩
 ·have hm:methodOf v.k=106:=by rw[hk];rfl
  rw[hm];refine Vm base B s.ep s.nx s.gv a1 s.rn c1 a2 s.ln c2 s.R s.L ws s.wt s.wz v.k v.p v.i v.b v.he v.hn w D hW dS lq hc.e0 hc.e1 (Nb s v base B w) (ai fun h w' hb=> ?_) (ai fun h R' w' ho d bb=> ?_)
  ·obtain⟨d,bb⟩:=out w' hb;exact⟨s,⟨14,0,0,0⟩,false,rfl,.fP hk h,d,bb⟩
  ·exact⟨_,⟨0,0,0,0⟩,true,rfl,.stop hk h R' ho,d,bb⟩
structure St.Wf(s:St):Prop where
 ok:s.Ok
 lr:s.R.length=2*s.rn
 ll:s.L.length=4*s.ln
theorem cW(A B:tJ)(j:Nat)(h:j<A.length):(A++B).getD j 0=A.getD j 0:=by
 simp[List.getElem?_append_left h]
theorem cS(A B:tJ)(j n:Nat)(h:A.length=n):(A++B).getD (n+j) 0=B.getD j 0:=by
 subst h;simp[List.getElem?_append_right]
theorem getD_drop(A:tJ)(k j:Nat):(A.drop k).getD j 0=A.getD (k+j) 0:=by simp
theorem i_{l:tJ}:zh l=false↔l.Nodup:=by simp[zh]
theorem gE{s:St}(h:s.Ok){i:Nat}(hi:i<s.rn):0≤s.R.getD (2*i) 0∧s.R.getD (2*i) 0≤s.nx-1∧0≤s.R.getD (2*i+1) 0∧s.R.getD (2*i+1) 0≤1000000:=by
 have:=(h.hold.ready i hi).DZ;rw[Bool.and_eq_true,iy,iy]at this;exact⟨this.1.1,this.1.2,this.2.1,this.2.2⟩
theorem jk{s:St}(h:s.Ok){i:Nat}(hi:i<s.ln):0≤s.L.getD (4*i+2) 0∧s.L.getD (4*i+2) 0≤s.nx-1∧0≤s.L.getD (4*i+3) 0∧s.L.getD (4*i+3) 0≤1000000:=by
 have:=h.hold.DZ i hi;unfold wu at this;rw[Bool.and_eq_true,iy,iy]at this;exact⟨this.1.1,this.1.2,this.2.1,this.2.2⟩
theorem lO{s:St}(h:s.Ok){i:Nat}(hi:i<s.ln):s.L.getD (4*i) 0=s.ep∧0≤s.L.getD (4*i+1) 0∧s.L.getD (4*i+1) 0≤s.gv-1:=by
 have:=h.Gb i hi;have h2:=iy.1 this.no;exact⟨this.K0,h2.1,h2.2⟩
theorem zC{s:St}(h:s.Ok){i:Nat}(hi:i+1<s.rn):s.R.getD (2*i) 0<s.R.getD (2*(i+1)) 0:=by
 have:=(h.hold.ready (i+1) hi).Jj;unfold F9 at this;rw[if_neg (by omega),show 2*(i+1-1)=2*i by omega]at this;exact this
theorem sQ{s:St}(h:s.Ok){i:Nat}(hi:i+1<s.ln):s.L.getD (4*i+1) 0<s.L.getD (4*(i+1)+1) 0:=by
 have:=(h.Gb (i+1) hi).Jj;unfold ze at this;rw[if_neg (by omega),show 4*(i+1-1)+1=4*i+1 by omega]at this;exact this
theorem zD{nx:Int}{R:tJ}{n:Nat}(h1:∀i,i<n→0≤R.getD (2*i) 0∧R.getD (2*i) 0≤nx-1∧0≤R.getD (2*i+1) 0∧R.getD (2*i+1) 0≤1000000)(h2:∀i,i+1<n→R.getD (2*i) 0<R.getD (2*(i+1)) 0):∀i,i<n→yl nx R i:=by
 intro i hi;obtain⟨a,b,c,d⟩:=h1 i hi;refine⟨by rw[Bool.and_eq_true,iy,iy];exact⟨⟨a,b⟩,c,d⟩, ?_⟩;unfold F9;split
 ·omega
 ·have:=h2 (i-1) (by omega);rw[show 2*(i-1+1)=2*i by omega]at this;exact this
theorem Gn{ep gv:Int}{L:tJ}{n:Nat}(h1:∀i,i<n→L.getD (4*i) 0=ep∧0≤L.getD (4*i+1) 0∧L.getD (4*i+1) 0≤gv-1)(h2:∀i,i+1<n→L.getD (4*i+1) 0<L.getD (4*(i+1)+1) 0):∀i,i<n→mU ep gv L i:=by
 intro i hi;obtain⟨a,b,c⟩:=h1 i hi;refine⟨a,iy.2 ⟨b,c⟩, ?_⟩;unfold ze;split
 ·omega
 ·have:=h2 (i-1) (by omega);rw[show 4*(i-1+1)+1=4*i+1 by omega]at this;exact this
theorem Ec{nx:Int}{L:tJ}{n:Nat}(h1:∀i,i<n→0≤L.getD (4*i+2) 0∧L.getD (4*i+2) 0≤nx-1∧0≤L.getD (4*i+3) 0∧L.getD (4*i+3) 0≤1000000):∀i,i<n→wu nx L i:=by
 intro i hi;obtain⟨a,b,c,d⟩:=h1 i hi;unfold wu;rw[Bool.and_eq_true,iy,iy];exact⟨⟨a,b⟩,c,d⟩
theorem zE{R R':tJ}{n:Nat}(h:∀i,i<n→R.getD (2*i) 0=R'.getD (2*i) 0):cF R n=cF R' n:=
 List.map_congr_left fun i hi=>h i (List.mem_range.1 hi)
theorem zF{L L':tJ}{n:Nat}(h:∀i,i<n→L.getD (4*i+2) 0=L'.getD (4*i+2) 0):cY L n=cY L' n:=
 List.map_congr_left fun i hi=>h i (List.mem_range.1 hi)
theorem Q0{s:St}(h:s.Ok):∀x∈ga s.L s.ln s.R s.rn,x<s.nx:=by
 intro x hx;rcases List.mem_append.1 hx with hx|hx
 ·obtain⟨i,hi,rfl⟩:=List.mem_map.1 hx;have:=jk h (List.mem_range.1 hi);omega
 ·obtain⟨i,hi,rfl⟩:=List.mem_map.1 hx;have:=gE h (List.mem_range.1 hi);omega
theorem Bf(R:tJ)(n:Nat)(h:0<n):cF R n=R.getD 0 0::cF (R.drop 2) (n-1):=by
 obtain⟨m,rfl⟩:∃m,n=m+1:=⟨n-1,by omega⟩;simp only[cF,List.range_succ_eq_map,List.map_cons,List.map_map,Nat.add_sub_cancel,Nat.mul_zero];congr 1;apply List.map_congr_left;intro i _;simp only[Function.comp,getD_drop];rw[show 2*Nat.succ i=2+2*i by omega]
theorem Lb(L:tJ)(m ln i j:Nat)(hl:L.length=4*ln)(hm:m<ln)(hj:j<4):(L.take (4*m)++L.drop (4*m+4)).getD (4*i+j) 0=if i<m then L.getD (4*i+j) 0 else L.getD (4*(i+1)+j) 0:=by
 rw[QY];by_cases h:i<m
 ·rw[if_pos ⟨by omega,by omega⟩,if_pos h]
 ·rw[if_neg (by omega),if_pos (by omega),if_neg h,show 4*i+j+4=4*(i+1)+j by omega]
theorem Ed(L:tJ)(m ln:Nat)(hl:L.length=4*ln)(hm:m<ln):cY (L.take (4*m)++L.drop (4*m+4)) (ln-1)=(cY L ln).eraseIdx m:=by
 apply List.ext_getElem
 ·simp[cY,List.length_eraseIdx,hm]
 ·intro i h1 h2;have hi:i<ln-1:=by simpa[cY]using h1
  rw[List.getElem_eraseIdx];simp only[cY,List.getElem_map,List.getElem_range];rw[Lb L m ln i 2 hl hm (by omega)];split<;>rfl
theorem zH(L:tJ):∀k,(dH L k).length=2*k
 |0=>rfl
 |k+1=>by simp[dH,zH L k];omega
theorem Cl(L:tJ):∀k i,i<k→(dH L k).getD (2*i) 0=L.getD (4*i+2) 0∧(dH L k).getD (2*i+1) 0=L.getD (4*i+3) 0
 |0,_,h=>absurd h (Nat.not_lt_zero _)
 |k+1,i,h=>by
  have hl:=zH L k;unfold dH;rcases Nat.lt_or_ge i k with h'|h'
  ·rw[cW _ _ _ (by omega),cW _ _ _ (by omega)];exact Cl L k i h'
  ·obtain rfl:i=k:=by omega
   rw[show 2*i=2*i+0 from rfl,cS _ _ 0 _ hl,Nat.add_zero,cS _ _ 1 _ hl];exact⟨rfl,rfl⟩
theorem Q1{s:St}(h:s.Wf)(i:Nat)(hi:i<s.rn+s.ln):(i<s.rn∧gD (s.R++dH s.L s.ln) i=gD s.R i)∨∃j,j<s.ln∧i=s.rn+j∧gD (s.R++dH s.L s.ln) i=(s.L.getD (4*j+2) 0,s.L.getD (4*j+3) 0):=by
 have hr:=h.lr;rcases Nat.lt_or_ge i s.rn with h1|h1
 ·left;refine⟨h1, ?_⟩;unfold gD;rw[cW _ _ _ (by omega),cW _ _ _ (by omega)]
 ·right;refine⟨i-s.rn,by omega,by omega, ?_⟩;have hm:=Cl s.L s.ln (i-s.rn) (by omega);unfold gD;have e1:2*i=2*s.rn+2*(i-s.rn):=by omega
  have e2:2*i+1=2*s.rn+(2*(i-s.rn)+1):=by omega
  rw[e2,e1,cS _ _ _ _ hr,cS _ _ _ _ hr,hm.1,hm.2]
theorem xy{s:St}{R':tJ}(h:s.Wf)(ho:Ordered (s.R++dH s.L s.ln) R' (s.rn+s.ln)):(cF R' (s.rn+s.ln)).Perm (ga s.L s.ln s.R s.rn):=by
 have e:∀(R:tJ) n,cF R n=(cg R n).map Prod.fst:=fun R n=>by simp[cF,cg,gD]
 have hp:=ho.perm.map Prod.fst;rw[←e,←e]at hp;refine hp.trans ?_;have:cF (s.R++dH s.L s.ln) (s.rn+s.ln)=cF s.R s.rn++cY s.L s.ln:=by
  apply List.ext_getElem
  ·simp[cF,cY]
  ·intro i h1 h2;have hi:i<s.rn+s.ln:=by simpa[cF]using h1
   rw[List.getElem_append];simp only[cF,cY,List.getElem_map,List.getElem_range,List.length_map,List.length_range];rcases Q1 h i hi with⟨h3,h4⟩|⟨j,h3,h4,h5⟩
   ·rw[dif_pos h3];exact congrArg Prod.fst h4
   ·rw[dif_neg (by omega)];have:=congrArg Prod.fst h5;simp only[gD]at this;rw[this,show i-s.rn=j by omega]
 rw[this];exact List.perm_append_comm
theorem Ee{s:St}{R':tJ}(h:s.Wf)(ho:Ordered (s.R++dH s.L s.ln) R' (s.rn+s.ln)):∀i,i<s.rn+s.ln→0≤R'.getD (2*i) 0∧R'.getD (2*i) 0≤s.nx-1∧0≤R'.getD (2*i+1) 0∧R'.getD (2*i+1) 0≤1000000:=by
 intro i hi;have hm:gD R' i∈cg R' (s.rn+s.ln):=List.mem_map.2 ⟨i,List.mem_range.2 hi,rfl⟩;obtain⟨j,hj,he⟩:=List.mem_map.1 (ho.perm.mem_iff.1 hm);have hj:=List.mem_range.1 hj;have e1:=congrArg Prod.fst he;have e2:=congrArg Prod.snd he;rcases Q1 h j hj with⟨h3,h4⟩|⟨k,h3,h4,h5⟩
 ·rw[h4]at e1 e2;simp only[gD]at e1 e2;rw[←e1,←e2];exact gE h.ok h3
 ·rw[h5]at e1 e2;simp only[gD]at e1 e2;rw[←e1,←e2];exact jk h.ok h3
theorem o7{s:St}{R':tJ}(h:s.Wf)(ho:Ordered (s.R++dH s.L s.ln) R' (s.rn+s.ln)):∀i,i+1<s.rn+s.ln→R'.getD (2*i) 0<R'.getD (2*(i+1)) 0:=by
 intro i hi;have h1:=ho.Jj i (i+1) (by omega) hi;have hn:(cF R' (s.rn+s.ln)).Nodup:=(xy h ho).nodup_iff.2 (i_.1 h.ok.hold.apart);have h2:=List.pairwise_iff_getElem.1 hn i (i+1) (by simp[cF];omega) (by simp[cF];omega) (by omega);simp only[cF,List.getElem_map,List.getElem_range]at h2;omega
theorem Step.wf{s s':St}{v:Ev}{an:An}{ch:Bool}(h:s.Wf)(hv:v.Ok)(st:Step s v s' an ch):s'.Wf:=by
 have ok:=h.ok;have hc:=ok.count;have Ms:=h.lr;have Q2:=h.ll;cases st with
 |iJ|iK|fK|eH|fL|eI|fM|fP=>exact h
 |IG hk h1 h2 hr hx=>
  have hb:0≤v.b∧v.b≤1000000∧0≤v.i∧v.i≤1073741824:=by
   rcases Ev.cases hv with h|h|h|h<;>omega
  refine⟨⟨⟨hc.e0,hc.e1,by have:=hc.n0;show 0≤s.nx+1;omega,by show s.nx+1≤_;omega,hc.g0,hc.g1,by show s.rn+1+s.ln≤500;omega⟩, ?_,⟨?_, ?_, ?_⟩,ok.Gb⟩, ?_,Q2⟩
  ·intro p hp;show fG (xW s.wt v.p.toNat _ p) (xW s.wz v.p.toNat _ p);unfold xW;by_cases e:p=v.p.toNat
   ·rw[if_pos e,if_pos e,←e];exact(ok.Ga p hp).take (by omega) (by omega)
   ·rw[if_neg e,if_neg e];exact ok.Ga p hp
  ·refine zD (fun i hi=> ?_) (fun i hi=> ?_)
   ·have hi:i<s.rn+1:=hi;show 0≤(s.R++[s.nx,v.b]).getD (2*i) 0∧(s.R++[s.nx,v.b]).getD (2*i) 0≤s.nx+1-1∧0≤(s.R++[s.nx,v.b]).getD (2*i+1) 0∧(s.R++[s.nx,v.b]).getD (2*i+1) 0≤1000000;rcases Nat.lt_or_ge i s.rn with h'|h'
    ·rw[cW _ _ _ (by omega),cW _ _ _ (by omega)];have:=gE ok h';omega
    ·obtain rfl:i=s.rn:=by omega
     rw[cS _ _ 1 _ Ms,show 2*s.rn=2*s.rn+0 from rfl,cS _ _ 0 _ Ms];have:=hc.n0;simp;omega
   ·have hi:i+1<s.rn+1:=hi;show(s.R++[s.nx,v.b]).getD (2*i) 0<(s.R++[s.nx,v.b]).getD (2*(i+1)) 0;rw[cW _ _ _ (by omega)];rcases Nat.lt_or_ge (i+1) s.rn with h'|h'
    ·rw[cW _ _ _ (by omega)];exact zC ok h'
    ·rw[show 2*(i+1)=2*s.rn+0 by omega,cS _ _ 0 _ Ms];have:=gE ok (show i<s.rn by omega);simp at this⊢;omega
  ·refine Ec (fun i hi=> ?_);have:=jk ok hi;exact⟨this.1,by have:=this.2.1;show s.L.getD (4*i+2) 0≤s.nx+1-1;omega,this.2.2⟩
  ·show zh (ga s.L s.ln (s.R++[s.nx,v.b]) (s.rn+1))=false;rw[i_,zg,show 2*s.rn=2*s.rn+0 from rfl,cS _ _ 0 _ Ms];have e:ga s.L s.ln (s.R++[s.nx,v.b]) s.rn=ga s.L s.ln s.R s.rn:=by
    unfold ga;rw[zE (fun i hi=>cW _ _ _ (by omega))]
   rw[e,List.nodup_append];refine⟨i_.1 ok.hold.apart,by simp,fun a ha b hb=> ?_⟩;have:=Q0 ok a ha;simp at hb;omega
  ·show(s.R++[s.nx,v.b]).length=2*(s.rn+1);simp;omega
 |recv hk h1 hg=>
  refine⟨⟨⟨hc.e0,hc.e1,hc.n0,hc.n1,by have:=hc.g0;show 0≤s.gv+1;omega,by show s.gv+1≤_;omega,by have:=hc.sz;show s.rn-1+(s.ln+1)≤500;omega⟩,ok.Ga,⟨?_, ?_, ?_⟩, ?_⟩, ?_, ?_⟩
  ·refine zD (fun i hi=> ?_) (fun i hi=> ?_)
   ·have hi:i<s.rn-1:=hi;have:=gE ok (show i+1<s.rn by omega);show 0≤(s.R.drop 2).getD (2*i) 0∧(s.R.drop 2).getD (2*i) 0≤s.nx-1∧0≤(s.R.drop 2).getD (2*i+1) 0∧(s.R.drop 2).getD (2*i+1) 0≤1000000;rw[getD_drop,getD_drop,show 2+2*i=2*(i+1) by omega,show 2+(2*i+1)=2*(i+1)+1 by omega];exact this
   ·have hi:i+1<s.rn-1:=hi;have:=zC ok (show i+1+1<s.rn by omega);show(s.R.drop 2).getD (2*i) 0<(s.R.drop 2).getD (2*(i+1)) 0;rw[getD_drop,getD_drop,show 2+2*i=2*(i+1) by omega,show 2+2*(i+1)=2*(i+1+1) by omega];exact this
  ·refine Ec (fun i hi=> ?_);have hi:i<s.ln+1:=hi;show 0≤(s.L++[s.ep,s.gv,s.R.getD 0 0,s.R.getD 1 0]).getD (4*i+2) 0∧(s.L++[s.ep,s.gv,s.R.getD 0 0,s.R.getD 1 0]).getD (4*i+2) 0≤s.nx-1∧0≤(s.L++[s.ep,s.gv,s.R.getD 0 0,s.R.getD 1 0]).getD (4*i+3) 0∧(s.L++[s.ep,s.gv,s.R.getD 0 0,s.R.getD 1 0]).getD (4*i+3) 0≤1000000;rcases Nat.lt_or_ge i s.ln with h'|h'
   ·rw[cW _ _ _ (by omega),cW _ _ _ (by omega)];exact jk ok h'
   ·obtain rfl:i=s.ln:=by omega
    rw[cS _ _ 2 _ Q2,cS _ _ 3 _ Q2];exact gE ok h1
  ·show zh (ga (s.L++[s.ep,s.gv,s.R.getD 0 0,s.R.getD 1 0]) (s.ln+1) (s.R.drop 2) (s.rn-1))=false;have e:ga (s.L++[s.ep,s.gv,s.R.getD 0 0,s.R.getD 1 0]) (s.ln+1) (s.R.drop 2) (s.rn-1)=ga s.L s.ln s.R s.rn:=by
    unfold ga;rw[rZ,cS _ _ 2 _ Q2,zF (fun i hi=>cW _ _ _ (by omega)),Bf s.R s.rn h1,List.append_assoc];rfl
   rw[e];exact ok.hold.apart
  ·refine Gn (fun i hi=> ?_) (fun i hi=> ?_)
   ·have hi:i<s.ln+1:=hi;show(s.L++[s.ep,s.gv,s.R.getD 0 0,s.R.getD 1 0]).getD (4*i) 0=s.ep∧0≤(s.L++[s.ep,s.gv,s.R.getD 0 0,s.R.getD 1 0]).getD (4*i+1) 0∧(s.L++[s.ep,s.gv,s.R.getD 0 0,s.R.getD 1 0]).getD (4*i+1) 0≤s.gv+1-1;rcases Nat.lt_or_ge i s.ln with h'|h'
    ·rw[cW _ _ _ (by omega),cW _ _ _ (by omega)];have:=lO ok h';omega
    ·obtain rfl:i=s.ln:=by omega
     rw[cS _ _ 1 _ Q2,show 4*s.ln=4*s.ln+0 from rfl,cS _ _ 0 _ Q2];have:=hc.g0;simp;omega
   ·have hi:i+1<s.ln+1:=hi;show(s.L++[s.ep,s.gv,s.R.getD 0 0,s.R.getD 1 0]).getD (4*i+1) 0<(s.L++[s.ep,s.gv,s.R.getD 0 0,s.R.getD 1 0]).getD (4*(i+1)+1) 0;rw[cW _ _ _ (by omega)];rcases Nat.lt_or_ge (i+1) s.ln with h'|h'
    ·rw[cW _ _ _ (by omega)];exact sQ ok h'
    ·rw[show 4*(i+1)+1=4*s.ln+1 by omega,cS _ _ 1 _ Q2];have:=lO ok (show i<s.ln by omega);simp at this⊢;omega
  ·show(s.R.drop 2).length=2*(s.rn-1);simp;omega
  ·show(s.L++[s.ep,s.gv,s.R.getD 0 0,s.R.getD 1 0]).length=4*(s.ln+1);simp;omega
 |IH hk h1 m hm ha=>
  have g:=fun i j (hj:j<4)=>Lb s.L m s.ln i j Q2 hm hj;refine⟨⟨⟨hc.e0,hc.e1,hc.n0,hc.n1,hc.g0,hc.g1,by have:=hc.sz;show s.rn+(s.ln-1)≤500;omega⟩,ok.Ga,⟨ok.hold.ready, ?_, ?_⟩, ?_⟩,Ms, ?_⟩
  ·refine Ec (fun i hi=> ?_);have hi:i<s.ln-1:=hi;show 0≤(s.L.take (4*m)++s.L.drop (4*m+4)).getD (4*i+2) 0∧(s.L.take (4*m)++s.L.drop (4*m+4)).getD (4*i+2) 0≤s.nx-1∧0≤(s.L.take (4*m)++s.L.drop (4*m+4)).getD (4*i+3) 0∧(s.L.take (4*m)++s.L.drop (4*m+4)).getD (4*i+3) 0≤1000000;rw[g i 2 (by omega),g i 3 (by omega)];split
   ·exact jk ok (by omega)
   ·exact jk ok (by omega)
  ·show zh (ga (s.L.take (4*m)++s.L.drop (4*m+4)) (s.ln-1) s.R s.rn)=false;rw[i_];unfold ga;rw[Ed s.L m s.ln Q2 hm];exact List.Nodup.sublist ((List.eraseIdx_sublist _ _).append (List.Sublist.refl _)) (i_.1 ok.hold.apart)
  ·refine Gn (fun i hi=> ?_) (fun i hi=> ?_)
   ·have hi:i<s.ln-1:=hi;show(s.L.take (4*m)++s.L.drop (4*m+4)).getD (4*i) 0=s.ep∧0≤(s.L.take (4*m)++s.L.drop (4*m+4)).getD (4*i+1) 0∧(s.L.take (4*m)++s.L.drop (4*m+4)).getD (4*i+1) 0≤s.gv-1;rw[g i 1 (by omega),show 4*i=4*i+0 from rfl,g i 0 (by omega)];split
    ·exact lO ok (by omega)
    ·exact lO ok (by omega)
   ·have hi:i+1<s.ln-1:=hi;show(s.L.take (4*m)++s.L.drop (4*m+4)).getD (4*i+1) 0<(s.L.take (4*m)++s.L.drop (4*m+4)).getD (4*(i+1)+1) 0;rw[g i 1 (by omega),g (i+1) 1 (by omega)];have a1:=sQ ok (show i+1<s.ln by omega);have a2:=sQ ok (show i+1+1<s.ln by omega);split<;>split<;>omega
  ·show(s.L.take (4*m)++s.L.drop (4*m+4)).length=4*(s.ln-1);simp;omega
 |stop hk h1 R' ho=>
  refine⟨⟨⟨by have:=hc.e0;show 0≤s.ep+1;omega,by show s.ep+1≤_;omega,hc.n0,hc.n1,by show(0:Int)≤0;omega,by show(0:Int)≤_;omega,by have:=hc.sz;show s.rn+s.ln+0≤500;omega⟩,ok.Ga,⟨zD (Ee h ho) (o7 h ho),fun i hi=>absurd hi (Nat.not_lt_zero _), ?_⟩,fun i hi=>absurd hi (Nat.not_lt_zero _)⟩,ho.len,rfl⟩;show zh (ga [] 0 R' (s.rn+s.ln))=false;rw[i_];unfold ga;rw[show cY [] 0=[] from rfl,List.nil_append];exact(xy h ho).nodup_iff.2 (i_.1 ok.hold.apart)
namespace Rv
section
variable{n:Nat}{ops:tP}{f:Nat→AV}{fn:Func}{Rr:Ending→World→Prop}{M:tI}{Φ R:tM}{H:List En}{ks:List Fr}{t:Ord}{i d:Nat}
def lkA(n:Nat)(ops:tP)(f:Nat→AV)(i:Nat):Option (Nat×Nat×AV×AV):=match ops[i]? with
 |some o=>match o.dst,sO n ops f o,o.op with
  |some d,some true,.lookup s x y false=>some (d,s,ea f x,ea f y)
  |_,_,_=>none
 |none=>none
theorem lk{va vi vs:_}{cb:Bool}{s:Nat}{x y:AV}(a:AV)(e:lkA n ops f i=some (d,s,x,y))(h:∀w,Mem w (hs H) M Φ R→(Instr.lookup s x.val y.val false).run Tryz.prog w= .ok a.val w)(hn:G Tryz.prog fn Rr n M Φ R (.g ⟨cb,vi,va,vs⟩ ops t::ks) (ua f d a) H)(hv:va=[]:=by rfl):G Tryz.prog fn Rr n M Φ R (.g ⟨cb,vi,va,vs⟩ ops (.rd i t)::ks) f H:=by
 intro w hS hK;obtain⟨hK1,jU⟩:=bm.1 hK;have hn:=hn w hS (bm.2 ⟨hK1,jU⟩);show WF Tryz.prog ops (kq Tryz.prog fn Rr ks) va (oE _ ops) (uI _ ops) (.rd i t) n (cn f) w;subst hv;unfold lkA at e;split at e
 ·rename_i o ho;split at e
  ·rename_i d' s' p q hd hw hp;simp only[Option.some.injEq,Prod.mk.injEq]at e;obtain⟨rfl,rfl,rfl,rfl⟩:=e;refine Qj ho hd (eS hw) (dt hK1).1 (fun w' hb=> ?_) (by rw[←iQ];exact hn);have:=h w' (hS.next (Cc hb));rw[bl,bl]at this;simp only[execOp,hp,Sem.run_bind,this,Result.andThen_ok,Sem.run_pure]
  ·cases e
 ·cases e
end
end Rv
section
open Rv
abbrev refused(er:Int):Value:= .tuple #[iI 0 0 0 (.slice none 0 0) (.slice none 0 0) eT,il 0 0 0 0,.bool false,iV er]
theorem Vn(s:St)(ra la:tG)(rc lc:Nat)(ws:tH)(v:Ev)(w:tF)(hR:RowK .i64 w ra (2*s.rn) s.R)(hL:RowK .i64 w la (4*s.ln) s.L)(hW:gR ws s.wt s.wz)(h:s.Ok)(f:Int)(hf:¬f=0)(HF:Hid (aQ v.k v.p v.i v.b v.he v.hn=f)):
  cA 36 #[iI s.ep s.nx s.gv (.slice ra s.rn rc) (.slice la s.ln lc) ws,qE v] w (rB (refused f) w):=by
 refine en (H:=[]) _ [vg (qS s.ep s.nx s.gv (.slice ra s.rn rc) (.slice la s.ln lc) ws),vg [.o (iV v.k),.o (iV v.p),.o (iV v.i),.o (iV v.b),.o (iV v.he),.o (iV v.hn)]] Tryz.func36 rfl rfl (m0 w) (r [] rfl fun _=> ?_);refine Rv.cb rfl (vi 0) (fun w hS=>zn s.ep s.nx s.gv ra la s.rn rc s.ln lc s.R s.L ws s.wt s.wz w (hR.below hS.now.2) (hL.below hS.now.2) hW h) (r [0] rfl fun _=>Rv.cb rfl (vi f) (fun w _=>(aa HF)▸nT v.k v.p v.i v.b v.he v.hn w) (r [1] rfl fun _=>fin fun w hS=>⟨rfl,hS.now.2⟩))
structure wC(w w':tF)(s:St)(x:tN):Prop where
 ex:∃a1 c1 a2 c2 ws,x=iI s.ep s.nx s.gv (.slice a1 s.rn c1) (.slice a2 s.ln c2) ws∧RowK .i64 w' a1 (2*s.rn) s.R∧RowK .i64 w' a2 (4*s.ln) s.L∧s.rn≤c1∧s.ln≤c2∧(a1=none→c1=0)∧(a2=none→c2=0)∧gR ws s.wt s.wz∧(∀x,a1=some x→w.heap.size≤x.block)∧(∀x,a2=some x→w.heap.size≤x.block)
theorem gR.one{ws:tH}{wt:tK}{wz:Nat→Nat→Bool}(h:gR ws wt wz):a7 ws 36:=fun i hi=>by
 obtain⟨h0,h1⟩:=h (i/9) (by omega);by_cases e:i % 9=0
 ·rw[(congrArg ws (by omega:i=9*(i/9))).trans h0];rfl
 ·rw[(congrArg ws (by omega:i=9*(i/9)+1+(i % 9-1))).trans (h1 (i % 9-1) (by omega))];rfl
theorem rT.Dc{w w':tF}{U:tI}{base B:Nat}{ep nx gv:Int}{a1 a2:tG}{rn c1 ln c2:Nat}{R L:tJ}{ws:tH}(D:rT w base B ep nx gv a1 rn c1 a2 ln c2 R L ws)(c:dB U w w')(hU:∀b,U b→b<base):rT w' base B ep nx gv a1 rn c1 a2 ln c2 R L ws:=
 ⟨(c.block B D.d.lt fun h=>absurd D.up (Nat.not_le.2 (hU B h))).trans D.d,D.up,aK D.o1 (fun g hg hl=>c.block g hl fun h=>absurd (D.o1.lt g hg).1 (Nat.not_le.2 (hU g h))),aK D.o2 (fun g hg hl=>c.block g hl fun h=>absurd (D.o2.lt g hg).1 (Nat.not_le.2 (hU g h))),D.wR,D.wL⟩
theorem Mem.far{w w' w0:tF}{H:List bT}{Γ φ:tM}{base:Nat}(h:Mem w H (fun _=>False) Γ (fun y=>bZ w0 y))(b:Below base w w')(hH:∀e∈H,e.a<base)(hb:w0.heap.size≤base)(hφ:bU (fun b=>b∈H.map bT.a) w' φ):Mem w' H (fun _=>False) φ (fun y=>bZ w0 y):=by
 have m:=Mem.begin (w:=w') (H:=H) (M:=fun _=>False) (G:=φ) (fun e he=>(h.iG e he).same (b.block _ (hH e he))) (List.pairwise_map.1 h.nodup) (fun _ _ k=>k) (fun _ k=>k.elim) fun y c=>hφ y (c.mono fun b k=>k.elim id False.elim);have oD:bZ w0 w':=h.now.2.trans (b.mono hb);refine Mem.sr m fun y c=>oD.trans (c.below oD.size fun z hz hu=> ?_);obtain⟨e,he,rfl⟩:=List.mem_map.1 hu;obtain⟨k,hk⟩:=List.getElem?_of_mem he;exact absurd hz (Nat.not_lt.2 (h.iH k hk))
theorem Vo(s:St)(ra la:tG)(rc lc:Nat)(ws:tH)(v:Ev)(w:tF)(hR:RowK .i64 w ra (2*s.rn) s.R)(hL:RowK .i64 w la (4*s.ln) s.L)(nR:ra=none→rc=0)(nL:la=none→lc=0)(hW:gR ws s.wt s.wz)(h:s.Ok)(hv:v.Ok):
  cA 36 #[iI s.ep s.nx s.gv (.slice ra s.rn rc) (.slice la s.ln lc) ws,qE v] w fun e w'=>∃(s':St) (an:An) (ch:Bool) (x:tN),e= .returned (.tuple #[x,Gm an,.bool ch,iV 0])∧Step s v s' an ch∧wC w w' s' x∧bZ w w':=by
 have HC:∀w,cA 59 #[qE v] w (rB (iV 0) w):=fun w=>by
  have:=nT v.k v.p v.i v.b v.he v.hn w;rwa [show aQ v.k v.p v.i v.b v.he v.hn=0 from hv]at this
 have hk4:v.k=1∨v.k=2∨v.k=3∨v.k=4:=by
  rcases Ev.cases hv with h|h|h|h
  ·exact .inl h.1
  ·exact .inr (.inl h.1)
  ·exact .inr (.inr (.inl h.1))
  ·exact .inr (.inr (.inr h.1))
 have he:iR Tryz.prog (methodOf v.k)=true:=by
  rcases hk4 with e|e|e|e<;>rw[e]<;>kernel_rfl
 obtain⟨g,hg⟩:∃g,methodOf v.k=g:=⟨_,rfl⟩;rw[hg]at he;have ow:=hW.one;refine en (H:=[]) _ [vg (qS s.ep s.nx s.gv (.slice ra s.rn rc) (.slice la s.ln lc) ws),vg [.o (iV v.k),.o (iV v.p),.o (iV v.i),.o (iV v.b),.o (iV v.he),.o (iV v.hn)]] Tryz.func36 rfl rfl (m0 w) (r [] rfl fun α=> ?_);refine Rv.cb rfl (vi 0) (fun w hS=>zn s.ep s.nx s.gv ra la s.rn rc s.ln lc s.R s.L ws s.wt s.wz w (hR.below hS.now.2) (hL.below hS.now.2) hW h) (r [0] rfl fun _=>Rv.cb rfl (vi 0) (fun w _=>HC w) (r [0] rfl fun _=>mq rfl (by kernel_rfl) fun w5 hS5=> ?_));refine(Jt s.ep s.nx s.gv ra la s.rn rc s.ln lc s.R s.L ws w5 (hR.below hS5.now.2) (hL.below hS5.now.2) nR nL h.count.sz).mono ?_;rintro _ w6 ⟨B,a1,c1,a2,c2,rfl,uB,d6,o1,o2,b6⟩;have D6:rT w6 w5.heap.size B s.ep s.nx s.gv a1 s.rn c1 a2 s.ln c2 s.R s.L ws:=⟨d6,uB,o1,o2,hR.wf,hL.wf⟩;refine⟨vv (.pointer (some ⟨B,0,none⟩)),_,_,_,_,rfl,.inr b6,(hS5.next b6).add fun w2 c2=>D6.Dc c2 fun b hb=>hb.elim (fun hb=>hS5.lt hb) False.elim,r [4] rfl fun _=> ?_⟩;refine cx rfl (fun M:Nat=>vv (.map (some M))) (fun _=>True) (fun M w=>w.heap[M]? =some uU) (fun w hS=>(Ge w).mono fun _ _ ⟨e,m,b⟩=>⟨_,e,b,trivial,fun hU w2 c2=>(c2.block _ (cj m) fun hu=>absurd (hU _ hu) (Nat.lt_irrefl _)).trans m⟩) fun M _=> ?_;refine r [] rfl fun _=>lk (vv (.func (.func g) #[] #[])) rfl (fun w hS=>hg▸Jr hS.now.1.2 v.k hk4) (r [] rfl fun _=>mq rfl he fun w8 hS=> ?_);refine(hg▸JE w5.heap.size B s a1 c1 a2 c2 ws v w8 hS.now.1.1.2 hW (Nat.le_trans uB (Nat.le_of_lt hS.now.1.1.2.d.lt)) h hv).mono ?_;rintro _ w9 ⟨x,rfl,s',an,ch,rfl,gZ,⟨a1',c1',a2',c2',ws',d9,r1,r2,l1,l2,n1,n2,E0,x1,x2⟩,b9⟩;have ow':=E0.one;have off:∀b,(b∈(hs _).map bT.a)→b<w5.heap.size:=fun b hb=>hS5.lt hb;have fb:aZ w9 B 148 41 (di (qS s'.ep s'.nx s'.gv (.slice a1' s'.rn c1') (.slice a2' s'.ln c2') ws')):=d9;refine⟨vt [.g [.o (iV an.c),.o (iV an.he),.o (iV an.no),.o (iV an.bd)],.o (.bool ch)],_,_,_,_,rfl,.inl rfl,hS.far (φ:=fun y=>aZ y B 148 41 (di (qS s'.ep s'.nx s'.gv (.slice a1' s'.rn c1') (.slice a2' s'.ln c2') ws'))∧RowK .i64 y a1' (2*s'.rn) s'.R∧RowK .i64 y a2' (4*s'.ln) s'.L) b9 (fun e he=>off _ (List.mem_map.2 ⟨e,he,rfl⟩)) hS5.now.2.size (fun y c=>⟨fb.same (c.block B fb.lt fun hu=>absurd uB (Nat.not_le.2 (off B hu))),mR r1 c fun x hx _ hu=>absurd (x1 x hx) (Nat.not_le.2 (off _ hu)),mR r2 c fun x hx _ hu=>absurd (x2 x hx) (Nat.not_le.2 (off _ hu))⟩),r [5,2,6] rfl fun _=> ?_⟩;refine lfg rfl 41 (di (qS s'.ep s'.nx s'.gv (.slice a1' s'.rn c1') (.slice a2' s'.ln c2') ws')) (fun w h j hj=>by rw[Nat.zero_add];exact h.1.1.at j hj) (Rv.sv 44 (vg (qS s'.ep s'.nx s'.gv (.slice a1' s'.rn c1') (.slice a2' s'.ln c2') ws')) rfl (r [] rfl fun _=>fin fun w12 hS=>⟨s',an,ch,_,rfl,gZ,⟨a1',c1',a2',c2',ws',rfl,hS.now.1.2.1,hS.now.1.2.2,l1,l2,n1,n2,E0,fun x hx=>Nat.le_trans hS5.now.2.size (x1 x hx),fun x hx=>Nat.le_trans hS5.now.2.size (x2 x hx)⟩,hS.now.2⟩)) (fun a ha=>by rw[List.mem_singleton.1 ha];exact List.mem_cons_of_mem _ (List.mem_cons_of_mem _ (List.mem_cons_self ..)))
end
theorem Tryz.l9:(Tryz.prog.info? 55).map (fun i=>(i.zero,i.size,i.bytes))=some (some (.agg #[iV 0,iV 0,iV 0,iV 0,iV 0,iV 0]),6,48):=by kernel_rfl
def o_(A B:tJ)(k:Nat):Prop:=∀j,j<6→A.getD (6*k+j) 0=B.getD (6*k+j) 0
structure mB(A B:tJ)(la lb n:Nat):Prop where
 lea:n≤la
 leb:n≤lb
 same:∀k,k<n→o_ A B k
 stop:n=la∨n=lb∨¬o_ A B n
theorem YW{p0 p1 p2 p3 p4 p5 q0 q1 q2 q3 q4 q5:Int}(hs:¬(p0=q0∧p1=q1∧p2=q2∧p3=q3∧p4=q4∧p5=q5)):
  (¬p0=q0)∨(p0=q0∧¬p1=q1)∨(p0=q0∧p1=q1∧¬p2=q2)∨(p0=q0∧p1=q1∧p2=q2∧¬p3=q3)∨(p0=q0∧p1=q1∧p2=q2∧p3=q3∧¬p4=q4)∨(p0=q0∧p1=q1∧p2=q2∧p3=q3∧p4=q4∧¬p5=q5):=by
 by_cases e0:p0=q0
 ·by_cases e1:p1=q1
  ·by_cases e2:p2=q2
   ·by_cases e3:p3=q3
    ·by_cases e4:p4=q4
     ·exact .inr (.inr (.inr (.inr (.inr ⟨e0,e1,e2,e3,e4,fun e5=>hs ⟨e0,e1,e2,e3,e4,e5⟩⟩))))
     ·exact .inr (.inr (.inr (.inr (.inl ⟨e0,e1,e2,e3,e4⟩))))
    ·exact .inr (.inr (.inr (.inl ⟨e0,e1,e2,e3⟩)))
   ·exact .inr (.inr (.inl ⟨e0,e1,e2⟩))
  ·exact .inr (.inl ⟨e0,e1⟩)
 ·exact .inl e0
theorem RowK.six{w:tF}{b off n:Nat}{D:tJ}(h:RowK .i64 w (some ⟨b,off,none⟩) (6*n) D)(k:Nat)(hk:k<n):
  w.cell? ⟨b,off+k*6,none⟩=some (iV (D.getD (6*k) 0))∧w.cell? ⟨b,off+k*6+1,none⟩=some (iV (D.getD (6*k+1) 0))∧w.cell? ⟨b,off+k*6+2,none⟩=some (iV (D.getD (6*k+2) 0))∧
  w.cell? ⟨b,off+k*6+3,none⟩=some (iV (D.getD (6*k+3) 0))∧w.cell? ⟨b,off+k*6+4,none⟩=some (iV (D.getD (6*k+4) 0))∧w.cell? ⟨b,off+k*6+5,none⟩=some (iV (D.getD (6*k+5) 0)):=by
 rw[Nat.mul_comm k 6];exact⟨h.at (6*k) (by omega),h.at (6*k+1) (by omega),h.at (6*k+2) (by omega),h.at (6*k+3) (by omega),h.at (6*k+4) (by omega),h.at (6*k+5) (by omega)⟩
theorem JF(a b:tG)(la ca lb cb:Nat)(A B:tJ)(w:tF)(hA:RowK .i64 w a (6*la) A)(hB:RowK .i64 w b (6*lb) B)(h1:la≤9223372036854775806)(h2:lb≤9223372036854775806):
  cA 170 #[.slice a la ca,.slice b lb cb] w fun e w'=>∃n:Nat,e= .returned (iV n)∧mB A B la lb n∧bZ w w':=by
 go_enter Tryz.func170,Tryz.ntmps170;go_wp2
 go_loopw [5] (fun t wr=>∃k m:Nat,k≤la∧k≤lb∧t=iV k∧wr=w.drewN m∧Hid (∀j,j<k→o_ A B j)) (fun t _=>la-(intOf t).toNat)
 case atStart=>exact⟨0,0,Nat.zero_le _,Nat.zero_le _,rfl,rfl,ai (fun j hj=>absurd hj (Nat.not_lt_zero _))⟩
 case round=>
  obtain⟨k,m,Ub,hkb,rfl,rfl,HS⟩:=hrel;by_cases h3:k<la
  case neg=>
   obtain rfl:k=la:=by omega
   clear hA hB
   go_wp2_with fail
   go_quiet (fail)
   go_wp2;go_ret;exact⟨k,rfl,⟨Nat.le_refl _,hkb,aa HS,.inl rfl⟩,⟨rfl,rfl,rfl,Nat.le_refl _,fun _ _=>rfl⟩⟩
  case pos=>
  by_cases h4:k<lb
  case neg=>
   obtain rfl:k=lb:=by omega
   clear hA hB
   go_wp2_with fail
   go_quiet (fail)
   go_wp2;go_ret;exact⟨k,rfl,⟨Ub,Nat.le_refl _,aa HS,.inr (.inl rfl)⟩,⟨rfl,rfl,rfl,Nat.le_refl _,fun _ _=>rfl⟩⟩
  case pos=>
  obtain⟨b1,o1,rfl⟩:=hA.form (by omega);obtain⟨b2,o2,rfl⟩:=hB.form (by omega);obtain⟨x0,x1,x2,x3,x4,x5⟩:=hA.six k h3;obtain⟨y0,y1,y2,y3,y4,y5⟩:=hB.six k h4
  have HE:Hid (o_ A B k↔(A.getD (6*k) 0=B.getD (6*k) 0∧A.getD (6*k+1) 0=B.getD (6*k+1) 0∧A.getD (6*k+2) 0=B.getD (6*k+2) 0∧A.getD (6*k+3) 0=B.getD (6*k+3) 0∧A.getD (6*k+4) 0=B.getD (6*k+4) 0∧A.getD (6*k+5) 0=B.getD (6*k+5) 0)):=ai (by
   constructor
   ·intro h;exact⟨h 0 (by omega),h 1 (by omega),h 2 (by omega),h 3 (by omega),h 4 (by omega),h 5 (by omega)⟩
   ·rintro⟨e0,e1,e2,e3,e4,e5⟩ j hj
    match j,hj with
    |0,_=>exact e0
    |1,_=>exact e1
    |2,_=>exact e2
    |3,_=>exact e3
    |4,_=>exact e4
    |5,_=>exact e5)
  clear hA hB;generalize A.getD (6*k) 0=p0 at x0 HE;generalize A.getD (6*k+1) 0=p1 at x1 HE;generalize A.getD (6*k+2) 0=p2 at x2 HE;generalize A.getD (6*k+3) 0=p3 at x3 HE;generalize A.getD (6*k+4) 0=p4 at x4 HE;generalize A.getD (6*k+5) 0=p5 at x5 HE;generalize B.getD (6*k) 0=q0 at y0 HE;generalize B.getD (6*k+1) 0=q1 at y1 HE;generalize B.getD (6*k+2) 0=q2 at y2 HE;generalize B.getD (6*k+3) 0=q3 at y3 HE;generalize B.getD (6*k+4) 0=q4 at y4 HE;generalize B.getD (6*k+5) 0=q5 at y5 HE;by_cases hs:p0=q0∧p1=q1∧p2=q2∧p3=q3∧p4=q4∧p5=q5
  ·have HS1:Hid (∀j,j<k+1→o_ A B j):=ai fun j hj=>by
    rcases Nat.lt_or_ge j k with h|h
    ·exact aa HS j h
    ·obtain rfl:j=k:=by omega
     exact(aa HE).2 hs
   clear HE HS;obtain⟨rfl,rfl,rfl,rfl,rfl,rfl⟩:=hs
   go_wp2_with fail
   go_quiet (fail)
   clear x0 x1 x2 x3 x4 x5 y0 y1 y2 y3 y4 y5;go_wp2
   go_roundw
   case rel=>exact⟨k+1,m+nq,by omega,by omega,by go_num,by first|exact(World.drewN_add _ _ _).symm|exact World.drewN_add _ _ _|exact World.drewN_drewN _ _ _|rfl|simp,HS1⟩
   case measure=>simp[intOf];omega
  ·have HN:Hid (¬o_ A B k):=ai fun h=>hs ((aa HE).1 h);have hd:=YW hs;clear HE hs;rcases hd with hd|⟨rfl,hd⟩|⟨rfl,rfl,hd⟩|⟨rfl,rfl,rfl,hd⟩|⟨rfl,rfl,rfl,rfl,hd⟩|⟨rfl,rfl,rfl,rfl,rfl,hd⟩
   all_goals
    go_wp2_with fail
    go_quiet (fail)
    go_wp2;go_ret;exact⟨k,rfl,⟨Ub,hkb,aa HS,.inr (.inr (aa HN))⟩,⟨rfl,rfl,rfl,Nat.le_refl _,fun _ _=>rfl⟩⟩
theorem abm(w:tF)(x0 x1 x2 x3 x4 x5:Int)(t:tY):∀j u,([x0,x1,x2,x3,x4,x5].map (Value.int .i64))[j]? =some u→(w.alloc (.cells #[iV x0,iV x1,iV x2,iV x3,iV x4,iV x5] t)).drew.cell? ((⟨w.heap.size,0,none⟩:Addr).add j)=some u:=by
 intro j u hj;rw[Addr.add_mid]
 match j,hj with
 |0,hj=>simp at hj;subst hj;simp
 |1,hj=>simp at hj;subst hj;simp
 |2,hj=>simp at hj;subst hj;simp
 |3,hj=>simp at hj;subst hj;simp
 |4,hj=>simp at hj;subst hj;simp
 |5,hj=>simp at hj;subst hj;simp
 |n+6,hj=>simp at hj
def St.zero:St:=⟨0,0,0,0,[],0,[],fun _=>0,fun _ _=>false⟩
theorem St.Vp:St.zero.Wf:=by
 refine⟨⟨⟨by decide,by decide,by decide,by decide,by decide,by decide,by decide⟩,fun p _=>fG.none,⟨fun i hi=>absurd hi (Nat.not_lt_zero _),fun i hi=>absurd hi (Nat.not_lt_zero _),rfl⟩,fun i hi=>absurd hi (Nat.not_lt_zero _)⟩,rfl,rfl⟩
def aX(v:Ev):List Int:=[v.k,v.p,v.i,v.b,v.he,v.hn]
def fp(a:An):List Int:=[a.c,a.he,a.no,a.bd]
def ak(es:List Ev):List Int:=es.flatMap aX
def kR(bw:List An):List Int:=bw.flatMap fp
theorem Gp(es:List Ev)(v:Ev):ak (es++[v])=ak es++aX v:=by simp[ak]
theorem xz(bw:List An)(a:An):kR (bw++[a])=kR bw++fp a:=by simp[kR]
structure Qb(w wr:tF)(B:Nat)(s:St)(a1:tG)(c1:Nat)(a2:tG)(c2:Nat)(ws:tH):Prop where
 q:aV wr B s.ep s.nx s.gv (.slice a1 s.rn c1) (.slice a2 s.ln c2) ws
 r1:RowK .i64 wr a1 (2*s.rn) s.R
 r2:RowK .i64 wr a2 (4*s.ln) s.L
 l1:s.rn≤c1
 l2:s.ln≤c2
 n1:a1=none→c1=0
 n2:a2=none→c2=0
 Ga:gR ws s.wt s.wz
 f1:∀x,a1=some x→w.heap.size<x.block
 f2:∀x,a2=some x→w.heap.size<x.block
structure Pl(w wr:tF)(Z B:Nat)(s:St)(a1:tG)(c1:Nat)(a2:tG)(c2:Nat)(ws:tH)(ve va:tN)(es:List Ev)(bw:List An):Prop where
 z:aV wr Z 0 0 0 (.slice none 0 0) (.slice none 0 0) eT
 q:Qb w wr B s a1 c1 a2 c2 ws
 oe:wr.ownsRow (B+1) 55 6 ve es.length ((ak es).map (Value.int .i64))
 oa:wr.ownsRow (B+1) 59 4 va bw.length ((kR bw).map (Value.int .i64))
 dC:bZ w wr
 upZ:w.heap.size≤Z
 upB:Z<B
structure YX(B n:Nat)(wa wb:tF):Prop where
 os:wb.os=wa.os
 tape:wb.tape=wa.tape
 output:wb.output=wa.output
 size:wa.heap.size≤wb.heap.size
 block:∀X,X<n→X≠B→wb.heap[X]? =wa.heap[X]?
def An.zero:An:=⟨0,0,0,0⟩
inductive Gq(s:St)(v:Ev):St→An→Bool→Int→Prop
 |step {s':St} {an:An} {ch:Bool} (hv:v.Ok) (st:Step s v s' an ch):Gq s v s' an ch 0
 |form (er:Int) (hv:aQ v.k v.p v.i v.b v.he v.hn=er) (h:¬er=0):Gq s v St.zero An.zero false er
theorem Gq.err{s s':St}{v:Ev}{an:An}{ch:Bool}{er:Int}(h:Gq s v s' an ch er):er=0∨(¬er=0∧ch=false):=by
 cases h with
 |step=>exact .inl rfl
 |form _ _ h=>exact .inr ⟨h,rfl⟩
theorem Q3(s:St)(ra la:tG)(rc lc:Nat)(ws:tH)(v:Ev)(w:tF)(hR:RowK .i64 w ra (2*s.rn) s.R)(hL:RowK .i64 w la (4*s.ln) s.L)(nR:ra=none→rc=0)(nL:la=none→lc=0)(hW:gR ws s.wt s.wz)(h:s.Ok):
  cA 36 #[iI s.ep s.nx s.gv (.slice ra s.rn rc) (.slice la s.ln lc) ws,qE v] w fun e w'=>∃(s':St) (an:An) (ch:Bool) (er:Int) (x:tN),e= .returned (.tuple #[x,Gm an,.bool ch,iV er])∧Gq s v s' an ch er∧wC w w' s' x∧bZ w w':=by
 by_cases hv:v.Ok
 ·refine(Vo s ra la rc lc ws v w hR hL nR nL hW h hv).mono ?_;rintro e w' ⟨s',an,ch,x,rfl,st,q,b⟩;exact⟨s',an,ch,0,x,rfl,.step hv st,q,b⟩
 ·refine(Vn s ra la rc lc ws v w hR hL hW h _ hv (ai rfl)).mono ?_;rintro e w' ⟨rfl,b⟩;exact⟨St.zero,An.zero,false,_,_,rfl,.form _ rfl hv,⟨⟨none,0,none,0,eT,rfl,RowK.nil _ _ _,RowK.nil _ _ _,Nat.le_refl _,Nat.le_refl _,fun _=>rfl,fun _=>rfl,jK,fun x hx=>(by cases hx),fun x hx=>(by cases hx)⟩⟩,b⟩
def qF(ep nx gv:Int)(r l:tN)(ws:tH):Nat→Value
 |0=>iV ep
 |1=>iV nx
 |2=>iV gv
 |3=>r
 |4=>l
 |j+5=>ws j
theorem Nc(ep nx gv:Int)(r l:tN)(ws:tH):dU ep nx gv r l ws=(b_ (qF ep nx gv r l ws) 0 41).toArray:=by
 apply Array.ext_getElem?;intro i;have e:(b_ (qF ep nx gv r l ws) 0 41).toArray[i]? =(b_ (qF ep nx gv r l ws) 0 41)[i]? :=by simp
 rw[e];by_cases hi:i<41
 ·rw[cE _ _ _ _ hi,Nat.zero_add];obtain⟨h0,h1,h2,h3,h4⟩:=oX ep nx gv r l ws
  match i,hi with
  |0,_=>exact h0
  |1,_=>exact h1
  |2,_=>exact h2
  |3,_=>exact h3
  |4,_=>exact h4
  |j+5,hj=>rw[Nat.add_comm j 5,MP _ _ _ _ _ _ j (by omega),Nat.add_comm 5 j];rfl
 ·rw[gO _ _ _ _ (by omega),Array.getElem?_eq_none (by rw[cV];omega)]
theorem rF(ep nx gv:Int)(r l:tN)(ws:tH):iI ep nx gv r l ws=vF (qF ep nx gv r l ws) 41:=by rw[iI,Nc]
structure wD(w:tF)(s:St)(q:tH):Prop where
 ex:∃ra rc la lc ws,q=qF s.ep s.nx s.gv (.slice ra s.rn rc) (.slice la s.ln lc) ws∧RowK .i64 w ra (2*s.rn) s.R∧RowK .i64 w la (4*s.ln) s.L∧s.rn≤rc∧s.ln≤lc∧(ra=none→rc=0)∧(la=none→lc=0)∧gR ws s.wt s.wz
theorem wD.next{w w':tF}{s:St}{q:tH}(h:wD w s q)(b:bZ w w'):wD w' s q:=by
 obtain⟨ra,rc,la,lc,ws,h1,h2,h3,h4⟩:=h.ex;exact⟨ra,rc,la,lc,ws,h1,h2.below b,h3.below b,h4⟩
theorem wD.one{w:tF}{s:St}{q:tH}(h:wD w s q):a7 q 41:=by
 obtain⟨ra,rc,la,lc,ws,rfl,_,_,_,_,_,_,hW⟩:=h.ex;intro i hi
 match i,hi with
 |0,_=>rfl
 |1,_=>rfl
 |2,_=>rfl
 |3,_=>rfl
 |4,_=>rfl
 |j+5,hj=>exact Xu hW _ (List.mem_map.2 ⟨j,List.mem_range.2 (by omega),rfl⟩)
def zQ:Nat→Value:=qF 0 0 0 (.slice none 0 0) (.slice none 0 0) eT
theorem zJ:a7 zQ 41:=fun i hi=>by
 match i,hi with
 |0,_=>rfl
 |1,_=>rfl
 |2,_=>rfl
 |3,_=>rfl
 |4,_=>rfl
 |j+5,hj=>
  show(eT j).oneCell'=true;unfold eT;split<;>rfl
section
open Rv
abbrev YY(v:Ev):List Sg:=[.o (iV v.k),.o (iV v.p),.o (iV v.i),.o (iV v.b),.o (iV v.he),.o (iV v.hn)]
abbrev Pw(a:An):List Sg:=[.o (iV a.c),.o (iV a.he),.o (iV a.no),.o (iV a.bd)]
abbrev bS(r e f t o:Int)(a:tG)(n c:Nat):List Sg:=[.o (iV r),.o (iV e),.o (iV f),.o (iV t),.o (iV o),.o (.slice a n c)]
theorem Q4{s:St}{q:tH}{w:tF}(hq:wD w s q)(ok:s.Ok)(v:Ev):cA 36 #[vF q 41,qE v] w fun e w'=>∃(s':St) (an:An) (ch:Bool) (er:Int) (q':tH),e= .returned (.tuple #[vF q' 41,Gm an,.bool ch,iV er])∧Gq s v s' an ch er∧(∀U:Nat→Prop,(∀b,U b→b<w.heap.size)→bU U w' fun w=>wD w s' q')∧bZ w w':=by
 obtain⟨ra,rc,la,lc,ws,rfl,h1,h2,h3,h4,h5,h6,h7⟩:=hq.ex;rw[←rF];refine(Q3 s ra la rc lc ws v w h1 h2 h5 h6 h7 ok).mono ?_;rintro _ w' ⟨s',an,ch,er,x,rfl,hd,ho,hb⟩;obtain⟨a1,c1,a2,c2,ws',rfl,g1,g2,g3,g4,g5,g6,g7,g8,g9⟩:=ho.ex;refine⟨s',an,ch,er,_,by rw[rF],hd,fun U hU w2 c2'=> ?_,hb⟩;exact⟨a1,c1,a2,c2,ws',rfl,cD g1 g8 hU w2 c2',cD g2 g9 hU w2 c2',g3,g4,g5,g6,g7⟩
theorem XC{s s1:St}{v:Ev}{an:An}{ch:Bool}{er:Int}(hv:v.Ok)(h:Gq s v s1 an ch er):er=0∧Step s v s1 an ch:=by
 cases h with
 |step _ st=>exact⟨rfl,st⟩
 |form _ hf hn=>exact absurd (hf.symm.trans hv) hn
theorem Lc{w:tF}{R T:Nat}{g:tH}(v:Ev)(hv:∀u∈aX v,(Lit.int .i64 u).wf=true)(h:aZ w R T 6 g)(hg:∀i,i<6→g i=iV ((aX v).getD i 0)):RowK .i64 w (some ⟨R,0,none⟩) (6*1) (ak [v]):=by
 refine⟨rfl,by simpa[ak]using hv,fun i hi=>⟨R,0,rfl,h.lt, ?_⟩⟩;rw[Nat.zero_add,h.at i (by omega),hg i (by omega)];simp[ak]
theorem gF{g:Nat}{xs:tR}{w:tF}{b:Bool}(b2:Bool)(h:cA g xs w fun e w'=>e= .returned (.bool b)∧w'=w)(e:b=b2):cA g xs w fun x w'=>x= .returned (vv (.bool b2)).val∧bZ w w':=h.mono fun _ _ ⟨h1,h2⟩=>by subst h2 e;exact⟨h1,Below.refl _ _⟩
theorem nh{g:Nat}{xs:tR}{w:tF}{b:Bool}(b2:Bool)(h:cA g xs w (rB (.bool b) w))(e:b=b2):cA g xs w fun x w'=>x= .returned (vv (.bool b2)).val∧bZ w w':=e▸h
end
end Go.Proofs.YtmhifeahpnkpiaaGreatDoor
namespace Go.Proofs
open Go.Shelf
def Tryz.laysGrow_ren:Go.Shelf.Ren:=⟨fun|4=>236|n=>n,fun|22=>47|25=>55|3=>3|4=>4|9=>9|20=>20|0=>0|n=>n,fun|n=>n⟩
theorem Tryz.laysGrow:Go.Proofs.Lays8.n4 Tryz.prog Tryz.laysGrow_ren:={
 mixed:=by kernel_rfl
 f4:=⟨Tryz.f236.name,by decide,Tryz.func236.trans (congrArg some (by kernel_rfl))⟩
 t0:=Tryz.underlying0
 a0:=Tryz.isAgg0
 z0:=Tryz.sizeOf0
 v0:=Tryz.zeroValue0
 t3:=Tryz.underlying3
 a3:=Tryz.isAgg3
 z3:=Tryz.sizeOf3
 v3:=Tryz.zeroValue3
 t4:=Tryz.underlying4
 a4:=Tryz.isAgg4
 z4:=Tryz.sizeOf4
 v4:=Tryz.zeroValue4
 t9:=Tryz.underlying9
 a9:=Tryz.isAgg9
 z9:=Tryz.sizeOf9
 v9:=Tryz.zeroValue9
 t20:=Tryz.underlying20
 a20:=Tryz.isAgg20
 z20:=Tryz.sizeOf20
 v20:=Tryz.zeroValue20
 t22:=Tryz.underlying47
 a22:=Tryz.isAgg47
 z22:=Tryz.sizeOf47
 v22:=Tryz.zeroValue47}
end Go.Proofs
namespace Go.Proofs.YtmhifeahpnkpiaaGreatDoor
open Go.RowKit
structure u9(w w':tF)(n:Nat)(A:tJ)(v:tN):Prop where
 ex:∃a c,v= .slice a n c∧RowK .i64 w' a (6*n) A∧n≤c∧(a=none→c=0)∧(∀x,a=some x→w.heap.size≤x.block)
theorem u9.of{w w':tF}{n:Nat}{A:tJ}{v:tN}(own:w'.ownsRow w.heap.size 55 6 v n (A.map (Value.int .i64)))(vT:∀u∈A,(Lit.int .i64 u).wf=true):u9 w w' n A v:=by
 obtain⟨a',c',rfl,r3,hc,_,n3,u3⟩:=RowK.jF own vT;exact⟨a',c',rfl,r3,hc,n3,u3⟩
theorem Cn(a:tG)(n c:Nat)(A:tJ)(w:tF)(hA:RowK .i64 w a (6*n) A)(hn:a=none→c=0)(hs:n≤1000000):
  cA 192 #[.slice a n c] w fun e w'=>∃v,e= .returned v∧u9 w w' n A v∧bZ w w':=by
 obtain⟨i6,hi6,hz60,hz61,hz62⟩:=gY Tryz.l9;have vT:=hA.wf;cases a with
 |none=>
  obtain rfl:n=0:=by
   rcases Nat.eq_zero_or_pos n with h|h
   ·exact h
   ·obtain⟨_,_,h',_⟩:=hA.cell 0 (by omega);cases h'
  have hA0:A=[]:=List.length_eq_zero_iff.1 (by simpa using hA.cB);subst hA0;have q:∀(w:tF) (n c n' c':Nat),(binOp .eql 47 (.slice none n c) (.slice none n' c')).run Tryz.prog w= .ok (.bool true) w:=fun w n c n' c'=>Lib.run_eql_slice_nil w _ _ none n c n' c' Tryz.underlying47;go_enter Tryz.func192,Tryz.ntmps192;go_wp2;go_ret;exact⟨_,rfl,⟨none,0,rfl,RowK.nil _ _ _,Nat.le_refl _,fun _=>rfl,fun x hx=>by cases hx⟩,Below.refl _ _⟩
 |some x=>
  have q:∀(w:tF) (n c n' c':Nat),(binOp .eql 47 (.slice (some x) n c) (.slice none n' c')).run Tryz.prog w= .ok (.bool false) w:=fun w n c n' c'=>Lib.run_eql_slice_nil w _ _ (some x) n c n' c' Tryz.underlying47
  have HF:Hid (∀v' w' w1,bZ w w1→w'.ownsRow w.heap.size 55 6 v' n (A.map (Value.int .i64))→w1.grownBy w' (some w.heap.size)→u9 w w' n A v'∧bZ w w'):=ai (by
   intro v' w' w1 b1 own grow
   exact⟨u9.of own vT,b1.grown grow b1.size (fun q hq=>by cases hq;exact Nat.le_refl _)⟩)
  have O1:Hid ((w.alloc (.cells #[] 55)).ownsRow w.heap.size 55 6 (.slice (some ⟨w.heap.size,0,none⟩) 0 0) 0 []):=ai (World.ownsRow_made w #[] 0 (Nat.le_refl _) (Nat.zero_le _) (by simp));have B1:Hid (Below w.heap.size w (w.alloc (.cells #[] 55))):=ai (aB _ _);have RA:=ai (hA.below (aa B1));clear hA vT;go_enter Tryz.func192,Tryz.ntmps192
  go_wp2_with (at_builtin;refine cI rfl _ _ 47 rfl w.heap.size 55 i6 _ 6 48 Tryz.underlying47 hi6 hz60 hz61 hz62 rfl (by decide) (.slice (some ⟨w.heap.size,0,none⟩) 0 0) 0 [] rfl (aa O1) (some x) n c A rfl (aa RA) hn (by unfold maxLen;omega) (by omega) (aa B1).size ?_;intro v' w4 JG grow4;rw[List.nil_append,Nat.zero_add]at JG;have R:=ai (aa HF v' w4 _ (aa B1) JG grow4);clear JG grow4)
  go_ret;exact⟨_,rfl,aa R⟩
theorem Vq(n:Nat)(w:tF)(hs:n≤2000000):
  cA 236 #[.slice none 0 0,iV n] w fun e w'=>∃v,e= .returned v∧w'.ownsRow w.heap.size 55 6 v 0 []∧bZ w w':=by
 obtain⟨i6,hi6,hz60,hz61,hz62⟩:=gY Tryz.l9;rcases Nat.eq_zero_or_pos n with h0|h0
 ·subst h0;refine(Any8.slices_Grow_room Tryz.laysGrow none 0 0 0 w (Nat.le_refl _) (by omega) (by omega) (Nat.le_refl _)).mono ?_;rintro e w' ⟨rfl,rfl⟩;exact⟨_,rfl,World.ownsRow_nil _ _ _ _,Below.refl _ _⟩
 ·refine(Any8.slices_Grow_grow Tryz.laysGrow i6 _ hi6 hz60 (by rw[hz61];decide) none 0 0 n [] w (Nat.le_refl _) (by omega) (by rw[hz62];omega) (by omega) (by simp) (fun _=>rfl) (fun a ha=>by cases ha)).mono ?_;rintro e w' ⟨rfl,rfl⟩;refine⟨_,rfl, ?_,(Below.refl _ _).drew.alloc (Nat.le_refl _) _⟩;refine World.ownsRow_made (base:=w.heap.size) w.drew _ _ (Nat.le_refl _) (grownCap_le_maxLen _ _ _ _ (by unfold maxLen;omega)) ?_;have h1:=grownCap_ge w (0+n) 0 55;have h2:(Value.agg #[iV 0,iV 0,iV 0,iV 0,iV 0,iV 0]).cells.size=6:=rfl;simp only[Array.size_append,size_zeroCells,h2];show 0+(0+n-0)*6+(grownCap w (0+n) 0 55-(0+n))*6=grownCap w (0+n) 0 55*6;omega
theorem Nf(g:Nat)(a b:tG)(la ca lb cb:Nat)(A B:tJ)(w:tF)(hg:w.heap[g]? =some (.cells #[.slice a la ca,.slice b lb cb] 47 (0,0)))(hA:RowK .i64 w a (6*la) A)(hB:RowK .i64 w b (6*lb) B)(nA:a=none→ca=0)(nB:b=none→cb=0)(hs:la+lb≤1000000):
  cA 204 #[.slice (some ⟨g,0,none⟩) 2 2] w fun e w'=>∃v,e= .returned v∧u9 w w' (la+lb) (A++B) v∧bZ w w':=by
 obtain⟨i6,hi6,hz60,hz61,hz62⟩:=gY Tryz.l9;have vT:∀u∈A++B,(Lit.int .i64 u).wf=true:=fun u hu=>by
  rcases List.mem_append.1 hu with h|h
  ·exact hA.wf u h
  ·exact hB.wf u h
 have HA:Hid (∀w',bZ w w'→RowK .i64 w' a (6*la) A):=ai fun w' b=>hA.below b;have HB:Hid (∀w',bZ w w'→RowK .i64 w' b (6*lb) B):=ai fun w' b=>hB.below b;have K3:g<w.heap.size:=by
  rcases Nat.lt_or_ge g w.heap.size with h'|h'
  ·exact h'
  ·simp[Array.getElem?_eq_none h']at hg
 have HG:Hid (∀w',bZ w w'→w'.cell? ⟨g,0,none⟩=some (.slice a la ca)∧w'.cell? ⟨g,1,none⟩=some (.slice b lb cb)):=ai fun w' hb=>by
  have h1:w'.heap[g]? =_:=(hb.block g K3).trans hg;constructor<;>simp[World.cell?,h1]
 have HW:Hid (∀w' v,w'.ownsRow w.heap.size 55 6 v (la+lb) ((A++B).map (Value.int .i64))→u9 w w' (la+lb) (A++B) v):=ai fun w' v o=>u9.of o vT;clear hA hB hg K3 vT;obtain⟨c0,c1⟩:=aa HG w (Below.refl _ _);have wa:IntKind.i64.wrap (0+(la:Int))=(la:Int):=by rw[IntKind.wrap_i64];omega
 have wb:IntKind.i64.wrap ((la:Int)+(lb:Int))=((la+lb:Nat):Int):=by rw[IntKind.wrap_i64];omega
 go_enter Tryz.func204,Tryz.ntmps204
 go_wp2_with fail
 go_loopw [3,11] (fun s i wr=>w=wr∧((i=iV 0∧s=iV 0)∨(i=iV 1∧s=iV la)∨(i=iV 2∧s=iV (la+lb:Nat)))) (fun _ i _=>2-(intOf i).toNat)
 case atStart=>exact⟨rfl,.inl ⟨rfl,rfl⟩⟩
 case round=>
  obtain⟨rfl,hrel⟩:=hrel;rcases hrel with⟨rfl,rfl⟩|⟨rfl,rfl⟩|⟨rfl,rfl⟩
  ·have h0:decide ((la:Int)<0)=false:=decide_eq_false (by omega)
   go_wp2_with fail
   go_roundw
   case rel=>exact⟨trivial,.inr (.inl ⟨by go_num,by first|rfl|go_num⟩)⟩
   case measure=>simp[intOf]
  ·have h0:decide (((la+lb:Nat):Int)<0)=false:=decide_eq_false (by omega)
   go_wp2_with fail
   go_roundw
   case rel=>exact⟨trivial,.inr (.inr ⟨by go_num,by first|rfl|go_num⟩)⟩
   case measure=>simp[intOf]
  ·go_wp2_with (go_at_call 236;refine(Vq (la+lb) w (by omega)).mono ?_;rintro e W1 ⟨v1,rfl,o1,b1⟩)
   clear c0 c1
   go_loopw [6,27] (fun s i wx=>bZ w wx∧((i=iV 0∧wx.ownsRow w.heap.size 55 6 s 0 [])∨(i=iV 1∧wx.ownsRow w.heap.size 55 6 s la (A.map (Value.int .i64)))∨(i=iV 2∧wx.ownsRow w.heap.size 55 6 s (la+lb) ((A++B).map (Value.int .i64))))) (fun _ i _=>2-(intOf i).toNat)
   case atStart=>exact⟨b1,.inl ⟨rfl,o1⟩⟩
   case round=>
    clear o1 b1;obtain⟨b2,hrel⟩:=hrel;rcases hrel with⟨rfl,o2⟩|⟨rfl,o2⟩|⟨rfl,o2⟩
    ·obtain⟨c0,c1⟩:=aa HG _ b2
     go_wp2_with (at_builtin;refine cI rfl _ _ 47 rfl w.heap.size 55 i6 _ 6 48 Tryz.underlying47 hi6 hz60 hz61 hz62 rfl (by decide) _ 0 [] rfl o2 a la ca A rfl (aa HA _ b2) nA (by unfold maxLen;omega) (by omega) (by have:=b2.size;omega) ?_;intro v3 W3 o3 g3;simp only[Nat.zero_add,List.nil_append]at o3;have b3:=b2.grown g3 b2.size (fun q hq=>(o2.lt q hq).1);clear o2 g3 b2 c0 c1)
     go_roundw
     case rel=>exact⟨b3,.inr (.inl ⟨by go_num,o3⟩)⟩
     case measure=>simp[intOf]
    ·obtain⟨c0,c1⟩:=aa HG _ b2
     go_wp2_with (at_builtin;refine cI rfl _ _ 47 rfl w.heap.size 55 i6 _ 6 48 Tryz.underlying47 hi6 hz60 hz61 hz62 rfl (by decide) _ la A rfl o2 b lb cb B rfl (aa HB _ b2) nB (by unfold maxLen;omega) (by omega) (by have:=b2.size;omega) ?_;intro v3 W3 o3 g3;have b3:=b2.grown g3 b2.size (fun q hq=>(o2.lt q hq).1);clear o2 g3 b2 c0 c1)
     go_roundw
     case rel=>exact⟨b3,.inr (.inr ⟨by go_num,o3⟩)⟩
     case measure=>simp[intOf]
    ·have R:=ai (And.intro (aa HW _ _ o2) b2);clear o2 b2;go_wp2;go_ret;exact⟨_,rfl,aa R⟩
theorem xA(a b:tG)(la ca lb cb:Nat)(A B:tJ)(w:tF)(hA:RowK .i64 w a (6*la) A)(hB:RowK .i64 w b (6*lb) B)(nA:a=none→ca=0)(nB:b=none→cb=0)(hs:la+lb≤1000000):
  cA 164 #[.slice a la ca,.slice b lb cb] w fun e w'=>∃v,e= .returned v∧u9 w w' (la+lb) (A++B) v∧bZ w w':=by
 have HC:=Nf w.heap.size a b la ca lb cb A B (w.alloc (.cells #[.slice a la ca,.slice b lb cb] 47)) (heap_alloc_new w _) (hA.below (aB _ _)) (hB.below (aB _ _)) nA nB hs;clear hA hB;go_enter Tryz.func164,Tryz.ntmps164
 go_wp2_with (go_at_call 204;refine HC.mono ?_;rintro e W1 ⟨v1,rfl,o1,b1⟩)
 go_ret;obtain⟨a',c',rfl,r,h1,h2,h3⟩:=o1.ex;exact⟨_,rfl,⟨a',c',rfl,r,h1,h2,fun x hx=>by have:=h3 x hx;simp at this;omega⟩,oR b1⟩
theorem Step.abn{s s':St}{v:Ev}{an:An}{ch:Bool}(st:Step s v s' an ch)(hk:v.k=3)(h1:¬v.he=s.ep):ch=false∧an=⟨11,0,0,0⟩∧s'=s:=by
 cases st with
 |iJ k_|iK k_|fK k_|IG k_|eH k_|fL k_|recv k_|fP k_|stop k_=>omega
 |eI _ h'=>exact⟨rfl,rfl,rfl⟩
 |fM _ h' _=>exact absurd h' h1
 |IH _ h' m hm hb=>exact absurd h' h1
theorem Step.Q5{s s':St}{v:Ev}{an:An}{ch:Bool}(st:Step s v s' an ch)(hk:v.k=2)(h1:0<s.rn)(h2:s.gv<1073741824):
  ch=true∧an=⟨0,s.ep,s.gv,s.R.getD 1 0⟩∧s'=⟨s.ep,s.nx,s.gv+1,s.rn-1,s.R.drop 2,s.ln+1,s.L++[s.ep,s.gv,s.R.getD 0 0,s.R.getD 1 0],s.wt,s.wz⟩:=by
 cases st with
 |iJ k_|iK k_|fK k_|IG k_|eI k_|fM k_|IH k_|fP k_|stop k_=>omega
 |eH _ h'=>omega
 |fL _ _ h'=>omega
 |recv _ _ _=>exact⟨rfl,rfl,rfl⟩
theorem Step.Vr{s s':St}{v:Ev}{an:An}{ch:Bool}(st:Step s v s' an ch)(hk:v.k=2)(h1:s.rn=0):ch=false∧an=⟨10,0,0,0⟩∧s'=s:=by
 cases st with
 |iJ k_|iK k_|fK k_|IG k_|eI k_|fM k_|IH k_|fP k_|stop k_=>omega
 |eH _ h'=>exact⟨rfl,rfl,rfl⟩
 |fL _ h' _=>omega
 |recv _ h' _=>omega
theorem Step.Ng{s s':St}{v:Ev}{an:An}{ch:Bool}(st:Step s v s' an ch)(hk:v.k=1)(h1:s.wt v.p.toNat-8≤v.i)(hn:h_ (s.wt v.p.toNat) (s.wz v.p.toNat) v.i=false)(h2:s.rn+s.ln<500)(h3:s.nx<1073741824):
  ch=true∧an=⟨0,0,0,0⟩∧s'=⟨s.ep,s.nx+1,s.gv,s.rn+1,s.R++[s.nx,v.b],s.ln,s.L,xW s.wt v.p.toNat (ij (s.wt v.p.toNat) v.i),xW s.wz v.p.toNat (eX (s.wt v.p.toNat) (s.wz v.p.toNat) v.i)⟩:=by
 cases st with
 |eH k_|fL k_|recv k_|eI k_|fM k_|IH k_|fP k_|stop k_=>omega
 |iJ _ h'=>omega
 |iK _ h'=>rw[hn]at h';cases h'
 |fK _ _ _ h'=>omega
 |IG _ _ _ _ _=>exact⟨rfl,rfl,rfl⟩
theorem xB{t x:Int}{s:tQ}(h:x<t-8):h_ t s x=false:=by
 unfold h_;rw[decide_eq_false (by omega)];simp
theorem Q6{A B:tJ}{n:Nat}(ha:A.length=2*n)(hb:B.length=2*n)(h:∀i,i<n→A.getD (2*i) 0=B.getD (2*i) 0∧A.getD (2*i+1) 0=B.getD (2*i+1) 0):A=B:=by
 apply List.ext_getElem (by omega);intro i h1 h2;have e:∀(L:tJ) (hL:i<L.length),L[i]=L.getD i 0:=fun L hL=>by simp[List.getElem?_eq_getElem hL]
 rw[e A h1,e B h2];have hi:=h (i/2) (by omega);rcases Nat.mod_two_eq_zero_or_one i with hm|hm
 ·have:2*(i/2)=i:=by omega
  rw[this]at hi;exact hi.1
 ·have:2*(i/2)+1=i:=by omega
  rw[this]at hi;exact hi.2
theorem Gr{s:St}{A B:tJ}(h:s.Wf)(ha:Ordered (s.R++dH s.L s.ln) A (s.rn+s.ln))(hb:Ordered (s.R++dH s.L s.ln) B (s.rn+s.ln)):A=B:=by
 have ra:=o7 h ha;have rb:=o7 h hb;have sorted:∀(C:tJ) (n:Nat),(∀i,i+1<n→C.getD (2*i) 0<C.getD (2*(i+1)) 0)→(cg C n).Pairwise (fun x y=>x.1<y.1):=by
  intro C n hC;have far:∀j i,i<j→j<n→C.getD (2*i) 0<C.getD (2*j) 0:=by
   intro j
   induction j with
   |zero=>intro i h1;omega
   |succ j ih=>
    intro i h1 h2;have hs:=hC j h2;rcases Nat.lt_or_ge i j with h3|h3
    ·have:=ih i h3 (by omega);omega
    ·obtain rfl:i=j:=by omega
     exact hs
  rw[List.pairwise_iff_getElem];intro i j hi hj hij;have hi':i<n:=by simpa[cg]using hi
  have Q7:j<n:=by simpa[cg]using hj
  simp only[cg,List.getElem_map,List.getElem_range,gD];exact far j i hij Q7
 have hp:(cg A (s.rn+s.ln)).Perm (cg B (s.rn+s.ln)):=ha.perm.trans hb.perm.symm;have he:cg A (s.rn+s.ln)=cg B (s.rn+s.ln):=by
  refine List.Perm.eq_of_pairwise (le:=fun x y=>x.1<y.1) ?_ (sorted A _ ra) (sorted B _ rb) hp;intro a b _ _ h1 h2;omega
 refine Q6 ha.len hb.len (fun i hi=> ?_);have h1:(cg A (s.rn+s.ln))[i]? =(cg B (s.rn+s.ln))[i]? :=by rw[he]
 simp[cg,hi,gD]at h1;simpa using h1
theorem Step.Ur{s s1 s2:St}{v:Ev}{a1 a2:An}{c1 c2:Bool}(h:s.Wf)(x:Step s v s1 a1 c1)(y:Step s v s2 a2 c2):s1=s2∧a1=a2∧c1=c2:=by
 cases x with
 |iJ hk g=>cases y with
  |iJ=>exact⟨rfl,rfl,rfl⟩
  |iK _ g2=>rw[xB g]at g2;cases g2
  |fK|IG|eH|fL|recv|eI|fM|IH|fP|stop=>omega
 |iK hk g=>cases y with
  |iJ _ g2=>rw[xB g2]at g;cases g
  |iK=>exact⟨rfl,rfl,rfl⟩
  |fK _ _ g2=>rw[g]at g2;cases g2
  |IG _ _ g2=>rw[g]at g2;cases g2
  |eH|fL|recv|eI|fM|IH|fP|stop=>omega
 |fK hk g g1 g2=>cases y with
  |iK _ g3=>rw[g1]at g3;cases g3
  |fK=>exact⟨rfl,rfl,rfl⟩
  |iJ|IG|eH|fL|recv|eI|fM|IH|fP|stop=>omega
 |IG hk g g1 g2 g3=>obtain⟨rfl,rfl,rfl⟩:=y.Ng hk g g1 g2 g3;exact⟨rfl,rfl,rfl⟩
 |eH hk g=>obtain⟨rfl,rfl,rfl⟩:=y.Vr hk g;exact⟨rfl,rfl,rfl⟩
 |fL hk g g1=>cases y with
  |fL=>exact⟨rfl,rfl,rfl⟩
  |iJ|iK|fK|IG|eH|recv|eI|fM|IH|fP|stop=>omega
 |recv hk g g1=>obtain⟨rfl,rfl,rfl⟩:=y.Q5 hk g g1;exact⟨rfl,rfl,rfl⟩
 |eI hk g=>obtain⟨rfl,rfl,rfl⟩:=y.abn hk g;exact⟨rfl,rfl,rfl⟩
 |fM hk g g1=>cases y with
  |fM=>exact⟨rfl,rfl,rfl⟩
  |eI _ g2=>exact absurd g g2
  |iJ|iK|fK|IG|eH|fL|recv|IH|fP|stop=>omega
 |IH hk g m hm g1=>cases y with
  |IH _ _ m' hm' g2=>
   obtain rfl:m=m':=by omega
   exact⟨rfl,rfl,rfl⟩
  |eI _ g2=>exact absurd g g2
  |iJ|iK|fK|IG|eH|fL|recv|fM|fP|stop=>omega
 |fP hk g=>cases y with
  |fP=>exact⟨rfl,rfl,rfl⟩
  |iJ|iK|fK|IG|eH|fL|recv|eI|fM|IH|stop=>omega
 |stop hk g R' ho=>cases y with
  |stop _ _ R2 ho2=>
   obtain rfl:=Gr h ho ho2;exact⟨rfl,rfl,rfl⟩
  |iJ|iK|fK|IG|eH|fL|recv|eI|fM|IH|fP=>omega
inductive bp:List Ev→St→List An→Prop
 |nil:bp [] St.zero []
 |snoc {es:List Ev} {s s':St} {bw:List An} {v:Ev} {an:An} (h:bp es s bw) (hv:v.Ok) (st:Step s v s' an true):bp (es++[v]) s' (bw++[an])
theorem bp.wf{es:List Ev}{s:St}{bw:List An}(h:bp es s bw):s.Wf:=by
 induction h with
 |nil=>exact St.Vp
 |snoc h hv st ih=>exact st.wf ih hv
theorem bp.last{es:List Ev}{v:Ev}{s:St}{bw:List An}(h:bp (es++[v]) s bw):∃s0 Ef an,bp es s0 Ef∧v.Ok∧Step s0 v s an true∧bw=Ef++[an]:=by
 generalize he:es++[v]=l at h;cases h with
 |nil=>simp at he
 | @snoc es' s0 s' Ef v' an h hv st=>
  obtain⟨rfl,hv'⟩:=List.append_inj' he rfl;cases hv';exact⟨s0,Ef,an,h,hv,st,rfl⟩
theorem bp.one{es:List Ev}{s1 s2:St}{abo Nh:List An}(h1:bp es s1 abo)(h2:bp es s2 Nh):s1=s2∧abo=Nh:=by
 induction h1 generalizing s2 Nh with
 |nil=>
  generalize he:([]:List Ev)=l at h2;cases h2 with
  |nil=>exact⟨rfl,rfl⟩
  |snoc=>simp at he
 |snoc h hv st ih=>
  obtain⟨s0,Ef,an,h3,_,st2,rfl⟩:=h2.last;obtain⟨rfl,rfl⟩:=ih h3;obtain⟨rfl,rfl,_⟩:=st.Ur h.wf st2;exact⟨rfl,rfl⟩
theorem bp.take{es:List Ev}{s:St}{bw:List An}(h:bp es s bw):∀k,k≤es.length→∃s0,bp (es.take k) s0 (bw.take k):=by
 induction h with
 |nil=>intro k _;exact⟨St.zero,by simpa using bp.nil⟩
 | @snoc es s s' bw v an h hv st ih=>
  intro k hk;have hl:bw.length=es.length:=by
   clear ih st hk
   induction h with
   |nil=>rfl
   |snoc _ _ _ ih=>simp[ih]
  rcases Nat.lt_or_ge es.length k with h1|h1
  ·obtain rfl:k=(es++[v]).length:=by simp at hk⊢;omega
   refine⟨s', ?_⟩;rw[List.take_length,List.take_of_length_le (by simp;omega)];exact .snoc h hv st
  ·obtain⟨s0,h0⟩:=ih k h1;refine⟨s0, ?_⟩;rw[List.take_append_of_le_length h1,List.take_append_of_le_length (by omega)];exact h0
theorem bp.step{es:List Ev}{s:St}{bw:List An}(h:bp es s bw){k:Nat}(hk:k<es.length){s0:St}{a0:List An}(h0:bp (es.take k) s0 a0):∃s1 an,Step s0 es[k] s1 an true∧es[k].Ok:=by
 obtain⟨s1,h1⟩:=h.take (k+1) hk;rw[List.take_succ_eq_append_getElem hk]at h1;obtain⟨s2,Nh,an,h2,hv,st,_⟩:=h1.last;obtain⟨rfl,_⟩:=h2.one h0;exact⟨s1,an,st,hv⟩
theorem l_:∀(es:List Ev) (i:Nat) (h:i<es.length) (j:Nat),j<6→(ak es).getD (6*i+j) 0=(aX es[i]).getD j 0
 |[],_,h,_,_=>absurd h (Nat.not_lt_zero _)
 |v::es,0,_,j,hj=>by
  have hl:(aX v).length=6:=rfl;show(aX v++ak es).getD (6*0+j) 0=_;rw[Nat.mul_zero,Nat.zero_add,cW _ _ _ (by omega)];rfl
 |v::es,i+1,h,j,hj=>by
  have hl:(aX v).length=6:=rfl;show(aX v++ak es).getD (6*(i+1)+j) 0=_;rw[show 6*(i+1)+j=6+(6*i+j) by omega,cS _ _ _ 6 hl,l_ es i (by simpa using h) j hj];rfl
section
open Go.ChangeShapes Go.WideShapes Go.ChangeAt
section
variable{H:Type}{enc:TypeId×Value→H}{P:tW}{W:tF}{base:Nat}{sp:tQ}{held:Bool}
def Ints(cs:tO):Prop:=∃zs:List Int,cs=zs.map (Value.int .i64)∧∀z∈zs,(Lit.int .i64 z).wf=true
theorem Ints.nil:Ints []:=⟨[],rfl,by simp⟩
theorem Ints.app{a b:tO}(ha:Ints a)(hb:Ints b):Ints (a++b):=by
 obtain⟨x,rfl,hx⟩:=ha;obtain⟨y,rfl,hy⟩:=hb;refine⟨x++y,by simp, ?_⟩;intro z hz;rcases List.mem_append.1 hz with h|h
 ·exact hx z h
 ·exact hy z h
theorem ig{t:tY}{fuel:Nat}{cs:tO}{x:DataW H×List MemPlace}(ht:P.underlying t=some (.int .i64))(h:DataW.trod enc P W base sp held fuel t cs=some x):Ints cs:=by
 obtain⟨n,rfl,_,hw⟩:=DataW.trod_int ht h;exact⟨[n],rfl,by simpa using hw⟩
theorem JH(cs:tO)(o n:Nat):cs.drop o=(cs.drop o).take n++cs.drop (o+n):=by
 rw[←List.drop_drop];exact(List.take_append_drop n (cs.drop o)).symm
theorem eP{cs:tO}{o n:Nat}(h1:Ints ((cs.drop o).take n))(h2:Ints (cs.drop (o+n))):Ints (cs.drop o):=by
 rw[JH cs o n];exact h1.app h2
theorem yP{cs:tO}{o:Nat}(h:cs.length≤o):Ints (cs.drop o):=by
 rw[List.drop_eq_nil_of_le h];exact Ints.nil
end
theorem eZ:Tryz.prog.cellsOf 3=1:=by kernel_rfl
theorem u_:Tryz.prog.cellsOf 53=2:=by kernel_rfl
theorem xl:Tryz.prog.cellsOf 55=6:=by kernel_rfl
section
variable{H:Type}{enc:TypeId×Value→H}{W:tF}{base:Nat}{sp:tQ}{held:Bool}
theorem Gs{fuel:Nat}{cs:tO}{x:DataW H×List MemPlace}(h:DataW.trod enc Tryz.prog W base sp held fuel 53 cs=some x):Ints cs:=by
 obtain⟨xs,n,_,_,hl,hlen,hf⟩:=DataW.trod_struct Tryz.underlying53 h;rw[u_]at hl
 match xs,hlen with
 |[y0,y1],_=>
  have f0:DataW.trod enc Tryz.prog W base sp held n 3 ((cs.drop 0).take (Tryz.prog.cellsOf 3))=some y0:=hf 0 _ rfl;rw[eZ]at f0;have f1:DataW.trod enc Tryz.prog W base sp held n 3 ((cs.drop 1).take (Tryz.prog.cellsOf 3))=some y1:=hf 1 _ rfl;rw[eZ]at f1;exact eP (o:=0) (n:=1) (ig Tryz.underlying3 f0) (eP (o:=1) (n:=1) (ig Tryz.underlying3 f1) (yP (by omega)))
theorem Jb{fuel:Nat}{cs:tO}{x:DataW H×List MemPlace}(h:DataW.trod enc Tryz.prog W base sp held fuel 55 cs=some x):Ints cs:=by
 obtain⟨xs,n,_,_,hl,hlen,hf⟩:=DataW.trod_struct Tryz.underlying55 h;rw[xl]at hl
 match xs,hlen with
 |[y0,y1,y2,y3,y4],_=>
  have f0:DataW.trod enc Tryz.prog W base sp held n 3 ((cs.drop 0).take (Tryz.prog.cellsOf 3))=some y0:=hf 0 _ rfl;rw[eZ]at f0;have f1:DataW.trod enc Tryz.prog W base sp held n 3 ((cs.drop 1).take (Tryz.prog.cellsOf 3))=some y1:=hf 1 _ rfl;rw[eZ]at f1;have f2:DataW.trod enc Tryz.prog W base sp held n 3 ((cs.drop 2).take (Tryz.prog.cellsOf 3))=some y2:=hf 2 _ rfl;rw[eZ]at f2;have f3:DataW.trod enc Tryz.prog W base sp held n 3 ((cs.drop 3).take (Tryz.prog.cellsOf 3))=some y3:=hf 3 _ rfl;rw[eZ]at f3;have f4:DataW.trod enc Tryz.prog W base sp held n 53 ((cs.drop 4).take (Tryz.prog.cellsOf 53))=some y4:=hf 4 _ rfl;rw[u_]at f4
  exact eP (o:=0) (n:=1) (ig Tryz.underlying3 f0) (eP (o:=1) (n:=1) (ig Tryz.underlying3 f1) (eP (o:=2) (n:=1) (ig Tryz.underlying3 f2)
   (eP (o:=3) (n:=1) (ig Tryz.underlying3 f3) (eP (o:=4) (n:=2) (Gs f4) (yP (by omega))))))
end
end
structure Bx(wx:tF)(B:Nat)(s:St)(a1:tG)(c1:Nat)(a2:tG)(c2:Nat)(ws:tH):Prop where
 q:aV wx B s.ep s.nx s.gv (.slice a1 s.rn c1) (.slice a2 s.ln c2) ws
 r1:RowK .i64 wx a1 (2*s.rn) s.R
 r2:RowK .i64 wx a2 (4*s.ln) s.L
 n1:a1=none→c1=0
 n2:a2=none→c2=0
 Ga:gR ws s.wt s.wz
theorem ad7{w wx wy wz:tF}{s:St}{a1:tG}{c1:Nat}{a2:tG}{c2:Nat}{ws:tH}(c he no bd:Int)(r1:RowK .i64 wx a1 (2*s.rn) s.R)(r2:RowK .i64 wx a2 (4*s.ln) s.L)(n1:a1=none→c1=0)(n2:a2=none→c2=0)(hW:gR ws s.wt s.wz)(dC:bZ w wx)
  (b:bZ wx wy) (hN:wx.heap.size<wy.heap.size) (t:av wx.heap.size (wy.alloc (.cells #[iV 0,iV 0,iV 0,iV 0] 59)) wz) (q:aV wz wx.heap.size s.ep s.nx s.gv (.slice a1 s.rn c1) (.slice a2 s.ln c2) ws):
  ∃W,W=(((wz.setCell ⟨wy.heap.size,0,none⟩ (iV c)).setCell ⟨wy.heap.size,1,none⟩ (iV he)).setCell ⟨wy.heap.size,2,none⟩ (iV no)).setCell ⟨wy.heap.size,3,none⟩ (iV bd)∧Bx W wx.heap.size s a1 c1 a2 c2 ws∧aS W wy.heap.size c he no bd∧bZ wx W∧bZ w W:=by
 have y:=aS.new wy 0 0 0 0;have y1:=y.dG t (by omega);have b1:Below wx.heap.size wx (wy.alloc (.cells #[iV 0,iV 0,iV 0,iV 0] 59)):=Below.next b (aB _ _);have b2:=t.under b1 (Nat.le_refl _);have t2:=gC wz wy.heap.size c he no bd;have b3:=t2.under b2 (by omega);exact⟨_,rfl,⟨t2.queue q (by omega),r1.below b3,r2.below b3,n1,n2,hW⟩,y1.store _ _ _ _,b3,Below.next dC b3⟩
theorem Ef{wx wy wz:tF}(hN:wx.heap.size<wy.heap.size)(t:av wx.heap.size (wy.alloc (.cells #[iV 0,iV 0,iV 0,iV 0] 59)) wz):aS wz wy.heap.size 0 0 0 0:=(aS.new wy 0 0 0 0).dG t (by omega)
def qH(ep nx gv:Int)(r l:tN)(ws:tH)(c he no bd:Int)(tail:tO):List Value:=lz ep nx gv r l ws++([iV c,iV he,iV no,iV bd]++tail)
theorem nU(ep nx gv:Int)(r l:tN)(ws:tH):(lz ep nx gv r l ws).length=41:=by simp[lz,na]
def dM(w:tF)(R:Nat)(T:tY)(ep nx gv:Int)(r l:tN)(ws:tH)(c he no bd:Int)(tail:tO):Prop:=w.heap[R]? =some (.cells (qH ep nx gv r l ws c he no bd tail).toArray T (0,0))
section
variable{w w':tF}{R:Nat}{T:tY}{ep nx gv:Int}{r l:tN}{ws:tH}{c he no bd:Int}{tail:tO}
theorem dM.at(h:dM w R T ep nx gv r l ws c he no bd tail)(i:Nat):w.cell? ⟨R,i,none⟩=(qH ep nx gv r l ws c he no bd tail)[i]? :=by
 unfold dM at h;simp[World.cell?,h]
theorem dM.lt(h:dM w R T ep nx gv r l ws c he no bd tail):R<w.heap.size:=by
 unfold dM at h;rcases Nat.lt_or_ge R w.heap.size with h'|h'
 ·exact h'
 ·simp[Array.getElem?_eq_none h']at h
theorem dM.next(h:dM w R T ep nx gv r l ws c he no bd tail)(hb:bZ w w'):dM w' R T ep nx gv r l ws c he no bd tail:=by
 have:=h.lt;unfold dM at h⊢;rw[←h];exact hb.block R this
theorem Q8(j:Nat)(hj:j<41):(qH ep nx gv r l ws c he no bd tail)[j]? =(lz ep nx gv r l ws)[j]? :=by
 unfold qH;rw[List.getElem?_append_left (by rw[nU];exact hj)]
theorem Q9(j:Nat):(qH ep nx gv r l ws c he no bd tail)[41+j]? =([iV c,iV he,iV no,iV bd]++tail)[j]? :=by
 unfold qH;rw[List.getElem?_append_right (by rw[nU];omega),nU,Nat.add_sub_cancel_left]
theorem dM.range(h:dM w R T ep nx gv r l ws c he no bd tail):w.rangeAt R 0 (lz ep nx gv r l ws):=fun j v hv=>by
 have hj:j<41:=by
  have:=(List.getElem?_eq_some_iff.1 hv).1;rwa [nU]at this
 rw[Nat.zero_add,h.at,Q8 j hj];exact hv
theorem dM.more{x:tN}{tl:tO}(h:dM w R T ep nx gv r l ws c he no bd (x::tl)):w.cell? ⟨R,45,none⟩=some x:=(h.at (41+4)).trans (Q9 4)
end
section
open Rv
structure Tg(w:tF)(R:Nat)(T:tY)(tail:tO)(s:St)(an:An):Prop where
 ex:∃a1 c1 a2 c2 ws,dM w R T s.ep s.nx s.gv (.slice a1 s.rn c1) (.slice a2 s.ln c2) ws an.c an.he an.no an.bd tail∧RowK .i64 w a1 (2*s.rn) s.R∧RowK .i64 w a2 (4*s.ln) s.L∧(a1=none→c1=0)∧(a2=none→c2=0)∧gR ws s.wt s.wz∧(∀x,a1=some x→R<x.block)∧(∀x,a2=some x→R<x.block)∧s.rn≤c1∧s.ln≤c2
theorem Tg.next{w w':tF}{R:Nat}{T:tY}{tail:tO}{s:St}{an:An}(h:Tg w R T tail s an)(b:bZ w w'):Tg w' R T tail s an:=by
 obtain⟨a1,c1,a2,c2,ws,tb,r1,r2,rest⟩:=h.ex;exact⟨a1,c1,a2,c2,ws,tb.next b,r1.below b,r2.below b,rest⟩
theorem YZ{w0 W:tF}{v:Ev}(h:W.heap[w0.heap.size]? =some (.cells #[iV v.k,iV v.p,iV v.i,iV v.b,iV v.he,iV v.hn] 55 (0,0))):
  W.cell? ⟨w0.heap.size,0,none⟩=some (iV v.k)∧W.cell? ⟨w0.heap.size,1,none⟩=some (iV v.p)∧W.cell? ⟨w0.heap.size,2,none⟩=some (iV v.i)∧W.cell? ⟨w0.heap.size,3,none⟩=some (iV v.b)∧W.cell? ⟨w0.heap.size,4,none⟩=some (iV v.he)∧W.cell? ⟨w0.heap.size,5,none⟩=some (iV v.hn):=by
 simp[World.cell?,h]
structure Tf(w:tF)(n R:Nat)(T:tY)(tail:tO)(s:St)(an:An):Prop where
 ex:∃a1 c1 a2 c2 ws,dM w R T s.ep s.nx s.gv (.slice a1 s.rn c1) (.slice a2 s.ln c2) ws an.c an.he an.no an.bd tail∧RowK .i64 w a1 (2*s.rn) s.R∧RowK .i64 w a2 (4*s.ln) s.L∧(a1=none→c1=0)∧(a2=none→c2=0)∧gR ws s.wt s.wz∧(∀x,a1=some x→n≤x.block)∧(∀x,a2=some x→n≤x.block)∧s.rn≤c1∧s.ln≤c2
def Vs(n:Nat)(s:St)(q:tH)(w:tF):Prop:=∃a1 c1 a2 c2 ws,q=qF s.ep s.nx s.gv (.slice a1 s.rn c1) (.slice a2 s.ln c2) ws∧RowK .i64 w a1 (2*s.rn) s.R∧RowK .i64 w a2 (4*s.ln) s.L∧(a1=none→c1=0)∧(a2=none→c2=0)∧gR ws s.wt s.wz∧(∀x,a1=some x→n≤x.block)∧(∀x,a2=some x→n≤x.block)∧s.rn≤c1∧s.ln≤c2
abbrev Uf(R:Nat)(T:tY)(q:tH)(an:An)(tl:List Sg):En:=⟨R,T,.f 41 q:: .o (iV an.c):: .o (iV an.he):: .o (iV an.no):: .o (iV an.bd)::tl⟩
theorem Gt{w:tF}{R:Nat}{T:tY}{ep nx gv:Int}{r l:tN}{ws:tH}{an:An}{tail:tO}(ht:tail=[]∨∃x,tail=[x]):dM w R T ep nx gv r l ws an.c an.he an.no an.bd tail↔aZ w R T (ib (Uf R T (qF ep nx gv r l ws) an (tail.map .o)).l) (di (Uf R T (qF ep nx gv r l ws) an (tail.map .o)).l):=by
 unfold dM aZ;rcases ht with rfl|⟨x,rfl⟩<;>exact Iff.rfl
theorem Gu(s:St)(an:An)(v:Ev)(w0:tF)(R:Nat)(T:tY)(tail:tO)(ok:s.Ok)(h:Tg w0 R T tail s an)(ht:tail=[]∨∃x,tail=[x]):
  cA 38 #[.pointer (some ⟨R,0,none⟩),qE v] w0 fun e w'=>∃(s':St) (rG:An) (ch:Bool) (er:Int),e= .returned (.bool ch)∧Gq s v s' rG ch er∧(ch=true→Tf w' w0.heap.size R T tail s' rG)∧(ch=false→Tg w' R T tail s an)∧YX R w0.heap.size w0 w':=by
 obtain⟨a1,c1,a2,c2,ws,tb,r1,r2,m1,m2,hW,x1,x2,l1,l2⟩:=h.ex;have hq:a7 (qF s.ep s.nx s.gv (.slice a1 s.rn c1) (.slice a2 s.ln c2) ws) 41:=(wD.mk (w:=w0) ⟨a1,c1,a2,c2,ws,rfl,r1,r2,l1,l2,m1,m2,hW⟩).one;have hS:Mem w0 (hs [Uf R T (qF s.ep s.nx s.gv (.slice a1 s.rn c1) (.slice a2 s.ln c2) ws) an (tail.map .o)]) (fun _=>False) (fun w=>RowK .i64 w a1 (2*s.rn) s.R∧RowK .i64 w a2 (4*s.ln) s.L) (fun w'=>dB (fun b=>b=R) w0 w'):=by
  have:=Mem.begin (w:=w0) (H:=hs [Uf R T (qF s.ep s.nx s.gv (.slice a1 s.rn c1) (.slice a2 s.ln c2) ws) an (tail.map .o)]) (M:=fun _=>False) (G:=fun w=>RowK .i64 w a1 (2*s.rn) s.R∧RowK .i64 w a2 (4*s.ln) s.L) (fun e he=>by cases List.mem_singleton.1 he;exact(Gt ht).1 tb) (List.pairwise_singleton _ _) (fun _ _=>id) (fun _ h=>h.elim) fun w' c=> ?_
  ·exact⟨this.iG,this.oQ,this.off,this.mlt,this.g,fun w' c=>c.mono fun b hb=>List.mem_singleton.1 hb⟩
  ·have key:∀x:Addr,R<x.block→¬(x.block∈(hs [Uf R T (qF s.ep s.nx s.gv (.slice a1 s.rn c1) (.slice a2 s.ln c2) ws) an (tail.map .o)]).map bT.a∨False):=fun x hx k=>k.elim (fun k=>by have e:x.block=R:=List.mem_singleton.1 k;omega) id;exact⟨mR r1 c fun x hx _=>key x (x1 x hx),mR r2 c fun x hx _=>key x (x2 x hx)⟩
 have off:∀{w'},dB (fun b=>b=R) w0 w'→YX R w0.heap.size w0 w':=fun c=>⟨c.os,c.tape,c.output,c.size,fun X hX hB=>c.block X hX hB⟩;have same:∀{w' H},Mem w' (hs (Uf R T (qF s.ep s.nx s.gv (.slice a1 s.rn c1) (.slice a2 s.ln c2) ws) an (tail.map .o)::H)) (fun _=>False) (fun w=>(RowK .i64 w a1 (2*s.rn) s.R∧RowK .i64 w a2 (4*s.ln) s.L)) (fun w'=>dB (fun b=>b=R) w0 w')→Tg w' R T tail s an:=fun hS=>⟨a1,c1,a2,c2,ws,(Gt ht).2 (hS.at 0 rfl),hS.now.1.1,hS.now.1.2,m1,m2,hW,x1,x2,l1,l2⟩;have doc:∀w,w0.heap.size≤w.heap.size→RowK .i64 w a1 (2*s.rn) s.R→RowK .i64 w a2 (4*s.ln) s.L→cA 36 #[vF (qF s.ep s.nx s.gv (.slice a1 s.rn c1) (.slice a2 s.ln c2) ws) 41,qE v] w fun x w'=>∃y:St×An×Bool×Int×(Nat→Value),x= .returned (.tuple #[vF y.2.2.2.2 41,Gm y.2.1,.bool y.2.2.1,iV y.2.2.2.1])∧bZ w w'∧(Gq s v y.1 y.2.1 y.2.2.1 y.2.2.2.1∧a7 y.2.2.2.2 41)∧∀U:Nat→Prop,(∀b,U b→b<w.heap.size)→bU U w' (Vs w0.heap.size y.1 y.2.2.2.2):=fun w hz r1 r2=>by
  rw[←rF];refine(Q3 s a1 a2 c1 c2 ws v w r1 r2 m1 m2 hW ok).mono ?_;rintro _ w' ⟨s',rG,ch,er,x,rfl,hd,ho,hb⟩;obtain⟨b1,d1,b2,d2,ws',rfl,g1,g2,g3,g4,g5,g6,g7,g8,g9⟩:=ho.ex;exact⟨(s',rG,ch,er,qF s'.ep s'.nx s'.gv (.slice b1 s'.rn d1) (.slice b2 s'.ln d2) ws'),by rw[rF],hb,⟨hd,(wD.mk (w:=w') ⟨b1,d1,b2,d2,ws',rfl,g1,g2,g3,g4,g5,g6,g7⟩).one⟩,fun U hU w2 c2'=>⟨b1,d1,b2,d2,ws',rfl,cD g1 g8 hU w2 c2',cD g2 g9 hU w2 c2',g5,g6,g7,fun x hx=>Nat.le_trans hz (g8 x hx),fun x hx=>Nat.le_trans hz (g9 x hx),g3,g4⟩⟩
 rcases id ht with rfl|⟨x,rfl⟩
 case' inl=>let tl:List Sg:=[]
 case' inr=>let tl:List Sg:=[.o x]
 all_goals
  refine en (H:=[Uf R T (qF s.ep s.nx s.gv (.slice a1 s.rn c1) (.slice a2 s.ln c2) ws) an tl]) 34 [vp 0 0 R,vg (YY v)] Tryz.func38 rfl rfl hS (r [] rfl fun α=> ?_);refine cut (X:=(Nat×Nat)×(St×An×Bool×Int×(Nat→Value))) (fun x=>[(0,vp 0 0 R),(5,vp 1 0 x.1.1),(6,vp 2 0 x.1.2),(7,vv (.bool x.2.2.2.1)),(8,vi x.2.2.2.2.1)]) (fun x=>[Uf R T (qF s.ep s.nx s.gv (.slice a1 s.rn c1) (.slice a2 s.ln c2) ws) an tl,⟨x.1.1,80,[.f 41 x.2.2.2.2.2]⟩,⟨x.1.2,59,Pw x.2.2.1⟩]) (fun _ _=>False) (fun x w=>(RowK .i64 w a1 (2*s.rn) s.R∧RowK .i64 w a2 (4*s.ln) s.L)∧Vs w0.heap.size x.2.1 x.2.2.2.2.2 w) (fun _ w'=>dB (fun b=>b=R) w0 w') (fun x=>Gq s v x.2.1 x.2.2.1 x.2.2.2.1 x.2.2.2.2.1∧a7 x.2.2.2.2.2 41) ?_ (r [4] rfl fun _=> ?_)
  case refine_2=>
   repeat' first|refine C9 ?_ ?_|refine fk3 ?_ ?_ ?_|(refine cx rfl (fun y:St×An×Bool×Int×(Nat→Value)=>vt [.g [.f 41 y.2.2.2.2],.g (Pw y.2.1),.o (.bool y.2.2.1),.o (iV y.2.2.2.1)]) (fun y=>Gq s v y.1 y.2.1 y.2.2.1 y.2.2.2.1∧a7 y.2.2.2.2 41) (fun y=>Vs w0.heap.size y.1 y.2.2.2.2) ?_ fun y hy=> ?_;exact fun w hS=>(doc w hS.now.2.size hS.now.1.1 hS.now.1.2).mono fun _ _ ⟨y,h1,h2,h3,h4⟩=>⟨y,h1,h2,h3,h4 _⟩;have hy2:=hy.2)|refine rs [] rfl rfl fun _=> ?_
   all_goals first|exact eJ ((_,_),y) ⟨rfl,rfl,rfl,rfl,rfl,trivial⟩ (fun w hS=>hS.IM [0,2,3] (by decide)) hy Nat.zero_lt_one|exact eJ ((_,_),y) ⟨rfl,rfl,rfl,rfl,rfl,trivial⟩ (fun w hS=>hS.IM [0,3,2] (by decide)) hy Nat.zero_lt_one
  rintro f ⟨⟨b5,b6⟩,s',rG,ch,er,q'⟩ ⟨hd,o'⟩;have hd:Gq s v s' rG ch er:=hd;have o':a7 q' 41:=o';rcases hd.err with rfl|⟨Du,rfl⟩
  case inr=>exact r [1] rfl fun _=>fin fun w hS=>⟨s',rG,false,er,rfl,hd,fun h=>(by cases h),fun _=>same (hS.said fun _ h=>h.1),off hS.now.2⟩
  cases ch
  ·exact r [0] rfl fun _=>fin fun w hS=>⟨s',rG,false,0,rfl,hd,fun h=>(by cases h),fun _=>same (hS.said fun _ h=>h.1),off hS.now.2⟩
  ·refine r [0,5,0,6] rfl fun _=> ?_
   repeat' first|refine C9 ?_ ?_|refine rs [] rfl rfl fun _=> ?_
   all_goals exact fin fun w hS=>⟨s',rG,true,0,rfl,hd,fun _=>(by
    obtain⟨b1,d1,b2,d2,ws',rfl,g⟩:Vs w0.heap.size s' q' w:=hS.now.1.2;exact⟨b1,d1,b2,d2,ws',(Gt ht).2 (hS.at 0 rfl),g⟩),fun h=>(by cases h),off hS.now.2⟩
theorem Q_(s:St)(an:An)(v:Ev)(w0:tF)(R:Nat)(T:tY)(tail:tO)(ok:s.Ok)(h:Tg w0 R T tail s an)(ht:tail=[]∨∃x,tail=[x]):
  cA 38 #[.pointer (some ⟨R,0,none⟩),qE v] w0 fun e w'=>∃(s':St) (rG:An) (ch:Bool) (er:Int),e= .returned (.bool ch)∧Gq s v s' rG ch er∧(ch=true→Tg w' R T tail s' rG)∧(ch=false→Tg w' R T tail s an)∧YX R w0.heap.size w0 w':=by
 refine(Gu s an v w0 R T tail ok h ht).mono ?_;rintro _ w' ⟨s',rG,ch,er,rfl,hd,h1,h2,o⟩;obtain⟨_,_,_,_,_,tb,_⟩:=h.ex;refine⟨s',rG,ch,er,rfl,hd,fun hc=> ?_,h2,o⟩;obtain⟨a1,c1,a2,c2,ws,t,r1,r2,m1,m2,hW,x1,x2,l⟩:=(h1 hc).ex;exact⟨a1,c1,a2,c2,ws,t,r1,r2,m1,m2,hW,fun x hx=>Nat.lt_of_lt_of_le tb.lt (x1 x hx),fun x hx=>Nat.lt_of_lt_of_le tb.lt (x2 x hx),l⟩
end
structure zK(g:Nat)(recv:tN)(es:List Ev)(I:Nat→World→Prop)(J:tM):Prop where
 enters:∀args w,(callFunc g args).run Tryz.prog w= .ok (.enter g args) w
 step:∀k (hk:k<es.length) (W:tF),I k W→cA g #[recv,qE es[k]] W fun e w'=>(e= .returned (.bool true)∧I (k+1) w')∨(e= .returned (.bool false)∧J w')
 keep:∀k (W W':tF),I k W→bZ W W'→I k W'
theorem Gv(g:Nat)(R:Nat)(es:List Ev)(I:Nat→World→Prop)(J:tM)(sp:zK g (.pointer (some ⟨R,0,none⟩)) es I J)(a:tG)(cap:Nat)(w:tF)(h0:I 0 w)(hl:es.length≤2000)
  (ee:∀k W,I k W→RowK .i64 W a (6*es.length) (ak es)):
  cA 37 #[.slice a es.length cap,.func (.func g) #[.pointer (some ⟨R,0,none⟩)] #[]] w fun e w'=>(e= .returned (iV 0)∧I es.length w')∨(e= .returned (iV 3)∧J w'):=by
 have XD:=sp.enters;go_enter Tryz.func37,Tryz.ntmps37
 go_upto_region 4 with fail
 go_loopw [12] (fun i wr=>∃k:Nat,k≤es.length∧i=iV k∧I k wr) (fun i _=>es.length-(intOf i).toNat)
 case atStart=>exact⟨0,Nat.zero_le _,rfl,h0⟩
 case round=>
  obtain⟨k,hk,rfl,hI⟩:=hrel;by_cases aW:k<es.length
  ·have hr:=ee k wr hI;obtain⟨b,off,rfl⟩:=hr.form (by omega);obtain⟨x0,x1,x2,x3,x4,x5⟩:=hr.six k aW;have ea:∀t,t<6→(ak es).getD (6*k+t) 0=(aX es[k]).getD t 0:=fun t ht=>l_ es k aW t ht;rw[show 6*k=6*k+0 from rfl,ea 0 (by omega)]at x0;rw[ea 1 (by omega)]at x1;rw[ea 2 (by omega)]at x2;rw[ea 3 (by omega)]at x3;rw[ea 4 (by omega)]at x4;rw[ea 5 (by omega)]at x5;have HSt:=fun W hW=>sp.step k aW W hW;obtain⟨v,hv⟩:∃v,v=es[k]:=⟨_,rfl⟩;rw[←hv]at x0 x1 x2 x3 x4 x5 HSt;simp only[aX,List.getD_cons_zero,List.getD_cons_succ]at x0 x1 x2 x3 x4 x5;have HI:Hid (∀W,bZ wr W→I k W):=ai fun W b=>sp.keep k wr W hI b;have HS:=ai HSt;clear hr ea hv HSt hI
   go_upto_region 6 with fail
   obtain⟨W1,hW1,b1,e1⟩:∃W1,W1=wr.alloc (.cells #[iV v.k,iV v.p,iV v.i,iV v.b,iV v.he,iV v.hn] 55)∧bZ wr W1∧W1.heap[wr.heap.size]? =some (.cells #[iV v.k,iV v.p,iV v.i,iV v.b,iV v.he,iV v.hn] 55 (0,0)):=⟨_,rfl,aB _ _,heap_alloc_new _ _⟩;rw[←hW1];obtain⟨v0,v1,v2,v3,v4,v5⟩:=YZ e1
   have HC:cA g #[.pointer (some ⟨R,0,none⟩),qE v] W1 fun e w'=>∃ch:Bool,e= .returned (.bool ch)∧Hid ((ch=true→I (k+1) w')∧(ch=false→J w')):=(aa HS W1 (aa HI W1 b1)).mono (by
    rintro e w' (⟨rfl,h1⟩|⟨rfl,h1⟩)
    ·exact⟨true,rfl,ai ⟨fun _=>h1,fun h=>(by cases h)⟩⟩
    ·exact⟨false,rfl,ai ⟨fun h=>(by cases h),fun _=>h1⟩⟩)
   clear hW1 b1 e1 x0 x1 x2 x3 x4 x5
   go_wp2_with (go_at_fn g;refine HC.mono ?_;rintro e W2 ⟨ch,rfl,HCh⟩;clear HC v0 v1 v2 v3 v4 v5)
   ·go_ret;exact .inr ⟨rfl,(aa HCh).2 (by cases ch<;>simp_all)⟩
   ·refine⟨⟨k+1,by omega,by go_num,(aa HCh).1 (by cases ch<;>simp_all)⟩,by simp[intOf];omega⟩
  ·obtain rfl:k=es.length:=by omega
   have HI:=ai hI;clear hI;go_wp2;go_ret;exact .inl ⟨rfl,aa HI⟩
abbrev Ld:Array Value:= #[iV 0,iV 0,iV 0,.slice none 0 0,.slice none 0 0,iV 0,.bool false,.bool false,.bool false,.bool false,.bool false,.bool false,.bool false,.bool false,iV 0,.bool false,.bool false,.bool false,.bool false,.bool false,.bool false,.bool false,.bool false,iV 0,.bool false,.bool false,.bool false,.bool false,.bool false,.bool false,.bool false,.bool false,iV 0,.bool false,.bool false,.bool false,.bool false,.bool false,.bool false,.bool false,.bool false,iV 0,iV 0,iV 0,iV 0]
theorem abp:Ld=(qH 0 0 0 (.slice none 0 0) (.slice none 0 0) eT 0 0 0 0 []).toArray:=rfl
theorem Vt{w W:tF}{T:tY}(h:W=w.alloc (.cells Ld T)):Tg W w.heap.size T [] St.zero An.zero∧bZ w W:=by
 subst h;refine⟨⟨none,0,none,0,eT, ?_,RowK.nil _ _ _,RowK.nil _ _ _,fun _=>rfl,fun _=>rfl,jK,fun x hx=>(by cases hx),fun x hx=>(by cases hx),Nat.le_refl _,Nat.le_refl _⟩,aB _ _⟩;unfold dM;rw[heap_alloc_new,abp];rfl
theorem Vu{ops:tP}{rest:List Oper}{o:Oper}{a:Act}{Q:tL}{w:tF}(d:Nat)(ho:o.op= .alloc 103)(hd:o.dst=some d)(hw:Region.wanted o (yielded ops a.tmps)=true)
  (h:∀w',Tg w' w.heap.size 103 [] St.zero An.zero→bZ w w'→wpList Tryz.prog ops Q rest (a.put (some d) (.pointer (some ⟨w.heap.size,0,none⟩))) w'):wpList Tryz.prog ops Q (o::rest) a w:=
 wpList_step fun K hK=>by
  rw[if_pos hw];obtain⟨z1,z2⟩:=Vt (w:=w) (T:=103) rfl;have:=hK _ _ (h _ z1 z2);rw[←hd]at this;unfold Oper.wp;simp only[execOp,ho];simpa[go_sem]using this
theorem Ra{ops:tP}{rest:List Oper}{o:Oper}{a:Act}{Q:tL}{w:tF}{R:Nat}{T:tY}{ep nx gv:Int}{r l:tN}{ws:tH}{c he no bd:Int}{tail:tO}(x:tT)(ho:o.op= .load 80 x)(hw:Region.wanted o (yielded ops a.tmps)=true)(hx:a.eval x= .pointer (some ⟨R,0,none⟩))(tb:dM w R T ep nx gv r l ws c he no bd tail)
  (h:wpList Tryz.prog ops Q rest (a.put o.dst (iI ep nx gv r l ws)) w):wpList Tryz.prog ops Q (o::rest) a w:=
 wpList_step fun K hK=>by
  rw[if_pos hw];exact wp_load_mid 80 x ho R 0 hx (lz ep nx gv r l ws) _ tb.range Tryz.underlying80 rfl (by rw[nU];kernel_rfl) (hK _ _ h)
theorem zL{W:tF}{Z:Nat}{ep nx gv:Int}{r l:tN}{ws:tH}{er:Int}{tmps:tR}(q:aV W Z ep nx gv r l ws)(t2:tmps[2]? =some (.pointer (some ⟨Z,0,none⟩)))(t3:tmps[3]? =some (iV er)):
  (results Tryz.f27 tmps).run Tryz.prog W= .ok (.tuple #[iI ep nx gv r l ws,iV er]) W:=by
 have h1:=run_loadVar_row (P:=Tryz.prog) W Z 80 80 _ (0,0) _ q Tryz.underlying80 rfl (by rw[cV];exact Tryz.K6);simp[results,Tryz.results27,t2,t3,asAddr,h1]
theorem zM(w:tF):(Instr.build 80 #[]).run Tryz.prog w= .ok (iI 0 0 0 (.slice none 0 0) (.slice none 0 0) eT) w:=by
 simp[Instr.build,run_underlying Tryz.underlying80,Tryz.zeroValue80,go_sem];rfl
theorem zN{ops:tP}{rest:List Oper}{o:Oper}{a:Act}{Q:tL}{w:tF}(ho:o.op= .build 80 #[])(hw:Region.wanted o (yielded ops a.tmps)=true)
  (h:wpList Tryz.prog ops Q rest (a.put o.dst (iI 0 0 0 (.slice none 0 0) (.slice none 0 0) eT)) w):wpList Tryz.prog ops Q (o::rest) a w:=
 wpList_step fun K hK=>by
  rw[if_pos hw];have sD:=zM w;have:=hK _ _ h;unfold Oper.wp;simp only[execOp,ho];simp only[List.map_toArray,List.map_nil];simp[sD,Result.andThen];exact this
structure Rp(w:tF)(Z R:Nat)(T:tY)(tail:tO)(es:List Ev)(k:Nat)(W:tF):Prop where
 told:∃s bw an,bp (es.take k) s bw∧Tg W R T tail s an
 box:aV W Z 0 0 0 (.slice none 0 0) (.slice none 0 0) eT
 dC:bZ w W
 upZ:w.heap.size≤Z
 upR:Z<R
def Lf(es:List Ev):Prop:=∃k s bw,∃hk:k<es.length,bp (es.take k) s bw∧(¬es[k].Ok∨∃s' an,Step s es[k] s' an false)
structure Rj(w:tF)(Z:Nat)(es:List Ev)(W:tF):Prop where
 stuck:Lf es
 box:aV W Z 0 0 0 (.slice none 0 0) (.slice none 0 0) eT
 dC:bZ w W
theorem YX.toBelow{R n:Nat}{w W W':tF}(o:YX R n W W')(b:bZ w W)(hR:w.heap.size≤R)(hn:n=W.heap.size):bZ w W':=
 ⟨o.os.trans b.os,o.tape.trans b.tape,o.output.trans b.output,Nat.le_trans b.size o.size,fun k hk=>(o.block k (by have:=b.size;omega) (by omega)).trans (b.block k hk)⟩
theorem YX.ad9{R n Z:Nat}{W W':tF}{ep nx gv:Int}{r l:tN}{ws:tH}(o:YX R n W W')(q:aV W Z ep nx gv r l ws)(hZ:Z≠R)(hn:n=W.heap.size):aV W' Z ep nx gv r l ws:=by
 have:=q.lt;unfold aV at q⊢;rw[o.block Z (by omega) hZ];exact q
theorem Ni(w:tF)(Z R:Nat)(T:tY)(es:List Ev):zK 38 (.pointer (some ⟨R,0,none⟩)) es (Rp w Z R T [] es) (Rj w Z es) where
 enters:=enters_of Tryz.func38 (by kernel_rfl) rfl
 step:=by
  intro k hk W hI;obtain⟨s,bw,an,ht,hg⟩:=hI.told;refine(Q_ s an es[k] W R T [] ht.wf.ok hg (.inl rfl)).mono ?_;rintro e w' ⟨s',rG,ch,er,rfl,st,h1,h2,o⟩;have hZR:=hI.upR;have dC:=o.toBelow hI.dC (by have:=hI.upZ;omega) rfl;have box:=o.ad9 hI.box (by omega) rfl;cases st with
  | @step _ _ _ hv st=>
   cases ch with
   |true=>
    refine .inl ⟨rfl,⟨s',bw++[rG],rG, ?_,h1 rfl⟩,box,dC,hI.upZ,hI.upR⟩;rw[List.take_succ_eq_append_getElem hk];exact .snoc ht hv st
   |false=>exact .inr ⟨rfl,⟨k,s,bw,hk,ht,.inr ⟨s',rG,st⟩⟩,box,dC⟩
  |form _ hv h0=>exact .inr ⟨rfl,⟨k,s,bw,hk,ht,.inl (fun iD=>h0 (hv.symm.trans iD))⟩,box,dC⟩
 keep:=by
  intro k W W' hI b;obtain⟨s,bw,an,ht,hg⟩:=hI.told;exact⟨⟨s,bw,an,ht,hg.next b⟩,hI.box.next b,Below.next hI.dC b,hI.upZ,hI.upR⟩
inductive Rv(es:List Ev):St→Int→Prop
 |size (h:2000<es.length):Rv es St.zero 1
 |form (h:es.length≤2000) (bad:Lf es):Rv es St.zero 3
 |told {s:St} (bw:List An) (h:es.length≤2000) (ht:bp es s bw):Rv es s 0
theorem Co(g R n:Nat)(a:tG)(cap:Nat)(w:tF)(hl:2000<n):
  cA 37 #[.slice a n cap,.func (.func g) #[.pointer (some ⟨R,0,none⟩)] #[]] w (rB (iV 1) w):=by
 go_enter Tryz.func37,Tryz.ntmps37;go_wp2;go_ret;exact⟨rfl,Below.refl _ _⟩
structure Rk(w:tF)(Z:Nat)(es:List Ev)(er:Int)(W:tF):Prop where
 why:¬er=0∧Rv es St.zero er
 box:aV W Z 0 0 0 (.slice none 0 0) (.slice none 0 0) eT
 dC:bZ w W
theorem sR(es:List Ev)(a:tG)(cap:Nat)(w:tF)(hr:RowK .i64 w a (6*es.length) (ak es)):
  cA 27 #[.slice a es.length cap] w fun e w'=>∃x er s,e= .returned (.tuple #[x,iV er])∧Rv es s er∧wC w w' s x∧bZ w w':=by
 go_enter Tryz.func27,Tryz.ntmps27
 go_upto_region 2 with(first
  |(refine uS 2 rfl rfl rfl ?_;intro W1 z1 b1)
  |(refine Vu 4 rfl rfl rfl ?_;intro W2 g2 b2))
 have zy:cA 37 #[.slice a es.length cap,.func (.func 38) #[.pointer (some ⟨W1.heap.size,0,none⟩)] #[]] W2 fun e w'=>∃er:Int,e= .returned (iV er)∧Hid ((er=0∧es.length≤2000∧Rp w w.heap.size W1.heap.size 103 [] es es.length w')∨Rk w w.heap.size es er w'):=by
  by_cases hl:es.length≤2000
  ·have I0:Rp w w.heap.size W1.heap.size 103 [] es 0 W2:=⟨⟨St.zero,[],An.zero,by simpa using bp.nil,g2⟩,z1.next b2,Below.next b1 b2,Nat.le_refl _,z1.lt⟩;refine(Gv 38 W1.heap.size es _ _ (Ni w w.heap.size W1.heap.size 103 es) a cap W2 I0 hl (fun k W hI=>hr.below hI.dC)).mono ?_;rintro e w' (⟨rfl,h1⟩|⟨rfl,h1⟩)
   ·exact⟨0,rfl,ai (.inl ⟨rfl,hl,h1⟩)⟩
   ·exact⟨3,rfl,ai (.inr ⟨⟨by decide,.form hl h1.stuck⟩,h1.box,h1.dC⟩)⟩
  ·refine(Co _ _ _ a cap W2 (by omega)).mono ?_;rintro e w' ⟨rfl,b3⟩;exact⟨1,rfl,ai (.inr ⟨⟨by decide,.size (by omega)⟩,(z1.next b2).next b3,Below.next (Below.next b1 b2) b3⟩)⟩
 clear z1 b1 g2 b2
 go_upto_region 3 with(go_at_call 37;refine zy.mono ?_;rintro e W3 ⟨er,rfl,HH⟩;clear zy)
 rcases aa HH with⟨rfl,hl,hI⟩|hJ
 ·obtain⟨s,bw,an,ht,hg⟩:=hI.told;rw[List.take_length]at ht;obtain⟨a1,c1,a2,c2,ws,tb,r1,r2,n1,n2,hW,x1,x2,l1,l2⟩:=hg.ex;have z3:=hI.box;have B3:=hI.dC;have hZR:=hI.upR;have HT:=ai ht;clear hI hg ht HH
  go_wp2_with (first
   |(refine Ra _ rfl rfl rfl tb ?_)
   |(refine oZ (ra:=a1) (la:=a2) (ws':=ws) _ _ rfl rfl rfl rfl z3 hW ?_;intro W4 q4 t4;have HQ4:=ai q4;have Cp:=ai t4;clear q4 t4))
  have t4:=aa Cp;exact bodyPost_ret (zL (aa HQ4) rfl rfl) rfl ⟨_,0,s,rfl,.told bw hl (aa HT),⟨a1,c1,a2,c2,ws,rfl,t4.row r1 (fun x hx _=>by have:=x1 x hx;omega),t4.row r2 (fun x hx _=>by have:=x2 x hx;omega),l1,l2,n1,n2,hW,fun x hx=>by have:=x1 x hx;omega,fun x hx=>by have:=x2 x hx;omega⟩,t4.under B3 (Nat.le_refl _)⟩
 ·have z3:=hJ.box;have B3:=hJ.dC;have h0:=hJ.why.1;have HS:=ai hJ.why.2;clear hJ HH
  go_wp2_with (first
   |(refine zN rfl rfl ?_)
   |(refine oZ (ra:=none) (la:=none) (rn:=0) (rc:=0) (ln:=0) (lc:=0) (ws':=eT) _ _ rfl rfl rfl rfl z3 jK ?_;intro W4 q4 t4;have HQ4:=ai q4;have Cp:=ai t4;clear q4 t4))
  have t4:=aa Cp;exact bodyPost_ret (zL (aa HQ4) rfl rfl) rfl ⟨_,er,St.zero,rfl,aa HS,⟨none,0,none,0,eT,rfl,RowK.nil _ _ _,RowK.nil _ _ _,Nat.le_refl _,Nat.le_refl _,fun _=>rfl,fun _=>rfl,jK,fun x hx=>(by cases hx),fun x hx=>(by cases hx)⟩,t4.under B3 (Nat.le_refl _)⟩
theorem Y0(es:List Ev)(a:tG)(cap:Nat)(w:tF)(hr:RowK .i64 w a (6*es.length) (ak es))(hl:es.length≤2000)(iD:∀v∈es,v.Ok):
  cA 27 #[.slice a es.length cap] w fun e w'=>∃x er,e= .returned (.tuple #[x,iV er])∧bZ w w'∧
   ((er=0∧∃s bw,bp es s bw∧wC w w' s x)∨(er=3∧(∃k s bw s' an,∃hk:k<es.length,bp (es.take k) s bw∧Step s es[k] s' an false)∧wC w w' St.zero x)):=by
 refine(sR es a cap w hr).mono ?_;rintro e w' ⟨x,er,s,rfl,rv,q,b⟩;cases rv with
 |size h=>omega
 |form h bad=>
  obtain⟨k,s,bw,hk,ht,h1|⟨s',an,st⟩⟩:=bad
  ·exact absurd (iD _ (List.getElem_mem hk)) h1
  ·exact⟨x,3,rfl,b,.inr ⟨rfl,⟨k,s,bw,s',an,hk,ht,st⟩,q⟩⟩
 |told bw h ht=>exact⟨x,0,rfl,b,.inl ⟨rfl,s,bw,ht,q⟩⟩
theorem bp.Lg{es:List Ev}{s:St}{bw:List An}(h:bp es s bw)(bad:Lf es):False:=by
 obtain⟨k,s0,Ef,hk,ht,h1⟩:=bad;obtain⟨s1,an1,st1,hv⟩:=h.step hk ht;rcases h1 with h1|⟨s',an,st⟩
 ·exact h1 hv
 ·have:=(st1.Ur ht.wf st).2.2;cases this
theorem Rv.one{es:List Ev}{s s':Go.Proofs.YtmhifeahpnkpiaaGreatDoor.St}{er er':Int}(h:Rv es s er)(h':Rv es s' er'):s=s'∧er=er':=by
 cases h with
 |size h=>cases h' with
  |size=>exact⟨rfl,rfl⟩
  |form h2=>omega
  |told _ h2=>omega
 |form h bad=>cases h' with
  |size h2=>omega
  |form=>exact⟨rfl,rfl⟩
  |told bw h2 ht=>exact(ht.Lg bad).elim
 |told bw h ht=>cases h' with
  |size h2=>omega
  |form h2 bad=>exact(ht.Lg bad).elim
  |told Nh h2 AY=>exact⟨(ht.one AY).1,rfl⟩
theorem bp.len{es:List Ev}{s:St}{bw:List An}(h:bp es s bw):bw.length=es.length:=by
 induction h with
 |nil=>rfl
 |snoc h hv st ih=>simp[ih]
structure Bt where
 r:Int
 e:Int
 f:Int
 t:Int
 o:Int
 es:List Ev
def Bt.zero:Bt:=⟨0,0,0,0,0,[]⟩
def bz(r e f t o:Int)(n:Nat):Prop:=
 (r=0∧n=0∧0≤e∧e≤1048576∧f=0∧t=0∧o=0)∨
 (r=1∧1≤e∧e≤1048576∧f=0∧t=0∧o=0)∨
 (r=2∧1≤e∧e≤1048576∧f=0∧0≤t∧t≤4∧0≤o∧o≤4)∨
 (r=3∧1≤e∧e≤1048576∧f=0∧0≤t∧t≤4∧o=0)∨
 (r=4∧1≤e∧e≤1048576∧0≤f∧f≤4∧t=0∧o=0)
instance(r e f t o:Int)(n:Nat):Decidable (bz r e f t o n):=by unfold bz;infer_instance
def Bt.cC(B:Bt):Prop:=bz B.r B.e B.f B.t B.o B.es.length
structure Bt.Ok(B:Bt):Prop where
 cM:B.cC
 len:B.es.length≤2000
 told:∃s bw,bp B.es s bw
theorem Bt.dr:Bt.zero.Ok:=⟨.inl ⟨rfl,rfl,by decide,by decide,rfl,rfl,rfl⟩,by decide,St.zero,[],.nil⟩
theorem Rv.ok{B:Bt}{s:St}{er:Int}(h:Rv B.es s er)(hs:B.cC):er=0↔B.Ok:=by
 constructor
 ·intro h0;cases h with
  |size=>omega
  |form=>omega
  |told bw hl ht=>exact⟨hs,hl,s,bw,ht⟩
 ·intro ok;obtain⟨s',bw,ht⟩:=ok.told;exact(h.one (.told bw ok.len ht)).2
def Ev.brk:Ev:=⟨4,0,0,0,0,0⟩
theorem Ev.I3:Ev.brk.Ok:=by
 unfold Ev.Ok Ev.brk aQ;simp
open Classical in
noncomputable def gP(B:Bt)(ep:Int):Bt×Int:=
 if ¬B.Ok then(Bt.zero,6)else if ¬(1≤ep∧ep≤1048576)then(Bt.zero,2)else if ¬B.r=0 then(Bt.zero,8)else if ep≤B.e then(Bt.zero,15)else(⟨1,ep,0,0,0,[]⟩,0)
open Classical in
noncomputable def dR(B:Bt)(nd:Int):Bt×Int:=
 if ¬B.Ok then(Bt.zero,6)else if ¬(0≤nd∧nd≤4)then(Bt.zero,2)else if B.r=2∨B.r=3 then(Bt.zero,12)else if ¬B.r=1 then(Bt.zero,7)else if B.e=1048576 then(Bt.zero,14)else(⟨2,B.e,B.f,nd,B.o,B.es⟩,0)
open Classical in
noncomputable def dq(B:Bt)(hv:Int):Int:=
 if ¬B.Ok then 6 else if ¬(B.r=2∨B.r=3)then 7 else if ¬(0≤hv∧hv≤B.es.length)then 2 else 0
noncomputable def bh(B:Bt)(hv:Int):Bt×Int:=
 if ¬dq B hv=0 then(Bt.zero,dq B hv)else if B.r=3 then(B,0)else if hv=B.es.length∨B.o=4 then(⟨3,B.e,B.f,B.t,0,B.es⟩,0)else(⟨B.r,B.e,B.f,B.t,B.o+1,B.es⟩,0)
noncomputable def partOf(B:Bt)(hv:Int):List Ev×Bool×Int:=
 if ¬dq B hv=0 then([],false,dq B hv)else((B.es.drop hv.toNat).take 3,decide (B.r=3∧B.es.length≤hv.toNat+3),0)
open Classical in
noncomputable def aT(B:Bt)(ep fr:Int):Bt×Int:=
 if ¬B.Ok then(Bt.zero,6)else if ¬((1≤ep∧ep≤1048576)∧(0≤fr∧fr≤4))then(Bt.zero,2)else if B.r=1∨B.r=2∨B.r=3 then(Bt.zero,8)
 else if B.r=4∧B.e=ep∧B.f=fr then(B,0)else if ep≤B.e then(Bt.zero,15)else(⟨4,ep,fr,0,0,[]⟩,0)
open Classical in
noncomputable def bG(B:Bt)(ep:Int):Bt×Int:=
 if ¬B.Ok then(Bt.zero,6)else if ¬B.r=3 then(Bt.zero,7)else if ep≤B.e then(Bt.zero,15)else(⟨0,B.e,0,0,0,[]⟩,0)
def Bt.broken(B:Bt):Bt:=⟨1,B.e,0,0,0,B.es++[Ev.brk]⟩
def Bt.more(B:Bt)(l:List Ev):Bt:=⟨B.r,B.e,B.f,B.t,B.o,B.es++l⟩
open Classical in
noncomputable def bB(B:Bt):Bt×Int:=
 if ¬B.Ok then(Bt.zero,6)else if ¬(B.r=1∨B.r=2)then(B,0)else if ¬B.broken.Ok then(Bt.zero,14)else(B.broken,0)
def Fits(hv DZ:List Ev)(last:Bool):Prop:=DZ.take hv.length=hv.take DZ.length∧(last=true→hv.length≤DZ.length)
open Classical in
noncomputable def bk(B:Bt)(ep at':Int)(l:List Ev)(last:Bool):Bt×Int:=
 if ¬B.Ok then(Bt.zero,6)else if ¬B.r=4 then(Bt.zero,7)else if ¬B.e=ep then(Bt.zero,15)else if ¬(0≤at'∧at'≤B.es.length)then(Bt.zero,2)
 else if ¬(l.length≤2000∧Fits (B.es.drop at'.toNat) l last)then(Bt.zero,3)
 else if ¬(if last then(B.more (l.drop (B.es.length-at'.toNat))).broken else B.more (l.drop (B.es.length-at'.toNat))).Ok then(Bt.zero,3)
 else(if last then(B.more (l.drop (B.es.length-at'.toNat))).broken else B.more (l.drop (B.es.length-at'.toNat)),0)
inductive cQ(B:Bt)(v:Ev):Bt→An→Bool→Int→Prop
 |state (h:¬B.Ok):cQ B v Bt.zero An.zero false 6
 |fault (h:B.Ok) (f:Int) (hf:aQ v.k v.p v.i v.b v.he v.hn=f) (h0:¬f=0):cQ B v Bt.zero An.zero false f
 |brk (h:B.Ok) (hv:v.Ok) (hk:v.k=4):cQ B v Bt.zero An.zero false 3
 |shut (h:B.Ok) (hv:v.Ok) (hk:¬v.k=4) (hr:B.r=3):cQ B v B ⟨12,0,0,0⟩ false 0
 |none (h:B.Ok) (hv:v.Ok) (hk:¬v.k=4) (hr:B.r=0∨B.r=4):cQ B v B ⟨7,0,0,0⟩ false 0
 |same (h:B.Ok) (hv:v.Ok) (hk:¬v.k=4) (hr:B.r=1∨B.r=2) (s:St) (bw:List An) (ht:bp B.es s bw) (s':St) (an:An) (st:Step s v s' an false):cQ B v B an false 0
 |full (h:B.Ok) (hv:v.Ok) (hk:¬v.k=4) (hr:B.r=1∨B.r=2) (s:St) (bw:List An) (ht:bp B.es s bw) (s':St) (an:An) (st:Step s v s' an true) (hl:1999≤B.es.length):cQ B v B ⟨14,0,0,0⟩ false 0
 |done (h:B.Ok) (hv:v.Ok) (hk:¬v.k=4) (hr:B.r=1∨B.r=2) (s:St) (bw:List An) (ht:bp B.es s bw) (s':St) (an:An) (st:Step s v s' an true) (hl:B.es.length<1999):cQ B v (B.more [v]) an true 0
abbrev du(r e f t o:Int)(a:tG)(n c:Nat):Array Value:= #[iV r,iV e,iV f,iV t,iV o,.slice a n c]
abbrev bQ(r e f t o:Int)(a:tG)(n c:Nat):Value:= .agg (du r e f t o a n c)
def aG(w:tF)(R:Nat)(r e f t o:Int)(a:tG)(n c:Nat):Prop:=w.heap[R]? =some (.cells (du r e f t o a n c) 49 (0,0))
section
variable{w w':tF}{R:Nat}{r e f t o:Int}{a:tG}{n c:Nat}
theorem aG.cells(h:aG w R r e f t o a n c):w.cell? ⟨R,0,none⟩=some (iV r)∧w.cell? ⟨R,1,none⟩=some (iV e)∧w.cell? ⟨R,2,none⟩=some (iV f)∧w.cell? ⟨R,3,none⟩=some (iV t)∧w.cell? ⟨R,4,none⟩=some (iV o)∧w.cell? ⟨R,5,none⟩=some (.slice a n c):=by
 unfold aG at h;simp[World.cell?,h]
theorem aG.lt(h:aG w R r e f t o a n c):R<w.heap.size:=by
 unfold aG at h;rcases Nat.lt_or_ge R w.heap.size with h'|h'
 ·exact h'
 ·simp[Array.getElem?_eq_none h']at h
theorem aG.below{N:Nat}(h:aG w R r e f t o a n c)(hb:Below N w w')(hR:R<N):aG w' R r e f t o a n c:=by
 unfold aG at h⊢;rw[←h];exact hb.block R hR
theorem aG.next(h:aG w R r e f t o a n c)(hb:bZ w w'):aG w' R r e f t o a n c:=h.below hb h.lt
theorem aG.free(h:aG w R r e f t o a n c)(k:Nat):w.frozen? ⟨R,k,none⟩=false:=by
 unfold aG at h;simp[World.frozen?,h]
theorem aG.dG{R':Nat}(h:aG w R r e f t o a n c)(tn:av R' w w')(hR:R≠R'):aG w' R r e f t o a n c:=by
 unfold aG at h⊢;rw[tn.block R hR];exact h
theorem aG.new(w:tF)(r e f t o:Int)(a:tG)(n c:Nat):aG (w.alloc (.cells (du r e f t o a n c) 49)) w.heap.size r e f t o a n c:=heap_alloc_new w _
theorem cy{k:Nat}{cs:tR}{T:tY}{v:tN}(h:w.heap[R]? =some (.cells cs T (0,0))):(w.setCell ⟨R,k,none⟩ v).heap[R]? =some (.cells (cs.set! k v) T (0,0)):=by
 rw[setCell_eq_setRow w R k _ _ (0,0) _ h,setRow_heap w R _ _ _ _ h];rfl
abbrev Re(w:tF)(R:Nat)(r e f t o:Int)(a:tG)(n c:Nat):World:=(((((w.setCell ⟨R,0,none⟩ (iV r)).setCell ⟨R,1,none⟩ (iV e)).setCell ⟨R,2,none⟩ (iV f)).setCell ⟨R,3,none⟩ (iV t)).setCell ⟨R,4,none⟩ (iV o)).setCell ⟨R,5,none⟩ (.slice a n c)
theorem aG.store(h:aG w R r e f t o a n c)(r' e' f' t' o':Int)(a':tG)(n' c':Nat):aG (Re w R r' e' f' t' o' a' n' c') R r' e' f' t' o' a' n' c':=by
 unfold aG at h⊢;rw[cy (cy (cy (cy (cy (cy h)))))];simp
theorem aG.mL(w:tF)(R:Nat)(r e f t o:Int)(a:tG)(n c:Nat):av R w (Re w R r e f t o a n c):=
 (((((av.set R 0 w _).trans (av.set R 1 _ _)).trans (av.set R 2 _ _)).trans (av.set R 3 _ _)).trans (av.set R 4 _ _)).trans (av.set R 5 _ _)
end
structure ja(w:tF)(B:Bt)(a:tG)(c:Nat):Prop where
 row:RowK .i64 w a (6*B.es.length) (ak B.es)
 cap:B.es.length≤c
 nil:a=none→c=0
theorem ja.next{w w':tF}{B:Bt}{a:tG}{c:Nat}(h:ja w B a c)(b:bZ w w'):ja w' B a c:=⟨h.row.below b,h.cap,h.nil⟩
structure iz(w w':tF)(B:Bt)(x:tN):Prop where
 ex:∃a c,x=bQ B.r B.e B.f B.t B.o a B.es.length c∧ja w' B a c∧(∀x,a=some x→w.heap.size≤x.block)
theorem iz.zero(w w':tF):iz w w' Bt.zero (bQ 0 0 0 0 0 none 0 0):=⟨none,0,rfl,⟨RowK.nil _ _ _,Nat.le_refl _,fun _=>rfl⟩,fun x hx=>by cases hx⟩
theorem eu(x m:Int)(w:tF):cA 211 #[iV x,iV m] w fun e w'=>e= .returned (.bool (decide (0≤x∧x≤m)))∧w'=w:=by
 by_cases h1:0≤x
 ·by_cases h2:x≤m
  ·rw[decide_eq_true (show 0≤x∧x≤m from⟨h1,h2⟩)];go_enter Tryz.func211,Tryz.ntmps211;go_wp2;go_ret;exact⟨rfl,rfl⟩
  ·rw[decide_eq_false (show ¬(0≤x∧x≤m) from fun h=>h2 h.2)];go_enter Tryz.func211,Tryz.ntmps211;go_wp2;go_ret;exact⟨rfl,rfl⟩
 ·rw[decide_eq_false (show ¬(0≤x∧x≤m) from fun h=>h1 h.1)];go_enter Tryz.func211,Tryz.ntmps211;go_wp2;go_ret;exact⟨rfl,rfl⟩
theorem kD(x:Int)(w:tF):cA 178 #[iV x] w fun e w'=>e= .returned (.bool (decide (1≤x∧x≤1048576)))∧w'=w:=by
 by_cases h1:1≤x
 ·by_cases h2:x≤1048576
  ·rw[decide_eq_true (show 1≤x∧x≤1048576 from⟨h1,h2⟩)];go_enter Tryz.func178,Tryz.ntmps178;go_wp2;go_ret;exact⟨rfl,rfl⟩
  ·rw[decide_eq_false (show ¬(1≤x∧x≤1048576) from fun h=>h2 h.2)];go_enter Tryz.func178,Tryz.ntmps178;go_wp2;go_ret;exact⟨rfl,rfl⟩
 ·rw[decide_eq_false (show ¬(1≤x∧x≤1048576) from fun h=>h1 h.1)];go_enter Tryz.func178,Tryz.ntmps178;go_wp2;go_ret;exact⟨rfl,rfl⟩
theorem gL(x:Int)(w:tF):cA 184 #[iV x] w fun e w'=>e= .returned (.bool (decide (0≤x∧x≤4)))∧w'=w:=by
 go_enter Tryz.func184,Tryz.ntmps184
 go_wp2_with (go_at_call 211;refine(eu _ _ _).mono ?_;rintro e w1 ⟨rfl,rfl⟩)
 go_ret;exact⟨by simp,rfl⟩
section
variable(r e f t o:Int)(a:tG)(n c:Nat)(w:tF)
theorem mC:cA 205 #[bQ r e f t o a n c] w (rB (.bool (decide (r=1∨r=2))) w):=by
 by_cases h1:r=1
 ·subst h1;go_enter Tryz.func205,Tryz.ntmps205;go_wp2;go_ret;exact⟨by simp,aB _ _⟩
 ·by_cases h2:r=2
  ·subst h2;go_enter Tryz.func205,Tryz.ntmps205;go_wp2;go_ret;exact⟨by simp,aB _ _⟩
  ·rw[decide_eq_false (show ¬(r=1∨r=2) by omega)];go_enter Tryz.func205,Tryz.ntmps205;go_wp2;go_ret;exact⟨by simp[h1,h2],aB _ _⟩
theorem lR:cA 185 #[bQ r e f t o a n c] w (rB (.bool (decide (r=2∨r=3))) w):=by
 by_cases h1:r=2
 ·subst h1;go_enter Tryz.func185,Tryz.ntmps185;go_wp2;go_ret;exact⟨by simp,aB _ _⟩
 ·by_cases h2:r=3
  ·subst h2;go_enter Tryz.func185,Tryz.ntmps185;go_wp2;go_ret;exact⟨by simp,aB _ _⟩
  ·rw[decide_eq_false (show ¬(r=2∨r=3) by omega)];go_enter Tryz.func185,Tryz.ntmps185;go_wp2;go_ret;exact⟨by simp[h1,h2],aB _ _⟩
end
theorem dF{w wx:tF}{R N:Nat}{r e f t o:Int}{a:tG}{n c:Nat}(h:aG wx R r e f t o a n c)(dC:Below N w wx)(hN:N≤R)(r' e' f' t' o':Int)(a':tG)(n' c':Nat):
  ∃W,W=(((((wx.setCell ⟨R,0,none⟩ (iV r')).setCell ⟨R,1,none⟩ (iV e')).setCell ⟨R,2,none⟩ (iV f')).setCell ⟨R,3,none⟩ (iV t')).setCell ⟨R,4,none⟩ (iV o')).setCell ⟨R,5,none⟩ (.slice a' n' c')∧aG W R r' e' f' t' o' a' n' c'∧Below N w W∧av R wx W:=
 ⟨_,rfl,h.store _ _ _ _ _ _ _ _,(aG.mL _ _ _ _ _ _ _ _ _ _).under dC hN,aG.mL _ _ _ _ _ _ _ _ _ _⟩
theorem ew{W:tF}{R:Nat}{r e f t o:Int}{a:tG}{n c:Nat}(d:aG W R r e f t o a n c):(loadVar 49 ⟨R,0,none⟩).run Tryz.prog W= .ok (bQ r e f t o a n c) W:=
 run_loadVar_row (P:=Tryz.prog) W R 49 49 _ (0,0) _ d Tryz.underlying49 rfl (by kernel_rfl)
theorem JI{W:tF}{R:Nat}{r e f t o:Int}{a:tG}{n c:Nat}{er:Int}{tmps:tR}(d:aG W R r e f t o a n c)(t2:tmps[2]? =some (.pointer (some ⟨R,0,none⟩)))(t3:tmps[3]? =some (iV er)):
  (results Tryz.f177 tmps).run Tryz.prog W= .ok (.tuple #[bQ r e f t o a n c,iV er]) W:=by
 simp[results,Tryz.results177,t2,t3,asAddr,ew d]
theorem mD(er:Int)(w:tF):cA 177 #[iV er] w (rB (.tuple #[bQ 0 0 0 0 0 none 0 0,iV er]) w):=by
 go_enter Tryz.func177,Tryz.ntmps177
 go_upto_region 1 with fail
 obtain⟨W,hW,z,b⟩:∃W,W=w.alloc (.cells (du 0 0 0 0 0 none 0 0) 49)∧aG W w.heap.size 0 0 0 0 0 none 0 0∧bZ w W:=⟨_,rfl,aG.new _ _ _ _ _ _ _ _ _,aB _ _⟩;rw[←hW];clear hW;obtain⟨x0,x1,x2,x3,x4,x5⟩:=z.cells;have zf:=z.free;have HZ:=ai z;have HB:=ai b;clear z b;go_wp2;obtain⟨W2,hW2,d2,b2,_⟩:=dF (aa HZ) (aa HB) (Nat.le_refl _) 0 0 0 0 0 none 0 0;rw[←hW2];exact bodyPost_ret (JI d2 rfl rfl) rfl ⟨rfl,b2⟩
theorem zR(a b:tG)(la ca lb cb:Nat)(A B:tJ)(w:tF)(hA:RowK .i64 w a (6*la) A)(hB:RowK .i64 w b (6*lb) B)(nA:a=none→ca=0)(nB:b=none→cb=0)(hs:la+lb≤1000000):
  cA 212 #[.slice a la ca,.slice b lb cb] w fun e w'=>∃a' c',e= .returned (.slice a' (la+lb:Nat) c')∧RowK .i64 w' a' (6*(la+lb)) (A++B)∧la+lb≤c'∧(a'=none→c'=0)∧(∀x,a'=some x→w.heap.size≤x.block)∧bZ w w':=by
 obtain⟨i6,hi6,hz60,hz61,hz62⟩:=gY Tryz.l9;have hw:IntKind.i64.wrap ((la:Int)+(lb:Int))=((la+lb:Nat):Int):=by rw[IntKind.wrap_i64];omega
 have vT:∀u∈A++B,(Lit.int .i64 u).wf=true:=fun u hu=>by
  rcases List.mem_append.1 hu with h|h
  ·exact hA.wf u h
  ·exact hB.wf u h
 have HA:Hid (∀w',bZ w w'→RowK .i64 w' a (6*la) A):=ai fun w' b=>hA.below b;have HB:Hid (∀w',bZ w w'→RowK .i64 w' b (6*lb) B):=ai fun w' b=>hB.below b;clear hA hB;go_enter Tryz.func212,Tryz.ntmps212
 go_wp2_with (first
  |(refine wpList_make_own _ rfl _ _ 47 rfl w.heap.size 55 i6 _ 6 Tryz.underlying47 hi6 hz60 hz61 .i64 .i64 _ (la+lb) rfl rfl (by first|rfl|omega) (by rw[hz62];omega) (by unfold maxLen;omega) (Nat.le_refl _) ?_;intro W1 o1 g1;have b1:=(Below.refl w.heap.size w).grown g1 (by omega) (fun q hq=>by cases hq))
  |(at_builtin;refine cI rfl _ _ 47 rfl w.heap.size 55 i6 _ 6 48 Tryz.underlying47 hi6 hz60 hz61 hz62 rfl (by decide) (.slice (some ⟨w.heap.size,0,none⟩) 0 (la+lb)) 0 [] rfl o1 a la ca A rfl (aa HA _ b1) nA (by unfold maxLen;omega) (by omega) (by have:=b1.size;omega) ?_;intro v2 W2 o2 g2;simp only[Nat.zero_add,List.nil_append]at o2;have b2:=b1.grown g2 b1.size (fun q hq=>(o1.lt q hq).1);clear o1 g1 g2 b1)
  |(at_builtin;refine cI rfl _ _ 47 rfl w.heap.size 55 i6 _ 6 48 Tryz.underlying47 hi6 hz60 hz61 hz62 rfl (by decide) v2 la A rfl o2 b lb cb B rfl (aa HB _ b2) nB (by unfold maxLen;omega) (by omega) (by have:=b2.size;omega) ?_;intro v3 W3 o3 g3;have b3:=b2.grown g3 b2.size (fun q hq=>(o2.lt q hq).1);obtain⟨a',c',rfl,r3,hc,_,n3,u3⟩:=RowK.jF o3 vT;clear o2 g3 b2))
 go_ret;exact⟨a',c',rfl,r3,hc,n3,u3,b3⟩
def mF(r e f t o:Int)(ev:tN)(q:tH):Nat→Value
 |0=>iV r
 |1=>iV e
 |2=>iV f
 |3=>iV t
 |4=>iV o
 |5=>ev
 |j+6=>q j
theorem eD{r e f t o:Int}{a:tG}{n c:Nat}{q:tH}(h:a7 q 41):a7 (mF r e f t o (.slice a n c) q) 47:=fun i hi=>by
 match i,hi with
 |0,_=>rfl
 |1,_=>rfl
 |2,_=>rfl
 |3,_=>rfl
 |4,_=>rfl
 |5,_=>rfl
 |j+6,hj=>exact h j (by omega)
abbrev js(r e f t o:Int)(a:tG)(n c:Nat)(q:tH):Value:=vF (mF r e f t o (.slice a n c) q) 47
def jM(w:tF)(R:Nat)(r e f t o:Int)(a:tG)(n c:Nat)(q:tH):Prop:=aZ w R 117 47 (mF r e f t o (.slice a n c) q)
theorem Tryz.Rf:(Tryz.prog.info? 117).map (·.size)=some 47:=by kernel_rfl
theorem Tryz.Rg:(Tryz.prog.info? 117).map (·.zero)=some (some (js 0 0 0 0 0 none 0 0 zQ)):=by kernel_rfl
theorem Tryz.Eg:(Tryz.prog.info? 49).map (·.size)=some 6:=by kernel_rfl
theorem Lh(r e f t o:Int)(a:tG)(n c:Nat)(q:tH):bQ r e f t o a n c=vF (mF r e f t o (.slice a n c) q) 6:=rfl
section
variable{w w':tF}{R:Nat}{r e f t o:Int}{a:tG}{n c:Nat}{q:tH}
theorem jM.lt(h:jM w R r e f t o a n c q):R<w.heap.size:=aZ.lt h
theorem jM.next(h:jM w R r e f t o a n c q)(hb:bZ w w'):jM w' R r e f t o a n c q:=aZ.next h hb
theorem jM.cells(h:jM w R r e f t o a n c q):w.cell? ⟨R,0,none⟩=some (iV r)∧w.cell? ⟨R,1,none⟩=some (iV e)∧w.cell? ⟨R,2,none⟩=some (iV f)∧w.cell? ⟨R,3,none⟩=some (iV t)∧w.cell? ⟨R,4,none⟩=some (iV o)∧w.cell? ⟨R,5,none⟩=some (.slice a n c):=
 ⟨aZ.at h 0 (by decide),aZ.at h 1 (by decide),aZ.at h 2 (by decide),aZ.at h 3 (by decide),aZ.at h 4 (by decide),aZ.at h 5 (by decide)⟩
variable{ops:tP}{rest:List Oper}{op:Oper}{ac:Act}{Q:tL}
theorem Li(x:tT)(ho:op.op= .load 49 x)(hw:Region.wanted op (yielded ops ac.tmps)=true)(hx:ac.eval x= .pointer (some ⟨R,0,none⟩))(mb:jM w R r e f t o a n c q)
  (h:wpList Tryz.prog ops Q rest (ac.put op.dst (bQ r e f t o a n c)) w):wpList Tryz.prog ops Q (op::rest) ac w:=
 FD 49 _ 0 6 _ x ho hw hx mb (by decide) Tryz.underlying49 rfl Tryz.Eg (fun i _=>by rw[Nat.zero_add]) (by rw[←Lh];exact h)
theorem Lj{r' e' f' t' o':Int}{a':tG}{n' c':Nat}{q':tH}(x y:tT)(ho:op.op= .store 117 x y)(hw:Region.wanted op (yielded ops ac.tmps)=true)(hx:ac.eval x= .pointer (some ⟨R,0,none⟩))(hy:ac.eval y=js r' e' f' t' o' a' n' c' q')(mb:jM w R r e f t o a n c q)(h1:a7 q' 41)
  (h:∀w',jM w' R r' e' f' t' o' a' n' c' q'→av R w w'→wpList Tryz.prog ops Q rest (ac.put op.dst undef) w'):wpList Tryz.prog ops Q (op::rest) ac w:=
 BR 117 0 47 _ x y ho hw hx hy mb (Nat.le_refl _) Tryz.Rf (eD h1) (fun w' fb tn=>h w' (aZ.congr fb fun i hi=>by rw[gj,if_pos ⟨Nat.zero_le _,by omega⟩,Nat.sub_zero]) tn)
theorem Cq(x:tT)(ho:op.op= .box 117 x)(hw:Region.wanted op (yielded ops ac.tmps)=true)(hx:ac.eval x=js r e f t o a n c q)
  (h:∀w',jM w' w.heap.size r e f t o a n c q→bZ w w'→w'.heap.size=w.heap.size+1→wpList Tryz.prog ops Q rest (ac.put op.dst (.pointer (some ⟨w.heap.size,0,none⟩))) w'):wpList Tryz.prog ops Q (op::rest) ac w:=
 Qf 117 47 _ x ho hw hx h
theorem Lk(ho:op.op= .alloc 117)(hw:Region.wanted op (yielded ops ac.tmps)=true)
  (h:∀w',jM w' w.heap.size 0 0 0 0 0 none 0 0 zQ→bZ w w'→w'.heap.size=w.heap.size+1→wpList Tryz.prog ops Q rest (ac.put op.dst (.pointer (some ⟨w.heap.size,0,none⟩))) w'):wpList Tryz.prog ops Q (op::rest) ac w:=
 FF 117 47 _ ho hw Tryz.Rg h
theorem Nj(d:jM w R r e f t o a n c q):(loadVar 117 ⟨R,0,none⟩).run Tryz.prog w= .ok (js r e f t o a n c q) w:=
 run_loadVar_mid (P:=Tryz.prog) w R 0 117 _ _ (aZ.range d 0 47 (Nat.le_refl _)) Tryz.underlying117 rfl (by rw[bM];exact Tryz.Rf)
end
theorem Gw{P:tW}{t:tY}{n:Nat}(h:(P.info? t).map (·.size)=some n)(w:tF):(sizeOf t).run P w= .ok n w:=by
 cases hq:P.info? t with
 |none=>simp[hq]at h
 |some i=>
  have hs:i.size=n:=by simpa[hq]using h
  simp[sizeOf,typeInfo,Sem.run_bind,hq,hs]
theorem Tryz.Rh:∀fs,Tryz.prog.underlying 117=some (.struct fs)→∀w,Sem.run Tryz.prog (Array.mapM (m:=Sem) (fun(f:Go.Field)=>do let s←sizeOf f.type;pure (f.offset,s)) fs) w= .ok #[(0,6),(6,41)] w:=by
 intro fs h w;rw[Tryz.underlying117]at h;cases h;simp[Gw Tryz.Eg,Gw Tryz.K6,go_sem]
theorem Vv(w:tF):(Instr.build 117 #[]).run Tryz.prog w= .ok (js 0 0 0 0 0 none 0 0 zQ) w:=
 run_build Tryz.Rg Tryz.underlying117 (Tryz.Rh _ Tryz.underlying117) rfl w
theorem Ll{W:tF}{R i j:Nat}{r e f t o:Int}{a:tG}{n c:Nat}{q:tH}{v:tN}{tmps:tR}(d:jM W R r e f t o a n c q)(Ri:Func)(hf:Ri.results= #[.cell i 117,.tmp j])(t1:tmps[i]? =some (.pointer (some ⟨R,0,none⟩)))(t2:tmps[j]? =some v):
  (results Ri tmps).run Tryz.prog W= .ok (.tuple #[js r e f t o a n c q,v]) W:=by
 simp[results,hf,t1,t2,asAddr,Nj d]
theorem jl(er:Int)(w:tF):cA 169 #[iV er] w (rB (.tuple #[js 0 0 0 0 0 none 0 0 zQ,iV er]) w):=by
 go_enter Tryz.func169,Tryz.ntmps169
 go_wp2_with (first
  |(refine Lk rfl rfl ?_;intro W1 m1 b1 s1)
  |(refine Qh _ _ _ rfl rfl rfl (Vv _) ?_)
  |(refine Lj _ _ rfl rfl rfl rfl m1 zJ ?_;intro W2 m2 t2;have b2:=t2.under b1 (Nat.le_refl _);clear m1 b1 t2 s1))
 exact bodyPost_ret (Ll m2 _ rfl rfl rfl) rfl ⟨rfl,b2⟩
section
variable(r e f t o:Int)(a:tG)(n c:Nat)(q:tH)(w:tF)
theorem kE:cA 110 #[js r e f t o a n c q] w (rB (.bool (decide (r=1∨r=2))) w):=by
 by_cases h1:r=1
 ·subst h1;go_enter Tryz.func110,Tryz.ntmps110
  go_wp2_with (refine Cq _ rfl rfl rfl ?_;intro W1 m1 b1 s1;obtain⟨x0,x1,x2,x3,x4,x5⟩:=m1.cells;clear m1 s1)
  go_ret;exact⟨by simp,b1⟩
 ·by_cases h2:r=2
  ·subst h2;go_enter Tryz.func110,Tryz.ntmps110
   go_wp2_with (refine Cq _ rfl rfl rfl ?_;intro W1 m1 b1 s1;obtain⟨x0,x1,x2,x3,x4,x5⟩:=m1.cells;clear m1 s1)
   go_ret;exact⟨by simp,b1⟩
  ·rw[decide_eq_false (show ¬(r=1∨r=2) by omega)];go_enter Tryz.func110,Tryz.ntmps110
   go_wp2_with (refine Cq _ rfl rfl rfl ?_;intro W1 m1 b1 s1;obtain⟨x0,x1,x2,x3,x4,x5⟩:=m1.cells;clear m1 s1)
   go_ret;exact⟨by simp[h1,h2],b1⟩
end
section
variable{P:tW}{ops:tP}{rest:List Oper}{op:Oper}{ac:Act}{Q:tL}{w w':tF}{R T n:Nat}{f:tH}
theorem wE(w:tF)(b o:Nat)(ty:tY)(v:tN)(hv:v.cells= #[v])(ht:w.there b o 1)(hi:(P.info? ty).map (·.size)=some 1)(h1:v.oneCell'=true):
  (storeVar ty ⟨b,o,none⟩ v).run P w= .ok () (w.setCell ⟨b,o,none⟩ v):=by
 have:=run_storeCells_cells (P:=P) b o [v] 0 w (fun j hj=>by simpa using(ht j (by simpa using hj)).1) (fun j hj=>by simpa using(ht j (by simpa using hj)).2)
  (fun x hx=>by simp at hx;subst hx;exact h1)
 cases hq:P.info? ty with
 |none=>simp[hq]at hi
 |some i=>
  have hs:i.size=1:=by simpa[hq]using hi
  simp only[Nat.add_zero]at this;simp[storeVar,sizeOf,typeInfo,hq,hv,hs,this];rfl
theorem Nk(t:tY)(k:Nat)(v:tN)(x y:tT)(ho:op.op= .store t x y)(hw:Region.wanted op (yielded ops ac.tmps)=true)(hx:ac.eval x= .pointer (some ⟨R,k,none⟩))(hy:ac.eval y=v)(hv:v.cells= #[v])(h1:v.oneCell'=true)(fb:aZ w R T n f)(hk:k<n)
  (hi:(P.info? t).map (·.size)=some 1)
  (h:∀w',aZ w' R T n (oS f k v)→av R w w'→wpList P ops Q rest (ac.put op.dst undef) w'):wpList P ops Q (op::rest) ac w:=
 wpList_step fun K hK=>by
  rw[if_pos hw];have:=hK _ _ (h _ (fb.set k v hk) (av.set R k w v));unfold Oper.wp execOp;simp only[ho,hx,hy,Instr.storeAt,Instr.sureAddr,Sem.run_bind,Sem.run_pure,Result.andThen_ok,wE w R k t v hv (fb.there k 1 (by omega)) hi h1];exact this
end
theorem Tryz.Y1:(Tryz.prog.info? 47).map (·.size)=some 1:=by kernel_rfl
theorem Tryz.Y2:(Tryz.prog.info? 49).map (·.zero)=some (some (bQ 0 0 0 0 0 none 0 0)):=by kernel_rfl
theorem nV(w:tF)(R:Nat)(r e f t o:Int)(a:tG)(n c:Nat):aG w R r e f t o a n c=aZ w R 49 6 (mF r e f t o (.slice a n c) zQ):=rfl
section
variable{w w':tF}{R:Nat}{r e f t o:Int}{a:tG}{n c:Nat}{q:tH}
variable{ops:tP}{rest:List Oper}{op:Oper}{ac:Act}{Q:tL}
theorem Lm(x:tT)(ho:op.op= .load 49 x)(hw:Region.wanted op (yielded ops ac.tmps)=true)(hx:ac.eval x= .pointer (some ⟨R,0,none⟩))(bb:aG w R r e f t o a n c)
  (h:wpList Tryz.prog ops Q rest (ac.put op.dst (bQ r e f t o a n c)) w):wpList Tryz.prog ops Q (op::rest) ac w:=by
 rw[nV]at bb;exact FD 49 _ 0 6 _ x ho hw hx bb (Nat.le_refl _) Tryz.underlying49 rfl Tryz.Eg (fun i _=>by rw[Nat.zero_add]) (by rw[←Lh];exact h)
theorem ym{r' e' f' t' o':Int}{a':tG}{n' c':Nat}(x y:tT)(ho:op.op= .store 49 x y)(hw:Region.wanted op (yielded ops ac.tmps)=true)(hx:ac.eval x= .pointer (some ⟨R,0,none⟩))(hy:ac.eval y=bQ r' e' f' t' o' a' n' c')(bb:aG w R r e f t o a n c)
  (h:∀w',aG w' R r' e' f' t' o' a' n' c'→av R w w'→wpList Tryz.prog ops Q rest (ac.put op.dst undef) w'):wpList Tryz.prog ops Q (op::rest) ac w:=by
 rw[nV]at bb;refine BR 49 0 6 (mF r' e' f' t' o' (.slice a' n' c') zQ) x y ho hw hx hy bb (Nat.le_refl _) Tryz.Eg (fun i hi=> ?_) (fun w' fb tn=>h w' ?_ tn)
 ·match i,hi with
  |0,_=>rfl
  |1,_=>rfl
  |2,_=>rfl
  |3,_=>rfl
  |4,_=>rfl
  |5,_=>rfl
 ·rw[nV];exact aZ.congr fb fun i hi=>by rw[gj,if_pos ⟨Nat.zero_le _,by omega⟩,Nat.sub_zero]
theorem XE(x:tT)(ho:op.op= .box 49 x)(hw:Region.wanted op (yielded ops ac.tmps)=true)(hx:ac.eval x=bQ r e f t o a n c)
  (h:∀w',aG w' w.heap.size r e f t o a n c→bZ w w'→w'.heap.size=w.heap.size+1→wpList Tryz.prog ops Q rest (ac.put op.dst (.pointer (some ⟨w.heap.size,0,none⟩))) w'):wpList Tryz.prog ops Q (op::rest) ac w:=
 Qf 49 6 (mF r e f t o (.slice a n c) zQ) x ho hw hx h
theorem yn(ho:op.op= .alloc 49)(hw:Region.wanted op (yielded ops ac.tmps)=true)
  (h:∀w',aG w' w.heap.size 0 0 0 0 0 none 0 0→bZ w w'→w'.heap.size=w.heap.size+1→wpList Tryz.prog ops Q rest (ac.put op.dst (.pointer (some ⟨w.heap.size,0,none⟩))) w'):wpList Tryz.prog ops Q (op::rest) ac w:=
 FF 49 6 (mF 0 0 0 0 0 (.slice none 0 0) zQ) ho hw Tryz.Y2 h
theorem mF5(r e f t o:Int)(a:tG)(n c:Nat)(a':tG)(n' c':Nat)(q:tH)(i:Nat):oS (mF r e f t o (.slice a n c) q) 5 (.slice a' n' c') i=mF r e f t o (.slice a' n' c') q i:=by
 by_cases hi:i=5
 ·subst hi;rfl
 ·rw[qx _ _ _ _ hi]
  match i,hi with
  |0,_=>rfl
  |1,_=>rfl
  |2,_=>rfl
  |3,_=>rfl
  |4,_=>rfl
  |j+6,_=>rfl
theorem Gx{a':tG}{n' c':Nat}(x y:tT)(ho:op.op= .store 47 x y)(hw:Region.wanted op (yielded ops ac.tmps)=true)(hx:ac.eval x= .pointer (some ⟨R,5,none⟩))(hy:ac.eval y= .slice a' n' c')(bb:aG w R r e f t o a n c)
  (h:∀w',aG w' R r e f t o a' n' c'→av R w w'→wpList Tryz.prog ops Q rest (ac.put op.dst undef) w'):wpList Tryz.prog ops Q (op::rest) ac w:=by
 rw[nV]at bb;refine Nk 47 5 (.slice a' n' c') x y ho hw hx hy rfl rfl bb (by decide) Tryz.Y1 (fun w' fb tn=>h w' ?_ tn);rw[nV];exact aZ.congr fb fun i _=>mF5 _ _ _ _ _ _ _ _ _ _ _ _ i
end
theorem JJ{W:tF}{R i:Nat}{r e f t o:Int}{a:tG}{n c:Nat}{tmps:tR}(d:aG W R r e f t o a n c)(Ri:Func)(hf:Ri.results= #[.cell i 49])(t1:tmps[i]? =some (.pointer (some ⟨R,0,none⟩))):
  (results Ri tmps).run Tryz.prog W= .ok (bQ r e f t o a n c) W:=by
 simp[results,hf,t1,asAddr,ew d]
section
variable(r e f t o:Int)(a:tG)(n c:Nat)(q:tH)(w:tF)
theorem ku:cA 132 #[js r e f t o a n c q] w (rB (bQ r e f t o none 0 0) w):=by
 go_enter Tryz.func132,Tryz.ntmps132
 go_wp2_with (first
  |(refine Cq _ rfl rfl rfl ?_;intro W1 m1 b1 _s1;have L1:=m1.lt;clear _s1)
  |(refine yn rfl rfl ?_;intro W2 z2 b2 _s2;have m2:=m1.next b2;have L2:=z2.lt;have B2:=b1.trans (b2.mono (by omega));clear m1 b1 b2 _s2)
  |(refine Li _ rfl rfl rfl m2 ?_;clear m2)
  |(refine yn rfl rfl ?_;intro W3 d3 b3 _s3;have z3:=z2.next b3;have L3:=d3.lt;have B3:=B2.trans (b3.mono (by omega));clear z2 B2 b3 _s3)
  |(refine ym _ _ rfl rfl rfl rfl d3 ?_;intro W4 d4 t4;have z4:=z3.dG t4 (by omega);have B4:=t4.under B3 (by omega);clear d3 z3 B3 t4)
  |(refine Gx _ _ rfl rfl rfl rfl d4 ?_;intro W5 d5 t5;have z5:=z4.dG t5 (by omega);have B5:=t5.under B4 (by omega);clear d4 z4 B4 t5)
  |(refine Lm _ rfl rfl rfl d5 ?_)
  |(refine ym _ _ rfl rfl rfl rfl z5 ?_;intro W6 z6 t6;have B6:=t6.under B5 (by omega);clear d5 z5 B5 t6))
 exact bodyPost_ret (JJ z6 _ rfl rfl) rfl ⟨rfl,B6⟩
end
section
variable(r e f t o:Int)(a:tG)(n c:Nat)(q:tH)(A:tJ)(w:tF)
structure abr(w w':tF)(r e f t o:Int)(n:Nat)(A:tJ)(x:tN):Prop where
 ex:∃a c,x=bQ r e f t o a n c∧RowK .i64 w' a (6*n) A∧n≤c∧(a=none→c=0)∧(∀y,a=some y→w.heap.size≤y.block)
theorem Ln(hA:RowK .i64 w a (6*n) A)(hn:a=none→c=0)(hs:n≤1000000):cA 148 #[bQ r e f t o a n c] w fun x w'=>∃v,x= .returned v∧abr w w' r e f t o n A v∧bZ w w':=by
 have HA:Hid (∀w',bZ w w'→RowK .i64 w' a (6*n) A):=ai fun w' b=>hA.below b;clear hA;go_enter Tryz.func148,Tryz.ntmps148
 go_wp2_with (first
  |(refine XE _ rfl rfl rfl ?_;intro W1 d1 b1 _s1;have L1:=d1.lt;clear _s1)
  |(refine yn rfl rfl ?_;intro W2 z2 b2 _s2;have d2:=d1.next b2;have L2:=z2.lt;have B2:=b1.trans (b2.mono (by omega));obtain⟨x0,x1,x2,x3,x4,x5⟩:=d2.cells;clear d1 b1 b2 _s2 x0 x1 x2 x3 x4)
  |(go_at_call 192;refine(Cn a n c A W2 (aa HA _ B2) hn hs).mono ?_;rintro x W3 ⟨v3,rfl,o3,b3⟩;obtain⟨a',c',rfl,r3,h1,h2,h3⟩:=o3.ex;have RR:=ai (And.intro r3 (And.intro h1 (And.intro h2 h3)));have d3:=d2.next b3;have z3:=z2.next b3;have B3:=B2.trans (b3.mono (by omega));clear x5 d2 z2 B2 b3 o3 r3 h1 h2 h3)
  |(refine Gx _ _ rfl rfl rfl rfl d3 ?_;intro W4 d4 t4;have z4:=z3.dG t4 (by omega);have B4:=t4.under B3 (by omega);have R4:=ai (t4.row (aa RR).1 (fun y hy _=>by have:=(aa RR).2.2.2 y hy;omega));clear d3 z3 B3 t4)
  |(refine Lm _ rfl rfl rfl d4 ?_)
  |(refine ym _ _ rfl rfl rfl rfl z4 ?_;intro W5 z5 t5;have B5:=t5.under B4 (by omega);have R5:=ai (t5.row (aa R4) (fun y hy _=>by have:=(aa RR).2.2.2 y hy;omega));clear d4 z4 B4 t5 R4))
 exact bodyPost_ret (JJ z5 _ rfl rfl) rfl ⟨_,rfl,⟨a',c',rfl,aa R5,(aa RR).2.1,(aa RR).2.2.1,fun y hy=>by have:=(aa RR).2.2.2 y hy;omega⟩,B5⟩
theorem JK(hA:RowK .i64 w a (6*n) A)(hn:a=none→c=0)(hs:n≤1000000):cA 95 #[js r e f t o a n c q] w fun x w'=>∃v,x= .returned v∧abr w w' r e f t o n A v∧bZ w w':=by
 have HA:Hid (∀w',bZ w w'→RowK .i64 w' a (6*n) A):=ai fun w' b=>hA.below b;clear hA;go_enter Tryz.func95,Tryz.ntmps95
 go_wp2_with (first
  |(refine Cq _ rfl rfl rfl ?_;intro W1 m1 b1 _s1;have L1:=m1.lt;clear _s1)
  |(refine yn rfl rfl ?_;intro W2 z2 b2 _s2;have m2:=m1.next b2;have L2:=z2.lt;have B2:=b1.trans (b2.mono (by omega));clear m1 b1 b2 _s2)
  |(refine Li _ rfl rfl rfl m2 ?_;clear m2)
  |(go_at_call 148;refine(Ln r e f t o a n c A W2 (aa HA _ B2) hn hs).mono ?_;rintro x W3 ⟨v3,rfl,o3,b3⟩;obtain⟨a',c',rfl,r3,h1,h2,h3⟩:=o3.ex;have RR:=ai (And.intro r3 (And.intro h1 (And.intro h2 h3)));have z3:=z2.next b3;have B3:=B2.trans (b3.mono (by omega));clear z2 B2 b3 o3 r3 h1 h2 h3)
  |(refine ym _ _ rfl rfl rfl rfl z3 ?_;intro W5 z5 t5;have B5:=t5.under B3 (by omega);have R5:=ai (t5.row (aa RR).1 (fun y hy _=>by have:=(aa RR).2.2.2 y hy;omega));clear z3 B3 t5))
 exact bodyPost_ret (JJ z5 _ rfl rfl) rfl ⟨_,rfl,⟨a',c',rfl,aa R5,(aa RR).2.1,(aa RR).2.2.1,fun y hy=>by have:=(aa RR).2.2.2 y hy;omega⟩,B5⟩
end
def lF(l:tO):Nat→Value:=fun i=>l.getD i undef
theorem Rl{l:tO}(h:l.all (·.oneCell')=true):a7 (lF l) l.length:=fun i hi=>by
 have:lF l i=l[i]:=by simp[lF,hi]
 rw[this];exact List.all_eq_true.1 h _ (List.getElem_mem hi)
theorem qI{l l':tO}{q m j:Nat}(h:l'=(l.drop q).take m)(hj:j<m):lF l (q+j)=lF l' j:=by
 subst h;simp[hj,lF]
section
open Rv
theorem Y3(r e f t o:Int)(a:tG)(n c:Nat)(q:tH)(r' e' f' t' o':Int)(a':tG)(n' c':Nat)(w:tF)(hq:a7 q 41):cA 143 #[js r e f t o a n c q,bQ r' e' f' t' o' a' n' c',iV 0] w (rB (.tuple #[js r' e' f' t' o' a n c q,iV 0]) w):=by
 exact en (H:=[]) _ [vg [.o (iV r),.o (iV e),.o (iV f),.o (iV t),.o (iV o),.o (.slice a n c),.f 41 q],vg (bS r' e' f' t' o' a' n' c'),vi 0] Tryz.func143 rfl rfl (m0 w) (Rv.r [0] rfl fun _=>fin fun w hS=>⟨rfl,hS.now.2⟩)
theorem Eh(r e f t o:Int)(a:tG)(n c:Nat)(w:tF):cA 235 #[bQ r e f t o a n c] w (rB (.bool (decide (bz r e f t o n))) w):=by
 refine en (H:=[]) _ [vg (bS r e f t o a n c)] Tryz.func235 rfl rfl (m0 w) ?_;have key:∀l F T O:Int,(l≤e∧e≤1048576∧(0≤f∧f≤F)∧(0≤t∧t≤T)∧(0≤o∧o≤O))∨¬l≤e∨(l≤e∧¬e≤1048576)∨((l≤e∧e≤1048576)∧¬(0≤f∧f≤F))∨((l≤e∧e≤1048576∧0≤f∧f≤F)∧¬(0≤t∧t≤T))∨((l≤e∧e≤1048576∧(0≤f∧f≤F)∧0≤t∧t≤T)∧¬(0≤o∧o≤O)):=by intros;omega
 by_cases h4:r=0∨r=1∨r=2∨r=3∨r=4
 case neg=>exact Rv.r [0,0,0,0,0] rfl fun _=>fin fun w hS=>⟨by rw[decide_eq_false (by unfold bz;omega)];rfl,hS.now.2⟩
 by_cases hn:r=0∧0<n
 ·exact Rv.r [1,1] rfl fun _=>fin fun w hS=>⟨by rw[decide_eq_false (by unfold bz;omega)];rfl,hS.now.2⟩
 rcases h4 with h|h|h|h|h
 case' inl=>have k:=key 0 0 0 0;refine Rv.r [1,0] rfl fun _=> ?_
 case' inr.inl=>have k:=key 1 0 0 0;refine Rv.r [0,1] rfl fun _=> ?_
 case' inr.inr.inl=>have k:=key 1 0 4 4;refine Rv.r [0,0,1] rfl fun _=> ?_
 case' inr.inr.inr.inl=>have k:=key 1 0 4 0;refine Rv.r [0,0,0,1] rfl fun _=> ?_
 case' inr.inr.inr.inr=>have k:=key 1 4 0 0;refine Rv.r [0,0,0,0,1] rfl fun _=> ?_
 all_goals
  clear key;rcases k with k|k|k|k|k|k
  ·exact Rv.r [1,1] rfl fun _=>Rv.cb rfl (vv (.bool true)) (fun w _=>gF true (eu _ _ w) (decide_eq_true (by omega))) (Rv.r [] rfl fun _=>Rv.cb rfl (vv (.bool true)) (fun w _=>gF true (eu _ _ w) (decide_eq_true (by omega))) (Rv.r [] rfl fun _=>Rv.cb rfl (vv (.bool true)) (fun w _=>gF true (eu _ _ w) (decide_eq_true (by omega))) (Rv.r [] rfl fun _=>fin fun w hS=>⟨by rw[decide_eq_true (by unfold bz;omega)];rfl,hS.now.2⟩)))
  ·exact Rv.r [0] rfl fun _=>fin fun w hS=>⟨by rw[decide_eq_false (by unfold bz;omega)];rfl,hS.now.2⟩
  ·exact Rv.r [1,0] rfl fun _=>fin fun w hS=>⟨by rw[decide_eq_false (by unfold bz;omega)];rfl,hS.now.2⟩
  ·exact Rv.r [1,1] rfl fun _=>Rv.cb rfl (vv (.bool false)) (fun w _=>gF false (eu _ _ w) (decide_eq_false (by omega))) (Rv.r [] rfl fun _=>fin fun w hS=>⟨by rw[decide_eq_false (by unfold bz;omega)];rfl,hS.now.2⟩)
  ·exact Rv.r [1,1] rfl fun _=>Rv.cb rfl (vv (.bool true)) (fun w _=>gF true (eu _ _ w) (decide_eq_true (by omega))) (Rv.r [] rfl fun _=>Rv.cb rfl (vv (.bool false)) (fun w _=>gF false (eu _ _ w) (decide_eq_false (by omega))) (Rv.r [] rfl fun _=>fin fun w hS=>⟨by rw[decide_eq_false (by unfold bz;omega)];rfl,hS.now.2⟩))
  ·exact Rv.r [1,1] rfl fun _=>Rv.cb rfl (vv (.bool true)) (fun w _=>gF true (eu _ _ w) (decide_eq_true (by omega))) (Rv.r [] rfl fun _=>Rv.cb rfl (vv (.bool true)) (fun w _=>gF true (eu _ _ w) (decide_eq_true (by omega))) (Rv.r [] rfl fun _=>Rv.cb rfl (vv (.bool false)) (fun w _=>gF false (eu _ _ w) (decide_eq_false (by omega))) (Rv.r [] rfl fun _=>fin fun w hS=>⟨by rw[decide_eq_false (by unfold bz;omega)];rfl,hS.now.2⟩)))
end
theorem pd{W:tF}{Z:Nat}{ep nx gv:Int}{r l:tN}{ws:tH}{er:Int}{tmps:tR}(q:aV W Z ep nx gv r l ws)(t2:tmps[2]? =some (.pointer (some ⟨Z,0,none⟩)))(t3:tmps[3]? =some (iV er)):
  (results Tryz.f201 tmps).run Tryz.prog W= .ok (.tuple #[iI ep nx gv r l ws,iV er]) W:=by
 have h1:=run_loadVar_row (P:=Tryz.prog) W Z 80 80 _ (0,0) _ q Tryz.underlying80 rfl (by rw[cV];exact Tryz.K6);simp[results,Tryz.results201,t2,t3,asAddr,h1]
theorem Lo{w W1:tF}{r e f t o:Int}{a:tG}{n c:Nat}(z1:aV W1 (w.alloc (.cells (du r e f t o a n c) 49)).heap.size 0 0 0 (.slice none 0 0) (.slice none 0 0) eT)
  (b1:Below (w.alloc (.cells (du r e f t o a n c) 49)).heap.size (w.alloc (.cells (du r e f t o a n c) 49)) W1):
  aG W1 w.heap.size r e f t o a n c∧aV W1 (w.heap.size+1) 0 0 0 (.slice none 0 0) (.slice none 0 0) eT∧bZ w W1:=by
 rw[show(w.alloc (.cells (du r e f t o a n c) 49)).heap.size=w.heap.size+1 by simp]at z1;exact⟨(aG.new w r e f t o a n c).next b1,z1,Below.next (aB _ _) b1⟩
theorem wC.zero(w w':tF):wC w w' St.zero (iI 0 0 0 (.slice none 0 0) (.slice none 0 0) eT):=⟨none,0,none,0,eT,rfl,RowK.nil _ _ _,RowK.nil _ _ _,Nat.le_refl _,Nat.le_refl _,fun _=>rfl,fun _=>rfl,jK,fun x hx=>(by cases hx),fun x hx=>(by cases hx)⟩
inductive Rb(B:Bt):St→Int→Prop
 |yes {s:St} (ok:B.Ok) (bw:List An) (ht:bp B.es s bw):Rb B s 0
 |no (h:¬B.Ok):Rb B St.zero 6
theorem vh(B:Bt)(a:tG)(c:Nat)(w:tF)(hb:ja w B a c):
  cA 201 #[bQ B.r B.e B.f B.t B.o a B.es.length c] w fun x w'=>∃y er s,x= .returned (.tuple #[y,iV er])∧Rb B s er∧wC w w' s y∧bZ w w':=by
 have HM:=fun w=>Eh B.r B.e B.f B.t B.o a B.es.length c w;have HR:Hid (∀W,bZ w W→cA 27 #[.slice a B.es.length c] W fun e w'=>∃x er s,e= .returned (.tuple #[x,iV er])∧Rv B.es s er∧wC W w' s x∧bZ W w'):=ai fun W b=>sR B.es a c W (hb.row.below b);clear hb;by_cases hs:bz B.r B.e B.f B.t B.o B.es.length
 case neg=>
  rw[decide_eq_false hs]at HM;go_enter Tryz.func201,Tryz.ntmps201
  go_wp2_with (first
   |(refine uS 2 rfl rfl rfl ?_;intro W1 z1 b1;obtain⟨k1,y1,B1⟩:=Lo z1 b1;obtain⟨x0,x1,x2,x3,x4,x5⟩:=k1.cells;have HY:=ai y1;have HB:=ai B1;clear z1 b1 k1 y1 B1)
   |(go_at_call 235;refine(HM _).mono ?_;rintro x W2 ⟨rfl,b2⟩;clear HM x0 x1 x2 x3 x4 x5;have z2:=(aa HY).next b2;have th:=ai (Below.next (aa HB) b2);clear HY HB b2)
   |(refine zN rfl rfl ?_)
   |(refine oZ (ra:=none) (la:=none) (rn:=0) (rc:=0) (ln:=0) (lc:=0) (ws':=eT) _ _ rfl rfl rfl rfl z2 jK ?_;intro W4 q4 t4;have HQ4:=ai q4;have Cp:=ai t4;clear q4 t4))
  exact bodyPost_ret (pd (aa HQ4) rfl rfl) rfl ⟨_,6,St.zero,rfl,.no (fun ok=>hs ok.cM),wC.zero _ _,(aa Cp).under (aa th) (by omega)⟩
 case pos=>
 rw[decide_eq_true hs]at HM;go_enter Tryz.func201,Tryz.ntmps201
 go_upto_region 4 with(first
  |(refine uS 2 rfl rfl rfl ?_;intro W1 z1 b1;obtain⟨k1,y1,B1⟩:=Lo z1 b1;obtain⟨x0,x1,x2,x3,x4,x5⟩:=k1.cells;have HK:=ai k1;have HY:=ai y1;have HB:=ai B1;clear z1 b1 k1 y1 B1)
  |(go_at_call 235;refine(HM _).mono ?_;rintro x W2 ⟨rfl,b2⟩;clear HM x0 x1 x2 x3 x4 x5;obtain⟨x0,x1,x2,x3,x4,x5⟩:=((aa HK).next b2).cells;have HY2:=ai ((aa HY).next b2);have B2:=Below.next (aa HB) b2;have hR:=aa HR W2 B2;have th:=ai B2;clear HY HB HR HK b2 B2)
  |(go_at_call 27;refine hR.mono ?_;rintro x W3 ⟨y,er,s,rfl,rv,⟨⟨a1',c1',a2',c2',ws',rfl,r1,r2,l1',l2',n1,n2,E0,f1,f2⟩⟩,b3⟩;have HV:=ai rv;have HY3:=ai ((aa HY2).next b3);have Bb:=ai (Below.next (aa th) b3);have hw2:=(aa th).size;have wj:w.heap.size+1<W2.heap.size:=(aa HY2).lt;clear hR rv HY2 x0 x1 x2 x3 x4 x5)
  |(refine uS 4 rfl rfl rfl ?_;intro W4 z4 b4)
  |(refine oZ (ra:=a1') (la:=a2') (ws':=ws') _ _ rfl rfl rfl rfl z4 E0 ?_;intro W5 q5 t5;have b5:=t5.under b4 (Nat.le_refl _);have HR1:=ai (r1.below b5);have Y4:=ai (r2.below b5);have y5:=(aa HY3).next b5;have aW:=(aa HY3).lt;have Ve:=ai (Below.next (aa Bb) b5);clear z4 b4 t5 b5 HY3 Bb r1 r2))
 have fJ:w.heap.size+1≠W3.heap.size:=by omega
 by_cases h0:er=0
 ·subst h0
  go_wp2_with (first
   |(refine DT _ rfl rfl rfl q5 ?_)
   |(refine oZ (ra:=a1') (la:=a2') (ws':=ws') _ _ rfl rfl rfl rfl y5 E0 ?_;intro W6 q6 t6;have HQ6:=ai q6;have HT6:=ai t6;clear q6 t6))
  have t6:=aa HT6;have ok:=((aa HV).ok hs).1 rfl;obtain⟨s',bw,ht⟩:=ok.told;obtain⟨rfl,_⟩:=(aa HV).one (.told bw ok.len ht);have Vw:=(aa th).size;have iY:w.heap.size≤W2.heap.size:=Vw;exact bodyPost_ret (pd (aa HQ6) rfl rfl) rfl ⟨_,0,s,rfl,.yes ok bw ht,⟨a1',c1',a2',c2',ws',rfl,t6.row (aa HR1) (fun x hx _=>by have:=f1 x hx;omega),t6.row (aa Y4) (fun x hx _=>by have:=f2 x hx;omega),l1',l2',n1,n2,E0,fun x hx=>Nat.le_trans iY (f1 x hx),fun x hx=>Nat.le_trans iY (f2 x hx)⟩,t6.under (aa Ve) (by omega)⟩
 ·clear q5
  go_wp2_with (first
   |(refine zN rfl rfl ?_)
   |(refine oZ (ra:=none) (la:=none) (rn:=0) (rc:=0) (ln:=0) (lc:=0) (ws':=eT) _ _ rfl rfl rfl rfl y5 jK ?_;intro W6 q6 t6;have HQ6:=ai q6;have HT6:=ai t6;clear q6 t6))
  exact bodyPost_ret (pd (aa HQ6) rfl rfl) rfl ⟨_,6,St.zero,rfl,.no (fun ok=>h0 (((aa HV).ok hs).2 ok)),wC.zero _ _,(aa HT6).under (aa Ve) (by omega)⟩
theorem zT(B:Bt)(a:tG)(c:Nat)(w:tF)(hb:ja w B a c):
  cA 176 #[bQ B.r B.e B.f B.t B.o a B.es.length c] w fun x w'=>∃er,x= .returned (iV er)∧((er=0∧B.Ok)∨(er=6∧¬B.Ok))∧bZ w w':=by
 have HR:Hid (∀W,bZ w W→cA 201 #[bQ B.r B.e B.f B.t B.o a B.es.length c] W fun x w'=>∃y er s,x= .returned (.tuple #[y,iV er])∧Rb B s er∧wC W w' s y∧bZ W w'):=ai fun W b=>vh B a c W (hb.next b);clear hb;go_enter Tryz.func176,Tryz.ntmps176
 go_wp2_with (first
  |(go_at_call 201;refine(aa HR _ (aB _ _)).mono ?_;rintro x W3 ⟨y,er,s,rfl,rv,⟨⟨a1',c1',a2',c2',ws',rfl,r1,r2,l1',l2',n1,n2,E0,f1,f2⟩⟩,b3⟩;have HV:=ai rv;have Bb:=ai (Below.next (aB _ _) b3);clear rv b3)
  |(refine uS 3 rfl rfl rfl ?_;intro W4 z4 b4)
  |(refine oZ (ra:=a1') (la:=a2') (ws':=ws') _ _ rfl rfl rfl rfl z4 E0 ?_;intro W5 q5 t5;have Ve:=ai (Below.next (aa Bb) (t5.under b4 (Nat.le_refl _)));clear q5 t5 z4 b4))
 go_ret;refine⟨er,rfl, ?_,aa Ve⟩;cases aa HV with
 |yes ok=>exact .inl ⟨rfl,ok⟩
 |no h=>exact .inr ⟨rfl,h⟩
theorem gH(B:Bt)(a:tG)(c:Nat)(w:tF)(hb:ja w B a c)(ok:B.Ok):
  cA 176 #[bQ B.r B.e B.f B.t B.o a B.es.length c] w (rB (iV 0) w):=by
 refine(zT B a c w hb).mono ?_;rintro x w' ⟨er,rfl,⟨rfl,_⟩|⟨_,h⟩,b⟩
 ·exact⟨rfl,b⟩
 ·exact absurd ok h
theorem j7(B:Bt)(a:tG)(c:Nat)(w:tF)(hb:ja w B a c)(ok:¬B.Ok):
  cA 176 #[bQ B.r B.e B.f B.t B.o a B.es.length c] w (rB (iV 6) w):=by
 refine(zT B a c w hb).mono ?_;rintro x w' ⟨er,rfl,⟨_,h⟩|⟨rfl,_⟩,b⟩
 ·exact absurd h ok
 ·exact⟨rfl,b⟩
structure Mb(w wx:tF)(B:Bt)(a:tG)(c:Nat):Prop where
 b:aG wx w.heap.size B.r B.e B.f B.t B.o a B.es.length c
 z:aG wx (w.heap.size+1) 0 0 0 0 0 none 0 0
 dC:bZ w wx
theorem Mb.next{w wx wy:tF}{B:Bt}{a:tG}{c:Nat}(h:Mb w wx B a c)(b:bZ wx wy):Mb w wy B a c:=⟨h.b.next b,h.z.next b,Below.next h.dC b⟩
theorem Mb.made(w:tF)(B:Bt)(a:tG)(c:Nat):∃W,W=(w.alloc (.cells (du B.r B.e B.f B.t B.o a B.es.length c) 49)).alloc (.cells (du 0 0 0 0 0 none 0 0) 49)∧Mb w W B a c:=by
 refine⟨_,rfl,(aG.new w _ _ _ _ _ _ _ _).next (aB _ _), ?_,mw _ _ _⟩;have h0:=aG.new (w.alloc (.cells (du B.r B.e B.f B.t B.o a B.es.length c) 49)) 0 0 0 0 0 none 0 0;rw[show(w.alloc (.cells (du B.r B.e B.f B.t B.o a B.es.length c) 49)).heap.size=w.heap.size+1 by simp]at h0;exact h0
theorem Nn{W:tF}{R:Nat}{r e f t o:Int}{a:tG}{n c:Nat}{tmps:tR}(d:aG W R r e f t o a n c)(t4:tmps[4]? =some (.pointer (some ⟨R,0,none⟩))):
  (results Tryz.f186 tmps).run Tryz.prog W= .ok (bQ r e f t o a n c) W:=by
 simp[results,Tryz.results186,t4,asAddr,ew d]
theorem se(A B:List Ev):ak (A++B)=ak A++ak B:=by simp[ak]
theorem Cr(B:Bt)(a:tG)(c:Nat)(l:List Ev)(b:tG)(lb cb:Nat)(w:tF)(hb:ja w B a c)(hl:l.length=lb)(hr:RowK .i64 w b (6*lb) (ak l))(nb:b=none→cb=0)(hs:B.es.length+lb≤1000000):
  cA 186 #[bQ B.r B.e B.f B.t B.o a B.es.length c,.slice b lb cb] w fun x w'=>∃y,x= .returned y∧iz w w' (B.more l) y∧bZ w w':=by
 have HC:Hid (∀W,bZ w W→cA 212 #[.slice a B.es.length c,.slice b lb cb] W fun e w'=>∃a' c',e= .returned (.slice a' (B.es.length+lb:Nat) c')∧RowK .i64 w' a' (6*(B.es.length+lb)) (ak B.es++ak l)∧B.es.length+lb≤c'∧(a'=none→c'=0)∧(∀x,a'=some x→W.heap.size≤x.block)∧bZ W w'):=ai fun W bb=>zR a b B.es.length c lb cb (ak B.es) (ak l) W (hb.row.below bb) (hr.below bb) hb.nil nb hs;clear hb hr;obtain⟨n,hn⟩:∃n,n=B.es.length+lb:=⟨_,rfl⟩;rw[←hn]at HC;have HN:=ai hn;clear hn;go_enter Tryz.func186,Tryz.ntmps186
 go_upto_region 1 with fail
 obtain⟨W1,hW1,M1⟩:=Mb.made w B a c;rw[←hW1];clear hW1;have h0:=M1.b.lt;have h1:=M1.z.lt;have hC:=aa HC W1 M1.dC;obtain⟨x0,x1,x2,x3,x4,x5⟩:=M1.b.cells;have HM:=ai M1;clear HC M1
 go_upto_region 2 with(go_at_call 212;refine hC.mono ?_;rintro x W2 ⟨a',c',rfl,r2,kz,n2,u2,b2⟩;have M2:=(aa HM).next b2;clear hC x0 x1 x2 x3 x4 x5;obtain⟨x0,x1,x2,x3,x4,x5⟩:=M2.b.cells;have xf:=M2.b.free;have Vx:=ai M2;have Y4:=ai r2;have HU2:=ai u2;have hs2:=b2.size;clear M2 r2 u2 b2 HM)
 have M2:=aa Vx;obtain⟨W3,hW3,k3,t3⟩:∃W3,W3=W2.setCell ⟨w.heap.size,5,none⟩ (.slice a' n c')∧aG W3 w.heap.size B.r B.e B.f B.t B.o a' n c'∧av w.heap.size W2 W3:=by
  refine⟨_,rfl, ?_,av.set _ _ _ _⟩;have:=M2.b;unfold aG at this⊢;rw[cy this];simp
 rw[←hW3];clear hW3;have z3:=M2.z.dG t3 (by omega);have B3:=t3.under M2.dC (Nat.le_refl _);have r3:=t3.row (aa Y4) (fun x hx _=>by have:=aa HU2 x hx;omega);obtain⟨y0,y1,y2,y3,y4,y5⟩:=k3.cells;obtain⟨z0,z1,z2,z33,z4,z5⟩:=z3.cells;have zf:=z3.free;have HZ3:=ai z3;have Bb:=ai B3;have pT:=ai r3;clear x0 x1 x2 x3 x4 x5 xf M2 z3 B3 r3 k3 t3;go_wp2;obtain⟨W4,hW4,d4,b4,t4⟩:=dF (aa HZ3) (aa Bb) (show w.heap.size≤w.heap.size+1 by omega) B.r B.e B.f B.t B.o a' n c';rw[←hW4];have fJ:(B.more l).es.length=n:=by rw[aa HN];simp[Bt.more,hl]
 refine bodyPost_ret (Nn d4 rfl) rfl ⟨_,rfl,⟨a',c', ?_,⟨?_, ?_,n2⟩,fun x hx=> ?_⟩,b4⟩
 ·rw[fJ];rfl
 ·rw[fJ];show RowK .i64 W4 a' (6*n) (ak (B.es++l));rw[se];exact t4.row (aa pT) (fun x hx _=>by have:=aa HU2 x hx;omega)
 ·rw[fJ];exact kz
 ·have:=aa HU2 x hx;omega
theorem Bt.qJ(B:Bt):B.more []=B:=by simp[Bt.more]
theorem sS(B:Bt)(a:tG)(c:Nat)(w:tF)(hb:ja w B a c)(hs:B.es.length≤2000):
  cA 186 #[bQ B.r B.e B.f B.t B.o a B.es.length c,.slice none 0 0] w fun x w'=>∃y,x= .returned y∧iz w w' B y∧bZ w w':=by
 have:=Cr B a c [] none 0 0 w hb rfl (RowK.nil _ _ _) (fun _=>rfl) (by omega);rw[Bt.qJ]at this;exact this
section
open Rv
theorem Gy{w:tF}{B:Bt}{a:tG}{c:Nat}(hb:ja w B a c):Mem w (hs []) (fun _=>False) (fun w=>ja w B a c) (fun w'=>bZ w w'):=Mem.start (fun _ h=>h.elim) (fun w' c=>hb.next (c.below (Nat.le_refl _) fun _ _ h=>h)) fun _ h=>h
abbrev bY(B:Bt)(n:Nat)(y:Option Addr×Nat):SV:= .g (bS B.r B.e B.f B.t B.o y.1 n y.2)
abbrev Ei:SV:= .g (bS 0 0 0 0 0 none 0 0)
abbrev xX(w0:tF)(y:Option Addr×Nat):Prop:=∀x,y.1=some x→w0.heap.size≤x.block
theorem Ls{w0 w w':tF}{B:Bt}{x:Ending}(h0:bZ w0 w)(h:∃y,x= .returned y∧iz w w' B y∧bZ w w'):∃y:Option Addr×Nat,x= .returned (bY B B.es.length y).val∧bZ w w'∧xX w0 y∧∀{U:tI},(∀b,U b→b<w.heap.size)→bU U w' fun w=>ja w B y.1 y.2:=by
 obtain⟨_,rfl,ho,b⟩:=h;obtain⟨a,c,rfl,hb,hf⟩:=ho.ex;exact⟨(a,c),rfl,b,fun x hx=>Nat.le_trans h0.size (hf x hx),fun {U} hU w2 c2=>⟨cD hb.row hf hU w2 c2,hb.cap,hb.nil⟩⟩
theorem Np(B:Bt)(a:tG)(c:Nat)(ep:Int)(w:tF)(hb:ja w B a c):cA 131 #[bQ B.r B.e B.f B.t B.o a B.es.length c,iV ep] w fun x w'=>∃y B' er,x= .returned (.tuple #[y,iV er])∧gP B ep=(B',er)∧iz w w' B' y∧bZ w w':=by
 have no:=fun er w=>mD er w;refine en (H:=[]) _ [vg (bS B.r B.e B.f B.t B.o a B.es.length c),vi ep] Tryz.func131 rfl rfl (Gy hb) (r [] rfl fun _=> ?_);unfold gP;by_cases ok:B.Ok
 case neg=>exact Rv.cb rfl (vi 6) (fun w hS=>j7 B a c w hS.now.1 ok) (r [1] rfl fun _=>Rv.cb rfl (vt [Ei,.o (iV 6)]) (fun w _=>no 6 w) (r [] rfl fun _=>fin fun w hS=>⟨_,_,_,rfl,if_pos ok,iz.zero _ _,hS.now.2⟩))
 rw[if_neg (not_not_intro ok)];refine Rv.cb rfl (vi 0) (fun w hS=>gH B a c w hS.now.1 ok) (r [0] rfl fun _=> ?_);by_cases h1:1≤ep∧ep≤1048576
 case neg=>exact Rv.cb rfl (vv (.bool false)) (fun w _=>gF false (kD ep w) (decide_eq_false h1)) (r [] rfl fun _=>Rv.cb rfl (vt [Ei,.o (iV 2)]) (fun w _=>no 2 w) (r [] rfl fun _=>fin fun w hS=>⟨_,_,_,rfl,if_pos h1,iz.zero _ _,hS.now.2⟩))
 rw[if_neg (not_not_intro h1)];refine Rv.cb rfl (vv (.bool true)) (fun w _=>gF true (kD ep w) (decide_eq_true h1)) ?_;by_cases h2:B.r=0
 case neg=>exact r [1] rfl fun _=>Rv.cb rfl (vt [Ei,.o (iV 8)]) (fun w _=>no 8 w) (r [] rfl fun _=>fin fun w hS=>⟨_,_,_,rfl,if_pos h2,iz.zero _ _,hS.now.2⟩)
 rw[if_neg (not_not_intro h2)];by_cases h3:ep≤B.e
 case pos=>exact r [0,1] rfl fun _=>Rv.cb rfl (vt [Ei,.o (iV 15)]) (fun w _=>no 15 w) (r [] rfl fun _=>fin fun w hS=>⟨_,_,_,rfl,if_pos h3,iz.zero _ _,hS.now.2⟩)
 rw[if_neg h3];exact r [0,0] rfl fun _=>fin fun w hS=>⟨_,_,_,rfl,rfl,⟨none,0,rfl,⟨RowK.nil _ _ _,Nat.le_refl _,fun _=>rfl⟩,fun x hx=>by cases hx⟩,hS.now.2⟩
theorem Gz(B:Bt)(a:tG)(c:Nat)(ep:Int)(w:tF)(hb:ja w B a c):cA 173 #[bQ B.r B.e B.f B.t B.o a B.es.length c,iV ep] w fun x w'=>∃y B' er,x= .returned (.tuple #[y,iV er])∧bG B ep=(B',er)∧iz w w' B' y∧bZ w w':=by
 have no:=fun er w=>mD er w;refine en (H:=[]) _ [vg (bS B.r B.e B.f B.t B.o a B.es.length c),vi ep] Tryz.func173 rfl rfl (Gy hb) (r [] rfl fun _=> ?_);unfold bG;by_cases ok:B.Ok
 case neg=>exact Rv.cb rfl (vi 6) (fun w hS=>j7 B a c w hS.now.1 ok) (r [1] rfl fun _=>Rv.cb rfl (vt [Ei,.o (iV 6)]) (fun w _=>no 6 w) (r [] rfl fun _=>fin fun w hS=>⟨_,_,_,rfl,if_pos ok,iz.zero _ _,hS.now.2⟩))
 rw[if_neg (not_not_intro ok)];refine Rv.cb rfl (vi 0) (fun w hS=>gH B a c w hS.now.1 ok) ?_;by_cases h2:B.r=3
 case neg=>exact r [0,1] rfl fun _=>Rv.cb rfl (vt [Ei,.o (iV 7)]) (fun w _=>no 7 w) (r [] rfl fun _=>fin fun w hS=>⟨_,_,_,rfl,if_pos h2,iz.zero _ _,hS.now.2⟩)
 rw[if_neg (not_not_intro h2)];by_cases h3:ep≤B.e
 case pos=>exact r [0,0,1] rfl fun _=>Rv.cb rfl (vt [Ei,.o (iV 15)]) (fun w _=>no 15 w) (r [] rfl fun _=>fin fun w hS=>⟨_,_,_,rfl,if_pos h3,iz.zero _ _,hS.now.2⟩)
 rw[if_neg h3];exact r [0,0,0] rfl fun _=>fin fun w hS=>⟨_,_,_,rfl,rfl,⟨none,0,rfl,⟨RowK.nil _ _ _,Nat.le_refl _,fun _=>rfl⟩,fun x hx=>by cases hx⟩,hS.now.2⟩
theorem Vy(B:Bt)(a:tG)(c:Nat)(nd:Int)(w:tF)(hb:ja w B a c):cA 142 #[bQ B.r B.e B.f B.t B.o a B.es.length c,iV nd] w fun x w'=>∃y B' er,x= .returned (.tuple #[y,iV er])∧dR B nd=(B',er)∧iz w w' B' y∧bZ w w':=by
 have no:=fun er w=>mD er w;refine en (H:=[]) _ [vg (bS B.r B.e B.f B.t B.o a B.es.length c),vi nd] Tryz.func142 rfl rfl (Gy hb) (r [] rfl fun _=> ?_);unfold dR;by_cases ok:B.Ok
 case neg=>exact Rv.cb rfl (vi 6) (fun w hS=>j7 B a c w hS.now.1 ok) (r [1] rfl fun _=>Rv.cb rfl (vt [Ei,.o (iV 6)]) (fun w _=>no 6 w) (r [] rfl fun _=>fin fun w hS=>⟨_,_,_,rfl,if_pos ok,iz.zero _ _,hS.now.2⟩))
 rw[if_neg (not_not_intro ok)];refine Rv.cb rfl (vi 0) (fun w hS=>gH B a c w hS.now.1 ok) (r [0] rfl fun _=> ?_);by_cases h1:0≤nd∧nd≤4
 case neg=>exact Rv.cb rfl (vv (.bool false)) (fun w _=>gF false (gL nd w) (decide_eq_false h1)) (r [] rfl fun _=>Rv.cb rfl (vt [Ei,.o (iV 2)]) (fun w _=>no 2 w) (r [] rfl fun _=>fin fun w hS=>⟨_,_,_,rfl,if_pos h1,iz.zero _ _,hS.now.2⟩))
 rw[if_neg (not_not_intro h1)];refine Rv.cb rfl (vv (.bool true)) (fun w _=>gF true (gL nd w) (decide_eq_true h1)) (r [] rfl fun _=> ?_);by_cases h2:B.r=2∨B.r=3
 case pos=>exact Rv.cb rfl (vv (.bool true)) (fun w _=>nh true (lR B.r B.e B.f B.t B.o a B.es.length c w) (decide_eq_true h2)) (r [] rfl fun _=>Rv.cb rfl (vt [Ei,.o (iV 12)]) (fun w _=>no 12 w) (r [] rfl fun _=>fin fun w hS=>⟨_,_,_,rfl,if_pos h2,iz.zero _ _,hS.now.2⟩))
 rw[if_neg h2];refine Rv.cb rfl (vv (.bool false)) (fun w _=>nh false (lR B.r B.e B.f B.t B.o a B.es.length c w) (decide_eq_false h2)) ?_;by_cases h3:B.r=1
 case neg=>exact r [1] rfl fun _=>Rv.cb rfl (vt [Ei,.o (iV 7)]) (fun w _=>no 7 w) (r [] rfl fun _=>fin fun w hS=>⟨_,_,_,rfl,if_pos h3,iz.zero _ _,hS.now.2⟩)
 rw[if_neg (not_not_intro h3)];by_cases h4:B.e=1048576
 case pos=>exact r [0,1] rfl fun _=>Rv.cb rfl (vt [Ei,.o (iV 14)]) (fun w _=>no 14 w) (r [] rfl fun _=>fin fun w hS=>⟨_,_,_,rfl,if_pos h4,iz.zero _ _,hS.now.2⟩)
 rw[if_neg h4];refine r [0,0] rfl fun _=>Rv.cx rfl (fun y=> .s (bY ⟨2,B.e,B.f,nd,B.o,B.es⟩ B.es.length y)) (xX w) (fun y w=>ja w ⟨2,B.e,B.f,nd,B.o,B.es⟩ y.1 y.2) (fun w1 hS=>(sS ⟨2,B.e,B.f,nd,B.o,B.es⟩ a c w1 ⟨hS.now.1.row,hS.now.1.cap,hS.now.1.nil⟩ ok.len).mono fun _ _ h=>by obtain⟨y,h1,h2,h3,h4⟩:=Ls hS.now.2 h;exact⟨y,h1,h2,h3,h4⟩) fun y hy=> ?_;exact r [] rfl fun _=>fin fun w hS=>⟨_,_,_,rfl,rfl,⟨y.1,y.2,rfl,hS.now.1.2,hy⟩,hS.now.2⟩
theorem xC(B:Bt)(a:tG)(c:Nat)(hv:Int)(w:tF)(hb:ja w B a c):cA 206 #[bQ B.r B.e B.f B.t B.o a B.es.length c,iV hv] w (rB (iV (dq B hv)) w):=by
 refine en (H:=[]) _ [vg (bS B.r B.e B.f B.t B.o a B.es.length c),vi hv] Tryz.func206 rfl rfl (Gy hb) (r [] rfl fun _=> ?_);unfold dq;by_cases ok:B.Ok
 case neg=>exact Rv.cb rfl (vi 6) (fun w hS=>j7 B a c w hS.now.1 ok) (r [1] rfl fun _=>fin fun w hS=>⟨by rw[if_pos ok];rfl,hS.now.2⟩)
 rw[if_neg (not_not_intro ok)];refine Rv.cb rfl (vi 0) (fun w hS=>gH B a c w hS.now.1 ok) (r [0] rfl fun _=> ?_);by_cases h2:B.r=2∨B.r=3
 case neg=>exact Rv.cb rfl (vv (.bool false)) (fun w _=>nh false (lR B.r B.e B.f B.t B.o a B.es.length c w) (decide_eq_false h2)) (r [] rfl fun _=>fin fun w hS=>⟨by rw[if_pos h2];rfl,hS.now.2⟩)
 rw[if_neg (not_not_intro h2)];refine Rv.cb rfl (vv (.bool true)) (fun w _=>nh true (lR B.r B.e B.f B.t B.o a B.es.length c w) (decide_eq_true h2)) (r [] rfl fun _=> ?_);by_cases h3:0≤hv∧hv≤B.es.length
 case neg=>exact Rv.cb rfl (vv (.bool false)) (fun w _=>gF false (eu hv B.es.length w) (decide_eq_false h3)) (r [] rfl fun _=>fin fun w hS=>⟨by rw[if_pos h3];rfl,hS.now.2⟩)
 rw[if_neg (not_not_intro h3)];exact Rv.cb rfl (vv (.bool true)) (fun w _=>gF true (eu hv B.es.length w) (decide_eq_true h3)) (r [] rfl fun _=>fin fun w hS=>⟨rfl,hS.now.2⟩)
theorem Ct{B:Bt}{hv:Int}(h:dq B hv=0):B.Ok∧(B.r=2∨B.r=3)∧0≤hv∧hv≤B.es.length:=by
 unfold dq at h;by_cases ok:B.Ok
 ·rw[if_neg (fun h=>h ok)]at h;by_cases h1:B.r=2∨B.r=3
  ·rw[if_neg (fun h=>h h1)]at h;by_cases h2:0≤hv∧hv≤B.es.length
   ·exact⟨ok,h1,h2⟩
   ·rw[if_pos h2]at h;omega
  ·rw[if_pos h1]at h;omega
 ·rw[if_pos ok]at h;omega
theorem Vz{B:Bt}(h:B.cC):0≤B.o∧B.o≤4:=by
 unfold Bt.cC bz at h;rcases h with h|h|h|h|h<;>omega
theorem GA(B:Bt)(a:tG)(c:Nat)(hv:Int)(w:tF)(hb:ja w B a c):cA 166 #[bQ B.r B.e B.f B.t B.o a B.es.length c,iV hv] w fun x w'=>∃y B' er,x= .returned (.tuple #[y,iV er])∧bh B hv=(B',er)∧iz w w' B' y∧bZ w w':=by
 have w0:∀(B':Bt) w1,bZ w w1→ja w1 B a c→B'.es=B.es→B.es.length≤2000→cA 186 #[bQ B'.r B'.e B'.f B'.t B'.o a B.es.length c,.slice none 0 0] w1 fun x w'=>∃y:Option Addr×Nat,x= .returned (bY B' B.es.length y).val∧bZ w1 w'∧xX w y∧∀{U:tI},(∀b,U b→b<w1.heap.size)→bU U w' fun w=>ja w B' y.1 y.2:=fun B' w1 h0 hb e hl=>by
  have:=(sS B' a c w1 ⟨by rw[e];exact hb.row,by rw[e];exact hb.cap,hb.nil⟩ (by rw[e];exact hl)).mono fun _ _ h=>Ls h0 h;rw[e]at this;exact this
 refine en (H:=[]) _ [vg (bS B.r B.e B.f B.t B.o a B.es.length c),vi hv] Tryz.func166 rfl rfl (Gy hb) (r [] rfl fun _=>Rv.cb rfl (vi (dq B hv)) (fun w hS=>xC B a c hv w hS.now.1) ?_);unfold bh;by_cases h0:dq B hv=0
 case neg=>exact r [1] rfl fun _=>Rv.cb rfl (vt [Ei,.o (iV (dq B hv))]) (fun w _=>mD _ w) (r [] rfl fun _=>fin fun w hS=>⟨_,_,_,rfl,if_pos h0,iz.zero _ _,hS.now.2⟩)
 rw[if_neg (not_not_intro h0)];obtain⟨ok,hr,hv0,MM⟩:=Ct h0;have hl:=ok.len;by_cases h3:B.r=3
 ·rw[if_pos h3];refine r [0,1] rfl fun _=>Rv.cx rfl (fun y=> .s (bY B B.es.length y)) (xX w) (fun y w=>ja w B y.1 y.2) (fun w1 hS=>(w0 B w1 hS.now.2 hS.now.1 rfl hl).mono fun _ _ ⟨y,k1,k2,k3,k4⟩=>⟨y,k1,k2,k3,k4⟩) fun y hy=> ?_;exact r [] rfl fun _=>fin fun w hS=>⟨_,_,_,rfl,rfl,⟨y.1,y.2,rfl,hS.now.1.2,hy⟩,hS.now.2⟩
 rw[if_neg h3];by_cases h4:hv=B.es.length∨B.o=4
 ·rw[if_pos h4];have fi:∀{P:Prop},(hv=B.es.length→P)→(¬hv=B.es.length→B.o=4→P)→P:=fun f g=>by
   by_cases e:hv=B.es.length
   ·exact f e
   ·exact g e (h4.resolve_left e)
  refine fi (fun e=> ?_) fun e e4=> ?_
  case' refine_1=>refine r [0,0,1] rfl fun _=> ?_
  case' refine_2=>refine r [0,0,0,1] rfl fun _=> ?_
  all_goals
   refine Rv.cx rfl (fun y=> .s (bY ⟨3,B.e,B.f,B.t,0,B.es⟩ B.es.length y)) (xX w) (fun y w=>ja w ⟨3,B.e,B.f,B.t,0,B.es⟩ y.1 y.2) (fun w1 hS=>(w0 ⟨3,B.e,B.f,B.t,0,B.es⟩ w1 hS.now.2 hS.now.1 rfl hl).mono fun _ _ ⟨y,k1,k2,k3,k4⟩=>⟨y,k1,k2,k3,k4⟩) fun y hy=> ?_;exact r [] rfl fun _=>fin fun w hS=>⟨_,_,_,rfl,rfl,⟨y.1,y.2,rfl,hS.now.1.2,hy⟩,hS.now.2⟩
 rw[if_neg h4];have ho:=Vz ok.cM;refine rz [0,0,0,0,1] [B.o+1] rfl fun _=>Rv.cx rfl (fun y=> .s (bY ⟨B.r,B.e,B.f,B.t,B.o+1,B.es⟩ B.es.length y)) (xX w) (fun y w=>ja w ⟨B.r,B.e,B.f,B.t,B.o+1,B.es⟩ y.1 y.2) (fun w1 hS=>(w0 ⟨B.r,B.e,B.f,B.t,B.o+1,B.es⟩ w1 hS.now.2 hS.now.1 rfl hl).mono fun _ _ ⟨y,k1,k2,k3,k4⟩=>⟨y,k1,k2,k3,k4⟩) fun y hy=> ?_;exact r [] rfl fun _=>fin fun w hS=>⟨_,_,_,rfl,rfl,⟨y.1,y.2,rfl,hS.now.1.2,hy⟩,hS.now.2⟩
end
end Go.Proofs.YtmhifeahpnkpiaaGreatDoor
