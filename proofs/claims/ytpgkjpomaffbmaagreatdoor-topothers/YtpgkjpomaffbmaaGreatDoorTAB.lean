/- Out of my texts: QuH, QuN, QuP, QuQ, QuR, WdC, WdD, WdE, QuT, QuV, QuU, QuW, QuM, QuX, QuY, PkC, QvA, QvD, QkA, RvL, QvB, QvC, HsA, QkB, QvE, QrA, RvP, MoL, MoB, MoC, QkC, QkG, QkD, PkO, QkE, HsB, HsC, HsD, HsE, QkH, BeA, BeB, MoA, MoD, MoE, GnC, MoF, MoG, MpA, MpB, BeC, BeD, BeE. -/
import Derived.Deep.CutRange
import Derived.Deep.DeepCutAuto
import Derived.Deep.QuietTactic
import Derived.Deep.RegionHeld3
import Derived.Deep.RegionLaw
import Derived.Deep.Slices
import Derived.Laws.CopyOwn
import Derived.OwnWalk
import Derived.Shelf.SlGeneric
import Derived.Shelf.SlSortCmp.NoneTotal
import Derived.Shelf.SlicesG.Cmp
import Derived.Shelf.SlicesQ.IndexFunc
import Derived.Shelf.Spec.SlicesGrow
import Derived.WideMake
import Derived.Test.YtpgkjpomaffbmaaGreatDoorProg
import Derived.Test.YtpgkjpomaffbmaaGreatDoorTAA
set_option maxRecDepth 20000
set_option maxHeartbeats 8000000
set_option linter.unusedVariables false
namespace Go.Proofs.YtpgkjpomaffbmaaGreatDoor
open Go.RowKit
abbrev AD:= @Decidable.not_not
abbrev AX:= @MapKept.run_checkKey
abbrev Bc:= @not_not_intro
abbrev Bl:= @List.mem_of_mem_drop
abbrev BA:= @World.ownsRow_nil
abbrev BC:= @List.take_length
abbrev BJ:= @Nat.le_succ
abbrev BL:= @Nat.not_le
abbrev Cl:= @Nat.eq_zero_or_pos
theorem Tryz.MC:(Tryz.prog.info? 278).map (fun i=>(i.zero,i.size,i.bytes))=some (some (.agg #[iV 0,iV 0]),2,16):=by kernel_rfl
theorem Tryz.vY:(Tryz.prog.info? 281).map (fun i=>(i.zero,i.size,i.bytes))=some (some (.agg #[iV 0,iV 0,iV 0,iV 0]),4,32):=by kernel_rfl
theorem Tryz.MD:(Tryz.prog.info? 112).map (·.size)=some 41:=by kernel_rfl
theorem YB{ws:tD}{wt:tH}{wz:Nat→Nat→Bool}(h:gP ws wt wz):∀v∈nK ws,v.oneCell'=true:=by
 intro v hv;simp only[nK,List.mem_map,List.mem_range]at hv;obtain⟨i,hi,rfl⟩:=hv;obtain⟨h0,h1⟩:=h (i/9) (by omega);rcases Cl (i % 9)with he|he
 ·rw[show i=9*(i/9) by omega,h0];rfl
 ·rw[show i=9*(i/9)+1+(i % 9-1) by omega,h1 _ (by omega)];rfl
theorem Kt{ep nx gv:Int}{ra la:tB}{rn rc ln lc:Nat}{ws:tD}{wt:tH}{wz:Nat→Nat→Bool}(h:gP ws wt wz):(ec ep nx gv (.slice ra rn rc) (.slice la ln lc) ws).all (·.oneCell')=true:=by
 refine all_oneCell_toArray ?_;intro v hv;simp only[lW,List.mem_cons]at hv;rcases hv with rfl|rfl|rfl|rfl|rfl|hv
 ·rfl
 ·rfl
 ·rfl
 ·rfl
 ·rfl
 ·exact YB h v hv
section
variable{w w':tA}{R:Nat}{ep nx gv:Int}{r l:tK}{ws:tD}
theorem aY.there(h:aY w R ep nx gv r l ws):w.there R 0 41:=fun j hj=>by
 refine⟨?_,h.free _⟩;rw[Aj,h.at,Ck (by rw[dg];exact hj)];rfl
theorem aY.stored(h:aY w R ep nx gv r l ws)(Oj Ol Om:Int)(r' l':tK)(ws':tD):aY (w.setCells R 0 (ec Oj Ol Om r' l' ws').toList) R Oj Ol Om r' l' ws':=by
 obtain⟨QL,h1,h2,h3⟩:=jH (R:=R) (ec Oj Ol Om r' l' ws').toList 0 w _ _ h (by simp[dg]);unfold aY;rw[h1];have:QL=ec Oj Ol Om r' l' ws':=by
  apply Ca;intro i;rw[h3];by_cases hi:i<41
  ·rw[Ae ⟨by omega,by simp[dg];omega⟩];simp
  ·rw[Aa (by simp[dg];omega),Bf (by rw[dg];omega),Bf (by rw[dg];omega)]
 rw[this]
theorem aY.ready(h:aY w R ep nx gv r l ws)(r':tK):aY (w.setCell ⟨R,3,none⟩ r') R ep nx gv r' l ws:=by
 have:=heap_set (o:=3) (v:=r') h;unfold aY;rw[this];rfl
theorem aY.zg(h:aY w R ep nx gv r l ws)(l':tK):aY (w.setCell ⟨R,4,none⟩ l') R ep nx gv r l' ws:=by
 have:=heap_set (o:=4) (v:=l') h;unfold aY;rw[this];rfl
theorem aB.queue{R':Nat}(h:aB R' w w')(q:aY w R ep nx gv r l ws)(hR:R≠R'):aY w' R ep nx gv r l ws:=by
 unfold aY at q⊢;rw[h.block R hR];exact q
theorem aB.own{base e size n:Nat}{v:tK}{xs:tM}(h:aB R w w')(o:w.ownsRow base e size v n xs)(hb:R<base):w'.ownsRow base e size v n xs:=by
 refine⟨o.1, ?_⟩;rcases o.2 with h2|⟨g,cap,cur,h1,h2,h3,h4⟩
 ·exact .inl h2
 ·exact .inr ⟨g,cap,cur,h1,h2,by rw[h.block g (by omega)];exact h3,h4⟩
theorem aB.row{k:IntKind}{a:tB}{len:Nat}{l:tG}(h:aB R w w')(hr:RowK k w a len l)(fR:∀x,a=some x→0<len→x.block≠R):RowK k w' a len l:=
 ⟨hr.bP,hr.wf,fun i hi=>by
  obtain⟨b,off,ha,aN,hc⟩:=hr.cell i hi
  exact⟨b,off,ha,by rw[h.size];exact aN,(Cq (w:=w) (h.block b (fR _ ha (by omega)))).trans hc⟩⟩
theorem ph{ops:tP}{rest:List Oper}{o:Oper}{a:Act}{Q:tI}{ra la:tB}{rn rc ln lc:Nat}{ws':tD}{Oj Ol Om:Int}{wt:tH}{wz:Nat→Nat→Bool}(x y:tU)(ho:o.op= .store 112 x y)(hw:Region.wanted o (yielded ops a.tmps)=true)(hx:a.eval x= .pointer (some ⟨R,0,none⟩))(hy:a.eval y=iH Oj Ol Om (.slice ra rn rc) (.slice la ln lc) ws')
  (qb:aY w R ep nx gv r l ws) (hW:gP ws' wt wz)
  (h:∀w',aY w' R Oj Ol Om (.slice ra rn rc) (.slice la ln lc) ws'→aB R w w'→wpList Tryz.prog ops Q rest (a.put o.dst undef) w'):wpList Tryz.prog ops Q (o::rest) a w:=
 Bz fun K hK=>by
  rw[Ae hw];exact wp_store_mid 112 x y ho R 0 _ hx hy (by rw[dg];exact qb.there) (by rw[dg];exact Tryz.MD) (Kt hW) (hK _ _ (h _ (qb.stored _ _ _ _ _ _) (aB.uu R _ 0 w)))
theorem RowK.eK{base e size n:Nat}{v:tK}{xs:tG}(h:w.ownsRow base e size v n (xs.map (Value.int .i64)))(hw:∀u∈xs,(Lit.int .i64 u).wf=true):
  ∃a cap,v= .slice a n cap∧RowK .i64 w a (size*n) xs∧n≤cap∧cap≤maxLen∧(a=none→cap=0)∧(∀x,a=some x→base≤x.block):=by
 have hl:xs.length=size*n:=by have:=h.1;rw[Nat.mul_comm];simpa using this
 rcases h.2 with⟨rfl,rfl⟩|⟨g,cap,cur,rfl,hb,hg,hc,hm,hs,ht⟩
 ·have:xs=[]:=List.length_eq_zero_iff.1 (by simpa using hl);subst this;exact⟨none,0,rfl,RowK.nil _ _ _,Ac _,by unfold maxLen;omega,fun _=>rfl,fun x hx=>by cases hx⟩
 ·refine⟨some ⟨g,0,none⟩,cap,rfl,⟨hl,hw,fun i hi=> ?_⟩,hc,hm,by simp,fun x hx=>by simp at hx;subst hx;exact hb⟩;have hci:=h.cellAt i (by rw[Bn];exact hi);have Kl:=(h.lt g rfl).2;refine⟨g,0,rfl,Kl, ?_⟩;rw[Aj,hci,Ax,Ai (by omega)];simp[List.getElem?_eq_getElem (show i<xs.length by omega)]
theorem jv{base e e' size ab6 n n':Nat}{v v':tK}{xs xs':tM}(h:w.ownsRow base e size v n xs)(h':w.ownsRow base e' ab6 v' n' xs')(he:e≠e'):∀g,v.ownBlock=some g→v'.ownBlock≠some g:=by
 intro g hg VU;rcases h.2 with⟨rfl,_⟩|⟨g1,cap,cur,rfl,_,h3,_⟩
 ·cases hg
 ·rcases h'.2 with⟨rfl,_⟩|⟨g2,bl,cur',rfl,_,h4,_⟩
  ·cases VU
  ·simp only[Value.ownBlock,Option.some.injEq]at hg VU;subst hg;rw[VU]at h4;rw[h3]at h4;simp only[Option.some.injEq,Obj.cells.injEq]at h4;exact he h4.2.1
theorem aJ{base e size n:Nat}{v:tK}{xs:tM}(h:w.ownsRow base e size v n xs)(hb:∀g,v.ownBlock=some g→g<w.heap.size→w'.heap[g]? =w.heap[g]?):w'.ownsRow base e size v n xs:=by
 refine⟨h.1, ?_⟩;rcases h.2 with h2|⟨g,cap,cur,rfl,h2,h3,h4⟩
 ·exact .inl h2
 ·exact .inr ⟨g,cap,cur,rfl,h2,by rw[hb g rfl (h.lt g rfl).2];exact h3,h4⟩
theorem mI{base e size n:Nat}{v:tK}{xs:tM}(h:w.ownsRow base e size v n xs):∃a cap,v= .slice a n cap:=by
 rcases h.2 with⟨rfl,rfl⟩|⟨g,cap,cur,rfl,_⟩
 ·exact⟨_,_,rfl⟩
 ·exact⟨_,_,rfl⟩
theorem rC{base YC e size n:Nat}{v:tK}{xs:tM}(h:w.ownsRow base e size v n xs)(hb:YC≤base):w.ownsRow YC e size v n xs:=by
 refine⟨h.1, ?_⟩;rcases h.2 with h2|⟨g,cap,cur,h1,h2,h3⟩
 ·exact .inl h2
 ·exact .inr ⟨g,cap,cur,h1,by omega,h3⟩
theorem rD{base e size n:Nat}{v:tK}{xs:tM}{row:Option Nat}(h:w.ownsRow base e size v n xs)(hg:w.grownBy w' row)(fR:∀g,v.ownBlock=some g→row≠some g):w'.ownsRow base e size v n xs:=by
 refine⟨h.1, ?_⟩;rcases h.2 with h2|⟨g,cap,cur,rfl,h2,h3,h4⟩
 ·exact .inl h2
 ·have hl:g<w.heap.size:=(h.lt g rfl).2;exact .inr ⟨g,cap,cur,rfl,h2,by rw[hg.block g hl (fun e=>fR g rfl e.symm)];exact h3,h4⟩
theorem oh{P:tY}{ops:tP}{o:Oper}{a:Act}{w:tA}{K:Act→World→Prop}{Q:tI}{E:Prop}(NZ:o.guard=none)(s x:tU)(t:tZ)
  (ho:o.op= .call {callee:= .builtin .append,args:= #[s,x],argTypes:= #[t,t]})
  (base:Nat) (e:tZ) (i:TypeInfo) (z:tK) (size bytes:Nat) (ht:P.underlying t=some (.slice e)) (hi:P.info? e=some i) (hz:i.zero=some z)
  (Hd:i.size=size) (Dt:i.bytes=bytes) (Mj:z.cells.size=size) (js:0<size)
  (v:tK) (n:Nat) (xs:tG) (hs:a.eval s=v) (bU:w.ownsRow base e size v n (xs.map (Value.int .i64)))
  (ad:Addr) (m c:Nat) (l:tG) (hx:a.eval x= .slice (some ad) m c) (hl:l.length=m*size) (xo:∀j u,(l.map (Value.int .i64))[j]? =some u→w.cell? (ad.add j)=some u)
  (Kg:n+m≤maxLen) (yL:(n+m)*bytes≤140737488355328) (d_:base≤w.heap.size)
  (h:∀v' w',w'.ownsRow base e size v' (n+m) ((xs++l).map (Value.int .i64))→w.grownBy w' v.ownBlock→K (a.put o.dst v') w'):
  if Region.wanted o (yielded ops a.tmps)=true then Oper.wp P o a w K Q else E:=by
 have hw:Region.wanted o (yielded ops a.tmps)=true:=by simp[Region.wanted,NZ]
 rw[Ae hw];exact wp_append_own w s x t ho base e i z size bytes ht hi hz Hd Dt Mj js v n _ hs bU ad m c (l.map (Value.int .i64)) hx (by simpa using hl) xo (ints_oneCell _ _) Kg yL d_ (fun v' w' h1 h2 _=>h v' w' (by rw[List.map_append];exact h1) h2)
end
theorem ab7(w:tA)(x0 x1:Int)(t:tZ):∀j u,([x0,x1].map (Value.int .i64))[j]? =some u→(w.alloc (.cells #[iV x0,iV x1] t)).drew.cell? ((⟨w.heap.size,0,none⟩:Addr).add j)=some u:=by
 intro j u hj;rw[BM]
 match j,hj with
 |0,hj=>simp at hj;subst hj;simp
 |1,hj=>simp at hj;subst hj;simp
 |n+2,hj=>simp at hj
theorem ab8(w:tA)(x0 x1 x2 x3:Int)(t:tZ):∀j u,([x0,x1,x2,x3].map (Value.int .i64))[j]? =some u→(w.alloc (.cells #[iV x0,iV x1,iV x2,iV x3] t)).drew.cell? ((⟨w.heap.size,0,none⟩:Addr).add j)=some u:=by
 intro j u hj;rw[BM]
 match j,hj with
 |0,hj=>simp at hj;subst hj;simp
 |1,hj=>simp at hj;subst hj;simp
 |2,hj=>simp at hj;subst hj;simp
 |3,hj=>simp at hj;subst hj;simp
 |n+4,hj=>simp at hj
abbrev FP:Array Value:= #[iV 0,iV 0,iV 0,.slice none 0 0,.slice none 0 0,iV 0,.bool false,.bool false,.bool false,.bool false,.bool false,.bool false,.bool false,.bool false,iV 0,.bool false,.bool false,.bool false,.bool false,.bool false,.bool false,.bool false,.bool false,iV 0,.bool false,.bool false,.bool false,.bool false,.bool false,.bool false,.bool false,.bool false,iV 0,.bool false,.bool false,.bool false,.bool false,.bool false,.bool false,.bool false,.bool false]
def eS(i:Nat):Value:=if i % 9=0 then iV 0 else .bool false
theorem ab9:FP=ec 0 0 0 (.slice none 0 0) (.slice none 0 0) eS:=rfl
theorem jP:gP eS (fun _=>0) (fun _ _=>false):=fun p _=>⟨by unfold eS;rw[Ae (by omega)],fun j hj=>by unfold eS;rw[Aa (by omega)]⟩
theorem VV(w:tA):aY (w.alloc (.cells FP 112)) w.heap.size 0 0 0 (.slice none 0 0) (.slice none 0 0) eS:=by
 rw[ab9];exact aY.new w _ _ _ _ _ _
theorem VW{w W:tA}(h:W=w.alloc (.cells FP 112)):aY W w.heap.size 0 0 0 (.slice none 0 0) (.slice none 0 0) eS∧bZ w W:=by
 subst h;exact⟨VV w,aC _ _⟩
theorem uH{ops:tP}{rest:List Oper}{o:Oper}{a:Act}{Q:tI}{w:tA}(d:Nat)(ho:o.op= .alloc 112)(hd:o.dst=some d)(hw:Region.wanted o (yielded ops a.tmps)=true)
  (h:∀w',aY w' w.heap.size 0 0 0 (.slice none 0 0) (.slice none 0 0) eS→bZ w w'→wpList Tryz.prog ops Q rest (a.put (some d) (.pointer (some ⟨w.heap.size,0,none⟩))) w'):wpList Tryz.prog ops Q (o::rest) a w:=
 Bz fun K hK=>by
  rw[Ae hw];obtain⟨z1,z2⟩:=VW (w:=w) rfl;have:=hK _ _ (h _ z1 z2);rw[←hd]at this;unfold Oper.wp;simp only[execOp,ho];simpa[go_sem]using this
theorem ab_{ops:tP}{rest:List Oper}{o:Oper}{a:Act}{Q:tI}{w:tA}{ep nx gv:Int}{r l:tK}{ws:tD}(d:Nat)(x:tU)(ho:o.op= .box 112 x)(hd:o.dst=some d)(hw:Region.wanted o (yielded ops a.tmps)=true)(hx:a.eval x=iH ep nx gv r l ws)
  (h:∀w',aY w' w.heap.size ep nx gv r l ws→bZ w w'→wpList Tryz.prog ops Q rest (a.put (some d) (.pointer (some ⟨w.heap.size,0,none⟩))) w'):wpList Tryz.prog ops Q (o::rest) a w:=
 Bz fun K hK=>by
  rw[Ae hw];have:=hK _ _ (h _ (aY.new w ep nx gv r l ws) (aC _ _));rw[←hd]at this;unfold Oper.wp;simp only[execOp,ho,hx];simpa[go_sem]using this
theorem Ku{w:tA}{B clock:Nat}{es:Array MapEntry}{z:Int}{v:tK}(hb:w.heap[B]? =some (.map es clock))(hf:Instr.findNow (.int .i64) (iV z) es.toList 0=some none):
  (Instr.mapUpdate 251 (.map (some B)) (iV z) v).run Tryz.prog w= .ok () {w with heap:=w.heap.setIfInBounds B (.map (es.push ⟨iV z,v,clock⟩) (clock+1))}:=by
 have hc:(Instr.checkKey false 10000 3 (iV z)).run Tryz.prog w= .ok () w:=AX (k:=iV z) Tryz.underlying3 (by simp[MapKept.IsKey]) false 9999;simp[Instr.mapUpdate,run_underlying Tryz.underlying251,MapKept.run_getObj_map hb,hc,MapKept.run_findKey Tryz.underlying3 hf,MapKept.run_setObj_map _ hb,Result.andThen]
theorem uI{ops:tP}{rest:List Oper}{o:Oper}{a:Act}{Q:tI}{w:tA}{B clock:Nat}{es:Array MapEntry}{z:Int}{v:tK}(m k x:tU)(ho:o.op= .insert 251 m k x)(hw:Region.wanted o (yielded ops a.tmps)=true)
  (hm:a.eval m= .map (some B)) (hk:a.eval k=iV z) (hx:a.eval x=v) (hb:w.heap[B]? =some (.map es clock)) (hf:Instr.findNow (.int .i64) (iV z) es.toList 0=some none)
  (h:∀w',w'.heap[B]? =some (.map (es.push ⟨iV z,v,clock⟩) (clock+1))→aB B w w'→wpList Tryz.prog ops Q rest (a.put o.dst undef) w'):wpList Tryz.prog ops Q (o::rest) a w:=
 Bz fun K hK=>by
  rw[Ae hw];have sV:=Ku (v:=v) hb hf;have hs:=MapKept.heap_set (o':= .map (es.push ⟨iV z,v,clock⟩) (clock+1)) hb;have:=hK _ _ (h {w with heap:=w.heap.setIfInBounds B (.map (es.push ⟨iV z,v,clock⟩) (clock+1))} hs.1 ⟨rfl,rfl,rfl,by simp,fun r hr=>hs.2 r hr⟩);unfold Oper.wp;simp only[execOp,ho,hm,hk,hx];simp[sV,Result.andThen];exact this
theorem ZD{ops:tP}{rest:List Oper}{o:Oper}{a:Act}{Q:tI}{w:tA}(ho:o.op= .makeMap 251 none)(hw:Region.wanted o (yielded ops a.tmps)=true)
  (h:∀w',w'.heap[w.heap.size]? =some (.map #[] 0)→bZ w w'→wpList Tryz.prog ops Q rest (a.put o.dst (.map (some w.heap.size))) w'):wpList Tryz.prog ops Q (o::rest) a w:=
 Bz fun K hK=>by
  rw[Ae hw];have:=hK _ _ (h _ (AP w _) (aC _ _));unfold Oper.wp;simp only[execOp,ho];simp[run_makeMap_plain,Result.andThen];exact this
def uJ:Obj:= .map #[⟨iV 1,.func (.func 193) #[] #[],0⟩,⟨iV 2,.func (.func 194) #[] #[],1⟩,⟨iV 3,.func (.func 195) #[] #[],2⟩,⟨iV 4,.func (.func 196) #[] #[],3⟩] 4
theorem Hz(w:tA):
  cA 166 #[] w fun e w'=>e= .returned (.map (some w.heap.size))∧w'.heap[w.heap.size]? =some uJ∧bZ w w':=by
 go_enter Tryz.func166,Tryz.ntmps166
 go_wp2_with (first
  |(refine ZD rfl rfl ?_;intro W1 m1 b1;have k1:=ai b1;clear b1)
  |(refine uI (es:= #[]) _ _ _ rfl rfl rfl rfl rfl m1 rfl ?_;intro W2 m2 t2;have k2:=ai (t2.under (aa k1) (Ac _));clear t2 m1)
  |(refine uI (clock:=1) _ _ _ rfl rfl rfl rfl rfl m2 rfl ?_;intro W3 m3 t3;have k3:=ai (t3.under (aa k2) (Ac _));clear t3 m2)
  |(refine uI (clock:=2) _ _ _ rfl rfl rfl rfl rfl m3 rfl ?_;intro W4 m4 t4;have k4:=ai (t4.under (aa k3) (Ac _));clear t4 m3)
  |(refine uI (clock:=3) _ _ _ rfl rfl rfl rfl rfl m4 rfl ?_;intro W5 m5 t5;have k5:=ai (t5.under (aa k4) (Ac _));clear t5 m4;have M5:=ai m5;clear m5))
 go_ret;exact⟨rfl,aa M5,aa k5⟩
def methodOf(k:Int):Nat:=if k=1 then 193 else if k=2 then 194 else if k=3 then 195 else 196
theorem Kv{w:tA}{B:Nat}(h:w.heap[B]? =some uJ):∀k:Int,(k=1∨k=2∨k=3∨k=4)→
  (Instr.lookup 251 (.map (some B)) (iV k) false).run Tryz.prog w= .ok (.func (.func (methodOf k)) #[] #[]) w:=by
 intro k hk;have hc:(Instr.checkKey false 10000 3 (iV k)).run Tryz.prog w= .ok () w:=AX (k:=iV k) Tryz.underlying3 (by simp[MapKept.IsKey]) false 9999;unfold uJ at h;rcases hk with rfl|rfl|rfl|rfl
 ·have hf:Instr.findNow (.int .i64) (iV 1) [(⟨iV 1,.func (.func 193) #[] #[],0⟩:tf),⟨iV 2,.func (.func 194) #[] #[],1⟩,⟨iV 3,.func (.func 195) #[] #[],2⟩,⟨iV 4,.func (.func 196) #[] #[],3⟩] 0=some (some (0,.func (.func 193) #[] #[])):=rfl;simp[Instr.lookup,run_underlying Tryz.underlying251,MapKept.run_getObj_map h,hc,MapKept.run_findKey Tryz.underlying3 hf,Result.andThen,methodOf]
 ·have hf:Instr.findNow (.int .i64) (iV 2) [(⟨iV 1,.func (.func 193) #[] #[],0⟩:tf),⟨iV 2,.func (.func 194) #[] #[],1⟩,⟨iV 3,.func (.func 195) #[] #[],2⟩,⟨iV 4,.func (.func 196) #[] #[],3⟩] 0=some (some (1,.func (.func 194) #[] #[])):=rfl;simp[Instr.lookup,run_underlying Tryz.underlying251,MapKept.run_getObj_map h,hc,MapKept.run_findKey Tryz.underlying3 hf,Result.andThen,methodOf]
 ·have hf:Instr.findNow (.int .i64) (iV 3) [(⟨iV 1,.func (.func 193) #[] #[],0⟩:tf),⟨iV 2,.func (.func 194) #[] #[],1⟩,⟨iV 3,.func (.func 195) #[] #[],2⟩,⟨iV 4,.func (.func 196) #[] #[],3⟩] 0=some (some (2,.func (.func 195) #[] #[])):=rfl;simp[Instr.lookup,run_underlying Tryz.underlying251,MapKept.run_getObj_map h,hc,MapKept.run_findKey Tryz.underlying3 hf,Result.andThen,methodOf]
 ·have hf:Instr.findNow (.int .i64) (iV 4) [(⟨iV 1,.func (.func 193) #[] #[],0⟩:tf),⟨iV 2,.func (.func 194) #[] #[],1⟩,⟨iV 3,.func (.func 195) #[] #[],2⟩,⟨iV 4,.func (.func 196) #[] #[],3⟩] 0=some (some (3,.func (.func 196) #[] #[])):=rfl;simp[Instr.lookup,run_underlying Tryz.underlying251,MapKept.run_getObj_map h,hc,MapKept.run_findKey Tryz.underlying3 hf,Result.andThen,methodOf]
abbrev ib(c he no bd:Int):Value:= .agg #[iV c,iV he,iV no,iV bd]
def aV(w:tA)(R:Nat)(c he no bd:Int):Prop:=w.heap[R]? =some (.cells #[iV c,iV he,iV no,iV bd] 59 (0,0))
theorem aV.cells{w:tA}{R:Nat}{c he no bd:Int}(h:aV w R c he no bd):w.cell? ⟨R,0,none⟩=some (iV c)∧w.cell? ⟨R,1,none⟩=some (iV he)∧w.cell? ⟨R,2,none⟩=some (iV no)∧w.cell? ⟨R,3,none⟩=some (iV bd):=by
 unfold aV at h;simp[World.cell?,h]
theorem aV.free{w:tA}{R:Nat}{c he no bd:Int}(h:aV w R c he no bd)(o:Nat):w.frozen? ⟨R,o,none⟩=false:=by
 unfold aV at h;simp[World.frozen?,h]
theorem aV.lt{w:tA}{R:Nat}{c he no bd:Int}(h:aV w R c he no bd):R<w.heap.size:=by
 unfold aV at h;rcases AG R w.heap.size with h'|h'
 ·exact h'
 ·simp[Array.getElem?_eq_none h']at h
theorem aV.below{w w':tA}{R B:Nat}{c he no bd:Int}(h:aV w R c he no bd)(hb:Below B w w')(hR:R<B):aV w' R c he no bd:=by
 unfold aV at h⊢;rw[←h];exact hb.block R hR
theorem aV.next{w w':tA}{R:Nat}{c he no bd:Int}(h:aV w R c he no bd)(hb:bZ w w'):aV w' R c he no bd:=h.below hb h.lt
theorem aV.new(w:tA)(c he no bd:Int):aV (w.alloc (.cells #[iV c,iV he,iV no,iV bd] 59)) w.heap.size c he no bd:=AP w _
theorem aV.dR{w w':tA}{R R':Nat}{c he no bd:Int}(h:aV w R c he no bd)(t:aB R' w w')(hR:R≠R'):aV w' R c he no bd:=by
 unfold aV at h⊢;rw[t.block R hR];exact h
abbrev zh(w:tA)(R:Nat)(c he no bd:Int):World:=(((w.setCell ⟨R,0,none⟩ (iV c)).setCell ⟨R,1,none⟩ (iV he)).setCell ⟨R,2,none⟩ (iV no)).setCell ⟨R,3,none⟩ (iV bd)
theorem aV.store{w:tA}{R:Nat}{c he no bd:Int}(h:aV w R c he no bd)(c' xm no' bd':Int):aV (zh w R c' xm no' bd') R c' xm no' bd':=by
 unfold aV at h⊢;rw[zh,heap_set (heap_set (heap_set (heap_set h)))];simp
theorem gu(w:tA)(R:Nat)(c he no bd:Int):aB R w (zh w R c he no bd):=
 (((aB.set R 0 w _).trans (aB.set R 1 _ _)).trans (aB.set R 2 _ _)).trans (aB.set R 3 _ _)
theorem DE{W:tA}{R:Nat}{c he no bd:Int}{b:Bool}{tmps:tR}(h:aV W R c he no bd)(t:tmps[2]? =some (.pointer (some ⟨R,0,none⟩)))(tb:tmps[3]? =some (.bool b)):
  (results Tryz.f207 tmps).run Tryz.prog W= .ok (.tuple #[ib c he no bd,.bool b]) W:=by
 obtain⟨k0,k1,k2,k3⟩:=h.cells;simp[results,Tryz.results207,go_sem,k0,k1,k2,k3,t,tb]
theorem dV(c:Int)(w:tA):
  cA 207 #[iV c] w (rB (.tuple #[ib c 0 0 0,.bool false]) w):=by
 go_enter Tryz.func207,Tryz.ntmps207;go_wp2;exact Ao (DE (aV.new w _ _ _ _) rfl rfl) rfl ⟨rfl,aC _ _⟩
theorem HJ:∀(l:tM) (k:Nat) (Z:tR),k+l.length≤Z.size→(List.foldl (fun(cs:tR) (x:Value×Nat)=>cs.setIfInBounds x.snd x.fst) Z (l.zipIdx k)).size=Z.size∧
  ∀i,(List.foldl (fun(cs:tR) (x:Value×Nat)=>cs.setIfInBounds x.snd x.fst) Z (l.zipIdx k))[i]? =if k≤i∧i<k+l.length then l[i-k]? else Z[i]?
 |[],k,Z,_=>⟨rfl,fun i=>by rw[Aa (by simp)];rfl⟩
 |v::l,k,Z,h=>by
  simp only[List.length_cons]at h;obtain⟨h1,h2⟩:=HJ l (k+1) (Z.setIfInBounds k v) (by simp;omega);simp only[List.zipIdx_cons,List.foldl_cons];refine⟨by simpa using h1,fun i=> ?_⟩;rw[h2];by_cases ha:k+1≤i∧i<k+1+l.length
  ·rw[Ae ha,Ae ⟨by omega,by simp;omega⟩,show i-k=(i-(k+1))+1 by omega];rfl
  ·rw[Aa ha];by_cases hi:i=k
   ·subst hi;rw[Ae ⟨by omega,by simp⟩];simp[show i<Z.size by omega]
   ·rw[Aa (by simp;omega)];simp[show ¬k=i by omega]
theorem Kw(l:tM)(Z:tR)(h:l.length=Z.size):List.foldl (fun(cs:tR) (x:Value×Nat)=>cs.setIfInBounds x.snd x.fst) Z (l.zipIdx 0)=l.toArray:=by
 obtain⟨h1,h2⟩:=HJ l 0 Z (by omega);apply Ca;intro i;rw[h2];by_cases hi:i<l.length
 ·rw[Ae ⟨by omega,by omega⟩];simp
 ·rw[Aa (by omega),Bf (by omega),Bf (by simp;omega)]
theorem RK(ep nx gv:Int)(r l:tK)(ws:tD)(w:tA):(Instr.build 255 #[(0,iH ep nx gv r l ws)]).run Tryz.prog w= .ok (iH ep nx gv r l ws) w:=by
 have hC:=dg ep nx gv r l ws;have hl:(lW ep nx gv r l ws).length=41:=by simp[lW,nK]
 simp[Instr.build,run_underlying Tryz.underlying255,Tryz.zeroValue255,go_sem,hC];have e:(ec ep nx gv r l ws).zipIdx=((lW ep nx gv r l ws).zipIdx 0).toArray:=by simp[ec]
 have hz:((lW ep nx gv r l ws).zipIdx 0).toArray.size=41:=by simp[hl]
 rw[e];generalize hA:((lW ep nx gv r l ws).zipIdx 0).toArray=A at hz;rw[←hz,←Array.foldl_toList,←hA];exact Kw _ _ (by rw[hl];rfl)
def bk(w:tA)(R:Nat)(ep nx gv:Int)(r l:tK)(ws:tD):Prop:=w.heap[R]? =some (.cells (ec ep nx gv r l ws) 255 (0,0))
section
variable{w w':tA}{R B:Nat}{ep nx gv:Int}{r l:tK}{ws:tD}
theorem bk.lt(h:bk w R ep nx gv r l ws):R<w.heap.size:=by
 unfold bk at h;rcases AG R w.heap.size with h'|h'
 ·exact h'
 ·simp[Array.getElem?_eq_none h']at h
theorem bk.below(h:bk w R ep nx gv r l ws)(hb:Below B w w')(hR:R<B):bk w' R ep nx gv r l ws:=by
 unfold bk at h⊢;rw[←h];exact hb.block R hR
theorem bk.next(h:bk w R ep nx gv r l ws)(hb:bZ w w'):bk w' R ep nx gv r l ws:=h.below hb h.lt
theorem bk.new(w:tA)(ep nx gv:Int)(r l:tK)(ws:tD):bk (w.alloc (.cells (ec ep nx gv r l ws) 255)) w.heap.size ep nx gv r l ws:=AP w _
theorem bk.free(h:bk w R ep nx gv r l ws)(o:Nat):w.frozen? ⟨R,o,none⟩=false:=by
 unfold bk at h;simp[World.frozen?,h]
theorem bk.at(h:bk w R ep nx gv r l ws)(i:Nat):w.cell? ⟨R,i,none⟩=(ec ep nx gv r l ws)[i]? :=by
 unfold bk at h;simp[World.cell?,h]
theorem bk.heads(h:bk w R ep nx gv r l ws):
  w.cell? ⟨R,0,none⟩=some (iV ep)∧w.cell? ⟨R,1,none⟩=some (iV nx)∧w.cell? ⟨R,2,none⟩=some (iV gv)∧w.cell? ⟨R,3,none⟩=some r∧w.cell? ⟨R,4,none⟩=some l:=by
 obtain⟨h0,h1,h2,h3,h4⟩:=pf ep nx gv r l ws;exact⟨(h.at 0).trans h0,(h.at 1).trans h1,(h.at 2).trans h2,(h.at 3).trans h3,(h.at 4).trans h4⟩
theorem bk.dR{R':Nat}(h:bk w R ep nx gv r l ws)(t:aB R' w w')(hR:R≠R'):bk w' R ep nx gv r l ws:=by
 unfold bk at h⊢;rw[t.block R hR];exact h
theorem bk.My(h:bk w R ep nx gv r l ws)(x:Int):bk (w.setCell ⟨R,0,none⟩ (iV x)) R x nx gv r l ws:=by
 have:=heap_set (o:=0) (v:=iV x) h;unfold bk;rw[this];rfl
theorem bk.given(h:bk w R ep nx gv r l ws)(x:Int):bk (w.setCell ⟨R,2,none⟩ (iV x)) R ep nx x r l ws:=by
 have:=heap_set (o:=2) (v:=iV x) h;unfold bk;rw[this];rfl
theorem bk.ready(h:bk w R ep nx gv r l ws)(r':tK):bk (w.setCell ⟨R,3,none⟩ r') R ep nx gv r' l ws:=by
 have:=heap_set (o:=3) (v:=r') h;unfold bk;rw[this];rfl
theorem bk.zg(h:bk w R ep nx gv r l ws)(l':tK):bk (w.setCell ⟨R,4,none⟩ l') R ep nx gv r l' ws:=by
 have:=heap_set (o:=4) (v:=l') h;unfold bk;rw[this];rfl
theorem VX{ops:tP}{rest:List Oper}{o:Oper}{a:Act}{Q:tI}(x:tU)(ho:o.op= .build 255 #[(0,x)])(hw:Region.wanted o (yielded ops a.tmps)=true)(hx:a.eval x=iH ep nx gv r l ws)
  (h:wpList Tryz.prog ops Q rest (a.put o.dst (iH ep nx gv r l ws)) w):wpList Tryz.prog ops Q (o::rest) a w:=
 Bz fun K hK=>by
  rw[Ae hw];have sV:=RK ep nx gv r l ws w;have:=hK _ _ h;unfold Oper.wp;simp only[execOp,ho];simp only[List.map_toArray,List.map_cons,List.map_nil,hx];simp[sV,Result.andThen];exact this
theorem aca{ops:tP}{rest:List Oper}{o:Oper}{a:Act}{Q:tI}(x:tU)(ho:o.op= .box 255 x)(hw:Region.wanted o (yielded ops a.tmps)=true)(hx:a.eval x=iH ep nx gv r l ws)
  (h:∀w',bk w' w.heap.size ep nx gv r l ws→bZ w w'→wpList Tryz.prog ops Q rest (a.put o.dst (.pointer (some ⟨w.heap.size,0,none⟩))) w'):wpList Tryz.prog ops Q (o::rest) a w:=
 Bz fun K hK=>by
  rw[Ae hw];have:=hK _ _ (h _ (bk.new w ep nx gv r l ws) (aC _ _));unfold Oper.wp;simp only[execOp,ho,hx];simpa[go_sem]using this
end
theorem du{P:tY}{w:tA}{ops:tP}{rest:List Oper}{o:Oper}{a:Act}{Q:tI}(NZ:o.guard=none)(s x:tU)(t:tZ)
  (ho:o.op= .call {callee:= .builtin .append,args:= #[s,x],argTypes:= #[t,t]})
  (base:Nat) (e:tZ) (i:TypeInfo) (z:tK) (size bytes:Nat) (ht:P.underlying t=some (.slice e)) (hi:P.info? e=some i) (hz:i.zero=some z)
  (Hd:i.size=size) (Dt:i.bytes=bytes) (Mj:z.cells.size=size) (js:0<size)
  (v:tK) (n:Nat) (xs:tG) (hs:a.eval s=v) (bU:w.ownsRow base e size v n (xs.map (Value.int .i64)))
  (ad:tB) (m c:Nat) (l:tG) (hx:a.eval x= .slice ad m c) (hr:RowK .i64 w ad (size*m) l) (qe:ad=none→c=0)
  (Kg:n+m≤maxLen) (yL:(n+m)*bytes≤140737488355328) (d_:base≤w.heap.size)
  (h:∀v' w',w'.ownsRow base e size v' (n+m) ((xs++l).map (Value.int .i64))→w.grownBy w' v.ownBlock→wpList P ops Q rest (a.put o.dst v') w'):wpList P ops Q (o::rest) a w:=by
 cases ad with
 |none=>
  have hm:m=0:=by
   by_cases h0:0<size*m
   ·obtain⟨_,_,h',_⟩:=hr.cell 0 h0;cases h'
   ·rcases Cl m with hm|hm
    ·exact hm
    ·exact absurd (Nat.mul_pos js hm) h0
  subst hm;have hl:l=[]:=List.length_eq_zero_iff.1 (by simpa using hr.bP);subst hl;refine wpList_append_own_none NZ s x t ho base e i size ht hi v n _ hs bU (by rw[hx,qe rfl]) ?_;exact h v w (by simpa using bU) (World.grownBy.refl _ _)
 |some x0=>
  refine Cr w NZ s x t ho base e i z size bytes ht hi hz Hd Dt Mj js v n _ hs bU x0 m c (l.map (Value.int .i64)) hx (by rw[AW,hr.bP,Bn]) ?_ (Cw _ _) Kg yL d_ ?_
  ·intro j u hj;have Zf:j<l.length:=by
    rcases AG j l.length with h'|h'
    ·exact h'
    ·simp[List.getElem?_eq_none h']at hj
   obtain⟨b,off,hb,_,hc⟩:=hr.cell j (by rw[←hr.bP];exact Zf);simp only[Option.some.injEq]at hb;subst hb;rw[BM,hc];simp[List.getElem?_eq_getElem Zf]at hj;simp[List.getElem?_eq_getElem Zf,hj]
  ·intro v' w' h1 h2 _;exact h v' w' (by rw[AE];exact h1) h2
theorem Kx(ep nx gv:Int)(ra la:tB)(rn rc ln lc:Nat)(R L:tG)(ws:tD)(w:tA)(hR:RowK .i64 w ra (2*rn) R)(hL:RowK .i64 w la (4*ln) L)(nR:ra=none→rc=0)(nL:la=none→lc=0)(hs:rn+ln≤500):
    cA 165 #[iH ep nx gv (.slice ra rn rc) (.slice la ln lc) ws] w fun e w'=>∃B a1 c1 a2 c2,e= .returned (.pointer (some ⟨B,0,none⟩))∧w.heap.size≤B∧bk w' B ep nx gv (.slice a1 rn c1) (.slice a2 ln c2) ws∧
      w'.ownsRow w.heap.size 278 2 (.slice a1 rn c1) rn (R.map (Value.int .i64))∧w'.ownsRow w.heap.size 281 4 (.slice a2 ln c2) ln (L.map (Value.int .i64))∧bZ w w':=by
  obtain⟨i1,hi1,RL,hz11,hz12⟩:=iw Tryz.MC;obtain⟨i2,J8,hz20,hz21,hz22⟩:=iw Tryz.vY;go_enter Tryz.func165,Tryz.ntmps165
  go_wp2_with (first
    |(refine ab_ 1 _ rfl rfl rfl rfl ?_;intro W1 q1 b1;obtain⟨c0,c1,c2,c3,c4⟩:=q1.heads)
    |(at_builtin;refine du rfl (.const (.slice none 0 0)) (.tmp 4) 105 rfl (w.heap.size+1) 278 i1 _ 2 16 Tryz.underlying105 hi1 RL hz11 hz12 rfl (by decide) (.slice none 0 0) 0 [] rfl (BA _ _ _ _) ra rn rc R rfl (hR.below b1) nR (by unfold maxLen;omega) (by omega) (by have:=q1.lt;omega) ?_;intro v1 W2 o1 g1
      simp only[Nat.zero_add,List.nil_append]at o1;obtain⟨a1,k1,rfl⟩:=mI o1;have b2:Below (w.heap.size+1) W1 W2:=(Bm _ _).grown g1 (by have:=q1.lt;omega) (by simp[Value.ownBlock]);have q2:=q1.below b2 (by omega);have l2:w.heap.size+1≤W2.heap.size:=by have:=b2.size;have:=q1.lt;omega
      clear c0 c1 c2 c3 c4;obtain⟨c0,c1,c2,c3,c4⟩:=q2.heads;have f2:=q2.free;have T2:=aB.set w.heap.size 3 W2 (.slice a1 rn k1);have q3:=q2.ready (.slice a1 rn k1);have O1:=ai (T2.own o1 (by omega));have DF:=ai (T2.under (b1.trans (b2.mono (by omega))) (Ac _));have HZ3:=ai (show w.heap.size+1≤(W2.setCell ⟨w.heap.size,3,none⟩ (.slice a1 rn k1)).heap.size by rw[T2.size];exact l2)
      clear o1 g1 T2 b2 l2 q2)
    |(at_builtin;refine du rfl (.const (.slice none 0 0)) (.tmp 8) 106 rfl (w.heap.size+1) 281 i2 _ 4 32 Tryz.underlying106 J8 hz20 hz21 hz22 rfl (by decide) (.slice none 0 0) 0 [] rfl (BA _ _ _ _) la ln lc L rfl (hL.below (aa DF)) nL (by unfold maxLen;omega) (by omega) (aa HZ3) ?_;intro v2 W4 o2 g2
      simp only[Nat.zero_add,List.nil_append]at o2;obtain⟨a2,k2,rfl⟩:=mI o2;have b4:=(Bm (w.heap.size+1) (W2.setCell ⟨w.heap.size,3,none⟩ (.slice a1 rn k1))).grown g2 (aa HZ3) (by simp[Value.ownBlock]);have q4:=q3.below b4 (by omega);clear c0 c1 c2 c3 c4;obtain⟨c0,c1,c2,c3,c4⟩:=q4.heads;have f4:=q4.free;have T4:=aB.set w.heap.size 4 W4 (.slice a2 ln k2);have q5:=q4.zg (.slice a2 ln k2);have O1':=ai (T4.own (rD (aa O1) g2 (by simp[Value.ownBlock])) (by omega));have O2:=ai (T4.own o2 (by omega));have VY:=ai (T4.under ((aa DF).trans (b4.mono (by omega))) (Ac _))
      clear o2 g2 T4 b4 q4)
    |(refine FH _ rfl rfl rfl q5 ?_)
    |(refine VX _ rfl rfl rfl ?_)
    |(refine aca _ rfl rfl rfl ?_;intro W6 d6 b6))
  have l5:=q5.lt;have e5:(W4.setCell ⟨w.heap.size,4,none⟩ (.slice a2 ln k2)).heap.size=W4.heap.size:=(aB.set _ _ _ _).size;have O6:=rC (aJ (aa O1') (fun g _ hg=>b6.block g hg)) (BJ w.heap.size);have O7:=rC (aJ (aa O2) (fun g _ hg=>b6.block g hg)) (BJ w.heap.size);have B7:=Below.next (aa VY) b6;rw[e5]at l5 d6;go_ret;exact⟨_,_,_,_,_,rfl,by omega,d6,O6,O7,B7⟩
structure rZ(w:tA)(base B:Nat)(ep nx gv:Int)(a1:tB)(rn c1:Nat)(a2:tB)(ln c2:Nat)(R L:tG)(ws:tD):Prop where
 d:bk w B ep nx gv (.slice a1 rn c1) (.slice a2 ln c2) ws
 up:base≤B
 o1:w.ownsRow base 278 2 (.slice a1 rn c1) rn (R.map (Value.int .i64))
 o2:w.ownsRow base 281 4 (.slice a2 ln c2) ln (L.map (Value.int .i64))
 wR:∀u∈R,(Lit.int .i64 u).wf=true
 wL:∀u∈L,(Lit.int .i64 u).wf=true
def jQ(w:tA)(base B:Nat)(ep nx gv:Int)(rn:Nat)(R:tG)(ln:Nat)(L:tG)(wt:tH)(wz:Nat→Nat→Bool):Prop:=
 ∃a1 c1 a2 c2 ws,bk w B ep nx gv (.slice a1 rn c1) (.slice a2 ln c2) ws∧RowK .i64 w a1 (2*rn) R∧RowK .i64 w a2 (4*ln) L∧rn≤c1∧ln≤c2∧(a1=none→c1=0)∧(a2=none→c2=0)∧gP ws wt wz∧(∀x,a1=some x→base≤x.block)∧(∀x,a2=some x→base≤x.block)
section
variable{w w':tA}{base B:Nat}{ep nx gv:Int}{a1 a2:tB}{rn c1 ln c2:Nat}{R L:tG}{ws:tD}{wt:tH}{wz:Nat→Nat→Bool}
theorem rZ.out(D:rZ w base B ep nx gv a1 rn c1 a2 ln c2 R L ws)(hW:gP ws wt wz):jQ w base B ep nx gv rn R ln L wt wz:=by
 obtain⟨_,_,e1,r1,l1,_,n1,x1⟩:=RowK.eK D.o1 D.wR;obtain⟨_,_,e2,r2,l2,_,n2,x2⟩:=RowK.eK D.o2 D.wL;cases e1;cases e2;exact⟨a1,c1,a2,c2,ws,D.d,r1,r2,l1,l2,n1,n2,hW,x1,x2⟩
theorem rZ.next(D:rZ w base B ep nx gv a1 rn c1 a2 ln c2 R L ws)(hb:bZ w w'):rZ w' base B ep nx gv a1 rn c1 a2 ln c2 R L ws:=
 ⟨D.d.next hb,D.up,aJ D.o1 (fun g _ hg=>hb.block g hg),aJ D.o2 (fun g _ hg=>hb.block g hg),D.wR,D.wL⟩
theorem aX{e t size n:Nat}{v:tK}{xs:tM}{cs:tR}(o:w.ownsRow base e size v n xs)(h:w.heap[B]? =some (.cells cs t (0,0)))(he:e≠t):∀g,v.ownBlock=some g→g≠B:=by
 intro g hg hgB;subst hgB;rcases o.2 with⟨rfl,_⟩|⟨g1,cap,cur,rfl,_,h3,_⟩
 ·cases hg
 ·simp only[Value.ownBlock,Option.some.injEq]at hg;subst hg;rw[h3]at h;simp only[Option.some.injEq,Obj.cells.injEq]at h;exact he h.2.1
theorem aB.owns{e size n:Nat}{v:tK}{xs:tM}(t:aB B w w')(o:w.ownsRow base e size v n xs)(fR:∀g,v.ownBlock=some g→g≠B):w'.ownsRow base e size v n xs:=
 aJ o (fun g hg _=>t.block g (fR g hg))
end
theorem ql{W:tA}{R:Nat}{c he no bd:Int}{b:Bool}{tmps:tR}(h:aV W R c he no bd)(t:tmps[4]? =some (.pointer (some ⟨R,0,none⟩)))(tb:tmps[5]? =some (.bool b)):
  (results Tryz.f194 tmps).run Tryz.prog W= .ok (.tuple #[ib c he no bd,.bool b]) W:=by
 obtain⟨k0,k1,k2,k3⟩:=h.cells;simp[results,Tryz.results194,go_sem,k0,k1,k2,k3,t,tb]
abbrev zi(k p i b he hn:Int):Value:= .agg #[iV k,iV p,iV i,iV b,iV he,iV hn]
theorem FQ{w w1:tA}{k p i b he hn:Int}(b1:Below ((w.alloc (.cells #[iV k,iV p,iV i,iV b,iV he,iV hn] 56)).alloc (.cells #[iV 0,iV 0,iV 0,iV 0] 59)).heap.size ((w.alloc (.cells #[iV k,iV p,iV i,iV b,iV he,iV hn] 56)).alloc (.cells #[iV 0,iV 0,iV 0,iV 0] 59)) w1):
  aV w1 (w.heap.size+1) 0 0 0 0∧bZ w w1:=by
 have z:=(aV.new (w.alloc (.cells #[iV k,iV p,iV i,iV b,iV he,iV hn] 56)) 0 0 0 0).next b1;have e:(w.alloc (.cells #[iV k,iV p,iV i,iV b,iV he,iV hn] 56)).heap.size=w.heap.size+1:=by simp
 rw[e]at z;exact⟨z,ur b1⟩
theorem zj(base B:Nat)(ep nx gv:Int)(a1:tB)(rn c1:Nat)(a2:tB)(ln c2:Nat)(R L:tG)(ws:tD)(wt:tH)(wz:Nat→Nat→Bool)(k p i b he hn:Int)(w:tA)(D:rZ w base B ep nx gv a1 rn c1 a2 ln c2 R L ws)(hW:gP ws wt wz)(d_:base≤w.heap.size)(code:Int)(hc:(rn=0∧code=10)∨(0<rn∧gv=1073741824∧code=14)):
  cA 194 #[.pointer (some ⟨B,0,none⟩),zi k p i b he hn] w fun e w'=>e= .returned (.tuple #[ib code 0 0 0,.bool false])∧jQ w' base B ep nx gv rn R ln L wt wz∧Below base w w':=by
 obtain⟨d0,d1,d2,d3,d4⟩:=D.d.heads;have hBl:=D.d.lt;have YD:B≠w.heap.size:=by omega
 have On:B≠w.heap.size+1:=by omega
 have HD:=ai D;have HBW:Hid (∀w',bZ w w'→jQ w' base B ep nx gv rn R ln L wt wz∧Below base w w'):=ai fun w' hb=>⟨(D.next hb).out hW,hb.mono d_⟩;clear D;rcases hc with⟨rfl,rfl⟩|⟨h0,rfl,rfl⟩
 ·go_enter Tryz.func194,Tryz.ntmps194
  go_wp2_with (go_at_call 207;refine(dV _ _).mono ?_;rintro e w1 ⟨rfl,b1⟩;obtain⟨z1,b2⟩:=FQ b1;obtain⟨y0,y1,y2,y3⟩:=z1.cells;have yf:=z1.free;have HZ:=ai z1;have HB:=ai b2;clear b1 z1 b2)
  obtain⟨r1,r2⟩:=aa HBW _ ((gu w1 (w.heap.size+1) _ 0 0 0).under (aa HB) (BJ _));exact Ao (ql ((aa HZ).store _ 0 0 0) rfl rfl) rfl ⟨rfl,r1,r2⟩
 ·go_enter Tryz.func194,Tryz.ntmps194
  go_wp2_with (go_at_call 207;refine(dV _ _).mono ?_;rintro e w1 ⟨rfl,b1⟩;obtain⟨z1,b2⟩:=FQ b1;obtain⟨y0,y1,y2,y3⟩:=z1.cells;have yf:=z1.free;have HZ:=ai z1;have HB:=ai b2;clear b1 z1 b2)
  obtain⟨r1,r2⟩:=aa HBW _ ((gu w1 (w.heap.size+1) _ 0 0 0).under (aa HB) (BJ _));exact Ao (ql ((aa HZ).store _ 0 0 0) rfl rfl) rfl ⟨rfl,r1,r2⟩
theorem Ky(w:tA)(k p i b he hn:Int):∃W,W=(w.alloc (.cells #[iV k,iV p,iV i,iV b,iV he,iV hn] 56)).alloc (.cells #[iV 0,iV 0,iV 0,iV 0] 59)∧
  aV W (w.heap.size+1) 0 0 0 0∧bZ w W∧W.heap.size=w.heap.size+2∧W.heap[w.heap.size]? =some (.cells #[iV k,iV p,iV i,iV b,iV he,iV hn] 56 (0,0)):=by
 obtain⟨h1,h2⟩:=FQ (Bm _ ((w.alloc (.cells #[iV k,iV p,iV i,iV b,iV he,iV hn] 56)).alloc (.cells #[iV 0,iV 0,iV 0,iV 0] 59)));exact⟨_,rfl,h1,h2,by simp,heap_alloc2_old w _ _⟩
structure Kz(w wx:tA)(M H:Nat)(x0 x1 ep gv:Int):Prop where
 m:wx.heap[M]? =some (.cells #[iV x0,iV x1] 278 (0,0))
 h:wx.heap[H]? =some (.cells #[iV ep,iV gv] 54 (0,0))
 dp:bZ w wx
 upM:w.heap.size≤M
 upH:w.heap.size≤H
theorem Kz.mh(w:tA)(x0 x1 ep gv:Int):Kz w ((w.alloc (.cells #[iV x0,iV x1] 278)).alloc (.cells #[iV ep,iV gv] 54)).drew w.heap.size (w.heap.size+1) x0 x1 ep gv:=
 ⟨heap_alloc2_old w _ _,heap_alloc2_new w _ _,Below.next (gm _ _ _) ⟨rfl,rfl,rfl,Ac _,fun _ _=>rfl⟩,Ac _,BJ _⟩
theorem Kz.hm(w:tA)(x0 x1 ep gv:Int):Kz w ((w.alloc (.cells #[iV ep,iV gv] 54)).alloc (.cells #[iV x0,iV x1] 278)).drew (w.heap.size+1) w.heap.size x0 x1 ep gv:=
 ⟨heap_alloc2_new w _ _,heap_alloc2_old w _ _,Below.next (gm _ _ _) ⟨rfl,rfl,rfl,Ac _,fun _ _=>rfl⟩,BJ _,Ac _⟩
structure Rc(w wx:tA)(base B:Nat)(ep nx gv:Int)(v1:tK)(a2:tB)(ln c2:Nat)(L:tG)(ws:tD)(g rn c1:Nat)(R:tG)(M H A:Nat)(x0 x1 gv0:Int):Prop where
 d:bk wx B ep nx gv v1 (.slice a2 ln c2) ws
 o1:wx.ownsRow base 278 2 (.slice (some ⟨g,0,none⟩) rn c1) rn (R.map (Value.int .i64))
 o2:wx.ownsRow base 281 4 (.slice a2 ln c2) ln (L.map (Value.int .i64))
 m:wx.heap[M]? =some (.cells #[iV x0,iV x1] 278 (0,0))
 h:wx.heap[H]? =some (.cells #[iV ep,iV gv0] 54 (0,0))
 a:aV wx A 0 0 0 0
 dp:Below base w wx
 up:base≤B
section
variable{w wx W5 w5:tA}{base B:Nat}{ep nx gv:Int}{v1:tK}{a2 a3:tB}{ln c2 c3:Nat}{L:tG}{ws:tD}{g rn c1:Nat}{R:tG}{M H A:Nat}{x0 x1 gv0:Int}
theorem cI{w:tA}{X:Nat}{o:Obj}(h:w.heap[X]? =some o):X<w.heap.size:=by
 rcases AG X w.heap.size with h'|h'
 ·exact h'
 ·rw[Bf h']at h;cases h
theorem cT{w:tA}{X Y:Nat}{cs QL:tR}{t t':tZ}(h:w.heap[X]? =some (.cells cs t (0,0)))(h':w.heap[Y]? =some (.cells QL t' (0,0)))(ht:t≠t'):X≠Y:=by
 rintro rfl;rw[h]at h';simp only[Option.some.injEq,Obj.cells.injEq]at h';exact ht h'.2.1
theorem Rc.turn(C:Rc w wx base B ep nx gv v1 a2 ln c2 L ws g rn c1 R M H A x0 x1 gv0){wy:tA}(t:aB B wx wy){Oj Ol Om:Int}{v1':tK}(zk:Oj=ep)(d:bk wy B Oj Ol Om v1' (.slice a2 ln c2) ws):Rc w wy base B ep Ol Om v1' a2 ln c2 L ws g rn c1 R M H A x0 x1 gv0:=by
 subst zk;exact⟨d,t.owns C.o1 (aX C.o1 C.d (by decide)),t.owns C.o2 (aX C.o2 C.d (by decide)),(t.block M (cT C.m C.d (by decide))).trans C.m,(t.block H (cT C.h C.d (by decide))).trans C.h,C.a.dR t (cT C.a C.d (by decide)),t.under C.dp C.up,C.up⟩
theorem Rc.Hx(C:Rc w wx base B ep nx gv v1 a2 ln c2 L ws g rn c1 R M H A x0 x1 gv0)(b5:bZ wx W5)(gr:W5.grownBy w5 (Value.slice a2 ln c2).ownBlock)(ys:tG)(d_:base≤wx.heap.size)
  (own:w5.ownsRow base 281 4 (.slice a3 (ln+1) c3) (ln+1) ((L++ys).map (Value.int .i64))):
  bk w5 B ep nx gv v1 (.slice a2 ln c2) ws∧Rc w (w5.setCell ⟨B,4,none⟩ (.slice a3 (ln+1) c3)) base B ep nx gv v1 a3 (ln+1) c3 (L++ys) ws g rn c1 R M H A x0 x1 gv0:=by
 have keep:∀X o,wx.heap[X]? =some o→(Value.slice a2 ln c2).ownBlock≠some X→w5.heap[X]? =some o:=by
  intro X o hX fR;have hl:=cI hX;rw[gr.block X (by have:=b5.size;omega) (fun e=>fR e.symm),b5.block X hl];exact hX
 have hB:bk w5 B ep nx gv v1 (.slice a2 ln c2) ws:=keep B _ C.d (fun e=>aX C.o2 C.d (by decide) B e rfl);have t:=aB.set B 4 w5 (.slice a3 (ln+1) c3);have hM:=keep M _ C.m (fun e=>aX C.o2 C.m (by decide) M e rfl);have hH:=keep H _ C.h (fun e=>aX C.o2 C.h (by decide) H e rfl);have hA:aV w5 A 0 0 0 0:=keep A _ C.a (fun e=>aX C.o2 C.a (by decide) A e rfl);have o1':w5.ownsRow base 278 2 (.slice (some ⟨g,0,none⟩) rn c1) rn (R.map (Value.int .i64)):=
  rD (aJ C.o1 (fun q _ hq=>b5.block q hq)) gr (fun q h1 h2=>jv C.o1 C.o2 (by decide) q h1 h2)
 have gQ:Below base w w5:=(C.dp.trans (b5.mono d_)).grown gr (by have:=b5.size;omega) (fun q hq=>(C.o2.lt q hq).1);exact⟨hB,hB.zg _,t.owns o1' (aX o1' hB (by decide)),t.owns own (aX own hB (by decide)),(t.block M (cT hM hB (by decide))).trans hM,(t.block H (cT hH hB (by decide))).trans hH,hA.dR t (cT hA hB (by decide)),t.under gQ C.up,C.up⟩
end
theorem uK{x:Int}(h0:0≤x)(h1:x≤1073741825):(Lit.int .i64 x).wf=true:=by
 exact WalkArith.wf_i64 ⟨by omega,by omega⟩
theorem VZ{w:tA}{g o rn:Nat}{R:tG}(h:RowK .i64 w (some ⟨g,0,none⟩) (2*rn) R)(hr:0<rn)(ho:1<rn→o=2):RowK .i64 w (some ⟨g,o,none⟩) (2*(rn-1)) (R.drop 2):=by
 have hl:=h.bP;refine⟨by simp;omega,fun u hu=>h.wf u (Bl hu),fun i hi=> ?_⟩;refine⟨g,o,rfl,h.lt (by omega), ?_⟩;have:=h.at (2+i) (by omega);rw[ho (by omega)];rw[Aj]at this;rw[this];simp[List.getD_eq_getElem?_getD]
theorem H4(base B g:Nat)(ep nx gv:Int)(rn c1:Nat)(a2:tB)(ln c2:Nat)(R L:tG)(ws:tD)(wt:tH)(wz:Nat→Nat→Bool)(k p i b he hn:Int)(w:tA)(D:rZ w base B ep nx gv (some ⟨g,0,none⟩) rn c1 a2 ln c2 R L ws)(hW:gP ws wt wz)(d_:base≤w.heap.size)(h0:0<rn)(hs:rn+ln≤500)(g0:0≤gv)(g1:gv<1073741824)(wep:(Lit.int .i64 ep).wf=true):
  cA 194 #[.pointer (some ⟨B,0,none⟩),zi k p i b he hn] w fun e w'=>e= .returned (.tuple #[ib 0 ep gv (R.getD 1 0),.bool true])∧jQ w' base B ep nx (gv+1) (rn-1) (R.drop 2) (ln+1) (L++[ep,gv,R.getD 0 0,R.getD 1 0]) wt wz∧Below base w w':=by
 obtain⟨i2,J8,hz20,hz21,hz22⟩:=iw Tryz.vY;obtain⟨d0,d1,d2,d3,d4⟩:=D.d.heads;have hBl:=D.d.lt;have YD:B≠w.heap.size:=by omega
 have On:B≠w.heap.size+1:=by omega
 have hgz:¬gv=1073741824:=by omega
 have hrz:¬rn=0:=by omega
 go_enter Tryz.func194,Tryz.ntmps194
 go_wp2_with fail
 obtain⟨W2,hW2,z2,b2,s2,-⟩:=Ky w k p i b he hn;rw[←hW2];clear hW2 d0 d1 d2 d3 d4 YD On;have D2:=D.next b2;have hA:W2.heap.size=w.heap.size+2:=s2;obtain⟨x0,hx0⟩:∃x,x=R.getD 0 0:=⟨_,rfl⟩;obtain⟨x1,hx1⟩:∃x,x=R.getD 1 0:=⟨_,rfl⟩;obtain⟨_,_,e1,r1,l1,_,n1,y1⟩:=RowK.eK D2.o1 D2.wR;cases e1;have k0:W2.cell? ⟨g,0,none⟩=some (iV x0):=by rw[hx0];exact r1.at 0 (by omega)
 have k1:W2.cell? ⟨g,1,none⟩=some (iV x1):=by rw[hx1];exact r1.at 1 (by omega)
 have MA:g<W2.heap.size:=r1.lt (by omega);obtain⟨d0,d1,d2,d3,d4⟩:=D2.d.heads;have ae5:=D2.d.lt;have YD:B≠W2.heap.size:=by omega
 have On:B≠W2.heap.size+1:=by omega
 have hgn:g≠W2.heap.size:=by omega
 have ae7:g≠W2.heap.size+1:=by omega
 have HX:Hid (x0=R.getD 0 0∧x1=R.getD 1 0):=ai ⟨hx0,hx1⟩;have hwR:=ai D2.wR
 have ae8:Hid (∀u∈L++[ep,gv,x0,x1],(Lit.int .i64 u).wf=true):=ai (by
  intro u hu;rcases Ah.1 hu with hu|hu
  ·exact D2.wL u hu
  ·simp only[List.mem_cons,List.not_mem_nil,or_false]at hu;rcases hu with rfl|rfl|rfl|rfl
   ·exact wep
   ·exact uK (by omega) (by omega)
   ·rw[hx0];exact mn R D2.wR _
   ·rw[hx1];exact mn R D2.wR _)
 have Vk:=ai D2;have YE:=ai z2;have ue:=ai b2;have HA:=ai hA;clear D D2 r1 y1 n1 hx0 hx1 z2 b2 s2 hA
 go_cut [6,7] (fun p6 p7 wx=>∃M H,p6= .pointer (some ⟨M,0,none⟩)∧p7= .pointer (some ⟨H,0,none⟩)∧Kz W2 wx M H x0 x1 ep gv)
 case first=>
  go_region_held3 (fun w'=>w'.cell? ⟨B,3,none⟩=some (.slice (some ⟨g,0,none⟩) rn c1)∧w'.cell? ⟨B,0,none⟩=some (iV ep)∧w'.cell? ⟨B,2,none⟩=some (iV gv)∧w'.cell? ⟨g,0,none⟩=some (iV x0)∧w'.cell? ⟨g,1,none⟩=some (iV x1)) (go_keep) (fail)
  all_goals(try go_wp2_with fail)
  all_goals go_meet
  all_goals first|exact⟨_,_,rfl,rfl,Kz.mh _ _ _ _ _⟩|exact⟨_,_,rfl,rfl,Kz.hm _ _ _ _ _⟩
 case rest=>
  obtain⟨M,H,rfl,rfl,PP⟩:=hcut;obtain⟨W3,h3⟩:∃W3,W3=wc:=⟨_,rfl⟩;subst h3;clear d0 d1 d2 d3 d4 k0 k1 YD On hgn ae7 ae5;have D3:=(aa Vk).next PP.dp;have l3:W2.heap.size≤W3.heap.size:=PP.dp.size;have lA:w.heap.size+2=W2.heap.size:=(aa HA).symm;have C3:Rc w W3 base B ep nx gv (.slice (some ⟨g,0,none⟩) rn c1) a2 ln c2 L ws g rn c1 R M H (w.heap.size+1) x0 x1 gv:=
   ⟨D3.d,D3.o1,D3.o2,PP.m,PP.h,(aa YE).next PP.dp,((aa ue).mono d_).trans (PP.dp.mono (by omega)),D3.up⟩
  have dq:Hid (rn≤c1):=ai l1;obtain⟨d0,d1,d2,d3,d4⟩:=C3.d.heads;have df:=C3.d.free;have YF:=ai C3;have Oo:base≤W3.heap.size:=by omega
  clear D3 PP C3 Vk YE ue HA lA MA
  go_step
  go_step
  go_cut [] (fun wx=>∃o c',(1<rn→o=2)∧rn-1≤c'∧wx.heap.size=W3.heap.size∧Rc w wx base B ep nx gv (.slice (some ⟨g,o,none⟩) (rn-1) c') a2 ln c2 L ws g rn c1 R M H (w.heap.size+1) x0 x1 gv)
  case first=>
   go_wp2_with fail
   all_goals go_meet
   ·rename_i hc;have T:=aB.set B 3 W3 (.slice (some ⟨g,0,none⟩) (rn-1) 0);exact⟨0,0,fun h=>by have:=aa dq;omega,by have:=aa dq;omega,T.size,(aa YF).turn T rfl ((aa YF).d.ready _)⟩
   ·have T:=aB.set B 3 W3 (.slice (some ⟨g,2,none⟩) (rn-1) (c1-1));exact⟨2,c1-1,fun _=>rfl,by have:=aa dq;omega,T.size,(aa YF).turn T rfl ((aa YF).d.ready _)⟩
  case rest=>
   obtain⟨o,c',ho,hoc,YG,C4⟩:=hcut;obtain⟨W4,h4⟩:∃W4,W4=wc:=⟨_,rfl⟩;subst h4;clear d0 d1 d2 d3 d4 df YF l3;have hb4:base≤W4.heap.size:=by omega
   obtain⟨d0,d1,d2,d3,d4⟩:=C4.d.heads;have df:=C4.d.free;have m0:W4.cell? ⟨M,0,none⟩=some (iV x0):=by have:=C4.m;simp[World.cell?,this]
   have m1:W4.cell? ⟨M,1,none⟩=some (iV x1):=by have:=C4.m;simp[World.cell?,this]
   have q0:W4.cell? ⟨H,0,none⟩=some (iV ep):=by have:=C4.h;simp[World.cell?,this]
   have q1:W4.cell? ⟨H,1,none⟩=some (iV gv):=by have:=C4.h;simp[World.cell?,this]
   have lM:=cI C4.m;have lH:=cI C4.h;have lB:=C4.d.lt;have nM:M≠W4.heap.size:=by omega
   have nH:H≠W4.heap.size:=by omega
   have nB:B≠W4.heap.size:=by omega
   have b5:Below W4.heap.size W4 (W4.alloc (.cells #[iV ep,iV gv,iV x0,iV x1] 281)).drew:=Below.next (aC _ _) ⟨rfl,rfl,rfl,Ac _,fun _ _=>rfl⟩;have HO5:Hid ((W4.alloc (.cells #[iV ep,iV gv,iV x0,iV x1] 281)).drew.ownsRow base 281 4 (.slice a2 ln c2) ln (L.map (Value.int .i64))):=ai (aJ C4.o2 (fun q _ hq=>b5.block q hq));have HC4:=ai C4;have VY:=ai b5;clear C4 b5 YG
   go_wp2_with fail
   go_cut [] (fun wx=>∃a3 c3,Rc w wx base B ep nx gv (.slice (some ⟨g,o,none⟩) (rn-1) c') a3 (ln+1) c3 (L++[ep,gv,x0,x1]) ws g rn c1 R M H (w.heap.size+1) x0 x1 gv)
   case first=>
    go_region_law (refine oh rfl (.tmp 60) (.tmp 64) 106 rfl base 281 i2 _ 4 32 Tryz.underlying106 J8 hz20 hz21 hz22 rfl (by decide) (.slice a2 ln c2) ln L rfl (aa HO5) ⟨W4.heap.size,0,none⟩ 1 1 [ep,gv,x0,x1] rfl rfl (ab8 _ _ _ _ _ _) (by unfold maxLen;omega) (by omega) (by simp;omega) ?_;intro v' w5 H6 grow5;obtain⟨a3,c3,rfl⟩:=mI H6;obtain⟨e5,C5⟩:=(aa HC4).Hx (aa VY) grow5 [ep,gv,x0,x1] hb4 H6;have k4:=e5.heads.2.2.2.2;have f4:=e5.free;have HC5:=ai C5;clear C5 e5 H6 grow5)
    all_goals(try go_wp2_with fail)
    all_goals go_meet
    all_goals exact⟨_,_,aa HC5⟩
   case rest=>
    obtain⟨a3,c3,C6⟩:=hcut;obtain⟨W6,h6⟩:∃W6,W6=wc:=⟨_,rfl⟩;subst h6;clear d0 d1 d2 d3 d4 df m0 m1 q0 q1 lM lH lB nM nH nB HO5 HC4 VY hb4;obtain⟨d0,d1,d2,d3,d4⟩:=C6.d.heads;have df:=C6.d.free;have m1:W6.cell? ⟨M,1,none⟩=some (iV x1):=by have:=C6.m;simp[World.cell?,this]
    have q0:W6.cell? ⟨H,0,none⟩=some (iV ep):=by have:=C6.h;simp[World.cell?,this]
    have q1:W6.cell? ⟨H,1,none⟩=some (iV gv):=by have:=C6.h;simp[World.cell?,this]
    obtain⟨y0,y1,y2,y3⟩:=C6.a.cells;have yf:=C6.a.free;have nM:M≠B:=cT C6.m C6.d (by decide);have nH:H≠B:=cT C6.h C6.d (by decide);have nA:w.heap.size+1≠B:=cT C6.a C6.d (by decide);have HC6:=ai C6;have hwL:Hid (∀u∈L++[ep,gv,x0,x1],(Lit.int .i64 u).wf=true):=ae8;clear C6;go_wp2;have C7:=(aa HC6).turn (aB.set B 2 W6 (iV (gv+1))) rfl ((aa HC6).d.given (gv+1));have T8:=gu (W6.setCell ⟨B,2,none⟩ (iV (gv+1))) (w.heap.size+1) 0 ep gv x1;have o1:=T8.owns C7.o1 (aX C7.o1 C7.a (by decide));have o2:=T8.owns C7.o2 (aX C7.o2 C7.a (by decide));obtain⟨_,_,e1,r1,_,_,_,y1⟩:=RowK.eK o1 (aa hwR);obtain⟨_,_,e2,r2,l2,_,n2,y2⟩:=RowK.eK o2 (aa hwL);cases e1;cases e2;refine Ao (ql (C7.a.store 0 ep gv x1) rfl rfl) rfl ⟨by rw[(aa HX).2],⟨some ⟨g,o,none⟩,c',a3,c3,ws,C7.d.dR T8 (fun e=>nA e.symm),VZ r1 h0 ho, ?_,hoc,l2,by simp,n2,hW,fun x hx=>by cases hx;exact(y1 ⟨g,0,none⟩ rfl:base≤g),y2⟩,T8.under C7.dp (by omega)⟩;rw[←(aa HX).1,←(aa HX).2];exact r2
theorem ZE(t id:Int)(s:tQ)(w:tA)(h:¬fO t s):
  cA 217 #[cH t s,iV id] w (rB (.tuple #[.bool false,iV 6]) w):=by
 go_enter Tryz.func217,Tryz.ntmps217
 go_wp2_with (go_at_call 203;refine(Hp t s _ h).mono ?_;rintro e w1 ⟨rfl,b1⟩)
 go_ret2;exact⟨rfl,oW b1⟩
theorem RM(t id:Int)(s:tQ)(w:tA)(h:fO t s)(h0:0≤id)(h1:id≤1073741824)(h2:id<t-8):
  cA 217 #[cH t s,iV id] w (rB (.tuple #[.bool false,iV 9]) w):=by
 have hl:=h.low;have hh:=h.high;go_enter Tryz.func217,Tryz.ntmps217
 go_wp2_with fail
 obtain⟨W,hW,wb0,B0,S0⟩:=uE w t s;rw[←hW];clear hW;refine(rA t s _ h).mono ?_;rintro e w1 ⟨rfl,b1⟩;have wb:=wb0.next b1;have HB:=ai (Below.next B0 b1);obtain⟨c0,c1,c2,c3,c4,c5,c6,c7,c8⟩:=wb.cells;clear wb wb0 B0 S0 b1 h
 go_wp2_with (go_at_call 214;refine(ia t s _ hl hh).mono ?_;rintro e w2 ⟨rfl,b2⟩)
 go_ret2;exact⟨rfl,Below.next (aa HB) b2⟩
theorem ME(t:Int)(k:Nat)(s:tQ)(w:tA)(h:fO t s)(h0:0≤t-8+(k:Int))(h1:k<8):
  cA 217 #[cH t s,iV (t-8+(k:Int))] w (rB (.tuple #[.bool (s k),iV 0]) w):=by
 have hl:=h.low;have hh:=h.high;obtain⟨id,N_⟩:∃id,id=t-8+(k:Int):=⟨_,rfl⟩;rw[←N_];have h3:¬id<t-8:=by omega
 have h4:¬id<0:=by omega
 have h5:¬1073741824<id:=by omega
 have h6:id<t:=by omega
 have h7:(id-(t-8)).toNat=k:=by omega
 have h8:0≤id-(t-8):=by omega
 have h9:id-(t-8)<8:=by omega
 have HI:=ai N_;clear N_ h0;go_enter Tryz.func217,Tryz.ntmps217
 go_wp2_with fail
 obtain⟨W,hW,wb0,B0,S0⟩:=uE w t s;rw[←hW];clear hW;refine(rA t s _ h).mono ?_;rintro e w1 ⟨rfl,b1⟩;have wb:=wb0.next b1;have HW:=ai wb;have HB:=ai (Below.next B0 b1);obtain⟨c0,c1,c2,c3,c4,c5,c6,c7,c8⟩:=wb.cells;clear wb wb0 B0 S0 b1 h
 go_wp2_with (go_at_call 214;refine(ia t s _ hl hh).mono ?_;rintro e w2 ⟨rfl,b2⟩;have wb2:=(aa HW).next b2;have ue:=ai (Below.next (aa HB) b2);clear HB HW;obtain⟨c0,c1,c2,c3,c4,c5,c6,c7,c8⟩:=wb2.cells;have ck:=wb2.cell k h1;have HW:=ai wb2;clear wb2;have HB:=ue)
 go_ret2;exact⟨rfl,aa HB⟩
theorem Ew(t id:Int)(s:tQ)(w:tA)(h:fO t s)(h0:0≤id)(h1:id≤1073741824)(h2:t≤id):
  cA 217 #[cH t s,iV id] w (rB (.tuple #[.bool false,iV 0]) w):=by
 have hl:=h.low;have hh:=h.high;have h3:¬id<t-8:=by omega
 have h4:¬id<0:=by omega
 have h5:¬1073741824<id:=by omega
 have h6:¬id<t:=by omega
 go_enter Tryz.func217,Tryz.ntmps217
 go_wp2_with fail
 obtain⟨W,hW,wb0,B0,S0⟩:=uE w t s;rw[←hW];clear hW;refine(rA t s _ h).mono ?_;rintro e w1 ⟨rfl,b1⟩;have wb:=wb0.next b1;have HW:=ai wb;have HB:=ai (Below.next B0 b1);obtain⟨c0,c1,c2,c3,c4,c5,c6,c7,c8⟩:=wb.cells;clear wb wb0 B0 S0 b1 h
 go_wp2_with (go_at_call 214;refine(ia t s _ hl hh).mono ?_;rintro e w2 ⟨rfl,b2⟩;obtain⟨c0,c1,c2,c3,c4,c5,c6,c7,c8⟩:=((aa HW).next b2).cells)
 go_ret2;exact⟨rfl,Below.next (aa HB) b2⟩
theorem RN(t id:Int)(s:tQ)(w:tA)(h:fO t s)(h0:0≤id)(h1:id≤1073741824)(h2:t-8≤id):
  cA 217 #[cH t s,iV id] w (rB (.tuple #[.bool (gU t s id),iV 0]) w):=by
 by_cases aN:id<t
 ·obtain⟨k,hk⟩:∃k:Nat,id=t-8+k:=⟨(id-(t-8)).toNat,by omega⟩;subst hk;rw[qj k (by omega)];exact ME t k s w h h0 (by omega)
 ·have e1:gU t s id=false:=by
   simp only[gU];rw[show decide (id<t)=false by simp;omega];simp
  rw[e1];exact Ew t id s w h h0 h1 (by omega)
theorem zl{W:tA}{R:Nat}{t:Int}{s:tQ}{tmps:tR}(h:aK W R t s)(t4:tmps[4]? =some (.pointer (some ⟨R,0,none⟩))):
  (results Tryz.f218 tmps).run Tryz.prog W= .ok (cH t s) W:=by
 obtain⟨c0,c1,c2,c3,c4,c5,c6,c7,c8⟩:=h.cells;simp[results,Tryz.results218,go_sem,c0,c1,c2,c3,c4,c5,c6,c7,c8,t4]
def kv(w:tA)(R:Nat)(s:tQ):Prop:=w.heap[R]? =some (.cells #[.bool (s 0),.bool (s 1),.bool (s 2),.bool (s 3),.bool (s 4),.bool (s 5),.bool (s 6),.bool (s 7)] 107 (0,0))
theorem kv.cells{w:tA}{R:Nat}{s:tQ}(h:kv w R s):
  w.cell? ⟨R,0,none⟩=some (.bool (s 0))∧w.cell? ⟨R,1,none⟩=some (.bool (s 1))∧w.cell? ⟨R,2,none⟩=some (.bool (s 2))∧w.cell? ⟨R,3,none⟩=some (.bool (s 3))∧
  w.cell? ⟨R,4,none⟩=some (.bool (s 4))∧w.cell? ⟨R,5,none⟩=some (.bool (s 5))∧w.cell? ⟨R,6,none⟩=some (.bool (s 6))∧w.cell? ⟨R,7,none⟩=some (.bool (s 7)):=by
 unfold kv at h;simp[World.cell?,h]
theorem uL(w:tA)(t z:Int)(s:tQ):∃W,W=((w.alloc (.cells (fq t s) 109)).alloc (.cells #[iV z,.bool false,.bool false,.bool false,.bool false,.bool false,.bool false,.bool false,.bool false] 109)).alloc
   (.cells #[.bool false,.bool false,.bool false,.bool false,.bool false,.bool false,.bool false,.bool false] 107)∧
  aK W w.heap.size t s∧aK W (w.heap.size+1) z kl∧kv W (w.heap.size+1+1) kl∧bZ w W∧W.heap.size=w.heap.size+3:=by
 refine⟨_,rfl, ?_, ?_, ?_, ?_,by simp⟩
 ·exact((aK.new w t s).below (aC _ _) (by simp)).below (aC _ _) (by simp;omega)
 ·have:=(aK.new (w.alloc (.cells (fq t s) 109)) z kl).below (aC _ (.cells #[.bool false,.bool false,.bool false,.bool false,.bool false,.bool false,.bool false,.bool false] 107)) (by simp);rw[show(w.alloc (.cells (fq t s) 109)).heap.size=w.heap.size+1 by simp]at this;exact this
 ·have:=AP ((w.alloc (.cells (fq t s) 109)).alloc (.cells #[iV z,.bool false,.bool false,.bool false,.bool false,.bool false,.bool false,.bool false,.bool false] 109)) (.cells #[.bool false,.bool false,.bool false,.bool false,.bool false,.bool false,.bool false,.bool false] 107);simpa[kv,kl]using this
 ·exact(gm w _ _).trans ((aC _ _).mono (by simp;omega))
theorem zm(R o:Nat):∀u:Nat,u<8→∀w:World,
  (Instr.sliceAt 107 (.pointer (some ⟨R,o,none⟩)) (some (iV u)) none none).run Tryz.prog w= .ok (.slice (some ⟨R,o+u,none⟩) (8-u) (8-u)) w:=by
 refine yV ?_ ?_ ?_ ?_ ?_ ?_ ?_ ?_<;>(intro w;simp[go_sem])
theorem RO{W:tA}{R:Nat}{t:Int}{s:tQ}(h:aK W R t s)(u:Nat)(hu:u<8):
  ∀j v,((List.range (8-u)).map fun j=>Value.bool (s (u+j)))[j]? =some v→W.cell? ((⟨R,1+u,none⟩:Addr).add j)=some v:=by
 intro j v hj;have aN:j<8-u:=by
  rcases AG j (8-u)with h'|h'
  ·exact h'
  ·rw[List.getElem?_eq_none (by simpa using h')]at hj;cases hj
 rw[Ax,List.getElem?_range aN]at hj;simp only[Option.map_some,Option.some.injEq]at hj;have e:(⟨R,1+u,none⟩:Addr).add j=⟨R,1+(u+j),none⟩:=by unfold Addr.add;split<;>simp_all;omega
 rw[e,h.cell (u+j) (by omega),hj]
theorem copied(u:Nat)(s s':tQ)(h0:u<8)(hs:∀j,j<8→s' j=(decide (j+u<8)&&s (u+j))):
  (splice [Value.bool false,.bool false,.bool false,.bool false,.bool false,.bool false,.bool false,.bool false] 0 ((List.range (8-u)).map fun j=>Value.bool (s (u+j)))).toArray= #[.bool (s' 0),.bool (s' 1),.bool (s' 2),.bool (s' 3),.bool (s' 4),.bool (s' 5),.bool (s' 6),.bool (s' 7)]:=by
 rw[hs 0 (by omega),hs 1 (by omega),hs 2 (by omega),hs 3 (by omega),hs 4 (by omega),hs 5 (by omega),hs 6 (by omega),hs 7 (by omega)];revert u;refine yV ?_ ?_ ?_ ?_ ?_ ?_ ?_ ?_<;>(intros;simp[splice,List.range_succ])
theorem KA(B:Nat)(W:tA):Below B W W.drew:=⟨rfl,rfl,rfl,Ac _,fun _ _=>rfl⟩
theorem H8(t:Int)(u:Nat)(s:tQ)(w:tA)(_:0≤t)(_:t≤1073741825)(hu0:0<u)(oV:u<8):
  cA 218 #[cH t s,iV (t+(u:Int))] w (rB (cH (t+(u:Int)) (fun j=>decide (j+u<8)&&s (u+j))) w):=by
 obtain⟨top,htop⟩:∃top,top=t+(u:Int):=⟨_,rfl⟩;rw[←htop];have e1:top-t=(u:Int):=by omega
 have HT:=ai htop;clear htop;go_enter Tryz.func218,Tryz.ntmps218
 go_wp2_with fail
 obtain⟨W,hW,wb0,wb1,sb0,B0,S0⟩:=uL w t 0 s;rw[←hW];clear hW;have hsl:=zm w.heap.size 1 u oV;have Oq:=RO wb0 u oV;have hln:((List.range (8-u)).map fun j=>Value.bool (s (u+j))).length=Nat.min (8-u) 8:=by simp
 have hft:0+((List.range (8-u)).map fun j=>Value.bool (s (u+j))).length≤[Value.bool false,.bool false,.bool false,.bool false,.bool false,.bool false,.bool false,.bool false].length:=by simp
 have hon:∀v∈((List.range (8-u)).map fun j=>Value.bool (s (u+j))),v.oneCell'=true:=by
  intro v hv;obtain⟨j,_,rfl⟩:=Ay.1 hv;rfl
 go_region_law (refine step_copy_splice rfl (.tmp 13) (.tmp 16) 299 299 rfl 4 Tryz.underlying299 (by kernel_rfl) (some ⟨w.heap.size+1+1,0,none⟩) (some ⟨w.heap.size,1+u,none⟩) 8 8 (8-u) (8-u) rfl rfl (w.heap.size+1+1) 0 [.bool false,.bool false,.bool false,.bool false,.bool false,.bool false,.bool false,.bool false] 107 sb0 _ hln (fun _=>⟨rfl,_,rfl,Oq⟩) hft hon (w.heap.size+2) W (KA _ _) (Ac _) ?_;intro w4 hg4 hb4)
 obtain⟨s',hs'⟩:∃s':Nat→Bool,s'=fun j=>decide (j+u<8)&&s (u+j):=⟨_,rfl⟩;have HS:=ai hs';have sb4:kv w4 (w.heap.size+1+1) s':=by
  unfold kv;rw[←copied u s s' oV (fun j _=>by rw[hs'])];exact hg4.out
 have wb4:aK w4 (w.heap.size+1) 0 kl:=wb1.below hb4 (by omega);have B4:bZ w w4:=B0.trans (hb4.mono (by omega));obtain⟨c0,c1,c2,c3,c4,c5,c6,c7⟩:=sb4.cells;obtain⟨d0,d1,d2,d3,d4,d5,d6,d7,d8⟩:=wb4.cells;have df:=wb4.free;have HB:=ai B4;have HW:=ai wb4;clear sb4 wb4 B4 hs' hg4 hb4 sb0 wb0 wb1 B0 S0 Oq hln hft hon hsl;go_wp2;have e2:(fun j=>decide (j+u<8)&&s (u+j))=s':=(aa HS).symm;exact Ao (zl ((aa HW).store top s') rfl) rfl ⟨by rw[e2],fX (aa HB) _ (by omega) _ _⟩
theorem KB(t top:Int)(s:tQ)(w:tA)(h0:0≤t)(h1:t+8≤top)(h2:top≤1073741825):
  cA 218 #[cH t s,iV top] w (rB (cH top kl) w):=by
 have e1:¬top-t<8:=by omega
 go_enter Tryz.func218,Tryz.ntmps218
 go_wp2_with fail
 obtain⟨W,hW,wb0,wb1,sb0,B0,S0⟩:=uL w t top s;rw[←hW];exact Ao (zl wb1 rfl) rfl ⟨rfl,B0⟩
theorem KC(t top:Int)(s:tQ)(w:tA)(h0:0≤t)(h1:t<top)(h2:top≤1073741825):
  cA 218 #[cH t s,iV top] w (rB (cH top (fun j=>gU t s (top-8+j))) w):=by
 by_cases hf:t+8≤top
 ·refine(KB t top s w h0 hf h2).mono ?_;rintro e w' ⟨rfl,b⟩;refine⟨?_,b⟩;congr 1;refine Er rfl fun i hi=> ?_;simp only[gU];rw[show decide (top-8+(i:Int)<t)=false by simp;omega];simp[kl]
 ·obtain⟨u,hu⟩:∃u:Nat,top=t+u:=⟨(top-t).toNat,by omega⟩;subst hu;refine(H8 t u s w h0 (by omega) (by omega) (by omega)).mono ?_;rintro e w' ⟨rfl,b⟩;refine⟨?_,b⟩;congr 1;refine Er rfl fun i hi=> ?_;by_cases Zh:i+u<8
  ·rw[show t+(u:Int)-8+(i:Int)=t-8+((u+i:Nat):Int) by omega,qj (u+i) (by omega)];simp[Zh]
  ·simp only[gU];rw[show decide (t+(u:Int)-8+(i:Int)<t)=false by simp;omega];simp[Zh]
theorem uM{W:tA}{R:Nat}{t e:Int}{s:tQ}{b:Bool}{tmps:tR}(h:aK W R t s)(t4:tmps[4]? =some (.pointer (some ⟨R,0,none⟩)))(t5:tmps[5]? =some (.bool b))(t6:tmps[6]? =some (iV e)):
  (results Tryz.f206 tmps).run Tryz.prog W= .ok (.tuple #[cH t s,.bool b,iV e]) W:=by
 obtain⟨c0,c1,c2,c3,c4,c5,c6,c7,c8⟩:=h.cells;simp[results,Tryz.results206,go_sem,c0,c1,c2,c3,c4,c5,c6,c7,c8,t4,t5,t6]
theorem uN(w:tA)(t:Int)(s:tQ):∃W,W=(w.alloc (.cells (fq t s) 109)).alloc (.cells #[iV 0,.bool false,.bool false,.bool false,.bool false,.bool false,.bool false,.bool false,.bool false] 109)∧
  aK W w.heap.size t s∧aK W (w.heap.size+1) 0 kl∧bZ w W∧W.heap.size=w.heap.size+2:=by
 refine⟨_,rfl,(aK.new w t s).below (aC _ _) (by simp), ?_,gm _ _ _,by simp⟩;have:=aK.new (w.alloc (.cells (fq t s) 109)) 0 kl;rw[show(w.alloc (.cells (fq t s) 109)).heap.size=w.heap.size+1 by simp]at this;exact this
theorem aK.none{w:tA}{R:Nat}{t:Int}{s:tQ}(h:aK w R t s):
  aK (((((((((w.setCell ⟨R,0,none⟩ (iV 0)).setCell ⟨R,1,none⟩ (.bool false)).setCell ⟨R,2,none⟩ (.bool false)).setCell ⟨R,3,none⟩ (.bool false)).setCell ⟨R,4,none⟩ (.bool false)).setCell ⟨R,5,none⟩ (.bool false)).setCell ⟨R,6,none⟩ (.bool false)).setCell ⟨R,7,none⟩ (.bool false)).setCell ⟨R,8,none⟩ (.bool false)) R 0 kl:=
 h.store 0 kl
theorem DG{B:Nat}{w0 w:tA}(hb:Below B w0 w)(R:Nat)(hR:B≤R):
  Below B w0 (((((((((w.setCell ⟨R,0,none⟩ (iV 0)).setCell ⟨R,1,none⟩ (.bool false)).setCell ⟨R,2,none⟩ (.bool false)).setCell ⟨R,3,none⟩ (.bool false)).setCell ⟨R,4,none⟩ (.bool false)).setCell ⟨R,5,none⟩ (.bool false)).setCell ⟨R,6,none⟩ (.bool false)).setCell ⟨R,7,none⟩ (.bool false)).setCell ⟨R,8,none⟩ (.bool false)):=
 fX hb R hR 0 kl
theorem RP(t id e0:Int)(s:tQ)(w:tA)(he:¬e0=0)(h:∀w,cA 217 #[cH t s,iV id] w (rB (.tuple #[.bool false,iV e0]) w)):
  cA 206 #[cH t s,iV id] w (rB (.tuple #[cH 0 kl,.bool false,iV e0]) w):=by
 go_enter Tryz.func206,Tryz.ntmps206
 go_wp2_with fail
 obtain⟨W,hW,wb0,wb1,B0,S0⟩:=uN w t s;rw[←hW];clear hW;refine(h _).mono ?_;rintro e w1 ⟨rfl,b1⟩;have wb:=wb1.next b1;have HW:=ai wb;have HB:=ai (Below.next B0 b1);obtain⟨d0,d1,d2,d3,d4,d5,d6,d7,d8⟩:=wb.cells;have df:=wb.free;clear wb wb0 wb1 B0 S0 b1 h;go_wp2;exact Ao (uM (aa HW).none rfl rfl rfl) rfl ⟨rfl,DG (aa HB) _ (by omega)⟩
theorem RQ(t id:Int)(s:tQ)(w:tA)(h:fO t s)(h0:0≤id)(h1:id≤1073741824)(h2:id<t-8):
  cA 206 #[cH t s,iV id] w (rB (.tuple #[cH 0 kl,.bool false,iV 9]) w):=
 RP t id 9 s w (by decide) (fun w=>RM t id s w h h0 h1 h2)
theorem RS(t id:Int)(s:tQ)(w:tA)(h:fO t s)(h0:0≤id)(h1:id≤1073741824)(h2:gU t s id=true):
  cA 206 #[cH t s,iV id] w (rB (.tuple #[cH t s,.bool false,iV 0]) w):=by
 have h3:t-8≤id:=by
  obtain⟨i,_,_,rfl⟩:=vW.1 h2;omega
 go_enter Tryz.func206,Tryz.ntmps206
 go_wp2_with fail
 obtain⟨W,hW,wb0,wb1,B0,S0⟩:=uN w t s;rw[←hW];clear hW;refine(RN t id s _ h h0 h1 h3).mono ?_;rw[h2];rintro e w1 ⟨rfl,b1⟩;have wa:=wb0.next b1;have wb:=wb1.next b1;have HW:=ai wb;have HB:=ai (Below.next B0 b1);obtain⟨c0,c1,c2,c3,c4,c5,c6,c7,c8⟩:=wa.cells;obtain⟨d0,d1,d2,d3,d4,d5,d6,d7,d8⟩:=wb.cells;have df:=wb.free;clear wa wb wb0 wb1 B0 S0 b1 h;go_wp2;exact Ao (uM ((aa HW).store t s) rfl rfl rfl) rfl ⟨rfl,fX (aa HB) _ (by omega) _ _⟩
theorem zn{B R o:Nat}{w0 w:tA}{v:tK}(hb:Below B w0 w)(hR:B≤R):Below B w0 (w.setCell ⟨R,o,none⟩ v):=hb.setCell hR v
theorem RU(t:Int)(k:Nat)(s s':tQ)(w:tA)(h:fO t s)(h0:0≤t-8+(k:Int))(h1:k<8)(h2:s k=false)(hs:∀i,i<8→s' i=if i=k then true else s i):
  cA 206 #[cH t s,iV (t-8+(k:Int))] w (rB (.tuple #[cH t s',.bool true,iV 0]) w):=by
 have hl:=h.low;have hh:=h.high;obtain⟨id,N_⟩:∃id,id=t-8+(k:Int):=⟨_,rfl⟩;have H1:∀w,cA 217 #[cH t s,iV id] w (rB (.tuple #[.bool false,iV 0]) w):=by
  intro w;have:=ME t k s w h h0 h1;rw[h2]at this;rw[N_];exact this
 rw[←N_];have h6:¬t≤id:=by omega
 have h7:(id-(t-8)).toNat=k:=by omega
 have h8:0≤id-(t-8):=by omega
 have h9:id-(t-8)<8:=by omega
 have HI:=ai N_;have HS:=ai hs;clear N_ h0 hs;go_enter Tryz.func206,Tryz.ntmps206
 go_wp2_with fail
 obtain⟨W,hW,wb0,wb1,B0,S0⟩:=uN w t s;rw[←hW];clear hW;refine(H1 _).mono ?_;rintro e w1 ⟨rfl,b1⟩;have wa:=wb0.next b1;have wb:=wb1.next b1;have HV:=ai wa;have HW:=ai wb;have HB:=ai (Below.next B0 b1);obtain⟨c0,c1,c2,c3,c4,c5,c6,c7,c8⟩:=wa.cells;clear wa wb wb0 wb1 B0 S0 b1 h h2 H1
 go_wp2_with (go_at_call 214;refine(ia t s _ hl hh).mono ?_;rintro e w2 ⟨rfl,b2⟩;have va:=(aa HV).next b2;have vb:=(aa HW).next b2;have ue:=ai (Below.next (aa HB) b2);clear HB HW HV;have ck:=va.cell k h1;have cf:=va.free;have vc:=va.mark k h1 true s' (aa HS);have vd:=vb.other (o:=1+k) (v:= .bool true) (R':=w.heap.size) (by omega);obtain⟨c0,c1,c2,c3,c4,c5,c6,c7,c8⟩:=vc.cells;obtain⟨d0,d1,d2,d3,d4,d5,d6,d7,d8⟩:=vd.cells;have df:=vd.free;have VC:=ai vc;have VD:=ai vd;clear va vb vc vd)
 exact Ao (uM ((aa VD).store t s') rfl rfl rfl) rfl ⟨rfl,fX (zn (aa ue) (Ac _)) _ (by omega) _ _⟩
theorem Ot(t id:Int)(s s1 s':tQ)(w:tA)(h:fO t s)(h0:t≤id)(h1:id≤1073741824)(RB:s1=fun j:Nat=>gU t s (id+1-8+(j:Int)))(hs:∀i,i<8→s' i=if i=7 then true else s1 i):
  cA 206 #[cH t s,iV id] w (rB (.tuple #[cH (id+1) s',.bool true,iV 0]) w):=by
 have hl:=h.low;have hh:=h.high;obtain⟨T,hT⟩:∃T,T=id+1:=⟨_,rfl⟩;have H2:∀w,cA 218 #[cH t s,iV T] w (rB (cH T s1) w):=by
  intro w;have:=KC t T s w hl (by omega) (by omega);rw[RB,←hT];exact this
 have H1:=fun w=>Ew t id s w h (by omega) h1 h0;rw[←hT];have h7:id-(T-8)=7:=by omega
 have h8:0≤T:=by omega
 have h9:T≤1073741825:=by omega
 have hw:IntKind.i64.wrap (id+1)=T:=by rw[IntKind.wrap_i64];omega
 have HS:=ai hs;clear hs RB hT;go_enter Tryz.func206,Tryz.ntmps206
 go_wp2_with fail
 obtain⟨W,hW,wb0,wb1,B0,S0⟩:=uN w t s;rw[←hW];clear hW;refine(H1 _).mono ?_;rintro e w1 ⟨rfl,b1⟩;have wa:=wb0.next b1;have wb:=wb1.next b1;have HV:=ai wa;have HW:=ai wb;have HB:=ai (Below.next B0 b1);obtain⟨c0,c1,c2,c3,c4,c5,c6,c7,c8⟩:=wa.cells;clear wa wb wb0 wb1 B0 S0 b1 h H1
 go_wp2_with fail
 refine(H2 _).mono ?_;rintro e w2 ⟨rfl,b2⟩;have va:=(aa HV).next b2;have vb:=(aa HW).next b2;have ue:=ai (Below.next (aa HB) b2);obtain⟨c0,c1,c2,c3,c4,c5,c6,c7,c8⟩:=va.cells;have cf:=va.free;clear HB HV HW b2 H2
 go_wp2_with fail
 obtain⟨W3,hW3,va3,vb3,DF⟩:∃W3,W3=mH w2 w.heap.size T s1∧aK W3 w.heap.size T s1∧aK W3 (w.heap.size+1) 0 kl∧bZ w W3:=by
  refine⟨_,rfl,va.store T s1, ?_,fX (aa ue) _ (Ac _) _ _⟩;unfold aK at vb⊢;rw[yW _ _ _ _ _ (by omega)];exact vb
 unfold mH at hW3;rw[←hW3];clear hW3 va vb ue c0 c1 c2 c3 c4 c5 c6 c7 c8 cf;refine(ia T s1 _ h8 h9).mono ?_;rintro e w4 ⟨rfl,b4⟩;have va:=va3.next b4;have vb:=vb3.next b4;have MF:=ai (Below.next DF b4);have vc:=va.mark 7 (by omega) true s' (aa HS);have vd:=vb.other (o:=8) (v:= .bool true) (R':=w.heap.size) (by omega);have ck:=va.cell 7 (by omega);have cf:=va.free;obtain⟨c0,c1,c2,c3,c4,c5,c6,c7,c8⟩:=vc.cells;obtain⟨d0,d1,d2,d3,d4,d5,d6,d7,d8⟩:=vd.cells;have df:=vd.free;have VC:=ai vc;have VD:=ai vd;clear va vb vc vd va3 vb3 DF b4;go_wp2;exact Ao (uM ((aa VD).store T s') rfl rfl rfl) rfl ⟨rfl,fX (zn (aa MF) (Ac _)) _ (by omega) _ _⟩
theorem RV(t id:Int)(s:tQ)(w:tA)(h:fO t s)(h0:0≤id)(h1:id≤1073741824)(h2:t-8≤id)(h3:gU t s id=false):
  cA 206 #[cH t s,iV id] w (rB (.tuple #[cH (h_ t id) (eZ t s id),.bool true,iV 0]) w):=by
 by_cases hc:t≤id
 ·have e:h_ t id=id+1:=by unfold h_;rw[Ae hc]
  have:=Ot t id s (fun j:Nat=>gU t s (id+1-8+(j:Int))) (eZ t s id) w h hc h1 rfl (by
   intro i hi;unfold eZ;rw[e];by_cases h7:i=7
   ·subst h7;rw[Ae rfl,show decide (id+1-8+((7:Nat):Int)=id)=true by simp;omega];rfl
   ·rw[Aa h7,show decide (id+1-8+(i:Int)=id)=false by simp;omega]
    rfl)
  rw[e];exact this
 ·have e:h_ t id=t:=by unfold h_;rw[Aa hc]
  obtain⟨k,hk⟩:∃k:Nat,id=t-8+k:=⟨(id-(t-8)).toNat,by omega⟩;have hk8:k<8:=by omega
  have YH:s k=false:=by rw[←qj (t:=t) (s:=s) k hk8,←hk];exact h3
  have:=RU t k s (eZ t s id) w h (by omega) hk8 YH (by
   intro i hi;unfold eZ;rw[e,qj i hi];by_cases h7:i=k
   ·subst h7;rw[Ae rfl,show decide (t-8+(i:Int)=id)=true by simp;omega];rfl
   ·rw[Aa h7,show decide (t-8+(i:Int)=id)=false by simp;omega]
    rfl)
  rw[e];rw[←hk]at this;exact this
def xU{α:Type}(f:Nat→α)(P:Nat)(x:α):Nat→α:=fun q=>if q=P then x else f q
theorem H9(B:Nat)(w:tA):aB B w w.drew:=⟨rfl,rfl,rfl,rfl,fun _ _=>rfl⟩
structure Pc(w wx:tA)(base B:Nat)(ep nx gv:Int)(a1:tB)(rn c1:Nat)(R:tG)(a2:tB)(ln c2:Nat)(L:tG)(ws:tD)(A:Nat):Prop where
 d:bk wx B ep nx gv (.slice a1 rn c1) (.slice a2 ln c2) ws
 o1:wx.ownsRow base 278 2 (.slice a1 rn c1) rn (R.map (Value.int .i64))
 o2:wx.ownsRow base 281 4 (.slice a2 ln c2) ln (L.map (Value.int .i64))
 a:aV wx A 0 0 0 0
 dp:Below base w wx
 up:base≤B
section
variable{w wx W5 w5:tA}{base B:Nat}{ep nx gv:Int}{a1 a2 a3:tB}{rn ln c1 c2 c3:Nat}{R L:tG}{ws ws':tD}{A:Nat}
theorem Pc.next(C:Pc w wx base B ep nx gv a1 rn c1 R a2 ln c2 L ws A){wy:tA}(hb:bZ wx wy)(d_:base≤wx.heap.size):Pc w wy base B ep nx gv a1 rn c1 R a2 ln c2 L ws A:=
 ⟨C.d.next hb,aJ C.o1 (fun g _ hg=>hb.block g hg),aJ C.o2 (fun g _ hg=>hb.block g hg),C.a.next hb,C.dp.trans (hb.mono d_),C.up⟩
theorem Pc.ready(C:Pc w wx base B ep nx gv a1 rn c1 R a2 ln c2 L ws A)(b5:bZ wx W5)(gr:W5.grownBy w5 (Value.slice a1 rn c1).ownBlock)(ys:tG)(d_:base≤wx.heap.size)
  (own:w5.ownsRow base 278 2 (.slice a3 (rn+1) c3) (rn+1) ((R++ys).map (Value.int .i64))):
  bk w5 B ep nx gv (.slice a1 rn c1) (.slice a2 ln c2) ws∧Pc w (w5.setCell ⟨B,3,none⟩ (.slice a3 (rn+1) c3)) base B ep nx gv a3 (rn+1) c3 (R++ys) a2 ln c2 L ws A:=by
 have keep:∀X o,wx.heap[X]? =some o→(Value.slice a1 rn c1).ownBlock≠some X→w5.heap[X]? =some o:=by
  intro X o hX fR;have hl:=cI hX;rw[gr.block X (by have:=b5.size;omega) (fun e=>fR e.symm),b5.block X hl];exact hX
 have hB:bk w5 B ep nx gv (.slice a1 rn c1) (.slice a2 ln c2) ws:=keep B _ C.d (fun e=>aX C.o1 C.d (by decide) B e rfl);have t:=aB.set B 3 w5 (.slice a3 (rn+1) c3);have hA:aV w5 A 0 0 0 0:=keep A _ C.a (fun e=>aX C.o1 C.a (by decide) A e rfl);have o2':w5.ownsRow base 281 4 (.slice a2 ln c2) ln (L.map (Value.int .i64)):=
  rD (aJ C.o2 (fun q _ hq=>b5.block q hq)) gr (fun q h1 h2=>jv C.o2 C.o1 (by decide) q h1 h2)
 have gQ:Below base w w5:=(C.dp.trans (b5.mono d_)).grown gr (by have:=b5.size;omega) (fun q hq=>(C.o1.lt q hq).1);exact⟨hB,hB.ready _,t.owns own (aX own hB (by decide)),t.owns o2' (aX o2' hB (by decide)),hA.dR t (cT hA hB (by decide)),t.under gQ C.up,C.up⟩
end
section
open Rv
theorem zo(w:tA):Below w.heap.size w w.drew:=⟨rfl,rfl,rfl,Ac _,fun _ _=>rfl⟩
def qG(ep nx gv:Int)(r l:tK)(ws:tD):Nat→Value:=fun i=>if i<5 then[iV ep,iV nx,iV gv,r,l].getD i undef else ws (i-5)
theorem ZF{t:Int}{s:tQ}:aW (cy (wS t s)) 9:=fun i hi=>by
 obtain rfl|rfl|rfl|rfl|rfl|rfl|rfl|rfl|rfl:i=0∨i=1∨i=2∨i=3∨i=4∨i=5∨i=6∨i=7∨i=8:=(by omega)<;>rfl
theorem RX(t:Int)(s:tQ){i:Nat}(hi:i<9):cy (wS t s) i=if i=0 then iV t else .bool (s (i-1)):=by
 obtain rfl|rfl|rfl|rfl|rfl|rfl|rfl|rfl|rfl:i=0∨i=1∨i=2∨i=3∨i=4∨i=5∨i=6∨i=7∨i=8:=(by omega)<;>rfl
theorem ZG{ep nx gv:Int}{r l:tK}{ws:tD}{wt:tH}{wz:Nat→Nat→Bool}(hW:gP ws wt wz){P i:Nat}(hP:P<4)(hi:i<9):qG ep nx gv r l ws (0+5+P*9+i)=cy (wS (wt P) (wz P)) i:=by
 obtain⟨h0,h1⟩:=hW P hP;unfold qG;rw[Aa (by omega),RX _ _ hi];by_cases e:i=0
 ·rw[Ae e,←h0];exact AB ws (by omega)
 ·rw[Aa e,←h1 (i-1) (by omega)];exact AB ws (by omega)
def ww(ws:tD)(P:Nat)(t:Int)(s:tQ):Nat→Value:=fun i=>if 9*P≤i∧i<9*P+9 then cy (wS t s) (i-9*P)else ws i
theorem ZH{ep nx gv:Int}{r l:tK}{ws:tD}{t:Int}{s:tQ}{P:Nat}(i:Nat):gh (qG ep nx gv r l ws) (0+5+P*9) 9 (cy (wS t s)) i=qG ep nx gv r l (ww ws P t s) i:=by
 unfold gh qG ww;by_cases h5:i<5
 ·rw[Aa (by omega),Ae h5,Ae h5]
 ·rw[Aa h5,Aa h5];by_cases hc:9*P≤i-5∧i-5<9*P+9
  ·rw[Ae (by omega),Ae hc];exact AB _ (by omega)
  ·rw[Aa (by omega),Aa hc]
theorem gP.ww{ws:tD}{wt:tH}{wz:Nat→Nat→Bool}(h:gP ws wt wz)(P:Nat)(t:Int)(s:tQ):gP (ww ws P t s) (xU wt P t) (xU wz P s):=fun q hq=>by
 obtain⟨h0,h1⟩:=h q hq;unfold Go.Proofs.YtpgkjpomaffbmaaGreatDoor.ww xU;by_cases e:q=P
 ·subst e;refine⟨?_,fun j hj=> ?_⟩
  ·rw[Ae (by omega),Ae rfl,RX _ _ (by omega),Ae (by omega)]
  ·rw[Ae (by omega),Ae rfl,RX _ _ (by omega),Aa (by omega)];exact AB (fun n=>Value.bool (s n)) (by omega)
 ·refine⟨?_,fun j hj=> ?_⟩
  ·rw[Aa (by omega),Aa e];exact h0
  ·rw[Aa (by omega),Aa e];exact h1 j hj
theorem qm(base B P:Nat)(ep nx gv:Int)(a1:tB)(rn c1:Nat)(a2:tB)(ln c2:Nat)(R L:tG)(ws:tD)(wt:tH)(wz:Nat→Nat→Bool)(k i b he hn:Int)(w:tA)(D:rZ w base B ep nx gv a1 rn c1 a2 ln c2 R L ws)(hW:gP ws wt wz)(d_:base≤w.heap.size)(hP:P<4)(hs:rn+ln≤500)(n0:0≤nx)(n1:nx≤1073741824)(wb:(Lit.int .i64 b).wf=true)
  (t':Int) (s':tQ) (fr:Bool) (rf:Int) (TK:∀w,cA 206 #[cH (wt P) (wz P),iV i] w (rB (.tuple #[cH t' s',.bool fr,iV rf]) w))
  (Q:Value→World→Prop) (HN:Hid (((¬rf=0)∨(rf=0∧fr=false))→∀w',bZ w w'→Q (.tuple #[ib rf 0 0 0,.bool false]) w'))
  (HF:Hid ((rf=0∧fr=true)→(500≤rn+ln∨nx=1073741824)→∀w',bZ w w'→Q (.tuple #[ib 14 0 0 0,.bool false]) w'))
  (HY:Hid ((rf=0∧fr=true)→rn+ln<500→nx<1073741824→∀w',jQ w' base B ep (nx+1) gv (rn+1) (R++[nx,b]) ln L (xU wt P t') (xU wz P s')→Below base w w'→Q (.tuple #[ib 0 0 0 0,.bool true]) w')):
  cA 193 #[.pointer (some ⟨B,0,none⟩),zi k P i b he hn] w fun e w'=>∃v,e= .returned v∧Q v w':=by
 have os':aW (cy (wS t' s')) 9:=ZF;have fb:bh w B 255 41 (qG ep nx gv (.slice a1 rn c1) (.slice a2 ln c2) ws):=D.d;have hb:=D.d.lt;have hS:Mem w (Rv.hs [⟨B,255,[.f 41 (qG ep nx gv (.slice a1 rn c1) (.slice a2 ln c2) ws)]⟩]) (fun b=>(Value.slice a1 rn c1).ownBlock=some b∨False) (fun y=>y.ownsRow base 281 4 (.slice a2 ln c2) ln (L.map (Value.int .i64))) (fun y=>dB (fun b=>b∈[B]) w y∧y.ownsRow base 278 2 (.slice a1 rn c1) rn (R.map (Value.int .i64))):=
  Mem.sr (Mem.begin (fun e he=>by cases Ab.1 he;exact fb) (BN _ _) (fun e he h=>by cases Ab.1 he;exact h.elim (fun h=>aX D.o1 D.d (by decide) B h rfl) id) (fun b h=>h.elim (fun h=>(D.o1.lt b h).2) False.elim) fun y c=>aJ D.o2 fun g hg hl=>c.block g hl fun hu=>hu.elim (fun hu=>aX D.o2 D.d (by decide) g hg (Ab.1 hu)) fun hu=>hu.elim (fun hu=>jv D.o1 D.o2 (by decide) g hu hg) id) fun y c=>⟨c,aJ D.o1 fun g hg hl=>c.block g hl fun hu=>aX D.o1 D.d (by decide) g hg (Ab.1 hu)⟩
 have out:∀{H:List bX} {M:tF} {Γ:tJ} {y:tA},Mem y (⟨B,255,41,qG ep nx gv (.slice a1 rn c1) (.slice a2 ln c2) ws⟩::H) M Γ (fun y=>dB (fun b=>b∈[B]) w y∧y.ownsRow base 278 2 (.slice a1 rn c1) rn (R.map (Value.int .i64)))→bZ w y:=fun hS=>(hS.now.2.1.less (U:=fun _=>False) fun b hb=> .inr ⟨_,_,_,Ab.1 hb▸fb,Ab.1 hb▸hS.at 0 rfl⟩).below (Ac _) fun _ _ h=>h;refine en _ [vp 0 0 B,vg [.o (iV k),.o (iV (P:Int)),.o (iV i),.o (iV b),.o (iV he),.o (iV hn)]] Tryz.func193 rfl rfl hS (r [] rfl fun α=> ?_);refine cut (X:=Nat) (fun x=>[(0,vp 0 0 B),(3,vp 1 0 (α 0)),(4,vp 2 0 (α 1)),(6,vp 3 0 x),(7,vv (.bool fr)),(8,vi rf)]) (fun x=>[⟨B,255,[.f 41 (qG ep nx gv (.slice a1 rn c1) (.slice a2 ln c2) ws)]⟩,⟨α 0,56,[.o (iV k),.o (iV (P:Int)),.o (iV i),.o (iV b),.o (iV he),.o (iV hn)]⟩,⟨α 1,59,[.o (iV 0),.o (iV 0),.o (iV 0),.o (iV 0)]⟩,⟨x,109,wS t' s'⟩]) (fun _ b=>(Value.slice a1 rn c1).ownBlock=some b∨False) (fun _ y=>y.ownsRow base 281 4 (.slice a2 ln c2) ln (L.map (Value.int .i64))) (fun _ y=>dB (fun b=>b∈[B]) w y∧y.ownsRow base 278 2 (.slice a1 rn c1) rn (R.map (Value.int .i64))) (fun _=>True) ?_ (r [4,1] rfl fun _=>lo rfl rfl 0 rfl 9 (cy (wS (wt P) (wz P))) (fun j hj=>ZG hW hP hj) ?_ (show 0+0+5+P*9+9≤41 by omega))
 case refine_2=>
  repeat' first|refine FC ?_ ?_|(refine Rv.cb (g:=206) rfl (vt [.g (wS t' s'),.o (.bool fr),.o (.int .i64 rf)]) ?_ ?_;exact fun w _=>TK w)|refine rs [] rfl rfl fun _=> ?_
  all_goals exact bJ _ ⟨rfl,rfl,rfl,rfl,rfl,rfl,trivial⟩ (fun w hS=>hS.Kj [0,1,2,3] (by decide)) trivial Bp
 rintro f X _;by_cases hrf:rf=0
 case neg=>exact r [1] rfl fun _=>Rv.cb rfl (vt [.g [.o (iV rf),.o (iV 0),.o (iV 0),.o (iV 0)],.o (.bool false)]) (fun w _=>dV rf w) (r [] rfl fun _=>fin fun w hS=>⟨_,rfl,aa HN (.inl hrf) w (out hS)⟩)
 cases fr
 ·exact r [0] rfl fun _=>Rv.cb rfl (vt [.g [.o (iV rf),.o (iV 0),.o (iV 0),.o (iV 0)],.o (.bool false)]) (fun w _=>dV rf w) (r [] rfl fun _=>fin fun w hS=>⟨_,rfl,aa HN (.inr ⟨hrf,rfl⟩) w (out hS)⟩)
 refine r [0] rfl fun _=>Rv.cb rfl (vi ((rn+ln:Nat):Int)) (fun w _=>pg ep nx gv a1 a2 rn c1 ln c2 ws w (by omega)) ?_;by_cases h5:500≤rn+ln
 ·exact r [1] rfl fun _=>Rv.cb rfl (vt [.g [.o (iV 14),.o (iV 0),.o (iV 0),.o (iV 0)],.o (.bool false)]) (fun w _=>dV 14 w) (r [] rfl fun _=>fin fun w hS=>⟨_,rfl,aa HF ⟨hrf,rfl⟩ (.inl h5) w (out hS)⟩)
 by_cases h6:nx=1073741824
 ·exact r [0,1] rfl fun _=>Rv.cb rfl (vt [.g [.o (iV 14),.o (iV 0),.o (iV 0),.o (iV 0)],.o (.bool false)]) (fun w _=>dV 14 w) (r [] rfl fun _=>fin fun w hS=>⟨_,rfl,aa HF ⟨hrf,rfl⟩ (.inr h6) w (out hS)⟩)
 refine r [0,0,1,1] rfl fun _=>so (g:=cy (wS t' s')) rfl rfl rfl 0 rfl (qG ep nx gv (.slice a1 rn c1) (.slice a2 ln c2) (ww ws P t' s')) (fun j _=>ZH j) ?_ os' (show 0+0+5+P*9+9≤41 by omega);refine jt (fun y hS=>Mem.sr hS (R':=fun y=>Below base w y∧y.ownsRow base 278 2 (.slice a1 rn c1) rn (R.map (Value.int .i64))) fun y h=>⟨h.1.below d_ fun z hz hu=>absurd D.up (BL.2 (Ab.1 hu▸hz)),h.2⟩) ?_;refine r [1] rfl fun _=>nJ 4 rfl (show jI Tryz.prog 105 278 2 16=true by kernel_rfl) (fun w hS=>AN d_ hS.now.2.1.size) (fun y y' h c=>h.trans (c.below (AN d_ h.size) fun z hz hu=>absurd hu (BL.2 hz))) fun g c hc=> ?_;refine rz [1] [nx+1] rfl fun _=>gn 0 (qG ep (nx+1) gv (.slice (some ⟨g,0,none⟩) (rn+1) c) (.slice a2 ln c2) (ww ws P t' s')) ?_ rfl (by kernel_rfl);refine fin fun w9 hS=> ?_;have o9:=hS.now.2.2;have D9:rZ w9 base B ep (nx+1) gv (some ⟨g,0,none⟩) (rn+1) c a2 ln c2 (R++[nx,b]) L (ww ws P t' s'):=⟨hS.at 0 rfl,D.up,by rw[AE];exact o9,hS.now.1,fun u hu=> ?_,D.wL⟩
 ·exact⟨_,rfl,aa HY ⟨hrf,rfl⟩ (by omega) (by omega) w9 (D9.out (hW.ww P t' s')) hS.now.2.1⟩
 ·rcases Ah.1 hu with h|h
  ·exact D.wR u h
  ·simp only[List.mem_cons,List.not_mem_nil,or_false]at h;rcases h with rfl|rfl
   ·exact uK (by omega) (by omega)
   ·exact wb
end
theorem zp(w:tA)(b o c:Nat)(ty:tZ)(hc:∀j,j<4→(w.cell? ⟨b,o+j,none⟩).isSome=true)(hf:∀j,j<4→w.frozen? ⟨b,o+j,none⟩=false):
  (Builtin.clear_ #[106] ty #[.slice (some ⟨b,o,none⟩) 1 c]).run Tryz.prog w= .ok (.tuple #[]) (w.setCells b o [iV 0,iV 0,iV 0,iV 0]):=by
 have gV:=run_storeCells_cells (P:=Tryz.prog) b o [iV 0,iV 0,iV 0,iV 0] 0 w (by simpa using hc) (by simpa using hf) (by simp[Value.oneCell']);simp only[Nat.add_zero]at gV;simp[Builtin.clear_,run_underlying Tryz.underlying106,Tryz.zeroValue281,Builtin.zeroCells,Value.cells];rw[show(List.map (fun i=>([Value.int IntKind.i64 0,Value.int IntKind.i64 0,Value.int IntKind.i64 0,Value.int IntKind.i64 0]:tM)[i % 4]?.getD default) (List.range 4))=[Value.int IntKind.i64 0,Value.int IntKind.i64 0,Value.int IntKind.i64 0,Value.int IntKind.i64 0] from rfl,gV];rfl
theorem RY(L:tG)(k j:Nat):(L.take (4*k)++L.drop (4*k+4)).getD j 0=if j<4*k∧j<L.length then L.getD j 0 else if 4*k≤L.length then L.getD (j+4) 0 else 0:=by
 simp only[List.getD_eq_getElem?_getD];rcases AG j (4*k)with h|h
 ·rcases AG j L.length with h2|h2
  ·rw[Ae ⟨h,h2⟩,AZ (by simp;omega),List.getElem?_take_of_lt h]
  ·rw[Aa (by omega),Aa (by omega),Be (by simp;omega)];rfl
 ·rw[Aa (by omega)];rcases AG L.length (4*k)with h2|h2
  ·rw[Aa (by omega),Be (by simp;omega)];rfl
  ·rw[Ae h2,AQ (by simp;omega),BO];congr 2;simp;omega
theorem KD{w:tA}{base g ln c:Nat}{L:tG}(k:Nat)(h:w.ownsRow base 281 4 (.slice (some ⟨g,0,none⟩) ln c) ln (L.map (Value.int .i64)))(hk:k<ln):
  cA 210 #[.slice (some ⟨g,0,none⟩) ln c,iV k,iV (k+1)] w fun e w'=>e= .returned (.slice (some ⟨g,0,none⟩) (ln-1) c)∧aB g w w'∧∀j,j<4*(ln-1)→w'.cell? ⟨g,j,none⟩=some (iV ((L.take (4*k)++L.drop (4*k+4)).getD j 0)):=by
 obtain⟨i2,J8,hz20,hz21,hz22⟩:=iw Tryz.vY;have vZ:=h.cells (g:=g) rfl;have hlen:L.length=ln*4:=by have:=h.1;simpa using this
 rcases h.2 with⟨h0,_⟩|⟨g',cap,cur,e,_,hg,hc,hm,hs,ht⟩
 ·cases h0
 cases e;have cell:∀j,j<ln*4→w.cell? ⟨g,j,none⟩=some (iV (L.getD j 0)):=fun j hj=>by
  have:=vZ j (iV (L.getD j 0)) (by simp[List.getElem?_eq_getElem (show j<L.length by omega)]);simpa[Addr.add_mid]using this
 have free:∀o,w.frozen? ⟨g,o,none⟩=false:=fun o=>by simp[World.frozen?,hg]
 unfold maxLen at hm;obtain⟨news,xo⟩:∃news,news=(L.drop (4*k+4)).map (Value.int .i64):=⟨_,rfl⟩;have QR:news.length=(ln-(k+1))*4:=by rw[xo];simp;omega
 have V0:∀t,t<(ln-(k+1))*4→news[t]? =some (iV (L.getD (4*k+4+t) 0)):=fun t ht=>by
  rw[xo];simp[List.getElem?_eq_getElem (show 4*k+4+t<L.length by omega)]
 obtain⟨m,xV⟩:∃m,m=k+1:=⟨_,rfl⟩;have hmi:(k:Int)+1=(m:Int):=by omega
 rw[hmi];rw[←xV]at QR V0;obtain⟨A,hA,hsrc⟩:∃A:Addr,(if c=m then some (⟨g,0,none⟩:Addr)else some ⟨g,m*4,none⟩)=some A∧Hid (∀t u,news[t]? =some u→w.drew.cell? (A.add t)=some u):=by
  by_cases hh:c=m
  ·refine⟨⟨g,0,none⟩,by simp[hh],ai fun t u hu=> ?_⟩;have h0:news.length=0:=by rw[QR];omega
   rw[AU.1 h0]at hu;simp at hu
  ·refine⟨⟨g,m*4,none⟩,by simp[hh],ai fun t u hu=> ?_⟩;have ht:t<(ln-m)*4:=by
    have:=(Ap.1 hu).1;rwa [QR]at this
   rw[V0 t ht]at hu;cases hu;rw[BM,show m*4+t=4*k+4+t by omega];exact cell (4*k+4+t) (by omega)
 have s2:Hid (∀u∈news,u.oneCell'=true):=ai (by
  intro u hu;rw[xo]at hu;obtain⟨x,_,rfl⟩:=Ay.1 hu
  rfl)
 have s3:Hid (∀t,t<news.length→(w.drew.cell? ⟨g,0+k*4+t,none⟩).isSome=true∧w.drew.frozen? ⟨g,0+k*4+t,none⟩=false):=ai (by
  intro t ht;rw[QR]at ht
  exact⟨by show(w.cell? _).isSome=true;rw[Aj,cell _ (by omega)];rfl,free _⟩)
 have s1:Hid (news.length=(ln-m)*4):=ai QR;obtain⟨W1,hW1⟩:∃W1,W1=w.drew.setCells g (0+k*4) news:=⟨_,rfl⟩;have HW1:Hid (W1=w.drew.setCells g (0+k*4) news):=ai hW1;have T1:aB g w W1:=by rw[hW1];exact(H9 g w).trans (aB.uu g _ _ _)
 have inn:∀t,t<news.length→W1.cell? ⟨g,k*4+t,none⟩=news[t]? :=fun t ht=>by
  rw[hW1,Aj];have:=World.cell?_setCells_in g news (k*4) w.drew (fun j hj=>by have:=(aa s3 j hj).1;rwa [Aj]at this) t ht;rw[this,Ai ht]
 have out:∀o,o<k*4∨k*4+news.length≤o→W1.cell? ⟨g,o,none⟩=w.cell? ⟨g,o,none⟩:=fun o ho=>by
  rw[hW1,Aj];exact World.cell?_setCells_out g news (k*4) w.drew ⟨g,o,none⟩ (fun _ _=>by simpa using ho)
 have f1:∀o,W1.frozen? ⟨g,o,none⟩=false:=fun o=>by rw[hW1,World.frozen?_setCells];exact free o
 have ne:k+(ln-m)=ln-1:=by omega
 have Ej:∀ty,(Builtin.clear_ #[106] ty #[.slice (some ⟨g,(ln-1)*4,none⟩) (ln-(ln-1)) (c-(ln-1))]).run Tryz.prog W1= .ok (.tuple #[]) (W1.setCells g ((ln-1)*4) [iV 0,iV 0,iV 0,iV 0]):=
  fun ty=>by
   rw[show ln-(ln-1)=1 by omega];exact zp W1 g ((ln-1)*4) _ ty (fun j hj=>by rw[out _ (by rw[QR];omega),cell _ (by omega)];rfl) (fun j _=>f1 _)
 have HF:Hid (aB g w (W1.setCells g ((ln-1)*4) [iV 0,iV 0,iV 0,iV 0])∧∀j,j<4*(ln-1)→(W1.setCells g ((ln-1)*4) [iV 0,iV 0,iV 0,iV 0]).cell? ⟨g,j,none⟩=some (iV ((L.take (4*k)++L.drop (4*k+4)).getD j 0))):=ai (by
  refine⟨T1.trans (aB.uu g _ _ _),fun j hj=> ?_⟩;rw[World.cell?_setCells_out g _ _ W1 ⟨g,j,none⟩ (fun _ _=>Or.inl (by show j<_;omega)),RY];rcases AG j (4*k)with h1|h1
  ·rw[Ae ⟨h1,by omega⟩,out j (by omega)];exact cell j (by omega)
  ·rw[Aa (by omega),Ae (by omega)];have:=inn (j-k*4) (by rw[QR];omega);rw[show k*4+(j-k*4)=j by omega]at this
   rw[this,V0 _ (by omega),show 4*k+4+(j-k*4)=j+4 by omega])
 have hic:k≤c:=by omega
 have hjc:m≤c:=by omega
 have hjl:m≤ln:=by omega
 have ZI:k<m:=by omega
 have aif:¬k=m:=by omega
 have Hmk:=ai xV;clear xV hmi hW1 T1 inn out f1 V0 xo QR cell free vZ hs ht hlen h hg;go_enter Tryz.func210,Tryz.ntmps210
 go_wp2_with fail
 go_region_law (refine step_append_room rfl (.tmp 22) (.tmp 25) 106 rfl 281 i2 4 Tryz.underlying106 J8 hz21 g 0 k c (by simp[Act.eval,Act.put]) A (ln-m) (c-m) news (by simp[Act.eval,Act.put]) (aa s1) (aa hsrc) (aa s2) (by omega) (aa s3) ?_;rw[←aa HW1,ne])
 all_goals go_wp2
 go_ret;exact⟨rfl,aa HF⟩
end Go.Proofs.YtpgkjpomaffbmaaGreatDoor
namespace Go.Proofs
open Go.Shelf
def Tryz.laysIndex_ren:Go.Shelf.Ren:=⟨fun|6=>208|n=>n,fun|22=>106|23=>281|25=>286|3=>3|0=>0|4=>4|n=>n,fun|n=>n⟩
theorem Tryz.laysIndex:Go.Proofs.SlLaysH0.n6 Tryz.prog Tryz.laysIndex_ren:={
 mixed:=by kernel_rfl
 f6:=⟨Tryz.f208.name,by decide,Tryz.func208.trans (congrArg some (by kernel_rfl))⟩
 t0:=Tryz.underlying0
 a0:=Tryz.isAgg0
 z0:=Tryz.sizeOf0
 v0:=Tryz.zeroValue0
 t3:=Tryz.underlying3
 a3:=Tryz.isAgg3
 z3:=Tryz.sizeOf3
 v3:=Tryz.zeroValue3
 t4:=Tryz.underlying4
 a4:=Tryz.isAgg4
 z4:=Tryz.sizeOf4
 v4:=Tryz.zeroValue4
 t22:=Tryz.underlying106
 a22:=Tryz.isAgg106
 z22:=Tryz.sizeOf106
 v22:=Tryz.zeroValue106
 t25:=Tryz.underlying286
 a25:=Tryz.isAgg286
 z25:=Tryz.sizeOf286
 v25:=Tryz.zeroValue286}
def Tryz.laysOrder_ren:Go.Shelf.Ren:=⟨fun|6=>211|15=>220|14=>219|28=>231|29=>232|20=>223|21=>224|22=>225|23=>226|24=>227|25=>228|26=>229|27=>230|46=>242|47=>243|48=>244|49=>245|50=>246|57=>250|n=>n,fun|22=>105|24=>278|25=>289|3=>3|39=>233|0=>0|53=>308|55=>310|4=>4|46=>302|45=>301|50=>28|5=>5|9=>9|66=>316|70=>132|76=>323|77=>324|n=>n,fun|n=>n⟩
theorem Tryz.laysOrder:Go.Proofs.SlLaysF0.n6 Tryz.prog Tryz.laysOrder_ren:={
 mixed:=by kernel_rfl
 f6:=⟨Tryz.f211.name,by decide,Tryz.func211.trans (congrArg some (by kernel_rfl))⟩
 f14:=⟨Tryz.f219.name,by decide,Tryz.func219.trans (congrArg some (by kernel_rfl))⟩
 f15:=Tryz.func220.trans (congrArg some (by kernel_rfl))
 f20:=⟨Tryz.f223.name,by decide,Tryz.func223.trans (congrArg some (by kernel_rfl))⟩
 f21:=⟨Tryz.f224.name,by decide,Tryz.func224.trans (congrArg some (by kernel_rfl))⟩
 f22:=⟨Tryz.f225.name,by decide,Tryz.func225.trans (congrArg some (by kernel_rfl))⟩
 f23:=⟨Tryz.f226.name,by decide,Tryz.func226.trans (congrArg some (by kernel_rfl))⟩
 f24:=⟨Tryz.f227.name,by decide,Tryz.func227.trans (congrArg some (by kernel_rfl))⟩
 f25:=⟨Tryz.f228.name,by decide,Tryz.func228.trans (congrArg some (by kernel_rfl))⟩
 f26:=⟨Tryz.f229.name,by decide,Tryz.func229.trans (congrArg some (by kernel_rfl))⟩
 f27:=⟨Tryz.f230.name,by decide,Tryz.func230.trans (congrArg some (by kernel_rfl))⟩
 f28:=Tryz.func231.trans (congrArg some (by kernel_rfl))
 f29:=Tryz.func232.trans (congrArg some (by kernel_rfl))
 f46:=⟨Tryz.f242.name,by decide,Tryz.func242.trans (congrArg some (by kernel_rfl))⟩
 f47:=Tryz.func243.trans (congrArg some (by kernel_rfl))
 f48:=Tryz.func244.trans (congrArg some (by kernel_rfl))
 f49:=⟨Tryz.f245.name,by decide,Tryz.func245.trans (congrArg some (by kernel_rfl))⟩
 f50:=⟨Tryz.f246.name,by decide,Tryz.func246.trans (congrArg some (by kernel_rfl))⟩
 f57:=⟨Tryz.f250.name,by decide,Tryz.func250.trans (congrArg some (by kernel_rfl))⟩
 t0:=Tryz.underlying0
 a0:=Tryz.isAgg0
 z0:=Tryz.sizeOf0
 v0:=Tryz.zeroValue0
 t3:=Tryz.underlying3
 a3:=Tryz.isAgg3
 z3:=Tryz.sizeOf3
 v3:=Tryz.zeroValue3
 t4:=Tryz.underlying4
 a4:=Tryz.isAgg4
 z4:=Tryz.sizeOf4
 v4:=Tryz.zeroValue4
 t5:=Tryz.underlying5
 a5:=Tryz.isAgg5
 z5:=Tryz.sizeOf5
 v5:=Tryz.zeroValue5
 t9:=Tryz.underlying9
 a9:=Tryz.isAgg9
 z9:=Tryz.sizeOf9
 v9:=Tryz.zeroValue9
 t22:=Tryz.underlying105
 a22:=Tryz.isAgg105
 z22:=Tryz.sizeOf105
 v22:=Tryz.zeroValue105
 t25:=Tryz.underlying289
 a25:=Tryz.isAgg289
 z25:=Tryz.sizeOf289
 v25:=Tryz.zeroValue289
 t39:=Tryz.underlying233
 a39:=Tryz.isAgg233
 z39:=Tryz.sizeOf233
 v39:=Tryz.zeroValue233
 t45:=Tryz.underlying301
 a45:=Tryz.isAgg301
 z45:=Tryz.sizeOf301
 v45:=Tryz.zeroValue301
 t46:=Tryz.underlying302
 a46:=Tryz.isAgg302
 z46:=Tryz.sizeOf302
 v46:=Tryz.zeroValue302
 t50:=Tryz.underlying28
 a50:=Tryz.isAgg28
 z50:=Tryz.sizeOf28
 v50:=Tryz.zeroValue28
 t53:=Tryz.underlying308
 a53:=Tryz.isAgg308
 z53:=Tryz.sizeOf308
 v53:=Tryz.zeroValue308
 t55:=Tryz.underlying310
 a55:=Tryz.isAgg310
 z55:=Tryz.sizeOf310
 v55:=Tryz.zeroValue310
 t66:=Tryz.underlying316
 a66:=Tryz.isAgg316
 z66:=Tryz.sizeOf316
 v66:=Tryz.zeroValue316
 t70:=Tryz.underlying132
 a70:=Tryz.isAgg132
 z70:=Tryz.sizeOf132
 v70:=Tryz.zeroValue132
 t76:=Tryz.underlying323
 a76:=Tryz.isAgg323
 z76:=Tryz.sizeOf323
 v76:=Tryz.zeroValue323
 t77:=Tryz.underlying324
 a77:=Tryz.isAgg324
 z77:=Tryz.sizeOf324
 v77:=Tryz.zeroValue324}
def Tryz.laysCompare_ren:Go.Shelf.Ren:=⟨fun|5=>213|7=>221|n=>n,fun|22=>3|3=>3|4=>4|n=>n,fun|n=>n⟩
theorem Tryz.laysCompare:Go.Proofs.SlLaysC2.n5 Tryz.prog Tryz.laysCompare_ren:={
 mixed:=by kernel_rfl
 f5:=⟨Tryz.f213.name,by decide,Tryz.func213.trans (congrArg some (by kernel_rfl))⟩
 f7:=⟨Tryz.f221.name,by decide,Tryz.func221.trans (congrArg some (by kernel_rfl))⟩
 t3:=Tryz.underlying3
 a3:=Tryz.isAgg3
 z3:=Tryz.sizeOf3
 v3:=Tryz.zeroValue3
 t4:=Tryz.underlying4
 a4:=Tryz.isAgg4
 z4:=Tryz.sizeOf4
 v4:=Tryz.zeroValue4
 t22:=Tryz.underlying3
 a22:=Tryz.isAgg3
 z22:=Tryz.sizeOf3
 v22:=Tryz.zeroValue3}
end Go.Proofs
namespace Go.Proofs.YtpgkjpomaffbmaaGreatDoor
open Go.RowKit
section
open Go.Lib
theorem FR{W:tA}{R:Nat}{c he no bd:Int}{b:Bool}{tmps:tR}(h:aV W R c he no bd)(t:tmps[4]? =some (.pointer (some ⟨R,0,none⟩)))(tb:tmps[5]? =some (.bool b)):
  (results Tryz.f195 tmps).run Tryz.prog W= .ok (.tuple #[ib c he no bd,.bool b]) W:=by
 obtain⟨k0,k1,k2,k3⟩:=h.cells;simp[results,Tryz.results195,go_sem,k0,k1,k2,k3,t,tb]
abbrev RZ:=Int×Int×Int×Int
abbrev KE(x:RZ):List Value:=[iV x.1,iV x.2.1,iV x.2.2.1,iV x.2.2.2]
def lI(L:tG)(j:Nat):RZ:=(L.getD (4*j) 0,L.getD (4*j+1) 0,L.getD (4*j+2) 0,L.getD (4*j+3) 0)
def iZ(L:tG)(n:Nat):List RZ:=(List.range n).map (lI L)
theorem qo(L:tG)(n:Nat):(iZ L n).length=n:=by simp[iZ]
theorem pj(L:tG)(n j:Nat)(h:j<n):(iZ L n)[j]! =lI L j:=by
 simp[iZ,h]
def fZ(he hn:Int)(x:RZ):Bool:=x.1==he&&x.2.1==hn
theorem V1{w:tA}{E:Nat}{k p i b he hn:Int}(hE:w.heap[E]? =some (.cells #[iV k,iV p,iV i,iV b,iV he,iV hn] 56 (0,0))):
  PredBelow Tryz.prog 209 #[.pointer (some ⟨E,0,none⟩)] (fun x:RZ=> .agg (KE x).toArray) (fZ he hn) w:=by
 rintro W ⟨x0,x1,x2,x3⟩ hb;have e1:W.heap[E]? =_:=(hb.block E (cI hE)).trans hE;have hl:=cI e1;have k4:W.cell? ⟨E,4,none⟩=some (iV he):=by simp[World.cell?,e1]
 have k5:W.cell? ⟨E,5,none⟩=some (iV hn):=by simp[World.cell?,e1]
 have uG:E≠W.heap.size:=by omega
 clear hE e1;show cA 209 #[.agg #[iV x0,iV x1,iV x2,iV x3],.pointer (some ⟨E,0,none⟩)] W _;go_enter Tryz.func209,Tryz.ntmps209;go_wp2
 all_goals(go_ret;exact⟨by simp_all [fZ],hb.alloc hb.size _⟩)
theorem KF(fv:tK)(w:tA):cA 208 #[.slice none 0 0,fv] w fun e w'=>e= .returned (iV (-1))∧w'=w:=by
 go_enter Tryz.func208,Tryz.ntmps208;go_wp2
 go_loopw [5,8] (fun _ s8 wr=>s8=iV 0∧wr=w) (fun _ _ _=>0)
 case atStart=>exact⟨rfl,rfl⟩
 case round=>
  obtain⟨rfl,rfl⟩:=hrel;go_wp2;go_ret;exact⟨rfl,rfl⟩
def xp(he hn:Int)(L:tG)(ln:Nat):Int:=Lib.idxBy (fun _ y=>fZ he hn y) ((iZ L ln).take ln) default
theorem Ou{W:tA}{base E ln c2:Nat}{a2:tB}{L:tG}{k p i b he hn:Int}(hE:W.heap[E]? =some (.cells #[iV k,iV p,iV i,iV b,iV he,iV hn] 56 (0,0)))
  (ow:W.ownsRow base 281 4 (.slice a2 ln c2) ln (L.map (Value.int .i64))) (hl:ln≤500):
  cA 208 #[.slice a2 ln c2,.func (.func 209) #[] #[.pointer (some ⟨E,0,none⟩)]] W (rB (iV (xp he hn L ln)) W):=by
 have vZ:∀g,_→_:=fun g h=>ow.cells (g:=g) h;have hlen:L.length=ln*4:=by have:=ow.1;simpa using this
 rcases ow.2 with⟨h0,h1⟩|⟨g,cap,cur,e,_,hg,_⟩
 ·subst h1;cases h0;refine(KF _ W).mono ?_;rintro e w' ⟨rfl,rfl⟩;exact⟨by simp[xp,iZ,Lib.idxBy,Lib.idxByFrom],Bm _ _⟩
 ·cases e;have eg:∀args w,(callFunc 209 args).run Tryz.prog w= .ok (.enter 209 args) w:=enters_of Tryz.func209 (by kernel_rfl) rfl;have cell:∀j,j<ln*4→W.cell? ⟨g,j,none⟩=some (iV (L.getD j 0)):=fun j hj=>by
   have:=vZ g rfl j (iV (L.getD j 0)) (by simp[List.getElem?_eq_getElem (show j<L.length by omega)]);simpa[Addr.add_mid]using this
  exact AnyQ.slices_IndexFunc Tryz.laysIndex 4 Tryz.isAgg281 Tryz.sizeOf281 KE (fun _=>rfl) (fZ he hn) 209 #[.pointer (some ⟨E,0,none⟩)] eg g 0 ln c2 (iZ L ln) W (V1 hE) (by rw[qo];exact Ac _) (by omega) (cI hg) (fun j hj i v hi=>by
   rw[qo]at hj;rw[pj L ln j hj]at hi;rw[Aj]
   match i,hi with
   |0,hi=>simp[KE,lI]at hi;rw[←hi,cell _ (by omega)];simp[Nat.mul_comm]
   |1,hi=>simp[KE,lI]at hi;rw[←hi,cell _ (by omega)];simp[Nat.mul_comm]
   |2,hi=>simp[KE,lI]at hi;rw[←hi,cell _ (by omega)];simp[Nat.mul_comm]
   |3,hi=>simp[KE,lI]at hi;rw[←hi,cell _ (by omega)];simp[Nat.mul_comm]
   |i+4,hi=>simp[KE]at hi)
structure Dl(w wx:tA)(base B:Nat)(ep nx gv:Int)(a1:tB)(rn c1:Nat)(R:tG)(g ln c2:Nat)(L:tG)(ws:tD)(A:Nat):Prop where
 d:bk wx B ep nx gv (.slice a1 rn c1) (.slice (some ⟨g,0,none⟩) ln c2) ws
 o1:wx.ownsRow base 278 2 (.slice a1 rn c1) rn (R.map (Value.int .i64))
 row:RowK .i64 wx (some ⟨g,0,none⟩) (4*ln) L
 off:g≠A
 le:ln≤c2
 a:aV wx A 0 0 0 0
 dp:Below base w wx
 up:base≤B
 low:base≤g
section
variable{w wx wy:tA}{base B g:Nat}{ep nx gv:Int}{a1:tB}{rn ln c1 c2:Nat}{R L L':tG}{ws:tD}{A:Nat}{wt:tH}{wz:Nat→Nat→Bool}
theorem Pc.V2(C:Pc w wx base B ep nx gv a1 rn c1 R (some ⟨g,0,none⟩) ln c2 L ws A)(t:aB g wx wy)(hl:L'.length=4*(ln-1))(hc:∀j,j<4*(ln-1)→wy.cell? ⟨g,j,none⟩=some (iV (L'.getD j 0)))
  (wL:∀u∈L',(Lit.int .i64 u).wf=true):
  bk wy B ep nx gv (.slice a1 rn c1) (.slice (some ⟨g,0,none⟩) ln c2) ws∧Dl w (wy.setCell ⟨B,4,none⟩ (.slice (some ⟨g,0,none⟩) (ln-1) c2)) base B ep nx gv a1 rn c1 R g (ln-1) c2 L' ws A:=by
 have gB:g≠B:=aX C.o2 C.d (by decide) g rfl;have gA:g≠A:=aX C.o2 C.a (by decide) g rfl;have nA:A≠B:=cT C.a C.d (by decide);have hg:=C.o2.lt g rfl;have dy:bk wy B ep nx gv (.slice a1 rn c1) (.slice (some ⟨g,0,none⟩) ln c2) ws:=C.d.dR t (fun e=>gB e.symm);have ay:aV wy A 0 0 0 0:=C.a.dR t (fun e=>gA e.symm);have o1y:=t.owns C.o1 (fun q hq e=>jv C.o1 C.o2 (by decide) q hq (by rw[e];rfl));have T2:=aB.set B 4 wy (.slice (some ⟨g,0,none⟩) (ln-1) c2);have lc:ln≤c2:=by
  rcases C.o2.2 with⟨h,_⟩|⟨g',cap,cur,e,_,_,h,_⟩
  ·cases h
  ·cases e;exact h
 refine⟨dy,dy.zg _,T2.owns o1y (aX o1y dy (by decide)), ?_,gA,by omega,ay.dR T2 nA,T2.under (t.under C.dp hg.1) C.up,C.up,hg.1⟩;generalize wy.setCell ⟨B,4,none⟩ (.slice (some ⟨g,0,none⟩) (ln-1) c2)=wv at T2⊢;refine⟨hl,wL,fun j hj=>⟨g,0,rfl,by rw[T2.size,t.size];exact hg.2, ?_⟩⟩;rw[Aj,←hc j hj];exact Cq (T2.block g gB)
theorem Dl.turn(C:Dl w wx base B ep nx gv a1 rn c1 R g ln c2 L ws A)(T:aB A wx wy)(wR:∀u∈R,(Lit.int .i64 u).wf=true)(hW:gP ws wt wz)(hA:base≤A):jQ wy base B ep nx gv rn R ln L wt wz∧Below base w wy:=by
 have nA:A≠B:=cT C.a C.d (by decide);have o1z:=T.owns C.o1 (aX C.o1 C.a (by decide));obtain⟨_,_,e1,r1,l1,_,n1,x1⟩:=RowK.eK o1z wR;cases e1;refine⟨⟨a1,c1,some ⟨g,0,none⟩,c2,ws,C.d.dR T (fun e=>nA e.symm),r1,T.row C.row (fun x hx _=>by cases hx;exact C.off),l1,C.le,n1,(by intro h;cases h),hW,x1, ?_⟩,T.under C.dp hA⟩;intro x hx;cases hx;exact C.low
end
theorem H_(he hn:Int)(L:tG)(ln:Nat):xp he hn L ln= -1∨∃m:Nat,m<ln∧xp he hn L ln=m:=by
 by_cases h:∃m,m<ln∧fZ he hn (lI L m)=true
 ·right;have hP:∃m,m<ln∧fZ he hn (lI L m)=true:=h;obtain⟨m,⟨hm,hh⟩,hmin⟩:∃m,(m<ln∧fZ he hn (lI L m)=true)∧∀j,j<m→¬(j<ln∧fZ he hn (lI L j)=true):=by
   obtain⟨m,hm⟩:=hP
   induction m using Nat.strongRecOn with
   |ind m ih=>
    by_cases hj:∃j,j<m∧(j<ln∧fZ he hn (lI L j)=true)
    ·obtain⟨j,hj1,hj2⟩:=hj;exact ih j hj1 hj2
    ·exact⟨m,hm,fun j hj1 hj2=>hj ⟨j,hj1,hj2⟩⟩
  refine⟨m,hm,Lib.idxBy_hit _ (iZ L ln) ln m default hm (by rw[qo];exact Ac _) (by show fZ he hn (iZ L ln)[m]! =true;rw[pj L ln m hm];exact hh) (fun j hj=> ?_)⟩;show fZ he hn (iZ L ln)[j]! =false;rw[pj L ln j (by omega)];have:=hmin j hj;simpa[show j<ln by omega]using this
 ·left;refine Lib.idxBy_miss _ (iZ L ln) ln default (fun j hj=> ?_);show fZ he hn (iZ L ln)[j]! =false;rw[pj L ln j hj];have:¬fZ he hn (lI L j)=true:=fun e=>h ⟨j,hj,e⟩;simpa using this
theorem V3(L:tG)(m ln:Nat)(h:L.length=ln*4)(hm:m<ln):(L.take (4*m)++L.drop (4*m+4)).length=4*(ln-1):=by simp;omega
theorem ZJ{L:tG}(h:∀u∈L,(Lit.int .i64 u).wf=true)(a b:Nat):∀u∈L.take a++L.drop b,(Lit.int .i64 u).wf=true:=by
 intro u hu;rcases Ah.1 hu with hu|hu
 ·exact h u (AJ hu)
 ·exact h u (Bl hu)
theorem V4(base B:Nat)(ep nx gv:Int)(a1:tB)(rn c1:Nat)(a2:tB)(ln c2:Nat)(R L:tG)(ws:tD)(wt:tH)(wz:Nat→Nat→Bool)(k p i b he hn:Int)(w:tA)(D:rZ w base B ep nx gv a1 rn c1 a2 ln c2 R L ws)(hW:gP ws wt wz)(d_:base≤w.heap.size)(hs:rn+ln≤500)
  (Q:Value→World→Prop) (HS:Hid ((¬he=ep)→∀w',bZ w w'→Q (.tuple #[ib 11 0 0 0,.bool false]) w'))
  (HN:Hid (he=ep→xp he hn L ln= -1→∀w',bZ w w'→Q (.tuple #[ib 7 0 0 0,.bool false]) w'))
  (HY:Hid (he=ep→∀m:Nat,m<ln→xp he hn L ln=m→∀w',jQ w' base B ep nx gv rn R (ln-1) (L.take (4*m)++L.drop (4*m+4)) wt wz→Below base w w'→Q (.tuple #[ib 0 0 0 0,.bool true]) w')):
  cA 195 #[.pointer (some ⟨B,0,none⟩),zi k p i b he hn] w fun e w'=>∃v,e= .returned v∧Q v w':=by
 go_enter Tryz.func195,Tryz.ntmps195
 go_wp2_with fail
 obtain⟨W2,hW2,z2,b2,s2,ev2⟩:=Ky w k p i b he hn;rw[←hW2];clear hW2;have D2:=D.next b2;obtain⟨d0,d1,d2,d3,d4⟩:=D2.d.heads;have v4:W2.cell? ⟨w.heap.size,4,none⟩=some (iV he):=by simp[World.cell?,ev2]
 have v5:W2.cell? ⟨w.heap.size,5,none⟩=some (iV hn):=by simp[World.cell?,ev2]
 have YE:=ai z2;have ue:=ai b2;have zq:=ai ev2;have Vk:=ai D2;clear D D2 z2 b2 s2 ev2;by_cases gV:he=ep
 case neg=>
  go_quiet (fail)
  have HZC:=ai ((aa YE).next (qf W2 nq));have HBC:=ai (Below.next (aa ue) (qf W2 nq));clear YE ue zq Vk d0 d1 d2 d3 d4 v4 v5
  go_wp2_with (go_at_call 207;refine(dV _ _).mono ?_;rintro e w1 ⟨rfl,b1⟩;have z1:=(aa HZC).next b1;have b2:=Below.next (aa HBC) b1;obtain⟨y0,y1,y2,y3⟩:=z1.cells;have yf:=z1.free;have HZ:=ai z1;have HB:=ai b2;clear b1 z1 b2)
  exact Ao (FR ((aa HZ).store _ 0 0 0) rfl rfl) rfl ⟨_,rfl,aa HS gV _ ((gu w1 (w.heap.size+1) _ 0 0 0).under (aa HB) (BJ _))⟩
 case pos=>
  subst gV
  go_quiet (fail)
  go_wp2_with fail
  have b3:Below W2.heap.size W2 (W2.drewN nq):=qf W2 nq;have D3:=(aa Vk).next b3;have YD:=D3.d.lt;refine(Ou (show(W2.drewN nq).heap[w.heap.size]? =_ from aa zq) D3.o2 (by omega)).mono ?_;rintro e w4 ⟨rfl,b4⟩;have D4:=D3.next b4;have C4:Pc w w4 base B he nx gv a1 rn c1 R a2 ln c2 L ws (w.heap.size+1):=
   ⟨D4.d,D4.o1,D4.o2,((aa YE).next b3).next b4,(Below.next (Below.next (aa ue) b3) b4).mono d_,D4.up⟩
  have MF:=ai (Below.next (Below.next (aa ue) b3) b4);have HZC:=ai (((aa YE).next b3).next b4);have MG:=ai D4;have YI:base≤w4.heap.size:=by have:=D4.d.lt;have:=D4.up;omega
  clear YE ue zq Vk d0 d1 d2 d3 d4 v4 v5 D3 D4 b3 b4 YD;rcases H_ he hn L ln with hk|⟨m,hm,hk⟩
  case inl=>
   rw[hk];have HK:=ai hk;clear C4 hk
   go_wp2_with (go_at_call 207;refine(dV _ _).mono ?_;rintro e w1 ⟨rfl,b1⟩;have z1:=(aa HZC).next b1;have b2:=Below.next (aa MF) b1;obtain⟨y0,y1,y2,y3⟩:=z1.cells;have yf:=z1.free;have HZ:=ai z1;have HB:=ai b2;clear b1 z1 b2)
   exact Ao (FR ((aa HZ).store _ 0 0 0) rfl rfl) rfl ⟨_,rfl,aa HN (by simp) (aa HK) _ ((gu w1 (w.heap.size+1) _ 0 0 0).under (aa HB) (BJ _))⟩
  case inr=>
   rw[hk];have HK:=ai hk;clear hk HZC;obtain⟨d0,d1,d2,d3,d4⟩:=C4.d.heads;have hmz:¬(m:Int)<0:=by omega
   have hlen:L.length=ln*4:=by have:=C4.o2.1;simpa using this
   obtain⟨g,hg⟩:∃g,a2=some ⟨g,0,none⟩:=by
    rcases C4.o2.2 with⟨_,h0⟩|⟨g,cap,cur,e,_⟩
    ·omega
    ·cases e;exact⟨g,rfl⟩
   subst hg;have HC4:=ai C4;have wL:=(aa MG).wL;have HWR:=ai (aa MG).wR;clear C4
   go_wp2_with fail
   refine(KD m (aa HC4).o2 hm).mono ?_;rintro e w5 ⟨rfl,t5,c5⟩;obtain⟨y5,C5⟩:=(aa HC4).V2 t5 (V3 L m ln hlen hm) c5 (ZJ wL _ _);obtain⟨e0,e1,e2,e3,e4⟩:=y5.heads;have ef:=y5.free;obtain⟨u0,u1,u2,u3⟩:=C5.a.cells;have uf:=C5.a.free;have HC5:=ai C5;clear d0 d1 d2 d3 d4 t5 c5 y5 C5 HC4 wL MG;go_wp2;obtain⟨D9,B9⟩:=(aa HC5).turn (gu _ (w.heap.size+1) 0 0 0 0) (aa HWR) hW (by omega);exact Ao (FR ((aa HC5).a.store 0 0 0 0) rfl rfl) rfl ⟨_,rfl,aa HY (by simp) m hm (aa HK) _ D9 B9⟩
end
section
open Go.Lib Go.Sort
abbrev FT(x:Int×Int):List Value:=[iV x.1,iV x.2]
def gw(R:tG)(i:Nat):Int×Int:=(R.getD (2*i) 0,R.getD (2*i+1) 0)
def cD(R:tG)(n:Nat):List (Int×Int):=(List.range n).map (gw R)
theorem Ia(R:tG)(n:Nat):(cD R n).length=n:=by simp[cD]
structure Ordered(R R':tG)(n:Nat):Prop where
 len:R'.length=2*n
 perm:(cD R' n).Perm (cD R n)
 Kn:∀i j,i<j→j<n→R'.getD (2*i) 0≤R'.getD (2*j) 0
theorem V5(x y:Int×Int):ltOf (fun x y:Int×Int=>Lib.compareInt x.1 y.1) x y=decide (x.1<y.1):=by
 unfold ltOf Lib.compareInt;by_cases h1:x.1<y.1
 ·simp[h1]
 ·by_cases h2:y.1<x.1<;>simp[h1,h2]
theorem acb:SWO (ltOf fun x y:Int×Int=>Lib.compareInt x.1 y.1) where
 irrefl x:=by rw[V5];simp
 trans x y z h1 h2:=by rw[V5]at*;simp at*;omega
 ntrans x y z h1 h2:=by rw[V5]at*;simp at*;omega
theorem ZK(x y:Int×Int)(W:tA):cA 212 #[.agg #[iV x.1,iV x.2],.agg #[iV y.1,iV y.2]] W fun e w'=>e= .returned (iV (Lib.compareInt x.1 y.1))∧∃q os',w'=grow (W.drewN q) os':=by
 have mJ:=fun W'=>AnyG.cmp_Compare_int Tryz.laysCompare x.1 y.1 W';change∀W',cA 213 _ _ _ at mJ;generalize Lib.compareInt x.1 y.1=r at mJ⊢;go_enter Tryz.func212,Tryz.ntmps212
 go_wp2_with (go_at_call 213;refine(mJ _).mono ?_;rintro e w' ⟨rfl,rfl⟩)
 go_ret;exact⟨rfl,0,_,by rw[alloc_eq_grow,alloc_eq_grow,grow_grow];rfl⟩
def zr(d:Array (Int×Int)):List Int:=(List.range (2*d.size)).map fun j=>if j % 2=0 then(d[j/2]!).1 else(d[j/2]!).2
theorem oo(d:Array (Int×Int))(j:Nat)(h:j<2*d.size):(zr d).getD j 0=if j % 2=0 then(d[j/2]!).1 else(d[j/2]!).2:=by
 simp[zr,h]
theorem KG(d:Array (Int×Int)):cD (zr d) d.size=d.toList:=by
 apply List.ext_getElem
 ·simp[cD]
 ·intro i h1 h2;have hi:i<d.size:=by simpa using h2
  simp only[cD,gw,List.getElem_map,List.getElem_range];rw[oo d _ (by omega),oo d _ (by omega),Ae (by omega),Aa (by omega),show 2*i/2=i by omega,show(2*i+1)/2=i by omega];simp[hi]
theorem Ov(R:tG)(n i:Nat)(h:i<n):(cD R n).toArray[i]! =gw R i:=by
 simp[cD,h]
theorem KH{w:tA}{base g n c:Nat}{R:tG}(h:w.ownsRow base 278 2 (.slice (some ⟨g,0,none⟩) n c) n (R.map (Value.int .i64)))(hn:n≤500):
  cA 211 #[.slice (some ⟨g,0,none⟩) n c,.func (.func 212) #[] #[]] w fun e w'=>e= .returned (.tuple #[])∧∃R',Ordered R R' n∧w.grownBy w' (some g)∧∀j,j<2*n→w'.cell? ⟨g,j,none⟩=some (iV (R'.getD j 0)):=by
 have vZ:∀j u,_→_:=fun j u hu=>h.cells (g:=g) rfl j u hu;have hlen:R.length=n*2:=by have:=h.1;simpa using this
 have MA:=(h.lt g rfl).2;rcases h.2 with⟨h0,_⟩|⟨g',cap,cur,e,_,hg,_⟩
 ·cases h0
 cases e;have cell:∀j,j<n*2→w.cell? ⟨g,j,none⟩=some (iV (R.getD j 0)):=fun j hj=>by
  have:=vZ j (iV (R.getD j 0)) (by simp[List.getElem?_eq_getElem (show j<R.length by omega)]);simpa[Addr.add_mid]using this
 have eg:∀args w,(callFunc 212 args).run Tryz.prog w= .ok (.enter 212 args) w:=enters_of Tryz.func212 (by kernel_rfl) rfl;have js:(cD R n).toArray.size=n:=by simp[cD]
 have hH:HoldsK FT 2 w g 0 (cD R n).toArray:=by
  intro j hj;rw[size_flatK,js]at hj;refine⟨?_,by simp[World.frozen?,hg]⟩;rw[Aj,cell j hj,get_flatK _ _ _ _ (by rw[js];exact hj),Ov R n _ (by omega)];rcases Nat.mod_two_eq_zero_or_one j with hm|hm
  ·rw[hm];simp only[id,FT,gw];rw[show 2*(j/2)=j by omega];rfl
  ·rw[hm];simp only[id,FT,gw];rw[show 2*(j/2)+1=j by omega];rfl
 have mJ:=AnyQ.slices_SortFunc Tryz.laysOrder 2 Tryz.isAgg278 Tryz.sizeOf278 FT (fun _=>rfl) (fun x v hv=>by simp[FT]at hv;rcases hv with rfl|rfl<;>rfl) (fun x y=>Lib.compareInt x.1 y.1) acb 212 #[] g 0 c (cD R n).toArray w eg (fun _ _ _ _ x y=>ZK x y _) hH MA (by rw[js];omega)
 rw[js]at mJ;refine(show cA 211 _ _ _ from mJ).mono ?_;rintro e w' ⟨rfl,d',m,os,⟨ps,_,pp⟩,so,rfl⟩;rw[js]at ps;have hK:=holdsK_sortWorldK FT 2 w g 0 m (cD R n).toArray d' os MA hH (by rw[ps,js]);refine⟨rfl,zr d',⟨by simp[zr,ps], ?_, ?_⟩, ?_, ?_⟩
 ·have e1:=KG d';rw[ps]at e1;rw[e1];have e2:(d'.extract 0 n).toList=d'.toList:=by rw[←ps];simp
  have e3:((cD R n).toArray.extract 0 n).toList=cD R n:=by simp[List.take_of_length_le (Nat.le_of_eq (Ia R n))]
  rw[e2,e3]at pp;exact pp
 ·intro i j hij hj;have:=so i j (Al _) hij hj;rw[V5]at this;rw[oo d' _ (by omega),oo d' _ (by omega),Ae (by omega),Ae (by omega),show 2*i/2=i by omega,show 2*j/2=j by omega];simp at this;exact this
 ·refine⟨rfl,rfl,rfl, ?_,fun k hk fR=> ?_⟩
  ·simp[sortWorldK,putRowK,Go.Sort.putRow,Go.Sort.mapBlock,Go.Sort.ahead]
  ·have:g≠k:=fun e=>fR (by rw[e]);show(grow (putRowK FT 2 (Go.Sort.ahead w m) g 0 d') os).heap[k]? =w.heap[k]?;rw[heap_grow_old _ _ (by simp[putRowK,Go.Sort.putRow,Go.Sort.mapBlock,Go.Sort.ahead];exact hk)];simp[putRowK,Go.Sort.putRow,Go.Sort.mapBlock,Go.Sort.ahead,Array.getElem?_modify,this]
 ·intro j hj;have:=(hK j (by rw[size_flatK,ps];omega)).1;rw[Aj]at this;rw[this,get_flatK _ _ _ _ (by rw[ps];omega),oo d' j (by omega)];rcases Nat.mod_two_eq_zero_or_one j with hm|hm
  ·rw[hm];simp[FT]
  ·rw[hm];simp[FT]
theorem MH{W:tA}{R:Nat}{c he no bd:Int}{b:Bool}{tmps:tR}(h:aV W R c he no bd)(t:tmps[4]? =some (.pointer (some ⟨R,0,none⟩)))(tb:tmps[5]? =some (.bool b)):
  (results Tryz.f196 tmps).run Tryz.prog W= .ok (.tuple #[ib c he no bd,.bool b]) W:=by
 obtain⟨k0,k1,k2,k3⟩:=h.cells;simp[results,Tryz.results196,go_sem,k0,k1,k2,k3,t,tb]
def dS(L:tG):Nat→List Int
 |0=>[]
 |k+1=>dS L k++[L.getD (4*k+2) 0,L.getD (4*k+3) 0]
theorem Ex{L:tG}(wL:∀u∈L,(Lit.int .i64 u).wf=true):∀k,∀u∈dS L k,(Lit.int .i64 u).wf=true
 |0,u,hu=>by cases hu
 |k+1,u,hu=>by
  simp only[dS,List.mem_append,List.mem_cons,List.not_mem_nil,or_false]at hu;rcases hu with hu|rfl|rfl
  ·exact Ex wL k u hu
  ·exact mn L wL _
  ·exact mn L wL _
theorem Ordered.wf{X R':tG}{n:Nat}(h:Ordered X R' n)(wX:∀u∈X,(Lit.int .i64 u).wf=true):∀u∈R',(Lit.int .i64 u).wf=true:=by
 intro u hu;obtain⟨j,hj,rfl⟩:=List.mem_iff_getElem.1 hu;have hl:=h.len;have hm:gw R' (j/2)∈cD R' n:=Ay.2 ⟨j/2,by simp;omega,rfl⟩;obtain⟨i,_,hi⟩:=Ay.1 (h.perm.mem_iff.1 hm);simp only[gw,Prod.mk.injEq]at hi;rcases Nat.mod_two_eq_zero_or_one j with hm|hm
 ·have:R'[j]=R'.getD (2*(j/2)) 0:=by rw[show 2*(j/2)=j by omega];simp[hj]
  rw[this,←hi.1];exact mn X wX _
 ·have:R'[j]=R'.getD (2*(j/2)+1) 0:=by rw[show 2*(j/2)+1=j by omega];simp[hj]
  rw[this,←hi.2];exact mn X wX _
theorem Ox{w:tA}{base n c:Nat}{a:tB}{X:tG}(h:w.ownsRow base 278 2 (.slice a n c) n (X.map (Value.int .i64)))(hn:n≤500)(wX:∀u∈X,(Lit.int .i64 u).wf=true):
  cA 211 #[.slice a n c,.func (.func 212) #[] #[]] w fun e w'=>e= .returned (.tuple #[])∧∃R',Ordered X R' n∧w.grownBy w' (Value.slice a n c).ownBlock∧RowK .i64 w' a (2*n) R'∧(a=none→c=0)∧n≤c:=by
 have hlen:X.length=n*2:=by have:=h.1;simpa using this
 rcases h.2 with⟨h0,h1⟩|⟨g,cap,cur,e,_,hg,hc,_⟩
 ·subst h1;cases h0;have hX:X=[]:=AU.1 hlen;refine(show cA 211 _ _ _ from AnyF.slices_SortFunc_none Tryz.laysOrder none 0 _ w).mono ?_;rintro e w' ⟨rfl,rfl⟩;exact⟨rfl,[],⟨rfl,by simp[cD],fun i j _ h=>absurd h (AF _)⟩,World.grownBy.refl _ _,RowK.nil _ _ _,fun _=>rfl,Ac _⟩
 ·cases e;have MA:=(h.lt g rfl).2;refine(KH h hn).mono ?_;rintro e w' ⟨rfl,R',o,gr,cell⟩;refine⟨rfl,R',o,gr,⟨o.len,o.wf wX,fun j hj=>⟨g,0,rfl,by have:=gr.size;omega,by rw[Aj];exact cell j hj⟩⟩,(fun h=>by cases h),hc⟩
structure Eo(w wx:tA)(base B:Nat)(ep nx gv:Int)(a:tB)(n c:Nat)(R':tG)(lv:tK)(ws:tD)(A:Nat):Prop where
 d:bk wx B ep nx gv (.slice a n c) lv ws
 row:RowK .i64 wx a (2*n) R'
 off:∀x,a=some x→x.block≠B∧x.block≠A∧base≤x.block
 le:n≤c
 nil:a=none→c=0
 a:aV wx A 0 0 0 0
 dp:Below base w wx
 up:base≤B
section
variable{w wx wy:tA}{base B:Nat}{ep nx gv:Int}{a a2:tB}{n ln c c2:Nat}{X R' L:tG}{lv:tK}{ws:tD}{A:Nat}{wt:tH}{wz:Nat→Nat→Bool}
theorem Pc.sorted(C:Pc w wx base B ep nx gv a n c X a2 ln c2 L ws A)(gr:wx.grownBy wy (Value.slice a n c).ownBlock)(row:RowK .i64 wy a (2*n) R')(qe:a=none→c=0)(hle:n≤c):Eo w wy base B ep nx gv a n c R' (.slice a2 ln c2) ws A:=by
 have keep:∀Y o,wx.heap[Y]? =some o→(Value.slice a n c).ownBlock≠some Y→wy.heap[Y]? =some o:=by
  intro Y o hY fR;rw[gr.block Y (cI hY) (fun e=>fR e.symm)];exact hY
 have oB:=aX C.o1 C.d (by decide);have oA:=aX C.o1 C.a (by decide);refine⟨keep B _ C.d (fun e=>oB B e rfl),row,fun x hx=> ?_,hle,qe,keep A _ C.a (fun e=>oA A e rfl),C.dp.grown gr (by have:=C.d.lt;have:=C.up;omega) (fun q hq=>(C.o1.lt q hq).1),C.up⟩;subst hx;exact⟨oB _ rfl,oA _ rfl,(C.o1.lt _ rfl).1⟩
theorem Eo.turn(E:Eo w wx base B ep nx gv a n c R' lv ws A)(t:aB B wx wy){Oj Ol Om:Int}{lv':tK}(d:bk wy B Oj Ol Om (.slice a n c) lv' ws):Eo w wy base B Oj Ol Om a n c R' lv' ws A:=
 ⟨d,t.row E.row (fun x hx _=>(E.off x hx).1),E.off,E.le,E.nil,E.a.dR t (cT E.a E.d (by decide)),t.under E.dp E.up,E.up⟩
theorem Eo.out(E:Eo w wx base B ep nx gv a n c R' (.slice none 0 0) ws A)(t:aB A wx wy)(hW:gP ws wt wz)(hA:base≤A):jQ wy base B ep nx gv n R' 0 [] wt wz∧Below base w wy:=by
 have nA:A≠B:=cT E.a E.d (by decide);exact⟨⟨a,c,none,0,ws,E.d.dR t (fun e=>nA e.symm),t.row E.row (fun x hx _=>(E.off x hx).2.1),RowK.nil _ _ _,E.le,Ac _,E.nil,fun _=>rfl,hW,fun x hx=>(E.off x hx).2.2,fun x hx=>by cases hx⟩,t.under E.dp hA⟩
end
theorem V6(base B:Nat)(ep nx gv:Int)(a1:tB)(rn c1:Nat)(a2:tB)(ln c2:Nat)(R L:tG)(ws:tD)(wt:tH)(wz:Nat→Nat→Bool)(k p i b he hn:Int)(w:tA)(D:rZ w base B ep nx gv a1 rn c1 a2 ln c2 R L ws)(hW:gP ws wt wz)(d_:base≤w.heap.size)(hs:rn+ln≤500)(h0:0≤ep)(h1:ep≤1048576)
  (Q:Value→World→Prop) (HF:Hid (ep=1048576→∀w',bZ w w'→Q (.tuple #[ib 14 0 0 0,.bool false]) w'))
  (HY:Hid (ep<1048576→∀R' w',Ordered (R++dS L ln) R' (rn+ln)→jQ w' base B (ep+1) nx 0 (rn+ln) R' 0 [] wt wz→Below base w w'→Q (.tuple #[ib 0 0 0 0,.bool true]) w')):
  cA 196 #[.pointer (some ⟨B,0,none⟩),zi k p i b he hn] w fun e w'=>∃v,e= .returned v∧Q v w':=by
 obtain⟨i1,hi1,RL,hz11,hz12⟩:=iw Tryz.MC;obtain⟨d0,d1,d2,d3,d4⟩:=D.d.heads;have hBl:=D.d.lt;have YD:B≠w.heap.size:=by omega
 have On:B≠w.heap.size+1:=by omega
 by_cases hf:ep=1048576
 case pos=>
  clear D;go_enter Tryz.func196,Tryz.ntmps196
  go_wp2_with (go_at_call 207;refine(dV _ _).mono ?_;rintro e w1 ⟨rfl,b1⟩;obtain⟨z1,b2⟩:=FQ b1;obtain⟨y0,y1,y2,y3⟩:=z1.cells;have yf:=z1.free;have HZ:=ai z1;have HB:=ai b2;clear b1 z1 b2)
  exact Ao (MH ((aa HZ).store _ 0 0 0) rfl rfl) rfl ⟨_,rfl,aa HF (by simp[hf]) _ ((gu w1 (w.heap.size+1) _ 0 0 0).under (aa HB) (BJ _))⟩
 case neg=>
  go_enter Tryz.func196,Tryz.ntmps196
  go_wp2_with fail
  obtain⟨W2,hW2,z2,b2,s2,-⟩:=Ky w k p i b he hn;rw[←hW2,show(ep==1048576)=false by simpa using hf];clear hW2;have D2:=D.next b2;have C2:Pc w W2 base B ep nx gv a1 rn c1 R a2 ln c2 L ws (w.heap.size+1):=⟨D2.d,D2.o1,D2.o2,z2,b2.mono d_,D2.up⟩;have HD:=ai D;have wL:=D.wL;clear d0 d1 d2 d3 d4 YD On D D2 z2 b2 s2
  go_loopw [23] (fun t wr=>∃(m:Nat) (a:tB) (c:Nat),m≤ln∧t=iV m∧Pc w wr base B ep nx gv a (rn+m) c (R++dS L m) a2 ln c2 L ws (w.heap.size+1)) (fun t _=>ln-(intOf t).toNat)
  case atStart=>exact⟨0,a1,c1,by omega,rfl,by simpa[dS]using C2⟩
  case round=>
   obtain⟨m,a,c,hm,rfl,C⟩:=hrel;clear C2;by_cases aN:m<ln
   ·obtain⟨_,_,e2,r2,_,_,_,_⟩:=RowK.eK C.o2 wL;cases e2;obtain⟨g,off,rfl⟩:=r2.form (by omega);obtain⟨x0,hx0⟩:∃x,x=L.getD (4*m) 0:=⟨_,rfl⟩;obtain⟨x1,hx1⟩:∃x,x=L.getD (4*m+1) 0:=⟨_,rfl⟩;obtain⟨x2,hx2⟩:∃x,x=L.getD (4*m+2) 0:=⟨_,rfl⟩;obtain⟨x3,hx3⟩:∃x,x=L.getD (4*m+3) 0:=⟨_,rfl⟩;have k0:wr.cell? ⟨g,off+m*4,none⟩=some (iV x0):=by rw[Bn m 4,hx0];exact r2.at (4*m) (by omega)
    have k1:wr.cell? ⟨g,off+m*4+1,none⟩=some (iV x1):=by rw[Bn m 4,hx1];exact r2.at (4*m+1) (by omega)
    have k2:wr.cell? ⟨g,off+m*4+2,none⟩=some (iV x2):=by rw[Bn m 4,hx2];exact r2.at (4*m+2) (by omega)
    have k3:wr.cell? ⟨g,off+m*4+3,none⟩=some (iV x3):=by rw[Bn m 4,hx3];exact r2.at (4*m+3) (by omega)
    have MA:g<wr.heap.size:=r2.lt (by omega);have hgn:g≠wr.heap.size:=by omega
    have lB:=C.d.lt;have nB:B≠wr.heap.size:=by omega
    have hT:Hid (R++dS L (m+1)=(R++dS L m)++[x2,x3]):=ai (by rw[hx2,hx3];simp[dS]);have HC:=ai C;clear C r2 hx0 hx1 hx2 hx3
    go_wp2_with fail
    obtain⟨W3,hW3,b3,s3,e3⟩:∃W3,W3=wr.alloc (.cells #[iV x0,iV x1,iV x2,iV x3] 281)∧bZ wr W3∧W3.heap.size=wr.heap.size+1∧W3.heap[wr.heap.size]? =some (.cells #[iV x0,iV x1,iV x2,iV x3] 281 (0,0)):=⟨_,rfl,aC _ _,by simp,AP wr _⟩;rw[←hW3];have q2:W3.cell? ⟨wr.heap.size,2,none⟩=some (iV x2):=by simp[World.cell?,e3]
    have q3:W3.cell? ⟨wr.heap.size,3,none⟩=some (iV x3):=by simp[World.cell?,e3]
    have hbr:base≤wr.heap.size:=by have:=(aa HC).up;omega
    have C3:=(aa HC).next b3 hbr;obtain⟨d0,d1,d2,d3,d4⟩:=C3.d.heads;have df:=C3.d.free;have lB3:=C3.d.lt;have nB3:B≠W3.heap.size:=by omega
    have nw3:wr.heap.size≠W3.heap.size:=by omega
    have lw3:wr.heap.size<W3.heap.size:=by omega
    have Oo:base≤W3.heap.size:=by omega
    have b7:Below W3.heap.size W3 (W3.alloc (.cells #[iV x2,iV x3] 278)).drew:=Below.next (aC _ _) ⟨rfl,rfl,rfl,Ac _,fun _ _=>rfl⟩;have HO7:Hid ((W3.alloc (.cells #[iV x2,iV x3] 278)).drew.ownsRow base 278 2 (.slice a (rn+m) c) (rn+m) ((R++dS L m).map (Value.int .i64))):=ai (aJ C3.o1 (fun q _ hq=>b7.block q hq));have YF:=ai C3;have RJ:=ai b7;clear hW3 b3 s3 e3 k0 k1 k2 k3 HC C3 b7 lB nB MA hgn;generalize hXs:R++dS L m=Xs at HO7 YF hT;have HXs:=ai hXs;clear hXs
    go_region_law (refine oh rfl (.tmp 32) (.tmp 35) 105 rfl base 278 i1 _ 2 16 Tryz.underlying105 hi1 RL hz11 hz12 rfl (by decide) (.slice a (rn+m) c) (rn+m) Xs rfl (aa HO7) ⟨W3.heap.size,0,none⟩ 1 1 [x2,x3] rfl rfl (ab7 _ _ _ _) (by unfold maxLen;omega) (by omega) (by simp;omega) ?_;intro v' w7 own7 grow7;obtain⟨a3,c3,rfl⟩:=mI own7;obtain⟨e7,C7⟩:=(aa YF).ready (aa RJ) grow7 [x2,x3] Oo own7;have f3:=e7.free;have k3:=e7.heads.2.2.2.1;rw[←aa hT]at C7;have HC7:Hid (Pc w (w7.setCell ⟨B,3,none⟩ (.slice a3 (rn+m+1) c3)) base B ep nx gv a3 (rn+(m+1)) c3 (R++dS L (m+1)) (some ⟨g,off,none⟩) ln c2 L ws (w.heap.size+1)):=ai C7;clear C7 e7 own7 grow7)
    all_goals go_wp2
    all_goals
     go_roundw
     case rel=>exact⟨m+1,_,_,by omega,by go_num,aa HC7⟩
     case measure=>simp[intOf];omega
   ·obtain rfl:m=ln:=by omega
    obtain⟨d0,d1,d2,d3,d4⟩:=C.d.heads;have df:=C.d.free;have HC:=ai C;have wX:∀u∈R++dS L m,(Lit.int .i64 u).wf=true:=by
     intro u hu;rcases Ah.1 hu with hu|hu
     ·exact(aa HD).wR u hu
     ·exact Ex wL m u hu
    clear C
    go_wp2_with fail
    refine(Ox (aa HC).o1 hs wX).mono ?_;rintro e w5 ⟨rfl,R',o5,g5,r5,n5,l5⟩;have E5:=(aa HC).sorted g5 r5 n5 l5;obtain⟨u0,u1,u2,u3,u4⟩:=E5.d.heads;have uf:=E5.d.free;obtain⟨y0,y1,y2,y3⟩:=E5.a.cells;have yf:=E5.a.free;have nA:w.heap.size+1≠B:=cT E5.a E5.d (by decide);have HE5:=ai E5;have HO5:=ai o5;clear d0 d1 d2 d3 d4 df HC wX g5 r5 E5 o5 HD n5 l5;go_wp2;have E6:=(aa HE5).turn (aB.set B 4 w5 (.slice none 0 0)) ((aa HE5).d.zg _);have E7:=E6.turn (aB.set B 0 _ (iV (ep+1))) (E6.d.My _);have E8:=E7.turn (aB.set B 2 _ (iV 0)) (E7.d.given _);obtain⟨D9,B9⟩:=E8.out (gu _ (w.heap.size+1) 0 0 0 0) hW (by omega);exact Ao (MH (E8.a.store 0 0 0 0) rfl rfl) rfl ⟨_,rfl,aa HY (by omega) R' _ (aa HO5) D9 B9⟩
end
theorem FU{k:IntKind}{a b:Int}(h:a=b):Ending.returned (.int k a)= .returned (.int k b):=by rw[h]
def gM(k p i b he hn:Int):Int:=if k=0∧p=0∧i=0∧b=0∧he=0∧hn=0 then 0 else 3
def aT(k p i b he hn:Int):Int:=
 if k=1 then(if ¬(0≤p∧p≤3∧0≤i∧i≤1073741824∧0≤b∧b≤1000000)then 2 else if he=0∧hn=0 then 0 else 3)
 else if k=3 then(if ¬(0≤he∧he≤1048576∧0≤hn∧hn≤1073741824)then 2 else if p=0∧i=0∧b=0 then 0 else 3)
 else if(k=2∨k=4)∧p=0∧i=0∧b=0∧he=0∧hn=0 then 0 else 3
theorem xq(k p i b he hn:Int)(w:tA):
  cA 88 #[.agg #[iV k,iV p,iV i,iV b,iV he,iV hn]] w fun e w'=>
   e= .returned (iV (gM k p i b he hn))∧bZ w w':=by
 go_enter Tryz.func88,Tryz.ntmps88;go_wp2
 all_goals
  go_ret;refine⟨FU ?_,(Bm _ _).alloc (Ac _) _⟩;simp only[gM]
  repeat' split
  all_goals omega
theorem ot(k p i b he hn:Int)(w:tA):
  cA 55 #[.agg #[iV k,iV p,iV i,iV b,iV he,iV hn]] w fun e w'=>
   e= .returned (iV (aT k p i b he hn))∧bZ w w':=by
 obtain⟨v,hv⟩:∃v,aT k p i b he hn=v:=⟨_,rfl⟩;rw[hv];have HV:Hid (aT k p i b he hn=v):=hv;clear hv;have Vl:∀x m:Int,x<0∨¬x≤m∧0≤x∨(0≤x∧x≤m):=by intro x m;omega
 have S:(k=2∨k=4∨k<1∨4<k)∨(k=1∧(p<0∨¬p≤3∧0≤p∨(0≤p∧p≤3)∧(i<0∨¬i≤1073741824∧0≤i∨(0≤i∧i≤1073741824)∧(b<0∨¬b≤1000000∧0≤b∨(0≤b∧b≤1000000)))))∨
   (k=3∧(he<0∨¬he≤1048576∧0≤he∨(0≤he∧he≤1048576)∧(hn<0∨¬hn≤1073741824∧0≤hn∨(0≤hn∧hn≤1073741824)))):=by
  by_cases k1:k=1
  ·refine .inr (.inl ⟨k1, ?_⟩);rcases Vl p 3 with h|h|h
   ·exact .inl h
   ·exact .inr (.inl h)
   refine .inr (.inr ⟨h, ?_⟩);rcases Vl i 1073741824 with h|h|h
   ·exact .inl h
   ·exact .inr (.inl h)
   exact .inr (.inr ⟨h,Vl b 1000000⟩)
  ·by_cases k3:k=3
   ·refine .inr (.inr ⟨k3, ?_⟩);rcases Vl he 1048576 with h|h|h
    ·exact .inl h
    ·exact .inr (.inl h)
    exact .inr (.inr ⟨h,Vl hn 1073741824⟩)
   ·exact .inl (by omega)
 clear Vl;rcases S with(rfl|rfl|h1|h1)|⟨rfl,h1|⟨h1,h1'⟩|⟨⟨h1,h2⟩,h3|⟨h3,h3'⟩|⟨⟨h3,h4⟩,h5|⟨h5,h5'⟩|⟨h5,h6⟩⟩⟩⟩|⟨rfl,h1|⟨h1,h1'⟩|⟨⟨h1,h2⟩,h3|⟨h3,h3'⟩|⟨h3,h4⟩⟩⟩
 all_goals
  go_enter Tryz.func55,Tryz.ntmps55
  go_wp2_with (first|(go_at_call 88;refine(xq _ _ _ _ _ _ _).mono ?_;rintro e w1 ⟨rfl,hb⟩)|(go_at_call 87;go_in))
  go_ret;refine⟨FU ?_, ?_⟩
  ·have h:=HV.out;subst h;clear HV;unfold aT
   try unfold gM
   repeat' split
   all_goals omega
  ·first|exact gm _ _ _|exact ur hb
structure St where
 ep:Int
 nx:Int
 gv:Int
 rn:Nat
 R:List Int
 ln:Nat
 L:List Int
 wt:Nat→Int
 wz:Nat→Nat→Bool
structure Ev where
 k:Int
 p:Int
 i:Int
 b:Int
 he:Int
 hn:Int
structure An where
 c:Int
 he:Int
 no:Int
 bd:Int
inductive Step(s:St)(v:Ev):St→An→Bool→Prop
 |iI (hk:v.k=1) (h:v.i<s.wt v.p.toNat-8):Step s v s ⟨9,0,0,0⟩ false
 |iJ (hk:v.k=1) (h:gU (s.wt v.p.toNat) (s.wz v.p.toNat) v.i=true):Step s v s ⟨0,0,0,0⟩ false
 |fS (hk:v.k=1) (h:s.wt v.p.toNat-8≤v.i) (hn:gU (s.wt v.p.toNat) (s.wz v.p.toNat) v.i=false) (hf:500≤s.rn+s.ln∨s.nx=1073741824):Step s v s ⟨14,0,0,0⟩ false
 |FV (hk:v.k=1) (h:s.wt v.p.toNat-8≤v.i) (hn:gU (s.wt v.p.toNat) (s.wz v.p.toNat) v.i=false) (hr:s.rn+s.ln<500) (hx:s.nx<1073741824):
  Step s v ⟨s.ep,s.nx+1,s.gv,s.rn+1,s.R++[s.nx,v.b],s.ln,s.L,xU s.wt v.p.toNat (h_ (s.wt v.p.toNat) v.i),xU s.wz v.p.toNat (eZ (s.wt v.p.toNat) (s.wz v.p.toNat) v.i)⟩ ⟨0,0,0,0⟩ true
 |eI (hk:v.k=2) (h:s.rn=0):Step s v s ⟨10,0,0,0⟩ false
 |fT (hk:v.k=2) (h:0<s.rn) (hg:s.gv=1073741824):Step s v s ⟨14,0,0,0⟩ false
 |recv (hk:v.k=2) (h:0<s.rn) (hg:s.gv<1073741824):
  Step s v ⟨s.ep,s.nx,s.gv+1,s.rn-1,s.R.drop 2,s.ln+1,s.L++[s.ep,s.gv,s.R.getD 0 0,s.R.getD 1 0],s.wt,s.wz⟩ ⟨0,s.ep,s.gv,s.R.getD 1 0⟩ true
 |eJ (hk:v.k=3) (h:¬v.he=s.ep):Step s v s ⟨11,0,0,0⟩ false
 |fU (hk:v.k=3) (h:v.he=s.ep) (ha:xp v.he v.hn s.L s.ln= -1):Step s v s ⟨7,0,0,0⟩ false
 |FW (hk:v.k=3) (h:v.he=s.ep) (m:Nat) (hm:m<s.ln) (ha:xp v.he v.hn s.L s.ln=m):
  Step s v ⟨s.ep,s.nx,s.gv,s.rn,s.R,s.ln-1,s.L.take (4*m)++s.L.drop (4*m+4),s.wt,s.wz⟩ ⟨0,0,0,0⟩ true
 |fV (hk:v.k=4) (h:s.ep=1048576):Step s v s ⟨14,0,0,0⟩ false
 |stop (hk:v.k=4) (h:s.ep<1048576) (R':tG) (ho:Ordered (s.R++dS s.L s.ln) R' (s.rn+s.ln)):
  Step s v ⟨s.ep+1,s.nx,0,s.rn+s.ln,R',0,[],s.wt,s.wz⟩ ⟨0,0,0,0⟩ true
def St.Ok(s:St):Prop:=FO s.ep s.nx s.gv s.R s.rn s.L s.ln s.wt s.wz
def Ev.Ok(v:Ev):Prop:=aT v.k v.p v.i v.b v.he v.hn=0
theorem Ev.cases{v:Ev}(h:v.Ok):(v.k=1∧0≤v.p∧v.p≤3∧0≤v.i∧v.i≤1073741824∧0≤v.b∧v.b≤1000000∧v.he=0∧v.hn=0)∨(v.k=2∧v.p=0∧v.i=0∧v.b=0∧v.he=0∧v.hn=0)∨
  (v.k=3∧0≤v.he∧v.he≤1048576∧0≤v.hn∧v.hn≤1073741824∧v.p=0∧v.i=0∧v.b=0)∨(v.k=4∧v.p=0∧v.i=0∧v.b=0∧v.he=0∧v.hn=0):=by
 unfold Ev.Ok aT at h;split at h
 ·rename_i hk;split at h
  ·omega
  ·rename_i h1;split at h
   ·rename_i h2;have h1:=AD.1 h1;exact .inl ⟨hk,h1.1,h1.2.1,h1.2.2.1,h1.2.2.2.1,h1.2.2.2.2.1,h1.2.2.2.2.2,h2.1,h2.2⟩
   ·omega
 ·split at h
  ·rename_i hk;split at h
   ·omega
   ·rename_i h1;split at h
    ·rename_i h2;have h1:=AD.1 h1;exact .inr (.inr (.inl ⟨hk,h1.1,h1.2.1,h1.2.2.1,h1.2.2.2,h2.1,h2.2.1,h2.2.2⟩))
    ·omega
  ·split at h
   ·rename_i h1;obtain⟨h1|h1,h2⟩:=h1
    ·exact .inr (.inl ⟨h1,h2⟩)
    ·exact .inr (.inr (.inr ⟨h1,h2⟩))
   ·omega
abbrev pk(v:Ev):Value:=zi v.k v.p v.i v.b v.he v.hn
abbrev Ib(a:An):Value:=ib a.c a.he a.no a.bd
def Oy(s:St)(v:Ev)(base B:Nat)(w:tA)(x:tK)(w':tA):Prop:=
 ∃(s':St) (an:An) (ch:Bool),x= .tuple #[Ib an,.bool ch]∧Step s v s' an ch∧jQ w' base B s'.ep s'.nx s'.gv s'.rn s'.R s'.ln s'.L s'.wt s'.wz∧Below base w w'
theorem KJ(base B:Nat)(s:St)(a1:tB)(c1:Nat)(a2:tB)(c2:Nat)(ws:tD)(v:Ev)(w:tA)(D:rZ w base B s.ep s.nx s.gv a1 s.rn c1 a2 s.ln c2 s.R s.L ws)(hW:gP ws s.wt s.wz)(d_:base≤w.heap.size)(ok:s.Ok)(hv:v.Ok):
  cA (methodOf v.k) #[.pointer (some ⟨B,0,none⟩),pk v] w fun e w'=>∃x,e= .returned x∧Oy s v base B w x w':=by
 have hc:=ok.count;have js:s.rn+s.ln≤500:=hc.sz;have out:∀w',bZ w w'→jQ w' base B s.ep s.nx s.gv s.rn s.R s.ln s.L s.wt s.wz∧Below base w w':=fun w' hb=>⟨(D.next hb).out hW,hb.mono d_⟩;rcases Ev.cases hv with⟨hk,h1,h2,h3,h4,h5,h6,h7,h8⟩|⟨hk,h1,h2,h3,h4,h5⟩|⟨hk,h1,h2,h3,h4,h5,h6,h7⟩|⟨hk,h1,h2,h3,h4,h5⟩
 ·obtain⟨P,hP⟩:∃P:Nat,v.p=P:=⟨v.p.toNat,by omega⟩;have ZL:v.p.toNat=P:=by omega
  have hP4:P<4:=by omega
  have hw:=ok.Hw P hP4;have hm:methodOf v.k=193:=by rw[hk];rfl
  rw[hm,show pk v=zi v.k (P:Int) v.i v.b v.he v.hn by rw[←hP]];by_cases g1:v.i<s.wt P-8
  ·refine qm base B P s.ep s.nx s.gv a1 s.rn c1 a2 s.ln c2 s.R s.L ws s.wt s.wz v.k v.i v.b v.he v.hn w D hW d_ hP4 js hc.n0 hc.n1 (uK (by omega) (by omega)) 0 kl false 9 (fun w=>RQ _ _ _ w hw h3 h4 g1) (Oy s v base B w) (ai fun _ w' hb=> ?_) (ai fun h=>by simp at h) (ai fun h=>by simp at h);obtain⟨d,bb⟩:=out w' hb;exact⟨s,⟨9,0,0,0⟩,false,rfl,.iI hk (by rw[ZL];exact g1),d,bb⟩
  ·cases g2:gU (s.wt P) (s.wz P) v.i with
   |true=>
    refine qm base B P s.ep s.nx s.gv a1 s.rn c1 a2 s.ln c2 s.R s.L ws s.wt s.wz v.k v.i v.b v.he v.hn w D hW d_ hP4 js hc.n0 hc.n1 (uK (by omega) (by omega)) (s.wt P) (s.wz P) false 0 (fun w=>RS _ _ _ w hw h3 h4 g2) (Oy s v base B w) (ai fun _ w' hb=> ?_) (ai fun h=>by simp at h) (ai fun h=>by simp at h);obtain⟨d,bb⟩:=out w' hb;exact⟨s,⟨0,0,0,0⟩,false,rfl,.iJ hk (by rw[ZL];exact g2),d,bb⟩
   |false=>
    refine qm base B P s.ep s.nx s.gv a1 s.rn c1 a2 s.ln c2 s.R s.L ws s.wt s.wz v.k v.i v.b v.he v.hn w D hW d_ hP4 js hc.n0 hc.n1 (uK (by omega) (by omega)) (h_ (s.wt P) v.i) (eZ (s.wt P) (s.wz P) v.i) true 0 (fun w=>RV _ _ _ w hw h3 h4 (by omega) g2) (Oy s v base B w) (ai fun h=>by simp at h) (ai fun _ hf w' hb=> ?_) (ai fun _ hr hx w' d bb=> ?_)
    ·obtain⟨d,bb⟩:=out w' hb;exact⟨s,⟨14,0,0,0⟩,false,rfl,.fS hk (by rw[ZL];omega) (by rw[ZL];exact g2) hf,d,bb⟩
    ·refine⟨_,⟨0,0,0,0⟩,true,rfl,.FV hk (by rw[ZL];omega) (by rw[ZL];exact g2) hr hx, ?_,bb⟩;rw[ZL];exact d
 ·have hm:methodOf v.k=194:=by rw[hk];rfl
  rw[hm];by_cases g1:s.rn=0
  ·refine(zj base B s.ep s.nx s.gv a1 s.rn c1 a2 s.ln c2 s.R s.L ws s.wt s.wz v.k v.p v.i v.b v.he v.hn w D hW d_ 10 (.inl ⟨g1,rfl⟩)).mono ?_;rintro e w' ⟨rfl,d,bb⟩;exact⟨_,rfl,s,⟨10,0,0,0⟩,false,rfl,.eI hk g1,d,bb⟩
  ·by_cases g2:s.gv=1073741824
   ·refine(zj base B s.ep s.nx s.gv a1 s.rn c1 a2 s.ln c2 s.R s.L ws s.wt s.wz v.k v.p v.i v.b v.he v.hn w D hW d_ 14 (.inr ⟨by omega,g2,rfl⟩)).mono ?_;rintro e w' ⟨rfl,d,bb⟩;exact⟨_,rfl,s,⟨14,0,0,0⟩,false,rfl,.fT hk (by omega) g2,d,bb⟩
   ·obtain⟨g,hg⟩:∃g,a1=some ⟨g,0,none⟩:=by
     rcases D.o1.2 with⟨_,h0⟩|⟨g,cap,cur,e,_⟩
     ·omega
     ·cases e;exact⟨g,rfl⟩
    subst hg;have:=hc.g1;refine(H4 base B g s.ep s.nx s.gv s.rn c1 a2 s.ln c2 s.R s.L ws s.wt s.wz v.k v.p v.i v.b v.he v.hn w D hW d_ (by omega) js hc.g0 (by omega) (uK hc.e0 (by have:=hc.e1;omega))).mono ?_;rintro e w' ⟨rfl,d,bb⟩;exact⟨_,rfl,_,⟨0,s.ep,s.gv,s.R.getD 1 0⟩,true,rfl,.recv hk (by omega) (by omega),d,bb⟩
 ·have hm:methodOf v.k=195:=by rw[hk];rfl
  rw[hm];refine V4 base B s.ep s.nx s.gv a1 s.rn c1 a2 s.ln c2 s.R s.L ws s.wt s.wz v.k v.p v.i v.b v.he v.hn w D hW d_ js (Oy s v base B w) (ai fun h w' hb=> ?_) (ai fun h ha w' hb=> ?_) (ai fun h m hm ha w' d bb=> ?_)
  ·obtain⟨d,bb⟩:=out w' hb;exact⟨s,⟨11,0,0,0⟩,false,rfl,.eJ hk h,d,bb⟩
  ·obtain⟨d,bb⟩:=out w' hb;exact⟨s,⟨7,0,0,0⟩,false,rfl,.fU hk h ha,d,bb⟩
  ·exact⟨_,⟨0,0,0,0⟩,true,rfl,.FW hk h m hm ha,d,bb⟩
 ·have hm:methodOf v.k=196:=by rw[hk];rfl
  rw[hm];refine V6 base B s.ep s.nx s.gv a1 s.rn c1 a2 s.ln c2 s.R s.L ws s.wt s.wz v.k v.p v.i v.b v.he v.hn w D hW d_ js hc.e0 hc.e1 (Oy s v base B w) (ai fun h w' hb=> ?_) (ai fun h R' w' ho d bb=> ?_)
  ·obtain⟨d,bb⟩:=out w' hb;exact⟨s,⟨14,0,0,0⟩,false,rfl,.fV hk h,d,bb⟩
  ·exact⟨_,⟨0,0,0,0⟩,true,rfl,.stop hk h R' ho,d,bb⟩
structure St.Wf(s:St):Prop where
 ok:s.Ok
 lr:s.R.length=2*s.rn
 ll:s.L.length=4*s.ln
theorem dh(A B:tG)(j:Nat)(h:j<A.length):(A++B).getD j 0=A.getD j 0:=by
 simp[List.getElem?_append_left h]
theorem cX(A B:tG)(j n:Nat)(h:A.length=n):(A++B).getD (n+j) 0=B.getD j 0:=by
 subst h;simp[List.getElem?_append_right]
theorem getD_drop(A:tG)(k j:Nat):(A.drop k).getD j 0=A.getD (k+j) 0:=by simp
theorem je{l:tG}:y_ l=false↔l.Nodup:=by simp[y_]
theorem gx{s:St}(h:s.Ok){i:Nat}(hi:i<s.rn):0≤s.R.getD (2*i) 0∧s.R.getD (2*i) 0≤s.nx-1∧0≤s.R.getD (2*i+1) 0∧s.R.getD (2*i+1) 0≤1000000:=by
 have:=(h.hold.ready i hi).sU;rw[AH,iv,iv]at this;exact⟨this.1.1,this.1.2,this.2.1,this.2.2⟩
theorem jw{s:St}(h:s.Ok){i:Nat}(hi:i<s.ln):0≤s.L.getD (4*i+2) 0∧s.L.getD (4*i+2) 0≤s.nx-1∧0≤s.L.getD (4*i+3) 0∧s.L.getD (4*i+3) 0≤1000000:=by
 have:=h.hold.sU i hi;unfold vX at this;rw[AH,iv,iv]at this;exact⟨this.1.1,this.1.2,this.2.1,this.2.2⟩
theorem lZ{s:St}(h:s.Ok){i:Nat}(hi:i<s.ln):s.L.getD (4*i) 0=s.ep∧0≤s.L.getD (4*i+1) 0∧s.L.getD (4*i+1) 0≤s.gv-1:=by
 have:=h.Hx i hi;have h2:=iv.1 this.no;exact⟨this.My,h2.1,h2.2⟩
theorem zt{s:St}(h:s.Ok){i:Nat}(hi:i+1<s.rn):s.R.getD (2*i) 0<s.R.getD (2*(i+1)) 0:=by
 have:=(h.hold.ready (i+1) hi).Kn;unfold Hu at this;rw[Aa (by omega),show 2*(i+1-1)=2*i by omega]at this;exact this
theorem sW{s:St}(h:s.Ok){i:Nat}(hi:i+1<s.ln):s.L.getD (4*i+1) 0<s.L.getD (4*(i+1)+1) 0:=by
 have:=(h.Hx (i+1) hi).Kn;unfold yY at this;rw[Aa (by omega),show 4*(i+1-1)+1=4*i+1 by omega]at this;exact this
theorem zu{nx:Int}{R:tG}{n:Nat}(h1:∀i,i<n→0≤R.getD (2*i) 0∧R.getD (2*i) 0≤nx-1∧0≤R.getD (2*i+1) 0∧R.getD (2*i+1) 0≤1000000)(h2:∀i,i+1<n→R.getD (2*i) 0<R.getD (2*(i+1)) 0):∀i,i<n→yv nx R i:=by
 intro i hi;obtain⟨a,b,c,d⟩:=h1 i hi;refine⟨by rw[AH,iv,iv];exact⟨⟨a,b⟩,c,d⟩, ?_⟩;unfold Hu;split
 ·omega
 ·have:=h2 (i-1) (by omega);rw[show 2*(i-1+1)=2*i by omega]at this;exact this
theorem Ic{ep gv:Int}{L:tG}{n:Nat}(h1:∀i,i<n→L.getD (4*i) 0=ep∧0≤L.getD (4*i+1) 0∧L.getD (4*i+1) 0≤gv-1)(h2:∀i,i+1<n→L.getD (4*i+1) 0<L.getD (4*(i+1)+1) 0):∀i,i<n→nj ep gv L i:=by
 intro i hi;obtain⟨a,b,c⟩:=h1 i hi;refine⟨a,iv.2 ⟨b,c⟩, ?_⟩;unfold yY;split
 ·omega
 ·have:=h2 (i-1) (by omega);rw[show 4*(i-1+1)+1=4*i+1 by omega]at this;exact this
theorem FX{nx:Int}{L:tG}{n:Nat}(h1:∀i,i<n→0≤L.getD (4*i+2) 0∧L.getD (4*i+2) 0≤nx-1∧0≤L.getD (4*i+3) 0∧L.getD (4*i+3) 0≤1000000):∀i,i<n→vX nx L i:=by
 intro i hi;obtain⟨a,b,c,d⟩:=h1 i hi;unfold vX;rw[AH,iv,iv];exact⟨⟨a,b⟩,c,d⟩
theorem zv{R R':tG}{n:Nat}(h:∀i,i<n→R.getD (2*i) 0=R'.getD (2*i) 0):cO R n=cO R' n:=
 BR fun i hi=>h i (Cg.1 hi)
theorem zw{L L':tG}{n:Nat}(h:∀i,i<n→L.getD (4*i+2) 0=L'.getD (4*i+2) 0):dj L n=dj L' n:=
 BR fun i hi=>h i (Cg.1 hi)
theorem R9{s:St}(h:s.Ok):∀x∈fY s.L s.ln s.R s.rn,x<s.nx:=by
 intro x hx;rcases Ah.1 hx with hx|hx
 ·obtain⟨i,hi,rfl⟩:=Ay.1 hx;have:=jw h (Cg.1 hi);omega
 ·obtain⟨i,hi,rfl⟩:=Ay.1 hx;have:=gx h (Cg.1 hi);omega
theorem DH(R:tG)(n:Nat)(h:0<n):cO R n=R.getD 0 0::cO (R.drop 2) (n-1):=by
 obtain⟨m,rfl⟩:∃m,n=m+1:=⟨n-1,by omega⟩;simp only[cO,List.range_succ_eq_map,List.map_cons,List.map_map,Nat.add_sub_cancel,Nat.mul_zero];congr 1;apply BR;intro i _;simp only[Function.comp,getD_drop];rw[show 2*Nat.succ i=2+2*i by omega]
theorem MI(L:tG)(m ln i j:Nat)(hl:L.length=4*ln)(hm:m<ln)(hj:j<4):(L.take (4*m)++L.drop (4*m+4)).getD (4*i+j) 0=if i<m then L.getD (4*i+j) 0 else L.getD (4*(i+1)+j) 0:=by
 rw[RY];by_cases h:i<m
 ·rw[Ae ⟨by omega,by omega⟩,Ae h]
 ·rw[Aa (by omega),Ae (by omega),Aa h,show 4*i+j+4=4*(i+1)+j by omega]
theorem FY(L:tG)(m ln:Nat)(hl:L.length=4*ln)(hm:m<ln):dj (L.take (4*m)++L.drop (4*m+4)) (ln-1)=(dj L ln).eraseIdx m:=by
 apply List.ext_getElem
 ·simp[dj,List.length_eraseIdx,hm]
 ·intro i h1 h2;have hi:i<ln-1:=by simpa[dj]using h1
  rw[List.getElem_eraseIdx];simp only[dj,List.getElem_map,List.getElem_range];rw[MI L m ln i 2 hl hm (by omega)];split<;>rfl
theorem zx(L:tG):∀k,(dS L k).length=2*k
 |0=>rfl
 |k+1=>by simp[dS,zx L k];omega
theorem Ey(L:tG):∀k i,i<k→(dS L k).getD (2*i) 0=L.getD (4*i+2) 0∧(dS L k).getD (2*i+1) 0=L.getD (4*i+3) 0
 |0,_,h=>absurd h (AF _)
 |k+1,i,h=>by
  have hl:=zx L k;unfold dS;rcases AG i k with h'|h'
  ·rw[dh _ _ _ (by omega),dh _ _ _ (by omega)];exact Ey L k i h'
  ·obtain rfl:i=k:=by omega
   rw[show 2*i=2*i+0 from rfl,cX _ _ 0 _ hl,Cn,cX _ _ 1 _ hl];exact⟨rfl,rfl⟩
theorem R_{s:St}(h:s.Wf)(i:Nat)(hi:i<s.rn+s.ln):(i<s.rn∧gw (s.R++dS s.L s.ln) i=gw s.R i)∨∃j,j<s.ln∧i=s.rn+j∧gw (s.R++dS s.L s.ln) i=(s.L.getD (4*j+2) 0,s.L.getD (4*j+3) 0):=by
 have hr:=h.lr;rcases AG i s.rn with h1|h1
 ·left;refine⟨h1, ?_⟩;unfold gw;rw[dh _ _ _ (by omega),dh _ _ _ (by omega)]
 ·right;refine⟨i-s.rn,by omega,by omega, ?_⟩;have hm:=Ey s.L s.ln (i-s.rn) (by omega);unfold gw;have e1:2*i=2*s.rn+2*(i-s.rn):=by omega
  have e2:2*i+1=2*s.rn+(2*(i-s.rn)+1):=by omega
  rw[e2,e1,cX _ _ _ _ hr,cX _ _ _ _ hr,hm.1,hm.2]
theorem xr{s:St}{R':tG}(h:s.Wf)(ho:Ordered (s.R++dS s.L s.ln) R' (s.rn+s.ln)):(cO R' (s.rn+s.ln)).Perm (fY s.L s.ln s.R s.rn):=by
 have e:∀(R:tG) n,cO R n=(cD R n).map Prod.fst:=fun R n=>by simp[cO,cD,gw]
 have hp:=ho.perm.map Prod.fst;rw[←e,←e]at hp;refine hp.trans ?_;have:cO (s.R++dS s.L s.ln) (s.rn+s.ln)=cO s.R s.rn++dj s.L s.ln:=by
  apply List.ext_getElem
  ·simp[cO,dj]
  ·intro i h1 h2;have hi:i<s.rn+s.ln:=by simpa[cO]using h1
   rw[List.getElem_append];simp only[cO,dj,List.getElem_map,List.getElem_range,List.length_map,List.length_range];rcases R_ h i hi with⟨h3,h4⟩|⟨j,h3,h4,h5⟩
   ·rw[dif_pos h3];exact AB Prod.fst h4
   ·rw[dif_neg (by omega)];have:=AB Prod.fst h5;simp only[gw]at this;rw[this,show i-s.rn=j by omega]
 rw[this];exact List.perm_append_comm
theorem FZ{s:St}{R':tG}(h:s.Wf)(ho:Ordered (s.R++dS s.L s.ln) R' (s.rn+s.ln)):∀i,i<s.rn+s.ln→0≤R'.getD (2*i) 0∧R'.getD (2*i) 0≤s.nx-1∧0≤R'.getD (2*i+1) 0∧R'.getD (2*i+1) 0≤1000000:=by
 intro i hi;have hm:gw R' i∈cD R' (s.rn+s.ln):=Ay.2 ⟨i,Cg.2 hi,rfl⟩;obtain⟨j,hj,he⟩:=Ay.1 (ho.perm.mem_iff.1 hm);have hj:=Cg.1 hj;have e1:=AB Prod.fst he;have e2:=AB Prod.snd he;rcases R_ h j hj with⟨h3,h4⟩|⟨k,h3,h4,h5⟩
 ·rw[h4]at e1 e2;simp only[gw]at e1 e2;rw[←e1,←e2];exact gx h.ok h3
 ·rw[h5]at e1 e2;simp only[gw]at e1 e2;rw[←e1,←e2];exact jw h.ok h3
theorem po{s:St}{R':tG}(h:s.Wf)(ho:Ordered (s.R++dS s.L s.ln) R' (s.rn+s.ln)):∀i,i+1<s.rn+s.ln→R'.getD (2*i) 0<R'.getD (2*(i+1)) 0:=by
 intro i hi;have h1:=ho.Kn i (i+1) (by omega) hi;have hn:(cO R' (s.rn+s.ln)).Nodup:=(xr h ho).nodup_iff.2 (je.1 h.ok.hold.apart);have h2:=BD.1 hn i (i+1) (by simp[cO];omega) (by simp[cO];omega) (by omega);simp only[cO,List.getElem_map,List.getElem_range]at h2;omega
theorem Step.wf{s s':St}{v:Ev}{an:An}{ch:Bool}(h:s.Wf)(hv:v.Ok)(st:Step s v s' an ch):s'.Wf:=by
 have ok:=h.ok;have hc:=ok.count;have Oz:=h.lr;have DI:=h.ll;cases st with
 |iI|iJ|fS|eI|fT|eJ|fU|fV=>exact h
 |FV hk h1 h2 hr hx=>
  have hb:0≤v.b∧v.b≤1000000∧0≤v.i∧v.i≤1073741824:=by
   rcases Ev.cases hv with h|h|h|h<;>omega
  refine⟨⟨⟨hc.e0,hc.e1,by have:=hc.n0;show 0≤s.nx+1;omega,by show s.nx+1≤_;omega,hc.g0,hc.g1,by show s.rn+1+s.ln≤500;omega⟩, ?_,⟨?_, ?_, ?_⟩,ok.Hx⟩, ?_,DI⟩
  ·intro p hp;show fO (xU s.wt v.p.toNat _ p) (xU s.wz v.p.toNat _ p);unfold xU;by_cases e:p=v.p.toNat
   ·rw[Ae e,Ae e,←e];exact(ok.Hw p hp).take (by omega) (by omega)
   ·rw[Aa e,Aa e];exact ok.Hw p hp
  ·refine zu (fun i hi=> ?_) (fun i hi=> ?_)
   ·have hi:i<s.rn+1:=hi;show 0≤(s.R++[s.nx,v.b]).getD (2*i) 0∧(s.R++[s.nx,v.b]).getD (2*i) 0≤s.nx+1-1∧0≤(s.R++[s.nx,v.b]).getD (2*i+1) 0∧(s.R++[s.nx,v.b]).getD (2*i+1) 0≤1000000;rcases AG i s.rn with h'|h'
    ·rw[dh _ _ _ (by omega),dh _ _ _ (by omega)];have:=gx ok h';omega
    ·obtain rfl:i=s.rn:=by omega
     rw[cX _ _ 1 _ Oz,show 2*s.rn=2*s.rn+0 from rfl,cX _ _ 0 _ Oz];have:=hc.n0;simp;omega
   ·have hi:i+1<s.rn+1:=hi;show(s.R++[s.nx,v.b]).getD (2*i) 0<(s.R++[s.nx,v.b]).getD (2*(i+1)) 0;rw[dh _ _ _ (by omega)];rcases AG (i+1) s.rn with h'|h'
    ·rw[dh _ _ _ (by omega)];exact zt ok h'
    ·rw[show 2*(i+1)=2*s.rn+0 by omega,cX _ _ 0 _ Oz];have:=gx ok (show i<s.rn by omega);simp at this⊢;omega
  ·refine FX (fun i hi=> ?_);have:=jw ok hi;exact⟨this.1,by have:=this.2.1;show s.L.getD (4*i+2) 0≤s.nx+1-1;omega,this.2.2⟩
  ·show y_ (fY s.L s.ln (s.R++[s.nx,v.b]) (s.rn+1))=false;rw[je,yZ,show 2*s.rn=2*s.rn+0 from rfl,cX _ _ 0 _ Oz];have e:fY s.L s.ln (s.R++[s.nx,v.b]) s.rn=fY s.L s.ln s.R s.rn:=by
    unfold fY;rw[zv (fun i hi=>dh _ _ _ (by omega))]
   rw[e,List.nodup_append];refine⟨je.1 ok.hold.apart,by simp,fun a ha b hb=> ?_⟩;have:=R9 ok a ha;simp at hb;omega
  ·show(s.R++[s.nx,v.b]).length=2*(s.rn+1);simp;omega
 |recv hk h1 hg=>
  refine⟨⟨⟨hc.e0,hc.e1,hc.n0,hc.n1,by have:=hc.g0;show 0≤s.gv+1;omega,by show s.gv+1≤_;omega,by have:=hc.sz;show s.rn-1+(s.ln+1)≤500;omega⟩,ok.Hw,⟨?_, ?_, ?_⟩, ?_⟩, ?_, ?_⟩
  ·refine zu (fun i hi=> ?_) (fun i hi=> ?_)
   ·have hi:i<s.rn-1:=hi;have:=gx ok (show i+1<s.rn by omega);show 0≤(s.R.drop 2).getD (2*i) 0∧(s.R.drop 2).getD (2*i) 0≤s.nx-1∧0≤(s.R.drop 2).getD (2*i+1) 0∧(s.R.drop 2).getD (2*i+1) 0≤1000000;rw[getD_drop,getD_drop,show 2+2*i=2*(i+1) by omega,show 2+(2*i+1)=2*(i+1)+1 by omega];exact this
   ·have hi:i+1<s.rn-1:=hi;have:=zt ok (show i+1+1<s.rn by omega);show(s.R.drop 2).getD (2*i) 0<(s.R.drop 2).getD (2*(i+1)) 0;rw[getD_drop,getD_drop,show 2+2*i=2*(i+1) by omega,show 2+2*(i+1)=2*(i+1+1) by omega];exact this
  ·refine FX (fun i hi=> ?_);have hi:i<s.ln+1:=hi;show 0≤(s.L++[s.ep,s.gv,s.R.getD 0 0,s.R.getD 1 0]).getD (4*i+2) 0∧(s.L++[s.ep,s.gv,s.R.getD 0 0,s.R.getD 1 0]).getD (4*i+2) 0≤s.nx-1∧0≤(s.L++[s.ep,s.gv,s.R.getD 0 0,s.R.getD 1 0]).getD (4*i+3) 0∧(s.L++[s.ep,s.gv,s.R.getD 0 0,s.R.getD 1 0]).getD (4*i+3) 0≤1000000;rcases AG i s.ln with h'|h'
   ·rw[dh _ _ _ (by omega),dh _ _ _ (by omega)];exact jw ok h'
   ·obtain rfl:i=s.ln:=by omega
    rw[cX _ _ 2 _ DI,cX _ _ 3 _ DI];exact gx ok h1
  ·show y_ (fY (s.L++[s.ep,s.gv,s.R.getD 0 0,s.R.getD 1 0]) (s.ln+1) (s.R.drop 2) (s.rn-1))=false;have e:fY (s.L++[s.ep,s.gv,s.R.getD 0 0,s.R.getD 1 0]) (s.ln+1) (s.R.drop 2) (s.rn-1)=fY s.L s.ln s.R s.rn:=by
    unfold fY;rw[ss,cX _ _ 2 _ DI,zw (fun i hi=>dh _ _ _ (by omega)),DH s.R s.rn h1,AA];rfl
   rw[e];exact ok.hold.apart
  ·refine Ic (fun i hi=> ?_) (fun i hi=> ?_)
   ·have hi:i<s.ln+1:=hi;show(s.L++[s.ep,s.gv,s.R.getD 0 0,s.R.getD 1 0]).getD (4*i) 0=s.ep∧0≤(s.L++[s.ep,s.gv,s.R.getD 0 0,s.R.getD 1 0]).getD (4*i+1) 0∧(s.L++[s.ep,s.gv,s.R.getD 0 0,s.R.getD 1 0]).getD (4*i+1) 0≤s.gv+1-1;rcases AG i s.ln with h'|h'
    ·rw[dh _ _ _ (by omega),dh _ _ _ (by omega)];have:=lZ ok h';omega
    ·obtain rfl:i=s.ln:=by omega
     rw[cX _ _ 1 _ DI,show 4*s.ln=4*s.ln+0 from rfl,cX _ _ 0 _ DI];have:=hc.g0;simp;omega
   ·have hi:i+1<s.ln+1:=hi;show(s.L++[s.ep,s.gv,s.R.getD 0 0,s.R.getD 1 0]).getD (4*i+1) 0<(s.L++[s.ep,s.gv,s.R.getD 0 0,s.R.getD 1 0]).getD (4*(i+1)+1) 0;rw[dh _ _ _ (by omega)];rcases AG (i+1) s.ln with h'|h'
    ·rw[dh _ _ _ (by omega)];exact sW ok h'
    ·rw[show 4*(i+1)+1=4*s.ln+1 by omega,cX _ _ 1 _ DI];have:=lZ ok (show i<s.ln by omega);simp at this⊢;omega
  ·show(s.R.drop 2).length=2*(s.rn-1);simp;omega
  ·show(s.L++[s.ep,s.gv,s.R.getD 0 0,s.R.getD 1 0]).length=4*(s.ln+1);simp;omega
 |FW hk h1 m hm ha=>
  have g:=fun i j (hj:j<4)=>MI s.L m s.ln i j DI hm hj;refine⟨⟨⟨hc.e0,hc.e1,hc.n0,hc.n1,hc.g0,hc.g1,by have:=hc.sz;show s.rn+(s.ln-1)≤500;omega⟩,ok.Hw,⟨ok.hold.ready, ?_, ?_⟩, ?_⟩,Oz, ?_⟩
  ·refine FX (fun i hi=> ?_);have hi:i<s.ln-1:=hi;show 0≤(s.L.take (4*m)++s.L.drop (4*m+4)).getD (4*i+2) 0∧(s.L.take (4*m)++s.L.drop (4*m+4)).getD (4*i+2) 0≤s.nx-1∧0≤(s.L.take (4*m)++s.L.drop (4*m+4)).getD (4*i+3) 0∧(s.L.take (4*m)++s.L.drop (4*m+4)).getD (4*i+3) 0≤1000000;rw[g i 2 (by omega),g i 3 (by omega)];split
   ·exact jw ok (by omega)
   ·exact jw ok (by omega)
  ·show y_ (fY (s.L.take (4*m)++s.L.drop (4*m+4)) (s.ln-1) s.R s.rn)=false;rw[je];unfold fY;rw[FY s.L m s.ln DI hm];exact List.Nodup.sublist ((List.eraseIdx_sublist _ _).append (List.Sublist.refl _)) (je.1 ok.hold.apart)
  ·refine Ic (fun i hi=> ?_) (fun i hi=> ?_)
   ·have hi:i<s.ln-1:=hi;show(s.L.take (4*m)++s.L.drop (4*m+4)).getD (4*i) 0=s.ep∧0≤(s.L.take (4*m)++s.L.drop (4*m+4)).getD (4*i+1) 0∧(s.L.take (4*m)++s.L.drop (4*m+4)).getD (4*i+1) 0≤s.gv-1;rw[g i 1 (by omega),show 4*i=4*i+0 from rfl,g i 0 (by omega)];split
    ·exact lZ ok (by omega)
    ·exact lZ ok (by omega)
   ·have hi:i+1<s.ln-1:=hi;show(s.L.take (4*m)++s.L.drop (4*m+4)).getD (4*i+1) 0<(s.L.take (4*m)++s.L.drop (4*m+4)).getD (4*(i+1)+1) 0;rw[g i 1 (by omega),g (i+1) 1 (by omega)];have a1:=sW ok (show i+1<s.ln by omega);have a2:=sW ok (show i+1+1<s.ln by omega);split<;>split<;>omega
  ·show(s.L.take (4*m)++s.L.drop (4*m+4)).length=4*(s.ln-1);simp;omega
 |stop hk h1 R' ho=>
  refine⟨⟨⟨by have:=hc.e0;show 0≤s.ep+1;omega,by show s.ep+1≤_;omega,hc.n0,hc.n1,by show(0:Int)≤0;omega,by show(0:Int)≤_;omega,by have:=hc.sz;show s.rn+s.ln+0≤500;omega⟩,ok.Hw,⟨zu (FZ h ho) (po h ho),fun i hi=>absurd hi (AF _), ?_⟩,fun i hi=>absurd hi (AF _)⟩,ho.len,rfl⟩;show y_ (fY [] 0 R' (s.rn+s.ln))=false;rw[je];unfold fY;rw[show dj [] 0=[] from rfl,List.nil_append];exact(xr h ho).nodup_iff.2 (je.1 ok.hold.apart)
def zy(k a b c:Int):List Int:=
 if aA k 8<3 then[1,aA a 2,aA b 24,aA c 1000,0,0]
 else if aA k 8<5 then[2,0,0,0,0,0]
 else if aA k 8<7 then[3,0,0,0,aA a 3,aA b 6]
 else[4,0,0,0,0,0]
theorem OA(k a b c:Int)(w:tA)(wk:(Lit.int .i64 k).wf=true)(wa:(Lit.int .i64 a).wf=true)(wb:(Lit.int .i64 b).wf=true)(wc:(Lit.int .i64 c).wf=true):
  cA 39 #[.agg #[iV k,iV a,iV b,iV c]] w (rB (.agg ((zy k a b c).map (Value.int .i64)).toArray) w):=by
 obtain⟨ev,KK⟩:∃ev,zy k a b c=ev:=⟨_,rfl⟩;rw[KK];unfold zy at KK;obtain⟨p0,p1⟩:=di k 8 (by omega);go_enter Tryz.func39,Tryz.ntmps39
 go_wp2_with fail
 refine(jd k 8 _ wk (by omega) (by omega)).mono ?_;rintro e w0 ⟨rfl,rfl⟩;generalize aA k 8=p at p0 p1 KK;have HV:=ai KK;clear KK;have P:p=0∨p=1∨p=2∨p=3∨p=4∨p=5∨p=6∨p=7:=by omega
 clear p0 p1;rcases P with rfl|rfl|rfl|rfl|rfl|rfl|rfl|rfl
 ·have hv:[1,aA a 2,aA b 24,aA c 1000,0,0]=ev:=by simpa using aa HV
  subst hv;clear HV
  go_wp2_with fail
  go_region_held3 (fun w'=>w'.cell? ⟨w.heap.size,1,none⟩=some (iV a)∧w'.cell? ⟨w.heap.size,2,none⟩=some (iV b)∧w'.cell? ⟨w.heap.size,3,none⟩=some (iV c)) (go_keep) ((go_at_call 30;refine(jd _ _ _ (by assumption) (by omega) (by omega)).mono ?_;rintro e w' ⟨rfl,rfl⟩))
  all_goals
   go_wp2;exact Ao (v:= .agg #[iV 1,iV (aA a 2),iV (aA b 24),iV (aA c 1000),iV 0,iV 0]) (by simp[results,Tryz.results39,go_sem]) rfl ⟨rfl,(gm _ _ _).drew⟩
 ·have hv:[1,aA a 2,aA b 24,aA c 1000,0,0]=ev:=by simpa using aa HV
  subst hv;clear HV
  go_wp2_with fail
  go_region_held3 (fun w'=>w'.cell? ⟨w.heap.size,1,none⟩=some (iV a)∧w'.cell? ⟨w.heap.size,2,none⟩=some (iV b)∧w'.cell? ⟨w.heap.size,3,none⟩=some (iV c)) (go_keep) ((go_at_call 30;refine(jd _ _ _ (by assumption) (by omega) (by omega)).mono ?_;rintro e w' ⟨rfl,rfl⟩))
  all_goals
   go_wp2;exact Ao (v:= .agg #[iV 1,iV (aA a 2),iV (aA b 24),iV (aA c 1000),iV 0,iV 0]) (by simp[results,Tryz.results39,go_sem]) rfl ⟨rfl,(gm _ _ _).drew⟩
 ·have hv:[1,aA a 2,aA b 24,aA c 1000,0,0]=ev:=by simpa using aa HV
  subst hv;clear HV
  go_wp2_with fail
  go_region_held3 (fun w'=>w'.cell? ⟨w.heap.size,1,none⟩=some (iV a)∧w'.cell? ⟨w.heap.size,2,none⟩=some (iV b)∧w'.cell? ⟨w.heap.size,3,none⟩=some (iV c)) (go_keep) ((go_at_call 30;refine(jd _ _ _ (by assumption) (by omega) (by omega)).mono ?_;rintro e w' ⟨rfl,rfl⟩))
  all_goals
   go_wp2;exact Ao (v:= .agg #[iV 1,iV (aA a 2),iV (aA b 24),iV (aA c 1000),iV 0,iV 0]) (by simp[results,Tryz.results39,go_sem]) rfl ⟨rfl,(gm _ _ _).drew⟩
 ·have hv:[2,0,0,0,0,0]=ev:=by simpa using aa HV
  subst hv;clear HV;go_wp2;exact Ao (v:= .agg #[iV 2,iV 0,iV 0,iV 0,iV 0,iV 0]) (by simp[results,Tryz.results39,go_sem]) rfl ⟨rfl,gm _ _ _⟩
 ·have hv:[2,0,0,0,0,0]=ev:=by simpa using aa HV
  subst hv;clear HV;go_wp2;exact Ao (v:= .agg #[iV 2,iV 0,iV 0,iV 0,iV 0,iV 0]) (by simp[results,Tryz.results39,go_sem]) rfl ⟨rfl,gm _ _ _⟩
 ·have hv:[3,0,0,0,aA a 3,aA b 6]=ev:=by simpa using aa HV
  subst hv;clear HV
  go_wp2_with fail
  go_region_held3 (fun w'=>w'.cell? ⟨w.heap.size,1,none⟩=some (iV a)∧w'.cell? ⟨w.heap.size,2,none⟩=some (iV b)) (go_keep) ((go_at_call 30;refine(jd _ _ _ (by assumption) (by omega) (by omega)).mono ?_;rintro e w' ⟨rfl,rfl⟩))
  all_goals
   go_wp2;exact Ao (v:= .agg #[iV 3,iV 0,iV 0,iV 0,iV (aA a 3),iV (aA b 6)]) (by simp[results,Tryz.results39,go_sem]) rfl ⟨rfl,(gm _ _ _).drew⟩
 ·have hv:[3,0,0,0,aA a 3,aA b 6]=ev:=by simpa using aa HV
  subst hv;clear HV
  go_wp2_with fail
  go_region_held3 (fun w'=>w'.cell? ⟨w.heap.size,1,none⟩=some (iV a)∧w'.cell? ⟨w.heap.size,2,none⟩=some (iV b)) (go_keep) ((go_at_call 30;refine(jd _ _ _ (by assumption) (by omega) (by omega)).mono ?_;rintro e w' ⟨rfl,rfl⟩))
  all_goals
   go_wp2;exact Ao (v:= .agg #[iV 3,iV 0,iV 0,iV 0,iV (aA a 3),iV (aA b 6)]) (by simp[results,Tryz.results39,go_sem]) rfl ⟨rfl,(gm _ _ _).drew⟩
 ·have hv:[4,0,0,0,0,0]=ev:=by simpa using aa HV
  subst hv;clear HV;go_wp2;exact Ao (v:= .agg #[iV 4,iV 0,iV 0,iV 0,iV 0,iV 0]) (by simp[results,Tryz.results39,go_sem]) rfl ⟨rfl,gm _ _ _⟩
def eT(k a b c:Int):Ev:=
 if aA k 8<3 then⟨1,aA a 2,aA b 24,aA c 1000,0,0⟩
 else if aA k 8<5 then⟨2,0,0,0,0,0⟩
 else if aA k 8<7 then⟨3,0,0,0,aA a 3,aA b 6⟩
 else⟨4,0,0,0,0,0⟩
theorem OB(k a b c:Int):Value.agg ((zy k a b c).map (Value.int .i64)).toArray=pk (eT k a b c):=by
 unfold zy eT
 repeat' split
 all_goals rfl
theorem Sa(k a b c:Int)(w:tA)(wk:(Lit.int .i64 k).wf=true)(wa:(Lit.int .i64 a).wf=true)(wb:(Lit.int .i64 b).wf=true)(wc:(Lit.int .i64 c).wf=true):
  cA 39 #[.agg #[iV k,iV a,iV b,iV c]] w (rB (pk (eT k a b c)) w):=by
 rw[←OB];exact OA k a b c w wk wa wb wc
namespace Rv
section
variable{n:Nat}{ops:tP}{f:Nat→AV}{fn:Func}{Rr:Ending→World→Prop}{M:tF}{Φ R:tJ}{H:List En}{ks:List Fr}{t:Ord}{i d:Nat}
def lkA(n:Nat)(ops:tP)(f:Nat→AV)(i:Nat):Option (Nat×Nat×AV×AV):=match ops[i]? with
 |some o=>match o.dst,sS n ops f o,o.op with
  |some d,some true,.lookup s x y false=>some (d,s,ea f x,ea f y)
  |_,_,_=>none
 |none=>none
theorem lk{va vi vs:_}{cb:Bool}{s:Nat}{x y:AV}(a:AV)(e:lkA n ops f i=some (d,s,x,y))(h:∀w,Mem w (hs H) M Φ R→(Instr.lookup s x.val y.val false).run Tryz.prog w= .ok a.val w)(hn:G Tryz.prog fn Rr n M Φ R (.g ⟨cb,vi,va,vs⟩ ops t::ks) (ua f d a) H)(hv:va=[]:=by rfl):G Tryz.prog fn Rr n M Φ R (.g ⟨cb,vi,va,vs⟩ ops (.rd i t)::ks) f H:=by
 intro w hS hK;obtain⟨hK1,iC⟩:=bt.1 hK;have hn:=hn w hS (bt.2 ⟨hK1,iC⟩);show WF Tryz.prog ops (kq Tryz.prog fn Rr ks) va (o7 _ ops) (vQ _ ops) (.rd i t) n (cn f) w;subst hv;unfold lkA at e;split at e
 ·rename_i o ho;split at e
  ·rename_i d' s' p q hd hw hp;simp only[Option.some.injEq,Prod.mk.injEq]at e;obtain⟨rfl,rfl,rfl,rfl⟩:=e;refine Q7 ho hd (fF hw) (dU hK1).1 (fun w' hb=> ?_) (by rw[←jK];exact hn);have:=h w' (hS.next (Em hb));rw[bC,bC]at this;simp only[execOp,hp,Sem.run_bind,this,Result.andThen_ok,Sem.run_pure]
  ·cases e
 ·cases e
end
end Rv
section
open Rv
abbrev refused(er:Int):Value:= .tuple #[iH 0 0 0 (.slice none 0 0) (.slice none 0 0) eS,ib 0 0 0 0,.bool false,iV er]
theorem V7(s:St)(ra la:tB)(rc lc:Nat)(ws:tD)(v:Ev)(w:tA)(hR:RowK .i64 w ra (2*s.rn) s.R)(hL:RowK .i64 w la (4*s.ln) s.L)(hW:gP ws s.wt s.wz)(h:s.Ok)(f:Int)(hf:¬f=0)(HF:Hid (aT v.k v.p v.i v.b v.he v.hn=f)):
  cA 130 #[iH s.ep s.nx s.gv (.slice ra s.rn rc) (.slice la s.ln lc) ws,pk v] w (rB (refused f) w):=by
 refine en (H:=[]) _ [vg (qS s.ep s.nx s.gv (.slice ra s.rn rc) (.slice la s.ln lc) ws),vg [.o (iV v.k),.o (iV v.p),.o (iV v.i),.o (iV v.b),.o (iV v.he),.o (iV v.hn)]] Tryz.func130 rfl rfl (m0 w) (r [] rfl fun _=> ?_);refine Rv.cb rfl (vi 0) (fun w hS=>ze s.ep s.nx s.gv ra la s.rn rc s.ln lc s.R s.L ws s.wt s.wz w (hR.below hS.now.2) (hL.below hS.now.2) hW h) (r [0] rfl fun _=>Rv.cb rfl (vi f) (fun w _=>(aa HF)▸ot v.k v.p v.i v.b v.he v.hn w) (r [1] rfl fun _=>fin fun w hS=>⟨rfl,hS.now.2⟩))
structure v_(w w':tA)(s:St)(x:tK):Prop where
 ex:∃a1 c1 a2 c2 ws,x=iH s.ep s.nx s.gv (.slice a1 s.rn c1) (.slice a2 s.ln c2) ws∧RowK .i64 w' a1 (2*s.rn) s.R∧RowK .i64 w' a2 (4*s.ln) s.L∧s.rn≤c1∧s.ln≤c2∧(a1=none→c1=0)∧(a2=none→c2=0)∧gP ws s.wt s.wz∧(∀x,a1=some x→w.heap.size≤x.block)∧(∀x,a2=some x→w.heap.size≤x.block)
theorem gP.one{ws:tD}{wt:tH}{wz:Nat→Nat→Bool}(h:gP ws wt wz):aW ws 36:=fun i hi=>by
 obtain⟨h0,h1⟩:=h (i/9) (by omega);by_cases e:i % 9=0
 ·rw[(AB ws (by omega:i=9*(i/9))).trans h0];rfl
 ·rw[(AB ws (by omega:i=9*(i/9)+1+(i % 9-1))).trans (h1 (i % 9-1) (by omega))];rfl
theorem rZ.Fu{w w':tA}{U:tF}{base B:Nat}{ep nx gv:Int}{a1 a2:tB}{rn c1 ln c2:Nat}{R L:tG}{ws:tD}(D:rZ w base B ep nx gv a1 rn c1 a2 ln c2 R L ws)(c:dB U w w')(hU:∀b,U b→b<base):rZ w' base B ep nx gv a1 rn c1 a2 ln c2 R L ws:=
 ⟨(c.block B D.d.lt fun h=>absurd D.up (BL.2 (hU B h))).trans D.d,D.up,aJ D.o1 (fun g hg hl=>c.block g hl fun h=>absurd (D.o1.lt g hg).1 (BL.2 (hU g h))),aJ D.o2 (fun g hg hl=>c.block g hl fun h=>absurd (D.o2.lt g hg).1 (BL.2 (hU g h))),D.wR,D.wL⟩
theorem Mem.far{w w' w0:tA}{H:List bX}{Γ φ:tJ}{base:Nat}(h:Mem w H (fun _=>False) Γ (fun y=>bZ w0 y))(b:Below base w w')(hH:∀e∈H,e.a<base)(hb:w0.heap.size≤base)(hφ:cm (fun b=>b∈H.map bX.a) w' φ):Mem w' H (fun _=>False) φ (fun y=>bZ w0 y):=by
 have m:=Mem.begin (w:=w') (H:=H) (M:=fun _=>False) (G:=φ) (fun e he=>(h.g_ e he).same (b.block _ (hH e he))) (List.pairwise_map.1 h.nodup) (fun _ _ k=>k) (fun _ k=>k.elim) fun y c=>hφ y (c.mono fun b k=>k.elim id False.elim);have n_:bZ w0 w':=h.now.2.trans (b.mono hb);refine Mem.sr m fun y c=>n_.trans (c.below n_.size fun z hz hu=> ?_);obtain⟨e,he,rfl⟩:=Ay.1 hu;obtain⟨k,hk⟩:=Cp he;exact absurd hz (Bb.2 (h.jN k hk))
theorem V8(s:St)(ra la:tB)(rc lc:Nat)(ws:tD)(v:Ev)(w:tA)(hR:RowK .i64 w ra (2*s.rn) s.R)(hL:RowK .i64 w la (4*s.ln) s.L)(nR:ra=none→rc=0)(nL:la=none→lc=0)(hW:gP ws s.wt s.wz)(h:s.Ok)(hv:v.Ok):
  cA 130 #[iH s.ep s.nx s.gv (.slice ra s.rn rc) (.slice la s.ln lc) ws,pk v] w fun e w'=>∃(s':St) (an:An) (ch:Bool) (x:tK),e= .returned (.tuple #[x,Ib an,.bool ch,iV 0])∧Step s v s' an ch∧v_ w w' s' x∧bZ w w':=by
 have HC:∀w,cA 55 #[pk v] w (rB (iV 0) w):=fun w=>by
  have:=ot v.k v.p v.i v.b v.he v.hn w;rwa [show aT v.k v.p v.i v.b v.he v.hn=0 from hv]at this
 have hk4:v.k=1∨v.k=2∨v.k=3∨v.k=4:=by
  rcases Ev.cases hv with h|h|h|h
  ·exact .inl h.1
  ·exact .inr (.inl h.1)
  ·exact .inr (.inr (.inl h.1))
  ·exact .inr (.inr (.inr h.1))
 have he:iS Tryz.prog (methodOf v.k)=true:=by
  rcases hk4 with e|e|e|e<;>rw[e]<;>kernel_rfl
 obtain⟨g,hg⟩:∃g,methodOf v.k=g:=⟨_,rfl⟩;rw[hg]at he;have ow:=hW.one;refine en (H:=[]) _ [vg (qS s.ep s.nx s.gv (.slice ra s.rn rc) (.slice la s.ln lc) ws),vg [.o (iV v.k),.o (iV v.p),.o (iV v.i),.o (iV v.b),.o (iV v.he),.o (iV v.hn)]] Tryz.func130 rfl rfl (m0 w) (r [] rfl fun α=> ?_);refine Rv.cb rfl (vi 0) (fun w hS=>ze s.ep s.nx s.gv ra la s.rn rc s.ln lc s.R s.L ws s.wt s.wz w (hR.below hS.now.2) (hL.below hS.now.2) hW h) (r [0] rfl fun _=>Rv.cb rfl (vi 0) (fun w _=>HC w) (r [0] rfl fun _=>mG rfl (by kernel_rfl) fun w5 hS5=> ?_));refine(Kx s.ep s.nx s.gv ra la s.rn rc s.ln lc s.R s.L ws w5 (hR.below hS5.now.2) (hL.below hS5.now.2) nR nL h.count.sz).mono ?_;rintro _ w6 ⟨B,a1,c1,a2,c2,rfl,uB,d6,o1,o2,b6⟩;have D6:rZ w6 w5.heap.size B s.ep s.nx s.gv a1 s.rn c1 a2 s.ln c2 s.R s.L ws:=⟨d6,uB,o1,o2,hR.wf,hL.wf⟩;refine⟨vv (.pointer (some ⟨B,0,none⟩)),_,_,_,_,rfl,.inr b6,(hS5.next b6).add fun w2 c2=>D6.Fu c2 fun b hb=>hb.elim (fun hb=>hS5.lt hb) False.elim,r [4] rfl fun _=> ?_⟩;refine cx rfl (fun M:Nat=>vv (.map (some M))) (fun _=>True) (fun M w=>w.heap[M]? =some uJ) (fun w hS=>(Hz w).mono fun _ _ ⟨e,m,b⟩=>⟨_,e,b,trivial,fun hU w2 c2=>(c2.block _ (cI m) fun hu=>absurd (hU _ hu) (Nat.lt_irrefl _)).trans m⟩) fun M _=> ?_;refine r [] rfl fun _=>lk (vv (.func (.func g) #[] #[])) rfl (fun w hS=>hg▸Kv hS.now.1.2 v.k hk4) (r [] rfl fun _=>mG rfl he fun w8 hS=> ?_);refine(hg▸KJ w5.heap.size B s a1 c1 a2 c2 ws v w8 hS.now.1.1.2 hW (AN uB (Nat.le_of_lt hS.now.1.1.2.d.lt)) h hv).mono ?_;rintro _ w9 ⟨x,rfl,s',an,ch,rfl,gV,⟨a1',c1',a2',c2',ws',d9,r1,r2,l1,l2,n1,n2,ug,x1,x2⟩,b9⟩;have ow':=ug.one;have off:∀b,(b∈(hs _).map bX.a)→b<w5.heap.size:=fun b hb=>hS5.lt hb;have fb:bh w9 B 255 41 (cy (qS s'.ep s'.nx s'.gv (.slice a1' s'.rn c1') (.slice a2' s'.ln c2') ws')):=d9;refine⟨vt [.g [.o (iV an.c),.o (iV an.he),.o (iV an.no),.o (iV an.bd)],.o (.bool ch)],_,_,_,_,rfl,.inl rfl,hS.far (φ:=fun y=>bh y B 255 41 (cy (qS s'.ep s'.nx s'.gv (.slice a1' s'.rn c1') (.slice a2' s'.ln c2') ws'))∧RowK .i64 y a1' (2*s'.rn) s'.R∧RowK .i64 y a2' (4*s'.ln) s'.L) b9 (fun e he=>off _ (Ay.2 ⟨e,he,rfl⟩)) hS5.now.2.size (fun y c=>⟨fb.same (c.block B fb.lt fun hu=>absurd uB (BL.2 (off B hu))),nh r1 c fun x hx _ hu=>absurd (x1 x hx) (BL.2 (off _ hu)),nh r2 c fun x hx _ hu=>absurd (x2 x hx) (BL.2 (off _ hu))⟩),r [5,2,6] rfl fun _=> ?_⟩;refine lfg rfl 41 (cy (qS s'.ep s'.nx s'.gv (.slice a1' s'.rn c1') (.slice a2' s'.ln c2') ws')) (fun w h j hj=>by rw[Aj];exact h.1.1.at j hj) (Rv.sv 44 (vg (qS s'.ep s'.nx s'.gv (.slice a1' s'.rn c1') (.slice a2' s'.ln c2') ws')) rfl (r [] rfl fun _=>fin fun w12 hS=>⟨s',an,ch,_,rfl,gV,⟨a1',c1',a2',c2',ws',rfl,hS.now.1.2.1,hS.now.1.2.2,l1,l2,n1,n2,ug,fun x hx=>AN hS5.now.2.size (x1 x hx),fun x hx=>AN hS5.now.2.size (x2 x hx)⟩,hS.now.2⟩)) (fun a ha=>by rw[Ab.1 ha];exact Az _ (Az _ (Aq ..)))
end
theorem Tryz.mq:(Tryz.prog.info? 56).map (fun i=>(i.zero,i.size,i.bytes))=some (some (.agg #[iV 0,iV 0,iV 0,iV 0,iV 0,iV 0]),6,48):=by kernel_rfl
def pq(A B:tG)(k:Nat):Prop:=∀j,j<6→A.getD (6*k+j) 0=B.getD (6*k+j) 0
structure mK(A B:tG)(la lb n:Nat):Prop where
 lea:n≤la
 leb:n≤lb
 same:∀k,k<n→pq A B k
 stop:n=la∨n=lb∨¬pq A B n
theorem ZM{p0 p1 p2 p3 p4 p5 q0 q1 q2 q3 q4 q5:Int}(hs:¬(p0=q0∧p1=q1∧p2=q2∧p3=q3∧p4=q4∧p5=q5)):
  (¬p0=q0)∨(p0=q0∧¬p1=q1)∨(p0=q0∧p1=q1∧¬p2=q2)∨(p0=q0∧p1=q1∧p2=q2∧¬p3=q3)∨(p0=q0∧p1=q1∧p2=q2∧p3=q3∧¬p4=q4)∨(p0=q0∧p1=q1∧p2=q2∧p3=q3∧p4=q4∧¬p5=q5):=by
 by_cases e0:p0=q0
 ·by_cases e1:p1=q1
  ·by_cases e2:p2=q2
   ·by_cases e3:p3=q3
    ·by_cases e4:p4=q4
     ·exact .inr (.inr (.inr (.inr (.inr ⟨e0,e1,e2,e3,e4,fun e5=>hs ⟨e0,e1,e2,e3,e4,e5⟩⟩))))
     ·exact .inr (.inr (.inr (.inr (.inl ⟨e0,e1,e2,e3,e4⟩))))
    ·exact .inr (.inr (.inr (.inl ⟨e0,e1,e2,e3⟩)))
   ·exact .inr (.inr (.inl ⟨e0,e1,e2⟩))
  ·exact .inr (.inl ⟨e0,e1⟩)
 ·exact .inl e0
theorem RowK.six{w:tA}{b off n:Nat}{D:tG}(h:RowK .i64 w (some ⟨b,off,none⟩) (6*n) D)(k:Nat)(hk:k<n):
  w.cell? ⟨b,off+k*6,none⟩=some (iV (D.getD (6*k) 0))∧w.cell? ⟨b,off+k*6+1,none⟩=some (iV (D.getD (6*k+1) 0))∧w.cell? ⟨b,off+k*6+2,none⟩=some (iV (D.getD (6*k+2) 0))∧
  w.cell? ⟨b,off+k*6+3,none⟩=some (iV (D.getD (6*k+3) 0))∧w.cell? ⟨b,off+k*6+4,none⟩=some (iV (D.getD (6*k+4) 0))∧w.cell? ⟨b,off+k*6+5,none⟩=some (iV (D.getD (6*k+5) 0)):=by
 rw[Bn k 6];exact⟨h.at (6*k) (by omega),h.at (6*k+1) (by omega),h.at (6*k+2) (by omega),h.at (6*k+3) (by omega),h.at (6*k+4) (by omega),h.at (6*k+5) (by omega)⟩
theorem KM(a b:tB)(la ca lb cb:Nat)(A B:tG)(w:tA)(hA:RowK .i64 w a (6*la) A)(hB:RowK .i64 w b (6*lb) B)(h1:la≤9223372036854775806)(h2:lb≤9223372036854775806):
  cA 24 #[.slice a la ca,.slice b lb cb] w fun e w'=>∃n:Nat,e= .returned (iV n)∧mK A B la lb n∧bZ w w':=by
 go_enter Tryz.func24,Tryz.ntmps24;go_wp2
 go_loopw [5] (fun t wr=>∃k m:Nat,k≤la∧k≤lb∧t=iV k∧wr=w.drewN m∧Hid (∀j,j<k→pq A B j)) (fun t _=>la-(intOf t).toNat)
 case atStart=>exact⟨0,0,Al _,Al _,rfl,rfl,ai (fun j hj=>absurd hj (AF _))⟩
 case round=>
  obtain⟨k,m,DA,hkb,rfl,rfl,HS⟩:=hrel;by_cases h3:k<la
  case neg=>
   obtain rfl:k=la:=by omega
   clear hA hB
   go_wp2_with fail
   go_quiet (fail)
   go_wp2;go_ret;exact⟨k,rfl,⟨Ac _,hkb,aa HS,.inl rfl⟩,⟨rfl,rfl,rfl,Ac _,fun _ _=>rfl⟩⟩
  case pos=>
  by_cases h4:k<lb
  case neg=>
   obtain rfl:k=lb:=by omega
   clear hA hB
   go_wp2_with fail
   go_quiet (fail)
   go_wp2;go_ret;exact⟨k,rfl,⟨DA,Ac _,aa HS,.inr (.inl rfl)⟩,⟨rfl,rfl,rfl,Ac _,fun _ _=>rfl⟩⟩
  case pos=>
  obtain⟨b1,o1,rfl⟩:=hA.form (by omega);obtain⟨b2,o2,rfl⟩:=hB.form (by omega);obtain⟨x0,x1,x2,x3,x4,x5⟩:=hA.six k h3;obtain⟨y0,y1,y2,y3,y4,y5⟩:=hB.six k h4
  have HE:Hid (pq A B k↔(A.getD (6*k) 0=B.getD (6*k) 0∧A.getD (6*k+1) 0=B.getD (6*k+1) 0∧A.getD (6*k+2) 0=B.getD (6*k+2) 0∧A.getD (6*k+3) 0=B.getD (6*k+3) 0∧A.getD (6*k+4) 0=B.getD (6*k+4) 0∧A.getD (6*k+5) 0=B.getD (6*k+5) 0)):=ai (by
   constructor
   ·intro h;exact⟨h 0 (by omega),h 1 (by omega),h 2 (by omega),h 3 (by omega),h 4 (by omega),h 5 (by omega)⟩
   ·rintro⟨e0,e1,e2,e3,e4,e5⟩ j hj
    match j,hj with
    |0,_=>exact e0
    |1,_=>exact e1
    |2,_=>exact e2
    |3,_=>exact e3
    |4,_=>exact e4
    |5,_=>exact e5)
  clear hA hB;generalize A.getD (6*k) 0=p0 at x0 HE;generalize A.getD (6*k+1) 0=p1 at x1 HE;generalize A.getD (6*k+2) 0=p2 at x2 HE;generalize A.getD (6*k+3) 0=p3 at x3 HE;generalize A.getD (6*k+4) 0=p4 at x4 HE;generalize A.getD (6*k+5) 0=p5 at x5 HE;generalize B.getD (6*k) 0=q0 at y0 HE;generalize B.getD (6*k+1) 0=q1 at y1 HE;generalize B.getD (6*k+2) 0=q2 at y2 HE;generalize B.getD (6*k+3) 0=q3 at y3 HE;generalize B.getD (6*k+4) 0=q4 at y4 HE;generalize B.getD (6*k+5) 0=q5 at y5 HE;by_cases hs:p0=q0∧p1=q1∧p2=q2∧p3=q3∧p4=q4∧p5=q5
  ·have HS1:Hid (∀j,j<k+1→pq A B j):=ai fun j hj=>by
    rcases AG j k with h|h
    ·exact aa HS j h
    ·obtain rfl:j=k:=by omega
     exact(aa HE).2 hs
   clear HE HS;obtain⟨rfl,rfl,rfl,rfl,rfl,rfl⟩:=hs
   go_wp2_with fail
   go_quiet (fail)
   clear x0 x1 x2 x3 x4 x5 y0 y1 y2 y3 y4 y5;go_wp2
   go_roundw
   case rel=>exact⟨k+1,m+nq,by omega,by omega,by go_num,by first|exact(World.drewN_add _ _ _).symm|exact World.drewN_add _ _ _|exact World.drewN_drewN _ _ _|rfl|simp,HS1⟩
   case measure=>simp[intOf];omega
  ·have HN:Hid (¬pq A B k):=ai fun h=>hs ((aa HE).1 h);have hd:=ZM hs;clear HE hs;rcases hd with hd|⟨rfl,hd⟩|⟨rfl,rfl,hd⟩|⟨rfl,rfl,rfl,hd⟩|⟨rfl,rfl,rfl,rfl,hd⟩|⟨rfl,rfl,rfl,rfl,rfl,hd⟩
   all_goals
    go_wp2_with fail
    go_quiet (fail)
    go_wp2;go_ret;exact⟨k,rfl,⟨DA,hkb,aa HS,.inr (.inr (aa HN))⟩,⟨rfl,rfl,rfl,Ac _,fun _ _=>rfl⟩⟩
theorem acd(w:tA)(x0 x1 x2 x3 x4 x5:Int)(t:tZ):∀j u,([x0,x1,x2,x3,x4,x5].map (Value.int .i64))[j]? =some u→(w.alloc (.cells #[iV x0,iV x1,iV x2,iV x3,iV x4,iV x5] t)).drew.cell? ((⟨w.heap.size,0,none⟩:Addr).add j)=some u:=by
 intro j u hj;rw[BM]
 match j,hj with
 |0,hj=>simp at hj;subst hj;simp
 |1,hj=>simp at hj;subst hj;simp
 |2,hj=>simp at hj;subst hj;simp
 |3,hj=>simp at hj;subst hj;simp
 |4,hj=>simp at hj;subst hj;simp
 |5,hj=>simp at hj;subst hj;simp
 |n+6,hj=>simp at hj
def St.zero:St:=⟨0,0,0,0,[],0,[],fun _=>0,fun _ _=>false⟩
theorem St.V9:St.zero.Wf:=by
 refine⟨⟨⟨by decide,by decide,by decide,by decide,by decide,by decide,by decide⟩,fun p _=>fO.none,⟨fun i hi=>absurd hi (AF _),fun i hi=>absurd hi (AF _),rfl⟩,fun i hi=>absurd hi (AF _)⟩,rfl,rfl⟩
def bf(v:Ev):List Int:=[v.k,v.p,v.i,v.b,v.he,v.hn]
def ft(a:An):List Int:=[a.c,a.he,a.no,a.bd]
def au(es:List Ev):List Int:=es.flatMap bf
def lJ(bu:List An):List Int:=bu.flatMap ft
theorem Ie(es:List Ev)(v:Ev):au (es++[v])=au es++bf v:=by simp[au]
theorem xt(bu:List An)(a:An):lJ (bu++[a])=lJ bu++ft a:=by simp[lJ]
structure Qb(w wr:tA)(B:Nat)(s:St)(a1:tB)(c1:Nat)(a2:tB)(c2:Nat)(ws:tD):Prop where
 q:aY wr B s.ep s.nx s.gv (.slice a1 s.rn c1) (.slice a2 s.ln c2) ws
 r1:RowK .i64 wr a1 (2*s.rn) s.R
 r2:RowK .i64 wr a2 (4*s.ln) s.L
 l1:s.rn≤c1
 l2:s.ln≤c2
 n1:a1=none→c1=0
 n2:a2=none→c2=0
 Hw:gP ws s.wt s.wz
 f1:∀x,a1=some x→w.heap.size<x.block
 f2:∀x,a2=some x→w.heap.size<x.block
structure Pl(w wr:tA)(Z B:Nat)(s:St)(a1:tB)(c1:Nat)(a2:tB)(c2:Nat)(ws:tD)(ve va:tK)(es:List Ev)(bu:List An):Prop where
 z:aY wr Z 0 0 0 (.slice none 0 0) (.slice none 0 0) eS
 q:Qb w wr B s a1 c1 a2 c2 ws
 oe:wr.ownsRow (B+1) 56 6 ve es.length ((au es).map (Value.int .i64))
 oa:wr.ownsRow (B+1) 59 4 va bu.length ((lJ bu).map (Value.int .i64))
 dp:bZ w wr
 upZ:w.heap.size≤Z
 upB:Z<B
structure ZN(B n:Nat)(wa wb:tA):Prop where
 os:wb.os=wa.os
 tape:wb.tape=wa.tape
 output:wb.output=wa.output
 size:wa.heap.size≤wb.heap.size
 block:∀X,X<n→X≠B→wb.heap[X]? =wa.heap[X]?
def An.zero:An:=⟨0,0,0,0⟩
inductive Ig(s:St)(v:Ev):St→An→Bool→Int→Prop
 |step {s':St} {an:An} {ch:Bool} (hv:v.Ok) (st:Step s v s' an ch):Ig s v s' an ch 0
 |form (er:Int) (hv:aT v.k v.p v.i v.b v.he v.hn=er) (h:¬er=0):Ig s v St.zero An.zero false er
theorem Ig.err{s s':St}{v:Ev}{an:An}{ch:Bool}{er:Int}(h:Ig s v s' an ch er):er=0∨(¬er=0∧ch=false):=by
 cases h with
 |step=>exact .inl rfl
 |form _ _ h=>exact .inr ⟨h,rfl⟩
theorem Sb(s:St)(ra la:tB)(rc lc:Nat)(ws:tD)(v:Ev)(w:tA)(hR:RowK .i64 w ra (2*s.rn) s.R)(hL:RowK .i64 w la (4*s.ln) s.L)(nR:ra=none→rc=0)(nL:la=none→lc=0)(hW:gP ws s.wt s.wz)(h:s.Ok):
  cA 130 #[iH s.ep s.nx s.gv (.slice ra s.rn rc) (.slice la s.ln lc) ws,pk v] w fun e w'=>∃(s':St) (an:An) (ch:Bool) (er:Int) (x:tK),e= .returned (.tuple #[x,Ib an,.bool ch,iV er])∧Ig s v s' an ch er∧v_ w w' s' x∧bZ w w':=by
 by_cases hv:v.Ok
 ·refine(V8 s ra la rc lc ws v w hR hL nR nL hW h hv).mono ?_;rintro e w' ⟨s',an,ch,x,rfl,st,q,b⟩;exact⟨s',an,ch,0,x,rfl,.step hv st,q,b⟩
 ·refine(V7 s ra la rc lc ws v w hR hL hW h _ hv (ai rfl)).mono ?_;rintro e w' ⟨rfl,b⟩;exact⟨St.zero,An.zero,false,_,_,rfl,.form _ rfl hv,⟨⟨none,0,none,0,eS,rfl,RowK.nil _ _ _,RowK.nil _ _ _,Ac _,Ac _,fun _=>rfl,fun _=>rfl,jP,fun x hx=>(by cases hx),fun x hx=>(by cases hx)⟩⟩,b⟩
def qF(ep nx gv:Int)(r l:tK)(ws:tD):Nat→Value
 |0=>iV ep
 |1=>iV nx
 |2=>iV gv
 |3=>r
 |4=>l
 |j+5=>ws j
theorem OC(ep nx gv:Int)(r l:tK)(ws:tD):ec ep nx gv r l ws=(cE (qF ep nx gv r l ws) 0 41).toArray:=by
 apply Ca;intro i;have e:(cE (qF ep nx gv r l ws) 0 41).toArray[i]? =(cE (qF ep nx gv r l ws) 0 41)[i]? :=by simp
 rw[e];by_cases hi:i<41
 ·rw[bW _ _ _ _ hi,Aj];obtain⟨h0,h1,h2,h3,h4⟩:=pf ep nx gv r l ws
  match i,hi with
  |0,_=>exact h0
  |1,_=>exact h1
  |2,_=>exact h2
  |3,_=>exact h3
  |4,_=>exact h4
  |j+5,hj=>rw[Nat.add_comm j 5,Oa _ _ _ _ _ _ j (by omega),Nat.add_comm 5 j];rfl
 ·rw[gL _ _ _ _ (by omega),Bf (by rw[dg];omega)]
theorem rE(ep nx gv:Int)(r l:tK)(ws:tD):iH ep nx gv r l ws=vF (qF ep nx gv r l ws) 41:=by rw[iH,OC]
structure we(w:tA)(s:St)(q:tD):Prop where
 ex:∃ra rc la lc ws,q=qF s.ep s.nx s.gv (.slice ra s.rn rc) (.slice la s.ln lc) ws∧RowK .i64 w ra (2*s.rn) s.R∧RowK .i64 w la (4*s.ln) s.L∧s.rn≤rc∧s.ln≤lc∧(ra=none→rc=0)∧(la=none→lc=0)∧gP ws s.wt s.wz
theorem we.next{w w':tA}{s:St}{q:tD}(h:we w s q)(b:bZ w w'):we w' s q:=by
 obtain⟨ra,rc,la,lc,ws,h1,h2,h3,h4⟩:=h.ex;exact⟨ra,rc,la,lc,ws,h1,h2.below b,h3.below b,h4⟩
theorem we.one{w:tA}{s:St}{q:tD}(h:we w s q):aW q 41:=by
 obtain⟨ra,rc,la,lc,ws,rfl,_,_,_,_,_,_,hW⟩:=h.ex;intro i hi
 match i,hi with
 |0,_=>rfl
 |1,_=>rfl
 |2,_=>rfl
 |3,_=>rfl
 |4,_=>rfl
 |j+5,hj=>exact YB hW _ (Ay.2 ⟨j,Cg.2 (by omega),rfl⟩)
def zQ:Nat→Value:=qF 0 0 0 (.slice none 0 0) (.slice none 0 0) eS
theorem zz:aW zQ 41:=fun i hi=>by
 match i,hi with
 |0,_=>rfl
 |1,_=>rfl
 |2,_=>rfl
 |3,_=>rfl
 |4,_=>rfl
 |j+5,hj=>
  show(eS j).oneCell'=true;unfold eS;split<;>rfl
section
open Rv
abbrev ZO(v:Ev):List Sg:=[.o (iV v.k),.o (iV v.p),.o (iV v.i),.o (iV v.b),.o (iV v.he),.o (iV v.hn)]
abbrev QS(a:An):List Sg:=[.o (iV a.c),.o (iV a.he),.o (iV a.no),.o (iV a.bd)]
abbrev bS(r e f t o:Int)(a:tB)(n c:Nat):List Sg:=[.o (iV r),.o (iV e),.o (iV f),.o (iV t),.o (iV o),.o (.slice a n c)]
theorem Sc{s:St}{q:tD}{w:tA}(hq:we w s q)(ok:s.Ok)(v:Ev):cA 130 #[vF q 41,pk v] w fun e w'=>∃(s':St) (an:An) (ch:Bool) (er:Int) (q':tD),e= .returned (.tuple #[vF q' 41,Ib an,.bool ch,iV er])∧Ig s v s' an ch er∧(∀U:Nat→Prop,(∀b,U b→b<w.heap.size)→cm U w' fun w=>we w s' q')∧bZ w w':=by
 obtain⟨ra,rc,la,lc,ws,rfl,h1,h2,h3,h4,h5,h6,h7⟩:=hq.ex;rw[←rE];refine(Sb s ra la rc lc ws v w h1 h2 h5 h6 h7 ok).mono ?_;rintro _ w' ⟨s',an,ch,er,x,rfl,hd,ho,hb⟩;obtain⟨a1,c1,a2,c2,ws',rfl,g1,g2,g3,g4,g5,g6,g7,g8,g9⟩:=ho.ex;refine⟨s',an,ch,er,_,by rw[rE],hd,fun U hU w2 c2'=> ?_,hb⟩;exact⟨a1,c1,a2,c2,ws',rfl,bM g1 g8 hU w2 c2',bM g2 g9 hU w2 c2',g3,g4,g5,g6,g7⟩
theorem YJ{s s1:St}{v:Ev}{an:An}{ch:Bool}{er:Int}(hv:v.Ok)(h:Ig s v s1 an ch er):er=0∧Step s v s1 an ch:=by
 cases h with
 |step _ st=>exact⟨rfl,st⟩
 |form _ hf hn=>exact absurd (hf.symm.trans hv) hn
theorem MJ{w:tA}{R T:Nat}{g:tD}(v:Ev)(hv:∀u∈bf v,(Lit.int .i64 u).wf=true)(h:bh w R T 6 g)(hg:∀i,i<6→g i=iV ((bf v).getD i 0)):RowK .i64 w (some ⟨R,0,none⟩) (6*1) (au [v]):=by
 refine⟨rfl,by simpa[au]using hv,fun i hi=>⟨R,0,rfl,h.lt, ?_⟩⟩;rw[Aj,h.at i (by omega),hg i (by omega)];simp[au]
theorem gy{g:Nat}{xs:tR}{w:tA}{b:Bool}(b2:Bool)(h:cA g xs w fun e w'=>e= .returned (.bool b)∧w'=w)(e:b=b2):cA g xs w fun x w'=>x= .returned (vv (.bool b2)).val∧bZ w w':=h.mono fun _ _ ⟨h1,h2⟩=>by subst h2 e;exact⟨h1,Bm _ _⟩
theorem nO{g:Nat}{xs:tR}{w:tA}{b:Bool}(b2:Bool)(h:cA g xs w (rB (.bool b) w))(e:b=b2):cA g xs w fun x w'=>x= .returned (vv (.bool b2)).val∧bZ w w':=e▸h
end
end Go.Proofs.YtpgkjpomaffbmaaGreatDoor
namespace Go.Proofs
open Go.Shelf
def Tryz.laysGrow_ren:Go.Shelf.Ren:=⟨fun|4=>197|n=>n,fun|22=>41|25=>56|3=>3|4=>4|9=>9|20=>20|0=>0|n=>n,fun|n=>n⟩
theorem Tryz.laysGrow:Go.Proofs.Lays8.n4 Tryz.prog Tryz.laysGrow_ren:={
 mixed:=by kernel_rfl
 f4:=⟨Tryz.f197.name,by decide,Tryz.func197.trans (congrArg some (by kernel_rfl))⟩
 t0:=Tryz.underlying0
 a0:=Tryz.isAgg0
 z0:=Tryz.sizeOf0
 v0:=Tryz.zeroValue0
 t3:=Tryz.underlying3
 a3:=Tryz.isAgg3
 z3:=Tryz.sizeOf3
 v3:=Tryz.zeroValue3
 t4:=Tryz.underlying4
 a4:=Tryz.isAgg4
 z4:=Tryz.sizeOf4
 v4:=Tryz.zeroValue4
 t9:=Tryz.underlying9
 a9:=Tryz.isAgg9
 z9:=Tryz.sizeOf9
 v9:=Tryz.zeroValue9
 t20:=Tryz.underlying20
 a20:=Tryz.isAgg20
 z20:=Tryz.sizeOf20
 v20:=Tryz.zeroValue20
 t22:=Tryz.underlying41
 a22:=Tryz.isAgg41
 z22:=Tryz.sizeOf41
 v22:=Tryz.zeroValue41}
end Go.Proofs
namespace Go.Proofs.YtpgkjpomaffbmaaGreatDoor
open Go.RowKit
structure uO(w w':tA)(n:Nat)(A:tG)(v:tK):Prop where
 ex:∃a c,v= .slice a n c∧RowK .i64 w' a (6*n) A∧n≤c∧(a=none→c=0)∧(∀x,a=some x→w.heap.size≤x.block)
theorem uO.of{w w':tA}{n:Nat}{A:tG}{v:tK}(own:w'.ownsRow w.heap.size 56 6 v n (A.map (Value.int .i64)))(xu:∀u∈A,(Lit.int .i64 u).wf=true):uO w w' n A v:=by
 obtain⟨a',c',rfl,r3,hc,_,n3,u3⟩:=RowK.eK own xu;exact⟨a',c',rfl,r3,hc,n3,u3⟩
theorem Ez(a:tB)(n c:Nat)(A:tG)(w:tA)(hA:RowK .i64 w a (6*n) A)(hn:a=none→c=0)(hs:n≤1000000):
  cA 160 #[.slice a n c] w fun e w'=>∃v,e= .returned v∧uO w w' n A v∧bZ w w':=by
 obtain⟨i6,hi6,hz60,hz61,hz62⟩:=iw Tryz.mq;have xu:=hA.wf;cases a with
 |none=>
  obtain rfl:n=0:=by
   rcases Cl n with h|h
   ·exact h
   ·obtain⟨_,_,h',_⟩:=hA.cell 0 (by omega);cases h'
  have J9:A=[]:=List.length_eq_zero_iff.1 (by simpa using hA.bP);subst J9;have q:∀(w:tA) (n c n' c':Nat),(binOp .eql 41 (.slice none n c) (.slice none n' c')).run Tryz.prog w= .ok (.bool true) w:=fun w n c n' c'=>Lib.run_eql_slice_nil w _ _ none n c n' c' Tryz.underlying41;go_enter Tryz.func160,Tryz.ntmps160;go_wp2;go_ret;exact⟨_,rfl,⟨none,0,rfl,RowK.nil _ _ _,Ac _,fun _=>rfl,fun x hx=>by cases hx⟩,Bm _ _⟩
 |some x=>
  have q:∀(w:tA) (n c n' c':Nat),(binOp .eql 41 (.slice (some x) n c) (.slice none n' c')).run Tryz.prog w= .ok (.bool false) w:=fun w n c n' c'=>Lib.run_eql_slice_nil w _ _ (some x) n c n' c' Tryz.underlying41
  have HF:Hid (∀v' w' w1,bZ w w1→w'.ownsRow w.heap.size 56 6 v' n (A.map (Value.int .i64))→w1.grownBy w' (some w.heap.size)→uO w w' n A v'∧bZ w w'):=ai (by
   intro v' w' w1 b1 own grow
   exact⟨uO.of own xu,b1.grown grow b1.size (fun q hq=>by cases hq;exact Ac _)⟩)
  have O1:Hid ((w.alloc (.cells #[] 56)).ownsRow w.heap.size 56 6 (.slice (some ⟨w.heap.size,0,none⟩) 0 0) 0 []):=ai (World.ownsRow_made w #[] 0 (Ac _) (Al _) (by simp));have B1:Hid (Below w.heap.size w (w.alloc (.cells #[] 56))):=ai (aC _ _);have RA:=ai (hA.below (aa B1));clear hA xu;go_enter Tryz.func160,Tryz.ntmps160
  go_wp2_with (at_builtin;refine du rfl _ _ 41 rfl w.heap.size 56 i6 _ 6 48 Tryz.underlying41 hi6 hz60 hz61 hz62 rfl (by decide) (.slice (some ⟨w.heap.size,0,none⟩) 0 0) 0 [] rfl (aa O1) (some x) n c A rfl (aa RA) hn (by unfold maxLen;omega) (by omega) (aa B1).size ?_;intro v' w4 KO grow4;rw[List.nil_append,Aj]at KO;have R:=ai (aa HF v' w4 _ (aa B1) KO grow4);clear KO grow4)
  go_ret;exact⟨_,rfl,aa R⟩
theorem V_(n:Nat)(w:tA)(hs:n≤2000000):
  cA 197 #[.slice none 0 0,iV n] w fun e w'=>∃v,e= .returned v∧w'.ownsRow w.heap.size 56 6 v 0 []∧bZ w w':=by
 obtain⟨i6,hi6,hz60,hz61,hz62⟩:=iw Tryz.mq;rcases Cl n with h0|h0
 ·subst h0;refine(Any8.slices_Grow_room Tryz.laysGrow none 0 0 0 w (Ac _) (by omega) (by omega) (Ac _)).mono ?_;rintro e w' ⟨rfl,rfl⟩;exact⟨_,rfl,BA _ _ _ _,Bm _ _⟩
 ·refine(Any8.slices_Grow_grow Tryz.laysGrow i6 _ hi6 hz60 (by rw[hz61];decide) none 0 0 n [] w (Ac _) (by omega) (by rw[hz62];omega) (by omega) (by simp) (fun _=>rfl) (fun a ha=>by cases ha)).mono ?_;rintro e w' ⟨rfl,rfl⟩;refine⟨_,rfl, ?_,(Bm _ _).drew.alloc (Ac _) _⟩;refine World.ownsRow_made (base:=w.heap.size) w.drew _ _ (Ac _) (grownCap_le_maxLen _ _ _ _ (by unfold maxLen;omega)) ?_;have h1:=grownCap_ge w (0+n) 0 56;have h2:(Value.agg #[iV 0,iV 0,iV 0,iV 0,iV 0,iV 0]).cells.size=6:=rfl;simp only[Array.size_append,size_zeroCells,h2];show 0+(0+n-0)*6+(grownCap w (0+n) 0 56-(0+n))*6=grownCap w (0+n) 0 56*6;omega
theorem OD(g:Nat)(a b:tB)(la ca lb cb:Nat)(A B:tG)(w:tA)(hg:w.heap[g]? =some (.cells #[.slice a la ca,.slice b lb cb] 41 (0,0)))(hA:RowK .i64 w a (6*la) A)(hB:RowK .i64 w b (6*lb) B)(nA:a=none→ca=0)(nB:b=none→cb=0)(hs:la+lb≤1000000):
  cA 167 #[.slice (some ⟨g,0,none⟩) 2 2] w fun e w'=>∃v,e= .returned v∧uO w w' (la+lb) (A++B) v∧bZ w w':=by
 obtain⟨i6,hi6,hz60,hz61,hz62⟩:=iw Tryz.mq;have xu:∀u∈A++B,(Lit.int .i64 u).wf=true:=fun u hu=>by
  rcases Ah.1 hu with h|h
  ·exact hA.wf u h
  ·exact hB.wf u h
 have HA:Hid (∀w',bZ w w'→RowK .i64 w' a (6*la) A):=ai fun w' b=>hA.below b;have HB:Hid (∀w',bZ w w'→RowK .i64 w' b (6*lb) B):=ai fun w' b=>hB.below b;have MA:g<w.heap.size:=by
  rcases AG g w.heap.size with h'|h'
  ·exact h'
  ·simp[Array.getElem?_eq_none h']at hg
 have HG:Hid (∀w',bZ w w'→w'.cell? ⟨g,0,none⟩=some (.slice a la ca)∧w'.cell? ⟨g,1,none⟩=some (.slice b lb cb)):=ai fun w' hb=>by
  have h1:w'.heap[g]? =_:=(hb.block g MA).trans hg;constructor<;>simp[World.cell?,h1]
 have HW:Hid (∀w' v,w'.ownsRow w.heap.size 56 6 v (la+lb) ((A++B).map (Value.int .i64))→uO w w' (la+lb) (A++B) v):=ai fun w' v o=>uO.of o xu;clear hA hB hg MA xu;obtain⟨c0,c1⟩:=aa HG w (Bm _ _);have wa:IntKind.i64.wrap (0+(la:Int))=(la:Int):=by rw[IntKind.wrap_i64];omega
 have wb:IntKind.i64.wrap ((la:Int)+(lb:Int))=((la+lb:Nat):Int):=by rw[IntKind.wrap_i64];omega
 go_enter Tryz.func167,Tryz.ntmps167
 go_wp2_with fail
 go_loopw [3,11] (fun s i wr=>w=wr∧((i=iV 0∧s=iV 0)∨(i=iV 1∧s=iV la)∨(i=iV 2∧s=iV (la+lb:Nat)))) (fun _ i _=>2-(intOf i).toNat)
 case atStart=>exact⟨rfl,.inl ⟨rfl,rfl⟩⟩
 case round=>
  obtain⟨rfl,hrel⟩:=hrel;rcases hrel with⟨rfl,rfl⟩|⟨rfl,rfl⟩|⟨rfl,rfl⟩
  ·have h0:decide ((la:Int)<0)=false:=Ak (by omega)
   go_wp2_with fail
   go_roundw
   case rel=>exact⟨trivial,.inr (.inl ⟨by go_num,by first|rfl|go_num⟩)⟩
   case measure=>simp[intOf]
  ·have h0:decide (((la+lb:Nat):Int)<0)=false:=Ak (by omega)
   go_wp2_with fail
   go_roundw
   case rel=>exact⟨trivial,.inr (.inr ⟨by go_num,by first|rfl|go_num⟩)⟩
   case measure=>simp[intOf]
  ·go_wp2_with (go_at_call 197;refine(V_ (la+lb) w (by omega)).mono ?_;rintro e W1 ⟨v1,rfl,o1,b1⟩)
   clear c0 c1
   go_loopw [6,27] (fun s i wx=>bZ w wx∧((i=iV 0∧wx.ownsRow w.heap.size 56 6 s 0 [])∨(i=iV 1∧wx.ownsRow w.heap.size 56 6 s la (A.map (Value.int .i64)))∨(i=iV 2∧wx.ownsRow w.heap.size 56 6 s (la+lb) ((A++B).map (Value.int .i64))))) (fun _ i _=>2-(intOf i).toNat)
   case atStart=>exact⟨b1,.inl ⟨rfl,o1⟩⟩
   case round=>
    clear o1 b1;obtain⟨b2,hrel⟩:=hrel;rcases hrel with⟨rfl,o2⟩|⟨rfl,o2⟩|⟨rfl,o2⟩
    ·obtain⟨c0,c1⟩:=aa HG _ b2
     go_wp2_with (at_builtin;refine du rfl _ _ 41 rfl w.heap.size 56 i6 _ 6 48 Tryz.underlying41 hi6 hz60 hz61 hz62 rfl (by decide) _ 0 [] rfl o2 a la ca A rfl (aa HA _ b2) nA (by unfold maxLen;omega) (by omega) (by have:=b2.size;omega) ?_;intro v3 W3 o3 g3;simp only[Nat.zero_add,List.nil_append]at o3;have b3:=b2.grown g3 b2.size (fun q hq=>(o2.lt q hq).1);clear o2 g3 b2 c0 c1)
     go_roundw
     case rel=>exact⟨b3,.inr (.inl ⟨by go_num,o3⟩)⟩
     case measure=>simp[intOf]
    ·obtain⟨c0,c1⟩:=aa HG _ b2
     go_wp2_with (at_builtin;refine du rfl _ _ 41 rfl w.heap.size 56 i6 _ 6 48 Tryz.underlying41 hi6 hz60 hz61 hz62 rfl (by decide) _ la A rfl o2 b lb cb B rfl (aa HB _ b2) nB (by unfold maxLen;omega) (by omega) (by have:=b2.size;omega) ?_;intro v3 W3 o3 g3;have b3:=b2.grown g3 b2.size (fun q hq=>(o2.lt q hq).1);clear o2 g3 b2 c0 c1)
     go_roundw
     case rel=>exact⟨b3,.inr (.inr ⟨by go_num,o3⟩)⟩
     case measure=>simp[intOf]
    ·have R:=ai (And.intro (aa HW _ _ o2) b2);clear o2 b2;go_wp2;go_ret;exact⟨_,rfl,aa R⟩
theorem xv(a b:tB)(la ca lb cb:Nat)(A B:tG)(w:tA)(hA:RowK .i64 w a (6*la) A)(hB:RowK .i64 w b (6*lb) B)(nA:a=none→ca=0)(nB:b=none→cb=0)(hs:la+lb≤1000000):
  cA 131 #[.slice a la ca,.slice b lb cb] w fun e w'=>∃v,e= .returned v∧uO w w' (la+lb) (A++B) v∧bZ w w':=by
 have HC:=OD w.heap.size a b la ca lb cb A B (w.alloc (.cells #[.slice a la ca,.slice b lb cb] 41)) (AP w _) (hA.below (aC _ _)) (hB.below (aC _ _)) nA nB hs;clear hA hB;go_enter Tryz.func131,Tryz.ntmps131
 go_wp2_with (go_at_call 167;refine HC.mono ?_;rintro e W1 ⟨v1,rfl,o1,b1⟩)
 go_ret;obtain⟨a',c',rfl,r,h1,h2,h3⟩:=o1.ex;exact⟨_,rfl,⟨a',c',rfl,r,h1,h2,fun x hx=>by have:=h3 x hx;simp at this;omega⟩,oW b1⟩
theorem Step.ace{s s':St}{v:Ev}{an:An}{ch:Bool}(st:Step s v s' an ch)(hk:v.k=3)(h1:¬v.he=s.ep):ch=false∧an=⟨11,0,0,0⟩∧s'=s:=by
 cases st with
 |iI kg|iJ kg|fS kg|FV kg|eI kg|fT kg|recv kg|fV kg|stop kg=>omega
 |eJ _ h'=>exact⟨rfl,rfl,rfl⟩
 |fU _ h' _=>exact absurd h' h1
 |FW _ h' m hm hb=>exact absurd h' h1
theorem Step.Sd{s s':St}{v:Ev}{an:An}{ch:Bool}(st:Step s v s' an ch)(hk:v.k=2)(h1:0<s.rn)(h2:s.gv<1073741824):
  ch=true∧an=⟨0,s.ep,s.gv,s.R.getD 1 0⟩∧s'=⟨s.ep,s.nx,s.gv+1,s.rn-1,s.R.drop 2,s.ln+1,s.L++[s.ep,s.gv,s.R.getD 0 0,s.R.getD 1 0],s.wt,s.wz⟩:=by
 cases st with
 |iI kg|iJ kg|fS kg|FV kg|eJ kg|fU kg|FW kg|fV kg|stop kg=>omega
 |eI _ h'=>omega
 |fT _ _ h'=>omega
 |recv _ _ _=>exact⟨rfl,rfl,rfl⟩
theorem Step.Wa{s s':St}{v:Ev}{an:An}{ch:Bool}(st:Step s v s' an ch)(hk:v.k=2)(h1:s.rn=0):ch=false∧an=⟨10,0,0,0⟩∧s'=s:=by
 cases st with
 |iI kg|iJ kg|fS kg|FV kg|eJ kg|fU kg|FW kg|fV kg|stop kg=>omega
 |eI _ h'=>exact⟨rfl,rfl,rfl⟩
 |fT _ h' _=>omega
 |recv _ h' _=>omega
theorem Step.OE{s s':St}{v:Ev}{an:An}{ch:Bool}(st:Step s v s' an ch)(hk:v.k=1)(h1:s.wt v.p.toNat-8≤v.i)(hn:gU (s.wt v.p.toNat) (s.wz v.p.toNat) v.i=false)(h2:s.rn+s.ln<500)(h3:s.nx<1073741824):
  ch=true∧an=⟨0,0,0,0⟩∧s'=⟨s.ep,s.nx+1,s.gv,s.rn+1,s.R++[s.nx,v.b],s.ln,s.L,xU s.wt v.p.toNat (h_ (s.wt v.p.toNat) v.i),xU s.wz v.p.toNat (eZ (s.wt v.p.toNat) (s.wz v.p.toNat) v.i)⟩:=by
 cases st with
 |eI kg|fT kg|recv kg|eJ kg|fU kg|FW kg|fV kg|stop kg=>omega
 |iI _ h'=>omega
 |iJ _ h'=>rw[hn]at h';cases h'
 |fS _ _ _ h'=>omega
 |FV _ _ _ _ _=>exact⟨rfl,rfl,rfl⟩
theorem xw{t x:Int}{s:tQ}(h:x<t-8):gU t s x=false:=by
 unfold gU;rw[Ak (by omega)];simp
theorem Se{A B:tG}{n:Nat}(ha:A.length=2*n)(hb:B.length=2*n)(h:∀i,i<n→A.getD (2*i) 0=B.getD (2*i) 0∧A.getD (2*i+1) 0=B.getD (2*i+1) 0):A=B:=by
 apply List.ext_getElem (by omega);intro i h1 h2;have e:∀(L:tG) (hL:i<L.length),L[i]=L.getD i 0:=fun L hL=>by simp[List.getElem?_eq_getElem hL]
 rw[e A h1,e B h2];have hi:=h (i/2) (by omega);rcases Nat.mod_two_eq_zero_or_one i with hm|hm
 ·have:2*(i/2)=i:=by omega
  rw[this]at hi;exact hi.1
 ·have:2*(i/2)+1=i:=by omega
  rw[this]at hi;exact hi.2
theorem Ih{s:St}{A B:tG}(h:s.Wf)(ha:Ordered (s.R++dS s.L s.ln) A (s.rn+s.ln))(hb:Ordered (s.R++dS s.L s.ln) B (s.rn+s.ln)):A=B:=by
 have ra:=po h ha;have rb:=po h hb;have sorted:∀(C:tG) (n:Nat),(∀i,i+1<n→C.getD (2*i) 0<C.getD (2*(i+1)) 0)→(cD C n).Pairwise (fun x y=>x.1<y.1):=by
  intro C n hC;have far:∀j i,i<j→j<n→C.getD (2*i) 0<C.getD (2*j) 0:=by
   intro j
   induction j with
   |zero=>intro i h1;omega
   |succ j ih=>
    intro i h1 h2;have hs:=hC j h2;rcases AG i j with h3|h3
    ·have:=ih i h3 (by omega);omega
    ·obtain rfl:i=j:=by omega
     exact hs
  rw[BD];intro i j hi hj hij;have hi':i<n:=by simpa[cD]using hi
  have Sf:j<n:=by simpa[cD]using hj
  simp only[cD,List.getElem_map,List.getElem_range,gw];exact far j i hij Sf
 have hp:(cD A (s.rn+s.ln)).Perm (cD B (s.rn+s.ln)):=ha.perm.trans hb.perm.symm;have he:cD A (s.rn+s.ln)=cD B (s.rn+s.ln):=by
  refine List.Perm.eq_of_pairwise (le:=fun x y=>x.1<y.1) ?_ (sorted A _ ra) (sorted B _ rb) hp;intro a b _ _ h1 h2;omega
 refine Se ha.len hb.len (fun i hi=> ?_);have h1:(cD A (s.rn+s.ln))[i]? =(cD B (s.rn+s.ln))[i]? :=by rw[he]
 simp[cD,hi,gw]at h1;simpa using h1
theorem Step.Wb{s s1 s2:St}{v:Ev}{a1 a2:An}{c1 c2:Bool}(h:s.Wf)(x:Step s v s1 a1 c1)(y:Step s v s2 a2 c2):s1=s2∧a1=a2∧c1=c2:=by
 cases x with
 |iI hk g=>cases y with
  |iI=>exact⟨rfl,rfl,rfl⟩
  |iJ _ g2=>rw[xw g]at g2;cases g2
  |fS|FV|eI|fT|recv|eJ|fU|FW|fV|stop=>omega
 |iJ hk g=>cases y with
  |iI _ g2=>rw[xw g2]at g;cases g
  |iJ=>exact⟨rfl,rfl,rfl⟩
  |fS _ _ g2=>rw[g]at g2;cases g2
  |FV _ _ g2=>rw[g]at g2;cases g2
  |eI|fT|recv|eJ|fU|FW|fV|stop=>omega
 |fS hk g g1 g2=>cases y with
  |iJ _ g3=>rw[g1]at g3;cases g3
  |fS=>exact⟨rfl,rfl,rfl⟩
  |iI|FV|eI|fT|recv|eJ|fU|FW|fV|stop=>omega
 |FV hk g g1 g2 g3=>obtain⟨rfl,rfl,rfl⟩:=y.OE hk g g1 g2 g3;exact⟨rfl,rfl,rfl⟩
 |eI hk g=>obtain⟨rfl,rfl,rfl⟩:=y.Wa hk g;exact⟨rfl,rfl,rfl⟩
 |fT hk g g1=>cases y with
  |fT=>exact⟨rfl,rfl,rfl⟩
  |iI|iJ|fS|FV|eI|recv|eJ|fU|FW|fV|stop=>omega
 |recv hk g g1=>obtain⟨rfl,rfl,rfl⟩:=y.Sd hk g g1;exact⟨rfl,rfl,rfl⟩
 |eJ hk g=>obtain⟨rfl,rfl,rfl⟩:=y.ace hk g;exact⟨rfl,rfl,rfl⟩
 |fU hk g g1=>cases y with
  |fU=>exact⟨rfl,rfl,rfl⟩
  |eJ _ g2=>exact absurd g g2
  |iI|iJ|fS|FV|eI|fT|recv|FW|fV|stop=>omega
 |FW hk g m hm g1=>cases y with
  |FW _ _ m' hm' g2=>
   obtain rfl:m=m':=by omega
   exact⟨rfl,rfl,rfl⟩
  |eJ _ g2=>exact absurd g g2
  |iI|iJ|fS|FV|eI|fT|recv|fU|fV|stop=>omega
 |fV hk g=>cases y with
  |fV=>exact⟨rfl,rfl,rfl⟩
  |iI|iJ|fS|FV|eI|fT|recv|eJ|fU|FW|stop=>omega
 |stop hk g R' ho=>cases y with
  |stop _ _ R2 ho2=>
   obtain rfl:=Ih h ho ho2;exact⟨rfl,rfl,rfl⟩
  |iI|iJ|fS|FV|eI|fT|recv|eJ|fU|FW|fV=>omega
inductive bz:List Ev→St→List An→Prop
 |nil:bz [] St.zero []
 |snoc {es:List Ev} {s s':St} {bu:List An} {v:Ev} {an:An} (h:bz es s bu) (hv:v.Ok) (st:Step s v s' an true):bz (es++[v]) s' (bu++[an])
theorem bz.wf{es:List Ev}{s:St}{bu:List An}(h:bz es s bu):s.Wf:=by
 induction h with
 |nil=>exact St.V9
 |snoc h hv st ih=>exact st.wf ih hv
theorem bz.last{es:List Ev}{v:Ev}{s:St}{bu:List An}(h:bz (es++[v]) s bu):∃s0 F5 an,bz es s0 F5∧v.Ok∧Step s0 v s an true∧bu=F5++[an]:=by
 generalize he:es++[v]=l at h;cases h with
 |nil=>simp at he
 | @snoc es' s0 s' F5 v' an h hv st=>
  obtain⟨rfl,hv'⟩:=List.append_inj' he rfl;cases hv';exact⟨s0,F5,an,h,hv,st,rfl⟩
theorem bz.one{es:List Ev}{s1 s2:St}{acf OG:List An}(h1:bz es s1 acf)(h2:bz es s2 OG):s1=s2∧acf=OG:=by
 induction h1 generalizing s2 OG with
 |nil=>
  generalize he:([]:List Ev)=l at h2;cases h2 with
  |nil=>exact⟨rfl,rfl⟩
  |snoc=>simp at he
 |snoc h hv st ih=>
  obtain⟨s0,F5,an,h3,_,st2,rfl⟩:=h2.last;obtain⟨rfl,rfl⟩:=ih h3;obtain⟨rfl,rfl,_⟩:=st.Wb h.wf st2;exact⟨rfl,rfl⟩
theorem bz.take{es:List Ev}{s:St}{bu:List An}(h:bz es s bu):∀k,k≤es.length→∃s0,bz (es.take k) s0 (bu.take k):=by
 induction h with
 |nil=>intro k _;exact⟨St.zero,by simpa using bz.nil⟩
 | @snoc es s s' bu v an h hv st ih=>
  intro k hk;have hl:bu.length=es.length:=by
   clear ih st hk
   induction h with
   |nil=>rfl
   |snoc _ _ _ ih=>simp[ih]
  rcases AG es.length k with h1|h1
  ·obtain rfl:k=(es++[v]).length:=by simp at hk⊢;omega
   refine⟨s', ?_⟩;rw[BC,AL (by simp;omega)];exact .snoc h hv st
  ·obtain⟨s0,h0⟩:=ih k h1;refine⟨s0, ?_⟩;rw[List.take_append_of_le_length h1,List.take_append_of_le_length (by omega)];exact h0
theorem bz.step{es:List Ev}{s:St}{bu:List An}(h:bz es s bu){k:Nat}(hk:k<es.length){s0:St}{a0:List An}(h0:bz (es.take k) s0 a0):∃s1 an,Step s0 es[k] s1 an true∧es[k].Ok:=by
 obtain⟨s1,h1⟩:=h.take (k+1) hk;rw[Bo hk]at h1;obtain⟨s2,OG,an,h2,hv,st,_⟩:=h1.last;obtain⟨rfl,_⟩:=h2.one h0;exact⟨s1,an,st,hv⟩
theorem mr:∀(es:List Ev) (i:Nat) (h:i<es.length) (j:Nat),j<6→(au es).getD (6*i+j) 0=(bf es[i]).getD j 0
 |[],_,h,_,_=>absurd h (AF _)
 |v::es,0,_,j,hj=>by
  have hl:(bf v).length=6:=rfl;show(bf v++au es).getD (6*0+j) 0=_;rw[Nat.mul_zero,Aj,dh _ _ _ (by omega)];rfl
 |v::es,i+1,h,j,hj=>by
  have hl:(bf v).length=6:=rfl;show(bf v++au es).getD (6*(i+1)+j) 0=_;rw[show 6*(i+1)+j=6+(6*i+j) by omega,cX _ _ _ 6 hl,mr es i (by simpa using h) j hj];rfl
section
open Go.ChangeShapes Go.WideShapes Go.ChangeAt
section
variable{H:Type}{enc:TypeId×Value→H}{P:tY}{W:tA}{base:Nat}{sp:tQ}{held:Bool}
def Ints(cs:tM):Prop:=∃zs:List Int,cs=zs.map (Value.int .i64)∧∀z∈zs,(Lit.int .i64 z).wf=true
theorem Ints.nil:Ints []:=⟨[],rfl,by simp⟩
theorem Ints.app{a b:tM}(ha:Ints a)(hb:Ints b):Ints (a++b):=by
 obtain⟨x,rfl,hx⟩:=ha;obtain⟨y,rfl,hy⟩:=hb;refine⟨x++y,by simp, ?_⟩;intro z hz;rcases Ah.1 hz with h|h
 ·exact hx z h
 ·exact hy z h
theorem qp{t:tZ}{fuel:Nat}{cs:tM}{x:DataW H×List MemPlace}(ht:P.underlying t=some (.int .i64))(h:DataW.trod enc P W base sp held fuel t cs=some x):Ints cs:=by
 obtain⟨n,rfl,_,hw⟩:=DataW.trod_int ht h;exact⟨[n],rfl,by simpa using hw⟩
theorem KP(cs:tM)(o n:Nat):cs.drop o=(cs.drop o).take n++cs.drop (o+n):=by
 rw[←List.drop_drop];exact(BU n (cs.drop o)).symm
theorem ov{cs:tM}{o n:Nat}(h1:Ints ((cs.drop o).take n))(h2:Ints (cs.drop (o+n))):Ints (cs.drop o):=by
 rw[KP cs o n];exact h1.app h2
theorem Sh{cs:tM}{o:Nat}(h:cs.length≤o):Ints (cs.drop o):=by
 rw[Cf h];exact Ints.nil
end
theorem mw:Tryz.prog.cellsOf 3=1:=by kernel_rfl
end
structure Bx(wx:tA)(B:Nat)(s:St)(a1:tB)(c1:Nat)(a2:tB)(c2:Nat)(ws:tD):Prop where
 q:aY wx B s.ep s.nx s.gv (.slice a1 s.rn c1) (.slice a2 s.ln c2) ws
 r1:RowK .i64 wx a1 (2*s.rn) s.R
 r2:RowK .i64 wx a2 (4*s.ln) s.L
 n1:a1=none→c1=0
 n2:a2=none→c2=0
 Hw:gP ws s.wt s.wz
theorem aff{w wx wy wz:tA}{s:St}{a1:tB}{c1:Nat}{a2:tB}{c2:Nat}{ws:tD}(c he no bd:Int)(r1:RowK .i64 wx a1 (2*s.rn) s.R)(r2:RowK .i64 wx a2 (4*s.ln) s.L)(n1:a1=none→c1=0)(n2:a2=none→c2=0)(hW:gP ws s.wt s.wz)(dp:bZ w wx)
  (b:bZ wx wy) (hN:wx.heap.size<wy.heap.size) (t:aB wx.heap.size (wy.alloc (.cells #[iV 0,iV 0,iV 0,iV 0] 59)) wz) (q:aY wz wx.heap.size s.ep s.nx s.gv (.slice a1 s.rn c1) (.slice a2 s.ln c2) ws):
  ∃W,W=(((wz.setCell ⟨wy.heap.size,0,none⟩ (iV c)).setCell ⟨wy.heap.size,1,none⟩ (iV he)).setCell ⟨wy.heap.size,2,none⟩ (iV no)).setCell ⟨wy.heap.size,3,none⟩ (iV bd)∧Bx W wx.heap.size s a1 c1 a2 c2 ws∧aV W wy.heap.size c he no bd∧bZ wx W∧bZ w W:=by
 have y:=aV.new wy 0 0 0 0;have y1:=y.dR t (by omega);have b1:Below wx.heap.size wx (wy.alloc (.cells #[iV 0,iV 0,iV 0,iV 0] 59)):=Below.next b (aC _ _);have b2:=t.under b1 (Ac _);have t2:=gu wz wy.heap.size c he no bd;have b3:=t2.under b2 (by omega);exact⟨_,rfl,⟨t2.queue q (by omega),r1.below b3,r2.below b3,n1,n2,hW⟩,y1.store _ _ _ _,b3,Below.next dp b3⟩
theorem F5{wx wy wz:tA}(hN:wx.heap.size<wy.heap.size)(t:aB wx.heap.size (wy.alloc (.cells #[iV 0,iV 0,iV 0,iV 0] 59)) wz):aV wz wy.heap.size 0 0 0 0:=(aV.new wy 0 0 0 0).dR t (by omega)
def qq(ep nx gv:Int)(r l:tK)(ws:tD)(c he no bd:Int)(tail:tM):List Value:=lW ep nx gv r l ws++([iV c,iV he,iV no,iV bd]++tail)
theorem ox(ep nx gv:Int)(r l:tK)(ws:tD):(lW ep nx gv r l ws).length=41:=by simp[lW,nK]
def dW(w:tA)(R:Nat)(T:tZ)(ep nx gv:Int)(r l:tK)(ws:tD)(c he no bd:Int)(tail:tM):Prop:=w.heap[R]? =some (.cells (qq ep nx gv r l ws c he no bd tail).toArray T (0,0))
section
variable{w w':tA}{R:Nat}{T:tZ}{ep nx gv:Int}{r l:tK}{ws:tD}{c he no bd:Int}{tail:tM}
theorem dW.at(h:dW w R T ep nx gv r l ws c he no bd tail)(i:Nat):w.cell? ⟨R,i,none⟩=(qq ep nx gv r l ws c he no bd tail)[i]? :=by
 unfold dW at h;simp[World.cell?,h]
theorem dW.lt(h:dW w R T ep nx gv r l ws c he no bd tail):R<w.heap.size:=by
 unfold dW at h;rcases AG R w.heap.size with h'|h'
 ·exact h'
 ·simp[Array.getElem?_eq_none h']at h
theorem dW.next(h:dW w R T ep nx gv r l ws c he no bd tail)(hb:bZ w w'):dW w' R T ep nx gv r l ws c he no bd tail:=by
 have:=h.lt;unfold dW at h⊢;rw[←h];exact hb.block R this
theorem Si(j:Nat)(hj:j<41):(qq ep nx gv r l ws c he no bd tail)[j]? =(lW ep nx gv r l ws)[j]? :=by
 unfold qq;rw[AZ (by rw[ox];exact hj)]
theorem Sj(j:Nat):(qq ep nx gv r l ws c he no bd tail)[41+j]? =([iV c,iV he,iV no,iV bd]++tail)[j]? :=by
 unfold qq;rw[AQ (by rw[ox];omega),ox,Cu]
theorem dW.range(h:dW w R T ep nx gv r l ws c he no bd tail):w.rangeAt R 0 (lW ep nx gv r l ws):=fun j v hv=>by
 have hj:j<41:=by
  have:=(Ap.1 hv).1;rwa [ox]at this
 rw[Aj,h.at,Si j hj];exact hv
theorem dW.more{x:tK}{tl:tM}(h:dW w R T ep nx gv r l ws c he no bd (x::tl)):w.cell? ⟨R,45,none⟩=some x:=(h.at (41+4)).trans (Sj 4)
end
section
open Rv
structure Tg(w:tA)(R:Nat)(T:tZ)(tail:tM)(s:St)(an:An):Prop where
 ex:∃a1 c1 a2 c2 ws,dW w R T s.ep s.nx s.gv (.slice a1 s.rn c1) (.slice a2 s.ln c2) ws an.c an.he an.no an.bd tail∧RowK .i64 w a1 (2*s.rn) s.R∧RowK .i64 w a2 (4*s.ln) s.L∧(a1=none→c1=0)∧(a2=none→c2=0)∧gP ws s.wt s.wz∧(∀x,a1=some x→R<x.block)∧(∀x,a2=some x→R<x.block)∧s.rn≤c1∧s.ln≤c2
theorem Tg.next{w w':tA}{R:Nat}{T:tZ}{tail:tM}{s:St}{an:An}(h:Tg w R T tail s an)(b:bZ w w'):Tg w' R T tail s an:=by
 obtain⟨a1,c1,a2,c2,ws,tb,r1,r2,rest⟩:=h.ex;exact⟨a1,c1,a2,c2,ws,tb.next b,r1.below b,r2.below b,rest⟩
theorem ZP{w0 W:tA}{v:Ev}(h:W.heap[w0.heap.size]? =some (.cells #[iV v.k,iV v.p,iV v.i,iV v.b,iV v.he,iV v.hn] 56 (0,0))):
  W.cell? ⟨w0.heap.size,0,none⟩=some (iV v.k)∧W.cell? ⟨w0.heap.size,1,none⟩=some (iV v.p)∧W.cell? ⟨w0.heap.size,2,none⟩=some (iV v.i)∧W.cell? ⟨w0.heap.size,3,none⟩=some (iV v.b)∧W.cell? ⟨w0.heap.size,4,none⟩=some (iV v.he)∧W.cell? ⟨w0.heap.size,5,none⟩=some (iV v.hn):=by
 simp[World.cell?,h]
structure Tf(w:tA)(n R:Nat)(T:tZ)(tail:tM)(s:St)(an:An):Prop where
 ex:∃a1 c1 a2 c2 ws,dW w R T s.ep s.nx s.gv (.slice a1 s.rn c1) (.slice a2 s.ln c2) ws an.c an.he an.no an.bd tail∧RowK .i64 w a1 (2*s.rn) s.R∧RowK .i64 w a2 (4*s.ln) s.L∧(a1=none→c1=0)∧(a2=none→c2=0)∧gP ws s.wt s.wz∧(∀x,a1=some x→n≤x.block)∧(∀x,a2=some x→n≤x.block)∧s.rn≤c1∧s.ln≤c2
def Wc(n:Nat)(s:St)(q:tD)(w:tA):Prop:=∃a1 c1 a2 c2 ws,q=qF s.ep s.nx s.gv (.slice a1 s.rn c1) (.slice a2 s.ln c2) ws∧RowK .i64 w a1 (2*s.rn) s.R∧RowK .i64 w a2 (4*s.ln) s.L∧(a1=none→c1=0)∧(a2=none→c2=0)∧gP ws s.wt s.wz∧(∀x,a1=some x→n≤x.block)∧(∀x,a2=some x→n≤x.block)∧s.rn≤c1∧s.ln≤c2
abbrev Vm(R:Nat)(T:tZ)(q:tD)(an:An)(tl:List Sg):En:=⟨R,T,.f 41 q:: .o (iV an.c):: .o (iV an.he):: .o (iV an.no):: .o (iV an.bd)::tl⟩
theorem Ii{w:tA}{R:Nat}{T:tZ}{ep nx gv:Int}{r l:tK}{ws:tD}{an:An}{tail:tM}(ht:tail=[]∨∃x,tail=[x]):dW w R T ep nx gv r l ws an.c an.he an.no an.bd tail↔bh w R T (eX (Vm R T (qF ep nx gv r l ws) an (tail.map .o)).l) (cy (Vm R T (qF ep nx gv r l ws) an (tail.map .o)).l):=by
 unfold dW bh;rcases ht with rfl|⟨x,rfl⟩<;>exact Iff.rfl
theorem Ij(s:St)(an:An)(v:Ev)(w0:tA)(R:Nat)(T:tZ)(tail:tM)(ok:s.Ok)(h:Tg w0 R T tail s an)(ht:tail=[]∨∃x,tail=[x]):
  cA 174 #[.pointer (some ⟨R,0,none⟩),pk v] w0 fun e w'=>∃(s':St) (pY:An) (ch:Bool) (er:Int),e= .returned (.bool ch)∧Ig s v s' pY ch er∧(ch=true→Tf w' w0.heap.size R T tail s' pY)∧(ch=false→Tg w' R T tail s an)∧ZN R w0.heap.size w0 w':=by
 obtain⟨a1,c1,a2,c2,ws,tb,r1,r2,m1,m2,hW,x1,x2,l1,l2⟩:=h.ex;have hq:aW (qF s.ep s.nx s.gv (.slice a1 s.rn c1) (.slice a2 s.ln c2) ws) 41:=(we.mk (w:=w0) ⟨a1,c1,a2,c2,ws,rfl,r1,r2,l1,l2,m1,m2,hW⟩).one;have hS:Mem w0 (hs [Vm R T (qF s.ep s.nx s.gv (.slice a1 s.rn c1) (.slice a2 s.ln c2) ws) an (tail.map .o)]) (fun _=>False) (fun w=>RowK .i64 w a1 (2*s.rn) s.R∧RowK .i64 w a2 (4*s.ln) s.L) (fun w'=>dB (fun b=>b=R) w0 w'):=by
  have:=Mem.begin (w:=w0) (H:=hs [Vm R T (qF s.ep s.nx s.gv (.slice a1 s.rn c1) (.slice a2 s.ln c2) ws) an (tail.map .o)]) (M:=fun _=>False) (G:=fun w=>RowK .i64 w a1 (2*s.rn) s.R∧RowK .i64 w a2 (4*s.ln) s.L) (fun e he=>by cases Ab.1 he;exact(Ii ht).1 tb) (BN _ _) (fun _ _=>id) (fun _ h=>h.elim) fun w' c=> ?_
  ·exact⟨this.g_,this.oY,this.off,this.mlt,this.g,fun w' c=>c.mono fun b hb=>Ab.1 hb⟩
  ·have key:∀x:Addr,R<x.block→¬(x.block∈(hs [Vm R T (qF s.ep s.nx s.gv (.slice a1 s.rn c1) (.slice a2 s.ln c2) ws) an (tail.map .o)]).map bX.a∨False):=fun x hx k=>k.elim (fun k=>by have e:x.block=R:=Ab.1 k;omega) id;exact⟨nh r1 c fun x hx _=>key x (x1 x hx),nh r2 c fun x hx _=>key x (x2 x hx)⟩
 have off:∀{w'},dB (fun b=>b=R) w0 w'→ZN R w0.heap.size w0 w':=fun c=>⟨c.os,c.tape,c.output,c.size,fun X hX hB=>c.block X hX hB⟩;have same:∀{w' H},Mem w' (hs (Vm R T (qF s.ep s.nx s.gv (.slice a1 s.rn c1) (.slice a2 s.ln c2) ws) an (tail.map .o)::H)) (fun _=>False) (fun w=>(RowK .i64 w a1 (2*s.rn) s.R∧RowK .i64 w a2 (4*s.ln) s.L)) (fun w'=>dB (fun b=>b=R) w0 w')→Tg w' R T tail s an:=fun hS=>⟨a1,c1,a2,c2,ws,(Ii ht).2 (hS.at 0 rfl),hS.now.1.1,hS.now.1.2,m1,m2,hW,x1,x2,l1,l2⟩;have doc:∀w,w0.heap.size≤w.heap.size→RowK .i64 w a1 (2*s.rn) s.R→RowK .i64 w a2 (4*s.ln) s.L→cA 130 #[vF (qF s.ep s.nx s.gv (.slice a1 s.rn c1) (.slice a2 s.ln c2) ws) 41,pk v] w fun x w'=>∃y:St×An×Bool×Int×(Nat→Value),x= .returned (.tuple #[vF y.2.2.2.2 41,Ib y.2.1,.bool y.2.2.1,iV y.2.2.2.1])∧bZ w w'∧(Ig s v y.1 y.2.1 y.2.2.1 y.2.2.2.1∧aW y.2.2.2.2 41)∧∀U:Nat→Prop,(∀b,U b→b<w.heap.size)→cm U w' (Wc w0.heap.size y.1 y.2.2.2.2):=fun w hz r1 r2=>by
  rw[←rE];refine(Sb s a1 a2 c1 c2 ws v w r1 r2 m1 m2 hW ok).mono ?_;rintro _ w' ⟨s',pY,ch,er,x,rfl,hd,ho,hb⟩;obtain⟨b1,d1,b2,d2,ws',rfl,g1,g2,g3,g4,g5,g6,g7,g8,g9⟩:=ho.ex;exact⟨(s',pY,ch,er,qF s'.ep s'.nx s'.gv (.slice b1 s'.rn d1) (.slice b2 s'.ln d2) ws'),by rw[rE],hb,⟨hd,(we.mk (w:=w') ⟨b1,d1,b2,d2,ws',rfl,g1,g2,g3,g4,g5,g6,g7⟩).one⟩,fun U hU w2 c2'=>⟨b1,d1,b2,d2,ws',rfl,bM g1 g8 hU w2 c2',bM g2 g9 hU w2 c2',g5,g6,g7,fun x hx=>AN hz (g8 x hx),fun x hx=>AN hz (g9 x hx),g3,g4⟩⟩
 rcases id ht with rfl|⟨x,rfl⟩
 case' inl=>let tl:List Sg:=[]
 case' inr=>let tl:List Sg:=[.o x]
 all_goals
  refine en (H:=[Vm R T (qF s.ep s.nx s.gv (.slice a1 s.rn c1) (.slice a2 s.ln c2) ws) an tl]) 34 [vp 0 0 R,vg (ZO v)] Tryz.func174 rfl rfl hS (r [] rfl fun α=> ?_);refine cut (X:=(Nat×Nat)×(St×An×Bool×Int×(Nat→Value))) (fun x=>[(0,vp 0 0 R),(5,vp 1 0 x.1.1),(6,vp 2 0 x.1.2),(7,vv (.bool x.2.2.2.1)),(8,vi x.2.2.2.2.1)]) (fun x=>[Vm R T (qF s.ep s.nx s.gv (.slice a1 s.rn c1) (.slice a2 s.ln c2) ws) an tl,⟨x.1.1,112,[.f 41 x.2.2.2.2.2]⟩,⟨x.1.2,59,QS x.2.2.1⟩]) (fun _ _=>False) (fun x w=>(RowK .i64 w a1 (2*s.rn) s.R∧RowK .i64 w a2 (4*s.ln) s.L)∧Wc w0.heap.size x.2.1 x.2.2.2.2.2 w) (fun _ w'=>dB (fun b=>b=R) w0 w') (fun x=>Ig s v x.2.1 x.2.2.1 x.2.2.2.1 x.2.2.2.2.1∧aW x.2.2.2.2.2 41) ?_ (r [4] rfl fun _=> ?_)
  case refine_2=>
   repeat' first|refine FC ?_ ?_|refine fk3 ?_ ?_ ?_|(refine cx rfl (fun y:St×An×Bool×Int×(Nat→Value)=>vt [.g [.f 41 y.2.2.2.2],.g (QS y.2.1),.o (.bool y.2.2.1),.o (iV y.2.2.2.1)]) (fun y=>Ig s v y.1 y.2.1 y.2.2.1 y.2.2.2.1∧aW y.2.2.2.2 41) (fun y=>Wc w0.heap.size y.1 y.2.2.2.2) ?_ fun y hy=> ?_;exact fun w hS=>(doc w hS.now.2.size hS.now.1.1 hS.now.1.2).mono fun _ _ ⟨y,h1,h2,h3,h4⟩=>⟨y,h1,h2,h3,h4 _⟩;have hy2:=hy.2)|refine rs [] rfl rfl fun _=> ?_
   all_goals first|exact bJ ((_,_),y) ⟨rfl,rfl,rfl,rfl,rfl,trivial⟩ (fun w hS=>hS.Kj [0,2,3] (by decide)) hy Bp|exact bJ ((_,_),y) ⟨rfl,rfl,rfl,rfl,rfl,trivial⟩ (fun w hS=>hS.Kj [0,3,2] (by decide)) hy Bp
  rintro f ⟨⟨b5,b6⟩,s',pY,ch,er,q'⟩ ⟨hd,o'⟩;have hd:Ig s v s' pY ch er:=hd;have o':aW q' 41:=o';rcases hd.err with rfl|⟨Ik,rfl⟩
  case inr=>exact r [1] rfl fun _=>fin fun w hS=>⟨s',pY,false,er,rfl,hd,fun h=>(by cases h),fun _=>same (hS.said fun _ h=>h.1),off hS.now.2⟩
  cases ch
  ·exact r [0] rfl fun _=>fin fun w hS=>⟨s',pY,false,0,rfl,hd,fun h=>(by cases h),fun _=>same (hS.said fun _ h=>h.1),off hS.now.2⟩
  ·refine r [0,5,0,6] rfl fun _=> ?_
   repeat' first|refine FC ?_ ?_|refine rs [] rfl rfl fun _=> ?_
   all_goals exact fin fun w hS=>⟨s',pY,true,0,rfl,hd,fun _=>(by
    obtain⟨b1,d1,b2,d2,ws',rfl,g⟩:Wc w0.heap.size s' q' w:=hS.now.1.2;exact⟨b1,d1,b2,d2,ws',(Ii ht).2 (hS.at 0 rfl),g⟩),fun h=>(by cases h),off hS.now.2⟩
theorem Sk(s:St)(an:An)(v:Ev)(w0:tA)(R:Nat)(T:tZ)(tail:tM)(ok:s.Ok)(h:Tg w0 R T tail s an)(ht:tail=[]∨∃x,tail=[x]):
  cA 174 #[.pointer (some ⟨R,0,none⟩),pk v] w0 fun e w'=>∃(s':St) (pY:An) (ch:Bool) (er:Int),e= .returned (.bool ch)∧Ig s v s' pY ch er∧(ch=true→Tg w' R T tail s' pY)∧(ch=false→Tg w' R T tail s an)∧ZN R w0.heap.size w0 w':=by
 refine(Ij s an v w0 R T tail ok h ht).mono ?_;rintro _ w' ⟨s',pY,ch,er,rfl,hd,h1,h2,o⟩;obtain⟨_,_,_,_,_,tb,_⟩:=h.ex;refine⟨s',pY,ch,er,rfl,hd,fun hc=> ?_,h2,o⟩;obtain⟨a1,c1,a2,c2,ws,t,r1,r2,m1,m2,hW,x1,x2,l⟩:=(h1 hc).ex;exact⟨a1,c1,a2,c2,ws,t,r1,r2,m1,m2,hW,fun x hx=>Am tb.lt (x1 x hx),fun x hx=>Am tb.lt (x2 x hx),l⟩
end
structure zC(g:Nat)(recv:tK)(es:List Ev)(I:Nat→World→Prop)(J:tJ):Prop where
 enters:∀args w,(callFunc g args).run Tryz.prog w= .ok (.enter g args) w
 step:∀k (hk:k<es.length) (W:tA),I k W→cA g #[recv,pk es[k]] W fun e w'=>(e= .returned (.bool true)∧I (k+1) w')∨(e= .returned (.bool false)∧J w')
 keep:∀k (W W':tA),I k W→bZ W W'→I k W'
theorem Il(g:Nat)(R:Nat)(es:List Ev)(I:Nat→World→Prop)(J:tJ)(sp:zC g (.pointer (some ⟨R,0,none⟩)) es I J)(a:tB)(cap:Nat)(w:tA)(h0:I 0 w)(hl:es.length≤2000)
  (dq:∀k W,I k W→RowK .i64 W a (6*es.length) (au es)):
  cA 150 #[.slice a es.length cap,.func (.func g) #[.pointer (some ⟨R,0,none⟩)] #[]] w fun e w'=>(e= .returned (iV 0)∧I es.length w')∨(e= .returned (iV 3)∧J w'):=by
 have YK:=sp.enters;go_enter Tryz.func150,Tryz.ntmps150
 go_upto_region 4 with fail
 go_loopw [12] (fun i wr=>∃k:Nat,k≤es.length∧i=iV k∧I k wr) (fun i _=>es.length-(intOf i).toNat)
 case atStart=>exact⟨0,Al _,rfl,h0⟩
 case round=>
  obtain⟨k,hk,rfl,hI⟩:=hrel;by_cases aN:k<es.length
  ·have hr:=dq k wr hI;obtain⟨b,off,rfl⟩:=hr.form (by omega);obtain⟨x0,x1,x2,x3,x4,x5⟩:=hr.six k aN;have ea:∀t,t<6→(au es).getD (6*k+t) 0=(bf es[k]).getD t 0:=fun t ht=>mr es k aN t ht;rw[show 6*k=6*k+0 from rfl,ea 0 (by omega)]at x0;rw[ea 1 (by omega)]at x1;rw[ea 2 (by omega)]at x2;rw[ea 3 (by omega)]at x3;rw[ea 4 (by omega)]at x4;rw[ea 5 (by omega)]at x5;have HSt:=fun W hW=>sp.step k aN W hW;obtain⟨v,hv⟩:∃v,v=es[k]:=⟨_,rfl⟩;rw[←hv]at x0 x1 x2 x3 x4 x5 HSt;simp only[bf,List.getD_cons_zero,List.getD_cons_succ]at x0 x1 x2 x3 x4 x5;have HI:Hid (∀W,bZ wr W→I k W):=ai fun W b=>sp.keep k wr W hI b;have HS:=ai HSt;clear hr ea hv HSt hI
   go_upto_region 6 with fail
   obtain⟨W1,hW1,b1,e1⟩:∃W1,W1=wr.alloc (.cells #[iV v.k,iV v.p,iV v.i,iV v.b,iV v.he,iV v.hn] 56)∧bZ wr W1∧W1.heap[wr.heap.size]? =some (.cells #[iV v.k,iV v.p,iV v.i,iV v.b,iV v.he,iV v.hn] 56 (0,0)):=⟨_,rfl,aC _ _,AP _ _⟩;rw[←hW1];obtain⟨v0,v1,v2,v3,v4,v5⟩:=ZP e1
   have HC:cA g #[.pointer (some ⟨R,0,none⟩),pk v] W1 fun e w'=>∃ch:Bool,e= .returned (.bool ch)∧Hid ((ch=true→I (k+1) w')∧(ch=false→J w')):=(aa HS W1 (aa HI W1 b1)).mono (by
    rintro e w' (⟨rfl,h1⟩|⟨rfl,h1⟩)
    ·exact⟨true,rfl,ai ⟨fun _=>h1,fun h=>(by cases h)⟩⟩
    ·exact⟨false,rfl,ai ⟨fun h=>(by cases h),fun _=>h1⟩⟩)
   clear hW1 b1 e1 x0 x1 x2 x3 x4 x5
   go_wp2_with (go_at_fn g;refine HC.mono ?_;rintro e W2 ⟨ch,rfl,HCh⟩;clear HC v0 v1 v2 v3 v4 v5)
   ·go_ret;exact .inr ⟨rfl,(aa HCh).2 (by cases ch<;>simp_all)⟩
   ·refine⟨⟨k+1,by omega,by go_num,(aa HCh).1 (by cases ch<;>simp_all)⟩,by simp[intOf];omega⟩
  ·obtain rfl:k=es.length:=by omega
   have HI:=ai hI;clear hI;go_wp2;go_ret;exact .inl ⟨rfl,aa HI⟩
abbrev MK:Array Value:= #[iV 0,iV 0,iV 0,.slice none 0 0,.slice none 0 0,iV 0,.bool false,.bool false,.bool false,.bool false,.bool false,.bool false,.bool false,.bool false,iV 0,.bool false,.bool false,.bool false,.bool false,.bool false,.bool false,.bool false,.bool false,iV 0,.bool false,.bool false,.bool false,.bool false,.bool false,.bool false,.bool false,.bool false,iV 0,.bool false,.bool false,.bool false,.bool false,.bool false,.bool false,.bool false,.bool false,iV 0,iV 0,iV 0,iV 0]
theorem acg:MK=(qq 0 0 0 (.slice none 0 0) (.slice none 0 0) eS 0 0 0 0 []).toArray:=rfl
theorem Wd{w W:tA}{T:tZ}(h:W=w.alloc (.cells MK T)):Tg W w.heap.size T [] St.zero An.zero∧bZ w W:=by
 subst h;refine⟨⟨none,0,none,0,eS, ?_,RowK.nil _ _ _,RowK.nil _ _ _,fun _=>rfl,fun _=>rfl,jP,fun x hx=>(by cases hx),fun x hx=>(by cases hx),Ac _,Ac _⟩,aC _ _⟩;unfold dW;rw[AP,acg];rfl
theorem We{ops:tP}{rest:List Oper}{o:Oper}{a:Act}{Q:tI}{w:tA}(d:Nat)(ho:o.op= .alloc 227)(hd:o.dst=some d)(hw:Region.wanted o (yielded ops a.tmps)=true)
  (h:∀w',Tg w' w.heap.size 227 [] St.zero An.zero→bZ w w'→wpList Tryz.prog ops Q rest (a.put (some d) (.pointer (some ⟨w.heap.size,0,none⟩))) w'):wpList Tryz.prog ops Q (o::rest) a w:=
 Bz fun K hK=>by
  rw[Ae hw];obtain⟨z1,z2⟩:=Wd (w:=w) (T:=227) rfl;have:=hK _ _ (h _ z1 z2);rw[←hd]at this;unfold Oper.wp;simp only[execOp,ho];simpa[go_sem]using this
theorem Sl{ops:tP}{rest:List Oper}{o:Oper}{a:Act}{Q:tI}{w:tA}{R:Nat}{T:tZ}{ep nx gv:Int}{r l:tK}{ws:tD}{c he no bd:Int}{tail:tM}(x:tU)(ho:o.op= .load 112 x)(hw:Region.wanted o (yielded ops a.tmps)=true)(hx:a.eval x= .pointer (some ⟨R,0,none⟩))(tb:dW w R T ep nx gv r l ws c he no bd tail)
  (h:wpList Tryz.prog ops Q rest (a.put o.dst (iH ep nx gv r l ws)) w):wpList Tryz.prog ops Q (o::rest) a w:=
 Bz fun K hK=>by
  rw[Ae hw];exact wp_load_mid 112 x ho R 0 hx (lW ep nx gv r l ws) _ tb.range Tryz.underlying112 rfl (by rw[ox];kernel_rfl) (hK _ _ h)
theorem zD{W:tA}{Z:Nat}{ep nx gv:Int}{r l:tK}{ws:tD}{er:Int}{tmps:tR}(q:aY W Z ep nx gv r l ws)(t2:tmps[2]? =some (.pointer (some ⟨Z,0,none⟩)))(t3:tmps[3]? =some (iV er)):
  (results Tryz.f149 tmps).run Tryz.prog W= .ok (.tuple #[iH ep nx gv r l ws,iV er]) W:=by
 have h1:=run_loadVar_row (P:=Tryz.prog) W Z 112 112 _ (0,0) _ q Tryz.underlying112 rfl (by rw[dg];exact Tryz.MD);simp[results,Tryz.results149,t2,t3,asAddr,h1]
theorem zE(w:tA):(Instr.build 112 #[]).run Tryz.prog w= .ok (iH 0 0 0 (.slice none 0 0) (.slice none 0 0) eS) w:=by
 simp[Instr.build,run_underlying Tryz.underlying112,Tryz.zeroValue112,go_sem];rfl
theorem zF{ops:tP}{rest:List Oper}{o:Oper}{a:Act}{Q:tI}{w:tA}(ho:o.op= .build 112 #[])(hw:Region.wanted o (yielded ops a.tmps)=true)
  (h:wpList Tryz.prog ops Q rest (a.put o.dst (iH 0 0 0 (.slice none 0 0) (.slice none 0 0) eS)) w):wpList Tryz.prog ops Q (o::rest) a w:=
 Bz fun K hK=>by
  rw[Ae hw];have sV:=zE w;have:=hK _ _ h;unfold Oper.wp;simp only[execOp,ho];simp only[List.map_toArray,List.map_nil];simp[sV,Result.andThen];exact this
structure Rp(w:tA)(Z R:Nat)(T:tZ)(tail:tM)(es:List Ev)(k:Nat)(W:tA):Prop where
 told:∃s bu an,bz (es.take k) s bu∧Tg W R T tail s an
 box:aY W Z 0 0 0 (.slice none 0 0) (.slice none 0 0) eS
 dp:bZ w W
 upZ:w.heap.size≤Z
 upR:Z<R
def ML(es:List Ev):Prop:=∃k s bu,∃hk:k<es.length,bz (es.take k) s bu∧(¬es[k].Ok∨∃s' an,Step s es[k] s' an false)
structure Rj(w:tA)(Z:Nat)(es:List Ev)(W:tA):Prop where
 stuck:ML es
 box:aY W Z 0 0 0 (.slice none 0 0) (.slice none 0 0) eS
 dp:bZ w W
theorem ZN.toBelow{R n:Nat}{w W W':tA}(o:ZN R n W W')(b:bZ w W)(hR:w.heap.size≤R)(hn:n=W.heap.size):bZ w W':=
 ⟨o.os.trans b.os,o.tape.trans b.tape,o.output.trans b.output,AN b.size o.size,fun k hk=>(o.block k (by have:=b.size;omega) (by omega)).trans (b.block k hk)⟩
theorem ZN.afi{R n Z:Nat}{W W':tA}{ep nx gv:Int}{r l:tK}{ws:tD}(o:ZN R n W W')(q:aY W Z ep nx gv r l ws)(hZ:Z≠R)(hn:n=W.heap.size):aY W' Z ep nx gv r l ws:=by
 have:=q.lt;unfold aY at q⊢;rw[o.block Z (by omega) hZ];exact q
theorem OH(w:tA)(Z R:Nat)(T:tZ)(es:List Ev):zC 174 (.pointer (some ⟨R,0,none⟩)) es (Rp w Z R T [] es) (Rj w Z es) where
 enters:=enters_of Tryz.func174 (by kernel_rfl) rfl
 step:=by
  intro k hk W hI;obtain⟨s,bu,an,ht,hg⟩:=hI.told;refine(Sk s an es[k] W R T [] ht.wf.ok hg (.inl rfl)).mono ?_;rintro e w' ⟨s',pY,ch,er,rfl,st,h1,h2,o⟩;have hZR:=hI.upR;have dp:=o.toBelow hI.dp (by have:=hI.upZ;omega) rfl;have box:=o.afi hI.box (by omega) rfl;cases st with
  | @step _ _ _ hv st=>
   cases ch with
   |true=>
    refine .inl ⟨rfl,⟨s',bu++[pY],pY, ?_,h1 rfl⟩,box,dp,hI.upZ,hI.upR⟩;rw[Bo hk];exact .snoc ht hv st
   |false=>exact .inr ⟨rfl,⟨k,s,bu,hk,ht,.inr ⟨s',pY,st⟩⟩,box,dp⟩
  |form _ hv h0=>exact .inr ⟨rfl,⟨k,s,bu,hk,ht,.inl (fun fw=>h0 (hv.symm.trans fw))⟩,box,dp⟩
 keep:=by
  intro k W W' hI b;obtain⟨s,bu,an,ht,hg⟩:=hI.told;exact⟨⟨s,bu,an,ht,hg.next b⟩,hI.box.next b,Below.next hI.dp b,hI.upZ,hI.upR⟩
inductive Rv(es:List Ev):St→Int→Prop
 |size (h:2000<es.length):Rv es St.zero 1
 |form (h:es.length≤2000) (bad:ML es):Rv es St.zero 3
 |told {s:St} (bu:List An) (h:es.length≤2000) (ht:bz es s bu):Rv es s 0
theorem EA(g R n:Nat)(a:tB)(cap:Nat)(w:tA)(hl:2000<n):
  cA 150 #[.slice a n cap,.func (.func g) #[.pointer (some ⟨R,0,none⟩)] #[]] w (rB (iV 1) w):=by
 go_enter Tryz.func150,Tryz.ntmps150;go_wp2;go_ret;exact⟨rfl,Bm _ _⟩
structure Rk(w:tA)(Z:Nat)(es:List Ev)(er:Int)(W:tA):Prop where
 why:¬er=0∧Rv es St.zero er
 box:aY W Z 0 0 0 (.slice none 0 0) (.slice none 0 0) eS
 dp:bZ w W
theorem sX(es:List Ev)(a:tB)(cap:Nat)(w:tA)(hr:RowK .i64 w a (6*es.length) (au es)):
  cA 149 #[.slice a es.length cap] w fun e w'=>∃x er s,e= .returned (.tuple #[x,iV er])∧Rv es s er∧v_ w w' s x∧bZ w w':=by
 go_enter Tryz.func149,Tryz.ntmps149
 go_upto_region 2 with(first
  |(refine uH 2 rfl rfl rfl ?_;intro W1 z1 b1)
  |(refine We 4 rfl rfl rfl ?_;intro W2 g2 b2))
 have zq:cA 150 #[.slice a es.length cap,.func (.func 174) #[.pointer (some ⟨W1.heap.size,0,none⟩)] #[]] W2 fun e w'=>∃er:Int,e= .returned (iV er)∧Hid ((er=0∧es.length≤2000∧Rp w w.heap.size W1.heap.size 227 [] es es.length w')∨Rk w w.heap.size es er w'):=by
  by_cases hl:es.length≤2000
  ·have I0:Rp w w.heap.size W1.heap.size 227 [] es 0 W2:=⟨⟨St.zero,[],An.zero,by simpa using bz.nil,g2⟩,z1.next b2,Below.next b1 b2,Nat.le_refl _,z1.lt⟩;refine(Il 174 W1.heap.size es _ _ (OH w w.heap.size W1.heap.size 227 es) a cap W2 I0 hl (fun k W hI=>hr.below hI.dp)).mono ?_;rintro e w' (⟨rfl,h1⟩|⟨rfl,h1⟩)
   ·exact⟨0,rfl,ai (.inl ⟨rfl,hl,h1⟩)⟩
   ·exact⟨3,rfl,ai (.inr ⟨⟨by decide,.form hl h1.stuck⟩,h1.box,h1.dp⟩)⟩
  ·refine(EA _ _ _ a cap W2 (by omega)).mono ?_;rintro e w' ⟨rfl,b3⟩;exact⟨1,rfl,ai (.inr ⟨⟨by decide,.size (by omega)⟩,(z1.next b2).next b3,Below.next (Below.next b1 b2) b3⟩)⟩
 clear z1 b1 g2 b2
 go_upto_region 3 with(go_at_call 150;refine zq.mono ?_;rintro e W3 ⟨er,rfl,HH⟩;clear zq)
 rcases aa HH with⟨rfl,hl,hI⟩|hJ
 ·obtain⟨s,bu,an,ht,hg⟩:=hI.told;rw[BC]at ht;obtain⟨a1,c1,a2,c2,ws,tb,r1,r2,n1,n2,hW,x1,x2,l1,l2⟩:=hg.ex;have z3:=hI.box;have B3:=hI.dp;have hZR:=hI.upR;have HT:=ai ht;clear hI hg ht HH
  go_wp2_with (first
   |(refine Sl _ rfl rfl rfl tb ?_)
   |(refine ph (ra:=a1) (la:=a2) (ws':=ws) _ _ rfl rfl rfl rfl z3 hW ?_;intro W4 q4 t4;have HQ4:=ai q4;have EB:=ai t4;clear q4 t4))
  have t4:=aa EB;exact Ao (zD (aa HQ4) rfl rfl) rfl ⟨_,0,s,rfl,.told bu hl (aa HT),⟨a1,c1,a2,c2,ws,rfl,t4.row r1 (fun x hx _=>by have:=x1 x hx;omega),t4.row r2 (fun x hx _=>by have:=x2 x hx;omega),l1,l2,n1,n2,hW,fun x hx=>by have:=x1 x hx;omega,fun x hx=>by have:=x2 x hx;omega⟩,t4.under B3 (Ac _)⟩
 ·have z3:=hJ.box;have B3:=hJ.dp;have h0:=hJ.why.1;have HS:=ai hJ.why.2;clear hJ HH
  go_wp2_with (first
   |(refine zF rfl rfl ?_)
   |(refine ph (ra:=none) (la:=none) (rn:=0) (rc:=0) (ln:=0) (lc:=0) (ws':=eS) _ _ rfl rfl rfl rfl z3 jP ?_;intro W4 q4 t4;have HQ4:=ai q4;have EB:=ai t4;clear q4 t4))
  have t4:=aa EB;exact Ao (zD (aa HQ4) rfl rfl) rfl ⟨_,er,St.zero,rfl,aa HS,⟨none,0,none,0,eS,rfl,RowK.nil _ _ _,RowK.nil _ _ _,Ac _,Ac _,fun _=>rfl,fun _=>rfl,jP,fun x hx=>(by cases hx),fun x hx=>(by cases hx)⟩,t4.under B3 (Ac _)⟩
theorem ZQ(es:List Ev)(a:tB)(cap:Nat)(w:tA)(hr:RowK .i64 w a (6*es.length) (au es))(hl:es.length≤2000)(fw:∀v∈es,v.Ok):
  cA 149 #[.slice a es.length cap] w fun e w'=>∃x er,e= .returned (.tuple #[x,iV er])∧bZ w w'∧
   ((er=0∧∃s bu,bz es s bu∧v_ w w' s x)∨(er=3∧(∃k s bu s' an,∃hk:k<es.length,bz (es.take k) s bu∧Step s es[k] s' an false)∧v_ w w' St.zero x)):=by
 refine(sX es a cap w hr).mono ?_;rintro e w' ⟨x,er,s,rfl,rv,q,b⟩;cases rv with
 |size h=>omega
 |form h bad=>
  obtain⟨k,s,bu,hk,ht,h1|⟨s',an,st⟩⟩:=bad
  ·exact absurd (fw _ (BE hk)) h1
  ·exact⟨x,3,rfl,b,.inr ⟨rfl,⟨k,s,bu,s',an,hk,ht,st⟩,q⟩⟩
 |told bu h ht=>exact⟨x,0,rfl,b,.inl ⟨rfl,s,bu,ht,q⟩⟩
theorem bz.MM{es:List Ev}{s:St}{bu:List An}(h:bz es s bu)(bad:ML es):False:=by
 obtain⟨k,s0,F5,hk,ht,h1⟩:=bad;obtain⟨s1,an1,st1,hv⟩:=h.step hk ht;rcases h1 with h1|⟨s',an,st⟩
 ·exact h1 hv
 ·have:=(st1.Wb ht.wf st).2.2;cases this
theorem Rv.one{es:List Ev}{s s':Go.Proofs.YtpgkjpomaffbmaaGreatDoor.St}{er er':Int}(h:Rv es s er)(h':Rv es s' er'):s=s'∧er=er':=by
 cases h with
 |size h=>cases h' with
  |size=>exact⟨rfl,rfl⟩
  |form h2=>omega
  |told _ h2=>omega
 |form h bad=>cases h' with
  |size h2=>omega
  |form=>exact⟨rfl,rfl⟩
  |told bu h2 ht=>exact(ht.MM bad).elim
 |told bu h ht=>cases h' with
  |size h2=>omega
  |form h2 bad=>exact(ht.MM bad).elim
  |told OG h2 Dv=>exact⟨(ht.one Dv).1,rfl⟩
theorem bz.len{es:List Ev}{s:St}{bu:List An}(h:bz es s bu):bu.length=es.length:=by
 induction h with
 |nil=>rfl
 |snoc h hv st ih=>simp[ih]
structure Bt where
 r:Int
 e:Int
 f:Int
 t:Int
 o:Int
 es:List Ev
def Bt.zero:Bt:=⟨0,0,0,0,0,[]⟩
def bg(r e f t o:Int)(n:Nat):Prop:=
 (r=0∧n=0∧0≤e∧e≤1048576∧f=0∧t=0∧o=0)∨
 (r=1∧1≤e∧e≤1048576∧f=0∧t=0∧o=0)∨
 (r=2∧1≤e∧e≤1048576∧f=0∧0≤t∧t≤4∧0≤o∧o≤4)∨
 (r=3∧1≤e∧e≤1048576∧f=0∧0≤t∧t≤4∧o=0)∨
 (r=4∧1≤e∧e≤1048576∧0≤f∧f≤4∧t=0∧o=0)
instance(r e f t o:Int)(n:Nat):Decidable (bg r e f t o n):=by unfold bg;infer_instance
def Bt.b_(B:Bt):Prop:=bg B.r B.e B.f B.t B.o B.es.length
structure Bt.Ok(B:Bt):Prop where
 cG:B.b_
 len:B.es.length≤2000
 told:∃s bu,bz B.es s bu
theorem Bt.dx:Bt.zero.Ok:=⟨.inl ⟨rfl,rfl,by decide,by decide,rfl,rfl,rfl⟩,by decide,St.zero,[],.nil⟩
theorem Rv.ok{B:Bt}{s:St}{er:Int}(h:Rv B.es s er)(hs:B.b_):er=0↔B.Ok:=by
 constructor
 ·intro h0;cases h with
  |size=>omega
  |form=>omega
  |told bu hl ht=>exact⟨hs,hl,s,bu,ht⟩
 ·intro ok;obtain⟨s',bu,ht⟩:=ok.told;exact(h.one (.told bu ok.len ht)).2
def Ev.brk:Ev:=⟨4,0,0,0,0,0⟩
theorem Ev.KQ:Ev.brk.Ok:=by
 unfold Ev.Ok Ev.brk aT;simp
open Classical in
noncomputable def fh(B:Bt)(ep:Int):Bt×Int:=
 if ¬B.Ok then(Bt.zero,6)else if ¬(1≤ep∧ep≤1048576)then(Bt.zero,2)else if ¬B.r=0 then(Bt.zero,8)else if ep≤B.e then(Bt.zero,15)else(⟨1,ep,0,0,0,[]⟩,0)
open Classical in
noncomputable def cW(B:Bt)(nd:Int):Bt×Int:=
 if ¬B.Ok then(Bt.zero,6)else if ¬(0≤nd∧nd≤4)then(Bt.zero,2)else if B.r=2∨B.r=3 then(Bt.zero,12)else if ¬B.r=1 then(Bt.zero,7)else if B.e=1048576 then(Bt.zero,14)else(⟨2,B.e,B.f,nd,B.o,B.es⟩,0)
open Classical in
noncomputable def dA(B:Bt)(hv:Int):Int:=
 if ¬B.Ok then 6 else if ¬(B.r=2∨B.r=3)then 7 else if ¬(0≤hv∧hv≤B.es.length)then 2 else 0
noncomputable def aL(B:Bt)(hv:Int):Bt×Int:=
 if ¬dA B hv=0 then(Bt.zero,dA B hv)else if B.r=3 then(B,0)else if hv=B.es.length∨B.o=4 then(⟨3,B.e,B.f,B.t,0,B.es⟩,0)else(⟨B.r,B.e,B.f,B.t,B.o+1,B.es⟩,0)
noncomputable def partOf(B:Bt)(hv:Int):List Ev×Bool×Int:=
 if ¬dA B hv=0 then([],false,dA B hv)else((B.es.drop hv.toNat).take 3,decide (B.r=3∧B.es.length≤hv.toNat+3),0)
open Classical in
noncomputable def aP(B:Bt)(ep fr:Int):Bt×Int:=
 if ¬B.Ok then(Bt.zero,6)else if ¬((1≤ep∧ep≤1048576)∧(0≤fr∧fr≤4))then(Bt.zero,2)else if B.r=1∨B.r=2∨B.r=3 then(Bt.zero,8)
 else if B.r=4∧B.e=ep∧B.f=fr then(B,0)else if ep≤B.e then(Bt.zero,15)else(⟨4,ep,fr,0,0,[]⟩,0)
open Classical in
noncomputable def bp(B:Bt)(ep:Int):Bt×Int:=
 if ¬B.Ok then(Bt.zero,6)else if ¬B.r=3 then(Bt.zero,7)else if ep≤B.e then(Bt.zero,15)else(⟨0,B.e,0,0,0,[]⟩,0)
def Bt.broken(B:Bt):Bt:=⟨1,B.e,0,0,0,B.es++[Ev.brk]⟩
def Bt.more(B:Bt)(l:List Ev):Bt:=⟨B.r,B.e,B.f,B.t,B.o,B.es++l⟩
open Classical in
noncomputable def aZ(B:Bt):Bt×Int:=
 if ¬B.Ok then(Bt.zero,6)else if ¬(B.r=1∨B.r=2)then(B,0)else if ¬B.broken.Ok then(Bt.zero,14)else(B.broken,0)
def Fits(hv sU:List Ev)(last:Bool):Prop:=sU.take hv.length=hv.take sU.length∧(last=true→hv.length≤sU.length)
open Classical in
noncomputable def a_(B:Bt)(ep at':Int)(l:List Ev)(last:Bool):Bt×Int:=
 if ¬B.Ok then(Bt.zero,6)else if ¬B.r=4 then(Bt.zero,7)else if ¬B.e=ep then(Bt.zero,15)else if ¬(0≤at'∧at'≤B.es.length)then(Bt.zero,2)
 else if ¬(l.length≤2000∧Fits (B.es.drop at'.toNat) l last)then(Bt.zero,3)
 else if ¬(if last then(B.more (l.drop (B.es.length-at'.toNat))).broken else B.more (l.drop (B.es.length-at'.toNat))).Ok then(Bt.zero,3)
 else(if last then(B.more (l.drop (B.es.length-at'.toNat))).broken else B.more (l.drop (B.es.length-at'.toNat)),0)
inductive cY(B:Bt)(v:Ev):Bt→An→Bool→Int→Prop
 |state (h:¬B.Ok):cY B v Bt.zero An.zero false 6
 |fault (h:B.Ok) (f:Int) (hf:aT v.k v.p v.i v.b v.he v.hn=f) (h0:¬f=0):cY B v Bt.zero An.zero false f
 |brk (h:B.Ok) (hv:v.Ok) (hk:v.k=4):cY B v Bt.zero An.zero false 3
 |shut (h:B.Ok) (hv:v.Ok) (hk:¬v.k=4) (hr:B.r=3):cY B v B ⟨12,0,0,0⟩ false 0
 |none (h:B.Ok) (hv:v.Ok) (hk:¬v.k=4) (hr:B.r=0∨B.r=4):cY B v B ⟨7,0,0,0⟩ false 0
 |same (h:B.Ok) (hv:v.Ok) (hk:¬v.k=4) (hr:B.r=1∨B.r=2) (s:St) (bu:List An) (ht:bz B.es s bu) (s':St) (an:An) (st:Step s v s' an false):cY B v B an false 0
 |full (h:B.Ok) (hv:v.Ok) (hk:¬v.k=4) (hr:B.r=1∨B.r=2) (s:St) (bu:List An) (ht:bz B.es s bu) (s':St) (an:An) (st:Step s v s' an true) (hl:1999≤B.es.length):cY B v B ⟨14,0,0,0⟩ false 0
 |done (h:B.Ok) (hv:v.Ok) (hk:¬v.k=4) (hr:B.r=1∨B.r=2) (s:St) (bu:List An) (ht:bz B.es s bu) (s':St) (an:An) (st:Step s v s' an true) (hl:B.es.length<1999):cY B v (B.more [v]) an true 0
abbrev dF(r e f t o:Int)(a:tB)(n c:Nat):Array Value:= #[iV r,iV e,iV f,iV t,iV o,.slice a n c]
abbrev cg(r e f t o:Int)(a:tB)(n c:Nat):Value:= .agg (dF r e f t o a n c)
def aG(w:tA)(R:Nat)(r e f t o:Int)(a:tB)(n c:Nat):Prop:=w.heap[R]? =some (.cells (dF r e f t o a n c) 43 (0,0))
section
variable{w w':tA}{R:Nat}{r e f t o:Int}{a:tB}{n c:Nat}
theorem aG.cells(h:aG w R r e f t o a n c):w.cell? ⟨R,0,none⟩=some (iV r)∧w.cell? ⟨R,1,none⟩=some (iV e)∧w.cell? ⟨R,2,none⟩=some (iV f)∧w.cell? ⟨R,3,none⟩=some (iV t)∧w.cell? ⟨R,4,none⟩=some (iV o)∧w.cell? ⟨R,5,none⟩=some (.slice a n c):=by
 unfold aG at h;simp[World.cell?,h]
theorem aG.lt(h:aG w R r e f t o a n c):R<w.heap.size:=by
 unfold aG at h;rcases AG R w.heap.size with h'|h'
 ·exact h'
 ·simp[Array.getElem?_eq_none h']at h
theorem aG.below{N:Nat}(h:aG w R r e f t o a n c)(hb:Below N w w')(hR:R<N):aG w' R r e f t o a n c:=by
 unfold aG at h⊢;rw[←h];exact hb.block R hR
theorem aG.next(h:aG w R r e f t o a n c)(hb:bZ w w'):aG w' R r e f t o a n c:=h.below hb h.lt
theorem aG.free(h:aG w R r e f t o a n c)(k:Nat):w.frozen? ⟨R,k,none⟩=false:=by
 unfold aG at h;simp[World.frozen?,h]
theorem aG.dR{R':Nat}(h:aG w R r e f t o a n c)(tn:aB R' w w')(hR:R≠R'):aG w' R r e f t o a n c:=by
 unfold aG at h⊢;rw[tn.block R hR];exact h
theorem aG.new(w:tA)(r e f t o:Int)(a:tB)(n c:Nat):aG (w.alloc (.cells (dF r e f t o a n c) 43)) w.heap.size r e f t o a n c:=AP w _
theorem cL{k:Nat}{cs:tR}{T:tZ}{v:tK}(h:w.heap[R]? =some (.cells cs T (0,0))):(w.setCell ⟨R,k,none⟩ v).heap[R]? =some (.cells (cs.set! k v) T (0,0)):=by
 rw[Ct w R k _ _ (0,0) _ h,setRow_heap w R _ _ _ _ h];rfl
abbrev Sm(w:tA)(R:Nat)(r e f t o:Int)(a:tB)(n c:Nat):World:=(((((w.setCell ⟨R,0,none⟩ (iV r)).setCell ⟨R,1,none⟩ (iV e)).setCell ⟨R,2,none⟩ (iV f)).setCell ⟨R,3,none⟩ (iV t)).setCell ⟨R,4,none⟩ (iV o)).setCell ⟨R,5,none⟩ (.slice a n c)
theorem aG.store(h:aG w R r e f t o a n c)(r' e' f' t' o':Int)(a':tB)(n' c':Nat):aG (Sm w R r' e' f' t' o' a' n' c') R r' e' f' t' o' a' n' c':=by
 unfold aG at h⊢;rw[cL (cL (cL (cL (cL (cL h)))))];simp
theorem aG.turn(w:tA)(R:Nat)(r e f t o:Int)(a:tB)(n c:Nat):aB R w (Sm w R r e f t o a n c):=
 (((((aB.set R 0 w _).trans (aB.set R 1 _ _)).trans (aB.set R 2 _ _)).trans (aB.set R 3 _ _)).trans (aB.set R 4 _ _)).trans (aB.set R 5 _ _)
end
structure jg(w:tA)(B:Bt)(a:tB)(c:Nat):Prop where
 row:RowK .i64 w a (6*B.es.length) (au B.es)
 cap:B.es.length≤c
 nil:a=none→c=0
theorem jg.next{w w':tA}{B:Bt}{a:tB}{c:Nat}(h:jg w B a c)(b:bZ w w'):jg w' B a c:=⟨h.row.below b,h.cap,h.nil⟩
structure iy(w w':tA)(B:Bt)(x:tK):Prop where
 ex:∃a c,x=cg B.r B.e B.f B.t B.o a B.es.length c∧jg w' B a c∧(∀x,a=some x→w.heap.size≤x.block)
theorem iy.zero(w w':tA):iy w w' Bt.zero (cg 0 0 0 0 0 none 0 0):=⟨none,0,rfl,⟨RowK.nil _ _ _,Ac _,fun _=>rfl⟩,fun x hx=>by cases hx⟩
theorem eD(x m:Int)(w:tA):cA 175 #[iV x,iV m] w fun e w'=>e= .returned (.bool (decide (0≤x∧x≤m)))∧w'=w:=by
 by_cases h1:0≤x
 ·by_cases h2:x≤m
  ·rw[As (show 0≤x∧x≤m from⟨h1,h2⟩)];go_enter Tryz.func175,Tryz.ntmps175;go_wp2;go_ret;exact⟨rfl,rfl⟩
  ·rw[Ak (show ¬(0≤x∧x≤m) from fun h=>h2 h.2)];go_enter Tryz.func175,Tryz.ntmps175;go_wp2;go_ret;exact⟨rfl,rfl⟩
 ·rw[Ak (show ¬(0≤x∧x≤m) from fun h=>h1 h.1)];go_enter Tryz.func175,Tryz.ntmps175;go_wp2;go_ret;exact⟨rfl,rfl⟩
theorem kP(x:Int)(w:tA):cA 144 #[iV x] w fun e w'=>e= .returned (.bool (decide (1≤x∧x≤1048576)))∧w'=w:=by
 by_cases h1:1≤x
 ·by_cases h2:x≤1048576
  ·rw[As (show 1≤x∧x≤1048576 from⟨h1,h2⟩)];go_enter Tryz.func144,Tryz.ntmps144;go_wp2;go_ret;exact⟨rfl,rfl⟩
  ·rw[Ak (show ¬(1≤x∧x≤1048576) from fun h=>h2 h.2)];go_enter Tryz.func144,Tryz.ntmps144;go_wp2;go_ret;exact⟨rfl,rfl⟩
 ·rw[Ak (show ¬(1≤x∧x≤1048576) from fun h=>h1 h.1)];go_enter Tryz.func144,Tryz.ntmps144;go_wp2;go_ret;exact⟨rfl,rfl⟩
theorem gI(x:Int)(w:tA):cA 152 #[iV x] w fun e w'=>e= .returned (.bool (decide (0≤x∧x≤4)))∧w'=w:=by
 go_enter Tryz.func152,Tryz.ntmps152
 go_wp2_with (go_at_call 175;refine(eD _ _ _).mono ?_;rintro e w1 ⟨rfl,rfl⟩)
 go_ret;exact⟨by simp,rfl⟩
section
variable(r e f t o:Int)(a:tB)(n c:Nat)(w:tA)
theorem mL:cA 168 #[cg r e f t o a n c] w (rB (.bool (decide (r=1∨r=2))) w):=by
 by_cases h1:r=1
 ·subst h1;go_enter Tryz.func168,Tryz.ntmps168;go_wp2;go_ret;exact⟨by simp,aC _ _⟩
 ·by_cases h2:r=2
  ·subst h2;go_enter Tryz.func168,Tryz.ntmps168;go_wp2;go_ret;exact⟨by simp,aC _ _⟩
  ·rw[Ak (show ¬(r=1∨r=2) by omega)];go_enter Tryz.func168,Tryz.ntmps168;go_wp2;go_ret;exact⟨by simp[h1,h2],aC _ _⟩
theorem l8:cA 153 #[cg r e f t o a n c] w (rB (.bool (decide (r=2∨r=3))) w):=by
 by_cases h1:r=2
 ·subst h1;go_enter Tryz.func153,Tryz.ntmps153;go_wp2;go_ret;exact⟨by simp,aC _ _⟩
 ·by_cases h2:r=3
  ·subst h2;go_enter Tryz.func153,Tryz.ntmps153;go_wp2;go_ret;exact⟨by simp,aC _ _⟩
  ·rw[Ak (show ¬(r=2∨r=3) by omega)];go_enter Tryz.func153,Tryz.ntmps153;go_wp2;go_ret;exact⟨by simp[h1,h2],aC _ _⟩
end
theorem dP{w wx:tA}{R N:Nat}{r e f t o:Int}{a:tB}{n c:Nat}(h:aG wx R r e f t o a n c)(dp:Below N w wx)(hN:N≤R)(r' e' f' t' o':Int)(a':tB)(n' c':Nat):
  ∃W,W=(((((wx.setCell ⟨R,0,none⟩ (iV r')).setCell ⟨R,1,none⟩ (iV e')).setCell ⟨R,2,none⟩ (iV f')).setCell ⟨R,3,none⟩ (iV t')).setCell ⟨R,4,none⟩ (iV o')).setCell ⟨R,5,none⟩ (.slice a' n' c')∧aG W R r' e' f' t' o' a' n' c'∧Below N w W∧aB R wx W:=
 ⟨_,rfl,h.store _ _ _ _ _ _ _ _,(aG.turn _ _ _ _ _ _ _ _ _ _).under dp hN,aG.turn _ _ _ _ _ _ _ _ _ _⟩
theorem eE{W:tA}{R:Nat}{r e f t o:Int}{a:tB}{n c:Nat}(d:aG W R r e f t o a n c):(loadVar 43 ⟨R,0,none⟩).run Tryz.prog W= .ok (cg r e f t o a n c) W:=
 run_loadVar_row (P:=Tryz.prog) W R 43 43 _ (0,0) _ d Tryz.underlying43 rfl (by kernel_rfl)
theorem KR{W:tA}{R:Nat}{r e f t o:Int}{a:tB}{n c:Nat}{er:Int}{tmps:tR}(d:aG W R r e f t o a n c)(t2:tmps[2]? =some (.pointer (some ⟨R,0,none⟩)))(t3:tmps[3]? =some (iV er)):
  (results Tryz.f143 tmps).run Tryz.prog W= .ok (.tuple #[cg r e f t o a n c,iV er]) W:=by
 simp[results,Tryz.results143,t2,t3,asAddr,eE d]
theorem mM(er:Int)(w:tA):cA 143 #[iV er] w (rB (.tuple #[cg 0 0 0 0 0 none 0 0,iV er]) w):=by
 go_enter Tryz.func143,Tryz.ntmps143
 go_upto_region 1 with fail
 obtain⟨W,hW,z,b⟩:∃W,W=w.alloc (.cells (dF 0 0 0 0 0 none 0 0) 43)∧aG W w.heap.size 0 0 0 0 0 none 0 0∧bZ w W:=⟨_,rfl,aG.new _ _ _ _ _ _ _ _ _,aC _ _⟩;rw[←hW];clear hW;obtain⟨x0,x1,x2,x3,x4,x5⟩:=z.cells;have zf:=z.free;have HZ:=ai z;have HB:=ai b;clear z b;go_wp2;obtain⟨W2,hW2,d2,b2,_⟩:=dP (aa HZ) (aa HB) (Ac _) 0 0 0 0 0 none 0 0;rw[←hW2];exact Ao (KR d2 rfl rfl) rfl ⟨rfl,b2⟩
theorem zG(a b:tB)(la ca lb cb:Nat)(A B:tG)(w:tA)(hA:RowK .i64 w a (6*la) A)(hB:RowK .i64 w b (6*lb) B)(nA:a=none→ca=0)(nB:b=none→cb=0)(hs:la+lb≤1000000):
  cA 176 #[.slice a la ca,.slice b lb cb] w fun e w'=>∃a' c',e= .returned (.slice a' (la+lb:Nat) c')∧RowK .i64 w' a' (6*(la+lb)) (A++B)∧la+lb≤c'∧(a'=none→c'=0)∧(∀x,a'=some x→w.heap.size≤x.block)∧bZ w w':=by
 obtain⟨i6,hi6,hz60,hz61,hz62⟩:=iw Tryz.mq;have hw:IntKind.i64.wrap ((la:Int)+(lb:Int))=((la+lb:Nat):Int):=by rw[IntKind.wrap_i64];omega
 have xu:∀u∈A++B,(Lit.int .i64 u).wf=true:=fun u hu=>by
  rcases Ah.1 hu with h|h
  ·exact hA.wf u h
  ·exact hB.wf u h
 have HA:Hid (∀w',bZ w w'→RowK .i64 w' a (6*la) A):=ai fun w' b=>hA.below b;have HB:Hid (∀w',bZ w w'→RowK .i64 w' b (6*lb) B):=ai fun w' b=>hB.below b;clear hA hB;go_enter Tryz.func176,Tryz.ntmps176
 go_wp2_with (first
  |(refine wpList_make_own _ rfl _ _ 41 rfl w.heap.size 56 i6 _ 6 Tryz.underlying41 hi6 hz60 hz61 .i64 .i64 _ (la+lb) rfl rfl (by first|rfl|omega) (by rw[hz62];omega) (by unfold maxLen;omega) (Ac _) ?_;intro W1 o1 g1;have b1:=(Bm w.heap.size w).grown g1 (by omega) (fun q hq=>by cases hq))
  |(at_builtin;refine du rfl _ _ 41 rfl w.heap.size 56 i6 _ 6 48 Tryz.underlying41 hi6 hz60 hz61 hz62 rfl (by decide) (.slice (some ⟨w.heap.size,0,none⟩) 0 (la+lb)) 0 [] rfl o1 a la ca A rfl (aa HA _ b1) nA (by unfold maxLen;omega) (by omega) (by have:=b1.size;omega) ?_;intro v2 W2 o2 g2;simp only[Nat.zero_add,List.nil_append]at o2;have b2:=b1.grown g2 b1.size (fun q hq=>(o1.lt q hq).1);clear o1 g1 g2 b1)
  |(at_builtin;refine du rfl _ _ 41 rfl w.heap.size 56 i6 _ 6 48 Tryz.underlying41 hi6 hz60 hz61 hz62 rfl (by decide) v2 la A rfl o2 b lb cb B rfl (aa HB _ b2) nB (by unfold maxLen;omega) (by omega) (by have:=b2.size;omega) ?_;intro v3 W3 o3 g3;have b3:=b2.grown g3 b2.size (fun q hq=>(o2.lt q hq).1);obtain⟨a',c',rfl,r3,hc,_,n3,u3⟩:=RowK.eK o3 xu;clear o2 g3 b2))
 go_ret;exact⟨a',c',rfl,r3,hc,n3,u3,b3⟩
def mF(r e f t o:Int)(ev:tK)(q:tD):Nat→Value
 |0=>iV r
 |1=>iV e
 |2=>iV f
 |3=>iV t
 |4=>iV o
 |5=>ev
 |j+6=>q j
theorem eF{r e f t o:Int}{a:tB}{n c:Nat}{q:tD}(h:aW q 41):aW (mF r e f t o (.slice a n c) q) 47:=fun i hi=>by
 match i,hi with
 |0,_=>rfl
 |1,_=>rfl
 |2,_=>rfl
 |3,_=>rfl
 |4,_=>rfl
 |5,_=>rfl
 |j+6,hj=>exact h j (by omega)
abbrev jG(r e f t o:Int)(a:tB)(n c:Nat)(q:tD):Value:=vF (mF r e f t o (.slice a n c) q) 47
def jR(w:tA)(R:Nat)(r e f t o:Int)(a:tB)(n c:Nat)(q:tD):Prop:=bh w R 114 47 (mF r e f t o (.slice a n c) q)
theorem Tryz.Sn:(Tryz.prog.info? 114).map (·.size)=some 47:=by kernel_rfl
theorem Tryz.Sp:(Tryz.prog.info? 114).map (·.zero)=some (some (jG 0 0 0 0 0 none 0 0 zQ)):=by kernel_rfl
theorem Tryz.F6:(Tryz.prog.info? 43).map (·.size)=some 6:=by kernel_rfl
theorem MN(r e f t o:Int)(a:tB)(n c:Nat)(q:tD):cg r e f t o a n c=vF (mF r e f t o (.slice a n c) q) 6:=rfl
section
variable{w w':tA}{R:Nat}{r e f t o:Int}{a:tB}{n c:Nat}{q:tD}
theorem jR.lt(h:jR w R r e f t o a n c q):R<w.heap.size:=bh.lt h
theorem jR.next(h:jR w R r e f t o a n c q)(hb:bZ w w'):jR w' R r e f t o a n c q:=bh.next h hb
theorem jR.cells(h:jR w R r e f t o a n c q):w.cell? ⟨R,0,none⟩=some (iV r)∧w.cell? ⟨R,1,none⟩=some (iV e)∧w.cell? ⟨R,2,none⟩=some (iV f)∧w.cell? ⟨R,3,none⟩=some (iV t)∧w.cell? ⟨R,4,none⟩=some (iV o)∧w.cell? ⟨R,5,none⟩=some (.slice a n c):=
 ⟨bh.at h 0 (by decide),bh.at h 1 (by decide),bh.at h 2 (by decide),bh.at h 3 (by decide),bh.at h 4 (by decide),bh.at h 5 (by decide)⟩
variable{ops:tP}{rest:List Oper}{op:Oper}{ac:Act}{Q:tI}
theorem MO(x:tU)(ho:op.op= .load 43 x)(hw:Region.wanted op (yielded ops ac.tmps)=true)(hx:ac.eval x= .pointer (some ⟨R,0,none⟩))(mb:jR w R r e f t o a n c q)
  (h:wpList Tryz.prog ops Q rest (ac.put op.dst (cg r e f t o a n c)) w):wpList Tryz.prog ops Q (op::rest) ac w:=
 He 43 _ 0 6 _ x ho hw hx mb (by decide) Tryz.underlying43 rfl Tryz.F6 (fun i _=>by rw[Aj]) (by rw[←MN];exact h)
theorem MP{r' e' f' t' o':Int}{a':tB}{n' c':Nat}{q':tD}(x y:tU)(ho:op.op= .store 114 x y)(hw:Region.wanted op (yielded ops ac.tmps)=true)(hx:ac.eval x= .pointer (some ⟨R,0,none⟩))(hy:ac.eval y=jG r' e' f' t' o' a' n' c' q')(mb:jR w R r e f t o a n c q)(h1:aW q' 41)
  (h:∀w',jR w' R r' e' f' t' o' a' n' c' q'→aB R w w'→wpList Tryz.prog ops Q rest (ac.put op.dst undef) w'):wpList Tryz.prog ops Q (op::rest) ac w:=
 Eb 114 0 47 _ x y ho hw hx hy mb (Ac _) Tryz.Sn (eF h1) (fun w' fb tn=>h w' (bh.congr fb fun i hi=>by rw[gh,Ae ⟨Al _,by omega⟩,Nat.sub_zero]) tn)
theorem EC(x:tU)(ho:op.op= .box 114 x)(hw:Region.wanted op (yielded ops ac.tmps)=true)(hx:ac.eval x=jG r e f t o a n c q)
  (h:∀w',jR w' w.heap.size r e f t o a n c q→bZ w w'→w'.heap.size=w.heap.size+1→wpList Tryz.prog ops Q rest (ac.put op.dst (.pointer (some ⟨w.heap.size,0,none⟩))) w'):wpList Tryz.prog ops Q (op::rest) ac w:=
 Q3 114 47 _ x ho hw hx h
theorem MQ(ho:op.op= .alloc 114)(hw:Region.wanted op (yielded ops ac.tmps)=true)
  (h:∀w',jR w' w.heap.size 0 0 0 0 0 none 0 0 zQ→bZ w w'→w'.heap.size=w.heap.size+1→wpList Tryz.prog ops Q rest (ac.put op.dst (.pointer (some ⟨w.heap.size,0,none⟩))) w'):wpList Tryz.prog ops Q (op::rest) ac w:=
 Hh 114 47 _ ho hw Tryz.Sp h
theorem OI(d:jR w R r e f t o a n c q):(loadVar 114 ⟨R,0,none⟩).run Tryz.prog w= .ok (jG r e f t o a n c q) w:=
 run_loadVar_mid (P:=Tryz.prog) w R 0 114 _ _ (bh.range d 0 47 (Ac _)) Tryz.underlying114 rfl (by rw[bR];exact Tryz.Sn)
end
theorem Im{P:tY}{t:tZ}{n:Nat}(h:(P.info? t).map (·.size)=some n)(w:tA):(sizeOf t).run P w= .ok n w:=by
 cases hq:P.info? t with
 |none=>simp[hq]at h
 |some i=>
  have hs:i.size=n:=by simpa[hq]using h
  simp[sizeOf,typeInfo,Sem.run_bind,hq,hs]
theorem Tryz.Sq:∀fs,Tryz.prog.underlying 114=some (.struct fs)→∀w,Sem.run Tryz.prog (Array.mapM (m:=Sem) (fun(f:Go.Field)=>do let s←sizeOf f.type;pure (f.offset,s)) fs) w= .ok #[(0,6),(6,41)] w:=by
 intro fs h w;rw[Tryz.underlying114]at h;cases h;simp[Im Tryz.F6,Im Tryz.MD,go_sem]
theorem Wg(w:tA):(Instr.build 114 #[]).run Tryz.prog w= .ok (jG 0 0 0 0 0 none 0 0 zQ) w:=
 run_build Tryz.Sp Tryz.underlying114 (Tryz.Sq _ Tryz.underlying114) rfl w
theorem MR{W:tA}{R i j:Nat}{r e f t o:Int}{a:tB}{n c:Nat}{q:tD}{v:tK}{tmps:tR}(d:jR W R r e f t o a n c q)(Sr:Func)(hf:Sr.results= #[.cell i 114,.tmp j])(t1:tmps[i]? =some (.pointer (some ⟨R,0,none⟩)))(t2:tmps[j]? =some v):
  (results Sr tmps).run Tryz.prog W= .ok (.tuple #[jG r e f t o a n c q,v]) W:=by
 simp[results,hf,t1,t2,asAddr,OI d]
theorem jx(er:Int)(w:tA):cA 136 #[iV er] w (rB (.tuple #[jG 0 0 0 0 0 none 0 0 zQ,iV er]) w):=by
 go_enter Tryz.func136,Tryz.ntmps136
 go_wp2_with (first
  |(refine MQ rfl rfl ?_;intro W1 m1 b1 s1)
  |(refine Q5 _ _ _ rfl rfl rfl (Wg _) ?_)
  |(refine MP _ _ rfl rfl rfl rfl m1 zz ?_;intro W2 m2 t2;have b2:=t2.under b1 (Ac _);clear m1 b1 t2 s1))
 exact Ao (MR m2 _ rfl rfl rfl) rfl ⟨rfl,b2⟩
section
variable(r e f t o:Int)(a:tB)(n c:Nat)(q:tD)(w:tA)
theorem kQ:cA 90 #[jG r e f t o a n c q] w (rB (.bool (decide (r=1∨r=2))) w):=by
 by_cases h1:r=1
 ·subst h1;go_enter Tryz.func90,Tryz.ntmps90
  go_wp2_with (refine EC _ rfl rfl rfl ?_;intro W1 m1 b1 s1;obtain⟨x0,x1,x2,x3,x4,x5⟩:=m1.cells;clear m1 s1)
  go_ret;exact⟨by simp,b1⟩
 ·by_cases h2:r=2
  ·subst h2;go_enter Tryz.func90,Tryz.ntmps90
   go_wp2_with (refine EC _ rfl rfl rfl ?_;intro W1 m1 b1 s1;obtain⟨x0,x1,x2,x3,x4,x5⟩:=m1.cells;clear m1 s1)
   go_ret;exact⟨by simp,b1⟩
  ·rw[Ak (show ¬(r=1∨r=2) by omega)];go_enter Tryz.func90,Tryz.ntmps90
   go_wp2_with (refine EC _ rfl rfl rfl ?_;intro W1 m1 b1 s1;obtain⟨x0,x1,x2,x3,x4,x5⟩:=m1.cells;clear m1 s1)
   go_ret;exact⟨by simp[h1,h2],b1⟩
end
section
variable{P:tY}{ops:tP}{rest:List Oper}{op:Oper}{ac:Act}{Q:tI}{w w':tA}{R T n:Nat}{f:tD}
theorem wg(w:tA)(b o:Nat)(ty:tZ)(v:tK)(hv:v.cells= #[v])(ht:w.there b o 1)(hi:(P.info? ty).map (·.size)=some 1)(h1:v.oneCell'=true):
  (storeVar ty ⟨b,o,none⟩ v).run P w= .ok () (w.setCell ⟨b,o,none⟩ v):=by
 have:=run_storeCells_cells (P:=P) b o [v] 0 w (fun j hj=>by simpa using(ht j (by simpa using hj)).1) (fun j hj=>by simpa using(ht j (by simpa using hj)).2)
  (fun x hx=>by simp at hx;subst hx;exact h1)
 cases hq:P.info? ty with
 |none=>simp[hq]at hi
 |some i=>
  have hs:i.size=1:=by simpa[hq]using hi
  simp only[Nat.add_zero]at this;simp[storeVar,sizeOf,typeInfo,hq,hv,hs,this];rfl
theorem OJ(t:tZ)(k:Nat)(v:tK)(x y:tU)(ho:op.op= .store t x y)(hw:Region.wanted op (yielded ops ac.tmps)=true)(hx:ac.eval x= .pointer (some ⟨R,k,none⟩))(hy:ac.eval y=v)(hv:v.cells= #[v])(h1:v.oneCell'=true)(fb:bh w R T n f)(hk:k<n)
  (hi:(P.info? t).map (·.size)=some 1)
  (h:∀w',bh w' R T n (oX f k v)→aB R w w'→wpList P ops Q rest (ac.put op.dst undef) w'):wpList P ops Q (op::rest) ac w:=
 Bz fun K hK=>by
  rw[Ae hw];have:=hK _ _ (h _ (fb.set k v hk) (aB.set R k w v));unfold Oper.wp execOp;simp only[ho,hx,hy,Instr.storeAt,Instr.sureAddr,Sem.run_bind,Sem.run_pure,Result.andThen_ok,wg w R k t v hv (fb.there k 1 (by omega)) hi h1];exact this
end
theorem Tryz.ZR:(Tryz.prog.info? 41).map (·.size)=some 1:=by kernel_rfl
theorem Tryz.ZS:(Tryz.prog.info? 43).map (·.zero)=some (some (cg 0 0 0 0 0 none 0 0)):=by kernel_rfl
theorem oz(w:tA)(R:Nat)(r e f t o:Int)(a:tB)(n c:Nat):aG w R r e f t o a n c=bh w R 43 6 (mF r e f t o (.slice a n c) zQ):=rfl
section
variable{w w':tA}{R:Nat}{r e f t o:Int}{a:tB}{n c:Nat}{q:tD}
variable{ops:tP}{rest:List Oper}{op:Oper}{ac:Act}{Q:tI}
theorem MS(x:tU)(ho:op.op= .load 43 x)(hw:Region.wanted op (yielded ops ac.tmps)=true)(hx:ac.eval x= .pointer (some ⟨R,0,none⟩))(bb:aG w R r e f t o a n c)
  (h:wpList Tryz.prog ops Q rest (ac.put op.dst (cg r e f t o a n c)) w):wpList Tryz.prog ops Q (op::rest) ac w:=by
 rw[oz]at bb;exact He 43 _ 0 6 _ x ho hw hx bb (Ac _) Tryz.underlying43 rfl Tryz.F6 (fun i _=>by rw[Aj]) (by rw[←MN];exact h)
theorem yw{r' e' f' t' o':Int}{a':tB}{n' c':Nat}(x y:tU)(ho:op.op= .store 43 x y)(hw:Region.wanted op (yielded ops ac.tmps)=true)(hx:ac.eval x= .pointer (some ⟨R,0,none⟩))(hy:ac.eval y=cg r' e' f' t' o' a' n' c')(bb:aG w R r e f t o a n c)
  (h:∀w',aG w' R r' e' f' t' o' a' n' c'→aB R w w'→wpList Tryz.prog ops Q rest (ac.put op.dst undef) w'):wpList Tryz.prog ops Q (op::rest) ac w:=by
 rw[oz]at bb;refine Eb 43 0 6 (mF r' e' f' t' o' (.slice a' n' c') zQ) x y ho hw hx hy bb (Ac _) Tryz.F6 (fun i hi=> ?_) (fun w' fb tn=>h w' ?_ tn)
 ·match i,hi with
  |0,_=>rfl
  |1,_=>rfl
  |2,_=>rfl
  |3,_=>rfl
  |4,_=>rfl
  |5,_=>rfl
 ·rw[oz];exact bh.congr fb fun i hi=>by rw[gh,Ae ⟨Al _,by omega⟩,Nat.sub_zero]
theorem YL(x:tU)(ho:op.op= .box 43 x)(hw:Region.wanted op (yielded ops ac.tmps)=true)(hx:ac.eval x=cg r e f t o a n c)
  (h:∀w',aG w' w.heap.size r e f t o a n c→bZ w w'→w'.heap.size=w.heap.size+1→wpList Tryz.prog ops Q rest (ac.put op.dst (.pointer (some ⟨w.heap.size,0,none⟩))) w'):wpList Tryz.prog ops Q (op::rest) ac w:=
 Q3 43 6 (mF r e f t o (.slice a n c) zQ) x ho hw hx h
theorem yx(ho:op.op= .alloc 43)(hw:Region.wanted op (yielded ops ac.tmps)=true)
  (h:∀w',aG w' w.heap.size 0 0 0 0 0 none 0 0→bZ w w'→w'.heap.size=w.heap.size+1→wpList Tryz.prog ops Q rest (ac.put op.dst (.pointer (some ⟨w.heap.size,0,none⟩))) w'):wpList Tryz.prog ops Q (op::rest) ac w:=
 Hh 43 6 (mF 0 0 0 0 0 (.slice none 0 0) zQ) ho hw Tryz.ZS h
theorem mF5(r e f t o:Int)(a:tB)(n c:Nat)(a':tB)(n' c':Nat)(q:tD)(i:Nat):oX (mF r e f t o (.slice a n c) q) 5 (.slice a' n' c') i=mF r e f t o (.slice a' n' c') q i:=by
 by_cases hi:i=5
 ·subst hi;rfl
 ·rw[qh _ _ _ _ hi]
  match i,hi with
  |0,_=>rfl
  |1,_=>rfl
  |2,_=>rfl
  |3,_=>rfl
  |4,_=>rfl
  |j+6,_=>rfl
theorem Io{a':tB}{n' c':Nat}(x y:tU)(ho:op.op= .store 41 x y)(hw:Region.wanted op (yielded ops ac.tmps)=true)(hx:ac.eval x= .pointer (some ⟨R,5,none⟩))(hy:ac.eval y= .slice a' n' c')(bb:aG w R r e f t o a n c)
  (h:∀w',aG w' R r e f t o a' n' c'→aB R w w'→wpList Tryz.prog ops Q rest (ac.put op.dst undef) w'):wpList Tryz.prog ops Q (op::rest) ac w:=by
 rw[oz]at bb;refine OJ 41 5 (.slice a' n' c') x y ho hw hx hy rfl rfl bb (by decide) Tryz.ZR (fun w' fb tn=>h w' ?_ tn);rw[oz];exact bh.congr fb fun i _=>mF5 _ _ _ _ _ _ _ _ _ _ _ _ i
end
theorem KS{W:tA}{R i:Nat}{r e f t o:Int}{a:tB}{n c:Nat}{tmps:tR}(d:aG W R r e f t o a n c)(Sr:Func)(hf:Sr.results= #[.cell i 43])(t1:tmps[i]? =some (.pointer (some ⟨R,0,none⟩))):
  (results Sr tmps).run Tryz.prog W= .ok (cg r e f t o a n c) W:=by
 simp[results,hf,t1,asAddr,eE d]
section
variable(r e f t o:Int)(a:tB)(n c:Nat)(q:tD)(w:tA)
theorem kR:cA 112 #[jG r e f t o a n c q] w (rB (cg r e f t o none 0 0) w):=by
 go_enter Tryz.func112,Tryz.ntmps112
 go_wp2_with (first
  |(refine EC _ rfl rfl rfl ?_;intro W1 m1 b1 _s1;have L1:=m1.lt;clear _s1)
  |(refine yx rfl rfl ?_;intro W2 z2 b2 _s2;have m2:=m1.next b2;have L2:=z2.lt;have B2:=b1.trans (b2.mono (by omega));clear m1 b1 b2 _s2)
  |(refine MO _ rfl rfl rfl m2 ?_;clear m2)
  |(refine yx rfl rfl ?_;intro W3 d3 b3 _s3;have z3:=z2.next b3;have L3:=d3.lt;have B3:=B2.trans (b3.mono (by omega));clear z2 B2 b3 _s3)
  |(refine yw _ _ rfl rfl rfl rfl d3 ?_;intro W4 d4 t4;have z4:=z3.dR t4 (by omega);have B4:=t4.under B3 (by omega);clear d3 z3 B3 t4)
  |(refine Io _ _ rfl rfl rfl rfl d4 ?_;intro W5 d5 t5;have z5:=z4.dR t5 (by omega);have B5:=t5.under B4 (by omega);clear d4 z4 B4 t5)
  |(refine MS _ rfl rfl rfl d5 ?_)
  |(refine yw _ _ rfl rfl rfl rfl z5 ?_;intro W6 z6 t6;have B6:=t6.under B5 (by omega);clear d5 z5 B5 t6))
 exact Ao (KS z6 _ rfl rfl) rfl ⟨rfl,B6⟩
end
section
variable(r e f t o:Int)(a:tB)(n c:Nat)(q:tD)(A:tG)(w:tA)
structure aci(w w':tA)(r e f t o:Int)(n:Nat)(A:tG)(x:tK):Prop where
 ex:∃a c,x=cg r e f t o a n c∧RowK .i64 w' a (6*n) A∧n≤c∧(a=none→c=0)∧(∀y,a=some y→w.heap.size≤y.block)
theorem MT(hA:RowK .i64 w a (6*n) A)(hn:a=none→c=0)(hs:n≤1000000):cA 128 #[cg r e f t o a n c] w fun x w'=>∃v,x= .returned v∧aci w w' r e f t o n A v∧bZ w w':=by
 have HA:Hid (∀w',bZ w w'→RowK .i64 w' a (6*n) A):=ai fun w' b=>hA.below b;clear hA;go_enter Tryz.func128,Tryz.ntmps128
 go_wp2_with (first
  |(refine YL _ rfl rfl rfl ?_;intro W1 d1 b1 _s1;have L1:=d1.lt;clear _s1)
  |(refine yx rfl rfl ?_;intro W2 z2 b2 _s2;have d2:=d1.next b2;have L2:=z2.lt;have B2:=b1.trans (b2.mono (by omega));obtain⟨x0,x1,x2,x3,x4,x5⟩:=d2.cells;clear d1 b1 b2 _s2 x0 x1 x2 x3 x4)
  |(go_at_call 160;refine(Ez a n c A W2 (aa HA _ B2) hn hs).mono ?_;rintro x W3 ⟨v3,rfl,o3,b3⟩;obtain⟨a',c',rfl,r3,h1,h2,h3⟩:=o3.ex;have RR:=ai (And.intro r3 (And.intro h1 (And.intro h2 h3)));have d3:=d2.next b3;have z3:=z2.next b3;have B3:=B2.trans (b3.mono (by omega));clear x5 d2 z2 B2 b3 o3 r3 h1 h2 h3)
  |(refine Io _ _ rfl rfl rfl rfl d3 ?_;intro W4 d4 t4;have z4:=z3.dR t4 (by omega);have B4:=t4.under B3 (by omega);have R4:=ai (t4.row (aa RR).1 (fun y hy _=>by have:=(aa RR).2.2.2 y hy;omega));clear d3 z3 B3 t4)
  |(refine MS _ rfl rfl rfl d4 ?_)
  |(refine yw _ _ rfl rfl rfl rfl z4 ?_;intro W5 z5 t5;have B5:=t5.under B4 (by omega);have R5:=ai (t5.row (aa R4) (fun y hy _=>by have:=(aa RR).2.2.2 y hy;omega));clear d4 z4 B4 t5 R4))
 exact Ao (KS z5 _ rfl rfl) rfl ⟨_,rfl,⟨a',c',rfl,aa R5,(aa RR).2.1,(aa RR).2.2.1,fun y hy=>by have:=(aa RR).2.2.2 y hy;omega⟩,B5⟩
theorem KT(hA:RowK .i64 w a (6*n) A)(hn:a=none→c=0)(hs:n≤1000000):cA 85 #[jG r e f t o a n c q] w fun x w'=>∃v,x= .returned v∧aci w w' r e f t o n A v∧bZ w w':=by
 have HA:Hid (∀w',bZ w w'→RowK .i64 w' a (6*n) A):=ai fun w' b=>hA.below b;clear hA;go_enter Tryz.func85,Tryz.ntmps85
 go_wp2_with (first
  |(refine EC _ rfl rfl rfl ?_;intro W1 m1 b1 _s1;have L1:=m1.lt;clear _s1)
  |(refine yx rfl rfl ?_;intro W2 z2 b2 _s2;have m2:=m1.next b2;have L2:=z2.lt;have B2:=b1.trans (b2.mono (by omega));clear m1 b1 b2 _s2)
  |(refine MO _ rfl rfl rfl m2 ?_;clear m2)
  |(go_at_call 128;refine(MT r e f t o a n c A W2 (aa HA _ B2) hn hs).mono ?_;rintro x W3 ⟨v3,rfl,o3,b3⟩;obtain⟨a',c',rfl,r3,h1,h2,h3⟩:=o3.ex;have RR:=ai (And.intro r3 (And.intro h1 (And.intro h2 h3)));have z3:=z2.next b3;have B3:=B2.trans (b3.mono (by omega));clear z2 B2 b3 o3 r3 h1 h2 h3)
  |(refine yw _ _ rfl rfl rfl rfl z3 ?_;intro W5 z5 t5;have B5:=t5.under B3 (by omega);have R5:=ai (t5.row (aa RR).1 (fun y hy _=>by have:=(aa RR).2.2.2 y hy;omega));clear z3 B3 t5))
 exact Ao (KS z5 _ rfl rfl) rfl ⟨_,rfl,⟨a',c',rfl,aa R5,(aa RR).2.1,(aa RR).2.2.1,fun y hy=>by have:=(aa RR).2.2.2 y hy;omega⟩,B5⟩
end
def lF(l:tM):Nat→Value:=fun i=>l.getD i undef
theorem Ss{l:tM}(h:l.all (·.oneCell')=true):aW (lF l) l.length:=fun i hi=>by
 have:lF l i=l[i]:=by simp[lF,hi]
 rw[this];exact List.all_eq_true.1 h _ (BE hi)
theorem qs{l l':tM}{q m j:Nat}(h:l'=(l.drop q).take m)(hj:j<m):lF l (q+j)=lF l' j:=by
 subst h;simp[hj,lF]
section
open Rv
theorem ZT(r e f t o:Int)(a:tB)(n c:Nat)(q:tD)(r' e' f' t' o':Int)(a':tB)(n' c':Nat)(w:tA)(hq:aW q 41):cA 123 #[jG r e f t o a n c q,cg r' e' f' t' o' a' n' c',iV 0] w (rB (.tuple #[jG r' e' f' t' o' a n c q,iV 0]) w):=by
 exact en (H:=[]) _ [vg [.o (iV r),.o (iV e),.o (iV f),.o (iV t),.o (iV o),.o (.slice a n c),.f 41 q],vg (bS r' e' f' t' o' a' n' c'),vi 0] Tryz.func123 rfl rfl (m0 w) (Rv.r [0] rfl fun _=>fin fun w hS=>⟨rfl,hS.now.2⟩)
theorem F7(r e f t o:Int)(a:tB)(n c:Nat)(w:tA):cA 188 #[cg r e f t o a n c] w (rB (.bool (decide (bg r e f t o n))) w):=by
 refine en (H:=[]) _ [vg (bS r e f t o a n c)] Tryz.func188 rfl rfl (m0 w) ?_;have key:∀l F T O:Int,(l≤e∧e≤1048576∧(0≤f∧f≤F)∧(0≤t∧t≤T)∧(0≤o∧o≤O))∨¬l≤e∨(l≤e∧¬e≤1048576)∨((l≤e∧e≤1048576)∧¬(0≤f∧f≤F))∨((l≤e∧e≤1048576∧0≤f∧f≤F)∧¬(0≤t∧t≤T))∨((l≤e∧e≤1048576∧(0≤f∧f≤F)∧0≤t∧t≤T)∧¬(0≤o∧o≤O)):=by intros;omega
 by_cases h4:r=0∨r=1∨r=2∨r=3∨r=4
 case neg=>exact Rv.r [0,0,0,0,0] rfl fun _=>fin fun w hS=>⟨by rw[Ak (by unfold bg;omega)];rfl,hS.now.2⟩
 by_cases hn:r=0∧0<n
 ·exact Rv.r [1,1] rfl fun _=>fin fun w hS=>⟨by rw[Ak (by unfold bg;omega)];rfl,hS.now.2⟩
 rcases h4 with h|h|h|h|h
 case' inl=>have k:=key 0 0 0 0;refine Rv.r [1,0] rfl fun _=> ?_
 case' inr.inl=>have k:=key 1 0 0 0;refine Rv.r [0,1] rfl fun _=> ?_
 case' inr.inr.inl=>have k:=key 1 0 4 4;refine Rv.r [0,0,1] rfl fun _=> ?_
 case' inr.inr.inr.inl=>have k:=key 1 0 4 0;refine Rv.r [0,0,0,1] rfl fun _=> ?_
 case' inr.inr.inr.inr=>have k:=key 1 4 0 0;refine Rv.r [0,0,0,0,1] rfl fun _=> ?_
 all_goals
  clear key;rcases k with k|k|k|k|k|k
  ·exact Rv.r [1,1] rfl fun _=>Rv.cb rfl (vv (.bool true)) (fun w _=>gy true (eD _ _ w) (As (by omega))) (Rv.r [] rfl fun _=>Rv.cb rfl (vv (.bool true)) (fun w _=>gy true (eD _ _ w) (As (by omega))) (Rv.r [] rfl fun _=>Rv.cb rfl (vv (.bool true)) (fun w _=>gy true (eD _ _ w) (As (by omega))) (Rv.r [] rfl fun _=>fin fun w hS=>⟨by rw[As (by unfold bg;omega)];rfl,hS.now.2⟩)))
  ·exact Rv.r [0] rfl fun _=>fin fun w hS=>⟨by rw[Ak (by unfold bg;omega)];rfl,hS.now.2⟩
  ·exact Rv.r [1,0] rfl fun _=>fin fun w hS=>⟨by rw[Ak (by unfold bg;omega)];rfl,hS.now.2⟩
  ·exact Rv.r [1,1] rfl fun _=>Rv.cb rfl (vv (.bool false)) (fun w _=>gy false (eD _ _ w) (Ak (by omega))) (Rv.r [] rfl fun _=>fin fun w hS=>⟨by rw[Ak (by unfold bg;omega)];rfl,hS.now.2⟩)
  ·exact Rv.r [1,1] rfl fun _=>Rv.cb rfl (vv (.bool true)) (fun w _=>gy true (eD _ _ w) (As (by omega))) (Rv.r [] rfl fun _=>Rv.cb rfl (vv (.bool false)) (fun w _=>gy false (eD _ _ w) (Ak (by omega))) (Rv.r [] rfl fun _=>fin fun w hS=>⟨by rw[Ak (by unfold bg;omega)];rfl,hS.now.2⟩))
  ·exact Rv.r [1,1] rfl fun _=>Rv.cb rfl (vv (.bool true)) (fun w _=>gy true (eD _ _ w) (As (by omega))) (Rv.r [] rfl fun _=>Rv.cb rfl (vv (.bool true)) (fun w _=>gy true (eD _ _ w) (As (by omega))) (Rv.r [] rfl fun _=>Rv.cb rfl (vv (.bool false)) (fun w _=>gy false (eD _ _ w) (Ak (by omega))) (Rv.r [] rfl fun _=>fin fun w hS=>⟨by rw[Ak (by unfold bg;omega)];rfl,hS.now.2⟩)))
end
theorem pr{W:tA}{Z:Nat}{ep nx gv:Int}{r l:tK}{ws:tD}{er:Int}{tmps:tR}(q:aY W Z ep nx gv r l ws)(t2:tmps[2]? =some (.pointer (some ⟨Z,0,none⟩)))(t3:tmps[3]? =some (iV er)):
  (results Tryz.f161 tmps).run Tryz.prog W= .ok (.tuple #[iH ep nx gv r l ws,iV er]) W:=by
 have h1:=run_loadVar_row (P:=Tryz.prog) W Z 112 112 _ (0,0) _ q Tryz.underlying112 rfl (by rw[dg];exact Tryz.MD);simp[results,Tryz.results161,t2,t3,asAddr,h1]
theorem MU{w W1:tA}{r e f t o:Int}{a:tB}{n c:Nat}(z1:aY W1 (w.alloc (.cells (dF r e f t o a n c) 43)).heap.size 0 0 0 (.slice none 0 0) (.slice none 0 0) eS)
  (b1:Below (w.alloc (.cells (dF r e f t o a n c) 43)).heap.size (w.alloc (.cells (dF r e f t o a n c) 43)) W1):
  aG W1 w.heap.size r e f t o a n c∧aY W1 (w.heap.size+1) 0 0 0 (.slice none 0 0) (.slice none 0 0) eS∧bZ w W1:=by
 rw[show(w.alloc (.cells (dF r e f t o a n c) 43)).heap.size=w.heap.size+1 by simp]at z1;exact⟨(aG.new w r e f t o a n c).next b1,z1,Below.next (aC _ _) b1⟩
theorem v_.zero(w w':tA):v_ w w' St.zero (iH 0 0 0 (.slice none 0 0) (.slice none 0 0) eS):=⟨none,0,none,0,eS,rfl,RowK.nil _ _ _,RowK.nil _ _ _,Ac _,Ac _,fun _=>rfl,fun _=>rfl,jP,fun x hx=>(by cases hx),fun x hx=>(by cases hx)⟩
inductive Rb(B:Bt):St→Int→Prop
 |yes {s:St} (ok:B.Ok) (bu:List An) (ht:bz B.es s bu):Rb B s 0
 |no (h:¬B.Ok):Rb B St.zero 6
theorem uP(B:Bt)(a:tB)(c:Nat)(w:tA)(hb:jg w B a c):
  cA 161 #[cg B.r B.e B.f B.t B.o a B.es.length c] w fun x w'=>∃y er s,x= .returned (.tuple #[y,iV er])∧Rb B s er∧v_ w w' s y∧bZ w w':=by
 have HM:=fun w=>F7 B.r B.e B.f B.t B.o a B.es.length c w;have HR:Hid (∀W,bZ w W→cA 149 #[.slice a B.es.length c] W fun e w'=>∃x er s,e= .returned (.tuple #[x,iV er])∧Rv B.es s er∧v_ W w' s x∧bZ W w'):=ai fun W b=>sX B.es a c W (hb.row.below b);clear hb;by_cases hs:bg B.r B.e B.f B.t B.o B.es.length
 case neg=>
  rw[Ak hs]at HM;go_enter Tryz.func161,Tryz.ntmps161
  go_wp2_with (first
   |(refine uH 2 rfl rfl rfl ?_;intro W1 z1 b1;obtain⟨k1,y1,B1⟩:=MU z1 b1;obtain⟨x0,x1,x2,x3,x4,x5⟩:=k1.cells;have HY:=ai y1;have HB:=ai B1;clear z1 b1 k1 y1 B1)
   |(go_at_call 188;refine(HM _).mono ?_;rintro x W2 ⟨rfl,b2⟩;clear HM x0 x1 x2 x3 x4 x5;have z2:=(aa HY).next b2;have ue:=ai (Below.next (aa HB) b2);clear HY HB b2)
   |(refine zF rfl rfl ?_)
   |(refine ph (ra:=none) (la:=none) (rn:=0) (rc:=0) (ln:=0) (lc:=0) (ws':=eS) _ _ rfl rfl rfl rfl z2 jP ?_;intro W4 q4 t4;have HQ4:=ai q4;have EB:=ai t4;clear q4 t4))
  exact Ao (pr (aa HQ4) rfl rfl) rfl ⟨_,6,St.zero,rfl,.no (fun ok=>hs ok.cG),v_.zero _ _,(aa EB).under (aa ue) (by omega)⟩
 case pos=>
 rw[As hs]at HM;go_enter Tryz.func161,Tryz.ntmps161
 go_upto_region 4 with(first
  |(refine uH 2 rfl rfl rfl ?_;intro W1 z1 b1;obtain⟨k1,y1,B1⟩:=MU z1 b1;obtain⟨x0,x1,x2,x3,x4,x5⟩:=k1.cells;have HK:=ai k1;have HY:=ai y1;have HB:=ai B1;clear z1 b1 k1 y1 B1)
  |(go_at_call 188;refine(HM _).mono ?_;rintro x W2 ⟨rfl,b2⟩;clear HM x0 x1 x2 x3 x4 x5;obtain⟨x0,x1,x2,x3,x4,x5⟩:=((aa HK).next b2).cells;have HY2:=ai ((aa HY).next b2);have B2:=Below.next (aa HB) b2;have hR:=aa HR W2 B2;have ue:=ai B2;clear HY HB HR HK b2 B2)
  |(go_at_call 149;refine hR.mono ?_;rintro x W3 ⟨y,er,s,rfl,rv,⟨⟨a1',c1',a2',c2',ws',rfl,r1,r2,l1',l2',n1,n2,ug,f1,f2⟩⟩,b3⟩;have HV:=ai rv;have HY3:=ai ((aa HY2).next b3);have DF:=ai (Below.next (aa ue) b3);have hw2:=(aa ue).size;have vU:w.heap.size+1<W2.heap.size:=(aa HY2).lt;clear hR rv HY2 x0 x1 x2 x3 x4 x5)
  |(refine uH 4 rfl rfl rfl ?_;intro W4 z4 b4)
  |(refine ph (ra:=a1') (la:=a2') (ws':=ws') _ _ rfl rfl rfl rfl z4 ug ?_;intro W5 q5 t5;have b5:=t5.under b4 (Ac _);have HR1:=ai (r1.below b5);have ZU:=ai (r2.below b5);have y5:=(aa HY3).next b5;have aN:=(aa HY3).lt;have VY:=ai (Below.next (aa DF) b5);clear z4 b4 t5 b5 HY3 DF r1 r2))
 have fR:w.heap.size+1≠W3.heap.size:=by omega
 by_cases h0:er=0
 ·subst h0
  go_wp2_with (first
   |(refine FH _ rfl rfl rfl q5 ?_)
   |(refine ph (ra:=a1') (la:=a2') (ws':=ws') _ _ rfl rfl rfl rfl y5 ug ?_;intro W6 q6 t6;have HQ6:=ai q6;have HT6:=ai t6;clear q6 t6))
  have t6:=aa HT6;have ok:=((aa HV).ok hs).1 rfl;obtain⟨s',bu,ht⟩:=ok.told;obtain⟨rfl,_⟩:=(aa HV).one (.told bu ok.len ht);have Wh:=(aa ue).size;have i_:w.heap.size≤W2.heap.size:=Wh;exact Ao (pr (aa HQ6) rfl rfl) rfl ⟨_,0,s,rfl,.yes ok bu ht,⟨a1',c1',a2',c2',ws',rfl,t6.row (aa HR1) (fun x hx _=>by have:=f1 x hx;omega),t6.row (aa ZU) (fun x hx _=>by have:=f2 x hx;omega),l1',l2',n1,n2,ug,fun x hx=>AN i_ (f1 x hx),fun x hx=>AN i_ (f2 x hx)⟩,t6.under (aa VY) (by omega)⟩
 ·clear q5
  go_wp2_with (first
   |(refine zF rfl rfl ?_)
   |(refine ph (ra:=none) (la:=none) (rn:=0) (rc:=0) (ln:=0) (lc:=0) (ws':=eS) _ _ rfl rfl rfl rfl y5 jP ?_;intro W6 q6 t6;have HQ6:=ai q6;have HT6:=ai t6;clear q6 t6))
  exact Ao (pr (aa HQ6) rfl rfl) rfl ⟨_,6,St.zero,rfl,.no (fun ok=>h0 (((aa HV).ok hs).2 ok)),v_.zero _ _,(aa HT6).under (aa VY) (by omega)⟩
theorem zH(B:Bt)(a:tB)(c:Nat)(w:tA)(hb:jg w B a c):
  cA 142 #[cg B.r B.e B.f B.t B.o a B.es.length c] w fun x w'=>∃er,x= .returned (iV er)∧((er=0∧B.Ok)∨(er=6∧¬B.Ok))∧bZ w w':=by
 have HR:Hid (∀W,bZ w W→cA 161 #[cg B.r B.e B.f B.t B.o a B.es.length c] W fun x w'=>∃y er s,x= .returned (.tuple #[y,iV er])∧Rb B s er∧v_ W w' s y∧bZ W w'):=ai fun W b=>uP B a c W (hb.next b);clear hb;go_enter Tryz.func142,Tryz.ntmps142
 go_wp2_with (first
  |(go_at_call 161;refine(aa HR _ (aC _ _)).mono ?_;rintro x W3 ⟨y,er,s,rfl,rv,⟨⟨a1',c1',a2',c2',ws',rfl,r1,r2,l1',l2',n1,n2,ug,f1,f2⟩⟩,b3⟩;have HV:=ai rv;have DF:=ai (Below.next (aC _ _) b3);clear rv b3)
  |(refine uH 3 rfl rfl rfl ?_;intro W4 z4 b4)
  |(refine ph (ra:=a1') (la:=a2') (ws':=ws') _ _ rfl rfl rfl rfl z4 ug ?_;intro W5 q5 t5;have VY:=ai (Below.next (aa DF) (t5.under b4 (Ac _)));clear q5 t5 z4 b4))
 go_ret;refine⟨er,rfl, ?_,aa VY⟩;cases aa HV with
 |yes ok=>exact .inl ⟨rfl,ok⟩
 |no h=>exact .inr ⟨rfl,h⟩
theorem gz(B:Bt)(a:tB)(c:Nat)(w:tA)(hb:jg w B a c)(ok:B.Ok):
  cA 142 #[cg B.r B.e B.f B.t B.o a B.es.length c] w (rB (iV 0) w):=by
 refine(zH B a c w hb).mono ?_;rintro x w' ⟨er,rfl,⟨rfl,_⟩|⟨_,h⟩,b⟩
 ·exact⟨rfl,b⟩
 ·exact absurd ok h
theorem kx(B:Bt)(a:tB)(c:Nat)(w:tA)(hb:jg w B a c)(ok:¬B.Ok):
  cA 142 #[cg B.r B.e B.f B.t B.o a B.es.length c] w (rB (iV 6) w):=by
 refine(zH B a c w hb).mono ?_;rintro x w' ⟨er,rfl,⟨_,h⟩|⟨rfl,_⟩,b⟩
 ·exact absurd h ok
 ·exact⟨rfl,b⟩
structure Mb(w wx:tA)(B:Bt)(a:tB)(c:Nat):Prop where
 b:aG wx w.heap.size B.r B.e B.f B.t B.o a B.es.length c
 z:aG wx (w.heap.size+1) 0 0 0 0 0 none 0 0
 dp:bZ w wx
theorem Mb.next{w wx wy:tA}{B:Bt}{a:tB}{c:Nat}(h:Mb w wx B a c)(b:bZ wx wy):Mb w wy B a c:=⟨h.b.next b,h.z.next b,Below.next h.dp b⟩
theorem Mb.made(w:tA)(B:Bt)(a:tB)(c:Nat):∃W,W=(w.alloc (.cells (dF B.r B.e B.f B.t B.o a B.es.length c) 43)).alloc (.cells (dF 0 0 0 0 0 none 0 0) 43)∧Mb w W B a c:=by
 refine⟨_,rfl,(aG.new w _ _ _ _ _ _ _ _).next (aC _ _), ?_,gm _ _ _⟩;have h0:=aG.new (w.alloc (.cells (dF B.r B.e B.f B.t B.o a B.es.length c) 43)) 0 0 0 0 0 none 0 0;rw[show(w.alloc (.cells (dF B.r B.e B.f B.t B.o a B.es.length c) 43)).heap.size=w.heap.size+1 by simp]at h0;exact h0
theorem OK{W:tA}{R:Nat}{r e f t o:Int}{a:tB}{n c:Nat}{tmps:tR}(d:aG W R r e f t o a n c)(t4:tmps[4]? =some (.pointer (some ⟨R,0,none⟩))):
  (results Tryz.f154 tmps).run Tryz.prog W= .ok (cg r e f t o a n c) W:=by
 simp[results,Tryz.results154,t4,asAddr,eE d]
theorem sw(A B:List Ev):au (A++B)=au A++au B:=by simp[au]
theorem ED(B:Bt)(a:tB)(c:Nat)(l:List Ev)(b:tB)(lb cb:Nat)(w:tA)(hb:jg w B a c)(hl:l.length=lb)(hr:RowK .i64 w b (6*lb) (au l))(nb:b=none→cb=0)(hs:B.es.length+lb≤1000000):
  cA 154 #[cg B.r B.e B.f B.t B.o a B.es.length c,.slice b lb cb] w fun x w'=>∃y,x= .returned y∧iy w w' (B.more l) y∧bZ w w':=by
 have HC:Hid (∀W,bZ w W→cA 176 #[.slice a B.es.length c,.slice b lb cb] W fun e w'=>∃a' c',e= .returned (.slice a' (B.es.length+lb:Nat) c')∧RowK .i64 w' a' (6*(B.es.length+lb)) (au B.es++au l)∧B.es.length+lb≤c'∧(a'=none→c'=0)∧(∀x,a'=some x→W.heap.size≤x.block)∧bZ W w'):=ai fun W bb=>zG a b B.es.length c lb cb (au B.es) (au l) W (hb.row.below bb) (hr.below bb) hb.nil nb hs;clear hb hr;obtain⟨n,hn⟩:∃n,n=B.es.length+lb:=⟨_,rfl⟩;rw[←hn]at HC;have HN:=ai hn;clear hn;go_enter Tryz.func154,Tryz.ntmps154
 go_upto_region 1 with fail
 obtain⟨W1,hW1,M1⟩:=Mb.made w B a c;rw[←hW1];clear hW1;have h0:=M1.b.lt;have h1:=M1.z.lt;have hC:=aa HC W1 M1.dp;obtain⟨x0,x1,x2,x3,x4,x5⟩:=M1.b.cells;have HM:=ai M1;clear HC M1
 go_upto_region 2 with(go_at_call 176;refine hC.mono ?_;rintro x W2 ⟨a',c',rfl,r2,jM,n2,u2,b2⟩;have M2:=(aa HM).next b2;clear hC x0 x1 x2 x3 x4 x5;obtain⟨x0,x1,x2,x3,x4,x5⟩:=M2.b.cells;have xf:=M2.b.free;have Wi:=ai M2;have ZU:=ai r2;have HU2:=ai u2;have hs2:=b2.size;clear M2 r2 u2 b2 HM)
 have M2:=aa Wi;obtain⟨W3,hW3,k3,t3⟩:∃W3,W3=W2.setCell ⟨w.heap.size,5,none⟩ (.slice a' n c')∧aG W3 w.heap.size B.r B.e B.f B.t B.o a' n c'∧aB w.heap.size W2 W3:=by
  refine⟨_,rfl, ?_,aB.set _ _ _ _⟩;have:=M2.b;unfold aG at this⊢;rw[cL this];simp
 rw[←hW3];clear hW3;have z3:=M2.z.dR t3 (by omega);have B3:=t3.under M2.dp (Ac _);have r3:=t3.row (aa ZU) (fun x hx _=>by have:=aa HU2 x hx;omega);obtain⟨y0,y1,y2,y3,y4,y5⟩:=k3.cells;obtain⟨z0,z1,z2,z33,z4,z5⟩:=z3.cells;have zf:=z3.free;have HZ3:=ai z3;have DF:=ai B3;have p_:=ai r3;clear x0 x1 x2 x3 x4 x5 xf M2 z3 B3 r3 k3 t3;go_wp2;obtain⟨W4,hW4,d4,b4,t4⟩:=dP (aa HZ3) (aa DF) (show w.heap.size≤w.heap.size+1 by omega) B.r B.e B.f B.t B.o a' n c';rw[←hW4];have fR:(B.more l).es.length=n:=by rw[aa HN];simp[Bt.more,hl]
 refine Ao (OK d4 rfl) rfl ⟨_,rfl,⟨a',c', ?_,⟨?_, ?_,n2⟩,fun x hx=> ?_⟩,b4⟩
 ·rw[fR];rfl
 ·rw[fR];show RowK .i64 W4 a' (6*n) (au (B.es++l));rw[sw];exact t4.row (aa p_) (fun x hx _=>by have:=aa HU2 x hx;omega)
 ·rw[fR];exact jM
 ·have:=aa HU2 x hx;omega
theorem Bt.qt(B:Bt):B.more []=B:=by simp[Bt.more]
theorem sY(B:Bt)(a:tB)(c:Nat)(w:tA)(hb:jg w B a c)(hs:B.es.length≤2000):
  cA 154 #[cg B.r B.e B.f B.t B.o a B.es.length c,.slice none 0 0] w fun x w'=>∃y,x= .returned y∧iy w w' B y∧bZ w w':=by
 have:=ED B a c [] none 0 0 w hb rfl (RowK.nil _ _ _) (fun _=>rfl) (by omega);rw[Bt.qt]at this;exact this
section
open Rv
theorem Ip{w:tA}{B:Bt}{a:tB}{c:Nat}(hb:jg w B a c):Mem w (hs []) (fun _=>False) (fun w=>jg w B a c) (fun w'=>bZ w w'):=Mem.start (fun _ h=>h.elim) (fun w' c=>hb.next (c.below (Ac _) fun _ _ h=>h)) fun _ h=>h
abbrev bY(B:Bt)(n:Nat)(y:Option Addr×Nat):SV:= .g (bS B.r B.e B.f B.t B.o y.1 n y.2)
abbrev F8:SV:= .g (bS 0 0 0 0 0 none 0 0)
abbrev xW(w0:tA)(y:Option Addr×Nat):Prop:=∀x,y.1=some x→w0.heap.size≤x.block
theorem MV{w0 w w':tA}{B:Bt}{x:Ending}(h0:bZ w0 w)(h:∃y,x= .returned y∧iy w w' B y∧bZ w w'):∃y:Option Addr×Nat,x= .returned (bY B B.es.length y).val∧bZ w w'∧xW w0 y∧∀{U:tF},(∀b,U b→b<w.heap.size)→cm U w' fun w=>jg w B y.1 y.2:=by
 obtain⟨_,rfl,ho,b⟩:=h;obtain⟨a,c,rfl,hb,hf⟩:=ho.ex;exact⟨(a,c),rfl,b,fun x hx=>AN h0.size (hf x hx),fun {U} hU w2 c2=>⟨bM hb.row hf hU w2 c2,hb.cap,hb.nil⟩⟩
theorem OL(B:Bt)(a:tB)(c:Nat)(ep:Int)(w:tA)(hb:jg w B a c):cA 111 #[cg B.r B.e B.f B.t B.o a B.es.length c,iV ep] w fun x w'=>∃y B' er,x= .returned (.tuple #[y,iV er])∧fh B ep=(B',er)∧iy w w' B' y∧bZ w w':=by
 have no:=fun er w=>mM er w;refine en (H:=[]) _ [vg (bS B.r B.e B.f B.t B.o a B.es.length c),vi ep] Tryz.func111 rfl rfl (Ip hb) (r [] rfl fun _=> ?_);unfold fh;by_cases ok:B.Ok
 case neg=>exact Rv.cb rfl (vi 6) (fun w hS=>kx B a c w hS.now.1 ok) (r [1] rfl fun _=>Rv.cb rfl (vt [F8,.o (iV 6)]) (fun w _=>no 6 w) (r [] rfl fun _=>fin fun w hS=>⟨_,_,_,rfl,Ae ok,iy.zero _ _,hS.now.2⟩))
 rw[Aa (Bc ok)];refine Rv.cb rfl (vi 0) (fun w hS=>gz B a c w hS.now.1 ok) (r [0] rfl fun _=> ?_);by_cases h1:1≤ep∧ep≤1048576
 case neg=>exact Rv.cb rfl (vv (.bool false)) (fun w _=>gy false (kP ep w) (Ak h1)) (r [] rfl fun _=>Rv.cb rfl (vt [F8,.o (iV 2)]) (fun w _=>no 2 w) (r [] rfl fun _=>fin fun w hS=>⟨_,_,_,rfl,Ae h1,iy.zero _ _,hS.now.2⟩))
 rw[Aa (Bc h1)];refine Rv.cb rfl (vv (.bool true)) (fun w _=>gy true (kP ep w) (As h1)) ?_;by_cases h2:B.r=0
 case neg=>exact r [1] rfl fun _=>Rv.cb rfl (vt [F8,.o (iV 8)]) (fun w _=>no 8 w) (r [] rfl fun _=>fin fun w hS=>⟨_,_,_,rfl,Ae h2,iy.zero _ _,hS.now.2⟩)
 rw[Aa (Bc h2)];by_cases h3:ep≤B.e
 case pos=>exact r [0,1] rfl fun _=>Rv.cb rfl (vt [F8,.o (iV 15)]) (fun w _=>no 15 w) (r [] rfl fun _=>fin fun w hS=>⟨_,_,_,rfl,Ae h3,iy.zero _ _,hS.now.2⟩)
 rw[Aa h3];exact r [0,0] rfl fun _=>fin fun w hS=>⟨_,_,_,rfl,rfl,⟨none,0,rfl,⟨RowK.nil _ _ _,Ac _,fun _=>rfl⟩,fun x hx=>by cases hx⟩,hS.now.2⟩
theorem Iq(B:Bt)(a:tB)(c:Nat)(ep:Int)(w:tA)(hb:jg w B a c):cA 139 #[cg B.r B.e B.f B.t B.o a B.es.length c,iV ep] w fun x w'=>∃y B' er,x= .returned (.tuple #[y,iV er])∧bp B ep=(B',er)∧iy w w' B' y∧bZ w w':=by
 have no:=fun er w=>mM er w;refine en (H:=[]) _ [vg (bS B.r B.e B.f B.t B.o a B.es.length c),vi ep] Tryz.func139 rfl rfl (Ip hb) (r [] rfl fun _=> ?_);unfold bp;by_cases ok:B.Ok
 case neg=>exact Rv.cb rfl (vi 6) (fun w hS=>kx B a c w hS.now.1 ok) (r [1] rfl fun _=>Rv.cb rfl (vt [F8,.o (iV 6)]) (fun w _=>no 6 w) (r [] rfl fun _=>fin fun w hS=>⟨_,_,_,rfl,Ae ok,iy.zero _ _,hS.now.2⟩))
 rw[Aa (Bc ok)];refine Rv.cb rfl (vi 0) (fun w hS=>gz B a c w hS.now.1 ok) ?_;by_cases h2:B.r=3
 case neg=>exact r [0,1] rfl fun _=>Rv.cb rfl (vt [F8,.o (iV 7)]) (fun w _=>no 7 w) (r [] rfl fun _=>fin fun w hS=>⟨_,_,_,rfl,Ae h2,iy.zero _ _,hS.now.2⟩)
 rw[Aa (Bc h2)];by_cases h3:ep≤B.e
 case pos=>exact r [0,0,1] rfl fun _=>Rv.cb rfl (vt [F8,.o (iV 15)]) (fun w _=>no 15 w) (r [] rfl fun _=>fin fun w hS=>⟨_,_,_,rfl,Ae h3,iy.zero _ _,hS.now.2⟩)
 rw[Aa h3];exact r [0,0,0] rfl fun _=>fin fun w hS=>⟨_,_,_,rfl,rfl,⟨none,0,rfl,⟨RowK.nil _ _ _,Ac _,fun _=>rfl⟩,fun x hx=>by cases hx⟩,hS.now.2⟩
theorem Wj(B:Bt)(a:tB)(c:Nat)(nd:Int)(w:tA)(hb:jg w B a c):cA 122 #[cg B.r B.e B.f B.t B.o a B.es.length c,iV nd] w fun x w'=>∃y B' er,x= .returned (.tuple #[y,iV er])∧cW B nd=(B',er)∧iy w w' B' y∧bZ w w':=by
 have no:=fun er w=>mM er w;refine en (H:=[]) _ [vg (bS B.r B.e B.f B.t B.o a B.es.length c),vi nd] Tryz.func122 rfl rfl (Ip hb) (r [] rfl fun _=> ?_);unfold cW;by_cases ok:B.Ok
 case neg=>exact Rv.cb rfl (vi 6) (fun w hS=>kx B a c w hS.now.1 ok) (r [1] rfl fun _=>Rv.cb rfl (vt [F8,.o (iV 6)]) (fun w _=>no 6 w) (r [] rfl fun _=>fin fun w hS=>⟨_,_,_,rfl,Ae ok,iy.zero _ _,hS.now.2⟩))
 rw[Aa (Bc ok)];refine Rv.cb rfl (vi 0) (fun w hS=>gz B a c w hS.now.1 ok) (r [0] rfl fun _=> ?_);by_cases h1:0≤nd∧nd≤4
 case neg=>exact Rv.cb rfl (vv (.bool false)) (fun w _=>gy false (gI nd w) (Ak h1)) (r [] rfl fun _=>Rv.cb rfl (vt [F8,.o (iV 2)]) (fun w _=>no 2 w) (r [] rfl fun _=>fin fun w hS=>⟨_,_,_,rfl,Ae h1,iy.zero _ _,hS.now.2⟩))
 rw[Aa (Bc h1)];refine Rv.cb rfl (vv (.bool true)) (fun w _=>gy true (gI nd w) (As h1)) (r [] rfl fun _=> ?_);by_cases h2:B.r=2∨B.r=3
 case pos=>exact Rv.cb rfl (vv (.bool true)) (fun w _=>nO true (l8 B.r B.e B.f B.t B.o a B.es.length c w) (As h2)) (r [] rfl fun _=>Rv.cb rfl (vt [F8,.o (iV 12)]) (fun w _=>no 12 w) (r [] rfl fun _=>fin fun w hS=>⟨_,_,_,rfl,Ae h2,iy.zero _ _,hS.now.2⟩))
 rw[Aa h2];refine Rv.cb rfl (vv (.bool false)) (fun w _=>nO false (l8 B.r B.e B.f B.t B.o a B.es.length c w) (Ak h2)) ?_;by_cases h3:B.r=1
 case neg=>exact r [1] rfl fun _=>Rv.cb rfl (vt [F8,.o (iV 7)]) (fun w _=>no 7 w) (r [] rfl fun _=>fin fun w hS=>⟨_,_,_,rfl,Ae h3,iy.zero _ _,hS.now.2⟩)
 rw[Aa (Bc h3)];by_cases h4:B.e=1048576
 case pos=>exact r [0,1] rfl fun _=>Rv.cb rfl (vt [F8,.o (iV 14)]) (fun w _=>no 14 w) (r [] rfl fun _=>fin fun w hS=>⟨_,_,_,rfl,Ae h4,iy.zero _ _,hS.now.2⟩)
 rw[Aa h4];refine r [0,0] rfl fun _=>Rv.cx rfl (fun y=> .s (bY ⟨2,B.e,B.f,nd,B.o,B.es⟩ B.es.length y)) (xW w) (fun y w=>jg w ⟨2,B.e,B.f,nd,B.o,B.es⟩ y.1 y.2) (fun w1 hS=>(sY ⟨2,B.e,B.f,nd,B.o,B.es⟩ a c w1 ⟨hS.now.1.row,hS.now.1.cap,hS.now.1.nil⟩ ok.len).mono fun _ _ h=>by obtain⟨y,h1,h2,h3,h4⟩:=MV hS.now.2 h;exact⟨y,h1,h2,h3,h4⟩) fun y hy=> ?_;exact r [] rfl fun _=>fin fun w hS=>⟨_,_,_,rfl,rfl,⟨y.1,y.2,rfl,hS.now.1.2,hy⟩,hS.now.2⟩
end
end Go.Proofs.YtpgkjpomaffbmaaGreatDoor
