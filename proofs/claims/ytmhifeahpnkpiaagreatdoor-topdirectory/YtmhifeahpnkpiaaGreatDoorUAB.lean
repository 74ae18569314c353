/- Out of my texts: QuH, QuN, QuP, QuQ, QuR, WdC, WdD, WdE, QuT, QuV, QuU, QuW, QuM, QuX, QuY, PkC, QvA, QvD, QkA, RvL, QvB, QvC, HsA, QkB, QvE, QrA, RvP, MoL, MoB, MoC, QkC, QkG, QkD, PkO, QkE, HsB, HsC, HsD, HsE, QkH, BeA, BeB, MoA, MoD, MoE, GnC, MoF, MoG, MpA, MpB, BeC, BeD, BeE, BeF. -/
import Derived.Deep.CutRange
import Derived.Deep.DeepCutAuto
import Derived.Deep.QuietTactic
import Derived.Deep.RegionHeld3
import Derived.Deep.RegionLaw
import Derived.Deep.Slices
import Derived.Laws.CopyOwn
import Derived.OwnWalk
import Derived.Shelf.SlGeneric
import Derived.Shelf.SlSortCmp.NoneTotal
import Derived.Shelf.SlicesG.Cmp
import Derived.Shelf.SlicesQ.IndexFunc
import Derived.Shelf.Spec.SlicesGrow
import Derived.WideMake
import Derived.Test.YtmhifeahpnkpiaaGreatDoorProg
import Derived.Test.YtmhifeahpnkpiaaGreatDoorUAA
set_option maxRecDepth 20000
set_option maxHeartbeats 8000000
set_option linter.unusedVariables false
namespace Go.Proofs.YtmhifeahpnkpiaaGreatDoor
open Go.RowKit
abbrev Ay:= @Decidable.not_not
abbrev AW:= @MapKept.run_checkKey
abbrev AZ:= @not_not_intro
abbrev Bh:= @List.take_length
abbrev Bj:= @List.mem_of_mem_drop
abbrev Bn:= @World.ownsRow_nil
abbrev Bv:= @Nat.le_succ
abbrev BE:= @Nat.not_le
abbrev Ch:= @Nat.eq_zero_or_pos
theorem Tryz.LS:(Tryz.prog.info? 87).map (fun i=>(i.zero,i.size,i.bytes))=some (some (.agg #[iV 0,iV 0]),2,16):=by kernel_rfl
theorem Tryz.uF:(Tryz.prog.info? 232).map (fun i=>(i.zero,i.size,i.bytes))=some (some (.agg #[iV 0,iV 0,iV 0,iV 0]),4,32):=by kernel_rfl
theorem Tryz.LU:(Tryz.prog.info? 80).map (·.size)=some 41:=by kernel_rfl
theorem X9{ws:tD}{wt:tH}{wz:Nat→Nat→Bool}(h:gN ws wt wz):∀v∈mO ws,v.oneCell'=true:=by
 intro v hv;simp only[mO,List.mem_map,List.mem_range]at hv;obtain⟨i,hi,rfl⟩:=hv;obtain⟨h0,h1⟩:=h (i/9) (by omega);rcases Ch (i % 9)with he|he
 ·rw[show i=9*(i/9) by omega,h0];rfl
 ·rw[show i=9*(i/9)+1+(i % 9-1) by omega,h1 _ (by omega)];rfl
theorem JS{ep nx gv:Int}{ra la:tB}{rn rc ln lc:Nat}{ws:tD}{wt:tH}{wz:Nat→Nat→Bool}(h:gN ws wt wz):(dR ep nx gv (.slice ra rn rc) (.slice la ln lc) ws).all (·.oneCell')=true:=by
 refine all_oneCell_toArray ?_;intro v hv;simp only[kV,List.mem_cons]at hv;rcases hv with rfl|rfl|rfl|rfl|rfl|hv
 ·rfl
 ·rfl
 ·rfl
 ·rfl
 ·rfl
 ·exact X9 h v hv
section
variable{w w':tA}{R:Nat}{ep nx gv:Int}{r l:tK}{ws:tD}
theorem aV.there(h:aV w R ep nx gv r l ws):w.there R 0 41:=fun j hj=>by
 refine⟨?_,h.free _⟩;rw[Ae,h.at,Cg (by rw[cT];exact hj)];rfl
theorem aV.stored(h:aV w R ep nx gv r l ws)(NQ NR NS:Int)(r' l':tK)(ws':tD):aV (w.setCells R 0 (dR NQ NR NS r' l' ws').toList) R NQ NR NS r' l' ws':=by
 obtain⟨Qf,h1,h2,h3⟩:=jx (R:=R) (dR NQ NR NS r' l' ws').toList 0 w _ _ h (by simp[cT]);unfold aV;rw[h1];have:Qf=dR NQ NR NS r' l' ws':=by
  apply BS;intro i;rw[h3];by_cases hi:i<41
  ·rw[if_pos ⟨by omega,by simp[cT];omega⟩];simp
  ·rw[if_neg (by simp[cT];omega),Bc (by rw[cT];omega),Bc (by rw[cT];omega)]
 rw[this]
theorem aV.ready(h:aV w R ep nx gv r l ws)(r':tK):aV (w.setCell ⟨R,3,none⟩ r') R ep nx gv r' l ws:=by
 have:=heap_set (o:=3) (v:=r') h;unfold aV;rw[this];rfl
theorem aV.xH(h:aV w R ep nx gv r l ws)(l':tK):aV (w.setCell ⟨R,4,none⟩ l') R ep nx gv r l' ws:=by
 have:=heap_set (o:=4) (v:=l') h;unfold aV;rw[this];rfl
theorem av.queue{R':Nat}(h:av R' w w')(q:aV w R ep nx gv r l ws)(hR:R≠R'):aV w' R ep nx gv r l ws:=by
 unfold aV at q⊢;rw[h.block R hR];exact q
theorem av.own{base e size n:Nat}{v:tK}{xs:tM}(h:av R w w')(o:w.ownsRow base e size v n xs)(hb:R<base):w'.ownsRow base e size v n xs:=by
 refine⟨o.1, ?_⟩;rcases o.2 with h2|⟨g,cap,cur,h1,h2,h3,h4⟩
 ·exact .inl h2
 ·exact .inr ⟨g,cap,cur,h1,h2,by rw[h.block g (by omega)];exact h3,h4⟩
theorem av.row{k:IntKind}{a:tB}{len:Nat}{l:tG}(h:av R w w')(hr:RowK k w a len l)(fM:∀x,a=some x→0<len→x.block≠R):RowK k w' a len l:=
 ⟨hr.cy,hr.wf,fun i hi=>by
  obtain⟨b,off,ha,aM,hc⟩:=hr.cell i hi
  exact⟨b,off,ha,by rw[h.size];exact aM,(Ck (w:=w) (h.block b (fM _ ha (by omega)))).trans hc⟩⟩
theorem oI{ops:tP}{rest:List Oper}{o:Oper}{a:Act}{Q:tI}{ra la:tB}{rn rc ln lc:Nat}{ws':tD}{NQ NR NS:Int}{wt:tH}{wz:Nat→Nat→Bool}(x y:tU)(ho:o.op= .store 80 x y)(hw:Region.wanted o (yielded ops a.tmps)=true)(hx:a.eval x= .pointer (some ⟨R,0,none⟩))(hy:a.eval y=iF NQ NR NS (.slice ra rn rc) (.slice la ln lc) ws')
  (qb:aV w R ep nx gv r l ws) (hW:gN ws' wt wz)
  (h:∀w',aV w' R NQ NR NS (.slice ra rn rc) (.slice la ln lc) ws'→av R w w'→wpList Tryz.prog ops Q rest (a.put o.dst undef) w'):wpList Tryz.prog ops Q (o::rest) a w:=
 Bm fun K hK=>by
  rw[if_pos hw];exact wp_store_mid 80 x y ho R 0 _ hx hy (by rw[cT];exact qb.there) (by rw[cT];exact Tryz.LU) (JS hW) (hK _ _ (h _ (qb.stored _ _ _ _ _ _) (av.sH R _ 0 w)))
theorem RowK.eO{base e size n:Nat}{v:tK}{xs:tG}(h:w.ownsRow base e size v n (xs.map (Value.int .i64)))(hw:∀u∈xs,(Lit.int .i64 u).wf=true):
  ∃a cap,v= .slice a n cap∧RowK .i64 w a (size*n) xs∧n≤cap∧cap≤maxLen∧(a=none→cap=0)∧(∀x,a=some x→base≤x.block):=by
 have hl:xs.length=size*n:=by have:=h.1;rw[Nat.mul_comm];simpa using this
 rcases h.2 with⟨rfl,rfl⟩|⟨g,cap,cur,rfl,hb,hg,hc,hm,hs,ht⟩
 ·have:xs=[]:=List.length_eq_zero_iff.1 (by simpa using hl);subst this;exact⟨none,0,rfl,RowK.nil _ _ _,Aa _,by unfold maxLen;omega,fun _=>rfl,fun x hx=>by cases hx⟩
 ·refine⟨some ⟨g,0,none⟩,cap,rfl,⟨hl,hw,fun i hi=> ?_⟩,hc,hm,by simp,fun x hx=>by simp at hx;subst hx;exact hb⟩;have hci:=h.cellAt i (by rw[Bl];exact hi);have JK:=(h.lt g rfl).2;refine⟨g,0,rfl,JK, ?_⟩;rw[Ae,hci,Ar,Ag (by omega)];simp[List.getElem?_eq_getElem (show i<xs.length by omega)]
theorem jk{base e e' size abN n n':Nat}{v v':tK}{xs xs':tM}(h:w.ownsRow base e size v n xs)(h':w.ownsRow base e' abN v' n' xs')(he:e≠e'):∀g,v.ownBlock=some g→v'.ownBlock≠some g:=by
 intro g hg Vo;rcases h.2 with⟨rfl,_⟩|⟨g1,cap,cur,rfl,_,h3,_⟩
 ·cases hg
 ·rcases h'.2 with⟨rfl,_⟩|⟨g2,bh,cur',rfl,_,h4,_⟩
  ·cases Vo
  ·simp only[Value.ownBlock,Option.some.injEq]at hg Vo;subst hg;rw[Vo]at h4;rw[h3]at h4;simp only[Option.some.injEq,Obj.cells.injEq]at h4;exact he h4.2.1
theorem aI{base e size n:Nat}{v:tK}{xs:tM}(h:w.ownsRow base e size v n xs)(hb:∀g,v.ownBlock=some g→g<w.heap.size→w'.heap[g]? =w.heap[g]?):w'.ownsRow base e size v n xs:=by
 refine⟨h.1, ?_⟩;rcases h.2 with h2|⟨g,cap,cur,rfl,h2,h3,h4⟩
 ·exact .inl h2
 ·exact .inr ⟨g,cap,cur,rfl,h2,by rw[hb g rfl (h.lt g rfl).2];exact h3,h4⟩
theorem lY{base e size n:Nat}{v:tK}{xs:tM}(h:w.ownsRow base e size v n xs):∃a cap,v= .slice a n cap:=by
 rcases h.2 with⟨rfl,rfl⟩|⟨g,cap,cur,rfl,_⟩
 ·exact⟨_,_,rfl⟩
 ·exact⟨_,_,rfl⟩
theorem lJ{base X_ e size n:Nat}{v:tK}{xs:tM}(h:w.ownsRow base e size v n xs)(hb:X_≤base):w.ownsRow X_ e size v n xs:=by
 refine⟨h.1, ?_⟩;rcases h.2 with h2|⟨g,cap,cur,h1,h2,h3⟩
 ·exact .inl h2
 ·exact .inr ⟨g,cap,cur,h1,by omega,h3⟩
theorem qx{base e size n:Nat}{v:tK}{xs:tM}{row:Option Nat}(h:w.ownsRow base e size v n xs)(hg:w.grownBy w' row)(fM:∀g,v.ownBlock=some g→row≠some g):w'.ownsRow base e size v n xs:=by
 refine⟨h.1, ?_⟩;rcases h.2 with h2|⟨g,cap,cur,rfl,h2,h3,h4⟩
 ·exact .inl h2
 ·have hl:g<w.heap.size:=(h.lt g rfl).2;exact .inr ⟨g,cap,cur,rfl,h2,by rw[hg.block g hl (fun e=>fM g rfl e.symm)];exact h3,h4⟩
theorem ni{P:tY}{ops:tP}{o:Oper}{a:Act}{w:tA}{K:Act→World→Prop}{Q:tI}{E:Prop}(Nu:o.guard=none)(s x:tU)(t:tZ)
  (ho:o.op= .call {callee:= .builtin .append,args:= #[s,x],argTypes:= #[t,t]})
  (base:Nat) (e:tZ) (i:TypeInfo) (z:tK) (size bytes:Nat) (ht:P.underlying t=some (.slice e)) (hi:P.info? e=some i) (hz:i.zero=some z)
  (Gp:i.size=size) (wI:i.bytes=bytes) (LA:z.cells.size=size) (iE:0<size)
  (v:tK) (n:Nat) (xs:tG) (hs:a.eval s=v) (bM:w.ownsRow base e size v n (xs.map (Value.int .i64)))
  (ad:Addr) (m c:Nat) (l:tG) (hx:a.eval x= .slice (some ad) m c) (hl:l.length=m*size) (vw:∀j u,(l.map (Value.int .i64))[j]? =some u→w.cell? (ad.add j)=some u)
  (Gq:n+m≤maxLen) (xl:(n+m)*bytes≤140737488355328) (dQ:base≤w.heap.size)
  (h:∀v' w',w'.ownsRow base e size v' (n+m) ((xs++l).map (Value.int .i64))→w.grownBy w' v.ownBlock→K (a.put o.dst v') w'):
  if Region.wanted o (yielded ops a.tmps)=true then Oper.wp P o a w K Q else E:=by
 have hw:Region.wanted o (yielded ops a.tmps)=true:=by simp[Region.wanted,Nu]
 rw[if_pos hw];exact wp_append_own w s x t ho base e i z size bytes ht hi hz Gp wI LA iE v n _ hs bM ad m c (l.map (Value.int .i64)) hx (by simpa using hl) vw (ints_oneCell _ _) Gq xl dQ (fun v' w' h1 h2 _=>h v' w' (by rw[List.map_append];exact h1) h2)
end
theorem abO(w:tA)(x0 x1:Int)(t:tZ):∀j u,([x0,x1].map (Value.int .i64))[j]? =some u→(w.alloc (.cells #[iV x0,iV x1] t)).drew.cell? ((⟨w.heap.size,0,none⟩:Addr).add j)=some u:=by
 intro j u hj;rw[BG]
 match j,hj with
 |0,hj=>simp at hj;subst hj;simp
 |1,hj=>simp at hj;subst hj;simp
 |n+2,hj=>simp at hj
theorem abP(w:tA)(x0 x1 x2 x3:Int)(t:tZ):∀j u,([x0,x1,x2,x3].map (Value.int .i64))[j]? =some u→(w.alloc (.cells #[iV x0,iV x1,iV x2,iV x3] t)).drew.cell? ((⟨w.heap.size,0,none⟩:Addr).add j)=some u:=by
 intro j u hj;rw[BG]
 match j,hj with
 |0,hj=>simp at hj;subst hj;simp
 |1,hj=>simp at hj;subst hj;simp
 |2,hj=>simp at hj;subst hj;simp
 |3,hj=>simp at hj;subst hj;simp
 |n+4,hj=>simp at hj
abbrev E_:Array Value:= #[iV 0,iV 0,iV 0,.slice none 0 0,.slice none 0 0,iV 0,.bool false,.bool false,.bool false,.bool false,.bool false,.bool false,.bool false,.bool false,iV 0,.bool false,.bool false,.bool false,.bool false,.bool false,.bool false,.bool false,.bool false,iV 0,.bool false,.bool false,.bool false,.bool false,.bool false,.bool false,.bool false,.bool false,iV 0,.bool false,.bool false,.bool false,.bool false,.bool false,.bool false,.bool false,.bool false]
def eP(i:Nat):Value:=if i % 9=0 then iV 0 else .bool false
theorem abQ:E_=dR 0 0 0 (.slice none 0 0) (.slice none 0 0) eP:=rfl
theorem jE:gN eP (fun _=>0) (fun _ _=>false):=fun p _=>⟨by unfold eP;rw[if_pos (by omega)],fun j hj=>by unfold eP;rw[if_neg (by omega)]⟩
theorem Vp(w:tA):aV (w.alloc (.cells E_ 80)) w.heap.size 0 0 0 (.slice none 0 0) (.slice none 0 0) eP:=by
 rw[abQ];exact aV.new w _ _ _ _ _ _
theorem Vq{w W:tA}(h:W=w.alloc (.cells E_ 80)):aV W w.heap.size 0 0 0 (.slice none 0 0) (.slice none 0 0) eP∧bZ w W:=by
 subst h;exact⟨Vp w,aA _ _⟩
theorem sS{ops:tP}{rest:List Oper}{o:Oper}{a:Act}{Q:tI}{w:tA}(d:Nat)(ho:o.op= .alloc 80)(hd:o.dst=some d)(hw:Region.wanted o (yielded ops a.tmps)=true)
  (h:∀w',aV w' w.heap.size 0 0 0 (.slice none 0 0) (.slice none 0 0) eP→bZ w w'→wpList Tryz.prog ops Q rest (a.put (some d) (.pointer (some ⟨w.heap.size,0,none⟩))) w'):wpList Tryz.prog ops Q (o::rest) a w:=
 Bm fun K hK=>by
  rw[if_pos hw];obtain⟨z1,z2⟩:=Vq (w:=w) rfl;have:=hK _ _ (h _ z1 z2);rw[←hd]at this;unfold Oper.wp;simp only[execOp,ho];simpa[go_sem]using this
theorem abR{ops:tP}{rest:List Oper}{o:Oper}{a:Act}{Q:tI}{w:tA}{ep nx gv:Int}{r l:tK}{ws:tD}(d:Nat)(x:tU)(ho:o.op= .box 80 x)(hd:o.dst=some d)(hw:Region.wanted o (yielded ops a.tmps)=true)(hx:a.eval x=iF ep nx gv r l ws)
  (h:∀w',aV w' w.heap.size ep nx gv r l ws→bZ w w'→wpList Tryz.prog ops Q rest (a.put (some d) (.pointer (some ⟨w.heap.size,0,none⟩))) w'):wpList Tryz.prog ops Q (o::rest) a w:=
 Bm fun K hK=>by
  rw[if_pos hw];have:=hK _ _ (h _ (aV.new w ep nx gv r l ws) (aA _ _));rw[←hd]at this;unfold Oper.wp;simp only[execOp,ho,hx];simpa[go_sem]using this
theorem JT{w:tA}{B clock:Nat}{es:Array MapEntry}{z:Int}{v:tK}(hb:w.heap[B]? =some (.map es clock))(hf:Instr.findNow (.int .i64) (iV z) es.toList 0=some none):
  (Instr.mapUpdate 144 (.map (some B)) (iV z) v).run Tryz.prog w= .ok () {w with heap:=w.heap.setIfInBounds B (.map (es.push ⟨iV z,v,clock⟩) (clock+1))}:=by
 have hc:(Instr.checkKey false 10000 3 (iV z)).run Tryz.prog w= .ok () w:=AW (k:=iV z) Tryz.underlying3 (by simp[MapKept.IsKey]) false 9999;simp[Instr.mapUpdate,run_underlying Tryz.underlying144,MapKept.run_getObj_map hb,hc,MapKept.run_findKey Tryz.underlying3 hf,MapKept.run_setObj_map _ hb,Result.andThen]
theorem sT{ops:tP}{rest:List Oper}{o:Oper}{a:Act}{Q:tI}{w:tA}{B clock:Nat}{es:Array MapEntry}{z:Int}{v:tK}(m k x:tU)(ho:o.op= .insert 144 m k x)(hw:Region.wanted o (yielded ops a.tmps)=true)
  (hm:a.eval m= .map (some B)) (hk:a.eval k=iV z) (hx:a.eval x=v) (hb:w.heap[B]? =some (.map es clock)) (hf:Instr.findNow (.int .i64) (iV z) es.toList 0=some none)
  (h:∀w',w'.heap[B]? =some (.map (es.push ⟨iV z,v,clock⟩) (clock+1))→av B w w'→wpList Tryz.prog ops Q rest (a.put o.dst undef) w'):wpList Tryz.prog ops Q (o::rest) a w:=
 Bm fun K hK=>by
  rw[if_pos hw];have rT:=JT (v:=v) hb hf;have hs:=MapKept.heap_set (o':= .map (es.push ⟨iV z,v,clock⟩) (clock+1)) hb;have:=hK _ _ (h {w with heap:=w.heap.setIfInBounds B (.map (es.push ⟨iV z,v,clock⟩) (clock+1))} hs.1 ⟨rfl,rfl,rfl,by simp,fun r hr=>hs.2 r hr⟩);unfold Oper.wp;simp only[execOp,ho,hm,hk,hx];simp[rT,Result.andThen];exact this
theorem Zf{ops:tP}{rest:List Oper}{o:Oper}{a:Act}{Q:tI}{w:tA}(ho:o.op= .makeMap 144 none)(hw:Region.wanted o (yielded ops a.tmps)=true)
  (h:∀w',w'.heap[w.heap.size]? =some (.map #[] 0)→bZ w w'→wpList Tryz.prog ops Q rest (a.put o.dst (.map (some w.heap.size))) w'):wpList Tryz.prog ops Q (o::rest) a w:=
 Bm fun K hK=>by
  rw[if_pos hw];have:=hK _ _ (h _ (AQ w _) (aA _ _));unfold Oper.wp;simp only[execOp,ho];simp[run_makeMap_plain,Result.andThen];exact this
def sU:Obj:= .map #[⟨iV 1,.func (.func 103) #[] #[],0⟩,⟨iV 2,.func (.func 104) #[] #[],1⟩,⟨iV 3,.func (.func 105) #[] #[],2⟩,⟨iV 4,.func (.func 106) #[] #[],3⟩] 4
theorem GP(w:tA):
  cA 61 #[] w fun e w'=>e= .returned (.map (some w.heap.size))∧w'.heap[w.heap.size]? =some sU∧bZ w w':=by
 go_enter Tryz.func61,Tryz.ntmps61
 go_wp2_with (first
  |(refine Zf rfl rfl ?_;intro W1 m1 b1;have k1:=ah b1;clear b1)
  |(refine sT (es:= #[]) _ _ _ rfl rfl rfl rfl rfl m1 rfl ?_;intro W2 m2 t2;have k2:=ah (t2.under (aa k1) (Aa _));clear t2 m1)
  |(refine sT (clock:=1) _ _ _ rfl rfl rfl rfl rfl m2 rfl ?_;intro W3 m3 t3;have k3:=ah (t3.under (aa k2) (Aa _));clear t3 m2)
  |(refine sT (clock:=2) _ _ _ rfl rfl rfl rfl rfl m3 rfl ?_;intro W4 m4 t4;have k4:=ah (t4.under (aa k3) (Aa _));clear t4 m3)
  |(refine sT (clock:=3) _ _ _ rfl rfl rfl rfl rfl m4 rfl ?_;intro W5 m5 t5;have k5:=ah (t5.under (aa k4) (Aa _));clear t5 m4;have M5:=ah m5;clear m5))
 go_ret;exact⟨rfl,aa M5,aa k5⟩
def methodOf(k:Int):Nat:=if k=1 then 103 else if k=2 then 104 else if k=3 then 105 else 106
theorem JU{w:tA}{B:Nat}(h:w.heap[B]? =some sU):∀k:Int,(k=1∨k=2∨k=3∨k=4)→
  (Instr.lookup 144 (.map (some B)) (iV k) false).run Tryz.prog w= .ok (.func (.func (methodOf k)) #[] #[]) w:=by
 intro k hk;have hc:(Instr.checkKey false 10000 3 (iV k)).run Tryz.prog w= .ok () w:=AW (k:=iV k) Tryz.underlying3 (by simp[MapKept.IsKey]) false 9999;unfold sU at h;rcases hk with rfl|rfl|rfl|rfl
 ·have hf:Instr.findNow (.int .i64) (iV 1) [(⟨iV 1,.func (.func 103) #[] #[],0⟩:tf),⟨iV 2,.func (.func 104) #[] #[],1⟩,⟨iV 3,.func (.func 105) #[] #[],2⟩,⟨iV 4,.func (.func 106) #[] #[],3⟩] 0=some (some (0,.func (.func 103) #[] #[])):=rfl;simp[Instr.lookup,run_underlying Tryz.underlying144,MapKept.run_getObj_map h,hc,MapKept.run_findKey Tryz.underlying3 hf,Result.andThen,methodOf]
 ·have hf:Instr.findNow (.int .i64) (iV 2) [(⟨iV 1,.func (.func 103) #[] #[],0⟩:tf),⟨iV 2,.func (.func 104) #[] #[],1⟩,⟨iV 3,.func (.func 105) #[] #[],2⟩,⟨iV 4,.func (.func 106) #[] #[],3⟩] 0=some (some (1,.func (.func 104) #[] #[])):=rfl;simp[Instr.lookup,run_underlying Tryz.underlying144,MapKept.run_getObj_map h,hc,MapKept.run_findKey Tryz.underlying3 hf,Result.andThen,methodOf]
 ·have hf:Instr.findNow (.int .i64) (iV 3) [(⟨iV 1,.func (.func 103) #[] #[],0⟩:tf),⟨iV 2,.func (.func 104) #[] #[],1⟩,⟨iV 3,.func (.func 105) #[] #[],2⟩,⟨iV 4,.func (.func 106) #[] #[],3⟩] 0=some (some (2,.func (.func 105) #[] #[])):=rfl;simp[Instr.lookup,run_underlying Tryz.underlying144,MapKept.run_getObj_map h,hc,MapKept.run_findKey Tryz.underlying3 hf,Result.andThen,methodOf]
 ·have hf:Instr.findNow (.int .i64) (iV 4) [(⟨iV 1,.func (.func 103) #[] #[],0⟩:tf),⟨iV 2,.func (.func 104) #[] #[],1⟩,⟨iV 3,.func (.func 105) #[] #[],2⟩,⟨iV 4,.func (.func 106) #[] #[],3⟩] 0=some (some (3,.func (.func 106) #[] #[])):=rfl;simp[Instr.lookup,run_underlying Tryz.underlying144,MapKept.run_getObj_map h,hc,MapKept.run_findKey Tryz.underlying3 hf,Result.andThen,methodOf]
abbrev gY(c he no bd:Int):Value:= .agg #[iV c,iV he,iV no,iV bd]
def aQ(w:tA)(R:Nat)(c he no bd:Int):Prop:=w.heap[R]? =some (.cells #[iV c,iV he,iV no,iV bd] 59 (0,0))
theorem aQ.cells{w:tA}{R:Nat}{c he no bd:Int}(h:aQ w R c he no bd):w.cell? ⟨R,0,none⟩=some (iV c)∧w.cell? ⟨R,1,none⟩=some (iV he)∧w.cell? ⟨R,2,none⟩=some (iV no)∧w.cell? ⟨R,3,none⟩=some (iV bd):=by
 unfold aQ at h;simp[World.cell?,h]
theorem aQ.free{w:tA}{R:Nat}{c he no bd:Int}(h:aQ w R c he no bd)(o:Nat):w.frozen? ⟨R,o,none⟩=false:=by
 unfold aQ at h;simp[World.frozen?,h]
theorem aQ.lt{w:tA}{R:Nat}{c he no bd:Int}(h:aQ w R c he no bd):R<w.heap.size:=by
 unfold aQ at h;rcases AA R w.heap.size with h'|h'
 ·exact h'
 ·simp[Array.getElem?_eq_none h']at h
theorem aQ.below{w w':tA}{R B:Nat}{c he no bd:Int}(h:aQ w R c he no bd)(hb:Below B w w')(hR:R<B):aQ w' R c he no bd:=by
 unfold aQ at h⊢;rw[←h];exact hb.block R hR
theorem aQ.next{w w':tA}{R:Nat}{c he no bd:Int}(h:aQ w R c he no bd)(hb:bZ w w'):aQ w' R c he no bd:=h.below hb h.lt
theorem aQ.new(w:tA)(c he no bd:Int):aQ (w.alloc (.cells #[iV c,iV he,iV no,iV bd] 59)) w.heap.size c he no bd:=AQ w _
theorem aQ.dC{w w':tA}{R R':Nat}{c he no bd:Int}(h:aQ w R c he no bd)(t:av R' w w')(hR:R≠R'):aQ w' R c he no bd:=by
 unfold aQ at h⊢;rw[t.block R hR];exact h
abbrev xI(w:tA)(R:Nat)(c he no bd:Int):World:=(((w.setCell ⟨R,0,none⟩ (iV c)).setCell ⟨R,1,none⟩ (iV he)).setCell ⟨R,2,none⟩ (iV no)).setCell ⟨R,3,none⟩ (iV bd)
theorem aQ.store{w:tA}{R:Nat}{c he no bd:Int}(h:aQ w R c he no bd)(c' xv no' bd':Int):aQ (xI w R c' xv no' bd') R c' xv no' bd':=by
 unfold aQ at h⊢;rw[xI,heap_set (heap_set (heap_set (heap_set h)))];simp
theorem gl(w:tA)(R:Nat)(c he no bd:Int):av R w (xI w R c he no bd):=
 (((av.set R 0 w _).trans (av.set R 1 _ _)).trans (av.set R 2 _ _)).trans (av.set R 3 _ _)
theorem zW{W:tA}{R:Nat}{c he no bd:Int}{b:Bool}{tmps:tR}(h:aQ W R c he no bd)(t:tmps[2]? =some (.pointer (some ⟨R,0,none⟩)))(tb:tmps[3]? =some (.bool b)):
  (results Tryz.f155 tmps).run Tryz.prog W= .ok (.tuple #[gY c he no bd,.bool b]) W:=by
 obtain⟨k0,k1,k2,k3⟩:=h.cells;simp[results,Tryz.results155,go_sem,k0,k1,k2,k3,t,tb]
theorem dJ(c:Int)(w:tA):
  cA 155 #[iV c] w (rB (.tuple #[gY c 0 0 0,.bool false]) w):=by
 go_enter Tryz.func155,Tryz.ntmps155;go_wp2;exact Al (zW (aQ.new w _ _ _ _) rfl rfl) rfl ⟨rfl,aA _ _⟩
theorem GQ:∀(l:tM) (k:Nat) (Z:tR),k+l.length≤Z.size→(List.foldl (fun(cs:tR) (x:Value×Nat)=>cs.setIfInBounds x.snd x.fst) Z (l.zipIdx k)).size=Z.size∧
  ∀i,(List.foldl (fun(cs:tR) (x:Value×Nat)=>cs.setIfInBounds x.snd x.fst) Z (l.zipIdx k))[i]? =if k≤i∧i<k+l.length then l[i-k]? else Z[i]?
 |[],k,Z,_=>⟨rfl,fun i=>by rw[if_neg (by simp)];rfl⟩
 |v::l,k,Z,h=>by
  simp only[List.length_cons]at h;obtain⟨h1,h2⟩:=GQ l (k+1) (Z.setIfInBounds k v) (by simp;omega);simp only[List.zipIdx_cons,List.foldl_cons];refine⟨by simpa using h1,fun i=> ?_⟩;rw[h2];by_cases ha:k+1≤i∧i<k+1+l.length
  ·rw[if_pos ha,if_pos ⟨by omega,by simp;omega⟩,show i-k=(i-(k+1))+1 by omega];rfl
  ·rw[if_neg ha];by_cases hi:i=k
   ·subst hi;rw[if_pos ⟨by omega,by simp⟩];simp[show i<Z.size by omega]
   ·rw[if_neg (by simp;omega)];simp[show ¬k=i by omega]
theorem JV(l:tM)(Z:tR)(h:l.length=Z.size):List.foldl (fun(cs:tR) (x:Value×Nat)=>cs.setIfInBounds x.snd x.fst) Z (l.zipIdx 0)=l.toArray:=by
 obtain⟨h1,h2⟩:=GQ l 0 Z (by omega);apply BS;intro i;rw[h2];by_cases hi:i<l.length
 ·rw[if_pos ⟨by omega,by omega⟩];simp
 ·rw[if_neg (by omega),Bc (by omega),Bc (by simp;omega)]
theorem Q4(ep nx gv:Int)(r l:tK)(ws:tD)(w:tA):(Instr.build 148 #[(0,iF ep nx gv r l ws)]).run Tryz.prog w= .ok (iF ep nx gv r l ws) w:=by
 have hC:=cT ep nx gv r l ws;have hl:(kV ep nx gv r l ws).length=41:=by simp[kV,mO]
 simp[Instr.build,run_underlying Tryz.underlying148,Tryz.zeroValue148,go_sem,hC];have e:(dR ep nx gv r l ws).zipIdx=((kV ep nx gv r l ws).zipIdx 0).toArray:=by simp[dR]
 have hz:((kV ep nx gv r l ws).zipIdx 0).toArray.size=41:=by simp[hl]
 rw[e];generalize hA:((kV ep nx gv r l ws).zipIdx 0).toArray=A at hz;rw[←hz,←Array.foldl_toList,←hA];exact JV _ _ (by rw[hl];rfl)
def bg(w:tA)(R:Nat)(ep nx gv:Int)(r l:tK)(ws:tD):Prop:=w.heap[R]? =some (.cells (dR ep nx gv r l ws) 148 (0,0))
section
variable{w w':tA}{R B:Nat}{ep nx gv:Int}{r l:tK}{ws:tD}
theorem bg.lt(h:bg w R ep nx gv r l ws):R<w.heap.size:=by
 unfold bg at h;rcases AA R w.heap.size with h'|h'
 ·exact h'
 ·simp[Array.getElem?_eq_none h']at h
theorem bg.below(h:bg w R ep nx gv r l ws)(hb:Below B w w')(hR:R<B):bg w' R ep nx gv r l ws:=by
 unfold bg at h⊢;rw[←h];exact hb.block R hR
theorem bg.next(h:bg w R ep nx gv r l ws)(hb:bZ w w'):bg w' R ep nx gv r l ws:=h.below hb h.lt
theorem bg.new(w:tA)(ep nx gv:Int)(r l:tK)(ws:tD):bg (w.alloc (.cells (dR ep nx gv r l ws) 148)) w.heap.size ep nx gv r l ws:=AQ w _
theorem bg.free(h:bg w R ep nx gv r l ws)(o:Nat):w.frozen? ⟨R,o,none⟩=false:=by
 unfold bg at h;simp[World.frozen?,h]
theorem bg.at(h:bg w R ep nx gv r l ws)(i:Nat):w.cell? ⟨R,i,none⟩=(dR ep nx gv r l ws)[i]? :=by
 unfold bg at h;simp[World.cell?,h]
theorem bg.heads(h:bg w R ep nx gv r l ws):
  w.cell? ⟨R,0,none⟩=some (iV ep)∧w.cell? ⟨R,1,none⟩=some (iV nx)∧w.cell? ⟨R,2,none⟩=some (iV gv)∧w.cell? ⟨R,3,none⟩=some r∧w.cell? ⟨R,4,none⟩=some l:=by
 obtain⟨h0,h1,h2,h3,h4⟩:=oG ep nx gv r l ws;exact⟨(h.at 0).trans h0,(h.at 1).trans h1,(h.at 2).trans h2,(h.at 3).trans h3,(h.at 4).trans h4⟩
theorem bg.dC{R':Nat}(h:bg w R ep nx gv r l ws)(t:av R' w w')(hR:R≠R'):bg w' R ep nx gv r l ws:=by
 unfold bg at h⊢;rw[t.block R hR];exact h
theorem bg.LO(h:bg w R ep nx gv r l ws)(x:Int):bg (w.setCell ⟨R,0,none⟩ (iV x)) R x nx gv r l ws:=by
 have:=heap_set (o:=0) (v:=iV x) h;unfold bg;rw[this];rfl
theorem bg.given(h:bg w R ep nx gv r l ws)(x:Int):bg (w.setCell ⟨R,2,none⟩ (iV x)) R ep nx x r l ws:=by
 have:=heap_set (o:=2) (v:=iV x) h;unfold bg;rw[this];rfl
theorem bg.ready(h:bg w R ep nx gv r l ws)(r':tK):bg (w.setCell ⟨R,3,none⟩ r') R ep nx gv r' l ws:=by
 have:=heap_set (o:=3) (v:=r') h;unfold bg;rw[this];rfl
theorem bg.xH(h:bg w R ep nx gv r l ws)(l':tK):bg (w.setCell ⟨R,4,none⟩ l') R ep nx gv r l' ws:=by
 have:=heap_set (o:=4) (v:=l') h;unfold bg;rw[this];rfl
theorem Vr{ops:tP}{rest:List Oper}{o:Oper}{a:Act}{Q:tI}(x:tU)(ho:o.op= .build 148 #[(0,x)])(hw:Region.wanted o (yielded ops a.tmps)=true)(hx:a.eval x=iF ep nx gv r l ws)
  (h:wpList Tryz.prog ops Q rest (a.put o.dst (iF ep nx gv r l ws)) w):wpList Tryz.prog ops Q (o::rest) a w:=
 Bm fun K hK=>by
  rw[if_pos hw];have rT:=Q4 ep nx gv r l ws w;have:=hK _ _ h;unfold Oper.wp;simp only[execOp,ho];simp only[List.map_toArray,List.map_cons,List.map_nil,hx];simp[rT,Result.andThen];exact this
theorem abS{ops:tP}{rest:List Oper}{o:Oper}{a:Act}{Q:tI}(x:tU)(ho:o.op= .box 148 x)(hw:Region.wanted o (yielded ops a.tmps)=true)(hx:a.eval x=iF ep nx gv r l ws)
  (h:∀w',bg w' w.heap.size ep nx gv r l ws→bZ w w'→wpList Tryz.prog ops Q rest (a.put o.dst (.pointer (some ⟨w.heap.size,0,none⟩))) w'):wpList Tryz.prog ops Q (o::rest) a w:=
 Bm fun K hK=>by
  rw[if_pos hw];have:=hK _ _ (h _ (bg.new w ep nx gv r l ws) (aA _ _));unfold Oper.wp;simp only[execOp,ho,hx];simpa[go_sem]using this
end
theorem di{P:tY}{w:tA}{ops:tP}{rest:List Oper}{o:Oper}{a:Act}{Q:tI}(Nu:o.guard=none)(s x:tU)(t:tZ)
  (ho:o.op= .call {callee:= .builtin .append,args:= #[s,x],argTypes:= #[t,t]})
  (base:Nat) (e:tZ) (i:TypeInfo) (z:tK) (size bytes:Nat) (ht:P.underlying t=some (.slice e)) (hi:P.info? e=some i) (hz:i.zero=some z)
  (Gp:i.size=size) (wI:i.bytes=bytes) (LA:z.cells.size=size) (iE:0<size)
  (v:tK) (n:Nat) (xs:tG) (hs:a.eval s=v) (bM:w.ownsRow base e size v n (xs.map (Value.int .i64)))
  (ad:tB) (m c:Nat) (l:tG) (hx:a.eval x= .slice ad m c) (hr:RowK .i64 w ad (size*m) l) (pz:ad=none→c=0)
  (Gq:n+m≤maxLen) (xl:(n+m)*bytes≤140737488355328) (dQ:base≤w.heap.size)
  (h:∀v' w',w'.ownsRow base e size v' (n+m) ((xs++l).map (Value.int .i64))→w.grownBy w' v.ownBlock→wpList P ops Q rest (a.put o.dst v') w'):wpList P ops Q (o::rest) a w:=by
 cases ad with
 |none=>
  have hm:m=0:=by
   by_cases h0:0<size*m
   ·obtain⟨_,_,h',_⟩:=hr.cell 0 h0;cases h'
   ·rcases Ch m with hm|hm
    ·exact hm
    ·exact absurd (Nat.mul_pos iE hm) h0
  subst hm;have hl:l=[]:=List.length_eq_zero_iff.1 (by simpa using hr.cy);subst hl;refine wpList_append_own_none Nu s x t ho base e i size ht hi v n _ hs bM (by rw[hx,pz rfl]) ?_;exact h v w (by simpa using bM) (World.grownBy.refl _ _)
 |some x0=>
  refine Cl w Nu s x t ho base e i z size bytes ht hi hz Gp wI LA iE v n _ hs bM x0 m c (l.map (Value.int .i64)) hx (by rw[AX,hr.cy,Bl]) ?_ (Cp _ _) Gq xl dQ ?_
  ·intro j u hj;have YR:j<l.length:=by
    rcases AA j l.length with h'|h'
    ·exact h'
    ·simp[List.getElem?_eq_none h']at hj
   obtain⟨b,off,hb,_,hc⟩:=hr.cell j (by rw[←hr.cy];exact YR);simp only[Option.some.injEq]at hb;subst hb;rw[BG,hc];simp[List.getElem?_eq_getElem YR]at hj;simp[List.getElem?_eq_getElem YR,hj]
  ·intro v' w' h1 h2 _;exact h v' w' (by rw[AB];exact h1) h2
theorem JW(ep nx gv:Int)(ra la:tB)(rn rc ln lc:Nat)(R L:tG)(ws:tD)(w:tA)(hR:RowK .i64 w ra (2*rn) R)(hL:RowK .i64 w la (4*ln) L)(nR:ra=none→rc=0)(nL:la=none→lc=0)(hs:rn+ln≤500):
    cA 60 #[iF ep nx gv (.slice ra rn rc) (.slice la ln lc) ws] w fun e w'=>∃B a1 c1 a2 c2,e= .returned (.pointer (some ⟨B,0,none⟩))∧w.heap.size≤B∧bg w' B ep nx gv (.slice a1 rn c1) (.slice a2 ln c2) ws∧
      w'.ownsRow w.heap.size 87 2 (.slice a1 rn c1) rn (R.map (Value.int .i64))∧w'.ownsRow w.heap.size 232 4 (.slice a2 ln c2) ln (L.map (Value.int .i64))∧bZ w w':=by
  obtain⟨i1,hi1,Q5,hz11,hz12⟩:=iq Tryz.LS;obtain⟨i2,Ya,hz20,hz21,hz22⟩:=iq Tryz.uF;go_enter Tryz.func60,Tryz.ntmps60
  go_wp2_with (first
    |(refine abR 1 _ rfl rfl rfl rfl ?_;intro W1 q1 b1;obtain⟨c0,c1,c2,c3,c4⟩:=q1.heads)
    |(at_builtin;refine di rfl (.const (.slice none 0 0)) (.tmp 4) 73 rfl (w.heap.size+1) 87 i1 _ 2 16 Tryz.underlying73 hi1 Q5 hz11 hz12 rfl (by decide) (.slice none 0 0) 0 [] rfl (Bn _ _ _ _) ra rn rc R rfl (hR.below b1) nR (by unfold maxLen;omega) (by omega) (by have:=q1.lt;omega) ?_;intro v1 W2 o1 g1
      simp only[Nat.zero_add,List.nil_append]at o1;obtain⟨a1,k1,rfl⟩:=lY o1;have b2:Below (w.heap.size+1) W1 W2:=(Be _ _).grown g1 (by have:=q1.lt;omega) (by simp[Value.ownBlock]);have q2:=q1.below b2 (by omega);have l2:w.heap.size+1≤W2.heap.size:=by have:=b2.size;have:=q1.lt;omega
      clear c0 c1 c2 c3 c4;obtain⟨c0,c1,c2,c3,c4⟩:=q2.heads;have f2:=q2.free;have T2:=av.set w.heap.size 3 W2 (.slice a1 rn k1);have q3:=q2.ready (.slice a1 rn k1);have O1:=ah (T2.own o1 (by omega));have zX:=ah (T2.under (b1.trans (b2.mono (by omega))) (Aa _));have HZ3:=ah (show w.heap.size+1≤(W2.setCell ⟨w.heap.size,3,none⟩ (.slice a1 rn k1)).heap.size by rw[T2.size];exact l2)
      clear o1 g1 T2 b2 l2 q2)
    |(at_builtin;refine di rfl (.const (.slice none 0 0)) (.tmp 8) 74 rfl (w.heap.size+1) 232 i2 _ 4 32 Tryz.underlying74 Ya hz20 hz21 hz22 rfl (by decide) (.slice none 0 0) 0 [] rfl (Bn _ _ _ _) la ln lc L rfl (hL.below (aa zX)) nL (by unfold maxLen;omega) (by omega) (aa HZ3) ?_;intro v2 W4 o2 g2
      simp only[Nat.zero_add,List.nil_append]at o2;obtain⟨a2,k2,rfl⟩:=lY o2;have b4:=(Be (w.heap.size+1) (W2.setCell ⟨w.heap.size,3,none⟩ (.slice a1 rn k1))).grown g2 (aa HZ3) (by simp[Value.ownBlock]);have q4:=q3.below b4 (by omega);clear c0 c1 c2 c3 c4;obtain⟨c0,c1,c2,c3,c4⟩:=q4.heads;have f4:=q4.free;have T4:=av.set w.heap.size 4 W4 (.slice a2 ln k2);have q5:=q4.xH (.slice a2 ln k2);have O1':=ah (T4.own (qx (aa O1) g2 (by simp[Value.ownBlock])) (by omega));have O2:=ah (T4.own o2 (by omega));have Vs:=ah (T4.under ((aa zX).trans (b4.mono (by omega))) (Aa _))
      clear o2 g2 T4 b4 q4)
    |(refine EX _ rfl rfl rfl q5 ?_)
    |(refine Vr _ rfl rfl rfl ?_)
    |(refine abS _ rfl rfl rfl ?_;intro W6 d6 b6))
  have l5:=q5.lt;have e5:(W4.setCell ⟨w.heap.size,4,none⟩ (.slice a2 ln k2)).heap.size=W4.heap.size:=(av.set _ _ _ _).size;have O6:=lJ (aI (aa O1') (fun g _ hg=>b6.block g hg)) (Bv w.heap.size);have O7:=lJ (aI (aa O2) (fun g _ hg=>b6.block g hg)) (Bv w.heap.size);have B7:=Below.next (aa Vs) b6;rw[e5]at l5 d6;go_ret;exact⟨_,_,_,_,_,rfl,by omega,d6,O6,O7,B7⟩
structure qU(w:tA)(base B:Nat)(ep nx gv:Int)(a1:tB)(rn c1:Nat)(a2:tB)(ln c2:Nat)(R L:tG)(ws:tD):Prop where
 d:bg w B ep nx gv (.slice a1 rn c1) (.slice a2 ln c2) ws
 up:base≤B
 o1:w.ownsRow base 87 2 (.slice a1 rn c1) rn (R.map (Value.int .i64))
 o2:w.ownsRow base 232 4 (.slice a2 ln c2) ln (L.map (Value.int .i64))
 wR:∀u∈R,(Lit.int .i64 u).wf=true
 wL:∀u∈L,(Lit.int .i64 u).wf=true
def jF(w:tA)(base B:Nat)(ep nx gv:Int)(rn:Nat)(R:tG)(ln:Nat)(L:tG)(wt:tH)(wz:Nat→Nat→Bool):Prop:=
 ∃a1 c1 a2 c2 ws,bg w B ep nx gv (.slice a1 rn c1) (.slice a2 ln c2) ws∧RowK .i64 w a1 (2*rn) R∧RowK .i64 w a2 (4*ln) L∧rn≤c1∧ln≤c2∧(a1=none→c1=0)∧(a2=none→c2=0)∧gN ws wt wz∧(∀x,a1=some x→base≤x.block)∧(∀x,a2=some x→base≤x.block)
section
variable{w w':tA}{base B:Nat}{ep nx gv:Int}{a1 a2:tB}{rn c1 ln c2:Nat}{R L:tG}{ws:tD}{wt:tH}{wz:Nat→Nat→Bool}
theorem qU.out(D:qU w base B ep nx gv a1 rn c1 a2 ln c2 R L ws)(hW:gN ws wt wz):jF w base B ep nx gv rn R ln L wt wz:=by
 obtain⟨_,_,e1,r1,l1,_,n1,x1⟩:=RowK.eO D.o1 D.wR;obtain⟨_,_,e2,r2,l2,_,n2,x2⟩:=RowK.eO D.o2 D.wL;cases e1;cases e2;exact⟨a1,c1,a2,c2,ws,D.d,r1,r2,l1,l2,n1,n2,hW,x1,x2⟩
theorem qU.next(D:qU w base B ep nx gv a1 rn c1 a2 ln c2 R L ws)(hb:bZ w w'):qU w' base B ep nx gv a1 rn c1 a2 ln c2 R L ws:=
 ⟨D.d.next hb,D.up,aI D.o1 (fun g _ hg=>hb.block g hg),aI D.o2 (fun g _ hg=>hb.block g hg),D.wR,D.wL⟩
theorem aT{e t size n:Nat}{v:tK}{xs:tM}{cs:tR}(o:w.ownsRow base e size v n xs)(h:w.heap[B]? =some (.cells cs t (0,0)))(he:e≠t):∀g,v.ownBlock=some g→g≠B:=by
 intro g hg hgB;subst hgB;rcases o.2 with⟨rfl,_⟩|⟨g1,cap,cur,rfl,_,h3,_⟩
 ·cases hg
 ·simp only[Value.ownBlock,Option.some.injEq]at hg;subst hg;rw[h3]at h;simp only[Option.some.injEq,Obj.cells.injEq]at h;exact he h.2.1
theorem av.owns{e size n:Nat}{v:tK}{xs:tM}(t:av B w w')(o:w.ownsRow base e size v n xs)(fM:∀g,v.ownBlock=some g→g≠B):w'.ownsRow base e size v n xs:=
 aI o (fun g hg _=>t.block g (fM g hg))
end
theorem pM{W:tA}{R:Nat}{c he no bd:Int}{b:Bool}{tmps:tR}(h:aQ W R c he no bd)(t:tmps[4]? =some (.pointer (some ⟨R,0,none⟩)))(tb:tmps[5]? =some (.bool b)):
  (results Tryz.f104 tmps).run Tryz.prog W= .ok (.tuple #[gY c he no bd,.bool b]) W:=by
 obtain⟨k0,k1,k2,k3⟩:=h.cells;simp[results,Tryz.results104,go_sem,k0,k1,k2,k3,t,tb]
abbrev xJ(k p i b he hn:Int):Value:= .agg #[iV k,iV p,iV i,iV b,iV he,iV hn]
theorem Fa{w w1:tA}{k p i b he hn:Int}(b1:Below ((w.alloc (.cells #[iV k,iV p,iV i,iV b,iV he,iV hn] 55)).alloc (.cells #[iV 0,iV 0,iV 0,iV 0] 59)).heap.size ((w.alloc (.cells #[iV k,iV p,iV i,iV b,iV he,iV hn] 55)).alloc (.cells #[iV 0,iV 0,iV 0,iV 0] 59)) w1):
  aQ w1 (w.heap.size+1) 0 0 0 0∧bZ w w1:=by
 have z:=(aQ.new (w.alloc (.cells #[iV k,iV p,iV i,iV b,iV he,iV hn] 55)) 0 0 0 0).next b1;have e:(w.alloc (.cells #[iV k,iV p,iV i,iV b,iV he,iV hn] 55)).heap.size=w.heap.size+1:=by simp
 rw[e]at z;exact⟨z,sG b1⟩
theorem xK(base B:Nat)(ep nx gv:Int)(a1:tB)(rn c1:Nat)(a2:tB)(ln c2:Nat)(R L:tG)(ws:tD)(wt:tH)(wz:Nat→Nat→Bool)(k p i b he hn:Int)(w:tA)(D:qU w base B ep nx gv a1 rn c1 a2 ln c2 R L ws)(hW:gN ws wt wz)(dQ:base≤w.heap.size)(code:Int)(hc:(rn=0∧code=10)∨(0<rn∧gv=1073741824∧code=14)):
  cA 104 #[.pointer (some ⟨B,0,none⟩),xJ k p i b he hn] w fun e w'=>e= .returned (.tuple #[gY code 0 0 0,.bool false])∧jF w' base B ep nx gv rn R ln L wt wz∧Below base w w':=by
 obtain⟨d0,d1,d2,d3,d4⟩:=D.d.heads;have hBl:=D.d.lt;have Yb:B≠w.heap.size:=by omega
 have NT:B≠w.heap.size+1:=by omega
 have HD:=ah D;have HBW:Hid (∀w',bZ w w'→jF w' base B ep nx gv rn R ln L wt wz∧Below base w w'):=ah fun w' hb=>⟨(D.next hb).out hW,hb.mono dQ⟩;clear D;rcases hc with⟨rfl,rfl⟩|⟨h0,rfl,rfl⟩
 ·go_enter Tryz.func104,Tryz.ntmps104
  go_wp2_with (go_at_call 155;refine(dJ _ _).mono ?_;rintro e w1 ⟨rfl,b1⟩;obtain⟨z1,b2⟩:=Fa b1;obtain⟨y0,y1,y2,y3⟩:=z1.cells;have yf:=z1.free;have HZ:=ah z1;have HB:=ah b2;clear b1 z1 b2)
  obtain⟨r1,r2⟩:=aa HBW _ ((gl w1 (w.heap.size+1) _ 0 0 0).under (aa HB) (Bv _));exact Al (pM ((aa HZ).store _ 0 0 0) rfl rfl) rfl ⟨rfl,r1,r2⟩
 ·go_enter Tryz.func104,Tryz.ntmps104
  go_wp2_with (go_at_call 155;refine(dJ _ _).mono ?_;rintro e w1 ⟨rfl,b1⟩;obtain⟨z1,b2⟩:=Fa b1;obtain⟨y0,y1,y2,y3⟩:=z1.cells;have yf:=z1.free;have HZ:=ah z1;have HB:=ah b2;clear b1 z1 b2)
  obtain⟨r1,r2⟩:=aa HBW _ ((gl w1 (w.heap.size+1) _ 0 0 0).under (aa HB) (Bv _));exact Al (pM ((aa HZ).store _ 0 0 0) rfl rfl) rfl ⟨rfl,r1,r2⟩
theorem JX(w:tA)(k p i b he hn:Int):∃W,W=(w.alloc (.cells #[iV k,iV p,iV i,iV b,iV he,iV hn] 55)).alloc (.cells #[iV 0,iV 0,iV 0,iV 0] 59)∧
  aQ W (w.heap.size+1) 0 0 0 0∧bZ w W∧W.heap.size=w.heap.size+2∧W.heap[w.heap.size]? =some (.cells #[iV k,iV p,iV i,iV b,iV he,iV hn] 55 (0,0)):=by
 obtain⟨h1,h2⟩:=Fa (Be _ ((w.alloc (.cells #[iV k,iV p,iV i,iV b,iV he,iV hn] 55)).alloc (.cells #[iV 0,iV 0,iV 0,iV 0] 59)));exact⟨_,rfl,h1,h2,by simp,heap_alloc2_old w _ _⟩
structure JY(w wx:tA)(M H:Nat)(x0 x1 ep gv:Int):Prop where
 m:wx.heap[M]? =some (.cells #[iV x0,iV x1] 87 (0,0))
 h:wx.heap[H]? =some (.cells #[iV ep,iV gv] 53 (0,0))
 cP:bZ w wx
 upM:w.heap.size≤M
 upH:w.heap.size≤H
theorem JY.mh(w:tA)(x0 x1 ep gv:Int):JY w ((w.alloc (.cells #[iV x0,iV x1] 87)).alloc (.cells #[iV ep,iV gv] 53)).drew w.heap.size (w.heap.size+1) x0 x1 ep gv:=
 ⟨heap_alloc2_old w _ _,heap_alloc2_new w _ _,Below.next (gj _ _ _) ⟨rfl,rfl,rfl,Aa _,fun _ _=>rfl⟩,Aa _,Bv _⟩
theorem JY.hm(w:tA)(x0 x1 ep gv:Int):JY w ((w.alloc (.cells #[iV ep,iV gv] 53)).alloc (.cells #[iV x0,iV x1] 87)).drew (w.heap.size+1) w.heap.size x0 x1 ep gv:=
 ⟨heap_alloc2_new w _ _,heap_alloc2_old w _ _,Below.next (gj _ _ _) ⟨rfl,rfl,rfl,Aa _,fun _ _=>rfl⟩,Bv _,Aa _⟩
structure Rc(w wx:tA)(base B:Nat)(ep nx gv:Int)(v1:tK)(a2:tB)(ln c2:Nat)(L:tG)(ws:tD)(g rn c1:Nat)(R:tG)(M H A:Nat)(x0 x1 gv0:Int):Prop where
 d:bg wx B ep nx gv v1 (.slice a2 ln c2) ws
 o1:wx.ownsRow base 87 2 (.slice (some ⟨g,0,none⟩) rn c1) rn (R.map (Value.int .i64))
 o2:wx.ownsRow base 232 4 (.slice a2 ln c2) ln (L.map (Value.int .i64))
 m:wx.heap[M]? =some (.cells #[iV x0,iV x1] 87 (0,0))
 h:wx.heap[H]? =some (.cells #[iV ep,iV gv0] 53 (0,0))
 a:aQ wx A 0 0 0 0
 cP:Below base w wx
 up:base≤B
section
variable{w wx W5 w5:tA}{base B:Nat}{ep nx gv:Int}{v1:tK}{a2 a3:tB}{ln c2 c3:Nat}{L:tG}{ws:tD}{g rn c1:Nat}{R:tG}{M H A:Nat}{x0 x1 gv0:Int}
theorem bQ{w:tA}{X:Nat}{o:Obj}(h:w.heap[X]? =some o):X<w.heap.size:=by
 rcases AA X w.heap.size with h'|h'
 ·exact h'
 ·rw[Bc h']at h;cases h
theorem cM{w:tA}{X Y:Nat}{cs Qf:tR}{t t':tZ}(h:w.heap[X]? =some (.cells cs t (0,0)))(h':w.heap[Y]? =some (.cells Qf t' (0,0)))(ht:t≠t'):X≠Y:=by
 rintro rfl;rw[h]at h';simp only[Option.some.injEq,Obj.cells.injEq]at h';exact ht h'.2.1
theorem Rc.turn(C:Rc w wx base B ep nx gv v1 a2 ln c2 L ws g rn c1 R M H A x0 x1 gv0){wy:tA}(t:av B wx wy){NQ NR NS:Int}{v1':tK}(JZ:NQ=ep)(d:bg wy B NQ NR NS v1' (.slice a2 ln c2) ws):Rc w wy base B ep NR NS v1' a2 ln c2 L ws g rn c1 R M H A x0 x1 gv0:=by
 subst JZ;exact⟨d,t.owns C.o1 (aT C.o1 C.d (by decide)),t.owns C.o2 (aT C.o2 C.d (by decide)),(t.block M (cM C.m C.d (by decide))).trans C.m,(t.block H (cM C.h C.d (by decide))).trans C.h,C.a.dC t (cM C.a C.d (by decide)),t.under C.cP C.up,C.up⟩
theorem Rc.GN(C:Rc w wx base B ep nx gv v1 a2 ln c2 L ws g rn c1 R M H A x0 x1 gv0)(b5:bZ wx W5)(gr:W5.grownBy w5 (Value.slice a2 ln c2).ownBlock)(ys:tG)(dQ:base≤wx.heap.size)
  (own:w5.ownsRow base 232 4 (.slice a3 (ln+1) c3) (ln+1) ((L++ys).map (Value.int .i64))):
  bg w5 B ep nx gv v1 (.slice a2 ln c2) ws∧Rc w (w5.setCell ⟨B,4,none⟩ (.slice a3 (ln+1) c3)) base B ep nx gv v1 a3 (ln+1) c3 (L++ys) ws g rn c1 R M H A x0 x1 gv0:=by
 have keep:∀X o,wx.heap[X]? =some o→(Value.slice a2 ln c2).ownBlock≠some X→w5.heap[X]? =some o:=by
  intro X o hX fM;have hl:=bQ hX;rw[gr.block X (by have:=b5.size;omega) (fun e=>fM e.symm),b5.block X hl];exact hX
 have hB:bg w5 B ep nx gv v1 (.slice a2 ln c2) ws:=keep B _ C.d (fun e=>aT C.o2 C.d (by decide) B e rfl);have t:=av.set B 4 w5 (.slice a3 (ln+1) c3);have hM:=keep M _ C.m (fun e=>aT C.o2 C.m (by decide) M e rfl);have hH:=keep H _ C.h (fun e=>aT C.o2 C.h (by decide) H e rfl);have hA:aQ w5 A 0 0 0 0:=keep A _ C.a (fun e=>aT C.o2 C.a (by decide) A e rfl);have o1':w5.ownsRow base 87 2 (.slice (some ⟨g,0,none⟩) rn c1) rn (R.map (Value.int .i64)):=
  qx (aI C.o1 (fun q _ hq=>b5.block q hq)) gr (fun q h1 h2=>jk C.o1 C.o2 (by decide) q h1 h2)
 have gO:Below base w w5:=(C.cP.trans (b5.mono dQ)).grown gr (by have:=b5.size;omega) (fun q hq=>(C.o2.lt q hq).1);exact⟨hB,hB.xH _,t.owns o1' (aT o1' hB (by decide)),t.owns own (aT own hB (by decide)),(t.block M (cM hM hB (by decide))).trans hM,(t.block H (cM hH hB (by decide))).trans hH,hA.dC t (cM hA hB (by decide)),t.under gO C.up,C.up⟩
end
theorem sV{x:Int}(h0:0≤x)(h1:x≤1073741825):(Lit.int .i64 x).wf=true:=by
 exact WalkArith.wf_i64 ⟨by omega,by omega⟩
theorem Vt{w:tA}{g o rn:Nat}{R:tG}(h:RowK .i64 w (some ⟨g,0,none⟩) (2*rn) R)(hr:0<rn)(ho:1<rn→o=2):RowK .i64 w (some ⟨g,o,none⟩) (2*(rn-1)) (R.drop 2):=by
 have hl:=h.cy;refine⟨by simp;omega,fun u hu=>h.wf u (Bj hu),fun i hi=> ?_⟩;refine⟨g,o,rfl,h.lt (by omega), ?_⟩;have:=h.at (2+i) (by omega);rw[ho (by omega)];rw[Ae]at this;rw[this];simp[List.getD_eq_getElem?_getD]
theorem GR(base B g:Nat)(ep nx gv:Int)(rn c1:Nat)(a2:tB)(ln c2:Nat)(R L:tG)(ws:tD)(wt:tH)(wz:Nat→Nat→Bool)(k p i b he hn:Int)(w:tA)(D:qU w base B ep nx gv (some ⟨g,0,none⟩) rn c1 a2 ln c2 R L ws)(hW:gN ws wt wz)(dQ:base≤w.heap.size)(h0:0<rn)(hs:rn+ln≤500)(g0:0≤gv)(g1:gv<1073741824)(wep:(Lit.int .i64 ep).wf=true):
  cA 104 #[.pointer (some ⟨B,0,none⟩),xJ k p i b he hn] w fun e w'=>e= .returned (.tuple #[gY 0 ep gv (R.getD 1 0),.bool true])∧jF w' base B ep nx (gv+1) (rn-1) (R.drop 2) (ln+1) (L++[ep,gv,R.getD 0 0,R.getD 1 0]) wt wz∧Below base w w':=by
 obtain⟨i2,Ya,hz20,hz21,hz22⟩:=iq Tryz.uF;obtain⟨d0,d1,d2,d3,d4⟩:=D.d.heads;have hBl:=D.d.lt;have Yb:B≠w.heap.size:=by omega
 have NT:B≠w.heap.size+1:=by omega
 have hgz:¬gv=1073741824:=by omega
 have hrz:¬rn=0:=by omega
 go_enter Tryz.func104,Tryz.ntmps104
 go_wp2_with fail
 obtain⟨W2,hW2,z2,b2,s2,-⟩:=JX w k p i b he hn;rw[←hW2];clear hW2 d0 d1 d2 d3 d4 Yb NT;have D2:=D.next b2;have hA:W2.heap.size=w.heap.size+2:=s2;obtain⟨x0,hx0⟩:∃x,x=R.getD 0 0:=⟨_,rfl⟩;obtain⟨x1,hx1⟩:∃x,x=R.getD 1 0:=⟨_,rfl⟩;obtain⟨_,_,e1,r1,l1,_,n1,y1⟩:=RowK.eO D2.o1 D2.wR;cases e1;have k0:W2.cell? ⟨g,0,none⟩=some (iV x0):=by rw[hx0];exact r1.at 0 (by omega)
 have k1:W2.cell? ⟨g,1,none⟩=some (iV x1):=by rw[hx1];exact r1.at 1 (by omega)
 have LQ:g<W2.heap.size:=r1.lt (by omega);obtain⟨d0,d1,d2,d3,d4⟩:=D2.d.heads;have aeQ:=D2.d.lt;have Yb:B≠W2.heap.size:=by omega
 have NT:B≠W2.heap.size+1:=by omega
 have hgn:g≠W2.heap.size:=by omega
 have aeS:g≠W2.heap.size+1:=by omega
 have HX:Hid (x0=R.getD 0 0∧x1=R.getD 1 0):=ah ⟨hx0,hx1⟩;have hwR:=ah D2.wR
 have aeT:Hid (∀u∈L++[ep,gv,x0,x1],(Lit.int .i64 u).wf=true):=ah (by
  intro u hu;rcases Ao.1 hu with hu|hu
  ·exact D2.wL u hu
  ·simp only[List.mem_cons,List.not_mem_nil,or_false]at hu;rcases hu with rfl|rfl|rfl|rfl
   ·exact wep
   ·exact sV (by omega) (by omega)
   ·rw[hx0];exact lI R D2.wR _
   ·rw[hx1];exact lI R D2.wR _)
 have UO:=ah D2;have Yc:=ah z2;have sE:=ah b2;have HA:=ah hA;clear D D2 r1 y1 n1 hx0 hx1 z2 b2 s2 hA
 go_cut [6,7] (fun p6 p7 wx=>∃M H,p6= .pointer (some ⟨M,0,none⟩)∧p7= .pointer (some ⟨H,0,none⟩)∧JY W2 wx M H x0 x1 ep gv)
 case first=>
  go_region_held3 (fun w'=>w'.cell? ⟨B,3,none⟩=some (.slice (some ⟨g,0,none⟩) rn c1)∧w'.cell? ⟨B,0,none⟩=some (iV ep)∧w'.cell? ⟨B,2,none⟩=some (iV gv)∧w'.cell? ⟨g,0,none⟩=some (iV x0)∧w'.cell? ⟨g,1,none⟩=some (iV x1)) (go_keep) (fail)
  all_goals(try go_wp2_with fail)
  all_goals go_meet
  all_goals first|exact⟨_,_,rfl,rfl,JY.mh _ _ _ _ _⟩|exact⟨_,_,rfl,rfl,JY.hm _ _ _ _ _⟩
 case rest=>
  obtain⟨M,H,rfl,rfl,PP⟩:=hcut;obtain⟨W3,h3⟩:∃W3,W3=wc:=⟨_,rfl⟩;subst h3;clear d0 d1 d2 d3 d4 k0 k1 Yb NT hgn aeS aeQ;have D3:=(aa UO).next PP.cP;have l3:W2.heap.size≤W3.heap.size:=PP.cP.size;have lA:w.heap.size+2=W2.heap.size:=(aa HA).symm;have C3:Rc w W3 base B ep nx gv (.slice (some ⟨g,0,none⟩) rn c1) a2 ln c2 L ws g rn c1 R M H (w.heap.size+1) x0 x1 gv:=
   ⟨D3.d,D3.o1,D3.o2,PP.m,PP.h,(aa Yc).next PP.cP,((aa sE).mono dQ).trans (PP.cP.mono (by omega)),D3.up⟩
  have db:Hid (rn≤c1):=ah l1;obtain⟨d0,d1,d2,d3,d4⟩:=C3.d.heads;have df:=C3.d.free;have Yd:=ah C3;have NU:base≤W3.heap.size:=by omega
  clear D3 PP C3 UO Yc sE HA lA LQ
  go_step
  go_step
  go_cut [] (fun wx=>∃o c',(1<rn→o=2)∧rn-1≤c'∧wx.heap.size=W3.heap.size∧Rc w wx base B ep nx gv (.slice (some ⟨g,o,none⟩) (rn-1) c') a2 ln c2 L ws g rn c1 R M H (w.heap.size+1) x0 x1 gv)
  case first=>
   go_wp2_with fail
   all_goals go_meet
   ·rename_i hc;have T:=av.set B 3 W3 (.slice (some ⟨g,0,none⟩) (rn-1) 0);exact⟨0,0,fun h=>by have:=aa db;omega,by have:=aa db;omega,T.size,(aa Yd).turn T rfl ((aa Yd).d.ready _)⟩
   ·have T:=av.set B 3 W3 (.slice (some ⟨g,2,none⟩) (rn-1) (c1-1));exact⟨2,c1-1,fun _=>rfl,by have:=aa db;omega,T.size,(aa Yd).turn T rfl ((aa Yd).d.ready _)⟩
  case rest=>
   obtain⟨o,c',ho,hoc,Ye,C4⟩:=hcut;obtain⟨W4,h4⟩:∃W4,W4=wc:=⟨_,rfl⟩;subst h4;clear d0 d1 d2 d3 d4 df Yd l3;have hb4:base≤W4.heap.size:=by omega
   obtain⟨d0,d1,d2,d3,d4⟩:=C4.d.heads;have df:=C4.d.free;have m0:W4.cell? ⟨M,0,none⟩=some (iV x0):=by have:=C4.m;simp[World.cell?,this]
   have m1:W4.cell? ⟨M,1,none⟩=some (iV x1):=by have:=C4.m;simp[World.cell?,this]
   have q0:W4.cell? ⟨H,0,none⟩=some (iV ep):=by have:=C4.h;simp[World.cell?,this]
   have q1:W4.cell? ⟨H,1,none⟩=some (iV gv):=by have:=C4.h;simp[World.cell?,this]
   have lM:=bQ C4.m;have lH:=bQ C4.h;have lB:=C4.d.lt;have nM:M≠W4.heap.size:=by omega
   have nH:H≠W4.heap.size:=by omega
   have nB:B≠W4.heap.size:=by omega
   have b5:Below W4.heap.size W4 (W4.alloc (.cells #[iV ep,iV gv,iV x0,iV x1] 232)).drew:=Below.next (aA _ _) ⟨rfl,rfl,rfl,Aa _,fun _ _=>rfl⟩;have HO5:Hid ((W4.alloc (.cells #[iV ep,iV gv,iV x0,iV x1] 232)).drew.ownsRow base 232 4 (.slice a2 ln c2) ln (L.map (Value.int .i64))):=ah (aI C4.o2 (fun q _ hq=>b5.block q hq));have HC4:=ah C4;have Vs:=ah b5;clear C4 b5 Ye
   go_wp2_with fail
   go_cut [] (fun wx=>∃a3 c3,Rc w wx base B ep nx gv (.slice (some ⟨g,o,none⟩) (rn-1) c') a3 (ln+1) c3 (L++[ep,gv,x0,x1]) ws g rn c1 R M H (w.heap.size+1) x0 x1 gv)
   case first=>
    go_region_law (refine ni rfl (.tmp 60) (.tmp 64) 74 rfl base 232 i2 _ 4 32 Tryz.underlying74 Ya hz20 hz21 hz22 rfl (by decide) (.slice a2 ln c2) ln L rfl (aa HO5) ⟨W4.heap.size,0,none⟩ 1 1 [ep,gv,x0,x1] rfl rfl (abP _ _ _ _ _ _) (by unfold maxLen;omega) (by omega) (by simp;omega) ?_;intro v' w5 GS grow5;obtain⟨a3,c3,rfl⟩:=lY GS;obtain⟨e5,C5⟩:=(aa HC4).GN (aa Vs) grow5 [ep,gv,x0,x1] hb4 GS;have k4:=e5.heads.2.2.2.2;have f4:=e5.free;have HC5:=ah C5;clear C5 e5 GS grow5)
    all_goals(try go_wp2_with fail)
    all_goals go_meet
    all_goals exact⟨_,_,aa HC5⟩
   case rest=>
    obtain⟨a3,c3,C6⟩:=hcut;obtain⟨W6,h6⟩:∃W6,W6=wc:=⟨_,rfl⟩;subst h6;clear d0 d1 d2 d3 d4 df m0 m1 q0 q1 lM lH lB nM nH nB HO5 HC4 Vs hb4;obtain⟨d0,d1,d2,d3,d4⟩:=C6.d.heads;have df:=C6.d.free;have m1:W6.cell? ⟨M,1,none⟩=some (iV x1):=by have:=C6.m;simp[World.cell?,this]
    have q0:W6.cell? ⟨H,0,none⟩=some (iV ep):=by have:=C6.h;simp[World.cell?,this]
    have q1:W6.cell? ⟨H,1,none⟩=some (iV gv):=by have:=C6.h;simp[World.cell?,this]
    obtain⟨y0,y1,y2,y3⟩:=C6.a.cells;have yf:=C6.a.free;have nM:M≠B:=cM C6.m C6.d (by decide);have nH:H≠B:=cM C6.h C6.d (by decide);have nA:w.heap.size+1≠B:=cM C6.a C6.d (by decide);have HC6:=ah C6;have hwL:Hid (∀u∈L++[ep,gv,x0,x1],(Lit.int .i64 u).wf=true):=aeT;clear C6;go_wp2;have C7:=(aa HC6).turn (av.set B 2 W6 (iV (gv+1))) rfl ((aa HC6).d.given (gv+1));have T8:=gl (W6.setCell ⟨B,2,none⟩ (iV (gv+1))) (w.heap.size+1) 0 ep gv x1;have o1:=T8.owns C7.o1 (aT C7.o1 C7.a (by decide));have o2:=T8.owns C7.o2 (aT C7.o2 C7.a (by decide));obtain⟨_,_,e1,r1,_,_,_,y1⟩:=RowK.eO o1 (aa hwR);obtain⟨_,_,e2,r2,l2,_,n2,y2⟩:=RowK.eO o2 (aa hwL);cases e1;cases e2;refine Al (pM (C7.a.store 0 ep gv x1) rfl rfl) rfl ⟨by rw[(aa HX).2],⟨some ⟨g,o,none⟩,c',a3,c3,ws,C7.d.dC T8 (fun e=>nA e.symm),Vt r1 h0 ho, ?_,hoc,l2,by simp,n2,hW,fun x hx=>by cases hx;exact(y1 ⟨g,0,none⟩ rfl:base≤g),y2⟩,T8.under C7.cP (by omega)⟩;rw[←(aa HX).1,←(aa HX).2];exact r2
theorem Zg(t id:Int)(s:tQ)(w:tA)(h:¬fJ t s):
  cA 196 #[cC t s,iV id] w (rB (.tuple #[.bool false,iV 6]) w):=by
 go_enter Tryz.func196,Tryz.ntmps196
 go_wp2_with (go_at_call 151;refine(GF t s _ h).mono ?_;rintro e w1 ⟨rfl,b1⟩)
 go_ret2;exact⟨rfl,oo b1⟩
theorem Q6(t id:Int)(s:tQ)(w:tA)(h:fJ t s)(h0:0≤id)(h1:id≤1073741824)(h2:id<t-8):
  cA 196 #[cC t s,iV id] w (rB (.tuple #[.bool false,iV 9]) w):=by
 have hl:=h.low;have hh:=h.high;go_enter Tryz.func196,Tryz.ntmps196
 go_wp2_with fail
 obtain⟨W,hW,wb0,B0,S0⟩:=sP w t s;rw[←hW];clear hW;refine(qw t s _ h).mono ?_;rintro e w1 ⟨rfl,b1⟩;have wb:=wb0.next b1;have HB:=ah (Below.next B0 b1);obtain⟨c0,c1,c2,c3,c4,c5,c6,c7,c8⟩:=wb.cells;clear wb wb0 B0 S0 b1 h
 go_wp2_with (go_at_call 193;refine(gW t s _ hl hh).mono ?_;rintro e w2 ⟨rfl,b2⟩)
 go_ret2;exact⟨rfl,Below.next (aa HB) b2⟩
theorem LV(t:Int)(k:Nat)(s:tQ)(w:tA)(h:fJ t s)(h0:0≤t-8+(k:Int))(h1:k<8):
  cA 196 #[cC t s,iV (t-8+(k:Int))] w (rB (.tuple #[.bool (s k),iV 0]) w):=by
 have hl:=h.low;have hh:=h.high;obtain⟨id,NG⟩:∃id,id=t-8+(k:Int):=⟨_,rfl⟩;rw[←NG];have h3:¬id<t-8:=by omega
 have h4:¬id<0:=by omega
 have h5:¬1073741824<id:=by omega
 have h6:id<t:=by omega
 have h7:(id-(t-8)).toNat=k:=by omega
 have h8:0≤id-(t-8):=by omega
 have h9:id-(t-8)<8:=by omega
 have HI:=ah NG;clear NG h0;go_enter Tryz.func196,Tryz.ntmps196
 go_wp2_with fail
 obtain⟨W,hW,wb0,B0,S0⟩:=sP w t s;rw[←hW];clear hW;refine(qw t s _ h).mono ?_;rintro e w1 ⟨rfl,b1⟩;have wb:=wb0.next b1;have HW:=ah wb;have HB:=ah (Below.next B0 b1);obtain⟨c0,c1,c2,c3,c4,c5,c6,c7,c8⟩:=wb.cells;clear wb wb0 B0 S0 b1 h
 go_wp2_with (go_at_call 193;refine(gW t s _ hl hh).mono ?_;rintro e w2 ⟨rfl,b2⟩;have wb2:=(aa HW).next b2;have sE:=ah (Below.next (aa HB) b2);clear HB HW;obtain⟨c0,c1,c2,c3,c4,c5,c6,c7,c8⟩:=wb2.cells;have ck:=wb2.cell k h1;have HW:=ah wb2;clear wb2;have HB:=sE)
 go_ret2;exact⟨rfl,aa HB⟩
theorem Dy(t id:Int)(s:tQ)(w:tA)(h:fJ t s)(h0:0≤id)(h1:id≤1073741824)(h2:t≤id):
  cA 196 #[cC t s,iV id] w (rB (.tuple #[.bool false,iV 0]) w):=by
 have hl:=h.low;have hh:=h.high;have h3:¬id<t-8:=by omega
 have h4:¬id<0:=by omega
 have h5:¬1073741824<id:=by omega
 have h6:¬id<t:=by omega
 go_enter Tryz.func196,Tryz.ntmps196
 go_wp2_with fail
 obtain⟨W,hW,wb0,B0,S0⟩:=sP w t s;rw[←hW];clear hW;refine(qw t s _ h).mono ?_;rintro e w1 ⟨rfl,b1⟩;have wb:=wb0.next b1;have HW:=ah wb;have HB:=ah (Below.next B0 b1);obtain⟨c0,c1,c2,c3,c4,c5,c6,c7,c8⟩:=wb.cells;clear wb wb0 B0 S0 b1 h
 go_wp2_with (go_at_call 193;refine(gW t s _ hl hh).mono ?_;rintro e w2 ⟨rfl,b2⟩;obtain⟨c0,c1,c2,c3,c4,c5,c6,c7,c8⟩:=((aa HW).next b2).cells)
 go_ret2;exact⟨rfl,Below.next (aa HB) b2⟩
theorem Q7(t id:Int)(s:tQ)(w:tA)(h:fJ t s)(h0:0≤id)(h1:id≤1073741824)(h2:t-8≤id):
  cA 196 #[cC t s,iV id] w (rB (.tuple #[.bool (gS t s id),iV 0]) w):=by
 by_cases aM:id<t
 ·obtain⟨k,hk⟩:∃k:Nat,id=t-8+k:=⟨(id-(t-8)).toNat,by omega⟩;subst hk;rw[pK k (by omega)];exact LV t k s w h h0 (by omega)
 ·have e1:gS t s id=false:=by
   simp only[gS];rw[show decide (id<t)=false by simp;omega];simp
  rw[e1];exact Dy t id s w h h0 h1 (by omega)
theorem xL{W:tA}{R:Nat}{t:Int}{s:tQ}{tmps:tR}(h:aJ W R t s)(t4:tmps[4]? =some (.pointer (some ⟨R,0,none⟩))):
  (results Tryz.f197 tmps).run Tryz.prog W= .ok (cC t s) W:=by
 obtain⟨c0,c1,c2,c3,c4,c5,c6,c7,c8⟩:=h.cells;simp[results,Tryz.results197,go_sem,c0,c1,c2,c3,c4,c5,c6,c7,c8,t4]
def j4(w:tA)(R:Nat)(s:tQ):Prop:=w.heap[R]? =some (.cells #[.bool (s 0),.bool (s 1),.bool (s 2),.bool (s 3),.bool (s 4),.bool (s 5),.bool (s 6),.bool (s 7)] 75 (0,0))
theorem j4.cells{w:tA}{R:Nat}{s:tQ}(h:j4 w R s):
  w.cell? ⟨R,0,none⟩=some (.bool (s 0))∧w.cell? ⟨R,1,none⟩=some (.bool (s 1))∧w.cell? ⟨R,2,none⟩=some (.bool (s 2))∧w.cell? ⟨R,3,none⟩=some (.bool (s 3))∧
  w.cell? ⟨R,4,none⟩=some (.bool (s 4))∧w.cell? ⟨R,5,none⟩=some (.bool (s 5))∧w.cell? ⟨R,6,none⟩=some (.bool (s 6))∧w.cell? ⟨R,7,none⟩=some (.bool (s 7)):=by
 unfold j4 at h;simp[World.cell?,h]
theorem sW(w:tA)(t z:Int)(s:tQ):∃W,W=((w.alloc (.cells (fo t s) 77)).alloc (.cells #[iV z,.bool false,.bool false,.bool false,.bool false,.bool false,.bool false,.bool false,.bool false] 77)).alloc
   (.cells #[.bool false,.bool false,.bool false,.bool false,.bool false,.bool false,.bool false,.bool false] 75)∧
  aJ W w.heap.size t s∧aJ W (w.heap.size+1) z jU∧j4 W (w.heap.size+1+1) jU∧bZ w W∧W.heap.size=w.heap.size+3:=by
 refine⟨_,rfl, ?_, ?_, ?_, ?_,by simp⟩
 ·exact((aJ.new w t s).below (aA _ _) (by simp)).below (aA _ _) (by simp;omega)
 ·have:=(aJ.new (w.alloc (.cells (fo t s) 77)) z jU).below (aA _ (.cells #[.bool false,.bool false,.bool false,.bool false,.bool false,.bool false,.bool false,.bool false] 75)) (by simp);rw[show(w.alloc (.cells (fo t s) 77)).heap.size=w.heap.size+1 by simp]at this;exact this
 ·have:=AQ ((w.alloc (.cells (fo t s) 77)).alloc (.cells #[iV z,.bool false,.bool false,.bool false,.bool false,.bool false,.bool false,.bool false,.bool false] 77)) (.cells #[.bool false,.bool false,.bool false,.bool false,.bool false,.bool false,.bool false,.bool false] 75);simpa[j4,jU]using this
 ·exact(gj w _ _).trans ((aA _ _).mono (by simp;omega))
theorem xM(R o:Nat):∀u:Nat,u<8→∀w:World,
  (Instr.sliceAt 75 (.pointer (some ⟨R,o,none⟩)) (some (iV u)) none none).run Tryz.prog w= .ok (.slice (some ⟨R,o+u,none⟩) (8-u) (8-u)) w:=by
 refine xx ?_ ?_ ?_ ?_ ?_ ?_ ?_ ?_<;>(intro w;simp[go_sem])
theorem Q8{W:tA}{R:Nat}{t:Int}{s:tQ}(h:aJ W R t s)(u:Nat)(hu:u<8):
  ∀j v,((List.range (8-u)).map fun j=>Value.bool (s (u+j)))[j]? =some v→W.cell? ((⟨R,1+u,none⟩:Addr).add j)=some v:=by
 intro j v hj;have aM:j<8-u:=by
  rcases AA j (8-u)with h'|h'
  ·exact h'
  ·rw[List.getElem?_eq_none (by simpa using h')]at hj;cases hj
 rw[Ar,List.getElem?_range aM]at hj;simp only[Option.map_some,Option.some.injEq]at hj;have e:(⟨R,1+u,none⟩:Addr).add j=⟨R,1+(u+j),none⟩:=by unfold Addr.add;split<;>simp_all;omega
 rw[e,h.cell (u+j) (by omega),hj]
theorem copied(u:Nat)(s s':tQ)(h0:u<8)(hs:∀j,j<8→s' j=(decide (j+u<8)&&s (u+j))):
  (splice [Value.bool false,.bool false,.bool false,.bool false,.bool false,.bool false,.bool false,.bool false] 0 ((List.range (8-u)).map fun j=>Value.bool (s (u+j)))).toArray= #[.bool (s' 0),.bool (s' 1),.bool (s' 2),.bool (s' 3),.bool (s' 4),.bool (s' 5),.bool (s' 6),.bool (s' 7)]:=by
 rw[hs 0 (by omega),hs 1 (by omega),hs 2 (by omega),hs 3 (by omega),hs 4 (by omega),hs 5 (by omega),hs 6 (by omega),hs 7 (by omega)];revert u;refine xx ?_ ?_ ?_ ?_ ?_ ?_ ?_ ?_<;>(intros;simp[splice,List.range_succ])
theorem J0(B:Nat)(W:tA):Below B W W.drew:=⟨rfl,rfl,rfl,Aa _,fun _ _=>rfl⟩
theorem GU(t:Int)(u:Nat)(s:tQ)(w:tA)(_:0≤t)(_:t≤1073741825)(hu0:0<u)(oh:u<8):
  cA 197 #[cC t s,iV (t+(u:Int))] w (rB (cC (t+(u:Int)) (fun j=>decide (j+u<8)&&s (u+j))) w):=by
 obtain⟨top,htop⟩:∃top,top=t+(u:Int):=⟨_,rfl⟩;rw[←htop];have e1:top-t=(u:Int):=by omega
 have HT:=ah htop;clear htop;go_enter Tryz.func197,Tryz.ntmps197
 go_wp2_with fail
 obtain⟨W,hW,wb0,wb1,sb0,B0,S0⟩:=sW w t 0 s;rw[←hW];clear hW;have hsl:=xM w.heap.size 1 u oh;have vx:=Q8 wb0 u oh;have hln:((List.range (8-u)).map fun j=>Value.bool (s (u+j))).length=Nat.min (8-u) 8:=by simp
 have hft:0+((List.range (8-u)).map fun j=>Value.bool (s (u+j))).length≤[Value.bool false,.bool false,.bool false,.bool false,.bool false,.bool false,.bool false,.bool false].length:=by simp
 have hon:∀v∈((List.range (8-u)).map fun j=>Value.bool (s (u+j))),v.oneCell'=true:=by
  intro v hv;obtain⟨j,_,rfl⟩:=Ax.1 hv;rfl
 go_region_law (refine step_copy_splice rfl (.tmp 13) (.tmp 16) 304 304 rfl 4 Tryz.underlying304 (by kernel_rfl) (some ⟨w.heap.size+1+1,0,none⟩) (some ⟨w.heap.size,1+u,none⟩) 8 8 (8-u) (8-u) rfl rfl (w.heap.size+1+1) 0 [.bool false,.bool false,.bool false,.bool false,.bool false,.bool false,.bool false,.bool false] 75 sb0 _ hln (fun _=>⟨rfl,_,rfl,vx⟩) hft hon (w.heap.size+2) W (J0 _ _) (Aa _) ?_;intro w4 hg4 hb4)
 obtain⟨s',hs'⟩:∃s':Nat→Bool,s'=fun j=>decide (j+u<8)&&s (u+j):=⟨_,rfl⟩;have HS:=ah hs';have sb4:j4 w4 (w.heap.size+1+1) s':=by
  unfold j4;rw[←copied u s s' oh (fun j _=>by rw[hs'])];exact hg4.out
 have wb4:aJ w4 (w.heap.size+1) 0 jU:=wb1.below hb4 (by omega);have B4:bZ w w4:=B0.trans (hb4.mono (by omega));obtain⟨c0,c1,c2,c3,c4,c5,c6,c7⟩:=sb4.cells;obtain⟨d0,d1,d2,d3,d4,d5,d6,d7,d8⟩:=wb4.cells;have df:=wb4.free;have HB:=ah B4;have HW:=ah wb4;clear sb4 wb4 B4 hs' hg4 hb4 sb0 wb0 wb1 B0 S0 vx hln hft hon hsl;go_wp2;have e2:(fun j=>decide (j+u<8)&&s (u+j))=s':=(aa HS).symm;exact Al (xL ((aa HW).store top s') rfl) rfl ⟨by rw[e2],fU (aa HB) _ (by omega) _ _⟩
theorem J4(t top:Int)(s:tQ)(w:tA)(h0:0≤t)(h1:t+8≤top)(h2:top≤1073741825):
  cA 197 #[cC t s,iV top] w (rB (cC top jU) w):=by
 have e1:¬top-t<8:=by omega
 go_enter Tryz.func197,Tryz.ntmps197
 go_wp2_with fail
 obtain⟨W,hW,wb0,wb1,sb0,B0,S0⟩:=sW w t top s;rw[←hW];exact Al (xL wb1 rfl) rfl ⟨rfl,B0⟩
theorem J5(t top:Int)(s:tQ)(w:tA)(h0:0≤t)(h1:t<top)(h2:top≤1073741825):
  cA 197 #[cC t s,iV top] w (rB (cC top (fun j=>gS t s (top-8+j))) w):=by
 by_cases hf:t+8≤top
 ·refine(J4 t top s w h0 hf h2).mono ?_;rintro e w' ⟨rfl,b⟩;refine⟨?_,b⟩;congr 1;refine Dt rfl fun i hi=> ?_;simp only[gS];rw[show decide (top-8+(i:Int)<t)=false by simp;omega];simp[jU]
 ·obtain⟨u,hu⟩:∃u:Nat,top=t+u:=⟨(top-t).toNat,by omega⟩;subst hu;refine(GU t u s w h0 (by omega) (by omega) (by omega)).mono ?_;rintro e w' ⟨rfl,b⟩;refine⟨?_,b⟩;congr 1;refine Dt rfl fun i hi=> ?_;by_cases YT:i+u<8
  ·rw[show t+(u:Int)-8+(i:Int)=t-8+((u+i:Nat):Int) by omega,pK (u+i) (by omega)];simp[YT]
  ·simp only[gS];rw[show decide (t+(u:Int)-8+(i:Int)<t)=false by simp;omega];simp[YT]
theorem sX{W:tA}{R:Nat}{t e:Int}{s:tQ}{b:Bool}{tmps:tR}(h:aJ W R t s)(t4:tmps[4]? =some (.pointer (some ⟨R,0,none⟩)))(t5:tmps[5]? =some (.bool b))(t6:tmps[6]? =some (iV e)):
  (results Tryz.f154 tmps).run Tryz.prog W= .ok (.tuple #[cC t s,.bool b,iV e]) W:=by
 obtain⟨c0,c1,c2,c3,c4,c5,c6,c7,c8⟩:=h.cells;simp[results,Tryz.results154,go_sem,c0,c1,c2,c3,c4,c5,c6,c7,c8,t4,t5,t6]
theorem sY(w:tA)(t:Int)(s:tQ):∃W,W=(w.alloc (.cells (fo t s) 77)).alloc (.cells #[iV 0,.bool false,.bool false,.bool false,.bool false,.bool false,.bool false,.bool false,.bool false] 77)∧
  aJ W w.heap.size t s∧aJ W (w.heap.size+1) 0 jU∧bZ w W∧W.heap.size=w.heap.size+2:=by
 refine⟨_,rfl,(aJ.new w t s).below (aA _ _) (by simp), ?_,gj _ _ _,by simp⟩;have:=aJ.new (w.alloc (.cells (fo t s) 77)) 0 jU;rw[show(w.alloc (.cells (fo t s) 77)).heap.size=w.heap.size+1 by simp]at this;exact this
theorem aJ.none{w:tA}{R:Nat}{t:Int}{s:tQ}(h:aJ w R t s):
  aJ (((((((((w.setCell ⟨R,0,none⟩ (iV 0)).setCell ⟨R,1,none⟩ (.bool false)).setCell ⟨R,2,none⟩ (.bool false)).setCell ⟨R,3,none⟩ (.bool false)).setCell ⟨R,4,none⟩ (.bool false)).setCell ⟨R,5,none⟩ (.bool false)).setCell ⟨R,6,none⟩ (.bool false)).setCell ⟨R,7,none⟩ (.bool false)).setCell ⟨R,8,none⟩ (.bool false)) R 0 jU:=
 h.store 0 jU
theorem zY{B:Nat}{w0 w:tA}(hb:Below B w0 w)(R:Nat)(hR:B≤R):
  Below B w0 (((((((((w.setCell ⟨R,0,none⟩ (iV 0)).setCell ⟨R,1,none⟩ (.bool false)).setCell ⟨R,2,none⟩ (.bool false)).setCell ⟨R,3,none⟩ (.bool false)).setCell ⟨R,4,none⟩ (.bool false)).setCell ⟨R,5,none⟩ (.bool false)).setCell ⟨R,6,none⟩ (.bool false)).setCell ⟨R,7,none⟩ (.bool false)).setCell ⟨R,8,none⟩ (.bool false)):=
 fU hb R hR 0 jU
theorem Q9(t id e0:Int)(s:tQ)(w:tA)(he:¬e0=0)(h:∀w,cA 196 #[cC t s,iV id] w (rB (.tuple #[.bool false,iV e0]) w)):
  cA 154 #[cC t s,iV id] w (rB (.tuple #[cC 0 jU,.bool false,iV e0]) w):=by
 go_enter Tryz.func154,Tryz.ntmps154
 go_wp2_with fail
 obtain⟨W,hW,wb0,wb1,B0,S0⟩:=sY w t s;rw[←hW];clear hW;refine(h _).mono ?_;rintro e w1 ⟨rfl,b1⟩;have wb:=wb1.next b1;have HW:=ah wb;have HB:=ah (Below.next B0 b1);obtain⟨d0,d1,d2,d3,d4,d5,d6,d7,d8⟩:=wb.cells;have df:=wb.free;clear wb wb0 wb1 B0 S0 b1 h;go_wp2;exact Al (sX (aa HW).none rfl rfl rfl) rfl ⟨rfl,zY (aa HB) _ (by omega)⟩
theorem Q_(t id:Int)(s:tQ)(w:tA)(h:fJ t s)(h0:0≤id)(h1:id≤1073741824)(h2:id<t-8):
  cA 154 #[cC t s,iV id] w (rB (.tuple #[cC 0 jU,.bool false,iV 9]) w):=
 Q9 t id 9 s w (by decide) (fun w=>Q6 t id s w h h0 h1 h2)
theorem Ra(t id:Int)(s:tQ)(w:tA)(h:fJ t s)(h0:0≤id)(h1:id≤1073741824)(h2:gS t s id=true):
  cA 154 #[cC t s,iV id] w (rB (.tuple #[cC t s,.bool false,iV 0]) w):=by
 have h3:t-8≤id:=by
  obtain⟨i,_,_,rfl⟩:=uD.1 h2;omega
 go_enter Tryz.func154,Tryz.ntmps154
 go_wp2_with fail
 obtain⟨W,hW,wb0,wb1,B0,S0⟩:=sY w t s;rw[←hW];clear hW;refine(Q7 t id s _ h h0 h1 h3).mono ?_;rw[h2];rintro e w1 ⟨rfl,b1⟩;have wa:=wb0.next b1;have wb:=wb1.next b1;have HW:=ah wb;have HB:=ah (Below.next B0 b1);obtain⟨c0,c1,c2,c3,c4,c5,c6,c7,c8⟩:=wa.cells;obtain⟨d0,d1,d2,d3,d4,d5,d6,d7,d8⟩:=wb.cells;have df:=wb.free;clear wa wb wb0 wb1 B0 S0 b1 h;go_wp2;exact Al (sX ((aa HW).store t s) rfl rfl rfl) rfl ⟨rfl,fU (aa HB) _ (by omega) _ _⟩
theorem xN{B R o:Nat}{w0 w:tA}{v:tK}(hb:Below B w0 w)(hR:B≤R):Below B w0 (w.setCell ⟨R,o,none⟩ v):=hb.setCell hR v
theorem Re(t:Int)(k:Nat)(s s':tQ)(w:tA)(h:fJ t s)(h0:0≤t-8+(k:Int))(h1:k<8)(h2:s k=false)(hs:∀i,i<8→s' i=if i=k then true else s i):
  cA 154 #[cC t s,iV (t-8+(k:Int))] w (rB (.tuple #[cC t s',.bool true,iV 0]) w):=by
 have hl:=h.low;have hh:=h.high;obtain⟨id,NG⟩:∃id,id=t-8+(k:Int):=⟨_,rfl⟩;have H1:∀w,cA 196 #[cC t s,iV id] w (rB (.tuple #[.bool false,iV 0]) w):=by
  intro w;have:=LV t k s w h h0 h1;rw[h2]at this;rw[NG];exact this
 rw[←NG];have h6:¬t≤id:=by omega
 have h7:(id-(t-8)).toNat=k:=by omega
 have h8:0≤id-(t-8):=by omega
 have h9:id-(t-8)<8:=by omega
 have HI:=ah NG;have HS:=ah hs;clear NG h0 hs;go_enter Tryz.func154,Tryz.ntmps154
 go_wp2_with fail
 obtain⟨W,hW,wb0,wb1,B0,S0⟩:=sY w t s;rw[←hW];clear hW;refine(H1 _).mono ?_;rintro e w1 ⟨rfl,b1⟩;have wa:=wb0.next b1;have wb:=wb1.next b1;have HV:=ah wa;have HW:=ah wb;have HB:=ah (Below.next B0 b1);obtain⟨c0,c1,c2,c3,c4,c5,c6,c7,c8⟩:=wa.cells;clear wa wb wb0 wb1 B0 S0 b1 h h2 H1
 go_wp2_with (go_at_call 193;refine(gW t s _ hl hh).mono ?_;rintro e w2 ⟨rfl,b2⟩;have va:=(aa HV).next b2;have vb:=(aa HW).next b2;have sE:=ah (Below.next (aa HB) b2);clear HB HW HV;have ck:=va.cell k h1;have cf:=va.free;have vc:=va.mark k h1 true s' (aa HS);have vd:=vb.other (o:=1+k) (v:= .bool true) (R':=w.heap.size) (by omega);obtain⟨c0,c1,c2,c3,c4,c5,c6,c7,c8⟩:=vc.cells;obtain⟨d0,d1,d2,d3,d4,d5,d6,d7,d8⟩:=vd.cells;have df:=vd.free;have VC:=ah vc;have VD:=ah vd;clear va vb vc vd)
 exact Al (sX ((aa VD).store t s') rfl rfl rfl) rfl ⟨rfl,fU (xN (aa sE) (Aa _)) _ (by omega) _ _⟩
theorem NV(t id:Int)(s s1 s':tQ)(w:tA)(h:fJ t s)(h0:t≤id)(h1:id≤1073741824)(Jq:s1=fun j:Nat=>gS t s (id+1-8+(j:Int)))(hs:∀i,i<8→s' i=if i=7 then true else s1 i):
  cA 154 #[cC t s,iV id] w (rB (.tuple #[cC (id+1) s',.bool true,iV 0]) w):=by
 have hl:=h.low;have hh:=h.high;obtain⟨T,hT⟩:∃T,T=id+1:=⟨_,rfl⟩;have H2:∀w,cA 197 #[cC t s,iV T] w (rB (cC T s1) w):=by
  intro w;have:=J5 t T s w hl (by omega) (by omega);rw[Jq,←hT];exact this
 have H1:=fun w=>Dy t id s w h (by omega) h1 h0;rw[←hT];have h7:id-(T-8)=7:=by omega
 have h8:0≤T:=by omega
 have h9:T≤1073741825:=by omega
 have hw:IntKind.i64.wrap (id+1)=T:=by rw[Ct];omega
 have HS:=ah hs;clear hs Jq hT;go_enter Tryz.func154,Tryz.ntmps154
 go_wp2_with fail
 obtain⟨W,hW,wb0,wb1,B0,S0⟩:=sY w t s;rw[←hW];clear hW;refine(H1 _).mono ?_;rintro e w1 ⟨rfl,b1⟩;have wa:=wb0.next b1;have wb:=wb1.next b1;have HV:=ah wa;have HW:=ah wb;have HB:=ah (Below.next B0 b1);obtain⟨c0,c1,c2,c3,c4,c5,c6,c7,c8⟩:=wa.cells;clear wa wb wb0 wb1 B0 S0 b1 h H1
 go_wp2_with fail
 refine(H2 _).mono ?_;rintro e w2 ⟨rfl,b2⟩;have va:=(aa HV).next b2;have vb:=(aa HW).next b2;have sE:=ah (Below.next (aa HB) b2);obtain⟨c0,c1,c2,c3,c4,c5,c6,c7,c8⟩:=va.cells;have cf:=va.free;clear HB HV HW b2 H2
 go_wp2_with fail
 obtain⟨W3,hW3,va3,vb3,zX⟩:∃W3,W3=lX w2 w.heap.size T s1∧aJ W3 w.heap.size T s1∧aJ W3 (w.heap.size+1) 0 jU∧bZ w W3:=by
  refine⟨_,rfl,va.store T s1, ?_,fU (aa sE) _ (Aa _) _ _⟩;unfold aJ at vb⊢;rw[xy _ _ _ _ _ (by omega)];exact vb
 unfold lX at hW3;rw[←hW3];clear hW3 va vb sE c0 c1 c2 c3 c4 c5 c6 c7 c8 cf;refine(gW T s1 _ h8 h9).mono ?_;rintro e w4 ⟨rfl,b4⟩;have va:=va3.next b4;have vb:=vb3.next b4;have LW:=ah (Below.next zX b4);have vc:=va.mark 7 (by omega) true s' (aa HS);have vd:=vb.other (o:=8) (v:= .bool true) (R':=w.heap.size) (by omega);have ck:=va.cell 7 (by omega);have cf:=va.free;obtain⟨c0,c1,c2,c3,c4,c5,c6,c7,c8⟩:=vc.cells;obtain⟨d0,d1,d2,d3,d4,d5,d6,d7,d8⟩:=vd.cells;have df:=vd.free;have VC:=ah vc;have VD:=ah vd;clear va vb vc vd va3 vb3 zX b4;go_wp2;exact Al (sX ((aa VD).store T s') rfl rfl rfl) rfl ⟨rfl,fU (xN (aa LW) (Aa _)) _ (by omega) _ _⟩
theorem Rf(t id:Int)(s:tQ)(w:tA)(h:fJ t s)(h0:0≤id)(h1:id≤1073741824)(h2:t-8≤id)(h3:gS t s id=false):
  cA 154 #[cC t s,iV id] w (rB (.tuple #[cC (gV t id) (eW t s id),.bool true,iV 0]) w):=by
 by_cases hc:t≤id
 ·have e:gV t id=id+1:=by unfold gV;rw[if_pos hc]
  have:=NV t id s (fun j:Nat=>gS t s (id+1-8+(j:Int))) (eW t s id) w h hc h1 rfl (by
   intro i hi;unfold eW;rw[e];by_cases h7:i=7
   ·subst h7;rw[if_pos rfl,show decide (id+1-8+((7:Nat):Int)=id)=true by simp;omega];rfl
   ·rw[if_neg h7,show decide (id+1-8+(i:Int)=id)=false by simp;omega]
    rfl)
  rw[e];exact this
 ·have e:gV t id=t:=by unfold gV;rw[if_neg hc]
  obtain⟨k,hk⟩:∃k:Nat,id=t-8+k:=⟨(id-(t-8)).toNat,by omega⟩;have hk8:k<8:=by omega
  have Yf:s k=false:=by rw[←pK (t:=t) (s:=s) k hk8,←hk];exact h3
  have:=Re t k s (eW t s id) w h (by omega) hk8 Yf (by
   intro i hi;unfold eW;rw[e,pK i hi];by_cases h7:i=k
   ·subst h7;rw[if_pos rfl,show decide (t-8+(i:Int)=id)=true by simp;omega];rfl
   ·rw[if_neg h7,show decide (t-8+(i:Int)=id)=false by simp;omega]
    rfl)
  rw[e];rw[←hk]at this;exact this
def wj{α:Type}(f:Nat→α)(P:Nat)(x:α):Nat→α:=fun q=>if q=P then x else f q
theorem GV(B:Nat)(w:tA):av B w w.drew:=⟨rfl,rfl,rfl,rfl,fun _ _=>rfl⟩
structure Pc(w wx:tA)(base B:Nat)(ep nx gv:Int)(a1:tB)(rn c1:Nat)(R:tG)(a2:tB)(ln c2:Nat)(L:tG)(ws:tD)(A:Nat):Prop where
 d:bg wx B ep nx gv (.slice a1 rn c1) (.slice a2 ln c2) ws
 o1:wx.ownsRow base 87 2 (.slice a1 rn c1) rn (R.map (Value.int .i64))
 o2:wx.ownsRow base 232 4 (.slice a2 ln c2) ln (L.map (Value.int .i64))
 a:aQ wx A 0 0 0 0
 cP:Below base w wx
 up:base≤B
section
variable{w wx W5 w5:tA}{base B:Nat}{ep nx gv:Int}{a1 a2 a3:tB}{rn ln c1 c2 c3:Nat}{R L:tG}{ws ws':tD}{A:Nat}
theorem Pc.next(C:Pc w wx base B ep nx gv a1 rn c1 R a2 ln c2 L ws A){wy:tA}(hb:bZ wx wy)(dQ:base≤wx.heap.size):Pc w wy base B ep nx gv a1 rn c1 R a2 ln c2 L ws A:=
 ⟨C.d.next hb,aI C.o1 (fun g _ hg=>hb.block g hg),aI C.o2 (fun g _ hg=>hb.block g hg),C.a.next hb,C.cP.trans (hb.mono dQ),C.up⟩
theorem Pc.ready(C:Pc w wx base B ep nx gv a1 rn c1 R a2 ln c2 L ws A)(b5:bZ wx W5)(gr:W5.grownBy w5 (Value.slice a1 rn c1).ownBlock)(ys:tG)(dQ:base≤wx.heap.size)
  (own:w5.ownsRow base 87 2 (.slice a3 (rn+1) c3) (rn+1) ((R++ys).map (Value.int .i64))):
  bg w5 B ep nx gv (.slice a1 rn c1) (.slice a2 ln c2) ws∧Pc w (w5.setCell ⟨B,3,none⟩ (.slice a3 (rn+1) c3)) base B ep nx gv a3 (rn+1) c3 (R++ys) a2 ln c2 L ws A:=by
 have keep:∀X o,wx.heap[X]? =some o→(Value.slice a1 rn c1).ownBlock≠some X→w5.heap[X]? =some o:=by
  intro X o hX fM;have hl:=bQ hX;rw[gr.block X (by have:=b5.size;omega) (fun e=>fM e.symm),b5.block X hl];exact hX
 have hB:bg w5 B ep nx gv (.slice a1 rn c1) (.slice a2 ln c2) ws:=keep B _ C.d (fun e=>aT C.o1 C.d (by decide) B e rfl);have t:=av.set B 3 w5 (.slice a3 (rn+1) c3);have hA:aQ w5 A 0 0 0 0:=keep A _ C.a (fun e=>aT C.o1 C.a (by decide) A e rfl);have o2':w5.ownsRow base 232 4 (.slice a2 ln c2) ln (L.map (Value.int .i64)):=
  qx (aI C.o2 (fun q _ hq=>b5.block q hq)) gr (fun q h1 h2=>jk C.o2 C.o1 (by decide) q h1 h2)
 have gO:Below base w w5:=(C.cP.trans (b5.mono dQ)).grown gr (by have:=b5.size;omega) (fun q hq=>(C.o1.lt q hq).1);exact⟨hB,hB.ready _,t.owns own (aT own hB (by decide)),t.owns o2' (aT o2' hB (by decide)),hA.dC t (cM hA hB (by decide)),t.under gO C.up,C.up⟩
end
section
open Rv
theorem xO(w:tA):Below w.heap.size w w.drew:=⟨rfl,rfl,rfl,Aa _,fun _ _=>rfl⟩
def qG(ep nx gv:Int)(r l:tK)(ws:tD):Nat→Value:=fun i=>if i<5 then[iV ep,iV nx,iV gv,r,l].getD i undef else ws (i-5)
theorem Zh{t:Int}{s:tQ}:aS (cD (wS t s)) 9:=fun i hi=>by
 obtain rfl|rfl|rfl|rfl|rfl|rfl|rfl|rfl|rfl:i=0∨i=1∨i=2∨i=3∨i=4∨i=5∨i=6∨i=7∨i=8:=(by omega)<;>rfl
theorem Rg(t:Int)(s:tQ){i:Nat}(hi:i<9):cD (wS t s) i=if i=0 then iV t else .bool (s (i-1)):=by
 obtain rfl|rfl|rfl|rfl|rfl|rfl|rfl|rfl|rfl:i=0∨i=1∨i=2∨i=3∨i=4∨i=5∨i=6∨i=7∨i=8:=(by omega)<;>rfl
theorem Zi{ep nx gv:Int}{r l:tK}{ws:tD}{wt:tH}{wz:Nat→Nat→Bool}(hW:gN ws wt wz){P i:Nat}(hP:P<4)(hi:i<9):qG ep nx gv r l ws (0+5+P*9+i)=cD (wS (wt P) (wz P)) i:=by
 obtain⟨h0,h1⟩:=hW P hP;unfold qG;rw[if_neg (by omega),Rg _ _ hi];by_cases e:i=0
 ·rw[if_pos e,←h0];exact Au ws (by omega)
 ·rw[if_neg e,←h1 (i-1) (by omega)];exact Au ws (by omega)
def ww(ws:tD)(P:Nat)(t:Int)(s:tQ):Nat→Value:=fun i=>if 9*P≤i∧i<9*P+9 then cD (wS t s) (i-9*P)else ws i
theorem Zj{ep nx gv:Int}{r l:tK}{ws:tD}{t:Int}{s:tQ}{P:Nat}(i:Nat):gf (qG ep nx gv r l ws) (0+5+P*9) 9 (cD (wS t s)) i=qG ep nx gv r l (ww ws P t s) i:=by
 unfold gf qG ww;by_cases h5:i<5
 ·rw[if_neg (by omega),if_pos h5,if_pos h5]
 ·rw[if_neg h5,if_neg h5];by_cases hc:9*P≤i-5∧i-5<9*P+9
  ·rw[if_pos (by omega),if_pos hc];exact Au _ (by omega)
  ·rw[if_neg (by omega),if_neg hc]
theorem gN.ww{ws:tD}{wt:tH}{wz:Nat→Nat→Bool}(h:gN ws wt wz)(P:Nat)(t:Int)(s:tQ):gN (ww ws P t s) (wj wt P t) (wj wz P s):=fun q hq=>by
 obtain⟨h0,h1⟩:=h q hq;unfold Go.Proofs.YtmhifeahpnkpiaaGreatDoor.ww wj;by_cases e:q=P
 ·subst e;refine⟨?_,fun j hj=> ?_⟩
  ·rw[if_pos (by omega),if_pos rfl,Rg _ _ (by omega),if_pos (by omega)]
  ·rw[if_pos (by omega),if_pos rfl,Rg _ _ (by omega),if_neg (by omega)];exact Au (fun n=>Value.bool (s n)) (by omega)
 ·refine⟨?_,fun j hj=> ?_⟩
  ·rw[if_neg (by omega),if_neg e];exact h0
  ·rw[if_neg (by omega),if_neg e];exact h1 j hj
theorem pN(base B P:Nat)(ep nx gv:Int)(a1:tB)(rn c1:Nat)(a2:tB)(ln c2:Nat)(R L:tG)(ws:tD)(wt:tH)(wz:Nat→Nat→Bool)(k i b he hn:Int)(w:tA)(D:qU w base B ep nx gv a1 rn c1 a2 ln c2 R L ws)(hW:gN ws wt wz)(dQ:base≤w.heap.size)(hP:P<4)(hs:rn+ln≤500)(n0:0≤nx)(n1:nx≤1073741824)(wb:(Lit.int .i64 b).wf=true)
  (t':Int) (s':tQ) (fr:Bool) (rf:Int) (TK:∀w,cA 154 #[cC (wt P) (wz P),iV i] w (rB (.tuple #[cC t' s',.bool fr,iV rf]) w))
  (Q:Value→World→Prop) (HN:Hid (((¬rf=0)∨(rf=0∧fr=false))→∀w',bZ w w'→Q (.tuple #[gY rf 0 0 0,.bool false]) w'))
  (HF:Hid ((rf=0∧fr=true)→(500≤rn+ln∨nx=1073741824)→∀w',bZ w w'→Q (.tuple #[gY 14 0 0 0,.bool false]) w'))
  (HY:Hid ((rf=0∧fr=true)→rn+ln<500→nx<1073741824→∀w',jF w' base B ep (nx+1) gv (rn+1) (R++[nx,b]) ln L (wj wt P t') (wj wz P s')→Below base w w'→Q (.tuple #[gY 0 0 0 0,.bool true]) w')):
  cA 103 #[.pointer (some ⟨B,0,none⟩),xJ k P i b he hn] w fun e w'=>∃v,e= .returned v∧Q v w':=by
 have os':aS (cD (wS t' s')) 9:=Zh;have fb:aY w B 148 41 (qG ep nx gv (.slice a1 rn c1) (.slice a2 ln c2) ws):=D.d;have hb:=D.d.lt;have hS:Mem w (Rv.hs [⟨B,148,[.f 41 (qG ep nx gv (.slice a1 rn c1) (.slice a2 ln c2) ws)]⟩]) (fun b=>(Value.slice a1 rn c1).ownBlock=some b∨False) (fun y=>y.ownsRow base 232 4 (.slice a2 ln c2) ln (L.map (Value.int .i64))) (fun y=>dm (fun b=>b∈[B]) w y∧y.ownsRow base 87 2 (.slice a1 rn c1) rn (R.map (Value.int .i64))):=
  Mem.sr (Mem.begin (fun e he=>by cases Ab.1 he;exact fb) (BH _ _) (fun e he h=>by cases Ab.1 he;exact h.elim (fun h=>aT D.o1 D.d (by decide) B h rfl) id) (fun b h=>h.elim (fun h=>(D.o1.lt b h).2) False.elim) fun y c=>aI D.o2 fun g hg hl=>c.block g hl fun hu=>hu.elim (fun hu=>aT D.o2 D.d (by decide) g hg (Ab.1 hu)) fun hu=>hu.elim (fun hu=>jk D.o1 D.o2 (by decide) g hu hg) id) fun y c=>⟨c,aI D.o1 fun g hg hl=>c.block g hl fun hu=>aT D.o1 D.d (by decide) g hg (Ab.1 hu)⟩
 have out:∀{H:List bU} {M:tF} {Γ:tJ} {y:tA},Mem y (⟨B,148,41,qG ep nx gv (.slice a1 rn c1) (.slice a2 ln c2) ws⟩::H) M Γ (fun y=>dm (fun b=>b∈[B]) w y∧y.ownsRow base 87 2 (.slice a1 rn c1) rn (R.map (Value.int .i64)))→bZ w y:=fun hS=>(hS.now.2.1.less (U:=fun _=>False) fun b hb=> .inr ⟨_,_,_,Ab.1 hb▸fb,Ab.1 hb▸hS.at 0 rfl⟩).below (Aa _) fun _ _ h=>h;refine en _ [vp 0 0 B,vg [.o (iV k),.o (iV (P:Int)),.o (iV i),.o (iV b),.o (iV he),.o (iV hn)]] Tryz.func103 rfl rfl hS (r [] rfl fun α=> ?_);refine cut (X:=Nat) (fun x=>[(0,vp 0 0 B),(3,vp 1 0 (α 0)),(4,vp 2 0 (α 1)),(6,vp 3 0 x),(7,vv (.bool fr)),(8,vi rf)]) (fun x=>[⟨B,148,[.f 41 (qG ep nx gv (.slice a1 rn c1) (.slice a2 ln c2) ws)]⟩,⟨α 0,55,[.o (iV k),.o (iV (P:Int)),.o (iV i),.o (iV b),.o (iV he),.o (iV hn)]⟩,⟨α 1,59,[.o (iV 0),.o (iV 0),.o (iV 0),.o (iV 0)]⟩,⟨x,77,wS t' s'⟩]) (fun _ b=>(Value.slice a1 rn c1).ownBlock=some b∨False) (fun _ y=>y.ownsRow base 232 4 (.slice a2 ln c2) ln (L.map (Value.int .i64))) (fun _ y=>dm (fun b=>b∈[B]) w y∧y.ownsRow base 87 2 (.slice a1 rn c1) rn (R.map (Value.int .i64))) (fun _=>True) ?_ (r [4,1] rfl fun _=>lo rfl rfl 0 rfl 9 (cD (wS (wt P) (wz P))) (fun j hj=>Zi hW hP hj) ?_ (show 0+0+5+P*9+9≤41 by omega))
 case refine_2=>
  repeat' first|refine ER ?_ ?_|(refine Rv.cb (g:=154) rfl (vt [.g (wS t' s'),.o (.bool fr),.o (.int .i64 rf)]) ?_ ?_;exact fun w _=>TK w)|refine rs [] rfl rfl fun _=> ?_
  all_goals exact b_ _ ⟨rfl,rfl,rfl,rfl,rfl,rfl,trivial⟩ (fun w hS=>hS.JG [0,1,2,3] (by decide)) trivial Bi
 rintro f X _;by_cases hrf:rf=0
 case neg=>exact r [1] rfl fun _=>Rv.cb rfl (vt [.g [.o (iV rf),.o (iV 0),.o (iV 0),.o (iV 0)],.o (.bool false)]) (fun w _=>dJ rf w) (r [] rfl fun _=>fin fun w hS=>⟨_,rfl,aa HN (.inl hrf) w (out hS)⟩)
 cases fr
 ·exact r [0] rfl fun _=>Rv.cb rfl (vt [.g [.o (iV rf),.o (iV 0),.o (iV 0),.o (iV 0)],.o (.bool false)]) (fun w _=>dJ rf w) (r [] rfl fun _=>fin fun w hS=>⟨_,rfl,aa HN (.inr ⟨hrf,rfl⟩) w (out hS)⟩)
 refine r [0] rfl fun _=>Rv.cb rfl (vi ((rn+ln:Nat):Int)) (fun w _=>oH ep nx gv a1 a2 rn c1 ln c2 ws w (by omega)) ?_;by_cases h5:500≤rn+ln
 ·exact r [1] rfl fun _=>Rv.cb rfl (vt [.g [.o (iV 14),.o (iV 0),.o (iV 0),.o (iV 0)],.o (.bool false)]) (fun w _=>dJ 14 w) (r [] rfl fun _=>fin fun w hS=>⟨_,rfl,aa HF ⟨hrf,rfl⟩ (.inl h5) w (out hS)⟩)
 by_cases h6:nx=1073741824
 ·exact r [0,1] rfl fun _=>Rv.cb rfl (vt [.g [.o (iV 14),.o (iV 0),.o (iV 0),.o (iV 0)],.o (.bool false)]) (fun w _=>dJ 14 w) (r [] rfl fun _=>fin fun w hS=>⟨_,rfl,aa HF ⟨hrf,rfl⟩ (.inr h6) w (out hS)⟩)
 refine r [0,0,1,1] rfl fun _=>so (g:=cD (wS t' s')) rfl rfl rfl 0 rfl (qG ep nx gv (.slice a1 rn c1) (.slice a2 ln c2) (ww ws P t' s')) (fun j _=>Zj j) ?_ os' (show 0+0+5+P*9+9≤41 by omega);refine jj (fun y hS=>Mem.sr hS (R':=fun y=>Below base w y∧y.ownsRow base 87 2 (.slice a1 rn c1) rn (R.map (Value.int .i64))) fun y h=>⟨h.1.below dQ fun z hz hu=>absurd D.up (BE.2 (Ab.1 hu▸hz)),h.2⟩) ?_;refine r [1] rfl fun _=>qT 4 rfl (show jv Tryz.prog 73 87 2 16=true by kernel_rfl) (fun w hS=>AN dQ hS.now.2.1.size) (fun y y' h c=>h.trans (c.below (AN dQ h.size) fun z hz hu=>absurd hu (BE.2 hz))) fun g c hc=> ?_;refine rz [1] [nx+1] rfl fun _=>gn 0 (qG ep (nx+1) gv (.slice (some ⟨g,0,none⟩) (rn+1) c) (.slice a2 ln c2) (ww ws P t' s')) ?_ rfl (by kernel_rfl);refine fin fun w9 hS=> ?_;have o9:=hS.now.2.2;have D9:qU w9 base B ep (nx+1) gv (some ⟨g,0,none⟩) (rn+1) c a2 ln c2 (R++[nx,b]) L (ww ws P t' s'):=⟨hS.at 0 rfl,D.up,by rw[AB];exact o9,hS.now.1,fun u hu=> ?_,D.wL⟩
 ·exact⟨_,rfl,aa HY ⟨hrf,rfl⟩ (by omega) (by omega) w9 (D9.out (hW.ww P t' s')) hS.now.2.1⟩
 ·rcases Ao.1 hu with h|h
  ·exact D.wR u h
  ·simp only[List.mem_cons,List.not_mem_nil,or_false]at h;rcases h with rfl|rfl
   ·exact sV (by omega) (by omega)
   ·exact wb
end
theorem xP(w:tA)(b o c:Nat)(ty:tZ)(hc:∀j,j<4→(w.cell? ⟨b,o+j,none⟩).isSome=true)(hf:∀j,j<4→w.frozen? ⟨b,o+j,none⟩=false):
  (Builtin.clear_ #[74] ty #[.slice (some ⟨b,o,none⟩) 1 c]).run Tryz.prog w= .ok (.tuple #[]) (w.setCells b o [iV 0,iV 0,iV 0,iV 0]):=by
 have gI:=run_storeCells_cells (P:=Tryz.prog) b o [iV 0,iV 0,iV 0,iV 0] 0 w (by simpa using hc) (by simpa using hf) (by simp[Value.oneCell']);simp only[Nat.add_zero]at gI;simp[Builtin.clear_,run_underlying Tryz.underlying74,Tryz.zeroValue232,Builtin.zeroCells,Value.cells];rw[show(List.map (fun i=>([Value.int IntKind.i64 0,Value.int IntKind.i64 0,Value.int IntKind.i64 0,Value.int IntKind.i64 0]:tM)[i % 4]?.getD default) (List.range 4))=[Value.int IntKind.i64 0,Value.int IntKind.i64 0,Value.int IntKind.i64 0,Value.int IntKind.i64 0] from rfl,gI];rfl
theorem Rh(L:tG)(k j:Nat):(L.take (4*k)++L.drop (4*k+4)).getD j 0=if j<4*k∧j<L.length then L.getD j 0 else if 4*k≤L.length then L.getD (j+4) 0 else 0:=by
 simp only[List.getD_eq_getElem?_getD];rcases AA j (4*k)with h|h
 ·rcases AA j L.length with h2|h2
  ·rw[if_pos ⟨h,h2⟩,AD (by simp;omega),List.getElem?_take_of_lt h]
  ·rw[if_neg (by omega),if_neg (by omega),Bd (by simp;omega)];rfl
 ·rw[if_neg (by omega)];rcases AA L.length (4*k)with h2|h2
  ·rw[if_neg (by omega),Bd (by simp;omega)];rfl
  ·rw[if_pos h2,AE (by simp;omega),BI];congr 2;simp;omega
theorem J6{w:tA}{base g ln c:Nat}{L:tG}(k:Nat)(h:w.ownsRow base 232 4 (.slice (some ⟨g,0,none⟩) ln c) ln (L.map (Value.int .i64)))(hk:k<ln):
  cA 158 #[.slice (some ⟨g,0,none⟩) ln c,iV k,iV (k+1)] w fun e w'=>e= .returned (.slice (some ⟨g,0,none⟩) (ln-1) c)∧av g w w'∧∀j,j<4*(ln-1)→w'.cell? ⟨g,j,none⟩=some (iV ((L.take (4*k)++L.drop (4*k+4)).getD j 0)):=by
 obtain⟨i2,Ya,hz20,hz21,hz22⟩:=iq Tryz.uF;have uG:=h.cells (g:=g) rfl;have hlen:L.length=ln*4:=by have:=h.1;simpa using this
 rcases h.2 with⟨h0,_⟩|⟨g',cap,cur,e,_,hg,hc,hm,hs,ht⟩
 ·cases h0
 cases e;have cell:∀j,j<ln*4→w.cell? ⟨g,j,none⟩=some (iV (L.getD j 0)):=fun j hj=>by
  have:=uG j (iV (L.getD j 0)) (by simp[List.getElem?_eq_getElem (show j<L.length by omega)]);simpa[Addr.add_mid]using this
 have free:∀o,w.frozen? ⟨g,o,none⟩=false:=fun o=>by simp[World.frozen?,hg]
 unfold maxLen at hm;obtain⟨news,vw⟩:∃news,news=(L.drop (4*k+4)).map (Value.int .i64):=⟨_,rfl⟩;have Qm:news.length=(ln-(k+1))*4:=by rw[vw];simp;omega
 have Vu:∀t,t<(ln-(k+1))*4→news[t]? =some (iV (L.getD (4*k+4+t) 0)):=fun t ht=>by
  rw[vw];simp[List.getElem?_eq_getElem (show 4*k+4+t<L.length by omega)]
 obtain⟨m,wm⟩:∃m,m=k+1:=⟨_,rfl⟩;have hmi:(k:Int)+1=(m:Int):=by omega
 rw[hmi];rw[←wm]at Qm Vu;obtain⟨A,hA,hsrc⟩:∃A:Addr,(if c=m then some (⟨g,0,none⟩:Addr)else some ⟨g,m*4,none⟩)=some A∧Hid (∀t u,news[t]? =some u→w.drew.cell? (A.add t)=some u):=by
  by_cases hh:c=m
  ·refine⟨⟨g,0,none⟩,by simp[hh],ah fun t u hu=> ?_⟩;have h0:news.length=0:=by rw[Qm];omega
   rw[AU.1 h0]at hu;simp at hu
  ·refine⟨⟨g,m*4,none⟩,by simp[hh],ah fun t u hu=> ?_⟩;have ht:t<(ln-m)*4:=by
    have:=(Am.1 hu).1;rwa [Qm]at this
   rw[Vu t ht]at hu;cases hu;rw[BG,show m*4+t=4*k+4+t by omega];exact cell (4*k+4+t) (by omega)
 have s2:Hid (∀u∈news,u.oneCell'=true):=ah (by
  intro u hu;rw[vw]at hu;obtain⟨x,_,rfl⟩:=Ax.1 hu
  rfl)
 have s3:Hid (∀t,t<news.length→(w.drew.cell? ⟨g,0+k*4+t,none⟩).isSome=true∧w.drew.frozen? ⟨g,0+k*4+t,none⟩=false):=ah (by
  intro t ht;rw[Qm]at ht
  exact⟨by show(w.cell? _).isSome=true;rw[Ae,cell _ (by omega)];rfl,free _⟩)
 have s1:Hid (news.length=(ln-m)*4):=ah Qm;obtain⟨W1,hW1⟩:∃W1,W1=w.drew.setCells g (0+k*4) news:=⟨_,rfl⟩;have HW1:Hid (W1=w.drew.setCells g (0+k*4) news):=ah hW1;have T1:av g w W1:=by rw[hW1];exact(GV g w).trans (av.sH g _ _ _)
 have inn:∀t,t<news.length→W1.cell? ⟨g,k*4+t,none⟩=news[t]? :=fun t ht=>by
  rw[hW1,Ae];have:=World.cell?_setCells_in g news (k*4) w.drew (fun j hj=>by have:=(aa s3 j hj).1;rwa [Ae]at this) t ht;rw[this,Ag ht]
 have out:∀o,o<k*4∨k*4+news.length≤o→W1.cell? ⟨g,o,none⟩=w.cell? ⟨g,o,none⟩:=fun o ho=>by
  rw[hW1,Ae];exact World.cell?_setCells_out g news (k*4) w.drew ⟨g,o,none⟩ (fun _ _=>by simpa using ho)
 have f1:∀o,W1.frozen? ⟨g,o,none⟩=false:=fun o=>by rw[hW1,World.frozen?_setCells];exact free o
 have ne:k+(ln-m)=ln-1:=by omega
 have Dk:∀ty,(Builtin.clear_ #[74] ty #[.slice (some ⟨g,(ln-1)*4,none⟩) (ln-(ln-1)) (c-(ln-1))]).run Tryz.prog W1= .ok (.tuple #[]) (W1.setCells g ((ln-1)*4) [iV 0,iV 0,iV 0,iV 0]):=
  fun ty=>by
   rw[show ln-(ln-1)=1 by omega];exact xP W1 g ((ln-1)*4) _ ty (fun j hj=>by rw[out _ (by rw[Qm];omega),cell _ (by omega)];rfl) (fun j _=>f1 _)
 have HF:Hid (av g w (W1.setCells g ((ln-1)*4) [iV 0,iV 0,iV 0,iV 0])∧∀j,j<4*(ln-1)→(W1.setCells g ((ln-1)*4) [iV 0,iV 0,iV 0,iV 0]).cell? ⟨g,j,none⟩=some (iV ((L.take (4*k)++L.drop (4*k+4)).getD j 0))):=ah (by
  refine⟨T1.trans (av.sH g _ _ _),fun j hj=> ?_⟩;rw[World.cell?_setCells_out g _ _ W1 ⟨g,j,none⟩ (fun _ _=>Or.inl (by show j<_;omega)),Rh];rcases AA j (4*k)with h1|h1
  ·rw[if_pos ⟨h1,by omega⟩,out j (by omega)];exact cell j (by omega)
  ·rw[if_neg (by omega),if_pos (by omega)];have:=inn (j-k*4) (by rw[Qm];omega);rw[show k*4+(j-k*4)=j by omega]at this
   rw[this,Vu _ (by omega),show 4*k+4+(j-k*4)=j+4 by omega])
 have hic:k≤c:=by omega
 have hjc:m≤c:=by omega
 have hjl:m≤ln:=by omega
 have Zk:k<m:=by omega
 have ahZ:¬k=m:=by omega
 have Hmk:=ah wm;clear wm hmi hW1 T1 inn out f1 Vu vw Qm cell free uG hs ht hlen h hg;go_enter Tryz.func158,Tryz.ntmps158
 go_wp2_with fail
 go_region_law (refine step_append_room rfl (.tmp 22) (.tmp 25) 74 rfl 232 i2 4 Tryz.underlying74 Ya hz21 g 0 k c (by simp[Act.eval,Act.put]) A (ln-m) (c-m) news (by simp[Act.eval,Act.put]) (aa s1) (aa hsrc) (aa s2) (by omega) (aa s3) ?_;rw[←aa HW1,ne])
 all_goals go_wp2
 go_ret;exact⟨rfl,aa HF⟩
end Go.Proofs.YtmhifeahpnkpiaaGreatDoor
namespace Go.Proofs
open Go.Shelf
def Tryz.laysIndex_ren:Go.Shelf.Ren:=⟨fun|6=>156|n=>n,fun|22=>74|23=>232|25=>237|3=>3|0=>0|4=>4|n=>n,fun|n=>n⟩
theorem Tryz.laysIndex:Go.Proofs.SlLaysH0.n6 Tryz.prog Tryz.laysIndex_ren:={
 mixed:=by kernel_rfl
 f6:=⟨Tryz.f156.name,by decide,Tryz.func156.trans (congrArg some (by kernel_rfl))⟩
 t0:=Tryz.underlying0
 a0:=Tryz.isAgg0
 z0:=Tryz.sizeOf0
 v0:=Tryz.zeroValue0
 t3:=Tryz.underlying3
 a3:=Tryz.isAgg3
 z3:=Tryz.sizeOf3
 v3:=Tryz.zeroValue3
 t4:=Tryz.underlying4
 a4:=Tryz.isAgg4
 z4:=Tryz.sizeOf4
 v4:=Tryz.zeroValue4
 t22:=Tryz.underlying74
 a22:=Tryz.isAgg74
 z22:=Tryz.sizeOf74
 v22:=Tryz.zeroValue74
 t25:=Tryz.underlying237
 a25:=Tryz.isAgg237
 z25:=Tryz.sizeOf237
 v25:=Tryz.zeroValue237}
def Tryz.laysOrder_ren:Go.Shelf.Ren:=⟨fun|6=>159|15=>199|14=>198|28=>233|29=>234|20=>225|21=>226|22=>227|23=>228|24=>229|25=>230|26=>231|27=>232|46=>249|47=>250|48=>251|49=>252|50=>253|57=>257|n=>n,fun|22=>73|24=>87|25=>240|3=>3|39=>269|0=>0|53=>314|55=>316|4=>4|46=>307|45=>306|50=>311|5=>5|9=>9|66=>324|70=>195|76=>331|77=>332|n=>n,fun|n=>n⟩
theorem Tryz.laysOrder:Go.Proofs.SlLaysF0.n6 Tryz.prog Tryz.laysOrder_ren:={
 mixed:=by kernel_rfl
 f6:=⟨Tryz.f159.name,by decide,Tryz.func159.trans (congrArg some (by kernel_rfl))⟩
 f14:=⟨Tryz.f198.name,by decide,Tryz.func198.trans (congrArg some (by kernel_rfl))⟩
 f15:=Tryz.func199.trans (congrArg some (by kernel_rfl))
 f20:=⟨Tryz.f225.name,by decide,Tryz.func225.trans (congrArg some (by kernel_rfl))⟩
 f21:=⟨Tryz.f226.name,by decide,Tryz.func226.trans (congrArg some (by kernel_rfl))⟩
 f22:=⟨Tryz.f227.name,by decide,Tryz.func227.trans (congrArg some (by kernel_rfl))⟩
 f23:=⟨Tryz.f228.name,by decide,Tryz.func228.trans (congrArg some (by kernel_rfl))⟩
 f24:=⟨Tryz.f229.name,by decide,Tryz.func229.trans (congrArg some (by kernel_rfl))⟩
 f25:=⟨Tryz.f230.name,by decide,Tryz.func230.trans (congrArg some (by kernel_rfl))⟩
 f26:=⟨Tryz.f231.name,by decide,Tryz.func231.trans (congrArg some (by kernel_rfl))⟩
 f27:=⟨Tryz.f232.name,by decide,Tryz.func232.trans (congrArg some (by kernel_rfl))⟩
 f28:=Tryz.func233.trans (congrArg some (by kernel_rfl))
 f29:=Tryz.func234.trans (congrArg some (by kernel_rfl))
 f46:=⟨Tryz.f249.name,by decide,Tryz.func249.trans (congrArg some (by kernel_rfl))⟩
 f47:=Tryz.func250.trans (congrArg some (by kernel_rfl))
 f48:=Tryz.func251.trans (congrArg some (by kernel_rfl))
 f49:=⟨Tryz.f252.name,by decide,Tryz.func252.trans (congrArg some (by kernel_rfl))⟩
 f50:=⟨Tryz.f253.name,by decide,Tryz.func253.trans (congrArg some (by kernel_rfl))⟩
 f57:=⟨Tryz.f257.name,by decide,Tryz.func257.trans (congrArg some (by kernel_rfl))⟩
 t0:=Tryz.underlying0
 a0:=Tryz.isAgg0
 z0:=Tryz.sizeOf0
 v0:=Tryz.zeroValue0
 t3:=Tryz.underlying3
 a3:=Tryz.isAgg3
 z3:=Tryz.sizeOf3
 v3:=Tryz.zeroValue3
 t4:=Tryz.underlying4
 a4:=Tryz.isAgg4
 z4:=Tryz.sizeOf4
 v4:=Tryz.zeroValue4
 t5:=Tryz.underlying5
 a5:=Tryz.isAgg5
 z5:=Tryz.sizeOf5
 v5:=Tryz.zeroValue5
 t9:=Tryz.underlying9
 a9:=Tryz.isAgg9
 z9:=Tryz.sizeOf9
 v9:=Tryz.zeroValue9
 t22:=Tryz.underlying73
 a22:=Tryz.isAgg73
 z22:=Tryz.sizeOf73
 v22:=Tryz.zeroValue73
 t25:=Tryz.underlying240
 a25:=Tryz.isAgg240
 z25:=Tryz.sizeOf240
 v25:=Tryz.zeroValue240
 t39:=Tryz.underlying269
 a39:=Tryz.isAgg269
 z39:=Tryz.sizeOf269
 v39:=Tryz.zeroValue269
 t45:=Tryz.underlying306
 a45:=Tryz.isAgg306
 z45:=Tryz.sizeOf306
 v45:=Tryz.zeroValue306
 t46:=Tryz.underlying307
 a46:=Tryz.isAgg307
 z46:=Tryz.sizeOf307
 v46:=Tryz.zeroValue307
 t50:=Tryz.underlying311
 a50:=Tryz.isAgg311
 z50:=Tryz.sizeOf311
 v50:=Tryz.zeroValue311
 t53:=Tryz.underlying314
 a53:=Tryz.isAgg314
 z53:=Tryz.sizeOf314
 v53:=Tryz.zeroValue314
 t55:=Tryz.underlying316
 a55:=Tryz.isAgg316
 z55:=Tryz.sizeOf316
 v55:=Tryz.zeroValue316
 t66:=Tryz.underlying324
 a66:=Tryz.isAgg324
 z66:=Tryz.sizeOf324
 v66:=Tryz.zeroValue324
 t70:=Tryz.underlying195
 a70:=Tryz.isAgg195
 z70:=Tryz.sizeOf195
 v70:=Tryz.zeroValue195
 t76:=Tryz.underlying331
 a76:=Tryz.isAgg331
 z76:=Tryz.sizeOf331
 v76:=Tryz.zeroValue331
 t77:=Tryz.underlying332
 a77:=Tryz.isAgg332
 z77:=Tryz.sizeOf332
 v77:=Tryz.zeroValue332}
def Tryz.laysCompare_ren:Go.Shelf.Ren:=⟨fun|5=>161|7=>200|n=>n,fun|22=>3|3=>3|4=>4|n=>n,fun|n=>n⟩
theorem Tryz.laysCompare:Go.Proofs.SlLaysC2.n5 Tryz.prog Tryz.laysCompare_ren:={
 mixed:=by kernel_rfl
 f5:=⟨Tryz.f161.name,by decide,Tryz.func161.trans (congrArg some (by kernel_rfl))⟩
 f7:=⟨Tryz.f200.name,by decide,Tryz.func200.trans (congrArg some (by kernel_rfl))⟩
 t3:=Tryz.underlying3
 a3:=Tryz.isAgg3
 z3:=Tryz.sizeOf3
 v3:=Tryz.zeroValue3
 t4:=Tryz.underlying4
 a4:=Tryz.isAgg4
 z4:=Tryz.sizeOf4
 v4:=Tryz.zeroValue4
 t22:=Tryz.underlying3
 a22:=Tryz.isAgg3
 z22:=Tryz.sizeOf3
 v22:=Tryz.zeroValue3}
end Go.Proofs
namespace Go.Proofs.YtmhifeahpnkpiaaGreatDoor
open Go.RowKit
section
open Go.Lib
theorem Fb{W:tA}{R:Nat}{c he no bd:Int}{b:Bool}{tmps:tR}(h:aQ W R c he no bd)(t:tmps[4]? =some (.pointer (some ⟨R,0,none⟩)))(tb:tmps[5]? =some (.bool b)):
  (results Tryz.f105 tmps).run Tryz.prog W= .ok (.tuple #[gY c he no bd,.bool b]) W:=by
 obtain⟨k0,k1,k2,k3⟩:=h.cells;simp[results,Tryz.results105,go_sem,k0,k1,k2,k3,t,tb]
abbrev Ri:=Int×Int×Int×Int
abbrev J7(x:Ri):List Value:=[iV x.1,iV x.2.1,iV x.2.2.1,iV x.2.2.2]
def kO(L:tG)(j:Nat):Ri:=(L.getD (4*j) 0,L.getD (4*j+1) 0,L.getD (4*j+2) 0,L.getD (4*j+3) 0)
def iW(L:tG)(n:Nat):List Ri:=(List.range n).map (kO L)
theorem pO(L:tG)(n:Nat):(iW L n).length=n:=by simp[iW]
theorem oJ(L:tG)(n j:Nat)(h:j<n):(iW L n)[j]! =kO L j:=by
 simp[iW,h]
def fW(he hn:Int)(x:Ri):Bool:=x.1==he&&x.2.1==hn
theorem Vv{w:tA}{E:Nat}{k p i b he hn:Int}(hE:w.heap[E]? =some (.cells #[iV k,iV p,iV i,iV b,iV he,iV hn] 55 (0,0))):
  PredBelow Tryz.prog 157 #[.pointer (some ⟨E,0,none⟩)] (fun x:Ri=> .agg (J7 x).toArray) (fW he hn) w:=by
 rintro W ⟨x0,x1,x2,x3⟩ hb;have e1:W.heap[E]? =_:=(hb.block E (bQ hE)).trans hE;have hl:=bQ e1;have k4:W.cell? ⟨E,4,none⟩=some (iV he):=by simp[World.cell?,e1]
 have k5:W.cell? ⟨E,5,none⟩=some (iV hn):=by simp[World.cell?,e1]
 have sR:E≠W.heap.size:=by omega
 clear hE e1;show cA 157 #[.agg #[iV x0,iV x1,iV x2,iV x3],.pointer (some ⟨E,0,none⟩)] W _;go_enter Tryz.func157,Tryz.ntmps157;go_wp2
 all_goals(go_ret;exact⟨by simp_all [fW],hb.alloc hb.size _⟩)
theorem J8(fv:tK)(w:tA):cA 156 #[.slice none 0 0,fv] w fun e w'=>e= .returned (iV (-1))∧w'=w:=by
 go_enter Tryz.func156,Tryz.ntmps156;go_wp2
 go_loopw [5,8] (fun _ s8 wr=>s8=iV 0∧wr=w) (fun _ _ _=>0)
 case atStart=>exact⟨rfl,rfl⟩
 case round=>
  obtain⟨rfl,rfl⟩:=hrel;go_wp2;go_ret;exact⟨rfl,rfl⟩
def vy(he hn:Int)(L:tG)(ln:Nat):Int:=Lib.idxBy (fun _ y=>fW he hn y) ((iW L ln).take ln) default
theorem NX{W:tA}{base E ln c2:Nat}{a2:tB}{L:tG}{k p i b he hn:Int}(hE:W.heap[E]? =some (.cells #[iV k,iV p,iV i,iV b,iV he,iV hn] 55 (0,0)))
  (ow:W.ownsRow base 232 4 (.slice a2 ln c2) ln (L.map (Value.int .i64))) (hl:ln≤500):
  cA 156 #[.slice a2 ln c2,.func (.func 157) #[] #[.pointer (some ⟨E,0,none⟩)]] W (rB (iV (vy he hn L ln)) W):=by
 have uG:∀g,_→_:=fun g h=>ow.cells (g:=g) h;have hlen:L.length=ln*4:=by have:=ow.1;simpa using this
 rcases ow.2 with⟨h0,h1⟩|⟨g,cap,cur,e,_,hg,_⟩
 ·subst h1;cases h0;refine(J8 _ W).mono ?_;rintro e w' ⟨rfl,rfl⟩;exact⟨by simp[vy,iW,Lib.idxBy,Lib.idxByFrom],Be _ _⟩
 ·cases e;have eg:∀args w,(callFunc 157 args).run Tryz.prog w= .ok (.enter 157 args) w:=enters_of Tryz.func157 (by kernel_rfl) rfl;have cell:∀j,j<ln*4→W.cell? ⟨g,j,none⟩=some (iV (L.getD j 0)):=fun j hj=>by
   have:=uG g rfl j (iV (L.getD j 0)) (by simp[List.getElem?_eq_getElem (show j<L.length by omega)]);simpa[Addr.add_mid]using this
  exact AnyQ.slices_IndexFunc Tryz.laysIndex 4 Tryz.isAgg232 Tryz.sizeOf232 J7 (fun _=>rfl) (fW he hn) 157 #[.pointer (some ⟨E,0,none⟩)] eg g 0 ln c2 (iW L ln) W (Vv hE) (by rw[pO];exact Aa _) (by omega) (bQ hg) (fun j hj i v hi=>by
   rw[pO]at hj;rw[oJ L ln j hj]at hi;rw[Ae]
   match i,hi with
   |0,hi=>simp[J7,kO]at hi;rw[←hi,cell _ (by omega)];simp[Nat.mul_comm]
   |1,hi=>simp[J7,kO]at hi;rw[←hi,cell _ (by omega)];simp[Nat.mul_comm]
   |2,hi=>simp[J7,kO]at hi;rw[←hi,cell _ (by omega)];simp[Nat.mul_comm]
   |3,hi=>simp[J7,kO]at hi;rw[←hi,cell _ (by omega)];simp[Nat.mul_comm]
   |i+4,hi=>simp[J7]at hi)
structure Dl(w wx:tA)(base B:Nat)(ep nx gv:Int)(a1:tB)(rn c1:Nat)(R:tG)(g ln c2:Nat)(L:tG)(ws:tD)(A:Nat):Prop where
 d:bg wx B ep nx gv (.slice a1 rn c1) (.slice (some ⟨g,0,none⟩) ln c2) ws
 o1:wx.ownsRow base 87 2 (.slice a1 rn c1) rn (R.map (Value.int .i64))
 row:RowK .i64 wx (some ⟨g,0,none⟩) (4*ln) L
 off:g≠A
 le:ln≤c2
 a:aQ wx A 0 0 0 0
 cP:Below base w wx
 up:base≤B
 low:base≤g
section
variable{w wx wy:tA}{base B g:Nat}{ep nx gv:Int}{a1:tB}{rn ln c1 c2:Nat}{R L L':tG}{ws:tD}{A:Nat}{wt:tH}{wz:Nat→Nat→Bool}
theorem Pc.Vw(C:Pc w wx base B ep nx gv a1 rn c1 R (some ⟨g,0,none⟩) ln c2 L ws A)(t:av g wx wy)(hl:L'.length=4*(ln-1))(hc:∀j,j<4*(ln-1)→wy.cell? ⟨g,j,none⟩=some (iV (L'.getD j 0)))
  (wL:∀u∈L',(Lit.int .i64 u).wf=true):
  bg wy B ep nx gv (.slice a1 rn c1) (.slice (some ⟨g,0,none⟩) ln c2) ws∧Dl w (wy.setCell ⟨B,4,none⟩ (.slice (some ⟨g,0,none⟩) (ln-1) c2)) base B ep nx gv a1 rn c1 R g (ln-1) c2 L' ws A:=by
 have gB:g≠B:=aT C.o2 C.d (by decide) g rfl;have gA:g≠A:=aT C.o2 C.a (by decide) g rfl;have nA:A≠B:=cM C.a C.d (by decide);have hg:=C.o2.lt g rfl;have dy:bg wy B ep nx gv (.slice a1 rn c1) (.slice (some ⟨g,0,none⟩) ln c2) ws:=C.d.dC t (fun e=>gB e.symm);have ay:aQ wy A 0 0 0 0:=C.a.dC t (fun e=>gA e.symm);have o1y:=t.owns C.o1 (fun q hq e=>jk C.o1 C.o2 (by decide) q hq (by rw[e];rfl));have T2:=av.set B 4 wy (.slice (some ⟨g,0,none⟩) (ln-1) c2);have lc:ln≤c2:=by
  rcases C.o2.2 with⟨h,_⟩|⟨g',cap,cur,e,_,_,h,_⟩
  ·cases h
  ·cases e;exact h
 refine⟨dy,dy.xH _,T2.owns o1y (aT o1y dy (by decide)), ?_,gA,by omega,ay.dC T2 nA,T2.under (t.under C.cP hg.1) C.up,C.up,hg.1⟩;generalize wy.setCell ⟨B,4,none⟩ (.slice (some ⟨g,0,none⟩) (ln-1) c2)=wv at T2⊢;refine⟨hl,wL,fun j hj=>⟨g,0,rfl,by rw[T2.size,t.size];exact hg.2, ?_⟩⟩;rw[Ae,←hc j hj];exact Ck (T2.block g gB)
theorem Dl.turn(C:Dl w wx base B ep nx gv a1 rn c1 R g ln c2 L ws A)(T:av A wx wy)(wR:∀u∈R,(Lit.int .i64 u).wf=true)(hW:gN ws wt wz)(hA:base≤A):jF wy base B ep nx gv rn R ln L wt wz∧Below base w wy:=by
 have nA:A≠B:=cM C.a C.d (by decide);have o1z:=T.owns C.o1 (aT C.o1 C.a (by decide));obtain⟨_,_,e1,r1,l1,_,n1,x1⟩:=RowK.eO o1z wR;cases e1;refine⟨⟨a1,c1,some ⟨g,0,none⟩,c2,ws,C.d.dC T (fun e=>nA e.symm),r1,T.row C.row (fun x hx _=>by cases hx;exact C.off),l1,C.le,n1,(by intro h;cases h),hW,x1, ?_⟩,T.under C.cP hA⟩;intro x hx;cases hx;exact C.low
end
theorem GW(he hn:Int)(L:tG)(ln:Nat):vy he hn L ln= -1∨∃m:Nat,m<ln∧vy he hn L ln=m:=by
 by_cases h:∃m,m<ln∧fW he hn (kO L m)=true
 ·right;have hP:∃m,m<ln∧fW he hn (kO L m)=true:=h;obtain⟨m,⟨hm,hh⟩,hmin⟩:∃m,(m<ln∧fW he hn (kO L m)=true)∧∀j,j<m→¬(j<ln∧fW he hn (kO L j)=true):=by
   obtain⟨m,hm⟩:=hP
   induction m using Nat.strongRecOn with
   |ind m ih=>
    by_cases hj:∃j,j<m∧(j<ln∧fW he hn (kO L j)=true)
    ·obtain⟨j,hj1,hj2⟩:=hj;exact ih j hj1 hj2
    ·exact⟨m,hm,fun j hj1 hj2=>hj ⟨j,hj1,hj2⟩⟩
  refine⟨m,hm,Lib.idxBy_hit _ (iW L ln) ln m default hm (by rw[pO];exact Aa _) (by show fW he hn (iW L ln)[m]! =true;rw[oJ L ln m hm];exact hh) (fun j hj=> ?_)⟩;show fW he hn (iW L ln)[j]! =false;rw[oJ L ln j (by omega)];have:=hmin j hj;simpa[show j<ln by omega]using this
 ·left;refine Lib.idxBy_miss _ (iW L ln) ln default (fun j hj=> ?_);show fW he hn (iW L ln)[j]! =false;rw[oJ L ln j hj];have:¬fW he hn (kO L j)=true:=fun e=>h ⟨j,hj,e⟩;simpa using this
theorem Vx(L:tG)(m ln:Nat)(h:L.length=ln*4)(hm:m<ln):(L.take (4*m)++L.drop (4*m+4)).length=4*(ln-1):=by simp;omega
theorem Zl{L:tG}(h:∀u∈L,(Lit.int .i64 u).wf=true)(a b:Nat):∀u∈L.take a++L.drop b,(Lit.int .i64 u).wf=true:=by
 intro u hu;rcases Ao.1 hu with hu|hu
 ·exact h u (AK hu)
 ·exact h u (Bj hu)
theorem Vy(base B:Nat)(ep nx gv:Int)(a1:tB)(rn c1:Nat)(a2:tB)(ln c2:Nat)(R L:tG)(ws:tD)(wt:tH)(wz:Nat→Nat→Bool)(k p i b he hn:Int)(w:tA)(D:qU w base B ep nx gv a1 rn c1 a2 ln c2 R L ws)(hW:gN ws wt wz)(dQ:base≤w.heap.size)(hs:rn+ln≤500)
  (Q:Value→World→Prop) (HS:Hid ((¬he=ep)→∀w',bZ w w'→Q (.tuple #[gY 11 0 0 0,.bool false]) w'))
  (HN:Hid (he=ep→vy he hn L ln= -1→∀w',bZ w w'→Q (.tuple #[gY 7 0 0 0,.bool false]) w'))
  (HY:Hid (he=ep→∀m:Nat,m<ln→vy he hn L ln=m→∀w',jF w' base B ep nx gv rn R (ln-1) (L.take (4*m)++L.drop (4*m+4)) wt wz→Below base w w'→Q (.tuple #[gY 0 0 0 0,.bool true]) w')):
  cA 105 #[.pointer (some ⟨B,0,none⟩),xJ k p i b he hn] w fun e w'=>∃v,e= .returned v∧Q v w':=by
 go_enter Tryz.func105,Tryz.ntmps105
 go_wp2_with fail
 obtain⟨W2,hW2,z2,b2,s2,ev2⟩:=JX w k p i b he hn;rw[←hW2];clear hW2;have D2:=D.next b2;obtain⟨d0,d1,d2,d3,d4⟩:=D2.d.heads;have v4:W2.cell? ⟨w.heap.size,4,none⟩=some (iV he):=by simp[World.cell?,ev2]
 have v5:W2.cell? ⟨w.heap.size,5,none⟩=some (iV hn):=by simp[World.cell?,ev2]
 have Yc:=ah z2;have sE:=ah b2;have xQ:=ah ev2;have UO:=ah D2;clear D D2 z2 b2 s2 ev2;by_cases gI:he=ep
 case neg=>
  go_quiet (fail)
  have HZC:=ah ((aa Yc).next (pG W2 nq));have HBC:=ah (Below.next (aa sE) (pG W2 nq));clear Yc sE xQ UO d0 d1 d2 d3 d4 v4 v5
  go_wp2_with (go_at_call 155;refine(dJ _ _).mono ?_;rintro e w1 ⟨rfl,b1⟩;have z1:=(aa HZC).next b1;have b2:=Below.next (aa HBC) b1;obtain⟨y0,y1,y2,y3⟩:=z1.cells;have yf:=z1.free;have HZ:=ah z1;have HB:=ah b2;clear b1 z1 b2)
  exact Al (Fb ((aa HZ).store _ 0 0 0) rfl rfl) rfl ⟨_,rfl,aa HS gI _ ((gl w1 (w.heap.size+1) _ 0 0 0).under (aa HB) (Bv _))⟩
 case pos=>
  subst gI
  go_quiet (fail)
  go_wp2_with fail
  have b3:Below W2.heap.size W2 (W2.drewN nq):=pG W2 nq;have D3:=(aa UO).next b3;have Yb:=D3.d.lt;refine(NX (show(W2.drewN nq).heap[w.heap.size]? =_ from aa xQ) D3.o2 (by omega)).mono ?_;rintro e w4 ⟨rfl,b4⟩;have D4:=D3.next b4;have C4:Pc w w4 base B he nx gv a1 rn c1 R a2 ln c2 L ws (w.heap.size+1):=
   ⟨D4.d,D4.o1,D4.o2,((aa Yc).next b3).next b4,(Below.next (Below.next (aa sE) b3) b4).mono dQ,D4.up⟩
  have LW:=ah (Below.next (Below.next (aa sE) b3) b4);have HZC:=ah (((aa Yc).next b3).next b4);have LX:=ah D4;have Yg:base≤w4.heap.size:=by have:=D4.d.lt;have:=D4.up;omega
  clear Yc sE xQ UO d0 d1 d2 d3 d4 v4 v5 D3 D4 b3 b4 Yb;rcases GW he hn L ln with hk|⟨m,hm,hk⟩
  case inl=>
   rw[hk];have HK:=ah hk;clear C4 hk
   go_wp2_with (go_at_call 155;refine(dJ _ _).mono ?_;rintro e w1 ⟨rfl,b1⟩;have z1:=(aa HZC).next b1;have b2:=Below.next (aa LW) b1;obtain⟨y0,y1,y2,y3⟩:=z1.cells;have yf:=z1.free;have HZ:=ah z1;have HB:=ah b2;clear b1 z1 b2)
   exact Al (Fb ((aa HZ).store _ 0 0 0) rfl rfl) rfl ⟨_,rfl,aa HN (by simp) (aa HK) _ ((gl w1 (w.heap.size+1) _ 0 0 0).under (aa HB) (Bv _))⟩
  case inr=>
   rw[hk];have HK:=ah hk;clear hk HZC;obtain⟨d0,d1,d2,d3,d4⟩:=C4.d.heads;have hmz:¬(m:Int)<0:=by omega
   have hlen:L.length=ln*4:=by have:=C4.o2.1;simpa using this
   obtain⟨g,hg⟩:∃g,a2=some ⟨g,0,none⟩:=by
    rcases C4.o2.2 with⟨_,h0⟩|⟨g,cap,cur,e,_⟩
    ·omega
    ·cases e;exact⟨g,rfl⟩
   subst hg;have HC4:=ah C4;have wL:=(aa LX).wL;have HWR:=ah (aa LX).wR;clear C4
   go_wp2_with fail
   refine(J6 m (aa HC4).o2 hm).mono ?_;rintro e w5 ⟨rfl,t5,c5⟩;obtain⟨y5,C5⟩:=(aa HC4).Vw t5 (Vx L m ln hlen hm) c5 (Zl wL _ _);obtain⟨e0,e1,e2,e3,e4⟩:=y5.heads;have ef:=y5.free;obtain⟨u0,u1,u2,u3⟩:=C5.a.cells;have uf:=C5.a.free;have HC5:=ah C5;clear d0 d1 d2 d3 d4 t5 c5 y5 C5 HC4 wL LX;go_wp2;obtain⟨D9,B9⟩:=(aa HC5).turn (gl _ (w.heap.size+1) 0 0 0 0) (aa HWR) hW (by omega);exact Al (Fb ((aa HC5).a.store 0 0 0 0) rfl rfl) rfl ⟨_,rfl,aa HY (by simp) m hm (aa HK) _ D9 B9⟩
end
section
open Go.Lib Go.Sort
abbrev Fc(x:Int×Int):List Value:=[iV x.1,iV x.2]
def gm(R:tG)(i:Nat):Int×Int:=(R.getD (2*i) 0,R.getD (2*i+1) 0)
def cp(R:tG)(n:Nat):List (Int×Int):=(List.range n).map (gm R)
theorem GX(R:tG)(n:Nat):(cp R n).length=n:=by simp[cp]
structure Ordered(R R':tG)(n:Nat):Prop where
 len:R'.length=2*n
 perm:(cp R' n).Perm (cp R n)
 JM:∀i j,i<j→j<n→R'.getD (2*i) 0≤R'.getD (2*j) 0
theorem Vz(x y:Int×Int):ltOf (fun x y:Int×Int=>Lib.compareInt x.1 y.1) x y=decide (x.1<y.1):=by
 unfold ltOf Lib.compareInt;by_cases h1:x.1<y.1
 ·simp[h1]
 ·by_cases h2:y.1<x.1<;>simp[h1,h2]
theorem abT:SWO (ltOf fun x y:Int×Int=>Lib.compareInt x.1 y.1) where
 irrefl x:=by rw[Vz];simp
 trans x y z h1 h2:=by rw[Vz]at*;simp at*;omega
 ntrans x y z h1 h2:=by rw[Vz]at*;simp at*;omega
theorem Zm(x y:Int×Int)(W:tA):cA 160 #[.agg #[iV x.1,iV x.2],.agg #[iV y.1,iV y.2]] W fun e w'=>e= .returned (iV (Lib.compareInt x.1 y.1))∧∃q os',w'=grow (W.drewN q) os':=by
 have lZ:=fun W'=>AnyG.cmp_Compare_int Tryz.laysCompare x.1 y.1 W';change∀W',cA 161 _ _ _ at lZ;generalize Lib.compareInt x.1 y.1=r at lZ⊢;go_enter Tryz.func160,Tryz.ntmps160
 go_wp2_with (go_at_call 161;refine(lZ _).mono ?_;rintro e w' ⟨rfl,rfl⟩)
 go_ret;exact⟨rfl,0,_,by rw[alloc_eq_grow,alloc_eq_grow,grow_grow];rfl⟩
def xR(d:Array (Int×Int)):List Int:=(List.range (2*d.size)).map fun j=>if j % 2=0 then(d[j/2]!).1 else(d[j/2]!).2
theorem nj(d:Array (Int×Int))(j:Nat)(h:j<2*d.size):(xR d).getD j 0=if j % 2=0 then(d[j/2]!).1 else(d[j/2]!).2:=by
 simp[xR,h]
theorem J9(d:Array (Int×Int)):cp (xR d) d.size=d.toList:=by
 apply List.ext_getElem
 ·simp[cp]
 ·intro i h1 h2;have hi:i<d.size:=by simpa using h2
  simp only[cp,gm,List.getElem_map,List.getElem_range];rw[nj d _ (by omega),nj d _ (by omega),if_pos (by omega),if_neg (by omega),show 2*i/2=i by omega,show(2*i+1)/2=i by omega];simp[hi]
theorem NY(R:tG)(n i:Nat)(h:i<n):(cp R n).toArray[i]! =gm R i:=by
 simp[cp,h]
theorem J_{w:tA}{base g n c:Nat}{R:tG}(h:w.ownsRow base 87 2 (.slice (some ⟨g,0,none⟩) n c) n (R.map (Value.int .i64)))(hn:n≤500):
  cA 159 #[.slice (some ⟨g,0,none⟩) n c,.func (.func 160) #[] #[]] w fun e w'=>e= .returned (.tuple #[])∧∃R',Ordered R R' n∧w.grownBy w' (some g)∧∀j,j<2*n→w'.cell? ⟨g,j,none⟩=some (iV (R'.getD j 0)):=by
 have uG:∀j u,_→_:=fun j u hu=>h.cells (g:=g) rfl j u hu;have hlen:R.length=n*2:=by have:=h.1;simpa using this
 have LQ:=(h.lt g rfl).2;rcases h.2 with⟨h0,_⟩|⟨g',cap,cur,e,_,hg,_⟩
 ·cases h0
 cases e;have cell:∀j,j<n*2→w.cell? ⟨g,j,none⟩=some (iV (R.getD j 0)):=fun j hj=>by
  have:=uG j (iV (R.getD j 0)) (by simp[List.getElem?_eq_getElem (show j<R.length by omega)]);simpa[Addr.add_mid]using this
 have eg:∀args w,(callFunc 160 args).run Tryz.prog w= .ok (.enter 160 args) w:=enters_of Tryz.func160 (by kernel_rfl) rfl;have iE:(cp R n).toArray.size=n:=by simp[cp]
 have hH:HoldsK Fc 2 w g 0 (cp R n).toArray:=by
  intro j hj;rw[size_flatK,iE]at hj;refine⟨?_,by simp[World.frozen?,hg]⟩;rw[Ae,cell j hj,get_flatK _ _ _ _ (by rw[iE];exact hj),NY R n _ (by omega)];rcases Nat.mod_two_eq_zero_or_one j with hm|hm
  ·rw[hm];simp only[id,Fc,gm];rw[show 2*(j/2)=j by omega];rfl
  ·rw[hm];simp only[id,Fc,gm];rw[show 2*(j/2)+1=j by omega];rfl
 have lZ:=AnyQ.slices_SortFunc Tryz.laysOrder 2 Tryz.isAgg87 Tryz.sizeOf87 Fc (fun _=>rfl) (fun x v hv=>by simp[Fc]at hv;rcases hv with rfl|rfl<;>rfl) (fun x y=>Lib.compareInt x.1 y.1) abT 160 #[] g 0 c (cp R n).toArray w eg (fun _ _ _ _ x y=>Zm x y _) hH LQ (by rw[iE];omega)
 rw[iE]at lZ;refine(show cA 159 _ _ _ from lZ).mono ?_;rintro e w' ⟨rfl,d',m,os,⟨ps,_,pp⟩,so,rfl⟩;rw[iE]at ps;have hK:=holdsK_sortWorldK Fc 2 w g 0 m (cp R n).toArray d' os LQ hH (by rw[ps,iE]);refine⟨rfl,xR d',⟨by simp[xR,ps], ?_, ?_⟩, ?_, ?_⟩
 ·have e1:=J9 d';rw[ps]at e1;rw[e1];have e2:(d'.extract 0 n).toList=d'.toList:=by rw[←ps];simp
  have e3:((cp R n).toArray.extract 0 n).toList=cp R n:=by simp[List.take_of_length_le (Nat.le_of_eq (GX R n))]
  rw[e2,e3]at pp;exact pp
 ·intro i j hij hj;have:=so i j (Ak _) hij hj;rw[Vz]at this;rw[nj d' _ (by omega),nj d' _ (by omega),if_pos (by omega),if_pos (by omega),show 2*i/2=i by omega,show 2*j/2=j by omega];simp at this;exact this
 ·refine⟨rfl,rfl,rfl, ?_,fun k hk fM=> ?_⟩
  ·simp[sortWorldK,putRowK,Go.Sort.putRow,Go.Sort.mapBlock,Go.Sort.ahead]
  ·have:g≠k:=fun e=>fM (by rw[e]);show(grow (putRowK Fc 2 (Go.Sort.ahead w m) g 0 d') os).heap[k]? =w.heap[k]?;rw[heap_grow_old _ _ (by simp[putRowK,Go.Sort.putRow,Go.Sort.mapBlock,Go.Sort.ahead];exact hk)];simp[putRowK,Go.Sort.putRow,Go.Sort.mapBlock,Go.Sort.ahead,Array.getElem?_modify,this]
 ·intro j hj;have:=(hK j (by rw[size_flatK,ps];omega)).1;rw[Ae]at this;rw[this,get_flatK _ _ _ _ (by rw[ps];omega),nj d' j (by omega)];rcases Nat.mod_two_eq_zero_or_one j with hm|hm
  ·rw[hm];simp[Fc]
  ·rw[hm];simp[Fc]
theorem LY{W:tA}{R:Nat}{c he no bd:Int}{b:Bool}{tmps:tR}(h:aQ W R c he no bd)(t:tmps[4]? =some (.pointer (some ⟨R,0,none⟩)))(tb:tmps[5]? =some (.bool b)):
  (results Tryz.f106 tmps).run Tryz.prog W= .ok (.tuple #[gY c he no bd,.bool b]) W:=by
 obtain⟨k0,k1,k2,k3⟩:=h.cells;simp[results,Tryz.results106,go_sem,k0,k1,k2,k3,t,tb]
def dD(L:tG):Nat→List Int
 |0=>[]
 |k+1=>dD L k++[L.getD (4*k+2) 0,L.getD (4*k+3) 0]
theorem Dz{L:tG}(wL:∀u∈L,(Lit.int .i64 u).wf=true):∀k,∀u∈dD L k,(Lit.int .i64 u).wf=true
 |0,u,hu=>by cases hu
 |k+1,u,hu=>by
  simp only[dD,List.mem_append,List.mem_cons,List.not_mem_nil,or_false]at hu;rcases hu with hu|rfl|rfl
  ·exact Dz wL k u hu
  ·exact lI L wL _
  ·exact lI L wL _
theorem Ordered.wf{X R':tG}{n:Nat}(h:Ordered X R' n)(wX:∀u∈X,(Lit.int .i64 u).wf=true):∀u∈R',(Lit.int .i64 u).wf=true:=by
 intro u hu;obtain⟨j,hj,rfl⟩:=List.mem_iff_getElem.1 hu;have hl:=h.len;have hm:gm R' (j/2)∈cp R' n:=Ax.2 ⟨j/2,by simp;omega,rfl⟩;obtain⟨i,_,hi⟩:=Ax.1 (h.perm.mem_iff.1 hm);simp only[gm,Prod.mk.injEq]at hi;rcases Nat.mod_two_eq_zero_or_one j with hm|hm
 ·have:R'[j]=R'.getD (2*(j/2)) 0:=by rw[show 2*(j/2)=j by omega];simp[hj]
  rw[this,←hi.1];exact lI X wX _
 ·have:R'[j]=R'.getD (2*(j/2)+1) 0:=by rw[show 2*(j/2)+1=j by omega];simp[hj]
  rw[this,←hi.2];exact lI X wX _
theorem NZ{w:tA}{base n c:Nat}{a:tB}{X:tG}(h:w.ownsRow base 87 2 (.slice a n c) n (X.map (Value.int .i64)))(hn:n≤500)(wX:∀u∈X,(Lit.int .i64 u).wf=true):
  cA 159 #[.slice a n c,.func (.func 160) #[] #[]] w fun e w'=>e= .returned (.tuple #[])∧∃R',Ordered X R' n∧w.grownBy w' (Value.slice a n c).ownBlock∧RowK .i64 w' a (2*n) R'∧(a=none→c=0)∧n≤c:=by
 have hlen:X.length=n*2:=by have:=h.1;simpa using this
 rcases h.2 with⟨h0,h1⟩|⟨g,cap,cur,e,_,hg,hc,_⟩
 ·subst h1;cases h0;have hX:X=[]:=AU.1 hlen;refine(show cA 159 _ _ _ from AnyF.slices_SortFunc_none Tryz.laysOrder none 0 _ w).mono ?_;rintro e w' ⟨rfl,rfl⟩;exact⟨rfl,[],⟨rfl,by simp[cp],fun i j _ h=>absurd h (AH _)⟩,World.grownBy.refl _ _,RowK.nil _ _ _,fun _=>rfl,Aa _⟩
 ·cases e;have LQ:=(h.lt g rfl).2;refine(J_ h hn).mono ?_;rintro e w' ⟨rfl,R',o,gr,cell⟩;refine⟨rfl,R',o,gr,⟨o.len,o.wf wX,fun j hj=>⟨g,0,rfl,by have:=gr.size;omega,by rw[Ae];exact cell j hj⟩⟩,(fun h=>by cases h),hc⟩
structure Eo(w wx:tA)(base B:Nat)(ep nx gv:Int)(a:tB)(n c:Nat)(R':tG)(lv:tK)(ws:tD)(A:Nat):Prop where
 d:bg wx B ep nx gv (.slice a n c) lv ws
 row:RowK .i64 wx a (2*n) R'
 off:∀x,a=some x→x.block≠B∧x.block≠A∧base≤x.block
 le:n≤c
 nil:a=none→c=0
 a:aQ wx A 0 0 0 0
 cP:Below base w wx
 up:base≤B
section
variable{w wx wy:tA}{base B:Nat}{ep nx gv:Int}{a a2:tB}{n ln c c2:Nat}{X R' L:tG}{lv:tK}{ws:tD}{A:Nat}{wt:tH}{wz:Nat→Nat→Bool}
theorem Pc.sorted(C:Pc w wx base B ep nx gv a n c X a2 ln c2 L ws A)(gr:wx.grownBy wy (Value.slice a n c).ownBlock)(row:RowK .i64 wy a (2*n) R')(pz:a=none→c=0)(hle:n≤c):Eo w wy base B ep nx gv a n c R' (.slice a2 ln c2) ws A:=by
 have keep:∀Y o,wx.heap[Y]? =some o→(Value.slice a n c).ownBlock≠some Y→wy.heap[Y]? =some o:=by
  intro Y o hY fM;rw[gr.block Y (bQ hY) (fun e=>fM e.symm)];exact hY
 have oB:=aT C.o1 C.d (by decide);have oA:=aT C.o1 C.a (by decide);refine⟨keep B _ C.d (fun e=>oB B e rfl),row,fun x hx=> ?_,hle,pz,keep A _ C.a (fun e=>oA A e rfl),C.cP.grown gr (by have:=C.d.lt;have:=C.up;omega) (fun q hq=>(C.o1.lt q hq).1),C.up⟩;subst hx;exact⟨oB _ rfl,oA _ rfl,(C.o1.lt _ rfl).1⟩
theorem Eo.turn(E:Eo w wx base B ep nx gv a n c R' lv ws A)(t:av B wx wy){NQ NR NS:Int}{lv':tK}(d:bg wy B NQ NR NS (.slice a n c) lv' ws):Eo w wy base B NQ NR NS a n c R' lv' ws A:=
 ⟨d,t.row E.row (fun x hx _=>(E.off x hx).1),E.off,E.le,E.nil,E.a.dC t (cM E.a E.d (by decide)),t.under E.cP E.up,E.up⟩
theorem Eo.out(E:Eo w wx base B ep nx gv a n c R' (.slice none 0 0) ws A)(t:av A wx wy)(hW:gN ws wt wz)(hA:base≤A):jF wy base B ep nx gv n R' 0 [] wt wz∧Below base w wy:=by
 have nA:A≠B:=cM E.a E.d (by decide);exact⟨⟨a,c,none,0,ws,E.d.dC t (fun e=>nA e.symm),t.row E.row (fun x hx _=>(E.off x hx).2.1),RowK.nil _ _ _,E.le,Aa _,E.nil,fun _=>rfl,hW,fun x hx=>(E.off x hx).2.2,fun x hx=>by cases hx⟩,t.under E.cP hA⟩
end
theorem VA(base B:Nat)(ep nx gv:Int)(a1:tB)(rn c1:Nat)(a2:tB)(ln c2:Nat)(R L:tG)(ws:tD)(wt:tH)(wz:Nat→Nat→Bool)(k p i b he hn:Int)(w:tA)(D:qU w base B ep nx gv a1 rn c1 a2 ln c2 R L ws)(hW:gN ws wt wz)(dQ:base≤w.heap.size)(hs:rn+ln≤500)(h0:0≤ep)(h1:ep≤1048576)
  (Q:Value→World→Prop) (HF:Hid (ep=1048576→∀w',bZ w w'→Q (.tuple #[gY 14 0 0 0,.bool false]) w'))
  (HY:Hid (ep<1048576→∀R' w',Ordered (R++dD L ln) R' (rn+ln)→jF w' base B (ep+1) nx 0 (rn+ln) R' 0 [] wt wz→Below base w w'→Q (.tuple #[gY 0 0 0 0,.bool true]) w')):
  cA 106 #[.pointer (some ⟨B,0,none⟩),xJ k p i b he hn] w fun e w'=>∃v,e= .returned v∧Q v w':=by
 obtain⟨i1,hi1,Q5,hz11,hz12⟩:=iq Tryz.LS;obtain⟨d0,d1,d2,d3,d4⟩:=D.d.heads;have hBl:=D.d.lt;have Yb:B≠w.heap.size:=by omega
 have NT:B≠w.heap.size+1:=by omega
 by_cases hf:ep=1048576
 case pos=>
  clear D;go_enter Tryz.func106,Tryz.ntmps106
  go_wp2_with (go_at_call 155;refine(dJ _ _).mono ?_;rintro e w1 ⟨rfl,b1⟩;obtain⟨z1,b2⟩:=Fa b1;obtain⟨y0,y1,y2,y3⟩:=z1.cells;have yf:=z1.free;have HZ:=ah z1;have HB:=ah b2;clear b1 z1 b2)
  exact Al (LY ((aa HZ).store _ 0 0 0) rfl rfl) rfl ⟨_,rfl,aa HF (by simp[hf]) _ ((gl w1 (w.heap.size+1) _ 0 0 0).under (aa HB) (Bv _))⟩
 case neg=>
  go_enter Tryz.func106,Tryz.ntmps106
  go_wp2_with fail
  obtain⟨W2,hW2,z2,b2,s2,-⟩:=JX w k p i b he hn;rw[←hW2,show(ep==1048576)=false by simpa using hf];clear hW2;have D2:=D.next b2;have C2:Pc w W2 base B ep nx gv a1 rn c1 R a2 ln c2 L ws (w.heap.size+1):=⟨D2.d,D2.o1,D2.o2,z2,b2.mono dQ,D2.up⟩;have HD:=ah D;have wL:=D.wL;clear d0 d1 d2 d3 d4 Yb NT D D2 z2 b2 s2
  go_loopw [23] (fun t wr=>∃(m:Nat) (a:tB) (c:Nat),m≤ln∧t=iV m∧Pc w wr base B ep nx gv a (rn+m) c (R++dD L m) a2 ln c2 L ws (w.heap.size+1)) (fun t _=>ln-(intOf t).toNat)
  case atStart=>exact⟨0,a1,c1,by omega,rfl,by simpa[dD]using C2⟩
  case round=>
   obtain⟨m,a,c,hm,rfl,C⟩:=hrel;clear C2;by_cases aM:m<ln
   ·obtain⟨_,_,e2,r2,_,_,_,_⟩:=RowK.eO C.o2 wL;cases e2;obtain⟨g,off,rfl⟩:=r2.form (by omega);obtain⟨x0,hx0⟩:∃x,x=L.getD (4*m) 0:=⟨_,rfl⟩;obtain⟨x1,hx1⟩:∃x,x=L.getD (4*m+1) 0:=⟨_,rfl⟩;obtain⟨x2,hx2⟩:∃x,x=L.getD (4*m+2) 0:=⟨_,rfl⟩;obtain⟨x3,hx3⟩:∃x,x=L.getD (4*m+3) 0:=⟨_,rfl⟩;have k0:wr.cell? ⟨g,off+m*4,none⟩=some (iV x0):=by rw[Bl m 4,hx0];exact r2.at (4*m) (by omega)
    have k1:wr.cell? ⟨g,off+m*4+1,none⟩=some (iV x1):=by rw[Bl m 4,hx1];exact r2.at (4*m+1) (by omega)
    have k2:wr.cell? ⟨g,off+m*4+2,none⟩=some (iV x2):=by rw[Bl m 4,hx2];exact r2.at (4*m+2) (by omega)
    have k3:wr.cell? ⟨g,off+m*4+3,none⟩=some (iV x3):=by rw[Bl m 4,hx3];exact r2.at (4*m+3) (by omega)
    have LQ:g<wr.heap.size:=r2.lt (by omega);have hgn:g≠wr.heap.size:=by omega
    have lB:=C.d.lt;have nB:B≠wr.heap.size:=by omega
    have hT:Hid (R++dD L (m+1)=(R++dD L m)++[x2,x3]):=ah (by rw[hx2,hx3];simp[dD]);have HC:=ah C;clear C r2 hx0 hx1 hx2 hx3
    go_wp2_with fail
    obtain⟨W3,hW3,b3,s3,e3⟩:∃W3,W3=wr.alloc (.cells #[iV x0,iV x1,iV x2,iV x3] 232)∧bZ wr W3∧W3.heap.size=wr.heap.size+1∧W3.heap[wr.heap.size]? =some (.cells #[iV x0,iV x1,iV x2,iV x3] 232 (0,0)):=⟨_,rfl,aA _ _,by simp,AQ wr _⟩;rw[←hW3];have q2:W3.cell? ⟨wr.heap.size,2,none⟩=some (iV x2):=by simp[World.cell?,e3]
    have q3:W3.cell? ⟨wr.heap.size,3,none⟩=some (iV x3):=by simp[World.cell?,e3]
    have hbr:base≤wr.heap.size:=by have:=(aa HC).up;omega
    have C3:=(aa HC).next b3 hbr;obtain⟨d0,d1,d2,d3,d4⟩:=C3.d.heads;have df:=C3.d.free;have lB3:=C3.d.lt;have nB3:B≠W3.heap.size:=by omega
    have nw3:wr.heap.size≠W3.heap.size:=by omega
    have lw3:wr.heap.size<W3.heap.size:=by omega
    have NU:base≤W3.heap.size:=by omega
    have b7:Below W3.heap.size W3 (W3.alloc (.cells #[iV x2,iV x3] 87)).drew:=Below.next (aA _ _) ⟨rfl,rfl,rfl,Aa _,fun _ _=>rfl⟩;have HO7:Hid ((W3.alloc (.cells #[iV x2,iV x3] 87)).drew.ownsRow base 87 2 (.slice a (rn+m) c) (rn+m) ((R++dD L m).map (Value.int .i64))):=ah (aI C3.o1 (fun q _ hq=>b7.block q hq));have Yd:=ah C3;have Q3:=ah b7;clear hW3 b3 s3 e3 k0 k1 k2 k3 HC C3 b7 lB nB LQ hgn;generalize hXs:R++dD L m=Xs at HO7 Yd hT;have HXs:=ah hXs;clear hXs
    go_region_law (refine ni rfl (.tmp 32) (.tmp 35) 73 rfl base 87 i1 _ 2 16 Tryz.underlying73 hi1 Q5 hz11 hz12 rfl (by decide) (.slice a (rn+m) c) (rn+m) Xs rfl (aa HO7) ⟨W3.heap.size,0,none⟩ 1 1 [x2,x3] rfl rfl (abO _ _ _ _) (by unfold maxLen;omega) (by omega) (by simp;omega) ?_;intro v' w7 own7 grow7;obtain⟨a3,c3,rfl⟩:=lY own7;obtain⟨e7,C7⟩:=(aa Yd).ready (aa Q3) grow7 [x2,x3] NU own7;have f3:=e7.free;have k3:=e7.heads.2.2.2.1;rw[←aa hT]at C7;have HC7:Hid (Pc w (w7.setCell ⟨B,3,none⟩ (.slice a3 (rn+m+1) c3)) base B ep nx gv a3 (rn+(m+1)) c3 (R++dD L (m+1)) (some ⟨g,off,none⟩) ln c2 L ws (w.heap.size+1)):=ah C7;clear C7 e7 own7 grow7)
    all_goals go_wp2
    all_goals
     go_roundw
     case rel=>exact⟨m+1,_,_,by omega,by go_num,aa HC7⟩
     case measure=>simp[intOf];omega
   ·obtain rfl:m=ln:=by omega
    obtain⟨d0,d1,d2,d3,d4⟩:=C.d.heads;have df:=C.d.free;have HC:=ah C;have wX:∀u∈R++dD L m,(Lit.int .i64 u).wf=true:=by
     intro u hu;rcases Ao.1 hu with hu|hu
     ·exact(aa HD).wR u hu
     ·exact Dz wL m u hu
    clear C
    go_wp2_with fail
    refine(NZ (aa HC).o1 hs wX).mono ?_;rintro e w5 ⟨rfl,R',o5,g5,r5,n5,l5⟩;have E5:=(aa HC).sorted g5 r5 n5 l5;obtain⟨u0,u1,u2,u3,u4⟩:=E5.d.heads;have uf:=E5.d.free;obtain⟨y0,y1,y2,y3⟩:=E5.a.cells;have yf:=E5.a.free;have nA:w.heap.size+1≠B:=cM E5.a E5.d (by decide);have HE5:=ah E5;have HO5:=ah o5;clear d0 d1 d2 d3 d4 df HC wX g5 r5 E5 o5 HD n5 l5;go_wp2;have E6:=(aa HE5).turn (av.set B 4 w5 (.slice none 0 0)) ((aa HE5).d.xH _);have E7:=E6.turn (av.set B 0 _ (iV (ep+1))) (E6.d.LO _);have E8:=E7.turn (av.set B 2 _ (iV 0)) (E7.d.given _);obtain⟨D9,B9⟩:=E8.out (gl _ (w.heap.size+1) 0 0 0 0) hW (by omega);exact Al (LY (E8.a.store 0 0 0 0) rfl rfl) rfl ⟨_,rfl,aa HY (by omega) R' _ (aa HO5) D9 B9⟩
end
theorem Fe{k:IntKind}{a b:Int}(h:a=b):Ending.returned (.int k a)= .returned (.int k b):=by rw[h]
def gJ(k p i b he hn:Int):Int:=if k=0∧p=0∧i=0∧b=0∧he=0∧hn=0 then 0 else 3
def aP(k p i b he hn:Int):Int:=
 if k=1 then(if ¬(0≤p∧p≤3∧0≤i∧i≤1073741824∧0≤b∧b≤1000000)then 2 else if he=0∧hn=0 then 0 else 3)
 else if k=3 then(if ¬(0≤he∧he≤1048576∧0≤hn∧hn≤1073741824)then 2 else if p=0∧i=0∧b=0 then 0 else 3)
 else if(k=2∨k=4)∧p=0∧i=0∧b=0∧he=0∧hn=0 then 0 else 3
theorem vz(k p i b he hn:Int)(w:tA):
  cA 102 #[.agg #[iV k,iV p,iV i,iV b,iV he,iV hn]] w fun e w'=>
   e= .returned (iV (gJ k p i b he hn))∧bZ w w':=by
 go_enter Tryz.func102,Tryz.ntmps102;go_wp2
 all_goals
  go_ret;refine⟨Fe ?_,(Be _ _).alloc (Aa _) _⟩;simp only[gJ]
  repeat' split
  all_goals omega
theorem nm(k p i b he hn:Int)(w:tA):
  cA 59 #[.agg #[iV k,iV p,iV i,iV b,iV he,iV hn]] w fun e w'=>
   e= .returned (iV (aP k p i b he hn))∧bZ w w':=by
 obtain⟨v,hv⟩:∃v,aP k p i b he hn=v:=⟨_,rfl⟩;rw[hv];have HV:Hid (aP k p i b he hn=v):=hv;clear hv;have UP:∀x m:Int,x<0∨¬x≤m∧0≤x∨(0≤x∧x≤m):=by intro x m;omega
 have S:(k=2∨k=4∨k<1∨4<k)∨(k=1∧(p<0∨¬p≤3∧0≤p∨(0≤p∧p≤3)∧(i<0∨¬i≤1073741824∧0≤i∨(0≤i∧i≤1073741824)∧(b<0∨¬b≤1000000∧0≤b∨(0≤b∧b≤1000000)))))∨
   (k=3∧(he<0∨¬he≤1048576∧0≤he∨(0≤he∧he≤1048576)∧(hn<0∨¬hn≤1073741824∧0≤hn∨(0≤hn∧hn≤1073741824)))):=by
  by_cases k1:k=1
  ·refine .inr (.inl ⟨k1, ?_⟩);rcases UP p 3 with h|h|h
   ·exact .inl h
   ·exact .inr (.inl h)
   refine .inr (.inr ⟨h, ?_⟩);rcases UP i 1073741824 with h|h|h
   ·exact .inl h
   ·exact .inr (.inl h)
   exact .inr (.inr ⟨h,UP b 1000000⟩)
  ·by_cases k3:k=3
   ·refine .inr (.inr ⟨k3, ?_⟩);rcases UP he 1048576 with h|h|h
    ·exact .inl h
    ·exact .inr (.inl h)
    exact .inr (.inr ⟨h,UP hn 1073741824⟩)
   ·exact .inl (by omega)
 clear UP;rcases S with(rfl|rfl|h1|h1)|⟨rfl,h1|⟨h1,h1'⟩|⟨⟨h1,h2⟩,h3|⟨h3,h3'⟩|⟨⟨h3,h4⟩,h5|⟨h5,h5'⟩|⟨h5,h6⟩⟩⟩⟩|⟨rfl,h1|⟨h1,h1'⟩|⟨⟨h1,h2⟩,h3|⟨h3,h3'⟩|⟨h3,h4⟩⟩⟩
 all_goals
  go_enter Tryz.func59,Tryz.ntmps59
  go_wp2_with (first|(go_at_call 102;refine(vz _ _ _ _ _ _ _).mono ?_;rintro e w1 ⟨rfl,hb⟩)|(go_at_call 101;go_in))
  go_ret;refine⟨Fe ?_, ?_⟩
  ·have h:=HV.out;subst h;clear HV;unfold aP
   try unfold gJ
   repeat' split
   all_goals omega
  ·first|exact gj _ _ _|exact sG hb
structure St where
 ep:Int
 nx:Int
 gv:Int
 rn:Nat
 R:List Int
 ln:Nat
 L:List Int
 wt:Nat→Int
 wz:Nat→Nat→Bool
structure Ev where
 k:Int
 p:Int
 i:Int
 b:Int
 he:Int
 hn:Int
structure An where
 c:Int
 he:Int
 no:Int
 bd:Int
inductive Step(s:St)(v:Ev):St→An→Bool→Prop
 |iG (hk:v.k=1) (h:v.i<s.wt v.p.toNat-8):Step s v s ⟨9,0,0,0⟩ false
 |iH (hk:v.k=1) (h:gS (s.wt v.p.toNat) (s.wz v.p.toNat) v.i=true):Step s v s ⟨0,0,0,0⟩ false
 |fO (hk:v.k=1) (h:s.wt v.p.toNat-8≤v.i) (hn:gS (s.wt v.p.toNat) (s.wz v.p.toNat) v.i=false) (hf:500≤s.rn+s.ln∨s.nx=1073741824):Step s v s ⟨14,0,0,0⟩ false
 |zZ (hk:v.k=1) (h:s.wt v.p.toNat-8≤v.i) (hn:gS (s.wt v.p.toNat) (s.wz v.p.toNat) v.i=false) (hr:s.rn+s.ln<500) (hx:s.nx<1073741824):
  Step s v ⟨s.ep,s.nx+1,s.gv,s.rn+1,s.R++[s.nx,v.b],s.ln,s.L,wj s.wt v.p.toNat (gV (s.wt v.p.toNat) v.i),wj s.wz v.p.toNat (eW (s.wt v.p.toNat) (s.wz v.p.toNat) v.i)⟩ ⟨0,0,0,0⟩ true
 |eu (hk:v.k=2) (h:s.rn=0):Step s v s ⟨10,0,0,0⟩ false
 |fP (hk:v.k=2) (h:0<s.rn) (hg:s.gv=1073741824):Step s v s ⟨14,0,0,0⟩ false
 |recv (hk:v.k=2) (h:0<s.rn) (hg:s.gv<1073741824):
  Step s v ⟨s.ep,s.nx,s.gv+1,s.rn-1,s.R.drop 2,s.ln+1,s.L++[s.ep,s.gv,s.R.getD 0 0,s.R.getD 1 0],s.wt,s.wz⟩ ⟨0,s.ep,s.gv,s.R.getD 1 0⟩ true
 |ew (hk:v.k=3) (h:¬v.he=s.ep):Step s v s ⟨11,0,0,0⟩ false
 |fQ (hk:v.k=3) (h:v.he=s.ep) (ha:vy v.he v.hn s.L s.ln= -1):Step s v s ⟨7,0,0,0⟩ false
 |z7 (hk:v.k=3) (h:v.he=s.ep) (m:Nat) (hm:m<s.ln) (ha:vy v.he v.hn s.L s.ln=m):
  Step s v ⟨s.ep,s.nx,s.gv,s.rn,s.R,s.ln-1,s.L.take (4*m)++s.L.drop (4*m+4),s.wt,s.wz⟩ ⟨0,0,0,0⟩ true
 |fR (hk:v.k=4) (h:s.ep=1048576):Step s v s ⟨14,0,0,0⟩ false
 |stop (hk:v.k=4) (h:s.ep<1048576) (R':tG) (ho:Ordered (s.R++dD s.L s.ln) R' (s.rn+s.ln)):
  Step s v ⟨s.ep+1,s.nx,0,s.rn+s.ln,R',0,[],s.wt,s.wz⟩ ⟨0,0,0,0⟩ true
def St.Ok(s:St):Prop:=E9 s.ep s.nx s.gv s.R s.rn s.L s.ln s.wt s.wz
def Ev.Ok(v:Ev):Prop:=aP v.k v.p v.i v.b v.he v.hn=0
theorem Ev.cases{v:Ev}(h:v.Ok):(v.k=1∧0≤v.p∧v.p≤3∧0≤v.i∧v.i≤1073741824∧0≤v.b∧v.b≤1000000∧v.he=0∧v.hn=0)∨(v.k=2∧v.p=0∧v.i=0∧v.b=0∧v.he=0∧v.hn=0)∨
  (v.k=3∧0≤v.he∧v.he≤1048576∧0≤v.hn∧v.hn≤1073741824∧v.p=0∧v.i=0∧v.b=0)∨(v.k=4∧v.p=0∧v.i=0∧v.b=0∧v.he=0∧v.hn=0):=by
 unfold Ev.Ok aP at h;split at h
 ·rename_i hk;split at h
  ·omega
  ·rename_i h1;split at h
   ·rename_i h2;have h1:=Ay.1 h1;exact .inl ⟨hk,h1.1,h1.2.1,h1.2.2.1,h1.2.2.2.1,h1.2.2.2.2.1,h1.2.2.2.2.2,h2.1,h2.2⟩
   ·omega
 ·split at h
  ·rename_i hk;split at h
   ·omega
   ·rename_i h1;split at h
    ·rename_i h2;have h1:=Ay.1 h1;exact .inr (.inr (.inl ⟨hk,h1.1,h1.2.1,h1.2.2.1,h1.2.2.2,h2.1,h2.2.1,h2.2.2⟩))
    ·omega
  ·split at h
   ·rename_i h1;obtain⟨h1|h1,h2⟩:=h1
    ·exact .inr (.inl ⟨h1,h2⟩)
    ·exact .inr (.inr (.inr ⟨h1,h2⟩))
   ·omega
abbrev oK(v:Ev):Value:=xJ v.k v.p v.i v.b v.he v.hn
abbrev GY(a:An):Value:=gY a.c a.he a.no a.bd
def N0(s:St)(v:Ev)(base B:Nat)(w:tA)(x:tK)(w':tA):Prop:=
 ∃(s':St) (an:An) (ch:Bool),x= .tuple #[GY an,.bool ch]∧Step s v s' an ch∧jF w' base B s'.ep s'.nx s'.gv s'.rn s'.R s'.ln s'.L s'.wt s'.wz∧Below base w w'
theorem Ka(base B:Nat)(s:St)(a1:tB)(c1:Nat)(a2:tB)(c2:Nat)(ws:tD)(v:Ev)(w:tA)(D:qU w base B s.ep s.nx s.gv a1 s.rn c1 a2 s.ln c2 s.R s.L ws)(hW:gN ws s.wt s.wz)(dQ:base≤w.heap.size)(ok:s.Ok)(hv:v.Ok):
  cA (methodOf v.k) #[.pointer (some ⟨B,0,none⟩),oK v] w fun e w'=>∃x,e= .returned x∧N0 s v base B w x w':=by
 have hc:=ok.count;have iE:s.rn+s.ln≤500:=hc.sz;have out:∀w',bZ w w'→jF w' base B s.ep s.nx s.gv s.rn s.R s.ln s.L s.wt s.wz∧Below base w w':=fun w' hb=>⟨(D.next hb).out hW,hb.mono dQ⟩;rcases Ev.cases hv with⟨hk,h1,h2,h3,h4,h5,h6,h7,h8⟩|⟨hk,h1,h2,h3,h4,h5⟩|⟨hk,h1,h2,h3,h4,h5,h6,h7⟩|⟨hk,h1,h2,h3,h4,h5⟩
 ·obtain⟨P,hP⟩:∃P:Nat,v.p=P:=⟨v.p.toNat,by omega⟩;have Zn:v.p.toNat=P:=by omega
  have hP4:P<4:=by omega
  have hw:=ok.GM P hP4;have hm:methodOf v.k=103:=by rw[hk];rfl
  rw[hm,show oK v=xJ v.k (P:Int) v.i v.b v.he v.hn by rw[←hP]];by_cases g1:v.i<s.wt P-8
  ·refine pN base B P s.ep s.nx s.gv a1 s.rn c1 a2 s.ln c2 s.R s.L ws s.wt s.wz v.k v.i v.b v.he v.hn w D hW dQ hP4 iE hc.n0 hc.n1 (sV (by omega) (by omega)) 0 jU false 9 (fun w=>Q_ _ _ _ w hw h3 h4 g1) (N0 s v base B w) (ah fun _ w' hb=> ?_) (ah fun h=>by simp at h) (ah fun h=>by simp at h);obtain⟨d,bb⟩:=out w' hb;exact⟨s,⟨9,0,0,0⟩,false,rfl,.iG hk (by rw[Zn];exact g1),d,bb⟩
  ·cases g2:gS (s.wt P) (s.wz P) v.i with
   |true=>
    refine pN base B P s.ep s.nx s.gv a1 s.rn c1 a2 s.ln c2 s.R s.L ws s.wt s.wz v.k v.i v.b v.he v.hn w D hW dQ hP4 iE hc.n0 hc.n1 (sV (by omega) (by omega)) (s.wt P) (s.wz P) false 0 (fun w=>Ra _ _ _ w hw h3 h4 g2) (N0 s v base B w) (ah fun _ w' hb=> ?_) (ah fun h=>by simp at h) (ah fun h=>by simp at h);obtain⟨d,bb⟩:=out w' hb;exact⟨s,⟨0,0,0,0⟩,false,rfl,.iH hk (by rw[Zn];exact g2),d,bb⟩
   |false=>
    refine pN base B P s.ep s.nx s.gv a1 s.rn c1 a2 s.ln c2 s.R s.L ws s.wt s.wz v.k v.i v.b v.he v.hn w D hW dQ hP4 iE hc.n0 hc.n1 (sV (by omega) (by omega)) (gV (s.wt P) v.i) (eW (s.wt P) (s.wz P) v.i) true 0 (fun w=>Rf _ _ _ w hw h3 h4 (by omega) g2) (N0 s v base B w) (ah fun h=>by simp at h) (ah fun _ hf w' hb=> ?_) (ah fun _ hr hx w' d bb=> ?_)
    ·obtain⟨d,bb⟩:=out w' hb;exact⟨s,⟨14,0,0,0⟩,false,rfl,.fO hk (by rw[Zn];omega) (by rw[Zn];exact g2) hf,d,bb⟩
    ·refine⟨_,⟨0,0,0,0⟩,true,rfl,.zZ hk (by rw[Zn];omega) (by rw[Zn];exact g2) hr hx, ?_,bb⟩;rw[Zn];exact d
 ·have hm:methodOf v.k=104:=by rw[hk];rfl
  rw[hm];by_cases g1:s.rn=0
  ·refine(xK base B s.ep s.nx s.gv a1 s.rn c1 a2 s.ln c2 s.R s.L ws s.wt s.wz v.k v.p v.i v.b v.he v.hn w D hW dQ 10 (.inl ⟨g1,rfl⟩)).mono ?_;rintro e w' ⟨rfl,d,bb⟩;exact⟨_,rfl,s,⟨10,0,0,0⟩,false,rfl,.eu hk g1,d,bb⟩
  ·by_cases g2:s.gv=1073741824
   ·refine(xK base B s.ep s.nx s.gv a1 s.rn c1 a2 s.ln c2 s.R s.L ws s.wt s.wz v.k v.p v.i v.b v.he v.hn w D hW dQ 14 (.inr ⟨by omega,g2,rfl⟩)).mono ?_;rintro e w' ⟨rfl,d,bb⟩;exact⟨_,rfl,s,⟨14,0,0,0⟩,false,rfl,.fP hk (by omega) g2,d,bb⟩
   ·obtain⟨g,hg⟩:∃g,a1=some ⟨g,0,none⟩:=by
     rcases D.o1.2 with⟨_,h0⟩|⟨g,cap,cur,e,_⟩
     ·omega
     ·cases e;exact⟨g,rfl⟩
    subst hg;have:=hc.g1;refine(GR base B g s.ep s.nx s.gv s.rn c1 a2 s.ln c2 s.R s.L ws s.wt s.wz v.k v.p v.i v.b v.he v.hn w D hW dQ (by omega) iE hc.g0 (by omega) (sV hc.e0 (by have:=hc.e1;omega))).mono ?_;rintro e w' ⟨rfl,d,bb⟩;exact⟨_,rfl,_,⟨0,s.ep,s.gv,s.R.getD 1 0⟩,true,rfl,.recv hk (by omega) (by omega),d,bb⟩
 ·have hm:methodOf v.k=105:=by rw[hk];rfl
  rw[hm];refine Vy base B s.ep s.nx s.gv a1 s.rn c1 a2 s.ln c2 s.R s.L ws s.wt s.wz v.k v.p v.i v.b v.he v.hn w D hW dQ iE (N0 s v base B w) (ah fun h w' hb=> ?_) (ah fun h ha w' hb=> ?_) (ah fun h m hm ha w' d bb=> ?_)
  ·obtain⟨d,bb⟩:=out w' hb;exact⟨s,⟨11,0,0,0⟩,false,rfl,.ew hk h,d,bb⟩
  ·obtain⟨d,bb⟩:=out w' hb;exact⟨s,⟨7,0,0,0⟩,false,rfl,.fQ hk h ha,d,bb⟩
  ·exact⟨_,⟨0,0,0,0⟩,true,rfl,.z7 hk h m hm ha,d,bb⟩
 ·have hm:methodOf v.k=106:=by rw[hk];rfl
  rw[hm];refine VA base B s.ep s.nx s.gv a1 s.rn c1 a2 s.ln c2 s.R s.L ws s.wt s.wz v.k v.p v.i v.b v.he v.hn w D hW dQ iE hc.e0 hc.e1 (N0 s v base B w) (ah fun h w' hb=> ?_) (ah fun h R' w' ho d bb=> ?_)
  ·obtain⟨d,bb⟩:=out w' hb;exact⟨s,⟨14,0,0,0⟩,false,rfl,.fR hk h,d,bb⟩
  ·exact⟨_,⟨0,0,0,0⟩,true,rfl,.stop hk h R' ho,d,bb⟩
structure St.Wf(s:St):Prop where
 ok:s.Ok
 lr:s.R.length=2*s.rn
 ll:s.L.length=4*s.ln
theorem cW(A B:tG)(j:Nat)(h:j<A.length):(A++B).getD j 0=A.getD j 0:=by
 simp[List.getElem?_append_left h]
theorem cQ(A B:tG)(j n:Nat)(h:A.length=n):(A++B).getD (n+j) 0=B.getD j 0:=by
 subst h;simp[List.getElem?_append_right]
theorem getD_drop(A:tG)(k j:Nat):(A.drop k).getD j 0=A.getD (k+j) 0:=by simp
theorem ja{l:tG}:xC l=false↔l.Nodup:=by simp[xC]
theorem gq{s:St}(h:s.Ok){i:Nat}(hi:i<s.rn):0≤s.R.getD (2*i) 0∧s.R.getD (2*i) 0≤s.nx-1∧0≤s.R.getD (2*i+1) 0∧s.R.getD (2*i+1) 0≤1000000:=by
 have:=(h.hold.ready i hi).E3;rw[AG,im,im]at this;exact⟨this.1.1,this.1.2,this.2.1,this.2.2⟩
theorem jl{s:St}(h:s.Ok){i:Nat}(hi:i<s.ln):0≤s.L.getD (4*i+2) 0∧s.L.getD (4*i+2) 0≤s.nx-1∧0≤s.L.getD (4*i+3) 0∧s.L.getD (4*i+3) 0≤1000000:=by
 have:=h.hold.E3 i hi;unfold uE at this;rw[AG,im,im]at this;exact⟨this.1.1,this.1.2,this.2.1,this.2.2⟩
theorem k_{s:St}(h:s.Ok){i:Nat}(hi:i<s.ln):s.L.getD (4*i) 0=s.ep∧0≤s.L.getD (4*i+1) 0∧s.L.getD (4*i+1) 0≤s.gv-1:=by
 have:=h.GN i hi;have h2:=im.1 this.no;exact⟨this.LO,h2.1,h2.2⟩
theorem xS{s:St}(h:s.Ok){i:Nat}(hi:i+1<s.rn):s.R.getD (2*i) 0<s.R.getD (2*(i+1)) 0:=by
 have:=(h.hold.ready (i+1) hi).JM;unfold GK at this;rw[if_neg (by omega),show 2*(i+1-1)=2*i by omega]at this;exact this
theorem rU{s:St}(h:s.Ok){i:Nat}(hi:i+1<s.ln):s.L.getD (4*i+1) 0<s.L.getD (4*(i+1)+1) 0:=by
 have:=(h.GN (i+1) hi).JM;unfold xA at this;rw[if_neg (by omega),show 4*(i+1-1)+1=4*i+1 by omega]at this;exact this
theorem xT{nx:Int}{R:tG}{n:Nat}(h1:∀i,i<n→0≤R.getD (2*i) 0∧R.getD (2*i) 0≤nx-1∧0≤R.getD (2*i+1) 0∧R.getD (2*i+1) 0≤1000000)(h2:∀i,i+1<n→R.getD (2*i) 0<R.getD (2*(i+1)) 0):∀i,i<n→wO nx R i:=by
 intro i hi;obtain⟨a,b,c,d⟩:=h1 i hi;refine⟨by rw[AG,im,im];exact⟨⟨a,b⟩,c,d⟩, ?_⟩;unfold GK;split
 ·omega
 ·have:=h2 (i-1) (by omega);rw[show 2*(i-1+1)=2*i by omega]at this;exact this
theorem GZ{ep gv:Int}{L:tG}{n:Nat}(h1:∀i,i<n→L.getD (4*i) 0=ep∧0≤L.getD (4*i+1) 0∧L.getD (4*i+1) 0≤gv-1)(h2:∀i,i+1<n→L.getD (4*i+1) 0<L.getD (4*(i+1)+1) 0):∀i,i<n→mI ep gv L i:=by
 intro i hi;obtain⟨a,b,c⟩:=h1 i hi;refine⟨a,im.2 ⟨b,c⟩, ?_⟩;unfold xA;split
 ·omega
 ·have:=h2 (i-1) (by omega);rw[show 4*(i-1+1)+1=4*i+1 by omega]at this;exact this
theorem Ff{nx:Int}{L:tG}{n:Nat}(h1:∀i,i<n→0≤L.getD (4*i+2) 0∧L.getD (4*i+2) 0≤nx-1∧0≤L.getD (4*i+3) 0∧L.getD (4*i+3) 0≤1000000):∀i,i<n→uE nx L i:=by
 intro i hi;obtain⟨a,b,c,d⟩:=h1 i hi;unfold uE;rw[AG,im,im];exact⟨⟨a,b⟩,c,d⟩
theorem xU{R R':tG}{n:Nat}(h:∀i,i<n→R.getD (2*i) 0=R'.getD (2*i) 0):cG R n=cG R' n:=
 BL fun i hi=>h i (Cb.1 hi)
theorem xV{L L':tG}{n:Nat}(h:∀i,i<n→L.getD (4*i+2) 0=L'.getD (4*i+2) 0):cX L n=cX L' n:=
 BL fun i hi=>h i (Cb.1 hi)
theorem Rl{s:St}(h:s.Ok):∀x∈fV s.L s.ln s.R s.rn,x<s.nx:=by
 intro x hx;rcases Ao.1 hx with hx|hx
 ·obtain⟨i,hi,rfl⟩:=Ax.1 hx;have:=jl h (Cb.1 hi);omega
 ·obtain⟨i,hi,rfl⟩:=Ax.1 hx;have:=gq h (Cb.1 hi);omega
theorem z8(R:tG)(n:Nat)(h:0<n):cG R n=R.getD 0 0::cG (R.drop 2) (n-1):=by
 obtain⟨m,rfl⟩:∃m,n=m+1:=⟨n-1,by omega⟩;simp only[cG,List.range_succ_eq_map,List.map_cons,List.map_map,Nat.add_sub_cancel,Nat.mul_zero];congr 1;apply BL;intro i _;simp only[Function.comp,getD_drop];rw[show 2*Nat.succ i=2+2*i by omega]
theorem LZ(L:tG)(m ln i j:Nat)(hl:L.length=4*ln)(hm:m<ln)(hj:j<4):(L.take (4*m)++L.drop (4*m+4)).getD (4*i+j) 0=if i<m then L.getD (4*i+j) 0 else L.getD (4*(i+1)+j) 0:=by
 rw[Rh];by_cases h:i<m
 ·rw[if_pos ⟨by omega,by omega⟩,if_pos h]
 ·rw[if_neg (by omega),if_pos (by omega),if_neg h,show 4*i+j+4=4*(i+1)+j by omega]
theorem Fg(L:tG)(m ln:Nat)(hl:L.length=4*ln)(hm:m<ln):cX (L.take (4*m)++L.drop (4*m+4)) (ln-1)=(cX L ln).eraseIdx m:=by
 apply List.ext_getElem
 ·simp[cX,List.length_eraseIdx,hm]
 ·intro i h1 h2;have hi:i<ln-1:=by simpa[cX]using h1
  rw[List.getElem_eraseIdx];simp only[cX,List.getElem_map,List.getElem_range];rw[LZ L m ln i 2 hl hm (by omega)];split<;>rfl
theorem xW(L:tG):∀k,(dD L k).length=2*k
 |0=>rfl
 |k+1=>by simp[dD,xW L k];omega
theorem DA(L:tG):∀k i,i<k→(dD L k).getD (2*i) 0=L.getD (4*i+2) 0∧(dD L k).getD (2*i+1) 0=L.getD (4*i+3) 0
 |0,_,h=>absurd h (AH _)
 |k+1,i,h=>by
  have hl:=xW L k;unfold dD;rcases AA i k with h'|h'
  ·rw[cW _ _ _ (by omega),cW _ _ _ (by omega)];exact DA L k i h'
  ·obtain rfl:i=k:=by omega
   rw[show 2*i=2*i+0 from rfl,cQ _ _ 0 _ hl,Nat.add_zero,cQ _ _ 1 _ hl];exact⟨rfl,rfl⟩
theorem Rm{s:St}(h:s.Wf)(i:Nat)(hi:i<s.rn+s.ln):(i<s.rn∧gm (s.R++dD s.L s.ln) i=gm s.R i)∨∃j,j<s.ln∧i=s.rn+j∧gm (s.R++dD s.L s.ln) i=(s.L.getD (4*j+2) 0,s.L.getD (4*j+3) 0):=by
 have hr:=h.lr;rcases AA i s.rn with h1|h1
 ·left;refine⟨h1, ?_⟩;unfold gm;rw[cW _ _ _ (by omega),cW _ _ _ (by omega)]
 ·right;refine⟨i-s.rn,by omega,by omega, ?_⟩;have hm:=DA s.L s.ln (i-s.rn) (by omega);unfold gm;have e1:2*i=2*s.rn+2*(i-s.rn):=by omega
  have e2:2*i+1=2*s.rn+(2*(i-s.rn)+1):=by omega
  rw[e2,e1,cQ _ _ _ _ hr,cQ _ _ _ _ hr,hm.1,hm.2]
theorem vA{s:St}{R':tG}(h:s.Wf)(ho:Ordered (s.R++dD s.L s.ln) R' (s.rn+s.ln)):(cG R' (s.rn+s.ln)).Perm (fV s.L s.ln s.R s.rn):=by
 have e:∀(R:tG) n,cG R n=(cp R n).map Prod.fst:=fun R n=>by simp[cG,cp,gm]
 have hp:=ho.perm.map Prod.fst;rw[←e,←e]at hp;refine hp.trans ?_;have:cG (s.R++dD s.L s.ln) (s.rn+s.ln)=cG s.R s.rn++cX s.L s.ln:=by
  apply List.ext_getElem
  ·simp[cG,cX]
  ·intro i h1 h2;have hi:i<s.rn+s.ln:=by simpa[cG]using h1
   rw[List.getElem_append];simp only[cG,cX,List.getElem_map,List.getElem_range,List.length_map,List.length_range];rcases Rm h i hi with⟨h3,h4⟩|⟨j,h3,h4,h5⟩
   ·rw[dif_pos h3];exact Au Prod.fst h4
   ·rw[dif_neg (by omega)];have:=Au Prod.fst h5;simp only[gm]at this;rw[this,show i-s.rn=j by omega]
 rw[this];exact List.perm_append_comm
theorem Fh{s:St}{R':tG}(h:s.Wf)(ho:Ordered (s.R++dD s.L s.ln) R' (s.rn+s.ln)):∀i,i<s.rn+s.ln→0≤R'.getD (2*i) 0∧R'.getD (2*i) 0≤s.nx-1∧0≤R'.getD (2*i+1) 0∧R'.getD (2*i+1) 0≤1000000:=by
 intro i hi;have hm:gm R' i∈cp R' (s.rn+s.ln):=Ax.2 ⟨i,Cb.2 hi,rfl⟩;obtain⟨j,hj,he⟩:=Ax.1 (ho.perm.mem_iff.1 hm);have hj:=Cb.1 hj;have e1:=Au Prod.fst he;have e2:=Au Prod.snd he;rcases Rm h j hj with⟨h3,h4⟩|⟨k,h3,h4,h5⟩
 ·rw[h4]at e1 e2;simp only[gm]at e1 e2;rw[←e1,←e2];exact gq h.ok h3
 ·rw[h5]at e1 e2;simp only[gm]at e1 e2;rw[←e1,←e2];exact jl h.ok h3
theorem oL{s:St}{R':tG}(h:s.Wf)(ho:Ordered (s.R++dD s.L s.ln) R' (s.rn+s.ln)):∀i,i+1<s.rn+s.ln→R'.getD (2*i) 0<R'.getD (2*(i+1)) 0:=by
 intro i hi;have h1:=ho.JM i (i+1) (by omega) hi;have hn:(cG R' (s.rn+s.ln)).Nodup:=(vA h ho).nodup_iff.2 (ja.1 h.ok.hold.apart);have h2:=Bp.1 hn i (i+1) (by simp[cG];omega) (by simp[cG];omega) (by omega);simp only[cG,List.getElem_map,List.getElem_range]at h2;omega
theorem Step.wf{s s':St}{v:Ev}{an:An}{ch:Bool}(h:s.Wf)(hv:v.Ok)(st:Step s v s' an ch):s'.Wf:=by
 have ok:=h.ok;have hc:=ok.count;have N2:=h.lr;have Rn:=h.ll;cases st with
 |iG|iH|fO|eu|fP|ew|fQ|fR=>exact h
 |zZ hk h1 h2 hr hx=>
  have hb:0≤v.b∧v.b≤1000000∧0≤v.i∧v.i≤1073741824:=by
   rcases Ev.cases hv with h|h|h|h<;>omega
  refine⟨⟨⟨hc.e0,hc.e1,by have:=hc.n0;show 0≤s.nx+1;omega,by show s.nx+1≤_;omega,hc.g0,hc.g1,by show s.rn+1+s.ln≤500;omega⟩, ?_,⟨?_, ?_, ?_⟩,ok.GN⟩, ?_,Rn⟩
  ·intro p hp;show fJ (wj s.wt v.p.toNat _ p) (wj s.wz v.p.toNat _ p);unfold wj;by_cases e:p=v.p.toNat
   ·rw[if_pos e,if_pos e,←e];exact(ok.GM p hp).take (by omega) (by omega)
   ·rw[if_neg e,if_neg e];exact ok.GM p hp
  ·refine xT (fun i hi=> ?_) (fun i hi=> ?_)
   ·have hi:i<s.rn+1:=hi;show 0≤(s.R++[s.nx,v.b]).getD (2*i) 0∧(s.R++[s.nx,v.b]).getD (2*i) 0≤s.nx+1-1∧0≤(s.R++[s.nx,v.b]).getD (2*i+1) 0∧(s.R++[s.nx,v.b]).getD (2*i+1) 0≤1000000;rcases AA i s.rn with h'|h'
    ·rw[cW _ _ _ (by omega),cW _ _ _ (by omega)];have:=gq ok h';omega
    ·obtain rfl:i=s.rn:=by omega
     rw[cQ _ _ 1 _ N2,show 2*s.rn=2*s.rn+0 from rfl,cQ _ _ 0 _ N2];have:=hc.n0;simp;omega
   ·have hi:i+1<s.rn+1:=hi;show(s.R++[s.nx,v.b]).getD (2*i) 0<(s.R++[s.nx,v.b]).getD (2*(i+1)) 0;rw[cW _ _ _ (by omega)];rcases AA (i+1) s.rn with h'|h'
    ·rw[cW _ _ _ (by omega)];exact xS ok h'
    ·rw[show 2*(i+1)=2*s.rn+0 by omega,cQ _ _ 0 _ N2];have:=gq ok (show i<s.rn by omega);simp at this⊢;omega
  ·refine Ff (fun i hi=> ?_);have:=jl ok hi;exact⟨this.1,by have:=this.2.1;show s.L.getD (4*i+2) 0≤s.nx+1-1;omega,this.2.2⟩
  ·show xC (fV s.L s.ln (s.R++[s.nx,v.b]) (s.rn+1))=false;rw[ja,xB,show 2*s.rn=2*s.rn+0 from rfl,cQ _ _ 0 _ N2];have e:fV s.L s.ln (s.R++[s.nx,v.b]) s.rn=fV s.L s.ln s.R s.rn:=by
    unfold fV;rw[xU (fun i hi=>cW _ _ _ (by omega))]
   rw[e,List.nodup_append];refine⟨ja.1 ok.hold.apart,by simp,fun a ha b hb=> ?_⟩;have:=Rl ok a ha;simp at hb;omega
  ·show(s.R++[s.nx,v.b]).length=2*(s.rn+1);simp;omega
 |recv hk h1 hg=>
  refine⟨⟨⟨hc.e0,hc.e1,hc.n0,hc.n1,by have:=hc.g0;show 0≤s.gv+1;omega,by show s.gv+1≤_;omega,by have:=hc.sz;show s.rn-1+(s.ln+1)≤500;omega⟩,ok.GM,⟨?_, ?_, ?_⟩, ?_⟩, ?_, ?_⟩
  ·refine xT (fun i hi=> ?_) (fun i hi=> ?_)
   ·have hi:i<s.rn-1:=hi;have:=gq ok (show i+1<s.rn by omega);show 0≤(s.R.drop 2).getD (2*i) 0∧(s.R.drop 2).getD (2*i) 0≤s.nx-1∧0≤(s.R.drop 2).getD (2*i+1) 0∧(s.R.drop 2).getD (2*i+1) 0≤1000000;rw[getD_drop,getD_drop,show 2+2*i=2*(i+1) by omega,show 2+(2*i+1)=2*(i+1)+1 by omega];exact this
   ·have hi:i+1<s.rn-1:=hi;have:=xS ok (show i+1+1<s.rn by omega);show(s.R.drop 2).getD (2*i) 0<(s.R.drop 2).getD (2*(i+1)) 0;rw[getD_drop,getD_drop,show 2+2*i=2*(i+1) by omega,show 2+2*(i+1)=2*(i+1+1) by omega];exact this
  ·refine Ff (fun i hi=> ?_);have hi:i<s.ln+1:=hi;show 0≤(s.L++[s.ep,s.gv,s.R.getD 0 0,s.R.getD 1 0]).getD (4*i+2) 0∧(s.L++[s.ep,s.gv,s.R.getD 0 0,s.R.getD 1 0]).getD (4*i+2) 0≤s.nx-1∧0≤(s.L++[s.ep,s.gv,s.R.getD 0 0,s.R.getD 1 0]).getD (4*i+3) 0∧(s.L++[s.ep,s.gv,s.R.getD 0 0,s.R.getD 1 0]).getD (4*i+3) 0≤1000000;rcases AA i s.ln with h'|h'
   ·rw[cW _ _ _ (by omega),cW _ _ _ (by omega)];exact jl ok h'
   ·obtain rfl:i=s.ln:=by omega
    rw[cQ _ _ 2 _ Rn,cQ _ _ 3 _ Rn];exact gq ok h1
  ·show xC (fV (s.L++[s.ep,s.gv,s.R.getD 0 0,s.R.getD 1 0]) (s.ln+1) (s.R.drop 2) (s.rn-1))=false;have e:fV (s.L++[s.ep,s.gv,s.R.getD 0 0,s.R.getD 1 0]) (s.ln+1) (s.R.drop 2) (s.rn-1)=fV s.L s.ln s.R s.rn:=by
    unfold fV;rw[q7,cQ _ _ 2 _ Rn,xV (fun i hi=>cW _ _ _ (by omega)),z8 s.R s.rn h1,Az];rfl
   rw[e];exact ok.hold.apart
  ·refine GZ (fun i hi=> ?_) (fun i hi=> ?_)
   ·have hi:i<s.ln+1:=hi;show(s.L++[s.ep,s.gv,s.R.getD 0 0,s.R.getD 1 0]).getD (4*i) 0=s.ep∧0≤(s.L++[s.ep,s.gv,s.R.getD 0 0,s.R.getD 1 0]).getD (4*i+1) 0∧(s.L++[s.ep,s.gv,s.R.getD 0 0,s.R.getD 1 0]).getD (4*i+1) 0≤s.gv+1-1;rcases AA i s.ln with h'|h'
    ·rw[cW _ _ _ (by omega),cW _ _ _ (by omega)];have:=k_ ok h';omega
    ·obtain rfl:i=s.ln:=by omega
     rw[cQ _ _ 1 _ Rn,show 4*s.ln=4*s.ln+0 from rfl,cQ _ _ 0 _ Rn];have:=hc.g0;simp;omega
   ·have hi:i+1<s.ln+1:=hi;show(s.L++[s.ep,s.gv,s.R.getD 0 0,s.R.getD 1 0]).getD (4*i+1) 0<(s.L++[s.ep,s.gv,s.R.getD 0 0,s.R.getD 1 0]).getD (4*(i+1)+1) 0;rw[cW _ _ _ (by omega)];rcases AA (i+1) s.ln with h'|h'
    ·rw[cW _ _ _ (by omega)];exact rU ok h'
    ·rw[show 4*(i+1)+1=4*s.ln+1 by omega,cQ _ _ 1 _ Rn];have:=k_ ok (show i<s.ln by omega);simp at this⊢;omega
  ·show(s.R.drop 2).length=2*(s.rn-1);simp;omega
  ·show(s.L++[s.ep,s.gv,s.R.getD 0 0,s.R.getD 1 0]).length=4*(s.ln+1);simp;omega
 |z7 hk h1 m hm ha=>
  have g:=fun i j (hj:j<4)=>LZ s.L m s.ln i j Rn hm hj;refine⟨⟨⟨hc.e0,hc.e1,hc.n0,hc.n1,hc.g0,hc.g1,by have:=hc.sz;show s.rn+(s.ln-1)≤500;omega⟩,ok.GM,⟨ok.hold.ready, ?_, ?_⟩, ?_⟩,N2, ?_⟩
  ·refine Ff (fun i hi=> ?_);have hi:i<s.ln-1:=hi;show 0≤(s.L.take (4*m)++s.L.drop (4*m+4)).getD (4*i+2) 0∧(s.L.take (4*m)++s.L.drop (4*m+4)).getD (4*i+2) 0≤s.nx-1∧0≤(s.L.take (4*m)++s.L.drop (4*m+4)).getD (4*i+3) 0∧(s.L.take (4*m)++s.L.drop (4*m+4)).getD (4*i+3) 0≤1000000;rw[g i 2 (by omega),g i 3 (by omega)];split
   ·exact jl ok (by omega)
   ·exact jl ok (by omega)
  ·show xC (fV (s.L.take (4*m)++s.L.drop (4*m+4)) (s.ln-1) s.R s.rn)=false;rw[ja];unfold fV;rw[Fg s.L m s.ln Rn hm];exact List.Nodup.sublist ((List.eraseIdx_sublist _ _).append (List.Sublist.refl _)) (ja.1 ok.hold.apart)
  ·refine GZ (fun i hi=> ?_) (fun i hi=> ?_)
   ·have hi:i<s.ln-1:=hi;show(s.L.take (4*m)++s.L.drop (4*m+4)).getD (4*i) 0=s.ep∧0≤(s.L.take (4*m)++s.L.drop (4*m+4)).getD (4*i+1) 0∧(s.L.take (4*m)++s.L.drop (4*m+4)).getD (4*i+1) 0≤s.gv-1;rw[g i 1 (by omega),show 4*i=4*i+0 from rfl,g i 0 (by omega)];split
    ·exact k_ ok (by omega)
    ·exact k_ ok (by omega)
   ·have hi:i+1<s.ln-1:=hi;show(s.L.take (4*m)++s.L.drop (4*m+4)).getD (4*i+1) 0<(s.L.take (4*m)++s.L.drop (4*m+4)).getD (4*(i+1)+1) 0;rw[g i 1 (by omega),g (i+1) 1 (by omega)];have a1:=rU ok (show i+1<s.ln by omega);have a2:=rU ok (show i+1+1<s.ln by omega);split<;>split<;>omega
  ·show(s.L.take (4*m)++s.L.drop (4*m+4)).length=4*(s.ln-1);simp;omega
 |stop hk h1 R' ho=>
  refine⟨⟨⟨by have:=hc.e0;show 0≤s.ep+1;omega,by show s.ep+1≤_;omega,hc.n0,hc.n1,by show(0:Int)≤0;omega,by show(0:Int)≤_;omega,by have:=hc.sz;show s.rn+s.ln+0≤500;omega⟩,ok.GM,⟨xT (Fh h ho) (oL h ho),fun i hi=>absurd hi (AH _), ?_⟩,fun i hi=>absurd hi (AH _)⟩,ho.len,rfl⟩;show xC (fV [] 0 R' (s.rn+s.ln))=false;rw[ja];unfold fV;rw[show cX [] 0=[] from rfl,List.nil_append];exact(vA h ho).nodup_iff.2 (ja.1 ok.hold.apart)
def xX(k a b c:Int):List Int:=
 if aj k 8<3 then[1,aj a 2,aj b 24,aj c 1000,0,0]
 else if aj k 8<5 then[2,0,0,0,0,0]
 else if aj k 8<7 then[3,0,0,0,aj a 3,aj b 6]
 else[4,0,0,0,0,0]
theorem N3(k a b c:Int)(w:tA)(wk:(Lit.int .i64 k).wf=true)(wa:(Lit.int .i64 a).wf=true)(wb:(Lit.int .i64 b).wf=true)(wc:(Lit.int .i64 c).wf=true):
  cA 96 #[.agg #[iV k,iV a,iV b,iV c]] w (rB (.agg ((xX k a b c).map (Value.int .i64)).toArray) w):=by
 obtain⟨ev,Kb⟩:∃ev,xX k a b c=ev:=⟨_,rfl⟩;rw[Kb];unfold xX at Kb;obtain⟨p0,p1⟩:=cg k 8 (by omega);go_enter Tryz.func96,Tryz.ntmps96
 go_wp2_with fail
 refine(i_ k 8 _ wk (by omega) (by omega)).mono ?_;rintro e w0 ⟨rfl,rfl⟩;generalize aj k 8=p at p0 p1 Kb;have HV:=ah Kb;clear Kb;have P:p=0∨p=1∨p=2∨p=3∨p=4∨p=5∨p=6∨p=7:=by omega
 clear p0 p1;rcases P with rfl|rfl|rfl|rfl|rfl|rfl|rfl|rfl
 ·have hv:[1,aj a 2,aj b 24,aj c 1000,0,0]=ev:=by simpa using aa HV
  subst hv;clear HV
  go_wp2_with fail
  go_region_held3 (fun w'=>w'.cell? ⟨w.heap.size,1,none⟩=some (iV a)∧w'.cell? ⟨w.heap.size,2,none⟩=some (iV b)∧w'.cell? ⟨w.heap.size,3,none⟩=some (iV c)) (go_keep) ((go_at_call 34;refine(i_ _ _ _ (by assumption) (by omega) (by omega)).mono ?_;rintro e w' ⟨rfl,rfl⟩))
  all_goals
   go_wp2;exact Al (v:= .agg #[iV 1,iV (aj a 2),iV (aj b 24),iV (aj c 1000),iV 0,iV 0]) (by simp[results,Tryz.results96,go_sem]) rfl ⟨rfl,(gj _ _ _).drew⟩
 ·have hv:[1,aj a 2,aj b 24,aj c 1000,0,0]=ev:=by simpa using aa HV
  subst hv;clear HV
  go_wp2_with fail
  go_region_held3 (fun w'=>w'.cell? ⟨w.heap.size,1,none⟩=some (iV a)∧w'.cell? ⟨w.heap.size,2,none⟩=some (iV b)∧w'.cell? ⟨w.heap.size,3,none⟩=some (iV c)) (go_keep) ((go_at_call 34;refine(i_ _ _ _ (by assumption) (by omega) (by omega)).mono ?_;rintro e w' ⟨rfl,rfl⟩))
  all_goals
   go_wp2;exact Al (v:= .agg #[iV 1,iV (aj a 2),iV (aj b 24),iV (aj c 1000),iV 0,iV 0]) (by simp[results,Tryz.results96,go_sem]) rfl ⟨rfl,(gj _ _ _).drew⟩
 ·have hv:[1,aj a 2,aj b 24,aj c 1000,0,0]=ev:=by simpa using aa HV
  subst hv;clear HV
  go_wp2_with fail
  go_region_held3 (fun w'=>w'.cell? ⟨w.heap.size,1,none⟩=some (iV a)∧w'.cell? ⟨w.heap.size,2,none⟩=some (iV b)∧w'.cell? ⟨w.heap.size,3,none⟩=some (iV c)) (go_keep) ((go_at_call 34;refine(i_ _ _ _ (by assumption) (by omega) (by omega)).mono ?_;rintro e w' ⟨rfl,rfl⟩))
  all_goals
   go_wp2;exact Al (v:= .agg #[iV 1,iV (aj a 2),iV (aj b 24),iV (aj c 1000),iV 0,iV 0]) (by simp[results,Tryz.results96,go_sem]) rfl ⟨rfl,(gj _ _ _).drew⟩
 ·have hv:[2,0,0,0,0,0]=ev:=by simpa using aa HV
  subst hv;clear HV;go_wp2;exact Al (v:= .agg #[iV 2,iV 0,iV 0,iV 0,iV 0,iV 0]) (by simp[results,Tryz.results96,go_sem]) rfl ⟨rfl,gj _ _ _⟩
 ·have hv:[2,0,0,0,0,0]=ev:=by simpa using aa HV
  subst hv;clear HV;go_wp2;exact Al (v:= .agg #[iV 2,iV 0,iV 0,iV 0,iV 0,iV 0]) (by simp[results,Tryz.results96,go_sem]) rfl ⟨rfl,gj _ _ _⟩
 ·have hv:[3,0,0,0,aj a 3,aj b 6]=ev:=by simpa using aa HV
  subst hv;clear HV
  go_wp2_with fail
  go_region_held3 (fun w'=>w'.cell? ⟨w.heap.size,1,none⟩=some (iV a)∧w'.cell? ⟨w.heap.size,2,none⟩=some (iV b)) (go_keep) ((go_at_call 34;refine(i_ _ _ _ (by assumption) (by omega) (by omega)).mono ?_;rintro e w' ⟨rfl,rfl⟩))
  all_goals
   go_wp2;exact Al (v:= .agg #[iV 3,iV 0,iV 0,iV 0,iV (aj a 3),iV (aj b 6)]) (by simp[results,Tryz.results96,go_sem]) rfl ⟨rfl,(gj _ _ _).drew⟩
 ·have hv:[3,0,0,0,aj a 3,aj b 6]=ev:=by simpa using aa HV
  subst hv;clear HV
  go_wp2_with fail
  go_region_held3 (fun w'=>w'.cell? ⟨w.heap.size,1,none⟩=some (iV a)∧w'.cell? ⟨w.heap.size,2,none⟩=some (iV b)) (go_keep) ((go_at_call 34;refine(i_ _ _ _ (by assumption) (by omega) (by omega)).mono ?_;rintro e w' ⟨rfl,rfl⟩))
  all_goals
   go_wp2;exact Al (v:= .agg #[iV 3,iV 0,iV 0,iV 0,iV (aj a 3),iV (aj b 6)]) (by simp[results,Tryz.results96,go_sem]) rfl ⟨rfl,(gj _ _ _).drew⟩
 ·have hv:[4,0,0,0,0,0]=ev:=by simpa using aa HV
  subst hv;clear HV;go_wp2;exact Al (v:= .agg #[iV 4,iV 0,iV 0,iV 0,iV 0,iV 0]) (by simp[results,Tryz.results96,go_sem]) rfl ⟨rfl,gj _ _ _⟩
def eQ(k a b c:Int):Ev:=
 if aj k 8<3 then⟨1,aj a 2,aj b 24,aj c 1000,0,0⟩
 else if aj k 8<5 then⟨2,0,0,0,0,0⟩
 else if aj k 8<7 then⟨3,0,0,0,aj a 3,aj b 6⟩
 else⟨4,0,0,0,0,0⟩
theorem N4(k a b c:Int):Value.agg ((xX k a b c).map (Value.int .i64)).toArray=oK (eQ k a b c):=by
 unfold xX eQ
 repeat' split
 all_goals rfl
theorem Ro(k a b c:Int)(w:tA)(wk:(Lit.int .i64 k).wf=true)(wa:(Lit.int .i64 a).wf=true)(wb:(Lit.int .i64 b).wf=true)(wc:(Lit.int .i64 c).wf=true):
  cA 96 #[.agg #[iV k,iV a,iV b,iV c]] w (rB (oK (eQ k a b c)) w):=by
 rw[←N4];exact N3 k a b c w wk wa wb wc
namespace Rv
section
variable{n:Nat}{ops:tP}{f:Nat→AV}{fn:Func}{Rr:Ending→World→Prop}{M:tF}{Φ R:tJ}{H:List En}{ks:List Fr}{t:Ord}{i d:Nat}
def lkA(n:Nat)(ops:tP)(f:Nat→AV)(i:Nat):Option (Nat×Nat×AV×AV):=match ops[i]? with
 |some o=>match o.dst,rP n ops f o,o.op with
  |some d,some true,.lookup s x y false=>some (d,s,ea f x,ea f y)
  |_,_,_=>none
 |none=>none
theorem lk{va vi vs:_}{cb:Bool}{s:Nat}{x y:AV}(a:AV)(e:lkA n ops f i=some (d,s,x,y))(h:∀w,Mem w (hs H) M Φ R→(Instr.lookup s x.val y.val false).run Tryz.prog w= .ok a.val w)(hn:G Tryz.prog fn Rr n M Φ R (.g ⟨cb,vi,va,vs⟩ ops t::ks) (ua f d a) H)(hv:va=[]:=by rfl):G Tryz.prog fn Rr n M Φ R (.g ⟨cb,vi,va,vs⟩ ops (.rd i t)::ks) f H:=by
 intro w hS hK;obtain⟨hK1,il⟩:=bn.1 hK;have hn:=hn w hS (bn.2 ⟨hK1,il⟩);show WF Tryz.prog ops (kq Tryz.prog fn Rr ks) va (oD _ ops) (uv _ ops) (.rd i t) n (cn f) w;subst hv;unfold lkA at e;split at e
 ·rename_i o ho;split at e
  ·rename_i d' s' p q hd hw hp;simp only[Option.some.injEq,Prod.mk.injEq]at e;obtain⟨rfl,rfl,rfl,rfl⟩:=e;refine QB ho hd (fC hw) (dI hK1).1 (fun w' hb=> ?_) (by rw[←jz];exact hn);have:=h w' (hS.next (Dq hb));rw[bz,bz]at this;simp only[execOp,hp,Sem.run_bind,this,Result.andThen_ok,Sem.run_pure]
  ·cases e
 ·cases e
end
end Rv
section
open Rv
abbrev refused(er:Int):Value:= .tuple #[iF 0 0 0 (.slice none 0 0) (.slice none 0 0) eP,gY 0 0 0 0,.bool false,iV er]
theorem VB(s:St)(ra la:tB)(rc lc:Nat)(ws:tD)(v:Ev)(w:tA)(hR:RowK .i64 w ra (2*s.rn) s.R)(hL:RowK .i64 w la (4*s.ln) s.L)(hW:gN ws s.wt s.wz)(h:s.Ok)(f:Int)(hf:¬f=0)(HF:Hid (aP v.k v.p v.i v.b v.he v.hn=f)):
  cA 36 #[iF s.ep s.nx s.gv (.slice ra s.rn rc) (.slice la s.ln lc) ws,oK v] w (rB (refused f) w):=by
 refine en (H:=[]) _ [vg (qS s.ep s.nx s.gv (.slice ra s.rn rc) (.slice la s.ln lc) ws),vg [.o (iV v.k),.o (iV v.p),.o (iV v.i),.o (iV v.b),.o (iV v.he),.o (iV v.hn)]] Tryz.func36 rfl rfl (m0 w) (r [] rfl fun _=> ?_);refine Rv.cb rfl (vi 0) (fun w hS=>xG s.ep s.nx s.gv ra la s.rn rc s.ln lc s.R s.L ws s.wt s.wz w (hR.below hS.now.2) (hL.below hS.now.2) hW h) (r [0] rfl fun _=>Rv.cb rfl (vi f) (fun w _=>(aa HF)▸nm v.k v.p v.i v.b v.he v.hn w) (r [1] rfl fun _=>fin fun w hS=>⟨rfl,hS.now.2⟩))
structure uH(w w':tA)(s:St)(x:tK):Prop where
 ex:∃a1 c1 a2 c2 ws,x=iF s.ep s.nx s.gv (.slice a1 s.rn c1) (.slice a2 s.ln c2) ws∧RowK .i64 w' a1 (2*s.rn) s.R∧RowK .i64 w' a2 (4*s.ln) s.L∧s.rn≤c1∧s.ln≤c2∧(a1=none→c1=0)∧(a2=none→c2=0)∧gN ws s.wt s.wz∧(∀x,a1=some x→w.heap.size≤x.block)∧(∀x,a2=some x→w.heap.size≤x.block)
theorem gN.one{ws:tD}{wt:tH}{wz:Nat→Nat→Bool}(h:gN ws wt wz):aS ws 36:=fun i hi=>by
 obtain⟨h0,h1⟩:=h (i/9) (by omega);by_cases e:i % 9=0
 ·rw[(Au ws (by omega:i=9*(i/9))).trans h0];rfl
 ·rw[(Au ws (by omega:i=9*(i/9)+1+(i % 9-1))).trans (h1 (i % 9-1) (by omega))];rfl
theorem qU.EI{w w':tA}{U:tF}{base B:Nat}{ep nx gv:Int}{a1 a2:tB}{rn c1 ln c2:Nat}{R L:tG}{ws:tD}(D:qU w base B ep nx gv a1 rn c1 a2 ln c2 R L ws)(c:dm U w w')(hU:∀b,U b→b<base):qU w' base B ep nx gv a1 rn c1 a2 ln c2 R L ws:=
 ⟨(c.block B D.d.lt fun h=>absurd D.up (BE.2 (hU B h))).trans D.d,D.up,aI D.o1 (fun g hg hl=>c.block g hl fun h=>absurd (D.o1.lt g hg).1 (BE.2 (hU g h))),aI D.o2 (fun g hg hl=>c.block g hl fun h=>absurd (D.o2.lt g hg).1 (BE.2 (hU g h))),D.wR,D.wL⟩
theorem Mem.far{w w' w0:tA}{H:List bU}{Γ φ:tJ}{base:Nat}(h:Mem w H (fun _=>False) Γ (fun y=>bZ w0 y))(b:Below base w w')(hH:∀e∈H,e.a<base)(hb:w0.heap.size≤base)(hφ:bV (fun b=>b∈H.map bU.a) w' φ):Mem w' H (fun _=>False) φ (fun y=>bZ w0 y):=by
 have m:=Mem.begin (w:=w') (H:=H) (M:=fun _=>False) (G:=φ) (fun e he=>(h.ik e he).same (b.block _ (hH e he))) (List.pairwise_map.1 h.nodup) (fun _ _ k=>k) (fun _ k=>k.elim) fun y c=>hφ y (c.mono fun b k=>k.elim id False.elim);have mC:bZ w0 w':=h.now.2.trans (b.mono hb);refine Mem.sr m fun y c=>mC.trans (c.below mC.size fun z hz hu=> ?_);obtain⟨e,he,rfl⟩:=Ax.1 hu;obtain⟨k,hk⟩:=Cj he;exact absurd hz (AY.2 (h.jC k hk))
theorem VE(s:St)(ra la:tB)(rc lc:Nat)(ws:tD)(v:Ev)(w:tA)(hR:RowK .i64 w ra (2*s.rn) s.R)(hL:RowK .i64 w la (4*s.ln) s.L)(nR:ra=none→rc=0)(nL:la=none→lc=0)(hW:gN ws s.wt s.wz)(h:s.Ok)(hv:v.Ok):
  cA 36 #[iF s.ep s.nx s.gv (.slice ra s.rn rc) (.slice la s.ln lc) ws,oK v] w fun e w'=>∃(s':St) (an:An) (ch:Bool) (x:tK),e= .returned (.tuple #[x,GY an,.bool ch,iV 0])∧Step s v s' an ch∧uH w w' s' x∧bZ w w':=by
 have HC:∀w,cA 59 #[oK v] w (rB (iV 0) w):=fun w=>by
  have:=nm v.k v.p v.i v.b v.he v.hn w;rwa [show aP v.k v.p v.i v.b v.he v.hn=0 from hv]at this
 have hk4:v.k=1∨v.k=2∨v.k=3∨v.k=4:=by
  rcases Ev.cases hv with h|h|h|h
  ·exact .inl h.1
  ·exact .inr (.inl h.1)
  ·exact .inr (.inr (.inl h.1))
  ·exact .inr (.inr (.inr h.1))
 have he:iO Tryz.prog (methodOf v.k)=true:=by
  rcases hk4 with e|e|e|e<;>rw[e]<;>kernel_rfl
 obtain⟨g,hg⟩:∃g,methodOf v.k=g:=⟨_,rfl⟩;rw[hg]at he;have ow:=hW.one;refine en (H:=[]) _ [vg (qS s.ep s.nx s.gv (.slice ra s.rn rc) (.slice la s.ln lc) ws),vg [.o (iV v.k),.o (iV v.p),.o (iV v.i),.o (iV v.b),.o (iV v.he),.o (iV v.hn)]] Tryz.func36 rfl rfl (m0 w) (r [] rfl fun α=> ?_);refine Rv.cb rfl (vi 0) (fun w hS=>xG s.ep s.nx s.gv ra la s.rn rc s.ln lc s.R s.L ws s.wt s.wz w (hR.below hS.now.2) (hL.below hS.now.2) hW h) (r [0] rfl fun _=>Rv.cb rfl (vi 0) (fun w _=>HC w) (r [0] rfl fun _=>ky rfl (by kernel_rfl) fun w5 hS5=> ?_));refine(JW s.ep s.nx s.gv ra la s.rn rc s.ln lc s.R s.L ws w5 (hR.below hS5.now.2) (hL.below hS5.now.2) nR nL h.count.sz).mono ?_;rintro _ w6 ⟨B,a1,c1,a2,c2,rfl,uB,d6,o1,o2,b6⟩;have D6:qU w6 w5.heap.size B s.ep s.nx s.gv a1 s.rn c1 a2 s.ln c2 s.R s.L ws:=⟨d6,uB,o1,o2,hR.wf,hL.wf⟩;refine⟨vv (.pointer (some ⟨B,0,none⟩)),_,_,_,_,rfl,.inr b6,(hS5.next b6).add fun w2 c2=>D6.EI c2 fun b hb=>hb.elim (fun hb=>hS5.lt hb) False.elim,r [4] rfl fun _=> ?_⟩;refine cx rfl (fun M:Nat=>vv (.map (some M))) (fun _=>True) (fun M w=>w.heap[M]? =some sU) (fun w hS=>(GP w).mono fun _ _ ⟨e,m,b⟩=>⟨_,e,b,trivial,fun hU w2 c2=>(c2.block _ (bQ m) fun hu=>absurd (hU _ hu) (Nat.lt_irrefl _)).trans m⟩) fun M _=> ?_;refine r [] rfl fun _=>lk (vv (.func (.func g) #[] #[])) rfl (fun w hS=>hg▸JU hS.now.1.2 v.k hk4) (r [] rfl fun _=>ky rfl he fun w8 hS=> ?_);refine(hg▸Ka w5.heap.size B s a1 c1 a2 c2 ws v w8 hS.now.1.1.2 hW (AN uB (Nat.le_of_lt hS.now.1.1.2.d.lt)) h hv).mono ?_;rintro _ w9 ⟨x,rfl,s',an,ch,rfl,gI,⟨a1',CG,a2',CA,ws',d9,r1,r2,l1,l2,n1,n2,pB,x1,x2⟩,b9⟩;have ow':=pB.one;have off:∀b,(b∈(hs _).map bU.a)→b<w5.heap.size:=fun b hb=>hS5.lt hb;have fb:aY w9 B 148 41 (cD (qS s'.ep s'.nx s'.gv (.slice a1' s'.rn CG) (.slice a2' s'.ln CA) ws')):=d9;refine⟨vt [.g [.o (iV an.c),.o (iV an.he),.o (iV an.no),.o (iV an.bd)],.o (.bool ch)],_,_,_,_,rfl,.inl rfl,hS.far (φ:=fun y=>aY y B 148 41 (cD (qS s'.ep s'.nx s'.gv (.slice a1' s'.rn CG) (.slice a2' s'.ln CA) ws'))∧RowK .i64 y a1' (2*s'.rn) s'.R∧RowK .i64 y a2' (4*s'.ln) s'.L) b9 (fun e he=>off _ (Ax.2 ⟨e,he,rfl⟩)) hS5.now.2.size (fun y c=>⟨fb.same (c.block B fb.lt fun hu=>absurd uB (BE.2 (off B hu))),mG r1 c fun x hx _ hu=>absurd (x1 x hx) (BE.2 (off _ hu)),mG r2 c fun x hx _ hu=>absurd (x2 x hx) (BE.2 (off _ hu))⟩),r [5,2,6] rfl fun _=> ?_⟩;refine lfg rfl 41 (cD (qS s'.ep s'.nx s'.gv (.slice a1' s'.rn CG) (.slice a2' s'.ln CA) ws')) (fun w h j hj=>by rw[Ae];exact h.1.1.at j hj) (Rv.sv 44 (vg (qS s'.ep s'.nx s'.gv (.slice a1' s'.rn CG) (.slice a2' s'.ln CA) ws')) rfl (r [] rfl fun _=>fin fun w12 hS=>⟨s',an,ch,_,rfl,gI,⟨a1',CG,a2',CA,ws',rfl,hS.now.1.2.1,hS.now.1.2.2,l1,l2,n1,n2,pB,fun x hx=>AN hS5.now.2.size (x1 x hx),fun x hx=>AN hS5.now.2.size (x2 x hx)⟩,hS.now.2⟩)) (fun a ha=>by rw[Ab.1 ha];exact AF _ (AF _ (Aw ..)))
end
theorem Tryz.lK:(Tryz.prog.info? 55).map (fun i=>(i.zero,i.size,i.bytes))=some (some (.agg #[iV 0,iV 0,iV 0,iV 0,iV 0,iV 0]),6,48):=by kernel_rfl
def oN(A B:tG)(k:Nat):Prop:=∀j,j<6→A.getD (6*k+j) 0=B.getD (6*k+j) 0
structure l8(A B:tG)(la lb n:Nat):Prop where
 lea:n≤la
 leb:n≤lb
 same:∀k,k<n→oN A B k
 stop:n=la∨n=lb∨¬oN A B n
theorem Zo{p0 p1 p2 p3 p4 p5 q0 q1 q2 q3 q4 q5:Int}(hs:¬(p0=q0∧p1=q1∧p2=q2∧p3=q3∧p4=q4∧p5=q5)):
  (¬p0=q0)∨(p0=q0∧¬p1=q1)∨(p0=q0∧p1=q1∧¬p2=q2)∨(p0=q0∧p1=q1∧p2=q2∧¬p3=q3)∨(p0=q0∧p1=q1∧p2=q2∧p3=q3∧¬p4=q4)∨(p0=q0∧p1=q1∧p2=q2∧p3=q3∧p4=q4∧¬p5=q5):=by
 by_cases e0:p0=q0
 ·by_cases e1:p1=q1
  ·by_cases e2:p2=q2
   ·by_cases e3:p3=q3
    ·by_cases e4:p4=q4
     ·exact .inr (.inr (.inr (.inr (.inr ⟨e0,e1,e2,e3,e4,fun e5=>hs ⟨e0,e1,e2,e3,e4,e5⟩⟩))))
     ·exact .inr (.inr (.inr (.inr (.inl ⟨e0,e1,e2,e3,e4⟩))))
    ·exact .inr (.inr (.inr (.inl ⟨e0,e1,e2,e3⟩)))
   ·exact .inr (.inr (.inl ⟨e0,e1,e2⟩))
  ·exact .inr (.inl ⟨e0,e1⟩)
 ·exact .inl e0
theorem RowK.six{w:tA}{b off n:Nat}{D:tG}(h:RowK .i64 w (some ⟨b,off,none⟩) (6*n) D)(k:Nat)(hk:k<n):
  w.cell? ⟨b,off+k*6,none⟩=some (iV (D.getD (6*k) 0))∧w.cell? ⟨b,off+k*6+1,none⟩=some (iV (D.getD (6*k+1) 0))∧w.cell? ⟨b,off+k*6+2,none⟩=some (iV (D.getD (6*k+2) 0))∧
  w.cell? ⟨b,off+k*6+3,none⟩=some (iV (D.getD (6*k+3) 0))∧w.cell? ⟨b,off+k*6+4,none⟩=some (iV (D.getD (6*k+4) 0))∧w.cell? ⟨b,off+k*6+5,none⟩=some (iV (D.getD (6*k+5) 0)):=by
 rw[Bl k 6];exact⟨h.at (6*k) (by omega),h.at (6*k+1) (by omega),h.at (6*k+2) (by omega),h.at (6*k+3) (by omega),h.at (6*k+4) (by omega),h.at (6*k+5) (by omega)⟩
theorem Kc(a b:tB)(la ca lb cb:Nat)(A B:tG)(w:tA)(hA:RowK .i64 w a (6*la) A)(hB:RowK .i64 w b (6*lb) B)(h1:la≤9223372036854775806)(h2:lb≤9223372036854775806):
  cA 170 #[.slice a la ca,.slice b lb cb] w fun e w'=>∃n:Nat,e= .returned (iV n)∧l8 A B la lb n∧bZ w w':=by
 go_enter Tryz.func170,Tryz.ntmps170;go_wp2
 go_loopw [5] (fun t wr=>∃k m:Nat,k≤la∧k≤lb∧t=iV k∧wr=w.drewN m∧Hid (∀j,j<k→oN A B j)) (fun t _=>la-(intOf t).toNat)
 case atStart=>exact⟨0,0,Ak _,Ak _,rfl,rfl,ah (fun j hj=>absurd hj (AH _))⟩
 case round=>
  obtain⟨k,m,UL,hkb,rfl,rfl,HS⟩:=hrel;by_cases h3:k<la
  case neg=>
   obtain rfl:k=la:=by omega
   clear hA hB
   go_wp2_with fail
   go_quiet (fail)
   go_wp2;go_ret;exact⟨k,rfl,⟨Aa _,hkb,aa HS,.inl rfl⟩,⟨rfl,rfl,rfl,Aa _,fun _ _=>rfl⟩⟩
  case pos=>
  by_cases h4:k<lb
  case neg=>
   obtain rfl:k=lb:=by omega
   clear hA hB
   go_wp2_with fail
   go_quiet (fail)
   go_wp2;go_ret;exact⟨k,rfl,⟨UL,Aa _,aa HS,.inr (.inl rfl)⟩,⟨rfl,rfl,rfl,Aa _,fun _ _=>rfl⟩⟩
  case pos=>
  obtain⟨b1,o1,rfl⟩:=hA.form (by omega);obtain⟨b2,o2,rfl⟩:=hB.form (by omega);obtain⟨x0,x1,x2,x3,x4,x5⟩:=hA.six k h3;obtain⟨y0,y1,y2,y3,y4,y5⟩:=hB.six k h4
  have HE:Hid (oN A B k↔(A.getD (6*k) 0=B.getD (6*k) 0∧A.getD (6*k+1) 0=B.getD (6*k+1) 0∧A.getD (6*k+2) 0=B.getD (6*k+2) 0∧A.getD (6*k+3) 0=B.getD (6*k+3) 0∧A.getD (6*k+4) 0=B.getD (6*k+4) 0∧A.getD (6*k+5) 0=B.getD (6*k+5) 0)):=ah (by
   constructor
   ·intro h;exact⟨h 0 (by omega),h 1 (by omega),h 2 (by omega),h 3 (by omega),h 4 (by omega),h 5 (by omega)⟩
   ·rintro⟨e0,e1,e2,e3,e4,e5⟩ j hj
    match j,hj with
    |0,_=>exact e0
    |1,_=>exact e1
    |2,_=>exact e2
    |3,_=>exact e3
    |4,_=>exact e4
    |5,_=>exact e5)
  clear hA hB;generalize A.getD (6*k) 0=p0 at x0 HE;generalize A.getD (6*k+1) 0=p1 at x1 HE;generalize A.getD (6*k+2) 0=p2 at x2 HE;generalize A.getD (6*k+3) 0=p3 at x3 HE;generalize A.getD (6*k+4) 0=p4 at x4 HE;generalize A.getD (6*k+5) 0=p5 at x5 HE;generalize B.getD (6*k) 0=q0 at y0 HE;generalize B.getD (6*k+1) 0=q1 at y1 HE;generalize B.getD (6*k+2) 0=q2 at y2 HE;generalize B.getD (6*k+3) 0=q3 at y3 HE;generalize B.getD (6*k+4) 0=q4 at y4 HE;generalize B.getD (6*k+5) 0=q5 at y5 HE;by_cases hs:p0=q0∧p1=q1∧p2=q2∧p3=q3∧p4=q4∧p5=q5
  ·have HS1:Hid (∀j,j<k+1→oN A B j):=ah fun j hj=>by
    rcases AA j k with h|h
    ·exact aa HS j h
    ·obtain rfl:j=k:=by omega
     exact(aa HE).2 hs
   clear HE HS;obtain⟨rfl,rfl,rfl,rfl,rfl,rfl⟩:=hs
   go_wp2_with fail
   go_quiet (fail)
   clear x0 x1 x2 x3 x4 x5 y0 y1 y2 y3 y4 y5;go_wp2
   go_roundw
   case rel=>exact⟨k+1,m+nq,by omega,by omega,by go_num,by first|exact(World.drewN_add _ _ _).symm|exact World.drewN_add _ _ _|exact World.drewN_drewN _ _ _|rfl|simp,HS1⟩
   case measure=>simp[intOf];omega
  ·have HN:Hid (¬oN A B k):=ah fun h=>hs ((aa HE).1 h);have hd:=Zo hs;clear HE hs;rcases hd with hd|⟨rfl,hd⟩|⟨rfl,rfl,hd⟩|⟨rfl,rfl,rfl,hd⟩|⟨rfl,rfl,rfl,rfl,hd⟩|⟨rfl,rfl,rfl,rfl,rfl,hd⟩
   all_goals
    go_wp2_with fail
    go_quiet (fail)
    go_wp2;go_ret;exact⟨k,rfl,⟨UL,hkb,aa HS,.inr (.inr (aa HN))⟩,⟨rfl,rfl,rfl,Aa _,fun _ _=>rfl⟩⟩
theorem abU(w:tA)(x0 x1 x2 x3 x4 x5:Int)(t:tZ):∀j u,([x0,x1,x2,x3,x4,x5].map (Value.int .i64))[j]? =some u→(w.alloc (.cells #[iV x0,iV x1,iV x2,iV x3,iV x4,iV x5] t)).drew.cell? ((⟨w.heap.size,0,none⟩:Addr).add j)=some u:=by
 intro j u hj;rw[BG]
 match j,hj with
 |0,hj=>simp at hj;subst hj;simp
 |1,hj=>simp at hj;subst hj;simp
 |2,hj=>simp at hj;subst hj;simp
 |3,hj=>simp at hj;subst hj;simp
 |4,hj=>simp at hj;subst hj;simp
 |5,hj=>simp at hj;subst hj;simp
 |n+6,hj=>simp at hj
def St.zero:St:=⟨0,0,0,0,[],0,[],fun _=>0,fun _ _=>false⟩
theorem St.VF:St.zero.Wf:=by
 refine⟨⟨⟨by decide,by decide,by decide,by decide,by decide,by decide,by decide⟩,fun p _=>fJ.none,⟨fun i hi=>absurd hi (AH _),fun i hi=>absurd hi (AH _),rfl⟩,fun i hi=>absurd hi (AH _)⟩,rfl,rfl⟩
def aX(v:Ev):List Int:=[v.k,v.p,v.i,v.b,v.he,v.hn]
def fp(a:An):List Int:=[a.c,a.he,a.no,a.bd]
def ai(es:List Ev):List Int:=es.flatMap aX
def kP(bw:List An):List Int:=bw.flatMap fp
theorem G0(es:List Ev)(v:Ev):ai (es++[v])=ai es++aX v:=by simp[ai]
theorem vB(bw:List An)(a:An):kP (bw++[a])=kP bw++fp a:=by simp[kP]
structure Qb(w wr:tA)(B:Nat)(s:St)(a1:tB)(c1:Nat)(a2:tB)(c2:Nat)(ws:tD):Prop where
 q:aV wr B s.ep s.nx s.gv (.slice a1 s.rn c1) (.slice a2 s.ln c2) ws
 r1:RowK .i64 wr a1 (2*s.rn) s.R
 r2:RowK .i64 wr a2 (4*s.ln) s.L
 l1:s.rn≤c1
 l2:s.ln≤c2
 n1:a1=none→c1=0
 n2:a2=none→c2=0
 GM:gN ws s.wt s.wz
 f1:∀x,a1=some x→w.heap.size<x.block
 f2:∀x,a2=some x→w.heap.size<x.block
structure Pl(w wr:tA)(Z B:Nat)(s:St)(a1:tB)(c1:Nat)(a2:tB)(c2:Nat)(ws:tD)(ve va:tK)(es:List Ev)(bw:List An):Prop where
 z:aV wr Z 0 0 0 (.slice none 0 0) (.slice none 0 0) eP
 q:Qb w wr B s a1 c1 a2 c2 ws
 oe:wr.ownsRow (B+1) 55 6 ve es.length ((ai es).map (Value.int .i64))
 oa:wr.ownsRow (B+1) 59 4 va bw.length ((kP bw).map (Value.int .i64))
 cP:bZ w wr
 upZ:w.heap.size≤Z
 upB:Z<B
structure Zp(B n:Nat)(wa wb:tA):Prop where
 os:wb.os=wa.os
 tape:wb.tape=wa.tape
 output:wb.output=wa.output
 size:wa.heap.size≤wb.heap.size
 block:∀X,X<n→X≠B→wb.heap[X]? =wa.heap[X]?
def An.zero:An:=⟨0,0,0,0⟩
inductive G6(s:St)(v:Ev):St→An→Bool→Int→Prop
 |step {s':St} {an:An} {ch:Bool} (hv:v.Ok) (st:Step s v s' an ch):G6 s v s' an ch 0
 |form (er:Int) (hv:aP v.k v.p v.i v.b v.he v.hn=er) (h:¬er=0):G6 s v St.zero An.zero false er
theorem G6.err{s s':St}{v:Ev}{an:An}{ch:Bool}{er:Int}(h:G6 s v s' an ch er):er=0∨(¬er=0∧ch=false):=by
 cases h with
 |step=>exact .inl rfl
 |form _ _ h=>exact .inr ⟨h,rfl⟩
theorem Rq(s:St)(ra la:tB)(rc lc:Nat)(ws:tD)(v:Ev)(w:tA)(hR:RowK .i64 w ra (2*s.rn) s.R)(hL:RowK .i64 w la (4*s.ln) s.L)(nR:ra=none→rc=0)(nL:la=none→lc=0)(hW:gN ws s.wt s.wz)(h:s.Ok):
  cA 36 #[iF s.ep s.nx s.gv (.slice ra s.rn rc) (.slice la s.ln lc) ws,oK v] w fun e w'=>∃(s':St) (an:An) (ch:Bool) (er:Int) (x:tK),e= .returned (.tuple #[x,GY an,.bool ch,iV er])∧G6 s v s' an ch er∧uH w w' s' x∧bZ w w':=by
 by_cases hv:v.Ok
 ·refine(VE s ra la rc lc ws v w hR hL nR nL hW h hv).mono ?_;rintro e w' ⟨s',an,ch,x,rfl,st,q,b⟩;exact⟨s',an,ch,0,x,rfl,.step hv st,q,b⟩
 ·refine(VB s ra la rc lc ws v w hR hL hW h _ hv (ah rfl)).mono ?_;rintro e w' ⟨rfl,b⟩;exact⟨St.zero,An.zero,false,_,_,rfl,.form _ rfl hv,⟨⟨none,0,none,0,eP,rfl,RowK.nil _ _ _,RowK.nil _ _ _,Aa _,Aa _,fun _=>rfl,fun _=>rfl,jE,fun x hx=>(by cases hx),fun x hx=>(by cases hx)⟩⟩,b⟩
def qF(ep nx gv:Int)(r l:tK)(ws:tD):Nat→Value
 |0=>iV ep
 |1=>iV nx
 |2=>iV gv
 |3=>r
 |4=>l
 |j+5=>ws j
theorem N5(ep nx gv:Int)(r l:tK)(ws:tD):dR ep nx gv r l ws=(cm (qF ep nx gv r l ws) 0 41).toArray:=by
 apply BS;intro i;have e:(cm (qF ep nx gv r l ws) 0 41).toArray[i]? =(cm (qF ep nx gv r l ws) 0 41)[i]? :=by simp
 rw[e];by_cases hi:i<41
 ·rw[bX _ _ _ _ hi,Ae];obtain⟨h0,h1,h2,h3,h4⟩:=oG ep nx gv r l ws
  match i,hi with
  |0,_=>exact h0
  |1,_=>exact h1
  |2,_=>exact h2
  |3,_=>exact h3
  |4,_=>exact h4
  |j+5,hj=>rw[Nat.add_comm j 5,NH _ _ _ _ _ _ j (by omega),Nat.add_comm 5 j];rfl
 ·rw[gH _ _ _ _ (by omega),Bc (by rw[cT];omega)]
theorem qy(ep nx gv:Int)(r l:tK)(ws:tD):iF ep nx gv r l ws=vF (qF ep nx gv r l ws) 41:=by rw[iF,N5]
structure uI(w:tA)(s:St)(q:tD):Prop where
 ex:∃ra rc la lc ws,q=qF s.ep s.nx s.gv (.slice ra s.rn rc) (.slice la s.ln lc) ws∧RowK .i64 w ra (2*s.rn) s.R∧RowK .i64 w la (4*s.ln) s.L∧s.rn≤rc∧s.ln≤lc∧(ra=none→rc=0)∧(la=none→lc=0)∧gN ws s.wt s.wz
theorem uI.next{w w':tA}{s:St}{q:tD}(h:uI w s q)(b:bZ w w'):uI w' s q:=by
 obtain⟨ra,rc,la,lc,ws,h1,h2,h3,h4⟩:=h.ex;exact⟨ra,rc,la,lc,ws,h1,h2.below b,h3.below b,h4⟩
theorem uI.one{w:tA}{s:St}{q:tD}(h:uI w s q):aS q 41:=by
 obtain⟨ra,rc,la,lc,ws,rfl,_,_,_,_,_,_,hW⟩:=h.ex;intro i hi
 match i,hi with
 |0,_=>rfl
 |1,_=>rfl
 |2,_=>rfl
 |3,_=>rfl
 |4,_=>rfl
 |j+5,hj=>exact X9 hW _ (Ax.2 ⟨j,Cb.2 (by omega),rfl⟩)
def zQ:Nat→Value:=qF 0 0 0 (.slice none 0 0) (.slice none 0 0) eP
theorem xY:aS zQ 41:=fun i hi=>by
 match i,hi with
 |0,_=>rfl
 |1,_=>rfl
 |2,_=>rfl
 |3,_=>rfl
 |4,_=>rfl
 |j+5,hj=>
  show(eP j).oneCell'=true;unfold eP;split<;>rfl
section
open Rv
abbrev Zq(v:Ev):List Sg:=[.o (iV v.k),.o (iV v.p),.o (iV v.i),.o (iV v.b),.o (iV v.he),.o (iV v.hn)]
abbrev Qn(a:An):List Sg:=[.o (iV a.c),.o (iV a.he),.o (iV a.no),.o (iV a.bd)]
abbrev bS(r e f t o:Int)(a:tB)(n c:Nat):List Sg:=[.o (iV r),.o (iV e),.o (iV f),.o (iV t),.o (iV o),.o (.slice a n c)]
theorem Rs{s:St}{q:tD}{w:tA}(hq:uI w s q)(ok:s.Ok)(v:Ev):cA 36 #[vF q 41,oK v] w fun e w'=>∃(s':St) (an:An) (ch:Bool) (er:Int) (q':tD),e= .returned (.tuple #[vF q' 41,GY an,.bool ch,iV er])∧G6 s v s' an ch er∧(∀U:Nat→Prop,(∀b,U b→b<w.heap.size)→bV U w' fun w=>uI w s' q')∧bZ w w':=by
 obtain⟨ra,rc,la,lc,ws,rfl,h1,h2,h3,h4,h5,h6,h7⟩:=hq.ex;rw[←qy];refine(Rq s ra la rc lc ws v w h1 h2 h5 h6 h7 ok).mono ?_;rintro _ w' ⟨s',an,ch,er,x,rfl,hd,ho,hb⟩;obtain⟨a1,c1,a2,c2,ws',rfl,g1,g2,g3,g4,g5,g6,g7,g8,g9⟩:=ho.ex;refine⟨s',an,ch,er,_,by rw[qy],hd,fun U hU w2 CA=> ?_,hb⟩;exact⟨a1,c1,a2,c2,ws',rfl,bW g1 g8 hU w2 CA,bW g2 g9 hU w2 CA,g3,g4,g5,g6,g7⟩
theorem Yh{s s1:St}{v:Ev}{an:An}{ch:Bool}{er:Int}(hv:v.Ok)(h:G6 s v s1 an ch er):er=0∧Step s v s1 an ch:=by
 cases h with
 |step _ st=>exact⟨rfl,st⟩
 |form _ hf hn=>exact absurd (hf.symm.trans hv) hn
theorem L0{w:tA}{R T:Nat}{g:tD}(v:Ev)(hv:∀u∈aX v,(Lit.int .i64 u).wf=true)(h:aY w R T 6 g)(hg:∀i,i<6→g i=iV ((aX v).getD i 0)):RowK .i64 w (some ⟨R,0,none⟩) (6*1) (ai [v]):=by
 refine⟨rfl,by simpa[ai]using hv,fun i hi=>⟨R,0,rfl,h.lt, ?_⟩⟩;rw[Ae,h.at i (by omega),hg i (by omega)];simp[ai]
theorem gu{g:Nat}{xs:tR}{w:tA}{b:Bool}(b2:Bool)(h:cA g xs w fun e w'=>e= .returned (.bool b)∧w'=w)(e:b=b2):cA g xs w fun x w'=>x= .returned (vv (.bool b2)).val∧bZ w w':=h.mono fun _ _ ⟨h1,h2⟩=>by subst h2 e;exact⟨h1,Be _ _⟩
theorem mQ{g:Nat}{xs:tR}{w:tA}{b:Bool}(b2:Bool)(h:cA g xs w (rB (.bool b) w))(e:b=b2):cA g xs w fun x w'=>x= .returned (vv (.bool b2)).val∧bZ w w':=e▸h
end
end Go.Proofs.YtmhifeahpnkpiaaGreatDoor
namespace Go.Proofs
open Go.Shelf
def Tryz.laysGrow_ren:Go.Shelf.Ren:=⟨fun|4=>236|n=>n,fun|22=>47|25=>55|3=>3|4=>4|9=>9|20=>20|0=>0|n=>n,fun|n=>n⟩
theorem Tryz.laysGrow:Go.Proofs.Lays8.n4 Tryz.prog Tryz.laysGrow_ren:={
 mixed:=by kernel_rfl
 f4:=⟨Tryz.f236.name,by decide,Tryz.func236.trans (congrArg some (by kernel_rfl))⟩
 t0:=Tryz.underlying0
 a0:=Tryz.isAgg0
 z0:=Tryz.sizeOf0
 v0:=Tryz.zeroValue0
 t3:=Tryz.underlying3
 a3:=Tryz.isAgg3
 z3:=Tryz.sizeOf3
 v3:=Tryz.zeroValue3
 t4:=Tryz.underlying4
 a4:=Tryz.isAgg4
 z4:=Tryz.sizeOf4
 v4:=Tryz.zeroValue4
 t9:=Tryz.underlying9
 a9:=Tryz.isAgg9
 z9:=Tryz.sizeOf9
 v9:=Tryz.zeroValue9
 t20:=Tryz.underlying20
 a20:=Tryz.isAgg20
 z20:=Tryz.sizeOf20
 v20:=Tryz.zeroValue20
 t22:=Tryz.underlying47
 a22:=Tryz.isAgg47
 z22:=Tryz.sizeOf47
 v22:=Tryz.zeroValue47}
end Go.Proofs
namespace Go.Proofs.YtmhifeahpnkpiaaGreatDoor
open Go.RowKit
structure sZ(w w':tA)(n:Nat)(A:tG)(v:tK):Prop where
 ex:∃a c,v= .slice a n c∧RowK .i64 w' a (6*n) A∧n≤c∧(a=none→c=0)∧(∀x,a=some x→w.heap.size≤x.block)
theorem sZ.of{w w':tA}{n:Nat}{A:tG}{v:tK}(own:w'.ownsRow w.heap.size 55 6 v n (A.map (Value.int .i64)))(vC:∀u∈A,(Lit.int .i64 u).wf=true):sZ w w' n A v:=by
 obtain⟨a',c',rfl,r3,hc,_,n3,u3⟩:=RowK.eO own vC;exact⟨a',c',rfl,r3,hc,n3,u3⟩
theorem DB(a:tB)(n c:Nat)(A:tG)(w:tA)(hA:RowK .i64 w a (6*n) A)(hn:a=none→c=0)(hs:n≤1000000):
  cA 192 #[.slice a n c] w fun e w'=>∃v,e= .returned v∧sZ w w' n A v∧bZ w w':=by
 obtain⟨i6,hi6,hz60,hz61,hz62⟩:=iq Tryz.lK;have vC:=hA.wf;cases a with
 |none=>
  obtain rfl:n=0:=by
   rcases Ch n with h|h
   ·exact h
   ·obtain⟨_,_,h',_⟩:=hA.cell 0 (by omega);cases h'
  have zu:A=[]:=List.length_eq_zero_iff.1 (by simpa using hA.cy);subst zu;have q:∀(w:tA) (n c n' c':Nat),(binOp .eql 47 (.slice none n c) (.slice none n' c')).run Tryz.prog w= .ok (.bool true) w:=fun w n c n' c'=>Lib.run_eql_slice_nil w _ _ none n c n' c' Tryz.underlying47;go_enter Tryz.func192,Tryz.ntmps192;go_wp2;go_ret;exact⟨_,rfl,⟨none,0,rfl,RowK.nil _ _ _,Aa _,fun _=>rfl,fun x hx=>by cases hx⟩,Be _ _⟩
 |some x=>
  have q:∀(w:tA) (n c n' c':Nat),(binOp .eql 47 (.slice (some x) n c) (.slice none n' c')).run Tryz.prog w= .ok (.bool false) w:=fun w n c n' c'=>Lib.run_eql_slice_nil w _ _ (some x) n c n' c' Tryz.underlying47
  have HF:Hid (∀v' w' w1,bZ w w1→w'.ownsRow w.heap.size 55 6 v' n (A.map (Value.int .i64))→w1.grownBy w' (some w.heap.size)→sZ w w' n A v'∧bZ w w'):=ah (by
   intro v' w' w1 b1 own grow
   exact⟨sZ.of own vC,b1.grown grow b1.size (fun q hq=>by cases hq;exact Aa _)⟩)
  have O1:Hid ((w.alloc (.cells #[] 55)).ownsRow w.heap.size 55 6 (.slice (some ⟨w.heap.size,0,none⟩) 0 0) 0 []):=ah (World.ownsRow_made w #[] 0 (Aa _) (Ak _) (by simp));have B1:Hid (Below w.heap.size w (w.alloc (.cells #[] 55))):=ah (aA _ _);have RA:=ah (hA.below (aa B1));clear hA vC;go_enter Tryz.func192,Tryz.ntmps192
  go_wp2_with (at_builtin;refine di rfl _ _ 47 rfl w.heap.size 55 i6 _ 6 48 Tryz.underlying47 hi6 hz60 hz61 hz62 rfl (by decide) (.slice (some ⟨w.heap.size,0,none⟩) 0 0) 0 [] rfl (aa O1) (some x) n c A rfl (aa RA) hn (by unfold maxLen;omega) (by omega) (aa B1).size ?_;intro v' w4 Ke grow4;rw[List.nil_append,Ae]at Ke;have R:=ah (aa HF v' w4 _ (aa B1) Ke grow4);clear Ke grow4)
  go_ret;exact⟨_,rfl,aa R⟩
theorem VG(n:Nat)(w:tA)(hs:n≤2000000):
  cA 236 #[.slice none 0 0,iV n] w fun e w'=>∃v,e= .returned v∧w'.ownsRow w.heap.size 55 6 v 0 []∧bZ w w':=by
 obtain⟨i6,hi6,hz60,hz61,hz62⟩:=iq Tryz.lK;rcases Ch n with h0|h0
 ·subst h0;refine(Any8.slices_Grow_room Tryz.laysGrow none 0 0 0 w (Aa _) (by omega) (by omega) (Aa _)).mono ?_;rintro e w' ⟨rfl,rfl⟩;exact⟨_,rfl,Bn _ _ _ _,Be _ _⟩
 ·refine(Any8.slices_Grow_grow Tryz.laysGrow i6 _ hi6 hz60 (by rw[hz61];decide) none 0 0 n [] w (Aa _) (by omega) (by rw[hz62];omega) (by omega) (by simp) (fun _=>rfl) (fun a ha=>by cases ha)).mono ?_;rintro e w' ⟨rfl,rfl⟩;refine⟨_,rfl, ?_,(Be _ _).drew.alloc (Aa _) _⟩;refine World.ownsRow_made (base:=w.heap.size) w.drew _ _ (Aa _) (grownCap_le_maxLen _ _ _ _ (by unfold maxLen;omega)) ?_;have h1:=grownCap_ge w (0+n) 0 55;have h2:(Value.agg #[iV 0,iV 0,iV 0,iV 0,iV 0,iV 0]).cells.size=6:=rfl;simp only[Array.size_append,size_zeroCells,h2];show 0+(0+n-0)*6+(grownCap w (0+n) 0 55-(0+n))*6=grownCap w (0+n) 0 55*6;omega
theorem N6(g:Nat)(a b:tB)(la ca lb cb:Nat)(A B:tG)(w:tA)(hg:w.heap[g]? =some (.cells #[.slice a la ca,.slice b lb cb] 47 (0,0)))(hA:RowK .i64 w a (6*la) A)(hB:RowK .i64 w b (6*lb) B)(nA:a=none→ca=0)(nB:b=none→cb=0)(hs:la+lb≤1000000):
  cA 204 #[.slice (some ⟨g,0,none⟩) 2 2] w fun e w'=>∃v,e= .returned v∧sZ w w' (la+lb) (A++B) v∧bZ w w':=by
 obtain⟨i6,hi6,hz60,hz61,hz62⟩:=iq Tryz.lK;have vC:∀u∈A++B,(Lit.int .i64 u).wf=true:=fun u hu=>by
  rcases Ao.1 hu with h|h
  ·exact hA.wf u h
  ·exact hB.wf u h
 have HA:Hid (∀w',bZ w w'→RowK .i64 w' a (6*la) A):=ah fun w' b=>hA.below b;have HB:Hid (∀w',bZ w w'→RowK .i64 w' b (6*lb) B):=ah fun w' b=>hB.below b;have LQ:g<w.heap.size:=by
  rcases AA g w.heap.size with h'|h'
  ·exact h'
  ·simp[Array.getElem?_eq_none h']at hg
 have HG:Hid (∀w',bZ w w'→w'.cell? ⟨g,0,none⟩=some (.slice a la ca)∧w'.cell? ⟨g,1,none⟩=some (.slice b lb cb)):=ah fun w' hb=>by
  have h1:w'.heap[g]? =_:=(hb.block g LQ).trans hg;constructor<;>simp[World.cell?,h1]
 have HW:Hid (∀w' v,w'.ownsRow w.heap.size 55 6 v (la+lb) ((A++B).map (Value.int .i64))→sZ w w' (la+lb) (A++B) v):=ah fun w' v o=>sZ.of o vC;clear hA hB hg LQ vC;obtain⟨c0,c1⟩:=aa HG w (Be _ _);have wa:IntKind.i64.wrap (0+(la:Int))=(la:Int):=by rw[Ct];omega
 have wb:IntKind.i64.wrap ((la:Int)+(lb:Int))=((la+lb:Nat):Int):=by rw[Ct];omega
 go_enter Tryz.func204,Tryz.ntmps204
 go_wp2_with fail
 go_loopw [3,11] (fun s i wr=>w=wr∧((i=iV 0∧s=iV 0)∨(i=iV 1∧s=iV la)∨(i=iV 2∧s=iV (la+lb:Nat)))) (fun _ i _=>2-(intOf i).toNat)
 case atStart=>exact⟨rfl,.inl ⟨rfl,rfl⟩⟩
 case round=>
  obtain⟨rfl,hrel⟩:=hrel;rcases hrel with⟨rfl,rfl⟩|⟨rfl,rfl⟩|⟨rfl,rfl⟩
  ·have h0:decide ((la:Int)<0)=false:=Ai (by omega)
   go_wp2_with fail
   go_roundw
   case rel=>exact⟨trivial,.inr (.inl ⟨by go_num,by first|rfl|go_num⟩)⟩
   case measure=>simp[intOf]
  ·have h0:decide (((la+lb:Nat):Int)<0)=false:=Ai (by omega)
   go_wp2_with fail
   go_roundw
   case rel=>exact⟨trivial,.inr (.inr ⟨by go_num,by first|rfl|go_num⟩)⟩
   case measure=>simp[intOf]
  ·go_wp2_with (go_at_call 236;refine(VG (la+lb) w (by omega)).mono ?_;rintro e W1 ⟨v1,rfl,o1,b1⟩)
   clear c0 c1
   go_loopw [6,27] (fun s i wx=>bZ w wx∧((i=iV 0∧wx.ownsRow w.heap.size 55 6 s 0 [])∨(i=iV 1∧wx.ownsRow w.heap.size 55 6 s la (A.map (Value.int .i64)))∨(i=iV 2∧wx.ownsRow w.heap.size 55 6 s (la+lb) ((A++B).map (Value.int .i64))))) (fun _ i _=>2-(intOf i).toNat)
   case atStart=>exact⟨b1,.inl ⟨rfl,o1⟩⟩
   case round=>
    clear o1 b1;obtain⟨b2,hrel⟩:=hrel;rcases hrel with⟨rfl,o2⟩|⟨rfl,o2⟩|⟨rfl,o2⟩
    ·obtain⟨c0,c1⟩:=aa HG _ b2
     go_wp2_with (at_builtin;refine di rfl _ _ 47 rfl w.heap.size 55 i6 _ 6 48 Tryz.underlying47 hi6 hz60 hz61 hz62 rfl (by decide) _ 0 [] rfl o2 a la ca A rfl (aa HA _ b2) nA (by unfold maxLen;omega) (by omega) (by have:=b2.size;omega) ?_;intro v3 W3 o3 g3;simp only[Nat.zero_add,List.nil_append]at o3;have b3:=b2.grown g3 b2.size (fun q hq=>(o2.lt q hq).1);clear o2 g3 b2 c0 c1)
     go_roundw
     case rel=>exact⟨b3,.inr (.inl ⟨by go_num,o3⟩)⟩
     case measure=>simp[intOf]
    ·obtain⟨c0,c1⟩:=aa HG _ b2
     go_wp2_with (at_builtin;refine di rfl _ _ 47 rfl w.heap.size 55 i6 _ 6 48 Tryz.underlying47 hi6 hz60 hz61 hz62 rfl (by decide) _ la A rfl o2 b lb cb B rfl (aa HB _ b2) nB (by unfold maxLen;omega) (by omega) (by have:=b2.size;omega) ?_;intro v3 W3 o3 g3;have b3:=b2.grown g3 b2.size (fun q hq=>(o2.lt q hq).1);clear o2 g3 b2 c0 c1)
     go_roundw
     case rel=>exact⟨b3,.inr (.inr ⟨by go_num,o3⟩)⟩
     case measure=>simp[intOf]
    ·have R:=ah (And.intro (aa HW _ _ o2) b2);clear o2 b2;go_wp2;go_ret;exact⟨_,rfl,aa R⟩
theorem vD(a b:tB)(la ca lb cb:Nat)(A B:tG)(w:tA)(hA:RowK .i64 w a (6*la) A)(hB:RowK .i64 w b (6*lb) B)(nA:a=none→ca=0)(nB:b=none→cb=0)(hs:la+lb≤1000000):
  cA 164 #[.slice a la ca,.slice b lb cb] w fun e w'=>∃v,e= .returned v∧sZ w w' (la+lb) (A++B) v∧bZ w w':=by
 have HC:=N6 w.heap.size a b la ca lb cb A B (w.alloc (.cells #[.slice a la ca,.slice b lb cb] 47)) (AQ w _) (hA.below (aA _ _)) (hB.below (aA _ _)) nA nB hs;clear hA hB;go_enter Tryz.func164,Tryz.ntmps164
 go_wp2_with (go_at_call 204;refine HC.mono ?_;rintro e W1 ⟨v1,rfl,o1,b1⟩)
 go_ret;obtain⟨a',c',rfl,r,h1,h2,h3⟩:=o1.ex;exact⟨_,rfl,⟨a',c',rfl,r,h1,h2,fun x hx=>by have:=h3 x hx;simp at this;omega⟩,oo b1⟩
theorem Step.abV{s s':St}{v:Ev}{an:An}{ch:Bool}(st:Step s v s' an ch)(hk:v.k=3)(h1:¬v.he=s.ep):ch=false∧an=⟨11,0,0,0⟩∧s'=s:=by
 cases st with
 |iG kW|iH kW|fO kW|zZ kW|eu kW|fP kW|recv kW|fR kW|stop kW=>omega
 |ew _ h'=>exact⟨rfl,rfl,rfl⟩
 |fQ _ h' _=>exact absurd h' h1
 |z7 _ h' m hm hb=>exact absurd h' h1
theorem Step.Rt{s s':St}{v:Ev}{an:An}{ch:Bool}(st:Step s v s' an ch)(hk:v.k=2)(h1:0<s.rn)(h2:s.gv<1073741824):
  ch=true∧an=⟨0,s.ep,s.gv,s.R.getD 1 0⟩∧s'=⟨s.ep,s.nx,s.gv+1,s.rn-1,s.R.drop 2,s.ln+1,s.L++[s.ep,s.gv,s.R.getD 0 0,s.R.getD 1 0],s.wt,s.wz⟩:=by
 cases st with
 |iG kW|iH kW|fO kW|zZ kW|ew kW|fQ kW|z7 kW|fR kW|stop kW=>omega
 |eu _ h'=>omega
 |fP _ _ h'=>omega
 |recv _ _ _=>exact⟨rfl,rfl,rfl⟩
theorem Step.VH{s s':St}{v:Ev}{an:An}{ch:Bool}(st:Step s v s' an ch)(hk:v.k=2)(h1:s.rn=0):ch=false∧an=⟨10,0,0,0⟩∧s'=s:=by
 cases st with
 |iG kW|iH kW|fO kW|zZ kW|ew kW|fQ kW|z7 kW|fR kW|stop kW=>omega
 |eu _ h'=>exact⟨rfl,rfl,rfl⟩
 |fP _ h' _=>omega
 |recv _ h' _=>omega
theorem Step.N7{s s':St}{v:Ev}{an:An}{ch:Bool}(st:Step s v s' an ch)(hk:v.k=1)(h1:s.wt v.p.toNat-8≤v.i)(hn:gS (s.wt v.p.toNat) (s.wz v.p.toNat) v.i=false)(h2:s.rn+s.ln<500)(h3:s.nx<1073741824):
  ch=true∧an=⟨0,0,0,0⟩∧s'=⟨s.ep,s.nx+1,s.gv,s.rn+1,s.R++[s.nx,v.b],s.ln,s.L,wj s.wt v.p.toNat (gV (s.wt v.p.toNat) v.i),wj s.wz v.p.toNat (eW (s.wt v.p.toNat) (s.wz v.p.toNat) v.i)⟩:=by
 cases st with
 |eu kW|fP kW|recv kW|ew kW|fQ kW|z7 kW|fR kW|stop kW=>omega
 |iG _ h'=>omega
 |iH _ h'=>rw[hn]at h';cases h'
 |fO _ _ _ h'=>omega
 |zZ _ _ _ _ _=>exact⟨rfl,rfl,rfl⟩
theorem vE{t x:Int}{s:tQ}(h:x<t-8):gS t s x=false:=by
 unfold gS;rw[Ai (by omega)];simp
theorem Ru{A B:tG}{n:Nat}(ha:A.length=2*n)(hb:B.length=2*n)(h:∀i,i<n→A.getD (2*i) 0=B.getD (2*i) 0∧A.getD (2*i+1) 0=B.getD (2*i+1) 0):A=B:=by
 apply List.ext_getElem (by omega);intro i h1 h2;have e:∀(L:tG) (hL:i<L.length),L[i]=L.getD i 0:=fun L hL=>by simp[List.getElem?_eq_getElem hL]
 rw[e A h1,e B h2];have hi:=h (i/2) (by omega);rcases Nat.mod_two_eq_zero_or_one i with hm|hm
 ·have:2*(i/2)=i:=by omega
  rw[this]at hi;exact hi.1
 ·have:2*(i/2)+1=i:=by omega
  rw[this]at hi;exact hi.2
theorem G7{s:St}{A B:tG}(h:s.Wf)(ha:Ordered (s.R++dD s.L s.ln) A (s.rn+s.ln))(hb:Ordered (s.R++dD s.L s.ln) B (s.rn+s.ln)):A=B:=by
 have ra:=oL h ha;have rb:=oL h hb;have sorted:∀(C:tG) (n:Nat),(∀i,i+1<n→C.getD (2*i) 0<C.getD (2*(i+1)) 0)→(cp C n).Pairwise (fun x y=>x.1<y.1):=by
  intro C n hC;have far:∀j i,i<j→j<n→C.getD (2*i) 0<C.getD (2*j) 0:=by
   intro j
   induction j with
   |zero=>intro i h1;omega
   |succ j ih=>
    intro i h1 h2;have hs:=hC j h2;rcases AA i j with h3|h3
    ·have:=ih i h3 (by omega);omega
    ·obtain rfl:i=j:=by omega
     exact hs
  rw[Bp];intro i j hi hj hij;have hi':i<n:=by simpa[cp]using hi
  have Rw:j<n:=by simpa[cp]using hj
  simp only[cp,List.getElem_map,List.getElem_range,gm];exact far j i hij Rw
 have hp:(cp A (s.rn+s.ln)).Perm (cp B (s.rn+s.ln)):=ha.perm.trans hb.perm.symm;have he:cp A (s.rn+s.ln)=cp B (s.rn+s.ln):=by
  refine List.Perm.eq_of_pairwise (le:=fun x y=>x.1<y.1) ?_ (sorted A _ ra) (sorted B _ rb) hp;intro a b _ _ h1 h2;omega
 refine Ru ha.len hb.len (fun i hi=> ?_);have h1:(cp A (s.rn+s.ln))[i]? =(cp B (s.rn+s.ln))[i]? :=by rw[he]
 simp[cp,hi,gm]at h1;simpa using h1
theorem Step.Yi{s s1 s2:St}{v:Ev}{a1 a2:An}{c1 c2:Bool}(h:s.Wf)(x:Step s v s1 a1 c1)(y:Step s v s2 a2 c2):s1=s2∧a1=a2∧c1=c2:=by
 cases x with
 |iG hk g=>cases y with
  |iG=>exact⟨rfl,rfl,rfl⟩
  |iH _ g2=>rw[vE g]at g2;cases g2
  |fO|zZ|eu|fP|recv|ew|fQ|z7|fR|stop=>omega
 |iH hk g=>cases y with
  |iG _ g2=>rw[vE g2]at g;cases g
  |iH=>exact⟨rfl,rfl,rfl⟩
  |fO _ _ g2=>rw[g]at g2;cases g2
  |zZ _ _ g2=>rw[g]at g2;cases g2
  |eu|fP|recv|ew|fQ|z7|fR|stop=>omega
 |fO hk g g1 g2=>cases y with
  |iH _ g3=>rw[g1]at g3;cases g3
  |fO=>exact⟨rfl,rfl,rfl⟩
  |iG|zZ|eu|fP|recv|ew|fQ|z7|fR|stop=>omega
 |zZ hk g g1 g2 g3=>obtain⟨rfl,rfl,rfl⟩:=y.N7 hk g g1 g2 g3;exact⟨rfl,rfl,rfl⟩
 |eu hk g=>obtain⟨rfl,rfl,rfl⟩:=y.VH hk g;exact⟨rfl,rfl,rfl⟩
 |fP hk g g1=>cases y with
  |fP=>exact⟨rfl,rfl,rfl⟩
  |iG|iH|fO|zZ|eu|recv|ew|fQ|z7|fR|stop=>omega
 |recv hk g g1=>obtain⟨rfl,rfl,rfl⟩:=y.Rt hk g g1;exact⟨rfl,rfl,rfl⟩
 |ew hk g=>obtain⟨rfl,rfl,rfl⟩:=y.abV hk g;exact⟨rfl,rfl,rfl⟩
 |fQ hk g g1=>cases y with
  |fQ=>exact⟨rfl,rfl,rfl⟩
  |ew _ g2=>exact absurd g g2
  |iG|iH|fO|zZ|eu|fP|recv|z7|fR|stop=>omega
 |z7 hk g m hm g1=>cases y with
  |z7 _ _ m' hm' g2=>
   obtain rfl:m=m':=by omega
   exact⟨rfl,rfl,rfl⟩
  |ew _ g2=>exact absurd g g2
  |iG|iH|fO|zZ|eu|fP|recv|fQ|fR|stop=>omega
 |fR hk g=>cases y with
  |fR=>exact⟨rfl,rfl,rfl⟩
  |iG|iH|fO|zZ|eu|fP|recv|ew|fQ|z7|stop=>omega
 |stop hk g R' ho=>cases y with
  |stop _ _ R2 ho2=>
   obtain rfl:=G7 h ho ho2;exact⟨rfl,rfl,rfl⟩
  |iG|iH|fO|zZ|eu|fP|recv|ew|fQ|z7|fR=>omega
inductive bk:List Ev→St→List An→Prop
 |nil:bk [] St.zero []
 |snoc {es:List Ev} {s s':St} {bw:List An} {v:Ev} {an:An} (h:bk es s bw) (hv:v.Ok) (st:Step s v s' an true):bk (es++[v]) s' (bw++[an])
theorem bk.wf{es:List Ev}{s:St}{bw:List An}(h:bk es s bw):s.Wf:=by
 induction h with
 |nil=>exact St.VF
 |snoc h hv st ih=>exact st.wf ih hv
theorem bk.last{es:List Ev}{v:Ev}{s:St}{bw:List An}(h:bk (es++[v]) s bw):∃s0 Fi an,bk es s0 Fi∧v.Ok∧Step s0 v s an true∧bw=Fi++[an]:=by
 generalize he:es++[v]=l at h;cases h with
 |nil=>simp at he
 | @snoc es' s0 s' Fi v' an h hv st=>
  obtain⟨rfl,hv'⟩:=List.append_inj' he rfl;cases hv';exact⟨s0,Fi,an,h,hv,st,rfl⟩
theorem bk.one{es:List Ev}{s1 s2:St}{abW N8:List An}(h1:bk es s1 abW)(h2:bk es s2 N8):s1=s2∧abW=N8:=by
 induction h1 generalizing s2 N8 with
 |nil=>
  generalize he:([]:List Ev)=l at h2;cases h2 with
  |nil=>exact⟨rfl,rfl⟩
  |snoc=>simp at he
 |snoc h hv st ih=>
  obtain⟨s0,Fi,an,h3,_,st2,rfl⟩:=h2.last;obtain⟨rfl,rfl⟩:=ih h3;obtain⟨rfl,rfl,_⟩:=st.Yi h.wf st2;exact⟨rfl,rfl⟩
theorem bk.take{es:List Ev}{s:St}{bw:List An}(h:bk es s bw):∀k,k≤es.length→∃s0,bk (es.take k) s0 (bw.take k):=by
 induction h with
 |nil=>intro k _;exact⟨St.zero,by simpa using bk.nil⟩
 | @snoc es s s' bw v an h hv st ih=>
  intro k hk;have hl:bw.length=es.length:=by
   clear ih st hk
   induction h with
   |nil=>rfl
   |snoc _ _ _ ih=>simp[ih]
  rcases AA es.length k with h1|h1
  ·obtain rfl:k=(es++[v]).length:=by simp at hk⊢;omega
   refine⟨s', ?_⟩;rw[Bh,AJ (by simp;omega)];exact .snoc h hv st
  ·obtain⟨s0,h0⟩:=ih k h1;refine⟨s0, ?_⟩;rw[List.take_append_of_le_length h1,List.take_append_of_le_length (by omega)];exact h0
theorem bk.step{es:List Ev}{s:St}{bw:List An}(h:bk es s bw){k:Nat}(hk:k<es.length){s0:St}{a0:List An}(h0:bk (es.take k) s0 a0):∃s1 an,Step s0 es[k] s1 an true∧es[k].Ok:=by
 obtain⟨s1,h1⟩:=h.take (k+1) hk;rw[Bf hk]at h1;obtain⟨s2,N8,an,h2,hv,st,_⟩:=h1.last;obtain⟨rfl,_⟩:=h2.one h0;exact⟨s1,an,st,hv⟩
theorem lL:∀(es:List Ev) (i:Nat) (h:i<es.length) (j:Nat),j<6→(ai es).getD (6*i+j) 0=(aX es[i]).getD j 0
 |[],_,h,_,_=>absurd h (AH _)
 |v::es,0,_,j,hj=>by
  have hl:(aX v).length=6:=rfl;show(aX v++ai es).getD (6*0+j) 0=_;rw[Nat.mul_zero,Ae,cW _ _ _ (by omega)];rfl
 |v::es,i+1,h,j,hj=>by
  have hl:(aX v).length=6:=rfl;show(aX v++ai es).getD (6*(i+1)+j) 0=_;rw[show 6*(i+1)+j=6+(6*i+j) by omega,cQ _ _ _ 6 hl,lL es i (by simpa using h) j hj];rfl
section
open Go.ChangeShapes Go.WideShapes Go.ChangeAt
section
variable{H:Type}{enc:TypeId×Value→H}{P:tY}{W:tA}{base:Nat}{sp:tQ}{held:Bool}
def Ints(cs:tM):Prop:=∃zs:List Int,cs=zs.map (Value.int .i64)∧∀z∈zs,(Lit.int .i64 z).wf=true
theorem Ints.nil:Ints []:=⟨[],rfl,by simp⟩
theorem Ints.app{a b:tM}(ha:Ints a)(hb:Ints b):Ints (a++b):=by
 obtain⟨x,rfl,hx⟩:=ha;obtain⟨y,rfl,hy⟩:=hb;refine⟨x++y,by simp, ?_⟩;intro z hz;rcases Ao.1 hz with h|h
 ·exact hx z h
 ·exact hy z h
theorem pP{t:tZ}{fuel:Nat}{cs:tM}{x:DataW H×List MemPlace}(ht:P.underlying t=some (.int .i64))(h:DataW.trod enc P W base sp held fuel t cs=some x):Ints cs:=by
 obtain⟨n,rfl,_,hw⟩:=DataW.trod_int ht h;exact⟨[n],rfl,by simpa using hw⟩
theorem Kf(cs:tM)(o n:Nat):cs.drop o=(cs.drop o).take n++cs.drop (o+n):=by
 rw[←List.drop_drop];exact(BN n (cs.drop o)).symm
theorem np{cs:tM}{o n:Nat}(h1:Ints ((cs.drop o).take n))(h2:Ints (cs.drop (o+n))):Ints (cs.drop o):=by
 rw[Kf cs o n];exact h1.app h2
theorem Rx{cs:tM}{o:Nat}(h:cs.length≤o):Ints (cs.drop o):=by
 rw[Ca h];exact Ints.nil
end
theorem lN:Tryz.prog.cellsOf 3=1:=by kernel_rfl
end
structure Bx(wx:tA)(B:Nat)(s:St)(a1:tB)(c1:Nat)(a2:tB)(c2:Nat)(ws:tD):Prop where
 q:aV wx B s.ep s.nx s.gv (.slice a1 s.rn c1) (.slice a2 s.ln c2) ws
 r1:RowK .i64 wx a1 (2*s.rn) s.R
 r2:RowK .i64 wx a2 (4*s.ln) s.L
 n1:a1=none→c1=0
 n2:a2=none→c2=0
 GM:gN ws s.wt s.wz
theorem ae1{w wx wy wz:tA}{s:St}{a1:tB}{c1:Nat}{a2:tB}{c2:Nat}{ws:tD}(c he no bd:Int)(r1:RowK .i64 wx a1 (2*s.rn) s.R)(r2:RowK .i64 wx a2 (4*s.ln) s.L)(n1:a1=none→c1=0)(n2:a2=none→c2=0)(hW:gN ws s.wt s.wz)(cP:bZ w wx)
  (b:bZ wx wy) (hN:wx.heap.size<wy.heap.size) (t:av wx.heap.size (wy.alloc (.cells #[iV 0,iV 0,iV 0,iV 0] 59)) wz) (q:aV wz wx.heap.size s.ep s.nx s.gv (.slice a1 s.rn c1) (.slice a2 s.ln c2) ws):
  ∃W,W=(((wz.setCell ⟨wy.heap.size,0,none⟩ (iV c)).setCell ⟨wy.heap.size,1,none⟩ (iV he)).setCell ⟨wy.heap.size,2,none⟩ (iV no)).setCell ⟨wy.heap.size,3,none⟩ (iV bd)∧Bx W wx.heap.size s a1 c1 a2 c2 ws∧aQ W wy.heap.size c he no bd∧bZ wx W∧bZ w W:=by
 have y:=aQ.new wy 0 0 0 0;have y1:=y.dC t (by omega);have b1:Below wx.heap.size wx (wy.alloc (.cells #[iV 0,iV 0,iV 0,iV 0] 59)):=Below.next b (aA _ _);have b2:=t.under b1 (Aa _);have t2:=gl wz wy.heap.size c he no bd;have b3:=t2.under b2 (by omega);exact⟨_,rfl,⟨t2.queue q (by omega),r1.below b3,r2.below b3,n1,n2,hW⟩,y1.store _ _ _ _,b3,Below.next cP b3⟩
theorem Fi{wx wy wz:tA}(hN:wx.heap.size<wy.heap.size)(t:av wx.heap.size (wy.alloc (.cells #[iV 0,iV 0,iV 0,iV 0] 59)) wz):aQ wz wy.heap.size 0 0 0 0:=(aQ.new wy 0 0 0 0).dC t (by omega)
def pQ(ep nx gv:Int)(r l:tK)(ws:tD)(c he no bd:Int)(tail:tM):List Value:=kV ep nx gv r l ws++([iV c,iV he,iV no,iV bd]++tail)
theorem nr(ep nx gv:Int)(r l:tK)(ws:tD):(kV ep nx gv r l ws).length=41:=by simp[kV,mO]
def dK(w:tA)(R:Nat)(T:tZ)(ep nx gv:Int)(r l:tK)(ws:tD)(c he no bd:Int)(tail:tM):Prop:=w.heap[R]? =some (.cells (pQ ep nx gv r l ws c he no bd tail).toArray T (0,0))
section
variable{w w':tA}{R:Nat}{T:tZ}{ep nx gv:Int}{r l:tK}{ws:tD}{c he no bd:Int}{tail:tM}
theorem dK.at(h:dK w R T ep nx gv r l ws c he no bd tail)(i:Nat):w.cell? ⟨R,i,none⟩=(pQ ep nx gv r l ws c he no bd tail)[i]? :=by
 unfold dK at h;simp[World.cell?,h]
theorem dK.lt(h:dK w R T ep nx gv r l ws c he no bd tail):R<w.heap.size:=by
 unfold dK at h;rcases AA R w.heap.size with h'|h'
 ·exact h'
 ·simp[Array.getElem?_eq_none h']at h
theorem dK.next(h:dK w R T ep nx gv r l ws c he no bd tail)(hb:bZ w w'):dK w' R T ep nx gv r l ws c he no bd tail:=by
 have:=h.lt;unfold dK at h⊢;rw[←h];exact hb.block R this
theorem Ry(j:Nat)(hj:j<41):(pQ ep nx gv r l ws c he no bd tail)[j]? =(kV ep nx gv r l ws)[j]? :=by
 unfold pQ;rw[AD (by rw[nr];exact hj)]
theorem Rz(j:Nat):(pQ ep nx gv r l ws c he no bd tail)[41+j]? =([iV c,iV he,iV no,iV bd]++tail)[j]? :=by
 unfold pQ;rw[AE (by rw[nr];omega),nr,BU]
theorem dK.range(h:dK w R T ep nx gv r l ws c he no bd tail):w.rangeAt R 0 (kV ep nx gv r l ws):=fun j v hv=>by
 have hj:j<41:=by
  have:=(Am.1 hv).1;rwa [nr]at this
 rw[Ae,h.at,Ry j hj];exact hv
theorem dK.more{x:tK}{tl:tM}(h:dK w R T ep nx gv r l ws c he no bd (x::tl)):w.cell? ⟨R,45,none⟩=some x:=(h.at (41+4)).trans (Rz 4)
end
section
open Rv
structure Tg(w:tA)(R:Nat)(T:tZ)(tail:tM)(s:St)(an:An):Prop where
 ex:∃a1 c1 a2 c2 ws,dK w R T s.ep s.nx s.gv (.slice a1 s.rn c1) (.slice a2 s.ln c2) ws an.c an.he an.no an.bd tail∧RowK .i64 w a1 (2*s.rn) s.R∧RowK .i64 w a2 (4*s.ln) s.L∧(a1=none→c1=0)∧(a2=none→c2=0)∧gN ws s.wt s.wz∧(∀x,a1=some x→R<x.block)∧(∀x,a2=some x→R<x.block)∧s.rn≤c1∧s.ln≤c2
theorem Tg.next{w w':tA}{R:Nat}{T:tZ}{tail:tM}{s:St}{an:An}(h:Tg w R T tail s an)(b:bZ w w'):Tg w' R T tail s an:=by
 obtain⟨a1,c1,a2,c2,ws,tb,r1,r2,rest⟩:=h.ex;exact⟨a1,c1,a2,c2,ws,tb.next b,r1.below b,r2.below b,rest⟩
theorem Zr{w0 W:tA}{v:Ev}(h:W.heap[w0.heap.size]? =some (.cells #[iV v.k,iV v.p,iV v.i,iV v.b,iV v.he,iV v.hn] 55 (0,0))):
  W.cell? ⟨w0.heap.size,0,none⟩=some (iV v.k)∧W.cell? ⟨w0.heap.size,1,none⟩=some (iV v.p)∧W.cell? ⟨w0.heap.size,2,none⟩=some (iV v.i)∧W.cell? ⟨w0.heap.size,3,none⟩=some (iV v.b)∧W.cell? ⟨w0.heap.size,4,none⟩=some (iV v.he)∧W.cell? ⟨w0.heap.size,5,none⟩=some (iV v.hn):=by
 simp[World.cell?,h]
structure Tf(w:tA)(n R:Nat)(T:tZ)(tail:tM)(s:St)(an:An):Prop where
 ex:∃a1 c1 a2 c2 ws,dK w R T s.ep s.nx s.gv (.slice a1 s.rn c1) (.slice a2 s.ln c2) ws an.c an.he an.no an.bd tail∧RowK .i64 w a1 (2*s.rn) s.R∧RowK .i64 w a2 (4*s.ln) s.L∧(a1=none→c1=0)∧(a2=none→c2=0)∧gN ws s.wt s.wz∧(∀x,a1=some x→n≤x.block)∧(∀x,a2=some x→n≤x.block)∧s.rn≤c1∧s.ln≤c2
def VI(n:Nat)(s:St)(q:tD)(w:tA):Prop:=∃a1 c1 a2 c2 ws,q=qF s.ep s.nx s.gv (.slice a1 s.rn c1) (.slice a2 s.ln c2) ws∧RowK .i64 w a1 (2*s.rn) s.R∧RowK .i64 w a2 (4*s.ln) s.L∧(a1=none→c1=0)∧(a2=none→c2=0)∧gN ws s.wt s.wz∧(∀x,a1=some x→n≤x.block)∧(∀x,a2=some x→n≤x.block)∧s.rn≤c1∧s.ln≤c2
abbrev UQ(R:Nat)(T:tZ)(q:tD)(an:An)(tl:List Sg):En:=⟨R,T,.f 41 q:: .o (iV an.c):: .o (iV an.he):: .o (iV an.no):: .o (iV an.bd)::tl⟩
theorem G8{w:tA}{R:Nat}{T:tZ}{ep nx gv:Int}{r l:tK}{ws:tD}{an:An}{tail:tM}(ht:tail=[]∨∃x,tail=[x]):dK w R T ep nx gv r l ws an.c an.he an.no an.bd tail↔aY w R T (fj (UQ R T (qF ep nx gv r l ws) an (tail.map .o)).l) (cD (UQ R T (qF ep nx gv r l ws) an (tail.map .o)).l):=by
 unfold dK aY;rcases ht with rfl|⟨x,rfl⟩<;>exact Iff.rfl
theorem G9(s:St)(an:An)(v:Ev)(w0:tA)(R:Nat)(T:tZ)(tail:tM)(ok:s.Ok)(h:Tg w0 R T tail s an)(ht:tail=[]∨∃x,tail=[x]):
  cA 38 #[.pointer (some ⟨R,0,none⟩),oK v] w0 fun e w'=>∃(s':St) (qz:An) (ch:Bool) (er:Int),e= .returned (.bool ch)∧G6 s v s' qz ch er∧(ch=true→Tf w' w0.heap.size R T tail s' qz)∧(ch=false→Tg w' R T tail s an)∧Zp R w0.heap.size w0 w':=by
 obtain⟨a1,c1,a2,c2,ws,tb,r1,r2,m1,m2,hW,x1,x2,l1,l2⟩:=h.ex;have hq:aS (qF s.ep s.nx s.gv (.slice a1 s.rn c1) (.slice a2 s.ln c2) ws) 41:=(uI.mk (w:=w0) ⟨a1,c1,a2,c2,ws,rfl,r1,r2,l1,l2,m1,m2,hW⟩).one;have hS:Mem w0 (hs [UQ R T (qF s.ep s.nx s.gv (.slice a1 s.rn c1) (.slice a2 s.ln c2) ws) an (tail.map .o)]) (fun _=>False) (fun w=>RowK .i64 w a1 (2*s.rn) s.R∧RowK .i64 w a2 (4*s.ln) s.L) (fun w'=>dm (fun b=>b=R) w0 w'):=by
  have:=Mem.begin (w:=w0) (H:=hs [UQ R T (qF s.ep s.nx s.gv (.slice a1 s.rn c1) (.slice a2 s.ln c2) ws) an (tail.map .o)]) (M:=fun _=>False) (G:=fun w=>RowK .i64 w a1 (2*s.rn) s.R∧RowK .i64 w a2 (4*s.ln) s.L) (fun e he=>by cases Ab.1 he;exact(G8 ht).1 tb) (BH _ _) (fun _ _=>id) (fun _ h=>h.elim) fun w' c=> ?_
  ·exact⟨this.ik,this.ov,this.off,this.mlt,this.g,fun w' c=>c.mono fun b hb=>Ab.1 hb⟩
  ·have key:∀x:Addr,R<x.block→¬(x.block∈(hs [UQ R T (qF s.ep s.nx s.gv (.slice a1 s.rn c1) (.slice a2 s.ln c2) ws) an (tail.map .o)]).map bU.a∨False):=fun x hx k=>k.elim (fun k=>by have e:x.block=R:=Ab.1 k;omega) id;exact⟨mG r1 c fun x hx _=>key x (x1 x hx),mG r2 c fun x hx _=>key x (x2 x hx)⟩
 have off:∀{w'},dm (fun b=>b=R) w0 w'→Zp R w0.heap.size w0 w':=fun c=>⟨c.os,c.tape,c.output,c.size,fun X hX hB=>c.block X hX hB⟩;have same:∀{w' H},Mem w' (hs (UQ R T (qF s.ep s.nx s.gv (.slice a1 s.rn c1) (.slice a2 s.ln c2) ws) an (tail.map .o)::H)) (fun _=>False) (fun w=>(RowK .i64 w a1 (2*s.rn) s.R∧RowK .i64 w a2 (4*s.ln) s.L)) (fun w'=>dm (fun b=>b=R) w0 w')→Tg w' R T tail s an:=fun hS=>⟨a1,c1,a2,c2,ws,(G8 ht).2 (hS.at 0 rfl),hS.now.1.1,hS.now.1.2,m1,m2,hW,x1,x2,l1,l2⟩;have doc:∀w,w0.heap.size≤w.heap.size→RowK .i64 w a1 (2*s.rn) s.R→RowK .i64 w a2 (4*s.ln) s.L→cA 36 #[vF (qF s.ep s.nx s.gv (.slice a1 s.rn c1) (.slice a2 s.ln c2) ws) 41,oK v] w fun x w'=>∃y:St×An×Bool×Int×(Nat→Value),x= .returned (.tuple #[vF y.2.2.2.2 41,GY y.2.1,.bool y.2.2.1,iV y.2.2.2.1])∧bZ w w'∧(G6 s v y.1 y.2.1 y.2.2.1 y.2.2.2.1∧aS y.2.2.2.2 41)∧∀U:Nat→Prop,(∀b,U b→b<w.heap.size)→bV U w' (VI w0.heap.size y.1 y.2.2.2.2):=fun w hz r1 r2=>by
  rw[←qy];refine(Rq s a1 a2 c1 c2 ws v w r1 r2 m1 m2 hW ok).mono ?_;rintro _ w' ⟨s',qz,ch,er,x,rfl,hd,ho,hb⟩;obtain⟨b1,d1,b2,d2,ws',rfl,g1,g2,g3,g4,g5,g6,g7,g8,g9⟩:=ho.ex;exact⟨(s',qz,ch,er,qF s'.ep s'.nx s'.gv (.slice b1 s'.rn d1) (.slice b2 s'.ln d2) ws'),by rw[qy],hb,⟨hd,(uI.mk (w:=w') ⟨b1,d1,b2,d2,ws',rfl,g1,g2,g3,g4,g5,g6,g7⟩).one⟩,fun U hU w2 CA=>⟨b1,d1,b2,d2,ws',rfl,bW g1 g8 hU w2 CA,bW g2 g9 hU w2 CA,g5,g6,g7,fun x hx=>AN hz (g8 x hx),fun x hx=>AN hz (g9 x hx),g3,g4⟩⟩
 rcases id ht with rfl|⟨x,rfl⟩
 case' inl=>let tl:List Sg:=[]
 case' inr=>let tl:List Sg:=[.o x]
 all_goals
  refine en (H:=[UQ R T (qF s.ep s.nx s.gv (.slice a1 s.rn c1) (.slice a2 s.ln c2) ws) an tl]) 34 [vp 0 0 R,vg (Zq v)] Tryz.func38 rfl rfl hS (r [] rfl fun α=> ?_);refine cut (X:=(Nat×Nat)×(St×An×Bool×Int×(Nat→Value))) (fun x=>[(0,vp 0 0 R),(5,vp 1 0 x.1.1),(6,vp 2 0 x.1.2),(7,vv (.bool x.2.2.2.1)),(8,vi x.2.2.2.2.1)]) (fun x=>[UQ R T (qF s.ep s.nx s.gv (.slice a1 s.rn c1) (.slice a2 s.ln c2) ws) an tl,⟨x.1.1,80,[.f 41 x.2.2.2.2.2]⟩,⟨x.1.2,59,Qn x.2.2.1⟩]) (fun _ _=>False) (fun x w=>(RowK .i64 w a1 (2*s.rn) s.R∧RowK .i64 w a2 (4*s.ln) s.L)∧VI w0.heap.size x.2.1 x.2.2.2.2.2 w) (fun _ w'=>dm (fun b=>b=R) w0 w') (fun x=>G6 s v x.2.1 x.2.2.1 x.2.2.2.1 x.2.2.2.2.1∧aS x.2.2.2.2.2 41) ?_ (r [4] rfl fun _=> ?_)
  case refine_2=>
   repeat' first|refine ER ?_ ?_|refine fk3 ?_ ?_ ?_|(refine cx rfl (fun y:St×An×Bool×Int×(Nat→Value)=>vt [.g [.f 41 y.2.2.2.2],.g (Qn y.2.1),.o (.bool y.2.2.1),.o (iV y.2.2.2.1)]) (fun y=>G6 s v y.1 y.2.1 y.2.2.1 y.2.2.2.1∧aS y.2.2.2.2 41) (fun y=>VI w0.heap.size y.1 y.2.2.2.2) ?_ fun y hy=> ?_;exact fun w hS=>(doc w hS.now.2.size hS.now.1.1 hS.now.1.2).mono fun _ _ ⟨y,h1,h2,h3,h4⟩=>⟨y,h1,h2,h3,h4 _⟩;have hy2:=hy.2)|refine rs [] rfl rfl fun _=> ?_
   all_goals first|exact b_ ((_,_),y) ⟨rfl,rfl,rfl,rfl,rfl,trivial⟩ (fun w hS=>hS.JG [0,2,3] (by decide)) hy Bi|exact b_ ((_,_),y) ⟨rfl,rfl,rfl,rfl,rfl,trivial⟩ (fun w hS=>hS.JG [0,3,2] (by decide)) hy Bi
  rintro f ⟨⟨b5,b6⟩,s',qz,ch,er,q'⟩ ⟨hd,o'⟩;have hd:G6 s v s' qz ch er:=hd;have o':aS q' 41:=o';rcases hd.err with rfl|⟨G_,rfl⟩
  case inr=>exact r [1] rfl fun _=>fin fun w hS=>⟨s',qz,false,er,rfl,hd,fun h=>(by cases h),fun _=>same (hS.said fun _ h=>h.1),off hS.now.2⟩
  cases ch
  ·exact r [0] rfl fun _=>fin fun w hS=>⟨s',qz,false,0,rfl,hd,fun h=>(by cases h),fun _=>same (hS.said fun _ h=>h.1),off hS.now.2⟩
  ·refine r [0,5,0,6] rfl fun _=> ?_
   repeat' first|refine ER ?_ ?_|refine rs [] rfl rfl fun _=> ?_
   all_goals exact fin fun w hS=>⟨s',qz,true,0,rfl,hd,fun _=>(by
    obtain⟨b1,d1,b2,d2,ws',rfl,g⟩:VI w0.heap.size s' q' w:=hS.now.1.2;exact⟨b1,d1,b2,d2,ws',(G8 ht).2 (hS.at 0 rfl),g⟩),fun h=>(by cases h),off hS.now.2⟩
theorem RB(s:St)(an:An)(v:Ev)(w0:tA)(R:Nat)(T:tZ)(tail:tM)(ok:s.Ok)(h:Tg w0 R T tail s an)(ht:tail=[]∨∃x,tail=[x]):
  cA 38 #[.pointer (some ⟨R,0,none⟩),oK v] w0 fun e w'=>∃(s':St) (qz:An) (ch:Bool) (er:Int),e= .returned (.bool ch)∧G6 s v s' qz ch er∧(ch=true→Tg w' R T tail s' qz)∧(ch=false→Tg w' R T tail s an)∧Zp R w0.heap.size w0 w':=by
 refine(G9 s an v w0 R T tail ok h ht).mono ?_;rintro _ w' ⟨s',qz,ch,er,rfl,hd,h1,h2,o⟩;obtain⟨_,_,_,_,_,tb,_⟩:=h.ex;refine⟨s',qz,ch,er,rfl,hd,fun hc=> ?_,h2,o⟩;obtain⟨a1,c1,a2,c2,ws,t,r1,r2,m1,m2,hW,x1,x2,l⟩:=(h1 hc).ex;exact⟨a1,c1,a2,c2,ws,t,r1,r2,m1,m2,hW,fun x hx=>Aj tb.lt (x1 x hx),fun x hx=>Aj tb.lt (x2 x hx),l⟩
end
structure xZ(g:Nat)(recv:tK)(es:List Ev)(I:Nat→World→Prop)(J:tJ):Prop where
 enters:∀args w,(callFunc g args).run Tryz.prog w= .ok (.enter g args) w
 step:∀k (hk:k<es.length) (W:tA),I k W→cA g #[recv,oK es[k]] W fun e w'=>(e= .returned (.bool true)∧I (k+1) w')∨(e= .returned (.bool false)∧J w')
 keep:∀k (W W':tA),I k W→bZ W W'→I k W'
theorem Ha(g:Nat)(R:Nat)(es:List Ev)(I:Nat→World→Prop)(J:tJ)(sp:xZ g (.pointer (some ⟨R,0,none⟩)) es I J)(a:tB)(cap:Nat)(w:tA)(h0:I 0 w)(hl:es.length≤2000)
  (db:∀k W,I k W→RowK .i64 W a (6*es.length) (ai es)):
  cA 37 #[.slice a es.length cap,.func (.func g) #[.pointer (some ⟨R,0,none⟩)] #[]] w fun e w'=>(e= .returned (iV 0)∧I es.length w')∨(e= .returned (iV 3)∧J w'):=by
 have Yj:=sp.enters;go_enter Tryz.func37,Tryz.ntmps37
 go_upto_region 4 with fail
 go_loopw [12] (fun i wr=>∃k:Nat,k≤es.length∧i=iV k∧I k wr) (fun i _=>es.length-(intOf i).toNat)
 case atStart=>exact⟨0,Ak _,rfl,h0⟩
 case round=>
  obtain⟨k,hk,rfl,hI⟩:=hrel;by_cases aM:k<es.length
  ·have hr:=db k wr hI;obtain⟨b,off,rfl⟩:=hr.form (by omega);obtain⟨x0,x1,x2,x3,x4,x5⟩:=hr.six k aM;have ea:∀t,t<6→(ai es).getD (6*k+t) 0=(aX es[k]).getD t 0:=fun t ht=>lL es k aM t ht;rw[show 6*k=6*k+0 from rfl,ea 0 (by omega)]at x0;rw[ea 1 (by omega)]at x1;rw[ea 2 (by omega)]at x2;rw[ea 3 (by omega)]at x3;rw[ea 4 (by omega)]at x4;rw[ea 5 (by omega)]at x5;have HSt:=fun W hW=>sp.step k aM W hW;obtain⟨v,hv⟩:∃v,v=es[k]:=⟨_,rfl⟩;rw[←hv]at x0 x1 x2 x3 x4 x5 HSt;simp only[aX,List.getD_cons_zero,List.getD_cons_succ]at x0 x1 x2 x3 x4 x5;have HI:Hid (∀W,bZ wr W→I k W):=ah fun W b=>sp.keep k wr W hI b;have HS:=ah HSt;clear hr ea hv HSt hI
   go_upto_region 6 with fail
   obtain⟨W1,hW1,b1,e1⟩:∃W1,W1=wr.alloc (.cells #[iV v.k,iV v.p,iV v.i,iV v.b,iV v.he,iV v.hn] 55)∧bZ wr W1∧W1.heap[wr.heap.size]? =some (.cells #[iV v.k,iV v.p,iV v.i,iV v.b,iV v.he,iV v.hn] 55 (0,0)):=⟨_,rfl,aA _ _,AQ _ _⟩;rw[←hW1];obtain⟨v0,v1,v2,v3,v4,v5⟩:=Zr e1
   have HC:cA g #[.pointer (some ⟨R,0,none⟩),oK v] W1 fun e w'=>∃ch:Bool,e= .returned (.bool ch)∧Hid ((ch=true→I (k+1) w')∧(ch=false→J w')):=(aa HS W1 (aa HI W1 b1)).mono (by
    rintro e w' (⟨rfl,h1⟩|⟨rfl,h1⟩)
    ·exact⟨true,rfl,ah ⟨fun _=>h1,fun h=>(by cases h)⟩⟩
    ·exact⟨false,rfl,ah ⟨fun h=>(by cases h),fun _=>h1⟩⟩)
   clear hW1 b1 e1 x0 x1 x2 x3 x4 x5
   go_wp2_with (go_at_fn g;refine HC.mono ?_;rintro e W2 ⟨ch,rfl,HCh⟩;clear HC v0 v1 v2 v3 v4 v5)
   ·go_ret;exact .inr ⟨rfl,(aa HCh).2 (by cases ch<;>simp_all)⟩
   ·refine⟨⟨k+1,by omega,by go_num,(aa HCh).1 (by cases ch<;>simp_all)⟩,by simp[intOf];omega⟩
  ·obtain rfl:k=es.length:=by omega
   have HI:=ah hI;clear hI;go_wp2;go_ret;exact .inl ⟨rfl,aa HI⟩
abbrev L4:Array Value:= #[iV 0,iV 0,iV 0,.slice none 0 0,.slice none 0 0,iV 0,.bool false,.bool false,.bool false,.bool false,.bool false,.bool false,.bool false,.bool false,iV 0,.bool false,.bool false,.bool false,.bool false,.bool false,.bool false,.bool false,.bool false,iV 0,.bool false,.bool false,.bool false,.bool false,.bool false,.bool false,.bool false,.bool false,iV 0,.bool false,.bool false,.bool false,.bool false,.bool false,.bool false,.bool false,.bool false,iV 0,iV 0,iV 0,iV 0]
theorem abX:L4=(pQ 0 0 0 (.slice none 0 0) (.slice none 0 0) eP 0 0 0 0 []).toArray:=rfl
theorem VJ{w W:tA}{T:tZ}(h:W=w.alloc (.cells L4 T)):Tg W w.heap.size T [] St.zero An.zero∧bZ w W:=by
 subst h;refine⟨⟨none,0,none,0,eP, ?_,RowK.nil _ _ _,RowK.nil _ _ _,fun _=>rfl,fun _=>rfl,jE,fun x hx=>(by cases hx),fun x hx=>(by cases hx),Aa _,Aa _⟩,aA _ _⟩;unfold dK;rw[AQ,abX];rfl
theorem VK{ops:tP}{rest:List Oper}{o:Oper}{a:Act}{Q:tI}{w:tA}(d:Nat)(ho:o.op= .alloc 103)(hd:o.dst=some d)(hw:Region.wanted o (yielded ops a.tmps)=true)
  (h:∀w',Tg w' w.heap.size 103 [] St.zero An.zero→bZ w w'→wpList Tryz.prog ops Q rest (a.put (some d) (.pointer (some ⟨w.heap.size,0,none⟩))) w'):wpList Tryz.prog ops Q (o::rest) a w:=
 Bm fun K hK=>by
  rw[if_pos hw];obtain⟨z1,z2⟩:=VJ (w:=w) (T:=103) rfl;have:=hK _ _ (h _ z1 z2);rw[←hd]at this;unfold Oper.wp;simp only[execOp,ho];simpa[go_sem]using this
theorem RC{ops:tP}{rest:List Oper}{o:Oper}{a:Act}{Q:tI}{w:tA}{R:Nat}{T:tZ}{ep nx gv:Int}{r l:tK}{ws:tD}{c he no bd:Int}{tail:tM}(x:tU)(ho:o.op= .load 80 x)(hw:Region.wanted o (yielded ops a.tmps)=true)(hx:a.eval x= .pointer (some ⟨R,0,none⟩))(tb:dK w R T ep nx gv r l ws c he no bd tail)
  (h:wpList Tryz.prog ops Q rest (a.put o.dst (iF ep nx gv r l ws)) w):wpList Tryz.prog ops Q (o::rest) a w:=
 Bm fun K hK=>by
  rw[if_pos hw];exact wp_load_mid 80 x ho R 0 hx (kV ep nx gv r l ws) _ tb.range Tryz.underlying80 rfl (by rw[nr];kernel_rfl) (hK _ _ h)
theorem x_{W:tA}{Z:Nat}{ep nx gv:Int}{r l:tK}{ws:tD}{er:Int}{tmps:tR}(q:aV W Z ep nx gv r l ws)(t2:tmps[2]? =some (.pointer (some ⟨Z,0,none⟩)))(t3:tmps[3]? =some (iV er)):
  (results Tryz.f27 tmps).run Tryz.prog W= .ok (.tuple #[iF ep nx gv r l ws,iV er]) W:=by
 have h1:=run_loadVar_row (P:=Tryz.prog) W Z 80 80 _ (0,0) _ q Tryz.underlying80 rfl (by rw[cT];exact Tryz.LU);simp[results,Tryz.results27,t2,t3,asAddr,h1]
theorem ya(w:tA):(Instr.build 80 #[]).run Tryz.prog w= .ok (iF 0 0 0 (.slice none 0 0) (.slice none 0 0) eP) w:=by
 simp[Instr.build,run_underlying Tryz.underlying80,Tryz.zeroValue80,go_sem];rfl
theorem yb{ops:tP}{rest:List Oper}{o:Oper}{a:Act}{Q:tI}{w:tA}(ho:o.op= .build 80 #[])(hw:Region.wanted o (yielded ops a.tmps)=true)
  (h:wpList Tryz.prog ops Q rest (a.put o.dst (iF 0 0 0 (.slice none 0 0) (.slice none 0 0) eP)) w):wpList Tryz.prog ops Q (o::rest) a w:=
 Bm fun K hK=>by
  rw[if_pos hw];have rT:=ya w;have:=hK _ _ h;unfold Oper.wp;simp only[execOp,ho];simp only[List.map_toArray,List.map_nil];simp[rT,Result.andThen];exact this
structure Rp(w:tA)(Z R:Nat)(T:tZ)(tail:tM)(es:List Ev)(k:Nat)(W:tA):Prop where
 told:∃s bw an,bk (es.take k) s bw∧Tg W R T tail s an
 box:aV W Z 0 0 0 (.slice none 0 0) (.slice none 0 0) eP
 cP:bZ w W
 upZ:w.heap.size≤Z
 upR:Z<R
def L5(es:List Ev):Prop:=∃k s bw,∃hk:k<es.length,bk (es.take k) s bw∧(¬es[k].Ok∨∃s' an,Step s es[k] s' an false)
structure Rj(w:tA)(Z:Nat)(es:List Ev)(W:tA):Prop where
 stuck:L5 es
 box:aV W Z 0 0 0 (.slice none 0 0) (.slice none 0 0) eP
 cP:bZ w W
theorem Zp.toBelow{R n:Nat}{w W W':tA}(o:Zp R n W W')(b:bZ w W)(hR:w.heap.size≤R)(hn:n=W.heap.size):bZ w W':=
 ⟨o.os.trans b.os,o.tape.trans b.tape,o.output.trans b.output,AN b.size o.size,fun k hk=>(o.block k (by have:=b.size;omega) (by omega)).trans (b.block k hk)⟩
theorem Zp.ae3{R n Z:Nat}{W W':tA}{ep nx gv:Int}{r l:tK}{ws:tD}(o:Zp R n W W')(q:aV W Z ep nx gv r l ws)(hZ:Z≠R)(hn:n=W.heap.size):aV W' Z ep nx gv r l ws:=by
 have:=q.lt;unfold aV at q⊢;rw[o.block Z (by omega) hZ];exact q
theorem N9(w:tA)(Z R:Nat)(T:tZ)(es:List Ev):xZ 38 (.pointer (some ⟨R,0,none⟩)) es (Rp w Z R T [] es) (Rj w Z es) where
 enters:=enters_of Tryz.func38 (by kernel_rfl) rfl
 step:=by
  intro k hk W hI;obtain⟨s,bw,an,ht,hg⟩:=hI.told;refine(RB s an es[k] W R T [] ht.wf.ok hg (.inl rfl)).mono ?_;rintro e w' ⟨s',qz,ch,er,rfl,st,h1,h2,o⟩;have hZR:=hI.upR;have cP:=o.toBelow hI.cP (by have:=hI.upZ;omega) rfl;have box:=o.ae3 hI.box (by omega) rfl;cases st with
  | @step _ _ _ hv st=>
   cases ch with
   |true=>
    refine .inl ⟨rfl,⟨s',bw++[qz],qz, ?_,h1 rfl⟩,box,cP,hI.upZ,hI.upR⟩;rw[Bf hk];exact .snoc ht hv st
   |false=>exact .inr ⟨rfl,⟨k,s,bw,hk,ht,.inr ⟨s',qz,st⟩⟩,box,cP⟩
  |form _ hv h0=>exact .inr ⟨rfl,⟨k,s,bw,hk,ht,.inl (fun eC=>h0 (hv.symm.trans eC))⟩,box,cP⟩
 keep:=by
  intro k W W' hI b;obtain⟨s,bw,an,ht,hg⟩:=hI.told;exact⟨⟨s,bw,an,ht,hg.next b⟩,hI.box.next b,Below.next hI.cP b,hI.upZ,hI.upR⟩
inductive Rv(es:List Ev):St→Int→Prop
 |size (h:2000<es.length):Rv es St.zero 1
 |form (h:es.length≤2000) (bad:L5 es):Rv es St.zero 3
 |told {s:St} (bw:List An) (h:es.length≤2000) (ht:bk es s bw):Rv es s 0
theorem DC(g R n:Nat)(a:tB)(cap:Nat)(w:tA)(hl:2000<n):
  cA 37 #[.slice a n cap,.func (.func g) #[.pointer (some ⟨R,0,none⟩)] #[]] w (rB (iV 1) w):=by
 go_enter Tryz.func37,Tryz.ntmps37;go_wp2;go_ret;exact⟨rfl,Be _ _⟩
structure Rk(w:tA)(Z:Nat)(es:List Ev)(er:Int)(W:tA):Prop where
 why:¬er=0∧Rv es St.zero er
 box:aV W Z 0 0 0 (.slice none 0 0) (.slice none 0 0) eP
 cP:bZ w W
theorem rV(es:List Ev)(a:tB)(cap:Nat)(w:tA)(hr:RowK .i64 w a (6*es.length) (ai es)):
  cA 27 #[.slice a es.length cap] w fun e w'=>∃x er s,e= .returned (.tuple #[x,iV er])∧Rv es s er∧uH w w' s x∧bZ w w':=by
 go_enter Tryz.func27,Tryz.ntmps27
 go_upto_region 2 with(first
  |(refine sS 2 rfl rfl rfl ?_;intro W1 z1 b1)
  |(refine VK 4 rfl rfl rfl ?_;intro W2 g2 b2))
 have xQ:cA 37 #[.slice a es.length cap,.func (.func 38) #[.pointer (some ⟨W1.heap.size,0,none⟩)] #[]] W2 fun e w'=>∃er:Int,e= .returned (iV er)∧Hid ((er=0∧es.length≤2000∧Rp w w.heap.size W1.heap.size 103 [] es es.length w')∨Rk w w.heap.size es er w'):=by
  by_cases hl:es.length≤2000
  ·have I0:Rp w w.heap.size W1.heap.size 103 [] es 0 W2:=⟨⟨St.zero,[],An.zero,by simpa using bk.nil,g2⟩,z1.next b2,Below.next b1 b2,Nat.le_refl _,z1.lt⟩;refine(Ha 38 W1.heap.size es _ _ (N9 w w.heap.size W1.heap.size 103 es) a cap W2 I0 hl (fun k W hI=>hr.below hI.cP)).mono ?_;rintro e w' (⟨rfl,h1⟩|⟨rfl,h1⟩)
   ·exact⟨0,rfl,ah (.inl ⟨rfl,hl,h1⟩)⟩
   ·exact⟨3,rfl,ah (.inr ⟨⟨by decide,.form hl h1.stuck⟩,h1.box,h1.cP⟩)⟩
  ·refine(DC _ _ _ a cap W2 (by omega)).mono ?_;rintro e w' ⟨rfl,b3⟩;exact⟨1,rfl,ah (.inr ⟨⟨by decide,.size (by omega)⟩,(z1.next b2).next b3,Below.next (Below.next b1 b2) b3⟩)⟩
 clear z1 b1 g2 b2
 go_upto_region 3 with(go_at_call 37;refine xQ.mono ?_;rintro e W3 ⟨er,rfl,HH⟩;clear xQ)
 rcases aa HH with⟨rfl,hl,hI⟩|hJ
 ·obtain⟨s,bw,an,ht,hg⟩:=hI.told;rw[Bh]at ht;obtain⟨a1,c1,a2,c2,ws,tb,r1,r2,n1,n2,hW,x1,x2,l1,l2⟩:=hg.ex;have z3:=hI.box;have B3:=hI.cP;have hZR:=hI.upR;have HT:=ah ht;clear hI hg ht HH
  go_wp2_with (first
   |(refine RC _ rfl rfl rfl tb ?_)
   |(refine oI (ra:=a1) (la:=a2) (ws':=ws) _ _ rfl rfl rfl rfl z3 hW ?_;intro W4 q4 t4;have HQ4:=ah q4;have DD:=ah t4;clear q4 t4))
  have t4:=aa DD;exact Al (x_ (aa HQ4) rfl rfl) rfl ⟨_,0,s,rfl,.told bw hl (aa HT),⟨a1,c1,a2,c2,ws,rfl,t4.row r1 (fun x hx _=>by have:=x1 x hx;omega),t4.row r2 (fun x hx _=>by have:=x2 x hx;omega),l1,l2,n1,n2,hW,fun x hx=>by have:=x1 x hx;omega,fun x hx=>by have:=x2 x hx;omega⟩,t4.under B3 (Aa _)⟩
 ·have z3:=hJ.box;have B3:=hJ.cP;have h0:=hJ.why.1;have HS:=ah hJ.why.2;clear hJ HH
  go_wp2_with (first
   |(refine yb rfl rfl ?_)
   |(refine oI (ra:=none) (la:=none) (rn:=0) (rc:=0) (ln:=0) (lc:=0) (ws':=eP) _ _ rfl rfl rfl rfl z3 jE ?_;intro W4 q4 t4;have HQ4:=ah q4;have DD:=ah t4;clear q4 t4))
  have t4:=aa DD;exact Al (x_ (aa HQ4) rfl rfl) rfl ⟨_,er,St.zero,rfl,aa HS,⟨none,0,none,0,eP,rfl,RowK.nil _ _ _,RowK.nil _ _ _,Aa _,Aa _,fun _=>rfl,fun _=>rfl,jE,fun x hx=>(by cases hx),fun x hx=>(by cases hx)⟩,t4.under B3 (Aa _)⟩
theorem Zs(es:List Ev)(a:tB)(cap:Nat)(w:tA)(hr:RowK .i64 w a (6*es.length) (ai es))(hl:es.length≤2000)(eC:∀v∈es,v.Ok):
  cA 27 #[.slice a es.length cap] w fun e w'=>∃x er,e= .returned (.tuple #[x,iV er])∧bZ w w'∧
   ((er=0∧∃s bw,bk es s bw∧uH w w' s x)∨(er=3∧(∃k s bw s' an,∃hk:k<es.length,bk (es.take k) s bw∧Step s es[k] s' an false)∧uH w w' St.zero x)):=by
 refine(rV es a cap w hr).mono ?_;rintro e w' ⟨x,er,s,rfl,rv,q,b⟩;cases rv with
 |size h=>omega
 |form h bad=>
  obtain⟨k,s,bw,hk,ht,h1|⟨s',an,st⟩⟩:=bad
  ·exact absurd (eC _ (Bu hk)) h1
  ·exact⟨x,3,rfl,b,.inr ⟨rfl,⟨k,s,bw,s',an,hk,ht,st⟩,q⟩⟩
 |told bw h ht=>exact⟨x,0,rfl,b,.inl ⟨rfl,s,bw,ht,q⟩⟩
theorem bk.L6{es:List Ev}{s:St}{bw:List An}(h:bk es s bw)(bad:L5 es):False:=by
 obtain⟨k,s0,Fi,hk,ht,h1⟩:=bad;obtain⟨s1,an1,st1,hv⟩:=h.step hk ht;rcases h1 with h1|⟨s',an,st⟩
 ·exact h1 hv
 ·have:=(st1.Yi ht.wf st).2.2;cases this
theorem Rv.one{es:List Ev}{s s':Go.Proofs.YtmhifeahpnkpiaaGreatDoor.St}{er er':Int}(h:Rv es s er)(h':Rv es s' er'):s=s'∧er=er':=by
 cases h with
 |size h=>cases h' with
  |size=>exact⟨rfl,rfl⟩
  |form h2=>omega
  |told _ h2=>omega
 |form h bad=>cases h' with
  |size h2=>omega
  |form=>exact⟨rfl,rfl⟩
  |told bw h2 ht=>exact(ht.L6 bad).elim
 |told bw h ht=>cases h' with
  |size h2=>omega
  |form h2 bad=>exact(ht.L6 bad).elim
  |told N8 h2 zw=>exact⟨(ht.one zw).1,rfl⟩
theorem bk.len{es:List Ev}{s:St}{bw:List An}(h:bk es s bw):bw.length=es.length:=by
 induction h with
 |nil=>rfl
 |snoc h hv st ih=>simp[ih]
structure Bt where
 r:Int
 e:Int
 f:Int
 t:Int
 o:Int
 es:List Ev
def Bt.zero:Bt:=⟨0,0,0,0,0,[]⟩
def bB(r e f t o:Int)(n:Nat):Prop:=
 (r=0∧n=0∧0≤e∧e≤1048576∧f=0∧t=0∧o=0)∨
 (r=1∧1≤e∧e≤1048576∧f=0∧t=0∧o=0)∨
 (r=2∧1≤e∧e≤1048576∧f=0∧0≤t∧t≤4∧0≤o∧o≤4)∨
 (r=3∧1≤e∧e≤1048576∧f=0∧0≤t∧t≤4∧o=0)∨
 (r=4∧1≤e∧e≤1048576∧0≤f∧f≤4∧t=0∧o=0)
instance(r e f t o:Int)(n:Nat):Decidable (bB r e f t o n):=by unfold bB;infer_instance
def Bt.cH(B:Bt):Prop:=bB B.r B.e B.f B.t B.o B.es.length
structure Bt.Ok(B:Bt):Prop where
 cO:B.cH
 len:B.es.length≤2000
 told:∃s bw,bk B.es s bw
theorem Bt.cI:Bt.zero.Ok:=⟨.inl ⟨rfl,rfl,by decide,by decide,rfl,rfl,rfl⟩,by decide,St.zero,[],.nil⟩
theorem Rv.ok{B:Bt}{s:St}{er:Int}(h:Rv B.es s er)(hs:B.cH):er=0↔B.Ok:=by
 constructor
 ·intro h0;cases h with
  |size=>omega
  |form=>omega
  |told bw hl ht=>exact⟨hs,hl,s,bw,ht⟩
 ·intro ok;obtain⟨s',bw,ht⟩:=ok.told;exact(h.one (.told bw ok.len ht)).2
def Ev.brk:Ev:=⟨4,0,0,0,0,0⟩
theorem Ev.Fj:Ev.brk.Ok:=by
 unfold Ev.Ok Ev.brk aP;simp
open Classical in
noncomputable def dS(B:Bt)(ep:Int):Bt×Int:=
 if ¬B.Ok then(Bt.zero,6)else if ¬(1≤ep∧ep≤1048576)then(Bt.zero,2)else if ¬B.r=0 then(Bt.zero,8)else if ep≤B.e then(Bt.zero,15)else(⟨1,ep,0,0,0,[]⟩,0)
open Classical in
noncomputable def dT(B:Bt)(nd:Int):Bt×Int:=
 if ¬B.Ok then(Bt.zero,6)else if ¬(0≤nd∧nd≤4)then(Bt.zero,2)else if B.r=2∨B.r=3 then(Bt.zero,12)else if ¬B.r=1 then(Bt.zero,7)else if B.e=1048576 then(Bt.zero,14)else(⟨2,B.e,B.f,nd,B.o,B.es⟩,0)
open Classical in
noncomputable def dk(B:Bt)(hv:Int):Int:=
 if ¬B.Ok then 6 else if ¬(B.r=2∨B.r=3)then 7 else if ¬(0≤hv∧hv≤B.es.length)then 2 else 0
noncomputable def bf(B:Bt)(hv:Int):Bt×Int:=
 if ¬dk B hv=0 then(Bt.zero,dk B hv)else if B.r=3 then(B,0)else if hv=B.es.length∨B.o=4 then(⟨3,B.e,B.f,B.t,0,B.es⟩,0)else(⟨B.r,B.e,B.f,B.t,B.o+1,B.es⟩,0)
noncomputable def partOf(B:Bt)(hv:Int):List Ev×Bool×Int:=
 if ¬dk B hv=0 then([],false,dk B hv)else((B.es.drop hv.toNat).take 3,decide (B.r=3∧B.es.length≤hv.toNat+3),0)
open Classical in
noncomputable def aU(B:Bt)(ep fr:Int):Bt×Int:=
 if ¬B.Ok then(Bt.zero,6)else if ¬((1≤ep∧ep≤1048576)∧(0≤fr∧fr≤4))then(Bt.zero,2)else if B.r=1∨B.r=2∨B.r=3 then(Bt.zero,8)
 else if B.r=4∧B.e=ep∧B.f=fr then(B,0)else if ep≤B.e then(Bt.zero,15)else(⟨4,ep,fr,0,0,[]⟩,0)
open Classical in
noncomputable def bG(B:Bt)(ep:Int):Bt×Int:=
 if ¬B.Ok then(Bt.zero,6)else if ¬B.r=3 then(Bt.zero,7)else if ep≤B.e then(Bt.zero,15)else(⟨0,B.e,0,0,0,[]⟩,0)
def Bt.broken(B:Bt):Bt:=⟨1,B.e,0,0,0,B.es++[Ev.brk]⟩
def Bt.more(B:Bt)(l:List Ev):Bt:=⟨B.r,B.e,B.f,B.t,B.o,B.es++l⟩
open Classical in
noncomputable def bm(B:Bt):Bt×Int:=
 if ¬B.Ok then(Bt.zero,6)else if ¬(B.r=1∨B.r=2)then(B,0)else if ¬B.broken.Ok then(Bt.zero,14)else(B.broken,0)
def Fits(hv E3:List Ev)(last:Bool):Prop:=E3.take hv.length=hv.take E3.length∧(last=true→hv.length≤E3.length)
open Classical in
noncomputable def bj(B:Bt)(ep at':Int)(l:List Ev)(last:Bool):Bt×Int:=
 if ¬B.Ok then(Bt.zero,6)else if ¬B.r=4 then(Bt.zero,7)else if ¬B.e=ep then(Bt.zero,15)else if ¬(0≤at'∧at'≤B.es.length)then(Bt.zero,2)
 else if ¬(l.length≤2000∧Fits (B.es.drop at'.toNat) l last)then(Bt.zero,3)
 else if ¬(if last then(B.more (l.drop (B.es.length-at'.toNat))).broken else B.more (l.drop (B.es.length-at'.toNat))).Ok then(Bt.zero,3)
 else(if last then(B.more (l.drop (B.es.length-at'.toNat))).broken else B.more (l.drop (B.es.length-at'.toNat)),0)
inductive cR(B:Bt)(v:Ev):Bt→An→Bool→Int→Prop
 |state (h:¬B.Ok):cR B v Bt.zero An.zero false 6
 |fault (h:B.Ok) (f:Int) (hf:aP v.k v.p v.i v.b v.he v.hn=f) (h0:¬f=0):cR B v Bt.zero An.zero false f
 |brk (h:B.Ok) (hv:v.Ok) (hk:v.k=4):cR B v Bt.zero An.zero false 3
 |shut (h:B.Ok) (hv:v.Ok) (hk:¬v.k=4) (hr:B.r=3):cR B v B ⟨12,0,0,0⟩ false 0
 |none (h:B.Ok) (hv:v.Ok) (hk:¬v.k=4) (hr:B.r=0∨B.r=4):cR B v B ⟨7,0,0,0⟩ false 0
 |same (h:B.Ok) (hv:v.Ok) (hk:¬v.k=4) (hr:B.r=1∨B.r=2) (s:St) (bw:List An) (ht:bk B.es s bw) (s':St) (an:An) (st:Step s v s' an false):cR B v B an false 0
 |full (h:B.Ok) (hv:v.Ok) (hk:¬v.k=4) (hr:B.r=1∨B.r=2) (s:St) (bw:List An) (ht:bk B.es s bw) (s':St) (an:An) (st:Step s v s' an true) (hl:1999≤B.es.length):cR B v B ⟨14,0,0,0⟩ false 0
 |done (h:B.Ok) (hv:v.Ok) (hk:¬v.k=4) (hr:B.r=1∨B.r=2) (s:St) (bw:List An) (ht:bk B.es s bw) (s':St) (an:An) (st:Step s v s' an true) (hl:B.es.length<1999):cR B v (B.more [v]) an true 0
abbrev dp(r e f t o:Int)(a:tB)(n c:Nat):Array Value:= #[iV r,iV e,iV f,iV t,iV o,.slice a n c]
abbrev bR(r e f t o:Int)(a:tB)(n c:Nat):Value:= .agg (dp r e f t o a n c)
def aG(w:tA)(R:Nat)(r e f t o:Int)(a:tB)(n c:Nat):Prop:=w.heap[R]? =some (.cells (dp r e f t o a n c) 49 (0,0))
section
variable{w w':tA}{R:Nat}{r e f t o:Int}{a:tB}{n c:Nat}
theorem aG.cells(h:aG w R r e f t o a n c):w.cell? ⟨R,0,none⟩=some (iV r)∧w.cell? ⟨R,1,none⟩=some (iV e)∧w.cell? ⟨R,2,none⟩=some (iV f)∧w.cell? ⟨R,3,none⟩=some (iV t)∧w.cell? ⟨R,4,none⟩=some (iV o)∧w.cell? ⟨R,5,none⟩=some (.slice a n c):=by
 unfold aG at h;simp[World.cell?,h]
theorem aG.lt(h:aG w R r e f t o a n c):R<w.heap.size:=by
 unfold aG at h;rcases AA R w.heap.size with h'|h'
 ·exact h'
 ·simp[Array.getElem?_eq_none h']at h
theorem aG.below{N:Nat}(h:aG w R r e f t o a n c)(hb:Below N w w')(hR:R<N):aG w' R r e f t o a n c:=by
 unfold aG at h⊢;rw[←h];exact hb.block R hR
theorem aG.next(h:aG w R r e f t o a n c)(hb:bZ w w'):aG w' R r e f t o a n c:=h.below hb h.lt
theorem aG.free(h:aG w R r e f t o a n c)(k:Nat):w.frozen? ⟨R,k,none⟩=false:=by
 unfold aG at h;simp[World.frozen?,h]
theorem aG.dC{R':Nat}(h:aG w R r e f t o a n c)(tn:av R' w w')(hR:R≠R'):aG w' R r e f t o a n c:=by
 unfold aG at h⊢;rw[tn.block R hR];exact h
theorem aG.new(w:tA)(r e f t o:Int)(a:tB)(n c:Nat):aG (w.alloc (.cells (dp r e f t o a n c) 49)) w.heap.size r e f t o a n c:=AQ w _
theorem cE{k:Nat}{cs:tR}{T:tZ}{v:tK}(h:w.heap[R]? =some (.cells cs T (0,0))):(w.setCell ⟨R,k,none⟩ v).heap[R]? =some (.cells (cs.set! k v) T (0,0)):=by
 rw[Cn w R k _ _ (0,0) _ h,setRow_heap w R _ _ _ _ h];rfl
abbrev RD(w:tA)(R:Nat)(r e f t o:Int)(a:tB)(n c:Nat):World:=(((((w.setCell ⟨R,0,none⟩ (iV r)).setCell ⟨R,1,none⟩ (iV e)).setCell ⟨R,2,none⟩ (iV f)).setCell ⟨R,3,none⟩ (iV t)).setCell ⟨R,4,none⟩ (iV o)).setCell ⟨R,5,none⟩ (.slice a n c)
theorem aG.store(h:aG w R r e f t o a n c)(r' e' f' t' o':Int)(a':tB)(n' c':Nat):aG (RD w R r' e' f' t' o' a' n' c') R r' e' f' t' o' a' n' c':=by
 unfold aG at h⊢;rw[cE (cE (cE (cE (cE (cE h)))))];simp
theorem aG.turn(w:tA)(R:Nat)(r e f t o:Int)(a:tB)(n c:Nat):av R w (RD w R r e f t o a n c):=
 (((((av.set R 0 w _).trans (av.set R 1 _ _)).trans (av.set R 2 _ _)).trans (av.set R 3 _ _)).trans (av.set R 4 _ _)).trans (av.set R 5 _ _)
end
structure jb(w:tA)(B:Bt)(a:tB)(c:Nat):Prop where
 row:RowK .i64 w a (6*B.es.length) (ai B.es)
 cap:B.es.length≤c
 nil:a=none→c=0
theorem jb.next{w w':tA}{B:Bt}{a:tB}{c:Nat}(h:jb w B a c)(b:bZ w w'):jb w' B a c:=⟨h.row.below b,h.cap,h.nil⟩
structure iu(w w':tA)(B:Bt)(x:tK):Prop where
 ex:∃a c,x=bR B.r B.e B.f B.t B.o a B.es.length c∧jb w' B a c∧(∀x,a=some x→w.heap.size≤x.block)
theorem iu.zero(w w':tA):iu w w' Bt.zero (bR 0 0 0 0 0 none 0 0):=⟨none,0,rfl,⟨RowK.nil _ _ _,Aa _,fun _=>rfl⟩,fun x hx=>by cases hx⟩
theorem d_(x m:Int)(w:tA):cA 211 #[iV x,iV m] w fun e w'=>e= .returned (.bool (decide (0≤x∧x≤m)))∧w'=w:=by
 by_cases h1:0≤x
 ·by_cases h2:x≤m
  ·rw[Aq (show 0≤x∧x≤m from⟨h1,h2⟩)];go_enter Tryz.func211,Tryz.ntmps211;go_wp2;go_ret;exact⟨rfl,rfl⟩
  ·rw[Ai (show ¬(0≤x∧x≤m) from fun h=>h2 h.2)];go_enter Tryz.func211,Tryz.ntmps211;go_wp2;go_ret;exact⟨rfl,rfl⟩
 ·rw[Ai (show ¬(0≤x∧x≤m) from fun h=>h1 h.1)];go_enter Tryz.func211,Tryz.ntmps211;go_wp2;go_ret;exact⟨rfl,rfl⟩
theorem kz(x:Int)(w:tA):cA 178 #[iV x] w fun e w'=>e= .returned (.bool (decide (1≤x∧x≤1048576)))∧w'=w:=by
 by_cases h1:1≤x
 ·by_cases h2:x≤1048576
  ·rw[Aq (show 1≤x∧x≤1048576 from⟨h1,h2⟩)];go_enter Tryz.func178,Tryz.ntmps178;go_wp2;go_ret;exact⟨rfl,rfl⟩
  ·rw[Ai (show ¬(1≤x∧x≤1048576) from fun h=>h2 h.2)];go_enter Tryz.func178,Tryz.ntmps178;go_wp2;go_ret;exact⟨rfl,rfl⟩
 ·rw[Ai (show ¬(1≤x∧x≤1048576) from fun h=>h1 h.1)];go_enter Tryz.func178,Tryz.ntmps178;go_wp2;go_ret;exact⟨rfl,rfl⟩
theorem gE(x:Int)(w:tA):cA 184 #[iV x] w fun e w'=>e= .returned (.bool (decide (0≤x∧x≤4)))∧w'=w:=by
 go_enter Tryz.func184,Tryz.ntmps184
 go_wp2_with (go_at_call 211;refine(d_ _ _ _).mono ?_;rintro e w1 ⟨rfl,rfl⟩)
 go_ret;exact⟨by simp,rfl⟩
section
variable(r e f t o:Int)(a:tB)(n c:Nat)(w:tA)
theorem l9:cA 205 #[bR r e f t o a n c] w (rB (.bool (decide (r=1∨r=2))) w):=by
 by_cases h1:r=1
 ·subst h1;go_enter Tryz.func205,Tryz.ntmps205;go_wp2;go_ret;exact⟨by simp,aA _ _⟩
 ·by_cases h2:r=2
  ·subst h2;go_enter Tryz.func205,Tryz.ntmps205;go_wp2;go_ret;exact⟨by simp,aA _ _⟩
  ·rw[Ai (show ¬(r=1∨r=2) by omega)];go_enter Tryz.func205,Tryz.ntmps205;go_wp2;go_ret;exact⟨by simp[h1,h2],aA _ _⟩
theorem lh:cA 185 #[bR r e f t o a n c] w (rB (.bool (decide (r=2∨r=3))) w):=by
 by_cases h1:r=2
 ·subst h1;go_enter Tryz.func185,Tryz.ntmps185;go_wp2;go_ret;exact⟨by simp,aA _ _⟩
 ·by_cases h2:r=3
  ·subst h2;go_enter Tryz.func185,Tryz.ntmps185;go_wp2;go_ret;exact⟨by simp,aA _ _⟩
  ·rw[Ai (show ¬(r=2∨r=3) by omega)];go_enter Tryz.func185,Tryz.ntmps185;go_wp2;go_ret;exact⟨by simp[h1,h2],aA _ _⟩
end
theorem dA{w wx:tA}{R N:Nat}{r e f t o:Int}{a:tB}{n c:Nat}(h:aG wx R r e f t o a n c)(cP:Below N w wx)(hN:N≤R)(r' e' f' t' o':Int)(a':tB)(n' c':Nat):
  ∃W,W=(((((wx.setCell ⟨R,0,none⟩ (iV r')).setCell ⟨R,1,none⟩ (iV e')).setCell ⟨R,2,none⟩ (iV f')).setCell ⟨R,3,none⟩ (iV t')).setCell ⟨R,4,none⟩ (iV o')).setCell ⟨R,5,none⟩ (.slice a' n' c')∧aG W R r' e' f' t' o' a' n' c'∧Below N w W∧av R wx W:=
 ⟨_,rfl,h.store _ _ _ _ _ _ _ _,(aG.turn _ _ _ _ _ _ _ _ _ _).under cP hN,aG.turn _ _ _ _ _ _ _ _ _ _⟩
theorem ec{W:tA}{R:Nat}{r e f t o:Int}{a:tB}{n c:Nat}(d:aG W R r e f t o a n c):(loadVar 49 ⟨R,0,none⟩).run Tryz.prog W= .ok (bR r e f t o a n c) W:=
 run_loadVar_row (P:=Tryz.prog) W R 49 49 _ (0,0) _ d Tryz.underlying49 rfl (by kernel_rfl)
theorem Kg{W:tA}{R:Nat}{r e f t o:Int}{a:tB}{n c:Nat}{er:Int}{tmps:tR}(d:aG W R r e f t o a n c)(t2:tmps[2]? =some (.pointer (some ⟨R,0,none⟩)))(t3:tmps[3]? =some (iV er)):
  (results Tryz.f177 tmps).run Tryz.prog W= .ok (.tuple #[bR r e f t o a n c,iV er]) W:=by
 simp[results,Tryz.results177,t2,t3,asAddr,ec d]
theorem l_(er:Int)(w:tA):cA 177 #[iV er] w (rB (.tuple #[bR 0 0 0 0 0 none 0 0,iV er]) w):=by
 go_enter Tryz.func177,Tryz.ntmps177
 go_upto_region 1 with fail
 obtain⟨W,hW,z,b⟩:∃W,W=w.alloc (.cells (dp 0 0 0 0 0 none 0 0) 49)∧aG W w.heap.size 0 0 0 0 0 none 0 0∧bZ w W:=⟨_,rfl,aG.new _ _ _ _ _ _ _ _ _,aA _ _⟩;rw[←hW];clear hW;obtain⟨x0,x1,x2,x3,x4,x5⟩:=z.cells;have zf:=z.free;have HZ:=ah z;have HB:=ah b;clear z b;go_wp2;obtain⟨W2,hW2,d2,b2,_⟩:=dA (aa HZ) (aa HB) (Aa _) 0 0 0 0 0 none 0 0;rw[←hW2];exact Al (Kg d2 rfl rfl) rfl ⟨rfl,b2⟩
theorem yd(a b:tB)(la ca lb cb:Nat)(A B:tG)(w:tA)(hA:RowK .i64 w a (6*la) A)(hB:RowK .i64 w b (6*lb) B)(nA:a=none→ca=0)(nB:b=none→cb=0)(hs:la+lb≤1000000):
  cA 212 #[.slice a la ca,.slice b lb cb] w fun e w'=>∃a' c',e= .returned (.slice a' (la+lb:Nat) c')∧RowK .i64 w' a' (6*(la+lb)) (A++B)∧la+lb≤c'∧(a'=none→c'=0)∧(∀x,a'=some x→w.heap.size≤x.block)∧bZ w w':=by
 obtain⟨i6,hi6,hz60,hz61,hz62⟩:=iq Tryz.lK;have hw:IntKind.i64.wrap ((la:Int)+(lb:Int))=((la+lb:Nat):Int):=by rw[Ct];omega
 have vC:∀u∈A++B,(Lit.int .i64 u).wf=true:=fun u hu=>by
  rcases Ao.1 hu with h|h
  ·exact hA.wf u h
  ·exact hB.wf u h
 have HA:Hid (∀w',bZ w w'→RowK .i64 w' a (6*la) A):=ah fun w' b=>hA.below b;have HB:Hid (∀w',bZ w w'→RowK .i64 w' b (6*lb) B):=ah fun w' b=>hB.below b;clear hA hB;go_enter Tryz.func212,Tryz.ntmps212
 go_wp2_with (first
  |(refine wpList_make_own _ rfl _ _ 47 rfl w.heap.size 55 i6 _ 6 Tryz.underlying47 hi6 hz60 hz61 .i64 .i64 _ (la+lb) rfl rfl (by first|rfl|omega) (by rw[hz62];omega) (by unfold maxLen;omega) (Aa _) ?_;intro W1 o1 g1;have b1:=(Be w.heap.size w).grown g1 (by omega) (fun q hq=>by cases hq))
  |(at_builtin;refine di rfl _ _ 47 rfl w.heap.size 55 i6 _ 6 48 Tryz.underlying47 hi6 hz60 hz61 hz62 rfl (by decide) (.slice (some ⟨w.heap.size,0,none⟩) 0 (la+lb)) 0 [] rfl o1 a la ca A rfl (aa HA _ b1) nA (by unfold maxLen;omega) (by omega) (by have:=b1.size;omega) ?_;intro v2 W2 o2 g2;simp only[Nat.zero_add,List.nil_append]at o2;have b2:=b1.grown g2 b1.size (fun q hq=>(o1.lt q hq).1);clear o1 g1 g2 b1)
  |(at_builtin;refine di rfl _ _ 47 rfl w.heap.size 55 i6 _ 6 48 Tryz.underlying47 hi6 hz60 hz61 hz62 rfl (by decide) v2 la A rfl o2 b lb cb B rfl (aa HB _ b2) nB (by unfold maxLen;omega) (by omega) (by have:=b2.size;omega) ?_;intro v3 W3 o3 g3;have b3:=b2.grown g3 b2.size (fun q hq=>(o2.lt q hq).1);obtain⟨a',c',rfl,r3,hc,_,n3,u3⟩:=RowK.eO o3 vC;clear o2 g3 b2))
 go_ret;exact⟨a',c',rfl,r3,hc,n3,u3,b3⟩
def mF(r e f t o:Int)(ev:tK)(q:tD):Nat→Value
 |0=>iV r
 |1=>iV e
 |2=>iV f
 |3=>iV t
 |4=>iV o
 |5=>ev
 |j+6=>q j
theorem aag{r e f t o:Int}{a:tB}{n c:Nat}{q:tD}(h:aS q 41):aS (mF r e f t o (.slice a n c) q) 47:=fun i hi=>by
 match i,hi with
 |0,_=>rfl
 |1,_=>rfl
 |2,_=>rfl
 |3,_=>rfl
 |4,_=>rfl
 |5,_=>rfl
 |j+6,hj=>exact h j (by omega)
abbrev jw(r e f t o:Int)(a:tB)(n c:Nat)(q:tD):Value:=vF (mF r e f t o (.slice a n c) q) 47
def jG(w:tA)(R:Nat)(r e f t o:Int)(a:tB)(n c:Nat)(q:tD):Prop:=aY w R 117 47 (mF r e f t o (.slice a n c) q)
theorem Tryz.RE:(Tryz.prog.info? 117).map (·.size)=some 47:=by kernel_rfl
theorem Tryz.RF:(Tryz.prog.info? 117).map (·.zero)=some (some (jw 0 0 0 0 0 none 0 0 zQ)):=by kernel_rfl
theorem Tryz.Fk:(Tryz.prog.info? 49).map (·.size)=some 6:=by kernel_rfl
theorem L7(r e f t o:Int)(a:tB)(n c:Nat)(q:tD):bR r e f t o a n c=vF (mF r e f t o (.slice a n c) q) 6:=rfl
section
variable{w w':tA}{R:Nat}{r e f t o:Int}{a:tB}{n c:Nat}{q:tD}
theorem jG.lt(h:jG w R r e f t o a n c q):R<w.heap.size:=aY.lt h
theorem jG.next(h:jG w R r e f t o a n c q)(hb:bZ w w'):jG w' R r e f t o a n c q:=aY.next h hb
theorem jG.cells(h:jG w R r e f t o a n c q):w.cell? ⟨R,0,none⟩=some (iV r)∧w.cell? ⟨R,1,none⟩=some (iV e)∧w.cell? ⟨R,2,none⟩=some (iV f)∧w.cell? ⟨R,3,none⟩=some (iV t)∧w.cell? ⟨R,4,none⟩=some (iV o)∧w.cell? ⟨R,5,none⟩=some (.slice a n c):=
 ⟨aY.at h 0 (by decide),aY.at h 1 (by decide),aY.at h 2 (by decide),aY.at h 3 (by decide),aY.at h 4 (by decide),aY.at h 5 (by decide)⟩
variable{ops:tP}{rest:List Oper}{op:Oper}{ac:Act}{Q:tI}
theorem L8(x:tU)(ho:op.op= .load 49 x)(hw:Region.wanted op (yielded ops ac.tmps)=true)(hx:ac.eval x= .pointer (some ⟨R,0,none⟩))(mb:jG w R r e f t o a n c q)
  (h:wpList Tryz.prog ops Q rest (ac.put op.dst (bR r e f t o a n c)) w):wpList Tryz.prog ops Q (op::rest) ac w:=
 Gr 49 _ 0 6 _ x ho hw hx mb (by decide) Tryz.underlying49 rfl Tryz.Fk (fun i _=>by rw[Ae]) (by rw[←L7];exact h)
theorem L9{r' e' f' t' o':Int}{a':tB}{n' c':Nat}{q':tD}(x y:tU)(ho:op.op= .store 117 x y)(hw:Region.wanted op (yielded ops ac.tmps)=true)(hx:ac.eval x= .pointer (some ⟨R,0,none⟩))(hy:ac.eval y=jw r' e' f' t' o' a' n' c' q')(mb:jG w R r e f t o a n c q)(h1:aS q' 41)
  (h:∀w',jG w' R r' e' f' t' o' a' n' c' q'→av R w w'→wpList Tryz.prog ops Q rest (ac.put op.dst undef) w'):wpList Tryz.prog ops Q (op::rest) ac w:=
 Db 117 0 47 _ x y ho hw hx hy mb (Aa _) Tryz.RE (aag h1) (fun w' fb tn=>h w' (aY.congr fb fun i hi=>by rw[gf,if_pos ⟨Ak _,by omega⟩,Nat.sub_zero]) tn)
theorem DE(x:tU)(ho:op.op= .box 117 x)(hw:Region.wanted op (yielded ops ac.tmps)=true)(hx:ac.eval x=jw r e f t o a n c q)
  (h:∀w',jG w' w.heap.size r e f t o a n c q→bZ w w'→w'.heap.size=w.heap.size+1→wpList Tryz.prog ops Q rest (ac.put op.dst (.pointer (some ⟨w.heap.size,0,none⟩))) w'):wpList Tryz.prog ops Q (op::rest) ac w:=
 Qx 117 47 _ x ho hw hx h
theorem L_(ho:op.op= .alloc 117)(hw:Region.wanted op (yielded ops ac.tmps)=true)
  (h:∀w',jG w' w.heap.size 0 0 0 0 0 none 0 0 zQ→bZ w w'→w'.heap.size=w.heap.size+1→wpList Tryz.prog ops Q rest (ac.put op.dst (.pointer (some ⟨w.heap.size,0,none⟩))) w'):wpList Tryz.prog ops Q (op::rest) ac w:=
 Gu 117 47 _ ho hw Tryz.RF h
theorem N_(d:jG w R r e f t o a n c q):(loadVar 117 ⟨R,0,none⟩).run Tryz.prog w= .ok (jw r e f t o a n c q) w:=
 run_loadVar_mid (P:=Tryz.prog) w R 0 117 _ _ (aY.range d 0 47 (Aa _)) Tryz.underlying117 rfl (by rw[bK];exact Tryz.RE)
end
theorem Hb{P:tY}{t:tZ}{n:Nat}(h:(P.info? t).map (·.size)=some n)(w:tA):(sizeOf t).run P w= .ok n w:=by
 cases hq:P.info? t with
 |none=>simp[hq]at h
 |some i=>
  have hs:i.size=n:=by simpa[hq]using h
  simp[sizeOf,typeInfo,Sem.run_bind,hq,hs]
theorem Tryz.RG:∀fs,Tryz.prog.underlying 117=some (.struct fs)→∀w,Sem.run Tryz.prog (Array.mapM (m:=Sem) (fun(f:Go.Field)=>do let s←sizeOf f.type;pure (f.offset,s)) fs) w= .ok #[(0,6),(6,41)] w:=by
 intro fs h w;rw[Tryz.underlying117]at h;cases h;simp[Hb Tryz.Fk,Hb Tryz.LU,go_sem]
theorem VL(w:tA):(Instr.build 117 #[]).run Tryz.prog w= .ok (jw 0 0 0 0 0 none 0 0 zQ) w:=
 run_build Tryz.RF Tryz.underlying117 (Tryz.RG _ Tryz.underlying117) rfl w
theorem Ma{W:tA}{R i j:Nat}{r e f t o:Int}{a:tB}{n c:Nat}{q:tD}{v:tK}{tmps:tR}(d:jG W R r e f t o a n c q)(RH:Func)(hf:RH.results= #[.cell i 117,.tmp j])(t1:tmps[i]? =some (.pointer (some ⟨R,0,none⟩)))(t2:tmps[j]? =some v):
  (results RH tmps).run Tryz.prog W= .ok (.tuple #[jw r e f t o a n c q,v]) W:=by
 simp[results,hf,t1,t2,asAddr,N_ d]
theorem jm(er:Int)(w:tA):cA 169 #[iV er] w (rB (.tuple #[jw 0 0 0 0 0 none 0 0 zQ,iV er]) w):=by
 go_enter Tryz.func169,Tryz.ntmps169
 go_wp2_with (first
  |(refine L_ rfl rfl ?_;intro W1 m1 b1 s1)
  |(refine Qz _ _ _ rfl rfl rfl (VL _) ?_)
  |(refine L9 _ _ rfl rfl rfl rfl m1 xY ?_;intro W2 m2 t2;have b2:=t2.under b1 (Aa _);clear m1 b1 t2 s1))
 exact Al (Ma m2 _ rfl rfl rfl) rfl ⟨rfl,b2⟩
section
variable(r e f t o:Int)(a:tB)(n c:Nat)(q:tD)(w:tA)
theorem kA:cA 110 #[jw r e f t o a n c q] w (rB (.bool (decide (r=1∨r=2))) w):=by
 by_cases h1:r=1
 ·subst h1;go_enter Tryz.func110,Tryz.ntmps110
  go_wp2_with (refine DE _ rfl rfl rfl ?_;intro W1 m1 b1 s1;obtain⟨x0,x1,x2,x3,x4,x5⟩:=m1.cells;clear m1 s1)
  go_ret;exact⟨by simp,b1⟩
 ·by_cases h2:r=2
  ·subst h2;go_enter Tryz.func110,Tryz.ntmps110
   go_wp2_with (refine DE _ rfl rfl rfl ?_;intro W1 m1 b1 s1;obtain⟨x0,x1,x2,x3,x4,x5⟩:=m1.cells;clear m1 s1)
   go_ret;exact⟨by simp,b1⟩
  ·rw[Ai (show ¬(r=1∨r=2) by omega)];go_enter Tryz.func110,Tryz.ntmps110
   go_wp2_with (refine DE _ rfl rfl rfl ?_;intro W1 m1 b1 s1;obtain⟨x0,x1,x2,x3,x4,x5⟩:=m1.cells;clear m1 s1)
   go_ret;exact⟨by simp[h1,h2],b1⟩
end
section
variable{P:tY}{ops:tP}{rest:List Oper}{op:Oper}{ac:Act}{Q:tI}{w w':tA}{R T n:Nat}{f:tD}
theorem uJ(w:tA)(b o:Nat)(ty:tZ)(v:tK)(hv:v.cells= #[v])(ht:w.there b o 1)(hi:(P.info? ty).map (·.size)=some 1)(h1:v.oneCell'=true):
  (storeVar ty ⟨b,o,none⟩ v).run P w= .ok () (w.setCell ⟨b,o,none⟩ v):=by
 have:=run_storeCells_cells (P:=P) b o [v] 0 w (fun j hj=>by simpa using(ht j (by simpa using hj)).1) (fun j hj=>by simpa using(ht j (by simpa using hj)).2)
  (fun x hx=>by simp at hx;subst hx;exact h1)
 cases hq:P.info? ty with
 |none=>simp[hq]at hi
 |some i=>
  have hs:i.size=1:=by simpa[hq]using hi
  simp only[Nat.add_zero]at this;simp[storeVar,sizeOf,typeInfo,hq,hv,hs,this];rfl
theorem Oa(t:tZ)(k:Nat)(v:tK)(x y:tU)(ho:op.op= .store t x y)(hw:Region.wanted op (yielded ops ac.tmps)=true)(hx:ac.eval x= .pointer (some ⟨R,k,none⟩))(hy:ac.eval y=v)(hv:v.cells= #[v])(h1:v.oneCell'=true)(fb:aY w R T n f)(hk:k<n)
  (hi:(P.info? t).map (·.size)=some 1)
  (h:∀w',aY w' R T n (ot f k v)→av R w w'→wpList P ops Q rest (ac.put op.dst undef) w'):wpList P ops Q (op::rest) ac w:=
 Bm fun K hK=>by
  rw[if_pos hw];have:=hK _ _ (h _ (fb.set k v hk) (av.set R k w v));unfold Oper.wp execOp;simp only[ho,hx,hy,Instr.storeAt,Instr.sureAddr,Sem.run_bind,Sem.run_pure,Result.andThen_ok,uJ w R k t v hv (fb.there k 1 (by omega)) hi h1];exact this
end
theorem Tryz.Zt:(Tryz.prog.info? 47).map (·.size)=some 1:=by kernel_rfl
theorem Tryz.Zu:(Tryz.prog.info? 49).map (·.zero)=some (some (bR 0 0 0 0 0 none 0 0)):=by kernel_rfl
theorem nt(w:tA)(R:Nat)(r e f t o:Int)(a:tB)(n c:Nat):aG w R r e f t o a n c=aY w R 49 6 (mF r e f t o (.slice a n c) zQ):=rfl
section
variable{w w':tA}{R:Nat}{r e f t o:Int}{a:tB}{n c:Nat}{q:tD}
variable{ops:tP}{rest:List Oper}{op:Oper}{ac:Act}{Q:tI}
theorem Mc(x:tU)(ho:op.op= .load 49 x)(hw:Region.wanted op (yielded ops ac.tmps)=true)(hx:ac.eval x= .pointer (some ⟨R,0,none⟩))(bb:aG w R r e f t o a n c)
  (h:wpList Tryz.prog ops Q rest (ac.put op.dst (bR r e f t o a n c)) w):wpList Tryz.prog ops Q (op::rest) ac w:=by
 rw[nt]at bb;exact Gr 49 _ 0 6 _ x ho hw hx bb (Aa _) Tryz.underlying49 rfl Tryz.Fk (fun i _=>by rw[Ae]) (by rw[←L7];exact h)
theorem wP{r' e' f' t' o':Int}{a':tB}{n' c':Nat}(x y:tU)(ho:op.op= .store 49 x y)(hw:Region.wanted op (yielded ops ac.tmps)=true)(hx:ac.eval x= .pointer (some ⟨R,0,none⟩))(hy:ac.eval y=bR r' e' f' t' o' a' n' c')(bb:aG w R r e f t o a n c)
  (h:∀w',aG w' R r' e' f' t' o' a' n' c'→av R w w'→wpList Tryz.prog ops Q rest (ac.put op.dst undef) w'):wpList Tryz.prog ops Q (op::rest) ac w:=by
 rw[nt]at bb;refine Db 49 0 6 (mF r' e' f' t' o' (.slice a' n' c') zQ) x y ho hw hx hy bb (Aa _) Tryz.Fk (fun i hi=> ?_) (fun w' fb tn=>h w' ?_ tn)
 ·match i,hi with
  |0,_=>rfl
  |1,_=>rfl
  |2,_=>rfl
  |3,_=>rfl
  |4,_=>rfl
  |5,_=>rfl
 ·rw[nt];exact aY.congr fb fun i hi=>by rw[gf,if_pos ⟨Ak _,by omega⟩,Nat.sub_zero]
theorem Yk(x:tU)(ho:op.op= .box 49 x)(hw:Region.wanted op (yielded ops ac.tmps)=true)(hx:ac.eval x=bR r e f t o a n c)
  (h:∀w',aG w' w.heap.size r e f t o a n c→bZ w w'→w'.heap.size=w.heap.size+1→wpList Tryz.prog ops Q rest (ac.put op.dst (.pointer (some ⟨w.heap.size,0,none⟩))) w'):wpList Tryz.prog ops Q (op::rest) ac w:=
 Qx 49 6 (mF r e f t o (.slice a n c) zQ) x ho hw hx h
theorem wQ(ho:op.op= .alloc 49)(hw:Region.wanted op (yielded ops ac.tmps)=true)
  (h:∀w',aG w' w.heap.size 0 0 0 0 0 none 0 0→bZ w w'→w'.heap.size=w.heap.size+1→wpList Tryz.prog ops Q rest (ac.put op.dst (.pointer (some ⟨w.heap.size,0,none⟩))) w'):wpList Tryz.prog ops Q (op::rest) ac w:=
 Gu 49 6 (mF 0 0 0 0 0 (.slice none 0 0) zQ) ho hw Tryz.Zu h
theorem mF5(r e f t o:Int)(a:tB)(n c:Nat)(a':tB)(n' c':Nat)(q:tD)(i:Nat):ot (mF r e f t o (.slice a n c) q) 5 (.slice a' n' c') i=mF r e f t o (.slice a' n' c') q i:=by
 by_cases hi:i=5
 ·subst hi;rfl
 ·rw[pI _ _ _ _ hi]
  match i,hi with
  |0,_=>rfl
  |1,_=>rfl
  |2,_=>rfl
  |3,_=>rfl
  |4,_=>rfl
  |j+6,_=>rfl
theorem Hc{a':tB}{n' c':Nat}(x y:tU)(ho:op.op= .store 47 x y)(hw:Region.wanted op (yielded ops ac.tmps)=true)(hx:ac.eval x= .pointer (some ⟨R,5,none⟩))(hy:ac.eval y= .slice a' n' c')(bb:aG w R r e f t o a n c)
  (h:∀w',aG w' R r e f t o a' n' c'→av R w w'→wpList Tryz.prog ops Q rest (ac.put op.dst undef) w'):wpList Tryz.prog ops Q (op::rest) ac w:=by
 rw[nt]at bb;refine Oa 47 5 (.slice a' n' c') x y ho hw hx hy rfl rfl bb (by decide) Tryz.Zt (fun w' fb tn=>h w' ?_ tn);rw[nt];exact aY.congr fb fun i _=>mF5 _ _ _ _ _ _ _ _ _ _ _ _ i
end
theorem Kh{W:tA}{R i:Nat}{r e f t o:Int}{a:tB}{n c:Nat}{tmps:tR}(d:aG W R r e f t o a n c)(RH:Func)(hf:RH.results= #[.cell i 49])(t1:tmps[i]? =some (.pointer (some ⟨R,0,none⟩))):
  (results RH tmps).run Tryz.prog W= .ok (bR r e f t o a n c) W:=by
 simp[results,hf,t1,asAddr,ec d]
section
variable(r e f t o:Int)(a:tB)(n c:Nat)(q:tD)(w:tA)
theorem kB:cA 132 #[jw r e f t o a n c q] w (rB (bR r e f t o none 0 0) w):=by
 go_enter Tryz.func132,Tryz.ntmps132
 go_wp2_with (first
  |(refine DE _ rfl rfl rfl ?_;intro W1 m1 b1 _s1;have L1:=m1.lt;clear _s1)
  |(refine wQ rfl rfl ?_;intro W2 z2 b2 _s2;have m2:=m1.next b2;have L2:=z2.lt;have B2:=b1.trans (b2.mono (by omega));clear m1 b1 b2 _s2)
  |(refine L8 _ rfl rfl rfl m2 ?_;clear m2)
  |(refine wQ rfl rfl ?_;intro W3 d3 b3 _s3;have z3:=z2.next b3;have L3:=d3.lt;have B3:=B2.trans (b3.mono (by omega));clear z2 B2 b3 _s3)
  |(refine wP _ _ rfl rfl rfl rfl d3 ?_;intro W4 d4 t4;have z4:=z3.dC t4 (by omega);have B4:=t4.under B3 (by omega);clear d3 z3 B3 t4)
  |(refine Hc _ _ rfl rfl rfl rfl d4 ?_;intro W5 d5 t5;have z5:=z4.dC t5 (by omega);have B5:=t5.under B4 (by omega);clear d4 z4 B4 t5)
  |(refine Mc _ rfl rfl rfl d5 ?_)
  |(refine wP _ _ rfl rfl rfl rfl z5 ?_;intro W6 z6 t6;have B6:=t6.under B5 (by omega);clear d5 z5 B5 t6))
 exact Al (Kh z6 _ rfl rfl) rfl ⟨rfl,B6⟩
end
section
variable(r e f t o:Int)(a:tB)(n c:Nat)(q:tD)(A:tG)(w:tA)
structure abZ(w w':tA)(r e f t o:Int)(n:Nat)(A:tG)(x:tK):Prop where
 ex:∃a c,x=bR r e f t o a n c∧RowK .i64 w' a (6*n) A∧n≤c∧(a=none→c=0)∧(∀y,a=some y→w.heap.size≤y.block)
theorem Me(hA:RowK .i64 w a (6*n) A)(hn:a=none→c=0)(hs:n≤1000000):cA 148 #[bR r e f t o a n c] w fun x w'=>∃v,x= .returned v∧abZ w w' r e f t o n A v∧bZ w w':=by
 have HA:Hid (∀w',bZ w w'→RowK .i64 w' a (6*n) A):=ah fun w' b=>hA.below b;clear hA;go_enter Tryz.func148,Tryz.ntmps148
 go_wp2_with (first
  |(refine Yk _ rfl rfl rfl ?_;intro W1 d1 b1 _s1;have L1:=d1.lt;clear _s1)
  |(refine wQ rfl rfl ?_;intro W2 z2 b2 _s2;have d2:=d1.next b2;have L2:=z2.lt;have B2:=b1.trans (b2.mono (by omega));obtain⟨x0,x1,x2,x3,x4,x5⟩:=d2.cells;clear d1 b1 b2 _s2 x0 x1 x2 x3 x4)
  |(go_at_call 192;refine(DB a n c A W2 (aa HA _ B2) hn hs).mono ?_;rintro x W3 ⟨v3,rfl,o3,b3⟩;obtain⟨a',c',rfl,r3,h1,h2,h3⟩:=o3.ex;have RR:=ah (And.intro r3 (And.intro h1 (And.intro h2 h3)));have d3:=d2.next b3;have z3:=z2.next b3;have B3:=B2.trans (b3.mono (by omega));clear x5 d2 z2 B2 b3 o3 r3 h1 h2 h3)
  |(refine Hc _ _ rfl rfl rfl rfl d3 ?_;intro W4 d4 t4;have z4:=z3.dC t4 (by omega);have B4:=t4.under B3 (by omega);have R4:=ah (t4.row (aa RR).1 (fun y hy _=>by have:=(aa RR).2.2.2 y hy;omega));clear d3 z3 B3 t4)
  |(refine Mc _ rfl rfl rfl d4 ?_)
  |(refine wP _ _ rfl rfl rfl rfl z4 ?_;intro W5 z5 t5;have B5:=t5.under B4 (by omega);have R5:=ah (t5.row (aa R4) (fun y hy _=>by have:=(aa RR).2.2.2 y hy;omega));clear d4 z4 B4 t5 R4))
 exact Al (Kh z5 _ rfl rfl) rfl ⟨_,rfl,⟨a',c',rfl,aa R5,(aa RR).2.1,(aa RR).2.2.1,fun y hy=>by have:=(aa RR).2.2.2 y hy;omega⟩,B5⟩
theorem Ki(hA:RowK .i64 w a (6*n) A)(hn:a=none→c=0)(hs:n≤1000000):cA 95 #[jw r e f t o a n c q] w fun x w'=>∃v,x= .returned v∧abZ w w' r e f t o n A v∧bZ w w':=by
 have HA:Hid (∀w',bZ w w'→RowK .i64 w' a (6*n) A):=ah fun w' b=>hA.below b;clear hA;go_enter Tryz.func95,Tryz.ntmps95
 go_wp2_with (first
  |(refine DE _ rfl rfl rfl ?_;intro W1 m1 b1 _s1;have L1:=m1.lt;clear _s1)
  |(refine wQ rfl rfl ?_;intro W2 z2 b2 _s2;have m2:=m1.next b2;have L2:=z2.lt;have B2:=b1.trans (b2.mono (by omega));clear m1 b1 b2 _s2)
  |(refine L8 _ rfl rfl rfl m2 ?_;clear m2)
  |(go_at_call 148;refine(Me r e f t o a n c A W2 (aa HA _ B2) hn hs).mono ?_;rintro x W3 ⟨v3,rfl,o3,b3⟩;obtain⟨a',c',rfl,r3,h1,h2,h3⟩:=o3.ex;have RR:=ah (And.intro r3 (And.intro h1 (And.intro h2 h3)));have z3:=z2.next b3;have B3:=B2.trans (b3.mono (by omega));clear z2 B2 b3 o3 r3 h1 h2 h3)
  |(refine wP _ _ rfl rfl rfl rfl z3 ?_;intro W5 z5 t5;have B5:=t5.under B3 (by omega);have R5:=ah (t5.row (aa RR).1 (fun y hy _=>by have:=(aa RR).2.2.2 y hy;omega));clear z3 B3 t5))
 exact Al (Kh z5 _ rfl rfl) rfl ⟨_,rfl,⟨a',c',rfl,aa R5,(aa RR).2.1,(aa RR).2.2.1,fun y hy=>by have:=(aa RR).2.2.2 y hy;omega⟩,B5⟩
end
def lF(l:tM):Nat→Value:=fun i=>l.getD i undef
theorem RI{l:tM}(h:l.all (·.oneCell')=true):aS (lF l) l.length:=fun i hi=>by
 have:lF l i=l[i]:=by simp[lF,hi]
 rw[this];exact List.all_eq_true.1 h _ (Bu hi)
theorem pR{l l':tM}{q m j:Nat}(h:l'=(l.drop q).take m)(hj:j<m):lF l (q+j)=lF l' j:=by
 subst h;simp[hj,lF]
section
open Rv
theorem Zv(r e f t o:Int)(a:tB)(n c:Nat)(q:tD)(r' e' f' t' o':Int)(a':tB)(n' c':Nat)(w:tA)(hq:aS q 41):cA 143 #[jw r e f t o a n c q,bR r' e' f' t' o' a' n' c',iV 0] w (rB (.tuple #[jw r' e' f' t' o' a n c q,iV 0]) w):=by
 exact en (H:=[]) _ [vg [.o (iV r),.o (iV e),.o (iV f),.o (iV t),.o (iV o),.o (.slice a n c),.f 41 q],vg (bS r' e' f' t' o' a' n' c'),vi 0] Tryz.func143 rfl rfl (m0 w) (Rv.r [0] rfl fun _=>fin fun w hS=>⟨rfl,hS.now.2⟩)
theorem Fl(r e f t o:Int)(a:tB)(n c:Nat)(w:tA):cA 235 #[bR r e f t o a n c] w (rB (.bool (decide (bB r e f t o n))) w):=by
 refine en (H:=[]) _ [vg (bS r e f t o a n c)] Tryz.func235 rfl rfl (m0 w) ?_;have key:∀l F T O:Int,(l≤e∧e≤1048576∧(0≤f∧f≤F)∧(0≤t∧t≤T)∧(0≤o∧o≤O))∨¬l≤e∨(l≤e∧¬e≤1048576)∨((l≤e∧e≤1048576)∧¬(0≤f∧f≤F))∨((l≤e∧e≤1048576∧0≤f∧f≤F)∧¬(0≤t∧t≤T))∨((l≤e∧e≤1048576∧(0≤f∧f≤F)∧0≤t∧t≤T)∧¬(0≤o∧o≤O)):=by intros;omega
 by_cases h4:r=0∨r=1∨r=2∨r=3∨r=4
 case neg=>exact Rv.r [0,0,0,0,0] rfl fun _=>fin fun w hS=>⟨by rw[Ai (by unfold bB;omega)];rfl,hS.now.2⟩
 by_cases hn:r=0∧0<n
 ·exact Rv.r [1,1] rfl fun _=>fin fun w hS=>⟨by rw[Ai (by unfold bB;omega)];rfl,hS.now.2⟩
 rcases h4 with h|h|h|h|h
 case' inl=>have k:=key 0 0 0 0;refine Rv.r [1,0] rfl fun _=> ?_
 case' inr.inl=>have k:=key 1 0 0 0;refine Rv.r [0,1] rfl fun _=> ?_
 case' inr.inr.inl=>have k:=key 1 0 4 4;refine Rv.r [0,0,1] rfl fun _=> ?_
 case' inr.inr.inr.inl=>have k:=key 1 0 4 0;refine Rv.r [0,0,0,1] rfl fun _=> ?_
 case' inr.inr.inr.inr=>have k:=key 1 4 0 0;refine Rv.r [0,0,0,0,1] rfl fun _=> ?_
 all_goals
  clear key;rcases k with k|k|k|k|k|k
  ·exact Rv.r [1,1] rfl fun _=>Rv.cb rfl (vv (.bool true)) (fun w _=>gu true (d_ _ _ w) (Aq (by omega))) (Rv.r [] rfl fun _=>Rv.cb rfl (vv (.bool true)) (fun w _=>gu true (d_ _ _ w) (Aq (by omega))) (Rv.r [] rfl fun _=>Rv.cb rfl (vv (.bool true)) (fun w _=>gu true (d_ _ _ w) (Aq (by omega))) (Rv.r [] rfl fun _=>fin fun w hS=>⟨by rw[Aq (by unfold bB;omega)];rfl,hS.now.2⟩)))
  ·exact Rv.r [0] rfl fun _=>fin fun w hS=>⟨by rw[Ai (by unfold bB;omega)];rfl,hS.now.2⟩
  ·exact Rv.r [1,0] rfl fun _=>fin fun w hS=>⟨by rw[Ai (by unfold bB;omega)];rfl,hS.now.2⟩
  ·exact Rv.r [1,1] rfl fun _=>Rv.cb rfl (vv (.bool false)) (fun w _=>gu false (d_ _ _ w) (Ai (by omega))) (Rv.r [] rfl fun _=>fin fun w hS=>⟨by rw[Ai (by unfold bB;omega)];rfl,hS.now.2⟩)
  ·exact Rv.r [1,1] rfl fun _=>Rv.cb rfl (vv (.bool true)) (fun w _=>gu true (d_ _ _ w) (Aq (by omega))) (Rv.r [] rfl fun _=>Rv.cb rfl (vv (.bool false)) (fun w _=>gu false (d_ _ _ w) (Ai (by omega))) (Rv.r [] rfl fun _=>fin fun w hS=>⟨by rw[Ai (by unfold bB;omega)];rfl,hS.now.2⟩))
  ·exact Rv.r [1,1] rfl fun _=>Rv.cb rfl (vv (.bool true)) (fun w _=>gu true (d_ _ _ w) (Aq (by omega))) (Rv.r [] rfl fun _=>Rv.cb rfl (vv (.bool true)) (fun w _=>gu true (d_ _ _ w) (Aq (by omega))) (Rv.r [] rfl fun _=>Rv.cb rfl (vv (.bool false)) (fun w _=>gu false (d_ _ _ w) (Ai (by omega))) (Rv.r [] rfl fun _=>fin fun w hS=>⟨by rw[Ai (by unfold bB;omega)];rfl,hS.now.2⟩)))
end
theorem oO{W:tA}{Z:Nat}{ep nx gv:Int}{r l:tK}{ws:tD}{er:Int}{tmps:tR}(q:aV W Z ep nx gv r l ws)(t2:tmps[2]? =some (.pointer (some ⟨Z,0,none⟩)))(t3:tmps[3]? =some (iV er)):
  (results Tryz.f201 tmps).run Tryz.prog W= .ok (.tuple #[iF ep nx gv r l ws,iV er]) W:=by
 have h1:=run_loadVar_row (P:=Tryz.prog) W Z 80 80 _ (0,0) _ q Tryz.underlying80 rfl (by rw[cT];exact Tryz.LU);simp[results,Tryz.results201,t2,t3,asAddr,h1]
theorem Mf{w W1:tA}{r e f t o:Int}{a:tB}{n c:Nat}(z1:aV W1 (w.alloc (.cells (dp r e f t o a n c) 49)).heap.size 0 0 0 (.slice none 0 0) (.slice none 0 0) eP)
  (b1:Below (w.alloc (.cells (dp r e f t o a n c) 49)).heap.size (w.alloc (.cells (dp r e f t o a n c) 49)) W1):
  aG W1 w.heap.size r e f t o a n c∧aV W1 (w.heap.size+1) 0 0 0 (.slice none 0 0) (.slice none 0 0) eP∧bZ w W1:=by
 rw[show(w.alloc (.cells (dp r e f t o a n c) 49)).heap.size=w.heap.size+1 by simp]at z1;exact⟨(aG.new w r e f t o a n c).next b1,z1,Below.next (aA _ _) b1⟩
theorem uH.zero(w w':tA):uH w w' St.zero (iF 0 0 0 (.slice none 0 0) (.slice none 0 0) eP):=⟨none,0,none,0,eP,rfl,RowK.nil _ _ _,RowK.nil _ _ _,Aa _,Aa _,fun _=>rfl,fun _=>rfl,jE,fun x hx=>(by cases hx),fun x hx=>(by cases hx)⟩
inductive Rb(B:Bt):St→Int→Prop
 |yes {s:St} (ok:B.Ok) (bw:List An) (ht:bk B.es s bw):Rb B s 0
 |no (h:¬B.Ok):Rb B St.zero 6
theorem s5(B:Bt)(a:tB)(c:Nat)(w:tA)(hb:jb w B a c):
  cA 201 #[bR B.r B.e B.f B.t B.o a B.es.length c] w fun x w'=>∃y er s,x= .returned (.tuple #[y,iV er])∧Rb B s er∧uH w w' s y∧bZ w w':=by
 have HM:=fun w=>Fl B.r B.e B.f B.t B.o a B.es.length c w;have HR:Hid (∀W,bZ w W→cA 27 #[.slice a B.es.length c] W fun e w'=>∃x er s,e= .returned (.tuple #[x,iV er])∧Rv B.es s er∧uH W w' s x∧bZ W w'):=ah fun W b=>rV B.es a c W (hb.row.below b);clear hb;by_cases hs:bB B.r B.e B.f B.t B.o B.es.length
 case neg=>
  rw[Ai hs]at HM;go_enter Tryz.func201,Tryz.ntmps201
  go_wp2_with (first
   |(refine sS 2 rfl rfl rfl ?_;intro W1 z1 b1;obtain⟨k1,y1,B1⟩:=Mf z1 b1;obtain⟨x0,x1,x2,x3,x4,x5⟩:=k1.cells;have HY:=ah y1;have HB:=ah B1;clear z1 b1 k1 y1 B1)
   |(go_at_call 235;refine(HM _).mono ?_;rintro x W2 ⟨rfl,b2⟩;clear HM x0 x1 x2 x3 x4 x5;have z2:=(aa HY).next b2;have sE:=ah (Below.next (aa HB) b2);clear HY HB b2)
   |(refine yb rfl rfl ?_)
   |(refine oI (ra:=none) (la:=none) (rn:=0) (rc:=0) (ln:=0) (lc:=0) (ws':=eP) _ _ rfl rfl rfl rfl z2 jE ?_;intro W4 q4 t4;have HQ4:=ah q4;have DD:=ah t4;clear q4 t4))
  exact Al (oO (aa HQ4) rfl rfl) rfl ⟨_,6,St.zero,rfl,.no (fun ok=>hs ok.cO),uH.zero _ _,(aa DD).under (aa sE) (by omega)⟩
 case pos=>
 rw[Aq hs]at HM;go_enter Tryz.func201,Tryz.ntmps201
 go_upto_region 4 with(first
  |(refine sS 2 rfl rfl rfl ?_;intro W1 z1 b1;obtain⟨k1,y1,B1⟩:=Mf z1 b1;obtain⟨x0,x1,x2,x3,x4,x5⟩:=k1.cells;have HK:=ah k1;have HY:=ah y1;have HB:=ah B1;clear z1 b1 k1 y1 B1)
  |(go_at_call 235;refine(HM _).mono ?_;rintro x W2 ⟨rfl,b2⟩;clear HM x0 x1 x2 x3 x4 x5;obtain⟨x0,x1,x2,x3,x4,x5⟩:=((aa HK).next b2).cells;have HY2:=ah ((aa HY).next b2);have B2:=Below.next (aa HB) b2;have hR:=aa HR W2 B2;have sE:=ah B2;clear HY HB HR HK b2 B2)
  |(go_at_call 27;refine hR.mono ?_;rintro x W3 ⟨y,er,s,rfl,rv,⟨⟨a1',CG,a2',CA,ws',rfl,r1,r2,l1',l2',n1,n2,pB,f1,f2⟩⟩,b3⟩;have HV:=ah rv;have HY3:=ah ((aa HY2).next b3);have zX:=ah (Below.next (aa sE) b3);have hw2:=(aa sE).size;have uC:w.heap.size+1<W2.heap.size:=(aa HY2).lt;clear hR rv HY2 x0 x1 x2 x3 x4 x5)
  |(refine sS 4 rfl rfl rfl ?_;intro W4 z4 b4)
  |(refine oI (ra:=a1') (la:=a2') (ws':=ws') _ _ rfl rfl rfl rfl z4 pB ?_;intro W5 q5 t5;have b5:=t5.under b4 (Aa _);have HR1:=ah (r1.below b5);have Zw:=ah (r2.below b5);have y5:=(aa HY3).next b5;have aM:=(aa HY3).lt;have Vs:=ah (Below.next (aa zX) b5);clear z4 b4 t5 b5 HY3 zX r1 r2))
 have fM:w.heap.size+1≠W3.heap.size:=by omega
 by_cases h0:er=0
 ·subst h0
  go_wp2_with (first
   |(refine EX _ rfl rfl rfl q5 ?_)
   |(refine oI (ra:=a1') (la:=a2') (ws':=ws') _ _ rfl rfl rfl rfl y5 pB ?_;intro W6 q6 t6;have HQ6:=ah q6;have HT6:=ah t6;clear q6 t6))
  have t6:=aa HT6;have ok:=((aa HV).ok hs).1 rfl;obtain⟨s',bw,ht⟩:=ok.told;obtain⟨rfl,_⟩:=(aa HV).one (.told bw ok.len ht);have VM:=(aa sE).size;have iX:w.heap.size≤W2.heap.size:=VM;exact Al (oO (aa HQ6) rfl rfl) rfl ⟨_,0,s,rfl,.yes ok bw ht,⟨a1',CG,a2',CA,ws',rfl,t6.row (aa HR1) (fun x hx _=>by have:=f1 x hx;omega),t6.row (aa Zw) (fun x hx _=>by have:=f2 x hx;omega),l1',l2',n1,n2,pB,fun x hx=>AN iX (f1 x hx),fun x hx=>AN iX (f2 x hx)⟩,t6.under (aa Vs) (by omega)⟩
 ·clear q5
  go_wp2_with (first
   |(refine yb rfl rfl ?_)
   |(refine oI (ra:=none) (la:=none) (rn:=0) (rc:=0) (ln:=0) (lc:=0) (ws':=eP) _ _ rfl rfl rfl rfl y5 jE ?_;intro W6 q6 t6;have HQ6:=ah q6;have HT6:=ah t6;clear q6 t6))
  exact Al (oO (aa HQ6) rfl rfl) rfl ⟨_,6,St.zero,rfl,.no (fun ok=>h0 (((aa HV).ok hs).2 ok)),uH.zero _ _,(aa HT6).under (aa Vs) (by omega)⟩
theorem ye(B:Bt)(a:tB)(c:Nat)(w:tA)(hb:jb w B a c):
  cA 176 #[bR B.r B.e B.f B.t B.o a B.es.length c] w fun x w'=>∃er,x= .returned (iV er)∧((er=0∧B.Ok)∨(er=6∧¬B.Ok))∧bZ w w':=by
 have HR:Hid (∀W,bZ w W→cA 201 #[bR B.r B.e B.f B.t B.o a B.es.length c] W fun x w'=>∃y er s,x= .returned (.tuple #[y,iV er])∧Rb B s er∧uH W w' s y∧bZ W w'):=ah fun W b=>s5 B a c W (hb.next b);clear hb;go_enter Tryz.func176,Tryz.ntmps176
 go_wp2_with (first
  |(go_at_call 201;refine(aa HR _ (aA _ _)).mono ?_;rintro x W3 ⟨y,er,s,rfl,rv,⟨⟨a1',CG,a2',CA,ws',rfl,r1,r2,l1',l2',n1,n2,pB,f1,f2⟩⟩,b3⟩;have HV:=ah rv;have zX:=ah (Below.next (aA _ _) b3);clear rv b3)
  |(refine sS 3 rfl rfl rfl ?_;intro W4 z4 b4)
  |(refine oI (ra:=a1') (la:=a2') (ws':=ws') _ _ rfl rfl rfl rfl z4 pB ?_;intro W5 q5 t5;have Vs:=ah (Below.next (aa zX) (t5.under b4 (Aa _)));clear q5 t5 z4 b4))
 go_ret;refine⟨er,rfl, ?_,aa Vs⟩;cases aa HV with
 |yes ok=>exact .inl ⟨rfl,ok⟩
 |no h=>exact .inr ⟨rfl,h⟩
theorem gw(B:Bt)(a:tB)(c:Nat)(w:tA)(hb:jb w B a c)(ok:B.Ok):
  cA 176 #[bR B.r B.e B.f B.t B.o a B.es.length c] w (rB (iV 0) w):=by
 refine(ye B a c w hb).mono ?_;rintro x w' ⟨er,rfl,⟨rfl,_⟩|⟨_,h⟩,b⟩
 ·exact⟨rfl,b⟩
 ·exact absurd ok h
theorem j5(B:Bt)(a:tB)(c:Nat)(w:tA)(hb:jb w B a c)(ok:¬B.Ok):
  cA 176 #[bR B.r B.e B.f B.t B.o a B.es.length c] w (rB (iV 6) w):=by
 refine(ye B a c w hb).mono ?_;rintro x w' ⟨er,rfl,⟨_,h⟩|⟨rfl,_⟩,b⟩
 ·exact absurd h ok
 ·exact⟨rfl,b⟩
structure Mb(w wx:tA)(B:Bt)(a:tB)(c:Nat):Prop where
 b:aG wx w.heap.size B.r B.e B.f B.t B.o a B.es.length c
 z:aG wx (w.heap.size+1) 0 0 0 0 0 none 0 0
 cP:bZ w wx
theorem Mb.next{w wx wy:tA}{B:Bt}{a:tB}{c:Nat}(h:Mb w wx B a c)(b:bZ wx wy):Mb w wy B a c:=⟨h.b.next b,h.z.next b,Below.next h.cP b⟩
theorem Mb.made(w:tA)(B:Bt)(a:tB)(c:Nat):∃W,W=(w.alloc (.cells (dp B.r B.e B.f B.t B.o a B.es.length c) 49)).alloc (.cells (dp 0 0 0 0 0 none 0 0) 49)∧Mb w W B a c:=by
 refine⟨_,rfl,(aG.new w _ _ _ _ _ _ _ _).next (aA _ _), ?_,gj _ _ _⟩;have h0:=aG.new (w.alloc (.cells (dp B.r B.e B.f B.t B.o a B.es.length c) 49)) 0 0 0 0 0 none 0 0;rw[show(w.alloc (.cells (dp B.r B.e B.f B.t B.o a B.es.length c) 49)).heap.size=w.heap.size+1 by simp]at h0;exact h0
theorem Ob{W:tA}{R:Nat}{r e f t o:Int}{a:tB}{n c:Nat}{tmps:tR}(d:aG W R r e f t o a n c)(t4:tmps[4]? =some (.pointer (some ⟨R,0,none⟩))):
  (results Tryz.f186 tmps).run Tryz.prog W= .ok (bR r e f t o a n c) W:=by
 simp[results,Tryz.results186,t4,asAddr,ec d]
theorem rh(A B:List Ev):ai (A++B)=ai A++ai B:=by simp[ai]
theorem DF(B:Bt)(a:tB)(c:Nat)(l:List Ev)(b:tB)(lb cb:Nat)(w:tA)(hb:jb w B a c)(hl:l.length=lb)(hr:RowK .i64 w b (6*lb) (ai l))(nb:b=none→cb=0)(hs:B.es.length+lb≤1000000):
  cA 186 #[bR B.r B.e B.f B.t B.o a B.es.length c,.slice b lb cb] w fun x w'=>∃y,x= .returned y∧iu w w' (B.more l) y∧bZ w w':=by
 have HC:Hid (∀W,bZ w W→cA 212 #[.slice a B.es.length c,.slice b lb cb] W fun e w'=>∃a' c',e= .returned (.slice a' (B.es.length+lb:Nat) c')∧RowK .i64 w' a' (6*(B.es.length+lb)) (ai B.es++ai l)∧B.es.length+lb≤c'∧(a'=none→c'=0)∧(∀x,a'=some x→W.heap.size≤x.block)∧bZ W w'):=ah fun W bb=>yd a b B.es.length c lb cb (ai B.es) (ai l) W (hb.row.below bb) (hr.below bb) hb.nil nb hs;clear hb hr;obtain⟨n,hn⟩:∃n,n=B.es.length+lb:=⟨_,rfl⟩;rw[←hn]at HC;have HN:=ah hn;clear hn;go_enter Tryz.func186,Tryz.ntmps186
 go_upto_region 1 with fail
 obtain⟨W1,hW1,M1⟩:=Mb.made w B a c;rw[←hW1];clear hW1;have h0:=M1.b.lt;have h1:=M1.z.lt;have hC:=aa HC W1 M1.cP;obtain⟨x0,x1,x2,x3,x4,x5⟩:=M1.b.cells;have HM:=ah M1;clear HC M1
 go_upto_region 2 with(go_at_call 212;refine hC.mono ?_;rintro x W2 ⟨a',c',rfl,r2,jB,n2,u2,b2⟩;have M2:=(aa HM).next b2;clear hC x0 x1 x2 x3 x4 x5;obtain⟨x0,x1,x2,x3,x4,x5⟩:=M2.b.cells;have xf:=M2.b.free;have VN:=ah M2;have Zw:=ah r2;have HU2:=ah u2;have hs2:=b2.size;clear M2 r2 u2 b2 HM)
 have M2:=aa VN;obtain⟨W3,hW3,k3,t3⟩:∃W3,W3=W2.setCell ⟨w.heap.size,5,none⟩ (.slice a' n c')∧aG W3 w.heap.size B.r B.e B.f B.t B.o a' n c'∧av w.heap.size W2 W3:=by
  refine⟨_,rfl, ?_,av.set _ _ _ _⟩;have:=M2.b;unfold aG at this⊢;rw[cE this];simp
 rw[←hW3];clear hW3;have z3:=M2.z.dC t3 (by omega);have B3:=t3.under M2.cP (Aa _);have r3:=t3.row (aa Zw) (fun x hx _=>by have:=aa HU2 x hx;omega);obtain⟨y0,y1,y2,y3,y4,y5⟩:=k3.cells;obtain⟨z0,z1,z2,z33,z4,z5⟩:=z3.cells;have zf:=z3.free;have HZ3:=ah z3;have zX:=ah B3;have pC:=ah r3;clear x0 x1 x2 x3 x4 x5 xf M2 z3 B3 r3 k3 t3;go_wp2;obtain⟨W4,hW4,d4,b4,t4⟩:=dA (aa HZ3) (aa zX) (show w.heap.size≤w.heap.size+1 by omega) B.r B.e B.f B.t B.o a' n c';rw[←hW4];have fM:(B.more l).es.length=n:=by rw[aa HN];simp[Bt.more,hl]
 refine Al (Ob d4 rfl) rfl ⟨_,rfl,⟨a',c', ?_,⟨?_, ?_,n2⟩,fun x hx=> ?_⟩,b4⟩
 ·rw[fM];rfl
 ·rw[fM];show RowK .i64 W4 a' (6*n) (ai (B.es++l));rw[rh];exact t4.row (aa pC) (fun x hx _=>by have:=aa HU2 x hx;omega)
 ·rw[fM];exact jB
 ·have:=aa HU2 x hx;omega
theorem Bt.pS(B:Bt):B.more []=B:=by simp[Bt.more]
theorem rW(B:Bt)(a:tB)(c:Nat)(w:tA)(hb:jb w B a c)(hs:B.es.length≤2000):
  cA 186 #[bR B.r B.e B.f B.t B.o a B.es.length c,.slice none 0 0] w fun x w'=>∃y,x= .returned y∧iu w w' B y∧bZ w w':=by
 have:=DF B a c [] none 0 0 w hb rfl (RowK.nil _ _ _) (fun _=>rfl) (by omega);rw[Bt.pS]at this;exact this
section
open Rv
theorem Hd{w:tA}{B:Bt}{a:tB}{c:Nat}(hb:jb w B a c):Mem w (hs []) (fun _=>False) (fun w=>jb w B a c) (fun w'=>bZ w w'):=Mem.start (fun _ h=>h.elim) (fun w' c=>hb.next (c.below (Aa _) fun _ _ h=>h)) fun _ h=>h
abbrev bY(B:Bt)(n:Nat)(y:Option Addr×Nat):SV:= .g (bS B.r B.e B.f B.t B.o y.1 n y.2)
abbrev Fm:SV:= .g (bS 0 0 0 0 0 none 0 0)
abbrev wu(w0:tA)(y:Option Addr×Nat):Prop:=∀x,y.1=some x→w0.heap.size≤x.block
theorem Mh{w0 w w':tA}{B:Bt}{x:Ending}(h0:bZ w0 w)(h:∃y,x= .returned y∧iu w w' B y∧bZ w w'):∃y:Option Addr×Nat,x= .returned (bY B B.es.length y).val∧bZ w w'∧wu w0 y∧∀{U:tF},(∀b,U b→b<w.heap.size)→bV U w' fun w=>jb w B y.1 y.2:=by
 obtain⟨_,rfl,ho,b⟩:=h;obtain⟨a,c,rfl,hb,hf⟩:=ho.ex;exact⟨(a,c),rfl,b,fun x hx=>AN h0.size (hf x hx),fun {U} hU w2 c2=>⟨bW hb.row hf hU w2 c2,hb.cap,hb.nil⟩⟩
theorem Od(B:Bt)(a:tB)(c:Nat)(ep:Int)(w:tA)(hb:jb w B a c):cA 131 #[bR B.r B.e B.f B.t B.o a B.es.length c,iV ep] w fun x w'=>∃y B' er,x= .returned (.tuple #[y,iV er])∧dS B ep=(B',er)∧iu w w' B' y∧bZ w w':=by
 have no:=fun er w=>l_ er w;refine en (H:=[]) _ [vg (bS B.r B.e B.f B.t B.o a B.es.length c),vi ep] Tryz.func131 rfl rfl (Hd hb) (r [] rfl fun _=> ?_);unfold dS;by_cases ok:B.Ok
 case neg=>exact Rv.cb rfl (vi 6) (fun w hS=>j5 B a c w hS.now.1 ok) (r [1] rfl fun _=>Rv.cb rfl (vt [Fm,.o (iV 6)]) (fun w _=>no 6 w) (r [] rfl fun _=>fin fun w hS=>⟨_,_,_,rfl,if_pos ok,iu.zero _ _,hS.now.2⟩))
 rw[if_neg (AZ ok)];refine Rv.cb rfl (vi 0) (fun w hS=>gw B a c w hS.now.1 ok) (r [0] rfl fun _=> ?_);by_cases h1:1≤ep∧ep≤1048576
 case neg=>exact Rv.cb rfl (vv (.bool false)) (fun w _=>gu false (kz ep w) (Ai h1)) (r [] rfl fun _=>Rv.cb rfl (vt [Fm,.o (iV 2)]) (fun w _=>no 2 w) (r [] rfl fun _=>fin fun w hS=>⟨_,_,_,rfl,if_pos h1,iu.zero _ _,hS.now.2⟩))
 rw[if_neg (AZ h1)];refine Rv.cb rfl (vv (.bool true)) (fun w _=>gu true (kz ep w) (Aq h1)) ?_;by_cases h2:B.r=0
 case neg=>exact r [1] rfl fun _=>Rv.cb rfl (vt [Fm,.o (iV 8)]) (fun w _=>no 8 w) (r [] rfl fun _=>fin fun w hS=>⟨_,_,_,rfl,if_pos h2,iu.zero _ _,hS.now.2⟩)
 rw[if_neg (AZ h2)];by_cases h3:ep≤B.e
 case pos=>exact r [0,1] rfl fun _=>Rv.cb rfl (vt [Fm,.o (iV 15)]) (fun w _=>no 15 w) (r [] rfl fun _=>fin fun w hS=>⟨_,_,_,rfl,if_pos h3,iu.zero _ _,hS.now.2⟩)
 rw[if_neg h3];exact r [0,0] rfl fun _=>fin fun w hS=>⟨_,_,_,rfl,rfl,⟨none,0,rfl,⟨RowK.nil _ _ _,Aa _,fun _=>rfl⟩,fun x hx=>by cases hx⟩,hS.now.2⟩
theorem He(B:Bt)(a:tB)(c:Nat)(ep:Int)(w:tA)(hb:jb w B a c):cA 173 #[bR B.r B.e B.f B.t B.o a B.es.length c,iV ep] w fun x w'=>∃y B' er,x= .returned (.tuple #[y,iV er])∧bG B ep=(B',er)∧iu w w' B' y∧bZ w w':=by
 have no:=fun er w=>l_ er w;refine en (H:=[]) _ [vg (bS B.r B.e B.f B.t B.o a B.es.length c),vi ep] Tryz.func173 rfl rfl (Hd hb) (r [] rfl fun _=> ?_);unfold bG;by_cases ok:B.Ok
 case neg=>exact Rv.cb rfl (vi 6) (fun w hS=>j5 B a c w hS.now.1 ok) (r [1] rfl fun _=>Rv.cb rfl (vt [Fm,.o (iV 6)]) (fun w _=>no 6 w) (r [] rfl fun _=>fin fun w hS=>⟨_,_,_,rfl,if_pos ok,iu.zero _ _,hS.now.2⟩))
 rw[if_neg (AZ ok)];refine Rv.cb rfl (vi 0) (fun w hS=>gw B a c w hS.now.1 ok) ?_;by_cases h2:B.r=3
 case neg=>exact r [0,1] rfl fun _=>Rv.cb rfl (vt [Fm,.o (iV 7)]) (fun w _=>no 7 w) (r [] rfl fun _=>fin fun w hS=>⟨_,_,_,rfl,if_pos h2,iu.zero _ _,hS.now.2⟩)
 rw[if_neg (AZ h2)];by_cases h3:ep≤B.e
 case pos=>exact r [0,0,1] rfl fun _=>Rv.cb rfl (vt [Fm,.o (iV 15)]) (fun w _=>no 15 w) (r [] rfl fun _=>fin fun w hS=>⟨_,_,_,rfl,if_pos h3,iu.zero _ _,hS.now.2⟩)
 rw[if_neg h3];exact r [0,0,0] rfl fun _=>fin fun w hS=>⟨_,_,_,rfl,rfl,⟨none,0,rfl,⟨RowK.nil _ _ _,Aa _,fun _=>rfl⟩,fun x hx=>by cases hx⟩,hS.now.2⟩
theorem VO(B:Bt)(a:tB)(c:Nat)(nd:Int)(w:tA)(hb:jb w B a c):cA 142 #[bR B.r B.e B.f B.t B.o a B.es.length c,iV nd] w fun x w'=>∃y B' er,x= .returned (.tuple #[y,iV er])∧dT B nd=(B',er)∧iu w w' B' y∧bZ w w':=by
 have no:=fun er w=>l_ er w;refine en (H:=[]) _ [vg (bS B.r B.e B.f B.t B.o a B.es.length c),vi nd] Tryz.func142 rfl rfl (Hd hb) (r [] rfl fun _=> ?_);unfold dT;by_cases ok:B.Ok
 case neg=>exact Rv.cb rfl (vi 6) (fun w hS=>j5 B a c w hS.now.1 ok) (r [1] rfl fun _=>Rv.cb rfl (vt [Fm,.o (iV 6)]) (fun w _=>no 6 w) (r [] rfl fun _=>fin fun w hS=>⟨_,_,_,rfl,if_pos ok,iu.zero _ _,hS.now.2⟩))
 rw[if_neg (AZ ok)];refine Rv.cb rfl (vi 0) (fun w hS=>gw B a c w hS.now.1 ok) (r [0] rfl fun _=> ?_);by_cases h1:0≤nd∧nd≤4
 case neg=>exact Rv.cb rfl (vv (.bool false)) (fun w _=>gu false (gE nd w) (Ai h1)) (r [] rfl fun _=>Rv.cb rfl (vt [Fm,.o (iV 2)]) (fun w _=>no 2 w) (r [] rfl fun _=>fin fun w hS=>⟨_,_,_,rfl,if_pos h1,iu.zero _ _,hS.now.2⟩))
 rw[if_neg (AZ h1)];refine Rv.cb rfl (vv (.bool true)) (fun w _=>gu true (gE nd w) (Aq h1)) (r [] rfl fun _=> ?_);by_cases h2:B.r=2∨B.r=3
 case pos=>exact Rv.cb rfl (vv (.bool true)) (fun w _=>mQ true (lh B.r B.e B.f B.t B.o a B.es.length c w) (Aq h2)) (r [] rfl fun _=>Rv.cb rfl (vt [Fm,.o (iV 12)]) (fun w _=>no 12 w) (r [] rfl fun _=>fin fun w hS=>⟨_,_,_,rfl,if_pos h2,iu.zero _ _,hS.now.2⟩))
 rw[if_neg h2];refine Rv.cb rfl (vv (.bool false)) (fun w _=>mQ false (lh B.r B.e B.f B.t B.o a B.es.length c w) (Ai h2)) ?_;by_cases h3:B.r=1
 case neg=>exact r [1] rfl fun _=>Rv.cb rfl (vt [Fm,.o (iV 7)]) (fun w _=>no 7 w) (r [] rfl fun _=>fin fun w hS=>⟨_,_,_,rfl,if_pos h3,iu.zero _ _,hS.now.2⟩)
 rw[if_neg (AZ h3)];by_cases h4:B.e=1048576
 case pos=>exact r [0,1] rfl fun _=>Rv.cb rfl (vt [Fm,.o (iV 14)]) (fun w _=>no 14 w) (r [] rfl fun _=>fin fun w hS=>⟨_,_,_,rfl,if_pos h4,iu.zero _ _,hS.now.2⟩)
 rw[if_neg h4];refine r [0,0] rfl fun _=>Rv.cx rfl (fun y=> .s (bY ⟨2,B.e,B.f,nd,B.o,B.es⟩ B.es.length y)) (wu w) (fun y w=>jb w ⟨2,B.e,B.f,nd,B.o,B.es⟩ y.1 y.2) (fun w1 hS=>(rW ⟨2,B.e,B.f,nd,B.o,B.es⟩ a c w1 ⟨hS.now.1.row,hS.now.1.cap,hS.now.1.nil⟩ ok.len).mono fun _ _ h=>by obtain⟨y,h1,h2,h3,h4⟩:=Mh hS.now.2 h;exact⟨y,h1,h2,h3,h4⟩) fun y hy=> ?_;exact r [] rfl fun _=>fin fun w hS=>⟨_,_,_,rfl,rfl,⟨y.1,y.2,rfl,hS.now.1.2,hy⟩,hS.now.2⟩
theorem vG(B:Bt)(a:tB)(c:Nat)(hv:Int)(w:tA)(hb:jb w B a c):cA 206 #[bR B.r B.e B.f B.t B.o a B.es.length c,iV hv] w (rB (iV (dk B hv)) w):=by
 refine en (H:=[]) _ [vg (bS B.r B.e B.f B.t B.o a B.es.length c),vi hv] Tryz.func206 rfl rfl (Hd hb) (r [] rfl fun _=> ?_);unfold dk;by_cases ok:B.Ok
 case neg=>exact Rv.cb rfl (vi 6) (fun w hS=>j5 B a c w hS.now.1 ok) (r [1] rfl fun _=>fin fun w hS=>⟨by rw[if_pos ok];rfl,hS.now.2⟩)
 rw[if_neg (AZ ok)];refine Rv.cb rfl (vi 0) (fun w hS=>gw B a c w hS.now.1 ok) (r [0] rfl fun _=> ?_);by_cases h2:B.r=2∨B.r=3
 case neg=>exact Rv.cb rfl (vv (.bool false)) (fun w _=>mQ false (lh B.r B.e B.f B.t B.o a B.es.length c w) (Ai h2)) (r [] rfl fun _=>fin fun w hS=>⟨by rw[if_pos h2];rfl,hS.now.2⟩)
 rw[if_neg (AZ h2)];refine Rv.cb rfl (vv (.bool true)) (fun w _=>mQ true (lh B.r B.e B.f B.t B.o a B.es.length c w) (Aq h2)) (r [] rfl fun _=> ?_);by_cases h3:0≤hv∧hv≤B.es.length
 case neg=>exact Rv.cb rfl (vv (.bool false)) (fun w _=>gu false (d_ hv B.es.length w) (Ai h3)) (r [] rfl fun _=>fin fun w hS=>⟨by rw[if_pos h3];rfl,hS.now.2⟩)
 rw[if_neg (AZ h3)];exact Rv.cb rfl (vv (.bool true)) (fun w _=>gu true (d_ hv B.es.length w) (Aq h3)) (r [] rfl fun _=>fin fun w hS=>⟨rfl,hS.now.2⟩)
theorem DG{B:Bt}{hv:Int}(h:dk B hv=0):B.Ok∧(B.r=2∨B.r=3)∧0≤hv∧hv≤B.es.length:=by
 unfold dk at h;by_cases ok:B.Ok
 ·rw[if_neg (fun h=>h ok)]at h;by_cases h1:B.r=2∨B.r=3
  ·rw[if_neg (fun h=>h h1)]at h;by_cases h2:0≤hv∧hv≤B.es.length
   ·exact⟨ok,h1,h2⟩
   ·rw[if_pos h2]at h;omega
  ·rw[if_pos h1]at h;omega
 ·rw[if_pos ok]at h;omega
theorem VP{B:Bt}(h:B.cH):0≤B.o∧B.o≤4:=by
 unfold Bt.cH bB at h;rcases h with h|h|h|h|h<;>omega
theorem Hf(B:Bt)(a:tB)(c:Nat)(hv:Int)(w:tA)(hb:jb w B a c):cA 166 #[bR B.r B.e B.f B.t B.o a B.es.length c,iV hv] w fun x w'=>∃y B' er,x= .returned (.tuple #[y,iV er])∧bf B hv=(B',er)∧iu w w' B' y∧bZ w w':=by
 have w0:∀(B':Bt) w1,bZ w w1→jb w1 B a c→B'.es=B.es→B.es.length≤2000→cA 186 #[bR B'.r B'.e B'.f B'.t B'.o a B.es.length c,.slice none 0 0] w1 fun x w'=>∃y:Option Addr×Nat,x= .returned (bY B' B.es.length y).val∧bZ w1 w'∧wu w y∧∀{U:tF},(∀b,U b→b<w1.heap.size)→bV U w' fun w=>jb w B' y.1 y.2:=fun B' w1 h0 hb e hl=>by
  have:=(rW B' a c w1 ⟨by rw[e];exact hb.row,by rw[e];exact hb.cap,hb.nil⟩ (by rw[e];exact hl)).mono fun _ _ h=>Mh h0 h;rw[e]at this;exact this
 refine en (H:=[]) _ [vg (bS B.r B.e B.f B.t B.o a B.es.length c),vi hv] Tryz.func166 rfl rfl (Hd hb) (r [] rfl fun _=>Rv.cb rfl (vi (dk B hv)) (fun w hS=>vG B a c hv w hS.now.1) ?_);unfold bf;by_cases h0:dk B hv=0
 case neg=>exact r [1] rfl fun _=>Rv.cb rfl (vt [Fm,.o (iV (dk B hv))]) (fun w _=>l_ _ w) (r [] rfl fun _=>fin fun w hS=>⟨_,_,_,rfl,if_pos h0,iu.zero _ _,hS.now.2⟩)
 rw[if_neg (AZ h0)];obtain⟨ok,hr,hv0,ND⟩:=DG h0;have hl:=ok.len;by_cases h3:B.r=3
 ·rw[if_pos h3];refine r [0,1] rfl fun _=>Rv.cx rfl (fun y=> .s (bY B B.es.length y)) (wu w) (fun y w=>jb w B y.1 y.2) (fun w1 hS=>(w0 B w1 hS.now.2 hS.now.1 rfl hl).mono fun _ _ ⟨y,k1,k2,k3,k4⟩=>⟨y,k1,k2,k3,k4⟩) fun y hy=> ?_;exact r [] rfl fun _=>fin fun w hS=>⟨_,_,_,rfl,rfl,⟨y.1,y.2,rfl,hS.now.1.2,hy⟩,hS.now.2⟩
 rw[if_neg h3];by_cases h4:hv=B.es.length∨B.o=4
 ·rw[if_pos h4];have fi:∀{P:Prop},(hv=B.es.length→P)→(¬hv=B.es.length→B.o=4→P)→P:=fun f g=>by
   by_cases e:hv=B.es.length
   ·exact f e
   ·exact g e (h4.resolve_left e)
  refine fi (fun e=> ?_) fun e e4=> ?_
  case' refine_1=>refine r [0,0,1] rfl fun _=> ?_
  case' refine_2=>refine r [0,0,0,1] rfl fun _=> ?_
  all_goals
   refine Rv.cx rfl (fun y=> .s (bY ⟨3,B.e,B.f,B.t,0,B.es⟩ B.es.length y)) (wu w) (fun y w=>jb w ⟨3,B.e,B.f,B.t,0,B.es⟩ y.1 y.2) (fun w1 hS=>(w0 ⟨3,B.e,B.f,B.t,0,B.es⟩ w1 hS.now.2 hS.now.1 rfl hl).mono fun _ _ ⟨y,k1,k2,k3,k4⟩=>⟨y,k1,k2,k3,k4⟩) fun y hy=> ?_;exact r [] rfl fun _=>fin fun w hS=>⟨_,_,_,rfl,rfl,⟨y.1,y.2,rfl,hS.now.1.2,hy⟩,hS.now.2⟩
 rw[if_neg h4];have ho:=VP ok.cO;refine rz [0,0,0,0,1] [B.o+1] rfl fun _=>Rv.cx rfl (fun y=> .s (bY ⟨B.r,B.e,B.f,B.t,B.o+1,B.es⟩ B.es.length y)) (wu w) (fun y w=>jb w ⟨B.r,B.e,B.f,B.t,B.o+1,B.es⟩ y.1 y.2) (fun w1 hS=>(w0 ⟨B.r,B.e,B.f,B.t,B.o+1,B.es⟩ w1 hS.now.2 hS.now.1 rfl hl).mono fun _ _ ⟨y,k1,k2,k3,k4⟩=>⟨y,k1,k2,k3,k4⟩) fun y hy=> ?_;exact r [] rfl fun _=>fin fun w hS=>⟨_,_,_,rfl,rfl,⟨y.1,y.2,rfl,hS.now.1.2,hy⟩,hS.now.2⟩
end
end Go.Proofs.YtmhifeahpnkpiaaGreatDoor
