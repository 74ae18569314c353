/- Out of my texts: RlE, RlG, RlH, RlJ, RlK, QaG, BeJ, RlL, HsN, HsQ, CuA, CuB, CuC, CuD, CuE, CuF, CuG, CuH, CuI, CuJ, CuK, CuL, CuM, CuN, CuO, CuP, CuQ, CuS, CuU, CwA, CwB, RvW, CwP, RvX, RvO, RvU, CwC, CwD, CwE, CwF, CwG, BeK, CwH, CwI, CwJ, CwK, CwL, CwM, CwN, CwO, CwQ. -/
import Derived.Deep.DeepCutAuto
import Derived.Deep.RegionHeld3
import Derived.Test.YtmhifeahpnkpiaaGreatDoorTAA
import Derived.Test.YtmhifeahpnkpiaaGreatDoorTAB
import Derived.Test.YtmhifeahpnkpiaaGreatDoorTAC
set_option maxRecDepth 20000
set_option maxHeartbeats 8000000
set_option linter.unusedVariables false
namespace Go.Proofs.YtmhifeahpnkpiaaGreatDoor
open Go.RowKit
theorem ft.parts{w w':tA}{base:Nat}{nU:tJ}{x:Ending}{o:Option Bt}(h:ft w w' base nU x o):∃a c,x= .returned (.tuple #[bN (fT o).r (fT o).e (fT o).f (fT o).t (fT o).o a (fT o).es.length c,.bool o.isSome])∧w'.ownsRow base 55 6 (.slice a (fT o).es.length c) (fT o).es.length ((ai (fT o).es).map (Value.int .i64))∧(o=none→a=none∧c=0)∧z7 w nU (.slice a (fT o).es.length c)∧(o.isSome=true→(fT o).es.length<yu nU→bZ w w'):=by
 cases o with
 |none=>exact⟨none,0,h,World.ownsRow_nil _ _ _ _,fun _=>⟨rfl,rfl⟩,(fun g hg=>by cases hg),fun h=>by cases h⟩
 |some D=>obtain⟨a,c,h1,h2,h3,h4⟩:=h;exact⟨a,c,h1,h2,(fun h=>by cases h),h3,fun _=>h4⟩
theorem ft.of{w w':tA}{base:Nat}{nU:tJ}{o:Option Bt}{a:tB}{c:Nat}(h:w'.ownsRow base 55 6 (.slice a (fT o).es.length c) (fT o).es.length ((ai (fT o).es).map (Value.int .i64)))(hn:o=none→a=none∧c=0)(hl:z7 w nU (.slice a (fT o).es.length c))(hb:o.isSome=true→(fT o).es.length<yu nU→bZ w w'):ft w w' base nU (.returned (.tuple #[bN (fT o).r (fT o).e (fT o).f (fT o).t (fT o).o a (fT o).es.length c,.bool o.isSome])) o:=by
 cases o with
 |none=>obtain⟨rfl,rfl⟩:=hn rfl;rfl
 |some D=>exact⟨a,c,rfl,h,hl,hb rfl⟩
theorem Bn(B:Bt)(base:Nat)(a:tB)(c:Nat)(r:Rec)(w:tA)(P Q N:Nat)(role:Int)(o:Option Bt)(hP:w.cell? ⟨P,0,none⟩=some (iV role))(hQ:w.cell? ⟨Q,0,none⟩=some (.func (.func N) #[] #[]))(hr:∀k,(Value.slice a B.es.length c).ownBlock=some k→k<w.heap.size)
  (Wm:∀args w,(callFunc N args).run Tryz.prog w= .ok (.enter N args) w)
  (HN:∀W,bZ w W→cA N #[bN B.r B.e B.f B.t B.o a B.es.length c,lJ r] W fun x w'=>ft W w' base (.slice a B.es.length c) x o∧W.grownBy w' (Value.slice a B.es.length c).ownBlock):
  cA 239 #[bN B.r B.e B.f B.t B.o a B.es.length c,lJ r,.pointer (some ⟨P,0,none⟩),.pointer (some ⟨Q,0,none⟩)] w fun x w'=>ft w w' base (.slice a B.es.length c) x (Iw B r role o)∧w.grownBy w' (Value.slice a B.es.length c).ownBlock:=by
 have lP:=World.block_lt_of_cell? w _ hP;have lQ:=World.block_lt_of_cell? w _ hQ;have HNV:=ah HN;have HR:=ah hr;clear HN hr;go_enter Tryz.func239,Tryz.ntmps239
 go_upto_region 1 with fail
 obtain⟨W1,hW1,M1⟩:=Mr.made w B a c r;rw[←hW1];clear hW1;have p1:W1.cell? ⟨P,0,none⟩=some (iV role):=(M1.cL.cell (p:=⟨P,0,none⟩) lP).trans hP;have q1:W1.cell? ⟨Q,0,none⟩=some (.func (.func N) #[] #[]):=(M1.cL.cell (p:=⟨Q,0,none⟩) lQ).trans hQ;obtain⟨x0,x1,x2,x3,x4,x5⟩:=M1.b.cells;obtain⟨r0,r1,r2,r3,r4,r5,r6,r7,r8,r9⟩:=M1.rc.cells;have HM:=ah M1;clear M1 hP hQ lP lQ;by_cases h:B.r=role∧B.e=r.e
 case neg=>
  have hd:Iw B r role o=none:=if_neg h;have HD:=ah hd;obtain⟨z0,z1,z2,z3,z4,z5⟩:=(aa HM).z.cells;have zf:=(aa HM).z.free;have e0:(B.r !=role)=true∨((B.r !=role)=false∧(B.e !=r.e)=true):=by
   by_cases h1:B.r=role
   ·exact .inr ⟨by simp[h1],by simp;exact fun h2=>h ⟨h1,h2⟩⟩
   ·exact .inl (by simp[h1])
  clear h hd;rcases e0 with e1|⟨e1,e2⟩
  all_goals
   go_wp2;obtain⟨W4,hW4,d4,b4,_⟩:=dA (aa HM).z (aa HM).cL (show w.heap.size≤w.heap.size+2 by omega) 0 0 0 0 0 none 0 0;rw[←hW4];refine bodyPost_ret (Kl d4 rfl rfl) rfl ⟨?_,ew _ b4⟩;rw[aa HD];exact rfl
 case pos=>
 have hd:Iw B r role o=o:=if_pos h;have HD:=ah hd;have e1:(B.r !=role)=false:=by simp[h.1]
 have e2:(B.e !=r.e)=false:=by simp[h.2]
 clear h hd
 go_wp2_with (go_at_fn N;refine(aa HNV _ (aa HM).cL).mono ?_;rintro x W3 ⟨d3,g3⟩;obtain⟨a3,c3,rfl,i3,n3,l3,f3⟩:=d3.parts;have Uc:=ah l3;have HF3:=ah f3;have zb:=(aa HM).grown g3 (aa HR);have zf:=zb.free;obtain⟨z0,z1,z2,z3,z4,z5⟩:=zb.cells;have HZ:=ah zb;have HI:=ah i3;have Ua:=ah n3;have Uj:=ah (kh (ew _ (aa HM).cL) g3);clear d3 g3 zb i3 n3 l3 f3 x0 x1 x2 x3 x4 x5 r0 r1 r2 r3 r4 r5 r6 r7 r8 r9 p1 q1)
 obtain⟨W4,hW4,d4,_,t4⟩:=dA (aa HZ) (Below.refl _ _) (Nat.le_refl _) (fT o).r (fT o).e (fT o).f (fT o).t (fT o).o a3 (fT o).es.length c3;rw[←hW4];refine bodyPost_ret (Kl d4 rfl rfl) rfl ⟨?_,h_ (aa Uj) t4 (by omega)⟩;rw[aa HD];exact ft.of (t4.owns (aa HI) (aU (aa HI) (aa HZ) (by decide))) (aa Ua) ((aa Uc).lower (aa HM).cL.size) (fun h1 h2=>t4.under (Below.next (aa HM).cL (aa HF3 h1 h2)) (by omega))
theorem Dh(B:Bt)(base:Nat)(a:tB)(c:Nat)(r:Rec)(w:tA)(Q N:Nat)(o:Option Bt)(hQ:w.cell? ⟨Q,0,none⟩=some (.func (.func N) #[] #[]))(hr:∀k,(Value.slice a B.es.length c).ownBlock=some k→k<w.heap.size)
  (Wm:∀args w,(callFunc N args).run Tryz.prog w= .ok (.enter N args) w)
  (HN:∀W,bZ w W→cA N #[bN B.r B.e B.f B.t B.o a B.es.length c,lJ r] W fun x w'=>ft W w' base (.slice a B.es.length c) x o∧W.grownBy w' (Value.slice a B.es.length c).ownBlock):
  cA 238 #[bN B.r B.e B.f B.t B.o a B.es.length c,lJ r,.pointer (some ⟨Q,0,none⟩)] w fun x w'=>ft w w' base (.slice a B.es.length c) x (gH r o)∧w.grownBy w' (Value.slice a B.es.length c).ownBlock:=by
 have lQ:=World.block_lt_of_cell? w _ hQ;have HNV:=ah HN;have HR:=ah hr;clear HN hr;go_enter Tryz.func238,Tryz.ntmps238
 go_upto_region 1 with fail
 obtain⟨W1,hW1,M1⟩:=Mr.made w B a c r;rw[←hW1];clear hW1;have q1:W1.cell? ⟨Q,0,none⟩=some (.func (.func N) #[] #[]):=(M1.cL.cell (p:=⟨Q,0,none⟩) lQ).trans hQ;obtain⟨x0,x1,x2,x3,x4,x5⟩:=M1.b.cells;obtain⟨r0,r1,r2,r3,r4,r5,r6,r7,r8,r9⟩:=M1.rc.cells;have HM:=ah M1;clear M1 hQ lQ;by_cases h:r.p=0
 case neg=>
  have hd:gH r o=none:=if_neg h;have HD:=ah hd;obtain⟨z0,z1,z2,z3,z4,z5⟩:=(aa HM).z.cells;have zf:=(aa HM).z.free;have e1:(r.p !=0)=true:=by simp[h]
  clear h hd;go_wp2;obtain⟨W4,hW4,d4,b4,_⟩:=dA (aa HM).z (aa HM).cL (show w.heap.size≤w.heap.size+2 by omega) 0 0 0 0 0 none 0 0;rw[←hW4];refine bodyPost_ret (oK d4 rfl rfl) rfl ⟨?_,ew _ b4⟩;rw[aa HD];exact rfl
 case pos=>
 have hd:gH r o=o:=if_pos h;have HD:=ah hd;have e1:(r.p !=0)=false:=by simp[h]
 clear h hd
 go_wp2_with (go_at_fn N;refine(aa HNV _ (aa HM).cL).mono ?_;rintro x W3 ⟨d3,g3⟩;obtain⟨a3,c3,rfl,i3,n3,l3,f3⟩:=d3.parts;have Uc:=ah l3;have HF3:=ah f3;have zb:=(aa HM).grown g3 (aa HR);have zf:=zb.free;obtain⟨z0,z1,z2,z3,z4,z5⟩:=zb.cells;have HZ:=ah zb;have HI:=ah i3;have Ua:=ah n3;have Uj:=ah (kh (ew _ (aa HM).cL) g3);clear d3 g3 zb i3 n3 l3 f3 x0 x1 x2 x3 x4 x5 r0 r1 r2 r3 r4 r5 r6 r7 r8 r9 q1)
 obtain⟨W4,hW4,d4,_,t4⟩:=dA (aa HZ) (Below.refl _ _) (Nat.le_refl _) (fT o).r (fT o).e (fT o).f (fT o).t (fT o).o a3 (fT o).es.length c3;rw[←hW4];refine bodyPost_ret (oK d4 rfl rfl) rfl ⟨?_,h_ (aa Uj) t4 (by omega)⟩;rw[aa HD];exact ft.of (t4.owns (aa HI) (aU (aa HI) (aa HZ) (by decide))) (aa Ua) ((aa Uc).lower (aa HM).cL.size) (fun h1 h2=>t4.under (Below.next (aa HM).cL (aa HF3 h1 h2)) (by omega))
theorem IA(B:Bt)(base:Nat)(a:tB)(c:Nat)(r:Rec)(w:tA)(Q N P1 P2:Nat)(o:Option Bt)(hQ:w.cell? ⟨Q,0,none⟩=some (.func (.func N) #[] #[.pointer (some ⟨P1,0,none⟩),.pointer (some ⟨P2,0,none⟩)]))(hr:∀k,(Value.slice a B.es.length c).ownBlock=some k→k<w.heap.size)
  (Wm:∀args w,(callFunc N args).run Tryz.prog w= .ok (.enter N args) w)
  (HN:∀W,bZ w W→cA N #[bN B.r B.e B.f B.t B.o a B.es.length c,lJ r,.pointer (some ⟨P1,0,none⟩),.pointer (some ⟨P2,0,none⟩)] W fun x w'=>ft W w' base (.slice a B.es.length c) x o∧W.grownBy w' (Value.slice a B.es.length c).ownBlock):
  cA 238 #[bN B.r B.e B.f B.t B.o a B.es.length c,lJ r,.pointer (some ⟨Q,0,none⟩)] w fun x w'=>ft w w' base (.slice a B.es.length c) x (gH r o)∧w.grownBy w' (Value.slice a B.es.length c).ownBlock:=by
 have lQ:=World.block_lt_of_cell? w _ hQ;have HNV:=ah HN;have HR:=ah hr;clear HN hr;go_enter Tryz.func238,Tryz.ntmps238
 go_upto_region 1 with fail
 obtain⟨W1,hW1,M1⟩:=Mr.made w B a c r;rw[←hW1];clear hW1;have q1:W1.cell? ⟨Q,0,none⟩=some (.func (.func N) #[] #[.pointer (some ⟨P1,0,none⟩),.pointer (some ⟨P2,0,none⟩)]):=(M1.cL.cell (p:=⟨Q,0,none⟩) lQ).trans hQ;obtain⟨x0,x1,x2,x3,x4,x5⟩:=M1.b.cells;obtain⟨r0,r1,r2,r3,r4,r5,r6,r7,r8,r9⟩:=M1.rc.cells;have HM:=ah M1;clear M1 hQ lQ;by_cases h:r.p=0
 case neg=>
  have hd:gH r o=none:=if_neg h;have HD:=ah hd;obtain⟨z0,z1,z2,z3,z4,z5⟩:=(aa HM).z.cells;have zf:=(aa HM).z.free;have e1:(r.p !=0)=true:=by simp[h]
  clear h hd;go_wp2;obtain⟨W4,hW4,d4,b4,_⟩:=dA (aa HM).z (aa HM).cL (show w.heap.size≤w.heap.size+2 by omega) 0 0 0 0 0 none 0 0;rw[←hW4];refine bodyPost_ret (oK d4 rfl rfl) rfl ⟨?_,ew _ b4⟩;rw[aa HD];exact rfl
 case pos=>
 have hd:gH r o=o:=if_pos h;have HD:=ah hd;have e1:(r.p !=0)=false:=by simp[h]
 clear h hd
 go_wp2_with (go_at_fn N;refine(aa HNV _ (aa HM).cL).mono ?_;rintro x W3 ⟨d3,g3⟩;obtain⟨a3,c3,rfl,i3,n3,l3,f3⟩:=d3.parts;have Uc:=ah l3;have HF3:=ah f3;have zb:=(aa HM).grown g3 (aa HR);have zf:=zb.free;obtain⟨z0,z1,z2,z3,z4,z5⟩:=zb.cells;have HZ:=ah zb;have HI:=ah i3;have Ua:=ah n3;have Uj:=ah (kh (ew _ (aa HM).cL) g3);clear d3 g3 zb i3 n3 l3 f3 x0 x1 x2 x3 x4 x5 r0 r1 r2 r3 r4 r5 r6 r7 r8 r9 q1)
 obtain⟨W4,hW4,d4,_,t4⟩:=dA (aa HZ) (Below.refl _ _) (Nat.le_refl _) (fT o).r (fT o).e (fT o).f (fT o).t (fT o).o a3 (fT o).es.length c3;rw[←hW4];refine bodyPost_ret (oK d4 rfl rfl) rfl ⟨?_,h_ (aa Uj) t4 (by omega)⟩;rw[aa HD];exact ft.of (t4.owns (aa HI) (aU (aa HI) (aa HZ) (by decide))) (aa Ua) ((aa Uc).lower (aa HM).cL.size) (fun h1 h2=>t4.under (Below.next (aa HM).cL (aa HF3 h1 h2)) (by omega))
def Bo(w:tA)(base:Nat)(v:tJ)(B:Bt)(a:tB)(c:Nat)(r:Rec)(o:Option Bt):Prop:=∃g cap,v= .func (.func g) #[] cap∧(∀args w,(callFunc g args).run Tryz.prog w= .ok (.enter g args) w)∧
 ∀W,bZ w W→cA g (#[bN B.r B.e B.f B.t B.o a B.es.length c,lJ r]++cap) W fun x w'=>ft W w' base (.slice a B.es.length c) x o∧W.grownBy w' (Value.slice a B.es.length c).ownBlock
def lK(w:tA)(base:Nat)(N:Nat)(B:Bt)(a:tB)(c:Nat)(r:Rec)(o:Option Bt):Prop:=(∀args w,(callFunc N args).run Tryz.prog w= .ok (.enter N args) w)∧
 ∀W,bZ w W→cA N #[bN B.r B.e B.f B.t B.o a B.es.length c,lJ r] W fun x w'=>ft W w' base (.slice a B.es.length c) x o∧W.grownBy w' (Value.slice a B.es.length c).ownBlock
section
variable{w:tA}{B:Bt}{a:tB}{c base:Nat}{r:Rec}
theorem Aa(hb:base≤w.heap.size):lK w base 217 B a c r (iB B r):=
 ⟨enters_of Tryz.func217 (by kernel_rfl) rfl,fun W b=>(Fw B a c r W).mono fun x w' ⟨h1,h2⟩=>⟨ft.fresh h1 (Nat.le_trans hb b.size) h2,ew _ h2⟩⟩
theorem Ab(hb:base≤w.heap.size):lK w base 223 B a c r (some (wT B)):=
 ⟨enters_of Tryz.func223 (by kernel_rfl) rfl,fun W b=>(Fx B a c r W).mono fun x w' ⟨h1,h2⟩=>⟨ft.fresh h1 (Nat.le_trans hb b.size) h2,ew _ h2⟩⟩
theorem yx(bK:w.ownsRow base 55 6 (.slice a B.es.length c) B.es.length ((ai B.es).map (Value.int .i64)))(hb:base≤w.heap.size)(hs:(B.es.length+1)*48≤140737488355328):lK w base 219 B a c r (some (B.more [r.v])):=
 ⟨enters_of Tryz.func219 (by kernel_rfl) rfl,fun W b=>Qe B a c r W base (mw bK b) (Nat.le_trans hb b.size) hs⟩
theorem wj(bK:w.ownsRow base 55 6 (.slice a B.es.length c) B.es.length ((ai B.es).map (Value.int .i64)))(hb:base≤w.heap.size)(hs:(B.es.length+1)*48≤140737488355328):lK w base 222 B a c r (some ⟨1,B.e,0,B.t,B.o,B.es++[Ev.brk]⟩):=
 ⟨enters_of Tryz.func222 (by kernel_rfl) rfl,fun W b=>z_ B a c r W base (mw bK b) (Nat.le_trans hb b.size) hs⟩
theorem FD(bK:w.ownsRow base 55 6 (.slice a B.es.length c) B.es.length ((ai B.es).map (Value.int .i64))):lK w base 220 B a c r (some ⟨3,B.e,B.f,r.p,B.o,B.es⟩):=
 ⟨enters_of Tryz.func220 (by kernel_rfl) rfl,fun W b=>ME B a c r W base (mw bK b)⟩
theorem Di(bK:w.ownsRow base 55 6 (.slice a B.es.length c) B.es.length ((ai B.es).map (Value.int .i64)))(hs:B.cC):lK w base 221 B a c r (jV B r):=
 ⟨enters_of Tryz.func221 (by kernel_rfl) rfl,fun W b=>(Iv B a c r W base (mw bK b) hs).mono fun x w' ⟨h1,h2⟩=>⟨h1,ew _ h2⟩⟩
theorem lK.ad2{N:Nat}{o:Option Bt}(h:lK w base N B a c r o):Bo w base (.func (.func N) #[] #[]) B a c r o:=⟨N,#[],rfl,h.1,h.2⟩
theorem Qf{v:tJ}{N:Nat}{o:Option Bt}(hv:MB w v N)(h:lK w base N B a c r o)(hr:∀k,(Value.slice a B.es.length c).ownBlock=some k→k<w.heap.size):Bo w base v B a c r (gH r o):=by
 obtain⟨Q,rfl,hq⟩:=hv;exact⟨_,_,rfl,enters_of Tryz.func238 (by kernel_rfl) rfl,fun W b=>Dh B base a c r W Q N o (aE b _ _ hq) (fun k hk=>Nat.lt_of_lt_of_le (hr k hk) b.size) h.1 (fun W' b'=>h.2 W' (jX b b'))⟩
theorem Qg{v:tJ}{N:Nat}{role:Int}{o:Option Bt}(hv:z8 w v role N)(h:lK w base N B a c r o)(hr:∀k,(Value.slice a B.es.length c).ownBlock=some k→k<w.heap.size):Bo w base v B a c r (Iw B r role o):=by
 obtain⟨P,Q,rfl,hp,hq⟩:=hv;exact⟨_,_,rfl,enters_of Tryz.func239 (by kernel_rfl) rfl,fun W b=>Bn B base a c r W P Q N role o (aE b _ _ hp) (aE b _ _ hq) (fun k hk=>Nat.lt_of_lt_of_le (hr k hk) b.size) h.1 (fun W' b'=>h.2 W' (jX b b'))⟩
theorem sZ{v:tJ}{N:Nat}{role:Int}{o:Option Bt}(hv:Df w v role N)(h:lK w base N B a c r o)(hr:∀k,(Value.slice a B.es.length c).ownBlock=some k→k<w.heap.size):Bo w base v B a c r (gH r (Iw B r role o)):=by
 obtain⟨Q,u,rfl,hq,P1,P2,rfl,hp1,hp2⟩:=hv
 exact⟨_,_,rfl,enters_of Tryz.func238 (by kernel_rfl) rfl,fun W b=>IA B base a c r W Q 239 P1 P2 _ (aE b _ _ hq) (fun k hk=>Nat.lt_of_lt_of_le (hr k hk) b.size) (enters_of Tryz.func239 (by kernel_rfl) rfl)
  (fun W' b'=>Bn B base a c r W' P1 P2 N role o (aE (jX b b') _ _ hp1) (aE (jX b b') _ _ hp2) (fun k hk=>Nat.lt_of_lt_of_le (hr k hk) (jX b b').size) h.1 (fun WD b''=>h.2 WD (jX (jX b b') b'')))⟩
theorem Table.aaL{M:Nat}{v1 v2 v3 v5 v6 v7:tJ}(t:Table w M v1 v2 v3 v5 v6 v7)(bK:w.ownsRow base 55 6 (.slice a B.es.length c) B.es.length ((ai B.es).map (Value.int .i64)))(hb:base≤w.heap.size)(hs:B.cC)(hlen:(B.es.length+1)*48≤140737488355328)(hk:r.k=1∨r.k=2∨r.k=3∨r.k=4∨r.k=5∨r.k=6∨r.k=7):
  ∃v,(Instr.lookup 273 (.map (some M)) (iV r.k) false).run Tryz.prog w= .ok v w∧Bo w base v B a c r (fK B r):=by
 obtain⟨l1,l2,l3,l4,l5,l6,l7⟩:=rT t;have hr:∀k,(Value.slice a B.es.length c).ownBlock=some k→k<w.heap.size:=fun k hk=>(bK.lt k hk).2;rcases hk with e|e|e|e|e|e|e<;>rw[e]
 ·refine⟨_,l1, ?_⟩;have:fK B r=gH r (iB B r):=by unfold fK;rw[if_neg (by omega)];unfold cE gH iB;rw[if_pos e];by_cases g:r.p=0<;>simp[g]
  rw[this];exact Qf t.d1 (Aa hb) hr
 ·refine⟨_,l2, ?_⟩;have:fK B r=gH r (Iw B r 1 (some (B.more [r.v]))):=by unfold fK;rw[if_neg (by omega)];unfold cE gH Iw;rw[if_neg (by omega),if_pos e];by_cases g:r.p=0<;>by_cases g1:B.e=r.e<;>by_cases g2:B.r=1<;>simp[g,g1,g2]
  rw[this];exact sZ t.d2 (yx bK hb hlen) hr
 ·refine⟨_,l3, ?_⟩;have:fK B r=Iw B r 1 (some ⟨3,B.e,B.f,r.p,B.o,B.es⟩):=by unfold fK;rw[if_neg (by omega)];unfold cE Iw;rw[if_neg (by omega),if_neg (by omega),if_pos e];by_cases g1:B.e=r.e<;>by_cases g2:B.r=1<;>simp[g1,g2]
  rw[this];exact Qg t.d3 (FD bK) hr
 ·refine⟨_,l4, ?_⟩;have:fK B r=jV B r:=by unfold fK;rw[if_pos e]
  rw[this];exact(Di bK hs).ad2
 ·refine⟨_,l5, ?_⟩;have:fK B r=gH r (Iw B r 4 (some (B.more [r.v]))):=by unfold fK;rw[if_neg (by omega)];unfold cE gH Iw;rw[if_neg (by omega),if_neg (by omega),if_neg (by omega),if_neg (by omega),if_pos e];by_cases g:r.p=0<;>by_cases g1:B.e=r.e<;>by_cases g2:B.r=4<;>simp[g,g1,g2]
  rw[this];exact sZ t.d5 (yx bK hb hlen) hr
 ·refine⟨_,l6, ?_⟩;have:fK B r=gH r (Iw B r 4 (some ⟨1,B.e,0,B.t,B.o,B.es++[Ev.brk]⟩)):=by unfold fK;rw[if_neg (by omega)];unfold cE gH Iw;rw[if_neg (by omega),if_neg (by omega),if_neg (by omega),if_neg (by omega),if_neg (by omega),if_pos e];by_cases g:r.p=0<;>by_cases g1:B.e=r.e<;>by_cases g2:B.r=4<;>simp[g,g1,g2]
  rw[this];exact sZ t.d6 (wj bK hb hlen) hr
 ·refine⟨_,l7, ?_⟩;have:fK B r=gH r (Iw B r 3 (some (wT B))):=by unfold fK;rw[if_neg (by omega)];unfold cE gH Iw wT;rw[if_neg (by omega),if_neg (by omega),if_neg (by omega),if_neg (by omega),if_neg (by omega),if_neg (by omega)];by_cases g:r.p=0<;>by_cases g1:B.e=r.e<;>by_cases g2:B.r=3<;>simp[g,g1,g2]
  rw[this];exact sZ t.d7 (Ab hb) hr
end
theorem IB(g R n p:Nat)(w:tA)(hn:n≤1000000000000000)(hp:p≤n)
  (Wm:∀args w,(callFunc g args).run Tryz.prog w= .ok (.enter g args) w)
  (HF:∀(h:Nat) (W:tA),h<n→bZ w W→cA g #[iV h,.pointer (some ⟨R,0,none⟩)] W (rB (.bool (decide (p≤h))) W)):
  cA 146 #[iV n,.func (.func g) #[] #[.pointer (some ⟨R,0,none⟩)]] w (rB (iV p) w):=by
 have HFV:=ah HF;clear HF;go_enter Tryz.func146,Tryz.ntmps146;go_wp2
 go_loopw [5,6] (fun t s wr=>∃i j:Nat,i≤p∧p≤j∧j≤n∧t=iV i∧s=iV j∧bZ w wr) (fun t s _=>(intOf s).toNat-(intOf t).toNat)
 case atStart=>exact⟨0,n,Nat.zero_le _,hp,Nat.le_refl _,rfl,rfl,Below.refl _ _⟩
 case round=>
  obtain⟨i,j,h1,h2,h3,rfl,rfl,cL⟩:=hrel;have HB:=ah cL;clear cL;by_cases aL:i<j
  ·go_upto_region 4 with fail
   obtain⟨m,hm,m1,m2⟩:∃m:Nat,((i:Int)+(j:Int))/2=(m:Int)∧i≤m∧m<j:=⟨(i+j)/2,by omega,by omega,by omega⟩;rw[hm];have HC:=aa HFV m wr (by omega) (aa HB);have hmn:m≤1000000000000000:=by omega
   by_cases hpm:p≤m
   ·rw[decide_eq_true hpm]at HC;have HP:=ah hpm;clear hpm hm
    go_wp2_with (go_at_fn g;refine HC.mono ?_;rintro x W2 ⟨rfl,b2⟩;have sj:=ah (Below.next (aa HB) b2);clear HC b2)
    all_goals(go_roundw<;>first|exact⟨i,m,h1,aa HP,by omega,rfl,rfl,aa sj⟩|(simp[intOf];omega))
   ·rw[decide_eq_false hpm]at HC;have HP:=ah hpm;clear hpm hm
    go_wp2_with (go_at_fn g;refine HC.mono ?_;rintro x W2 ⟨rfl,b2⟩;have sj:=ah (Below.next (aa HB) b2);clear HC b2)
    all_goals(go_roundw<;>first|exact⟨m+1,j,by have:=aa HP;omega,h2,h3,by go_num,rfl,aa sj⟩|(simp[intOf];omega))
  ·obtain rfl:i=p:=by omega
   go_wp2;go_ret;exact⟨rfl,aa HB⟩
theorem Tryz.MF:(Tryz.prog.info? 49).map (fun i=>(i.zero,i.size,i.bytes))=some (some (bN 0 0 0 0 0 none 0 0),6,64):=by kernel_rfl
def vO:Array Value:=dm 0 0 0 0 0 none 0 0++dm 0 0 0 0 0 none 0 0++dm 0 0 0 0 0 none 0 0++dm 0 0 0 0 0 none 0 0
theorem MG(w:tA):(Instr.makeSlice 50 (iV 4) (iV 4)).run Tryz.prog w= .ok (.slice (some ⟨w.heap.size,0,none⟩) 4 4) (w.alloc (.cells vO 49)):=by
 obtain⟨i,h1,h2,h3,h4⟩:=gZ Tryz.MF;have:=run_make (P:=Tryz.prog) w 50 49 i _ Tryz.underlying50 h1 h2 .i64 .i64 4 4 (by omega) (by omega) (by rw[h4];omega) (by omega);rw[h3]at this;have e:madeCells (bN 0 0 0 0 0 none 0 0).cells (Int.toNat 4*6)=vO:=by first|kernel_rfl|(apply Array.toList_inj.1;simp[madeCells,vO,dm,List.range_succ,Value.cells])|(simp[madeCells,vO,Array.range,Value.cells];rfl)
 rw[e]at this;exact this
theorem qu{P:tD}(h0:P 0)(h1:P 1)(h2:P 2)(h3:P 3):∀i,i<4→P i
 |0,_=>h0
 |1,_=>h1
 |2,_=>h2
 |3,_=>h3
 |n+4,h=>absurd h (by omega)
def oN{α:Type}(f:Nat→α)(q:Nat)(x:α):Nat→α:=fun p=>if p=q then x else f p
theorem pP{α:Type}(f:Nat→α)(q:Nat)(x:α):oN f q x q=x:=by simp[oN]
theorem ng{α:Type}(f:Nat→α){q p:Nat}(x:α)(h:p≠q):oN f q x p=f p:=by simp[oN,h]
abbrev wV(f:Nat→Bt)(A:Nat→Option Addr)(K:tQ):Array Value:=
 #[iV (f 0).r,iV (f 0).e,iV (f 0).f,iV (f 0).t,iV (f 0).o,.slice (A 0) (f 0).es.length (K 0),iV (f 1).r,iV (f 1).e,iV (f 1).f,iV (f 1).t,iV (f 1).o,.slice (A 1) (f 1).es.length (K 1),
  iV (f 2).r,iV (f 2).e,iV (f 2).f,iV (f 2).t,iV (f 2).o,.slice (A 2) (f 2).es.length (K 2),iV (f 3).r,iV (f 3).e,iV (f 3).f,iV (f 3).t,iV (f 3).o,.slice (A 3) (f 3).es.length (K 3)]
def gI(w:tA)(Y:Nat)(f:Nat→Bt)(A:Nat→Option Addr)(K:tQ):Prop:=w.heap[Y]? =some (.cells (wV f A K) 49 (0,0))
section
variable{w w':tA}{Y:Nat}{f:Nat→Bt}{A:Nat→Option Addr}{K:tQ}
theorem gI.lt(h:gI w Y f A K):Y<w.heap.size:=cj h
theorem gI.free(h:gI w Y f A K)(o:Nat):w.frozen? ⟨Y,o,none⟩=false:=by
 unfold gI at h;simp[World.frozen?,h]
theorem gI.at(h:gI w Y f A K):∀q,q<4→w.cell? ⟨Y,q*6,none⟩=some (iV (f q).r)∧w.cell? ⟨Y,q*6+1,none⟩=some (iV (f q).e)∧w.cell? ⟨Y,q*6+2,none⟩=some (iV (f q).f)∧w.cell? ⟨Y,q*6+3,none⟩=some (iV (f q).t)∧w.cell? ⟨Y,q*6+4,none⟩=some (iV (f q).o)∧w.cell? ⟨Y,q*6+5,none⟩=some (.slice (A q) (f q).es.length (K q)):=by
 unfold gI at h;refine qu ?_ ?_ ?_ ?_<;>simp[World.cell?,h]
theorem gI.put(h:gI w Y f A K)(q:Nat)(hq:q<4)(D:Bt)(a:tB)(c:Nat):gI ((((((w.setCell ⟨Y,q*6,none⟩ (iV D.r)).setCell ⟨Y,q*6+1,none⟩ (iV D.e)).setCell ⟨Y,q*6+2,none⟩ (iV D.f)).setCell ⟨Y,q*6+3,none⟩ (iV D.t)).setCell ⟨Y,q*6+4,none⟩ (iV D.o)).setCell ⟨Y,q*6+5,none⟩ (.slice a D.es.length c)) Y (oN f q D) (oN A q a) (oN K q c):=by
 unfold gI at h⊢;rw[cy (cy (cy (cy (cy (cy h)))))];have:∀q,q<4→((((((wV f A K).set! (q*6) (iV D.r)).set! (q*6+1) (iV D.e)).set! (q*6+2) (iV D.f)).set! (q*6+3) (iV D.t)).set! (q*6+4) (iV D.o)).set! (q*6+5) (.slice a D.es.length c)=wV (oN f q D) (oN A q a) (oN K q c):=by
  refine qu ?_ ?_ ?_ ?_<;>simp[oN]
 rw[this q hq]
end
theorem FE(w:tA)(Y q:Nat)(v0 v1 v2 v3 v4 v5:tJ):az Y w ((((((w.setCell ⟨Y,q*6,none⟩ v0).setCell ⟨Y,q*6+1,none⟩ v1).setCell ⟨Y,q*6+2,none⟩ v2).setCell ⟨Y,q*6+3,none⟩ v3).setCell ⟨Y,q*6+4,none⟩ v4).setCell ⟨Y,q*6+5,none⟩ v5):=
 (((((az.set Y _ w _).trans (az.set Y _ _ _)).trans (az.set Y _ _ _)).trans (az.set Y _ _ _)).trans (az.set Y _ _ _)).trans (az.set Y _ _ _)
abbrev mI(f:Nat→Bt)(A:Nat→Option Addr)(K:tQ)(q:Nat):Value:= .slice (A q) (f q).es.length (K q)
structure IC(W:tA)(Y:Nat)(f:Nat→Bt)(A:Nat→Option Addr)(K:tQ):Prop where
 b:gI W Y f A K
 own:∀q,q<4→W.ownsRow (Y+1) 55 6 (mI f A K q) (f q).es.length ((ai (f q).es).map (Value.int .i64))
 apart:∀p q,p<4→q<4→p≠q→∀g,(mI f A K p).ownBlock=some g→¬(mI f A K q).ownBlock=some g
 cJ:∀q,q<4→(f q).cC
 wf:∀q,q<4→∀u∈ai (f q).es,(Lit.int .i64 u).wf=true
theorem IC.next{W W':tA}{Y:Nat}{f:Nat→Bt}{A:Nat→Option Addr}{K:tQ}(h:IC W Y f A K)(b:bZ W W'):IC W' Y f A K:=
 ⟨(b.block _ h.b.lt).trans h.b,fun q hq=>aG (h.own q hq) (fun g _ hg=>b.block g hg),h.apart,h.cJ,h.wf⟩
theorem IC.bin{W:tA}{Y:Nat}{f:Nat→Bt}{A:Nat→Option Addr}{K:tQ}(h:IC W Y f A K)(q:Nat)(hq:q<4):iL W (f q) (A q) (K q):=by
 obtain⟨a,c,e,r,l,_,n,_⟩:=RowK.fY (h.own q hq) (h.wf q hq);cases e;exact⟨r,l,n⟩
theorem IC.Un{W W':tA}{Y:Nat}{f:Nat→Bt}{A:Nat→Option Addr}{K:tQ}(h:IC W Y f A K)(q:Nat)(hq:q<4)(g:W.grownBy W' (mI f A K q).ownBlock):
  gI W' Y f A K∧∀p,p<4→p≠q→W'.ownsRow (Y+1) 55 6 (mI f A K p) (f p).es.length ((ai (f p).es).map (Value.int .i64)):=by
 refine⟨(g.block _ h.b.lt (fun e=> ?_)).trans h.b,fun p hp fw=>qm (h.own p hp) g (fun x hx e=>h.apart p q hp hq fw x hx e)⟩;have:=((h.own q hq).lt _ e.symm).1;omega
theorem IC.put{W W' WD:tA}{Y:Nat}{f:Nat→Bt}{A:Nat→Option Addr}{K:tQ}(h:IC W Y f A K)(q:Nat)(hq:q<4){D:Bt}{a:tB}{c:Nat}
  (ho:∀p,p<4→p≠q→W'.ownsRow (Y+1) 55 6 (mI f A K p) (f p).es.length ((ai (f p).es).map (Value.int .i64)))
  (hD:W'.ownsRow (Y+1) 55 6 (.slice a D.es.length c) D.es.length ((ai D.es).map (Value.int .i64))) (hl:z7 W (mI f A K q) (.slice a D.es.length c)) (hs:D.cC) (hw:∀u∈ai D.es,(Lit.int .i64 u).wf=true)
  (t:az Y W' WD) (b:gI WD Y (oN f q D) (oN A q a) (oN K q c)):IC WD Y (oN f q D) (oN A q a) (oN K q c):=by
 have eq1:mI (oN f q D) (oN A q a) (oN K q c) q= .slice a D.es.length c:=by simp only[mI,pP]
 have ne1:∀p,p≠q→mI (oN f q D) (oN A q a) (oN K q c) p=mI f A K p:=fun p hp=>by simp only[mI,ng _ _ hp]
 refine⟨b,fun p hp=> ?_,fun p p' hp hp' fw g hg=> ?_,fun p hp=> ?_,fun p hp=> ?_⟩
 ·by_cases e:p=q
  ·subst e;rw[eq1,pP];exact t.own hD (by omega)
  ·rw[ne1 p e,ng _ _ e];exact t.own (ho p hp e) (by omega)
 ·by_cases e:p=q
  ·subst e;rw[eq1]at hg;rw[ne1 p' (fun h=>fw h.symm)];rcases hl g hg with h1|h1
   ·exact h.apart p p' hp hp' fw g h1
   ·exact fun h2=>by have:=((h.own p' hp').lt g h2).2;omega
  ·rw[ne1 p e]at hg;by_cases e':p'=q
   ·subst e';rw[eq1];intro h2;rcases hl g h2 with h1|h1
    ·exact h.apart p p' hp hp' fw g hg h1
    ·have:=((h.own p hp).lt g hg).2;omega
   ·rw[ne1 p' e'];exact h.apart p p' hp hp' fw g hg
 ·by_cases e:p=q
  ·subst e;rw[pP];exact hs
  ·rw[ng _ _ e];exact h.cJ p hp
 ·by_cases e:p=q
  ·subst e;rw[pP];exact hw
  ·rw[ng _ _ e];exact h.wf p hp
def ko(f:Nat→Bt):List Bt:=[f 0,f 1,f 2,f 3]
theorem Qh(f:Nat→Bt)(r:Rec)(q:Nat)(hq:q<4)(e:r.q=q):At (ko f) r=f q:=by
 have h1:r.q.toNat=q:=by omega
 unfold At;rw[h1];have:∀q,q<4→(ko f).getD q Bt.zero=f q:=by refine qu ?_ ?_ ?_ ?_<;>rfl
 exact this q hq
theorem Km(f:Nat→Bt)(r:Rec)(D:Bt)(q:Nat)(hq:q<4)(e:r.q=q):put (ko f) r D=ko (oN f q D):=by
 have h1:r.q.toNat=q:=by omega
 unfold put;rw[h1];have:∀q,q<4→(ko f).set q D=ko (oN f q D):=by refine qu ?_ ?_ ?_ ?_<;>simp[ko,oN]
 exact this q hq
theorem s5(f:Nat→Bt)(P:Bt→Prop):(∀B∈ko f,P B)↔∀q,q<4→P (f q):=by
 constructor
 ·intro h;exact qu (h _ (by simp[ko])) (h _ (by simp[ko])) (h _ (by simp[ko])) (h _ (by simp[ko]))
 ·intro h B hB;simp only[ko,List.mem_cons,List.not_mem_nil,or_false]at hB;rcases hB with rfl|rfl|rfl|rfl
  ·exact h 0 (by omega)
  ·exact h 1 (by omega)
  ·exact h 2 (by omega)
  ·exact h 3 (by omega)
def bj(r:Rec):List Int:=[r.k,r.q,r.e,r.p,r.v.k,r.v.p,r.v.i,r.v.b,r.v.he,r.v.hn]
def aB(rs:List Rec):List Int:=rs.flatMap bj
theorem rU:∀(rs:List Rec) (i:Nat) (h:i<rs.length) (j:Nat),j<10→(aB rs).getD (10*i+j) 0=(bj rs[i]).getD j 0
 |[],_,h,_,_=>absurd h (Nat.not_lt_zero _)
 |v::rs,0,_,j,hj=>by
  have hl:(bj v).length=10:=rfl;show(bj v++aB rs).getD (10*0+j) 0=_;rw[Nat.mul_zero,Nat.zero_add,cT _ _ _ (by omega)];rfl
 |v::rs,i+1,h,j,hj=>by
  have hl:(bj v).length=10:=rfl;show(bj v++aB rs).getD (10*(i+1)+j) 0=_;rw[show 10*(i+1)+j=10+(10*i+j) by omega,cM _ _ _ 10 hl,rU rs i (by simpa using h) j hj];rfl
theorem Uo{w:tA}{b off:Nat}{rs:List Rec}(hr:RowK .i64 w (some ⟨b,off,none⟩) (10*rs.length) (aB rs))(k:Nat)(hk:k<rs.length):
  w.cell? ⟨b,off+k*10,none⟩=some (iV rs[k].k)∧w.cell? ⟨b,off+k*10+1,none⟩=some (iV rs[k].q)∧w.cell? ⟨b,off+k*10+2,none⟩=some (iV rs[k].e)∧w.cell? ⟨b,off+k*10+3,none⟩=some (iV rs[k].p)∧w.cell? ⟨b,off+k*10+4,none⟩=some (iV rs[k].v.k)∧
  w.cell? ⟨b,off+k*10+5,none⟩=some (iV rs[k].v.p)∧w.cell? ⟨b,off+k*10+6,none⟩=some (iV rs[k].v.i)∧w.cell? ⟨b,off+k*10+7,none⟩=some (iV rs[k].v.b)∧w.cell? ⟨b,off+k*10+8,none⟩=some (iV rs[k].v.he)∧w.cell? ⟨b,off+k*10+9,none⟩=some (iV rs[k].v.hn):=by
 have ea:∀t,t<10→w.cell? ⟨b,off+(10*k+t),none⟩=some (iV ((bj rs[k]).getD t 0)):=fun t ht=>by
  rw[←rU rs k hk t ht];exact hr.at (10*k+t) (by omega)
 rw[Nat.mul_comm k 10];exact⟨ea 0 (by omega),ea 1 (by omega),ea 2 (by omega),ea 3 (by omega),ea 4 (by omega),ea 5 (by omega),ea 6 (by omega),ea 7 (by omega),ea 8 (by omega),ea 9 (by omega)⟩
theorem Table.next{w w':tA}{M:Nat}{v1 v2 v3 v5 v6 v7:tJ}(t:Table w M v1 v2 v3 v5 v6 v7)(b:bZ w w'):Table w' M v1 v2 v3 v5 v6 v7:=
 ⟨(b.block _ (cj t.pg)).trans t.pg,t.d1.keep (aE b),t.d2.keep (aE b),t.d3.keep (aE b),t.d5.keep (aE b),t.d6.keep (aE b),t.d7.keep (aE b)⟩
theorem Ya{w:tA}{a:tB}{rs:List Rec}(hr:RowK .i64 w a (10*rs.length) (aB rs))(k:Nat)(hk:k<rs.length):∀u∈aY rs[k].v,(Lit.int .i64 u).wf=true:=fun u hu=>by
 refine hr.wf u (List.mem_flatMap.2 ⟨rs[k],List.getElem_mem hk, ?_⟩);simp only[aY,bj,List.mem_cons,List.not_mem_nil,or_false]at hu⊢;rcases hu with h|h|h|h|h|h<;>simp[h]
theorem Qi{B D:Bt}{r:Rec}(hs:B.cC)(hd:fK B r=some D)(hB:∀u∈ai B.es,(Lit.int .i64 u).wf=true)(hr:∀u∈aY r.v,(Lit.int .i64 u).wf=true):(∀u∈ai D.es,(Lit.int .i64 u).wf=true)∧D.es.length≤B.es.length+1:=by
 have nil:∀u∈ai [],(Lit.int .i64 u).wf=true:=fun u hu=>by cases hu
 have more:∀v:Ev,(∀u∈aY v,(Lit.int .i64 u).wf=true)→(∀u∈ai (B.es++[v]),(Lit.int .i64 u).wf=true)∧(B.es++[v]).length≤B.es.length+1:=fun v hv=>⟨fun u hu=>by
  rw[EL]at hu;rcases List.mem_append.1 hu with h|h
  ·exact hB u h
  ·exact hv u h,by simp⟩
 unfold fK at hd;by_cases hk:r.k=4
 ·rw[if_pos hk]at hd;rcases vM hs hd with rfl|⟨rfl,_⟩
  ·exact⟨hB,by omega⟩
  ·exact⟨nil,by simp⟩
 rw[if_neg hk]at hd;unfold cE at hd
 repeat' split at hd
 all_goals first
  |(cases hd;done)
  |(cases hd;exact⟨nil,by simp⟩)
  |(cases hd;exact⟨hB,by simp⟩)
  |(cases hd;exact more _ hr)
  |(cases hd;exact more _ (by intro u hu;simp[aY,Ev.brk]at hu;rcases hu with rfl|rfl<;>decide))
  |contradiction
theorem Table.aaM{w:tA}{M:Nat}{v1 v2 v3 v5 v6 v7:tJ}{B:Bt}{a:tB}{c base:Nat}{r:Rec}(t:Table w M v1 v2 v3 v5 v6 v7)(bK:w.ownsRow base 55 6 (.slice a B.es.length c) B.es.length ((ai B.es).map (Value.int .i64)))(hb:base≤w.heap.size)(hs:B.cC)(hlen:(B.es.length+1)*48≤140737488355328)(hk:r.k=1∨r.k=2∨r.k=3∨r.k=4∨r.k=5∨r.k=6∨r.k=7):
  ∃v,(∀W,bZ w W→(Instr.lookup 273 (.map (some M)) (iV r.k) false).run Tryz.prog W= .ok v W)∧Bo w base v B a c r (fK B r):=by
 obtain⟨v,h1,h2⟩:=t.aaL bK hb hs hlen hk;refine⟨v,fun W b=> ?_,h2⟩;obtain⟨l1,l2,l3,l4,l5,l6,l7⟩:=rT t;obtain⟨m1,m2,m3,m4,m5,m6,m7⟩:=rT (t.next b);rcases hk with e|e|e|e|e|e|e<;>rw[e]at h1⊢
 ·rw[l1]at h1;cases h1;exact m1
 ·rw[l2]at h1;cases h1;exact m2
 ·rw[l3]at h1;cases h1;exact m3
 ·rw[l4]at h1;cases h1;exact m4
 ·rw[l5]at h1;cases h1;exact m5
 ·rw[l6]at h1;cases h1;exact m6
 ·rw[l7]at h1;cases h1;exact m7
def fL:Nat→Bt:=fun _=>Bt.zero
theorem Qj:vO=wV fL (fun _=>none) (fun _=>0):=by first|rfl|simp[vO,dm,fL,Bt.zero]
theorem Bt.ID:Bt.zero.cC:=Bt.cR.cJ
def oO(w w':tA)(o:Option (List Bt)×Int)(x:Ending):Prop:=
 (o.1=none→x= .returned (.tuple #[.slice none 0 0,iV o.2]))∧
 ∀S,o.1=some S→∃Y f A K,x= .returned (.tuple #[.slice (some ⟨Y,0,none⟩) 4 4,iV 0])∧o.2=0∧S=ko f∧IC w' Y f A K∧w.heap.size≤Y
theorem oO.none{w w':tA}{o:Option (List Bt)×Int}{e:Int}(h:o=(none,e)):oO w w' o (.returned (.tuple #[.slice none 0 0,iV e])):=by
 subst h;exact⟨fun _=>rfl,fun S h=>by cases h⟩
structure Td(W1 W:tA)(Y:Nat)(rs:List Rec)(k:Nat)(f:Nat→Bt)(A:Nat→Option Addr)(K:tQ):Prop where
 cL:bZ W1 W
 fb:IC W Y f A K
 eq:cZ (ko fL) rs=cZ (ko f) (rs.drop k)
 few:∀q,q<4→(f q).es.length≤k
 up:W1.heap.size≤Y
theorem Td.next{W1 W W':tA}{Y:Nat}{rs:List Rec}{k:Nat}{f:Nat→Bt}{A:Nat→Option Addr}{K:tQ}(h:Td W1 W Y rs k f A K)(b:bZ W W'):Td W1 W' Y rs k f A K:=⟨Below.next h.cL b,h.fb.next b,h.eq,h.few,h.up⟩
theorem uR(rs:List Rec)(a:tB)(c:Nat)(w:tA)(hr:RowK .i64 w a (10*rs.length) (aB rs))(hlen:(rs.length+1)*48≤140737488355328):
  cA 145 #[.slice a rs.length c] w fun x w'=>oO w w' (cZ (ko fL) rs) x∧bZ w w':=by
 have HR:Hid (∀W,bZ w W→RowK .i64 W a (10*rs.length) (aB rs)):=ah fun W b=>hr.below b;clear hr;obtain⟨o,ho⟩:∃o,o=cZ (ko fL) rs:=⟨_,rfl⟩;rw[←ho];have HO:=ah ho;clear ho;go_enter Tryz.func145,Tryz.ntmps145
 go_upto_region 2 with(go_at_call 190;refine(MD w).mono ?_;rintro e W1 ⟨v1,v2,v3,v5,v6,v7,rfl,tb,d1⟩)
 have we:=MG W1;have HT:=ah tb;have Yb:=ah d1;clear tb d1
 go_upto_region 3 with fail
 obtain⟨W2,hW2,T2⟩:∃W2,W2=W1.alloc (.cells vO 49)∧Td W1 W2 W1.heap.size rs 0 fL (fun _=>none) (fun _=>0):=by
  refine⟨_,rfl,aA _ _,⟨?_,fun q _=>World.ownsRow_nil _ _ _ _,(fun p q _ _ _ g hg=>by cases hg),fun q _=>Bt.ID,fun q _ u hu=>by cases hu⟩,rfl,fun q _=>Nat.le_refl _,Nat.le_refl _⟩;have:=heap_alloc_new W1 (.cells vO 49);rw[Qj]at this;exact this
 rw[←hW2];obtain⟨Y,hY⟩:∃Y,Y=W1.heap.size:=⟨_,rfl⟩;rw[←hY];have HT2:Hid (Td W1 W2 Y rs 0 fL (fun _=>none) (fun _=>0)):=ah (by rw[hY];exact T2);clear hW2 we T2 hY
 go_upto_region 4 with fail
 go_loopw [19] (fun i wr=>∃(k:Nat) (f:Nat→Bt) (A:Nat→Option Addr) (K:tQ),k≤rs.length∧i=iV k∧Hid (Td W1 wr Y rs k f A K)) (fun i _=>rs.length-(intOf i).toNat)
 case atStart=>exact⟨0,_,_,_,Nat.zero_le _,rfl,HT2⟩
 case round=>
  obtain⟨k,f,A,K,hk,rfl,HTd⟩:=hrel;clear HT2;by_cases aL:k<rs.length
  case neg=>
   obtain rfl:k=rs.length:=by omega
   have HE:Hid (((∀q,q<4→(f q).Ok)→o=(some (ko f),0))∧(¬(∀q,q<4→(f q).Ok)→o=(none,3))):=ah (by
    rw[aa HO,(aa HTd).eq,List.drop_length];unfold cZ
    exact⟨fun h=>if_pos ((s5 f Bt.Ok).2 h),fun h=>if_neg (fun g=>h ((s5 f Bt.Ok).1 g))⟩)
   clear HO
   go_upto_region 16 with fail
   go_loopw [68] (fun i wx=>∃q:Nat,q≤4∧i=iV q∧Hid (Td W1 wx Y rs rs.length f A K)∧Hid (∀p,p<q→(f p).Ok)) (fun i _=>4-(intOf i).toNat)
   case atStart=>exact⟨0,by omega,rfl,HTd,ah (fun p hp=>by omega)⟩
   case round=>
    obtain⟨q,hq,rfl,HTq,HI⟩:=hrel;by_cases mN:q<4
    case neg=>
     obtain rfl:q=4:=by omega
     have xG:Hid (o=(some (ko f),0)):=ah ((aa HE).1 (aa HI));go_wp2;go_ret2;refine⟨⟨(fun h=>by rw[aa xG]at h;cases h),fun S h=> ?_⟩,Below.next (aa Yb) (aa HTq).cL⟩;rw[aa xG]at h⊢;cases h;exact⟨Y,f,A,K,rfl,rfl,rfl,(aa HTq).fb,Nat.le_trans (aa Yb).size (aa HTq).up⟩
    case pos=>
     obtain⟨x0,x1,x2,x3,x4,x5⟩:=(aa HTq).fb.b.at q mN;have hYl:=(aa HTq).fb.b.lt;have hYn:Y≠wr.heap.size:=by omega
     have P6:Hid (∀W,bZ wr W→Td W1 W Y rs rs.length f A K∧iL W (f q) (A q) (K q)):=ah fun W b=>⟨(aa HTq).next b,((aa HTq).next b).fb.bin q mN⟩;obtain⟨B,hB⟩:∃B,B=f q:=⟨_,rfl⟩;obtain⟨aq,haq⟩:∃aq,aq=A q:=⟨_,rfl⟩;obtain⟨cq,hcq⟩:∃cq,cq=K q:=⟨_,rfl⟩;rw[←hB]at x0 x1 x2 x3 x4 x5 P6;rw[←haq]at x5 P6;rw[←hcq]at x5 P6;have HBq:=ah hB;clear hB haq hcq HTq
     go_upto_region 18 with fail
     obtain⟨W3,hW3,bb3,d3⟩:∃W3,W3=wr.alloc (.cells (dm B.r B.e B.f B.t B.o aq B.es.length cq) 49)∧aD W3 wr.heap.size B.r B.e B.f B.t B.o aq B.es.length cq∧bZ wr W3:=⟨_,rfl,aD.new _ _ _ _ _ _ _ _ _,aA _ _⟩;rw[←hW3];clear hW3 x0 x1 x2 x3 x4 x5;obtain⟨x0,x1,x2,x3,x4,x5⟩:=bb3.cells;have X8:=(aa P6 W3 d3).2;have HD3:=ah d3;clear bb3 d3;by_cases ok:B.Ok
     ·have HC:=gh B aq cq W3 X8 ok;have HI2:Hid (∀p,p<q+1→(f p).Ok):=ah fun p hp=>by
       rcases Nat.lt_or_ge p q with h|h
       ·exact aa HI p h
       ·obtain rfl:p=q:=by omega
        rw[←aa HBq];exact ok
      clear X8 ok
      go_wp2_with (go_at_call 176;refine HC.mono ?_;rintro e W4 ⟨rfl,d4⟩;clear HC x0 x1 x2 x3 x4 x5;have A4:=ah (aa P6 W4 (Below.next (aa HD3) d4)).1;clear d4)
      go_roundw
      case rel=>exact⟨q+1,by omega,by go_num,A4,HI2⟩
      case measure=>simp[intOf];omega
     ·have HC:=jP B aq cq W3 X8 ok;have xG:Hid (o=(none,3)):=ah ((aa HE).2 (fun h=>ok (by rw[aa HBq];exact h q mN)));clear X8 ok
      go_wp2_with (go_at_call 176;refine HC.mono ?_;rintro e W4 ⟨rfl,d4⟩;clear HC x0 x1 x2 x3 x4 x5;have A4:=ah (aa P6 W4 (Below.next (aa HD3) d4)).1;clear d4)
      go_ret2;exact⟨oO.none (aa xG),Below.next (aa Yb) (aa A4).cL⟩
  case pos=>
   have qH:=aa HR wr (Below.next (aa Yb) (aa HTd).cL);obtain⟨bb,off,rfl⟩:=qH.form (by omega);obtain⟨y0,y1,y2,y3,y4,y5,y6,y7,y8,y9⟩:=Uo qH k aL;have HVW:=ah (Ya qH k aL);have Hd:=qH.lt (by omega);have hbn:bb≠wr.heap.size:=by omega
   have hd:rs.drop k=rs[k]::rs.drop (k+1):=List.drop_eq_getElem_cons aL;obtain⟨r,fh⟩:∃r,r=rs[k]:=⟨_,rfl⟩;have HE:Hid (o=cZ (ko f) (r::rs.drop (k+1))):=ah (by rw[aa HO,(aa HTd).eq,hd,fh]);rw[←fh]at y0 y1 y2 y3 y4 y5 y6 y7 y8 y9 HVW;clear qH hd fh
   go_upto_region 6 with fail
   obtain⟨W3,hW3,SO,d3⟩:∃W3,W3=wr.alloc (.cells #[iV r.k,iV r.q,iV r.e,iV r.p,iV r.v.k,iV r.v.p,iV r.v.i,iV r.v.b,iV r.v.he,iV r.v.hn] 167)∧j6 W3 wr.heap.size r∧bZ wr W3:=⟨_,rfl,heap_alloc_new _ _,aA _ _⟩;rw[←hW3];clear hW3 y0 y1 y2 y3 y4 y5 y6 y7 y8 y9 hbn Hd;obtain⟨R,hR⟩:∃R,R=wr.heap.size:=⟨_,rfl⟩;rw[←hR]at SO⊢;have HT3:=ah ((aa HTd).next d3);clear hR d3 HTd;have HP:∀w,cA 191 #[lJ r] w (rB (iV r.fault) w):=fun w=>jQ _ _ _ _ _ _ _ _ _ _ w;obtain⟨r0,r1,r2,r3,r4,r5,r6,r7,r8,r9⟩:=SO.cells;have pq:=ah SO;clear SO;by_cases hf:r.fault=0
   case neg=>
    have xG:Hid (o=(none,r.fault)):=ah (by rw[aa HE];unfold cZ;rw[if_pos hf]);have hf':(r.fault !=0)=true:=by simpa using hf
    obtain⟨fl,vq⟩:∃fl,fl=r.fault:=⟨_,rfl⟩;rw[←vq]at HP xG hf';clear HE HO hf vq
    go_wp2_with (go_at_call 191;refine(HP _).mono ?_;rintro e W4 ⟨rfl,d4⟩;clear HP r0 r1 r2 r3 r4 r5 r6 r7 r8 r9;have A4:=ah ((aa HT3).next d4);clear d4)
    go_ret2;exact⟨oO.none (aa xG),Below.next (aa Yb) (aa A4).cL⟩
   case pos=>
   rw[hf]at HP;have HF:=ah hf;clear hf
   go_upto_region 9 with(go_at_call 191;refine(HP _).mono ?_;rintro e W4 ⟨rfl,d4⟩;clear HP r0 r1 r2 r3 r4 r5 r6 r7 r8 r9;have A4:=ah ((aa HT3).next d4);have qW:Hid (j6 W4 R r):=ah ((d4.block _ (cj (aa pq))).trans (aa pq));clear d4 HT3 pq)
   obtain⟨qn,X5⟩:∃qn:Nat,r.q=qn:=⟨r.q.toNat,by have:=wU (aa HF);omega⟩;have mN:qn<4:=by have:=wU (aa HF);omega
   have HQN:=ah X5;obtain⟨B,hB⟩:∃B,B=f qn:=⟨_,rfl⟩;obtain⟨aq,haq⟩:∃aq,aq=A qn:=⟨_,rfl⟩;obtain⟨cq,hcq⟩:∃cq,cq=K qn:=⟨_,rfl⟩;have H8:=(aa A4).fb.own qn mN;rw[mI,←hB,←haq,←hcq]at H8;have Yc:=(aa A4).fb.b.lt;obtain⟨dv,hlk,hdo⟩:=((aa HT).next (aa A4).cL).aaM H8 (by omega) (by rw[hB];exact(aa A4).fb.cJ qn mN) (by have:=(aa A4).few qn mN;rw[hB];omega) (Rec.kinds (aa HF));have HDO:=ah hdo;have HLK:=ah hlk;obtain⟨x0,x1,x2,x3,x4,x5⟩:=(aa A4).fb.b.at qn mN;rw[←hB]at x0 x1 x2 x3 x4 x5;rw[←haq,←hcq]at x5;have GW:Hid (B=f qn∧aq=A qn∧cq=K qn):=ah ⟨hB,haq,hcq⟩;obtain⟨r0,r1,r2,r3,r4,r5,r6,r7,r8,r9⟩:=(aa qW).cells;rw[X5]at r1;have hR4:=cj (aa qW);have hRn:R≠W4.heap.size:=by omega
   have hYn:Y≠W4.heap.size:=by omega
   clear X5 hB haq hcq H8 hdo hlk
   go_wp2_with fail
   go_cut [9,10] (fun p9 v10 wx=>∃X,p9= .pointer (some ⟨X,0,none⟩)∧v10=dv∧aD wx X B.r B.e B.f B.t B.o aq B.es.length cq∧bZ W4 wx)
   case first=>
    refine wp_region_held_drew (S:=Below W4.heap.size W4) (by kernel_rfl) (xE W4) (fun hHeld=> ?_);refine wpAnyH_take (i:=0) (v:= .slice (some ⟨Y,0,none⟩) 4 4) rfl (by kernel_rfl) (by kernel_rfl) (by kernel_rfl) (fun _ _ _ h=>h) (Or.inl ⟨by rfl,fun _ _=>by go_simp⟩) hHeld ?_;simp only[List.getElem_toArray,List.getElem_cons_zero,Act.put,List.setIfInBounds_toArray,List.set_cons_zero,List.set_cons_succ];refine wpAnyH_take (i:=1) (v:= .pointer (some ⟨R,1,none⟩)) rfl (by kernel_rfl) (by kernel_rfl) (by kernel_rfl) (fun _ _ _ h=>h) (Or.inl ⟨by rfl,fun _ _=>by go_simp⟩) hHeld ?_;simp only[List.getElem_toArray,List.getElem_cons_zero,List.getElem_cons_succ,Act.put,List.setIfInBounds_toArray,List.set_cons_zero,List.set_cons_succ];refine wpAnyH_take (i:=2) (v:=iV qn) rfl (by kernel_rfl) (by kernel_rfl) (by kernel_rfl) (fun _ _ _ h=>h) (Or.inl ⟨by rfl,fun w b=>by have qc:=(b.cell (p:=⟨R,1,none⟩) hR4).trans r1;go_simp⟩) hHeld ?_;simp only[List.getElem_toArray,List.getElem_cons_zero,List.getElem_cons_succ,Act.put,List.setIfInBounds_toArray,List.set_cons_zero,List.set_cons_succ];refine wpAnyH_take (i:=3) (v:= .pointer (some ⟨Y,qn*6,none⟩)) rfl (by kernel_rfl) (by kernel_rfl) (by kernel_rfl) (fun _ _ _ h=>h) (Or.inl ⟨by rfl,fun _ _=>by go_simp;intro hx;omega⟩) hHeld ?_;simp only[List.getElem_toArray,List.getElem_cons_zero,List.getElem_cons_succ,Act.put,List.setIfInBounds_toArray,List.set_cons_zero,List.set_cons_succ];refine wpAnyH_take (i:=4) (v:=bN B.r B.e B.f B.t B.o aq B.es.length cq) rfl (by kernel_rfl) (by kernel_rfl) (by kernel_rfl) (fun _ _ _ h=>h) (Or.inl ⟨by rfl,fun w b=>by have qc0:=(b.cell (p:=⟨Y,qn*6,none⟩) Yc).trans x0;have qc1:=(b.cell (p:=⟨Y,qn*6+1,none⟩) Yc).trans x1;have qc2:=(b.cell (p:=⟨Y,qn*6+2,none⟩) Yc).trans x2;have qc3:=(b.cell (p:=⟨Y,qn*6+3,none⟩) Yc).trans x3;have qc4:=(b.cell (p:=⟨Y,qn*6+4,none⟩) Yc).trans x4;have qc5:=(b.cell (p:=⟨Y,qn*6+5,none⟩) Yc).trans x5;go_simp⟩) hHeld ?_;simp only[List.getElem_toArray,List.getElem_cons_zero,List.getElem_cons_succ,Act.put,List.setIfInBounds_toArray,List.set_cons_zero,List.set_cons_succ];refine wpAnyH_take (i:=5) (v:= .map (some w.heap.size)) rfl (by kernel_rfl) (by kernel_rfl) (by kernel_rfl) (fun _ _ _ h=>h) (Or.inl ⟨by rfl,fun _ _=>by go_simp⟩) hHeld ?_;simp only[List.getElem_toArray,List.getElem_cons_zero,List.getElem_cons_succ,Act.put,List.setIfInBounds_toArray,List.set_cons_zero,List.set_cons_succ];refine wpAnyH_take (i:=6) (v:= .pointer (some ⟨R,0,none⟩)) rfl (by kernel_rfl) (by kernel_rfl) (by kernel_rfl) (fun _ _ _ h=>h) (Or.inl ⟨by rfl,fun _ _=>by go_simp⟩) hHeld ?_;simp only[List.getElem_toArray,List.getElem_cons_zero,List.getElem_cons_succ,Act.put,List.setIfInBounds_toArray,List.set_cons_zero,List.set_cons_succ];refine wpAnyH_take (i:=7) (v:=iV r.k) rfl (by kernel_rfl) (by kernel_rfl) (by kernel_rfl) (fun _ _ _ h=>h) (Or.inl ⟨by rfl,fun w b=>by have qc:=(b.cell (p:=⟨R,0,none⟩) hR4).trans r0;go_simp⟩) hHeld ?_;simp only[List.getElem_toArray,List.getElem_cons_zero,List.getElem_cons_succ,Act.put,List.setIfInBounds_toArray,List.set_cons_zero,List.set_cons_succ];refine wpAnyH_take (i:=8) (v:=dv) rfl (by kernel_rfl) (by kernel_rfl) (by kernel_rfl) (fun _ _ _ h=>h) (Or.inl ⟨by rfl,fun w b=>by have qc:=aa HLK _ b;go_simp⟩) hHeld ?_;simp only[List.getElem_toArray,List.getElem_cons_zero,List.getElem_cons_succ,Act.put,List.setIfInBounds_toArray,List.set_cons_zero,List.set_cons_succ];have bW0:=xE W4;obtain⟨W0,hW0⟩:∃W0,W0=W4.drew:=⟨_,rfl⟩;rw[←hW0]at bW0 hHeld⊢;clear hW0;refine wpAnyH_ready (rs:=[9]) (by kernel_rfl) (by simp) ?_;refine AllReadyH.cons rfl (fun K hK=> ?_) AllReadyH.nil;simp only[List.getElem_toArray,List.getElem_cons_zero,List.getElem_cons_succ];go_simp;obtain⟨WA,hWA,zA,bA⟩:∃W,W=W0.alloc (.cells (dm 0 0 0 0 0 none 0 0) 49)∧aD W W0.heap.size 0 0 0 0 0 none 0 0∧bZ W0 W:=⟨_,rfl,aD.new _ _ _ _ _ _ _ _ _,aA _ _⟩;rw[←hWA];clear hWA;obtain⟨XA,hX⟩:∃X,X=W0.heap.size:=⟨_,rfl⟩;have upA:W4.heap.size≤XA:=by rw[hX];exact bW0.size
    rw[←hX]at zA⊢;have bWA:=Below.next bW0 bA;clear hX;refine hK.out _ _ bWA (fun hHeld=> ?_);clear hK K bA;refine wpAnyH_ready (rs:=[10]) (by kernel_rfl) (by simp) ?_;refine AllReadyH.cons rfl (fun K hK=> ?_) AllReadyH.nil;simp only[List.getElem_toArray,List.getElem_cons_zero,List.getElem_cons_succ];obtain⟨z0,z1,z2,z3,z4,z5⟩:=zA.cells;have zf:=zA.free;go_simp;obtain⟨WE,hWE,dE,bE,tE⟩:=dA zA bWA upA B.r B.e B.f B.t B.o aq B.es.length cq;rw[←hWE];refine hK.out _ _ bE (fun hHeld=> ?_);clear hK K hWE z0 z1 z2 z3 z4 z5 zf;refine wpAnyH_take (i:=11) (v:=dv) rfl (by kernel_rfl) (by kernel_rfl) (by kernel_rfl) (fun _ _ _ h=>h) (Or.inl ⟨by rfl,fun _ _=>by go_simp⟩) hHeld ?_;simp only[List.getElem_toArray,List.getElem_cons_zero,List.getElem_cons_succ,Act.put,List.setIfInBounds_toArray,List.set_cons_zero,List.set_cons_succ];refine wpAnyH_done (by kernel_rfl) ?_ _
    go_wp2_with fail
    go_meet;exact⟨XA,rfl,rfl,dE,bE⟩
   case rest=>
    obtain⟨X,rfl,rfl,bx,b5⟩:=hcut;obtain⟨W5,hW5⟩:∃W5,W5=wc:=⟨_,rfl⟩;subst hW5;have MH:=ah ((aa A4).next b5);have HR5:Hid (j6 W5 R r):=ah ((b5.block _ (cj (aa qW))).trans (aa qW));have HX5:=ah bx;obtain⟨g,capv,hdv,Wm,HN⟩:=aa HDO;have HN5:=ah (HN W5 b5);subst hdv;clear b5 HN HDO HLK A4 qW x0 x1 x2 x3 x4 x5 r0 r1 r2 r3 r4 r5 r6 r7 r8 r9 hR4 hRn hYn Yc;obtain⟨x0,x1,x2,x3,x4,x5⟩:=bx.cells;obtain⟨r0,r1,r2,r3,r4,r5,r6,r7,r8,r9⟩:=(aa HR5).cells;clear bx;obtain⟨od,hod⟩:∃od,od=fK B r:=⟨_,rfl⟩;rw[←hod]at HN5;have Zq:=ah hod;clear hod;have HOO:=HO
    have HST:Hid (o=match stepT B r with|none=>(none,3)|some D=>cZ (ko (oN f qn D)) (rs.drop (k+1))):=ah (by
     rw[aa HE]
     conv=>lhs;unfold cZ
     rw[if_neg (fun h=>h (aa HF)),Qh f r qn mN (aa HQN),←(aa GW).1];cases gx:stepT B r with
     |none=>rfl
     |some D=>simp only;rw[Km f r D qn mN (aa HQN)])
    clear HE HO;have EE:W5.ownsRow (Y+1) 55 6 (.slice aq B.es.length cq) B.es.length ((ai B.es).map (Value.int .i64)):=by
     have:=(aa MH).fb.own qn mN;rw[mI,←(aa GW).1,←(aa GW).2.1,←(aa GW).2.2]at this;exact this
    have HG:Hid (∀W6,W5.grownBy W6 (Value.slice aq B.es.length cq).ownBlock→bZ W1 W6∧j6 W6 R r∧aD W6 X B.r B.e B.f B.t B.o aq B.es.length cq∧gI W6 Y f A K∧∀p,p<4→p≠qn→W6.ownsRow (Y+1) 55 6 (mI f A K p) (f p).es.length ((ai (f p).es).map (Value.int .i64))):=ah fun W6 g6=>by
     have g6':W5.grownBy W6 (mI f A K qn).ownBlock:=by rw[mI,←(aa GW).1,←(aa GW).2.1,←(aa GW).2.2];exact g6
     obtain⟨h1,h2⟩:=(aa MH).fb.Un qn mN g6';exact⟨(aa MH).cL.grown g6 (aa MH).cL.size (fun q hq=>by have:=(EE.lt q hq).1;have:=(aa MH).up;omega),(g6.block R (cj (aa HR5)) (fun e=>aU EE (aa HR5) (by decide) R e.symm rfl)).trans (aa HR5),(g6.block X (aa HX5).lt (fun e=>aU EE (aa HX5) (by decide) X e.symm rfl)).trans (aa HX5),h1,h2⟩
    clear EE
    go_step
    go_step
    cases od with
    |none=>
     have xG:Hid (o=(none,3)):=ah (by rw[aa HST];unfold stepT;rw[←aa Zq])
     go_upto_region 11 with(go_at_fn g;refine(aa HN5).mono ?_;rintro x W6 ⟨rfl,g6⟩;clear x0 x1 x2 x3 x4 x5 r0 r1 r2 r3 r4 r5 r6 r7 r8 r9)
     obtain⟨W7,hW7,b7⟩:∃W7,W7=W6.alloc (.cells (dm 0 0 0 0 0 none 0 0) 49)∧bZ W6 W7:=⟨_,rfl,aA _ _⟩;rw[←hW7];have Pa:=ah (Below.next (aa Yb) (Below.next (aa HG W6 g6).1 b7));clear hW7 b7 g6 HG HN5 Wm;go_wp2;go_ret2;exact⟨oO.none (aa xG),aa Pa⟩
    |some D=>
     have Yd:B.cC:=by rw[(aa GW).1];exact(aa MH).fb.cJ qn mN
     have HDW:Hid (D.cC∧(∀u∈ai D.es,(Lit.int .i64 u).wf=true)∧D.es.length≤B.es.length+1):=ah (by
      have h1:=oJ Yd (aa HF) (aa Zq).symm;have h2:=Qi Yd (aa Zq).symm (by rw[(aa GW).1];exact(aa MH).fb.wf qn mN) (aa HVW)
      exact⟨h1.1,h2.1,h2.2⟩)
     clear Yd
     go_upto_region 11 with(go_at_fn g;refine(aa HN5).mono ?_;rintro x W6 ⟨⟨a6,c6,rfl,own6,lie6,few6⟩,g6⟩;clear x0 x1 x2 x3 x4 x5 r0 r1 r2 r3 r4 r5 r6 r7 r8 r9)
     obtain⟨W7,hW7,kb7,b7⟩:∃W7,W7=W6.alloc (.cells (dm D.r D.e D.f D.t D.o a6 D.es.length c6) 49)∧aD W7 W6.heap.size D.r D.e D.f D.t D.o a6 D.es.length c6∧bZ W6 W7:=⟨_,rfl,aD.new _ _ _ _ _ _ _ _ _,aA _ _⟩;rw[←hW7];obtain⟨Z,hZ⟩:∃Z,Z=W6.heap.size:=⟨_,rfl⟩;rw[←hZ]at kb7⊢;obtain⟨G1,G2,G3,G4,G5⟩:=aa HG W6 g6;have H7:Hid (∀W,bZ W7 W→bZ W1 W∧j6 W R r∧aD W X B.r B.e B.f B.t B.o aq B.es.length cq∧aD W Z D.r D.e D.f D.t D.o a6 D.es.length c6∧gI W Y f A K∧(∀p,p<4→p≠qn→W.ownsRow (Y+1) 55 6 (mI f A K p) (f p).es.length ((ai (f p).es).map (Value.int .i64)))∧W.ownsRow (Y+1) 55 6 (.slice a6 D.es.length c6) D.es.length ((ai D.es).map (Value.int .i64))):=ah fun W b=>by
      have bb:=Below.next b7 b;exact⟨Below.next G1 bb,(bb.block _ (cj G2)).trans G2,G3.next bb,kb7.next b,(bb.block _ G4.lt).trans G4,fun p hp fw=>aG (G5 p hp fw) (fun g _ hg=>bb.block g hg),aG own6 (fun g _ hg=>bb.block g hg)⟩
     have HL6:=ah lie6;have HF6:Hid (D.es.length<B.es.length→Td W1 W7 Y rs k f A K):=ah fun h=>(aa MH).next (Below.next (few6 h) b7);obtain⟨x0,x1,x2,x3,x4,x5⟩:=(G3.next b7).cells;obtain⟨z0,z1,z2,z3,z4,z5⟩:=kb7.cells;have aaO:Hid (stepT B r=some D→∀W8,bZ W7 W8→∀W9,az Y W8 W9→gI W9 Y (oN f qn D) (oN A qn a6) (oN K qn c6)→Td W1 W9 Y rs (k+1) (oN f qn D) (oN A qn a6) (oN K qn c6)):=ah fun hs W8 b8 W9 t9 fb9=>by
      obtain⟨h1,h2,h3,h4,h5,h6,h7⟩:=aa H7 W8 b8;refine⟨t9.under h1 (aa MH).up,(aa MH).fb.put qn mN h6 h7 (by rw[mI,←(aa GW).1,←(aa GW).2.1,←(aa GW).2.2];exact aa HL6) (aa HDW).1 (aa HDW).2.1 t9 fb9, ?_,fun q hq=> ?_,(aa MH).up⟩
      ·rw[←aa HOO,aa HST,hs]
      ·by_cases e:q=qn
       ·subst e;rw[pP];have:=(aa HDW).2.2;have h8:=(aa MH).few q hq;rw[←(aa GW).1]at h8;omega
       ·rw[ng _ _ e];have:=(aa MH).few q hq;omega
     have HHG:=ah Wm;clear hW7 b7 hZ g6 own6 lie6 few6 G1 G2 G3 G4 G5 kb7 HN5 HG Wm;by_cases hl:D.es.length<B.es.length
     case neg=>
      have HSS:Hid (stepT B r=some D):=ah (by unfold stepT;rw[←aa Zq];simp only;rw[if_neg (fun h=>hl h.1)]);have Xe:¬(D.es.length:Int)<(B.es.length:Int):=by omega
      clear hl
      go_upto_region 13 with fail
      clear x0 x1 x2 x3 x4 x5 z0 z1 z2 z3 z4 z5 Xe;obtain⟨k1,k2,k3,k4,k5,_⟩:=aa H7 W7 (Below.refl _ _);obtain⟨r0,r1,r2,r3,r4,r5,r6,r7,r8,r9⟩:=k2.cells;rw[aa HQN]at r1;obtain⟨z0,z1,z2,z3,z4,z5⟩:=k4.cells;obtain⟨f0,f1,f2,f3,f4,f5⟩:=k5.at qn mN;have ff:=k5.free;have hqi:¬4≤(qn:Int):=by omega
      have HK5:=ah k5;clear k1 k2 k3 k4 k5
      go_upto_region 14 with fail
      obtain⟨W9,hW9,HT9⟩:∃W9,W9=(((((W7.setCell ⟨Y,qn*6,none⟩ (iV D.r)).setCell ⟨Y,qn*6+1,none⟩ (iV D.e)).setCell ⟨Y,qn*6+2,none⟩ (iV D.f)).setCell ⟨Y,qn*6+3,none⟩ (iV D.t)).setCell ⟨Y,qn*6+4,none⟩ (iV D.o)).setCell ⟨Y,qn*6+5,none⟩ (.slice a6 D.es.length c6)∧Hid (Td W1 W9 Y rs (k+1) (oN f qn D) (oN A qn a6) (oN K qn c6)):=
       ⟨_,rfl,ah (aa aaO (aa HSS) W7 (Below.refl _ _) _ (FE _ _ _ _ _ _ _ _ _) ((aa HK5).put qn mN D a6 c6))⟩
      rw[←hW9];clear hW9 r0 r1 r2 r3 r4 r5 r6 r7 r8 r9 z0 z1 z2 z3 z4 z5 f0 f1 f2 f3 f4 f5 ff HK5;go_wp2
      go_roundw
      case rel=>exact⟨k+1,_,_,_,by omega,by go_num,HT9⟩
      case measure=>simp[intOf];omega
     case pos=>
      have Xe:(D.es.length:Int)<(B.es.length:Int):=by omega
      have Uq:iL W7 B aq cq:=by
       have:=(aa HF6 hl).fb.bin qn mN;rw[←(aa GW).1,←(aa GW).2.1,←(aa GW).2.2]at this;exact this
      by_cases ok:B.Ok
      case neg=>
       have HC:=jP B aq cq W7 Uq ok;have xG:Hid (o=(none,3)):=ah (by rw[aa HST];unfold stepT;rw[←aa Zq];simp only;rw[if_pos ⟨hl,ok⟩]);clear hl ok Uq
       go_wp2_with (go_at_call 176;refine HC.mono ?_;rintro e W8 ⟨rfl,d8⟩;clear HC x0 x1 x2 x3 x4 x5 z0 z1 z2 z3 z4 z5;have HB8:=ah (Below.next (aa Yb) (aa H7 W8 d8).1);clear d8)
       go_ret2;exact⟨oO.none (aa xG),aa HB8⟩
      case pos=>
       have HC:=gh B aq cq W7 Uq ok;have HSS:Hid (stepT B r=some D):=ah (by unfold stepT;rw[←aa Zq];simp only;rw[if_neg (fun h=>h.2 ok)]);clear hl ok Uq
       go_upto_region 13 with(go_at_call 176;refine HC.mono ?_;rintro e W8 ⟨rfl,d8⟩;clear HC x0 x1 x2 x3 x4 x5 z0 z1 z2 z3 z4 z5;have HB8:=ah d8;clear d8)
       clear Xe;obtain⟨k1,k2,k3,k4,k5,_⟩:=aa H7 W8 (aa HB8);obtain⟨r0,r1,r2,r3,r4,r5,r6,r7,r8,r9⟩:=k2.cells;rw[aa HQN]at r1;obtain⟨z0,z1,z2,z3,z4,z5⟩:=k4.cells;obtain⟨f0,f1,f2,f3,f4,f5⟩:=k5.at qn mN;have ff:=k5.free;have hqi:¬4≤(qn:Int):=by omega
       have HK5:=ah k5;clear k1 k2 k3 k4 k5
       go_upto_region 14 with fail
       obtain⟨W9,hW9,HT9⟩:∃W9,W9=(((((W8.setCell ⟨Y,qn*6,none⟩ (iV D.r)).setCell ⟨Y,qn*6+1,none⟩ (iV D.e)).setCell ⟨Y,qn*6+2,none⟩ (iV D.f)).setCell ⟨Y,qn*6+3,none⟩ (iV D.t)).setCell ⟨Y,qn*6+4,none⟩ (iV D.o)).setCell ⟨Y,qn*6+5,none⟩ (.slice a6 D.es.length c6)∧Hid (Td W1 W9 Y rs (k+1) (oN f qn D) (oN A qn a6) (oN K qn c6)):=
        ⟨_,rfl,ah (aa aaO (aa HSS) W8 (aa HB8) _ (FE _ _ _ _ _ _ _ _ _) ((aa HK5).put qn mN D a6 c6))⟩
       rw[←hW9];clear hW9 r0 r1 r2 r3 r4 r5 r6 r7 r8 r9 z0 z1 z2 z3 z4 z5 f0 f1 f2 f3 f4 f5 ff HK5;go_wp2
       go_roundw
       case rel=>exact⟨k+1,_,_,_,by omega,by go_num,HT9⟩
       case measure=>simp[intOf];omega
theorem FF(es:List Ev)(k:Nat):(ai es).take (6*k)=ai (es.take k):=by
 induction k generalizing es with
 |zero=>simp[ai]
 |succ k ih=>
  cases es with
  |nil=>simp[ai]
  |cons v es=>
   show(aY v++ai es).take (6*(k+1))=aY v++ai (es.take k);rw[show 6*(k+1)=(aY v).length+6*k by show _=6+_;omega,List.take_append];rw[List.take_of_length_le (by omega),Nat.add_sub_cancel_left,ih]
theorem lC.least{A B:tF}{la lb n k:Nat}(h:lC A B la lb n)(hs:∀j,j<k→oz A B j)(ha:k≤la)(hb:k≤lb):k≤n:=by
 rcases Nat.lt_or_ge n k with h1|h1
 ·rcases h.stop with h2|h2|h2
  ·omega
  ·omega
  ·exact absurd (hs n h1) h2
 ·exact h1
theorem FG{es os:List Ev}{k:Nat}(h:es.take k=os.take k)(he:k≤es.length)(ho:k≤os.length):∀j,j<k→oz (ai es) (ai os) j:=by
 intro j hj i hi;rw[kW es j (by omega) i hi,kW os j (by omega) i hi];have:es[j]'(by omega)=os[j]'(by omega):=by
  have h1:(es.take k)[j]? =(os.take k)[j]? :=by rw[h]
  rw[List.getElem?_take,List.getElem?_take,if_pos hj,if_pos hj,List.getElem?_eq_getElem (by omega),List.getElem?_eq_getElem (by omega)]at h1;exact Option.some.inj h1
 rw[this]
def Ye(ad:tB)(c l:Nat):Option Addr:=if c=l then ad else ad.map (·.add (l*6))
theorem pQ:∀(es:List Ev) (l:Nat),ai (es.drop l)=(ai es).drop (6*l)
 |es,0=>by simp
 |[],l+1=>by simp[ai]
 |v::es,l+1=>by
  rw[List.drop_succ_cons,pQ es l];show(ai es).drop (6*l)=(aY v++ai es).drop (6*(l+1));have e1:List.drop ((aY v).length+6*l) (aY v)=[]:=List.drop_eq_nil_of_le (by omega);rw[show 6*(l+1)=(aY v).length+6*l by simp[aY];omega,List.drop_append,e1,Nat.add_sub_cancel_left,List.nil_append]
theorem RowK.within{k:IntKind}{w:tA}{b off len:Nat}{L:tF}(h:RowK k w (some ⟨b,off,none⟩) len L)(d m:Nat)(hd:d+m≤len):RowK k w (some ⟨b,off+d,none⟩) m ((L.drop d).take m):=by
 have hl:=h.b_;refine⟨by rw[List.length_take,List.length_drop];omega,fun u hu=>h.wf u (List.mem_of_mem_drop (List.mem_of_mem_take hu)),fun i hi=>⟨b,off+d,rfl,h.lt (by omega), ?_⟩⟩;have hc:=h.at (d+i) (by omega);rw[Nat.add_assoc,hc];congr 2;simp only[List.getD_eq_getElem?_getD];rw[List.getElem?_take,if_pos hi,List.getElem?_drop]
theorem Ur{w:tA}{ad:tB}{n c:Nat}{es:List Ev}(hr:RowK .i64 w ad (6*n) (ai es))(nil:ad=none→c=0)(l h:Nat)(h1:l≤h)(h2:h≤n)(hc:n≤c):
  RowK .i64 w (Ye ad c l) (6*(h-l)) (ai ((es.drop l).take (h-l)))∧(Ye ad c l=none→c-l=0):=by
 have vq:ai ((es.drop l).take (h-l))=((ai es).drop (6*l)).take (6*(h-l)):=by rw[←FF,pQ]
 unfold Ye;by_cases AL:c=l
 ·rw[if_pos AL];have:h-l=0:=by omega
  rw[this];simp only[List.take_zero];exact⟨RowK.nil _ _ _,fun _=>by omega⟩
 ·rw[if_neg AL];cases ad with
  |none=>have:=nil rfl;omega
  |some x=>
   refine⟨?_,fun h=>by simp at h⟩;rcases Nat.eq_zero_or_pos (h-l)with h0|h0
   ·rw[h0];simp only[List.take_zero];exact RowK.nil _ _ _
   ·obtain⟨b,off,hx⟩:=hr.form (by omega);cases hx;rw[vq];have:=hr.within (6*l) (6*(h-l)) (by omega);have e:(⟨b,off,none⟩:Addr).add (l*6)=⟨b,off+6*l,none⟩:=by rw[Nat.mul_comm];unfold Addr.add;split<;>simp_all
    simp only[Option.map_some];rw[e];exact this
theorem aaQ:Tryz.prog.underlying 176=some (.slice (Tryz.prog.elem 176)):=by kernel_rfl
theorem Us(w:tA):(sizeOf (Tryz.prog.elem 176)).run Tryz.prog w= .ok 10 w:=by
 have:Tryz.prog.elem 176=167:=by kernel_rfl
 rw[this];simp[sizeOf,go_sem];rfl
theorem s6(b off n c h:Nat)(h2:h≤c)(w:tA):(Instr.sliceAt 176 (.slice (some ⟨b,off,none⟩) n c) none (some (iV h)) none).run Tryz.prog w= .ok (.slice (some ⟨b,off,none⟩) h c) w:=by
 rw[run_sliceAt_slice w _ _ _ _ _ aaQ,run_slice_h w _ _ _ _ aaQ _ _ (by omega) (by omega),Us];simp[sliced,Addr.add_mid]
theorem yy:∀(l:List Rec) (S:List Bt),(cZ S l).1=none→¬(cZ S l).2=0
 |[],S,h=>by
  unfold cZ at h⊢;split at h
  ·cases h
  ·rename_i g;rw[if_neg g];decide
 |r::l,S,h=>by
  unfold cZ at h⊢;split at h
  ·rename_i g;rw[if_pos g];exact g
  ·rename_i g;rw[if_neg g];split at h
   ·decide
   ·rename_i D e;exact yy l (put S r D) h
theorem s7:∀(rs:List Rec) (k:Nat),(aB rs).take (10*k)=aB (rs.take k)
 |[],k=>by simp[aB]
 |v::rs,0=>by simp[aB]
 |v::rs,k+1=>by
  have hl:(bj v).length=10:=rfl;show(bj v++aB rs).take (10*(k+1))=bj v++aB (rs.take k);rw[show 10*(k+1)=(bj v).length+10*k by omega,List.take_length_add_append,s7 rs k]
theorem FH{w:tA}{a:tB}{rs:List Rec}(hr:RowK .i64 w a (10*rs.length) (aB rs))(k:Nat)(hk:k≤rs.length):RowK .i64 w a (10*(rs.take k).length) (aB (rs.take k)):=by
 have hl:(rs.take k).length=k:=by simp;omega
 rw[hl,←s7];refine⟨by have:=hr.b_;simp;omega,fun u hu=>hr.wf u (List.mem_of_mem_take hu),fun i hi=> ?_⟩;obtain⟨b,off,e,hb,hc⟩:=hr.cell i (by omega);refine⟨b,off,e,hb,hc.trans ?_⟩;simp only[List.getD_eq_getElem?_getD];rw[List.getElem?_take_of_lt hi]
theorem Qk(rs:List Rec)(b off c R h:Nat)(bv:Bool)(w:tA)(hR:w.heap[R]? =some (.cells #[.slice (some ⟨b,off,none⟩) rs.length c] 176 (0,0)))(hr:RowK .i64 w (some ⟨b,off,none⟩) (10*rs.length) (aB rs))(hc:rs.length≤c)(hh:h<rs.length)(hlen:(rs.length+1)*48≤140737488355328)
  (hb:bv=true↔(cZ (ko fL) (rs.take (h+1))).1=none):
  cA 147 #[iV h,.pointer (some ⟨R,0,none⟩)] w (rB (.bool bv) w):=by
 have hT:=uR (rs.take (h+1)) (some ⟨b,off,none⟩) c w (FH hr (h+1) (by omega)) (by simp;omega);have hl:(rs.take (h+1)).length=h+1:=by simp;omega
 rw[hl]at hT;have hcut:=fun w=>s6 b off rs.length c (h+1) (by omega) w;have k0:w.cell? ⟨R,0,none⟩=some (.slice (some ⟨b,off,none⟩) rs.length c):=by simp[World.cell?,hR]
 have hE:=yy (rs.take (h+1)) (ko fL);generalize cZ (ko fL) (rs.take (h+1))=o at hT hE hb;obtain⟨h1,hh1⟩:∃h1:Nat,h1=h+1:=⟨_,rfl⟩;rw[←hh1]at hT hcut;have hh2:(h:Int)+1=(h1:Int):=by omega
 have HH:=ah (And.intro hE hb);clear hE hb hl hr hR hh1;have hT':cA 145 #[.slice (some ⟨b,off,none⟩) h1 c] w fun x w'=>∃v er,x= .returned (.tuple #[v,iV er])∧Hid (er=0↔¬o.1=none)∧bZ w w':=hT.mono fun x w' ⟨h1,h2⟩=>by
  cases ho:o.1 with
  |none=>exact⟨_,_,h1.1 ho,ah ⟨fun h=>absurd h ((aa HH).1 ho),fun h=>absurd rfl h⟩,h2⟩
  |some S=>obtain⟨Y,f,A,K,e,e2,_⟩:=h1.2 S ho;exact⟨_,_,e,ah ⟨(fun _ h=>by cases h),fun _=>rfl⟩,h2⟩
 clear hT;go_enter Tryz.func147,Tryz.ntmps147
 go_wp2_with (go_at_call 145;refine hT'.mono ?_;rintro e W2 ⟨v2,er,rfl,HEr,d2⟩;clear hT')
 go_ret;refine⟨?_,d2⟩;have h3:(er !=0)=bv:=by
  have h4:=aa HEr;have h5:=(aa HH).2;cases bv with
  |true=>
   have:¬er=0:=fun e=>h4.1 e (h5.1 rfl);simpa using this
  |false=>
   have:er=0:=h4.2 (fun e=>by have:=h5.2 e;cases this);simp[this]
 rw[←h3];rfl
def Yf(w w':tA)(o:Option (List Bt)×Nat×Int)(x:Ending):Prop:=
 (o.1=none→x= .returned (.tuple #[.slice none 0 0,iV o.2.1,iV o.2.2]))∧
 ∀S,o.1=some S→∃Y f A K,x= .returned (.tuple #[.slice (some ⟨Y,0,none⟩) 4 4,iV 0,iV 0])∧o.2.1=0∧o.2.2=0∧S=ko f∧IC w' Y f A K∧w.heap.size≤Y
theorem Kn{W:tA}{v:tJ}{j e:Int}{tmps:tN}(t2:tmps[2]? =some v)(t3:tmps[3]? =some (iV j))(t4:tmps[4]? =some (iV e)):(results Tryz.f94 tmps).run Tryz.prog W= .ok (.tuple #[v,iV j,iV e]) W:=by
 simp[results,Tryz.results94,t2,t3,t4]
theorem FI:∀B∈ko fL,B.Ok:=(s5 fL Bt.Ok).2 fun _ _=>Bt.cR
theorem Ut(rs:List Rec)(a:tB)(c:Nat)(w:tA)(hr:RowK .i64 w a (10*rs.length) (aB rs))(hc:rs.length≤c)(hlen:(rs.length+1)*48≤140737488355328):
  cA 94 #[.slice a rs.length c] w fun x w'=>Yf w w' (ki (ko fL) 0 rs) x∧bZ w w':=by
 have HR:Hid (∀W,bZ w W→RowK .i64 W a (10*rs.length) (aB rs)):=ah fun W b=>hr.below b;clear hr;obtain⟨W,hW,bx,B0⟩:∃W,W=w.alloc (.cells #[.slice a rs.length c] 176)∧W.heap[w.heap.size]? =some (.cells #[.slice a rs.length c] 176 (0,0))∧bZ w W:=⟨_,rfl,heap_alloc_new _ _,aA _ _⟩;have HT:=uR rs a c W (aa HR W B0) hlen;have ur:W.cell? ⟨w.heap.size,0,none⟩=some (.slice a rs.length c):=by simp[World.cell?,bx]
 obtain⟨o,ho⟩:∃o,o=ki (ko fL) 0 rs:=⟨_,rfl⟩;rw[←ho];have HB:=ah (And.intro bx B0);cases h1:o.1 with
 |some S=>
  have ht:=FB rs (ko fL) S 0 o.2.1 o.2.2 rfl FI (by rw[←ho,←h1]);rw[ht.1]at HT;have HT':cA 145 #[.slice a rs.length c] W fun x w'=>∃Y f A K,x= .returned (.tuple #[.slice (some ⟨Y,0,none⟩) 4 4,iV 0])∧Hid (S=ko f∧IC w' Y f A K∧W.heap.size≤Y)∧bZ W w':=HT.mono fun x w' ⟨g1,g2⟩=>by
   obtain⟨Y,f,A,K,e,_,e3,e4,e5⟩:=g1.2 S rfl;exact⟨Y,f,A,K,e,ah ⟨e3,e4,e5⟩,g2⟩
  have HH:Hid (o.1=some S∧o.2.1=0∧o.2.2=0):=ah ⟨h1,ht.2⟩;clear HT ho h1 ht bx B0;go_enter Tryz.func94,Tryz.ntmps94
  go_upto_region 1 with fail
  rw[←hW];clear hW
  go_wp2_with (go_at_call 145;refine HT'.mono ?_;rintro e W2 ⟨Y,f,A,K,rfl,HY,d2⟩;clear HT' ur)
  refine bodyPost_ret (Kn rfl rfl rfl) rfl ⟨⟨(fun h=>by rw[(aa HH).1]at h;cases h),fun S' h=> ?_⟩,Below.next (aa HB).2 d2⟩;rw[(aa HH).1]at h;cases h;exact⟨Y,f,A,K,rfl,(aa HH).2.1,(aa HH).2.2,(aa HY).1,(aa HY).2.1,Nat.le_trans (aa HB).2.size (aa HY).2.2⟩
 |none=>
  obtain⟨n,hn,hj,he,hle,Lg⟩:=Bm rs (ko fL) 0 o.2.1 o.2.2 rfl FI (by rw[←ho,←h1]);have qH:=aa HR W B0;obtain⟨b,off,rfl⟩:=qH.form (by omega);have Zr:rs.take rs.length=rs:=List.take_length;have je:=Lg rs.length hn;rw[Zr]at je;have uL:Hid (¬(cZ (ko fL) rs).2=0):=ah (yy rs (ko fL) je.1);have HT':cA 145 #[.slice (some ⟨b,off,none⟩) rs.length c] W fun x w'=>∃er,x= .returned (.tuple #[.slice none 0 0,iV er])∧¬er=0∧bZ W w':=HT.mono fun x w' ⟨g1,g2⟩=>⟨_,g1.1 je.1,aa uL,g2⟩;have HS:Hid (∀W',bZ W W'→cA 146 #[iV rs.length,.func (.func 147) #[] #[.pointer (some ⟨w.heap.size,0,none⟩)]] W' (rB (iV n) W')):=ah fun W' b'=>
   IB 147 w.heap.size rs.length n W' (by omega) (by omega) (enters_of Tryz.func147 (by kernel_rfl) rfl) (fun h WD hh b''=>Qk rs b off c w.heap.size h (decide (n≤h)) WD (((Below.next b' b'').block _ (cj (aa HB).1)).trans (aa HB).1) (aa HR WD (Below.next (aa HB).2 (Below.next b' b''))) hc hh hlen (by
    rw[decide_eq_true_eq];constructor
    ·intro h1;exact(Lg (h+1) (by omega)).1
    ·intro h1;rcases Nat.lt_or_ge h n with h2|h2
     ·obtain⟨S',hS⟩:=hle (h+1) (by omega);rw[hS]at h1;cases h1
     ·exact h2))
  have HE:Hid (∀W',bZ W W'→cA 145 #[.slice (some ⟨b,off,none⟩) ((n+1:Nat)) c] W' (rB (.tuple #[.slice none 0 0,iV o.2.2]) W')):=ah fun W' b'=>by
   have h1:=uR (rs.take (n+1)) (some ⟨b,off,none⟩) c W' (FH (aa HR W' (Below.next (aa HB).2 b')) (n+1) (by omega)) (by simp;omega);rw[show(rs.take (n+1)).length=n+1 by simp;omega]at h1;refine h1.mono fun x w' ⟨g1,g2⟩=>⟨?_,g2⟩;have h2:=Lg (n+1) (by omega);rw[g1.1 h2.1,h2.2 rfl]
  have hcut:=fun w=>s6 b off rs.length c (n+1) (by omega) w;have WC:Hid (o.1=none∧o.2.1=n):=ah ⟨h1,by omega⟩;obtain⟨er2,her2⟩:∃er2,er2=o.2.2:=⟨_,rfl⟩;rw[←her2]at HE;have HER:=ah her2;obtain⟨n1,sH⟩:∃n1:Nat,n1=n+1:=⟨_,rfl⟩;rw[←sH]at HE hcut;have uw:(n:Int)+1=(n1:Int):=by omega
  have Bp:(n:Int)≤1000000000000000:=by omega
  clear HT ho h1 bx B0 qH Zr je uL hle Lg hj he her2 sH HR;go_enter Tryz.func94,Tryz.ntmps94
  go_upto_region 1 with fail
  rw[←hW];clear hW
  go_upto_region 2 with(go_at_call 145;refine HT'.mono ?_;rintro e W2 ⟨er,rfl,ER,d2⟩;clear HT' ur)
  have ahd:(er==0)=false:=by simpa using ER
  have AN:W2.cell? ⟨w.heap.size,0,none⟩=some (.slice (some ⟨b,off,none⟩) rs.length c):=by simp[World.cell?,(d2.block _ (cj (aa HB).1)).trans (aa HB).1]
  have HS2:=aa HS W2 d2;have SJ:=ah d2;clear ER HS d2
  go_upto_region 5 with(go_at_call 146;refine HS2.mono ?_;rintro e W3 ⟨rfl,d3⟩;clear HS2 AN)
  have LF:W3.cell? ⟨w.heap.size,0,none⟩=some (.slice (some ⟨b,off,none⟩) rs.length c):=by simp[World.cell?,((Below.next (aa SJ) d3).block _ (cj (aa HB).1)).trans (aa HB).1]
  have Ki:=aa HE W3 (Below.next (aa SJ) d3);have HD3:=ah d3;clear HE d3
  go_wp2_with (go_at_call 145;refine Ki.mono ?_;rintro e W4 ⟨rfl,d4⟩;clear Ki LF)
  refine bodyPost_ret (Kn rfl rfl rfl) rfl ⟨⟨fun _=> ?_,fun S h=>by rw[(aa WC).1]at h;cases h⟩,Below.next (aa HB).2 (Below.next (Below.next (aa SJ) (aa HD3)) d4)⟩;rw[(aa WC).2,←aa HER];rfl
section
open Rv
structure Nt(w W:tA)(R:Nat)(s:St)(an:An)(bu:List An)(va:tJ):Prop where
 tg:Tg W R 267 [va] s an
 own:W.ownsRow (R+1) 59 4 va bu.length ((kz bu).map (Value.int .i64))
 cL:bZ w W
 up:w.heap.size≤R
theorem Nt.next{w W W':tA}{R:Nat}{s:St}{an:An}{bu:List An}{va:tJ}(h:Nt w W R s an bu va)(b:bZ W W'):Nt w W' R s an bu va:=⟨h.tg.next b,aG h.own (fun g _ hg=>b.block g hg),Below.next h.cL b,h.up⟩
def aaS(w:tA)(R:Nat)(s:St)(bu:List An)(v:Ev)(e:Ending)(w':tA):Prop:=
 (e= .returned (.bool true)∧∃s' qp va',v.Ok∧Step s v s' qp true∧Nt w w' R s' qp (bu++[qp]) va')∨(e= .returned (.bool false)∧(¬v.Ok∨∃s' qp,Step s v s' qp false)∧bZ w w')
theorem Yg:jk Tryz.prog 218 59 4 32=true:=by kernel_rfl
theorem Ql(w W:tA)(R:Nat)(s:St)(an:An)(bu:List An)(va:tJ)(v:Ev)(ok:s.Ok)(hn:bu.length≤2000)(N:Nt w W R s an bu va):
  cA 183 #[.pointer (some ⟨R,0,none⟩),ov v] W fun e w'=>aaS w R s bu v e w':=by
 obtain⟨_,_,_,_,_,tb,_⟩:=N.tg.ex;refine en (H:=[]) 25 [vv (.pointer (some ⟨R,0,none⟩)),vg (XO v)] Tryz.func183 rfl rfl (m0 W) (r [1] rfl fun α=>j_ rfl (by kernel_rfl) fun x hS=> ?_);have N1:=N.next hS.now.2;refine(EP s an v x R 267 [va] ok N1.tg (.inr ⟨_,rfl⟩)).mono ?_;rintro _ w' ⟨s',qp,ch,er,rfl,hd,h1,h2,o⟩;have cL:=o.toBelow N1.cL N1.up rfl;cases ch
 ·refine⟨vv (.bool false),[],_,_,_,rfl,.inl rfl,Mem.start (M:=fun _=>False) (G:=fun _=>True) (R:=fun w2=>bZ w w2) (fun _ h=>h.elim) (fun _ _=>trivial) (fun w2 b=>Below.next cL b),r [] rfl fun _=>fin fun w2 hS=> .inr ⟨rfl, ?_,hS.now.2⟩⟩;cases hd with
  |step hv st=>exact .inr ⟨s',qp,st⟩
  |form _ hv h0=>exact .inl fun ed=>h0 (hv.symm.trans ed)
 obtain⟨hv,st⟩:v.Ok∧Step s v s' qp true:=by cases hd with|step hv st=>exact⟨hv,st⟩
 obtain⟨a1,c1,a2,c2,ws,t,r1,r2,m1,m2,hW,x1,x2,l1,l2⟩:=(h1 rfl).ex;have o1:aT (qF s'.ep s'.nx s'.gv (.slice a1 s'.rn c1) (.slice a2 s'.ln c2) ws) 41:=(uG.mk (w:=w') ⟨a1,c1,a2,c2,ws,rfl,r1,r2,l1,l2,m1,m2,hW⟩).one;have hRx:R<x.heap.size:=Nat.lt_of_lt_of_le tb.lt hS.now.2.size;have own:=N1.own;have Ll:∀b,va.ownBlock=some b→R<b∧b<x.heap.size:=fun b hb=>by
  rcases own.2 with⟨rfl,_⟩|⟨g,_,_,rfl,h1,h2,_⟩
  ·cases hb
  ·cases hb;exact⟨h1,(Array.getElem?_eq_some_iff.1 h2).1⟩
 have Dg:=aG own fun g hg aL=>o.block g aL (Nat.ne_of_gt (Ll g hg).1);have sf:=own.1;have JG:Mem w' (hs [SL R 267 (qF s'.ep s'.nx s'.gv (.slice a1 s'.rn c1) (.slice a2 s'.ln c2) ws) qp [.o va]]) (fun b=>va.ownBlock=some b∨False) (fun w=>RowK .i64 w a1 (2*s'.rn) s'.R∧RowK .i64 w a2 (4*s'.ln) s'.L) (fun w2=>bZ w w2∧w2.ownsRow (R+1) 59 4 va bu.length ((kz bu).map (Value.int .i64))):=by
  refine⟨fun e he=>by cases List.mem_singleton.1 he;exact(EO (.inr ⟨_,rfl⟩)).1 t,fun i j e e' hi hj _=> ?_,fun e he hm=> ?_,fun b hb=> ?_,fun w2 c=> ?_,fun w2 c=>⟨?_, ?_⟩⟩
  ·obtain⟨hi,_⟩:=List.getElem?_eq_some_iff.1 hi;obtain⟨hj,_⟩:=List.getElem?_eq_some_iff.1 hj;have hi:i<1:=hi;have hj:j<1:=hj;omega
  ·cases List.mem_singleton.1 he;exact hm.elim (fun h=>Nat.lt_irrefl _ (Ll _ h).1) id
  ·exact hb.elim (fun h=>Nat.lt_of_lt_of_le (Ll b h).2 o.size) False.elim
  ·have key:∀y:Addr,x.heap.size≤y.block→¬(y.block∈(hs [SL R 267 (qF s'.ep s'.nx s'.gv (.slice a1 s'.rn c1) (.slice a2 s'.ln c2) ws) qp [.o va]]).map bQ.a∨va.ownBlock=some y.block∨False):=fun y hy k=>by
    rcases k with k|k|k
    ·have:y.block=R:=List.mem_singleton.1 k;omega
    ·have:=(Ll _ k).2;omega
    ·exact k
   exact⟨mf r1 c fun y hy _=>key y (x1 y hy),mf r2 c fun y hy _=>key y (x2 y hy)⟩
  ·exact cL.trans (c.below (Nat.le_trans cL.size (Nat.le_refl _)) fun b hb hm=>by
    have:b=R:=List.mem_singleton.1 hm;have:=N.up
    omega)
  ·exact aG Dg fun g hg aL=>c.block g aL fun hm=>by
    have:g=R:=List.mem_singleton.1 hm;have:=(Ll g hg).1;omega
 refine⟨vv (.bool true),_,_,_,_,rfl,.inl rfl,JG,sv 0 (vp 0 0 R) rfl (r [3] rfl fun _=>qJ 1 rfl Yg (fun w2 hS=>(hS.at 0 rfl).lt) (fun w1 w2 h c=>cS h c (by have:=N.up;omega)) fun g c hc=> ?_)⟩;refine r [] rfl fun _=>fin fun w2 hS=> .inl ⟨rfl,s',qp,_,hv,st,⟨⟨a1,c1,a2,c2,ws,(EO (.inr ⟨_,rfl⟩)).2 (hS.at 0 rfl),hS.now.1.1,hS.now.1.2,m1,m2,hW,fun y hy=>by have:=x1 y hy;omega,fun y hy=>by have:=x2 y hy;omega,l1,l2⟩, ?_,hS.now.2.1,N.up⟩⟩;have:=hS.now.2.2;rw[vz,List.map_append,List.length_append];exact this
inductive Av(es:List Ev)(w w':tA):Value→Int→Prop
 |bad {er:Int} (h:¬er=0) (hr:Rv es St.zero er):Av es w w' (.slice none 0 0) er
 |told {s:St} {va:tJ} (bu:List An) (h:es.length≤2000) (ht:bm es s bu) (own:w'.ownsRow w.heap.size 59 4 va bu.length ((kz bu).map (Value.int .i64))):Av es w w' va 0
def NtI(w:tA)(R:Nat)(es:List Ev)(k:Nat)(W:tA):Prop:=∃s an bu va,bm (es.take k) s bu∧Nt w W R s an bu va
def NtJ(w:tA)(es:List Ev)(W:tA):Prop:=JX es∧bZ w W
theorem MI(w:tA)(R:Nat)(es:List Ev)(hl:es.length≤2000):xP 183 (.pointer (some ⟨R,0,none⟩)) es (NtI w R es) (NtJ w es) where
 enters:=enters_of Tryz.func183 (by kernel_rfl) rfl
 step:=by
  intro k hk W ⟨s,an,bu,va,ht,N⟩;have hlen:=ht.len;rw[List.length_take]at hlen;refine(Ql w W R s an bu va es[k] ht.wf.ok (by omega) N).mono ?_;rintro e w' (⟨rfl,s',qp,va',hv,st,N'⟩|⟨rfl,hb,b⟩)
  ·refine .inl ⟨rfl,s',qp,_,va', ?_,N'⟩;rw[List.take_succ_eq_append_getElem hk];exact .snoc ht hv st
  ·exact .inr ⟨rfl,⟨k,s,bu,hk,ht,hb⟩,b⟩
 keep:=by
  intro k W W' ⟨s,an,bu,va,ht,N⟩ b;exact⟨s,an,bu,va,ht,N.next b⟩
abbrev Ko:Array Value:= #[iV 0,iV 0,iV 0,.slice none 0 0,.slice none 0 0,iV 0,.bool false,.bool false,.bool false,.bool false,.bool false,.bool false,.bool false,.bool false,iV 0,.bool false,.bool false,.bool false,.bool false,.bool false,.bool false,.bool false,.bool false,iV 0,.bool false,.bool false,.bool false,.bool false,.bool false,.bool false,.bool false,.bool false,iV 0,.bool false,.bool false,.bool false,.bool false,.bool false,.bool false,.bool false,.bool false,iV 0,iV 0,iV 0,iV 0,.slice none 0 0]
theorem aaT:Ko=(pH 0 0 0 (.slice none 0 0) (.slice none 0 0) eF 0 0 0 0 [.slice none 0 0]).toArray:=rfl
theorem Uu{w W:tA}(h:W=w.alloc (.cells Ko 267)):Nt w W w.heap.size St.zero An.zero [] (.slice none 0 0):=by
 subst h;refine⟨⟨none,0,none,0,eF, ?_,RowK.nil _ _ _,RowK.nil _ _ _,fun _=>rfl,fun _=>rfl,js,fun x hx=>(by cases hx),fun x hx=>(by cases hx),Nat.le_refl _,Nat.le_refl _⟩,World.ownsRow_nil _ _ _ _,aA _ _,Nat.le_refl _⟩;unfold dK;rw[heap_alloc_new,aaT];rfl
theorem Uv{ops:tL}{rest:List Oper}{o:Oper}{a:Act}{Q:tH}{w:tA}(d:Nat)(ho:o.op= .alloc 267)(hd:o.dst=some d)(hw:Region.wanted o (yielded ops a.tmps)=true)
  (h:∀w',Nt w w' w.heap.size St.zero An.zero [] (.slice none 0 0)→wpList Tryz.prog ops Q rest (a.put (some d) (.pointer (some ⟨w.heap.size,0,none⟩))) w'):wpList Tryz.prog ops Q (o::rest) a w:=
 wpList_step fun K hK=>by
  rw[if_pos hw];have:=hK _ _ (h _ (Uu (w:=w) rfl));rw[←hd]at this;unfold Oper.wp;simp only[execOp,ho];simpa[go_sem]using this
theorem vP{W:tA}{x:tJ}{er:Int}{tmps:tN}(t2:tmps[2]? =some x)(t3:tmps[3]? =some (iV er)):
  (results Tryz.f141 tmps).run Tryz.prog W= .ok (.tuple #[x,iV er]) W:=by
 simp[results,Tryz.results141,t2,t3]
theorem FJ(es:List Ev)(a:tB)(cap:Nat)(w:tA)(hr:RowK .i64 w a (6*es.length) (ai es)):
  cA 141 #[.slice a es.length cap] w fun e w'=>∃va er,e= .returned (.tuple #[va,iV er])∧Av es w w' va er∧bZ w w':=by
 go_enter Tryz.func141,Tryz.ntmps141
 go_upto_region 2 with(refine Uv 4 rfl rfl rfl ?_;intro W1 N1)
 have HE:Hid (cA 37 #[.slice a es.length cap,.func (.func 183) #[.pointer (some ⟨w.heap.size,0,none⟩)] #[]] W1 fun e w'=>∃er:Int,e= .returned (iV er)∧((er=0∧es.length≤2000∧NtI w w.heap.size es es.length w')∨(¬er=0∧Rv es St.zero er∧bZ w w'))):=ah (by
  by_cases hl:es.length≤2000
  ·refine(ES 183 w.heap.size es _ _ (MI w w.heap.size es hl) a cap W1 ⟨_,_,_,_,by simpa using bm.nil,N1⟩ hl (fun k W hI=>by obtain⟨_,_,_,_,_,N⟩:=hI;exact hr.below N.cL)).mono ?_;rintro e w' (⟨rfl,h1⟩|⟨rfl,h1⟩)
   ·exact⟨0,rfl,.inl ⟨rfl,hl,h1⟩⟩
   ·exact⟨3,rfl,.inr ⟨by decide,.form hl h1.1,h1.2⟩⟩
  ·refine(A3 _ _ _ a cap W1 (by omega)).mono ?_;rintro e w' ⟨rfl,b3⟩
   exact⟨1,rfl,.inr ⟨by decide,.size (by omega),Below.next N1.cL b3⟩⟩)
 clear N1
 go_upto_region 3 with(go_at_call 37;refine(aa HE).mono ?_;rintro e W3 ⟨er,rfl,HH⟩;clear HE)
 rcases HH with⟨rfl,hl,s,an,bu,va,ht,N⟩|⟨h0,rv,b⟩
 ·rw[List.take_length]at ht;obtain⟨_,_,_,_,_,tb,_⟩:=N.tg.ex;have y45:=tb.more;have HN:=ah N;have HT:=ah ht;clear tb N ht;go_wp2;exact bodyPost_ret (vP rfl rfl) rfl ⟨_,_,rfl,.told bu hl (aa HT) (kU (aa HN).own (by omega)),(aa HN).cL⟩
 ·have HV:=ah rv;have HB:=ah b;clear rv b;go_wp2;exact bodyPost_ret (vP rfl rfl) rfl ⟨_,_,rfl,.bad h0 (aa HV),aa HB⟩
end
theorem Step.Qm{s s':St}{v:Ev}{an:An}{ch:Bool}(ok:s.Ok)(h:Step s v s' an ch):∀u∈eU an,(Lit.int .i64 u).wf=true:=by
 have e0:=ok.count.e0;have e1:=ok.count.e1;have g0:=ok.count.g0;have g1:=ok.count.g1;intro u hu;cases h with
 |recv hk hr hg=>
  have hb:=gf ok hr;simp only[eU,List.mem_cons,List.not_mem_nil,or_false]at hu;rcases hu with rfl|rfl|rfl|rfl
  ·decide
  ·exact sL e0 (by omega)
  ·exact sL g0 (by omega)
  ·exact sL hb.2.2.1 (by have:=hb.2.2.2;simp at this⊢;omega)
 |il=>simp only[eU,List.mem_cons,List.not_mem_nil,or_false]at hu;rcases hu with rfl|rfl|rfl|rfl<;>decide
 |im=>simp only[eU,List.mem_cons,List.not_mem_nil,or_false]at hu;rcases hu with rfl|rfl|rfl|rfl<;>decide
 |fy=>simp only[eU,List.mem_cons,List.not_mem_nil,or_false]at hu;rcases hu with rfl|rfl|rfl|rfl<;>decide
 |zT=>simp only[eU,List.mem_cons,List.not_mem_nil,or_false]at hu;rcases hu with rfl|rfl|rfl|rfl<;>decide
 |d_=>simp only[eU,List.mem_cons,List.not_mem_nil,or_false]at hu;rcases hu with rfl|rfl|rfl|rfl<;>decide
 |fA=>simp only[eU,List.mem_cons,List.not_mem_nil,or_false]at hu;rcases hu with rfl|rfl|rfl|rfl<;>decide
 |ec=>simp only[eU,List.mem_cons,List.not_mem_nil,or_false]at hu;rcases hu with rfl|rfl|rfl|rfl<;>decide
 |fC=>simp only[eU,List.mem_cons,List.not_mem_nil,or_false]at hu;rcases hu with rfl|rfl|rfl|rfl<;>decide
 |zU=>simp only[eU,List.mem_cons,List.not_mem_nil,or_false]at hu;rcases hu with rfl|rfl|rfl|rfl<;>decide
 |fD=>simp only[eU,List.mem_cons,List.not_mem_nil,or_false]at hu;rcases hu with rfl|rfl|rfl|rfl<;>decide
 |stop=>simp only[eU,List.mem_cons,List.not_mem_nil,or_false]at hu;rcases hu with rfl|rfl|rfl|rfl<;>decide
theorem bm.Qm{es:List Ev}{s:St}{bu:List An}(h:bm es s bu):∀u∈kz bu,(Lit.int .i64 u).wf=true:=by
 induction h with
 |nil=>intro u hu;cases hu
 |snoc h hv st ih=>
  intro u hu;rw[vz]at hu;rcases List.mem_append.1 hu with hu|hu
  ·exact ih u hu
  ·exact st.Qm h.wf.ok u hu
def fU(mo:tO)(hn he:tG)(wt af:tJ)(tu:Int):Nat→Value:=fun k=>
 if k<188 then mo (k/47) (k % 47)else if k<196 then(if(k-188) % 2=0 then iV (hn ((k-188)/2))else iV (he ((k-188)/2)))else lF [wt,af,iV tu] (k-196)
def kj(hd:tK)(me:tC)(tl:tK):Nat→Value:=fun k=>if k<5 then lF hd k else if k<204 then me (k-5)else lF tl (k-204)
def Oi:Nat→Nat→Value:=fun _=>mF 0 0 0 0 0 (.slice none 0 0) zQ
abbrev Yh:Nat→Value:=fU Oi (fun _=>0) (fun _=>0) (.slice none 0 0) .nilFunc 0
theorem WG{mo:tO}{hn he:tG}{wt af:tJ}{tu:Int}{q j:Nat}(hq:q<4)(hj:j<47):fU mo hn he wt af tu (q*47+j)=mo q j:=by
 unfold fU;rw[if_pos (by omega),show(q*47+j)/47=q by omega,show(q*47+j) % 47=j by omega]
theorem aaU{mo:tO}{hn he:tG}{wt af:tJ}{tu:Int}{q:Nat}(hq:q<4):fU mo hn he wt af tu (188+q*2)=iV (hn q):=by
 unfold fU;rw[if_neg (by omega),if_pos (by omega),if_pos (by omega),show(188+q*2-188)/2=q by omega]
theorem aaV{mo:tO}{hn he:tG}{wt af:tJ}{tu:Int}{q:Nat}(hq:q<4):fU mo hn he wt af tu (188+q*2+1)=iV (he q):=by
 unfold fU;rw[if_neg (by omega),if_pos (by omega),if_neg (by omega),show(188+q*2+1-188)/2=q by omega]
def aj{α:Type}(m:Nat→α)(q:Nat)(x:α):Nat→α:=fun p=>if p=q then x else m p
theorem Qn{mo:tO}{hn he:tG}{wt af:tJ}{tu:Int}{q:Nat}{g:tC}(hq:q<4)(i:Nat):fS (fU mo hn he wt af tu) (q*47) 47 g i=fU (aj mo q g) hn he wt af tu i:=by
 unfold fS;by_cases hc:q*47≤i∧i<q*47+47
 ·rw[if_pos hc];obtain⟨j,rfl⟩:∃j,i=q*47+j:=⟨i-q*47,by omega⟩;rw[WG hq (by omega),show q*47+j-q*47=j by omega];simp[aj]
 ·rw[if_neg hc];unfold fU;by_cases h1:i<188
  ·rw[if_pos h1,if_pos h1];have:¬i/47=q:=by omega
   simp[aj,this]
  ·rw[if_neg h1,if_neg h1]
theorem Bq{hd tl:tK}{me:tC}{k:Nat}(h:k<199):kj hd me tl (5+k)=me k:=by
 unfold kj;rw[if_neg (by omega),if_pos (by omega),show 5+k-5=k by omega]
theorem oP{hd tl:tK}{mo:tO}{hn he:tG}{wt af:tJ}{tu:Int}{q:Nat}{g:tC}(hq:q<4)(i:Nat):fS (kj hd (fU mo hn he wt af tu) tl) (5+q*47) 47 g i=kj hd (fU (aj mo q g) hn he wt af tu) tl i:=by
 by_cases hc:5≤i∧i<204
 ·obtain⟨j,rfl⟩:∃j,i=5+j:=⟨i-5,by omega⟩;rw[Bq (by omega),←Qn hq];unfold fS;by_cases h2:q*47≤j∧j<q*47+47
  ·rw[if_pos (by omega),if_pos h2,show 5+j-(5+q*47)=j-q*47 by omega]
  ·rw[if_neg (by omega),if_neg h2,Bq (by omega)]
 ·rw[py _ _ _ _ _ (by omega)];unfold kj;by_cases h5:i<5
  ·rw[if_pos h5,if_pos h5]
  ·rw[if_neg h5,if_neg h5,if_neg (by omega),if_neg (by omega)]
theorem nh{hd tl:tK}{mo:tO}{hn he:tG}{wt af:tJ}{tu:Int}{q j:Nat}(hq:q<4)(hj:j<47):kj hd (fU mo hn he wt af tu) tl (5+q*47+j)=mo q j:=by
 rw[Nat.add_assoc,Bq (by omega),WG hq hj]
theorem uS{mo:tO}{hn he:tG}{a:tB}{n c:Nat}{af:tJ}{tu:Int}(hm:∀q,q<4→aT (mo q) 47)(ha:af.oneCell'=true):aT (fU mo hn he (.slice a n c) af tu) 199:=fun i hi=>by
 unfold fU;by_cases h1:i<188
 ·rw[if_pos h1];exact hm _ (by omega) _ (by omega)
 ·rw[if_neg h1];by_cases h2:i<196
  ·rw[if_pos h2];split<;>rfl
  ·rw[if_neg h2];obtain rfl|rfl|rfl:i=196∨i=197∨i=198:=by omega
   ·rfl
   ·exact ha
   ·rfl
theorem wW:∀q,q<4→aT (Oi q) 47:=fun _ _=>dY xO
section
open Rv
theorem s_(w:tA):cA 43 #[] w (rB (vF (fU Oi (eD 4) bD (.slice none 0 0) .nilFunc 0) 199) w):=by
 have o1:aT (fU Oi (eD 4) bD (.slice none 0 0) .nilFunc 0) 199:=uS wW rfl;exact en (H:=[]) 4 [] Tryz.func43 rfl rfl (m0 w) (r [] rfl fun α=>Rv.cb rfl (vg [.o (iV (eD 4 0)),.o (iV (bD 0)),.o (iV (eD 4 1)),.o (iV (bD 1)),.o (iV (eD 4 2)),.o (iV (bD 2)),.o (iV (eD 4 3)),.o (iV (bD 3))]) (fun w _=>Kf w) (r [] rfl fun _=>pv (vg [.o (iV (eD 4 0)),.o (iV (bD 0)),.o (iV (eD 4 1)),.o (iV (bD 1)),.o (iV (eD 4 2)),.o (iV (bD 2)),.o (iV (eD 4 3)),.o (iV (bD 3))]) rfl (fun w=>by kernel_rfl) (r [] rfl fun _=>gn 0 (fU Oi (eD 4) bD (.slice none 0 0) .nilFunc 0) (r [] rfl fun _=>fin fun w hS=>⟨rfl,hS.now.2⟩))))
theorem Qo(X N:Nat)(i:Int)(da:tB)(dn dc:Nat)(dl:tF)(sy:Int)(mo:tO)(hn he:tG)(wt af:tJ)(tu ct:Int)(sk:Bool)(kp:Int)(w:tA)(fb:aZ w N 126 206 (kj [.pointer (some ⟨X,0,none⟩),iV i,.bool true,.slice da dn dc,iV sy] (fU mo hn he (wt) (af) tu) [iV ct,.bool sk]))(U:tD)(hU:∀b,U b→b<w.heap.size)(D8:¬U N)(hr:bR (fun b=>b=N∨U b) w fun w=>RowK .u8 w da dn dl)(Hk:da=none→dc=0)(G9:dn≤dc)(h1:dn≤100000)(h2:0≤sy)(h3:sy≤dn)(hk:0≤kp)(XI:kp≤9223372036854775807):cA 49 #[.pointer (some ⟨N,0,none⟩),iV kp] w fun x w'=>∃a1 c1,x= .returned (.tuple #[])∧aZ w' N 126 206 (kj [.pointer (some ⟨X,0,none⟩),iV i,.bool false,.slice a1 (leftOf dn sy kp) c1,iV (leftOf dn sy kp)] Yh [iV sy,.bool sk])∧bR (fun b=>b=N∨U b) w' (fun w=>RowK .u8 w a1 (leftOf dn sy kp) (dl.take (leftOf dn sy kp)))∧leftOf dn sy kp≤c1∧(a1=none→c1=0)∧c1≤9223372036854775807∧dk (fun b=>b=N) w w':=by
 refine en 36 [vp 0 0 N,vi kp] Tryz.func49 rfl rfl (fb.JJ hU D8 hr) (r [] rfl fun _=> ?_);refine cx rfl (fun y:Option Addr×Nat=>vt [.g [.o (.slice y.1 (leftOf dn sy kp) y.2),.o (iV (leftOf dn sy kp))],.o (iV 0)]) (fun y=>leftOf dn sy kp≤y.2∧(y.1=none→y.2=0)∧y.2≤9223372036854775807) (fun y w=>RowK .u8 w y.1 (leftOf dn sy kp) (dl.take (leftOf dn sy kp))) (fun w1 hS=>(Mk da dn dc dl sy kp w1 hS.now.1 Hk G9 h1 h2 h3 hk XI).mono fun _ w2 ⟨a1,c1,h0,r1,mm,sH,GM,uu,b⟩=>⟨(a1,c1),h0,b,⟨mm,sH,GM⟩,bT r1 uu⟩) ?_;rintro⟨a1,c1⟩ ⟨mm,sH,GM⟩;refine r [] rfl fun _=>gn 0 (kj [.pointer (some ⟨X,0,none⟩),iV i,.bool false,.slice a1 (leftOf dn sy kp) c1,iV (leftOf dn sy kp)] (fU Oi (fun _=>0) (fun _=>0) (.slice none 0 0) .nilFunc 0) [iV sy,.bool sk]) ?_ rfl (by kernel_rfl);exact c_ rfl fun w2 hS=>⟨a1,c1,rfl,hS.at 0 rfl,fun w2 c2=>(hS.g w2 (c2.mono fun b h=>h.imp (fun h=>List.mem_singleton.2 h) id)).2,mm,sH,GM,hS.now.2.mono fun b h=>List.mem_singleton.1 h⟩
def frR(r:Rec):List Int:=dL (bytesOf r.k r.q r.e r.p r.v.k r.v.p r.v.i r.v.b r.v.he r.v.hn)
def bP(rs:List Rec):List Int:=rs.flatMap frR
theorem Kp(r:Rec):(frR r).length=(bytesOf r.k r.q r.e r.p r.v.k r.v.p r.v.i r.v.b r.v.he r.v.hn).length+6:=mn _
theorem yz{rs:List Rec}{k:Nat}{r:Rec}(h:rs[k]? =some r):bP (rs.take (k+1))=bP (rs.take k)++frR r:=by
 rw[List.take_add_one,h];simp[bP]
theorem Qp{rs:List Rec}{k n2 dn:Nat}{r:Rec}(h:rs[k]? =some r)(e:n2=dn+(bP (rs.take k)).length)(hf:100000<n2+((bytesOf r.k r.q r.e r.p r.v.k r.v.p r.v.i r.v.b r.v.he r.v.hn).length+6)):100000<dn+(bP rs).length:=by
 have e1:bP rs=bP (rs.take (k+1))++bP (rs.drop (k+1)):=by
  unfold bP;rw[←List.flatMap_append,List.take_append_drop]
 rw[e1,yz h];simp only[List.length_append,Kp];omega
theorem pR{l:List Rec}{k:Nat}{r:Rec}(hk:l[k]? =some r):∀j,j<10→iV ((aB l).getD (10*k+j) 0)=lF [iV r.k,iV r.q,iV r.e,iV r.p,iV r.v.k,iV r.v.p,iV r.v.i,iV r.v.b,iV r.v.he,iV r.v.hn] j:=by
 obtain⟨hl,rfl⟩:=List.getElem?_eq_some_iff.1 hk;intro j hj;rw[rU l k hl j hj]
 match j,hj with
 |0,_=>rfl
 |1,_=>rfl
 |2,_=>rfl
 |3,_=>rfl
 |4,_=>rfl
 |5,_=>rfl
 |6,_=>rfl
 |7,_=>rfl
 |8,_=>rfl
 |9,_=>rfl
theorem iN(X N:Nat)(i:Int)(da:tB)(dn dc:Nat)(dl:tF)(sy:Int)(mo:tO)(hn he:tG)(wt af:tJ)(tu ct:Int)(ub sk:Bool)(ag:Fn)(a1 Zs:tN)(rs:List Rec)(la:tB)(rn lc:Nat)(w:tA)(fb:aZ w N 126 206 (kj [.pointer (some ⟨X,0,none⟩),iV i,.bool ub,.slice da dn dc,iV sy] (fU mo hn he (wt) (af) tu) [iV ct,.bool sk]))(U:tD)(hU:∀b,U b→b<w.heap.size)(D8:¬U N)(hr:bR (fun b=>b=N∨U b) w fun w=>RowK .u8 w da dn dl∧RowK .i64 w la (10*rn) (aB rs))(Hk:da=none→dc=0)(G9:dn≤dc)(hdm:dc≤9223372036854775807)(h1:dn≤100000)(h2:0≤sy)(h3:sy≤dn)(hrn:rn=rs.length)(hrl:rn≤100000)(ed:∀r∈rs,r.fault=0):cA 79 #[.pointer (some ⟨N,0,none⟩),.func ag a1 Zs,.slice la rn lc] w fun x w'=>∃k,x= .returned (.bool k)∧dk (fun b=>b=N) w w'∧((k=true∧dn+(bP rs).length≤100000∧∃a2 c2,aZ w' N 126 206 (kj [.pointer (some ⟨X,0,none⟩),iV i,.bool ub,.slice a2 (dn+(bP rs).length) c2,iV sy] (fU mo hn he wt (.func ag a1 Zs) tu) [iV ct,.bool sk])∧bR (fun b=>b=N∨U b) w' (fun w=>RowK .u8 w a2 (dn+(bP rs).length) (dl++bP rs))∧dn+(bP rs).length≤c2∧(a2=none→c2=0)∧c2≤9223372036854775807)∨(k=false∧100000<dn+(bP rs).length∧aZ w' N 126 206 (kj [.pointer (some ⟨X,0,none⟩),iV i,.bool ub,.slice da dn dc,iV sy] (fU mo hn he (wt) (af) tu) [iV ct,.bool sk]))):=by
 refine en 41 [vp 0 0 N,vv (.func ag a1 Zs),vv (.slice la rn lc)] Tryz.func79 rfl rfl (fb.JJ hU D8 hr) (r [] rfl fun α=>gn 1 (lF [.slice da dn dc,iV sy]) ?_);obtain⟨len,el⟩:∃len:Nat→Nat,len=fun k=>dn+(bP (rs.take k)).length:=⟨_,rfl⟩;have l0:len 0=dn:=by rw[el];rfl
 refine ic (X:=Nat×Option Addr×Nat×Nat) ⟨fun x=>[(0,vp 0 0 N),(1,vv (.func ag a1 Zs)),(7,vp 1 0 (α 0)),(16,vv (.slice la rn lc)),(17,vi (rn:Int)),(18,vi (x.1:Int))],fun x=>[⟨N,126,[.f 206 (kj [.pointer (some ⟨X,0,none⟩),iV i,.bool ub,.slice da dn dc,iV sy] (fU mo hn he wt af tu) [iV ct,.bool sk])]⟩,⟨α 0,124,[.f 2 (lF [.slice x.2.1 x.2.2.1 x.2.2.2,iV sy])]⟩],fun _=>U,fun x w=>RowK .u8 w x.2.1 x.2.2.1 (dl++bP (rs.take x.1))∧RowK .i64 w la (10*rn) (aB rs),fun _ w'=>dk (fun b=>b∈[N]) w w',fun x=>x.1≤rn∧x.2.2.1=len x.1∧x.2.2.1≤100000∧x.2.2.1≤x.2.2.2∧(x.2.1=none→x.2.2.2=0)∧x.2.2.2≤9223372036854775807,fun x=>rn-x.1⟩ (0,da,dn,dc) ⟨rfl,rfl,rfl,rfl,rfl,rfl,trivial⟩ (fun _ hS=>hS.said fun _ h=>⟨by simpa[bP]using h.1,h.2⟩) ⟨Nat.zero_le _,l0.symm,h1,G9,Hk,hdm⟩ ?_;rintro f ⟨k,a2,n2,c2⟩ ⟨hk,Uw,vQ,jo,qL,si⟩;have hk:k≤rn:=hk;have Uw:n2=len k:=Uw;have vQ:n2≤100000:=vQ;by_cases aL:k<rn
 case neg=>
  have ek:len k=dn+(bP rs).length:=by rw[el];show dn+(bP (rs.take k)).length=_;rw[List.take_of_length_le (by omega)]
  refine r [0] rfl fun _=>gn 0 (kj [.pointer (some ⟨X,0,none⟩),iV i,.bool ub,.slice a2 n2 c2,iV sy] (fU mo hn he wt (.func ag a1 Zs) tu) [iV ct,.bool sk]) ?_ rfl (by kernel_rfl);refine fin fun w hS=>⟨true,rfl,hS.now.2.mono fun b h=>List.mem_singleton.1 h,.inl ⟨rfl,ek▸Uw▸vQ,a2,c2,ek▸Uw▸hS.at 0 rfl,fun w2 cc=> ?_,ek▸Uw▸jo,qL,si⟩⟩;have:=((hS.take 1).g w2 (cc.mono fun b h=>h.imp (fun h=>List.mem_singleton.2 h) id)).1;rw[List.take_of_length_le (by omega),Uw,ek]at this;exact this
 obtain⟨⟨rk,rq,re,rp,rv⟩,hv⟩:∃r,rs[k]? =some r:=⟨rs[k],List.getElem?_eq_getElem (by omega)⟩;have e1:len (k+1)=n2+((bytesOf rk rq re rp rv.k rv.p rv.i rv.b rv.he rv.hn).length+6):=by rw[Uw,el];show dn+(bP (rs.take (k+1))).length=dn+(bP (rs.take k)).length+_;rw[yz hv,List.length_append,Kp];exact(Nat.add_assoc _ _ _).symm
 obtain⟨lb,lo,ela⟩:∃b o,la=some ⟨b,o,none⟩:=oD hr.now.2 (by omega);subst ela;refine r [1] rfl fun _=>lf (q:=lo+k*10) rfl 10 (lF [iV rk,iV rq,iV re,iV rp,iV rv.k,iV rv.p,iV rv.i,iV rv.b,iV rv.he,iV rv.hn]) (fun w hS=>jJ hS.now.1.2 (by omega) (pR hv)) (r [] rfl fun β=> ?_);have ge:dn≤n2:=by rw[Uw,el];exact Nat.le_add_right ..
 have wr:=fun w (hS:RowK .u8 w a2 n2 (dl++bP (rs.take k)))=>My a2 n2 c2 _ sy rk rq re rp rv.k rv.p rv.i rv.b rv.he rv.hn w hS qL vQ h2 (by omega) (ed _ (List.mem_of_getElem? hv));by_cases hf:100000<len (k+1)
 ·refine Rv.cb rfl (vt [.g [.o (.slice none 0 0),.o (iV 0)],.o (iV 14)]) (fun w hS=>(wr w hS.now.1.1).mono fun _ _ h=> ?_) (r [1] rfl fun _=>fin fun w hS=>⟨false,rfl,hS.now.2.mono fun b h=>List.mem_singleton.1 h,.inr ⟨rfl,Qp hv (by rw[Uw,el]) (e1▸hf),hS.at 0 rfl⟩⟩);rcases h with⟨_,rfl,b⟩|⟨h,_⟩
  ·exact⟨rfl,b⟩
  ·exact absurd (Nat.le_trans (Nat.le_of_eq e1) h) (Nat.not_le.2 hf)
 refine cx rfl (fun y:Option Addr×Nat=>vt [.g [.o (.slice y.1 (len (k+1)) y.2),.o (iV sy)],.o (iV 0)]) (fun y=>len (k+1)≤y.2∧(y.1=none→y.2=0)∧y.2≤9223372036854775807) (fun y w=>RowK .u8 w y.1 (len (k+1)) (dl++bP (rs.take (k+1)))) (fun w hS=>(wr w hS.now.1.1).mono fun _ w' h=> ?_) ?_
 ·rcases h with⟨h,_⟩|⟨_,a3,c3,rfl,r3,hc3,FK,hm3,hw3,b⟩
  ·exact absurd (Nat.lt_of_lt_of_le h (Nat.le_of_eq e1.symm)) hf
  ·refine⟨(a3,c3),by rw[e1];rfl,b,⟨by rw[e1];exact hc3,FK,hm3⟩,bT ?_ hw3⟩;rw[e1,yz hv,←List.append_assoc];exact r3
 rintro⟨a3,c3⟩ ⟨hc3,FK,hm3⟩;exact rz [0,1] [((k+1:Nat):Int)] rfl fun _=>bU (k+1,a3,len (k+1),c3) ⟨rfl,rfl,rfl,rfl,rfl,rfl,trivial⟩ (fun w hS=>(hS.take 2).said fun _ h=>⟨h.2,h.1.2⟩) ⟨aL,rfl,Nat.le_of_not_lt hf,hc3,FK,hm3⟩ (show rn-(k+1)<rn-k by omega)
theorem uT(X N:Nat)(i:Int)(da:tB)(dn dc:Nat)(dl:tF)(sy:Int)(mo:tO)(hn he:tG)(wt:tJ)(tu ct:Int)(ub sk:Bool)(g:Nat)(cl:tK)(w:tA)(fb:aZ w N 126 206 (kj [.pointer (some ⟨X,0,none⟩),iV i,.bool ub,.slice da dn dc,iV sy] (fU mo hn he (wt) (.func (.func g) #[] cl.toArray) tu) [iV ct,.bool sk]))(U:tD)(hU:∀b,U b→b<w.heap.size)(D8:¬U N)(hr:bR (fun b=>b=N∨U b) w fun w=>RowK .u8 w da dn dl)(Hk:da=none→dc=0)(G9:dn≤dc)(h1:dn≤100000)(h2:0≤sy)(h3:sy≤dn)(Zt:Rv.iy Tryz.prog g=true)(R:tI)(hRb:∀w w2,R w→bZ w w2→R w2)(hA:∀a1 c1 w1,aZ w1 N 126 206 (kj [.pointer (some ⟨X,0,none⟩),iV i,.bool ub,.slice a1 dn c1,iV dn] (fU mo hn he wt .nilFunc tu) [iV ct,.bool sk])→bR (fun b=>b=N∨U b) w1 (fun w=>RowK .u8 w a1 dn dl)→dn≤c1→(a1=none→c1=0)→c1≤9223372036854775807→dk (fun b=>b=N) w w1→cA g cl.toArray w1 fun x w'=>x= .returned (.tuple #[])∧R w'):cA 80 #[.pointer (some ⟨N,0,none⟩)] w fun x w'=>x= .returned (.tuple #[])∧R w':=by
 refine en 25 [vp 0 0 N] Tryz.func80 rfl rfl (fb.JJ hU D8 hr) (r [] rfl fun _=> ?_);refine cx rfl (fun y:Option Addr×Nat=>vt [.g [.o (.slice y.1 dn y.2),.o (iV dn)],.o (iV 0)]) (fun y=>dn≤y.2∧(y.1=none→y.2=0)∧y.2≤9223372036854775807) (fun y w=>RowK .u8 w y.1 dn dl) (fun w1 hS=>(P3 da dn dc dl sy w1 hS.now.1 Hk h1 h2 h3).mono fun _ w2 ⟨a1,c1,h0,r1,mm,sH,GM,uu,b⟩=>⟨(a1,c1),h0,b,⟨mm,sH,GM⟩,bT r1 uu⟩) ?_;rintro⟨a1,c1⟩ ⟨mm,sH,GM⟩;have hm:(cl.map vv).map AV.val=cl:=by rw[List.map_map];exact List.map_id _
 refine r [] rfl fun _=>gn 0 (kj [.pointer (some ⟨X,0,none⟩),iV i,.bool ub,.slice a1 dn c1,iV dn] (fU mo hn he wt .nilFunc tu) [iV ct,.bool sk]) ?_;have key:∀w1,Mem w1 (hs [⟨N,126,[.f 206 (kj [.pointer (some ⟨X,0,none⟩),iV i,.bool ub,.slice a1 dn c1,iV dn] (fU mo hn he wt .nilFunc tu) [iV ct,.bool sk])]⟩]) U (fun w=>RowK .u8 w da dn dl∧RowK .u8 w a1 dn dl) (fun w'=>dk (fun b=>b∈[N]) w w')→cA g ((cl.map vv).map AV.val).toArray w1 fun x w'=>x= .returned (.tuple #[])∧∃_:Unit,R w':=fun w1 hS=>by
  rw[hm];exact(hA a1 c1 w1 (hS.at 0 rfl) (fun w2 cc=>(hS.g w2 (cc.mono fun b h=>h.imp (fun h=>List.mem_singleton.2 h) id)).2) mm sH GM (hS.now.2.mono fun b h=>List.mem_singleton.1 h)).mono fun _ _ h=>⟨h.1,(),h.2⟩
 cases cl<;>exact Rv.ct rfl (vt []) (fun _=>R) key (fun _=>hRb) (fun _=>r [] rfl fun _=>c_ rfl fun _ hS=>⟨rfl,hS.now.2⟩) rfl Zt
end
def kO(nd:tQ)(pn pe:tG)(r:tK):Nat→Value:=fun k=>
 if k<5 then .pointer (some ⟨nd k,0,none⟩)else if k<13 then lF [iV (pn 0),iV (pe 0),iV (pn 1),iV (pe 1),iV (pn 2),iV (pe 2),iV (pn 3),iV (pe 3)] (k-5)else lF r (k-13)
theorem Qq{nd:tQ}{pn pe:tG}{r:tK}{k:Nat}(h:k<5):kO nd pn pe r k= .pointer (some ⟨nd k,0,none⟩):=if_pos h
theorem Kq{nd:tQ}{pn pe:tG}{r:tK}{j:Nat}(h:j<8):kO nd pn pe r (5+j)=lF [iV (pn 0),iV (pe 0),iV (pn 1),iV (pe 1),iV (pn 2),iV (pe 2),iV (pn 3),iV (pe 3)] j:=by
 unfold kO;rw[if_neg (by omega),if_pos (by omega),show 5+j-5=j by omega]
theorem Yi{nd:tQ}{pn pe Oj Ol:tG}{r:tK}(i:Nat):fS (kO nd pn pe r) 5 8 (lF [iV (Oj 0),iV (Ol 0),iV (Oj 1),iV (Ol 1),iV (Oj 2),iV (Ol 2),iV (Oj 3),iV (Ol 3)]) i=kO nd Oj Ol r i:=by
 unfold fS;by_cases hc:5≤i∧i<5+8
 ·rw[if_pos hc];obtain⟨j,rfl⟩:∃j,i=5+j:=⟨i-5,by omega⟩;rw[Kq (by omega),show 5+j-5=j by omega]
 ·rw[if_neg hc];unfold kO;by_cases h1:i<5
  ·rw[if_pos h1,if_pos h1]
  ·rw[if_neg h1,if_neg h1,if_neg (by omega),if_neg (by omega)]
theorem Yj{nd:tQ}{pn pe:tG}{r:tK}{k:Nat}{v:tJ}(hk:k<r.length)(i:Nat):nS (kO nd pn pe r) (13+k) v i=kO nd pn pe (r.set k v) i:=by
 by_cases hi:i=13+k
 ·subst hi;rw[B_];unfold kO;rw[if_neg (by omega),if_neg (by omega),show 13+k-13=k by omega];simp[lF,hk]
 ·rw[pz _ _ _ _ hi];unfold kO;by_cases h5:i<5
  ·rw[if_pos h5,if_pos h5]
  ·rw[if_neg h5,if_neg h5];by_cases h6:i<13
   ·rw[if_pos h6,if_pos h6]
   ·rw[if_neg h6,if_neg h6];have:¬k=i-13:=by omega
    simp[lF,this]
section
open Rv
namespace Rv
section
variable{n:Nat}{ops:tL}{f:Nat→AV}{fn:Func}{Rr:Ending→World→Prop}{M:tD}{Φ R:tI}{H:List En}{w:tA}{ks:List Fr}{t:Ord}{i d:Nat}{md:Md}
theorem sol{s b q m:Nat}{x y:AV}{e:Ty}{en:En}{g:tC}(h1:SH n ops f i=some (s,x,y))(hx:x.val= .pointer (some ⟨b,q,none⟩))(hy:y.val=vF g m)(j:Nat)(he:nth H j=some en)(g':tC)(hg:∀i,i<fX en.l→fS (cK en.l) q m g i=g' i)(hn:G Tryz.prog fn Rr n M Φ R (.g md ops t::ks) f (H.set j ⟨en.a,en.t,[.f (fX en.l) g']⟩))(Hc:aT g m)(hq:q+m≤fX en.l:=by first|exact cF rfl|(show _≤206;(try dsimp only);omega)|(show _≤199;(try dsimp only);omega)|(show _≤19;(try dsimp only);omega)|(show _≤18;(try dsimp only);omega)|(show _≤8;(try dsimp only);omega))(ha:en.a=b:=by rfl)(hb:en.a∈md.va:=by exact List.mem_singleton.2 rfl)(hv:md.vs.contains i=true:=by rfl)(hf:T0.find s=some e:=by rfl)(ho:e.fp=false:=by rfl)(hm:e.m=m:=by rfl):G Tryz.prog fn Rr n M Φ R (.g md ops (.ef i t)::ks) f H:=by
 intro w hS hK;obtain⟨hK1,gW⟩:=bp.1 hK;show WF Tryz.prog ops (kq Tryz.prog fn Rr ks) md.va (nY md ops) (uq md ops) (.ef i t) n (cn f) w;obtain⟨Lc,rfl⟩:=V8.eS hf;have El:=he;rw[fF]at El;have AQ:(hs H)[j]? =some en.ib:=by rw[List.getElem?_map,El];rfl
 unfold SH at h1;split at h1
 ·rename_i o hoo;split at h1
  ·rename_i s' p r hd hw hp;simp only[Option.some.injEq,Prod.mk.injEq]at h1;obtain⟨rfl,rfl,rfl⟩:=h1;have hx:ev (cn f) p= .pointer (some ⟨b,q,none⟩):=(bB f p).symm.trans hx;have hy:ev (cn f) r=vF g m:=(bB f r).symm.trans hy;have vq:((nY md ops).contains i||(uq md ops).contains i)=true:=Cn hoo (by unfold mQ;rw[hv]);refine ac1 (P:=Tryz.prog) (hm▸Ty.row Lc ho) hS j AQ hb vq hoo hd (eZ hw) (dI hK1).1 hp hx hy ha hq Hc fun w' zH=> ?_
   have JG:=zH.congr j (e:=⟨en.a,en.t,fX en.l,fS (cK en.l) q m g⟩) (by
    rw[List.getElem?_set_self (List.getElem?_eq_some_iff.1 AQ).1]
    rfl) g' hg
   rw[List.set_set]at JG;have e4:hs (H.set j ⟨en.a,en.t,[.f (fX en.l) g']⟩)=(hs H).set j ⟨en.a,en.t,fX en.l,g'⟩:=by
    rw[hs,List.map_set];rfl
   exact hn w' (by rw[e4];exact JG) (bp.2 ⟨hK1,gW⟩)
  ·cases h1
 ·cases h1
end
end Rv
theorem Ux(X N:Nat)(i:Int)(da:tB)(dn dc:Nat)(sy:Int)(mo:tO)(hn he:tG)(wt af:tJ)(tu ct:Int)(ub sk:Bool)(nd:tQ)(pn pe:tG)(fl tk dd:tJ)(cs:Int)(sv td:tJ)(Oj Ol:tG)(m:tC)(om:aT m 47)(q:Nat)(hq:q<4)(c8 c6 c5 c4 c3:Nat)(w:tA)(SP:aZ w N 126 206 (kj [.pointer (some ⟨X,0,none⟩),iV i,.bool ub,.slice da dn dc,iV sy] (fU mo hn he (wt) (af) tu) [iV ct,.bool sk]))(Tc:aZ w X 114 19 (kO nd pn pe [fl,tk,dd,iV cs,sv,td]))(uU:aZ w c8 117 47 m)(fb3:aZ w c6 29 8 (lF [iV (Oj 0),iV (Ol 0),iV (Oj 1),iV (Ol 1),iV (Oj 2),iV (Ol 2),iV (Oj 3),iV (Ol 3)]))(fb4:aZ w c5 109 1 (fun _=> .pointer (some ⟨N,0,none⟩)))(fb5:aZ w c4 3 1 (fun _=>iV q))(fb6:aZ w c3 91 1 (fun _=> .pointer (some ⟨X,0,none⟩)))(SQ:[N,X,c8,c6,c5,c4,c3].Nodup):cA 78 #[.pointer (some ⟨c8,0,none⟩),.pointer (some ⟨c6,0,none⟩),.pointer (some ⟨c5,0,none⟩),.pointer (some ⟨c4,0,none⟩),.pointer (some ⟨c3,0,none⟩)] w fun x w'=>x= .returned (.tuple #[])∧aZ w' N 126 206 (kj [.pointer (some ⟨X,0,none⟩),iV i,.bool ub,.slice da dn dc,iV sy] (fU (aj mo q m) hn he (wt) (af) tu) [iV ct,.bool sk])∧aZ w' X 114 19 (kO nd Oj Ol [fl,tk,dd,iV cs,sv,td])∧dk (fun b=>b=N∨b=X) w w':=by
 simp only[List.nodup_cons,List.mem_cons,List.not_mem_nil,or_false,not_or]at SQ;obtain⟨⟨hX,a8,a6,a5,a4,a3⟩,⟨x8,x6,x5,x4,x3⟩,_⟩:=SQ;have fs:∀{b t n f},aZ w b t n f→N≠b→X≠b→bR (fun b=>(b=N∨b=X)∨False) w fun w=>aZ w b t n f:=fun fb hn hx w2 c2=>fb.same (c2.block _ fb.lt fun h=>h.elim (fun h=>h.elim (fun e=>hn e.symm) (fun e=>hx e.symm)) id);refine en 16 [vv (.pointer (some ⟨c8,0,none⟩)),vv (.pointer (some ⟨c6,0,none⟩)),vv (.pointer (some ⟨c5,0,none⟩)),vv (.pointer (some ⟨c4,0,none⟩)),vv (.pointer (some ⟨c3,0,none⟩))] Tryz.func78 rfl rfl (SP.Z_ Tc hX (U:=fun _=>False) (fun _ h=>h.elim) id id fun w2 c2=>And.intro (fs uU a8 x8 w2 c2) (And.intro (fs fb3 a6 x6 w2 c2) (And.intro (fs fb4 a5 x5 w2 c2) (And.intro (fs fb5 a4 x4 w2 c2) (fs fb6 a3 x3 w2 c2))))) ?_;have hv:∀a,a∈[N]→a∈[N,X]:=fun a h=>List.mem_cons.2 (.inl (List.mem_singleton.1 h));refine r [5,0,9] rfl fun _=>Xt rfl (.pointer (some ⟨N,0,none⟩)) (fun w h=>h.1.2.2.1.at 0 (cF rfl)) (Rv.sv 5 (vp 0 0 N) rfl (r [] rfl fun _=>Xt rfl (iV q) (fun w h=>h.1.2.2.2.1.at 0 (cF rfl)) (r [] rfl fun _=>Xt rfl (.pointer (some ⟨X,0,none⟩)) (fun w h=>h.1.2.2.2.2.at 0 (cF rfl)) (Rv.sv 7 (vp 1 0 X) rfl (r [] rfl fun _=>Z7 rfl 47 m (fun w h j hj=>by rw[Nat.zero_add];exact h.1.1.at j (by omega)) (r [] rfl fun _=>Z7 rfl 8 _ (fun w h j hj=>by rw[Nat.zero_add];exact h.1.2.1.at j (by omega)) ?_ hv) hv)) hv) hv)) hv;refine r [1] rfl fun _=>sol rfl rfl rfl 0 rfl _ (fun i _=>oP hq i) (r [] rfl fun _=>gn 1 (kO nd Oj Ol [fl,tk,dd,iV cs,sv,td]) ?_) om;exact c_ rfl fun w2 hS=>⟨rfl,hS.at 0 rfl,hS.at 1 rfl,hS.now.2.mono fun b h=>by simpa using h⟩
end
theorem lL{w:tA}{R T:Nat}(r:Rec)(hv:∀u∈bj r,(Lit.int .i64 u).wf=true)(h:aZ w R T 10 (lF [iV r.k,iV r.q,iV r.e,iV r.p,iV r.v.k,iV r.v.p,iV r.v.i,iV r.v.b,iV r.v.he,iV r.v.hn])):RowK .i64 w (some ⟨R,0,none⟩) (10*1) (aB [r]):=by
 refine⟨rfl,by simpa[aB]using hv,fun i hi=>⟨R,0,rfl,h.lt, ?_⟩⟩;rw[Nat.zero_add,h.at i (by omega)]
 match i,hi with
 |0,_=>rfl
 |1,_=>rfl
 |2,_=>rfl
 |3,_=>rfl
 |4,_=>rfl
 |5,_=>rfl
 |6,_=>rfl
 |7,_=>rfl
 |8,_=>rfl
 |9,_=>rfl
theorem Uy{n e:tG}{q:Nat}{node:Int}{a b:tG}(h:m_ n e q node a b 0):dB n e∧n q= -1∧a=cP n q node∧b=cP e q 1:=by
 generalize he:(0:Int)=er at h;cases h with
 |state h=>cases he
 |range h=>cases he
 |yd h=>cases he
 |made h k hk hq hd hn=>
  obtain rfl:q=k:=by omega
  exact⟨h,hn,rfl,rfl⟩
theorem Uz{n e:tG}{q:Nat}{node:Int}{a b:tG}{er:Int}(hq:q<4)(hd:0≤node∧node≤4)(h:m_ n e q node a b er)(h0:¬er=0):¬(dB n e∧n q= -1):=by
 rintro⟨h1,h2⟩;obtain⟨_,_,rfl⟩:=h.one (.made h1 q hq rfl hd h2);exact h0 rfl
theorem MJ{B B':Bt}{ep:Int}(h:fJ B ep=(B',0)):B'=⟨1,ep,0,0,0,[]⟩:=by
 unfold fJ at h;split at h
 ·cases h
 ·split at h
  ·cases h
  ·split at h
   ·cases h
   ·split at h
    ·cases h
    ·cases h;rfl
abbrev aI(q:Nat):Rec:=⟨1,q,1,0,⟨0,0,0,0,0,0⟩⟩
def WH(pn pe:tG)(q:Nat)(ub:Bool)(af:tJ)(B:Bt)(dn:Nat):Prop:=(dB pn pe∧pn q= -1)∧ub=true∧af= .nilFunc∧(fJ B 1).2=0∧dn+(bP [aI q]).length≤100000
section
open Rv
theorem oQ{q:Nat}(hq:q<4):(aI q).fault=0:=by
 obtain rfl|rfl|rfl|rfl:q=0∨q=1∨q=2∨q=3:=by omega
 ·decide
 ·decide
 ·decide
 ·decide
theorem IE{q:Nat}(hq:q<4):∀u∈bj (aI q),(Lit.int .i64 u).wf=true:=by
 obtain rfl|rfl|rfl|rfl:q=0∨q=1∨q=2∨q=3:=by omega
 ·decide
 ·decide
 ·decide
 ·decide
abbrev crE(X N:Nat)(z g:tC)(a b c q:Nat)(tl:List En):List En:=⟨N,126,[.f 206 z]⟩::⟨X,114,[.f 19 g]⟩::⟨a,91,[.p 1 0 X]⟩::⟨b,3,[.o (iV (q:Int))]⟩::⟨c,109,[.p 0 0 N]⟩::tl
theorem IF(X N:Nat)(i:Int)(da:tB)(dn dc:Nat)(dl:tF)(sy:Int)(mo:tO)(hn he:tG)(wt af:tJ)(tu ct:Int)(ub sk:Bool)(nd:tQ)(pn pe:tG)(fl tk dd:tJ)(cs:Int)(sv td:tJ)(q:Nat)(hq:q<4)(B:Bt)(ba:tB)(bc:Nat)(bq:tC)(okB:B.Ok)(SR:mo q=mF B.r B.e B.f B.t B.o (.slice ba B.es.length bc) bq)(oM:aT (mo q) 47)(hi:0≤i∧i≤4)(MK:af= .nilFunc∨∃g a b,af= .func g a b)(w:tA)(SP:aZ w N 126 206 (kj [.pointer (some ⟨X,0,none⟩),iV i,.bool ub,.slice da dn dc,iV sy] (fU mo hn he (wt) (af) tu) [iV ct,.bool sk]))(Tc:aZ w X 114 19 (kO nd pn pe [fl,tk,dd,iV cs,sv,td]))(SQ:[N,X].Nodup)(U:tD)(hU:∀b,U b→b<w.heap.size)(D8:¬U N)(hXU:¬U X)(hr:bR (fun b=>(b=N∨b=X)∨U b) w fun w=>RowK .u8 w da dn dl)(Hk:da=none→dc=0)(G9:dn≤dc)(hdm:dc≤9223372036854775807)(h1:dn≤100000)(h2:0≤sy)(h3:sy≤dn):cA 44 #[.pointer (some ⟨X,0,none⟩),iV q,.pointer (some ⟨N,0,none⟩)] w fun x w'=>x= .returned (.tuple #[])∧dk (fun b=>b=N∨b=X) w w'∧((¬WH pn pe q ub af B dn∧aZ w' N 126 206 (kj [.pointer (some ⟨X,0,none⟩),iV i,.bool ub,.slice da dn dc,iV sy] (fU mo hn he (wt) (af) tu) [iV ct,.bool sk])∧aZ w' X 114 19 (kO nd pn pe [fl,tk,dd,iV cs,sv,td]))∨(WH pn pe q ub af B dn∧∃a3 c3 a1 c1 q1 yg,vF yg 47=xV ⟨1,1,0,0,0,[]⟩ a1 c1 q1∧aZ w' N 126 206 (kj [.pointer (some ⟨X,0,none⟩),iV i,.bool true,.slice a3 (dn+(bP [aI q]).length) c3,iV (dn+(bP [aI q]).length)] (fU (aj mo q yg) hn he wt .nilFunc tu) [iV ct,.bool sk])∧aZ w' X 114 19 (kO nd (cP pn q i) (cP pe q 1) [fl,tk,dd,iV cs,sv,td])∧bR (fun b=>(b=N∨b=X)∨U b) w' (fun w=>jG w ⟨1,1,0,0,0,[]⟩ a1 c1 q1∧RowK .u8 w a3 (dn+(bP [aI q]).length) (dl++bP [aI q]))∧(dn+(bP [aI q]).length)≤c3∧(a3=none→c3=0)∧c3≤9223372036854775807)):=by
 have Qr:∀e∈([⟨N,126,206,(kj [.pointer (some ⟨X,0,none⟩),iV i,.bool ub,.slice da dn dc,iV sy] (fU mo hn he (wt) (af) tu) [iV ct,.bool sk])⟩,⟨X,114,19,(kO nd pn pe [fl,tk,dd,iV cs,sv,td])⟩]:List bQ),aZ w e.a e.t e.n e.f:=by
  intro e he;simp only[List.mem_cons,List.not_mem_nil,or_false]at he;rcases he with rfl|rfl
  ·exact SP
  ·exact Tc
 have hS:Mem w [⟨N,126,206,(kj [.pointer (some ⟨X,0,none⟩),iV i,.bool ub,.slice da dn dc,iV sy] (fU mo hn he (wt) (af) tu) [iV ct,.bool sk])⟩,⟨X,114,19,(kO nd pn pe [fl,tk,dd,iV cs,sv,td])⟩] U (fun w=>RowK .u8 w da dn dl) (fun w'=>dk (fun b=>b∈[N,X]) w w'):=Mem.begin Qr (OT SQ) (fun e he=>by simp only[List.mem_cons,List.not_mem_nil,or_false]at he;rcases he with rfl|rfl;exact D8;exact hXU) hU (fun w2 c=>hr w2 (c.mono fun b h=>h.imp (fun h=>by simpa using h) id));clear Qr;have o1:aT (mF B.r B.e B.f B.t B.o (.slice ba B.es.length bc) bq) 47:=SR▸oM;refine en (H:=[⟨N,126,[.f 206 (kj [.pointer (some ⟨X,0,none⟩),iV i,.bool ub,.slice da dn dc,iV sy] (fU mo hn he wt af tu) [iV ct,.bool sk])]⟩,⟨X,114,[.f 19 (kO nd pn pe [fl,tk,dd,iV cs,sv,td])]⟩]) 62 [vp 1 0 X,vi (q:Int),vp 0 0 N] Tryz.func44 rfl rfl hS (r [] rfl fun α=> ?_);refine cut (X:=Nat×(Nat→Int)×(Nat→Int)×Int) (fun x=>[(3,vp 2 0 (α 0)),(4,vp 3 0 (α 1)),(5,vp 4 0 (α 2)),(6,vp 5 0 x.1),(7,vi x.2.2.2)]) (fun x=>crE X N (kj [.pointer (some ⟨X,0,none⟩),iV i,.bool ub,.slice da dn dc,iV sy] (fU mo hn he wt af tu) [iV ct,.bool sk]) (kO nd pn pe [fl,tk,dd,iV cs,sv,td]) (α 0) (α 1) (α 2) q [⟨x.1,29,wQ x.2.1 x.2.2.1⟩]) (fun _=>U) (fun _ w=>RowK .u8 w da dn dl) (fun _ w'=>dk (fun b=>b∈[N,X]) w w') (fun x=>m_ pn pe q i x.2.1 x.2.2.1 x.2.2.2) ?_ (r [4] rfl fun _=> ?_)
 case refine_2=>
  repeat' first|refine Cq ?_ ?_|(refine cq (g:=76) rfl (fun y:(Nat→Int)×(Nat→Int)×Int=>vt [.g (wQ y.1 y.2.1),.o (iV y.2.2)]) (fun y=>m_ pn pe q i y.1 y.2.1 y.2.2) ?_ ?_;exact fun w _=>(PW pn pe q i w).mono fun _ _ ⟨pa,pb,er,h0,h1,b⟩=>⟨(pa,pb,er),h0,b,h1⟩;rintro⟨pa,pb,er⟩ we)|refine rs [] rfl rfl fun _=> ?_
  all_goals exact bU (_,pa,pb,er) ⟨rfl,rfl,rfl,rfl,rfl,trivial⟩ (fun w hS=>hS.G_ [0,1,2,3,4,5] (by decide)) we Nat.zero_lt_one
 rintro f ⟨R6,pa,pb,er⟩ we;have we:m_ pn pe q i pa pb er:=we;by_cases h0:er=0
 case neg=>exact r [1] rfl fun _=>fin fun w hS=>⟨rfl,hS.now.2.mono fun b h=>by simpa using h,.inl ⟨(fun h=>Uz hq hi we h0 h.1),hS.at 0 rfl,hS.at 1 rfl⟩⟩
 subst h0;obtain⟨IG,hd2,rfl,rfl⟩:=Uy we;cases ub
 ·exact r [0] rfl fun _=>fin fun w hS=>⟨rfl,hS.now.2.mono fun b h=>by simpa using h,.inl ⟨(fun h=>by cases h.2.1),hS.at 0 rfl,hS.at 1 rfl⟩⟩
 rcases MK with rfl|⟨ag,a1,Zs,rfl⟩
 case' inr=>exact r [0] rfl fun _=>fin fun w hS=>⟨rfl,hS.now.2.mono fun b h=>by simpa using h,.inl ⟨(fun h=>by cases h.2.2.1),hS.at 0 rfl,hS.at 1 rfl⟩⟩
 refine r [0] rfl fun _=>cut (X:=Nat×Int×L5) (fun x=>[(3,vp 2 0 (α 0)),(4,vp 3 0 (α 1)),(5,vp 4 0 (α 2)),(6,vp 5 0 R6),(7,vi x.2.1),(8,vp 6 0 x.1)]) (fun x=>crE X N (kj [.pointer (some ⟨X,0,none⟩),iV i,.bool true,.slice da dn dc,iV sy] (fU mo hn he wt .nilFunc tu) [iV ct,.bool sk]) (kO nd pn pe [fl,tk,dd,iV cs,sv,td]) (α 0) (α 1) (α 2) q [⟨R6,29,wQ (cP pn q i) (cP pe q 1)⟩,⟨x.1,117,pr x.2.2.1 x.2.2.2.1 x.2.2.2.2.1 x.2.2.2.2.2⟩]) (fun _=>U) (fun x w=>RowK .u8 w da dn dl∧PO x.2.2 w) (fun _ w'=>dk (fun b=>b∈[N,X]) w w') (fun x=>fJ B 1=(x.2.2.1,x.2.1)∧aT x.2.2.2.2.2 41) ?_ (r [4,1] rfl fun _=>lo rfl rfl 0 rfl 47 (mF B.r B.e B.f B.t B.o (.slice ba B.es.length bc) bq) (fun j hj=>(nh hq hj).trans (congrFun SR j)) ?_)
 case refine_2=>
  repeat' first|refine Cq ?_ ?_|(refine cx (g:=77) rfl (fun y:Int×L5=>vt [Ie y.2,.o (iV y.1)]) (fun y=>fJ B 1=(y.2.1,y.1)∧aT y.2.2.2.2 41) (fun y=>PO y.2) ?_ ?_;exact fun w _=>(L6 (fun _=>True) B ba bc bq 1 w okB).mono fun _ _ ⟨_,B8,er8,h0,fh,⟨a8,c8,g8,hy,hm8⟩,b⟩=>⟨(er8,B8,a8,c8,g8),by rw[h0,hy];rfl,b,⟨fh,hm8.now.one⟩,fun _ w2 c2=>hm8 w2 (c2.mono fun _ _=>trivial)⟩;rintro⟨er8,B8,a8,c8,g8⟩ ⟨fh,o8⟩)|refine rs [] rfl rfl fun _=> ?_
  all_goals exact bU (_,er8,B8,a8,c8,g8) ⟨rfl,rfl,rfl,rfl,rfl,rfl,trivial⟩ (fun w hS=>hS.G_ [0,1,2,3,4,5,6] (by decide)) ⟨fh,o8⟩ Nat.zero_lt_one
 rintro f ⟨R8,er8,B8,a8,c8,g8⟩ ⟨fh,o8⟩;have fh:fJ B 1=(B8,er8):=fh;have o8:aT g8 41:=o8;by_cases h0:er8=0
 case neg=>exact r [1] rfl fun _=>fin fun w hS=>⟨rfl,hS.now.2.mono fun b h=>by simpa using h,.inl ⟨(fun h=>h0 ((congrArg Prod.snd fh).symm.trans h.2.2.2.1)),hS.at 0 rfl,hS.at 1 rfl⟩⟩
 subst h0;refine r [0] rfl fun δ=>kp 7 rfl (c0 rfl fun w1 hS=> ?_);obtain⟨nP,hu2,hu3⟩:=hS.qI;refine(iN X N i da dn dc dl sy mo hn he wt .nilFunc tu ct true sk (.func 78) #[] #[.pointer (some ⟨R8,0,none⟩),.pointer (some ⟨R6,0,none⟩),.pointer (some ⟨α 2,0,none⟩),.pointer (some ⟨α 1,0,none⟩),.pointer (some ⟨α 0,0,none⟩)] [aI q] (some ⟨δ 0,0,none⟩) 1 1 _ (hS.at 0 rfl) _ nP hu2 (fun w2 cc=>⟨(hu3 w2 cc).1.1,lL (aI q) (IE hq) (hu3 w2 cc).2⟩) Hk G9 hdm h1 h2 h3 rfl (by decide) (fun r hr=>by rw[List.mem_singleton.1 hr];exact oQ hq)).mono ?_;rintro _ w2 ⟨k,rfl,ch,⟨rfl,iF,a2,c2,uU,st2,jo,qL,si⟩|⟨rfl,iF,uU⟩⟩
 case' inr=>exact⟨vv (.bool false),_,fun _=>True,rfl,ch,uU,fun _ _=>trivial,r [] rfl fun _=>c_ rfl fun w hS=>⟨rfl,hS.now.2.mono fun b h=>by simpa using h,.inl ⟨(fun h=>by have:=h.2.2.2.2;omega),hS.at 0 rfl,hS.at 1 rfl⟩⟩⟩
 refine⟨vv (.bool true),_,_,rfl,ch,uU,st2,r [] rfl fun _=>j_ rfl (by kernel_rfl) fun w3 hS=> ?_⟩;obtain⟨nP,hu2,hu3⟩:=hS.qI;refine(uT X N i a2 (dn+(bP [aI q]).length) c2 (dl++bP [aI q]) sy mo hn he wt tu ct true sk 78 [.pointer (some ⟨R8,0,none⟩),.pointer (some ⟨R6,0,none⟩),.pointer (some ⟨α 2,0,none⟩),.pointer (some ⟨α 1,0,none⟩),.pointer (some ⟨α 0,0,none⟩)] _ (hS.at 0 rfl) _ nP hu2 (fun w2 cc=>(hu3 w2 cc).2) qL jo iF h2 (by omega) (by kernel_rfl) (fun z=>∃a3 c3,Mem z (hs (crE X N (kj [.pointer (some ⟨X,0,none⟩),iV i,.bool true,.slice a3 (dn+(bP [aI q]).length) c3,iV (dn+(bP [aI q]).length)] (fU (aj mo q (mF B8.r B8.e B8.f B8.t B8.o (.slice a8 B8.es.length c8) g8)) hn he wt .nilFunc tu) [iV ct,.bool sk]) (kO nd (cP pn q i) (cP pe q 1) [fl,tk,dd,iV cs,sv,td]) (α 0) (α 1) (α 2) q [⟨R6,29,wQ (cP pn q i) (cP pe q 1)⟩,⟨R8,117,pr B8 a8 c8 g8⟩])) U (fun w=>jG w B8 a8 c8 g8∧RowK .u8 w a3 (dn+(bP [aI q]).length) (dl++bP [aI q])) (fun w'=>dk (fun b=>b∈[N,X]) w w')∧(dn+(bP [aI q]).length)≤c3∧(a3=none→c3=0)∧c3≤9223372036854775807) (fun _ _ ⟨a3,c3,h1,h2⟩ b=>⟨a3,c3,h1.next b,h2⟩) ?_).mono ?_
 ·intro a3 c3 z fz rz hc3 FK hm3 cz;have wK:=hS.OU cz fz rz;refine(Ux X N i a3 (dn+(bP [aI q]).length) c3 (dn+(bP [aI q]).length) mo hn he wt .nilFunc tu ct true sk nd pn pe fl tk dd cs sv td (cP pn q i) (cP pe q 1) (mF B8.r B8.e B8.f B8.t B8.o (.slice a8 B8.es.length c8) g8) (dY o8) q hq R8 R6 (α 2) (α 1) (α 0) z (wK.at 0 rfl) (wK.at 1 rfl) (wK.at 6 rfl) (wK.at 5 rfl) (wK.at 4 rfl) (wK.at 3 rfl) (wK.at 2 rfl) (wK.G_ [0,1,6,5,4,3,2] (by decide)).nodup).mono ?_;rintro _ z' ⟨rfl,f0,f1,cc⟩;exact⟨rfl,a3,c3,(wK.ac6 0 1 rfl rfl (by decide) cc f0 f1).said fun _ h=>⟨h.1.1.1.2,h.2⟩,hc3,FK,hm3⟩
 rintro _ w6 ⟨rfl,a3,c3,hS,hc3,FK,hm3⟩;obtain rfl:=MJ fh;exact⟨vt [],_,_,_,_,rfl,.inl rfl,hS,r [] rfl fun _=>c_ rfl fun w7 hS=>⟨rfl,hS.now.2.mono fun b h=>by simpa using h,.inr ⟨⟨⟨IG,hd2⟩,rfl,rfl,congrArg Prod.snd fh,iF⟩,a3,c3,a8,c8,g8,_,rfl,hS.at 0 rfl,hS.at 1 rfl,fun w2 cc=>(hS.take 2).g w2 (cc.mono fun b h=>h.imp (fun h=>show b∈[N,X] by simpa using h) id),hc3,FK,hm3⟩⟩⟩
end
def Qs(mo:tO):Nat→Value:=fun k=>mo (k/47) (k % 47)
theorem aaY(mo:tO){k:Nat}(hk:k<4)(w:tA):(Instr.index 118 (vF (Qs mo) 188) (iV (k:Int))).run Tryz.prog w= .ok (vF (mo k) 47) w:=by
 obtain rfl|rfl|rfl|rfl:k=0∨k=1∨k=2∨k=3:=by omega
 ·kernel_rfl
 ·kernel_rfl
 ·kernel_rfl
 ·kernel_rfl
theorem Yk{hd tl:tK}{mo:tO}{hn he:tG}{wt af:tJ}{tu:Int}{j:Nat}(h:j<188):kj hd (fU mo hn he wt af tu) tl (5+j)=Qs mo j:=by
 rw[Bq (by omega)];unfold fU Qs;rw[if_pos h]
def Yl(nd:tQ):Nat→Value:=fun k=> .pointer (some ⟨nd k,0,none⟩)
theorem aaZ(nd:tQ){k:Nat}(hk:k<5)(w:tA):(Instr.index 110 (vF (Yl nd) 5) (iV (k:Int))).run Tryz.prog w= .ok (.pointer (some ⟨nd k,0,none⟩)) w:=by
 obtain rfl|rfl|rfl|rfl|rfl:k=0∨k=1∨k=2∨k=3∨k=4:=by omega
 ·kernel_rfl
 ·kernel_rfl
 ·kernel_rfl
 ·kernel_rfl
 ·kernel_rfl
abbrev bF(B:Bt)(a:tB)(c:Nat):Nat→Value:=lF [iV B.r,iV B.e,iV B.f,iV B.t,iV B.o,.slice a B.es.length c]
structure kP(w:tA)(Y l:Nat)(B:Nat→Bt)(A:Nat→Option Addr)(K:tQ):Prop where
 cell:∀q,q<l→∀j,j<6→w.cell? ⟨Y,q*6+j,none⟩=some (bF (B q) (A q) (K q) j)
 bin:∀q,q<l→iL w (B q) (A q) (K q)
theorem UA{U:tD}{w w':tA}{Y:Nat}{f:Nat→Bt}{A:Nat→Option Addr}{K:tQ}(h:IC w' Y f A K)(hY:w.heap.size≤Y)(hU:∀b,U b→b<w.heap.size):bR U w' fun w=>kP w Y 4 f A K:=fun w2 c=>by
 refine⟨fun q hq j hj=> ?_,fun q hq=> ?_⟩
 ·have aL:=h.b.lt;have nu:¬U Y:=fun hu=>by have:=hU _ hu;omega
  rw[c.cell aL nu];obtain⟨h0,h1,h2,h3,h4,h5⟩:=h.b.at q hq
  match j,hj with
  |0,_=>exact h0
  |1,_=>exact h1
  |2,_=>exact h2
  |3,_=>exact h3
  |4,_=>exact h4
  |5,_=>exact h5
 ·have hb:=h.bin q hq;refine⟨mf hb.row c fun x hx _ hu=> ?_,hb.cap,hb.nil⟩;obtain⟨_,⟨e1,_⟩|⟨g,cap,cur,e1,hg,_⟩⟩:=h.own q hq
  ·simp only[mI]at e1;cases hx.symm.trans (by injection e1:A q=none)
  ·simp only[mI]at e1;have e2:A q=some ⟨g,0,none⟩:=by injection e1
   rw[hx]at e2;cases e2;have:=hU _ hu;simp only at this;omega
section
open Rv
theorem Dj:jk Tryz.prog 50 49 6 64=true:=by kernel_rfl
theorem Kr{g g':tC}{m:Nat}(h:∀j,j<m→g j=g' j):vF g m=vF g' m:=by
 have:bW g 0 m=bW g' 0 m:=List.map_congr_left fun j hj=>by rw[Nat.zero_add];exact h j (List.mem_range.1 hj)
 unfold vF;rw[this]
def bL(Bs:Nat→Bt)(A:Nat→Option Addr)(K:tQ)(k:Nat):List Value:=(List.range k).flatMap fun q=>bW (bF (Bs q) (A q) (K q)) 0 6
theorem th(Bs:Nat→Bt)(A:Nat→Option Addr)(K:tQ)(k:Nat):bL Bs A K (k+1)=bL Bs A K k++bW (bF (Bs k) (A k) (K k)) 0 6:=by simp[bL,List.range_succ]
theorem Dk(Bs:Nat→Bt)(A:Nat→Option Addr)(K:tQ):∀k,(bL Bs A K k).length=6*k
 |0=>rfl
 |k+1=>by rw[th,List.length_append,Dk Bs A K k,bI];omega
theorem WI(Bs:Nat→Bt)(A:Nat→Option Addr)(K:tQ):∀(k q j:Nat),q<k→j<6→(bL Bs A K k)[q*6+j]? =some (bF (Bs q) (A q) (K q) j)
 |0,q,_,h,_=>absurd h (Nat.not_lt_zero q)
 |k+1,q,j,h,hj=>by
  rw[th];by_cases e:q=k
  ·subst e;rw[List.getElem?_append_right (by rw[Dk];omega),Dk,show q*6+j-6*q=j by omega,cg _ _ _ _ hj,Nat.zero_add]
  ·rw[List.getElem?_append_left (by rw[Dk];omega)];exact WI Bs A K k q j (by omega) hj
theorem FL{Bs:Nat→Bt}{A A':Nat→Option Addr}{K K':tQ}:∀(k:Nat),(∀q,q<k→A q=A' q∧K q=K' q)→bL Bs A K k=bL Bs A' K' k
 |0,_=>rfl
 |k+1,h=>by rw[th,th,FL k fun q hq=>h q (by omega),(h k (Nat.lt_succ_self k)).1,(h k (Nat.lt_succ_self k)).2]
theorem UB{w:tA}{Bs:Nat→Bt}{A:Nat→Option Addr}{K:tQ}{k:Nat}{a:tB}{c:Nat}(h:∀q,q<k→iL w (Bs q) (A q) (K q))(hk:iL w (Bs k) a c):∀q,q<k+1→iL w (Bs q) (aj A k a q) (aj K k c q):=fun q hq=>by
 unfold aj;by_cases e:q=k
 ·subst e;rw[if_pos rfl,if_pos rfl];exact hk
 ·rw[if_neg e,if_neg e];exact h q (by omega)
theorem MM(X N:Nat)(i:Int)(da:tB)(dn dc:Nat)(sy:Int)(mo:tO)(hn he:tG)(wt af:tJ)(tu ct:Int)(sk:Bool)(Bs:Nat→Bt)(ba:Nat→Option Addr)(bc:tQ)(bq:tO)(SR:∀q,q<4→vF (mo q) 47=xV (Bs q) (ba q) (bc q) (bq q))(pS:∀q,q<4→aT (mo q) 47)(hlen:∀q,q<4→(Bs q).es.length≤1000000)(w:tA)(SP:aZ w N 126 206 (kj [.pointer (some ⟨X,0,none⟩),iV i,.bool true,.slice da dn dc,iV sy] (fU mo hn he (wt) (af) tu) [iV ct,.bool sk]))(U:tD)(hU:∀b,U b→b<w.heap.size)(D8:¬U N)(hr:bR (fun b=>b=N∨U b) w fun w=>∀q,q<4→iL w (Bs q) (ba q) (bc q)):cA 52 #[.pointer (some ⟨N,0,none⟩)] w fun x w'=>∃Y c A K,x= .returned (.slice (some ⟨Y,0,none⟩) 4 c)∧4≤c∧bR (fun b=>b=N∨U b) w' (fun w=>kP w Y 4 Bs A K)∧bZ w w':=by
 have SQ:[N].Nodup:=by simp
 have Qr:∀e∈([⟨N,126,206,(kj [.pointer (some ⟨X,0,none⟩),iV i,.bool true,.slice da dn dc,iV sy] (fU mo hn he (wt) (af) tu) [iV ct,.bool sk])⟩]:List bQ),aZ w e.a e.t e.n e.f:=by
  intro e he;simp only[List.mem_cons,List.not_mem_nil,or_false]at he;rcases he with rfl
  ·exact SP
 have hS:Mem w [⟨N,126,206,(kj [.pointer (some ⟨X,0,none⟩),iV i,.bool true,.slice da dn dc,iV sy] (fU mo hn he (wt) (af) tu) [iV ct,.bool sk])⟩] U (fun w=>∀q,q<4→iL w (Bs q) (ba q) (bc q)) (fun w'=>dk (fun b=>b∈[N]) w w'):=Mem.begin Qr (OT SQ) (fun e he=>by cases List.mem_singleton.1 he;exact D8) hU (fun w2 c=>hr w2 (c.mono fun b h=>h.imp (fun h=>List.mem_singleton.1 h) id));clear Qr;refine en (H:=[⟨N,126,[.f 206 (kj [.pointer (some ⟨X,0,none⟩),iV i,.bool true,.slice da dn dc,iV sy] (fU mo hn he wt af tu) [iV ct,.bool sk])]⟩]) _ [vp 0 0 N] Tryz.func52 rfl rfl hS (r [] rfl fun _=>sv 37 (vf 188 (Qs mo)) (Kr fun j hj=>Yk hj) ?_);refine jH (fun w2 hS=>hS.zJ w.heap.size 49 6) ?_;refine ic (X:=Nat×Value×(Nat→Option Addr)×(Nat→Nat)) ⟨fun x=>[(9,vv x.2.1),(37,vf 188 (Qs mo)),(38,vi (x.1:Int))],fun x=>[⟨N,126,[.f 206 (kj [.pointer (some ⟨X,0,none⟩),iV i,.bool true,.slice da dn dc,iV sy] (fU mo hn he wt af tu) [iV ct,.bool sk])]⟩],fun x b=>x.2.1.ownBlock=some b∨U b,fun x w=>(∀q,q<4→iL w (Bs q) (ba q) (bc q))∧∀q,q<x.1→iL w (Bs q) (x.2.2.1 q) (x.2.2.2 q),fun x w'=>dk (fun b=>b∈[N]) w w'∧w'.ownsRow w.heap.size 49 6 x.2.1 x.1 (bL Bs x.2.2.1 x.2.2.2 x.1),fun x=>x.1≤4,fun x=>4-x.1⟩ (0,.slice none 0 0,fun _=>none,fun _=>0) ⟨rfl,rfl,rfl,trivial⟩ (fun w hS=>hS.said fun _ h=>⟨h,fun q hq=>absurd hq (Nat.not_lt_zero q)⟩) (Nat.zero_le _) ?_;rintro f ⟨k,v9,A,K⟩ hk;have hk:k≤4:=hk;by_cases aL:k<4
 case neg=>
  obtain rfl:k=4:=by omega
  refine r [0] rfl fun _=>fin fun w1 hS=> ?_;have ho:w1.ownsRow w.heap.size 49 6 v9 4 (bL Bs A K 4):=hS.now.2.2;rcases id ho.2 with⟨_,h⟩|⟨Y,c,_,rfl,hY,_,h4,_⟩
  ·cases h
  refine⟨Y,c,A,K,rfl,h4,fun w2 c2=>⟨fun q hq j hj=> ?_,(hS.g w2 (c2.mono fun b hb=>hb.imp (fun h=>List.mem_singleton.2 h) .inr)).2⟩,(hS.now.2.1.less (U:=fun _=>False) fun b hb=>by obtain rfl:=List.mem_singleton.1 hb;exact .inr ⟨_,_,_,SP,hS.at 0 rfl⟩).below (Nat.le_refl _) fun _ _ h=>h⟩
  ·have hk:=jr ho fun g hg aL=>c2.block g aL fun hu=>by
    cases hg;rcases hu with hu|hu
    ·exact absurd hY (Nat.not_le.2 (by have h:=SP.lt;rw[←hu]at h;exact h))
    ·exact absurd (hU _ hu) (Nat.not_lt.2 hY)
   have:=n_ hk (WI Bs A K 4 q j hq hj);rwa [Addr.add_mid,Nat.zero_add]at this
 refine r [1] rfl fun _=>ix (vf 47 (mo k)) rfl rfl (aaY mo aL) ?_;have qv:=pS k aL;refine r [] rfl fun γ=>cx rfl (fun y:Option Addr×Nat=>vg (bS (Bs k).r (Bs k).e (Bs k).f (Bs k).t (Bs k).o y.1 (Bs k).es.length y.2)) (fun y=>(Bs k).es.length≤y.2∧(y.1=none→y.2=0)) (fun y w=>RowK .i64 w y.1 (6*(Bs k).es.length) (ai (Bs k).es)) (fun w1 hS=> ?_) ?_
 ·have we:=Ib (Bs k).r (Bs k).e (Bs k).f (Bs k).t (Bs k).o (ba k) (Bs k).es.length (bc k) (bq k) (ai (Bs k).es) w1 (hS.now.1.1 k aL).row (hS.now.1.1 k aL).nil (hlen k aL);rw[show jg (Bs k).r (Bs k).e (Bs k).f (Bs k).t (Bs k).o (ba k) (Bs k).es.length (bc k) (bq k)=vF (mo k) 47 from(SR k aL).symm]at we;refine we.mono ?_;rintro _ w3 ⟨_,rfl,⟨a8,c8,rfl,r8,D_,Qt,hf8⟩,b⟩;exact⟨(a8,c8),rfl,b,⟨D_,Qt⟩,fun hl=>bT r8 hf8 hl⟩
 rintro⟨a8,c8⟩ ⟨D_,Qt⟩;have eA:∀q,q<k→aj A k a8 q=A q∧aj K k c8 q=K q:=fun q hq=>⟨if_neg (by omega),if_neg (by omega)⟩;have eL:bL Bs (aj A k a8) (aj K k c8) (k+1)=bL Bs A K k++bW (bF (Bs k) a8 c8) 0 6:=by rw[th,FL k eA,show aj A k a8 k=a8 from if_pos rfl,show aj K k c8 k=c8 from if_pos rfl]
 refine r [] rfl fun _=>qJ 2 rfl Dj (fun w1 hS=>hS.now.2.1.size) (fun _ _ h c=>h.trans c fun b hb hle=>absurd hb (Nat.not_lt.2 hle)) fun g c hc=> ?_;refine rz [1] [((k+1:Nat):Int)] rfl fun _=>bU (k+1,_,aj A k a8,aj K k c8) ⟨rfl,rfl,rfl,trivial⟩ (fun w1 hS=>((hS.take 1).said fun w h=>⟨h.1.1,UB h.1.2 ⟨h.2,D_,Qt⟩⟩).sr fun w h=>⟨h.1,by show w.ownsRow _ _ _ _ (k+1) (bL Bs (aj A k a8) (aj K k c8) (k+1));rw[eL];exact h.2⟩) (show k+1≤4 by omega) (show 4-(k+1)<4-k by omega)
theorem FM(rs:List Rec):(rs.map bj).flatten=aB rs:=by
 unfold aB;rw[List.flatMap_def]
theorem Qu{w:tA}{a:tB}{rs:List Rec}(h:iM w a (rs.map bj))(vA:∀u∈aB rs,(Lit.int .i64 u).wf=true):RowK .i64 w a (10*rs.length) (aB rs):=by
 have hl:(aB rs).length=10*rs.length:=by
  rw[←FM,Fq _ h.Kh,List.length_map];omega
 refine⟨hl,vA,fun i hi=> ?_⟩;obtain⟨b,off,e,hb,hc⟩:=h.cell i (by rw[List.length_map];omega);rw[FM]at hc;exact⟨b,off,e,hb,hc⟩
theorem Ks(a:tB)(len cap:Nat)(l:tF)(s:Int)(rs:List Rec)(kk:Nat)(w:tA)(h:RowK .u8 w a len l)(hn:a=none→cap=0)(qk:len≤cap)(hc:cap≤9223372036854775807)(h1:len≤100000)(h2:0≤s)(h3:s≤len)(UC:bz l=(rs.map bj,kk))(vA:∀u∈aB rs,(Lit.int .i64 u).wf=true):
  cA 93 #[.agg #[.slice a len cap,iV s]] w fun e w'=>
   ∃a' bh,e= .returned (.tuple #[.slice a' rs.length bh,iV (kk:Nat),iV 0])∧RowK .i64 w' a' (10*rs.length) (aB rs)∧rs.length≤bh∧bh≤9223372036854775807∧(a'=none→bh=0)∧(∀x,a'=some x→w.heap.size≤x.block)∧bZ w w':=by
 refine(Fs a len cap l s w h hn qk hc h1 h2 h3).mono ?_;rintro _ w' ⟨a',c',rfl,hr,mm,jo,hc3,hc4,hb⟩;rw[UC]at hr mm⊢;simp only[List.length_map]at mm⊢;exact⟨a',c',rfl,Qu hr vA,mm,jo,hc3,hc4,hb⟩
theorem UD{f g:Nat→Bt}(h:ko f=ko g):∀q,q<4→f q=g q:=by
 simp only[ko,List.cons.injEq,and_true]at h;obtain⟨h0,h1,h2,h3⟩:=h;intro q hq;obtain rfl|rfl|rfl|rfl:q=0∨q=1∨q=2∨q=3:=by omega
 ·exact h0
 ·exact h1
 ·exact h2
 ·exact h3
theorem Ym{U:tD}(rs:List Rec)(Bs:Nat→Bt)(a:tB)(c:Nat)(w:tA)(hr:RowK .i64 w a (10*rs.length) (aB rs))(hc:rs.length≤c)(hlen:(rs.length+1)*48≤140737488355328)(Qv:(ki (ko fL) 0 rs).1=some (ko Bs))(hU:∀b,U b→b<w.heap.size):
  cA 94 #[.slice a rs.length c] w fun x w'=>∃Y A K,x= .returned (.tuple #[.slice (some ⟨Y,0,none⟩) 4 4,iV 0,iV 0])∧bR U w' (fun w=>kP w Y 4 Bs A K)∧bZ w w':=by
 refine(Ut rs a c w hr hc hlen).mono ?_;rintro _ w' ⟨⟨_,ho⟩,hb⟩;obtain⟨Y,f,A,K,rfl,_,_,e,hf,hY⟩:=ho _ Qv;have hq:=UD e;refine⟨Y,A,K,rfl,fun w2 c2=> ?_,hb⟩;have hh:=UA hf hY hU w2 c2;exact⟨fun q xX j hj=>by rw[hq q xX];exact hh.cell q xX j hj,fun q xX=>by rw[hq q xX];exact hh.bin q xX⟩
theorem FN(X N:Nat)(i:Int)(da:tB)(dn dc:Nat)(dl:tF)(sy:Int)(mo:tO)(hn he:tG)(wt af:tJ)(tu ct:Int)(sk:Bool)(Bs:Nat→Bt)(rs:List Rec)(kk:Nat)(w:tA)(SP:aZ w N 126 206 (kj [.pointer (some ⟨X,0,none⟩),iV i,.bool false,.slice da dn dc,iV sy] (fU mo hn he (wt) (af) tu) [iV ct,.bool sk]))(U:tD)(hU:∀b,U b→b<w.heap.size)(D8:¬U N)(hr:bR (fun b=>b=N∨U b) w fun w=>RowK .u8 w da dn dl)(Hk:da=none→dc=0)(G9:dn≤dc)(hdm:dc≤9223372036854775807)(h1:dn≤100000)(h2:0≤sy)(h3:sy≤dn)(UC:bz dl=(rs.map bj,kk))(vA:∀u∈aB rs,(Lit.int .i64 u).wf=true)(hrl:rs.length≤100000)(Qv:(ki (ko fL) 0 rs).1=some (ko Bs)):cA 52 #[.pointer (some ⟨N,0,none⟩)] w fun x w'=>∃Y c A K,x= .returned (.slice (some ⟨Y,0,none⟩) 4 c)∧4≤c∧bR (fun b=>b=N∨U b) w' (fun w=>kP w Y 4 Bs A K)∧bZ w w':=by
 refine en 48 [vp 0 0 N] Tryz.func52 rfl rfl (SP.JJ hU D8 hr) (r [] rfl fun _=> ?_);refine cx rfl (fun y:Option Addr×Nat=>vt [.o (.slice y.1 rs.length y.2),.o (iV (kk:Nat)),.o (iV 0)]) (fun y=>rs.length≤y.2) (fun y w=>RowK .i64 w y.1 (10*rs.length) (aB rs)) (fun w1 hS=>(Ks da dn dc dl sy rs kk w1 hS.now.1 Hk G9 hdm h1 h2 h3 UC vA).mono fun _ w2 ⟨a1,c1,h0,r1,mm,_,_,uu,b⟩=>⟨(a1,c1),h0,b,mm,bT r1 uu⟩) ?_;rintro⟨a8,c8⟩ D_;refine r [] rfl fun _=>cx rfl (fun y:Nat×(Nat→Option Addr)×(Nat→Nat)=>vt [.o (.slice (some ⟨y.1,0,none⟩) 4 4),.o (iV 0),.o (iV 0)]) (fun _=>True) (fun y w=>kP w y.1 4 Bs y.2.1 y.2.2) (fun w1 hS=>(Ym rs Bs a8 c8 w1 hS.now.1.2 D_ (by omega) Qv hS.ult).mono fun _ w2 ⟨Y,A,K,h0,st,b⟩=>⟨(Y,A,K),h0,b,trivial,fun _=>st⟩) ?_;rintro⟨Y,A,K⟩ _;refine r [] rfl fun _=>fin fun w2 hS=> ?_;have ch:dk (fun _=>False) w w2:=hS.now.2.less fun b hb=>by
  cases List.mem_singleton.1 hb;exact .inr ⟨_,_,_,SP,hS.at 0 rfl⟩
 exact⟨Y,4,A,K,rfl,Nat.le_refl _,fun w2 c2=>(hS.g w2 (c2.mono fun b h=>h.imp (fun h=>List.mem_singleton.2 h) id)).2,ch.below (Nat.le_refl _) fun _ _ h=>h⟩
theorem qX:jk Tryz.prog 176 167 10 80=true:=by kernel_rfl
theorem UE{mo:tO}{hn he:tG}{wt af:tJ}{tu:Int}{q:Nat}{g:tC}(hq:q<4)(i:Nat):fS (fU mo hn he wt af tu) (0+q*47) 47 g i=fU (aj mo q g) hn he wt af tu i:=by
 rw[Nat.zero_add];exact Qn hq i
abbrev qY(Bs:Nat→Bt)(q:Nat):Rec:=⟨2,q,(Bs q).e,0,⟨4,0,0,0,0,0⟩⟩
def aX(Bs:Nat→Bt):Nat→List Rec
 |0=>[]
 |k+1=>if(Bs k).r=1 then aX Bs k++[qY Bs k]else aX Bs k
theorem oR{Bs:Nat→Bt}{k:Nat}(h:(Bs k).r=1):aX Bs (k+1)=aX Bs k++[qY Bs k]:=if_pos h
theorem qw{Bs:Nat→Bt}{k:Nat}(h:¬(Bs k).r=1):aX Bs (k+1)=aX Bs k:=if_neg h
theorem lN(Bs:Nat→Bt):∀k,(aX Bs k).length≤k
 |0=>Nat.le_refl _
 |k+1=>by
  have:=lN Bs k;unfold aX;split
  ·rw[List.length_append,List.length_singleton];omega
  ·omega
theorem ia:∀l:List Rec,(aB l).length=10*l.length
 |[]=>rfl
 |r::l=>by
  have:=ia l;unfold aB at this⊢;rw[List.flatMap_cons,List.length_append,this,List.length_cons];show 10+_=_;omega
theorem MN{l:List Rec}{r:Rec}{F F':tC}(h:∀j,j<10*l.length→F j=iV ((aB l).getD j 0))(h1:∀j,j<l.length*10→F' j=F j)(h2:∀j,j<10→F' (l.length*10+j)=lF [iV r.k,iV r.q,iV r.e,iV r.p,iV r.v.k,iV r.v.p,iV r.v.i,iV r.v.b,iV r.v.he,iV r.v.hn] j):∀j,j<10*(l++[r]).length→F' j=iV ((aB (l++[r])).getD j 0):=fun j hj=>by
 have e:aB (l++[r])=aB l++bj r:=by simp[aB]
 rw[List.length_append,List.length_singleton]at hj;rw[e];have hl:=ia l;by_cases hc:j<10*l.length
 ·rw[h1 j (by omega),h j hc];simp only[List.getD_eq_getElem?_getD];rw[List.getElem?_append_left (by omega)]
 ·obtain⟨i,rfl⟩:∃i,j=l.length*10+i:=⟨j-l.length*10,by omega⟩;have hi:i<10:=by omega
  rw[h2 i hi];simp only[List.getD_eq_getElem?_getD];rw[List.getElem?_append_right (by omega),hl,show l.length*10+i-10*l.length=i by omega]
  match i,hi with
  |0,_=>rfl
  |1,_=>rfl
  |2,_=>rfl
  |3,_=>rfl
  |4,_=>rfl
  |5,_=>rfl
  |6,_=>rfl
  |7,_=>rfl
  |8,_=>rfl
  |9,_=>rfl
theorem Yn{U:tD}{w:tA}{Y T n:Nat}{F:tC}{l:tF}(fb:aZ w Y T n F)(hY:¬U Y)(hn:l.length≤n)(hF:∀j,j<l.length→F j=iV (l.getD j 0))(vA:∀u∈l,(Lit.int .i64 u).wf=true):bR U w fun w=>RowK .i64 w (some ⟨Y,0,none⟩) l.length l:=fun w2 c=>
 ⟨rfl,vA,fun i hi=>⟨Y,0,rfl,Nat.lt_of_lt_of_le fb.lt c.size,by rw[Nat.zero_add,c.cell fb.lt hY,fb.at i (by omega),hF i hi]⟩⟩
theorem UF{w:tA}{Bw:Nat→Bt}{A:Nat→Option Addr}{K:tQ}{q':tO}{k:Nat}{a:tB}{c:Nat}{g:tC}(h:∀q,q<k→jG w (Bw q) (A q) (K q) (q' q))(hk:jG w (Bw k) a c g):∀q,q<k+1→jG w (Bw q) (aj A k a q) (aj K k c q) (aj q' k g q):=fun q hq=>by
 unfold aj;by_cases e:q=k
 ·subst e;rw[if_pos rfl,if_pos rfl,if_pos rfl];exact hk
 ·rw[if_neg e,if_neg e,if_neg e];exact h q (by omega)
theorem Yo{mo:tO}{Bw:Nat→Bt}{A:Nat→Option Addr}{K:tQ}{q':tO}{k:Nat}{a:tB}{c:Nat}{g y:tC}(h:∀q,q<k→vF (mo q) 47=xV (Bw q) (A q) (K q) (q' q))(hk:vF y 47=xV (Bw k) a c g):∀q,q<k+1→vF (aj mo k y q) 47=xV (Bw q) (aj A k a q) (aj K k c q) (aj q' k g q):=fun q hq=>by
 unfold aj;by_cases e:q=k
 ·subst e;rw[if_pos rfl,if_pos rfl,if_pos rfl,if_pos rfl];exact hk
 ·rw[if_neg e,if_neg e,if_neg e,if_neg e];exact h q (by omega)
theorem UG{mo:tO}{k:Nat}{y:tC}(h:∀q,q<4→aT (mo q) 47)(hy:aT y 47):∀q,q<4→aT (aj mo k y q) 47:=fun q hq=>by
 unfold aj;by_cases e:q=k
 ·rw[if_pos e];exact hy
 ·rw[if_neg e];exact h q hq
theorem MO{Bs:Nat→Bt}(h:∀q,q<4→(Lit.int .i64 (Bs q).e).wf=true):∀u∈aB (aX Bs 4),(Lit.int .i64 u).wf=true:=by
 have:∀k,k≤4→∀u∈aB (aX Bs k),(Lit.int .i64 u).wf=true:=by
  intro k
  induction k with
  |zero=>intro _ u hu;simp[aX,aB]at hu
  |succ k ih=>
   intro hk u hu;by_cases hr:(Bs k).r=1
   ·rw[oR hr]at hu;have e:aB (aX Bs k++[qY Bs k])=aB (aX Bs k)++bj (qY Bs k):=by simp[aB]
    rw[e,List.mem_append]at hu;rcases hu with hu|hu
    ·exact ih (by omega) u hu
    ·simp only[bj,List.mem_cons,List.not_mem_nil,or_false]at hu;rcases hu with rfl|rfl|rfl|rfl|rfl|rfl|rfl|rfl|rfl|rfl
     ·decide
     ·obtain rfl|rfl|rfl|rfl:k=0∨k=1∨k=2∨k=3:=by omega
      ·decide
      ·decide
      ·decide
      ·decide
     ·exact h k (by omega)
     ·decide
     ·decide
     ·decide
     ·decide
     ·decide
     ·decide
     ·decide
   ·rw[qw hr]at hu;exact ih (by omega) u hu
 exact this 4 (Nat.le_refl _)
theorem FO(l:List Rec)(r:Rec):(aB (l++[r])).map (Value.int .i64)=(aB l).map (Value.int .i64)++(bj r).map (Value.int .i64):=by simp[aB]
theorem IH{x:Int}(h1: -9223372036854775808≤x)(h2:x≤9223372036854775807):(Lit.int .i64 x).wf=true:=by
 have e:IntKind.i64.min= -9223372036854775808:=rfl;simp[Lit.wf];exact⟨by omega,h2⟩
theorem jy{B:Bt}(h:B.cC):0≤B.e∧B.e≤1048576:=by
 unfold Bt.cC bw at h;omega
def WkY(Bs:Nat→Bt)(U:tD)(w:tA)(x:Ending)(w':tA):Prop:=∃(mo:tO) (ba:Nat→Option Addr) (bc:tQ) (bq:tO) (ra:tB) (rc:Nat),x= .returned (.tuple #[vF (fU mo (eD 4) bD (.slice none 0 0) .nilFunc 0) 199,.slice ra (aX Bs 4).length rc,.bool true])∧(∀q,q<4→vF (mo q) 47=xV (a7 (Bs q)).1 (ba q) (bc q) (bq q))∧(∀q,q<4→aT (mo q) 47)∧bR U w' (fun w=>(∀q,q<4→jG w (a7 (Bs q)).1 (ba q) (bc q) (bq q))∧RowK .i64 w ra (10*(aX Bs 4).length) (aB (aX Bs 4)))∧(aX Bs 4).length≤rc∧bZ w w'
theorem Br(Bs:Nat→Bt)(Y cb:Nat)(A:Nat→Option Addr)(K:tQ)(ok:∀q,q<4→(Bs q).Ok)(he:∀q,q<4→(Lit.int .i64 (Bs q).e).wf=true)(U:tD)(w:tA)(hU:∀b,U b→b<w.heap.size)(hb:bR U w fun w=>kP w Y 4 Bs A K):cA 86 #[.slice (some ⟨Y,0,none⟩) 4 cb] w fun x w'=>((∃p,p<4∧¬(a7 (Bs p)).2=0)∧x= .returned (.tuple #[vF Yh 199,.slice none 0 0,.bool false])∧bZ w w')∨((∀q,q<4→(a7 (Bs q)).2=0)∧WkY Bs U w x w'):=by
 have o0:aT (fU Oi (eD 4) bD (.slice none 0 0) .nilFunc 0) 199:=uS wW rfl;refine en (H:=[]) 52 [vv (.slice (some ⟨Y,0,none⟩) 4 cb)] Tryz.func86 rfl rfl (nZ hU hb) (r [] rfl fun α=> ?_);refine Rv.cb rfl (vf 199 (fU Oi (eD 4) bD (.slice none 0 0) .nilFunc 0)) (fun w _=>s_ w) (r [] rfl fun β=>gn 0 Yh ?_);refine jH (fun w2 hS=>hS.zJ w.heap.size 167 10) ?_;refine ic (X:=Nat×Value×(Nat→Nat→Value)×(Nat→Option Addr)×(Nat→Nat)×(Nat→Nat→Value)) ⟨fun x=>[(2,vp 0 0 (α 0)),(5,vp 1 0 (β 0)),(6,vv x.2.1),(12,vv (.slice (some ⟨Y,0,none⟩) 4 cb)),(13,vi 4),(14,vi (x.1:Int))],fun x=>[⟨α 0,120,[.f 199 Yh]⟩,⟨β 0,120,[.f 199 (fU x.2.2.1 (eD 4) bD (.slice none 0 0) .nilFunc 0)]⟩],fun x b=>x.2.1.ownBlock=some b∨U b,fun x w=>kP w Y 4 Bs A K∧∀q,q<x.1→jG w (a7 (Bs q)).1 (x.2.2.2.1 q) (x.2.2.2.2.1 q) (x.2.2.2.2.2 q),fun x w'=>bZ w w'∧w'.ownsRow w.heap.size 167 10 x.2.1 (aX Bs x.1).length ((aB (aX Bs x.1)).map (.int .i64)),fun x=>x.1≤4∧(∀q,q<x.1→(a7 (Bs q)).2=0)∧(∀q,q<x.1→vF (x.2.2.1 q) 47=xV (a7 (Bs q)).1 (x.2.2.2.1 q) (x.2.2.2.2.1 q) (x.2.2.2.2.2 q))∧(∀q,q<4→aT (x.2.2.1 q) 47),fun x=>4-x.1⟩ (0,.slice none 0 0,Oi,fun _=>none,fun _=>0,fun _=>zQ) ⟨rfl,rfl,rfl,rfl,rfl,rfl,trivial⟩ (fun w hS=>hS.said fun _ h=>⟨h,fun q hq=>absurd hq (Nat.not_lt_zero q)⟩) ⟨Nat.zero_le _,fun q hq=>absurd hq (Nat.not_lt_zero q),fun q hq=>absurd hq (Nat.not_lt_zero q),wW⟩ ?_;rintro f ⟨k,v6,mo,ba,bc,bq⟩ ⟨hk,Yp,SR,pS⟩;have hk:k≤4:=hk;have pS:∀q,q<4→aT (mo q) 47:=pS;have o1:aT (fU mo (eD 4) bD (.slice none 0 0) .nilFunc 0) 199:=uS pS rfl;have Dm:=lN Bs k;by_cases aL:k<4
 case neg=>
  obtain rfl:k=4:=by omega
  refine r [0] rfl fun _=>fin fun w1 hS=> .inr ⟨Yp, ?_⟩;have ho:w1.ownsRow w.heap.size 167 10 v6 (aX Bs 4).length ((aB (aX Bs 4)).map (Value.int .i64)):=hS.now.2.2;obtain⟨a,c,rfl,hr,hc,_,_,hf⟩:=RowK.fY ho (MO he);exact⟨mo,ba,bc,bq,a,c,rfl,SR,pS,fun w2 c2=>⟨(hS.Cr w2 (c2.mono fun _ h=> .inr h)).2,bT hr hf hU w2 c2⟩,hc,hS.now.2.1⟩
 refine r [1] rfl fun _=>lf (q:=0+k*6) rfl 6 (bF (Bs k) (A k) (K k)) (fun w hS j hj=>by rw[Nat.zero_add];exact hS.now.1.1.cell k aL j hj) (r [] rfl fun γ=> ?_);refine cx rfl (fun y:L5=>vt [Ie y,.o (iV 0)]) (fun y=>y.1=Bs k∧aT y.2.2.2 41) PO (fun w hS=>(TZ _ (Bs k) (A k) (K k) w hS.ult (fun w2 c2=>(hS.g w2 c2).1.bin k aL) (ok k aL)).mono ?_) ?_
 ·rintro _ w7 ⟨_,rfl,⟨a8,c8,q8,rfl,hm8⟩,b⟩;exact⟨(Bs k,a8,c8,q8),rfl,b,⟨rfl,hm8.now.one⟩,fun _=>hm8⟩
 rintro⟨B8,a8,c8,q8⟩ ⟨e8,o8⟩;obtain rfl:B8=Bs k:=e8;have o8:aT q8 41:=o8;refine r [1] rfl fun δ=>cx rfl (fun y:Int×L5=>vt [Ie y.2,.o (iV y.1)]) (fun y=>a7 (Bs k)=(y.2.1,y.1)∧aT y.2.2.2.2 41) (fun y=>PO y.2) (fun w hS=>(Ma _ (Bs k) a8 c8 q8 w hS.ult (fun w2 c2=>(hS.g w2 c2).2) (ok k aL)).mono ?_) ?_
 ·rintro _ w10 ⟨_,B1,er,rfl,iF,⟨a9,c9,q9,rfl,hm9⟩,b⟩;exact⟨(er,B1,a9,c9,q9),rfl,b,⟨iF,hm9.now.one⟩,fun _=>hm9⟩
 rintro⟨er,B9,a9,c9,q9⟩ ⟨Zu,o9⟩;have Zu:a7 (Bs k)=(B9,er):=Zu;have o9:aT q9 41:=o9;by_cases ER:er=0
 case neg=>exact r [1] rfl fun _=>fin fun w hS=> .inl ⟨⟨k,aL,by rw[Zu];exact ER⟩,rfl,hS.now.2.1⟩
 subst ER;have lo2:∀q,q<k+1→(a7 (Bs q)).2=0:=fun q hq=>by
  by_cases e:q=k
  ·rw[e,Zu]
  ·exact Yp q (by omega)
 have mi:=fun(w:tA) (h:(kP w Y 4 Bs A K∧∀q,q<k→jG w (a7 (Bs q)).1 (ba q) (bc q) (bq q))∧jG w B9 a9 c9 q9)=>UF (Bw:=fun q=>(a7 (Bs q)).1) h.1.2 (by rw[Zu];exact h.2);have mu:=Yo (y:=mF B9.r B9.e B9.f B9.t B9.o (.slice a9 B9.es.length c9) q9) SR (by rw[Zu]<;>rfl)
 have ou:=UG (y:=mF B9.r B9.e B9.f B9.t B9.o (.slice a9 B9.es.length c9) q9) (k:=k) pS (dY o9);refine r [0,1] rfl fun _=>so (g:=mF B9.r B9.e B9.f B9.t B9.o (.slice a9 B9.es.length c9) q9) rfl rfl rfl 1 rfl _ (fun i _=>UE aL i) ?_ (dY o9);by_cases sS:(Bs k).r=1
 ·refine r [1] rfl fun _=>qJ 4 rfl qX (fun w hS=>hS.now.2.1.size) (fun _ _ h c=>cS h c (Nat.le_refl _)) fun g c hc=> ?_;refine rz [1] [((k+1:Nat):Int)] rfl fun _=>bU (k+1,_,_,aj ba k a9,aj bc k c9,aj bq k q9) ⟨rfl,rfl,rfl,rfl,rfl,rfl,trivial⟩ (fun w1 hS=>((hS.take 2).said fun w h=>⟨h.1.1.1,mi w ⟨h.1.1,h.2⟩⟩).sr fun w h=>⟨h.1,by rw[oR sS,List.length_append,FO];exact h.2⟩) ⟨(show k+1≤4 by omega),lo2,mu,ou⟩ (show 4-(k+1)<4-k by omega)
 ·refine rz [0,1] [((k+1:Nat):Int)] rfl fun _=>bU (k+1,v6,_,aj ba k a9,aj bc k c9,aj bq k q9) ⟨rfl,rfl,rfl,rfl,rfl,rfl,trivial⟩ (fun w1 hS=>((hS.take 2).said fun w h=>⟨h.1.1.1,mi w ⟨h.1.1,h.2⟩⟩).sr fun w h=>⟨h.1,by rw[qw sS];exact h.2⟩) ⟨(show k+1≤4 by omega),lo2,mu,ou⟩ (show 4-(k+1)<4-k by omega)
theorem MP(Bs:Nat→Bt)(Y cb:Nat)(A:Nat→Option Addr)(K:tQ)(ok:∀q,q<4→(Bs q).Ok)(he:∀q,q<4→(Lit.int .i64 (Bs q).e).wf=true)(ed:∀q,q<4→(a7 (Bs q)).2=0)(U:tD)(w:tA)(hU:∀b,U b→b<w.heap.size)(hb:bR U w fun w=>kP w Y 4 Bs A K):cA 86 #[.slice (some ⟨Y,0,none⟩) 4 cb] w (WkY Bs U w):=by
 refine(Br Bs Y cb A K ok he U w hU hb).mono ?_;rintro x w' (⟨⟨p,hp,h⟩,_⟩|⟨_,h⟩)
 ·exact absurd (ed p hp) h
 ·exact h
theorem WJ{B:Bt}(ok:B.Ok):(Lit.int .i64 B.e).wf=true:=by
 have hs:=jy ok.cJ;exact IH (by omega) (by omega)
end
def Ac(fl:tJ)(up:tM)(pn pe:tG)(br sv td cl:tJ):Nat→Value:=fun k=>
 if k<1 then fl else if k<6 then .bool (up (k-1))else if k<14 then lF [iV (pn 0),iV (pe 0),iV (pn 1),iV (pe 1),iV (pn 2),iV (pe 2),iV (pn 3),iV (pe 3)] (k-6)else lF [br,sv,td,cl] (k-14)
theorem II{fl:tJ}{up:tM}{pn pe:tG}{br sv td cl:tJ}(h1:fl.oneCell'=true)(h2:br.oneCell'=true)(h3:sv.oneCell'=true)(h4:td.oneCell'=true)(h5:cl.oneCell'=true):aT (Ac fl up pn pe br sv td cl) 18:=fun i hi=>by
 match i,hi with
 |0,_=>exact h1
 |1,_=>rfl
 |2,_=>rfl
 |3,_=>rfl
 |4,_=>rfl
 |5,_=>rfl
 |6,_=>rfl
 |7,_=>rfl
 |8,_=>rfl
 |9,_=>rfl
 |10,_=>rfl
 |11,_=>rfl
 |12,_=>rfl
 |13,_=>rfl
 |14,_=>exact h2
 |15,_=>exact h3
 |16,_=>exact h4
 |17,_=>exact h5
 |n+18,h=>exact absurd h (by omega)
def wm(up:tM)(k:Nat):Nat→Bool:=fun q=>if q<k then up q else false
theorem aa0{fl:tJ}{up:tM}{pn pe:tG}{br sv td cl:tJ}{k:Nat}(hk:k<5)(i:Nat):nS (Ac fl (wm up k) pn pe br sv td cl) (0+1+k*1) (.bool (up k)) i=Ac fl (wm up (k+1)) pn pe br sv td cl i:=by
 by_cases hi:i=0+1+k*1
 ·subst hi;rw[B_];unfold Ac;rw[if_neg (by omega),if_pos (by omega),show 0+1+k*1-1=k by omega];simp[wm]
 ·rw[pz _ _ _ _ hi];unfold Ac;by_cases h1:i<1
  ·rw[if_pos h1,if_pos h1]
  ·rw[if_neg h1,if_neg h1];by_cases h2:i<6
   ·rw[if_pos h2,if_pos h2];congr 1;unfold wm;by_cases h3:i-1<k
    ·rw[if_pos h3,if_pos (by omega)]
    ·rw[if_neg h3,if_neg (by omega)]
   ·rw[if_neg h2,if_neg h2]
theorem UH{w:tA}{Bs:Nat→Nat→Bt}{Y:tQ}{A:Nat→Nat→Option Addr}{K:Nat→Nat→Nat}{k y:Nat}{a:Nat→Option Addr}{c:tQ}(h:∀q,q<k→kP w (Y q) 4 (Bs q) (A q) (K q))(hk:kP w y 4 (Bs k) a c):∀q,q<k+1→kP w (aj Y k y q) 4 (Bs q) (aj A k a q) (aj K k c q):=fun q hq=>by
 unfold aj;by_cases e:q=k
 ·subst e;rw[if_pos rfl,if_pos rfl,if_pos rfl];exact hk
 ·rw[if_neg e,if_neg e,if_neg e];exact h q (by omega)
section
open Rv
theorem qN:iW Tryz.prog 111=some 1:=by kernel_rfl
theorem Ae:jk Tryz.prog 30 50 1 24=true:=by kernel_rfl
def Yq(Y C:tQ)(k:Nat):List Value:=(List.range k).map fun q=> .slice (some ⟨Y q,0,none⟩) 4 (C q)
theorem Qw(Y C:tQ)(k y c:Nat):Yq (aj Y k y) (aj C k c) (k+1)=Yq Y C k++[.slice (some ⟨y,0,none⟩) 4 c]:=by
 unfold Yq aj;rw[List.range_succ,List.map_append];congr 1
 ·exact List.map_congr_left fun q hq=>by
   have:=List.mem_range.1 hq;rw[if_neg (by omega),if_neg (by omega)]
 ·simp
theorem FP(X:Nat)(nd:tQ)(pn pe:tG)(fa:tB)(fn fc:Nat)(tk dd:tJ)(cs:Int)(sa:tB)(sn sc:Nat)(ta:tB)(tn tc:Nat)(nu:tM)(Bs:Nat→Nat→Bt)(w:tA)(U:tD)(hU:∀b,U b→b<w.heap.size)(hX:bR U w fun w=>(aZ w X 114 19 (kO nd pn pe [.slice fa fn fc,tk,dd,iV cs,.slice sa sn sc,.slice ta tn tc])∧∀q,q<5→w.cell? ⟨nd q,2,none⟩=some (.bool (nu q))))(aeg:∀k,k<5→∀(U':tD) (w1:tA),(∀b,U' b→b<w1.heap.size)→(∀b,b<w.heap.size→U' b→U b)→bZ w w1→cA 52 #[.pointer (some ⟨nd k,0,none⟩)] w1 fun x w'=>∃Y c A K,x= .returned (.slice (some ⟨Y,0,none⟩) 4 c)∧4≤c∧bR U' w' (fun w=>kP w Y 4 (Bs k) A K)∧bZ w1 w'):cA 31 #[.pointer (some ⟨X,0,none⟩)] w fun x w'=>∃(R c:Nat) (F:tC) (Y C:tQ) (A:Nat→Nat→Option Addr) (K:Nat→Nat→Nat),x= .returned (vF (Ac (iV (fn:Int)) (wm nu 5) pn pe (.slice (some ⟨R,0,none⟩) 5 c) (.slice sa sn sc) (.slice ta tn tc) (iV cs)) 18)∧5≤c∧(∀q,q<5→F q= .slice (some ⟨Y q,0,none⟩) 4 (C q)∧4≤C q)∧bR U w' (fun w=>((aZ w X 114 19 (kO nd pn pe [.slice fa fn fc,tk,dd,iV cs,.slice sa sn sc,.slice ta tn tc])∧∀q,q<5→w.cell? ⟨nd q,2,none⟩=some (.bool (nu q)))∧∀q,q<5→kP w (Y q) 4 (Bs q) (A q) (K q))∧aZ w R 50 (c*1) F)∧bZ w w':=by
 refine en (H:=[]) 52 [vv (.pointer (some ⟨X,0,none⟩))] Tryz.func31 rfl rfl (nZ hU hX) (r [1] rfl fun α=>l1 rfl (.slice fa fn fc) (fun w hS=>hS.now.1.1.at 13 (cF rfl)) (r [] rfl fun _=>lf rfl 8 (lF [iV (pn 0),iV (pe 0),iV (pn 1),iV (pe 1),iV (pn 2),iV (pe 2),iV (pn 3),iV (pe 3)]) (fun w hS j hj=>(hS.now.1.1.at (5+j) (by omega)).trans (congrArg some (Kq hj))) (r [] rfl fun _=>l1 rfl (.slice sa sn sc) (fun w hS=>hS.now.1.1.at 17 (cF rfl)) (r [] rfl fun _=>l1 rfl (.slice ta tn tc) (fun w hS=>hS.now.1.1.at 18 (cF rfl)) (r [] rfl fun _=>l1 rfl (iV cs) (fun w hS=>hS.now.1.1.at 16 (cF rfl)) (r [] rfl fun β=>lf rfl 5 (Yl nd) (fun w hS j hj=>by rw[Nat.zero_add];exact(hS.now.1.1.at j (by omega)).trans (congrArg some (Qq hj))) (r [] rfl fun _=>gn 1 (Ac (iV (fn:Int)) (wm nu 0) pn pe (.slice none 0 0) (.slice sa sn sc) (.slice ta tn tc) (iV cs)) (gn 0 (Ac (iV 0) (fun _=>false) (fun _=>0) (fun _=>0) (.slice none 0 0) (.slice none 0 0) (.slice none 0 0) (iV 0)) ?_))))))));refine jH (fun w2 hS=>hS.zJ w.heap.size 50 1) ?_;refine ic (X:=Nat×Value×(Nat→Nat)×(Nat→Nat)×(Nat→Nat→Option Addr)×(Nat→Nat→Nat)) ⟨fun x=>[(2,vp 0 0 (α 0)),(3,vp 1 0 (β 0)),(31,vf 5 (Yl nd)),(32,vi (x.1:Int))],fun x=>[⟨α 0,34,[.f 18 (Ac (iV 0) (fun _=>false) (fun _=>0) (fun _=>0) (.slice none 0 0) (.slice none 0 0) (.slice none 0 0) (iV 0))]⟩,⟨β 0,34,[.f 18 (Ac (iV (fn:Int)) (wm nu x.1) pn pe x.2.1 (.slice sa sn sc) (.slice ta tn tc) (iV cs))]⟩],fun x b=>x.2.1.ownBlock=some b∨U b,fun x w=>(aZ w X 114 19 (kO nd pn pe [.slice fa fn fc,tk,dd,iV cs,.slice sa sn sc,.slice ta tn tc])∧∀q,q<5→w.cell? ⟨nd q,2,none⟩=some (.bool (nu q)))∧∀q,q<x.1→kP w (x.2.2.1 q) 4 (Bs q) (x.2.2.2.2.1 q) (x.2.2.2.2.2 q),fun x w'=>bZ w w'∧w'.ownsRow w.heap.size 50 1 x.2.1 x.1 (Yq x.2.2.1 x.2.2.2.1 x.1),fun x=>x.1≤5∧(∀q,q<x.1→4≤x.2.2.2.1 q)∧x.2.1.oneCell'=true,fun x=>5-x.1⟩ (0,.slice none 0 0,fun _=>0,fun _=>0,fun _ _=>none,fun _ _=>0) ⟨rfl,rfl,rfl,rfl,trivial⟩ (fun w hS=>hS.said fun _ h=>⟨h,fun q hq=>absurd hq (Nat.not_lt_zero q)⟩) ⟨Nat.zero_le _,fun q hq=>absurd hq (Nat.not_lt_zero q),rfl⟩ ?_;rintro f ⟨k,v,Y,C,A,K⟩ ⟨hk,h4,hv⟩;have hk:k≤5:=hk;have h4:∀q,q<k→4≤C q:=h4;by_cases aL:k<5
 case neg=>
  obtain rfl:k=5:=by omega
  have o1:aT (Ac (iV (fn:Int)) (wm nu 5) pn pe v (.slice sa sn sc) (.slice ta tn tc) (iV cs)) 18:=II rfl hv rfl rfl rfl;refine r [0] rfl fun _=>fin fun w1 hS=> ?_;have ho:w1.ownsRow w.heap.size 50 1 v 5 (Yq Y C 5):=hS.now.2.2;rcases id ho.2 with⟨_,h⟩|⟨R,c,cur,rfl,hR,hb,h5,_,hs,ht⟩
  ·cases h
  refine⟨R,c,fun j=>cur.getD j undef,Y,C,A,K,rfl,h5,fun q hq=>⟨?_,h4 q hq⟩,fun w2 c2=> ?_,hS.now.2.1⟩
  ·have:(cur.toList.take (5*1))[q]? =some (.slice (some ⟨Y q,0,none⟩) 4 (C q)):=by
    rw[ht,Yq,List.getElem?_map,List.getElem?_range hq];rfl
   rw[List.getElem?_take,if_pos (by omega),Array.getElem?_toList]at this;show cur.getD q undef=_;rw[Array.getD_eq_getD_getElem?,this];rfl
  ·have h2:=hS.g w2 (c2.mono fun b hb=> .inr (.inr hb));refine⟨h2,(Ck hb hs).same (c2.block R (Array.getElem?_eq_some_iff.1 hb).1 fun hu=> ?_)⟩;exact absurd (hU _ hu) (Nat.not_lt.2 hR)
 refine r [1] rfl fun _=>ix (vv (.pointer (some ⟨nd k,0,none⟩))) rfl rfl (aaZ nd aL) (r [] rfl fun _=>l1 rfl (.bool (nu k)) (fun w hS=>hS.now.1.1.2 k aL) ?_);refine r [1] rfl fun _=>tf rfl 1 rfl _ (show 0+1+k*1<18 by omega) (fun i=>aa0 aL i) ?_;refine r [2] rfl fun _=>cx rfl (fun y:Nat×Nat×(Nat→Option Addr)×(Nat→Nat)=>vv (.slice (some ⟨y.1,0,none⟩) 4 y.2.1)) (fun y=>4≤y.2.1) (fun y w=>kP w y.1 4 (Bs k) y.2.2.1 y.2.2.2) (fun w1 hS=>(aeg k aL _ w1 hS.ult (fun b hb h=> ?_) hS.now.2.1).mono ?_) ?_
 ·rcases h with h|h|h
  ·have h:b∈[α 0,β 0]:=h;simp only[List.mem_cons,List.not_mem_nil,or_false]at h;rcases h with rfl|rfl
   ·exact absurd hb (Nat.not_lt.2 ((Mem.sr hS fun _ h=>h.1).jq 0 rfl))
   ·exact absurd hb (Nat.not_lt.2 ((Mem.sr hS fun _ h=>h.1).jq 1 rfl))
  ·rcases hS.now.2.2.2 with⟨e,_⟩|⟨g,c,cu,e,hg,_⟩
   ·rw[e]at h;cases h
   ·rw[e]at h;cases h;exact absurd hb (Nat.not_lt.2 hg)
  ·exact h
 ·rintro _ w7 ⟨Y8,c8,A8,K8,rfl,D_,st,b⟩;exact⟨(Y8,c8,A8,K8),rfl,b,D_,fun _=>st⟩
 rintro⟨Y8,c8,A8,K8⟩ D_;have D_:4≤c8:=D_;refine r [] rfl fun _=>qJ 2 rfl Ae (fun w hS=>hS.now.2.1.size) (fun _ _ h c=>cS h c (Nat.le_refl _)) fun g c hc=>rz [1] [((k+1:Nat):Int)] rfl fun _=>gn 1 (Ac (iV (fn:Int)) (wm nu (k+1)) pn pe (.slice (some ⟨g,0,none⟩) (k+1) c) (.slice sa sn sc) (.slice ta tn tc) (iV cs)) ?_;refine bU (k+1,_,aj Y k Y8,aj C k c8,aj A k A8,aj K k K8) ⟨rfl,rfl,rfl,rfl,trivial⟩ (fun w hS=>((hS.take 2).said fun _ h=>⟨h.1.1,UH h.1.2 h.2⟩).sr fun w h=>⟨h.1,by show w.ownsRow _ _ _ _ (k+1) (Yq (aj Y k Y8) (aj C k c8) (k+1));rw[Qw];exact h.2⟩) ⟨(show k+1≤5 by omega),fun q hq=> ?_,rfl⟩ (show 5-(k+1)<5-k by omega);show 4≤aj C k c8 q;unfold aj;split
 ·exact D_
 ·exact h4 q (by have hq:q<k+1:=hq;omega)
end
theorem qZ:jk Tryz.prog 31 61 14 112=true:=by kernel_rfl
theorem Yr{w:tA}{R T c sz n:Nat}{F:tC}{L:tK}(fb:aZ w R T (c*sz) F)(Ys:n≤c)(hc:c≤maxLen)(hL:L.length=n*sz)(hF:∀j,j<n*sz→L[j]? =some (F j)):w.ownsRow 0 T sz (.slice (some ⟨R,0,none⟩) n c) n L:=by
 refine⟨hL,.inr ⟨R,c,(bW F 0 (c*sz)).toArray,rfl,Nat.zero_le _,fb,Ys,hc,by simp[bI], ?_⟩⟩;have hle:n*sz≤c*sz:=Nat.mul_le_mul_right _ Ys;apply List.ext_getElem?;intro j;by_cases hj:j<n*sz
 ·rw[List.getElem?_take,if_pos hj,hF j hj];show(bW F 0 (c*sz))[j]? =_;rw[cg _ _ _ _ (by omega),Nat.zero_add]
 ·rw[List.getElem?_take,if_neg hj,List.getElem?_eq_none (by omega)]
theorem Qx{w:tA}{T sz n:Nat}{v:tJ}{L:tK}(h:w.ownsRow 0 T sz v n L):(v= .slice none 0 0∧n=0∧L=[])∨∃R c F,v= .slice (some ⟨R,0,none⟩) n c∧aZ w R T (c*sz) F∧n≤c∧c≤maxLen∧L.length=n*sz∧∀j,j<n*sz→L[j]? =some (F j):=by
 obtain⟨hl,⟨e1,e2⟩|⟨g,c,cur,e1,_,hb,Ys,hc,hs,ht⟩⟩:=h
 ·refine .inl ⟨e1,e2, ?_⟩;rw[e2,Nat.zero_mul]at hl;exact List.length_eq_zero_iff.1 hl
 ·refine .inr ⟨g,c,fun j=>cur.getD j undef,e1,Ck hb hs,Ys,hc,hl,fun j hj=> ?_⟩;have hle:n*sz≤c*sz:=Nat.mul_le_mul_right _ Ys;rw[←ht,List.getElem?_take,if_pos hj,Array.getElem?_toList,Array.getElem?_eq_getElem (by omega)];simp[show j<cur.size by omega]
theorem yA{w:tA}{T sz n:Nat}{v:tJ}{L:tK}(h:w.ownsRow 0 T sz v n L):∀g,v.ownBlock=some g→g<w.heap.size:=fun g hg=>by
 rcases Qx h with⟨rfl,_,_⟩|⟨R,c,F,rfl,fb,_⟩
 ·simp[Value.ownBlock]at hg
 ·simp only[Value.ownBlock,Option.some.injEq]at hg;exact hg▸fb.lt
theorem uV{a:tB}{l sz cap:Nat}(h:gD a l sz cap=none):a=none:=by
 unfold gD at h;split at h
 ·exact h
 ·simpa using h
theorem Qy{k:IntKind}{w:tA}{a:tB}{len cap n:Nat}{l:tF}(h:RowK k w a len l)(hn:n≤len)(hc:len≤cap):RowK k w (gD a n 1 cap) (len-n) (l.drop n):=by
 refine⟨by rw[List.length_drop,h.b_],fun u hu=>h.wf u (List.mem_of_mem_drop hu),fun i hi=> ?_⟩;obtain⟨b,off,e,hb,hc'⟩:=h.cell (n+i) (by omega);refine⟨b,off+n, ?_,hb, ?_⟩
 ·unfold gD;rw[if_neg (by omega),e];simp[Addr.add_mid]
 ·rw[Nat.add_assoc,hc'];simp[List.getD_eq_getElem?_getD,List.getElem?_drop]
structure Lt where
 kd:Int
 fr:Int
 dst:Int
 q:Nat
 nu:Int
 op:Ev
 an:An
 pn:Int
 pe:Int
 ep:Int
 pl:Int
 es:List Ev
 la:Bool
abbrev lp(p:Nat):Value:= .pointer (some ⟨p,0,none⟩)
def Kt(l:Lt)(a:tB)(c:Nat):List Value:=[iV l.kd,iV l.fr,iV l.dst,iV (l.q:Int),iV l.nu,iV l.op.k,iV l.op.p,iV l.op.i,iV l.op.b,iV l.op.he,iV l.op.hn,iV l.an.c,iV l.an.he,iV l.an.no,iV l.an.bd,iV l.pn,iV l.pe,iV l.ep,iV l.pl,.slice a l.es.length c,.bool l.la]
structure eu(w:tA)(P:Nat)(l:Lt)(a:tB)(c:Nat):Prop where
 b:aZ w P 170 21 (lF (Kt l a c))
 row:RowK .i64 w a (6*l.es.length) (ai l.es)
 cap:l.es.length≤c
 nil:a=none→c=0
structure Lr where
 p:Nat
 l:Lt
 a:Option Addr
 c:Nat
abbrev ni(w:tA)(r:Lr):Prop:=eu w r.p r.l r.a r.c
structure GX where
 nd:Int
 q:Int
 ep:Int
 op:Ev
 an:An
 nu:Int
def Bu(x:GX):List Value:=[iV x.nd,iV x.q,iV x.ep,iV x.op.k,iV x.op.p,iV x.op.i,iV x.op.b,iV x.op.he,iV x.op.hn,iV x.an.c,iV x.an.he,iV x.an.no,iV x.an.bd,iV x.nu]
structure Tl where
 nu:Int
 an:An
 pn:Int
 pe:Int
def MQ(x:Tl):List Value:=[iV x.nu,iV x.an.c,iV x.an.he,iV x.an.no,iV x.an.bd,iV x.pn,iV x.pe]
structure Wv where
 nd:Nat→Nat
 tk:Value
 dd:Value
 pn:Nat→Int
 pe:Nat→Int
 fl:List Lr
 cs:Int
 sv:List GX
 td:List Tl
structure WO(w:tA)(X:Nat)(v:Wv)(F:tD):Prop where
 ex:∃fl sv td,aZ w X 114 19 (kO v.nd v.pn v.pe [fl,v.tk,v.dd,iV v.cs,sv,td])∧w.ownsRow 0 171 1 fl v.fl.length (v.fl.map fun r=>lp r.p)∧w.ownsRow 0 61 14 sv v.sv.length (v.sv.flatMap Bu)∧w.ownsRow 0 63 7 td v.td.length (v.td.flatMap MQ)∧∀b,F b↔b=X∨fl.ownBlock=some b∨sv.ownBlock=some b∨td.ownBlock=some b
section
variable{w w':tA}{X:Nat}{v v':Wv}{F F' F0 T A:tD}
theorem WO.lt(h:WO w X v F):∀b,F b→b<w.heap.size:=fun b hb=>by
 obtain⟨fl,sv,td,fb,o1,o2,o3,hF⟩:=h.ex;rcases(hF b).1 hb with rfl|h|h|h
 ·exact fb.lt
 ·exact yA o1 b h
 ·exact yA o2 b h
 ·exact yA o3 b h
theorem WO.still(h:WO w X v F)(hb:∀b,F b→w'.heap[b]? =w.heap[b]?):WO w' X v F:=by
 obtain⟨fl,sv,td,fb,o1,o2,o3,hF⟩:=h.ex;refine⟨fl,sv,td, ?_,aG o1 (fun g hg _=>hb g ((hF g).2 (.inr (.inl hg)))),aG o2 (fun g hg _=>hb g ((hF g).2 (.inr (.inr (.inl hg))))),aG o3 (fun g hg _=>hb g ((hF g).2 (.inr (.inr (.inr hg))))),hF⟩;unfold aZ at fb⊢;rw[←fb];exact hb X ((hF X).2 (.inl rfl))
theorem WO.Ch{U:tD}(h:WO w X v F)(c:dk U w w')(hU:∀b,U b→¬F b):WO w' X v F:=h.still fun b hb=>c.block b (h.lt b hb) fun hu=>hU b hu hb
theorem WO.next(h:WO w X v F)(b:bZ w w'):WO w' X v F:=h.still fun x hx=>b.block x (h.lt x hx)
structure RW(X:Nat)(A F0:tD)(w0:tA)(v:Wv)(F:tD)(x:tA):Prop where
 wo:WO x X v F
 mv:Mv (fun b=>F0 b∨A b) w0 (fun b=>F b∨A b) x
theorem Mem.init{H:List bQ}{G:tI}(hW:WO w X v F)(ib:∀e∈H,aZ w e.a e.t e.n e.f)(nT:(H.map bQ.a).Nodup)(off:∀e∈H,¬(F e.a∨T e.a))(hT:∀b,T b→b<w.heap.size)(g:bR (fun b=>b∈H.map bQ.a∨F b∨T b) w G):Mem w H (fun b=>F b∨T b) G (RW X (fun b=>b∈H.map bQ.a) F w v F):=by
 have hm:=Mem.begin (M:=fun b=>F b∨T b) ib (OT nT) off (fun b hb=>hb.elim (hW.lt b) (hT b)) g;refine⟨hm.ib,hm.nT,hm.off,hm.mlt,hm.g,fun w2 c2=>⟨hW.Ch c2 fun b hb hf=> ?_,c2.mono fun b hb=> .inr hb,fun b hb=> .inl hb,fun b hb=> ?_⟩⟩
 ·obtain⟨e,he,rfl⟩:=List.mem_map.1 hb;exact off e he (.inl hf)
 ·rcases hb with hb|hb
  ·exact Nat.lt_of_lt_of_le (hW.lt b hb) c2.size
  ·exact Nat.lt_of_lt_of_le (hm.lt hb) c2.size
end
theorem RW.mv0{X:Nat}{F0 F:tD}{w0 x:tA}{v:Wv}(h:RW X (fun b=>b∈([]:List bQ).map bQ.a) F0 w0 v F x):Mv F0 w0 F x:=h.mv.less (fun b hb=>hb.elim id fun h=>by cases h) fun b hb=> .inl (.inl hb)
abbrev k_:Ev:=⟨0,0,0,0,0,0⟩
abbrev FQ:An:=⟨0,0,0,0⟩
section
variable{P:tS}{ops:tL}{Q:tH}{V:tR}{fx fl:tR}{n:Nat}{f:tC}{w:tA}{i:Nat}{t:Ord}{o:Oper}{d:Nat}
theorem aeh{s e sz ku b l:Nat}{x y:tP}{g:tC}{v:tJ}{L:tK}(ht:jk P s e sz ku=true)(own:w.ownsRow 0 e sz v l L)(hl:(l+1)*ku≤140737488355328)(vQ:l+1≤maxLen)(fb:aZ w b e sz g)(hg:aT g sz)(MR:fx.contains i=true)(ho:ops[i]? =some o)(hd:o.dst=some d)(hw:Region.wanted o (yielded ops (kn n f))=true)(hK:iU n ops=true)(hp:o.op= .call ⟨.builtin .append,#[x,y],#[s,s]⟩)(hx:ev f x=v)(hy:ev f y= .slice (some ⟨b,0,none⟩) 1 1)
  (h:∀w' R' c',w'.ownsRow 0 e sz (.slice (some ⟨R',0,none⟩) (l+1) c') (l+1) (L++bW g 0 sz)→dk (fun b=>v.ownBlock=some b) w w'→(v.ownBlock=some R'∨w.heap.size≤R')→WF P ops Q V fx fl t n (up f d (.slice (some ⟨R',0,none⟩) (l+1) c')) w'):WF P ops Q V fx fl (.ef i t) n f w:=by
 obtain⟨hu,ti,z,hi,hz,hs,zx,Jx,ij⟩:=AH ht
 obtain⟨g1,cap,w1,hr,ho1,hgr,hat,aL⟩:=run_append_lies (P:=P) w s o.type 0 e ti z sz ku hu hi hz hs zx Jx ij v l L own ⟨b,0,none⟩ 1 1 (bW g 0 sz) (by simp[bI]) (wI fb) (fun u hu=>by
  simp only[bW,List.mem_map,List.mem_range,Nat.zero_add]at hu;obtain⟨j,hj,rfl⟩:=hu;exact hg j hj) (by omega) vQ hl (Nat.zero_le _) w.heap.size rfl
 refine nV ho hd hw hK (rC hp hx hy hr) (fW MR) (h w1 g1 cap ho1 ⟨hgr.os,hgr.tape,hgr.output,hgr.size,fun x hx fw=>hgr.block x hx fun e=>fw e.symm⟩ (hat.imp id fun e=>Nat.le_of_eq e.symm))
theorem aei{s e sz ku b l:Nat}{x y:tP}{g:tC}{v:tJ}{L:tK}{H:List bQ}{M:tD}{G R:tI}(R2:tI)(ht:jk P s e sz ku=true)(hS:Mem w H M G R)(own:w.ownsRow 0 e sz v l L)(hM:∀b,v.ownBlock=some b→M b)(h2:∀w' w2,dk (fun b=>v.ownBlock=some b) w w'→dk (fun b=>b∈H.map bQ.a) w' w2→R2 w2)(hl:(l+1)*ku≤140737488355328)(vQ:l+1≤maxLen)(fb:aZ w b e sz g)(hg:aT g sz)(MR:fx.contains i=true)(ho:ops[i]? =some o)(hd:o.dst=some d)(hw:Region.wanted o (yielded ops (kn n f))=true)(hK:iU n ops=true)(hp:o.op= .call ⟨.builtin .append,#[x,y],#[s,s]⟩)(hx:ev f x=v)(hy:ev f y= .slice (some ⟨b,0,none⟩) 1 1)
  (h:∀w' R' c',Mem w' H M G (fun x=>x.ownsRow 0 e sz (.slice (some ⟨R',0,none⟩) (l+1) c') (l+1) (L++bW g 0 sz)∧R2 x)→(v.ownBlock=some R'∨w.heap.size≤R')→WF P ops Q V fx fl t n (up f d (.slice (some ⟨R',0,none⟩) (l+1) c')) w'):WF P ops Q V fx fl (.ef i t) n f w:=by
 refine aeh ht own hl vQ fb hg MR ho hd hw hK hp hx hy fun w' R' c' o1 c1 hR=>h w' R' c' ?_ hR;refine⟨fun e he=> ?_,hS.nT,hS.off,fun b hb=>Nat.lt_of_lt_of_le (hS.mlt b hb) c1.size,fun w2 c2=>hS.g w2 ((c1.mono (V:=fun b=>b∈H.map bQ.a∨M b) fun b hb=> .inr (hM b hb)).trans c2 fun _ _ h=>h),fun w2 c2=>⟨aG o1 fun k hk aL=>c2.block k aL fun hm=> ?_,h2 w' w2 c1 c2⟩⟩
 ·have fb:=hS.ib e he;unfold aZ at fb⊢;rw[←fb];exact c1.block e.a (hS.ib e he).lt fun hv=>hS.off e he (hM _ hv)
 ·simp only[Value.ownBlock,Option.some.injEq]at hk;subst hk;obtain⟨e,he,rfl⟩:=List.mem_map.1 hm;rcases hR with hR|hR
  ·exact hS.off e he (hM _ hR)
  ·exact absurd (hS.ib e he).lt (Nat.not_lt.2 hR)
end
theorem WO.make{w w':tA}{X:Nat}{v v':Wv}{F:tD}{fl sv td MS Zv Zw:tJ}(fb:aZ w X 114 19 (kO v.nd v.pn v.pe [fl,v.tk,v.dd,iV v.cs,sv,td]))(hF:∀b,F b↔b=X∨fl.ownBlock=some b∨sv.ownBlock=some b∨td.ownBlock=some b)
  (c:dk F w w') (Xu:aZ w' X 114 19 (kO v'.nd v'.pn v'.pe [MS,v'.tk,v'.dd,iV v'.cs,Zv,Zw])) (o1:w'.ownsRow 0 171 1 MS v'.fl.length (v'.fl.map fun r=>lp r.p)) (o2:w'.ownsRow 0 61 14 Zv v'.sv.length (v'.sv.flatMap Bu)) (o3:w'.ownsRow 0 63 7 Zw v'.td.length (v'.td.flatMap MQ))
  (h1:∀b,MS.ownBlock=some b→F b∨w.heap.size≤b) (h2:∀b,Zv.ownBlock=some b→F b∨w.heap.size≤b) (h3:∀b,Zw.ownBlock=some b→F b∨w.heap.size≤b):∃F',WO w' X v' F'∧Mv F w F' w'∧∀b,F' b↔b=X∨MS.ownBlock=some b∨Zv.ownBlock=some b∨Zw.ownBlock=some b:=by
 have hW:WO w' X v' (fun b=>b=X∨MS.ownBlock=some b∨Zv.ownBlock=some b∨Zw.ownBlock=some b):=⟨MS,Zv,Zw,Xu,o1,o2,o3,fun _=>Iff.rfl⟩;refine⟨_,hW,⟨c,fun b hb=> ?_,hW.lt⟩,fun _=>Iff.rfl⟩;rcases hb with rfl|hb|hb|hb
 ·exact .inl ((hF _).2 (.inl rfl))
 ·exact h1 b hb
 ·exact h2 b hb
 ·exact h3 b hb
theorem Yt{w w':tA}{X P:Nat}{v':Wv}{F F' U:tD}{l:Lt}{a:tB}{c:Nat}(hU:∀b,U b→b<w.heap.size)(qO:∀b,F b→U b)(hr:bR U w fun w=>RowK .i64 w a (6*l.es.length) (ai l.es))(hc:l.es.length≤c)(hn:a=none→c=0)(m:Mv F w F' w')(hP:w.heap.size≤P)(fb:aZ w' P 170 21 (lF (Kt l a c)))(hW:WO w' X v' F'):bR (fun b=>U b∨F' b) w' fun w=>eu w P l a c:=by
 have Yu:=hr.mv m qO;refine fun w2 c2=>⟨?_,Yu w2 c2,hc,hn⟩;have e:=c2.block P fb.lt fun h=> ?_
 ·unfold aZ at fb⊢;rw[e,fb]
 ·rcases h with h|h
  ·exact absurd (hU P h) (Nat.not_lt.2 hP)
  ·obtain⟨fl,sv,td,fx,o1,o2,o3,hF⟩:=hW.ex;rcases(hF P).1 h with rfl|h|h|h
   ·unfold aZ at fb fx;rw[fb]at fx;cases fx
   ·exact aU o1 fb (by decide) P h rfl
   ·exact aU o2 fb (by decide) P h rfl
   ·exact aU o3 fb (by decide) P h rfl
theorem bR.hm{w:tA}{φ:tI}{H:List bQ}{F F' T:tD}(h:bR (fun b=>(b∈H.map bQ.a∨F b∨T b)∨F' b) w φ):bR (fun b=>b∈H.map bQ.a∨F' b∨T b) w φ:=h.mono fun b _ hb=>by
 rcases hb with hb|hb|hb
 ·exact .inl (.inl hb)
 ·exact .inr hb
 ·exact .inl (.inr (.inr hb))
structure Mg where
 B:Bt
 a:Option Addr
 c:Nat
 g:Nat→Value
abbrev iO(m:Mg):Nat→Value:=mF m.B.r m.B.e m.B.f m.B.t m.B.o (.slice m.a m.B.es.length m.c) m.g
abbrev nj(w:tA)(m:Mg):Prop:=jG w m.B m.a m.c m.g
theorem Yv(m:Nat→Mg)(q:Nat)(x:Mg):aj (fun p=>iO (m p)) q (iO x)=fun p=>iO (aj m q x p):=by
 funext p;unfold aj;split<;>rfl
inductive Af where
 |serve (l:Lt) (an:An)
 |begin (l:Lt) (B:Bt)
 |shut (l:Lt) (B:Bt)
 |take (l:Lt) (B:Bt)
 |jz (q:Nat) (B:Bt)
structure Ad where
 c0:Nat
 c1:Nat
 c2:Nat
 c3:Nat
 p:Nat
 a:Option Addr
 c:Nat
 m:Mg
structure Nv where
 i:Nat
 ub:Bool
 da:Option Addr
 dc:Nat
 dl:List Int
 sy:Int
 m:Nat→Mg
 hn:Nat→Int
 he:Nat→Int
 wt:Value
 wl:List Lr
 af:Value
 ax:Option Af
 ad:Ad
 tu:Nat
 ct:Nat
 sk:Bool
abbrev lh(X:Nat)(u:Nv):Nat→Value:=kj [.pointer (some ⟨X,0,none⟩),iV (u.i:Int),.bool u.ub,.slice u.da u.dl.length u.dc,iV u.sy] (fU (fun p=>iO (u.m p)) u.hn u.he u.wt u.af (u.tu:Int)) [iV (u.ct:Int),.bool u.sk]
abbrev NB(w:tA)(X N:Nat)(u:Nv):Prop:=aZ w N 126 206 (lh X u)
theorem WK{hd tl:tK}{mo:tO}{hn he:tG}{wt af:tJ}{tu:Int}{q:Nat}(hq:q<4):kj hd (fU mo hn he wt af tu) tl (193+q*2)=iV (hn q):=by
 rw[show 193+q*2=5+(188+q*2) by omega,Bq (by omega),aaU hq]
theorem Ku{hd tl:tK}{mo:tO}{hn he:tG}{wt af:tJ}{tu:Int}{q:Nat}(hq:q<4):kj hd (fU mo hn he wt af tu) tl (193+q*2+1)=iV (he q):=by
 rw[show 193+q*2+1=5+(188+q*2+1) by omega,Bq (by omega),aaV hq]
theorem aa1{hd tl:tK}{mo:tO}{hn he:tG}{wt af:tJ}{tu:Int}{q j:Nat}(hq:q<4)(hj:j<2):kj hd (fU mo hn he wt af tu) tl (193+q*2+j)=lF [iV (hn q),iV (he q)] j:=by
 obtain rfl|rfl:j=0∨j=1:=by omega
 ·exact WK hq
 ·exact Ku hq
section
variable{w:tA}{X:Nat}{v:Wv}{F:tD}
theorem WO.pl(h:WO w X v F){q j:Nat}(hq:q<4)(hj:j<2):w.cell? ⟨X,5+q*2+j,none⟩=some (lF [iV (v.pn q),iV (v.pe q)] j):=by
 obtain⟨fl,sv,td,fb,_⟩:=h.ex;rw[fb.at _ (by omega),Nat.add_assoc,Kq (by omega)];obtain rfl|rfl|rfl|rfl:q=0∨q=1∨q=2∨q=3:=by omega
 all_goals(obtain rfl|rfl:j=0∨j=1:=by omega)
 all_goals rfl
theorem WO.dir(h:WO w X v F){j:Nat}(hj:j<8):w.cell? ⟨X,5+j,none⟩=some (lF [iV (v.pn 0),iV (v.pe 0),iV (v.pn 1),iV (v.pe 1),iV (v.pn 2),iV (v.pe 2),iV (v.pn 3),iV (v.pe 3)] j):=by
 obtain⟨fl,sv,td,fb,_⟩:=h.ex;rw[fb.at _ (by omega),Kq hj]
theorem WO.Y7(h:WO w X v F):w.cell? ⟨X,16,none⟩=some (iV v.cs):=by
 obtain⟨fl,sv,td,fb,_⟩:=h.ex;exact fb.at 16 (by decide)
theorem WO.nd_(h:WO w X v F){k:Nat}(hk:k<5):w.cell? ⟨X,k,none⟩=some (lp (v.nd k)):=by
 obtain⟨fl,sv,td,fb,_⟩:=h.ex;rw[fb.at _ (by omega),Qq hk]
theorem WO.tk_(h:WO w X v F):w.cell? ⟨X,14,none⟩=some v.tk:=by
 obtain⟨fl,sv,td,fb,_⟩:=h.ex;exact fb.at 14 (by decide)
theorem WO.dd_(h:WO w X v F):w.cell? ⟨X,15,none⟩=some v.dd:=by
 obtain⟨fl,sv,td,fb,_⟩:=h.ex;exact fb.at 15 (by decide)
end
theorem Mem.Qz{w w0:tA}{H:List bQ}{M A F0 F:tD}{Γ:tI}{X:Nat}{v:Wv}(h:Mem w H M Γ (RW X A F0 w0 v F)):∀b∈H.map bQ.a,(F0 b∨A b)∨w0.heap.size≤b:=by
 intro b hb;refine Classical.byContradiction fun hn=> ?_;have aL:=h.lt hb;have ur:b<w0.heap.size:=Nat.lt_of_not_le fun k=>hn (.inr k);have key:∀B,w0.heap[b]? =some B:=fun B=>by
  have c:dk (fun b=>b∈H.map bQ.a) w {w with heap:=w.heap.set b B aL}:=⟨rfl,rfl,rfl,by simp,fun z hz uz=>by
   have fw:b≠z:=fun e=>uz (e▸hb)
   simp[fw]⟩
  rw[←(h.r _ c).mv.c.block b ur (fun k=>hn (.inl k))];simp
 have:=(key (.cells #[] 0 (0,0))).symm.trans (key (.cells #[] 1 (0,0)));simp at this
namespace Rv
section
variable{n:Nat}{ops:tL}{f:Nat→AV}{fn:Func}{Rr:Ending→World→Prop}{Φ:tI}{H:List En}{ks:List Fr}{t:Ord}{i d:Nat}{md:Md}
theorem cw{Y:Type}{X:Nat}{A F0 F T:tD}{w0:tA}{v:Wv}{g:Nat}{al:List AV}(e:OS n ops f i=some (d,g,al))(a:AV)(v':Y→Wv)(φ:Y→World→Prop)(hc:∀w,Mem w (hs H) (fun b=>F b∨T b) Φ (RW X A F0 w0 v F)→cA g (al.map AV.val).toArray w fun x w'=>x= .returned a.val∧∃y F',WO w' X (v' y) F'∧Mv F w F' w'∧bR (fun b=>(b∈(hs H).map bQ.a∨F b∨T b)∨F' b) w' (φ y))(hn:∀y F',G Tryz.prog fn Rr n (fun b=>F' b∨T b) (fun w=>Φ w∧φ y w) (RW X A F0 w0 (v' y) F') (.g md ops t::ks) (ua f d a) H)(hA:∀b,A b→b∈(hs H).map bQ.a:=by(intro b h;exact List.mem_cons.2 ((List.mem_cons.1 h).imp id fun h=>by cases h)))(hm:(md.cb||md.vs.contains i)=false:=by rfl)(he:iy Tryz.prog g=true:=by kernel_rfl):G Tryz.prog fn Rr n (fun b=>F b∨T b) Φ (RW X A F0 w0 v F) (.g md ops (.ef i t)::ks) f H:=
 j_ e he fun w hS=>(hc w hS).mono fun _ w' ⟨h1,y,F',hW,m,s⟩=>by
  refine⟨a,H,_,_,_,h1,.inl hm,Mem.add ?_ s.hm,hn y F'⟩;have m1:=hS.now.2.mv.trans (m.with fun b hb=>hS.lt (hA b hb));refine hS.mv m fun w2 c2=>⟨hW.Ch c2 fun b hb hf=> ?_,m1.c.trans c2 fun b hb hv=>(hS.Qz b hv).elim id fun x=>absurd hb (Nat.not_lt.2 x),m1.f,fun b hb=>Nat.lt_of_lt_of_le (m1.l b hb) c2.size⟩;obtain⟨e,he,rfl⟩:=List.mem_map.1 hb;rcases m.f _ hf with hf|hf
  ·exact hS.off e he (.inl hf)
  ·exact absurd (hS.ib e he).lt (Nat.not_lt.2 hf)
end
end Rv
structure Nd where
 i:Nat
 up:Bool
 dl:List Int
 sy:Int
 mo:Nat→Bt
 hn:Nat→Int
 he:Nat→Int
 wt:List Lt
 af:Option Af
 tu:Nat
 ct:Nat
 sk:Bool
structure Ws where
 pn:Nat→Int
 pe:Nat→Int
 fl:List Lt
 cs:Int
 sv:List GX
 td:List Tl
abbrev Nv.pure(u:Nv):Nd:=⟨u.i,u.ub,u.dl,u.sy,fun q=>(u.m q).B,u.hn,u.he,u.wl.map Lr.l,u.ax,u.tu,u.ct,u.sk⟩
abbrev Wv.pure(v:Wv):Ws:=⟨v.pn,v.pe,v.fl.map Lr.l,v.cs,v.sv,v.td⟩
abbrev lO(nu:Int)(an:An)(pn pe:Int):Lt:=⟨1,0,0,0,nu,k_,an,pn,pe,0,0,[],false⟩
abbrev Bv(i:Nat)(B:Bt)(q:Nat):Lt:=⟨3,i,B.f,q,0,k_,FQ,0,0,B.e,B.es.length,[],false⟩
abbrev pT(fr:Int)(q:Nat)(pn pe:Int):Lt:=⟨7,0,fr,q,0,k_,FQ,pn,pe,0,0,[],false⟩
abbrev q7(nd:Int)(q:Nat)(nu:Int)(op:Ev):Lt:=⟨0,0,nd,q,nu,op,FQ,0,0,0,0,[],false⟩
abbrev Kv(i:Nat)(B:Bt)(q:Nat)(hv:Int)(es:List Ev)(la:Bool):Lt:=⟨4,i,B.t,q,0,k_,FQ,0,0,B.e+1,hv,es,la⟩
abbrev FR(i:Nat)(B:Bt)(q:Nat):Lt:=⟨2,i,B.t,q,0,k_,FQ,0,0,B.e+1,0,[],false⟩
abbrev QA(i q:Nat):Lt:=⟨6,i,0,q,0,k_,FQ,0,0,0,0,[],false⟩
abbrev IJ(i:Nat)(B:Bt)(q:Nat):Lt:=⟨5,i,0,q,0,k_,FQ,0,0,B.e,0,[],false⟩
theorem MT{B B1 B2:Bt}{v:Ev}{a1 a2:An}{c1 c2:Bool}{e1 e2:Int}(x:cO B v B1 a1 c1 e1)(y:cO B v B2 a2 c2 e2):B1=B2∧a1=a2∧c1=c2∧e1=e2:=by
 have one:∀{s1 s2 t1 t2:St} {n1 n2:List An} {b1 b2:An} {d1 d2:Bool},bm B.es s1 n1→bm B.es s2 n2→Step s1 v t1 b1 d1→Step s2 v t2 b2 d2→b1=b2∧d1=d2:=by
  intro s1 s2 t1 t2 n1 n2 b1 b2 d1 d2 h1 h2 k1 k2;obtain⟨rfl,_⟩:=h1.one h2;obtain⟨_,e1,e2⟩:=Step.Wl h1.wf k1 k2;exact⟨e1,e2⟩
 cases x<;>cases y
 all_goals try unfold Ev.Ok at*
 all_goals first
  |exact⟨rfl,rfl,rfl,rfl⟩
  |(refine⟨rfl,rfl,rfl, ?_⟩;omega)
  |contradiction
  |(exfalso;omega)
  |(rename_i h1 Lk UI sS s1 n1 ht1 t1 st1 h2 hv2 Kw hr2 s2 n2 zz t2 st2;obtain⟨rfl,_⟩:=one ht1 zz st1 st2;exact⟨rfl,rfl,rfl,rfl⟩)
  |(rename_i h1 Lk UI sS s1 n1 ht1 t1 Y3 st1 h2 hv2 Kw hr2 s2 n2 zz t2 vQ st2;obtain⟨rfl,_⟩:=one ht1 zz st1 st2;exact⟨rfl,rfl,rfl,rfl⟩)
  |(rename_i h1 Lk UI sS s1 n1 ht1 t1 st1 h2 hv2 Kw hr2 s2 n2 zz t2 a2 st2 vQ;cases(one ht1 zz st1 st2).2)
  |(rename_i h1 Lk UI sS s1 n1 ht1 t1 st1 h2 hv2 Kw hr2 s2 n2 zz t2 vQ st2;cases(one ht1 zz st1 st2).2)
  |(rename_i h1 Lk UI sS s1 n1 ht1 t1 a1 st1 Y3 h2 hv2 Kw hr2 s2 n2 zz t2 st2;cases(one ht1 zz st1 st2).2)
  |(rename_i h1 Lk UI sS s1 n1 ht1 t1 Y3 st1 h2 hv2 Kw hr2 s2 n2 zz t2 st2;cases(one ht1 zz st1 st2).2)
open Classical in
noncomputable def dh(B:Bt)(v:Ev):Bt×An×Bool×Int:=if h:∃x:Bt×An×Bool×Int,cO B v x.1 x.2.1 x.2.2.1 x.2.2.2 then h.choose else(B,FQ,false,0)
theorem oS{B B':Bt}{v:Ev}{an:An}{k:Bool}{er:Int}(h:cO B v B' an k er):dh B v=(B',an,k,er):=by
 have hx:∃x:Bt×An×Bool×Int,cO B v x.1 x.2.1 x.2.2.1 x.2.2.2:=⟨(B',an,k,er),h⟩;unfold dh;rw[dif_pos hx];obtain⟨e1,e2,e3,e4⟩:=MT hx.choose_spec h;exact Prod.ext e1 (Prod.ext e2 (Prod.ext e3 e4))
def fM(s:Ws)(l:Lt):Ws:={s with fl:=s.fl++[l]}
def oT(s:Ws)(n:Nd)(q:Nat)(e:Ev)(an:An)(nu:Int):Ws:={s with sv:=s.sv++[⟨n.i,q,(n.mo q).e,e,an,nu⟩]}
def gM(n:Nd)(s:Ws)(l:Lt)(an:An):Ws:=fM (oT s n l.q l.op an l.nu) (lO l.nu an (-1) 0)
def yB(n:Nd)(s:Ws)(q:Nat):Ws:=fM s (Bv n.i (n.mo q) q)
noncomputable def pU(n:Nd)(s:Ws)(q:Nat)(hv:Int):Ws:=if(partOf (n.mo q) hv).2.2=0 then fM s (Kv n.i (n.mo q) q hv (partOf (n.mo q) hv).1 (partOf (n.mo q) hv).2.1)else s
open Classical in
noncomputable def jc(s:Ws)(l:Lt):Ws:=if dB s.pn s.pe∧¬s.pn l.q= -1∧yb (s.pn l.q) (s.pe l.q) (l.ep-1) l.fr=0 then {s with pn:=cP s.pn l.q l.fr,pe:=cP s.pe l.q (s.pe l.q+1)}else s
def lR(s:Ws)(l:Lt):Ws:=fM s (pT l.fr l.q (s.pn l.q) (s.pe l.q))
def mO(n:Nd)(a:Af)(rs:List Rec):Option Nd:=if n.dl.length+(bP rs).length≤100000 then some {n with dl:=n.dl++bP rs,af:=some a}else none
noncomputable def fO(n:Nd)(s:Ws)(l:Lt):Nd×Ws:=
 if ¬((n.mo l.q).r=1∨(n.mo l.q).r=2)then(n,fM s (lO l.nu (dh (n.mo l.q) l.op).2.1 (n.hn l.q) (n.he l.q)))
 else if(dh (n.mo l.q) l.op).2.2.1=false then(n,gM n s l (dh (n.mo l.q) l.op).2.1)
 else match mO n (.serve l (dh (n.mo l.q) l.op).2.1) [⟨2,l.q,(n.mo l.q).e,0,l.op⟩]with
  |some n'=>(n',s)
  |none=>(n,gM n s l ⟨14,0,0,0⟩)
noncomputable def iP(n:Nd)(s:Ws)(l:Lt):Nd×Ws:=
 if ¬(aQ (n.mo l.q) l.ep l.fr).2=0 then(n,s)
 else if(aQ (n.mo l.q) l.ep l.fr).1.e=(n.mo l.q).e then(n,yB n s l.q)
 else((mO n (.begin l (aQ (n.mo l.q) l.ep l.fr).1) [⟨4,l.q,l.ep,l.fr,k_⟩]).getD n,s)
noncomputable def gJ(n:Nd)(s:Ws)(l:Lt):Nd×Ws:=
 if ¬(n.mo l.q).t=l.fr∨¬(n.mo l.q).e+1=l.ep then(n,s)
 else if ¬(aW (n.mo l.q) l.pl).2=0 then(n,s)
 else if(aW (n.mo l.q) l.pl).1.r=(n.mo l.q).r then({n with mo:=aj n.mo l.q (aW (n.mo l.q) l.pl).1},pU {n with mo:=aj n.mo l.q (aW (n.mo l.q) l.pl).1} s l.q l.pl)
 else((mO n (.shut l (aW (n.mo l.q) l.pl).1) [⟨3,l.q,(n.mo l.q).e,(n.mo l.q).t,k_⟩]).getD n,s)
def di(q:Nat)(B:Bt)(k:Nat):List Rec:=
 if B.r=1 then((B.es.drop k).dropLast.map fun e=>(⟨5,q,B.e,0,e⟩:Rec))++[⟨6,q,B.e,0,k_⟩]else(B.es.drop k).map fun e=>(⟨5,q,B.e,0,e⟩:Rec)
noncomputable def takeN(n:Nd)(s:Ws)(l:Lt):Nd×Ws:=
 if ¬(a_ (n.mo l.q) l.ep l.pl l.es l.la).2=0 then(n,s)
 else if(a_ (n.mo l.q) l.ep l.pl l.es l.la).1.es.length=(n.mo l.q).es.length then(n,s)
 else((mO n (.take l (a_ (n.mo l.q) l.ep l.pl l.es l.la).1) (di l.q (a_ (n.mo l.q) l.ep l.pl l.es l.la).1 (n.mo l.q).es.length)).getD n,s)
def dH(n:Nd)(l:Lt):Nd:=if n.he l.q<l.pe then {n with hn:=aj n.hn l.q l.pn,he:=aj n.he l.q l.pe}else n
noncomputable def iQ(n:Nd)(s:Ws)(l:Lt):Nd×Ws:=
 if(bC (n.mo l.q) l.pe).2=0 then((mO (dH n l) (.jz l.q (bC (n.mo l.q) l.pe).1) [⟨7,l.q,(bC (n.mo l.q) l.pe).1.e,0,k_⟩]).getD (dH n l),s)else(dH n l,s)
noncomputable def eP(n:Nd)(s:Ws):Af→Nd×Ws
 | .serve l an=>({n with mo:=aj n.mo l.q (dh (n.mo l.q) l.op).1},gM {n with mo:=aj n.mo l.q (dh (n.mo l.q) l.op).1} s l an)
 | .begin l B=>({n with mo:=aj n.mo l.q B},yB {n with mo:=aj n.mo l.q B} s l.q)
 | .shut l B=>({n with mo:=aj n.mo l.q B},pU {n with mo:=aj n.mo l.q B} s l.q l.pl)
 | .take l B=>({n with mo:=aj n.mo l.q B},if B.r=1 then oT s {n with mo:=aj n.mo l.q B} l.q Ev.brk FQ (-1)else yB {n with mo:=aj n.mo l.q B} s l.q)
 | .jz q B=>({n with mo:=aj n.mo q B},s)
abbrev anL(an:An):List Value:=[iV an.c,iV an.he,iV an.no,iV an.bd]
def Yw(w:tA)(N:Nat)(af:tJ)(d:Ad):Option Af→Prop
 |none=>af= .nilFunc
 |some (.serve l an)=>af= .func (.func 112) #[] #[lp d.c0,lp d.c1,lp d.c2,lp d.c3]∧aZ w d.c0 109 1 (fun _=>lp N)∧aZ w d.c1 3 1 (fun _=>iV (l.q:Int))∧aZ w d.c2 171 1 (fun _=>lp d.p)∧aZ w d.c3 59 4 (lF (anL an))∧eu w d.p l d.a d.c
 |some (.begin l B)=>af= .func (.func 116) #[] #[lp d.c0,lp d.c1,lp d.c2]∧aZ w d.c0 117 47 (iO d.m)∧aZ w d.c1 109 1 (fun _=>lp N)∧aZ w d.c2 171 1 (fun _=>lp d.p)∧eu w d.p l d.a d.c∧nj w d.m∧d.m.B=B
 |some (.shut l B)=>af= .func (.func 118) #[] #[lp d.c0,lp d.c1,lp d.c2]∧aZ w d.c0 117 47 (iO d.m)∧aZ w d.c1 109 1 (fun _=>lp N)∧aZ w d.c2 171 1 (fun _=>lp d.p)∧eu w d.p l d.a d.c∧nj w d.m∧d.m.B=B
 |some (.take l B)=>af= .func (.func 122) #[] #[lp d.c0,lp d.c1,lp d.c2]∧aZ w d.c2 117 47 (iO d.m)∧aZ w d.c0 109 1 (fun _=>lp N)∧aZ w d.c1 171 1 (fun _=>lp d.p)∧eu w d.p l d.a d.c∧nj w d.m∧d.m.B=B
 |some (.jz q B)=>af= .func (.func 125) #[] #[lp d.c0,lp d.c1,lp d.c2]∧aZ w d.c0 117 47 (iO d.m)∧aZ w d.c1 109 1 (fun _=>lp N)∧aZ w d.c2 3 1 (fun _=>iV (q:Int))∧nj w d.m∧d.m.B=B
structure Nv.In(w:tA)(N:Nat)(u:Nv):Prop where
 row:RowK .u8 w u.da u.dl.length u.dl
 mo:∀q,q<4→nj w (u.m q)
 af:Yw w N u.af u.ad u.ax
 wl:∀r∈u.wl,ni w r
def aa2:Option Af→Prop
 |none=>True
 |some (.serve l _)=>l.q<4∧∀x∈aY l.op,(Lit.int .i64 x).wf=true
 |some (.begin l B)=>l.q<4∧B.Ok
 |some (.shut l B)=>l.q<4∧B.Ok
 |some (.take l B)=>l.q<4∧B.Ok
 |some (.jz q B)=>q<4∧B.Ok
structure Nv.Ok(u:Nv):Prop where
 ok:∀q,q<4→(u.m q).B.Ok
 nil:u.da=none→u.dc=0
 cap:u.dl.length≤u.dc
 max:u.dc≤9223372036854775807
 len:u.dl.length≤100000
 s0:0≤u.sy
 s1:u.sy≤u.dl.length
 i5:u.i<5
 QB:aa2 u.ax
structure NW(w:tA)(X N:Nat)(u:Nv)(v:Wv)(F U:tD):Prop where
 nb:NB w X N u
 wo:WO w X v F
 nf:¬F N
 ub:∀b,U b→b<w.heap.size
 fu:∀b,F b→U b
 nu:U N
 ok:u.Ok
 st:bR U w fun w=>u.In w N∧∀r∈v.fl,ni w r
structure Dn(w:tA)(X N:Nat)(u:Nv)(v:Wv)(F U:tD)(r:Nd×Ws)(u':Nv)(v':Wv)(F':tD)(w':tA):Prop where
 nw:NW w' X N u' v' F' (fun b=>U b∨F' b)
 mv:Mv (fun b=>F b∨b=N) w (fun b=>F' b∨b=N) w'
 wt:u'.wt=u.wt
 wl:u'.wl=u.wl
 nd:v'.nd=v.nd
 tk:v'.tk=v.tk
 dd:v'.dd=v.dd
 n:u'.pure=r.1
 s:v'.pure=r.2
namespace Rv
abbrev nE(X N:Nat)(u:Nv):En:=⟨N,126,[.f 206 (lh X u)]⟩
abbrev npE(a j N:Nat):En:=⟨a,109,[.p j 0 N]⟩
abbrev lpE(a P:Nat):En:=⟨a,171,[.o (lp P)]⟩
abbrev mgE(a:Nat)(m:Mg):En:=⟨a,117,[.f 47 (iO m)]⟩
abbrev moE(a:Nat)(B:Bt)(b:tB)(c:Nat)(g:tC):En:=⟨a,117,pr B b c g⟩
end Rv
theorem WO.i0{w:tA}{X:Nat}{v:Wv}{F:tD}{G:tI}(hW:WO w X v F)(g:bR F w G):Mem w [] (fun b=>F b∨False) G (RW X (fun b=>b∈([]:List bQ).map bQ.a) F w v F):=
 Mem.init hW (fun e he=>by cases he) List.nodup_nil (fun e he=>by cases he) (fun b h=>h.elim) fun w2 c=>g w2 (c.mono fun b h=>h.elim (fun h=>by cases h) (fun h=>h.elim id False.elim))
theorem Mem.Yx{w w0:tA}{H:List bQ}{M P:tD}{Γ R:tI}(h:Mem w H M Γ R)(hR:∀w,R w→dk P w0 w):∀b∈H.map bQ.a,P b∨w0.heap.size≤b:=by
 intro b hb;refine Classical.byContradiction fun hn=> ?_;have aL:=h.lt hb;have ur:b<w0.heap.size:=Nat.lt_of_not_le fun k=>hn (.inr k);have key:∀B,w0.heap[b]? =some B:=fun B=>by
  have c:dk (fun b=>b∈H.map bQ.a) w {w with heap:=w.heap.set b B aL}:=⟨rfl,rfl,rfl,by simp,fun z hz uz=>by
   have fw:b≠z:=fun e=>uz (e▸hb)
   simp[fw]⟩
  rw[←(hR _ (h.r _ c)).block b ur (fun k=>hn (.inl k))];simp
 have:=(key (.cells #[] 0 (0,0))).symm.trans (key (.cells #[] 1 (0,0)));simp at this
theorem Mem.call2{w w0 w':tA}{H:List bQ}{A F0 F T F':tD}{G:tI}{X:Nat}{v v':Wv}(h:Mem w H (fun b=>F b∨T b) G (RW X A F0 w0 v F))(hW:WO w' X v' F')(m:Mv F w F' w')(hA:∀b,A b→b∈H.map bQ.a):Mem w' H (fun b=>F' b∨T b) G (RW X A F0 w0 v' F'):=by
 have m1:=h.now.2.mv.trans (m.with fun b hb=>h.lt (hA b hb));refine h.mv m fun w2 c2=>⟨hW.Ch c2 fun b hb hf=> ?_,m1.c.trans c2 fun b hb hv=>(h.Qz b hv).elim id fun x=>absurd hb (Nat.not_lt.2 x),m1.f,fun b hb=>Nat.lt_of_lt_of_le (m1.l b hb) c2.size⟩;obtain⟨e,he,rfl⟩:=List.mem_map.1 hb;rcases m.f _ hf with hf|hf
 ·exact h.off e he (.inl hf)
 ·exact absurd (h.ib e he).lt (Nat.not_lt.2 hf)
theorem aZ.open{w:tA}{X t c:Nat}{g:tC}{U:tD}{G:tI}(fb:aZ w X t c g)(hU:∀b,U b→b<w.heap.size)(hX:U X)(hG:bR U w G):Mem w [⟨X,t,c,g⟩] (fun b=>U b∧b≠X) G (fun w'=>dk (fun b=>b∈[X]) w w'):=
 Mem.begin (fun e he=>by cases List.mem_singleton.1 he;exact fb) (List.pairwise_singleton _ _) (fun e he=>by cases List.mem_singleton.1 he;exact fun h=>h.2 rfl) (fun b hb=>hU b hb.1) fun w2 c=>hG w2 (c.mono fun b h=>h.elim (fun h=>by cases List.mem_singleton.1 h;exact hX) fun h=>h.1)
theorem nm{w w':tA}{X e e' t sz sz' n n' m:Nat}{v v':tJ}{xs xs':tK}{g:tC}(o:w.ownsRow 0 e sz v n xs)(o':w.ownsRow 0 e' sz' v' n' xs')(fb:aZ w X t m g)(c:dk (fun b=>b=X∨v'.ownBlock=some b) w w')(h1:e≠t:=by decide)(h2:e'≠e:=by decide):w'.ownsRow 0 e sz v n xs:=
 aG o fun g hg hl=>c.block g hl fun h=>h.elim (fun k=>aU o fb h1 g hg k) fun h=>iX o' o h2 g h hg
namespace Rv
section
variable{n:Nat}{ops:tL}{f:Nat→AV}{fn:Func}{Rr:Ending→World→Prop}{Φ:tI}{H:List En}{ks:List Fr}{t:Ord}{i d:Nat}{md:Md}
theorem am{X s e sz ku b l tX nX:Nat}{gX:tC}{x y:AV}{v:tJ}{L:tK}{w0:tA}{en:En}{U:tD}(j:Nat)(he:nth H j=some en)(own:w0.ownsRow 0 e sz v l L)(fb:aZ w0 X tX nX gX)(hv:∀b,v.ownBlock=some b→U b)(h1:OW n ops f i=some (d,s,x,y))(ht:jk Tryz.prog s e sz ku=true)(hl:(l+1)*ku≤140737488355328)(vQ:l+1≤maxLen)(Hc:aT (cK en.l) sz)(hn:∀g c,(v.ownBlock=some g∨w0.heap.size≤g)→(∀b∈(hs H).map bQ.a,b∈[X]∨w0.heap.size≤b)→G Tryz.prog fn Rr n (fun b=>U b∧b≠X) Φ (fun x=>x.ownsRow 0 e sz (.slice (some ⟨g,0,none⟩) (l+1) c) (l+1) (L++bW (cK en.l) 0 sz)∧dk (fun b=>b=X∨v.ownBlock=some b) w0 x) (.g md ops t::ks) (ua f d (vv (.slice (some ⟨g,0,none⟩) (l+1) c))) H)(fw:e≠tX:=by decide)(hx:x.val=v:=by rfl)(hy:y.val= .slice (some ⟨b,0,none⟩) 1 1:=by rfl)(het:en.t=e:=by rfl)(ij:fX en.l=sz:=by rfl)(ha:en.a=b:=by rfl)(OP:md.vs.contains i=false:=by rfl):G Tryz.prog fn Rr n (fun b=>U b∧b≠X) Φ (fun w'=>dk (fun b=>b∈[X]) w0 w') (.g md ops (.ef i t)::ks) f H:=by
 intro w hS hK;obtain⟨hK1,gW⟩:=bp.1 hK;show WF Tryz.prog ops (kq Tryz.prog fn Rr ks) md.va (nY md ops) (uq md ops) (.ef i t) n (cn f) w;obtain⟨o,p,r,ho,hd,hw,hp,rfl,rfl⟩:=xl h1
 have Em:(nY md ops).contains i=true:=kv ho (by
  unfold mQ;rw[OP,hp]
  cases md.cb<;>rfl)
 have Tc:=rF hS j he;rw[ha,het,ij]at Tc;have kx:=aU own fb fw;have z:=hS.now.2.size;refine aei (fun x=>dk (fun b=>b=X∨v.ownBlock=some b) w0 x) ht hS (aG own fun g hg hl=>hS.now.2.block g hl fun hm=>kx g hg (List.mem_singleton.1 hm)) (fun b hb=>⟨hv b hb,kx b hb⟩) (fun w1 w2 c1 c2=> ?_) hl vQ Tc Hc Em ho hd (eZ hw) (dI hK1).1 hp ((bB f p).symm.trans hx) ((bB f r).symm.trans hy) fun w' R' c' zH hR=> ?_
 ·refine((hS.now.2.mono (V:=fun b=>b=X∨v.ownBlock=some b) fun b hb=> .inl (List.mem_singleton.1 hb)).trans c1 fun b _ hb=> .inr hb).trans c2 fun b hb hm=> ?_;exact(hS.Yx (fun _ h=>h) b hm).elim (fun h=> .inl (List.mem_singleton.1 h)) fun h=>absurd hb (Nat.not_lt.2 h)
 ·have:=hn R' c' (hR.imp id fun h=>Nat.le_trans z h) (hS.Yx fun _ h=>h) w' zH (bp.2 ⟨hK1,gW⟩);rw[jm]at this;exact this
theorem QC{s:Nat}{x y:AV}(h:SH n ops f i=some (s,x,y)):∃o p r,ops[i]? =some o∧o.dst=none∧rE n ops f o=some true∧o.op= .store s p r∧x=ea f p∧y=ea f r:=by
 unfold SH at h;split at h
 ·rename_i o ho;split at h
  ·rename_i s' p r hd hw hp;simp only[Option.some.injEq,Prod.mk.injEq]at h;obtain⟨rfl,rfl,rfl⟩:=h;exact⟨o,p,r,ho,hd,hw,hp,rfl,rfl⟩
  ·cases h
 ·cases h
theorem wc{X s:Nat}{A F0 F T:tD}{w0:tA}{v:Wv}{x y:AV}(c:Int)(h1:SH n ops f i=some (s,x,y))(hn:G Tryz.prog fn Rr n (fun b=>F b∨T b) Φ (RW X A F0 w0 {v with cs:=c} F) (.g md ops t::ks) f H)(hA:∀b,A b→b∈(hs H).map bQ.a)(hx:x.val= .pointer (some ⟨X,16,none⟩):=by rfl)(hy:y.val=iV c:=by rfl)(GP:o_ Tryz.prog s=true:=by kernel_rfl)(OP:md.vs.contains i=false:=by rfl):G Tryz.prog fn Rr n (fun b=>F b∨T b) Φ (RW X A F0 w0 v F) (.g md ops (.ef i t)::ks) f H:=by
 intro w hS hK;obtain⟨hK1,gW⟩:=bp.1 hK;show WF Tryz.prog ops (kq Tryz.prog fn Rr ks) md.va (nY md ops) (uq md ops) (.ef i t) n (cn f) w;obtain⟨o,p,r,ho,hd,hw,hp,rfl,rfl⟩:=QC h1
 have Em:(nY md ops).contains i=true:=kv ho (by
  unfold mQ;rw[OP,hp]
  cases md.cb<;>rfl)
 obtain⟨MS,sv,td,fb,o1,o2,o3,hF⟩:=hS.now.2.wo.ex;have tn:az X w (w.setCell ⟨X,16,none⟩ (iV c)):=az.set X 16 w _;have hb:∀g,g≠X→(w.setCell ⟨X,16,none⟩ (iV c)).heap[g]? =w.heap[g]? :=fun g hg=>tn.block g hg;refine qh (w1:=w.setCell ⟨X,16,none⟩ (iV c)) ho hd (eZ hw) (dI hK1).1 ?_ (fW Em) (hn _ (hS.call2 (F':=F) ⟨MS,sv,td,(fb.set 16 _ (by decide)).congr fun i _=>Yj (k:=3) (cF rfl) i,aG o1 fun g hg _=>hb g (aU o1 fb (by decide) g hg),aG o2 fun g hg _=>hb g (aU o2 fb (by decide) g hg),aG o3 fun g hg _=>hb g (aU o3 fb (by decide) g hg),hF⟩ ⟨⟨tn.os,tn.tape,tn.output,Nat.le_of_eq tn.size.symm,fun b _ hn=>hb b fun e=>hn ((hF b).2 (.inl e))⟩,fun _ h=> .inl h,fun b hb=>by rw[tn.size];exact hS.now.2.wo.lt b hb⟩ hA) (bp.2 ⟨hK1,gW⟩));simp only[execOp,hp,(bB f p).symm.trans hx,(bB f r).symm.trans hy,Sem.run_bind,rA (v:=iV c) GP rfl rfl (fb.there 16 1 (by decide)),Result.andThen_ok,Sem.run_pure]
theorem wp{X s:Nat}{A F0 F T:tD}{w0:tA}{v:Wv}{x y:AV}(pn pe:tG)(h1:SH n ops f i=some (s,x,y))(hn:G Tryz.prog fn Rr n (fun b=>F b∨T b) Φ (RW X A F0 w0 {v with pn:=pn,pe:=pe} F) (.g md ops t::ks) f H)(hA:∀b,A b→b∈(hs H).map bQ.a)(hx:x.val= .pointer (some ⟨X,5,none⟩):=by rfl)(hy:y.val=vF (cK (wQ pn pe)) 8:=by rfl)(GP:vo Tryz.prog s 8=true:=by kernel_rfl)(OP:md.vs.contains i=false:=by rfl):G Tryz.prog fn Rr n (fun b=>F b∨T b) Φ (RW X A F0 w0 v F) (.g md ops (.ef i t)::ks) f H:=by
 intro w hS hK;obtain⟨hK1,gW⟩:=bp.1 hK;show WF Tryz.prog ops (kq Tryz.prog fn Rr ks) md.va (nY md ops) (uq md ops) (.ef i t) n (cn f) w;obtain⟨o,p,r,ho,hd,hw,hp,rfl,rfl⟩:=QC h1
 have Em:(nY md ops).contains i=true:=kv ho (by
  unfold mQ;rw[OP,hp]
  cases md.cb<;>rfl)
 obtain⟨dd,hu,hr,hi⟩:=ru GP;obtain⟨MS,sv,td,fb,o1,o2,o3,hF⟩:=hS.now.2.wo.ex;obtain⟨g,hg⟩:∃g,cK (wQ pn pe)=g:=⟨_,rfl⟩;have GN:aT g 8:=hg▸PL rfl;have tn:az X w (w.setCells X 5 (bW g 0 8)):=az.su X _ 5 w;have hb:∀k,k≠X→(w.setCells X 5 (bW g 0 8)).heap[k]? =w.heap[k]? :=fun k hk=>tn.block k hk;refine qh (w1:=w.setCells X 5 (bW g 0 8)) ho hd (eZ hw) (dI hK1).1 ?_ (fW Em) (hn _ (hS.call2 (F':=F) ⟨MS,sv,td,(fb.put 5 8 g (by decide)).congr fun i _=>by rw[←hg];exact Yi i,aG o1 fun g hg _=>hb g (aU o1 fb (by decide) g hg),aG o2 fun g hg _=>hb g (aU o2 fb (by decide) g hg),aG o3 fun g hg _=>hb g (aU o3 fb (by decide) g hg),hF⟩ ⟨⟨tn.os,tn.tape,tn.output,Nat.le_of_eq tn.size.symm,fun b _ hn=>hb b fun e=>hn ((hF b).2 (.inl e))⟩,fun _ h=> .inl h,fun b hb=>by rw[tn.size];exact hS.now.2.wo.lt b hb⟩ hA) (bp.2 ⟨hK1,gW⟩));have:=run_storeAt_mid (P:=Tryz.prog) w X 5 s (bW g 0 8).toArray (by simpa[bI]using fb.there 5 8 (by decide)) (by simpa[bI]using hi) GN.all;simp only[execOp,hp,(bB f p).symm.trans hx,(bB f r).symm.trans hy,hg,Sem.run_bind,vF,this,Result.andThen_ok,Sem.run_pure]
theorem cs{Y:Type}{w:tA}{X:Nat}{F F1 U:tD}{v:Wv}{g:Nat}{al:List AV}(e:OS n ops f i=some (d,g,al))(v':Y→Wv)(φ:Y→World→Prop)(hc:∀w1,Mem w1 (hs H) (fun b=>F1 b∨False) Φ (RW X (fun b=>b∈([]:List bQ).map bQ.a) F w v F1)→cA g (al.map AV.val).toArray w1 fun x w'=>x= .returned (.tuple #[])∧∃y F',WO w' X (v' y) F'∧Mv F1 w1 F' w'∧bR (fun b=>U b∨F' b) w' (φ y))(hn:∀y F',G Tryz.prog fn Rr n (fun _=>False) (fun _=>True) (fun w'=>WO w' X (v' y) F'∧Mv F w F' w'∧bR (fun b=>U b∨F' b) w' (φ y)) (.g md ops t::ks) (ua f d (vt [])) [])(hm:(md.cb||md.vs.contains i)=false:=by rfl)(he:iy Tryz.prog g=true:=by kernel_rfl):G Tryz.prog fn Rr n (fun b=>F1 b∨False) Φ (RW X (fun b=>b∈([]:List bQ).map bQ.a) F w v F1) (.g md ops (.ef i t)::ks) f H:=
 ct (Y:=Y×(Nat→Prop)) e (vt []) (fun y w'=>WO w' X (v' y.1) y.2∧Mv F w y.2 w'∧bR (fun b=>U b∨y.2 b) w' (φ y.1)) (fun w1 hS=>(hc w1 hS).mono fun _ w' ⟨h1,y,F',hW,m,s⟩=>⟨h1,(y,F'),hW,hS.now.2.mv0.trans m,s⟩) (fun y w' w2 ⟨h1,h2,h3⟩ b=>⟨h1.next b,h2.next b,h3.next b⟩) (fun y=>hn y.1 y.2) hm he
end
end Rv
namespace Rv
section
variable{n:Nat}{ops:tL}{f:Nat→AV}{fn:Func}{Rr:Ending→World→Prop}{M:tD}{Φ R:tI}{H:List En}{ks:List Fr}{t:Ord}{i d:Nat}{md:Md}
theorem cv{X:Nat}{A F0 F T:tD}{w0:tA}{v:Wv}{g:Nat}{al:List AV}(e:OS n ops f i=some (d,g,al))(a:AV)(v':Wv)(hc:∀w,Mem w (hs H) (fun b=>F b∨T b) Φ (RW X A F0 w0 v F)→cA g (al.map AV.val).toArray w fun x w'=>x= .returned a.val∧∃F',WO w' X v' F'∧Mv F w F' w')(hn:∀F',G Tryz.prog fn Rr n (fun b=>F' b∨T b) Φ (RW X A F0 w0 v' F') (.g md ops t::ks) (ua f d a) H)(hA:∀b,A b→b∈(hs H).map bQ.a:=by(intro b h;exact List.mem_cons.2 ((List.mem_cons.1 h).imp id fun h=>by cases h)))(hm:(md.cb||md.vs.contains i)=false:=by rfl)(he:iy Tryz.prog g=true:=by kernel_rfl):G Tryz.prog fn Rr n (fun b=>F b∨T b) Φ (RW X A F0 w0 v F) (.g md ops (.ef i t)::ks) f H:=
 j_ e he fun w hS=>(hc w hS).mono fun _ w' ⟨h1,F',hW,m⟩=>⟨a,H,_,_,_,h1,.inl hm,hS.call2 hW m hA,hn F'⟩
end
end Rv
section
open Rv
theorem gj:jk Tryz.prog 111 171 1 8=true:=by kernel_rfl
theorem FT:jk Tryz.prog 32 63 7 56=true:=by kernel_rfl
theorem qx(X:Nat)(v:Wv)(F:tD)(U:tD)(w:tA)(l:Lt)(a:tB)(c:Nat)(g:tC)(hg:g=lF (Kt l a c))(hW:WO w X v F)(hU:∀b,U b→b<w.heap.size)(qO:∀b,F b→U b)(hr:bR U w fun w=>RowK .i64 w a (6*l.es.length) (ai l.es))(hc:l.es.length≤c)(hn:a=none→c=0)(hlen:v.fl.length≤1000000000000):cA 81 #[lp X,vF g 21] w fun x w'=>x= .returned (.tuple #[])∧∃P F',WO w' X {v with fl:=v.fl++[⟨P,l,a,c⟩]} F'∧Mv F w F' w'∧bR (fun b=>U b∨F' b) w' fun w=>eu w P l a c:=by
 obtain⟨fl,sv,td,fb,o1,o2,o3,hF⟩:=hW.ex;refine en (H:=[⟨X,114,[.f 19 (kO v.nd v.pn v.pe [fl,v.tk,v.dd,iV v.cs,sv,td])]⟩]) 13 [vp 0 0 X,vf 21 g] Tryz.func81 rfl rfl (fb.open hU (qO X ((hF X).2 (.inl rfl))) hr) (r [] rfl fun α=> ?_);refine am 2 rfl o1 fb (fun b h=>qO b ((hF b).2 (.inr (.inl h)))) rfl gj (by omega) (by unfold maxLen;omega) (fun i hi=>by obtain rfl:i=0:=Nat.lt_one_iff.1 hi;rfl) fun R2 c2 hR hw=>r [] rfl fun _=>gn 0 (kO v.nd v.pn v.pe [.slice (some ⟨R2,0,none⟩) (v.fl.length+1) c2,v.tk,v.dd,iV v.cs,sv,td]) (c_ rfl fun w' hS=> ?_);have c1:=hS.now.2.2;obtain⟨F',po,mv',_⟩:=WO.make (v':={v with fl:=v.fl++[⟨α 0,l,a,c⟩]}) fb hF (c1.mono fun b hb=>(hF b).2 (hb.imp id .inl)) (hS.at 0 rfl) (by rw[List.length_append,List.map_append];exact hS.now.2.1) (nm o2 o1 fb c1) (nm o3 o1 fb c1) (fun b hb=>by cases hb;exact hR.imp (fun h=>(hF _).2 (.inr (.inl h))) id) (fun b hb=> .inl ((hF b).2 (.inr (.inr (.inl hb))))) (fun b hb=> .inl ((hF b).2 (.inr (.inr (.inr hb)))));exact⟨rfl,α 0,F',po,mv',Yt hU qO hr hc hn mv' ((hw (α 0) (.tail _ (.head _))).resolve_left fun h=>absurd (hS.nT 1 0 _ _ rfl rfl (List.mem_singleton.1 h)) (by decide)) (hg▸hS.at 1 rfl) po⟩
theorem FU{α:Type}(f:α→List Value)(l:List α)(x:α):(l++[x]).flatMap f=l.flatMap f++f x:=by simp
theorem FV(X:Nat)(v:Wv)(F:tD)(w:tA)(y:GX)(g:tC)(hg:g=lF (Bu y))(hW:WO w X v F)(hlen:v.sv.length≤1000000000000):cA 89 #[lp X,vF g 14] w fun x w'=>x= .returned (.tuple #[])∧∃F',WO w' X {v with sv:=v.sv++[y]} F'∧Mv F w F' w':=by
 have og:aT g 14:=by rw[hg];exact PL rfl
 obtain⟨fl,sv,td,fb,o1,o2,o3,hF⟩:=hW.ex;refine en (H:=[⟨X,114,[.f 19 (kO v.nd v.pn v.pe [fl,v.tk,v.dd,iV v.cs,sv,td])]⟩]) 14 [vp 0 0 X,vf 14 g] Tryz.func89 rfl rfl (fb.open (G:=fun _=>True) hW.lt ((hF X).2 (.inl rfl)) fun _ _=>trivial) (r [1] rfl fun α=> ?_);refine am 2 rfl o2 fb (fun b h=>(hF b).2 (.inr (.inr (.inl h)))) rfl qZ (by omega) (by unfold maxLen;omega) og fun R2 c2 hR _=>r [] rfl fun _=>gn 0 (kO v.nd v.pn v.pe [fl,v.tk,v.dd,iV v.cs,.slice (some ⟨R2,0,none⟩) (v.sv.length+1) c2,td]) (c_ rfl fun w' hS=> ?_);have c1:=hS.now.2.2;obtain⟨F',po,mv',_⟩:=WO.make (v':={v with sv:=v.sv++[y]}) fb hF (c1.mono fun b hb=>(hF b).2 (hb.imp id fun h=> .inr (.inl h))) (hS.at 0 rfl) (nm o1 o2 fb c1) (by rw[List.length_append,FU];exact(hg▸hS.now.2.1:_)) (nm o3 o2 fb c1) (fun b hb=> .inl ((hF b).2 (.inr (.inl hb)))) (fun b hb=>by cases hb;exact hR.imp (fun h=>(hF _).2 (.inr (.inr (.inl h)))) id) (fun b hb=> .inl ((hF b).2 (.inr (.inr (.inr hb)))));exact⟨rfl,F',po,mv'⟩
theorem toClient_wo(X:Nat)(v:Wv)(F:tD)(U:tD)(w:tA)(P:Nat)(l:Lt)(a:tB)(c:Nat)(hW:WO w X v F)(hU:∀b,U b→b<w.heap.size)(qO:∀b,F b→U b)(hl:bR U w fun w=>eu w P l a c)(hlen:v.td.length≤1000000000000):cA 73 #[lp X,lp P] w fun x w'=>x= .returned (.tuple #[])∧∃F',WO w' X {v with td:=v.td++[⟨l.nu,l.an,l.pn,l.pe⟩]} F'∧Mv F w F' w':=by
 obtain⟨fl,sv,td,fb,o1,o2,o3,hF⟩:=hW.ex;refine en (H:=[⟨X,114,[.f 19 (kO v.nd v.pn v.pe [fl,v.tk,v.dd,iV v.cs,sv,td])]⟩]) 26 [vp 0 0 X,vv (lp P)] Tryz.func73 rfl rfl (fb.open hU (qO X ((hF X).2 (.inl rfl))) hl) (r [1] rfl fun _=>l1 rfl (iV l.nu) (fun w hS=>hS.now.1.b.at 4 (cF rfl)) (r [] rfl fun _=>lf rfl 4 (lF [iV l.an.c,iV l.an.he,iV l.an.no,iV l.an.bd]) (fun w hS j hj=>(hS.now.1.b.at (11+j) (by omega)).trans (congrArg some (pI rfl hj))) (r [] rfl fun _=>lf rfl 2 (lF [iV l.pn,iV l.pe]) (fun w hS j hj=>(hS.now.1.b.at (15+j) (by omega)).trans (congrArg some (pI rfl hj))) (r [] rfl fun α=> ?_))));refine am 1 rfl o3 fb (fun b h=>qO b ((hF b).2 (.inr (.inr (.inr h))))) rfl FT (by omega) (by unfold maxLen;omega) (PL rfl) fun R2 c2 hR _=>r [] rfl fun _=>gn 0 (kO v.nd v.pn v.pe [fl,v.tk,v.dd,iV v.cs,sv,.slice (some ⟨R2,0,none⟩) (v.td.length+1) c2]) (c_ rfl fun w' hS=> ?_);have c1:=hS.now.2.2;obtain⟨F',po,mv',_⟩:=WO.make (v':={v with td:=v.td++[⟨l.nu,l.an,l.pn,l.pe⟩]}) fb hF (c1.mono fun b hb=>(hF b).2 (hb.imp id fun h=> .inr (.inr h))) (hS.at 0 rfl) (nm o1 o3 fb c1) (nm o2 o3 fb c1) (by rw[List.length_append,FU];exact hS.now.2.1) (fun b hb=> .inl ((hF b).2 (.inr (.inl hb)))) (fun b hb=> .inl ((hF b).2 (.inr (.inr (.inl hb))))) (fun b hb=>by cases hb;exact hR.imp (fun h=>(hF _).2 (.inr (.inr (.inr h)))) id);exact⟨rfl,F',po,mv'⟩
theorem FW(X:Nat)(v:Wv)(F:tD)(U:tD)(w:tA)(N:Nat)(u:Nv)(P:Nat)(l:Lt)(a:tB)(c:Nat)(an:An)(pn pe:Int)(hW:WO w X v F)(hU:∀b,U b→b<w.heap.size)(qO:∀b,F b→U b)(hN:bR F w fun w=>NB w X N u)(hl:bR U w fun w=>eu w P l a c)(hlen:v.fl.length≤1000000000000):cA 111 #[lp N,lp P,vF (lF [iV an.c,iV an.he,iV an.no,iV an.bd]) 4,vF (lF [iV pn,iV pe]) 2] w fun x w'=>x= .returned (.tuple #[])∧∃P' F',WO w' X {v with fl:=v.fl++[⟨P',(lO l.nu an pn pe),none,0⟩]} F'∧Mv F w F' w'∧bR (fun b=>U b∨F' b) w' fun w=>eu w P' (lO l.nu an pn pe) none 0:=by
 exact en (H:=[]) 20 [vv (lp N),vv (lp P),vf 4 (lF [iV an.c,iV an.he,iV an.no,iV an.bd]),vf 2 (lF [iV pn,iV pe])] Tryz.func111 rfl rfl (hW.i0 (G:=fun w=>NB w X N u∧eu w P l a c) fun w2 c=>⟨hN w2 c,hl w2 (c.mono qO)⟩) (r [1] rfl fun _=>l1 rfl (lp X) (fun w hS=>hS.now.1.1.at 0 (cF rfl)) (r [] rfl fun _=>l1 rfl (iV l.nu) (fun w hS=>hS.now.1.2.b.at 4 (cF rfl)) (r [] rfl fun _=>cs rfl _ _ (fun w1 hS=>qx X v F U w1 (lO l.nu an pn pe) none 0 (lF (Kt (lO l.nu an pn pe) none 0)) rfl hS.now.2.wo (fun b h=>Nat.lt_of_lt_of_le (hU b h) hS.now.2.mv.c.size) qO (fun _ _=>RowK.nil _ _ _) (Nat.zero_le _) (fun _=>rfl) hlen) fun P' F'=>r [] rfl fun _=>c_ rfl fun _ hS=>⟨rfl,P',F',hS.now.2⟩)))
theorem uW(X:Nat)(v:Wv)(F:tD)(w:tA)(N:Nat)(u:Nv)(q:Nat)(hq:q<4)(e:Ev)(an:An)(nu:Int)(hW:WO w X v F)(hN:bR F w fun w=>NB w X N u)(hlen:v.sv.length≤1000000000000):cA 90 #[lp N,iV (q:Int),vF (lF [iV e.k,iV e.p,iV e.i,iV e.b,iV e.he,iV e.hn]) 6,vF (lF [iV an.c,iV an.he,iV an.no,iV an.bd]) 4,iV nu] w fun x w'=>x= .returned (.tuple #[])∧∃F',WO w' X {v with sv:=v.sv++[⟨u.i,q,(u.m q).B.e,e,an,nu⟩]} F'∧Mv F w F' w':=by
 exact en (H:=[]) 33 [vv (lp N),vi q,vf 6 (lF [iV e.k,iV e.p,iV e.i,iV e.b,iV e.he,iV e.hn]),vf 4 (lF [iV an.c,iV an.he,iV an.no,iV an.bd]),vi nu] Tryz.func90 rfl rfl (hW.i0 hN) (r [1] rfl fun _=>l1 rfl (lp X) (fun w hS=>hS.now.1.at 0 (cF rfl)) (r [] rfl fun _=>l1 rfl (iV (u.i:Int)) (fun w hS=>hS.now.1.at 1 (cF rfl)) (r [1] rfl fun _=>l1 (q:=5+q*47+1) rfl (iV (u.m q).B.e) (fun w hS=>(hS.now.1.at (5+q*47+1) (by omega)).trans (congrArg some (nh hq (by decide)))) (r [] rfl fun _=>cs (Y:=Unit) (U:=fun _=>False) rfl (fun _=>{v with sv:=v.sv++[⟨u.i,q,(u.m q).B.e,e,an,nu⟩]}) (fun _ _=>True) (fun w1 hS=>(FV X v F w1 ⟨u.i,q,(u.m q).B.e,e,an,nu⟩ (lF (Bu ⟨u.i,q,(u.m q).B.e,e,an,nu⟩)) rfl hS.now.2.wo hlen).mono fun _ _ ⟨h1,F',h2,h3⟩=>⟨h1,(),F',h2,h3,fun _ _=>trivial⟩) fun _ F'=>r [] rfl fun _=>c_ rfl fun _ hS=>⟨rfl,F',hS.now.2.1,hS.now.2.2.1⟩))))
theorem uX(X:Nat)(v:Wv)(F:tD)(U:tD)(w:tA)(N:Nat)(u:Nv)(P:Nat)(l:Lt)(a:tB)(c:Nat)(an:An)(hq:l.q<4)(hW:WO w X v F)(hU:∀b,U b→b<w.heap.size)(qO:∀b,F b→U b)(hN:bR F w fun w=>NB w X N u)(hl:bR U w fun w=>eu w P l a c)(hlen:v.fl.length≤1000000000000)(ie:v.sv.length≤1000000000000):cA 113 #[lp N,lp P,vF (lF [iV an.c,iV an.he,iV an.no,iV an.bd]) 4] w fun x w'=>x= .returned (.tuple #[])∧∃P' F',WO w' X {v with sv:=v.sv++[⟨u.i,l.q,(u.m l.q).B.e,l.op,an,l.nu⟩],fl:=v.fl++[⟨P',lO l.nu an (-1) 0,none,0⟩]} F'∧Mv F w F' w'∧bR (fun b=>U b∨F' b) w' fun w=>eu w P' (lO l.nu an (-1) 0) none 0:=by
 refine en (H:=[]) 26 [vv (lp N),vv (lp P),vf 4 (lF [iV an.c,iV an.he,iV an.no,iV an.bd])] Tryz.func113 rfl rfl (hW.i0 (G:=fun w=>NB w X N u∧eu w P l a c) fun w2 c=>⟨hN w2 c,hl w2 (c.mono qO)⟩) (r [1] rfl fun _=>l1 rfl (iV (l.q:Int)) (fun w hS=>hS.now.1.2.b.at 3 (cF rfl)) (r [] rfl fun _=>lf rfl 6 (lF [iV l.op.k,iV l.op.p,iV l.op.i,iV l.op.b,iV l.op.he,iV l.op.hn]) (fun w hS j hj=>(hS.now.1.2.b.at (5+j) (by omega)).trans (congrArg some (pI rfl hj))) (r [] rfl fun _=>l1 rfl (iV l.nu) (fun w hS=>hS.now.1.2.b.at 4 (cF rfl)) (r [] rfl fun _=> ?_))));refine cw (Y:=Unit) rfl (vt []) (fun _=>{v with sv:=v.sv++[⟨u.i,l.q,(u.m l.q).B.e,l.op,an,l.nu⟩]}) (fun _ _=>True) (fun w1 hS=>(uW X v F w1 N u l.q hq l.op an l.nu hS.now.2.wo (fun w2 c2=>(hS.g w2 (c2.mono fun b h=> .inr (.inl h))).1) ie).mono fun _ _ ⟨h1,F',h2,h3⟩=>⟨h1,(),F',h2,h3,fun _ _=>trivial⟩) (fun _ F1=> ?_) (fun b h=>by cases h);exact r [] rfl fun _=>cs (U:=fun b=>U b∨F1 b) rfl _ _ (fun w1 hS=>FW X _ F1 (fun b=>U b∨F1 b) w1 N u P l a c an (-1) 0 hS.now.2.wo (fun b h=>h.elim (fun h=>Nat.lt_of_lt_of_le (hU b h) hS.now.2.mv.c.size) (hS.now.2.wo.lt b)) (fun b h=> .inr h) (fun w2 c2=>(hS.g w2 (c2.mono fun b h=> .inr (.inl h))).1.1) (hl.mv hS.now.2.mv0 qO) hlen) fun P' F'=>r [] rfl fun _=>c_ rfl fun _ hS=>⟨rfl,P',F',hS.now.2.1,hS.now.2.2.1,hS.now.2.2.2.mono fun b _ h=>h.imp .inl id⟩
theorem Dp(X:Nat)(v:Wv)(F:tD)(U:tD)(w:tA)(N:Nat)(u:Nv)(q:Nat)(hq:q<4)(kJ:aT (u.m q).g 41)(hW:WO w X v F)(hU:∀b,U b→b<w.heap.size)(qO:∀b,F b→U b)(hN:bR F w fun w=>NB w X N u)(hlen:v.fl.length≤1000000000000):cA 115 #[lp N,iV (q:Int)] w fun x w'=>x= .returned (.tuple #[])∧∃P' F',WO w' X {v with fl:=v.fl++[⟨P',Bv u.i (u.m q).B q,none,0⟩]} F'∧Mv F w F' w'∧bR (fun b=>U b∨F' b) w' fun w=>eu w P' (Bv u.i (u.m q).B q) none 0:=by
 refine en (H:=[]) 33 [vv (lp N),vi q] Tryz.func115 rfl rfl (hW.i0 hN) (r [1] rfl fun _=>lf (q:=5+q*47) rfl 47 (iO (u.m q)) (fun w hS j hj=>(hS.now.1.at (5+q*47+j) (by omega)).trans (congrArg some (nh hq hj))) (sv 11 (vg (pr (u.m q).B (u.m q).a (u.m q).c (u.m q).g)) rfl (r [] rfl fun α=>r [1] rfl fun _=>l1 rfl (lp X) (fun w hS=>hS.now.1.at 0 (cF rfl)) (r [] rfl fun _=>l1 rfl (iV (u.i:Int)) (fun w hS=>hS.now.1.at 1 (cF rfl)) (r [] rfl fun _=> ?_)))));exact cs rfl _ _ (fun w1 hS=>qx X v F U w1 (Bv u.i (u.m q).B q) none 0 (lF (Kt (Bv u.i (u.m q).B q) none 0)) rfl hS.now.2.wo (fun b h=>Nat.lt_of_lt_of_le (hU b h) hS.now.2.mv.c.size) qO (fun _ _=>RowK.nil _ _ _) (Nat.zero_le _) (fun _=>rfl) hlen) fun P' F'=>r [] rfl fun _=>c_ rfl fun _ hS=>⟨rfl,P',F',hS.now.2⟩
theorem Kx(X:Nat)(v:Wv)(F:tD)(U:tD)(w:tA)(P:Nat)(l:Lt)(a:tB)(c:Nat)(hq:l.q<4)(hW:WO w X v F)(hU:∀b,U b→b<w.heap.size)(qO:∀b,F b→U b)(hl:bR U w fun w=>eu w P l a c)(hlen:v.fl.length≤1000000000000):cA 75 #[lp X,lp P] w fun x w'=>x= .returned (.tuple #[])∧∃P' F',WO w' X {v with fl:=v.fl++[⟨P',pT l.fr l.q (v.pn l.q) (v.pe l.q),none,0⟩]} F'∧Mv F w F' w'∧bR (fun b=>U b∨F' b) w' fun w=>eu w P' (pT l.fr l.q (v.pn l.q) (v.pe l.q)) none 0:=by
 exact en (H:=[]) 25 [vv (lp X),vv (lp P)] Tryz.func75 rfl rfl (hW.i0 fun w2 c=>hl w2 (c.mono qO)) (r [1] rfl fun _=>l1 rfl (iV l.fr) (fun w hS=>hS.now.1.b.at 1 (cF rfl)) (r [] rfl fun _=>l1 rfl (iV (l.q:Int)) (fun w hS=>hS.now.1.b.at 3 (cF rfl)) (r [] rfl fun _=>l1 rfl (iV (l.q:Int)) (fun w hS=>hS.now.1.b.at 3 (cF rfl)) (r [1] rfl fun _=>lf (q:=5+l.q*2) rfl 2 (lF [iV (v.pn l.q),iV (v.pe l.q)]) (fun w hS j hj=>hS.now.2.wo.pl hq hj) (r [] rfl fun _=>cs rfl _ _ (fun w1 hS=>qx X v F U w1 (pT l.fr l.q (v.pn l.q) (v.pe l.q)) none 0 (lF (Kt (pT l.fr l.q (v.pn l.q) (v.pe l.q)) none 0)) rfl hS.now.2.wo (fun b h=>Nat.lt_of_lt_of_le (hU b h) hS.now.2.mv.c.size) qO (fun _ _=>RowK.nil _ _ _) (Nat.zero_le _) (fun _=>rfl) hlen) fun P' F'=>r [] rfl fun _=>c_ rfl fun _ hS=>⟨rfl,P',F',hS.now.2⟩)))))
open Classical in
noncomputable def np(v:Wv)(l:Lt):Wv:=if dB v.pn v.pe∧¬v.pn l.q= -1∧yb (v.pn l.q) (v.pe l.q) (l.ep-1) l.fr=0 then {v with pn:=cP v.pn l.q l.fr,pe:=cP v.pe l.q (v.pe l.q+1)}else v
theorem QD{v:Wv}{l:Lt}{pa pb:tG}(h:sT v.pn v.pe (l.q:Int) (l.ep-1) l.fr pa pb 0):np v l={v with pn:=pa,pe:=pb}:=by
 generalize he:(0:Int)=er at h;cases h with
 |off a b c h hc=>exact absurd he.symm hc
 |no a b h hc=>exact absurd he.symm hc
 |flip h k hk hq hn hc=>
  obtain rfl:l.q=k:=by omega
  exact if_pos ⟨h,hn,hc⟩
theorem QE{v:Wv}{l:Lt}{pa pb:tG}{er:Int}(h:sT v.pn v.pe (l.q:Int) (l.ep-1) l.fr pa pb er)(h0:¬er=0)(mN:l.q<4):np v l=v:=by
 refine if_neg fun hc=> ?_;cases h with
 |off a b c h hc'=>
  cases h with
  |state h=>exact h hc.1
  |range h hq=>exact hq ⟨by omega,by omega⟩
  |none h k hk hq hn=>
   obtain rfl:l.q=k:=by omega
   exact hc.2.1 hn
  |here h k hk hq hn=>exact hc' rfl
 |no a b h hc'=>
  obtain⟨_,k,hk,hq,hn,rfl,rfl⟩:=h.at;obtain rfl:l.q=k:=by omega
  exact hc' hc.2.2
 |flip h k hk hq hn hc'=>exact h0 rfl
theorem UJ(X:Nat)(v:Wv)(F:tD)(U:tD)(w:tA)(P:Nat)(l:Lt)(a:tB)(c:Nat)(hq:l.q<4)(he0: -1000000000≤l.ep)(he1:l.ep≤1000000000)(hW:WO w X v F)(hU:∀b,U b→b<w.heap.size)(qO:∀b,F b→U b)(hl:bR U w fun w=>eu w P l a c)(hlen:v.fl.length≤1000000000000):cA 74 #[lp X,lp P] w fun x w'=>x= .returned (.tuple #[])∧∃P' F',WO w' X {np v l with fl:=v.fl++[⟨P',pT l.fr l.q ((np v l).pn l.q) ((np v l).pe l.q),none,0⟩]} F'∧Mv F w F' w'∧bR (fun b=>U b∨F' b) w' fun w=>eu w P' (pT l.fr l.q ((np v l).pn l.q) ((np v l).pe l.q)) none 0:=by
 refine en (H:=[]) 36 [vv (lp X),vv (lp P)] Tryz.func74 rfl rfl (hW.i0 fun w2 c=>hl w2 (c.mono qO)) (r [] rfl fun _=> ?_);refine cut (X:=Nat×(Nat→Int)×(Nat→Int)×Int) (fun x=>[(0,vv (lp X)),(1,vv (lp P)),(4,vp 0 0 x.1),(5,vi x.2.2.2)]) (fun x=>[⟨x.1,29,wQ x.2.1 x.2.2.1⟩]) (fun _ b=>F b∨False) (fun _ w=>eu w P l a c) (fun _=>RW X (fun b=>b∈([]:List bQ).map bQ.a) F w v F) (fun x=>sT v.pn v.pe (l.q:Int) (l.ep-1) l.fr x.2.1 x.2.2.1 x.2.2.2) ?_ (rz [4,1] [l.ep-1] rfl fun _=>lf rfl 8 (cK (wQ v.pn v.pe)) (fun w hS j hj=>hS.now.2.wo.dir hj) (r [] rfl fun _=>l1 rfl (iV (l.q:Int)) (fun w hS=>hS.now.1.b.at 3 (cF rfl)) (r [] rfl fun _=>l1 rfl (iV l.ep) (fun w hS=>hS.now.1.b.at 17 (cF rfl)) (rz [1] [l.ep-1] rfl fun _=>l1 rfl (iV l.fr) (fun w hS=>hS.now.1.b.at 1 (cF rfl)) (r [] rfl fun _=> ?_)))))
 case refine_2=>
  repeat' first|refine Cq ?_ ?_|(refine cq (g:=126) rfl (fun y:(Nat→Int)×(Nat→Int)×Int=>vt [.g (wQ y.1 y.2.1),.o (iV y.2.2)]) (fun y=>sT v.pn v.pe (l.q:Int) (l.ep-1) l.fr y.1 y.2.1 y.2.2) ?_ ?_;exact fun w _=>(PX v.pn v.pe (l.q:Int) (l.ep-1) l.fr w).mono fun _ _ ⟨pa,pb,er,h0,h1,b⟩=>⟨(pa,pb,er),h0,b,h1⟩;rintro⟨pa,pb,er⟩ we)|refine rs [] rfl rfl fun _=> ?_
  all_goals exact bU (_,pa,pb,er) ⟨rfl,rfl,rfl,rfl,trivial⟩ (fun w hS=>hS) we Nat.zero_lt_one
 rintro f ⟨R6,pa,pb,er⟩ vq;have vq:sT v.pn v.pe (l.q:Int) (l.ep-1) l.fr pa pb er:=vq;have tl:∀v1 w1,Mem w1 (hs [⟨R6,29,wQ pa pb⟩]) (fun b=>F b∨False) (fun w=>eu w P l a c) (RW X (fun b=>b∈([]:List bQ).map bQ.a) F w v1 F)→v1.fl.length≤1000000000000→_:=fun v1 w1 hS h=>Kx X v1 F U w1 P l a c hq hS.now.2.wo (fun b h=>Nat.lt_of_lt_of_le (hU b h) hS.now.2.mv.c.size) qO ((hl.mv hS.now.2.mv0 qO).mono fun b _ h=> .inl h) h;by_cases h0:er=0
 ·subst h0;rw[QD vq];exact r [1] rfl fun _=>wp pa pb rfl (r [] rfl fun _=>cs rfl _ _ (fun w1 hS=>tl _ w1 hS hlen) fun P' F'=>r [] rfl fun _=>c_ rfl fun _ hS=>⟨rfl,P',F',hS.now.2⟩) (fun b h=>by cases h)
 ·rw[QE vq h0 hq];exact r [0] rfl fun _=>cs rfl _ _ (fun w1 hS=>tl _ w1 hS hlen) fun P' F'=>r [] rfl fun _=>c_ rfl fun _ hS=>⟨rfl,P',F',hS.now.2⟩
theorem UK(X:Nat)(v:Wv)(F:tD)(U:tD)(w:tA)(k nd:Int)(q:Nat)(pl kp:Int)(e:Ev)(hW:WO w X v F)(hU:∀b,U b→b<w.heap.size)(qO:∀b,F b→U b)(hlen:v.fl.length≤1000000000000)(vu:v.cs≤1000000000000)(Od:0≤v.cs):cA 45 #[lp X,vF (lF [iV k,iV nd,iV (q:Int),iV pl,iV kp,iV e.k,iV e.p,iV e.i,iV e.b,iV e.he,iV e.hn]) 11] w fun x w'=>x= .returned (.tuple #[])∧∃P' F',WO w' X {v with cs:=v.cs+1,fl:=v.fl++[⟨P',q7 nd q v.cs e,none,0⟩]} F'∧Mv F w F' w'∧bR (fun b=>U b∨F' b) w' fun w=>eu w P' (q7 nd q v.cs e) none 0:=by
 refine en (H:=[]) 24 [vv (lp X),vg [.o (iV k),.o (iV nd),.o (iV (q:Int)),.o (iV pl),.o (iV kp),.o (iV e.k),.o (iV e.p),.o (iV e.i),.o (iV e.b),.o (iV e.he),.o (iV e.hn)]] Tryz.func45 rfl rfl (Mem.init (T:=U) hW (fun e he=>by cases he) List.nodup_nil (fun e he=>by cases he) hU fun _ _=>trivial) (r [1] rfl fun _=>l1 rfl (iV v.cs) (fun w hS=>hS.now.2.wo.Y7) (r [] rfl fun _=> ?_));refine cw rfl (vt []) _ _ (fun w1 hS=>qx X v F _ w1 (q7 nd q v.cs e) none 0 (lF (Kt (q7 nd q v.cs e) none 0)) rfl hS.now.2.wo hS.ult (fun b h=> .inr (.inl h)) (fun _ _=>RowK.nil _ _ _) (Nat.zero_le _) (fun _=>rfl) hlen) (fun P' F'=> ?_) (fun b h=>by cases h);exact r [] rfl fun _=>l1 rfl (iV v.cs) (fun w hS=>hS.now.2.wo.Y7) (rz [1] [v.cs+1] rfl fun _=>wc (v.cs+1) rfl (r [] rfl fun _=>c_ rfl fun w2 hS=>⟨rfl,P',F',hS.now.2.wo,hS.now.2.mv0,fun w2 c2=>(hS.g w2 (c2.mono fun b h=>h.elim (fun h=> .inr (.inr h)) (fun h=> .inr (.inl h)))).2⟩) (fun b h=>by cases h))
end
theorem au{α:Type}(m:Nat→α)(q:Nat)(x:α):aj m q x q=x:=if_pos rfl
theorem aa3(m:Nat→Mg)(k:Nat)(x:Mg):(fun q=>(aj m k x q).B)=aj (fun q=>(m q).B) k x.B:=by
 funext q;unfold aj;split<;>rfl
theorem jA(u:Nv)(q:Nat)(x:Mg):({u with m:=aj u.m q x}:Nv).pure={u.pure with mo:=aj u.pure.mo q x.B}:=by
 show Nd.mk .. =Nd.mk ..;simp only[aa3]
theorem jY(v:Wv)(r:Lr):({v with fl:=v.fl++[r]}:Wv).pure=fM v.pure r.l:=by
 show Ws.mk .. =Ws.mk ..;simp only[List.map_append,List.map_cons,List.map_nil]
theorem yC(v:Wv)(y:GX)(r:Lr):({v with sv:=v.sv++[y],fl:=v.fl++[r]}:Wv).pure=fM {v.pure with sv:=v.sv++[y]} r.l:=by
 show Ws.mk .. =Ws.mk ..;simp only[List.map_append,List.map_cons,List.map_nil]
theorem rV{hd tl:tK}{m:Nat→Mg}{q:Nat}{x:Mg}{hn he:tG}{wt af:tJ}{tu:Int}(i:Nat):kj hd (fU (aj (fun p=>iO (m p)) q (iO x)) hn he wt af tu) tl i=kj hd (fU (fun p=>iO (aj m q x p)) hn he wt af tu) tl i:=by rw[Yv]
theorem Nv.Ok.put{u:Nv}(h:u.Ok){q:Nat}{x:Mg}(hx:x.B.Ok):{u with m:=aj u.m q x}.Ok:=⟨fun p hp=>by
 show(aj u.m q x p).B.Ok;unfold aj;split
 ·exact hx
 ·exact h.ok p hp,h.nil,h.cap,h.max,h.len,h.s0,h.s1,h.i5,h.QB⟩
theorem Nv.In.put{w:tA}{N:Nat}{u:Nv}(h:u.In w N){q:Nat}{x:Mg}(hx:nj w x):{u with m:=aj u.m q x}.In w N:=⟨h.row,fun p hp=>by
 show nj w (aj u.m q x p);unfold aj;split
 ·exact hx
 ·exact h.mo p hp,h.af,h.wl⟩
theorem fP{α:Type}{p:α→Prop}{l:List α}{x:α}(h:∀r∈l,p r)(hx:p x):∀r∈l++[x],p r:=fun r hr=>by
 rcases List.mem_append.1 hr with hr|hr
 ·exact h r hr
 ·rw[List.mem_singleton.1 hr];exact hx
section
variable{w w':tA}{X N:Nat}{u u':Nv}{v v':Wv}{F F' U:tD}{r:Nd×Ws}{H':List bQ}{G:tI}
theorem Dn.fin(hS:Mem w' (⟨N,126,206,lh X u'⟩::H') (fun b=>F' b∨(U b∧b≠N)) G (RW X (fun b=>b∈[N]) F w v' F'))(hU:∀b,U b→b<w.heap.size)(hUN:U N)(GS:∀w,G w→u'.In w N∧∀r∈v'.fl,ni w r)(ok:u'.Ok)(e1:u'.wt=u.wt)(e2:u'.wl=u.wl)(e3:v'.nd=v.nd)(e4:v'.tk=v.tk)(e5:v'.dd=v.dd)(en:u'.pure=r.1)(es:v'.pure=r.2):Dn w X N u v F U r u' v' F' w':=by
 have hr:=hS.now.2;refine⟨⟨hS.at 0 rfl,hr.wo,fun hf=>hS.off _ (List.mem_cons_self ..) (.inl hf),fun b hb=>hb.elim (fun h=>Nat.lt_of_lt_of_le (hU b h) hr.mv.c.size) (hr.wo.lt b),fun b hb=> .inr hb,.inl hUN,ok,fun w2 c2=>GS w2 (hS.g w2 (c2.mono fun b hb=> ?_))⟩,hr.mv.less (fun b hb=>hb.imp id List.mem_singleton.1) (fun b hb=> .inl (hb.imp id List.mem_singleton.2)),e1,e2,e3,e4,e5,en,es⟩;rcases hb with hb|hb
 ·by_cases e:b=N
  ·exact .inl (e▸List.mem_cons_self ..)
  ·exact .inr (.inr ⟨hb,e⟩)
 ·exact .inr (.inl hb)
theorem NW.init(h:NW w X N u v F U){G:tI}(g:bR U w G):Mem w [⟨N,126,206,lh X u⟩] (fun b=>F b∨(U b∧b≠N)) (fun w=>(u.In w N∧∀r∈v.fl,ni w r)∧G w) (RW X (fun b=>b∈[N]) F w v F):=by
 refine Mem.init (T:=fun b=>U b∧b≠N) h.wo (fun e he=>by cases List.mem_singleton.1 he;exact h.nb) (by simp) (fun e he=>by cases List.mem_singleton.1 he;exact fun hm=>hm.elim h.nf fun hm=>hm.2 rfl) (fun b hb=>h.ub b hb.1) fun w2 c2=> ?_;have c3:dk U w w2:=c2.mono fun b hb=>by
  rcases hb with hb|hb|hb
  ·rw[List.mem_singleton.1 hb];exact h.nu
  ·exact h.fu b hb
  ·exact hb.1
 exact⟨h.st w2 c3,g w2 c3⟩
end
section
variable{w w1 w':tA}{X N:Nat}{u u':Nv}{v v':Wv}{F F' U:tD}{r:Nd×Ws}
theorem NW.next(h:NW w X N u v F U)(b:bZ w w1):NW w1 X N u v F U:=⟨h.nb.next b,h.wo.next b,h.nf,fun x hx=>Nat.lt_of_lt_of_le (h.ub x hx) b.size,h.fu,h.nu,h.ok,h.st.next b⟩
theorem Dn.from(h:Dn w1 X N u v F U r u' v' F' w')(hl:∀b,F b→b<w.heap.size)(hN:N<w.heap.size)(b:bZ w w1):Dn w X N u v F U r u' v' F' w':=
 ⟨h.nw,(Mv.of (F:=fun b=>F b∨b=N) (fun x hx=>hx.elim (hl x) (fun e=>e▸hN)) b).trans h.mv,h.wt,h.wl,h.nd,h.tk,h.dd,h.n,h.s⟩
end
theorem Dn.next{w w' w2:tA}{X N:Nat}{u:Nv}{v:Wv}{F U:tD}{r:Nd×Ws}{u':Nv}{v':Wv}{F':tD}(h:Dn w X N u v F U r u' v' F' w')(b:bZ w' w2):Dn w X N u v F U r u' v' F' w2:=
 ⟨h.nw.next b,h.mv.next b,h.wt,h.wl,h.nd,h.tk,h.dd,h.n,h.s⟩
theorem NW.less{w:tA}{X N:Nat}{u:Nv}{v:Wv}{F U V:tD}(h:NW w X N u v F U)(hV:∀b,V b→U b)(hF:∀b,F b→V b)(hN:V N):NW w X N u v F V:=⟨h.nb,h.wo,h.nf,fun b hb=>h.ub b (hV b hb),hF,hN,h.ok,h.st.mono fun b _ hb=>hV b hb⟩
theorem Dn.trans{w w1 w2:tA}{X N:Nat}{u u1 u2:Nv}{v v1 v2:Wv}{F F1 F2 U:tD}{r r2:Nd×Ws}(h:Dn w X N u v F U r u1 v1 F1 w1)(k:Dn w1 X N u1 v1 F1 (fun b=>U b∨F1 b) r2 u2 v2 F2 w2):Dn w X N u v F U r2 u2 v2 F2 w2:=
 ⟨k.nw.less (fun _ hb=>hb.imp .inl id) (fun _ hb=> .inr hb) (h.nw.nu.elim .inl fun hf=>absurd hf h.nw.nf),h.mv.trans k.mv,k.wt.trans h.wt,k.wl.trans h.wl,k.nd.trans h.nd,k.tk.trans h.tk,k.dd.trans h.dd,k.n,k.s⟩
theorem Dn.to{w w':tA}{X N:Nat}{u u':Nv}{v v':Wv}{F F' U:tD}{r r':Nd×Ws}(h:Dn w X N u v F U r u' v' F' w')(e1:r.1=r'.1)(e2:r.2=r'.2):Dn w X N u v F U r' u' v' F' w':=⟨h.nw,h.mv,h.wt,h.wl,h.nd,h.tk,h.dd,h.n.trans e1,h.s.trans e2⟩
theorem yD{B B':Bt}{v:Ev}{an:An}{k:Bool}{er:Int}(h:cO B v B' an k er)(ok:B.Ok):B'.Ok:=by
 cases h with
 |state h=>exact absurd ok h
 |fault h f hf h0=>exact Bt.cR
 |brk h hv hk=>exact Bt.cR
 |shut h hv hk hr=>exact ok
 |none h hv hk hr=>exact ok
 |same h hv hk hr s bu ht s' qp st=>exact ok
 |full h hv hk hr s bu ht s' an st hl=>exact ok
 |done h hv hk hr s bu ht s' qp st hl=>
  refine⟨?_,by simp[Bt.more];omega,s',bu++[_],ht.snoc hv st⟩;have hs:=ok.cJ;unfold Bt.cC bw at hs⊢;rcases hs with h|h|h|h|h
  ·exact absurd h.1 (by omega)
  ·exact .inr (.inl h)
  ·exact .inr (.inr (.inl h))
  ·exact .inr (.inr (.inr (.inl h)))
  ·exact .inr (.inr (.inr (.inr h)))
section
open Rv
theorem MU(X N:Nat)(u:Nv)(v:Wv)(F U:tD)(w:tA)(hw:NW w X N u v F U)(m:Mg)(q:Nat)(hq:q<4)(okB:m.B.Ok)(c0 c1 c2:Nat)(hg:bR U w (fun w=>(((aZ w c0 117 47 (iO m))∧aZ w c1 109 1 (fun _=>lp N))∧aZ w c2 3 1 (fun _=>iV (q:Int)))∧nj w m)):cA 125 #[lp c0,lp c1,lp c2] w fun x w'=>x= .returned (.tuple #[])∧∃u' v' F',Dn w X N u v F U (eP u.pure v.pure (.jz q m.B)) u' v' F' w':=by
 exact en (H:=[nE X N u]) 10 [vv (lp c0),vv (lp c1),vv (lp c2)] Tryz.func125 rfl rfl (hw.init hg) (r [1] rfl fun _=>l1 rfl (lp N) (fun w hS=>hS.now.1.2.1.1.2.at 0 (cF rfl)) (sv 3 (vp 0 0 N) rfl (r [] rfl fun _=>l1 rfl (iV (q:Int)) (fun w hS=>hS.now.1.2.1.2.at 0 (cF rfl)) (r [] rfl fun _=>lf rfl 47 (iO m) (fun w hS j hj=>by rw[Nat.zero_add];exact hS.now.1.2.1.1.1.at j (by omega)) (r [1] rfl fun _=>so rfl rfl rfl 0 rfl (lh X {u with m:=aj u.m q m}) (fun i _=>(oP hq i).trans (rV (x:=m) i)) (r [] rfl fun _=>c_ rfl fun w hS=>⟨rfl,{u with m:=aj u.m q m},v,F,Dn.fin (u:=u) hS hw.ub hw.nu (fun _ h=>⟨h.1.1.put h.2.2,h.1.2⟩) (hw.ok.put okB) rfl rfl rfl rfl rfl (jA _ _ _) rfl⟩) (dY hg.now.2.one))))))
theorem MV(X N:Nat)(u:Nv)(v:Wv)(F U:tD)(w:tA)(hw:NW w X N u v F U)(m:Mg)(P:Nat)(l:Lt)(a:tB)(c:Nat)(hq:l.q<4)(okB:m.B.Ok)(c0 c1 c2:Nat)(hg:bR U w (fun w=>((((aZ w c0 117 47 (iO m))∧aZ w c1 109 1 (fun _=>lp N))∧aZ w c2 171 1 (fun _=>lp P))∧nj w m)∧eu w P l a c))(hlen:v.fl.length≤1000000000000)(ie:v.sv.length≤1000000000000):cA 116 #[lp c0,lp c1,lp c2] w fun x w'=>x= .returned (.tuple #[])∧∃u' v' F',Dn w X N u v F U (eP u.pure v.pure (.begin l m.B)) u' v' F' w':=by
 have kJ:=hg.now.1.2.one;refine en (H:=[nE X N u]) 19 [vv (lp c0),vv (lp c1),vv (lp c2)] Tryz.func116 rfl rfl (hw.init hg) (r [1] rfl fun _=>l1 rfl (lp N) (fun w hS=>hS.now.1.2.1.1.1.2.at 0 (cF rfl)) (sv 3 (vp 0 0 N) rfl (r [] rfl fun _=>l1 rfl (lp P) (fun w hS=>hS.now.1.2.1.1.2.at 0 (cF rfl)) (r [] rfl fun _=>l1 rfl (iV (l.q:Int)) (fun w hS=>hS.now.1.2.2.b.at 3 (cF rfl)) (r [] rfl fun _=>lf rfl 47 (iO m) (fun w hS j hj=>by rw[Nat.zero_add];exact hS.now.1.2.1.1.1.1.at j (by omega)) (r [1] rfl fun _=>so rfl rfl rfl 0 rfl (lh X {u with m:=aj u.m l.q m}) (fun i _=>(oP hq i).trans (rV (x:=m) i)) ?_ (dY kJ)))))));refine r [1] rfl fun _=>l1 rfl (lp N) (fun w hS=>hS.now.1.2.1.1.1.2.at 0 (cF rfl)) (r [] rfl fun _=>l1 rfl (lp P) (fun w hS=>hS.now.1.2.1.1.2.at 0 (cF rfl)) (r [] rfl fun _=>l1 rfl (iV (l.q:Int)) (fun w hS=>hS.now.1.2.2.b.at 3 (cF rfl)) (r [] rfl fun _=> ?_)));exact cw rfl (vt []) _ _ (fun w1 hS=>Dp X v F _ w1 N ({u with m:=aj u.m l.q m}) l.q hq (show aT (aj u.m l.q m l.q).g 41 by rw[au];exact kJ) hS.now.2.wo hS.ult (fun b h=> .inr (.inl h)) (fun w2 c2=>(hS.vX 0 rfl w2 (c2.mono fun b h=> .inl h)).2) hlen) fun P1 F1=>r [] rfl fun _=>c_ rfl fun w hS=>⟨rfl,{u with m:=aj u.m l.q m},_,F1,Dn.fin (u:=u) hS hw.ub hw.nu (fun _ h=>⟨h.1.1.1.put h.1.2.1.2,fP h.1.1.2 h.2⟩) (hw.ok.put okB) rfl rfl rfl rfl rfl (jA _ _ _) (by rw[jY];simp only[eP,yB,au])⟩
theorem MW(X N:Nat)(u:Nv)(v:Wv)(F U:tD)(w:tA)(hw:NW w X N u v F U)(P:Nat)(l:Lt)(a:tB)(c:Nat)(an:An)(hq:l.q<4)(UL:∀x∈aY l.op,(Lit.int .i64 x).wf=true)(c0 c1 c2 c3:Nat)(hg:bR U w (fun w=>((((aZ w c0 109 1 (fun _=>lp N))∧aZ w c1 3 1 (fun _=>iV (l.q:Int)))∧aZ w c2 171 1 (fun _=>lp P))∧aZ w c3 59 4 (lF (anL an)))∧eu w P l a c))(hlen:v.fl.length≤1000000000000)(ie:v.sv.length≤1000000000000):cA 112 #[lp c0,lp c1,lp c2,lp c3] w fun x w'=>x= .returned (.tuple #[])∧∃u' v' F',Dn w X N u v F U (eP u.pure v.pure (.serve l an)) u' v' F' w':=by
 have kJ:=(hw.st.now.1.mo l.q hq).one;refine en (H:=[nE X N u]) 31 [vv (lp c0),vv (lp c1),vv (lp c2),vv (lp c3)] Tryz.func112 rfl rfl (hw.init hg) ?_;refine r [4] rfl fun _=>l1 rfl (lp N) (fun w hS=>hS.now.1.2.1.1.1.1.at 0 (cF rfl)) (sv 5 (vp 0 0 N) rfl (r [] rfl fun _=>l1 rfl (iV (l.q:Int)) (fun w hS=>hS.now.1.2.1.1.1.2.at 0 (cF rfl)) (r [] rfl fun _=>l1 rfl (lp N) (fun w hS=>hS.now.1.2.1.1.1.1.at 0 (cF rfl)) (sv 7 (vp 0 0 N) rfl (r [] rfl fun _=>l1 rfl (iV (l.q:Int)) (fun w hS=>hS.now.1.2.1.1.1.2.at 0 (cF rfl)) ?_)))));refine r [1] rfl fun _=>lo rfl rfl 0 rfl 47 (iO (u.m l.q)) (fun i hi=>nh hq hi) (r [] rfl fun _=>l1 rfl (lp P) (fun w hS=>hS.now.1.2.1.1.2.at 0 (cF rfl)) (r [] rfl fun _=>lf rfl 6 (lF [iV l.op.k,iV l.op.p,iV l.op.i,iV l.op.b,iV l.op.he,iV l.op.hn]) (fun w hS j hj=>(hS.now.1.2.2.b.at (5+j) (by omega)).trans (congrArg some (pI rfl hj))) (r [] rfl fun _=> ?_)));refine cx rfl (fun y:Mg×An×Bool×Int=>vt [.g [.f 47 (iO y.1)],.g (Og y.2.1),.o (.bool y.2.2.1),.o (iV y.2.2.2)]) (fun y=>cO (u.m l.q).B l.op y.1.B y.2.1 y.2.2.1 y.2.2.2∧aT y.1.g 41) (fun y w=>nj w y.1) (fun w hS=>(xZ _ (u.m l.q).B (u.m l.q).a (u.m l.q).c (u.m l.q).g l.op w hS.ult (fun w2 c2=>(hS.g w2 c2).1.1.mo l.q hq) (hw.ok.ok l.q hq) UL).mono fun _ _ ⟨_,an,k,er,B8,h0,h1,⟨a8,c8,g8,hy,hm8⟩,b⟩=>⟨(⟨B8,a8,c8,g8⟩,an,k,er),by rw[h0,hy];rfl,b,⟨h1,hm8.now.one⟩,fun _=>hm8⟩) ?_;rintro⟨m8,an8,k8,er8⟩ ⟨GU,o8⟩;have e8:=oS GU;refine r [1] rfl fun _=>so rfl rfl rfl 0 rfl (lh X {u with m:=aj u.m l.q m8}) (fun i _=>(oP hq i).trans (rV (x:=m8) i)) (r [] rfl fun _=>l1 rfl (lp N) (fun w hS=>hS.now.1.1.2.1.1.1.1.at 0 (cF rfl)) (r [] rfl fun _=>l1 rfl (lp P) (fun w hS=>hS.now.1.1.2.1.1.2.at 0 (cF rfl)) (r [] rfl fun _=>lf rfl 4 (lF [iV an.c,iV an.he,iV an.no,iV an.bd]) (fun w hS j hj=>by rw[Nat.zero_add];exact hS.now.1.1.2.1.2.at j (by omega)) (r [] rfl fun _=> ?_)))) (dY o8);exact cw rfl (vt []) _ _ (fun w1 hS=>uX X v F _ w1 N ({u with m:=aj u.m l.q m8}) P l a c an hq hS.now.2.wo hS.ult (fun b h=> .inr (.inl h)) (fun w2 c2=>(hS.vX 0 rfl w2 (c2.mono fun b h=> .inl h)).2) (fun w2 c2=>(hS.g w2 c2).1.2.2) hlen ie) fun P1 F1=>r [] rfl fun _=>c_ rfl fun w hS=>⟨rfl,{u with m:=aj u.m l.q m8},_,F1,Dn.fin (u:=u) hS hw.ub hw.nu (fun _ h=>⟨h.1.1.1.1.put h.1.2,fP h.1.1.1.2 h.2⟩) (hw.ok.put (yD GU (hw.ok.ok l.q hq))) rfl rfl rfl rfl rfl (by rw[jA];simp only[eP,e8]) (by rw[yC];simp only[eP,gM,oT,e8,au])⟩
theorem MX(X N:Nat)(u:Nv)(v:Wv)(F U:tD)(w:tA)(hw:NW w X N u v F U)(m:Mg)(q:Nat)(hq:q<4)(okB:m.B.Ok)(hg:bR U w (fun w=>nj w m))(hlen:v.fl.length≤1000000000000)(ie:v.sv.length≤1000000000000):cA 123 #[lp N,iV (q:Int),vF (iO m) 47] w fun x w'=>x= .returned (.tuple #[])∧∃u' v' F',Dn w X N u v F U (({u.pure with mo:=aj u.pure.mo q m.B},if m.B.r=1 then oT v.pure {u.pure with mo:=aj u.pure.mo q m.B} q Ev.brk FQ (-1)else yB {u.pure with mo:=aj u.pure.mo q m.B} v.pure q)) u' v' F' w':=by
 have kJ:=hg.now.one;refine en (H:=[nE X N u]) 25 [vp 0 0 N,vi q,vg (pr m.B m.a m.c m.g)] Tryz.func123 rfl rfl (hw.init hg) (r [1,1] rfl fun α=>so rfl rfl rfl 0 rfl (lh X {u with m:=aj u.m q m}) (fun i _=>(oP hq i).trans (rV (x:=m) i)) ?_ (dY kJ));by_cases sS:m.B.r=1
 ·refine r [1] rfl fun _=>cw (Y:=Unit) rfl (vt []) (fun _=>{v with sv:=v.sv++[⟨u.i,q,(aj u.m q m q).B.e,Ev.brk,FQ,-1⟩]}) (fun _ _=>True) (fun w1 hS=>(uW X v F w1 N ({u with m:=aj u.m q m}) q hq Ev.brk FQ (-1) hS.now.2.wo (fun w2 c2=>(hS.vX 0 rfl w2 (c2.mono fun b h=> .inl h)).2) ie).mono fun _ _ ⟨h1,F',h2,h3⟩=>⟨h1,(),F',h2,h3,fun _ _=>trivial⟩) (fun _ F1=>r [] rfl fun _=>fin fun w hS=> ?_);exact⟨rfl,{u with m:=aj u.m q m},_,F1,Dn.fin (u:=u) (hS.take 1) hw.ub hw.nu (fun _ h=>⟨h.1.1.1.put h.1.2,h.1.1.2⟩) (hw.ok.put okB) rfl rfl rfl rfl rfl (jA _ _ _) (by rw[if_pos sS];simp only[oT,au])⟩
 ·refine r [0] rfl fun _=>cw rfl (vt []) _ _ (fun w1 hS=>Dp X v F _ w1 N ({u with m:=aj u.m q m}) q hq (show aT (aj u.m q m q).g 41 by rw[au];exact kJ) hS.now.2.wo hS.ult (fun b h=> .inr (.inl h)) (fun w2 c2=>(hS.vX 0 rfl w2 (c2.mono fun b h=> .inl h)).2) hlen) fun P1 F1=>r [] rfl fun _=>c_ rfl fun w hS=> ?_;exact⟨rfl,{u with m:=aj u.m q m},_,F1,Dn.fin (u:=u) (hS.take 1) hw.ub hw.nu (fun _ h=>⟨h.1.1.1.put h.1.2,fP h.1.1.2 h.2⟩) (hw.ok.put okB) rfl rfl rfl rfl rfl (jA _ _ _) (by rw[if_neg sS,jY];simp only[yB,au])⟩
theorem QF(X N:Nat)(u:Nv)(v:Wv)(F U:tD)(w:tA)(hw:NW w X N u v F U)(m:Mg)(P:Nat)(l:Lt)(a:tB)(c:Nat)(hq:l.q<4)(okB:m.B.Ok)(c0 c1 c2:Nat)(hg:bR U w (fun w=>((((aZ w c0 109 1 (fun _=>lp N))∧aZ w c1 171 1 (fun _=>lp P))∧aZ w c2 117 47 (iO m))∧nj w m)∧eu w P l a c))(hlen:v.fl.length≤1000000000000)(ie:v.sv.length≤1000000000000):cA 122 #[lp c0,lp c1,lp c2] w fun x w'=>x= .returned (.tuple #[])∧∃u' v' F',Dn w X N u v F U (eP u.pure v.pure (.take l m.B)) u' v' F' w':=by
 have hb:=hw.ub;refine en (H:=[]) 10 [vv (lp c0),vv (lp c1),vv (lp c2)] Tryz.func122 rfl rfl (nZ hb hg) (r [1] rfl fun _=>l1 rfl (lp N) (fun w hS=>hS.now.1.1.1.1.1.at 0 (cF rfl)) (r [] rfl fun _=>l1 rfl (lp P) (fun w hS=>hS.now.1.1.1.1.2.at 0 (cF rfl)) (r [] rfl fun _=>l1 rfl (iV (l.q:Int)) (fun w hS=>hS.now.1.2.b.at 3 (cF rfl)) (r [] rfl fun _=>lf rfl 47 (iO m) (fun w hS j hj=>by rw[Nat.zero_add];exact hS.now.1.1.1.2.at j (by omega)) (r [] rfl fun _=> ?_)))));exact ct (Y:=Nv×Wv×(Nat→Prop)) rfl (vt []) (fun y w'=>Dn w X N u v F U (eP u.pure v.pure (.take l m.B)) y.1 y.2.1 y.2.2 w') (fun w1 hS=>(MX X N u v F U w1 (hw.next hS.now.2) m l.q hq okB (fun w2 c2=>(hg.next hS.now.2 w2 c2).1.2) hlen ie).mono fun _ _ ⟨h1,u',v',F',hd⟩=>⟨h1,(u',v',F'),hd.from hw.wo.lt hw.nb.lt hS.now.2⟩) (fun _ _ _ h b=>h.next b) fun y=>r [] rfl fun _=>c_ rfl fun _ hS=>⟨rfl,y.1,y.2.1,y.2.2,hS.now.2⟩
structure Ky(w w':tA)(l:List Ev)(a:tB)(c:Nat):Prop where
 row:RowK .i64 w' a (6*l.length) (ai l)
 cap:l.length≤c
 nil:a=none→c=0
 up:∀x,a=some x→w.heap.size≤x.block
theorem MY(B:Bt)(a:tB)(c:Nat)(hv:Int)(w:tA)(hb:iL w B a c):
  cA 207 #[bN B.r B.e B.f B.t B.o a B.es.length c,iV hv] w fun x w'=>∃a' c' n' l lt er,x= .returned (.tuple #[.slice a' n' c',.bool lt,iV er])∧n'=l.length∧partOf B hv=(l,lt,er)∧Ky w w' l a' c'∧bZ w w':=by
 refine en (H:=[]) _ [vg (bS B.r B.e B.f B.t B.o a B.es.length c),vi hv] Tryz.func207 rfl rfl (EV hb) (r [] rfl fun _=>Rv.cb rfl (vi (dj B hv)) (fun w hS=>vD B a c hv w hS.now.1) ?_);unfold partOf;by_cases h0:dj B hv=0
 case neg=>exact r [1] rfl fun _=>fin fun w hS=>⟨none,0,0,[],false,_,rfl,rfl,if_pos h0,⟨RowK.nil _ _ _,Nat.le_refl _,fun _=>rfl,fun _ h=>(by cases h)⟩,hS.now.2⟩
 rw[if_neg (not_not_intro h0)];obtain⟨ok,hr,hv0,Lk⟩:=A7 h0;have hl:=ok.len;obtain⟨k,rfl⟩:∃k:Nat,hv=k:=⟨hv.toNat,by omega⟩;have hk:k≤B.es.length:=by omega
 obtain⟨m,hm⟩:∃m,m=min (k+3) B.es.length:=⟨_,rfl⟩;have we:k≤m:=by omega
 have hml:m≤B.es.length:=by omega
 have ahn:=hb.cap;have e3:(B.es.drop ((k:Int)).toNat).take 3=(B.es.drop k).take (m-k):=by
  rw[Int.toNat_natCast];by_cases h:k+3≤B.es.length
  ·rw[show m-k=3 by omega]
  ·rw[List.take_of_length_le (by rw[List.length_drop];omega),List.take_of_length_le (by rw[List.length_drop];omega)]
 have AL:((B.es.drop k).take (m-k)).length=m-k:=by rw[List.length_take,List.length_drop];omega
 have call:∀w1,bZ w w1→iL w1 B a c→cA 212 #[.slice none 0 0,.slice (gD a k 6 c) (m-k) (c-k)] w1 fun x w'=>∃y:Option Addr×Nat,x= .returned (vv (.slice y.1 (m-k) y.2)).val∧bZ w1 w'∧(wg w y∧(y.1=none→y.2=0)∧m-k≤y.2)∧∀{U:tD},(∀b,U b→b<w1.heap.size)→bR U w' fun w=>RowK .i64 w y.1 (6*(m-k)) (ai ((B.es.drop k).take (m-k))):=fun w1 h0 hb=>by
  have hrw:=Ur hb.row hb.nil k m we hml hb.cap;refine(xT none (gD a k 6 c) 0 0 (m-k) (c-k) [] (ai ((B.es.drop k).take (m-k))) w1 (RowK.nil _ _ _) hrw.1 (fun _=>rfl) hrw.2 (by omega)).mono ?_;rintro _ w' ⟨a2,c2,rfl,hr2,jo,qL,hf2,b⟩;rw[Nat.zero_add]at hr2 jo;exact⟨(a2,c2),by rw[Nat.zero_add];rfl,b,⟨fun x hx=>Nat.le_trans h0.size (hf2 x hx),qL,jo⟩,fun hU=>bT hr2 hf2 hU⟩
 have er:∀b:Bool,decide (B.r=3∧B.es.length≤(k:Int).toNat+3)=b→((B.es.drop ((k:Int)).toNat).take 3,decide (B.r=3∧B.es.length≤(k:Int).toNat+3),(0:Int))=((B.es.drop k).take (m-k),b,0):=fun b h=>by rw[e3,h]
 have cs:(¬B.r=3∧decide (B.r=3∧B.es.length≤(k:Int).toNat+3)=false)∨((B.r=3∧m=B.es.length)∧decide (B.r=3∧B.es.length≤(k:Int).toNat+3)=true)∨((B.r=3∧¬m=B.es.length)∧decide (B.r=3∧B.es.length≤(k:Int).toNat+3)=false):=by
  by_cases h3:B.r=3
  ·by_cases QG:m=B.es.length
   ·exact .inr (.inl ⟨⟨h3,QG⟩,decide_eq_true (by omega)⟩)
   ·exact .inr (.inr ⟨⟨h3,QG⟩,decide_eq_false (by omega)⟩)
  ·exact .inl ⟨h3,decide_eq_false fun h=>h3 h.1⟩
 rcases cs with⟨h3,hd⟩|⟨⟨h3,QG⟩,hd⟩|⟨⟨h3,QG⟩,hd⟩
 case' inl=>refine rz [0,1,2,4,0] [((k+3:Nat):Int),(m:Int)] rfl fun _=> ?_
 case' inr.inl=>refine rz [0,1,2,4,1] [((k+3:Nat):Int),(m:Int)] rfl fun _=> ?_
 case' inr.inr=>refine rz [0,1,2,4,1] [((k+3:Nat):Int),(m:Int)] rfl fun _=> ?_
 all_goals
  refine cx rfl (fun y:Option Addr×Nat=>vv (.slice y.1 (m-k) y.2)) (fun y=>wg w y∧(y.1=none→y.2=0)∧m-k≤y.2) (fun y w=>RowK .i64 w y.1 (6*(m-k)) (ai ((B.es.drop k).take (m-k)))) (fun w1 hS=>(call w1 hS.now.2 hS.now.1).mono fun _ _ ⟨y,k1,k2,k3,k4⟩=>⟨y,k1,k2,k3,k4⟩) fun y hy=> ?_;have f9:∀{w2:tA} {M:tD} {Φ:tI} {H:List En},Mem w2 (hs H) M (fun w=>Φ w∧RowK .i64 w y.1 (6*(m-k)) (ai ((B.es.drop k).take (m-k)))) (fun w'=>bZ w w')→Ky w w2 ((B.es.drop k).take (m-k)) y.1 y.2:=fun hS=>⟨by rw[AL];exact hS.now.1.2,by rw[AL];exact hy.2.2,hy.2.1,hy.1⟩
  first|exact r [] rfl fun _=>fin fun w hS=>⟨_,_,m-k,_,_,0,rfl,AL.symm,er _ hd,f9 hS,hS.now.2⟩|exact r [1] rfl fun _=>fin fun w hS=>⟨_,_,m-k,_,_,0,rfl,AL.symm,er _ hd,f9 hS,hS.now.2⟩|exact r [0] rfl fun _=>fin fun w hS=>⟨_,_,m-k,_,_,0,rfl,AL.symm,er _ hd,f9 hS,hS.now.2⟩
theorem QH:∀(es:List Ev) (k:Nat),ai (es.take k)=(ai es).take (6*k)
 |[],k=>by simp[ai]
 |e::es,0=>by simp[ai]
 |e::es,k+1=>by
  have:=QH es k;simp only[ai,List.take_succ_cons,List.flatMap_cons]at this⊢;rw[this,List.take_append,show(aY e).length=6 from rfl,List.take_of_length_le (show(aY e).length≤6*(k+1) by show 6≤_;omega),show 6*(k+1)-6=6*k by omega]
theorem tj{w:tA}{a:tB}{c k m:Nat}{es:List Ev}(h:RowK .i64 w a (6*es.length) (ai es))(hk:k+m≤es.length)(hc:es.length≤c):RowK .i64 w (gD a k 6 c) (6*m) (ai ((es.drop k).take m)):=by
 have e:ai ((es.drop k).take m)=((ai es).drop (6*k)).take (6*m):=by rw[QH,pQ]
 have hl:=h.b_;rw[e];refine⟨by rw[List.length_take,List.length_drop,hl];omega,fun u hu=>h.wf u (List.mem_of_mem_drop (List.mem_of_mem_take hu)),fun i hi=> ?_⟩;obtain⟨b,off,e1,hb,hc'⟩:=h.cell (6*k+i) (by omega);refine⟨b,off+k*6, ?_,hb, ?_⟩
 ·unfold gD;rw[if_neg (by omega),e1];simp[Addr.add_mid]
 ·rw[show off+k*6+i=off+(6*k+i) by omega,hc'];simp[List.getD_eq_getElem?_getD,List.getElem?_drop,hi]
theorem QI{B:Bt}{hv:Int}(h:dj B hv=0):∃k:Nat,hv=k∧k≤B.es.length:=by
 unfold dj at h;split at h
 ·cases h
 ·split at h
  ·cases h
  ·split at h
   ·cases h
   ·rename_i h3;exact⟨hv.toNat,by omega,by omega⟩
theorem MZ{B:Bt}{hv:Int}{l:List Ev}{lt:Bool}{er:Int}(h:partOf B hv=(l,lt,er)):dj B hv=er:=by
 unfold partOf at h;split at h
 ·cases h;rfl
 ·rename_i h0;cases h;exact Classical.not_not.1 h0
theorem M4(B:Bt)(a:tB)(c:Nat)(hv:Int)(w:tA)(hb:iL w B a c):cA 207 #[bN B.r B.e B.f B.t B.o a (min 1 B.es.length) c,iV hv] w fun x w'=>∃a' c' n' lt er,x= .returned (.tuple #[.slice a' n' c',.bool lt,iV er])∧dj B.short hv=er∧bZ w w':=by
 have e:min 1 B.es.length=B.short.es.length:=by simp[Bt.short]
 rw[e];refine(MY B.short a c hv w (uI hb)).mono ?_;rintro _ w' ⟨a',c',n',l,lt,er,rfl,_,hp,_,b⟩;exact⟨a',c',n',lt,er,rfl,MZ hp,b⟩
theorem UM{B:Bt}{hv er:Int}(h:dj B hv=er)(h0:¬er=0):partOf B hv=([],false,er):=by
 unfold partOf;rw[h,if_pos h0]
theorem Dq{B:Bt}{k e:Nat}{lt:Bool}(h:dj B (k:Int)=0)(he:min 3 (B.es.length-k)=e-k)(hl:decide (B.r=3∧B.es.length≤k+3)=lt):partOf B (k:Int)=((B.es.drop k).take (e-k),lt,0):=by
 unfold partOf;rw[h,if_neg (fun h=>h rfl),Int.toNat_natCast,hl,←he];congr 1;by_cases h3:3≤B.es.length-k
 ·rw[Nat.min_eq_left h3]
 ·rw[Nat.min_eq_right (by omega),List.take_of_length_le (by rw[List.length_drop];omega),List.take_of_length_le (by rw[List.length_drop];omega)]
theorem M6(U:tD)(B:Bt)(a:tB)(c:Nat)(q:tC)(hv:Int)(w:tA)(hU:∀b,U b→b<w.heap.size)(hm:bR U w fun w=>jG w B a c q)(ok:B.Ok):cA 168 #[xV B a c q,iV hv] w fun x w'=>∃a' c' n' l lt er,x= .returned (.tuple #[.slice a' n' c',.bool lt,iV er])∧n'=l.length∧partOf B hv=(l,lt,er)∧bR U w' (fun w=>RowK .i64 w a' (6*n') (ai l))∧n'≤c'∧(a'=none→c'=0)∧bZ w w':=by
 have oq:=hm.now.one;have hc:=hm.now.b.cap;refine en (H:=[]) _ [vg (pr B a c q),vi hv] Tryz.func168 rfl rfl (nZ hU hm) (r [] rfl fun _=>Rv.cb rfl (vt [.g (bS B.r B.e B.f B.t B.o a (min 1 B.es.length) c),.o (iV (kA hv B.es.length))]) (fun w _=>vG B.r B.e B.f B.t B.o a B.es.length c q hv w hc) (r [] rfl fun _=> ?_));refine cq rfl (fun y:Option Addr×Nat×Nat×Bool×Int=>vt [.o (.slice y.1 y.2.1 y.2.2.1),.o (.bool y.2.2.2.1),.o (iV y.2.2.2.2)]) (fun y=>dj B hv=y.2.2.2.2) (fun w hS=>(M4 B a c (kA hv B.es.length) w hS.now.1.b).mono fun _ w3 ⟨a1,c1,n1,lt1,er,h0,h1,b⟩=>⟨(a1,n1,c1,lt1,er),h0,b,by rw[xW ok]at h1;exact h1⟩) ?_;rintro⟨a1,n1,c1,lt1,er⟩ h1;have h1:dj B hv=er:=h1;by_cases h0:er=0
 case neg=>exact r [1] rfl fun _=>fin fun w hS=>⟨none,0,0,[],false,er,rfl,rfl,UM h1 h0,fun _ _=>RowK.nil _ _ _,Nat.le_refl _,fun _=>rfl,hS.now.2⟩
 subst h0;obtain⟨k,rfl,hk⟩:=QI h1;have hlen:=ok.len;obtain⟨e,he⟩:∃e,e=k+min 3 (B.es.length-k):=⟨_,rfl⟩;have el:((B.es.drop k).take (e-k)).length=e-k:=by rw[List.length_take,List.length_drop];omega
 have cs:(¬B.r=3∧decide (B.r=3∧B.es.length≤k+3)=false)∨((B.r=3∧e=B.es.length)∧decide (B.r=3∧B.es.length≤k+3)=true)∨((B.r=3∧¬e=B.es.length)∧decide (B.r=3∧B.es.length≤k+3)=false):=by
  by_cases h3:B.r=3
  ·by_cases QG:e=B.es.length
   ·exact .inr (.inl ⟨⟨h3,QG⟩,decide_eq_true (by omega)⟩)
   ·exact .inr (.inr ⟨⟨h3,QG⟩,decide_eq_false (by omega)⟩)
  ·exact .inl ⟨h3,decide_eq_false fun h=>h3 h.1⟩
 rcases cs with⟨h3,hd⟩|⟨⟨h3,QG⟩,hd⟩|⟨⟨h3,QG⟩,hd⟩
 case' inl=>refine rz [0,1,2,4,0] [((k+3:Nat):Int),(e:Int)] rfl fun _=> ?_
 case' inr.inl=>refine rz [0,1,2,4,1] [((k+3:Nat):Int),(e:Int)] rfl fun _=> ?_
 case' inr.inr=>refine rz [0,1,2,4,1] [((k+3:Nat):Int),(e:Int)] rfl fun _=> ?_
 all_goals
  refine cx rfl (fun y:Option Addr×Nat=>vv (.slice y.1 (e-k) y.2)) (fun y=>e-k≤y.2∧(y.1=none→y.2=0)) (fun y w=>RowK .i64 w y.1 (6*(e-k)) (ai ((B.es.drop k).take (e-k)))) (fun w hS=>(A1 (gD a k 6 c) (e-k) (c-k) (ai ((B.es.drop k).take (e-k))) w (tj hS.now.1.b.row (by omega) hc) (fun h=>by rw[hS.now.1.b.nil (uV h)];omega) (by omega)).mono ?_) fun y hy=> ?_
  ·rintro _ w5 ⟨_,rfl,⟨⟨a8,c8,rfl,r8,D_,Qt,hf8⟩⟩,b⟩;exact⟨(a8,c8),rfl,b,⟨D_,Qt⟩,fun hl=>bT r8 hf8 hl⟩
  first|exact r [] rfl fun _=>fin fun w hS=>⟨y.1,y.2,e-k,(B.es.drop k).take (e-k),_,0,rfl,el.symm,Dq h1 (by omega) hd,fun w2 c2=>(hS.Cr w2 c2).2,hy.1,hy.2,hS.now.2⟩|exact r [1] rfl fun _=>fin fun w hS=>⟨y.1,y.2,e-k,(B.es.drop k).take (e-k),_,0,rfl,el.symm,Dq h1 (by omega) hd,fun w2 c2=>(hS.Cr w2 c2).2,hy.1,hy.2,hS.now.2⟩|exact r [0] rfl fun _=>fin fun w hS=>⟨y.1,y.2,e-k,(B.es.drop k).take (e-k),_,0,rfl,el.symm,Dq h1 (by omega) hd,fun w2 c2=>(hS.Cr w2 c2).2,hy.1,hy.2,hS.now.2⟩
theorem UN(X N:Nat)(u:Nv)(v:Wv)(F U:tD)(w:tA)(hw:NW w X N u v F U)(q:Nat)(hq:q<4)(hv:Int)(hlen:v.fl.length≤1000000000000)(ie:v.sv.length≤1000000000000):cA 119 #[lp N,iV (q:Int),iV hv] w fun x w'=>x= .returned (.tuple #[])∧∃u' v' F',Dn w X N u v F U ((u.pure,pU u.pure v.pure q hv)) u' v' F' w':=by
 have kJ:=(hw.st.now.1.mo q hq).one;have gx:=jy (hw.ok.ok q hq).cJ;refine en (H:=[nE X N u]) 47 [vp 0 0 N,vi q,vi hv] Tryz.func119 rfl rfl (hw.init (G:=fun _=>True) fun _ _=>trivial) (r [1] rfl fun _=>lo rfl rfl 0 rfl 47 (iO (u.m q)) (fun i hi=>nh hq hi) (sv 16 (vg (pr (u.m q).B (u.m q).a (u.m q).c (u.m q).g)) rfl (r [] rfl fun α=> ?_)));refine cx rfl (fun y:List Ev×Option Addr×Nat×Bool×Int=>vt [.o (.slice y.2.1 y.1.length y.2.2.1),.o (.bool y.2.2.2.1),.o (iV y.2.2.2.2)]) (fun y=>partOf (u.m q).B hv=(y.1,y.2.2.2.1,y.2.2.2.2)∧y.1.length≤y.2.2.1∧(y.2.1=none→y.2.2.1=0)) (fun y w=>RowK .i64 w y.2.1 (6*y.1.length) (ai y.1)) (fun w hS=>(M6 _ (u.m q).B (u.m q).a (u.m q).c (u.m q).g hv w hS.ult (fun w2 c2=>(hS.g w2 c2).1.1.mo q hq) (hw.ok.ok q hq)).mono fun _ _ ⟨a8,c8,n8,es8,Zi,er8,h0,h1,Zx,hr8,D_,Qt,b⟩=>by subst h1;exact⟨(es8,a8,c8,Zi,er8),h0,b,⟨Zx,D_,Qt⟩,fun _=>hr8⟩) ?_;rintro⟨es8,a8,c8,Zi,er8⟩ ⟨Zx,D_,Qt⟩;have Zx:partOf (u.m q).B hv=(es8,Zi,er8):=Zx;by_cases h0:er8=0
 ·subst h0;refine rz [1,1,1] [(u.m q).B.e+1] rfl fun _=>cw rfl (vt []) _ _ (fun w hS=>qx X v F _ w (Kv u.i (u.m q).B q hv es8 Zi) a8 c8 (lF (Kt (Kv u.i (u.m q).B q hv es8 Zi) a8 c8)) rfl hS.now.2.wo hS.ult (fun b h=> .inr (.inl h)) (fun w2 c2=>(hS.g w2 c2).2) D_ Qt hlen) fun P1 F1=>r [] rfl fun _=>c_ rfl fun w hS=> ?_;exact⟨rfl,u,_,F1,Dn.fin (u:=u) (hS.take 1) hw.ub hw.nu (fun _ h=>⟨h.1.1.1.1,fP h.1.1.1.2 h.2⟩) hw.ok rfl rfl rfl rfl rfl rfl (by rw[jY];simp only[pU,Zx,if_pos])⟩
 ·refine r [0] rfl fun _=>c_ rfl fun w hS=> ?_;exact⟨rfl,u,v,F,Dn.fin (u:=u) (hS.take 1) hw.ub hw.nu (fun _ h=>⟨h.1.1.1,h.1.1.2⟩) hw.ok rfl rfl rfl rfl rfl rfl (by simp only[pU,Zx,if_neg h0])⟩
theorem Bz(X N:Nat)(u:Nv)(v:Wv)(F U:tD)(w:tA)(hw:NW w X N u v F U)(m:Mg)(P:Nat)(l:Lt)(a:tB)(c:Nat)(hq:l.q<4)(okB:m.B.Ok)(c0 c1 c2:Nat)(hg:bR U w (fun w=>((((aZ w c0 117 47 (iO m))∧aZ w c1 109 1 (fun _=>lp N))∧aZ w c2 171 1 (fun _=>lp P))∧nj w m)∧eu w P l a c))(hlen:v.fl.length≤1000000000000)(ie:v.sv.length≤1000000000000):cA 118 #[lp c0,lp c1,lp c2] w fun x w'=>x= .returned (.tuple #[])∧∃u' v' F',Dn w X N u v F U (eP u.pure v.pure (.shut l m.B)) u' v' F' w':=by
 have kJ:=hg.now.1.2.one;refine en (H:=[nE X N u]) 23 [vv (lp c0),vv (lp c1),vv (lp c2)] Tryz.func118 rfl rfl (hw.init hg) (r [1] rfl fun _=>l1 rfl (lp N) (fun w hS=>hS.now.1.2.1.1.1.2.at 0 (cF rfl)) (sv 3 (vp 0 0 N) rfl (r [] rfl fun _=>l1 rfl (lp P) (fun w hS=>hS.now.1.2.1.1.2.at 0 (cF rfl)) (r [] rfl fun _=>l1 rfl (iV (l.q:Int)) (fun w hS=>hS.now.1.2.2.b.at 3 (cF rfl)) (r [] rfl fun _=>lf rfl 47 (iO m) (fun w hS j hj=>by rw[Nat.zero_add];exact hS.now.1.2.1.1.1.1.at j (by omega)) (r [1] rfl fun _=>so rfl rfl rfl 0 rfl (lh X {u with m:=aj u.m l.q m}) (fun i _=>(oP hq i).trans (rV (x:=m) i)) ?_ (dY kJ)))))));refine r [1] rfl fun _=>l1 rfl (lp N) (fun w hS=>hS.now.1.2.1.1.1.2.at 0 (cF rfl)) (r [] rfl fun _=>l1 rfl (lp P) (fun w hS=>hS.now.1.2.1.1.2.at 0 (cF rfl)) (r [] rfl fun _=>l1 rfl (iV (l.q:Int)) (fun w hS=>hS.now.1.2.2.b.at 3 (cF rfl)) (r [] rfl fun _=>l1 rfl (lp P) (fun w hS=>hS.now.1.2.1.1.2.at 0 (cF rfl)) (r [] rfl fun _=>l1 rfl (iV l.pl) (fun w hS=>hS.now.1.2.2.b.at 18 (cF rfl)) (r [] rfl fun _=> ?_)))));refine ct (Y:=Nv×Wv×(Nat→Prop)) rfl (vt []) (fun y w'=>Dn w X N u v F U (eP u.pure v.pure (.shut l m.B)) y.1 y.2.1 y.2.2 w') (fun w1 hS=> ?_) (fun _ _ _ h b=>h.next b) fun y=>r [] rfl fun _=>c_ rfl fun _ hS=>⟨rfl,y.1,y.2.1,y.2.2,hS.now.2⟩;have IG:=Dn.fin (r:=(_,v.pure)) (u:=u) (v:=v) (v':=v) (u':={u with m:=aj u.m l.q m}) (F:=F) (F':=F) hS hw.ub hw.nu (fun _ h=>⟨h.1.1.put h.2.1.2,h.1.2⟩) (hw.ok.put okB) rfl rfl rfl rfl rfl (jA _ _ _) rfl;exact(UN X N ({u with m:=aj u.m l.q m}) v F _ _ IG.nw l.q hq l.pl hlen ie).mono fun _ _ ⟨h1,u2,v2,F2,hd2⟩=>⟨h1,(u2,v2,F2),(IG.trans hd2).to (jA _ _ _) (congrArg (fun n=>pU n v.pure l.q l.pl) (jA _ _ _))⟩
end
theorem tq{k:Int}{q:Nat}{ep pe:Int}(hk:1≤k∧k≤7)(Kw:¬(k=2∨k=5))(hq:q<4)(he:0≤ep∧ep≤1048576)(hp:0≤pe∧pe≤4):(⟨k,q,ep,pe,k_⟩:Rec).fault=0:=by
 show aC k q ep pe 0 0 0 0 0 0=0;unfold aC;rw[if_neg (fun h=>h hk),if_neg (fun h=>h ⟨by omega,by omega,he.1,he.2,hp.1,hp.2⟩),if_neg Kw];rfl
theorem QJ{k:Int}{q:Nat}{ep:Int}{e:Ev}(hk:k=2∨k=5)(hq:q<4)(he:0≤ep∧ep≤1048576)(hv:e.Ok):(⟨k,q,ep,0,e⟩:Rec).fault=0:=by
 show aC k q ep 0 e.k e.p e.i e.b e.he e.hn=0;unfold aC;rw[if_neg (fun h=>h (by omega)),if_neg (fun h=>h ⟨by omega,by omega,he.1,he.2,by omega,by omega⟩),if_pos hk];exact hv
theorem WL{v:Ev}(h:v.Ok):∀x∈aY v,(Lit.int .i64 x).wf=true:=by
 unfold Ev.Ok aP at h;intro x hx;simp only[aY,List.mem_cons,List.not_mem_nil,or_false]at hx;refine IH ?_ ?_<;>(rcases hx with rfl|rfl|rfl|rfl|rfl|rfl<;>(split at h<;>(try split at h)<;>(try split at h)<;>(try split at h)<;>omega))
theorem oU{k:Int}{q:Nat}{ep pe:Int}{e:Ev}(hk:1≤k∧k≤7)(hq:q<4)(he:0≤ep∧ep≤1048576)(hp:0≤pe∧pe≤4)(hv:∀x∈aY e,(Lit.int .i64 x).wf=true):∀x∈bj ⟨k,q,ep,pe,e⟩,(Lit.int .i64 x).wf=true:=by
 intro x hx;simp only[bj,List.mem_cons,List.not_mem_nil,or_false]at hx;rcases hx with rfl|rfl|rfl|rfl|hx
 ·exact IH (by omega) (by omega)
 ·exact IH (by omega) (by omega)
 ·exact IH (by omega) (by omega)
 ·exact IH (by omega) (by omega)
 ·exact hv x (by simp only[aY,List.mem_cons,List.not_mem_nil,or_false];exact hx)
theorem pV:∀x∈aY k_,(Lit.int .i64 x).wf=true:=by decide
section
variable(X N:Nat)(u:Nv)(v:Wv)(F U:tD)(w:tA)
abbrev Nv.synced(u:Nv)(a:tB)(c:Nat):Nv:={u with da:=a,dc:=c,sy:=u.dl.length,af:= .nilFunc,ax:=none}
theorem pW(hw:NW w X N u v F U)(g:Nat)(cl:tK)(MK:u.af= .func (.func g) #[] cl.toArray)(Zt:Rv.iy Tryz.prog g=true)(r:Nd×Ws)(hA:∀a c w1,NW w1 X N (u.synced a c) v F U→dk (fun b=>b=N) w w1→cA g cl.toArray w1 fun x w'=>x= .returned (.tuple #[])∧∃u' v' F',Dn w1 X N (u.synced a c) v F U r u' v' F' w'):
  cA 80 #[lp N] w fun x w'=>x= .returned (.tuple #[])∧∃u' v' F',Dn w X N u v F U r u' v' F' w':=by
 have hUN:∀b,(b=N∨(U b∧b≠N))→U b:=fun b hb=>hb.elim (fun e=>e▸hw.nu) fun h=>h.1;have D8:∀b,U b→(b=N∨(U b∧b≠N)):=fun b hb=>by
  by_cases e:b=N
  ·exact .inl e
  ·exact .inr ⟨hb,e⟩
 have fb:=hw.nb;unfold NB lh at fb;rw[MK]at fb;refine uT X N u.i u.da u.dl.length u.dc u.dl u.sy (fun p=>iO (u.m p)) u.hn u.he u.wt u.tu u.ct u.ub u.sk g cl w fb (fun b=>U b∧b≠N) (fun b hb=>hw.ub b hb.1) (fun h=>h.2 rfl) (fun w2 c2=>(hw.st w2 (c2.mono hUN)).1.row) hw.ok.nil hw.ok.cap hw.ok.len hw.ok.s0 hw.ok.s1 Zt (fun w'=>∃u' v' F',Dn w X N u v F U r u' v' F' w') (fun _ _ ⟨u',v',F',h⟩ b=>⟨u',v',F',h.next b⟩) fun a c w1 f1 r1 h1 h2 h3 c1=> ?_;have cU:dk U w w1:=c1.mono fun b hb=>hb▸hw.nu;have nw1:NW w1 X N (u.synced a c) v F U:=by
  refine⟨f1,hw.wo.Ch c1 fun b hb=>hb▸hw.nf,hw.nf,fun b hb=>Nat.lt_of_lt_of_le (hw.ub b hb) c1.size,hw.fu,hw.nu,⟨hw.ok.ok,h2,h1,h3,hw.ok.len,by show(0:Int)≤(u.dl.length:Int);omega,Int.le_refl _,hw.ok.i5,trivial⟩,fun w2 c2=> ?_⟩;have nU:=hw.st w2 (cU.trans c2 fun _ _ h=>h);exact⟨⟨r1 w2 (c2.mono D8),nU.1.mo,rfl,nU.1.wl⟩,nU.2⟩
 refine(hA a c w1 nw1 c1).mono ?_;rintro x w' ⟨rfl,u',v',F',hd⟩;have Zy:Mv (fun b=>F b∨b=N) w (fun b=>F b∨b=N) w1:=⟨c1.mono fun b hb=> .inr hb,fun b hb=> .inl hb,fun b hb=>hb.elim (fun h=>Nat.lt_of_lt_of_le (hw.ub b (hw.fu b h)) c1.size) fun e=>e▸nw1.nb.lt⟩;exact⟨rfl,u',v',F',hd.nw,Zy.trans hd.mv,hd.wt,hd.wl,hd.nd,hd.tk,hd.dd,hd.n,hd.s⟩
end
theorem UO(X N:Nat)(u:Nv)(v:Wv)(F U:tD)(w:tA)(hw:NW w X N u v F U)(x:Af)(hx:u.ax=some x)(hlen:v.fl.length≤1000000000000)(ie:v.sv.length≤1000000000000):cA 80 #[lp N] w fun y w'=>y= .returned (.tuple #[])∧∃u' v' F',Dn w X N u v F U (eP {u.pure with sy:=u.dl.length,af:=none} v.pure x) u' v' F' w':=by
 have gx:bR U w fun w=>Yw w N u.af u.ad (some x):=fun w2 c2=>hx▸(hw.st w2 c2).1.af;have ed:aa2 (some x):=hx▸hw.ok.QB;cases x with
 |serve l an=>
  refine pW X N u v F U w hw 112 [lp u.ad.c0,lp u.ad.c1,lp u.ad.c2,lp u.ad.c3] gx.now.1 (by kernel_rfl) _ fun a c w1 iF c1=> ?_;exact MW X N (u.synced a c) v F U w1 iF u.ad.p l u.ad.a u.ad.c an ed.1 ed.2 _ _ _ _ (fun w2 c2=>by obtain⟨_,h0,h1,h2,h3,hl⟩:=gx w2 ((c1.mono fun b hb=>hb▸hw.nu).trans c2 fun _ _ h=>h);exact⟨⟨⟨⟨h0,h1⟩,h2⟩,h3⟩,hl⟩) hlen ie
 |begin l B=>
  obtain rfl:u.ad.m.B=B:=gx.now.2.2.2.2.2.2;refine pW X N u v F U w hw 116 [lp u.ad.c0,lp u.ad.c1,lp u.ad.c2] gx.now.1 (by kernel_rfl) _ fun a c w1 iF c1=> ?_;exact MV X N (u.synced a c) v F U w1 iF u.ad.m u.ad.p l u.ad.a u.ad.c ed.1 ed.2 _ _ _ (fun w2 c2=>by obtain⟨_,h0,h1,h2,hl,hm,_⟩:=gx w2 ((c1.mono fun b hb=>hb▸hw.nu).trans c2 fun _ _ h=>h);exact⟨⟨⟨⟨h0,h1⟩,h2⟩,hm⟩,hl⟩) hlen ie
 |shut l B=>
  obtain rfl:u.ad.m.B=B:=gx.now.2.2.2.2.2.2;refine pW X N u v F U w hw 118 [lp u.ad.c0,lp u.ad.c1,lp u.ad.c2] gx.now.1 (by kernel_rfl) _ fun a c w1 iF c1=> ?_;exact Bz X N (u.synced a c) v F U w1 iF u.ad.m u.ad.p l u.ad.a u.ad.c ed.1 ed.2 _ _ _ (fun w2 c2=>by obtain⟨_,h0,h1,h2,hl,hm,_⟩:=gx w2 ((c1.mono fun b hb=>hb▸hw.nu).trans c2 fun _ _ h=>h);exact⟨⟨⟨⟨h0,h1⟩,h2⟩,hm⟩,hl⟩) hlen ie
 |take l B=>
  obtain rfl:u.ad.m.B=B:=gx.now.2.2.2.2.2.2;refine pW X N u v F U w hw 122 [lp u.ad.c0,lp u.ad.c1,lp u.ad.c2] gx.now.1 (by kernel_rfl) _ fun a c w1 iF c1=> ?_;exact QF X N (u.synced a c) v F U w1 iF u.ad.m u.ad.p l u.ad.a u.ad.c ed.1 ed.2 _ _ _ (fun w2 c2=>by obtain⟨_,h2,h0,h1,hl,hm,_⟩:=gx w2 ((c1.mono fun b hb=>hb▸hw.nu).trans c2 fun _ _ h=>h);exact⟨⟨⟨⟨h0,h1⟩,h2⟩,hm⟩,hl⟩) hlen ie
 |jz q B=>
  obtain rfl:u.ad.m.B=B:=gx.now.2.2.2.2.2;refine pW X N u v F U w hw 125 [lp u.ad.c0,lp u.ad.c1,lp u.ad.c2] gx.now.1 (by kernel_rfl) _ fun a c w1 iF c1=> ?_;exact MU X N (u.synced a c) v F U w1 iF u.ad.m q ed.1 ed.2 _ _ _ (fun w2 c2=>by obtain⟨_,h0,h1,h2,hm,_⟩:=gx w2 ((c1.mono fun b hb=>hb▸hw.nu).trans c2 fun _ _ h=>h);exact⟨⟨⟨h0,h1⟩,h2⟩,hm⟩)
section
open Rv
theorem UP{hd tl:tK}{mo:tO}{hn he:tG}{wt af:tJ}{tu a b:Int}{q:Nat}(hq:q<4)(i:Nat):fS (kj hd (fU mo hn he wt af tu) tl) (193+q*2) 2 (lF [iV a,iV b]) i=kj hd (fU mo (aj hn q a) (aj he q b) wt af tu) tl i:=by
 unfold fS;by_cases hc:193+q*2≤i∧i<193+q*2+2
 ·rw[if_pos hc];obtain rfl|rfl:i=193+q*2∨i=193+q*2+1:=by omega
  ·rw[WK hq,au,Nat.sub_self];rfl
  ·rw[Ku hq,au,show 193+q*2+1-(193+q*2)=1 by omega];rfl
 ·rw[if_neg hc];unfold kj;by_cases h5:i<5
  ·rw[if_pos h5,if_pos h5]
  ·rw[if_neg h5,if_neg h5];by_cases h6:i<204
   ·rw[if_pos h6,if_pos h6];unfold fU;by_cases h7:i-5<188
    ·rw[if_pos h7,if_pos h7]
    ·rw[if_neg h7,if_neg h7];by_cases h8:i-5<196
     ·rw[if_pos h8,if_pos h8];have fw:¬(i-5-188)/2=q:=by omega
      simp only[aj,if_neg fw]
     ·rw[if_neg h8,if_neg h8]
   ·rw[if_neg h6,if_neg h6]
theorem M7{B B':Bt}{ep:Int}(h:bC B ep=(B',0)):B'.e=B.e∧B.r=3:=by
 unfold bC at h;split at h
 ·cases h
 ·split at h
  ·cases h
  ·rename_i hr;split at h
   ·cases h
   ·cases h;exact⟨rfl,Classical.not_not.1 hr⟩
theorem M8{B B':Bt}{ep er:Int}(h:bC B ep=(B',er)):B'.Ok:=by
 unfold bC at h;split at h
 ·cases h;exact Bt.cR
 ·rename_i ed;split at h
  ·cases h;exact Bt.cR
  ·split at h
   ·cases h;exact Bt.cR
   ·cases h;have:=jy (Classical.not_not.1 ed).cJ;exact⟨.inl ⟨rfl,rfl,this.1,this.2,rfl,rfl,rfl⟩,Nat.zero_le _,St.zero,[],.nil⟩
section
variable{u ub u':Nv}{v:Wv}{l:Lt}{B8:Bt}{er:Int}
theorem QK(h:u.he l.q<l.pe):({u with hn:=aj u.hn l.q l.pn,he:=aj u.he l.q l.pe}:Nv).pure=dH u.pure l:=by
 unfold dH;rw[if_pos h]
theorem QL(h:¬u.he l.q<l.pe):u.pure=dH u.pure l:=by
 unfold dH;rw[if_neg h]
theorem Dt(n:Nd)(s:Ws)(l:Lt):s=(iQ n s l).2:=by
 unfold iQ;split<;>rfl
theorem M_(hb:ub.pure=dH u.pure l)(h:bC (u.m l.q).B l.pe=(B8,er))(h0:¬er=0):ub.pure=(iQ u.pure v.pure l).1:=by
 unfold iQ;rw[h,if_neg h0,hb]
theorem IK(hb:ub.pure=dH u.pure l)(h:bC (u.m l.q).B l.pe=(B8,0))(hf:100000<u.dl.length+(bP [⟨7,l.q,B8.e,0,k_⟩]).length):ub.pure=(iQ u.pure v.pure l).1:=by
 unfold iQ mO;have e:(dH u.pure l).dl=u.dl:=by unfold dH;split<;>rfl
 rw[h,if_pos rfl,e,if_neg (Nat.not_le.2 hf),hb];rfl
theorem Na(hb:ub.pure=dH u.pure l)(h:bC (u.m l.q).B l.pe=(B8,0))(hf:u.dl.length+(bP [⟨7,l.q,B8.e,0,k_⟩]).length≤100000):{ub.pure with dl:=u.dl++bP [⟨7,l.q,B8.e,0,k_⟩],af:=some (.jz l.q B8)}=(iQ u.pure v.pure l).1:=by
 unfold iQ mO;have e:(dH u.pure l).dl=u.dl:=by unfold dH;split<;>rfl
 rw[h,if_pos rfl,e,if_pos hf,hb];rfl
end
theorem QM(X N:Nat)(u:Nv)(v:Wv)(F U:tD)(w:tA)(hw:NW w X N u v F U)(P:Nat)(l:Lt)(a:tB)(c:Nat)(hq:l.q<4)(hl:bR U w fun w=>eu w P l a c):cA 71 #[lp N,lp P] w fun x w'=>x= .returned (.tuple #[])∧∃u' v' F',Dn w X N u v F U (iQ u.pure v.pure l) u' v' F' w':=by
 have ho:aT (iO (u.m l.q)) 47:=dY (hw.st.now.1.mo l.q hq).one;have gx:=jy (hw.ok.ok l.q hq).cJ;refine en (H:=[⟨N,126,[.f 206 (lh X u)]⟩]) 62 [vp 0 0 N,vv (lp P)] Tryz.func71 rfl rfl (hw.init (G:=fun w=>eu w P l a c) hl) ?_;refine r [] rfl fun α=>l1 rfl (iV (l.q:Int)) (fun w hS=>hS.now.1.2.b.at 3 (cF rfl)) ?_;refine r [] rfl fun β=> ?_;let u1:(Nat→Int)×(Nat→Int)→Nv:=fun x=>{u with hn:=x.1,he:=x.2};refine adj 2 (X:=(Nat→Int)×(Nat→Int)) (fun _=>[(1,vv (lp P)),(2,vp 1 0 (α 0)),(4,vp 2 0 (β 0))]) (fun x=>[⟨N,126,[.f 206 (lh X (u1 x))]⟩,⟨α 0,109,[.p 0 0 N]⟩,⟨β 0,3,[.o (iV (l.q:Int))]⟩]) (fun _ b=>F b∨(U b∧b≠N)) (fun _ w=>(u.In w N∧∀r∈v.fl,ni w r)∧eu w P l a c) (fun _=>RW X (fun b=>b∈[N]) F w v F) (fun x=>(u1 x).pure=dH u.pure l) ?_ ?_
 case refine_2=>
  refine r [3] rfl fun _=>l1 rfl (iV l.pe) (fun w hS=>hS.now.1.2.b.at 16 (cF rfl)) (r [1] rfl fun _=>Z8 rfl rfl 0 rfl (iV (u.he l.q)) (Ku hq) ?_);by_cases Lg:u.he l.q<l.pe
  case neg=>exact r [0] rfl fun _=>bU (u.hn,u.he) ⟨rfl,rfl,rfl,trivial⟩ (fun _ hS=>hS) (QL Lg) Nat.zero_lt_one
  refine r [1,3] rfl fun _=>lf rfl 2 (lF [iV l.pn,iV l.pe]) (fun w hS j hj=>(hS.now.1.2.b.at (15+j) (by omega)).trans (congrArg some (pI rfl hj))) (r [1] rfl fun _=>so rfl rfl rfl 0 rfl (lh X (u1 (aj u.hn l.q l.pn,aj u.he l.q l.pe))) (fun i _=>UP hq i) ?_ (PL rfl));exact r [] rfl fun _=>bU (aj u.hn l.q l.pn,aj u.he l.q l.pe) ⟨rfl,rfl,rfl,trivial⟩ (fun _ hS=>hS) (QK Lg) Nat.zero_lt_one
 rintro f ⟨hn,he⟩ hh;have hh:({u with hn:=hn,he:=he}:Nv).pure=dH u.pure l:=hh;refine r [] rfl fun _=>cut (X:=Nat×Int×Bt×Option Addr×Nat×(Nat→Value)) (fun x=>[(2,vp 1 0 (α 0)),(4,vp 2 0 (β 0)),(5,vp 3 0 x.1),(6,vi x.2.1)]) (fun x=>[⟨N,126,[.f 206 (lh X (u1 (hn,he)))]⟩,⟨α 0,109,[.p 0 0 N]⟩,⟨β 0,3,[.o (iV (l.q:Int))]⟩,⟨x.1,117,pr x.2.2.1 x.2.2.2.1 x.2.2.2.2.1 x.2.2.2.2.2⟩]) (fun _ b=>F b∨(U b∧b≠N)) (fun x w=>((u.In w N∧∀r∈v.fl,ni w r)∧eu w P l a c)∧jG w x.2.2.1 x.2.2.2.1 x.2.2.2.2.1 x.2.2.2.2.2) (fun _=>RW X (fun b=>b∈[N]) F w v F) (fun x=>bC (u.m l.q).B l.pe=(x.2.2.1,x.2.1)) ?_ (r [4,1] rfl fun _=>lo rfl rfl 0 rfl 47 (iO (u.m l.q)) (fun i hi=>nh hq hi) (r [] rfl fun _=>l1 rfl (iV l.pe) (fun w hS=>hS.now.1.2.b.at 16 (cF rfl)) ?_))
 case refine_2=>
  repeat' first|refine Cq ?_ ?_|(refine cx (g:=124) rfl (fun y:Int×Bt×Option Addr×Nat×(Nat→Value)=>vt [.g (pr y.2.1 y.2.2.1 y.2.2.2.1 y.2.2.2.2),.o (iV y.1)]) (fun y=>bC (u.m l.q).B l.pe=(y.2.1,y.1)∧aT y.2.2.2.2 41) (fun y w=>jG w y.2.1 y.2.2.1 y.2.2.2.1 y.2.2.2.2) ?_ ?_;exact fun w hS=>(E1 (fun _=>True) (u.m l.q).B (u.m l.q).a (u.m l.q).c (u.m l.q).g l.pe w (hw.ok.ok l.q hq)).mono fun _ _ ⟨_,B8,er8,h0,fh,⟨a8,c8,g8,hy,hm8⟩,b⟩=>⟨(er8,B8,a8,c8,g8),by rw[h0,hy];rfl,b,⟨fh,hm8.now.one⟩,fun _=>hm8.mono fun _ _ _=>trivial⟩;rintro⟨er8,B8,a8,c8,g8⟩ ⟨fh,o8⟩)|refine rs [] rfl rfl fun _=> ?_
  all_goals exact bU (_,er8,B8,a8,c8,g8) ⟨rfl,rfl,rfl,rfl,trivial⟩ (fun w hS=>hS.G_ [0,1,2,3] (by decide)) fh Nat.zero_lt_one
 rintro f ⟨R5,er8,B8,a8,c8,g8⟩ fh;have fh:bC (u.m l.q).B l.pe=(B8,er8):=fh;by_cases h0:er8=0
 case neg=>exact r [0] rfl fun _=>c_ rfl fun w hS=>⟨rfl,_,v,F,Dn.fin (u':=u1 (hn,he)) hS hw.ub hw.nu (fun _ h=>⟨⟨h.1.1.1.row,h.1.1.1.mo,h.1.1.1.af,h.1.1.1.wl⟩,h.1.1.2⟩) (⟨hw.ok.ok,hw.ok.nil,hw.ok.cap,hw.ok.max,hw.ok.len,hw.ok.s0,hw.ok.s1,hw.ok.i5,hw.ok.QB⟩) rfl rfl rfl rfl rfl (M_ hh fh h0) (Dt _ _ _)⟩
 subst h0;obtain⟨he8,hr8⟩:=M7 fh;refine r [1] rfl fun δ=>kp 4 rfl (c0 rfl fun w1 hS=> ?_);obtain⟨nP,hu2,hu3⟩:=hS.qI;refine(iN X N u.i u.da u.dl.length u.dc u.dl u.sy (fun p=>iO (u.m p)) hn he u.wt u.af u.tu u.ct u.ub u.sk (.func 125) #[] #[.pointer (some ⟨R5,0,none⟩),.pointer (some ⟨α 0,0,none⟩),.pointer (some ⟨β 0,0,none⟩)] [⟨7,l.q,B8.e,0,k_⟩] (some ⟨δ 0,0,none⟩) 1 1 _ (hS.at 0 rfl) _ nP hu2 (fun w2 cc=>⟨(hu3 w2 cc).1.1.1.1.row,lL ⟨7,l.q,B8.e,0,k_⟩ (oU (by decide) hq (by rw[he8];exact gx) (by decide) pV) (hu3 w2 cc).2⟩) hw.ok.nil hw.ok.cap hw.ok.max hw.ok.len hw.ok.s0 hw.ok.s1 rfl (by decide) (fun r hr=>by rw[List.mem_singleton.1 hr];exact tq (by decide) (by decide) hq (by rw[he8];exact gx) (by decide))).mono ?_;rintro _ w2 ⟨k,rfl,ch,⟨rfl,iF,a2,c2,uU,st2,jo,qL,si⟩|⟨rfl,iF,uU⟩⟩
 ·refine⟨vv (.bool true),_,_,rfl,ch,uU,st2,r [] rfl fun _=>c_ rfl fun w3 hS=> ?_⟩;let u2:Nv:={u1 (hn,he)with da:=a2,dc:=c2,dl:=u.dl++bP [⟨7,l.q,B8.e,0,k_⟩],af:= .func (.func 125) #[] #[.pointer (some ⟨R5,0,none⟩),.pointer (some ⟨α 0,0,none⟩),.pointer (some ⟨β 0,0,none⟩)],ax:=some (.jz l.q B8),ad:=⟨R5,α 0,β 0,0,0,none,0,⟨B8,a8,c8,g8⟩⟩};replace hS:=((hS.take 1).add (hS.kept 3 rfl 1 (cF rfl))).add (hS.kept 1 rfl 1 (cF rfl))|>.add (hS.kept 2 rfl 1 (cF rfl))
  replace hS:=hS.congr 0 rfl (lh X u2) (fun i _=>by simp only[u2,u1,lh,List.length_append];rfl);exact⟨rfl,u2,v,F,Dn.fin hS hw.ub hw.nu (fun _ h=>⟨⟨by rw[List.length_append];exact h.1.1.1.2,h.1.1.1.1.1.1.1.1.mo,⟨rfl,h.1.1.2,h.1.2,h.2,h.1.1.1.1.1.2,rfl⟩,h.1.1.1.1.1.1.1.1.wl⟩,h.1.1.1.1.1.1.1.2⟩) (⟨hw.ok.ok,qL,by rw[List.length_append];exact jo,si,by rw[List.length_append];exact iF,hw.ok.s0,by rw[List.length_append];show u.sy≤_;have:=hw.ok.s1;omega,hw.ok.i5,⟨hq,M8 fh⟩⟩) rfl rfl rfl rfl rfl (Na hh fh iF) (Dt _ _ _)⟩
 ·refine⟨vv (.bool false),_,fun _=>True,rfl,ch,uU,fun _ _=>trivial,r [] rfl fun _=>c_ rfl fun w hS=> ?_⟩;exact⟨rfl,_,v,F,Dn.fin (u':=u1 (hn,he)) hS hw.ub hw.nu (fun _ h=>⟨⟨h.1.1.1.1.1.row,h.1.1.1.1.1.mo,h.1.1.1.1.1.af,h.1.1.1.1.1.wl⟩,h.1.1.1.1.2⟩) (⟨hw.ok.ok,hw.ok.nil,hw.ok.cap,hw.ok.max,hw.ok.len,hw.ok.s0,hw.ok.s1,hw.ok.i5,hw.ok.QB⟩) rfl rfl rfl rfl rfl (IK hh fh iF) (Dt _ _ _)⟩
theorem FX{B B':Bt}{ep fr:Int}(h:aQ B ep fr=(B',0)):(1≤ep∧ep≤1048576)∧0≤fr∧fr≤4:=by
 unfold aQ at h;split at h
 ·cases h
 ·split at h
  ·cases h
  ·rename_i h2;exact Classical.not_not.1 h2
theorem FY{B B':Bt}{ep fr er:Int}(h:aQ B ep fr=(B',er)):B'.Ok:=by
 unfold aQ at h;split at h
 ·cases h;exact Bt.cR
 ·rename_i ed;split at h
  ·cases h;exact Bt.cR
  ·rename_i h2;split at h
   ·cases h;exact Bt.cR
   ·split at h
    ·cases h;exact Classical.not_not.1 ed
    ·split at h
     ·cases h;exact Bt.cR
     ·cases h;have:=Classical.not_not.1 h2;exact⟨.inr (.inr (.inr (.inr ⟨rfl,this.1.1,this.1.2,this.2.1,this.2.2,rfl,rfl⟩))),Nat.zero_le _,St.zero,[],.nil⟩
section
variable{u:Nv}{v:Wv}{l:Lt}{B8:Bt}{er:Int}
theorem BA(h:aQ (u.m l.q).B l.ep l.fr=(B8,er))(h0:¬er=0):iP u.pure v.pure l=(u.pure,v.pure):=by
 unfold iP;rw[h,if_pos h0]
theorem yE(h:aQ (u.m l.q).B l.ep l.fr=(B8,0))(h0:B8.e=(u.m l.q).B.e):iP u.pure v.pure l=(u.pure,yB u.pure v.pure l.q):=by
 unfold iP;rw[h,if_neg (fun h=>h rfl),if_pos h0]
theorem yF(h:aQ (u.m l.q).B l.ep l.fr=(B8,0))(h0:¬B8.e=(u.m l.q).B.e)(hf:100000<u.dl.length+(bP [⟨4,l.q,l.ep,l.fr,k_⟩]).length):iP u.pure v.pure l=(u.pure,v.pure):=by
 unfold iP mO;rw[h,if_neg (fun h=>h rfl),if_neg h0,if_neg (Nat.not_le.2 hf)];rfl
theorem BC(h:aQ (u.m l.q).B l.ep l.fr=(B8,0))(h0:¬B8.e=(u.m l.q).B.e)(hf:u.dl.length+(bP [⟨4,l.q,l.ep,l.fr,k_⟩]).length≤100000):iP u.pure v.pure l=({u.pure with dl:=u.dl++bP [⟨4,l.q,l.ep,l.fr,k_⟩],af:=some (.begin l B8)},v.pure):=by
 unfold iP mO;rw[h,if_neg (fun h=>h rfl),if_neg h0,if_pos hf];rfl
end
theorem QN(X N:Nat)(u:Nv)(v:Wv)(F U:tD)(w:tA)(hw:NW w X N u v F U)(P:Nat)(l:Lt)(a:tB)(c:Nat)(hq:l.q<4)(hl:bR U w fun w=>eu w P l a c)(hlen:v.fl.length≤1000000000000)(ie:v.sv.length≤1000000000000):cA 68 #[lp N,lp P] w fun x w'=>x= .returned (.tuple #[])∧∃u' v' F',Dn w X N u v F U (iP u.pure v.pure l) u' v' F' w':=by
 have kJ:=(hw.st.now.1.mo l.q hq).one;have ho:aT (iO (u.m l.q)) 47:=dY kJ;have gx:=jy (hw.ok.ok l.q hq).cJ;refine en (H:=[nE X N u]) 66 [vp 0 0 N,vv (lp P)] Tryz.func68 rfl rfl (hw.init (G:=fun w=>eu w P l a c) hl) ?_;refine r [3] rfl fun α=>l1 rfl (iV (l.q:Int)) (fun w hS=>hS.now.1.2.b.at 3 (cF rfl)) (r [1] rfl fun _=>lo rfl rfl 0 rfl 47 (iO (u.m l.q)) (fun i hi=>nh hq hi) ?_);refine r [] rfl fun β=>cut (X:=Nat×Int×L5) (fun x=>[(2,vp 1 0 (α 0)),(3,vp 2 0 (α 1)),(4,vp 3 0 (β 0)),(5,vp 4 0 x.1),(6,vi x.2.1)]) (fun x=>[nE X N u,npE (α 0) 0 N,lpE (α 1) P,mgE (β 0) (u.m l.q),moE x.1 x.2.2.1 x.2.2.2.1 x.2.2.2.2.1 x.2.2.2.2.2]) (fun _ b=>F b∨(U b∧b≠N)) (fun x w=>((u.In w N∧∀r∈v.fl,ni w r)∧eu w P l a c)∧PO x.2.2 w) (fun _=>RW X (fun b=>b∈[N]) F w v F) (fun x=>aQ (u.m l.q).B l.ep l.fr=(x.2.2.1,x.2.1)) ?_ (r [4] rfl fun _=>l1 rfl (iV l.ep) (fun w hS=>hS.now.1.2.b.at 17 (cF rfl)) (r [] rfl fun _=>l1 rfl (iV l.fr) (fun w hS=>hS.now.1.2.b.at 1 (cF rfl)) ?_))
 case refine_2=>
  repeat' first|refine Cq ?_ ?_|(refine cx (g:=114) rfl (fun y:Int×L5=>vt [Ie y.2,.o (iV y.1)]) (fun y=>aQ (u.m l.q).B l.ep l.fr=(y.2.1,y.1)∧aT y.2.2.2.2 41) (fun y=>PO y.2) ?_ ?_;exact fun w hS=>(Ig _ (u.m l.q).B (u.m l.q).a (u.m l.q).c (u.m l.q).g l.ep l.fr w hS.ult (fun w2 c2=>(hS.g w2 c2).1.1.mo l.q hq) (hw.ok.ok l.q hq)).mono fun _ _ ⟨_,B8,er8,h0,fh,⟨a8,c8,g8,hy,hm8⟩,b⟩=>⟨(er8,B8,a8,c8,g8),by rw[h0,hy];rfl,b,⟨fh,hm8.now.one⟩,fun _=>hm8⟩;rintro⟨er8,B8,a8,c8,g8⟩ ⟨fh,o8⟩)|refine rs [] rfl rfl fun _=> ?_
  all_goals exact bU (_,er8,B8,a8,c8,g8) ⟨rfl,rfl,rfl,rfl,rfl,trivial⟩ (fun w hS=>hS.G_ [0,1,2,3,4] (by decide)) fh Nat.zero_lt_one
 rintro f ⟨R5,er8,B8,a8,c8,g8⟩ fh;have fh:aQ (u.m l.q).B l.ep l.fr=(B8,er8):=fh;by_cases h0:er8=0
 case neg=>exact r [1] rfl fun _=>c_ rfl fun w hS=>⟨rfl,u,v,F,Dn.fin hS hw.ub hw.nu (fun _ h=>⟨h.1.1.1,h.1.1.2⟩) hw.ok rfl rfl rfl rfl rfl (by rw[BA fh h0]) (by rw[BA fh h0])⟩
 subst h0;obtain⟨l9,AN⟩:=FX fh;refine r [0] rfl fun _=> ?_;by_cases he8:B8.e=(u.m l.q).B.e
 ·refine r [1,3] rfl fun _=>l1 rfl (iV (l.q:Int)) (fun w hS=>hS.now.1.1.2.b.at 3 (cF rfl)) (r [] rfl fun _=>cw rfl (vt []) _ _ (fun w hS=>Dp X v F _ w N u l.q hq kJ hS.now.2.wo hS.ult (fun b h=> .inr (.inl h)) (fun w2 c2=>(hS.vX 0 rfl w2 (c2.mono fun b h=> .inl h)).2) hlen) fun P1 F1=>r [] rfl fun _=>c_ rfl fun w hS=> ?_);exact⟨rfl,u,_,F1,Dn.fin hS hw.ub hw.nu (fun _ h=>⟨h.1.1.1.1,fP h.1.1.1.2 h.2⟩) hw.ok rfl rfl rfl rfl rfl (by rw[yE fh he8]) (by rw[yE fh he8,jY];rfl)⟩
 refine r [0,3] rfl fun _=>l1 rfl (iV (l.q:Int)) (fun w hS=>hS.now.1.1.2.b.at 3 (cF rfl)) (r [] rfl fun _=>l1 rfl (iV l.ep) (fun w hS=>hS.now.1.1.2.b.at 17 (cF rfl)) (r [] rfl fun _=>l1 rfl (iV l.fr) (fun w hS=>hS.now.1.1.2.b.at 1 (cF rfl)) (r [] rfl fun δ=>kp 5 rfl (c0 rfl fun w1 hS=> ?_))));obtain⟨nP,hu2,hu3⟩:=hS.qI;refine(iN X N u.i u.da u.dl.length u.dc u.dl u.sy (fun p=>iO (u.m p)) (u.hn) (u.he) u.wt u.af u.tu u.ct u.ub u.sk (.func 116) #[] #[.pointer (some ⟨R5,0,none⟩),.pointer (some ⟨α 0,0,none⟩),.pointer (some ⟨α 1,0,none⟩)] [⟨4,l.q,l.ep,l.fr,k_⟩] (some ⟨δ 0,0,none⟩) 1 1 _ (hS.at 0 rfl) _ nP hu2 (fun w2 cc=>⟨(hu3 w2 cc).1.1.1.1.row,lL ⟨4,l.q,l.ep,l.fr,k_⟩ (oU (by decide) hq ⟨by omega,by omega⟩ AN pV) (hu3 w2 cc).2⟩) hw.ok.nil hw.ok.cap hw.ok.max hw.ok.len hw.ok.s0 hw.ok.s1 rfl (by decide) (fun r hr=>by rw[List.mem_singleton.1 hr];exact tq (by decide) (by decide) hq ⟨by omega,by omega⟩ AN)).mono ?_;rintro _ w2 ⟨k,rfl,ch,⟨rfl,iF,a2,c2,uU,st2,jo,qL,si⟩|⟨rfl,iF,uU⟩⟩
 ·refine⟨vv (.bool true),_,_,rfl,ch,uU,st2,r [] rfl fun _=>c_ rfl fun w3 hS=> ?_⟩;let u2:Nv:={u with da:=a2,dc:=c2,dl:=u.dl++bP [⟨4,l.q,l.ep,l.fr,k_⟩],af:= .func (.func 116) #[] #[.pointer (some ⟨R5,0,none⟩),.pointer (some ⟨α 0,0,none⟩),.pointer (some ⟨α 1,0,none⟩)],ax:=some (.begin l B8),ad:=⟨R5,α 0,α 1,0,P,a,c,⟨B8,a8,c8,g8⟩⟩};replace hS:=((hS.take 1).add (hS.kept 4 rfl 1 (cF rfl))).add (hS.kept 1 rfl 1 (cF rfl))|>.add (hS.kept 2 rfl 1 (cF rfl))
  replace hS:=hS.congr 0 rfl (lh X u2) (fun i _=>by simp only[u2,lh,List.length_append];rfl);exact⟨rfl,u2,v,F,Dn.fin hS hw.ub hw.nu (fun _ h=>⟨⟨by rw[List.length_append];exact h.1.1.1.2,h.1.1.1.1.1.1.1.1.mo,⟨rfl,h.1.1.2,h.1.2,h.2,h.1.1.1.1.1.1.2,h.1.1.1.1.1.2,rfl⟩,h.1.1.1.1.1.1.1.1.wl⟩,h.1.1.1.1.1.1.1.2⟩) (⟨hw.ok.ok,qL,by rw[List.length_append];exact jo,si,by rw[List.length_append];exact iF,hw.ok.s0,by rw[List.length_append];show u.sy≤_;have:=hw.ok.s1;omega,hw.ok.i5,⟨hq,FY fh⟩⟩) rfl rfl rfl rfl rfl (by rw[BC fh he8 iF]) (by rw[BC fh he8 iF])⟩
 ·refine⟨vv (.bool false),_,fun _=>True,rfl,ch,uU,fun _ _=>trivial,r [] rfl fun _=>c_ rfl fun w hS=> ?_⟩;exact⟨rfl,u,v,F,Dn.fin hS hw.ub hw.nu (fun _ h=>⟨h.1.1.1.1.1,h.1.1.1.1.2⟩) hw.ok rfl rfl rfl rfl rfl (by rw[yF fh he8 iF]) (by rw[yF fh he8 iF])⟩
theorem toNM{U F:tD}{N b:Nat}(h:U b∨F b):b∈[N]∨F b∨(U b∧b≠N):=by
 rcases h with h|h
 ·by_cases e:b=N
  ·exact .inl (e▸List.mem_singleton.2 rfl)
  ·exact .inr (.inr ⟨h,e⟩)
 ·exact .inr (.inl h)
theorem toHM{U F:tD}{N b:Nat}{H:tR}(h:U b∨F b):b∈N::H∨F b∨(U b∧b≠N):=(toNM h).imp (fun h=>by rw[List.mem_singleton.1 h];exact List.mem_cons_self ..) id
theorem nr{B B':Bt}{hv er:Int}(h:aW B hv=(B',er)):B'.Ok:=by
 unfold aW at h;split at h
 ·cases h;exact Bt.cR
 ·rename_i h0;have h1:=Classical.not_not.1 h0;unfold dj at h1;split at h1
  ·cases h1
  ·rename_i ed;have ok:=Classical.not_not.1 ed;split at h1
   ·cases h1
   ·rename_i hr;have hr:=Classical.not_not.1 hr;split at h
    ·cases h;exact ok
    ·rename_i h3;have hs:=ok.cJ;unfold Bt.cC bw at hs;split at h
     ·cases h;refine⟨?_,ok.len,ok.told⟩;rcases hs with k|k|k|k|k
      ·exact absurd k.1 (by omega)
      ·exact absurd k.1 (by omega)
      ·exact .inr (.inr (.inr (.inl ⟨rfl,k.2.1,k.2.2.1,k.2.2.2.1,k.2.2.2.2.1,k.2.2.2.2.2.1,rfl⟩)))
      ·exact absurd k.1 h3
      ·exact absurd k.1 (by omega)
     ·rename_i h4;cases h;refine⟨?_,ok.len,ok.told⟩;rcases hs with k|k|k|k|k
      ·exact absurd k.1 (by omega)
      ·exact absurd k.1 (by omega)
      ·exact .inr (.inr (.inl ⟨k.1,k.2.1,k.2.2.1,k.2.2.2.1,k.2.2.2.2.1,k.2.2.2.2.2.1,by show 0≤B.o+1;omega,by show B.o+1≤4;omega⟩))
      ·exact absurd k.1 h3
      ·exact absurd k.1 (by omega)
section
variable{u:Nv}{v:Wv}{l:Lt}{B8:Bt}{er:Int}
theorem qy(h:¬(u.m l.q).B.t=l.fr∨¬(u.m l.q).B.e+1=l.ep):gJ u.pure v.pure l=(u.pure,v.pure):=by
 unfold gJ;rw[if_pos h]
theorem BD(ht:(u.m l.q).B.t=l.fr)(he:(u.m l.q).B.e+1=l.ep)(h:aW (u.m l.q).B l.pl=(B8,er))(h0:¬er=0):gJ u.pure v.pure l=(u.pure,v.pure):=by
 unfold gJ;rw[if_neg (fun k=>k.elim (fun k=>k ht) fun k=>k he),h,if_pos h0]
theorem yG(ht:(u.m l.q).B.t=l.fr)(he:(u.m l.q).B.e+1=l.ep)(h:aW (u.m l.q).B l.pl=(B8,0))(hr:B8.r=(u.m l.q).B.r):gJ u.pure v.pure l=eP u.pure v.pure (.shut l B8):=by
 unfold gJ;rw[if_neg (fun k=>k.elim (fun k=>k ht) fun k=>k he),h,if_neg (fun h=>h rfl),if_pos hr];rfl
theorem yH(ht:(u.m l.q).B.t=l.fr)(he:(u.m l.q).B.e+1=l.ep)(h:aW (u.m l.q).B l.pl=(B8,0))(hr:¬B8.r=(u.m l.q).B.r)(hf:100000<u.dl.length+(bP [⟨3,l.q,(u.m l.q).B.e,(u.m l.q).B.t,k_⟩]).length):gJ u.pure v.pure l=(u.pure,v.pure):=by
 unfold gJ mO;rw[if_neg (fun k=>k.elim (fun k=>k ht) fun k=>k he),h,if_neg (fun h=>h rfl),if_neg hr,if_neg (Nat.not_le.2 hf)];rfl
theorem BE(ht:(u.m l.q).B.t=l.fr)(he:(u.m l.q).B.e+1=l.ep)(h:aW (u.m l.q).B l.pl=(B8,0))(hr:¬B8.r=(u.m l.q).B.r)(hf:u.dl.length+(bP [⟨3,l.q,(u.m l.q).B.e,(u.m l.q).B.t,k_⟩]).length≤100000):gJ u.pure v.pure l=({u.pure with dl:=u.dl++bP [⟨3,l.q,(u.m l.q).B.e,(u.m l.q).B.t,k_⟩],af:=some (.shut l B8)},v.pure):=by
 unfold gJ mO;rw[if_neg (fun k=>k.elim (fun k=>k ht) fun k=>k he),h,if_neg (fun h=>h rfl),if_neg hr,if_pos hf];rfl
theorem UQ{B:Bt}(h:B.cC):0≤B.t∧B.t≤4:=by
 unfold Bt.cC bw at h;omega
end
theorem QO(X N:Nat)(u:Nv)(v:Wv)(F U:tD)(w:tA)(hw:NW w X N u v F U)(P:Nat)(l:Lt)(a:tB)(c:Nat)(hq:l.q<4)(hl:bR U w fun w=>eu w P l a c)(hlen:v.fl.length≤1000000000000)(ie:v.sv.length≤1000000000000):cA 69 #[lp N,lp P] w fun x w'=>x= .returned (.tuple #[])∧∃u' v' F',Dn w X N u v F U (gJ u.pure v.pure l) u' v' F' w':=by
 have ho:aT (iO (u.m l.q)) 47:=dY (hw.st.now.1.mo l.q hq).one;have gx:=jy (hw.ok.ok l.q hq).cJ;have QP:=UQ (hw.ok.ok l.q hq).cJ;refine en (H:=[nE X N u]) 73 [vp 0 0 N,vv (lp P)] Tryz.func69 rfl rfl (hw.init (G:=fun w=>eu w P l a c) hl) ?_;refine r [3] rfl fun α=>l1 rfl (iV (l.q:Int)) (fun w hS=>hS.now.1.2.b.at 3 (cF rfl)) (r [1] rfl fun _=>lo rfl rfl 0 rfl 47 (iO (u.m l.q)) (fun i hi=>nh hq hi) ?_);refine r [3] rfl fun β=>l1 rfl (iV l.fr) (fun w hS=>hS.now.1.2.b.at 1 (cF rfl)) ?_;by_cases ht:(u.m l.q).B.t=l.fr
 case neg=>exact r [1] rfl fun _=>r [] rfl fun _=>fin fun w hS=>⟨rfl,u,v,F,Dn.fin hS hw.ub hw.nu (fun _ h=>⟨h.1.1,h.1.2⟩) hw.ok rfl rfl rfl rfl rfl (by rw[qy (.inl ht)]) (by rw[qy (.inl ht)])⟩
 refine rz [0,1] [(u.m l.q).B.e+1] rfl fun _=> ?_;refine l1 rfl (iV l.ep) (fun w hS=>hS.now.1.2.b.at 17 (cF rfl)) ?_;by_cases CI:(u.m l.q).B.e+1=l.ep
 case neg=>exact r [1] rfl fun _=>fin fun w hS=>⟨rfl,u,v,F,Dn.fin hS hw.ub hw.nu (fun _ h=>⟨h.1.1,h.1.2⟩) hw.ok rfl rfl rfl rfl rfl (by rw[qy (.inr CI)]) (by rw[qy (.inr CI)])⟩
 refine r [0] rfl fun _=>cut (X:=Nat×Int×L5) (fun x=>[(2,vp 1 0 (α 0)),(3,vp 2 0 (α 1)),(4,vp 3 0 (β 0)),(5,vp 4 0 x.1),(6,vi x.2.1)]) (fun x=>[nE X N u,npE (α 0) 0 N,lpE (α 1) P,mgE (β 0) (u.m l.q),moE x.1 x.2.2.1 x.2.2.2.1 x.2.2.2.2.1 x.2.2.2.2.2]) (fun _ b=>F b∨(U b∧b≠N)) (fun x w=>((u.In w N∧∀r∈v.fl,ni w r)∧eu w P l a c)∧PO x.2.2 w) (fun _=>RW X (fun b=>b∈[N]) F w v F) (fun x=>aW (u.m l.q).B l.pl=(x.2.2.1,x.2.1)) ?_ (r [4] rfl fun _=>l1 rfl (iV l.pl) (fun w hS=>hS.now.1.2.b.at 18 (cF rfl)) ?_)
 case refine_2=>
  repeat' first|refine Cq ?_ ?_|(refine cx (g:=117) rfl (fun y:Int×L5=>vt [Ie y.2,.o (iV y.1)]) (fun y=>aW (u.m l.q).B l.pl=(y.2.1,y.1)∧aT y.2.2.2.2 41) (fun y=>PO y.2) ?_ ?_;exact fun w hS=>(E3 _ (u.m l.q).B (u.m l.q).a (u.m l.q).c (u.m l.q).g l.pl w hS.ult (fun w2 c2=>(hS.g w2 c2).1.1.mo l.q hq) (hw.ok.ok l.q hq)).mono fun _ _ ⟨_,B8,er8,h0,fh,⟨a8,c8,g8,hy,hm8⟩,b⟩=>⟨(er8,B8,a8,c8,g8),by rw[h0,hy];rfl,b,⟨fh,hm8.now.one⟩,fun _=>hm8⟩;rintro⟨er8,B8,a8,c8,g8⟩ ⟨fh,o8⟩)|refine rs [] rfl rfl fun _=> ?_
  all_goals exact bU (_,er8,B8,a8,c8,g8) ⟨rfl,rfl,rfl,rfl,rfl,trivial⟩ (fun w hS=>hS.G_ [0,1,2,3,4] (by decide)) fh Nat.zero_lt_one
 rintro f ⟨R5,er8,B8,a8,c8,g8⟩ fh;have fh:aW (u.m l.q).B l.pl=(B8,er8):=fh;by_cases h0:er8=0
 case neg=>exact r [1] rfl fun _=>fin fun w hS=>⟨rfl,u,v,F,Dn.fin hS hw.ub hw.nu (fun _ h=>⟨h.1.1.1,h.1.1.2⟩) hw.ok rfl rfl rfl rfl rfl (by rw[BD ht CI fh h0]) (by rw[BD ht CI fh h0])⟩
 subst h0;refine r [0] rfl fun _=> ?_;by_cases qH:B8.r=(u.m l.q).B.r
 ·refine r [1] rfl fun _=>ct rfl (vt []) (fun(y:Nv×Wv×(Nat→Prop)) w'=>Dn w X N u v F U (gJ u.pure v.pure l) y.1 y.2.1 y.2.2 w') (fun x hS=> ?_) (fun _ _ _ h b=>h.next b) fun y=>r [] rfl fun _=>fin fun w hS=>⟨rfl,y.1,y.2.1,y.2.2,hS.now.2⟩;have IG:=Dn.fin (r:=(u.pure,v.pure)) (u:=u) (v:=v) (F:=F) hS hw.ub hw.nu (fun _ h=>⟨h.1.1.1,h.1.1.2⟩) hw.ok rfl rfl rfl rfl rfl rfl rfl;have GN:bR (fun b=>U b∨F b) x (fun y=>((((aZ y R5 117 47 (iO ⟨B8,a8,c8,g8⟩))∧aZ y (α 0) 109 1 (fun _=>lp N))∧aZ y (α 1) 171 1 (fun _=>lp P))∧nj y ⟨B8,a8,c8,g8⟩)∧eu y P l a c):=fun w2 c2=>⟨⟨⟨⟨((hS.kept 4 rfl 1 (cF rfl)).mono fun b _ h=>toNM h) w2 c2,((hS.kept 1 rfl 1 (cF rfl)).mono fun b _ h=>toNM h) w2 c2⟩,((hS.kept 2 rfl 1 (cF rfl)).mono fun b _ h=>toNM h) w2 c2⟩,(hS.g w2 (c2.mono fun b h=>toHM h)).2⟩,(hS.g w2 (c2.mono fun b h=>toHM h)).1.2⟩;refine(Bz X N u v F _ x IG.nw ⟨B8,a8,c8,g8⟩ P l a c hq (nr fh) _ _ _ GN hlen ie).mono ?_;rintro _ w7 ⟨rfl,u2,v2,F2,hd2⟩;exact⟨rfl,(u2,v2,F2),(IG.trans hd2).to (by rw[yG ht CI fh qH]) (by rw[yG ht CI fh qH])⟩
 refine r [0,3] rfl fun _=>l1 rfl (iV (l.q:Int)) (fun w hS=>hS.now.1.1.2.b.at 3 (cF rfl)) (r [] rfl fun δ=>kp 5 rfl (c0 rfl fun w1 hS=> ?_));obtain⟨nP,hu2,hu3⟩:=hS.qI;refine(iN X N u.i u.da u.dl.length u.dc u.dl u.sy (fun p=>iO (u.m p)) (u.hn) (u.he) u.wt u.af u.tu u.ct u.ub u.sk (.func 118) #[] #[.pointer (some ⟨R5,0,none⟩),.pointer (some ⟨α 0,0,none⟩),.pointer (some ⟨α 1,0,none⟩)] [⟨3,l.q,(u.m l.q).B.e,(u.m l.q).B.t,k_⟩] (some ⟨δ 0,0,none⟩) 1 1 _ (hS.at 0 rfl) _ nP hu2 (fun w2 cc=>⟨(hu3 w2 cc).1.1.1.1.row,lL ⟨3,l.q,(u.m l.q).B.e,(u.m l.q).B.t,k_⟩ (oU (by decide) hq gx QP pV) (hu3 w2 cc).2⟩) hw.ok.nil hw.ok.cap hw.ok.max hw.ok.len hw.ok.s0 hw.ok.s1 rfl (by decide) (fun r hr=>by rw[List.mem_singleton.1 hr];exact tq (by decide) (by decide) hq gx QP)).mono ?_;rintro _ w2 ⟨k,rfl,ch,⟨rfl,iF,a2,c2,uU,st2,jo,qL,si⟩|⟨rfl,iF,uU⟩⟩
 ·refine⟨vv (.bool true),_,_,rfl,ch,uU,st2,r [] rfl fun _=>c_ rfl fun w3 hS=> ?_⟩;let u2:Nv:={u with da:=a2,dc:=c2,dl:=u.dl++bP [⟨3,l.q,(u.m l.q).B.e,(u.m l.q).B.t,k_⟩],af:= .func (.func 118) #[] #[.pointer (some ⟨R5,0,none⟩),.pointer (some ⟨α 0,0,none⟩),.pointer (some ⟨α 1,0,none⟩)],ax:=some (.shut l B8),ad:=⟨R5,α 0,α 1,0,P,a,c,⟨B8,a8,c8,g8⟩⟩};replace hS:=((hS.take 1).add (hS.kept 4 rfl 1 (cF rfl))).add (hS.kept 1 rfl 1 (cF rfl))|>.add (hS.kept 2 rfl 1 (cF rfl))
  replace hS:=hS.congr 0 rfl (lh X u2) (fun i _=>by simp only[u2,lh,List.length_append];rfl);exact⟨rfl,u2,v,F,Dn.fin hS hw.ub hw.nu (fun _ h=>⟨⟨by rw[List.length_append];exact h.1.1.1.2,h.1.1.1.1.1.1.1.1.mo,⟨rfl,h.1.1.2,h.1.2,h.2,h.1.1.1.1.1.1.2,h.1.1.1.1.1.2,rfl⟩,h.1.1.1.1.1.1.1.1.wl⟩,h.1.1.1.1.1.1.1.2⟩) (⟨hw.ok.ok,qL,by rw[List.length_append];exact jo,si,by rw[List.length_append];exact iF,hw.ok.s0,by rw[List.length_append];show u.sy≤_;have:=hw.ok.s1;omega,hw.ok.i5,⟨hq,nr fh⟩⟩) rfl rfl rfl rfl rfl (by rw[BE ht CI fh qH iF]) (by rw[BE ht CI fh qH iF])⟩
 ·refine⟨vv (.bool false),_,fun _=>True,rfl,ch,uU,fun _ _=>trivial,r [] rfl fun _=>c_ rfl fun w hS=> ?_⟩;exact⟨rfl,u,v,F,Dn.fin hS hw.ub hw.nu (fun _ h=>⟨h.1.1.1.1.1,h.1.1.1.1.2⟩) hw.ok rfl rfl rfl rfl rfl (by rw[yH ht CI fh qH iF]) (by rw[yH ht CI fh qH iF])⟩
theorem FZ{B B':Bt}{v:Ev}{an:An}{er:Int}(h:cO B v B' an true er):v.Ok:=by
 cases h with
 |done h hv=>exact hv
section
variable{u:Nv}{v:Wv}{l:Lt}{B8:Bt}{an:An}{k:Bool}{er:Int}
theorem yI(hr:¬((u.m l.q).B.r=1∨(u.m l.q).B.r=2))(h:dh (u.m l.q).B l.op=(B8,an,k,er)):fO u.pure v.pure l=(u.pure,fM v.pure (lO l.nu an (u.hn l.q) (u.he l.q))):=by
 unfold fO;rw[if_pos hr,h]
theorem yJ(hr:(u.m l.q).B.r=1∨(u.m l.q).B.r=2)(h:dh (u.m l.q).B l.op=(B8,an,false,er)):fO u.pure v.pure l=(u.pure,gM u.pure v.pure l an):=by
 unfold fO;rw[if_neg (fun k=>k hr),h,if_pos rfl]
theorem yK(hr:(u.m l.q).B.r=1∨(u.m l.q).B.r=2)(h:dh (u.m l.q).B l.op=(B8,an,true,er))(hf:100000<u.dl.length+(bP [⟨2,l.q,(u.m l.q).B.e,0,l.op⟩]).length):fO u.pure v.pure l=(u.pure,gM u.pure v.pure l ⟨14,0,0,0⟩):=by
 unfold fO mO;rw[if_neg (fun k=>k hr),h,if_neg (show ¬true=false by decide),if_neg (Nat.not_le.2 hf)]
theorem BF(hr:(u.m l.q).B.r=1∨(u.m l.q).B.r=2)(h:dh (u.m l.q).B l.op=(B8,an,true,er))(hf:u.dl.length+(bP [⟨2,l.q,(u.m l.q).B.e,0,l.op⟩]).length≤100000):fO u.pure v.pure l=({u.pure with dl:=u.dl++bP [⟨2,l.q,(u.m l.q).B.e,0,l.op⟩],af:=some (.serve l an)},v.pure):=by
 unfold fO mO;rw[if_neg (fun k=>k hr),h,if_neg (show ¬true=false by decide),if_pos hf]
end
theorem QQ(X N:Nat)(u:Nv)(v:Wv)(F U:tD)(w:tA)(hw:NW w X N u v F U)(P:Nat)(l:Lt)(a:tB)(c:Nat)(hq:l.q<4)(UL:∀x∈aY l.op,(Lit.int .i64 x).wf=true)(hl:bR U w fun w=>eu w P l a c)(hlen:v.fl.length≤1000000000000)(ie:v.sv.length≤1000000000000):cA 67 #[lp N,lp P] w fun x w'=>x= .returned (.tuple #[])∧∃u' v' F',Dn w X N u v F U (fO u.pure v.pure l) u' v' F' w':=by
 have ho:aT (iO (u.m l.q)) 47:=dY (hw.st.now.1.mo l.q hq).one;have gx:=jy (hw.ok.ok l.q hq).cJ;have lop:∀{w1},eu w1 P l a c→∀j,j<6→w1.cell? ⟨P,5+j,none⟩=some (lF [iV l.op.k,iV l.op.p,iV l.op.i,iV l.op.b,iV l.op.he,iV l.op.hn] j):=fun h j hj=>(h.b.at (5+j) (by omega)).trans (congrArg some (pI rfl hj));refine en (H:=[⟨N,126,[.f 206 (lh X u)]⟩]) 74 [vp 0 0 N,vv (lp P)] Tryz.func67 rfl rfl (hw.init (G:=fun w=>eu w P l a c) hl) ?_;refine r [] rfl fun α=>l1 rfl (iV (l.q:Int)) (fun w hS=>hS.now.1.2.b.at 3 (cF rfl)) ?_;refine r [3,1] rfl fun β=>lo rfl rfl 0 rfl 47 (iO (u.m l.q)) (fun i hi=>nh hq hi) ?_;refine r [] rfl fun γ=> ?_;refine cut (X:=Nat×An×Bool) (fun x=>[(2,vp 1 0 (α 0)),(3,vp 2 0 (α 1)),(4,vp 3 0 (β 0)),(5,vp 4 0 (γ 0)),(7,vp 5 0 x.1),(8,vv (.bool x.2.2))]) (fun x=>[⟨N,126,[.f 206 (lh X u)]⟩,⟨α 0,109,[.p 0 0 N]⟩,⟨α 1,171,[.o (lp P)]⟩,⟨β 0,3,[.o (iV (l.q:Int))]⟩,⟨γ 0,117,[.f 47 (iO (u.m l.q))]⟩,⟨x.1,59,Og x.2.1⟩]) (fun _ b=>F b∨(U b∧b≠N)) (fun _ w=>(u.In w N∧∀r∈v.fl,ni w r)∧eu w P l a c) (fun _=>RW X (fun b=>b∈[N]) F w v F) (fun x=>∃B8 er8,cO (u.m l.q).B l.op B8 x.2.1 x.2.2 er8) ?_ (r [4] rfl fun _=>lf rfl 6 _ (fun w hS=>lop hS.now.1.2) ?_)
 case refine_2=>
  repeat' first|refine Cq ?_ ?_|refine fk3 ?_ ?_ ?_|(refine cq (g:=109) rfl (fun y:(Bt×Option Addr×Nat×(Nat→Value))×An×Bool×Int=>vt [.g (pr y.1.1 y.1.2.1 y.1.2.2.1 y.1.2.2.2),.g (Og y.2.1),.o (.bool y.2.2.1),.o (iV y.2.2.2)]) (fun y=>cO (u.m l.q).B l.op y.1.1 y.2.1 y.2.2.1 y.2.2.2∧aT y.1.2.2.2 41) ?_ ?_;exact fun w hS=>(xZ (fun b=>b∈(hs _).map bQ.a∨F b∨(U b∧b≠N)) (u.m l.q).B (u.m l.q).a (u.m l.q).c (u.m l.q).g l.op w hS.ult (fun w2 c2=>(hS.g w2 c2).1.1.mo l.q hq) (hw.ok.ok l.q hq) UL).mono fun _ _ ⟨_,an,k,er,B8,h0,h1,⟨a8,c8,g8,hy,hm8⟩,b⟩=>⟨((B8,a8,c8,g8),an,k,er),by rw[h0,hy];rfl,b,h1,hm8.now.one⟩;rintro⟨⟨B8,a8,c8,g8⟩,an8,k8,er8⟩ ⟨GU,o8⟩)|refine rs [] rfl rfl fun _=> ?_
  all_goals first|exact bU (_,an8,k8) ⟨rfl,rfl,rfl,rfl,rfl,rfl,trivial⟩ (fun w hS=>hS.G_ [0,1,2,3,4,5] (by decide)) ⟨_,_,GU⟩ Nat.zero_lt_one|exact bU (_,an8,k8) ⟨rfl,rfl,rfl,rfl,rfl,rfl,trivial⟩ (fun w hS=>hS.G_ [0,1,2,3,4,6] (by decide)) ⟨_,_,GU⟩ Nat.zero_lt_one
 rintro f ⟨R7,an8,k8⟩ ⟨B8,er8,GU⟩;have e8:=oS GU;refine r [] rfl fun _=> ?_;by_cases qH:(u.m l.q).B.r=1∨(u.m l.q).B.r=2
 case neg=>
  refine Rv.cb rfl (vv (.bool false)) (fun w _=>(kb _ _ _ _ _ _ _ _ _ w).mono fun _ _ ⟨h,b⟩=>⟨by rw[h,decide_eq_false qH];rfl,b⟩) (r [3,1] rfl fun _=>lo rfl rfl 0 rfl 2 (lF [iV (u.hn l.q),iV (u.he l.q)]) (fun i hi=>aa1 hq hi) (r [] rfl fun _=> ?_));refine cw rfl (vt []) _ _ (fun w hS=>FW X v F _ w N u P l a c an8 (u.hn l.q) (u.he l.q) hS.now.2.wo hS.ult (fun b h=> .inr (.inl h)) (fun w2 c2=>(hS.vX 0 rfl w2 (c2.mono fun b h=> .inl h)).2) (fun w2 c2=>(hS.g w2 c2).2) hlen) fun P1 F1=>r [] rfl fun _=>fin fun w hS=> ?_;exact⟨rfl,u,_,F1,Dn.fin hS hw.ub hw.nu (fun _ h=>⟨h.1.1.1,fP h.1.1.2 h.2⟩) hw.ok rfl rfl rfl rfl rfl (by rw[yI qH e8]) (by rw[yI qH e8];exact jY _ _)⟩
 refine Rv.cb rfl (vv (.bool true)) (fun w _=>(kb _ _ _ _ _ _ _ _ _ w).mono fun _ _ ⟨h,b⟩=>⟨by rw[h,decide_eq_true qH];rfl,b⟩) ?_;cases k8
 ·refine r [] rfl fun _=>cw rfl (vt []) _ _ (fun w hS=>uX X v F _ w N u P l a c an8 hq hS.now.2.wo hS.ult (fun b h=> .inr (.inl h)) (fun w2 c2=>(hS.vX 0 rfl w2 (c2.mono fun b h=> .inl h)).2) (fun w2 c2=>(hS.g w2 c2).2) hlen ie) fun P1 F1=>r [] rfl fun _=>c_ rfl fun w hS=> ?_;exact⟨rfl,u,_,F1,Dn.fin hS hw.ub hw.nu (fun _ h=>⟨h.1.1.1,fP h.1.1.2 h.2⟩) hw.ok rfl rfl rfl rfl rfl (by rw[yJ qH e8]) (by rw[yJ qH e8];exact yC _ _ _)⟩
 refine r [3] rfl fun _=>lf rfl 6 _ (fun w hS=>lop hS.now.1.2) (r [] rfl fun δ=> ?_);refine kp 6 rfl (c0 rfl fun w1 hS=> ?_);obtain⟨nP,hu2,hu3⟩:=hS.qI;refine(iN X N u.i u.da u.dl.length u.dc u.dl u.sy (fun p=>iO (u.m p)) (u.hn) (u.he) u.wt u.af u.tu u.ct u.ub u.sk (.func 112) #[] #[.pointer (some ⟨α 0,0,none⟩),.pointer (some ⟨β 0,0,none⟩),.pointer (some ⟨α 1,0,none⟩),.pointer (some ⟨R7,0,none⟩)] [⟨2,l.q,(u.m l.q).B.e,0,l.op⟩] (some ⟨δ 0,0,none⟩) 1 1 _ (hS.at 0 rfl) _ nP hu2 (fun w2 cc=>⟨(hu3 w2 cc).1.1.1.row,lL ⟨2,l.q,(u.m l.q).B.e,0,l.op⟩ (oU (by decide) hq gx (by decide) UL) (hu3 w2 cc).2⟩) hw.ok.nil hw.ok.cap hw.ok.max hw.ok.len hw.ok.s0 hw.ok.s1 rfl (by decide) (fun r hr=>by rw[List.mem_singleton.1 hr];exact QJ (.inl rfl) hq gx (FZ GU))).mono ?_;rintro _ w2 ⟨k,rfl,ch,⟨rfl,iF,a2,c2,uU,st2,jo,qL,si⟩|⟨rfl,iF,uU⟩⟩
 ·refine⟨vv (.bool true),_,_,rfl,ch,uU,st2,r [] rfl fun _=>c_ rfl fun w3 hS=> ?_⟩;let u':Nv:={u with da:=a2,dc:=c2,dl:=u.dl++bP [⟨2,l.q,(u.m l.q).B.e,0,l.op⟩],af:= .func (.func 112) #[] #[.pointer (some ⟨α 0,0,none⟩),.pointer (some ⟨β 0,0,none⟩),.pointer (some ⟨α 1,0,none⟩),.pointer (some ⟨R7,0,none⟩)],ax:=some (.serve l an8),ad:=⟨α 0,β 0,α 1,R7,P,a,c,u.m 0⟩};replace hS:=((((hS.take 1).add (hS.kept 1 rfl 1 (cF rfl))).add (hS.kept 3 rfl 1 (cF rfl))).add (hS.kept 2 rfl 1 (cF rfl))).add (hS.kept 5 rfl 1 (cF rfl));replace hS:=hS.congr 0 rfl (lh X u') (fun i _=>by simp only[u',lh,List.length_append];rfl);exact⟨rfl,u',v,F,Dn.fin hS hw.ub hw.nu (fun _ h=>⟨⟨by rw[List.length_append];exact h.1.1.1.1.2,h.1.1.1.1.1.1.1.1.mo,⟨rfl,h.1.1.1.2,h.1.1.2,h.1.2,h.2,h.1.1.1.1.1.1.2⟩,h.1.1.1.1.1.1.1.1.wl⟩,h.1.1.1.1.1.1.1.2⟩) (⟨hw.ok.ok,qL,by rw[List.length_append];exact jo,si,by rw[List.length_append];exact iF,hw.ok.s0,by rw[List.length_append];show u.sy≤_;have:=hw.ok.s1;omega,hw.ok.i5,⟨hq,UL⟩⟩) rfl rfl rfl rfl rfl (by rw[BF qH e8 iF]) (by rw[BF qH e8 iF])⟩
 ·refine⟨vv (.bool false),_,fun _=>True,rfl,ch,uU,fun _ _=>trivial,r [] rfl fun _=>cw rfl (vt []) _ _ (fun w hS=>uX X v F _ w N u P l a c ⟨14,0,0,0⟩ hq hS.now.2.wo hS.ult (fun b h=> .inr (.inl h)) (fun w2 c2=>(hS.vX 0 rfl w2 (c2.mono fun b h=> .inl h)).2) (fun w2 c2=>(hS.g w2 c2).1.1.2) hlen ie) fun P1 F1=>r [] rfl fun _=>c_ rfl fun w hS=> ?_⟩;exact⟨rfl,u,_,F1,Dn.fin hS hw.ub hw.nu (fun _ h=>⟨h.1.1.1.1.1,fP h.1.1.1.1.2 h.2⟩) hw.ok rfl rfl rfl rfl rfl (by rw[yK qH e8 iF]) (by rw[yK qH e8 iF];exact yC _ _ _)⟩
end
section
variable{P:tS}{ops:tL}{Q:tH}{V:tR}{fx fl:tR}{n:Nat}{f:tC}{w:tA}{i:Nat}{t:Ord}{o:Oper}{d:Nat}{H:List bQ}{M:tD}{G R:tI}
theorem aa5{s s':Nat}{x y:tP}{a b c:Int}(hb:¬b=0)(hc:a.tmod b=c)(ho:ops[i]? =some o)(hd:o.dst=some d)(hw:Region.wanted o (yielded ops (kn n f))=true)(hK:iU n ops=true)(hp:o.op= .binOp .rem s x y s')(hx:ev f x=iV a)(hy:ev f y=iV b)(h:WF P ops Q V fx fl t n (up f d (iV c)) w):WF P ops Q V fx fl (.pu i t) n f w:=
 AG ho hd hw hK (fun w'=>by subst hc;simp[execOp,hp,hx,hy,eqGuard,binOp,Op.intDiv,hb]) h
end
def eW(n:Nd)(q:Nat):List Lt:=
 if(n.mo q).r=2 then[FR n.i (n.mo q) q]else if(n.mo q).r=3 then[FR n.i (n.mo q) q,QA n.i q]else if(n.mo q).r=1∧1<(n.mo q).e∧n.he q<(n.mo q).e then[IJ n.i (n.mo q) q]else[]
def ee:Nat→Nd→Ws→Nd×Ws
 |0,n,s=>(n,s)
 |k+1,n,s=>if(eW n n.tu).length=0 then ee k {n with tu:=(n.tu+1) % 4} s else({n with tu:=(n.tu+1) % 4},{s with fl:=s.fl++eW n n.tu})
structure uY(w:tA)(R:Nat)(ls:List Lt):Prop where
 cell:∀k l,ls[k]? =some l→∀j,j<21→w.cell? ⟨R,k*21+j,none⟩=some (lF (Kt l none 0) j)
theorem uY.one{w:tA}{R:Nat}{l:Lt}(h:aZ w R 170 21 (lF (Kt l none 0))):uY w R [l]:=⟨fun k l' hk j hj=>by
 obtain⟨UI,rfl⟩:=List.getElem?_eq_some_iff.1 hk;have:k=0:=by simpa using UI
 subst this;rw[Nat.zero_mul,Nat.zero_add]
 exact h.at j hj⟩
theorem uY.two{w:tA}{R:Nat}{l l':Lt}(h:aZ w R 170 42 (lF (Kt l none 0++Kt l' none 0))):uY w R [l,l']:=⟨fun k x hk j hj=>by
 match k,hk with
 |0,hk=>
  cases hk;rw[Nat.zero_mul,h.at (0+j) (by omega)];exact congrArg some (pI (q:=0) (m:=21) rfl hj)
 |1,hk=>
  cases hk;rw[Nat.one_mul,h.at (21+j) (by omega)]
  exact congrArg some (pI (q:=21) (m:=21) rfl hj)⟩
end Go.Proofs.YtmhifeahpnkpiaaGreatDoor
