/- Out of my texts: RlE, RlG, RlH, RlJ, RlK, QaG, BeJ, RlL, HsN, HsQ, CuA, CuB, CuC, CuD, CuE, CuF, CuG, CuH, CuI, CuJ, CuK, CuL, CuM, CuN, CuO, CuP, CuQ, CuS, CuU, CwA, CwB, RvW, CwP, RvX, RvO, RvU, CwC, CwD, CwE, CwF, CwG, BeK, CwH, CwI, CwJ, CwK, CwL, CwM, CwN, CwO, CwQ. -/
import Derived.Deep.DeepCutAuto
import Derived.Deep.RegionHeld3
import Derived.Test.YtmhifeahpnkpiaaGreatDoorUAA
import Derived.Test.YtmhifeahpnkpiaaGreatDoorUAB
import Derived.Test.YtmhifeahpnkpiaaGreatDoorUAC
set_option maxRecDepth 20000
set_option maxHeartbeats 8000000
set_option linter.unusedVariables false
namespace Go.Proofs.YtmhifeahpnkpiaaGreatDoor
open Go.RowKit
abbrev AO:= @Int.toNat_natCast
abbrev BA:= @Nat.min_eq_left
abbrev BO:= @List.length_singleton
abbrev BP:= @Array.getElem?_toList
theorem fK.parts{w w':tA}{base:Nat}{ox:tK}{x:Ending}{o:Option Bt}(h:fK w w' base ox x o):∃a c,x= .returned (.tuple #[bR (gg o).r (gg o).e (gg o).f (gg o).t (gg o).o a (gg o).es.length c,.bool o.isSome])∧w'.ownsRow base 55 6 (.slice a (gg o).es.length c) (gg o).es.length ((ai (gg o).es).map (Value.int .i64))∧(o=none→a=none∧c=0)∧A4 w ox (.slice a (gg o).es.length c)∧(o.isSome=true→(gg o).es.length<yE ox→bZ w w'):=by
 cases o with
 |none=>exact⟨none,0,h,Bn _ _ _ _,fun _=>⟨rfl,rfl⟩,(fun g hg=>by cases hg),fun h=>by cases h⟩
 |some D=>obtain⟨a,c,h1,h2,h3,h4⟩:=h;exact⟨a,c,h1,h2,(fun h=>by cases h),h3,fun _=>h4⟩
theorem fK.of{w w':tA}{base:Nat}{ox:tK}{o:Option Bt}{a:tB}{c:Nat}(h:w'.ownsRow base 55 6 (.slice a (gg o).es.length c) (gg o).es.length ((ai (gg o).es).map (Value.int .i64)))(hn:o=none→a=none∧c=0)(hl:A4 w ox (.slice a (gg o).es.length c))(hb:o.isSome=true→(gg o).es.length<yE ox→bZ w w'):fK w w' base ox (.returned (.tuple #[bR (gg o).r (gg o).e (gg o).f (gg o).t (gg o).o a (gg o).es.length c,.bool o.isSome])) o:=by
 cases o with
 |none=>obtain⟨rfl,rfl⟩:=hn rfl;rfl
 |some D=>exact⟨a,c,rfl,h,hl,hb rfl⟩
theorem DU(B:Bt)(base:Nat)(a:tB)(c:Nat)(r:Rec)(w:tA)(P Q N:Nat)(role:Int)(o:Option Bt)(hP:w.cell? ⟨P,0,none⟩=some (iV role))(hQ:w.cell? ⟨Q,0,none⟩=some (.func (.func N) #[] #[]))(hr:∀k,(Value.slice a B.es.length c).ownBlock=some k→k<w.heap.size)
  (Yj:∀args w,(callFunc N args).run Tryz.prog w= .ok (.enter N args) w)
  (HN:∀W,bZ w W→cA N #[bR B.r B.e B.f B.t B.o a B.es.length c,mj r] W fun x w'=>fK W w' base (.slice a B.es.length c) x o∧W.grownBy w' (Value.slice a B.es.length c).ownBlock):
  cA 239 #[bR B.r B.e B.f B.t B.o a B.es.length c,mj r,.pointer (some ⟨P,0,none⟩),.pointer (some ⟨Q,0,none⟩)] w fun x w'=>fK w w' base (.slice a B.es.length c) x (Kz B r role o)∧w.grownBy w' (Value.slice a B.es.length c).ownBlock:=by
 have lP:=Co w _ hP;have lQ:=Co w _ hQ;have HNV:=ah HN;have HR:=ah hr;clear HN hr;go_enter Tryz.func239,Tryz.ntmps239
 go_upto_region 1 with fail
 obtain⟨W1,hW1,M1⟩:=Mr.made w B a c r;rw[←hW1];clear hW1;have p1:W1.cell? ⟨P,0,none⟩=some (iV role):=(M1.cP.cell (p:=⟨P,0,none⟩) lP).trans hP;have q1:W1.cell? ⟨Q,0,none⟩=some (.func (.func N) #[] #[]):=(M1.cP.cell (p:=⟨Q,0,none⟩) lQ).trans hQ;obtain⟨x0,x1,x2,x3,x4,x5⟩:=M1.b.cells;obtain⟨r0,r1,r2,r3,r4,r5,r6,r7,r8,r9⟩:=M1.rc.cells;have HM:=ah M1;clear M1 hP hQ lP lQ;by_cases h:B.r=role∧B.e=r.e
 case neg=>
  have hd:Kz B r role o=none:=if_neg h;have HD:=ah hd;obtain⟨z0,z1,z2,z3,z4,z5⟩:=(aa HM).z.cells;have zf:=(aa HM).z.free;have e0:(B.r !=role)=true∨((B.r !=role)=false∧(B.e !=r.e)=true):=by
   by_cases h1:B.r=role
   ·exact .inr ⟨by simp[h1],by simp;exact fun h2=>h ⟨h1,h2⟩⟩
   ·exact .inl (by simp[h1])
  clear h hd;rcases e0 with e1|⟨e1,e2⟩
  all_goals
   go_wp2;obtain⟨W4,hW4,d4,b4,_⟩:=dA (aa HM).z (aa HM).cP (show w.heap.size≤w.heap.size+2 by omega) 0 0 0 0 0 none 0 0;rw[←hW4];refine Al (Mw d4 rfl rfl) rfl ⟨?_,eI _ b4⟩;rw[aa HD];exact rfl
 case pos=>
 have hd:Kz B r role o=o:=if_pos h;have HD:=ah hd;have e1:(B.r !=role)=false:=by simp[h.1]
 have e2:(B.e !=r.e)=false:=by simp[h.2]
 clear h hd
 go_wp2_with (go_at_fn N;refine(aa HNV _ (aa HM).cP).mono ?_;rintro x W3 ⟨d3,g3⟩;obtain⟨a3,c3,rfl,i3,n3,l3,f3⟩:=d3.parts;have VZ:=ah l3;have HF3:=ah f3;have zb:=(aa HM).grown g3 (aa HR);have zf:=zb.free;obtain⟨z0,z1,z2,z3,z4,z5⟩:=zb.cells;have HZ:=ah zb;have HI:=ah i3;have VX:=ah n3;have V6:=ah (kD (eI _ (aa HM).cP) g3);clear d3 g3 zb i3 n3 l3 f3 x0 x1 x2 x3 x4 x5 r0 r1 r2 r3 r4 r5 r6 r7 r8 r9 p1 q1)
 obtain⟨W4,hW4,d4,_,t4⟩:=dA (aa HZ) (Be _ _) (Aa _) (gg o).r (gg o).e (gg o).f (gg o).t (gg o).o a3 (gg o).es.length c3;rw[←hW4];refine Al (Mw d4 rfl rfl) rfl ⟨?_,iv (aa V6) t4 (by omega)⟩;rw[aa HD];exact fK.of (t4.owns (aa HI) (aT (aa HI) (aa HZ) (by decide))) (aa VX) ((aa VZ).lower (aa HM).cP.size) (fun h1 h2=>t4.under (Below.next (aa HM).cP (aa HF3 h1 h2)) (by omega))
theorem FB(B:Bt)(base:Nat)(a:tB)(c:Nat)(r:Rec)(w:tA)(Q N:Nat)(o:Option Bt)(hQ:w.cell? ⟨Q,0,none⟩=some (.func (.func N) #[] #[]))(hr:∀k,(Value.slice a B.es.length c).ownBlock=some k→k<w.heap.size)
  (Yj:∀args w,(callFunc N args).run Tryz.prog w= .ok (.enter N args) w)
  (HN:∀W,bZ w W→cA N #[bR B.r B.e B.f B.t B.o a B.es.length c,mj r] W fun x w'=>fK W w' base (.slice a B.es.length c) x o∧W.grownBy w' (Value.slice a B.es.length c).ownBlock):
  cA 238 #[bR B.r B.e B.f B.t B.o a B.es.length c,mj r,.pointer (some ⟨Q,0,none⟩)] w fun x w'=>fK w w' base (.slice a B.es.length c) x (gQ r o)∧w.grownBy w' (Value.slice a B.es.length c).ownBlock:=by
 have lQ:=Co w _ hQ;have HNV:=ah HN;have HR:=ah hr;clear HN hr;go_enter Tryz.func238,Tryz.ntmps238
 go_upto_region 1 with fail
 obtain⟨W1,hW1,M1⟩:=Mr.made w B a c r;rw[←hW1];clear hW1;have q1:W1.cell? ⟨Q,0,none⟩=some (.func (.func N) #[] #[]):=(M1.cP.cell (p:=⟨Q,0,none⟩) lQ).trans hQ;obtain⟨x0,x1,x2,x3,x4,x5⟩:=M1.b.cells;obtain⟨r0,r1,r2,r3,r4,r5,r6,r7,r8,r9⟩:=M1.rc.cells;have HM:=ah M1;clear M1 hQ lQ;by_cases h:r.p=0
 case neg=>
  have hd:gQ r o=none:=if_neg h;have HD:=ah hd;obtain⟨z0,z1,z2,z3,z4,z5⟩:=(aa HM).z.cells;have zf:=(aa HM).z.free;have e1:(r.p !=0)=true:=by simp[h]
  clear h hd;go_wp2;obtain⟨W4,hW4,d4,b4,_⟩:=dA (aa HM).z (aa HM).cP (show w.heap.size≤w.heap.size+2 by omega) 0 0 0 0 0 none 0 0;rw[←hW4];refine Al (oW d4 rfl rfl) rfl ⟨?_,eI _ b4⟩;rw[aa HD];exact rfl
 case pos=>
 have hd:gQ r o=o:=if_pos h;have HD:=ah hd;have e1:(r.p !=0)=false:=by simp[h]
 clear h hd
 go_wp2_with (go_at_fn N;refine(aa HNV _ (aa HM).cP).mono ?_;rintro x W3 ⟨d3,g3⟩;obtain⟨a3,c3,rfl,i3,n3,l3,f3⟩:=d3.parts;have VZ:=ah l3;have HF3:=ah f3;have zb:=(aa HM).grown g3 (aa HR);have zf:=zb.free;obtain⟨z0,z1,z2,z3,z4,z5⟩:=zb.cells;have HZ:=ah zb;have HI:=ah i3;have VX:=ah n3;have V6:=ah (kD (eI _ (aa HM).cP) g3);clear d3 g3 zb i3 n3 l3 f3 x0 x1 x2 x3 x4 x5 r0 r1 r2 r3 r4 r5 r6 r7 r8 r9 q1)
 obtain⟨W4,hW4,d4,_,t4⟩:=dA (aa HZ) (Be _ _) (Aa _) (gg o).r (gg o).e (gg o).f (gg o).t (gg o).o a3 (gg o).es.length c3;rw[←hW4];refine Al (oW d4 rfl rfl) rfl ⟨?_,iv (aa V6) t4 (by omega)⟩;rw[aa HD];exact fK.of (t4.owns (aa HI) (aT (aa HI) (aa HZ) (by decide))) (aa VX) ((aa VZ).lower (aa HM).cP.size) (fun h1 h2=>t4.under (Below.next (aa HM).cP (aa HF3 h1 h2)) (by omega))
theorem KD(B:Bt)(base:Nat)(a:tB)(c:Nat)(r:Rec)(w:tA)(Q N P1 P2:Nat)(o:Option Bt)(hQ:w.cell? ⟨Q,0,none⟩=some (.func (.func N) #[] #[.pointer (some ⟨P1,0,none⟩),.pointer (some ⟨P2,0,none⟩)]))(hr:∀k,(Value.slice a B.es.length c).ownBlock=some k→k<w.heap.size)
  (Yj:∀args w,(callFunc N args).run Tryz.prog w= .ok (.enter N args) w)
  (HN:∀W,bZ w W→cA N #[bR B.r B.e B.f B.t B.o a B.es.length c,mj r,.pointer (some ⟨P1,0,none⟩),.pointer (some ⟨P2,0,none⟩)] W fun x w'=>fK W w' base (.slice a B.es.length c) x o∧W.grownBy w' (Value.slice a B.es.length c).ownBlock):
  cA 238 #[bR B.r B.e B.f B.t B.o a B.es.length c,mj r,.pointer (some ⟨Q,0,none⟩)] w fun x w'=>fK w w' base (.slice a B.es.length c) x (gQ r o)∧w.grownBy w' (Value.slice a B.es.length c).ownBlock:=by
 have lQ:=Co w _ hQ;have HNV:=ah HN;have HR:=ah hr;clear HN hr;go_enter Tryz.func238,Tryz.ntmps238
 go_upto_region 1 with fail
 obtain⟨W1,hW1,M1⟩:=Mr.made w B a c r;rw[←hW1];clear hW1;have q1:W1.cell? ⟨Q,0,none⟩=some (.func (.func N) #[] #[.pointer (some ⟨P1,0,none⟩),.pointer (some ⟨P2,0,none⟩)]):=(M1.cP.cell (p:=⟨Q,0,none⟩) lQ).trans hQ;obtain⟨x0,x1,x2,x3,x4,x5⟩:=M1.b.cells;obtain⟨r0,r1,r2,r3,r4,r5,r6,r7,r8,r9⟩:=M1.rc.cells;have HM:=ah M1;clear M1 hQ lQ;by_cases h:r.p=0
 case neg=>
  have hd:gQ r o=none:=if_neg h;have HD:=ah hd;obtain⟨z0,z1,z2,z3,z4,z5⟩:=(aa HM).z.cells;have zf:=(aa HM).z.free;have e1:(r.p !=0)=true:=by simp[h]
  clear h hd;go_wp2;obtain⟨W4,hW4,d4,b4,_⟩:=dA (aa HM).z (aa HM).cP (show w.heap.size≤w.heap.size+2 by omega) 0 0 0 0 0 none 0 0;rw[←hW4];refine Al (oW d4 rfl rfl) rfl ⟨?_,eI _ b4⟩;rw[aa HD];exact rfl
 case pos=>
 have hd:gQ r o=o:=if_pos h;have HD:=ah hd;have e1:(r.p !=0)=false:=by simp[h]
 clear h hd
 go_wp2_with (go_at_fn N;refine(aa HNV _ (aa HM).cP).mono ?_;rintro x W3 ⟨d3,g3⟩;obtain⟨a3,c3,rfl,i3,n3,l3,f3⟩:=d3.parts;have VZ:=ah l3;have HF3:=ah f3;have zb:=(aa HM).grown g3 (aa HR);have zf:=zb.free;obtain⟨z0,z1,z2,z3,z4,z5⟩:=zb.cells;have HZ:=ah zb;have HI:=ah i3;have VX:=ah n3;have V6:=ah (kD (eI _ (aa HM).cP) g3);clear d3 g3 zb i3 n3 l3 f3 x0 x1 x2 x3 x4 x5 r0 r1 r2 r3 r4 r5 r6 r7 r8 r9 q1)
 obtain⟨W4,hW4,d4,_,t4⟩:=dA (aa HZ) (Be _ _) (Aa _) (gg o).r (gg o).e (gg o).f (gg o).t (gg o).o a3 (gg o).es.length c3;rw[←hW4];refine Al (oW d4 rfl rfl) rfl ⟨?_,iv (aa V6) t4 (by omega)⟩;rw[aa HD];exact fK.of (t4.owns (aa HI) (aT (aa HI) (aa HZ) (by decide))) (aa VX) ((aa VZ).lower (aa HM).cP.size) (fun h1 h2=>t4.under (Below.next (aa HM).cP (aa HF3 h1 h2)) (by omega))
def DV(w:tA)(base:Nat)(v:tK)(B:Bt)(a:tB)(c:Nat)(r:Rec)(o:Option Bt):Prop:=∃g cap,v= .func (.func g) #[] cap∧(∀args w,(callFunc g args).run Tryz.prog w= .ok (.enter g args) w)∧
 ∀W,bZ w W→cA g (#[bR B.r B.e B.f B.t B.o a B.es.length c,mj r]++cap) W fun x w'=>fK W w' base (.slice a B.es.length c) x o∧W.grownBy w' (Value.slice a B.es.length c).ownBlock
def ml(w:tA)(base:Nat)(N:Nat)(B:Bt)(a:tB)(c:Nat)(r:Rec)(o:Option Bt):Prop:=(∀args w,(callFunc N args).run Tryz.prog w= .ok (.enter N args) w)∧
 ∀W,bZ w W→cA N #[bR B.r B.e B.f B.t B.o a B.es.length c,mj r] W fun x w'=>fK W w' base (.slice a B.es.length c) x o∧W.grownBy w' (Value.slice a B.es.length c).ownBlock
section
variable{w:tA}{B:Bt}{a:tB}{c base:Nat}{r:Rec}
theorem A7(hb:base≤w.heap.size):ml w base 217 B a c r (iR B r):=
 ⟨enters_of Tryz.func217 (by kernel_rfl) rfl,fun W b=>(Ic B a c r W).mono fun x w' ⟨h1,h2⟩=>⟨fK.fresh h1 (AN hb b.size) h2,eI _ h2⟩⟩
theorem A9(hb:base≤w.heap.size):ml w base 223 B a c r (some (wV B)):=
 ⟨enters_of Tryz.func223 (by kernel_rfl) rfl,fun W b=>(Ie B a c r W).mono fun x w' ⟨h1,h2⟩=>⟨fK.fresh h1 (AN hb b.size) h2,eI _ h2⟩⟩
theorem yH(bM:w.ownsRow base 55 6 (.slice a B.es.length c) B.es.length ((ai B.es).map (Value.int .i64)))(hb:base≤w.heap.size)(hs:(B.es.length+1)*48≤140737488355328):ml w base 219 B a c r (some (B.more [r.v])):=
 ⟨enters_of Tryz.func219 (by kernel_rfl) rfl,fun W b=>Si B a c r W base (mL bM b) (AN hb b.size) hs⟩
theorem wB(bM:w.ownsRow base 55 6 (.slice a B.es.length c) B.es.length ((ai B.es).map (Value.int .i64)))(hb:base≤w.heap.size)(hs:(B.es.length+1)*48≤140737488355328):ml w base 222 B a c r (some ⟨1,B.e,0,B.t,B.o,B.es++[Ev.brk]⟩):=
 ⟨enters_of Tryz.func222 (by kernel_rfl) rfl,fun W b=>A6 B a c r W base (mL bM b) (AN hb b.size) hs⟩
theorem Il(bM:w.ownsRow base 55 6 (.slice a B.es.length c) B.es.length ((ai B.es).map (Value.int .i64))):ml w base 220 B a c r (some ⟨3,B.e,B.f,r.p,B.o,B.es⟩):=
 ⟨enters_of Tryz.func220 (by kernel_rfl) rfl,fun W b=>OS B a c r W base (mL bM b)⟩
theorem FC(bM:w.ownsRow base 55 6 (.slice a B.es.length c) B.es.length ((ai B.es).map (Value.int .i64)))(hs:B.cH):ml w base 221 B a c r (ka B r):=
 ⟨enters_of Tryz.func221 (by kernel_rfl) rfl,fun W b=>(Ky B a c r W base (mL bM b) hs).mono fun x w' ⟨h1,h2⟩=>⟨h1,eI _ h2⟩⟩
theorem ml.afs{N:Nat}{o:Option Bt}(h:ml w base N B a c r o):DV w base (.func (.func N) #[] #[]) B a c r o:=⟨N,#[],rfl,h.1,h.2⟩
theorem Sj{v:tK}{N:Nat}{o:Option Bt}(hv:OO w v N)(h:ml w base N B a c r o)(hr:∀k,(Value.slice a B.es.length c).ownBlock=some k→k<w.heap.size):DV w base v B a c r (gQ r o):=by
 obtain⟨Q,rfl,hq⟩:=hv;exact⟨_,_,rfl,enters_of Tryz.func238 (by kernel_rfl) rfl,fun W b=>FB B base a c r W Q N o (aH b _ _ hq) (fun k hk=>Aj (hr k hk) b.size) h.1 (fun W' b'=>h.2 W' (kc b b'))⟩
theorem Sk{v:tK}{N:Nat}{role:Int}{o:Option Bt}(hv:A5 w v role N)(h:ml w base N B a c r o)(hr:∀k,(Value.slice a B.es.length c).ownBlock=some k→k<w.heap.size):DV w base v B a c r (Kz B r role o):=by
 obtain⟨P,Q,rfl,hp,hq⟩:=hv;exact⟨_,_,rfl,enters_of Tryz.func239 (by kernel_rfl) rfl,fun W b=>DU B base a c r W P Q N role o (aH b _ _ hp) (aH b _ _ hq) (fun k hk=>Aj (hr k hk) b.size) h.1 (fun W' b'=>h.2 W' (kc b b'))⟩
theorem tt{v:tK}{N:Nat}{role:Int}{o:Option Bt}(hv:Fz w v role N)(h:ml w base N B a c r o)(hr:∀k,(Value.slice a B.es.length c).ownBlock=some k→k<w.heap.size):DV w base v B a c r (gQ r (Kz B r role o)):=by
 obtain⟨Q,u,rfl,hq,P1,P2,rfl,hp1,hp2⟩:=hv
 exact⟨_,_,rfl,enters_of Tryz.func238 (by kernel_rfl) rfl,fun W b=>KD B base a c r W Q 239 P1 P2 _ (aH b _ _ hq) (fun k hk=>Aj (hr k hk) b.size) (enters_of Tryz.func239 (by kernel_rfl) rfl)
  (fun W' b'=>DU B base a c r W' P1 P2 N role o (aH (kc b b') _ _ hp1) (aH (kc b b') _ _ hp2) (fun k hk=>Aj (hr k hk) (kc b b').size) h.1 (fun Yw b''=>h.2 Yw (kc (kc b b') b'')))⟩
theorem Table.acj{M:Nat}{v1 v2 v3 v5 v6 v7:tK}(t:Table w M v1 v2 v3 v5 v6 v7)(bM:w.ownsRow base 55 6 (.slice a B.es.length c) B.es.length ((ai B.es).map (Value.int .i64)))(hb:base≤w.heap.size)(hs:B.cH)(hlen:(B.es.length+1)*48≤140737488355328)(hk:r.k=1∨r.k=2∨r.k=3∨r.k=4∨r.k=5∨r.k=6∨r.k=7):
  ∃v,(Instr.lookup 273 (.map (some M)) (iV r.k) false).run Tryz.prog w= .ok v w∧DV w base v B a c r (fX B r):=by
 obtain⟨l1,l2,l3,l4,l5,l6,l7⟩:=se t;have hr:∀k,(Value.slice a B.es.length c).ownBlock=some k→k<w.heap.size:=fun k hk=>(bM.lt k hk).2;rcases hk with e|e|e|e|e|e|e<;>rw[e]
 ·refine⟨_,l1, ?_⟩;have:fX B r=gQ r (iR B r):=by unfold fX;rw[if_neg (by omega)];unfold cS gQ iR;rw[if_pos e];by_cases g:r.p=0<;>simp[g]
  rw[this];exact Sj t.d1 (A7 hb) hr
 ·refine⟨_,l2, ?_⟩;have:fX B r=gQ r (Kz B r 1 (some (B.more [r.v]))):=by unfold fX;rw[if_neg (by omega)];unfold cS gQ Kz;rw[if_neg (by omega),if_pos e];by_cases g:r.p=0<;>by_cases g1:B.e=r.e<;>by_cases g2:B.r=1<;>simp[g,g1,g2]
  rw[this];exact tt t.d2 (yH bM hb hlen) hr
 ·refine⟨_,l3, ?_⟩;have:fX B r=Kz B r 1 (some ⟨3,B.e,B.f,r.p,B.o,B.es⟩):=by unfold fX;rw[if_neg (by omega)];unfold cS Kz;rw[if_neg (by omega),if_neg (by omega),if_pos e];by_cases g1:B.e=r.e<;>by_cases g2:B.r=1<;>simp[g1,g2]
  rw[this];exact Sk t.d3 (Il bM) hr
 ·refine⟨_,l4, ?_⟩;have:fX B r=ka B r:=by unfold fX;rw[if_pos e]
  rw[this];exact(FC bM hs).afs
 ·refine⟨_,l5, ?_⟩;have:fX B r=gQ r (Kz B r 4 (some (B.more [r.v]))):=by unfold fX;rw[if_neg (by omega)];unfold cS gQ Kz;rw[if_neg (by omega),if_neg (by omega),if_neg (by omega),if_neg (by omega),if_pos e];by_cases g:r.p=0<;>by_cases g1:B.e=r.e<;>by_cases g2:B.r=4<;>simp[g,g1,g2]
  rw[this];exact tt t.d5 (yH bM hb hlen) hr
 ·refine⟨_,l6, ?_⟩;have:fX B r=gQ r (Kz B r 4 (some ⟨1,B.e,0,B.t,B.o,B.es++[Ev.brk]⟩)):=by unfold fX;rw[if_neg (by omega)];unfold cS gQ Kz;rw[if_neg (by omega),if_neg (by omega),if_neg (by omega),if_neg (by omega),if_neg (by omega),if_pos e];by_cases g:r.p=0<;>by_cases g1:B.e=r.e<;>by_cases g2:B.r=4<;>simp[g,g1,g2]
  rw[this];exact tt t.d6 (wB bM hb hlen) hr
 ·refine⟨_,l7, ?_⟩;have:fX B r=gQ r (Kz B r 3 (some (wV B))):=by unfold fX;rw[if_neg (by omega)];unfold cS gQ Kz wV;rw[if_neg (by omega),if_neg (by omega),if_neg (by omega),if_neg (by omega),if_neg (by omega),if_neg (by omega)];by_cases g:r.p=0<;>by_cases g1:B.e=r.e<;>by_cases g2:B.r=3<;>simp[g,g1,g2]
  rw[this];exact tt t.d7 (A9 hb) hr
end
theorem KE(g R n p:Nat)(w:tA)(hn:n≤1000000000000000)(hp:p≤n)
  (Yj:∀args w,(callFunc g args).run Tryz.prog w= .ok (.enter g args) w)
  (HF:∀(h:Nat) (W:tA),h<n→bZ w W→cA g #[iV h,.pointer (some ⟨R,0,none⟩)] W (rB (.bool (decide (p≤h))) W)):
  cA 146 #[iV n,.func (.func g) #[] #[.pointer (some ⟨R,0,none⟩)]] w (rB (iV p) w):=by
 have HFV:=ah HF;clear HF;go_enter Tryz.func146,Tryz.ntmps146;go_wp2
 go_loopw [5,6] (fun t s wr=>∃i j:Nat,i≤p∧p≤j∧j≤n∧t=iV i∧s=iV j∧bZ w wr) (fun t s _=>(intOf s).toNat-(intOf t).toNat)
 case atStart=>exact⟨0,n,Ak _,hp,Aa _,rfl,rfl,Be _ _⟩
 case round=>
  obtain⟨i,j,h1,h2,h3,rfl,rfl,cP⟩:=hrel;have HB:=ah cP;clear cP;by_cases aM:i<j
  ·go_upto_region 4 with fail
   obtain⟨m,hm,m1,m2⟩:∃m:Nat,((i:Int)+(j:Int))/2=(m:Int)∧i≤m∧m<j:=⟨(i+j)/2,by omega,by omega,by omega⟩;rw[hm];have HC:=aa HFV m wr (by omega) (aa HB);have hmn:m≤1000000000000000:=by omega
   by_cases hpm:p≤m
   ·rw[Aq hpm]at HC;have HP:=ah hpm;clear hpm hm
    go_wp2_with (go_at_fn g;refine HC.mono ?_;rintro x W2 ⟨rfl,b2⟩;have sE:=ah (Below.next (aa HB) b2);clear HC b2)
    all_goals(go_roundw<;>first|exact⟨i,m,h1,aa HP,by omega,rfl,rfl,aa sE⟩|(simp[intOf];omega))
   ·rw[Ai hpm]at HC;have HP:=ah hpm;clear hpm hm
    go_wp2_with (go_at_fn g;refine HC.mono ?_;rintro x W2 ⟨rfl,b2⟩;have sE:=ah (Below.next (aa HB) b2);clear HC b2)
    all_goals(go_roundw<;>first|exact⟨m+1,j,by have:=aa HP;omega,h2,h3,by go_num,rfl,aa sE⟩|(simp[intOf];omega))
  ·obtain rfl:i=p:=by omega
   go_wp2;go_ret;exact⟨rfl,aa HB⟩
theorem Tryz.OT:(Tryz.prog.info? 49).map (fun i=>(i.zero,i.size,i.bytes))=some (some (bR 0 0 0 0 0 none 0 0),6,64):=by kernel_rfl
def vQ:Array Value:=dp 0 0 0 0 0 none 0 0++dp 0 0 0 0 0 none 0 0++dp 0 0 0 0 0 none 0 0++dp 0 0 0 0 0 none 0 0
theorem OU(w:tA):(Instr.makeSlice 50 (iV 4) (iV 4)).run Tryz.prog w= .ok (.slice (some ⟨w.heap.size,0,none⟩) 4 4) (w.alloc (.cells vQ 49)):=by
 obtain⟨i,h1,h2,h3,h4⟩:=iq Tryz.OT;have:=run_make (P:=Tryz.prog) w 50 49 i _ Tryz.underlying50 h1 h2 .i64 .i64 4 4 (by omega) (by omega) (by rw[h4];omega) (by omega);rw[h3]at this;have e:madeCells (bR 0 0 0 0 0 none 0 0).cells (Int.toNat 4*6)=vQ:=by first|kernel_rfl|(apply Array.toList_inj.1;simp[madeCells,vQ,dp,List.range_succ,Value.cells])|(simp[madeCells,vQ,Array.range,Value.cells];rfl)
 rw[e]at this;exact this
theorem qD{P:tF}(h0:P 0)(h1:P 1)(h2:P 2)(h3:P 3):∀i,i<4→P i
 |0,_=>h0
 |1,_=>h1
 |2,_=>h2
 |3,_=>h3
 |n+4,h=>absurd h (by omega)
def oY{α:Type}(f:Nat→α)(q:Nat)(x:α):Nat→α:=fun p=>if p=q then x else f p
theorem pY{α:Type}(f:Nat→α)(q:Nat)(x:α):oY f q x q=x:=by simp[oY]
theorem nF{α:Type}(f:Nat→α){q p:Nat}(x:α)(h:p≠q):oY f q x p=f p:=by simp[oY,h]
abbrev wY(f:Nat→Bt)(A:Nat→Option Addr)(K:tV):Array Value:=
 #[iV (f 0).r,iV (f 0).e,iV (f 0).f,iV (f 0).t,iV (f 0).o,.slice (A 0) (f 0).es.length (K 0),iV (f 1).r,iV (f 1).e,iV (f 1).f,iV (f 1).t,iV (f 1).o,.slice (A 1) (f 1).es.length (K 1),
  iV (f 2).r,iV (f 2).e,iV (f 2).f,iV (f 2).t,iV (f 2).o,.slice (A 2) (f 2).es.length (K 2),iV (f 3).r,iV (f 3).e,iV (f 3).f,iV (f 3).t,iV (f 3).o,.slice (A 3) (f 3).es.length (K 3)]
def gR(w:tA)(Y:Nat)(f:Nat→Bt)(A:Nat→Option Addr)(K:tV):Prop:=w.heap[Y]? =some (.cells (wY f A K) 49 (0,0))
section
variable{w w':tA}{Y:Nat}{f:Nat→Bt}{A:Nat→Option Addr}{K:tV}
theorem gR.lt(h:gR w Y f A K):Y<w.heap.size:=bQ h
theorem gR.free(h:gR w Y f A K)(o:Nat):w.frozen? ⟨Y,o,none⟩=false:=by
 unfold gR at h;simp[World.frozen?,h]
theorem gR.at(h:gR w Y f A K):∀q,q<4→w.cell? ⟨Y,q*6,none⟩=some (iV (f q).r)∧w.cell? ⟨Y,q*6+1,none⟩=some (iV (f q).e)∧w.cell? ⟨Y,q*6+2,none⟩=some (iV (f q).f)∧w.cell? ⟨Y,q*6+3,none⟩=some (iV (f q).t)∧w.cell? ⟨Y,q*6+4,none⟩=some (iV (f q).o)∧w.cell? ⟨Y,q*6+5,none⟩=some (.slice (A q) (f q).es.length (K q)):=by
 unfold gR at h;refine qD ?_ ?_ ?_ ?_<;>simp[World.cell?,h]
theorem gR.put(h:gR w Y f A K)(q:Nat)(hq:q<4)(D:Bt)(a:tB)(c:Nat):gR ((((((w.setCell ⟨Y,q*6,none⟩ (iV D.r)).setCell ⟨Y,q*6+1,none⟩ (iV D.e)).setCell ⟨Y,q*6+2,none⟩ (iV D.f)).setCell ⟨Y,q*6+3,none⟩ (iV D.t)).setCell ⟨Y,q*6+4,none⟩ (iV D.o)).setCell ⟨Y,q*6+5,none⟩ (.slice a D.es.length c)) Y (oY f q D) (oY A q a) (oY K q c):=by
 unfold gR at h⊢;rw[cE (cE (cE (cE (cE (cE h)))))];have:∀q,q<4→((((((wY f A K).set! (q*6) (iV D.r)).set! (q*6+1) (iV D.e)).set! (q*6+2) (iV D.f)).set! (q*6+3) (iV D.t)).set! (q*6+4) (iV D.o)).set! (q*6+5) (.slice a D.es.length c)=wY (oY f q D) (oY A q a) (oY K q c):=by
  refine qD ?_ ?_ ?_ ?_<;>simp[oY]
 rw[this q hq]
end
theorem Im(w:tA)(Y q:Nat)(v0 v1 v2 v3 v4 v5:tK):av Y w ((((((w.setCell ⟨Y,q*6,none⟩ v0).setCell ⟨Y,q*6+1,none⟩ v1).setCell ⟨Y,q*6+2,none⟩ v2).setCell ⟨Y,q*6+3,none⟩ v3).setCell ⟨Y,q*6+4,none⟩ v4).setCell ⟨Y,q*6+5,none⟩ v5):=
 (((((av.set Y _ w _).trans (av.set Y _ _ _)).trans (av.set Y _ _ _)).trans (av.set Y _ _ _)).trans (av.set Y _ _ _)).trans (av.set Y _ _ _)
abbrev mU(f:Nat→Bt)(A:Nat→Option Addr)(K:tV)(q:Nat):Value:= .slice (A q) (f q).es.length (K q)
structure KF(W:tA)(Y:Nat)(f:Nat→Bt)(A:Nat→Option Addr)(K:tV):Prop where
 b:gR W Y f A K
 own:∀q,q<4→W.ownsRow (Y+1) 55 6 (mU f A K q) (f q).es.length ((ai (f q).es).map (Value.int .i64))
 apart:∀p q,p<4→q<4→p≠q→∀g,(mU f A K p).ownBlock=some g→¬(mU f A K q).ownBlock=some g
 cO:∀q,q<4→(f q).cH
 wf:∀q,q<4→∀u∈ai (f q).es,(Lit.int .i64 u).wf=true
theorem KF.next{W W':tA}{Y:Nat}{f:Nat→Bt}{A:Nat→Option Addr}{K:tV}(h:KF W Y f A K)(b:bZ W W'):KF W' Y f A K:=
 ⟨(b.block _ h.b.lt).trans h.b,fun q hq=>aI (h.own q hq) (fun g _ hg=>b.block g hg),h.apart,h.cO,h.wf⟩
theorem KF.bin{W:tA}{Y:Nat}{f:Nat→Bt}{A:Nat→Option Addr}{K:tV}(h:KF W Y f A K)(q:Nat)(hq:q<4):jb W (f q) (A q) (K q):=by
 obtain⟨a,c,e,r,l,_,n,_⟩:=RowK.eO (h.own q hq) (h.wf q hq);cases e;exact⟨r,l,n⟩
theorem KF.ZM{W W':tA}{Y:Nat}{f:Nat→Bt}{A:Nat→Option Addr}{K:tV}(h:KF W Y f A K)(q:Nat)(hq:q<4)(g:W.grownBy W' (mU f A K q).ownBlock):
  gR W' Y f A K∧∀p,p<4→p≠q→W'.ownsRow (Y+1) 55 6 (mU f A K p) (f p).es.length ((ai (f p).es).map (Value.int .i64)):=by
 refine⟨(g.block _ h.b.lt (fun e=> ?_)).trans h.b,fun p hp fM=>qx (h.own p hp) g (fun x hx e=>h.apart p q hp hq fM x hx e)⟩;have:=((h.own q hq).lt _ e.symm).1;omega
theorem KF.put{W W' Yw:tA}{Y:Nat}{f:Nat→Bt}{A:Nat→Option Addr}{K:tV}(h:KF W Y f A K)(q:Nat)(hq:q<4){D:Bt}{a:tB}{c:Nat}
  (ho:∀p,p<4→p≠q→W'.ownsRow (Y+1) 55 6 (mU f A K p) (f p).es.length ((ai (f p).es).map (Value.int .i64)))
  (hD:W'.ownsRow (Y+1) 55 6 (.slice a D.es.length c) D.es.length ((ai D.es).map (Value.int .i64))) (hl:A4 W (mU f A K q) (.slice a D.es.length c)) (hs:D.cH) (hw:∀u∈ai D.es,(Lit.int .i64 u).wf=true)
  (t:av Y W' Yw) (b:gR Yw Y (oY f q D) (oY A q a) (oY K q c)):KF Yw Y (oY f q D) (oY A q a) (oY K q c):=by
 have eq1:mU (oY f q D) (oY A q a) (oY K q c) q= .slice a D.es.length c:=by simp only[mU,pY]
 have ne1:∀p,p≠q→mU (oY f q D) (oY A q a) (oY K q c) p=mU f A K p:=fun p hp=>by simp only[mU,nF _ _ hp]
 refine⟨b,fun p hp=> ?_,fun p p' hp hp' fM g hg=> ?_,fun p hp=> ?_,fun p hp=> ?_⟩
 ·by_cases e:p=q
  ·subst e;rw[eq1,pY];exact t.own hD (by omega)
  ·rw[ne1 p e,nF _ _ e];exact t.own (ho p hp e) (by omega)
 ·by_cases e:p=q
  ·subst e;rw[eq1]at hg;rw[ne1 p' (fun h=>fM h.symm)];rcases hl g hg with h1|h1
   ·exact h.apart p p' hp hp' fM g h1
   ·exact fun h2=>by have:=((h.own p' hp').lt g h2).2;omega
  ·rw[ne1 p e]at hg;by_cases e':p'=q
   ·subst e';rw[eq1];intro h2;rcases hl g h2 with h1|h1
    ·exact h.apart p p' hp hp' fM g hg h1
    ·have:=((h.own p hp).lt g hg).2;omega
   ·rw[ne1 p' e'];exact h.apart p p' hp hp' fM g hg
 ·by_cases e:p=q
  ·subst e;rw[pY];exact hs
  ·rw[nF _ _ e];exact h.cO p hp
 ·by_cases e:p=q
  ·subst e;rw[pY];exact hw
  ·rw[nF _ _ e];exact h.wf p hp
def kL(f:Nat→Bt):List Bt:=[f 0,f 1,f 2,f 3]
theorem Sl(f:Nat→Bt)(r:Rec)(q:Nat)(hq:q<4)(e:r.q=q):At (kL f) r=f q:=by
 have h1:r.q.toNat=q:=by omega
 unfold At;rw[h1];have:∀q,q<4→(kL f).getD q Bt.zero=f q:=by refine qD ?_ ?_ ?_ ?_<;>rfl
 exact this q hq
theorem Mx(f:Nat→Bt)(r:Rec)(D:Bt)(q:Nat)(hq:q<4)(e:r.q=q):put (kL f) r D=kL (oY f q D):=by
 have h1:r.q.toNat=q:=by omega
 unfold put;rw[h1];have:∀q,q<4→(kL f).set q D=kL (oY f q D):=by refine qD ?_ ?_ ?_ ?_<;>simp[kL,oY]
 exact this q hq
theorem tv(f:Nat→Bt)(P:Bt→Prop):(∀B∈kL f,P B)↔∀q,q<4→P (f q):=by
 constructor
 ·intro h;exact qD (h _ (by simp[kL])) (h _ (by simp[kL])) (h _ (by simp[kL])) (h _ (by simp[kL]))
 ·intro h B hB;simp only[kL,List.mem_cons,List.not_mem_nil,or_false]at hB;rcases hB with rfl|rfl|rfl|rfl
  ·exact h 0 (by omega)
  ·exact h 1 (by omega)
  ·exact h 2 (by omega)
  ·exact h 3 (by omega)
def aZ(r:Rec):List Int:=[r.k,r.q,r.e,r.p,r.v.k,r.v.p,r.v.i,r.v.b,r.v.he,r.v.hn]
def aC(rs:List Rec):List Int:=rs.flatMap aZ
theorem sf:∀(rs:List Rec) (i:Nat) (h:i<rs.length) (j:Nat),j<10→(aC rs).getD (10*i+j) 0=(aZ rs[i]).getD j 0
 |[],_,h,_,_=>absurd h (AH _)
 |v::rs,0,_,j,hj=>by
  have hl:(aZ v).length=10:=rfl;show(aZ v++aC rs).getD (10*0+j) 0=_;rw[Nat.mul_zero,Ae,cW _ _ _ (by omega)];rfl
 |v::rs,i+1,h,j,hj=>by
  have hl:(aZ v).length=10:=rfl;show(aZ v++aC rs).getD (10*(i+1)+j) 0=_;rw[show 10*(i+1)+j=10+(10*i+j) by omega,cQ _ _ _ 10 hl,sf rs i (by simpa using h) j hj];rfl
theorem V_{w:tA}{b off:Nat}{rs:List Rec}(hr:RowK .i64 w (some ⟨b,off,none⟩) (10*rs.length) (aC rs))(k:Nat)(hk:k<rs.length):
  w.cell? ⟨b,off+k*10,none⟩=some (iV rs[k].k)∧w.cell? ⟨b,off+k*10+1,none⟩=some (iV rs[k].q)∧w.cell? ⟨b,off+k*10+2,none⟩=some (iV rs[k].e)∧w.cell? ⟨b,off+k*10+3,none⟩=some (iV rs[k].p)∧w.cell? ⟨b,off+k*10+4,none⟩=some (iV rs[k].v.k)∧
  w.cell? ⟨b,off+k*10+5,none⟩=some (iV rs[k].v.p)∧w.cell? ⟨b,off+k*10+6,none⟩=some (iV rs[k].v.i)∧w.cell? ⟨b,off+k*10+7,none⟩=some (iV rs[k].v.b)∧w.cell? ⟨b,off+k*10+8,none⟩=some (iV rs[k].v.he)∧w.cell? ⟨b,off+k*10+9,none⟩=some (iV rs[k].v.hn):=by
 have ea:∀t,t<10→w.cell? ⟨b,off+(10*k+t),none⟩=some (iV ((aZ rs[k]).getD t 0)):=fun t ht=>by
  rw[←sf rs k hk t ht];exact hr.at (10*k+t) (by omega)
 rw[Bl k 10];exact⟨ea 0 (by omega),ea 1 (by omega),ea 2 (by omega),ea 3 (by omega),ea 4 (by omega),ea 5 (by omega),ea 6 (by omega),ea 7 (by omega),ea 8 (by omega),ea 9 (by omega)⟩
theorem Table.next{w w':tA}{M:Nat}{v1 v2 v3 v5 v6 v7:tK}(t:Table w M v1 v2 v3 v5 v6 v7)(b:bZ w w'):Table w' M v1 v2 v3 v5 v6 v7:=
 ⟨(b.block _ (bQ t.pw)).trans t.pw,t.d1.keep (aH b),t.d2.keep (aH b),t.d3.keep (aH b),t.d5.keep (aH b),t.d6.keep (aH b),t.d7.keep (aH b)⟩
theorem ZN{w:tA}{a:tB}{rs:List Rec}(hr:RowK .i64 w a (10*rs.length) (aC rs))(k:Nat)(hk:k<rs.length):∀u∈aX rs[k].v,(Lit.int .i64 u).wf=true:=fun u hu=>by
 refine hr.wf u (List.mem_flatMap.2 ⟨rs[k],Bu hk, ?_⟩);simp only[aX,aZ,List.mem_cons,List.not_mem_nil,or_false]at hu⊢;rcases hu with h|h|h|h|h|h<;>simp[h]
theorem Sm{B D:Bt}{r:Rec}(hs:B.cH)(hd:fX B r=some D)(hB:∀u∈ai B.es,(Lit.int .i64 u).wf=true)(hr:∀u∈aX r.v,(Lit.int .i64 u).wf=true):(∀u∈ai D.es,(Lit.int .i64 u).wf=true)∧D.es.length≤B.es.length+1:=by
 have nil:∀u∈ai [],(Lit.int .i64 u).wf=true:=fun u hu=>by cases hu
 have more:∀v:Ev,(∀u∈aX v,(Lit.int .i64 u).wf=true)→(∀u∈ai (B.es++[v]),(Lit.int .i64 u).wf=true)∧(B.es++[v]).length≤B.es.length+1:=fun v hv=>⟨fun u hu=>by
  rw[G0]at hu;rcases Ao.1 hu with h|h
  ·exact hB u h
  ·exact hv u h,by simp⟩
 unfold fX at hd;by_cases hk:r.k=4
 ·rw[if_pos hk]at hd;rcases vO hs hd with rfl|⟨rfl,_⟩
  ·exact⟨hB,by omega⟩
  ·exact⟨nil,by simp⟩
 rw[if_neg hk]at hd;unfold cS at hd
 repeat' split at hd
 all_goals first
  |(cases hd;done)
  |(cases hd;exact⟨nil,by simp⟩)
  |(cases hd;exact⟨hB,by simp⟩)
  |(cases hd;exact more _ hr)
  |(cases hd;exact more _ (by intro u hu;simp[aX,Ev.brk]at hu;rcases hu with rfl|rfl<;>decide))
  |contradiction
theorem Table.acm{w:tA}{M:Nat}{v1 v2 v3 v5 v6 v7:tK}{B:Bt}{a:tB}{c base:Nat}{r:Rec}(t:Table w M v1 v2 v3 v5 v6 v7)(bM:w.ownsRow base 55 6 (.slice a B.es.length c) B.es.length ((ai B.es).map (Value.int .i64)))(hb:base≤w.heap.size)(hs:B.cH)(hlen:(B.es.length+1)*48≤140737488355328)(hk:r.k=1∨r.k=2∨r.k=3∨r.k=4∨r.k=5∨r.k=6∨r.k=7):
  ∃v,(∀W,bZ w W→(Instr.lookup 273 (.map (some M)) (iV r.k) false).run Tryz.prog W= .ok v W)∧DV w base v B a c r (fX B r):=by
 obtain⟨v,h1,h2⟩:=t.acj bM hb hs hlen hk;refine⟨v,fun W b=> ?_,h2⟩;obtain⟨l1,l2,l3,l4,l5,l6,l7⟩:=se t;obtain⟨m1,m2,m3,m4,m5,m6,m7⟩:=se (t.next b);rcases hk with e|e|e|e|e|e|e<;>rw[e]at h1⊢
 ·rw[l1]at h1;cases h1;exact m1
 ·rw[l2]at h1;cases h1;exact m2
 ·rw[l3]at h1;cases h1;exact m3
 ·rw[l4]at h1;cases h1;exact m4
 ·rw[l5]at h1;cases h1;exact m5
 ·rw[l6]at h1;cases h1;exact m6
 ·rw[l7]at h1;cases h1;exact m7
def fY:Nat→Bt:=fun _=>Bt.zero
theorem Sn:vQ=wY fY (fun _=>none) (fun _=>0):=by first|rfl|simp[vQ,dp,fY,Bt.zero]
theorem Bt.KG:Bt.zero.cH:=Bt.cI.cO
def oZ(w w':tA)(o:Option (List Bt)×Int)(x:Ending):Prop:=
 (o.1=none→x= .returned (.tuple #[.slice none 0 0,iV o.2]))∧
 ∀S,o.1=some S→∃Y f A K,x= .returned (.tuple #[.slice (some ⟨Y,0,none⟩) 4 4,iV 0])∧o.2=0∧S=kL f∧KF w' Y f A K∧w.heap.size≤Y
theorem oZ.none{w w':tA}{o:Option (List Bt)×Int}{e:Int}(h:o=(none,e)):oZ w w' o (.returned (.tuple #[.slice none 0 0,iV e])):=by
 subst h;exact⟨fun _=>rfl,fun S h=>by cases h⟩
structure Td(W1 W:tA)(Y:Nat)(rs:List Rec)(k:Nat)(f:Nat→Bt)(A:Nat→Option Addr)(K:tV):Prop where
 cP:bZ W1 W
 fb:KF W Y f A K
 eq:dg (kL fY) rs=dg (kL f) (rs.drop k)
 few:∀q,q<4→(f q).es.length≤k
 up:W1.heap.size≤Y
theorem Td.next{W1 W W':tA}{Y:Nat}{rs:List Rec}{k:Nat}{f:Nat→Bt}{A:Nat→Option Addr}{K:tV}(h:Td W1 W Y rs k f A K)(b:bZ W W'):Td W1 W' Y rs k f A K:=⟨Below.next h.cP b,h.fb.next b,h.eq,h.few,h.up⟩
theorem uT(rs:List Rec)(a:tB)(c:Nat)(w:tA)(hr:RowK .i64 w a (10*rs.length) (aC rs))(hlen:(rs.length+1)*48≤140737488355328):
  cA 145 #[.slice a rs.length c] w fun x w'=>oZ w w' (dg (kL fY) rs) x∧bZ w w':=by
 have HR:Hid (∀W,bZ w W→RowK .i64 W a (10*rs.length) (aC rs)):=ah fun W b=>hr.below b;clear hr;obtain⟨o,ho⟩:∃o,o=dg (kL fY) rs:=⟨_,rfl⟩;rw[←ho];have HO:=ah ho;clear ho;go_enter Tryz.func145,Tryz.ntmps145
 go_upto_region 2 with(go_at_call 190;refine(OQ w).mono ?_;rintro e W1 ⟨v1,v2,v3,v5,v6,v7,rfl,tb,d1⟩)
 have wm:=OU W1;have HT:=ah tb;have ZO:=ah d1;clear tb d1
 go_upto_region 3 with fail
 obtain⟨W2,hW2,T2⟩:∃W2,W2=W1.alloc (.cells vQ 49)∧Td W1 W2 W1.heap.size rs 0 fY (fun _=>none) (fun _=>0):=by
  refine⟨_,rfl,aA _ _,⟨?_,fun q _=>Bn _ _ _ _,(fun p q _ _ _ g hg=>by cases hg),fun q _=>Bt.KG,fun q _ u hu=>by cases hu⟩,rfl,fun q _=>Aa _,Aa _⟩;have:=AQ W1 (.cells vQ 49);rw[Sn]at this;exact this
 rw[←hW2];obtain⟨Y,hY⟩:∃Y,Y=W1.heap.size:=⟨_,rfl⟩;rw[←hY];have HT2:Hid (Td W1 W2 Y rs 0 fY (fun _=>none) (fun _=>0)):=ah (by rw[hY];exact T2);clear hW2 wm T2 hY
 go_upto_region 4 with fail
 go_loopw [19] (fun i wr=>∃(k:Nat) (f:Nat→Bt) (A:Nat→Option Addr) (K:tV),k≤rs.length∧i=iV k∧Hid (Td W1 wr Y rs k f A K)) (fun i _=>rs.length-(intOf i).toNat)
 case atStart=>exact⟨0,_,_,_,Ak _,rfl,HT2⟩
 case round=>
  obtain⟨k,f,A,K,hk,rfl,HTd⟩:=hrel;clear HT2;by_cases aM:k<rs.length
  case neg=>
   obtain rfl:k=rs.length:=by omega
   have HE:Hid (((∀q,q<4→(f q).Ok)→o=(some (kL f),0))∧(¬(∀q,q<4→(f q).Ok)→o=(none,3))):=ah (by
    rw[aa HO,(aa HTd).eq,List.drop_length];unfold dg
    exact⟨fun h=>if_pos ((tv f Bt.Ok).2 h),fun h=>if_neg (fun g=>h ((tv f Bt.Ok).1 g))⟩)
   clear HO
   go_upto_region 16 with fail
   go_loopw [68] (fun i wx=>∃q:Nat,q≤4∧i=iV q∧Hid (Td W1 wx Y rs rs.length f A K)∧Hid (∀p,p<q→(f p).Ok)) (fun i _=>4-(intOf i).toNat)
   case atStart=>exact⟨0,by omega,rfl,HTd,ah (fun p hp=>by omega)⟩
   case round=>
    obtain⟨q,hq,rfl,HTq,HI⟩:=hrel;by_cases mZ:q<4
    case neg=>
     obtain rfl:q=4:=by omega
     have xQ:Hid (o=(some (kL f),0)):=ah ((aa HE).1 (aa HI));go_wp2;go_ret2;refine⟨⟨(fun h=>by rw[aa xQ]at h;cases h),fun S h=> ?_⟩,Below.next (aa ZO) (aa HTq).cP⟩;rw[aa xQ]at h⊢;cases h;exact⟨Y,f,A,K,rfl,rfl,rfl,(aa HTq).fb,AN (aa ZO).size (aa HTq).up⟩
    case pos=>
     obtain⟨x0,x1,x2,x3,x4,x5⟩:=(aa HTq).fb.b.at q mZ;have hYl:=(aa HTq).fb.b.lt;have hYn:Y≠wr.heap.size:=by omega
     have R_:Hid (∀W,bZ wr W→Td W1 W Y rs rs.length f A K∧jb W (f q) (A q) (K q)):=ah fun W b=>⟨(aa HTq).next b,((aa HTq).next b).fb.bin q mZ⟩;obtain⟨B,hB⟩:∃B,B=f q:=⟨_,rfl⟩;obtain⟨aq,haq⟩:∃aq,aq=A q:=⟨_,rfl⟩;obtain⟨cq,hcq⟩:∃cq,cq=K q:=⟨_,rfl⟩;rw[←hB]at x0 x1 x2 x3 x4 x5 R_;rw[←haq]at x5 R_;rw[←hcq]at x5 R_;have HBq:=ah hB;clear hB haq hcq HTq
     go_upto_region 18 with fail
     obtain⟨W3,hW3,bb3,d3⟩:∃W3,W3=wr.alloc (.cells (dp B.r B.e B.f B.t B.o aq B.es.length cq) 49)∧aG W3 wr.heap.size B.r B.e B.f B.t B.o aq B.es.length cq∧bZ wr W3:=⟨_,rfl,aG.new _ _ _ _ _ _ _ _ _,aA _ _⟩;rw[←hW3];clear hW3 x0 x1 x2 x3 x4 x5;obtain⟨x0,x1,x2,x3,x4,x5⟩:=bb3.cells;have ZJ:=(aa R_ W3 d3).2;have HD3:=ah d3;clear bb3 d3;by_cases ok:B.Ok
     ·have HC:=gw B aq cq W3 ZJ ok;have HI2:Hid (∀p,p<q+1→(f p).Ok):=ah fun p hp=>by
       rcases AA p q with h|h
       ·exact aa HI p h
       ·obtain rfl:p=q:=by omega
        rw[←aa HBq];exact ok
      clear ZJ ok
      go_wp2_with (go_at_call 176;refine HC.mono ?_;rintro e W4 ⟨rfl,d4⟩;clear HC x0 x1 x2 x3 x4 x5;have DD:=ah (aa R_ W4 (Below.next (aa HD3) d4)).1;clear d4)
      go_roundw
      case rel=>exact⟨q+1,by omega,by go_num,DD,HI2⟩
      case measure=>simp[intOf];omega
     ·have HC:=j5 B aq cq W3 ZJ ok;have xQ:Hid (o=(none,3)):=ah ((aa HE).2 (fun h=>ok (by rw[aa HBq];exact h q mZ)));clear ZJ ok
      go_wp2_with (go_at_call 176;refine HC.mono ?_;rintro e W4 ⟨rfl,d4⟩;clear HC x0 x1 x2 x3 x4 x5;have DD:=ah (aa R_ W4 (Below.next (aa HD3) d4)).1;clear d4)
      go_ret2;exact⟨oZ.none (aa xQ),Below.next (aa ZO) (aa DD).cP⟩
  case pos=>
   have qQ:=aa HR wr (Below.next (aa ZO) (aa HTd).cP);obtain⟨bb,off,rfl⟩:=qQ.form (by omega);obtain⟨y0,y1,y2,y3,y4,y5,y6,y7,y8,y9⟩:=V_ qQ k aM;have HVW:=ah (ZN qQ k aM);have JK:=qQ.lt (by omega);have hbn:bb≠wr.heap.size:=by omega
   have hd:rs.drop k=rs[k]::rs.drop (k+1):=List.drop_eq_getElem_cons aM;obtain⟨r,fF⟩:∃r,r=rs[k]:=⟨_,rfl⟩;have HE:Hid (o=dg (kL f) (r::rs.drop (k+1))):=ah (by rw[aa HO,(aa HTd).eq,hd,fF]);rw[←fF]at y0 y1 y2 y3 y4 y5 y6 y7 y8 y9 HVW;clear qQ hd fF
   go_upto_region 6 with fail
   obtain⟨W3,hW3,UT,d3⟩:∃W3,W3=wr.alloc (.cells #[iV r.k,iV r.q,iV r.e,iV r.p,iV r.v.k,iV r.v.p,iV r.v.i,iV r.v.b,iV r.v.he,iV r.v.hn] 167)∧km W3 wr.heap.size r∧bZ wr W3:=⟨_,rfl,AQ _ _,aA _ _⟩;rw[←hW3];clear hW3 y0 y1 y2 y3 y4 y5 y6 y7 y8 y9 hbn JK;obtain⟨R,hR⟩:∃R,R=wr.heap.size:=⟨_,rfl⟩;rw[←hR]at UT⊢;have HT3:=ah ((aa HTd).next d3);clear hR d3 HTd;have HP:∀w,cA 191 #[mj r] w (rB (iV r.fault) w):=fun w=>j6 _ _ _ _ _ _ _ _ _ _ w;obtain⟨r0,r1,r2,r3,r4,r5,r6,r7,r8,r9⟩:=UT.cells;have pC:=ah UT;clear UT;by_cases hf:r.fault=0
   case neg=>
    have xQ:Hid (o=(none,r.fault)):=ah (by rw[aa HE];unfold dg;rw[if_pos hf]);have hf':(r.fault !=0)=true:=by simpa using hf
    obtain⟨fl,vu⟩:∃fl,fl=r.fault:=⟨_,rfl⟩;rw[←vu]at HP xQ hf';clear HE HO hf vu
    go_wp2_with (go_at_call 191;refine(HP _).mono ?_;rintro e W4 ⟨rfl,d4⟩;clear HP r0 r1 r2 r3 r4 r5 r6 r7 r8 r9;have DD:=ah ((aa HT3).next d4);clear d4)
    go_ret2;exact⟨oZ.none (aa xQ),Below.next (aa ZO) (aa DD).cP⟩
   case pos=>
   rw[hf]at HP;have HF:=ah hf;clear hf
   go_upto_region 9 with(go_at_call 191;refine(HP _).mono ?_;rintro e W4 ⟨rfl,d4⟩;clear HP r0 r1 r2 r3 r4 r5 r6 r7 r8 r9;have DD:=ah ((aa HT3).next d4);have ru:Hid (km W4 R r):=ah ((d4.block _ (bQ (aa pC))).trans (aa pC));clear d4 HT3 pC)
   obtain⟨qn,ZG⟩:∃qn:Nat,r.q=qn:=⟨r.q.toNat,by have:=wW (aa HF);omega⟩;have mZ:qn<4:=by have:=wW (aa HF);omega
   have HQN:=ah ZG;obtain⟨B,hB⟩:∃B,B=f qn:=⟨_,rfl⟩;obtain⟨aq,haq⟩:∃aq,aq=A qn:=⟨_,rfl⟩;obtain⟨cq,hcq⟩:∃cq,cq=K qn:=⟨_,rfl⟩;have Ke:=(aa DD).fb.own qn mZ;rw[mU,←hB,←haq,←hcq]at Ke;have ZP:=(aa DD).fb.b.lt;obtain⟨dv,hlk,hdo⟩:=((aa HT).next (aa DD).cP).acm Ke (by omega) (by rw[hB];exact(aa DD).fb.cO qn mZ) (by have:=(aa DD).few qn mZ;rw[hB];omega) (Rec.kinds (aa HF));have HDO:=ah hdo;have HLK:=ah hlk;obtain⟨x0,x1,x2,x3,x4,x5⟩:=(aa DD).fb.b.at qn mZ;rw[←hB]at x0 x1 x2 x3 x4 x5;rw[←haq,←hcq]at x5;have Jv:Hid (B=f qn∧aq=A qn∧cq=K qn):=ah ⟨hB,haq,hcq⟩;obtain⟨r0,r1,r2,r3,r4,r5,r6,r7,r8,r9⟩:=(aa ru).cells;rw[ZG]at r1;have hR4:=bQ (aa ru);have hRn:R≠W4.heap.size:=by omega
   have hYn:Y≠W4.heap.size:=by omega
   clear ZG hB haq hcq Ke hdo hlk
   go_wp2_with fail
   go_cut [9,10] (fun p9 v10 wx=>∃X,p9= .pointer (some ⟨X,0,none⟩)∧v10=dv∧aG wx X B.r B.e B.f B.t B.o aq B.es.length cq∧bZ W4 wx)
   case first=>
    refine wp_region_held_drew (S:=Below W4.heap.size W4) (by kernel_rfl) (xO W4) (fun hHeld=> ?_);refine BM (i:=0) (v:= .slice (some ⟨Y,0,none⟩) 4 4) rfl (by kernel_rfl) (by kernel_rfl) (by kernel_rfl) (fun _ _ _ h=>h) (Or.inl ⟨by rfl,fun _ _=>by go_simp⟩) hHeld ?_;simp only[List.getElem_toArray,List.getElem_cons_zero,Act.put,List.setIfInBounds_toArray,List.set_cons_zero,List.set_cons_succ];refine BM (i:=1) (v:= .pointer (some ⟨R,1,none⟩)) rfl (by kernel_rfl) (by kernel_rfl) (by kernel_rfl) (fun _ _ _ h=>h) (Or.inl ⟨by rfl,fun _ _=>by go_simp⟩) hHeld ?_;simp only[List.getElem_toArray,List.getElem_cons_zero,List.getElem_cons_succ,Act.put,List.setIfInBounds_toArray,List.set_cons_zero,List.set_cons_succ];refine BM (i:=2) (v:=iV qn) rfl (by kernel_rfl) (by kernel_rfl) (by kernel_rfl) (fun _ _ _ h=>h) (Or.inl ⟨by rfl,fun w b=>by have qc:=(b.cell (p:=⟨R,1,none⟩) hR4).trans r1;go_simp⟩) hHeld ?_;simp only[List.getElem_toArray,List.getElem_cons_zero,List.getElem_cons_succ,Act.put,List.setIfInBounds_toArray,List.set_cons_zero,List.set_cons_succ];refine BM (i:=3) (v:= .pointer (some ⟨Y,qn*6,none⟩)) rfl (by kernel_rfl) (by kernel_rfl) (by kernel_rfl) (fun _ _ _ h=>h) (Or.inl ⟨by rfl,fun _ _=>by go_simp;intro hx;omega⟩) hHeld ?_;simp only[List.getElem_toArray,List.getElem_cons_zero,List.getElem_cons_succ,Act.put,List.setIfInBounds_toArray,List.set_cons_zero,List.set_cons_succ];refine BM (i:=4) (v:=bR B.r B.e B.f B.t B.o aq B.es.length cq) rfl (by kernel_rfl) (by kernel_rfl) (by kernel_rfl) (fun _ _ _ h=>h) (Or.inl ⟨by rfl,fun w b=>by have qc0:=(b.cell (p:=⟨Y,qn*6,none⟩) ZP).trans x0;have qc1:=(b.cell (p:=⟨Y,qn*6+1,none⟩) ZP).trans x1;have qc2:=(b.cell (p:=⟨Y,qn*6+2,none⟩) ZP).trans x2;have qc3:=(b.cell (p:=⟨Y,qn*6+3,none⟩) ZP).trans x3;have qc4:=(b.cell (p:=⟨Y,qn*6+4,none⟩) ZP).trans x4;have qc5:=(b.cell (p:=⟨Y,qn*6+5,none⟩) ZP).trans x5;go_simp⟩) hHeld ?_;simp only[List.getElem_toArray,List.getElem_cons_zero,List.getElem_cons_succ,Act.put,List.setIfInBounds_toArray,List.set_cons_zero,List.set_cons_succ];refine BM (i:=5) (v:= .map (some w.heap.size)) rfl (by kernel_rfl) (by kernel_rfl) (by kernel_rfl) (fun _ _ _ h=>h) (Or.inl ⟨by rfl,fun _ _=>by go_simp⟩) hHeld ?_;simp only[List.getElem_toArray,List.getElem_cons_zero,List.getElem_cons_succ,Act.put,List.setIfInBounds_toArray,List.set_cons_zero,List.set_cons_succ];refine BM (i:=6) (v:= .pointer (some ⟨R,0,none⟩)) rfl (by kernel_rfl) (by kernel_rfl) (by kernel_rfl) (fun _ _ _ h=>h) (Or.inl ⟨by rfl,fun _ _=>by go_simp⟩) hHeld ?_;simp only[List.getElem_toArray,List.getElem_cons_zero,List.getElem_cons_succ,Act.put,List.setIfInBounds_toArray,List.set_cons_zero,List.set_cons_succ];refine BM (i:=7) (v:=iV r.k) rfl (by kernel_rfl) (by kernel_rfl) (by kernel_rfl) (fun _ _ _ h=>h) (Or.inl ⟨by rfl,fun w b=>by have qc:=(b.cell (p:=⟨R,0,none⟩) hR4).trans r0;go_simp⟩) hHeld ?_;simp only[List.getElem_toArray,List.getElem_cons_zero,List.getElem_cons_succ,Act.put,List.setIfInBounds_toArray,List.set_cons_zero,List.set_cons_succ];refine BM (i:=8) (v:=dv) rfl (by kernel_rfl) (by kernel_rfl) (by kernel_rfl) (fun _ _ _ h=>h) (Or.inl ⟨by rfl,fun w b=>by have qc:=aa HLK _ b;go_simp⟩) hHeld ?_;simp only[List.getElem_toArray,List.getElem_cons_zero,List.getElem_cons_succ,Act.put,List.setIfInBounds_toArray,List.set_cons_zero,List.set_cons_succ];have bW0:=xO W4;obtain⟨W0,hW0⟩:∃W0,W0=W4.drew:=⟨_,rfl⟩;rw[←hW0]at bW0 hHeld⊢;clear hW0;refine wpAnyH_ready (rs:=[9]) (by kernel_rfl) (by simp) ?_;refine AllReadyH.cons rfl (fun K hK=> ?_) AllReadyH.nil;simp only[List.getElem_toArray,List.getElem_cons_zero,List.getElem_cons_succ];go_simp;obtain⟨WA,hWA,zA,bA⟩:∃W,W=W0.alloc (.cells (dp 0 0 0 0 0 none 0 0) 49)∧aG W W0.heap.size 0 0 0 0 0 none 0 0∧bZ W0 W:=⟨_,rfl,aG.new _ _ _ _ _ _ _ _ _,aA _ _⟩;rw[←hWA];clear hWA;obtain⟨XA,hX⟩:∃X,X=W0.heap.size:=⟨_,rfl⟩;have upA:W4.heap.size≤XA:=by rw[hX];exact bW0.size
    rw[←hX]at zA⊢;have bWA:=Below.next bW0 bA;clear hX;refine hK.out _ _ bWA (fun hHeld=> ?_);clear hK K bA;refine wpAnyH_ready (rs:=[10]) (by kernel_rfl) (by simp) ?_;refine AllReadyH.cons rfl (fun K hK=> ?_) AllReadyH.nil;simp only[List.getElem_toArray,List.getElem_cons_zero,List.getElem_cons_succ];obtain⟨z0,z1,z2,z3,z4,z5⟩:=zA.cells;have zf:=zA.free;go_simp;obtain⟨WE,hWE,dE,bE,tE⟩:=dA zA bWA upA B.r B.e B.f B.t B.o aq B.es.length cq;rw[←hWE];refine hK.out _ _ bE (fun hHeld=> ?_);clear hK K hWE z0 z1 z2 z3 z4 z5 zf;refine BM (i:=11) (v:=dv) rfl (by kernel_rfl) (by kernel_rfl) (by kernel_rfl) (fun _ _ _ h=>h) (Or.inl ⟨by rfl,fun _ _=>by go_simp⟩) hHeld ?_;simp only[List.getElem_toArray,List.getElem_cons_zero,List.getElem_cons_succ,Act.put,List.setIfInBounds_toArray,List.set_cons_zero,List.set_cons_succ];refine wpAnyH_done (by kernel_rfl) ?_ _
    go_wp2_with fail
    go_meet;exact⟨XA,rfl,rfl,dE,bE⟩
   case rest=>
    obtain⟨X,rfl,rfl,bx,b5⟩:=hcut;obtain⟨W5,hW5⟩:∃W5,W5=wc:=⟨_,rfl⟩;subst hW5;have OV:=ah ((aa DD).next b5);have HR5:Hid (km W5 R r):=ah ((b5.block _ (bQ (aa ru))).trans (aa ru));have HX5:=ah bx;obtain⟨g,capv,hdv,Yj,HN⟩:=aa HDO;have HN5:=ah (HN W5 b5);subst hdv;clear b5 HN HDO HLK DD ru x0 x1 x2 x3 x4 x5 r0 r1 r2 r3 r4 r5 r6 r7 r8 r9 hR4 hRn hYn ZP;obtain⟨x0,x1,x2,x3,x4,x5⟩:=bx.cells;obtain⟨r0,r1,r2,r3,r4,r5,r6,r7,r8,r9⟩:=(aa HR5).cells;clear bx;obtain⟨od,hod⟩:∃od,od=fX B r:=⟨_,rfl⟩;rw[←hod]at HN5;have HOD:=ah hod;clear hod;have HOO:=HO
    have HST:Hid (o=match stepT B r with|none=>(none,3)|some D=>dg (kL (oY f qn D)) (rs.drop (k+1))):=ah (by
     rw[aa HE]
     conv=>lhs;unfold dg
     rw[if_neg (fun h=>h (aa HF)),Sl f r qn mZ (aa HQN),←(aa Jv).1];cases gI:stepT B r with
     |none=>rfl
     |some D=>simp only;rw[Mx f r D qn mZ (aa HQN)])
    clear HE HO;have GS:W5.ownsRow (Y+1) 55 6 (.slice aq B.es.length cq) B.es.length ((ai B.es).map (Value.int .i64)):=by
     have:=(aa OV).fb.own qn mZ;rw[mU,←(aa Jv).1,←(aa Jv).2.1,←(aa Jv).2.2]at this;exact this
    have HG:Hid (∀W6,W5.grownBy W6 (Value.slice aq B.es.length cq).ownBlock→bZ W1 W6∧km W6 R r∧aG W6 X B.r B.e B.f B.t B.o aq B.es.length cq∧gR W6 Y f A K∧∀p,p<4→p≠qn→W6.ownsRow (Y+1) 55 6 (mU f A K p) (f p).es.length ((ai (f p).es).map (Value.int .i64))):=ah fun W6 g6=>by
     have g6':W5.grownBy W6 (mU f A K qn).ownBlock:=by rw[mU,←(aa Jv).1,←(aa Jv).2.1,←(aa Jv).2.2];exact g6
     obtain⟨h1,h2⟩:=(aa OV).fb.ZM qn mZ g6';exact⟨(aa OV).cP.grown g6 (aa OV).cP.size (fun q hq=>by have:=(GS.lt q hq).1;have:=(aa OV).up;omega),(g6.block R (bQ (aa HR5)) (fun e=>aT GS (aa HR5) (by decide) R e.symm rfl)).trans (aa HR5),(g6.block X (aa HX5).lt (fun e=>aT GS (aa HX5) (by decide) X e.symm rfl)).trans (aa HX5),h1,h2⟩
    clear GS
    go_step
    go_step
    cases od with
    |none=>
     have xQ:Hid (o=(none,3)):=ah (by rw[aa HST];unfold stepT;rw[←aa HOD])
     go_upto_region 11 with(go_at_fn g;refine(aa HN5).mono ?_;rintro x W6 ⟨rfl,g6⟩;clear x0 x1 x2 x3 x4 x5 r0 r1 r2 r3 r4 r5 r6 r7 r8 r9)
     obtain⟨W7,hW7,b7⟩:∃W7,W7=W6.alloc (.cells (dp 0 0 0 0 0 none 0 0) 49)∧bZ W6 W7:=⟨_,rfl,aA _ _⟩;rw[←hW7];have Q3:=ah (Below.next (aa ZO) (Below.next (aa HG W6 g6).1 b7));clear hW7 b7 g6 HG HN5 Yj;go_wp2;go_ret2;exact⟨oZ.none (aa xQ),aa Q3⟩
    |some D=>
     have ZQ:B.cH:=by rw[(aa Jv).1];exact(aa OV).fb.cO qn mZ
     have HDW:Hid (D.cH∧(∀u∈ai D.es,(Lit.int .i64 u).wf=true)∧D.es.length≤B.es.length+1):=ah (by
      have h1:=oV ZQ (aa HF) (aa HOD).symm;have h2:=Sm ZQ (aa HOD).symm (by rw[(aa Jv).1];exact(aa OV).fb.wf qn mZ) (aa HVW)
      exact⟨h1.1,h2.1,h2.2⟩)
     clear ZQ
     go_upto_region 11 with(go_at_fn g;refine(aa HN5).mono ?_;rintro x W6 ⟨⟨a6,c6,rfl,own6,lie6,few6⟩,g6⟩;clear x0 x1 x2 x3 x4 x5 r0 r1 r2 r3 r4 r5 r6 r7 r8 r9)
     obtain⟨W7,hW7,kb7,b7⟩:∃W7,W7=W6.alloc (.cells (dp D.r D.e D.f D.t D.o a6 D.es.length c6) 49)∧aG W7 W6.heap.size D.r D.e D.f D.t D.o a6 D.es.length c6∧bZ W6 W7:=⟨_,rfl,aG.new _ _ _ _ _ _ _ _ _,aA _ _⟩;rw[←hW7];obtain⟨Z,hZ⟩:∃Z,Z=W6.heap.size:=⟨_,rfl⟩;rw[←hZ]at kb7⊢;obtain⟨G1,G2,G3,G4,G5⟩:=aa HG W6 g6;have H7:Hid (∀W,bZ W7 W→bZ W1 W∧km W R r∧aG W X B.r B.e B.f B.t B.o aq B.es.length cq∧aG W Z D.r D.e D.f D.t D.o a6 D.es.length c6∧gR W Y f A K∧(∀p,p<4→p≠qn→W.ownsRow (Y+1) 55 6 (mU f A K p) (f p).es.length ((ai (f p).es).map (Value.int .i64)))∧W.ownsRow (Y+1) 55 6 (.slice a6 D.es.length c6) D.es.length ((ai D.es).map (Value.int .i64))):=ah fun W b=>by
      have bb:=Below.next b7 b;exact⟨Below.next G1 bb,(bb.block _ (bQ G2)).trans G2,G3.next bb,kb7.next b,(bb.block _ G4.lt).trans G4,fun p hp fM=>aI (G5 p hp fM) (fun g _ hg=>bb.block g hg),aI own6 (fun g _ hg=>bb.block g hg)⟩
     have HL6:=ah lie6;have HF6:Hid (D.es.length<B.es.length→Td W1 W7 Y rs k f A K):=ah fun h=>(aa OV).next (Below.next (few6 h) b7);obtain⟨x0,x1,x2,x3,x4,x5⟩:=(G3.next b7).cells;obtain⟨z0,z1,z2,z3,z4,z5⟩:=kb7.cells;have aco:Hid (stepT B r=some D→∀W8,bZ W7 W8→∀W9,av Y W8 W9→gR W9 Y (oY f qn D) (oY A qn a6) (oY K qn c6)→Td W1 W9 Y rs (k+1) (oY f qn D) (oY A qn a6) (oY K qn c6)):=ah fun hs W8 b8 W9 t9 fb9=>by
      obtain⟨h1,h2,h3,h4,h5,h6,h7⟩:=aa H7 W8 b8;refine⟨t9.under h1 (aa OV).up,(aa OV).fb.put qn mZ h6 h7 (by rw[mU,←(aa Jv).1,←(aa Jv).2.1,←(aa Jv).2.2];exact aa HL6) (aa HDW).1 (aa HDW).2.1 t9 fb9, ?_,fun q hq=> ?_,(aa OV).up⟩
      ·rw[←aa HOO,aa HST,hs]
      ·by_cases e:q=qn
       ·subst e;rw[pY];have:=(aa HDW).2.2;have h8:=(aa OV).few q hq;rw[←(aa Jv).1]at h8;omega
       ·rw[nF _ _ e];have:=(aa OV).few q hq;omega
     have HHG:=ah Yj;clear hW7 b7 hZ g6 own6 lie6 few6 G1 G2 G3 G4 G5 kb7 HN5 HG Yj;by_cases hl:D.es.length<B.es.length
     case neg=>
      have HSS:Hid (stepT B r=some D):=ah (by unfold stepT;rw[←aa HOD];simp only;rw[if_neg (fun h=>hl h.1)]);have YS:¬(D.es.length:Int)<(B.es.length:Int):=by omega
      clear hl
      go_upto_region 13 with fail
      clear x0 x1 x2 x3 x4 x5 z0 z1 z2 z3 z4 z5 YS;obtain⟨k1,k2,k3,k4,k5,_⟩:=aa H7 W7 (Be _ _);obtain⟨r0,r1,r2,r3,r4,r5,r6,r7,r8,r9⟩:=k2.cells;rw[aa HQN]at r1;obtain⟨z0,z1,z2,z3,z4,z5⟩:=k4.cells;obtain⟨f0,f1,f2,f3,f4,f5⟩:=k5.at qn mZ;have ff:=k5.free;have hqi:¬4≤(qn:Int):=by omega
      have HK5:=ah k5;clear k1 k2 k3 k4 k5
      go_upto_region 14 with fail
      obtain⟨W9,hW9,HT9⟩:∃W9,W9=(((((W7.setCell ⟨Y,qn*6,none⟩ (iV D.r)).setCell ⟨Y,qn*6+1,none⟩ (iV D.e)).setCell ⟨Y,qn*6+2,none⟩ (iV D.f)).setCell ⟨Y,qn*6+3,none⟩ (iV D.t)).setCell ⟨Y,qn*6+4,none⟩ (iV D.o)).setCell ⟨Y,qn*6+5,none⟩ (.slice a6 D.es.length c6)∧Hid (Td W1 W9 Y rs (k+1) (oY f qn D) (oY A qn a6) (oY K qn c6)):=
       ⟨_,rfl,ah (aa aco (aa HSS) W7 (Be _ _) _ (Im _ _ _ _ _ _ _ _ _) ((aa HK5).put qn mZ D a6 c6))⟩
      rw[←hW9];clear hW9 r0 r1 r2 r3 r4 r5 r6 r7 r8 r9 z0 z1 z2 z3 z4 z5 f0 f1 f2 f3 f4 f5 ff HK5;go_wp2
      go_roundw
      case rel=>exact⟨k+1,_,_,_,by omega,by go_num,HT9⟩
      case measure=>simp[intOf];omega
     case pos=>
      have YS:(D.es.length:Int)<(B.es.length:Int):=by omega
      have Wa:jb W7 B aq cq:=by
       have:=(aa HF6 hl).fb.bin qn mZ;rw[←(aa Jv).1,←(aa Jv).2.1,←(aa Jv).2.2]at this;exact this
      by_cases ok:B.Ok
      case neg=>
       have HC:=j5 B aq cq W7 Wa ok;have xQ:Hid (o=(none,3)):=ah (by rw[aa HST];unfold stepT;rw[←aa HOD];simp only;rw[if_pos ⟨hl,ok⟩]);clear hl ok Wa
       go_wp2_with (go_at_call 176;refine HC.mono ?_;rintro e W8 ⟨rfl,d8⟩;clear HC x0 x1 x2 x3 x4 x5 z0 z1 z2 z3 z4 z5;have HB8:=ah (Below.next (aa ZO) (aa H7 W8 d8).1);clear d8)
       go_ret2;exact⟨oZ.none (aa xQ),aa HB8⟩
      case pos=>
       have HC:=gw B aq cq W7 Wa ok;have HSS:Hid (stepT B r=some D):=ah (by unfold stepT;rw[←aa HOD];simp only;rw[if_neg (fun h=>h.2 ok)]);clear hl ok Wa
       go_upto_region 13 with(go_at_call 176;refine HC.mono ?_;rintro e W8 ⟨rfl,d8⟩;clear HC x0 x1 x2 x3 x4 x5 z0 z1 z2 z3 z4 z5;have HB8:=ah d8;clear d8)
       clear YS;obtain⟨k1,k2,k3,k4,k5,_⟩:=aa H7 W8 (aa HB8);obtain⟨r0,r1,r2,r3,r4,r5,r6,r7,r8,r9⟩:=k2.cells;rw[aa HQN]at r1;obtain⟨z0,z1,z2,z3,z4,z5⟩:=k4.cells;obtain⟨f0,f1,f2,f3,f4,f5⟩:=k5.at qn mZ;have ff:=k5.free;have hqi:¬4≤(qn:Int):=by omega
       have HK5:=ah k5;clear k1 k2 k3 k4 k5
       go_upto_region 14 with fail
       obtain⟨W9,hW9,HT9⟩:∃W9,W9=(((((W8.setCell ⟨Y,qn*6,none⟩ (iV D.r)).setCell ⟨Y,qn*6+1,none⟩ (iV D.e)).setCell ⟨Y,qn*6+2,none⟩ (iV D.f)).setCell ⟨Y,qn*6+3,none⟩ (iV D.t)).setCell ⟨Y,qn*6+4,none⟩ (iV D.o)).setCell ⟨Y,qn*6+5,none⟩ (.slice a6 D.es.length c6)∧Hid (Td W1 W9 Y rs (k+1) (oY f qn D) (oY A qn a6) (oY K qn c6)):=
        ⟨_,rfl,ah (aa aco (aa HSS) W8 (aa HB8) _ (Im _ _ _ _ _ _ _ _ _) ((aa HK5).put qn mZ D a6 c6))⟩
       rw[←hW9];clear hW9 r0 r1 r2 r3 r4 r5 r6 r7 r8 r9 z0 z1 z2 z3 z4 z5 f0 f1 f2 f3 f4 f5 ff HK5;go_wp2
       go_roundw
       case rel=>exact⟨k+1,_,_,_,by omega,by go_num,HT9⟩
       case measure=>simp[intOf];omega
theorem Io(es:List Ev)(k:Nat):(ai es).take (6*k)=ai (es.take k):=by
 induction k generalizing es with
 |zero=>simp[ai]
 |succ k ih=>
  cases es with
  |nil=>simp[ai]
  |cons v es=>
   show(aX v++ai es).take (6*(k+1))=aX v++ai (es.take k);rw[show 6*(k+1)=(aX v).length+6*k by show _=6+_;omega,List.take_append];rw[AJ (by omega),BU,ih]
theorem l8.least{A B:tG}{la lb n k:Nat}(h:l8 A B la lb n)(hs:∀j,j<k→oN A B j)(ha:k≤la)(hb:k≤lb):k≤n:=by
 rcases AA n k with h1|h1
 ·rcases h.stop with h2|h2|h2
  ·omega
  ·omega
  ·exact absurd (hs n h1) h2
 ·exact h1
theorem Ip{es os:List Ev}{k:Nat}(h:es.take k=os.take k)(he:k≤es.length)(ho:k≤os.length):∀j,j<k→oN (ai es) (ai os) j:=by
 intro j hj i hi;rw[lL es j (by omega) i hi,lL os j (by omega) i hi];have:es[j]'(by omega)=os[j]'(by omega):=by
  have h1:(es.take k)[j]? =(os.take k)[j]? :=by rw[h]
  rw[AP,AP,if_pos hj,if_pos hj,Ag (by omega),Ag (by omega)]at h1;exact Option.some.inj h1
 rw[this]
def ZR(ad:tB)(c l:Nat):Option Addr:=if c=l then ad else ad.map (·.add (l*6))
theorem pZ:∀(es:List Ev) (l:Nat),ai (es.drop l)=(ai es).drop (6*l)
 |es,0=>by simp
 |[],l+1=>by simp[ai]
 |v::es,l+1=>by
  rw[List.drop_succ_cons,pZ es l];show(ai es).drop (6*l)=(aX v++ai es).drop (6*(l+1));have e1:List.drop ((aX v).length+6*l) (aX v)=[]:=Ca (by omega);rw[show 6*(l+1)=(aX v).length+6*l by simp[aX];omega,List.drop_append,e1,BU,List.nil_append]
theorem RowK.within{k:IntKind}{w:tA}{b off len:Nat}{L:tG}(h:RowK k w (some ⟨b,off,none⟩) len L)(d m:Nat)(hd:d+m≤len):RowK k w (some ⟨b,off+d,none⟩) m ((L.drop d).take m):=by
 have hl:=h.cy;refine⟨by rw[AL,AM];omega,fun u hu=>h.wf u (Bj (AK hu)),fun i hi=>⟨b,off+d,rfl,h.lt (by omega), ?_⟩⟩;have hc:=h.at (d+i) (by omega);rw[BX,hc];congr 2;simp only[List.getD_eq_getElem?_getD];rw[AP,if_pos hi,BI]
theorem Wb{w:tA}{ad:tB}{n c:Nat}{es:List Ev}(hr:RowK .i64 w ad (6*n) (ai es))(nil:ad=none→c=0)(l h:Nat)(h1:l≤h)(h2:h≤n)(hc:n≤c):
  RowK .i64 w (ZR ad c l) (6*(h-l)) (ai ((es.drop l).take (h-l)))∧(ZR ad c l=none→c-l=0):=by
 have vu:ai ((es.drop l).take (h-l))=((ai es).drop (6*l)).take (6*(h-l)):=by rw[←Io,pZ]
 unfold ZR;by_cases Dk:c=l
 ·rw[if_pos Dk];have:h-l=0:=by omega
  rw[this];simp only[List.take_zero];exact⟨RowK.nil _ _ _,fun _=>by omega⟩
 ·rw[if_neg Dk];cases ad with
  |none=>have:=nil rfl;omega
  |some x=>
   refine⟨?_,fun h=>by simp at h⟩;rcases Ch (h-l)with h0|h0
   ·rw[h0];simp only[List.take_zero];exact RowK.nil _ _ _
   ·obtain⟨b,off,hx⟩:=hr.form (by omega);cases hx;rw[vu];have:=hr.within (6*l) (6*(h-l)) (by omega);have e:(⟨b,off,none⟩:Addr).add (l*6)=⟨b,off+6*l,none⟩:=by rw[Bl];unfold Addr.add;split<;>simp_all
    simp only[Option.map_some];rw[e];exact this
theorem acq:Tryz.prog.underlying 176=some (.slice (Tryz.prog.elem 176)):=by kernel_rfl
theorem Wc(w:tA):(sizeOf (Tryz.prog.elem 176)).run Tryz.prog w= .ok 10 w:=by
 have:Tryz.prog.elem 176=167:=by kernel_rfl
 rw[this];simp[sizeOf,go_sem];rfl
theorem tw(b off n c h:Nat)(h2:h≤c)(w:tA):(Instr.sliceAt 176 (.slice (some ⟨b,off,none⟩) n c) none (some (iV h)) none).run Tryz.prog w= .ok (.slice (some ⟨b,off,none⟩) h c) w:=by
 rw[run_sliceAt_slice w _ _ _ _ _ acq,run_slice_h w _ _ _ _ acq _ _ (by omega) (by omega),Wc];simp[sliced,Addr.add_mid]
theorem yI:∀(l:List Rec) (S:List Bt),(dg S l).1=none→¬(dg S l).2=0
 |[],S,h=>by
  unfold dg at h⊢;split at h
  ·cases h
  ·rename_i g;rw[if_neg g];decide
 |r::l,S,h=>by
  unfold dg at h⊢;split at h
  ·rename_i g;rw[if_pos g];exact g
  ·rename_i g;rw[if_neg g];split at h
   ·decide
   ·rename_i D e;exact yI l (put S r D) h
theorem tx:∀(rs:List Rec) (k:Nat),(aC rs).take (10*k)=aC (rs.take k)
 |[],k=>by simp[aC]
 |v::rs,0=>by simp[aC]
 |v::rs,k+1=>by
  have hl:(aZ v).length=10:=rfl;show(aZ v++aC rs).take (10*(k+1))=aZ v++aC (rs.take k);rw[show 10*(k+1)=(aZ v).length+10*k by omega,List.take_length_add_append,tx rs k]
theorem Iq{w:tA}{a:tB}{rs:List Rec}(hr:RowK .i64 w a (10*rs.length) (aC rs))(k:Nat)(hk:k≤rs.length):RowK .i64 w a (10*(rs.take k).length) (aC (rs.take k)):=by
 have hl:(rs.take k).length=k:=by simp;omega
 rw[hl,←tx];refine⟨by have:=hr.cy;simp;omega,fun u hu=>hr.wf u (AK hu),fun i hi=> ?_⟩;obtain⟨b,off,e,hb,hc⟩:=hr.cell i (by omega);refine⟨b,off,e,hb,hc.trans ?_⟩;simp only[List.getD_eq_getElem?_getD];rw[List.getElem?_take_of_lt hi]
theorem Sp(rs:List Rec)(b off c R h:Nat)(bv:Bool)(w:tA)(hR:w.heap[R]? =some (.cells #[.slice (some ⟨b,off,none⟩) rs.length c] 176 (0,0)))(hr:RowK .i64 w (some ⟨b,off,none⟩) (10*rs.length) (aC rs))(hc:rs.length≤c)(hh:h<rs.length)(hlen:(rs.length+1)*48≤140737488355328)
  (hb:bv=true↔(dg (kL fY) (rs.take (h+1))).1=none):
  cA 147 #[iV h,.pointer (some ⟨R,0,none⟩)] w (rB (.bool bv) w):=by
 have hT:=uT (rs.take (h+1)) (some ⟨b,off,none⟩) c w (Iq hr (h+1) (by omega)) (by simp;omega);have hl:(rs.take (h+1)).length=h+1:=by simp;omega
 rw[hl]at hT;have hcut:=fun w=>tw b off rs.length c (h+1) (by omega) w;have k0:w.cell? ⟨R,0,none⟩=some (.slice (some ⟨b,off,none⟩) rs.length c):=by simp[World.cell?,hR]
 have hE:=yI (rs.take (h+1)) (kL fY);generalize dg (kL fY) (rs.take (h+1))=o at hT hE hb;obtain⟨h1,hh1⟩:∃h1:Nat,h1=h+1:=⟨_,rfl⟩;rw[←hh1]at hT hcut;have hh2:(h:Int)+1=(h1:Int):=by omega
 have HH:=ah (And.intro hE hb);clear hE hb hl hr hR hh1;have hT':cA 145 #[.slice (some ⟨b,off,none⟩) h1 c] w fun x w'=>∃v er,x= .returned (.tuple #[v,iV er])∧Hid (er=0↔¬o.1=none)∧bZ w w':=hT.mono fun x w' ⟨h1,h2⟩=>by
  cases ho:o.1 with
  |none=>exact⟨_,_,h1.1 ho,ah ⟨fun h=>absurd h ((aa HH).1 ho),fun h=>absurd rfl h⟩,h2⟩
  |some S=>obtain⟨Y,f,A,K,e,e2,_⟩:=h1.2 S ho;exact⟨_,_,e,ah ⟨(fun _ h=>by cases h),fun _=>rfl⟩,h2⟩
 clear hT;go_enter Tryz.func147,Tryz.ntmps147
 go_wp2_with (go_at_call 145;refine hT'.mono ?_;rintro e W2 ⟨v2,er,rfl,HEr,d2⟩;clear hT')
 go_ret;refine⟨?_,d2⟩;have h3:(er !=0)=bv:=by
  have h4:=aa HEr;have h5:=(aa HH).2;cases bv with
  |true=>
   have:¬er=0:=fun e=>h4.1 e (h5.1 rfl);simpa using this
  |false=>
   have:er=0:=h4.2 (fun e=>by have:=h5.2 e;cases this);simp[this]
 rw[←h3];rfl
def ZS(w w':tA)(o:Option (List Bt)×Nat×Int)(x:Ending):Prop:=
 (o.1=none→x= .returned (.tuple #[.slice none 0 0,iV o.2.1,iV o.2.2]))∧
 ∀S,o.1=some S→∃Y f A K,x= .returned (.tuple #[.slice (some ⟨Y,0,none⟩) 4 4,iV 0,iV 0])∧o.2.1=0∧o.2.2=0∧S=kL f∧KF w' Y f A K∧w.heap.size≤Y
theorem My{W:tA}{v:tK}{j e:Int}{tmps:tR}(t2:tmps[2]? =some v)(t3:tmps[3]? =some (iV j))(t4:tmps[4]? =some (iV e)):(results Tryz.f94 tmps).run Tryz.prog W= .ok (.tuple #[v,iV j,iV e]) W:=by
 simp[results,Tryz.results94,t2,t3,t4]
theorem Ir:∀B∈kL fY,B.Ok:=(tv fY Bt.Ok).2 fun _ _=>Bt.cI
theorem Wd(rs:List Rec)(a:tB)(c:Nat)(w:tA)(hr:RowK .i64 w a (10*rs.length) (aC rs))(hc:rs.length≤c)(hlen:(rs.length+1)*48≤140737488355328):
  cA 94 #[.slice a rs.length c] w fun x w'=>ZS w w' (kE (kL fY) 0 rs) x∧bZ w w':=by
 have HR:Hid (∀W,bZ w W→RowK .i64 W a (10*rs.length) (aC rs)):=ah fun W b=>hr.below b;clear hr;obtain⟨W,hW,bx,B0⟩:∃W,W=w.alloc (.cells #[.slice a rs.length c] 176)∧W.heap[w.heap.size]? =some (.cells #[.slice a rs.length c] 176 (0,0))∧bZ w W:=⟨_,rfl,AQ _ _,aA _ _⟩;have HT:=uT rs a c W (aa HR W B0) hlen;have uw:W.cell? ⟨w.heap.size,0,none⟩=some (.slice a rs.length c):=by simp[World.cell?,bx]
 obtain⟨o,ho⟩:∃o,o=kE (kL fY) 0 rs:=⟨_,rfl⟩;rw[←ho];have HB:=ah (And.intro bx B0);cases h1:o.1 with
 |some S=>
  have ht:=Ij rs (kL fY) S 0 o.2.1 o.2.2 rfl Ir (by rw[←ho,←h1]);rw[ht.1]at HT;have HT':cA 145 #[.slice a rs.length c] W fun x w'=>∃Y f A K,x= .returned (.tuple #[.slice (some ⟨Y,0,none⟩) 4 4,iV 0])∧Hid (S=kL f∧KF w' Y f A K∧W.heap.size≤Y)∧bZ W w':=HT.mono fun x w' ⟨g1,g2⟩=>by
   obtain⟨Y,f,A,K,e,_,e3,e4,e5⟩:=g1.2 S rfl;exact⟨Y,f,A,K,e,ah ⟨e3,e4,e5⟩,g2⟩
  have HH:Hid (o.1=some S∧o.2.1=0∧o.2.2=0):=ah ⟨h1,ht.2⟩;clear HT ho h1 ht bx B0;go_enter Tryz.func94,Tryz.ntmps94
  go_upto_region 1 with fail
  rw[←hW];clear hW
  go_wp2_with (go_at_call 145;refine HT'.mono ?_;rintro e W2 ⟨Y,f,A,K,rfl,HY,d2⟩;clear HT' uw)
  refine Al (My rfl rfl rfl) rfl ⟨⟨(fun h=>by rw[(aa HH).1]at h;cases h),fun S' h=> ?_⟩,Below.next (aa HB).2 d2⟩;rw[(aa HH).1]at h;cases h;exact⟨Y,f,A,K,rfl,(aa HH).2.1,(aa HH).2.2,(aa HY).1,(aa HY).2.1,AN (aa HB).2.size (aa HY).2.2⟩
 |none=>
  obtain⟨n,hn,hj,he,hle,Ny⟩:=DT rs (kL fY) 0 o.2.1 o.2.2 rfl Ir (by rw[←ho,←h1]);have qQ:=aa HR W B0;obtain⟨b,off,rfl⟩:=qQ.form (by omega);have htl:rs.take rs.length=rs:=Bh;have ju:=Ny rs.length hn;rw[htl]at ju;have uN:Hid (¬(dg (kL fY) rs).2=0):=ah (yI rs (kL fY) ju.1);have HT':cA 145 #[.slice (some ⟨b,off,none⟩) rs.length c] W fun x w'=>∃er,x= .returned (.tuple #[.slice none 0 0,iV er])∧¬er=0∧bZ W w':=HT.mono fun x w' ⟨g1,g2⟩=>⟨_,g1.1 ju.1,aa uN,g2⟩;have HS:Hid (∀W',bZ W W'→cA 146 #[iV rs.length,.func (.func 147) #[] #[.pointer (some ⟨w.heap.size,0,none⟩)]] W' (rB (iV n) W')):=ah fun W' b'=>
   KE 147 w.heap.size rs.length n W' (by omega) (by omega) (enters_of Tryz.func147 (by kernel_rfl) rfl) (fun h Yw hh b''=>Sp rs b off c w.heap.size h (decide (n≤h)) Yw (((Below.next b' b'').block _ (bQ (aa HB).1)).trans (aa HB).1) (aa HR Yw (Below.next (aa HB).2 (Below.next b' b''))) hc hh hlen (by
    rw[decide_eq_true_eq];constructor
    ·intro h1;exact(Ny (h+1) (by omega)).1
    ·intro h1;rcases AA h n with h2|h2
     ·obtain⟨S',hS⟩:=hle (h+1) (by omega);rw[hS]at h1;cases h1
     ·exact h2))
  have HE:Hid (∀W',bZ W W'→cA 145 #[.slice (some ⟨b,off,none⟩) ((n+1:Nat)) c] W' (rB (.tuple #[.slice none 0 0,iV o.2.2]) W')):=ah fun W' b'=>by
   have h1:=uT (rs.take (n+1)) (some ⟨b,off,none⟩) c W' (Iq (aa HR W' (Below.next (aa HB).2 b')) (n+1) (by omega)) (by simp;omega);rw[show(rs.take (n+1)).length=n+1 by simp;omega]at h1;refine h1.mono fun x w' ⟨g1,g2⟩=>⟨?_,g2⟩;have h2:=Ny (n+1) (by omega);rw[g1.1 h2.1,h2.2 rfl]
  have hcut:=fun w=>tw b off rs.length c (n+1) (by omega) w;have Yv:Hid (o.1=none∧o.2.1=n):=ah ⟨h1,by omega⟩;obtain⟨er2,her2⟩:∃er2,er2=o.2.2:=⟨_,rfl⟩;rw[←her2]at HE;have HER:=ah her2;obtain⟨n1,sR⟩:∃n1:Nat,n1=n+1:=⟨_,rfl⟩;rw[←sR]at HE hcut;have zM:(n:Int)+1=(n1:Int):=by omega
  have DW:(n:Int)≤1000000000000000:=by omega
  clear HT ho h1 bx B0 qQ htl ju uN hle Ny hj he her2 sR HR;go_enter Tryz.func94,Tryz.ntmps94
  go_upto_region 1 with fail
  rw[←hW];clear hW
  go_upto_region 2 with(go_at_call 145;refine HT'.mono ?_;rintro e W2 ⟨er,rfl,G_,d2⟩;clear HT' uw)
  have aiz:(er==0)=false:=by simpa using G_
  have Ge:W2.cell? ⟨w.heap.size,0,none⟩=some (.slice (some ⟨b,off,none⟩) rs.length c):=by simp[World.cell?,(d2.block _ (bQ (aa HB).1)).trans (aa HB).1]
  have HS2:=aa HS W2 d2;have UO:=ah d2;clear G_ HS d2
  go_upto_region 5 with(go_at_call 146;refine HS2.mono ?_;rintro e W3 ⟨rfl,d3⟩;clear HS2 Ge)
  have NU:W3.cell? ⟨w.heap.size,0,none⟩=some (.slice (some ⟨b,off,none⟩) rs.length c):=by simp[World.cell?,((Below.next (aa UO) d3).block _ (bQ (aa HB).1)).trans (aa HB).1]
  have Mq:=aa HE W3 (Below.next (aa UO) d3);have HD3:=ah d3;clear HE d3
  go_wp2_with (go_at_call 145;refine Mq.mono ?_;rintro e W4 ⟨rfl,d4⟩;clear Mq NU)
  refine Al (My rfl rfl rfl) rfl ⟨⟨fun _=> ?_,fun S h=>by rw[(aa Yv).1]at h;cases h⟩,Below.next (aa HB).2 (Below.next (Below.next (aa UO) (aa HD3)) d4)⟩;rw[(aa Yv).2,←aa HER];rfl
section
open Rv
structure Nt(w W:tA)(R:Nat)(s:St)(an:An)(bw:List An)(va:tK):Prop where
 tg:Tg W R 267 [va] s an
 own:W.ownsRow (R+1) 59 4 va bw.length ((kP bw).map (Value.int .i64))
 cP:bZ w W
 up:w.heap.size≤R
theorem Nt.next{w W W':tA}{R:Nat}{s:St}{an:An}{bw:List An}{va:tK}(h:Nt w W R s an bw va)(b:bZ W W'):Nt w W' R s an bw va:=⟨h.tg.next b,aI h.own (fun g _ hg=>b.block g hg),Below.next h.cP b,h.up⟩
def acs(w:tA)(R:Nat)(s:St)(bw:List An)(v:Ev)(e:Ending)(w':tA):Prop:=
 (e= .returned (.bool true)∧∃s' qz va',v.Ok∧Step s v s' qz true∧Nt w w' R s' qz (bw++[qz]) va')∨(e= .returned (.bool false)∧(¬v.Ok∨∃s' qz,Step s v s' qz false)∧bZ w w')
theorem ZT:jv Tryz.prog 218 59 4 32=true:=by kernel_rfl
theorem Sq(w W:tA)(R:Nat)(s:St)(an:An)(bw:List An)(va:tK)(v:Ev)(ok:s.Ok)(hn:bw.length≤2000)(N:Nt w W R s an bw va):
  cA 183 #[.pointer (some ⟨R,0,none⟩),oK v] W fun e w'=>acs w R s bw v e w':=by
 obtain⟨_,_,_,_,_,tb,_⟩:=N.tg.ex;refine en (H:=[]) 25 [vv (.pointer (some ⟨R,0,none⟩)),vg (Zq v)] Tryz.func183 rfl rfl (m0 W) (r [1] rfl fun α=>ky rfl (by kernel_rfl) fun x hS=> ?_);have N1:=N.next hS.now.2;refine(G9 s an v x R 267 [va] ok N1.tg (.inr ⟨_,rfl⟩)).mono ?_;rintro _ w' ⟨s',qz,ch,er,rfl,hd,h1,h2,o⟩;have cP:=o.toBelow N1.cP N1.up rfl;cases ch
 ·refine⟨vv (.bool false),[],_,_,_,rfl,.inl rfl,Mem.start (M:=fun _=>False) (G:=fun _=>True) (R:=fun w2=>bZ w w2) (fun _ h=>h.elim) (fun _ _=>trivial) (fun w2 b=>Below.next cP b),r [] rfl fun _=>fin fun w2 hS=> .inr ⟨rfl, ?_,hS.now.2⟩⟩;cases hd with
  |step hv st=>exact .inr ⟨s',qz,st⟩
  |form _ hv h0=>exact .inl fun eC=>h0 (hv.symm.trans eC)
 obtain⟨hv,st⟩:v.Ok∧Step s v s' qz true:=by cases hd with|step hv st=>exact⟨hv,st⟩
 obtain⟨a1,c1,a2,c2,ws,t,r1,r2,m1,m2,hW,x1,x2,l1,l2⟩:=(h1 rfl).ex;have o1:aS (qF s'.ep s'.nx s'.gv (.slice a1 s'.rn c1) (.slice a2 s'.ln c2) ws) 41:=(uI.mk (w:=w') ⟨a1,c1,a2,c2,ws,rfl,r1,r2,l1,l2,m1,m2,hW⟩).one;have hRx:R<x.heap.size:=Aj tb.lt hS.now.2.size;have own:=N1.own;have NF:∀b,va.ownBlock=some b→R<b∧b<x.heap.size:=fun b hb=>by
  rcases own.2 with⟨rfl,_⟩|⟨g,_,_,rfl,h1,h2,_⟩
  ·cases hb
  ·cases hb;exact⟨h1,(BJ.1 h2).1⟩
 have FA:=aI own fun g hg aM=>o.block g aM (Nat.ne_of_gt (NF g hg).1);have sC:=own.1;have Gg:Mem w' (hs [UQ R 267 (qF s'.ep s'.nx s'.gv (.slice a1 s'.rn c1) (.slice a2 s'.ln c2) ws) qz [.o va]]) (fun b=>va.ownBlock=some b∨False) (fun w=>RowK .i64 w a1 (2*s'.rn) s'.R∧RowK .i64 w a2 (4*s'.ln) s'.L) (fun w2=>bZ w w2∧w2.ownsRow (R+1) 59 4 va bw.length ((kP bw).map (Value.int .i64))):=by
  refine⟨fun e he=>by cases Ab.1 he;exact(G8 (.inr ⟨_,rfl⟩)).1 t,fun i j e e' hi hj _=> ?_,fun e he hm=> ?_,fun b hb=> ?_,fun w2 c=> ?_,fun w2 c=>⟨?_, ?_⟩⟩
  ·obtain⟨hi,_⟩:=Am.1 hi;obtain⟨hj,_⟩:=Am.1 hj;have hi:i<1:=hi;have hj:j<1:=hj;omega
  ·cases Ab.1 he;exact hm.elim (fun h=>Nat.lt_irrefl _ (NF _ h).1) id
  ·exact hb.elim (fun h=>Aj (NF b h).2 o.size) False.elim
  ·have key:∀y:Addr,x.heap.size≤y.block→¬(y.block∈(hs [UQ R 267 (qF s'.ep s'.nx s'.gv (.slice a1 s'.rn c1) (.slice a2 s'.ln c2) ws) qz [.o va]]).map bU.a∨va.ownBlock=some y.block∨False):=fun y hy k=>by
    rcases k with k|k|k
    ·have:y.block=R:=Ab.1 k;omega
    ·have:=(NF _ k).2;omega
    ·exact k
   exact⟨mG r1 c fun y hy _=>key y (x1 y hy),mG r2 c fun y hy _=>key y (x2 y hy)⟩
  ·exact cP.trans (c.below (AN cP.size (Aa _)) fun b hb hm=>by
    have:b=R:=Ab.1 hm;have:=N.up
    omega)
  ·exact aI FA fun g hg aM=>c.block g aM fun hm=>by
    have:g=R:=Ab.1 hm;have:=(NF g hg).1;omega
 refine⟨vv (.bool true),_,_,_,_,rfl,.inl rfl,Gg,sv 0 (vp 0 0 R) rfl (r [3] rfl fun _=>qT 1 rfl ZT (fun w2 hS=>(hS.at 0 rfl).lt) (fun w1 w2 h c=>cV h c (by have:=N.up;omega)) fun g c hc=> ?_)⟩;refine r [] rfl fun _=>fin fun w2 hS=> .inl ⟨rfl,s',qz,_,hv,st,⟨⟨a1,c1,a2,c2,ws,(G8 (.inr ⟨_,rfl⟩)).2 (hS.at 0 rfl),hS.now.1.1,hS.now.1.2,m1,m2,hW,fun y hy=>by have:=x1 y hy;omega,fun y hy=>by have:=x2 y hy;omega,l1,l2⟩, ?_,hS.now.2.1,N.up⟩⟩;have:=hS.now.2.2;rw[vB,AB,Ac];exact this
inductive Av(es:List Ev)(w w':tA):Value→Int→Prop
 |bad {er:Int} (h:¬er=0) (hr:Rv es St.zero er):Av es w w' (.slice none 0 0) er
 |told {s:St} {va:tK} (bw:List An) (h:es.length≤2000) (ht:bk es s bw) (own:w'.ownsRow w.heap.size 59 4 va bw.length ((kP bw).map (Value.int .i64))):Av es w w' va 0
def NtI(w:tA)(R:Nat)(es:List Ev)(k:Nat)(W:tA):Prop:=∃s an bw va,bk (es.take k) s bw∧Nt w W R s an bw va
def NtJ(w:tA)(es:List Ev)(W:tA):Prop:=L5 es∧bZ w W
theorem OW(w:tA)(R:Nat)(es:List Ev)(hl:es.length≤2000):xZ 183 (.pointer (some ⟨R,0,none⟩)) es (NtI w R es) (NtJ w es) where
 enters:=enters_of Tryz.func183 (by kernel_rfl) rfl
 step:=by
  intro k hk W ⟨s,an,bw,va,ht,N⟩;have hlen:=ht.len;rw[AL]at hlen;refine(Sq w W R s an bw va es[k] ht.wf.ok (by omega) N).mono ?_;rintro e w' (⟨rfl,s',qz,va',hv,st,N'⟩|⟨rfl,hb,b⟩)
  ·refine .inl ⟨rfl,s',qz,_,va', ?_,N'⟩;rw[Bf hk];exact .snoc ht hv st
  ·exact .inr ⟨rfl,⟨k,s,bw,hk,ht,hb⟩,b⟩
 keep:=by
  intro k W W' ⟨s,an,bw,va,ht,N⟩ b;exact⟨s,an,bw,va,ht,N.next b⟩
abbrev Mz:Array Value:= #[iV 0,iV 0,iV 0,.slice none 0 0,.slice none 0 0,iV 0,.bool false,.bool false,.bool false,.bool false,.bool false,.bool false,.bool false,.bool false,iV 0,.bool false,.bool false,.bool false,.bool false,.bool false,.bool false,.bool false,.bool false,iV 0,.bool false,.bool false,.bool false,.bool false,.bool false,.bool false,.bool false,.bool false,iV 0,.bool false,.bool false,.bool false,.bool false,.bool false,.bool false,.bool false,.bool false,iV 0,iV 0,iV 0,iV 0,.slice none 0 0]
theorem acu:Mz=(pQ 0 0 0 (.slice none 0 0) (.slice none 0 0) eP 0 0 0 0 [.slice none 0 0]).toArray:=rfl
theorem We{w W:tA}(h:W=w.alloc (.cells Mz 267)):Nt w W w.heap.size St.zero An.zero [] (.slice none 0 0):=by
 subst h;refine⟨⟨none,0,none,0,eP, ?_,RowK.nil _ _ _,RowK.nil _ _ _,fun _=>rfl,fun _=>rfl,jE,fun x hx=>(by cases hx),fun x hx=>(by cases hx),Aa _,Aa _⟩,Bn _ _ _ _,aA _ _,Aa _⟩;unfold dK;rw[AQ,acu];rfl
theorem Wg{ops:tP}{rest:List Oper}{o:Oper}{a:Act}{Q:tI}{w:tA}(d:Nat)(ho:o.op= .alloc 267)(hd:o.dst=some d)(hw:Region.wanted o (yielded ops a.tmps)=true)
  (h:∀w',Nt w w' w.heap.size St.zero An.zero [] (.slice none 0 0)→wpList Tryz.prog ops Q rest (a.put (some d) (.pointer (some ⟨w.heap.size,0,none⟩))) w'):wpList Tryz.prog ops Q (o::rest) a w:=
 Bm fun K hK=>by
  rw[if_pos hw];have:=hK _ _ (h _ (We (w:=w) rfl));rw[←hd]at this;unfold Oper.wp;simp only[execOp,ho];simpa[go_sem]using this
theorem vR{W:tA}{x:tK}{er:Int}{tmps:tR}(t2:tmps[2]? =some x)(t3:tmps[3]? =some (iV er)):
  (results Tryz.f141 tmps).run Tryz.prog W= .ok (.tuple #[x,iV er]) W:=by
 simp[results,Tryz.results141,t2,t3]
theorem Is(es:List Ev)(a:tB)(cap:Nat)(w:tA)(hr:RowK .i64 w a (6*es.length) (ai es)):
  cA 141 #[.slice a es.length cap] w fun e w'=>∃va er,e= .returned (.tuple #[va,iV er])∧Av es w w' va er∧bZ w w':=by
 go_enter Tryz.func141,Tryz.ntmps141
 go_upto_region 2 with(refine Wg 4 rfl rfl rfl ?_;intro W1 N1)
 have HE:Hid (cA 37 #[.slice a es.length cap,.func (.func 183) #[.pointer (some ⟨w.heap.size,0,none⟩)] #[]] W1 fun e w'=>∃er:Int,e= .returned (iV er)∧((er=0∧es.length≤2000∧NtI w w.heap.size es es.length w')∨(¬er=0∧Rv es St.zero er∧bZ w w'))):=ah (by
  by_cases hl:es.length≤2000
  ·refine(Ha 183 w.heap.size es _ _ (OW w w.heap.size es hl) a cap W1 ⟨_,_,_,_,by simpa using bk.nil,N1⟩ hl (fun k W hI=>by obtain⟨_,_,_,_,_,N⟩:=hI;exact hr.below N.cP)).mono ?_;rintro e w' (⟨rfl,h1⟩|⟨rfl,h1⟩)
   ·exact⟨0,rfl,.inl ⟨rfl,hl,h1⟩⟩
   ·exact⟨3,rfl,.inr ⟨by decide,.form hl h1.1,h1.2⟩⟩
  ·refine(DC _ _ _ a cap W1 (by omega)).mono ?_;rintro e w' ⟨rfl,b3⟩
   exact⟨1,rfl,.inr ⟨by decide,.size (by omega),Below.next N1.cP b3⟩⟩)
 clear N1
 go_upto_region 3 with(go_at_call 37;refine(aa HE).mono ?_;rintro e W3 ⟨er,rfl,HH⟩;clear HE)
 rcases HH with⟨rfl,hl,s,an,bw,va,ht,N⟩|⟨h0,rv,b⟩
 ·rw[Bh]at ht;obtain⟨_,_,_,_,_,tb,_⟩:=N.tg.ex;have y45:=tb.more;have HN:=ah N;have HT:=ah ht;clear tb N ht;go_wp2;exact Al (vR rfl rfl) rfl ⟨_,_,rfl,.told bw hl (aa HT) (lJ (aa HN).own (by omega)),(aa HN).cP⟩
 ·have HV:=ah rv;have HB:=ah b;clear rv b;go_wp2;exact Al (vR rfl rfl) rfl ⟨_,_,rfl,.bad h0 (aa HV),aa HB⟩
end
theorem Step.Sr{s s':St}{v:Ev}{an:An}{ch:Bool}(ok:s.Ok)(h:Step s v s' an ch):∀u∈fp an,(Lit.int .i64 u).wf=true:=by
 have e0:=ok.count.e0;have e1:=ok.count.e1;have g0:=ok.count.g0;have g1:=ok.count.g1;intro u hu;cases h with
 |recv hk hr hg=>
  have hb:=gq ok hr;simp only[fp,List.mem_cons,List.not_mem_nil,or_false]at hu;rcases hu with rfl|rfl|rfl|rfl
  ·decide
  ·exact sV e0 (by omega)
  ·exact sV g0 (by omega)
  ·exact sV hb.2.2.1 (by have:=hb.2.2.2;simp at this⊢;omega)
 |iG=>simp only[fp,List.mem_cons,List.not_mem_nil,or_false]at hu;rcases hu with rfl|rfl|rfl|rfl<;>decide
 |iH=>simp only[fp,List.mem_cons,List.not_mem_nil,or_false]at hu;rcases hu with rfl|rfl|rfl|rfl<;>decide
 |fO=>simp only[fp,List.mem_cons,List.not_mem_nil,or_false]at hu;rcases hu with rfl|rfl|rfl|rfl<;>decide
 |zZ=>simp only[fp,List.mem_cons,List.not_mem_nil,or_false]at hu;rcases hu with rfl|rfl|rfl|rfl<;>decide
 |eu=>simp only[fp,List.mem_cons,List.not_mem_nil,or_false]at hu;rcases hu with rfl|rfl|rfl|rfl<;>decide
 |fP=>simp only[fp,List.mem_cons,List.not_mem_nil,or_false]at hu;rcases hu with rfl|rfl|rfl|rfl<;>decide
 |ew=>simp only[fp,List.mem_cons,List.not_mem_nil,or_false]at hu;rcases hu with rfl|rfl|rfl|rfl<;>decide
 |fQ=>simp only[fp,List.mem_cons,List.not_mem_nil,or_false]at hu;rcases hu with rfl|rfl|rfl|rfl<;>decide
 |z7=>simp only[fp,List.mem_cons,List.not_mem_nil,or_false]at hu;rcases hu with rfl|rfl|rfl|rfl<;>decide
 |fR=>simp only[fp,List.mem_cons,List.not_mem_nil,or_false]at hu;rcases hu with rfl|rfl|rfl|rfl<;>decide
 |stop=>simp only[fp,List.mem_cons,List.not_mem_nil,or_false]at hu;rcases hu with rfl|rfl|rfl|rfl<;>decide
theorem bk.Sr{es:List Ev}{s:St}{bw:List An}(h:bk es s bw):∀u∈kP bw,(Lit.int .i64 u).wf=true:=by
 induction h with
 |nil=>intro u hu;cases hu
 |snoc h hv st ih=>
  intro u hu;rw[vB]at hu;rcases Ao.1 hu with hu|hu
  ·exact ih u hu
  ·exact st.Sr h.wf.ok u hu
def gh(mo:tT)(hn he:tH)(wt af:tK)(tu:Int):Nat→Value:=fun k=>
 if k<188 then mo (k/47) (k % 47)else if k<196 then(if(k-188) % 2=0 then iV (hn ((k-188)/2))else iV (he ((k-188)/2)))else lF [wt,af,iV tu] (k-196)
def kF(hd:tM)(me:tD)(tl:tM):Nat→Value:=fun k=>if k<5 then lF hd k else if k<204 then me (k-5)else lF tl (k-204)
def Qp:Nat→Nat→Value:=fun _=>mF 0 0 0 0 0 (.slice none 0 0) zQ
abbrev ZU:Nat→Value:=gh Qp (fun _=>0) (fun _=>0) (.slice none 0 0) .nilFunc 0
theorem Yx{mo:tT}{hn he:tH}{wt af:tK}{tu:Int}{q j:Nat}(hq:q<4)(hj:j<47):gh mo hn he wt af tu (q*47+j)=mo q j:=by
 unfold gh;rw[if_pos (by omega),show(q*47+j)/47=q by omega,show(q*47+j) % 47=j by omega]
theorem acv{mo:tT}{hn he:tH}{wt af:tK}{tu:Int}{q:Nat}(hq:q<4):gh mo hn he wt af tu (188+q*2)=iV (hn q):=by
 unfold gh;rw[if_neg (by omega),if_pos (by omega),if_pos (by omega),show(188+q*2-188)/2=q by omega]
theorem acw{mo:tT}{hn he:tH}{wt af:tK}{tu:Int}{q:Nat}(hq:q<4):gh mo hn he wt af tu (188+q*2+1)=iV (he q):=by
 unfold gh;rw[if_neg (by omega),if_pos (by omega),if_neg (by omega),show(188+q*2+1-188)/2=q by omega]
def au{α:Type}(m:Nat→α)(q:Nat)(x:α):Nat→α:=fun p=>if p=q then x else m p
theorem Ss{mo:tT}{hn he:tH}{wt af:tK}{tu:Int}{q:Nat}{g:tD}(hq:q<4)(i:Nat):gf (gh mo hn he wt af tu) (q*47) 47 g i=gh (au mo q g) hn he wt af tu i:=by
 unfold gf;by_cases hc:q*47≤i∧i<q*47+47
 ·rw[if_pos hc];obtain⟨j,rfl⟩:∃j,i=q*47+j:=⟨i-q*47,by omega⟩;rw[Yx hq (by omega),show q*47+j-q*47=j by omega];simp[au]
 ·rw[if_neg hc];unfold gh;by_cases h1:i<188
  ·rw[if_pos h1,if_pos h1];have:¬i/47=q:=by omega
   simp[au,this]
  ·rw[if_neg h1,if_neg h1]
theorem DX{hd tl:tM}{me:tD}{k:Nat}(h:k<199):kF hd me tl (5+k)=me k:=by
 unfold kF;rw[if_neg (by omega),if_pos (by omega),show 5+k-5=k by omega]
theorem o4{hd tl:tM}{mo:tT}{hn he:tH}{wt af:tK}{tu:Int}{q:Nat}{g:tD}(hq:q<4)(i:Nat):gf (kF hd (gh mo hn he wt af tu) tl) (5+q*47) 47 g i=kF hd (gh (au mo q g) hn he wt af tu) tl i:=by
 by_cases hc:5≤i∧i<204
 ·obtain⟨j,rfl⟩:∃j,i=5+j:=⟨i-5,by omega⟩;rw[DX (by omega),←Ss hq];unfold gf;by_cases h2:q*47≤j∧j<q*47+47
  ·rw[if_pos (by omega),if_pos h2,show 5+j-(5+q*47)=j-q*47 by omega]
  ·rw[if_neg (by omega),if_neg h2,DX (by omega)]
 ·rw[pH _ _ _ _ _ (by omega)];unfold kF;by_cases h5:i<5
  ·rw[if_pos h5,if_pos h5]
  ·rw[if_neg h5,if_neg h5,if_neg (by omega),if_neg (by omega)]
theorem nG{hd tl:tM}{mo:tT}{hn he:tH}{wt af:tK}{tu:Int}{q j:Nat}(hq:q<4)(hj:j<47):kF hd (gh mo hn he wt af tu) tl (5+q*47+j)=mo q j:=by
 rw[BX,DX (by omega),Yx hq hj]
theorem uU{mo:tT}{hn he:tH}{a:tB}{n c:Nat}{af:tK}{tu:Int}(hm:∀q,q<4→aS (mo q) 47)(ha:af.oneCell'=true):aS (gh mo hn he (.slice a n c) af tu) 199:=fun i hi=>by
 unfold gh;by_cases h1:i<188
 ·rw[if_pos h1];exact hm _ (by omega) _ (by omega)
 ·rw[if_neg h1];by_cases h2:i<196
  ·rw[if_pos h2];split<;>rfl
  ·rw[if_neg h2];obtain rfl|rfl|rfl:i=196∨i=197∨i=198:=by omega
   ·rfl
   ·exact ha
   ·rfl
theorem wZ:∀q,q<4→aS (Qp q) 47:=fun _ _=>aag xY
section
open Rv
theorem tz(w:tA):cA 43 #[] w (rB (vF (gh Qp (eD 4) bp (.slice none 0 0) .nilFunc 0) 199) w):=by
 have o1:aS (gh Qp (eD 4) bp (.slice none 0 0) .nilFunc 0) 199:=uU wZ rfl;exact en (H:=[]) 4 [] Tryz.func43 rfl rfl (m0 w) (r [] rfl fun α=>Rv.cb rfl (vg [.o (iV (eD 4 0)),.o (iV (bp 0)),.o (iV (eD 4 1)),.o (iV (bp 1)),.o (iV (eD 4 2)),.o (iV (bp 2)),.o (iV (eD 4 3)),.o (iV (bp 3))]) (fun w _=>Mm w) (r [] rfl fun _=>pv (vg [.o (iV (eD 4 0)),.o (iV (bp 0)),.o (iV (eD 4 1)),.o (iV (bp 1)),.o (iV (eD 4 2)),.o (iV (bp 2)),.o (iV (eD 4 3)),.o (iV (bp 3))]) rfl (fun w=>by kernel_rfl) (r [] rfl fun _=>gn 0 (gh Qp (eD 4) bp (.slice none 0 0) .nilFunc 0) (r [] rfl fun _=>fin fun w hS=>⟨rfl,hS.now.2⟩))))
theorem Su(X N:Nat)(i:Int)(da:tB)(dn dc:Nat)(dl:tG)(sy:Int)(mo:tT)(hn he:tH)(wt af:tK)(tu ct:Int)(sk:Bool)(kp:Int)(w:tA)(fb:aY w N 126 206 (kF [.pointer (some ⟨X,0,none⟩),iV i,.bool true,.slice da dn dc,iV sy] (gh mo hn he (wt) (af) tu) [iV ct,.bool sk]))(U:tF)(hU:∀b,U b→b<w.heap.size)(Gj:¬U N)(hr:bV (fun b=>b=N∨U b) w fun w=>RowK .u8 w da dn dl)(JR:da=none→dc=0)(JF:dn≤dc)(h1:dn≤100000)(h2:0≤sy)(h3:sy≤dn)(hk:0≤kp)(Zk:kp≤9223372036854775807):cA 49 #[.pointer (some ⟨N,0,none⟩),iV kp] w fun x w'=>∃a1 c1,x= .returned (.tuple #[])∧aY w' N 126 206 (kF [.pointer (some ⟨X,0,none⟩),iV i,.bool false,.slice a1 (leftOf dn sy kp) c1,iV (leftOf dn sy kp)] ZU [iV sy,.bool sk])∧bV (fun b=>b=N∨U b) w' (fun w=>RowK .u8 w a1 (leftOf dn sy kp) (dl.take (leftOf dn sy kp)))∧leftOf dn sy kp≤c1∧(a1=none→c1=0)∧c1≤9223372036854775807∧dm (fun b=>b=N) w w':=by
 refine en 36 [vp 0 0 N,vi kp] Tryz.func49 rfl rfl (fb.LN hU Gj hr) (r [] rfl fun _=> ?_);refine cx rfl (fun y:Option Addr×Nat=>vt [.g [.o (.slice y.1 (leftOf dn sy kp) y.2),.o (iV (leftOf dn sy kp))],.o (iV 0)]) (fun y=>leftOf dn sy kp≤y.2∧(y.1=none→y.2=0)∧y.2≤9223372036854775807) (fun y w=>RowK .u8 w y.1 (leftOf dn sy kp) (dl.take (leftOf dn sy kp))) (fun w1 hS=>(Oz da dn dc dl sy kp w1 hS.now.1 JR JF h1 h2 h3 hk Zk).mono fun _ w2 ⟨a1,c1,h0,r1,pr,sR,Jn,ux,b⟩=>⟨(a1,c1),h0,b,⟨pr,sR,Jn⟩,bW r1 ux⟩) ?_;rintro⟨a1,c1⟩ ⟨pr,sR,Jn⟩;refine r [] rfl fun _=>gn 0 (kF [.pointer (some ⟨X,0,none⟩),iV i,.bool false,.slice a1 (leftOf dn sy kp) c1,iV (leftOf dn sy kp)] (gh Qp (fun _=>0) (fun _=>0) (.slice none 0 0) .nilFunc 0) [iV sy,.bool sk]) ?_ rfl (by kernel_rfl);exact dh rfl fun w2 hS=>⟨a1,c1,rfl,hS.at 0 rfl,fun w2 c2=>(hS.g w2 (c2.mono fun b h=>h.imp (fun h=>Ab.2 h) id)).2,pr,sR,Jn,hS.now.2.mono fun b h=>Ab.1 h⟩
def frR(r:Rec):List Int:=dL (bytesOf r.k r.q r.e r.p r.v.k r.v.p r.v.i r.v.b r.v.he r.v.hn)
def bI(rs:List Rec):List Int:=rs.flatMap frR
theorem MA(r:Rec):(frR r).length=(bytesOf r.k r.q r.e r.p r.v.k r.v.p r.v.i r.v.b r.v.he r.v.hn).length+6:=mJ _
theorem yJ{rs:List Rec}{k:Nat}{r:Rec}(h:rs[k]? =some r):bI (rs.take (k+1))=bI (rs.take k)++frR r:=by
 rw[Cc,h];simp[bI]
theorem Sv{rs:List Rec}{k n2 dn:Nat}{r:Rec}(h:rs[k]? =some r)(e:n2=dn+(bI (rs.take k)).length)(hf:100000<n2+((bytesOf r.k r.q r.e r.p r.v.k r.v.p r.v.i r.v.b r.v.he r.v.hn).length+6)):100000<dn+(bI rs).length:=by
 have e1:bI rs=bI (rs.take (k+1))++bI (rs.drop (k+1)):=by
  unfold bI;rw[←List.flatMap_append,BN]
 rw[e1,yJ h];simp only[List.length_append,MA];omega
theorem p8{l:List Rec}{k:Nat}{r:Rec}(hk:l[k]? =some r):∀j,j<10→iV ((aC l).getD (10*k+j) 0)=lF [iV r.k,iV r.q,iV r.e,iV r.p,iV r.v.k,iV r.v.p,iV r.v.i,iV r.v.b,iV r.v.he,iV r.v.hn] j:=by
 obtain⟨hl,rfl⟩:=Am.1 hk;intro j hj;rw[sf l k hl j hj]
 match j,hj with
 |0,_=>rfl
 |1,_=>rfl
 |2,_=>rfl
 |3,_=>rfl
 |4,_=>rfl
 |5,_=>rfl
 |6,_=>rfl
 |7,_=>rfl
 |8,_=>rfl
 |9,_=>rfl
theorem jd(X N:Nat)(i:Int)(da:tB)(dn dc:Nat)(dl:tG)(sy:Int)(mo:tT)(hn he:tH)(wt af:tK)(tu ct:Int)(ub sk:Bool)(ag:Fn)(a1 a1c:tR)(rs:List Rec)(la:tB)(rn lc:Nat)(w:tA)(fb:aY w N 126 206 (kF [.pointer (some ⟨X,0,none⟩),iV i,.bool ub,.slice da dn dc,iV sy] (gh mo hn he (wt) (af) tu) [iV ct,.bool sk]))(U:tF)(hU:∀b,U b→b<w.heap.size)(Gj:¬U N)(hr:bV (fun b=>b=N∨U b) w fun w=>RowK .u8 w da dn dl∧RowK .i64 w la (10*rn) (aC rs))(JR:da=none→dc=0)(JF:dn≤dc)(hdm:dc≤9223372036854775807)(h1:dn≤100000)(h2:0≤sy)(h3:sy≤dn)(hrn:rn=rs.length)(hrl:rn≤100000)(eC:∀r∈rs,r.fault=0):cA 79 #[.pointer (some ⟨N,0,none⟩),.func ag a1 a1c,.slice la rn lc] w fun x w'=>∃k,x= .returned (.bool k)∧dm (fun b=>b=N) w w'∧((k=true∧dn+(bI rs).length≤100000∧∃a2 c2,aY w' N 126 206 (kF [.pointer (some ⟨X,0,none⟩),iV i,.bool ub,.slice a2 (dn+(bI rs).length) c2,iV sy] (gh mo hn he wt (.func ag a1 a1c) tu) [iV ct,.bool sk])∧bV (fun b=>b=N∨U b) w' (fun w=>RowK .u8 w a2 (dn+(bI rs).length) (dl++bI rs))∧dn+(bI rs).length≤c2∧(a2=none→c2=0)∧c2≤9223372036854775807)∨(k=false∧100000<dn+(bI rs).length∧aY w' N 126 206 (kF [.pointer (some ⟨X,0,none⟩),iV i,.bool ub,.slice da dn dc,iV sy] (gh mo hn he (wt) (af) tu) [iV ct,.bool sk]))):=by
 refine en 41 [vp 0 0 N,vv (.func ag a1 a1c),vv (.slice la rn lc)] Tryz.func79 rfl rfl (fb.LN hU Gj hr) (r [] rfl fun α=>gn 1 (lF [.slice da dn dc,iV sy]) ?_);obtain⟨len,el⟩:∃len:Nat→Nat,len=fun k=>dn+(bI (rs.take k)).length:=⟨_,rfl⟩;have l0:len 0=dn:=by rw[el];rfl
 refine iC (X:=Nat×Option Addr×Nat×Nat) ⟨fun x=>[(0,vp 0 0 N),(1,vv (.func ag a1 a1c)),(7,vp 1 0 (α 0)),(16,vv (.slice la rn lc)),(17,vi (rn:Int)),(18,vi (x.1:Int))],fun x=>[⟨N,126,[.f 206 (kF [.pointer (some ⟨X,0,none⟩),iV i,.bool ub,.slice da dn dc,iV sy] (gh mo hn he wt af tu) [iV ct,.bool sk])]⟩,⟨α 0,124,[.f 2 (lF [.slice x.2.1 x.2.2.1 x.2.2.2,iV sy])]⟩],fun _=>U,fun x w=>RowK .u8 w x.2.1 x.2.2.1 (dl++bI (rs.take x.1))∧RowK .i64 w la (10*rn) (aC rs),fun _ w'=>dm (fun b=>b∈[N]) w w',fun x=>x.1≤rn∧x.2.2.1=len x.1∧x.2.2.1≤100000∧x.2.2.1≤x.2.2.2∧(x.2.1=none→x.2.2.2=0)∧x.2.2.2≤9223372036854775807,fun x=>rn-x.1⟩ (0,da,dn,dc) ⟨rfl,rfl,rfl,rfl,rfl,rfl,trivial⟩ (fun _ hS=>hS.said fun _ h=>⟨by simpa[bI]using h.1,h.2⟩) ⟨Nat.zero_le _,l0.symm,h1,JF,JR,hdm⟩ ?_;rintro f ⟨k,a2,n2,c2⟩ ⟨hk,Wh,vS,jB,qV,sD⟩;have hk:k≤rn:=hk;have Wh:n2=len k:=Wh;have vS:n2≤100000:=vS;by_cases aM:k<rn
 case neg=>
  have ek:len k=dn+(bI rs).length:=by rw[el];show dn+(bI (rs.take k)).length=_;rw[AJ (by omega)]
  refine r [0] rfl fun _=>gn 0 (kF [.pointer (some ⟨X,0,none⟩),iV i,.bool ub,.slice a2 n2 c2,iV sy] (gh mo hn he wt (.func ag a1 a1c) tu) [iV ct,.bool sk]) ?_ rfl (by kernel_rfl);refine fin fun w hS=>⟨true,rfl,hS.now.2.mono fun b h=>Ab.1 h,.inl ⟨rfl,ek▸Wh▸vS,a2,c2,ek▸Wh▸hS.at 0 rfl,fun w2 cc=> ?_,ek▸Wh▸jB,qV,sD⟩⟩;have:=((hS.take 1).g w2 (cc.mono fun b h=>h.imp (fun h=>Ab.2 h) id)).1;rw[AJ (by omega),Wh,ek]at this;exact this
 obtain⟨⟨rk,rq,re,rp,rv⟩,hv⟩:∃r,rs[k]? =some r:=⟨rs[k],Ag (by omega)⟩;have e1:len (k+1)=n2+((bytesOf rk rq re rp rv.k rv.p rv.i rv.b rv.he rv.hn).length+6):=by rw[Wh,el];show dn+(bI (rs.take (k+1))).length=dn+(bI (rs.take k)).length+_;rw[yJ hv,Ac,MA];exact(BX _ _ _).symm
 obtain⟨lb,lo,ela⟩:∃b o,la=some ⟨b,o,none⟩:=oP hr.now.2 (by omega);subst ela;refine r [1] rfl fun _=>lf (q:=lo+k*10) rfl 10 (lF [iV rk,iV rq,iV re,iV rp,iV rv.k,iV rv.p,iV rv.i,iV rv.b,iV rv.he,iV rv.hn]) (fun w hS=>jV hS.now.1.2 (by omega) (p8 hv)) (r [] rfl fun β=> ?_);have ge:dn≤n2:=by rw[Wh,el];exact Nat.le_add_right ..
 have wr:=fun w (hS:RowK .u8 w a2 n2 (dl++bI (rs.take k)))=>OL a2 n2 c2 _ sy rk rq re rp rv.k rv.p rv.i rv.b rv.he rv.hn w hS qV vS h2 (by omega) (eC _ (Ap hv));by_cases hf:100000<len (k+1)
 ·refine Rv.cb rfl (vt [.g [.o (.slice none 0 0),.o (iV 0)],.o (iV 14)]) (fun w hS=>(wr w hS.now.1.1).mono fun _ _ h=> ?_) (r [1] rfl fun _=>fin fun w hS=>⟨false,rfl,hS.now.2.mono fun b h=>Ab.1 h,.inr ⟨rfl,Sv hv (by rw[Wh,el]) (e1▸hf),hS.at 0 rfl⟩⟩);rcases h with⟨_,rfl,b⟩|⟨h,_⟩
  ·exact⟨rfl,b⟩
  ·exact absurd (AN (BZ e1) h) (BE.2 hf)
 refine cx rfl (fun y:Option Addr×Nat=>vt [.g [.o (.slice y.1 (len (k+1)) y.2),.o (iV sy)],.o (iV 0)]) (fun y=>len (k+1)≤y.2∧(y.1=none→y.2=0)∧y.2≤9223372036854775807) (fun y w=>RowK .u8 w y.1 (len (k+1)) (dl++bI (rs.take (k+1)))) (fun w hS=>(wr w hS.now.1.1).mono fun _ w' h=> ?_) ?_
 ·rcases h with⟨h,_⟩|⟨_,a3,c3,rfl,r3,hc3,It,hm3,hw3,b⟩
  ·exact absurd (Aj h (BZ e1.symm)) hf
  ·refine⟨(a3,c3),by rw[e1];rfl,b,⟨by rw[e1];exact hc3,It,hm3⟩,bW ?_ hw3⟩;rw[e1,yJ hv,←Az];exact r3
 rintro⟨a3,c3⟩ ⟨hc3,It,hm3⟩;exact rz [0,1] [((k+1:Nat):Int)] rfl fun _=>b_ (k+1,a3,len (k+1),c3) ⟨rfl,rfl,rfl,rfl,rfl,rfl,trivial⟩ (fun w hS=>(hS.take 2).said fun _ h=>⟨h.2,h.1.2⟩) ⟨aM,rfl,Nat.le_of_not_lt hf,hc3,It,hm3⟩ (show rn-(k+1)<rn-k by omega)
theorem uV(X N:Nat)(i:Int)(da:tB)(dn dc:Nat)(dl:tG)(sy:Int)(mo:tT)(hn he:tH)(wt:tK)(tu ct:Int)(ub sk:Bool)(g:Nat)(cl:tM)(w:tA)(fb:aY w N 126 206 (kF [.pointer (some ⟨X,0,none⟩),iV i,.bool ub,.slice da dn dc,iV sy] (gh mo hn he (wt) (.func (.func g) #[] cl.toArray) tu) [iV ct,.bool sk]))(U:tF)(hU:∀b,U b→b<w.heap.size)(Gj:¬U N)(hr:bV (fun b=>b=N∨U b) w fun w=>RowK .u8 w da dn dl)(JR:da=none→dc=0)(JF:dn≤dc)(h1:dn≤100000)(h2:0≤sy)(h3:sy≤dn)(hen:Rv.iO Tryz.prog g=true)(R:tJ)(hRb:∀w w2,R w→bZ w w2→R w2)(hA:∀a1 c1 w1,aY w1 N 126 206 (kF [.pointer (some ⟨X,0,none⟩),iV i,.bool ub,.slice a1 dn c1,iV dn] (gh mo hn he wt .nilFunc tu) [iV ct,.bool sk])→bV (fun b=>b=N∨U b) w1 (fun w=>RowK .u8 w a1 dn dl)→dn≤c1→(a1=none→c1=0)→c1≤9223372036854775807→dm (fun b=>b=N) w w1→cA g cl.toArray w1 fun x w'=>x= .returned (.tuple #[])∧R w'):cA 80 #[.pointer (some ⟨N,0,none⟩)] w fun x w'=>x= .returned (.tuple #[])∧R w':=by
 refine en 25 [vp 0 0 N] Tryz.func80 rfl rfl (fb.LN hU Gj hr) (r [] rfl fun _=> ?_);refine cx rfl (fun y:Option Addr×Nat=>vt [.g [.o (.slice y.1 dn y.2),.o (iV dn)],.o (iV 0)]) (fun y=>dn≤y.2∧(y.1=none→y.2=0)∧y.2≤9223372036854775807) (fun y w=>RowK .u8 w y.1 dn dl) (fun w1 hS=>(RY da dn dc dl sy w1 hS.now.1 JR h1 h2 h3).mono fun _ w2 ⟨a1,c1,h0,r1,pr,sR,Jn,ux,b⟩=>⟨(a1,c1),h0,b,⟨pr,sR,Jn⟩,bW r1 ux⟩) ?_;rintro⟨a1,c1⟩ ⟨pr,sR,Jn⟩;have hm:(cl.map vv).map AV.val=cl:=by rw[List.map_map];exact List.map_id _
 refine r [] rfl fun _=>gn 0 (kF [.pointer (some ⟨X,0,none⟩),iV i,.bool ub,.slice a1 dn c1,iV dn] (gh mo hn he wt .nilFunc tu) [iV ct,.bool sk]) ?_;have key:∀w1,Mem w1 (hs [⟨N,126,[.f 206 (kF [.pointer (some ⟨X,0,none⟩),iV i,.bool ub,.slice a1 dn c1,iV dn] (gh mo hn he wt .nilFunc tu) [iV ct,.bool sk])]⟩]) U (fun w=>RowK .u8 w da dn dl∧RowK .u8 w a1 dn dl) (fun w'=>dm (fun b=>b∈[N]) w w')→cA g ((cl.map vv).map AV.val).toArray w1 fun x w'=>x= .returned (.tuple #[])∧∃_:Unit,R w':=fun w1 hS=>by
  rw[hm];exact(hA a1 c1 w1 (hS.at 0 rfl) (fun w2 cc=>(hS.g w2 (cc.mono fun b h=>h.imp (fun h=>Ab.2 h) id)).2) pr sR Jn (hS.now.2.mono fun b h=>Ab.1 h)).mono fun _ _ h=>⟨h.1,(),h.2⟩
 cases cl<;>exact Rv.ct rfl (vt []) (fun _=>R) key (fun _=>hRb) (fun _=>r [] rfl fun _=>dh rfl fun _ hS=>⟨rfl,hS.now.2⟩) rfl hen
end
def lx(nd:tV)(pn pe:tH)(r:tM):Nat→Value:=fun k=>
 if k<5 then .pointer (some ⟨nd k,0,none⟩)else if k<13 then lF [iV (pn 0),iV (pe 0),iV (pn 1),iV (pe 1),iV (pn 2),iV (pe 2),iV (pn 3),iV (pe 3)] (k-5)else lF r (k-13)
theorem Sw{nd:tV}{pn pe:tH}{r:tM}{k:Nat}(h:k<5):lx nd pn pe r k= .pointer (some ⟨nd k,0,none⟩):=if_pos h
theorem MB{nd:tV}{pn pe:tH}{r:tM}{j:Nat}(h:j<8):lx nd pn pe r (5+j)=lF [iV (pn 0),iV (pe 0),iV (pn 1),iV (pe 1),iV (pn 2),iV (pe 2),iV (pn 3),iV (pe 3)] j:=by
 unfold lx;rw[if_neg (by omega),if_pos (by omega),show 5+j-5=j by omega]
theorem ZV{nd:tV}{pn pe Qq Qr:tH}{r:tM}(i:Nat):gf (lx nd pn pe r) 5 8 (lF [iV (Qq 0),iV (Qr 0),iV (Qq 1),iV (Qr 1),iV (Qq 2),iV (Qr 2),iV (Qq 3),iV (Qr 3)]) i=lx nd Qq Qr r i:=by
 unfold gf;by_cases hc:5≤i∧i<5+8
 ·rw[if_pos hc];obtain⟨j,rfl⟩:∃j,i=5+j:=⟨i-5,by omega⟩;rw[MB (by omega),show 5+j-5=j by omega]
 ·rw[if_neg hc];unfold lx;by_cases h1:i<5
  ·rw[if_pos h1,if_pos h1]
  ·rw[if_neg h1,if_neg h1,if_neg (by omega),if_neg (by omega)]
theorem ZW{nd:tV}{pn pe:tH}{r:tM}{k:Nat}{v:tK}(hk:k<r.length)(i:Nat):ot (lx nd pn pe r) (13+k) v i=lx nd pn pe (r.set k v) i:=by
 by_cases hi:i=13+k
 ·subst hi;rw[EC];unfold lx;rw[if_neg (by omega),if_neg (by omega),show 13+k-13=k by omega];simp[lF,hk]
 ·rw[pI _ _ _ _ hi];unfold lx;by_cases h5:i<5
  ·rw[if_pos h5,if_pos h5]
  ·rw[if_neg h5,if_neg h5];by_cases h6:i<13
   ·rw[if_pos h6,if_pos h6]
   ·rw[if_neg h6,if_neg h6];have:¬k=i-13:=by omega
    simp[lF,this]
section
open Rv
namespace Rv
section
variable{n:Nat}{ops:tP}{f:Nat→AV}{fn:Func}{Rr:Ending→World→Prop}{M:tF}{Φ R:tJ}{H:List En}{w:tA}{ks:List Fr}{t:Ord}{i d:Nat}{md:Md}
theorem sol{s b q m:Nat}{x y:AV}{e:Ty}{en:En}{g:tD}(h1:UM n ops f i=some (s,x,y))(hx:x.val= .pointer (some ⟨b,q,none⟩))(hy:y.val=vF g m)(j:Nat)(he:nth H j=some en)(g':tD)(hg:∀i,i<fj en.l→gf (cD en.l) q m g i=g' i)(hn:G Tryz.prog fn Rr n M Φ R (.g md ops t::ks) f (H.set j ⟨en.a,en.t,[.f (fj en.l) g']⟩))(JJ:aS g m)(hq:q+m≤fj en.l:=by first|exact cK rfl|(show _≤206;(try dsimp only);omega)|(show _≤199;(try dsimp only);omega)|(show _≤19;(try dsimp only);omega)|(show _≤18;(try dsimp only);omega)|(show _≤8;(try dsimp only);omega))(ha:en.a=b:=by rfl)(hb:en.a∈md.va:=by exact List.mem_singleton.2 rfl)(hv:md.vs.contains i=true:=by rfl)(hf:T0.find s=some e:=by rfl)(ho:e.fI=false:=by rfl)(hm:e.m=m:=by rfl):G Tryz.prog fn Rr n M Φ R (.g md ops (.ef i t)::ks) f H:=by
 intro w hS hK;obtain⟨hK1,il⟩:=bn.1 hK;show WF Tryz.prog ops (kq Tryz.prog fn Rr ks) md.va (oD md ops) (uv md ops) (.ef i t) n (cn f) w;obtain⟨Nu,rfl⟩:=X7.fm hf;have xv:=he;rw[eY]at xv;have wM:(hs H)[j]? =some en.ik:=by rw[Ar,xv];rfl
 unfold UM at h1;split at h1
 ·rename_i o hoo;split at h1
  ·rename_i s' p r hd hw hp;simp only[Option.some.injEq,Prod.mk.injEq]at h1;obtain⟨rfl,rfl,rfl⟩:=h1;have hx:ev (cn f) p= .pointer (some ⟨b,q,none⟩):=(bz f p).symm.trans hx;have hy:ev (cn f) r=vF g m:=(bz f r).symm.trans hy;have vu:((oD md ops).contains i||(uv md ops).contains i)=true:=EN hoo (by unfold nc;rw[hv]);refine aes (P:=Tryz.prog) (hm▸Ty.row Nu ho) hS j wM hb vu hoo hd (fC hw) (dI hK1).1 hp hx hy ha hq JJ fun w' zR=> ?_
   have Gg:=zR.congr j (e:=⟨en.a,en.t,fj en.l,gf (cD en.l) q m g⟩) (by
    rw[Cr (Am.1 wM).1]
    rfl) g' hg
   rw[List.set_set]at Gg;have e4:hs (H.set j ⟨en.a,en.t,[.f (fj en.l) g']⟩)=(hs H).set j ⟨en.a,en.t,fj en.l,g'⟩:=by
    rw[hs,Cq];rfl
   exact hn w' (by rw[e4];exact Gg) (bn.2 ⟨hK1,il⟩)
  ·cases h1
 ·cases h1
end
end Rv
theorem Wi(X N:Nat)(i:Int)(da:tB)(dn dc:Nat)(sy:Int)(mo:tT)(hn he:tH)(wt af:tK)(tu ct:Int)(ub sk:Bool)(nd:tV)(pn pe:tH)(fl tk dd:tK)(cs:Int)(sv td:tK)(Qq Qr:tH)(m:tD)(om:aS m 47)(q:Nat)(hq:q<4)(c8 c6 c5 c4 c3:Nat)(w:tA)(UU:aY w N 126 206 (kF [.pointer (some ⟨X,0,none⟩),iV i,.bool ub,.slice da dn dc,iV sy] (gh mo hn he (wt) (af) tu) [iV ct,.bool sk]))(Vf:aY w X 114 19 (lx nd pn pe [fl,tk,dd,iV cs,sv,td]))(uW:aY w c8 117 47 m)(fb3:aY w c6 29 8 (lF [iV (Qq 0),iV (Qr 0),iV (Qq 1),iV (Qr 1),iV (Qq 2),iV (Qr 2),iV (Qq 3),iV (Qr 3)]))(fb4:aY w c5 109 1 (fun _=> .pointer (some ⟨N,0,none⟩)))(fb5:aY w c4 3 1 (fun _=>iV q))(fb6:aY w c3 91 1 (fun _=> .pointer (some ⟨X,0,none⟩)))(UW:[N,X,c8,c6,c5,c4,c3].Nodup):cA 78 #[.pointer (some ⟨c8,0,none⟩),.pointer (some ⟨c6,0,none⟩),.pointer (some ⟨c5,0,none⟩),.pointer (some ⟨c4,0,none⟩),.pointer (some ⟨c3,0,none⟩)] w fun x w'=>x= .returned (.tuple #[])∧aY w' N 126 206 (kF [.pointer (some ⟨X,0,none⟩),iV i,.bool ub,.slice da dn dc,iV sy] (gh (au mo q m) hn he (wt) (af) tu) [iV ct,.bool sk])∧aY w' X 114 19 (lx nd Qq Qr [fl,tk,dd,iV cs,sv,td])∧dm (fun b=>b=N∨b=X) w w':=by
 simp only[List.nodup_cons,List.mem_cons,List.not_mem_nil,or_false,not_or]at UW;obtain⟨⟨hX,a8,a6,a5,a4,a3⟩,⟨x8,x6,x5,x4,x3⟩,_⟩:=UW;have fs:∀{b t n f},aY w b t n f→N≠b→X≠b→bV (fun b=>(b=N∨b=X)∨False) w fun w=>aY w b t n f:=fun fb hn hx w2 c2=>fb.same (c2.block _ fb.lt fun h=>h.elim (fun h=>h.elim (fun e=>hn e.symm) (fun e=>hx e.symm)) id);refine en 16 [vv (.pointer (some ⟨c8,0,none⟩)),vv (.pointer (some ⟨c6,0,none⟩)),vv (.pointer (some ⟨c5,0,none⟩)),vv (.pointer (some ⟨c4,0,none⟩)),vv (.pointer (some ⟨c3,0,none⟩))] Tryz.func78 rfl rfl (UU.abH Vf hX (U:=fun _=>False) (fun _ h=>h.elim) id id fun w2 c2=>And.intro (fs uW a8 x8 w2 c2) (And.intro (fs fb3 a6 x6 w2 c2) (And.intro (fs fb4 a5 x5 w2 c2) (And.intro (fs fb5 a4 x4 w2 c2) (fs fb6 a3 x3 w2 c2))))) ?_;have hv:∀a,a∈[N]→a∈[N,X]:=fun a h=>BQ.2 (.inl (Ab.1 h));refine r [5,0,9] rfl fun _=>Y6 rfl (.pointer (some ⟨N,0,none⟩)) (fun w h=>h.1.2.2.1.at 0 (cK rfl)) (Rv.sv 5 (vp 0 0 N) rfl (r [] rfl fun _=>Y6 rfl (iV q) (fun w h=>h.1.2.2.2.1.at 0 (cK rfl)) (r [] rfl fun _=>Y6 rfl (.pointer (some ⟨X,0,none⟩)) (fun w h=>h.1.2.2.2.2.at 0 (cK rfl)) (Rv.sv 7 (vp 1 0 X) rfl (r [] rfl fun _=>lfg rfl 47 m (fun w h j hj=>by rw[Ae];exact h.1.1.at j (by omega)) (r [] rfl fun _=>lfg rfl 8 _ (fun w h j hj=>by rw[Ae];exact h.1.2.1.at j (by omega)) ?_ hv) hv)) hv) hv)) hv;refine r [1] rfl fun _=>sol rfl rfl rfl 0 rfl _ (fun i _=>o4 hq i) (r [] rfl fun _=>gn 1 (lx nd Qq Qr [fl,tk,dd,iV cs,sv,td]) ?_) om;exact dh rfl fun w2 hS=>⟨rfl,hS.at 0 rfl,hS.at 1 rfl,hS.now.2.mono fun b h=>by simpa using h⟩
end
theorem mm{w:tA}{R T:Nat}(r:Rec)(hv:∀u∈aZ r,(Lit.int .i64 u).wf=true)(h:aY w R T 10 (lF [iV r.k,iV r.q,iV r.e,iV r.p,iV r.v.k,iV r.v.p,iV r.v.i,iV r.v.b,iV r.v.he,iV r.v.hn])):RowK .i64 w (some ⟨R,0,none⟩) (10*1) (aC [r]):=by
 refine⟨rfl,by simpa[aC]using hv,fun i hi=>⟨R,0,rfl,h.lt, ?_⟩⟩;rw[Ae,h.at i (by omega)]
 match i,hi with
 |0,_=>rfl
 |1,_=>rfl
 |2,_=>rfl
 |3,_=>rfl
 |4,_=>rfl
 |5,_=>rfl
 |6,_=>rfl
 |7,_=>rfl
 |8,_=>rfl
 |9,_=>rfl
theorem Wj{n e:tH}{q:Nat}{node:Int}{a b:tH}(h:ny n e q node a b 0):de n e∧n q= -1∧a=cB n q node∧b=cB e q 1:=by
 generalize he:(0:Int)=er at h;cases h with
 |state h=>cases he
 |range h=>cases he
 |yp h=>cases he
 |made h k hk hq hd hn=>
  obtain rfl:q=k:=by omega
  exact⟨h,hn,rfl,rfl⟩
theorem Wl{n e:tH}{q:Nat}{node:Int}{a b:tH}{er:Int}(hq:q<4)(hd:0≤node∧node≤4)(h:ny n e q node a b er)(h0:¬er=0):¬(de n e∧n q= -1):=by
 rintro⟨h1,h2⟩;obtain⟨_,_,rfl⟩:=h.one (.made h1 q hq rfl hd h2);exact h0 rfl
theorem OX{B B':Bt}{ep:Int}(h:dS B ep=(B',0)):B'=⟨1,ep,0,0,0,[]⟩:=by
 unfold dS at h;split at h
 ·cases h
 ·split at h
  ·cases h
  ·split at h
   ·cases h
   ·split at h
    ·cases h
    ·cases h;rfl
abbrev aB(q:Nat):Rec:=⟨1,q,1,0,⟨0,0,0,0,0,0⟩⟩
def Yy(pn pe:tH)(q:Nat)(ub:Bool)(af:tK)(B:Bt)(dn:Nat):Prop:=(de pn pe∧pn q= -1)∧ub=true∧af= .nilFunc∧(dS B 1).2=0∧dn+(bI [aB q]).length≤100000
section
open Rv
theorem o6{q:Nat}(hq:q<4):(aB q).fault=0:=by
 obtain rfl|rfl|rfl|rfl:q=0∨q=1∨q=2∨q=3:=by omega
 ·decide
 ·decide
 ·decide
 ·decide
theorem KH{q:Nat}(hq:q<4):∀u∈aZ (aB q),(Lit.int .i64 u).wf=true:=by
 obtain rfl|rfl|rfl|rfl:q=0∨q=1∨q=2∨q=3:=by omega
 ·decide
 ·decide
 ·decide
 ·decide
abbrev crE(X N:Nat)(z g:tD)(a b c q:Nat)(tl:List En):List En:=⟨N,126,[.f 206 z]⟩::⟨X,114,[.f 19 g]⟩::⟨a,91,[.p 1 0 X]⟩::⟨b,3,[.o (iV (q:Int))]⟩::⟨c,109,[.p 0 0 N]⟩::tl
theorem KI(X N:Nat)(i:Int)(da:tB)(dn dc:Nat)(dl:tG)(sy:Int)(mo:tT)(hn he:tH)(wt af:tK)(tu ct:Int)(ub sk:Bool)(nd:tV)(pn pe:tH)(fl tk dd:tK)(cs:Int)(sv td:tK)(q:Nat)(hq:q<4)(B:Bt)(ba:tB)(bc:Nat)(bq:tD)(okB:B.Ok)(UX:mo q=mF B.r B.e B.f B.t B.o (.slice ba B.es.length bc) bq)(oM:aS (mo q) 47)(hi:0≤i∧i≤4)(OY:af= .nilFunc∨∃g a b,af= .func g a b)(w:tA)(UU:aY w N 126 206 (kF [.pointer (some ⟨X,0,none⟩),iV i,.bool ub,.slice da dn dc,iV sy] (gh mo hn he (wt) (af) tu) [iV ct,.bool sk]))(Vf:aY w X 114 19 (lx nd pn pe [fl,tk,dd,iV cs,sv,td]))(UW:[N,X].Nodup)(U:tF)(hU:∀b,U b→b<w.heap.size)(Gj:¬U N)(hXU:¬U X)(hr:bV (fun b=>(b=N∨b=X)∨U b) w fun w=>RowK .u8 w da dn dl)(JR:da=none→dc=0)(JF:dn≤dc)(hdm:dc≤9223372036854775807)(h1:dn≤100000)(h2:0≤sy)(h3:sy≤dn):cA 44 #[.pointer (some ⟨X,0,none⟩),iV q,.pointer (some ⟨N,0,none⟩)] w fun x w'=>x= .returned (.tuple #[])∧dm (fun b=>b=N∨b=X) w w'∧((¬Yy pn pe q ub af B dn∧aY w' N 126 206 (kF [.pointer (some ⟨X,0,none⟩),iV i,.bool ub,.slice da dn dc,iV sy] (gh mo hn he (wt) (af) tu) [iV ct,.bool sk])∧aY w' X 114 19 (lx nd pn pe [fl,tk,dd,iV cs,sv,td]))∨(Yy pn pe q ub af B dn∧∃a3 c3 a1 c1 q1 yg,vF yg 47=yh ⟨1,1,0,0,0,[]⟩ a1 c1 q1∧aY w' N 126 206 (kF [.pointer (some ⟨X,0,none⟩),iV i,.bool true,.slice a3 (dn+(bI [aB q]).length) c3,iV (dn+(bI [aB q]).length)] (gh (au mo q yg) hn he wt .nilFunc tu) [iV ct,.bool sk])∧aY w' X 114 19 (lx nd (cB pn q i) (cB pe q 1) [fl,tk,dd,iV cs,sv,td])∧bV (fun b=>(b=N∨b=X)∨U b) w' (fun w=>jT w ⟨1,1,0,0,0,[]⟩ a1 c1 q1∧RowK .u8 w a3 (dn+(bI [aB q]).length) (dl++bI [aB q]))∧(dn+(bI [aB q]).length)≤c3∧(a3=none→c3=0)∧c3≤9223372036854775807)):=by
 have Sy:∀e∈([⟨N,126,206,(kF [.pointer (some ⟨X,0,none⟩),iV i,.bool ub,.slice da dn dc,iV sy] (gh mo hn he (wt) (af) tu) [iV ct,.bool sk])⟩,⟨X,114,19,(lx nd pn pe [fl,tk,dd,iV cs,sv,td])⟩]:List bU),aY w e.a e.t e.n e.f:=by
  intro e he;simp only[List.mem_cons,List.not_mem_nil,or_false]at he;rcases he with rfl|rfl
  ·exact UU
  ·exact Vf
 have hS:Mem w [⟨N,126,206,(kF [.pointer (some ⟨X,0,none⟩),iV i,.bool ub,.slice da dn dc,iV sy] (gh mo hn he (wt) (af) tu) [iV ct,.bool sk])⟩,⟨X,114,19,(lx nd pn pe [fl,tk,dd,iV cs,sv,td])⟩] U (fun w=>RowK .u8 w da dn dl) (fun w'=>dm (fun b=>b∈[N,X]) w w'):=Mem.begin Sy (QT UW) (fun e he=>by simp only[List.mem_cons,List.not_mem_nil,or_false]at he;rcases he with rfl|rfl;exact Gj;exact hXU) hU (fun w2 c=>hr w2 (c.mono fun b h=>h.imp (fun h=>by simpa using h) id));clear Sy;have o1:aS (mF B.r B.e B.f B.t B.o (.slice ba B.es.length bc) bq) 47:=UX▸oM;refine en (H:=[⟨N,126,[.f 206 (kF [.pointer (some ⟨X,0,none⟩),iV i,.bool ub,.slice da dn dc,iV sy] (gh mo hn he wt af tu) [iV ct,.bool sk])]⟩,⟨X,114,[.f 19 (lx nd pn pe [fl,tk,dd,iV cs,sv,td])]⟩]) 62 [vp 1 0 X,vi (q:Int),vp 0 0 N] Tryz.func44 rfl rfl hS (r [] rfl fun α=> ?_);refine cut (X:=Nat×(Nat→Int)×(Nat→Int)×Int) (fun x=>[(3,vp 2 0 (α 0)),(4,vp 3 0 (α 1)),(5,vp 4 0 (α 2)),(6,vp 5 0 x.1),(7,vi x.2.2.2)]) (fun x=>crE X N (kF [.pointer (some ⟨X,0,none⟩),iV i,.bool ub,.slice da dn dc,iV sy] (gh mo hn he wt af tu) [iV ct,.bool sk]) (lx nd pn pe [fl,tk,dd,iV cs,sv,td]) (α 0) (α 1) (α 2) q [⟨x.1,29,wU x.2.1 x.2.2.1⟩]) (fun _=>U) (fun _ w=>RowK .u8 w da dn dl) (fun _ w'=>dm (fun b=>b∈[N,X]) w w') (fun x=>ny pn pe q i x.2.1 x.2.2.1 x.2.2.2) ?_ (r [4] rfl fun _=> ?_)
 case refine_2=>
  repeat' first|refine ER ?_ ?_|(refine cq (g:=76) rfl (fun y:(Nat→Int)×(Nat→Int)×Int=>vt [.g (wU y.1 y.2.1),.o (iV y.2.2)]) (fun y=>ny pn pe q i y.1 y.2.1 y.2.2) ?_ ?_;exact fun w _=>(RQ pn pe q i w).mono fun _ _ ⟨pa,pb,er,h0,h1,b⟩=>⟨(pa,pb,er),h0,b,h1⟩;rintro⟨pa,pb,er⟩ wm)|refine rs [] rfl rfl fun _=> ?_
  all_goals exact b_ (_,pa,pb,er) ⟨rfl,rfl,rfl,rfl,rfl,trivial⟩ (fun w hS=>hS.JG [0,1,2,3,4,5] (by decide)) wm Bi
 rintro f ⟨R6,pa,pb,er⟩ wm;have wm:ny pn pe q i pa pb er:=wm;by_cases h0:er=0
 case neg=>exact r [1] rfl fun _=>fin fun w hS=>⟨rfl,hS.now.2.mono fun b h=>by simpa using h,.inl ⟨(fun h=>Wl hq hi wm h0 h.1),hS.at 0 rfl,hS.at 1 rfl⟩⟩
 subst h0;obtain⟨KJ,Cy,rfl,rfl⟩:=Wj wm;cases ub
 ·exact r [0] rfl fun _=>fin fun w hS=>⟨rfl,hS.now.2.mono fun b h=>by simpa using h,.inl ⟨(fun h=>by cases h.2.1),hS.at 0 rfl,hS.at 1 rfl⟩⟩
 rcases OY with rfl|⟨ag,a1,a1c,rfl⟩
 case' inr=>exact r [0] rfl fun _=>fin fun w hS=>⟨rfl,hS.now.2.mono fun b h=>by simpa using h,.inl ⟨(fun h=>by cases h.2.2.1),hS.at 0 rfl,hS.at 1 rfl⟩⟩
 refine r [0] rfl fun _=>cut (X:=Nat×Int×Oh) (fun x=>[(3,vp 2 0 (α 0)),(4,vp 3 0 (α 1)),(5,vp 4 0 (α 2)),(6,vp 5 0 R6),(7,vi x.2.1),(8,vp 6 0 x.1)]) (fun x=>crE X N (kF [.pointer (some ⟨X,0,none⟩),iV i,.bool true,.slice da dn dc,iV sy] (gh mo hn he wt .nilFunc tu) [iV ct,.bool sk]) (lx nd pn pe [fl,tk,dd,iV cs,sv,td]) (α 0) (α 1) (α 2) q [⟨R6,29,wU (cB pn q i) (cB pe q 1)⟩,⟨x.1,117,pD x.2.2.1 x.2.2.2.1 x.2.2.2.2.1 x.2.2.2.2.2⟩]) (fun _=>U) (fun x w=>RowK .u8 w da dn dl∧RL x.2.2 w) (fun _ w'=>dm (fun b=>b∈[N,X]) w w') (fun x=>dS B 1=(x.2.2.1,x.2.1)∧aS x.2.2.2.2.2 41) ?_ (r [4,1] rfl fun _=>lo rfl rfl 0 rfl 47 (mF B.r B.e B.f B.t B.o (.slice ba B.es.length bc) bq) (fun j hj=>(nG hq hj).trans (congrFun UX j)) ?_)
 case refine_2=>
  repeat' first|refine ER ?_ ?_|(refine cx (g:=77) rfl (fun y:Int×Oh=>vt [Kk y.2,.o (iV y.1)]) (fun y=>dS B 1=(y.2.1,y.1)∧aS y.2.2.2.2 41) (fun y=>RL y.2) ?_ ?_;exact fun w _=>(Oi (fun _=>True) B ba bc bq 1 w okB).mono fun _ _ ⟨_,B8,er8,h0,fF,⟨a8,c8,g8,hy,hm8⟩,b⟩=>⟨(er8,B8,a8,c8,g8),by rw[h0,hy];rfl,b,⟨fF,hm8.now.one⟩,fun _ w2 c2=>hm8 w2 (c2.mono fun _ _=>trivial)⟩;rintro⟨er8,B8,a8,c8,g8⟩ ⟨fF,o8⟩)|refine rs [] rfl rfl fun _=> ?_
  all_goals exact b_ (_,er8,B8,a8,c8,g8) ⟨rfl,rfl,rfl,rfl,rfl,rfl,trivial⟩ (fun w hS=>hS.JG [0,1,2,3,4,5,6] (by decide)) ⟨fF,o8⟩ Bi
 rintro f ⟨R8,er8,B8,a8,c8,g8⟩ ⟨fF,o8⟩;have fF:dS B 1=(B8,er8):=fF;have o8:aS g8 41:=o8;by_cases h0:er8=0
 case neg=>exact r [1] rfl fun _=>fin fun w hS=>⟨rfl,hS.now.2.mono fun b h=>by simpa using h,.inl ⟨(fun h=>h0 ((congrArg Prod.snd fF).symm.trans h.2.2.2.1)),hS.at 0 rfl,hS.at 1 rfl⟩⟩
 subst h0;refine r [0] rfl fun δ=>kp 7 rfl (c0 rfl fun w1 hS=> ?_);obtain⟨oh,hu2,hu3⟩:=hS.qR;refine(jd X N i da dn dc dl sy mo hn he wt .nilFunc tu ct true sk (.func 78) #[] #[.pointer (some ⟨R8,0,none⟩),.pointer (some ⟨R6,0,none⟩),.pointer (some ⟨α 2,0,none⟩),.pointer (some ⟨α 1,0,none⟩),.pointer (some ⟨α 0,0,none⟩)] [aB q] (some ⟨δ 0,0,none⟩) 1 1 _ (hS.at 0 rfl) _ oh hu2 (fun w2 cc=>⟨(hu3 w2 cc).1.1,mm (aB q) (KH hq) (hu3 w2 cc).2⟩) JR JF hdm h1 h2 h3 rfl (by decide) (fun r hr=>by rw[Ab.1 hr];exact o6 hq)).mono ?_;rintro _ w2 ⟨k,rfl,ch,⟨rfl,iX,a2,c2,uW,st2,jB,qV,sD⟩|⟨rfl,iX,uW⟩⟩
 case' inr=>exact⟨vv (.bool false),_,fun _=>True,rfl,ch,uW,fun _ _=>trivial,r [] rfl fun _=>dh rfl fun w hS=>⟨rfl,hS.now.2.mono fun b h=>by simpa using h,.inl ⟨(fun h=>by have:=h.2.2.2.2;omega),hS.at 0 rfl,hS.at 1 rfl⟩⟩⟩
 refine⟨vv (.bool true),_,_,rfl,ch,uW,st2,r [] rfl fun _=>ky rfl (by kernel_rfl) fun w3 hS=> ?_⟩;obtain⟨oh,hu2,hu3⟩:=hS.qR;refine(uV X N i a2 (dn+(bI [aB q]).length) c2 (dl++bI [aB q]) sy mo hn he wt tu ct true sk 78 [.pointer (some ⟨R8,0,none⟩),.pointer (some ⟨R6,0,none⟩),.pointer (some ⟨α 2,0,none⟩),.pointer (some ⟨α 1,0,none⟩),.pointer (some ⟨α 0,0,none⟩)] _ (hS.at 0 rfl) _ oh hu2 (fun w2 cc=>(hu3 w2 cc).2) qV jB iX h2 (by omega) (by kernel_rfl) (fun z=>∃a3 c3,Mem z (hs (crE X N (kF [.pointer (some ⟨X,0,none⟩),iV i,.bool true,.slice a3 (dn+(bI [aB q]).length) c3,iV (dn+(bI [aB q]).length)] (gh (au mo q (mF B8.r B8.e B8.f B8.t B8.o (.slice a8 B8.es.length c8) g8)) hn he wt .nilFunc tu) [iV ct,.bool sk]) (lx nd (cB pn q i) (cB pe q 1) [fl,tk,dd,iV cs,sv,td]) (α 0) (α 1) (α 2) q [⟨R6,29,wU (cB pn q i) (cB pe q 1)⟩,⟨R8,117,pD B8 a8 c8 g8⟩])) U (fun w=>jT w B8 a8 c8 g8∧RowK .u8 w a3 (dn+(bI [aB q]).length) (dl++bI [aB q])) (fun w'=>dm (fun b=>b∈[N,X]) w w')∧(dn+(bI [aB q]).length)≤c3∧(a3=none→c3=0)∧c3≤9223372036854775807) (fun _ _ ⟨a3,c3,h1,h2⟩ b=>⟨a3,c3,h1.next b,h2⟩) ?_).mono ?_
 ·intro a3 c3 z fz rz hc3 It hm3 cz;have wN:=hS.QU cz fz rz;refine(Wi X N i a3 (dn+(bI [aB q]).length) c3 (dn+(bI [aB q]).length) mo hn he wt .nilFunc tu ct true sk nd pn pe fl tk dd cs sv td (cB pn q i) (cB pe q 1) (mF B8.r B8.e B8.f B8.t B8.o (.slice a8 B8.es.length c8) g8) (aag o8) q hq R8 R6 (α 2) (α 1) (α 0) z (wN.at 0 rfl) (wN.at 1 rfl) (wN.at 6 rfl) (wN.at 5 rfl) (wN.at 4 rfl) (wN.at 3 rfl) (wN.at 2 rfl) (wN.JG [0,1,6,5,4,3,2] (by decide)).nodup).mono ?_;rintro _ z' ⟨rfl,f0,f1,cc⟩;exact⟨rfl,a3,c3,(wN.aey 0 1 rfl rfl (by decide) cc f0 f1).said fun _ h=>⟨h.1.1.1.2,h.2⟩,hc3,It,hm3⟩
 rintro _ w6 ⟨rfl,a3,c3,hS,hc3,It,hm3⟩;obtain rfl:=OX fF;exact⟨vt [],_,_,_,_,rfl,.inl rfl,hS,r [] rfl fun _=>dh rfl fun w7 hS=>⟨rfl,hS.now.2.mono fun b h=>by simpa using h,.inr ⟨⟨⟨KJ,Cy⟩,rfl,rfl,congrArg Prod.snd fF,iX⟩,a3,c3,a8,c8,g8,_,rfl,hS.at 0 rfl,hS.at 1 rfl,fun w2 cc=>(hS.take 2).g w2 (cc.mono fun b h=>h.imp (fun h=>show b∈[N,X] by simpa using h) id),hc3,It,hm3⟩⟩⟩
end
def Sz(mo:tT):Nat→Value:=fun k=>mo (k/47) (k % 47)
theorem acz(mo:tT){k:Nat}(hk:k<4)(w:tA):(Instr.index 118 (vF (Sz mo) 188) (iV (k:Int))).run Tryz.prog w= .ok (vF (mo k) 47) w:=by
 obtain rfl|rfl|rfl|rfl:k=0∨k=1∨k=2∨k=3:=by omega
 ·kernel_rfl
 ·kernel_rfl
 ·kernel_rfl
 ·kernel_rfl
theorem ZX{hd tl:tM}{mo:tT}{hn he:tH}{wt af:tK}{tu:Int}{j:Nat}(h:j<188):kF hd (gh mo hn he wt af tu) tl (5+j)=Sz mo j:=by
 rw[DX (by omega)];unfold gh Sz;rw[if_pos h]
def ZY(nd:tV):Nat→Value:=fun k=> .pointer (some ⟨nd k,0,none⟩)
theorem acA(nd:tV){k:Nat}(hk:k<5)(w:tA):(Instr.index 110 (vF (ZY nd) 5) (iV (k:Int))).run Tryz.prog w= .ok (.pointer (some ⟨nd k,0,none⟩)) w:=by
 obtain rfl|rfl|rfl|rfl|rfl:k=0∨k=1∨k=2∨k=3∨k=4:=by omega
 ·kernel_rfl
 ·kernel_rfl
 ·kernel_rfl
 ·kernel_rfl
 ·kernel_rfl
abbrev bF(B:Bt)(a:tB)(c:Nat):Nat→Value:=lF [iV B.r,iV B.e,iV B.f,iV B.t,iV B.o,.slice a B.es.length c]
structure ly(w:tA)(Y l:Nat)(B:Nat→Bt)(A:Nat→Option Addr)(K:tV):Prop where
 cell:∀q,q<l→∀j,j<6→w.cell? ⟨Y,q*6+j,none⟩=some (bF (B q) (A q) (K q) j)
 bin:∀q,q<l→jb w (B q) (A q) (K q)
theorem Wm{U:tF}{w w':tA}{Y:Nat}{f:Nat→Bt}{A:Nat→Option Addr}{K:tV}(h:KF w' Y f A K)(hY:w.heap.size≤Y)(hU:∀b,U b→b<w.heap.size):bV U w' fun w=>ly w Y 4 f A K:=fun w2 c=>by
 refine⟨fun q hq j hj=> ?_,fun q hq=> ?_⟩
 ·have aM:=h.b.lt;have nu:¬U Y:=fun hu=>by have:=hU _ hu;omega
  rw[c.cell aM nu];obtain⟨h0,h1,h2,h3,h4,h5⟩:=h.b.at q hq
  match j,hj with
  |0,_=>exact h0
  |1,_=>exact h1
  |2,_=>exact h2
  |3,_=>exact h3
  |4,_=>exact h4
  |5,_=>exact h5
 ·have hb:=h.bin q hq;refine⟨mG hb.row c fun x hx _ hu=> ?_,hb.cap,hb.nil⟩;obtain⟨_,⟨e1,_⟩|⟨g,cap,cur,e1,hg,_⟩⟩:=h.own q hq
  ·simp only[mU]at e1;cases hx.symm.trans (by injection e1:A q=none)
  ·simp only[mU]at e1;have e2:A q=some ⟨g,0,none⟩:=by injection e1
   rw[hx]at e2;cases e2;have:=hU _ hu;simp only at this;omega
section
open Rv
theorem FD:jv Tryz.prog 50 49 6 64=true:=by kernel_rfl
theorem MC{g g':tD}{m:Nat}(h:∀j,j<m→g j=g' j):vF g m=vF g' m:=by
 have:cm g 0 m=cm g' 0 m:=BL fun j hj=>by rw[Ae];exact h j (Cb.1 hj)
 unfold vF;rw[this]
def bL(Bs:Nat→Bt)(A:Nat→Option Addr)(K:tV)(k:Nat):List Value:=(List.range k).flatMap fun q=>cm (bF (Bs q) (A q) (K q)) 0 6
theorem aaN(Bs:Nat→Bt)(A:Nat→Option Addr)(K:tV)(k:Nat):bL Bs A K (k+1)=bL Bs A K k++cm (bF (Bs k) (A k) (K k)) 0 6:=by simp[bL,List.range_succ]
theorem FE(Bs:Nat→Bt)(A:Nat→Option Addr)(K:tV):∀k,(bL Bs A K k).length=6*k
 |0=>rfl
 |k+1=>by rw[aaN,Ac,FE Bs A K k,bK];omega
theorem Yz(Bs:Nat→Bt)(A:Nat→Option Addr)(K:tV):∀(k q j:Nat),q<k→j<6→(bL Bs A K k)[q*6+j]? =some (bF (Bs q) (A q) (K q) j)
 |0,q,_,h,_=>absurd h (AH q)
 |k+1,q,j,h,hj=>by
  rw[aaN];by_cases e:q=k
  ·subst e;rw[AE (by rw[FE];omega),FE,show q*6+j-6*q=j by omega,bX _ _ _ _ hj,Ae]
  ·rw[AD (by rw[FE];omega)];exact Yz Bs A K k q j (by omega) hj
theorem Iu{Bs:Nat→Bt}{A A':Nat→Option Addr}{K K':tV}:∀(k:Nat),(∀q,q<k→A q=A' q∧K q=K' q)→bL Bs A K k=bL Bs A' K' k
 |0,_=>rfl
 |k+1,h=>by rw[aaN,aaN,Iu k fun q hq=>h q (by omega),(h k (Nat.lt_succ_self k)).1,(h k (Nat.lt_succ_self k)).2]
theorem Wn{w:tA}{Bs:Nat→Bt}{A:Nat→Option Addr}{K:tV}{k:Nat}{a:tB}{c:Nat}(h:∀q,q<k→jb w (Bs q) (A q) (K q))(hk:jb w (Bs k) a c):∀q,q<k+1→jb w (Bs q) (au A k a q) (au K k c q):=fun q hq=>by
 unfold au;by_cases e:q=k
 ·subst e;rw[if_pos rfl,if_pos rfl];exact hk
 ·rw[if_neg e,if_neg e];exact h q (by omega)
theorem OZ(X N:Nat)(i:Int)(da:tB)(dn dc:Nat)(sy:Int)(mo:tT)(hn he:tH)(wt af:tK)(tu ct:Int)(sk:Bool)(Bs:Nat→Bt)(ba:Nat→Option Addr)(bc:tV)(bq:tT)(UX:∀q,q<4→vF (mo q) 47=yh (Bs q) (ba q) (bc q) (bq q))(p_:∀q,q<4→aS (mo q) 47)(hlen:∀q,q<4→(Bs q).es.length≤1000000)(w:tA)(UU:aY w N 126 206 (kF [.pointer (some ⟨X,0,none⟩),iV i,.bool true,.slice da dn dc,iV sy] (gh mo hn he (wt) (af) tu) [iV ct,.bool sk]))(U:tF)(hU:∀b,U b→b<w.heap.size)(Gj:¬U N)(hr:bV (fun b=>b=N∨U b) w fun w=>∀q,q<4→jb w (Bs q) (ba q) (bc q)):cA 52 #[.pointer (some ⟨N,0,none⟩)] w fun x w'=>∃Y c A K,x= .returned (.slice (some ⟨Y,0,none⟩) 4 c)∧4≤c∧bV (fun b=>b=N∨U b) w' (fun w=>ly w Y 4 Bs A K)∧bZ w w':=by
 have UW:[N].Nodup:=by simp
 have Sy:∀e∈([⟨N,126,206,(kF [.pointer (some ⟨X,0,none⟩),iV i,.bool true,.slice da dn dc,iV sy] (gh mo hn he (wt) (af) tu) [iV ct,.bool sk])⟩]:List bU),aY w e.a e.t e.n e.f:=by
  intro e he;simp only[List.mem_cons,List.not_mem_nil,or_false]at he;rcases he with rfl
  ·exact UU
 have hS:Mem w [⟨N,126,206,(kF [.pointer (some ⟨X,0,none⟩),iV i,.bool true,.slice da dn dc,iV sy] (gh mo hn he (wt) (af) tu) [iV ct,.bool sk])⟩] U (fun w=>∀q,q<4→jb w (Bs q) (ba q) (bc q)) (fun w'=>dm (fun b=>b∈[N]) w w'):=Mem.begin Sy (QT UW) (fun e he=>by cases Ab.1 he;exact Gj) hU (fun w2 c=>hr w2 (c.mono fun b h=>h.imp (fun h=>Ab.1 h) id));clear Sy;refine en (H:=[⟨N,126,[.f 206 (kF [.pointer (some ⟨X,0,none⟩),iV i,.bool true,.slice da dn dc,iV sy] (gh mo hn he wt af tu) [iV ct,.bool sk])]⟩]) _ [vp 0 0 N] Tryz.func52 rfl rfl hS (r [] rfl fun _=>sv 37 (vf 188 (Sz mo)) (MC fun j hj=>ZX hj) ?_);refine jj (fun w2 hS=>hS.zT w.heap.size 49 6) ?_;refine iC (X:=Nat×Value×(Nat→Option Addr)×(Nat→Nat)) ⟨fun x=>[(9,vv x.2.1),(37,vf 188 (Sz mo)),(38,vi (x.1:Int))],fun x=>[⟨N,126,[.f 206 (kF [.pointer (some ⟨X,0,none⟩),iV i,.bool true,.slice da dn dc,iV sy] (gh mo hn he wt af tu) [iV ct,.bool sk])]⟩],fun x b=>x.2.1.ownBlock=some b∨U b,fun x w=>(∀q,q<4→jb w (Bs q) (ba q) (bc q))∧∀q,q<x.1→jb w (Bs q) (x.2.2.1 q) (x.2.2.2 q),fun x w'=>dm (fun b=>b∈[N]) w w'∧w'.ownsRow w.heap.size 49 6 x.2.1 x.1 (bL Bs x.2.2.1 x.2.2.2 x.1),fun x=>x.1≤4,fun x=>4-x.1⟩ (0,.slice none 0 0,fun _=>none,fun _=>0) ⟨rfl,rfl,rfl,trivial⟩ (fun w hS=>hS.said fun _ h=>⟨h,fun q hq=>absurd hq (AH q)⟩) (Ak _) ?_;rintro f ⟨k,v9,A,K⟩ hk;have hk:k≤4:=hk;by_cases aM:k<4
 case neg=>
  obtain rfl:k=4:=by omega
  refine r [0] rfl fun _=>fin fun w1 hS=> ?_;have ho:w1.ownsRow w.heap.size 49 6 v9 4 (bL Bs A K 4):=hS.now.2.2;rcases id ho.2 with⟨_,h⟩|⟨Y,c,_,rfl,hY,_,h4,_⟩
  ·cases h
  refine⟨Y,c,A,K,rfl,h4,fun w2 c2=>⟨fun q hq j hj=> ?_,(hS.g w2 (c2.mono fun b hb=>hb.imp (fun h=>Ab.2 h) .inr)).2⟩,(hS.now.2.1.less (U:=fun _=>False) fun b hb=>by obtain rfl:=Ab.1 hb;exact .inr ⟨_,_,_,UU,hS.at 0 rfl⟩).below (Aa _) fun _ _ h=>h⟩
  ·have hk:=jD ho fun g hg aM=>c2.block g aM fun hu=>by
    cases hg;rcases hu with hu|hu
    ·exact absurd hY (BE.2 (by have h:=UU.lt;rw[←hu]at h;exact h))
    ·exact absurd (hU _ hu) (AY.2 hY)
   have:=oF hk (Yz Bs A K 4 q j hq hj);rwa [BG,Ae]at this
 refine r [1] rfl fun _=>ix (vf 47 (mo k)) rfl rfl (acz mo aM) ?_;have qE:=p_ k aM;refine r [] rfl fun γ=>cx rfl (fun y:Option Addr×Nat=>vg (bS (Bs k).r (Bs k).e (Bs k).f (Bs k).t (Bs k).o y.1 (Bs k).es.length y.2)) (fun y=>(Bs k).es.length≤y.2∧(y.1=none→y.2=0)) (fun y w=>RowK .i64 w y.1 (6*(Bs k).es.length) (ai (Bs k).es)) (fun w1 hS=> ?_) ?_
 ·have wm:=Ki (Bs k).r (Bs k).e (Bs k).f (Bs k).t (Bs k).o (ba k) (Bs k).es.length (bc k) (bq k) (ai (Bs k).es) w1 (hS.now.1.1 k aM).row (hS.now.1.1 k aM).nil (hlen k aM);rw[show jw (Bs k).r (Bs k).e (Bs k).f (Bs k).t (Bs k).o (ba k) (Bs k).es.length (bc k) (bq k)=vF (mo k) 47 from(UX k aM).symm]at wm;refine wm.mono ?_;rintro _ w3 ⟨_,rfl,⟨a8,c8,rfl,r8,Gk,SA,hf8⟩,b⟩;exact⟨(a8,c8),rfl,b,⟨Gk,SA⟩,fun hl=>bW r8 hf8 hl⟩
 rintro⟨a8,c8⟩ ⟨Gk,SA⟩;have eA:∀q,q<k→au A k a8 q=A q∧au K k c8 q=K q:=fun q hq=>⟨if_neg (by omega),if_neg (by omega)⟩;have eL:bL Bs (au A k a8) (au K k c8) (k+1)=bL Bs A K k++cm (bF (Bs k) a8 c8) 0 6:=by rw[aaN,Iu k eA,show au A k a8 k=a8 from if_pos rfl,show au K k c8 k=c8 from if_pos rfl]
 refine r [] rfl fun _=>qT 2 rfl FD (fun w1 hS=>hS.now.2.1.size) (fun _ _ h c=>h.trans c fun b hb hle=>absurd hb (AY.2 hle)) fun g c hc=> ?_;refine rz [1] [((k+1:Nat):Int)] rfl fun _=>b_ (k+1,_,au A k a8,au K k c8) ⟨rfl,rfl,rfl,trivial⟩ (fun w1 hS=>((hS.take 1).said fun w h=>⟨h.1.1,Wn h.1.2 ⟨h.2,Gk,SA⟩⟩).sr fun w h=>⟨h.1,by show w.ownsRow _ _ _ _ (k+1) (bL Bs (au A k a8) (au K k c8) (k+1));rw[eL];exact h.2⟩) (show k+1≤4 by omega) (show 4-(k+1)<4-k by omega)
theorem Iv(rs:List Rec):(rs.map aZ).flatten=aC rs:=by
 unfold aC;rw[List.flatMap_def]
theorem SC{w:tA}{a:tB}{rs:List Rec}(h:jc w a (rs.map aZ))(vC:∀u∈aC rs,(Lit.int .i64 u).wf=true):RowK .i64 w a (10*rs.length) (aC rs):=by
 have hl:(aC rs).length=10*rs.length:=by
  rw[←Iv,H8 _ h.Mp,AX];omega
 refine⟨hl,vC,fun i hi=> ?_⟩;obtain⟨b,off,e,hb,hc⟩:=h.cell i (by rw[AX];omega);rw[Iv]at hc;exact⟨b,off,e,hb,hc⟩
theorem MD(a:tB)(len cap:Nat)(l:tG)(s:Int)(rs:List Rec)(kk:Nat)(w:tA)(h:RowK .u8 w a len l)(hn:a=none→cap=0)(qv:len≤cap)(hc:cap≤9223372036854775807)(h1:len≤100000)(h2:0≤s)(h3:s≤len)(Wo:bu l=(rs.map aZ,kk))(vC:∀u∈aC rs,(Lit.int .i64 u).wf=true):
  cA 93 #[.agg #[.slice a len cap,iV s]] w fun e w'=>
   ∃a' bh,e= .returned (.tuple #[.slice a' rs.length bh,iV (kk:Nat),iV 0])∧RowK .i64 w' a' (10*rs.length) (aC rs)∧rs.length≤bh∧bh≤9223372036854775807∧(a'=none→bh=0)∧(∀x,a'=some x→w.heap.size≤x.block)∧bZ w w':=by
 refine(H9 a len cap l s w h hn qv hc h1 h2 h3).mono ?_;rintro _ w' ⟨a',c',rfl,hr,pr,jB,hc3,hc4,hb⟩;rw[Wo]at hr pr⊢;simp only[List.length_map]at pr⊢;exact⟨a',c',rfl,SC hr vC,pr,jB,hc3,hc4,hb⟩
theorem Wp{f g:Nat→Bt}(h:kL f=kL g):∀q,q<4→f q=g q:=by
 simp only[kL,List.cons.injEq,and_true]at h;obtain⟨h0,h1,h2,h3⟩:=h;intro q hq;obtain rfl|rfl|rfl|rfl:q=0∨q=1∨q=2∨q=3:=by omega
 ·exact h0
 ·exact h1
 ·exact h2
 ·exact h3
theorem ZZ{U:tF}(rs:List Rec)(Bs:Nat→Bt)(a:tB)(c:Nat)(w:tA)(hr:RowK .i64 w a (10*rs.length) (aC rs))(hc:rs.length≤c)(hlen:(rs.length+1)*48≤140737488355328)(SD:(kE (kL fY) 0 rs).1=some (kL Bs))(hU:∀b,U b→b<w.heap.size):
  cA 94 #[.slice a rs.length c] w fun x w'=>∃Y A K,x= .returned (.tuple #[.slice (some ⟨Y,0,none⟩) 4 4,iV 0,iV 0])∧bV U w' (fun w=>ly w Y 4 Bs A K)∧bZ w w':=by
 refine(Wd rs a c w hr hc hlen).mono ?_;rintro _ w' ⟨⟨_,ho⟩,hb⟩;obtain⟨Y,f,A,K,rfl,_,_,e,hf,hY⟩:=ho _ SD;have hq:=Wp e;refine⟨Y,A,K,rfl,fun w2 c2=> ?_,hb⟩;have hh:=Wm hf hY hU w2 c2;exact⟨fun q yj j hj=>by rw[hq q yj];exact hh.cell q yj j hj,fun q yj=>by rw[hq q yj];exact hh.bin q yj⟩
theorem Iw(X N:Nat)(i:Int)(da:tB)(dn dc:Nat)(dl:tG)(sy:Int)(mo:tT)(hn he:tH)(wt af:tK)(tu ct:Int)(sk:Bool)(Bs:Nat→Bt)(rs:List Rec)(kk:Nat)(w:tA)(UU:aY w N 126 206 (kF [.pointer (some ⟨X,0,none⟩),iV i,.bool false,.slice da dn dc,iV sy] (gh mo hn he (wt) (af) tu) [iV ct,.bool sk]))(U:tF)(hU:∀b,U b→b<w.heap.size)(Gj:¬U N)(hr:bV (fun b=>b=N∨U b) w fun w=>RowK .u8 w da dn dl)(JR:da=none→dc=0)(JF:dn≤dc)(hdm:dc≤9223372036854775807)(h1:dn≤100000)(h2:0≤sy)(h3:sy≤dn)(Wo:bu dl=(rs.map aZ,kk))(vC:∀u∈aC rs,(Lit.int .i64 u).wf=true)(hrl:rs.length≤100000)(SD:(kE (kL fY) 0 rs).1=some (kL Bs)):cA 52 #[.pointer (some ⟨N,0,none⟩)] w fun x w'=>∃Y c A K,x= .returned (.slice (some ⟨Y,0,none⟩) 4 c)∧4≤c∧bV (fun b=>b=N∨U b) w' (fun w=>ly w Y 4 Bs A K)∧bZ w w':=by
 refine en 48 [vp 0 0 N] Tryz.func52 rfl rfl (UU.LN hU Gj hr) (r [] rfl fun _=> ?_);refine cx rfl (fun y:Option Addr×Nat=>vt [.o (.slice y.1 rs.length y.2),.o (iV (kk:Nat)),.o (iV 0)]) (fun y=>rs.length≤y.2) (fun y w=>RowK .i64 w y.1 (10*rs.length) (aC rs)) (fun w1 hS=>(MD da dn dc dl sy rs kk w1 hS.now.1 JR JF hdm h1 h2 h3 Wo vC).mono fun _ w2 ⟨a1,c1,h0,r1,pr,_,_,ux,b⟩=>⟨(a1,c1),h0,b,pr,bW r1 ux⟩) ?_;rintro⟨a8,c8⟩ Gk;refine r [] rfl fun _=>cx rfl (fun y:Nat×(Nat→Option Addr)×(Nat→Nat)=>vt [.o (.slice (some ⟨y.1,0,none⟩) 4 4),.o (iV 0),.o (iV 0)]) (fun _=>True) (fun y w=>ly w y.1 4 Bs y.2.1 y.2.2) (fun w1 hS=>(ZZ rs Bs a8 c8 w1 hS.now.1.2 Gk (by omega) SD hS.ult).mono fun _ w2 ⟨Y,A,K,h0,st,b⟩=>⟨(Y,A,K),h0,b,trivial,fun _=>st⟩) ?_;rintro⟨Y,A,K⟩ _;refine r [] rfl fun _=>fin fun w2 hS=> ?_;have ch:dm (fun _=>False) w w2:=hS.now.2.less fun b hb=>by
  cases Ab.1 hb;exact .inr ⟨_,_,_,UU,hS.at 0 rfl⟩
 exact⟨Y,4,A,K,rfl,Aa _,fun w2 c2=>(hS.g w2 (c2.mono fun b h=>h.imp (fun h=>Ab.2 h) id)).2,ch.below (Aa _) fun _ _ h=>h⟩
theorem ry:jv Tryz.prog 176 167 10 80=true:=by kernel_rfl
theorem Wq{mo:tT}{hn he:tH}{wt af:tK}{tu:Int}{q:Nat}{g:tD}(hq:q<4)(i:Nat):gf (gh mo hn he wt af tu) (0+q*47) 47 g i=gh (au mo q g) hn he wt af tu i:=by
 rw[Ae];exact Ss hq i
abbrev rA(Bs:Nat→Bt)(q:Nat):Rec:=⟨2,q,(Bs q).e,0,⟨4,0,0,0,0,0⟩⟩
def aW(Bs:Nat→Bt):Nat→List Rec
 |0=>[]
 |k+1=>if(Bs k).r=1 then aW Bs k++[rA Bs k]else aW Bs k
theorem o7{Bs:Nat→Bt}{k:Nat}(h:(Bs k).r=1):aW Bs (k+1)=aW Bs k++[rA Bs k]:=if_pos h
theorem qH{Bs:Nat→Bt}{k:Nat}(h:¬(Bs k).r=1):aW Bs (k+1)=aW Bs k:=if_neg h
theorem mn(Bs:Nat→Bt):∀k,(aW Bs k).length≤k
 |0=>Aa _
 |k+1=>by
  have:=mn Bs k;unfold aW;split
  ·rw[Ac,BO];omega
  ·omega
theorem iw:∀l:List Rec,(aC l).length=10*l.length
 |[]=>rfl
 |r::l=>by
  have:=iw l;unfold aC at this⊢;rw[List.flatMap_cons,Ac,this,List.length_cons];show 10+_=_;omega
theorem O4{l:List Rec}{r:Rec}{F F':tD}(h:∀j,j<10*l.length→F j=iV ((aC l).getD j 0))(h1:∀j,j<l.length*10→F' j=F j)(h2:∀j,j<10→F' (l.length*10+j)=lF [iV r.k,iV r.q,iV r.e,iV r.p,iV r.v.k,iV r.v.p,iV r.v.i,iV r.v.b,iV r.v.he,iV r.v.hn] j):∀j,j<10*(l++[r]).length→F' j=iV ((aC (l++[r])).getD j 0):=fun j hj=>by
 have e:aC (l++[r])=aC l++aZ r:=by simp[aC]
 rw[Ac,BO]at hj;rw[e];have hl:=iw l;by_cases hc:j<10*l.length
 ·rw[h1 j (by omega),h j hc];simp only[List.getD_eq_getElem?_getD];rw[AD (by omega)]
 ·obtain⟨i,rfl⟩:∃i,j=l.length*10+i:=⟨j-l.length*10,by omega⟩;have hi:i<10:=by omega
  rw[h2 i hi];simp only[List.getD_eq_getElem?_getD];rw[AE (by omega),hl,show l.length*10+i-10*l.length=i by omega]
  match i,hi with
  |0,_=>rfl
  |1,_=>rfl
  |2,_=>rfl
  |3,_=>rfl
  |4,_=>rfl
  |5,_=>rfl
  |6,_=>rfl
  |7,_=>rfl
  |8,_=>rfl
  |9,_=>rfl
theorem Z0{U:tF}{w:tA}{Y T n:Nat}{F:tD}{l:tG}(fb:aY w Y T n F)(hY:¬U Y)(hn:l.length≤n)(hF:∀j,j<l.length→F j=iV (l.getD j 0))(vC:∀u∈l,(Lit.int .i64 u).wf=true):bV U w fun w=>RowK .i64 w (some ⟨Y,0,none⟩) l.length l:=fun w2 c=>
 ⟨rfl,vC,fun i hi=>⟨Y,0,rfl,Aj fb.lt c.size,by rw[Ae,c.cell fb.lt hY,fb.at i (by omega),hF i hi]⟩⟩
theorem Wt{w:tA}{Bw:Nat→Bt}{A:Nat→Option Addr}{K:tV}{q':tT}{k:Nat}{a:tB}{c:Nat}{g:tD}(h:∀q,q<k→jT w (Bw q) (A q) (K q) (q' q))(hk:jT w (Bw k) a c g):∀q,q<k+1→jT w (Bw q) (au A k a q) (au K k c q) (au q' k g q):=fun q hq=>by
 unfold au;by_cases e:q=k
 ·subst e;rw[if_pos rfl,if_pos rfl,if_pos rfl];exact hk
 ·rw[if_neg e,if_neg e,if_neg e];exact h q (by omega)
theorem Z1{mo:tT}{Bw:Nat→Bt}{A:Nat→Option Addr}{K:tV}{q':tT}{k:Nat}{a:tB}{c:Nat}{g y:tD}(h:∀q,q<k→vF (mo q) 47=yh (Bw q) (A q) (K q) (q' q))(hk:vF y 47=yh (Bw k) a c g):∀q,q<k+1→vF (au mo k y q) 47=yh (Bw q) (au A k a q) (au K k c q) (au q' k g q):=fun q hq=>by
 unfold au;by_cases e:q=k
 ·subst e;rw[if_pos rfl,if_pos rfl,if_pos rfl,if_pos rfl];exact hk
 ·rw[if_neg e,if_neg e,if_neg e,if_neg e];exact h q (by omega)
theorem Wu{mo:tT}{k:Nat}{y:tD}(h:∀q,q<4→aS (mo q) 47)(hy:aS y 47):∀q,q<4→aS (au mo k y q) 47:=fun q hq=>by
 unfold au;by_cases e:q=k
 ·rw[if_pos e];exact hy
 ·rw[if_neg e];exact h q hq
theorem O8{Bs:Nat→Bt}(h:∀q,q<4→(Lit.int .i64 (Bs q).e).wf=true):∀u∈aC (aW Bs 4),(Lit.int .i64 u).wf=true:=by
 have:∀k,k≤4→∀u∈aC (aW Bs k),(Lit.int .i64 u).wf=true:=by
  intro k
  induction k with
  |zero=>intro _ u hu;simp[aW,aC]at hu
  |succ k ih=>
   intro hk u hu;by_cases hr:(Bs k).r=1
   ·rw[o7 hr]at hu;have e:aC (aW Bs k++[rA Bs k])=aC (aW Bs k)++aZ (rA Bs k):=by simp[aC]
    rw[e,Ao]at hu;rcases hu with hu|hu
    ·exact ih (by omega) u hu
    ·simp only[aZ,List.mem_cons,List.not_mem_nil,or_false]at hu;rcases hu with rfl|rfl|rfl|rfl|rfl|rfl|rfl|rfl|rfl|rfl
     ·decide
     ·obtain rfl|rfl|rfl|rfl:k=0∨k=1∨k=2∨k=3:=by omega
      ·decide
      ·decide
      ·decide
      ·decide
     ·exact h k (by omega)
     ·decide
     ·decide
     ·decide
     ·decide
     ·decide
     ·decide
     ·decide
   ·rw[qH hr]at hu;exact ih (by omega) u hu
 exact this 4 (Aa _)
theorem Ix(l:List Rec)(r:Rec):(aC (l++[r])).map (Value.int .i64)=(aC l).map (Value.int .i64)++(aZ r).map (Value.int .i64):=by simp[aC]
theorem KK{x:Int}(h1: -9223372036854775808≤x)(h2:x≤9223372036854775807):(Lit.int .i64 x).wf=true:=by
 have e:IntKind.i64.min= -9223372036854775808:=rfl;simp[Lit.wf];exact⟨by omega,h2⟩
theorem jK{B:Bt}(h:B.cH):0≤B.e∧B.e≤1048576:=by
 unfold Bt.cH bB at h;omega
def WkY(Bs:Nat→Bt)(U:tF)(w:tA)(x:Ending)(w':tA):Prop:=∃(mo:tT) (ba:Nat→Option Addr) (bc:tV) (bq:tT) (ra:tB) (rc:Nat),x= .returned (.tuple #[vF (gh mo (eD 4) bp (.slice none 0 0) .nilFunc 0) 199,.slice ra (aW Bs 4).length rc,.bool true])∧(∀q,q<4→vF (mo q) 47=yh (bm (Bs q)).1 (ba q) (bc q) (bq q))∧(∀q,q<4→aS (mo q) 47)∧bV U w' (fun w=>(∀q,q<4→jT w (bm (Bs q)).1 (ba q) (bc q) (bq q))∧RowK .i64 w ra (10*(aW Bs 4).length) (aC (aW Bs 4)))∧(aW Bs 4).length≤rc∧bZ w w'
theorem DY(Bs:Nat→Bt)(Y cb:Nat)(A:Nat→Option Addr)(K:tV)(ok:∀q,q<4→(Bs q).Ok)(he:∀q,q<4→(Lit.int .i64 (Bs q).e).wf=true)(U:tF)(w:tA)(hU:∀b,U b→b<w.heap.size)(hb:bV U w fun w=>ly w Y 4 Bs A K):cA 86 #[.slice (some ⟨Y,0,none⟩) 4 cb] w fun x w'=>((∃p,p<4∧¬(bm (Bs p)).2=0)∧x= .returned (.tuple #[vF ZU 199,.slice none 0 0,.bool false])∧bZ w w')∨((∀q,q<4→(bm (Bs q)).2=0)∧WkY Bs U w x w'):=by
 have o0:aS (gh Qp (eD 4) bp (.slice none 0 0) .nilFunc 0) 199:=uU wZ rfl;refine en (H:=[]) 52 [vv (.slice (some ⟨Y,0,none⟩) 4 cb)] Tryz.func86 rfl rfl (oE hU hb) (r [] rfl fun α=> ?_);refine Rv.cb rfl (vf 199 (gh Qp (eD 4) bp (.slice none 0 0) .nilFunc 0)) (fun w _=>tz w) (r [] rfl fun β=>gn 0 ZU ?_);refine jj (fun w2 hS=>hS.zT w.heap.size 167 10) ?_;refine iC (X:=Nat×Value×(Nat→Nat→Value)×(Nat→Option Addr)×(Nat→Nat)×(Nat→Nat→Value)) ⟨fun x=>[(2,vp 0 0 (α 0)),(5,vp 1 0 (β 0)),(6,vv x.2.1),(12,vv (.slice (some ⟨Y,0,none⟩) 4 cb)),(13,vi 4),(14,vi (x.1:Int))],fun x=>[⟨α 0,120,[.f 199 ZU]⟩,⟨β 0,120,[.f 199 (gh x.2.2.1 (eD 4) bp (.slice none 0 0) .nilFunc 0)]⟩],fun x b=>x.2.1.ownBlock=some b∨U b,fun x w=>ly w Y 4 Bs A K∧∀q,q<x.1→jT w (bm (Bs q)).1 (x.2.2.2.1 q) (x.2.2.2.2.1 q) (x.2.2.2.2.2 q),fun x w'=>bZ w w'∧w'.ownsRow w.heap.size 167 10 x.2.1 (aW Bs x.1).length ((aC (aW Bs x.1)).map (.int .i64)),fun x=>x.1≤4∧(∀q,q<x.1→(bm (Bs q)).2=0)∧(∀q,q<x.1→vF (x.2.2.1 q) 47=yh (bm (Bs q)).1 (x.2.2.2.1 q) (x.2.2.2.2.1 q) (x.2.2.2.2.2 q))∧(∀q,q<4→aS (x.2.2.1 q) 47),fun x=>4-x.1⟩ (0,.slice none 0 0,Qp,fun _=>none,fun _=>0,fun _=>zQ) ⟨rfl,rfl,rfl,rfl,rfl,rfl,trivial⟩ (fun w hS=>hS.said fun _ h=>⟨h,fun q hq=>absurd hq (AH q)⟩) ⟨Ak _,fun q hq=>absurd hq (AH q),fun q hq=>absurd hq (AH q),wZ⟩ ?_;rintro f ⟨k,v6,mo,ba,bc,bq⟩ ⟨hk,Z2,UX,p_⟩;have hk:k≤4:=hk;have p_:∀q,q<4→aS (mo q) 47:=p_;have o1:aS (gh mo (eD 4) bp (.slice none 0 0) .nilFunc 0) 199:=uU p_ rfl;have FF:=mn Bs k;by_cases aM:k<4
 case neg=>
  obtain rfl:k=4:=by omega
  refine r [0] rfl fun _=>fin fun w1 hS=> .inr ⟨Z2, ?_⟩;have ho:w1.ownsRow w.heap.size 167 10 v6 (aW Bs 4).length ((aC (aW Bs 4)).map (Value.int .i64)):=hS.now.2.2;obtain⟨a,c,rfl,hr,hc,_,_,hf⟩:=RowK.eO ho (O8 he);exact⟨mo,ba,bc,bq,a,c,rfl,UX,p_,fun w2 c2=>⟨(hS.ES w2 (c2.mono fun _ h=> .inr h)).2,bW hr hf hU w2 c2⟩,hc,hS.now.2.1⟩
 refine r [1] rfl fun _=>lf (q:=0+k*6) rfl 6 (bF (Bs k) (A k) (K k)) (fun w hS j hj=>by rw[Ae];exact hS.now.1.1.cell k aM j hj) (r [] rfl fun γ=> ?_);refine cx rfl (fun y:Oh=>vt [Kk y,.o (iV 0)]) (fun y=>y.1=Bs k∧aS y.2.2.2 41) RL (fun w hS=>(VV _ (Bs k) (A k) (K k) w hS.ult (fun w2 c2=>(hS.g w2 c2).1.bin k aM) (ok k aM)).mono ?_) ?_
 ·rintro _ w7 ⟨_,rfl,⟨a8,c8,q8,rfl,hm8⟩,b⟩;exact⟨(Bs k,a8,c8,q8),rfl,b,⟨rfl,hm8.now.one⟩,fun _=>hm8⟩
 rintro⟨B8,a8,c8,q8⟩ ⟨e8,o8⟩;obtain rfl:B8=Bs k:=e8;have o8:aS q8 41:=o8;refine r [1] rfl fun δ=>cx rfl (fun y:Int×Oh=>vt [Kk y.2,.o (iV y.1)]) (fun y=>bm (Bs k)=(y.2.1,y.1)∧aS y.2.2.2.2 41) (fun y=>RL y.2) (fun w hS=>(Oo _ (Bs k) a8 c8 q8 w hS.ult (fun w2 c2=>(hS.g w2 c2).2) (ok k aM)).mono ?_) ?_
 ·rintro _ w10 ⟨_,B1,er,rfl,iX,⟨a9,c9,q9,rfl,hm9⟩,b⟩;exact⟨(er,B1,a9,c9,q9),rfl,b,⟨iX,hm9.now.one⟩,fun _=>hm9⟩
 rintro⟨er,B9,a9,c9,q9⟩ ⟨hw9,o9⟩;have hw9:bm (Bs k)=(B9,er):=hw9;have o9:aS q9 41:=o9;by_cases G_:er=0
 case neg=>exact r [1] rfl fun _=>fin fun w hS=> .inl ⟨⟨k,aM,by rw[hw9];exact G_⟩,rfl,hS.now.2.1⟩
 subst G_;have lo2:∀q,q<k+1→(bm (Bs q)).2=0:=fun q hq=>by
  by_cases e:q=k
  ·rw[e,hw9]
  ·exact Z2 q (by omega)
 have mi:=fun(w:tA) (h:(ly w Y 4 Bs A K∧∀q,q<k→jT w (bm (Bs q)).1 (ba q) (bc q) (bq q))∧jT w B9 a9 c9 q9)=>Wt (Bw:=fun q=>(bm (Bs q)).1) h.1.2 (by rw[hw9];exact h.2);have mu:=Z1 (y:=mF B9.r B9.e B9.f B9.t B9.o (.slice a9 B9.es.length c9) q9) UX (by rw[hw9]<;>rfl)
 have ou:=Wu (y:=mF B9.r B9.e B9.f B9.t B9.o (.slice a9 B9.es.length c9) q9) (k:=k) p_ (aag o9);refine r [0,1] rfl fun _=>so (g:=mF B9.r B9.e B9.f B9.t B9.o (.slice a9 B9.es.length c9) q9) rfl rfl rfl 1 rfl _ (fun i _=>Wq aM i) ?_ (aag o9);by_cases s7:(Bs k).r=1
 ·refine r [1] rfl fun _=>qT 4 rfl ry (fun w hS=>hS.now.2.1.size) (fun _ _ h c=>cV h c (Aa _)) fun g c hc=> ?_;refine rz [1] [((k+1:Nat):Int)] rfl fun _=>b_ (k+1,_,_,au ba k a9,au bc k c9,au bq k q9) ⟨rfl,rfl,rfl,rfl,rfl,rfl,trivial⟩ (fun w1 hS=>((hS.take 2).said fun w h=>⟨h.1.1.1,mi w ⟨h.1.1,h.2⟩⟩).sr fun w h=>⟨h.1,by rw[o7 s7,Ac,Ix];exact h.2⟩) ⟨(show k+1≤4 by omega),lo2,mu,ou⟩ (show 4-(k+1)<4-k by omega)
 ·refine rz [0,1] [((k+1:Nat):Int)] rfl fun _=>b_ (k+1,v6,_,au ba k a9,au bc k c9,au bq k q9) ⟨rfl,rfl,rfl,rfl,rfl,rfl,trivial⟩ (fun w1 hS=>((hS.take 2).said fun w h=>⟨h.1.1.1,mi w ⟨h.1.1,h.2⟩⟩).sr fun w h=>⟨h.1,by rw[qH s7];exact h.2⟩) ⟨(show k+1≤4 by omega),lo2,mu,ou⟩ (show 4-(k+1)<4-k by omega)
theorem O9(Bs:Nat→Bt)(Y cb:Nat)(A:Nat→Option Addr)(K:tV)(ok:∀q,q<4→(Bs q).Ok)(he:∀q,q<4→(Lit.int .i64 (Bs q).e).wf=true)(eC:∀q,q<4→(bm (Bs q)).2=0)(U:tF)(w:tA)(hU:∀b,U b→b<w.heap.size)(hb:bV U w fun w=>ly w Y 4 Bs A K):cA 86 #[.slice (some ⟨Y,0,none⟩) 4 cb] w (WkY Bs U w):=by
 refine(DY Bs Y cb A K ok he U w hU hb).mono ?_;rintro x w' (⟨⟨p,hp,h⟩,_⟩|⟨_,h⟩)
 ·exact absurd (eC p hp) h
 ·exact h
theorem YA{B:Bt}(ok:B.Ok):(Lit.int .i64 B.e).wf=true:=by
 have hs:=jK ok.cO;exact KK (by omega) (by omega)
end
def A_(fl:tK)(up:tQ)(pn pe:tH)(br sv td cl:tK):Nat→Value:=fun k=>
 if k<1 then fl else if k<6 then .bool (up (k-1))else if k<14 then lF [iV (pn 0),iV (pe 0),iV (pn 1),iV (pe 1),iV (pn 2),iV (pe 2),iV (pn 3),iV (pe 3)] (k-6)else lF [br,sv,td,cl] (k-14)
theorem KL{fl:tK}{up:tQ}{pn pe:tH}{br sv td cl:tK}(h1:fl.oneCell'=true)(h2:br.oneCell'=true)(h3:sv.oneCell'=true)(h4:td.oneCell'=true)(h5:cl.oneCell'=true):aS (A_ fl up pn pe br sv td cl) 18:=fun i hi=>by
 match i,hi with
 |0,_=>exact h1
 |1,_=>rfl
 |2,_=>rfl
 |3,_=>rfl
 |4,_=>rfl
 |5,_=>rfl
 |6,_=>rfl
 |7,_=>rfl
 |8,_=>rfl
 |9,_=>rfl
 |10,_=>rfl
 |11,_=>rfl
 |12,_=>rfl
 |13,_=>rfl
 |14,_=>exact h2
 |15,_=>exact h3
 |16,_=>exact h4
 |17,_=>exact h5
 |n+18,h=>exact absurd h (by omega)
def wC(up:tQ)(k:Nat):Nat→Bool:=fun q=>if q<k then up q else false
theorem acB{fl:tK}{up:tQ}{pn pe:tH}{br sv td cl:tK}{k:Nat}(hk:k<5)(i:Nat):ot (A_ fl (wC up k) pn pe br sv td cl) (0+1+k*1) (.bool (up k)) i=A_ fl (wC up (k+1)) pn pe br sv td cl i:=by
 by_cases hi:i=0+1+k*1
 ·subst hi;rw[EC];unfold A_;rw[if_neg (by omega),if_pos (by omega),show 0+1+k*1-1=k by omega];simp[wC]
 ·rw[pI _ _ _ _ hi];unfold A_;by_cases h1:i<1
  ·rw[if_pos h1,if_pos h1]
  ·rw[if_neg h1,if_neg h1];by_cases h2:i<6
   ·rw[if_pos h2,if_pos h2];congr 1;unfold wC;by_cases h3:i-1<k
    ·rw[if_pos h3,if_pos (by omega)]
    ·rw[if_neg h3,if_neg (by omega)]
   ·rw[if_neg h2,if_neg h2]
theorem Ww{w:tA}{Bs:Nat→Nat→Bt}{Y:tV}{A:Nat→Nat→Option Addr}{K:Nat→Nat→Nat}{k y:Nat}{a:Nat→Option Addr}{c:tV}(h:∀q,q<k→ly w (Y q) 4 (Bs q) (A q) (K q))(hk:ly w y 4 (Bs k) a c):∀q,q<k+1→ly w (au Y k y q) 4 (Bs q) (au A k a q) (au K k c q):=fun q hq=>by
 unfold au;by_cases e:q=k
 ·subst e;rw[if_pos rfl,if_pos rfl,if_pos rfl];exact hk
 ·rw[if_neg e,if_neg e,if_neg e];exact h q (by omega)
section
open Rv
theorem qX:ji Tryz.prog 111=some 1:=by kernel_rfl
theorem B_:jv Tryz.prog 30 50 1 24=true:=by kernel_rfl
def Z3(Y C:tV)(k:Nat):List Value:=(List.range k).map fun q=> .slice (some ⟨Y q,0,none⟩) 4 (C q)
theorem SE(Y C:tV)(k y c:Nat):Z3 (au Y k y) (au C k c) (k+1)=Z3 Y C k++[.slice (some ⟨y,0,none⟩) 4 c]:=by
 unfold Z3 au;rw[List.range_succ,AB];congr 1
 ·exact BL fun q hq=>by
   have:=Cb.1 hq;rw[if_neg (by omega),if_neg (by omega)]
 ·simp
theorem Iy(X:Nat)(nd:tV)(pn pe:tH)(fa:tB)(fn fc:Nat)(tk dd:tK)(cs:Int)(sa:tB)(sn sc:Nat)(ta:tB)(tn tc:Nat)(nu:tQ)(Bs:Nat→Nat→Bt)(w:tA)(U:tF)(hU:∀b,U b→b<w.heap.size)(hX:bV U w fun w=>(aY w X 114 19 (lx nd pn pe [.slice fa fn fc,tk,dd,iV cs,.slice sa sn sc,.slice ta tn tc])∧∀q,q<5→w.cell? ⟨nd q,2,none⟩=some (.bool (nu q))))(afG:∀k,k<5→∀(U':tF) (w1:tA),(∀b,U' b→b<w1.heap.size)→(∀b,b<w.heap.size→U' b→U b)→bZ w w1→cA 52 #[.pointer (some ⟨nd k,0,none⟩)] w1 fun x w'=>∃Y c A K,x= .returned (.slice (some ⟨Y,0,none⟩) 4 c)∧4≤c∧bV U' w' (fun w=>ly w Y 4 (Bs k) A K)∧bZ w1 w'):cA 31 #[.pointer (some ⟨X,0,none⟩)] w fun x w'=>∃(R c:Nat) (F:tD) (Y C:tV) (A:Nat→Nat→Option Addr) (K:Nat→Nat→Nat),x= .returned (vF (A_ (iV (fn:Int)) (wC nu 5) pn pe (.slice (some ⟨R,0,none⟩) 5 c) (.slice sa sn sc) (.slice ta tn tc) (iV cs)) 18)∧5≤c∧(∀q,q<5→F q= .slice (some ⟨Y q,0,none⟩) 4 (C q)∧4≤C q)∧bV U w' (fun w=>((aY w X 114 19 (lx nd pn pe [.slice fa fn fc,tk,dd,iV cs,.slice sa sn sc,.slice ta tn tc])∧∀q,q<5→w.cell? ⟨nd q,2,none⟩=some (.bool (nu q)))∧∀q,q<5→ly w (Y q) 4 (Bs q) (A q) (K q))∧aY w R 50 (c*1) F)∧bZ w w':=by
 refine en (H:=[]) 52 [vv (.pointer (some ⟨X,0,none⟩))] Tryz.func31 rfl rfl (oE hU hX) (r [1] rfl fun α=>l1 rfl (.slice fa fn fc) (fun w hS=>hS.now.1.1.at 13 (cK rfl)) (r [] rfl fun _=>lf rfl 8 (lF [iV (pn 0),iV (pe 0),iV (pn 1),iV (pe 1),iV (pn 2),iV (pe 2),iV (pn 3),iV (pe 3)]) (fun w hS j hj=>(hS.now.1.1.at (5+j) (by omega)).trans (Au some (MB hj))) (r [] rfl fun _=>l1 rfl (.slice sa sn sc) (fun w hS=>hS.now.1.1.at 17 (cK rfl)) (r [] rfl fun _=>l1 rfl (.slice ta tn tc) (fun w hS=>hS.now.1.1.at 18 (cK rfl)) (r [] rfl fun _=>l1 rfl (iV cs) (fun w hS=>hS.now.1.1.at 16 (cK rfl)) (r [] rfl fun β=>lf rfl 5 (ZY nd) (fun w hS j hj=>by rw[Ae];exact(hS.now.1.1.at j (by omega)).trans (Au some (Sw hj))) (r [] rfl fun _=>gn 1 (A_ (iV (fn:Int)) (wC nu 0) pn pe (.slice none 0 0) (.slice sa sn sc) (.slice ta tn tc) (iV cs)) (gn 0 (A_ (iV 0) (fun _=>false) (fun _=>0) (fun _=>0) (.slice none 0 0) (.slice none 0 0) (.slice none 0 0) (iV 0)) ?_))))))));refine jj (fun w2 hS=>hS.zT w.heap.size 50 1) ?_;refine iC (X:=Nat×Value×(Nat→Nat)×(Nat→Nat)×(Nat→Nat→Option Addr)×(Nat→Nat→Nat)) ⟨fun x=>[(2,vp 0 0 (α 0)),(3,vp 1 0 (β 0)),(31,vf 5 (ZY nd)),(32,vi (x.1:Int))],fun x=>[⟨α 0,34,[.f 18 (A_ (iV 0) (fun _=>false) (fun _=>0) (fun _=>0) (.slice none 0 0) (.slice none 0 0) (.slice none 0 0) (iV 0))]⟩,⟨β 0,34,[.f 18 (A_ (iV (fn:Int)) (wC nu x.1) pn pe x.2.1 (.slice sa sn sc) (.slice ta tn tc) (iV cs))]⟩],fun x b=>x.2.1.ownBlock=some b∨U b,fun x w=>(aY w X 114 19 (lx nd pn pe [.slice fa fn fc,tk,dd,iV cs,.slice sa sn sc,.slice ta tn tc])∧∀q,q<5→w.cell? ⟨nd q,2,none⟩=some (.bool (nu q)))∧∀q,q<x.1→ly w (x.2.2.1 q) 4 (Bs q) (x.2.2.2.2.1 q) (x.2.2.2.2.2 q),fun x w'=>bZ w w'∧w'.ownsRow w.heap.size 50 1 x.2.1 x.1 (Z3 x.2.2.1 x.2.2.2.1 x.1),fun x=>x.1≤5∧(∀q,q<x.1→4≤x.2.2.2.1 q)∧x.2.1.oneCell'=true,fun x=>5-x.1⟩ (0,.slice none 0 0,fun _=>0,fun _=>0,fun _ _=>none,fun _ _=>0) ⟨rfl,rfl,rfl,rfl,trivial⟩ (fun w hS=>hS.said fun _ h=>⟨h,fun q hq=>absurd hq (AH q)⟩) ⟨Ak _,fun q hq=>absurd hq (AH q),rfl⟩ ?_;rintro f ⟨k,v,Y,C,A,K⟩ ⟨hk,h4,hv⟩;have hk:k≤5:=hk;have h4:∀q,q<k→4≤C q:=h4;by_cases aM:k<5
 case neg=>
  obtain rfl:k=5:=by omega
  have o1:aS (A_ (iV (fn:Int)) (wC nu 5) pn pe v (.slice sa sn sc) (.slice ta tn tc) (iV cs)) 18:=KL rfl hv rfl rfl rfl;refine r [0] rfl fun _=>fin fun w1 hS=> ?_;have ho:w1.ownsRow w.heap.size 50 1 v 5 (Z3 Y C 5):=hS.now.2.2;rcases id ho.2 with⟨_,h⟩|⟨R,c,cur,rfl,hR,hb,h5,_,hs,ht⟩
  ·cases h
  refine⟨R,c,fun j=>cur.getD j undef,Y,C,A,K,rfl,h5,fun q hq=>⟨?_,h4 q hq⟩,fun w2 c2=> ?_,hS.now.2.1⟩
  ·have:(cur.toList.take (5*1))[q]? =some (.slice (some ⟨Y q,0,none⟩) 4 (C q)):=by
    rw[ht,Z3,Ar,List.getElem?_range hq];rfl
   rw[AP,if_pos (by omega),BP]at this;show cur.getD q undef=_;rw[BV,this];rfl
  ·have h2:=hS.g w2 (c2.mono fun b hb=> .inr (.inr hb));refine⟨h2,(EL hb hs).same (c2.block R (BJ.1 hb).1 fun hu=> ?_)⟩;exact absurd (hU _ hu) (AY.2 hR)
 refine r [1] rfl fun _=>ix (vv (.pointer (some ⟨nd k,0,none⟩))) rfl rfl (acA nd aM) (r [] rfl fun _=>l1 rfl (.bool (nu k)) (fun w hS=>hS.now.1.1.2 k aM) ?_);refine r [1] rfl fun _=>so1 rfl 1 rfl _ (show 0+1+k*1<18 by omega) (fun i=>acB aM i) ?_;refine r [2] rfl fun _=>cx rfl (fun y:Nat×Nat×(Nat→Option Addr)×(Nat→Nat)=>vv (.slice (some ⟨y.1,0,none⟩) 4 y.2.1)) (fun y=>4≤y.2.1) (fun y w=>ly w y.1 4 (Bs k) y.2.2.1 y.2.2.2) (fun w1 hS=>(afG k aM _ w1 hS.ult (fun b hb h=> ?_) hS.now.2.1).mono ?_) ?_
 ·rcases h with h|h|h
  ·have h:b∈[α 0,β 0]:=h;simp only[List.mem_cons,List.not_mem_nil,or_false]at h;rcases h with rfl|rfl
   ·exact absurd hb (AY.2 ((Mem.sr hS fun _ h=>h.1).jC 0 rfl))
   ·exact absurd hb (AY.2 ((Mem.sr hS fun _ h=>h.1).jC 1 rfl))
  ·rcases hS.now.2.2.2 with⟨e,_⟩|⟨g,c,cu,e,hg,_⟩
   ·rw[e]at h;cases h
   ·rw[e]at h;cases h;exact absurd hb (AY.2 hg)
  ·exact h
 ·rintro _ w7 ⟨Y8,c8,A8,K8,rfl,Gk,st,b⟩;exact⟨(Y8,c8,A8,K8),rfl,b,Gk,fun _=>st⟩
 rintro⟨Y8,c8,A8,K8⟩ Gk;have Gk:4≤c8:=Gk;refine r [] rfl fun _=>qT 2 rfl B_ (fun w hS=>hS.now.2.1.size) (fun _ _ h c=>cV h c (Aa _)) fun g c hc=>rz [1] [((k+1:Nat):Int)] rfl fun _=>gn 1 (A_ (iV (fn:Int)) (wC nu (k+1)) pn pe (.slice (some ⟨g,0,none⟩) (k+1) c) (.slice sa sn sc) (.slice ta tn tc) (iV cs)) ?_;refine b_ (k+1,_,au Y k Y8,au C k c8,au A k A8,au K k K8) ⟨rfl,rfl,rfl,rfl,trivial⟩ (fun w hS=>((hS.take 2).said fun _ h=>⟨h.1.1,Ww h.1.2 h.2⟩).sr fun w h=>⟨h.1,by show w.ownsRow _ _ _ _ (k+1) (Z3 (au Y k Y8) (au C k c8) (k+1));rw[SE];exact h.2⟩) ⟨(show k+1≤5 by omega),fun q hq=> ?_,rfl⟩ (show 5-(k+1)<5-k by omega);show 4≤au C k c8 q;unfold au;split
 ·exact Gk
 ·exact h4 q (by have hq:q<k+1:=hq;omega)
end
theorem rC:jv Tryz.prog 31 61 14 112=true:=by kernel_rfl
theorem Z4{w:tA}{R T c sz n:Nat}{F:tD}{L:tM}(fb:aY w R T (c*sz) F)(Z6:n≤c)(hc:c≤maxLen)(hL:L.length=n*sz)(hF:∀j,j<n*sz→L[j]? =some (F j)):w.ownsRow 0 T sz (.slice (some ⟨R,0,none⟩) n c) n L:=by
 refine⟨hL,.inr ⟨R,c,(cm F 0 (c*sz)).toArray,rfl,Ak _,fb,Z6,hc,by simp[bK], ?_⟩⟩;have hle:n*sz≤c*sz:=Nat.mul_le_mul_right _ Z6;apply BF;intro j;by_cases hj:j<n*sz
 ·rw[AP,if_pos hj,hF j hj];show(cm F 0 (c*sz))[j]? =_;rw[bX _ _ _ _ (by omega),Ae]
 ·rw[AP,if_neg hj,Bd (by omega)]
theorem SF{w:tA}{T sz n:Nat}{v:tK}{L:tM}(h:w.ownsRow 0 T sz v n L):(v= .slice none 0 0∧n=0∧L=[])∨∃R c F,v= .slice (some ⟨R,0,none⟩) n c∧aY w R T (c*sz) F∧n≤c∧c≤maxLen∧L.length=n*sz∧∀j,j<n*sz→L[j]? =some (F j):=by
 obtain⟨hl,⟨e1,e2⟩|⟨g,c,cur,e1,_,hb,Z6,hc,hs,ht⟩⟩:=h
 ·refine .inl ⟨e1,e2, ?_⟩;rw[e2,Nat.zero_mul]at hl;exact AU.1 hl
 ·refine .inr ⟨g,c,fun j=>cur.getD j undef,e1,EL hb hs,Z6,hc,hl,fun j hj=> ?_⟩;have hle:n*sz≤c*sz:=Nat.mul_le_mul_right _ Z6;rw[←ht,AP,if_pos hj,BP,Cg (by omega)];simp[show j<cur.size by omega]
theorem yK{w:tA}{T sz n:Nat}{v:tK}{L:tM}(h:w.ownsRow 0 T sz v n L):∀g,v.ownBlock=some g→g<w.heap.size:=fun g hg=>by
 rcases SF h with⟨rfl,_,_⟩|⟨R,c,F,rfl,fb,_⟩
 ·simp[Value.ownBlock]at hg
 ·simp only[Value.ownBlock,Option.some.injEq]at hg;exact hg▸fb.lt
theorem uX{a:tB}{l sz cap:Nat}(h:gM a l sz cap=none):a=none:=by
 unfold gM at h;split at h
 ·exact h
 ·simpa using h
theorem SG{k:IntKind}{w:tA}{a:tB}{len cap n:Nat}{l:tG}(h:RowK k w a len l)(hn:n≤len)(hc:len≤cap):RowK k w (gM a n 1 cap) (len-n) (l.drop n):=by
 refine⟨by rw[AM,h.cy],fun u hu=>h.wf u (Bj hu),fun i hi=> ?_⟩;obtain⟨b,off,e,hb,hc'⟩:=h.cell (n+i) (by omega);refine⟨b,off+n, ?_,hb, ?_⟩
 ·unfold gM;rw[if_neg (by omega),e];simp[Addr.add_mid]
 ·rw[BX,hc'];simp[List.getD_eq_getElem?_getD,List.getElem?_drop]
structure Lt where
 kd:Int
 fr:Int
 dst:Int
 q:Nat
 nu:Int
 op:Ev
 an:An
 pn:Int
 pe:Int
 ep:Int
 pl:Int
 es:List Ev
 la:Bool
abbrev lp(p:Nat):Value:= .pointer (some ⟨p,0,none⟩)
def ME(l:Lt)(a:tB)(c:Nat):List Value:=[iV l.kd,iV l.fr,iV l.dst,iV (l.q:Int),iV l.nu,iV l.op.k,iV l.op.p,iV l.op.i,iV l.op.b,iV l.op.he,iV l.op.hn,iV l.an.c,iV l.an.he,iV l.an.no,iV l.an.bd,iV l.pn,iV l.pe,iV l.ep,iV l.pl,.slice a l.es.length c,.bool l.la]
structure eH(w:tA)(P:Nat)(l:Lt)(a:tB)(c:Nat):Prop where
 b:aY w P 170 21 (lF (ME l a c))
 row:RowK .i64 w a (6*l.es.length) (ai l.es)
 cap:l.es.length≤c
 nil:a=none→c=0
structure Lr where
 p:Nat
 l:Lt
 a:Option Addr
 c:Nat
abbrev nI(w:tA)(r:Lr):Prop:=eH w r.p r.l r.a r.c
structure Jw where
 nd:Int
 q:Int
 ep:Int
 op:Ev
 an:An
 nu:Int
def DZ(x:Jw):List Value:=[iV x.nd,iV x.q,iV x.ep,iV x.op.k,iV x.op.p,iV x.op.i,iV x.op.b,iV x.op.he,iV x.op.hn,iV x.an.c,iV x.an.he,iV x.an.no,iV x.an.bd,iV x.nu]
structure Tl where
 nu:Int
 an:An
 pn:Int
 pe:Int
def O_(x:Tl):List Value:=[iV x.nu,iV x.an.c,iV x.an.he,iV x.an.no,iV x.an.bd,iV x.pn,iV x.pe]
structure Wv where
 nd:Nat→Nat
 tk:Value
 dd:Value
 pn:Nat→Int
 pe:Nat→Int
 fl:List Lr
 cs:Int
 sv:List Jw
 td:List Tl
structure WO(w:tA)(X:Nat)(v:Wv)(F:tF):Prop where
 ex:∃fl sv td,aY w X 114 19 (lx v.nd v.pn v.pe [fl,v.tk,v.dd,iV v.cs,sv,td])∧w.ownsRow 0 171 1 fl v.fl.length (v.fl.map fun r=>lp r.p)∧w.ownsRow 0 61 14 sv v.sv.length (v.sv.flatMap DZ)∧w.ownsRow 0 63 7 td v.td.length (v.td.flatMap O_)∧∀b,F b↔b=X∨fl.ownBlock=some b∨sv.ownBlock=some b∨td.ownBlock=some b
section
variable{w w':tA}{X:Nat}{v v':Wv}{F F' F0 T A:tF}
theorem WO.lt(h:WO w X v F):∀b,F b→b<w.heap.size:=fun b hb=>by
 obtain⟨fl,sv,td,fb,o1,o2,o3,hF⟩:=h.ex;rcases(hF b).1 hb with rfl|h|h|h
 ·exact fb.lt
 ·exact yK o1 b h
 ·exact yK o2 b h
 ·exact yK o3 b h
theorem WO.still(h:WO w X v F)(hb:∀b,F b→w'.heap[b]? =w.heap[b]?):WO w' X v F:=by
 obtain⟨fl,sv,td,fb,o1,o2,o3,hF⟩:=h.ex;refine⟨fl,sv,td, ?_,aI o1 (fun g hg _=>hb g ((hF g).2 (.inr (.inl hg)))),aI o2 (fun g hg _=>hb g ((hF g).2 (.inr (.inr (.inl hg))))),aI o3 (fun g hg _=>hb g ((hF g).2 (.inr (.inr (.inr hg))))),hF⟩;unfold aY at fb⊢;rw[←fb];exact hb X ((hF X).2 (.inl rfl))
theorem WO.EI{U:tF}(h:WO w X v F)(c:dm U w w')(hU:∀b,U b→¬F b):WO w' X v F:=h.still fun b hb=>c.block b (h.lt b hb) fun hu=>hU b hu hb
theorem WO.next(h:WO w X v F)(b:bZ w w'):WO w' X v F:=h.still fun x hx=>b.block x (h.lt x hx)
structure RW(X:Nat)(A F0:tF)(w0:tA)(v:Wv)(F:tF)(x:tA):Prop where
 wo:WO x X v F
 mv:Mv (fun b=>F0 b∨A b) w0 (fun b=>F b∨A b) x
theorem Mem.init{H:List bU}{G:tJ}(hW:WO w X v F)(ik:∀e∈H,aY w e.a e.t e.n e.f)(ov:(H.map bU.a).Nodup)(off:∀e∈H,¬(F e.a∨T e.a))(hT:∀b,T b→b<w.heap.size)(g:bV (fun b=>b∈H.map bU.a∨F b∨T b) w G):Mem w H (fun b=>F b∨T b) G (RW X (fun b=>b∈H.map bU.a) F w v F):=by
 have hm:=Mem.begin (M:=fun b=>F b∨T b) ik (QT ov) off (fun b hb=>hb.elim (hW.lt b) (hT b)) g;refine⟨hm.ik,hm.ov,hm.off,hm.mlt,hm.g,fun w2 c2=>⟨hW.EI c2 fun b hb hf=> ?_,c2.mono fun b hb=> .inr hb,fun b hb=> .inl hb,fun b hb=> ?_⟩⟩
 ·obtain⟨e,he,rfl⟩:=Ax.1 hb;exact off e he (.inl hf)
 ·rcases hb with hb|hb
  ·exact Aj (hW.lt b hb) c2.size
  ·exact Aj (hm.lt hb) c2.size
end
theorem RW.mv0{X:Nat}{F0 F:tF}{w0 x:tA}{v:Wv}(h:RW X (fun b=>b∈([]:List bU).map bU.a) F0 w0 v F x):Mv F0 w0 F x:=h.mv.less (fun b hb=>hb.elim id fun h=>by cases h) fun b hb=> .inl (.inl hb)
abbrev lT:Ev:=⟨0,0,0,0,0,0⟩
abbrev Iz:An:=⟨0,0,0,0⟩
section
variable{P:tY}{ops:tP}{Q:tI}{V:tW}{fx fl:tW}{n:Nat}{f:tD}{w:tA}{i:Nat}{t:Ord}{o:Oper}{d:Nat}
theorem afH{s e sz kj b l:Nat}{x y:tU}{g:tD}{v:tK}{L:tM}(ht:jv P s e sz kj=true)(own:w.ownsRow 0 e sz v l L)(hl:(l+1)*kj≤140737488355328)(vS:l+1≤maxLen)(fb:aY w b e sz g)(hg:aS g sz)(Pa:fx.contains i=true)(ho:ops[i]? =some o)(hd:o.dst=some d)(hw:Region.wanted o (yielded ops (kK n f))=true)(hK:jh n ops=true)(hp:o.op= .call ⟨.builtin .append,#[x,y],#[s,s]⟩)(hx:ev f x=v)(hy:ev f y= .slice (some ⟨b,0,none⟩) 1 1)
  (h:∀w' R' c',w'.ownsRow 0 e sz (.slice (some ⟨R',0,none⟩) (l+1) c') (l+1) (L++cm g 0 sz)→dm (fun b=>v.ownBlock=some b) w w'→(v.ownBlock=some R'∨w.heap.size≤R')→WF P ops Q V fx fl t n (up f d (.slice (some ⟨R',0,none⟩) (l+1) c')) w'):WF P ops Q V fx fl (.ef i t) n f w:=by
 obtain⟨hu,ti,z,hi,hz,hs,wI,LA,iE⟩:=Dh ht
 obtain⟨g1,cap,w1,hr,ho1,hgr,hat,aM⟩:=run_append_lies (P:=P) w s o.type 0 e ti z sz kj hu hi hz hs wI LA iE v l L own ⟨b,0,none⟩ 1 1 (cm g 0 sz) (by simp[bK]) (wJ fb) (fun u hu=>by
  simp only[cm,List.mem_map,List.mem_range,Nat.zero_add]at hu;obtain⟨j,hj,rfl⟩:=hu;exact hg j hj) (by omega) vS hl (Ak _) w.heap.size rfl
 refine oz ho hd hw hK (rN hp hx hy hr) (gk Pa) (h w1 g1 cap ho1 ⟨hgr.os,hgr.tape,hgr.output,hgr.size,fun x hx fM=>hgr.block x hx fun e=>fM e.symm⟩ (hat.imp id fun e=>BZ e.symm))
theorem afI{s e sz kj b l:Nat}{x y:tU}{g:tD}{v:tK}{L:tM}{H:List bU}{M:tF}{G R:tJ}(R2:tJ)(ht:jv P s e sz kj=true)(hS:Mem w H M G R)(own:w.ownsRow 0 e sz v l L)(hM:∀b,v.ownBlock=some b→M b)(h2:∀w' w2,dm (fun b=>v.ownBlock=some b) w w'→dm (fun b=>b∈H.map bU.a) w' w2→R2 w2)(hl:(l+1)*kj≤140737488355328)(vS:l+1≤maxLen)(fb:aY w b e sz g)(hg:aS g sz)(Pa:fx.contains i=true)(ho:ops[i]? =some o)(hd:o.dst=some d)(hw:Region.wanted o (yielded ops (kK n f))=true)(hK:jh n ops=true)(hp:o.op= .call ⟨.builtin .append,#[x,y],#[s,s]⟩)(hx:ev f x=v)(hy:ev f y= .slice (some ⟨b,0,none⟩) 1 1)
  (h:∀w' R' c',Mem w' H M G (fun x=>x.ownsRow 0 e sz (.slice (some ⟨R',0,none⟩) (l+1) c') (l+1) (L++cm g 0 sz)∧R2 x)→(v.ownBlock=some R'∨w.heap.size≤R')→WF P ops Q V fx fl t n (up f d (.slice (some ⟨R',0,none⟩) (l+1) c')) w'):WF P ops Q V fx fl (.ef i t) n f w:=by
 refine afH ht own hl vS fb hg Pa ho hd hw hK hp hx hy fun w' R' c' o1 c1 hR=>h w' R' c' ?_ hR;refine⟨fun e he=> ?_,hS.ov,hS.off,fun b hb=>Aj (hS.mlt b hb) c1.size,fun w2 c2=>hS.g w2 ((c1.mono (V:=fun b=>b∈H.map bU.a∨M b) fun b hb=> .inr (hM b hb)).trans c2 fun _ _ h=>h),fun w2 c2=>⟨aI o1 fun k hk aM=>c2.block k aM fun hm=> ?_,h2 w' w2 c1 c2⟩⟩
 ·have fb:=hS.ik e he;unfold aY at fb⊢;rw[←fb];exact c1.block e.a (hS.ik e he).lt fun hv=>hS.off e he (hM _ hv)
 ·simp only[Value.ownBlock,Option.some.injEq]at hk;subst hk;obtain⟨e,he,rfl⟩:=Ax.1 hm;rcases hR with hR|hR
  ·exact hS.off e he (hM _ hR)
  ·exact absurd (hS.ik e he).lt (AY.2 hR)
end
theorem WO.make{w w':tA}{X:Nat}{v v':Wv}{F:tF}{fl sv td UY sv' td':tK}(fb:aY w X 114 19 (lx v.nd v.pn v.pe [fl,v.tk,v.dd,iV v.cs,sv,td]))(hF:∀b,F b↔b=X∨fl.ownBlock=some b∨sv.ownBlock=some b∨td.ownBlock=some b)
  (c:dm F w w') (Y7:aY w' X 114 19 (lx v'.nd v'.pn v'.pe [UY,v'.tk,v'.dd,iV v'.cs,sv',td'])) (o1:w'.ownsRow 0 171 1 UY v'.fl.length (v'.fl.map fun r=>lp r.p)) (o2:w'.ownsRow 0 61 14 sv' v'.sv.length (v'.sv.flatMap DZ)) (o3:w'.ownsRow 0 63 7 td' v'.td.length (v'.td.flatMap O_))
  (h1:∀b,UY.ownBlock=some b→F b∨w.heap.size≤b) (h2:∀b,sv'.ownBlock=some b→F b∨w.heap.size≤b) (h3:∀b,td'.ownBlock=some b→F b∨w.heap.size≤b):∃F',WO w' X v' F'∧Mv F w F' w'∧∀b,F' b↔b=X∨UY.ownBlock=some b∨sv'.ownBlock=some b∨td'.ownBlock=some b:=by
 have hW:WO w' X v' (fun b=>b=X∨UY.ownBlock=some b∨sv'.ownBlock=some b∨td'.ownBlock=some b):=⟨UY,sv',td',Y7,o1,o2,o3,fun _=>Iff.rfl⟩;refine⟨_,hW,⟨c,fun b hb=> ?_,hW.lt⟩,fun _=>Iff.rfl⟩;rcases hb with rfl|hb|hb|hb
 ·exact .inl ((hF _).2 (.inl rfl))
 ·exact h1 b hb
 ·exact h2 b hb
 ·exact h3 b hb
theorem Z7{w w':tA}{X P:Nat}{v':Wv}{F F' U:tF}{l:Lt}{a:tB}{c:Nat}(hU:∀b,U b→b<w.heap.size)(qY:∀b,F b→U b)(hr:bV U w fun w=>RowK .i64 w a (6*l.es.length) (ai l.es))(hc:l.es.length≤c)(hn:a=none→c=0)(m:Mv F w F' w')(hP:w.heap.size≤P)(fb:aY w' P 170 21 (lF (ME l a c)))(hW:WO w' X v' F'):bV (fun b=>U b∨F' b) w' fun w=>eH w P l a c:=by
 have Z8:=hr.mv m qY;refine fun w2 c2=>⟨?_,Z8 w2 c2,hc,hn⟩;have e:=c2.block P fb.lt fun h=> ?_
 ·unfold aY at fb⊢;rw[e,fb]
 ·rcases h with h|h
  ·exact absurd (hU P h) (AY.2 hP)
  ·obtain⟨fl,sv,td,fx,o1,o2,o3,hF⟩:=hW.ex;rcases(hF P).1 h with rfl|h|h|h
   ·unfold aY at fb fx;rw[fb]at fx;cases fx
   ·exact aT o1 fb (by decide) P h rfl
   ·exact aT o2 fb (by decide) P h rfl
   ·exact aT o3 fb (by decide) P h rfl
theorem bV.hm{w:tA}{φ:tJ}{H:List bU}{F F' T:tF}(h:bV (fun b=>(b∈H.map bU.a∨F b∨T b)∨F' b) w φ):bV (fun b=>b∈H.map bU.a∨F' b∨T b) w φ:=h.mono fun b _ hb=>by
 rcases hb with hb|hb|hb
 ·exact .inl (.inl hb)
 ·exact .inr hb
 ·exact .inl (.inr (.inr hb))
structure Mg where
 B:Bt
 a:Option Addr
 c:Nat
 g:Nat→Value
abbrev je(m:Mg):Nat→Value:=mF m.B.r m.B.e m.B.f m.B.t m.B.o (.slice m.a m.B.es.length m.c) m.g
abbrev nJ(w:tA)(m:Mg):Prop:=jT w m.B m.a m.c m.g
theorem Z9(m:Nat→Mg)(q:Nat)(x:Mg):au (fun p=>je (m p)) q (je x)=fun p=>je (au m q x p):=by
 funext p;unfold au;split<;>rfl
inductive Af where
 |serve (l:Lt) (an:An)
 |begin (l:Lt) (B:Bt)
 |shut (l:Lt) (B:Bt)
 |take (l:Lt) (B:Bt)
 |kG (q:Nat) (B:Bt)
structure Ad where
 c0:Nat
 c1:Nat
 c2:Nat
 c3:Nat
 p:Nat
 a:Option Addr
 c:Nat
 m:Mg
structure Nv where
 i:Nat
 ub:Bool
 da:Option Addr
 dc:Nat
 dl:List Int
 sy:Int
 m:Nat→Mg
 hn:Nat→Int
 he:Nat→Int
 wt:Value
 wl:List Lr
 af:Value
 ax:Option Af
 ad:Ad
 tu:Nat
 ct:Nat
 sk:Bool
abbrev lU(X:Nat)(u:Nv):Nat→Value:=kF [.pointer (some ⟨X,0,none⟩),iV (u.i:Int),.bool u.ub,.slice u.da u.dl.length u.dc,iV u.sy] (gh (fun p=>je (u.m p)) u.hn u.he u.wt u.af (u.tu:Int)) [iV (u.ct:Int),.bool u.sk]
abbrev NB(w:tA)(X N:Nat)(u:Nv):Prop:=aY w N 126 206 (lU X u)
theorem YB{hd tl:tM}{mo:tT}{hn he:tH}{wt af:tK}{tu:Int}{q:Nat}(hq:q<4):kF hd (gh mo hn he wt af tu) tl (193+q*2)=iV (hn q):=by
 rw[show 193+q*2=5+(188+q*2) by omega,DX (by omega),acv hq]
theorem MF{hd tl:tM}{mo:tT}{hn he:tH}{wt af:tK}{tu:Int}{q:Nat}(hq:q<4):kF hd (gh mo hn he wt af tu) tl (193+q*2+1)=iV (he q):=by
 rw[show 193+q*2+1=5+(188+q*2+1) by omega,DX (by omega),acw hq]
theorem acC{hd tl:tM}{mo:tT}{hn he:tH}{wt af:tK}{tu:Int}{q j:Nat}(hq:q<4)(hj:j<2):kF hd (gh mo hn he wt af tu) tl (193+q*2+j)=lF [iV (hn q),iV (he q)] j:=by
 obtain rfl|rfl:j=0∨j=1:=by omega
 ·exact YB hq
 ·exact MF hq
section
variable{w:tA}{X:Nat}{v:Wv}{F:tF}
theorem WO.pl(h:WO w X v F){q j:Nat}(hq:q<4)(hj:j<2):w.cell? ⟨X,5+q*2+j,none⟩=some (lF [iV (v.pn q),iV (v.pe q)] j):=by
 obtain⟨fl,sv,td,fb,_⟩:=h.ex;rw[fb.at _ (by omega),BX,MB (by omega)];obtain rfl|rfl|rfl|rfl:q=0∨q=1∨q=2∨q=3:=by omega
 all_goals(obtain rfl|rfl:j=0∨j=1:=by omega)
 all_goals rfl
theorem WO.dir(h:WO w X v F){j:Nat}(hj:j<8):w.cell? ⟨X,5+j,none⟩=some (lF [iV (v.pn 0),iV (v.pe 0),iV (v.pn 1),iV (v.pe 1),iV (v.pn 2),iV (v.pe 2),iV (v.pn 3),iV (v.pe 3)] j):=by
 obtain⟨fl,sv,td,fb,_⟩:=h.ex;rw[fb.at _ (by omega),MB hj]
theorem WO.cs_(h:WO w X v F):w.cell? ⟨X,16,none⟩=some (iV v.cs):=by
 obtain⟨fl,sv,td,fb,_⟩:=h.ex;exact fb.at 16 (by decide)
theorem WO.nd_(h:WO w X v F){k:Nat}(hk:k<5):w.cell? ⟨X,k,none⟩=some (lp (v.nd k)):=by
 obtain⟨fl,sv,td,fb,_⟩:=h.ex;rw[fb.at _ (by omega),Sw hk]
theorem WO.tk_(h:WO w X v F):w.cell? ⟨X,14,none⟩=some v.tk:=by
 obtain⟨fl,sv,td,fb,_⟩:=h.ex;exact fb.at 14 (by decide)
theorem WO.dd_(h:WO w X v F):w.cell? ⟨X,15,none⟩=some v.dd:=by
 obtain⟨fl,sv,td,fb,_⟩:=h.ex;exact fb.at 15 (by decide)
end
theorem Mem.SH{w w0:tA}{H:List bU}{M A F0 F:tF}{Γ:tJ}{X:Nat}{v:Wv}(h:Mem w H M Γ (RW X A F0 w0 v F)):∀b∈H.map bU.a,(F0 b∨A b)∨w0.heap.size≤b:=by
 intro b hb;refine Classical.byContradiction fun hn=> ?_;have aM:=h.lt hb;have uw:b<w0.heap.size:=Nat.lt_of_not_le fun k=>hn (.inr k);have key:∀B,w0.heap[b]? =some B:=fun B=>by
  have c:dm (fun b=>b∈H.map bU.a) w {w with heap:=w.heap.set b B aM}:=⟨rfl,rfl,rfl,by simp,fun z hz uC=>by
   have fM:b≠z:=fun e=>uC (e▸hb)
   simp[fM]⟩
  rw[←(h.r _ c).mv.c.block b uw (fun k=>hn (.inl k))];simp
 have:=(key (.cells #[] 0 (0,0))).symm.trans (key (.cells #[] 1 (0,0)));simp at this
namespace Rv
section
variable{n:Nat}{ops:tP}{f:Nat→AV}{fn:Func}{Rr:Ending→World→Prop}{Φ:tJ}{H:List En}{ks:List Fr}{t:Ord}{i d:Nat}{md:Md}
theorem cw{Y:Type}{X:Nat}{A F0 F T:tF}{w0:tA}{v:Wv}{g:Nat}{al:List AV}(e:QS n ops f i=some (d,g,al))(a:AV)(v':Y→Wv)(φ:Y→World→Prop)(hc:∀w,Mem w (hs H) (fun b=>F b∨T b) Φ (RW X A F0 w0 v F)→cA g (al.map AV.val).toArray w fun x w'=>x= .returned a.val∧∃y F',WO w' X (v' y) F'∧Mv F w F' w'∧bV (fun b=>(b∈(hs H).map bU.a∨F b∨T b)∨F' b) w' (φ y))(hn:∀y F',G Tryz.prog fn Rr n (fun b=>F' b∨T b) (fun w=>Φ w∧φ y w) (RW X A F0 w0 (v' y) F') (.g md ops t::ks) (ua f d a) H)(hA:∀b,A b→b∈(hs H).map bU.a:=by(intro b h;exact BQ.2 ((BQ.1 h).imp id fun h=>by cases h)))(hm:(md.cb||md.vs.contains i)=false:=by rfl)(he:iO Tryz.prog g=true:=by kernel_rfl):G Tryz.prog fn Rr n (fun b=>F b∨T b) Φ (RW X A F0 w0 v F) (.g md ops (.ef i t)::ks) f H:=
 ky e he fun w hS=>(hc w hS).mono fun _ w' ⟨h1,y,F',hW,m,s⟩=>by
  refine⟨a,H,_,_,_,h1,.inl hm,Mem.add ?_ s.hm,hn y F'⟩;have m1:=hS.now.2.mv.trans (m.with fun b hb=>hS.lt (hA b hb));refine hS.mv m fun w2 c2=>⟨hW.EI c2 fun b hb hf=> ?_,m1.c.trans c2 fun b hb hv=>(hS.SH b hv).elim id fun x=>absurd hb (AY.2 x),m1.f,fun b hb=>Aj (m1.l b hb) c2.size⟩;obtain⟨e,he,rfl⟩:=Ax.1 hb;rcases m.f _ hf with hf|hf
  ·exact hS.off e he (.inl hf)
  ·exact absurd (hS.ik e he).lt (AY.2 hf)
end
end Rv
structure Nd where
 i:Nat
 up:Bool
 dl:List Int
 sy:Int
 mo:Nat→Bt
 hn:Nat→Int
 he:Nat→Int
 wt:List Lt
 af:Option Af
 tu:Nat
 ct:Nat
 sk:Bool
structure Ws where
 pn:Nat→Int
 pe:Nat→Int
 fl:List Lt
 cs:Int
 sv:List Jw
 td:List Tl
abbrev Nv.pure(u:Nv):Nd:=⟨u.i,u.ub,u.dl,u.sy,fun q=>(u.m q).B,u.hn,u.he,u.wl.map Lr.l,u.ax,u.tu,u.ct,u.sk⟩
abbrev Wv.pure(v:Wv):Ws:=⟨v.pn,v.pe,v.fl.map Lr.l,v.cs,v.sv,v.td⟩
abbrev mq(nu:Int)(an:An)(pn pe:Int):Lt:=⟨1,0,0,0,nu,lT,an,pn,pe,0,0,[],false⟩
abbrev D0(i:Nat)(B:Bt)(q:Nat):Lt:=⟨3,i,B.f,q,0,lT,Iz,0,0,B.e,B.es.length,[],false⟩
abbrev qa(fr:Int)(q:Nat)(pn pe:Int):Lt:=⟨7,0,fr,q,0,lT,Iz,pn,pe,0,0,[],false⟩
abbrev rD(nd:Int)(q:Nat)(nu:Int)(op:Ev):Lt:=⟨0,0,nd,q,nu,op,Iz,0,0,0,0,[],false⟩
abbrev MG(i:Nat)(B:Bt)(q:Nat)(hv:Int)(es:List Ev)(la:Bool):Lt:=⟨4,i,B.t,q,0,lT,Iz,0,0,B.e+1,hv,es,la⟩
abbrev IA(i:Nat)(B:Bt)(q:Nat):Lt:=⟨2,i,B.t,q,0,lT,Iz,0,0,B.e+1,0,[],false⟩
abbrev SI(i q:Nat):Lt:=⟨6,i,0,q,0,lT,Iz,0,0,0,0,[],false⟩
abbrev KM(i:Nat)(B:Bt)(q:Nat):Lt:=⟨5,i,0,q,0,lT,Iz,0,0,B.e,0,[],false⟩
theorem Pb{B B1 B2:Bt}{v:Ev}{a1 a2:An}{c1 c2:Bool}{e1 e2:Int}(x:cR B v B1 a1 c1 e1)(y:cR B v B2 a2 c2 e2):B1=B2∧a1=a2∧c1=c2∧e1=e2:=by
 have one:∀{s1 s2 t1 t2:St} {n1 n2:List An} {b1 b2:An} {d1 d2:Bool},bk B.es s1 n1→bk B.es s2 n2→Step s1 v t1 b1 d1→Step s2 v t2 b2 d2→b1=b2∧d1=d2:=by
  intro s1 s2 t1 t2 n1 n2 b1 b2 d1 d2 h1 h2 k1 k2;obtain⟨rfl,_⟩:=h1.one h2;obtain⟨_,e1,e2⟩:=Step.Yi h1.wf k1 k2;exact⟨e1,e2⟩
 cases x<;>cases y
 all_goals try unfold Ev.Ok at*
 all_goals first
  |exact⟨rfl,rfl,rfl,rfl⟩
  |(refine⟨rfl,rfl,rfl, ?_⟩;omega)
  |contradiction
  |(exfalso;omega)
  |(rename_i h1 ND Wx s7 s1 n1 ht1 t1 st1 h2 hv2 MH hr2 s2 n2 zw t2 st2;obtain⟨rfl,_⟩:=one ht1 zw st1 st2;exact⟨rfl,rfl,rfl,rfl⟩)
  |(rename_i h1 ND Wx s7 s1 n1 ht1 t1 hl1 st1 h2 hv2 MH hr2 s2 n2 zw t2 vS st2;obtain⟨rfl,_⟩:=one ht1 zw st1 st2;exact⟨rfl,rfl,rfl,rfl⟩)
  |(rename_i h1 ND Wx s7 s1 n1 ht1 t1 st1 h2 hv2 MH hr2 s2 n2 zw t2 a2 st2 vS;cases(one ht1 zw st1 st2).2)
  |(rename_i h1 ND Wx s7 s1 n1 ht1 t1 st1 h2 hv2 MH hr2 s2 n2 zw t2 vS st2;cases(one ht1 zw st1 st2).2)
  |(rename_i h1 ND Wx s7 s1 n1 ht1 t1 a1 st1 hl1 h2 hv2 MH hr2 s2 n2 zw t2 st2;cases(one ht1 zw st1 st2).2)
  |(rename_i h1 ND Wx s7 s1 n1 ht1 t1 hl1 st1 h2 hv2 MH hr2 s2 n2 zw t2 st2;cases(one ht1 zw st1 st2).2)
open Classical in
noncomputable def dt(B:Bt)(v:Ev):Bt×An×Bool×Int:=if h:∃x:Bt×An×Bool×Int,cR B v x.1 x.2.1 x.2.2.1 x.2.2.2 then h.choose else(B,Iz,false,0)
theorem o_{B B':Bt}{v:Ev}{an:An}{k:Bool}{er:Int}(h:cR B v B' an k er):dt B v=(B',an,k,er):=by
 have hx:∃x:Bt×An×Bool×Int,cR B v x.1 x.2.1 x.2.2.1 x.2.2.2:=⟨(B',an,k,er),h⟩;unfold dt;rw[dif_pos hx];obtain⟨e1,e2,e3,e4⟩:=Pb hx.choose_spec h;exact Prod.ext e1 (Prod.ext e2 (Prod.ext e3 e4))
def fZ(s:Ws)(l:Lt):Ws:={s with fl:=s.fl++[l]}
def aaB(s:Ws)(n:Nd)(q:Nat)(e:Ev)(an:An)(nu:Int):Ws:={s with sv:=s.sv++[⟨n.i,q,(n.mo q).e,e,an,nu⟩]}
def iy(n:Nd)(s:Ws)(l:Lt)(an:An):Ws:=fZ (aaB s n l.q l.op an l.nu) (mq l.nu an (-1) 0)
def yL(n:Nd)(s:Ws)(q:Nat):Ws:=fZ s (D0 n.i (n.mo q) q)
noncomputable def aaA(n:Nd)(s:Ws)(q:Nat)(hv:Int):Ws:=if(partOf (n.mo q) hv).2.2=0 then fZ s (MG n.i (n.mo q) q hv (partOf (n.mo q) hv).1 (partOf (n.mo q) hv).2.1)else s
open Classical in
noncomputable def g_(s:Ws)(l:Lt):Ws:=if de s.pn s.pe∧¬s.pn l.q= -1∧yo (s.pn l.q) (s.pe l.q) (l.ep-1) l.fr=0 then {s with pn:=cB s.pn l.q l.fr,pe:=cB s.pe l.q (s.pe l.q+1)}else s
def mr(s:Ws)(l:Lt):Ws:=fZ s (qa l.fr l.q (s.pn l.q) (s.pe l.q))
def pA(n:Nd)(a:Af)(rs:List Rec):Option Nd:=if n.dl.length+(bI rs).length≤100000 then some {n with dl:=n.dl++bI rs,af:=some a}else none
noncomputable def gy(n:Nd)(s:Ws)(l:Lt):Nd×Ws:=
 if ¬((n.mo l.q).r=1∨(n.mo l.q).r=2)then(n,fZ s (mq l.nu (dt (n.mo l.q) l.op).2.1 (n.hn l.q) (n.he l.q)))
 else if(dt (n.mo l.q) l.op).2.2.1=false then(n,iy n s l (dt (n.mo l.q) l.op).2.1)
 else match pA n (.serve l (dt (n.mo l.q) l.op).2.1) [⟨2,l.q,(n.mo l.q).e,0,l.op⟩]with
  |some n'=>(n',s)
  |none=>(n,iy n s l ⟨14,0,0,0⟩)
noncomputable def jL(n:Nd)(s:Ws)(l:Lt):Nd×Ws:=
 if ¬(aU (n.mo l.q) l.ep l.fr).2=0 then(n,s)
 else if(aU (n.mo l.q) l.ep l.fr).1.e=(n.mo l.q).e then(n,yL n s l.q)
 else((pA n (.begin l (aU (n.mo l.q) l.ep l.fr).1) [⟨4,l.q,l.ep,l.fr,lT⟩]).getD n,s)
noncomputable def h_(n:Nd)(s:Ws)(l:Lt):Nd×Ws:=
 if ¬(n.mo l.q).t=l.fr∨¬(n.mo l.q).e+1=l.ep then(n,s)
 else if ¬(bf (n.mo l.q) l.pl).2=0 then(n,s)
 else if(bf (n.mo l.q) l.pl).1.r=(n.mo l.q).r then({n with mo:=au n.mo l.q (bf (n.mo l.q) l.pl).1},aaA {n with mo:=au n.mo l.q (bf (n.mo l.q) l.pl).1} s l.q l.pl)
 else((pA n (.shut l (bf (n.mo l.q) l.pl).1) [⟨3,l.q,(n.mo l.q).e,(n.mo l.q).t,lT⟩]).getD n,s)
def dj(q:Nat)(B:Bt)(k:Nat):List Rec:=
 if B.r=1 then((B.es.drop k).dropLast.map fun e=>(⟨5,q,B.e,0,e⟩:Rec))++[⟨6,q,B.e,0,lT⟩]else(B.es.drop k).map fun e=>(⟨5,q,B.e,0,e⟩:Rec)
noncomputable def takeN(n:Nd)(s:Ws)(l:Lt):Nd×Ws:=
 if ¬(bj (n.mo l.q) l.ep l.pl l.es l.la).2=0 then(n,s)
 else if(bj (n.mo l.q) l.ep l.pl l.es l.la).1.es.length=(n.mo l.q).es.length then(n,s)
 else((pA n (.take l (bj (n.mo l.q) l.ep l.pl l.es l.la).1) (dj l.q (bj (n.mo l.q) l.ep l.pl l.es l.la).1 (n.mo l.q).es.length)).getD n,s)
def eJ(n:Nd)(l:Lt):Nd:=if n.he l.q<l.pe then {n with hn:=au n.hn l.q l.pn,he:=au n.he l.q l.pe}else n
noncomputable def jM(n:Nd)(s:Ws)(l:Lt):Nd×Ws:=
 if(bG (n.mo l.q) l.pe).2=0 then((pA (eJ n l) (.kG l.q (bG (n.mo l.q) l.pe).1) [⟨7,l.q,(bG (n.mo l.q) l.pe).1.e,0,lT⟩]).getD (eJ n l),s)else(eJ n l,s)
noncomputable def eZ(n:Nd)(s:Ws):Af→Nd×Ws
 | .serve l an=>({n with mo:=au n.mo l.q (dt (n.mo l.q) l.op).1},iy {n with mo:=au n.mo l.q (dt (n.mo l.q) l.op).1} s l an)
 | .begin l B=>({n with mo:=au n.mo l.q B},yL {n with mo:=au n.mo l.q B} s l.q)
 | .shut l B=>({n with mo:=au n.mo l.q B},aaA {n with mo:=au n.mo l.q B} s l.q l.pl)
 | .take l B=>({n with mo:=au n.mo l.q B},if B.r=1 then aaB s {n with mo:=au n.mo l.q B} l.q Ev.brk Iz (-1)else yL {n with mo:=au n.mo l.q B} s l.q)
 | .kG q B=>({n with mo:=au n.mo q B},s)
abbrev anL(an:An):List Value:=[iV an.c,iV an.he,iV an.no,iV an.bd]
def Z_(w:tA)(N:Nat)(af:tK)(d:Ad):Option Af→Prop
 |none=>af= .nilFunc
 |some (.serve l an)=>af= .func (.func 112) #[] #[lp d.c0,lp d.c1,lp d.c2,lp d.c3]∧aY w d.c0 109 1 (fun _=>lp N)∧aY w d.c1 3 1 (fun _=>iV (l.q:Int))∧aY w d.c2 171 1 (fun _=>lp d.p)∧aY w d.c3 59 4 (lF (anL an))∧eH w d.p l d.a d.c
 |some (.begin l B)=>af= .func (.func 116) #[] #[lp d.c0,lp d.c1,lp d.c2]∧aY w d.c0 117 47 (je d.m)∧aY w d.c1 109 1 (fun _=>lp N)∧aY w d.c2 171 1 (fun _=>lp d.p)∧eH w d.p l d.a d.c∧nJ w d.m∧d.m.B=B
 |some (.shut l B)=>af= .func (.func 118) #[] #[lp d.c0,lp d.c1,lp d.c2]∧aY w d.c0 117 47 (je d.m)∧aY w d.c1 109 1 (fun _=>lp N)∧aY w d.c2 171 1 (fun _=>lp d.p)∧eH w d.p l d.a d.c∧nJ w d.m∧d.m.B=B
 |some (.take l B)=>af= .func (.func 122) #[] #[lp d.c0,lp d.c1,lp d.c2]∧aY w d.c2 117 47 (je d.m)∧aY w d.c0 109 1 (fun _=>lp N)∧aY w d.c1 171 1 (fun _=>lp d.p)∧eH w d.p l d.a d.c∧nJ w d.m∧d.m.B=B
 |some (.kG q B)=>af= .func (.func 125) #[] #[lp d.c0,lp d.c1,lp d.c2]∧aY w d.c0 117 47 (je d.m)∧aY w d.c1 109 1 (fun _=>lp N)∧aY w d.c2 3 1 (fun _=>iV (q:Int))∧nJ w d.m∧d.m.B=B
structure Nv.In(w:tA)(N:Nat)(u:Nv):Prop where
 row:RowK .u8 w u.da u.dl.length u.dl
 mo:∀q,q<4→nJ w (u.m q)
 af:Z_ w N u.af u.ad u.ax
 wl:∀r∈u.wl,nI w r
def acD:Option Af→Prop
 |none=>True
 |some (.serve l _)=>l.q<4∧∀x∈aX l.op,(Lit.int .i64 x).wf=true
 |some (.begin l B)=>l.q<4∧B.Ok
 |some (.shut l B)=>l.q<4∧B.Ok
 |some (.take l B)=>l.q<4∧B.Ok
 |some (.kG q B)=>q<4∧B.Ok
structure Nv.Ok(u:Nv):Prop where
 ok:∀q,q<4→(u.m q).B.Ok
 nil:u.da=none→u.dc=0
 cap:u.dl.length≤u.dc
 max:u.dc≤9223372036854775807
 len:u.dl.length≤100000
 s0:0≤u.sy
 s1:u.sy≤u.dl.length
 i5:u.i<5
 SJ:acD u.ax
structure NW(w:tA)(X N:Nat)(u:Nv)(v:Wv)(F U:tF):Prop where
 nb:NB w X N u
 wo:WO w X v F
 nf:¬F N
 ub:∀b,U b→b<w.heap.size
 fu:∀b,F b→U b
 nu:U N
 ok:u.Ok
 st:bV U w fun w=>u.In w N∧∀r∈v.fl,nI w r
structure Dn(w:tA)(X N:Nat)(u:Nv)(v:Wv)(F U:tF)(r:Nd×Ws)(u':Nv)(v':Wv)(F':tF)(w':tA):Prop where
 nw:NW w' X N u' v' F' (fun b=>U b∨F' b)
 mv:Mv (fun b=>F b∨b=N) w (fun b=>F' b∨b=N) w'
 wt:u'.wt=u.wt
 wl:u'.wl=u.wl
 nd:v'.nd=v.nd
 tk:v'.tk=v.tk
 dd:v'.dd=v.dd
 n:u'.pure=r.1
 s:v'.pure=r.2
namespace Rv
abbrev nE(X N:Nat)(u:Nv):En:=⟨N,126,[.f 206 (lU X u)]⟩
abbrev npE(a j N:Nat):En:=⟨a,109,[.p j 0 N]⟩
abbrev lpE(a P:Nat):En:=⟨a,171,[.o (lp P)]⟩
abbrev mgE(a:Nat)(m:Mg):En:=⟨a,117,[.f 47 (je m)]⟩
abbrev moE(a:Nat)(B:Bt)(b:tB)(c:Nat)(g:tD):En:=⟨a,117,pD B b c g⟩
end Rv
theorem WO.i0{w:tA}{X:Nat}{v:Wv}{F:tF}{G:tJ}(hW:WO w X v F)(g:bV F w G):Mem w [] (fun b=>F b∨False) G (RW X (fun b=>b∈([]:List bU).map bU.a) F w v F):=
 Mem.init hW (fun e he=>by cases he) List.nodup_nil (fun e he=>by cases he) (fun b h=>h.elim) fun w2 c=>g w2 (c.mono fun b h=>h.elim (fun h=>by cases h) (fun h=>h.elim id False.elim))
theorem Mem.aaa{w w0:tA}{H:List bU}{M P:tF}{Γ R:tJ}(h:Mem w H M Γ R)(hR:∀w,R w→dm P w0 w):∀b∈H.map bU.a,P b∨w0.heap.size≤b:=by
 intro b hb;refine Classical.byContradiction fun hn=> ?_;have aM:=h.lt hb;have uw:b<w0.heap.size:=Nat.lt_of_not_le fun k=>hn (.inr k);have key:∀B,w0.heap[b]? =some B:=fun B=>by
  have c:dm (fun b=>b∈H.map bU.a) w {w with heap:=w.heap.set b B aM}:=⟨rfl,rfl,rfl,by simp,fun z hz uC=>by
   have fM:b≠z:=fun e=>uC (e▸hb)
   simp[fM]⟩
  rw[←(hR _ (h.r _ c)).block b uw (fun k=>hn (.inl k))];simp
 have:=(key (.cells #[] 0 (0,0))).symm.trans (key (.cells #[] 1 (0,0)));simp at this
theorem Mem.call2{w w0 w':tA}{H:List bU}{A F0 F T F':tF}{G:tJ}{X:Nat}{v v':Wv}(h:Mem w H (fun b=>F b∨T b) G (RW X A F0 w0 v F))(hW:WO w' X v' F')(m:Mv F w F' w')(hA:∀b,A b→b∈H.map bU.a):Mem w' H (fun b=>F' b∨T b) G (RW X A F0 w0 v' F'):=by
 have m1:=h.now.2.mv.trans (m.with fun b hb=>h.lt (hA b hb));refine h.mv m fun w2 c2=>⟨hW.EI c2 fun b hb hf=> ?_,m1.c.trans c2 fun b hb hv=>(h.SH b hv).elim id fun x=>absurd hb (AY.2 x),m1.f,fun b hb=>Aj (m1.l b hb) c2.size⟩;obtain⟨e,he,rfl⟩:=Ax.1 hb;rcases m.f _ hf with hf|hf
 ·exact h.off e he (.inl hf)
 ·exact absurd (h.ik e he).lt (AY.2 hf)
theorem aY.open{w:tA}{X t c:Nat}{g:tD}{U:tF}{G:tJ}(fb:aY w X t c g)(hU:∀b,U b→b<w.heap.size)(hX:U X)(hG:bV U w G):Mem w [⟨X,t,c,g⟩] (fun b=>U b∧b≠X) G (fun w'=>dm (fun b=>b∈[X]) w w'):=
 Mem.begin (fun e he=>by cases Ab.1 he;exact fb) (BH _ _) (fun e he=>by cases Ab.1 he;exact fun h=>h.2 rfl) (fun b hb=>hU b hb.1) fun w2 c=>hG w2 (c.mono fun b h=>h.elim (fun h=>by cases Ab.1 h;exact hX) fun h=>h.1)
theorem nK{w w':tA}{X e e' t sz sz' n n' m:Nat}{v v':tK}{xs xs':tM}{g:tD}(o:w.ownsRow 0 e sz v n xs)(o':w.ownsRow 0 e' sz' v' n' xs')(fb:aY w X t m g)(c:dm (fun b=>b=X∨v'.ownBlock=some b) w w')(h1:e≠t:=by decide)(h2:e'≠e:=by decide):w'.ownsRow 0 e sz v n xs:=
 aI o fun g hg hl=>c.block g hl fun h=>h.elim (fun k=>aT o fb h1 g hg k) fun h=>jk o' o h2 g h hg
namespace Rv
section
variable{n:Nat}{ops:tP}{f:Nat→AV}{fn:Func}{Rr:Ending→World→Prop}{Φ:tJ}{H:List En}{ks:List Fr}{t:Ord}{i d:Nat}{md:Md}
theorem am{X s e sz kj b l tX nX:Nat}{gX:tD}{x y:AV}{v:tK}{L:tM}{w0:tA}{en:En}{U:tF}(j:Nat)(he:nth H j=some en)(own:w0.ownsRow 0 e sz v l L)(fb:aY w0 X tX nX gX)(hv:∀b,v.ownBlock=some b→U b)(h1:Qk n ops f i=some (d,s,x,y))(ht:jv Tryz.prog s e sz kj=true)(hl:(l+1)*kj≤140737488355328)(vS:l+1≤maxLen)(JJ:aS (cD en.l) sz)(hn:∀g c,(v.ownBlock=some g∨w0.heap.size≤g)→(∀b∈(hs H).map bU.a,b∈[X]∨w0.heap.size≤b)→G Tryz.prog fn Rr n (fun b=>U b∧b≠X) Φ (fun x=>x.ownsRow 0 e sz (.slice (some ⟨g,0,none⟩) (l+1) c) (l+1) (L++cm (cD en.l) 0 sz)∧dm (fun b=>b=X∨v.ownBlock=some b) w0 x) (.g md ops t::ks) (ua f d (vv (.slice (some ⟨g,0,none⟩) (l+1) c))) H)(fM:e≠tX:=by decide)(hx:x.val=v:=by rfl)(hy:y.val= .slice (some ⟨b,0,none⟩) 1 1:=by rfl)(het:en.t=e:=by rfl)(iE:fj en.l=sz:=by rfl)(ha:en.a=b:=by rfl)(QQ:md.vs.contains i=false:=by rfl):G Tryz.prog fn Rr n (fun b=>U b∧b≠X) Φ (fun w'=>dm (fun b=>b∈[X]) w0 w') (.g md ops (.ef i t)::ks) f H:=by
 intro w hS hK;obtain⟨hK1,il⟩:=bn.1 hK;show WF Tryz.prog ops (kq Tryz.prog fn Rr ks) md.va (oD md ops) (uv md ops) (.ef i t) n (cn f) w;obtain⟨o,p,r,ho,hd,hw,hp,rfl,rfl⟩:=xw h1
 have GC:(oD md ops).contains i=true:=kM ho (by
  unfold nc;rw[QQ,hp]
  cases md.cb<;>rfl)
 have Vf:=rQ hS j he;rw[ha,het,iE]at Vf;have kN:=aT own fb fM;have z:=hS.now.2.size;refine afI (fun x=>dm (fun b=>b=X∨v.ownBlock=some b) w0 x) ht hS (aI own fun g hg hl=>hS.now.2.block g hl fun hm=>kN g hg (Ab.1 hm)) (fun b hb=>⟨hv b hb,kN b hb⟩) (fun w1 w2 c1 c2=> ?_) hl vS Vf JJ GC ho hd (fC hw) (dI hK1).1 hp ((bz f p).symm.trans hx) ((bz f r).symm.trans hy) fun w' R' c' zR hR=> ?_
 ·refine((hS.now.2.mono (V:=fun b=>b=X∨v.ownBlock=some b) fun b hb=> .inl (Ab.1 hb)).trans c1 fun b _ hb=> .inr hb).trans c2 fun b hb hm=> ?_;exact(hS.aaa (fun _ h=>h) b hm).elim (fun h=> .inl (Ab.1 h)) fun h=>absurd hb (AY.2 h)
 ·have:=hn R' c' (hR.imp id fun h=>AN z h) (hS.aaa fun _ h=>h) w' zR (bn.2 ⟨hK1,il⟩);rw[jz]at this;exact this
theorem SK{s:Nat}{x y:AV}(h:UM n ops f i=some (s,x,y)):∃o p r,ops[i]? =some o∧o.dst=none∧rP n ops f o=some true∧o.op= .store s p r∧x=ea f p∧y=ea f r:=by
 unfold UM at h;split at h
 ·rename_i o ho;split at h
  ·rename_i s' p r hd hw hp;simp only[Option.some.injEq,Prod.mk.injEq]at h;obtain⟨rfl,rfl,rfl⟩:=h;exact⟨o,p,r,ho,hd,hw,hp,rfl,rfl⟩
  ·cases h
 ·cases h
theorem wc{X s:Nat}{A F0 F T:tF}{w0:tA}{v:Wv}{x y:AV}(c:Int)(h1:UM n ops f i=some (s,x,y))(hn:G Tryz.prog fn Rr n (fun b=>F b∨T b) Φ (RW X A F0 w0 {v with cs:=c} F) (.g md ops t::ks) f H)(hA:∀b,A b→b∈(hs H).map bU.a)(hx:x.val= .pointer (some ⟨X,16,none⟩):=by rfl)(hy:y.val=iV c:=by rfl)(Jq:pq Tryz.prog s=true:=by kernel_rfl)(QQ:md.vs.contains i=false:=by rfl):G Tryz.prog fn Rr n (fun b=>F b∨T b) Φ (RW X A F0 w0 v F) (.g md ops (.ef i t)::ks) f H:=by
 intro w hS hK;obtain⟨hK1,il⟩:=bn.1 hK;show WF Tryz.prog ops (kq Tryz.prog fn Rr ks) md.va (oD md ops) (uv md ops) (.ef i t) n (cn f) w;obtain⟨o,p,r,ho,hd,hw,hp,rfl,rfl⟩:=SK h1
 have GC:(oD md ops).contains i=true:=kM ho (by
  unfold nc;rw[QQ,hp]
  cases md.cb<;>rfl)
 obtain⟨UY,sv,td,fb,o1,o2,o3,hF⟩:=hS.now.2.wo.ex;have tn:av X w (w.setCell ⟨X,16,none⟩ (iV c)):=av.set X 16 w _;have hb:∀g,g≠X→(w.setCell ⟨X,16,none⟩ (iV c)).heap[g]? =w.heap[g]? :=fun g hg=>tn.block g hg;refine qs (w1:=w.setCell ⟨X,16,none⟩ (iV c)) ho hd (fC hw) (dI hK1).1 ?_ (gk GC) (hn _ (hS.call2 (F':=F) ⟨UY,sv,td,(fb.set 16 _ (by decide)).congr fun i _=>ZW (k:=3) (cK rfl) i,aI o1 fun g hg _=>hb g (aT o1 fb (by decide) g hg),aI o2 fun g hg _=>hb g (aT o2 fb (by decide) g hg),aI o3 fun g hg _=>hb g (aT o3 fb (by decide) g hg),hF⟩ ⟨⟨tn.os,tn.tape,tn.output,BZ tn.size.symm,fun b _ hn=>hb b fun e=>hn ((hF b).2 (.inl e))⟩,fun _ h=> .inl h,fun b hb=>by rw[tn.size];exact hS.now.2.wo.lt b hb⟩ hA) (bn.2 ⟨hK1,il⟩));simp only[execOp,hp,(bz f p).symm.trans hx,(bz f r).symm.trans hy,Sem.run_bind,rM (v:=iV c) Jq rfl rfl (fb.there 16 1 (by decide)),Result.andThen_ok,Sem.run_pure]
theorem wp{X s:Nat}{A F0 F T:tF}{w0:tA}{v:Wv}{x y:AV}(pn pe:tH)(h1:UM n ops f i=some (s,x,y))(hn:G Tryz.prog fn Rr n (fun b=>F b∨T b) Φ (RW X A F0 w0 {v with pn:=pn,pe:=pe} F) (.g md ops t::ks) f H)(hA:∀b,A b→b∈(hs H).map bU.a)(hx:x.val= .pointer (some ⟨X,5,none⟩):=by rfl)(hy:y.val=vF (cD (wU pn pe)) 8:=by rfl)(Jq:vr Tryz.prog s 8=true:=by kernel_rfl)(QQ:md.vs.contains i=false:=by rfl):G Tryz.prog fn Rr n (fun b=>F b∨T b) Φ (RW X A F0 w0 v F) (.g md ops (.ef i t)::ks) f H:=by
 intro w hS hK;obtain⟨hK1,il⟩:=bn.1 hK;show WF Tryz.prog ops (kq Tryz.prog fn Rr ks) md.va (oD md ops) (uv md ops) (.ef i t) n (cn f) w;obtain⟨o,p,r,ho,hd,hw,hp,rfl,rfl⟩:=SK h1
 have GC:(oD md ops).contains i=true:=kM ho (by
  unfold nc;rw[QQ,hp]
  cases md.cb<;>rfl)
 obtain⟨dd,hu,hr,hi⟩:=rJ Jq;obtain⟨UY,sv,td,fb,o1,o2,o3,hF⟩:=hS.now.2.wo.ex;obtain⟨g,hg⟩:∃g,cD (wU pn pe)=g:=⟨_,rfl⟩;have Jo:aS g 8:=hg▸RI rfl;have tn:av X w (w.setCells X 5 (cm g 0 8)):=av.sH X _ 5 w;have hb:∀k,k≠X→(w.setCells X 5 (cm g 0 8)).heap[k]? =w.heap[k]? :=fun k hk=>tn.block k hk;refine qs (w1:=w.setCells X 5 (cm g 0 8)) ho hd (fC hw) (dI hK1).1 ?_ (gk GC) (hn _ (hS.call2 (F':=F) ⟨UY,sv,td,(fb.put 5 8 g (by decide)).congr fun i _=>by rw[←hg];exact ZV i,aI o1 fun g hg _=>hb g (aT o1 fb (by decide) g hg),aI o2 fun g hg _=>hb g (aT o2 fb (by decide) g hg),aI o3 fun g hg _=>hb g (aT o3 fb (by decide) g hg),hF⟩ ⟨⟨tn.os,tn.tape,tn.output,BZ tn.size.symm,fun b _ hn=>hb b fun e=>hn ((hF b).2 (.inl e))⟩,fun _ h=> .inl h,fun b hb=>by rw[tn.size];exact hS.now.2.wo.lt b hb⟩ hA) (bn.2 ⟨hK1,il⟩));have:=run_storeAt_mid (P:=Tryz.prog) w X 5 s (cm g 0 8).toArray (by simpa[bK]using fb.there 5 8 (by decide)) (by simpa[bK]using hi) Jo.all;simp only[execOp,hp,(bz f p).symm.trans hx,(bz f r).symm.trans hy,hg,Sem.run_bind,vF,this,Result.andThen_ok,Sem.run_pure]
theorem cs{Y:Type}{w:tA}{X:Nat}{F F1 U:tF}{v:Wv}{g:Nat}{al:List AV}(e:QS n ops f i=some (d,g,al))(v':Y→Wv)(φ:Y→World→Prop)(hc:∀w1,Mem w1 (hs H) (fun b=>F1 b∨False) Φ (RW X (fun b=>b∈([]:List bU).map bU.a) F w v F1)→cA g (al.map AV.val).toArray w1 fun x w'=>x= .returned (.tuple #[])∧∃y F',WO w' X (v' y) F'∧Mv F1 w1 F' w'∧bV (fun b=>U b∨F' b) w' (φ y))(hn:∀y F',G Tryz.prog fn Rr n (fun _=>False) (fun _=>True) (fun w'=>WO w' X (v' y) F'∧Mv F w F' w'∧bV (fun b=>U b∨F' b) w' (φ y)) (.g md ops t::ks) (ua f d (vt [])) [])(hm:(md.cb||md.vs.contains i)=false:=by rfl)(he:iO Tryz.prog g=true:=by kernel_rfl):G Tryz.prog fn Rr n (fun b=>F1 b∨False) Φ (RW X (fun b=>b∈([]:List bU).map bU.a) F w v F1) (.g md ops (.ef i t)::ks) f H:=
 ct (Y:=Y×(Nat→Prop)) e (vt []) (fun y w'=>WO w' X (v' y.1) y.2∧Mv F w y.2 w'∧bV (fun b=>U b∨y.2 b) w' (φ y.1)) (fun w1 hS=>(hc w1 hS).mono fun _ w' ⟨h1,y,F',hW,m,s⟩=>⟨h1,(y,F'),hW,hS.now.2.mv0.trans m,s⟩) (fun y w' w2 ⟨h1,h2,h3⟩ b=>⟨h1.next b,h2.next b,h3.next b⟩) (fun y=>hn y.1 y.2) hm he
end
end Rv
namespace Rv
section
variable{n:Nat}{ops:tP}{f:Nat→AV}{fn:Func}{Rr:Ending→World→Prop}{M:tF}{Φ R:tJ}{H:List En}{ks:List Fr}{t:Ord}{i d:Nat}{md:Md}
theorem cv{X:Nat}{A F0 F T:tF}{w0:tA}{v:Wv}{g:Nat}{al:List AV}(e:QS n ops f i=some (d,g,al))(a:AV)(v':Wv)(hc:∀w,Mem w (hs H) (fun b=>F b∨T b) Φ (RW X A F0 w0 v F)→cA g (al.map AV.val).toArray w fun x w'=>x= .returned a.val∧∃F',WO w' X v' F'∧Mv F w F' w')(hn:∀F',G Tryz.prog fn Rr n (fun b=>F' b∨T b) Φ (RW X A F0 w0 v' F') (.g md ops t::ks) (ua f d a) H)(hA:∀b,A b→b∈(hs H).map bU.a:=by(intro b h;exact BQ.2 ((BQ.1 h).imp id fun h=>by cases h)))(hm:(md.cb||md.vs.contains i)=false:=by rfl)(he:iO Tryz.prog g=true:=by kernel_rfl):G Tryz.prog fn Rr n (fun b=>F b∨T b) Φ (RW X A F0 w0 v F) (.g md ops (.ef i t)::ks) f H:=
 ky e he fun w hS=>(hc w hS).mono fun _ w' ⟨h1,F',hW,m⟩=>⟨a,H,_,_,_,h1,.inl hm,hS.call2 hW m hA,hn F'⟩
end
end Rv
section
open Rv
theorem gz:jv Tryz.prog 111 171 1 8=true:=by kernel_rfl
theorem IB:jv Tryz.prog 32 63 7 56=true:=by kernel_rfl
theorem qI(X:Nat)(v:Wv)(F:tF)(U:tF)(w:tA)(l:Lt)(a:tB)(c:Nat)(g:tD)(hg:g=lF (ME l a c))(hW:WO w X v F)(hU:∀b,U b→b<w.heap.size)(qY:∀b,F b→U b)(hr:bV U w fun w=>RowK .i64 w a (6*l.es.length) (ai l.es))(hc:l.es.length≤c)(hn:a=none→c=0)(hlen:v.fl.length≤1000000000000):cA 81 #[lp X,vF g 21] w fun x w'=>x= .returned (.tuple #[])∧∃P F',WO w' X {v with fl:=v.fl++[⟨P,l,a,c⟩]} F'∧Mv F w F' w'∧bV (fun b=>U b∨F' b) w' fun w=>eH w P l a c:=by
 obtain⟨fl,sv,td,fb,o1,o2,o3,hF⟩:=hW.ex;refine en (H:=[⟨X,114,[.f 19 (lx v.nd v.pn v.pe [fl,v.tk,v.dd,iV v.cs,sv,td])]⟩]) 13 [vp 0 0 X,vf 21 g] Tryz.func81 rfl rfl (fb.open hU (qY X ((hF X).2 (.inl rfl))) hr) (r [] rfl fun α=> ?_);refine am 2 rfl o1 fb (fun b h=>qY b ((hF b).2 (.inr (.inl h)))) rfl gz (by omega) (by unfold maxLen;omega) (fun i hi=>by obtain rfl:i=0:=Nat.lt_one_iff.1 hi;rfl) fun R2 c2 hR hw=>r [] rfl fun _=>gn 0 (lx v.nd v.pn v.pe [.slice (some ⟨R2,0,none⟩) (v.fl.length+1) c2,v.tk,v.dd,iV v.cs,sv,td]) (dh rfl fun w' hS=> ?_);have c1:=hS.now.2.2;obtain⟨F',pB,mv',_⟩:=WO.make (v':={v with fl:=v.fl++[⟨α 0,l,a,c⟩]}) fb hF (c1.mono fun b hb=>(hF b).2 (hb.imp id .inl)) (hS.at 0 rfl) (by rw[Ac,AB];exact hS.now.2.1) (nK o2 o1 fb c1) (nK o3 o1 fb c1) (fun b hb=>by cases hb;exact hR.imp (fun h=>(hF _).2 (.inr (.inl h))) id) (fun b hb=> .inl ((hF b).2 (.inr (.inr (.inl hb))))) (fun b hb=> .inl ((hF b).2 (.inr (.inr (.inr hb)))));exact⟨rfl,α 0,F',pB,mv',Z7 hU qY hr hc hn mv' ((hw (α 0) (.tail _ (.head _))).resolve_left fun h=>absurd (hS.ov 1 0 _ _ rfl rfl (Ab.1 h)) (by decide)) (hg▸hS.at 1 rfl) pB⟩
theorem IC{α:Type}(f:α→List Value)(l:List α)(x:α):(l++[x]).flatMap f=l.flatMap f++f x:=by simp
theorem ID(X:Nat)(v:Wv)(F:tF)(w:tA)(y:Jw)(g:tD)(hg:g=lF (DZ y))(hW:WO w X v F)(hlen:v.sv.length≤1000000000000):cA 89 #[lp X,vF g 14] w fun x w'=>x= .returned (.tuple #[])∧∃F',WO w' X {v with sv:=v.sv++[y]} F'∧Mv F w F' w':=by
 have og:aS g 14:=by rw[hg];exact RI rfl
 obtain⟨fl,sv,td,fb,o1,o2,o3,hF⟩:=hW.ex;refine en (H:=[⟨X,114,[.f 19 (lx v.nd v.pn v.pe [fl,v.tk,v.dd,iV v.cs,sv,td])]⟩]) 14 [vp 0 0 X,vf 14 g] Tryz.func89 rfl rfl (fb.open (G:=fun _=>True) hW.lt ((hF X).2 (.inl rfl)) fun _ _=>trivial) (r [1] rfl fun α=> ?_);refine am 2 rfl o2 fb (fun b h=>(hF b).2 (.inr (.inr (.inl h)))) rfl rC (by omega) (by unfold maxLen;omega) og fun R2 c2 hR _=>r [] rfl fun _=>gn 0 (lx v.nd v.pn v.pe [fl,v.tk,v.dd,iV v.cs,.slice (some ⟨R2,0,none⟩) (v.sv.length+1) c2,td]) (dh rfl fun w' hS=> ?_);have c1:=hS.now.2.2;obtain⟨F',pB,mv',_⟩:=WO.make (v':={v with sv:=v.sv++[y]}) fb hF (c1.mono fun b hb=>(hF b).2 (hb.imp id fun h=> .inr (.inl h))) (hS.at 0 rfl) (nK o1 o2 fb c1) (by rw[Ac,IC];exact(hg▸hS.now.2.1:_)) (nK o3 o2 fb c1) (fun b hb=> .inl ((hF b).2 (.inr (.inl hb)))) (fun b hb=>by cases hb;exact hR.imp (fun h=>(hF _).2 (.inr (.inr (.inl h)))) id) (fun b hb=> .inl ((hF b).2 (.inr (.inr (.inr hb)))));exact⟨rfl,F',pB,mv'⟩
theorem toClient_wo(X:Nat)(v:Wv)(F:tF)(U:tF)(w:tA)(P:Nat)(l:Lt)(a:tB)(c:Nat)(hW:WO w X v F)(hU:∀b,U b→b<w.heap.size)(qY:∀b,F b→U b)(hl:bV U w fun w=>eH w P l a c)(hlen:v.td.length≤1000000000000):cA 73 #[lp X,lp P] w fun x w'=>x= .returned (.tuple #[])∧∃F',WO w' X {v with td:=v.td++[⟨l.nu,l.an,l.pn,l.pe⟩]} F'∧Mv F w F' w':=by
 obtain⟨fl,sv,td,fb,o1,o2,o3,hF⟩:=hW.ex;refine en (H:=[⟨X,114,[.f 19 (lx v.nd v.pn v.pe [fl,v.tk,v.dd,iV v.cs,sv,td])]⟩]) 26 [vp 0 0 X,vv (lp P)] Tryz.func73 rfl rfl (fb.open hU (qY X ((hF X).2 (.inl rfl))) hl) (r [1] rfl fun _=>l1 rfl (iV l.nu) (fun w hS=>hS.now.1.b.at 4 (cK rfl)) (r [] rfl fun _=>lf rfl 4 (lF [iV l.an.c,iV l.an.he,iV l.an.no,iV l.an.bd]) (fun w hS j hj=>(hS.now.1.b.at (11+j) (by omega)).trans (Au some (pR rfl hj))) (r [] rfl fun _=>lf rfl 2 (lF [iV l.pn,iV l.pe]) (fun w hS j hj=>(hS.now.1.b.at (15+j) (by omega)).trans (Au some (pR rfl hj))) (r [] rfl fun α=> ?_))));refine am 1 rfl o3 fb (fun b h=>qY b ((hF b).2 (.inr (.inr (.inr h))))) rfl IB (by omega) (by unfold maxLen;omega) (RI rfl) fun R2 c2 hR _=>r [] rfl fun _=>gn 0 (lx v.nd v.pn v.pe [fl,v.tk,v.dd,iV v.cs,sv,.slice (some ⟨R2,0,none⟩) (v.td.length+1) c2]) (dh rfl fun w' hS=> ?_);have c1:=hS.now.2.2;obtain⟨F',pB,mv',_⟩:=WO.make (v':={v with td:=v.td++[⟨l.nu,l.an,l.pn,l.pe⟩]}) fb hF (c1.mono fun b hb=>(hF b).2 (hb.imp id fun h=> .inr (.inr h))) (hS.at 0 rfl) (nK o1 o3 fb c1) (nK o2 o3 fb c1) (by rw[Ac,IC];exact hS.now.2.1) (fun b hb=> .inl ((hF b).2 (.inr (.inl hb)))) (fun b hb=> .inl ((hF b).2 (.inr (.inr (.inl hb))))) (fun b hb=>by cases hb;exact hR.imp (fun h=>(hF _).2 (.inr (.inr (.inr h)))) id);exact⟨rfl,F',pB,mv'⟩
theorem IE(X:Nat)(v:Wv)(F:tF)(U:tF)(w:tA)(N:Nat)(u:Nv)(P:Nat)(l:Lt)(a:tB)(c:Nat)(an:An)(pn pe:Int)(hW:WO w X v F)(hU:∀b,U b→b<w.heap.size)(qY:∀b,F b→U b)(hN:bV F w fun w=>NB w X N u)(hl:bV U w fun w=>eH w P l a c)(hlen:v.fl.length≤1000000000000):cA 111 #[lp N,lp P,vF (lF [iV an.c,iV an.he,iV an.no,iV an.bd]) 4,vF (lF [iV pn,iV pe]) 2] w fun x w'=>x= .returned (.tuple #[])∧∃P' F',WO w' X {v with fl:=v.fl++[⟨P',(mq l.nu an pn pe),none,0⟩]} F'∧Mv F w F' w'∧bV (fun b=>U b∨F' b) w' fun w=>eH w P' (mq l.nu an pn pe) none 0:=by
 exact en (H:=[]) 20 [vv (lp N),vv (lp P),vf 4 (lF [iV an.c,iV an.he,iV an.no,iV an.bd]),vf 2 (lF [iV pn,iV pe])] Tryz.func111 rfl rfl (hW.i0 (G:=fun w=>NB w X N u∧eH w P l a c) fun w2 c=>⟨hN w2 c,hl w2 (c.mono qY)⟩) (r [1] rfl fun _=>l1 rfl (lp X) (fun w hS=>hS.now.1.1.at 0 (cK rfl)) (r [] rfl fun _=>l1 rfl (iV l.nu) (fun w hS=>hS.now.1.2.b.at 4 (cK rfl)) (r [] rfl fun _=>cs rfl _ _ (fun w1 hS=>qI X v F U w1 (mq l.nu an pn pe) none 0 (lF (ME (mq l.nu an pn pe) none 0)) rfl hS.now.2.wo (fun b h=>Aj (hU b h) hS.now.2.mv.c.size) qY (fun _ _=>RowK.nil _ _ _) (Ak _) (fun _=>rfl) hlen) fun P' F'=>r [] rfl fun _=>dh rfl fun _ hS=>⟨rfl,P',F',hS.now.2⟩)))
theorem uY(X:Nat)(v:Wv)(F:tF)(w:tA)(N:Nat)(u:Nv)(q:Nat)(hq:q<4)(e:Ev)(an:An)(nu:Int)(hW:WO w X v F)(hN:bV F w fun w=>NB w X N u)(hlen:v.sv.length≤1000000000000):cA 90 #[lp N,iV (q:Int),vF (lF [iV e.k,iV e.p,iV e.i,iV e.b,iV e.he,iV e.hn]) 6,vF (lF [iV an.c,iV an.he,iV an.no,iV an.bd]) 4,iV nu] w fun x w'=>x= .returned (.tuple #[])∧∃F',WO w' X {v with sv:=v.sv++[⟨u.i,q,(u.m q).B.e,e,an,nu⟩]} F'∧Mv F w F' w':=by
 exact en (H:=[]) 33 [vv (lp N),vi q,vf 6 (lF [iV e.k,iV e.p,iV e.i,iV e.b,iV e.he,iV e.hn]),vf 4 (lF [iV an.c,iV an.he,iV an.no,iV an.bd]),vi nu] Tryz.func90 rfl rfl (hW.i0 hN) (r [1] rfl fun _=>l1 rfl (lp X) (fun w hS=>hS.now.1.at 0 (cK rfl)) (r [] rfl fun _=>l1 rfl (iV (u.i:Int)) (fun w hS=>hS.now.1.at 1 (cK rfl)) (r [1] rfl fun _=>l1 (q:=5+q*47+1) rfl (iV (u.m q).B.e) (fun w hS=>(hS.now.1.at (5+q*47+1) (by omega)).trans (Au some (nG hq (by decide)))) (r [] rfl fun _=>cs (Y:=Unit) (U:=fun _=>False) rfl (fun _=>{v with sv:=v.sv++[⟨u.i,q,(u.m q).B.e,e,an,nu⟩]}) (fun _ _=>True) (fun w1 hS=>(ID X v F w1 ⟨u.i,q,(u.m q).B.e,e,an,nu⟩ (lF (DZ ⟨u.i,q,(u.m q).B.e,e,an,nu⟩)) rfl hS.now.2.wo hlen).mono fun _ _ ⟨h1,F',h2,h3⟩=>⟨h1,(),F',h2,h3,fun _ _=>trivial⟩) fun _ F'=>r [] rfl fun _=>dh rfl fun _ hS=>⟨rfl,F',hS.now.2.1,hS.now.2.2.1⟩))))
theorem uZ(X:Nat)(v:Wv)(F:tF)(U:tF)(w:tA)(N:Nat)(u:Nv)(P:Nat)(l:Lt)(a:tB)(c:Nat)(an:An)(hq:l.q<4)(hW:WO w X v F)(hU:∀b,U b→b<w.heap.size)(qY:∀b,F b→U b)(hN:bV F w fun w=>NB w X N u)(hl:bV U w fun w=>eH w P l a c)(hlen:v.fl.length≤1000000000000)(iD:v.sv.length≤1000000000000):cA 113 #[lp N,lp P,vF (lF [iV an.c,iV an.he,iV an.no,iV an.bd]) 4] w fun x w'=>x= .returned (.tuple #[])∧∃P' F',WO w' X {v with sv:=v.sv++[⟨u.i,l.q,(u.m l.q).B.e,l.op,an,l.nu⟩],fl:=v.fl++[⟨P',mq l.nu an (-1) 0,none,0⟩]} F'∧Mv F w F' w'∧bV (fun b=>U b∨F' b) w' fun w=>eH w P' (mq l.nu an (-1) 0) none 0:=by
 refine en (H:=[]) 26 [vv (lp N),vv (lp P),vf 4 (lF [iV an.c,iV an.he,iV an.no,iV an.bd])] Tryz.func113 rfl rfl (hW.i0 (G:=fun w=>NB w X N u∧eH w P l a c) fun w2 c=>⟨hN w2 c,hl w2 (c.mono qY)⟩) (r [1] rfl fun _=>l1 rfl (iV (l.q:Int)) (fun w hS=>hS.now.1.2.b.at 3 (cK rfl)) (r [] rfl fun _=>lf rfl 6 (lF [iV l.op.k,iV l.op.p,iV l.op.i,iV l.op.b,iV l.op.he,iV l.op.hn]) (fun w hS j hj=>(hS.now.1.2.b.at (5+j) (by omega)).trans (Au some (pR rfl hj))) (r [] rfl fun _=>l1 rfl (iV l.nu) (fun w hS=>hS.now.1.2.b.at 4 (cK rfl)) (r [] rfl fun _=> ?_))));refine cw (Y:=Unit) rfl (vt []) (fun _=>{v with sv:=v.sv++[⟨u.i,l.q,(u.m l.q).B.e,l.op,an,l.nu⟩]}) (fun _ _=>True) (fun w1 hS=>(uY X v F w1 N u l.q hq l.op an l.nu hS.now.2.wo (fun w2 c2=>(hS.g w2 (c2.mono fun b h=> .inr (.inl h))).1) iD).mono fun _ _ ⟨h1,F',h2,h3⟩=>⟨h1,(),F',h2,h3,fun _ _=>trivial⟩) (fun _ F1=> ?_) (fun b h=>by cases h);exact r [] rfl fun _=>cs (U:=fun b=>U b∨F1 b) rfl _ _ (fun w1 hS=>IE X _ F1 (fun b=>U b∨F1 b) w1 N u P l a c an (-1) 0 hS.now.2.wo (fun b h=>h.elim (fun h=>Aj (hU b h) hS.now.2.mv.c.size) (hS.now.2.wo.lt b)) (fun b h=> .inr h) (fun w2 c2=>(hS.g w2 (c2.mono fun b h=> .inr (.inl h))).1.1) (hl.mv hS.now.2.mv0 qY) hlen) fun P' F'=>r [] rfl fun _=>dh rfl fun _ hS=>⟨rfl,P',F',hS.now.2.1,hS.now.2.2.1,hS.now.2.2.2.mono fun b _ h=>h.imp .inl id⟩
theorem FG(X:Nat)(v:Wv)(F:tF)(U:tF)(w:tA)(N:Nat)(u:Nv)(q:Nat)(hq:q<4)(kY:aS (u.m q).g 41)(hW:WO w X v F)(hU:∀b,U b→b<w.heap.size)(qY:∀b,F b→U b)(hN:bV F w fun w=>NB w X N u)(hlen:v.fl.length≤1000000000000):cA 115 #[lp N,iV (q:Int)] w fun x w'=>x= .returned (.tuple #[])∧∃P' F',WO w' X {v with fl:=v.fl++[⟨P',D0 u.i (u.m q).B q,none,0⟩]} F'∧Mv F w F' w'∧bV (fun b=>U b∨F' b) w' fun w=>eH w P' (D0 u.i (u.m q).B q) none 0:=by
 refine en (H:=[]) 33 [vv (lp N),vi q] Tryz.func115 rfl rfl (hW.i0 hN) (r [1] rfl fun _=>lf (q:=5+q*47) rfl 47 (je (u.m q)) (fun w hS j hj=>(hS.now.1.at (5+q*47+j) (by omega)).trans (Au some (nG hq hj))) (sv 11 (vg (pD (u.m q).B (u.m q).a (u.m q).c (u.m q).g)) rfl (r [] rfl fun α=>r [1] rfl fun _=>l1 rfl (lp X) (fun w hS=>hS.now.1.at 0 (cK rfl)) (r [] rfl fun _=>l1 rfl (iV (u.i:Int)) (fun w hS=>hS.now.1.at 1 (cK rfl)) (r [] rfl fun _=> ?_)))));exact cs rfl _ _ (fun w1 hS=>qI X v F U w1 (D0 u.i (u.m q).B q) none 0 (lF (ME (D0 u.i (u.m q).B q) none 0)) rfl hS.now.2.wo (fun b h=>Aj (hU b h) hS.now.2.mv.c.size) qY (fun _ _=>RowK.nil _ _ _) (Ak _) (fun _=>rfl) hlen) fun P' F'=>r [] rfl fun _=>dh rfl fun _ hS=>⟨rfl,P',F',hS.now.2⟩
theorem MI(X:Nat)(v:Wv)(F:tF)(U:tF)(w:tA)(P:Nat)(l:Lt)(a:tB)(c:Nat)(hq:l.q<4)(hW:WO w X v F)(hU:∀b,U b→b<w.heap.size)(qY:∀b,F b→U b)(hl:bV U w fun w=>eH w P l a c)(hlen:v.fl.length≤1000000000000):cA 75 #[lp X,lp P] w fun x w'=>x= .returned (.tuple #[])∧∃P' F',WO w' X {v with fl:=v.fl++[⟨P',qa l.fr l.q (v.pn l.q) (v.pe l.q),none,0⟩]} F'∧Mv F w F' w'∧bV (fun b=>U b∨F' b) w' fun w=>eH w P' (qa l.fr l.q (v.pn l.q) (v.pe l.q)) none 0:=by
 exact en (H:=[]) 25 [vv (lp X),vv (lp P)] Tryz.func75 rfl rfl (hW.i0 fun w2 c=>hl w2 (c.mono qY)) (r [1] rfl fun _=>l1 rfl (iV l.fr) (fun w hS=>hS.now.1.b.at 1 (cK rfl)) (r [] rfl fun _=>l1 rfl (iV (l.q:Int)) (fun w hS=>hS.now.1.b.at 3 (cK rfl)) (r [] rfl fun _=>l1 rfl (iV (l.q:Int)) (fun w hS=>hS.now.1.b.at 3 (cK rfl)) (r [1] rfl fun _=>lf (q:=5+l.q*2) rfl 2 (lF [iV (v.pn l.q),iV (v.pe l.q)]) (fun w hS j hj=>hS.now.2.wo.pl hq hj) (r [] rfl fun _=>cs rfl _ _ (fun w1 hS=>qI X v F U w1 (qa l.fr l.q (v.pn l.q) (v.pe l.q)) none 0 (lF (ME (qa l.fr l.q (v.pn l.q) (v.pe l.q)) none 0)) rfl hS.now.2.wo (fun b h=>Aj (hU b h) hS.now.2.mv.c.size) qY (fun _ _=>RowK.nil _ _ _) (Ak _) (fun _=>rfl) hlen) fun P' F'=>r [] rfl fun _=>dh rfl fun _ hS=>⟨rfl,P',F',hS.now.2⟩)))))
open Classical in
noncomputable def nN(v:Wv)(l:Lt):Wv:=if de v.pn v.pe∧¬v.pn l.q= -1∧yo (v.pn l.q) (v.pe l.q) (l.ep-1) l.fr=0 then {v with pn:=cB v.pn l.q l.fr,pe:=cB v.pe l.q (v.pe l.q+1)}else v
theorem SL{v:Wv}{l:Lt}{pa pb:tH}(h:s_ v.pn v.pe (l.q:Int) (l.ep-1) l.fr pa pb 0):nN v l={v with pn:=pa,pe:=pb}:=by
 generalize he:(0:Int)=er at h;cases h with
 |off a b c h hc=>exact absurd he.symm hc
 |no a b h hc=>exact absurd he.symm hc
 |flip h k hk hq hn hc=>
  obtain rfl:l.q=k:=by omega
  exact if_pos ⟨h,hn,hc⟩
theorem SM{v:Wv}{l:Lt}{pa pb:tH}{er:Int}(h:s_ v.pn v.pe (l.q:Int) (l.ep-1) l.fr pa pb er)(h0:¬er=0)(mZ:l.q<4):nN v l=v:=by
 refine if_neg fun hc=> ?_;cases h with
 |off a b c h hc'=>
  cases h with
  |state h=>exact h hc.1
  |range h hq=>exact hq ⟨by omega,by omega⟩
  |none h k hk hq hn=>
   obtain rfl:l.q=k:=by omega
   exact hc.2.1 hn
  |here h k hk hq hn=>exact hc' rfl
 |no a b h hc'=>
  obtain⟨_,k,hk,hq,hn,rfl,rfl⟩:=h.at;obtain rfl:l.q=k:=by omega
  exact hc' hc.2.2
 |flip h k hk hq hn hc'=>exact h0 rfl
theorem Wy(X:Nat)(v:Wv)(F:tF)(U:tF)(w:tA)(P:Nat)(l:Lt)(a:tB)(c:Nat)(hq:l.q<4)(he0: -1000000000≤l.ep)(he1:l.ep≤1000000000)(hW:WO w X v F)(hU:∀b,U b→b<w.heap.size)(qY:∀b,F b→U b)(hl:bV U w fun w=>eH w P l a c)(hlen:v.fl.length≤1000000000000):cA 74 #[lp X,lp P] w fun x w'=>x= .returned (.tuple #[])∧∃P' F',WO w' X {nN v l with fl:=v.fl++[⟨P',qa l.fr l.q ((nN v l).pn l.q) ((nN v l).pe l.q),none,0⟩]} F'∧Mv F w F' w'∧bV (fun b=>U b∨F' b) w' fun w=>eH w P' (qa l.fr l.q ((nN v l).pn l.q) ((nN v l).pe l.q)) none 0:=by
 refine en (H:=[]) 36 [vv (lp X),vv (lp P)] Tryz.func74 rfl rfl (hW.i0 fun w2 c=>hl w2 (c.mono qY)) (r [] rfl fun _=> ?_);refine cut (X:=Nat×(Nat→Int)×(Nat→Int)×Int) (fun x=>[(0,vv (lp X)),(1,vv (lp P)),(4,vp 0 0 x.1),(5,vi x.2.2.2)]) (fun x=>[⟨x.1,29,wU x.2.1 x.2.2.1⟩]) (fun _ b=>F b∨False) (fun _ w=>eH w P l a c) (fun _=>RW X (fun b=>b∈([]:List bU).map bU.a) F w v F) (fun x=>s_ v.pn v.pe (l.q:Int) (l.ep-1) l.fr x.2.1 x.2.2.1 x.2.2.2) ?_ (rz [4,1] [l.ep-1] rfl fun _=>lf rfl 8 (cD (wU v.pn v.pe)) (fun w hS j hj=>hS.now.2.wo.dir hj) (r [] rfl fun _=>l1 rfl (iV (l.q:Int)) (fun w hS=>hS.now.1.b.at 3 (cK rfl)) (r [] rfl fun _=>l1 rfl (iV l.ep) (fun w hS=>hS.now.1.b.at 17 (cK rfl)) (rz [1] [l.ep-1] rfl fun _=>l1 rfl (iV l.fr) (fun w hS=>hS.now.1.b.at 1 (cK rfl)) (r [] rfl fun _=> ?_)))))
 case refine_2=>
  repeat' first|refine ER ?_ ?_|(refine cq (g:=126) rfl (fun y:(Nat→Int)×(Nat→Int)×Int=>vt [.g (wU y.1 y.2.1),.o (iV y.2.2)]) (fun y=>s_ v.pn v.pe (l.q:Int) (l.ep-1) l.fr y.1 y.2.1 y.2.2) ?_ ?_;exact fun w _=>(RS v.pn v.pe (l.q:Int) (l.ep-1) l.fr w).mono fun _ _ ⟨pa,pb,er,h0,h1,b⟩=>⟨(pa,pb,er),h0,b,h1⟩;rintro⟨pa,pb,er⟩ wm)|refine rs [] rfl rfl fun _=> ?_
  all_goals exact b_ (_,pa,pb,er) ⟨rfl,rfl,rfl,rfl,trivial⟩ (fun w hS=>hS) wm Bi
 rintro f ⟨R6,pa,pb,er⟩ vu;have vu:s_ v.pn v.pe (l.q:Int) (l.ep-1) l.fr pa pb er:=vu;have tl:∀v1 w1,Mem w1 (hs [⟨R6,29,wU pa pb⟩]) (fun b=>F b∨False) (fun w=>eH w P l a c) (RW X (fun b=>b∈([]:List bU).map bU.a) F w v1 F)→v1.fl.length≤1000000000000→_:=fun v1 w1 hS h=>MI X v1 F U w1 P l a c hq hS.now.2.wo (fun b h=>Aj (hU b h) hS.now.2.mv.c.size) qY ((hl.mv hS.now.2.mv0 qY).mono fun b _ h=> .inl h) h;by_cases h0:er=0
 ·subst h0;rw[SL vu];exact r [1] rfl fun _=>wp pa pb rfl (r [] rfl fun _=>cs rfl _ _ (fun w1 hS=>tl _ w1 hS hlen) fun P' F'=>r [] rfl fun _=>dh rfl fun _ hS=>⟨rfl,P',F',hS.now.2⟩) (fun b h=>by cases h)
 ·rw[SM vu h0 hq];exact r [0] rfl fun _=>cs rfl _ _ (fun w1 hS=>tl _ w1 hS hlen) fun P' F'=>r [] rfl fun _=>dh rfl fun _ hS=>⟨rfl,P',F',hS.now.2⟩
theorem Wz(X:Nat)(v:Wv)(F:tF)(U:tF)(w:tA)(k nd:Int)(q:Nat)(pl kp:Int)(e:Ev)(hW:WO w X v F)(hU:∀b,U b→b<w.heap.size)(qY:∀b,F b→U b)(hlen:v.fl.length≤1000000000000)(vx:v.cs≤1000000000000)(Qj:0≤v.cs):cA 45 #[lp X,vF (lF [iV k,iV nd,iV (q:Int),iV pl,iV kp,iV e.k,iV e.p,iV e.i,iV e.b,iV e.he,iV e.hn]) 11] w fun x w'=>x= .returned (.tuple #[])∧∃P' F',WO w' X {v with cs:=v.cs+1,fl:=v.fl++[⟨P',rD nd q v.cs e,none,0⟩]} F'∧Mv F w F' w'∧bV (fun b=>U b∨F' b) w' fun w=>eH w P' (rD nd q v.cs e) none 0:=by
 refine en (H:=[]) 24 [vv (lp X),vg [.o (iV k),.o (iV nd),.o (iV (q:Int)),.o (iV pl),.o (iV kp),.o (iV e.k),.o (iV e.p),.o (iV e.i),.o (iV e.b),.o (iV e.he),.o (iV e.hn)]] Tryz.func45 rfl rfl (Mem.init (T:=U) hW (fun e he=>by cases he) List.nodup_nil (fun e he=>by cases he) hU fun _ _=>trivial) (r [1] rfl fun _=>l1 rfl (iV v.cs) (fun w hS=>hS.now.2.wo.cs_) (r [] rfl fun _=> ?_));refine cw rfl (vt []) _ _ (fun w1 hS=>qI X v F _ w1 (rD nd q v.cs e) none 0 (lF (ME (rD nd q v.cs e) none 0)) rfl hS.now.2.wo hS.ult (fun b h=> .inr (.inl h)) (fun _ _=>RowK.nil _ _ _) (Ak _) (fun _=>rfl) hlen) (fun P' F'=> ?_) (fun b h=>by cases h);exact r [] rfl fun _=>l1 rfl (iV v.cs) (fun w hS=>hS.now.2.wo.cs_) (rz [1] [v.cs+1] rfl fun _=>wc (v.cs+1) rfl (r [] rfl fun _=>dh rfl fun w2 hS=>⟨rfl,P',F',hS.now.2.wo,hS.now.2.mv0,fun w2 c2=>(hS.g w2 (c2.mono fun b h=>h.elim (fun h=> .inr (.inr h)) (fun h=> .inr (.inl h)))).2⟩) (fun b h=>by cases h))
end
theorem az{α:Type}(m:Nat→α)(q:Nat)(x:α):au m q x q=x:=if_pos rfl
theorem acE(m:Nat→Mg)(k:Nat)(x:Mg):(fun q=>(au m k x q).B)=au (fun q=>(m q).B) k x.B:=by
 funext q;unfold au;split<;>rfl
theorem jN(u:Nv)(q:Nat)(x:Mg):({u with m:=au u.m q x}:Nv).pure={u.pure with mo:=au u.pure.mo q x.B}:=by
 show Nd.mk .. =Nd.mk ..;simp only[acE]
theorem kg(v:Wv)(r:Lr):({v with fl:=v.fl++[r]}:Wv).pure=fZ v.pure r.l:=by
 show Ws.mk .. =Ws.mk ..;simp only[List.map_append,List.map_cons,List.map_nil]
theorem yM(v:Wv)(y:Jw)(r:Lr):({v with sv:=v.sv++[y],fl:=v.fl++[r]}:Wv).pure=fZ {v.pure with sv:=v.sv++[y]} r.l:=by
 show Ws.mk .. =Ws.mk ..;simp only[List.map_append,List.map_cons,List.map_nil]
theorem si{hd tl:tM}{m:Nat→Mg}{q:Nat}{x:Mg}{hn he:tH}{wt af:tK}{tu:Int}(i:Nat):kF hd (gh (au (fun p=>je (m p)) q (je x)) hn he wt af tu) tl i=kF hd (gh (fun p=>je (au m q x p)) hn he wt af tu) tl i:=by rw[Z9]
theorem Nv.Ok.put{u:Nv}(h:u.Ok){q:Nat}{x:Mg}(hx:x.B.Ok):{u with m:=au u.m q x}.Ok:=⟨fun p hp=>by
 show(au u.m q x p).B.Ok;unfold au;split
 ·exact hx
 ·exact h.ok p hp,h.nil,h.cap,h.max,h.len,h.s0,h.s1,h.i5,h.SJ⟩
theorem Nv.In.put{w:tA}{N:Nat}{u:Nv}(h:u.In w N){q:Nat}{x:Mg}(hx:nJ w x):{u with m:=au u.m q x}.In w N:=⟨h.row,fun p hp=>by
 show nJ w (au u.m q x p);unfold au;split
 ·exact hx
 ·exact h.mo p hp,h.af,h.wl⟩
theorem f_{α:Type}{p:α→Prop}{l:List α}{x:α}(h:∀r∈l,p r)(hx:p x):∀r∈l++[x],p r:=fun r hr=>by
 rcases Ao.1 hr with hr|hr
 ·exact h r hr
 ·rw[Ab.1 hr];exact hx
section
variable{w w':tA}{X N:Nat}{u u':Nv}{v v':Wv}{F F' U:tF}{r:Nd×Ws}{H':List bU}{G:tJ}
theorem Dn.fin(hS:Mem w' (⟨N,126,206,lU X u'⟩::H') (fun b=>F' b∨(U b∧b≠N)) G (RW X (fun b=>b∈[N]) F w v' F'))(hU:∀b,U b→b<w.heap.size)(hUN:U N)(Js:∀w,G w→u'.In w N∧∀r∈v'.fl,nI w r)(ok:u'.Ok)(e1:u'.wt=u.wt)(e2:u'.wl=u.wl)(e3:v'.nd=v.nd)(e4:v'.tk=v.tk)(e5:v'.dd=v.dd)(en:u'.pure=r.1)(es:v'.pure=r.2):Dn w X N u v F U r u' v' F' w':=by
 have hr:=hS.now.2;refine⟨⟨hS.at 0 rfl,hr.wo,fun hf=>hS.off _ (Aw ..) (.inl hf),fun b hb=>hb.elim (fun h=>Aj (hU b h) hr.mv.c.size) (hr.wo.lt b),fun b hb=> .inr hb,.inl hUN,ok,fun w2 c2=>Js w2 (hS.g w2 (c2.mono fun b hb=> ?_))⟩,hr.mv.less (fun b hb=>hb.imp id Ab.1) (fun b hb=> .inl (hb.imp id Ab.2)),e1,e2,e3,e4,e5,en,es⟩;rcases hb with hb|hb
 ·by_cases e:b=N
  ·exact .inl (e▸Aw ..)
  ·exact .inr (.inr ⟨hb,e⟩)
 ·exact .inr (.inl hb)
theorem NW.init(h:NW w X N u v F U){G:tJ}(g:bV U w G):Mem w [⟨N,126,206,lU X u⟩] (fun b=>F b∨(U b∧b≠N)) (fun w=>(u.In w N∧∀r∈v.fl,nI w r)∧G w) (RW X (fun b=>b∈[N]) F w v F):=by
 refine Mem.init (T:=fun b=>U b∧b≠N) h.wo (fun e he=>by cases Ab.1 he;exact h.nb) (by simp) (fun e he=>by cases Ab.1 he;exact fun hm=>hm.elim h.nf fun hm=>hm.2 rfl) (fun b hb=>h.ub b hb.1) fun w2 c2=> ?_;have c3:dm U w w2:=c2.mono fun b hb=>by
  rcases hb with hb|hb|hb
  ·rw[Ab.1 hb];exact h.nu
  ·exact h.fu b hb
  ·exact hb.1
 exact⟨h.st w2 c3,g w2 c3⟩
end
section
variable{w w1 w':tA}{X N:Nat}{u u':Nv}{v v':Wv}{F F' U:tF}{r:Nd×Ws}
theorem NW.next(h:NW w X N u v F U)(b:bZ w w1):NW w1 X N u v F U:=⟨h.nb.next b,h.wo.next b,h.nf,fun x hx=>Aj (h.ub x hx) b.size,h.fu,h.nu,h.ok,h.st.next b⟩
theorem Dn.from(h:Dn w1 X N u v F U r u' v' F' w')(hl:∀b,F b→b<w.heap.size)(hN:N<w.heap.size)(b:bZ w w1):Dn w X N u v F U r u' v' F' w':=
 ⟨h.nw,(Mv.of (F:=fun b=>F b∨b=N) (fun x hx=>hx.elim (hl x) (fun e=>e▸hN)) b).trans h.mv,h.wt,h.wl,h.nd,h.tk,h.dd,h.n,h.s⟩
end
theorem Dn.next{w w' w2:tA}{X N:Nat}{u:Nv}{v:Wv}{F U:tF}{r:Nd×Ws}{u':Nv}{v':Wv}{F':tF}(h:Dn w X N u v F U r u' v' F' w')(b:bZ w' w2):Dn w X N u v F U r u' v' F' w2:=
 ⟨h.nw.next b,h.mv.next b,h.wt,h.wl,h.nd,h.tk,h.dd,h.n,h.s⟩
theorem NW.less{w:tA}{X N:Nat}{u:Nv}{v:Wv}{F U V:tF}(h:NW w X N u v F U)(hV:∀b,V b→U b)(hF:∀b,F b→V b)(hN:V N):NW w X N u v F V:=⟨h.nb,h.wo,h.nf,fun b hb=>h.ub b (hV b hb),hF,hN,h.ok,h.st.mono fun b _ hb=>hV b hb⟩
theorem Dn.trans{w w1 w2:tA}{X N:Nat}{u u1 u2:Nv}{v v1 v2:Wv}{F F1 F2 U:tF}{r r2:Nd×Ws}(h:Dn w X N u v F U r u1 v1 F1 w1)(k:Dn w1 X N u1 v1 F1 (fun b=>U b∨F1 b) r2 u2 v2 F2 w2):Dn w X N u v F U r2 u2 v2 F2 w2:=
 ⟨k.nw.less (fun _ hb=>hb.imp .inl id) (fun _ hb=> .inr hb) (h.nw.nu.elim .inl fun hf=>absurd hf h.nw.nf),h.mv.trans k.mv,k.wt.trans h.wt,k.wl.trans h.wl,k.nd.trans h.nd,k.tk.trans h.tk,k.dd.trans h.dd,k.n,k.s⟩
theorem Dn.to{w w':tA}{X N:Nat}{u u':Nv}{v v':Wv}{F F' U:tF}{r r':Nd×Ws}(h:Dn w X N u v F U r u' v' F' w')(e1:r.1=r'.1)(e2:r.2=r'.2):Dn w X N u v F U r' u' v' F' w':=⟨h.nw,h.mv,h.wt,h.wl,h.nd,h.tk,h.dd,h.n.trans e1,h.s.trans e2⟩
theorem yN{B B':Bt}{v:Ev}{an:An}{k:Bool}{er:Int}(h:cR B v B' an k er)(ok:B.Ok):B'.Ok:=by
 cases h with
 |state h=>exact absurd ok h
 |fault h f hf h0=>exact Bt.cI
 |brk h hv hk=>exact Bt.cI
 |shut h hv hk hr=>exact ok
 |none h hv hk hr=>exact ok
 |same h hv hk hr s bw ht s' qz st=>exact ok
 |full h hv hk hr s bw ht s' an st hl=>exact ok
 |done h hv hk hr s bw ht s' qz st hl=>
  refine⟨?_,by simp[Bt.more];omega,s',bw++[_],ht.snoc hv st⟩;have hs:=ok.cO;unfold Bt.cH bB at hs⊢;rcases hs with h|h|h|h|h
  ·exact absurd h.1 (by omega)
  ·exact .inr (.inl h)
  ·exact .inr (.inr (.inl h))
  ·exact .inr (.inr (.inr (.inl h)))
  ·exact .inr (.inr (.inr (.inr h)))
section
open Rv
theorem Pe(X N:Nat)(u:Nv)(v:Wv)(F U:tF)(w:tA)(hw:NW w X N u v F U)(m:Mg)(q:Nat)(hq:q<4)(okB:m.B.Ok)(c0 c1 c2:Nat)(hg:bV U w (fun w=>(((aY w c0 117 47 (je m))∧aY w c1 109 1 (fun _=>lp N))∧aY w c2 3 1 (fun _=>iV (q:Int)))∧nJ w m)):cA 125 #[lp c0,lp c1,lp c2] w fun x w'=>x= .returned (.tuple #[])∧∃u' v' F',Dn w X N u v F U (eZ u.pure v.pure (.kG q m.B)) u' v' F' w':=by
 exact en (H:=[nE X N u]) 10 [vv (lp c0),vv (lp c1),vv (lp c2)] Tryz.func125 rfl rfl (hw.init hg) (r [1] rfl fun _=>l1 rfl (lp N) (fun w hS=>hS.now.1.2.1.1.2.at 0 (cK rfl)) (sv 3 (vp 0 0 N) rfl (r [] rfl fun _=>l1 rfl (iV (q:Int)) (fun w hS=>hS.now.1.2.1.2.at 0 (cK rfl)) (r [] rfl fun _=>lf rfl 47 (je m) (fun w hS j hj=>by rw[Ae];exact hS.now.1.2.1.1.1.at j (by omega)) (r [1] rfl fun _=>so rfl rfl rfl 0 rfl (lU X {u with m:=au u.m q m}) (fun i _=>(o4 hq i).trans (si (x:=m) i)) (r [] rfl fun _=>dh rfl fun w hS=>⟨rfl,{u with m:=au u.m q m},v,F,Dn.fin (u:=u) hS hw.ub hw.nu (fun _ h=>⟨h.1.1.put h.2.2,h.1.2⟩) (hw.ok.put okB) rfl rfl rfl rfl rfl (jN _ _ _) rfl⟩) (aag hg.now.2.one))))))
theorem Pf(X N:Nat)(u:Nv)(v:Wv)(F U:tF)(w:tA)(hw:NW w X N u v F U)(m:Mg)(P:Nat)(l:Lt)(a:tB)(c:Nat)(hq:l.q<4)(okB:m.B.Ok)(c0 c1 c2:Nat)(hg:bV U w (fun w=>((((aY w c0 117 47 (je m))∧aY w c1 109 1 (fun _=>lp N))∧aY w c2 171 1 (fun _=>lp P))∧nJ w m)∧eH w P l a c))(hlen:v.fl.length≤1000000000000)(iD:v.sv.length≤1000000000000):cA 116 #[lp c0,lp c1,lp c2] w fun x w'=>x= .returned (.tuple #[])∧∃u' v' F',Dn w X N u v F U (eZ u.pure v.pure (.begin l m.B)) u' v' F' w':=by
 have kY:=hg.now.1.2.one;refine en (H:=[nE X N u]) 19 [vv (lp c0),vv (lp c1),vv (lp c2)] Tryz.func116 rfl rfl (hw.init hg) (r [1] rfl fun _=>l1 rfl (lp N) (fun w hS=>hS.now.1.2.1.1.1.2.at 0 (cK rfl)) (sv 3 (vp 0 0 N) rfl (r [] rfl fun _=>l1 rfl (lp P) (fun w hS=>hS.now.1.2.1.1.2.at 0 (cK rfl)) (r [] rfl fun _=>l1 rfl (iV (l.q:Int)) (fun w hS=>hS.now.1.2.2.b.at 3 (cK rfl)) (r [] rfl fun _=>lf rfl 47 (je m) (fun w hS j hj=>by rw[Ae];exact hS.now.1.2.1.1.1.1.at j (by omega)) (r [1] rfl fun _=>so rfl rfl rfl 0 rfl (lU X {u with m:=au u.m l.q m}) (fun i _=>(o4 hq i).trans (si (x:=m) i)) ?_ (aag kY)))))));refine r [1] rfl fun _=>l1 rfl (lp N) (fun w hS=>hS.now.1.2.1.1.1.2.at 0 (cK rfl)) (r [] rfl fun _=>l1 rfl (lp P) (fun w hS=>hS.now.1.2.1.1.2.at 0 (cK rfl)) (r [] rfl fun _=>l1 rfl (iV (l.q:Int)) (fun w hS=>hS.now.1.2.2.b.at 3 (cK rfl)) (r [] rfl fun _=> ?_)));exact cw rfl (vt []) _ _ (fun w1 hS=>FG X v F _ w1 N ({u with m:=au u.m l.q m}) l.q hq (show aS (au u.m l.q m l.q).g 41 by rw[az];exact kY) hS.now.2.wo hS.ult (fun b h=> .inr (.inl h)) (fun w2 c2=>(hS.we 0 rfl w2 (c2.mono fun b h=> .inl h)).2) hlen) fun P1 F1=>r [] rfl fun _=>dh rfl fun w hS=>⟨rfl,{u with m:=au u.m l.q m},_,F1,Dn.fin (u:=u) hS hw.ub hw.nu (fun _ h=>⟨h.1.1.1.put h.1.2.1.2,f_ h.1.1.2 h.2⟩) (hw.ok.put okB) rfl rfl rfl rfl rfl (jN _ _ _) (by rw[kg];simp only[eZ,yL,az])⟩
theorem Pg(X N:Nat)(u:Nv)(v:Wv)(F U:tF)(w:tA)(hw:NW w X N u v F U)(P:Nat)(l:Lt)(a:tB)(c:Nat)(an:An)(hq:l.q<4)(WB:∀x∈aX l.op,(Lit.int .i64 x).wf=true)(c0 c1 c2 c3:Nat)(hg:bV U w (fun w=>((((aY w c0 109 1 (fun _=>lp N))∧aY w c1 3 1 (fun _=>iV (l.q:Int)))∧aY w c2 171 1 (fun _=>lp P))∧aY w c3 59 4 (lF (anL an)))∧eH w P l a c))(hlen:v.fl.length≤1000000000000)(iD:v.sv.length≤1000000000000):cA 112 #[lp c0,lp c1,lp c2,lp c3] w fun x w'=>x= .returned (.tuple #[])∧∃u' v' F',Dn w X N u v F U (eZ u.pure v.pure (.serve l an)) u' v' F' w':=by
 have kY:=(hw.st.now.1.mo l.q hq).one;refine en (H:=[nE X N u]) 31 [vv (lp c0),vv (lp c1),vv (lp c2),vv (lp c3)] Tryz.func112 rfl rfl (hw.init hg) ?_;refine r [4] rfl fun _=>l1 rfl (lp N) (fun w hS=>hS.now.1.2.1.1.1.1.at 0 (cK rfl)) (sv 5 (vp 0 0 N) rfl (r [] rfl fun _=>l1 rfl (iV (l.q:Int)) (fun w hS=>hS.now.1.2.1.1.1.2.at 0 (cK rfl)) (r [] rfl fun _=>l1 rfl (lp N) (fun w hS=>hS.now.1.2.1.1.1.1.at 0 (cK rfl)) (sv 7 (vp 0 0 N) rfl (r [] rfl fun _=>l1 rfl (iV (l.q:Int)) (fun w hS=>hS.now.1.2.1.1.1.2.at 0 (cK rfl)) ?_)))));refine r [1] rfl fun _=>lo rfl rfl 0 rfl 47 (je (u.m l.q)) (fun i hi=>nG hq hi) (r [] rfl fun _=>l1 rfl (lp P) (fun w hS=>hS.now.1.2.1.1.2.at 0 (cK rfl)) (r [] rfl fun _=>lf rfl 6 (lF [iV l.op.k,iV l.op.p,iV l.op.i,iV l.op.b,iV l.op.he,iV l.op.hn]) (fun w hS j hj=>(hS.now.1.2.2.b.at (5+j) (by omega)).trans (Au some (pR rfl hj))) (r [] rfl fun _=> ?_)));refine cx rfl (fun y:Mg×An×Bool×Int=>vt [.g [.f 47 (je y.1)],.g (Qn y.2.1),.o (.bool y.2.2.1),.o (iV y.2.2.2)]) (fun y=>cR (u.m l.q).B l.op y.1.B y.2.1 y.2.2.1 y.2.2.2∧aS y.1.g 41) (fun y w=>nJ w y.1) (fun w hS=>(yl _ (u.m l.q).B (u.m l.q).a (u.m l.q).c (u.m l.q).g l.op w hS.ult (fun w2 c2=>(hS.g w2 c2).1.1.mo l.q hq) (hw.ok.ok l.q hq) WB).mono fun _ _ ⟨_,an,k,er,B8,h0,h1,⟨a8,c8,g8,hy,hm8⟩,b⟩=>⟨(⟨B8,a8,c8,g8⟩,an,k,er),by rw[h0,hy];rfl,b,⟨h1,hm8.now.one⟩,fun _=>hm8⟩) ?_;rintro⟨m8,an8,k8,er8⟩ ⟨Jt,o8⟩;have e8:=o_ Jt;refine r [1] rfl fun _=>so rfl rfl rfl 0 rfl (lU X {u with m:=au u.m l.q m8}) (fun i _=>(o4 hq i).trans (si (x:=m8) i)) (r [] rfl fun _=>l1 rfl (lp N) (fun w hS=>hS.now.1.1.2.1.1.1.1.at 0 (cK rfl)) (r [] rfl fun _=>l1 rfl (lp P) (fun w hS=>hS.now.1.1.2.1.1.2.at 0 (cK rfl)) (r [] rfl fun _=>lf rfl 4 (lF [iV an.c,iV an.he,iV an.no,iV an.bd]) (fun w hS j hj=>by rw[Ae];exact hS.now.1.1.2.1.2.at j (by omega)) (r [] rfl fun _=> ?_)))) (aag o8);exact cw rfl (vt []) _ _ (fun w1 hS=>uZ X v F _ w1 N ({u with m:=au u.m l.q m8}) P l a c an hq hS.now.2.wo hS.ult (fun b h=> .inr (.inl h)) (fun w2 c2=>(hS.we 0 rfl w2 (c2.mono fun b h=> .inl h)).2) (fun w2 c2=>(hS.g w2 c2).1.2.2) hlen iD) fun P1 F1=>r [] rfl fun _=>dh rfl fun w hS=>⟨rfl,{u with m:=au u.m l.q m8},_,F1,Dn.fin (u:=u) hS hw.ub hw.nu (fun _ h=>⟨h.1.1.1.1.put h.1.2,f_ h.1.1.1.2 h.2⟩) (hw.ok.put (yN Jt (hw.ok.ok l.q hq))) rfl rfl rfl rfl rfl (by rw[jN];simp only[eZ,e8]) (by rw[yM];simp only[eZ,iy,aaB,e8,az])⟩
theorem Ph(X N:Nat)(u:Nv)(v:Wv)(F U:tF)(w:tA)(hw:NW w X N u v F U)(m:Mg)(q:Nat)(hq:q<4)(okB:m.B.Ok)(hg:bV U w (fun w=>nJ w m))(hlen:v.fl.length≤1000000000000)(iD:v.sv.length≤1000000000000):cA 123 #[lp N,iV (q:Int),vF (je m) 47] w fun x w'=>x= .returned (.tuple #[])∧∃u' v' F',Dn w X N u v F U (({u.pure with mo:=au u.pure.mo q m.B},if m.B.r=1 then aaB v.pure {u.pure with mo:=au u.pure.mo q m.B} q Ev.brk Iz (-1)else yL {u.pure with mo:=au u.pure.mo q m.B} v.pure q)) u' v' F' w':=by
 have kY:=hg.now.one;refine en (H:=[nE X N u]) 25 [vp 0 0 N,vi q,vg (pD m.B m.a m.c m.g)] Tryz.func123 rfl rfl (hw.init hg) (r [1,1] rfl fun α=>so rfl rfl rfl 0 rfl (lU X {u with m:=au u.m q m}) (fun i _=>(o4 hq i).trans (si (x:=m) i)) ?_ (aag kY));by_cases s7:m.B.r=1
 ·refine r [1] rfl fun _=>cw (Y:=Unit) rfl (vt []) (fun _=>{v with sv:=v.sv++[⟨u.i,q,(au u.m q m q).B.e,Ev.brk,Iz,-1⟩]}) (fun _ _=>True) (fun w1 hS=>(uY X v F w1 N ({u with m:=au u.m q m}) q hq Ev.brk Iz (-1) hS.now.2.wo (fun w2 c2=>(hS.we 0 rfl w2 (c2.mono fun b h=> .inl h)).2) iD).mono fun _ _ ⟨h1,F',h2,h3⟩=>⟨h1,(),F',h2,h3,fun _ _=>trivial⟩) (fun _ F1=>r [] rfl fun _=>fin fun w hS=> ?_);exact⟨rfl,{u with m:=au u.m q m},_,F1,Dn.fin (u:=u) (hS.take 1) hw.ub hw.nu (fun _ h=>⟨h.1.1.1.put h.1.2,h.1.1.2⟩) (hw.ok.put okB) rfl rfl rfl rfl rfl (jN _ _ _) (by rw[if_pos s7];simp only[aaB,az])⟩
 ·refine r [0] rfl fun _=>cw rfl (vt []) _ _ (fun w1 hS=>FG X v F _ w1 N ({u with m:=au u.m q m}) q hq (show aS (au u.m q m q).g 41 by rw[az];exact kY) hS.now.2.wo hS.ult (fun b h=> .inr (.inl h)) (fun w2 c2=>(hS.we 0 rfl w2 (c2.mono fun b h=> .inl h)).2) hlen) fun P1 F1=>r [] rfl fun _=>dh rfl fun w hS=> ?_;exact⟨rfl,{u with m:=au u.m q m},_,F1,Dn.fin (u:=u) (hS.take 1) hw.ub hw.nu (fun _ h=>⟨h.1.1.1.put h.1.2,f_ h.1.1.2 h.2⟩) (hw.ok.put okB) rfl rfl rfl rfl rfl (jN _ _ _) (by rw[if_neg s7,kg];simp only[yL,az])⟩
theorem SN(X N:Nat)(u:Nv)(v:Wv)(F U:tF)(w:tA)(hw:NW w X N u v F U)(m:Mg)(P:Nat)(l:Lt)(a:tB)(c:Nat)(hq:l.q<4)(okB:m.B.Ok)(c0 c1 c2:Nat)(hg:bV U w (fun w=>((((aY w c0 109 1 (fun _=>lp N))∧aY w c1 171 1 (fun _=>lp P))∧aY w c2 117 47 (je m))∧nJ w m)∧eH w P l a c))(hlen:v.fl.length≤1000000000000)(iD:v.sv.length≤1000000000000):cA 122 #[lp c0,lp c1,lp c2] w fun x w'=>x= .returned (.tuple #[])∧∃u' v' F',Dn w X N u v F U (eZ u.pure v.pure (.take l m.B)) u' v' F' w':=by
 have hb:=hw.ub;refine en (H:=[]) 10 [vv (lp c0),vv (lp c1),vv (lp c2)] Tryz.func122 rfl rfl (oE hb hg) (r [1] rfl fun _=>l1 rfl (lp N) (fun w hS=>hS.now.1.1.1.1.1.at 0 (cK rfl)) (r [] rfl fun _=>l1 rfl (lp P) (fun w hS=>hS.now.1.1.1.1.2.at 0 (cK rfl)) (r [] rfl fun _=>l1 rfl (iV (l.q:Int)) (fun w hS=>hS.now.1.2.b.at 3 (cK rfl)) (r [] rfl fun _=>lf rfl 47 (je m) (fun w hS j hj=>by rw[Ae];exact hS.now.1.1.1.2.at j (by omega)) (r [] rfl fun _=> ?_)))));exact ct (Y:=Nv×Wv×(Nat→Prop)) rfl (vt []) (fun y w'=>Dn w X N u v F U (eZ u.pure v.pure (.take l m.B)) y.1 y.2.1 y.2.2 w') (fun w1 hS=>(Ph X N u v F U w1 (hw.next hS.now.2) m l.q hq okB (fun w2 c2=>(hg.next hS.now.2 w2 c2).1.2) hlen iD).mono fun _ _ ⟨h1,u',v',F',hd⟩=>⟨h1,(u',v',F'),hd.from hw.wo.lt hw.nb.lt hS.now.2⟩) (fun _ _ _ h b=>h.next b) fun y=>r [] rfl fun _=>dh rfl fun _ hS=>⟨rfl,y.1,y.2.1,y.2.2,hS.now.2⟩
structure MJ(w w':tA)(l:List Ev)(a:tB)(c:Nat):Prop where
 row:RowK .i64 w' a (6*l.length) (ai l)
 cap:l.length≤c
 nil:a=none→c=0
 up:∀x,a=some x→w.heap.size≤x.block
theorem Pj(B:Bt)(a:tB)(c:Nat)(hv:Int)(w:tA)(hb:jb w B a c):
  cA 207 #[bR B.r B.e B.f B.t B.o a B.es.length c,iV hv] w fun x w'=>∃a' c' n' l lt er,x= .returned (.tuple #[.slice a' n' c',.bool lt,iV er])∧n'=l.length∧partOf B hv=(l,lt,er)∧MJ w w' l a' c'∧bZ w w':=by
 refine en (H:=[]) _ [vg (bS B.r B.e B.f B.t B.o a B.es.length c),vi hv] Tryz.func207 rfl rfl (Hd hb) (r [] rfl fun _=>Rv.cb rfl (vi (dk B hv)) (fun w hS=>vG B a c hv w hS.now.1) ?_);unfold partOf;by_cases h0:dk B hv=0
 case neg=>exact r [1] rfl fun _=>fin fun w hS=>⟨none,0,0,[],false,_,rfl,rfl,if_pos h0,⟨RowK.nil _ _ _,Aa _,fun _=>rfl,fun _ h=>(by cases h)⟩,hS.now.2⟩
 rw[if_neg (AZ h0)];obtain⟨ok,hr,hv0,ND⟩:=DG h0;have hl:=ok.len;obtain⟨k,rfl⟩:∃k:Nat,hv=k:=⟨hv.toNat,by omega⟩;have hk:k≤B.es.length:=by omega
 obtain⟨m,hm⟩:∃m,m=min (k+3) B.es.length:=⟨_,rfl⟩;have wm:k≤m:=by omega
 have hml:m≤B.es.length:=by omega
 have aiJ:=hb.cap;have e3:(B.es.drop ((k:Int)).toNat).take 3=(B.es.drop k).take (m-k):=by
  rw[AO];by_cases h:k+3≤B.es.length
  ·rw[show m-k=3 by omega]
  ·rw[AJ (by rw[AM];omega),AJ (by rw[AM];omega)]
 have Dk:((B.es.drop k).take (m-k)).length=m-k:=by rw[AL,AM];omega
 have call:∀w1,bZ w w1→jb w1 B a c→cA 212 #[.slice none 0 0,.slice (gM a k 6 c) (m-k) (c-k)] w1 fun x w'=>∃y:Option Addr×Nat,x= .returned (vv (.slice y.1 (m-k) y.2)).val∧bZ w1 w'∧(wu w y∧(y.1=none→y.2=0)∧m-k≤y.2)∧∀{U:tF},(∀b,U b→b<w1.heap.size)→bV U w' fun w=>RowK .i64 w y.1 (6*(m-k)) (ai ((B.es.drop k).take (m-k))):=fun w1 h0 hb=>by
  have hrw:=Wb hb.row hb.nil k m wm hml hb.cap;refine(yd none (gM a k 6 c) 0 0 (m-k) (c-k) [] (ai ((B.es.drop k).take (m-k))) w1 (RowK.nil _ _ _) hrw.1 (fun _=>rfl) hrw.2 (by omega)).mono ?_;rintro _ w' ⟨a2,c2,rfl,hr2,jB,qV,hf2,b⟩;rw[Ae]at hr2 jB;exact⟨(a2,c2),by rw[Ae];rfl,b,⟨fun x hx=>AN h0.size (hf2 x hx),qV,jB⟩,fun hU=>bW hr2 hf2 hU⟩
 have er:∀b:Bool,decide (B.r=3∧B.es.length≤(k:Int).toNat+3)=b→((B.es.drop ((k:Int)).toNat).take 3,decide (B.r=3∧B.es.length≤(k:Int).toNat+3),(0:Int))=((B.es.drop k).take (m-k),b,0):=fun b h=>by rw[e3,h]
 have cs:(¬B.r=3∧decide (B.r=3∧B.es.length≤(k:Int).toNat+3)=false)∨((B.r=3∧m=B.es.length)∧decide (B.r=3∧B.es.length≤(k:Int).toNat+3)=true)∨((B.r=3∧¬m=B.es.length)∧decide (B.r=3∧B.es.length≤(k:Int).toNat+3)=false):=by
  by_cases h3:B.r=3
  ·by_cases SO:m=B.es.length
   ·exact .inr (.inl ⟨⟨h3,SO⟩,Aq (by omega)⟩)
   ·exact .inr (.inr ⟨⟨h3,SO⟩,Ai (by omega)⟩)
  ·exact .inl ⟨h3,Ai fun h=>h3 h.1⟩
 rcases cs with⟨h3,hd⟩|⟨⟨h3,SO⟩,hd⟩|⟨⟨h3,SO⟩,hd⟩
 case' inl=>refine rz [0,1,2,4,0] [((k+3:Nat):Int),(m:Int)] rfl fun _=> ?_
 case' inr.inl=>refine rz [0,1,2,4,1] [((k+3:Nat):Int),(m:Int)] rfl fun _=> ?_
 case' inr.inr=>refine rz [0,1,2,4,1] [((k+3:Nat):Int),(m:Int)] rfl fun _=> ?_
 all_goals
  refine cx rfl (fun y:Option Addr×Nat=>vv (.slice y.1 (m-k) y.2)) (fun y=>wu w y∧(y.1=none→y.2=0)∧m-k≤y.2) (fun y w=>RowK .i64 w y.1 (6*(m-k)) (ai ((B.es.drop k).take (m-k)))) (fun w1 hS=>(call w1 hS.now.2 hS.now.1).mono fun _ _ ⟨y,k1,k2,k3,k4⟩=>⟨y,k1,k2,k3,k4⟩) fun y hy=> ?_;have f9:∀{w2:tA} {M:tF} {Φ:tJ} {H:List En},Mem w2 (hs H) M (fun w=>Φ w∧RowK .i64 w y.1 (6*(m-k)) (ai ((B.es.drop k).take (m-k)))) (fun w'=>bZ w w')→MJ w w2 ((B.es.drop k).take (m-k)) y.1 y.2:=fun hS=>⟨by rw[Dk];exact hS.now.1.2,by rw[Dk];exact hy.2.2,hy.2.1,hy.1⟩
  first|exact r [] rfl fun _=>fin fun w hS=>⟨_,_,m-k,_,_,0,rfl,Dk.symm,er _ hd,f9 hS,hS.now.2⟩|exact r [1] rfl fun _=>fin fun w hS=>⟨_,_,m-k,_,_,0,rfl,Dk.symm,er _ hd,f9 hS,hS.now.2⟩|exact r [0] rfl fun _=>fin fun w hS=>⟨_,_,m-k,_,_,0,rfl,Dk.symm,er _ hd,f9 hS,hS.now.2⟩
theorem SP:∀(es:List Ev) (k:Nat),ai (es.take k)=(ai es).take (6*k)
 |[],k=>by simp[ai]
 |e::es,0=>by simp[ai]
 |e::es,k+1=>by
  have:=SP es k;simp only[ai,List.take_succ_cons,List.flatMap_cons]at this⊢;rw[this,List.take_append,show(aX e).length=6 from rfl,AJ (show(aX e).length≤6*(k+1) by show 6≤_;omega),show 6*(k+1)-6=6*k by omega]
theorem aaO{w:tA}{a:tB}{c k m:Nat}{es:List Ev}(h:RowK .i64 w a (6*es.length) (ai es))(hk:k+m≤es.length)(hc:es.length≤c):RowK .i64 w (gM a k 6 c) (6*m) (ai ((es.drop k).take m)):=by
 have e:ai ((es.drop k).take m)=((ai es).drop (6*k)).take (6*m):=by rw[SP,pZ]
 have hl:=h.cy;rw[e];refine⟨by rw[AL,AM,hl];omega,fun u hu=>h.wf u (Bj (AK hu)),fun i hi=> ?_⟩;obtain⟨b,off,e1,hb,hc'⟩:=h.cell (6*k+i) (by omega);refine⟨b,off+k*6, ?_,hb, ?_⟩
 ·unfold gM;rw[if_neg (by omega),e1];simp[Addr.add_mid]
 ·rw[show off+k*6+i=off+(6*k+i) by omega,hc'];simp[List.getD_eq_getElem?_getD,List.getElem?_drop,hi]
theorem SQ{B:Bt}{hv:Int}(h:dk B hv=0):∃k:Nat,hv=k∧k≤B.es.length:=by
 unfold dk at h;split at h
 ·cases h
 ·split at h
  ·cases h
  ·split at h
   ·cases h
   ·rename_i h3;exact⟨hv.toNat,by omega,by omega⟩
theorem Pk{B:Bt}{hv:Int}{l:List Ev}{lt:Bool}{er:Int}(h:partOf B hv=(l,lt,er)):dk B hv=er:=by
 unfold partOf at h;split at h
 ·cases h;rfl
 ·rename_i h0;cases h;exact Bk.1 h0
theorem Pm(B:Bt)(a:tB)(c:Nat)(hv:Int)(w:tA)(hb:jb w B a c):cA 207 #[bR B.r B.e B.f B.t B.o a (min 1 B.es.length) c,iV hv] w fun x w'=>∃a' c' n' lt er,x= .returned (.tuple #[.slice a' n' c',.bool lt,iV er])∧dk B.short hv=er∧bZ w w':=by
 have e:min 1 B.es.length=B.short.es.length:=by simp[Bt.short]
 rw[e];refine(Pj B.short a c hv w (uK hb)).mono ?_;rintro _ w' ⟨a',c',n',l,lt,er,rfl,_,hp,_,b⟩;exact⟨a',c',n',lt,er,rfl,Pk hp,b⟩
theorem WC{B:Bt}{hv er:Int}(h:dk B hv=er)(h0:¬er=0):partOf B hv=([],false,er):=by
 unfold partOf;rw[h,if_pos h0]
theorem FH{B:Bt}{k e:Nat}{lt:Bool}(h:dk B (k:Int)=0)(he:min 3 (B.es.length-k)=e-k)(hl:decide (B.r=3∧B.es.length≤k+3)=lt):partOf B (k:Int)=((B.es.drop k).take (e-k),lt,0):=by
 unfold partOf;rw[h,if_neg (fun h=>h rfl),AO,hl,←he];congr 1;by_cases h3:3≤B.es.length-k
 ·rw[BA h3]
 ·rw[Nat.min_eq_right (by omega),AJ (by rw[AM];omega),AJ (by rw[AM];omega)]
theorem Pn(U:tF)(B:Bt)(a:tB)(c:Nat)(q:tD)(hv:Int)(w:tA)(hU:∀b,U b→b<w.heap.size)(hm:bV U w fun w=>jT w B a c q)(ok:B.Ok):cA 168 #[yh B a c q,iV hv] w fun x w'=>∃a' c' n' l lt er,x= .returned (.tuple #[.slice a' n' c',.bool lt,iV er])∧n'=l.length∧partOf B hv=(l,lt,er)∧bV U w' (fun w=>RowK .i64 w a' (6*n') (ai l))∧n'≤c'∧(a'=none→c'=0)∧bZ w w':=by
 have oq:=hm.now.one;have hc:=hm.now.b.cap;refine en (H:=[]) _ [vg (pD B a c q),vi hv] Tryz.func168 rfl rfl (oE hU hm) (r [] rfl fun _=>Rv.cb rfl (vt [.g (bS B.r B.e B.f B.t B.o a (min 1 B.es.length) c),.o (iV (kQ hv B.es.length))]) (fun w _=>vI B.r B.e B.f B.t B.o a B.es.length c q hv w hc) (r [] rfl fun _=> ?_));refine cq rfl (fun y:Option Addr×Nat×Nat×Bool×Int=>vt [.o (.slice y.1 y.2.1 y.2.2.1),.o (.bool y.2.2.2.1),.o (iV y.2.2.2.2)]) (fun y=>dk B hv=y.2.2.2.2) (fun w hS=>(Pm B a c (kQ hv B.es.length) w hS.now.1.b).mono fun _ w3 ⟨a1,c1,n1,lt1,er,h0,h1,b⟩=>⟨(a1,n1,c1,lt1,er),h0,b,by rw[yi ok]at h1;exact h1⟩) ?_;rintro⟨a1,n1,c1,lt1,er⟩ h1;have h1:dk B hv=er:=h1;by_cases h0:er=0
 case neg=>exact r [1] rfl fun _=>fin fun w hS=>⟨none,0,0,[],false,er,rfl,rfl,WC h1 h0,fun _ _=>RowK.nil _ _ _,Aa _,fun _=>rfl,hS.now.2⟩
 subst h0;obtain⟨k,rfl,hk⟩:=SQ h1;have hlen:=ok.len;obtain⟨e,he⟩:∃e,e=k+min 3 (B.es.length-k):=⟨_,rfl⟩;have el:((B.es.drop k).take (e-k)).length=e-k:=by rw[AL,AM];omega
 have cs:(¬B.r=3∧decide (B.r=3∧B.es.length≤k+3)=false)∨((B.r=3∧e=B.es.length)∧decide (B.r=3∧B.es.length≤k+3)=true)∨((B.r=3∧¬e=B.es.length)∧decide (B.r=3∧B.es.length≤k+3)=false):=by
  by_cases h3:B.r=3
  ·by_cases SO:e=B.es.length
   ·exact .inr (.inl ⟨⟨h3,SO⟩,Aq (by omega)⟩)
   ·exact .inr (.inr ⟨⟨h3,SO⟩,Ai (by omega)⟩)
  ·exact .inl ⟨h3,Ai fun h=>h3 h.1⟩
 rcases cs with⟨h3,hd⟩|⟨⟨h3,SO⟩,hd⟩|⟨⟨h3,SO⟩,hd⟩
 case' inl=>refine rz [0,1,2,4,0] [((k+3:Nat):Int),(e:Int)] rfl fun _=> ?_
 case' inr.inl=>refine rz [0,1,2,4,1] [((k+3:Nat):Int),(e:Int)] rfl fun _=> ?_
 case' inr.inr=>refine rz [0,1,2,4,1] [((k+3:Nat):Int),(e:Int)] rfl fun _=> ?_
 all_goals
  refine cx rfl (fun y:Option Addr×Nat=>vv (.slice y.1 (e-k) y.2)) (fun y=>e-k≤y.2∧(y.1=none→y.2=0)) (fun y w=>RowK .i64 w y.1 (6*(e-k)) (ai ((B.es.drop k).take (e-k)))) (fun w hS=>(DB (gM a k 6 c) (e-k) (c-k) (ai ((B.es.drop k).take (e-k))) w (aaO hS.now.1.b.row (by omega) hc) (fun h=>by rw[hS.now.1.b.nil (uX h)];omega) (by omega)).mono ?_) fun y hy=> ?_
  ·rintro _ w5 ⟨_,rfl,⟨⟨a8,c8,rfl,r8,Gk,SA,hf8⟩⟩,b⟩;exact⟨(a8,c8),rfl,b,⟨Gk,SA⟩,fun hl=>bW r8 hf8 hl⟩
  first|exact r [] rfl fun _=>fin fun w hS=>⟨y.1,y.2,e-k,(B.es.drop k).take (e-k),_,0,rfl,el.symm,FH h1 (by omega) hd,fun w2 c2=>(hS.ES w2 c2).2,hy.1,hy.2,hS.now.2⟩|exact r [1] rfl fun _=>fin fun w hS=>⟨y.1,y.2,e-k,(B.es.drop k).take (e-k),_,0,rfl,el.symm,FH h1 (by omega) hd,fun w2 c2=>(hS.ES w2 c2).2,hy.1,hy.2,hS.now.2⟩|exact r [0] rfl fun _=>fin fun w hS=>⟨y.1,y.2,e-k,(B.es.drop k).take (e-k),_,0,rfl,el.symm,FH h1 (by omega) hd,fun w2 c2=>(hS.ES w2 c2).2,hy.1,hy.2,hS.now.2⟩
theorem WD(X N:Nat)(u:Nv)(v:Wv)(F U:tF)(w:tA)(hw:NW w X N u v F U)(q:Nat)(hq:q<4)(hv:Int)(hlen:v.fl.length≤1000000000000)(iD:v.sv.length≤1000000000000):cA 119 #[lp N,iV (q:Int),iV hv] w fun x w'=>x= .returned (.tuple #[])∧∃u' v' F',Dn w X N u v F U ((u.pure,aaA u.pure v.pure q hv)) u' v' F' w':=by
 have kY:=(hw.st.now.1.mo q hq).one;have gI:=jK (hw.ok.ok q hq).cO;refine en (H:=[nE X N u]) 47 [vp 0 0 N,vi q,vi hv] Tryz.func119 rfl rfl (hw.init (G:=fun _=>True) fun _ _=>trivial) (r [1] rfl fun _=>lo rfl rfl 0 rfl 47 (je (u.m q)) (fun i hi=>nG hq hi) (sv 16 (vg (pD (u.m q).B (u.m q).a (u.m q).c (u.m q).g)) rfl (r [] rfl fun α=> ?_)));refine cx rfl (fun y:List Ev×Option Addr×Nat×Bool×Int=>vt [.o (.slice y.2.1 y.1.length y.2.2.1),.o (.bool y.2.2.2.1),.o (iV y.2.2.2.2)]) (fun y=>partOf (u.m q).B hv=(y.1,y.2.2.2.1,y.2.2.2.2)∧y.1.length≤y.2.2.1∧(y.2.1=none→y.2.2.1=0)) (fun y w=>RowK .i64 w y.2.1 (6*y.1.length) (ai y.1)) (fun w hS=>(Pn _ (u.m q).B (u.m q).a (u.m q).c (u.m q).g hv w hS.ult (fun w2 c2=>(hS.g w2 c2).1.1.mo q hq) (hw.ok.ok q hq)).mono fun _ _ ⟨a8,c8,n8,es8,lt8,er8,h0,h1,hp8,hr8,Gk,SA,b⟩=>by subst h1;exact⟨(es8,a8,c8,lt8,er8),h0,b,⟨hp8,Gk,SA⟩,fun _=>hr8⟩) ?_;rintro⟨es8,a8,c8,lt8,er8⟩ ⟨hp8,Gk,SA⟩;have hp8:partOf (u.m q).B hv=(es8,lt8,er8):=hp8;by_cases h0:er8=0
 ·subst h0;refine rz [1,1,1] [(u.m q).B.e+1] rfl fun _=>cw rfl (vt []) _ _ (fun w hS=>qI X v F _ w (MG u.i (u.m q).B q hv es8 lt8) a8 c8 (lF (ME (MG u.i (u.m q).B q hv es8 lt8) a8 c8)) rfl hS.now.2.wo hS.ult (fun b h=> .inr (.inl h)) (fun w2 c2=>(hS.g w2 c2).2) Gk SA hlen) fun P1 F1=>r [] rfl fun _=>dh rfl fun w hS=> ?_;exact⟨rfl,u,_,F1,Dn.fin (u:=u) (hS.take 1) hw.ub hw.nu (fun _ h=>⟨h.1.1.1.1,f_ h.1.1.1.2 h.2⟩) hw.ok rfl rfl rfl rfl rfl rfl (by rw[kg];simp only[aaA,hp8,if_pos])⟩
 ·refine r [0] rfl fun _=>dh rfl fun w hS=> ?_;exact⟨rfl,u,v,F,Dn.fin (u:=u) (hS.take 1) hw.ub hw.nu (fun _ h=>⟨h.1.1.1,h.1.1.2⟩) hw.ok rfl rfl rfl rfl rfl rfl (by simp only[aaA,hp8,if_neg h0])⟩
theorem D7(X N:Nat)(u:Nv)(v:Wv)(F U:tF)(w:tA)(hw:NW w X N u v F U)(m:Mg)(P:Nat)(l:Lt)(a:tB)(c:Nat)(hq:l.q<4)(okB:m.B.Ok)(c0 c1 c2:Nat)(hg:bV U w (fun w=>((((aY w c0 117 47 (je m))∧aY w c1 109 1 (fun _=>lp N))∧aY w c2 171 1 (fun _=>lp P))∧nJ w m)∧eH w P l a c))(hlen:v.fl.length≤1000000000000)(iD:v.sv.length≤1000000000000):cA 118 #[lp c0,lp c1,lp c2] w fun x w'=>x= .returned (.tuple #[])∧∃u' v' F',Dn w X N u v F U (eZ u.pure v.pure (.shut l m.B)) u' v' F' w':=by
 have kY:=hg.now.1.2.one;refine en (H:=[nE X N u]) 23 [vv (lp c0),vv (lp c1),vv (lp c2)] Tryz.func118 rfl rfl (hw.init hg) (r [1] rfl fun _=>l1 rfl (lp N) (fun w hS=>hS.now.1.2.1.1.1.2.at 0 (cK rfl)) (sv 3 (vp 0 0 N) rfl (r [] rfl fun _=>l1 rfl (lp P) (fun w hS=>hS.now.1.2.1.1.2.at 0 (cK rfl)) (r [] rfl fun _=>l1 rfl (iV (l.q:Int)) (fun w hS=>hS.now.1.2.2.b.at 3 (cK rfl)) (r [] rfl fun _=>lf rfl 47 (je m) (fun w hS j hj=>by rw[Ae];exact hS.now.1.2.1.1.1.1.at j (by omega)) (r [1] rfl fun _=>so rfl rfl rfl 0 rfl (lU X {u with m:=au u.m l.q m}) (fun i _=>(o4 hq i).trans (si (x:=m) i)) ?_ (aag kY)))))));refine r [1] rfl fun _=>l1 rfl (lp N) (fun w hS=>hS.now.1.2.1.1.1.2.at 0 (cK rfl)) (r [] rfl fun _=>l1 rfl (lp P) (fun w hS=>hS.now.1.2.1.1.2.at 0 (cK rfl)) (r [] rfl fun _=>l1 rfl (iV (l.q:Int)) (fun w hS=>hS.now.1.2.2.b.at 3 (cK rfl)) (r [] rfl fun _=>l1 rfl (lp P) (fun w hS=>hS.now.1.2.1.1.2.at 0 (cK rfl)) (r [] rfl fun _=>l1 rfl (iV l.pl) (fun w hS=>hS.now.1.2.2.b.at 18 (cK rfl)) (r [] rfl fun _=> ?_)))));refine ct (Y:=Nv×Wv×(Nat→Prop)) rfl (vt []) (fun y w'=>Dn w X N u v F U (eZ u.pure v.pure (.shut l m.B)) y.1 y.2.1 y.2.2 w') (fun w1 hS=> ?_) (fun _ _ _ h b=>h.next b) fun y=>r [] rfl fun _=>dh rfl fun _ hS=>⟨rfl,y.1,y.2.1,y.2.2,hS.now.2⟩;have KJ:=Dn.fin (r:=(_,v.pure)) (u:=u) (v:=v) (v':=v) (u':={u with m:=au u.m l.q m}) (F:=F) (F':=F) hS hw.ub hw.nu (fun _ h=>⟨h.1.1.put h.2.1.2,h.1.2⟩) (hw.ok.put okB) rfl rfl rfl rfl rfl (jN _ _ _) rfl;exact(WD X N ({u with m:=au u.m l.q m}) v F _ _ KJ.nw l.q hq l.pl hlen iD).mono fun _ _ ⟨h1,u2,v2,F2,Cy⟩=>⟨h1,(u2,v2,F2),(KJ.trans Cy).to (jN _ _ _) (Au (fun n=>aaA n v.pure l.q l.pl) (jN _ _ _))⟩
end
theorem aaP{k:Int}{q:Nat}{ep pe:Int}(hk:1≤k∧k≤7)(MH:¬(k=2∨k=5))(hq:q<4)(he:0≤ep∧ep≤1048576)(hp:0≤pe∧pe≤4):(⟨k,q,ep,pe,lT⟩:Rec).fault=0:=by
 show aE k q ep pe 0 0 0 0 0 0=0;unfold aE;rw[if_neg (fun h=>h hk),if_neg (fun h=>h ⟨by omega,by omega,he.1,he.2,hp.1,hp.2⟩),if_neg MH];rfl
theorem SR{k:Int}{q:Nat}{ep:Int}{e:Ev}(hk:k=2∨k=5)(hq:q<4)(he:0≤ep∧ep≤1048576)(hv:e.Ok):(⟨k,q,ep,0,e⟩:Rec).fault=0:=by
 show aE k q ep 0 e.k e.p e.i e.b e.he e.hn=0;unfold aE;rw[if_neg (fun h=>h (by omega)),if_neg (fun h=>h ⟨by omega,by omega,he.1,he.2,by omega,by omega⟩),if_pos hk];exact hv
theorem YC{v:Ev}(h:v.Ok):∀x∈aX v,(Lit.int .i64 x).wf=true:=by
 unfold Ev.Ok aP at h;intro x hx;simp only[aX,List.mem_cons,List.not_mem_nil,or_false]at hx;refine KK ?_ ?_<;>(rcases hx with rfl|rfl|rfl|rfl|rfl|rfl<;>(split at h<;>(try split at h)<;>(try split at h)<;>(try split at h)<;>omega))
theorem pf{k:Int}{q:Nat}{ep pe:Int}{e:Ev}(hk:1≤k∧k≤7)(hq:q<4)(he:0≤ep∧ep≤1048576)(hp:0≤pe∧pe≤4)(hv:∀x∈aX e,(Lit.int .i64 x).wf=true):∀x∈aZ ⟨k,q,ep,pe,e⟩,(Lit.int .i64 x).wf=true:=by
 intro x hx;simp only[aZ,List.mem_cons,List.not_mem_nil,or_false]at hx;rcases hx with rfl|rfl|rfl|rfl|hx
 ·exact KK (by omega) (by omega)
 ·exact KK (by omega) (by omega)
 ·exact KK (by omega) (by omega)
 ·exact KK (by omega) (by omega)
 ·exact hv x (by simp only[aX,List.mem_cons,List.not_mem_nil,or_false];exact hx)
theorem qd:∀x∈aX lT,(Lit.int .i64 x).wf=true:=by decide
section
variable(X N:Nat)(u:Nv)(v:Wv)(F U:tF)(w:tA)
abbrev Nv.synced(u:Nv)(a:tB)(c:Nat):Nv:={u with da:=a,dc:=c,sy:=u.dl.length,af:= .nilFunc,ax:=none}
theorem qe(hw:NW w X N u v F U)(g:Nat)(cl:tM)(OY:u.af= .func (.func g) #[] cl.toArray)(hen:Rv.iO Tryz.prog g=true)(r:Nd×Ws)(hA:∀a c w1,NW w1 X N (u.synced a c) v F U→dm (fun b=>b=N) w w1→cA g cl.toArray w1 fun x w'=>x= .returned (.tuple #[])∧∃u' v' F',Dn w1 X N (u.synced a c) v F U r u' v' F' w'):
  cA 80 #[lp N] w fun x w'=>x= .returned (.tuple #[])∧∃u' v' F',Dn w X N u v F U r u' v' F' w':=by
 have hUN:∀b,(b=N∨(U b∧b≠N))→U b:=fun b hb=>hb.elim (fun e=>e▸hw.nu) fun h=>h.1;have Gj:∀b,U b→(b=N∨(U b∧b≠N)):=fun b hb=>by
  by_cases e:b=N
  ·exact .inl e
  ·exact .inr ⟨hb,e⟩
 have fb:=hw.nb;unfold NB lU at fb;rw[OY]at fb;refine uV X N u.i u.da u.dl.length u.dc u.dl u.sy (fun p=>je (u.m p)) u.hn u.he u.wt u.tu u.ct u.ub u.sk g cl w fb (fun b=>U b∧b≠N) (fun b hb=>hw.ub b hb.1) (fun h=>h.2 rfl) (fun w2 c2=>(hw.st w2 (c2.mono hUN)).1.row) hw.ok.nil hw.ok.cap hw.ok.len hw.ok.s0 hw.ok.s1 hen (fun w'=>∃u' v' F',Dn w X N u v F U r u' v' F' w') (fun _ _ ⟨u',v',F',h⟩ b=>⟨u',v',F',h.next b⟩) fun a c w1 f1 r1 h1 h2 h3 c1=> ?_;have cU:dm U w w1:=c1.mono fun b hb=>hb▸hw.nu;have nw1:NW w1 X N (u.synced a c) v F U:=by
  refine⟨f1,hw.wo.EI c1 fun b hb=>hb▸hw.nf,hw.nf,fun b hb=>Aj (hw.ub b hb) c1.size,hw.fu,hw.nu,⟨hw.ok.ok,h2,h1,h3,hw.ok.len,by show(0:Int)≤(u.dl.length:Int);omega,Bq _,hw.ok.i5,trivial⟩,fun w2 c2=> ?_⟩;have ox:=hw.st w2 (cU.trans c2 fun _ _ h=>h);exact⟨⟨r1 w2 (c2.mono Gj),ox.1.mo,rfl,ox.1.wl⟩,ox.2⟩
 refine(hA a c w1 nw1 c1).mono ?_;rintro x w' ⟨rfl,u',v',F',hd⟩;have mv1:Mv (fun b=>F b∨b=N) w (fun b=>F b∨b=N) w1:=⟨c1.mono fun b hb=> .inr hb,fun b hb=> .inl hb,fun b hb=>hb.elim (fun h=>Aj (hw.ub b (hw.fu b h)) c1.size) fun e=>e▸nw1.nb.lt⟩;exact⟨rfl,u',v',F',hd.nw,mv1.trans hd.mv,hd.wt,hd.wl,hd.nd,hd.tk,hd.dd,hd.n,hd.s⟩
end
theorem WG(X N:Nat)(u:Nv)(v:Wv)(F U:tF)(w:tA)(hw:NW w X N u v F U)(x:Af)(hx:u.ax=some x)(hlen:v.fl.length≤1000000000000)(iD:v.sv.length≤1000000000000):cA 80 #[lp N] w fun y w'=>y= .returned (.tuple #[])∧∃u' v' F',Dn w X N u v F U (eZ {u.pure with sy:=u.dl.length,af:=none} v.pure x) u' v' F' w':=by
 have gI:bV U w fun w=>Z_ w N u.af u.ad (some x):=fun w2 c2=>hx▸(hw.st w2 c2).1.af;have eC:acD (some x):=hx▸hw.ok.SJ;cases x with
 |serve l an=>
  refine qe X N u v F U w hw 112 [lp u.ad.c0,lp u.ad.c1,lp u.ad.c2,lp u.ad.c3] gI.now.1 (by kernel_rfl) _ fun a c w1 iX c1=> ?_;exact Pg X N (u.synced a c) v F U w1 iX u.ad.p l u.ad.a u.ad.c an eC.1 eC.2 _ _ _ _ (fun w2 c2=>by obtain⟨_,h0,h1,h2,h3,hl⟩:=gI w2 ((c1.mono fun b hb=>hb▸hw.nu).trans c2 fun _ _ h=>h);exact⟨⟨⟨⟨h0,h1⟩,h2⟩,h3⟩,hl⟩) hlen iD
 |begin l B=>
  obtain rfl:u.ad.m.B=B:=gI.now.2.2.2.2.2.2;refine qe X N u v F U w hw 116 [lp u.ad.c0,lp u.ad.c1,lp u.ad.c2] gI.now.1 (by kernel_rfl) _ fun a c w1 iX c1=> ?_;exact Pf X N (u.synced a c) v F U w1 iX u.ad.m u.ad.p l u.ad.a u.ad.c eC.1 eC.2 _ _ _ (fun w2 c2=>by obtain⟨_,h0,h1,h2,hl,hm,_⟩:=gI w2 ((c1.mono fun b hb=>hb▸hw.nu).trans c2 fun _ _ h=>h);exact⟨⟨⟨⟨h0,h1⟩,h2⟩,hm⟩,hl⟩) hlen iD
 |shut l B=>
  obtain rfl:u.ad.m.B=B:=gI.now.2.2.2.2.2.2;refine qe X N u v F U w hw 118 [lp u.ad.c0,lp u.ad.c1,lp u.ad.c2] gI.now.1 (by kernel_rfl) _ fun a c w1 iX c1=> ?_;exact D7 X N (u.synced a c) v F U w1 iX u.ad.m u.ad.p l u.ad.a u.ad.c eC.1 eC.2 _ _ _ (fun w2 c2=>by obtain⟨_,h0,h1,h2,hl,hm,_⟩:=gI w2 ((c1.mono fun b hb=>hb▸hw.nu).trans c2 fun _ _ h=>h);exact⟨⟨⟨⟨h0,h1⟩,h2⟩,hm⟩,hl⟩) hlen iD
 |take l B=>
  obtain rfl:u.ad.m.B=B:=gI.now.2.2.2.2.2.2;refine qe X N u v F U w hw 122 [lp u.ad.c0,lp u.ad.c1,lp u.ad.c2] gI.now.1 (by kernel_rfl) _ fun a c w1 iX c1=> ?_;exact SN X N (u.synced a c) v F U w1 iX u.ad.m u.ad.p l u.ad.a u.ad.c eC.1 eC.2 _ _ _ (fun w2 c2=>by obtain⟨_,h2,h0,h1,hl,hm,_⟩:=gI w2 ((c1.mono fun b hb=>hb▸hw.nu).trans c2 fun _ _ h=>h);exact⟨⟨⟨⟨h0,h1⟩,h2⟩,hm⟩,hl⟩) hlen iD
 |kG q B=>
  obtain rfl:u.ad.m.B=B:=gI.now.2.2.2.2.2;refine qe X N u v F U w hw 125 [lp u.ad.c0,lp u.ad.c1,lp u.ad.c2] gI.now.1 (by kernel_rfl) _ fun a c w1 iX c1=> ?_;exact Pe X N (u.synced a c) v F U w1 iX u.ad.m q eC.1 eC.2 _ _ _ (fun w2 c2=>by obtain⟨_,h0,h1,h2,hm,_⟩:=gI w2 ((c1.mono fun b hb=>hb▸hw.nu).trans c2 fun _ _ h=>h);exact⟨⟨⟨h0,h1⟩,h2⟩,hm⟩)
section
open Rv
theorem WH{hd tl:tM}{mo:tT}{hn he:tH}{wt af:tK}{tu a b:Int}{q:Nat}(hq:q<4)(i:Nat):gf (kF hd (gh mo hn he wt af tu) tl) (193+q*2) 2 (lF [iV a,iV b]) i=kF hd (gh mo (au hn q a) (au he q b) wt af tu) tl i:=by
 unfold gf;by_cases hc:193+q*2≤i∧i<193+q*2+2
 ·rw[if_pos hc];obtain rfl|rfl:i=193+q*2∨i=193+q*2+1:=by omega
  ·rw[YB hq,az,Nat.sub_self];rfl
  ·rw[MF hq,az,show 193+q*2+1-(193+q*2)=1 by omega];rfl
 ·rw[if_neg hc];unfold kF;by_cases h5:i<5
  ·rw[if_pos h5,if_pos h5]
  ·rw[if_neg h5,if_neg h5];by_cases h6:i<204
   ·rw[if_pos h6,if_pos h6];unfold gh;by_cases h7:i-5<188
    ·rw[if_pos h7,if_pos h7]
    ·rw[if_neg h7,if_neg h7];by_cases h8:i-5<196
     ·rw[if_pos h8,if_pos h8];have fM:¬(i-5-188)/2=q:=by omega
      simp only[au,if_neg fM]
     ·rw[if_neg h8,if_neg h8]
   ·rw[if_neg h6,if_neg h6]
theorem Po{B B':Bt}{ep:Int}(h:bG B ep=(B',0)):B'.e=B.e∧B.r=3:=by
 unfold bG at h;split at h
 ·cases h
 ·split at h
  ·cases h
  ·rename_i hr;split at h
   ·cases h
   ·cases h;exact⟨rfl,Bk.1 hr⟩
theorem Pp{B B':Bt}{ep er:Int}(h:bG B ep=(B',er)):B'.Ok:=by
 unfold bG at h;split at h
 ·cases h;exact Bt.cI
 ·rename_i eC;split at h
  ·cases h;exact Bt.cI
  ·split at h
   ·cases h;exact Bt.cI
   ·cases h;have:=jK (Bk.1 eC).cO;exact⟨.inl ⟨rfl,rfl,this.1,this.2,rfl,rfl,rfl⟩,Ak _,St.zero,[],.nil⟩
section
variable{u ub u':Nv}{v:Wv}{l:Lt}{B8:Bt}{er:Int}
theorem SS(h:u.he l.q<l.pe):({u with hn:=au u.hn l.q l.pn,he:=au u.he l.q l.pe}:Nv).pure=eJ u.pure l:=by
 unfold eJ;rw[if_pos h]
theorem SU(h:¬u.he l.q<l.pe):u.pure=eJ u.pure l:=by
 unfold eJ;rw[if_neg h]
theorem FI(n:Nd)(s:Ws)(l:Lt):s=(jM n s l).2:=by
 unfold jM;split<;>rfl
theorem abI(hb:ub.pure=eJ u.pure l)(h:bG (u.m l.q).B l.pe=(B8,er))(h0:¬er=0):ub.pure=(jM u.pure v.pure l).1:=by
 unfold jM;rw[h,if_neg h0,hb]
theorem KN(hb:ub.pure=eJ u.pure l)(h:bG (u.m l.q).B l.pe=(B8,0))(hf:100000<u.dl.length+(bI [⟨7,l.q,B8.e,0,lT⟩]).length):ub.pure=(jM u.pure v.pure l).1:=by
 unfold jM pA;have e:(eJ u.pure l).dl=u.dl:=by unfold eJ;split<;>rfl
 rw[h,if_pos rfl,e,if_neg (BE.2 hf),hb];rfl
theorem Pr(hb:ub.pure=eJ u.pure l)(h:bG (u.m l.q).B l.pe=(B8,0))(hf:u.dl.length+(bI [⟨7,l.q,B8.e,0,lT⟩]).length≤100000):{ub.pure with dl:=u.dl++bI [⟨7,l.q,B8.e,0,lT⟩],af:=some (.kG l.q B8)}=(jM u.pure v.pure l).1:=by
 unfold jM pA;have e:(eJ u.pure l).dl=u.dl:=by unfold eJ;split<;>rfl
 rw[h,if_pos rfl,e,if_pos hf,hb];rfl
end
theorem SX(X N:Nat)(u:Nv)(v:Wv)(F U:tF)(w:tA)(hw:NW w X N u v F U)(P:Nat)(l:Lt)(a:tB)(c:Nat)(hq:l.q<4)(hl:bV U w fun w=>eH w P l a c):cA 71 #[lp N,lp P] w fun x w'=>x= .returned (.tuple #[])∧∃u' v' F',Dn w X N u v F U (jM u.pure v.pure l) u' v' F' w':=by
 have ho:aS (je (u.m l.q)) 47:=aag (hw.st.now.1.mo l.q hq).one;have gI:=jK (hw.ok.ok l.q hq).cO;refine en (H:=[⟨N,126,[.f 206 (lU X u)]⟩]) 62 [vp 0 0 N,vv (lp P)] Tryz.func71 rfl rfl (hw.init (G:=fun w=>eH w P l a c) hl) ?_;refine r [] rfl fun α=>l1 rfl (iV (l.q:Int)) (fun w hS=>hS.now.1.2.b.at 3 (cK rfl)) ?_;refine r [] rfl fun β=> ?_;let u1:(Nat→Int)×(Nat→Int)→Nv:=fun x=>{u with hn:=x.1,he:=x.2};refine aeK 2 (X:=(Nat→Int)×(Nat→Int)) (fun _=>[(1,vv (lp P)),(2,vp 1 0 (α 0)),(4,vp 2 0 (β 0))]) (fun x=>[⟨N,126,[.f 206 (lU X (u1 x))]⟩,⟨α 0,109,[.p 0 0 N]⟩,⟨β 0,3,[.o (iV (l.q:Int))]⟩]) (fun _ b=>F b∨(U b∧b≠N)) (fun _ w=>(u.In w N∧∀r∈v.fl,nI w r)∧eH w P l a c) (fun _=>RW X (fun b=>b∈[N]) F w v F) (fun x=>(u1 x).pure=eJ u.pure l) ?_ ?_
 case refine_2=>
  refine r [3] rfl fun _=>l1 rfl (iV l.pe) (fun w hS=>hS.now.1.2.b.at 16 (cK rfl)) (r [1] rfl fun _=>lo1 rfl rfl 0 rfl (iV (u.he l.q)) (MF hq) ?_);by_cases Ny:u.he l.q<l.pe
  case neg=>exact r [0] rfl fun _=>b_ (u.hn,u.he) ⟨rfl,rfl,rfl,trivial⟩ (fun _ hS=>hS) (SU Ny) Bi
  refine r [1,3] rfl fun _=>lf rfl 2 (lF [iV l.pn,iV l.pe]) (fun w hS j hj=>(hS.now.1.2.b.at (15+j) (by omega)).trans (Au some (pR rfl hj))) (r [1] rfl fun _=>so rfl rfl rfl 0 rfl (lU X (u1 (au u.hn l.q l.pn,au u.he l.q l.pe))) (fun i _=>WH hq i) ?_ (RI rfl));exact r [] rfl fun _=>b_ (au u.hn l.q l.pn,au u.he l.q l.pe) ⟨rfl,rfl,rfl,trivial⟩ (fun _ hS=>hS) (SS Ny) Bi
 rintro f ⟨hn,he⟩ hh;have hh:({u with hn:=hn,he:=he}:Nv).pure=eJ u.pure l:=hh;refine r [] rfl fun _=>cut (X:=Nat×Int×Bt×Option Addr×Nat×(Nat→Value)) (fun x=>[(2,vp 1 0 (α 0)),(4,vp 2 0 (β 0)),(5,vp 3 0 x.1),(6,vi x.2.1)]) (fun x=>[⟨N,126,[.f 206 (lU X (u1 (hn,he)))]⟩,⟨α 0,109,[.p 0 0 N]⟩,⟨β 0,3,[.o (iV (l.q:Int))]⟩,⟨x.1,117,pD x.2.2.1 x.2.2.2.1 x.2.2.2.2.1 x.2.2.2.2.2⟩]) (fun _ b=>F b∨(U b∧b≠N)) (fun x w=>((u.In w N∧∀r∈v.fl,nI w r)∧eH w P l a c)∧jT w x.2.2.1 x.2.2.2.1 x.2.2.2.2.1 x.2.2.2.2.2) (fun _=>RW X (fun b=>b∈[N]) F w v F) (fun x=>bG (u.m l.q).B l.pe=(x.2.2.1,x.2.1)) ?_ (r [4,1] rfl fun _=>lo rfl rfl 0 rfl 47 (je (u.m l.q)) (fun i hi=>nG hq hi) (r [] rfl fun _=>l1 rfl (iV l.pe) (fun w hS=>hS.now.1.2.b.at 16 (cK rfl)) ?_))
 case refine_2=>
  repeat' first|refine ER ?_ ?_|(refine cx (g:=124) rfl (fun y:Int×Bt×Option Addr×Nat×(Nat→Value)=>vt [.g (pD y.2.1 y.2.2.1 y.2.2.2.1 y.2.2.2.2),.o (iV y.1)]) (fun y=>bG (u.m l.q).B l.pe=(y.2.1,y.1)∧aS y.2.2.2.2 41) (fun y w=>jT w y.2.1 y.2.2.1 y.2.2.2.1 y.2.2.2.2) ?_ ?_;exact fun w hS=>(Hj (fun _=>True) (u.m l.q).B (u.m l.q).a (u.m l.q).c (u.m l.q).g l.pe w (hw.ok.ok l.q hq)).mono fun _ _ ⟨_,B8,er8,h0,fF,⟨a8,c8,g8,hy,hm8⟩,b⟩=>⟨(er8,B8,a8,c8,g8),by rw[h0,hy];rfl,b,⟨fF,hm8.now.one⟩,fun _=>hm8.mono fun _ _ _=>trivial⟩;rintro⟨er8,B8,a8,c8,g8⟩ ⟨fF,o8⟩)|refine rs [] rfl rfl fun _=> ?_
  all_goals exact b_ (_,er8,B8,a8,c8,g8) ⟨rfl,rfl,rfl,rfl,trivial⟩ (fun w hS=>hS.JG [0,1,2,3] (by decide)) fF Bi
 rintro f ⟨R5,er8,B8,a8,c8,g8⟩ fF;have fF:bG (u.m l.q).B l.pe=(B8,er8):=fF;by_cases h0:er8=0
 case neg=>exact r [0] rfl fun _=>dh rfl fun w hS=>⟨rfl,_,v,F,Dn.fin (u':=u1 (hn,he)) hS hw.ub hw.nu (fun _ h=>⟨⟨h.1.1.1.row,h.1.1.1.mo,h.1.1.1.af,h.1.1.1.wl⟩,h.1.1.2⟩) (⟨hw.ok.ok,hw.ok.nil,hw.ok.cap,hw.ok.max,hw.ok.len,hw.ok.s0,hw.ok.s1,hw.ok.i5,hw.ok.SJ⟩) rfl rfl rfl rfl rfl (abI hh fF h0) (FI _ _ _)⟩
 subst h0;obtain⟨he8,hr8⟩:=Po fF;refine r [1] rfl fun δ=>kp 4 rfl (c0 rfl fun w1 hS=> ?_);obtain⟨oh,hu2,hu3⟩:=hS.qR;refine(jd X N u.i u.da u.dl.length u.dc u.dl u.sy (fun p=>je (u.m p)) hn he u.wt u.af u.tu u.ct u.ub u.sk (.func 125) #[] #[.pointer (some ⟨R5,0,none⟩),.pointer (some ⟨α 0,0,none⟩),.pointer (some ⟨β 0,0,none⟩)] [⟨7,l.q,B8.e,0,lT⟩] (some ⟨δ 0,0,none⟩) 1 1 _ (hS.at 0 rfl) _ oh hu2 (fun w2 cc=>⟨(hu3 w2 cc).1.1.1.1.row,mm ⟨7,l.q,B8.e,0,lT⟩ (pf (by decide) hq (by rw[he8];exact gI) (by decide) qd) (hu3 w2 cc).2⟩) hw.ok.nil hw.ok.cap hw.ok.max hw.ok.len hw.ok.s0 hw.ok.s1 rfl (by decide) (fun r hr=>by rw[Ab.1 hr];exact aaP (by decide) (by decide) hq (by rw[he8];exact gI) (by decide))).mono ?_;rintro _ w2 ⟨k,rfl,ch,⟨rfl,iX,a2,c2,uW,st2,jB,qV,sD⟩|⟨rfl,iX,uW⟩⟩
 ·refine⟨vv (.bool true),_,_,rfl,ch,uW,st2,r [] rfl fun _=>dh rfl fun w3 hS=> ?_⟩;let u2:Nv:={u1 (hn,he)with da:=a2,dc:=c2,dl:=u.dl++bI [⟨7,l.q,B8.e,0,lT⟩],af:= .func (.func 125) #[] #[.pointer (some ⟨R5,0,none⟩),.pointer (some ⟨α 0,0,none⟩),.pointer (some ⟨β 0,0,none⟩)],ax:=some (.kG l.q B8),ad:=⟨R5,α 0,β 0,0,0,none,0,⟨B8,a8,c8,g8⟩⟩};replace hS:=((hS.take 1).add (hS.kept 3 rfl 1 (cK rfl))).add (hS.kept 1 rfl 1 (cK rfl))|>.add (hS.kept 2 rfl 1 (cK rfl))
  replace hS:=hS.congr 0 rfl (lU X u2) (fun i _=>by simp only[u2,u1,lU,List.length_append];rfl);exact⟨rfl,u2,v,F,Dn.fin hS hw.ub hw.nu (fun _ h=>⟨⟨by rw[Ac];exact h.1.1.1.2,h.1.1.1.1.1.1.1.1.mo,⟨rfl,h.1.1.2,h.1.2,h.2,h.1.1.1.1.1.2,rfl⟩,h.1.1.1.1.1.1.1.1.wl⟩,h.1.1.1.1.1.1.1.2⟩) (⟨hw.ok.ok,qV,by rw[Ac];exact jB,sD,by rw[Ac];exact iX,hw.ok.s0,by rw[Ac];show u.sy≤_;have:=hw.ok.s1;omega,hw.ok.i5,⟨hq,Pp fF⟩⟩) rfl rfl rfl rfl rfl (Pr hh fF iX) (FI _ _ _)⟩
 ·refine⟨vv (.bool false),_,fun _=>True,rfl,ch,uW,fun _ _=>trivial,r [] rfl fun _=>dh rfl fun w hS=> ?_⟩;exact⟨rfl,_,v,F,Dn.fin (u':=u1 (hn,he)) hS hw.ub hw.nu (fun _ h=>⟨⟨h.1.1.1.1.1.row,h.1.1.1.1.1.mo,h.1.1.1.1.1.af,h.1.1.1.1.1.wl⟩,h.1.1.1.1.2⟩) (⟨hw.ok.ok,hw.ok.nil,hw.ok.cap,hw.ok.max,hw.ok.len,hw.ok.s0,hw.ok.s1,hw.ok.i5,hw.ok.SJ⟩) rfl rfl rfl rfl rfl (KN hh fF iX) (FI _ _ _)⟩
theorem IF{B B':Bt}{ep fr:Int}(h:aU B ep fr=(B',0)):(1≤ep∧ep≤1048576)∧0≤fr∧fr≤4:=by
 unfold aU at h;split at h
 ·cases h
 ·split at h
  ·cases h
  ·rename_i h2;exact Bk.1 h2
theorem IG{B B':Bt}{ep fr er:Int}(h:aU B ep fr=(B',er)):B'.Ok:=by
 unfold aU at h;split at h
 ·cases h;exact Bt.cI
 ·rename_i eC;split at h
  ·cases h;exact Bt.cI
  ·rename_i h2;split at h
   ·cases h;exact Bt.cI
   ·split at h
    ·cases h;exact Bk.1 eC
    ·split at h
     ·cases h;exact Bt.cI
     ·cases h;have:=Bk.1 h2;exact⟨.inr (.inr (.inr (.inr ⟨rfl,this.1.1,this.1.2,this.2.1,this.2.2,rfl,rfl⟩))),Ak _,St.zero,[],.nil⟩
section
variable{u:Nv}{v:Wv}{l:Lt}{B8:Bt}{er:Int}
theorem D8(h:aU (u.m l.q).B l.ep l.fr=(B8,er))(h0:¬er=0):jL u.pure v.pure l=(u.pure,v.pure):=by
 unfold jL;rw[h,if_pos h0]
theorem yO(h:aU (u.m l.q).B l.ep l.fr=(B8,0))(h0:B8.e=(u.m l.q).B.e):jL u.pure v.pure l=(u.pure,yL u.pure v.pure l.q):=by
 unfold jL;rw[h,if_neg (fun h=>h rfl),if_pos h0]
theorem yP(h:aU (u.m l.q).B l.ep l.fr=(B8,0))(h0:¬B8.e=(u.m l.q).B.e)(hf:100000<u.dl.length+(bI [⟨4,l.q,l.ep,l.fr,lT⟩]).length):jL u.pure v.pure l=(u.pure,v.pure):=by
 unfold jL pA;rw[h,if_neg (fun h=>h rfl),if_neg h0,if_neg (BE.2 hf)];rfl
theorem D_(h:aU (u.m l.q).B l.ep l.fr=(B8,0))(h0:¬B8.e=(u.m l.q).B.e)(hf:u.dl.length+(bI [⟨4,l.q,l.ep,l.fr,lT⟩]).length≤100000):jL u.pure v.pure l=({u.pure with dl:=u.dl++bI [⟨4,l.q,l.ep,l.fr,lT⟩],af:=some (.begin l B8)},v.pure):=by
 unfold jL pA;rw[h,if_neg (fun h=>h rfl),if_neg h0,if_pos hf];rfl
end
theorem SY(X N:Nat)(u:Nv)(v:Wv)(F U:tF)(w:tA)(hw:NW w X N u v F U)(P:Nat)(l:Lt)(a:tB)(c:Nat)(hq:l.q<4)(hl:bV U w fun w=>eH w P l a c)(hlen:v.fl.length≤1000000000000)(iD:v.sv.length≤1000000000000):cA 68 #[lp N,lp P] w fun x w'=>x= .returned (.tuple #[])∧∃u' v' F',Dn w X N u v F U (jL u.pure v.pure l) u' v' F' w':=by
 have kY:=(hw.st.now.1.mo l.q hq).one;have ho:aS (je (u.m l.q)) 47:=aag kY;have gI:=jK (hw.ok.ok l.q hq).cO;refine en (H:=[nE X N u]) 66 [vp 0 0 N,vv (lp P)] Tryz.func68 rfl rfl (hw.init (G:=fun w=>eH w P l a c) hl) ?_;refine r [3] rfl fun α=>l1 rfl (iV (l.q:Int)) (fun w hS=>hS.now.1.2.b.at 3 (cK rfl)) (r [1] rfl fun _=>lo rfl rfl 0 rfl 47 (je (u.m l.q)) (fun i hi=>nG hq hi) ?_);refine r [] rfl fun β=>cut (X:=Nat×Int×Oh) (fun x=>[(2,vp 1 0 (α 0)),(3,vp 2 0 (α 1)),(4,vp 3 0 (β 0)),(5,vp 4 0 x.1),(6,vi x.2.1)]) (fun x=>[nE X N u,npE (α 0) 0 N,lpE (α 1) P,mgE (β 0) (u.m l.q),moE x.1 x.2.2.1 x.2.2.2.1 x.2.2.2.2.1 x.2.2.2.2.2]) (fun _ b=>F b∨(U b∧b≠N)) (fun x w=>((u.In w N∧∀r∈v.fl,nI w r)∧eH w P l a c)∧RL x.2.2 w) (fun _=>RW X (fun b=>b∈[N]) F w v F) (fun x=>aU (u.m l.q).B l.ep l.fr=(x.2.2.1,x.2.1)) ?_ (r [4] rfl fun _=>l1 rfl (iV l.ep) (fun w hS=>hS.now.1.2.b.at 17 (cK rfl)) (r [] rfl fun _=>l1 rfl (iV l.fr) (fun w hS=>hS.now.1.2.b.at 1 (cK rfl)) ?_))
 case refine_2=>
  repeat' first|refine ER ?_ ?_|(refine cx (g:=114) rfl (fun y:Int×Oh=>vt [Kk y.2,.o (iV y.1)]) (fun y=>aU (u.m l.q).B l.ep l.fr=(y.2.1,y.1)∧aS y.2.2.2.2 41) (fun y=>RL y.2) ?_ ?_;exact fun w hS=>(Kl _ (u.m l.q).B (u.m l.q).a (u.m l.q).c (u.m l.q).g l.ep l.fr w hS.ult (fun w2 c2=>(hS.g w2 c2).1.1.mo l.q hq) (hw.ok.ok l.q hq)).mono fun _ _ ⟨_,B8,er8,h0,fF,⟨a8,c8,g8,hy,hm8⟩,b⟩=>⟨(er8,B8,a8,c8,g8),by rw[h0,hy];rfl,b,⟨fF,hm8.now.one⟩,fun _=>hm8⟩;rintro⟨er8,B8,a8,c8,g8⟩ ⟨fF,o8⟩)|refine rs [] rfl rfl fun _=> ?_
  all_goals exact b_ (_,er8,B8,a8,c8,g8) ⟨rfl,rfl,rfl,rfl,rfl,trivial⟩ (fun w hS=>hS.JG [0,1,2,3,4] (by decide)) fF Bi
 rintro f ⟨R5,er8,B8,a8,c8,g8⟩ fF;have fF:aU (u.m l.q).B l.ep l.fr=(B8,er8):=fF;by_cases h0:er8=0
 case neg=>exact r [1] rfl fun _=>dh rfl fun w hS=>⟨rfl,u,v,F,Dn.fin hS hw.ub hw.nu (fun _ h=>⟨h.1.1.1,h.1.1.2⟩) hw.ok rfl rfl rfl rfl rfl (by rw[D8 fF h0]) (by rw[D8 fF h0])⟩
 subst h0;obtain⟨mC,Ge⟩:=IF fF;refine r [0] rfl fun _=> ?_;by_cases he8:B8.e=(u.m l.q).B.e
 ·refine r [1,3] rfl fun _=>l1 rfl (iV (l.q:Int)) (fun w hS=>hS.now.1.1.2.b.at 3 (cK rfl)) (r [] rfl fun _=>cw rfl (vt []) _ _ (fun w hS=>FG X v F _ w N u l.q hq kY hS.now.2.wo hS.ult (fun b h=> .inr (.inl h)) (fun w2 c2=>(hS.we 0 rfl w2 (c2.mono fun b h=> .inl h)).2) hlen) fun P1 F1=>r [] rfl fun _=>dh rfl fun w hS=> ?_);exact⟨rfl,u,_,F1,Dn.fin hS hw.ub hw.nu (fun _ h=>⟨h.1.1.1.1,f_ h.1.1.1.2 h.2⟩) hw.ok rfl rfl rfl rfl rfl (by rw[yO fF he8]) (by rw[yO fF he8,kg];rfl)⟩
 refine r [0,3] rfl fun _=>l1 rfl (iV (l.q:Int)) (fun w hS=>hS.now.1.1.2.b.at 3 (cK rfl)) (r [] rfl fun _=>l1 rfl (iV l.ep) (fun w hS=>hS.now.1.1.2.b.at 17 (cK rfl)) (r [] rfl fun _=>l1 rfl (iV l.fr) (fun w hS=>hS.now.1.1.2.b.at 1 (cK rfl)) (r [] rfl fun δ=>kp 5 rfl (c0 rfl fun w1 hS=> ?_))));obtain⟨oh,hu2,hu3⟩:=hS.qR;refine(jd X N u.i u.da u.dl.length u.dc u.dl u.sy (fun p=>je (u.m p)) (u.hn) (u.he) u.wt u.af u.tu u.ct u.ub u.sk (.func 116) #[] #[.pointer (some ⟨R5,0,none⟩),.pointer (some ⟨α 0,0,none⟩),.pointer (some ⟨α 1,0,none⟩)] [⟨4,l.q,l.ep,l.fr,lT⟩] (some ⟨δ 0,0,none⟩) 1 1 _ (hS.at 0 rfl) _ oh hu2 (fun w2 cc=>⟨(hu3 w2 cc).1.1.1.1.row,mm ⟨4,l.q,l.ep,l.fr,lT⟩ (pf (by decide) hq ⟨by omega,by omega⟩ Ge qd) (hu3 w2 cc).2⟩) hw.ok.nil hw.ok.cap hw.ok.max hw.ok.len hw.ok.s0 hw.ok.s1 rfl (by decide) (fun r hr=>by rw[Ab.1 hr];exact aaP (by decide) (by decide) hq ⟨by omega,by omega⟩ Ge)).mono ?_;rintro _ w2 ⟨k,rfl,ch,⟨rfl,iX,a2,c2,uW,st2,jB,qV,sD⟩|⟨rfl,iX,uW⟩⟩
 ·refine⟨vv (.bool true),_,_,rfl,ch,uW,st2,r [] rfl fun _=>dh rfl fun w3 hS=> ?_⟩;let u2:Nv:={u with da:=a2,dc:=c2,dl:=u.dl++bI [⟨4,l.q,l.ep,l.fr,lT⟩],af:= .func (.func 116) #[] #[.pointer (some ⟨R5,0,none⟩),.pointer (some ⟨α 0,0,none⟩),.pointer (some ⟨α 1,0,none⟩)],ax:=some (.begin l B8),ad:=⟨R5,α 0,α 1,0,P,a,c,⟨B8,a8,c8,g8⟩⟩};replace hS:=((hS.take 1).add (hS.kept 4 rfl 1 (cK rfl))).add (hS.kept 1 rfl 1 (cK rfl))|>.add (hS.kept 2 rfl 1 (cK rfl))
  replace hS:=hS.congr 0 rfl (lU X u2) (fun i _=>by simp only[u2,lU,List.length_append];rfl);exact⟨rfl,u2,v,F,Dn.fin hS hw.ub hw.nu (fun _ h=>⟨⟨by rw[Ac];exact h.1.1.1.2,h.1.1.1.1.1.1.1.1.mo,⟨rfl,h.1.1.2,h.1.2,h.2,h.1.1.1.1.1.1.2,h.1.1.1.1.1.2,rfl⟩,h.1.1.1.1.1.1.1.1.wl⟩,h.1.1.1.1.1.1.1.2⟩) (⟨hw.ok.ok,qV,by rw[Ac];exact jB,sD,by rw[Ac];exact iX,hw.ok.s0,by rw[Ac];show u.sy≤_;have:=hw.ok.s1;omega,hw.ok.i5,⟨hq,IG fF⟩⟩) rfl rfl rfl rfl rfl (by rw[D_ fF he8 iX]) (by rw[D_ fF he8 iX])⟩
 ·refine⟨vv (.bool false),_,fun _=>True,rfl,ch,uW,fun _ _=>trivial,r [] rfl fun _=>dh rfl fun w hS=> ?_⟩;exact⟨rfl,u,v,F,Dn.fin hS hw.ub hw.nu (fun _ h=>⟨h.1.1.1.1.1,h.1.1.1.1.2⟩) hw.ok rfl rfl rfl rfl rfl (by rw[yP fF he8 iX]) (by rw[yP fF he8 iX])⟩
theorem toNM{U F:tF}{N b:Nat}(h:U b∨F b):b∈[N]∨F b∨(U b∧b≠N):=by
 rcases h with h|h
 ·by_cases e:b=N
  ·exact .inl (e▸Ab.2 rfl)
  ·exact .inr (.inr ⟨h,e⟩)
 ·exact .inr (.inl h)
theorem toHM{U F:tF}{N b:Nat}{H:tW}(h:U b∨F b):b∈N::H∨F b∨(U b∧b≠N):=(toNM h).imp (fun h=>by rw[Ab.1 h];exact Aw ..) id
theorem nO{B B':Bt}{hv er:Int}(h:bf B hv=(B',er)):B'.Ok:=by
 unfold bf at h;split at h
 ·cases h;exact Bt.cI
 ·rename_i h0;have h1:=Bk.1 h0;unfold dk at h1;split at h1
  ·cases h1
  ·rename_i eC;have ok:=Bk.1 eC;split at h1
   ·cases h1
   ·rename_i hr;have hr:=Bk.1 hr;split at h
    ·cases h;exact ok
    ·rename_i h3;have hs:=ok.cO;unfold Bt.cH bB at hs;split at h
     ·cases h;refine⟨?_,ok.len,ok.told⟩;rcases hs with k|k|k|k|k
      ·exact absurd k.1 (by omega)
      ·exact absurd k.1 (by omega)
      ·exact .inr (.inr (.inr (.inl ⟨rfl,k.2.1,k.2.2.1,k.2.2.2.1,k.2.2.2.2.1,k.2.2.2.2.2.1,rfl⟩)))
      ·exact absurd k.1 h3
      ·exact absurd k.1 (by omega)
     ·rename_i h4;cases h;refine⟨?_,ok.len,ok.told⟩;rcases hs with k|k|k|k|k
      ·exact absurd k.1 (by omega)
      ·exact absurd k.1 (by omega)
      ·exact .inr (.inr (.inl ⟨k.1,k.2.1,k.2.2.1,k.2.2.2.1,k.2.2.2.2.1,k.2.2.2.2.2.1,by show 0≤B.o+1;omega,by show B.o+1≤4;omega⟩))
      ·exact absurd k.1 h3
      ·exact absurd k.1 (by omega)
section
variable{u:Nv}{v:Wv}{l:Lt}{B8:Bt}{er:Int}
theorem qJ(h:¬(u.m l.q).B.t=l.fr∨¬(u.m l.q).B.e+1=l.ep):h_ u.pure v.pure l=(u.pure,v.pure):=by
 unfold h_;rw[if_pos h]
theorem Ea(ht:(u.m l.q).B.t=l.fr)(he:(u.m l.q).B.e+1=l.ep)(h:bf (u.m l.q).B l.pl=(B8,er))(h0:¬er=0):h_ u.pure v.pure l=(u.pure,v.pure):=by
 unfold h_;rw[if_neg (fun k=>k.elim (fun k=>k ht) fun k=>k he),h,if_pos h0]
theorem yQ(ht:(u.m l.q).B.t=l.fr)(he:(u.m l.q).B.e+1=l.ep)(h:bf (u.m l.q).B l.pl=(B8,0))(hr:B8.r=(u.m l.q).B.r):h_ u.pure v.pure l=eZ u.pure v.pure (.shut l B8):=by
 unfold h_;rw[if_neg (fun k=>k.elim (fun k=>k ht) fun k=>k he),h,if_neg (fun h=>h rfl),if_pos hr];rfl
theorem yR(ht:(u.m l.q).B.t=l.fr)(he:(u.m l.q).B.e+1=l.ep)(h:bf (u.m l.q).B l.pl=(B8,0))(hr:¬B8.r=(u.m l.q).B.r)(hf:100000<u.dl.length+(bI [⟨3,l.q,(u.m l.q).B.e,(u.m l.q).B.t,lT⟩]).length):h_ u.pure v.pure l=(u.pure,v.pure):=by
 unfold h_ pA;rw[if_neg (fun k=>k.elim (fun k=>k ht) fun k=>k he),h,if_neg (fun h=>h rfl),if_neg hr,if_neg (BE.2 hf)];rfl
theorem Eb(ht:(u.m l.q).B.t=l.fr)(he:(u.m l.q).B.e+1=l.ep)(h:bf (u.m l.q).B l.pl=(B8,0))(hr:¬B8.r=(u.m l.q).B.r)(hf:u.dl.length+(bI [⟨3,l.q,(u.m l.q).B.e,(u.m l.q).B.t,lT⟩]).length≤100000):h_ u.pure v.pure l=({u.pure with dl:=u.dl++bI [⟨3,l.q,(u.m l.q).B.e,(u.m l.q).B.t,lT⟩],af:=some (.shut l B8)},v.pure):=by
 unfold h_ pA;rw[if_neg (fun k=>k.elim (fun k=>k ht) fun k=>k he),h,if_neg (fun h=>h rfl),if_neg hr,if_pos hf];rfl
theorem WI{B:Bt}(h:B.cH):0≤B.t∧B.t≤4:=by
 unfold Bt.cH bB at h;omega
end
theorem SZ(X N:Nat)(u:Nv)(v:Wv)(F U:tF)(w:tA)(hw:NW w X N u v F U)(P:Nat)(l:Lt)(a:tB)(c:Nat)(hq:l.q<4)(hl:bV U w fun w=>eH w P l a c)(hlen:v.fl.length≤1000000000000)(iD:v.sv.length≤1000000000000):cA 69 #[lp N,lp P] w fun x w'=>x= .returned (.tuple #[])∧∃u' v' F',Dn w X N u v F U (h_ u.pure v.pure l) u' v' F' w':=by
 have ho:aS (je (u.m l.q)) 47:=aag (hw.st.now.1.mo l.q hq).one;have gI:=jK (hw.ok.ok l.q hq).cO;have S1:=WI (hw.ok.ok l.q hq).cO;refine en (H:=[nE X N u]) 73 [vp 0 0 N,vv (lp P)] Tryz.func69 rfl rfl (hw.init (G:=fun w=>eH w P l a c) hl) ?_;refine r [3] rfl fun α=>l1 rfl (iV (l.q:Int)) (fun w hS=>hS.now.1.2.b.at 3 (cK rfl)) (r [1] rfl fun _=>lo rfl rfl 0 rfl 47 (je (u.m l.q)) (fun i hi=>nG hq hi) ?_);refine r [3] rfl fun β=>l1 rfl (iV l.fr) (fun w hS=>hS.now.1.2.b.at 1 (cK rfl)) ?_;by_cases ht:(u.m l.q).B.t=l.fr
 case neg=>exact r [1] rfl fun _=>r [] rfl fun _=>fin fun w hS=>⟨rfl,u,v,F,Dn.fin hS hw.ub hw.nu (fun _ h=>⟨h.1.1,h.1.2⟩) hw.ok rfl rfl rfl rfl rfl (by rw[qJ (.inl ht)]) (by rw[qJ (.inl ht)])⟩
 refine rz [0,1] [(u.m l.q).B.e+1] rfl fun _=> ?_;refine l1 rfl (iV l.ep) (fun w hS=>hS.now.1.2.b.at 17 (cK rfl)) ?_;by_cases JZ:(u.m l.q).B.e+1=l.ep
 case neg=>exact r [1] rfl fun _=>fin fun w hS=>⟨rfl,u,v,F,Dn.fin hS hw.ub hw.nu (fun _ h=>⟨h.1.1,h.1.2⟩) hw.ok rfl rfl rfl rfl rfl (by rw[qJ (.inr JZ)]) (by rw[qJ (.inr JZ)])⟩
 refine r [0] rfl fun _=>cut (X:=Nat×Int×Oh) (fun x=>[(2,vp 1 0 (α 0)),(3,vp 2 0 (α 1)),(4,vp 3 0 (β 0)),(5,vp 4 0 x.1),(6,vi x.2.1)]) (fun x=>[nE X N u,npE (α 0) 0 N,lpE (α 1) P,mgE (β 0) (u.m l.q),moE x.1 x.2.2.1 x.2.2.2.1 x.2.2.2.2.1 x.2.2.2.2.2]) (fun _ b=>F b∨(U b∧b≠N)) (fun x w=>((u.In w N∧∀r∈v.fl,nI w r)∧eH w P l a c)∧RL x.2.2 w) (fun _=>RW X (fun b=>b∈[N]) F w v F) (fun x=>bf (u.m l.q).B l.pl=(x.2.2.1,x.2.1)) ?_ (r [4] rfl fun _=>l1 rfl (iV l.pl) (fun w hS=>hS.now.1.2.b.at 18 (cK rfl)) ?_)
 case refine_2=>
  repeat' first|refine ER ?_ ?_|(refine cx (g:=117) rfl (fun y:Int×Oh=>vt [Kk y.2,.o (iV y.1)]) (fun y=>bf (u.m l.q).B l.pl=(y.2.1,y.1)∧aS y.2.2.2.2 41) (fun y=>RL y.2) ?_ ?_;exact fun w hS=>(Hl _ (u.m l.q).B (u.m l.q).a (u.m l.q).c (u.m l.q).g l.pl w hS.ult (fun w2 c2=>(hS.g w2 c2).1.1.mo l.q hq) (hw.ok.ok l.q hq)).mono fun _ _ ⟨_,B8,er8,h0,fF,⟨a8,c8,g8,hy,hm8⟩,b⟩=>⟨(er8,B8,a8,c8,g8),by rw[h0,hy];rfl,b,⟨fF,hm8.now.one⟩,fun _=>hm8⟩;rintro⟨er8,B8,a8,c8,g8⟩ ⟨fF,o8⟩)|refine rs [] rfl rfl fun _=> ?_
  all_goals exact b_ (_,er8,B8,a8,c8,g8) ⟨rfl,rfl,rfl,rfl,rfl,trivial⟩ (fun w hS=>hS.JG [0,1,2,3,4] (by decide)) fF Bi
 rintro f ⟨R5,er8,B8,a8,c8,g8⟩ fF;have fF:bf (u.m l.q).B l.pl=(B8,er8):=fF;by_cases h0:er8=0
 case neg=>exact r [1] rfl fun _=>fin fun w hS=>⟨rfl,u,v,F,Dn.fin hS hw.ub hw.nu (fun _ h=>⟨h.1.1.1,h.1.1.2⟩) hw.ok rfl rfl rfl rfl rfl (by rw[Ea ht JZ fF h0]) (by rw[Ea ht JZ fF h0])⟩
 subst h0;refine r [0] rfl fun _=> ?_;by_cases qQ:B8.r=(u.m l.q).B.r
 ·refine r [1] rfl fun _=>ct rfl (vt []) (fun(y:Nv×Wv×(Nat→Prop)) w'=>Dn w X N u v F U (h_ u.pure v.pure l) y.1 y.2.1 y.2.2 w') (fun x hS=> ?_) (fun _ _ _ h b=>h.next b) fun y=>r [] rfl fun _=>fin fun w hS=>⟨rfl,y.1,y.2.1,y.2.2,hS.now.2⟩;have KJ:=Dn.fin (r:=(u.pure,v.pure)) (u:=u) (v:=v) (F:=F) hS hw.ub hw.nu (fun _ h=>⟨h.1.1.1,h.1.1.2⟩) hw.ok rfl rfl rfl rfl rfl rfl rfl;have Jo:bV (fun b=>U b∨F b) x (fun y=>((((aY y R5 117 47 (je ⟨B8,a8,c8,g8⟩))∧aY y (α 0) 109 1 (fun _=>lp N))∧aY y (α 1) 171 1 (fun _=>lp P))∧nJ y ⟨B8,a8,c8,g8⟩)∧eH y P l a c):=fun w2 c2=>⟨⟨⟨⟨((hS.kept 4 rfl 1 (cK rfl)).mono fun b _ h=>toNM h) w2 c2,((hS.kept 1 rfl 1 (cK rfl)).mono fun b _ h=>toNM h) w2 c2⟩,((hS.kept 2 rfl 1 (cK rfl)).mono fun b _ h=>toNM h) w2 c2⟩,(hS.g w2 (c2.mono fun b h=>toHM h)).2⟩,(hS.g w2 (c2.mono fun b h=>toHM h)).1.2⟩;refine(D7 X N u v F _ x KJ.nw ⟨B8,a8,c8,g8⟩ P l a c hq (nO fF) _ _ _ Jo hlen iD).mono ?_;rintro _ w7 ⟨rfl,u2,v2,F2,Cy⟩;exact⟨rfl,(u2,v2,F2),(KJ.trans Cy).to (by rw[yQ ht JZ fF qQ]) (by rw[yQ ht JZ fF qQ])⟩
 refine r [0,3] rfl fun _=>l1 rfl (iV (l.q:Int)) (fun w hS=>hS.now.1.1.2.b.at 3 (cK rfl)) (r [] rfl fun δ=>kp 5 rfl (c0 rfl fun w1 hS=> ?_));obtain⟨oh,hu2,hu3⟩:=hS.qR;refine(jd X N u.i u.da u.dl.length u.dc u.dl u.sy (fun p=>je (u.m p)) (u.hn) (u.he) u.wt u.af u.tu u.ct u.ub u.sk (.func 118) #[] #[.pointer (some ⟨R5,0,none⟩),.pointer (some ⟨α 0,0,none⟩),.pointer (some ⟨α 1,0,none⟩)] [⟨3,l.q,(u.m l.q).B.e,(u.m l.q).B.t,lT⟩] (some ⟨δ 0,0,none⟩) 1 1 _ (hS.at 0 rfl) _ oh hu2 (fun w2 cc=>⟨(hu3 w2 cc).1.1.1.1.row,mm ⟨3,l.q,(u.m l.q).B.e,(u.m l.q).B.t,lT⟩ (pf (by decide) hq gI S1 qd) (hu3 w2 cc).2⟩) hw.ok.nil hw.ok.cap hw.ok.max hw.ok.len hw.ok.s0 hw.ok.s1 rfl (by decide) (fun r hr=>by rw[Ab.1 hr];exact aaP (by decide) (by decide) hq gI S1)).mono ?_;rintro _ w2 ⟨k,rfl,ch,⟨rfl,iX,a2,c2,uW,st2,jB,qV,sD⟩|⟨rfl,iX,uW⟩⟩
 ·refine⟨vv (.bool true),_,_,rfl,ch,uW,st2,r [] rfl fun _=>dh rfl fun w3 hS=> ?_⟩;let u2:Nv:={u with da:=a2,dc:=c2,dl:=u.dl++bI [⟨3,l.q,(u.m l.q).B.e,(u.m l.q).B.t,lT⟩],af:= .func (.func 118) #[] #[.pointer (some ⟨R5,0,none⟩),.pointer (some ⟨α 0,0,none⟩),.pointer (some ⟨α 1,0,none⟩)],ax:=some (.shut l B8),ad:=⟨R5,α 0,α 1,0,P,a,c,⟨B8,a8,c8,g8⟩⟩};replace hS:=((hS.take 1).add (hS.kept 4 rfl 1 (cK rfl))).add (hS.kept 1 rfl 1 (cK rfl))|>.add (hS.kept 2 rfl 1 (cK rfl))
  replace hS:=hS.congr 0 rfl (lU X u2) (fun i _=>by simp only[u2,lU,List.length_append];rfl);exact⟨rfl,u2,v,F,Dn.fin hS hw.ub hw.nu (fun _ h=>⟨⟨by rw[Ac];exact h.1.1.1.2,h.1.1.1.1.1.1.1.1.mo,⟨rfl,h.1.1.2,h.1.2,h.2,h.1.1.1.1.1.1.2,h.1.1.1.1.1.2,rfl⟩,h.1.1.1.1.1.1.1.1.wl⟩,h.1.1.1.1.1.1.1.2⟩) (⟨hw.ok.ok,qV,by rw[Ac];exact jB,sD,by rw[Ac];exact iX,hw.ok.s0,by rw[Ac];show u.sy≤_;have:=hw.ok.s1;omega,hw.ok.i5,⟨hq,nO fF⟩⟩) rfl rfl rfl rfl rfl (by rw[Eb ht JZ fF qQ iX]) (by rw[Eb ht JZ fF qQ iX])⟩
 ·refine⟨vv (.bool false),_,fun _=>True,rfl,ch,uW,fun _ _=>trivial,r [] rfl fun _=>dh rfl fun w hS=> ?_⟩;exact⟨rfl,u,v,F,Dn.fin hS hw.ub hw.nu (fun _ h=>⟨h.1.1.1.1.1,h.1.1.1.1.2⟩) hw.ok rfl rfl rfl rfl rfl (by rw[yR ht JZ fF qQ iX]) (by rw[yR ht JZ fF qQ iX])⟩
theorem IH{B B':Bt}{v:Ev}{an:An}{er:Int}(h:cR B v B' an true er):v.Ok:=by
 cases h with
 |done h hv=>exact hv
section
variable{u:Nv}{v:Wv}{l:Lt}{B8:Bt}{an:An}{k:Bool}{er:Int}
theorem yS(hr:¬((u.m l.q).B.r=1∨(u.m l.q).B.r=2))(h:dt (u.m l.q).B l.op=(B8,an,k,er)):gy u.pure v.pure l=(u.pure,fZ v.pure (mq l.nu an (u.hn l.q) (u.he l.q))):=by
 unfold gy;rw[if_pos hr,h]
theorem yT(hr:(u.m l.q).B.r=1∨(u.m l.q).B.r=2)(h:dt (u.m l.q).B l.op=(B8,an,false,er)):gy u.pure v.pure l=(u.pure,iy u.pure v.pure l an):=by
 unfold gy;rw[if_neg (fun k=>k hr),h,if_pos rfl]
theorem yU(hr:(u.m l.q).B.r=1∨(u.m l.q).B.r=2)(h:dt (u.m l.q).B l.op=(B8,an,true,er))(hf:100000<u.dl.length+(bI [⟨2,l.q,(u.m l.q).B.e,0,l.op⟩]).length):gy u.pure v.pure l=(u.pure,iy u.pure v.pure l ⟨14,0,0,0⟩):=by
 unfold gy pA;rw[if_neg (fun k=>k hr),h,if_neg (show ¬true=false by decide),if_neg (BE.2 hf)]
theorem Ec(hr:(u.m l.q).B.r=1∨(u.m l.q).B.r=2)(h:dt (u.m l.q).B l.op=(B8,an,true,er))(hf:u.dl.length+(bI [⟨2,l.q,(u.m l.q).B.e,0,l.op⟩]).length≤100000):gy u.pure v.pure l=({u.pure with dl:=u.dl++bI [⟨2,l.q,(u.m l.q).B.e,0,l.op⟩],af:=some (.serve l an)},v.pure):=by
 unfold gy pA;rw[if_neg (fun k=>k hr),h,if_neg (show ¬true=false by decide),if_pos hf]
end
theorem S2(X N:Nat)(u:Nv)(v:Wv)(F U:tF)(w:tA)(hw:NW w X N u v F U)(P:Nat)(l:Lt)(a:tB)(c:Nat)(hq:l.q<4)(WB:∀x∈aX l.op,(Lit.int .i64 x).wf=true)(hl:bV U w fun w=>eH w P l a c)(hlen:v.fl.length≤1000000000000)(iD:v.sv.length≤1000000000000):cA 67 #[lp N,lp P] w fun x w'=>x= .returned (.tuple #[])∧∃u' v' F',Dn w X N u v F U (gy u.pure v.pure l) u' v' F' w':=by
 have ho:aS (je (u.m l.q)) 47:=aag (hw.st.now.1.mo l.q hq).one;have gI:=jK (hw.ok.ok l.q hq).cO;have lop:∀{w1},eH w1 P l a c→∀j,j<6→w1.cell? ⟨P,5+j,none⟩=some (lF [iV l.op.k,iV l.op.p,iV l.op.i,iV l.op.b,iV l.op.he,iV l.op.hn] j):=fun h j hj=>(h.b.at (5+j) (by omega)).trans (Au some (pR rfl hj));refine en (H:=[⟨N,126,[.f 206 (lU X u)]⟩]) 74 [vp 0 0 N,vv (lp P)] Tryz.func67 rfl rfl (hw.init (G:=fun w=>eH w P l a c) hl) ?_;refine r [] rfl fun α=>l1 rfl (iV (l.q:Int)) (fun w hS=>hS.now.1.2.b.at 3 (cK rfl)) ?_;refine r [3,1] rfl fun β=>lo rfl rfl 0 rfl 47 (je (u.m l.q)) (fun i hi=>nG hq hi) ?_;refine r [] rfl fun γ=> ?_;refine cut (X:=Nat×An×Bool) (fun x=>[(2,vp 1 0 (α 0)),(3,vp 2 0 (α 1)),(4,vp 3 0 (β 0)),(5,vp 4 0 (γ 0)),(7,vp 5 0 x.1),(8,vv (.bool x.2.2))]) (fun x=>[⟨N,126,[.f 206 (lU X u)]⟩,⟨α 0,109,[.p 0 0 N]⟩,⟨α 1,171,[.o (lp P)]⟩,⟨β 0,3,[.o (iV (l.q:Int))]⟩,⟨γ 0,117,[.f 47 (je (u.m l.q))]⟩,⟨x.1,59,Qn x.2.1⟩]) (fun _ b=>F b∨(U b∧b≠N)) (fun _ w=>(u.In w N∧∀r∈v.fl,nI w r)∧eH w P l a c) (fun _=>RW X (fun b=>b∈[N]) F w v F) (fun x=>∃B8 er8,cR (u.m l.q).B l.op B8 x.2.1 x.2.2 er8) ?_ (r [4] rfl fun _=>lf rfl 6 _ (fun w hS=>lop hS.now.1.2) ?_)
 case refine_2=>
  repeat' first|refine ER ?_ ?_|refine fk3 ?_ ?_ ?_|(refine cq (g:=109) rfl (fun y:(Bt×Option Addr×Nat×(Nat→Value))×An×Bool×Int=>vt [.g (pD y.1.1 y.1.2.1 y.1.2.2.1 y.1.2.2.2),.g (Qn y.2.1),.o (.bool y.2.2.1),.o (iV y.2.2.2)]) (fun y=>cR (u.m l.q).B l.op y.1.1 y.2.1 y.2.2.1 y.2.2.2∧aS y.1.2.2.2 41) ?_ ?_;exact fun w hS=>(yl (fun b=>b∈(hs _).map bU.a∨F b∨(U b∧b≠N)) (u.m l.q).B (u.m l.q).a (u.m l.q).c (u.m l.q).g l.op w hS.ult (fun w2 c2=>(hS.g w2 c2).1.1.mo l.q hq) (hw.ok.ok l.q hq) WB).mono fun _ _ ⟨_,an,k,er,B8,h0,h1,⟨a8,c8,g8,hy,hm8⟩,b⟩=>⟨((B8,a8,c8,g8),an,k,er),by rw[h0,hy];rfl,b,h1,hm8.now.one⟩;rintro⟨⟨B8,a8,c8,g8⟩,an8,k8,er8⟩ ⟨Jt,o8⟩)|refine rs [] rfl rfl fun _=> ?_
  all_goals first|exact b_ (_,an8,k8) ⟨rfl,rfl,rfl,rfl,rfl,rfl,trivial⟩ (fun w hS=>hS.JG [0,1,2,3,4,5] (by decide)) ⟨_,_,Jt⟩ Bi|exact b_ (_,an8,k8) ⟨rfl,rfl,rfl,rfl,rfl,rfl,trivial⟩ (fun w hS=>hS.JG [0,1,2,3,4,6] (by decide)) ⟨_,_,Jt⟩ Bi
 rintro f ⟨R7,an8,k8⟩ ⟨B8,er8,Jt⟩;have e8:=o_ Jt;refine r [] rfl fun _=> ?_;by_cases qQ:(u.m l.q).B.r=1∨(u.m l.q).B.r=2
 case neg=>
  refine Rv.cb rfl (vv (.bool false)) (fun w _=>(kA _ _ _ _ _ _ _ _ _ w).mono fun _ _ ⟨h,b⟩=>⟨by rw[h,Ai qQ];rfl,b⟩) (r [3,1] rfl fun _=>lo rfl rfl 0 rfl 2 (lF [iV (u.hn l.q),iV (u.he l.q)]) (fun i hi=>acC hq hi) (r [] rfl fun _=> ?_));refine cw rfl (vt []) _ _ (fun w hS=>IE X v F _ w N u P l a c an8 (u.hn l.q) (u.he l.q) hS.now.2.wo hS.ult (fun b h=> .inr (.inl h)) (fun w2 c2=>(hS.we 0 rfl w2 (c2.mono fun b h=> .inl h)).2) (fun w2 c2=>(hS.g w2 c2).2) hlen) fun P1 F1=>r [] rfl fun _=>fin fun w hS=> ?_;exact⟨rfl,u,_,F1,Dn.fin hS hw.ub hw.nu (fun _ h=>⟨h.1.1.1,f_ h.1.1.2 h.2⟩) hw.ok rfl rfl rfl rfl rfl (by rw[yS qQ e8]) (by rw[yS qQ e8];exact kg _ _)⟩
 refine Rv.cb rfl (vv (.bool true)) (fun w _=>(kA _ _ _ _ _ _ _ _ _ w).mono fun _ _ ⟨h,b⟩=>⟨by rw[h,Aq qQ];rfl,b⟩) ?_;cases k8
 ·refine r [] rfl fun _=>cw rfl (vt []) _ _ (fun w hS=>uZ X v F _ w N u P l a c an8 hq hS.now.2.wo hS.ult (fun b h=> .inr (.inl h)) (fun w2 c2=>(hS.we 0 rfl w2 (c2.mono fun b h=> .inl h)).2) (fun w2 c2=>(hS.g w2 c2).2) hlen iD) fun P1 F1=>r [] rfl fun _=>dh rfl fun w hS=> ?_;exact⟨rfl,u,_,F1,Dn.fin hS hw.ub hw.nu (fun _ h=>⟨h.1.1.1,f_ h.1.1.2 h.2⟩) hw.ok rfl rfl rfl rfl rfl (by rw[yT qQ e8]) (by rw[yT qQ e8];exact yM _ _ _)⟩
 refine r [3] rfl fun _=>lf rfl 6 _ (fun w hS=>lop hS.now.1.2) (r [] rfl fun δ=> ?_);refine kp 6 rfl (c0 rfl fun w1 hS=> ?_);obtain⟨oh,hu2,hu3⟩:=hS.qR;refine(jd X N u.i u.da u.dl.length u.dc u.dl u.sy (fun p=>je (u.m p)) (u.hn) (u.he) u.wt u.af u.tu u.ct u.ub u.sk (.func 112) #[] #[.pointer (some ⟨α 0,0,none⟩),.pointer (some ⟨β 0,0,none⟩),.pointer (some ⟨α 1,0,none⟩),.pointer (some ⟨R7,0,none⟩)] [⟨2,l.q,(u.m l.q).B.e,0,l.op⟩] (some ⟨δ 0,0,none⟩) 1 1 _ (hS.at 0 rfl) _ oh hu2 (fun w2 cc=>⟨(hu3 w2 cc).1.1.1.row,mm ⟨2,l.q,(u.m l.q).B.e,0,l.op⟩ (pf (by decide) hq gI (by decide) WB) (hu3 w2 cc).2⟩) hw.ok.nil hw.ok.cap hw.ok.max hw.ok.len hw.ok.s0 hw.ok.s1 rfl (by decide) (fun r hr=>by rw[Ab.1 hr];exact SR (.inl rfl) hq gI (IH Jt))).mono ?_;rintro _ w2 ⟨k,rfl,ch,⟨rfl,iX,a2,c2,uW,st2,jB,qV,sD⟩|⟨rfl,iX,uW⟩⟩
 ·refine⟨vv (.bool true),_,_,rfl,ch,uW,st2,r [] rfl fun _=>dh rfl fun w3 hS=> ?_⟩;let u':Nv:={u with da:=a2,dc:=c2,dl:=u.dl++bI [⟨2,l.q,(u.m l.q).B.e,0,l.op⟩],af:= .func (.func 112) #[] #[.pointer (some ⟨α 0,0,none⟩),.pointer (some ⟨β 0,0,none⟩),.pointer (some ⟨α 1,0,none⟩),.pointer (some ⟨R7,0,none⟩)],ax:=some (.serve l an8),ad:=⟨α 0,β 0,α 1,R7,P,a,c,u.m 0⟩};replace hS:=((((hS.take 1).add (hS.kept 1 rfl 1 (cK rfl))).add (hS.kept 3 rfl 1 (cK rfl))).add (hS.kept 2 rfl 1 (cK rfl))).add (hS.kept 5 rfl 1 (cK rfl));replace hS:=hS.congr 0 rfl (lU X u') (fun i _=>by simp only[u',lU,List.length_append];rfl);exact⟨rfl,u',v,F,Dn.fin hS hw.ub hw.nu (fun _ h=>⟨⟨by rw[Ac];exact h.1.1.1.1.2,h.1.1.1.1.1.1.1.1.mo,⟨rfl,h.1.1.1.2,h.1.1.2,h.1.2,h.2,h.1.1.1.1.1.1.2⟩,h.1.1.1.1.1.1.1.1.wl⟩,h.1.1.1.1.1.1.1.2⟩) (⟨hw.ok.ok,qV,by rw[Ac];exact jB,sD,by rw[Ac];exact iX,hw.ok.s0,by rw[Ac];show u.sy≤_;have:=hw.ok.s1;omega,hw.ok.i5,⟨hq,WB⟩⟩) rfl rfl rfl rfl rfl (by rw[Ec qQ e8 iX]) (by rw[Ec qQ e8 iX])⟩
 ·refine⟨vv (.bool false),_,fun _=>True,rfl,ch,uW,fun _ _=>trivial,r [] rfl fun _=>cw rfl (vt []) _ _ (fun w hS=>uZ X v F _ w N u P l a c ⟨14,0,0,0⟩ hq hS.now.2.wo hS.ult (fun b h=> .inr (.inl h)) (fun w2 c2=>(hS.we 0 rfl w2 (c2.mono fun b h=> .inl h)).2) (fun w2 c2=>(hS.g w2 c2).1.1.2) hlen iD) fun P1 F1=>r [] rfl fun _=>dh rfl fun w hS=> ?_⟩;exact⟨rfl,u,_,F1,Dn.fin hS hw.ub hw.nu (fun _ h=>⟨h.1.1.1.1.1,f_ h.1.1.1.1.2 h.2⟩) hw.ok rfl rfl rfl rfl rfl (by rw[yU qQ e8 iX]) (by rw[yU qQ e8 iX];exact yM _ _ _)⟩
end
section
variable{P:tY}{ops:tP}{Q:tI}{V:tW}{fx fl:tW}{n:Nat}{f:tD}{w:tA}{i:Nat}{t:Ord}{o:Oper}{d:Nat}{H:List bU}{M:tF}{G R:tJ}
theorem acG{s s':Nat}{x y:tU}{a b c:Int}(hb:¬b=0)(hc:a.tmod b=c)(ho:ops[i]? =some o)(hd:o.dst=some d)(hw:Region.wanted o (yielded ops (kK n f))=true)(hK:jh n ops=true)(hp:o.op= .binOp .rem s x y s')(hx:ev f x=iV a)(hy:ev f y=iV b)(h:WF P ops Q V fx fl t n (up f d (iV c)) w):WF P ops Q V fx fl (.pu i t) n f w:=
 Dg ho hd hw hK (fun w'=>by subst hc;simp[execOp,hp,hx,hy,eqGuard,binOp,Op.intDiv,hb]) h
end
def fL(n:Nd)(q:Nat):List Lt:=
 if(n.mo q).r=2 then[IA n.i (n.mo q) q]else if(n.mo q).r=3 then[IA n.i (n.mo q) q,SI n.i q]else if(n.mo q).r=1∧1<(n.mo q).e∧n.he q<(n.mo q).e then[KM n.i (n.mo q) q]else[]
def eX:Nat→Nd→Ws→Nd×Ws
 |0,n,s=>(n,s)
 |k+1,n,s=>if(fL n n.tu).length=0 then eX k {n with tu:=(n.tu+1) % 4} s else({n with tu:=(n.tu+1) % 4},{s with fl:=s.fl++fL n n.tu})
structure u9(w:tA)(R:Nat)(ls:List Lt):Prop where
 cell:∀k l,ls[k]? =some l→∀j,j<21→w.cell? ⟨R,k*21+j,none⟩=some (lF (ME l none 0) j)
theorem u9.one{w:tA}{R:Nat}{l:Lt}(h:aY w R 170 21 (lF (ME l none 0))):u9 w R [l]:=⟨fun k l' hk j hj=>by
 obtain⟨Wx,rfl⟩:=Am.1 hk;have:k=0:=by simpa using Wx
 subst this;rw[Nat.zero_mul,Ae]
 exact h.at j hj⟩
theorem u9.two{w:tA}{R:Nat}{l l':Lt}(h:aY w R 170 42 (lF (ME l none 0++ME l' none 0))):u9 w R [l,l']:=⟨fun k x hk j hj=>by
 match k,hk with
 |0,hk=>
  cases hk;rw[Nat.zero_mul,h.at (0+j) (by omega)];exact Au some (pR (q:=0) (m:=21) rfl hj)
 |1,hk=>
  cases hk;rw[Nat.one_mul,h.at (21+j) (by omega)]
  exact Au some (pR (q:=21) (m:=21) rfl hj)⟩
end Go.Proofs.YtmhifeahpnkpiaaGreatDoor
