/- Out of my texts: RlE, RlG, RlH, RlJ, RlK, QaG, BeJ, RlL, HsN, HsQ, CuA, CuB, CuC, CuD, CuE, CuF, CuG, CuH, CuI, CuJ, CuK, CuL, CuM, CuN, CuO, CuP, CuQ, CuS, CuU, CwA, CwB, RvW, CwP, RvX, RvO, RvU, CwC, CwD, CwE, CwF, CwG, BeK, CwH, CwI, CwJ, CwK, CwL, CwM, CwN, CwO, CwQ. -/
import Derived.Deep.DeepCutAuto
import Derived.Deep.RegionHeld3
import Derived.Test.YtmhifeahpnkpiaaGreatDoorSAA
import Derived.Test.YtmhifeahpnkpiaaGreatDoorSAB
import Derived.Test.YtmhifeahpnkpiaaGreatDoorSAC
set_option maxRecDepth 20000
set_option maxHeartbeats 8000000
set_option linter.unusedVariables false
namespace Go.Proofs.YtmhifeahpnkpiaaGreatDoor
open Go.RowKit
theorem fI.parts{w w':tF}{base:Nat}{oT:tN}{x:Ending}{o:Option Bt}(h:fI w w' base oT x o):∃a c,x= .returned (.tuple #[bQ (gk o).r (gk o).e (gk o).f (gk o).t (gk o).o a (gk o).es.length c,.bool o.isSome])∧w'.ownsRow base 55 6 (.slice a (gk o).es.length c) (gk o).es.length ((ak (gk o).es).map (Value.int .i64))∧(o=none→a=none∧c=0)∧Bn w oT (.slice a (gk o).es.length c)∧(o.isSome=true→(gk o).es.length<Aq oT→bZ w w'):=by
 cases o with
 |none=>exact⟨none,0,h,World.ownsRow_nil _ _ _ _,fun _=>⟨rfl,rfl⟩,(fun g hg=>by cases hg),fun h=>by cases h⟩
 |some D=>obtain⟨a,c,h1,h2,h3,h4⟩:=h;exact⟨a,c,h1,h2,(fun h=>by cases h),h3,fun _=>h4⟩
theorem fI.of{w w':tF}{base:Nat}{oT:tN}{o:Option Bt}{a:tG}{c:Nat}(h:w'.ownsRow base 55 6 (.slice a (gk o).es.length c) (gk o).es.length ((ak (gk o).es).map (Value.int .i64)))(hn:o=none→a=none∧c=0)(hl:Bn w oT (.slice a (gk o).es.length c))(hb:o.isSome=true→(gk o).es.length<Aq oT→bZ w w'):fI w w' base oT (.returned (.tuple #[bQ (gk o).r (gk o).e (gk o).f (gk o).t (gk o).o a (gk o).es.length c,.bool o.isSome])) o:=by
 cases o with
 |none=>obtain⟨rfl,rfl⟩:=hn rfl;rfl
 |some D=>exact⟨a,c,rfl,h,hl,hb rfl⟩
theorem CH(B:Bt)(base:Nat)(a:tG)(c:Nat)(r:Rec)(w:tF)(P Q N:Nat)(role:Int)(o:Option Bt)(hP:w.cell? ⟨P,0,none⟩=some (iV role))(hQ:w.cell? ⟨Q,0,none⟩=some (.func (.func N) #[] #[]))(hr:∀k,(Value.slice a B.es.length c).ownBlock=some k→k<w.heap.size)
  (XD:∀args w,(callFunc N args).run Tryz.prog w= .ok (.enter N args) w)
  (HN:∀W,bZ w W→cA N #[bQ B.r B.e B.f B.t B.o a B.es.length c,mG r] W fun x w'=>fI W w' base (.slice a B.es.length c) x o∧W.grownBy w' (Value.slice a B.es.length c).ownBlock):
  cA 239 #[bQ B.r B.e B.f B.t B.o a B.es.length c,mG r,.pointer (some ⟨P,0,none⟩),.pointer (some ⟨Q,0,none⟩)] w fun x w'=>fI w w' base (.slice a B.es.length c) x (J4 B r role o)∧w.grownBy w' (Value.slice a B.es.length c).ownBlock:=by
 have lP:=World.block_lt_of_cell? w _ hP;have lQ:=World.block_lt_of_cell? w _ hQ;have HNV:=ai HN;have HR:=ai hr;clear HN hr;go_enter Tryz.func239,Tryz.ntmps239
 go_upto_region 1 with fail
 obtain⟨W1,hW1,M1⟩:=Mr.made w B a c r;rw[←hW1];clear hW1;have p1:W1.cell? ⟨P,0,none⟩=some (iV role):=(M1.dC.cell (p:=⟨P,0,none⟩) lP).trans hP;have q1:W1.cell? ⟨Q,0,none⟩=some (.func (.func N) #[] #[]):=(M1.dC.cell (p:=⟨Q,0,none⟩) lQ).trans hQ;obtain⟨x0,x1,x2,x3,x4,x5⟩:=M1.b.cells;obtain⟨r0,r1,r2,r3,r4,r5,r6,r7,r8,r9⟩:=M1.rc.cells;have HM:=ai M1;clear M1 hP hQ lP lQ;by_cases h:B.r=role∧B.e=r.e
 case neg=>
  have hd:J4 B r role o=none:=if_neg h;have HD:=ai hd;obtain⟨z0,z1,z2,z3,z4,z5⟩:=(aa HM).z.cells;have zf:=(aa HM).z.free;have e0:(B.r !=role)=true∨((B.r !=role)=false∧(B.e !=r.e)=true):=by
   by_cases h1:B.r=role
   ·exact .inr ⟨by simp[h1],by simp;exact fun h2=>h ⟨h1,h2⟩⟩
   ·exact .inl (by simp[h1])
  clear h hd;rcases e0 with e1|⟨e1,e2⟩
  all_goals
   go_wp2;obtain⟨W4,hW4,d4,b4,_⟩:=dF (aa HM).z (aa HM).dC (show w.heap.size≤w.heap.size+2 by omega) 0 0 0 0 0 none 0 0;rw[←hW4];refine bodyPost_ret (LQ d4 rfl rfl) rfl ⟨?_,eO _ b4⟩;rw[aa HD];exact rfl
 case pos=>
 have hd:J4 B r role o=o:=if_pos h;have HD:=ai hd;have e1:(B.r !=role)=false:=by simp[h.1]
 have e2:(B.e !=r.e)=false:=by simp[h.2]
 clear h hd
 go_wp2_with (go_at_fn N;refine(aa HNV _ (aa HM).dC).mono ?_;rintro x W3 ⟨d3,g3⟩;obtain⟨a3,c3,rfl,i3,n3,l3,f3⟩:=d3.parts;have VL:=ai l3;have HF3:=ai f3;have zb:=(aa HM).grown g3 (aa HR);have zf:=zb.free;obtain⟨z0,z1,z2,z3,z4,z5⟩:=zb.cells;have HZ:=ai zb;have HI:=ai i3;have VJ:=ai n3;have VS:=ai (kG (eO _ (aa HM).dC) g3);clear d3 g3 zb i3 n3 l3 f3 x0 x1 x2 x3 x4 x5 r0 r1 r2 r3 r4 r5 r6 r7 r8 r9 p1 q1)
 obtain⟨W4,hW4,d4,_,t4⟩:=dF (aa HZ) (Below.refl _ _) (Nat.le_refl _) (gk o).r (gk o).e (gk o).f (gk o).t (gk o).o a3 (gk o).es.length c3;rw[←hW4];refine bodyPost_ret (LQ d4 rfl rfl) rfl ⟨?_,iA (aa VS) t4 (by omega)⟩;rw[aa HD];exact fI.of (t4.owns (aa HI) (aU (aa HI) (aa HZ) (by decide))) (aa VJ) ((aa VL).lower (aa HM).dC.size) (fun h1 h2=>t4.under (Below.next (aa HM).dC (aa HF3 h1 h2)) (by omega))
theorem EJ(B:Bt)(base:Nat)(a:tG)(c:Nat)(r:Rec)(w:tF)(Q N:Nat)(o:Option Bt)(hQ:w.cell? ⟨Q,0,none⟩=some (.func (.func N) #[] #[]))(hr:∀k,(Value.slice a B.es.length c).ownBlock=some k→k<w.heap.size)
  (XD:∀args w,(callFunc N args).run Tryz.prog w= .ok (.enter N args) w)
  (HN:∀W,bZ w W→cA N #[bQ B.r B.e B.f B.t B.o a B.es.length c,mG r] W fun x w'=>fI W w' base (.slice a B.es.length c) x o∧W.grownBy w' (Value.slice a B.es.length c).ownBlock):
  cA 238 #[bQ B.r B.e B.f B.t B.o a B.es.length c,mG r,.pointer (some ⟨Q,0,none⟩)] w fun x w'=>fI w w' base (.slice a B.es.length c) x (gT r o)∧w.grownBy w' (Value.slice a B.es.length c).ownBlock:=by
 have lQ:=World.block_lt_of_cell? w _ hQ;have HNV:=ai HN;have HR:=ai hr;clear HN hr;go_enter Tryz.func238,Tryz.ntmps238
 go_upto_region 1 with fail
 obtain⟨W1,hW1,M1⟩:=Mr.made w B a c r;rw[←hW1];clear hW1;have q1:W1.cell? ⟨Q,0,none⟩=some (.func (.func N) #[] #[]):=(M1.dC.cell (p:=⟨Q,0,none⟩) lQ).trans hQ;obtain⟨x0,x1,x2,x3,x4,x5⟩:=M1.b.cells;obtain⟨r0,r1,r2,r3,r4,r5,r6,r7,r8,r9⟩:=M1.rc.cells;have HM:=ai M1;clear M1 hQ lQ;by_cases h:r.p=0
 case neg=>
  have hd:gT r o=none:=if_neg h;have HD:=ai hd;obtain⟨z0,z1,z2,z3,z4,z5⟩:=(aa HM).z.cells;have zf:=(aa HM).z.free;have e1:(r.p !=0)=true:=by simp[h]
  clear h hd;go_wp2;obtain⟨W4,hW4,d4,b4,_⟩:=dF (aa HM).z (aa HM).dC (show w.heap.size≤w.heap.size+2 by omega) 0 0 0 0 0 none 0 0;rw[←hW4];refine bodyPost_ret (py d4 rfl rfl) rfl ⟨?_,eO _ b4⟩;rw[aa HD];exact rfl
 case pos=>
 have hd:gT r o=o:=if_pos h;have HD:=ai hd;have e1:(r.p !=0)=false:=by simp[h]
 clear h hd
 go_wp2_with (go_at_fn N;refine(aa HNV _ (aa HM).dC).mono ?_;rintro x W3 ⟨d3,g3⟩;obtain⟨a3,c3,rfl,i3,n3,l3,f3⟩:=d3.parts;have VL:=ai l3;have HF3:=ai f3;have zb:=(aa HM).grown g3 (aa HR);have zf:=zb.free;obtain⟨z0,z1,z2,z3,z4,z5⟩:=zb.cells;have HZ:=ai zb;have HI:=ai i3;have VJ:=ai n3;have VS:=ai (kG (eO _ (aa HM).dC) g3);clear d3 g3 zb i3 n3 l3 f3 x0 x1 x2 x3 x4 x5 r0 r1 r2 r3 r4 r5 r6 r7 r8 r9 q1)
 obtain⟨W4,hW4,d4,_,t4⟩:=dF (aa HZ) (Below.refl _ _) (Nat.le_refl _) (gk o).r (gk o).e (gk o).f (gk o).t (gk o).o a3 (gk o).es.length c3;rw[←hW4];refine bodyPost_ret (py d4 rfl rfl) rfl ⟨?_,iA (aa VS) t4 (by omega)⟩;rw[aa HD];exact fI.of (t4.owns (aa HI) (aU (aa HI) (aa HZ) (by decide))) (aa VJ) ((aa VL).lower (aa HM).dC.size) (fun h1 h2=>t4.under (Below.next (aa HM).dC (aa HF3 h1 h2)) (by omega))
theorem J8(B:Bt)(base:Nat)(a:tG)(c:Nat)(r:Rec)(w:tF)(Q N P1 P2:Nat)(o:Option Bt)(hQ:w.cell? ⟨Q,0,none⟩=some (.func (.func N) #[] #[.pointer (some ⟨P1,0,none⟩),.pointer (some ⟨P2,0,none⟩)]))(hr:∀k,(Value.slice a B.es.length c).ownBlock=some k→k<w.heap.size)
  (XD:∀args w,(callFunc N args).run Tryz.prog w= .ok (.enter N args) w)
  (HN:∀W,bZ w W→cA N #[bQ B.r B.e B.f B.t B.o a B.es.length c,mG r,.pointer (some ⟨P1,0,none⟩),.pointer (some ⟨P2,0,none⟩)] W fun x w'=>fI W w' base (.slice a B.es.length c) x o∧W.grownBy w' (Value.slice a B.es.length c).ownBlock):
  cA 238 #[bQ B.r B.e B.f B.t B.o a B.es.length c,mG r,.pointer (some ⟨Q,0,none⟩)] w fun x w'=>fI w w' base (.slice a B.es.length c) x (gT r o)∧w.grownBy w' (Value.slice a B.es.length c).ownBlock:=by
 have lQ:=World.block_lt_of_cell? w _ hQ;have HNV:=ai HN;have HR:=ai hr;clear HN hr;go_enter Tryz.func238,Tryz.ntmps238
 go_upto_region 1 with fail
 obtain⟨W1,hW1,M1⟩:=Mr.made w B a c r;rw[←hW1];clear hW1;have q1:W1.cell? ⟨Q,0,none⟩=some (.func (.func N) #[] #[.pointer (some ⟨P1,0,none⟩),.pointer (some ⟨P2,0,none⟩)]):=(M1.dC.cell (p:=⟨Q,0,none⟩) lQ).trans hQ;obtain⟨x0,x1,x2,x3,x4,x5⟩:=M1.b.cells;obtain⟨r0,r1,r2,r3,r4,r5,r6,r7,r8,r9⟩:=M1.rc.cells;have HM:=ai M1;clear M1 hQ lQ;by_cases h:r.p=0
 case neg=>
  have hd:gT r o=none:=if_neg h;have HD:=ai hd;obtain⟨z0,z1,z2,z3,z4,z5⟩:=(aa HM).z.cells;have zf:=(aa HM).z.free;have e1:(r.p !=0)=true:=by simp[h]
  clear h hd;go_wp2;obtain⟨W4,hW4,d4,b4,_⟩:=dF (aa HM).z (aa HM).dC (show w.heap.size≤w.heap.size+2 by omega) 0 0 0 0 0 none 0 0;rw[←hW4];refine bodyPost_ret (py d4 rfl rfl) rfl ⟨?_,eO _ b4⟩;rw[aa HD];exact rfl
 case pos=>
 have hd:gT r o=o:=if_pos h;have HD:=ai hd;have e1:(r.p !=0)=false:=by simp[h]
 clear h hd
 go_wp2_with (go_at_fn N;refine(aa HNV _ (aa HM).dC).mono ?_;rintro x W3 ⟨d3,g3⟩;obtain⟨a3,c3,rfl,i3,n3,l3,f3⟩:=d3.parts;have VL:=ai l3;have HF3:=ai f3;have zb:=(aa HM).grown g3 (aa HR);have zf:=zb.free;obtain⟨z0,z1,z2,z3,z4,z5⟩:=zb.cells;have HZ:=ai zb;have HI:=ai i3;have VJ:=ai n3;have VS:=ai (kG (eO _ (aa HM).dC) g3);clear d3 g3 zb i3 n3 l3 f3 x0 x1 x2 x3 x4 x5 r0 r1 r2 r3 r4 r5 r6 r7 r8 r9 q1)
 obtain⟨W4,hW4,d4,_,t4⟩:=dF (aa HZ) (Below.refl _ _) (Nat.le_refl _) (gk o).r (gk o).e (gk o).f (gk o).t (gk o).o a3 (gk o).es.length c3;rw[←hW4];refine bodyPost_ret (py d4 rfl rfl) rfl ⟨?_,iA (aa VS) t4 (by omega)⟩;rw[aa HD];exact fI.of (t4.owns (aa HI) (aU (aa HI) (aa HZ) (by decide))) (aa VJ) ((aa VL).lower (aa HM).dC.size) (fun h1 h2=>t4.under (Below.next (aa HM).dC (aa HF3 h1 h2)) (by omega))
def CI(w:tF)(base:Nat)(v:tN)(B:Bt)(a:tG)(c:Nat)(r:Rec)(o:Option Bt):Prop:=∃g cap,v= .func (.func g) #[] cap∧(∀args w,(callFunc g args).run Tryz.prog w= .ok (.enter g args) w)∧
 ∀W,bZ w W→cA g (#[bQ B.r B.e B.f B.t B.o a B.es.length c,mG r]++cap) W fun x w'=>fI W w' base (.slice a B.es.length c) x o∧W.grownBy w' (Value.slice a B.es.length c).ownBlock
def mI(w:tF)(base:Nat)(N:Nat)(B:Bt)(a:tG)(c:Nat)(r:Rec)(o:Option Bt):Prop:=(∀args w,(callFunc N args).run Tryz.prog w= .ok (.enter N args) w)∧
 ∀W,bZ w W→cA N #[bQ B.r B.e B.f B.t B.o a B.es.length c,mG r] W fun x w'=>fI W w' base (.slice a B.es.length c) x o∧W.grownBy w' (Value.slice a B.es.length c).ownBlock
section
variable{w:tF}{B:Bt}{a:tG}{c base:Nat}{r:Rec}
theorem Br(hb:base≤w.heap.size):mI w base 217 B a c r (iU B r):=
 ⟨enters_of Tryz.func217 (by kernel_rfl) rfl,fun W b=>(G9 B a c r W).mono fun x w' ⟨h1,h2⟩=>⟨fI.fresh h1 (Nat.le_trans hb b.size) h2,eO _ h2⟩⟩
theorem Bu(hb:base≤w.heap.size):mI w base 223 B a c r (some (yq B)):=
 ⟨enters_of Tryz.func223 (by kernel_rfl) rfl,fun W b=>(G_ B a c r W).mono fun x w' ⟨h1,h2⟩=>⟨fI.fresh h1 (Nat.le_trans hb b.size) h2,eO _ h2⟩⟩
theorem Au(bN:w.ownsRow base 55 6 (.slice a B.es.length c) B.es.length ((ak B.es).map (Value.int .i64)))(hb:base≤w.heap.size)(hs:(B.es.length+1)*48≤140737488355328):mI w base 219 B a c r (some (B.more [r.v])):=
 ⟨enters_of Tryz.func219 (by kernel_rfl) rfl,fun W b=>RO B a c r W base (mX bN b) (Nat.le_trans hb b.size) hs⟩
theorem xZ(bN:w.ownsRow base 55 6 (.slice a B.es.length c) B.es.length ((ak B.es).map (Value.int .i64)))(hb:base≤w.heap.size)(hs:(B.es.length+1)*48≤140737488355328):mI w base 222 B a c r (some ⟨1,B.e,0,B.t,B.o,B.es++[Ev.brk]⟩):=
 ⟨enters_of Tryz.func222 (by kernel_rfl) rfl,fun W b=>Bq B a c r W base (mX bN b) (Nat.le_trans hb b.size) hs⟩
theorem Hf(bN:w.ownsRow base 55 6 (.slice a B.es.length c) B.es.length ((ak B.es).map (Value.int .i64))):mI w base 220 B a c r (some ⟨3,B.e,B.f,r.p,B.o,B.es⟩):=
 ⟨enters_of Tryz.func220 (by kernel_rfl) rfl,fun W b=>Ob B a c r W base (mX bN b)⟩
theorem EK(bN:w.ownsRow base 55 6 (.slice a B.es.length c) B.es.length ((ak B.es).map (Value.int .i64)))(hs:B.cC):mI w base 221 B a c r (kc B r):=
 ⟨enters_of Tryz.func221 (by kernel_rfl) rfl,fun W b=>(J0 B a c r W base (mX bN b) hs).mono fun x w' ⟨h1,h2⟩=>⟨h1,eO _ h2⟩⟩
theorem mI.aey{N:Nat}{o:Option Bt}(h:mI w base N B a c r o):CI w base (.func (.func N) #[] #[]) B a c r o:=⟨N,#[],rfl,h.1,h.2⟩
theorem RP{v:tN}{N:Nat}{o:Option Bt}(hv:N9 w v N)(h:mI w base N B a c r o)(hr:∀k,(Value.slice a B.es.length c).ownBlock=some k→k<w.heap.size):CI w base v B a c r (gT r o):=by
 obtain⟨Q,rfl,hq⟩:=hv;exact⟨_,_,rfl,enters_of Tryz.func238 (by kernel_rfl) rfl,fun W b=>EJ B base a c r W Q N o (aH b _ _ hq) (fun k hk=>Nat.lt_of_lt_of_le (hr k hk) b.size) h.1 (fun W' b'=>h.2 W' (kh b b'))⟩
theorem RQ{v:tN}{N:Nat}{role:Int}{o:Option Bt}(hv:Bp w v role N)(h:mI w base N B a c r o)(hr:∀k,(Value.slice a B.es.length c).ownBlock=some k→k<w.heap.size):CI w base v B a c r (J4 B r role o):=by
 obtain⟨P,Q,rfl,hp,hq⟩:=hv;exact⟨_,_,rfl,enters_of Tryz.func239 (by kernel_rfl) rfl,fun W b=>CH B base a c r W P Q N role o (aH b _ _ hp) (aH b _ _ hq) (fun k hk=>Nat.lt_of_lt_of_le (hr k hk) b.size) h.1 (fun W' b'=>h.2 W' (kh b b'))⟩
theorem vu{v:tN}{N:Nat}{role:Int}{o:Option Bt}(hv:EH w v role N)(h:mI w base N B a c r o)(hr:∀k,(Value.slice a B.es.length c).ownBlock=some k→k<w.heap.size):CI w base v B a c r (gT r (J4 B r role o)):=by
 obtain⟨Q,u,rfl,hq,P1,P2,rfl,hp1,hp2⟩:=hv
 exact⟨_,_,rfl,enters_of Tryz.func238 (by kernel_rfl) rfl,fun W b=>J8 B base a c r W Q 239 P1 P2 _ (aH b _ _ hq) (fun k hk=>Nat.lt_of_lt_of_le (hr k hk) b.size) (enters_of Tryz.func239 (by kernel_rfl) rfl)
  (fun W' b'=>CH B base a c r W' P1 P2 N role o (aH (kh b b') _ _ hp1) (aH (kh b b') _ _ hp2) (fun k hk=>Nat.lt_of_lt_of_le (hr k hk) (kh b b').size) h.1 (fun XO b''=>h.2 XO (kh (kh b b') b'')))⟩
theorem Table.abN{M:Nat}{v1 v2 v3 v5 v6 v7:tN}(t:Table w M v1 v2 v3 v5 v6 v7)(bN:w.ownsRow base 55 6 (.slice a B.es.length c) B.es.length ((ak B.es).map (Value.int .i64)))(hb:base≤w.heap.size)(hs:B.cC)(hlen:(B.es.length+1)*48≤140737488355328)(hk:r.k=1∨r.k=2∨r.k=3∨r.k=4∨r.k=5∨r.k=6∨r.k=7):
  ∃v,(Instr.lookup 273 (.map (some M)) (iV r.k) false).run Tryz.prog w= .ok v w∧CI w base v B a c r (gg B r):=by
 obtain⟨l1,l2,l3,l4,l5,l6,l7⟩:=sZ t;have hr:∀k,(Value.slice a B.es.length c).ownBlock=some k→k<w.heap.size:=fun k hk=>(bN.lt k hk).2;rcases hk with e|e|e|e|e|e|e<;>rw[e]
 ·refine⟨_,l1, ?_⟩;have:gg B r=gT r (iU B r):=by unfold gg;rw[if_neg (by omega)];unfold cX gT iU;rw[if_pos e];by_cases g:r.p=0<;>simp[g]
  rw[this];exact RP t.d1 (Br hb) hr
 ·refine⟨_,l2, ?_⟩;have:gg B r=gT r (J4 B r 1 (some (B.more [r.v]))):=by unfold gg;rw[if_neg (by omega)];unfold cX gT J4;rw[if_neg (by omega),if_pos e];by_cases g:r.p=0<;>by_cases g1:B.e=r.e<;>by_cases g2:B.r=1<;>simp[g,g1,g2]
  rw[this];exact vu t.d2 (Au bN hb hlen) hr
 ·refine⟨_,l3, ?_⟩;have:gg B r=J4 B r 1 (some ⟨3,B.e,B.f,r.p,B.o,B.es⟩):=by unfold gg;rw[if_neg (by omega)];unfold cX J4;rw[if_neg (by omega),if_neg (by omega),if_pos e];by_cases g1:B.e=r.e<;>by_cases g2:B.r=1<;>simp[g1,g2]
  rw[this];exact RQ t.d3 (Hf bN) hr
 ·refine⟨_,l4, ?_⟩;have:gg B r=kc B r:=by unfold gg;rw[if_pos e]
  rw[this];exact(EK bN hs).aey
 ·refine⟨_,l5, ?_⟩;have:gg B r=gT r (J4 B r 4 (some (B.more [r.v]))):=by unfold gg;rw[if_neg (by omega)];unfold cX gT J4;rw[if_neg (by omega),if_neg (by omega),if_neg (by omega),if_neg (by omega),if_pos e];by_cases g:r.p=0<;>by_cases g1:B.e=r.e<;>by_cases g2:B.r=4<;>simp[g,g1,g2]
  rw[this];exact vu t.d5 (Au bN hb hlen) hr
 ·refine⟨_,l6, ?_⟩;have:gg B r=gT r (J4 B r 4 (some ⟨1,B.e,0,B.t,B.o,B.es++[Ev.brk]⟩)):=by unfold gg;rw[if_neg (by omega)];unfold cX gT J4;rw[if_neg (by omega),if_neg (by omega),if_neg (by omega),if_neg (by omega),if_neg (by omega),if_pos e];by_cases g:r.p=0<;>by_cases g1:B.e=r.e<;>by_cases g2:B.r=4<;>simp[g,g1,g2]
  rw[this];exact vu t.d6 (xZ bN hb hlen) hr
 ·refine⟨_,l7, ?_⟩;have:gg B r=gT r (J4 B r 3 (some (yq B))):=by unfold gg;rw[if_neg (by omega)];unfold cX gT J4 yq;rw[if_neg (by omega),if_neg (by omega),if_neg (by omega),if_neg (by omega),if_neg (by omega),if_neg (by omega)];by_cases g:r.p=0<;>by_cases g1:B.e=r.e<;>by_cases g2:B.r=3<;>simp[g,g1,g2]
  rw[this];exact vu t.d7 (Bu hb) hr
end
theorem J9(g R n p:Nat)(w:tF)(hn:n≤1000000000000000)(hp:p≤n)
  (XD:∀args w,(callFunc g args).run Tryz.prog w= .ok (.enter g args) w)
  (HF:∀(h:Nat) (W:tF),h<n→bZ w W→cA g #[iV h,.pointer (some ⟨R,0,none⟩)] W (rB (.bool (decide (p≤h))) W)):
  cA 146 #[iV n,.func (.func g) #[] #[.pointer (some ⟨R,0,none⟩)]] w (rB (iV p) w):=by
 have HFV:=ai HF;clear HF;go_enter Tryz.func146,Tryz.ntmps146;go_wp2
 go_loopw [5,6] (fun t s wr=>∃i j:Nat,i≤p∧p≤j∧j≤n∧t=iV i∧s=iV j∧bZ w wr) (fun t s _=>(intOf s).toNat-(intOf t).toNat)
 case atStart=>exact⟨0,n,Nat.zero_le _,hp,Nat.le_refl _,rfl,rfl,Below.refl _ _⟩
 case round=>
  obtain⟨i,j,h1,h2,h3,rfl,rfl,dC⟩:=hrel;have HB:=ai dC;clear dC;by_cases aW:i<j
  ·go_upto_region 4 with fail
   obtain⟨m,hm,m1,m2⟩:∃m:Nat,((i:Int)+(j:Int))/2=(m:Int)∧i≤m∧m<j:=⟨(i+j)/2,by omega,by omega,by omega⟩;rw[hm];have HC:=aa HFV m wr (by omega) (aa HB);have hmn:m≤1000000000000000:=by omega
   by_cases hpm:p≤m
   ·rw[decide_eq_true hpm]at HC;have HP:=ai hpm;clear hpm hm
    go_wp2_with (go_at_fn g;refine HC.mono ?_;rintro x W2 ⟨rfl,b2⟩;have th:=ai (Below.next (aa HB) b2);clear HC b2)
    all_goals(go_roundw<;>first|exact⟨i,m,h1,aa HP,by omega,rfl,rfl,aa th⟩|(simp[intOf];omega))
   ·rw[decide_eq_false hpm]at HC;have HP:=ai hpm;clear hpm hm
    go_wp2_with (go_at_fn g;refine HC.mono ?_;rintro x W2 ⟨rfl,b2⟩;have th:=ai (Below.next (aa HB) b2);clear HC b2)
    all_goals(go_roundw<;>first|exact⟨m+1,j,by have:=aa HP;omega,h2,h3,by go_num,rfl,aa th⟩|(simp[intOf];omega))
  ·obtain rfl:i=p:=by omega
   go_wp2;go_ret;exact⟨rfl,aa HB⟩
theorem Tryz.Od:(Tryz.prog.info? 49).map (fun i=>(i.zero,i.size,i.bytes))=some (some (bQ 0 0 0 0 0 none 0 0),6,64):=by kernel_rfl
def xM:Array Value:=du 0 0 0 0 0 none 0 0++du 0 0 0 0 0 none 0 0++du 0 0 0 0 0 none 0 0++du 0 0 0 0 0 none 0 0
theorem Oe(w:tF):(Instr.makeSlice 50 (iV 4) (iV 4)).run Tryz.prog w= .ok (.slice (some ⟨w.heap.size,0,none⟩) 4 4) (w.alloc (.cells xM 49)):=by
 obtain⟨i,h1,h2,h3,h4⟩:=gY Tryz.Od;have:=run_make (P:=Tryz.prog) w 50 49 i _ Tryz.underlying50 h1 h2 .i64 .i64 4 4 (by omega) (by omega) (by rw[h4];omega) (by omega);rw[h3]at this;have e:madeCells (bQ 0 0 0 0 0 none 0 0).cells (Int.toNat 4*6)=xM:=by first|kernel_rfl|(apply Array.toList_inj.1;simp[madeCells,xM,du,List.range_succ,Value.cells])|(simp[madeCells,xM,Array.range,Value.cells];rfl)
 rw[e]at this;exact this
theorem rh{P:tI}(h0:P 0)(h1:P 1)(h2:P 2)(h3:P 3):∀i,i<4→P i
 |0,_=>h0
 |1,_=>h1
 |2,_=>h2
 |3,_=>h3
 |n+4,h=>absurd h (by omega)
def pA{α:Type}(f:Nat→α)(q:Nat)(x:α):Nat→α:=fun p=>if p=q then x else f p
theorem qP{α:Type}(f:Nat→α)(q:Nat)(x:α):pA f q x q=x:=by simp[pA]
theorem n_{α:Type}(f:Nat→α){q p:Nat}(x:α)(h:p≠q):pA f q x p=f p:=by simp[pA,h]
abbrev yt(f:Nat→Bt)(A:Nat→Option Addr)(K:tU):Array Value:=
 #[iV (f 0).r,iV (f 0).e,iV (f 0).f,iV (f 0).t,iV (f 0).o,.slice (A 0) (f 0).es.length (K 0),iV (f 1).r,iV (f 1).e,iV (f 1).f,iV (f 1).t,iV (f 1).o,.slice (A 1) (f 1).es.length (K 1),
  iV (f 2).r,iV (f 2).e,iV (f 2).f,iV (f 2).t,iV (f 2).o,.slice (A 2) (f 2).es.length (K 2),iV (f 3).r,iV (f 3).e,iV (f 3).f,iV (f 3).t,iV (f 3).o,.slice (A 3) (f 3).es.length (K 3)]
def gW(w:tF)(Y:Nat)(f:Nat→Bt)(A:Nat→Option Addr)(K:tU):Prop:=w.heap[Y]? =some (.cells (yt f A K) 49 (0,0))
section
variable{w w':tF}{Y:Nat}{f:Nat→Bt}{A:Nat→Option Addr}{K:tU}
theorem gW.lt(h:gW w Y f A K):Y<w.heap.size:=cj h
theorem gW.free(h:gW w Y f A K)(o:Nat):w.frozen? ⟨Y,o,none⟩=false:=by
 unfold gW at h;simp[World.frozen?,h]
theorem gW.at(h:gW w Y f A K):∀q,q<4→w.cell? ⟨Y,q*6,none⟩=some (iV (f q).r)∧w.cell? ⟨Y,q*6+1,none⟩=some (iV (f q).e)∧w.cell? ⟨Y,q*6+2,none⟩=some (iV (f q).f)∧w.cell? ⟨Y,q*6+3,none⟩=some (iV (f q).t)∧w.cell? ⟨Y,q*6+4,none⟩=some (iV (f q).o)∧w.cell? ⟨Y,q*6+5,none⟩=some (.slice (A q) (f q).es.length (K q)):=by
 unfold gW at h;refine rh ?_ ?_ ?_ ?_<;>simp[World.cell?,h]
theorem gW.put(h:gW w Y f A K)(q:Nat)(hq:q<4)(D:Bt)(a:tG)(c:Nat):gW ((((((w.setCell ⟨Y,q*6,none⟩ (iV D.r)).setCell ⟨Y,q*6+1,none⟩ (iV D.e)).setCell ⟨Y,q*6+2,none⟩ (iV D.f)).setCell ⟨Y,q*6+3,none⟩ (iV D.t)).setCell ⟨Y,q*6+4,none⟩ (iV D.o)).setCell ⟨Y,q*6+5,none⟩ (.slice a D.es.length c)) Y (pA f q D) (pA A q a) (pA K q c):=by
 unfold gW at h⊢;rw[cy (cy (cy (cy (cy (cy h)))))];have:∀q,q<4→((((((yt f A K).set! (q*6) (iV D.r)).set! (q*6+1) (iV D.e)).set! (q*6+2) (iV D.f)).set! (q*6+3) (iV D.t)).set! (q*6+4) (iV D.o)).set! (q*6+5) (.slice a D.es.length c)=yt (pA f q D) (pA A q a) (pA K q c):=by
  refine rh ?_ ?_ ?_ ?_<;>simp[pA]
 rw[this q hq]
end
theorem Hg(w:tF)(Y q:Nat)(v0 v1 v2 v3 v4 v5:tN):av Y w ((((((w.setCell ⟨Y,q*6,none⟩ v0).setCell ⟨Y,q*6+1,none⟩ v1).setCell ⟨Y,q*6+2,none⟩ v2).setCell ⟨Y,q*6+3,none⟩ v3).setCell ⟨Y,q*6+4,none⟩ v4).setCell ⟨Y,q*6+5,none⟩ v5):=
 (((((av.set Y _ w _).trans (av.set Y _ _ _)).trans (av.set Y _ _ _)).trans (av.set Y _ _ _)).trans (av.set Y _ _ _)).trans (av.set Y _ _ _)
abbrev np(f:Nat→Bt)(A:Nat→Option Addr)(K:tU)(q:Nat):Value:= .slice (A q) (f q).es.length (K q)
structure J_(W:tF)(Y:Nat)(f:Nat→Bt)(A:Nat→Option Addr)(K:tU):Prop where
 b:gW W Y f A K
 own:∀q,q<4→W.ownsRow (Y+1) 55 6 (np f A K q) (f q).es.length ((ak (f q).es).map (Value.int .i64))
 apart:∀p q,p<4→q<4→p≠q→∀g,(np f A K p).ownBlock=some g→¬(np f A K q).ownBlock=some g
 cM:∀q,q<4→(f q).cC
 wf:∀q,q<4→∀u∈ak (f q).es,(Lit.int .i64 u).wf=true
theorem J_.next{W W':tF}{Y:Nat}{f:Nat→Bt}{A:Nat→Option Addr}{K:tU}(h:J_ W Y f A K)(b:bZ W W'):J_ W' Y f A K:=
 ⟨(b.block _ h.b.lt).trans h.b,fun q hq=>aK (h.own q hq) (fun g _ hg=>b.block g hg),h.apart,h.cM,h.wf⟩
theorem J_.bin{W:tF}{Y:Nat}{f:Nat→Bt}{A:Nat→Option Addr}{K:tU}(h:J_ W Y f A K)(q:Nat)(hq:q<4):ja W (f q) (A q) (K q):=by
 obtain⟨a,c,e,r,l,_,n,_⟩:=RowK.jF (h.own q hq) (h.wf q hq);cases e;exact⟨r,l,n⟩
theorem J_.aez{W W':tF}{Y:Nat}{f:Nat→Bt}{A:Nat→Option Addr}{K:tU}(h:J_ W Y f A K)(q:Nat)(hq:q<4)(g:W.grownBy W' (np f A K q).ownBlock):
  gW W' Y f A K∧∀p,p<4→p≠q→W'.ownsRow (Y+1) 55 6 (np f A K p) (f p).es.length ((ak (f p).es).map (Value.int .i64)):=by
 refine⟨(g.block _ h.b.lt (fun e=> ?_)).trans h.b,fun p hp fJ=>rE (h.own p hp) g (fun x hx e=>h.apart p q hp hq fJ x hx e)⟩;have:=((h.own q hq).lt _ e.symm).1;omega
theorem J_.put{W W' XO:tF}{Y:Nat}{f:Nat→Bt}{A:Nat→Option Addr}{K:tU}(h:J_ W Y f A K)(q:Nat)(hq:q<4){D:Bt}{a:tG}{c:Nat}
  (ho:∀p,p<4→p≠q→W'.ownsRow (Y+1) 55 6 (np f A K p) (f p).es.length ((ak (f p).es).map (Value.int .i64)))
  (hD:W'.ownsRow (Y+1) 55 6 (.slice a D.es.length c) D.es.length ((ak D.es).map (Value.int .i64))) (hl:Bn W (np f A K q) (.slice a D.es.length c)) (hs:D.cC) (hw:∀u∈ak D.es,(Lit.int .i64 u).wf=true)
  (t:av Y W' XO) (b:gW XO Y (pA f q D) (pA A q a) (pA K q c)):J_ XO Y (pA f q D) (pA A q a) (pA K q c):=by
 have eq1:np (pA f q D) (pA A q a) (pA K q c) q= .slice a D.es.length c:=by simp only[np,qP]
 have ne1:∀p,p≠q→np (pA f q D) (pA A q a) (pA K q c) p=np f A K p:=fun p hp=>by simp only[np,n_ _ _ hp]
 refine⟨b,fun p hp=> ?_,fun p p' hp hp' fJ g hg=> ?_,fun p hp=> ?_,fun p hp=> ?_⟩
 ·by_cases e:p=q
  ·subst e;rw[eq1,qP];exact t.own hD (by omega)
  ·rw[ne1 p e,n_ _ _ e];exact t.own (ho p hp e) (by omega)
 ·by_cases e:p=q
  ·subst e;rw[eq1]at hg;rw[ne1 p' (fun h=>fJ h.symm)];rcases hl g hg with h1|h1
   ·exact h.apart p p' hp hp' fJ g h1
   ·exact fun h2=>by have:=((h.own p' hp').lt g h2).2;omega
  ·rw[ne1 p e]at hg;by_cases e':p'=q
   ·subst e';rw[eq1];intro h2;rcases hl g h2 with h1|h1
    ·exact h.apart p p' hp hp' fJ g hg h1
    ·have:=((h.own p hp).lt g hg).2;omega
   ·rw[ne1 p' e'];exact h.apart p p' hp hp' fJ g hg
 ·by_cases e:p=q
  ·subst e;rw[qP];exact hs
  ·rw[n_ _ _ e];exact h.cM p hp
 ·by_cases e:p=q
  ·subst e;rw[qP];exact hw
  ·rw[n_ _ _ e];exact h.wf p hp
def kK(f:Nat→Bt):List Bt:=[f 0,f 1,f 2,f 3]
theorem PL(f:Nat→Bt)(r:Rec)(q:Nat)(hq:q<4)(e:r.q=q):At (kK f) r=f q:=by
 have h1:r.q.toNat=q:=by omega
 unfold At;rw[h1];have:∀q,q<4→(kK f).getD q Bt.zero=f q:=by refine rh ?_ ?_ ?_ ?_<;>rfl
 exact this q hq
theorem Ky(f:Nat→Bt)(r:Rec)(D:Bt)(q:Nat)(hq:q<4)(e:r.q=q):put (kK f) r D=kK (pA f q D):=by
 have h1:r.q.toNat=q:=by omega
 unfold put;rw[h1];have:∀q,q<4→(kK f).set q D=kK (pA f q D):=by refine rh ?_ ?_ ?_ ?_<;>simp[kK,pA]
 exact this q hq
theorem uc(f:Nat→Bt)(P:Bt→Prop):(∀B∈kK f,P B)↔∀q,q<4→P (f q):=by
 constructor
 ·intro h;exact rh (h _ (by simp[kK])) (h _ (by simp[kK])) (h _ (by simp[kK])) (h _ (by simp[kK]))
 ·intro h B hB;simp only[kK,List.mem_cons,List.not_mem_nil,or_false]at hB;rcases hB with rfl|rfl|rfl|rfl
  ·exact h 0 (by omega)
  ·exact h 1 (by omega)
  ·exact h 2 (by omega)
  ·exact h 3 (by omega)
def bn(r:Rec):List Int:=[r.k,r.q,r.e,r.p,r.v.k,r.v.p,r.v.i,r.v.b,r.v.he,r.v.hn]
def aD(rs:List Rec):List Int:=rs.flatMap bn
theorem s5:∀(rs:List Rec) (i:Nat) (h:i<rs.length) (j:Nat),j<10→(aD rs).getD (10*i+j) 0=(bn rs[i]).getD j 0
 |[],_,h,_,_=>absurd h (Nat.not_lt_zero _)
 |v::rs,0,_,j,hj=>by
  have hl:(bn v).length=10:=rfl;show(bn v++aD rs).getD (10*0+j) 0=_;rw[Nat.mul_zero,Nat.zero_add,cW _ _ _ (by omega)];rfl
 |v::rs,i+1,h,j,hj=>by
  have hl:(bn v).length=10:=rfl;show(bn v++aD rs).getD (10*(i+1)+j) 0=_;rw[show 10*(i+1)+j=10+(10*i+j) by omega,cS _ _ _ 10 hl,s5 rs i (by simpa using h) j hj];rfl
theorem VW{w:tF}{b off:Nat}{rs:List Rec}(hr:RowK .i64 w (some ⟨b,off,none⟩) (10*rs.length) (aD rs))(k:Nat)(hk:k<rs.length):
  w.cell? ⟨b,off+k*10,none⟩=some (iV rs[k].k)∧w.cell? ⟨b,off+k*10+1,none⟩=some (iV rs[k].q)∧w.cell? ⟨b,off+k*10+2,none⟩=some (iV rs[k].e)∧w.cell? ⟨b,off+k*10+3,none⟩=some (iV rs[k].p)∧w.cell? ⟨b,off+k*10+4,none⟩=some (iV rs[k].v.k)∧
  w.cell? ⟨b,off+k*10+5,none⟩=some (iV rs[k].v.p)∧w.cell? ⟨b,off+k*10+6,none⟩=some (iV rs[k].v.i)∧w.cell? ⟨b,off+k*10+7,none⟩=some (iV rs[k].v.b)∧w.cell? ⟨b,off+k*10+8,none⟩=some (iV rs[k].v.he)∧w.cell? ⟨b,off+k*10+9,none⟩=some (iV rs[k].v.hn):=by
 have ea:∀t,t<10→w.cell? ⟨b,off+(10*k+t),none⟩=some (iV ((bn rs[k]).getD t 0)):=fun t ht=>by
  rw[←s5 rs k hk t ht];exact hr.at (10*k+t) (by omega)
 rw[Nat.mul_comm k 10];exact⟨ea 0 (by omega),ea 1 (by omega),ea 2 (by omega),ea 3 (by omega),ea 4 (by omega),ea 5 (by omega),ea 6 (by omega),ea 7 (by omega),ea 8 (by omega),ea 9 (by omega)⟩
theorem Table.next{w w':tF}{M:Nat}{v1 v2 v3 v5 v6 v7:tN}(t:Table w M v1 v2 v3 v5 v6 v7)(b:bZ w w'):Table w' M v1 v2 v3 v5 v6 v7:=
 ⟨(b.block _ (cj t.pO)).trans t.pO,t.d1.keep (aH b),t.d2.keep (aH b),t.d3.keep (aH b),t.d5.keep (aH b),t.d6.keep (aH b),t.d7.keep (aH b)⟩
theorem Zk{w:tF}{a:tG}{rs:List Rec}(hr:RowK .i64 w a (10*rs.length) (aD rs))(k:Nat)(hk:k<rs.length):∀u∈aX rs[k].v,(Lit.int .i64 u).wf=true:=fun u hu=>by
 refine hr.wf u (List.mem_flatMap.2 ⟨rs[k],List.getElem_mem hk, ?_⟩);simp only[aX,bn,List.mem_cons,List.not_mem_nil,or_false]at hu⊢;rcases hu with h|h|h|h|h|h<;>simp[h]
theorem RS{B D:Bt}{r:Rec}(hs:B.cC)(hd:gg B r=some D)(hB:∀u∈ak B.es,(Lit.int .i64 u).wf=true)(hr:∀u∈aX r.v,(Lit.int .i64 u).wf=true):(∀u∈ak D.es,(Lit.int .i64 u).wf=true)∧D.es.length≤B.es.length+1:=by
 have nil:∀u∈ak [],(Lit.int .i64 u).wf=true:=fun u hu=>by cases hu
 have more:∀v:Ev,(∀u∈aX v,(Lit.int .i64 u).wf=true)→(∀u∈ak (B.es++[v]),(Lit.int .i64 u).wf=true)∧(B.es++[v]).length≤B.es.length+1:=fun v hv=>⟨fun u hu=>by
  rw[Gp]at hu;rcases List.mem_append.1 hu with h|h
  ·exact hB u h
  ·exact hv u h,by simp⟩
 unfold gg at hd;by_cases hk:r.k=4
 ·rw[if_pos hk]at hd;rcases xK hs hd with rfl|⟨rfl,_⟩
  ·exact⟨hB,by omega⟩
  ·exact⟨nil,by simp⟩
 rw[if_neg hk]at hd;unfold cX at hd
 repeat' split at hd
 all_goals first
  |(cases hd;done)
  |(cases hd;exact⟨nil,by simp⟩)
  |(cases hd;exact⟨hB,by simp⟩)
  |(cases hd;exact more _ hr)
  |(cases hd;exact more _ (by intro u hu;simp[aX,Ev.brk]at hu;rcases hu with rfl|rfl<;>decide))
  |contradiction
theorem Table.abO{w:tF}{M:Nat}{v1 v2 v3 v5 v6 v7:tN}{B:Bt}{a:tG}{c base:Nat}{r:Rec}(t:Table w M v1 v2 v3 v5 v6 v7)(bN:w.ownsRow base 55 6 (.slice a B.es.length c) B.es.length ((ak B.es).map (Value.int .i64)))(hb:base≤w.heap.size)(hs:B.cC)(hlen:(B.es.length+1)*48≤140737488355328)(hk:r.k=1∨r.k=2∨r.k=3∨r.k=4∨r.k=5∨r.k=6∨r.k=7):
  ∃v,(∀W,bZ w W→(Instr.lookup 273 (.map (some M)) (iV r.k) false).run Tryz.prog W= .ok v W)∧CI w base v B a c r (gg B r):=by
 obtain⟨v,h1,h2⟩:=t.abN bN hb hs hlen hk;refine⟨v,fun W b=> ?_,h2⟩;obtain⟨l1,l2,l3,l4,l5,l6,l7⟩:=sZ t;obtain⟨m1,m2,m3,m4,m5,m6,m7⟩:=sZ (t.next b);rcases hk with e|e|e|e|e|e|e<;>rw[e]at h1⊢
 ·rw[l1]at h1;cases h1;exact m1
 ·rw[l2]at h1;cases h1;exact m2
 ·rw[l3]at h1;cases h1;exact m3
 ·rw[l4]at h1;cases h1;exact m4
 ·rw[l5]at h1;cases h1;exact m5
 ·rw[l6]at h1;cases h1;exact m6
 ·rw[l7]at h1;cases h1;exact m7
def fQ:Nat→Bt:=fun _=>Bt.zero
theorem RU:xM=yt fQ (fun _=>none) (fun _=>0):=by first|rfl|simp[xM,du,fQ,Bt.zero]
theorem Bt.Ka:Bt.zero.cC:=Bt.dr.cM
def pB(w w':tF)(o:Option (List Bt)×Int)(x:Ending):Prop:=
 (o.1=none→x= .returned (.tuple #[.slice none 0 0,iV o.2]))∧
 ∀S,o.1=some S→∃Y f A K,x= .returned (.tuple #[.slice (some ⟨Y,0,none⟩) 4 4,iV 0])∧o.2=0∧S=kK f∧J_ w' Y f A K∧w.heap.size≤Y
theorem pB.none{w w':tF}{o:Option (List Bt)×Int}{e:Int}(h:o=(none,e)):pB w w' o (.returned (.tuple #[.slice none 0 0,iV e])):=by
 subst h;exact⟨fun _=>rfl,fun S h=>by cases h⟩
structure Td(W1 W:tF)(Y:Nat)(rs:List Rec)(k:Nat)(f:Nat→Bt)(A:Nat→Option Addr)(K:tU):Prop where
 dC:bZ W1 W
 fb:J_ W Y f A K
 eq:dh (kK fQ) rs=dh (kK f) (rs.drop k)
 few:∀q,q<4→(f q).es.length≤k
 up:W1.heap.size≤Y
theorem Td.next{W1 W W':tF}{Y:Nat}{rs:List Rec}{k:Nat}{f:Nat→Bt}{A:Nat→Option Addr}{K:tU}(h:Td W1 W Y rs k f A K)(b:bZ W W'):Td W1 W' Y rs k f A K:=⟨Below.next h.dC b,h.fb.next b,h.eq,h.few,h.up⟩
theorem wP(rs:List Rec)(a:tG)(c:Nat)(w:tF)(hr:RowK .i64 w a (10*rs.length) (aD rs))(hlen:(rs.length+1)*48≤140737488355328):
  cA 145 #[.slice a rs.length c] w fun x w'=>pB w w' (dh (kK fQ) rs) x∧bZ w w':=by
 have HR:Hid (∀W,bZ w W→RowK .i64 W a (10*rs.length) (aD rs)):=ai fun W b=>hr.below b;clear hr;obtain⟨o,ho⟩:∃o,o=dh (kK fQ) rs:=⟨_,rfl⟩;rw[←ho];have HO:=ai ho;clear ho;go_enter Tryz.func145,Tryz.ntmps145
 go_upto_region 2 with(go_at_call 190;refine(Oa w).mono ?_;rintro e W1 ⟨v1,v2,v3,v5,v6,v7,rfl,tb,d1⟩)
 have yL:=Oe W1;have HT:=ai tb;have Zl:=ai d1;clear tb d1
 go_upto_region 3 with fail
 obtain⟨W2,hW2,T2⟩:∃W2,W2=W1.alloc (.cells xM 49)∧Td W1 W2 W1.heap.size rs 0 fQ (fun _=>none) (fun _=>0):=by
  refine⟨_,rfl,aB _ _,⟨?_,fun q _=>World.ownsRow_nil _ _ _ _,(fun p q _ _ _ g hg=>by cases hg),fun q _=>Bt.Ka,fun q _ u hu=>by cases hu⟩,rfl,fun q _=>Nat.le_refl _,Nat.le_refl _⟩;have:=heap_alloc_new W1 (.cells xM 49);rw[RU]at this;exact this
 rw[←hW2];obtain⟨Y,hY⟩:∃Y,Y=W1.heap.size:=⟨_,rfl⟩;rw[←hY];have HT2:Hid (Td W1 W2 Y rs 0 fQ (fun _=>none) (fun _=>0)):=ai (by rw[hY];exact T2);clear hW2 yL T2 hY
 go_upto_region 4 with fail
 go_loopw [19] (fun i wr=>∃(k:Nat) (f:Nat→Bt) (A:Nat→Option Addr) (K:tU),k≤rs.length∧i=iV k∧Hid (Td W1 wr Y rs k f A K)) (fun i _=>rs.length-(intOf i).toNat)
 case atStart=>exact⟨0,_,_,_,Nat.zero_le _,rfl,HT2⟩
 case round=>
  obtain⟨k,f,A,K,hk,rfl,HTd⟩:=hrel;clear HT2;by_cases aW:k<rs.length
  case neg=>
   obtain rfl:k=rs.length:=by omega
   have HE:Hid (((∀q,q<4→(f q).Ok)→o=(some (kK f),0))∧(¬(∀q,q<4→(f q).Ok)→o=(none,3))):=ai (by
    rw[aa HO,(aa HTd).eq,List.drop_length];unfold dh
    exact⟨fun h=>if_pos ((uc f Bt.Ok).2 h),fun h=>if_neg (fun g=>h ((uc f Bt.Ok).1 g))⟩)
   clear HO
   go_upto_region 16 with fail
   go_loopw [68] (fun i wx=>∃q:Nat,q≤4∧i=iV q∧Hid (Td W1 wx Y rs rs.length f A K)∧Hid (∀p,p<q→(f p).Ok)) (fun i _=>4-(intOf i).toNat)
   case atStart=>exact⟨0,by omega,rfl,HTd,ai (fun p hp=>by omega)⟩
   case round=>
    obtain⟨q,hq,rfl,HTq,HI⟩:=hrel;by_cases vV:q<4
    case neg=>
     obtain rfl:q=4:=by omega
     have zy:Hid (o=(some (kK f),0)):=ai ((aa HE).1 (aa HI));go_wp2;go_ret2;refine⟨⟨(fun h=>by rw[aa zy]at h;cases h),fun S h=> ?_⟩,Below.next (aa Zl) (aa HTq).dC⟩;rw[aa zy]at h⊢;cases h;exact⟨Y,f,A,K,rfl,rfl,rfl,(aa HTq).fb,Nat.le_trans (aa Zl).size (aa HTq).up⟩
    case pos=>
     obtain⟨x0,x1,x2,x3,x4,x5⟩:=(aa HTq).fb.b.at q vV;have hYl:=(aa HTq).fb.b.lt;have hYn:Y≠wr.heap.size:=by omega
     have RF:Hid (∀W,bZ wr W→Td W1 W Y rs rs.length f A K∧ja W (f q) (A q) (K q)):=ai fun W b=>⟨(aa HTq).next b,((aa HTq).next b).fb.bin q vV⟩;obtain⟨B,hB⟩:∃B,B=f q:=⟨_,rfl⟩;obtain⟨aq,haq⟩:∃aq,aq=A q:=⟨_,rfl⟩;obtain⟨cq,hcq⟩:∃cq,cq=K q:=⟨_,rfl⟩;rw[←hB]at x0 x1 x2 x3 x4 x5 RF;rw[←haq]at x5 RF;rw[←hcq]at x5 RF;have HBq:=ai hB;clear hB haq hcq HTq
     go_upto_region 18 with fail
     obtain⟨W3,hW3,bb3,d3⟩:∃W3,W3=wr.alloc (.cells (du B.r B.e B.f B.t B.o aq B.es.length cq) 49)∧aG W3 wr.heap.size B.r B.e B.f B.t B.o aq B.es.length cq∧bZ wr W3:=⟨_,rfl,aG.new _ _ _ _ _ _ _ _ _,aB _ _⟩;rw[←hW3];clear hW3 x0 x1 x2 x3 x4 x5;obtain⟨x0,x1,x2,x3,x4,x5⟩:=bb3.cells;have Zh:=(aa RF W3 d3).2;have HD3:=ai d3;clear bb3 d3;by_cases ok:B.Ok
     ·have HC:=gH B aq cq W3 Zh ok;have HI2:Hid (∀p,p<q+1→(f p).Ok):=ai fun p hp=>by
       rcases Nat.lt_or_ge p q with h|h
       ·exact aa HI p h
       ·obtain rfl:p=q:=by omega
        rw[←aa HBq];exact ok
      clear Zh ok
      go_wp2_with (go_at_call 176;refine HC.mono ?_;rintro e W4 ⟨rfl,d4⟩;clear HC x0 x1 x2 x3 x4 x5;have Cp:=ai (aa RF W4 (Below.next (aa HD3) d4)).1;clear d4)
      go_roundw
      case rel=>exact⟨q+1,by omega,by go_num,Cp,HI2⟩
      case measure=>simp[intOf];omega
     ·have HC:=j7 B aq cq W3 Zh ok;have zy:Hid (o=(none,3)):=ai ((aa HE).2 (fun h=>ok (by rw[aa HBq];exact h q vV)));clear Zh ok
      go_wp2_with (go_at_call 176;refine HC.mono ?_;rintro e W4 ⟨rfl,d4⟩;clear HC x0 x1 x2 x3 x4 x5;have Cp:=ai (aa RF W4 (Below.next (aa HD3) d4)).1;clear d4)
      go_ret2;exact⟨pB.none (aa zy),Below.next (aa Zl) (aa Cp).dC⟩
  case pos=>
   have rQ:=aa HR wr (Below.next (aa Zl) (aa HTd).dC);obtain⟨bb,off,rfl⟩:=rQ.form (by omega);obtain⟨y0,y1,y2,y3,y4,y5,y6,y7,y8,y9⟩:=VW rQ k aW;have HVW:=ai (Zk rQ k aW);have I_:=rQ.lt (by omega);have hbn:bb≠wr.heap.size:=by omega
   have hd:rs.drop k=rs[k]::rs.drop (k+1):=List.drop_eq_getElem_cons aW;obtain⟨r,fD⟩:∃r,r=rs[k]:=⟨_,rfl⟩;have HE:Hid (o=dh (kK f) (r::rs.drop (k+1))):=ai (by rw[aa HO,(aa HTd).eq,hd,fD]);rw[←fD]at y0 y1 y2 y3 y4 y5 y6 y7 y8 y9 HVW;clear rQ hd fD
   go_upto_region 6 with fail
   obtain⟨W3,hW3,Ui,d3⟩:∃W3,W3=wr.alloc (.cells #[iV r.k,iV r.q,iV r.e,iV r.p,iV r.v.k,iV r.v.p,iV r.v.i,iV r.v.b,iV r.v.he,iV r.v.hn] 167)∧kt W3 wr.heap.size r∧bZ wr W3:=⟨_,rfl,heap_alloc_new _ _,aB _ _⟩;rw[←hW3];clear hW3 y0 y1 y2 y3 y4 y5 y6 y7 y8 y9 hbn I_;obtain⟨R,hR⟩:∃R,R=wr.heap.size:=⟨_,rfl⟩;rw[←hR]at Ui⊢;have HT3:=ai ((aa HTd).next d3);clear hR d3 HTd;have HP:∀w,cA 191 #[mG r] w (rB (iV r.fault) w):=fun w=>j8 _ _ _ _ _ _ _ _ _ _ w;obtain⟨r0,r1,r2,r3,r4,r5,r6,r7,r8,r9⟩:=Ui.cells;have pT:=ai Ui;clear Ui;by_cases hf:r.fault=0
   case neg=>
    have zy:Hid (o=(none,r.fault)):=ai (by rw[aa HE];unfold dh;rw[if_pos hf]);have hf':(r.fault !=0)=true:=by simpa using hf
    obtain⟨fl,BN⟩:∃fl,fl=r.fault:=⟨_,rfl⟩;rw[←BN]at HP zy hf';clear HE HO hf BN
    go_wp2_with (go_at_call 191;refine(HP _).mono ?_;rintro e W4 ⟨rfl,d4⟩;clear HP r0 r1 r2 r3 r4 r5 r6 r7 r8 r9;have Cp:=ai ((aa HT3).next d4);clear d4)
    go_ret2;exact⟨pB.none (aa zy),Below.next (aa Zl) (aa Cp).dC⟩
   case pos=>
   rw[hf]at HP;have HF:=ai hf;clear hf
   go_upto_region 9 with(go_at_call 191;refine(HP _).mono ?_;rintro e W4 ⟨rfl,d4⟩;clear HP r0 r1 r2 r3 r4 r5 r6 r7 r8 r9;have Cp:=ai ((aa HT3).next d4);have sj:Hid (kt W4 R r):=ai ((d4.block _ (cj (aa pT))).trans (aa pT));clear d4 HT3 pT)
   obtain⟨qn,Ze⟩:∃qn:Nat,r.q=qn:=⟨r.q.toNat,by have:=yr (aa HF);omega⟩;have vV:qn<4:=by have:=yr (aa HF);omega
   have HQN:=ai Ze;obtain⟨B,hB⟩:∃B,B=f qn:=⟨_,rfl⟩;obtain⟨aq,haq⟩:∃aq,aq=A qn:=⟨_,rfl⟩;obtain⟨cq,hcq⟩:∃cq,cq=K qn:=⟨_,rfl⟩;have JG:=(aa Cp).fb.own qn vV;rw[np,←hB,←haq,←hcq]at JG;have Zm:=(aa Cp).fb.b.lt;obtain⟨dv,hlk,hdo⟩:=((aa HT).next (aa Cp).dC).abO JG (by omega) (by rw[hB];exact(aa Cp).fb.cM qn vV) (by have:=(aa Cp).few qn vV;rw[hB];omega) (Rec.kinds (aa HF));have HDO:=ai hdo;have HLK:=ai hlk;obtain⟨x0,x1,x2,x3,x4,x5⟩:=(aa Cp).fb.b.at qn vV;rw[←hB]at x0 x1 x2 x3 x4 x5;rw[←haq,←hcq]at x5;have II:Hid (B=f qn∧aq=A qn∧cq=K qn):=ai ⟨hB,haq,hcq⟩;obtain⟨r0,r1,r2,r3,r4,r5,r6,r7,r8,r9⟩:=(aa sj).cells;rw[Ze]at r1;have hR4:=cj (aa sj);have hRn:R≠W4.heap.size:=by omega
   have hYn:Y≠W4.heap.size:=by omega
   clear Ze hB haq hcq JG hdo hlk
   go_wp2_with fail
   go_cut [9,10] (fun p9 v10 wx=>∃X,p9= .pointer (some ⟨X,0,none⟩)∧v10=dv∧aG wx X B.r B.e B.f B.t B.o aq B.es.length cq∧bZ W4 wx)
   case first=>
    refine wp_region_held_drew (S:=Below W4.heap.size W4) (by kernel_rfl) (zw W4) (fun hHeld=> ?_);refine wpAnyH_take (i:=0) (v:= .slice (some ⟨Y,0,none⟩) 4 4) rfl (by kernel_rfl) (by kernel_rfl) (by kernel_rfl) (fun _ _ _ h=>h) (Or.inl ⟨by rfl,fun _ _=>by go_simp⟩) hHeld ?_;simp only[List.getElem_toArray,List.getElem_cons_zero,Act.put,List.setIfInBounds_toArray,List.set_cons_zero,List.set_cons_succ];refine wpAnyH_take (i:=1) (v:= .pointer (some ⟨R,1,none⟩)) rfl (by kernel_rfl) (by kernel_rfl) (by kernel_rfl) (fun _ _ _ h=>h) (Or.inl ⟨by rfl,fun _ _=>by go_simp⟩) hHeld ?_;simp only[List.getElem_toArray,List.getElem_cons_zero,List.getElem_cons_succ,Act.put,List.setIfInBounds_toArray,List.set_cons_zero,List.set_cons_succ];refine wpAnyH_take (i:=2) (v:=iV qn) rfl (by kernel_rfl) (by kernel_rfl) (by kernel_rfl) (fun _ _ _ h=>h) (Or.inl ⟨by rfl,fun w b=>by have qc:=(b.cell (p:=⟨R,1,none⟩) hR4).trans r1;go_simp⟩) hHeld ?_;simp only[List.getElem_toArray,List.getElem_cons_zero,List.getElem_cons_succ,Act.put,List.setIfInBounds_toArray,List.set_cons_zero,List.set_cons_succ];refine wpAnyH_take (i:=3) (v:= .pointer (some ⟨Y,qn*6,none⟩)) rfl (by kernel_rfl) (by kernel_rfl) (by kernel_rfl) (fun _ _ _ h=>h) (Or.inl ⟨by rfl,fun _ _=>by go_simp;intro hx;omega⟩) hHeld ?_;simp only[List.getElem_toArray,List.getElem_cons_zero,List.getElem_cons_succ,Act.put,List.setIfInBounds_toArray,List.set_cons_zero,List.set_cons_succ];refine wpAnyH_take (i:=4) (v:=bQ B.r B.e B.f B.t B.o aq B.es.length cq) rfl (by kernel_rfl) (by kernel_rfl) (by kernel_rfl) (fun _ _ _ h=>h) (Or.inl ⟨by rfl,fun w b=>by have qc0:=(b.cell (p:=⟨Y,qn*6,none⟩) Zm).trans x0;have qc1:=(b.cell (p:=⟨Y,qn*6+1,none⟩) Zm).trans x1;have qc2:=(b.cell (p:=⟨Y,qn*6+2,none⟩) Zm).trans x2;have qc3:=(b.cell (p:=⟨Y,qn*6+3,none⟩) Zm).trans x3;have qc4:=(b.cell (p:=⟨Y,qn*6+4,none⟩) Zm).trans x4;have qc5:=(b.cell (p:=⟨Y,qn*6+5,none⟩) Zm).trans x5;go_simp⟩) hHeld ?_;simp only[List.getElem_toArray,List.getElem_cons_zero,List.getElem_cons_succ,Act.put,List.setIfInBounds_toArray,List.set_cons_zero,List.set_cons_succ];refine wpAnyH_take (i:=5) (v:= .map (some w.heap.size)) rfl (by kernel_rfl) (by kernel_rfl) (by kernel_rfl) (fun _ _ _ h=>h) (Or.inl ⟨by rfl,fun _ _=>by go_simp⟩) hHeld ?_;simp only[List.getElem_toArray,List.getElem_cons_zero,List.getElem_cons_succ,Act.put,List.setIfInBounds_toArray,List.set_cons_zero,List.set_cons_succ];refine wpAnyH_take (i:=6) (v:= .pointer (some ⟨R,0,none⟩)) rfl (by kernel_rfl) (by kernel_rfl) (by kernel_rfl) (fun _ _ _ h=>h) (Or.inl ⟨by rfl,fun _ _=>by go_simp⟩) hHeld ?_;simp only[List.getElem_toArray,List.getElem_cons_zero,List.getElem_cons_succ,Act.put,List.setIfInBounds_toArray,List.set_cons_zero,List.set_cons_succ];refine wpAnyH_take (i:=7) (v:=iV r.k) rfl (by kernel_rfl) (by kernel_rfl) (by kernel_rfl) (fun _ _ _ h=>h) (Or.inl ⟨by rfl,fun w b=>by have qc:=(b.cell (p:=⟨R,0,none⟩) hR4).trans r0;go_simp⟩) hHeld ?_;simp only[List.getElem_toArray,List.getElem_cons_zero,List.getElem_cons_succ,Act.put,List.setIfInBounds_toArray,List.set_cons_zero,List.set_cons_succ];refine wpAnyH_take (i:=8) (v:=dv) rfl (by kernel_rfl) (by kernel_rfl) (by kernel_rfl) (fun _ _ _ h=>h) (Or.inl ⟨by rfl,fun w b=>by have qc:=aa HLK _ b;go_simp⟩) hHeld ?_;simp only[List.getElem_toArray,List.getElem_cons_zero,List.getElem_cons_succ,Act.put,List.setIfInBounds_toArray,List.set_cons_zero,List.set_cons_succ];have bW0:=zw W4;obtain⟨W0,hW0⟩:∃W0,W0=W4.drew:=⟨_,rfl⟩;rw[←hW0]at bW0 hHeld⊢;clear hW0;refine wpAnyH_ready (rs:=[9]) (by kernel_rfl) (by simp) ?_;refine AllReadyH.cons rfl (fun K hK=> ?_) AllReadyH.nil;simp only[List.getElem_toArray,List.getElem_cons_zero,List.getElem_cons_succ];go_simp;obtain⟨WA,hWA,zA,bA⟩:∃W,W=W0.alloc (.cells (du 0 0 0 0 0 none 0 0) 49)∧aG W W0.heap.size 0 0 0 0 0 none 0 0∧bZ W0 W:=⟨_,rfl,aG.new _ _ _ _ _ _ _ _ _,aB _ _⟩;rw[←hWA];clear hWA;obtain⟨XA,hX⟩:∃X,X=W0.heap.size:=⟨_,rfl⟩;have upA:W4.heap.size≤XA:=by rw[hX];exact bW0.size
    rw[←hX]at zA⊢;have bWA:=Below.next bW0 bA;clear hX;refine hK.out _ _ bWA (fun hHeld=> ?_);clear hK K bA;refine wpAnyH_ready (rs:=[10]) (by kernel_rfl) (by simp) ?_;refine AllReadyH.cons rfl (fun K hK=> ?_) AllReadyH.nil;simp only[List.getElem_toArray,List.getElem_cons_zero,List.getElem_cons_succ];obtain⟨z0,z1,z2,z3,z4,z5⟩:=zA.cells;have zf:=zA.free;go_simp;obtain⟨WE,hWE,dE,bE,tE⟩:=dF zA bWA upA B.r B.e B.f B.t B.o aq B.es.length cq;rw[←hWE];refine hK.out _ _ bE (fun hHeld=> ?_);clear hK K hWE z0 z1 z2 z3 z4 z5 zf;refine wpAnyH_take (i:=11) (v:=dv) rfl (by kernel_rfl) (by kernel_rfl) (by kernel_rfl) (fun _ _ _ h=>h) (Or.inl ⟨by rfl,fun _ _=>by go_simp⟩) hHeld ?_;simp only[List.getElem_toArray,List.getElem_cons_zero,List.getElem_cons_succ,Act.put,List.setIfInBounds_toArray,List.set_cons_zero,List.set_cons_succ];refine wpAnyH_done (by kernel_rfl) ?_ _
    go_wp2_with fail
    go_meet;exact⟨XA,rfl,rfl,dE,bE⟩
   case rest=>
    obtain⟨X,rfl,rfl,bx,b5⟩:=hcut;obtain⟨W5,hW5⟩:∃W5,W5=wc:=⟨_,rfl⟩;subst hW5;have Of:=ai ((aa Cp).next b5);have HR5:Hid (kt W5 R r):=ai ((b5.block _ (cj (aa sj))).trans (aa sj));have HX5:=ai bx;obtain⟨g,capv,hdv,XD,HN⟩:=aa HDO;have HN5:=ai (HN W5 b5);subst hdv;clear b5 HN HDO HLK Cp sj x0 x1 x2 x3 x4 x5 r0 r1 r2 r3 r4 r5 r6 r7 r8 r9 hR4 hRn hYn Zm;obtain⟨x0,x1,x2,x3,x4,x5⟩:=bx.cells;obtain⟨r0,r1,r2,r3,r4,r5,r6,r7,r8,r9⟩:=(aa HR5).cells;clear bx;obtain⟨od,hod⟩:∃od,od=gg B r:=⟨_,rfl⟩;rw[←hod]at HN5;have HOD:=ai hod;clear hod;have HOO:=HO
    have HST:Hid (o=match stepT B r with|none=>(none,3)|some D=>dh (kK (pA f qn D)) (rs.drop (k+1))):=ai (by
     rw[aa HE]
     conv=>lhs;unfold dh
     rw[if_neg (fun h=>h (aa HF)),PL f r qn vV (aa HQN),←(aa II).1];cases gZ:stepT B r with
     |none=>rfl
     |some D=>simp only;rw[Ky f r D qn vV (aa HQN)])
    clear HE HO;have Gh:W5.ownsRow (Y+1) 55 6 (.slice aq B.es.length cq) B.es.length ((ak B.es).map (Value.int .i64)):=by
     have:=(aa Of).fb.own qn vV;rw[np,←(aa II).1,←(aa II).2.1,←(aa II).2.2]at this;exact this
    have HG:Hid (∀W6,W5.grownBy W6 (Value.slice aq B.es.length cq).ownBlock→bZ W1 W6∧kt W6 R r∧aG W6 X B.r B.e B.f B.t B.o aq B.es.length cq∧gW W6 Y f A K∧∀p,p<4→p≠qn→W6.ownsRow (Y+1) 55 6 (np f A K p) (f p).es.length ((ak (f p).es).map (Value.int .i64))):=ai fun W6 g6=>by
     have g6':W5.grownBy W6 (np f A K qn).ownBlock:=by rw[np,←(aa II).1,←(aa II).2.1,←(aa II).2.2];exact g6
     obtain⟨h1,h2⟩:=(aa Of).fb.aez qn vV g6';exact⟨(aa Of).dC.grown g6 (aa Of).dC.size (fun q hq=>by have:=(Gh.lt q hq).1;have:=(aa Of).up;omega),(g6.block R (cj (aa HR5)) (fun e=>aU Gh (aa HR5) (by decide) R e.symm rfl)).trans (aa HR5),(g6.block X (aa HX5).lt (fun e=>aU Gh (aa HX5) (by decide) X e.symm rfl)).trans (aa HX5),h1,h2⟩
    clear Gh
    go_step
    go_step
    cases od with
    |none=>
     have zy:Hid (o=(none,3)):=ai (by rw[aa HST];unfold stepT;rw[←aa HOD])
     go_upto_region 11 with(go_at_fn g;refine(aa HN5).mono ?_;rintro x W6 ⟨rfl,g6⟩;clear x0 x1 x2 x3 x4 x5 r0 r1 r2 r3 r4 r5 r6 r7 r8 r9)
     obtain⟨W7,hW7,b7⟩:∃W7,W7=W6.alloc (.cells (du 0 0 0 0 0 none 0 0) 49)∧bZ W6 W7:=⟨_,rfl,aB _ _⟩;rw[←hW7];have QM:=ai (Below.next (aa Zl) (Below.next (aa HG W6 g6).1 b7));clear hW7 b7 g6 HG HN5 XD;go_wp2;go_ret2;exact⟨pB.none (aa zy),aa QM⟩
    |some D=>
     have Zn:B.cC:=by rw[(aa II).1];exact(aa Of).fb.cM qn vV
     have HDW:Hid (D.cC∧(∀u∈ak D.es,(Lit.int .i64 u).wf=true)∧D.es.length≤B.es.length+1):=ai (by
      have h1:=pw Zn (aa HF) (aa HOD).symm;have h2:=RS Zn (aa HOD).symm (by rw[(aa II).1];exact(aa Of).fb.wf qn vV) (aa HVW)
      exact⟨h1.1,h2.1,h2.2⟩)
     clear Zn
     go_upto_region 11 with(go_at_fn g;refine(aa HN5).mono ?_;rintro x W6 ⟨⟨a6,c6,rfl,own6,lie6,few6⟩,g6⟩;clear x0 x1 x2 x3 x4 x5 r0 r1 r2 r3 r4 r5 r6 r7 r8 r9)
     obtain⟨W7,hW7,kb7,b7⟩:∃W7,W7=W6.alloc (.cells (du D.r D.e D.f D.t D.o a6 D.es.length c6) 49)∧aG W7 W6.heap.size D.r D.e D.f D.t D.o a6 D.es.length c6∧bZ W6 W7:=⟨_,rfl,aG.new _ _ _ _ _ _ _ _ _,aB _ _⟩;rw[←hW7];obtain⟨Z,hZ⟩:∃Z,Z=W6.heap.size:=⟨_,rfl⟩;rw[←hZ]at kb7⊢;obtain⟨G1,G2,G3,G4,G5⟩:=aa HG W6 g6;have H7:Hid (∀W,bZ W7 W→bZ W1 W∧kt W R r∧aG W X B.r B.e B.f B.t B.o aq B.es.length cq∧aG W Z D.r D.e D.f D.t D.o a6 D.es.length c6∧gW W Y f A K∧(∀p,p<4→p≠qn→W.ownsRow (Y+1) 55 6 (np f A K p) (f p).es.length ((ak (f p).es).map (Value.int .i64)))∧W.ownsRow (Y+1) 55 6 (.slice a6 D.es.length c6) D.es.length ((ak D.es).map (Value.int .i64))):=ai fun W b=>by
      have bb:=Below.next b7 b;exact⟨Below.next G1 bb,(bb.block _ (cj G2)).trans G2,G3.next bb,kb7.next b,(bb.block _ G4.lt).trans G4,fun p hp fJ=>aK (G5 p hp fJ) (fun g _ hg=>bb.block g hg),aK own6 (fun g _ hg=>bb.block g hg)⟩
     have HL6:=ai lie6;have HF6:Hid (D.es.length<B.es.length→Td W1 W7 Y rs k f A K):=ai fun h=>(aa Of).next (Below.next (few6 h) b7);obtain⟨x0,x1,x2,x3,x4,x5⟩:=(G3.next b7).cells;obtain⟨z0,z1,z2,z3,z4,z5⟩:=kb7.cells;have abQ:Hid (stepT B r=some D→∀W8,bZ W7 W8→∀W9,av Y W8 W9→gW W9 Y (pA f qn D) (pA A qn a6) (pA K qn c6)→Td W1 W9 Y rs (k+1) (pA f qn D) (pA A qn a6) (pA K qn c6)):=ai fun hs W8 b8 W9 t9 fb9=>by
      obtain⟨h1,h2,h3,h4,h5,h6,h7⟩:=aa H7 W8 b8;refine⟨t9.under h1 (aa Of).up,(aa Of).fb.put qn vV h6 h7 (by rw[np,←(aa II).1,←(aa II).2.1,←(aa II).2.2];exact aa HL6) (aa HDW).1 (aa HDW).2.1 t9 fb9, ?_,fun q hq=> ?_,(aa Of).up⟩
      ·rw[←aa HOO,aa HST,hs]
      ·by_cases e:q=qn
       ·subst e;rw[qP];have:=(aa HDW).2.2;have h8:=(aa Of).few q hq;rw[←(aa II).1]at h8;omega
       ·rw[n_ _ _ e];have:=(aa Of).few q hq;omega
     have HHG:=ai XD;clear hW7 b7 hZ g6 own6 lie6 few6 G1 G2 G3 G4 G5 kb7 HN5 HG XD;by_cases hl:D.es.length<B.es.length
     case neg=>
      have HSS:Hid (stepT B r=some D):=ai (by unfold stepT;rw[←aa HOD];simp only;rw[if_neg (fun h=>hl h.1)]);have Yh:¬(D.es.length:Int)<(B.es.length:Int):=by omega
      clear hl
      go_upto_region 13 with fail
      clear x0 x1 x2 x3 x4 x5 z0 z1 z2 z3 z4 z5 Yh;obtain⟨k1,k2,k3,k4,k5,_⟩:=aa H7 W7 (Below.refl _ _);obtain⟨r0,r1,r2,r3,r4,r5,r6,r7,r8,r9⟩:=k2.cells;rw[aa HQN]at r1;obtain⟨z0,z1,z2,z3,z4,z5⟩:=k4.cells;obtain⟨f0,f1,f2,f3,f4,f5⟩:=k5.at qn vV;have ff:=k5.free;have hqi:¬4≤(qn:Int):=by omega
      have HK5:=ai k5;clear k1 k2 k3 k4 k5
      go_upto_region 14 with fail
      obtain⟨W9,hW9,HT9⟩:∃W9,W9=(((((W7.setCell ⟨Y,qn*6,none⟩ (iV D.r)).setCell ⟨Y,qn*6+1,none⟩ (iV D.e)).setCell ⟨Y,qn*6+2,none⟩ (iV D.f)).setCell ⟨Y,qn*6+3,none⟩ (iV D.t)).setCell ⟨Y,qn*6+4,none⟩ (iV D.o)).setCell ⟨Y,qn*6+5,none⟩ (.slice a6 D.es.length c6)∧Hid (Td W1 W9 Y rs (k+1) (pA f qn D) (pA A qn a6) (pA K qn c6)):=
       ⟨_,rfl,ai (aa abQ (aa HSS) W7 (Below.refl _ _) _ (Hg _ _ _ _ _ _ _ _ _) ((aa HK5).put qn vV D a6 c6))⟩
      rw[←hW9];clear hW9 r0 r1 r2 r3 r4 r5 r6 r7 r8 r9 z0 z1 z2 z3 z4 z5 f0 f1 f2 f3 f4 f5 ff HK5;go_wp2
      go_roundw
      case rel=>exact⟨k+1,_,_,_,by omega,by go_num,HT9⟩
      case measure=>simp[intOf];omega
     case pos=>
      have Yh:(D.es.length:Int)<(B.es.length:Int):=by omega
      have VX:ja W7 B aq cq:=by
       have:=(aa HF6 hl).fb.bin qn vV;rw[←(aa II).1,←(aa II).2.1,←(aa II).2.2]at this;exact this
      by_cases ok:B.Ok
      case neg=>
       have HC:=j7 B aq cq W7 VX ok;have zy:Hid (o=(none,3)):=ai (by rw[aa HST];unfold stepT;rw[←aa HOD];simp only;rw[if_pos ⟨hl,ok⟩]);clear hl ok VX
       go_wp2_with (go_at_call 176;refine HC.mono ?_;rintro e W8 ⟨rfl,d8⟩;clear HC x0 x1 x2 x3 x4 x5 z0 z1 z2 z3 z4 z5;have HB8:=ai (Below.next (aa Zl) (aa H7 W8 d8).1);clear d8)
       go_ret2;exact⟨pB.none (aa zy),aa HB8⟩
      case pos=>
       have HC:=gH B aq cq W7 VX ok;have HSS:Hid (stepT B r=some D):=ai (by unfold stepT;rw[←aa HOD];simp only;rw[if_neg (fun h=>h.2 ok)]);clear hl ok VX
       go_upto_region 13 with(go_at_call 176;refine HC.mono ?_;rintro e W8 ⟨rfl,d8⟩;clear HC x0 x1 x2 x3 x4 x5 z0 z1 z2 z3 z4 z5;have HB8:=ai d8;clear d8)
       clear Yh;obtain⟨k1,k2,k3,k4,k5,_⟩:=aa H7 W8 (aa HB8);obtain⟨r0,r1,r2,r3,r4,r5,r6,r7,r8,r9⟩:=k2.cells;rw[aa HQN]at r1;obtain⟨z0,z1,z2,z3,z4,z5⟩:=k4.cells;obtain⟨f0,f1,f2,f3,f4,f5⟩:=k5.at qn vV;have ff:=k5.free;have hqi:¬4≤(qn:Int):=by omega
       have HK5:=ai k5;clear k1 k2 k3 k4 k5
       go_upto_region 14 with fail
       obtain⟨W9,hW9,HT9⟩:∃W9,W9=(((((W8.setCell ⟨Y,qn*6,none⟩ (iV D.r)).setCell ⟨Y,qn*6+1,none⟩ (iV D.e)).setCell ⟨Y,qn*6+2,none⟩ (iV D.f)).setCell ⟨Y,qn*6+3,none⟩ (iV D.t)).setCell ⟨Y,qn*6+4,none⟩ (iV D.o)).setCell ⟨Y,qn*6+5,none⟩ (.slice a6 D.es.length c6)∧Hid (Td W1 W9 Y rs (k+1) (pA f qn D) (pA A qn a6) (pA K qn c6)):=
        ⟨_,rfl,ai (aa abQ (aa HSS) W8 (aa HB8) _ (Hg _ _ _ _ _ _ _ _ _) ((aa HK5).put qn vV D a6 c6))⟩
       rw[←hW9];clear hW9 r0 r1 r2 r3 r4 r5 r6 r7 r8 r9 z0 z1 z2 z3 z4 z5 f0 f1 f2 f3 f4 f5 ff HK5;go_wp2
       go_roundw
       case rel=>exact⟨k+1,_,_,_,by omega,by go_num,HT9⟩
       case measure=>simp[intOf];omega
theorem Hh(es:List Ev)(k:Nat):(ak es).take (6*k)=ak (es.take k):=by
 induction k generalizing es with
 |zero=>simp[ak]
 |succ k ih=>
  cases es with
  |nil=>simp[ak]
  |cons v es=>
   show(aX v++ak es).take (6*(k+1))=aX v++ak (es.take k);rw[show 6*(k+1)=(aX v).length+6*k by show _=6+_;omega,List.take_append];rw[List.take_of_length_le (by omega),Nat.add_sub_cancel_left,ih]
theorem mB.least{A B:tJ}{la lb n k:Nat}(h:mB A B la lb n)(hs:∀j,j<k→o_ A B j)(ha:k≤la)(hb:k≤lb):k≤n:=by
 rcases Nat.lt_or_ge n k with h1|h1
 ·rcases h.stop with h2|h2|h2
  ·omega
  ·omega
  ·exact absurd (hs n h1) h2
 ·exact h1
theorem Hj{es os:List Ev}{k:Nat}(h:es.take k=os.take k)(he:k≤es.length)(ho:k≤os.length):∀j,j<k→o_ (ak es) (ak os) j:=by
 intro j hj i hi;rw[l_ es j (by omega) i hi,l_ os j (by omega) i hi];have:es[j]'(by omega)=os[j]'(by omega):=by
  have h1:(es.take k)[j]? =(os.take k)[j]? :=by rw[h]
  rw[List.getElem?_take,List.getElem?_take,if_pos hj,if_pos hj,List.getElem?_eq_getElem (by omega),List.getElem?_eq_getElem (by omega)]at h1;exact Option.some.inj h1
 rw[this]
def Zo(ad:tG)(c l:Nat):Option Addr:=if c=l then ad else ad.map (·.add (l*6))
theorem qU:∀(es:List Ev) (l:Nat),ak (es.drop l)=(ak es).drop (6*l)
 |es,0=>by simp
 |[],l+1=>by simp[ak]
 |v::es,l+1=>by
  rw[List.drop_succ_cons,qU es l];show(ak es).drop (6*l)=(aX v++ak es).drop (6*(l+1));have e1:List.drop ((aX v).length+6*l) (aX v)=[]:=List.drop_eq_nil_of_le (by omega);rw[show 6*(l+1)=(aX v).length+6*l by simp[aX];omega,List.drop_append,e1,Nat.add_sub_cancel_left,List.nil_append]
theorem RowK.within{k:IntKind}{w:tF}{b off len:Nat}{L:tJ}(h:RowK k w (some ⟨b,off,none⟩) len L)(d m:Nat)(hd:d+m≤len):RowK k w (some ⟨b,off+d,none⟩) m ((L.drop d).take m):=by
 have hl:=h.cB;refine⟨by rw[List.length_take,List.length_drop];omega,fun u hu=>h.wf u (List.mem_of_mem_drop (List.mem_of_mem_take hu)),fun i hi=>⟨b,off+d,rfl,h.lt (by omega), ?_⟩⟩;have hc:=h.at (d+i) (by omega);rw[Nat.add_assoc,hc];congr 2;simp only[List.getD_eq_getElem?_getD];rw[List.getElem?_take,if_pos hi,List.getElem?_drop]
theorem VY{w:tF}{ad:tG}{n c:Nat}{es:List Ev}(hr:RowK .i64 w ad (6*n) (ak es))(nil:ad=none→c=0)(l h:Nat)(h1:l≤h)(h2:h≤n)(hc:n≤c):
  RowK .i64 w (Zo ad c l) (6*(h-l)) (ak ((es.drop l).take (h-l)))∧(Zo ad c l=none→c-l=0):=by
 have BN:ak ((es.drop l).take (h-l))=((ak es).drop (6*l)).take (6*(h-l)):=by rw[←Hh,qU]
 unfold Zo;by_cases BH:c=l
 ·rw[if_pos BH];have:h-l=0:=by omega
  rw[this];simp only[List.take_zero];exact⟨RowK.nil _ _ _,fun _=>by omega⟩
 ·rw[if_neg BH];cases ad with
  |none=>have:=nil rfl;omega
  |some x=>
   refine⟨?_,fun h=>by simp at h⟩;rcases Nat.eq_zero_or_pos (h-l)with h0|h0
   ·rw[h0];simp only[List.take_zero];exact RowK.nil _ _ _
   ·obtain⟨b,off,hx⟩:=hr.form (by omega);cases hx;rw[BN];have:=hr.within (6*l) (6*(h-l)) (by omega);have e:(⟨b,off,none⟩:Addr).add (l*6)=⟨b,off+6*l,none⟩:=by rw[Nat.mul_comm];unfold Addr.add;split<;>simp_all
    simp only[Option.map_some];rw[e];exact this
theorem abS:Tryz.prog.underlying 176=some (.slice (Tryz.prog.elem 176)):=by kernel_rfl
theorem VZ(w:tF):(sizeOf (Tryz.prog.elem 176)).run Tryz.prog w= .ok 10 w:=by
 have:Tryz.prog.elem 176=167:=by kernel_rfl
 rw[this];simp[sizeOf,go_sem];rfl
theorem vw(b off n c h:Nat)(h2:h≤c)(w:tF):(Instr.sliceAt 176 (.slice (some ⟨b,off,none⟩) n c) none (some (iV h)) none).run Tryz.prog w= .ok (.slice (some ⟨b,off,none⟩) h c) w:=by
 rw[run_sliceAt_slice w _ _ _ _ _ abS,run_slice_h w _ _ _ _ abS _ _ (by omega) (by omega),VZ];simp[sliced,Addr.add_mid]
theorem AE:∀(l:List Rec) (S:List Bt),(dh S l).1=none→¬(dh S l).2=0
 |[],S,h=>by
  unfold dh at h⊢;split at h
  ·cases h
  ·rename_i g;rw[if_neg g];decide
 |r::l,S,h=>by
  unfold dh at h⊢;split at h
  ·rename_i g;rw[if_pos g];exact g
  ·rename_i g;rw[if_neg g];split at h
   ·decide
   ·rename_i D e;exact AE l (put S r D) h
theorem vx:∀(rs:List Rec) (k:Nat),(aD rs).take (10*k)=aD (rs.take k)
 |[],k=>by simp[aD]
 |v::rs,0=>by simp[aD]
 |v::rs,k+1=>by
  have hl:(bn v).length=10:=rfl;show(bn v++aD rs).take (10*(k+1))=bn v++aD (rs.take k);rw[show 10*(k+1)=(bn v).length+10*k by omega,List.take_length_add_append,vx rs k]
theorem Hk{w:tF}{a:tG}{rs:List Rec}(hr:RowK .i64 w a (10*rs.length) (aD rs))(k:Nat)(hk:k≤rs.length):RowK .i64 w a (10*(rs.take k).length) (aD (rs.take k)):=by
 have hl:(rs.take k).length=k:=by simp;omega
 rw[hl,←vx];refine⟨by have:=hr.cB;simp;omega,fun u hu=>hr.wf u (List.mem_of_mem_take hu),fun i hi=> ?_⟩;obtain⟨b,off,e,hb,hc⟩:=hr.cell i (by omega);refine⟨b,off,e,hb,hc.trans ?_⟩;simp only[List.getD_eq_getElem?_getD];rw[List.getElem?_take_of_lt hi]
theorem RV(rs:List Rec)(b off c R h:Nat)(bv:Bool)(w:tF)(hR:w.heap[R]? =some (.cells #[.slice (some ⟨b,off,none⟩) rs.length c] 176 (0,0)))(hr:RowK .i64 w (some ⟨b,off,none⟩) (10*rs.length) (aD rs))(hc:rs.length≤c)(hh:h<rs.length)(hlen:(rs.length+1)*48≤140737488355328)
  (hb:bv=true↔(dh (kK fQ) (rs.take (h+1))).1=none):
  cA 147 #[iV h,.pointer (some ⟨R,0,none⟩)] w (rB (.bool bv) w):=by
 have hT:=wP (rs.take (h+1)) (some ⟨b,off,none⟩) c w (Hk hr (h+1) (by omega)) (by simp;omega);have hl:(rs.take (h+1)).length=h+1:=by simp;omega
 rw[hl]at hT;have hcut:=fun w=>vw b off rs.length c (h+1) (by omega) w;have k0:w.cell? ⟨R,0,none⟩=some (.slice (some ⟨b,off,none⟩) rs.length c):=by simp[World.cell?,hR]
 have hE:=AE (rs.take (h+1)) (kK fQ);generalize dh (kK fQ) (rs.take (h+1))=o at hT hE hb;obtain⟨h1,hh1⟩:∃h1:Nat,h1=h+1:=⟨_,rfl⟩;rw[←hh1]at hT hcut;have hh2:(h:Int)+1=(h1:Int):=by omega
 have HH:=ai (And.intro hE hb);clear hE hb hl hr hR hh1;have hT':cA 145 #[.slice (some ⟨b,off,none⟩) h1 c] w fun x w'=>∃v er,x= .returned (.tuple #[v,iV er])∧Hid (er=0↔¬o.1=none)∧bZ w w':=hT.mono fun x w' ⟨h1,h2⟩=>by
  cases ho:o.1 with
  |none=>exact⟨_,_,h1.1 ho,ai ⟨fun h=>absurd h ((aa HH).1 ho),fun h=>absurd rfl h⟩,h2⟩
  |some S=>obtain⟨Y,f,A,K,e,e2,_⟩:=h1.2 S ho;exact⟨_,_,e,ai ⟨(fun _ h=>by cases h),fun _=>rfl⟩,h2⟩
 clear hT;go_enter Tryz.func147,Tryz.ntmps147
 go_wp2_with (go_at_call 145;refine hT'.mono ?_;rintro e W2 ⟨v2,er,rfl,HEr,d2⟩;clear hT')
 go_ret;refine⟨?_,d2⟩;have h3:(er !=0)=bv:=by
  have h4:=aa HEr;have h5:=(aa HH).2;cases bv with
  |true=>
   have:¬er=0:=fun e=>h4.1 e (h5.1 rfl);simpa using this
  |false=>
   have:er=0:=h4.2 (fun e=>by have:=h5.2 e;cases this);simp[this]
 rw[←h3];rfl
def Zp(w w':tF)(o:Option (List Bt)×Nat×Int)(x:Ending):Prop:=
 (o.1=none→x= .returned (.tuple #[.slice none 0 0,iV o.2.1,iV o.2.2]))∧
 ∀S,o.1=some S→∃Y f A K,x= .returned (.tuple #[.slice (some ⟨Y,0,none⟩) 4 4,iV 0,iV 0])∧o.2.1=0∧o.2.2=0∧S=kK f∧J_ w' Y f A K∧w.heap.size≤Y
theorem LR{W:tF}{v:tN}{j e:Int}{tmps:tR}(t2:tmps[2]? =some v)(t3:tmps[3]? =some (iV j))(t4:tmps[4]? =some (iV e)):(results Tryz.f94 tmps).run Tryz.prog W= .ok (.tuple #[v,iV j,iV e]) W:=by
 simp[results,Tryz.results94,t2,t3,t4]
theorem Hm:∀B∈kK fQ,B.Ok:=(uc fQ Bt.Ok).2 fun _ _=>Bt.dr
theorem V0(rs:List Rec)(a:tG)(c:Nat)(w:tF)(hr:RowK .i64 w a (10*rs.length) (aD rs))(hc:rs.length≤c)(hlen:(rs.length+1)*48≤140737488355328):
  cA 94 #[.slice a rs.length c] w fun x w'=>Zp w w' (kx (kK fQ) 0 rs) x∧bZ w w':=by
 have HR:Hid (∀W,bZ w W→RowK .i64 W a (10*rs.length) (aD rs)):=ai fun W b=>hr.below b;clear hr;obtain⟨W,hW,bx,B0⟩:∃W,W=w.alloc (.cells #[.slice a rs.length c] 176)∧W.heap[w.heap.size]? =some (.cells #[.slice a rs.length c] 176 (0,0))∧bZ w W:=⟨_,rfl,heap_alloc_new _ _,aB _ _⟩;have HT:=wP rs a c W (aa HR W B0) hlen;have vU:W.cell? ⟨w.heap.size,0,none⟩=some (.slice a rs.length c):=by simp[World.cell?,bx]
 obtain⟨o,ho⟩:∃o,o=kx (kK fQ) 0 rs:=⟨_,rfl⟩;rw[←ho];have HB:=ai (And.intro bx B0);cases h1:o.1 with
 |some S=>
  have ht:=Hd rs (kK fQ) S 0 o.2.1 o.2.2 rfl Hm (by rw[←ho,←h1]);rw[ht.1]at HT;have HT':cA 145 #[.slice a rs.length c] W fun x w'=>∃Y f A K,x= .returned (.tuple #[.slice (some ⟨Y,0,none⟩) 4 4,iV 0])∧Hid (S=kK f∧J_ w' Y f A K∧W.heap.size≤Y)∧bZ W w':=HT.mono fun x w' ⟨g1,g2⟩=>by
   obtain⟨Y,f,A,K,e,_,e3,e4,e5⟩:=g1.2 S rfl;exact⟨Y,f,A,K,e,ai ⟨e3,e4,e5⟩,g2⟩
  have HH:Hid (o.1=some S∧o.2.1=0∧o.2.2=0):=ai ⟨h1,ht.2⟩;clear HT ho h1 ht bx B0;go_enter Tryz.func94,Tryz.ntmps94
  go_upto_region 1 with fail
  rw[←hW];clear hW
  go_wp2_with (go_at_call 145;refine HT'.mono ?_;rintro e W2 ⟨Y,f,A,K,rfl,HY,d2⟩;clear HT' vU)
  refine bodyPost_ret (LR rfl rfl rfl) rfl ⟨⟨(fun h=>by rw[(aa HH).1]at h;cases h),fun S' h=> ?_⟩,Below.next (aa HB).2 d2⟩;rw[(aa HH).1]at h;cases h;exact⟨Y,f,A,K,rfl,(aa HH).2.1,(aa HH).2.2,(aa HY).1,(aa HY).2.1,Nat.le_trans (aa HB).2.size (aa HY).2.2⟩
 |none=>
  obtain⟨n,hn,hj,he,hle,MI⟩:=CG rs (kK fQ) 0 o.2.1 o.2.2 rfl Hm (by rw[←ho,←h1]);have rQ:=aa HR W B0;obtain⟨b,off,rfl⟩:=rQ.form (by omega);have htl:rs.take rs.length=rs:=List.take_length;have pQ:=MI rs.length hn;rw[htl]at pQ;have wI:Hid (¬(dh (kK fQ) rs).2=0):=ai (AE rs (kK fQ) pQ.1);have HT':cA 145 #[.slice (some ⟨b,off,none⟩) rs.length c] W fun x w'=>∃er,x= .returned (.tuple #[.slice none 0 0,iV er])∧¬er=0∧bZ W w':=HT.mono fun x w' ⟨g1,g2⟩=>⟨_,g1.1 pQ.1,aa wI,g2⟩;have HS:Hid (∀W',bZ W W'→cA 146 #[iV rs.length,.func (.func 147) #[] #[.pointer (some ⟨w.heap.size,0,none⟩)]] W' (rB (iV n) W')):=ai fun W' b'=>
   J9 147 w.heap.size rs.length n W' (by omega) (by omega) (enters_of Tryz.func147 (by kernel_rfl) rfl) (fun h XO hh b''=>RV rs b off c w.heap.size h (decide (n≤h)) XO (((Below.next b' b'').block _ (cj (aa HB).1)).trans (aa HB).1) (aa HR XO (Below.next (aa HB).2 (Below.next b' b''))) hc hh hlen (by
    rw[decide_eq_true_eq];constructor
    ·intro h1;exact(MI (h+1) (by omega)).1
    ·intro h1;rcases Nat.lt_or_ge h n with h2|h2
     ·obtain⟨S',hS⟩:=hle (h+1) (by omega);rw[hS]at h1;cases h1
     ·exact h2))
  have HE:Hid (∀W',bZ W W'→cA 145 #[.slice (some ⟨b,off,none⟩) ((n+1:Nat)) c] W' (rB (.tuple #[.slice none 0 0,iV o.2.2]) W')):=ai fun W' b'=>by
   have h1:=wP (rs.take (n+1)) (some ⟨b,off,none⟩) c W' (Hk (aa HR W' (Below.next (aa HB).2 b')) (n+1) (by omega)) (by simp;omega);rw[show(rs.take (n+1)).length=n+1 by simp;omega]at h1;refine h1.mono fun x w' ⟨g1,g2⟩=>⟨?_,g2⟩;have h2:=MI (n+1) (by omega);rw[g1.1 h2.1,h2.2 rfl]
  have hcut:=fun w=>vw b off rs.length c (n+1) (by omega) w;have XN:Hid (o.1=none∧o.2.1=n):=ai ⟨h1,by omega⟩;obtain⟨er2,her2⟩:∃er2,er2=o.2.2:=⟨_,rfl⟩;rw[←her2]at HE;have HER:=ai her2;obtain⟨n1,uR⟩:∃n1:Nat,n1=n+1:=⟨_,rfl⟩;rw[←uR]at HE hcut;have hni:(n:Int)+1=(n1:Int):=by omega
  have CJ:(n:Int)≤1000000000000000:=by omega
  clear HT ho h1 bx B0 rQ htl pQ wI hle MI hj he her2 uR HR;go_enter Tryz.func94,Tryz.ntmps94
  go_upto_region 1 with fail
  rw[←hW];clear hW
  go_upto_region 2 with(go_at_call 145;refine HT'.mono ?_;rintro e W2 ⟨er,rfl,Du,d2⟩;clear HT' vU)
  have ah6:(er==0)=false:=by simpa using Du
  have FM:W2.cell? ⟨w.heap.size,0,none⟩=some (.slice (some ⟨b,off,none⟩) rs.length c):=by simp[World.cell?,(d2.block _ (cj (aa HB).1)).trans (aa HB).1]
  have HS2:=aa HS W2 d2;have Ud:=ai d2;clear Du HS d2
  go_upto_region 5 with(go_at_call 146;refine HS2.mono ?_;rintro e W3 ⟨rfl,d3⟩;clear HS2 FM)
  have M6:W3.cell? ⟨w.heap.size,0,none⟩=some (.slice (some ⟨b,off,none⟩) rs.length c):=by simp[World.cell?,((Below.next (aa Ud) d3).block _ (cj (aa HB).1)).trans (aa HB).1]
  have LH:=aa HE W3 (Below.next (aa Ud) d3);have HD3:=ai d3;clear HE d3
  go_wp2_with (go_at_call 145;refine LH.mono ?_;rintro e W4 ⟨rfl,d4⟩;clear LH M6)
  refine bodyPost_ret (LR rfl rfl rfl) rfl ⟨⟨fun _=> ?_,fun S h=>by rw[(aa XN).1]at h;cases h⟩,Below.next (aa HB).2 (Below.next (Below.next (aa Ud) (aa HD3)) d4)⟩;rw[(aa XN).2,←aa HER];rfl
section
open Rv
structure Nt(w W:tF)(R:Nat)(s:St)(an:An)(bw:List An)(va:tN):Prop where
 tg:Tg W R 267 [va] s an
 own:W.ownsRow (R+1) 59 4 va bw.length ((kR bw).map (Value.int .i64))
 dC:bZ w W
 up:w.heap.size≤R
theorem Nt.next{w W W':tF}{R:Nat}{s:St}{an:An}{bw:List An}{va:tN}(h:Nt w W R s an bw va)(b:bZ W W'):Nt w W' R s an bw va:=⟨h.tg.next b,aK h.own (fun g _ hg=>b.block g hg),Below.next h.dC b,h.up⟩
def abU(w:tF)(R:Nat)(s:St)(bw:List An)(v:Ev)(e:Ending)(w':tF):Prop:=
 (e= .returned (.bool true)∧∃s' rG va',v.Ok∧Step s v s' rG true∧Nt w w' R s' rG (bw++[rG]) va')∨(e= .returned (.bool false)∧(¬v.Ok∨∃s' rG,Step s v s' rG false)∧bZ w w')
theorem Zq:lL Tryz.prog 218 59 4 32=true:=by kernel_rfl
theorem RX(w W:tF)(R:Nat)(s:St)(an:An)(bw:List An)(va:tN)(v:Ev)(ok:s.Ok)(hn:bw.length≤2000)(N:Nt w W R s an bw va):
  cA 183 #[.pointer (some ⟨R,0,none⟩),qE v] W fun e w'=>abU w R s bw v e w':=by
 obtain⟨_,_,_,_,_,tb,_⟩:=N.tg.ex;refine en (H:=[]) 25 [vv (.pointer (some ⟨R,0,none⟩)),vg (YY v)] Tryz.func183 rfl rfl (m0 W) (r [1] rfl fun α=>mq rfl (by kernel_rfl) fun x hS=> ?_);have N1:=N.next hS.now.2;refine(Gu s an v x R 267 [va] ok N1.tg (.inr ⟨_,rfl⟩)).mono ?_;rintro _ w' ⟨s',rG,ch,er,rfl,hd,h1,h2,o⟩;have dC:=o.toBelow N1.dC N1.up rfl;cases ch
 ·refine⟨vv (.bool false),[],_,_,_,rfl,.inl rfl,Mem.start (M:=fun _=>False) (G:=fun _=>True) (R:=fun w2=>bZ w w2) (fun _ h=>h.elim) (fun _ _=>trivial) (fun w2 b=>Below.next dC b),r [] rfl fun _=>fin fun w2 hS=> .inr ⟨rfl, ?_,hS.now.2⟩⟩;cases hd with
  |step hv st=>exact .inr ⟨s',rG,st⟩
  |form _ hv h0=>exact .inl fun iD=>h0 (hv.symm.trans iD)
 obtain⟨hv,st⟩:v.Ok∧Step s v s' rG true:=by cases hd with|step hv st=>exact⟨hv,st⟩
 obtain⟨a1,c1,a2,c2,ws,t,r1,r2,m1,m2,hW,x1,x2,l1,l2⟩:=(h1 rfl).ex;have o1:a7 (qF s'.ep s'.nx s'.gv (.slice a1 s'.rn c1) (.slice a2 s'.ln c2) ws) 41:=(wD.mk (w:=w') ⟨a1,c1,a2,c2,ws,rfl,r1,r2,l1,l2,m1,m2,hW⟩).one;have hRx:R<x.heap.size:=Nat.lt_of_lt_of_le tb.lt hS.now.2.size;have own:=N1.own;have MN:∀b,va.ownBlock=some b→R<b∧b<x.heap.size:=fun b hb=>by
  rcases own.2 with⟨rfl,_⟩|⟨g,_,_,rfl,h1,h2,_⟩
  ·cases hb
  ·cases hb;exact⟨h1,(Array.getElem?_eq_some_iff.1 h2).1⟩
 have EI:=aK own fun g hg aW=>o.block g aW (Nat.ne_of_gt (MN g hg).1);have tf:=own.1;have Pt:Mem w' (hs [Uf R 267 (qF s'.ep s'.nx s'.gv (.slice a1 s'.rn c1) (.slice a2 s'.ln c2) ws) rG [.o va]]) (fun b=>va.ownBlock=some b∨False) (fun w=>RowK .i64 w a1 (2*s'.rn) s'.R∧RowK .i64 w a2 (4*s'.ln) s'.L) (fun w2=>bZ w w2∧w2.ownsRow (R+1) 59 4 va bw.length ((kR bw).map (Value.int .i64))):=by
  refine⟨fun e he=>by cases List.mem_singleton.1 he;exact(Gt (.inr ⟨_,rfl⟩)).1 t,fun i j e e' hi hj _=> ?_,fun e he hm=> ?_,fun b hb=> ?_,fun w2 c=> ?_,fun w2 c=>⟨?_, ?_⟩⟩
  ·obtain⟨hi,_⟩:=List.getElem?_eq_some_iff.1 hi;obtain⟨hj,_⟩:=List.getElem?_eq_some_iff.1 hj;have hi:i<1:=hi;have hj:j<1:=hj;omega
  ·cases List.mem_singleton.1 he;exact hm.elim (fun h=>Nat.lt_irrefl _ (MN _ h).1) id
  ·exact hb.elim (fun h=>Nat.lt_of_lt_of_le (MN b h).2 o.size) False.elim
  ·have key:∀y:Addr,x.heap.size≤y.block→¬(y.block∈(hs [Uf R 267 (qF s'.ep s'.nx s'.gv (.slice a1 s'.rn c1) (.slice a2 s'.ln c2) ws) rG [.o va]]).map bT.a∨va.ownBlock=some y.block∨False):=fun y hy k=>by
    rcases k with k|k|k
    ·have:y.block=R:=List.mem_singleton.1 k;omega
    ·have:=(MN _ k).2;omega
    ·exact k
   exact⟨mR r1 c fun y hy _=>key y (x1 y hy),mR r2 c fun y hy _=>key y (x2 y hy)⟩
  ·exact dC.trans (c.below (Nat.le_trans dC.size (Nat.le_refl _)) fun b hb hm=>by
    have:b=R:=List.mem_singleton.1 hm;have:=N.up
    omega)
  ·exact aK EI fun g hg aW=>c.block g aW fun hm=>by
    have:g=R:=List.mem_singleton.1 hm;have:=(MN g hg).1;omega
 refine⟨vv (.bool true),_,_,_,_,rfl,.inl rfl,Pt,sv 0 (vp 0 0 R) rfl (r [3] rfl fun _=>Jh 1 rfl Zq (fun w2 hS=>(hS.at 0 rfl).lt) (fun w1 w2 h c=>lZ h c (by have:=N.up;omega)) fun g c hc=> ?_)⟩;refine r [] rfl fun _=>fin fun w2 hS=> .inl ⟨rfl,s',rG,_,hv,st,⟨⟨a1,c1,a2,c2,ws,(Gt (.inr ⟨_,rfl⟩)).2 (hS.at 0 rfl),hS.now.1.1,hS.now.1.2,m1,m2,hW,fun y hy=>by have:=x1 y hy;omega,fun y hy=>by have:=x2 y hy;omega,l1,l2⟩, ?_,hS.now.2.1,N.up⟩⟩;have:=hS.now.2.2;rw[xz,List.map_append,List.length_append];exact this
inductive Av(es:List Ev)(w w':tF):Value→Int→Prop
 |bad {er:Int} (h:¬er=0) (hr:Rv es St.zero er):Av es w w' (.slice none 0 0) er
 |told {s:St} {va:tN} (bw:List An) (h:es.length≤2000) (ht:bp es s bw) (own:w'.ownsRow w.heap.size 59 4 va bw.length ((kR bw).map (Value.int .i64))):Av es w w' va 0
def NtI(w:tF)(R:Nat)(es:List Ev)(k:Nat)(W:tF):Prop:=∃s an bw va,bp (es.take k) s bw∧Nt w W R s an bw va
def NtJ(w:tF)(es:List Ev)(W:tF):Prop:=Lf es∧bZ w W
theorem Og(w:tF)(R:Nat)(es:List Ev)(hl:es.length≤2000):zK 183 (.pointer (some ⟨R,0,none⟩)) es (NtI w R es) (NtJ w es) where
 enters:=enters_of Tryz.func183 (by kernel_rfl) rfl
 step:=by
  intro k hk W ⟨s,an,bw,va,ht,N⟩;have hlen:=ht.len;rw[List.length_take]at hlen;refine(RX w W R s an bw va es[k] ht.wf.ok (by omega) N).mono ?_;rintro e w' (⟨rfl,s',rG,va',hv,st,N'⟩|⟨rfl,hb,b⟩)
  ·refine .inl ⟨rfl,s',rG,_,va', ?_,N'⟩;rw[List.take_succ_eq_append_getElem hk];exact .snoc ht hv st
  ·exact .inr ⟨rfl,⟨k,s,bw,hk,ht,hb⟩,b⟩
 keep:=by
  intro k W W' ⟨s,an,bw,va,ht,N⟩ b;exact⟨s,an,bw,va,ht,N.next b⟩
abbrev LS:Array Value:= #[iV 0,iV 0,iV 0,.slice none 0 0,.slice none 0 0,iV 0,.bool false,.bool false,.bool false,.bool false,.bool false,.bool false,.bool false,.bool false,iV 0,.bool false,.bool false,.bool false,.bool false,.bool false,.bool false,.bool false,.bool false,iV 0,.bool false,.bool false,.bool false,.bool false,.bool false,.bool false,.bool false,.bool false,iV 0,.bool false,.bool false,.bool false,.bool false,.bool false,.bool false,.bool false,.bool false,iV 0,iV 0,iV 0,iV 0,.slice none 0 0]
theorem abV:LS=(qH 0 0 0 (.slice none 0 0) (.slice none 0 0) eT 0 0 0 0 [.slice none 0 0]).toArray:=rfl
theorem V1{w W:tF}(h:W=w.alloc (.cells LS 267)):Nt w W w.heap.size St.zero An.zero [] (.slice none 0 0):=by
 subst h;refine⟨⟨none,0,none,0,eT, ?_,RowK.nil _ _ _,RowK.nil _ _ _,fun _=>rfl,fun _=>rfl,jK,fun x hx=>(by cases hx),fun x hx=>(by cases hx),Nat.le_refl _,Nat.le_refl _⟩,World.ownsRow_nil _ _ _ _,aB _ _,Nat.le_refl _⟩;unfold dM;rw[heap_alloc_new,abV];rfl
theorem V2{ops:tP}{rest:List Oper}{o:Oper}{a:Act}{Q:tL}{w:tF}(d:Nat)(ho:o.op= .alloc 267)(hd:o.dst=some d)(hw:Region.wanted o (yielded ops a.tmps)=true)
  (h:∀w',Nt w w' w.heap.size St.zero An.zero [] (.slice none 0 0)→wpList Tryz.prog ops Q rest (a.put (some d) (.pointer (some ⟨w.heap.size,0,none⟩))) w'):wpList Tryz.prog ops Q (o::rest) a w:=
 wpList_step fun K hK=>by
  rw[if_pos hw];have:=hK _ _ (h _ (V1 (w:=w) rfl));rw[←hd]at this;unfold Oper.wp;simp only[execOp,ho];simpa[go_sem]using this
theorem xN{W:tF}{x:tN}{er:Int}{tmps:tR}(t2:tmps[2]? =some x)(t3:tmps[3]? =some (iV er)):
  (results Tryz.f141 tmps).run Tryz.prog W= .ok (.tuple #[x,iV er]) W:=by
 simp[results,Tryz.results141,t2,t3]
theorem Ho(es:List Ev)(a:tG)(cap:Nat)(w:tF)(hr:RowK .i64 w a (6*es.length) (ak es)):
  cA 141 #[.slice a es.length cap] w fun e w'=>∃va er,e= .returned (.tuple #[va,iV er])∧Av es w w' va er∧bZ w w':=by
 go_enter Tryz.func141,Tryz.ntmps141
 go_upto_region 2 with(refine V2 4 rfl rfl rfl ?_;intro W1 N1)
 have HE:Hid (cA 37 #[.slice a es.length cap,.func (.func 183) #[.pointer (some ⟨w.heap.size,0,none⟩)] #[]] W1 fun e w'=>∃er:Int,e= .returned (iV er)∧((er=0∧es.length≤2000∧NtI w w.heap.size es es.length w')∨(¬er=0∧Rv es St.zero er∧bZ w w'))):=ai (by
  by_cases hl:es.length≤2000
  ·refine(Gv 183 w.heap.size es _ _ (Og w w.heap.size es hl) a cap W1 ⟨_,_,_,_,by simpa using bp.nil,N1⟩ hl (fun k W hI=>by obtain⟨_,_,_,_,_,N⟩:=hI;exact hr.below N.dC)).mono ?_;rintro e w' (⟨rfl,h1⟩|⟨rfl,h1⟩)
   ·exact⟨0,rfl,.inl ⟨rfl,hl,h1⟩⟩
   ·exact⟨3,rfl,.inr ⟨by decide,.form hl h1.1,h1.2⟩⟩
  ·refine(Co _ _ _ a cap W1 (by omega)).mono ?_;rintro e w' ⟨rfl,b3⟩
   exact⟨1,rfl,.inr ⟨by decide,.size (by omega),Below.next N1.dC b3⟩⟩)
 clear N1
 go_upto_region 3 with(go_at_call 37;refine(aa HE).mono ?_;rintro e W3 ⟨er,rfl,HH⟩;clear HE)
 rcases HH with⟨rfl,hl,s,an,bw,va,ht,N⟩|⟨h0,rv,b⟩
 ·rw[List.take_length]at ht;obtain⟨_,_,_,_,_,tb,_⟩:=N.tg.ex;have y45:=tb.more;have HN:=ai N;have HT:=ai ht;clear tb N ht;go_wp2;exact bodyPost_ret (xN rfl rfl) rfl ⟨_,_,rfl,.told bw hl (aa HT) (rD (aa HN).own (by omega)),(aa HN).dC⟩
 ·have HV:=ai rv;have HB:=ai b;clear rv b;go_wp2;exact bodyPost_ret (xN rfl rfl) rfl ⟨_,_,rfl,.bad h0 (aa HV),aa HB⟩
end
theorem Step.RY{s s':St}{v:Ev}{an:An}{ch:Bool}(ok:s.Ok)(h:Step s v s' an ch):∀u∈fp an,(Lit.int .i64 u).wf=true:=by
 have e0:=ok.count.e0;have e1:=ok.count.e1;have g0:=ok.count.g0;have g1:=ok.count.g1;intro u hu;cases h with
 |recv hk hr hg=>
  have hb:=gE ok hr;simp only[fp,List.mem_cons,List.not_mem_nil,or_false]at hu;rcases hu with rfl|rfl|rfl|rfl
  ·decide
  ·exact uV e0 (by omega)
  ·exact uV g0 (by omega)
  ·exact uV hb.2.2.1 (by have:=hb.2.2.2;simp at this⊢;omega)
 |iJ=>simp only[fp,List.mem_cons,List.not_mem_nil,or_false]at hu;rcases hu with rfl|rfl|rfl|rfl<;>decide
 |iK=>simp only[fp,List.mem_cons,List.not_mem_nil,or_false]at hu;rcases hu with rfl|rfl|rfl|rfl<;>decide
 |fK=>simp only[fp,List.mem_cons,List.not_mem_nil,or_false]at hu;rcases hu with rfl|rfl|rfl|rfl<;>decide
 |IG=>simp only[fp,List.mem_cons,List.not_mem_nil,or_false]at hu;rcases hu with rfl|rfl|rfl|rfl<;>decide
 |eH=>simp only[fp,List.mem_cons,List.not_mem_nil,or_false]at hu;rcases hu with rfl|rfl|rfl|rfl<;>decide
 |fL=>simp only[fp,List.mem_cons,List.not_mem_nil,or_false]at hu;rcases hu with rfl|rfl|rfl|rfl<;>decide
 |eI=>simp only[fp,List.mem_cons,List.not_mem_nil,or_false]at hu;rcases hu with rfl|rfl|rfl|rfl<;>decide
 |fM=>simp only[fp,List.mem_cons,List.not_mem_nil,or_false]at hu;rcases hu with rfl|rfl|rfl|rfl<;>decide
 |IH=>simp only[fp,List.mem_cons,List.not_mem_nil,or_false]at hu;rcases hu with rfl|rfl|rfl|rfl<;>decide
 |fP=>simp only[fp,List.mem_cons,List.not_mem_nil,or_false]at hu;rcases hu with rfl|rfl|rfl|rfl<;>decide
 |stop=>simp only[fp,List.mem_cons,List.not_mem_nil,or_false]at hu;rcases hu with rfl|rfl|rfl|rfl<;>decide
theorem bp.RY{es:List Ev}{s:St}{bw:List An}(h:bp es s bw):∀u∈kR bw,(Lit.int .i64 u).wf=true:=by
 induction h with
 |nil=>intro u hu;cases hu
 |snoc h hv st ih=>
  intro u hu;rw[xz]at hu;rcases List.mem_append.1 hu with hu|hu
  ·exact ih u hu
  ·exact st.RY h.wf.ok u hu
def gl(mo:tS)(hn he:tK)(wt af:tN)(tu:Int):Nat→Value:=fun k=>
 if k<188 then mo (k/47) (k % 47)else if k<196 then(if(k-188) % 2=0 then iV (hn ((k-188)/2))else iV (he ((k-188)/2)))else lF [wt,af,iV tu] (k-196)
def kH(hd:tO)(me:tH)(tl:tO):Nat→Value:=fun k=>if k<5 then lF hd k else if k<204 then me (k-5)else lF tl (k-204)
def Px:Nat→Nat→Value:=fun _=>mF 0 0 0 0 0 (.slice none 0 0) zQ
abbrev Zr:Nat→Value:=gl Px (fun _=>0) (fun _=>0) (.slice none 0 0) .nilFunc 0
theorem XP{mo:tS}{hn he:tK}{wt af:tN}{tu:Int}{q j:Nat}(hq:q<4)(hj:j<47):gl mo hn he wt af tu (q*47+j)=mo q j:=by
 unfold gl;rw[if_pos (by omega),show(q*47+j)/47=q by omega,show(q*47+j) % 47=j by omega]
theorem abW{mo:tS}{hn he:tK}{wt af:tN}{tu:Int}{q:Nat}(hq:q<4):gl mo hn he wt af tu (188+q*2)=iV (hn q):=by
 unfold gl;rw[if_neg (by omega),if_pos (by omega),if_pos (by omega),show(188+q*2-188)/2=q by omega]
theorem abX{mo:tS}{hn he:tK}{wt af:tN}{tu:Int}{q:Nat}(hq:q<4):gl mo hn he wt af tu (188+q*2+1)=iV (he q):=by
 unfold gl;rw[if_neg (by omega),if_pos (by omega),if_neg (by omega),show(188+q*2+1-188)/2=q by omega]
def aC{α:Type}(m:Nat→α)(q:Nat)(x:α):Nat→α:=fun p=>if p=q then x else m p
theorem RZ{mo:tS}{hn he:tK}{wt af:tN}{tu:Int}{q:Nat}{g:tH}(hq:q<4)(i:Nat):gj (gl mo hn he wt af tu) (q*47) 47 g i=gl (aC mo q g) hn he wt af tu i:=by
 unfold gj;by_cases hc:q*47≤i∧i<q*47+47
 ·rw[if_pos hc];obtain⟨j,rfl⟩:∃j,i=q*47+j:=⟨i-q*47,by omega⟩;rw[XP hq (by omega),show q*47+j-q*47=j by omega];simp[aC]
 ·rw[if_neg hc];unfold gl;by_cases h1:i<188
  ·rw[if_pos h1,if_pos h1];have:¬i/47=q:=by omega
   simp[aC,this]
  ·rw[if_neg h1,if_neg h1]
theorem CK{hd tl:tO}{me:tH}{k:Nat}(h:k<199):kH hd me tl (5+k)=me k:=by
 unfold kH;rw[if_neg (by omega),if_pos (by omega),show 5+k-5=k by omega]
theorem pC{hd tl:tO}{mo:tS}{hn he:tK}{wt af:tN}{tu:Int}{q:Nat}{g:tH}(hq:q<4)(i:Nat):gj (kH hd (gl mo hn he wt af tu) tl) (5+q*47) 47 g i=kH hd (gl (aC mo q g) hn he wt af tu) tl i:=by
 by_cases hc:5≤i∧i<204
 ·obtain⟨j,rfl⟩:∃j,i=5+j:=⟨i-5,by omega⟩;rw[CK (by omega),←RZ hq];unfold gj;by_cases h2:q*47≤j∧j<q*47+47
  ·rw[if_pos (by omega),if_pos h2,show 5+j-(5+q*47)=j-q*47 by omega]
  ·rw[if_neg (by omega),if_neg h2,CK (by omega)]
 ·rw[qw _ _ _ _ _ (by omega)];unfold kH;by_cases h5:i<5
  ·rw[if_pos h5,if_pos h5]
  ·rw[if_neg h5,if_neg h5,if_neg (by omega),if_neg (by omega)]
theorem oc{hd tl:tO}{mo:tS}{hn he:tK}{wt af:tN}{tu:Int}{q j:Nat}(hq:q<4)(hj:j<47):kH hd (gl mo hn he wt af tu) tl (5+q*47+j)=mo q j:=by
 rw[Nat.add_assoc,CK (by omega),XP hq hj]
theorem wT{mo:tS}{hn he:tK}{a:tG}{n c:Nat}{af:tN}{tu:Int}(hm:∀q,q<4→a7 (mo q) 47)(ha:af.oneCell'=true):a7 (gl mo hn he (.slice a n c) af tu) 199:=fun i hi=>by
 unfold gl;by_cases h1:i<188
 ·rw[if_pos h1];exact hm _ (by omega) _ (by omega)
 ·rw[if_neg h1];by_cases h2:i<196
  ·rw[if_pos h2];split<;>rfl
  ·rw[if_neg h2];obtain rfl|rfl|rfl:i=196∨i=197∨i=198:=by omega
   ·rfl
   ·exact ha
   ·rfl
theorem yx:∀q,q<4→a7 (Px q) 47:=fun _ _=>eD zJ
section
open Rv
theorem vy(w:tF):cA 43 #[] w (rB (vF (gl Px (fS 4) bH (.slice none 0 0) .nilFunc 0) 199) w):=by
 have o1:a7 (gl Px (fS 4) bH (.slice none 0 0) .nilFunc 0) 199:=wT yx rfl;exact en (H:=[]) 4 [] Tryz.func43 rfl rfl (m0 w) (r [] rfl fun α=>Rv.cb rfl (vg [.o (iV (fS 4 0)),.o (iV (bH 0)),.o (iV (fS 4 1)),.o (iV (bH 1)),.o (iV (fS 4 2)),.o (iV (bH 2)),.o (iV (fS 4 3)),.o (iV (bH 3))]) (fun w _=>LA w) (r [] rfl fun _=>pv (vg [.o (iV (fS 4 0)),.o (iV (bH 0)),.o (iV (fS 4 1)),.o (iV (bH 1)),.o (iV (fS 4 2)),.o (iV (bH 2)),.o (iV (fS 4 3)),.o (iV (bH 3))]) rfl (fun w=>by kernel_rfl) (r [] rfl fun _=>gn 0 (gl Px (fS 4) bH (.slice none 0 0) .nilFunc 0) (r [] rfl fun _=>fin fun w hS=>⟨rfl,hS.now.2⟩))))
theorem R9(X N:Nat)(i:Int)(da:tG)(dn dc:Nat)(dl:tJ)(sy:Int)(mo:tS)(hn he:tK)(wt af:tN)(tu ct:Int)(sk:Bool)(kp:Int)(w:tF)(fb:aZ w N 126 206 (kH [.pointer (some ⟨X,0,none⟩),iV i,.bool true,.slice da dn dc,iV sy] (gl mo hn he (wt) (af) tu) [iV ct,.bool sk]))(U:tI)(hU:∀b,U b→b<w.heap.size)(E9:¬U N)(hr:bU (fun b=>b=N∨U b) w fun w=>RowK .u8 w da dn dl)(Jo:da=none→dc=0)(Jf:dn≤dc)(h1:dn≤100000)(h2:0≤sy)(h3:sy≤dn)(hk:0≤kp)(YS:kp≤9223372036854775807):cA 49 #[.pointer (some ⟨N,0,none⟩),iV kp] w fun x w'=>∃a1 c1,x= .returned (.tuple #[])∧aZ w' N 126 206 (kH [.pointer (some ⟨X,0,none⟩),iV i,.bool false,.slice a1 (leftOf dn sy kp) c1,iV (leftOf dn sy kp)] Zr [iV sy,.bool sk])∧bU (fun b=>b=N∨U b) w' (fun w=>RowK .u8 w a1 (leftOf dn sy kp) (dl.take (leftOf dn sy kp)))∧leftOf dn sy kp≤c1∧(a1=none→c1=0)∧c1≤9223372036854775807∧dB (fun b=>b=N) w w':=by
 refine en 36 [vp 0 0 N,vi kp] Tryz.func49 rfl rfl (fb.KZ hU E9 hr) (r [] rfl fun _=> ?_);refine cx rfl (fun y:Option Addr×Nat=>vt [.g [.o (.slice y.1 (leftOf dn sy kp) y.2),.o (iV (leftOf dn sy kp))],.o (iV 0)]) (fun y=>leftOf dn sy kp≤y.2∧(y.1=none→y.2=0)∧y.2≤9223372036854775807) (fun y w=>RowK .u8 w y.1 (leftOf dn sy kp) (dl.take (leftOf dn sy kp))) (fun w1 hS=>(NL da dn dc dl sy kp w1 hS.now.1 Jo Jf h1 h2 h3 hk YS).mono fun _ w2 ⟨a1,c1,h0,r1,vk,uR,IB,BP,b⟩=>⟨(a1,c1),h0,b,⟨vk,uR,IB⟩,cD r1 BP⟩) ?_;rintro⟨a1,c1⟩ ⟨vk,uR,IB⟩;refine r [] rfl fun _=>gn 0 (kH [.pointer (some ⟨X,0,none⟩),iV i,.bool false,.slice a1 (leftOf dn sy kp) c1,iV (leftOf dn sy kp)] (gl Px (fun _=>0) (fun _=>0) (.slice none 0 0) .nilFunc 0) [iV sy,.bool sk]) ?_ rfl (by kernel_rfl);exact dm rfl fun w2 hS=>⟨a1,c1,rfl,hS.at 0 rfl,fun w2 c2=>(hS.g w2 (c2.mono fun b h=>h.imp (fun h=>List.mem_singleton.2 h) id)).2,vk,uR,IB,hS.now.2.mono fun b h=>List.mem_singleton.1 h⟩
def frR(r:Rec):List Int:=dN (bytesOf r.k r.q r.e r.p r.v.k r.v.p r.v.i r.v.b r.v.he r.v.hn)
def cG(rs:List Rec):List Int:=rs.flatMap frR
theorem LU(r:Rec):(frR r).length=(bytesOf r.k r.q r.e r.p r.v.k r.v.p r.v.i r.v.b r.v.he r.v.hn).length+6:=mV _
theorem AF{rs:List Rec}{k:Nat}{r:Rec}(h:rs[k]? =some r):cG (rs.take (k+1))=cG (rs.take k)++frR r:=by
 rw[List.take_add_one,h];simp[cG]
theorem R_{rs:List Rec}{k n2 dn:Nat}{r:Rec}(h:rs[k]? =some r)(e:n2=dn+(cG (rs.take k)).length)(hf:100000<n2+((bytesOf r.k r.q r.e r.p r.v.k r.v.p r.v.i r.v.b r.v.he r.v.hn).length+6)):100000<dn+(cG rs).length:=by
 have e1:cG rs=cG (rs.take (k+1))++cG (rs.drop (k+1)):=by
  unfold cG;rw[←List.flatMap_append,List.take_append_drop]
 rw[e1,AF h];simp only[List.length_append,LU];omega
theorem qV{l:List Rec}{k:Nat}{r:Rec}(hk:l[k]? =some r):∀j,j<10→iV ((aD l).getD (10*k+j) 0)=lF [iV r.k,iV r.q,iV r.e,iV r.p,iV r.v.k,iV r.v.p,iV r.v.i,iV r.v.b,iV r.v.he,iV r.v.hn] j:=by
 obtain⟨hl,rfl⟩:=List.getElem?_eq_some_iff.1 hk;intro j hj;rw[s5 l k hl j hj]
 match j,hj with
 |0,_=>rfl
 |1,_=>rfl
 |2,_=>rfl
 |3,_=>rfl
 |4,_=>rfl
 |5,_=>rfl
 |6,_=>rfl
 |7,_=>rfl
 |8,_=>rfl
 |9,_=>rfl
theorem jd(X N:Nat)(i:Int)(da:tG)(dn dc:Nat)(dl:tJ)(sy:Int)(mo:tS)(hn he:tK)(wt af:tN)(tu ct:Int)(ub sk:Bool)(ag:Fn)(a1 a1c:tR)(rs:List Rec)(la:tG)(rn lc:Nat)(w:tF)(fb:aZ w N 126 206 (kH [.pointer (some ⟨X,0,none⟩),iV i,.bool ub,.slice da dn dc,iV sy] (gl mo hn he (wt) (af) tu) [iV ct,.bool sk]))(U:tI)(hU:∀b,U b→b<w.heap.size)(E9:¬U N)(hr:bU (fun b=>b=N∨U b) w fun w=>RowK .u8 w da dn dl∧RowK .i64 w la (10*rn) (aD rs))(Jo:da=none→dc=0)(Jf:dn≤dc)(hdm:dc≤9223372036854775807)(h1:dn≤100000)(h2:0≤sy)(h3:sy≤dn)(hrn:rn=rs.length)(hrl:rn≤100000)(iD:∀r∈rs,r.fault=0):cA 79 #[.pointer (some ⟨N,0,none⟩),.func ag a1 a1c,.slice la rn lc] w fun x w'=>∃k,x= .returned (.bool k)∧dB (fun b=>b=N) w w'∧((k=true∧dn+(cG rs).length≤100000∧∃a2 c2,aZ w' N 126 206 (kH [.pointer (some ⟨X,0,none⟩),iV i,.bool ub,.slice a2 (dn+(cG rs).length) c2,iV sy] (gl mo hn he wt (.func ag a1 a1c) tu) [iV ct,.bool sk])∧bU (fun b=>b=N∨U b) w' (fun w=>RowK .u8 w a2 (dn+(cG rs).length) (dl++cG rs))∧dn+(cG rs).length≤c2∧(a2=none→c2=0)∧c2≤9223372036854775807)∨(k=false∧100000<dn+(cG rs).length∧aZ w' N 126 206 (kH [.pointer (some ⟨X,0,none⟩),iV i,.bool ub,.slice da dn dc,iV sy] (gl mo hn he (wt) (af) tu) [iV ct,.bool sk]))):=by
 refine en 41 [vp 0 0 N,vv (.func ag a1 a1c),vv (.slice la rn lc)] Tryz.func79 rfl rfl (fb.KZ hU E9 hr) (r [] rfl fun α=>gn 1 (lF [.slice da dn dc,iV sy]) ?_);obtain⟨len,el⟩:∃len:Nat→Nat,len=fun k=>dn+(cG (rs.take k)).length:=⟨_,rfl⟩;have l0:len 0=dn:=by rw[el];rfl
 refine iC (X:=Nat×Option Addr×Nat×Nat) ⟨fun x=>[(0,vp 0 0 N),(1,vv (.func ag a1 a1c)),(7,vp 1 0 (α 0)),(16,vv (.slice la rn lc)),(17,vi (rn:Int)),(18,vi (x.1:Int))],fun x=>[⟨N,126,[.f 206 (kH [.pointer (some ⟨X,0,none⟩),iV i,.bool ub,.slice da dn dc,iV sy] (gl mo hn he wt af tu) [iV ct,.bool sk])]⟩,⟨α 0,124,[.f 2 (lF [.slice x.2.1 x.2.2.1 x.2.2.2,iV sy])]⟩],fun _=>U,fun x w=>RowK .u8 w x.2.1 x.2.2.1 (dl++cG (rs.take x.1))∧RowK .i64 w la (10*rn) (aD rs),fun _ w'=>dB (fun b=>b∈[N]) w w',fun x=>x.1≤rn∧x.2.2.1=len x.1∧x.2.2.1≤100000∧x.2.2.1≤x.2.2.2∧(x.2.1=none→x.2.2.2=0)∧x.2.2.2≤9223372036854775807,fun x=>rn-x.1⟩ (0,da,dn,dc) ⟨rfl,rfl,rfl,rfl,rfl,rfl,trivial⟩ (fun _ hS=>hS.said fun _ h=>⟨by simpa[cG]using h.1,h.2⟩) ⟨Nat.zero_le _,l0.symm,h1,Jf,Jo,hdm⟩ ?_;rintro f ⟨k,a2,n2,c2⟩ ⟨hk,V3,xj,kz,rU,hm2⟩;have hk:k≤rn:=hk;have V3:n2=len k:=V3;have xj:n2≤100000:=xj;by_cases aW:k<rn
 case neg=>
  have ek:len k=dn+(cG rs).length:=by rw[el];show dn+(cG (rs.take k)).length=_;rw[List.take_of_length_le (by omega)]
  refine r [0] rfl fun _=>gn 0 (kH [.pointer (some ⟨X,0,none⟩),iV i,.bool ub,.slice a2 n2 c2,iV sy] (gl mo hn he wt (.func ag a1 a1c) tu) [iV ct,.bool sk]) ?_ rfl (by kernel_rfl);refine fin fun w hS=>⟨true,rfl,hS.now.2.mono fun b h=>List.mem_singleton.1 h,.inl ⟨rfl,ek▸V3▸xj,a2,c2,ek▸V3▸hS.at 0 rfl,fun w2 cc=> ?_,ek▸V3▸kz,rU,hm2⟩⟩;have:=((hS.take 1).g w2 (cc.mono fun b h=>h.imp (fun h=>List.mem_singleton.2 h) id)).1;rw[List.take_of_length_le (by omega),V3,ek]at this;exact this
 obtain⟨⟨rk,rq,re,rp,rv⟩,hv⟩:∃r,rs[k]? =some r:=⟨rs[k],List.getElem?_eq_getElem (by omega)⟩;have e1:len (k+1)=n2+((bytesOf rk rq re rp rv.k rv.p rv.i rv.b rv.he rv.hn).length+6):=by rw[V3,el];show dn+(cG (rs.take (k+1))).length=dn+(cG (rs.take k)).length+_;rw[AF hv,List.length_append,LU];exact(Nat.add_assoc _ _ _).symm
 obtain⟨lb,lo,ela⟩:∃b o,la=some ⟨b,o,none⟩:=ph hr.now.2 (by omega);subst ela;refine r [1] rfl fun _=>lf (q:=lo+k*10) rfl 10 (lF [iV rk,iV rq,iV re,iV rp,iV rv.k,iV rv.p,iV rv.i,iV rv.b,iV rv.he,iV rv.hn]) (fun w hS=>mP hS.now.1.2 (by omega) (qV hv)) (r [] rfl fun β=> ?_);have ge:dn≤n2:=by rw[V3,el];exact Nat.le_add_right ..
 have wr:=fun w (hS:RowK .u8 w a2 n2 (dl++cG (rs.take k)))=>N6 a2 n2 c2 _ sy rk rq re rp rv.k rv.p rv.i rv.b rv.he rv.hn w hS rU xj h2 (by omega) (iD _ (List.mem_of_getElem? hv));by_cases hf:100000<len (k+1)
 ·refine Rv.cb rfl (vt [.g [.o (.slice none 0 0),.o (iV 0)],.o (iV 14)]) (fun w hS=>(wr w hS.now.1.1).mono fun _ _ h=> ?_) (r [1] rfl fun _=>fin fun w hS=>⟨false,rfl,hS.now.2.mono fun b h=>List.mem_singleton.1 h,.inr ⟨rfl,R_ hv (by rw[V3,el]) (e1▸hf),hS.at 0 rfl⟩⟩);rcases h with⟨_,rfl,b⟩|⟨h,_⟩
  ·exact⟨rfl,b⟩
  ·exact absurd (Nat.le_trans (Nat.le_of_eq e1) h) (Nat.not_le.2 hf)
 refine cx rfl (fun y:Option Addr×Nat=>vt [.g [.o (.slice y.1 (len (k+1)) y.2),.o (iV sy)],.o (iV 0)]) (fun y=>len (k+1)≤y.2∧(y.1=none→y.2=0)∧y.2≤9223372036854775807) (fun y w=>RowK .u8 w y.1 (len (k+1)) (dl++cG (rs.take (k+1)))) (fun w hS=>(wr w hS.now.1.1).mono fun _ w' h=> ?_) ?_
 ·rcases h with⟨h,_⟩|⟨_,a3,c3,rfl,r3,hc3,Hp,hm3,hw3,b⟩
  ·exact absurd (Nat.lt_of_lt_of_le h (Nat.le_of_eq e1.symm)) hf
  ·refine⟨(a3,c3),by rw[e1];rfl,b,⟨by rw[e1];exact hc3,Hp,hm3⟩,cD ?_ hw3⟩;rw[e1,AF hv,←List.append_assoc];exact r3
 rintro⟨a3,c3⟩ ⟨hc3,Hp,hm3⟩;exact rz [0,1] [((k+1:Nat):Int)] rfl fun _=>eJ (k+1,a3,len (k+1),c3) ⟨rfl,rfl,rfl,rfl,rfl,rfl,trivial⟩ (fun w hS=>(hS.take 2).said fun _ h=>⟨h.2,h.1.2⟩) ⟨aW,rfl,Nat.le_of_not_lt hf,hc3,Hp,hm3⟩ (show rn-(k+1)<rn-k by omega)
theorem wU(X N:Nat)(i:Int)(da:tG)(dn dc:Nat)(dl:tJ)(sy:Int)(mo:tS)(hn he:tK)(wt:tN)(tu ct:Int)(ub sk:Bool)(g:Nat)(cl:tO)(w:tF)(fb:aZ w N 126 206 (kH [.pointer (some ⟨X,0,none⟩),iV i,.bool ub,.slice da dn dc,iV sy] (gl mo hn he (wt) (.func (.func g) #[] cl.toArray) tu) [iV ct,.bool sk]))(U:tI)(hU:∀b,U b→b<w.heap.size)(E9:¬U N)(hr:bU (fun b=>b=N∨U b) w fun w=>RowK .u8 w da dn dl)(Jo:da=none→dc=0)(Jf:dn≤dc)(h1:dn≤100000)(h2:0≤sy)(h3:sy≤dn)(hen:Rv.iR Tryz.prog g=true)(R:tM)(hRb:∀w w2,R w→bZ w w2→R w2)(hA:∀a1 c1 w1,aZ w1 N 126 206 (kH [.pointer (some ⟨X,0,none⟩),iV i,.bool ub,.slice a1 dn c1,iV dn] (gl mo hn he wt .nilFunc tu) [iV ct,.bool sk])→bU (fun b=>b=N∨U b) w1 (fun w=>RowK .u8 w a1 dn dl)→dn≤c1→(a1=none→c1=0)→c1≤9223372036854775807→dB (fun b=>b=N) w w1→cA g cl.toArray w1 fun x w'=>x= .returned (.tuple #[])∧R w'):cA 80 #[.pointer (some ⟨N,0,none⟩)] w fun x w'=>x= .returned (.tuple #[])∧R w':=by
 refine en 25 [vp 0 0 N] Tryz.func80 rfl rfl (fb.KZ hU E9 hr) (r [] rfl fun _=> ?_);refine cx rfl (fun y:Option Addr×Nat=>vt [.g [.o (.slice y.1 dn y.2),.o (iV dn)],.o (iV 0)]) (fun y=>dn≤y.2∧(y.1=none→y.2=0)∧y.2≤9223372036854775807) (fun y w=>RowK .u8 w y.1 dn dl) (fun w1 hS=>(RC da dn dc dl sy w1 hS.now.1 Jo h1 h2 h3).mono fun _ w2 ⟨a1,c1,h0,r1,vk,uR,IB,BP,b⟩=>⟨(a1,c1),h0,b,⟨vk,uR,IB⟩,cD r1 BP⟩) ?_;rintro⟨a1,c1⟩ ⟨vk,uR,IB⟩;have hm:(cl.map vv).map AV.val=cl:=by rw[List.map_map];exact List.map_id _
 refine r [] rfl fun _=>gn 0 (kH [.pointer (some ⟨X,0,none⟩),iV i,.bool ub,.slice a1 dn c1,iV dn] (gl mo hn he wt .nilFunc tu) [iV ct,.bool sk]) ?_;have key:∀w1,Mem w1 (hs [⟨N,126,[.f 206 (kH [.pointer (some ⟨X,0,none⟩),iV i,.bool ub,.slice a1 dn c1,iV dn] (gl mo hn he wt .nilFunc tu) [iV ct,.bool sk])]⟩]) U (fun w=>RowK .u8 w da dn dl∧RowK .u8 w a1 dn dl) (fun w'=>dB (fun b=>b∈[N]) w w')→cA g ((cl.map vv).map AV.val).toArray w1 fun x w'=>x= .returned (.tuple #[])∧∃_:Unit,R w':=fun w1 hS=>by
  rw[hm];exact(hA a1 c1 w1 (hS.at 0 rfl) (fun w2 cc=>(hS.g w2 (cc.mono fun b h=>h.imp (fun h=>List.mem_singleton.2 h) id)).2) vk uR IB (hS.now.2.mono fun b h=>List.mem_singleton.1 h)).mono fun _ _ h=>⟨h.1,(),h.2⟩
 cases cl<;>exact Rv.ct rfl (vt []) (fun _=>R) key (fun _=>hRb) (fun _=>r [] rfl fun _=>dm rfl fun _ hS=>⟨rfl,hS.now.2⟩) rfl hen
end
def lU(nd:tU)(pn pe:tK)(r:tO):Nat→Value:=fun k=>
 if k<5 then .pointer (some ⟨nd k,0,none⟩)else if k<13 then lF [iV (pn 0),iV (pe 0),iV (pn 1),iV (pe 1),iV (pn 2),iV (pe 2),iV (pn 3),iV (pe 3)] (k-5)else lF r (k-13)
theorem Sa{nd:tU}{pn pe:tK}{r:tO}{k:Nat}(h:k<5):lU nd pn pe r k= .pointer (some ⟨nd k,0,none⟩):=if_pos h
theorem LV{nd:tU}{pn pe:tK}{r:tO}{j:Nat}(h:j<8):lU nd pn pe r (5+j)=lF [iV (pn 0),iV (pe 0),iV (pn 1),iV (pe 1),iV (pn 2),iV (pe 2),iV (pn 3),iV (pe 3)] j:=by
 unfold lU;rw[if_neg (by omega),if_pos (by omega),show 5+j-5=j by omega]
theorem Zs{nd:tU}{pn pe Py Pz:tK}{r:tO}(i:Nat):gj (lU nd pn pe r) 5 8 (lF [iV (Py 0),iV (Pz 0),iV (Py 1),iV (Pz 1),iV (Py 2),iV (Pz 2),iV (Py 3),iV (Pz 3)]) i=lU nd Py Pz r i:=by
 unfold gj;by_cases hc:5≤i∧i<5+8
 ·rw[if_pos hc];obtain⟨j,rfl⟩:∃j,i=5+j:=⟨i-5,by omega⟩;rw[LV (by omega),show 5+j-5=j by omega]
 ·rw[if_neg hc];unfold lU;by_cases h1:i<5
  ·rw[if_pos h1,if_pos h1]
  ·rw[if_neg h1,if_neg h1,if_neg (by omega),if_neg (by omega)]
theorem Zt{nd:tU}{pn pe:tK}{r:tO}{k:Nat}{v:tN}(hk:k<r.length)(i:Nat):oS (lU nd pn pe r) (13+k) v i=lU nd pn pe (r.set k v) i:=by
 by_cases hi:i=13+k
 ·subst hi;rw[DB];unfold lU;rw[if_neg (by omega),if_neg (by omega),show 13+k-13=k by omega];simp[lF,hk]
 ·rw[qx _ _ _ _ hi];unfold lU;by_cases h5:i<5
  ·rw[if_pos h5,if_pos h5]
  ·rw[if_neg h5,if_neg h5];by_cases h6:i<13
   ·rw[if_pos h6,if_pos h6]
   ·rw[if_neg h6,if_neg h6];have:¬k=i-13:=by omega
    simp[lF,this]
section
open Rv
namespace Rv
section
variable{n:Nat}{ops:tP}{f:Nat→AV}{fn:Func}{Rr:Ending→World→Prop}{M:tI}{Φ R:tM}{H:List En}{w:tF}{ks:List Fr}{t:Ord}{i d:Nat}{md:Md}
theorem sol{s b q m:Nat}{x y:AV}{e:Ty}{en:En}{g:tH}(h1:stB n ops f i=some (s,x,y))(hx:x.val= .pointer (some ⟨b,q,none⟩))(hy:y.val=vF g m)(j:Nat)(he:nth H j=some en)(g':tH)(hg:∀i,i<ib en.l→gj (di en.l) q m g i=g' i)(hn:G Tryz.prog fn Rr n M Φ R (.g md ops t::ks) f (H.set j ⟨en.a,en.t,[.f (ib en.l) g']⟩))(MO:a7 g m)(hq:q+m≤ib en.l:=by first|exact cJ rfl|(show _≤206;(try dsimp only);omega)|(show _≤199;(try dsimp only);omega)|(show _≤19;(try dsimp only);omega)|(show _≤18;(try dsimp only);omega)|(show _≤8;(try dsimp only);omega))(ha:en.a=b:=by rfl)(hb:en.a∈md.va:=by exact List.mem_singleton.2 rfl)(hv:md.vs.contains i=true:=by rfl)(hf:T0.find s=some e:=by rfl)(ho:e.fF=false:=by rfl)(hm:e.m=m:=by rfl):G Tryz.prog fn Rr n M Φ R (.g md ops (.ef i t)::ks) f H:=by
 intro w hS hK;obtain⟨hK1,jU⟩:=bm.1 hK;show WF Tryz.prog ops (kq Tryz.prog fn Rr ks) md.va (oE md ops) (uI md ops) (.ef i t) n (cn f) w;obtain⟨MF,rfl⟩:=T0k.fh hf;have KX:=he;rw[gy]at KX;have E3:(hs H)[j]? =some en.iG:=by rw[List.getElem?_map,KX];rfl
 unfold stB at h1;split at h1
 ·rename_i o hoo;split at h1
  ·rename_i s' p r hd hw hp;simp only[Option.some.injEq,Prod.mk.injEq]at h1;obtain⟨rfl,rfl,rfl⟩:=h1;have hx:ev (cn f) p= .pointer (some ⟨b,q,none⟩):=(bl f p).symm.trans hx;have hy:ev (cn f) r=vF g m:=(bl f r).symm.trans hy;have BN:((oE md ops).contains i||(uI md ops).contains i)=true:=DL hoo (by unfold nI;rw[hv]);refine adN (P:=Tryz.prog) (hm▸Ty.row MF ho) hS j E3 hb BN hoo hd (eS hw) (dt hK1).1 hp hx hy ha hq MO fun w' A5=> ?_
   have Pt:=A5.congr j (e:=⟨en.a,en.t,ib en.l,gj (di en.l) q m g⟩) (by
    rw[List.getElem?_set_self (List.getElem?_eq_some_iff.1 E3).1]
    rfl) g' hg
   rw[List.set_set]at Pt;have e4:hs (H.set j ⟨en.a,en.t,[.f (ib en.l) g']⟩)=(hs H).set j ⟨en.a,en.t,ib en.l,g'⟩:=by
    rw[hs,List.map_set];rfl
   exact hn w' (by rw[e4];exact Pt) (bm.2 ⟨hK1,jU⟩)
  ·cases h1
 ·cases h1
end
end Rv
theorem V4(X N:Nat)(i:Int)(da:tG)(dn dc:Nat)(sy:Int)(mo:tS)(hn he:tK)(wt af:tN)(tu ct:Int)(ub sk:Bool)(nd:tU)(pn pe:tK)(fl tk dd:tN)(cs:Int)(sv td:tN)(Py Pz:tK)(m:tH)(om:a7 m 47)(q:Nat)(hq:q<4)(c8 c6 c5 c4 c3:Nat)(w:tF)(Uj:aZ w N 126 206 (kH [.pointer (some ⟨X,0,none⟩),iV i,.bool ub,.slice da dn dc,iV sy] (gl mo hn he (wt) (af) tu) [iV ct,.bool sk]))(U1:aZ w X 114 19 (lU nd pn pe [fl,tk,dd,iV cs,sv,td]))(w_:aZ w c8 117 47 m)(fb3:aZ w c6 29 8 (lF [iV (Py 0),iV (Pz 0),iV (Py 1),iV (Pz 1),iV (Py 2),iV (Pz 2),iV (Py 3),iV (Pz 3)]))(fb4:aZ w c5 109 1 (fun _=> .pointer (some ⟨N,0,none⟩)))(fb5:aZ w c4 3 1 (fun _=>iV q))(fb6:aZ w c3 91 1 (fun _=> .pointer (some ⟨X,0,none⟩)))(Uk:[N,X,c8,c6,c5,c4,c3].Nodup):cA 78 #[.pointer (some ⟨c8,0,none⟩),.pointer (some ⟨c6,0,none⟩),.pointer (some ⟨c5,0,none⟩),.pointer (some ⟨c4,0,none⟩),.pointer (some ⟨c3,0,none⟩)] w fun x w'=>x= .returned (.tuple #[])∧aZ w' N 126 206 (kH [.pointer (some ⟨X,0,none⟩),iV i,.bool ub,.slice da dn dc,iV sy] (gl (aC mo q m) hn he (wt) (af) tu) [iV ct,.bool sk])∧aZ w' X 114 19 (lU nd Py Pz [fl,tk,dd,iV cs,sv,td])∧dB (fun b=>b=N∨b=X) w w':=by
 simp only[List.nodup_cons,List.mem_cons,List.not_mem_nil,or_false,not_or]at Uk;obtain⟨⟨hX,a8,a6,a5,a4,a3⟩,⟨x8,x6,x5,x4,x3⟩,_⟩:=Uk;have fs:∀{b t n f},aZ w b t n f→N≠b→X≠b→bU (fun b=>(b=N∨b=X)∨False) w fun w=>aZ w b t n f:=fun fb hn hx w2 c2=>fb.same (c2.block _ fb.lt fun h=>h.elim (fun h=>h.elim (fun e=>hn e.symm) (fun e=>hx e.symm)) id);refine en 16 [vv (.pointer (some ⟨c8,0,none⟩)),vv (.pointer (some ⟨c6,0,none⟩)),vv (.pointer (some ⟨c5,0,none⟩)),vv (.pointer (some ⟨c4,0,none⟩)),vv (.pointer (some ⟨c3,0,none⟩))] Tryz.func78 rfl rfl (Uj.aa7 U1 hX (U:=fun _=>False) (fun _ h=>h.elim) id id fun w2 c2=>And.intro (fs w_ a8 x8 w2 c2) (And.intro (fs fb3 a6 x6 w2 c2) (And.intro (fs fb4 a5 x5 w2 c2) (And.intro (fs fb5 a4 x4 w2 c2) (fs fb6 a3 x3 w2 c2))))) ?_;have hv:∀a,a∈[N]→a∈[N,X]:=fun a h=>List.mem_cons.2 (.inl (List.mem_singleton.1 h));refine r [5,0,9] rfl fun _=>l1g rfl (.pointer (some ⟨N,0,none⟩)) (fun w h=>h.1.2.2.1.at 0 (cJ rfl)) (Rv.sv 5 (vp 0 0 N) rfl (r [] rfl fun _=>l1g rfl (iV q) (fun w h=>h.1.2.2.2.1.at 0 (cJ rfl)) (r [] rfl fun _=>l1g rfl (.pointer (some ⟨X,0,none⟩)) (fun w h=>h.1.2.2.2.2.at 0 (cJ rfl)) (Rv.sv 7 (vp 1 0 X) rfl (r [] rfl fun _=>lfg rfl 47 m (fun w h j hj=>by rw[Nat.zero_add];exact h.1.1.at j (by omega)) (r [] rfl fun _=>lfg rfl 8 _ (fun w h j hj=>by rw[Nat.zero_add];exact h.1.2.1.at j (by omega)) ?_ hv) hv)) hv) hv)) hv;refine r [1] rfl fun _=>sol rfl rfl rfl 0 rfl _ (fun i _=>pC hq i) (r [] rfl fun _=>gn 1 (lU nd Py Pz [fl,tk,dd,iV cs,sv,td]) ?_) om;exact dm rfl fun w2 hS=>⟨rfl,hS.at 0 rfl,hS.at 1 rfl,hS.now.2.mono fun b h=>by simpa using h⟩
end
theorem mJ{w:tF}{R T:Nat}(r:Rec)(hv:∀u∈bn r,(Lit.int .i64 u).wf=true)(h:aZ w R T 10 (lF [iV r.k,iV r.q,iV r.e,iV r.p,iV r.v.k,iV r.v.p,iV r.v.i,iV r.v.b,iV r.v.he,iV r.v.hn])):RowK .i64 w (some ⟨R,0,none⟩) (10*1) (aD [r]):=by
 refine⟨rfl,by simpa[aD]using hv,fun i hi=>⟨R,0,rfl,h.lt, ?_⟩⟩;rw[Nat.zero_add,h.at i (by omega)]
 match i,hi with
 |0,_=>rfl
 |1,_=>rfl
 |2,_=>rfl
 |3,_=>rfl
 |4,_=>rfl
 |5,_=>rfl
 |6,_=>rfl
 |7,_=>rfl
 |8,_=>rfl
 |9,_=>rfl
theorem V5{n e:tK}{q:Nat}{node:Int}{a b:tK}(h:nW n e q node a b 0):dQ n e∧n q= -1∧a=gq n q node∧b=gq e q 1:=by
 generalize he:(0:Int)=er at h;cases h with
 |state h=>cases he
 |range h=>cases he
 |z7 h=>cases he
 |made h k hk hq hd hn=>
  obtain rfl:q=k:=by omega
  exact⟨h,hn,rfl,rfl⟩
theorem V6{n e:tK}{q:Nat}{node:Int}{a b:tK}{er:Int}(hq:q<4)(hd:0≤node∧node≤4)(h:nW n e q node a b er)(h0:¬er=0):¬(dQ n e∧n q= -1):=by
 rintro⟨h1,h2⟩;obtain⟨_,_,rfl⟩:=h.one (.made h1 q hq rfl hd h2);exact h0 rfl
theorem Oh{B B':Bt}{ep:Int}(h:gP B ep=(B',0)):B'=⟨1,ep,0,0,0,[]⟩:=by
 unfold gP at h;split at h
 ·cases h
 ·split at h
  ·cases h
  ·split at h
   ·cases h
   ·split at h
    ·cases h
    ·cases h;rfl
abbrev bI(q:Nat):Rec:=⟨1,q,1,0,⟨0,0,0,0,0,0⟩⟩
def XQ(pn pe:tK)(q:Nat)(ub:Bool)(af:tN)(B:Bt)(dn:Nat):Prop:=(dQ pn pe∧pn q= -1)∧ub=true∧af= .nilFunc∧(gP B 1).2=0∧dn+(cG [bI q]).length≤100000
section
open Rv
theorem yK{q:Nat}(hq:q<4):(bI q).fault=0:=by
 obtain rfl|rfl|rfl|rfl:q=0∨q=1∨q=2∨q=3:=by omega
 ·decide
 ·decide
 ·decide
 ·decide
theorem Kb{q:Nat}(hq:q<4):∀u∈bn (bI q),(Lit.int .i64 u).wf=true:=by
 obtain rfl|rfl|rfl|rfl:q=0∨q=1∨q=2∨q=3:=by omega
 ·decide
 ·decide
 ·decide
 ·decide
abbrev crE(X N:Nat)(z g:tH)(a b c q:Nat)(tl:List En):List En:=⟨N,126,[.f 206 z]⟩::⟨X,114,[.f 19 g]⟩::⟨a,91,[.p 1 0 X]⟩::⟨b,3,[.o (iV (q:Int))]⟩::⟨c,109,[.p 0 0 N]⟩::tl
theorem Kc(X N:Nat)(i:Int)(da:tG)(dn dc:Nat)(dl:tJ)(sy:Int)(mo:tS)(hn he:tK)(wt af:tN)(tu ct:Int)(ub sk:Bool)(nd:tU)(pn pe:tK)(fl tk dd:tN)(cs:Int)(sv td:tN)(q:Nat)(hq:q<4)(B:Bt)(ba:tG)(bc:Nat)(bq:tH)(okB:B.Ok)(Ul:mo q=mF B.r B.e B.f B.t B.o (.slice ba B.es.length bc) bq)(oM:a7 (mo q) 47)(hi:0≤i∧i≤4)(Zu:af= .nilFunc∨∃g a b,af= .func g a b)(w:tF)(Uj:aZ w N 126 206 (kH [.pointer (some ⟨X,0,none⟩),iV i,.bool ub,.slice da dn dc,iV sy] (gl mo hn he (wt) (af) tu) [iV ct,.bool sk]))(U1:aZ w X 114 19 (lU nd pn pe [fl,tk,dd,iV cs,sv,td]))(Uk:[N,X].Nodup)(U:tI)(hU:∀b,U b→b<w.heap.size)(E9:¬U N)(hXU:¬U X)(hr:bU (fun b=>(b=N∨b=X)∨U b) w fun w=>RowK .u8 w da dn dl)(Jo:da=none→dc=0)(Jf:dn≤dc)(hdm:dc≤9223372036854775807)(h1:dn≤100000)(h2:0≤sy)(h3:sy≤dn):cA 44 #[.pointer (some ⟨X,0,none⟩),iV q,.pointer (some ⟨N,0,none⟩)] w fun x w'=>x= .returned (.tuple #[])∧dB (fun b=>b=N∨b=X) w w'∧((¬XQ pn pe q ub af B dn∧aZ w' N 126 206 (kH [.pointer (some ⟨X,0,none⟩),iV i,.bool ub,.slice da dn dc,iV sy] (gl mo hn he (wt) (af) tu) [iV ct,.bool sk])∧aZ w' X 114 19 (lU nd pn pe [fl,tk,dd,iV cs,sv,td]))∨(XQ pn pe q ub af B dn∧∃a3 c3 a1 c1 q1 yg,vF yg 47=zU ⟨1,1,0,0,0,[]⟩ a1 c1 q1∧aZ w' N 126 206 (kH [.pointer (some ⟨X,0,none⟩),iV i,.bool true,.slice a3 (dn+(cG [bI q]).length) c3,iV (dn+(cG [bI q]).length)] (gl (aC mo q yg) hn he wt .nilFunc tu) [iV ct,.bool sk])∧aZ w' X 114 19 (lU nd (gq pn q i) (gq pe q 1) [fl,tk,dd,iV cs,sv,td])∧bU (fun b=>(b=N∨b=X)∨U b) w' (fun w=>jW w ⟨1,1,0,0,0,[]⟩ a1 c1 q1∧RowK .u8 w a3 (dn+(cG [bI q]).length) (dl++cG [bI q]))∧(dn+(cG [bI q]).length)≤c3∧(a3=none→c3=0)∧c3≤9223372036854775807)):=by
 have Sb:∀e∈([⟨N,126,206,(kH [.pointer (some ⟨X,0,none⟩),iV i,.bool ub,.slice da dn dc,iV sy] (gl mo hn he (wt) (af) tu) [iV ct,.bool sk])⟩,⟨X,114,19,(lU nd pn pe [fl,tk,dd,iV cs,sv,td])⟩]:List bT),aZ w e.a e.t e.n e.f:=by
  intro e he;simp only[List.mem_cons,List.not_mem_nil,or_false]at he;rcases he with rfl|rfl
  ·exact Uj
  ·exact U1
 have hS:Mem w [⟨N,126,206,(kH [.pointer (some ⟨X,0,none⟩),iV i,.bool ub,.slice da dn dc,iV sy] (gl mo hn he (wt) (af) tu) [iV ct,.bool sk])⟩,⟨X,114,19,(lU nd pn pe [fl,tk,dd,iV cs,sv,td])⟩] U (fun w=>RowK .u8 w da dn dl) (fun w'=>dB (fun b=>b∈[N,X]) w w'):=Mem.begin Sb (QA Uk) (fun e he=>by simp only[List.mem_cons,List.not_mem_nil,or_false]at he;rcases he with rfl|rfl;exact E9;exact hXU) hU (fun w2 c=>hr w2 (c.mono fun b h=>h.imp (fun h=>by simpa using h) id));clear Sb;have o1:a7 (mF B.r B.e B.f B.t B.o (.slice ba B.es.length bc) bq) 47:=Ul▸oM;refine en (H:=[⟨N,126,[.f 206 (kH [.pointer (some ⟨X,0,none⟩),iV i,.bool ub,.slice da dn dc,iV sy] (gl mo hn he wt af tu) [iV ct,.bool sk])]⟩,⟨X,114,[.f 19 (lU nd pn pe [fl,tk,dd,iV cs,sv,td])]⟩]) 62 [vp 1 0 X,vi (q:Int),vp 0 0 N] Tryz.func44 rfl rfl hS (r [] rfl fun α=> ?_);refine cut (X:=Nat×(Nat→Int)×(Nat→Int)×Int) (fun x=>[(3,vp 2 0 (α 0)),(4,vp 3 0 (α 1)),(5,vp 4 0 (α 2)),(6,vp 5 0 x.1),(7,vi x.2.2.2)]) (fun x=>crE X N (kH [.pointer (some ⟨X,0,none⟩),iV i,.bool ub,.slice da dn dc,iV sy] (gl mo hn he wt af tu) [iV ct,.bool sk]) (lU nd pn pe [fl,tk,dd,iV cs,sv,td]) (α 0) (α 1) (α 2) q [⟨x.1,29,yp x.2.1 x.2.2.1⟩]) (fun _=>U) (fun _ w=>RowK .u8 w da dn dl) (fun _ w'=>dB (fun b=>b∈[N,X]) w w') (fun x=>nW pn pe q i x.2.1 x.2.2.1 x.2.2.2) ?_ (r [4] rfl fun _=> ?_)
 case refine_2=>
  repeat' first|refine C9 ?_ ?_|(refine cq (g:=76) rfl (fun y:(Nat→Int)×(Nat→Int)×Int=>vt [.g (yp y.1 y.2.1),.o (iV y.2.2)]) (fun y=>nW pn pe q i y.1 y.2.1 y.2.2) ?_ ?_;exact fun w _=>(Rw pn pe q i w).mono fun _ _ ⟨pa,pb,er,h0,h1,b⟩=>⟨(pa,pb,er),h0,b,h1⟩;rintro⟨pa,pb,er⟩ yL)|refine rs [] rfl rfl fun _=> ?_
  all_goals exact eJ (_,pa,pb,er) ⟨rfl,rfl,rfl,rfl,rfl,trivial⟩ (fun w hS=>hS.IM [0,1,2,3,4,5] (by decide)) yL Nat.zero_lt_one
 rintro f ⟨R6,pa,pb,er⟩ yL;have yL:nW pn pe q i pa pb er:=yL;by_cases h0:er=0
 case neg=>exact r [1] rfl fun _=>fin fun w hS=>⟨rfl,hS.now.2.mono fun b h=>by simpa using h,.inl ⟨(fun h=>V6 hq hi yL h0 h.1),hS.at 0 rfl,hS.at 1 rfl⟩⟩
 subst h0;obtain⟨Ke,hd2,rfl,rfl⟩:=V5 yL;cases ub
 ·exact r [0] rfl fun _=>fin fun w hS=>⟨rfl,hS.now.2.mono fun b h=>by simpa using h,.inl ⟨(fun h=>by cases h.2.1),hS.at 0 rfl,hS.at 1 rfl⟩⟩
 rcases Zu with rfl|⟨ag,a1,a1c,rfl⟩
 case' inr=>exact r [0] rfl fun _=>fin fun w hS=>⟨rfl,hS.now.2.mono fun b h=>by simpa using h,.inl ⟨(fun h=>by cases h.2.2.1),hS.at 0 rfl,hS.at 1 rfl⟩⟩
 refine r [0] rfl fun _=>cut (X:=Nat×Int×Nu) (fun x=>[(3,vp 2 0 (α 0)),(4,vp 3 0 (α 1)),(5,vp 4 0 (α 2)),(6,vp 5 0 R6),(7,vi x.2.1),(8,vp 6 0 x.1)]) (fun x=>crE X N (kH [.pointer (some ⟨X,0,none⟩),iV i,.bool true,.slice da dn dc,iV sy] (gl mo hn he wt .nilFunc tu) [iV ct,.bool sk]) (lU nd pn pe [fl,tk,dd,iV cs,sv,td]) (α 0) (α 1) (α 2) q [⟨R6,29,yp (gq pn q i) (gq pe q 1)⟩,⟨x.1,117,pU x.2.2.1 x.2.2.2.1 x.2.2.2.2.1 x.2.2.2.2.2⟩]) (fun _=>U) (fun x w=>RowK .u8 w da dn dl∧Ro x.2.2 w) (fun _ w'=>dB (fun b=>b∈[N,X]) w w') (fun x=>gP B 1=(x.2.2.1,x.2.1)∧a7 x.2.2.2.2.2 41) ?_ (r [4,1] rfl fun _=>lo rfl rfl 0 rfl 47 (mF B.r B.e B.f B.t B.o (.slice ba B.es.length bc) bq) (fun j hj=>(oc hq hj).trans (congrFun Ul j)) ?_)
 case refine_2=>
  repeat' first|refine C9 ?_ ?_|(refine cx (g:=77) rfl (fun y:Int×Nu=>vt [JM y.2,.o (iV y.1)]) (fun y=>gP B 1=(y.2.1,y.1)∧a7 y.2.2.2.2 41) (fun y=>Ro y.2) ?_ ?_;exact fun w _=>(Nw (fun _=>True) B ba bc bq 1 w okB).mono fun _ _ ⟨_,B8,er8,h0,fD,⟨a8,c8,g8,hy,hm8⟩,b⟩=>⟨(er8,B8,a8,c8,g8),by rw[h0,hy];rfl,b,⟨fD,hm8.now.one⟩,fun _ w2 c2=>hm8 w2 (c2.mono fun _ _=>trivial)⟩;rintro⟨er8,B8,a8,c8,g8⟩ ⟨fD,o8⟩)|refine rs [] rfl rfl fun _=> ?_
  all_goals exact eJ (_,er8,B8,a8,c8,g8) ⟨rfl,rfl,rfl,rfl,rfl,rfl,trivial⟩ (fun w hS=>hS.IM [0,1,2,3,4,5,6] (by decide)) ⟨fD,o8⟩ Nat.zero_lt_one
 rintro f ⟨R8,er8,B8,a8,c8,g8⟩ ⟨fD,o8⟩;have fD:gP B 1=(B8,er8):=fD;have o8:a7 g8 41:=o8;by_cases h0:er8=0
 case neg=>exact r [1] rfl fun _=>fin fun w hS=>⟨rfl,hS.now.2.mono fun b h=>by simpa using h,.inl ⟨(fun h=>h0 ((congrArg Prod.snd fD).symm.trans h.2.2.2.1)),hS.at 0 rfl,hS.at 1 rfl⟩⟩
 subst h0;refine r [0] rfl fun δ=>kp 7 rfl (c0 rfl fun w1 hS=> ?_);obtain⟨oF,hu2,hu3⟩:=hS.rS;refine(jd X N i da dn dc dl sy mo hn he wt .nilFunc tu ct true sk (.func 78) #[] #[.pointer (some ⟨R8,0,none⟩),.pointer (some ⟨R6,0,none⟩),.pointer (some ⟨α 2,0,none⟩),.pointer (some ⟨α 1,0,none⟩),.pointer (some ⟨α 0,0,none⟩)] [bI q] (some ⟨δ 0,0,none⟩) 1 1 _ (hS.at 0 rfl) _ oF hu2 (fun w2 cc=>⟨(hu3 w2 cc).1.1,mJ (bI q) (Kb hq) (hu3 w2 cc).2⟩) Jo Jf hdm h1 h2 h3 rfl (by decide) (fun r hr=>by rw[List.mem_singleton.1 hr];exact yK hq)).mono ?_;rintro _ w2 ⟨k,rfl,ch,⟨rfl,iY,a2,c2,w_,st2,kz,rU,hm2⟩|⟨rfl,iY,w_⟩⟩
 case' inr=>exact⟨vv (.bool false),_,fun _=>True,rfl,ch,w_,fun _ _=>trivial,r [] rfl fun _=>dm rfl fun w hS=>⟨rfl,hS.now.2.mono fun b h=>by simpa using h,.inl ⟨(fun h=>by have:=h.2.2.2.2;omega),hS.at 0 rfl,hS.at 1 rfl⟩⟩⟩
 refine⟨vv (.bool true),_,_,rfl,ch,w_,st2,r [] rfl fun _=>mq rfl (by kernel_rfl) fun w3 hS=> ?_⟩;obtain⟨oF,hu2,hu3⟩:=hS.rS;refine(wU X N i a2 (dn+(cG [bI q]).length) c2 (dl++cG [bI q]) sy mo hn he wt tu ct true sk 78 [.pointer (some ⟨R8,0,none⟩),.pointer (some ⟨R6,0,none⟩),.pointer (some ⟨α 2,0,none⟩),.pointer (some ⟨α 1,0,none⟩),.pointer (some ⟨α 0,0,none⟩)] _ (hS.at 0 rfl) _ oF hu2 (fun w2 cc=>(hu3 w2 cc).2) rU kz iY h2 (by omega) (by kernel_rfl) (fun z=>∃a3 c3,Mem z (hs (crE X N (kH [.pointer (some ⟨X,0,none⟩),iV i,.bool true,.slice a3 (dn+(cG [bI q]).length) c3,iV (dn+(cG [bI q]).length)] (gl (aC mo q (mF B8.r B8.e B8.f B8.t B8.o (.slice a8 B8.es.length c8) g8)) hn he wt .nilFunc tu) [iV ct,.bool sk]) (lU nd (gq pn q i) (gq pe q 1) [fl,tk,dd,iV cs,sv,td]) (α 0) (α 1) (α 2) q [⟨R6,29,yp (gq pn q i) (gq pe q 1)⟩,⟨R8,117,pU B8 a8 c8 g8⟩])) U (fun w=>jW w B8 a8 c8 g8∧RowK .u8 w a3 (dn+(cG [bI q]).length) (dl++cG [bI q])) (fun w'=>dB (fun b=>b∈[N,X]) w w')∧(dn+(cG [bI q]).length)≤c3∧(a3=none→c3=0)∧c3≤9223372036854775807) (fun _ _ ⟨a3,c3,h1,h2⟩ b=>⟨a3,c3,h1.next b,h2⟩) ?_).mono ?_
 ·intro a3 c3 z fz rz hc3 Hp hm3 cz;have yk:=hS.QB cz fz rz;refine(V4 X N i a3 (dn+(cG [bI q]).length) c3 (dn+(cG [bI q]).length) mo hn he wt .nilFunc tu ct true sk nd pn pe fl tk dd cs sv td (gq pn q i) (gq pe q 1) (mF B8.r B8.e B8.f B8.t B8.o (.slice a8 B8.es.length c8) g8) (eD o8) q hq R8 R6 (α 2) (α 1) (α 0) z (yk.at 0 rfl) (yk.at 1 rfl) (yk.at 6 rfl) (yk.at 5 rfl) (yk.at 4 rfl) (yk.at 3 rfl) (yk.at 2 rfl) (yk.IM [0,1,6,5,4,3,2] (by decide)).nodup).mono ?_;rintro _ z' ⟨rfl,f0,f1,cc⟩;exact⟨rfl,a3,c3,(yk.adP 0 1 rfl rfl (by decide) cc f0 f1).said fun _ h=>⟨h.1.1.1.2,h.2⟩,hc3,Hp,hm3⟩
 rintro _ w6 ⟨rfl,a3,c3,hS,hc3,Hp,hm3⟩;obtain rfl:=Oh fD;exact⟨vt [],_,_,_,_,rfl,.inl rfl,hS,r [] rfl fun _=>dm rfl fun w7 hS=>⟨rfl,hS.now.2.mono fun b h=>by simpa using h,.inr ⟨⟨⟨Ke,hd2⟩,rfl,rfl,congrArg Prod.snd fD,iY⟩,a3,c3,a8,c8,g8,_,rfl,hS.at 0 rfl,hS.at 1 rfl,fun w2 cc=>(hS.take 2).g w2 (cc.mono fun b h=>h.imp (fun h=>show b∈[N,X] by simpa using h) id),hc3,Hp,hm3⟩⟩⟩
end
def Sc(mo:tS):Nat→Value:=fun k=>mo (k/47) (k % 47)
theorem ab0(mo:tS){k:Nat}(hk:k<4)(w:tF):(Instr.index 118 (vF (Sc mo) 188) (iV (k:Int))).run Tryz.prog w= .ok (vF (mo k) 47) w:=by
 obtain rfl|rfl|rfl|rfl:k=0∨k=1∨k=2∨k=3:=by omega
 ·kernel_rfl
 ·kernel_rfl
 ·kernel_rfl
 ·kernel_rfl
theorem Zv{hd tl:tO}{mo:tS}{hn he:tK}{wt af:tN}{tu:Int}{j:Nat}(h:j<188):kH hd (gl mo hn he wt af tu) tl (5+j)=Sc mo j:=by
 rw[CK (by omega)];unfold gl Sc;rw[if_pos h]
def Zw(nd:tU):Nat→Value:=fun k=> .pointer (some ⟨nd k,0,none⟩)
theorem ab1(nd:tU){k:Nat}(hk:k<5)(w:tF):(Instr.index 110 (vF (Zw nd) 5) (iV (k:Int))).run Tryz.prog w= .ok (.pointer (some ⟨nd k,0,none⟩)) w:=by
 obtain rfl|rfl|rfl|rfl|rfl:k=0∨k=1∨k=2∨k=3∨k=4:=by omega
 ·kernel_rfl
 ·kernel_rfl
 ·kernel_rfl
 ·kernel_rfl
 ·kernel_rfl
abbrev bF(B:Bt)(a:tG)(c:Nat):Nat→Value:=lF [iV B.r,iV B.e,iV B.f,iV B.t,iV B.o,.slice a B.es.length c]
structure lV(w:tF)(Y l:Nat)(B:Nat→Bt)(A:Nat→Option Addr)(K:tU):Prop where
 cell:∀q,q<l→∀j,j<6→w.cell? ⟨Y,q*6+j,none⟩=some (bF (B q) (A q) (K q) j)
 bin:∀q,q<l→ja w (B q) (A q) (K q)
theorem V7{U:tI}{w w':tF}{Y:Nat}{f:Nat→Bt}{A:Nat→Option Addr}{K:tU}(h:J_ w' Y f A K)(hY:w.heap.size≤Y)(hU:∀b,U b→b<w.heap.size):bU U w' fun w=>lV w Y 4 f A K:=fun w2 c=>by
 refine⟨fun q hq j hj=> ?_,fun q hq=> ?_⟩
 ·have aW:=h.b.lt;have nu:¬U Y:=fun hu=>by have:=hU _ hu;omega
  rw[c.cell aW nu];obtain⟨h0,h1,h2,h3,h4,h5⟩:=h.b.at q hq
  match j,hj with
  |0,_=>exact h0
  |1,_=>exact h1
  |2,_=>exact h2
  |3,_=>exact h3
  |4,_=>exact h4
  |5,_=>exact h5
 ·have hb:=h.bin q hq;refine⟨mR hb.row c fun x hx _ hu=> ?_,hb.cap,hb.nil⟩;obtain⟨_,⟨e1,_⟩|⟨g,cap,cur,e1,hg,_⟩⟩:=h.own q hq
  ·simp only[np]at e1;cases hx.symm.trans (by injection e1:A q=none)
  ·simp only[np]at e1;have e2:A q=some ⟨g,0,none⟩:=by injection e1
   rw[hx]at e2;cases e2;have:=hU _ hu;simp only at this;omega
section
open Rv
theorem EL:lL Tryz.prog 50 49 6 64=true:=by kernel_rfl
theorem LW{g g':tH}{m:Nat}(h:∀j,j<m→g j=g' j):vF g m=vF g' m:=by
 have:b_ g 0 m=b_ g' 0 m:=List.map_congr_left fun j hj=>by rw[Nat.zero_add];exact h j (List.mem_range.1 hj)
 unfold vF;rw[this]
def bL(Bs:Nat→Bt)(A:Nat→Option Addr)(K:tU)(k:Nat):List Value:=(List.range k).flatMap fun q=>b_ (bF (Bs q) (A q) (K q)) 0 6
theorem vJ(Bs:Nat→Bt)(A:Nat→Option Addr)(K:tU)(k:Nat):bL Bs A K (k+1)=bL Bs A K k++b_ (bF (Bs k) (A k) (K k)) 0 6:=by simp[bL,List.range_succ]
theorem EM(Bs:Nat→Bt)(A:Nat→Option Addr)(K:tU):∀k,(bL Bs A K k).length=6*k
 |0=>rfl
 |k+1=>by rw[vJ,List.length_append,EM Bs A K k,bM];omega
theorem XR(Bs:Nat→Bt)(A:Nat→Option Addr)(K:tU):∀(k q j:Nat),q<k→j<6→(bL Bs A K k)[q*6+j]? =some (bF (Bs q) (A q) (K q) j)
 |0,q,_,h,_=>absurd h (Nat.not_lt_zero q)
 |k+1,q,j,h,hj=>by
  rw[vJ];by_cases e:q=k
  ·subst e;rw[List.getElem?_append_right (by rw[EM];omega),EM,show q*6+j-6*q=j by omega,cE _ _ _ _ hj,Nat.zero_add]
  ·rw[List.getElem?_append_left (by rw[EM];omega)];exact XR Bs A K k q j (by omega) hj
theorem Hq{Bs:Nat→Bt}{A A':Nat→Option Addr}{K K':tU}:∀(k:Nat),(∀q,q<k→A q=A' q∧K q=K' q)→bL Bs A K k=bL Bs A' K' k
 |0,_=>rfl
 |k+1,h=>by rw[vJ,vJ,Hq k fun q hq=>h q (by omega),(h k (Nat.lt_succ_self k)).1,(h k (Nat.lt_succ_self k)).2]
theorem V8{w:tF}{Bs:Nat→Bt}{A:Nat→Option Addr}{K:tU}{k:Nat}{a:tG}{c:Nat}(h:∀q,q<k→ja w (Bs q) (A q) (K q))(hk:ja w (Bs k) a c):∀q,q<k+1→ja w (Bs q) (aC A k a q) (aC K k c q):=fun q hq=>by
 unfold aC;by_cases e:q=k
 ·subst e;rw[if_pos rfl,if_pos rfl];exact hk
 ·rw[if_neg e,if_neg e];exact h q (by omega)
theorem Oj(X N:Nat)(i:Int)(da:tG)(dn dc:Nat)(sy:Int)(mo:tS)(hn he:tK)(wt af:tN)(tu ct:Int)(sk:Bool)(Bs:Nat→Bt)(ba:Nat→Option Addr)(bc:tU)(bq:tS)(Ul:∀q,q<4→vF (mo q) 47=zU (Bs q) (ba q) (bc q) (bq q))(qW:∀q,q<4→a7 (mo q) 47)(hlen:∀q,q<4→(Bs q).es.length≤1000000)(w:tF)(Uj:aZ w N 126 206 (kH [.pointer (some ⟨X,0,none⟩),iV i,.bool true,.slice da dn dc,iV sy] (gl mo hn he (wt) (af) tu) [iV ct,.bool sk]))(U:tI)(hU:∀b,U b→b<w.heap.size)(E9:¬U N)(hr:bU (fun b=>b=N∨U b) w fun w=>∀q,q<4→ja w (Bs q) (ba q) (bc q)):cA 52 #[.pointer (some ⟨N,0,none⟩)] w fun x w'=>∃Y c A K,x= .returned (.slice (some ⟨Y,0,none⟩) 4 c)∧4≤c∧bU (fun b=>b=N∨U b) w' (fun w=>lV w Y 4 Bs A K)∧bZ w w':=by
 have Uk:[N].Nodup:=by simp
 have Sb:∀e∈([⟨N,126,206,(kH [.pointer (some ⟨X,0,none⟩),iV i,.bool true,.slice da dn dc,iV sy] (gl mo hn he (wt) (af) tu) [iV ct,.bool sk])⟩]:List bT),aZ w e.a e.t e.n e.f:=by
  intro e he;simp only[List.mem_cons,List.not_mem_nil,or_false]at he;rcases he with rfl
  ·exact Uj
 have hS:Mem w [⟨N,126,206,(kH [.pointer (some ⟨X,0,none⟩),iV i,.bool true,.slice da dn dc,iV sy] (gl mo hn he (wt) (af) tu) [iV ct,.bool sk])⟩] U (fun w=>∀q,q<4→ja w (Bs q) (ba q) (bc q)) (fun w'=>dB (fun b=>b∈[N]) w w'):=Mem.begin Sb (QA Uk) (fun e he=>by cases List.mem_singleton.1 he;exact E9) hU (fun w2 c=>hr w2 (c.mono fun b h=>h.imp (fun h=>List.mem_singleton.1 h) id));clear Sb;refine en (H:=[⟨N,126,[.f 206 (kH [.pointer (some ⟨X,0,none⟩),iV i,.bool true,.slice da dn dc,iV sy] (gl mo hn he wt af tu) [iV ct,.bool sk])]⟩]) _ [vp 0 0 N] Tryz.func52 rfl rfl hS (r [] rfl fun _=>sv 37 (vf 188 (Sc mo)) (LW fun j hj=>Zv hj) ?_);refine uL (fun w2 hS=>hS.QD w.heap.size 49 6) ?_;refine iC (X:=Nat×Value×(Nat→Option Addr)×(Nat→Nat)) ⟨fun x=>[(9,vv x.2.1),(37,vf 188 (Sc mo)),(38,vi (x.1:Int))],fun x=>[⟨N,126,[.f 206 (kH [.pointer (some ⟨X,0,none⟩),iV i,.bool true,.slice da dn dc,iV sy] (gl mo hn he wt af tu) [iV ct,.bool sk])]⟩],fun x b=>x.2.1.ownBlock=some b∨U b,fun x w=>(∀q,q<4→ja w (Bs q) (ba q) (bc q))∧∀q,q<x.1→ja w (Bs q) (x.2.2.1 q) (x.2.2.2 q),fun x w'=>dB (fun b=>b∈[N]) w w'∧w'.ownsRow w.heap.size 49 6 x.2.1 x.1 (bL Bs x.2.2.1 x.2.2.2 x.1),fun x=>x.1≤4,fun x=>4-x.1⟩ (0,.slice none 0 0,fun _=>none,fun _=>0) ⟨rfl,rfl,rfl,trivial⟩ (fun w hS=>hS.said fun _ h=>⟨h,fun q hq=>absurd hq (Nat.not_lt_zero q)⟩) (Nat.zero_le _) ?_;rintro f ⟨k,v9,A,K⟩ hk;have hk:k≤4:=hk;by_cases aW:k<4
 case neg=>
  obtain rfl:k=4:=by omega
  refine r [0] rfl fun _=>fin fun w1 hS=> ?_;have ho:w1.ownsRow w.heap.size 49 6 v9 4 (bL Bs A K 4):=hS.now.2.2;rcases id ho.2 with⟨_,h⟩|⟨Y,c,_,rfl,hY,_,h4,_⟩
  ·cases h
  refine⟨Y,c,A,K,rfl,h4,fun w2 c2=>⟨fun q hq j hj=> ?_,(hS.g w2 (c2.mono fun b hb=>hb.imp (fun h=>List.mem_singleton.2 h) .inr)).2⟩,(hS.now.2.1.less (U:=fun _=>False) fun b hb=>by obtain rfl:=List.mem_singleton.1 hb;exact .inr ⟨_,_,_,Uj,hS.at 0 rfl⟩).below (Nat.le_refl _) fun _ _ h=>h⟩
  ·have hk:=lN ho fun g hg aW=>c2.block g aW fun hu=>by
    cases hg;rcases hu with hu|hu
    ·exact absurd hY (Nat.not_le.2 (by have h:=Uj.lt;rw[←hu]at h;exact h))
    ·exact absurd (hU _ hu) (Nat.not_lt.2 hY)
   have:=oW hk (XR Bs A K 4 q j hq hj);rwa [Addr.add_mid,Nat.zero_add]at this
 refine r [1] rfl fun _=>ix (vf 47 (mo k)) rfl rfl (ab0 mo aW) ?_;have q_:=qW k aW;refine r [] rfl fun γ=>cx rfl (fun y:Option Addr×Nat=>vg (bS (Bs k).r (Bs k).e (Bs k).f (Bs k).t (Bs k).o y.1 (Bs k).es.length y.2)) (fun y=>(Bs k).es.length≤y.2∧(y.1=none→y.2=0)) (fun y w=>RowK .i64 w y.1 (6*(Bs k).es.length) (ak (Bs k).es)) (fun w1 hS=> ?_) ?_
 ·have yL:=JK (Bs k).r (Bs k).e (Bs k).f (Bs k).t (Bs k).o (ba k) (Bs k).es.length (bc k) (bq k) (ak (Bs k).es) w1 (hS.now.1.1 k aW).row (hS.now.1.1 k aW).nil (hlen k aW);rw[show js (Bs k).r (Bs k).e (Bs k).f (Bs k).t (Bs k).o (ba k) (Bs k).es.length (bc k) (bq k)=vF (mo k) 47 from(Ul k aW).symm]at yL;refine yL.mono ?_;rintro _ w3 ⟨_,rfl,⟨a8,c8,rfl,r8,E_,Sd,hf8⟩,b⟩;exact⟨(a8,c8),rfl,b,⟨E_,Sd⟩,fun hl=>cD r8 hf8 hl⟩
 rintro⟨a8,c8⟩ ⟨E_,Sd⟩;have eA:∀q,q<k→aC A k a8 q=A q∧aC K k c8 q=K q:=fun q hq=>⟨if_neg (by omega),if_neg (by omega)⟩;have eL:bL Bs (aC A k a8) (aC K k c8) (k+1)=bL Bs A K k++b_ (bF (Bs k) a8 c8) 0 6:=by rw[vJ,Hq k eA,show aC A k a8 k=a8 from if_pos rfl,show aC K k c8 k=c8 from if_pos rfl]
 refine r [] rfl fun _=>Jh 2 rfl EL (fun w1 hS=>hS.now.2.1.size) (fun _ _ h c=>h.trans c fun b hb hle=>absurd hb (Nat.not_lt.2 hle)) fun g c hc=> ?_;refine rz [1] [((k+1:Nat):Int)] rfl fun _=>eJ (k+1,_,aC A k a8,aC K k c8) ⟨rfl,rfl,rfl,trivial⟩ (fun w1 hS=>((hS.take 1).said fun w h=>⟨h.1.1,V8 h.1.2 ⟨h.2,E_,Sd⟩⟩).sr fun w h=>⟨h.1,by show w.ownsRow _ _ _ _ (k+1) (bL Bs (aC A k a8) (aC K k c8) (k+1));rw[eL];exact h.2⟩) (show k+1≤4 by omega) (show 4-(k+1)<4-k by omega)
theorem Hr(rs:List Rec):(rs.map bn).flatten=aD rs:=by
 unfold aD;rw[List.flatMap_def]
theorem Se{w:tF}{a:tG}{rs:List Rec}(h:jc w a (rs.map bn))(vT:∀u∈aD rs,(Lit.int .i64 u).wf=true):RowK .i64 w a (10*rs.length) (aD rs):=by
 have hl:(aD rs).length=10*rs.length:=by
  rw[←Hr,GZ _ h.LF,List.length_map];omega
 refine⟨hl,vT,fun i hi=> ?_⟩;obtain⟨b,off,e,hb,hc⟩:=h.cell i (by rw[List.length_map];omega);rw[Hr]at hc;exact⟨b,off,e,hb,hc⟩
theorem LX(a:tG)(len cap:Nat)(l:tJ)(s:Int)(rs:List Rec)(kk:Nat)(w:tF)(h:RowK .u8 w a len l)(hn:a=none→cap=0)(vS:len≤cap)(hc:cap≤9223372036854775807)(h1:len≤100000)(h2:0≤s)(h3:s≤len)(V9:bu l=(rs.map bn,kk))(vT:∀u∈aD rs,(Lit.int .i64 u).wf=true):
  cA 93 #[.agg #[.slice a len cap,iV s]] w fun e w'=>
   ∃a' bg,e= .returned (.tuple #[.slice a' rs.length bg,iV (kk:Nat),iV 0])∧RowK .i64 w' a' (10*rs.length) (aD rs)∧rs.length≤bg∧bg≤9223372036854775807∧(a'=none→bg=0)∧(∀x,a'=some x→w.heap.size≤x.block)∧bZ w w':=by
 refine(G0 a len cap l s w h hn vS hc h1 h2 h3).mono ?_;rintro _ w' ⟨a',c',rfl,hr,vk,kz,hc3,hc4,hb⟩;rw[V9]at hr vk⊢;simp only[List.length_map]at vk⊢;exact⟨a',c',rfl,Se hr vT,vk,kz,hc3,hc4,hb⟩
theorem V_{f g:Nat→Bt}(h:kK f=kK g):∀q,q<4→f q=g q:=by
 simp only[kK,List.cons.injEq,and_true]at h;obtain⟨h0,h1,h2,h3⟩:=h;intro q hq;obtain rfl|rfl|rfl|rfl:q=0∨q=1∨q=2∨q=3:=by omega
 ·exact h0
 ·exact h1
 ·exact h2
 ·exact h3
theorem Zx{U:tI}(rs:List Rec)(Bs:Nat→Bt)(a:tG)(c:Nat)(w:tF)(hr:RowK .i64 w a (10*rs.length) (aD rs))(hc:rs.length≤c)(hlen:(rs.length+1)*48≤140737488355328)(Sf:(kx (kK fQ) 0 rs).1=some (kK Bs))(hU:∀b,U b→b<w.heap.size):
  cA 94 #[.slice a rs.length c] w fun x w'=>∃Y A K,x= .returned (.tuple #[.slice (some ⟨Y,0,none⟩) 4 4,iV 0,iV 0])∧bU U w' (fun w=>lV w Y 4 Bs A K)∧bZ w w':=by
 refine(V0 rs a c w hr hc hlen).mono ?_;rintro _ w' ⟨⟨_,ho⟩,hb⟩;obtain⟨Y,f,A,K,rfl,_,_,e,hf,hY⟩:=ho _ Sf;have hq:=V_ e;refine⟨Y,A,K,rfl,fun w2 c2=> ?_,hb⟩;have hh:=V7 hf hY hU w2 c2;exact⟨fun q yI j hj=>by rw[hq q yI];exact hh.cell q yI j hj,fun q yI=>by rw[hq q yI];exact hh.bin q yI⟩
theorem Hs(X N:Nat)(i:Int)(da:tG)(dn dc:Nat)(dl:tJ)(sy:Int)(mo:tS)(hn he:tK)(wt af:tN)(tu ct:Int)(sk:Bool)(Bs:Nat→Bt)(rs:List Rec)(kk:Nat)(w:tF)(Uj:aZ w N 126 206 (kH [.pointer (some ⟨X,0,none⟩),iV i,.bool false,.slice da dn dc,iV sy] (gl mo hn he (wt) (af) tu) [iV ct,.bool sk]))(U:tI)(hU:∀b,U b→b<w.heap.size)(E9:¬U N)(hr:bU (fun b=>b=N∨U b) w fun w=>RowK .u8 w da dn dl)(Jo:da=none→dc=0)(Jf:dn≤dc)(hdm:dc≤9223372036854775807)(h1:dn≤100000)(h2:0≤sy)(h3:sy≤dn)(V9:bu dl=(rs.map bn,kk))(vT:∀u∈aD rs,(Lit.int .i64 u).wf=true)(hrl:rs.length≤100000)(Sf:(kx (kK fQ) 0 rs).1=some (kK Bs)):cA 52 #[.pointer (some ⟨N,0,none⟩)] w fun x w'=>∃Y c A K,x= .returned (.slice (some ⟨Y,0,none⟩) 4 c)∧4≤c∧bU (fun b=>b=N∨U b) w' (fun w=>lV w Y 4 Bs A K)∧bZ w w':=by
 refine en 48 [vp 0 0 N] Tryz.func52 rfl rfl (Uj.KZ hU E9 hr) (r [] rfl fun _=> ?_);refine cx rfl (fun y:Option Addr×Nat=>vt [.o (.slice y.1 rs.length y.2),.o (iV (kk:Nat)),.o (iV 0)]) (fun y=>rs.length≤y.2) (fun y w=>RowK .i64 w y.1 (10*rs.length) (aD rs)) (fun w1 hS=>(LX da dn dc dl sy rs kk w1 hS.now.1 Jo Jf hdm h1 h2 h3 V9 vT).mono fun _ w2 ⟨a1,c1,h0,r1,vk,_,_,BP,b⟩=>⟨(a1,c1),h0,b,vk,cD r1 BP⟩) ?_;rintro⟨a8,c8⟩ E_;refine r [] rfl fun _=>cx rfl (fun y:Nat×(Nat→Option Addr)×(Nat→Nat)=>vt [.o (.slice (some ⟨y.1,0,none⟩) 4 4),.o (iV 0),.o (iV 0)]) (fun _=>True) (fun y w=>lV w y.1 4 Bs y.2.1 y.2.2) (fun w1 hS=>(Zx rs Bs a8 c8 w1 hS.now.1.2 E_ (by omega) Sf hS.ult).mono fun _ w2 ⟨Y,A,K,h0,st,b⟩=>⟨(Y,A,K),h0,b,trivial,fun _=>st⟩) ?_;rintro⟨Y,A,K⟩ _;refine r [] rfl fun _=>fin fun w2 hS=> ?_;have ch:dB (fun _=>False) w w2:=hS.now.2.less fun b hb=>by
  cases List.mem_singleton.1 hb;exact .inr ⟨_,_,_,Uj,hS.at 0 rfl⟩
 exact⟨Y,4,A,K,rfl,Nat.le_refl _,fun w2 c2=>(hS.g w2 (c2.mono fun b h=>h.imp (fun h=>List.mem_singleton.2 h) id)).2,ch.below (Nat.le_refl _) fun _ _ h=>h⟩
theorem sq:lL Tryz.prog 176 167 10 80=true:=by kernel_rfl
theorem Wa{mo:tS}{hn he:tK}{wt af:tN}{tu:Int}{q:Nat}{g:tH}(hq:q<4)(i:Nat):gj (gl mo hn he wt af tu) (0+q*47) 47 g i=gl (aC mo q g) hn he wt af tu i:=by
 rw[Nat.zero_add];exact RZ hq i
abbrev rY(Bs:Nat→Bt)(q:Nat):Rec:=⟨2,q,(Bs q).e,0,⟨4,0,0,0,0,0⟩⟩
def bf(Bs:Nat→Bt):Nat→List Rec
 |0=>[]
 |k+1=>if(Bs k).r=1 then bf Bs k++[rY Bs k]else bf Bs k
theorem oL{Bs:Nat→Bt}{k:Nat}(h:(Bs k).r=1):bf Bs (k+1)=bf Bs k++[rY Bs k]:=if_pos h
theorem ri{Bs:Nat→Bt}{k:Nat}(h:¬(Bs k).r=1):bf Bs (k+1)=bf Bs k:=if_neg h
theorem mn(Bs:Nat→Bt):∀k,(bf Bs k).length≤k
 |0=>Nat.le_refl _
 |k+1=>by
  have:=mn Bs k;unfold bf;split
  ·rw[List.length_append,List.length_singleton];omega
  ·omega
theorem iB:∀l:List Rec,(aD l).length=10*l.length
 |[]=>rfl
 |r::l=>by
  have:=iB l;unfold aD at this⊢;rw[List.flatMap_cons,List.length_append,this,List.length_cons];show 10+_=_;omega
theorem Ol{l:List Rec}{r:Rec}{F F':tH}(h:∀j,j<10*l.length→F j=iV ((aD l).getD j 0))(h1:∀j,j<l.length*10→F' j=F j)(h2:∀j,j<10→F' (l.length*10+j)=lF [iV r.k,iV r.q,iV r.e,iV r.p,iV r.v.k,iV r.v.p,iV r.v.i,iV r.v.b,iV r.v.he,iV r.v.hn] j):∀j,j<10*(l++[r]).length→F' j=iV ((aD (l++[r])).getD j 0):=fun j hj=>by
 have e:aD (l++[r])=aD l++bn r:=by simp[aD]
 rw[List.length_append,List.length_singleton]at hj;rw[e];have hl:=iB l;by_cases hc:j<10*l.length
 ·rw[h1 j (by omega),h j hc];simp only[List.getD_eq_getElem?_getD];rw[List.getElem?_append_left (by omega)]
 ·obtain⟨i,rfl⟩:∃i,j=l.length*10+i:=⟨j-l.length*10,by omega⟩;have hi:i<10:=by omega
  rw[h2 i hi];simp only[List.getD_eq_getElem?_getD];rw[List.getElem?_append_right (by omega),hl,show l.length*10+i-10*l.length=i by omega]
  match i,hi with
  |0,_=>rfl
  |1,_=>rfl
  |2,_=>rfl
  |3,_=>rfl
  |4,_=>rfl
  |5,_=>rfl
  |6,_=>rfl
  |7,_=>rfl
  |8,_=>rfl
  |9,_=>rfl
theorem Zy{U:tI}{w:tF}{Y T n:Nat}{F:tH}{l:tJ}(fb:aZ w Y T n F)(hY:¬U Y)(hn:l.length≤n)(hF:∀j,j<l.length→F j=iV (l.getD j 0))(vT:∀u∈l,(Lit.int .i64 u).wf=true):bU U w fun w=>RowK .i64 w (some ⟨Y,0,none⟩) l.length l:=fun w2 c=>
 ⟨rfl,vT,fun i hi=>⟨Y,0,rfl,Nat.lt_of_lt_of_le fb.lt c.size,by rw[Nat.zero_add,c.cell fb.lt hY,fb.at i (by omega),hF i hi]⟩⟩
theorem Wb{w:tF}{Bw:Nat→Bt}{A:Nat→Option Addr}{K:tU}{q':tS}{k:Nat}{a:tG}{c:Nat}{g:tH}(h:∀q,q<k→jW w (Bw q) (A q) (K q) (q' q))(hk:jW w (Bw k) a c g):∀q,q<k+1→jW w (Bw q) (aC A k a q) (aC K k c q) (aC q' k g q):=fun q hq=>by
 unfold aC;by_cases e:q=k
 ·subst e;rw[if_pos rfl,if_pos rfl,if_pos rfl];exact hk
 ·rw[if_neg e,if_neg e,if_neg e];exact h q (by omega)
theorem Zz{mo:tS}{Bw:Nat→Bt}{A:Nat→Option Addr}{K:tU}{q':tS}{k:Nat}{a:tG}{c:Nat}{g y:tH}(h:∀q,q<k→vF (mo q) 47=zU (Bw q) (A q) (K q) (q' q))(hk:vF y 47=zU (Bw k) a c g):∀q,q<k+1→vF (aC mo k y q) 47=zU (Bw q) (aC A k a q) (aC K k c q) (aC q' k g q):=fun q hq=>by
 unfold aC;by_cases e:q=k
 ·subst e;rw[if_pos rfl,if_pos rfl,if_pos rfl,if_pos rfl];exact hk
 ·rw[if_neg e,if_neg e,if_neg e,if_neg e];exact h q (by omega)
theorem Wc{mo:tS}{k:Nat}{y:tH}(h:∀q,q<4→a7 (mo q) 47)(hy:a7 y 47):∀q,q<4→a7 (aC mo k y q) 47:=fun q hq=>by
 unfold aC;by_cases e:q=k
 ·rw[if_pos e];exact hy
 ·rw[if_neg e];exact h q hq
theorem Oo{Bs:Nat→Bt}(h:∀q,q<4→(Lit.int .i64 (Bs q).e).wf=true):∀u∈aD (bf Bs 4),(Lit.int .i64 u).wf=true:=by
 have:∀k,k≤4→∀u∈aD (bf Bs k),(Lit.int .i64 u).wf=true:=by
  intro k
  induction k with
  |zero=>intro _ u hu;simp[bf,aD]at hu
  |succ k ih=>
   intro hk u hu;by_cases hr:(Bs k).r=1
   ·rw[oL hr]at hu;have e:aD (bf Bs k++[rY Bs k])=aD (bf Bs k)++bn (rY Bs k):=by simp[aD]
    rw[e,List.mem_append]at hu;rcases hu with hu|hu
    ·exact ih (by omega) u hu
    ·simp only[bn,List.mem_cons,List.not_mem_nil,or_false]at hu;rcases hu with rfl|rfl|rfl|rfl|rfl|rfl|rfl|rfl|rfl|rfl
     ·decide
     ·obtain rfl|rfl|rfl|rfl:k=0∨k=1∨k=2∨k=3:=by omega
      ·decide
      ·decide
      ·decide
      ·decide
     ·exact h k (by omega)
     ·decide
     ·decide
     ·decide
     ·decide
     ·decide
     ·decide
     ·decide
   ·rw[ri hr]at hu;exact ih (by omega) u hu
 exact this 4 (Nat.le_refl _)
theorem Ht(l:List Rec)(r:Rec):(aD (l++[r])).map (Value.int .i64)=(aD l).map (Value.int .i64)++(bn r).map (Value.int .i64):=by simp[aD]
theorem Oq{x:Int}(h1: -9223372036854775808≤x)(h2:x≤9223372036854775807):(Lit.int .i64 x).wf=true:=by
 have e:IntKind.i64.min= -9223372036854775808:=rfl;simp[Lit.wf];exact⟨by omega,h2⟩
theorem jx{B:Bt}(h:B.cC):0≤B.e∧B.e≤1048576:=by
 unfold Bt.cC bz at h;omega
def WkY(Bs:Nat→Bt)(U:tI)(w:tF)(x:Ending)(w':tF):Prop:=∃(mo:tS) (ba:Nat→Option Addr) (bc:tU) (bq:tS) (ra:tG) (rc:Nat),x= .returned (.tuple #[vF (gl mo (fS 4) bH (.slice none 0 0) .nilFunc 0) 199,.slice ra (bf Bs 4).length rc,.bool true])∧(∀q,q<4→vF (mo q) 47=zU (bB (Bs q)).1 (ba q) (bc q) (bq q))∧(∀q,q<4→a7 (mo q) 47)∧bU U w' (fun w=>(∀q,q<4→jW w (bB (Bs q)).1 (ba q) (bc q) (bq q))∧RowK .i64 w ra (10*(bf Bs 4).length) (aD (bf Bs 4)))∧(bf Bs 4).length≤rc∧bZ w w'
theorem CL(Bs:Nat→Bt)(Y cb:Nat)(A:Nat→Option Addr)(K:tU)(ok:∀q,q<4→(Bs q).Ok)(he:∀q,q<4→(Lit.int .i64 (Bs q).e).wf=true)(U:tI)(w:tF)(hU:∀b,U b→b<w.heap.size)(hb:bU U w fun w=>lV w Y 4 Bs A K):cA 86 #[.slice (some ⟨Y,0,none⟩) 4 cb] w fun x w'=>((∃p,p<4∧¬(bB (Bs p)).2=0)∧x= .returned (.tuple #[vF Zr 199,.slice none 0 0,.bool false])∧bZ w w')∨((∀q,q<4→(bB (Bs q)).2=0)∧WkY Bs U w x w'):=by
 have o0:a7 (gl Px (fS 4) bH (.slice none 0 0) .nilFunc 0) 199:=wT yx rfl;refine en (H:=[]) 52 [vv (.slice (some ⟨Y,0,none⟩) 4 cb)] Tryz.func86 rfl rfl (pP hU hb) (r [] rfl fun α=> ?_);refine Rv.cb rfl (vf 199 (gl Px (fS 4) bH (.slice none 0 0) .nilFunc 0)) (fun w _=>vy w) (r [] rfl fun β=>gn 0 Zr ?_);refine uL (fun w2 hS=>hS.QD w.heap.size 167 10) ?_;refine iC (X:=Nat×Value×(Nat→Nat→Value)×(Nat→Option Addr)×(Nat→Nat)×(Nat→Nat→Value)) ⟨fun x=>[(2,vp 0 0 (α 0)),(5,vp 1 0 (β 0)),(6,vv x.2.1),(12,vv (.slice (some ⟨Y,0,none⟩) 4 cb)),(13,vi 4),(14,vi (x.1:Int))],fun x=>[⟨α 0,120,[.f 199 Zr]⟩,⟨β 0,120,[.f 199 (gl x.2.2.1 (fS 4) bH (.slice none 0 0) .nilFunc 0)]⟩],fun x b=>x.2.1.ownBlock=some b∨U b,fun x w=>lV w Y 4 Bs A K∧∀q,q<x.1→jW w (bB (Bs q)).1 (x.2.2.2.1 q) (x.2.2.2.2.1 q) (x.2.2.2.2.2 q),fun x w'=>bZ w w'∧w'.ownsRow w.heap.size 167 10 x.2.1 (bf Bs x.1).length ((aD (bf Bs x.1)).map (.int .i64)),fun x=>x.1≤4∧(∀q,q<x.1→(bB (Bs q)).2=0)∧(∀q,q<x.1→vF (x.2.2.1 q) 47=zU (bB (Bs q)).1 (x.2.2.2.1 q) (x.2.2.2.2.1 q) (x.2.2.2.2.2 q))∧(∀q,q<4→a7 (x.2.2.1 q) 47),fun x=>4-x.1⟩ (0,.slice none 0 0,Px,fun _=>none,fun _=>0,fun _=>zQ) ⟨rfl,rfl,rfl,rfl,rfl,rfl,trivial⟩ (fun w hS=>hS.said fun _ h=>⟨h,fun q hq=>absurd hq (Nat.not_lt_zero q)⟩) ⟨Nat.zero_le _,fun q hq=>absurd hq (Nat.not_lt_zero q),fun q hq=>absurd hq (Nat.not_lt_zero q),yx⟩ ?_;rintro f ⟨k,v6,mo,ba,bc,bq⟩ ⟨hk,Yb,Ul,qW⟩;have hk:k≤4:=hk;have qW:∀q,q<4→a7 (mo q) 47:=qW;have o1:a7 (gl mo (fS 4) bH (.slice none 0 0) .nilFunc 0) 199:=wT qW rfl;have Dm:=mn Bs k;by_cases aW:k<4
 case neg=>
  obtain rfl:k=4:=by omega
  refine r [0] rfl fun _=>fin fun w1 hS=> .inr ⟨Yb, ?_⟩;have ho:w1.ownsRow w.heap.size 167 10 v6 (bf Bs 4).length ((aD (bf Bs 4)).map (Value.int .i64)):=hS.now.2.2;obtain⟨a,c,rfl,hr,hc,_,_,hf⟩:=RowK.jF ho (Oo he);exact⟨mo,ba,bc,bq,a,c,rfl,Ul,qW,fun w2 c2=>⟨(hS.DO w2 (c2.mono fun _ h=> .inr h)).2,cD hr hf hU w2 c2⟩,hc,hS.now.2.1⟩
 refine r [1] rfl fun _=>lf (q:=0+k*6) rfl 6 (bF (Bs k) (A k) (K k)) (fun w hS j hj=>by rw[Nat.zero_add];exact hS.now.1.1.cell k aW j hj) (r [] rfl fun γ=> ?_);refine cx rfl (fun y:Nu=>vt [JM y,.o (iV 0)]) (fun y=>y.1=Bs k∧a7 y.2.2.2 41) Ro (fun w hS=>(VH _ (Bs k) (A k) (K k) w hS.ult (fun w2 c2=>(hS.g w2 c2).1.bin k aW) (ok k aW)).mono ?_) ?_
 ·rintro _ w7 ⟨_,rfl,⟨a8,c8,q8,rfl,hm8⟩,b⟩;exact⟨(Bs k,a8,c8,q8),rfl,b,⟨rfl,hm8.now.one⟩,fun _=>hm8⟩
 rintro⟨B8,a8,c8,q8⟩ ⟨e8,o8⟩;obtain rfl:B8=Bs k:=e8;have o8:a7 q8 41:=o8;refine r [1] rfl fun δ=>cx rfl (fun y:Int×Nu=>vt [JM y.2,.o (iV y.1)]) (fun y=>bB (Bs k)=(y.2.1,y.1)∧a7 y.2.2.2.2 41) (fun y=>Ro y.2) (fun w hS=>(NC _ (Bs k) a8 c8 q8 w hS.ult (fun w2 c2=>(hS.g w2 c2).2) (ok k aW)).mono ?_) ?_
 ·rintro _ w10 ⟨_,B1,er,rfl,iY,⟨a9,c9,q9,rfl,hm9⟩,b⟩;exact⟨(er,B1,a9,c9,q9),rfl,b,⟨iY,hm9.now.one⟩,fun _=>hm9⟩
 rintro⟨er,B9,a9,c9,q9⟩ ⟨hw9,o9⟩;have hw9:bB (Bs k)=(B9,er):=hw9;have o9:a7 q9 41:=o9;by_cases Du:er=0
 case neg=>exact r [1] rfl fun _=>fin fun w hS=> .inl ⟨⟨k,aW,by rw[hw9];exact Du⟩,rfl,hS.now.2.1⟩
 subst Du;have lo2:∀q,q<k+1→(bB (Bs q)).2=0:=fun q hq=>by
  by_cases e:q=k
  ·rw[e,hw9]
  ·exact Yb q (by omega)
 have mi:=fun(w:tF) (h:(lV w Y 4 Bs A K∧∀q,q<k→jW w (bB (Bs q)).1 (ba q) (bc q) (bq q))∧jW w B9 a9 c9 q9)=>Wb (Bw:=fun q=>(bB (Bs q)).1) h.1.2 (by rw[hw9];exact h.2);have mu:=Zz (y:=mF B9.r B9.e B9.f B9.t B9.o (.slice a9 B9.es.length c9) q9) Ul (by rw[hw9]<;>rfl)
 have ou:=Wc (y:=mF B9.r B9.e B9.f B9.t B9.o (.slice a9 B9.es.length c9) q9) (k:=k) qW (eD o9);refine r [0,1] rfl fun _=>so (g:=mF B9.r B9.e B9.f B9.t B9.o (.slice a9 B9.es.length c9) q9) rfl rfl rfl 1 rfl _ (fun i _=>Wa aW i) ?_ (eD o9);by_cases uk:(Bs k).r=1
 ·refine r [1] rfl fun _=>Jh 4 rfl sq (fun w hS=>hS.now.2.1.size) (fun _ _ h c=>lZ h c (Nat.le_refl _)) fun g c hc=> ?_;refine rz [1] [((k+1:Nat):Int)] rfl fun _=>eJ (k+1,_,_,aC ba k a9,aC bc k c9,aC bq k q9) ⟨rfl,rfl,rfl,rfl,rfl,rfl,trivial⟩ (fun w1 hS=>((hS.take 2).said fun w h=>⟨h.1.1.1,mi w ⟨h.1.1,h.2⟩⟩).sr fun w h=>⟨h.1,by rw[oL uk,List.length_append,Ht];exact h.2⟩) ⟨(show k+1≤4 by omega),lo2,mu,ou⟩ (show 4-(k+1)<4-k by omega)
 ·refine rz [0,1] [((k+1:Nat):Int)] rfl fun _=>eJ (k+1,v6,_,aC ba k a9,aC bc k c9,aC bq k q9) ⟨rfl,rfl,rfl,rfl,rfl,rfl,trivial⟩ (fun w1 hS=>((hS.take 2).said fun w h=>⟨h.1.1.1,mi w ⟨h.1.1,h.2⟩⟩).sr fun w h=>⟨h.1,by rw[ri uk];exact h.2⟩) ⟨(show k+1≤4 by omega),lo2,mu,ou⟩ (show 4-(k+1)<4-k by omega)
theorem Ot(Bs:Nat→Bt)(Y cb:Nat)(A:Nat→Option Addr)(K:tU)(ok:∀q,q<4→(Bs q).Ok)(he:∀q,q<4→(Lit.int .i64 (Bs q).e).wf=true)(iD:∀q,q<4→(bB (Bs q)).2=0)(U:tI)(w:tF)(hU:∀b,U b→b<w.heap.size)(hb:bU U w fun w=>lV w Y 4 Bs A K):cA 86 #[.slice (some ⟨Y,0,none⟩) 4 cb] w (WkY Bs U w):=by
 refine(CL Bs Y cb A K ok he U w hU hb).mono ?_;rintro x w' (⟨⟨p,hp,h⟩,_⟩|⟨_,h⟩)
 ·exact absurd (iD p hp) h
 ·exact h
theorem XS{B:Bt}(ok:B.Ok):(Lit.int .i64 B.e).wf=true:=by
 have hs:=jx ok.cM;exact Oq (by omega) (by omega)
end
def BI(fl:tN)(up:tQ)(pn pe:tK)(br sv td cl:tN):Nat→Value:=fun k=>
 if k<1 then fl else if k<6 then .bool (up (k-1))else if k<14 then lF [iV (pn 0),iV (pe 0),iV (pn 1),iV (pe 1),iV (pn 2),iV (pe 2),iV (pn 3),iV (pe 3)] (k-6)else lF [br,sv,td,cl] (k-14)
theorem Dv{fl:tN}{up:tQ}{pn pe:tK}{br sv td cl:tN}(h1:fl.oneCell'=true)(h2:br.oneCell'=true)(h3:sv.oneCell'=true)(h4:td.oneCell'=true)(h5:cl.oneCell'=true):a7 (BI fl up pn pe br sv td cl) 18:=fun i hi=>by
 match i,hi with
 |0,_=>exact h1
 |1,_=>rfl
 |2,_=>rfl
 |3,_=>rfl
 |4,_=>rfl
 |5,_=>rfl
 |6,_=>rfl
 |7,_=>rfl
 |8,_=>rfl
 |9,_=>rfl
 |10,_=>rfl
 |11,_=>rfl
 |12,_=>rfl
 |13,_=>rfl
 |14,_=>exact h2
 |15,_=>exact h3
 |16,_=>exact h4
 |17,_=>exact h5
 |n+18,h=>exact absurd h (by omega)
def yN(up:tQ)(k:Nat):Nat→Bool:=fun q=>if q<k then up q else false
theorem ab2{fl:tN}{up:tQ}{pn pe:tK}{br sv td cl:tN}{k:Nat}(hk:k<5)(i:Nat):oS (BI fl (yN up k) pn pe br sv td cl) (0+1+k*1) (.bool (up k)) i=BI fl (yN up (k+1)) pn pe br sv td cl i:=by
 by_cases hi:i=0+1+k*1
 ·subst hi;rw[DB];unfold BI;rw[if_neg (by omega),if_pos (by omega),show 0+1+k*1-1=k by omega];simp[yN]
 ·rw[qx _ _ _ _ hi];unfold BI;by_cases h1:i<1
  ·rw[if_pos h1,if_pos h1]
  ·rw[if_neg h1,if_neg h1];by_cases h2:i<6
   ·rw[if_pos h2,if_pos h2];congr 1;unfold yN;by_cases h3:i-1<k
    ·rw[if_pos h3,if_pos (by omega)]
    ·rw[if_neg h3,if_neg (by omega)]
   ·rw[if_neg h2,if_neg h2]
theorem Wd{w:tF}{Bs:Nat→Nat→Bt}{Y:tU}{A:Nat→Nat→Option Addr}{K:Nat→Nat→Nat}{k y:Nat}{a:Nat→Option Addr}{c:tU}(h:∀q,q<k→lV w (Y q) 4 (Bs q) (A q) (K q))(hk:lV w y 4 (Bs k) a c):∀q,q<k+1→lV w (aC Y k y q) 4 (Bs q) (aC A k a q) (aC K k c q):=fun q hq=>by
 unfold aC;by_cases e:q=k
 ·subst e;rw[if_pos rfl,if_pos rfl,if_pos rfl];exact hk
 ·rw[if_neg e,if_neg e,if_neg e];exact h q (by omega)
section
open Rv
theorem rW:ly Tryz.prog 111=some 1:=by kernel_rfl
theorem Bv:lL Tryz.prog 30 50 1 24=true:=by kernel_rfl
def ZA(Y C:tU)(k:Nat):List Value:=(List.range k).map fun q=> .slice (some ⟨Y q,0,none⟩) 4 (C q)
theorem Sj(Y C:tU)(k y c:Nat):ZA (aC Y k y) (aC C k c) (k+1)=ZA Y C k++[.slice (some ⟨y,0,none⟩) 4 c]:=by
 unfold ZA aC;rw[List.range_succ,List.map_append];congr 1
 ·exact List.map_congr_left fun q hq=>by
   have:=List.mem_range.1 hq;rw[if_neg (by omega),if_neg (by omega)]
 ·simp
theorem Hu(X:Nat)(nd:tU)(pn pe:tK)(fa:tG)(fn fc:Nat)(tk dd:tN)(cs:Int)(sa:tG)(sn sc:Nat)(ta:tG)(tn tc:Nat)(nu:tQ)(Bs:Nat→Nat→Bt)(w:tF)(U:tI)(hU:∀b,U b→b<w.heap.size)(hX:bU U w fun w=>(aZ w X 114 19 (lU nd pn pe [.slice fa fn fc,tk,dd,iV cs,.slice sa sn sc,.slice ta tn tc])∧∀q,q<5→w.cell? ⟨nd q,2,none⟩=some (.bool (nu q))))(aeO:∀k,k<5→∀(U':tI) (w1:tF),(∀b,U' b→b<w1.heap.size)→(∀b,b<w.heap.size→U' b→U b)→bZ w w1→cA 52 #[.pointer (some ⟨nd k,0,none⟩)] w1 fun x w'=>∃Y c A K,x= .returned (.slice (some ⟨Y,0,none⟩) 4 c)∧4≤c∧bU U' w' (fun w=>lV w Y 4 (Bs k) A K)∧bZ w1 w'):cA 31 #[.pointer (some ⟨X,0,none⟩)] w fun x w'=>∃(R c:Nat) (F:tH) (Y C:tU) (A:Nat→Nat→Option Addr) (K:Nat→Nat→Nat),x= .returned (vF (BI (iV (fn:Int)) (yN nu 5) pn pe (.slice (some ⟨R,0,none⟩) 5 c) (.slice sa sn sc) (.slice ta tn tc) (iV cs)) 18)∧5≤c∧(∀q,q<5→F q= .slice (some ⟨Y q,0,none⟩) 4 (C q)∧4≤C q)∧bU U w' (fun w=>((aZ w X 114 19 (lU nd pn pe [.slice fa fn fc,tk,dd,iV cs,.slice sa sn sc,.slice ta tn tc])∧∀q,q<5→w.cell? ⟨nd q,2,none⟩=some (.bool (nu q)))∧∀q,q<5→lV w (Y q) 4 (Bs q) (A q) (K q))∧aZ w R 50 (c*1) F)∧bZ w w':=by
 refine en (H:=[]) 52 [vv (.pointer (some ⟨X,0,none⟩))] Tryz.func31 rfl rfl (pP hU hX) (r [1] rfl fun α=>l1 rfl (.slice fa fn fc) (fun w hS=>hS.now.1.1.at 13 (cJ rfl)) (r [] rfl fun _=>lf rfl 8 (lF [iV (pn 0),iV (pe 0),iV (pn 1),iV (pe 1),iV (pn 2),iV (pe 2),iV (pn 3),iV (pe 3)]) (fun w hS j hj=>(hS.now.1.1.at (5+j) (by omega)).trans (congrArg some (LV hj))) (r [] rfl fun _=>l1 rfl (.slice sa sn sc) (fun w hS=>hS.now.1.1.at 17 (cJ rfl)) (r [] rfl fun _=>l1 rfl (.slice ta tn tc) (fun w hS=>hS.now.1.1.at 18 (cJ rfl)) (r [] rfl fun _=>l1 rfl (iV cs) (fun w hS=>hS.now.1.1.at 16 (cJ rfl)) (r [] rfl fun β=>lf rfl 5 (Zw nd) (fun w hS j hj=>by rw[Nat.zero_add];exact(hS.now.1.1.at j (by omega)).trans (congrArg some (Sa hj))) (r [] rfl fun _=>gn 1 (BI (iV (fn:Int)) (yN nu 0) pn pe (.slice none 0 0) (.slice sa sn sc) (.slice ta tn tc) (iV cs)) (gn 0 (BI (iV 0) (fun _=>false) (fun _=>0) (fun _=>0) (.slice none 0 0) (.slice none 0 0) (.slice none 0 0) (iV 0)) ?_))))))));refine uL (fun w2 hS=>hS.QD w.heap.size 50 1) ?_;refine iC (X:=Nat×Value×(Nat→Nat)×(Nat→Nat)×(Nat→Nat→Option Addr)×(Nat→Nat→Nat)) ⟨fun x=>[(2,vp 0 0 (α 0)),(3,vp 1 0 (β 0)),(31,vf 5 (Zw nd)),(32,vi (x.1:Int))],fun x=>[⟨α 0,34,[.f 18 (BI (iV 0) (fun _=>false) (fun _=>0) (fun _=>0) (.slice none 0 0) (.slice none 0 0) (.slice none 0 0) (iV 0))]⟩,⟨β 0,34,[.f 18 (BI (iV (fn:Int)) (yN nu x.1) pn pe x.2.1 (.slice sa sn sc) (.slice ta tn tc) (iV cs))]⟩],fun x b=>x.2.1.ownBlock=some b∨U b,fun x w=>(aZ w X 114 19 (lU nd pn pe [.slice fa fn fc,tk,dd,iV cs,.slice sa sn sc,.slice ta tn tc])∧∀q,q<5→w.cell? ⟨nd q,2,none⟩=some (.bool (nu q)))∧∀q,q<x.1→lV w (x.2.2.1 q) 4 (Bs q) (x.2.2.2.2.1 q) (x.2.2.2.2.2 q),fun x w'=>bZ w w'∧w'.ownsRow w.heap.size 50 1 x.2.1 x.1 (ZA x.2.2.1 x.2.2.2.1 x.1),fun x=>x.1≤5∧(∀q,q<x.1→4≤x.2.2.2.1 q)∧x.2.1.oneCell'=true,fun x=>5-x.1⟩ (0,.slice none 0 0,fun _=>0,fun _=>0,fun _ _=>none,fun _ _=>0) ⟨rfl,rfl,rfl,rfl,trivial⟩ (fun w hS=>hS.said fun _ h=>⟨h,fun q hq=>absurd hq (Nat.not_lt_zero q)⟩) ⟨Nat.zero_le _,fun q hq=>absurd hq (Nat.not_lt_zero q),rfl⟩ ?_;rintro f ⟨k,v,Y,C,A,K⟩ ⟨hk,h4,hv⟩;have hk:k≤5:=hk;have h4:∀q,q<k→4≤C q:=h4;by_cases aW:k<5
 case neg=>
  obtain rfl:k=5:=by omega
  have o1:a7 (BI (iV (fn:Int)) (yN nu 5) pn pe v (.slice sa sn sc) (.slice ta tn tc) (iV cs)) 18:=Dv rfl hv rfl rfl rfl;refine r [0] rfl fun _=>fin fun w1 hS=> ?_;have ho:w1.ownsRow w.heap.size 50 1 v 5 (ZA Y C 5):=hS.now.2.2;rcases id ho.2 with⟨_,h⟩|⟨R,c,cur,rfl,hR,hb,h5,_,hs,ht⟩
  ·cases h
  refine⟨R,c,fun j=>cur.getD j undef,Y,C,A,K,rfl,h5,fun q hq=>⟨?_,h4 q hq⟩,fun w2 c2=> ?_,hS.now.2.1⟩
  ·have:(cur.toList.take (5*1))[q]? =some (.slice (some ⟨Y q,0,none⟩) 4 (C q)):=by
    rw[ht,ZA,List.getElem?_map,List.getElem?_range hq];rfl
   rw[List.getElem?_take,if_pos (by omega),Array.getElem?_toList]at this;show cur.getD q undef=_;rw[Array.getD_eq_getD_getElem?,this];rfl
  ·have h2:=hS.g w2 (c2.mono fun b hb=> .inr (.inr hb));refine⟨h2,(DJ hb hs).same (c2.block R (Array.getElem?_eq_some_iff.1 hb).1 fun hu=> ?_)⟩;exact absurd (hU _ hu) (Nat.not_lt.2 hR)
 refine r [1] rfl fun _=>ix (vv (.pointer (some ⟨nd k,0,none⟩))) rfl rfl (ab1 nd aW) (r [] rfl fun _=>l1 rfl (.bool (nu k)) (fun w hS=>hS.now.1.1.2 k aW) ?_);refine r [1] rfl fun _=>so1 rfl 1 rfl _ (show 0+1+k*1<18 by omega) (fun i=>ab2 aW i) ?_;refine r [2] rfl fun _=>cx rfl (fun y:Nat×Nat×(Nat→Option Addr)×(Nat→Nat)=>vv (.slice (some ⟨y.1,0,none⟩) 4 y.2.1)) (fun y=>4≤y.2.1) (fun y w=>lV w y.1 4 (Bs k) y.2.2.1 y.2.2.2) (fun w1 hS=>(aeO k aW _ w1 hS.ult (fun b hb h=> ?_) hS.now.2.1).mono ?_) ?_
 ·rcases h with h|h|h
  ·have h:b∈[α 0,β 0]:=h;simp only[List.mem_cons,List.not_mem_nil,or_false]at h;rcases h with rfl|rfl
   ·exact absurd hb (Nat.not_lt.2 ((Mem.sr hS fun _ h=>h.1).iH 0 rfl))
   ·exact absurd hb (Nat.not_lt.2 ((Mem.sr hS fun _ h=>h.1).iH 1 rfl))
  ·rcases hS.now.2.2.2 with⟨e,_⟩|⟨g,c,cu,e,hg,_⟩
   ·rw[e]at h;cases h
   ·rw[e]at h;cases h;exact absurd hb (Nat.not_lt.2 hg)
  ·exact h
 ·rintro _ w7 ⟨Y8,c8,A8,K8,rfl,E_,st,b⟩;exact⟨(Y8,c8,A8,K8),rfl,b,E_,fun _=>st⟩
 rintro⟨Y8,c8,A8,K8⟩ E_;have E_:4≤c8:=E_;refine r [] rfl fun _=>Jh 2 rfl Bv (fun w hS=>hS.now.2.1.size) (fun _ _ h c=>lZ h c (Nat.le_refl _)) fun g c hc=>rz [1] [((k+1:Nat):Int)] rfl fun _=>gn 1 (BI (iV (fn:Int)) (yN nu (k+1)) pn pe (.slice (some ⟨g,0,none⟩) (k+1) c) (.slice sa sn sc) (.slice ta tn tc) (iV cs)) ?_;refine eJ (k+1,_,aC Y k Y8,aC C k c8,aC A k A8,aC K k K8) ⟨rfl,rfl,rfl,rfl,trivial⟩ (fun w hS=>((hS.take 2).said fun _ h=>⟨h.1.1,Wd h.1.2 h.2⟩).sr fun w h=>⟨h.1,by show w.ownsRow _ _ _ _ (k+1) (ZA (aC Y k Y8) (aC C k c8) (k+1));rw[Sj];exact h.2⟩) ⟨(show k+1≤5 by omega),fun q hq=> ?_,rfl⟩ (show 5-(k+1)<5-k by omega);show 4≤aC C k c8 q;unfold aC;split
 ·exact E_
 ·exact h4 q (by have hq:q<k+1:=hq;omega)
end
theorem ss:lL Tryz.prog 31 61 14 112=true:=by kernel_rfl
theorem ZB{w:tF}{R T c sz n:Nat}{F:tH}{L:tO}(fb:aZ w R T (c*sz) F)(ZC:n≤c)(hc:c≤maxLen)(hL:L.length=n*sz)(hF:∀j,j<n*sz→L[j]? =some (F j)):w.ownsRow 0 T sz (.slice (some ⟨R,0,none⟩) n c) n L:=by
 refine⟨hL,.inr ⟨R,c,(b_ F 0 (c*sz)).toArray,rfl,Nat.zero_le _,fb,ZC,hc,by simp[bM], ?_⟩⟩;have hle:n*sz≤c*sz:=Nat.mul_le_mul_right _ ZC;apply List.ext_getElem?;intro j;by_cases hj:j<n*sz
 ·rw[List.getElem?_take,if_pos hj,hF j hj];show(b_ F 0 (c*sz))[j]? =_;rw[cE _ _ _ _ (by omega),Nat.zero_add]
 ·rw[List.getElem?_take,if_neg hj,List.getElem?_eq_none (by omega)]
theorem Sk{w:tF}{T sz n:Nat}{v:tN}{L:tO}(h:w.ownsRow 0 T sz v n L):(v= .slice none 0 0∧n=0∧L=[])∨∃R c F,v= .slice (some ⟨R,0,none⟩) n c∧aZ w R T (c*sz) F∧n≤c∧c≤maxLen∧L.length=n*sz∧∀j,j<n*sz→L[j]? =some (F j):=by
 obtain⟨hl,⟨e1,e2⟩|⟨g,c,cur,e1,_,hb,ZC,hc,hs,ht⟩⟩:=h
 ·refine .inl ⟨e1,e2, ?_⟩;rw[e2,Nat.zero_mul]at hl;exact List.length_eq_zero_iff.1 hl
 ·refine .inr ⟨g,c,fun j=>cur.getD j undef,e1,DJ hb hs,ZC,hc,hl,fun j hj=> ?_⟩;have hle:n*sz≤c*sz:=Nat.mul_le_mul_right _ ZC;rw[←ht,List.getElem?_take,if_pos hj,Array.getElem?_toList,Array.getElem?_eq_getElem (by omega)];simp[show j<cur.size by omega]
theorem AG{w:tF}{T sz n:Nat}{v:tN}{L:tO}(h:w.ownsRow 0 T sz v n L):∀g,v.ownBlock=some g→g<w.heap.size:=fun g hg=>by
 rcases Sk h with⟨rfl,_,_⟩|⟨R,c,F,rfl,fb,_⟩
 ·simp[Value.ownBlock]at hg
 ·simp only[Value.ownBlock,Option.some.injEq]at hg;exact hg▸fb.lt
theorem xd{a:tG}{l sz cap:Nat}(h:gQ a l sz cap=none):a=none:=by
 unfold gQ at h;split at h
 ·exact h
 ·simpa using h
theorem Sl{k:IntKind}{w:tF}{a:tG}{len cap n:Nat}{l:tJ}(h:RowK k w a len l)(hn:n≤len)(hc:len≤cap):RowK k w (gQ a n 1 cap) (len-n) (l.drop n):=by
 refine⟨by rw[List.length_drop,h.cB],fun u hu=>h.wf u (List.mem_of_mem_drop hu),fun i hi=> ?_⟩;obtain⟨b,off,e,hb,hc'⟩:=h.cell (n+i) (by omega);refine⟨b,off+n, ?_,hb, ?_⟩
 ·unfold gQ;rw[if_neg (by omega),e];simp[Addr.add_mid]
 ·rw[Nat.add_assoc,hc'];simp[List.getD_eq_getElem?_getD,List.getElem?_drop]
structure Lt where
 kd:Int
 fr:Int
 dst:Int
 q:Nat
 nu:Int
 op:Ev
 an:An
 pn:Int
 pe:Int
 ep:Int
 pl:Int
 es:List Ev
 la:Bool
abbrev lp(p:Nat):Value:= .pointer (some ⟨p,0,none⟩)
def LY(l:Lt)(a:tG)(c:Nat):List Value:=[iV l.kd,iV l.fr,iV l.dst,iV (l.q:Int),iV l.nu,iV l.op.k,iV l.op.p,iV l.op.i,iV l.op.b,iV l.op.he,iV l.op.hn,iV l.an.c,iV l.an.he,iV l.an.no,iV l.an.bd,iV l.pn,iV l.pe,iV l.ep,iV l.pl,.slice a l.es.length c,.bool l.la]
structure eM(w:tF)(P:Nat)(l:Lt)(a:tG)(c:Nat):Prop where
 b:aZ w P 170 21 (lF (LY l a c))
 row:RowK .i64 w a (6*l.es.length) (ak l.es)
 cap:l.es.length≤c
 nil:a=none→c=0
structure Lr where
 p:Nat
 l:Lt
 a:Option Addr
 c:Nat
abbrev oh(w:tF)(r:Lr):Prop:=eM w r.p r.l r.a r.c
structure LZ where
 nd:Int
 q:Int
 ep:Int
 op:Ev
 an:An
 nu:Int
def L0(x:LZ):List Value:=[iV x.nd,iV x.q,iV x.ep,iV x.op.k,iV x.op.p,iV x.op.i,iV x.op.b,iV x.op.he,iV x.op.hn,iV x.an.c,iV x.an.he,iV x.an.no,iV x.an.bd,iV x.nu]
structure Tl where
 nu:Int
 an:An
 pn:Int
 pe:Int
def XT(x:Tl):List Value:=[iV x.nu,iV x.an.c,iV x.an.he,iV x.an.no,iV x.an.bd,iV x.pn,iV x.pe]
structure Wv where
 nd:Nat→Nat
 tk:Value
 dd:Value
 pn:Nat→Int
 pe:Nat→Int
 fl:List Lr
 cs:Int
 sv:List LZ
 td:List Tl
structure WO(w:tF)(X:Nat)(v:Wv)(F:tI):Prop where
 ex:∃fl sv td,aZ w X 114 19 (lU v.nd v.pn v.pe [fl,v.tk,v.dd,iV v.cs,sv,td])∧w.ownsRow 0 171 1 fl v.fl.length (v.fl.map fun r=>lp r.p)∧w.ownsRow 0 61 14 sv v.sv.length (v.sv.flatMap L0)∧w.ownsRow 0 63 7 td v.td.length (v.td.flatMap XT)∧∀b,F b↔b=X∨fl.ownBlock=some b∨sv.ownBlock=some b∨td.ownBlock=some b
section
variable{w w':tF}{X:Nat}{v v':Wv}{F F' F0 T A:tI}
theorem WO.lt(h:WO w X v F):∀b,F b→b<w.heap.size:=fun b hb=>by
 obtain⟨fl,sv,td,fb,o1,o2,o3,hF⟩:=h.ex;rcases(hF b).1 hb with rfl|h|h|h
 ·exact fb.lt
 ·exact AG o1 b h
 ·exact AG o2 b h
 ·exact AG o3 b h
theorem WO.still(h:WO w X v F)(hb:∀b,F b→w'.heap[b]? =w.heap[b]?):WO w' X v F:=by
 obtain⟨fl,sv,td,fb,o1,o2,o3,hF⟩:=h.ex;refine⟨fl,sv,td, ?_,aK o1 (fun g hg _=>hb g ((hF g).2 (.inr (.inl hg)))),aK o2 (fun g hg _=>hb g ((hF g).2 (.inr (.inr (.inl hg))))),aK o3 (fun g hg _=>hb g ((hF g).2 (.inr (.inr (.inr hg))))),hF⟩;unfold aZ at fb⊢;rw[←fb];exact hb X ((hF X).2 (.inl rfl))
theorem WO.Dc{U:tI}(h:WO w X v F)(c:dB U w w')(hU:∀b,U b→¬F b):WO w' X v F:=h.still fun b hb=>c.block b (h.lt b hb) fun hu=>hU b hu hb
theorem WO.next(h:WO w X v F)(b:bZ w w'):WO w' X v F:=h.still fun x hx=>b.block x (h.lt x hx)
structure RW(X:Nat)(A F0:tI)(w0:tF)(v:Wv)(F:tI)(x:tF):Prop where
 wo:WO x X v F
 mv:Mv (fun b=>F0 b∨A b) w0 (fun b=>F b∨A b) x
theorem Mem.init{H:List bT}{G:tM}(hW:WO w X v F)(iG:∀e∈H,aZ w e.a e.t e.n e.f)(oQ:(H.map bT.a).Nodup)(off:∀e∈H,¬(F e.a∨T e.a))(hT:∀b,T b→b<w.heap.size)(g:bU (fun b=>b∈H.map bT.a∨F b∨T b) w G):Mem w H (fun b=>F b∨T b) G (RW X (fun b=>b∈H.map bT.a) F w v F):=by
 have hm:=Mem.begin (M:=fun b=>F b∨T b) iG (QA oQ) off (fun b hb=>hb.elim (hW.lt b) (hT b)) g;refine⟨hm.iG,hm.oQ,hm.off,hm.mlt,hm.g,fun w2 c2=>⟨hW.Dc c2 fun b hb hf=> ?_,c2.mono fun b hb=> .inr hb,fun b hb=> .inl hb,fun b hb=> ?_⟩⟩
 ·obtain⟨e,he,rfl⟩:=List.mem_map.1 hb;exact off e he (.inl hf)
 ·rcases hb with hb|hb
  ·exact Nat.lt_of_lt_of_le (hW.lt b hb) c2.size
  ·exact Nat.lt_of_lt_of_le (hm.lt hb) c2.size
end
theorem RW.mv0{X:Nat}{F0 F:tI}{w0 x:tF}{v:Wv}(h:RW X (fun b=>b∈([]:List bT).map bT.a) F0 w0 v F x):Mv F0 w0 F x:=h.mv.less (fun b hb=>hb.elim id fun h=>by cases h) fun b hb=> .inl (.inl hb)
abbrev lY:Ev:=⟨0,0,0,0,0,0⟩
abbrev Hv:An:=⟨0,0,0,0⟩
section
variable{P:tW}{ops:tP}{Q:tL}{V:tV}{fx fl:tV}{n:Nat}{f:tH}{w:tF}{i:Nat}{t:Ord}{o:Oper}{d:Nat}
theorem aeP{s e sz ny b l:Nat}{x y:tT}{g:tH}{v:tN}{L:tO}(ht:lL P s e sz ny=true)(own:w.ownsRow 0 e sz v l L)(hl:(l+1)*ny≤140737488355328)(xj:l+1≤maxLen)(fb:aZ w b e sz g)(hg:a7 g sz)(Ou:fx.contains i=true)(ho:ops[i]? =some o)(hd:o.dst=some d)(hw:Region.wanted o (yielded ops (kL n f))=true)(hK:ji n ops=true)(hp:o.op= .call ⟨.builtin .append,#[x,y],#[s,s]⟩)(hx:ev f x=v)(hy:ev f y= .slice (some ⟨b,0,none⟩) 1 1)
  (h:∀w' R' c',w'.ownsRow 0 e sz (.slice (some ⟨R',0,none⟩) (l+1) c') (l+1) (L++b_ g 0 sz)→dB (fun b=>v.ownBlock=some b) w w'→(v.ownBlock=some R'∨w.heap.size≤R')→WF P ops Q V fx fl t n (up f d (.slice (some ⟨R',0,none⟩) (l+1) c')) w'):WF P ops Q V fx fl (.ef i t) n f w:=by
 obtain⟨hu,ti,z,hi,hz,hs,Iq,KO,lq⟩:=BX ht
 obtain⟨g1,cap,w1,hr,ho1,hgr,hat,aW⟩:=run_append_lies (P:=P) w s o.type 0 e ti z sz ny hu hi hz hs Iq KO lq v l L own ⟨b,0,none⟩ 1 1 (b_ g 0 sz) (by simp[bM]) (yi fb) (fun u hu=>by
  simp only[b_,List.mem_map,List.mem_range,Nat.zero_add]at hu;obtain⟨j,hj,rfl⟩:=hu;exact hg j hj) (by omega) xj hl (Nat.zero_le _) w.heap.size rfl
 refine oU ho hd hw hK (sM hp hx hy hr) (gu Ou) (h w1 g1 cap ho1 ⟨hgr.os,hgr.tape,hgr.output,hgr.size,fun x hx fJ=>hgr.block x hx fun e=>fJ e.symm⟩ (hat.imp id fun e=>Nat.le_of_eq e.symm))
theorem aeQ{s e sz ny b l:Nat}{x y:tT}{g:tH}{v:tN}{L:tO}{H:List bT}{M:tI}{G R:tM}(R2:tM)(ht:lL P s e sz ny=true)(hS:Mem w H M G R)(own:w.ownsRow 0 e sz v l L)(hM:∀b,v.ownBlock=some b→M b)(h2:∀w' w2,dB (fun b=>v.ownBlock=some b) w w'→dB (fun b=>b∈H.map bT.a) w' w2→R2 w2)(hl:(l+1)*ny≤140737488355328)(xj:l+1≤maxLen)(fb:aZ w b e sz g)(hg:a7 g sz)(Ou:fx.contains i=true)(ho:ops[i]? =some o)(hd:o.dst=some d)(hw:Region.wanted o (yielded ops (kL n f))=true)(hK:ji n ops=true)(hp:o.op= .call ⟨.builtin .append,#[x,y],#[s,s]⟩)(hx:ev f x=v)(hy:ev f y= .slice (some ⟨b,0,none⟩) 1 1)
  (h:∀w' R' c',Mem w' H M G (fun x=>x.ownsRow 0 e sz (.slice (some ⟨R',0,none⟩) (l+1) c') (l+1) (L++b_ g 0 sz)∧R2 x)→(v.ownBlock=some R'∨w.heap.size≤R')→WF P ops Q V fx fl t n (up f d (.slice (some ⟨R',0,none⟩) (l+1) c')) w'):WF P ops Q V fx fl (.ef i t) n f w:=by
 refine aeP ht own hl xj fb hg Ou ho hd hw hK hp hx hy fun w' R' c' o1 c1 hR=>h w' R' c' ?_ hR;refine⟨fun e he=> ?_,hS.oQ,hS.off,fun b hb=>Nat.lt_of_lt_of_le (hS.mlt b hb) c1.size,fun w2 c2=>hS.g w2 ((c1.mono (V:=fun b=>b∈H.map bT.a∨M b) fun b hb=> .inr (hM b hb)).trans c2 fun _ _ h=>h),fun w2 c2=>⟨aK o1 fun k hk aW=>c2.block k aW fun hm=> ?_,h2 w' w2 c1 c2⟩⟩
 ·have fb:=hS.iG e he;unfold aZ at fb⊢;rw[←fb];exact c1.block e.a (hS.iG e he).lt fun hv=>hS.off e he (hM _ hv)
 ·simp only[Value.ownBlock,Option.some.injEq]at hk;subst hk;obtain⟨e,he,rfl⟩:=List.mem_map.1 hm;rcases hR with hR|hR
  ·exact hS.off e he (hM _ hR)
  ·exact absurd (hS.iG e he).lt (Nat.not_lt.2 hR)
end
theorem WO.make{w w':tF}{X:Nat}{v v':Wv}{F:tI}{fl sv td Um sv' td':tN}(fb:aZ w X 114 19 (lU v.nd v.pn v.pe [fl,v.tk,v.dd,iV v.cs,sv,td]))(hF:∀b,F b↔b=X∨fl.ownBlock=some b∨sv.ownBlock=some b∨td.ownBlock=some b)
  (c:dB F w w') (Yr:aZ w' X 114 19 (lU v'.nd v'.pn v'.pe [Um,v'.tk,v'.dd,iV v'.cs,sv',td'])) (o1:w'.ownsRow 0 171 1 Um v'.fl.length (v'.fl.map fun r=>lp r.p)) (o2:w'.ownsRow 0 61 14 sv' v'.sv.length (v'.sv.flatMap L0)) (o3:w'.ownsRow 0 63 7 td' v'.td.length (v'.td.flatMap XT))
  (h1:∀b,Um.ownBlock=some b→F b∨w.heap.size≤b) (h2:∀b,sv'.ownBlock=some b→F b∨w.heap.size≤b) (h3:∀b,td'.ownBlock=some b→F b∨w.heap.size≤b):∃F',WO w' X v' F'∧Mv F w F' w'∧∀b,F' b↔b=X∨Um.ownBlock=some b∨sv'.ownBlock=some b∨td'.ownBlock=some b:=by
 have hW:WO w' X v' (fun b=>b=X∨Um.ownBlock=some b∨sv'.ownBlock=some b∨td'.ownBlock=some b):=⟨Um,sv',td',Yr,o1,o2,o3,fun _=>Iff.rfl⟩;refine⟨_,hW,⟨c,fun b hb=> ?_,hW.lt⟩,fun _=>Iff.rfl⟩;rcases hb with rfl|hb|hb|hb
 ·exact .inl ((hF _).2 (.inl rfl))
 ·exact h1 b hb
 ·exact h2 b hb
 ·exact h3 b hb
theorem ZD{w w':tF}{X P:Nat}{v':Wv}{F F' U:tI}{l:Lt}{a:tG}{c:Nat}(hU:∀b,U b→b<w.heap.size)(rX:∀b,F b→U b)(hr:bU U w fun w=>RowK .i64 w a (6*l.es.length) (ak l.es))(hc:l.es.length≤c)(hn:a=none→c=0)(m:Mv F w F' w')(hP:w.heap.size≤P)(fb:aZ w' P 170 21 (lF (LY l a c)))(hW:WO w' X v' F'):bU (fun b=>U b∨F' b) w' fun w=>eM w P l a c:=by
 have ZE:=hr.mv m rX;refine fun w2 c2=>⟨?_,ZE w2 c2,hc,hn⟩;have e:=c2.block P fb.lt fun h=> ?_
 ·unfold aZ at fb⊢;rw[e,fb]
 ·rcases h with h|h
  ·exact absurd (hU P h) (Nat.not_lt.2 hP)
  ·obtain⟨fl,sv,td,fx,o1,o2,o3,hF⟩:=hW.ex;rcases(hF P).1 h with rfl|h|h|h
   ·unfold aZ at fb fx;rw[fb]at fx;cases fx
   ·exact aU o1 fb (by decide) P h rfl
   ·exact aU o2 fb (by decide) P h rfl
   ·exact aU o3 fb (by decide) P h rfl
theorem bU.hm{w:tF}{φ:tM}{H:List bT}{F F' T:tI}(h:bU (fun b=>(b∈H.map bT.a∨F b∨T b)∨F' b) w φ):bU (fun b=>b∈H.map bT.a∨F' b∨T b) w φ:=h.mono fun b _ hb=>by
 rcases hb with hb|hb|hb
 ·exact .inl (.inl hb)
 ·exact .inr hb
 ·exact .inl (.inr (.inr hb))
structure Mg where
 B:Bt
 a:Option Addr
 c:Nat
 g:Nat→Value
abbrev jg(m:Mg):Nat→Value:=mF m.B.r m.B.e m.B.f m.B.t m.B.o (.slice m.a m.B.es.length m.c) m.g
abbrev oo(w:tF)(m:Mg):Prop:=jW w m.B m.a m.c m.g
theorem ZF(m:Nat→Mg)(q:Nat)(x:Mg):aC (fun p=>jg (m p)) q (jg x)=fun p=>jg (aC m q x p):=by
 funext p;unfold aC;split<;>rfl
inductive Af where
 |serve (l:Lt) (an:An)
 |begin (l:Lt) (B:Bt)
 |shut (l:Lt) (B:Bt)
 |take (l:Lt) (B:Bt)
 |ky (q:Nat) (B:Bt)
structure Ad where
 c0:Nat
 c1:Nat
 c2:Nat
 c3:Nat
 p:Nat
 a:Option Addr
 c:Nat
 m:Mg
structure Nv where
 i:Nat
 ub:Bool
 da:Option Addr
 dc:Nat
 dl:List Int
 sy:Int
 m:Nat→Mg
 hn:Nat→Int
 he:Nat→Int
 wt:Value
 wl:List Lr
 af:Value
 ax:Option Af
 ad:Ad
 tu:Nat
 ct:Nat
 sk:Bool
abbrev mj(X:Nat)(u:Nv):Nat→Value:=kH [.pointer (some ⟨X,0,none⟩),iV (u.i:Int),.bool u.ub,.slice u.da u.dl.length u.dc,iV u.sy] (gl (fun p=>jg (u.m p)) u.hn u.he u.wt u.af (u.tu:Int)) [iV (u.ct:Int),.bool u.sk]
abbrev NB(w:tF)(X N:Nat)(u:Nv):Prop:=aZ w N 126 206 (mj X u)
theorem XU{hd tl:tO}{mo:tS}{hn he:tK}{wt af:tN}{tu:Int}{q:Nat}(hq:q<4):kH hd (gl mo hn he wt af tu) tl (193+q*2)=iV (hn q):=by
 rw[show 193+q*2=5+(188+q*2) by omega,CK (by omega),abW hq]
theorem L4{hd tl:tO}{mo:tS}{hn he:tK}{wt af:tN}{tu:Int}{q:Nat}(hq:q<4):kH hd (gl mo hn he wt af tu) tl (193+q*2+1)=iV (he q):=by
 rw[show 193+q*2+1=5+(188+q*2+1) by omega,CK (by omega),abX hq]
theorem ab3{hd tl:tO}{mo:tS}{hn he:tK}{wt af:tN}{tu:Int}{q j:Nat}(hq:q<4)(hj:j<2):kH hd (gl mo hn he wt af tu) tl (193+q*2+j)=lF [iV (hn q),iV (he q)] j:=by
 obtain rfl|rfl:j=0∨j=1:=by omega
 ·exact XU hq
 ·exact L4 hq
section
variable{w:tF}{X:Nat}{v:Wv}{F:tI}
theorem WO.pl(h:WO w X v F){q j:Nat}(hq:q<4)(hj:j<2):w.cell? ⟨X,5+q*2+j,none⟩=some (lF [iV (v.pn q),iV (v.pe q)] j):=by
 obtain⟨fl,sv,td,fb,_⟩:=h.ex;rw[fb.at _ (by omega),Nat.add_assoc,LV (by omega)];obtain rfl|rfl|rfl|rfl:q=0∨q=1∨q=2∨q=3:=by omega
 all_goals(obtain rfl|rfl:j=0∨j=1:=by omega)
 all_goals rfl
theorem WO.dir(h:WO w X v F){j:Nat}(hj:j<8):w.cell? ⟨X,5+j,none⟩=some (lF [iV (v.pn 0),iV (v.pe 0),iV (v.pn 1),iV (v.pe 1),iV (v.pn 2),iV (v.pe 2),iV (v.pn 3),iV (v.pe 3)] j):=by
 obtain⟨fl,sv,td,fb,_⟩:=h.ex;rw[fb.at _ (by omega),LV hj]
theorem WO.cs_(h:WO w X v F):w.cell? ⟨X,16,none⟩=some (iV v.cs):=by
 obtain⟨fl,sv,td,fb,_⟩:=h.ex;exact fb.at 16 (by decide)
theorem WO.nd_(h:WO w X v F){k:Nat}(hk:k<5):w.cell? ⟨X,k,none⟩=some (lp (v.nd k)):=by
 obtain⟨fl,sv,td,fb,_⟩:=h.ex;rw[fb.at _ (by omega),Sa hk]
theorem WO.tk_(h:WO w X v F):w.cell? ⟨X,14,none⟩=some v.tk:=by
 obtain⟨fl,sv,td,fb,_⟩:=h.ex;exact fb.at 14 (by decide)
theorem WO.dd_(h:WO w X v F):w.cell? ⟨X,15,none⟩=some v.dd:=by
 obtain⟨fl,sv,td,fb,_⟩:=h.ex;exact fb.at 15 (by decide)
end
theorem Mem.Sm{w w0:tF}{H:List bT}{M A F0 F:tI}{Γ:tM}{X:Nat}{v:Wv}(h:Mem w H M Γ (RW X A F0 w0 v F)):∀b∈H.map bT.a,(F0 b∨A b)∨w0.heap.size≤b:=by
 intro b hb;refine Classical.byContradiction fun hn=> ?_;have aW:=h.lt hb;have vU:b<w0.heap.size:=Nat.lt_of_not_le fun k=>hn (.inr k);have key:∀B,w0.heap[b]? =some B:=fun B=>by
  have c:dB (fun b=>b∈H.map bT.a) w {w with heap:=w.heap.set b B aW}:=⟨rfl,rfl,rfl,by simp,fun z hz wj=>by
   have fJ:b≠z:=fun e=>wj (e▸hb)
   simp[fJ]⟩
  rw[←(h.r _ c).mv.c.block b vU (fun k=>hn (.inl k))];simp
 have:=(key (.cells #[] 0 (0,0))).symm.trans (key (.cells #[] 1 (0,0)));simp at this
namespace Rv
section
variable{n:Nat}{ops:tP}{f:Nat→AV}{fn:Func}{Rr:Ending→World→Prop}{Φ:tM}{H:List En}{ks:List Fr}{t:Ord}{i d:Nat}{md:Md}
theorem cw{Y:Type}{X:Nat}{A F0 F T:tI}{w0:tF}{v:Wv}{g:Nat}{al:List AV}(e:Qz n ops f i=some (d,g,al))(a:AV)(v':Y→Wv)(φ:Y→World→Prop)(hc:∀w,Mem w (hs H) (fun b=>F b∨T b) Φ (RW X A F0 w0 v F)→cA g (al.map AV.val).toArray w fun x w'=>x= .returned a.val∧∃y F',WO w' X (v' y) F'∧Mv F w F' w'∧bU (fun b=>(b∈(hs H).map bT.a∨F b∨T b)∨F' b) w' (φ y))(hn:∀y F',G Tryz.prog fn Rr n (fun b=>F' b∨T b) (fun w=>Φ w∧φ y w) (RW X A F0 w0 (v' y) F') (.g md ops t::ks) (ua f d a) H)(hA:∀b,A b→b∈(hs H).map bT.a:=by(intro b h;exact List.mem_cons.2 ((List.mem_cons.1 h).imp id fun h=>by cases h)))(hm:(md.cb||md.vs.contains i)=false:=by rfl)(he:iR Tryz.prog g=true:=by kernel_rfl):G Tryz.prog fn Rr n (fun b=>F b∨T b) Φ (RW X A F0 w0 v F) (.g md ops (.ef i t)::ks) f H:=
 mq e he fun w hS=>(hc w hS).mono fun _ w' ⟨h1,y,F',hW,m,s⟩=>by
  refine⟨a,H,_,_,_,h1,.inl hm,Mem.add ?_ s.hm,hn y F'⟩;have m1:=hS.now.2.mv.trans (m.with fun b hb=>hS.lt (hA b hb));refine hS.mv m fun w2 c2=>⟨hW.Dc c2 fun b hb hf=> ?_,m1.c.trans c2 fun b hb hv=>(hS.Sm b hv).elim id fun x=>absurd hb (Nat.not_lt.2 x),m1.f,fun b hb=>Nat.lt_of_lt_of_le (m1.l b hb) c2.size⟩;obtain⟨e,he,rfl⟩:=List.mem_map.1 hb;rcases m.f _ hf with hf|hf
  ·exact hS.off e he (.inl hf)
  ·exact absurd (hS.iG e he).lt (Nat.not_lt.2 hf)
end
end Rv
structure Nd where
 i:Nat
 up:Bool
 dl:List Int
 sy:Int
 mo:Nat→Bt
 hn:Nat→Int
 he:Nat→Int
 wt:List Lt
 af:Option Af
 tu:Nat
 ct:Nat
 sk:Bool
structure Ws where
 pn:Nat→Int
 pe:Nat→Int
 fl:List Lt
 cs:Int
 sv:List LZ
 td:List Tl
abbrev Nv.pure(u:Nv):Nd:=⟨u.i,u.ub,u.dl,u.sy,fun q=>(u.m q).B,u.hn,u.he,u.wl.map Lr.l,u.ax,u.tu,u.ct,u.sk⟩
abbrev Wv.pure(v:Wv):Ws:=⟨v.pn,v.pe,v.fl.map Lr.l,v.cs,v.sv,v.td⟩
abbrev mZ(nu:Int)(an:An)(pn pe:Int):Lt:=⟨1,0,0,0,nu,lY,an,pn,pe,0,0,[],false⟩
abbrev BM(i:Nat)(B:Bt)(q:Nat):Lt:=⟨3,i,B.f,q,0,lY,Hv,0,0,B.e,B.es.length,[],false⟩
abbrev ql(fr:Int)(q:Nat)(pn pe:Int):Lt:=⟨7,0,fr,q,0,lY,Hv,pn,pe,0,0,[],false⟩
abbrev uh(nd:Int)(q:Nat)(nu:Int)(op:Ev):Lt:=⟨0,0,nd,q,nu,op,Hv,0,0,0,0,[],false⟩
abbrev KE(i:Nat)(B:Bt)(q:Nat)(hv:Int)(es:List Ev)(la:Bool):Lt:=⟨4,i,B.t,q,0,lY,Hv,0,0,B.e+1,hv,es,la⟩
abbrev Ft(i:Nat)(B:Bt)(q:Nat):Lt:=⟨2,i,B.t,q,0,lY,Hv,0,0,B.e+1,0,[],false⟩
abbrev PV(i q:Nat):Lt:=⟨6,i,0,q,0,lY,Hv,0,0,0,0,[],false⟩
abbrev I5(i:Nat)(B:Bt)(q:Nat):Lt:=⟨5,i,0,q,0,lY,Hv,0,0,B.e,0,[],false⟩
theorem Ov{B B1 B2:Bt}{v:Ev}{a1 a2:An}{c1 c2:Bool}{e1 e2:Int}(x:cQ B v B1 a1 c1 e1)(y:cQ B v B2 a2 c2 e2):B1=B2∧a1=a2∧c1=c2∧e1=e2:=by
 have one:∀{s1 s2 t1 t2:St} {n1 n2:List An} {b1 b2:An} {d1 d2:Bool},bp B.es s1 n1→bp B.es s2 n2→Step s1 v t1 b1 d1→Step s2 v t2 b2 d2→b1=b2∧d1=d2:=by
  intro s1 s2 t1 t2 n1 n2 b1 b2 d1 d2 h1 h2 k1 k2;obtain⟨rfl,_⟩:=h1.one h2;obtain⟨_,e1,e2⟩:=Step.Ur h1.wf k1 k2;exact⟨e1,e2⟩
 cases x<;>cases y
 all_goals try unfold Ev.Ok at*
 all_goals first
  |exact⟨rfl,rfl,rfl,rfl⟩
  |(refine⟨rfl,rfl,rfl, ?_⟩;omega)
  |contradiction
  |(exfalso;omega)
  |(rename_i h1 MM UB uk s1 n1 ht1 t1 st1 h2 hv2 KG hr2 s2 n2 AY t2 st2;obtain⟨rfl,_⟩:=one ht1 AY st1 st2;exact⟨rfl,rfl,rfl,rfl⟩)
  |(rename_i h1 MM UB uk s1 n1 ht1 t1 Z4 st1 h2 hv2 KG hr2 s2 n2 AY t2 xj st2;obtain⟨rfl,_⟩:=one ht1 AY st1 st2;exact⟨rfl,rfl,rfl,rfl⟩)
  |(rename_i h1 MM UB uk s1 n1 ht1 t1 st1 h2 hv2 KG hr2 s2 n2 AY t2 a2 st2 xj;cases(one ht1 AY st1 st2).2)
  |(rename_i h1 MM UB uk s1 n1 ht1 t1 st1 h2 hv2 KG hr2 s2 n2 AY t2 xj st2;cases(one ht1 AY st1 st2).2)
  |(rename_i h1 MM UB uk s1 n1 ht1 t1 a1 st1 Z4 h2 hv2 KG hr2 s2 n2 AY t2 st2;cases(one ht1 AY st1 st2).2)
  |(rename_i h1 MM UB uk s1 n1 ht1 t1 Z4 st1 h2 hv2 KG hr2 s2 n2 AY t2 st2;cases(one ht1 AY st1 st2).2)
open Classical in
noncomputable def dZ(B:Bt)(v:Ev):Bt×An×Bool×Int:=if h:∃x:Bt×An×Bool×Int,cQ B v x.1 x.2.1 x.2.2.1 x.2.2.2 then h.choose else(B,Hv,false,0)
theorem sB{B B':Bt}{v:Ev}{an:An}{k:Bool}{er:Int}(h:cQ B v B' an k er):dZ B v=(B',an,k,er):=by
 have hx:∃x:Bt×An×Bool×Int,cQ B v x.1 x.2.1 x.2.2.1 x.2.2.2:=⟨(B',an,k,er),h⟩;unfold dZ;rw[dif_pos hx];obtain⟨e1,e2,e3,e4⟩:=Ov hx.choose_spec h;exact Prod.ext e1 (Prod.ext e2 (Prod.ext e3 e4))
def g_(s:Ws)(l:Lt):Ws:={s with fl:=s.fl++[l]}
def qj(s:Ws)(n:Nd)(q:Nat)(e:Ev)(an:An)(nu:Int):Ws:={s with sv:=s.sv++[⟨n.i,q,(n.mo q).e,e,an,nu⟩]}
def jE(n:Nd)(s:Ws)(l:Lt)(an:An):Ws:=g_ (qj s n l.q l.op an l.nu) (mZ l.nu an (-1) 0)
def AH(n:Nd)(s:Ws)(q:Nat):Ws:=g_ s (BM n.i (n.mo q) q)
noncomputable def uj(n:Nd)(s:Ws)(q:Nat)(hv:Int):Ws:=if(partOf (n.mo q) hv).2.2=0 then g_ s (KE n.i (n.mo q) q hv (partOf (n.mo q) hv).1 (partOf (n.mo q) hv).2.1)else s
open Classical in
noncomputable def qo(s:Ws)(l:Lt):Ws:=if dQ s.pn s.pe∧¬s.pn l.q= -1∧yM (s.pn l.q) (s.pe l.q) (l.ep-1) l.fr=0 then {s with pn:=gq s.pn l.q l.fr,pe:=gq s.pe l.q (s.pe l.q+1)}else s
def um(s:Ws)(l:Lt):Ws:=g_ s (ql l.fr l.q (s.pn l.q) (s.pe l.q))
def pS(n:Nd)(a:Af)(rs:List Rec):Option Nd:=if n.dl.length+(cG rs).length≤100000 then some {n with dl:=n.dl++cG rs,af:=some a}else none
noncomputable def jy(n:Nd)(s:Ws)(l:Lt):Nd×Ws:=
 if ¬((n.mo l.q).r=1∨(n.mo l.q).r=2)then(n,g_ s (mZ l.nu (dZ (n.mo l.q) l.op).2.1 (n.hn l.q) (n.he l.q)))
 else if(dZ (n.mo l.q) l.op).2.2.1=false then(n,jE n s l (dZ (n.mo l.q) l.op).2.1)
 else match pS n (.serve l (dZ (n.mo l.q) l.op).2.1) [⟨2,l.q,(n.mo l.q).e,0,l.op⟩]with
  |some n'=>(n',s)
  |none=>(n,jE n s l ⟨14,0,0,0⟩)
noncomputable def jz(n:Nd)(s:Ws)(l:Lt):Nd×Ws:=
 if ¬(aT (n.mo l.q) l.ep l.fr).2=0 then(n,s)
 else if(aT (n.mo l.q) l.ep l.fr).1.e=(n.mo l.q).e then(n,AH n s l.q)
 else((pS n (.begin l (aT (n.mo l.q) l.ep l.fr).1) [⟨4,l.q,l.ep,l.fr,lY⟩]).getD n,s)
noncomputable def ie(n:Nd)(s:Ws)(l:Lt):Nd×Ws:=
 if ¬(n.mo l.q).t=l.fr∨¬(n.mo l.q).e+1=l.ep then(n,s)
 else if ¬(bh (n.mo l.q) l.pl).2=0 then(n,s)
 else if(bh (n.mo l.q) l.pl).1.r=(n.mo l.q).r then({n with mo:=aC n.mo l.q (bh (n.mo l.q) l.pl).1},uj {n with mo:=aC n.mo l.q (bh (n.mo l.q) l.pl).1} s l.q l.pl)
 else((pS n (.shut l (bh (n.mo l.q) l.pl).1) [⟨3,l.q,(n.mo l.q).e,(n.mo l.q).t,lY⟩]).getD n,s)
def dp(q:Nat)(B:Bt)(k:Nat):List Rec:=
 if B.r=1 then((B.es.drop k).dropLast.map fun e=>(⟨5,q,B.e,0,e⟩:Rec))++[⟨6,q,B.e,0,lY⟩]else(B.es.drop k).map fun e=>(⟨5,q,B.e,0,e⟩:Rec)
noncomputable def takeN(n:Nd)(s:Ws)(l:Lt):Nd×Ws:=
 if ¬(bk (n.mo l.q) l.ep l.pl l.es l.la).2=0 then(n,s)
 else if(bk (n.mo l.q) l.ep l.pl l.es l.la).1.es.length=(n.mo l.q).es.length then(n,s)
 else((pS n (.take l (bk (n.mo l.q) l.ep l.pl l.es l.la).1) (dp l.q (bk (n.mo l.q) l.ep l.pl l.es l.la).1 (n.mo l.q).es.length)).getD n,s)
def eN(n:Nd)(l:Lt):Nd:=if n.he l.q<l.pe then {n with hn:=aC n.hn l.q l.pn,he:=aC n.he l.q l.pe}else n
noncomputable def jA(n:Nd)(s:Ws)(l:Lt):Nd×Ws:=
 if(bG (n.mo l.q) l.pe).2=0 then((pS (eN n l) (.ky l.q (bG (n.mo l.q) l.pe).1) [⟨7,l.q,(bG (n.mo l.q) l.pe).1.e,0,lY⟩]).getD (eN n l),s)else(eN n l,s)
noncomputable def eY(n:Nd)(s:Ws):Af→Nd×Ws
 | .serve l an=>({n with mo:=aC n.mo l.q (dZ (n.mo l.q) l.op).1},jE {n with mo:=aC n.mo l.q (dZ (n.mo l.q) l.op).1} s l an)
 | .begin l B=>({n with mo:=aC n.mo l.q B},AH {n with mo:=aC n.mo l.q B} s l.q)
 | .shut l B=>({n with mo:=aC n.mo l.q B},uj {n with mo:=aC n.mo l.q B} s l.q l.pl)
 | .take l B=>({n with mo:=aC n.mo l.q B},if B.r=1 then qj s {n with mo:=aC n.mo l.q B} l.q Ev.brk Hv (-1)else AH {n with mo:=aC n.mo l.q B} s l.q)
 | .ky q B=>({n with mo:=aC n.mo q B},s)
abbrev anL(an:An):List Value:=[iV an.c,iV an.he,iV an.no,iV an.bd]
def ZG(w:tF)(N:Nat)(af:tN)(d:Ad):Option Af→Prop
 |none=>af= .nilFunc
 |some (.serve l an)=>af= .func (.func 112) #[] #[lp d.c0,lp d.c1,lp d.c2,lp d.c3]∧aZ w d.c0 109 1 (fun _=>lp N)∧aZ w d.c1 3 1 (fun _=>iV (l.q:Int))∧aZ w d.c2 171 1 (fun _=>lp d.p)∧aZ w d.c3 59 4 (lF (anL an))∧eM w d.p l d.a d.c
 |some (.begin l B)=>af= .func (.func 116) #[] #[lp d.c0,lp d.c1,lp d.c2]∧aZ w d.c0 117 47 (jg d.m)∧aZ w d.c1 109 1 (fun _=>lp N)∧aZ w d.c2 171 1 (fun _=>lp d.p)∧eM w d.p l d.a d.c∧oo w d.m∧d.m.B=B
 |some (.shut l B)=>af= .func (.func 118) #[] #[lp d.c0,lp d.c1,lp d.c2]∧aZ w d.c0 117 47 (jg d.m)∧aZ w d.c1 109 1 (fun _=>lp N)∧aZ w d.c2 171 1 (fun _=>lp d.p)∧eM w d.p l d.a d.c∧oo w d.m∧d.m.B=B
 |some (.take l B)=>af= .func (.func 122) #[] #[lp d.c0,lp d.c1,lp d.c2]∧aZ w d.c2 117 47 (jg d.m)∧aZ w d.c0 109 1 (fun _=>lp N)∧aZ w d.c1 171 1 (fun _=>lp d.p)∧eM w d.p l d.a d.c∧oo w d.m∧d.m.B=B
 |some (.ky q B)=>af= .func (.func 125) #[] #[lp d.c0,lp d.c1,lp d.c2]∧aZ w d.c0 117 47 (jg d.m)∧aZ w d.c1 109 1 (fun _=>lp N)∧aZ w d.c2 3 1 (fun _=>iV (q:Int))∧oo w d.m∧d.m.B=B
structure Nv.In(w:tF)(N:Nat)(u:Nv):Prop where
 row:RowK .u8 w u.da u.dl.length u.dl
 mo:∀q,q<4→oo w (u.m q)
 af:ZG w N u.af u.ad u.ax
 wl:∀r∈u.wl,oh w r
def ab4:Option Af→Prop
 |none=>True
 |some (.serve l _)=>l.q<4∧∀x∈aX l.op,(Lit.int .i64 x).wf=true
 |some (.begin l B)=>l.q<4∧B.Ok
 |some (.shut l B)=>l.q<4∧B.Ok
 |some (.take l B)=>l.q<4∧B.Ok
 |some (.ky q B)=>q<4∧B.Ok
structure Nv.Ok(u:Nv):Prop where
 ok:∀q,q<4→(u.m q).B.Ok
 nil:u.da=none→u.dc=0
 cap:u.dl.length≤u.dc
 max:u.dc≤9223372036854775807
 len:u.dl.length≤100000
 s0:0≤u.sy
 s1:u.sy≤u.dl.length
 i5:u.i<5
 Sn:ab4 u.ax
structure NW(w:tF)(X N:Nat)(u:Nv)(v:Wv)(F U:tI):Prop where
 nb:NB w X N u
 wo:WO w X v F
 nf:¬F N
 ub:∀b,U b→b<w.heap.size
 fu:∀b,F b→U b
 nu:U N
 ok:u.Ok
 st:bU U w fun w=>u.In w N∧∀r∈v.fl,oh w r
structure Dn(w:tF)(X N:Nat)(u:Nv)(v:Wv)(F U:tI)(r:Nd×Ws)(u':Nv)(v':Wv)(F':tI)(w':tF):Prop where
 nw:NW w' X N u' v' F' (fun b=>U b∨F' b)
 mv:Mv (fun b=>F b∨b=N) w (fun b=>F' b∨b=N) w'
 wt:u'.wt=u.wt
 wl:u'.wl=u.wl
 nd:v'.nd=v.nd
 tk:v'.tk=v.tk
 dd:v'.dd=v.dd
 n:u'.pure=r.1
 s:v'.pure=r.2
namespace Rv
abbrev nE(X N:Nat)(u:Nv):En:=⟨N,126,[.f 206 (mj X u)]⟩
abbrev npE(a j N:Nat):En:=⟨a,109,[.p j 0 N]⟩
abbrev lpE(a P:Nat):En:=⟨a,171,[.o (lp P)]⟩
abbrev mgE(a:Nat)(m:Mg):En:=⟨a,117,[.f 47 (jg m)]⟩
abbrev moE(a:Nat)(B:Bt)(b:tG)(c:Nat)(g:tH):En:=⟨a,117,pU B b c g⟩
end Rv
theorem WO.i0{w:tF}{X:Nat}{v:Wv}{F:tI}{G:tM}(hW:WO w X v F)(g:bU F w G):Mem w [] (fun b=>F b∨False) G (RW X (fun b=>b∈([]:List bT).map bT.a) F w v F):=
 Mem.init hW (fun e he=>by cases he) List.nodup_nil (fun e he=>by cases he) (fun b h=>h.elim) fun w2 c=>g w2 (c.mono fun b h=>h.elim (fun h=>by cases h) (fun h=>h.elim id False.elim))
theorem Mem.ZH{w w0:tF}{H:List bT}{M P:tI}{Γ R:tM}(h:Mem w H M Γ R)(hR:∀w,R w→dB P w0 w):∀b∈H.map bT.a,P b∨w0.heap.size≤b:=by
 intro b hb;refine Classical.byContradiction fun hn=> ?_;have aW:=h.lt hb;have vU:b<w0.heap.size:=Nat.lt_of_not_le fun k=>hn (.inr k);have key:∀B,w0.heap[b]? =some B:=fun B=>by
  have c:dB (fun b=>b∈H.map bT.a) w {w with heap:=w.heap.set b B aW}:=⟨rfl,rfl,rfl,by simp,fun z hz wj=>by
   have fJ:b≠z:=fun e=>wj (e▸hb)
   simp[fJ]⟩
  rw[←(hR _ (h.r _ c)).block b vU (fun k=>hn (.inl k))];simp
 have:=(key (.cells #[] 0 (0,0))).symm.trans (key (.cells #[] 1 (0,0)));simp at this
theorem Mem.call2{w w0 w':tF}{H:List bT}{A F0 F T F':tI}{G:tM}{X:Nat}{v v':Wv}(h:Mem w H (fun b=>F b∨T b) G (RW X A F0 w0 v F))(hW:WO w' X v' F')(m:Mv F w F' w')(hA:∀b,A b→b∈H.map bT.a):Mem w' H (fun b=>F' b∨T b) G (RW X A F0 w0 v' F'):=by
 have m1:=h.now.2.mv.trans (m.with fun b hb=>h.lt (hA b hb));refine h.mv m fun w2 c2=>⟨hW.Dc c2 fun b hb hf=> ?_,m1.c.trans c2 fun b hb hv=>(h.Sm b hv).elim id fun x=>absurd hb (Nat.not_lt.2 x),m1.f,fun b hb=>Nat.lt_of_lt_of_le (m1.l b hb) c2.size⟩;obtain⟨e,he,rfl⟩:=List.mem_map.1 hb;rcases m.f _ hf with hf|hf
 ·exact h.off e he (.inl hf)
 ·exact absurd (h.iG e he).lt (Nat.not_lt.2 hf)
theorem aZ.open{w:tF}{X t c:Nat}{g:tH}{U:tI}{G:tM}(fb:aZ w X t c g)(hU:∀b,U b→b<w.heap.size)(hX:U X)(hG:bU U w G):Mem w [⟨X,t,c,g⟩] (fun b=>U b∧b≠X) G (fun w'=>dB (fun b=>b∈[X]) w w'):=
 Mem.begin (fun e he=>by cases List.mem_singleton.1 he;exact fb) (List.pairwise_singleton _ _) (fun e he=>by cases List.mem_singleton.1 he;exact fun h=>h.2 rfl) (fun b hb=>hU b hb.1) fun w2 c=>hG w2 (c.mono fun b h=>h.elim (fun h=>by cases List.mem_singleton.1 h;exact hX) fun h=>h.1)
theorem ot{w w':tF}{X e e' t sz sz' n n' m:Nat}{v v':tN}{xs xs':tO}{g:tH}(o:w.ownsRow 0 e sz v n xs)(o':w.ownsRow 0 e' sz' v' n' xs')(fb:aZ w X t m g)(c:dB (fun b=>b=X∨v'.ownBlock=some b) w w')(h1:e≠t:=by decide)(h2:e'≠e:=by decide):w'.ownsRow 0 e sz v n xs:=
 aK o fun g hg hl=>c.block g hl fun h=>h.elim (fun k=>aU o fb h1 g hg k) fun h=>jj o' o h2 g h hg
namespace Rv
section
variable{n:Nat}{ops:tP}{f:Nat→AV}{fn:Func}{Rr:Ending→World→Prop}{Φ:tM}{H:List En}{ks:List Fr}{t:Ord}{i d:Nat}{md:Md}
theorem am{X s e sz ny b l tX nX:Nat}{gX:tH}{x y:AV}{v:tN}{L:tO}{w0:tF}{en:En}{U:tI}(j:Nat)(he:nth H j=some en)(own:w0.ownsRow 0 e sz v l L)(fb:aZ w0 X tX nX gX)(hv:∀b,v.ownBlock=some b→U b)(h1:Xr n ops f i=some (d,s,x,y))(ht:lL Tryz.prog s e sz ny=true)(hl:(l+1)*ny≤140737488355328)(xj:l+1≤maxLen)(MO:a7 (di en.l) sz)(hn:∀g c,(v.ownBlock=some g∨w0.heap.size≤g)→(∀b∈(hs H).map bT.a,b∈[X]∨w0.heap.size≤b)→G Tryz.prog fn Rr n (fun b=>U b∧b≠X) Φ (fun x=>x.ownsRow 0 e sz (.slice (some ⟨g,0,none⟩) (l+1) c) (l+1) (L++b_ (di en.l) 0 sz)∧dB (fun b=>b=X∨v.ownBlock=some b) w0 x) (.g md ops t::ks) (ua f d (vv (.slice (some ⟨g,0,none⟩) (l+1) c))) H)(fJ:e≠tX:=by decide)(hx:x.val=v:=by rfl)(hy:y.val= .slice (some ⟨b,0,none⟩) 1 1:=by rfl)(het:en.t=e:=by rfl)(lq:ib en.l=sz:=by rfl)(ha:en.a=b:=by rfl)(Qy:md.vs.contains i=false:=by rfl):G Tryz.prog fn Rr n (fun b=>U b∧b≠X) Φ (fun w'=>dB (fun b=>b∈[X]) w0 w') (.g md ops (.ef i t)::ks) f H:=by
 intro w hS hK;obtain⟨hK1,jU⟩:=bm.1 hK;show WF Tryz.prog ops (kq Tryz.prog fn Rr ks) md.va (oE md ops) (uI md ops) (.ef i t) n (cn f) w;obtain⟨o,p,r,ho,hd,hw,hp,rfl,rfl⟩:=y_ h1
 have FY:(oE md ops).contains i=true:=kP ho (by
  unfold nI;rw[Qy,hp]
  cases md.cb<;>rfl)
 have U1:=wk hS j he;rw[ha,het,lq]at U1;have kN:=aU own fb fJ;have z:=hS.now.2.size;refine aeQ (fun x=>dB (fun b=>b=X∨v.ownBlock=some b) w0 x) ht hS (aK own fun g hg hl=>hS.now.2.block g hl fun hm=>kN g hg (List.mem_singleton.1 hm)) (fun b hb=>⟨hv b hb,kN b hb⟩) (fun w1 w2 c1 c2=> ?_) hl xj U1 MO FY ho hd (eS hw) (dt hK1).1 hp ((bl f p).symm.trans hx) ((bl f r).symm.trans hy) fun w' R' c' A5 hR=> ?_
 ·refine((hS.now.2.mono (V:=fun b=>b=X∨v.ownBlock=some b) fun b hb=> .inl (List.mem_singleton.1 hb)).trans c1 fun b _ hb=> .inr hb).trans c2 fun b hb hm=> ?_;exact(hS.ZH (fun _ h=>h) b hm).elim (fun h=> .inl (List.mem_singleton.1 h)) fun h=>absurd hb (Nat.not_lt.2 h)
 ·have:=hn R' c' (hR.imp id fun h=>Nat.le_trans z h) (hS.ZH fun _ h=>h) w' A5 (bm.2 ⟨hK1,jU⟩);rw[iQ]at this;exact this
theorem Sp{s:Nat}{x y:AV}(h:stB n ops f i=some (s,x,y)):∃o p r,ops[i]? =some o∧o.dst=none∧sO n ops f o=some true∧o.op= .store s p r∧x=ea f p∧y=ea f r:=by
 unfold stB at h;split at h
 ·rename_i o ho;split at h
  ·rename_i s' p r hd hw hp;simp only[Option.some.injEq,Prod.mk.injEq]at h;obtain⟨rfl,rfl,rfl⟩:=h;exact⟨o,p,r,ho,hd,hw,hp,rfl,rfl⟩
  ·cases h
 ·cases h
theorem wc{X s:Nat}{A F0 F T:tI}{w0:tF}{v:Wv}{x y:AV}(c:Int)(h1:stB n ops f i=some (s,x,y))(hn:G Tryz.prog fn Rr n (fun b=>F b∨T b) Φ (RW X A F0 w0 {v with cs:=c} F) (.g md ops t::ks) f H)(hA:∀b,A b→b∈(hs H).map bT.a)(hx:x.val= .pointer (some ⟨X,16,none⟩):=by rfl)(hy:y.val=iV c:=by rfl)(QE:pM Tryz.prog s=true:=by kernel_rfl)(Qy:md.vs.contains i=false:=by rfl):G Tryz.prog fn Rr n (fun b=>F b∨T b) Φ (RW X A F0 w0 v F) (.g md ops (.ef i t)::ks) f H:=by
 intro w hS hK;obtain⟨hK1,jU⟩:=bm.1 hK;show WF Tryz.prog ops (kq Tryz.prog fn Rr ks) md.va (oE md ops) (uI md ops) (.ef i t) n (cn f) w;obtain⟨o,p,r,ho,hd,hw,hp,rfl,rfl⟩:=Sp h1
 have FY:(oE md ops).contains i=true:=kP ho (by
  unfold nI;rw[Qy,hp]
  cases md.cb<;>rfl)
 obtain⟨Um,sv,td,fb,o1,o2,o3,hF⟩:=hS.now.2.wo.ex;have tn:av X w (w.setCell ⟨X,16,none⟩ (iV c)):=av.set X 16 w _;have hb:∀g,g≠X→(w.setCell ⟨X,16,none⟩ (iV c)).heap[g]? =w.heap[g]? :=fun g hg=>tn.block g hg;refine ru (w1:=w.setCell ⟨X,16,none⟩ (iV c)) ho hd (eS hw) (dt hK1).1 ?_ (gu FY) (hn _ (hS.call2 (F':=F) ⟨Um,sv,td,(fb.set 16 _ (by decide)).congr fun i _=>Zt (k:=3) (cJ rfl) i,aK o1 fun g hg _=>hb g (aU o1 fb (by decide) g hg),aK o2 fun g hg _=>hb g (aU o2 fb (by decide) g hg),aK o3 fun g hg _=>hb g (aU o3 fb (by decide) g hg),hF⟩ ⟨⟨tn.os,tn.tape,tn.output,Nat.le_of_eq tn.size.symm,fun b _ hn=>hb b fun e=>hn ((hF b).2 (.inl e))⟩,fun _ h=> .inl h,fun b hb=>by rw[tn.size];exact hS.now.2.wo.lt b hb⟩ hA) (bm.2 ⟨hK1,jU⟩));simp only[execOp,hp,(bl f p).symm.trans hx,(bl f r).symm.trans hy,Sem.run_bind,sL (v:=iV c) QE rfl rfl (fb.there 16 1 (by decide)),Result.andThen_ok,Sem.run_pure]
theorem wp{X s:Nat}{A F0 F T:tI}{w0:tF}{v:Wv}{x y:AV}(pn pe:tK)(h1:stB n ops f i=some (s,x,y))(hn:G Tryz.prog fn Rr n (fun b=>F b∨T b) Φ (RW X A F0 w0 {v with pn:=pn,pe:=pe} F) (.g md ops t::ks) f H)(hA:∀b,A b→b∈(hs H).map bT.a)(hx:x.val= .pointer (some ⟨X,5,none⟩):=by rfl)(hy:y.val=vF (di (yp pn pe)) 8:=by rfl)(QE:xp Tryz.prog s 8=true:=by kernel_rfl)(Qy:md.vs.contains i=false:=by rfl):G Tryz.prog fn Rr n (fun b=>F b∨T b) Φ (RW X A F0 w0 v F) (.g md ops (.ef i t)::ks) f H:=by
 intro w hS hK;obtain⟨hK1,jU⟩:=bm.1 hK;show WF Tryz.prog ops (kq Tryz.prog fn Rr ks) md.va (oE md ops) (uI md ops) (.ef i t) n (cn f) w;obtain⟨o,p,r,ho,hd,hw,hp,rfl,rfl⟩:=Sp h1
 have FY:(oE md ops).contains i=true:=kP ho (by
  unfold nI;rw[Qy,hp]
  cases md.cb<;>rfl)
 obtain⟨dd,hu,hr,hi⟩:=sJ QE;obtain⟨Um,sv,td,fb,o1,o2,o3,hF⟩:=hS.now.2.wo.ex;obtain⟨g,hg⟩:∃g,di (yp pn pe)=g:=⟨_,rfl⟩;have Uc:a7 g 8:=hg▸Rl rfl;have tn:av X w (w.setCells X 5 (b_ g 0 8)):=av.uC X _ 5 w;have hb:∀k,k≠X→(w.setCells X 5 (b_ g 0 8)).heap[k]? =w.heap[k]? :=fun k hk=>tn.block k hk;refine ru (w1:=w.setCells X 5 (b_ g 0 8)) ho hd (eS hw) (dt hK1).1 ?_ (gu FY) (hn _ (hS.call2 (F':=F) ⟨Um,sv,td,(fb.put 5 8 g (by decide)).congr fun i _=>by rw[←hg];exact Zs i,aK o1 fun g hg _=>hb g (aU o1 fb (by decide) g hg),aK o2 fun g hg _=>hb g (aU o2 fb (by decide) g hg),aK o3 fun g hg _=>hb g (aU o3 fb (by decide) g hg),hF⟩ ⟨⟨tn.os,tn.tape,tn.output,Nat.le_of_eq tn.size.symm,fun b _ hn=>hb b fun e=>hn ((hF b).2 (.inl e))⟩,fun _ h=> .inl h,fun b hb=>by rw[tn.size];exact hS.now.2.wo.lt b hb⟩ hA) (bm.2 ⟨hK1,jU⟩));have:=run_storeAt_mid (P:=Tryz.prog) w X 5 s (b_ g 0 8).toArray (by simpa[bM]using fb.there 5 8 (by decide)) (by simpa[bM]using hi) Uc.all;simp only[execOp,hp,(bl f p).symm.trans hx,(bl f r).symm.trans hy,hg,Sem.run_bind,vF,this,Result.andThen_ok,Sem.run_pure]
theorem cs{Y:Type}{w:tF}{X:Nat}{F F1 U:tI}{v:Wv}{g:Nat}{al:List AV}(e:Qz n ops f i=some (d,g,al))(v':Y→Wv)(φ:Y→World→Prop)(hc:∀w1,Mem w1 (hs H) (fun b=>F1 b∨False) Φ (RW X (fun b=>b∈([]:List bT).map bT.a) F w v F1)→cA g (al.map AV.val).toArray w1 fun x w'=>x= .returned (.tuple #[])∧∃y F',WO w' X (v' y) F'∧Mv F1 w1 F' w'∧bU (fun b=>U b∨F' b) w' (φ y))(hn:∀y F',G Tryz.prog fn Rr n (fun _=>False) (fun _=>True) (fun w'=>WO w' X (v' y) F'∧Mv F w F' w'∧bU (fun b=>U b∨F' b) w' (φ y)) (.g md ops t::ks) (ua f d (vt [])) [])(hm:(md.cb||md.vs.contains i)=false:=by rfl)(he:iR Tryz.prog g=true:=by kernel_rfl):G Tryz.prog fn Rr n (fun b=>F1 b∨False) Φ (RW X (fun b=>b∈([]:List bT).map bT.a) F w v F1) (.g md ops (.ef i t)::ks) f H:=
 ct (Y:=Y×(Nat→Prop)) e (vt []) (fun y w'=>WO w' X (v' y.1) y.2∧Mv F w y.2 w'∧bU (fun b=>U b∨y.2 b) w' (φ y.1)) (fun w1 hS=>(hc w1 hS).mono fun _ w' ⟨h1,y,F',hW,m,s⟩=>⟨h1,(y,F'),hW,hS.now.2.mv0.trans m,s⟩) (fun y w' w2 ⟨h1,h2,h3⟩ b=>⟨h1.next b,h2.next b,h3.next b⟩) (fun y=>hn y.1 y.2) hm he
end
end Rv
namespace Rv
section
variable{n:Nat}{ops:tP}{f:Nat→AV}{fn:Func}{Rr:Ending→World→Prop}{M:tI}{Φ R:tM}{H:List En}{ks:List Fr}{t:Ord}{i d:Nat}{md:Md}
theorem cv{X:Nat}{A F0 F T:tI}{w0:tF}{v:Wv}{g:Nat}{al:List AV}(e:Qz n ops f i=some (d,g,al))(a:AV)(v':Wv)(hc:∀w,Mem w (hs H) (fun b=>F b∨T b) Φ (RW X A F0 w0 v F)→cA g (al.map AV.val).toArray w fun x w'=>x= .returned a.val∧∃F',WO w' X v' F'∧Mv F w F' w')(hn:∀F',G Tryz.prog fn Rr n (fun b=>F' b∨T b) Φ (RW X A F0 w0 v' F') (.g md ops t::ks) (ua f d a) H)(hA:∀b,A b→b∈(hs H).map bT.a:=by(intro b h;exact List.mem_cons.2 ((List.mem_cons.1 h).imp id fun h=>by cases h)))(hm:(md.cb||md.vs.contains i)=false:=by rfl)(he:iR Tryz.prog g=true:=by kernel_rfl):G Tryz.prog fn Rr n (fun b=>F b∨T b) Φ (RW X A F0 w0 v F) (.g md ops (.ef i t)::ks) f H:=
 mq e he fun w hS=>(hc w hS).mono fun _ w' ⟨h1,F',hW,m⟩=>⟨a,H,_,_,_,h1,.inl hm,hS.call2 hW m hA,hn F'⟩
end
end Rv
section
open Rv
theorem gJ:lL Tryz.prog 111 171 1 8=true:=by kernel_rfl
theorem Hw:lL Tryz.prog 32 63 7 56=true:=by kernel_rfl
theorem rJ(X:Nat)(v:Wv)(F:tI)(U:tI)(w:tF)(l:Lt)(a:tG)(c:Nat)(g:tH)(hg:g=lF (LY l a c))(hW:WO w X v F)(hU:∀b,U b→b<w.heap.size)(rX:∀b,F b→U b)(hr:bU U w fun w=>RowK .i64 w a (6*l.es.length) (ak l.es))(hc:l.es.length≤c)(hn:a=none→c=0)(hlen:v.fl.length≤1000000000000):cA 81 #[lp X,vF g 21] w fun x w'=>x= .returned (.tuple #[])∧∃P F',WO w' X {v with fl:=v.fl++[⟨P,l,a,c⟩]} F'∧Mv F w F' w'∧bU (fun b=>U b∨F' b) w' fun w=>eM w P l a c:=by
 obtain⟨fl,sv,td,fb,o1,o2,o3,hF⟩:=hW.ex;refine en (H:=[⟨X,114,[.f 19 (lU v.nd v.pn v.pe [fl,v.tk,v.dd,iV v.cs,sv,td])]⟩]) 13 [vp 0 0 X,vf 21 g] Tryz.func81 rfl rfl (fb.open hU (rX X ((hF X).2 (.inl rfl))) hr) (r [] rfl fun α=> ?_);refine am 2 rfl o1 fb (fun b h=>rX b ((hF b).2 (.inr (.inl h)))) rfl gJ (by omega) (by unfold maxLen;omega) (fun i hi=>by obtain rfl:i=0:=Nat.lt_one_iff.1 hi;rfl) fun R2 c2 hR hw=>r [] rfl fun _=>gn 0 (lU v.nd v.pn v.pe [.slice (some ⟨R2,0,none⟩) (v.fl.length+1) c2,v.tk,v.dd,iV v.cs,sv,td]) (dm rfl fun w' hS=> ?_);have c1:=hS.now.2.2;obtain⟨F',E0,mv',_⟩:=WO.make (v':={v with fl:=v.fl++[⟨α 0,l,a,c⟩]}) fb hF (c1.mono fun b hb=>(hF b).2 (hb.imp id .inl)) (hS.at 0 rfl) (by rw[List.length_append,List.map_append];exact hS.now.2.1) (ot o2 o1 fb c1) (ot o3 o1 fb c1) (fun b hb=>by cases hb;exact hR.imp (fun h=>(hF _).2 (.inr (.inl h))) id) (fun b hb=> .inl ((hF b).2 (.inr (.inr (.inl hb))))) (fun b hb=> .inl ((hF b).2 (.inr (.inr (.inr hb)))));exact⟨rfl,α 0,F',E0,mv',ZD hU rX hr hc hn mv' ((hw (α 0) (.tail _ (.head _))).resolve_left fun h=>absurd (hS.oQ 1 0 _ _ rfl rfl (List.mem_singleton.1 h)) (by decide)) (hg▸hS.at 1 rfl) E0⟩
theorem Hx{α:Type}(f:α→List Value)(l:List α)(x:α):(l++[x]).flatMap f=l.flatMap f++f x:=by simp
theorem Hy(X:Nat)(v:Wv)(F:tI)(w:tF)(y:LZ)(g:tH)(hg:g=lF (L0 y))(hW:WO w X v F)(hlen:v.sv.length≤1000000000000):cA 89 #[lp X,vF g 14] w fun x w'=>x= .returned (.tuple #[])∧∃F',WO w' X {v with sv:=v.sv++[y]} F'∧Mv F w F' w':=by
 have og:a7 g 14:=by rw[hg];exact Rl rfl
 obtain⟨fl,sv,td,fb,o1,o2,o3,hF⟩:=hW.ex;refine en (H:=[⟨X,114,[.f 19 (lU v.nd v.pn v.pe [fl,v.tk,v.dd,iV v.cs,sv,td])]⟩]) 14 [vp 0 0 X,vf 14 g] Tryz.func89 rfl rfl (fb.open (G:=fun _=>True) hW.lt ((hF X).2 (.inl rfl)) fun _ _=>trivial) (r [1] rfl fun α=> ?_);refine am 2 rfl o2 fb (fun b h=>(hF b).2 (.inr (.inr (.inl h)))) rfl ss (by omega) (by unfold maxLen;omega) og fun R2 c2 hR _=>r [] rfl fun _=>gn 0 (lU v.nd v.pn v.pe [fl,v.tk,v.dd,iV v.cs,.slice (some ⟨R2,0,none⟩) (v.sv.length+1) c2,td]) (dm rfl fun w' hS=> ?_);have c1:=hS.now.2.2;obtain⟨F',E0,mv',_⟩:=WO.make (v':={v with sv:=v.sv++[y]}) fb hF (c1.mono fun b hb=>(hF b).2 (hb.imp id fun h=> .inr (.inl h))) (hS.at 0 rfl) (ot o1 o2 fb c1) (by rw[List.length_append,Hx];exact(hg▸hS.now.2.1:_)) (ot o3 o2 fb c1) (fun b hb=> .inl ((hF b).2 (.inr (.inl hb)))) (fun b hb=>by cases hb;exact hR.imp (fun h=>(hF _).2 (.inr (.inr (.inl h)))) id) (fun b hb=> .inl ((hF b).2 (.inr (.inr (.inr hb)))));exact⟨rfl,F',E0,mv'⟩
theorem toClient_wo(X:Nat)(v:Wv)(F:tI)(U:tI)(w:tF)(P:Nat)(l:Lt)(a:tG)(c:Nat)(hW:WO w X v F)(hU:∀b,U b→b<w.heap.size)(rX:∀b,F b→U b)(hl:bU U w fun w=>eM w P l a c)(hlen:v.td.length≤1000000000000):cA 73 #[lp X,lp P] w fun x w'=>x= .returned (.tuple #[])∧∃F',WO w' X {v with td:=v.td++[⟨l.nu,l.an,l.pn,l.pe⟩]} F'∧Mv F w F' w':=by
 obtain⟨fl,sv,td,fb,o1,o2,o3,hF⟩:=hW.ex;refine en (H:=[⟨X,114,[.f 19 (lU v.nd v.pn v.pe [fl,v.tk,v.dd,iV v.cs,sv,td])]⟩]) 26 [vp 0 0 X,vv (lp P)] Tryz.func73 rfl rfl (fb.open hU (rX X ((hF X).2 (.inl rfl))) hl) (r [1] rfl fun _=>l1 rfl (iV l.nu) (fun w hS=>hS.now.1.b.at 4 (cJ rfl)) (r [] rfl fun _=>lf rfl 4 (lF [iV l.an.c,iV l.an.he,iV l.an.no,iV l.an.bd]) (fun w hS j hj=>(hS.now.1.b.at (11+j) (by omega)).trans (congrArg some (qI rfl hj))) (r [] rfl fun _=>lf rfl 2 (lF [iV l.pn,iV l.pe]) (fun w hS j hj=>(hS.now.1.b.at (15+j) (by omega)).trans (congrArg some (qI rfl hj))) (r [] rfl fun α=> ?_))));refine am 1 rfl o3 fb (fun b h=>rX b ((hF b).2 (.inr (.inr (.inr h))))) rfl Hw (by omega) (by unfold maxLen;omega) (Rl rfl) fun R2 c2 hR _=>r [] rfl fun _=>gn 0 (lU v.nd v.pn v.pe [fl,v.tk,v.dd,iV v.cs,sv,.slice (some ⟨R2,0,none⟩) (v.td.length+1) c2]) (dm rfl fun w' hS=> ?_);have c1:=hS.now.2.2;obtain⟨F',E0,mv',_⟩:=WO.make (v':={v with td:=v.td++[⟨l.nu,l.an,l.pn,l.pe⟩]}) fb hF (c1.mono fun b hb=>(hF b).2 (hb.imp id fun h=> .inr (.inr h))) (hS.at 0 rfl) (ot o1 o3 fb c1) (ot o2 o3 fb c1) (by rw[List.length_append,Hx];exact hS.now.2.1) (fun b hb=> .inl ((hF b).2 (.inr (.inl hb)))) (fun b hb=> .inl ((hF b).2 (.inr (.inr (.inl hb))))) (fun b hb=>by cases hb;exact hR.imp (fun h=>(hF _).2 (.inr (.inr (.inr h)))) id);exact⟨rfl,F',E0,mv'⟩
theorem Hz(X:Nat)(v:Wv)(F:tI)(U:tI)(w:tF)(N:Nat)(u:Nv)(P:Nat)(l:Lt)(a:tG)(c:Nat)(an:An)(pn pe:Int)(hW:WO w X v F)(hU:∀b,U b→b<w.heap.size)(rX:∀b,F b→U b)(hN:bU F w fun w=>NB w X N u)(hl:bU U w fun w=>eM w P l a c)(hlen:v.fl.length≤1000000000000):cA 111 #[lp N,lp P,vF (lF [iV an.c,iV an.he,iV an.no,iV an.bd]) 4,vF (lF [iV pn,iV pe]) 2] w fun x w'=>x= .returned (.tuple #[])∧∃P' F',WO w' X {v with fl:=v.fl++[⟨P',(mZ l.nu an pn pe),none,0⟩]} F'∧Mv F w F' w'∧bU (fun b=>U b∨F' b) w' fun w=>eM w P' (mZ l.nu an pn pe) none 0:=by
 exact en (H:=[]) 20 [vv (lp N),vv (lp P),vf 4 (lF [iV an.c,iV an.he,iV an.no,iV an.bd]),vf 2 (lF [iV pn,iV pe])] Tryz.func111 rfl rfl (hW.i0 (G:=fun w=>NB w X N u∧eM w P l a c) fun w2 c=>⟨hN w2 c,hl w2 (c.mono rX)⟩) (r [1] rfl fun _=>l1 rfl (lp X) (fun w hS=>hS.now.1.1.at 0 (cJ rfl)) (r [] rfl fun _=>l1 rfl (iV l.nu) (fun w hS=>hS.now.1.2.b.at 4 (cJ rfl)) (r [] rfl fun _=>cs rfl _ _ (fun w1 hS=>rJ X v F U w1 (mZ l.nu an pn pe) none 0 (lF (LY (mZ l.nu an pn pe) none 0)) rfl hS.now.2.wo (fun b h=>Nat.lt_of_lt_of_le (hU b h) hS.now.2.mv.c.size) rX (fun _ _=>RowK.nil _ _ _) (Nat.zero_le _) (fun _=>rfl) hlen) fun P' F'=>r [] rfl fun _=>dm rfl fun _ hS=>⟨rfl,P',F',hS.now.2⟩)))
theorem xe(X:Nat)(v:Wv)(F:tI)(w:tF)(N:Nat)(u:Nv)(q:Nat)(hq:q<4)(e:Ev)(an:An)(nu:Int)(hW:WO w X v F)(hN:bU F w fun w=>NB w X N u)(hlen:v.sv.length≤1000000000000):cA 90 #[lp N,iV (q:Int),vF (lF [iV e.k,iV e.p,iV e.i,iV e.b,iV e.he,iV e.hn]) 6,vF (lF [iV an.c,iV an.he,iV an.no,iV an.bd]) 4,iV nu] w fun x w'=>x= .returned (.tuple #[])∧∃F',WO w' X {v with sv:=v.sv++[⟨u.i,q,(u.m q).B.e,e,an,nu⟩]} F'∧Mv F w F' w':=by
 exact en (H:=[]) 33 [vv (lp N),vi q,vf 6 (lF [iV e.k,iV e.p,iV e.i,iV e.b,iV e.he,iV e.hn]),vf 4 (lF [iV an.c,iV an.he,iV an.no,iV an.bd]),vi nu] Tryz.func90 rfl rfl (hW.i0 hN) (r [1] rfl fun _=>l1 rfl (lp X) (fun w hS=>hS.now.1.at 0 (cJ rfl)) (r [] rfl fun _=>l1 rfl (iV (u.i:Int)) (fun w hS=>hS.now.1.at 1 (cJ rfl)) (r [1] rfl fun _=>l1 (q:=5+q*47+1) rfl (iV (u.m q).B.e) (fun w hS=>(hS.now.1.at (5+q*47+1) (by omega)).trans (congrArg some (oc hq (by decide)))) (r [] rfl fun _=>cs (Y:=Unit) (U:=fun _=>False) rfl (fun _=>{v with sv:=v.sv++[⟨u.i,q,(u.m q).B.e,e,an,nu⟩]}) (fun _ _=>True) (fun w1 hS=>(Hy X v F w1 ⟨u.i,q,(u.m q).B.e,e,an,nu⟩ (lF (L0 ⟨u.i,q,(u.m q).B.e,e,an,nu⟩)) rfl hS.now.2.wo hlen).mono fun _ _ ⟨h1,F',h2,h3⟩=>⟨h1,(),F',h2,h3,fun _ _=>trivial⟩) fun _ F'=>r [] rfl fun _=>dm rfl fun _ hS=>⟨rfl,F',hS.now.2.1,hS.now.2.2.1⟩))))
theorem xg(X:Nat)(v:Wv)(F:tI)(U:tI)(w:tF)(N:Nat)(u:Nv)(P:Nat)(l:Lt)(a:tG)(c:Nat)(an:An)(hq:l.q<4)(hW:WO w X v F)(hU:∀b,U b→b<w.heap.size)(rX:∀b,F b→U b)(hN:bU F w fun w=>NB w X N u)(hl:bU U w fun w=>eM w P l a c)(hlen:v.fl.length≤1000000000000)(iE:v.sv.length≤1000000000000):cA 113 #[lp N,lp P,vF (lF [iV an.c,iV an.he,iV an.no,iV an.bd]) 4] w fun x w'=>x= .returned (.tuple #[])∧∃P' F',WO w' X {v with sv:=v.sv++[⟨u.i,l.q,(u.m l.q).B.e,l.op,an,l.nu⟩],fl:=v.fl++[⟨P',mZ l.nu an (-1) 0,none,0⟩]} F'∧Mv F w F' w'∧bU (fun b=>U b∨F' b) w' fun w=>eM w P' (mZ l.nu an (-1) 0) none 0:=by
 refine en (H:=[]) 26 [vv (lp N),vv (lp P),vf 4 (lF [iV an.c,iV an.he,iV an.no,iV an.bd])] Tryz.func113 rfl rfl (hW.i0 (G:=fun w=>NB w X N u∧eM w P l a c) fun w2 c=>⟨hN w2 c,hl w2 (c.mono rX)⟩) (r [1] rfl fun _=>l1 rfl (iV (l.q:Int)) (fun w hS=>hS.now.1.2.b.at 3 (cJ rfl)) (r [] rfl fun _=>lf rfl 6 (lF [iV l.op.k,iV l.op.p,iV l.op.i,iV l.op.b,iV l.op.he,iV l.op.hn]) (fun w hS j hj=>(hS.now.1.2.b.at (5+j) (by omega)).trans (congrArg some (qI rfl hj))) (r [] rfl fun _=>l1 rfl (iV l.nu) (fun w hS=>hS.now.1.2.b.at 4 (cJ rfl)) (r [] rfl fun _=> ?_))));refine cw (Y:=Unit) rfl (vt []) (fun _=>{v with sv:=v.sv++[⟨u.i,l.q,(u.m l.q).B.e,l.op,an,l.nu⟩]}) (fun _ _=>True) (fun w1 hS=>(xe X v F w1 N u l.q hq l.op an l.nu hS.now.2.wo (fun w2 c2=>(hS.g w2 (c2.mono fun b h=> .inr (.inl h))).1) iE).mono fun _ _ ⟨h1,F',h2,h3⟩=>⟨h1,(),F',h2,h3,fun _ _=>trivial⟩) (fun _ F1=> ?_) (fun b h=>by cases h);exact r [] rfl fun _=>cs (U:=fun b=>U b∨F1 b) rfl _ _ (fun w1 hS=>Hz X _ F1 (fun b=>U b∨F1 b) w1 N u P l a c an (-1) 0 hS.now.2.wo (fun b h=>h.elim (fun h=>Nat.lt_of_lt_of_le (hU b h) hS.now.2.mv.c.size) (hS.now.2.wo.lt b)) (fun b h=> .inr h) (fun w2 c2=>(hS.g w2 (c2.mono fun b h=> .inr (.inl h))).1.1) (hl.mv hS.now.2.mv0 rX) hlen) fun P' F'=>r [] rfl fun _=>dm rfl fun _ hS=>⟨rfl,P',F',hS.now.2.1,hS.now.2.2.1,hS.now.2.2.2.mono fun b _ h=>h.imp .inl id⟩
theorem EN(X:Nat)(v:Wv)(F:tI)(U:tI)(w:tF)(N:Nat)(u:Nv)(q:Nat)(hq:q<4)(lG:a7 (u.m q).g 41)(hW:WO w X v F)(hU:∀b,U b→b<w.heap.size)(rX:∀b,F b→U b)(hN:bU F w fun w=>NB w X N u)(hlen:v.fl.length≤1000000000000):cA 115 #[lp N,iV (q:Int)] w fun x w'=>x= .returned (.tuple #[])∧∃P' F',WO w' X {v with fl:=v.fl++[⟨P',BM u.i (u.m q).B q,none,0⟩]} F'∧Mv F w F' w'∧bU (fun b=>U b∨F' b) w' fun w=>eM w P' (BM u.i (u.m q).B q) none 0:=by
 refine en (H:=[]) 33 [vv (lp N),vi q] Tryz.func115 rfl rfl (hW.i0 hN) (r [1] rfl fun _=>lf (q:=5+q*47) rfl 47 (jg (u.m q)) (fun w hS j hj=>(hS.now.1.at (5+q*47+j) (by omega)).trans (congrArg some (oc hq hj))) (sv 11 (vg (pU (u.m q).B (u.m q).a (u.m q).c (u.m q).g)) rfl (r [] rfl fun α=>r [1] rfl fun _=>l1 rfl (lp X) (fun w hS=>hS.now.1.at 0 (cJ rfl)) (r [] rfl fun _=>l1 rfl (iV (u.i:Int)) (fun w hS=>hS.now.1.at 1 (cJ rfl)) (r [] rfl fun _=> ?_)))));exact cs rfl _ _ (fun w1 hS=>rJ X v F U w1 (BM u.i (u.m q).B q) none 0 (lF (LY (BM u.i (u.m q).B q) none 0)) rfl hS.now.2.wo (fun b h=>Nat.lt_of_lt_of_le (hU b h) hS.now.2.mv.c.size) rX (fun _ _=>RowK.nil _ _ _) (Nat.zero_le _) (fun _=>rfl) hlen) fun P' F'=>r [] rfl fun _=>dm rfl fun _ hS=>⟨rfl,P',F',hS.now.2⟩
theorem L5(X:Nat)(v:Wv)(F:tI)(U:tI)(w:tF)(P:Nat)(l:Lt)(a:tG)(c:Nat)(hq:l.q<4)(hW:WO w X v F)(hU:∀b,U b→b<w.heap.size)(rX:∀b,F b→U b)(hl:bU U w fun w=>eM w P l a c)(hlen:v.fl.length≤1000000000000):cA 75 #[lp X,lp P] w fun x w'=>x= .returned (.tuple #[])∧∃P' F',WO w' X {v with fl:=v.fl++[⟨P',ql l.fr l.q (v.pn l.q) (v.pe l.q),none,0⟩]} F'∧Mv F w F' w'∧bU (fun b=>U b∨F' b) w' fun w=>eM w P' (ql l.fr l.q (v.pn l.q) (v.pe l.q)) none 0:=by
 exact en (H:=[]) 25 [vv (lp X),vv (lp P)] Tryz.func75 rfl rfl (hW.i0 fun w2 c=>hl w2 (c.mono rX)) (r [1] rfl fun _=>l1 rfl (iV l.fr) (fun w hS=>hS.now.1.b.at 1 (cJ rfl)) (r [] rfl fun _=>l1 rfl (iV (l.q:Int)) (fun w hS=>hS.now.1.b.at 3 (cJ rfl)) (r [] rfl fun _=>l1 rfl (iV (l.q:Int)) (fun w hS=>hS.now.1.b.at 3 (cJ rfl)) (r [1] rfl fun _=>lf (q:=5+l.q*2) rfl 2 (lF [iV (v.pn l.q),iV (v.pe l.q)]) (fun w hS j hj=>hS.now.2.wo.pl hq hj) (r [] rfl fun _=>cs rfl _ _ (fun w1 hS=>rJ X v F U w1 (ql l.fr l.q (v.pn l.q) (v.pe l.q)) none 0 (lF (LY (ql l.fr l.q (v.pn l.q) (v.pe l.q)) none 0)) rfl hS.now.2.wo (fun b h=>Nat.lt_of_lt_of_le (hU b h) hS.now.2.mv.c.size) rX (fun _ _=>RowK.nil _ _ _) (Nat.zero_le _) (fun _=>rfl) hlen) fun P' F'=>r [] rfl fun _=>dm rfl fun _ hS=>⟨rfl,P',F',hS.now.2⟩)))))
open Classical in
noncomputable def ov(v:Wv)(l:Lt):Wv:=if dQ v.pn v.pe∧¬v.pn l.q= -1∧yM (v.pn l.q) (v.pe l.q) (l.ep-1) l.fr=0 then {v with pn:=gq v.pn l.q l.fr,pe:=gq v.pe l.q (v.pe l.q+1)}else v
theorem Sq{v:Wv}{l:Lt}{pa pb:tK}(h:vm v.pn v.pe (l.q:Int) (l.ep-1) l.fr pa pb 0):ov v l={v with pn:=pa,pe:=pb}:=by
 generalize he:(0:Int)=er at h;cases h with
 |off a b c h hc=>exact absurd he.symm hc
 |no a b h hc=>exact absurd he.symm hc
 |flip h k hk hq hn hc=>
  obtain rfl:l.q=k:=by omega
  exact if_pos ⟨h,hn,hc⟩
theorem Sr{v:Wv}{l:Lt}{pa pb:tK}{er:Int}(h:vm v.pn v.pe (l.q:Int) (l.ep-1) l.fr pa pb er)(h0:¬er=0)(vV:l.q<4):ov v l=v:=by
 refine if_neg fun hc=> ?_;cases h with
 |off a b c h hc'=>
  cases h with
  |state h=>exact h hc.1
  |range h hq=>exact hq ⟨by omega,by omega⟩
  |none h k hk hq hn=>
   obtain rfl:l.q=k:=by omega
   exact hc.2.1 hn
  |here h k hk hq hn=>exact hc' rfl
 |no a b h hc'=>
  obtain⟨_,k,hk,hq,hn,rfl,rfl⟩:=h.at;obtain rfl:l.q=k:=by omega
  exact hc' hc.2.2
 |flip h k hk hq hn hc'=>exact h0 rfl
theorem We(X:Nat)(v:Wv)(F:tI)(U:tI)(w:tF)(P:Nat)(l:Lt)(a:tG)(c:Nat)(hq:l.q<4)(he0: -1000000000≤l.ep)(he1:l.ep≤1000000000)(hW:WO w X v F)(hU:∀b,U b→b<w.heap.size)(rX:∀b,F b→U b)(hl:bU U w fun w=>eM w P l a c)(hlen:v.fl.length≤1000000000000):cA 74 #[lp X,lp P] w fun x w'=>x= .returned (.tuple #[])∧∃P' F',WO w' X {ov v l with fl:=v.fl++[⟨P',ql l.fr l.q ((ov v l).pn l.q) ((ov v l).pe l.q),none,0⟩]} F'∧Mv F w F' w'∧bU (fun b=>U b∨F' b) w' fun w=>eM w P' (ql l.fr l.q ((ov v l).pn l.q) ((ov v l).pe l.q)) none 0:=by
 refine en (H:=[]) 36 [vv (lp X),vv (lp P)] Tryz.func74 rfl rfl (hW.i0 fun w2 c=>hl w2 (c.mono rX)) (r [] rfl fun _=> ?_);refine cut (X:=Nat×(Nat→Int)×(Nat→Int)×Int) (fun x=>[(0,vv (lp X)),(1,vv (lp P)),(4,vp 0 0 x.1),(5,vi x.2.2.2)]) (fun x=>[⟨x.1,29,yp x.2.1 x.2.2.1⟩]) (fun _ b=>F b∨False) (fun _ w=>eM w P l a c) (fun _=>RW X (fun b=>b∈([]:List bT).map bT.a) F w v F) (fun x=>vm v.pn v.pe (l.q:Int) (l.ep-1) l.fr x.2.1 x.2.2.1 x.2.2.2) ?_ (rz [4,1] [l.ep-1] rfl fun _=>lf rfl 8 (di (yp v.pn v.pe)) (fun w hS j hj=>hS.now.2.wo.dir hj) (r [] rfl fun _=>l1 rfl (iV (l.q:Int)) (fun w hS=>hS.now.1.b.at 3 (cJ rfl)) (r [] rfl fun _=>l1 rfl (iV l.ep) (fun w hS=>hS.now.1.b.at 17 (cJ rfl)) (rz [1] [l.ep-1] rfl fun _=>l1 rfl (iV l.fr) (fun w hS=>hS.now.1.b.at 1 (cJ rfl)) (r [] rfl fun _=> ?_)))))
 case refine_2=>
  repeat' first|refine C9 ?_ ?_|(refine cq (g:=126) rfl (fun y:(Nat→Int)×(Nat→Int)×Int=>vt [.g (yp y.1 y.2.1),.o (iV y.2.2)]) (fun y=>vm v.pn v.pe (l.q:Int) (l.ep-1) l.fr y.1 y.2.1 y.2.2) ?_ ?_;exact fun w _=>(Rx v.pn v.pe (l.q:Int) (l.ep-1) l.fr w).mono fun _ _ ⟨pa,pb,er,h0,h1,b⟩=>⟨(pa,pb,er),h0,b,h1⟩;rintro⟨pa,pb,er⟩ yL)|refine rs [] rfl rfl fun _=> ?_
  all_goals exact eJ (_,pa,pb,er) ⟨rfl,rfl,rfl,rfl,trivial⟩ (fun w hS=>hS) yL Nat.zero_lt_one
 rintro f ⟨R6,pa,pb,er⟩ BN;have BN:vm v.pn v.pe (l.q:Int) (l.ep-1) l.fr pa pb er:=BN;have tl:∀v1 w1,Mem w1 (hs [⟨R6,29,yp pa pb⟩]) (fun b=>F b∨False) (fun w=>eM w P l a c) (RW X (fun b=>b∈([]:List bT).map bT.a) F w v1 F)→v1.fl.length≤1000000000000→_:=fun v1 w1 hS h=>L5 X v1 F U w1 P l a c hq hS.now.2.wo (fun b h=>Nat.lt_of_lt_of_le (hU b h) hS.now.2.mv.c.size) rX ((hl.mv hS.now.2.mv0 rX).mono fun b _ h=> .inl h) h;by_cases h0:er=0
 ·subst h0;rw[Sq BN];exact r [1] rfl fun _=>wp pa pb rfl (r [] rfl fun _=>cs rfl _ _ (fun w1 hS=>tl _ w1 hS hlen) fun P' F'=>r [] rfl fun _=>dm rfl fun _ hS=>⟨rfl,P',F',hS.now.2⟩) (fun b h=>by cases h)
 ·rw[Sr BN h0 hq];exact r [0] rfl fun _=>cs rfl _ _ (fun w1 hS=>tl _ w1 hS hlen) fun P' F'=>r [] rfl fun _=>dm rfl fun _ hS=>⟨rfl,P',F',hS.now.2⟩
theorem Wg(X:Nat)(v:Wv)(F:tI)(U:tI)(w:tF)(k nd:Int)(q:Nat)(pl kp:Int)(e:Ev)(hW:WO w X v F)(hU:∀b,U b→b<w.heap.size)(rX:∀b,F b→U b)(hlen:v.fl.length≤1000000000000)(Mz:v.cs≤1000000000000)(U2:0≤v.cs):cA 45 #[lp X,vF (lF [iV k,iV nd,iV (q:Int),iV pl,iV kp,iV e.k,iV e.p,iV e.i,iV e.b,iV e.he,iV e.hn]) 11] w fun x w'=>x= .returned (.tuple #[])∧∃P' F',WO w' X {v with cs:=v.cs+1,fl:=v.fl++[⟨P',uh nd q v.cs e,none,0⟩]} F'∧Mv F w F' w'∧bU (fun b=>U b∨F' b) w' fun w=>eM w P' (uh nd q v.cs e) none 0:=by
 refine en (H:=[]) 24 [vv (lp X),vg [.o (iV k),.o (iV nd),.o (iV (q:Int)),.o (iV pl),.o (iV kp),.o (iV e.k),.o (iV e.p),.o (iV e.i),.o (iV e.b),.o (iV e.he),.o (iV e.hn)]] Tryz.func45 rfl rfl (Mem.init (T:=U) hW (fun e he=>by cases he) List.nodup_nil (fun e he=>by cases he) hU fun _ _=>trivial) (r [1] rfl fun _=>l1 rfl (iV v.cs) (fun w hS=>hS.now.2.wo.cs_) (r [] rfl fun _=> ?_));refine cw rfl (vt []) _ _ (fun w1 hS=>rJ X v F _ w1 (uh nd q v.cs e) none 0 (lF (LY (uh nd q v.cs e) none 0)) rfl hS.now.2.wo hS.ult (fun b h=> .inr (.inl h)) (fun _ _=>RowK.nil _ _ _) (Nat.zero_le _) (fun _=>rfl) hlen) (fun P' F'=> ?_) (fun b h=>by cases h);exact r [] rfl fun _=>l1 rfl (iV v.cs) (fun w hS=>hS.now.2.wo.cs_) (rz [1] [v.cs+1] rfl fun _=>wc (v.cs+1) rfl (r [] rfl fun _=>dm rfl fun w2 hS=>⟨rfl,P',F',hS.now.2.wo,hS.now.2.mv0,fun w2 c2=>(hS.g w2 (c2.mono fun b h=>h.elim (fun h=> .inr (.inr h)) (fun h=> .inr (.inl h)))).2⟩) (fun b h=>by cases h))
end
theorem aJ{α:Type}(m:Nat→α)(q:Nat)(x:α):aC m q x q=x:=if_pos rfl
theorem ab5(m:Nat→Mg)(k:Nat)(x:Mg):(fun q=>(aC m k x q).B)=aC (fun q=>(m q).B) k x.B:=by
 funext q;unfold aC;split<;>rfl
theorem jT(u:Nv)(q:Nat)(x:Mg):({u with m:=aC u.m q x}:Nv).pure={u.pure with mo:=aC u.pure.mo q x.B}:=by
 show Nd.mk .. =Nd.mk ..;simp only[ab5]
theorem ki(v:Wv)(r:Lr):({v with fl:=v.fl++[r]}:Wv).pure=g_ v.pure r.l:=by
 show Ws.mk .. =Ws.mk ..;simp only[List.map_append,List.map_cons,List.map_nil]
theorem AJ(v:Wv)(y:LZ)(r:Lr):({v with sv:=v.sv++[y],fl:=v.fl++[r]}:Wv).pure=g_ {v.pure with sv:=v.sv++[y]} r.l:=by
 show Ws.mk .. =Ws.mk ..;simp only[List.map_append,List.map_cons,List.map_nil]
theorem s6{hd tl:tO}{m:Nat→Mg}{q:Nat}{x:Mg}{hn he:tK}{wt af:tN}{tu:Int}(i:Nat):kH hd (gl (aC (fun p=>jg (m p)) q (jg x)) hn he wt af tu) tl i=kH hd (gl (fun p=>jg (aC m q x p)) hn he wt af tu) tl i:=by rw[ZF]
theorem Nv.Ok.put{u:Nv}(h:u.Ok){q:Nat}{x:Mg}(hx:x.B.Ok):{u with m:=aC u.m q x}.Ok:=⟨fun p hp=>by
 show(aC u.m q x p).B.Ok;unfold aC;split
 ·exact hx
 ·exact h.ok p hp,h.nil,h.cap,h.max,h.len,h.s0,h.s1,h.i5,h.Sn⟩
theorem Nv.In.put{w:tF}{N:Nat}{u:Nv}(h:u.In w N){q:Nat}{x:Mg}(hx:oo w x):{u with m:=aC u.m q x}.In w N:=⟨h.row,fun p hp=>by
 show oo w (aC u.m q x p);unfold aC;split
 ·exact hx
 ·exact h.mo p hp,h.af,h.wl⟩
theorem gi{α:Type}{p:α→Prop}{l:List α}{x:α}(h:∀r∈l,p r)(hx:p x):∀r∈l++[x],p r:=fun r hr=>by
 rcases List.mem_append.1 hr with hr|hr
 ·exact h r hr
 ·rw[List.mem_singleton.1 hr];exact hx
section
variable{w w':tF}{X N:Nat}{u u':Nv}{v v':Wv}{F F' U:tI}{r:Nd×Ws}{H':List bT}{G:tM}
theorem Dn.fin(hS:Mem w' (⟨N,126,206,mj X u'⟩::H') (fun b=>F' b∨(U b∧b≠N)) G (RW X (fun b=>b∈[N]) F w v' F'))(hU:∀b,U b→b<w.heap.size)(hUN:U N)(AZ:∀w,G w→u'.In w N∧∀r∈v'.fl,oh w r)(ok:u'.Ok)(e1:u'.wt=u.wt)(e2:u'.wl=u.wl)(e3:v'.nd=v.nd)(e4:v'.tk=v.tk)(e5:v'.dd=v.dd)(en:u'.pure=r.1)(es:v'.pure=r.2):Dn w X N u v F U r u' v' F' w':=by
 have hr:=hS.now.2;refine⟨⟨hS.at 0 rfl,hr.wo,fun hf=>hS.off _ (List.mem_cons_self ..) (.inl hf),fun b hb=>hb.elim (fun h=>Nat.lt_of_lt_of_le (hU b h) hr.mv.c.size) (hr.wo.lt b),fun b hb=> .inr hb,.inl hUN,ok,fun w2 c2=>AZ w2 (hS.g w2 (c2.mono fun b hb=> ?_))⟩,hr.mv.less (fun b hb=>hb.imp id List.mem_singleton.1) (fun b hb=> .inl (hb.imp id List.mem_singleton.2)),e1,e2,e3,e4,e5,en,es⟩;rcases hb with hb|hb
 ·by_cases e:b=N
  ·exact .inl (e▸List.mem_cons_self ..)
  ·exact .inr (.inr ⟨hb,e⟩)
 ·exact .inr (.inl hb)
theorem NW.init(h:NW w X N u v F U){G:tM}(g:bU U w G):Mem w [⟨N,126,206,mj X u⟩] (fun b=>F b∨(U b∧b≠N)) (fun w=>(u.In w N∧∀r∈v.fl,oh w r)∧G w) (RW X (fun b=>b∈[N]) F w v F):=by
 refine Mem.init (T:=fun b=>U b∧b≠N) h.wo (fun e he=>by cases List.mem_singleton.1 he;exact h.nb) (by simp) (fun e he=>by cases List.mem_singleton.1 he;exact fun hm=>hm.elim h.nf fun hm=>hm.2 rfl) (fun b hb=>h.ub b hb.1) fun w2 c2=> ?_;have c3:dB U w w2:=c2.mono fun b hb=>by
  rcases hb with hb|hb|hb
  ·rw[List.mem_singleton.1 hb];exact h.nu
  ·exact h.fu b hb
  ·exact hb.1
 exact⟨h.st w2 c3,g w2 c3⟩
end
section
variable{w w1 w':tF}{X N:Nat}{u u':Nv}{v v':Wv}{F F' U:tI}{r:Nd×Ws}
theorem NW.next(h:NW w X N u v F U)(b:bZ w w1):NW w1 X N u v F U:=⟨h.nb.next b,h.wo.next b,h.nf,fun x hx=>Nat.lt_of_lt_of_le (h.ub x hx) b.size,h.fu,h.nu,h.ok,h.st.next b⟩
theorem Dn.from(h:Dn w1 X N u v F U r u' v' F' w')(hl:∀b,F b→b<w.heap.size)(hN:N<w.heap.size)(b:bZ w w1):Dn w X N u v F U r u' v' F' w':=
 ⟨h.nw,(Mv.of (F:=fun b=>F b∨b=N) (fun x hx=>hx.elim (hl x) (fun e=>e▸hN)) b).trans h.mv,h.wt,h.wl,h.nd,h.tk,h.dd,h.n,h.s⟩
end
theorem Dn.next{w w' w2:tF}{X N:Nat}{u:Nv}{v:Wv}{F U:tI}{r:Nd×Ws}{u':Nv}{v':Wv}{F':tI}(h:Dn w X N u v F U r u' v' F' w')(b:bZ w' w2):Dn w X N u v F U r u' v' F' w2:=
 ⟨h.nw.next b,h.mv.next b,h.wt,h.wl,h.nd,h.tk,h.dd,h.n,h.s⟩
theorem NW.less{w:tF}{X N:Nat}{u:Nv}{v:Wv}{F U V:tI}(h:NW w X N u v F U)(hV:∀b,V b→U b)(hF:∀b,F b→V b)(hN:V N):NW w X N u v F V:=⟨h.nb,h.wo,h.nf,fun b hb=>h.ub b (hV b hb),hF,hN,h.ok,h.st.mono fun b _ hb=>hV b hb⟩
theorem Dn.trans{w w1 w2:tF}{X N:Nat}{u u1 u2:Nv}{v v1 v2:Wv}{F F1 F2 U:tI}{r r2:Nd×Ws}(h:Dn w X N u v F U r u1 v1 F1 w1)(k:Dn w1 X N u1 v1 F1 (fun b=>U b∨F1 b) r2 u2 v2 F2 w2):Dn w X N u v F U r2 u2 v2 F2 w2:=
 ⟨k.nw.less (fun _ hb=>hb.imp .inl id) (fun _ hb=> .inr hb) (h.nw.nu.elim .inl fun hf=>absurd hf h.nw.nf),h.mv.trans k.mv,k.wt.trans h.wt,k.wl.trans h.wl,k.nd.trans h.nd,k.tk.trans h.tk,k.dd.trans h.dd,k.n,k.s⟩
theorem Dn.to{w w':tF}{X N:Nat}{u u':Nv}{v v':Wv}{F F' U:tI}{r r':Nd×Ws}(h:Dn w X N u v F U r u' v' F' w')(e1:r.1=r'.1)(e2:r.2=r'.2):Dn w X N u v F U r' u' v' F' w':=⟨h.nw,h.mv,h.wt,h.wl,h.nd,h.tk,h.dd,h.n.trans e1,h.s.trans e2⟩
theorem yG{B B':Bt}{v:Ev}{an:An}{k:Bool}{er:Int}(h:cQ B v B' an k er)(ok:B.Ok):B'.Ok:=by
 cases h with
 |state h=>exact absurd ok h
 |fault h f hf h0=>exact Bt.dr
 |brk h hv hk=>exact Bt.dr
 |shut h hv hk hr=>exact ok
 |none h hv hk hr=>exact ok
 |same h hv hk hr s bw ht s' rG st=>exact ok
 |full h hv hk hr s bw ht s' an st hl=>exact ok
 |done h hv hk hr s bw ht s' rG st hl=>
  refine⟨?_,by simp[Bt.more];omega,s',bw++[_],ht.snoc hv st⟩;have hs:=ok.cM;unfold Bt.cC bz at hs⊢;rcases hs with h|h|h|h|h
  ·exact absurd h.1 (by omega)
  ·exact .inr (.inl h)
  ·exact .inr (.inr (.inl h))
  ·exact .inr (.inr (.inr (.inl h)))
  ·exact .inr (.inr (.inr (.inr h)))
section
open Rv
theorem Ox(X N:Nat)(u:Nv)(v:Wv)(F U:tI)(w:tF)(hw:NW w X N u v F U)(m:Mg)(q:Nat)(hq:q<4)(okB:m.B.Ok)(c0 c1 c2:Nat)(hg:bU U w (fun w=>(((aZ w c0 117 47 (jg m))∧aZ w c1 109 1 (fun _=>lp N))∧aZ w c2 3 1 (fun _=>iV (q:Int)))∧oo w m)):cA 125 #[lp c0,lp c1,lp c2] w fun x w'=>x= .returned (.tuple #[])∧∃u' v' F',Dn w X N u v F U (eY u.pure v.pure (.ky q m.B)) u' v' F' w':=by
 exact en (H:=[nE X N u]) 10 [vv (lp c0),vv (lp c1),vv (lp c2)] Tryz.func125 rfl rfl (hw.init hg) (r [1] rfl fun _=>l1 rfl (lp N) (fun w hS=>hS.now.1.2.1.1.2.at 0 (cJ rfl)) (sv 3 (vp 0 0 N) rfl (r [] rfl fun _=>l1 rfl (iV (q:Int)) (fun w hS=>hS.now.1.2.1.2.at 0 (cJ rfl)) (r [] rfl fun _=>lf rfl 47 (jg m) (fun w hS j hj=>by rw[Nat.zero_add];exact hS.now.1.2.1.1.1.at j (by omega)) (r [1] rfl fun _=>so rfl rfl rfl 0 rfl (mj X {u with m:=aC u.m q m}) (fun i _=>(pC hq i).trans (s6 (x:=m) i)) (r [] rfl fun _=>dm rfl fun w hS=>⟨rfl,{u with m:=aC u.m q m},v,F,Dn.fin (u:=u) hS hw.ub hw.nu (fun _ h=>⟨h.1.1.put h.2.2,h.1.2⟩) (hw.ok.put okB) rfl rfl rfl rfl rfl (jT _ _ _) rfl⟩) (eD hg.now.2.one))))))
theorem Oy(X N:Nat)(u:Nv)(v:Wv)(F U:tI)(w:tF)(hw:NW w X N u v F U)(m:Mg)(P:Nat)(l:Lt)(a:tG)(c:Nat)(hq:l.q<4)(okB:m.B.Ok)(c0 c1 c2:Nat)(hg:bU U w (fun w=>((((aZ w c0 117 47 (jg m))∧aZ w c1 109 1 (fun _=>lp N))∧aZ w c2 171 1 (fun _=>lp P))∧oo w m)∧eM w P l a c))(hlen:v.fl.length≤1000000000000)(iE:v.sv.length≤1000000000000):cA 116 #[lp c0,lp c1,lp c2] w fun x w'=>x= .returned (.tuple #[])∧∃u' v' F',Dn w X N u v F U (eY u.pure v.pure (.begin l m.B)) u' v' F' w':=by
 have lG:=hg.now.1.2.one;refine en (H:=[nE X N u]) 19 [vv (lp c0),vv (lp c1),vv (lp c2)] Tryz.func116 rfl rfl (hw.init hg) (r [1] rfl fun _=>l1 rfl (lp N) (fun w hS=>hS.now.1.2.1.1.1.2.at 0 (cJ rfl)) (sv 3 (vp 0 0 N) rfl (r [] rfl fun _=>l1 rfl (lp P) (fun w hS=>hS.now.1.2.1.1.2.at 0 (cJ rfl)) (r [] rfl fun _=>l1 rfl (iV (l.q:Int)) (fun w hS=>hS.now.1.2.2.b.at 3 (cJ rfl)) (r [] rfl fun _=>lf rfl 47 (jg m) (fun w hS j hj=>by rw[Nat.zero_add];exact hS.now.1.2.1.1.1.1.at j (by omega)) (r [1] rfl fun _=>so rfl rfl rfl 0 rfl (mj X {u with m:=aC u.m l.q m}) (fun i _=>(pC hq i).trans (s6 (x:=m) i)) ?_ (eD lG)))))));refine r [1] rfl fun _=>l1 rfl (lp N) (fun w hS=>hS.now.1.2.1.1.1.2.at 0 (cJ rfl)) (r [] rfl fun _=>l1 rfl (lp P) (fun w hS=>hS.now.1.2.1.1.2.at 0 (cJ rfl)) (r [] rfl fun _=>l1 rfl (iV (l.q:Int)) (fun w hS=>hS.now.1.2.2.b.at 3 (cJ rfl)) (r [] rfl fun _=> ?_)));exact cw rfl (vt []) _ _ (fun w1 hS=>EN X v F _ w1 N ({u with m:=aC u.m l.q m}) l.q hq (show a7 (aC u.m l.q m l.q).g 41 by rw[aJ];exact lG) hS.now.2.wo hS.ult (fun b h=> .inr (.inl h)) (fun w2 c2=>(hS.xT 0 rfl w2 (c2.mono fun b h=> .inl h)).2) hlen) fun P1 F1=>r [] rfl fun _=>dm rfl fun w hS=>⟨rfl,{u with m:=aC u.m l.q m},_,F1,Dn.fin (u:=u) hS hw.ub hw.nu (fun _ h=>⟨h.1.1.1.put h.1.2.1.2,gi h.1.1.2 h.2⟩) (hw.ok.put okB) rfl rfl rfl rfl rfl (jT _ _ _) (by rw[ki];simp only[eY,AH,aJ])⟩
theorem Oz(X N:Nat)(u:Nv)(v:Wv)(F U:tI)(w:tF)(hw:NW w X N u v F U)(P:Nat)(l:Lt)(a:tG)(c:Nat)(an:An)(hq:l.q<4)(hop:∀x∈aX l.op,(Lit.int .i64 x).wf=true)(c0 c1 c2 c3:Nat)(hg:bU U w (fun w=>((((aZ w c0 109 1 (fun _=>lp N))∧aZ w c1 3 1 (fun _=>iV (l.q:Int)))∧aZ w c2 171 1 (fun _=>lp P))∧aZ w c3 59 4 (lF (anL an)))∧eM w P l a c))(hlen:v.fl.length≤1000000000000)(iE:v.sv.length≤1000000000000):cA 112 #[lp c0,lp c1,lp c2,lp c3] w fun x w'=>x= .returned (.tuple #[])∧∃u' v' F',Dn w X N u v F U (eY u.pure v.pure (.serve l an)) u' v' F' w':=by
 have lG:=(hw.st.now.1.mo l.q hq).one;refine en (H:=[nE X N u]) 31 [vv (lp c0),vv (lp c1),vv (lp c2),vv (lp c3)] Tryz.func112 rfl rfl (hw.init hg) ?_;refine r [4] rfl fun _=>l1 rfl (lp N) (fun w hS=>hS.now.1.2.1.1.1.1.at 0 (cJ rfl)) (sv 5 (vp 0 0 N) rfl (r [] rfl fun _=>l1 rfl (iV (l.q:Int)) (fun w hS=>hS.now.1.2.1.1.1.2.at 0 (cJ rfl)) (r [] rfl fun _=>l1 rfl (lp N) (fun w hS=>hS.now.1.2.1.1.1.1.at 0 (cJ rfl)) (sv 7 (vp 0 0 N) rfl (r [] rfl fun _=>l1 rfl (iV (l.q:Int)) (fun w hS=>hS.now.1.2.1.1.1.2.at 0 (cJ rfl)) ?_)))));refine r [1] rfl fun _=>lo rfl rfl 0 rfl 47 (jg (u.m l.q)) (fun i hi=>oc hq hi) (r [] rfl fun _=>l1 rfl (lp P) (fun w hS=>hS.now.1.2.1.1.2.at 0 (cJ rfl)) (r [] rfl fun _=>lf rfl 6 (lF [iV l.op.k,iV l.op.p,iV l.op.i,iV l.op.b,iV l.op.he,iV l.op.hn]) (fun w hS j hj=>(hS.now.1.2.2.b.at (5+j) (by omega)).trans (congrArg some (qI rfl hj))) (r [] rfl fun _=> ?_)));refine cx rfl (fun y:Mg×An×Bool×Int=>vt [.g [.f 47 (jg y.1)],.g (Pw y.2.1),.o (.bool y.2.2.1),.o (iV y.2.2.2)]) (fun y=>cQ (u.m l.q).B l.op y.1.B y.2.1 y.2.2.1 y.2.2.2∧a7 y.1.g 41) (fun y w=>oo w y.1) (fun w hS=>(zX _ (u.m l.q).B (u.m l.q).a (u.m l.q).c (u.m l.q).g l.op w hS.ult (fun w2 c2=>(hS.g w2 c2).1.1.mo l.q hq) (hw.ok.ok l.q hq) hop).mono fun _ _ ⟨_,an,k,er,B8,h0,h1,⟨a8,c8,g8,hy,hm8⟩,b⟩=>⟨(⟨B8,a8,c8,g8⟩,an,k,er),by rw[h0,hy];rfl,b,⟨h1,hm8.now.one⟩,fun _=>hm8⟩) ?_;rintro⟨m8,an8,k8,er8⟩ ⟨Lx,o8⟩;have e8:=sB Lx;refine r [1] rfl fun _=>so rfl rfl rfl 0 rfl (mj X {u with m:=aC u.m l.q m8}) (fun i _=>(pC hq i).trans (s6 (x:=m8) i)) (r [] rfl fun _=>l1 rfl (lp N) (fun w hS=>hS.now.1.1.2.1.1.1.1.at 0 (cJ rfl)) (r [] rfl fun _=>l1 rfl (lp P) (fun w hS=>hS.now.1.1.2.1.1.2.at 0 (cJ rfl)) (r [] rfl fun _=>lf rfl 4 (lF [iV an.c,iV an.he,iV an.no,iV an.bd]) (fun w hS j hj=>by rw[Nat.zero_add];exact hS.now.1.1.2.1.2.at j (by omega)) (r [] rfl fun _=> ?_)))) (eD o8);exact cw rfl (vt []) _ _ (fun w1 hS=>xg X v F _ w1 N ({u with m:=aC u.m l.q m8}) P l a c an hq hS.now.2.wo hS.ult (fun b h=> .inr (.inl h)) (fun w2 c2=>(hS.xT 0 rfl w2 (c2.mono fun b h=> .inl h)).2) (fun w2 c2=>(hS.g w2 c2).1.2.2) hlen iE) fun P1 F1=>r [] rfl fun _=>dm rfl fun w hS=>⟨rfl,{u with m:=aC u.m l.q m8},_,F1,Dn.fin (u:=u) hS hw.ub hw.nu (fun _ h=>⟨h.1.1.1.1.put h.1.2,gi h.1.1.1.2 h.2⟩) (hw.ok.put (yG Lx (hw.ok.ok l.q hq))) rfl rfl rfl rfl rfl (by rw[jT];simp only[eY,e8]) (by rw[AJ];simp only[eY,jE,qj,e8,aJ])⟩
theorem OA(X N:Nat)(u:Nv)(v:Wv)(F U:tI)(w:tF)(hw:NW w X N u v F U)(m:Mg)(q:Nat)(hq:q<4)(okB:m.B.Ok)(hg:bU U w (fun w=>oo w m))(hlen:v.fl.length≤1000000000000)(iE:v.sv.length≤1000000000000):cA 123 #[lp N,iV (q:Int),vF (jg m) 47] w fun x w'=>x= .returned (.tuple #[])∧∃u' v' F',Dn w X N u v F U (({u.pure with mo:=aC u.pure.mo q m.B},if m.B.r=1 then qj v.pure {u.pure with mo:=aC u.pure.mo q m.B} q Ev.brk Hv (-1)else AH {u.pure with mo:=aC u.pure.mo q m.B} v.pure q)) u' v' F' w':=by
 have lG:=hg.now.one;refine en (H:=[nE X N u]) 25 [vp 0 0 N,vi q,vg (pU m.B m.a m.c m.g)] Tryz.func123 rfl rfl (hw.init hg) (r [1,1] rfl fun α=>so rfl rfl rfl 0 rfl (mj X {u with m:=aC u.m q m}) (fun i _=>(pC hq i).trans (s6 (x:=m) i)) ?_ (eD lG));by_cases uk:m.B.r=1
 ·refine r [1] rfl fun _=>cw (Y:=Unit) rfl (vt []) (fun _=>{v with sv:=v.sv++[⟨u.i,q,(aC u.m q m q).B.e,Ev.brk,Hv,-1⟩]}) (fun _ _=>True) (fun w1 hS=>(xe X v F w1 N ({u with m:=aC u.m q m}) q hq Ev.brk Hv (-1) hS.now.2.wo (fun w2 c2=>(hS.xT 0 rfl w2 (c2.mono fun b h=> .inl h)).2) iE).mono fun _ _ ⟨h1,F',h2,h3⟩=>⟨h1,(),F',h2,h3,fun _ _=>trivial⟩) (fun _ F1=>r [] rfl fun _=>fin fun w hS=> ?_);exact⟨rfl,{u with m:=aC u.m q m},_,F1,Dn.fin (u:=u) (hS.take 1) hw.ub hw.nu (fun _ h=>⟨h.1.1.1.put h.1.2,h.1.1.2⟩) (hw.ok.put okB) rfl rfl rfl rfl rfl (jT _ _ _) (by rw[if_pos uk];simp only[qj,aJ])⟩
 ·refine r [0] rfl fun _=>cw rfl (vt []) _ _ (fun w1 hS=>EN X v F _ w1 N ({u with m:=aC u.m q m}) q hq (show a7 (aC u.m q m q).g 41 by rw[aJ];exact lG) hS.now.2.wo hS.ult (fun b h=> .inr (.inl h)) (fun w2 c2=>(hS.xT 0 rfl w2 (c2.mono fun b h=> .inl h)).2) hlen) fun P1 F1=>r [] rfl fun _=>dm rfl fun w hS=> ?_;exact⟨rfl,{u with m:=aC u.m q m},_,F1,Dn.fin (u:=u) (hS.take 1) hw.ub hw.nu (fun _ h=>⟨h.1.1.1.put h.1.2,gi h.1.1.2 h.2⟩) (hw.ok.put okB) rfl rfl rfl rfl rfl (jT _ _ _) (by rw[if_neg uk,ki];simp only[AH,aJ])⟩
theorem Ss(X N:Nat)(u:Nv)(v:Wv)(F U:tI)(w:tF)(hw:NW w X N u v F U)(m:Mg)(P:Nat)(l:Lt)(a:tG)(c:Nat)(hq:l.q<4)(okB:m.B.Ok)(c0 c1 c2:Nat)(hg:bU U w (fun w=>((((aZ w c0 109 1 (fun _=>lp N))∧aZ w c1 171 1 (fun _=>lp P))∧aZ w c2 117 47 (jg m))∧oo w m)∧eM w P l a c))(hlen:v.fl.length≤1000000000000)(iE:v.sv.length≤1000000000000):cA 122 #[lp c0,lp c1,lp c2] w fun x w'=>x= .returned (.tuple #[])∧∃u' v' F',Dn w X N u v F U (eY u.pure v.pure (.take l m.B)) u' v' F' w':=by
 have hb:=hw.ub;refine en (H:=[]) 10 [vv (lp c0),vv (lp c1),vv (lp c2)] Tryz.func122 rfl rfl (pP hb hg) (r [1] rfl fun _=>l1 rfl (lp N) (fun w hS=>hS.now.1.1.1.1.1.at 0 (cJ rfl)) (r [] rfl fun _=>l1 rfl (lp P) (fun w hS=>hS.now.1.1.1.1.2.at 0 (cJ rfl)) (r [] rfl fun _=>l1 rfl (iV (l.q:Int)) (fun w hS=>hS.now.1.2.b.at 3 (cJ rfl)) (r [] rfl fun _=>lf rfl 47 (jg m) (fun w hS j hj=>by rw[Nat.zero_add];exact hS.now.1.1.1.2.at j (by omega)) (r [] rfl fun _=> ?_)))));exact ct (Y:=Nv×Wv×(Nat→Prop)) rfl (vt []) (fun y w'=>Dn w X N u v F U (eY u.pure v.pure (.take l m.B)) y.1 y.2.1 y.2.2 w') (fun w1 hS=>(OA X N u v F U w1 (hw.next hS.now.2) m l.q hq okB (fun w2 c2=>(hg.next hS.now.2 w2 c2).1.2) hlen iE).mono fun _ _ ⟨h1,u',v',F',hd⟩=>⟨h1,(u',v',F'),hd.from hw.wo.lt hw.nb.lt hS.now.2⟩) (fun _ _ _ h b=>h.next b) fun y=>r [] rfl fun _=>dm rfl fun _ hS=>⟨rfl,y.1,y.2.1,y.2.2,hS.now.2⟩
structure L6(w w':tF)(l:List Ev)(a:tG)(c:Nat):Prop where
 row:RowK .i64 w' a (6*l.length) (ak l)
 cap:l.length≤c
 nil:a=none→c=0
 up:∀x,a=some x→w.heap.size≤x.block
theorem OB(B:Bt)(a:tG)(c:Nat)(hv:Int)(w:tF)(hb:ja w B a c):
  cA 207 #[bQ B.r B.e B.f B.t B.o a B.es.length c,iV hv] w fun x w'=>∃a' c' n' l lt er,x= .returned (.tuple #[.slice a' n' c',.bool lt,iV er])∧n'=l.length∧partOf B hv=(l,lt,er)∧L6 w w' l a' c'∧bZ w w':=by
 refine en (H:=[]) _ [vg (bS B.r B.e B.f B.t B.o a B.es.length c),vi hv] Tryz.func207 rfl rfl (Gy hb) (r [] rfl fun _=>Rv.cb rfl (vi (dq B hv)) (fun w hS=>xC B a c hv w hS.now.1) ?_);unfold partOf;by_cases h0:dq B hv=0
 case neg=>exact r [1] rfl fun _=>fin fun w hS=>⟨none,0,0,[],false,_,rfl,rfl,if_pos h0,⟨RowK.nil _ _ _,Nat.le_refl _,fun _=>rfl,fun _ h=>(by cases h)⟩,hS.now.2⟩
 rw[if_neg (not_not_intro h0)];obtain⟨ok,hr,hv0,MM⟩:=Ct h0;have hl:=ok.len;obtain⟨k,rfl⟩:∃k:Nat,hv=k:=⟨hv.toNat,by omega⟩;have hk:k≤B.es.length:=by omega
 obtain⟨m,hm⟩:∃m,m=min (k+3) B.es.length:=⟨_,rfl⟩;have yL:k≤m:=by omega
 have hml:m≤B.es.length:=by omega
 have ail:=hb.cap;have e3:(B.es.drop ((k:Int)).toNat).take 3=(B.es.drop k).take (m-k):=by
  rw[Int.toNat_natCast];by_cases h:k+3≤B.es.length
  ·rw[show m-k=3 by omega]
  ·rw[List.take_of_length_le (by rw[List.length_drop];omega),List.take_of_length_le (by rw[List.length_drop];omega)]
 have BH:((B.es.drop k).take (m-k)).length=m-k:=by rw[List.length_take,List.length_drop];omega
 have call:∀w1,bZ w w1→ja w1 B a c→cA 212 #[.slice none 0 0,.slice (gQ a k 6 c) (m-k) (c-k)] w1 fun x w'=>∃y:Option Addr×Nat,x= .returned (vv (.slice y.1 (m-k) y.2)).val∧bZ w1 w'∧(xX w y∧(y.1=none→y.2=0)∧m-k≤y.2)∧∀{U:tI},(∀b,U b→b<w1.heap.size)→bU U w' fun w=>RowK .i64 w y.1 (6*(m-k)) (ak ((B.es.drop k).take (m-k))):=fun w1 h0 hb=>by
  have hrw:=VY hb.row hb.nil k m yL hml hb.cap;refine(zR none (gQ a k 6 c) 0 0 (m-k) (c-k) [] (ak ((B.es.drop k).take (m-k))) w1 (RowK.nil _ _ _) hrw.1 (fun _=>rfl) hrw.2 (by omega)).mono ?_;rintro _ w' ⟨a2,c2,rfl,hr2,kz,rU,hf2,b⟩;rw[Nat.zero_add]at hr2 kz;exact⟨(a2,c2),by rw[Nat.zero_add];rfl,b,⟨fun x hx=>Nat.le_trans h0.size (hf2 x hx),rU,kz⟩,fun hU=>cD hr2 hf2 hU⟩
 have er:∀b:Bool,decide (B.r=3∧B.es.length≤(k:Int).toNat+3)=b→((B.es.drop ((k:Int)).toNat).take 3,decide (B.r=3∧B.es.length≤(k:Int).toNat+3),(0:Int))=((B.es.drop k).take (m-k),b,0):=fun b h=>by rw[e3,h]
 have cs:(¬B.r=3∧decide (B.r=3∧B.es.length≤(k:Int).toNat+3)=false)∨((B.r=3∧m=B.es.length)∧decide (B.r=3∧B.es.length≤(k:Int).toNat+3)=true)∨((B.r=3∧¬m=B.es.length)∧decide (B.r=3∧B.es.length≤(k:Int).toNat+3)=false):=by
  by_cases h3:B.r=3
  ·by_cases Su:m=B.es.length
   ·exact .inr (.inl ⟨⟨h3,Su⟩,decide_eq_true (by omega)⟩)
   ·exact .inr (.inr ⟨⟨h3,Su⟩,decide_eq_false (by omega)⟩)
  ·exact .inl ⟨h3,decide_eq_false fun h=>h3 h.1⟩
 rcases cs with⟨h3,hd⟩|⟨⟨h3,Su⟩,hd⟩|⟨⟨h3,Su⟩,hd⟩
 case' inl=>refine rz [0,1,2,4,0] [((k+3:Nat):Int),(m:Int)] rfl fun _=> ?_
 case' inr.inl=>refine rz [0,1,2,4,1] [((k+3:Nat):Int),(m:Int)] rfl fun _=> ?_
 case' inr.inr=>refine rz [0,1,2,4,1] [((k+3:Nat):Int),(m:Int)] rfl fun _=> ?_
 all_goals
  refine cx rfl (fun y:Option Addr×Nat=>vv (.slice y.1 (m-k) y.2)) (fun y=>xX w y∧(y.1=none→y.2=0)∧m-k≤y.2) (fun y w=>RowK .i64 w y.1 (6*(m-k)) (ak ((B.es.drop k).take (m-k)))) (fun w1 hS=>(call w1 hS.now.2 hS.now.1).mono fun _ _ ⟨y,k1,k2,k3,k4⟩=>⟨y,k1,k2,k3,k4⟩) fun y hy=> ?_;have f9:∀{w2:tF} {M:tI} {Φ:tM} {H:List En},Mem w2 (hs H) M (fun w=>Φ w∧RowK .i64 w y.1 (6*(m-k)) (ak ((B.es.drop k).take (m-k)))) (fun w'=>bZ w w')→L6 w w2 ((B.es.drop k).take (m-k)) y.1 y.2:=fun hS=>⟨by rw[BH];exact hS.now.1.2,by rw[BH];exact hy.2.2,hy.2.1,hy.1⟩
  first|exact r [] rfl fun _=>fin fun w hS=>⟨_,_,m-k,_,_,0,rfl,BH.symm,er _ hd,f9 hS,hS.now.2⟩|exact r [1] rfl fun _=>fin fun w hS=>⟨_,_,m-k,_,_,0,rfl,BH.symm,er _ hd,f9 hS,hS.now.2⟩|exact r [0] rfl fun _=>fin fun w hS=>⟨_,_,m-k,_,_,0,rfl,BH.symm,er _ hd,f9 hS,hS.now.2⟩
theorem Sv:∀(es:List Ev) (k:Nat),ak (es.take k)=(ak es).take (6*k)
 |[],k=>by simp[ak]
 |e::es,0=>by simp[ak]
 |e::es,k+1=>by
  have:=Sv es k;simp only[ak,List.take_succ_cons,List.flatMap_cons]at this⊢;rw[this,List.take_append,show(aX e).length=6 from rfl,List.take_of_length_le (show(aX e).length≤6*(k+1) by show 6≤_;omega),show 6*(k+1)-6=6*k by omega]
theorem vK{w:tF}{a:tG}{c k m:Nat}{es:List Ev}(h:RowK .i64 w a (6*es.length) (ak es))(hk:k+m≤es.length)(hc:es.length≤c):RowK .i64 w (gQ a k 6 c) (6*m) (ak ((es.drop k).take m)):=by
 have e:ak ((es.drop k).take m)=((ak es).drop (6*k)).take (6*m):=by rw[Sv,qU]
 have hl:=h.cB;rw[e];refine⟨by rw[List.length_take,List.length_drop,hl];omega,fun u hu=>h.wf u (List.mem_of_mem_drop (List.mem_of_mem_take hu)),fun i hi=> ?_⟩;obtain⟨b,off,e1,hb,hc'⟩:=h.cell (6*k+i) (by omega);refine⟨b,off+k*6, ?_,hb, ?_⟩
 ·unfold gQ;rw[if_neg (by omega),e1];simp[Addr.add_mid]
 ·rw[show off+k*6+i=off+(6*k+i) by omega,hc'];simp[List.getD_eq_getElem?_getD,List.getElem?_drop,hi]
theorem Sw{B:Bt}{hv:Int}(h:dq B hv=0):∃k:Nat,hv=k∧k≤B.es.length:=by
 unfold dq at h;split at h
 ·cases h
 ·split at h
  ·cases h
  ·split at h
   ·cases h
   ·rename_i h3;exact⟨hv.toNat,by omega,by omega⟩
theorem OC{B:Bt}{hv:Int}{l:List Ev}{lt:Bool}{er:Int}(h:partOf B hv=(l,lt,er)):dq B hv=er:=by
 unfold partOf at h;split at h
 ·cases h;rfl
 ·rename_i h0;cases h;exact Classical.not_not.1 h0
theorem OD(B:Bt)(a:tG)(c:Nat)(hv:Int)(w:tF)(hb:ja w B a c):cA 207 #[bQ B.r B.e B.f B.t B.o a (min 1 B.es.length) c,iV hv] w fun x w'=>∃a' c' n' lt er,x= .returned (.tuple #[.slice a' n' c',.bool lt,iV er])∧dq B.short hv=er∧bZ w w':=by
 have e:min 1 B.es.length=B.short.es.length:=by simp[Bt.short]
 rw[e];refine(OB B.short a c hv w (wF hb)).mono ?_;rintro _ w' ⟨a',c',n',l,lt,er,rfl,_,hp,_,b⟩;exact⟨a',c',n',lt,er,rfl,OC hp,b⟩
theorem Wh{B:Bt}{hv er:Int}(h:dq B hv=er)(h0:¬er=0):partOf B hv=([],false,er):=by
 unfold partOf;rw[h,if_pos h0]
theorem EO{B:Bt}{k e:Nat}{lt:Bool}(h:dq B (k:Int)=0)(he:min 3 (B.es.length-k)=e-k)(hl:decide (B.r=3∧B.es.length≤k+3)=lt):partOf B (k:Int)=((B.es.drop k).take (e-k),lt,0):=by
 unfold partOf;rw[h,if_neg (fun h=>h rfl),Int.toNat_natCast,hl,←he];congr 1;by_cases h3:3≤B.es.length-k
 ·rw[Nat.min_eq_left h3]
 ·rw[Nat.min_eq_right (by omega),List.take_of_length_le (by rw[List.length_drop];omega),List.take_of_length_le (by rw[List.length_drop];omega)]
theorem OE(U:tI)(B:Bt)(a:tG)(c:Nat)(q:tH)(hv:Int)(w:tF)(hU:∀b,U b→b<w.heap.size)(hm:bU U w fun w=>jW w B a c q)(ok:B.Ok):cA 168 #[zU B a c q,iV hv] w fun x w'=>∃a' c' n' l lt er,x= .returned (.tuple #[.slice a' n' c',.bool lt,iV er])∧n'=l.length∧partOf B hv=(l,lt,er)∧bU U w' (fun w=>RowK .i64 w a' (6*n') (ak l))∧n'≤c'∧(a'=none→c'=0)∧bZ w w':=by
 have oq:=hm.now.one;have hc:=hm.now.b.cap;refine en (H:=[]) _ [vg (pU B a c q),vi hv] Tryz.func168 rfl rfl (pP hU hm) (r [] rfl fun _=>Rv.cb rfl (vt [.g (bS B.r B.e B.f B.t B.o a (min 1 B.es.length) c),.o (iV (kW hv B.es.length))]) (fun w _=>xE B.r B.e B.f B.t B.o a B.es.length c q hv w hc) (r [] rfl fun _=> ?_));refine cq rfl (fun y:Option Addr×Nat×Nat×Bool×Int=>vt [.o (.slice y.1 y.2.1 y.2.2.1),.o (.bool y.2.2.2.1),.o (iV y.2.2.2.2)]) (fun y=>dq B hv=y.2.2.2.2) (fun w hS=>(OD B a c (kW hv B.es.length) w hS.now.1.b).mono fun _ w3 ⟨a1,c1,n1,lt1,er,h0,h1,b⟩=>⟨(a1,n1,c1,lt1,er),h0,b,by rw[zV ok]at h1;exact h1⟩) ?_;rintro⟨a1,n1,c1,lt1,er⟩ h1;have h1:dq B hv=er:=h1;by_cases h0:er=0
 case neg=>exact r [1] rfl fun _=>fin fun w hS=>⟨none,0,0,[],false,er,rfl,rfl,Wh h1 h0,fun _ _=>RowK.nil _ _ _,Nat.le_refl _,fun _=>rfl,hS.now.2⟩
 subst h0;obtain⟨k,rfl,hk⟩:=Sw h1;have hlen:=ok.len;obtain⟨e,he⟩:∃e,e=k+min 3 (B.es.length-k):=⟨_,rfl⟩;have el:((B.es.drop k).take (e-k)).length=e-k:=by rw[List.length_take,List.length_drop];omega
 have cs:(¬B.r=3∧decide (B.r=3∧B.es.length≤k+3)=false)∨((B.r=3∧e=B.es.length)∧decide (B.r=3∧B.es.length≤k+3)=true)∨((B.r=3∧¬e=B.es.length)∧decide (B.r=3∧B.es.length≤k+3)=false):=by
  by_cases h3:B.r=3
  ·by_cases Su:e=B.es.length
   ·exact .inr (.inl ⟨⟨h3,Su⟩,decide_eq_true (by omega)⟩)
   ·exact .inr (.inr ⟨⟨h3,Su⟩,decide_eq_false (by omega)⟩)
  ·exact .inl ⟨h3,decide_eq_false fun h=>h3 h.1⟩
 rcases cs with⟨h3,hd⟩|⟨⟨h3,Su⟩,hd⟩|⟨⟨h3,Su⟩,hd⟩
 case' inl=>refine rz [0,1,2,4,0] [((k+3:Nat):Int),(e:Int)] rfl fun _=> ?_
 case' inr.inl=>refine rz [0,1,2,4,1] [((k+3:Nat):Int),(e:Int)] rfl fun _=> ?_
 case' inr.inr=>refine rz [0,1,2,4,1] [((k+3:Nat):Int),(e:Int)] rfl fun _=> ?_
 all_goals
  refine cx rfl (fun y:Option Addr×Nat=>vv (.slice y.1 (e-k) y.2)) (fun y=>e-k≤y.2∧(y.1=none→y.2=0)) (fun y w=>RowK .i64 w y.1 (6*(e-k)) (ak ((B.es.drop k).take (e-k)))) (fun w hS=>(Cn (gQ a k 6 c) (e-k) (c-k) (ak ((B.es.drop k).take (e-k))) w (vK hS.now.1.b.row (by omega) hc) (fun h=>by rw[hS.now.1.b.nil (xd h)];omega) (by omega)).mono ?_) fun y hy=> ?_
  ·rintro _ w5 ⟨_,rfl,⟨⟨a8,c8,rfl,r8,E_,Sd,hf8⟩⟩,b⟩;exact⟨(a8,c8),rfl,b,⟨E_,Sd⟩,fun hl=>cD r8 hf8 hl⟩
  first|exact r [] rfl fun _=>fin fun w hS=>⟨y.1,y.2,e-k,(B.es.drop k).take (e-k),_,0,rfl,el.symm,EO h1 (by omega) hd,fun w2 c2=>(hS.DO w2 c2).2,hy.1,hy.2,hS.now.2⟩|exact r [1] rfl fun _=>fin fun w hS=>⟨y.1,y.2,e-k,(B.es.drop k).take (e-k),_,0,rfl,el.symm,EO h1 (by omega) hd,fun w2 c2=>(hS.DO w2 c2).2,hy.1,hy.2,hS.now.2⟩|exact r [0] rfl fun _=>fin fun w hS=>⟨y.1,y.2,e-k,(B.es.drop k).take (e-k),_,0,rfl,el.symm,EO h1 (by omega) hd,fun w2 c2=>(hS.DO w2 c2).2,hy.1,hy.2,hS.now.2⟩
theorem Wi(X N:Nat)(u:Nv)(v:Wv)(F U:tI)(w:tF)(hw:NW w X N u v F U)(q:Nat)(hq:q<4)(hv:Int)(hlen:v.fl.length≤1000000000000)(iE:v.sv.length≤1000000000000):cA 119 #[lp N,iV (q:Int),iV hv] w fun x w'=>x= .returned (.tuple #[])∧∃u' v' F',Dn w X N u v F U ((u.pure,uj u.pure v.pure q hv)) u' v' F' w':=by
 have lG:=(hw.st.now.1.mo q hq).one;have gZ:=jx (hw.ok.ok q hq).cM;refine en (H:=[nE X N u]) 47 [vp 0 0 N,vi q,vi hv] Tryz.func119 rfl rfl (hw.init (G:=fun _=>True) fun _ _=>trivial) (r [1] rfl fun _=>lo rfl rfl 0 rfl 47 (jg (u.m q)) (fun i hi=>oc hq hi) (sv 16 (vg (pU (u.m q).B (u.m q).a (u.m q).c (u.m q).g)) rfl (r [] rfl fun α=> ?_)));refine cx rfl (fun y:List Ev×Option Addr×Nat×Bool×Int=>vt [.o (.slice y.2.1 y.1.length y.2.2.1),.o (.bool y.2.2.2.1),.o (iV y.2.2.2.2)]) (fun y=>partOf (u.m q).B hv=(y.1,y.2.2.2.1,y.2.2.2.2)∧y.1.length≤y.2.2.1∧(y.2.1=none→y.2.2.1=0)) (fun y w=>RowK .i64 w y.2.1 (6*y.1.length) (ak y.1)) (fun w hS=>(OE _ (u.m q).B (u.m q).a (u.m q).c (u.m q).g hv w hS.ult (fun w2 c2=>(hS.g w2 c2).1.1.mo q hq) (hw.ok.ok q hq)).mono fun _ _ ⟨a8,c8,n8,es8,lt8,er8,h0,h1,hp8,hr8,E_,Sd,b⟩=>by subst h1;exact⟨(es8,a8,c8,lt8,er8),h0,b,⟨hp8,E_,Sd⟩,fun _=>hr8⟩) ?_;rintro⟨es8,a8,c8,lt8,er8⟩ ⟨hp8,E_,Sd⟩;have hp8:partOf (u.m q).B hv=(es8,lt8,er8):=hp8;by_cases h0:er8=0
 ·subst h0;refine rz [1,1,1] [(u.m q).B.e+1] rfl fun _=>cw rfl (vt []) _ _ (fun w hS=>rJ X v F _ w (KE u.i (u.m q).B q hv es8 lt8) a8 c8 (lF (LY (KE u.i (u.m q).B q hv es8 lt8) a8 c8)) rfl hS.now.2.wo hS.ult (fun b h=> .inr (.inl h)) (fun w2 c2=>(hS.g w2 c2).2) E_ Sd hlen) fun P1 F1=>r [] rfl fun _=>dm rfl fun w hS=> ?_;exact⟨rfl,u,_,F1,Dn.fin (u:=u) (hS.take 1) hw.ub hw.nu (fun _ h=>⟨h.1.1.1.1,gi h.1.1.1.2 h.2⟩) hw.ok rfl rfl rfl rfl rfl rfl (by rw[ki];simp only[uj,hp8,if_pos])⟩
 ·refine r [0] rfl fun _=>dm rfl fun w hS=> ?_;exact⟨rfl,u,v,F,Dn.fin (u:=u) (hS.take 1) hw.ub hw.nu (fun _ h=>⟨h.1.1.1,h.1.1.2⟩) hw.ok rfl rfl rfl rfl rfl rfl (by simp only[uj,hp8,if_neg h0])⟩
theorem CM(X N:Nat)(u:Nv)(v:Wv)(F U:tI)(w:tF)(hw:NW w X N u v F U)(m:Mg)(P:Nat)(l:Lt)(a:tG)(c:Nat)(hq:l.q<4)(okB:m.B.Ok)(c0 c1 c2:Nat)(hg:bU U w (fun w=>((((aZ w c0 117 47 (jg m))∧aZ w c1 109 1 (fun _=>lp N))∧aZ w c2 171 1 (fun _=>lp P))∧oo w m)∧eM w P l a c))(hlen:v.fl.length≤1000000000000)(iE:v.sv.length≤1000000000000):cA 118 #[lp c0,lp c1,lp c2] w fun x w'=>x= .returned (.tuple #[])∧∃u' v' F',Dn w X N u v F U (eY u.pure v.pure (.shut l m.B)) u' v' F' w':=by
 have lG:=hg.now.1.2.one;refine en (H:=[nE X N u]) 23 [vv (lp c0),vv (lp c1),vv (lp c2)] Tryz.func118 rfl rfl (hw.init hg) (r [1] rfl fun _=>l1 rfl (lp N) (fun w hS=>hS.now.1.2.1.1.1.2.at 0 (cJ rfl)) (sv 3 (vp 0 0 N) rfl (r [] rfl fun _=>l1 rfl (lp P) (fun w hS=>hS.now.1.2.1.1.2.at 0 (cJ rfl)) (r [] rfl fun _=>l1 rfl (iV (l.q:Int)) (fun w hS=>hS.now.1.2.2.b.at 3 (cJ rfl)) (r [] rfl fun _=>lf rfl 47 (jg m) (fun w hS j hj=>by rw[Nat.zero_add];exact hS.now.1.2.1.1.1.1.at j (by omega)) (r [1] rfl fun _=>so rfl rfl rfl 0 rfl (mj X {u with m:=aC u.m l.q m}) (fun i _=>(pC hq i).trans (s6 (x:=m) i)) ?_ (eD lG)))))));refine r [1] rfl fun _=>l1 rfl (lp N) (fun w hS=>hS.now.1.2.1.1.1.2.at 0 (cJ rfl)) (r [] rfl fun _=>l1 rfl (lp P) (fun w hS=>hS.now.1.2.1.1.2.at 0 (cJ rfl)) (r [] rfl fun _=>l1 rfl (iV (l.q:Int)) (fun w hS=>hS.now.1.2.2.b.at 3 (cJ rfl)) (r [] rfl fun _=>l1 rfl (lp P) (fun w hS=>hS.now.1.2.1.1.2.at 0 (cJ rfl)) (r [] rfl fun _=>l1 rfl (iV l.pl) (fun w hS=>hS.now.1.2.2.b.at 18 (cJ rfl)) (r [] rfl fun _=> ?_)))));refine ct (Y:=Nv×Wv×(Nat→Prop)) rfl (vt []) (fun y w'=>Dn w X N u v F U (eY u.pure v.pure (.shut l m.B)) y.1 y.2.1 y.2.2 w') (fun w1 hS=> ?_) (fun _ _ _ h b=>h.next b) fun y=>r [] rfl fun _=>dm rfl fun _ hS=>⟨rfl,y.1,y.2.1,y.2.2,hS.now.2⟩;have Ke:=Dn.fin (r:=(_,v.pure)) (u:=u) (v:=v) (v':=v) (u':={u with m:=aC u.m l.q m}) (F:=F) (F':=F) hS hw.ub hw.nu (fun _ h=>⟨h.1.1.put h.2.1.2,h.1.2⟩) (hw.ok.put okB) rfl rfl rfl rfl rfl (jT _ _ _) rfl;exact(Wi X N ({u with m:=aC u.m l.q m}) v F _ _ Ke.nw l.q hq l.pl hlen iE).mono fun _ _ ⟨h1,u2,v2,F2,hd2⟩=>⟨h1,(u2,v2,F2),(Ke.trans hd2).to (jT _ _ _) (congrArg (fun n=>uj n v.pure l.q l.pl) (jT _ _ _))⟩
end
theorem vL{k:Int}{q:Nat}{ep pe:Int}(hk:1≤k∧k≤7)(KG:¬(k=2∨k=5))(hq:q<4)(he:0≤ep∧ep≤1048576)(hp:0≤pe∧pe≤4):(⟨k,q,ep,pe,lY⟩:Rec).fault=0:=by
 show aE k q ep pe 0 0 0 0 0 0=0;unfold aE;rw[if_neg (fun h=>h hk),if_neg (fun h=>h ⟨by omega,by omega,he.1,he.2,hp.1,hp.2⟩),if_neg KG];rfl
theorem Sy{k:Int}{q:Nat}{ep:Int}{e:Ev}(hk:k=2∨k=5)(hq:q<4)(he:0≤ep∧ep≤1048576)(hv:e.Ok):(⟨k,q,ep,0,e⟩:Rec).fault=0:=by
 show aE k q ep 0 e.k e.p e.i e.b e.he e.hn=0;unfold aE;rw[if_neg (fun h=>h (by omega)),if_neg (fun h=>h ⟨by omega,by omega,he.1,he.2,by omega,by omega⟩),if_pos hk];exact hv
theorem Xg{v:Ev}(h:v.Ok):∀x∈aX v,(Lit.int .i64 x).wf=true:=by
 unfold Ev.Ok aQ at h;intro x hx;simp only[aX,List.mem_cons,List.not_mem_nil,or_false]at hx;refine Oq ?_ ?_<;>(rcases hx with rfl|rfl|rfl|rfl|rfl|rfl<;>(split at h<;>(try split at h)<;>(try split at h)<;>(try split at h)<;>omega))
theorem oJ{k:Int}{q:Nat}{ep pe:Int}{e:Ev}(hk:1≤k∧k≤7)(hq:q<4)(he:0≤ep∧ep≤1048576)(hp:0≤pe∧pe≤4)(hv:∀x∈aX e,(Lit.int .i64 x).wf=true):∀x∈bn ⟨k,q,ep,pe,e⟩,(Lit.int .i64 x).wf=true:=by
 intro x hx;simp only[bn,List.mem_cons,List.not_mem_nil,or_false]at hx;rcases hx with rfl|rfl|rfl|rfl|hx
 ·exact Oq (by omega) (by omega)
 ·exact Oq (by omega) (by omega)
 ·exact Oq (by omega) (by omega)
 ·exact Oq (by omega) (by omega)
 ·exact hv x (by simp only[aX,List.mem_cons,List.not_mem_nil,or_false];exact hx)
theorem qk:∀x∈aX lY,(Lit.int .i64 x).wf=true:=by decide
section
variable(X N:Nat)(u:Nv)(v:Wv)(F U:tI)(w:tF)
abbrev Nv.synced(u:Nv)(a:tG)(c:Nat):Nv:={u with da:=a,dc:=c,sy:=u.dl.length,af:= .nilFunc,ax:=none}
theorem qX(hw:NW w X N u v F U)(g:Nat)(cl:tO)(Zu:u.af= .func (.func g) #[] cl.toArray)(hen:Rv.iR Tryz.prog g=true)(r:Nd×Ws)(hA:∀a c w1,NW w1 X N (u.synced a c) v F U→dB (fun b=>b=N) w w1→cA g cl.toArray w1 fun x w'=>x= .returned (.tuple #[])∧∃u' v' F',Dn w1 X N (u.synced a c) v F U r u' v' F' w'):
  cA 80 #[lp N] w fun x w'=>x= .returned (.tuple #[])∧∃u' v' F',Dn w X N u v F U r u' v' F' w':=by
 have hUN:∀b,(b=N∨(U b∧b≠N))→U b:=fun b hb=>hb.elim (fun e=>e▸hw.nu) fun h=>h.1;have E9:∀b,U b→(b=N∨(U b∧b≠N)):=fun b hb=>by
  by_cases e:b=N
  ·exact .inl e
  ·exact .inr ⟨hb,e⟩
 have fb:=hw.nb;unfold NB mj at fb;rw[Zu]at fb;refine wU X N u.i u.da u.dl.length u.dc u.dl u.sy (fun p=>jg (u.m p)) u.hn u.he u.wt u.tu u.ct u.ub u.sk g cl w fb (fun b=>U b∧b≠N) (fun b hb=>hw.ub b hb.1) (fun h=>h.2 rfl) (fun w2 c2=>(hw.st w2 (c2.mono hUN)).1.row) hw.ok.nil hw.ok.cap hw.ok.len hw.ok.s0 hw.ok.s1 hen (fun w'=>∃u' v' F',Dn w X N u v F U r u' v' F' w') (fun _ _ ⟨u',v',F',h⟩ b=>⟨u',v',F',h.next b⟩) fun a c w1 f1 r1 h1 h2 h3 c1=> ?_;have cU:dB U w w1:=c1.mono fun b hb=>hb▸hw.nu;have nw1:NW w1 X N (u.synced a c) v F U:=by
  refine⟨f1,hw.wo.Dc c1 fun b hb=>hb▸hw.nf,hw.nf,fun b hb=>Nat.lt_of_lt_of_le (hw.ub b hb) c1.size,hw.fu,hw.nu,⟨hw.ok.ok,h2,h1,h3,hw.ok.len,by show(0:Int)≤(u.dl.length:Int);omega,Int.le_refl _,hw.ok.i5,trivial⟩,fun w2 c2=> ?_⟩;have oT:=hw.st w2 (cU.trans c2 fun _ _ h=>h);exact⟨⟨r1 w2 (c2.mono E9),oT.1.mo,rfl,oT.1.wl⟩,oT.2⟩
 refine(hA a c w1 nw1 c1).mono ?_;rintro x w' ⟨rfl,u',v',F',hd⟩;have mv1:Mv (fun b=>F b∨b=N) w (fun b=>F b∨b=N) w1:=⟨c1.mono fun b hb=> .inr hb,fun b hb=> .inl hb,fun b hb=>hb.elim (fun h=>Nat.lt_of_lt_of_le (hw.ub b (hw.fu b h)) c1.size) fun e=>e▸nw1.nb.lt⟩;exact⟨rfl,u',v',F',hd.nw,mv1.trans hd.mv,hd.wt,hd.wl,hd.nd,hd.tk,hd.dd,hd.n,hd.s⟩
end
theorem Wj(X N:Nat)(u:Nv)(v:Wv)(F U:tI)(w:tF)(hw:NW w X N u v F U)(x:Af)(hx:u.ax=some x)(hlen:v.fl.length≤1000000000000)(iE:v.sv.length≤1000000000000):cA 80 #[lp N] w fun y w'=>y= .returned (.tuple #[])∧∃u' v' F',Dn w X N u v F U (eY {u.pure with sy:=u.dl.length,af:=none} v.pure x) u' v' F' w':=by
 have gZ:bU U w fun w=>ZG w N u.af u.ad (some x):=fun w2 c2=>hx▸(hw.st w2 c2).1.af;have iD:ab4 (some x):=hx▸hw.ok.Sn;cases x with
 |serve l an=>
  refine qX X N u v F U w hw 112 [lp u.ad.c0,lp u.ad.c1,lp u.ad.c2,lp u.ad.c3] gZ.now.1 (by kernel_rfl) _ fun a c w1 iY c1=> ?_;exact Oz X N (u.synced a c) v F U w1 iY u.ad.p l u.ad.a u.ad.c an iD.1 iD.2 _ _ _ _ (fun w2 c2=>by obtain⟨_,h0,h1,h2,h3,hl⟩:=gZ w2 ((c1.mono fun b hb=>hb▸hw.nu).trans c2 fun _ _ h=>h);exact⟨⟨⟨⟨h0,h1⟩,h2⟩,h3⟩,hl⟩) hlen iE
 |begin l B=>
  obtain rfl:u.ad.m.B=B:=gZ.now.2.2.2.2.2.2;refine qX X N u v F U w hw 116 [lp u.ad.c0,lp u.ad.c1,lp u.ad.c2] gZ.now.1 (by kernel_rfl) _ fun a c w1 iY c1=> ?_;exact Oy X N (u.synced a c) v F U w1 iY u.ad.m u.ad.p l u.ad.a u.ad.c iD.1 iD.2 _ _ _ (fun w2 c2=>by obtain⟨_,h0,h1,h2,hl,hm,_⟩:=gZ w2 ((c1.mono fun b hb=>hb▸hw.nu).trans c2 fun _ _ h=>h);exact⟨⟨⟨⟨h0,h1⟩,h2⟩,hm⟩,hl⟩) hlen iE
 |shut l B=>
  obtain rfl:u.ad.m.B=B:=gZ.now.2.2.2.2.2.2;refine qX X N u v F U w hw 118 [lp u.ad.c0,lp u.ad.c1,lp u.ad.c2] gZ.now.1 (by kernel_rfl) _ fun a c w1 iY c1=> ?_;exact CM X N (u.synced a c) v F U w1 iY u.ad.m u.ad.p l u.ad.a u.ad.c iD.1 iD.2 _ _ _ (fun w2 c2=>by obtain⟨_,h0,h1,h2,hl,hm,_⟩:=gZ w2 ((c1.mono fun b hb=>hb▸hw.nu).trans c2 fun _ _ h=>h);exact⟨⟨⟨⟨h0,h1⟩,h2⟩,hm⟩,hl⟩) hlen iE
 |take l B=>
  obtain rfl:u.ad.m.B=B:=gZ.now.2.2.2.2.2.2;refine qX X N u v F U w hw 122 [lp u.ad.c0,lp u.ad.c1,lp u.ad.c2] gZ.now.1 (by kernel_rfl) _ fun a c w1 iY c1=> ?_;exact Ss X N (u.synced a c) v F U w1 iY u.ad.m u.ad.p l u.ad.a u.ad.c iD.1 iD.2 _ _ _ (fun w2 c2=>by obtain⟨_,h2,h0,h1,hl,hm,_⟩:=gZ w2 ((c1.mono fun b hb=>hb▸hw.nu).trans c2 fun _ _ h=>h);exact⟨⟨⟨⟨h0,h1⟩,h2⟩,hm⟩,hl⟩) hlen iE
 |ky q B=>
  obtain rfl:u.ad.m.B=B:=gZ.now.2.2.2.2.2;refine qX X N u v F U w hw 125 [lp u.ad.c0,lp u.ad.c1,lp u.ad.c2] gZ.now.1 (by kernel_rfl) _ fun a c w1 iY c1=> ?_;exact Ox X N (u.synced a c) v F U w1 iY u.ad.m q iD.1 iD.2 _ _ _ (fun w2 c2=>by obtain⟨_,h0,h1,h2,hm,_⟩:=gZ w2 ((c1.mono fun b hb=>hb▸hw.nu).trans c2 fun _ _ h=>h);exact⟨⟨⟨h0,h1⟩,h2⟩,hm⟩)
section
open Rv
theorem Wl{hd tl:tO}{mo:tS}{hn he:tK}{wt af:tN}{tu a b:Int}{q:Nat}(hq:q<4)(i:Nat):gj (kH hd (gl mo hn he wt af tu) tl) (193+q*2) 2 (lF [iV a,iV b]) i=kH hd (gl mo (aC hn q a) (aC he q b) wt af tu) tl i:=by
 unfold gj;by_cases hc:193+q*2≤i∧i<193+q*2+2
 ·rw[if_pos hc];obtain rfl|rfl:i=193+q*2∨i=193+q*2+1:=by omega
  ·rw[XU hq,aJ,Nat.sub_self];rfl
  ·rw[L4 hq,aJ,show 193+q*2+1-(193+q*2)=1 by omega];rfl
 ·rw[if_neg hc];unfold kH;by_cases h5:i<5
  ·rw[if_pos h5,if_pos h5]
  ·rw[if_neg h5,if_neg h5];by_cases h6:i<204
   ·rw[if_pos h6,if_pos h6];unfold gl;by_cases h7:i-5<188
    ·rw[if_pos h7,if_pos h7]
    ·rw[if_neg h7,if_neg h7];by_cases h8:i-5<196
     ·rw[if_pos h8,if_pos h8];have fJ:¬(i-5-188)/2=q:=by omega
      simp only[aC,if_neg fJ]
     ·rw[if_neg h8,if_neg h8]
   ·rw[if_neg h6,if_neg h6]
theorem OG{B B':Bt}{ep:Int}(h:bG B ep=(B',0)):B'.e=B.e∧B.r=3:=by
 unfold bG at h;split at h
 ·cases h
 ·split at h
  ·cases h
  ·rename_i hr;split at h
   ·cases h
   ·cases h;exact⟨rfl,Classical.not_not.1 hr⟩
theorem OH{B B':Bt}{ep er:Int}(h:bG B ep=(B',er)):B'.Ok:=by
 unfold bG at h;split at h
 ·cases h;exact Bt.dr
 ·rename_i iD;split at h
  ·cases h;exact Bt.dr
  ·split at h
   ·cases h;exact Bt.dr
   ·cases h;have:=jx (Classical.not_not.1 iD).cM;exact⟨.inl ⟨rfl,rfl,this.1,this.2,rfl,rfl,rfl⟩,Nat.zero_le _,St.zero,[],.nil⟩
section
variable{u ub u':Nv}{v:Wv}{l:Lt}{B8:Bt}{er:Int}
theorem Sz(h:u.he l.q<l.pe):({u with hn:=aC u.hn l.q l.pn,he:=aC u.he l.q l.pe}:Nv).pure=eN u.pure l:=by
 unfold eN;rw[if_pos h]
theorem SA(h:¬u.he l.q<l.pe):u.pure=eN u.pure l:=by
 unfold eN;rw[if_neg h]
theorem EP(n:Nd)(s:Ws)(l:Lt):s=(jA n s l).2:=by
 unfold jA;split<;>rfl
theorem OI(hb:ub.pure=eN u.pure l)(h:bG (u.m l.q).B l.pe=(B8,er))(h0:¬er=0):ub.pure=(jA u.pure v.pure l).1:=by
 unfold jA;rw[h,if_neg h0,hb]
theorem Kf(hb:ub.pure=eN u.pure l)(h:bG (u.m l.q).B l.pe=(B8,0))(hf:100000<u.dl.length+(cG [⟨7,l.q,B8.e,0,lY⟩]).length):ub.pure=(jA u.pure v.pure l).1:=by
 unfold jA pS;have e:(eN u.pure l).dl=u.dl:=by unfold eN;split<;>rfl
 rw[h,if_pos rfl,e,if_neg (Nat.not_le.2 hf),hb];rfl
theorem OJ(hb:ub.pure=eN u.pure l)(h:bG (u.m l.q).B l.pe=(B8,0))(hf:u.dl.length+(cG [⟨7,l.q,B8.e,0,lY⟩]).length≤100000):{ub.pure with dl:=u.dl++cG [⟨7,l.q,B8.e,0,lY⟩],af:=some (.ky l.q B8)}=(jA u.pure v.pure l).1:=by
 unfold jA pS;have e:(eN u.pure l).dl=u.dl:=by unfold eN;split<;>rfl
 rw[h,if_pos rfl,e,if_pos hf,hb];rfl
end
theorem SC(X N:Nat)(u:Nv)(v:Wv)(F U:tI)(w:tF)(hw:NW w X N u v F U)(P:Nat)(l:Lt)(a:tG)(c:Nat)(hq:l.q<4)(hl:bU U w fun w=>eM w P l a c):cA 71 #[lp N,lp P] w fun x w'=>x= .returned (.tuple #[])∧∃u' v' F',Dn w X N u v F U (jA u.pure v.pure l) u' v' F' w':=by
 have ho:a7 (jg (u.m l.q)) 47:=eD (hw.st.now.1.mo l.q hq).one;have gZ:=jx (hw.ok.ok l.q hq).cM;refine en (H:=[⟨N,126,[.f 206 (mj X u)]⟩]) 62 [vp 0 0 N,vv (lp P)] Tryz.func71 rfl rfl (hw.init (G:=fun w=>eM w P l a c) hl) ?_;refine r [] rfl fun α=>l1 rfl (iV (l.q:Int)) (fun w hS=>hS.now.1.2.b.at 3 (cJ rfl)) ?_;refine r [] rfl fun β=> ?_;let u1:(Nat→Int)×(Nat→Int)→Nv:=fun x=>{u with hn:=x.1,he:=x.2};refine adT 2 (X:=(Nat→Int)×(Nat→Int)) (fun _=>[(1,vv (lp P)),(2,vp 1 0 (α 0)),(4,vp 2 0 (β 0))]) (fun x=>[⟨N,126,[.f 206 (mj X (u1 x))]⟩,⟨α 0,109,[.p 0 0 N]⟩,⟨β 0,3,[.o (iV (l.q:Int))]⟩]) (fun _ b=>F b∨(U b∧b≠N)) (fun _ w=>(u.In w N∧∀r∈v.fl,oh w r)∧eM w P l a c) (fun _=>RW X (fun b=>b∈[N]) F w v F) (fun x=>(u1 x).pure=eN u.pure l) ?_ ?_
 case refine_2=>
  refine r [3] rfl fun _=>l1 rfl (iV l.pe) (fun w hS=>hS.now.1.2.b.at 16 (cJ rfl)) (r [1] rfl fun _=>lo1 rfl rfl 0 rfl (iV (u.he l.q)) (L4 hq) ?_);by_cases MI:u.he l.q<l.pe
  case neg=>exact r [0] rfl fun _=>eJ (u.hn,u.he) ⟨rfl,rfl,rfl,trivial⟩ (fun _ hS=>hS) (SA MI) Nat.zero_lt_one
  refine r [1,3] rfl fun _=>lf rfl 2 (lF [iV l.pn,iV l.pe]) (fun w hS j hj=>(hS.now.1.2.b.at (15+j) (by omega)).trans (congrArg some (qI rfl hj))) (r [1] rfl fun _=>so rfl rfl rfl 0 rfl (mj X (u1 (aC u.hn l.q l.pn,aC u.he l.q l.pe))) (fun i _=>Wl hq i) ?_ (Rl rfl));exact r [] rfl fun _=>eJ (aC u.hn l.q l.pn,aC u.he l.q l.pe) ⟨rfl,rfl,rfl,trivial⟩ (fun _ hS=>hS) (Sz MI) Nat.zero_lt_one
 rintro f ⟨hn,he⟩ hh;have hh:({u with hn:=hn,he:=he}:Nv).pure=eN u.pure l:=hh;refine r [] rfl fun _=>cut (X:=Nat×Int×Bt×Option Addr×Nat×(Nat→Value)) (fun x=>[(2,vp 1 0 (α 0)),(4,vp 2 0 (β 0)),(5,vp 3 0 x.1),(6,vi x.2.1)]) (fun x=>[⟨N,126,[.f 206 (mj X (u1 (hn,he)))]⟩,⟨α 0,109,[.p 0 0 N]⟩,⟨β 0,3,[.o (iV (l.q:Int))]⟩,⟨x.1,117,pU x.2.2.1 x.2.2.2.1 x.2.2.2.2.1 x.2.2.2.2.2⟩]) (fun _ b=>F b∨(U b∧b≠N)) (fun x w=>((u.In w N∧∀r∈v.fl,oh w r)∧eM w P l a c)∧jW w x.2.2.1 x.2.2.2.1 x.2.2.2.2.1 x.2.2.2.2.2) (fun _=>RW X (fun b=>b∈[N]) F w v F) (fun x=>bG (u.m l.q).B l.pe=(x.2.2.1,x.2.1)) ?_ (r [4,1] rfl fun _=>lo rfl rfl 0 rfl 47 (jg (u.m l.q)) (fun i hi=>oc hq hi) (r [] rfl fun _=>l1 rfl (iV l.pe) (fun w hS=>hS.now.1.2.b.at 16 (cJ rfl)) ?_))
 case refine_2=>
  repeat' first|refine C9 ?_ ?_|(refine cx (g:=124) rfl (fun y:Int×Bt×Option Addr×Nat×(Nat→Value)=>vt [.g (pU y.2.1 y.2.2.1 y.2.2.2.1 y.2.2.2.2),.o (iV y.1)]) (fun y=>bG (u.m l.q).B l.pe=(y.2.1,y.1)∧a7 y.2.2.2.2 41) (fun y w=>jW w y.2.1 y.2.2.1 y.2.2.2.1 y.2.2.2.2) ?_ ?_;exact fun w hS=>(GF (fun _=>True) (u.m l.q).B (u.m l.q).a (u.m l.q).c (u.m l.q).g l.pe w (hw.ok.ok l.q hq)).mono fun _ _ ⟨_,B8,er8,h0,fD,⟨a8,c8,g8,hy,hm8⟩,b⟩=>⟨(er8,B8,a8,c8,g8),by rw[h0,hy];rfl,b,⟨fD,hm8.now.one⟩,fun _=>hm8.mono fun _ _ _=>trivial⟩;rintro⟨er8,B8,a8,c8,g8⟩ ⟨fD,o8⟩)|refine rs [] rfl rfl fun _=> ?_
  all_goals exact eJ (_,er8,B8,a8,c8,g8) ⟨rfl,rfl,rfl,rfl,trivial⟩ (fun w hS=>hS.IM [0,1,2,3] (by decide)) fD Nat.zero_lt_one
 rintro f ⟨R5,er8,B8,a8,c8,g8⟩ fD;have fD:bG (u.m l.q).B l.pe=(B8,er8):=fD;by_cases h0:er8=0
 case neg=>exact r [0] rfl fun _=>dm rfl fun w hS=>⟨rfl,_,v,F,Dn.fin (u':=u1 (hn,he)) hS hw.ub hw.nu (fun _ h=>⟨⟨h.1.1.1.row,h.1.1.1.mo,h.1.1.1.af,h.1.1.1.wl⟩,h.1.1.2⟩) (⟨hw.ok.ok,hw.ok.nil,hw.ok.cap,hw.ok.max,hw.ok.len,hw.ok.s0,hw.ok.s1,hw.ok.i5,hw.ok.Sn⟩) rfl rfl rfl rfl rfl (OI hh fD h0) (EP _ _ _)⟩
 subst h0;obtain⟨he8,hr8⟩:=OG fD;refine r [1] rfl fun δ=>kp 4 rfl (c0 rfl fun w1 hS=> ?_);obtain⟨oF,hu2,hu3⟩:=hS.rS;refine(jd X N u.i u.da u.dl.length u.dc u.dl u.sy (fun p=>jg (u.m p)) hn he u.wt u.af u.tu u.ct u.ub u.sk (.func 125) #[] #[.pointer (some ⟨R5,0,none⟩),.pointer (some ⟨α 0,0,none⟩),.pointer (some ⟨β 0,0,none⟩)] [⟨7,l.q,B8.e,0,lY⟩] (some ⟨δ 0,0,none⟩) 1 1 _ (hS.at 0 rfl) _ oF hu2 (fun w2 cc=>⟨(hu3 w2 cc).1.1.1.1.row,mJ ⟨7,l.q,B8.e,0,lY⟩ (oJ (by decide) hq (by rw[he8];exact gZ) (by decide) qk) (hu3 w2 cc).2⟩) hw.ok.nil hw.ok.cap hw.ok.max hw.ok.len hw.ok.s0 hw.ok.s1 rfl (by decide) (fun r hr=>by rw[List.mem_singleton.1 hr];exact vL (by decide) (by decide) hq (by rw[he8];exact gZ) (by decide))).mono ?_;rintro _ w2 ⟨k,rfl,ch,⟨rfl,iY,a2,c2,w_,st2,kz,rU,hm2⟩|⟨rfl,iY,w_⟩⟩
 ·refine⟨vv (.bool true),_,_,rfl,ch,w_,st2,r [] rfl fun _=>dm rfl fun w3 hS=> ?_⟩;let u2:Nv:={u1 (hn,he)with da:=a2,dc:=c2,dl:=u.dl++cG [⟨7,l.q,B8.e,0,lY⟩],af:= .func (.func 125) #[] #[.pointer (some ⟨R5,0,none⟩),.pointer (some ⟨α 0,0,none⟩),.pointer (some ⟨β 0,0,none⟩)],ax:=some (.ky l.q B8),ad:=⟨R5,α 0,β 0,0,0,none,0,⟨B8,a8,c8,g8⟩⟩};replace hS:=((hS.take 1).add (hS.kept 3 rfl 1 (cJ rfl))).add (hS.kept 1 rfl 1 (cJ rfl))|>.add (hS.kept 2 rfl 1 (cJ rfl))
  replace hS:=hS.congr 0 rfl (mj X u2) (fun i _=>by simp only[u2,u1,mj,List.length_append];rfl);exact⟨rfl,u2,v,F,Dn.fin hS hw.ub hw.nu (fun _ h=>⟨⟨by rw[List.length_append];exact h.1.1.1.2,h.1.1.1.1.1.1.1.1.mo,⟨rfl,h.1.1.2,h.1.2,h.2,h.1.1.1.1.1.2,rfl⟩,h.1.1.1.1.1.1.1.1.wl⟩,h.1.1.1.1.1.1.1.2⟩) (⟨hw.ok.ok,rU,by rw[List.length_append];exact kz,hm2,by rw[List.length_append];exact iY,hw.ok.s0,by rw[List.length_append];show u.sy≤_;have:=hw.ok.s1;omega,hw.ok.i5,⟨hq,OH fD⟩⟩) rfl rfl rfl rfl rfl (OJ hh fD iY) (EP _ _ _)⟩
 ·refine⟨vv (.bool false),_,fun _=>True,rfl,ch,w_,fun _ _=>trivial,r [] rfl fun _=>dm rfl fun w hS=> ?_⟩;exact⟨rfl,_,v,F,Dn.fin (u':=u1 (hn,he)) hS hw.ub hw.nu (fun _ h=>⟨⟨h.1.1.1.1.1.row,h.1.1.1.1.1.mo,h.1.1.1.1.1.af,h.1.1.1.1.1.wl⟩,h.1.1.1.1.2⟩) (⟨hw.ok.ok,hw.ok.nil,hw.ok.cap,hw.ok.max,hw.ok.len,hw.ok.s0,hw.ok.s1,hw.ok.i5,hw.ok.Sn⟩) rfl rfl rfl rfl rfl (Kf hh fD iY) (EP _ _ _)⟩
theorem Fh{B B':Bt}{ep fr:Int}(h:aT B ep fr=(B',0)):(1≤ep∧ep≤1048576)∧0≤fr∧fr≤4:=by
 unfold aT at h;split at h
 ·cases h
 ·split at h
  ·cases h
  ·rename_i h2;exact Classical.not_not.1 h2
theorem Fi{B B':Bt}{ep fr er:Int}(h:aT B ep fr=(B',er)):B'.Ok:=by
 unfold aT at h;split at h
 ·cases h;exact Bt.dr
 ·rename_i iD;split at h
  ·cases h;exact Bt.dr
  ·rename_i h2;split at h
   ·cases h;exact Bt.dr
   ·split at h
    ·cases h;exact Classical.not_not.1 iD
    ·split at h
     ·cases h;exact Bt.dr
     ·cases h;have:=Classical.not_not.1 h2;exact⟨.inr (.inr (.inr (.inr ⟨rfl,this.1.1,this.1.2,this.2.1,this.2.2,rfl,rfl⟩))),Nat.zero_le _,St.zero,[],.nil⟩
section
variable{u:Nv}{v:Wv}{l:Lt}{B8:Bt}{er:Int}
theorem CN(h:aT (u.m l.q).B l.ep l.fr=(B8,er))(h0:¬er=0):jz u.pure v.pure l=(u.pure,v.pure):=by
 unfold jz;rw[h,if_pos h0]
theorem AK(h:aT (u.m l.q).B l.ep l.fr=(B8,0))(h0:B8.e=(u.m l.q).B.e):jz u.pure v.pure l=(u.pure,AH u.pure v.pure l.q):=by
 unfold jz;rw[h,if_neg (fun h=>h rfl),if_pos h0]
theorem AL(h:aT (u.m l.q).B l.ep l.fr=(B8,0))(h0:¬B8.e=(u.m l.q).B.e)(hf:100000<u.dl.length+(cG [⟨4,l.q,l.ep,l.fr,lY⟩]).length):jz u.pure v.pure l=(u.pure,v.pure):=by
 unfold jz pS;rw[h,if_neg (fun h=>h rfl),if_neg h0,if_neg (Nat.not_le.2 hf)];rfl
theorem CO(h:aT (u.m l.q).B l.ep l.fr=(B8,0))(h0:¬B8.e=(u.m l.q).B.e)(hf:u.dl.length+(cG [⟨4,l.q,l.ep,l.fr,lY⟩]).length≤100000):jz u.pure v.pure l=({u.pure with dl:=u.dl++cG [⟨4,l.q,l.ep,l.fr,lY⟩],af:=some (.begin l B8)},v.pure):=by
 unfold jz pS;rw[h,if_neg (fun h=>h rfl),if_neg h0,if_pos hf];rfl
end
theorem SD(X N:Nat)(u:Nv)(v:Wv)(F U:tI)(w:tF)(hw:NW w X N u v F U)(P:Nat)(l:Lt)(a:tG)(c:Nat)(hq:l.q<4)(hl:bU U w fun w=>eM w P l a c)(hlen:v.fl.length≤1000000000000)(iE:v.sv.length≤1000000000000):cA 68 #[lp N,lp P] w fun x w'=>x= .returned (.tuple #[])∧∃u' v' F',Dn w X N u v F U (jz u.pure v.pure l) u' v' F' w':=by
 have lG:=(hw.st.now.1.mo l.q hq).one;have ho:a7 (jg (u.m l.q)) 47:=eD lG;have gZ:=jx (hw.ok.ok l.q hq).cM;refine en (H:=[nE X N u]) 66 [vp 0 0 N,vv (lp P)] Tryz.func68 rfl rfl (hw.init (G:=fun w=>eM w P l a c) hl) ?_;refine r [3] rfl fun α=>l1 rfl (iV (l.q:Int)) (fun w hS=>hS.now.1.2.b.at 3 (cJ rfl)) (r [1] rfl fun _=>lo rfl rfl 0 rfl 47 (jg (u.m l.q)) (fun i hi=>oc hq hi) ?_);refine r [] rfl fun β=>cut (X:=Nat×Int×Nu) (fun x=>[(2,vp 1 0 (α 0)),(3,vp 2 0 (α 1)),(4,vp 3 0 (β 0)),(5,vp 4 0 x.1),(6,vi x.2.1)]) (fun x=>[nE X N u,npE (α 0) 0 N,lpE (α 1) P,mgE (β 0) (u.m l.q),moE x.1 x.2.2.1 x.2.2.2.1 x.2.2.2.2.1 x.2.2.2.2.2]) (fun _ b=>F b∨(U b∧b≠N)) (fun x w=>((u.In w N∧∀r∈v.fl,oh w r)∧eM w P l a c)∧Ro x.2.2 w) (fun _=>RW X (fun b=>b∈[N]) F w v F) (fun x=>aT (u.m l.q).B l.ep l.fr=(x.2.2.1,x.2.1)) ?_ (r [4] rfl fun _=>l1 rfl (iV l.ep) (fun w hS=>hS.now.1.2.b.at 17 (cJ rfl)) (r [] rfl fun _=>l1 rfl (iV l.fr) (fun w hS=>hS.now.1.2.b.at 1 (cJ rfl)) ?_))
 case refine_2=>
  repeat' first|refine C9 ?_ ?_|(refine cx (g:=114) rfl (fun y:Int×Nu=>vt [JM y.2,.o (iV y.1)]) (fun y=>aT (u.m l.q).B l.ep l.fr=(y.2.1,y.1)∧a7 y.2.2.2.2 41) (fun y=>Ro y.2) ?_ ?_;exact fun w hS=>(JN _ (u.m l.q).B (u.m l.q).a (u.m l.q).c (u.m l.q).g l.ep l.fr w hS.ult (fun w2 c2=>(hS.g w2 c2).1.1.mo l.q hq) (hw.ok.ok l.q hq)).mono fun _ _ ⟨_,B8,er8,h0,fD,⟨a8,c8,g8,hy,hm8⟩,b⟩=>⟨(er8,B8,a8,c8,g8),by rw[h0,hy];rfl,b,⟨fD,hm8.now.one⟩,fun _=>hm8⟩;rintro⟨er8,B8,a8,c8,g8⟩ ⟨fD,o8⟩)|refine rs [] rfl rfl fun _=> ?_
  all_goals exact eJ (_,er8,B8,a8,c8,g8) ⟨rfl,rfl,rfl,rfl,rfl,trivial⟩ (fun w hS=>hS.IM [0,1,2,3,4] (by decide)) fD Nat.zero_lt_one
 rintro f ⟨R5,er8,B8,a8,c8,g8⟩ fD;have fD:aT (u.m l.q).B l.ep l.fr=(B8,er8):=fD;by_cases h0:er8=0
 case neg=>exact r [1] rfl fun _=>dm rfl fun w hS=>⟨rfl,u,v,F,Dn.fin hS hw.ub hw.nu (fun _ h=>⟨h.1.1.1,h.1.1.2⟩) hw.ok rfl rfl rfl rfl rfl (by rw[CN fD h0]) (by rw[CN fD h0])⟩
 subst h0;obtain⟨oD,FM⟩:=Fh fD;refine r [0] rfl fun _=> ?_;by_cases he8:B8.e=(u.m l.q).B.e
 ·refine r [1,3] rfl fun _=>l1 rfl (iV (l.q:Int)) (fun w hS=>hS.now.1.1.2.b.at 3 (cJ rfl)) (r [] rfl fun _=>cw rfl (vt []) _ _ (fun w hS=>EN X v F _ w N u l.q hq lG hS.now.2.wo hS.ult (fun b h=> .inr (.inl h)) (fun w2 c2=>(hS.xT 0 rfl w2 (c2.mono fun b h=> .inl h)).2) hlen) fun P1 F1=>r [] rfl fun _=>dm rfl fun w hS=> ?_);exact⟨rfl,u,_,F1,Dn.fin hS hw.ub hw.nu (fun _ h=>⟨h.1.1.1.1,gi h.1.1.1.2 h.2⟩) hw.ok rfl rfl rfl rfl rfl (by rw[AK fD he8]) (by rw[AK fD he8,ki];rfl)⟩
 refine r [0,3] rfl fun _=>l1 rfl (iV (l.q:Int)) (fun w hS=>hS.now.1.1.2.b.at 3 (cJ rfl)) (r [] rfl fun _=>l1 rfl (iV l.ep) (fun w hS=>hS.now.1.1.2.b.at 17 (cJ rfl)) (r [] rfl fun _=>l1 rfl (iV l.fr) (fun w hS=>hS.now.1.1.2.b.at 1 (cJ rfl)) (r [] rfl fun δ=>kp 5 rfl (c0 rfl fun w1 hS=> ?_))));obtain⟨oF,hu2,hu3⟩:=hS.rS;refine(jd X N u.i u.da u.dl.length u.dc u.dl u.sy (fun p=>jg (u.m p)) (u.hn) (u.he) u.wt u.af u.tu u.ct u.ub u.sk (.func 116) #[] #[.pointer (some ⟨R5,0,none⟩),.pointer (some ⟨α 0,0,none⟩),.pointer (some ⟨α 1,0,none⟩)] [⟨4,l.q,l.ep,l.fr,lY⟩] (some ⟨δ 0,0,none⟩) 1 1 _ (hS.at 0 rfl) _ oF hu2 (fun w2 cc=>⟨(hu3 w2 cc).1.1.1.1.row,mJ ⟨4,l.q,l.ep,l.fr,lY⟩ (oJ (by decide) hq ⟨by omega,by omega⟩ FM qk) (hu3 w2 cc).2⟩) hw.ok.nil hw.ok.cap hw.ok.max hw.ok.len hw.ok.s0 hw.ok.s1 rfl (by decide) (fun r hr=>by rw[List.mem_singleton.1 hr];exact vL (by decide) (by decide) hq ⟨by omega,by omega⟩ FM)).mono ?_;rintro _ w2 ⟨k,rfl,ch,⟨rfl,iY,a2,c2,w_,st2,kz,rU,hm2⟩|⟨rfl,iY,w_⟩⟩
 ·refine⟨vv (.bool true),_,_,rfl,ch,w_,st2,r [] rfl fun _=>dm rfl fun w3 hS=> ?_⟩;let u2:Nv:={u with da:=a2,dc:=c2,dl:=u.dl++cG [⟨4,l.q,l.ep,l.fr,lY⟩],af:= .func (.func 116) #[] #[.pointer (some ⟨R5,0,none⟩),.pointer (some ⟨α 0,0,none⟩),.pointer (some ⟨α 1,0,none⟩)],ax:=some (.begin l B8),ad:=⟨R5,α 0,α 1,0,P,a,c,⟨B8,a8,c8,g8⟩⟩};replace hS:=((hS.take 1).add (hS.kept 4 rfl 1 (cJ rfl))).add (hS.kept 1 rfl 1 (cJ rfl))|>.add (hS.kept 2 rfl 1 (cJ rfl))
  replace hS:=hS.congr 0 rfl (mj X u2) (fun i _=>by simp only[u2,mj,List.length_append];rfl);exact⟨rfl,u2,v,F,Dn.fin hS hw.ub hw.nu (fun _ h=>⟨⟨by rw[List.length_append];exact h.1.1.1.2,h.1.1.1.1.1.1.1.1.mo,⟨rfl,h.1.1.2,h.1.2,h.2,h.1.1.1.1.1.1.2,h.1.1.1.1.1.2,rfl⟩,h.1.1.1.1.1.1.1.1.wl⟩,h.1.1.1.1.1.1.1.2⟩) (⟨hw.ok.ok,rU,by rw[List.length_append];exact kz,hm2,by rw[List.length_append];exact iY,hw.ok.s0,by rw[List.length_append];show u.sy≤_;have:=hw.ok.s1;omega,hw.ok.i5,⟨hq,Fi fD⟩⟩) rfl rfl rfl rfl rfl (by rw[CO fD he8 iY]) (by rw[CO fD he8 iY])⟩
 ·refine⟨vv (.bool false),_,fun _=>True,rfl,ch,w_,fun _ _=>trivial,r [] rfl fun _=>dm rfl fun w hS=> ?_⟩;exact⟨rfl,u,v,F,Dn.fin hS hw.ub hw.nu (fun _ h=>⟨h.1.1.1.1.1,h.1.1.1.1.2⟩) hw.ok rfl rfl rfl rfl rfl (by rw[AL fD he8 iY]) (by rw[AL fD he8 iY])⟩
theorem toNM{U F:tI}{N b:Nat}(h:U b∨F b):b∈[N]∨F b∨(U b∧b≠N):=by
 rcases h with h|h
 ·by_cases e:b=N
  ·exact .inl (e▸List.mem_singleton.2 rfl)
  ·exact .inr (.inr ⟨h,e⟩)
 ·exact .inr (.inl h)
theorem toHM{U F:tI}{N b:Nat}{H:tV}(h:U b∨F b):b∈N::H∨F b∨(U b∧b≠N):=(toNM h).imp (fun h=>by rw[List.mem_singleton.1 h];exact List.mem_cons_self ..) id
theorem nz{B B':Bt}{hv er:Int}(h:bh B hv=(B',er)):B'.Ok:=by
 unfold bh at h;split at h
 ·cases h;exact Bt.dr
 ·rename_i h0;have h1:=Classical.not_not.1 h0;unfold dq at h1;split at h1
  ·cases h1
  ·rename_i iD;have ok:=Classical.not_not.1 iD;split at h1
   ·cases h1
   ·rename_i hr;have hr:=Classical.not_not.1 hr;split at h
    ·cases h;exact ok
    ·rename_i h3;have hs:=ok.cM;unfold Bt.cC bz at hs;split at h
     ·cases h;refine⟨?_,ok.len,ok.told⟩;rcases hs with k|k|k|k|k
      ·exact absurd k.1 (by omega)
      ·exact absurd k.1 (by omega)
      ·exact .inr (.inr (.inr (.inl ⟨rfl,k.2.1,k.2.2.1,k.2.2.2.1,k.2.2.2.2.1,k.2.2.2.2.2.1,rfl⟩)))
      ·exact absurd k.1 h3
      ·exact absurd k.1 (by omega)
     ·rename_i h4;cases h;refine⟨?_,ok.len,ok.told⟩;rcases hs with k|k|k|k|k
      ·exact absurd k.1 (by omega)
      ·exact absurd k.1 (by omega)
      ·exact .inr (.inr (.inl ⟨k.1,k.2.1,k.2.2.1,k.2.2.2.1,k.2.2.2.2.1,k.2.2.2.2.2.1,by show 0≤B.o+1;omega,by show B.o+1≤4;omega⟩))
      ·exact absurd k.1 h3
      ·exact absurd k.1 (by omega)
section
variable{u:Nv}{v:Wv}{l:Lt}{B8:Bt}{er:Int}
theorem rK(h:¬(u.m l.q).B.t=l.fr∨¬(u.m l.q).B.e+1=l.ep):ie u.pure v.pure l=(u.pure,v.pure):=by
 unfold ie;rw[if_pos h]
theorem CP(ht:(u.m l.q).B.t=l.fr)(he:(u.m l.q).B.e+1=l.ep)(h:bh (u.m l.q).B l.pl=(B8,er))(h0:¬er=0):ie u.pure v.pure l=(u.pure,v.pure):=by
 unfold ie;rw[if_neg (fun k=>k.elim (fun k=>k ht) fun k=>k he),h,if_pos h0]
theorem AM(ht:(u.m l.q).B.t=l.fr)(he:(u.m l.q).B.e+1=l.ep)(h:bh (u.m l.q).B l.pl=(B8,0))(hr:B8.r=(u.m l.q).B.r):ie u.pure v.pure l=eY u.pure v.pure (.shut l B8):=by
 unfold ie;rw[if_neg (fun k=>k.elim (fun k=>k ht) fun k=>k he),h,if_neg (fun h=>h rfl),if_pos hr];rfl
theorem AN(ht:(u.m l.q).B.t=l.fr)(he:(u.m l.q).B.e+1=l.ep)(h:bh (u.m l.q).B l.pl=(B8,0))(hr:¬B8.r=(u.m l.q).B.r)(hf:100000<u.dl.length+(cG [⟨3,l.q,(u.m l.q).B.e,(u.m l.q).B.t,lY⟩]).length):ie u.pure v.pure l=(u.pure,v.pure):=by
 unfold ie pS;rw[if_neg (fun k=>k.elim (fun k=>k ht) fun k=>k he),h,if_neg (fun h=>h rfl),if_neg hr,if_neg (Nat.not_le.2 hf)];rfl
theorem CQ(ht:(u.m l.q).B.t=l.fr)(he:(u.m l.q).B.e+1=l.ep)(h:bh (u.m l.q).B l.pl=(B8,0))(hr:¬B8.r=(u.m l.q).B.r)(hf:u.dl.length+(cG [⟨3,l.q,(u.m l.q).B.e,(u.m l.q).B.t,lY⟩]).length≤100000):ie u.pure v.pure l=({u.pure with dl:=u.dl++cG [⟨3,l.q,(u.m l.q).B.e,(u.m l.q).B.t,lY⟩],af:=some (.shut l B8)},v.pure):=by
 unfold ie pS;rw[if_neg (fun k=>k.elim (fun k=>k ht) fun k=>k he),h,if_neg (fun h=>h rfl),if_neg hr,if_pos hf];rfl
theorem Wm{B:Bt}(h:B.cC):0≤B.t∧B.t≤4:=by
 unfold Bt.cC bz at h;omega
end
theorem SE(X N:Nat)(u:Nv)(v:Wv)(F U:tI)(w:tF)(hw:NW w X N u v F U)(P:Nat)(l:Lt)(a:tG)(c:Nat)(hq:l.q<4)(hl:bU U w fun w=>eM w P l a c)(hlen:v.fl.length≤1000000000000)(iE:v.sv.length≤1000000000000):cA 69 #[lp N,lp P] w fun x w'=>x= .returned (.tuple #[])∧∃u' v' F',Dn w X N u v F U (ie u.pure v.pure l) u' v' F' w':=by
 have ho:a7 (jg (u.m l.q)) 47:=eD (hw.st.now.1.mo l.q hq).one;have gZ:=jx (hw.ok.ok l.q hq).cM;have Ux:=Wm (hw.ok.ok l.q hq).cM;refine en (H:=[nE X N u]) 73 [vp 0 0 N,vv (lp P)] Tryz.func69 rfl rfl (hw.init (G:=fun w=>eM w P l a c) hl) ?_;refine r [3] rfl fun α=>l1 rfl (iV (l.q:Int)) (fun w hS=>hS.now.1.2.b.at 3 (cJ rfl)) (r [1] rfl fun _=>lo rfl rfl 0 rfl 47 (jg (u.m l.q)) (fun i hi=>oc hq hi) ?_);refine r [3] rfl fun β=>l1 rfl (iV l.fr) (fun w hS=>hS.now.1.2.b.at 1 (cJ rfl)) ?_;by_cases ht:(u.m l.q).B.t=l.fr
 case neg=>exact r [1] rfl fun _=>r [] rfl fun _=>fin fun w hS=>⟨rfl,u,v,F,Dn.fin hS hw.ub hw.nu (fun _ h=>⟨h.1.1,h.1.2⟩) hw.ok rfl rfl rfl rfl rfl (by rw[rK (.inl ht)]) (by rw[rK (.inl ht)])⟩
 refine rz [0,1] [(u.m l.q).B.e+1] rfl fun _=> ?_;refine l1 rfl (iV l.ep) (fun w hS=>hS.now.1.2.b.at 17 (cJ rfl)) ?_;by_cases Jw:(u.m l.q).B.e+1=l.ep
 case neg=>exact r [1] rfl fun _=>fin fun w hS=>⟨rfl,u,v,F,Dn.fin hS hw.ub hw.nu (fun _ h=>⟨h.1.1,h.1.2⟩) hw.ok rfl rfl rfl rfl rfl (by rw[rK (.inr Jw)]) (by rw[rK (.inr Jw)])⟩
 refine r [0] rfl fun _=>cut (X:=Nat×Int×Nu) (fun x=>[(2,vp 1 0 (α 0)),(3,vp 2 0 (α 1)),(4,vp 3 0 (β 0)),(5,vp 4 0 x.1),(6,vi x.2.1)]) (fun x=>[nE X N u,npE (α 0) 0 N,lpE (α 1) P,mgE (β 0) (u.m l.q),moE x.1 x.2.2.1 x.2.2.2.1 x.2.2.2.2.1 x.2.2.2.2.2]) (fun _ b=>F b∨(U b∧b≠N)) (fun x w=>((u.In w N∧∀r∈v.fl,oh w r)∧eM w P l a c)∧Ro x.2.2 w) (fun _=>RW X (fun b=>b∈[N]) F w v F) (fun x=>bh (u.m l.q).B l.pl=(x.2.2.1,x.2.1)) ?_ (r [4] rfl fun _=>l1 rfl (iV l.pl) (fun w hS=>hS.now.1.2.b.at 18 (cJ rfl)) ?_)
 case refine_2=>
  repeat' first|refine C9 ?_ ?_|(refine cx (g:=117) rfl (fun y:Int×Nu=>vt [JM y.2,.o (iV y.1)]) (fun y=>bh (u.m l.q).B l.pl=(y.2.1,y.1)∧a7 y.2.2.2.2 41) (fun y=>Ro y.2) ?_ ?_;exact fun w hS=>(GH _ (u.m l.q).B (u.m l.q).a (u.m l.q).c (u.m l.q).g l.pl w hS.ult (fun w2 c2=>(hS.g w2 c2).1.1.mo l.q hq) (hw.ok.ok l.q hq)).mono fun _ _ ⟨_,B8,er8,h0,fD,⟨a8,c8,g8,hy,hm8⟩,b⟩=>⟨(er8,B8,a8,c8,g8),by rw[h0,hy];rfl,b,⟨fD,hm8.now.one⟩,fun _=>hm8⟩;rintro⟨er8,B8,a8,c8,g8⟩ ⟨fD,o8⟩)|refine rs [] rfl rfl fun _=> ?_
  all_goals exact eJ (_,er8,B8,a8,c8,g8) ⟨rfl,rfl,rfl,rfl,rfl,trivial⟩ (fun w hS=>hS.IM [0,1,2,3,4] (by decide)) fD Nat.zero_lt_one
 rintro f ⟨R5,er8,B8,a8,c8,g8⟩ fD;have fD:bh (u.m l.q).B l.pl=(B8,er8):=fD;by_cases h0:er8=0
 case neg=>exact r [1] rfl fun _=>fin fun w hS=>⟨rfl,u,v,F,Dn.fin hS hw.ub hw.nu (fun _ h=>⟨h.1.1.1,h.1.1.2⟩) hw.ok rfl rfl rfl rfl rfl (by rw[CP ht Jw fD h0]) (by rw[CP ht Jw fD h0])⟩
 subst h0;refine r [0] rfl fun _=> ?_;by_cases rQ:B8.r=(u.m l.q).B.r
 ·refine r [1] rfl fun _=>ct rfl (vt []) (fun(y:Nv×Wv×(Nat→Prop)) w'=>Dn w X N u v F U (ie u.pure v.pure l) y.1 y.2.1 y.2.2 w') (fun x hS=> ?_) (fun _ _ _ h b=>h.next b) fun y=>r [] rfl fun _=>fin fun w hS=>⟨rfl,y.1,y.2.1,y.2.2,hS.now.2⟩;have Ke:=Dn.fin (r:=(u.pure,v.pure)) (u:=u) (v:=v) (F:=F) hS hw.ub hw.nu (fun _ h=>⟨h.1.1.1,h.1.1.2⟩) hw.ok rfl rfl rfl rfl rfl rfl rfl;have Uc:bU (fun b=>U b∨F b) x (fun y=>((((aZ y R5 117 47 (jg ⟨B8,a8,c8,g8⟩))∧aZ y (α 0) 109 1 (fun _=>lp N))∧aZ y (α 1) 171 1 (fun _=>lp P))∧oo y ⟨B8,a8,c8,g8⟩)∧eM y P l a c):=fun w2 c2=>⟨⟨⟨⟨((hS.kept 4 rfl 1 (cJ rfl)).mono fun b _ h=>toNM h) w2 c2,((hS.kept 1 rfl 1 (cJ rfl)).mono fun b _ h=>toNM h) w2 c2⟩,((hS.kept 2 rfl 1 (cJ rfl)).mono fun b _ h=>toNM h) w2 c2⟩,(hS.g w2 (c2.mono fun b h=>toHM h)).2⟩,(hS.g w2 (c2.mono fun b h=>toHM h)).1.2⟩;refine(CM X N u v F _ x Ke.nw ⟨B8,a8,c8,g8⟩ P l a c hq (nz fD) _ _ _ Uc hlen iE).mono ?_;rintro _ w7 ⟨rfl,u2,v2,F2,hd2⟩;exact⟨rfl,(u2,v2,F2),(Ke.trans hd2).to (by rw[AM ht Jw fD rQ]) (by rw[AM ht Jw fD rQ])⟩
 refine r [0,3] rfl fun _=>l1 rfl (iV (l.q:Int)) (fun w hS=>hS.now.1.1.2.b.at 3 (cJ rfl)) (r [] rfl fun δ=>kp 5 rfl (c0 rfl fun w1 hS=> ?_));obtain⟨oF,hu2,hu3⟩:=hS.rS;refine(jd X N u.i u.da u.dl.length u.dc u.dl u.sy (fun p=>jg (u.m p)) (u.hn) (u.he) u.wt u.af u.tu u.ct u.ub u.sk (.func 118) #[] #[.pointer (some ⟨R5,0,none⟩),.pointer (some ⟨α 0,0,none⟩),.pointer (some ⟨α 1,0,none⟩)] [⟨3,l.q,(u.m l.q).B.e,(u.m l.q).B.t,lY⟩] (some ⟨δ 0,0,none⟩) 1 1 _ (hS.at 0 rfl) _ oF hu2 (fun w2 cc=>⟨(hu3 w2 cc).1.1.1.1.row,mJ ⟨3,l.q,(u.m l.q).B.e,(u.m l.q).B.t,lY⟩ (oJ (by decide) hq gZ Ux qk) (hu3 w2 cc).2⟩) hw.ok.nil hw.ok.cap hw.ok.max hw.ok.len hw.ok.s0 hw.ok.s1 rfl (by decide) (fun r hr=>by rw[List.mem_singleton.1 hr];exact vL (by decide) (by decide) hq gZ Ux)).mono ?_;rintro _ w2 ⟨k,rfl,ch,⟨rfl,iY,a2,c2,w_,st2,kz,rU,hm2⟩|⟨rfl,iY,w_⟩⟩
 ·refine⟨vv (.bool true),_,_,rfl,ch,w_,st2,r [] rfl fun _=>dm rfl fun w3 hS=> ?_⟩;let u2:Nv:={u with da:=a2,dc:=c2,dl:=u.dl++cG [⟨3,l.q,(u.m l.q).B.e,(u.m l.q).B.t,lY⟩],af:= .func (.func 118) #[] #[.pointer (some ⟨R5,0,none⟩),.pointer (some ⟨α 0,0,none⟩),.pointer (some ⟨α 1,0,none⟩)],ax:=some (.shut l B8),ad:=⟨R5,α 0,α 1,0,P,a,c,⟨B8,a8,c8,g8⟩⟩};replace hS:=((hS.take 1).add (hS.kept 4 rfl 1 (cJ rfl))).add (hS.kept 1 rfl 1 (cJ rfl))|>.add (hS.kept 2 rfl 1 (cJ rfl))
  replace hS:=hS.congr 0 rfl (mj X u2) (fun i _=>by simp only[u2,mj,List.length_append];rfl);exact⟨rfl,u2,v,F,Dn.fin hS hw.ub hw.nu (fun _ h=>⟨⟨by rw[List.length_append];exact h.1.1.1.2,h.1.1.1.1.1.1.1.1.mo,⟨rfl,h.1.1.2,h.1.2,h.2,h.1.1.1.1.1.1.2,h.1.1.1.1.1.2,rfl⟩,h.1.1.1.1.1.1.1.1.wl⟩,h.1.1.1.1.1.1.1.2⟩) (⟨hw.ok.ok,rU,by rw[List.length_append];exact kz,hm2,by rw[List.length_append];exact iY,hw.ok.s0,by rw[List.length_append];show u.sy≤_;have:=hw.ok.s1;omega,hw.ok.i5,⟨hq,nz fD⟩⟩) rfl rfl rfl rfl rfl (by rw[CQ ht Jw fD rQ iY]) (by rw[CQ ht Jw fD rQ iY])⟩
 ·refine⟨vv (.bool false),_,fun _=>True,rfl,ch,w_,fun _ _=>trivial,r [] rfl fun _=>dm rfl fun w hS=> ?_⟩;exact⟨rfl,u,v,F,Dn.fin hS hw.ub hw.nu (fun _ h=>⟨h.1.1.1.1.1,h.1.1.1.1.2⟩) hw.ok rfl rfl rfl rfl rfl (by rw[AN ht Jw fD rQ iY]) (by rw[AN ht Jw fD rQ iY])⟩
theorem Fg{B B':Bt}{v:Ev}{an:An}{er:Int}(h:cQ B v B' an true er):v.Ok:=by
 cases h with
 |done h hv=>exact hv
section
variable{u:Nv}{v:Wv}{l:Lt}{B8:Bt}{an:An}{k:Bool}{er:Int}
theorem AO(hr:¬((u.m l.q).B.r=1∨(u.m l.q).B.r=2))(h:dZ (u.m l.q).B l.op=(B8,an,k,er)):jy u.pure v.pure l=(u.pure,g_ v.pure (mZ l.nu an (u.hn l.q) (u.he l.q))):=by
 unfold jy;rw[if_pos hr,h]
theorem AP(hr:(u.m l.q).B.r=1∨(u.m l.q).B.r=2)(h:dZ (u.m l.q).B l.op=(B8,an,false,er)):jy u.pure v.pure l=(u.pure,jE u.pure v.pure l an):=by
 unfold jy;rw[if_neg (fun k=>k hr),h,if_pos rfl]
theorem AQ(hr:(u.m l.q).B.r=1∨(u.m l.q).B.r=2)(h:dZ (u.m l.q).B l.op=(B8,an,true,er))(hf:100000<u.dl.length+(cG [⟨2,l.q,(u.m l.q).B.e,0,l.op⟩]).length):jy u.pure v.pure l=(u.pure,jE u.pure v.pure l ⟨14,0,0,0⟩):=by
 unfold jy pS;rw[if_neg (fun k=>k hr),h,if_neg (show ¬true=false by decide),if_neg (Nat.not_le.2 hf)]
theorem CS(hr:(u.m l.q).B.r=1∨(u.m l.q).B.r=2)(h:dZ (u.m l.q).B l.op=(B8,an,true,er))(hf:u.dl.length+(cG [⟨2,l.q,(u.m l.q).B.e,0,l.op⟩]).length≤100000):jy u.pure v.pure l=({u.pure with dl:=u.dl++cG [⟨2,l.q,(u.m l.q).B.e,0,l.op⟩],af:=some (.serve l an)},v.pure):=by
 unfold jy pS;rw[if_neg (fun k=>k hr),h,if_neg (show ¬true=false by decide),if_pos hf]
end
theorem SF(X N:Nat)(u:Nv)(v:Wv)(F U:tI)(w:tF)(hw:NW w X N u v F U)(P:Nat)(l:Lt)(a:tG)(c:Nat)(hq:l.q<4)(hop:∀x∈aX l.op,(Lit.int .i64 x).wf=true)(hl:bU U w fun w=>eM w P l a c)(hlen:v.fl.length≤1000000000000)(iE:v.sv.length≤1000000000000):cA 67 #[lp N,lp P] w fun x w'=>x= .returned (.tuple #[])∧∃u' v' F',Dn w X N u v F U (jy u.pure v.pure l) u' v' F' w':=by
 have ho:a7 (jg (u.m l.q)) 47:=eD (hw.st.now.1.mo l.q hq).one;have gZ:=jx (hw.ok.ok l.q hq).cM;have lop:∀{w1},eM w1 P l a c→∀j,j<6→w1.cell? ⟨P,5+j,none⟩=some (lF [iV l.op.k,iV l.op.p,iV l.op.i,iV l.op.b,iV l.op.he,iV l.op.hn] j):=fun h j hj=>(h.b.at (5+j) (by omega)).trans (congrArg some (qI rfl hj));refine en (H:=[⟨N,126,[.f 206 (mj X u)]⟩]) 74 [vp 0 0 N,vv (lp P)] Tryz.func67 rfl rfl (hw.init (G:=fun w=>eM w P l a c) hl) ?_;refine r [] rfl fun α=>l1 rfl (iV (l.q:Int)) (fun w hS=>hS.now.1.2.b.at 3 (cJ rfl)) ?_;refine r [3,1] rfl fun β=>lo rfl rfl 0 rfl 47 (jg (u.m l.q)) (fun i hi=>oc hq hi) ?_;refine r [] rfl fun γ=> ?_;refine cut (X:=Nat×An×Bool) (fun x=>[(2,vp 1 0 (α 0)),(3,vp 2 0 (α 1)),(4,vp 3 0 (β 0)),(5,vp 4 0 (γ 0)),(7,vp 5 0 x.1),(8,vv (.bool x.2.2))]) (fun x=>[⟨N,126,[.f 206 (mj X u)]⟩,⟨α 0,109,[.p 0 0 N]⟩,⟨α 1,171,[.o (lp P)]⟩,⟨β 0,3,[.o (iV (l.q:Int))]⟩,⟨γ 0,117,[.f 47 (jg (u.m l.q))]⟩,⟨x.1,59,Pw x.2.1⟩]) (fun _ b=>F b∨(U b∧b≠N)) (fun _ w=>(u.In w N∧∀r∈v.fl,oh w r)∧eM w P l a c) (fun _=>RW X (fun b=>b∈[N]) F w v F) (fun x=>∃B8 er8,cQ (u.m l.q).B l.op B8 x.2.1 x.2.2 er8) ?_ (r [4] rfl fun _=>lf rfl 6 _ (fun w hS=>lop hS.now.1.2) ?_)
 case refine_2=>
  repeat' first|refine C9 ?_ ?_|refine fk3 ?_ ?_ ?_|(refine cq (g:=109) rfl (fun y:(Bt×Option Addr×Nat×(Nat→Value))×An×Bool×Int=>vt [.g (pU y.1.1 y.1.2.1 y.1.2.2.1 y.1.2.2.2),.g (Pw y.2.1),.o (.bool y.2.2.1),.o (iV y.2.2.2)]) (fun y=>cQ (u.m l.q).B l.op y.1.1 y.2.1 y.2.2.1 y.2.2.2∧a7 y.1.2.2.2 41) ?_ ?_;exact fun w hS=>(zX (fun b=>b∈(hs _).map bT.a∨F b∨(U b∧b≠N)) (u.m l.q).B (u.m l.q).a (u.m l.q).c (u.m l.q).g l.op w hS.ult (fun w2 c2=>(hS.g w2 c2).1.1.mo l.q hq) (hw.ok.ok l.q hq) hop).mono fun _ _ ⟨_,an,k,er,B8,h0,h1,⟨a8,c8,g8,hy,hm8⟩,b⟩=>⟨((B8,a8,c8,g8),an,k,er),by rw[h0,hy];rfl,b,h1,hm8.now.one⟩;rintro⟨⟨B8,a8,c8,g8⟩,an8,k8,er8⟩ ⟨Lx,o8⟩)|refine rs [] rfl rfl fun _=> ?_
  all_goals first|exact eJ (_,an8,k8) ⟨rfl,rfl,rfl,rfl,rfl,rfl,trivial⟩ (fun w hS=>hS.IM [0,1,2,3,4,5] (by decide)) ⟨_,_,Lx⟩ Nat.zero_lt_one|exact eJ (_,an8,k8) ⟨rfl,rfl,rfl,rfl,rfl,rfl,trivial⟩ (fun w hS=>hS.IM [0,1,2,3,4,6] (by decide)) ⟨_,_,Lx⟩ Nat.zero_lt_one
 rintro f ⟨R7,an8,k8⟩ ⟨B8,er8,Lx⟩;have e8:=sB Lx;refine r [] rfl fun _=> ?_;by_cases rQ:(u.m l.q).B.r=1∨(u.m l.q).B.r=2
 case neg=>
  refine Rv.cb rfl (vv (.bool false)) (fun w _=>(kE _ _ _ _ _ _ _ _ _ w).mono fun _ _ ⟨h,b⟩=>⟨by rw[h,decide_eq_false rQ];rfl,b⟩) (r [3,1] rfl fun _=>lo rfl rfl 0 rfl 2 (lF [iV (u.hn l.q),iV (u.he l.q)]) (fun i hi=>ab3 hq hi) (r [] rfl fun _=> ?_));refine cw rfl (vt []) _ _ (fun w hS=>Hz X v F _ w N u P l a c an8 (u.hn l.q) (u.he l.q) hS.now.2.wo hS.ult (fun b h=> .inr (.inl h)) (fun w2 c2=>(hS.xT 0 rfl w2 (c2.mono fun b h=> .inl h)).2) (fun w2 c2=>(hS.g w2 c2).2) hlen) fun P1 F1=>r [] rfl fun _=>fin fun w hS=> ?_;exact⟨rfl,u,_,F1,Dn.fin hS hw.ub hw.nu (fun _ h=>⟨h.1.1.1,gi h.1.1.2 h.2⟩) hw.ok rfl rfl rfl rfl rfl (by rw[AO rQ e8]) (by rw[AO rQ e8];exact ki _ _)⟩
 refine Rv.cb rfl (vv (.bool true)) (fun w _=>(kE _ _ _ _ _ _ _ _ _ w).mono fun _ _ ⟨h,b⟩=>⟨by rw[h,decide_eq_true rQ];rfl,b⟩) ?_;cases k8
 ·refine r [] rfl fun _=>cw rfl (vt []) _ _ (fun w hS=>xg X v F _ w N u P l a c an8 hq hS.now.2.wo hS.ult (fun b h=> .inr (.inl h)) (fun w2 c2=>(hS.xT 0 rfl w2 (c2.mono fun b h=> .inl h)).2) (fun w2 c2=>(hS.g w2 c2).2) hlen iE) fun P1 F1=>r [] rfl fun _=>dm rfl fun w hS=> ?_;exact⟨rfl,u,_,F1,Dn.fin hS hw.ub hw.nu (fun _ h=>⟨h.1.1.1,gi h.1.1.2 h.2⟩) hw.ok rfl rfl rfl rfl rfl (by rw[AP rQ e8]) (by rw[AP rQ e8];exact AJ _ _ _)⟩
 refine r [3] rfl fun _=>lf rfl 6 _ (fun w hS=>lop hS.now.1.2) (r [] rfl fun δ=> ?_);refine kp 6 rfl (c0 rfl fun w1 hS=> ?_);obtain⟨oF,hu2,hu3⟩:=hS.rS;refine(jd X N u.i u.da u.dl.length u.dc u.dl u.sy (fun p=>jg (u.m p)) (u.hn) (u.he) u.wt u.af u.tu u.ct u.ub u.sk (.func 112) #[] #[.pointer (some ⟨α 0,0,none⟩),.pointer (some ⟨β 0,0,none⟩),.pointer (some ⟨α 1,0,none⟩),.pointer (some ⟨R7,0,none⟩)] [⟨2,l.q,(u.m l.q).B.e,0,l.op⟩] (some ⟨δ 0,0,none⟩) 1 1 _ (hS.at 0 rfl) _ oF hu2 (fun w2 cc=>⟨(hu3 w2 cc).1.1.1.row,mJ ⟨2,l.q,(u.m l.q).B.e,0,l.op⟩ (oJ (by decide) hq gZ (by decide) hop) (hu3 w2 cc).2⟩) hw.ok.nil hw.ok.cap hw.ok.max hw.ok.len hw.ok.s0 hw.ok.s1 rfl (by decide) (fun r hr=>by rw[List.mem_singleton.1 hr];exact Sy (.inl rfl) hq gZ (Fg Lx))).mono ?_;rintro _ w2 ⟨k,rfl,ch,⟨rfl,iY,a2,c2,w_,st2,kz,rU,hm2⟩|⟨rfl,iY,w_⟩⟩
 ·refine⟨vv (.bool true),_,_,rfl,ch,w_,st2,r [] rfl fun _=>dm rfl fun w3 hS=> ?_⟩;let u':Nv:={u with da:=a2,dc:=c2,dl:=u.dl++cG [⟨2,l.q,(u.m l.q).B.e,0,l.op⟩],af:= .func (.func 112) #[] #[.pointer (some ⟨α 0,0,none⟩),.pointer (some ⟨β 0,0,none⟩),.pointer (some ⟨α 1,0,none⟩),.pointer (some ⟨R7,0,none⟩)],ax:=some (.serve l an8),ad:=⟨α 0,β 0,α 1,R7,P,a,c,u.m 0⟩};replace hS:=((((hS.take 1).add (hS.kept 1 rfl 1 (cJ rfl))).add (hS.kept 3 rfl 1 (cJ rfl))).add (hS.kept 2 rfl 1 (cJ rfl))).add (hS.kept 5 rfl 1 (cJ rfl));replace hS:=hS.congr 0 rfl (mj X u') (fun i _=>by simp only[u',mj,List.length_append];rfl);exact⟨rfl,u',v,F,Dn.fin hS hw.ub hw.nu (fun _ h=>⟨⟨by rw[List.length_append];exact h.1.1.1.1.2,h.1.1.1.1.1.1.1.1.mo,⟨rfl,h.1.1.1.2,h.1.1.2,h.1.2,h.2,h.1.1.1.1.1.1.2⟩,h.1.1.1.1.1.1.1.1.wl⟩,h.1.1.1.1.1.1.1.2⟩) (⟨hw.ok.ok,rU,by rw[List.length_append];exact kz,hm2,by rw[List.length_append];exact iY,hw.ok.s0,by rw[List.length_append];show u.sy≤_;have:=hw.ok.s1;omega,hw.ok.i5,⟨hq,hop⟩⟩) rfl rfl rfl rfl rfl (by rw[CS rQ e8 iY]) (by rw[CS rQ e8 iY])⟩
 ·refine⟨vv (.bool false),_,fun _=>True,rfl,ch,w_,fun _ _=>trivial,r [] rfl fun _=>cw rfl (vt []) _ _ (fun w hS=>xg X v F _ w N u P l a c ⟨14,0,0,0⟩ hq hS.now.2.wo hS.ult (fun b h=> .inr (.inl h)) (fun w2 c2=>(hS.xT 0 rfl w2 (c2.mono fun b h=> .inl h)).2) (fun w2 c2=>(hS.g w2 c2).1.1.2) hlen iE) fun P1 F1=>r [] rfl fun _=>dm rfl fun w hS=> ?_⟩;exact⟨rfl,u,_,F1,Dn.fin hS hw.ub hw.nu (fun _ h=>⟨h.1.1.1.1.1,gi h.1.1.1.1.2 h.2⟩) hw.ok rfl rfl rfl rfl rfl (by rw[AQ rQ e8 iY]) (by rw[AQ rQ e8 iY];exact AJ _ _ _)⟩
end
section
variable{P:tW}{ops:tP}{Q:tL}{V:tV}{fx fl:tV}{n:Nat}{f:tH}{w:tF}{i:Nat}{t:Ord}{o:Oper}{d:Nat}{H:List bT}{M:tI}{G R:tM}
theorem ab_{s s':Nat}{x y:tT}{a b c:Int}(hb:¬b=0)(hc:a.tmod b=c)(ho:ops[i]? =some o)(hd:o.dst=some d)(hw:Region.wanted o (yielded ops (kL n f))=true)(hK:ji n ops=true)(hp:o.op= .binOp .rem s x y s')(hx:ev f x=iV a)(hy:ev f y=iV b)(h:WF P ops Q V fx fl t n (up f d (iV c)) w):WF P ops Q V fx fl (.pu i t) n f w:=
 xu ho hd hw hK (fun w'=>by subst hc;simp[execOp,hp,hx,hy,eqGuard,binOp,Op.intDiv,hb]) h
end
def gm(n:Nd)(q:Nat):List Lt:=
 if(n.mo q).r=2 then[Ft n.i (n.mo q) q]else if(n.mo q).r=3 then[Ft n.i (n.mo q) q,PV n.i q]else if(n.mo q).r=1∧1<(n.mo q).e∧n.he q<(n.mo q).e then[I5 n.i (n.mo q) q]else[]
def fR:Nat→Nd→Ws→Nd×Ws
 |0,n,s=>(n,s)
 |k+1,n,s=>if(gm n n.tu).length=0 then fR k {n with tu:=(n.tu+1) % 4} s else({n with tu:=(n.tu+1) % 4},{s with fl:=s.fl++gm n n.tu})
structure xh(w:tF)(R:Nat)(ls:List Lt):Prop where
 cell:∀k l,ls[k]? =some l→∀j,j<21→w.cell? ⟨R,k*21+j,none⟩=some (lF (LY l none 0) j)
theorem xh.one{w:tF}{R:Nat}{l:Lt}(h:aZ w R 170 21 (lF (LY l none 0))):xh w R [l]:=⟨fun k l' hk j hj=>by
 obtain⟨UB,rfl⟩:=List.getElem?_eq_some_iff.1 hk;have:k=0:=by simpa using UB
 subst this;rw[Nat.zero_mul,Nat.zero_add]
 exact h.at j hj⟩
theorem xh.two{w:tF}{R:Nat}{l l':Lt}(h:aZ w R 170 42 (lF (LY l none 0++LY l' none 0))):xh w R [l,l']:=⟨fun k x hk j hj=>by
 match k,hk with
 |0,hk=>
  cases hk;rw[Nat.zero_mul,h.at (0+j) (by omega)];exact congrArg some (qI (q:=0) (m:=21) rfl hj)
 |1,hk=>
  cases hk;rw[Nat.one_mul,h.at (21+j) (by omega)]
  exact congrArg some (qI (q:=21) (m:=21) rfl hj)⟩
end Go.Proofs.YtmhifeahpnkpiaaGreatDoor
