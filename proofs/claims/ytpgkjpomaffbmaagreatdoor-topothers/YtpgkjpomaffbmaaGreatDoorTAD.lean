/- Out of my texts: RlF, RlE, RlG, RlH, RlJ, RlK, QaG, BeJ, RlL, HsN, HsQ, CuA, CuB, CuC, CuD, CuE, CuF, CuG, CuH, CuI, CuJ, CuK, CuL, CuM, CuN, CuO, CuP, CuQ, CuS, CuU, CwA, CwB, RvW, CwP, RvX, RvO, RvU, CwC, CwD, CwE, CwF, CwG, BeK, CwH, CwI, CwJ, CwK, CwL, CwM, CwN. -/
import Derived.Deep.DeepCutAuto
import Derived.Deep.RegionHeld3
import Derived.Test.YtpgkjpomaffbmaaGreatDoorTAA
import Derived.Test.YtpgkjpomaffbmaaGreatDoorTAB
import Derived.Test.YtpgkjpomaffbmaaGreatDoorTAC
set_option maxRecDepth 20000
set_option maxHeartbeats 8000000
set_option linter.unusedVariables false
namespace Go.Proofs.YtpgkjpomaffbmaaGreatDoor
open Go.RowKit
abbrev Bu:= @Int.toNat_natCast
abbrev BG:= @Nat.min_eq_left
abbrev BV:= @List.length_singleton
abbrev BX:= @Array.getElem?_toList
theorem SU(B:Bt)(a:tB)(c:Nat)(r:Rec)(w:tA)(base:Nat)(bU:w.ownsRow base 56 6 (.slice a B.es.length c) B.es.length ((au B.es).map (Value.int .i64)))(hb:base≤w.heap.size)(hs:(B.es.length+1)*48≤140737488355328):
  cA 183 #[cg B.r B.e B.f B.t B.o a B.es.length c,mQ r] w fun x w'=>fP w w' base (.slice a B.es.length c) x (some (B.more [r.v]))∧w.grownBy w' (Value.slice a B.es.length c).ownBlock:=by
 obtain⟨i6,hi6,hz60,hz61,hz62⟩:=iw Tryz.mq;go_enter Tryz.func183,Tryz.ntmps183
 go_upto_region 1 with fail
 obtain⟨W1,hW1,M1⟩:=Mr.made w B a c r;rw[←hW1];clear hW1;have xT:=cI M1.z;have O1:=Ow.made M1 bU;obtain⟨x0,x1,x2,x3,x4,x5⟩:=M1.b.cells;obtain⟨r0,r1,r2,r3,r4,r5,r6,r7,r8,r9⟩:=M1.rc.cells;have g1:B.es.length+1≤maxLen:=by unfold maxLen;omega
 have g2:(B.es.length+1)*48≤140737488355328:=hs;have g3:base≤W1.heap.size:=by omega
 have g4:=I1 W1 r.v.k r.v.p r.v.i r.v.b r.v.he r.v.hn 56;have g5:=O1.own.alloc (.cells #[iV r.v.k,iV r.v.p,iV r.v.i,iV r.v.b,iV r.v.he,iV r.v.hn] 56);have G1:=ai g1;have G2:=ai g2;have G3:=ai g3;have G4:=ai g4;have G5:=ai g5;have YV:=ai O1;have HOW:=ai bU;clear g1 g2 g3 g4 g5 M1 O1 bU
 go_upto_region 2 with(at_builtin;refine wpList_append_own_at _ rfl (.tmp 7) (.tmp 10) 41 rfl base 56 i6 _ 6 48 Tryz.underlying41 hi6 hz60 hz61 hz62 rfl (by decide) (.slice a B.es.length c) B.es.length ((au B.es).map (Value.int .i64)) rfl (aa G5) ⟨W1.heap.size,0,none⟩ 1 1 ([r.v.k,r.v.p,r.v.i,r.v.b,r.v.he,r.v.hn].map (Value.int .i64)) rfl rfl (aa G4) (Cw .i64 _) (aa G1) (aa G2) (by have:=aa G3;simp;omega) ?_;intro v2 W2 Gk grow2 _ hat2;obtain⟨a2,c2,rfl⟩:=mI Gk;have HAT:Hid (DN w (.slice a B.es.length c) (.slice a2 (B.es.length+1) c2)):=ai (fun g hg=>by rcases hat2 with e|e<;>rw[e]at hg<;>first|exact .inl hg|(cases hg;exact .inr (by simp;omega)));clear hat2;obtain⟨k2,K2⟩:=(aa YV).added (aa HOW) Gk grow2;clear x0 x1 x2 x3 x4 x5 r0 r1 r2 r3 r4 r5 r6 r7 r8 r9 Gk grow2;have x5:=k2.cells.2.2.2.2.2;have xf:=k2.free 5;have HK:=ai k2;have G_:=ai K2;clear k2 K2)
 obtain⟨W3,hW3,O3⟩:∃W3,W3=W2.setCell ⟨w.heap.size,5,none⟩ (.slice a2 (B.es.length+1) c2)∧Ow w W3 base (Value.slice a B.es.length c).ownBlock B.r B.e B.f B.t B.o a2 (B.es.length+1) c2 (B.es++[r.v]):=by
  refine⟨_,rfl,aa G_ _ (aB.set _ _ _ _) _ _ _ _ _ ?_⟩;have:=aa HK;unfold aG at this⊢;rw[cL this];simp
 rw[←hW3];clear hW3 x5 xf HK G_;obtain⟨W4,hW4,d4,D4,b4⟩:=O3.out;obtain⟨y0,y1,y2,y3,y4,y5⟩:=O3.b.cells;obtain⟨z0,z1,z2,z3,z4,z5⟩:=O3.z.cells;have zf:=O3.z.free;have D5:=ai (D4 (by simp));have MF:=ai b4;have MG:=ai d4;have Z2:=ai hW4;clear hW4 d4 D4 b4 O3 YV HOW G1 G2 G3 G4 G5;go_wp2;rw[←aa Z2];exact Ao (WG (aa MG) rfl rfl) rfl ⟨fP.lie (aa D5) (aa HAT) (by simp[A4]),aa MF⟩
theorem DP(B:Bt)(a:tB)(c:Nat)(r:Rec)(w:tA)(base:Nat)(bU:w.ownsRow base 56 6 (.slice a B.es.length c) B.es.length ((au B.es).map (Value.int .i64)))(hb:base≤w.heap.size)(hs:(B.es.length+1)*48≤140737488355328):
  cA 186 #[cg B.r B.e B.f B.t B.o a B.es.length c,mQ r] w fun x w'=>fP w w' base (.slice a B.es.length c) x (some ⟨1,B.e,0,B.t,B.o,B.es++[Ev.brk]⟩)∧w.grownBy w' (Value.slice a B.es.length c).ownBlock:=by
 obtain⟨i6,hi6,hz60,hz61,hz62⟩:=iw Tryz.mq;go_enter Tryz.func186,Tryz.ntmps186
 go_upto_region 1 with fail
 obtain⟨W0,hW0,M0⟩:=Mr.made w B a c r;rw[←hW0];clear hW0;have O0:=Ow.made M0 bU;obtain⟨x0,x1,x2,x3,x4,x5⟩:=M0.b.cells;have xf:=M0.b.free;have Z_:=ai O0;have HOW:=ai bU;clear M0 O0 bU
 go_upto_region 2 with fail
 obtain⟨W1,hW1,O1⟩:∃W1,W1=(W0.setCell ⟨w.heap.size,0,none⟩ (iV 1)).setCell ⟨w.heap.size,2,none⟩ (iV 0)∧Ow w W1 base (Value.slice a B.es.length c).ownBlock 1 B.e 0 B.t B.o a B.es.length c B.es:=by
  refine⟨_,rfl,(aa Z_).dR ((aB.set _ _ _ _).trans (aB.set _ _ _ _)) ?_⟩;have:=(aa Z_).b;unfold aG at this⊢;rw[cL (cL this)];simp
 rw[←hW1];clear hW1 x0 x1 x2 x3 x4 x5 xf Z_;have xT:=O1.z.lt;obtain⟨x0,x1,x2,x3,x4,x5⟩:=O1.b.cells;have g1:B.es.length+1≤maxLen:=by unfold maxLen;omega
 have g2:(B.es.length+1)*48≤140737488355328:=hs;have g3:base≤W1.heap.size:=by omega
 have g4:=I1 W1 4 0 0 0 0 0 56;have g5:=O1.own.alloc (.cells #[iV 4,iV 0,iV 0,iV 0,iV 0,iV 0] 56);have G1:=ai g1;have G2:=ai g2;have G3:=ai g3;have G4:=ai g4;have G5:=ai g5;have YV:=ai O1;clear g1 g2 g3 g4 g5 O1
 go_upto_region 3 with(at_builtin;refine wpList_append_own_at _ rfl (.tmp 9) (.tmp 11) 41 rfl base 56 i6 _ 6 48 Tryz.underlying41 hi6 hz60 hz61 hz62 rfl (by decide) (.slice a B.es.length c) B.es.length ((au B.es).map (Value.int .i64)) rfl (aa G5) ⟨W1.heap.size,0,none⟩ 1 1 ([4,0,0,0,0,0].map (Value.int .i64)) rfl rfl (aa G4) (Cw .i64 _) (aa G1) (aa G2) (by have:=aa G3;simp;omega) ?_;intro v2 W2 Gk grow2 _ hat2;obtain⟨a2,c2,rfl⟩:=mI Gk;have HAT:Hid (DN w (.slice a B.es.length c) (.slice a2 (B.es.length+1) c2)):=ai (fun g hg=>by rcases hat2 with e|e<;>rw[e]at hg<;>first|exact .inl hg|(cases hg;exact .inr (by simp;omega)));clear hat2;obtain⟨k2,K2⟩:=(aa YV).added (x:=Ev.brk) (aa HOW) Gk grow2;clear x0 x1 x2 x3 x4 x5 Gk grow2;have x5:=k2.cells.2.2.2.2.2;have xf:=k2.free 5;have HK:=ai k2;have G_:=ai K2;clear k2 K2)
 obtain⟨W3,hW3,O3⟩:∃W3,W3=W2.setCell ⟨w.heap.size,5,none⟩ (.slice a2 (B.es.length+1) c2)∧Ow w W3 base (Value.slice a B.es.length c).ownBlock 1 B.e 0 B.t B.o a2 (B.es.length+1) c2 (B.es++[Ev.brk]):=by
  refine⟨_,rfl,aa G_ _ (aB.set _ _ _ _) _ _ _ _ _ ?_⟩;have:=aa HK;unfold aG at this⊢;rw[cL this];simp
 rw[←hW3];clear hW3 x5 xf HK G_;obtain⟨W4,hW4,d4,D4,b4⟩:=O3.out;obtain⟨y0,y1,y2,y3,y4,y5⟩:=O3.b.cells;obtain⟨z0,z1,z2,z3,z4,z5⟩:=O3.z.cells;have zf:=O3.z.free;have D5:=ai (D4 (by simp));have MF:=ai b4;have MG:=ai d4;have Z2:=ai hW4;clear hW4 d4 D4 b4 O3 YV HOW G1 G2 G3 G4 G5;go_wp2;rw[←aa Z2];exact Ao (Gi (aa MG) rfl rfl) rfl ⟨fP.lie (aa D5) (aa HAT) (by simp[A4]),aa MF⟩
theorem Pv(B:Bt)(a:tB)(c:Nat)(r:Rec)(w:tA)(base:Nat)(bU:w.ownsRow base 56 6 (.slice a B.es.length c) B.es.length ((au B.es).map (Value.int .i64))):
  cA 184 #[cg B.r B.e B.f B.t B.o a B.es.length c,mQ r] w fun x w'=>fP w w' base (.slice a B.es.length c) x (some ⟨3,B.e,B.f,r.p,B.o,B.es⟩)∧w.grownBy w' (Value.slice a B.es.length c).ownBlock:=by
 go_enter Tryz.func184,Tryz.ntmps184
 go_upto_region 1 with fail
 obtain⟨W0,hW0,M0⟩:=Mr.made w B a c r;rw[←hW0];clear hW0;have O0:=Ow.made M0 bU;obtain⟨x0,x1,x2,x3,x4,x5⟩:=M0.b.cells;obtain⟨r0,r1,r2,r3,r4,r5,r6,r7,r8,r9⟩:=M0.rc.cells;have xf:=M0.b.free;have Z_:=ai O0;clear M0 O0 bU
 go_region
 obtain⟨W3,hW3,O3⟩:∃W3,W3=((W0.setCell ⟨w.heap.size,0,none⟩ (iV 3)).setCell ⟨w.heap.size,3,none⟩ (iV r.p)).drew∧Ow w W3 base (Value.slice a B.es.length c).ownBlock 3 B.e B.f r.p B.o a B.es.length c B.es:=by
  refine⟨_,rfl,(aa Z_).dR (((aB.set _ _ _ _).trans (aB.set _ _ _ _)).trans (aB.drawn _ _)) ?_⟩;have:=(aa Z_).b;unfold aG at this⊢;show((W0.setCell ⟨w.heap.size,0,none⟩ (iV 3)).setCell ⟨w.heap.size,3,none⟩ (iV r.p)).heap[w.heap.size]? =_;rw[cL (cL this)];simp
 rw[←hW3];clear hW3 x0 x1 x2 x3 x4 x5 r0 r1 r2 r3 r4 r5 r6 r7 r8 r9 xf Z_;obtain⟨W4,hW4,d4,D4,b4⟩:=O3.out;obtain⟨y0,y1,y2,y3,y4,y5⟩:=O3.b.cells;obtain⟨z0,z1,z2,z3,z4,z5⟩:=O3.z.cells;have zf:=O3.z.free;have D5:=ai (D4 rfl);have MF:=ai b4;have MG:=ai d4;have Z2:=ai hW4;clear hW4 d4 D4 b4 O3;go_wp2;rw[←aa Z2];exact Ao (SS (aa MG) rfl rfl) rfl ⟨fP.lie (aa D5) (fun g hg=> .inl hg) (by simp[A4]),aa MF⟩
theorem fP.parts{w w':tA}{base:Nat}{oZ:tK}{x:Ending}{o:Option Bt}(h:fP w w' base oZ x o):∃a c,x= .returned (.tuple #[cg (gi o).r (gi o).e (gi o).f (gi o).t (gi o).o a (gi o).es.length c,.bool o.isSome])∧w'.ownsRow base 56 6 (.slice a (gi o).es.length c) (gi o).es.length ((au (gi o).es).map (Value.int .i64))∧(o=none→a=none∧c=0)∧DN w oZ (.slice a (gi o).es.length c)∧(o.isSome=true→(gi o).es.length<A4 oZ→bZ w w'):=by
 cases o with
 |none=>exact⟨none,0,h,BA _ _ _ _,fun _=>⟨rfl,rfl⟩,(fun g hg=>by cases hg),fun h=>by cases h⟩
 |some D=>obtain⟨a,c,h1,h2,h3,h4⟩:=h;exact⟨a,c,h1,h2,(fun h=>by cases h),h3,fun _=>h4⟩
theorem fP.of{w w':tA}{base:Nat}{oZ:tK}{o:Option Bt}{a:tB}{c:Nat}(h:w'.ownsRow base 56 6 (.slice a (gi o).es.length c) (gi o).es.length ((au (gi o).es).map (Value.int .i64)))(hn:o=none→a=none∧c=0)(hl:DN w oZ (.slice a (gi o).es.length c))(hb:o.isSome=true→(gi o).es.length<A4 oZ→bZ w w'):fP w w' base oZ (.returned (.tuple #[cg (gi o).r (gi o).e (gi o).f (gi o).t (gi o).o a (gi o).es.length c,.bool o.isSome])) o:=by
 cases o with
 |none=>obtain⟨rfl,rfl⟩:=hn rfl;rfl
 |some D=>exact⟨a,c,rfl,h,hl,hb rfl⟩
theorem ET(B:Bt)(base:Nat)(a:tB)(c:Nat)(r:Rec)(w:tA)(P Q N:Nat)(role:Int)(o:Option Bt)(hP:w.cell? ⟨P,0,none⟩=some (iV role))(hQ:w.cell? ⟨Q,0,none⟩=some (.func (.func N) #[] #[]))(hr:∀k,(Value.slice a B.es.length c).ownBlock=some k→k<w.heap.size)
  (YK:∀args w,(callFunc N args).run Tryz.prog w= .ok (.enter N args) w)
  (HN:∀W,bZ w W→cA N #[cg B.r B.e B.f B.t B.o a B.es.length c,mQ r] W fun x w'=>fP W w' base (.slice a B.es.length c) x o∧W.grownBy w' (Value.slice a B.es.length c).ownBlock):
  cA 200 #[cg B.r B.e B.f B.t B.o a B.es.length c,mQ r,.pointer (some ⟨P,0,none⟩),.pointer (some ⟨Q,0,none⟩)] w fun x w'=>fP w w' base (.slice a B.es.length c) x (Lc B r role o)∧w.grownBy w' (Value.slice a B.es.length c).ownBlock:=by
 have lP:=Cv w _ hP;have lQ:=Cv w _ hQ;have HNV:=ai HN;have HR:=ai hr;clear HN hr;go_enter Tryz.func200,Tryz.ntmps200
 go_upto_region 1 with fail
 obtain⟨W1,hW1,M1⟩:=Mr.made w B a c r;rw[←hW1];clear hW1;have p1:W1.cell? ⟨P,0,none⟩=some (iV role):=(M1.dp.cell (p:=⟨P,0,none⟩) lP).trans hP;have q1:W1.cell? ⟨Q,0,none⟩=some (.func (.func N) #[] #[]):=(M1.dp.cell (p:=⟨Q,0,none⟩) lQ).trans hQ;obtain⟨x0,x1,x2,x3,x4,x5⟩:=M1.b.cells;obtain⟨r0,r1,r2,r3,r4,r5,r6,r7,r8,r9⟩:=M1.rc.cells;have HM:=ai M1;clear M1 hP hQ lP lQ;by_cases h:B.r=role∧B.e=r.e
 case neg=>
  have hd:Lc B r role o=none:=Aa h;have HD:=ai hd;obtain⟨z0,z1,z2,z3,z4,z5⟩:=(aa HM).z.cells;have zf:=(aa HM).z.free;have e0:(B.r !=role)=true∨((B.r !=role)=false∧(B.e !=r.e)=true):=by
   by_cases h1:B.r=role
   ·exact .inr ⟨by simp[h1],by simp;exact fun h2=>h ⟨h1,h2⟩⟩
   ·exact .inl (by simp[h1])
  clear h hd;rcases e0 with e1|⟨e1,e2⟩
  all_goals
   go_wp2;obtain⟨W4,hW4,d4,b4,_⟩:=dP (aa HM).z (aa HM).dp (show w.heap.size≤w.heap.size+2 by omega) 0 0 0 0 0 none 0 0;rw[←hW4];refine Ao (Nc d4 rfl rfl) rfl ⟨?_,eP _ b4⟩;rw[aa HD];exact rfl
 case pos=>
 have hd:Lc B r role o=o:=Ae h;have HD:=ai hd;have e1:(B.r !=role)=false:=by simp[h.1]
 have e2:(B.e !=r.e)=false:=by simp[h.2]
 clear h hd
 go_wp2_with (go_at_fn N;refine(aa HNV _ (aa HM).dp).mono ?_;rintro x W3 ⟨d3,g3⟩;obtain⟨a3,c3,rfl,i3,n3,l3,f3⟩:=d3.parts;have Wy:=ai l3;have HF3:=ai f3;have zb:=(aa HM).grown g3 (aa HR);have zf:=zb.free;obtain⟨z0,z1,z2,z3,z4,z5⟩:=zb.cells;have HZ:=ai zb;have HI:=ai i3;have Ww:=ai n3;have WJ:=ai (kU (eP _ (aa HM).dp) g3);clear d3 g3 zb i3 n3 l3 f3 x0 x1 x2 x3 x4 x5 r0 r1 r2 r3 r4 r5 r6 r7 r8 r9 p1 q1)
 obtain⟨W4,hW4,d4,_,t4⟩:=dP (aa HZ) (Bm _ _) (Ac _) (gi o).r (gi o).e (gi o).f (gi o).t (gi o).o a3 (gi o).es.length c3;rw[←hW4];refine Ao (Nc d4 rfl rfl) rfl ⟨?_,iz (aa WJ) t4 (by omega)⟩;rw[aa HD];exact fP.of (t4.owns (aa HI) (aX (aa HI) (aa HZ) (by decide))) (aa Ww) ((aa Wy).lower (aa HM).dp.size) (fun h1 h2=>t4.under (Below.next (aa HM).dp (aa HF3 h1 h2)) (by omega))
theorem Gl(B:Bt)(base:Nat)(a:tB)(c:Nat)(r:Rec)(w:tA)(Q N:Nat)(o:Option Bt)(hQ:w.cell? ⟨Q,0,none⟩=some (.func (.func N) #[] #[]))(hr:∀k,(Value.slice a B.es.length c).ownBlock=some k→k<w.heap.size)
  (YK:∀args w,(callFunc N args).run Tryz.prog w= .ok (.enter N args) w)
  (HN:∀W,bZ w W→cA N #[cg B.r B.e B.f B.t B.o a B.es.length c,mQ r] W fun x w'=>fP W w' base (.slice a B.es.length c) x o∧W.grownBy w' (Value.slice a B.es.length c).ownBlock):
  cA 199 #[cg B.r B.e B.f B.t B.o a B.es.length c,mQ r,.pointer (some ⟨Q,0,none⟩)] w fun x w'=>fP w w' base (.slice a B.es.length c) x (gR r o)∧w.grownBy w' (Value.slice a B.es.length c).ownBlock:=by
 have lQ:=Cv w _ hQ;have HNV:=ai HN;have HR:=ai hr;clear HN hr;go_enter Tryz.func199,Tryz.ntmps199
 go_upto_region 1 with fail
 obtain⟨W1,hW1,M1⟩:=Mr.made w B a c r;rw[←hW1];clear hW1;have q1:W1.cell? ⟨Q,0,none⟩=some (.func (.func N) #[] #[]):=(M1.dp.cell (p:=⟨Q,0,none⟩) lQ).trans hQ;obtain⟨x0,x1,x2,x3,x4,x5⟩:=M1.b.cells;obtain⟨r0,r1,r2,r3,r4,r5,r6,r7,r8,r9⟩:=M1.rc.cells;have HM:=ai M1;clear M1 hQ lQ;by_cases h:r.p=0
 case neg=>
  have hd:gR r o=none:=Aa h;have HD:=ai hd;obtain⟨z0,z1,z2,z3,z4,z5⟩:=(aa HM).z.cells;have zf:=(aa HM).z.free;have e1:(r.p !=0)=true:=by simp[h]
  clear h hd;go_wp2;obtain⟨W4,hW4,d4,b4,_⟩:=dP (aa HM).z (aa HM).dp (show w.heap.size≤w.heap.size+2 by omega) 0 0 0 0 0 none 0 0;rw[←hW4];refine Ao (pD d4 rfl rfl) rfl ⟨?_,eP _ b4⟩;rw[aa HD];exact rfl
 case pos=>
 have hd:gR r o=o:=Ae h;have HD:=ai hd;have e1:(r.p !=0)=false:=by simp[h]
 clear h hd
 go_wp2_with (go_at_fn N;refine(aa HNV _ (aa HM).dp).mono ?_;rintro x W3 ⟨d3,g3⟩;obtain⟨a3,c3,rfl,i3,n3,l3,f3⟩:=d3.parts;have Wy:=ai l3;have HF3:=ai f3;have zb:=(aa HM).grown g3 (aa HR);have zf:=zb.free;obtain⟨z0,z1,z2,z3,z4,z5⟩:=zb.cells;have HZ:=ai zb;have HI:=ai i3;have Ww:=ai n3;have WJ:=ai (kU (eP _ (aa HM).dp) g3);clear d3 g3 zb i3 n3 l3 f3 x0 x1 x2 x3 x4 x5 r0 r1 r2 r3 r4 r5 r6 r7 r8 r9 q1)
 obtain⟨W4,hW4,d4,_,t4⟩:=dP (aa HZ) (Bm _ _) (Ac _) (gi o).r (gi o).e (gi o).f (gi o).t (gi o).o a3 (gi o).es.length c3;rw[←hW4];refine Ao (pD d4 rfl rfl) rfl ⟨?_,iz (aa WJ) t4 (by omega)⟩;rw[aa HD];exact fP.of (t4.owns (aa HI) (aX (aa HI) (aa HZ) (by decide))) (aa Ww) ((aa Wy).lower (aa HM).dp.size) (fun h1 h2=>t4.under (Below.next (aa HM).dp (aa HF3 h1 h2)) (by omega))
theorem Lh(B:Bt)(base:Nat)(a:tB)(c:Nat)(r:Rec)(w:tA)(Q N P1 P2:Nat)(o:Option Bt)(hQ:w.cell? ⟨Q,0,none⟩=some (.func (.func N) #[] #[.pointer (some ⟨P1,0,none⟩),.pointer (some ⟨P2,0,none⟩)]))(hr:∀k,(Value.slice a B.es.length c).ownBlock=some k→k<w.heap.size)
  (YK:∀args w,(callFunc N args).run Tryz.prog w= .ok (.enter N args) w)
  (HN:∀W,bZ w W→cA N #[cg B.r B.e B.f B.t B.o a B.es.length c,mQ r,.pointer (some ⟨P1,0,none⟩),.pointer (some ⟨P2,0,none⟩)] W fun x w'=>fP W w' base (.slice a B.es.length c) x o∧W.grownBy w' (Value.slice a B.es.length c).ownBlock):
  cA 199 #[cg B.r B.e B.f B.t B.o a B.es.length c,mQ r,.pointer (some ⟨Q,0,none⟩)] w fun x w'=>fP w w' base (.slice a B.es.length c) x (gR r o)∧w.grownBy w' (Value.slice a B.es.length c).ownBlock:=by
 have lQ:=Cv w _ hQ;have HNV:=ai HN;have HR:=ai hr;clear HN hr;go_enter Tryz.func199,Tryz.ntmps199
 go_upto_region 1 with fail
 obtain⟨W1,hW1,M1⟩:=Mr.made w B a c r;rw[←hW1];clear hW1;have q1:W1.cell? ⟨Q,0,none⟩=some (.func (.func N) #[] #[.pointer (some ⟨P1,0,none⟩),.pointer (some ⟨P2,0,none⟩)]):=(M1.dp.cell (p:=⟨Q,0,none⟩) lQ).trans hQ;obtain⟨x0,x1,x2,x3,x4,x5⟩:=M1.b.cells;obtain⟨r0,r1,r2,r3,r4,r5,r6,r7,r8,r9⟩:=M1.rc.cells;have HM:=ai M1;clear M1 hQ lQ;by_cases h:r.p=0
 case neg=>
  have hd:gR r o=none:=Aa h;have HD:=ai hd;obtain⟨z0,z1,z2,z3,z4,z5⟩:=(aa HM).z.cells;have zf:=(aa HM).z.free;have e1:(r.p !=0)=true:=by simp[h]
  clear h hd;go_wp2;obtain⟨W4,hW4,d4,b4,_⟩:=dP (aa HM).z (aa HM).dp (show w.heap.size≤w.heap.size+2 by omega) 0 0 0 0 0 none 0 0;rw[←hW4];refine Ao (pD d4 rfl rfl) rfl ⟨?_,eP _ b4⟩;rw[aa HD];exact rfl
 case pos=>
 have hd:gR r o=o:=Ae h;have HD:=ai hd;have e1:(r.p !=0)=false:=by simp[h]
 clear h hd
 go_wp2_with (go_at_fn N;refine(aa HNV _ (aa HM).dp).mono ?_;rintro x W3 ⟨d3,g3⟩;obtain⟨a3,c3,rfl,i3,n3,l3,f3⟩:=d3.parts;have Wy:=ai l3;have HF3:=ai f3;have zb:=(aa HM).grown g3 (aa HR);have zf:=zb.free;obtain⟨z0,z1,z2,z3,z4,z5⟩:=zb.cells;have HZ:=ai zb;have HI:=ai i3;have Ww:=ai n3;have WJ:=ai (kU (eP _ (aa HM).dp) g3);clear d3 g3 zb i3 n3 l3 f3 x0 x1 x2 x3 x4 x5 r0 r1 r2 r3 r4 r5 r6 r7 r8 r9 q1)
 obtain⟨W4,hW4,d4,_,t4⟩:=dP (aa HZ) (Bm _ _) (Ac _) (gi o).r (gi o).e (gi o).f (gi o).t (gi o).o a3 (gi o).es.length c3;rw[←hW4];refine Ao (pD d4 rfl rfl) rfl ⟨?_,iz (aa WJ) t4 (by omega)⟩;rw[aa HD];exact fP.of (t4.owns (aa HI) (aX (aa HI) (aa HZ) (by decide))) (aa Ww) ((aa Wy).lower (aa HM).dp.size) (fun h1 h2=>t4.under (Below.next (aa HM).dp (aa HF3 h1 h2)) (by omega))
def EU(w:tA)(base:Nat)(v:tK)(B:Bt)(a:tB)(c:Nat)(r:Rec)(o:Option Bt):Prop:=∃g cap,v= .func (.func g) #[] cap∧(∀args w,(callFunc g args).run Tryz.prog w= .ok (.enter g args) w)∧
 ∀W,bZ w W→cA g (#[cg B.r B.e B.f B.t B.o a B.es.length c,mQ r]++cap) W fun x w'=>fP W w' base (.slice a B.es.length c) x o∧W.grownBy w' (Value.slice a B.es.length c).ownBlock
def mR(w:tA)(base:Nat)(N:Nat)(B:Bt)(a:tB)(c:Nat)(r:Rec)(o:Option Bt):Prop:=(∀args w,(callFunc N args).run Tryz.prog w= .ok (.enter N args) w)∧
 ∀W,bZ w W→cA N #[cg B.r B.e B.f B.t B.o a B.es.length c,mQ r] W fun x w'=>fP W w' base (.slice a B.es.length c) x o∧W.grownBy w' (Value.slice a B.es.length c).ownBlock
section
variable{w:tA}{B:Bt}{a:tB}{c base:Nat}{r:Rec}
theorem DQ(hb:base≤w.heap.size):mR w base 181 B a c r (iW B r):=
 ⟨enters_of Tryz.func181 (by kernel_rfl) rfl,fun W b=>(IY B a c r W).mono fun x w' ⟨h1,h2⟩=>⟨fP.fresh h1 (AN hb b.size) h2,eP _ h2⟩⟩
theorem DR(hb:base≤w.heap.size):mR w base 187 B a c r (some (yA B)):=
 ⟨enters_of Tryz.func187 (by kernel_rfl) rfl,fun W b=>(IZ B a c r W).mono fun x w' ⟨h1,h2⟩=>⟨fP.fresh h1 (AN hb b.size) h2,eP _ h2⟩⟩
theorem A7(bU:w.ownsRow base 56 6 (.slice a B.es.length c) B.es.length ((au B.es).map (Value.int .i64)))(hb:base≤w.heap.size)(hs:(B.es.length+1)*48≤140737488355328):mR w base 183 B a c r (some (B.more [r.v])):=
 ⟨enters_of Tryz.func183 (by kernel_rfl) rfl,fun W b=>SU B a c r W base (nr bU b) (AN hb b.size) hs⟩
theorem xZ(bU:w.ownsRow base 56 6 (.slice a B.es.length c) B.es.length ((au B.es).map (Value.int .i64)))(hb:base≤w.heap.size)(hs:(B.es.length+1)*48≤140737488355328):mR w base 186 B a c r (some ⟨1,B.e,0,B.t,B.o,B.es++[Ev.brk]⟩):=
 ⟨enters_of Tryz.func186 (by kernel_rfl) rfl,fun W b=>DP B a c r W base (nr bU b) (AN hb b.size) hs⟩
theorem I6(bU:w.ownsRow base 56 6 (.slice a B.es.length c) B.es.length ((au B.es).map (Value.int .i64))):mR w base 184 B a c r (some ⟨3,B.e,B.f,r.p,B.o,B.es⟩):=
 ⟨enters_of Tryz.func184 (by kernel_rfl) rfl,fun W b=>Pv B a c r W base (nr bU b)⟩
theorem Gm(bU:w.ownsRow base 56 6 (.slice a B.es.length c) B.es.length ((au B.es).map (Value.int .i64)))(hs:B.b_):mR w base 185 B a c r (kD B r):=
 ⟨enters_of Tryz.func185 (by kernel_rfl) rfl,fun W b=>(Lb B a c r W base (nr bU b) hs).mono fun x w' ⟨h1,h2⟩=>⟨h1,eP _ h2⟩⟩
theorem mR.afH{N:Nat}{o:Option Bt}(h:mR w base N B a c r o):EU w base (.func (.func N) #[] #[]) B a c r o:=⟨N,#[],rfl,h.1,h.2⟩
theorem SX{v:tK}{N:Nat}{o:Option Bt}(hv:Ps w v N)(h:mR w base N B a c r o)(hr:∀k,(Value.slice a B.es.length c).ownBlock=some k→k<w.heap.size):EU w base v B a c r (gR r o):=by
 obtain⟨Q,rfl,hq⟩:=hv;exact⟨_,_,rfl,enters_of Tryz.func199 (by kernel_rfl) rfl,fun W b=>Gl B base a c r W Q N o (aH b _ _ hq) (fun k hk=>Am (hr k hk) b.size) h.1 (fun W' b'=>h.2 W' (kF b b'))⟩
theorem SY{v:tK}{N:Nat}{role:Int}{o:Option Bt}(hv:DO w v role N)(h:mR w base N B a c r o)(hr:∀k,(Value.slice a B.es.length c).ownBlock=some k→k<w.heap.size):EU w base v B a c r (Lc B r role o):=by
 obtain⟨P,Q,rfl,hp,hq⟩:=hv;exact⟨_,_,rfl,enters_of Tryz.func200 (by kernel_rfl) rfl,fun W b=>ET B base a c r W P Q N role o (aH b _ _ hp) (aH b _ _ hq) (fun k hk=>Am (hr k hk) b.size) h.1 (fun W' b'=>h.2 W' (kF b b'))⟩
theorem uZ{v:tK}{N:Nat}{role:Int}{o:Option Bt}(hv:Gj w v role N)(h:mR w base N B a c r o)(hr:∀k,(Value.slice a B.es.length c).ownBlock=some k→k<w.heap.size):EU w base v B a c r (gR r (Lc B r role o)):=by
 obtain⟨Q,u,rfl,hq,P1,P2,rfl,hp1,hp2⟩:=hv
 exact⟨_,_,rfl,enters_of Tryz.func199 (by kernel_rfl) rfl,fun W b=>Lh B base a c r W Q 200 P1 P2 _ (aH b _ _ hq) (fun k hk=>Am (hr k hk) b.size) (enters_of Tryz.func200 (by kernel_rfl) rfl)
  (fun W' b'=>ET B base a c r W' P1 P2 N role o (aH (kF b b') _ _ hp1) (aH (kF b b') _ _ hp2) (fun k hk=>Am (hr k hk) (kF b b').size) h.1 (fun YW b''=>h.2 YW (kF (kF b b') b'')))⟩
theorem Table.acF{M:Nat}{v1 v2 v3 v5 v6 v7:tK}(t:Table w M v1 v2 v3 v5 v6 v7)(bU:w.ownsRow base 56 6 (.slice a B.es.length c) B.es.length ((au B.es).map (Value.int .i64)))(hb:base≤w.heap.size)(hs:B.b_)(hlen:(B.es.length+1)*48≤140737488355328)(hk:r.k=1∨r.k=2∨r.k=3∨r.k=4∨r.k=5∨r.k=6∨r.k=7):
  ∃v,(Instr.lookup 237 (.map (some M)) (iV r.k) false).run Tryz.prog w= .ok v w∧EU w base v B a c r (f_ B r):=by
 obtain⟨l1,l2,l3,l4,l5,l6,l7⟩:=tj t;have hr:∀k,(Value.slice a B.es.length c).ownBlock=some k→k<w.heap.size:=fun k hk=>(bU.lt k hk).2;rcases hk with e|e|e|e|e|e|e<;>rw[e]
 ·refine⟨_,l1, ?_⟩;have:f_ B r=gR r (iW B r):=by unfold f_;rw[Aa (by omega)];unfold cF gR iW;rw[Ae e];by_cases g:r.p=0<;>simp[g]
  rw[this];exact SX t.d1 (DQ hb) hr
 ·refine⟨_,l2, ?_⟩;have:f_ B r=gR r (Lc B r 1 (some (B.more [r.v]))):=by unfold f_;rw[Aa (by omega)];unfold cF gR Lc;rw[Aa (by omega),Ae e];by_cases g:r.p=0<;>by_cases g1:B.e=r.e<;>by_cases g2:B.r=1<;>simp[g,g1,g2]
  rw[this];exact uZ t.d2 (A7 bU hb hlen) hr
 ·refine⟨_,l3, ?_⟩;have:f_ B r=Lc B r 1 (some ⟨3,B.e,B.f,r.p,B.o,B.es⟩):=by unfold f_;rw[Aa (by omega)];unfold cF Lc;rw[Aa (by omega),Aa (by omega),Ae e];by_cases g1:B.e=r.e<;>by_cases g2:B.r=1<;>simp[g1,g2]
  rw[this];exact SY t.d3 (I6 bU) hr
 ·refine⟨_,l4, ?_⟩;have:f_ B r=kD B r:=by unfold f_;rw[Ae e]
  rw[this];exact(Gm bU hs).afH
 ·refine⟨_,l5, ?_⟩;have:f_ B r=gR r (Lc B r 4 (some (B.more [r.v]))):=by unfold f_;rw[Aa (by omega)];unfold cF gR Lc;rw[Aa (by omega),Aa (by omega),Aa (by omega),Aa (by omega),Ae e];by_cases g:r.p=0<;>by_cases g1:B.e=r.e<;>by_cases g2:B.r=4<;>simp[g,g1,g2]
  rw[this];exact uZ t.d5 (A7 bU hb hlen) hr
 ·refine⟨_,l6, ?_⟩;have:f_ B r=gR r (Lc B r 4 (some ⟨1,B.e,0,B.t,B.o,B.es++[Ev.brk]⟩)):=by unfold f_;rw[Aa (by omega)];unfold cF gR Lc;rw[Aa (by omega),Aa (by omega),Aa (by omega),Aa (by omega),Aa (by omega),Ae e];by_cases g:r.p=0<;>by_cases g1:B.e=r.e<;>by_cases g2:B.r=4<;>simp[g,g1,g2]
  rw[this];exact uZ t.d6 (xZ bU hb hlen) hr
 ·refine⟨_,l7, ?_⟩;have:f_ B r=gR r (Lc B r 3 (some (yA B))):=by unfold f_;rw[Aa (by omega)];unfold cF gR Lc yA;rw[Aa (by omega),Aa (by omega),Aa (by omega),Aa (by omega),Aa (by omega),Aa (by omega)];by_cases g:r.p=0<;>by_cases g1:B.e=r.e<;>by_cases g2:B.r=3<;>simp[g,g1,g2]
  rw[this];exact uZ t.d7 (DR hb) hr
end
theorem Li(g R n p:Nat)(w:tA)(hn:n≤1000000000000000)(hp:p≤n)
  (YK:∀args w,(callFunc g args).run Tryz.prog w= .ok (.enter g args) w)
  (HF:∀(h:Nat) (W:tA),h<n→bZ w W→cA g #[iV h,.pointer (some ⟨R,0,none⟩)] W (rB (.bool (decide (p≤h))) W)):
  cA 126 #[iV n,.func (.func g) #[] #[.pointer (some ⟨R,0,none⟩)]] w (rB (iV p) w):=by
 have HFV:=ai HF;clear HF;go_enter Tryz.func126,Tryz.ntmps126;go_wp2
 go_loopw [5,6] (fun t s wr=>∃i j:Nat,i≤p∧p≤j∧j≤n∧t=iV i∧s=iV j∧bZ w wr) (fun t s _=>(intOf s).toNat-(intOf t).toNat)
 case atStart=>exact⟨0,n,Al _,hp,Ac _,rfl,rfl,Bm _ _⟩
 case round=>
  obtain⟨i,j,h1,h2,h3,rfl,rfl,dp⟩:=hrel;have HB:=ai dp;clear dp;by_cases aN:i<j
  ·go_upto_region 4 with fail
   obtain⟨m,hm,m1,m2⟩:∃m:Nat,((i:Int)+(j:Int))/2=(m:Int)∧i≤m∧m<j:=⟨(i+j)/2,by omega,by omega,by omega⟩;rw[hm];have HC:=aa HFV m wr (by omega) (aa HB);have hmn:m≤1000000000000000:=by omega
   by_cases hpm:p≤m
   ·rw[As hpm]at HC;have HP:=ai hpm;clear hpm hm
    go_wp2_with (go_at_fn g;refine HC.mono ?_;rintro x W2 ⟨rfl,b2⟩;have ue:=ai (Below.next (aa HB) b2);clear HC b2)
    all_goals(go_roundw<;>first|exact⟨i,m,h1,aa HP,by omega,rfl,rfl,aa ue⟩|(simp[intOf];omega))
   ·rw[Ak hpm]at HC;have HP:=ai hpm;clear hpm hm
    go_wp2_with (go_at_fn g;refine HC.mono ?_;rintro x W2 ⟨rfl,b2⟩;have ue:=ai (Below.next (aa HB) b2);clear HC b2)
    all_goals(go_roundw<;>first|exact⟨m+1,j,by have:=aa HP;omega,h2,h3,by go_num,rfl,aa ue⟩|(simp[intOf];omega))
  ·obtain rfl:i=p:=by omega
   go_wp2;go_ret;exact⟨rfl,aa HB⟩
theorem Tryz.Pw:(Tryz.prog.info? 43).map (fun i=>(i.zero,i.size,i.bytes))=some (some (cg 0 0 0 0 0 none 0 0),6,64):=by kernel_rfl
def xH:Array Value:=dF 0 0 0 0 0 none 0 0++dF 0 0 0 0 0 none 0 0++dF 0 0 0 0 0 none 0 0++dF 0 0 0 0 0 none 0 0
theorem Px(w:tA):(Instr.makeSlice 44 (iV 4) (iV 4)).run Tryz.prog w= .ok (.slice (some ⟨w.heap.size,0,none⟩) 4 4) (w.alloc (.cells xH 43)):=by
 obtain⟨i,h1,h2,h3,h4⟩:=iw Tryz.Pw;have:=run_make (P:=Tryz.prog) w 44 43 i _ Tryz.underlying44 h1 h2 .i64 .i64 4 4 (by omega) (by omega) (by rw[h4];omega) (by omega);rw[h3]at this;have e:madeCells (cg 0 0 0 0 0 none 0 0).cells (Int.toNat 4*6)=xH:=by first|kernel_rfl|(apply Array.toList_inj.1;simp[madeCells,xH,dF,List.range_succ,Value.cells])|(simp[madeCells,xH,Array.range,Value.cells];rfl)
 rw[e]at this;exact this
theorem rI{P:tF}(h0:P 0)(h1:P 1)(h2:P 2)(h3:P 3):∀i,i<4→P i
 |0,_=>h0
 |1,_=>h1
 |2,_=>h2
 |3,_=>h3
 |n+4,h=>absurd h (by omega)
def pF{α:Type}(f:Nat→α)(q:Nat)(x:α):Nat→α:=fun p=>if p=q then x else f p
theorem qy{α:Type}(f:Nat→α)(q:Nat)(x:α):pF f q x q=x:=by simp[pF]
theorem oF{α:Type}(f:Nat→α){q p:Nat}(x:α)(h:p≠q):pF f q x p=f p:=by simp[pF,h]
abbrev yC(f:Nat→Bt)(A:Nat→Option Addr)(K:tV):Array Value:=
 #[iV (f 0).r,iV (f 0).e,iV (f 0).f,iV (f 0).t,iV (f 0).o,.slice (A 0) (f 0).es.length (K 0),iV (f 1).r,iV (f 1).e,iV (f 1).f,iV (f 1).t,iV (f 1).o,.slice (A 1) (f 1).es.length (K 1),
  iV (f 2).r,iV (f 2).e,iV (f 2).f,iV (f 2).t,iV (f 2).o,.slice (A 2) (f 2).es.length (K 2),iV (f 3).r,iV (f 3).e,iV (f 3).f,iV (f 3).t,iV (f 3).o,.slice (A 3) (f 3).es.length (K 3)]
def gS(w:tA)(Y:Nat)(f:Nat→Bt)(A:Nat→Option Addr)(K:tV):Prop:=w.heap[Y]? =some (.cells (yC f A K) 43 (0,0))
section
variable{w w':tA}{Y:Nat}{f:Nat→Bt}{A:Nat→Option Addr}{K:tV}
theorem gS.lt(h:gS w Y f A K):Y<w.heap.size:=cI h
theorem gS.free(h:gS w Y f A K)(o:Nat):w.frozen? ⟨Y,o,none⟩=false:=by
 unfold gS at h;simp[World.frozen?,h]
theorem gS.at(h:gS w Y f A K):∀q,q<4→w.cell? ⟨Y,q*6,none⟩=some (iV (f q).r)∧w.cell? ⟨Y,q*6+1,none⟩=some (iV (f q).e)∧w.cell? ⟨Y,q*6+2,none⟩=some (iV (f q).f)∧w.cell? ⟨Y,q*6+3,none⟩=some (iV (f q).t)∧w.cell? ⟨Y,q*6+4,none⟩=some (iV (f q).o)∧w.cell? ⟨Y,q*6+5,none⟩=some (.slice (A q) (f q).es.length (K q)):=by
 unfold gS at h;refine rI ?_ ?_ ?_ ?_<;>simp[World.cell?,h]
theorem gS.put(h:gS w Y f A K)(q:Nat)(hq:q<4)(D:Bt)(a:tB)(c:Nat):gS ((((((w.setCell ⟨Y,q*6,none⟩ (iV D.r)).setCell ⟨Y,q*6+1,none⟩ (iV D.e)).setCell ⟨Y,q*6+2,none⟩ (iV D.f)).setCell ⟨Y,q*6+3,none⟩ (iV D.t)).setCell ⟨Y,q*6+4,none⟩ (iV D.o)).setCell ⟨Y,q*6+5,none⟩ (.slice a D.es.length c)) Y (pF f q D) (pF A q a) (pF K q c):=by
 unfold gS at h⊢;rw[cL (cL (cL (cL (cL (cL h)))))];have:∀q,q<4→((((((yC f A K).set! (q*6) (iV D.r)).set! (q*6+1) (iV D.e)).set! (q*6+2) (iV D.f)).set! (q*6+3) (iV D.t)).set! (q*6+4) (iV D.o)).set! (q*6+5) (.slice a D.es.length c)=yC (pF f q D) (pF A q a) (pF K q c):=by
  refine rI ?_ ?_ ?_ ?_<;>simp[pF]
 rw[this q hq]
end
theorem I7(w:tA)(Y q:Nat)(v0 v1 v2 v3 v4 v5:tK):aB Y w ((((((w.setCell ⟨Y,q*6,none⟩ v0).setCell ⟨Y,q*6+1,none⟩ v1).setCell ⟨Y,q*6+2,none⟩ v2).setCell ⟨Y,q*6+3,none⟩ v3).setCell ⟨Y,q*6+4,none⟩ v4).setCell ⟨Y,q*6+5,none⟩ v5):=
 (((((aB.set Y _ w _).trans (aB.set Y _ _ _)).trans (aB.set Y _ _ _)).trans (aB.set Y _ _ _)).trans (aB.set Y _ _ _)).trans (aB.set Y _ _ _)
abbrev nS(f:Nat→Bt)(A:Nat→Option Addr)(K:tV)(q:Nat):Value:= .slice (A q) (f q).es.length (K q)
structure Lj(W:tA)(Y:Nat)(f:Nat→Bt)(A:Nat→Option Addr)(K:tV):Prop where
 b:gS W Y f A K
 own:∀q,q<4→W.ownsRow (Y+1) 56 6 (nS f A K q) (f q).es.length ((au (f q).es).map (Value.int .i64))
 apart:∀p q,p<4→q<4→p≠q→∀g,(nS f A K p).ownBlock=some g→¬(nS f A K q).ownBlock=some g
 cG:∀q,q<4→(f q).b_
 wf:∀q,q<4→∀u∈au (f q).es,(Lit.int .i64 u).wf=true
theorem Lj.next{W W':tA}{Y:Nat}{f:Nat→Bt}{A:Nat→Option Addr}{K:tV}(h:Lj W Y f A K)(b:bZ W W'):Lj W' Y f A K:=
 ⟨(b.block _ h.b.lt).trans h.b,fun q hq=>aJ (h.own q hq) (fun g _ hg=>b.block g hg),h.apart,h.cG,h.wf⟩
theorem Lj.bin{W:tA}{Y:Nat}{f:Nat→Bt}{A:Nat→Option Addr}{K:tV}(h:Lj W Y f A K)(q:Nat)(hq:q<4):jg W (f q) (A q) (K q):=by
 obtain⟨a,c,e,r,l,_,n,_⟩:=RowK.eK (h.own q hq) (h.wf q hq);cases e;exact⟨r,l,n⟩
theorem Lj.SZ{W W':tA}{Y:Nat}{f:Nat→Bt}{A:Nat→Option Addr}{K:tV}(h:Lj W Y f A K)(q:Nat)(hq:q<4)(g:W.grownBy W' (nS f A K q).ownBlock):
  gS W' Y f A K∧∀p,p<4→p≠q→W'.ownsRow (Y+1) 56 6 (nS f A K p) (f p).es.length ((au (f p).es).map (Value.int .i64)):=by
 refine⟨(g.block _ h.b.lt (fun e=> ?_)).trans h.b,fun p hp fR=>rD (h.own p hp) g (fun x hx e=>h.apart p q hp hq fR x hx e)⟩;have:=((h.own q hq).lt _ e.symm).1;omega
theorem Lj.put{W W' YW:tA}{Y:Nat}{f:Nat→Bt}{A:Nat→Option Addr}{K:tV}(h:Lj W Y f A K)(q:Nat)(hq:q<4){D:Bt}{a:tB}{c:Nat}
  (ho:∀p,p<4→p≠q→W'.ownsRow (Y+1) 56 6 (nS f A K p) (f p).es.length ((au (f p).es).map (Value.int .i64)))
  (hD:W'.ownsRow (Y+1) 56 6 (.slice a D.es.length c) D.es.length ((au D.es).map (Value.int .i64))) (hl:DN W (nS f A K q) (.slice a D.es.length c)) (hs:D.b_) (hw:∀u∈au D.es,(Lit.int .i64 u).wf=true)
  (t:aB Y W' YW) (b:gS YW Y (pF f q D) (pF A q a) (pF K q c)):Lj YW Y (pF f q D) (pF A q a) (pF K q c):=by
 have eq1:nS (pF f q D) (pF A q a) (pF K q c) q= .slice a D.es.length c:=by simp only[nS,qy]
 have ne1:∀p,p≠q→nS (pF f q D) (pF A q a) (pF K q c) p=nS f A K p:=fun p hp=>by simp only[nS,oF _ _ hp]
 refine⟨b,fun p hp=> ?_,fun p p' hp hp' fR g hg=> ?_,fun p hp=> ?_,fun p hp=> ?_⟩
 ·by_cases e:p=q
  ·subst e;rw[eq1,qy];exact t.own hD (by omega)
  ·rw[ne1 p e,oF _ _ e];exact t.own (ho p hp e) (by omega)
 ·by_cases e:p=q
  ·subst e;rw[eq1]at hg;rw[ne1 p' (fun h=>fR h.symm)];rcases hl g hg with h1|h1
   ·exact h.apart p p' hp hp' fR g h1
   ·exact fun h2=>by have:=((h.own p' hp').lt g h2).2;omega
  ·rw[ne1 p e]at hg;by_cases e':p'=q
   ·subst e';rw[eq1];intro h2;rcases hl g h2 with h1|h1
    ·exact h.apart p p' hp hp' fR g hg h1
    ·have:=((h.own p hp).lt g hg).2;omega
   ·rw[ne1 p' e'];exact h.apart p p' hp hp' fR g hg
 ·by_cases e:p=q
  ·subst e;rw[qy];exact hs
  ·rw[oF _ _ e];exact h.cG p hp
 ·by_cases e:p=q
  ·subst e;rw[qy];exact hw
  ·rw[oF _ _ e];exact h.wf p hp
def lz(f:Nat→Bt):List Bt:=[f 0,f 1,f 2,f 3]
theorem S1(f:Nat→Bt)(r:Rec)(q:Nat)(hq:q<4)(e:r.q=q):At (lz f) r=f q:=by
 have h1:r.q.toNat=q:=by omega
 unfold At;rw[h1];have:∀q,q<4→(lz f).getD q Bt.zero=f q:=by refine rI ?_ ?_ ?_ ?_<;>rfl
 exact this q hq
theorem Nf(f:Nat→Bt)(r:Rec)(D:Bt)(q:Nat)(hq:q<4)(e:r.q=q):put (lz f) r D=lz (pF f q D):=by
 have h1:r.q.toNat=q:=by omega
 unfold put;rw[h1];have:∀q,q<4→(lz f).set q D=lz (pF f q D):=by refine rI ?_ ?_ ?_ ?_<;>simp[lz,pF]
 exact this q hq
theorem aa0(f:Nat→Bt)(P:Bt→Prop):(∀B∈lz f,P B)↔∀q,q<4→P (f q):=by
 constructor
 ·intro h;exact rI (h _ (by simp[lz])) (h _ (by simp[lz])) (h _ (by simp[lz])) (h _ (by simp[lz]))
 ·intro h B hB;simp only[lz,List.mem_cons,List.not_mem_nil,or_false]at hB;rcases hB with rfl|rfl|rfl|rfl
  ·exact h 0 (by omega)
  ·exact h 1 (by omega)
  ·exact h 2 (by omega)
  ·exact h 3 (by omega)
def bn(r:Rec):List Int:=[r.k,r.q,r.e,r.p,r.v.k,r.v.p,r.v.i,r.v.b,r.v.he,r.v.hn]
def aD(rs:List Rec):List Int:=rs.flatMap bn
theorem tq:∀(rs:List Rec) (i:Nat) (h:i<rs.length) (j:Nat),j<10→(aD rs).getD (10*i+j) 0=(bn rs[i]).getD j 0
 |[],_,h,_,_=>absurd h (AF _)
 |v::rs,0,_,j,hj=>by
  have hl:(bn v).length=10:=rfl;show(bn v++aD rs).getD (10*0+j) 0=_;rw[Nat.mul_zero,Aj,dh _ _ _ (by omega)];rfl
 |v::rs,i+1,h,j,hj=>by
  have hl:(bn v).length=10:=rfl;show(bn v++aD rs).getD (10*(i+1)+j) 0=_;rw[show 10*(i+1)+j=10+(10*i+j) by omega,cX _ _ _ 10 hl,tq rs i (by simpa using h) j hj];rfl
theorem WN{w:tA}{b off:Nat}{rs:List Rec}(hr:RowK .i64 w (some ⟨b,off,none⟩) (10*rs.length) (aD rs))(k:Nat)(hk:k<rs.length):
  w.cell? ⟨b,off+k*10,none⟩=some (iV rs[k].k)∧w.cell? ⟨b,off+k*10+1,none⟩=some (iV rs[k].q)∧w.cell? ⟨b,off+k*10+2,none⟩=some (iV rs[k].e)∧w.cell? ⟨b,off+k*10+3,none⟩=some (iV rs[k].p)∧w.cell? ⟨b,off+k*10+4,none⟩=some (iV rs[k].v.k)∧
  w.cell? ⟨b,off+k*10+5,none⟩=some (iV rs[k].v.p)∧w.cell? ⟨b,off+k*10+6,none⟩=some (iV rs[k].v.i)∧w.cell? ⟨b,off+k*10+7,none⟩=some (iV rs[k].v.b)∧w.cell? ⟨b,off+k*10+8,none⟩=some (iV rs[k].v.he)∧w.cell? ⟨b,off+k*10+9,none⟩=some (iV rs[k].v.hn):=by
 have ea:∀t,t<10→w.cell? ⟨b,off+(10*k+t),none⟩=some (iV ((bn rs[k]).getD t 0)):=fun t ht=>by
  rw[←tq rs k hk t ht];exact hr.at (10*k+t) (by omega)
 rw[Bn k 10];exact⟨ea 0 (by omega),ea 1 (by omega),ea 2 (by omega),ea 3 (by omega),ea 4 (by omega),ea 5 (by omega),ea 6 (by omega),ea 7 (by omega),ea 8 (by omega),ea 9 (by omega)⟩
theorem Table.next{w w':tA}{M:Nat}{v1 v2 v3 v5 v6 v7:tK}(t:Table w M v1 v2 v3 v5 v6 v7)(b:bZ w w'):Table w' M v1 v2 v3 v5 v6 v7:=
 ⟨(b.block _ (cI t.pV)).trans t.pV,t.d1.keep (aH b),t.d2.keep (aH b),t.d3.keep (aH b),t.d5.keep (aH b),t.d6.keep (aH b),t.d7.keep (aH b)⟩
theorem aaa{w:tA}{a:tB}{rs:List Rec}(hr:RowK .i64 w a (10*rs.length) (aD rs))(k:Nat)(hk:k<rs.length):∀u∈bf rs[k].v,(Lit.int .i64 u).wf=true:=fun u hu=>by
 refine hr.wf u (List.mem_flatMap.2 ⟨rs[k],BE hk, ?_⟩);simp only[bf,bn,List.mem_cons,List.not_mem_nil,or_false]at hu⊢;rcases hu with h|h|h|h|h|h<;>simp[h]
theorem S2{B D:Bt}{r:Rec}(hs:B.b_)(hd:f_ B r=some D)(hB:∀u∈au B.es,(Lit.int .i64 u).wf=true)(hr:∀u∈bf r.v,(Lit.int .i64 u).wf=true):(∀u∈au D.es,(Lit.int .i64 u).wf=true)∧D.es.length≤B.es.length+1:=by
 have nil:∀u∈au [],(Lit.int .i64 u).wf=true:=fun u hu=>by cases hu
 have more:∀v:Ev,(∀u∈bf v,(Lit.int .i64 u).wf=true)→(∀u∈au (B.es++[v]),(Lit.int .i64 u).wf=true)∧(B.es++[v]).length≤B.es.length+1:=fun v hv=>⟨fun u hu=>by
  rw[Ie]at hu;rcases Ah.1 hu with h|h
  ·exact hB u h
  ·exact hv u h,by simp⟩
 unfold f_ at hd;by_cases hk:r.k=4
 ·rw[Ae hk]at hd;rcases xF hs hd with rfl|⟨rfl,_⟩
  ·exact⟨hB,by omega⟩
  ·exact⟨nil,by simp⟩
 rw[Aa hk]at hd;unfold cF at hd
 repeat' split at hd
 all_goals first
  |(cases hd;done)
  |(cases hd;exact⟨nil,by simp⟩)
  |(cases hd;exact⟨hB,by simp⟩)
  |(cases hd;exact more _ hr)
  |(cases hd;exact more _ (by intro u hu;simp[bf,Ev.brk]at hu;rcases hu with rfl|rfl<;>decide))
  |contradiction
theorem Table.acG{w:tA}{M:Nat}{v1 v2 v3 v5 v6 v7:tK}{B:Bt}{a:tB}{c base:Nat}{r:Rec}(t:Table w M v1 v2 v3 v5 v6 v7)(bU:w.ownsRow base 56 6 (.slice a B.es.length c) B.es.length ((au B.es).map (Value.int .i64)))(hb:base≤w.heap.size)(hs:B.b_)(hlen:(B.es.length+1)*48≤140737488355328)(hk:r.k=1∨r.k=2∨r.k=3∨r.k=4∨r.k=5∨r.k=6∨r.k=7):
  ∃v,(∀W,bZ w W→(Instr.lookup 237 (.map (some M)) (iV r.k) false).run Tryz.prog W= .ok v W)∧EU w base v B a c r (f_ B r):=by
 obtain⟨v,h1,h2⟩:=t.acF bU hb hs hlen hk;refine⟨v,fun W b=> ?_,h2⟩;obtain⟨l1,l2,l3,l4,l5,l6,l7⟩:=tj t;obtain⟨m1,m2,m3,m4,m5,m6,m7⟩:=tj (t.next b);rcases hk with e|e|e|e|e|e|e<;>rw[e]at h1⊢
 ·rw[l1]at h1;cases h1;exact m1
 ·rw[l2]at h1;cases h1;exact m2
 ·rw[l3]at h1;cases h1;exact m3
 ·rw[l4]at h1;cases h1;exact m4
 ·rw[l5]at h1;cases h1;exact m5
 ·rw[l6]at h1;cases h1;exact m6
 ·rw[l7]at h1;cases h1;exact m7
def gb:Nat→Bt:=fun _=>Bt.zero
theorem S3:xH=yC gb (fun _=>none) (fun _=>0):=by first|rfl|simp[xH,dF,gb,Bt.zero]
theorem Bt.Lk:Bt.zero.b_:=Bt.dx.cG
def pG(w w':tA)(o:Option (List Bt)×Int)(x:Ending):Prop:=
 (o.1=none→x= .returned (.tuple #[.slice none 0 0,iV o.2]))∧
 ∀S,o.1=some S→∃Y f A K,x= .returned (.tuple #[.slice (some ⟨Y,0,none⟩) 4 4,iV 0])∧o.2=0∧S=lz f∧Lj w' Y f A K∧w.heap.size≤Y
theorem pG.none{w w':tA}{o:Option (List Bt)×Int}{e:Int}(h:o=(none,e)):pG w w' o (.returned (.tuple #[.slice none 0 0,iV e])):=by
 subst h;exact⟨fun _=>rfl,fun S h=>by cases h⟩
structure Td(W1 W:tA)(Y:Nat)(rs:List Rec)(k:Nat)(f:Nat→Bt)(A:Nat→Option Addr)(K:tV):Prop where
 dp:bZ W1 W
 fb:Lj W Y f A K
 eq:dr (lz gb) rs=dr (lz f) (rs.drop k)
 few:∀q,q<4→(f q).es.length≤k
 up:W1.heap.size≤Y
theorem Td.next{W1 W W':tA}{Y:Nat}{rs:List Rec}{k:Nat}{f:Nat→Bt}{A:Nat→Option Addr}{K:tV}(h:Td W1 W Y rs k f A K)(b:bZ W W'):Td W1 W' Y rs k f A K:=⟨Below.next h.dp b,h.fb.next b,h.eq,h.few,h.up⟩
theorem wG(rs:List Rec)(a:tB)(c:Nat)(w:tA)(hr:RowK .i64 w a (10*rs.length) (aD rs))(hlen:(rs.length+1)*48≤140737488355328):
  cA 125 #[.slice a rs.length c] w fun x w'=>pG w w' (dr (lz gb) rs) x∧bZ w w':=by
 have HR:Hid (∀W,bZ w W→RowK .i64 W a (10*rs.length) (aD rs)):=ai fun W b=>hr.below b;clear hr;obtain⟨o,ho⟩:∃o,o=dr (lz gb) rs:=⟨_,rfl⟩;rw[←ho];have HO:=ai ho;clear ho;go_enter Tryz.func125,Tryz.ntmps125
 go_upto_region 2 with(go_at_call 158;refine(Pu w).mono ?_;rintro e W1 ⟨v1,v2,v3,v5,v6,v7,rfl,tb,d1⟩)
 have xV:=Px W1;have HT:=ai tb;have HD1:=ai d1;clear tb d1
 go_upto_region 3 with fail
 obtain⟨W2,hW2,T2⟩:∃W2,W2=W1.alloc (.cells xH 43)∧Td W1 W2 W1.heap.size rs 0 gb (fun _=>none) (fun _=>0):=by
  refine⟨_,rfl,aC _ _,⟨?_,fun q _=>BA _ _ _ _,(fun p q _ _ _ g hg=>by cases hg),fun q _=>Bt.Lk,fun q _ u hu=>by cases hu⟩,rfl,fun q _=>Ac _,Ac _⟩;have:=AP W1 (.cells xH 43);rw[S3]at this;exact this
 rw[←hW2];obtain⟨Y,hY⟩:∃Y,Y=W1.heap.size:=⟨_,rfl⟩;rw[←hY];have HT2:Hid (Td W1 W2 Y rs 0 gb (fun _=>none) (fun _=>0)):=ai (by rw[hY];exact T2);clear hW2 xV T2 hY
 go_upto_region 4 with fail
 go_loopw [19] (fun i wr=>∃(k:Nat) (f:Nat→Bt) (A:Nat→Option Addr) (K:tV),k≤rs.length∧i=iV k∧Hid (Td W1 wr Y rs k f A K)) (fun i _=>rs.length-(intOf i).toNat)
 case atStart=>exact⟨0,_,_,_,Al _,rfl,HT2⟩
 case round=>
  obtain⟨k,f,A,K,hk,rfl,HTd⟩:=hrel;clear HT2;by_cases aN:k<rs.length
  case neg=>
   obtain rfl:k=rs.length:=by omega
   have HE:Hid (((∀q,q<4→(f q).Ok)→o=(some (lz f),0))∧(¬(∀q,q<4→(f q).Ok)→o=(none,3))):=ai (by
    rw[aa HO,(aa HTd).eq,List.drop_length];unfold dr
    exact⟨fun h=>Ae ((aa0 f Bt.Ok).2 h),fun h=>Aa (fun g=>h ((aa0 f Bt.Ok).1 g))⟩)
   clear HO
   go_upto_region 16 with fail
   go_loopw [68] (fun i wx=>∃q:Nat,q≤4∧i=iV q∧Hid (Td W1 wx Y rs rs.length f A K)∧Hid (∀p,p<q→(f p).Ok)) (fun i _=>4-(intOf i).toNat)
   case atStart=>exact⟨0,by omega,rfl,HTd,ai (fun p hp=>by omega)⟩
   case round=>
    obtain⟨q,hq,rfl,HTq,HI⟩:=hrel;by_cases jb:q<4
    case neg=>
     obtain rfl:q=4:=by omega
     have zq:Hid (o=(some (lz f),0)):=ai ((aa HE).1 (aa HI));go_wp2;go_ret2;refine⟨⟨(fun h=>by rw[aa zq]at h;cases h),fun S h=> ?_⟩,Below.next (aa HD1) (aa HTq).dp⟩;rw[aa zq]at h⊢;cases h;exact⟨Y,f,A,K,rfl,rfl,rfl,(aa HTq).fb,AN (aa HD1).size (aa HTq).up⟩
    case pos=>
     obtain⟨x0,x1,x2,x3,x4,x5⟩:=(aa HTq).fb.b.at q jb;have hYl:=(aa HTq).fb.b.lt;have hYn:Y≠wr.heap.size:=by omega
     have SL:Hid (∀W,bZ wr W→Td W1 W Y rs rs.length f A K∧jg W (f q) (A q) (K q)):=ai fun W b=>⟨(aa HTq).next b,((aa HTq).next b).fb.bin q jb⟩;obtain⟨B,hB⟩:∃B,B=f q:=⟨_,rfl⟩;obtain⟨aq,haq⟩:∃aq,aq=A q:=⟨_,rfl⟩;obtain⟨cq,hcq⟩:∃cq,cq=K q:=⟨_,rfl⟩;rw[←hB]at x0 x1 x2 x3 x4 x5 SL;rw[←haq]at x5 SL;rw[←hcq]at x5 SL;have HBq:=ai hB;clear hB haq hcq HTq
     go_upto_region 18 with fail
     obtain⟨W3,hW3,bb3,d3⟩:∃W3,W3=wr.alloc (.cells (dF B.r B.e B.f B.t B.o aq B.es.length cq) 43)∧aG W3 wr.heap.size B.r B.e B.f B.t B.o aq B.es.length cq∧bZ wr W3:=⟨_,rfl,aG.new _ _ _ _ _ _ _ _ _,aC _ _⟩;rw[←hW3];clear hW3 x0 x1 x2 x3 x4 x5;obtain⟨x0,x1,x2,x3,x4,x5⟩:=bb3.cells;have Z8:=(aa SL W3 d3).2;have HD3:=ai d3;clear bb3 d3;by_cases ok:B.Ok
     ·have HC:=gz B aq cq W3 Z8 ok;have HI2:Hid (∀p,p<q+1→(f p).Ok):=ai fun p hp=>by
       rcases AG p q with h|h
       ·exact aa HI p h
       ·obtain rfl:p=q:=by omega
        rw[←aa HBq];exact ok
      clear Z8 ok
      go_wp2_with (go_at_call 142;refine HC.mono ?_;rintro e W4 ⟨rfl,d4⟩;clear HC x0 x1 x2 x3 x4 x5;have EB:=ai (aa SL W4 (Below.next (aa HD3) d4)).1;clear d4)
      go_roundw
      case rel=>exact⟨q+1,by omega,by go_num,EB,HI2⟩
      case measure=>simp[intOf];omega
     ·have HC:=kx B aq cq W3 Z8 ok;have zq:Hid (o=(none,3)):=ai ((aa HE).2 (fun h=>ok (by rw[aa HBq];exact h q jb)));clear Z8 ok
      go_wp2_with (go_at_call 142;refine HC.mono ?_;rintro e W4 ⟨rfl,d4⟩;clear HC x0 x1 x2 x3 x4 x5;have EB:=ai (aa SL W4 (Below.next (aa HD3) d4)).1;clear d4)
      go_ret2;exact⟨pG.none (aa zq),Below.next (aa HD1) (aa EB).dp⟩
  case pos=>
   have rV:=aa HR wr (Below.next (aa HD1) (aa HTd).dp);obtain⟨bb,off,rfl⟩:=rV.form (by omega);obtain⟨y0,y1,y2,y3,y4,y5,y6,y7,y8,y9⟩:=WN rV k aN;have HVW:=ai (aaa rV k aN);have Kl:=rV.lt (by omega);have hbn:bb≠wr.heap.size:=by omega
   have hd:rs.drop k=rs[k]::rs.drop (k+1):=List.drop_eq_getElem_cons aN;obtain⟨r,fJ⟩:∃r,r=rs[k]:=⟨_,rfl⟩;have HE:Hid (o=dr (lz f) (r::rs.drop (k+1))):=ai (by rw[aa HO,(aa HTd).eq,hd,fJ]);rw[←fJ]at y0 y1 y2 y3 y4 y5 y6 y7 y8 y9 HVW;clear rV hd fJ
   go_upto_region 6 with fail
   obtain⟨W3,hW3,Vp,d3⟩:∃W3,W3=wr.alloc (.cells #[iV r.k,iV r.q,iV r.e,iV r.p,iV r.v.k,iV r.v.p,iV r.v.i,iV r.v.b,iV r.v.he,iV r.v.hn] 144)∧kJ W3 wr.heap.size r∧bZ wr W3:=⟨_,rfl,AP _ _,aC _ _⟩;rw[←hW3];clear hW3 y0 y1 y2 y3 y4 y5 y6 y7 y8 y9 hbn Kl;obtain⟨R,hR⟩:∃R,R=wr.heap.size:=⟨_,rfl⟩;rw[←hR]at Vp⊢;have HT3:=ai ((aa HTd).next d3);clear hR d3 HTd;have HP:∀w,cA 159 #[mQ r] w (rB (iV r.fault) w):=fun w=>ky _ _ _ _ _ _ _ _ _ _ w;obtain⟨r0,r1,r2,r3,r4,r5,r6,r7,r8,r9⟩:=Vp.cells;have p_:=ai Vp;clear Vp;by_cases hf:r.fault=0
   case neg=>
    have zq:Hid (o=(none,r.fault)):=ai (by rw[aa HE];unfold dr;rw[Ae hf]);have hf':(r.fault !=0)=true:=by simpa using hf
    obtain⟨fl,iG⟩:∃fl,fl=r.fault:=⟨_,rfl⟩;rw[←iG]at HP zq hf';clear HE HO hf iG
    go_wp2_with (go_at_call 159;refine(HP _).mono ?_;rintro e W4 ⟨rfl,d4⟩;clear HP r0 r1 r2 r3 r4 r5 r6 r7 r8 r9;have EB:=ai ((aa HT3).next d4);clear d4)
    go_ret2;exact⟨pG.none (aa zq),Below.next (aa HD1) (aa EB).dp⟩
   case pos=>
   rw[hf]at HP;have HF:=ai hf;clear hf
   go_upto_region 9 with(go_at_call 159;refine(HP _).mono ?_;rintro e W4 ⟨rfl,d4⟩;clear HP r0 r1 r2 r3 r4 r5 r6 r7 r8 r9;have EB:=ai ((aa HT3).next d4);have sB:Hid (kJ W4 R r):=ai ((d4.block _ (cI (aa p_))).trans (aa p_));clear d4 HT3 p_)
   obtain⟨qn,Z4⟩:∃qn:Nat,r.q=qn:=⟨r.q.toNat,by have:=yB (aa HF);omega⟩;have jb:qn<4:=by have:=yB (aa HF);omega
   have HQN:=ai Z4;obtain⟨B,hB⟩:∃B,B=f qn:=⟨_,rfl⟩;obtain⟨aq,haq⟩:∃aq,aq=A qn:=⟨_,rfl⟩;obtain⟨cq,hcq⟩:∃cq,cq=K qn:=⟨_,rfl⟩;have KO:=(aa EB).fb.own qn jb;rw[nS,←hB,←haq,←hcq]at KO;have hY4:=(aa EB).fb.b.lt;obtain⟨dv,hlk,hdo⟩:=((aa HT).next (aa EB).dp).acG KO (by omega) (by rw[hB];exact(aa EB).fb.cG qn jb) (by have:=(aa EB).few qn jb;rw[hB];omega) (Rec.kinds (aa HF));have HDO:=ai hdo;have HLK:=ai hlk;obtain⟨x0,x1,x2,x3,x4,x5⟩:=(aa EB).fb.b.at qn jb;rw[←hB]at x0 x1 x2 x3 x4 x5;rw[←haq,←hcq]at x5;have Kb:Hid (B=f qn∧aq=A qn∧cq=K qn):=ai ⟨hB,haq,hcq⟩;obtain⟨r0,r1,r2,r3,r4,r5,r6,r7,r8,r9⟩:=(aa sB).cells;rw[Z4]at r1;have hR4:=cI (aa sB);have hRn:R≠W4.heap.size:=by omega
   have hYn:Y≠W4.heap.size:=by omega
   clear Z4 hB haq hcq KO hdo hlk
   go_wp2_with fail
   go_cut [9,10] (fun p9 v10 wx=>∃X,p9= .pointer (some ⟨X,0,none⟩)∧v10=dv∧aG wx X B.r B.e B.f B.t B.o aq B.es.length cq∧bZ W4 wx)
   case first=>
    refine wp_region_held_drew (S:=Below W4.heap.size W4) (by kernel_rfl) (zo W4) (fun hHeld=> ?_);refine BS (i:=0) (v:= .slice (some ⟨Y,0,none⟩) 4 4) rfl (by kernel_rfl) (by kernel_rfl) (by kernel_rfl) (fun _ _ _ h=>h) (Or.inl ⟨by rfl,fun _ _=>by go_simp⟩) hHeld ?_;simp only[List.getElem_toArray,List.getElem_cons_zero,Act.put,List.setIfInBounds_toArray,List.set_cons_zero,List.set_cons_succ];refine BS (i:=1) (v:= .pointer (some ⟨R,1,none⟩)) rfl (by kernel_rfl) (by kernel_rfl) (by kernel_rfl) (fun _ _ _ h=>h) (Or.inl ⟨by rfl,fun _ _=>by go_simp⟩) hHeld ?_;simp only[List.getElem_toArray,List.getElem_cons_zero,List.getElem_cons_succ,Act.put,List.setIfInBounds_toArray,List.set_cons_zero,List.set_cons_succ];refine BS (i:=2) (v:=iV qn) rfl (by kernel_rfl) (by kernel_rfl) (by kernel_rfl) (fun _ _ _ h=>h) (Or.inl ⟨by rfl,fun w b=>by have qc:=(b.cell (p:=⟨R,1,none⟩) hR4).trans r1;go_simp⟩) hHeld ?_;simp only[List.getElem_toArray,List.getElem_cons_zero,List.getElem_cons_succ,Act.put,List.setIfInBounds_toArray,List.set_cons_zero,List.set_cons_succ];refine BS (i:=3) (v:= .pointer (some ⟨Y,qn*6,none⟩)) rfl (by kernel_rfl) (by kernel_rfl) (by kernel_rfl) (fun _ _ _ h=>h) (Or.inl ⟨by rfl,fun _ _=>by go_simp;intro hx;omega⟩) hHeld ?_;simp only[List.getElem_toArray,List.getElem_cons_zero,List.getElem_cons_succ,Act.put,List.setIfInBounds_toArray,List.set_cons_zero,List.set_cons_succ];refine BS (i:=4) (v:=cg B.r B.e B.f B.t B.o aq B.es.length cq) rfl (by kernel_rfl) (by kernel_rfl) (by kernel_rfl) (fun _ _ _ h=>h) (Or.inl ⟨by rfl,fun w b=>by have qc0:=(b.cell (p:=⟨Y,qn*6,none⟩) hY4).trans x0;have qc1:=(b.cell (p:=⟨Y,qn*6+1,none⟩) hY4).trans x1;have qc2:=(b.cell (p:=⟨Y,qn*6+2,none⟩) hY4).trans x2;have qc3:=(b.cell (p:=⟨Y,qn*6+3,none⟩) hY4).trans x3;have qc4:=(b.cell (p:=⟨Y,qn*6+4,none⟩) hY4).trans x4;have qc5:=(b.cell (p:=⟨Y,qn*6+5,none⟩) hY4).trans x5;go_simp⟩) hHeld ?_;simp only[List.getElem_toArray,List.getElem_cons_zero,List.getElem_cons_succ,Act.put,List.setIfInBounds_toArray,List.set_cons_zero,List.set_cons_succ];refine BS (i:=5) (v:= .map (some w.heap.size)) rfl (by kernel_rfl) (by kernel_rfl) (by kernel_rfl) (fun _ _ _ h=>h) (Or.inl ⟨by rfl,fun _ _=>by go_simp⟩) hHeld ?_;simp only[List.getElem_toArray,List.getElem_cons_zero,List.getElem_cons_succ,Act.put,List.setIfInBounds_toArray,List.set_cons_zero,List.set_cons_succ];refine BS (i:=6) (v:= .pointer (some ⟨R,0,none⟩)) rfl (by kernel_rfl) (by kernel_rfl) (by kernel_rfl) (fun _ _ _ h=>h) (Or.inl ⟨by rfl,fun _ _=>by go_simp⟩) hHeld ?_;simp only[List.getElem_toArray,List.getElem_cons_zero,List.getElem_cons_succ,Act.put,List.setIfInBounds_toArray,List.set_cons_zero,List.set_cons_succ];refine BS (i:=7) (v:=iV r.k) rfl (by kernel_rfl) (by kernel_rfl) (by kernel_rfl) (fun _ _ _ h=>h) (Or.inl ⟨by rfl,fun w b=>by have qc:=(b.cell (p:=⟨R,0,none⟩) hR4).trans r0;go_simp⟩) hHeld ?_;simp only[List.getElem_toArray,List.getElem_cons_zero,List.getElem_cons_succ,Act.put,List.setIfInBounds_toArray,List.set_cons_zero,List.set_cons_succ];refine BS (i:=8) (v:=dv) rfl (by kernel_rfl) (by kernel_rfl) (by kernel_rfl) (fun _ _ _ h=>h) (Or.inl ⟨by rfl,fun w b=>by have qc:=aa HLK _ b;go_simp⟩) hHeld ?_;simp only[List.getElem_toArray,List.getElem_cons_zero,List.getElem_cons_succ,Act.put,List.setIfInBounds_toArray,List.set_cons_zero,List.set_cons_succ];have bW0:=zo W4;obtain⟨W0,hW0⟩:∃W0,W0=W4.drew:=⟨_,rfl⟩;rw[←hW0]at bW0 hHeld⊢;clear hW0;refine wpAnyH_ready (rs:=[9]) (by kernel_rfl) (by simp) ?_;refine AllReadyH.cons rfl (fun K hK=> ?_) AllReadyH.nil;simp only[List.getElem_toArray,List.getElem_cons_zero,List.getElem_cons_succ];go_simp;obtain⟨WA,hWA,zA,bA⟩:∃W,W=W0.alloc (.cells (dF 0 0 0 0 0 none 0 0) 43)∧aG W W0.heap.size 0 0 0 0 0 none 0 0∧bZ W0 W:=⟨_,rfl,aG.new _ _ _ _ _ _ _ _ _,aC _ _⟩;rw[←hWA];clear hWA;obtain⟨XA,hX⟩:∃X,X=W0.heap.size:=⟨_,rfl⟩;have upA:W4.heap.size≤XA:=by rw[hX];exact bW0.size
    rw[←hX]at zA⊢;have bWA:=Below.next bW0 bA;clear hX;refine hK.out _ _ bWA (fun hHeld=> ?_);clear hK K bA;refine wpAnyH_ready (rs:=[10]) (by kernel_rfl) (by simp) ?_;refine AllReadyH.cons rfl (fun K hK=> ?_) AllReadyH.nil;simp only[List.getElem_toArray,List.getElem_cons_zero,List.getElem_cons_succ];obtain⟨z0,z1,z2,z3,z4,z5⟩:=zA.cells;have zf:=zA.free;go_simp;obtain⟨WE,hWE,dE,bE,tE⟩:=dP zA bWA upA B.r B.e B.f B.t B.o aq B.es.length cq;rw[←hWE];refine hK.out _ _ bE (fun hHeld=> ?_);clear hK K hWE z0 z1 z2 z3 z4 z5 zf;refine BS (i:=11) (v:=dv) rfl (by kernel_rfl) (by kernel_rfl) (by kernel_rfl) (fun _ _ _ h=>h) (Or.inl ⟨by rfl,fun _ _=>by go_simp⟩) hHeld ?_;simp only[List.getElem_toArray,List.getElem_cons_zero,List.getElem_cons_succ,Act.put,List.setIfInBounds_toArray,List.set_cons_zero,List.set_cons_succ];refine wpAnyH_done (by kernel_rfl) ?_ _
    go_wp2_with fail
    go_meet;exact⟨XA,rfl,rfl,dE,bE⟩
   case rest=>
    obtain⟨X,rfl,rfl,bx,b5⟩:=hcut;obtain⟨W5,hW5⟩:∃W5,W5=wc:=⟨_,rfl⟩;subst hW5;have Py:=ai ((aa EB).next b5);have HR5:Hid (kJ W5 R r):=ai ((b5.block _ (cI (aa sB))).trans (aa sB));have HX5:=ai bx;obtain⟨g,capv,hdv,YK,HN⟩:=aa HDO;have HN5:=ai (HN W5 b5);subst hdv;clear b5 HN HDO HLK EB sB x0 x1 x2 x3 x4 x5 r0 r1 r2 r3 r4 r5 r6 r7 r8 r9 hR4 hRn hYn hY4;obtain⟨x0,x1,x2,x3,x4,x5⟩:=bx.cells;obtain⟨r0,r1,r2,r3,r4,r5,r6,r7,r8,r9⟩:=(aa HR5).cells;clear bx;obtain⟨od,hod⟩:∃od,od=f_ B r:=⟨_,rfl⟩;rw[←hod]at HN5;have HOD:=ai hod;clear hod;have HOO:=HO
    have HST:Hid (o=match stepT B r with|none=>(none,3)|some D=>dr (lz (pF f qn D)) (rs.drop (k+1))):=ai (by
     rw[aa HE]
     conv=>lhs;unfold dr
     rw[Aa (fun h=>h (aa HF)),S1 f r qn jb (aa HQN),←(aa Kb).1];cases gV:stepT B r with
     |none=>rfl
     |some D=>simp only;rw[Nf f r D qn jb (aa HQN)])
    clear HE HO;have H6:W5.ownsRow (Y+1) 56 6 (.slice aq B.es.length cq) B.es.length ((au B.es).map (Value.int .i64)):=by
     have:=(aa Py).fb.own qn jb;rw[nS,←(aa Kb).1,←(aa Kb).2.1,←(aa Kb).2.2]at this;exact this
    have HG:Hid (∀W6,W5.grownBy W6 (Value.slice aq B.es.length cq).ownBlock→bZ W1 W6∧kJ W6 R r∧aG W6 X B.r B.e B.f B.t B.o aq B.es.length cq∧gS W6 Y f A K∧∀p,p<4→p≠qn→W6.ownsRow (Y+1) 56 6 (nS f A K p) (f p).es.length ((au (f p).es).map (Value.int .i64))):=ai fun W6 g6=>by
     have g6':W5.grownBy W6 (nS f A K qn).ownBlock:=by rw[nS,←(aa Kb).1,←(aa Kb).2.1,←(aa Kb).2.2];exact g6
     obtain⟨h1,h2⟩:=(aa Py).fb.SZ qn jb g6';exact⟨(aa Py).dp.grown g6 (aa Py).dp.size (fun q hq=>by have:=(H6.lt q hq).1;have:=(aa Py).up;omega),(g6.block R (cI (aa HR5)) (fun e=>aX H6 (aa HR5) (by decide) R e.symm rfl)).trans (aa HR5),(g6.block X (aa HX5).lt (fun e=>aX H6 (aa HX5) (by decide) X e.symm rfl)).trans (aa HX5),h1,h2⟩
    clear H6
    go_step
    go_step
    cases od with
    |none=>
     have zq:Hid (o=(none,3)):=ai (by rw[aa HST];unfold stepT;rw[←aa HOD])
     go_upto_region 11 with(go_at_fn g;refine(aa HN5).mono ?_;rintro x W6 ⟨rfl,g6⟩;clear x0 x1 x2 x3 x4 x5 r0 r1 r2 r3 r4 r5 r6 r7 r8 r9)
     obtain⟨W7,hW7,b7⟩:∃W7,W7=W6.alloc (.cells (dF 0 0 0 0 0 none 0 0) 43)∧bZ W6 W7:=⟨_,rfl,aC _ _⟩;rw[←hW7];have RJ:=ai (Below.next (aa HD1) (Below.next (aa HG W6 g6).1 b7));clear hW7 b7 g6 HG HN5 YK;go_wp2;go_ret2;exact⟨pG.none (aa zq),aa RJ⟩
    |some D=>
     have aad:B.b_:=by rw[(aa Kb).1];exact(aa Py).fb.cG qn jb
     have HDW:Hid (D.b_∧(∀u∈au D.es,(Lit.int .i64 u).wf=true)∧D.es.length≤B.es.length+1):=ai (by
      have h1:=pC aad (aa HF) (aa HOD).symm;have h2:=S2 aad (aa HOD).symm (by rw[(aa Kb).1];exact(aa Py).fb.wf qn jb) (aa HVW)
      exact⟨h1.1,h2.1,h2.2⟩)
     clear aad
     go_upto_region 11 with(go_at_fn g;refine(aa HN5).mono ?_;rintro x W6 ⟨⟨a6,c6,rfl,own6,lie6,few6⟩,g6⟩;clear x0 x1 x2 x3 x4 x5 r0 r1 r2 r3 r4 r5 r6 r7 r8 r9)
     obtain⟨W7,hW7,kb7,b7⟩:∃W7,W7=W6.alloc (.cells (dF D.r D.e D.f D.t D.o a6 D.es.length c6) 43)∧aG W7 W6.heap.size D.r D.e D.f D.t D.o a6 D.es.length c6∧bZ W6 W7:=⟨_,rfl,aG.new _ _ _ _ _ _ _ _ _,aC _ _⟩;rw[←hW7];obtain⟨Z,hZ⟩:∃Z,Z=W6.heap.size:=⟨_,rfl⟩;rw[←hZ]at kb7⊢;obtain⟨G1,G2,G3,G4,G5⟩:=aa HG W6 g6;have H7:Hid (∀W,bZ W7 W→bZ W1 W∧kJ W R r∧aG W X B.r B.e B.f B.t B.o aq B.es.length cq∧aG W Z D.r D.e D.f D.t D.o a6 D.es.length c6∧gS W Y f A K∧(∀p,p<4→p≠qn→W.ownsRow (Y+1) 56 6 (nS f A K p) (f p).es.length ((au (f p).es).map (Value.int .i64)))∧W.ownsRow (Y+1) 56 6 (.slice a6 D.es.length c6) D.es.length ((au D.es).map (Value.int .i64))):=ai fun W b=>by
      have bb:=Below.next b7 b;exact⟨Below.next G1 bb,(bb.block _ (cI G2)).trans G2,G3.next bb,kb7.next b,(bb.block _ G4.lt).trans G4,fun p hp fR=>aJ (G5 p hp fR) (fun g _ hg=>bb.block g hg),aJ own6 (fun g _ hg=>bb.block g hg)⟩
     have HL6:=ai lie6;have HF6:Hid (D.es.length<B.es.length→Td W1 W7 Y rs k f A K):=ai fun h=>(aa Py).next (Below.next (few6 h) b7);obtain⟨x0,x1,x2,x3,x4,x5⟩:=(G3.next b7).cells;obtain⟨z0,z1,z2,z3,z4,z5⟩:=kb7.cells;have acI:Hid (stepT B r=some D→∀W8,bZ W7 W8→∀W9,aB Y W8 W9→gS W9 Y (pF f qn D) (pF A qn a6) (pF K qn c6)→Td W1 W9 Y rs (k+1) (pF f qn D) (pF A qn a6) (pF K qn c6)):=ai fun hs W8 b8 W9 t9 fb9=>by
      obtain⟨h1,h2,h3,h4,h5,h6,h7⟩:=aa H7 W8 b8;refine⟨t9.under h1 (aa Py).up,(aa Py).fb.put qn jb h6 h7 (by rw[nS,←(aa Kb).1,←(aa Kb).2.1,←(aa Kb).2.2];exact aa HL6) (aa HDW).1 (aa HDW).2.1 t9 fb9, ?_,fun q hq=> ?_,(aa Py).up⟩
      ·rw[←aa HOO,aa HST,hs]
      ·by_cases e:q=qn
       ·subst e;rw[qy];have:=(aa HDW).2.2;have h8:=(aa Py).few q hq;rw[←(aa Kb).1]at h8;omega
       ·rw[oF _ _ e];have:=(aa Py).few q hq;omega
     have HHG:=ai YK;clear hW7 b7 hZ g6 own6 lie6 few6 G1 G2 G3 G4 G5 kb7 HN5 HG YK;by_cases hl:D.es.length<B.es.length
     case neg=>
      have HSS:Hid (stepT B r=some D):=ai (by unfold stepT;rw[←aa HOD];simp only;rw[Aa (fun h=>hl h.1)]);have Zg:¬(D.es.length:Int)<(B.es.length:Int):=by omega
      clear hl
      go_upto_region 13 with fail
      clear x0 x1 x2 x3 x4 x5 z0 z1 z2 z3 z4 z5 Zg;obtain⟨k1,k2,k3,k4,k5,_⟩:=aa H7 W7 (Bm _ _);obtain⟨r0,r1,r2,r3,r4,r5,r6,r7,r8,r9⟩:=k2.cells;rw[aa HQN]at r1;obtain⟨z0,z1,z2,z3,z4,z5⟩:=k4.cells;obtain⟨f0,f1,f2,f3,f4,f5⟩:=k5.at qn jb;have ff:=k5.free;have hqi:¬4≤(qn:Int):=by omega
      have HK5:=ai k5;clear k1 k2 k3 k4 k5
      go_upto_region 14 with fail
      obtain⟨W9,hW9,HT9⟩:∃W9,W9=(((((W7.setCell ⟨Y,qn*6,none⟩ (iV D.r)).setCell ⟨Y,qn*6+1,none⟩ (iV D.e)).setCell ⟨Y,qn*6+2,none⟩ (iV D.f)).setCell ⟨Y,qn*6+3,none⟩ (iV D.t)).setCell ⟨Y,qn*6+4,none⟩ (iV D.o)).setCell ⟨Y,qn*6+5,none⟩ (.slice a6 D.es.length c6)∧Hid (Td W1 W9 Y rs (k+1) (pF f qn D) (pF A qn a6) (pF K qn c6)):=
       ⟨_,rfl,ai (aa acI (aa HSS) W7 (Bm _ _) _ (I7 _ _ _ _ _ _ _ _ _) ((aa HK5).put qn jb D a6 c6))⟩
      rw[←hW9];clear hW9 r0 r1 r2 r3 r4 r5 r6 r7 r8 r9 z0 z1 z2 z3 z4 z5 f0 f1 f2 f3 f4 f5 ff HK5;go_wp2
      go_roundw
      case rel=>exact⟨k+1,_,_,_,by omega,by go_num,HT9⟩
      case measure=>simp[intOf];omega
     case pos=>
      have Zg:(D.es.length:Int)<(B.es.length:Int):=by omega
      have WQ:jg W7 B aq cq:=by
       have:=(aa HF6 hl).fb.bin qn jb;rw[←(aa Kb).1,←(aa Kb).2.1,←(aa Kb).2.2]at this;exact this
      by_cases ok:B.Ok
      case neg=>
       have HC:=kx B aq cq W7 WQ ok;have zq:Hid (o=(none,3)):=ai (by rw[aa HST];unfold stepT;rw[←aa HOD];simp only;rw[Ae ⟨hl,ok⟩]);clear hl ok WQ
       go_wp2_with (go_at_call 142;refine HC.mono ?_;rintro e W8 ⟨rfl,d8⟩;clear HC x0 x1 x2 x3 x4 x5 z0 z1 z2 z3 z4 z5;have HB8:=ai (Below.next (aa HD1) (aa H7 W8 d8).1);clear d8)
       go_ret2;exact⟨pG.none (aa zq),aa HB8⟩
      case pos=>
       have HC:=gz B aq cq W7 WQ ok;have HSS:Hid (stepT B r=some D):=ai (by unfold stepT;rw[←aa HOD];simp only;rw[Aa (fun h=>h.2 ok)]);clear hl ok WQ
       go_upto_region 13 with(go_at_call 142;refine HC.mono ?_;rintro e W8 ⟨rfl,d8⟩;clear HC x0 x1 x2 x3 x4 x5 z0 z1 z2 z3 z4 z5;have HB8:=ai d8;clear d8)
       clear Zg;obtain⟨k1,k2,k3,k4,k5,_⟩:=aa H7 W8 (aa HB8);obtain⟨r0,r1,r2,r3,r4,r5,r6,r7,r8,r9⟩:=k2.cells;rw[aa HQN]at r1;obtain⟨z0,z1,z2,z3,z4,z5⟩:=k4.cells;obtain⟨f0,f1,f2,f3,f4,f5⟩:=k5.at qn jb;have ff:=k5.free;have hqi:¬4≤(qn:Int):=by omega
       have HK5:=ai k5;clear k1 k2 k3 k4 k5
       go_upto_region 14 with fail
       obtain⟨W9,hW9,HT9⟩:∃W9,W9=(((((W8.setCell ⟨Y,qn*6,none⟩ (iV D.r)).setCell ⟨Y,qn*6+1,none⟩ (iV D.e)).setCell ⟨Y,qn*6+2,none⟩ (iV D.f)).setCell ⟨Y,qn*6+3,none⟩ (iV D.t)).setCell ⟨Y,qn*6+4,none⟩ (iV D.o)).setCell ⟨Y,qn*6+5,none⟩ (.slice a6 D.es.length c6)∧Hid (Td W1 W9 Y rs (k+1) (pF f qn D) (pF A qn a6) (pF K qn c6)):=
        ⟨_,rfl,ai (aa acI (aa HSS) W8 (aa HB8) _ (I7 _ _ _ _ _ _ _ _ _) ((aa HK5).put qn jb D a6 c6))⟩
       rw[←hW9];clear hW9 r0 r1 r2 r3 r4 r5 r6 r7 r8 r9 z0 z1 z2 z3 z4 z5 f0 f1 f2 f3 f4 f5 ff HK5;go_wp2
       go_roundw
       case rel=>exact⟨k+1,_,_,_,by omega,by go_num,HT9⟩
       case measure=>simp[intOf];omega
theorem I8(es:List Ev)(k:Nat):(au es).take (6*k)=au (es.take k):=by
 induction k generalizing es with
 |zero=>simp[au]
 |succ k ih=>
  cases es with
  |nil=>simp[au]
  |cons v es=>
   show(bf v++au es).take (6*(k+1))=bf v++au (es.take k);rw[show 6*(k+1)=(bf v).length+6*k by show _=6+_;omega,List.take_append];rw[AL (by omega),Cu,ih]
theorem mK.least{A B:tG}{la lb n k:Nat}(h:mK A B la lb n)(hs:∀j,j<k→pq A B j)(ha:k≤la)(hb:k≤lb):k≤n:=by
 rcases AG n k with h1|h1
 ·rcases h.stop with h2|h2|h2
  ·omega
  ·omega
  ·exact absurd (hs n h1) h2
 ·exact h1
theorem I9{es os:List Ev}{k:Nat}(h:es.take k=os.take k)(he:k≤es.length)(ho:k≤os.length):∀j,j<k→pq (au es) (au os) j:=by
 intro j hj i hi;rw[mr es j (by omega) i hi,mr os j (by omega) i hi];have:es[j]'(by omega)=os[j]'(by omega):=by
  have h1:(es.take k)[j]? =(os.take k)[j]? :=by rw[h]
  rw[AO,AO,Ae hj,Ae hj,Ai (by omega),Ai (by omega)]at h1;exact AY h1
 rw[this]
def aae(ad:tB)(c l:Nat):Option Addr:=if c=l then ad else ad.map (·.add (l*6))
theorem qz:∀(es:List Ev) (l:Nat),au (es.drop l)=(au es).drop (6*l)
 |es,0=>by simp
 |[],l+1=>by simp[au]
 |v::es,l+1=>by
  rw[List.drop_succ_cons,qz es l];show(au es).drop (6*l)=(bf v++au es).drop (6*(l+1));have e1:List.drop ((bf v).length+6*l) (bf v)=[]:=Cf (by omega);rw[show 6*(l+1)=(bf v).length+6*l by simp[bf];omega,List.drop_append,e1,Cu,List.nil_append]
theorem RowK.within{k:IntKind}{w:tA}{b off len:Nat}{L:tG}(h:RowK k w (some ⟨b,off,none⟩) len L)(d m:Nat)(hd:d+m≤len):RowK k w (some ⟨b,off+d,none⟩) m ((L.drop d).take m):=by
 have hl:=h.bP;refine⟨by rw[AM,AK];omega,fun u hu=>h.wf u (Bl (AJ hu)),fun i hi=>⟨b,off+d,rfl,h.lt (by omega), ?_⟩⟩;have hc:=h.at (d+i) (by omega);rw[BF,hc];congr 2;simp only[List.getD_eq_getElem?_getD];rw[AO,Ae hi,BO]
theorem WR{w:tA}{ad:tB}{n c:Nat}{es:List Ev}(hr:RowK .i64 w ad (6*n) (au es))(nil:ad=none→c=0)(l h:Nat)(h1:l≤h)(h2:h≤n)(hc:n≤c):
  RowK .i64 w (aae ad c l) (6*(h-l)) (au ((es.drop l).take (h-l)))∧(aae ad c l=none→c-l=0):=by
 have iG:au ((es.drop l).take (h-l))=((au es).drop (6*l)).take (6*(h-l)):=by rw[←I8,qz]
 unfold aae;by_cases Ej:c=l
 ·rw[Ae Ej];have:h-l=0:=by omega
  rw[this];simp only[List.take_zero];exact⟨RowK.nil _ _ _,fun _=>by omega⟩
 ·rw[Aa Ej];cases ad with
  |none=>have:=nil rfl;omega
  |some x=>
   refine⟨?_,fun h=>by simp at h⟩;rcases Cl (h-l)with h0|h0
   ·rw[h0];simp only[List.take_zero];exact RowK.nil _ _ _
   ·obtain⟨b,off,hx⟩:=hr.form (by omega);cases hx;rw[iG];have:=hr.within (6*l) (6*(h-l)) (by omega);have e:(⟨b,off,none⟩:Addr).add (l*6)=⟨b,off+6*l,none⟩:=by rw[Bn];unfold Addr.add;split<;>simp_all
    simp only[Option.map_some];rw[e];exact this
theorem acK:Tryz.prog.underlying 153=some (.slice (Tryz.prog.elem 153)):=by kernel_rfl
theorem WS(w:tA):(sizeOf (Tryz.prog.elem 153)).run Tryz.prog w= .ok 10 w:=by
 have:Tryz.prog.elem 153=144:=by kernel_rfl
 rw[this];simp[sizeOf,go_sem];rfl
theorem u_(b off n c h:Nat)(h2:h≤c)(w:tA):(Instr.sliceAt 153 (.slice (some ⟨b,off,none⟩) n c) none (some (iV h)) none).run Tryz.prog w= .ok (.slice (some ⟨b,off,none⟩) h c) w:=by
 rw[run_sliceAt_slice w _ _ _ _ _ acK,run_slice_h w _ _ _ _ acK _ _ (by omega) (by omega),WS];simp[sliced,Addr.add_mid]
theorem A9:∀(l:List Rec) (S:List Bt),(dr S l).1=none→¬(dr S l).2=0
 |[],S,h=>by
  unfold dr at h⊢;split at h
  ·cases h
  ·rename_i g;rw[Aa g];decide
 |r::l,S,h=>by
  unfold dr at h⊢;split at h
  ·rename_i g;rw[Ae g];exact g
  ·rename_i g;rw[Aa g];split at h
   ·decide
   ·rename_i D e;exact A9 l (put S r D) h
theorem vh:∀(rs:List Rec) (k:Nat),(aD rs).take (10*k)=aD (rs.take k)
 |[],k=>by simp[aD]
 |v::rs,0=>by simp[aD]
 |v::rs,k+1=>by
  have hl:(bn v).length=10:=rfl;show(bn v++aD rs).take (10*(k+1))=bn v++aD (rs.take k);rw[show 10*(k+1)=(bn v).length+10*k by omega,List.take_length_add_append,vh rs k]
theorem I_{w:tA}{a:tB}{rs:List Rec}(hr:RowK .i64 w a (10*rs.length) (aD rs))(k:Nat)(hk:k≤rs.length):RowK .i64 w a (10*(rs.take k).length) (aD (rs.take k)):=by
 have hl:(rs.take k).length=k:=by simp;omega
 rw[hl,←vh];refine⟨by have:=hr.bP;simp;omega,fun u hu=>hr.wf u (AJ hu),fun i hi=> ?_⟩;obtain⟨b,off,e,hb,hc⟩:=hr.cell i (by omega);refine⟨b,off,e,hb,hc.trans ?_⟩;simp only[List.getD_eq_getElem?_getD];rw[List.getElem?_take_of_lt hi]
theorem S4(rs:List Rec)(b off c R h:Nat)(bv:Bool)(w:tA)(hR:w.heap[R]? =some (.cells #[.slice (some ⟨b,off,none⟩) rs.length c] 153 (0,0)))(hr:RowK .i64 w (some ⟨b,off,none⟩) (10*rs.length) (aD rs))(hc:rs.length≤c)(hh:h<rs.length)(hlen:(rs.length+1)*48≤140737488355328)
  (hb:bv=true↔(dr (lz gb) (rs.take (h+1))).1=none):
  cA 127 #[iV h,.pointer (some ⟨R,0,none⟩)] w (rB (.bool bv) w):=by
 have hT:=wG (rs.take (h+1)) (some ⟨b,off,none⟩) c w (I_ hr (h+1) (by omega)) (by simp;omega);have hl:(rs.take (h+1)).length=h+1:=by simp;omega
 rw[hl]at hT;have hcut:=fun w=>u_ b off rs.length c (h+1) (by omega) w;have k0:w.cell? ⟨R,0,none⟩=some (.slice (some ⟨b,off,none⟩) rs.length c):=by simp[World.cell?,hR]
 have hE:=A9 (rs.take (h+1)) (lz gb);generalize dr (lz gb) (rs.take (h+1))=o at hT hE hb;obtain⟨h1,hh1⟩:∃h1:Nat,h1=h+1:=⟨_,rfl⟩;rw[←hh1]at hT hcut;have hh2:(h:Int)+1=(h1:Int):=by omega
 have HH:=ai (And.intro hE hb);clear hE hb hl hr hR hh1;have hT':cA 125 #[.slice (some ⟨b,off,none⟩) h1 c] w fun x w'=>∃v er,x= .returned (.tuple #[v,iV er])∧Hid (er=0↔¬o.1=none)∧bZ w w':=hT.mono fun x w' ⟨h1,h2⟩=>by
  cases ho:o.1 with
  |none=>exact⟨_,_,h1.1 ho,ai ⟨fun h=>absurd h ((aa HH).1 ho),fun h=>absurd rfl h⟩,h2⟩
  |some S=>obtain⟨Y,f,A,K,e,e2,_⟩:=h1.2 S ho;exact⟨_,_,e,ai ⟨(fun _ h=>by cases h),fun _=>rfl⟩,h2⟩
 clear hT;go_enter Tryz.func127,Tryz.ntmps127
 go_wp2_with (go_at_call 125;refine hT'.mono ?_;rintro e W2 ⟨v2,er,rfl,HEr,d2⟩;clear hT')
 go_ret;refine⟨?_,d2⟩;have h3:(er !=0)=bv:=by
  have h4:=aa HEr;have h5:=(aa HH).2;cases bv with
  |true=>
   have:¬er=0:=fun e=>h4.1 e (h5.1 rfl);simpa using this
  |false=>
   have:er=0:=h4.2 (fun e=>by have:=h5.2 e;cases this);simp[this]
 rw[←h3];rfl
def aaf(w w':tA)(o:Option (List Bt)×Nat×Int)(x:Ending):Prop:=
 (o.1=none→x= .returned (.tuple #[.slice none 0 0,iV o.2.1,iV o.2.2]))∧
 ∀S,o.1=some S→∃Y f A K,x= .returned (.tuple #[.slice (some ⟨Y,0,none⟩) 4 4,iV 0,iV 0])∧o.2.1=0∧o.2.2=0∧S=lz f∧Lj w' Y f A K∧w.heap.size≤Y
theorem Ng{W:tA}{v:tK}{j e:Int}{tmps:tR}(t2:tmps[2]? =some v)(t3:tmps[3]? =some (iV j))(t4:tmps[4]? =some (iV e)):(results Tryz.f84 tmps).run Tryz.prog W= .ok (.tuple #[v,iV j,iV e]) W:=by
 simp[results,Tryz.results84,t2,t3,t4]
theorem Ja:∀B∈lz gb,B.Ok:=(aa0 gb Bt.Ok).2 fun _ _=>Bt.dx
theorem WT(rs:List Rec)(a:tB)(c:Nat)(w:tA)(hr:RowK .i64 w a (10*rs.length) (aD rs))(hc:rs.length≤c)(hlen:(rs.length+1)*48≤140737488355328):
  cA 84 #[.slice a rs.length c] w fun x w'=>aaf w w' (kV (lz gb) 0 rs) x∧bZ w w':=by
 have HR:Hid (∀W,bZ w W→RowK .i64 W a (10*rs.length) (aD rs)):=ai fun W b=>hr.below b;clear hr;obtain⟨W,hW,bx,B0⟩:∃W,W=w.alloc (.cells #[.slice a rs.length c] 153)∧W.heap[w.heap.size]? =some (.cells #[.slice a rs.length c] 153 (0,0))∧bZ w W:=⟨_,rfl,AP _ _,aC _ _⟩;have HT:=wG rs a c W (aa HR W B0) hlen;have vR:W.cell? ⟨w.heap.size,0,none⟩=some (.slice a rs.length c):=by simp[World.cell?,bx]
 obtain⟨o,ho⟩:∃o,o=kV (lz gb) 0 rs:=⟨_,rfl⟩;rw[←ho];have HB:=ai (And.intro bx B0);cases h1:o.1 with
 |some S=>
  have ht:=I4 rs (lz gb) S 0 o.2.1 o.2.2 rfl Ja (by rw[←ho,←h1]);rw[ht.1]at HT;have HT':cA 125 #[.slice a rs.length c] W fun x w'=>∃Y f A K,x= .returned (.tuple #[.slice (some ⟨Y,0,none⟩) 4 4,iV 0])∧Hid (S=lz f∧Lj w' Y f A K∧W.heap.size≤Y)∧bZ W w':=HT.mono fun x w' ⟨g1,g2⟩=>by
   obtain⟨Y,f,A,K,e,_,e3,e4,e5⟩:=g1.2 S rfl;exact⟨Y,f,A,K,e,ai ⟨e3,e4,e5⟩,g2⟩
  have HH:Hid (o.1=some S∧o.2.1=0∧o.2.2=0):=ai ⟨h1,ht.2⟩;clear HT ho h1 ht bx B0;go_enter Tryz.func84,Tryz.ntmps84
  go_upto_region 1 with fail
  rw[←hW];clear hW
  go_wp2_with (go_at_call 125;refine HT'.mono ?_;rintro e W2 ⟨Y,f,A,K,rfl,HY,d2⟩;clear HT' vR)
  refine Ao (Ng rfl rfl rfl) rfl ⟨⟨(fun h=>by rw[(aa HH).1]at h;cases h),fun S' h=> ?_⟩,Below.next (aa HB).2 d2⟩;rw[(aa HH).1]at h;cases h;exact⟨Y,f,A,K,rfl,(aa HH).2.1,(aa HH).2.2,(aa HY).1,(aa HY).2.1,AN (aa HB).2.size (aa HY).2.2⟩
 |none=>
  obtain⟨n,hn,hj,he,hle,N3⟩:=ES rs (lz gb) 0 o.2.1 o.2.2 rfl Ja (by rw[←ho,←h1]);have rV:=aa HR W B0;obtain⟨b,off,rfl⟩:=rV.form (by omega);have htl:rs.take rs.length=rs:=BC;have kM:=N3 rs.length hn;rw[htl]at kM;have wA:Hid (¬(dr (lz gb) rs).2=0):=ai (A9 rs (lz gb) kM.1);have HT':cA 125 #[.slice (some ⟨b,off,none⟩) rs.length c] W fun x w'=>∃er,x= .returned (.tuple #[.slice none 0 0,iV er])∧¬er=0∧bZ W w':=HT.mono fun x w' ⟨g1,g2⟩=>⟨_,g1.1 kM.1,aa wA,g2⟩;have HS:Hid (∀W',bZ W W'→cA 126 #[iV rs.length,.func (.func 127) #[] #[.pointer (some ⟨w.heap.size,0,none⟩)]] W' (rB (iV n) W')):=ai fun W' b'=>
   Li 127 w.heap.size rs.length n W' (by omega) (by omega) (enters_of Tryz.func127 (by kernel_rfl) rfl) (fun h YW hh b''=>S4 rs b off c w.heap.size h (decide (n≤h)) YW (((Below.next b' b'').block _ (cI (aa HB).1)).trans (aa HB).1) (aa HR YW (Below.next (aa HB).2 (Below.next b' b''))) hc hh hlen (by
    rw[decide_eq_true_eq];constructor
    ·intro h1;exact(N3 (h+1) (by omega)).1
    ·intro h1;rcases AG h n with h2|h2
     ·obtain⟨S',hS⟩:=hle (h+1) (by omega);rw[hS]at h1;cases h1
     ·exact h2))
  have HE:Hid (∀W',bZ W W'→cA 125 #[.slice (some ⟨b,off,none⟩) ((n+1:Nat)) c] W' (rB (.tuple #[.slice none 0 0,iV o.2.2]) W')):=ai fun W' b'=>by
   have h1:=wG (rs.take (n+1)) (some ⟨b,off,none⟩) c W' (I_ (aa HR W' (Below.next (aa HB).2 b')) (n+1) (by omega)) (by simp;omega);rw[show(rs.take (n+1)).length=n+1 by simp;omega]at h1;refine h1.mono fun x w' ⟨g1,g2⟩=>⟨?_,g2⟩;have h2:=N3 (n+1) (by omega);rw[g1.1 h2.1,h2.2 rfl]
  have hcut:=fun w=>u_ b off rs.length c (n+1) (by omega) w;have YV:Hid (o.1=none∧o.2.1=n):=ai ⟨h1,by omega⟩;obtain⟨er2,her2⟩:∃er2,er2=o.2.2:=⟨_,rfl⟩;rw[←her2]at HE;have HER:=ai her2;obtain⟨n1,uG⟩:∃n1:Nat,n1=n+1:=⟨_,rfl⟩;rw[←uG]at HE hcut;have sL:(n:Int)+1=(n1:Int):=by omega
  have EV:(n:Int)≤1000000000000000:=by omega
  clear HT ho h1 bx B0 rV htl kM wA hle N3 hj he her2 uG HR;go_enter Tryz.func84,Tryz.ntmps84
  go_upto_region 1 with fail
  rw[←hW];clear hW
  go_upto_region 2 with(go_at_call 125;refine HT'.mono ?_;rintro e W2 ⟨er,rfl,Ik,d2⟩;clear HT' vR)
  have aiP:(er==0)=false:=by simpa using Ik
  have Du:W2.cell? ⟨w.heap.size,0,none⟩=some (.slice (some ⟨b,off,none⟩) rs.length c):=by simp[World.cell?,(d2.block _ (cI (aa HB).1)).trans (aa HB).1]
  have HS2:=aa HS W2 d2;have Vk:=ai d2;clear Ik HS d2
  go_upto_region 5 with(go_at_call 126;refine HS2.mono ?_;rintro e W3 ⟨rfl,d3⟩;clear HS2 Du)
  have Oo:W3.cell? ⟨w.heap.size,0,none⟩=some (.slice (some ⟨b,off,none⟩) rs.length c):=by simp[World.cell?,((Below.next (aa Vk) d3).block _ (cI (aa HB).1)).trans (aa HB).1]
  have M8:=aa HE W3 (Below.next (aa Vk) d3);have HD3:=ai d3;clear HE d3
  go_wp2_with (go_at_call 125;refine M8.mono ?_;rintro e W4 ⟨rfl,d4⟩;clear M8 Oo)
  refine Ao (Ng rfl rfl rfl) rfl ⟨⟨fun _=> ?_,fun S h=>by rw[(aa YV).1]at h;cases h⟩,Below.next (aa HB).2 (Below.next (Below.next (aa Vk) (aa HD3)) d4)⟩;rw[(aa YV).2,←aa HER];rfl
section
open Rv
structure Nt(w W:tA)(R:Nat)(s:St)(an:An)(bu:List An)(va:tK):Prop where
 tg:Tg W R 229 [va] s an
 own:W.ownsRow (R+1) 59 4 va bu.length ((lJ bu).map (Value.int .i64))
 dp:bZ w W
 up:w.heap.size≤R
theorem Nt.next{w W W':tA}{R:Nat}{s:St}{an:An}{bu:List An}{va:tK}(h:Nt w W R s an bu va)(b:bZ W W'):Nt w W' R s an bu va:=⟨h.tg.next b,aJ h.own (fun g _ hg=>b.block g hg),Below.next h.dp b,h.up⟩
def acM(w:tA)(R:Nat)(s:St)(bu:List An)(v:Ev)(e:Ending)(w':tA):Prop:=
 (e= .returned (.bool true)∧∃s' pY va',v.Ok∧Step s v s' pY true∧Nt w w' R s' pY (bu++[pY]) va')∨(e= .returned (.bool false)∧(¬v.Ok∨∃s' pY,Step s v s' pY false)∧bZ w w')
theorem aag:jI Tryz.prog 190 59 4 32=true:=by kernel_rfl
theorem S5(w W:tA)(R:Nat)(s:St)(an:An)(bu:List An)(va:tK)(v:Ev)(ok:s.Ok)(hn:bu.length≤2000)(N:Nt w W R s an bu va):
  cA 151 #[.pointer (some ⟨R,0,none⟩),pk v] W fun e w'=>acM w R s bu v e w':=by
 obtain⟨_,_,_,_,_,tb,_⟩:=N.tg.ex;refine en (H:=[]) 25 [vv (.pointer (some ⟨R,0,none⟩)),vg (ZO v)] Tryz.func151 rfl rfl (m0 W) (r [1] rfl fun α=>mG rfl (by kernel_rfl) fun x hS=> ?_);have N1:=N.next hS.now.2;refine(Ij s an v x R 229 [va] ok N1.tg (.inr ⟨_,rfl⟩)).mono ?_;rintro _ w' ⟨s',pY,ch,er,rfl,hd,h1,h2,o⟩;have dp:=o.toBelow N1.dp N1.up rfl;cases ch
 ·refine⟨vv (.bool false),[],_,_,_,rfl,.inl rfl,Mem.start (M:=fun _=>False) (G:=fun _=>True) (R:=fun w2=>bZ w w2) (fun _ h=>h.elim) (fun _ _=>trivial) (fun w2 b=>Below.next dp b),r [] rfl fun _=>fin fun w2 hS=> .inr ⟨rfl, ?_,hS.now.2⟩⟩;cases hd with
  |step hv st=>exact .inr ⟨s',pY,st⟩
  |form _ hv h0=>exact .inl fun fw=>h0 (hv.symm.trans fw)
 obtain⟨hv,st⟩:v.Ok∧Step s v s' pY true:=by cases hd with|step hv st=>exact⟨hv,st⟩
 obtain⟨a1,c1,a2,c2,ws,t,r1,r2,m1,m2,hW,x1,x2,l1,l2⟩:=(h1 rfl).ex;have o1:aW (qF s'.ep s'.nx s'.gv (.slice a1 s'.rn c1) (.slice a2 s'.ln c2) ws) 41:=(we.mk (w:=w') ⟨a1,c1,a2,c2,ws,rfl,r1,r2,l1,l2,m1,m2,hW⟩).one;have hRx:R<x.heap.size:=Am tb.lt hS.now.2.size;have own:=N1.own;have N8:∀b,va.ownBlock=some b→R<b∧b<x.heap.size:=fun b hb=>by
  rcases own.2 with⟨rfl,_⟩|⟨g,_,_,rfl,h1,h2,_⟩
  ·cases hb
  ·cases hb;exact⟨h1,(BP.1 h2).1⟩
 have Gk:=aJ own fun g hg aN=>o.block g aN (Nat.ne_of_gt (N8 g hg).1);have pS:=own.1;have Ep:Mem w' (hs [Vm R 229 (qF s'.ep s'.nx s'.gv (.slice a1 s'.rn c1) (.slice a2 s'.ln c2) ws) pY [.o va]]) (fun b=>va.ownBlock=some b∨False) (fun w=>RowK .i64 w a1 (2*s'.rn) s'.R∧RowK .i64 w a2 (4*s'.ln) s'.L) (fun w2=>bZ w w2∧w2.ownsRow (R+1) 59 4 va bu.length ((lJ bu).map (Value.int .i64))):=by
  refine⟨fun e he=>by cases Ab.1 he;exact(Ii (.inr ⟨_,rfl⟩)).1 t,fun i j e e' hi hj _=> ?_,fun e he hm=> ?_,fun b hb=> ?_,fun w2 c=> ?_,fun w2 c=>⟨?_, ?_⟩⟩
  ·obtain⟨hi,_⟩:=Ap.1 hi;obtain⟨hj,_⟩:=Ap.1 hj;have hi:i<1:=hi;have hj:j<1:=hj;omega
  ·cases Ab.1 he;exact hm.elim (fun h=>Nat.lt_irrefl _ (N8 _ h).1) id
  ·exact hb.elim (fun h=>Am (N8 b h).2 o.size) False.elim
  ·have key:∀y:Addr,x.heap.size≤y.block→¬(y.block∈(hs [Vm R 229 (qF s'.ep s'.nx s'.gv (.slice a1 s'.rn c1) (.slice a2 s'.ln c2) ws) pY [.o va]]).map bX.a∨va.ownBlock=some y.block∨False):=fun y hy k=>by
    rcases k with k|k|k
    ·have:y.block=R:=Ab.1 k;omega
    ·have:=(N8 _ k).2;omega
    ·exact k
   exact⟨nh r1 c fun y hy _=>key y (x1 y hy),nh r2 c fun y hy _=>key y (x2 y hy)⟩
  ·exact dp.trans (c.below (AN dp.size (Ac _)) fun b hb hm=>by
    have:b=R:=Ab.1 hm;have:=N.up
    omega)
  ·exact aJ Gk fun g hg aN=>c.block g aN fun hm=>by
    have:g=R:=Ab.1 hm;have:=(N8 g hg).1;omega
 refine⟨vv (.bool true),_,_,_,_,rfl,.inl rfl,Ep,sv 0 (vp 0 0 R) rfl (r [3] rfl fun _=>nJ 1 rfl aag (fun w2 hS=>(hS.at 0 rfl).lt) (fun w1 w2 h c=>cB h c (by have:=N.up;omega)) fun g c hc=> ?_)⟩;refine r [] rfl fun _=>fin fun w2 hS=> .inl ⟨rfl,s',pY,_,hv,st,⟨⟨a1,c1,a2,c2,ws,(Ii (.inr ⟨_,rfl⟩)).2 (hS.at 0 rfl),hS.now.1.1,hS.now.1.2,m1,m2,hW,fun y hy=>by have:=x1 y hy;omega,fun y hy=>by have:=x2 y hy;omega,l1,l2⟩, ?_,hS.now.2.1,N.up⟩⟩;have:=hS.now.2.2;rw[xt,AE,Ag];exact this
inductive Av(es:List Ev)(w w':tA):Value→Int→Prop
 |bad {er:Int} (h:¬er=0) (hr:Rv es St.zero er):Av es w w' (.slice none 0 0) er
 |told {s:St} {va:tK} (bu:List An) (h:es.length≤2000) (ht:bz es s bu) (own:w'.ownsRow w.heap.size 59 4 va bu.length ((lJ bu).map (Value.int .i64))):Av es w w' va 0
def NtI(w:tA)(R:Nat)(es:List Ev)(k:Nat)(W:tA):Prop:=∃s an bu va,bz (es.take k) s bu∧Nt w W R s an bu va
def NtJ(w:tA)(es:List Ev)(W:tA):Prop:=ML es∧bZ w W
theorem Pz(w:tA)(R:Nat)(es:List Ev)(hl:es.length≤2000):zC 151 (.pointer (some ⟨R,0,none⟩)) es (NtI w R es) (NtJ w es) where
 enters:=enters_of Tryz.func151 (by kernel_rfl) rfl
 step:=by
  intro k hk W ⟨s,an,bu,va,ht,N⟩;have hlen:=ht.len;rw[AM]at hlen;refine(S5 w W R s an bu va es[k] ht.wf.ok (by omega) N).mono ?_;rintro e w' (⟨rfl,s',pY,va',hv,st,N'⟩|⟨rfl,hb,b⟩)
  ·refine .inl ⟨rfl,s',pY,_,va', ?_,N'⟩;rw[Bo hk];exact .snoc ht hv st
  ·exact .inr ⟨rfl,⟨k,s,bu,hk,ht,hb⟩,b⟩
 keep:=by
  intro k W W' ⟨s,an,bu,va,ht,N⟩ b;exact⟨s,an,bu,va,ht,N.next b⟩
abbrev Nh:Array Value:= #[iV 0,iV 0,iV 0,.slice none 0 0,.slice none 0 0,iV 0,.bool false,.bool false,.bool false,.bool false,.bool false,.bool false,.bool false,.bool false,iV 0,.bool false,.bool false,.bool false,.bool false,.bool false,.bool false,.bool false,.bool false,iV 0,.bool false,.bool false,.bool false,.bool false,.bool false,.bool false,.bool false,.bool false,iV 0,.bool false,.bool false,.bool false,.bool false,.bool false,.bool false,.bool false,.bool false,iV 0,iV 0,iV 0,iV 0,.slice none 0 0]
theorem acN:Nh=(qq 0 0 0 (.slice none 0 0) (.slice none 0 0) eS 0 0 0 0 [.slice none 0 0]).toArray:=rfl
theorem WU{w W:tA}(h:W=w.alloc (.cells Nh 229)):Nt w W w.heap.size St.zero An.zero [] (.slice none 0 0):=by
 subst h;refine⟨⟨none,0,none,0,eS, ?_,RowK.nil _ _ _,RowK.nil _ _ _,fun _=>rfl,fun _=>rfl,jP,fun x hx=>(by cases hx),fun x hx=>(by cases hx),Ac _,Ac _⟩,BA _ _ _ _,aC _ _,Ac _⟩;unfold dW;rw[AP,acN];rfl
theorem WV{ops:tP}{rest:List Oper}{o:Oper}{a:Act}{Q:tI}{w:tA}(d:Nat)(ho:o.op= .alloc 229)(hd:o.dst=some d)(hw:Region.wanted o (yielded ops a.tmps)=true)
  (h:∀w',Nt w w' w.heap.size St.zero An.zero [] (.slice none 0 0)→wpList Tryz.prog ops Q rest (a.put (some d) (.pointer (some ⟨w.heap.size,0,none⟩))) w'):wpList Tryz.prog ops Q (o::rest) a w:=
 Bz fun K hK=>by
  rw[Ae hw];have:=hK _ _ (h _ (WU (w:=w) rfl));rw[←hd]at this;unfold Oper.wp;simp only[execOp,ho];simpa[go_sem]using this
theorem xI{W:tA}{x:tK}{er:Int}{tmps:tR}(t2:tmps[2]? =some x)(t3:tmps[3]? =some (iV er)):
  (results Tryz.f121 tmps).run Tryz.prog W= .ok (.tuple #[x,iV er]) W:=by
 simp[results,Tryz.results121,t2,t3]
theorem Jb(es:List Ev)(a:tB)(cap:Nat)(w:tA)(hr:RowK .i64 w a (6*es.length) (au es)):
  cA 121 #[.slice a es.length cap] w fun e w'=>∃va er,e= .returned (.tuple #[va,iV er])∧Av es w w' va er∧bZ w w':=by
 go_enter Tryz.func121,Tryz.ntmps121
 go_upto_region 2 with(refine WV 4 rfl rfl rfl ?_;intro W1 N1)
 have HE:Hid (cA 150 #[.slice a es.length cap,.func (.func 151) #[.pointer (some ⟨w.heap.size,0,none⟩)] #[]] W1 fun e w'=>∃er:Int,e= .returned (iV er)∧((er=0∧es.length≤2000∧NtI w w.heap.size es es.length w')∨(¬er=0∧Rv es St.zero er∧bZ w w'))):=ai (by
  by_cases hl:es.length≤2000
  ·refine(Il 151 w.heap.size es _ _ (Pz w w.heap.size es hl) a cap W1 ⟨_,_,_,_,by simpa using bz.nil,N1⟩ hl (fun k W hI=>by obtain⟨_,_,_,_,_,N⟩:=hI;exact hr.below N.dp)).mono ?_;rintro e w' (⟨rfl,h1⟩|⟨rfl,h1⟩)
   ·exact⟨0,rfl,.inl ⟨rfl,hl,h1⟩⟩
   ·exact⟨3,rfl,.inr ⟨by decide,.form hl h1.1,h1.2⟩⟩
  ·refine(EA _ _ _ a cap W1 (by omega)).mono ?_;rintro e w' ⟨rfl,b3⟩
   exact⟨1,rfl,.inr ⟨by decide,.size (by omega),Below.next N1.dp b3⟩⟩)
 clear N1
 go_upto_region 3 with(go_at_call 150;refine(aa HE).mono ?_;rintro e W3 ⟨er,rfl,HH⟩;clear HE)
 rcases HH with⟨rfl,hl,s,an,bu,va,ht,N⟩|⟨h0,rv,b⟩
 ·rw[BC]at ht;obtain⟨_,_,_,_,_,tb,_⟩:=N.tg.ex;have y45:=tb.more;have HN:=ai N;have HT:=ai ht;clear tb N ht;go_wp2;exact Ao (xI rfl rfl) rfl ⟨_,_,rfl,.told bu hl (aa HT) (rC (aa HN).own (by omega)),(aa HN).dp⟩
 ·have HV:=ai rv;have HB:=ai b;clear rv b;go_wp2;exact Ao (xI rfl rfl) rfl ⟨_,_,rfl,.bad h0 (aa HV),aa HB⟩
end
theorem Step.S6{s s':St}{v:Ev}{an:An}{ch:Bool}(ok:s.Ok)(h:Step s v s' an ch):∀u∈ft an,(Lit.int .i64 u).wf=true:=by
 have e0:=ok.count.e0;have e1:=ok.count.e1;have g0:=ok.count.g0;have g1:=ok.count.g1;intro u hu;cases h with
 |recv hk hr hg=>
  have hb:=gx ok hr;simp only[ft,List.mem_cons,List.not_mem_nil,or_false]at hu;rcases hu with rfl|rfl|rfl|rfl
  ·decide
  ·exact uK e0 (by omega)
  ·exact uK g0 (by omega)
  ·exact uK hb.2.2.1 (by have:=hb.2.2.2;simp at this⊢;omega)
 |iI=>simp only[ft,List.mem_cons,List.not_mem_nil,or_false]at hu;rcases hu with rfl|rfl|rfl|rfl<;>decide
 |iJ=>simp only[ft,List.mem_cons,List.not_mem_nil,or_false]at hu;rcases hu with rfl|rfl|rfl|rfl<;>decide
 |fS=>simp only[ft,List.mem_cons,List.not_mem_nil,or_false]at hu;rcases hu with rfl|rfl|rfl|rfl<;>decide
 |FV=>simp only[ft,List.mem_cons,List.not_mem_nil,or_false]at hu;rcases hu with rfl|rfl|rfl|rfl<;>decide
 |eI=>simp only[ft,List.mem_cons,List.not_mem_nil,or_false]at hu;rcases hu with rfl|rfl|rfl|rfl<;>decide
 |fT=>simp only[ft,List.mem_cons,List.not_mem_nil,or_false]at hu;rcases hu with rfl|rfl|rfl|rfl<;>decide
 |eJ=>simp only[ft,List.mem_cons,List.not_mem_nil,or_false]at hu;rcases hu with rfl|rfl|rfl|rfl<;>decide
 |fU=>simp only[ft,List.mem_cons,List.not_mem_nil,or_false]at hu;rcases hu with rfl|rfl|rfl|rfl<;>decide
 |FW=>simp only[ft,List.mem_cons,List.not_mem_nil,or_false]at hu;rcases hu with rfl|rfl|rfl|rfl<;>decide
 |fV=>simp only[ft,List.mem_cons,List.not_mem_nil,or_false]at hu;rcases hu with rfl|rfl|rfl|rfl<;>decide
 |stop=>simp only[ft,List.mem_cons,List.not_mem_nil,or_false]at hu;rcases hu with rfl|rfl|rfl|rfl<;>decide
theorem bz.S6{es:List Ev}{s:St}{bu:List An}(h:bz es s bu):∀u∈lJ bu,(Lit.int .i64 u).wf=true:=by
 induction h with
 |nil=>intro u hu;cases hu
 |snoc h hv st ih=>
  intro u hu;rw[xt]at hu;rcases Ah.1 hu with hu|hu
  ·exact ih u hu
  ·exact st.S6 h.wf.ok u hu
def gj(mo:tT)(hn he:tH)(wt af:tK)(tu:Int):Nat→Value:=fun k=>
 if k<188 then mo (k/47) (k % 47)else if k<196 then(if(k-188) % 2=0 then iV (hn ((k-188)/2))else iV (he ((k-188)/2)))else lF [wt,af,iV tu] (k-196)
def kW(hd:tM)(me:tD)(tl:tM):Nat→Value:=fun k=>if k<5 then lF hd k else if k<204 then me (k-5)else lF tl (k-204)
def QU:Nat→Nat→Value:=fun _=>mF 0 0 0 0 0 (.slice none 0 0) zQ
abbrev zMe:Nat→Value:=gj QU (fun _=>0) (fun _=>0) (.slice none 0 0) .nilFunc 0
theorem YX{mo:tT}{hn he:tH}{wt af:tK}{tu:Int}{q j:Nat}(hq:q<4)(hj:j<47):gj mo hn he wt af tu (q*47+j)=mo q j:=by
 unfold gj;rw[Ae (by omega),show(q*47+j)/47=q by omega,show(q*47+j) % 47=j by omega]
theorem acO{mo:tT}{hn he:tH}{wt af:tK}{tu:Int}{q:Nat}(hq:q<4):gj mo hn he wt af tu (188+q*2)=iV (hn q):=by
 unfold gj;rw[Aa (by omega),Ae (by omega),Ae (by omega),show(188+q*2-188)/2=q by omega]
theorem acP{mo:tT}{hn he:tH}{wt af:tK}{tu:Int}{q:Nat}(hq:q<4):gj mo hn he wt af tu (188+q*2+1)=iV (he q):=by
 unfold gj;rw[Aa (by omega),Ae (by omega),Aa (by omega),show(188+q*2+1-188)/2=q by omega]
def ak{α:Type}(m:Nat→α)(q:Nat)(x:α):Nat→α:=fun p=>if p=q then x else m p
theorem S7{mo:tT}{hn he:tH}{wt af:tK}{tu:Int}{q:Nat}{g:tD}(hq:q<4)(i:Nat):gh (gj mo hn he wt af tu) (q*47) 47 g i=gj (ak mo q g) hn he wt af tu i:=by
 unfold gh;by_cases hc:q*47≤i∧i<q*47+47
 ·rw[Ae hc];obtain⟨j,rfl⟩:∃j,i=q*47+j:=⟨i-q*47,by omega⟩;rw[YX hq (by omega),show q*47+j-q*47=j by omega];simp[ak]
 ·rw[Aa hc];unfold gj;by_cases h1:i<188
  ·rw[Ae h1,Ae h1];have:¬i/47=q:=by omega
   simp[ak,this]
  ·rw[Aa h1,Aa h1]
theorem EW{hd tl:tM}{me:tD}{k:Nat}(h:k<199):kW hd me tl (5+k)=me k:=by
 unfold kW;rw[Aa (by omega),Ae (by omega),show 5+k-5=k by omega]
theorem pH{hd tl:tM}{mo:tT}{hn he:tH}{wt af:tK}{tu:Int}{q:Nat}{g:tD}(hq:q<4)(i:Nat):gh (kW hd (gj mo hn he wt af tu) tl) (5+q*47) 47 g i=kW hd (gj (ak mo q g) hn he wt af tu) tl i:=by
 by_cases hc:5≤i∧i<204
 ·obtain⟨j,rfl⟩:∃j,i=5+j:=⟨i-5,by omega⟩;rw[EW (by omega),←S7 hq];unfold gh;by_cases h2:q*47≤j∧j<q*47+47
  ·rw[Ae (by omega),Ae h2,show 5+j-(5+q*47)=j-q*47 by omega]
  ·rw[Aa (by omega),Aa h2,EW (by omega)]
 ·rw[qg _ _ _ _ _ (by omega)];unfold kW;by_cases h5:i<5
  ·rw[Ae h5,Ae h5]
  ·rw[Aa h5,Aa h5,Aa (by omega),Aa (by omega)]
theorem oG{hd tl:tM}{mo:tT}{hn he:tH}{wt af:tK}{tu:Int}{q j:Nat}(hq:q<4)(hj:j<47):kW hd (gj mo hn he wt af tu) tl (5+q*47+j)=mo q j:=by
 rw[BF,EW (by omega),YX hq hj]
theorem wH{mo:tT}{hn he:tH}{a:tB}{n c:Nat}{af:tK}{tu:Int}(hm:∀q,q<4→aW (mo q) 47)(ha:af.oneCell'=true):aW (gj mo hn he (.slice a n c) af tu) 199:=fun i hi=>by
 unfold gj;by_cases h1:i<188
 ·rw[Ae h1];exact hm _ (by omega) _ (by omega)
 ·rw[Aa h1];by_cases h2:i<196
  ·rw[Ae h2];split<;>rfl
  ·rw[Aa h2];obtain rfl|rfl|rfl:i=196∨i=197∨i=198:=by omega
   ·rfl
   ·exact ha
   ·rfl
theorem yD:∀q,q<4→aW (QU q) 47:=fun _ _=>eF zz
section
open Rv
theorem vj(w:tA):cA 43 #[] w (rB (vF (gj QU (dX 4) bK (.slice none 0 0) .nilFunc 0) 199) w):=by
 have o1:aW (gj QU (dX 4) bK (.slice none 0 0) .nilFunc 0) 199:=wH yD rfl;exact en (H:=[]) 4 [] Tryz.func43 rfl rfl (m0 w) (r [] rfl fun α=>Rv.cb rfl (vg [.o (iV (dX 4 0)),.o (iV (bK 0)),.o (iV (dX 4 1)),.o (iV (bK 1)),.o (iV (dX 4 2)),.o (iV (bK 2)),.o (iV (dX 4 3)),.o (iV (bK 3))]) (fun w _=>M4 w) (r [] rfl fun _=>pv (vg [.o (iV (dX 4 0)),.o (iV (bK 0)),.o (iV (dX 4 1)),.o (iV (bK 1)),.o (iV (dX 4 2)),.o (iV (bK 2)),.o (iV (dX 4 3)),.o (iV (bK 3))]) rfl (fun w=>by kernel_rfl) (r [] rfl fun _=>gn 0 (gj QU (dX 4) bK (.slice none 0 0) .nilFunc 0) (r [] rfl fun _=>fin fun w hS=>⟨rfl,hS.now.2⟩))))
theorem S8(X N:Nat)(i:Int)(da:tB)(dn dc:Nat)(dl:tG)(sy:Int)(mo:tT)(hn he:tH)(wt af:tK)(tu ct:Int)(sk:Bool)(kp:Int)(w:tA)(fb:bh w N 123 206 (kW [.pointer (some ⟨X,0,none⟩),iV i,.bool true,.slice da dn dc,iV sy] (gj mo hn he (wt) (af) tu) [iV ct,.bool sk]))(U:tF)(hU:∀b,U b→b<w.heap.size)(Hb:¬U N)(hr:cm (fun b=>b=N∨U b) w fun w=>RowK .u8 w da dn dl)(Ks:da=none→dc=0)(Ki:dn≤dc)(h1:dn≤100000)(h2:0≤sy)(h3:sy≤dn)(hk:0≤kp)(ZI:kp≤9223372036854775807):cA 49 #[.pointer (some ⟨N,0,none⟩),iV kp] w fun x w'=>∃a1 c1,x= .returned (.tuple #[])∧bh w' N 123 206 (kW [.pointer (some ⟨X,0,none⟩),iV i,.bool false,.slice a1 (leftOf dn sy kp) c1,iV (leftOf dn sy kp)] zMe [iV sy,.bool sk])∧cm (fun b=>b=N∨U b) w' (fun w=>RowK .u8 w a1 (leftOf dn sy kp) (dl.take (leftOf dn sy kp)))∧leftOf dn sy kp≤c1∧(a1=none→c1=0)∧c1≤9223372036854775807∧dB (fun b=>b=N) w w':=by
 refine en 36 [vp 0 0 N,vi kp] Tryz.func49 rfl rfl (fb.Mx hU Hb hr) (r [] rfl fun _=> ?_);refine cx rfl (fun y:Option Addr×Nat=>vt [.g [.o (.slice y.1 (leftOf dn sy kp) y.2),.o (iV (leftOf dn sy kp))],.o (iV 0)]) (fun y=>leftOf dn sy kp≤y.2∧(y.1=none→y.2=0)∧y.2≤9223372036854775807) (fun y w=>RowK .u8 w y.1 (leftOf dn sy kp) (dl.take (leftOf dn sy kp))) (fun w1 hS=>(O_ da dn dc dl sy kp w1 hS.now.1 Ks Ki h1 h2 h3 hk ZI).mono fun _ w2 ⟨a1,c1,h0,r1,my,uG,J5,pt,b⟩=>⟨(a1,c1),h0,b,⟨my,uG,J5⟩,bM r1 pt⟩) ?_;rintro⟨a1,c1⟩ ⟨my,uG,J5⟩;refine r [] rfl fun _=>gn 0 (kW [.pointer (some ⟨X,0,none⟩),iV i,.bool false,.slice a1 (leftOf dn sy kp) c1,iV (leftOf dn sy kp)] (gj QU (fun _=>0) (fun _=>0) (.slice none 0 0) .nilFunc 0) [iV sy,.bool sk]) ?_ rfl (by kernel_rfl);exact dt rfl fun w2 hS=>⟨a1,c1,rfl,hS.at 0 rfl,fun w2 c2=>(hS.g w2 (c2.mono fun b h=>h.imp (fun h=>Ab.2 h) id)).2,my,uG,J5,hS.now.2.mono fun b h=>Ab.1 h⟩
def frR(r:Rec):List Int:=dY (bytesOf r.k r.q r.e r.p r.v.k r.v.p r.v.i r.v.b r.v.he r.v.hn)
def cp(rs:List Rec):List Int:=rs.flatMap frR
theorem Ni(r:Rec):(frR r).length=(bytesOf r.k r.q r.e r.p r.v.k r.v.p r.v.i r.v.b r.v.he r.v.hn).length+6:=nm _
theorem A_{rs:List Rec}{k:Nat}{r:Rec}(h:rs[k]? =some r):cp (rs.take (k+1))=cp (rs.take k)++frR r:=by
 rw[Ch,h];simp[cp]
theorem S9{rs:List Rec}{k n2 dn:Nat}{r:Rec}(h:rs[k]? =some r)(e:n2=dn+(cp (rs.take k)).length)(hf:100000<n2+((bytesOf r.k r.q r.e r.p r.v.k r.v.p r.v.i r.v.b r.v.he r.v.hn).length+6)):100000<dn+(cp rs).length:=by
 have e1:cp rs=cp (rs.take (k+1))++cp (rs.drop (k+1)):=by
  unfold cp;rw[←List.flatMap_append,BU]
 rw[e1,A_ h];simp only[List.length_append,Ni];omega
theorem qA{l:List Rec}{k:Nat}{r:Rec}(hk:l[k]? =some r):∀j,j<10→iV ((aD l).getD (10*k+j) 0)=lF [iV r.k,iV r.q,iV r.e,iV r.p,iV r.v.k,iV r.v.p,iV r.v.i,iV r.v.b,iV r.v.he,iV r.v.hn] j:=by
 obtain⟨hl,rfl⟩:=Ap.1 hk;intro j hj;rw[tq l k hl j hj]
 match j,hj with
 |0,_=>rfl
 |1,_=>rfl
 |2,_=>rfl
 |3,_=>rfl
 |4,_=>rfl
 |5,_=>rfl
 |6,_=>rfl
 |7,_=>rfl
 |8,_=>rfl
 |9,_=>rfl
theorem ji(X N:Nat)(i:Int)(da:tB)(dn dc:Nat)(dl:tG)(sy:Int)(mo:tT)(hn he:tH)(wt af:tK)(tu ct:Int)(ub sk:Bool)(ag:Fn)(a1 a1c:tR)(rs:List Rec)(la:tB)(rn lc:Nat)(w:tA)(fb:bh w N 123 206 (kW [.pointer (some ⟨X,0,none⟩),iV i,.bool ub,.slice da dn dc,iV sy] (gj mo hn he (wt) (af) tu) [iV ct,.bool sk]))(U:tF)(hU:∀b,U b→b<w.heap.size)(Hb:¬U N)(hr:cm (fun b=>b=N∨U b) w fun w=>RowK .u8 w da dn dl∧RowK .i64 w la (10*rn) (aD rs))(Ks:da=none→dc=0)(Ki:dn≤dc)(hdm:dc≤9223372036854775807)(h1:dn≤100000)(h2:0≤sy)(h3:sy≤dn)(hrn:rn=rs.length)(hrl:rn≤100000)(fw:∀r∈rs,r.fault=0):cA 69 #[.pointer (some ⟨N,0,none⟩),.func ag a1 a1c,.slice la rn lc] w fun x w'=>∃k,x= .returned (.bool k)∧dB (fun b=>b=N) w w'∧((k=true∧dn+(cp rs).length≤100000∧∃a2 c2,bh w' N 123 206 (kW [.pointer (some ⟨X,0,none⟩),iV i,.bool ub,.slice a2 (dn+(cp rs).length) c2,iV sy] (gj mo hn he wt (.func ag a1 a1c) tu) [iV ct,.bool sk])∧cm (fun b=>b=N∨U b) w' (fun w=>RowK .u8 w a2 (dn+(cp rs).length) (dl++cp rs))∧dn+(cp rs).length≤c2∧(a2=none→c2=0)∧c2≤9223372036854775807)∨(k=false∧100000<dn+(cp rs).length∧bh w' N 123 206 (kW [.pointer (some ⟨X,0,none⟩),iV i,.bool ub,.slice da dn dc,iV sy] (gj mo hn he (wt) (af) tu) [iV ct,.bool sk]))):=by
 refine en 41 [vp 0 0 N,vv (.func ag a1 a1c),vv (.slice la rn lc)] Tryz.func69 rfl rfl (fb.Mx hU Hb hr) (r [] rfl fun α=>gn 1 (lF [.slice da dn dc,iV sy]) ?_);obtain⟨len,el⟩:∃len:Nat→Nat,len=fun k=>dn+(cp (rs.take k)).length:=⟨_,rfl⟩;have l0:len 0=dn:=by rw[el];rfl
 refine iD (X:=Nat×Option Addr×Nat×Nat) ⟨fun x=>[(0,vp 0 0 N),(1,vv (.func ag a1 a1c)),(7,vp 1 0 (α 0)),(16,vv (.slice la rn lc)),(17,vi (rn:Int)),(18,vi (x.1:Int))],fun x=>[⟨N,123,[.f 206 (kW [.pointer (some ⟨X,0,none⟩),iV i,.bool ub,.slice da dn dc,iV sy] (gj mo hn he wt af tu) [iV ct,.bool sk])]⟩,⟨α 0,121,[.f 2 (lF [.slice x.2.1 x.2.2.1 x.2.2.2,iV sy])]⟩],fun _=>U,fun x w=>RowK .u8 w x.2.1 x.2.2.1 (dl++cp (rs.take x.1))∧RowK .i64 w la (10*rn) (aD rs),fun _ w'=>dB (fun b=>b∈[N]) w w',fun x=>x.1≤rn∧x.2.2.1=len x.1∧x.2.2.1≤100000∧x.2.2.1≤x.2.2.2∧(x.2.1=none→x.2.2.2=0)∧x.2.2.2≤9223372036854775807,fun x=>rn-x.1⟩ (0,da,dn,dc) ⟨rfl,rfl,rfl,rfl,rfl,rfl,trivial⟩ (fun _ hS=>hS.said fun _ h=>⟨by simpa[cp]using h.1,h.2⟩) ⟨Nat.zero_le _,l0.symm,h1,Ki,Ks,hdm⟩ ?_;rintro f ⟨k,a2,n2,c2⟩ ⟨hk,WW,wI,jM,r_,rX⟩;have hk:k≤rn:=hk;have WW:n2=len k:=WW;have wI:n2≤100000:=wI;by_cases aN:k<rn
 case neg=>
  have ek:len k=dn+(cp rs).length:=by rw[el];show dn+(cp (rs.take k)).length=_;rw[AL (by omega)]
  refine r [0] rfl fun _=>gn 0 (kW [.pointer (some ⟨X,0,none⟩),iV i,.bool ub,.slice a2 n2 c2,iV sy] (gj mo hn he wt (.func ag a1 a1c) tu) [iV ct,.bool sk]) ?_ rfl (by kernel_rfl);refine fin fun w hS=>⟨true,rfl,hS.now.2.mono fun b h=>Ab.1 h,.inl ⟨rfl,ek▸WW▸wI,a2,c2,ek▸WW▸hS.at 0 rfl,fun w2 cc=> ?_,ek▸WW▸jM,r_,rX⟩⟩;have:=((hS.take 1).g w2 (cc.mono fun b h=>h.imp (fun h=>Ab.2 h) id)).1;rw[AL (by omega),WW,ek]at this;exact this
 obtain⟨⟨rk,rq,re,rp,rv⟩,hv⟩:∃r,rs[k]? =some r:=⟨rs[k],Ai (by omega)⟩;have e1:len (k+1)=n2+((bytesOf rk rq re rp rv.k rv.p rv.i rv.b rv.he rv.hn).length+6):=by rw[WW,el];show dn+(cp (rs.take (k+1))).length=dn+(cp (rs.take k)).length+_;rw[A_ hv,Ag,Ni];exact(BF _ _ _).symm
 obtain⟨lb,lo,ela⟩:∃b o,la=some ⟨b,o,none⟩:=pw hr.now.2 (by omega);subst ela;refine r [1] rfl fun _=>lf (q:=lo+k*10) rfl 10 (lF [iV rk,iV rq,iV re,iV rp,iV rv.k,iV rv.p,iV rv.i,iV rv.b,iV rv.he,iV rv.hn]) (fun w hS=>ju hS.now.1.2 (by omega) (qA hv)) (r [] rfl fun β=> ?_);have ge:dn≤n2:=by rw[WW,el];exact Nat.le_add_right ..
 have wr:=fun w (hS:RowK .u8 w a2 n2 (dl++cp (rs.take k)))=>Po a2 n2 c2 _ sy rk rq re rp rv.k rv.p rv.i rv.b rv.he rv.hn w hS r_ wI h2 (by omega) (fw _ (Ar hv));by_cases hf:100000<len (k+1)
 ·refine Rv.cb rfl (vt [.g [.o (.slice none 0 0),.o (iV 0)],.o (iV 14)]) (fun w hS=>(wr w hS.now.1.1).mono fun _ _ h=> ?_) (r [1] rfl fun _=>fin fun w hS=>⟨false,rfl,hS.now.2.mono fun b h=>Ab.1 h,.inr ⟨rfl,S9 hv (by rw[WW,el]) (e1▸hf),hS.at 0 rfl⟩⟩);rcases h with⟨_,rfl,b⟩|⟨h,_⟩
  ·exact⟨rfl,b⟩
  ·exact absurd (AN (Cc e1) h) (BL.2 hf)
 refine cx rfl (fun y:Option Addr×Nat=>vt [.g [.o (.slice y.1 (len (k+1)) y.2),.o (iV sy)],.o (iV 0)]) (fun y=>len (k+1)≤y.2∧(y.1=none→y.2=0)∧y.2≤9223372036854775807) (fun y w=>RowK .u8 w y.1 (len (k+1)) (dl++cp (rs.take (k+1)))) (fun w hS=>(wr w hS.now.1.1).mono fun _ w' h=> ?_) ?_
 ·rcases h with⟨h,_⟩|⟨_,a3,c3,rfl,r3,hc3,Jc,hm3,hw3,b⟩
  ·exact absurd (Am h (Cc e1.symm)) hf
  ·refine⟨(a3,c3),by rw[e1];rfl,b,⟨by rw[e1];exact hc3,Jc,hm3⟩,bM ?_ hw3⟩;rw[e1,A_ hv,←AA];exact r3
 rintro⟨a3,c3⟩ ⟨hc3,Jc,hm3⟩;exact rz [0,1] [((k+1:Nat):Int)] rfl fun _=>bJ (k+1,a3,len (k+1),c3) ⟨rfl,rfl,rfl,rfl,rfl,rfl,trivial⟩ (fun w hS=>(hS.take 2).said fun _ h=>⟨h.2,h.1.2⟩) ⟨aN,rfl,Nat.le_of_not_lt hf,hc3,Jc,hm3⟩ (show rn-(k+1)<rn-k by omega)
theorem wJ(X N:Nat)(i:Int)(da:tB)(dn dc:Nat)(dl:tG)(sy:Int)(mo:tT)(hn he:tH)(wt:tK)(tu ct:Int)(ub sk:Bool)(g:Nat)(cl:tM)(w:tA)(fb:bh w N 123 206 (kW [.pointer (some ⟨X,0,none⟩),iV i,.bool ub,.slice da dn dc,iV sy] (gj mo hn he (wt) (.func (.func g) #[] cl.toArray) tu) [iV ct,.bool sk]))(U:tF)(hU:∀b,U b→b<w.heap.size)(Hb:¬U N)(hr:cm (fun b=>b=N∨U b) w fun w=>RowK .u8 w da dn dl)(Ks:da=none→dc=0)(Ki:dn≤dc)(h1:dn≤100000)(h2:0≤sy)(h3:sy≤dn)(hen:Rv.iS Tryz.prog g=true)(R:tJ)(hRb:∀w w2,R w→bZ w w2→R w2)(hA:∀a1 c1 w1,bh w1 N 123 206 (kW [.pointer (some ⟨X,0,none⟩),iV i,.bool ub,.slice a1 dn c1,iV dn] (gj mo hn he wt .nilFunc tu) [iV ct,.bool sk])→cm (fun b=>b=N∨U b) w1 (fun w=>RowK .u8 w a1 dn dl)→dn≤c1→(a1=none→c1=0)→c1≤9223372036854775807→dB (fun b=>b=N) w w1→cA g cl.toArray w1 fun x w'=>x= .returned (.tuple #[])∧R w'):cA 70 #[.pointer (some ⟨N,0,none⟩)] w fun x w'=>x= .returned (.tuple #[])∧R w':=by
 refine en 25 [vp 0 0 N] Tryz.func70 rfl rfl (fb.Mx hU Hb hr) (r [] rfl fun _=> ?_);refine cx rfl (fun y:Option Addr×Nat=>vt [.g [.o (.slice y.1 dn y.2),.o (iV dn)],.o (iV 0)]) (fun y=>dn≤y.2∧(y.1=none→y.2=0)∧y.2≤9223372036854775807) (fun y w=>RowK .u8 w y.1 dn dl) (fun w1 hS=>(SI da dn dc dl sy w1 hS.now.1 Ks h1 h2 h3).mono fun _ w2 ⟨a1,c1,h0,r1,my,uG,J5,pt,b⟩=>⟨(a1,c1),h0,b,⟨my,uG,J5⟩,bM r1 pt⟩) ?_;rintro⟨a1,c1⟩ ⟨my,uG,J5⟩;have hm:(cl.map vv).map AV.val=cl:=by rw[List.map_map];exact List.map_id _
 refine r [] rfl fun _=>gn 0 (kW [.pointer (some ⟨X,0,none⟩),iV i,.bool ub,.slice a1 dn c1,iV dn] (gj mo hn he wt .nilFunc tu) [iV ct,.bool sk]) ?_;have key:∀w1,Mem w1 (hs [⟨N,123,[.f 206 (kW [.pointer (some ⟨X,0,none⟩),iV i,.bool ub,.slice a1 dn c1,iV dn] (gj mo hn he wt .nilFunc tu) [iV ct,.bool sk])]⟩]) U (fun w=>RowK .u8 w da dn dl∧RowK .u8 w a1 dn dl) (fun w'=>dB (fun b=>b∈[N]) w w')→cA g ((cl.map vv).map AV.val).toArray w1 fun x w'=>x= .returned (.tuple #[])∧∃_:Unit,R w':=fun w1 hS=>by
  rw[hm];exact(hA a1 c1 w1 (hS.at 0 rfl) (fun w2 cc=>(hS.g w2 (cc.mono fun b h=>h.imp (fun h=>Ab.2 h) id)).2) my uG J5 (hS.now.2.mono fun b h=>Ab.1 h)).mono fun _ _ h=>⟨h.1,(),h.2⟩
 cases cl<;>exact Rv.ct rfl (vt []) (fun _=>R) key (fun _=>hRb) (fun _=>r [] rfl fun _=>dt rfl fun _ hS=>⟨rfl,hS.now.2⟩) rfl hen
end
def l_(nd:tV)(pn pe:tH)(r:tM):Nat→Value:=fun k=>
 if k<5 then .pointer (some ⟨nd k,0,none⟩)else if k<13 then lF [iV (pn 0),iV (pe 0),iV (pn 1),iV (pe 1),iV (pn 2),iV (pe 2),iV (pn 3),iV (pe 3)] (k-5)else lF r (k-13)
theorem S_{nd:tV}{pn pe:tH}{r:tM}{k:Nat}(h:k<5):l_ nd pn pe r k= .pointer (some ⟨nd k,0,none⟩):=Ae h
theorem Nj{nd:tV}{pn pe:tH}{r:tM}{j:Nat}(h:j<8):l_ nd pn pe r (5+j)=lF [iV (pn 0),iV (pe 0),iV (pn 1),iV (pe 1),iV (pn 2),iV (pe 2),iV (pn 3),iV (pe 3)] j:=by
 unfold l_;rw[Aa (by omega),Ae (by omega),show 5+j-5=j by omega]
theorem aai{nd:tV}{pn pe QV QW:tH}{r:tM}(i:Nat):gh (l_ nd pn pe r) 5 8 (lF [iV (QV 0),iV (QW 0),iV (QV 1),iV (QW 1),iV (QV 2),iV (QW 2),iV (QV 3),iV (QW 3)]) i=l_ nd QV QW r i:=by
 unfold gh;by_cases hc:5≤i∧i<5+8
 ·rw[Ae hc];obtain⟨j,rfl⟩:∃j,i=5+j:=⟨i-5,by omega⟩;rw[Nj (by omega),show 5+j-5=j by omega]
 ·rw[Aa hc];unfold l_;by_cases h1:i<5
  ·rw[Ae h1,Ae h1]
  ·rw[Aa h1,Aa h1,Aa (by omega),Aa (by omega)]
theorem aaj{nd:tV}{pn pe:tH}{r:tM}{k:Nat}{v:tK}(hk:k<r.length)(i:Nat):oX (l_ nd pn pe r) (13+k) v i=l_ nd pn pe (r.set k v) i:=by
 by_cases hi:i=13+k
 ·subst hi;rw[Fm];unfold l_;rw[Aa (by omega),Aa (by omega),show 13+k-13=k by omega];simp[lF,hk]
 ·rw[qh _ _ _ _ hi];unfold l_;by_cases h5:i<5
  ·rw[Ae h5,Ae h5]
  ·rw[Aa h5,Aa h5];by_cases h6:i<13
   ·rw[Ae h6,Ae h6]
   ·rw[Aa h6,Aa h6];have:¬k=i-13:=by omega
    simp[lF,this]
section
open Rv
namespace Rv
section
variable{n:Nat}{ops:tP}{f:Nat→AV}{fn:Func}{Rr:Ending→World→Prop}{M:tF}{Φ R:tJ}{H:List En}{w:tA}{ks:List Fr}{t:Ord}{i d:Nat}{md:Md}
theorem sol{s b q m:Nat}{x y:AV}{e:Ty}{en:En}{g:tD}(h1:Vj n ops f i=some (s,x,y))(hx:x.val= .pointer (some ⟨b,q,none⟩))(hy:y.val=vF g m)(j:Nat)(he:nth H j=some en)(g':tD)(hg:∀i,i<eX en.l→gh (cy en.l) q m g i=g' i)(hn:G Tryz.prog fn Rr n M Φ R (.g md ops t::ks) f (H.set j ⟨en.a,en.t,[.f (eX en.l) g']⟩))(N9:aW g m)(hq:q+m≤eX en.l:=by first|exact cR rfl|(show _≤206;(try dsimp only);omega)|(show _≤199;(try dsimp only);omega)|(show _≤19;(try dsimp only);omega)|(show _≤18;(try dsimp only);omega)|(show _≤8;(try dsimp only);omega))(ha:en.a=b:=by rfl)(hb:en.a∈md.va:=by exact List.mem_singleton.2 rfl)(hv:md.vs.contains i=true:=by rfl)(hf:T0.find s=some e:=by rfl)(ho:e.fM=false:=by rfl)(hm:e.m=m:=by rfl):G Tryz.prog fn Rr n M Φ R (.g md ops (.ef i t)::ks) f H:=by
 intro w hS hK;obtain⟨hK1,iC⟩:=bt.1 hK;show WF Tryz.prog ops (kq Tryz.prog fn Rr ks) md.va (o7 md ops) (vQ md ops) (.ef i t) n (cn f) w;obtain⟨NZ,rfl⟩:=Yz.fe hf;have xm:=he;rw[eR]at xm;have xn:(hs H)[j]? =some en.g_:=by rw[Ax,xm];rfl
 unfold Vj at h1;split at h1
 ·rename_i o hoo;split at h1
  ·rename_i s' p r hd hw hp;simp only[Option.some.injEq,Prod.mk.injEq]at h1;obtain⟨rfl,rfl,rfl⟩:=h1;have hx:ev (cn f) p= .pointer (some ⟨b,q,none⟩):=(bC f p).symm.trans hx;have hy:ev (cn f) r=vF g m:=(bC f r).symm.trans hy;have iG:((o7 md ops).contains i||(vQ md ops).contains i)=true:=Fz hoo (by unfold nW;rw[hv]);refine aeI (P:=Tryz.prog) (hm▸Ty.row NZ ho) hS j xn hb iG hoo hd (fF hw) (dU hK1).1 hp hx hy ha hq N9 fun w' DB=> ?_
   have Ep:=DB.congr j (e:=⟨en.a,en.t,eX en.l,gh (cy en.l) q m g⟩) (by
    rw[Cx (Ap.1 xn).1]
    rfl) g' hg
   rw[List.set_set]at Ep;have e4:hs (H.set j ⟨en.a,en.t,[.f (eX en.l) g']⟩)=(hs H).set j ⟨en.a,en.t,eX en.l,g'⟩:=by
    rw[hs,Co];rfl
   exact hn w' (by rw[e4];exact Ep) (bt.2 ⟨hK1,iC⟩)
  ·cases h1
 ·cases h1
end
end Rv
theorem WX(X N:Nat)(i:Int)(da:tB)(dn dc:Nat)(sy:Int)(mo:tT)(hn he:tH)(wt af:tK)(tu ct:Int)(ub sk:Bool)(nd:tV)(pn pe:tH)(fl tk dd:tK)(cs:Int)(sv td:tK)(QV QW:tH)(m:tD)(om:aW m 47)(q:Nat)(hq:q<4)(c8 c6 c5 c4 c3:Nat)(w:tA)(Vq:bh w N 123 206 (kW [.pointer (some ⟨X,0,none⟩),iV i,.bool ub,.slice da dn dc,iV sy] (gj mo hn he (wt) (af) tu) [iV ct,.bool sk]))(VH:bh w X 103 19 (l_ nd pn pe [fl,tk,dd,iV cs,sv,td]))(wK:bh w c8 114 47 m)(fb3:bh w c6 35 8 (lF [iV (QV 0),iV (QW 0),iV (QV 1),iV (QW 1),iV (QV 2),iV (QW 2),iV (QV 3),iV (QW 3)]))(fb4:bh w c5 98 1 (fun _=> .pointer (some ⟨N,0,none⟩)))(fb5:bh w c4 3 1 (fun _=>iV q))(fb6:bh w c3 83 1 (fun _=> .pointer (some ⟨X,0,none⟩)))(Vr:[N,X,c8,c6,c5,c4,c3].Nodup):cA 68 #[.pointer (some ⟨c8,0,none⟩),.pointer (some ⟨c6,0,none⟩),.pointer (some ⟨c5,0,none⟩),.pointer (some ⟨c4,0,none⟩),.pointer (some ⟨c3,0,none⟩)] w fun x w'=>x= .returned (.tuple #[])∧bh w' N 123 206 (kW [.pointer (some ⟨X,0,none⟩),iV i,.bool ub,.slice da dn dc,iV sy] (gj (ak mo q m) hn he (wt) (af) tu) [iV ct,.bool sk])∧bh w' X 103 19 (l_ nd QV QW [fl,tk,dd,iV cs,sv,td])∧dB (fun b=>b=N∨b=X) w w':=by
 simp only[List.nodup_cons,List.mem_cons,List.not_mem_nil,or_false,not_or]at Vr;obtain⟨⟨hX,a8,a6,a5,a4,a3⟩,⟨x8,x6,x5,x4,x3⟩,_⟩:=Vr;have fs:∀{b t n f},bh w b t n f→N≠b→X≠b→cm (fun b=>(b=N∨b=X)∨False) w fun w=>bh w b t n f:=fun fb hn hx w2 c2=>fb.same (c2.block _ fb.lt fun h=>h.elim (fun h=>h.elim (fun e=>hn e.symm) (fun e=>hx e.symm)) id);refine en 16 [vv (.pointer (some ⟨c8,0,none⟩)),vv (.pointer (some ⟨c6,0,none⟩)),vv (.pointer (some ⟨c5,0,none⟩)),vv (.pointer (some ⟨c4,0,none⟩)),vv (.pointer (some ⟨c3,0,none⟩))] Tryz.func68 rfl rfl (Vq.ab1 VH hX (U:=fun _=>False) (fun _ h=>h.elim) id id fun w2 c2=>And.intro (fs wK a8 x8 w2 c2) (And.intro (fs fb3 a6 x6 w2 c2) (And.intro (fs fb4 a5 x5 w2 c2) (And.intro (fs fb5 a4 x4 w2 c2) (fs fb6 a3 x3 w2 c2))))) ?_;have hv:∀a,a∈[N]→a∈[N,X]:=fun a h=>BI.2 (.inl (Ab.1 h));refine r [5,0,9] rfl fun _=>Zu rfl (.pointer (some ⟨N,0,none⟩)) (fun w h=>h.1.2.2.1.at 0 (cR rfl)) (Rv.sv 5 (vp 0 0 N) rfl (r [] rfl fun _=>Zu rfl (iV q) (fun w h=>h.1.2.2.2.1.at 0 (cR rfl)) (r [] rfl fun _=>Zu rfl (.pointer (some ⟨X,0,none⟩)) (fun w h=>h.1.2.2.2.2.at 0 (cR rfl)) (Rv.sv 7 (vp 1 0 X) rfl (r [] rfl fun _=>lfg rfl 47 m (fun w h j hj=>by rw[Aj];exact h.1.1.at j (by omega)) (r [] rfl fun _=>lfg rfl 8 _ (fun w h j hj=>by rw[Aj];exact h.1.2.1.at j (by omega)) ?_ hv) hv)) hv) hv)) hv;refine r [1] rfl fun _=>sol rfl rfl rfl 0 rfl _ (fun i _=>pH hq i) (r [] rfl fun _=>gn 1 (l_ nd QV QW [fl,tk,dd,iV cs,sv,td]) ?_) om;exact dt rfl fun w2 hS=>⟨rfl,hS.at 0 rfl,hS.at 1 rfl,hS.now.2.mono fun b h=>by simpa using h⟩
end
theorem mT{w:tA}{R T:Nat}(r:Rec)(hv:∀u∈bn r,(Lit.int .i64 u).wf=true)(h:bh w R T 10 (lF [iV r.k,iV r.q,iV r.e,iV r.p,iV r.v.k,iV r.v.p,iV r.v.i,iV r.v.b,iV r.v.he,iV r.v.hn])):RowK .i64 w (some ⟨R,0,none⟩) (10*1) (aD [r]):=by
 refine⟨rfl,by simpa[aD]using hv,fun i hi=>⟨R,0,rfl,h.lt, ?_⟩⟩;rw[Aj,h.at i (by omega)]
 match i,hi with
 |0,_=>rfl
 |1,_=>rfl
 |2,_=>rfl
 |3,_=>rfl
 |4,_=>rfl
 |5,_=>rfl
 |6,_=>rfl
 |7,_=>rfl
 |8,_=>rfl
 |9,_=>rfl
theorem WY{n e:tH}{q:Nat}{node:Int}{a b:tH}(h:oC n e q node a b 0):bN n e∧n q= -1∧a=bw n q node∧b=bw e q 1:=by
 generalize he:(0:Int)=er at h;cases h with
 |state h=>cases he
 |range h=>cases he
 |zT h=>cases he
 |made h k hk hq hd hn=>
  obtain rfl:q=k:=by omega
  exact⟨h,hn,rfl,rfl⟩
theorem WZ{n e:tH}{q:Nat}{node:Int}{a b:tH}{er:Int}(hq:q<4)(hd:0≤node∧node≤4)(h:oC n e q node a b er)(h0:¬er=0):¬(bN n e∧n q= -1):=by
 rintro⟨h1,h2⟩;obtain⟨_,_,rfl⟩:=h.one (.made h1 q hq rfl hd h2);exact h0 rfl
theorem PA{B B':Bt}{ep:Int}(h:fh B ep=(B',0)):B'=⟨1,ep,0,0,0,[]⟩:=by
 unfold fh at h;split at h
 ·cases h
 ·split at h
  ·cases h
  ·split at h
   ·cases h
   ·split at h
    ·cases h
    ·cases h;rfl
abbrev aU(q:Nat):Rec:=⟨1,q,1,0,⟨0,0,0,0,0,0⟩⟩
def YY(pn pe:tH)(q:Nat)(ub:Bool)(af:tK)(B:Bt)(dn:Nat):Prop:=(bN pn pe∧pn q= -1)∧ub=true∧af= .nilFunc∧(fh B 1).2=0∧dn+(cp [aU q]).length≤100000
section
open Rv
theorem B_{q:Nat}(hq:q<4):(aU q).fault=0:=by
 obtain rfl|rfl|rfl|rfl:q=0∨q=1∨q=2∨q=3:=by omega
 ·decide
 ·decide
 ·decide
 ·decide
theorem Ll{q:Nat}(hq:q<4):∀u∈bn (aU q),(Lit.int .i64 u).wf=true:=by
 obtain rfl|rfl|rfl|rfl:q=0∨q=1∨q=2∨q=3:=by omega
 ·decide
 ·decide
 ·decide
 ·decide
abbrev crE(X N:Nat)(z g:tD)(a b c q:Nat)(tl:List En):List En:=⟨N,123,[.f 206 z]⟩::⟨X,103,[.f 19 g]⟩::⟨a,83,[.p 1 0 X]⟩::⟨b,3,[.o (iV (q:Int))]⟩::⟨c,98,[.p 0 0 N]⟩::tl
theorem Lm(X N:Nat)(i:Int)(da:tB)(dn dc:Nat)(dl:tG)(sy:Int)(mo:tT)(hn he:tH)(wt af:tK)(tu ct:Int)(ub sk:Bool)(nd:tV)(pn pe:tH)(fl tk dd:tK)(cs:Int)(sv td:tK)(q:Nat)(hq:q<4)(B:Bt)(ba:tB)(bc:Nat)(bq:tD)(okB:B.Ok)(Vs:mo q=mF B.r B.e B.f B.t B.o (.slice ba B.es.length bc) bq)(oM:aW (mo q) 47)(hi:0≤i∧i≤4)(Gn:af= .nilFunc∨∃g a b,af= .func g a b)(w:tA)(Vq:bh w N 123 206 (kW [.pointer (some ⟨X,0,none⟩),iV i,.bool ub,.slice da dn dc,iV sy] (gj mo hn he (wt) (af) tu) [iV ct,.bool sk]))(VH:bh w X 103 19 (l_ nd pn pe [fl,tk,dd,iV cs,sv,td]))(Vr:[N,X].Nodup)(U:tF)(hU:∀b,U b→b<w.heap.size)(Hb:¬U N)(hXU:¬U X)(hr:cm (fun b=>(b=N∨b=X)∨U b) w fun w=>RowK .u8 w da dn dl)(Ks:da=none→dc=0)(Ki:dn≤dc)(hdm:dc≤9223372036854775807)(h1:dn≤100000)(h2:0≤sy)(h3:sy≤dn):cA 44 #[.pointer (some ⟨X,0,none⟩),iV q,.pointer (some ⟨N,0,none⟩)] w fun x w'=>x= .returned (.tuple #[])∧dB (fun b=>b=N∨b=X) w w'∧((¬YY pn pe q ub af B dn∧bh w' N 123 206 (kW [.pointer (some ⟨X,0,none⟩),iV i,.bool ub,.slice da dn dc,iV sy] (gj mo hn he (wt) (af) tu) [iV ct,.bool sk])∧bh w' X 103 19 (l_ nd pn pe [fl,tk,dd,iV cs,sv,td]))∨(YY pn pe q ub af B dn∧∃a3 c3 a1 c1 q1 yg,vF yg 47=zJ ⟨1,1,0,0,0,[]⟩ a1 c1 q1∧bh w' N 123 206 (kW [.pointer (some ⟨X,0,none⟩),iV i,.bool true,.slice a3 (dn+(cp [aU q]).length) c3,iV (dn+(cp [aU q]).length)] (gj (ak mo q yg) hn he wt .nilFunc tu) [iV ct,.bool sk])∧bh w' X 103 19 (l_ nd (bw pn q i) (bw pe q 1) [fl,tk,dd,iV cs,sv,td])∧cm (fun b=>(b=N∨b=X)∨U b) w' (fun w=>ki w ⟨1,1,0,0,0,[]⟩ a1 c1 q1∧RowK .u8 w a3 (dn+(cp [aU q]).length) (dl++cp [aU q]))∧(dn+(cp [aU q]).length)≤c3∧(a3=none→c3=0)∧c3≤9223372036854775807)):=by
 have Ta:∀e∈([⟨N,123,206,(kW [.pointer (some ⟨X,0,none⟩),iV i,.bool ub,.slice da dn dc,iV sy] (gj mo hn he (wt) (af) tu) [iV ct,.bool sk])⟩,⟨X,103,19,(l_ nd pn pe [fl,tk,dd,iV cs,sv,td])⟩]:List bX),bh w e.a e.t e.n e.f:=by
  intro e he;simp only[List.mem_cons,List.not_mem_nil,or_false]at he;rcases he with rfl|rfl
  ·exact Vq
  ·exact VH
 have hS:Mem w [⟨N,123,206,(kW [.pointer (some ⟨X,0,none⟩),iV i,.bool ub,.slice da dn dc,iV sy] (gj mo hn he (wt) (af) tu) [iV ct,.bool sk])⟩,⟨X,103,19,(l_ nd pn pe [fl,tk,dd,iV cs,sv,td])⟩] U (fun w=>RowK .u8 w da dn dl) (fun w'=>dB (fun b=>b∈[N,X]) w w'):=Mem.begin Ta (Rw Vr) (fun e he=>by simp only[List.mem_cons,List.not_mem_nil,or_false]at he;rcases he with rfl|rfl;exact Hb;exact hXU) hU (fun w2 c=>hr w2 (c.mono fun b h=>h.imp (fun h=>by simpa using h) id));clear Ta;have o1:aW (mF B.r B.e B.f B.t B.o (.slice ba B.es.length bc) bq) 47:=Vs▸oM;refine en (H:=[⟨N,123,[.f 206 (kW [.pointer (some ⟨X,0,none⟩),iV i,.bool ub,.slice da dn dc,iV sy] (gj mo hn he wt af tu) [iV ct,.bool sk])]⟩,⟨X,103,[.f 19 (l_ nd pn pe [fl,tk,dd,iV cs,sv,td])]⟩]) 62 [vp 1 0 X,vi (q:Int),vp 0 0 N] Tryz.func44 rfl rfl hS (r [] rfl fun α=> ?_);refine cut (X:=Nat×(Nat→Int)×(Nat→Int)×Int) (fun x=>[(3,vp 2 0 (α 0)),(4,vp 3 0 (α 1)),(5,vp 4 0 (α 2)),(6,vp 5 0 x.1),(7,vi x.2.2.2)]) (fun x=>crE X N (kW [.pointer (some ⟨X,0,none⟩),iV i,.bool ub,.slice da dn dc,iV sy] (gj mo hn he wt af tu) [iV ct,.bool sk]) (l_ nd pn pe [fl,tk,dd,iV cs,sv,td]) (α 0) (α 1) (α 2) q [⟨x.1,35,yz x.2.1 x.2.2.1⟩]) (fun _=>U) (fun _ w=>RowK .u8 w da dn dl) (fun _ w'=>dB (fun b=>b∈[N,X]) w w') (fun x=>oC pn pe q i x.2.1 x.2.2.1 x.2.2.2) ?_ (r [4] rfl fun _=> ?_)
 case refine_2=>
  repeat' first|refine FC ?_ ?_|(refine cq (g:=66) rfl (fun y:(Nat→Int)×(Nat→Int)×Int=>vt [.g (yz y.1 y.2.1),.o (iV y.2.2)]) (fun y=>oC pn pe q i y.1 y.2.1 y.2.2) ?_ ?_;exact fun w _=>(SD pn pe q i w).mono fun _ _ ⟨pa,pb,er,h0,h1,b⟩=>⟨(pa,pb,er),h0,b,h1⟩;rintro⟨pa,pb,er⟩ xV)|refine rs [] rfl rfl fun _=> ?_
  all_goals exact bJ (_,pa,pb,er) ⟨rfl,rfl,rfl,rfl,rfl,trivial⟩ (fun w hS=>hS.Kj [0,1,2,3,4,5] (by decide)) xV Bp
 rintro f ⟨R6,pa,pb,er⟩ xV;have xV:oC pn pe q i pa pb er:=xV;by_cases h0:er=0
 case neg=>exact r [1] rfl fun _=>fin fun w hS=>⟨rfl,hS.now.2.mono fun b h=>by simpa using h,.inl ⟨(fun h=>WZ hq hi xV h0 h.1),hS.at 0 rfl,hS.at 1 rfl⟩⟩
 subst h0;obtain⟨Ln,DS,rfl,rfl⟩:=WY xV;cases ub
 ·exact r [0] rfl fun _=>fin fun w hS=>⟨rfl,hS.now.2.mono fun b h=>by simpa using h,.inl ⟨(fun h=>by cases h.2.1),hS.at 0 rfl,hS.at 1 rfl⟩⟩
 rcases Gn with rfl|⟨ag,a1,a1c,rfl⟩
 case' inr=>exact r [0] rfl fun _=>fin fun w hS=>⟨rfl,hS.now.2.mono fun b h=>by simpa using h,.inl ⟨(fun h=>by cases h.2.2.1),hS.at 0 rfl,hS.at 1 rfl⟩⟩
 refine r [0] rfl fun _=>cut (X:=Nat×Int×OP) (fun x=>[(3,vp 2 0 (α 0)),(4,vp 3 0 (α 1)),(5,vp 4 0 (α 2)),(6,vp 5 0 R6),(7,vi x.2.1),(8,vp 6 0 x.1)]) (fun x=>crE X N (kW [.pointer (some ⟨X,0,none⟩),iV i,.bool true,.slice da dn dc,iV sy] (gj mo hn he wt .nilFunc tu) [iV ct,.bool sk]) (l_ nd pn pe [fl,tk,dd,iV cs,sv,td]) (α 0) (α 1) (α 2) q [⟨R6,35,yz (bw pn q i) (bw pe q 1)⟩,⟨x.1,114,qa x.2.2.1 x.2.2.2.1 x.2.2.2.2.1 x.2.2.2.2.2⟩]) (fun _=>U) (fun x w=>RowK .u8 w da dn dl∧Sw x.2.2 w) (fun _ w'=>dB (fun b=>b∈[N,X]) w w') (fun x=>fh B 1=(x.2.2.1,x.2.1)∧aW x.2.2.2.2.2 41) ?_ (r [4,1] rfl fun _=>lo rfl rfl 0 rfl 47 (mF B.r B.e B.f B.t B.o (.slice ba B.es.length bc) bq) (fun j hj=>(oG hq hj).trans (congrFun Vs j)) ?_)
 case refine_2=>
  repeat' first|refine FC ?_ ?_|(refine cx (g:=67) rfl (fun y:Int×OP=>vt [KV y.2,.o (iV y.1)]) (fun y=>fh B 1=(y.2.1,y.1)∧aW y.2.2.2.2 41) (fun y=>Sw y.2) ?_ ?_;exact fun w _=>(OQ (fun _=>True) B ba bc bq 1 w okB).mono fun _ _ ⟨_,B8,er8,h0,fJ,⟨a8,c8,g8,hy,hm8⟩,b⟩=>⟨(er8,B8,a8,c8,g8),by rw[h0,hy];rfl,b,⟨fJ,hm8.now.one⟩,fun _ w2 c2=>hm8 w2 (c2.mono fun _ _=>trivial)⟩;rintro⟨er8,B8,a8,c8,g8⟩ ⟨fJ,o8⟩)|refine rs [] rfl rfl fun _=> ?_
  all_goals exact bJ (_,er8,B8,a8,c8,g8) ⟨rfl,rfl,rfl,rfl,rfl,rfl,trivial⟩ (fun w hS=>hS.Kj [0,1,2,3,4,5,6] (by decide)) ⟨fJ,o8⟩ Bp
 rintro f ⟨R8,er8,B8,a8,c8,g8⟩ ⟨fJ,o8⟩;have fJ:fh B 1=(B8,er8):=fJ;have o8:aW g8 41:=o8;by_cases h0:er8=0
 case neg=>exact r [1] rfl fun _=>fin fun w hS=>⟨rfl,hS.now.2.mono fun b h=>by simpa using h,.inl ⟨(fun h=>h0 ((congrArg Prod.snd fJ).symm.trans h.2.2.2.1)),hS.at 0 rfl,hS.at 1 rfl⟩⟩
 subst h0;refine r [0] rfl fun δ=>kp 7 rfl (c0 rfl fun w1 hS=> ?_);obtain⟨oV,hu2,hu3⟩:=hS.rW;refine(ji X N i da dn dc dl sy mo hn he wt .nilFunc tu ct true sk (.func 68) #[] #[.pointer (some ⟨R8,0,none⟩),.pointer (some ⟨R6,0,none⟩),.pointer (some ⟨α 2,0,none⟩),.pointer (some ⟨α 1,0,none⟩),.pointer (some ⟨α 0,0,none⟩)] [aU q] (some ⟨δ 0,0,none⟩) 1 1 _ (hS.at 0 rfl) _ oV hu2 (fun w2 cc=>⟨(hu3 w2 cc).1.1,mT (aU q) (Ll hq) (hu3 w2 cc).2⟩) Ks Ki hdm h1 h2 h3 rfl (by decide) (fun r hr=>by rw[Ab.1 hr];exact B_ hq)).mono ?_;rintro _ w2 ⟨k,rfl,ch,⟨rfl,i_,a2,c2,wK,st2,jM,r_,rX⟩|⟨rfl,i_,wK⟩⟩
 case' inr=>exact⟨vv (.bool false),_,fun _=>True,rfl,ch,wK,fun _ _=>trivial,r [] rfl fun _=>dt rfl fun w hS=>⟨rfl,hS.now.2.mono fun b h=>by simpa using h,.inl ⟨(fun h=>by have:=h.2.2.2.2;omega),hS.at 0 rfl,hS.at 1 rfl⟩⟩⟩
 refine⟨vv (.bool true),_,_,rfl,ch,wK,st2,r [] rfl fun _=>mG rfl (by kernel_rfl) fun w3 hS=> ?_⟩;obtain⟨oV,hu2,hu3⟩:=hS.rW;refine(wJ X N i a2 (dn+(cp [aU q]).length) c2 (dl++cp [aU q]) sy mo hn he wt tu ct true sk 68 [.pointer (some ⟨R8,0,none⟩),.pointer (some ⟨R6,0,none⟩),.pointer (some ⟨α 2,0,none⟩),.pointer (some ⟨α 1,0,none⟩),.pointer (some ⟨α 0,0,none⟩)] _ (hS.at 0 rfl) _ oV hu2 (fun w2 cc=>(hu3 w2 cc).2) r_ jM i_ h2 (by omega) (by kernel_rfl) (fun z=>∃a3 c3,Mem z (hs (crE X N (kW [.pointer (some ⟨X,0,none⟩),iV i,.bool true,.slice a3 (dn+(cp [aU q]).length) c3,iV (dn+(cp [aU q]).length)] (gj (ak mo q (mF B8.r B8.e B8.f B8.t B8.o (.slice a8 B8.es.length c8) g8)) hn he wt .nilFunc tu) [iV ct,.bool sk]) (l_ nd (bw pn q i) (bw pe q 1) [fl,tk,dd,iV cs,sv,td]) (α 0) (α 1) (α 2) q [⟨R6,35,yz (bw pn q i) (bw pe q 1)⟩,⟨R8,114,qa B8 a8 c8 g8⟩])) U (fun w=>ki w B8 a8 c8 g8∧RowK .u8 w a3 (dn+(cp [aU q]).length) (dl++cp [aU q])) (fun w'=>dB (fun b=>b∈[N,X]) w w')∧(dn+(cp [aU q]).length)≤c3∧(a3=none→c3=0)∧c3≤9223372036854775807) (fun _ _ ⟨a3,c3,h1,h2⟩ b=>⟨a3,c3,h1.next b,h2⟩) ?_).mono ?_
 ·intro a3 c3 z fz rz hc3 Jc hm3 cz;have yu:=hS.Rx cz fz rz;refine(WX X N i a3 (dn+(cp [aU q]).length) c3 (dn+(cp [aU q]).length) mo hn he wt .nilFunc tu ct true sk nd pn pe fl tk dd cs sv td (bw pn q i) (bw pe q 1) (mF B8.r B8.e B8.f B8.t B8.o (.slice a8 B8.es.length c8) g8) (eF o8) q hq R8 R6 (α 2) (α 1) (α 0) z (yu.at 0 rfl) (yu.at 1 rfl) (yu.at 6 rfl) (yu.at 5 rfl) (yu.at 4 rfl) (yu.at 3 rfl) (yu.at 2 rfl) (yu.Kj [0,1,6,5,4,3,2] (by decide)).nodup).mono ?_;rintro _ z' ⟨rfl,f0,f1,cc⟩;exact⟨rfl,a3,c3,(yu.aeN 0 1 rfl rfl (by decide) cc f0 f1).said fun _ h=>⟨h.1.1.1.2,h.2⟩,hc3,Jc,hm3⟩
 rintro _ w6 ⟨rfl,a3,c3,hS,hc3,Jc,hm3⟩;obtain rfl:=PA fJ;exact⟨vt [],_,_,_,_,rfl,.inl rfl,hS,r [] rfl fun _=>dt rfl fun w7 hS=>⟨rfl,hS.now.2.mono fun b h=>by simpa using h,.inr ⟨⟨⟨Ln,DS⟩,rfl,rfl,congrArg Prod.snd fJ,i_⟩,a3,c3,a8,c8,g8,_,rfl,hS.at 0 rfl,hS.at 1 rfl,fun w2 cc=>(hS.take 2).g w2 (cc.mono fun b h=>h.imp (fun h=>show b∈[N,X] by simpa using h) id),hc3,Jc,hm3⟩⟩⟩
end
def Tc(mo:tT):Nat→Value:=fun k=>mo (k/47) (k % 47)
theorem acS(mo:tT){k:Nat}(hk:k<4)(w:tA):(Instr.index 115 (vF (Tc mo) 188) (iV (k:Int))).run Tryz.prog w= .ok (vF (mo k) 47) w:=by
 obtain rfl|rfl|rfl|rfl:k=0∨k=1∨k=2∨k=3:=by omega
 ·kernel_rfl
 ·kernel_rfl
 ·kernel_rfl
 ·kernel_rfl
theorem aak{hd tl:tM}{mo:tT}{hn he:tH}{wt af:tK}{tu:Int}{j:Nat}(h:j<188):kW hd (gj mo hn he wt af tu) tl (5+j)=Tc mo j:=by
 rw[EW (by omega)];unfold gj Tc;rw[Ae h]
def aal(nd:tV):Nat→Value:=fun k=> .pointer (some ⟨nd k,0,none⟩)
theorem acT(nd:tV){k:Nat}(hk:k<5)(w:tA):(Instr.index 99 (vF (aal nd) 5) (iV (k:Int))).run Tryz.prog w= .ok (.pointer (some ⟨nd k,0,none⟩)) w:=by
 obtain rfl|rfl|rfl|rfl|rfl:k=0∨k=1∨k=2∨k=3∨k=4:=by omega
 ·kernel_rfl
 ·kernel_rfl
 ·kernel_rfl
 ·kernel_rfl
 ·kernel_rfl
abbrev bF(B:Bt)(a:tB)(c:Nat):Nat→Value:=lF [iV B.r,iV B.e,iV B.f,iV B.t,iV B.o,.slice a B.es.length c]
structure ma(w:tA)(Y l:Nat)(B:Nat→Bt)(A:Nat→Option Addr)(K:tV):Prop where
 cell:∀q,q<l→∀j,j<6→w.cell? ⟨Y,q*6+j,none⟩=some (bF (B q) (A q) (K q) j)
 bin:∀q,q<l→jg w (B q) (A q) (K q)
theorem W_{U:tF}{w w':tA}{Y:Nat}{f:Nat→Bt}{A:Nat→Option Addr}{K:tV}(h:Lj w' Y f A K)(hY:w.heap.size≤Y)(hU:∀b,U b→b<w.heap.size):cm U w' fun w=>ma w Y 4 f A K:=fun w2 c=>by
 refine⟨fun q hq j hj=> ?_,fun q hq=> ?_⟩
 ·have aN:=h.b.lt;have nu:¬U Y:=fun hu=>by have:=hU _ hu;omega
  rw[c.cell aN nu];obtain⟨h0,h1,h2,h3,h4,h5⟩:=h.b.at q hq
  match j,hj with
  |0,_=>exact h0
  |1,_=>exact h1
  |2,_=>exact h2
  |3,_=>exact h3
  |4,_=>exact h4
  |5,_=>exact h5
 ·have hb:=h.bin q hq;refine⟨nh hb.row c fun x hx _ hu=> ?_,hb.cap,hb.nil⟩;obtain⟨_,⟨e1,_⟩|⟨g,cap,cur,e1,hg,_⟩⟩:=h.own q hq
  ·simp only[nS]at e1;cases hx.symm.trans (by injection e1:A q=none)
  ·simp only[nS]at e1;have e2:A q=some ⟨g,0,none⟩:=by injection e1
   rw[hx]at e2;cases e2;have:=hU _ hu;simp only at this;omega
section
open Rv
theorem Gp:jI Tryz.prog 44 43 6 64=true:=by kernel_rfl
theorem Nk{g g':tD}{m:Nat}(h:∀j,j<m→g j=g' j):vF g m=vF g' m:=by
 have:cE g 0 m=cE g' 0 m:=BR fun j hj=>by rw[Aj];exact h j (Cg.1 hj)
 unfold vF;rw[this]
def bL(Bs:Nat→Bt)(A:Nat→Option Addr)(K:tV)(k:Nat):List Value:=(List.range k).flatMap fun q=>cE (bF (Bs q) (A q) (K q)) 0 6
theorem vk(Bs:Nat→Bt)(A:Nat→Option Addr)(K:tV)(k:Nat):bL Bs A K (k+1)=bL Bs A K k++cE (bF (Bs k) (A k) (K k)) 0 6:=by simp[bL,List.range_succ]
theorem Gq(Bs:Nat→Bt)(A:Nat→Option Addr)(K:tV):∀k,(bL Bs A K k).length=6*k
 |0=>rfl
 |k+1=>by rw[vk,Ag,Gq Bs A K k,bR];omega
theorem YZ(Bs:Nat→Bt)(A:Nat→Option Addr)(K:tV):∀(k q j:Nat),q<k→j<6→(bL Bs A K k)[q*6+j]? =some (bF (Bs q) (A q) (K q) j)
 |0,q,_,h,_=>absurd h (AF q)
 |k+1,q,j,h,hj=>by
  rw[vk];by_cases e:q=k
  ·subst e;rw[AQ (by rw[Gq];omega),Gq,show q*6+j-6*q=j by omega,bW _ _ _ _ hj,Aj]
  ·rw[AZ (by rw[Gq];omega)];exact YZ Bs A K k q j (by omega) hj
theorem Jd{Bs:Nat→Bt}{A A':Nat→Option Addr}{K K':tV}:∀(k:Nat),(∀q,q<k→A q=A' q∧K q=K' q)→bL Bs A K k=bL Bs A' K' k
 |0,_=>rfl
 |k+1,h=>by rw[vk,vk,Jd k fun q hq=>h q (by omega),(h k (Nat.lt_succ_self k)).1,(h k (Nat.lt_succ_self k)).2]
theorem Xa{w:tA}{Bs:Nat→Bt}{A:Nat→Option Addr}{K:tV}{k:Nat}{a:tB}{c:Nat}(h:∀q,q<k→jg w (Bs q) (A q) (K q))(hk:jg w (Bs k) a c):∀q,q<k+1→jg w (Bs q) (ak A k a q) (ak K k c q):=fun q hq=>by
 unfold ak;by_cases e:q=k
 ·subst e;rw[Ae rfl,Ae rfl];exact hk
 ·rw[Aa e,Aa e];exact h q (by omega)
theorem PB(X N:Nat)(i:Int)(da:tB)(dn dc:Nat)(sy:Int)(mo:tT)(hn he:tH)(wt af:tK)(tu ct:Int)(sk:Bool)(Bs:Nat→Bt)(ba:Nat→Option Addr)(bc:tV)(bq:tT)(Vs:∀q,q<4→vF (mo q) 47=zJ (Bs q) (ba q) (bc q) (bq q))(qB:∀q,q<4→aW (mo q) 47)(hlen:∀q,q<4→(Bs q).es.length≤1000000)(w:tA)(Vq:bh w N 123 206 (kW [.pointer (some ⟨X,0,none⟩),iV i,.bool true,.slice da dn dc,iV sy] (gj mo hn he (wt) (af) tu) [iV ct,.bool sk]))(U:tF)(hU:∀b,U b→b<w.heap.size)(Hb:¬U N)(hr:cm (fun b=>b=N∨U b) w fun w=>∀q,q<4→jg w (Bs q) (ba q) (bc q)):cA 52 #[.pointer (some ⟨N,0,none⟩)] w fun x w'=>∃Y c A K,x= .returned (.slice (some ⟨Y,0,none⟩) 4 c)∧4≤c∧cm (fun b=>b=N∨U b) w' (fun w=>ma w Y 4 Bs A K)∧bZ w w':=by
 have Vr:[N].Nodup:=by simp
 have Ta:∀e∈([⟨N,123,206,(kW [.pointer (some ⟨X,0,none⟩),iV i,.bool true,.slice da dn dc,iV sy] (gj mo hn he (wt) (af) tu) [iV ct,.bool sk])⟩]:List bX),bh w e.a e.t e.n e.f:=by
  intro e he;simp only[List.mem_cons,List.not_mem_nil,or_false]at he;rcases he with rfl
  ·exact Vq
 have hS:Mem w [⟨N,123,206,(kW [.pointer (some ⟨X,0,none⟩),iV i,.bool true,.slice da dn dc,iV sy] (gj mo hn he (wt) (af) tu) [iV ct,.bool sk])⟩] U (fun w=>∀q,q<4→jg w (Bs q) (ba q) (bc q)) (fun w'=>dB (fun b=>b∈[N]) w w'):=Mem.begin Ta (Rw Vr) (fun e he=>by cases Ab.1 he;exact Hb) hU (fun w2 c=>hr w2 (c.mono fun b h=>h.imp (fun h=>Ab.1 h) id));clear Ta;refine en (H:=[⟨N,123,[.f 206 (kW [.pointer (some ⟨X,0,none⟩),iV i,.bool true,.slice da dn dc,iV sy] (gj mo hn he wt af tu) [iV ct,.bool sk])]⟩]) _ [vp 0 0 N] Tryz.func52 rfl rfl hS (r [] rfl fun _=>sv 37 (vf 188 (Tc mo)) (Nk fun j hj=>aak hj) ?_);refine jt (fun w2 hS=>hS.xR w.heap.size 43 6) ?_;refine iD (X:=Nat×Value×(Nat→Option Addr)×(Nat→Nat)) ⟨fun x=>[(9,vv x.2.1),(37,vf 188 (Tc mo)),(38,vi (x.1:Int))],fun x=>[⟨N,123,[.f 206 (kW [.pointer (some ⟨X,0,none⟩),iV i,.bool true,.slice da dn dc,iV sy] (gj mo hn he wt af tu) [iV ct,.bool sk])]⟩],fun x b=>x.2.1.ownBlock=some b∨U b,fun x w=>(∀q,q<4→jg w (Bs q) (ba q) (bc q))∧∀q,q<x.1→jg w (Bs q) (x.2.2.1 q) (x.2.2.2 q),fun x w'=>dB (fun b=>b∈[N]) w w'∧w'.ownsRow w.heap.size 43 6 x.2.1 x.1 (bL Bs x.2.2.1 x.2.2.2 x.1),fun x=>x.1≤4,fun x=>4-x.1⟩ (0,.slice none 0 0,fun _=>none,fun _=>0) ⟨rfl,rfl,rfl,trivial⟩ (fun w hS=>hS.said fun _ h=>⟨h,fun q hq=>absurd hq (AF q)⟩) (Al _) ?_;rintro f ⟨k,v9,A,K⟩ hk;have hk:k≤4:=hk;by_cases aN:k<4
 case neg=>
  obtain rfl:k=4:=by omega
  refine r [0] rfl fun _=>fin fun w1 hS=> ?_;have ho:w1.ownsRow w.heap.size 43 6 v9 4 (bL Bs A K 4):=hS.now.2.2;rcases id ho.2 with⟨_,h⟩|⟨Y,c,_,rfl,hY,_,h4,_⟩
  ·cases h
  refine⟨Y,c,A,K,rfl,h4,fun w2 c2=>⟨fun q hq j hj=> ?_,(hS.g w2 (c2.mono fun b hb=>hb.imp (fun h=>Ab.2 h) .inr)).2⟩,(hS.now.2.1.less (U:=fun _=>False) fun b hb=>by obtain rfl:=Ab.1 hb;exact .inr ⟨_,_,_,Vq,hS.at 0 rfl⟩).below (Ac _) fun _ _ h=>h⟩
  ·have hk:=jO ho fun g hg aN=>c2.block g aN fun hu=>by
    cases hg;rcases hu with hu|hu
    ·exact absurd hY (BL.2 (by have h:=Vq.lt;rw[←hu]at h;exact h))
    ·exact absurd (hU _ hu) (Bb.2 hY)
   have:=o_ hk (YZ Bs A K 4 q j hq hj);rwa [BM,Aj]at this
 refine r [1] rfl fun _=>ix (vf 47 (mo k)) rfl rfl (acS mo aN) ?_;have rJ:=qB k aN;refine r [] rfl fun γ=>cx rfl (fun y:Option Addr×Nat=>vg (bS (Bs k).r (Bs k).e (Bs k).f (Bs k).t (Bs k).o y.1 (Bs k).es.length y.2)) (fun y=>(Bs k).es.length≤y.2∧(y.1=none→y.2=0)) (fun y w=>RowK .i64 w y.1 (6*(Bs k).es.length) (au (Bs k).es)) (fun w1 hS=> ?_) ?_
 ·have xV:=KT (Bs k).r (Bs k).e (Bs k).f (Bs k).t (Bs k).o (ba k) (Bs k).es.length (bc k) (bq k) (au (Bs k).es) w1 (hS.now.1.1 k aN).row (hS.now.1.1 k aN).nil (hlen k aN);rw[show jG (Bs k).r (Bs k).e (Bs k).f (Bs k).t (Bs k).o (ba k) (Bs k).es.length (bc k) (bq k)=vF (mo k) 47 from(Vs k aN).symm]at xV;refine xV.mono ?_;rintro _ w3 ⟨_,rfl,⟨a8,c8,rfl,r8,Hc,Te,hf8⟩,b⟩;exact⟨(a8,c8),rfl,b,⟨Hc,Te⟩,fun hl=>bM r8 hf8 hl⟩
 rintro⟨a8,c8⟩ ⟨Hc,Te⟩;have eA:∀q,q<k→ak A k a8 q=A q∧ak K k c8 q=K q:=fun q hq=>⟨Aa (by omega),Aa (by omega)⟩;have eL:bL Bs (ak A k a8) (ak K k c8) (k+1)=bL Bs A K k++cE (bF (Bs k) a8 c8) 0 6:=by rw[vk,Jd k eA,show ak A k a8 k=a8 from Ae rfl,show ak K k c8 k=c8 from Ae rfl]
 refine r [] rfl fun _=>nJ 2 rfl Gp (fun w1 hS=>hS.now.2.1.size) (fun _ _ h c=>h.trans c fun b hb hle=>absurd hb (Bb.2 hle)) fun g c hc=> ?_;refine rz [1] [((k+1:Nat):Int)] rfl fun _=>bJ (k+1,_,ak A k a8,ak K k c8) ⟨rfl,rfl,rfl,trivial⟩ (fun w1 hS=>((hS.take 1).said fun w h=>⟨h.1.1,Xa h.1.2 ⟨h.2,Hc,Te⟩⟩).sr fun w h=>⟨h.1,by show w.ownsRow _ _ _ _ (k+1) (bL Bs (ak A k a8) (ak K k c8) (k+1));rw[eL];exact h.2⟩) (show k+1≤4 by omega) (show 4-(k+1)<4-k by omega)
theorem Je(rs:List Rec):(rs.map bn).flatten=aD rs:=by
 unfold aD;rw[List.flatMap_def]
theorem Th{w:tA}{a:tB}{rs:List Rec}(h:jh w a (rs.map bn))(xu:∀u∈aD rs,(Lit.int .i64 u).wf=true):RowK .i64 w a (10*rs.length) (aD rs):=by
 have hl:(aD rs).length=10*rs.length:=by
  rw[←Je,IQ _ h.M7,AW];omega
 refine⟨hl,xu,fun i hi=> ?_⟩;obtain⟨b,off,e,hb,hc⟩:=h.cell i (by rw[AW];omega);rw[Je]at hc;exact⟨b,off,e,hb,hc⟩
theorem Nl(a:tB)(len cap:Nat)(l:tG)(s:Int)(rs:List Rec)(kk:Nat)(w:tA)(h:RowK .u8 w a len l)(hn:a=none→cap=0)(rY:len≤cap)(hc:cap≤9223372036854775807)(h1:len≤100000)(h2:0≤s)(h3:s≤len)(Xb:bB l=(rs.map bn,kk))(xu:∀u∈aD rs,(Lit.int .i64 u).wf=true):
  cA 83 #[.agg #[.slice a len cap,iV s]] w fun e w'=>
   ∃a' bl,e= .returned (.tuple #[.slice a' rs.length bl,iV (kk:Nat),iV 0])∧RowK .i64 w' a' (10*rs.length) (aD rs)∧rs.length≤bl∧bl≤9223372036854775807∧(a'=none→bl=0)∧(∀x,a'=some x→w.heap.size≤x.block)∧bZ w w':=by
 refine(IU a len cap l s w h hn rY hc h1 h2 h3).mono ?_;rintro _ w' ⟨a',c',rfl,hr,my,jM,hc3,hc4,hb⟩;rw[Xb]at hr my⊢;simp only[List.length_map]at my⊢;exact⟨a',c',rfl,Th hr xu,my,jM,hc3,hc4,hb⟩
theorem Xc{f g:Nat→Bt}(h:lz f=lz g):∀q,q<4→f q=g q:=by
 simp only[lz,List.cons.injEq,and_true]at h;obtain⟨h0,h1,h2,h3⟩:=h;intro q hq;obtain rfl|rfl|rfl|rfl:q=0∨q=1∨q=2∨q=3:=by omega
 ·exact h0
 ·exact h1
 ·exact h2
 ·exact h3
theorem aam{U:tF}(rs:List Rec)(Bs:Nat→Bt)(a:tB)(c:Nat)(w:tA)(hr:RowK .i64 w a (10*rs.length) (aD rs))(hc:rs.length≤c)(hlen:(rs.length+1)*48≤140737488355328)(Ti:(kV (lz gb) 0 rs).1=some (lz Bs))(hU:∀b,U b→b<w.heap.size):
  cA 84 #[.slice a rs.length c] w fun x w'=>∃Y A K,x= .returned (.tuple #[.slice (some ⟨Y,0,none⟩) 4 4,iV 0,iV 0])∧cm U w' (fun w=>ma w Y 4 Bs A K)∧bZ w w':=by
 refine(WT rs a c w hr hc hlen).mono ?_;rintro _ w' ⟨⟨_,ho⟩,hb⟩;obtain⟨Y,f,A,K,rfl,_,_,e,hf,hY⟩:=ho _ Ti;have hq:=Xc e;refine⟨Y,A,K,rfl,fun w2 c2=> ?_,hb⟩;have hh:=W_ hf hY hU w2 c2;exact⟨fun q xX j hj=>by rw[hq q xX];exact hh.cell q xX j hj,fun q xX=>by rw[hq q xX];exact hh.bin q xX⟩
theorem Jf(X N:Nat)(i:Int)(da:tB)(dn dc:Nat)(dl:tG)(sy:Int)(mo:tT)(hn he:tH)(wt af:tK)(tu ct:Int)(sk:Bool)(Bs:Nat→Bt)(rs:List Rec)(kk:Nat)(w:tA)(Vq:bh w N 123 206 (kW [.pointer (some ⟨X,0,none⟩),iV i,.bool false,.slice da dn dc,iV sy] (gj mo hn he (wt) (af) tu) [iV ct,.bool sk]))(U:tF)(hU:∀b,U b→b<w.heap.size)(Hb:¬U N)(hr:cm (fun b=>b=N∨U b) w fun w=>RowK .u8 w da dn dl)(Ks:da=none→dc=0)(Ki:dn≤dc)(hdm:dc≤9223372036854775807)(h1:dn≤100000)(h2:0≤sy)(h3:sy≤dn)(Xb:bB dl=(rs.map bn,kk))(xu:∀u∈aD rs,(Lit.int .i64 u).wf=true)(hrl:rs.length≤100000)(Ti:(kV (lz gb) 0 rs).1=some (lz Bs)):cA 52 #[.pointer (some ⟨N,0,none⟩)] w fun x w'=>∃Y c A K,x= .returned (.slice (some ⟨Y,0,none⟩) 4 c)∧4≤c∧cm (fun b=>b=N∨U b) w' (fun w=>ma w Y 4 Bs A K)∧bZ w w':=by
 refine en 48 [vp 0 0 N] Tryz.func52 rfl rfl (Vq.Mx hU Hb hr) (r [] rfl fun _=> ?_);refine cx rfl (fun y:Option Addr×Nat=>vt [.o (.slice y.1 rs.length y.2),.o (iV (kk:Nat)),.o (iV 0)]) (fun y=>rs.length≤y.2) (fun y w=>RowK .i64 w y.1 (10*rs.length) (aD rs)) (fun w1 hS=>(Nl da dn dc dl sy rs kk w1 hS.now.1 Ks Ki hdm h1 h2 h3 Xb xu).mono fun _ w2 ⟨a1,c1,h0,r1,my,_,_,pt,b⟩=>⟨(a1,c1),h0,b,my,bM r1 pt⟩) ?_;rintro⟨a8,c8⟩ Hc;refine r [] rfl fun _=>cx rfl (fun y:Nat×(Nat→Option Addr)×(Nat→Nat)=>vt [.o (.slice (some ⟨y.1,0,none⟩) 4 4),.o (iV 0),.o (iV 0)]) (fun _=>True) (fun y w=>ma w y.1 4 Bs y.2.1 y.2.2) (fun w1 hS=>(aam rs Bs a8 c8 w1 hS.now.1.2 Hc (by omega) Ti hS.ult).mono fun _ w2 ⟨Y,A,K,h0,st,b⟩=>⟨(Y,A,K),h0,b,trivial,fun _=>st⟩) ?_;rintro⟨Y,A,K⟩ _;refine r [] rfl fun _=>fin fun w2 hS=> ?_;have ch:dB (fun _=>False) w w2:=hS.now.2.less fun b hb=>by
  cases Ab.1 hb;exact .inr ⟨_,_,_,Vq,hS.at 0 rfl⟩
 exact⟨Y,4,A,K,rfl,Ac _,fun w2 c2=>(hS.g w2 (c2.mono fun b h=>h.imp (fun h=>Ab.2 h) id)).2,ch.below (Ac _) fun _ _ h=>h⟩
theorem sC:jI Tryz.prog 153 144 10 80=true:=by kernel_rfl
theorem Xd{mo:tT}{hn he:tH}{wt af:tK}{tu:Int}{q:Nat}{g:tD}(hq:q<4)(i:Nat):gh (gj mo hn he wt af tu) (0+q*47) 47 g i=gj (ak mo q g) hn he wt af tu i:=by
 rw[Aj];exact S7 hq i
abbrev sD(Bs:Nat→Bt)(q:Nat):Rec:=⟨2,q,(Bs q).e,0,⟨4,0,0,0,0,0⟩⟩
def a7(Bs:Nat→Bt):Nat→List Rec
 |0=>[]
 |k+1=>if(Bs k).r=1 then a7 Bs k++[sD Bs k]else a7 Bs k
theorem pI{Bs:Nat→Bt}{k:Nat}(h:(Bs k).r=1):a7 Bs (k+1)=a7 Bs k++[sD Bs k]:=Ae h
theorem rK{Bs:Nat→Bt}{k:Nat}(h:¬(Bs k).r=1):a7 Bs (k+1)=a7 Bs k:=Aa h
theorem mU(Bs:Nat→Bt):∀k,(a7 Bs k).length≤k
 |0=>Ac _
 |k+1=>by
  have:=mU Bs k;unfold a7;split
  ·rw[Ag,BV];omega
  ·omega
theorem iA:∀l:List Rec,(aD l).length=10*l.length
 |[]=>rfl
 |r::l=>by
  have:=iA l;unfold aD at this⊢;rw[List.flatMap_cons,Ag,this,List.length_cons];show 10+_=_;omega
theorem PC{l:List Rec}{r:Rec}{F F':tD}(h:∀j,j<10*l.length→F j=iV ((aD l).getD j 0))(h1:∀j,j<l.length*10→F' j=F j)(h2:∀j,j<10→F' (l.length*10+j)=lF [iV r.k,iV r.q,iV r.e,iV r.p,iV r.v.k,iV r.v.p,iV r.v.i,iV r.v.b,iV r.v.he,iV r.v.hn] j):∀j,j<10*(l++[r]).length→F' j=iV ((aD (l++[r])).getD j 0):=fun j hj=>by
 have e:aD (l++[r])=aD l++bn r:=by simp[aD]
 rw[Ag,BV]at hj;rw[e];have hl:=iA l;by_cases hc:j<10*l.length
 ·rw[h1 j (by omega),h j hc];simp only[List.getD_eq_getElem?_getD];rw[AZ (by omega)]
 ·obtain⟨i,rfl⟩:∃i,j=l.length*10+i:=⟨j-l.length*10,by omega⟩;have hi:i<10:=by omega
  rw[h2 i hi];simp only[List.getD_eq_getElem?_getD];rw[AQ (by omega),hl,show l.length*10+i-10*l.length=i by omega]
  match i,hi with
  |0,_=>rfl
  |1,_=>rfl
  |2,_=>rfl
  |3,_=>rfl
  |4,_=>rfl
  |5,_=>rfl
  |6,_=>rfl
  |7,_=>rfl
  |8,_=>rfl
  |9,_=>rfl
theorem aan{U:tF}{w:tA}{Y T n:Nat}{F:tD}{l:tG}(fb:bh w Y T n F)(hY:¬U Y)(hn:l.length≤n)(hF:∀j,j<l.length→F j=iV (l.getD j 0))(xu:∀u∈l,(Lit.int .i64 u).wf=true):cm U w fun w=>RowK .i64 w (some ⟨Y,0,none⟩) l.length l:=fun w2 c=>
 ⟨rfl,xu,fun i hi=>⟨Y,0,rfl,Am fb.lt c.size,by rw[Aj,c.cell fb.lt hY,fb.at i (by omega),hF i hi]⟩⟩
theorem Xe{w:tA}{Bw:Nat→Bt}{A:Nat→Option Addr}{K:tV}{q':tT}{k:Nat}{a:tB}{c:Nat}{g:tD}(h:∀q,q<k→ki w (Bw q) (A q) (K q) (q' q))(hk:ki w (Bw k) a c g):∀q,q<k+1→ki w (Bw q) (ak A k a q) (ak K k c q) (ak q' k g q):=fun q hq=>by
 unfold ak;by_cases e:q=k
 ·subst e;rw[Ae rfl,Ae rfl,Ae rfl];exact hk
 ·rw[Aa e,Aa e,Aa e];exact h q (by omega)
theorem aao{mo:tT}{Bw:Nat→Bt}{A:Nat→Option Addr}{K:tV}{q':tT}{k:Nat}{a:tB}{c:Nat}{g y:tD}(h:∀q,q<k→vF (mo q) 47=zJ (Bw q) (A q) (K q) (q' q))(hk:vF y 47=zJ (Bw k) a c g):∀q,q<k+1→vF (ak mo k y q) 47=zJ (Bw q) (ak A k a q) (ak K k c q) (ak q' k g q):=fun q hq=>by
 unfold ak;by_cases e:q=k
 ·subst e;rw[Ae rfl,Ae rfl,Ae rfl,Ae rfl];exact hk
 ·rw[Aa e,Aa e,Aa e,Aa e];exact h q (by omega)
theorem Xf{mo:tT}{k:Nat}{y:tD}(h:∀q,q<4→aW (mo q) 47)(hy:aW y 47):∀q,q<4→aW (ak mo k y q) 47:=fun q hq=>by
 unfold ak;by_cases e:q=k
 ·rw[Ae e];exact hy
 ·rw[Aa e];exact h q hq
theorem PD{Bs:Nat→Bt}(h:∀q,q<4→(Lit.int .i64 (Bs q).e).wf=true):∀u∈aD (a7 Bs 4),(Lit.int .i64 u).wf=true:=by
 have:∀k,k≤4→∀u∈aD (a7 Bs k),(Lit.int .i64 u).wf=true:=by
  intro k
  induction k with
  |zero=>intro _ u hu;simp[a7,aD]at hu
  |succ k ih=>
   intro hk u hu;by_cases hr:(Bs k).r=1
   ·rw[pI hr]at hu;have e:aD (a7 Bs k++[sD Bs k])=aD (a7 Bs k)++bn (sD Bs k):=by simp[aD]
    rw[e,Ah]at hu;rcases hu with hu|hu
    ·exact ih (by omega) u hu
    ·simp only[bn,List.mem_cons,List.not_mem_nil,or_false]at hu;rcases hu with rfl|rfl|rfl|rfl|rfl|rfl|rfl|rfl|rfl|rfl
     ·decide
     ·obtain rfl|rfl|rfl|rfl:k=0∨k=1∨k=2∨k=3:=by omega
      ·decide
      ·decide
      ·decide
      ·decide
     ·exact h k (by omega)
     ·decide
     ·decide
     ·decide
     ·decide
     ·decide
     ·decide
     ·decide
   ·rw[rK hr]at hu;exact ih (by omega) u hu
 exact this 4 (Ac _)
theorem Jg(l:List Rec)(r:Rec):(aD (l++[r])).map (Value.int .i64)=(aD l).map (Value.int .i64)++(bn r).map (Value.int .i64):=by simp[aD]
theorem Lo{x:Int}(h1: -9223372036854775808≤x)(h2:x≤9223372036854775807):(Lit.int .i64 x).wf=true:=by
 have e:IntKind.i64.min= -9223372036854775808:=rfl;simp[Lit.wf];exact⟨by omega,h2⟩
theorem jV{B:Bt}(h:B.b_):0≤B.e∧B.e≤1048576:=by
 unfold Bt.b_ bg at h;omega
def WkY(Bs:Nat→Bt)(U:tF)(w:tA)(x:Ending)(w':tA):Prop:=∃(mo:tT) (ba:Nat→Option Addr) (bc:tV) (bq:tT) (ra:tB) (rc:Nat),x= .returned (.tuple #[vF (gj mo (dX 4) bK (.slice none 0 0) .nilFunc 0) 199,.slice ra (a7 Bs 4).length rc,.bool true])∧(∀q,q<4→vF (mo q) 47=zJ (aZ (Bs q)).1 (ba q) (bc q) (bq q))∧(∀q,q<4→aW (mo q) 47)∧cm U w' (fun w=>(∀q,q<4→ki w (aZ (Bs q)).1 (ba q) (bc q) (bq q))∧RowK .i64 w ra (10*(a7 Bs 4).length) (aD (a7 Bs 4)))∧(a7 Bs 4).length≤rc∧bZ w w'
theorem EX(Bs:Nat→Bt)(Y cb:Nat)(A:Nat→Option Addr)(K:tV)(ok:∀q,q<4→(Bs q).Ok)(he:∀q,q<4→(Lit.int .i64 (Bs q).e).wf=true)(U:tF)(w:tA)(hU:∀b,U b→b<w.heap.size)(hb:cm U w fun w=>ma w Y 4 Bs A K):cA 76 #[.slice (some ⟨Y,0,none⟩) 4 cb] w fun x w'=>((∃p,p<4∧¬(aZ (Bs p)).2=0)∧x= .returned (.tuple #[vF zMe 199,.slice none 0 0,.bool false])∧bZ w w')∨((∀q,q<4→(aZ (Bs q)).2=0)∧WkY Bs U w x w'):=by
 have o0:aW (gj QU (dX 4) bK (.slice none 0 0) .nilFunc 0) 199:=wH yD rfl;refine en (H:=[]) 52 [vv (.slice (some ⟨Y,0,none⟩) 4 cb)] Tryz.func76 rfl rfl (nZ hU hb) (r [] rfl fun α=> ?_);refine Rv.cb rfl (vf 199 (gj QU (dX 4) bK (.slice none 0 0) .nilFunc 0)) (fun w _=>vj w) (r [] rfl fun β=>gn 0 zMe ?_);refine jt (fun w2 hS=>hS.xR w.heap.size 144 10) ?_;refine iD (X:=Nat×Value×(Nat→Nat→Value)×(Nat→Option Addr)×(Nat→Nat)×(Nat→Nat→Value)) ⟨fun x=>[(2,vp 0 0 (α 0)),(5,vp 1 0 (β 0)),(6,vv x.2.1),(12,vv (.slice (some ⟨Y,0,none⟩) 4 cb)),(13,vi 4),(14,vi (x.1:Int))],fun x=>[⟨α 0,117,[.f 199 zMe]⟩,⟨β 0,117,[.f 199 (gj x.2.2.1 (dX 4) bK (.slice none 0 0) .nilFunc 0)]⟩],fun x b=>x.2.1.ownBlock=some b∨U b,fun x w=>ma w Y 4 Bs A K∧∀q,q<x.1→ki w (aZ (Bs q)).1 (x.2.2.2.1 q) (x.2.2.2.2.1 q) (x.2.2.2.2.2 q),fun x w'=>bZ w w'∧w'.ownsRow w.heap.size 144 10 x.2.1 (a7 Bs x.1).length ((aD (a7 Bs x.1)).map (.int .i64)),fun x=>x.1≤4∧(∀q,q<x.1→(aZ (Bs q)).2=0)∧(∀q,q<x.1→vF (x.2.2.1 q) 47=zJ (aZ (Bs q)).1 (x.2.2.2.1 q) (x.2.2.2.2.1 q) (x.2.2.2.2.2 q))∧(∀q,q<4→aW (x.2.2.1 q) 47),fun x=>4-x.1⟩ (0,.slice none 0 0,QU,fun _=>none,fun _=>0,fun _=>zQ) ⟨rfl,rfl,rfl,rfl,rfl,rfl,trivial⟩ (fun w hS=>hS.said fun _ h=>⟨h,fun q hq=>absurd hq (AF q)⟩) ⟨Al _,fun q hq=>absurd hq (AF q),fun q hq=>absurd hq (AF q),yD⟩ ?_;rintro f ⟨k,v6,mo,ba,bc,bq⟩ ⟨hk,hlo,Vs,qB⟩;have hk:k≤4:=hk;have qB:∀q,q<4→aW (mo q) 47:=qB;have o1:aW (gj mo (dX 4) bK (.slice none 0 0) .nilFunc 0) 199:=wH qB rfl;have pZ:=mU Bs k;by_cases aN:k<4
 case neg=>
  obtain rfl:k=4:=by omega
  refine r [0] rfl fun _=>fin fun w1 hS=> .inr ⟨hlo, ?_⟩;have ho:w1.ownsRow w.heap.size 144 10 v6 (a7 Bs 4).length ((aD (a7 Bs 4)).map (Value.int .i64)):=hS.now.2.2;obtain⟨a,c,rfl,hr,hc,_,_,hf⟩:=RowK.eK ho (PD he);exact⟨mo,ba,bc,bq,a,c,rfl,Vs,qB,fun w2 c2=>⟨(hS.FD w2 (c2.mono fun _ h=> .inr h)).2,bM hr hf hU w2 c2⟩,hc,hS.now.2.1⟩
 refine r [1] rfl fun _=>lf (q:=0+k*6) rfl 6 (bF (Bs k) (A k) (K k)) (fun w hS j hj=>by rw[Aj];exact hS.now.1.1.cell k aN j hj) (r [] rfl fun γ=> ?_);refine cx rfl (fun y:OP=>vt [KV y,.o (iV 0)]) (fun y=>y.1=Bs k∧aW y.2.2.2 41) Sw (fun w hS=>(Wt _ (Bs k) (A k) (K k) w hS.ult (fun w2 c2=>(hS.g w2 c2).1.bin k aN) (ok k aN)).mono ?_) ?_
 ·rintro _ w7 ⟨_,rfl,⟨a8,c8,q8,rfl,hm8⟩,b⟩;exact⟨(Bs k,a8,c8,q8),rfl,b,⟨rfl,hm8.now.one⟩,fun _=>hm8⟩
 rintro⟨B8,a8,c8,q8⟩ ⟨e8,o8⟩;obtain rfl:B8=Bs k:=e8;have o8:aW q8 41:=o8;refine r [1] rfl fun δ=>cx rfl (fun y:Int×OP=>vt [KV y.2,.o (iV y.1)]) (fun y=>aZ (Bs k)=(y.2.1,y.1)∧aW y.2.2.2.2 41) (fun y=>Sw y.2) (fun w hS=>(OW _ (Bs k) a8 c8 q8 w hS.ult (fun w2 c2=>(hS.g w2 c2).2) (ok k aN)).mono ?_) ?_
 ·rintro _ w10 ⟨_,B1,er,rfl,i_,⟨a9,c9,q9,rfl,hm9⟩,b⟩;exact⟨(er,B1,a9,c9,q9),rfl,b,⟨i_,hm9.now.one⟩,fun _=>hm9⟩
 rintro⟨er,B9,a9,c9,q9⟩ ⟨hw9,o9⟩;have hw9:aZ (Bs k)=(B9,er):=hw9;have o9:aW q9 41:=o9;by_cases Ik:er=0
 case neg=>exact r [1] rfl fun _=>fin fun w hS=> .inl ⟨⟨k,aN,by rw[hw9];exact Ik⟩,rfl,hS.now.2.1⟩
 subst Ik;have lo2:∀q,q<k+1→(aZ (Bs q)).2=0:=fun q hq=>by
  by_cases e:q=k
  ·rw[e,hw9]
  ·exact hlo q (by omega)
 have mi:=fun(w:tA) (h:(ma w Y 4 Bs A K∧∀q,q<k→ki w (aZ (Bs q)).1 (ba q) (bc q) (bq q))∧ki w B9 a9 c9 q9)=>Xe (Bw:=fun q=>(aZ (Bs q)).1) h.1.2 (by rw[hw9];exact h.2);have mu:=aao (y:=mF B9.r B9.e B9.f B9.t B9.o (.slice a9 B9.es.length c9) q9) Vs (by rw[hw9]<;>rfl)
 have ou:=Xf (y:=mF B9.r B9.e B9.f B9.t B9.o (.slice a9 B9.es.length c9) q9) (k:=k) qB (eF o9);refine r [0,1] rfl fun _=>so (g:=mF B9.r B9.e B9.f B9.t B9.o (.slice a9 B9.es.length c9) q9) rfl rfl rfl 1 rfl _ (fun i _=>Xd aN i) ?_ (eF o9);by_cases uR:(Bs k).r=1
 ·refine r [1] rfl fun _=>nJ 4 rfl sC (fun w hS=>hS.now.2.1.size) (fun _ _ h c=>cB h c (Ac _)) fun g c hc=> ?_;refine rz [1] [((k+1:Nat):Int)] rfl fun _=>bJ (k+1,_,_,ak ba k a9,ak bc k c9,ak bq k q9) ⟨rfl,rfl,rfl,rfl,rfl,rfl,trivial⟩ (fun w1 hS=>((hS.take 2).said fun w h=>⟨h.1.1.1,mi w ⟨h.1.1,h.2⟩⟩).sr fun w h=>⟨h.1,by rw[pI uR,Ag,Jg];exact h.2⟩) ⟨(show k+1≤4 by omega),lo2,mu,ou⟩ (show 4-(k+1)<4-k by omega)
 ·refine rz [0,1] [((k+1:Nat):Int)] rfl fun _=>bJ (k+1,v6,_,ak ba k a9,ak bc k c9,ak bq k q9) ⟨rfl,rfl,rfl,rfl,rfl,rfl,trivial⟩ (fun w1 hS=>((hS.take 2).said fun w h=>⟨h.1.1.1,mi w ⟨h.1.1,h.2⟩⟩).sr fun w h=>⟨h.1,by rw[rK uR];exact h.2⟩) ⟨(show k+1≤4 by omega),lo2,mu,ou⟩ (show 4-(k+1)<4-k by omega)
theorem PE(Bs:Nat→Bt)(Y cb:Nat)(A:Nat→Option Addr)(K:tV)(ok:∀q,q<4→(Bs q).Ok)(he:∀q,q<4→(Lit.int .i64 (Bs q).e).wf=true)(fw:∀q,q<4→(aZ (Bs q)).2=0)(U:tF)(w:tA)(hU:∀b,U b→b<w.heap.size)(hb:cm U w fun w=>ma w Y 4 Bs A K):cA 76 #[.slice (some ⟨Y,0,none⟩) 4 cb] w (WkY Bs U w):=by
 refine(EX Bs Y cb A K ok he U w hU hb).mono ?_;rintro x w' (⟨⟨p,hp,h⟩,_⟩|⟨_,h⟩)
 ·exact absurd (fw p hp) h
 ·exact h
theorem Y0{B:Bt}(ok:B.Ok):(Lit.int .i64 B.e).wf=true:=by
 have hs:=jV ok.cG;exact Lo (by omega) (by omega)
end
def Gr(fl:tK)(up:tQ)(pn pe:tH)(br sv td cl:tK):Nat→Value:=fun k=>
 if k<1 then fl else if k<6 then .bool (up (k-1))else if k<14 then lF [iV (pn 0),iV (pe 0),iV (pn 1),iV (pe 1),iV (pn 2),iV (pe 2),iV (pn 3),iV (pe 3)] (k-6)else lF [br,sv,td,cl] (k-14)
theorem Ls{fl:tK}{up:tQ}{pn pe:tH}{br sv td cl:tK}(h1:fl.oneCell'=true)(h2:br.oneCell'=true)(h3:sv.oneCell'=true)(h4:td.oneCell'=true)(h5:cl.oneCell'=true):aW (Gr fl up pn pe br sv td cl) 18:=fun i hi=>by
 match i,hi with
 |0,_=>exact h1
 |1,_=>rfl
 |2,_=>rfl
 |3,_=>rfl
 |4,_=>rfl
 |5,_=>rfl
 |6,_=>rfl
 |7,_=>rfl
 |8,_=>rfl
 |9,_=>rfl
 |10,_=>rfl
 |11,_=>rfl
 |12,_=>rfl
 |13,_=>rfl
 |14,_=>exact h2
 |15,_=>exact h3
 |16,_=>exact h4
 |17,_=>exact h5
 |n+18,h=>exact absurd h (by omega)
def Cy(up:tQ)(k:Nat):Nat→Bool:=fun q=>if q<k then up q else false
theorem acU{fl:tK}{up:tQ}{pn pe:tH}{br sv td cl:tK}{k:Nat}(hk:k<5)(i:Nat):oX (Gr fl (Cy up k) pn pe br sv td cl) (0+1+k*1) (.bool (up k)) i=Gr fl (Cy up (k+1)) pn pe br sv td cl i:=by
 by_cases hi:i=0+1+k*1
 ·subst hi;rw[Fm];unfold Gr;rw[Aa (by omega),Ae (by omega),show 0+1+k*1-1=k by omega];simp[Cy]
 ·rw[qh _ _ _ _ hi];unfold Gr;by_cases h1:i<1
  ·rw[Ae h1,Ae h1]
  ·rw[Aa h1,Aa h1];by_cases h2:i<6
   ·rw[Ae h2,Ae h2];congr 1;unfold Cy;by_cases h3:i-1<k
    ·rw[Ae h3,Ae (by omega)]
    ·rw[Aa h3,Aa (by omega)]
   ·rw[Aa h2,Aa h2]
theorem Xg{w:tA}{Bs:Nat→Nat→Bt}{Y:tV}{A:Nat→Nat→Option Addr}{K:Nat→Nat→Nat}{k y:Nat}{a:Nat→Option Addr}{c:tV}(h:∀q,q<k→ma w (Y q) 4 (Bs q) (A q) (K q))(hk:ma w y 4 (Bs k) a c):∀q,q<k+1→ma w (ak Y k y q) 4 (Bs q) (ak A k a q) (ak K k c q):=fun q hq=>by
 unfold ak;by_cases e:q=k
 ·subst e;rw[Ae rfl,Ae rfl,Ae rfl];exact hk
 ·rw[Aa e,Aa e,Aa e];exact h q (by omega)
section
open Rv
theorem sd:jr Tryz.prog 100=some 1:=by kernel_rfl
theorem DT:jI Tryz.prog 36 44 1 24=true:=by kernel_rfl
def slL(Y C:tV)(k:Nat):List Value:=(List.range k).map fun q=> .slice (some ⟨Y q,0,none⟩) 4 (C q)
theorem Tj(Y C:tV)(k y c:Nat):slL (ak Y k y) (ak C k c) (k+1)=slL Y C k++[.slice (some ⟨y,0,none⟩) 4 c]:=by
 unfold slL ak;rw[List.range_succ,AE];congr 1
 ·exact BR fun q hq=>by
   have:=Cg.1 hq;rw[Aa (by omega),Aa (by omega)]
 ·simp
theorem Jh(X:Nat)(nd:tV)(pn pe:tH)(fa:tB)(fn fc:Nat)(tk dd:tK)(cs:Int)(sa:tB)(sn sc:Nat)(ta:tB)(tn tc:Nat)(nu:tQ)(Bs:Nat→Nat→Bt)(w:tA)(U:tF)(hU:∀b,U b→b<w.heap.size)(hX:cm U w fun w=>(bh w X 103 19 (l_ nd pn pe [.slice fa fn fc,tk,dd,iV cs,.slice sa sn sc,.slice ta tn tc])∧∀q,q<5→w.cell? ⟨nd q,2,none⟩=some (.bool (nu q))))(afX:∀k,k<5→∀(U':tF) (w1:tA),(∀b,U' b→b<w1.heap.size)→(∀b,b<w.heap.size→U' b→U b)→bZ w w1→cA 52 #[.pointer (some ⟨nd k,0,none⟩)] w1 fun x w'=>∃Y c A K,x= .returned (.slice (some ⟨Y,0,none⟩) 4 c)∧4≤c∧cm U' w' (fun w=>ma w Y 4 (Bs k) A K)∧bZ w1 w'):cA 34 #[.pointer (some ⟨X,0,none⟩)] w fun x w'=>∃(R c:Nat) (F:tD) (Y C:tV) (A:Nat→Nat→Option Addr) (K:Nat→Nat→Nat),x= .returned (vF (Gr (iV (fn:Int)) (Cy nu 5) pn pe (.slice (some ⟨R,0,none⟩) 5 c) (.slice sa sn sc) (.slice ta tn tc) (iV cs)) 18)∧5≤c∧(∀q,q<5→F q= .slice (some ⟨Y q,0,none⟩) 4 (C q)∧4≤C q)∧cm U w' (fun w=>((bh w X 103 19 (l_ nd pn pe [.slice fa fn fc,tk,dd,iV cs,.slice sa sn sc,.slice ta tn tc])∧∀q,q<5→w.cell? ⟨nd q,2,none⟩=some (.bool (nu q)))∧∀q,q<5→ma w (Y q) 4 (Bs q) (A q) (K q))∧bh w R 44 (c*1) F)∧bZ w w':=by
 refine en (H:=[]) 52 [vv (.pointer (some ⟨X,0,none⟩))] Tryz.func34 rfl rfl (nZ hU hX) (r [1] rfl fun α=>l1 rfl (.slice fa fn fc) (fun w hS=>hS.now.1.1.at 13 (cR rfl)) (r [] rfl fun _=>lf rfl 8 (lF [iV (pn 0),iV (pe 0),iV (pn 1),iV (pe 1),iV (pn 2),iV (pe 2),iV (pn 3),iV (pe 3)]) (fun w hS j hj=>(hS.now.1.1.at (5+j) (by omega)).trans (AB some (Nj hj))) (r [] rfl fun _=>l1 rfl (.slice sa sn sc) (fun w hS=>hS.now.1.1.at 17 (cR rfl)) (r [] rfl fun _=>l1 rfl (.slice ta tn tc) (fun w hS=>hS.now.1.1.at 18 (cR rfl)) (r [] rfl fun _=>l1 rfl (iV cs) (fun w hS=>hS.now.1.1.at 16 (cR rfl)) (r [] rfl fun β=>lf rfl 5 (aal nd) (fun w hS j hj=>by rw[Aj];exact(hS.now.1.1.at j (by omega)).trans (AB some (S_ hj))) (r [] rfl fun _=>gn 1 (Gr (iV (fn:Int)) (Cy nu 0) pn pe (.slice none 0 0) (.slice sa sn sc) (.slice ta tn tc) (iV cs)) (gn 0 (Gr (iV 0) (fun _=>false) (fun _=>0) (fun _=>0) (.slice none 0 0) (.slice none 0 0) (.slice none 0 0) (iV 0)) ?_))))))));refine jt (fun w2 hS=>hS.xR w.heap.size 44 1) ?_;refine iD (X:=Nat×Value×(Nat→Nat)×(Nat→Nat)×(Nat→Nat→Option Addr)×(Nat→Nat→Nat)) ⟨fun x=>[(2,vp 0 0 (α 0)),(3,vp 1 0 (β 0)),(31,vf 5 (aal nd)),(32,vi (x.1:Int))],fun x=>[⟨α 0,40,[.f 18 (Gr (iV 0) (fun _=>false) (fun _=>0) (fun _=>0) (.slice none 0 0) (.slice none 0 0) (.slice none 0 0) (iV 0))]⟩,⟨β 0,40,[.f 18 (Gr (iV (fn:Int)) (Cy nu x.1) pn pe x.2.1 (.slice sa sn sc) (.slice ta tn tc) (iV cs))]⟩],fun x b=>x.2.1.ownBlock=some b∨U b,fun x w=>(bh w X 103 19 (l_ nd pn pe [.slice fa fn fc,tk,dd,iV cs,.slice sa sn sc,.slice ta tn tc])∧∀q,q<5→w.cell? ⟨nd q,2,none⟩=some (.bool (nu q)))∧∀q,q<x.1→ma w (x.2.2.1 q) 4 (Bs q) (x.2.2.2.2.1 q) (x.2.2.2.2.2 q),fun x w'=>bZ w w'∧w'.ownsRow w.heap.size 44 1 x.2.1 x.1 (slL x.2.2.1 x.2.2.2.1 x.1),fun x=>x.1≤5∧(∀q,q<x.1→4≤x.2.2.2.1 q)∧x.2.1.oneCell'=true,fun x=>5-x.1⟩ (0,.slice none 0 0,fun _=>0,fun _=>0,fun _ _=>none,fun _ _=>0) ⟨rfl,rfl,rfl,rfl,trivial⟩ (fun w hS=>hS.said fun _ h=>⟨h,fun q hq=>absurd hq (AF q)⟩) ⟨Al _,fun q hq=>absurd hq (AF q),rfl⟩ ?_;rintro f ⟨k,v,Y,C,A,K⟩ ⟨hk,h4,hv⟩;have hk:k≤5:=hk;have h4:∀q,q<k→4≤C q:=h4;by_cases aN:k<5
 case neg=>
  obtain rfl:k=5:=by omega
  have o1:aW (Gr (iV (fn:Int)) (Cy nu 5) pn pe v (.slice sa sn sc) (.slice ta tn tc) (iV cs)) 18:=Ls rfl hv rfl rfl rfl;refine r [0] rfl fun _=>fin fun w1 hS=> ?_;have ho:w1.ownsRow w.heap.size 44 1 v 5 (slL Y C 5):=hS.now.2.2;rcases id ho.2 with⟨_,h⟩|⟨R,c,cur,rfl,hR,hb,h5,_,hs,ht⟩
  ·cases h
  refine⟨R,c,fun j=>cur.getD j undef,Y,C,A,K,rfl,h5,fun q hq=>⟨?_,h4 q hq⟩,fun w2 c2=> ?_,hS.now.2.1⟩
  ·have:(cur.toList.take (5*1))[q]? =some (.slice (some ⟨Y q,0,none⟩) 4 (C q)):=by
    rw[ht,slL,Ax,List.getElem?_range hq];rfl
   rw[AO,Ae (by omega),BX]at this;show cur.getD q undef=_;rw[Cb,this];rfl
  ·have h2:=hS.g w2 (c2.mono fun b hb=> .inr (.inr hb));refine⟨h2,(Fx hb hs).same (c2.block R (BP.1 hb).1 fun hu=> ?_)⟩;exact absurd (hU _ hu) (Bb.2 hR)
 refine r [1] rfl fun _=>ix (vv (.pointer (some ⟨nd k,0,none⟩))) rfl rfl (acT nd aN) (r [] rfl fun _=>l1 rfl (.bool (nu k)) (fun w hS=>hS.now.1.1.2 k aN) ?_);refine r [1] rfl fun _=>so1 rfl 1 rfl _ (show 0+1+k*1<18 by omega) (fun i=>acU aN i) ?_;refine r [2] rfl fun _=>cx rfl (fun y:Nat×Nat×(Nat→Option Addr)×(Nat→Nat)=>vv (.slice (some ⟨y.1,0,none⟩) 4 y.2.1)) (fun y=>4≤y.2.1) (fun y w=>ma w y.1 4 (Bs k) y.2.2.1 y.2.2.2) (fun w1 hS=>(afX k aN _ w1 hS.ult (fun b hb h=> ?_) hS.now.2.1).mono ?_) ?_
 ·rcases h with h|h|h
  ·have h:b∈[α 0,β 0]:=h;simp only[List.mem_cons,List.not_mem_nil,or_false]at h;rcases h with rfl|rfl
   ·exact absurd hb (Bb.2 ((Mem.sr hS fun _ h=>h.1).jN 0 rfl))
   ·exact absurd hb (Bb.2 ((Mem.sr hS fun _ h=>h.1).jN 1 rfl))
  ·rcases hS.now.2.2.2 with⟨e,_⟩|⟨g,c,cu,e,hg,_⟩
   ·rw[e]at h;cases h
   ·rw[e]at h;cases h;exact absurd hb (Bb.2 hg)
  ·exact h
 ·rintro _ w7 ⟨Y8,c8,A8,K8,rfl,Hc,st,b⟩;exact⟨(Y8,c8,A8,K8),rfl,b,Hc,fun _=>st⟩
 rintro⟨Y8,c8,A8,K8⟩ Hc;have Hc:4≤c8:=Hc;refine r [] rfl fun _=>nJ 2 rfl DT (fun w hS=>hS.now.2.1.size) (fun _ _ h c=>cB h c (Ac _)) fun g c hc=>rz [1] [((k+1:Nat):Int)] rfl fun _=>gn 1 (Gr (iV (fn:Int)) (Cy nu (k+1)) pn pe (.slice (some ⟨g,0,none⟩) (k+1) c) (.slice sa sn sc) (.slice ta tn tc) (iV cs)) ?_;refine bJ (k+1,_,ak Y k Y8,ak C k c8,ak A k A8,ak K k K8) ⟨rfl,rfl,rfl,rfl,trivial⟩ (fun w hS=>((hS.take 2).said fun _ h=>⟨h.1.1,Xg h.1.2 h.2⟩).sr fun w h=>⟨h.1,by show w.ownsRow _ _ _ _ (k+1) (slL (ak Y k Y8) (ak C k c8) (k+1));rw[Tj];exact h.2⟩) ⟨(show k+1≤5 by omega),fun q hq=> ?_,rfl⟩ (show 5-(k+1)<5-k by omega);show 4≤ak C k c8 q;unfold ak;split
 ·exact Hc
 ·exact h4 q (by have hq:q<k+1:=hq;omega)
end
theorem sE:jI Tryz.prog 37 61 14 112=true:=by kernel_rfl
theorem aar{w:tA}{R T c sz n:Nat}{F:tD}{L:tM}(fb:bh w R T (c*sz) F)(hnc:n≤c)(hc:c≤maxLen)(hL:L.length=n*sz)(hF:∀j,j<n*sz→L[j]? =some (F j)):w.ownsRow 0 T sz (.slice (some ⟨R,0,none⟩) n c) n L:=by
 refine⟨hL,.inr ⟨R,c,(cE F 0 (c*sz)).toArray,rfl,Al _,fb,hnc,hc,by simp[bR], ?_⟩⟩;have hle:n*sz≤c*sz:=Nat.mul_le_mul_right _ hnc;apply BH;intro j;by_cases hj:j<n*sz
 ·rw[AO,Ae hj,hF j hj];show(cE F 0 (c*sz))[j]? =_;rw[bW _ _ _ _ (by omega),Aj]
 ·rw[AO,Aa hj,Be (by omega)]
theorem Tk{w:tA}{T sz n:Nat}{v:tK}{L:tM}(h:w.ownsRow 0 T sz v n L):(v= .slice none 0 0∧n=0∧L=[])∨∃R c F,v= .slice (some ⟨R,0,none⟩) n c∧bh w R T (c*sz) F∧n≤c∧c≤maxLen∧L.length=n*sz∧∀j,j<n*sz→L[j]? =some (F j):=by
 obtain⟨hl,⟨e1,e2⟩|⟨g,c,cur,e1,_,hb,hnc,hc,hs,ht⟩⟩:=h
 ·refine .inl ⟨e1,e2, ?_⟩;rw[e2,Nat.zero_mul]at hl;exact AU.1 hl
 ·refine .inr ⟨g,c,fun j=>cur.getD j undef,e1,Fx hb hs,hnc,hc,hl,fun j hj=> ?_⟩;have hle:n*sz≤c*sz:=Nat.mul_le_mul_right _ hnc;rw[←ht,AO,Ae hj,BX,Ck (by omega)];simp[show j<cur.size by omega]
theorem Cz{w:tA}{T sz n:Nat}{v:tK}{L:tM}(h:w.ownsRow 0 T sz v n L):∀g,v.ownBlock=some g→g<w.heap.size:=fun g hg=>by
 rcases Tk h with⟨rfl,_,_⟩|⟨R,c,F,rfl,fb,_⟩
 ·simp[Value.ownBlock]at hg
 ·simp only[Value.ownBlock,Option.some.injEq]at hg;exact hg▸fb.lt
theorem wM{a:tB}{l sz cap:Nat}(h:gO a l sz cap=none):a=none:=by
 unfold gO at h;split at h
 ·exact h
 ·simpa using h
theorem Tm{k:IntKind}{w:tA}{a:tB}{len cap n:Nat}{l:tG}(h:RowK k w a len l)(hn:n≤len)(hc:len≤cap):RowK k w (gO a n 1 cap) (len-n) (l.drop n):=by
 refine⟨by rw[AK,h.bP],fun u hu=>h.wf u (Bl hu),fun i hi=> ?_⟩;obtain⟨b,off,e,hb,hc'⟩:=h.cell (n+i) (by omega);refine⟨b,off+n, ?_,hb, ?_⟩
 ·unfold gO;rw[Aa (by omega),e];simp[Addr.add_mid]
 ·rw[BF,hc'];simp[List.getD_eq_getElem?_getD,List.getElem?_drop]
structure Lt where
 kd:Int
 fr:Int
 dst:Int
 q:Nat
 nu:Int
 op:Ev
 an:An
 pn:Int
 pe:Int
 ep:Int
 pl:Int
 es:List Ev
 la:Bool
abbrev lp(p:Nat):Value:= .pointer (some ⟨p,0,none⟩)
def Nn(l:Lt)(a:tB)(c:Nat):List Value:=[iV l.kd,iV l.fr,iV l.dst,iV (l.q:Int),iV l.nu,iV l.op.k,iV l.op.p,iV l.op.i,iV l.op.b,iV l.op.he,iV l.op.hn,iV l.an.c,iV l.an.he,iV l.an.no,iV l.an.bd,iV l.pn,iV l.pe,iV l.ep,iV l.pl,.slice a l.es.length c,.bool l.la]
structure eN(w:tA)(P:Nat)(l:Lt)(a:tB)(c:Nat):Prop where
 b:bh w P 147 21 (lF (Nn l a c))
 row:RowK .i64 w a (6*l.es.length) (au l.es)
 cap:l.es.length≤c
 nil:a=none→c=0
structure Lr where
 p:Nat
 l:Lt
 a:Option Addr
 c:Nat
abbrev oH(w:tA)(r:Lr):Prop:=eN w r.p r.l r.a r.c
structure Ji where
 nd:Int
 q:Int
 ep:Int
 op:Ev
 an:An
 nu:Int
def Jj(x:Ji):List Value:=[iV x.nd,iV x.q,iV x.ep,iV x.op.k,iV x.op.p,iV x.op.i,iV x.op.b,iV x.op.he,iV x.op.hn,iV x.an.c,iV x.an.he,iV x.an.no,iV x.an.bd,iV x.nu]
structure Tl where
 nu:Int
 an:An
 pn:Int
 pe:Int
def Lu(x:Tl):List Value:=[iV x.nu,iV x.an.c,iV x.an.he,iV x.an.no,iV x.an.bd,iV x.pn,iV x.pe]
structure Wv where
 nd:Nat→Nat
 tk:Value
 dd:Value
 pn:Nat→Int
 pe:Nat→Int
 fl:List Lr
 cs:Int
 sv:List Ji
 td:List Tl
structure WO(w:tA)(X:Nat)(v:Wv)(F:tF):Prop where
 ex:∃fl sv td,bh w X 103 19 (l_ v.nd v.pn v.pe [fl,v.tk,v.dd,iV v.cs,sv,td])∧w.ownsRow 0 148 1 fl v.fl.length (v.fl.map fun r=>lp r.p)∧w.ownsRow 0 61 14 sv v.sv.length (v.sv.flatMap Jj)∧w.ownsRow 0 65 7 td v.td.length (v.td.flatMap Lu)∧∀b,F b↔b=X∨fl.ownBlock=some b∨sv.ownBlock=some b∨td.ownBlock=some b
section
variable{w w':tA}{X:Nat}{v v':Wv}{F F' F0 T A:tF}
theorem WO.lt(h:WO w X v F):∀b,F b→b<w.heap.size:=fun b hb=>by
 obtain⟨fl,sv,td,fb,o1,o2,o3,hF⟩:=h.ex;rcases(hF b).1 hb with rfl|h|h|h
 ·exact fb.lt
 ·exact Cz o1 b h
 ·exact Cz o2 b h
 ·exact Cz o3 b h
theorem WO.still(h:WO w X v F)(hb:∀b,F b→w'.heap[b]? =w.heap[b]?):WO w' X v F:=by
 obtain⟨fl,sv,td,fb,o1,o2,o3,hF⟩:=h.ex;refine⟨fl,sv,td, ?_,aJ o1 (fun g hg _=>hb g ((hF g).2 (.inr (.inl hg)))),aJ o2 (fun g hg _=>hb g ((hF g).2 (.inr (.inr (.inl hg))))),aJ o3 (fun g hg _=>hb g ((hF g).2 (.inr (.inr (.inr hg))))),hF⟩;unfold bh at fb⊢;rw[←fb];exact hb X ((hF X).2 (.inl rfl))
theorem WO.Fu{U:tF}(h:WO w X v F)(c:dB U w w')(hU:∀b,U b→¬F b):WO w' X v F:=h.still fun b hb=>c.block b (h.lt b hb) fun hu=>hU b hu hb
theorem WO.next(h:WO w X v F)(b:bZ w w'):WO w' X v F:=h.still fun x hx=>b.block x (h.lt x hx)
structure RW(X:Nat)(A F0:tF)(w0:tA)(v:Wv)(F:tF)(x:tA):Prop where
 wo:WO x X v F
 mv:Mv (fun b=>F0 b∨A b) w0 (fun b=>F b∨A b) x
theorem Mem.init{H:List bX}{G:tJ}(hW:WO w X v F)(g_:∀e∈H,bh w e.a e.t e.n e.f)(oY:(H.map bX.a).Nodup)(off:∀e∈H,¬(F e.a∨T e.a))(hT:∀b,T b→b<w.heap.size)(g:cm (fun b=>b∈H.map bX.a∨F b∨T b) w G):Mem w H (fun b=>F b∨T b) G (RW X (fun b=>b∈H.map bX.a) F w v F):=by
 have hm:=Mem.begin (M:=fun b=>F b∨T b) g_ (Rw oY) off (fun b hb=>hb.elim (hW.lt b) (hT b)) g;refine⟨hm.g_,hm.oY,hm.off,hm.mlt,hm.g,fun w2 c2=>⟨hW.Fu c2 fun b hb hf=> ?_,c2.mono fun b hb=> .inr hb,fun b hb=> .inl hb,fun b hb=> ?_⟩⟩
 ·obtain⟨e,he,rfl⟩:=Ay.1 hb;exact off e he (.inl hf)
 ·rcases hb with hb|hb
  ·exact Am (hW.lt b hb) c2.size
  ·exact Am (hm.lt hb) c2.size
end
theorem RW.mv0{X:Nat}{F0 F:tF}{w0 x:tA}{v:Wv}(h:RW X (fun b=>b∈([]:List bX).map bX.a) F0 w0 v F x):Mv F0 w0 F x:=h.mv.less (fun b hb=>hb.elim id fun h=>by cases h) fun b hb=> .inl (.inl hb)
abbrev mB:Ev:=⟨0,0,0,0,0,0⟩
abbrev CA:An:=⟨0,0,0,0⟩
section
variable{P:tY}{ops:tP}{Q:tI}{V:tW}{fx fl:tW}{n:Nat}{f:tD}{w:tA}{i:Nat}{t:Ord}{o:Oper}{d:Nat}
theorem afY{s e sz lD b l:Nat}{x y:tU}{g:tD}{v:tK}{L:tM}(ht:jI P s e sz lD=true)(own:w.ownsRow 0 e sz v l L)(hl:(l+1)*lD≤140737488355328)(wI:l+1≤maxLen)(fb:bh w b e sz g)(hg:aW g sz)(PF:fx.contains i=true)(ho:ops[i]? =some o)(hd:o.dst=some d)(hw:Region.wanted o (yielded ops (ly n f))=true)(hK:jq n ops=true)(hp:o.op= .call ⟨.builtin .append,#[x,y],#[s,s]⟩)(hx:ev f x=v)(hy:ev f y= .slice (some ⟨b,0,none⟩) 1 1)
  (h:∀w' R' c',w'.ownsRow 0 e sz (.slice (some ⟨R',0,none⟩) (l+1) c') (l+1) (L++cE g 0 sz)→dB (fun b=>v.ownBlock=some b) w w'→(v.ownBlock=some R'∨w.heap.size≤R')→WF P ops Q V fx fl t n (up f d (.slice (some ⟨R',0,none⟩) (l+1) c')) w'):WF P ops Q V fx fl (.ef i t) n f w:=by
 obtain⟨hu,ti,z,hi,hz,hs,Dt,Mj,js⟩:=Eg ht
 obtain⟨g1,cap,w1,hr,ho1,hgr,hat,aN⟩:=run_append_lies (P:=P) w s o.type 0 e ti z sz lD hu hi hz hs Dt Mj js v l L own ⟨b,0,none⟩ 1 1 (cE g 0 sz) (by simp[bR]) (yr fb) (fun u hu=>by
  simp only[cE,List.mem_map,List.mem_range,Nat.zero_add]at hu;obtain⟨j,hj,rfl⟩:=hu;exact hg j hj) (by omega) wI hl (Al _) w.heap.size rfl
 refine o4 ho hd hw hK (sQ hp hx hy hr) (gq PF) (h w1 g1 cap ho1 ⟨hgr.os,hgr.tape,hgr.output,hgr.size,fun x hx fR=>hgr.block x hx fun e=>fR e.symm⟩ (hat.imp id fun e=>Cc e.symm))
theorem afZ{s e sz lD b l:Nat}{x y:tU}{g:tD}{v:tK}{L:tM}{H:List bX}{M:tF}{G R:tJ}(R2:tJ)(ht:jI P s e sz lD=true)(hS:Mem w H M G R)(own:w.ownsRow 0 e sz v l L)(hM:∀b,v.ownBlock=some b→M b)(h2:∀w' w2,dB (fun b=>v.ownBlock=some b) w w'→dB (fun b=>b∈H.map bX.a) w' w2→R2 w2)(hl:(l+1)*lD≤140737488355328)(wI:l+1≤maxLen)(fb:bh w b e sz g)(hg:aW g sz)(PF:fx.contains i=true)(ho:ops[i]? =some o)(hd:o.dst=some d)(hw:Region.wanted o (yielded ops (ly n f))=true)(hK:jq n ops=true)(hp:o.op= .call ⟨.builtin .append,#[x,y],#[s,s]⟩)(hx:ev f x=v)(hy:ev f y= .slice (some ⟨b,0,none⟩) 1 1)
  (h:∀w' R' c',Mem w' H M G (fun x=>x.ownsRow 0 e sz (.slice (some ⟨R',0,none⟩) (l+1) c') (l+1) (L++cE g 0 sz)∧R2 x)→(v.ownBlock=some R'∨w.heap.size≤R')→WF P ops Q V fx fl t n (up f d (.slice (some ⟨R',0,none⟩) (l+1) c')) w'):WF P ops Q V fx fl (.ef i t) n f w:=by
 refine afY ht own hl wI fb hg PF ho hd hw hK hp hx hy fun w' R' c' o1 c1 hR=>h w' R' c' ?_ hR;refine⟨fun e he=> ?_,hS.oY,hS.off,fun b hb=>Am (hS.mlt b hb) c1.size,fun w2 c2=>hS.g w2 ((c1.mono (V:=fun b=>b∈H.map bX.a∨M b) fun b hb=> .inr (hM b hb)).trans c2 fun _ _ h=>h),fun w2 c2=>⟨aJ o1 fun k hk aN=>c2.block k aN fun hm=> ?_,h2 w' w2 c1 c2⟩⟩
 ·have fb:=hS.g_ e he;unfold bh at fb⊢;rw[←fb];exact c1.block e.a (hS.g_ e he).lt fun hv=>hS.off e he (hM _ hv)
 ·simp only[Value.ownBlock,Option.some.injEq]at hk;subst hk;obtain⟨e,he,rfl⟩:=Ay.1 hm;rcases hR with hR|hR
  ·exact hS.off e he (hM _ hR)
  ·exact absurd (hS.g_ e he).lt (Bb.2 hR)
end
theorem WO.make{w w':tA}{X:Nat}{v v':Wv}{F:tF}{fl sv td Kc sv' td':tK}(fb:bh w X 103 19 (l_ v.nd v.pn v.pe [fl,v.tk,v.dd,iV v.cs,sv,td]))(hF:∀b,F b↔b=X∨fl.ownBlock=some b∨sv.ownBlock=some b∨td.ownBlock=some b)
  (c:dB F w w') (Zv:bh w' X 103 19 (l_ v'.nd v'.pn v'.pe [Kc,v'.tk,v'.dd,iV v'.cs,sv',td'])) (o1:w'.ownsRow 0 148 1 Kc v'.fl.length (v'.fl.map fun r=>lp r.p)) (o2:w'.ownsRow 0 61 14 sv' v'.sv.length (v'.sv.flatMap Jj)) (o3:w'.ownsRow 0 65 7 td' v'.td.length (v'.td.flatMap Lu))
  (h1:∀b,Kc.ownBlock=some b→F b∨w.heap.size≤b) (h2:∀b,sv'.ownBlock=some b→F b∨w.heap.size≤b) (h3:∀b,td'.ownBlock=some b→F b∨w.heap.size≤b):∃F',WO w' X v' F'∧Mv F w F' w'∧∀b,F' b↔b=X∨Kc.ownBlock=some b∨sv'.ownBlock=some b∨td'.ownBlock=some b:=by
 have hW:WO w' X v' (fun b=>b=X∨Kc.ownBlock=some b∨sv'.ownBlock=some b∨td'.ownBlock=some b):=⟨Kc,sv',td',Zv,o1,o2,o3,fun _=>Iff.rfl⟩;refine⟨_,hW,⟨c,fun b hb=> ?_,hW.lt⟩,fun _=>Iff.rfl⟩;rcases hb with rfl|hb|hb|hb
 ·exact .inl ((hF _).2 (.inl rfl))
 ·exact h1 b hb
 ·exact h2 b hb
 ·exact h3 b hb
theorem aat{w w':tA}{X P:Nat}{v':Wv}{F F' U:tF}{l:Lt}{a:tB}{c:Nat}(hU:∀b,U b→b<w.heap.size)(sf:∀b,F b→U b)(hr:cm U w fun w=>RowK .i64 w a (6*l.es.length) (au l.es))(hc:l.es.length≤c)(hn:a=none→c=0)(m:Mv F w F' w')(hP:w.heap.size≤P)(fb:bh w' P 147 21 (lF (Nn l a c)))(hW:WO w' X v' F'):cm (fun b=>U b∨F' b) w' fun w=>eN w P l a c:=by
 have hr':=hr.mv m sf;refine fun w2 c2=>⟨?_,hr' w2 c2,hc,hn⟩;have e:=c2.block P fb.lt fun h=> ?_
 ·unfold bh at fb⊢;rw[e,fb]
 ·rcases h with h|h
  ·exact absurd (hU P h) (Bb.2 hP)
  ·obtain⟨fl,sv,td,fx,o1,o2,o3,hF⟩:=hW.ex;rcases(hF P).1 h with rfl|h|h|h
   ·unfold bh at fb fx;rw[fb]at fx;cases fx
   ·exact aX o1 fb (by decide) P h rfl
   ·exact aX o2 fb (by decide) P h rfl
   ·exact aX o3 fb (by decide) P h rfl
theorem cm.hm{w:tA}{φ:tJ}{H:List bX}{F F' T:tF}(h:cm (fun b=>(b∈H.map bX.a∨F b∨T b)∨F' b) w φ):cm (fun b=>b∈H.map bX.a∨F' b∨T b) w φ:=h.mono fun b _ hb=>by
 rcases hb with hb|hb|hb
 ·exact .inl (.inl hb)
 ·exact .inr hb
 ·exact .inl (.inr (.inr hb))
structure Mg where
 B:Bt
 a:Option Addr
 c:Nat
 g:Nat→Value
abbrev jj(m:Mg):Nat→Value:=mF m.B.r m.B.e m.B.f m.B.t m.B.o (.slice m.a m.B.es.length m.c) m.g
abbrev oI(w:tA)(m:Mg):Prop:=ki w m.B m.a m.c m.g
theorem aav(m:Nat→Mg)(q:Nat)(x:Mg):ak (fun p=>jj (m p)) q (jj x)=fun p=>jj (ak m q x p):=by
 funext p;unfold ak;split<;>rfl
inductive Af where
 |serve (l:Lt) (an:An)
 |begin (l:Lt) (B:Bt)
 |shut (l:Lt) (B:Bt)
 |take (l:Lt) (B:Bt)
 |fA (q:Nat) (B:Bt)
structure Ad where
 c0:Nat
 c1:Nat
 c2:Nat
 c3:Nat
 p:Nat
 a:Option Addr
 c:Nat
 m:Mg
structure Nv where
 i:Nat
 ub:Bool
 da:Option Addr
 dc:Nat
 dl:List Int
 sy:Int
 m:Nat→Mg
 hn:Nat→Int
 he:Nat→Int
 wt:Value
 wl:List Lr
 af:Value
 ax:Option Af
 ad:Ad
 tu:Nat
 ct:Nat
 sk:Bool
abbrev mC(X:Nat)(u:Nv):Nat→Value:=kW [.pointer (some ⟨X,0,none⟩),iV (u.i:Int),.bool u.ub,.slice u.da u.dl.length u.dc,iV u.sy] (gj (fun p=>jj (u.m p)) u.hn u.he u.wt u.af (u.tu:Int)) [iV (u.ct:Int),.bool u.sk]
abbrev NB(w:tA)(X N:Nat)(u:Nv):Prop:=bh w N 123 206 (mC X u)
theorem Y1{hd tl:tM}{mo:tT}{hn he:tH}{wt af:tK}{tu:Int}{q:Nat}(hq:q<4):kW hd (gj mo hn he wt af tu) tl (193+q*2)=iV (hn q):=by
 rw[show 193+q*2=5+(188+q*2) by omega,EW (by omega),acO hq]
theorem Np{hd tl:tM}{mo:tT}{hn he:tH}{wt af:tK}{tu:Int}{q:Nat}(hq:q<4):kW hd (gj mo hn he wt af tu) tl (193+q*2+1)=iV (he q):=by
 rw[show 193+q*2+1=5+(188+q*2+1) by omega,EW (by omega),acP hq]
theorem acV{hd tl:tM}{mo:tT}{hn he:tH}{wt af:tK}{tu:Int}{q j:Nat}(hq:q<4)(hj:j<2):kW hd (gj mo hn he wt af tu) tl (193+q*2+j)=lF [iV (hn q),iV (he q)] j:=by
 obtain rfl|rfl:j=0∨j=1:=by omega
 ·exact Y1 hq
 ·exact Np hq
section
variable{w:tA}{X:Nat}{v:Wv}{F:tF}
theorem WO.pl(h:WO w X v F){q j:Nat}(hq:q<4)(hj:j<2):w.cell? ⟨X,5+q*2+j,none⟩=some (lF [iV (v.pn q),iV (v.pe q)] j):=by
 obtain⟨fl,sv,td,fb,_⟩:=h.ex;rw[fb.at _ (by omega),BF,Nj (by omega)];obtain rfl|rfl|rfl|rfl:q=0∨q=1∨q=2∨q=3:=by omega
 all_goals(obtain rfl|rfl:j=0∨j=1:=by omega)
 all_goals rfl
theorem WO.dir(h:WO w X v F){j:Nat}(hj:j<8):w.cell? ⟨X,5+j,none⟩=some (lF [iV (v.pn 0),iV (v.pe 0),iV (v.pn 1),iV (v.pe 1),iV (v.pn 2),iV (v.pe 2),iV (v.pn 3),iV (v.pe 3)] j):=by
 obtain⟨fl,sv,td,fb,_⟩:=h.ex;rw[fb.at _ (by omega),Nj hj]
theorem WO.cs_(h:WO w X v F):w.cell? ⟨X,16,none⟩=some (iV v.cs):=by
 obtain⟨fl,sv,td,fb,_⟩:=h.ex;exact fb.at 16 (by decide)
theorem WO.nd_(h:WO w X v F){k:Nat}(hk:k<5):w.cell? ⟨X,k,none⟩=some (lp (v.nd k)):=by
 obtain⟨fl,sv,td,fb,_⟩:=h.ex;rw[fb.at _ (by omega),S_ hk]
theorem WO.tk_(h:WO w X v F):w.cell? ⟨X,14,none⟩=some v.tk:=by
 obtain⟨fl,sv,td,fb,_⟩:=h.ex;exact fb.at 14 (by decide)
theorem WO.dd_(h:WO w X v F):w.cell? ⟨X,15,none⟩=some v.dd:=by
 obtain⟨fl,sv,td,fb,_⟩:=h.ex;exact fb.at 15 (by decide)
end
theorem Mem.To{w w0:tA}{H:List bX}{M A F0 F:tF}{Γ:tJ}{X:Nat}{v:Wv}(h:Mem w H M Γ (RW X A F0 w0 v F)):∀b∈H.map bX.a,(F0 b∨A b)∨w0.heap.size≤b:=by
 intro b hb;refine Classical.byContradiction fun hn=> ?_;have aN:=h.lt hb;have vR:b<w0.heap.size:=Nat.lt_of_not_le fun k=>hn (.inr k);have key:∀B,w0.heap[b]? =some B:=fun B=>by
  have c:dB (fun b=>b∈H.map bX.a) w {w with heap:=w.heap.set b B aN}:=⟨rfl,rfl,rfl,by simp,fun z hz vU=>by
   have fR:b≠z:=fun e=>vU (e▸hb)
   simp[fR]⟩
  rw[←(h.r _ c).mv.c.block b vR (fun k=>hn (.inl k))];simp
 have:=(key (.cells #[] 0 (0,0))).symm.trans (key (.cells #[] 1 (0,0)));simp at this
namespace Rv
section
variable{n:Nat}{ops:tP}{f:Nat→AV}{fn:Func}{Rr:Ending→World→Prop}{Φ:tJ}{H:List En}{ks:List Fr}{t:Ord}{i d:Nat}{md:Md}
theorem cw{Y:Type}{X:Nat}{A F0 F T:tF}{w0:tA}{v:Wv}{g:Nat}{al:List AV}(e:Ru n ops f i=some (d,g,al))(a:AV)(v':Y→Wv)(φ:Y→World→Prop)(hc:∀w,Mem w (hs H) (fun b=>F b∨T b) Φ (RW X A F0 w0 v F)→cA g (al.map AV.val).toArray w fun x w'=>x= .returned a.val∧∃y F',WO w' X (v' y) F'∧Mv F w F' w'∧cm (fun b=>(b∈(hs H).map bX.a∨F b∨T b)∨F' b) w' (φ y))(hn:∀y F',G Tryz.prog fn Rr n (fun b=>F' b∨T b) (fun w=>Φ w∧φ y w) (RW X A F0 w0 (v' y) F') (.g md ops t::ks) (ua f d a) H)(hA:∀b,A b→b∈(hs H).map bX.a:=by(intro b h;exact BI.2 ((BI.1 h).imp id fun h=>by cases h)))(hm:(md.cb||md.vs.contains i)=false:=by rfl)(he:iS Tryz.prog g=true:=by kernel_rfl):G Tryz.prog fn Rr n (fun b=>F b∨T b) Φ (RW X A F0 w0 v F) (.g md ops (.ef i t)::ks) f H:=
 mG e he fun w hS=>(hc w hS).mono fun _ w' ⟨h1,y,F',hW,m,s⟩=>by
  refine⟨a,H,_,_,_,h1,.inl hm,Mem.add ?_ s.hm,hn y F'⟩;have m1:=hS.now.2.mv.trans (m.with fun b hb=>hS.lt (hA b hb));refine hS.mv m fun w2 c2=>⟨hW.Fu c2 fun b hb hf=> ?_,m1.c.trans c2 fun b hb hv=>(hS.To b hv).elim id fun x=>absurd hb (Bb.2 x),m1.f,fun b hb=>Am (m1.l b hb) c2.size⟩;obtain⟨e,he,rfl⟩:=Ay.1 hb;rcases m.f _ hf with hf|hf
  ·exact hS.off e he (.inl hf)
  ·exact absurd (hS.g_ e he).lt (Bb.2 hf)
end
end Rv
structure Nd where
 i:Nat
 up:Bool
 dl:List Int
 sy:Int
 mo:Nat→Bt
 hn:Nat→Int
 he:Nat→Int
 wt:List Lt
 af:Option Af
 tu:Nat
 ct:Nat
 sk:Bool
structure Ws where
 pn:Nat→Int
 pe:Nat→Int
 fl:List Lt
 cs:Int
 sv:List Ji
 td:List Tl
abbrev Nv.pure(u:Nv):Nd:=⟨u.i,u.ub,u.dl,u.sy,fun q=>(u.m q).B,u.hn,u.he,u.wl.map Lr.l,u.ax,u.tu,u.ct,u.sk⟩
abbrev Wv.pure(v:Wv):Ws:=⟨v.pn,v.pe,v.fl.map Lr.l,v.cs,v.sv,v.td⟩
abbrev gT(nu:Int)(an:An)(pn pe:Int):Lt:=⟨1,0,0,0,nu,mB,an,pn,pe,0,0,[],false⟩
abbrev vl(i:Nat)(B:Bt)(q:Nat):Lt:=⟨3,i,B.f,q,0,mB,CA,0,0,B.e,B.es.length,[],false⟩
abbrev iK(fr:Int)(q:Nat)(pn pe:Int):Lt:=⟨7,0,fr,q,0,mB,CA,pn,pe,0,0,[],false⟩
abbrev vm(nd:Int)(q:Nat)(nu:Int)(op:Ev):Lt:=⟨0,0,nd,q,nu,op,CA,0,0,0,0,[],false⟩
abbrev Nq(i:Nat)(B:Bt)(q:Nat)(hv:Int)(es:List Ev)(la:Bool):Lt:=⟨4,i,B.t,q,0,mB,CA,0,0,B.e+1,hv,es,la⟩
abbrev Jk(i:Nat)(B:Bt)(q:Nat):Lt:=⟨2,i,B.t,q,0,mB,CA,0,0,B.e+1,0,[],false⟩
abbrev Tp(i q:Nat):Lt:=⟨6,i,0,q,0,mB,CA,0,0,0,0,[],false⟩
abbrev Lv(i:Nat)(B:Bt)(q:Nat):Lt:=⟨5,i,0,q,0,mB,CA,0,0,B.e,0,[],false⟩
theorem PG{B B1 B2:Bt}{v:Ev}{a1 a2:An}{c1 c2:Bool}{e1 e2:Int}(x:cY B v B1 a1 c1 e1)(y:cY B v B2 a2 c2 e2):B1=B2∧a1=a2∧c1=c2∧e1=e2:=by
 have one:∀{s1 s2 t1 t2:St} {n1 n2:List An} {b1 b2:An} {d1 d2:Bool},bz B.es s1 n1→bz B.es s2 n2→Step s1 v t1 b1 d1→Step s2 v t2 b2 d2→b1=b2∧d1=d2:=by
  intro s1 s2 t1 t2 n1 n2 b1 b2 d1 d2 h1 h2 k1 k2;obtain⟨rfl,_⟩:=h1.one h2;obtain⟨_,e1,e2⟩:=Step.Wb h1.wf k1 k2;exact⟨e1,e2⟩
 cases x<;>cases y
 all_goals try unfold Ev.Ok at*
 all_goals first
  |exact⟨rfl,rfl,rfl,rfl⟩
  |(refine⟨rfl,rfl,rfl, ?_⟩;omega)
  |contradiction
  |(exfalso;omega)
  |(rename_i h1 N7 Xh uR s1 n1 ht1 t1 st1 h2 hv2 xJ hr2 s2 n2 Dv t2 st2;obtain⟨rfl,_⟩:=one ht1 Dv st1 st2;exact⟨rfl,rfl,rfl,rfl⟩)
  |(rename_i h1 N7 Xh uR s1 n1 ht1 t1 hl1 st1 h2 hv2 xJ hr2 s2 n2 Dv t2 wI st2;obtain⟨rfl,_⟩:=one ht1 Dv st1 st2;exact⟨rfl,rfl,rfl,rfl⟩)
  |(rename_i h1 N7 Xh uR s1 n1 ht1 t1 st1 h2 hv2 xJ hr2 s2 n2 Dv t2 a2 st2 wI;cases(one ht1 Dv st1 st2).2)
  |(rename_i h1 N7 Xh uR s1 n1 ht1 t1 st1 h2 hv2 xJ hr2 s2 n2 Dv t2 wI st2;cases(one ht1 Dv st1 st2).2)
  |(rename_i h1 N7 Xh uR s1 n1 ht1 t1 a1 st1 hl1 h2 hv2 xJ hr2 s2 n2 Dv t2 st2;cases(one ht1 Dv st1 st2).2)
  |(rename_i h1 N7 Xh uR s1 n1 ht1 t1 hl1 st1 h2 hv2 xJ hr2 s2 n2 Dv t2 st2;cases(one ht1 Dv st1 st2).2)
open Classical in
noncomputable def bD(B:Bt)(v:Ev):Bt×An×Bool×Int:=if h:∃x:Bt×An×Bool×Int,cY B v x.1 x.2.1 x.2.2.1 x.2.2.2 then h.choose else(B,CA,false,0)
theorem eV{B B':Bt}{v:Ev}{an:An}{k:Bool}{er:Int}(h:cY B v B' an k er):bD B v=(B',an,k,er):=by
 have hx:∃x:Bt×An×Bool×Int,cY B v x.1 x.2.1 x.2.2.1 x.2.2.2:=⟨(B',an,k,er),h⟩;unfold bD;rw[dif_pos hx];obtain⟨e1,e2,e3,e4⟩:=PG hx.choose_spec h;exact Prod.ext e1 (Prod.ext e2 (Prod.ext e3 e4))
def e_(s:Ws)(l:Lt):Ws:={s with fl:=s.fl++[l]}
def qC(s:Ws)(n:Nd)(q:Nat)(e:Ev)(an:An)(nu:Int):Ws:={s with sv:=s.sv++[⟨n.i,q,(n.mo q).e,e,an,nu⟩]}
def dN(n:Nd)(s:Ws)(l:Lt)(an:An):Ws:=e_ (qC s n l.q l.op an l.nu) (gT l.nu an (-1) 0)
def oJ(n:Nd)(s:Ws)(q:Nat):Ws:=e_ s (vl n.i (n.mo q) q)
noncomputable def iE(n:Nd)(s:Ws)(q:Nat)(hv:Int):Ws:=if(partOf (n.mo q) hv).2.2=0 then e_ s (Nq n.i (n.mo q) q hv (partOf (n.mo q) hv).1 (partOf (n.mo q) hv).2.1)else s
open Classical in
noncomputable def dI(s:Ws)(l:Lt):Ws:=if bN s.pn s.pe∧¬s.pn l.q= -1∧wm (s.pn l.q) (s.pe l.q) (l.ep-1) l.fr=0 then {s with pn:=bw s.pn l.q l.fr,pe:=bw s.pe l.q (s.pe l.q+1)}else s
def ko(s:Ws)(l:Lt):Ws:=e_ s (iK l.fr l.q (s.pn l.q) (s.pe l.q))
def lC(n:Nd)(a:Af)(rs:List Rec):Option Nd:=if n.dl.length+(cp rs).length≤100000 then some {n with dl:=n.dl++cp rs,af:=some a}else none
noncomputable def gD(n:Nd)(s:Ws)(l:Lt):Nd×Ws:=
 if ¬((n.mo l.q).r=1∨(n.mo l.q).r=2)then(n,e_ s (gT l.nu (bD (n.mo l.q) l.op).2.1 (n.hn l.q) (n.he l.q)))
 else if(bD (n.mo l.q) l.op).2.2.1=false then(n,dN n s l (bD (n.mo l.q) l.op).2.1)
 else match lC n (.serve l (bD (n.mo l.q) l.op).2.1) [⟨2,l.q,(n.mo l.q).e,0,l.op⟩]with
  |some n'=>(n',s)
  |none=>(n,dN n s l ⟨14,0,0,0⟩)
noncomputable def gE(n:Nd)(s:Ws)(l:Lt):Nd×Ws:=
 if ¬(aP (n.mo l.q) l.ep l.fr).2=0 then(n,s)
 else if(aP (n.mo l.q) l.ep l.fr).1.e=(n.mo l.q).e then(n,oJ n s l.q)
 else((lC n (.begin l (aP (n.mo l.q) l.ep l.fr).1) [⟨4,l.q,l.ep,l.fr,mB⟩]).getD n,s)
noncomputable def fj(n:Nd)(s:Ws)(l:Lt):Nd×Ws:=
 if ¬(n.mo l.q).t=l.fr∨¬(n.mo l.q).e+1=l.ep then(n,s)
 else if ¬(aL (n.mo l.q) l.pl).2=0 then(n,s)
 else if(aL (n.mo l.q) l.pl).1.r=(n.mo l.q).r then({n with mo:=ak n.mo l.q (aL (n.mo l.q) l.pl).1},iE {n with mo:=ak n.mo l.q (aL (n.mo l.q) l.pl).1} s l.q l.pl)
 else((lC n (.shut l (aL (n.mo l.q) l.pl).1) [⟨3,l.q,(n.mo l.q).e,(n.mo l.q).t,mB⟩]).getD n,s)
def dz(q:Nat)(B:Bt)(k:Nat):List Rec:=
 if B.r=1 then((B.es.drop k).dropLast.map fun e=>(⟨5,q,B.e,0,e⟩:Rec))++[⟨6,q,B.e,0,mB⟩]else(B.es.drop k).map fun e=>(⟨5,q,B.e,0,e⟩:Rec)
noncomputable def takeN(n:Nd)(s:Ws)(l:Lt):Nd×Ws:=
 if ¬(a_ (n.mo l.q) l.ep l.pl l.es l.la).2=0 then(n,s)
 else if(a_ (n.mo l.q) l.ep l.pl l.es l.la).1.es.length=(n.mo l.q).es.length then(n,s)
 else((lC n (.take l (a_ (n.mo l.q) l.ep l.pl l.es l.la).1) (dz l.q (a_ (n.mo l.q) l.ep l.pl l.es l.la).1 (n.mo l.q).es.length)).getD n,s)
def cV(n:Nd)(l:Lt):Nd:=if n.he l.q<l.pe then {n with hn:=ak n.hn l.q l.pn,he:=ak n.he l.q l.pe}else n
noncomputable def gF(n:Nd)(s:Ws)(l:Lt):Nd×Ws:=
 if(bp (n.mo l.q) l.pe).2=0 then((lC (cV n l) (.fA l.q (bp (n.mo l.q) l.pe).1) [⟨7,l.q,(bp (n.mo l.q) l.pe).1.e,0,mB⟩]).getD (cV n l),s)else(cV n l,s)
noncomputable def fm(n:Nd)(s:Ws):Af→Nd×Ws
 | .serve l an=>({n with mo:=ak n.mo l.q (bD (n.mo l.q) l.op).1},dN {n with mo:=ak n.mo l.q (bD (n.mo l.q) l.op).1} s l an)
 | .begin l B=>({n with mo:=ak n.mo l.q B},oJ {n with mo:=ak n.mo l.q B} s l.q)
 | .shut l B=>({n with mo:=ak n.mo l.q B},iE {n with mo:=ak n.mo l.q B} s l.q l.pl)
 | .take l B=>({n with mo:=ak n.mo l.q B},if B.r=1 then qC s {n with mo:=ak n.mo l.q B} l.q Ev.brk CA (-1)else oJ {n with mo:=ak n.mo l.q B} s l.q)
 | .fA q B=>({n with mo:=ak n.mo q B},s)
abbrev anL(an:An):List Value:=[iV an.c,iV an.he,iV an.no,iV an.bd]
def aaw(w:tA)(N:Nat)(af:tK)(d:Ad):Option Af→Prop
 |none=>af= .nilFunc
 |some (.serve l an)=>af= .func (.func 92) #[] #[lp d.c0,lp d.c1,lp d.c2,lp d.c3]∧bh w d.c0 98 1 (fun _=>lp N)∧bh w d.c1 3 1 (fun _=>iV (l.q:Int))∧bh w d.c2 148 1 (fun _=>lp d.p)∧bh w d.c3 59 4 (lF (anL an))∧eN w d.p l d.a d.c
 |some (.begin l B)=>af= .func (.func 96) #[] #[lp d.c0,lp d.c1,lp d.c2]∧bh w d.c0 114 47 (jj d.m)∧bh w d.c1 98 1 (fun _=>lp N)∧bh w d.c2 148 1 (fun _=>lp d.p)∧eN w d.p l d.a d.c∧oI w d.m∧d.m.B=B
 |some (.shut l B)=>af= .func (.func 98) #[] #[lp d.c0,lp d.c1,lp d.c2]∧bh w d.c0 114 47 (jj d.m)∧bh w d.c1 98 1 (fun _=>lp N)∧bh w d.c2 148 1 (fun _=>lp d.p)∧eN w d.p l d.a d.c∧oI w d.m∧d.m.B=B
 |some (.take l B)=>af= .func (.func 102) #[] #[lp d.c0,lp d.c1,lp d.c2]∧bh w d.c2 114 47 (jj d.m)∧bh w d.c0 98 1 (fun _=>lp N)∧bh w d.c1 148 1 (fun _=>lp d.p)∧eN w d.p l d.a d.c∧oI w d.m∧d.m.B=B
 |some (.fA q B)=>af= .func (.func 105) #[] #[lp d.c0,lp d.c1,lp d.c2]∧bh w d.c0 114 47 (jj d.m)∧bh w d.c1 98 1 (fun _=>lp N)∧bh w d.c2 3 1 (fun _=>iV (q:Int))∧oI w d.m∧d.m.B=B
structure Nv.In(w:tA)(N:Nat)(u:Nv):Prop where
 row:RowK .u8 w u.da u.dl.length u.dl
 mo:∀q,q<4→oI w (u.m q)
 af:aaw w N u.af u.ad u.ax
 wl:∀r∈u.wl,oH w r
def acW:Option Af→Prop
 |none=>True
 |some (.serve l _)=>l.q<4∧∀x∈bf l.op,(Lit.int .i64 x).wf=true
 |some (.begin l B)=>l.q<4∧B.Ok
 |some (.shut l B)=>l.q<4∧B.Ok
 |some (.take l B)=>l.q<4∧B.Ok
 |some (.fA q B)=>q<4∧B.Ok
structure Nv.Ok(u:Nv):Prop where
 ok:∀q,q<4→(u.m q).B.Ok
 nil:u.da=none→u.dc=0
 cap:u.dl.length≤u.dc
 max:u.dc≤9223372036854775807
 len:u.dl.length≤100000
 s0:0≤u.sy
 s1:u.sy≤u.dl.length
 i5:u.i<5
 Tq:acW u.ax
structure NW(w:tA)(X N:Nat)(u:Nv)(v:Wv)(F U:tF):Prop where
 nb:NB w X N u
 wo:WO w X v F
 nf:¬F N
 ub:∀b,U b→b<w.heap.size
 fu:∀b,F b→U b
 nu:U N
 ok:u.Ok
 st:cm U w fun w=>u.In w N∧∀r∈v.fl,oH w r
structure Dn(w:tA)(X N:Nat)(u:Nv)(v:Wv)(F U:tF)(r:Nd×Ws)(u':Nv)(v':Wv)(F':tF)(w':tA):Prop where
 nw:NW w' X N u' v' F' (fun b=>U b∨F' b)
 mv:Mv (fun b=>F b∨b=N) w (fun b=>F' b∨b=N) w'
 wt:u'.wt=u.wt
 wl:u'.wl=u.wl
 nd:v'.nd=v.nd
 tk:v'.tk=v.tk
 dd:v'.dd=v.dd
 n:u'.pure=r.1
 s:v'.pure=r.2
namespace Rv
abbrev nE(X N:Nat)(u:Nv):En:=⟨N,123,[.f 206 (mC X u)]⟩
abbrev npE(a j N:Nat):En:=⟨a,98,[.p j 0 N]⟩
abbrev lpE(a P:Nat):En:=⟨a,148,[.o (lp P)]⟩
abbrev mgE(a:Nat)(m:Mg):En:=⟨a,114,[.f 47 (jj m)]⟩
abbrev moE(a:Nat)(B:Bt)(b:tB)(c:Nat)(g:tD):En:=⟨a,114,qa B b c g⟩
end Rv
theorem WO.i0{w:tA}{X:Nat}{v:Wv}{F:tF}{G:tJ}(hW:WO w X v F)(g:cm F w G):Mem w [] (fun b=>F b∨False) G (RW X (fun b=>b∈([]:List bX).map bX.a) F w v F):=
 Mem.init hW (fun e he=>by cases he) List.nodup_nil (fun e he=>by cases he) (fun b h=>h.elim) fun w2 c=>g w2 (c.mono fun b h=>h.elim (fun h=>by cases h) (fun h=>h.elim id False.elim))
theorem Mem.aax{w w0:tA}{H:List bX}{M P:tF}{Γ R:tJ}(h:Mem w H M Γ R)(hR:∀w,R w→dB P w0 w):∀b∈H.map bX.a,P b∨w0.heap.size≤b:=by
 intro b hb;refine Classical.byContradiction fun hn=> ?_;have aN:=h.lt hb;have vR:b<w0.heap.size:=Nat.lt_of_not_le fun k=>hn (.inr k);have key:∀B,w0.heap[b]? =some B:=fun B=>by
  have c:dB (fun b=>b∈H.map bX.a) w {w with heap:=w.heap.set b B aN}:=⟨rfl,rfl,rfl,by simp,fun z hz vU=>by
   have fR:b≠z:=fun e=>vU (e▸hb)
   simp[fR]⟩
  rw[←(hR _ (h.r _ c)).block b vR (fun k=>hn (.inl k))];simp
 have:=(key (.cells #[] 0 (0,0))).symm.trans (key (.cells #[] 1 (0,0)));simp at this
theorem Mem.call2{w w0 w':tA}{H:List bX}{A F0 F T F':tF}{G:tJ}{X:Nat}{v v':Wv}(h:Mem w H (fun b=>F b∨T b) G (RW X A F0 w0 v F))(hW:WO w' X v' F')(m:Mv F w F' w')(hA:∀b,A b→b∈H.map bX.a):Mem w' H (fun b=>F' b∨T b) G (RW X A F0 w0 v' F'):=by
 have m1:=h.now.2.mv.trans (m.with fun b hb=>h.lt (hA b hb));refine h.mv m fun w2 c2=>⟨hW.Fu c2 fun b hb hf=> ?_,m1.c.trans c2 fun b hb hv=>(h.To b hv).elim id fun x=>absurd hb (Bb.2 x),m1.f,fun b hb=>Am (m1.l b hb) c2.size⟩;obtain⟨e,he,rfl⟩:=Ay.1 hb;rcases m.f _ hf with hf|hf
 ·exact h.off e he (.inl hf)
 ·exact absurd (h.g_ e he).lt (Bb.2 hf)
theorem bh.open{w:tA}{X t c:Nat}{g:tD}{U:tF}{G:tJ}(fb:bh w X t c g)(hU:∀b,U b→b<w.heap.size)(hX:U X)(hG:cm U w G):Mem w [⟨X,t,c,g⟩] (fun b=>U b∧b≠X) G (fun w'=>dB (fun b=>b∈[X]) w w'):=
 Mem.begin (fun e he=>by cases Ab.1 he;exact fb) (BN _ _) (fun e he=>by cases Ab.1 he;exact fun h=>h.2 rfl) (fun b hb=>hU b hb.1) fun w2 c=>hG w2 (c.mono fun b h=>h.elim (fun h=>by cases Ab.1 h;exact hX) fun h=>h.1)
theorem oK{w w':tA}{X e e' t sz sz' n n' m:Nat}{v v':tK}{xs xs':tM}{g:tD}(o:w.ownsRow 0 e sz v n xs)(o':w.ownsRow 0 e' sz' v' n' xs')(fb:bh w X t m g)(c:dB (fun b=>b=X∨v'.ownBlock=some b) w w')(h1:e≠t:=by decide)(h2:e'≠e:=by decide):w'.ownsRow 0 e sz v n xs:=
 aJ o fun g hg hl=>c.block g hl fun h=>h.elim (fun k=>aX o fb h1 g hg k) fun h=>jv o' o h2 g h hg
namespace Rv
section
variable{n:Nat}{ops:tP}{f:Nat→AV}{fn:Func}{Rr:Ending→World→Prop}{Φ:tJ}{H:List En}{ks:List Fr}{t:Ord}{i d:Nat}{md:Md}
theorem am{X s e sz lD b l tX nX:Nat}{gX:tD}{x y:AV}{v:tK}{L:tM}{w0:tA}{en:En}{U:tF}(j:Nat)(he:nth H j=some en)(own:w0.ownsRow 0 e sz v l L)(fb:bh w0 X tX nX gX)(hv:∀b,v.ownBlock=some b→U b)(h1:Rz n ops f i=some (d,s,x,y))(ht:jI Tryz.prog s e sz lD=true)(hl:(l+1)*lD≤140737488355328)(wI:l+1≤maxLen)(N9:aW (cy en.l) sz)(hn:∀g c,(v.ownBlock=some g∨w0.heap.size≤g)→(∀b∈(hs H).map bX.a,b∈[X]∨w0.heap.size≤b)→G Tryz.prog fn Rr n (fun b=>U b∧b≠X) Φ (fun x=>x.ownsRow 0 e sz (.slice (some ⟨g,0,none⟩) (l+1) c) (l+1) (L++cE (cy en.l) 0 sz)∧dB (fun b=>b=X∨v.ownBlock=some b) w0 x) (.g md ops t::ks) (ua f d (vv (.slice (some ⟨g,0,none⟩) (l+1) c))) H)(fR:e≠tX:=by decide)(hx:x.val=v:=by rfl)(hy:y.val= .slice (some ⟨b,0,none⟩) 1 1:=by rfl)(het:en.t=e:=by rfl)(js:eX en.l=sz:=by rfl)(ha:en.a=b:=by rfl)(Rs:md.vs.contains i=false:=by rfl):G Tryz.prog fn Rr n (fun b=>U b∧b≠X) Φ (fun w'=>dB (fun b=>b∈[X]) w0 w') (.g md ops (.ef i t)::ks) f H:=by
 intro w hS hK;obtain⟨hK1,iC⟩:=bt.1 hK;show WF Tryz.prog ops (kq Tryz.prog fn Rr ks) md.va (o7 md ops) (vQ md ops) (.ef i t) n (cn f) w;obtain⟨o,p,r,ho,hd,hw,hp,rfl,rfl⟩:=yU h1
 have Ho:(o7 md ops).contains i=true:=lE ho (by
  unfold nW;rw[Rs,hp]
  cases md.cb<;>rfl)
 have VH:=vV hS j he;rw[ha,het,js]at VH;have lG:=aX own fb fR;have z:=hS.now.2.size;refine afZ (fun x=>dB (fun b=>b=X∨v.ownBlock=some b) w0 x) ht hS (aJ own fun g hg hl=>hS.now.2.block g hl fun hm=>lG g hg (Ab.1 hm)) (fun b hb=>⟨hv b hb,lG b hb⟩) (fun w1 w2 c1 c2=> ?_) hl wI VH N9 Ho ho hd (fF hw) (dU hK1).1 hp ((bC f p).symm.trans hx) ((bC f r).symm.trans hy) fun w' R' c' DB hR=> ?_
 ·refine((hS.now.2.mono (V:=fun b=>b=X∨v.ownBlock=some b) fun b hb=> .inl (Ab.1 hb)).trans c1 fun b _ hb=> .inr hb).trans c2 fun b hb hm=> ?_;exact(hS.aax (fun _ h=>h) b hm).elim (fun h=> .inl (Ab.1 h)) fun h=>absurd hb (Bb.2 h)
 ·have:=hn R' c' (hR.imp id fun h=>AN z h) (hS.aax fun _ h=>h) w' DB (bt.2 ⟨hK1,iC⟩);rw[jK]at this;exact this
theorem Ts{s:Nat}{x y:AV}(h:Vj n ops f i=some (s,x,y)):∃o p r,ops[i]? =some o∧o.dst=none∧sS n ops f o=some true∧o.op= .store s p r∧x=ea f p∧y=ea f r:=by
 unfold Vj at h;split at h
 ·rename_i o ho;split at h
  ·rename_i s' p r hd hw hp;simp only[Option.some.injEq,Prod.mk.injEq]at h;obtain⟨rfl,rfl,rfl⟩:=h;exact⟨o,p,r,ho,hd,hw,hp,rfl,rfl⟩
  ·cases h
 ·cases h
theorem wc{X s:Nat}{A F0 F T:tF}{w0:tA}{v:Wv}{x y:AV}(c:Int)(h1:Vj n ops f i=some (s,x,y))(hn:G Tryz.prog fn Rr n (fun b=>F b∨T b) Φ (RW X A F0 w0 {v with cs:=c} F) (.g md ops t::ks) f H)(hA:∀b,A b→b∈(hs H).map bX.a)(hx:x.val= .pointer (some ⟨X,16,none⟩):=by rfl)(hy:y.val=iV c:=by rfl)(RB:pT Tryz.prog s=true:=by kernel_rfl)(Rs:md.vs.contains i=false:=by rfl):G Tryz.prog fn Rr n (fun b=>F b∨T b) Φ (RW X A F0 w0 v F) (.g md ops (.ef i t)::ks) f H:=by
 intro w hS hK;obtain⟨hK1,iC⟩:=bt.1 hK;show WF Tryz.prog ops (kq Tryz.prog fn Rr ks) md.va (o7 md ops) (vQ md ops) (.ef i t) n (cn f) w;obtain⟨o,p,r,ho,hd,hw,hp,rfl,rfl⟩:=Ts h1
 have Ho:(o7 md ops).contains i=true:=lE ho (by
  unfold nW;rw[Rs,hp]
  cases md.cb<;>rfl)
 obtain⟨Kc,sv,td,fb,o1,o2,o3,hF⟩:=hS.now.2.wo.ex;have tn:aB X w (w.setCell ⟨X,16,none⟩ (iV c)):=aB.set X 16 w _;have hb:∀g,g≠X→(w.setCell ⟨X,16,none⟩ (iV c)).heap[g]? =w.heap[g]? :=fun g hg=>tn.block g hg;refine rj (w1:=w.setCell ⟨X,16,none⟩ (iV c)) ho hd (fF hw) (dU hK1).1 ?_ (gq Ho) (hn _ (hS.call2 (F':=F) ⟨Kc,sv,td,(fb.set 16 _ (by decide)).congr fun i _=>aaj (k:=3) (cR rfl) i,aJ o1 fun g hg _=>hb g (aX o1 fb (by decide) g hg),aJ o2 fun g hg _=>hb g (aX o2 fb (by decide) g hg),aJ o3 fun g hg _=>hb g (aX o3 fb (by decide) g hg),hF⟩ ⟨⟨tn.os,tn.tape,tn.output,Cc tn.size.symm,fun b _ hn=>hb b fun e=>hn ((hF b).2 (.inl e))⟩,fun _ h=> .inl h,fun b hb=>by rw[tn.size];exact hS.now.2.wo.lt b hb⟩ hA) (bt.2 ⟨hK1,iC⟩));simp only[execOp,hp,(bC f p).symm.trans hx,(bC f r).symm.trans hy,Sem.run_bind,sP (v:=iV c) RB rfl rfl (fb.there 16 1 (by decide)),Result.andThen_ok,Sem.run_pure]
theorem wp{X s:Nat}{A F0 F T:tF}{w0:tA}{v:Wv}{x y:AV}(pn pe:tH)(h1:Vj n ops f i=some (s,x,y))(hn:G Tryz.prog fn Rr n (fun b=>F b∨T b) Φ (RW X A F0 w0 {v with pn:=pn,pe:=pe} F) (.g md ops t::ks) f H)(hA:∀b,A b→b∈(hs H).map bX.a)(hx:x.val= .pointer (some ⟨X,5,none⟩):=by rfl)(hy:y.val=vF (cy (yz pn pe)) 8:=by rfl)(RB:xl Tryz.prog s 8=true:=by kernel_rfl)(Rs:md.vs.contains i=false:=by rfl):G Tryz.prog fn Rr n (fun b=>F b∨T b) Φ (RW X A F0 w0 v F) (.g md ops (.ef i t)::ks) f H:=by
 intro w hS hK;obtain⟨hK1,iC⟩:=bt.1 hK;show WF Tryz.prog ops (kq Tryz.prog fn Rr ks) md.va (o7 md ops) (vQ md ops) (.ef i t) n (cn f) w;obtain⟨o,p,r,ho,hd,hw,hp,rfl,rfl⟩:=Ts h1
 have Ho:(o7 md ops).contains i=true:=lE ho (by
  unfold nW;rw[Rs,hp]
  cases md.cb<;>rfl)
 obtain⟨dd,hu,hr,hi⟩:=sN RB;obtain⟨Kc,sv,td,fb,o1,o2,o3,hF⟩:=hS.now.2.wo.ex;obtain⟨g,hg⟩:∃g,cy (yz pn pe)=g:=⟨_,rfl⟩;have Vi:aW g 8:=hg▸Ss rfl;have tn:aB X w (w.setCells X 5 (cE g 0 8)):=aB.uu X _ 5 w;have hb:∀k,k≠X→(w.setCells X 5 (cE g 0 8)).heap[k]? =w.heap[k]? :=fun k hk=>tn.block k hk;refine rj (w1:=w.setCells X 5 (cE g 0 8)) ho hd (fF hw) (dU hK1).1 ?_ (gq Ho) (hn _ (hS.call2 (F':=F) ⟨Kc,sv,td,(fb.put 5 8 g (by decide)).congr fun i _=>by rw[←hg];exact aai i,aJ o1 fun g hg _=>hb g (aX o1 fb (by decide) g hg),aJ o2 fun g hg _=>hb g (aX o2 fb (by decide) g hg),aJ o3 fun g hg _=>hb g (aX o3 fb (by decide) g hg),hF⟩ ⟨⟨tn.os,tn.tape,tn.output,Cc tn.size.symm,fun b _ hn=>hb b fun e=>hn ((hF b).2 (.inl e))⟩,fun _ h=> .inl h,fun b hb=>by rw[tn.size];exact hS.now.2.wo.lt b hb⟩ hA) (bt.2 ⟨hK1,iC⟩));have:=run_storeAt_mid (P:=Tryz.prog) w X 5 s (cE g 0 8).toArray (by simpa[bR]using fb.there 5 8 (by decide)) (by simpa[bR]using hi) Vi.all;simp only[execOp,hp,(bC f p).symm.trans hx,(bC f r).symm.trans hy,hg,Sem.run_bind,vF,this,Result.andThen_ok,Sem.run_pure]
theorem cs{Y:Type}{w:tA}{X:Nat}{F F1 U:tF}{v:Wv}{g:Nat}{al:List AV}(e:Ru n ops f i=some (d,g,al))(v':Y→Wv)(φ:Y→World→Prop)(hc:∀w1,Mem w1 (hs H) (fun b=>F1 b∨False) Φ (RW X (fun b=>b∈([]:List bX).map bX.a) F w v F1)→cA g (al.map AV.val).toArray w1 fun x w'=>x= .returned (.tuple #[])∧∃y F',WO w' X (v' y) F'∧Mv F1 w1 F' w'∧cm (fun b=>U b∨F' b) w' (φ y))(hn:∀y F',G Tryz.prog fn Rr n (fun _=>False) (fun _=>True) (fun w'=>WO w' X (v' y) F'∧Mv F w F' w'∧cm (fun b=>U b∨F' b) w' (φ y)) (.g md ops t::ks) (ua f d (vt [])) [])(hm:(md.cb||md.vs.contains i)=false:=by rfl)(he:iS Tryz.prog g=true:=by kernel_rfl):G Tryz.prog fn Rr n (fun b=>F1 b∨False) Φ (RW X (fun b=>b∈([]:List bX).map bX.a) F w v F1) (.g md ops (.ef i t)::ks) f H:=
 ct (Y:=Y×(Nat→Prop)) e (vt []) (fun y w'=>WO w' X (v' y.1) y.2∧Mv F w y.2 w'∧cm (fun b=>U b∨y.2 b) w' (φ y.1)) (fun w1 hS=>(hc w1 hS).mono fun _ w' ⟨h1,y,F',hW,m,s⟩=>⟨h1,(y,F'),hW,hS.now.2.mv0.trans m,s⟩) (fun y w' w2 ⟨h1,h2,h3⟩ b=>⟨h1.next b,h2.next b,h3.next b⟩) (fun y=>hn y.1 y.2) hm he
end
end Rv
namespace Rv
section
variable{n:Nat}{ops:tP}{f:Nat→AV}{fn:Func}{Rr:Ending→World→Prop}{M:tF}{Φ R:tJ}{H:List En}{ks:List Fr}{t:Ord}{i d:Nat}{md:Md}
theorem cv{X:Nat}{A F0 F T:tF}{w0:tA}{v:Wv}{g:Nat}{al:List AV}(e:Ru n ops f i=some (d,g,al))(a:AV)(v':Wv)(hc:∀w,Mem w (hs H) (fun b=>F b∨T b) Φ (RW X A F0 w0 v F)→cA g (al.map AV.val).toArray w fun x w'=>x= .returned a.val∧∃F',WO w' X v' F'∧Mv F w F' w')(hn:∀F',G Tryz.prog fn Rr n (fun b=>F' b∨T b) Φ (RW X A F0 w0 v' F') (.g md ops t::ks) (ua f d a) H)(hA:∀b,A b→b∈(hs H).map bX.a:=by(intro b h;exact BI.2 ((BI.1 h).imp id fun h=>by cases h)))(hm:(md.cb||md.vs.contains i)=false:=by rfl)(he:iS Tryz.prog g=true:=by kernel_rfl):G Tryz.prog fn Rr n (fun b=>F b∨T b) Φ (RW X A F0 w0 v F) (.g md ops (.ef i t)::ks) f H:=
 mG e he fun w hS=>(hc w hS).mono fun _ w' ⟨h1,F',hW,m⟩=>⟨a,H,_,_,_,h1,.inl hm,hS.call2 hW m hA,hn F'⟩
end
end Rv
section
open Rv
theorem gG:jI Tryz.prog 100 148 1 8=true:=by kernel_rfl
theorem Jl:jI Tryz.prog 38 65 7 56=true:=by kernel_rfl
theorem rM(X:Nat)(v:Wv)(F:tF)(U:tF)(w:tA)(l:Lt)(a:tB)(c:Nat)(g:tD)(hg:g=lF (Nn l a c))(hW:WO w X v F)(hU:∀b,U b→b<w.heap.size)(sf:∀b,F b→U b)(hr:cm U w fun w=>RowK .i64 w a (6*l.es.length) (au l.es))(hc:l.es.length≤c)(hn:a=none→c=0)(hlen:v.fl.length≤1000000000000):cA 71 #[lp X,vF g 21] w fun x w'=>x= .returned (.tuple #[])∧∃P F',WO w' X {v with fl:=v.fl++[⟨P,l,a,c⟩]} F'∧Mv F w F' w'∧cm (fun b=>U b∨F' b) w' fun w=>eN w P l a c:=by
 obtain⟨fl,sv,td,fb,o1,o2,o3,hF⟩:=hW.ex;refine en (H:=[⟨X,103,[.f 19 (l_ v.nd v.pn v.pe [fl,v.tk,v.dd,iV v.cs,sv,td])]⟩]) 13 [vp 0 0 X,vf 21 g] Tryz.func71 rfl rfl (fb.open hU (sf X ((hF X).2 (.inl rfl))) hr) (r [] rfl fun α=> ?_);refine am 2 rfl o1 fb (fun b h=>sf b ((hF b).2 (.inr (.inl h)))) rfl gG (by omega) (by unfold maxLen;omega) (fun i hi=>by obtain rfl:i=0:=Nat.lt_one_iff.1 hi;rfl) fun R2 c2 hR hw=>r [] rfl fun _=>gn 0 (l_ v.nd v.pn v.pe [.slice (some ⟨R2,0,none⟩) (v.fl.length+1) c2,v.tk,v.dd,iV v.cs,sv,td]) (dt rfl fun w' hS=> ?_);have c1:=hS.now.2.2;obtain⟨F',ug,mv',_⟩:=WO.make (v':={v with fl:=v.fl++[⟨α 0,l,a,c⟩]}) fb hF (c1.mono fun b hb=>(hF b).2 (hb.imp id .inl)) (hS.at 0 rfl) (by rw[Ag,AE];exact hS.now.2.1) (oK o2 o1 fb c1) (oK o3 o1 fb c1) (fun b hb=>by cases hb;exact hR.imp (fun h=>(hF _).2 (.inr (.inl h))) id) (fun b hb=> .inl ((hF b).2 (.inr (.inr (.inl hb))))) (fun b hb=> .inl ((hF b).2 (.inr (.inr (.inr hb)))));exact⟨rfl,α 0,F',ug,mv',aat hU sf hr hc hn mv' ((hw (α 0) (.tail _ (.head _))).resolve_left fun h=>absurd (hS.oY 1 0 _ _ rfl rfl (Ab.1 h)) (by decide)) (hg▸hS.at 1 rfl) ug⟩
theorem Jm{α:Type}(f:α→List Value)(l:List α)(x:α):(l++[x]).flatMap f=l.flatMap f++f x:=by simp
theorem Jn(X:Nat)(v:Wv)(F:tF)(w:tA)(y:Ji)(g:tD)(hg:g=lF (Jj y))(hW:WO w X v F)(hlen:v.sv.length≤1000000000000):cA 79 #[lp X,vF g 14] w fun x w'=>x= .returned (.tuple #[])∧∃F',WO w' X {v with sv:=v.sv++[y]} F'∧Mv F w F' w':=by
 have og:aW g 14:=by rw[hg];exact Ss rfl
 obtain⟨fl,sv,td,fb,o1,o2,o3,hF⟩:=hW.ex;refine en (H:=[⟨X,103,[.f 19 (l_ v.nd v.pn v.pe [fl,v.tk,v.dd,iV v.cs,sv,td])]⟩]) 14 [vp 0 0 X,vf 14 g] Tryz.func79 rfl rfl (fb.open (G:=fun _=>True) hW.lt ((hF X).2 (.inl rfl)) fun _ _=>trivial) (r [1] rfl fun α=> ?_);refine am 2 rfl o2 fb (fun b h=>(hF b).2 (.inr (.inr (.inl h)))) rfl sE (by omega) (by unfold maxLen;omega) og fun R2 c2 hR _=>r [] rfl fun _=>gn 0 (l_ v.nd v.pn v.pe [fl,v.tk,v.dd,iV v.cs,.slice (some ⟨R2,0,none⟩) (v.sv.length+1) c2,td]) (dt rfl fun w' hS=> ?_);have c1:=hS.now.2.2;obtain⟨F',ug,mv',_⟩:=WO.make (v':={v with sv:=v.sv++[y]}) fb hF (c1.mono fun b hb=>(hF b).2 (hb.imp id fun h=> .inr (.inl h))) (hS.at 0 rfl) (oK o1 o2 fb c1) (by rw[Ag,Jm];exact(hg▸hS.now.2.1:_)) (oK o3 o2 fb c1) (fun b hb=> .inl ((hF b).2 (.inr (.inl hb)))) (fun b hb=>by cases hb;exact hR.imp (fun h=>(hF _).2 (.inr (.inr (.inl h)))) id) (fun b hb=> .inl ((hF b).2 (.inr (.inr (.inr hb)))));exact⟨rfl,F',ug,mv'⟩
theorem toClient_wo(X:Nat)(v:Wv)(F:tF)(U:tF)(w:tA)(P:Nat)(l:Lt)(a:tB)(c:Nat)(hW:WO w X v F)(hU:∀b,U b→b<w.heap.size)(sf:∀b,F b→U b)(hl:cm U w fun w=>eN w P l a c)(hlen:v.td.length≤1000000000000):cA 63 #[lp X,lp P] w fun x w'=>x= .returned (.tuple #[])∧∃F',WO w' X {v with td:=v.td++[⟨l.nu,l.an,l.pn,l.pe⟩]} F'∧Mv F w F' w':=by
 obtain⟨fl,sv,td,fb,o1,o2,o3,hF⟩:=hW.ex;refine en (H:=[⟨X,103,[.f 19 (l_ v.nd v.pn v.pe [fl,v.tk,v.dd,iV v.cs,sv,td])]⟩]) 26 [vp 0 0 X,vv (lp P)] Tryz.func63 rfl rfl (fb.open hU (sf X ((hF X).2 (.inl rfl))) hl) (r [1] rfl fun _=>l1 rfl (iV l.nu) (fun w hS=>hS.now.1.b.at 4 (cR rfl)) (r [] rfl fun _=>lf rfl 4 (lF [iV l.an.c,iV l.an.he,iV l.an.no,iV l.an.bd]) (fun w hS j hj=>(hS.now.1.b.at (11+j) (by omega)).trans (AB some (qs rfl hj))) (r [] rfl fun _=>lf rfl 2 (lF [iV l.pn,iV l.pe]) (fun w hS j hj=>(hS.now.1.b.at (15+j) (by omega)).trans (AB some (qs rfl hj))) (r [] rfl fun α=> ?_))));refine am 1 rfl o3 fb (fun b h=>sf b ((hF b).2 (.inr (.inr (.inr h))))) rfl Jl (by omega) (by unfold maxLen;omega) (Ss rfl) fun R2 c2 hR _=>r [] rfl fun _=>gn 0 (l_ v.nd v.pn v.pe [fl,v.tk,v.dd,iV v.cs,sv,.slice (some ⟨R2,0,none⟩) (v.td.length+1) c2]) (dt rfl fun w' hS=> ?_);have c1:=hS.now.2.2;obtain⟨F',ug,mv',_⟩:=WO.make (v':={v with td:=v.td++[⟨l.nu,l.an,l.pn,l.pe⟩]}) fb hF (c1.mono fun b hb=>(hF b).2 (hb.imp id fun h=> .inr (.inr h))) (hS.at 0 rfl) (oK o1 o3 fb c1) (oK o2 o3 fb c1) (by rw[Ag,Jm];exact hS.now.2.1) (fun b hb=> .inl ((hF b).2 (.inr (.inl hb)))) (fun b hb=> .inl ((hF b).2 (.inr (.inr (.inl hb))))) (fun b hb=>by cases hb;exact hR.imp (fun h=>(hF _).2 (.inr (.inr (.inr h)))) id);exact⟨rfl,F',ug,mv'⟩
theorem Jo(X:Nat)(v:Wv)(F:tF)(U:tF)(w:tA)(N:Nat)(u:Nv)(P:Nat)(l:Lt)(a:tB)(c:Nat)(an:An)(pn pe:Int)(hW:WO w X v F)(hU:∀b,U b→b<w.heap.size)(sf:∀b,F b→U b)(hN:cm F w fun w=>NB w X N u)(hl:cm U w fun w=>eN w P l a c)(hlen:v.fl.length≤1000000000000):cA 91 #[lp N,lp P,vF (lF [iV an.c,iV an.he,iV an.no,iV an.bd]) 4,vF (lF [iV pn,iV pe]) 2] w fun x w'=>x= .returned (.tuple #[])∧∃P' F',WO w' X {v with fl:=v.fl++[⟨P',(gT l.nu an pn pe),none,0⟩]} F'∧Mv F w F' w'∧cm (fun b=>U b∨F' b) w' fun w=>eN w P' (gT l.nu an pn pe) none 0:=by
 exact en (H:=[]) 20 [vv (lp N),vv (lp P),vf 4 (lF [iV an.c,iV an.he,iV an.no,iV an.bd]),vf 2 (lF [iV pn,iV pe])] Tryz.func91 rfl rfl (hW.i0 (G:=fun w=>NB w X N u∧eN w P l a c) fun w2 c=>⟨hN w2 c,hl w2 (c.mono sf)⟩) (r [1] rfl fun _=>l1 rfl (lp X) (fun w hS=>hS.now.1.1.at 0 (cR rfl)) (r [] rfl fun _=>l1 rfl (iV l.nu) (fun w hS=>hS.now.1.2.b.at 4 (cR rfl)) (r [] rfl fun _=>cs rfl _ _ (fun w1 hS=>rM X v F U w1 (gT l.nu an pn pe) none 0 (lF (Nn (gT l.nu an pn pe) none 0)) rfl hS.now.2.wo (fun b h=>Am (hU b h) hS.now.2.mv.c.size) sf (fun _ _=>RowK.nil _ _ _) (Al _) (fun _=>rfl) hlen) fun P' F'=>r [] rfl fun _=>dt rfl fun _ hS=>⟨rfl,P',F',hS.now.2⟩)))
theorem wN(X:Nat)(v:Wv)(F:tF)(w:tA)(N:Nat)(u:Nv)(q:Nat)(hq:q<4)(e:Ev)(an:An)(nu:Int)(hW:WO w X v F)(hN:cm F w fun w=>NB w X N u)(hlen:v.sv.length≤1000000000000):cA 80 #[lp N,iV (q:Int),vF (lF [iV e.k,iV e.p,iV e.i,iV e.b,iV e.he,iV e.hn]) 6,vF (lF [iV an.c,iV an.he,iV an.no,iV an.bd]) 4,iV nu] w fun x w'=>x= .returned (.tuple #[])∧∃F',WO w' X {v with sv:=v.sv++[⟨u.i,q,(u.m q).B.e,e,an,nu⟩]} F'∧Mv F w F' w':=by
 exact en (H:=[]) 33 [vv (lp N),vi q,vf 6 (lF [iV e.k,iV e.p,iV e.i,iV e.b,iV e.he,iV e.hn]),vf 4 (lF [iV an.c,iV an.he,iV an.no,iV an.bd]),vi nu] Tryz.func80 rfl rfl (hW.i0 hN) (r [1] rfl fun _=>l1 rfl (lp X) (fun w hS=>hS.now.1.at 0 (cR rfl)) (r [] rfl fun _=>l1 rfl (iV (u.i:Int)) (fun w hS=>hS.now.1.at 1 (cR rfl)) (r [1] rfl fun _=>l1 (q:=5+q*47+1) rfl (iV (u.m q).B.e) (fun w hS=>(hS.now.1.at (5+q*47+1) (by omega)).trans (AB some (oG hq (by decide)))) (r [] rfl fun _=>cs (Y:=Unit) (U:=fun _=>False) rfl (fun _=>{v with sv:=v.sv++[⟨u.i,q,(u.m q).B.e,e,an,nu⟩]}) (fun _ _=>True) (fun w1 hS=>(Jn X v F w1 ⟨u.i,q,(u.m q).B.e,e,an,nu⟩ (lF (Jj ⟨u.i,q,(u.m q).B.e,e,an,nu⟩)) rfl hS.now.2.wo hlen).mono fun _ _ ⟨h1,F',h2,h3⟩=>⟨h1,(),F',h2,h3,fun _ _=>trivial⟩) fun _ F'=>r [] rfl fun _=>dt rfl fun _ hS=>⟨rfl,F',hS.now.2.1,hS.now.2.2.1⟩))))
theorem wO(X:Nat)(v:Wv)(F:tF)(U:tF)(w:tA)(N:Nat)(u:Nv)(P:Nat)(l:Lt)(a:tB)(c:Nat)(an:An)(hq:l.q<4)(hW:WO w X v F)(hU:∀b,U b→b<w.heap.size)(sf:∀b,F b→U b)(hN:cm F w fun w=>NB w X N u)(hl:cm U w fun w=>eN w P l a c)(hlen:v.fl.length≤1000000000000)(iF:v.sv.length≤1000000000000):cA 93 #[lp N,lp P,vF (lF [iV an.c,iV an.he,iV an.no,iV an.bd]) 4] w fun x w'=>x= .returned (.tuple #[])∧∃P' F',WO w' X {v with sv:=v.sv++[⟨u.i,l.q,(u.m l.q).B.e,l.op,an,l.nu⟩],fl:=v.fl++[⟨P',gT l.nu an (-1) 0,none,0⟩]} F'∧Mv F w F' w'∧cm (fun b=>U b∨F' b) w' fun w=>eN w P' (gT l.nu an (-1) 0) none 0:=by
 refine en (H:=[]) 26 [vv (lp N),vv (lp P),vf 4 (lF [iV an.c,iV an.he,iV an.no,iV an.bd])] Tryz.func93 rfl rfl (hW.i0 (G:=fun w=>NB w X N u∧eN w P l a c) fun w2 c=>⟨hN w2 c,hl w2 (c.mono sf)⟩) (r [1] rfl fun _=>l1 rfl (iV (l.q:Int)) (fun w hS=>hS.now.1.2.b.at 3 (cR rfl)) (r [] rfl fun _=>lf rfl 6 (lF [iV l.op.k,iV l.op.p,iV l.op.i,iV l.op.b,iV l.op.he,iV l.op.hn]) (fun w hS j hj=>(hS.now.1.2.b.at (5+j) (by omega)).trans (AB some (qs rfl hj))) (r [] rfl fun _=>l1 rfl (iV l.nu) (fun w hS=>hS.now.1.2.b.at 4 (cR rfl)) (r [] rfl fun _=> ?_))));refine cw (Y:=Unit) rfl (vt []) (fun _=>{v with sv:=v.sv++[⟨u.i,l.q,(u.m l.q).B.e,l.op,an,l.nu⟩]}) (fun _ _=>True) (fun w1 hS=>(wN X v F w1 N u l.q hq l.op an l.nu hS.now.2.wo (fun w2 c2=>(hS.g w2 (c2.mono fun b h=> .inr (.inl h))).1) iF).mono fun _ _ ⟨h1,F',h2,h3⟩=>⟨h1,(),F',h2,h3,fun _ _=>trivial⟩) (fun _ F1=> ?_) (fun b h=>by cases h);exact r [] rfl fun _=>cs (U:=fun b=>U b∨F1 b) rfl _ _ (fun w1 hS=>Jo X _ F1 (fun b=>U b∨F1 b) w1 N u P l a c an (-1) 0 hS.now.2.wo (fun b h=>h.elim (fun h=>Am (hU b h) hS.now.2.mv.c.size) (hS.now.2.wo.lt b)) (fun b h=> .inr h) (fun w2 c2=>(hS.g w2 (c2.mono fun b h=> .inr (.inl h))).1.1) (hl.mv hS.now.2.mv0 sf) hlen) fun P' F'=>r [] rfl fun _=>dt rfl fun _ hS=>⟨rfl,P',F',hS.now.2.1,hS.now.2.2.1,hS.now.2.2.2.mono fun b _ h=>h.imp .inl id⟩
theorem Gs(X:Nat)(v:Wv)(F:tF)(U:tF)(w:tA)(N:Nat)(u:Nv)(q:Nat)(hq:q<4)(lY:aW (u.m q).g 41)(hW:WO w X v F)(hU:∀b,U b→b<w.heap.size)(sf:∀b,F b→U b)(hN:cm F w fun w=>NB w X N u)(hlen:v.fl.length≤1000000000000):cA 95 #[lp N,iV (q:Int)] w fun x w'=>x= .returned (.tuple #[])∧∃P' F',WO w' X {v with fl:=v.fl++[⟨P',vl u.i (u.m q).B q,none,0⟩]} F'∧Mv F w F' w'∧cm (fun b=>U b∨F' b) w' fun w=>eN w P' (vl u.i (u.m q).B q) none 0:=by
 refine en (H:=[]) 33 [vv (lp N),vi q] Tryz.func95 rfl rfl (hW.i0 hN) (r [1] rfl fun _=>lf (q:=5+q*47) rfl 47 (jj (u.m q)) (fun w hS j hj=>(hS.now.1.at (5+q*47+j) (by omega)).trans (AB some (oG hq hj))) (sv 11 (vg (qa (u.m q).B (u.m q).a (u.m q).c (u.m q).g)) rfl (r [] rfl fun α=>r [1] rfl fun _=>l1 rfl (lp X) (fun w hS=>hS.now.1.at 0 (cR rfl)) (r [] rfl fun _=>l1 rfl (iV (u.i:Int)) (fun w hS=>hS.now.1.at 1 (cR rfl)) (r [] rfl fun _=> ?_)))));exact cs rfl _ _ (fun w1 hS=>rM X v F U w1 (vl u.i (u.m q).B q) none 0 (lF (Nn (vl u.i (u.m q).B q) none 0)) rfl hS.now.2.wo (fun b h=>Am (hU b h) hS.now.2.mv.c.size) sf (fun _ _=>RowK.nil _ _ _) (Al _) (fun _=>rfl) hlen) fun P' F'=>r [] rfl fun _=>dt rfl fun _ hS=>⟨rfl,P',F',hS.now.2⟩
theorem Nr(X:Nat)(v:Wv)(F:tF)(U:tF)(w:tA)(P:Nat)(l:Lt)(a:tB)(c:Nat)(hq:l.q<4)(hW:WO w X v F)(hU:∀b,U b→b<w.heap.size)(sf:∀b,F b→U b)(hl:cm U w fun w=>eN w P l a c)(hlen:v.fl.length≤1000000000000):cA 65 #[lp X,lp P] w fun x w'=>x= .returned (.tuple #[])∧∃P' F',WO w' X {v with fl:=v.fl++[⟨P',iK l.fr l.q (v.pn l.q) (v.pe l.q),none,0⟩]} F'∧Mv F w F' w'∧cm (fun b=>U b∨F' b) w' fun w=>eN w P' (iK l.fr l.q (v.pn l.q) (v.pe l.q)) none 0:=by
 exact en (H:=[]) 25 [vv (lp X),vv (lp P)] Tryz.func65 rfl rfl (hW.i0 fun w2 c=>hl w2 (c.mono sf)) (r [1] rfl fun _=>l1 rfl (iV l.fr) (fun w hS=>hS.now.1.b.at 1 (cR rfl)) (r [] rfl fun _=>l1 rfl (iV (l.q:Int)) (fun w hS=>hS.now.1.b.at 3 (cR rfl)) (r [] rfl fun _=>l1 rfl (iV (l.q:Int)) (fun w hS=>hS.now.1.b.at 3 (cR rfl)) (r [1] rfl fun _=>lf (q:=5+l.q*2) rfl 2 (lF [iV (v.pn l.q),iV (v.pe l.q)]) (fun w hS j hj=>hS.now.2.wo.pl hq hj) (r [] rfl fun _=>cs rfl _ _ (fun w1 hS=>rM X v F U w1 (iK l.fr l.q (v.pn l.q) (v.pe l.q)) none 0 (lF (Nn (iK l.fr l.q (v.pn l.q) (v.pe l.q)) none 0)) rfl hS.now.2.wo (fun b h=>Am (hU b h) hS.now.2.mv.c.size) sf (fun _ _=>RowK.nil _ _ _) (Al _) (fun _=>rfl) hlen) fun P' F'=>r [] rfl fun _=>dt rfl fun _ hS=>⟨rfl,P',F',hS.now.2⟩)))))
open Classical in
noncomputable def oL(v:Wv)(l:Lt):Wv:=if bN v.pn v.pe∧¬v.pn l.q= -1∧wm (v.pn l.q) (v.pe l.q) (l.ep-1) l.fr=0 then {v with pn:=bw v.pn l.q l.fr,pe:=bw v.pe l.q (v.pe l.q+1)}else v
theorem Tt{v:Wv}{l:Lt}{pa pb:tH}(h:uT v.pn v.pe (l.q:Int) (l.ep-1) l.fr pa pb 0):oL v l={v with pn:=pa,pe:=pb}:=by
 generalize he:(0:Int)=er at h;cases h with
 |off a b c h hc=>exact absurd he.symm hc
 |no a b h hc=>exact absurd he.symm hc
 |flip h k hk hq hn hc=>
  obtain rfl:l.q=k:=by omega
  exact Ae ⟨h,hn,hc⟩
theorem Tu{v:Wv}{l:Lt}{pa pb:tH}{er:Int}(h:uT v.pn v.pe (l.q:Int) (l.ep-1) l.fr pa pb er)(h0:¬er=0)(jb:l.q<4):oL v l=v:=by
 refine Aa fun hc=> ?_;cases h with
 |off a b c h hc'=>
  cases h with
  |state h=>exact h hc.1
  |range h hq=>exact hq ⟨by omega,by omega⟩
  |none h k hk hq hn=>
   obtain rfl:l.q=k:=by omega
   exact hc.2.1 hn
  |here h k hk hq hn=>exact hc' rfl
 |no a b h hc'=>
  obtain⟨_,k,hk,hq,hn,rfl,rfl⟩:=h.at;obtain rfl:l.q=k:=by omega
  exact hc' hc.2.2
 |flip h k hk hq hn hc'=>exact h0 rfl
theorem Xi(X:Nat)(v:Wv)(F:tF)(U:tF)(w:tA)(P:Nat)(l:Lt)(a:tB)(c:Nat)(hq:l.q<4)(he0: -1000000000≤l.ep)(he1:l.ep≤1000000000)(hW:WO w X v F)(hU:∀b,U b→b<w.heap.size)(sf:∀b,F b→U b)(hl:cm U w fun w=>eN w P l a c)(hlen:v.fl.length≤1000000000000):cA 64 #[lp X,lp P] w fun x w'=>x= .returned (.tuple #[])∧∃P' F',WO w' X {oL v l with fl:=v.fl++[⟨P',iK l.fr l.q ((oL v l).pn l.q) ((oL v l).pe l.q),none,0⟩]} F'∧Mv F w F' w'∧cm (fun b=>U b∨F' b) w' fun w=>eN w P' (iK l.fr l.q ((oL v l).pn l.q) ((oL v l).pe l.q)) none 0:=by
 refine en (H:=[]) 36 [vv (lp X),vv (lp P)] Tryz.func64 rfl rfl (hW.i0 fun w2 c=>hl w2 (c.mono sf)) (r [] rfl fun _=> ?_);refine cut (X:=Nat×(Nat→Int)×(Nat→Int)×Int) (fun x=>[(0,vv (lp X)),(1,vv (lp P)),(4,vp 0 0 x.1),(5,vi x.2.2.2)]) (fun x=>[⟨x.1,35,yz x.2.1 x.2.2.1⟩]) (fun _ b=>F b∨False) (fun _ w=>eN w P l a c) (fun _=>RW X (fun b=>b∈([]:List bX).map bX.a) F w v F) (fun x=>uT v.pn v.pe (l.q:Int) (l.ep-1) l.fr x.2.1 x.2.2.1 x.2.2.2) ?_ (rz [4,1] [l.ep-1] rfl fun _=>lf rfl 8 (cy (yz v.pn v.pe)) (fun w hS j hj=>hS.now.2.wo.dir hj) (r [] rfl fun _=>l1 rfl (iV (l.q:Int)) (fun w hS=>hS.now.1.b.at 3 (cR rfl)) (r [] rfl fun _=>l1 rfl (iV l.ep) (fun w hS=>hS.now.1.b.at 17 (cR rfl)) (rz [1] [l.ep-1] rfl fun _=>l1 rfl (iV l.fr) (fun w hS=>hS.now.1.b.at 1 (cR rfl)) (r [] rfl fun _=> ?_)))))
 case refine_2=>
  repeat' first|refine FC ?_ ?_|(refine cq (g:=106) rfl (fun y:(Nat→Int)×(Nat→Int)×Int=>vt [.g (yz y.1 y.2.1),.o (iV y.2.2)]) (fun y=>uT v.pn v.pe (l.q:Int) (l.ep-1) l.fr y.1 y.2.1 y.2.2) ?_ ?_;exact fun w _=>(SE v.pn v.pe (l.q:Int) (l.ep-1) l.fr w).mono fun _ _ ⟨pa,pb,er,h0,h1,b⟩=>⟨(pa,pb,er),h0,b,h1⟩;rintro⟨pa,pb,er⟩ xV)|refine rs [] rfl rfl fun _=> ?_
  all_goals exact bJ (_,pa,pb,er) ⟨rfl,rfl,rfl,rfl,trivial⟩ (fun w hS=>hS) xV Bp
 rintro f ⟨R6,pa,pb,er⟩ iG;have iG:uT v.pn v.pe (l.q:Int) (l.ep-1) l.fr pa pb er:=iG;have tl:∀v1 w1,Mem w1 (hs [⟨R6,35,yz pa pb⟩]) (fun b=>F b∨False) (fun w=>eN w P l a c) (RW X (fun b=>b∈([]:List bX).map bX.a) F w v1 F)→v1.fl.length≤1000000000000→_:=fun v1 w1 hS h=>Nr X v1 F U w1 P l a c hq hS.now.2.wo (fun b h=>Am (hU b h) hS.now.2.mv.c.size) sf ((hl.mv hS.now.2.mv0 sf).mono fun b _ h=> .inl h) h;by_cases h0:er=0
 ·subst h0;rw[Tt iG];exact r [1] rfl fun _=>wp pa pb rfl (r [] rfl fun _=>cs rfl _ _ (fun w1 hS=>tl _ w1 hS hlen) fun P' F'=>r [] rfl fun _=>dt rfl fun _ hS=>⟨rfl,P',F',hS.now.2⟩) (fun b h=>by cases h)
 ·rw[Tu iG h0 hq];exact r [0] rfl fun _=>cs rfl _ _ (fun w1 hS=>tl _ w1 hS hlen) fun P' F'=>r [] rfl fun _=>dt rfl fun _ hS=>⟨rfl,P',F',hS.now.2⟩
theorem Xj(X:Nat)(v:Wv)(F:tF)(U:tF)(w:tA)(k nd:Int)(q:Nat)(pl kp:Int)(e:Ev)(hW:WO w X v F)(hU:∀b,U b→b<w.heap.size)(sf:∀b,F b→U b)(hlen:v.fl.length≤1000000000000)(Oq:v.cs≤1000000000000)(VI:0≤v.cs):cA 45 #[lp X,vF (lF [iV k,iV nd,iV (q:Int),iV pl,iV kp,iV e.k,iV e.p,iV e.i,iV e.b,iV e.he,iV e.hn]) 11] w fun x w'=>x= .returned (.tuple #[])∧∃P' F',WO w' X {v with cs:=v.cs+1,fl:=v.fl++[⟨P',vm nd q v.cs e,none,0⟩]} F'∧Mv F w F' w'∧cm (fun b=>U b∨F' b) w' fun w=>eN w P' (vm nd q v.cs e) none 0:=by
 refine en (H:=[]) 24 [vv (lp X),vg [.o (iV k),.o (iV nd),.o (iV (q:Int)),.o (iV pl),.o (iV kp),.o (iV e.k),.o (iV e.p),.o (iV e.i),.o (iV e.b),.o (iV e.he),.o (iV e.hn)]] Tryz.func45 rfl rfl (Mem.init (T:=U) hW (fun e he=>by cases he) List.nodup_nil (fun e he=>by cases he) hU fun _ _=>trivial) (r [1] rfl fun _=>l1 rfl (iV v.cs) (fun w hS=>hS.now.2.wo.cs_) (r [] rfl fun _=> ?_));refine cw rfl (vt []) _ _ (fun w1 hS=>rM X v F _ w1 (vm nd q v.cs e) none 0 (lF (Nn (vm nd q v.cs e) none 0)) rfl hS.now.2.wo hS.ult (fun b h=> .inr (.inl h)) (fun _ _=>RowK.nil _ _ _) (Al _) (fun _=>rfl) hlen) (fun P' F'=> ?_) (fun b h=>by cases h);exact r [] rfl fun _=>l1 rfl (iV v.cs) (fun w hS=>hS.now.2.wo.cs_) (rz [1] [v.cs+1] rfl fun _=>wc (v.cs+1) rfl (r [] rfl fun _=>dt rfl fun w2 hS=>⟨rfl,P',F',hS.now.2.wo,hS.now.2.mv0,fun w2 c2=>(hS.g w2 (c2.mono fun b h=>h.elim (fun h=> .inr (.inr h)) (fun h=> .inr (.inl h)))).2⟩) (fun b h=>by cases h))
end
theorem aj{α:Type}(m:Nat→α)(q:Nat)(x:α):ak m q x q=x:=Ae rfl
theorem acX(m:Nat→Mg)(k:Nat)(x:Mg):(fun q=>(ak m k x q).B)=ak (fun q=>(m q).B) k x.B:=by
 funext q;unfold ak;split<;>rfl
theorem jW(u:Nv)(q:Nat)(x:Mg):({u with m:=ak u.m q x}:Nv).pure={u.pure with mo:=ak u.pure.mo q x.B}:=by
 show Nd.mk .. =Nd.mk ..;simp only[acX]
theorem kG(v:Wv)(r:Lr):({v with fl:=v.fl++[r]}:Wv).pure=e_ v.pure r.l:=by
 show Ws.mk .. =Ws.mk ..;simp only[List.map_append,List.map_cons,List.map_nil]
theorem CB(v:Wv)(y:Ji)(r:Lr):({v with sv:=v.sv++[y],fl:=v.fl++[r]}:Wv).pure=e_ {v.pure with sv:=v.sv++[y]} r.l:=by
 show Ws.mk .. =Ws.mk ..;simp only[List.map_append,List.map_cons,List.map_nil]
theorem tr{hd tl:tM}{m:Nat→Mg}{q:Nat}{x:Mg}{hn he:tH}{wt af:tK}{tu:Int}(i:Nat):kW hd (gj (ak (fun p=>jj (m p)) q (jj x)) hn he wt af tu) tl i=kW hd (gj (fun p=>jj (ak m q x p)) hn he wt af tu) tl i:=by rw[aav]
theorem Nv.Ok.put{u:Nv}(h:u.Ok){q:Nat}{x:Mg}(hx:x.B.Ok):{u with m:=ak u.m q x}.Ok:=⟨fun p hp=>by
 show(ak u.m q x p).B.Ok;unfold ak;split
 ·exact hx
 ·exact h.ok p hp,h.nil,h.cap,h.max,h.len,h.s0,h.s1,h.i5,h.Tq⟩
theorem Nv.In.put{w:tA}{N:Nat}{u:Nv}(h:u.In w N){q:Nat}{x:Mg}(hx:oI w x):{u with m:=ak u.m q x}.In w N:=⟨h.row,fun p hp=>by
 show oI w (ak u.m q x p);unfold ak;split
 ·exact hx
 ·exact h.mo p hp,h.af,h.wl⟩
theorem gf{α:Type}{p:α→Prop}{l:List α}{x:α}(h:∀r∈l,p r)(hx:p x):∀r∈l++[x],p r:=fun r hr=>by
 rcases Ah.1 hr with hr|hr
 ·exact h r hr
 ·rw[Ab.1 hr];exact hx
section
variable{w w':tA}{X N:Nat}{u u':Nv}{v v':Wv}{F F' U:tF}{r:Nd×Ws}{H':List bX}{G:tJ}
theorem Dn.fin(hS:Mem w' (⟨N,123,206,mC X u'⟩::H') (fun b=>F' b∨(U b∧b≠N)) G (RW X (fun b=>b∈[N]) F w v' F'))(hU:∀b,U b→b<w.heap.size)(hUN:U N)(J_:∀w,G w→u'.In w N∧∀r∈v'.fl,oH w r)(ok:u'.Ok)(e1:u'.wt=u.wt)(e2:u'.wl=u.wl)(e3:v'.nd=v.nd)(e4:v'.tk=v.tk)(e5:v'.dd=v.dd)(en:u'.pure=r.1)(es:v'.pure=r.2):Dn w X N u v F U r u' v' F' w':=by
 have hr:=hS.now.2;refine⟨⟨hS.at 0 rfl,hr.wo,fun hf=>hS.off _ (Aq ..) (.inl hf),fun b hb=>hb.elim (fun h=>Am (hU b h) hr.mv.c.size) (hr.wo.lt b),fun b hb=> .inr hb,.inl hUN,ok,fun w2 c2=>J_ w2 (hS.g w2 (c2.mono fun b hb=> ?_))⟩,hr.mv.less (fun b hb=>hb.imp id Ab.1) (fun b hb=> .inl (hb.imp id Ab.2)),e1,e2,e3,e4,e5,en,es⟩;rcases hb with hb|hb
 ·by_cases e:b=N
  ·exact .inl (e▸Aq ..)
  ·exact .inr (.inr ⟨hb,e⟩)
 ·exact .inr (.inl hb)
theorem NW.init(h:NW w X N u v F U){G:tJ}(g:cm U w G):Mem w [⟨N,123,206,mC X u⟩] (fun b=>F b∨(U b∧b≠N)) (fun w=>(u.In w N∧∀r∈v.fl,oH w r)∧G w) (RW X (fun b=>b∈[N]) F w v F):=by
 refine Mem.init (T:=fun b=>U b∧b≠N) h.wo (fun e he=>by cases Ab.1 he;exact h.nb) (by simp) (fun e he=>by cases Ab.1 he;exact fun hm=>hm.elim h.nf fun hm=>hm.2 rfl) (fun b hb=>h.ub b hb.1) fun w2 c2=> ?_;have c3:dB U w w2:=c2.mono fun b hb=>by
  rcases hb with hb|hb|hb
  ·rw[Ab.1 hb];exact h.nu
  ·exact h.fu b hb
  ·exact hb.1
 exact⟨h.st w2 c3,g w2 c3⟩
end
section
variable{w w1 w':tA}{X N:Nat}{u u':Nv}{v v':Wv}{F F' U:tF}{r:Nd×Ws}
theorem NW.next(h:NW w X N u v F U)(b:bZ w w1):NW w1 X N u v F U:=⟨h.nb.next b,h.wo.next b,h.nf,fun x hx=>Am (h.ub x hx) b.size,h.fu,h.nu,h.ok,h.st.next b⟩
theorem Dn.from(h:Dn w1 X N u v F U r u' v' F' w')(hl:∀b,F b→b<w.heap.size)(hN:N<w.heap.size)(b:bZ w w1):Dn w X N u v F U r u' v' F' w':=
 ⟨h.nw,(Mv.of (F:=fun b=>F b∨b=N) (fun x hx=>hx.elim (hl x) (fun e=>e▸hN)) b).trans h.mv,h.wt,h.wl,h.nd,h.tk,h.dd,h.n,h.s⟩
end
theorem Dn.next{w w' w2:tA}{X N:Nat}{u:Nv}{v:Wv}{F U:tF}{r:Nd×Ws}{u':Nv}{v':Wv}{F':tF}(h:Dn w X N u v F U r u' v' F' w')(b:bZ w' w2):Dn w X N u v F U r u' v' F' w2:=
 ⟨h.nw.next b,h.mv.next b,h.wt,h.wl,h.nd,h.tk,h.dd,h.n,h.s⟩
theorem NW.less{w:tA}{X N:Nat}{u:Nv}{v:Wv}{F U V:tF}(h:NW w X N u v F U)(hV:∀b,V b→U b)(hF:∀b,F b→V b)(hN:V N):NW w X N u v F V:=⟨h.nb,h.wo,h.nf,fun b hb=>h.ub b (hV b hb),hF,hN,h.ok,h.st.mono fun b _ hb=>hV b hb⟩
theorem Dn.trans{w w1 w2:tA}{X N:Nat}{u u1 u2:Nv}{v v1 v2:Wv}{F F1 F2 U:tF}{r r2:Nd×Ws}(h:Dn w X N u v F U r u1 v1 F1 w1)(k:Dn w1 X N u1 v1 F1 (fun b=>U b∨F1 b) r2 u2 v2 F2 w2):Dn w X N u v F U r2 u2 v2 F2 w2:=
 ⟨k.nw.less (fun _ hb=>hb.imp .inl id) (fun _ hb=> .inr hb) (h.nw.nu.elim .inl fun hf=>absurd hf h.nw.nf),h.mv.trans k.mv,k.wt.trans h.wt,k.wl.trans h.wl,k.nd.trans h.nd,k.tk.trans h.tk,k.dd.trans h.dd,k.n,k.s⟩
theorem Dn.to{w w':tA}{X N:Nat}{u u':Nv}{v v':Wv}{F F' U:tF}{r r':Nd×Ws}(h:Dn w X N u v F U r u' v' F' w')(e1:r.1=r'.1)(e2:r.2=r'.2):Dn w X N u v F U r' u' v' F' w':=⟨h.nw,h.mv,h.wt,h.wl,h.nd,h.tk,h.dd,h.n.trans e1,h.s.trans e2⟩
theorem CC{B B':Bt}{v:Ev}{an:An}{k:Bool}{er:Int}(h:cY B v B' an k er)(ok:B.Ok):B'.Ok:=by
 cases h with
 |state h=>exact absurd ok h
 |fault h f hf h0=>exact Bt.dx
 |brk h hv hk=>exact Bt.dx
 |shut h hv hk hr=>exact ok
 |none h hv hk hr=>exact ok
 |same h hv hk hr s bu ht s' pY st=>exact ok
 |full h hv hk hr s bu ht s' an st hl=>exact ok
 |done h hv hk hr s bu ht s' pY st hl=>
  refine⟨?_,by simp[Bt.more];omega,s',bu++[_],ht.snoc hv st⟩;have hs:=ok.cG;unfold Bt.b_ bg at hs⊢;rcases hs with h|h|h|h|h
  ·exact absurd h.1 (by omega)
  ·exact .inr (.inl h)
  ·exact .inr (.inr (.inl h))
  ·exact .inr (.inr (.inr (.inl h)))
  ·exact .inr (.inr (.inr (.inr h)))
section
open Rv
theorem PH(X N:Nat)(u:Nv)(v:Wv)(F U:tF)(w:tA)(hw:NW w X N u v F U)(m:Mg)(q:Nat)(hq:q<4)(okB:m.B.Ok)(c0 c1 c2:Nat)(hg:cm U w (fun w=>(((bh w c0 114 47 (jj m))∧bh w c1 98 1 (fun _=>lp N))∧bh w c2 3 1 (fun _=>iV (q:Int)))∧oI w m)):cA 105 #[lp c0,lp c1,lp c2] w fun x w'=>x= .returned (.tuple #[])∧∃u' v' F',Dn w X N u v F U (fm u.pure v.pure (.fA q m.B)) u' v' F' w':=by
 exact en (H:=[nE X N u]) 10 [vv (lp c0),vv (lp c1),vv (lp c2)] Tryz.func105 rfl rfl (hw.init hg) (r [1] rfl fun _=>l1 rfl (lp N) (fun w hS=>hS.now.1.2.1.1.2.at 0 (cR rfl)) (sv 3 (vp 0 0 N) rfl (r [] rfl fun _=>l1 rfl (iV (q:Int)) (fun w hS=>hS.now.1.2.1.2.at 0 (cR rfl)) (r [] rfl fun _=>lf rfl 47 (jj m) (fun w hS j hj=>by rw[Aj];exact hS.now.1.2.1.1.1.at j (by omega)) (r [1] rfl fun _=>so rfl rfl rfl 0 rfl (mC X {u with m:=ak u.m q m}) (fun i _=>(pH hq i).trans (tr (x:=m) i)) (r [] rfl fun _=>dt rfl fun w hS=>⟨rfl,{u with m:=ak u.m q m},v,F,Dn.fin (u:=u) hS hw.ub hw.nu (fun _ h=>⟨h.1.1.put h.2.2,h.1.2⟩) (hw.ok.put okB) rfl rfl rfl rfl rfl (jW _ _ _) rfl⟩) (eF hg.now.2.one))))))
theorem PI(X N:Nat)(u:Nv)(v:Wv)(F U:tF)(w:tA)(hw:NW w X N u v F U)(m:Mg)(P:Nat)(l:Lt)(a:tB)(c:Nat)(hq:l.q<4)(okB:m.B.Ok)(c0 c1 c2:Nat)(hg:cm U w (fun w=>((((bh w c0 114 47 (jj m))∧bh w c1 98 1 (fun _=>lp N))∧bh w c2 148 1 (fun _=>lp P))∧oI w m)∧eN w P l a c))(hlen:v.fl.length≤1000000000000)(iF:v.sv.length≤1000000000000):cA 96 #[lp c0,lp c1,lp c2] w fun x w'=>x= .returned (.tuple #[])∧∃u' v' F',Dn w X N u v F U (fm u.pure v.pure (.begin l m.B)) u' v' F' w':=by
 have lY:=hg.now.1.2.one;refine en (H:=[nE X N u]) 19 [vv (lp c0),vv (lp c1),vv (lp c2)] Tryz.func96 rfl rfl (hw.init hg) (r [1] rfl fun _=>l1 rfl (lp N) (fun w hS=>hS.now.1.2.1.1.1.2.at 0 (cR rfl)) (sv 3 (vp 0 0 N) rfl (r [] rfl fun _=>l1 rfl (lp P) (fun w hS=>hS.now.1.2.1.1.2.at 0 (cR rfl)) (r [] rfl fun _=>l1 rfl (iV (l.q:Int)) (fun w hS=>hS.now.1.2.2.b.at 3 (cR rfl)) (r [] rfl fun _=>lf rfl 47 (jj m) (fun w hS j hj=>by rw[Aj];exact hS.now.1.2.1.1.1.1.at j (by omega)) (r [1] rfl fun _=>so rfl rfl rfl 0 rfl (mC X {u with m:=ak u.m l.q m}) (fun i _=>(pH hq i).trans (tr (x:=m) i)) ?_ (eF lY)))))));refine r [1] rfl fun _=>l1 rfl (lp N) (fun w hS=>hS.now.1.2.1.1.1.2.at 0 (cR rfl)) (r [] rfl fun _=>l1 rfl (lp P) (fun w hS=>hS.now.1.2.1.1.2.at 0 (cR rfl)) (r [] rfl fun _=>l1 rfl (iV (l.q:Int)) (fun w hS=>hS.now.1.2.2.b.at 3 (cR rfl)) (r [] rfl fun _=> ?_)));exact cw rfl (vt []) _ _ (fun w1 hS=>Gs X v F _ w1 N ({u with m:=ak u.m l.q m}) l.q hq (show aW (ak u.m l.q m l.q).g 41 by rw[aj];exact lY) hS.now.2.wo hS.ult (fun b h=> .inr (.inl h)) (fun w2 c2=>(hS.xQ 0 rfl w2 (c2.mono fun b h=> .inl h)).2) hlen) fun P1 F1=>r [] rfl fun _=>dt rfl fun w hS=>⟨rfl,{u with m:=ak u.m l.q m},_,F1,Dn.fin (u:=u) hS hw.ub hw.nu (fun _ h=>⟨h.1.1.1.put h.1.2.1.2,gf h.1.1.2 h.2⟩) (hw.ok.put okB) rfl rfl rfl rfl rfl (jW _ _ _) (by rw[kG];simp only[fm,oJ,aj])⟩
theorem PJ(X N:Nat)(u:Nv)(v:Wv)(F U:tF)(w:tA)(hw:NW w X N u v F U)(P:Nat)(l:Lt)(a:tB)(c:Nat)(an:An)(hq:l.q<4)(hop:∀x∈bf l.op,(Lit.int .i64 x).wf=true)(c0 c1 c2 c3:Nat)(hg:cm U w (fun w=>((((bh w c0 98 1 (fun _=>lp N))∧bh w c1 3 1 (fun _=>iV (l.q:Int)))∧bh w c2 148 1 (fun _=>lp P))∧bh w c3 59 4 (lF (anL an)))∧eN w P l a c))(hlen:v.fl.length≤1000000000000)(iF:v.sv.length≤1000000000000):cA 92 #[lp c0,lp c1,lp c2,lp c3] w fun x w'=>x= .returned (.tuple #[])∧∃u' v' F',Dn w X N u v F U (fm u.pure v.pure (.serve l an)) u' v' F' w':=by
 have lY:=(hw.st.now.1.mo l.q hq).one;refine en (H:=[nE X N u]) 31 [vv (lp c0),vv (lp c1),vv (lp c2),vv (lp c3)] Tryz.func92 rfl rfl (hw.init hg) ?_;refine r [4] rfl fun _=>l1 rfl (lp N) (fun w hS=>hS.now.1.2.1.1.1.1.at 0 (cR rfl)) (sv 5 (vp 0 0 N) rfl (r [] rfl fun _=>l1 rfl (iV (l.q:Int)) (fun w hS=>hS.now.1.2.1.1.1.2.at 0 (cR rfl)) (r [] rfl fun _=>l1 rfl (lp N) (fun w hS=>hS.now.1.2.1.1.1.1.at 0 (cR rfl)) (sv 7 (vp 0 0 N) rfl (r [] rfl fun _=>l1 rfl (iV (l.q:Int)) (fun w hS=>hS.now.1.2.1.1.1.2.at 0 (cR rfl)) ?_)))));refine r [1] rfl fun _=>lo rfl rfl 0 rfl 47 (jj (u.m l.q)) (fun i hi=>oG hq hi) (r [] rfl fun _=>l1 rfl (lp P) (fun w hS=>hS.now.1.2.1.1.2.at 0 (cR rfl)) (r [] rfl fun _=>lf rfl 6 (lF [iV l.op.k,iV l.op.p,iV l.op.i,iV l.op.b,iV l.op.he,iV l.op.hn]) (fun w hS j hj=>(hS.now.1.2.2.b.at (5+j) (by omega)).trans (AB some (qs rfl hj))) (r [] rfl fun _=> ?_)));refine cx rfl (fun y:Mg×An×Bool×Int=>vt [.g [.f 47 (jj y.1)],.g (QS y.2.1),.o (.bool y.2.2.1),.o (iV y.2.2.2)]) (fun y=>cY (u.m l.q).B l.op y.1.B y.2.1 y.2.2.1 y.2.2.2∧aW y.1.g 41) (fun y w=>oI w y.1) (fun w hS=>(zM _ (u.m l.q).B (u.m l.q).a (u.m l.q).c (u.m l.q).g l.op w hS.ult (fun w2 c2=>(hS.g w2 c2).1.1.mo l.q hq) (hw.ok.ok l.q hq) hop).mono fun _ _ ⟨_,an,k,er,B8,h0,h1,⟨a8,c8,g8,hy,hm8⟩,b⟩=>⟨(⟨B8,a8,c8,g8⟩,an,k,er),by rw[h0,hy];rfl,b,⟨h1,hm8.now.one⟩,fun _=>hm8⟩) ?_;rintro⟨m8,an8,k8,er8⟩ ⟨G9,o8⟩;have e8:=eV G9;refine r [1] rfl fun _=>so rfl rfl rfl 0 rfl (mC X {u with m:=ak u.m l.q m8}) (fun i _=>(pH hq i).trans (tr (x:=m8) i)) (r [] rfl fun _=>l1 rfl (lp N) (fun w hS=>hS.now.1.1.2.1.1.1.1.at 0 (cR rfl)) (r [] rfl fun _=>l1 rfl (lp P) (fun w hS=>hS.now.1.1.2.1.1.2.at 0 (cR rfl)) (r [] rfl fun _=>lf rfl 4 (lF [iV an.c,iV an.he,iV an.no,iV an.bd]) (fun w hS j hj=>by rw[Aj];exact hS.now.1.1.2.1.2.at j (by omega)) (r [] rfl fun _=> ?_)))) (eF o8);exact cw rfl (vt []) _ _ (fun w1 hS=>wO X v F _ w1 N ({u with m:=ak u.m l.q m8}) P l a c an hq hS.now.2.wo hS.ult (fun b h=> .inr (.inl h)) (fun w2 c2=>(hS.xQ 0 rfl w2 (c2.mono fun b h=> .inl h)).2) (fun w2 c2=>(hS.g w2 c2).1.2.2) hlen iF) fun P1 F1=>r [] rfl fun _=>dt rfl fun w hS=>⟨rfl,{u with m:=ak u.m l.q m8},_,F1,Dn.fin (u:=u) hS hw.ub hw.nu (fun _ h=>⟨h.1.1.1.1.put h.1.2,gf h.1.1.1.2 h.2⟩) (hw.ok.put (CC G9 (hw.ok.ok l.q hq))) rfl rfl rfl rfl rfl (by rw[jW];simp only[fm,e8]) (by rw[CB];simp only[fm,dN,qC,e8,aj])⟩
theorem PK(X N:Nat)(u:Nv)(v:Wv)(F U:tF)(w:tA)(hw:NW w X N u v F U)(m:Mg)(q:Nat)(hq:q<4)(okB:m.B.Ok)(hg:cm U w (fun w=>oI w m))(hlen:v.fl.length≤1000000000000)(iF:v.sv.length≤1000000000000):cA 103 #[lp N,iV (q:Int),vF (jj m) 47] w fun x w'=>x= .returned (.tuple #[])∧∃u' v' F',Dn w X N u v F U (({u.pure with mo:=ak u.pure.mo q m.B},if m.B.r=1 then qC v.pure {u.pure with mo:=ak u.pure.mo q m.B} q Ev.brk CA (-1)else oJ {u.pure with mo:=ak u.pure.mo q m.B} v.pure q)) u' v' F' w':=by
 have lY:=hg.now.one;refine en (H:=[nE X N u]) 25 [vp 0 0 N,vi q,vg (qa m.B m.a m.c m.g)] Tryz.func103 rfl rfl (hw.init hg) (r [1,1] rfl fun α=>so rfl rfl rfl 0 rfl (mC X {u with m:=ak u.m q m}) (fun i _=>(pH hq i).trans (tr (x:=m) i)) ?_ (eF lY));by_cases uR:m.B.r=1
 ·refine r [1] rfl fun _=>cw (Y:=Unit) rfl (vt []) (fun _=>{v with sv:=v.sv++[⟨u.i,q,(ak u.m q m q).B.e,Ev.brk,CA,-1⟩]}) (fun _ _=>True) (fun w1 hS=>(wN X v F w1 N ({u with m:=ak u.m q m}) q hq Ev.brk CA (-1) hS.now.2.wo (fun w2 c2=>(hS.xQ 0 rfl w2 (c2.mono fun b h=> .inl h)).2) iF).mono fun _ _ ⟨h1,F',h2,h3⟩=>⟨h1,(),F',h2,h3,fun _ _=>trivial⟩) (fun _ F1=>r [] rfl fun _=>fin fun w hS=> ?_);exact⟨rfl,{u with m:=ak u.m q m},_,F1,Dn.fin (u:=u) (hS.take 1) hw.ub hw.nu (fun _ h=>⟨h.1.1.1.put h.1.2,h.1.1.2⟩) (hw.ok.put okB) rfl rfl rfl rfl rfl (jW _ _ _) (by rw[Ae uR];simp only[qC,aj])⟩
 ·refine r [0] rfl fun _=>cw rfl (vt []) _ _ (fun w1 hS=>Gs X v F _ w1 N ({u with m:=ak u.m q m}) q hq (show aW (ak u.m q m q).g 41 by rw[aj];exact lY) hS.now.2.wo hS.ult (fun b h=> .inr (.inl h)) (fun w2 c2=>(hS.xQ 0 rfl w2 (c2.mono fun b h=> .inl h)).2) hlen) fun P1 F1=>r [] rfl fun _=>dt rfl fun w hS=> ?_;exact⟨rfl,{u with m:=ak u.m q m},_,F1,Dn.fin (u:=u) (hS.take 1) hw.ub hw.nu (fun _ h=>⟨h.1.1.1.put h.1.2,gf h.1.1.2 h.2⟩) (hw.ok.put okB) rfl rfl rfl rfl rfl (jW _ _ _) (by rw[Aa uR,kG];simp only[oJ,aj])⟩
theorem Tv(X N:Nat)(u:Nv)(v:Wv)(F U:tF)(w:tA)(hw:NW w X N u v F U)(m:Mg)(P:Nat)(l:Lt)(a:tB)(c:Nat)(hq:l.q<4)(okB:m.B.Ok)(c0 c1 c2:Nat)(hg:cm U w (fun w=>((((bh w c0 98 1 (fun _=>lp N))∧bh w c1 148 1 (fun _=>lp P))∧bh w c2 114 47 (jj m))∧oI w m)∧eN w P l a c))(hlen:v.fl.length≤1000000000000)(iF:v.sv.length≤1000000000000):cA 102 #[lp c0,lp c1,lp c2] w fun x w'=>x= .returned (.tuple #[])∧∃u' v' F',Dn w X N u v F U (fm u.pure v.pure (.take l m.B)) u' v' F' w':=by
 have hb:=hw.ub;refine en (H:=[]) 10 [vv (lp c0),vv (lp c1),vv (lp c2)] Tryz.func102 rfl rfl (nZ hb hg) (r [1] rfl fun _=>l1 rfl (lp N) (fun w hS=>hS.now.1.1.1.1.1.at 0 (cR rfl)) (r [] rfl fun _=>l1 rfl (lp P) (fun w hS=>hS.now.1.1.1.1.2.at 0 (cR rfl)) (r [] rfl fun _=>l1 rfl (iV (l.q:Int)) (fun w hS=>hS.now.1.2.b.at 3 (cR rfl)) (r [] rfl fun _=>lf rfl 47 (jj m) (fun w hS j hj=>by rw[Aj];exact hS.now.1.1.1.2.at j (by omega)) (r [] rfl fun _=> ?_)))));exact ct (Y:=Nv×Wv×(Nat→Prop)) rfl (vt []) (fun y w'=>Dn w X N u v F U (fm u.pure v.pure (.take l m.B)) y.1 y.2.1 y.2.2 w') (fun w1 hS=>(PK X N u v F U w1 (hw.next hS.now.2) m l.q hq okB (fun w2 c2=>(hg.next hS.now.2 w2 c2).1.2) hlen iF).mono fun _ _ ⟨h1,u',v',F',hd⟩=>⟨h1,(u',v',F'),hd.from hw.wo.lt hw.nb.lt hS.now.2⟩) (fun _ _ _ h b=>h.next b) fun y=>r [] rfl fun _=>dt rfl fun _ hS=>⟨rfl,y.1,y.2.1,y.2.2,hS.now.2⟩
structure Ns(w w':tA)(l:List Ev)(a:tB)(c:Nat):Prop where
 row:RowK .i64 w' a (6*l.length) (au l)
 cap:l.length≤c
 nil:a=none→c=0
 up:∀x,a=some x→w.heap.size≤x.block
theorem PL(B:Bt)(a:tB)(c:Nat)(hv:Int)(w:tA)(hb:jg w B a c):
  cA 170 #[cg B.r B.e B.f B.t B.o a B.es.length c,iV hv] w fun x w'=>∃a' c' n' l lt er,x= .returned (.tuple #[.slice a' n' c',.bool lt,iV er])∧n'=l.length∧partOf B hv=(l,lt,er)∧Ns w w' l a' c'∧bZ w w':=by
 refine en (H:=[]) _ [vg (bS B.r B.e B.f B.t B.o a B.es.length c),vi hv] Tryz.func170 rfl rfl (Ip hb) (r [] rfl fun _=>Rv.cb rfl (vi (dA B hv)) (fun w hS=>xx B a c hv w hS.now.1) ?_);unfold partOf;by_cases h0:dA B hv=0
 case neg=>exact r [1] rfl fun _=>fin fun w hS=>⟨none,0,0,[],false,_,rfl,rfl,Ae h0,⟨RowK.nil _ _ _,Ac _,fun _=>rfl,fun _ h=>(by cases h)⟩,hS.now.2⟩
 rw[Aa (Bc h0)];obtain⟨ok,hr,hv0,N7⟩:=EE h0;have hl:=ok.len;obtain⟨k,rfl⟩:∃k:Nat,hv=k:=⟨hv.toNat,by omega⟩;have hk:k≤B.es.length:=by omega
 obtain⟨m,hm⟩:∃m,m=min (k+3) B.es.length:=⟨_,rfl⟩;have xV:k≤m:=by omega
 have hml:m≤B.es.length:=by omega
 have aiZ:=hb.cap;have e3:(B.es.drop ((k:Int)).toNat).take 3=(B.es.drop k).take (m-k):=by
  rw[Bu];by_cases h:k+3≤B.es.length
  ·rw[show m-k=3 by omega]
  ·rw[AL (by rw[AK];omega),AL (by rw[AK];omega)]
 have Ej:((B.es.drop k).take (m-k)).length=m-k:=by rw[AM,AK];omega
 have call:∀w1,bZ w w1→jg w1 B a c→cA 176 #[.slice none 0 0,.slice (gO a k 6 c) (m-k) (c-k)] w1 fun x w'=>∃y:Option Addr×Nat,x= .returned (vv (.slice y.1 (m-k) y.2)).val∧bZ w1 w'∧(xW w y∧(y.1=none→y.2=0)∧m-k≤y.2)∧∀{U:tF},(∀b,U b→b<w1.heap.size)→cm U w' fun w=>RowK .i64 w y.1 (6*(m-k)) (au ((B.es.drop k).take (m-k))):=fun w1 h0 hb=>by
  have hrw:=WR hb.row hb.nil k m xV hml hb.cap;refine(zG none (gO a k 6 c) 0 0 (m-k) (c-k) [] (au ((B.es.drop k).take (m-k))) w1 (RowK.nil _ _ _) hrw.1 (fun _=>rfl) hrw.2 (by omega)).mono ?_;rintro _ w' ⟨a2,c2,rfl,hr2,jM,r_,hf2,b⟩;rw[Aj]at hr2 jM;exact⟨(a2,c2),by rw[Aj];rfl,b,⟨fun x hx=>AN h0.size (hf2 x hx),r_,jM⟩,fun hU=>bM hr2 hf2 hU⟩
 have er:∀b:Bool,decide (B.r=3∧B.es.length≤(k:Int).toNat+3)=b→((B.es.drop ((k:Int)).toNat).take 3,decide (B.r=3∧B.es.length≤(k:Int).toNat+3),(0:Int))=((B.es.drop k).take (m-k),b,0):=fun b h=>by rw[e3,h]
 have cs:(¬B.r=3∧decide (B.r=3∧B.es.length≤(k:Int).toNat+3)=false)∨((B.r=3∧m=B.es.length)∧decide (B.r=3∧B.es.length≤(k:Int).toNat+3)=true)∨((B.r=3∧¬m=B.es.length)∧decide (B.r=3∧B.es.length≤(k:Int).toNat+3)=false):=by
  by_cases h3:B.r=3
  ·by_cases Tx:m=B.es.length
   ·exact .inr (.inl ⟨⟨h3,Tx⟩,As (by omega)⟩)
   ·exact .inr (.inr ⟨⟨h3,Tx⟩,Ak (by omega)⟩)
  ·exact .inl ⟨h3,Ak fun h=>h3 h.1⟩
 rcases cs with⟨h3,hd⟩|⟨⟨h3,Tx⟩,hd⟩|⟨⟨h3,Tx⟩,hd⟩
 case' inl=>refine rz [0,1,2,4,0] [((k+3:Nat):Int),(m:Int)] rfl fun _=> ?_
 case' inr.inl=>refine rz [0,1,2,4,1] [((k+3:Nat):Int),(m:Int)] rfl fun _=> ?_
 case' inr.inr=>refine rz [0,1,2,4,1] [((k+3:Nat):Int),(m:Int)] rfl fun _=> ?_
 all_goals
  refine cx rfl (fun y:Option Addr×Nat=>vv (.slice y.1 (m-k) y.2)) (fun y=>xW w y∧(y.1=none→y.2=0)∧m-k≤y.2) (fun y w=>RowK .i64 w y.1 (6*(m-k)) (au ((B.es.drop k).take (m-k)))) (fun w1 hS=>(call w1 hS.now.2 hS.now.1).mono fun _ _ ⟨y,k1,k2,k3,k4⟩=>⟨y,k1,k2,k3,k4⟩) fun y hy=> ?_;have f9:∀{w2:tA} {M:tF} {Φ:tJ} {H:List En},Mem w2 (hs H) M (fun w=>Φ w∧RowK .i64 w y.1 (6*(m-k)) (au ((B.es.drop k).take (m-k)))) (fun w'=>bZ w w')→Ns w w2 ((B.es.drop k).take (m-k)) y.1 y.2:=fun hS=>⟨by rw[Ej];exact hS.now.1.2,by rw[Ej];exact hy.2.2,hy.2.1,hy.1⟩
  first|exact r [] rfl fun _=>fin fun w hS=>⟨_,_,m-k,_,_,0,rfl,Ej.symm,er _ hd,f9 hS,hS.now.2⟩|exact r [1] rfl fun _=>fin fun w hS=>⟨_,_,m-k,_,_,0,rfl,Ej.symm,er _ hd,f9 hS,hS.now.2⟩|exact r [0] rfl fun _=>fin fun w hS=>⟨_,_,m-k,_,_,0,rfl,Ej.symm,er _ hd,f9 hS,hS.now.2⟩
theorem Tz:∀(es:List Ev) (k:Nat),au (es.take k)=(au es).take (6*k)
 |[],k=>by simp[au]
 |e::es,0=>by simp[au]
 |e::es,k+1=>by
  have:=Tz es k;simp only[au,List.take_succ_cons,List.flatMap_cons]at this⊢;rw[this,List.take_append,show(bf e).length=6 from rfl,AL (show(bf e).length≤6*(k+1) by show 6≤_;omega),show 6*(k+1)-6=6*k by omega]
theorem vn{w:tA}{a:tB}{c k m:Nat}{es:List Ev}(h:RowK .i64 w a (6*es.length) (au es))(hk:k+m≤es.length)(hc:es.length≤c):RowK .i64 w (gO a k 6 c) (6*m) (au ((es.drop k).take m)):=by
 have e:au ((es.drop k).take m)=((au es).drop (6*k)).take (6*m):=by rw[Tz,qz]
 have hl:=h.bP;rw[e];refine⟨by rw[AM,AK,hl];omega,fun u hu=>h.wf u (Bl (AJ hu)),fun i hi=> ?_⟩;obtain⟨b,off,e1,hb,hc'⟩:=h.cell (6*k+i) (by omega);refine⟨b,off+k*6, ?_,hb, ?_⟩
 ·unfold gO;rw[Aa (by omega),e1];simp[Addr.add_mid]
 ·rw[show off+k*6+i=off+(6*k+i) by omega,hc'];simp[List.getD_eq_getElem?_getD,List.getElem?_drop,hi]
theorem TB{B:Bt}{hv:Int}(h:dA B hv=0):∃k:Nat,hv=k∧k≤B.es.length:=by
 unfold dA at h;split at h
 ·cases h
 ·split at h
  ·cases h
  ·split at h
   ·cases h
   ·rename_i h3;exact⟨hv.toNat,by omega,by omega⟩
theorem PM{B:Bt}{hv:Int}{l:List Ev}{lt:Bool}{er:Int}(h:partOf B hv=(l,lt,er)):dA B hv=er:=by
 unfold partOf at h;split at h
 ·cases h;rfl
 ·rename_i h0;cases h;exact Br.1 h0
theorem PN(B:Bt)(a:tB)(c:Nat)(hv:Int)(w:tA)(hb:jg w B a c):cA 170 #[cg B.r B.e B.f B.t B.o a (min 1 B.es.length) c,iV hv] w fun x w'=>∃a' c' n' lt er,x= .returned (.tuple #[.slice a' n' c',.bool lt,iV er])∧dA B.short hv=er∧bZ w w':=by
 have e:min 1 B.es.length=B.short.es.length:=by simp[Bt.short]
 rw[e];refine(PL B.short a c hv w (wh hb)).mono ?_;rintro _ w' ⟨a',c',n',l,lt,er,rfl,_,hp,_,b⟩;exact⟨a',c',n',lt,er,rfl,PM hp,b⟩
theorem Xk{B:Bt}{hv er:Int}(h:dA B hv=er)(h0:¬er=0):partOf B hv=([],false,er):=by
 unfold partOf;rw[h,Ae h0]
theorem Gt{B:Bt}{k e:Nat}{lt:Bool}(h:dA B (k:Int)=0)(he:min 3 (B.es.length-k)=e-k)(hl:decide (B.r=3∧B.es.length≤k+3)=lt):partOf B (k:Int)=((B.es.drop k).take (e-k),lt,0):=by
 unfold partOf;rw[h,Aa (fun h=>h rfl),Bu,hl,←he];congr 1;by_cases h3:3≤B.es.length-k
 ·rw[BG h3]
 ·rw[Nat.min_eq_right (by omega),AL (by rw[AK];omega),AL (by rw[AK];omega)]
theorem PO(U:tF)(B:Bt)(a:tB)(c:Nat)(q:tD)(hv:Int)(w:tA)(hU:∀b,U b→b<w.heap.size)(hm:cm U w fun w=>ki w B a c q)(ok:B.Ok):cA 135 #[zJ B a c q,iV hv] w fun x w'=>∃a' c' n' l lt er,x= .returned (.tuple #[.slice a' n' c',.bool lt,iV er])∧n'=l.length∧partOf B hv=(l,lt,er)∧cm U w' (fun w=>RowK .i64 w a' (6*n') (au l))∧n'≤c'∧(a'=none→c'=0)∧bZ w w':=by
 have oq:=hm.now.one;have hc:=hm.now.b.cap;refine en (H:=[]) _ [vg (qa B a c q),vi hv] Tryz.func135 rfl rfl (nZ hU hm) (r [] rfl fun _=>Rv.cb rfl (vt [.g (bS B.r B.e B.f B.t B.o a (min 1 B.es.length) c),.o (iV (lK hv B.es.length))]) (fun w _=>xz B.r B.e B.f B.t B.o a B.es.length c q hv w hc) (r [] rfl fun _=> ?_));refine cq rfl (fun y:Option Addr×Nat×Nat×Bool×Int=>vt [.o (.slice y.1 y.2.1 y.2.2.1),.o (.bool y.2.2.2.1),.o (iV y.2.2.2.2)]) (fun y=>dA B hv=y.2.2.2.2) (fun w hS=>(PN B a c (lK hv B.es.length) w hS.now.1.b).mono fun _ w3 ⟨a1,c1,n1,lt1,er,h0,h1,b⟩=>⟨(a1,n1,c1,lt1,er),h0,b,by rw[zK ok]at h1;exact h1⟩) ?_;rintro⟨a1,n1,c1,lt1,er⟩ h1;have h1:dA B hv=er:=h1;by_cases h0:er=0
 case neg=>exact r [1] rfl fun _=>fin fun w hS=>⟨none,0,0,[],false,er,rfl,rfl,Xk h1 h0,fun _ _=>RowK.nil _ _ _,Ac _,fun _=>rfl,hS.now.2⟩
 subst h0;obtain⟨k,rfl,hk⟩:=TB h1;have hlen:=ok.len;obtain⟨e,he⟩:∃e,e=k+min 3 (B.es.length-k):=⟨_,rfl⟩;have el:((B.es.drop k).take (e-k)).length=e-k:=by rw[AM,AK];omega
 have cs:(¬B.r=3∧decide (B.r=3∧B.es.length≤k+3)=false)∨((B.r=3∧e=B.es.length)∧decide (B.r=3∧B.es.length≤k+3)=true)∨((B.r=3∧¬e=B.es.length)∧decide (B.r=3∧B.es.length≤k+3)=false):=by
  by_cases h3:B.r=3
  ·by_cases Tx:e=B.es.length
   ·exact .inr (.inl ⟨⟨h3,Tx⟩,As (by omega)⟩)
   ·exact .inr (.inr ⟨⟨h3,Tx⟩,Ak (by omega)⟩)
  ·exact .inl ⟨h3,Ak fun h=>h3 h.1⟩
 rcases cs with⟨h3,hd⟩|⟨⟨h3,Tx⟩,hd⟩|⟨⟨h3,Tx⟩,hd⟩
 case' inl=>refine rz [0,1,2,4,0] [((k+3:Nat):Int),(e:Int)] rfl fun _=> ?_
 case' inr.inl=>refine rz [0,1,2,4,1] [((k+3:Nat):Int),(e:Int)] rfl fun _=> ?_
 case' inr.inr=>refine rz [0,1,2,4,1] [((k+3:Nat):Int),(e:Int)] rfl fun _=> ?_
 all_goals
  refine cx rfl (fun y:Option Addr×Nat=>vv (.slice y.1 (e-k) y.2)) (fun y=>e-k≤y.2∧(y.1=none→y.2=0)) (fun y w=>RowK .i64 w y.1 (6*(e-k)) (au ((B.es.drop k).take (e-k)))) (fun w hS=>(Ez (gO a k 6 c) (e-k) (c-k) (au ((B.es.drop k).take (e-k))) w (vn hS.now.1.b.row (by omega) hc) (fun h=>by rw[hS.now.1.b.nil (wM h)];omega) (by omega)).mono ?_) fun y hy=> ?_
  ·rintro _ w5 ⟨_,rfl,⟨⟨a8,c8,rfl,r8,Hc,Te,hf8⟩⟩,b⟩;exact⟨(a8,c8),rfl,b,⟨Hc,Te⟩,fun hl=>bM r8 hf8 hl⟩
  first|exact r [] rfl fun _=>fin fun w hS=>⟨y.1,y.2,e-k,(B.es.drop k).take (e-k),_,0,rfl,el.symm,Gt h1 (by omega) hd,fun w2 c2=>(hS.FD w2 c2).2,hy.1,hy.2,hS.now.2⟩|exact r [1] rfl fun _=>fin fun w hS=>⟨y.1,y.2,e-k,(B.es.drop k).take (e-k),_,0,rfl,el.symm,Gt h1 (by omega) hd,fun w2 c2=>(hS.FD w2 c2).2,hy.1,hy.2,hS.now.2⟩|exact r [0] rfl fun _=>fin fun w hS=>⟨y.1,y.2,e-k,(B.es.drop k).take (e-k),_,0,rfl,el.symm,Gt h1 (by omega) hd,fun w2 c2=>(hS.FD w2 c2).2,hy.1,hy.2,hS.now.2⟩
theorem Xl(X N:Nat)(u:Nv)(v:Wv)(F U:tF)(w:tA)(hw:NW w X N u v F U)(q:Nat)(hq:q<4)(hv:Int)(hlen:v.fl.length≤1000000000000)(iF:v.sv.length≤1000000000000):cA 99 #[lp N,iV (q:Int),iV hv] w fun x w'=>x= .returned (.tuple #[])∧∃u' v' F',Dn w X N u v F U ((u.pure,iE u.pure v.pure q hv)) u' v' F' w':=by
 have lY:=(hw.st.now.1.mo q hq).one;have gV:=jV (hw.ok.ok q hq).cG;refine en (H:=[nE X N u]) 47 [vp 0 0 N,vi q,vi hv] Tryz.func99 rfl rfl (hw.init (G:=fun _=>True) fun _ _=>trivial) (r [1] rfl fun _=>lo rfl rfl 0 rfl 47 (jj (u.m q)) (fun i hi=>oG hq hi) (sv 16 (vg (qa (u.m q).B (u.m q).a (u.m q).c (u.m q).g)) rfl (r [] rfl fun α=> ?_)));refine cx rfl (fun y:List Ev×Option Addr×Nat×Bool×Int=>vt [.o (.slice y.2.1 y.1.length y.2.2.1),.o (.bool y.2.2.2.1),.o (iV y.2.2.2.2)]) (fun y=>partOf (u.m q).B hv=(y.1,y.2.2.2.1,y.2.2.2.2)∧y.1.length≤y.2.2.1∧(y.2.1=none→y.2.2.1=0)) (fun y w=>RowK .i64 w y.2.1 (6*y.1.length) (au y.1)) (fun w hS=>(PO _ (u.m q).B (u.m q).a (u.m q).c (u.m q).g hv w hS.ult (fun w2 c2=>(hS.g w2 c2).1.1.mo q hq) (hw.ok.ok q hq)).mono fun _ _ ⟨a8,c8,n8,es8,lt8,er8,h0,h1,hp8,hr8,Hc,Te,b⟩=>by subst h1;exact⟨(es8,a8,c8,lt8,er8),h0,b,⟨hp8,Hc,Te⟩,fun _=>hr8⟩) ?_;rintro⟨es8,a8,c8,lt8,er8⟩ ⟨hp8,Hc,Te⟩;have hp8:partOf (u.m q).B hv=(es8,lt8,er8):=hp8;by_cases h0:er8=0
 ·subst h0;refine rz [1,1,1] [(u.m q).B.e+1] rfl fun _=>cw rfl (vt []) _ _ (fun w hS=>rM X v F _ w (Nq u.i (u.m q).B q hv es8 lt8) a8 c8 (lF (Nn (Nq u.i (u.m q).B q hv es8 lt8) a8 c8)) rfl hS.now.2.wo hS.ult (fun b h=> .inr (.inl h)) (fun w2 c2=>(hS.g w2 c2).2) Hc Te hlen) fun P1 F1=>r [] rfl fun _=>dt rfl fun w hS=> ?_;exact⟨rfl,u,_,F1,Dn.fin (u:=u) (hS.take 1) hw.ub hw.nu (fun _ h=>⟨h.1.1.1.1,gf h.1.1.1.2 h.2⟩) hw.ok rfl rfl rfl rfl rfl rfl (by rw[kG];simp only[iE,hp8,if_pos])⟩
 ·refine r [0] rfl fun _=>dt rfl fun w hS=> ?_;exact⟨rfl,u,v,F,Dn.fin (u:=u) (hS.take 1) hw.ub hw.nu (fun _ h=>⟨h.1.1.1,h.1.1.2⟩) hw.ok rfl rfl rfl rfl rfl rfl (by simp only[iE,hp8,if_neg h0])⟩
theorem EY(X N:Nat)(u:Nv)(v:Wv)(F U:tF)(w:tA)(hw:NW w X N u v F U)(m:Mg)(P:Nat)(l:Lt)(a:tB)(c:Nat)(hq:l.q<4)(okB:m.B.Ok)(c0 c1 c2:Nat)(hg:cm U w (fun w=>((((bh w c0 114 47 (jj m))∧bh w c1 98 1 (fun _=>lp N))∧bh w c2 148 1 (fun _=>lp P))∧oI w m)∧eN w P l a c))(hlen:v.fl.length≤1000000000000)(iF:v.sv.length≤1000000000000):cA 98 #[lp c0,lp c1,lp c2] w fun x w'=>x= .returned (.tuple #[])∧∃u' v' F',Dn w X N u v F U (fm u.pure v.pure (.shut l m.B)) u' v' F' w':=by
 have lY:=hg.now.1.2.one;refine en (H:=[nE X N u]) 23 [vv (lp c0),vv (lp c1),vv (lp c2)] Tryz.func98 rfl rfl (hw.init hg) (r [1] rfl fun _=>l1 rfl (lp N) (fun w hS=>hS.now.1.2.1.1.1.2.at 0 (cR rfl)) (sv 3 (vp 0 0 N) rfl (r [] rfl fun _=>l1 rfl (lp P) (fun w hS=>hS.now.1.2.1.1.2.at 0 (cR rfl)) (r [] rfl fun _=>l1 rfl (iV (l.q:Int)) (fun w hS=>hS.now.1.2.2.b.at 3 (cR rfl)) (r [] rfl fun _=>lf rfl 47 (jj m) (fun w hS j hj=>by rw[Aj];exact hS.now.1.2.1.1.1.1.at j (by omega)) (r [1] rfl fun _=>so rfl rfl rfl 0 rfl (mC X {u with m:=ak u.m l.q m}) (fun i _=>(pH hq i).trans (tr (x:=m) i)) ?_ (eF lY)))))));refine r [1] rfl fun _=>l1 rfl (lp N) (fun w hS=>hS.now.1.2.1.1.1.2.at 0 (cR rfl)) (r [] rfl fun _=>l1 rfl (lp P) (fun w hS=>hS.now.1.2.1.1.2.at 0 (cR rfl)) (r [] rfl fun _=>l1 rfl (iV (l.q:Int)) (fun w hS=>hS.now.1.2.2.b.at 3 (cR rfl)) (r [] rfl fun _=>l1 rfl (lp P) (fun w hS=>hS.now.1.2.1.1.2.at 0 (cR rfl)) (r [] rfl fun _=>l1 rfl (iV l.pl) (fun w hS=>hS.now.1.2.2.b.at 18 (cR rfl)) (r [] rfl fun _=> ?_)))));refine ct (Y:=Nv×Wv×(Nat→Prop)) rfl (vt []) (fun y w'=>Dn w X N u v F U (fm u.pure v.pure (.shut l m.B)) y.1 y.2.1 y.2.2 w') (fun w1 hS=> ?_) (fun _ _ _ h b=>h.next b) fun y=>r [] rfl fun _=>dt rfl fun _ hS=>⟨rfl,y.1,y.2.1,y.2.2,hS.now.2⟩;have Ln:=Dn.fin (r:=(_,v.pure)) (u:=u) (v:=v) (v':=v) (u':={u with m:=ak u.m l.q m}) (F:=F) (F':=F) hS hw.ub hw.nu (fun _ h=>⟨h.1.1.put h.2.1.2,h.1.2⟩) (hw.ok.put okB) rfl rfl rfl rfl rfl (jW _ _ _) rfl;exact(Xl X N ({u with m:=ak u.m l.q m}) v F _ _ Ln.nw l.q hq l.pl hlen iF).mono fun _ _ ⟨h1,u2,v2,F2,DS⟩=>⟨h1,(u2,v2,F2),(Ln.trans DS).to (jW _ _ _) (AB (fun n=>iE n v.pure l.q l.pl) (jW _ _ _))⟩
end
theorem vo{k:Int}{q:Nat}{ep pe:Int}(hk:1≤k∧k≤7)(xJ:¬(k=2∨k=5))(hq:q<4)(he:0≤ep∧ep≤1048576)(hp:0≤pe∧pe≤4):(⟨k,q,ep,pe,mB⟩:Rec).fault=0:=by
 show aE k q ep pe 0 0 0 0 0 0=0;unfold aE;rw[Aa (fun h=>h hk),Aa (fun h=>h ⟨by omega,by omega,he.1,he.2,hp.1,hp.2⟩),Aa xJ];rfl
theorem TC{k:Int}{q:Nat}{ep:Int}{e:Ev}(hk:k=2∨k=5)(hq:q<4)(he:0≤ep∧ep≤1048576)(hv:e.Ok):(⟨k,q,ep,0,e⟩:Rec).fault=0:=by
 show aE k q ep 0 e.k e.p e.i e.b e.he e.hn=0;unfold aE;rw[Aa (fun h=>h (by omega)),Aa (fun h=>h ⟨by omega,by omega,he.1,he.2,by omega,by omega⟩),Ae hk];exact hv
theorem Y2{v:Ev}(h:v.Ok):∀x∈bf v,(Lit.int .i64 x).wf=true:=by
 unfold Ev.Ok aT at h;intro x hx;simp only[bf,List.mem_cons,List.not_mem_nil,or_false]at hx;refine Lo ?_ ?_<;>(rcases hx with rfl|rfl|rfl|rfl|rfl|rfl<;>(split at h<;>(try split at h)<;>(try split at h)<;>(try split at h)<;>omega))
theorem pJ{k:Int}{q:Nat}{ep pe:Int}{e:Ev}(hk:1≤k∧k≤7)(hq:q<4)(he:0≤ep∧ep≤1048576)(hp:0≤pe∧pe≤4)(hv:∀x∈bf e,(Lit.int .i64 x).wf=true):∀x∈bn ⟨k,q,ep,pe,e⟩,(Lit.int .i64 x).wf=true:=by
 intro x hx;simp only[bn,List.mem_cons,List.not_mem_nil,or_false]at hx;rcases hx with rfl|rfl|rfl|rfl|hx
 ·exact Lo (by omega) (by omega)
 ·exact Lo (by omega) (by omega)
 ·exact Lo (by omega) (by omega)
 ·exact Lo (by omega) (by omega)
 ·exact hv x (by simp only[bf,List.mem_cons,List.not_mem_nil,or_false];exact hx)
theorem qD:∀x∈bf mB,(Lit.int .i64 x).wf=true:=by decide
section
variable(X N:Nat)(u:Nv)(v:Wv)(F U:tF)(w:tA)
abbrev Nv.synced(u:Nv)(a:tB)(c:Nat):Nv:={u with da:=a,dc:=c,sy:=u.dl.length,af:= .nilFunc,ax:=none}
theorem qE(hw:NW w X N u v F U)(g:Nat)(cl:tM)(Gn:u.af= .func (.func g) #[] cl.toArray)(hen:Rv.iS Tryz.prog g=true)(r:Nd×Ws)(hA:∀a c w1,NW w1 X N (u.synced a c) v F U→dB (fun b=>b=N) w w1→cA g cl.toArray w1 fun x w'=>x= .returned (.tuple #[])∧∃u' v' F',Dn w1 X N (u.synced a c) v F U r u' v' F' w'):
  cA 70 #[lp N] w fun x w'=>x= .returned (.tuple #[])∧∃u' v' F',Dn w X N u v F U r u' v' F' w':=by
 have hUN:∀b,(b=N∨(U b∧b≠N))→U b:=fun b hb=>hb.elim (fun e=>e▸hw.nu) fun h=>h.1;have Hb:∀b,U b→(b=N∨(U b∧b≠N)):=fun b hb=>by
  by_cases e:b=N
  ·exact .inl e
  ·exact .inr ⟨hb,e⟩
 have fb:=hw.nb;unfold NB mC at fb;rw[Gn]at fb;refine wJ X N u.i u.da u.dl.length u.dc u.dl u.sy (fun p=>jj (u.m p)) u.hn u.he u.wt u.tu u.ct u.ub u.sk g cl w fb (fun b=>U b∧b≠N) (fun b hb=>hw.ub b hb.1) (fun h=>h.2 rfl) (fun w2 c2=>(hw.st w2 (c2.mono hUN)).1.row) hw.ok.nil hw.ok.cap hw.ok.len hw.ok.s0 hw.ok.s1 hen (fun w'=>∃u' v' F',Dn w X N u v F U r u' v' F' w') (fun _ _ ⟨u',v',F',h⟩ b=>⟨u',v',F',h.next b⟩) fun a c w1 f1 r1 h1 h2 h3 c1=> ?_;have cU:dB U w w1:=c1.mono fun b hb=>hb▸hw.nu;have nw1:NW w1 X N (u.synced a c) v F U:=by
  refine⟨f1,hw.wo.Fu c1 fun b hb=>hb▸hw.nf,hw.nf,fun b hb=>Am (hw.ub b hb) c1.size,hw.fu,hw.nu,⟨hw.ok.ok,h2,h1,h3,hw.ok.len,by show(0:Int)≤(u.dl.length:Int);omega,Bq _,hw.ok.i5,trivial⟩,fun w2 c2=> ?_⟩;have oZ:=hw.st w2 (cU.trans c2 fun _ _ h=>h);exact⟨⟨r1 w2 (c2.mono Hb),oZ.1.mo,rfl,oZ.1.wl⟩,oZ.2⟩
 refine(hA a c w1 nw1 c1).mono ?_;rintro x w' ⟨rfl,u',v',F',hd⟩;have mv1:Mv (fun b=>F b∨b=N) w (fun b=>F b∨b=N) w1:=⟨c1.mono fun b hb=> .inr hb,fun b hb=> .inl hb,fun b hb=>hb.elim (fun h=>Am (hw.ub b (hw.fu b h)) c1.size) fun e=>e▸nw1.nb.lt⟩;exact⟨rfl,u',v',F',hd.nw,mv1.trans hd.mv,hd.wt,hd.wl,hd.nd,hd.tk,hd.dd,hd.n,hd.s⟩
end
theorem Xm(X N:Nat)(u:Nv)(v:Wv)(F U:tF)(w:tA)(hw:NW w X N u v F U)(x:Af)(hx:u.ax=some x)(hlen:v.fl.length≤1000000000000)(iF:v.sv.length≤1000000000000):cA 70 #[lp N] w fun y w'=>y= .returned (.tuple #[])∧∃u' v' F',Dn w X N u v F U (fm {u.pure with sy:=u.dl.length,af:=none} v.pure x) u' v' F' w':=by
 have gV:cm U w fun w=>aaw w N u.af u.ad (some x):=fun w2 c2=>hx▸(hw.st w2 c2).1.af;have fw:acW (some x):=hx▸hw.ok.Tq;cases x with
 |serve l an=>
  refine qE X N u v F U w hw 92 [lp u.ad.c0,lp u.ad.c1,lp u.ad.c2,lp u.ad.c3] gV.now.1 (by kernel_rfl) _ fun a c w1 i_ c1=> ?_;exact PJ X N (u.synced a c) v F U w1 i_ u.ad.p l u.ad.a u.ad.c an fw.1 fw.2 _ _ _ _ (fun w2 c2=>by obtain⟨_,h0,h1,h2,h3,hl⟩:=gV w2 ((c1.mono fun b hb=>hb▸hw.nu).trans c2 fun _ _ h=>h);exact⟨⟨⟨⟨h0,h1⟩,h2⟩,h3⟩,hl⟩) hlen iF
 |begin l B=>
  obtain rfl:u.ad.m.B=B:=gV.now.2.2.2.2.2.2;refine qE X N u v F U w hw 96 [lp u.ad.c0,lp u.ad.c1,lp u.ad.c2] gV.now.1 (by kernel_rfl) _ fun a c w1 i_ c1=> ?_;exact PI X N (u.synced a c) v F U w1 i_ u.ad.m u.ad.p l u.ad.a u.ad.c fw.1 fw.2 _ _ _ (fun w2 c2=>by obtain⟨_,h0,h1,h2,hl,hm,_⟩:=gV w2 ((c1.mono fun b hb=>hb▸hw.nu).trans c2 fun _ _ h=>h);exact⟨⟨⟨⟨h0,h1⟩,h2⟩,hm⟩,hl⟩) hlen iF
 |shut l B=>
  obtain rfl:u.ad.m.B=B:=gV.now.2.2.2.2.2.2;refine qE X N u v F U w hw 98 [lp u.ad.c0,lp u.ad.c1,lp u.ad.c2] gV.now.1 (by kernel_rfl) _ fun a c w1 i_ c1=> ?_;exact EY X N (u.synced a c) v F U w1 i_ u.ad.m u.ad.p l u.ad.a u.ad.c fw.1 fw.2 _ _ _ (fun w2 c2=>by obtain⟨_,h0,h1,h2,hl,hm,_⟩:=gV w2 ((c1.mono fun b hb=>hb▸hw.nu).trans c2 fun _ _ h=>h);exact⟨⟨⟨⟨h0,h1⟩,h2⟩,hm⟩,hl⟩) hlen iF
 |take l B=>
  obtain rfl:u.ad.m.B=B:=gV.now.2.2.2.2.2.2;refine qE X N u v F U w hw 102 [lp u.ad.c0,lp u.ad.c1,lp u.ad.c2] gV.now.1 (by kernel_rfl) _ fun a c w1 i_ c1=> ?_;exact Tv X N (u.synced a c) v F U w1 i_ u.ad.m u.ad.p l u.ad.a u.ad.c fw.1 fw.2 _ _ _ (fun w2 c2=>by obtain⟨_,h2,h0,h1,hl,hm,_⟩:=gV w2 ((c1.mono fun b hb=>hb▸hw.nu).trans c2 fun _ _ h=>h);exact⟨⟨⟨⟨h0,h1⟩,h2⟩,hm⟩,hl⟩) hlen iF
 |fA q B=>
  obtain rfl:u.ad.m.B=B:=gV.now.2.2.2.2.2;refine qE X N u v F U w hw 105 [lp u.ad.c0,lp u.ad.c1,lp u.ad.c2] gV.now.1 (by kernel_rfl) _ fun a c w1 i_ c1=> ?_;exact PH X N (u.synced a c) v F U w1 i_ u.ad.m q fw.1 fw.2 _ _ _ (fun w2 c2=>by obtain⟨_,h0,h1,h2,hm,_⟩:=gV w2 ((c1.mono fun b hb=>hb▸hw.nu).trans c2 fun _ _ h=>h);exact⟨⟨⟨h0,h1⟩,h2⟩,hm⟩)
section
open Rv
theorem Xn{hd tl:tM}{mo:tT}{hn he:tH}{wt af:tK}{tu a b:Int}{q:Nat}(hq:q<4)(i:Nat):gh (kW hd (gj mo hn he wt af tu) tl) (193+q*2) 2 (lF [iV a,iV b]) i=kW hd (gj mo (ak hn q a) (ak he q b) wt af tu) tl i:=by
 unfold gh;by_cases hc:193+q*2≤i∧i<193+q*2+2
 ·rw[Ae hc];obtain rfl|rfl:i=193+q*2∨i=193+q*2+1:=by omega
  ·rw[Y1 hq,aj,Nat.sub_self];rfl
  ·rw[Np hq,aj,show 193+q*2+1-(193+q*2)=1 by omega];rfl
 ·rw[Aa hc];unfold kW;by_cases h5:i<5
  ·rw[Ae h5,Ae h5]
  ·rw[Aa h5,Aa h5];by_cases h6:i<204
   ·rw[Ae h6,Ae h6];unfold gj;by_cases h7:i-5<188
    ·rw[Ae h7,Ae h7]
    ·rw[Aa h7,Aa h7];by_cases h8:i-5<196
     ·rw[Ae h8,Ae h8];have fR:¬(i-5-188)/2=q:=by omega
      simp only[ak,if_neg fR]
     ·rw[Aa h8,Aa h8]
   ·rw[Aa h6,Aa h6]
theorem PR{B B':Bt}{ep:Int}(h:bp B ep=(B',0)):B'.e=B.e∧B.r=3:=by
 unfold bp at h;split at h
 ·cases h
 ·split at h
  ·cases h
  ·rename_i hr;split at h
   ·cases h
   ·cases h;exact⟨rfl,Br.1 hr⟩
theorem PT{B B':Bt}{ep er:Int}(h:bp B ep=(B',er)):B'.Ok:=by
 unfold bp at h;split at h
 ·cases h;exact Bt.dx
 ·rename_i fw;split at h
  ·cases h;exact Bt.dx
  ·split at h
   ·cases h;exact Bt.dx
   ·cases h;have:=jV (Br.1 fw).cG;exact⟨.inl ⟨rfl,rfl,this.1,this.2,rfl,rfl,rfl⟩,Al _,St.zero,[],.nil⟩
section
variable{u ub u':Nv}{v:Wv}{l:Lt}{B8:Bt}{er:Int}
theorem TD(h:u.he l.q<l.pe):({u with hn:=ak u.hn l.q l.pn,he:=ak u.he l.q l.pe}:Nv).pure=cV u.pure l:=by
 unfold cV;rw[Ae h]
theorem TE(h:¬u.he l.q<l.pe):u.pure=cV u.pure l:=by
 unfold cV;rw[Aa h]
theorem Gu(n:Nd)(s:Ws)(l:Lt):s=(gF n s l).2:=by
 unfold gF;split<;>rfl
theorem PU(hb:ub.pure=cV u.pure l)(h:bp (u.m l.q).B l.pe=(B8,er))(h0:¬er=0):ub.pure=(gF u.pure v.pure l).1:=by
 unfold gF;rw[h,Aa h0,hb]
theorem Lw(hb:ub.pure=cV u.pure l)(h:bp (u.m l.q).B l.pe=(B8,0))(hf:100000<u.dl.length+(cp [⟨7,l.q,B8.e,0,mB⟩]).length):ub.pure=(gF u.pure v.pure l).1:=by
 unfold gF lC;have e:(cV u.pure l).dl=u.dl:=by unfold cV;split<;>rfl
 rw[h,Ae rfl,e,Aa (BL.2 hf),hb];rfl
theorem PV(hb:ub.pure=cV u.pure l)(h:bp (u.m l.q).B l.pe=(B8,0))(hf:u.dl.length+(cp [⟨7,l.q,B8.e,0,mB⟩]).length≤100000):{ub.pure with dl:=u.dl++cp [⟨7,l.q,B8.e,0,mB⟩],af:=some (.fA l.q B8)}=(gF u.pure v.pure l).1:=by
 unfold gF lC;have e:(cV u.pure l).dl=u.dl:=by unfold cV;split<;>rfl
 rw[h,Ae rfl,e,Ae hf,hb];rfl
end
theorem TF(X N:Nat)(u:Nv)(v:Wv)(F U:tF)(w:tA)(hw:NW w X N u v F U)(P:Nat)(l:Lt)(a:tB)(c:Nat)(hq:l.q<4)(hl:cm U w fun w=>eN w P l a c):cA 61 #[lp N,lp P] w fun x w'=>x= .returned (.tuple #[])∧∃u' v' F',Dn w X N u v F U (gF u.pure v.pure l) u' v' F' w':=by
 have ho:aW (jj (u.m l.q)) 47:=eF (hw.st.now.1.mo l.q hq).one;have gV:=jV (hw.ok.ok l.q hq).cG;refine en (H:=[⟨N,123,[.f 206 (mC X u)]⟩]) 62 [vp 0 0 N,vv (lp P)] Tryz.func61 rfl rfl (hw.init (G:=fun w=>eN w P l a c) hl) ?_;refine r [] rfl fun α=>l1 rfl (iV (l.q:Int)) (fun w hS=>hS.now.1.2.b.at 3 (cR rfl)) ?_;refine r [] rfl fun β=> ?_;let u1:(Nat→Int)×(Nat→Int)→Nv:=fun x=>{u with hn:=x.1,he:=x.2};refine aeZ 2 (X:=(Nat→Int)×(Nat→Int)) (fun _=>[(1,vv (lp P)),(2,vp 1 0 (α 0)),(4,vp 2 0 (β 0))]) (fun x=>[⟨N,123,[.f 206 (mC X (u1 x))]⟩,⟨α 0,98,[.p 0 0 N]⟩,⟨β 0,3,[.o (iV (l.q:Int))]⟩]) (fun _ b=>F b∨(U b∧b≠N)) (fun _ w=>(u.In w N∧∀r∈v.fl,oH w r)∧eN w P l a c) (fun _=>RW X (fun b=>b∈[N]) F w v F) (fun x=>(u1 x).pure=cV u.pure l) ?_ ?_
 case refine_2=>
  refine r [3] rfl fun _=>l1 rfl (iV l.pe) (fun w hS=>hS.now.1.2.b.at 16 (cR rfl)) (r [1] rfl fun _=>lo1 rfl rfl 0 rfl (iV (u.he l.q)) (Np hq) ?_);by_cases N3:u.he l.q<l.pe
  case neg=>exact r [0] rfl fun _=>bJ (u.hn,u.he) ⟨rfl,rfl,rfl,trivial⟩ (fun _ hS=>hS) (TE N3) Bp
  refine r [1,3] rfl fun _=>lf rfl 2 (lF [iV l.pn,iV l.pe]) (fun w hS j hj=>(hS.now.1.2.b.at (15+j) (by omega)).trans (AB some (qs rfl hj))) (r [1] rfl fun _=>so rfl rfl rfl 0 rfl (mC X (u1 (ak u.hn l.q l.pn,ak u.he l.q l.pe))) (fun i _=>Xn hq i) ?_ (Ss rfl));exact r [] rfl fun _=>bJ (ak u.hn l.q l.pn,ak u.he l.q l.pe) ⟨rfl,rfl,rfl,trivial⟩ (fun _ hS=>hS) (TD N3) Bp
 rintro f ⟨hn,he⟩ hh;have hh:({u with hn:=hn,he:=he}:Nv).pure=cV u.pure l:=hh;refine r [] rfl fun _=>cut (X:=Nat×Int×Bt×Option Addr×Nat×(Nat→Value)) (fun x=>[(2,vp 1 0 (α 0)),(4,vp 2 0 (β 0)),(5,vp 3 0 x.1),(6,vi x.2.1)]) (fun x=>[⟨N,123,[.f 206 (mC X (u1 (hn,he)))]⟩,⟨α 0,98,[.p 0 0 N]⟩,⟨β 0,3,[.o (iV (l.q:Int))]⟩,⟨x.1,114,qa x.2.2.1 x.2.2.2.1 x.2.2.2.2.1 x.2.2.2.2.2⟩]) (fun _ b=>F b∨(U b∧b≠N)) (fun x w=>((u.In w N∧∀r∈v.fl,oH w r)∧eN w P l a c)∧ki w x.2.2.1 x.2.2.2.1 x.2.2.2.2.1 x.2.2.2.2.2) (fun _=>RW X (fun b=>b∈[N]) F w v F) (fun x=>bp (u.m l.q).B l.pe=(x.2.2.1,x.2.1)) ?_ (r [4,1] rfl fun _=>lo rfl rfl 0 rfl 47 (jj (u.m l.q)) (fun i hi=>oG hq hi) (r [] rfl fun _=>l1 rfl (iV l.pe) (fun w hS=>hS.now.1.2.b.at 16 (cR rfl)) ?_))
 case refine_2=>
  repeat' first|refine FC ?_ ?_|(refine cx (g:=104) rfl (fun y:Int×Bt×Option Addr×Nat×(Nat→Value)=>vt [.g (qa y.2.1 y.2.2.1 y.2.2.2.1 y.2.2.2.2),.o (iV y.1)]) (fun y=>bp (u.m l.q).B l.pe=(y.2.1,y.1)∧aW y.2.2.2.2 41) (fun y w=>ki w y.2.1 y.2.2.1 y.2.2.2.1 y.2.2.2.2) ?_ ?_;exact fun w hS=>(Iv (fun _=>True) (u.m l.q).B (u.m l.q).a (u.m l.q).c (u.m l.q).g l.pe w (hw.ok.ok l.q hq)).mono fun _ _ ⟨_,B8,er8,h0,fJ,⟨a8,c8,g8,hy,hm8⟩,b⟩=>⟨(er8,B8,a8,c8,g8),by rw[h0,hy];rfl,b,⟨fJ,hm8.now.one⟩,fun _=>hm8.mono fun _ _ _=>trivial⟩;rintro⟨er8,B8,a8,c8,g8⟩ ⟨fJ,o8⟩)|refine rs [] rfl rfl fun _=> ?_
  all_goals exact bJ (_,er8,B8,a8,c8,g8) ⟨rfl,rfl,rfl,rfl,trivial⟩ (fun w hS=>hS.Kj [0,1,2,3] (by decide)) fJ Bp
 rintro f ⟨R5,er8,B8,a8,c8,g8⟩ fJ;have fJ:bp (u.m l.q).B l.pe=(B8,er8):=fJ;by_cases h0:er8=0
 case neg=>exact r [0] rfl fun _=>dt rfl fun w hS=>⟨rfl,_,v,F,Dn.fin (u':=u1 (hn,he)) hS hw.ub hw.nu (fun _ h=>⟨⟨h.1.1.1.row,h.1.1.1.mo,h.1.1.1.af,h.1.1.1.wl⟩,h.1.1.2⟩) (⟨hw.ok.ok,hw.ok.nil,hw.ok.cap,hw.ok.max,hw.ok.len,hw.ok.s0,hw.ok.s1,hw.ok.i5,hw.ok.Tq⟩) rfl rfl rfl rfl rfl (PU hh fJ h0) (Gu _ _ _)⟩
 subst h0;obtain⟨he8,hr8⟩:=PR fJ;refine r [1] rfl fun δ=>kp 4 rfl (c0 rfl fun w1 hS=> ?_);obtain⟨oV,hu2,hu3⟩:=hS.rW;refine(ji X N u.i u.da u.dl.length u.dc u.dl u.sy (fun p=>jj (u.m p)) hn he u.wt u.af u.tu u.ct u.ub u.sk (.func 105) #[] #[.pointer (some ⟨R5,0,none⟩),.pointer (some ⟨α 0,0,none⟩),.pointer (some ⟨β 0,0,none⟩)] [⟨7,l.q,B8.e,0,mB⟩] (some ⟨δ 0,0,none⟩) 1 1 _ (hS.at 0 rfl) _ oV hu2 (fun w2 cc=>⟨(hu3 w2 cc).1.1.1.1.row,mT ⟨7,l.q,B8.e,0,mB⟩ (pJ (by decide) hq (by rw[he8];exact gV) (by decide) qD) (hu3 w2 cc).2⟩) hw.ok.nil hw.ok.cap hw.ok.max hw.ok.len hw.ok.s0 hw.ok.s1 rfl (by decide) (fun r hr=>by rw[Ab.1 hr];exact vo (by decide) (by decide) hq (by rw[he8];exact gV) (by decide))).mono ?_;rintro _ w2 ⟨k,rfl,ch,⟨rfl,i_,a2,c2,wK,st2,jM,r_,rX⟩|⟨rfl,i_,wK⟩⟩
 ·refine⟨vv (.bool true),_,_,rfl,ch,wK,st2,r [] rfl fun _=>dt rfl fun w3 hS=> ?_⟩;let u2:Nv:={u1 (hn,he)with da:=a2,dc:=c2,dl:=u.dl++cp [⟨7,l.q,B8.e,0,mB⟩],af:= .func (.func 105) #[] #[.pointer (some ⟨R5,0,none⟩),.pointer (some ⟨α 0,0,none⟩),.pointer (some ⟨β 0,0,none⟩)],ax:=some (.fA l.q B8),ad:=⟨R5,α 0,β 0,0,0,none,0,⟨B8,a8,c8,g8⟩⟩};replace hS:=((hS.take 1).add (hS.kept 3 rfl 1 (cR rfl))).add (hS.kept 1 rfl 1 (cR rfl))|>.add (hS.kept 2 rfl 1 (cR rfl))
  replace hS:=hS.congr 0 rfl (mC X u2) (fun i _=>by simp only[u2,u1,mC,List.length_append];rfl);exact⟨rfl,u2,v,F,Dn.fin hS hw.ub hw.nu (fun _ h=>⟨⟨by rw[Ag];exact h.1.1.1.2,h.1.1.1.1.1.1.1.1.mo,⟨rfl,h.1.1.2,h.1.2,h.2,h.1.1.1.1.1.2,rfl⟩,h.1.1.1.1.1.1.1.1.wl⟩,h.1.1.1.1.1.1.1.2⟩) (⟨hw.ok.ok,r_,by rw[Ag];exact jM,rX,by rw[Ag];exact i_,hw.ok.s0,by rw[Ag];show u.sy≤_;have:=hw.ok.s1;omega,hw.ok.i5,⟨hq,PT fJ⟩⟩) rfl rfl rfl rfl rfl (PV hh fJ i_) (Gu _ _ _)⟩
 ·refine⟨vv (.bool false),_,fun _=>True,rfl,ch,wK,fun _ _=>trivial,r [] rfl fun _=>dt rfl fun w hS=> ?_⟩;exact⟨rfl,_,v,F,Dn.fin (u':=u1 (hn,he)) hS hw.ub hw.nu (fun _ h=>⟨⟨h.1.1.1.1.1.row,h.1.1.1.1.1.mo,h.1.1.1.1.1.af,h.1.1.1.1.1.wl⟩,h.1.1.1.1.2⟩) (⟨hw.ok.ok,hw.ok.nil,hw.ok.cap,hw.ok.max,hw.ok.len,hw.ok.s0,hw.ok.s1,hw.ok.i5,hw.ok.Tq⟩) rfl rfl rfl rfl rfl (Lw hh fJ i_) (Gu _ _ _)⟩
theorem Jp{B B':Bt}{ep fr:Int}(h:aP B ep fr=(B',0)):(1≤ep∧ep≤1048576)∧0≤fr∧fr≤4:=by
 unfold aP at h;split at h
 ·cases h
 ·split at h
  ·cases h
  ·rename_i h2;exact Br.1 h2
theorem Jq{B B':Bt}{ep fr er:Int}(h:aP B ep fr=(B',er)):B'.Ok:=by
 unfold aP at h;split at h
 ·cases h;exact Bt.dx
 ·rename_i fw;split at h
  ·cases h;exact Bt.dx
  ·rename_i h2;split at h
   ·cases h;exact Bt.dx
   ·split at h
    ·cases h;exact Br.1 fw
    ·split at h
     ·cases h;exact Bt.dx
     ·cases h;have:=Br.1 h2;exact⟨.inr (.inr (.inr (.inr ⟨rfl,this.1.1,this.1.2,this.2.1,this.2.2,rfl,rfl⟩))),Al _,St.zero,[],.nil⟩
section
variable{u:Nv}{v:Wv}{l:Lt}{B8:Bt}{er:Int}
theorem EZ(h:aP (u.m l.q).B l.ep l.fr=(B8,er))(h0:¬er=0):gE u.pure v.pure l=(u.pure,v.pure):=by
 unfold gE;rw[h,Ae h0]
theorem CD(h:aP (u.m l.q).B l.ep l.fr=(B8,0))(h0:B8.e=(u.m l.q).B.e):gE u.pure v.pure l=(u.pure,oJ u.pure v.pure l.q):=by
 unfold gE;rw[h,Aa (fun h=>h rfl),Ae h0]
theorem CE(h:aP (u.m l.q).B l.ep l.fr=(B8,0))(h0:¬B8.e=(u.m l.q).B.e)(hf:100000<u.dl.length+(cp [⟨4,l.q,l.ep,l.fr,mB⟩]).length):gE u.pure v.pure l=(u.pure,v.pure):=by
 unfold gE lC;rw[h,Aa (fun h=>h rfl),Aa h0,Aa (BL.2 hf)];rfl
theorem E0(h:aP (u.m l.q).B l.ep l.fr=(B8,0))(h0:¬B8.e=(u.m l.q).B.e)(hf:u.dl.length+(cp [⟨4,l.q,l.ep,l.fr,mB⟩]).length≤100000):gE u.pure v.pure l=({u.pure with dl:=u.dl++cp [⟨4,l.q,l.ep,l.fr,mB⟩],af:=some (.begin l B8)},v.pure):=by
 unfold gE lC;rw[h,Aa (fun h=>h rfl),Aa h0,Ae hf];rfl
end
theorem TG(X N:Nat)(u:Nv)(v:Wv)(F U:tF)(w:tA)(hw:NW w X N u v F U)(P:Nat)(l:Lt)(a:tB)(c:Nat)(hq:l.q<4)(hl:cm U w fun w=>eN w P l a c)(hlen:v.fl.length≤1000000000000)(iF:v.sv.length≤1000000000000):cA 58 #[lp N,lp P] w fun x w'=>x= .returned (.tuple #[])∧∃u' v' F',Dn w X N u v F U (gE u.pure v.pure l) u' v' F' w':=by
 have lY:=(hw.st.now.1.mo l.q hq).one;have ho:aW (jj (u.m l.q)) 47:=eF lY;have gV:=jV (hw.ok.ok l.q hq).cG;refine en (H:=[nE X N u]) 66 [vp 0 0 N,vv (lp P)] Tryz.func58 rfl rfl (hw.init (G:=fun w=>eN w P l a c) hl) ?_;refine r [3] rfl fun α=>l1 rfl (iV (l.q:Int)) (fun w hS=>hS.now.1.2.b.at 3 (cR rfl)) (r [1] rfl fun _=>lo rfl rfl 0 rfl 47 (jj (u.m l.q)) (fun i hi=>oG hq hi) ?_);refine r [] rfl fun β=>cut (X:=Nat×Int×OP) (fun x=>[(2,vp 1 0 (α 0)),(3,vp 2 0 (α 1)),(4,vp 3 0 (β 0)),(5,vp 4 0 x.1),(6,vi x.2.1)]) (fun x=>[nE X N u,npE (α 0) 0 N,lpE (α 1) P,mgE (β 0) (u.m l.q),moE x.1 x.2.2.1 x.2.2.2.1 x.2.2.2.2.1 x.2.2.2.2.2]) (fun _ b=>F b∨(U b∧b≠N)) (fun x w=>((u.In w N∧∀r∈v.fl,oH w r)∧eN w P l a c)∧Sw x.2.2 w) (fun _=>RW X (fun b=>b∈[N]) F w v F) (fun x=>aP (u.m l.q).B l.ep l.fr=(x.2.2.1,x.2.1)) ?_ (r [4] rfl fun _=>l1 rfl (iV l.ep) (fun w hS=>hS.now.1.2.b.at 17 (cR rfl)) (r [] rfl fun _=>l1 rfl (iV l.fr) (fun w hS=>hS.now.1.2.b.at 1 (cR rfl)) ?_))
 case refine_2=>
  repeat' first|refine FC ?_ ?_|(refine cx (g:=94) rfl (fun y:Int×OP=>vt [KV y.2,.o (iV y.1)]) (fun y=>aP (u.m l.q).B l.ep l.fr=(y.2.1,y.1)∧aW y.2.2.2.2 41) (fun y=>Sw y.2) ?_ ?_;exact fun w hS=>(KX _ (u.m l.q).B (u.m l.q).a (u.m l.q).c (u.m l.q).g l.ep l.fr w hS.ult (fun w2 c2=>(hS.g w2 c2).1.1.mo l.q hq) (hw.ok.ok l.q hq)).mono fun _ _ ⟨_,B8,er8,h0,fJ,⟨a8,c8,g8,hy,hm8⟩,b⟩=>⟨(er8,B8,a8,c8,g8),by rw[h0,hy];rfl,b,⟨fJ,hm8.now.one⟩,fun _=>hm8⟩;rintro⟨er8,B8,a8,c8,g8⟩ ⟨fJ,o8⟩)|refine rs [] rfl rfl fun _=> ?_
  all_goals exact bJ (_,er8,B8,a8,c8,g8) ⟨rfl,rfl,rfl,rfl,rfl,trivial⟩ (fun w hS=>hS.Kj [0,1,2,3,4] (by decide)) fJ Bp
 rintro f ⟨R5,er8,B8,a8,c8,g8⟩ fJ;have fJ:aP (u.m l.q).B l.ep l.fr=(B8,er8):=fJ;by_cases h0:er8=0
 case neg=>exact r [1] rfl fun _=>dt rfl fun w hS=>⟨rfl,u,v,F,Dn.fin hS hw.ub hw.nu (fun _ h=>⟨h.1.1.1,h.1.1.2⟩) hw.ok rfl rfl rfl rfl rfl (by rw[EZ fJ h0]) (by rw[EZ fJ h0])⟩
 subst h0;obtain⟨n_,Du⟩:=Jp fJ;refine r [0] rfl fun _=> ?_;by_cases he8:B8.e=(u.m l.q).B.e
 ·refine r [1,3] rfl fun _=>l1 rfl (iV (l.q:Int)) (fun w hS=>hS.now.1.1.2.b.at 3 (cR rfl)) (r [] rfl fun _=>cw rfl (vt []) _ _ (fun w hS=>Gs X v F _ w N u l.q hq lY hS.now.2.wo hS.ult (fun b h=> .inr (.inl h)) (fun w2 c2=>(hS.xQ 0 rfl w2 (c2.mono fun b h=> .inl h)).2) hlen) fun P1 F1=>r [] rfl fun _=>dt rfl fun w hS=> ?_);exact⟨rfl,u,_,F1,Dn.fin hS hw.ub hw.nu (fun _ h=>⟨h.1.1.1.1,gf h.1.1.1.2 h.2⟩) hw.ok rfl rfl rfl rfl rfl (by rw[CD fJ he8]) (by rw[CD fJ he8,kG];rfl)⟩
 refine r [0,3] rfl fun _=>l1 rfl (iV (l.q:Int)) (fun w hS=>hS.now.1.1.2.b.at 3 (cR rfl)) (r [] rfl fun _=>l1 rfl (iV l.ep) (fun w hS=>hS.now.1.1.2.b.at 17 (cR rfl)) (r [] rfl fun _=>l1 rfl (iV l.fr) (fun w hS=>hS.now.1.1.2.b.at 1 (cR rfl)) (r [] rfl fun δ=>kp 5 rfl (c0 rfl fun w1 hS=> ?_))));obtain⟨oV,hu2,hu3⟩:=hS.rW;refine(ji X N u.i u.da u.dl.length u.dc u.dl u.sy (fun p=>jj (u.m p)) (u.hn) (u.he) u.wt u.af u.tu u.ct u.ub u.sk (.func 96) #[] #[.pointer (some ⟨R5,0,none⟩),.pointer (some ⟨α 0,0,none⟩),.pointer (some ⟨α 1,0,none⟩)] [⟨4,l.q,l.ep,l.fr,mB⟩] (some ⟨δ 0,0,none⟩) 1 1 _ (hS.at 0 rfl) _ oV hu2 (fun w2 cc=>⟨(hu3 w2 cc).1.1.1.1.row,mT ⟨4,l.q,l.ep,l.fr,mB⟩ (pJ (by decide) hq ⟨by omega,by omega⟩ Du qD) (hu3 w2 cc).2⟩) hw.ok.nil hw.ok.cap hw.ok.max hw.ok.len hw.ok.s0 hw.ok.s1 rfl (by decide) (fun r hr=>by rw[Ab.1 hr];exact vo (by decide) (by decide) hq ⟨by omega,by omega⟩ Du)).mono ?_;rintro _ w2 ⟨k,rfl,ch,⟨rfl,i_,a2,c2,wK,st2,jM,r_,rX⟩|⟨rfl,i_,wK⟩⟩
 ·refine⟨vv (.bool true),_,_,rfl,ch,wK,st2,r [] rfl fun _=>dt rfl fun w3 hS=> ?_⟩;let u2:Nv:={u with da:=a2,dc:=c2,dl:=u.dl++cp [⟨4,l.q,l.ep,l.fr,mB⟩],af:= .func (.func 96) #[] #[.pointer (some ⟨R5,0,none⟩),.pointer (some ⟨α 0,0,none⟩),.pointer (some ⟨α 1,0,none⟩)],ax:=some (.begin l B8),ad:=⟨R5,α 0,α 1,0,P,a,c,⟨B8,a8,c8,g8⟩⟩};replace hS:=((hS.take 1).add (hS.kept 4 rfl 1 (cR rfl))).add (hS.kept 1 rfl 1 (cR rfl))|>.add (hS.kept 2 rfl 1 (cR rfl))
  replace hS:=hS.congr 0 rfl (mC X u2) (fun i _=>by simp only[u2,mC,List.length_append];rfl);exact⟨rfl,u2,v,F,Dn.fin hS hw.ub hw.nu (fun _ h=>⟨⟨by rw[Ag];exact h.1.1.1.2,h.1.1.1.1.1.1.1.1.mo,⟨rfl,h.1.1.2,h.1.2,h.2,h.1.1.1.1.1.1.2,h.1.1.1.1.1.2,rfl⟩,h.1.1.1.1.1.1.1.1.wl⟩,h.1.1.1.1.1.1.1.2⟩) (⟨hw.ok.ok,r_,by rw[Ag];exact jM,rX,by rw[Ag];exact i_,hw.ok.s0,by rw[Ag];show u.sy≤_;have:=hw.ok.s1;omega,hw.ok.i5,⟨hq,Jq fJ⟩⟩) rfl rfl rfl rfl rfl (by rw[E0 fJ he8 i_]) (by rw[E0 fJ he8 i_])⟩
 ·refine⟨vv (.bool false),_,fun _=>True,rfl,ch,wK,fun _ _=>trivial,r [] rfl fun _=>dt rfl fun w hS=> ?_⟩;exact⟨rfl,u,v,F,Dn.fin hS hw.ub hw.nu (fun _ h=>⟨h.1.1.1.1.1,h.1.1.1.1.2⟩) hw.ok rfl rfl rfl rfl rfl (by rw[CE fJ he8 i_]) (by rw[CE fJ he8 i_])⟩
theorem toNM{U F:tF}{N b:Nat}(h:U b∨F b):b∈[N]∨F b∨(U b∧b≠N):=by
 rcases h with h|h
 ·by_cases e:b=N
  ·exact .inl (e▸Ab.2 rfl)
  ·exact .inr (.inr ⟨h,e⟩)
 ·exact .inr (.inl h)
theorem toHM{U F:tF}{N b:Nat}{H:tW}(h:U b∨F b):b∈N::H∨F b∨(U b∧b≠N):=(toNM h).imp (fun h=>by rw[Ab.1 h];exact Aq ..) id
theorem oN{B B':Bt}{hv er:Int}(h:aL B hv=(B',er)):B'.Ok:=by
 unfold aL at h;split at h
 ·cases h;exact Bt.dx
 ·rename_i h0;have h1:=Br.1 h0;unfold dA at h1;split at h1
  ·cases h1
  ·rename_i fw;have ok:=Br.1 fw;split at h1
   ·cases h1
   ·rename_i hr;have hr:=Br.1 hr;split at h
    ·cases h;exact ok
    ·rename_i h3;have hs:=ok.cG;unfold Bt.b_ bg at hs;split at h
     ·cases h;refine⟨?_,ok.len,ok.told⟩;rcases hs with k|k|k|k|k
      ·exact absurd k.1 (by omega)
      ·exact absurd k.1 (by omega)
      ·exact .inr (.inr (.inr (.inl ⟨rfl,k.2.1,k.2.2.1,k.2.2.2.1,k.2.2.2.2.1,k.2.2.2.2.2.1,rfl⟩)))
      ·exact absurd k.1 h3
      ·exact absurd k.1 (by omega)
     ·rename_i h4;cases h;refine⟨?_,ok.len,ok.told⟩;rcases hs with k|k|k|k|k
      ·exact absurd k.1 (by omega)
      ·exact absurd k.1 (by omega)
      ·exact .inr (.inr (.inl ⟨k.1,k.2.1,k.2.2.1,k.2.2.2.1,k.2.2.2.2.1,k.2.2.2.2.2.1,by show 0≤B.o+1;omega,by show B.o+1≤4;omega⟩))
      ·exact absurd k.1 h3
      ·exact absurd k.1 (by omega)
section
variable{u:Nv}{v:Wv}{l:Lt}{B8:Bt}{er:Int}
theorem rN(h:¬(u.m l.q).B.t=l.fr∨¬(u.m l.q).B.e+1=l.ep):fj u.pure v.pure l=(u.pure,v.pure):=by
 unfold fj;rw[Ae h]
theorem E1(ht:(u.m l.q).B.t=l.fr)(he:(u.m l.q).B.e+1=l.ep)(h:aL (u.m l.q).B l.pl=(B8,er))(h0:¬er=0):fj u.pure v.pure l=(u.pure,v.pure):=by
 unfold fj;rw[Aa (fun k=>k.elim (fun k=>k ht) fun k=>k he),h,Ae h0]
theorem CF(ht:(u.m l.q).B.t=l.fr)(he:(u.m l.q).B.e+1=l.ep)(h:aL (u.m l.q).B l.pl=(B8,0))(hr:B8.r=(u.m l.q).B.r):fj u.pure v.pure l=fm u.pure v.pure (.shut l B8):=by
 unfold fj;rw[Aa (fun k=>k.elim (fun k=>k ht) fun k=>k he),h,Aa (fun h=>h rfl),Ae hr];rfl
theorem CG(ht:(u.m l.q).B.t=l.fr)(he:(u.m l.q).B.e+1=l.ep)(h:aL (u.m l.q).B l.pl=(B8,0))(hr:¬B8.r=(u.m l.q).B.r)(hf:100000<u.dl.length+(cp [⟨3,l.q,(u.m l.q).B.e,(u.m l.q).B.t,mB⟩]).length):fj u.pure v.pure l=(u.pure,v.pure):=by
 unfold fj lC;rw[Aa (fun k=>k.elim (fun k=>k ht) fun k=>k he),h,Aa (fun h=>h rfl),Aa hr,Aa (BL.2 hf)];rfl
theorem E2(ht:(u.m l.q).B.t=l.fr)(he:(u.m l.q).B.e+1=l.ep)(h:aL (u.m l.q).B l.pl=(B8,0))(hr:¬B8.r=(u.m l.q).B.r)(hf:u.dl.length+(cp [⟨3,l.q,(u.m l.q).B.e,(u.m l.q).B.t,mB⟩]).length≤100000):fj u.pure v.pure l=({u.pure with dl:=u.dl++cp [⟨3,l.q,(u.m l.q).B.e,(u.m l.q).B.t,mB⟩],af:=some (.shut l B8)},v.pure):=by
 unfold fj lC;rw[Aa (fun k=>k.elim (fun k=>k ht) fun k=>k he),h,Aa (fun h=>h rfl),Aa hr,Ae hf];rfl
theorem Xo{B:Bt}(h:B.b_):0≤B.t∧B.t≤4:=by
 unfold Bt.b_ bg at h;omega
end
theorem TH(X N:Nat)(u:Nv)(v:Wv)(F U:tF)(w:tA)(hw:NW w X N u v F U)(P:Nat)(l:Lt)(a:tB)(c:Nat)(hq:l.q<4)(hl:cm U w fun w=>eN w P l a c)(hlen:v.fl.length≤1000000000000)(iF:v.sv.length≤1000000000000):cA 59 #[lp N,lp P] w fun x w'=>x= .returned (.tuple #[])∧∃u' v' F',Dn w X N u v F U (fj u.pure v.pure l) u' v' F' w':=by
 have ho:aW (jj (u.m l.q)) 47:=eF (hw.st.now.1.mo l.q hq).one;have gV:=jV (hw.ok.ok l.q hq).cG;have Xp:=Xo (hw.ok.ok l.q hq).cG;refine en (H:=[nE X N u]) 73 [vp 0 0 N,vv (lp P)] Tryz.func59 rfl rfl (hw.init (G:=fun w=>eN w P l a c) hl) ?_;refine r [3] rfl fun α=>l1 rfl (iV (l.q:Int)) (fun w hS=>hS.now.1.2.b.at 3 (cR rfl)) (r [1] rfl fun _=>lo rfl rfl 0 rfl 47 (jj (u.m l.q)) (fun i hi=>oG hq hi) ?_);refine r [3] rfl fun β=>l1 rfl (iV l.fr) (fun w hS=>hS.now.1.2.b.at 1 (cR rfl)) ?_;by_cases ht:(u.m l.q).B.t=l.fr
 case neg=>exact r [1] rfl fun _=>r [] rfl fun _=>fin fun w hS=>⟨rfl,u,v,F,Dn.fin hS hw.ub hw.nu (fun _ h=>⟨h.1.1,h.1.2⟩) hw.ok rfl rfl rfl rfl rfl (by rw[rN (.inl ht)]) (by rw[rN (.inl ht)])⟩
 refine rz [0,1] [(u.m l.q).B.e+1] rfl fun _=> ?_;refine l1 rfl (iV l.ep) (fun w hS=>hS.now.1.2.b.at 17 (cR rfl)) ?_;by_cases zk:(u.m l.q).B.e+1=l.ep
 case neg=>exact r [1] rfl fun _=>fin fun w hS=>⟨rfl,u,v,F,Dn.fin hS hw.ub hw.nu (fun _ h=>⟨h.1.1,h.1.2⟩) hw.ok rfl rfl rfl rfl rfl (by rw[rN (.inr zk)]) (by rw[rN (.inr zk)])⟩
 refine r [0] rfl fun _=>cut (X:=Nat×Int×OP) (fun x=>[(2,vp 1 0 (α 0)),(3,vp 2 0 (α 1)),(4,vp 3 0 (β 0)),(5,vp 4 0 x.1),(6,vi x.2.1)]) (fun x=>[nE X N u,npE (α 0) 0 N,lpE (α 1) P,mgE (β 0) (u.m l.q),moE x.1 x.2.2.1 x.2.2.2.1 x.2.2.2.2.1 x.2.2.2.2.2]) (fun _ b=>F b∨(U b∧b≠N)) (fun x w=>((u.In w N∧∀r∈v.fl,oH w r)∧eN w P l a c)∧Sw x.2.2 w) (fun _=>RW X (fun b=>b∈[N]) F w v F) (fun x=>aL (u.m l.q).B l.pl=(x.2.2.1,x.2.1)) ?_ (r [4] rfl fun _=>l1 rfl (iV l.pl) (fun w hS=>hS.now.1.2.b.at 18 (cR rfl)) ?_)
 case refine_2=>
  repeat' first|refine FC ?_ ?_|(refine cx (g:=97) rfl (fun y:Int×OP=>vt [KV y.2,.o (iV y.1)]) (fun y=>aL (u.m l.q).B l.pl=(y.2.1,y.1)∧aW y.2.2.2.2 41) (fun y=>Sw y.2) ?_ ?_;exact fun w hS=>(Ix _ (u.m l.q).B (u.m l.q).a (u.m l.q).c (u.m l.q).g l.pl w hS.ult (fun w2 c2=>(hS.g w2 c2).1.1.mo l.q hq) (hw.ok.ok l.q hq)).mono fun _ _ ⟨_,B8,er8,h0,fJ,⟨a8,c8,g8,hy,hm8⟩,b⟩=>⟨(er8,B8,a8,c8,g8),by rw[h0,hy];rfl,b,⟨fJ,hm8.now.one⟩,fun _=>hm8⟩;rintro⟨er8,B8,a8,c8,g8⟩ ⟨fJ,o8⟩)|refine rs [] rfl rfl fun _=> ?_
  all_goals exact bJ (_,er8,B8,a8,c8,g8) ⟨rfl,rfl,rfl,rfl,rfl,trivial⟩ (fun w hS=>hS.Kj [0,1,2,3,4] (by decide)) fJ Bp
 rintro f ⟨R5,er8,B8,a8,c8,g8⟩ fJ;have fJ:aL (u.m l.q).B l.pl=(B8,er8):=fJ;by_cases h0:er8=0
 case neg=>exact r [1] rfl fun _=>fin fun w hS=>⟨rfl,u,v,F,Dn.fin hS hw.ub hw.nu (fun _ h=>⟨h.1.1.1,h.1.1.2⟩) hw.ok rfl rfl rfl rfl rfl (by rw[E1 ht zk fJ h0]) (by rw[E1 ht zk fJ h0])⟩
 subst h0;refine r [0] rfl fun _=> ?_;by_cases rV:B8.r=(u.m l.q).B.r
 ·refine r [1] rfl fun _=>ct rfl (vt []) (fun(y:Nv×Wv×(Nat→Prop)) w'=>Dn w X N u v F U (fj u.pure v.pure l) y.1 y.2.1 y.2.2 w') (fun x hS=> ?_) (fun _ _ _ h b=>h.next b) fun y=>r [] rfl fun _=>fin fun w hS=>⟨rfl,y.1,y.2.1,y.2.2,hS.now.2⟩;have Ln:=Dn.fin (r:=(u.pure,v.pure)) (u:=u) (v:=v) (F:=F) hS hw.ub hw.nu (fun _ h=>⟨h.1.1.1,h.1.1.2⟩) hw.ok rfl rfl rfl rfl rfl rfl rfl;have Vi:cm (fun b=>U b∨F b) x (fun y=>((((bh y R5 114 47 (jj ⟨B8,a8,c8,g8⟩))∧bh y (α 0) 98 1 (fun _=>lp N))∧bh y (α 1) 148 1 (fun _=>lp P))∧oI y ⟨B8,a8,c8,g8⟩)∧eN y P l a c):=fun w2 c2=>⟨⟨⟨⟨((hS.kept 4 rfl 1 (cR rfl)).mono fun b _ h=>toNM h) w2 c2,((hS.kept 1 rfl 1 (cR rfl)).mono fun b _ h=>toNM h) w2 c2⟩,((hS.kept 2 rfl 1 (cR rfl)).mono fun b _ h=>toNM h) w2 c2⟩,(hS.g w2 (c2.mono fun b h=>toHM h)).2⟩,(hS.g w2 (c2.mono fun b h=>toHM h)).1.2⟩;refine(EY X N u v F _ x Ln.nw ⟨B8,a8,c8,g8⟩ P l a c hq (oN fJ) _ _ _ Vi hlen iF).mono ?_;rintro _ w7 ⟨rfl,u2,v2,F2,DS⟩;exact⟨rfl,(u2,v2,F2),(Ln.trans DS).to (by rw[CF ht zk fJ rV]) (by rw[CF ht zk fJ rV])⟩
 refine r [0,3] rfl fun _=>l1 rfl (iV (l.q:Int)) (fun w hS=>hS.now.1.1.2.b.at 3 (cR rfl)) (r [] rfl fun δ=>kp 5 rfl (c0 rfl fun w1 hS=> ?_));obtain⟨oV,hu2,hu3⟩:=hS.rW;refine(ji X N u.i u.da u.dl.length u.dc u.dl u.sy (fun p=>jj (u.m p)) (u.hn) (u.he) u.wt u.af u.tu u.ct u.ub u.sk (.func 98) #[] #[.pointer (some ⟨R5,0,none⟩),.pointer (some ⟨α 0,0,none⟩),.pointer (some ⟨α 1,0,none⟩)] [⟨3,l.q,(u.m l.q).B.e,(u.m l.q).B.t,mB⟩] (some ⟨δ 0,0,none⟩) 1 1 _ (hS.at 0 rfl) _ oV hu2 (fun w2 cc=>⟨(hu3 w2 cc).1.1.1.1.row,mT ⟨3,l.q,(u.m l.q).B.e,(u.m l.q).B.t,mB⟩ (pJ (by decide) hq gV Xp qD) (hu3 w2 cc).2⟩) hw.ok.nil hw.ok.cap hw.ok.max hw.ok.len hw.ok.s0 hw.ok.s1 rfl (by decide) (fun r hr=>by rw[Ab.1 hr];exact vo (by decide) (by decide) hq gV Xp)).mono ?_;rintro _ w2 ⟨k,rfl,ch,⟨rfl,i_,a2,c2,wK,st2,jM,r_,rX⟩|⟨rfl,i_,wK⟩⟩
 ·refine⟨vv (.bool true),_,_,rfl,ch,wK,st2,r [] rfl fun _=>dt rfl fun w3 hS=> ?_⟩;let u2:Nv:={u with da:=a2,dc:=c2,dl:=u.dl++cp [⟨3,l.q,(u.m l.q).B.e,(u.m l.q).B.t,mB⟩],af:= .func (.func 98) #[] #[.pointer (some ⟨R5,0,none⟩),.pointer (some ⟨α 0,0,none⟩),.pointer (some ⟨α 1,0,none⟩)],ax:=some (.shut l B8),ad:=⟨R5,α 0,α 1,0,P,a,c,⟨B8,a8,c8,g8⟩⟩};replace hS:=((hS.take 1).add (hS.kept 4 rfl 1 (cR rfl))).add (hS.kept 1 rfl 1 (cR rfl))|>.add (hS.kept 2 rfl 1 (cR rfl))
  replace hS:=hS.congr 0 rfl (mC X u2) (fun i _=>by simp only[u2,mC,List.length_append];rfl);exact⟨rfl,u2,v,F,Dn.fin hS hw.ub hw.nu (fun _ h=>⟨⟨by rw[Ag];exact h.1.1.1.2,h.1.1.1.1.1.1.1.1.mo,⟨rfl,h.1.1.2,h.1.2,h.2,h.1.1.1.1.1.1.2,h.1.1.1.1.1.2,rfl⟩,h.1.1.1.1.1.1.1.1.wl⟩,h.1.1.1.1.1.1.1.2⟩) (⟨hw.ok.ok,r_,by rw[Ag];exact jM,rX,by rw[Ag];exact i_,hw.ok.s0,by rw[Ag];show u.sy≤_;have:=hw.ok.s1;omega,hw.ok.i5,⟨hq,oN fJ⟩⟩) rfl rfl rfl rfl rfl (by rw[E2 ht zk fJ rV i_]) (by rw[E2 ht zk fJ rV i_])⟩
 ·refine⟨vv (.bool false),_,fun _=>True,rfl,ch,wK,fun _ _=>trivial,r [] rfl fun _=>dt rfl fun w hS=> ?_⟩;exact⟨rfl,u,v,F,Dn.fin hS hw.ub hw.nu (fun _ h=>⟨h.1.1.1.1.1,h.1.1.1.1.2⟩) hw.ok rfl rfl rfl rfl rfl (by rw[CG ht zk fJ rV i_]) (by rw[CG ht zk fJ rV i_])⟩
end
end Go.Proofs.YtpgkjpomaffbmaaGreatDoor
