/- ClusterRefuses (P12.1): cluster.Run refuses a script, or not, as the document says, at every list of acts: for every list berthshiftlaw.ClusterRefuses returns true, and the list reads behind the call as before it. The table lines.kinds starts as the program's own text lays it (the card ties it). -/
import Derived.Deep.Slices
import Derived.LaidMore
import Derived.SevenTiedAt
import Derived.Stop.Joined
import Derived.Stop.LaidErr
import Derived.Test.YtmhifeahpnkpiaaGreatDoorCards
import Derived.Test.YtmhifeahpnkpiaaGreatDoorRows
import Derived.Test.YtmhifeahpnkpiaaGreatDoorSAA
import Derived.Test.YtmhifeahpnkpiaaGreatDoorSAB
import Derived.Test.YtmhifeahpnkpiaaGreatDoorSAC
import Derived.Test.YtmhifeahpnkpiaaGreatDoorSAD
import Derived.Test.YtmhifeahpnkpiaaGreatDoorSAE
import Derived.Test.YtmhifeahpnkpiaaGreatDoorTie
set_option maxRecDepth 20000
set_option maxHeartbeats 8000000
set_option linter.unusedVariables false
namespace Go.Proofs.YtmhifeahpnkpiaaGreatDoor
open Go.RowKit
namespace Lq
open Rv
theorem IK(f:tK)(w:tF)(hK:kZ w):cA 39 #[mY f] w (rB (iV (AX f)) w):=by
 have hk:=IL f;refine en (H:=[]) 28 [vf 11 fun i=>iV (f i)] Tryz.func39 rfl rfl (m0 w) (r [] rfl fun β=> ?_);unfold AX;by_cases hi:eV (f 0) (f 5)<12
 ·rw[decide_eq_true hi]at hk;refine cb rfl (vt [.g [.o (.string (eE _)),.o (iV (iF _)),.o (iV (sx _))],.o (.bool true)]) (fun w hS=>hk w (hK.next hS.now.2)) (r [] rfl fun α=> ?_);refine adz (X:=Nat×Nat) (fun x=>[(1,vp 0 0 (β 0)),(3,vp 1 0 (α 0)),(5,vp 2 0 x.1),(6,vp 3 0 x.2)]) (fun x=>[⟨β 0,57,[.f 11 fun i=>iV (f i)]⟩,⟨α 0,151,[.o (.string (eE (eV (f 0) (f 5)))),.o (iV (iF (eV (f 0) (f 5)))),.o (iV (sx (eV (f 0) (f 5))))]⟩,⟨x.1,57,[.f 11 fun i=>iV (over (ic (f 0) (f 5)) (gK (eV (f 0) (f 5))) f i)]⟩,⟨x.2,57,[.f 11 fun i=>iV (less (ic (f 0) (f 5)) f i)]⟩]) ?_ (r [4] rfl fun _=> ?_)
  case refine_2=>
   repeat' first|refine C9 ?_ ?_|refine fk3 ?_ ?_ ?_|(refine cb rfl (vf 11 fun i=>iV (gK (eV (f 0) (f 5)) i)) ?_ ?_;exact fun w _=>ku _ w)|(refine cb rfl (vt [.g [.f 11 fun i=>iV (over (ic (f 0) (f 5)) (gK (eV (f 0) (f 5))) f i)],.g [.f 11 fun i=>iV (less (ic (f 0) (f 5)) f i)]]) ?_ ?_;exact fun w _=>PC f _ _ w rfl (Mh hi))|refine rs [] rfl rfl fun _=> ?_
   all_goals first|exact aau (_,_) ⟨rfl,rfl,rfl,rfl,trivial⟩ (fun w hS=>hS)|exact aau (_,_) ⟨rfl,rfl,rfl,rfl,trivial⟩ (fun w hS=>hS.IM [0,1,3,2] (by decide))
  intro f1 x;refine r [] rfl fun _=> ?_;have hb:=C_ (over (ic (f 0) (f 5)) (gK (eV (f 0) (f 5))) f);cases h1:oG (over (ic (f 0) (f 5)) (gK (eV (f 0) (f 5))) f)
  ·rw[h1]at hb;exact cb rfl (vv (.bool false)) (fun w _=>hb w) (r [] rfl fun _=>fin fun w hS=>⟨by rw[if_pos hi];rfl,hS.now.2⟩)
  ·rw[h1]at hb;refine cb rfl (vv (.bool true)) (fun w _=>hb w) (r [2] rfl fun _=> ?_);refine cb rfl (vf 11 fun i=>iV (gK _ i)) (fun w _=>ku _ w) (r [] rfl fun _=> ?_);have he:=jt (less (ic (f 0) (f 5)) f) (gK (eV (f 0) (f 5)));cases h2:Mi (less (ic (f 0) (f 5)) f) (gK (eV (f 0) (f 5)))
   ·rw[h2]at he;exact eqs rfl he rfl (r [] rfl fun _=>fin fun w hS=>⟨by rw[if_pos hi];rfl,hS.now.2⟩)
   ·rw[h2]at he;exact eqs rfl he rfl (r [] rfl fun _=>fin fun w hS=>⟨by rw[if_pos hi];rfl,hS.now.2⟩)
 ·rw[decide_eq_false hi]at hk;exact cb rfl (vt [.g [.o (.string (eE _)),.o (iV (iF _)),.o (iV (sx _))],.o (.bool false)]) (fun w hS=>hk w (hK.next hS.now.2)) (r [] rfl fun _=>fin fun w hS=>⟨by rw[if_neg hi];rfl,hS.now.2⟩)
theorem Xd{n l m:Int}(w:tF):cA 55 #[iV n,iV l,iV m] w fun e w'=>e= .returned (.bool (decide (l≤n∧n≤m)))∧w'=w:=by
 by_cases h:l≤n∧n≤m
 ·rw[decide_eq_true h];exact(X4 n l m w h.1 h.2).mono fun _ _ g=>⟨g.1,g.2.symm⟩
 ·rw[decide_eq_false h];exact(aav n l m w h).mono fun _ _ g=>⟨g.1,g.2.symm⟩
def jX(l m:tJ):Prop:=∀k,(h:k<l.length)→(h':k<m.length)→0≤l[k]∧l[k]≤m[k]
noncomputable def iM(f:tK):Int:=
 open Classical in
 if eV (f 0) (f 5)<12 then(if jX ((fe (eV (f 0) (f 5))).map f) (tr (eV (f 0) (f 5)))then(if Mi f (over (fe (eV (f 0) (f 5))) (gK (eV (f 0) (f 5))) f)=true then 0 else 3)else 2)else 3
theorem Fa:∀i,i<12→(eE i).toList.isEmpty=false:=by
 refine oH ?_ ?_ ?_ ?_ ?_ ?_ ?_ ?_ ?_ ?_ ?_ ?_<;>simp[eE]
theorem jV.y{w w':tF}{U:tI}{v:tN}{l:tJ}(h:jV w' w.heap.size v l):∃y:Option Addr×Nat,v= .slice y.1 l.length y.2∧(0<l.length→∃G,y.1=some ⟨G,0,none⟩)∧((∀b,U b→b<w.heap.size)→bU U w' fun w2=>jV w2 w.heap.size (.slice y.1 l.length y.2) l):=by
 obtain⟨a,c,rfl⟩:=iN h;refine⟨(a,c),rfl,fun h0=> ?_,fun hU w2 c2=>aK h fun g hg hl=>c2.block g hl fun hu=> ?_⟩
 ·obtain⟨G,c',e,_⟩:=jV.at h h0;cases e;exact⟨G,rfl⟩
 ·obtain⟨_,h2⟩:=h;rcases h2 with⟨e,_⟩|⟨G,c,cur,e,hb,_⟩
  ·rw[e]at hg;cases hg
  ·rw[e]at hg;cases hg;exact absurd (hU _ hu) (Nat.not_lt.2 hb)
theorem jV.lo{w:tF}{base n c G:Nat}{l:tJ}(h:jV w base (.slice (some ⟨G,0,none⟩) n c) l)(k:Nat)(hk:k<l.length):w.cell? ⟨G,0+k*1,none⟩=some (iV l[k]):=by
 obtain⟨_,_,e,_,_,hc,_⟩:=jV.at h (by omega);cases e;rw[Nat.zero_add,Nat.mul_one];exact hc k hk
theorem Da(f:tK)(w:tF):cA 32 #[mY f] w (rB (iV (iM f)) w):=by
 have HW:=fun u=>pV f u;have HN:=fun u=>yC f u;have HO:=fun base v u aW hr=>Db f f base v u aW hr;have hi:=PD (f 0) (f 5);have HR:(¬eV (f 0) (f 5)<12→iM f=3)∧(eV (f 0) (f 5)<12→(¬jX ((fe (eV (f 0) (f 5))).map f) (tr (eV (f 0) (f 5)))→iM f=2)∧(jX ((fe (eV (f 0) (f 5))).map f) (tr (eV (f 0) (f 5)))→iM f=if Mi f (over (fe (eV (f 0) (f 5))) (gK (eV (f 0) (f 5))) f)=true then 0 else 3)):=⟨fun h=>by unfold iM;rw[if_neg h],fun h=>⟨fun g=>by unfold iM;rw[if_pos h,if_neg g],fun g=>by unfold iM;rw[if_pos h,if_pos g]⟩⟩;generalize iM f=x at HR⊢;generalize eV (f 0) (f 5)=i at HW HN HO hi HR;by_cases X5:i<12
 case neg=>
  obtain rfl:i=12:=by omega
  exact en (H:=[]) _ [vf 11 (aF f)] Tryz.func32 rfl rfl (m0 w) (r [] rfl fun _=>Rv.cb rfl (vv (.string (eE 12))) (fun w _=>HW w) (r [] rfl fun _=>ZY (c:=true) rfl (r [] rfl fun _=>fin fun w hS=>⟨by rw[HR.1 X5];rfl,hS.now.2⟩)))
 have hn:=(pZ i X5).2.1;have Mj:=(pZ i X5).1;have ke:=Fa i X5;have key:∀l m g,l.length=m.length→l.length≤5→(∀u,cA 54 #[mY f] u fun e w'=>∃v1 v2,e= .returned (.tuple #[v1,v2])∧jV w' u.heap.size v1 l∧jV w' u.heap.size v2 m∧bZ u w')→(∀base v u,jV u base v l→cA 56 #[mY f,v] u (rB (mY g) u))→((¬jX l m→x=2)∧(jX l m→x=if Mi f g=true then 0 else 3))→cA 32 #[mY f] w (rB (iV x) w):=by
  intro l m g hlm h5 HN HO HR;refine en (H:=[]) _ [vf 11 (aF f)] Tryz.func32 rfl rfl (m0 w) (r [] rfl fun α=>Rv.cb rfl (vv (.string (eE i))) (fun w _=>HW w) (r [] rfl fun _=>ZY (c:=false) rfl ?_ rfl rfl ?_))
  case refine_2=>
   rw[ByteArray.toList_eq]at ke;cases hd:(eE i).data.toList with
   |nil=>rw[hd]at ke;cases ke
   |cons=>rfl
  refine r [] rfl fun _=>cx rfl (fun y:(Option Addr×Nat)×(Option Addr×Nat)=>vt [.o (.slice y.1.1 l.length y.1.2),.o (.slice y.2.1 l.length y.2.2)]) (fun y=>(0<l.length→∃G,y.1.1=some ⟨G,0,none⟩)∧(0<l.length→∃G,y.2.1=some ⟨G,0,none⟩)) (fun y w1=>∃base,jV w1 base (.slice y.1.1 l.length y.1.2) l∧jV w1 base (.slice y.2.1 l.length y.2.2) m) (fun w1 hS=>(HN w1).mono fun _ w2 ⟨v1,v2,e,r1,r2,b⟩=> ?_) ?_
  ·obtain⟨y1,e1,q1,s1⟩:=r1.y;obtain⟨y2,e2,q2,s2⟩:=r2.y;rw[←hlm]at e2 q2 s2;exact⟨(y1,y2),by rw[e,e1,e2];rfl,b,⟨q1,q2⟩,fun hU w3 c3=>⟨_,s1 hU w3 c3,s2 hU w3 c3⟩⟩
  rintro⟨⟨a1,c1⟩,⟨a2,c2⟩⟩ ⟨q1,q2⟩;refine r [] rfl fun _=>lpc (X:=Nat) (fun k=>[(1,vp 0 0 (α 0)),(3,vv (.slice a1 l.length c1)),(4,vv (.slice a2 l.length c2)),(5,vi (k:Int))]) (fun _=>[⟨α 0,57,[.f 11 (aF f)]⟩]) (fun _ _=>False) (fun _ w'=>bZ w w') (fun k=>k≤l.length∧∀j (h:j<l.length) (h':j<m.length),j<k→0≤l[j]∧l[j]≤m[j]) (fun k=>l.length-k) 0 ⟨rfl,rfl,rfl,rfl,trivial⟩ (fun _ hS=>hS) ⟨Nat.zero_le _,fun j _ _ hj=>absurd hj (Nat.not_lt_zero j)⟩ ?_;rintro f' k ⟨hk,hi⟩;have hk:k≤l.length:=hk;by_cases aW:k<l.length
  case neg=>
   obtain rfl:k=l.length:=by omega
   have HR:=HR.2 fun j h h'=>hi j h h' h;refine r [0,2] rfl fun _=>Rv.cb rfl (vf 11 (aF g)) (fun w hS=> ?_) ?_
   ·obtain⟨_,h1,_⟩:=hS.now.1.2;exact HO _ _ w h1
   cases he:Mi f g
   ·exact r [] rfl fun _=>eqs (b:=true) rfl (fun w=>jt f g w) (by rw[he];rfl) (r [] rfl fun _=>fin fun w hS=>⟨by rw[HR,he];rfl,hS.now.2⟩)
   ·exact r [] rfl fun _=>eqs (b:=false) rfl (fun w=>jt f g w) (by rw[he];rfl) (r [] rfl fun _=>fin fun w hS=>⟨by rw[HR,he];rfl,hS.now.2⟩)
  obtain⟨G1,rfl⟩:=q1 (by omega);obtain⟨G2,rfl⟩:=q2 (by omega);refine r [1,2] rfl fun _=>l1 (q:=0+k*1) rfl (iV l[k]) (fun w hS=> ?_) (r [] rfl fun _=>l1 (q:=0+k*1) rfl (iV m[k]) (fun w hS=> ?_) ?_)
  ·obtain⟨_,h1,_⟩:=hS.now.1.2;exact h1.lo k aW
  ·obtain⟨_,_,h1⟩:=hS.now.1.2;rw[hlm]at h1;exact h1.lo k (by omega)
  by_cases AZ:0≤l[k]∧l[k]≤m[k]
  ·refine r [] rfl fun _=>Rv.cb rfl (vv (.bool true)) (fun w hS=>(Xd w).mono fun _ _ ⟨h1,h2⟩=>⟨by rw[h1,decide_eq_true AZ];rfl,by rw[h2];exact Below.refl _ _⟩) ?_;exact rz [1] [((k+1:Nat):Int)] rfl fun _=>eJ (k+1) ⟨rfl,rfl,rfl,rfl,trivial⟩ (fun _ hS=>hS) ⟨aW,fun j h h' hj=>if e:j=k then by subst e;exact AZ else hi j h h' (by omega)⟩ (show l.length-(k+1)<l.length-k by omega)
  ·have HR:=HR.1 fun h=>AZ (h k aW (by omega));refine r [] rfl fun _=>Rv.cb rfl (vv (.bool false)) (fun w hS=>(Xd w).mono fun _ _ ⟨h1,h2⟩=>⟨by rw[h1,decide_eq_false AZ];rfl,by rw[h2];exact Below.refl _ _⟩) ?_;exact r [] rfl fun _=>fin fun w hS=>⟨by rw[HR];rfl,hS.now.2⟩
 exact key _ _ _ (by rw[List.length_map];exact hn) (by rw[List.length_map];exact Mj) HN (fun base v u hr=>HO base v u X5 hr) (HR.2 X5)
end Lq
namespace Lq
theorem qZ(m:tJ):jX [] m↔True:=⟨fun _=>trivial,fun _ k h=>by simp at h⟩
theorem oI(a b:Int)(l m:tJ):jX (a::l) (b::m)↔(0≤a∧a≤b)∧jX l m:=by
 constructor
 ·intro h;exact⟨h 0 (by simp) (by simp),fun k h1 h2=>h (k+1) (by simp;omega) (by simp;omega)⟩
 ·rintro⟨h0,h⟩ k h1 h2;cases k with
  |zero=>exact h0
  |succ k=>exact h k (by simpa using h1) (by simpa using h2)
theorem ye{n m:Int}:lX n m=true↔0≤n∧n≤m:=by unfold lX;rw[decide_eq_true_eq]
theorem Mk{p i b:Int}:(aQ 1 p i b 0 0==0)=true↔(0≤p∧p≤3)∧(0≤i∧i≤1073741824)∧(0≤b∧b≤1000000):=by
 rw[beq_iff_eq];unfold aQ;rw[if_pos rfl];by_cases h:0≤p∧p≤3∧0≤i∧i≤1073741824∧0≤b∧b≤1000000
 ·rw[if_neg (fun g=>g h),if_pos ⟨rfl,rfl⟩];omega
 ·rw[if_pos h];omega
theorem IP:(aQ 2 0 0 0 0 0==0)=true:=by decide
theorem Ml{e n:Int}:(aQ 3 0 0 0 e n==0)=true↔(0≤e∧e≤1048576)∧(0≤n∧n≤1073741824):=by
 rw[beq_iff_eq];unfold aQ;rw[if_neg (by decide),if_pos rfl];by_cases h:0≤e∧e≤1048576∧0≤n∧n≤1073741824
 ·rw[if_neg (fun g=>g h),if_pos ⟨rfl,rfl,rfl⟩];omega
 ·rw[if_pos h];omega
theorem Mm(f:tK):∀i,i<12→(oG (over (fe i) (gK i) f)=true↔jX ((fe i).map f) (tr i)):=by
 have z:∀x:Int,((2:Int) !=2||x==0)=(x==0):=fun _=>rfl;refine oH ?_ ?_ ?_ ?_ ?_ ?_ ?_ ?_ ?_ ?_ ?_ ?_
 rotate_left 9
 ·show(lX (f 1) 4&&(lX (f 2) 3&&(lX 0 100000&&(lX 0 1048576&&((2:Int) !=2||aQ 1 (f 6) (f 7) (f 8) 0 0==0)))))=true↔jX [f 1,f 2,f 6,f 7,f 8] [4,3,3,1073741824,1000000];simp only[oI,qZ,Bool.and_eq_true,ye,z,Mk,and_true];omega
 ·show(lX (f 1) 4&&(lX (f 2) 3&&(lX 0 100000&&(lX 0 1048576&&((2:Int) !=2||aQ 2 0 0 0 0 0==0)))))=true↔jX [f 1,f 2] [4,3];simp only[oI,qZ,Bool.and_eq_true,ye,IP,Bool.or_true,eq_self,and_true];omega
 ·show(lX (f 1) 4&&(lX (f 2) 3&&(lX 0 100000&&(lX 0 1048576&&((2:Int) !=2||aQ 3 0 0 0 (f 9) (f 10)==0)))))=true↔jX [f 1,f 2,f 9,f 10] [4,3,1048576,1073741824];simp only[oI,qZ,Bool.and_eq_true,ye,z,Ml,and_true];omega
 all_goals
  first
   |show(lX (f 1) 4&&(lX (f 2) 3&&(lX 0 100000&&(lX 0 1048576&&true))))=true↔jX [f 2,f 1] [3,4]
   |show(lX (f 1) 4&&(lX 0 3&&(lX 0 100000&&(lX 0 1048576&&true))))=true↔jX [f 1] [4]
   |show(lX (f 1) 4&&(lX 0 3&&(lX (f 4) 100000&&(lX 0 1048576&&true))))=true↔jX [f 1,f 4] [4,100000]
   |show(lX 0 4&&(lX 0 3&&(lX 0 100000&&(lX (f 3) 1048576&&true))))=true↔jX [f 3] [1048576]
   |show(lX 0 4&&(lX 0 3&&(lX 0 100000&&(lX 0 1048576&&true))))=true↔jX [] []
  simp only[oI,qZ,Bool.and_eq_true,ye,and_true]
  first|omega|decide
theorem PE(f:tK)(i:Nat)(hi:i<12):Mi (less (fe i) f) (gK i)=Mi f (over (fe i) (gK i) f):=by
 obtain⟨_,_,_,_,h0,h5⟩:=pZ i hi;rw[Bool.eq_iff_iff,yh,yh];constructor<;>intro h j hj<;>have:=h j hj<;>unfold less over at*
 ·by_cases e:j∈fe i
  ·rw[if_pos e]
  ·rw[if_neg e]at this⊢;exact this
 ·by_cases e:j∈fe i
  ·rw[if_pos e];have n0:j≠0:=fun g=>h0 (g▸e);have n5:j≠5:=fun g=>h5 (g▸e);simp[gK,n0,n5]
  ·rw[if_neg e]at this⊢;exact this
theorem Uo(f:tK):AX f=iM f:=by
 unfold AX iM;by_cases hi:eV (f 0) (f 5)<12
 ·rw[if_pos hi,if_pos hi,IQ hi,PE f _ hi];have hb:=Mm f _ hi;by_cases e:jX ((fe (eV (f 0) (f 5))).map f) (tr (eV (f 0) (f 5)))
  ·rw[if_pos (hb.2 e),if_pos e]
  ·rw[if_neg (fun g=>e (hb.1 g)),if_neg e]
 ·rw[if_neg hi,if_neg hi]
end Lq
namespace Lq
open Rv
theorem Tryz.Uq:(Tryz.prog.info? 57).map (fun i=>(i.zero,i.size,i.bytes))=some (some (.agg #[iV 0,iV 0,iV 0,iV 0,iV 0,iV 0,iV 0,iV 0,iV 0,iV 0,iV 0]),11,88):=by kernel_rfl
def eQ(D:tJ)(k:Nat):Nat→Int:=fun o=>D.getD (11*k+o) 0
theorem PF(a:tG)(len cap:Nat)(D:tJ)(w:tF)(h:RowK .i64 w a (11*len) D)(rN:a=none→cap=0)(hs:len*88≤140737488351232):
  cA 15 #[.slice a len cap] w fun e w'=>∃v,e= .returned v∧w'.ownsRow w.heap.size 57 11 v len (D.map (Value.int .i64))∧bZ w w':=by
 obtain⟨i2,TZ,hz20,hz21,hz22⟩:=gY Tryz.Uq;have HG:Hid (∀w4,w.grownBy w4 (Value.slice none 0 0).ownBlock→bZ w w4):=ai fun w4 g=>(Below.refl _ _).grown g (Nat.le_refl _) (by simp[Value.ownBlock]);go_enter Tryz.func15,Tryz.ntmps15
 go_wp2_with (at_builtin;refine cI rfl _ _ 22 rfl w.heap.size 57 i2 _ 11 88 Tryz.underlying22 TZ hz20 hz21 hz22 rfl (by decide) (.slice none 0 0) 0 [] rfl (World.ownsRow_nil _ _ _ _) a len cap D rfl h rN (by unfold maxLen;omega) (by omega) (Nat.le_refl _) ?_;intro v' w4 o4 g4;simp only[Nat.zero_add,List.nil_append]at o4;have HX:=ai (And.intro o4 (aa HG w4 g4));obtain⟨a',c',rfl⟩:=iN o4;clear o4 g4)
 go_ret;exact⟨_,rfl,(aa HX).1,(aa HX).2⟩
def Fb(D:tJ):Nat→Nat
 |0=>0
 |k+1=>Fb D k+if eQ D k 0=2 then 1 else 0
theorem Kv(D:tJ):∀k,Fb D k≤k
 |0=>Nat.le_refl _
 |k+1=>by have:=Kv D k;unfold Fb;split<;>omega
inductive kM(D:tJ)(n:Nat):Int→Int→Prop
 |bad (k:Nat) (hk:k<n) (h:∀j,j<k→AX (eQ D j)=0) (hb:¬AX (eQ D k)=0):kM D n 0 (AX (eQ D k))
 |fh (h:∀j,j<n→AX (eQ D j)=0):kM D n (Fb D n) 0
theorem kM.Ur{D:tJ}{n:Nat}{c e c' e':Int}(h:kM D n c e)(h':kM D n c' e'):c=c'∧e=e':=by
 cases h with
 |bad k hk h hb=>
  cases h' with
  |bad k' k_ h' hb'=>
   rcases Nat.lt_trichotomy k k' with e|e|e
   ·exact absurd (h' k e) hb
   ·subst e;exact⟨rfl,rfl⟩
   ·exact absurd (h k' e) hb'
  |fh h'=>exact absurd (h' k hk) hb
 |fh h=>
  cases h' with
  |bad k' k_ h' hb'=>exact absurd (h k' k_) hb'
  |fh h'=>exact⟨rfl,rfl⟩
theorem Mo(a:tG)(len cap:Nat)(D:tJ)(w:tF)(hK:kZ w)(h:RowK .i64 w a (11*len) D)(hs:len*88≤140737488351232):
  cA 28 #[.slice a len cap] w fun x w'=>∃c e,x= .returned (.tuple #[iV c,iV e])∧kM D len c e∧bZ w w':=by
 refine en (H:=[]) _ [vv (.slice a len cap)] Tryz.func28 rfl rfl (m0 w) (r [] rfl fun _=> ?_);refine iC (X:=Nat) ⟨fun k=>[(4,vi (Fb D k:Int)),(8,vv (.slice a len cap)),(9,vi (len:Int)),(10,vi (k:Int))],fun _=>[],fun _ _=>False,fun _ _=>True,fun _ w'=>bZ w w',fun k=>k≤len∧∀j,j<k→AX (eQ D j)=0,fun k=>len-k⟩ 0 ⟨rfl,rfl,rfl,rfl,trivial⟩ (fun _ hS=>hS) ⟨Nat.zero_le _,fun j hj=>absurd hj (Nat.not_lt_zero j)⟩ ?_;rintro f k ⟨hk,hi⟩;have hk:k≤len:=hk;have BH:=Kv D k;by_cases aW:k<len
 case neg=>
  obtain rfl:k=len:=by omega
  exact r [0] rfl fun _=>fin fun w hS=>⟨_,_,rfl,.fh hi,hS.now.2⟩
 obtain⟨b,o,rfl⟩:=h.form (by omega);have on:a7 (aF (eQ D k)) 11:=fun _ _=>rfl;refine r [1] rfl fun _=>lf (q:=o+k*11) rfl 11 (aF (eQ D k)) (fun w hS=>mP (h.below hS.now.2) (by omega) fun j _=>rfl) (r [] rfl fun _=>Rv.cb rfl (vi (AX (eQ D k))) (fun w hS=>IK (eQ D k) w (hK.next hS.now.2)) ?_);by_cases hc:AX (eQ D k)=0
 case neg=>exact r [1] rfl fun _=>fin fun w hS=>⟨_,_,rfl,.bad k aW hi hc,hS.now.2⟩
 have hS:Fb D (k+1)=Fb D k+if eQ D k 0=2 then 1 else 0:=rfl
 by_cases h2:eQ D k 0=2
 ·rw[if_pos h2]at hS;exact rz [0,1,1,1] [(Fb D (k+1):Int),((k+1:Nat):Int)] rfl fun _=>eJ (k+1) ⟨rfl,rfl,rfl,rfl,trivial⟩ (fun w hS=>hS.take 0) ⟨aW,upto hi hc⟩ (show len-(k+1)<len-k by omega)
 ·rw[if_neg h2]at hS;exact rz [0,0,1] [((k+1:Nat):Int)] rfl fun _=>eJ (k+1) ⟨congrArg (fun n:Nat=>iV n) hS.symm,rfl,rfl,rfl,trivial⟩ (fun w hS=>hS.take 0) ⟨aW,upto hi hc⟩ (show len-(k+1)<len-k by omega)
end Lq
theorem PG{f:tK}(h:Lq.AX f=0):Lq.eV (f 0) (f 5)<12∧Lq.oG f=true:=by
 unfold Lq.AX at h;by_cases hi:Lq.eV (f 0) (f 5)<12
 ·rw[if_pos hi]at h;by_cases hb:Lq.oG (Lq.over (Lq.ic (f 0) (f 5)) (Lq.gK (Lq.eV (f 0) (f 5))) f)=true
  ·rw[if_pos hb]at h;by_cases he:Lq.Mi (Lq.less (Lq.ic (f 0) (f 5)) f) (Lq.gK (Lq.eV (f 0) (f 5)))=true
   ·have hf:∀i,i<11→Lq.over (Lq.ic (f 0) (f 5)) (Lq.gK (Lq.eV (f 0) (f 5))) f i=f i:=fun i hi'=>by
     have:=Lq.yh.1 he i hi';unfold Lq.less at this;unfold Lq.over;split
     ·rfl
     ·rename_i hn;rw[if_neg hn]at this;exact this.symm
    refine⟨hi, ?_⟩;unfold Lq.oG at hb⊢;rw[hf 0 (by decide),hf 1 (by decide),hf 2 (by decide),hf 3 (by decide),hf 4 (by decide),hf 5 (by decide),hf 6 (by decide),hf 7 (by decide),hf 8 (by decide),hf 9 (by decide),hf 10 (by decide)]at hb;exact hb
   ·rw[if_neg he]at h;omega
  ·rw[if_neg hb]at h;omega
 ·rw[if_neg hi]at h;omega
structure Xe(f:tK):Prop where
 k:1≤f 0∧f 0≤10
 n:0≤f 1∧f 1<5
 q:0≤f 2∧f 2<4
 p:0≤f 3∧f 3≤1048576
 kp:0≤f 4∧f 4≤100000
 e:f 0=2→aQ (f 5) (f 6) (f 7) (f 8) (f 9) (f 10)=0∧1≤f 5∧f 5≤3
theorem PH{f:tK}(h:Lq.AX f=0):Xe f:=by
 obtain⟨h1,h2⟩:=PG h;have hk:1≤f 0∧f 0≤10∧(f 0=2→1≤f 5∧f 5≤3):=by
  by_cases hx:1≤f 0∧f 0≤10∧(f 0=2→1≤f 5∧f 5≤3)
  ·exact hx
  ·exfalso;have X5:Lq.eV (f 0) (f 5)=12:=by
    unfold Lq.eV;by_cases h2:f 0=2
    ·rw[if_neg (by omega),if_neg (by omega),if_neg (by omega),if_neg (by omega),if_neg (by omega),if_neg (by omega),if_neg (by omega),if_neg (by omega),if_neg (by omega),if_pos h2,if_neg (by omega),if_neg (by omega),if_neg (by omega)]
    ·rw[if_neg (by omega),if_neg (by omega),if_neg (by omega),if_neg (by omega),if_neg (by omega),if_neg (by omega),if_neg (by omega),if_neg (by omega),if_neg (by omega),if_neg h2]
   omega
 unfold Lq.oG Lq.lX at h2;simp only[Bool.and_eq_true,Bool.or_eq_true,decide_eq_true_eq,bne_iff_ne,beq_iff_eq]at h2;refine⟨⟨hk.1,hk.2.1⟩, ?_, ?_, ?_, ?_,fun e=>⟨?_,hk.2.2 e⟩⟩
 ·omega
 ·omega
 ·omega
 ·omega
 ·exact h2.2.2.2.2.resolve_left fun hh=>hh e
def X6(D:tJ)(k:Nat):Nat→Value:=fun j=>iV (Lq.eQ D k j)
noncomputable def vW(p:(Nat→Nd)×Ws)(f:tK):(Nat→Nd)×Ws:=X7 p.1 p.2 (f 0) (f 1).toNat (f 2).toNat (f 3).toNat (f 4) ⟨f 5,f 6,f 7,f 8,f 9,f 10⟩
noncomputable def yD(D:tJ):Nat→(Nat→Nd)×Ws
 |0=>(ns0,ws0)
 |k+1=>vW (yD D k) (Lq.eQ D k)
structure GdT(p:(Nat→Nd)×Ws):Prop where
 g:Gd p.1 p.2
 t:∀i,i<5→(p.1 i).up=false→∃Bs rs kk,ZZ (p.1 i) Bs rs kk
section
variable{w w':tF}{X i:Nat}{us:Nat→Nv}{v v':Wv}{F F':tI}
theorem CW.others(h:CW w X us v F)(c:dB (fun b=>b<v.nd 5) w w'):CW w' X us v F:=by
 have same:∀b,CU us v F b→w'.heap[b]? =w.heap[b]? :=fun b hb=>c.block b (h.lt b hb) (Nat.not_lt.2 (h.lo b hb));refine⟨h.wo.still fun b hb=>same b (.inl hb),fun j hj=>(h.nb j hj).same (same _ (.inr (.inl ⟨j,hj,rfl⟩))),h.ok,h.inj,h.nf,fun j hj=> ?_,h.wf,h.wn,h.ww,h.st.Dc (c.mono fun _ h=> .inr h) fun _ _ h=>h,Nat.le_trans h.ln c.size,h.lo⟩;obtain⟨B,hr⟩:=h.wr j hj;exact⟨B,hr.still fun hb=>same B (.inr (.inr ⟨j,hj,hb⟩))⟩
theorem Cd.below{r:(Nat→Nd)×Ws}{p8:Nat→Nv}(h:CW w X us v F)(hd:Cd w X us v F r p8 v' F' w'):Below (v.nd 5) w w':=hd.mv.c.below h.ln fun b hb hc=>absurd (h.lo b hc) (Nat.not_le.2 hb)
theorem X8(h:CW w X us v F){D:tJ}{k:Nat}(hp:((fun i=>(us i).pure),v.pure)=yD D k)(hg:GdT (yD D k))(ok:Lq.AX (Lq.eQ D k)=0):cA 30 #[lp X,vF (X6 D k) 11] w fun x w'=>x= .returned (.tuple #[])∧∃p8 v' F',CW w' X p8 v' F'∧((fun i=>(p8 i).pure),v'.pure)=yD D (k+1)∧v'.nd=v.nd∧Below (v.nd 5) w w':=by
 have a:=PH ok;obtain⟨f,hf⟩:∃f,f=Lq.eQ D k:=⟨_,rfl⟩;rw[←hf]at a;have Us:Gd (fun i=>(us i).pure) v.pure:=by
  have:=hg.g;rw[←hp]at this;exact this
 have e:vF (X6 D k) 11=vF (lF [iV (f 0),iV (((f 1).toNat:Nat):Int),iV (((f 2).toNat:Nat):Int),iV (((f 3).toNat:Nat):Int),iV (f 4),iV (f 5),iV (f 6),iV (f 7),iV (f 8),iV (f 9),iV (f 10)]) 11:=by
  rw[Int.toNat_of_nonneg a.n.1,Int.toNat_of_nonneg a.q.1,Int.toNat_of_nonneg a.p.1,hf];rfl
 rw[e];refine(aaw X us v F w h Us (f 0) (f 1).toNat (f 2).toNat (f 3).toNat (f 4) ⟨f 5,f 6,f 7,f 8,f 9,f 10⟩ a.k (by have:=a.n;omega) (by have:=a.q;omega) ⟨a.kp.1,by have:=a.kp;omega⟩).mono ?_;rintro x w' ⟨rfl,p8,v',F',hd⟩;refine⟨rfl,p8,v',F',hd.cw, ?_,hd.nd,Cd.below h hd⟩;show _=vW (yD D k) (Lq.eQ D k);unfold vW;rw[←hp,←hf];exact Prod.ext hd.n hd.s
end
noncomputable def Xf(D:tJ)(n:Nat):Oc:=ocS (yD D n).1 (yD D n).2
def zO:Value:=vF (BI (iV 0) (fun _=>false) (fun _=>0) (fun _=>0) (.slice none 0 0) (.slice none 0 0) (.slice none 0 0) (iV 0)) 18
inductive PI(D:tJ)(n:Nat)(w w':tF):Value→Prop
 |long (h:100000<n):PI D n w w' (.tuple #[zO,iV 1])
 |bad (h:n≤100000) (c e:Int) (hc:Lq.kM D n c e) (he:¬e=0):PI D n w w' (.tuple #[zO,iV e])
 |fh (h:n≤100000) (hc:∀j,j<n→Lq.AX (Lq.eQ D j)=0) (t:Mp) (ho:bU (fun b=>b<w.heap.size) w' fun w=>X9 w (Xf D n) t):PI D n w w' (.tuple #[ocV (Xf D n) t,iV 0])
inductive kv:Bt→List Rec→Bt→Prop
 |nil (B:Bt):kv B [] B
 |cons {B D E:Bt} {r:Rec} {l:List Rec} (hf:r.fault=0) (ha:dX B r=(D,0)) (h:kv D l E):kv B (r::l) E
theorem kv.one{B D:Bt}{r:Rec}(hf:r.fault=0)(ha:dX B r=(D,0)):kv B [r] D:= .cons hf ha (.nil D)
theorem kv.app{B D E:Bt}{l m:List Rec}(h:kv B l D)(h':kv D m E):kv B (l++m) E:=by
 induction h with
 |nil B=>exact h'
 |cons hf ha _ ih=>exact .cons hf ha (ih h')
theorem kv.snoc{B D E:Bt}{r:Rec}{l:List Rec}(h:kv B l D)(hf:r.fault=0)(ha:dX D r=(E,0)):kv B (l++[r]) E:=h.app (.one hf ha)
theorem kv.nil_eq{B D:Bt}(h:kv B [] D):D=B:=by cases h;rfl
def recC(q e:Int):Rec:=⟨1,q,e,0,⟨0,0,0,0,0,0⟩⟩
def aax(q e:Int)(v:Ev):Rec:=⟨2,q,e,0,v⟩
def aay(q e p:Int):Rec:=⟨3,q,e,p,⟨0,0,0,0,0,0⟩⟩
def PJ(q e:Int):Rec:=⟨7,q,e,0,⟨0,0,0,0,0,0⟩⟩
def aaz(q e:Int):Rec:=⟨6,q,e,0,⟨0,0,0,0,0,0⟩⟩
def aaA(q e p:Int):Rec:=⟨4,q,e,p,⟨0,0,0,0,0,0⟩⟩
def aaB(q e:Int)(v:Ev):Rec:=⟨5,q,e,0,v⟩
theorem X_{q e:Int}(hq:0≤q∧q≤3)(he:1≤e∧e≤1048576):(recC q e).fault=0:=by
 unfold Rec.fault aE recC gM;simp only;rw[if_neg (by omega),if_neg (by omega),if_neg (by omega)];simp
theorem IT{q e p:Int}(hq:0≤q∧q≤3)(he:1≤e∧e≤1048576)(hp:0≤p∧p≤4):(aay q e p).fault=0:=by
 unfold Rec.fault aE aay gM;simp only;rw[if_neg (by omega),if_neg (by omega),if_neg (by omega)];simp
theorem yE{q e:Int}(hq:0≤q∧q≤3)(he:1≤e∧e≤1048576):(PJ q e).fault=0:=by
 unfold Rec.fault aE PJ gM;simp only;rw[if_neg (by omega),if_neg (by omega),if_neg (by omega)];simp
theorem IU{q e:Int}(hq:0≤q∧q≤3)(he:1≤e∧e≤1048576):(aaz q e).fault=0:=by
 unfold Rec.fault aE aaz gM;simp only;rw[if_neg (by omega),if_neg (by omega),if_neg (by omega)];simp
theorem IV{q e p:Int}(hq:0≤q∧q≤3)(he:1≤e∧e≤1048576)(hp:0≤p∧p≤4):(aaA q e p).fault=0:=by
 unfold Rec.fault aE aaA gM;simp only;rw[if_neg (by omega),if_neg (by omega),if_neg (by omega)];simp
theorem yF{q e:Int}{v:Ev}(hq:0≤q∧q≤3)(he:1≤e∧e≤1048576)(hv:v.Ok):(aax q e v).fault=0:=by
 unfold Rec.fault aE aax;simp only;rw[if_neg (by omega),if_neg (by omega),if_pos (by simp)];exact hv
theorem sA{q e:Int}{v:Ev}(hq:0≤q∧q≤3)(he:1≤e∧e≤1048576)(hv:v.Ok):(aaB q e v).fault=0:=by
 unfold Rec.fault aE aaB;simp only;rw[if_neg (by omega),if_neg (by omega),if_pos (by simp)];exact hv
theorem PK{e:Int}(he:1≤e∧e≤1048576):Bt.Ok ⟨1,e,0,0,0,[]⟩:=⟨.inr (.inl ⟨rfl,he.1,he.2,rfl,rfl,rfl⟩),by simp,_,_,.nil⟩
theorem De{B:Bt}{q:Int}(hq:0≤q∧q≤3)(ok:B.Ok)(hr:B.r=3):(PJ q B.e).fault=0∧dX B (PJ q B.e)=(⟨0,B.e,0,0,0,[]⟩,0):=by
 have hs:=ok.cM;unfold Bt.cC bz at hs;have he:1≤B.e∧B.e≤1048576:=by omega
 refine⟨yE hq he,fw ok (yE hq he) ?_ ⟨.inl ⟨rfl,rfl,by simp only;omega,by simp only;omega,rfl,rfl,rfl⟩,by simp,_,_,.nil⟩⟩;unfold cX PJ;simp[hr]
def pE(r:Rec):Prop:=r.fault=0∧(¬(r.k=2∨r.k=5)→r.v=lY)
theorem pE.fh{r:Rec}(h:pE r):lI (bn r):=
 ⟨r.k,r.q,r.e,r.p,r.v.k,r.v.p,r.v.i,r.v.b,r.v.he,r.v.hn,rfl,h.1,fun hk=>by
  have e:=h.2 hk;rw[e]
  exact⟨rfl,rfl,rfl,rfl,rfl,rfl⟩⟩
theorem ml(rs:List Rec):cG rs=aO (rs.map bn):=by
 unfold cG aO;rw[List.flatMap_map];rfl
theorem kl(a b:List Rec):cG (a++b)=cG a++cG b:=by simp[cG]
theorem Fc{rs:List Rec}(h:∀r∈rs,pE r):∀z∈rs.map bn,lI z:=fun z hz=>by
 obtain⟨r,hr,rfl⟩:=List.mem_map.1 hz;exact(h r hr).fh
theorem Fe{rs:List Rec}(h:∀r∈rs,pE r):bu (cG rs)=(rs.map bn,(cG rs).length):=by
 rw[ml];exact qf _ (Fc h)
theorem Ut{rs:List Rec}:22*rs.length≤(cG rs).length:=by
 rw[ml];have:=(Df (rs.map bn)).1;rw[List.length_map]at this;exact this
theorem IW{r:Rec}(h:r.fault=0):(1≤r.k∧r.k≤7)∧(0≤r.q∧r.q≤3)∧(0≤r.e∧r.e≤1048576)∧(0≤r.p∧r.p≤4)∧((r.k=2∨r.k=5)→r.v.Ok):=by
 unfold Rec.fault aE at h;split at h
 ·omega
 ·rename_i h1;split at h
  ·omega
  ·rename_i h2;have h1:=Decidable.not_not.1 h1;have h2:=Decidable.not_not.1 h2;refine⟨h1,⟨h2.1,h2.2.1⟩,⟨h2.2.2.1,h2.2.2.2.1⟩,h2.2.2.2.2,fun hk=> ?_⟩;rw[if_pos hk]at h;exact h
theorem Kw{rs:List Rec}(h:∀r∈rs,pE r):∀x∈aD rs,(Lit.int .i64 x).wf=true:=fun x hx=>by
 obtain⟨r,hr,hx⟩:=List.mem_flatMap.1 hx;have hb:=IW (h r hr).1;have hv:∀x∈aX r.v,(Lit.int .i64 x).wf=true:=by
  by_cases hk:r.k=2∨r.k=5
  ·exact Xg (hb.2.2.2.2 hk)
  ·rw[(h r hr).2 hk];intro x hx;simp only[aX,List.mem_cons,List.not_mem_nil,or_false,or_self]at hx;rw[hx];decide
 have:=oJ (q:=r.q.toNat) (k:=r.k) (ep:=r.e) (pe:=r.p) (e:=r.v) hb.1 (by omega) hb.2.2.1 hb.2.2.2.1 hv;rw[Int.toNat_of_nonneg hb.2.1.1]at this;exact this x hx
structure Dg(rs:List Rec)(Bs:Nat→Bt):Prop where
 f:∀r∈rs,pE r
 b:kx (kK fQ) 0 rs=(some (kK Bs),0,0)
theorem Kx:∀(l m:List Rec) (S S':List Bt) (i:Nat),kx S i l=(some S',0,0)→kx S i (l++m)=kx S' (i+l.length) m
 |[],m,S,S',i,h=>by
  unfold kx at h;have:S=S':=by injection h with h1 h2;injection h1
  subst this;rfl
 |r::l,m,S,S',i,h=>by
  rw[List.cons_append];show(if ¬r.fault=0 then(none,i,r.fault)else match dX (At S r) r with|(D,e)=>if e=0 then kx (put S r D) (i+1) (l++m)else(none,i,e))=_;unfold kx at h;split at h
  ·cases h
  ·rename_i hf;rw[if_neg hf];cases ha:dX (At S r) r with
   |mk D e=>
    rw[ha]at h;simp only at h⊢;split at h
    ·rename_i he;rw[if_pos he,Kx l m _ S' (i+1) h,List.length_cons,show i+(l.length+1)=i+1+l.length by omega]
    ·cases h
theorem Uu{S:List Bt}{i:Nat}{r:Rec}{D:Bt}(hf:r.fault=0)(ha:dX (At S r) r=(D,0)):kx S i [r]=(some (put S r D),0,0):=by
 unfold kx;rw[if_neg (fun h=>h hf),ha];rfl
theorem Dg.snoc{rs:List Rec}{Bs:Nat→Bt}(h:Dg rs Bs){r:Rec}{q:Nat}{D:Bt}(hr:pE r)(hq:q<4)(e:r.q=q)(ha:dX (Bs q) r=(D,0)):Dg (rs++[r]) (aC Bs q D):=by
 refine⟨fun x hx=>(List.mem_append.1 hx).elim (h.f x) fun hx=>by rw[List.mem_singleton.1 hx];exact hr, ?_⟩;rw[Kx rs [r] _ _ 0 h.b,Uu hr.1 (by rw[PL Bs r q hq e];exact ha),Ky Bs r D q hq e];rfl
theorem IX{α:Type}(f:Nat→α)(q:Nat)(x y:α):aC (aC f q x) q y=aC f q y:=by
 funext p;by_cases e:p=q
 ·rw[e,aJ,aJ]
 ·rw[bV e,bV e,bV e]
theorem Dg.runs{q:Nat}(hq:q<4):∀{l:List Rec} {B D:Bt},kv B l D→(∀r∈l,pE r∧r.q=q)→∀{rs:List Rec} {Bs:Nat→Bt},Dg rs Bs→Bs q=B→Dg (rs++l) (aC Bs q D):=by
 intro l B D h
 induction h with
 |nil B=>
  intro _ rs Bs hm e;rw[List.append_nil,←e,tt];exact hm
 |cons hf ha h ih=>
  rename_i B D E r l;intro hr rs Bs hm e;have h1:=hm.snoc (hr r List.mem_cons_self).1 hq (hr r List.mem_cons_self).2 (by rw[e];exact ha);have h2:=ih (fun x hx=>hr x (List.mem_cons_of_mem _ hx)) h1 (aJ ..);rw[IX]at h2;rw[show rs++r::l=rs++[r]++l by simp];exact h2
theorem kv.cut{B D:Bt}{l:List Rec}(h:kv B l D):∀j,∃E,kv B (l.take j) E:=by
 induction h with
 |nil B=>intro j;exact⟨B,by rw[List.take_nil];exact .nil B⟩
 |cons hf ha h ih=>
  intro j;cases j with
  |zero=>exact⟨_,.nil _⟩
  |succ j=>
   obtain⟨E,hE⟩:=ih j;exact⟨E,.cons hf ha hE⟩
theorem BJ{B D:Bt}{r:Rec}(h:dX B r=(D,0)):B.Ok∧r.fault=0∧cX B r=some D∧D.Ok:=by
 unfold dX at h;by_cases h1:B.Ok
 ·rw[if_neg (fun g=>g h1)]at h;by_cases h2:r.fault=0
  ·rw[if_neg (fun g=>g h2)]at h;cases hd:cX B r with
   |none=>rw[hd]at h;cases h
   |some E=>
    rw[hd]at h;simp only at h;by_cases h3:E.Ok
    ·rw[if_pos h3]at h;cases h;exact⟨h1,h2,rfl,h3⟩
    ·rw[if_neg h3]at h;cases h
  ·rw[if_pos h2]at h;exact absurd (Prod.mk.inj h).2 h2
 ·rw[if_pos h1]at h;cases h
theorem Uv{B D:Bt}{r:Rec}(hB:¬B.r=2)(h:cX B r=some D):¬D.r=2:=by
 unfold cX at h;split at h
 ·split at h
  ·cases h;show ¬(1:Int)=2;decide
  ·cases h
 ·split at h
  ·split at h
   ·cases h;exact hB
   ·cases h
  ·split at h
   ·split at h
    ·cases h;show ¬(3:Int)=2;decide
    ·cases h
   ·split at h
    ·split at h
     ·cases h;unfold aT;split
      ·show ¬(0:Int)=2;decide
      ·split
       ·show ¬(0:Int)=2;decide
       ·split
        ·show ¬(0:Int)=2;decide
        ·split
         ·exact hB
         ·split
          ·show ¬(0:Int)=2;decide
          ·show ¬(4:Int)=2;decide
     ·cases h
    ·split at h
     ·split at h
      ·cases h;exact hB
      ·cases h
     ·split at h
      ·split at h
       ·cases h;show ¬(1:Int)=2;decide
       ·cases h
      ·split at h
       ·cases h;show ¬(0:Int)=2;decide
       ·cases h
theorem Kz:∀(l:List Rec) (S S':List Bt) (i:Nat),S.length=4→(∀B∈S,B.Ok∧¬B.r=2)→kx S i l=(some S',0,0)→∀B∈S',B.Ok∧¬B.r=2
 |[],S,S',i,_,h,e=>by
  unfold kx at e;have:S=S':=by injection e with h1 h2;injection h1
  subst this;exact h
 |r::l,S,S',i,hl,h,e=>by
  unfold kx at e;split at e
  ·cases e
  ·rename_i hf;cases ha:dX (At S r) r with
   |mk D er=>
    rw[ha]at e;simp only at e;split at e
    ·rename_i he;subst he;obtain⟨_,h2,h3,h4⟩:=BJ ha;exact Kz l _ S' (i+1) (by rw[q7];exact hl) (t_ h ⟨h4,Uv (h _ (at_mem hl h2)).2 h3⟩) e
    ·cases e
theorem Dg.all{rs:List Rec}{Bs:Nat→Bt}(h:Dg rs Bs):∀q,q<4→(Bs q).Ok∧¬(Bs q).r=2:=
 (uc Bs (fun B=>B.Ok∧¬B.r=2)).1 (Kz rs _ _ 0 rfl ((uc fQ (fun B=>B.Ok∧¬B.r=2)).2 fun _ _=>⟨Bt.dr,by show ¬(0:Int)=2;decide⟩) h.b)
theorem Dg.nil:Dg [] fQ:=⟨(fun _ h=>by cases h),rfl⟩
def Lts(l:List Rec):Prop:=(∀r∈l,r.k=2∨r.k=5∨r.k=6)∨∀r∈l,¬jw r
theorem Lts.take{l:List Rec}(h:Lts l)(j:Nat):Lts (l.take j):=h.imp (fun h r hr=>h r (List.mem_of_mem_take hr)) fun h r hr=>h r (List.mem_of_mem_take hr)
theorem Mq{B D:Bt}{r:Rec}(hk:r.k=2∨r.k=5∨r.k=6)(h:cX B r=some D):0<D.es.length:=by
 unfold cX at h;split at h
 ·omega
 ·split at h
  ·split at h
   ·cases h;simp[Bt.more]
   ·cases h
  ·split at h
   ·omega
   ·split at h
    ·omega
    ·split at h
     ·split at h
      ·cases h;simp[Bt.more]
      ·cases h
     ·split at h
      ·split at h
       ·cases h;simp
       ·cases h
      ·omega
theorem kv.more{B D:Bt}{l:List Rec}(h:kv B l D):(∀r∈l,r.k=2∨r.k=5∨r.k=6)→l≠[]→0<D.es.length:=by
 induction h with
 |nil B=>intro _ h;exact absurd rfl h
 |cons hf ha h ih=>
  rename_i B D E r l;intro hk _;by_cases hl:l=[]
  ·subst hl;rw[h.nil_eq];exact Mq (hk r List.mem_cons_self) (BJ ha).2.2.1
  ·exact ih (fun x hx=>hk x (List.mem_cons_of_mem _ hx)) hl
theorem kv.late{B D:Bt}{l:List Rec}(h:kv B l D)(hl:Lts l):∀r∈l,jw r→0<D.es.length:=fun r hr Ms=>by
 rcases hl with hl|hl
 ·exact h.more hl (List.ne_nil_of_mem hr)
 ·exact absurd Ms (hl r hr)
def tb(B:Bt):Bt:=if B.r=2 then⟨1,B.e,0,0,0,B.es⟩else B
theorem Ff{B:Bt}(h:B.r=2):tb B=⟨1,B.e,0,0,0,B.es⟩:=if_pos h
theorem lh{B:Bt}(h:¬B.r=2):tb B=B:=if_neg h
theorem KA{B:Bt}(ok:B.Ok):(tb B).Ok:=by
 by_cases h:B.r=2
 ·rw[Ff h];have hs:=ok.cM;unfold Bt.cC bz at hs;exact⟨.inr (.inl ⟨rfl,by show 1≤B.e;omega,by show B.e≤1048576;omega,rfl,rfl,rfl⟩),ok.len,ok.told⟩
 ·rw[lh h];exact ok
def AfP(mo:Nat→Bt)(q:Nat)(D:Bt):Af→Prop
 | .serve l an=>l.q=q∧((mo q).r=1∨(mo q).r=2)∧cQ (mo q) l.op ((mo q).more [l.op]) an true 0∧D=tb ((mo q).more [l.op])
 | .begin l B=>l.q=q∧¬(mo q).r=1∧D=B
 | .shut l B=>l.q=q∧¬(mo q).r=1∧D=B
 | .take l B=>l.q=q∧¬(mo q).r=1∧D=B
 | .ky p B=>p=q∧¬(mo q).r=1∧D=B
structure Pd(mo:Nat→Bt)(a:Af)(rs:List Rec)(q:Nat)(D:Bt):Prop where
 q4:q<4
 ok:∀r∈rs,pE r∧r.q=q
 run:kv (tb (mo q)) rs D
 lt:Lts rs
 af:AfP mo q D a
def Pds(n:Nd)(rs:List Rec):Prop:=(n.af=none∧rs=[])∨∃a q D,n.af=some a∧Pd n.mo a rs q D
structure Up(n:Nd):Prop where
 mo:∀q,q<4→(n.mo q).Ok
 ex:∃dV dP Bs,n.dl=cG dV++cG dP∧n.sy=(((cG dV).length:Nat):Int)∧Dg dV Bs∧(∀q,q<4→Bs q=tb (n.mo q))∧Pds n dP
theorem Up.congr{n n':Nd}(h:Up n)(h1:n'.dl=n.dl)(h2:n'.sy=n.sy)(h3:n'.mo=n.mo)(h4:n'.af=n.af):Up n':=by
 obtain⟨dV,dP,Bs,e1,e2,e3,e4,e5⟩:=h.ex;refine⟨by rw[h3];exact h.mo,dV,dP,Bs,by rw[h1];exact e1,by rw[h2];exact e2,e3,by rw[h3];exact e4, ?_⟩;unfold Pds at e5⊢;rw[h3,h4];exact e5
theorem Up.mL{n:Nd}(h:Up n)(ha:n.af=none){q:Nat}{B:Bt}(hq:q<4)(ok:B.Ok)(ht:tb B=tb (n.mo q)):Up {n with mo:=aC n.mo q B}:=by
 obtain⟨dV,dP,Bs,e1,e2,e3,e4,e5⟩:=h.ex;refine⟨fun p hp=> ?_,dV,dP,Bs,e1,e2,e3,fun p hp=> ?_, ?_⟩
 ·by_cases e:p=q
  ·rw[e];show(aC n.mo q B q).Ok;rw[aJ];exact ok
  ·show(aC n.mo q B p).Ok;rw[bV e];exact h.mo p hp
 ·by_cases e:p=q
  ·rw[e];show _=tb (aC n.mo q B q);rw[aJ,ht];exact e4 q hq
  ·show _=tb (aC n.mo q B p);rw[bV e];exact e4 p hp
 ·rcases e5 with e5|⟨a,q',D,h1,_⟩
  ·exact .inl e5
  ·rw[ha]at h1;cases h1
theorem Up.write{n n':Nd}(h:Up n)(ha:n.af=none){a:Af}{rs:List Rec}{q:Nat}{D:Bt}(p:Pd n.mo a rs q D)(hw:pS n a rs=some n'):Up n':=by
 unfold pS at hw;split at hw
 ·cases hw;obtain⟨dV,dP,Bs,e1,e2,e3,e4,e5⟩:=h.ex;have e0:dP=[]:=by
   rcases e5 with e5|⟨a,q',D,h1,_⟩
   ·exact e5.2
   ·rw[ha]at h1;cases h1
  subst e0;refine⟨h.mo,dV,rs,Bs, ?_,e2,e3,e4,.inr ⟨a,q,D,rfl,p⟩⟩;show n.dl++cG rs=_;rw[e1];simp[cG]
 ·cases hw
theorem Uw{n:Nd}{o:Option Nd}(h:Up n)(ho:∀n',o=some n'→Up n'):Up (o.getD n):=by
 cases o with
 |none=>exact h
 |some x=>exact ho x rfl
theorem Up.sync{n:Nd}{s:Ws}{a:Af}(h:Up n)(ha:n.af=some a):Up (eY {n with sy:=n.dl.length,af:=none} s a).1:=by
 obtain⟨dV,dP,Bs,e1,e2,e3,e4,e5⟩:=h.ex;rcases e5 with e5|⟨a',q,D,h1,p⟩
 ·rw[ha]at e5;cases e5.1
 rw[ha]at h1;cases h1;have hm:=Dg.runs p.q4 p.run p.ok e3 (e4 q p.q4);have hD:=hm.all q p.q4;rw[aJ]at hD;have fin:∀B:Bt,B.Ok→tb B=D→Up {n with sy:=n.dl.length,af:=none,mo:=aC n.mo q B}:=fun B okB hB=>by
  refine⟨fun i hi=> ?_,dV++dP,[],aC Bs q D, ?_, ?_,hm,fun i hi=> ?_,.inl ⟨rfl,rfl⟩⟩
  ·by_cases e:i=q
   ·rw[e];show(aC n.mo q B q).Ok;rw[aJ];exact okB
   ·show(aC n.mo q B i).Ok;rw[bV e];exact h.mo i hi
  ·show n.dl=_;rw[e1,kl];simp[cG]
  ·show(n.dl.length:Int)=_;rw[e1,kl]
  ·by_cases e:i=q
   ·rw[e];show aC Bs q D q=tb (aC n.mo q B q);rw[aJ,aJ,hB]
   ·show aC Bs q D i=tb (aC n.mo q B i);rw[bV e,bV e];exact e4 i hi
 cases a with
 |serve l an=>
  obtain⟨rfl,h2,h3,h4⟩:=p.af;have:=fin ((n.mo l.q).more [l.op]) (yG h3 (h.mo _ p.q4)) h4.symm;show Up {n with sy:=n.dl.length,af:=none,mo:=aC n.mo l.q (dZ (n.mo l.q) l.op).1};rw[sB h3];exact this
 |begin l B=>
  obtain⟨rfl,h2,rfl⟩:=p.af;exact fin D hD.1 (lh hD.2)
 |shut l B=>
  obtain⟨rfl,h2,rfl⟩:=p.af;exact fin D hD.1 (lh hD.2)
 |take l B=>
  obtain⟨rfl,h2,rfl⟩:=p.af;exact fin D hD.1 (lh hD.2)
 |ky p' B=>
  obtain⟨rfl,h2,rfl⟩:=p.af;exact fin D hD.1 (lh hD.2)
theorem IY{B:Bt}{v:Ev}(h:(dZ B v).2.2.1=true):cQ B v (B.more [v]) (dZ B v).2.1 true 0∧(B.r=1∨B.r=2):=by
 unfold dZ at h⊢;split at h
 ·rename_i hx;rw[dif_pos hx];have hs:=hx.choose_spec;generalize hx.choose=x at*;obtain⟨B',an,k,er⟩:=x;simp only at hs h⊢;subst h;cases hs with
  |done h1 h2 h3 h4 s bw ht s' _ st hl=>exact⟨.done h1 h2 h3 h4 s bw ht s' _ st hl,h4⟩
 ·cases h
theorem PM{n:Nd}{l:Lt}(hq:l.q<4)(ok:(n.mo l.q).Ok)(h:(dZ (n.mo l.q) l.op).2.2.1=true):Pd n.mo (.serve l (dZ (n.mo l.q) l.op).2.1) [⟨2,l.q,(n.mo l.q).e,0,l.op⟩] l.q (tb ((n.mo l.q).more [l.op])):=by
 obtain⟨hs,hr⟩:=IY h;have hv:=Fg hs;have gZ:=jx ok.cM;have Ux:=ok.cM;unfold Bt.cC bz at Ux;have he:1≤(n.mo l.q).e∧(n.mo l.q).e≤1048576:=by omega
 have hf:(⟨2,l.q,(n.mo l.q).e,0,l.op⟩:Rec).fault=0:=yF ⟨by omega,by omega⟩ he hv;have hD:(tb ((n.mo l.q).more [l.op])).Ok:=KA (yG hs ok);refine⟨hq,fun r hr=> ?_,.one hf (fw (KA ok) hf ?_ hD),.inl fun r hr=> ?_,rfl,hr,hs,rfl⟩
 ·rw[List.mem_singleton.1 hr];exact⟨⟨hf,fun hk=>absurd (.inl rfl) hk⟩,rfl⟩
 ·have hd:∀B:Bt,B.r=1→B.e=(n.mo l.q).e→cX B ⟨2,l.q,(n.mo l.q).e,0,l.op⟩=some (B.more [l.op]):=fun B h1 h2=>by
   unfold cX;rw[if_neg (by show ¬(2:Int)=1;decide),if_pos rfl,if_pos ⟨rfl,h2,h1⟩]
  rcases hr with hr|hr
  ·rw[lh (show ¬(n.mo l.q).r=2 by omega),lh (show ¬((n.mo l.q).more [l.op]).r=2 by show ¬(n.mo l.q).r=2;omega)];exact hd _ hr rfl
  ·rw[Ff (show(n.mo l.q).r=2 from hr),Ff (show((n.mo l.q).more [l.op]).r=2 from hr)];exact hd _ rfl rfl
 ·rw[List.mem_singleton.1 hr];exact .inl rfl
theorem PN{n:Nd}{l:Lt}(hq:l.q<4)(ok:(n.mo l.q).Ok)(h:(aT (n.mo l.q) l.ep l.fr).2=0):Pd n.mo (.begin l (aT (n.mo l.q) l.ep l.fr).1) [⟨4,l.q,l.ep,l.fr,lY⟩] l.q (aT (n.mo l.q) l.ep l.fr).1:=by
 have hb:aT (n.mo l.q) l.ep l.fr=((aT (n.mo l.q) l.ep l.fr).1,0):=Prod.ext rfl h;obtain⟨he,Il,hf4⟩:=Fh hb;have hD:=Fi hb;have hr:¬((n.mo l.q).r=1∨(n.mo l.q).r=2∨(n.mo l.q).r=3):=fun hr=>by
  unfold aT at h;rw[if_neg (fun g=>g ok),if_neg (fun g=>g ⟨he,Il,hf4⟩),if_pos hr]at h;cases h
 have hf:(⟨4,l.q,l.ep,l.fr,lY⟩:Rec).fault=0:=IV ⟨by omega,by omega⟩ he ⟨Il,hf4⟩;refine⟨hq,fun r hr=> ?_,.one hf (fw (KA ok) hf ?_ hD),.inr fun r hr=> ?_,rfl,fun e=>hr (.inl e),rfl⟩
 ·rw[List.mem_singleton.1 hr];exact⟨⟨hf,fun _=>rfl⟩,rfl⟩
 ·rw[lh (fun e=>hr (.inr (.inl e)))];unfold cX;rw[if_neg (by show ¬(4:Int)=1;decide),if_neg (by show ¬(4:Int)=2;decide),if_neg (by show ¬(4:Int)=3;decide),if_pos rfl,if_pos h]
 ·rw[List.mem_singleton.1 hr];unfold jw;show ¬((4:Int)=2∨(4:Int)=6);decide
theorem ud{B:Bt}{hv:Int}(ok:B.Ok)(h:(bh B hv).2=0):(B.r=2∨B.r=3)∧((B.r=3∧(bh B hv).1=B)∨(B.r=2∧(bh B hv).1=⟨3,B.e,B.f,B.t,0,B.es⟩)∨(B.r=2∧(bh B hv).1=⟨B.r,B.e,B.f,B.t,B.o+1,B.es⟩)):=by
 have ht:dq B hv=0:=by
  by_cases ht:dq B hv=0
  ·exact ht
  ·unfold bh at h;rw[if_pos ht]at h;exact absurd h ht
 have hr:B.r=2∨B.r=3:=by
  unfold dq at ht;rw[if_neg (fun g=>g ok)]at ht;split at ht
  ·cases ht
  ·rename_i g;exact Decidable.not_not.1 g
 refine⟨hr, ?_⟩;unfold bh;rw[if_neg (fun g=>g ht)];by_cases h3:B.r=3
 ·rw[if_pos h3];exact .inl ⟨h3,rfl⟩
 ·rw[if_neg h3];have h2:B.r=2:=by omega
  split
  ·exact .inr (.inl ⟨h2,rfl⟩)
  ·exact .inr (.inr ⟨h2,rfl⟩)
theorem Uy{n:Nd}{l:Lt}(hq:l.q<4)(ok:(n.mo l.q).Ok)(h:(bh (n.mo l.q) l.pl).2=0)(hr:¬(bh (n.mo l.q) l.pl).1.r=(n.mo l.q).r):Pd n.mo (.shut l (bh (n.mo l.q) l.pl).1) [⟨3,l.q,(n.mo l.q).e,(n.mo l.q).t,lY⟩] l.q (bh (n.mo l.q) l.pl).1:=by
 have hD:(bh (n.mo l.q) l.pl).1.Ok:=nz (er:=(bh (n.mo l.q) l.pl).2) rfl;have hs:=ok.cM;unfold Bt.cC bz at hs;obtain⟨_,⟨_,e⟩|⟨h2,e⟩|⟨_,e⟩⟩:=ud ok h
 ·rw[e]at hr;exact absurd rfl hr
 ·have hf:(⟨3,l.q,(n.mo l.q).e,(n.mo l.q).t,lY⟩:Rec).fault=0:=IT ⟨by omega,by omega⟩ (by omega) (by omega);refine⟨hq,fun r hr=> ?_,.one hf (fw (KA ok) hf ?_ hD),.inr fun r hr=> ?_,rfl,by omega,rfl⟩
  ·rw[List.mem_singleton.1 hr];exact⟨⟨hf,fun _=>rfl⟩,rfl⟩
  ·rw[Ff h2,e];unfold cX;rw[if_neg (by show ¬(3:Int)=1;decide),if_neg (by show ¬(3:Int)=2;decide),if_pos rfl,if_pos ⟨rfl,rfl⟩];have:(n.mo l.q).f=0:=by omega
   rw[this]
  ·rw[List.mem_singleton.1 hr];unfold jw;show ¬((3:Int)=2∨(3:Int)=6);decide
 ·rw[e]at hr;exact absurd rfl hr
theorem Dh{B:Bt}{ep:Int}(h:(bG B ep).2=0):B.r=3∧(bG B ep).1=⟨0,B.e,0,0,0,[]⟩:=by
 unfold bG at h⊢;by_cases h1:B.Ok
 ·rw[if_neg (fun g=>g h1)]at h⊢;by_cases h2:B.r=3
  ·rw[if_neg (fun g=>g h2)]at h⊢;by_cases h3:ep≤B.e
   ·rw[if_pos h3]at h;cases h
   ·rw[if_neg h3];exact⟨h2,rfl⟩
  ·rw[if_pos h2]at h;cases h
 ·rw[if_pos h1]at h;cases h
theorem PO{mo:Nat→Bt}{q:Nat}{ep:Int}(hq:q<4)(ok:(mo q).Ok)(h:(bG (mo q) ep).2=0):Pd mo (.ky q (bG (mo q) ep).1) [⟨7,q,(bG (mo q) ep).1.e,0,lY⟩] q (bG (mo q) ep).1:=by
 obtain⟨h3,e⟩:=Dh h;obtain⟨hf,ha⟩:=De (q:=q) ⟨by omega,by omega⟩ ok h3;rw[e];refine⟨hq,fun r hr=> ?_,.one hf (by rw[lh (by omega)];exact ha),.inr fun r hr=> ?_,rfl,by omega,rfl⟩
 ·rw[List.mem_singleton.1 hr];exact⟨⟨hf,fun _=>rfl⟩,rfl⟩
 ·rw[List.mem_singleton.1 hr];unfold jw;show ¬((7:Int)=2∨(7:Int)=6);decide
theorem yH{q:Int}(hq:0≤q∧q≤3):∀(l:List Ev) (B:Bt),B.r=4→B.Ok→(B.more l).Ok→kv B (l.map fun e=>(⟨5,q,B.e,0,e⟩:Rec)) (B.more l)∧∀e∈l,e.Ok
 |[],B,_,_,_=>⟨by rw[show B.more []=B by unfold Bt.more;rw[List.append_nil]];exact .nil B,fun e he=>by cases he⟩
 |x::l,B,hr,ok,hm=>by
  obtain⟨s,bw,ht⟩:=hm.told;have hlen:=hm.len;have Xh:bp (B.es++x::l) s bw:=ht;have Fj:(B.es++x::l).length≤2000:=hlen;have Im:(B.es++x::l).length=B.es.length+(l.length+1):=by simp
  obtain⟨s0,h0⟩:=Xh.take B.es.length (by omega);obtain⟨s1,an,st,hv⟩:=Xh.step (k:=B.es.length) (by omega) h0;have hx:(B.es++x::l)[B.es.length]'(by omega)=x:=by simp
  rw[hx]at st hv;obtain⟨s2,h2⟩:=Xh.take (B.es.length+1) (by omega);have e2:(B.es++x::l).take (B.es.length+1)=B.es++[x]:=by
   rw[show B.es++x::l=(B.es++[x])++l by simp,List.take_left' (by simp)]
  rw[e2]at h2;have hs:=ok.cM;unfold Bt.cC bz at hs;have q_:(B.more [x]).Ok:=⟨.inr (.inr (.inr (.inr ⟨hr,by show 1≤B.e∧_;simp only[Bt.more];omega⟩))),by show(B.es++[x]).length≤2000;simp;omega,_,_,h2⟩;have em:(B.more [x]).more l=B.more (x::l):=by simp[Bt.more]
  obtain⟨ih,ihv⟩:=yH hq l (B.more [x]) hr q_ (by rw[em];exact hm);rw[em]at ih;have hf:(⟨5,q,B.e,0,x⟩:Rec).fault=0:=sA hq (by omega) hv;refine⟨.cons hf (fw ok hf ?_ q_) ih,fun e he=> ?_⟩
  ·unfold cX;rw[if_neg (by show ¬(5:Int)=1;decide),if_neg (by show ¬(5:Int)=2;decide),if_neg (by show ¬(5:Int)=3;decide),if_neg (by show ¬(5:Int)=4;decide),if_pos rfl,if_pos ⟨rfl,rfl,hr⟩]
  ·rcases List.mem_cons.1 he with rfl|he
   ·exact hv
   ·exact ihv e he
theorem Di{B:Bt}{ep A0:Int}{l:List Ev}{la:Bool}(h:(bk B ep A0 l la).2=0):B.Ok∧B.r=4∧(bk B ep A0 l la).1.Ok∧∃new,(bk B ep A0 l la).1=if la then(B.more new).broken else B.more new:=by
 unfold bk at h⊢;by_cases h1:B.Ok
 ·rw[if_neg (fun g=>g h1)]at h⊢;by_cases h2:B.r=4
  ·rw[if_neg (fun g=>g h2)]at h⊢;split at h
   ·cases h
   ·rename_i g3;rw[if_neg g3];split at h
    ·cases h
    ·rename_i g4;rw[if_neg g4];split at h
     ·cases h
     ·rename_i g5;rw[if_neg g5];by_cases g6:(if la then(B.more (l.drop (B.es.length-A0.toNat))).broken else B.more (l.drop (B.es.length-A0.toNat))).Ok
      ·rw[if_neg (fun g=>g g6)];exact⟨h1,h2,g6,_,rfl⟩
      ·rw[if_pos g6]at h;cases h
  ·rw[if_pos h2]at h;cases h
 ·rw[if_pos h1]at h;cases h
theorem Uz{n:Nd}{l:Lt}(hq:l.q<4)(h:(bk (n.mo l.q) l.ep l.pl l.es l.la).2=0):Pd n.mo (.take l (bk (n.mo l.q) l.ep l.pl l.es l.la).1) (dp l.q (bk (n.mo l.q) l.ep l.pl l.es l.la).1 (n.mo l.q).es.length) l.q (bk (n.mo l.q) l.ep l.pl l.es l.la).1:=by
 obtain⟨ok,hr,hD,new,e⟩:=Di h;generalize(bk (n.mo l.q) l.ep l.pl l.es l.la).1=D at*;have hs:=ok.cM;unfold Bt.cC bz at hs;have yI:(0:Int)≤(l.q:Int)∧(l.q:Int)≤3:=⟨by omega,by omega⟩;cases hla:l.la with
 |false=>
  rw[hla]at e;have e:D=(n.mo l.q).more new:=e;obtain⟨sD,UA⟩:=yH yI new (n.mo l.q) hr ok (e▸hD);have hi:dp l.q D (n.mo l.q).es.length=new.map fun x=>(⟨5,l.q,(n.mo l.q).e,0,x⟩:Rec):=by
   unfold dp;rw[e,if_neg (by show ¬(n.mo l.q).r=1;omega)];simp only[Bt.more];rw[List.drop_left' rfl]
  rw[hi];refine⟨hq,fun r hm=> ?_,by rw[lh (by omega),e];exact sD,.inl fun r hm=> ?_,rfl,by omega,rfl⟩
  ·obtain⟨x,hx,rfl⟩:=List.mem_map.1 hm;exact⟨⟨sA yI (by omega) (UA x hx),fun hk=>absurd (.inr rfl) hk⟩,rfl⟩
  ·obtain⟨x,hx,rfl⟩:=List.mem_map.1 hm;exact .inr (.inl rfl)
 |true=>
  rw[hla]at e;have e:D=((n.mo l.q).more new).broken:=e;have aaD:((n.mo l.q).more new).Ok:=by
   obtain⟨s,bw,ht⟩:=hD.told;have hlen:=hD.len;rw[e]at ht hlen;have ht:bp (((n.mo l.q).es++new)++[Ev.brk]) s bw:=ht;have hlen:(((n.mo l.q).es++new)++[Ev.brk]).length≤2000:=hlen;obtain⟨s0,h0⟩:=ht.take ((n.mo l.q).es++new).length (by simp);rw[List.take_left' rfl]at h0;have xj:((n.mo l.q).es++new).length≤2000:=by
    rw[List.length_append]at hlen;omega
   exact⟨.inr (.inr (.inr (.inr (by simp only[Bt.more];omega)))),xj,s0,_,h0⟩
  obtain⟨sD,UA⟩:=yH yI new (n.mo l.q) hr ok aaD;have hf:(⟨6,l.q,(n.mo l.q).e,0,lY⟩:Rec).fault=0:=IU yI (by omega);have hi:dp l.q D (n.mo l.q).es.length=(new.map fun x=>(⟨5,l.q,(n.mo l.q).e,0,x⟩:Rec))++[⟨6,l.q,(n.mo l.q).e,0,lY⟩]:=by
   unfold dp;rw[e,if_pos (show((n.mo l.q).more new).broken.r=1 from rfl)];simp only[Bt.broken,Bt.more];rw[List.append_assoc,List.drop_left' rfl,List.dropLast_concat]
  have ha:dX ((n.mo l.q).more new) ⟨6,l.q,(n.mo l.q).e,0,lY⟩=(D,0):=by
   refine fw aaD hf ?_ hD;unfold cX;rw[if_neg (by show ¬(6:Int)=1;decide),if_neg (by show ¬(6:Int)=2;decide),if_neg (by show ¬(6:Int)=3;decide),if_neg (by show ¬(6:Int)=4;decide),if_neg (by show ¬(6:Int)=5;decide),if_pos rfl,if_pos ⟨rfl,rfl,hr⟩,e];have h1:(n.mo l.q).t=0:=by omega
   have h2:(n.mo l.q).o=0:=by omega
   simp only[Bt.broken,Bt.more,h1,h2]
  rw[hi];refine⟨hq,fun r hm=> ?_,by rw[lh (by omega)];exact sD.snoc hf ha,.inl fun r hm=> ?_,rfl,by omega,rfl⟩
  ·rcases List.mem_append.1 hm with hm|hm
   ·obtain⟨x,hx,rfl⟩:=List.mem_map.1 hm;exact⟨⟨sA yI (by omega) (UA x hx),fun hk=>absurd (.inr rfl) hk⟩,rfl⟩
   ·rw[List.mem_singleton.1 hm];exact⟨⟨hf,fun _=>rfl⟩,rfl⟩
  ·rcases List.mem_append.1 hm with hm|hm
   ·obtain⟨x,hx,rfl⟩:=List.mem_map.1 hm;exact .inr (.inl rfl)
   ·rw[List.mem_singleton.1 hm];exact .inr (.inr rfl)
theorem aaE{n n':Nd}{a:Af}{rs:List Rec}(h:pS n a rs=some n'):n'.up=n.up∧n'.i=n.i∧n'.sk=n.sk∧n'.ct=n.ct:=by
 unfold pS at h;split at h
 ·cases h;exact⟨rfl,rfl,rfl,rfl⟩
 ·cases h
theorem KB{n:Nd}{s:Ws}{l:Lt}(h:Up n)(ha:n.af=none)(hw:nC l):Up (cH n s l).1∧(cH n s l).1.up=n.up∧(cH n s l).1.i=n.i∧(cH n s l).1.sk=n.sk∧(cH n s l).1.ct=n.ct:=by
 have hq:=hw.q;have ok:=h.mo l.q hq;have same:Up n∧n.up=n.up∧n.i=n.i∧n.sk=n.sk∧n.ct=n.ct:=⟨h,rfl,rfl,rfl,rfl⟩;have wr:∀{m:Nd} {a:Af} {rs:List Rec} {D:Bt},Up m→m.af=none→m.up=n.up→m.i=n.i→m.sk=n.sk→m.ct=n.ct→Pd m.mo a rs l.q D→Up ((pS m a rs).getD m)∧((pS m a rs).getD m).up=n.up∧((pS m a rs).getD m).i=n.i∧((pS m a rs).getD m).sk=n.sk∧((pS m a rs).getD m).ct=n.ct:=fun {m a rs D} hm hma h1 h2 h3 h4 p=>by
  refine⟨Uw hm fun n' hn=>hm.write hma p hn, ?_⟩;cases EZ:pS m a rs with
  |none=>exact⟨h1,h2,h3,h4⟩
  |some x=>
   obtain⟨k1,k2,k3,k4⟩:=aaE EZ;exact⟨k1.trans h1,k2.trans h2,k3.trans h3,k4.trans h4⟩
 unfold cH;split
 ·unfold jy;split
  ·exact same
  ·split
   ·exact same
   ·rename_i hk;have hk:(dZ (n.mo l.q) l.op).2.2.1=true:=by
     cases hb:(dZ (n.mo l.q) l.op).2.2.1 with
     |true=>rfl
     |false=>exact absurd hb hk
    have:=wr h ha rfl rfl rfl rfl (PM hq ok hk);split
    ·rename_i n' hn;rw[hn]at this;exact this
    ·exact same
 ·split
  ·unfold jz;split
   ·exact same
   ·rename_i hb;split
    ·exact same
    ·exact wr h ha rfl rfl rfl rfl (PN hq ok (Decidable.not_not.1 hb))
  ·split
   ·unfold ie;split
    ·exact same
    ·split
     ·exact same
     ·rename_i hc;have hc:=Decidable.not_not.1 hc;split
      ·rename_i hr;refine⟨h.mL ha hq (nz (er:=(bh (n.mo l.q) l.pl).2) rfl) ?_,rfl,rfl,rfl,rfl⟩;obtain⟨_,⟨_,e⟩|⟨h2,e⟩|⟨h2,e⟩⟩:=ud ok hc
       ·rw[e]
       ·rw[e,h2]at hr;have:(3:Int)=2:=hr;omega
       ·rw[e,Ff h2,Ff (show(⟨(n.mo l.q).r,(n.mo l.q).e,(n.mo l.q).f,(n.mo l.q).t,(n.mo l.q).o+1,(n.mo l.q).es⟩:Bt).r=2 from h2)]
      ·rename_i hr;exact wr h ha rfl rfl rfl rfl (Uy hq ok hc hr)
   ·split
    ·unfold takeN;split
     ·exact same
     ·rename_i hi;split
      ·exact same
      ·exact wr h ha rfl rfl rfl rfl (Uz hq (Decidable.not_not.1 hi))
    ·have hm:Up (eN n l):=by
      unfold eN;split
      ·exact h.congr rfl rfl rfl rfl
      ·exact h
     have e:(eN n l).mo=n.mo∧(eN n l).af=n.af∧(eN n l).up=n.up∧(eN n l).i=n.i∧(eN n l).sk=n.sk∧(eN n l).ct=n.ct:=by
      unfold eN;split<;>exact⟨rfl,rfl,rfl,rfl,rfl,rfl⟩
     unfold jA;split
     ·rename_i hf;refine wr hm (e.2.1.trans ha) e.2.2.1 e.2.2.2.1 e.2.2.2.2.1 e.2.2.2.2.2 ?_ (D:=(bG (n.mo l.q) l.pe).1);rw[e.1];exact PO hq ok hf
     ·exact⟨hm,e.2.2.1,e.2.2.2.1,e.2.2.2.2.1,e.2.2.2.2.2⟩
theorem Dj:∀(k:Nat) {n:Nd} {s:Ws},Up n→Up (fR k n s).1∧(fR k n s).1.up=n.up∧(fR k n s).1.i=n.i∧(fR k n s).1.sk=n.sk∧(fR k n s).1.ct=n.ct
 |0,n,s,h=>⟨h,rfl,rfl,rfl,rfl⟩
 |k+1,n,s,h=>by
  unfold fR;split
  ·exact Dj k (n:={n with tu:=(n.tu+1) % 4}) (h.congr rfl rfl rfl rfl)
  ·exact⟨h.congr rfl rfl rfl rfl,rfl,rfl,rfl,rfl⟩
theorem KC:∀(k:Nat) {n:Nd} {s:Ws},Up n→n.af=none→(∀l∈n.wt,nC l)→Up (eW k n s).1∧(eW k n s).1.up=n.up∧(eW k n s).1.i=n.i∧(eW k n s).1.sk=n.sk∧(eW k n s).1.ct=n.ct
 |0,n,s,h,_,_=>Dj 4 h
 |k+1,n,s,h,ha,hw=>by
  unfold eW;split
  ·exact Dj 4 h
  ·rename_i l ls nt;have hl:nC l:=hw l (by rw[nt];exact List.mem_cons_self);have hd:=KB (n:={n with wt:=ls}) (s:=s) (l:=l) (h.congr rfl rfl rfl rfl) ha hl;have hk:=(sE {n with wt:=ls} s l).1.2;split
   ·exact hd
   ·rename_i hs;have ha':(cH {n with wt:=ls} s l).1.af=none:=by
     cases hx:(cH {n with wt:=ls} s l).1.af with
     |none=>rfl
     |some x=>rw[hx]at hs;exact absurd rfl hs
    obtain⟨h1,h2,h3,h4,h5⟩:=KC k (s:=(cH {n with wt:=ls} s l).2) hd.1 ha' (fun x hx=>hw x (by rw[hk]at hx;rw[nt];exact List.mem_cons_of_mem _ hx));exact⟨h1,h2.trans hd.2.1,h3.trans hd.2.2.1,h4.trans hd.2.2.2.1,h5.trans hd.2.2.2.2⟩
theorem Steps.Ur{b:tJ}{k:Nat}{rs:List (List Int)}(h:Steps b k rs):∀{k':Nat} {Xi:List (List Int)},Steps b k' Xi→Xi.length=rs.length→k'=k∧Xi=rs:=by
 induction h with
 |start=>
  intro k' Xi h' hl;cases h' with
  |start=>exact⟨rfl,rfl⟩
  |more h1 hu=>simp at hl
 | @more k m rs zs h hu ih=>
  intro k' Xi h' hl;cases h' with
  |start=>simp at hl
  | @more k2 m2 dP zs2 h2 hu2=>
   obtain⟨rfl,rfl⟩:=ih h2 (by simpa using hl);rw[hu]at hu2;cases hu2;exact⟨rfl,rfl⟩
theorem Mt(dV dP:List (List Int))(hg:∀z∈dV++dP,lI z)(k:Nat)(UB:(aO dV).length≤k)(hk:k≤(aO (dV++dP)).length):∃j,bu ((aO (dV++dP)).take k)=(dV++dP.take j,(aO (dV++dP.take j)).length)∧(aO (dV++dP.take j)).length≤k:=by
 have hs:=(oK ((aO (dV++dP)).take k)).1;have hb:=(gN ((aO (dV++dP)).take k)).2;rw[List.length_take]at hb;obtain⟨more,h2,-⟩:=Mu (dV++dP) hg k hk;have h1:Steps (aO (dV++dP)) (bu ((aO (dV++dP)).take k)).2 (bu ((aO (dV++dP)).take k)).1:=hs.same (by rw[List.take_take,Nat.min_eq_left (by omega)]);have h3:Steps ((aO (dV++dP)).take k) (aO dV).length dV:=by
  have:=ue dV (aO dP) (fun z hz=>hg z (List.mem_append.2 (.inl hz)));rw[←pF]at this;exact this.same (by rw[List.take_take,Nat.min_eq_left UB])
 obtain⟨m1,h4,_,_⟩:=h3.prefix;have hp:dP=m1++more:=by
  rw[h4,List.append_assoc]at h2;exact List.append_cancel_left h2
 have ht:dP.take m1.length=m1:=by rw[hp,List.take_left' rfl]
 refine⟨m1.length, ?_⟩;rw[ht];have hn:(dV++dP).take (dV++m1).length=dV++m1:=by rw[hp,←List.append_assoc,List.take_left' rfl]
 have h5:=qg (dV++dP) [] hg (dV++m1).length (by rw[hp];simp);rw[List.append_nil,hn]at h5;have h6:=(h1.Ur h5 (by rw[h4])).1;refine⟨Prod.ext h4 h6.symm, ?_⟩;rw[h6];omega
theorem IZ{r r':Rec}(h:bn r=bn r'):r=r':=by
 obtain⟨k,q,e,p,v⟩:=r;obtain⟨v1,v2,v3,v4,v5,v6⟩:=v;obtain⟨k',q',e',p',v'⟩:=r';obtain⟨u1,u2,u3,u4,u5,u6⟩:=v';simp only[bn,List.cons.injEq,and_true]at h;obtain⟨rfl,rfl,rfl,rfl,rfl,rfl,rfl,rfl,rfl,rfl⟩:=h;rfl
theorem qh:∀{a b:List Rec},a.map bn=b.map bn→a=b
 |[],[],_=>rfl
 |[],_::_,h=>by simp at h
 |_::_,[],h=>by simp at h
 |x::a,y::b,h=>by
  rw[List.map_cons,List.map_cons]at h;injection h with h1 h2
  rw[IZ h1,qh h2]
theorem UC{f g:Nat→Bt}(h:kK f=kK g):∀q,q<4→f q=g q:=by
 simp only[kK,List.cons.injEq,and_true]at h;exact rh h.1 h.2.1 h.2.2.1 h.2.2.2
structure Fk(n:Nd)(dV dP:List Rec)(Bs:Nat→Bt):Prop where
 tm:Dg (dV++dP) Bs
 rd:bu n.dl=((dV++dP).map bn,(cG (dV++dP)).length)
 tk:n.dl.take (cG (dV++dP)).length=cG (dV++dP)
 ct:n.ct=(cG dV).length
 lt:∀r∈dP,jw r→∃q:Nat,q<4∧r.q=(q:Int)∧0<(Bs q).es.length
def Dw(n:Nd):Prop:=∃dV dP Bs,Fk n dV dP Bs
theorem UD{len:Nat}{s kp:Int}(h:s≤len)(hk:0≤kp):s.toNat≤leftOf len s kp:=by
 unfold leftOf;split<;>omega
theorem Up.Ya{n:Nd}(h:Up n){kp:Int}(hk:0≤kp):∃dV dP Bs,Fk (vX n kp) dV dP Bs∧∃ra Ba,dV=ra∧n.dl.take (cG ra).length=cG ra∧n.sy=((cG ra).length:Nat)∧Dg ra Ba∧(∀q,q<4→Ba q=tb (n.mo q))∧((dP=[]∧Bs=Ba)∨∃rb a q D j E,n.af=some a∧Pd n.mo a rb q D∧dP=rb.take j∧kv (tb (n.mo q)) (rb.take j) E∧Bs=aC Ba q E):=by
 obtain⟨dV,dP,Bs,e1,e2,e3,e4,e5⟩:=h.ex;have hd:n.dl=cG (dV++dP):=by rw[e1,kl]
 have hsl:n.sy≤n.dl.length:=by rw[e2,e1,List.length_append];omega
 have Yb:(cG dV).length≤leftOf n.dl.length n.sy kp:=by
  have:=UD (len:=n.dl.length) (kp:=kp) (s:=n.sy) hsl hk;omega
 have hhi:leftOf n.dl.length n.sy kp≤n.dl.length:=Fl;have ok2:∀r∈dP,pE r:=by
  rcases e5 with⟨_,e⟩|⟨a,q,D,_,p⟩
  ·rw[e];exact fun r hr=>by cases hr
  ·exact fun r hr=>(p.ok r hr).1
 have adC:∀r∈dV++dP,pE r:=fun r hr=>(List.mem_append.1 hr).elim (e3.f r) (ok2 r);have hg:∀z∈dV.map bn++dP.map bn,lI z:=by rw[←List.map_append];exact Fc adC
 have hf:cG (dV++dP)=aO (dV.map bn++dP.map bn):=by rw[ml,List.map_append]
 have k_:leftOf n.dl.length n.sy kp≤(aO (dV.map bn++dP.map bn)).length:=by rw[←hf,←hd];exact hhi
 obtain⟨j,hr,hj⟩:=Mt (dV.map bn) (dP.map bn) hg (leftOf n.dl.length n.sy kp) (by rw[←ml];exact Yb) k_;have em:dV.map bn++(dP.map bn).take j=(dV++dP.take j).map bn:=by rw[List.map_append,List.map_take]
 rw[em,←ml]at hr hj;rw[←hf,←hd]at hr;have I1:(n.dl.take (leftOf n.dl.length n.sy kp)).take (cG (dV++dP.take j)).length=cG (dV++dP.take j):=by
  rw[List.take_take,Nat.min_eq_left hj,hd]
  conv=>lhs;arg 2;rw[←List.take_append_drop j dP,←List.append_assoc,kl]
  exact List.take_left' rfl
 have hct:(vX n kp).ct=(cG dV).length:=by show n.sy.toNat=_;omega
 have htr:n.dl.take (cG dV).length=cG dV:=by rw[e1];exact List.take_left' rfl
 rcases e5 with⟨_,e⟩|⟨a,q,D,hn,p⟩
 ·subst e;rw[List.take_nil]at hr I1;exact⟨dV,[],Bs,⟨by rw[List.append_nil];exact e3,hr,I1,hct,fun r hr=>by cases hr⟩,dV,Bs,rfl,htr,e2,e3,e4,.inl ⟨rfl,rfl⟩⟩
 ·obtain⟨E,hE⟩:=p.run.cut j;have hm:=Dg.runs p.q4 hE (fun r hr=>p.ok r (List.mem_of_mem_take hr)) e3 (e4 q p.q4);refine⟨dV,dP.take j,aC Bs q E,⟨hm,hr,I1,hct,fun r hr hl=>⟨q,p.q4,(p.ok r (List.mem_of_mem_take hr)).2, ?_⟩⟩,dV,Bs,rfl,htr,e2,e3,e4,.inr ⟨dP,a,q,D,j,E,hn,p,rfl,hE,rfl⟩⟩;rw[aJ];exact hE.late (p.lt.take j) r hr hl
theorem Up.aaG{n:Nd}(h:Up n){kp:Int}(hk:0≤kp):Dw (vX n kp):=by
 obtain⟨a,b,c,hd,_⟩:=h.Ya hk;exact⟨a,b,c,hd⟩
theorem Yc{a b:List Rec}:(cG a).length≤(cG (a++b)).length:=by rw[kl,List.length_append];omega
section
variable{n:Nd}{dV dP:List Rec}{Bs:Nat→Bt}
theorem Fk.len(h:Fk n dV dP Bs):(cG (dV++dP)).length≤n.dl.length:=by
 have:=(gN n.dl).2;rw[h.rd]at this;exact this
theorem Fk.tp(h:Fk n dV dP Bs)(hl:n.dl.length≤100000):ZZ n Bs (dV++dP) (cG (dV++dP)).length:=
 ⟨h.rd,Kw h.tm.f,by have:=h.len;have:=Ut (rs:=dV++dP);omega,by rw[h.tm.b]⟩
theorem Fk.cut(h:Fk n dV dP Bs):(n.dl.take (cG (dV++dP)).length).drop n.ct=cG dP:=by
 rw[h.tk,h.ct,kl];exact List.drop_left' rfl
theorem Fk.st(h:Fk n dV dP Bs)(hl:n.dl.length≤100000):Xj n Bs (dV++dP) (cG (dV++dP)).length dP (cG dP).length:=by
 have t:=h.tp hl;have ok2:∀r∈dP,pE r:=fun r hr=>h.tm.f r (List.mem_append.2 (.inr hr));refine⟨t.rd,t.wf,t.rl,t.reb,fun q hq=>(h.tm.all q hq).1,by rw[h.ct];exact Yc,by rw[h.cut];exact Fe ok2,Kw ok2, ?_,fun r hr Ms=> ?_⟩
 ·have:=t.rl;rw[List.length_append]at this;omega
 ·obtain⟨q,hq,e,hp⟩:=h.lt r hr Ms;exact⟨q,hq,e,(h.tm.all q hq).1,hp⟩
theorem Fk.uniq(h:Fk n dV dP Bs){BK:Nat→Bt}{rs ps:List Rec}{kk Po:Nat}(hs:Xj n BK rs kk ps Po):rs=dV++dP∧kk=(cG (dV++dP)).length∧ps=dP∧∀q,q<4→BK q=Bs q:=by
 have e:=hs.rd;rw[h.rd]at e;obtain⟨e1,e2⟩:=Prod.mk.inj e;have e1:=qh e1;subst e2;have e3:=hs.rd2;rw[h.cut,Fe (fun r hr=>h.tm.f r (List.mem_append.2 (.inr hr)))]at e3;have e4:=hs.reb;rw[←e1,h.tm.b]at e4;exact⟨e1.symm,rfl,(qh (Prod.mk.inj e3).1).symm,fun q hq=>(UC (Option.some.inj e4) q hq).symm⟩
end
theorem I2{B:Bt}(h:(bB B).2=0)(h2:¬B.r=2):(¬B.r=1∧(bB B).1=B)∨(B.r=1∧(bB B).1=B.broken∧B.broken.Ok):=by
 unfold bB at h⊢;by_cases ok:B.Ok
 ·rw[if_neg (fun g=>g ok)]at h⊢;by_cases h1:B.r=1
  ·rw[if_neg (fun g=>g (.inl h1))]at h⊢;by_cases hb:B.broken.Ok
   ·rw[if_neg (fun g=>g hb)];exact .inr ⟨h1,rfl,hb⟩
   ·rw[if_pos hb]at h;cases h
  ·rw[if_pos (by omega)];exact .inl ⟨h1,rfl⟩
 ·rw[if_pos ok]at h;cases h
theorem Fm{B:Bt}(ok:B.Ok)(h1:B.r=1):B.more [Ev.brk]=B.broken:=by
 have hs:=ok.cM;unfold Bt.cC bz at hs;obtain⟨r,e,f,t,o,es⟩:=B;simp only at hs h1;obtain⟨_,_,_,h2,h3,h4⟩:r=1∧1≤e∧e≤1048576∧f=0∧t=0∧o=0:=by omega
 subst h1 h2 h3 h4;rfl
theorem Fo{rs:List Rec}{Bs:Nat→Bt}(h:Dg rs Bs)(hw:∀q,q<4→(bB (Bs q)).2=0):∀k,k≤4→Dg (rs++bf Bs k) (fun q=>if q<k then(bB (Bs q)).1 else Bs q)
 |0,_=>by
  rw[show(fun q=>if q<0 then(bB (Bs q)).1 else Bs q)=Bs from funext fun q=>if_neg (Nat.not_lt_zero q)];show Dg (rs++[]) Bs;rw[List.append_nil];exact h
 |k+1,hk=>by
  have ih:=Fo h hw k (by omega);obtain⟨ok,h2⟩:=h.all k (by omega);have fin:∀D,(bB (Bs k)).1=D→(fun q=>if q<k+1 then(bB (Bs q)).1 else Bs q)=aC (fun q=>if q<k then(bB (Bs q)).1 else Bs q) k D:=fun D e=>by
   funext q;by_cases hq:q=k
   ·rw[hq,aJ,if_pos (by omega),e]
   ·rw[bV hq];by_cases aW:q<k
    ·rw[if_pos aW,if_pos (by omega)]
    ·rw[if_neg aW,if_neg (by omega)]
  rcases I2 (hw k (by omega)) h2 with⟨h1,e⟩|⟨h1,e,hb⟩
  ·rw[ri h1,fin _ e,show Bs k=(fun q=>if q<k then(bB (Bs q)).1 else Bs q) k from(if_neg (Nat.lt_irrefl k)).symm,tt];exact ih
  ·have hs:=ok.cM;unfold Bt.cC bz at hs;have hf:(rY Bs k).fault=0:=yF (q:=k) (e:=(Bs k).e) (v:=Ev.brk) ⟨by omega,by omega⟩ (by omega) Ev.I3;rw[oL h1,fin _ e,←List.append_assoc];refine ih.snoc ⟨hf,fun g=>absurd (.inl rfl) g⟩ (by omega) rfl ?_;rw[if_neg (Nat.lt_irrefl k)];refine fw ok hf ?_ hb;unfold cX;rw[if_neg (by show ¬(2:Int)=1;decide),if_pos rfl,if_pos ⟨rfl,rfl,h1⟩];exact congrArg some (Fm ok h1)
theorem PQ{n:Nd}{s:Ws}{dV dP:List Rec}{Bs:Nat→Bt}(h:Fk n dV dP Bs)(hl:n.dl.length≤100000)(hu:n.up=false)(hk:n.sk=false):∃BK,(∀q,q<4→BK q=Bs q)∧jB n s=qi n s BK (cG (dV++dP)).length dP:=by
 have hx:∃x:(Nat→Bt)×List Rec×Nat×List Rec×Nat,Xj n x.1 x.2.1 x.2.2.1 x.2.2.2.1 x.2.2.2.2:=⟨(Bs,_,_,_,_),h.st hl⟩;have e:jB n s=qi n s hx.choose.1 hx.choose.2.2.1 hx.choose.2.2.2.1:=by
  unfold jB;rw[if_neg (by rw[hu,hk];simp),dif_pos hx]
 obtain⟨_,e2,e3,e4⟩:=h.uniq hx.choose_spec;rw[e2,e3]at e;exact⟨_,e4,e⟩
theorem ug{Bs BK:Nat→Bt}:∀k,k≤4→(∀q,q<4→BK q=Bs q)→bf BK k=bf Bs k
 |0,_,_=>rfl
 |k+1,hk,h=>by
  have e:=h k (by omega);unfold bf;rw[ug k (by omega) h,e,show rY BK k=rY Bs k by unfold rY;rw[e]]
theorem I4{n:Nd}{dV dP:List Rec}{Bs BK:Nat→Bt}(h:Fk n dV dP Bs)(hB:∀q,q<4→BK q=Bs q)(hw:∀q,q<4→(bB (BK q)).2=0):Up {n with up:=true,dl:=n.dl.take (cG (dV++dP)).length++cG (bf BK 4),sy:=(((cG (dV++dP)).length+(cG (bf BK 4)).length:Nat):Int),mo:=fun q=>(bB (BK q)).1,hn:=fS 4,he:=bH,wt:=[],af:=none,tu:=0}:=by
 rw[ug 4 (Nat.le_refl _) hB];have hw':∀q,q<4→(bB (Bs q)).2=0:=fun q hq=>hB q hq▸hw q hq;have hm:=Fo h.tm hw' 4 (Nat.le_refl _);refine⟨fun q hq=> ?_,(dV++dP)++bf Bs 4,[],_, ?_, ?_,hm,fun q hq=> ?_,.inl ⟨rfl,rfl⟩⟩
 ·have:=hm.all q hq;rw[if_pos hq]at this;show(bB (BK q)).1.Ok;rw[hB q hq];exact this.1
 ·show n.dl.take _++_=_;rw[h.tk,←kl];simp[cG]
 ·show(((cG (dV++dP)).length+(cG (bf Bs 4)).length:Nat):Int)=_;rw[kl (dV++dP),List.length_append]
 ·have:=hm.all q hq;rw[if_pos hq]at this⊢;show _=tb (bB (BK q)).1;rw[hB q hq,lh this.2]
theorem Mw{n:Nd}{dV dP:List Rec}{Bs:Nat→Bt}{sy:Int}(h:Fk n dV dP Bs):Fk {n with dl:=n.dl.take (cG (dV++dP)).length,sy:=sy,sk:=true} dV dP Bs:=by
 refine⟨h.tm, ?_, ?_,h.ct,h.lt⟩
 ·have:=Fp n.dl;rw[h.rd]at this;exact this
 ·show(n.dl.take _).take _=_;rw[List.take_take,Nat.min_self];exact h.tk
structure Fq(l:Lt):Prop where
 ok:PT l
 f0:0≤l.fr
 f5:l.fr<5
structure NI(i:Nat)(n:Nd):Prop where
 i:n.i=i
 tu:n.tu<4
 wt:∀l∈n.wt,nC l
 ln:n.dl.length≤100000
 up:n.up=true→Up n
 dw:n.up=false→Dw n
structure rj(k m:Nat)(s s':Ws):Prop where
 fl:∃L,s'.fl=s.fl++L∧L.length≤k∧∀l∈L,Fq l
 sv:∃L,s'.sv=s.sv++L∧L.length≤m
 td:s'.td=s.td
 pn:s'.pn=s.pn
 pe:s'.pe=s.pe
 cs:s'.cs=s.cs
theorem rj.refl(s:Ws):rj 0 0 s s:=⟨⟨[],(List.append_nil _).symm,Nat.le_refl _,fun _ h=>by cases h⟩,⟨[],(List.append_nil _).symm,Nat.le_refl _⟩,rfl,rfl,rfl,rfl⟩
theorem rj.mono{k m k' m':Nat}{s s':Ws}(h:rj k m s s')(hk:k≤k')(hm:m≤m'):rj k' m' s s':=by
 obtain⟨L,e1,e2,e3⟩:=h.fl;obtain⟨M,e4,e5⟩:=h.sv;exact⟨⟨L,e1,by omega,e3⟩,⟨M,e4,by omega⟩,h.td,h.pn,h.pe,h.cs⟩
theorem rj.trans{k m k' m':Nat}{s s' s'':Ws}(h:rj k m s s')(g:rj k' m' s' s''):rj (k+k') (m+m') s s'':=by
 obtain⟨L,e1,e2,e3⟩:=h.fl;obtain⟨M,e4,e5⟩:=h.sv;obtain⟨L',f1,f2,f3⟩:=g.fl;obtain⟨M',f4,f5⟩:=g.sv;refine⟨⟨L++L',by rw[f1,e1,List.append_assoc],by rw[List.length_append];omega,fun l hl=>(List.mem_append.1 hl).elim (e3 l) (f3 l)⟩,⟨M++M',by rw[f4,e4,List.append_assoc],by rw[List.length_append];omega⟩,g.td.trans h.td,g.pn.trans h.pn,g.pe.trans h.pe,g.cs.trans h.cs⟩
theorem nD{s:Ws}{l:Lt}(h:Fq l):rj 1 0 s (g_ s l):=⟨⟨[l],rfl,Nat.le_refl _,fun x hx=>by rw[List.mem_singleton.1 hx];exact h⟩,⟨[],(List.append_nil _).symm,Nat.le_refl _⟩,rfl,rfl,rfl,rfl⟩
theorem BL{s:Ws}{n:Nd}{q:Nat}{e:Ev}{an:An}{nu:Int}:rj 0 1 s (qj s n q e an nu):=⟨⟨[],(List.append_nil _).symm,Nat.le_refl _,fun _ h=>by cases h⟩,⟨_,rfl,Nat.le_refl _⟩,rfl,rfl,rfl,rfl⟩
theorem Fs(nu:Int)(an:An)(pn pe:Int):Fq (mZ nu an pn pe):=⟨⟨.inl rfl⟩,Int.le_refl 0,(by decide:(0:Int)<5)⟩
theorem KD{B:Bt}(ok:B.Ok):(0≤B.f∧B.f<5)∧(0≤B.t∧B.t<5)∧0≤B.e∧B.e≤1048576:=by
 have hs:=ok.cM;unfold Bt.cC bz at hs;omega
section
variable{i q:Nat}{B:Bt}
theorem Dk(hi:i<5)(hq:q<4)(ok:B.Ok):Fq (BM i B q):=⟨⟨.inr (.inr (.inr ⟨⟨hq,.inr (.inr (.inl rfl)),qk,Nat.zero_le _⟩,(KD ok).1⟩))⟩,Int.natCast_nonneg _,Int.ofNat_lt.2 hi⟩
theorem PU{fr:Int}(hf:0≤fr∧fr<5)(hq:q<4)(pn pe:Int):Fq (ql fr q pn pe):=⟨⟨.inr (.inr (.inr ⟨⟨hq,.inr (.inr (.inr (.inr rfl))),qk,Nat.zero_le _⟩,hf⟩))⟩,Int.le_refl 0,(by decide:(0:Int)<5)⟩
theorem UE{nd:Int}(hf:0≤nd∧nd<5)(hq:q<4){nu:Int}{op:Ev}(ho:∀x∈aX op,(Lit.int .i64 x).wf=true):Fq (uh nd q nu op):=⟨⟨.inr (.inr (.inr ⟨⟨hq,.inl rfl,ho,Nat.zero_le _⟩,hf⟩))⟩,Int.le_refl 0,(by decide:(0:Int)<5)⟩
theorem UF(hi:i<5)(hq:q<4)(ok:B.Ok){hv:Int}{es:List Ev}(he:es.length≤2000){la:Bool}:Fq (KE i B q hv es la):=⟨⟨.inr (.inr (.inr ⟨⟨hq,.inr (.inr (.inr (.inl rfl))),qk,he⟩,(KD ok).2.1⟩))⟩,Int.natCast_nonneg _,Int.ofNat_lt.2 hi⟩
theorem KF(hi:i<5)(hq:q<4)(ok:B.Ok):Fq (Ft i B q):=⟨⟨.inr (.inr (.inr ⟨⟨hq,.inr (.inl rfl),qk,Nat.zero_le _⟩,(KD ok).2.1⟩))⟩,Int.natCast_nonneg _,Int.ofNat_lt.2 hi⟩
theorem UG(hi:i<5)(hq:q<4):Fq (PV i q):=⟨⟨.inr (.inr (.inl ⟨rfl,hq⟩))⟩,Int.natCast_nonneg _,Int.ofNat_lt.2 hi⟩
theorem PW(hi:i<5)(hq:q<4)(ok:B.Ok):Fq (I5 i B q):=by
 have:=(KD ok).2.2;exact⟨⟨.inr (.inl ⟨rfl,hq,by show-1000000000≤B.e;omega,by show B.e≤1000000000;omega⟩)⟩,Int.natCast_nonneg _,Int.ofNat_lt.2 hi⟩
end
theorem sF{n:Nd}{s:Ws}{l:Lt}{an:An}:rj 1 1 s (jE n s l an):=(BL.trans (nD (Fs _ _ _ _))).mono (by omega) (by omega)
theorem PX{B:Bt}{hv:Int}:(partOf B hv).1.length≤2000:=by
 unfold partOf;split
 ·exact Nat.zero_le _
 ·simp only[List.length_take];omega
theorem Fu{n:Nd}{s:Ws}{q:Nat}{hv:Int}(hi:n.i<5)(hq:q<4)(ok:(n.mo q).Ok):rj 1 0 s (uj n s q hv):=by
 unfold uj;split
 ·exact nD (UF hi hq ok PX)
 ·exact(rj.refl s).mono (by omega) (by omega)
theorem Xk{n n':Nd}{a:Af}{rs:List Rec}(h:pS n a rs=some n'):n'.af=some a∧n'.dl.length≤100000∧n'.tu=n.tu∧n'.wt=n.wt:=by
 unfold pS at h;split at h
 ·rename_i hl;cases h;exact⟨rfl,by show(n.dl++cG rs).length≤100000;rw[List.length_append];exact hl,rfl,rfl⟩
 ·cases h
theorem P0{n:Nd}{s:Ws}{l:Lt}(h:Up n)(ha:n.af=none)(hi:n.i<5)(hl:n.dl.length≤100000)(hw:nC l):(cH n s l).1.dl.length≤100000∧(((cH n s l).1.af=none∧rj 1 1 s (cH n s l).2)∨((cH n s l).1.af.isSome∧(cH n s l).2=s)):=by
 have hq:=hw.q;have ok:=h.mo l.q hq;have r0:rj 1 1 s s:=(rj.refl s).mono (by omega) (by omega);have same:n.dl.length≤100000∧((n.af=none∧rj 1 1 s s)∨(n.af.isSome∧s=s)):=⟨hl,.inl ⟨ha,r0⟩⟩;have wr:∀{m:Nd} {a:Af} {rs:List Rec},m.dl.length≤100000→m.af=none→((pS m a rs).getD m).dl.length≤100000∧((((pS m a rs).getD m).af=none∧rj 1 1 s s)∨(((pS m a rs).getD m).af.isSome∧s=s)):=fun {m a rs} hm hma=>by
  cases EZ:pS m a rs with
  |none=>exact⟨hm,.inl ⟨hma,r0⟩⟩
  |some x=>
   obtain⟨k1,k2,_,_⟩:=Xk EZ;exact⟨k2,.inr ⟨by show x.af.isSome;rw[k1];rfl,rfl⟩⟩
 unfold cH;split
 ·unfold jy;split
  ·exact⟨hl,.inl ⟨ha,(nD (Fs _ _ _ _)).mono (by omega) (by omega)⟩⟩
  ·split
   ·exact⟨hl,.inl ⟨ha,sF⟩⟩
   ·split
    ·rename_i n' hn;obtain⟨k1,k2,_,_⟩:=Xk hn;exact⟨k2,.inr ⟨by rw[k1];rfl,rfl⟩⟩
    ·exact⟨hl,.inl ⟨ha,sF⟩⟩
 ·split
  ·unfold jz;split
   ·exact same
   ·split
    ·exact⟨hl,.inl ⟨ha,(nD (Dk hi hq ok)).mono (by omega) (by omega)⟩⟩
    ·exact wr hl ha
  ·split
   ·unfold ie;split
    ·exact same
    ·split
     ·exact same
     ·split
      ·refine⟨hl,.inl ⟨ha, ?_⟩⟩;refine(Fu (n:={n with mo:=aC n.mo l.q (bh (n.mo l.q) l.pl).1}) hi hq ?_).mono (by omega) (by omega);show(aC n.mo l.q (bh (n.mo l.q) l.pl).1 l.q).Ok;rw[aJ];exact nz (er:=(bh (n.mo l.q) l.pl).2) rfl
      ·exact wr hl ha
   ·split
    ·unfold takeN;split
     ·exact same
     ·split
      ·exact same
      ·exact wr hl ha
    ·have e:(eN n l).dl=n.dl∧(eN n l).af=n.af:=by
      unfold eN;split<;>exact⟨rfl,rfl⟩
     unfold jA;split
     ·exact wr (by rw[e.1];exact hl) (e.2.trans ha)
     ·exact⟨by rw[e.1];exact hl,.inl ⟨e.2.trans ha,r0⟩⟩
theorem P4{mo:Nat→Bt}{q:Nat}{B:Bt}(h:∀p,p<4→(mo p).Ok)(ok:B.Ok):∀p,p<4→(aC mo q B p).Ok:=fun p hp=>by
 by_cases e:p=q
 ·rw[e,aJ];exact ok
 ·rw[bV e];exact h p hp
theorem Mx{n:Nd}{s:Ws}{a:Af}(h:Up n)(ha:n.af=some a)(hi:n.i<5):rj 1 1 s (eY {n with sy:=n.dl.length,af:=none} s a).2:=by
 have hu:=h.sync (s:=s) ha;obtain⟨dV,dP,Bs,e1,e2,e3,e4,e5⟩:=h.ex;rcases e5 with e5|⟨a',q,D,h1,p⟩
 ·rw[ha]at e5;cases e5.1
 rw[ha]at h1;cases h1;have hq:=p.q4;cases a with
 |serve l an=>exact sF
 |begin l B=>
  obtain⟨rfl,_,rfl⟩:=p.af;exact(nD (Dk hi hq (hu.mo l.q hq))).mono (by omega) (by omega)
 |shut l B=>
  obtain⟨rfl,_,rfl⟩:=p.af;exact(Fu (n:={n with sy:=n.dl.length,af:=none,mo:=aC n.mo l.q D}) hi hq (hu.mo l.q hq)).mono (by omega) (by omega)
 |take l B=>
  obtain⟨rfl,_,rfl⟩:=p.af;have hm:=hu.mo l.q hq;show rj 1 1 s (if D.r=1 then _ else _);split
  ·exact BL.mono (by omega) (by omega)
  ·exact(nD (Dk hi hq hm)).mono (by omega) (by omega)
 |ky p' B=>exact(rj.refl s).mono (by omega) (by omega)
theorem Yd{n:Nd}{q:Nat}(h:Up n)(hi:n.i<5)(hq:q<4):(gm n q).length≤2∧∀l∈gm n q,Fq l:=by
 have ok:=h.mo q hq;unfold gm;split
 ·exact⟨by simp,fun l hl=>by rw[List.mem_singleton.1 hl];exact KF hi hq ok⟩
 ·split
  ·refine⟨by simp,fun l hl=> ?_⟩;rcases List.mem_cons.1 hl with rfl|hl
   ·exact KF hi hq ok
   ·rw[List.mem_singleton.1 hl];exact UG hi hq
  ·split
   ·exact⟨by simp,fun l hl=>by rw[List.mem_singleton.1 hl];exact PW hi hq ok⟩
   ·exact⟨by simp,fun l hl=>by cases hl⟩
theorem yJ:∀(k:Nat) {n:Nd} {s:Ws},Up n→n.i<5→n.tu<4→rj 2 0 s (fR k n s).2∧(fR k n s).1.wt=n.wt∧(fR k n s).1.af=n.af∧(fR k n s).1.dl=n.dl∧(fR k n s).1.tu<4
 |0,n,s,_,_,ht=>⟨(rj.refl s).mono (by omega) (by omega),rfl,rfl,rfl,ht⟩
 |k+1,n,s,h,hi,ht=>by
  unfold fR;split
  ·exact yJ k (n:={n with tu:=(n.tu+1) % 4}) (h.congr rfl rfl rfl rfl) hi (Nat.mod_lt _ (by decide))
  ·obtain⟨h1,h2⟩:=Yd h hi ht;exact⟨⟨⟨_,rfl,h1,h2⟩,⟨[],(List.append_nil _).symm,Nat.le_refl _⟩,rfl,rfl,rfl,rfl⟩,rfl,rfl,rfl,Nat.mod_lt _ (by decide)⟩
def cN(n:Nd):Nat:=n.wt.length+(if n.af.isSome then 1 else 0)
theorem Fv:∀(k:Nat) {n:Nd} {s:Ws},Up n→n.af=none→n.i<5→n.tu<4→n.dl.length≤100000→(∀l∈n.wt,nC l)→(∃a b,rj a b s (eW k n s).2∧a+cN (eW k n s).1≤n.wt.length+2∧b≤n.wt.length)∧(eW k n s).1.tu<4∧(eW k n s).1.dl.length≤100000∧∀l∈(eW k n s).1.wt,nC l
 |0,n,s,h,ha,hi,ht,hl,hw=>by
  obtain⟨h1,h2,h3,h4,h5⟩:=yJ 4 (s:=s) h hi ht;refine⟨⟨2,0,h1, ?_,Nat.zero_le _⟩,h5,by rw[show(eW 0 n s).1.dl=n.dl from h4];exact hl,by rw[show(eW 0 n s).1.wt=n.wt from h2];exact hw⟩;show 2+cN (fR 4 n s).1≤_;unfold cN;rw[h2,h3,ha];simp;omega
 |k+1,n,s,h,ha,hi,ht,hl,hw=>by
  unfold eW;split
  ·rename_i nt;obtain⟨h1,h2,h3,h4,h5⟩:=yJ 4 (s:=s) h hi ht;refine⟨⟨2,0,h1, ?_,Nat.zero_le _⟩,h5,by rw[h4];exact hl,by rw[h2];exact hw⟩;unfold cN;rw[h2,h3,ha];simp;omega
  ·rename_i l ls nt;have Dm:nC l:=hw l (by rw[nt];exact List.mem_cons_self);have hu:Up {n with wt:=ls}:=h.congr rfl rfl rfl rfl;have hd:=KB (n:={n with wt:=ls}) (s:=s) (l:=l) hu ha Dm;have hs:=P0 (n:={n with wt:=ls}) (s:=s) (l:=l) hu ha hi hl Dm;have hk:=(sE {n with wt:=ls} s l).1;have hws:∀x∈ls,nC x:=fun x hx=>hw x (by rw[nt];exact List.mem_cons_of_mem _ hx);have hlen:n.wt.length=ls.length+1:=by rw[nt];rfl
   have KG:(cH {n with wt:=ls} s l).1.wt=ls:=hk.2;split
   ·rename_i I6;rcases hs.2 with⟨e,_⟩|⟨_,e⟩
    ·rw[e]at I6;cases I6
    ·refine⟨⟨0,0, ?_, ?_,Nat.zero_le _⟩,by rw[hk.1];exact ht,hs.1,by rw[KG];exact hws⟩
     ·rw[e];exact rj.refl s
     ·unfold cN;rw[KG,if_pos I6];omega
   ·rename_i I6;rcases hs.2 with⟨e,g⟩|⟨e,_⟩
    ·obtain⟨⟨a,b,g1,g2,g3⟩,g4,g5,g6⟩:=Fv k (s:=(cH {n with wt:=ls} s l).2) hd.1 e (by rw[hd.2.2.1];exact hi) (by rw[hk.1];exact ht) hs.1 (by rw[KG];exact hws);rw[KG]at g2 g3;exact⟨⟨1+a,1+b,g.trans g1,by omega,by omega⟩,g4,g5,g6⟩
    ·exact absurd e I6
def qm(ns:Nat→Nd):Nat:=cN (ns 0)+cN (ns 1)+cN (ns 2)+cN (ns 3)+cN (ns 4)
theorem Dq(ns:Nat→Nd)(n':Nd){i:Nat}(hi:i<5):qm (aC ns i n')+cN (ns i)=qm ns+cN n':=by
 unfold qm aC;obtain rfl|rfl|rfl|rfl|rfl:i=0∨i=1∨i=2∨i=3∨i=4:=by omega
 all_goals simp
 all_goals omega
theorem P5{ns:Nat→Nd}{i:Nat}(hi:i<5):cN (ns i)≤qm ns:=by
 unfold qm;obtain rfl|rfl|rfl|rfl|rfl:i=0∨i=1∨i=2∨i=3∨i=4:=by omega
 all_goals omega
structure Inv(k:Nat)(p:(Nat→Nd)×Ws):Prop where
 n:∀i,i<5→NI i (p.1 i)
 fl:∀l∈p.2.fl,Fq l
 dir:dQ p.2.pn p.2.pe
 t:p.2.fl.length+qm p.1≤2*k
 sv:p.2.sv.length≤300000*k
 td:p.2.td.length≤300000*k
 c0:0≤p.2.cs
 c1:p.2.cs≤k
theorem Inv.gd{k:Nat}{p:(Nat→Nd)×Ws}(h:Inv k p)(hk:k≤100000):GdT p:=by
 have ht:=h.t;have hs:=h.sv;have hd:=h.td;have hc:=h.c1;have st:∀i,i<5→(p.1 i).up=false→∃dV dP Bs,Fk (p.1 i) dV dP Bs:=fun i hi hu=>(h.n i hi).dw hu;refine⟨⟨fun i hi=>(h.n i hi).tu,fun i hi=>(h.n i hi).wt,fun l hl=>(h.fl l hl).ok,h.dir,fun i hi hu _=> ?_,by omega,by omega,by omega,fun i hi=> ?_,h.c0,by omega⟩,fun i hi hu=> ?_⟩
 ·obtain⟨dV,dP,Bs,hp⟩:=st i hi hu;exact⟨Bs,_,_,dP,_,hp.st (h.n i hi).ln⟩
 ·have:=P5 (ns:=p.1) hi;unfold cN at this;omega
 ·obtain⟨dV,dP,Bs,hp⟩:=st i hi hu;exact⟨Bs,_,_,hp.tp (h.n i hi).ln⟩
section
variable{k:Nat}{ns:Nat→Nd}{s:Ws}
theorem Dt{P:Nat→Nd→Prop}(h:∀i,i<5→P i (ns i)){i:Nat}{n':Nd}(hn:P i n'):∀j,j<5→P j (aC ns i n' j):=fun j hj=>by
 by_cases e:j=i
 ·subst e;rw[aJ];exact hn
 ·rw[bV e];exact h j hj
theorem Inv.piece(h:Inv k (ns,s)){i:Nat}(hi:i<5){n':Nd}{s':Ws}{a b:Nat}(hn:NI i n')(hs:rj a b s s')(ha:a+cN n'≤cN (ns i)+2)(hb:b≤300000):Inv (k+1) (aC ns i n',s'):=by
 obtain⟨L,e1,e2,e3⟩:=hs.fl;obtain⟨M,e4,e5⟩:=hs.sv;have ht:=h.t;have hv:=h.sv;have hd:=h.td;have hc:=h.c1;have hu:=Dq ns n' hi;simp only at ht hv hd hc;refine⟨Dt h.n hn,fun l hl=> ?_, ?_, ?_, ?_, ?_, ?_, ?_⟩
 ·rw[e1]at hl;exact(List.mem_append.1 hl).elim (h.fl l) (e3 l)
 ·show dQ s'.pn s'.pe;rw[hs.pn,hs.pe];exact h.dir
 ·show s'.fl.length+qm (aC ns i n')≤_;rw[e1,List.length_append];omega
 ·show s'.sv.length≤_;rw[e4,List.length_append];omega
 ·show s'.td.length≤_;rw[hs.td];omega
 ·show 0≤s'.cs;rw[hs.cs];exact h.c0
 ·show s'.cs≤_;rw[hs.cs];omega
theorem Inv.next(h:Inv k (ns,s)):Inv (k+1) (ns,s):=by
 have ht:=h.t;have hv:=h.sv;have hd:=h.td;have hc:=h.c1;exact⟨h.n,h.fl,h.dir,by omega,by omega,by omega,h.c0,by omega⟩
theorem UH{i:Nat}{n:Nd}(h:NI i n)(hi:i<5):NI i (mm n s).1∧∃a b,rj a b s (mm n s).2∧a+cN (mm n s).1≤cN n+2∧b≤n.wt.length+1:=by
 have AZ:n.i<5:=by rw[h.i];exact hi
 by_cases hu:n.up=false
 ·rw[vY hu];exact⟨h,0,0,rj.refl s,(by show 0+cN n≤cN n+2;omega),Nat.zero_le _⟩
 ·have hu:n.up=true:=by
   cases hx:n.up with
   |true=>rfl
   |false=>exact absurd hx hu
  have up:=h.up hu;cases ha:n.af with
  |some a=>
   rw[vZ hu ha];have h1:=up.sync (s:=s) ha;have h2:=Mx (s:=s) up ha AZ;have h3:∀a,(eY {n with sy:=n.dl.length,af:=none} s a).1.i=n.i∧(eY {n with sy:=n.dl.length,af:=none} s a).1.tu=n.tu∧(eY {n with sy:=n.dl.length,af:=none} s a).1.wt=n.wt∧(eY {n with sy:=n.dl.length,af:=none} s a).1.dl=n.dl∧(eY {n with sy:=n.dl.length,af:=none} s a).1.up=n.up∧(eY {n with sy:=n.dl.length,af:=none} s a).1.af=none:=fun a=>by
    cases a<;>exact⟨rfl,rfl,rfl,rfl,rfl,rfl⟩
   obtain⟨e1,e2,e3,e4,e5,e6⟩:=h3 a;refine⟨⟨e1.trans h.i,by rw[e2];exact h.tu,by rw[e3];exact h.wt,by rw[e4];exact h.ln,fun _=>h1,fun g=> ?_⟩,1,1,h2, ?_,by omega⟩
   ·rw[e5,hu]at g;cases g
   ·unfold cN;rw[e3,e6,ha];simp;omega
  |none=>
   rw[v_ hu ha];obtain⟨⟨a,b,g1,g2,g3⟩,g4,g5,g6⟩:=Fv n.wt.length (s:=s) up ha AZ h.tu h.ln h.wt;obtain⟨w1,w2,w3,_,_⟩:=KC n.wt.length (s:=s) up ha h.wt;refine⟨⟨w3.trans h.i,g4,g6,g5,fun _=>w1,fun g=> ?_⟩,a,b,g1, ?_,by omega⟩
   ·rw[w2,hu]at g;cases g
   ·unfold cN;unfold cN at g2;rw[ha];simp;omega
theorem P6{i:Nat}{n:Nd}(h:NI i n){kp:Int}(hk:0≤kp):NI i (sG n kp)∧cN (sG n kp)≤cN n:=by
 unfold sG;split
 ·rename_i hu;refine⟨⟨h.i,(show(0:Nat)<4 by decide),(fun l hl=>by cases hl), ?_,(fun g=>by cases g),fun _=>(h.up hu).aaG hk⟩,Nat.zero_le _⟩;show(n.dl.take _).length≤_;have:=h.ln;rw[List.length_take];omega
 ·exact⟨h,Nat.le_refl _⟩
theorem P7{i:Nat}{n:Nd}(h:NI i n):NI i (jB n s).1∧rj 0 200000 s (jB n s).2∧cN (jB n s).1≤cN n:=by
 by_cases kN:n.up=true∨n.sk=true
 ·have e:jB n s=(n,s):=if_pos kN;rw[e];exact⟨h,(rj.refl s).mono (by omega) (by omega),Nat.le_refl _⟩
 ·have hu:n.up=false:=by
   cases hx:n.up with
   |true=>exact absurd (.inl hx) kN
   |false=>rfl
  have hk:n.sk=false:=by
   cases hx:n.sk with
   |true=>exact absurd (.inr hx) kN
   |false=>rfl
  obtain⟨dV,dP,Bs,hp⟩:=h.dw hu;obtain⟨BK,hB,e⟩:=PQ (s:=s) hp h.ln hu hk;rw[e];have gZ:=hp.st h.ln;unfold qi;split
  ·rename_i hc;refine⟨⟨h.i,(show(0:Nat)<4 by decide),(fun l hl=>by cases hl), ?_,(fun _=>I4 hp hB hc.1),(fun g=>by cases g)⟩,⟨⟨[],(List.append_nil _).symm,Nat.le_refl _,(fun _ h=>by cases h)⟩,⟨_,List.append_assoc .., ?_⟩,rfl,rfl,rfl,rfl⟩,Nat.zero_le _⟩
   ·show(n.dl.take _++cG _).length≤_;rw[List.length_append,List.length_take];have:=hc.2;omega
   ·rw[List.length_append,List.length_map];have h1:=we (i:=n.i) (Bs:=BK) (ps:=dP);have h2:=mn BK 4;have h3:=gZ.pl;omega
  ·refine⟨⟨h.i,h.tu,h.wt, ?_,fun g=> ?_,fun _=>⟨dV,dP,Bs,Mw hp⟩⟩,(rj.refl s).mono (by omega) (by omega),Nat.le_refl _⟩
   ·show(n.dl.take _).length≤_;have:=h.ln;rw[List.length_take];omega
   ·have:n.up=true:=g;rw[hu]at this;cases this
theorem My{n:Nd}{q:Nat}(h:Up n)(hq:q<4)(ha:n.af=none)(hm:(gP (n.mo q) 1).2=0):Up {n with dl:=n.dl++cG [bI q],sy:=((n.dl.length+(cG [bI q]).length:Nat):Int),mo:=aC n.mo q ⟨1,1,0,0,0,[]⟩}:=by
 obtain⟨dV,dP,Bs,e1,e2,e3,e4,e5⟩:=h.ex;have e0:dP=[]:=by
  rcases e5 with e5|⟨a,q',D,h1,_⟩
  ·exact e5.2
  ·rw[ha]at h1;cases h1
 subst e0;have ok:=h.mo q hq;have h0:(n.mo q).r=0∧(n.mo q).e<1:=by
  unfold gP at hm;rw[if_neg (fun g=>g ok),if_neg (fun g=>g (by decide))]at hm;split at hm
  ·cases hm
  ·rename_i g;split at hm
   ·cases hm
   ·exact⟨Decidable.not_not.1 g,by omega⟩
 have okD:(⟨1,1,0,0,0,[]⟩:Bt).Ok:=⟨.inr (.inl ⟨rfl,by decide,by decide,rfl,rfl,rfl⟩),by decide,St.zero,[],.nil⟩;have hf:=yK hq;have hap:dX (Bs q) (bI q)=(⟨1,1,0,0,0,[]⟩,0):=by
  rw[e4 q hq,lh (by omega)];refine fw ok hf ?_ okD;unfold cX;rw[if_pos rfl,if_pos ⟨rfl,h0⟩]
 have yL:=e3.snoc ⟨hf,fun _=>rfl⟩ hq rfl hap;refine⟨P4 h.mo okD,dV++[bI q],[],_, ?_, ?_,yL,fun p hp=> ?_,.inl ⟨ha,rfl⟩⟩
 ·show n.dl++cG [bI q]=_;rw[e1,kl];simp[cG]
 ·show((n.dl.length+(cG [bI q]).length:Nat):Int)=_;rw[e1,kl,List.length_append,List.length_append];simp[cG]
 ·show _=tb (aC n.mo q _ p);by_cases e:p=q
  ·rw[e,aJ,aJ];rfl
  ·rw[bV e,bV e];exact e4 p hp
theorem KH{pn pe:tK}{q:Nat}{x y:Int}(h:dQ pn pe)(hp:Fx x y):dQ (gq pn q x) (gq pe q y):=fun p hp'=>by
 unfold gq;by_cases e:p=q
 ·rw[if_pos e,if_pos e];exact hp
 ·rw[if_neg e,if_neg e];exact h p hp'
theorem I7{B B':Bt}{v:Ev}{an:An}(h:cQ B v B' an true 0):∃s bw s',v.Ok∧¬v.k=4∧bp B.es s bw∧Step s v s' an true∧B.es.length<1999:=by
 generalize hc:true=c at h;cases h with
 |done h1 h2 h3 h4 s bw h5 s' _ h6 h7=>exact⟨s,bw,s',h2,h3,h5,h6,h7⟩
 |_=>cases hc
theorem go_up{n:Nd}{q:Nat}{tg:Int}(h:Up n)(hq:q<4)(hg:(dR (n.mo q) tg).2=0):Up {n with mo:=aC n.mo q (dR (n.mo q) tg).1}:=by
 have ok:=h.mo q hq;have hB:(dR (n.mo q) tg).1.Ok:=KI (er:=(dR (n.mo q) tg).2) rfl;have hs:=ok.cM;unfold Bt.cC bz at hs;have hr:(n.mo q).r=1∧(dR (n.mo q) tg).1=⟨2,(n.mo q).e,(n.mo q).f,tg,(n.mo q).o,(n.mo q).es⟩:=by
  unfold dR at hg⊢;rw[if_neg (fun g=>g ok)]at hg⊢;split at hg
  ·cases hg
  ·rename_i g1;rw[if_neg g1];split at hg
   ·cases hg
   ·rename_i g2;rw[if_neg g2];split at hg
    ·cases hg
    ·rename_i g3;rw[if_neg g3];split at hg
     ·cases hg
     ·rename_i g4;rw[if_neg g4];exact⟨Decidable.not_not.1 g3,rfl⟩
 obtain⟨uk,hr2⟩:=hr;have hm:n.mo q=⟨1,(n.mo q).e,0,0,0,(n.mo q).es⟩:=by
  have h1:(n.mo q).f=0∧(n.mo q).t=0∧(n.mo q).o=0:=by omega
  calc n.mo q=⟨(n.mo q).r,(n.mo q).e,(n.mo q).f,(n.mo q).t,(n.mo q).o,(n.mo q).es⟩:=rfl
   _=_:=by rw[uk,h1.1,h1.2.1,h1.2.2]
 have ht:tb (dR (n.mo q) tg).1=tb (n.mo q):=by
  rw[lh (show ¬(n.mo q).r=2 by omega),hr2,Ff rfl];exact hm.symm
 obtain⟨dV,dP,Bs,e1,e2,e3,e4,e5⟩:=h.ex;refine⟨P4 h.mo hB,dV,dP,Bs,e1,e2,e3,fun p hp=> ?_, ?_⟩
 ·show _=tb (aC n.mo q _ p);by_cases e:p=q
  ·rw[e,aJ,ht];exact e4 q hq
  ·rw[bV e];exact e4 p hp
 ·rcases e5 with e5|⟨a,q',D,h1,p⟩
  ·exact .inl e5
  ·refine .inr ⟨a,q',D,h1,p.q4,p.ok, ?_,p.lt, ?_⟩
   ·show kv (tb (aC n.mo q _ q')) dP D;by_cases e:q'=q
    ·subst e;rw[aJ,ht];exact p.run
    ·rw[bV e];exact p.run
   ·show AfP (aC n.mo q _) q' D a;by_cases e:q'=q
    ·subst e;have hx:∀{x y:Prop},x∧¬(n.mo q').r=1∧y→False:=fun h=>h.2.1 uk;have pa:=p.af;cases a with
     |serve l an=>
      obtain⟨i1,i2,i3,i4⟩:=pa;refine⟨i1, ?_, ?_, ?_⟩
      ·rw[aJ,hr2];exact .inr rfl
      ·rw[aJ];obtain⟨s0,bw,s1,g2,g3,g5,g6,g7⟩:=I7 i3
       ·have e2:(dR (n.mo q') tg).1.es=(n.mo q').es:=by rw[hr2]
        exact .done hB g2 g3 (by rw[hr2];exact .inr rfl) s0 bw (by rw[e2];exact g5) s1 _ g6 (by rw[e2];exact g7)
      ·rw[aJ,i4,lh (show ¬((n.mo q').more [l.op]).r=2 by show ¬(n.mo q').r=2;omega),hr2,Ff (show((⟨2,(n.mo q').e,(n.mo q').f,tg,(n.mo q').o,(n.mo q').es⟩:Bt).more [l.op]).r=2 from rfl)];have h1:(n.mo q').f=0∧(n.mo q').t=0∧(n.mo q').o=0:=by omega
       unfold Bt.more;simp only[uk,h1.1,h1.2.1,h1.2.2]
     |begin l B=>exact(hx pa).elim
     |shut l B=>exact(hx pa).elim
     |take l B=>exact(hx pa).elim
     |ky p' B=>exact(hx pa).elim
    ·have e6:aC n.mo q (dR (n.mo q) tg).1 q'=n.mo q':=bV e;have pa:=p.af;cases a with
     |serve l an=>obtain⟨i1,i2,i3,i4⟩:=pa;exact⟨i1,by rw[e6];exact i2,by rw[e6];exact i3,by rw[e6];exact i4⟩
     |begin l B=>exact⟨pa.1,by rw[e6];exact pa.2.1,pa.2.2⟩
     |shut l B=>exact⟨pa.1,by rw[e6];exact pa.2.1,pa.2.2⟩
     |take l B=>exact⟨pa.1,by rw[e6];exact pa.2.1,pa.2.2⟩
     |ky p' B=>exact⟨pa.1,by rw[e6];exact pa.2.1,pa.2.2⟩
theorem P8{l:Lt}(hq2:l.q=l.q→l.q<4)(h:dQ s.pn s.pe):dQ (qo s l).pn (qo s l).pe:=by
 unfold qo;split
 ·rename_i hc;obtain⟨_,h1,h2⟩:=hc;refine KH h ?_;unfold yM at h2;split at h2
  ·cases h2
  ·rename_i g1;split at h2
   ·cases h2
   ·split at h2
    ·cases h2
    ·split at h2
     ·cases h2
     ·rename_i g4;by_cases hq:l.q<4
      ·have:=h l.q hq;unfold Fx at this⊢;omega
      ·exact absurd (hq2 rfl) hq
 ·exact h
structure Cm(p p':(Nat→Nd)×Ws)(m:Nat):Prop where
 n:∀i,i<5→NI i (p'.1 i)
 fl:∀l∈p'.2.fl,Fq l
 dir:dQ p'.2.pn p'.2.pe
 t:p'.2.fl.length+qm p'.1≤p.2.fl.length+qm p.1+m
 sv:p'.2.sv=p.2.sv
 td:p'.2.td.length≤p.2.td.length+m
 cs:p'.2.cs=p.2.cs
theorem KJ{p p':(Nat→Nd)×Ws}{m:Nat}(h:Cm p p' m){l:Lt}(hl:Fq l):Cm p (fT p'.1 p'.2 l) (m+1):=by
 have ht:=h.t;have hd:=h.td;have tell:∀{s:Ws},(∀l∈s.fl,Fq l)→dQ s.pn s.pe→s.fl=p'.2.fl→s.sv=p'.2.sv→s.td=p'.2.td→s.cs=p'.2.cs→l.q<4→Cm p (p'.1,um s l) (m+1):=fun {s} h1 h2 h3 h4 h5 h6 hq=>by
  refine⟨h.n,fun x hx=> ?_,h2, ?_,h4.trans h.sv, ?_,h6.trans h.cs⟩
  ·rcases List.mem_append.1 hx with hx|hx
   ·exact h1 x hx
   ·rw[List.mem_singleton.1 hx];exact PU ⟨hl.f0,hl.f5⟩ hq _ _
  ·show(s.fl++[_]).length+_≤_;rw[List.length_append,h3];simp only[List.length_singleton];omega
  ·show s.td.length≤_;rw[h5];omega
 unfold fT;split
 ·refine⟨h.n,h.fl,h.dir,by show p'.2.fl.length+qm p'.1≤p.2.fl.length+qm p.1+(m+1);omega,h.sv, ?_,h.cs⟩;show(p'.2.td++[_]).length≤_;rw[List.length_append];simp only[List.length_singleton];omega
 ·rename_i k1;split
  ·rename_i k5;have hf:=xk p'.2 l;have hq:l.q<4:=by
    rcases hl.ok.kd with g|g|g|g
    ·exact absurd g k1
    ·exact g.2.1
    ·exact g.2
    ·exact g.1.q
   exact tell (by rw[hf.1];exact h.fl) (P8 (fun _=>hq) h.dir) hf.1 hf.2.2.1 hf.2.2.2 hf.2.1 hq
  ·rename_i k5;split
   ·have hq:l.q<4:=by
     rcases hl.ok.kd with g|g|g|g
     ·exact absurd g k1
     ·exact g.2.1
     ·exact g.2
     ·exact g.1.q
    exact tell h.fl h.dir rfl rfl rfl rfl hq
   ·rename_i k6;obtain⟨hw,hd0,hd5⟩:nC l∧0≤l.dst∧l.dst<5:=by
     rcases hl.ok.kd with g|g|g|g
     ·exact absurd g k1
     ·exact absurd g.1 k5
     ·exact absurd g.1 k6
     ·exact g
    have hi:l.dst.toNat<5:=by omega
    have hn:=h.n _ hi;have hu:=Dq p'.1 (if(p'.1 l.dst.toNat).up=true then {p'.1 l.dst.toNat with wt:=(p'.1 l.dst.toNat).wt++[l]}else p'.1 l.dst.toNat) hi;refine⟨Dt h.n ?_,h.fl,h.dir, ?_,h.sv,(by show p'.2.td.length≤p.2.td.length+(m+1);omega),h.cs⟩
    ·split
     ·rename_i hup;refine⟨hn.i,hn.tu,fun x hx=> ?_,hn.ln,fun _=>(hn.up hup).congr rfl rfl rfl rfl,fun g=> ?_⟩
      ·rcases List.mem_append.1 hx with hx|hx
       ·exact hn.wt x hx
       ·rw[List.mem_singleton.1 hx];exact hw
      ·have:(p'.1 l.dst.toNat).up=false:=g;rw[hup]at this;cases this
     ·exact hn
    ·show p'.2.fl.length+qm (aC _ _ _)≤_;have hc:cN (if(p'.1 l.dst.toNat).up=true then {p'.1 l.dst.toNat with wt:=(p'.1 l.dst.toNat).wt++[l]}else p'.1 l.dst.toNat)≤cN (p'.1 l.dst.toNat)+1:=by
      split
      ·unfold cN;simp only[List.length_append,List.length_singleton];omega
      ·omega
     omega
theorem Fy{p:(Nat→Nd)×Ws}:∀(L:List Lt) {p':(Nat→Nd)×Ws} {m:Nat},Cm p p' m→(∀l∈L,Fq l)→Cm p (L.foldl (fun p l=>fT p.1 p.2 l) p') (m+L.length)
 |[],p',m,h,_=>h
 |l::L,p',m,h,hL=>by
  rw[List.foldl_cons,List.length_cons,show m+(L.length+1)=(m+1)+L.length by omega];exact Fy L (KJ h (hL l List.mem_cons_self)) fun x hx=>hL x (List.mem_cons_of_mem _ hx)
theorem aaJ{a b c d e f:Int}(h:aQ a b c d e f=0):∀x∈aX ⟨a,b,c,d,e,f⟩,(Lit.int .i64 x).wf=true:=Xg (v:=⟨a,b,c,d,e,f⟩) h
end
theorem UI{k:Nat}{p:(Nat→Nd)×Ws}(h:Inv k p)(hk:k≤100000){f:tK}(ok:Xe f):Inv (k+1) (vW p f):=by
 obtain⟨ns,s⟩:=p;have hi:(f 1).toNat<5:=by have:=ok.n;omega
 have hq:(f 2).toNat<4:=by have:=ok.q;omega
 have ht:=h.t;have hv:=h.sv;have hd:=h.td;have hc:=h.c1;simp only at ht hv hd hc;have hN:∀i,i<5→NI i (ns i):=h.n;have h':Inv k (ns,s):=h;have base:Cm (ns,s) (ns,s) 0:=⟨h.n,h.fl,h.dir,Nat.le_refl _,rfl,Nat.le_refl _,rfl⟩;unfold vW X7;simp only;split
 ·
  have hn:=hN _ hi;unfold lK;split
  ·rename_i T_;obtain⟨⟨h1,h2⟩,h3,h4,h5,h6⟩:=T_;dsimp only;have hu:=Dq ns {ns (f 1).toNat with dl:=(ns (f 1).toNat).dl++cG [bI (f 2).toNat],sy:=(((ns (f 1).toNat).dl.length+(cG [bI (f 2).toNat]).length:Nat):Int),mo:=aC (ns (f 1).toNat).mo (f 2).toNat ⟨1,1,0,0,0,[]⟩} hi;have hcn:cN {ns (f 1).toNat with dl:=(ns (f 1).toNat).dl++cG [bI (f 2).toNat],sy:=(((ns (f 1).toNat).dl.length+(cG [bI (f 2).toNat]).length:Nat):Int),mo:=aC (ns (f 1).toNat).mo (f 2).toNat ⟨1,1,0,0,0,[]⟩}=cN (ns (f 1).toNat):=rfl;refine⟨Dt h.n ⟨hn.i,hn.tu,hn.wt, ?_,fun _=>My (hn.up h3) hq h4 h5,fun g=> ?_⟩,h.fl,KH h.dir ?_, ?_, ?_, ?_,h.c0, ?_⟩
   ·show((ns (f 1).toNat).dl++cG [bI (f 2).toNat]).length≤100000;rw[List.length_append];exact h6
   ·have:(ns (f 1).toNat).up=false:=g;rw[h3]at this;cases this
   ·rw[hn.i];exact .inr ⟨by omega,by omega,by decide,by decide⟩
   ·show s.fl.length+qm (aC ns (f 1).toNat {ns (f 1).toNat with dl:=(ns (f 1).toNat).dl++cG [bI (f 2).toNat],sy:=(((ns (f 1).toNat).dl.length+(cG [bI (f 2).toNat]).length:Nat):Int),mo:=aC (ns (f 1).toNat).mo (f 2).toNat ⟨1,1,0,0,0,[]⟩})≤2*(k+1);omega
   ·show s.sv.length≤_;omega
   ·show s.td.length≤_;omega
   ·show s.cs≤_;omega
  ·simp only;rw[tt];exact h.next
 ·split
  ·
   rename_i h2;have ho:=aaJ (ok.e h2).1;refine⟨h.n,fun l hl=> ?_,h.dir, ?_, ?_, ?_, ?_, ?_⟩
   ·rcases List.mem_append.1 hl with hl|hl
    ·exact h.fl l hl
    ·rw[List.mem_singleton.1 hl];exact UE ⟨by omega,by omega⟩ hq ho
   ·show(s.fl++[_]).length+qm ns≤2*(k+1);rw[List.length_append];simp only[List.length_singleton];omega
   ·show s.sv.length≤_;omega
   ·show s.td.length≤_;omega
   ·show 0≤s.cs+1;have:=h.c0;simp only at this;omega
   ·show s.cs+1≤_;omega
  ·split
   ·
    obtain⟨h1,a,b,h2,h3,h4⟩:=UH (s:=s) (hN _ hi) hi;have Mz:=P5 (ns:=ns) hi;have hw:(ns (f 1).toNat).wt.length≤cN (ns (f 1).toNat):=by unfold cN;omega
    exact h'.piece hi h1 h2 h3 (by omega)
   ·split
    ·
     unfold kO;split
     ·exact h.next
     ·rename_i l hl;have hm:l∈s.fl:=List.mem_of_getElem? hl;have aW:(f 3).toNat % s.fl.length<s.fl.length:=by
       obtain⟨hx,_⟩:=List.getElem?_eq_some_iff.1 hl;exact hx
      have Du:(s.fl.eraseIdx ((f 3).toNat % s.fl.length)).length=s.fl.length-1:=List.length_eraseIdx_of_lt aW;have BN:∀x∈s.fl.eraseIdx ((f 3).toNat % s.fl.length),Fq x:=fun x hx=>h.fl x (List.mem_of_mem_eraseIdx hx);split
      ·rename_i h5;rw[if_neg (by omega)];refine⟨h.n,BN,h.dir, ?_, ?_, ?_,h.c0, ?_⟩
       ·show(s.fl.eraseIdx _).length+qm ns≤2*(k+1);omega
       ·show s.sv.length≤_;omega
       ·show s.td.length≤_;omega
       ·show s.cs≤_;omega
      ·have b2:Cm (ns,s) (ns,if f 0=6 then s else {s with fl:=s.fl.eraseIdx ((f 3).toNat % s.fl.length)}) 0:=by
        split
        ·exact base
        ·refine⟨h.n,BN,h.dir, ?_,rfl,Nat.le_refl _,rfl⟩;show(s.fl.eraseIdx _).length+qm ns≤s.fl.length+qm ns+0;omega
       have c:=KJ b2 (h.fl l hm);have c1:=c.t;have c2:=c.td;have c3:=c.sv;have c4:=c.cs;simp only at c1 c2 c3 c4;refine⟨c.n,c.fl,c.dir,by omega,by rw[c3];omega,by omega,by rw[c4];exact h.c0,by rw[c4];omega⟩
    ·split
     ·
      unfold MA;have b2:Cm (ns,{s with fl:=[]}) (ns,{s with fl:=[]}) 0:=⟨h.n,(fun l hl=>by cases hl),h.dir,Nat.le_refl _,rfl,Nat.le_refl _,rfl⟩;have c:=Fy s.fl b2 h.fl;have c1:=c.t;have c2:=c.td;have c3:=c.sv;have c4:=c.cs;simp only[List.length_nil]at c1 c2 c3 c4;refine⟨c.n,c.fl,c.dir,by omega,by rw[c3];omega,by omega,by rw[c4];exact h.c0,by rw[c4];omega⟩
     ·split
      ·
       obtain⟨h1,h2⟩:=P6 (hN _ hi) ok.kp.1;exact h'.piece hi h1 (rj.refl s) (by omega) (by omega)
      ·split
       ·
        obtain⟨h1,h2,h3⟩:=P7 (s:=s) (hN _ hi);exact h'.piece hi h1 h2 (by omega) (by omega)
       ·
        unfold P9;have I8:=h.dir _ hq;unfold Fx at I8;have TZ:(s.pn (f 2).toNat).toNat<5:=by
         simp only at I8;omega
        have hn:=hN _ TZ;refine h'.piece TZ ?_ (rj.refl s) ?_ (by omega)
        ·unfold uo;split
         ·exact hn
         ·rename_i kz;have hup:(ns (s.pn (f 2).toNat).toNat).up=true:=by
           cases hx:(ns (s.pn (f 2).toNat).toNat).up with
           |true=>rfl
           |false=>exact absurd (.inr (.inr (.inl hx))) kz
          have hg:(dR ((ns (s.pn (f 2).toNat).toNat).mo (f 2).toNat) (((f 1).toNat:Nat):Int)).2=0:=Decidable.not_not.1 fun g=>kz (.inr (.inr (.inr (.inr g))));refine⟨hn.i,hn.tu,hn.wt,hn.ln,fun _=>go_up (hn.up hup) hq hg,fun g=> ?_⟩;have:(ns (s.pn (f 2).toNat).toNat).up=false:=g;rw[hup]at this;cases this
        ·unfold uo;split
         ·omega
         ·show 0+cN (ns (s.pn (f 2).toNat).toNat)≤cN (ns (s.pn (f 2).toNat).toNat)+2;omega
theorem adE:Inv 0 (ns0,ws0):=by
 exact⟨fun i hi=>⟨rfl,(show(0:Nat)<4 by decide),(fun l hl=>by cases hl),Nat.zero_le _,(fun _=>⟨fun q hq=>Bt.dr,[],[],fQ,rfl,rfl,Dg.nil,fun q hq=>(lh (B:=Bt.zero) (by show ¬(0:Int)=2;decide)).symm,.inl ⟨rfl,rfl⟩⟩),(fun g=>by cases g)⟩,(fun l hl=>by cases hl),(fun p hp=> .inl ⟨if_pos hp,rfl⟩),Nat.le_refl 0,Nat.zero_le _,Nat.zero_le _,Int.le_refl 0,Int.le_refl 0⟩
theorem KK(D:tJ)(n:Nat)(hn:n≤100000)(ok:∀j,j<n→Lq.AX (Lq.eQ D j)=0):∀k,k≤n→Inv k (yD D k)
 |0,_=>adE
 |k+1,hk=>UI (KK D n hn ok k (by omega)) (by omega) (PH (ok k (by omega)))
section
open Rv
def ocG(o:Oc)(t:Mp):Nat→Value:=BI (iV (o.fl:Int)) (yN o.up 5) o.pn o.pe (.slice (some ⟨t.R,0,none⟩) 5 t.c) (.slice t.sa o.sv.length t.sc) (.slice t.ta o.td.length t.tc) (iV o.cs)
theorem KL{o:Oc}{t:Mp}:a7 (ocG o t) 18:=Dv rfl rfl rfl rfl rfl
theorem Fz{w w':tF}(b:bZ w w')(h:Lq.kZ w):Lq.kZ w':=h.next b
theorem I9{D:tJ}{n:Nat}{c e:Int}(h:Lq.kM D n c e)(he:e=0):∀j,j<n→Lq.AX (Lq.eQ D j)=0:=by
 cases h with
 |bad k hk hl hb=>exact absurd he hb
 |fh hl=>exact hl
theorem P_{w w':tF}{b t n:Nat}{f:tH}(h:aZ w b t n f)(k:bZ w w'):aZ w' b t n f:=by
 have hl:=h.lt;unfold aZ at*;rw[k.block b hl];exact h
theorem yO{n m:Nat}{w w1 w2:tF}(h:Below n w w1)(k:Below m w1 w2)(hm:n≤m):Below n w w2:=⟨k.os.trans h.os,k.tape.trans h.tape,k.output.trans h.output,Nat.le_trans h.size k.size,fun b hb=>(k.block b (Nat.lt_of_lt_of_le hb hm)).trans (h.block b hb)⟩
section
variable{w w1 x x':tF}{X R0:Nat}{us:Nat→Nv}{v:Wv}{F:tI}{f:tH}{T:Nat}
theorem UJ(hc:CW x X us v F)(Mj:v.nd 5=w1.heap.size)(hfR:aZ w1 R0 T 18 f)(Z0:w.heap.size≤R0)(Xl:bZ w w1)(oD:bZ w1 x):Mem x [⟨R0,T,18,f⟩] (fun b=>b<w1.heap.size∧b≠R0) (fun _=>True) (fun y=>CW y X us v F∧bZ w y):=by
 have hRl:=hfR.lt;have hm:=Mem.begin (w:=x) (H:=[⟨R0,T,18,f⟩]) (M:=fun b=>b<w1.heap.size∧b≠R0) (G:=fun _=>True) (fun e he=>by cases List.mem_singleton.1 he;exact P_ hfR oD) (List.pairwise_singleton _ _) (fun e he=>by cases List.mem_singleton.1 he;exact fun hh=>hh.2 rfl) (fun b hb=>Nat.lt_of_lt_of_le hb.1 oD.size) (fun _ _=>trivial);have h1:bZ w x:=yO Xl oD Xl.size;refine⟨hm.iG,hm.oQ,hm.off,hm.mlt,hm.g,fun w2 c2=>⟨hc.others (c2.mono fun b hb=> ?_),yO h1 (c2.below h1.size fun b hb hu=> ?_) (Nat.le_refl _)⟩⟩
 ·have e:b=R0:=by simpa using hb
  rw[e,Mj];exact hRl
 ·have e:b=R0:=by simpa using hu
  omega
end
theorem UK(a:tG)(len cap:Nat)(D:tJ)(w:tF)(hKi:Lq.kZ w)(ee:RowK .i64 w a (11*len) D)(lq:len*88≤140737488351232)(hI:len≤100000→∀k,k≤len→(∀j,j<len→Lq.AX (Lq.eQ D j)=0)→GdT (yD D k)):cA 16 #[.slice a len cap] w fun x w'=>∃y,x= .returned y∧PI D len w w' y∧bZ w w':=by
 have o0:a7 (BI (iV 0) (fun _=>false) (fun _=>0) (fun _=>0) (.slice none 0 0) (.slice none 0 0) (.slice none 0 0) (iV 0)) 18:=Dv rfl rfl rfl rfl rfl;refine en (H:=[]) 35 [vv (.slice a len cap)] Tryz.func16 rfl rfl (m0 w) (r [] rfl fun α=> ?_);by_cases hbig:100000<len
 ·exact r [1] rfl fun _=>fin fun w hS=>⟨_,rfl,.long hbig,hS.now.2⟩
 refine r [0] rfl fun _=>cq rfl (fun y:Int×Int=>vt [.o (iV y.1),.o (iV y.2)]) (fun y=>Lq.kM D len y.1 y.2) (fun w1 hS=>(Lq.Mo a len cap D _ (Fz hS.now.2 hKi) (ee.below hS.now.2) (by omega)).mono fun _ _ ⟨cc,er,e,T_,b⟩=>⟨(cc,er),e,b,T_⟩) ?_;rintro⟨cc,er⟩ T_;have T_:Lq.kM D len cc er:=T_;by_cases Du:er=0
 case neg=>exact r [1] rfl fun _=>fin fun w hS=>⟨_,rfl,.bad (by omega) cc er T_ Du,hS.now.2⟩
 have BO:=I9 T_ Du;refine r [0] rfl fun _=>gn 0 (BI (iV 0) (fun _=>false) (fun _=>0) (fun _=>0) (.slice none 0 0) (.slice none 0 0) (.slice none 0 0) (iV 0)) (mq rfl (by kernel_rfl) fun w2 hS=> ?_);have hfR:=hS.at 0 rfl;have Z0:=hS.iH 0 rfl;have Xl:=hS.now.2;refine(Dx w2).mono ?_;rintro _ w3 ⟨X,nd,tk,dd,rfl,KM,hX,Mj,b⟩;refine⟨vv (lp X),[],fun _=>False,fun _=>True,fun y=>CW y X Z1 ⟨nd,tk,dd,fS 4,bH,[],0,[],[]⟩ (fun b=>b=X)∧bZ w2 y,rfl,.inr b,Mem.start (fun _ h=>h.elim) (fun _ _=>trivial) (fun y b'=>⟨KM.next b',Below.next b b'⟩),Rv.sv 2 (vv (lp (α 0))) rfl (r [] rfl fun _=> ?_)⟩;refine lpc (X:=Nat×(Nat→Nv)×Wv×(Nat→Prop)) (fun x=>[(2,vv (lp (α 0))),(6,vv (lp X)),(23,vv (.slice a len cap)),(24,vi (len:Int)),(25,vi (x.1:Int))]) (fun _=>[]) (fun _ _=>False) (fun x y=>CW y X x.2.1 x.2.2.1 x.2.2.2∧bZ w2 y) (fun x=>x.1≤len∧((fun i=>(x.2.1 i).pure),x.2.2.1.pure)=yD D x.1∧x.2.2.1.nd 5=w2.heap.size) (fun x=>len-x.1) (0,Z1,_,_) ⟨rfl,rfl,rfl,rfl,rfl,trivial⟩ (fun _ hS=>hS) ⟨Nat.zero_le _,rfl,Mj⟩ ?_;rintro f ⟨k,us,v,F⟩ ⟨hk,hp,Mj⟩;have hk:k≤len:=hk;have hp:((fun i=>(us i).pure),v.pure)=yD D k:=hp;have Mj:v.nd 5=w2.heap.size:=Mj;by_cases aW:k<len
 ·obtain⟨ab,ao,rfl⟩:=ee.form (by omega);refine r [1] rfl fun _=>lf (q:=ao+k*11) rfl 11 (X6 D k) (fun w hS=>mP (ee.below (yO Xl hS.now.2.2 Xl.size)) (by omega) fun j hj=>rfl) (r [] rfl fun β=>mq rfl (by kernel_rfl) fun w4 hS=> ?_);refine(X8 hS.now.2.1 hp (hI (by omega) k hk BO) (BO k aW)).mono ?_;rintro _ w6 ⟨rfl,Io,v2,F2,kz,hp2,hnd2,I_⟩;refine⟨vt [],[],fun _=>False,fun _=>True,fun y=>CW y X Io v2 F2∧bZ w2 y,rfl,.inl rfl,Mem.start (fun _ h=>h.elim) (fun _ _=>trivial) (fun y b'=>⟨kz.next b',Below.next (hS.now.2.2.trans (Mj▸I_)) b'⟩),rz [1] [((k+1:Nat):Int)] rfl fun _=>eJ (k+1,Io,v2,F2) ⟨rfl,rfl,rfl,rfl,rfl,trivial⟩ (fun _ hS=>hS) ⟨aW,hp2,(congrFun hnd2 5).trans Mj⟩ (show len-(k+1)<len-k by omega)⟩
 obtain rfl:len=k:=by omega
 have hoc:ocS (fun i=>(us i).pure) v.pure=Xf D len:=by unfold Xf;rw[←hp]
 refine r [0] rfl fun _=>Rv.sv 2 (vp 0 0 (α 0)) rfl (Ye fun x hS=>⟨[⟨α 0,34,[.f 18 (BI (iV 0) (fun _=>false) (fun _=>0) (fun _=>0) (.slice none 0 0) (.slice none 0 0) (.slice none 0 0) (iV 0))]⟩],_,_,_,UJ hS.now.2.1 Mj hfR Z0 Xl hS.now.2.2, ?_⟩);refine cx rfl (fun t:Mp=>vf 18 (ocG (Xf D len) t)) (fun _=>True) (fun t w=>X9 w (Xf D len) t) (fun w4 hS=>(Ja (U:=fun b=>b<v.nd 5) hS.now.2.1 (fun b hb=>Nat.lt_of_lt_of_le hb hS.now.2.1.ln) (fun w2 c2=>(hS.now.2.1.st w2 c2).1.1) (fun b hb hu=>absurd (hS.now.2.1.lo b hu) (Nat.not_le.2 hb)) (fun i hi mr=>by have ht:=(hI (by omega) len (Nat.le_refl _) BO).t i hi;rw[←hp]at ht;exact ht mr)).mono fun _ _ ⟨t,e,gZ,b⟩=>⟨t,by rw[←hoc];exact e,b,trivial,fun _ w5 c5=>hoc▸gZ w5 (c5.mono fun b hb=>hb.elim (fun e=>by rw[List.mem_singleton.1 e,Mj];exact hfR.lt) fun h=>Mj▸h.1)⟩) fun t _=> ?_;have o1:a7 (ocG (Xf D len) t) 18:=KL;exact r [] rfl fun _=>fin fun w5 hS=>⟨_,rfl,.fh (by omega) BO t (fun w2 c2=>(hS.g w2 (c2.mono fun b hb=> .inr ⟨Nat.lt_of_lt_of_le hb Xl.size,fun e=>absurd hb (Nat.not_lt.2 (e▸Z0))⟩)).2),hS.now.2.2⟩
end
theorem UL(a:tG)(len cap:Nat)(D:tJ)(w:tF)(hKi:Lq.kZ w)(ee:RowK .i64 w a (11*len) D)(lq:len*88≤140737488351232):cA 16 #[.slice a len cap] w fun x w'=>∃y,x= .returned y∧PI D len w w' y∧bZ w w':=by
 exact UK a len cap D w hKi ee lq fun hl k hk ok=>(KK D len hl ok k hk).gd (by omega)
namespace Lq
open Rv
theorem qp(a a':tG)(n cap bg:Nat)(D:tJ)(w:tF)(h:RowK .i64 w a (11*n) D)(h':RowK .i64 w a' (11*n) D)(hm:n≤3000000000000):
  cA 18 #[.slice a n cap,.slice a' n bg] w (rB (.bool true) w):=by
 refine en (H:=[]) _ [vv (.slice a n cap),vv (.slice a' n bg)] Tryz.func18 rfl rfl (m0 w) (r [0] rfl fun _=> ?_);refine iC (X:=Nat) ⟨fun k=>[(0,vv (.slice a n cap)),(1,vv (.slice a' n bg)),(5,vi (k:Int))],fun _=>[],fun _ _=>False,fun _ _=>True,fun _ w'=>bZ w w',fun k=>k≤n,fun k=>n-k⟩ 0 ⟨rfl,rfl,rfl,trivial⟩ (fun _ hS=>hS) (Nat.zero_le _) ?_;rintro f k hk;have hk:k≤n:=hk;by_cases aW:k<n
 case neg=>
  obtain rfl:k=n:=by omega
  exact r [0] rfl fun _=>fin fun w hS=>⟨rfl,hS.now.2⟩
 obtain⟨b,o,rfl⟩:=h.form (by omega);obtain⟨b',o',rfl⟩:=h'.form (by omega);have on:a7 (aF (eQ D k)) 11:=fun _ _=>rfl;refine r [1,1] rfl fun _=>lf (q:=o+k*11) rfl 11 (aF (eQ D k)) (fun w hS=>mP (h.below hS.now.2) (by omega) fun j _=>rfl) (r [] rfl fun _=>lf (q:=o'+k*11) rfl 11 (aF (eQ D k)) (fun w hS=>mP (h'.below hS.now.2) (by omega) fun j _=>rfl) (r [] rfl fun _=>eqs (b:=false) rfl (fun w=>jt _ _ w) (by rw[yh.2 fun _ _=>rfl];rfl) ?_));exact rz [1] [((k+1:Nat):Int)] rfl fun _=>eJ (k+1) ⟨rfl,rfl,rfl,trivial⟩ (fun w hS=>hS) aW (show n-(k+1)<n-k by omega)
theorem xR(a:tG)(len cap:Nat)(D:tJ)(w:tF)(h:RowK .i64 w a (11*len) D)(hs:len*88≤140737488351232):
  cA 17 #[.slice a len cap] w fun x w'=>∃e,x= .returned (iV e)∧((100000<len∧e=1)∨(len≤100000∧∃c,kM D len c e))∧bZ w w':=by
 by_cases hbig:100000<len
 ·exact en (H:=[]) _ [vv (.slice a len cap)] Tryz.func17 rfl rfl (m0 w) (r [1] rfl fun _=>fin fun w hS=>⟨1,rfl,.inl ⟨hbig,rfl⟩,hS.now.2⟩)
 refine en (H:=[]) _ [vv (.slice a len cap)] Tryz.func17 rfl rfl (m0 w) (r [0] rfl fun _=> ?_);refine iC (X:=Nat) ⟨fun k=>[(0,vv (.slice a len cap)),(3,vi (k:Int))],fun _=>[],fun _ _=>False,fun _ _=>True,fun _ w'=>bZ w w',fun k=>k≤len∧∀j,j<k→AX (eQ D j)=0,fun k=>len-k⟩ 0 ⟨rfl,rfl,trivial⟩ (fun _ hS=>hS) ⟨Nat.zero_le _,fun j hj=>absurd hj (Nat.not_lt_zero j)⟩ ?_;rintro f k ⟨hk,hi⟩;have hk:k≤len:=hk;by_cases aW:k<len
 case neg=>
  obtain rfl:k=len:=by omega
  exact r [0] rfl fun _=>fin fun w hS=>⟨_,rfl,.inr ⟨by omega,_,.fh hi⟩,hS.now.2⟩
 obtain⟨b,o,rfl⟩:=h.form (by omega);have on:a7 (aF (eQ D k)) 11:=fun _ _=>rfl;refine r [1] rfl fun _=>lf (q:=o+k*11) rfl 11 (aF (eQ D k)) (fun w hS=>mP (h.below hS.now.2) (by omega) fun j _=>rfl) (r [] rfl fun _=>Rv.cb rfl (vi (AX (eQ D k))) (fun w hS=>by rw[Uo];exact Da (eQ D k) w) ?_);by_cases hc:AX (eQ D k)=0
 ·exact rz [0,1] [((k+1:Nat):Int)] rfl fun _=>eJ (k+1) ⟨rfl,rfl,trivial⟩ (fun w hS=>hS) ⟨aW,upto hi hc⟩ (show len-(k+1)<len-k by omega)
 ·exact r [1] rfl fun _=>fin fun w hS=>⟨_,rfl,.inr ⟨by omega,0,.bad k aW hi hc⟩,hS.now.2⟩
end Lq
section
open Rv
abbrev zG:Nat→Value:=BI (iV 0) (fun _=>false) (fun _=>0) (fun _=>0) (.slice none 0 0) (.slice none 0 0) (.slice none 0 0) (iV 0)
theorem rO(w:tF)(hK:Lq.kZ w)(a:tG)(len cap:Nat)(D:tJ)(h:RowK .i64 w a (11*len) D)(vS:len≤cap)(rN:a=none→cap=0)(hs:cap*88≤140737488351232):cA 3 #[.slice a len cap] w (rB (.bool true) w):=by
 have hS:=pP (w:=w) (U:=fun _=>False) (fun _ h=>h.elim) (G:=fun w=>RowK .i64 w a (11*len) D∧Lq.kZ w) (fun w2 c2=>⟨h.below (c2.below (Nat.le_refl _) fun _ _ hu=>hu.elim),hK.next (c2.below (Nat.le_refl _) fun _ _ hu=>hu.elim)⟩);have vT:=h.wf;refine en (H:=[]) _ [vv (.slice a len cap)] Tryz.func3 rfl rfl hS (r [] rfl fun _=> ?_);refine cx rfl (fun y:Option Addr×Nat=>vv (.slice y.1 len y.2)) (fun _=>True) (fun y w=>RowK .i64 w y.1 (11*len) D) (fun w1 hS=>(Lq.PF a len cap D _ hS.now.1.1 rN (by omega)).mono fun _ w2 ⟨v1,e,o1,b⟩=> ?_) ?_
 ·obtain⟨a1,c1,rfl,r1,_,_,_,BP⟩:=RowK.jF o1 vT;exact⟨(a1,c1),e,b,trivial,fun hl=>cD r1 BP hl⟩
 rintro⟨a1,c1⟩-;refine r [] rfl fun _=>cq rfl (fun y:(Nat→Value)×Int=>vt [.g [.f 18 y.1],.o (iV y.2)]) (fun y=>a7 y.1 18∧(∀e,(100000<len∧e=1)∨(len≤100000∧∃c,Lq.kM D len c e)→e=y.2)∧(y.2=0∨¬y.2=0∧y.1=zG)) (fun w1 hS=>(UL a1 len c1 D _ hS.now.1.1.2 hS.now.1.2 (by omega)).mono fun _ w2 ⟨_,e,hr,b⟩=> ?_) ?_
 ·have oz:a7 zG 18:=Dv rfl rfl rfl rfl rfl;rcases hr with⟨hb⟩|⟨hb,cc,er,T_,Du⟩|⟨hb,BO,t,ho⟩
  ·exact⟨(zG,1),e,b,oz,fun _ h=>h.elim (fun h=>h.2) fun h=>absurd h.1 (by omega),.inr ⟨by decide,rfl⟩⟩
  ·exact⟨(zG,er),e,b,oz,fun _ h=>h.elim (fun h=>absurd h.1 (by omega)) fun h=>h.2.elim fun _ h=>(h.Ur T_).2,.inr ⟨Du,rfl⟩⟩
  ·exact⟨(ocG (Xf D len) t,0),e,b,KL,fun _ h=>h.elim (fun h=>absurd h.1 (by omega)) fun h=>h.2.elim fun _ h=>(h.Ur (.fh BO)).2,.inl rfl⟩
 rintro⟨g,e⟩ ⟨og,hd,hz⟩;refine r [] rfl fun α=>cq rfl (fun y:Int=>vi y) (fun y=>y=e) (fun w1 hS=>(Lq.xR a len cap D _ hS.now.1.1.1 (by omega)).mono fun _ w2 ⟨f9,h1,h2,b⟩=>⟨f9,h1,b,hd f9 h2⟩) ?_;rintro _ rfl;rcases hz with rfl|⟨fJ,rfl⟩
 ·exact r [1,1] rfl fun _=>Rv.cb rfl (vv (.bool true)) (fun w1 hS=>Lq.qp a1 a len c1 cap D _ hS.now.1.2 hS.now.1.1.1 (by omega)) (r [] rfl fun _=>fin fun w hS=>⟨rfl,hS.now.2⟩)
 ·exact r [1,0,1,1,1,1] rfl fun _=>Rv.cb rfl (vv (.bool true)) (fun w1 hS=>Lq.qp a1 a len c1 cap D _ hS.now.1.2 hS.now.1.1.1 (by omega)) (r [] rfl fun _=>fin fun w hS=>⟨rfl,hS.now.2⟩)
end
namespace Lq
open Go.ChangeShapes Go.WideShapes Go.ChangeAt
theorem BQ:Tryz.prog.cellsOf 57=11:=by kernel_rfl
theorem Qa{H:Type}{enc:TypeId×Value→H}{W:tF}{base:Nat}{sp:tQ}{held:Bool}{fuel:Nat}{cs:tO}{x:DataW H×List MemPlace}(h:DataW.trod enc Tryz.prog W base sp held fuel 57 cs=some x):Ints cs∧cs.length=11:=by
 obtain⟨xs,n,_,_,hl,hlen,hf⟩:=DataW.trod_struct Tryz.underlying57 h;rw[BQ]at hl;refine⟨?_,hl⟩
 match xs,hlen with
 |[y0,y1,y2,y3,y4,y5],_=>
  have f0:DataW.trod enc Tryz.prog W base sp held n 3 ((cs.drop 0).take (Tryz.prog.cellsOf 3))=some y0:=hf 0 _ rfl;rw[eZ]at f0;have f1:DataW.trod enc Tryz.prog W base sp held n 3 ((cs.drop 1).take (Tryz.prog.cellsOf 3))=some y1:=hf 1 _ rfl;rw[eZ]at f1;have f2:DataW.trod enc Tryz.prog W base sp held n 3 ((cs.drop 2).take (Tryz.prog.cellsOf 3))=some y2:=hf 2 _ rfl;rw[eZ]at f2;have f3:DataW.trod enc Tryz.prog W base sp held n 3 ((cs.drop 3).take (Tryz.prog.cellsOf 3))=some y3:=hf 3 _ rfl;rw[eZ]at f3;have f4:DataW.trod enc Tryz.prog W base sp held n 3 ((cs.drop 4).take (Tryz.prog.cellsOf 3))=some y4:=hf 4 _ rfl;rw[eZ]at f4;have f5:DataW.trod enc Tryz.prog W base sp held n 55 ((cs.drop 5).take (Tryz.prog.cellsOf 55))=some y5:=hf 5 _ rfl;rw[xl]at f5;exact eP (o:=0) (n:=1) (ig Tryz.underlying3 f0) (eP (o:=1) (n:=1) (ig Tryz.underlying3 f1) (eP (o:=2) (n:=1) (ig Tryz.underlying3 f2) (eP (o:=3) (n:=1) (ig Tryz.underlying3 f3) (eP (o:=4) (n:=1) (ig Tryz.underlying3 f4) (eP (o:=5) (n:=6) (Jb f5) (yP (by omega)))))))
section
variable{H:Type}{enc:TypeId×Value→H}{W:tF}
def nF(w:tF)(a:Addr):Int:=match w.cell? a with
 |some (.int .i64 z)=>z
 |_=>0
theorem MB{t e:tY}{size:Nat}(ht:Tryz.prog.underlying t=some (.slice e))(hc:Tryz.prog.cellsOf e=size)(h0:0<size)
  (hints:∀{fuel:Nat} {cs:tO} {x:DataW H×List MemPlace},DataW.trod enc Tryz.prog W 0 (fun _=>true) true fuel e cs=some x→Ints cs∧cs.length=size)
  {fuel:Nat} {cs:tO} {d:DataW H} {p:List MemPlace} (hf:DataW.trod enc Tryz.prog W 0 (fun _=>true) true fuel t cs=some (d,p)):
  ∃a len cap D,cs=[.slice a len cap]∧RowK .i64 W a (size*len) D∧len≤cap∧cap≤maxLen∧(a=none→cap=0)∧((d= .nil∧cap=0)∨∃es sp,d= .slice es sp∧es.length+sp.length=cap):=by
 rcases Go.Deep.open_slice ht hf with⟨rfl,hx⟩|⟨x,l,c,m,n,Dd,Pl,rfl,_,hl,hm,hmm,hx,pQ⟩
 ·simp only[Prod.mk.injEq]at hx;exact⟨none,0,0,[],rfl,RowK.nil _ _ _,Nat.le_refl _,by unfold maxLen;omega,fun _=>rfl,.inl ⟨hx.1,rfl⟩⟩
 ·simp only[if_true]at hmm;subst hmm;simp only[Prod.mk.injEq]at hx;have aaL:(d= .nil∧m=0)∨∃es sp,d= .slice es sp∧es.length+sp.length=m:= .inr ⟨_,_,hx.1,by simp;omega⟩;have key:∀i,i<l→∀t,t<size→∃z,W.cell? ((x.add (i*size)).add t)=some (iV z)∧(Lit.int .i64 z).wf=true:=by
   intro i hi t ht;obtain⟨Pp,h1,h2⟩:=pQ i (by omega);rw[hc]at h1;obtain⟨⟨zs,rfl,hw⟩,UM⟩:=hints h2;have ahb:zs.length=size:=by simpa using UM
   have h3:=(World.cells?_some h1).2.2 t ht;rw[h3,List.getElem?_map,List.getElem?_eq_getElem (show t<zs.length by omega)];exact⟨zs[t]'(by omega),rfl,hw _ (List.getElem_mem _)⟩
  obtain⟨b,off,spot⟩:=x;by_cases Im:l=0
  ·subst Im;exact⟨_,_,_,[],rfl,RowK.nil _ _ _,hl,hm,by simp,aaL⟩
  have aaM:spot=none:=by
   obtain⟨z,hz,_⟩:=key 0 (by omega) 0 (by omega);simpa[Addr.add]using World.cell?_spot hz
  subst aaM;have Qc:∀i t,((⟨b,off,none⟩:Addr).add i).add t=⟨b,off+(i+t),none⟩:=by
   intro i t;have h1:∀(o j:Nat),(⟨b,o,none⟩:Addr).add j=⟨b,o+j,none⟩:=fun o j=>by unfold Addr.add;split<;>simp_all
   rw[h1,h1,Nat.add_assoc]
  have cell:∀j,j<size*l→W.cell? ⟨b,off+j,none⟩=some (iV (nF W ⟨b,off+j,none⟩))∧(Lit.int .i64 (nF W ⟨b,off+j,none⟩)).wf=true:=by
   intro j hj;obtain⟨z,hz,hw⟩:=key (j/size) (Nat.div_lt_of_lt_mul hj) (j % size) (Nat.mod_lt _ h0);rw[Qc,Nat.mul_comm (j/size) size,Nat.div_add_mod]at hz;have hn:nF W ⟨b,off+j,none⟩=z:=by unfold nF;rw[hz]
   rw[hn];exact⟨hz,hw⟩
  refine⟨_,_,_,(List.range (size*l)).map (fun j=>nF W ⟨b,off+j,none⟩),rfl,⟨by simp, ?_, ?_⟩,hl,hm,by simp,aaL⟩
  ·intro u hu;simp only[List.mem_map,List.mem_range]at hu;obtain⟨j,hj,rfl⟩:=hu;exact(cell j hj).2
  ·intro j hj;have hcj:=(cell j hj).1;refine⟨b,off,rfl, ?_, ?_⟩
   ·unfold World.cell? at hcj;by_cases I_:b<W.heap.size
    ·exact I_
    ·simp[Array.getElem?_eq_none (show W.heap.size≤b by omega)]at hcj
   ·rw[hcj];simp[List.getD_eq_getElem?_getD,hj]
theorem MC{r:Reach}{b0:Nat}{v:tN}{d:DataW H}{p:List MemPlace}(hv:Value.okWide Tryz.prog W r b0 22 v)(h:DataW.Trod enc Tryz.prog W 0 (fun _=>true) true 22 v d p):
  ∃a len cap D,v= .slice a len cap∧RowK .i64 W a (11*len) D∧len≤cap∧cap≤maxLen∧(a=none→cap=0)∧((d= .nil∧cap=0)∨∃es sp,d= .slice es sp∧es.length+sp.length=cap):=by
 obtain⟨a,len,cap,rfl⟩:=okWide_slice Tryz.underlying22 hv;obtain⟨fuel,hf⟩:=h;obtain⟨a',fy,bg,D,Mz,r1⟩:=MB Tryz.underlying22 BQ (by decide) Qa hf;simp[Value.cells]at Mz;obtain⟨rfl,rfl,rfl⟩:=Mz;exact⟨_,_,_,D,rfl,r1⟩
end
theorem Qd:Tryz.prog.globalNamed "berthshift/lines.kinds" =some 0:=by kernel_rfl
theorem Yf:(Tryz.prog.globals[0]?).map (·.type)=some 191:=by kernel_rfl
theorem yQ:Tryz.prog.cellsOf 151=3:=by kernel_rfl
theorem FA:Tryz.prog.cellsOf 191=36:=by kernel_rfl
theorem MD:Tryz.prog.cellsOf 9=1:=by kernel_rfl
theorem Jc{enc:TypeId×Value→Unit}{W:tF}{base:Nat}{sp:tQ}{held:Bool}{fuel:Nat}{cs:tO}{x:DataW Unit×List MemPlace}{b:List UInt8}{a o:Int}(h:DataW.trod enc Tryz.prog W base sp held fuel 151 cs=some x)(hx:x.1= .agg [.lit (.string b),.lit (.int .i64 a),.lit (.int .i64 o)]):cs=[.string ⟨b.toArray⟩,iV a,iV o]:=by
 obtain⟨xs,n,_,rfl,hl,hlen,hf⟩:=DataW.trod_struct Tryz.underlying151 h;rw[yQ]at hl
 match xs,hlen with
 |[y0,y1,y2],_=>
  have f0:DataW.trod enc Tryz.prog W base sp held n 9 ((cs.drop 0).take (Tryz.prog.cellsOf 9))=some y0:=hf 0 _ rfl;have f1:DataW.trod enc Tryz.prog W base sp held n 3 ((cs.drop 1).take (Tryz.prog.cellsOf 3))=some y1:=hf 1 _ rfl;have f2:DataW.trod enc Tryz.prog W base sp held n 3 ((cs.drop 2).take (Tryz.prog.cellsOf 3))=some y2:=hf 2 _ rfl;rw[MD]at f0;rw[eZ]at f1 f2;obtain⟨s,e0,rfl,_⟩:=DataW.trod_string Tryz.underlying9 f0;obtain⟨z1,e1,rfl,_⟩:=DataW.trod_int Tryz.underlying3 f1;obtain⟨z2,e2,rfl,_⟩:=DataW.trod_int Tryz.underlying3 f2;simp only[List.map_cons,List.map_nil,DataW.agg.injEq,List.cons.injEq,DataW.lit.injEq,Lit.string.injEq,Lit.int.injEq,and_true,true_and]at hx;obtain⟨rfl,rfl,rfl⟩:=hx
  match cs,hl with
  |[c0,c1,c2],_=>
   simp at e0 e1 e2;subst e0 e1 e2;rfl
theorem FB:∀i,i<12→(qq.drop (i*3)).take 3=[.string (eE i),iV (iF i),iV (sx i)]:=by
 refine oH ?_ ?_ ?_ ?_ ?_ ?_ ?_ ?_ ?_ ?_ ?_ ?_<;>rfl
theorem chunks{l:tO}(hl:l.length=36)(h:∀i,i<12→(l.drop (i*3)).take 3=[.string (eE i),iV (iF i),iV (sx i)]):l=qq:=by
 have key:∀m:List Value,∀j,m[j]? =((m.drop (j/3*3)).take 3)[j % 3]? :=fun m j=>by
  rw[List.getElem?_take,if_pos (Nat.mod_lt _ (by decide)),List.getElem?_drop];congr 1;omega
 refine List.ext_getElem? fun j=> ?_;by_cases hj:j<36
 ·rw[key l j,key qq j,h (j/3) (by omega),FB (j/3) (by omega)]
 ·rw[List.getElem?_eq_none (by omega),List.getElem?_eq_none (by rw[ME];omega)]
theorem A1{W:tF}(h:laidMet Tryz.prog [("berthshift/lines.kinds",Rows.laid_berthshift_lines_kinds)] W):kZ W:=by
 obtain⟨ps,⟨g0,t0,cs0,f0,p0,q0,hg0,ht0,hv0,hd0,_,_⟩,_,_⟩:=h;obtain rfl:=Option.some.inj (Qd.symm.trans hg0);obtain rfl:=Option.some.inj (Yf.symm.trans ht0);obtain⟨xs,m,rfl,hx,hlen,hn,UN⟩:=DataW.trod_array Tryz.underlying191 hd0;rw[FA]at hlen;have Mz:cs0.toList=qq:=by
  refine chunks hlen fun i hi=> ?_;have h1:=UN i hi;rw[yQ]at h1;have hm:xs.map (·.1)=_:=(DataW.agg.inj (Prod.mk.inj hx).1).symm;have h2:(xs.map (·.1))[i]? =some (.agg [.lit (.string (eE i).data.toList),.lit (.int .i64 (iF i)),.lit (.int .i64 (sx i))]):=by
   rw[hm];revert i;refine oH ?_ ?_ ?_ ?_ ?_ ?_ ?_ ?_ ?_ ?_ ?_ ?_<;>intros<;>rfl
  rw[List.getElem?_map]at h2;cases hxi:xs[i]? with
  |none=>rw[hxi]at h2;cases h2
  |some x=>
   rw[hxi]at h1 h2;have:=Jc h1 (Option.some.inj h2);rw[this]
 have hb:∃e fz,W.heap[0]? =some (.cells cs0 e fz):=by
  simp only[World.var?,Qd,Option.bind_some]at hv0;split at hv0
  ·rename_i cs e fz heq;cases hv0;exact⟨e,fz,heq⟩
  ·cases hv0
 obtain⟨e,fz,hb⟩:=hb;exact⟨e,fz,by rw[hb,←Mz]⟩
end Lq
section
open Go.ChangeShapes Go.WideShapes Go.ChangeAt Lq
theorem own:ownKnob Tryz.prog.godebug=none:=by kernel_rfl
theorem laidOut:laidOutB Tryz.prog=true:=by kernel_rfl
theorem qs{W:tF}(h:laidMetH Tryz.prog Rows.clusterRefusesRow.laid W):kZ W:=A1 h
theorem Qe(os:Os)(args:tR):laidMetH Tryz.prog Rows.clusterRefusesRow.laid ((World.doorLaid Tryz.prog 400 os).forCall (fun _ _=>0) ⟨#[],args,[]⟩).memory:=
 laidMetH_of_parts3 (fuel:=8) (laidMet_of_run' 8 (by kernel_rfl) (by kernel_rfl)) (by kernel_rfl) (by kernel_rfl)
set_option maxRecDepth 100000 in
theorem pR(os:Os)(started:os.Started)(H:Type)(enc:TypeId×Value→H):
  ReturnsInHanded {} Tryz.checked os 3 .any (fun w args=>(Rows.clusterRefusesSpec.pre enc Tryz.prog Tryz.f3 [] false w args∧laidMetH Tryz.prog Rows.clusterRefusesRow.laid w)∧sizedMet enc Tryz.prog Tryz.f3 (OpenSpec.ofChange Rows.clusterRefusesSpec) false w args) (Rows.clusterRefusesSpec.post enc Tryz.prog Tryz.f3 false true false false):=by
 refine returnsInHanded_of_change_and (C:=Tryz.checked) (X:=fun w _=>laidMetH Tryz.prog Rows.clusterRefusesRow.laid w) (fun _ _ _ hh h=>h.of_heap hh) own started (by kernel_rfl) Tryz.func3
  (ChangeSpec.witness_shaped (enc:=enc) (C:=Tryz.checked) (os:=os) (X:=fun w _=>laidMetH Tryz.prog Rows.clusterRefusesRow.laid w) false (World.doorLaid Tryz.prog 400 os) #[.slice none 0 0] 8 rfl (World.shaped_of_RefB (by kernel_rfl) (by kernel_rfl)) (by kernel_rfl) (by kernel_rfl) (by kernel_rfl) (Qe os _)) ?_
 intro W base args ds gs before hval0 hW hcnd hsz0 hL _;have aaN:∀(j:Nat) t v,Tryz.f3.params[j]? =some t→args[j]? =some v→Value.okWide Tryz.prog W .any base t v:=hval0;have lq:(DataW.weightsEach Tryz.prog (Tryz.f3.params.toList++Rows.clusterRefusesSpec.plain.varTypes Tryz.prog) (ds++gs)).all (·≤reachBytes)=true:=hsz0;have E0:=hW;obtain⟨p,q,hA0,hV,rfl,hfz,Ip⟩:=hW;have hA:DataW.TrodAll enc Tryz.prog W 0 (fun _=>true) true Tryz.f3.params.toList args.toList ds p:=hA0;rw[Tryz.params3]at hA aaN lq;have hK:=hA;have aW:∀x∈p,x.block<W.heap.size:=fun x hx=>E0.lt x (by simp[hx]);obtain⟨v0,vs0,d0,ds0,p0,q0,hargs,rfl,rfl,h0,r0⟩:=trodAll_cons hA;obtain⟨rfl,rfl,rfl⟩:=trodAll_nil r0;obtain rfl:args= #[v0]:=by cases args;simp_all
 obtain⟨rfl,rfl⟩:=trodVars_none hV;obtain⟨a0,len0,cap0,l0,rfl,w0,lc0,cm0,na0,hd0⟩:=MC (aaN 0 22 v0 rfl rfl) h0;have z0:cap0*88≤140737488351232:=Jd (j:=0) (t:=22) (e:=57) lq rfl rfl Tryz.underlying22 (by kernel_rfl) hd0;clear hd0;clear hA0 hval0 hsz0;have hKd:=qs hL;refine(rO W hKd a0 len0 cap0 l0 w0 lc0 na0 z0).mono fun e W' ⟨he,dC⟩=> ?_;subst he;exact⟨_,rfl,_,_,_,[],_,[],E0,trodAll_mk1 (shut_bool Tryz.underlying4 _),A2 laidOut (List.forall_mem_cons.2 ⟨⟨by kernel_rfl,of_decide_eq_true (by kernel_rfl)⟩,by intro t ht;cases ht⟩) hK dC aW,rfl,dC.frame _,fun h=>by cases h⟩
theorem aaO{a b:Bool}(h1:a=true)(h2:b=true):(a&&b)=true:=by rw[h1,h2];rfl
theorem uz:joinedFacts Tryz.pinned.checked.prog 3 Tryz.f3 Rows.clusterRefusesSpec Rows.clusterRefusesRow=true:=by
 unfold joinedFacts
 repeat' with_reducible apply aaO
 all_goals as_aux_lemma=>kernel_rfl
theorem qt:Rows.ClusterRefusesSaid:=
 OpenClaim.holds_of_wide 3 Tryz.f3 rfl rfl rfl rfl rfl rfl rfl ⟨rfl,rfl,rfl,rfl,rfl⟩ rfl rfl rfl rfl rfl (by as_aux_lemma=>kernel_rfl) Tryz.func3 uz
  (of_decide_eq_true (by as_aux_lemma=>kernel_rfl)) (by unfold Func.isWrapper;first|(rw[if_pos (by decide+kernel)];kernel_rfl)|(rw[if_neg (by decide+kernel)];exact⟨rfl,rfl⟩))
  (fun os started H enc _=>pR os started H enc)
theorem clusterRefuses_card:Rows.ClusterRefusesCardSaid:=
 Claim7.holds_tied_plain_at .later [] [.data] true (true, "8c1cd532d112b5f1b13463e5935b4ec2a84b8d8e499428abc1e0566194223d96") true
  qt (fun _ h=>by cases h) (by as_aux_lemma=>kernel_rfl) (fun _ h=>by cases h) clusterRefuses_row_tie rfl ⟨rfl,rfl⟩ (by as_aux_lemma=>kernel_rfl) rfl
  (fun f fn hf hfn=>by
   obtain rfl:f=3:=Option.some.inj ((show Tryz.prog.funcNamed "berthshift/berthshiftlaw.ClusterRefuses" =some 3 by as_aux_lemma=>kernel_rfl).symm.trans hf)|>.symm
   obtain rfl:fn=Tryz.f3:=(Option.some.inj (Tryz.func3.symm.trans hfn)).symm
   exact⟨by as_aux_lemma=>kernel_rfl,fun j t ht=>by
    rw[Tryz.params3]at ht;have hm:t∈[22]:=by simpa using Array.mem_of_getElem? ht
    have pQ:([22].all fun u=> !Tryz.prog.wantsStandIn u)=true:=by kernel_rfl
    exact(show Tryz.prog.wantsStandIn t=false by simpa using List.all_eq_true.1 pQ t hm)⟩)
  (by as_aux_lemma=>kernel_rfl)
#print axioms clusterRefuses_card
end
end Go.Proofs.YtmhifeahpnkpiaaGreatDoor
