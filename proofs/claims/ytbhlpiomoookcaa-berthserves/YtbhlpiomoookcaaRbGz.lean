/- The document's answer's ServedBy. -/
import Derived.Test.YtbhlpiomoookcaaRbCE
import Derived.Test.YtbhlpiomoookcaaBeAll
import Derived.Test.YtbhlpiomoookcaaPkG
import Derived.Test.YtbhlpiomoookcaaLqAz
namespace Go.Proofs.Ytbhlpiomoookcaa
open Go.RowKit
theorem ret_ServedBy {W : World} {R A : Nat} {r e f t o : Int} {a : Option Addr} {n c : Nat} {cc he no bd er : Int} {ch : Bool} {tmps : Array Value} (d : bBlock W R r e f t o a n c) (h : ansBlock W A cc he no bd) (t4 : tmps[4]? = some (.pointer (some ⟨R, 0, none⟩))) (t5 : tmps[5]? = some (.pointer (some ⟨A, 0, none⟩))) (t6 : tmps[6]? = some (.bool ch)) (t7 : tmps[7]? = some (.int .i64 er)) :
    (results Try.f24 tmps).run Try.prog W = .ok (.tuple #[bVal r e f t o a n c, ansVal cc he no bd, .bool ch, .int .i64 er]) W := by
  have h2 := run_loadVar_row (P := Try.prog) W A 37 37 _ (0, 0) _ h Try.underlying37 rfl (by kernel_rfl)
  simp [results, Try.results24, t4, t5, t6, t7, asAddr, load_berth d, h2]
/-- both answers stored; what lies further on is as it was. -/
theorem Sr.stored2 {w wx : World} {B : Bt} {a : Option Addr} {c : Nat} {v : Ev} (h : Sr w wx B a c v) (r' e' f' t' o' : Int) (a' : Option Addr) (n' c' : Nat) (cc he no bd : Int) :
    ∃ W, W = ((((((((((wx.setCell ⟨w.heap.size + 2, 0, none⟩ (.int .i64 r')).setCell ⟨w.heap.size + 2, 1, none⟩ (.int .i64 e')).setCell ⟨w.heap.size + 2, 2, none⟩ (.int .i64 f')).setCell ⟨w.heap.size + 2, 3, none⟩ (.int .i64 t')).setCell ⟨w.heap.size + 2, 4, none⟩ (.int .i64 o')).setCell ⟨w.heap.size + 2, 5, none⟩ (.slice a' n' c')).setCell ⟨w.heap.size + 3, 0, none⟩ (.int .i64 cc)).setCell ⟨w.heap.size + 3, 1, none⟩ (.int .i64 he)).setCell ⟨w.heap.size + 3, 2, none⟩ (.int .i64 no)).setCell ⟨w.heap.size + 3, 3, none⟩ (.int .i64 bd)) ∧ bBlock W (w.heap.size + 2) r' e' f' t' o' a' n' c' ∧ ansBlock W (w.heap.size + 3) cc he no bd ∧ Below w.heap.size w W ∧ (∀ {b : Option Addr} {n : Nat} {l : List Int}, RowK .i64 wx b n l → (∀ x, b = some x → w.heap.size + 3 < x.block) → RowK .i64 W b n l) := by
  obtain ⟨W1, hW1, d1, b1, t1⟩ := b_stored h.z h.bel (show w.heap.size ≤ w.heap.size + 2 by omega) r' e' f' t' o' a' n' c'
  have y1 := h.y.turned t1 (by omega)
  obtain ⟨W2, hW2, d2, b2, t2⟩ := a_stored y1 b1 (show w.heap.size ≤ w.heap.size + 3 by omega) cc he no bd
  refine ⟨W2, ?_, d1.turned t2 (by omega), d2, b2, fun hr hx => t2.row (t1.row hr (fun x h' _ => by have := hx x h'; omega)) (fun x h' _ => by have := hx x h'; omega)⟩
  rw [hW2, hW1]
theorem bx_made2 {W5 W6 W7 : World} {s : St} {a1 : Option Addr} {c1 : Nat} {a2 : Option Addr} {c2 : Nat} {ws : Nat → Value} (r1 : RowK .i64 W5 a1 (2 * s.rn) s.R) (r2 : RowK .i64 W5 a2 (4 * s.ln) s.L) (n1 : a1 = none → c1 = 0) (n2 : a2 = none → c2 = 0) (hW : Wins ws s.wt s.wz)
    (b6 : Below W5.heap.size W5 W6) (q7 : qBlock W7 W5.heap.size s.ep s.nx s.gv (.slice a1 s.rn c1) (.slice a2 s.ln c2) ws) (t7 : Turned W5.heap.size W6 W7) :
    Bx W7 W5.heap.size s a1 c1 a2 c2 ws ∧ Below W5.heap.size W5 W7 :=
  ⟨⟨q7, t7.row (r1.below b6) (fun x hx h0 => by have := r1.blk_lt x hx h0; omega), t7.row (r2.below b6) (fun x hx h0 => by have := r2.blk_lt x hx h0; omega), n1, n2, hW⟩, t7.under b6 (Nat.le_refl _)⟩
theorem Sr.keep {w wx wy : World} {B : Bt} {a : Option Addr} {c base : Nat} {v : Ev} (h : Sr w wx B a c v) (k : ∀ Y, Y < base → wy.heap[Y]? = wx.heap[Y]?) (hb : w.heap.size + 3 < base) (bel : Below w.heap.size w wy) : Sr w wy B a c v :=
  ⟨(k _ (by omega)).trans h.b, (k _ (by omega)).trans h.e, (k _ (by omega)).trans h.z, (k _ (by omega)).trans h.y, bel⟩
/-- what stands while the last region goes on. -/
def S19 (X A : Nat) (r e f t o : Int) (a : Option Addr) (n c : Nat) (an : An) (w : World) : Prop := bBlock w X r e f t o a n c ∧ ansBlock w A an.c an.he an.no an.bd
theorem S19.turned {X A R : Nat} {r e f t o : Int} {a : Option Addr} {n c : Nat} {an : An} {w w' : World} (h : S19 X A r e f t o a n c an w) (T : Turned R w w') (hX : X ≠ R) (hA : A ≠ R) : S19 X A r e f t o a n c an w' := ⟨h.1.turned T hX, h.2.turned T hA⟩
/-- what ServedBy answers. -/
def SvO (B : Bt) (v : Ev) (w : World) (x : Ending) (w' : World) : Prop := ∃ y an ch er B', x = .returned (.tuple #[y, anOf an, .bool ch, .int .i64 er]) ∧ ServeR B v B' an ch er ∧ BOut w w' B' y ∧ Below w.heap.size w w'
theorem SvO.of {B B' : Bt} {v : Ev} {w w' : World} {x : Ending} (y : Value) (an : An) (ch : Bool) (er : Int) (hx : x = .returned (.tuple #[y, anOf an, .bool ch, .int .i64 er])) (sv : ServeR B v B' an ch er) (bo : BOut w w' B' y) (b : Below w.heap.size w w') : SvO B v w x w' := ⟨y, an, ch, er, B', hx, sv, bo, b⟩
theorem ServeR.det {B B1 B2 : Bt} {v : Ev} {a1 a2 : An} {c1 c2 : Bool} {e1 e2 : Int} (x : ServeR B v B1 a1 c1 e1) (y : ServeR B v B2 a2 c2 e2) : B1 = B2 ∧ a1 = a2 ∧ c1 = c2 ∧ e1 = e2 := by
  have one : ∀ {s1 s2 t1 t2 : St} {n1 n2 : List An} {b1 b2 : An} {d1 d2 : Bool}, Tells B.es s1 n1 → Tells B.es s2 n2 → Step s1 v t1 b1 d1 → Step s2 v t2 b2 d2 → b1 = b2 ∧ d1 = d2 := by
    intro s1 s2 t1 t2 n1 n2 b1 b2 d1 d2 h1 h2 k1 k2
    obtain ⟨rfl, _⟩ := h1.one h2
    obtain ⟨_, e1, e2⟩ := Step.det h1.wf k1 k2
    exact ⟨e1, e2⟩
  cases x with
  | state h1 =>
    cases y with
    | state h2 => exact ⟨rfl, rfl, rfl, rfl⟩
    | fault h2 f2 hf2 h02 => exact absurd h2 h1
    | brk h2 hv2 hk2 => exact absurd h2 h1
    | shut h2 hv2 hk2 hr2 => exact absurd h2 h1
    | none h2 hv2 hk2 hr2 => exact absurd h2 h1
    | same h2 hv2 hk2 hr2 s2 n2 ht2 t2 b2 st2 => exact absurd h2 h1
    | full h2 hv2 hk2 hr2 s2 n2 ht2 t2 b2 st2 hl2 => exact absurd h2 h1
    | done h2 hv2 hk2 hr2 s2 n2 ht2 t2 b2 st2 hl2 => exact absurd h2 h1
  | fault h1 f1 hf1 h01 =>
    cases y with
    | state h2 => exact absurd h1 h2
    | fault h2 f2 hf2 h02 => exact ⟨rfl, rfl, rfl, hf1.symm.trans hf2⟩
    | brk h2 hv2 hk2 => exact absurd (hf1.symm.trans hv2) h01
    | shut h2 hv2 hk2 hr2 => exact absurd (hf1.symm.trans hv2) h01
    | none h2 hv2 hk2 hr2 => exact absurd (hf1.symm.trans hv2) h01
    | same h2 hv2 hk2 hr2 s2 n2 ht2 t2 b2 st2 => exact absurd (hf1.symm.trans hv2) h01
    | full h2 hv2 hk2 hr2 s2 n2 ht2 t2 b2 st2 hl2 => exact absurd (hf1.symm.trans hv2) h01
    | done h2 hv2 hk2 hr2 s2 n2 ht2 t2 b2 st2 hl2 => exact absurd (hf1.symm.trans hv2) h01
  | brk h1 hv1 hk1 =>
    cases y with
    | state h2 => exact absurd h1 h2
    | fault h2 f2 hf2 h02 => exact absurd (hf2.symm.trans hv1) h02
    | brk h2 hv2 hk2 => exact ⟨rfl, rfl, rfl, rfl⟩
    | shut h2 hv2 hk2 hr2 => exact absurd hk1 hk2
    | none h2 hv2 hk2 hr2 => exact absurd hk1 hk2
    | same h2 hv2 hk2 hr2 s2 n2 ht2 t2 b2 st2 => exact absurd hk1 hk2
    | full h2 hv2 hk2 hr2 s2 n2 ht2 t2 b2 st2 hl2 => exact absurd hk1 hk2
    | done h2 hv2 hk2 hr2 s2 n2 ht2 t2 b2 st2 hl2 => exact absurd hk1 hk2
  | shut h1 hv1 hk1 hr1 =>
    cases y with
    | state h2 => exact absurd h1 h2
    | fault h2 f2 hf2 h02 => exact absurd (hf2.symm.trans hv1) h02
    | brk h2 hv2 hk2 => exact absurd hk2 hk1
    | shut h2 hv2 hk2 hr2 => exact ⟨rfl, rfl, rfl, rfl⟩
    | none h2 hv2 hk2 hr2 => exfalso; omega
    | same h2 hv2 hk2 hr2 s2 n2 ht2 t2 b2 st2 => exfalso; omega
    | full h2 hv2 hk2 hr2 s2 n2 ht2 t2 b2 st2 hl2 => exfalso; omega
    | done h2 hv2 hk2 hr2 s2 n2 ht2 t2 b2 st2 hl2 => exfalso; omega
  | none h1 hv1 hk1 hr1 =>
    cases y with
    | state h2 => exact absurd h1 h2
    | fault h2 f2 hf2 h02 => exact absurd (hf2.symm.trans hv1) h02
    | brk h2 hv2 hk2 => exact absurd hk2 hk1
    | shut h2 hv2 hk2 hr2 => exfalso; omega
    | none h2 hv2 hk2 hr2 => exact ⟨rfl, rfl, rfl, rfl⟩
    | same h2 hv2 hk2 hr2 s2 n2 ht2 t2 b2 st2 => exfalso; omega
    | full h2 hv2 hk2 hr2 s2 n2 ht2 t2 b2 st2 hl2 => exfalso; omega
    | done h2 hv2 hk2 hr2 s2 n2 ht2 t2 b2 st2 hl2 => exfalso; omega
  | same h1 hv1 hk1 hr1 s1 n1 ht1 t1 b1 st1 =>
    cases y with
    | state h2 => exact absurd h1 h2
    | fault h2 f2 hf2 h02 => exact absurd (hf2.symm.trans hv1) h02
    | brk h2 hv2 hk2 => exact absurd hk2 hk1
    | shut h2 hv2 hk2 hr2 => exfalso; omega
    | none h2 hv2 hk2 hr2 => exfalso; omega
    | same h2 hv2 hk2 hr2 s2 n2 ht2 t2 b2 st2 => obtain ⟨rfl, _⟩ := one ht1 ht2 st1 st2; exact ⟨rfl, rfl, rfl, rfl⟩
    | full h2 hv2 hk2 hr2 s2 n2 ht2 t2 b2 st2 hl2 => exact absurd (one ht1 ht2 st1 st2).2 (by decide)
    | done h2 hv2 hk2 hr2 s2 n2 ht2 t2 b2 st2 hl2 => exact absurd (one ht1 ht2 st1 st2).2 (by decide)
  | full h1 hv1 hk1 hr1 s1 n1 ht1 t1 b1 st1 hl1 =>
    cases y with
    | state h2 => exact absurd h1 h2
    | fault h2 f2 hf2 h02 => exact absurd (hf2.symm.trans hv1) h02
    | brk h2 hv2 hk2 => exact absurd hk2 hk1
    | shut h2 hv2 hk2 hr2 => exfalso; omega
    | none h2 hv2 hk2 hr2 => exfalso; omega
    | same h2 hv2 hk2 hr2 s2 n2 ht2 t2 b2 st2 => exact absurd (one ht1 ht2 st1 st2).2 (by decide)
    | full h2 hv2 hk2 hr2 s2 n2 ht2 t2 b2 st2 hl2 => exact ⟨rfl, rfl, rfl, rfl⟩
    | done h2 hv2 hk2 hr2 s2 n2 ht2 t2 b2 st2 hl2 => exfalso; omega
  | done h1 hv1 hk1 hr1 s1 n1 ht1 t1 b1 st1 hl1 =>
    cases y with
    | state h2 => exact absurd h1 h2
    | fault h2 f2 hf2 h02 => exact absurd (hf2.symm.trans hv1) h02
    | brk h2 hv2 hk2 => exact absurd hk2 hk1
    | shut h2 hv2 hk2 hr2 => exfalso; omega
    | none h2 hv2 hk2 hr2 => exfalso; omega
    | same h2 hv2 hk2 hr2 s2 n2 ht2 t2 b2 st2 => exact absurd (one ht1 ht2 st1 st2).2 (by decide)
    | full h2 hv2 hk2 hr2 s2 n2 ht2 t2 b2 st2 hl2 => exfalso; omega
    | done h2 hv2 hk2 hr2 s2 n2 ht2 t2 b2 st2 hl2 => obtain ⟨rfl, _⟩ := one ht1 ht2 st1 st2; exact ⟨rfl, rfl, rfl, rfl⟩
set_option maxRecDepth 20000 in
set_option maxHeartbeats 8000000 in
theorem servedBy_any (B : Bt) (a : Option Addr) (c : Nat) (v : Ev) (w : World) (hb : BIn w B a c) (hvw : ∀ u ∈ evCells v, (Lit.int .i64 u).wf = true) (hs : B.es.length * 48 ≤ 140737488351232) : Calls Try.prog 24 #[bVal B.r B.e B.f B.t B.o a B.es.length c, evIn v] w fun x w' => SvO B v w x w' := by
  obtain ⟨i6, hi6, hz60, hz61, hz62⟩ := info_of Try.infoEvent
  by_cases ok : B.Ok
  case neg =>
    go_enter Try.func24, Try.ntmps24
    go_upto_region 1 with fail
    obtain ⟨W1, hW1, S1⟩ := Sr.made w B a c v
    rw [← hW1]
    clear hW1
    have HC := veil (faultB_no B a c W1 (hb.next S1.bel) ok)
    obtain ⟨x0, x1, x2, x3, x4, x5⟩ := S1.b.cells
    have HS := veil S1
    clear S1
    go_upto_region 2 with (go_at_call 22; refine (unveil HC).mono ?_; rintro x W2 ⟨rfl, b2⟩; clear HC x0 x1 x2 x3 x4 x5; have S2 := (unveil HS).next b2; clear HS; have HS := veil S2; clear S2 b2)
    obtain ⟨z0, z1, z2, z3, z4, z5⟩ := (unveil HS).z.cells
    have zf := (unveil HS).z.free
    obtain ⟨y0, y1, y2, y3⟩ := (unveil HS).y.cells
    have yf := (unveil HS).y.free
    go_wp2
    obtain ⟨W9, hW9, d9, y9, b9⟩ := Sr.stored (unveil HS) 0 0 0 0 0 none 0 0 0 0 0 0
    rw [← hW9]
    exact bodyPost_ret (ret_ServedBy d9 y9 rfl rfl rfl rfl) rfl (SvO.of (B' := Bt.zero) _ An.zero false 6 rfl (.state ok) (BOut.zero _ _) b9)
  case pos =>
  have HE : ∀ w, Calls Try.prog 42 #[evIn v] w fun e w' => e = .returned (.int .i64 (eventFault v.k v.p v.i v.b v.he v.hn)) ∧ Below w.heap.size w w' := fun w => fault_any v.k v.p v.i v.b v.he v.hn w
  obtain ⟨f, hf⟩ : ∃ f, eventFault v.k v.p v.i v.b v.he v.hn = f := ⟨_, rfl⟩
  rw [hf] at HE
  have HF := veil hf
  by_cases h0 : f = 0
  case neg =>
    clear hf
    go_enter Try.func24, Try.ntmps24
    go_upto_region 1 with fail
    obtain ⟨W1, hW1, S1⟩ := Sr.made w B a c v
    rw [← hW1]
    clear hW1
    have HC := veil (faultB_yes B a c W1 (hb.next S1.bel) ok)
    obtain ⟨x0, x1, x2, x3, x4, x5⟩ := S1.b.cells
    have HS := veil S1
    clear S1
    go_upto_region 2 with (go_at_call 22; refine (unveil HC).mono ?_; rintro x W2 ⟨rfl, b2⟩; clear HC x0 x1 x2 x3 x4 x5; have S2 := (unveil HS).next b2; clear HS; have HS := veil S2; clear S2 b2)
    have v0 : W2.cell? ⟨w.heap.size + 1, 0, none⟩ = some (.int .i64 v.k) := by simp [World.cell?, (unveil HS).e]
    have v1 : W2.cell? ⟨w.heap.size + 1, 1, none⟩ = some (.int .i64 v.p) := by simp [World.cell?, (unveil HS).e]
    have v2 : W2.cell? ⟨w.heap.size + 1, 2, none⟩ = some (.int .i64 v.i) := by simp [World.cell?, (unveil HS).e]
    have v3 : W2.cell? ⟨w.heap.size + 1, 3, none⟩ = some (.int .i64 v.b) := by simp [World.cell?, (unveil HS).e]
    have v4 : W2.cell? ⟨w.heap.size + 1, 4, none⟩ = some (.int .i64 v.he) := by simp [World.cell?, (unveil HS).e]
    have v5 : W2.cell? ⟨w.heap.size + 1, 5, none⟩ = some (.int .i64 v.hn) := by simp [World.cell?, (unveil HS).e]
    go_upto_region 4 with (go_at_call 42; refine (HE _).mono ?_; rintro x W3 ⟨rfl, b3⟩; clear HE v0 v1 v2 v3 v4 v5; have S3 := (unveil HS).next b3; clear HS; have HS := veil S3; clear S3 b3)
    obtain ⟨z0, z1, z2, z3, z4, z5⟩ := (unveil HS).z.cells
    have zf := (unveil HS).z.free
    obtain ⟨y0, y1, y2, y3⟩ := (unveil HS).y.cells
    have yf := (unveil HS).y.free
    have v0 : W3.cell? ⟨w.heap.size + 1, 0, none⟩ = some (.int .i64 v.k) := by simp [World.cell?, (unveil HS).e]
    go_wp2
    obtain ⟨W9, hW9, d9, y9, b9⟩ := Sr.stored (unveil HS) 0 0 0 0 0 none 0 0 0 0 0 0
    rw [← hW9]
    exact bodyPost_ret (ret_ServedBy d9 y9 rfl rfl rfl rfl) rfl (SvO.of (B' := Bt.zero) _ An.zero false f rfl (.fault ok f (unveil HF) h0) (BOut.zero _ _) b9)
  case pos =>
  subst h0
  have hv : v.Ok := hf
  have HV := veil hv
  clear hf hv
  by_cases hk : v.k = 4
  case pos =>
    have HK := veil hk
    clear hk
    go_enter Try.func24, Try.ntmps24
    go_upto_region 1 with fail
    obtain ⟨W1, hW1, S1⟩ := Sr.made w B a c v
    rw [← hW1]
    clear hW1
    have HC := veil (faultB_yes B a c W1 (hb.next S1.bel) ok)
    obtain ⟨x0, x1, x2, x3, x4, x5⟩ := S1.b.cells
    have HS := veil S1
    clear S1
    go_upto_region 2 with (go_at_call 22; refine (unveil HC).mono ?_; rintro x W2 ⟨rfl, b2⟩; clear HC x0 x1 x2 x3 x4 x5; have S2 := (unveil HS).next b2; clear HS; have HS := veil S2; clear S2 b2)
    have v0 : W2.cell? ⟨w.heap.size + 1, 0, none⟩ = some (.int .i64 v.k) := by simp [World.cell?, (unveil HS).e]
    have v1 : W2.cell? ⟨w.heap.size + 1, 1, none⟩ = some (.int .i64 v.p) := by simp [World.cell?, (unveil HS).e]
    have v2 : W2.cell? ⟨w.heap.size + 1, 2, none⟩ = some (.int .i64 v.i) := by simp [World.cell?, (unveil HS).e]
    have v3 : W2.cell? ⟨w.heap.size + 1, 3, none⟩ = some (.int .i64 v.b) := by simp [World.cell?, (unveil HS).e]
    have v4 : W2.cell? ⟨w.heap.size + 1, 4, none⟩ = some (.int .i64 v.he) := by simp [World.cell?, (unveil HS).e]
    have v5 : W2.cell? ⟨w.heap.size + 1, 5, none⟩ = some (.int .i64 v.hn) := by simp [World.cell?, (unveil HS).e]
    go_upto_region 4 with (go_at_call 42; refine (HE _).mono ?_; rintro x W3 ⟨rfl, b3⟩; clear HE v0 v1 v2 v3 v4 v5; have S3 := (unveil HS).next b3; clear HS; have HS := veil S3; clear S3 b3)
    obtain ⟨z0, z1, z2, z3, z4, z5⟩ := (unveil HS).z.cells
    have zf := (unveil HS).z.free
    obtain ⟨y0, y1, y2, y3⟩ := (unveil HS).y.cells
    have yf := (unveil HS).y.free
    have v0 : W3.cell? ⟨w.heap.size + 1, 0, none⟩ = some (.int .i64 4) := by simp [World.cell?, (unveil HS).e, unveil HK]
    go_wp2
    obtain ⟨W9, hW9, d9, y9, b9⟩ := Sr.stored (unveil HS) 0 0 0 0 0 none 0 0 0 0 0 0
    rw [← hW9]
    exact bodyPost_ret (ret_ServedBy d9 y9 rfl rfl rfl rfl) rfl (SvO.of (B' := Bt.zero) _ An.zero false 3 rfl (.brk ok (unveil HV) (unveil HK)) (BOut.zero _ _) b9)
  case neg =>
  have hkb : (v.k == 4) = false := by simp [hk]
  have HK := veil hk
  clear hk
  go_enter Try.func24, Try.ntmps24
  go_upto_region 1 with fail
  obtain ⟨W1, hW1, S1⟩ := Sr.made w B a c v
  rw [← hW1]
  clear hW1
  have HC := veil (faultB_yes B a c W1 (hb.next S1.bel) ok)
  obtain ⟨x0, x1, x2, x3, x4, x5⟩ := S1.b.cells
  have HS := veil S1
  clear S1
  go_upto_region 2 with (go_at_call 22; refine (unveil HC).mono ?_; rintro x W2 ⟨rfl, b2⟩; clear HC x0 x1 x2 x3 x4 x5; have S2 := (unveil HS).next b2; clear HS; have HS := veil S2; clear S2 b2)
  have v0 : W2.cell? ⟨w.heap.size + 1, 0, none⟩ = some (.int .i64 v.k) := by simp [World.cell?, (unveil HS).e]
  have v1 : W2.cell? ⟨w.heap.size + 1, 1, none⟩ = some (.int .i64 v.p) := by simp [World.cell?, (unveil HS).e]
  have v2 : W2.cell? ⟨w.heap.size + 1, 2, none⟩ = some (.int .i64 v.i) := by simp [World.cell?, (unveil HS).e]
  have v3 : W2.cell? ⟨w.heap.size + 1, 3, none⟩ = some (.int .i64 v.b) := by simp [World.cell?, (unveil HS).e]
  have v4 : W2.cell? ⟨w.heap.size + 1, 4, none⟩ = some (.int .i64 v.he) := by simp [World.cell?, (unveil HS).e]
  have v5 : W2.cell? ⟨w.heap.size + 1, 5, none⟩ = some (.int .i64 v.hn) := by simp [World.cell?, (unveil HS).e]
  go_upto_region 4 with (go_at_call 42; refine (HE _).mono ?_; rintro x W3 ⟨rfl, b3⟩; clear HE v0 v1 v2 v3 v4 v5; have S3 := (unveil HS).next b3; clear HS; have HS := veil S3; clear S3 b3)
  have v0 : W3.cell? ⟨w.heap.size + 1, 0, none⟩ = some (.int .i64 v.k) := by simp [World.cell?, (unveil HS).e]
  go_upto_region 8 with fail
  clear v0
  obtain ⟨x0, x1, x2, x3, x4, x5⟩ := (unveil HS).b.cells
  have HCp := veil (bcopy_own B a c W3 (hb.next (unveil HS).bel) hs)
  have hWf := veil hb.row.wf
  have hS3 := (unveil HS).y.lt
  go_upto_region 9 with (go_at_call 50; refine (unveil HCp).mono ?_; rintro x W4 ⟨a4, c4, rfl, o4, i4, f4, b4⟩; have S4 := (unveil HS).next b4; have hb4 := b4.size; clear HCp x0 x1 x2 x3 x4 x5 HS; have HS := veil S4; have HO4 := veil o4; clear S4 o4 i4 f4 b4)
  obtain ⟨W5, hW5, d5, b5⟩ : ∃ W, W = W4.alloc (.cells (bCells B.r B.e B.f B.t B.o a4 B.es.length c4) 49) ∧ bBlock W W4.heap.size B.r B.e B.f B.t B.o a4 B.es.length c4 ∧ Below W4.heap.size W4 W := ⟨_, rfl, bBlock.new _ _ _ _ _ _ _ _ _, below1 _ _⟩
  rw [← hW5]
  clear hW5
  have S5 := (unveil HS).next b5
  have O5 : Ob w W5 W4.heap.size W3.heap.size B.es B.r B.e B.f B.t B.o a4 c4 := ⟨d5, own_still (unveil HO4) (fun g _ hg => b5.block g hg), by omega, hb4⟩
  obtain ⟨X, hX⟩ : ∃ X, X = W4.heap.size := ⟨_, rfl⟩
  rw [← hX] at O5 hb4 ⊢
  clear hX d5 HS HO4 b5
  have HS := veil S5
  have HO5 := veil O5
  clear S5 O5
  obtain ⟨x0, x1, x2, x3, x4, x5⟩ := (unveil HS).b.cells
  obtain ⟨y6, y7, y8, y9, y10, y11⟩ := (unveil HO5).b.cells
  have hst : B.r = 3 ∨ (¬ B.r = 3 ∧ B.r = 0) ∨ (¬ B.r = 3 ∧ ¬ B.r = 0 ∧ B.r = 4) ∨ (¬ B.r = 3 ∧ ¬ B.r = 0 ∧ ¬ B.r = 4 ∧ (B.r = 1 ∨ B.r = 2)) := by
    have := ok.stand
    unfold Bt.Stand standP at this
    omega
  have HOK := veil ok
  have HRow : Hid (∀ W, Below w.heap.size w W → RowK .i64 W a (6 * B.es.length) (evFlat B.es)) := veil fun W b => hb.row.below b
  clear ok hb
  rcases hst with hr | ⟨hr3, hr⟩ | ⟨hr3, hr0, hr⟩ | ⟨hr3, hr0, hr4, hr⟩
  · obtain ⟨z0, z1, z2, z3, z4, z5⟩ := (unveil HS).z.cells
    have zf := (unveil HS).z.free
    obtain ⟨y0, y1, y2, y3⟩ := (unveil HS).y.cells
    have yf := (unveil HS).y.free
    have HR := veil hr
    go_wp2
    obtain ⟨r5, l5, n5, f5⟩ := (unveil HO5).row (unveil hWf)
    obtain ⟨W9, hW9, d9, y9, b9, T9⟩ := Sr.stored2 (unveil HS) B.r B.e B.f B.t B.o a4 B.es.length c4 12 0 0 0
    first | rw [← hW9] | (rw [unveil HR] at hW9; rw [← hW9])
    exact bodyPost_ret (ret_ServedBy d9 y9 rfl rfl rfl rfl) rfl (SvO.of (B' := B) _ ⟨12, 0, 0, 0⟩ false 0 (by first | rfl | simp [unveil HR]) (.shut (unveil HOK) (unveil HV) (unveil HK) hr) ⟨a4, c4, rfl, ⟨T9 r5 (fun x hx => by have := f5 x hx; omega), l5, n5⟩, fun x hx => by have := f5 x hx; omega⟩ b9)
  · obtain ⟨z0, z1, z2, z3, z4, z5⟩ := (unveil HS).z.cells
    have zf := (unveil HS).z.free
    obtain ⟨y0, y1, y2, y3⟩ := (unveil HS).y.cells
    have yf := (unveil HS).y.free
    have HR := veil hr
    go_wp2
    obtain ⟨r5, l5, n5, f5⟩ := (unveil HO5).row (unveil hWf)
    obtain ⟨W9, hW9, d9, y9, b9, T9⟩ := Sr.stored2 (unveil HS) B.r B.e B.f B.t B.o a4 B.es.length c4 7 0 0 0
    first | rw [← hW9] | (rw [unveil HR] at hW9; rw [← hW9])
    exact bodyPost_ret (ret_ServedBy d9 y9 rfl rfl rfl rfl) rfl (SvO.of (B' := B) _ ⟨7, 0, 0, 0⟩ false 0 (by first | rfl | simp [unveil HR]) (.none (unveil HOK) (unveil HV) (unveil HK) (.inl hr)) ⟨a4, c4, rfl, ⟨T9 r5 (fun x hx => by have := f5 x hx; omega), l5, n5⟩, fun x hx => by have := f5 x hx; omega⟩ b9)
  · obtain ⟨z0, z1, z2, z3, z4, z5⟩ := (unveil HS).z.cells
    have zf := (unveil HS).z.free
    obtain ⟨y0, y1, y2, y3⟩ := (unveil HS).y.cells
    have yf := (unveil HS).y.free
    have HR := veil hr
    go_wp2
    obtain ⟨r5, l5, n5, f5⟩ := (unveil HO5).row (unveil hWf)
    obtain ⟨W9, hW9, d9, y9, b9, T9⟩ := Sr.stored2 (unveil HS) B.r B.e B.f B.t B.o a4 B.es.length c4 7 0 0 0
    first | rw [← hW9] | (rw [unveil HR] at hW9; rw [← hW9])
    exact bodyPost_ret (ret_ServedBy d9 y9 rfl rfl rfl rfl) rfl (SvO.of (B' := B) _ ⟨7, 0, 0, 0⟩ false 0 (by first | rfl | simp [unveil HR]) (.none (unveil HOK) (unveil HV) (unveil HK) (.inr hr)) ⟨a4, c4, rfl, ⟨T9 r5 (fun x hx => by have := f5 x hx; omega), l5, n5⟩, fun x hx => by have := f5 x hx; omega⟩ b9)
  · have h3b : (B.r == 3) = false := by simp [hr3]
    have h0b : (B.r == 0) = false := by simp [hr0]
    have h4b : (B.r == 4) = false := by simp [hr4]
    have HR := veil hr
    clear hr hr3 hr0 hr4
    obtain ⟨s, ans, ht⟩ := (unveil HOK).told
    have hlen := (unveil HOK).len
    have hwf := ht.wf
    have HT := veil ht
    have HRp := veil (replayedOf_any B.es a c W5 (unveil HRow W5 (unveil HS).bel))
    have hX5 := (unveil HO5).lt
    have hA5 := (unveil HS).y.lt
    go_upto_region 13 with fail
    go_upto_region 14 with (first | (go_at_call 18; refine (unveil HRp).mono ?_; rintro x W6 ⟨q6, er6, s6, rfl, rv, ⟨⟨p1, d1, p2, d2, ws, rfl, t1, t2, _, _, m1, m2, hW, _, _⟩⟩, b6⟩; obtain ⟨rfl, rfl⟩ := rv.one (.told ans hlen (unveil HT)); clear HRp rv x0 x1 x2 x3 x4 x5 y6 y7 y8 y9 y10 y11) | (refine q_alloc 10 rfl rfl rfl ?_; intro W7 z7 b7) | (refine q_store (ra := p1) (la := p2) (ws' := ws) _ _ rfl rfl rfl rfl z7 hW ?_; intro W8 q8 t8; obtain ⟨X8, b8⟩ := bx_made2 t1 t2 m1 m2 hW b7 q8 t8; have B8 := Below.next b6 b8; have S8 := (unveil HS).next B8; have O8 := (unveil HO5).next B8; clear HS HO5; have HS := veil S8; have HO5 := veil O8; have HX8 := veil X8; have hs8 := B8.size; clear z7 b7 q8 t8 X8 b8 B8 S8 O8 t1 t2 b6))
    have q8 := (unveil HX8).q
    have HDq := veil (queueDone_any s6 p1 p2 d1 d2 ws v W8 (unveil HX8).r1 (unveil HX8).r2 hW hwf.ok)
    have v0 : W8.cell? ⟨w.heap.size + 1, 0, none⟩ = some (.int .i64 v.k) := by simp [World.cell?, (unveil HS).e]
    have v1 : W8.cell? ⟨w.heap.size + 1, 1, none⟩ = some (.int .i64 v.p) := by simp [World.cell?, (unveil HS).e]
    have v2 : W8.cell? ⟨w.heap.size + 1, 2, none⟩ = some (.int .i64 v.i) := by simp [World.cell?, (unveil HS).e]
    have v3 : W8.cell? ⟨w.heap.size + 1, 3, none⟩ = some (.int .i64 v.b) := by simp [World.cell?, (unveil HS).e]
    have v4 : W8.cell? ⟨w.heap.size + 1, 4, none⟩ = some (.int .i64 v.he) := by simp [World.cell?, (unveil HS).e]
    have v5 : W8.cell? ⟨w.heap.size + 1, 5, none⟩ = some (.int .i64 v.hn) := by simp [World.cell?, (unveil HS).e]
    go_upto_region 15 with (first | (refine q_loads _ rfl rfl rfl q8 ?_) | (go_at_call 14; refine (unveil HDq).mono ?_; rintro e Wa ⟨sa, an, ch, er, xa, rfl, da, ⟨⟨pa, ia, oa, ja, ua, rfl, ra', ta, _, _, ma, na, wa, _, _⟩⟩, ba⟩; have HDa := veil da; clear HDq da q8 v0 v1 v2 v3 v4 v5) | (refine q_alloc 12 rfl rfl rfl ?_; intro Wb zb bb; have hWb := zb.lt; have zzb := zb.next (below1 Wb (.cells #[.int .i64 0, .int .i64 0, .int .i64 0, .int .i64 0] 37)); have yb := ansBlock.new Wb 0 0 0 0; clear zb) | (refine q_store (ra := pa) (la := oa) (ws' := ua) _ _ rfl rfl rfl rfl zzb wa ?_; intro Wc qc tc; have yc := yb.turned tc (by omega); obtain ⟨k0, k1, k2, k3⟩ := yc.cells; have kf := yc.free; clear yb yc zzb))
    obtain ⟨Wd, hWd, Xd, yA, bd⟩ := dq_made an.c an.he an.no an.bd ra' ta ma na wa hWb bb qc tc
    rw [← hWd]
    have Bd := Below.next ba bd
    have Sd := (unveil HS).next Bd
    have Od := (unveil HO5).next Bd
    clear HS HO5
    have HS := veil Sd
    have HO5 := veil Od
    have hsd := ba.size
    obtain ⟨A, hA⟩ : ∃ A, A = Wb.heap.size := ⟨_, rfl⟩
    rw [← hA] at yA hWb ⊢
    have hXd := Od.lt
    clear hWd Xd bd Bd Sd Od ra' ta qc tc bb ba k0 k1 k2 k3 kf hA HX8
    have hstep : er = 0 ∧ Step s6 v sa an ch := by
      cases unveil HDa with
      | step hv st => exact ⟨rfl, st⟩
      | form _ hv h0 => exact absurd (hv.symm.trans (unveil HV)) h0
    obtain ⟨rfl, st⟩ := hstep
    have HST := veil st
    clear st HDa
    obtain ⟨x0, x1, x2, x3, x4, x5⟩ := (unveil HS).b.cells
    cases ch
    case false =>
      have dX := (unveil HO5).b
      obtain ⟨rX, lX, nX, fX⟩ := (unveil HO5).row (unveil hWf)
      go_upto_region 19 with fail
      have D := (unveil HS).next (below_drew Wd)
      have S0 : S19 X A B.r B.e B.f B.t B.o a4 B.es.length c4 an Wd.drew := ⟨dX.next (below_drew Wd), yA.next (below_drew Wd)⟩
      refine wp_region_held_drew (S := S19 X A B.r B.e B.f B.t B.o a4 B.es.length c4 an) (by kernel_rfl) S0 (fun hHeld => ?_)
      refine wpAnyH_take (i := 0) (v := bVal B.r B.e B.f B.t B.o a4 B.es.length c4) rfl (by kernel_rfl) (by kernel_rfl) (by kernel_rfl) (fun _ _ _ h => h) (Or.inl ⟨by rfl, fun w3 h3 => by obtain ⟨k0, k1, k2, k3, k4, k5⟩ := h3.1.cells; go_simp⟩) hHeld ?_
      simp only [List.getElem_toArray, List.getElem_cons_zero, Act.put, List.setIfInBounds_toArray, List.set_cons_zero, List.set_cons_succ]
      refine wpAnyH_take (i := 1) (v := ansVal an.c an.he an.no an.bd) rfl (by kernel_rfl) (by kernel_rfl) (by kernel_rfl) (fun _ _ _ h => h) (Or.inl ⟨by rfl, fun w3 h3 => by obtain ⟨k0, k1, k2, k3⟩ := h3.2.cells; go_simp⟩) hHeld ?_
      simp only [List.getElem_toArray, List.getElem_cons_zero, List.getElem_cons_succ, Act.put, List.setIfInBounds_toArray, List.set_cons_zero, List.set_cons_succ]
      refine wpAnyH_take (i := 2) (v := .bool false) rfl (by kernel_rfl) (by kernel_rfl) (by kernel_rfl) (fun _ _ _ h => h) (Or.inl ⟨by rfl, fun _ _ => by go_simp⟩) hHeld ?_
      simp only [List.getElem_toArray, List.getElem_cons_zero, List.getElem_cons_succ, Act.put, List.setIfInBounds_toArray, List.set_cons_zero, List.set_cons_succ]
      obtain ⟨V0, hV0⟩ : ∃ V0, V0 = Wd.drew := ⟨_, rfl⟩
      have rX0 := rX.below (below_drew Wd)
      rw [← hV0] at D S0 hHeld rX0 ⊢
      clear hV0
      refine wpAnyH_ready (rs := [3]) (by kernel_rfl) (by simp) ?_
      refine AllReadyH.cons rfl (fun K hK => ?_) AllReadyH.nil
      simp only [List.getElem_toArray, List.getElem_cons_zero, List.getElem_cons_succ]
      obtain ⟨z0, z1, z2, z3, z4, z5⟩ := D.z.cells
      have zf := D.z.free
      go_simp
      obtain ⟨W13, hW13, d13, b13, t13⟩ := b_stored D.z D.bel (show w.heap.size ≤ w.heap.size + 2 by omega) B.r B.e B.f B.t B.o a4 B.es.length c4
      rw [← hW13]
      have S1 := S0.turned t13 (by omega) (by omega)
      refine hK.out _ _ S1 (fun hHeld => ?_)
      clear hK K hW13 z0 z1 z2 z3 z4 z5 zf
      refine wpAnyH_ready (rs := [4]) (by kernel_rfl) (by simp) ?_
      refine AllReadyH.cons rfl (fun K hK => ?_) AllReadyH.nil
      simp only [List.getElem_toArray, List.getElem_cons_zero, List.getElem_cons_succ]
      have y13 := D.y.turned t13 (by omega)
      obtain ⟨y0, y1, y2, y3⟩ := y13.cells
      have yf := y13.free
      go_simp
      obtain ⟨W14, hW14, d14, b14, t14⟩ := a_stored y13 b13 (show w.heap.size ≤ w.heap.size + 3 by omega) an.c an.he an.no an.bd
      rw [← hW14]
      have S2 := S1.turned t14 (by omega) (by omega)
      refine hK.out _ _ S2 (fun hHeld => ?_)
      clear hK K hW14 y0 y1 y2 y3 yf
      refine wpAnyH_take (i := 5) (v := .bool false) rfl (by kernel_rfl) (by kernel_rfl) (by kernel_rfl) (fun _ _ _ h => h) (Or.inl ⟨by rfl, fun _ _ => by go_simp⟩) hHeld ?_
      simp only [List.getElem_toArray, List.getElem_cons_zero, List.getElem_cons_succ, Act.put, List.setIfInBounds_toArray, List.set_cons_zero, List.set_cons_succ]
      refine wpAnyH_take (i := 6) (v := .int .i64 0) rfl (by kernel_rfl) (by kernel_rfl) (by kernel_rfl) (fun _ _ _ h => h) (Or.inl ⟨by rfl, fun _ _ => by go_simp⟩) hHeld ?_
      simp only [List.getElem_toArray, List.getElem_cons_zero, List.getElem_cons_succ, Act.put, List.setIfInBounds_toArray, List.set_cons_zero, List.set_cons_succ]
      refine wpAnyH_done (by kernel_rfl) ?_ _
      have r14 := t14.row (t13.row rX0 (fun x hx _ => by have := fX x hx; omega)) (fun x hx _ => by have := fX x hx; omega)
      have dF := d13.turned t14 (by omega)
      have fin1 : ServeR B v B an false 0 := .same (unveil HOK) (unveil HV) (unveil HK) (unveil HR) s6 ans (unveil HT) sa an (unveil HST)
      have HF1 := veil fin1
      have HF2 := veil dF
      have HF3 := veil d14
      have HF4 := veil b14
      have HF5 := veil r14
      clear fin1 dF d14 b14 r14 d13 t13 t14 b13 y13 S2 S1 S0 hHeld D rX0
      go_wp2
      have g2 := unveil HF2
      have g3 := unveil HF3
      exact bodyPost_ret (ret_ServedBy g2 g3 rfl rfl rfl rfl) rfl (SvO.of (B' := B) _ an false 0 rfl (unveil HF1) ⟨a4, c4, rfl, ⟨unveil HF5, lX, nX⟩, fun x hx => by have := fX x hx; omega⟩ (unveil HF4))
    case true =>
    by_cases hl : B.es.length < 1999
    case neg =>
      have hli : (2000 : Int) < (B.es.length : Int) + 2 := by omega
      have HL := veil hl
      clear hl
      obtain ⟨y6, y7, y8, y9, y10, y11⟩ := (unveil HO5).b.cells
      obtain ⟨z0, z1, z2, z3, z4, z5⟩ := (unveil HS).z.cells
      have zf := (unveil HS).z.free
      obtain ⟨y0, y1, y2, y3⟩ := (unveil HS).y.cells
      have yf := (unveil HS).y.free
      clear yA
      go_wp2
      obtain ⟨r5, l5, n5, f5⟩ := (unveil HO5).row (unveil hWf)
      obtain ⟨W9, hW9, d9, y9, b9, T9⟩ := Sr.stored2 (unveil HS) B.r B.e B.f B.t B.o a4 B.es.length c4 14 0 0 0
      rw [← hW9]
      exact bodyPost_ret (ret_ServedBy d9 y9 rfl rfl rfl rfl) rfl (SvO.of (B' := B) _ ⟨14, 0, 0, 0⟩ false 0 rfl (.full (unveil HOK) (unveil HV) (unveil HK) (unveil HR) s6 ans (unveil HT) sa an (unveil HST) (by have := unveil HL; omega)) ⟨a4, c4, rfl, ⟨T9 r5 (fun x hx => by have := f5 x hx; omega), l5, n5⟩, fun x hx => by have := f5 x hx; omega⟩ b9)
    case pos =>
      have hli : ¬ (2000 : Int) < (B.es.length : Int) + 2 := by omega
      go_upto_region 18 with fail
      obtain ⟨y6, y7, y8, y9, y10, y11⟩ := (unveil HO5).b.cells
      have v0 : Wd.cell? ⟨w.heap.size + 1, 0, none⟩ = some (.int .i64 v.k) := by simp [World.cell?, (unveil HS).e]
      have v1 : Wd.cell? ⟨w.heap.size + 1, 1, none⟩ = some (.int .i64 v.p) := by simp [World.cell?, (unveil HS).e]
      have v2 : Wd.cell? ⟨w.heap.size + 1, 2, none⟩ = some (.int .i64 v.i) := by simp [World.cell?, (unveil HS).e]
      have v3 : Wd.cell? ⟨w.heap.size + 1, 3, none⟩ = some (.int .i64 v.b) := by simp [World.cell?, (unveil HS).e]
      have v4 : Wd.cell? ⟨w.heap.size + 1, 4, none⟩ = some (.int .i64 v.he) := by simp [World.cell?, (unveil HS).e]
      have v5 : Wd.cell? ⟨w.heap.size + 1, 5, none⟩ = some (.int .i64 v.hn) := by simp [World.cell?, (unveil HS).e]
      have hw1 : w.heap.size + 1 < Wd.heap.size := by omega
      have hw1n : w.heap.size + 1 ≠ Wd.heap.size := by omega
      have HOw : Hid ((Wd.alloc (.cells #[.int .i64 v.k, .int .i64 v.p, .int .i64 v.i, .int .i64 v.b, .int .i64 v.he, .int .i64 v.hn] 33)).ownsRow W3.heap.size 33 6 (.slice a4 B.es.length c4) B.es.length ((evFlat B.es).map (Value.int .i64))) := veil (own_still (unveil HO5).own (fun g _ hg => (below1 Wd _).block g hg))
      have HYA := veil yA
      clear yA
      go_upto_region 19 with (at_builtin; refine wpList_append_own _ rfl _ _ 42 rfl W3.heap.size 33 i6 _ 6 48 Try.underlying42 hi6 hz60 hz61 hz62 rfl (by decide) (.slice a4 B.es.length c4) B.es.length ((evFlat B.es).map (Value.int .i64)) rfl (unveil HOw) ⟨Wd.heap.size, 0, none⟩ 1 1 ((evCells v).map (Value.int .i64)) rfl rfl (news6 _ _ _ _ _ _ _ _) (ints_oneCell _ _) (by unfold maxLen; omega) (by omega) (by simp; omega) ?_; intro v' W8' own8 grow8 _; obtain ⟨a8, c8, rfl⟩ := own_form own8; obtain ⟨d8, B8, k8⟩ := Ob.grown (unveil HO5) (below1 Wd _) grow8 (unveil HS).bel; have ya8 : ansBlock W8' A an.c an.he an.no an.bd := ((grow8.block A (by have := (unveil HYA).lt; simp; omega) (fun e => own_off (unveil HO5).own (unveil HYA) (by decide) _ e.symm rfl)).trans (((below1 Wd _).block A (unveil HYA).lt).trans (unveil HYA))); clear y6 y7 y8 y9 y10 y11; obtain ⟨y6, y7, y8, y9, y10, y11⟩ := d8.cells; have yf := d8.free; have HD8 := veil d8; have HB8 := veil B8; have HK8 := veil k8; have HOn := veil own8; have HYA8 := veil ya8; clear d8 B8 k8 own8 grow8 HOw ya8)
      obtain ⟨W9, hW9, dX, T9, rX, lX, nX, fX⟩ := Ob.more (w := w) v (unveil HD8) (unveil hWf) hvw (unveil HOn) (by omega) hb4
      rw [← hW9]
      have S9 : Sr w W9 B a c v := (Sr.keep (unveil HS) (unveil HK8) (by omega) (unveil HB8)).turned T9 (by omega)
      have yA := (unveil HYA8).turned T9 (by omega)
      have hX9 := dX.lt
      have hA9 := yA.lt
      clear HS hW9 HD8 HB8 HK8 HOn HYA8 HYA y6 y7 y8 y9 y10 y11 yf v0 v1 v2 v3 v4 v5 T9
      have HS := veil S9
      clear S9
      have D := (unveil HS).next (below_drew W9)
      have S0 : S19 X A B.r B.e B.f B.t B.o a8 (B.es.length + 1) c8 an W9.drew := ⟨dX.next (below_drew W9), yA.next (below_drew W9)⟩
      refine wp_region_held_drew (S := S19 X A B.r B.e B.f B.t B.o a8 (B.es.length + 1) c8 an) (by kernel_rfl) S0 (fun hHeld => ?_)
      refine wpAnyH_take (i := 0) (v := bVal B.r B.e B.f B.t B.o a8 (B.es.length + 1) c8) rfl (by kernel_rfl) (by kernel_rfl) (by kernel_rfl) (fun _ _ _ h => h) (Or.inl ⟨by rfl, fun w3 h3 => by obtain ⟨k0, k1, k2, k3, k4, k5⟩ := h3.1.cells; go_simp⟩) hHeld ?_
      simp only [List.getElem_toArray, List.getElem_cons_zero, Act.put, List.setIfInBounds_toArray, List.set_cons_zero, List.set_cons_succ]
      refine wpAnyH_take (i := 1) (v := ansVal an.c an.he an.no an.bd) rfl (by kernel_rfl) (by kernel_rfl) (by kernel_rfl) (fun _ _ _ h => h) (Or.inl ⟨by rfl, fun w3 h3 => by obtain ⟨k0, k1, k2, k3⟩ := h3.2.cells; go_simp⟩) hHeld ?_
      simp only [List.getElem_toArray, List.getElem_cons_zero, List.getElem_cons_succ, Act.put, List.setIfInBounds_toArray, List.set_cons_zero, List.set_cons_succ]
      refine wpAnyH_take (i := 2) (v := .bool true) rfl (by kernel_rfl) (by kernel_rfl) (by kernel_rfl) (fun _ _ _ h => h) (Or.inl ⟨by rfl, fun _ _ => by go_simp⟩) hHeld ?_
      simp only [List.getElem_toArray, List.getElem_cons_zero, List.getElem_cons_succ, Act.put, List.setIfInBounds_toArray, List.set_cons_zero, List.set_cons_succ]
      obtain ⟨V0, hV0⟩ : ∃ V0, V0 = W9.drew := ⟨_, rfl⟩
      have rX0 := rX.below (below_drew W9)
      rw [← hV0] at D S0 hHeld rX0 ⊢
      clear hV0
      refine wpAnyH_ready (rs := [3]) (by kernel_rfl) (by simp) ?_
      refine AllReadyH.cons rfl (fun K hK => ?_) AllReadyH.nil
      simp only [List.getElem_toArray, List.getElem_cons_zero, List.getElem_cons_succ]
      obtain ⟨z0, z1, z2, z3, z4, z5⟩ := D.z.cells
      have zf := D.z.free
      go_simp
      obtain ⟨W13, hW13, d13, b13, t13⟩ := b_stored D.z D.bel (show w.heap.size ≤ w.heap.size + 2 by omega) B.r B.e B.f B.t B.o a8 (B.es.length + 1) c8
      rw [← hW13]
      have S1 := S0.turned t13 (by omega) (by omega)
      refine hK.out _ _ S1 (fun hHeld => ?_)
      clear hK K hW13 z0 z1 z2 z3 z4 z5 zf
      refine wpAnyH_ready (rs := [4]) (by kernel_rfl) (by simp) ?_
      refine AllReadyH.cons rfl (fun K hK => ?_) AllReadyH.nil
      simp only [List.getElem_toArray, List.getElem_cons_zero, List.getElem_cons_succ]
      have y13 := D.y.turned t13 (by omega)
      obtain ⟨y0, y1, y2, y3⟩ := y13.cells
      have yf := y13.free
      go_simp
      obtain ⟨W14, hW14, d14, b14, t14⟩ := a_stored y13 b13 (show w.heap.size ≤ w.heap.size + 3 by omega) an.c an.he an.no an.bd
      rw [← hW14]
      have S2 := S1.turned t14 (by omega) (by omega)
      refine hK.out _ _ S2 (fun hHeld => ?_)
      clear hK K hW14 y0 y1 y2 y3 yf
      refine wpAnyH_take (i := 5) (v := .bool true) rfl (by kernel_rfl) (by kernel_rfl) (by kernel_rfl) (fun _ _ _ h => h) (Or.inl ⟨by rfl, fun _ _ => by go_simp⟩) hHeld ?_
      simp only [List.getElem_toArray, List.getElem_cons_zero, List.getElem_cons_succ, Act.put, List.setIfInBounds_toArray, List.set_cons_zero, List.set_cons_succ]
      refine wpAnyH_take (i := 6) (v := .int .i64 0) rfl (by kernel_rfl) (by kernel_rfl) (by kernel_rfl) (fun _ _ _ h => h) (Or.inl ⟨by rfl, fun _ _ => by go_simp⟩) hHeld ?_
      simp only [List.getElem_toArray, List.getElem_cons_zero, List.getElem_cons_succ, Act.put, List.setIfInBounds_toArray, List.set_cons_zero, List.set_cons_succ]
      refine wpAnyH_done (by kernel_rfl) ?_ _
      have r14 := t14.row (t13.row rX0 (fun x hx _ => by have := fX x hx; omega)) (fun x hx _ => by have := fX x hx; omega)
      have dF := d13.turned t14 (by omega)
      have fin1 : ServeR B v (B.more [v]) an true 0 := .done (unveil HOK) (unveil HV) (unveil HK) (unveil HR) s6 ans (unveil HT) sa an (unveil HST) hl
      have HF1 := veil fin1
      have HF2 := veil dF
      have HF3 := veil d14
      have HF4 := veil b14
      have HF5 := veil r14
      clear fin1 dF d14 b14 r14 d13 t13 t14 b13 y13 S2 S1 S0 hHeld D rX0
      go_wp2
      have g2 := unveil HF2
      have g3 := unveil HF3
      exact bodyPost_ret (ret_ServedBy g2 g3 rfl rfl rfl rfl) rfl (SvO.of (B' := B.more [v]) _ an true 0 rfl (unveil HF1) ⟨a8, c8, by simp [Bt.more], ⟨by simpa [Bt.more] using unveil HF5, by simpa [Bt.more] using lX, nX⟩, fun x hx => by have := fX x hx; omega⟩ (unveil HF4))
end Go.Proofs.Ytbhlpiomoookcaa
