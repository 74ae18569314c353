/- Texts put together: BeA, BeB, BeC, BeD, BeE, BeF, BeG, BeH, BeI. -/
import Derived.Test.YtegbndllfnimdaaGreatHsAll
import Derived.OwnWalk
import Derived.Deep.DeepCutAuto
namespace Go.Proofs.YtegbndllfnimdaaGreat
open Go.RowKit

/-- a berth's numbers and events. -/
structure Bt where
  r : Int
  e : Int
  f : Int
  t : Int
  o : Int
  es : List Ev
def Bt.zero : Bt := ⟨0, 0, 0, 0, 0, []⟩
/-- as far as one sees without the events being told. -/
def standP (r e f t o : Int) (n : Nat) : Prop :=
  (r = 0 ∧ n = 0 ∧ 0 ≤ e ∧ e ≤ 1048576 ∧ f = 0 ∧ t = 0 ∧ o = 0) ∨
  (r = 1 ∧ 1 ≤ e ∧ e ≤ 1048576 ∧ f = 0 ∧ t = 0 ∧ o = 0) ∨
  (r = 2 ∧ 1 ≤ e ∧ e ≤ 1048576 ∧ f = 0 ∧ 0 ≤ t ∧ t ≤ 4 ∧ 0 ≤ o ∧ o ≤ 4) ∨
  (r = 3 ∧ 1 ≤ e ∧ e ≤ 1048576 ∧ f = 0 ∧ 0 ≤ t ∧ t ≤ 4 ∧ o = 0) ∨
  (r = 4 ∧ 1 ≤ e ∧ e ≤ 1048576 ∧ 0 ≤ f ∧ f ≤ 4 ∧ t = 0 ∧ o = 0)
instance (r e f t o : Int) (n : Nat) : Decidable (standP r e f t o n) := by unfold standP; infer_instance
def Bt.Stand (B : Bt) : Prop := standP B.r B.e B.f B.t B.o B.es.length
/-- a berth that may be. -/
structure Bt.Ok (B : Bt) : Prop where
  stand : B.Stand
  len : B.es.length ≤ 2000
  told : ∃ s ans, Tells B.es s ans
theorem Bt.zero_ok : Bt.zero.Ok := ⟨.inl ⟨rfl, rfl, by decide, by decide, rfl, rfl, rfl⟩, by decide, St.zero, [], .nil⟩
theorem Rv.ok {B : Bt} {s : St} {er : Int} (h : Rv B.es s er) (hs : B.Stand) : er = 0 ↔ B.Ok := by
  constructor
  · intro h0
    cases h with
    | size => omega
    | form => omega
    | told ans hl ht => exact ⟨hs, hl, s, ans, ht⟩
  · intro ok
    obtain ⟨s', ans, ht⟩ := ok.told
    exact (h.one (.told ans ok.len ht)).2
/-- the Break. -/
def Ev.brk : Ev := ⟨4, 0, 0, 0, 0, 0⟩
theorem Ev.brk_ok : Ev.brk.Ok := by
  unfold Ev.Ok Ev.brk eventFault
  simp
open Classical in
noncomputable def makeOf (B : Bt) (ep : Int) : Bt × Int :=
  if ¬ B.Ok then (Bt.zero, 6) else if ¬ (1 ≤ ep ∧ ep ≤ 1048576) then (Bt.zero, 2) else if ¬ B.r = 0 then (Bt.zero, 8) else if ep ≤ B.e then (Bt.zero, 15) else (⟨1, ep, 0, 0, 0, []⟩, 0)
open Classical in
noncomputable def goesOf (B : Bt) (nd : Int) : Bt × Int :=
  if ¬ B.Ok then (Bt.zero, 6) else if ¬ (0 ≤ nd ∧ nd ≤ 4) then (Bt.zero, 2) else if B.r = 2 ∨ B.r = 3 then (Bt.zero, 12) else if ¬ B.r = 1 then (Bt.zero, 7) else if B.e = 1048576 then (Bt.zero, 14) else (⟨2, B.e, B.f, nd, B.o, B.es⟩, 0)
open Classical in
noncomputable def tellOf (B : Bt) (hv : Int) : Int :=
  if ¬ B.Ok then 6 else if ¬ (B.r = 2 ∨ B.r = 3) then 7 else if ¬ (0 ≤ hv ∧ hv ≤ B.es.length) then 2 else 0
noncomputable def caughtOf (B : Bt) (hv : Int) : Bt × Int :=
  if ¬ tellOf B hv = 0 then (Bt.zero, tellOf B hv) else if B.r = 3 then (B, 0) else if hv = B.es.length ∨ B.o = 4 then (⟨3, B.e, B.f, B.t, 0, B.es⟩, 0) else (⟨B.r, B.e, B.f, B.t, B.o + 1, B.es⟩, 0)
noncomputable def partOf (B : Bt) (hv : Int) : List Ev × Bool × Int :=
  if ¬ tellOf B hv = 0 then ([], false, tellOf B hv) else ((B.es.drop hv.toNat).take 3, decide (B.r = 3 ∧ B.es.length ≤ hv.toNat + 3), 0)
open Classical in
noncomputable def beginOf (B : Bt) (ep fr : Int) : Bt × Int :=
  if ¬ B.Ok then (Bt.zero, 6) else if ¬ ((1 ≤ ep ∧ ep ≤ 1048576) ∧ (0 ≤ fr ∧ fr ≤ 4)) then (Bt.zero, 2) else if B.r = 1 ∨ B.r = 2 ∨ B.r = 3 then (Bt.zero, 8)
  else if B.r = 4 ∧ B.e = ep ∧ B.f = fr then (B, 0) else if ep ≤ B.e then (Bt.zero, 15) else (⟨4, ep, fr, 0, 0, []⟩, 0)
open Classical in
noncomputable def forgetOf (B : Bt) (ep : Int) : Bt × Int :=
  if ¬ B.Ok then (Bt.zero, 6) else if ¬ B.r = 3 then (Bt.zero, 7) else if ep ≤ B.e then (Bt.zero, 15) else (⟨0, B.e, 0, 0, 0, []⟩, 0)
/-- a berth that serves from now on, with a Break behind its events. -/
def Bt.broken (B : Bt) : Bt := ⟨1, B.e, 0, 0, 0, B.es ++ [Ev.brk]⟩
def Bt.more (B : Bt) (l : List Ev) : Bt := ⟨B.r, B.e, B.f, B.t, B.o, B.es ++ l⟩
open Classical in
noncomputable def wakeOf (B : Bt) : Bt × Int :=
  if ¬ B.Ok then (Bt.zero, 6) else if ¬ (B.r = 1 ∨ B.r = 2) then (B, 0) else if ¬ B.broken.Ok then (Bt.zero, 14) else (B.broken, 0)
/-- what comes goes together with what is there. -/
def Fits (hv come : List Ev) (last : Bool) : Prop := come.take hv.length = hv.take come.length ∧ (last = true → hv.length ≤ come.length)
open Classical in
noncomputable def importOf (B : Bt) (ep at' : Int) (l : List Ev) (last : Bool) : Bt × Int :=
  if ¬ B.Ok then (Bt.zero, 6) else if ¬ B.r = 4 then (Bt.zero, 7) else if ¬ B.e = ep then (Bt.zero, 15) else if ¬ (0 ≤ at' ∧ at' ≤ B.es.length) then (Bt.zero, 2)
  else if ¬ (l.length ≤ 2000 ∧ Fits (B.es.drop at'.toNat) l last) then (Bt.zero, 3)
  else if ¬ (if last then (B.more (l.drop (B.es.length - at'.toNat))).broken else B.more (l.drop (B.es.length - at'.toNat))).Ok then (Bt.zero, 3)
  else (if last then (B.more (l.drop (B.es.length - at'.toNat))).broken else B.more (l.drop (B.es.length - at'.toNat)), 0)
/-- what Serve answers. -/
inductive ServeR (B : Bt) (v : Ev) : Bt → An → Bool → Int → Prop
  | state (h : ¬ B.Ok) : ServeR B v Bt.zero An.zero false 6
  | fault (h : B.Ok) (f : Int) (hf : eventFault v.k v.p v.i v.b v.he v.hn = f) (h0 : ¬ f = 0) : ServeR B v Bt.zero An.zero false f
  | brk (h : B.Ok) (hv : v.Ok) (hk : v.k = 4) : ServeR B v Bt.zero An.zero false 3
  | shut (h : B.Ok) (hv : v.Ok) (hk : ¬ v.k = 4) (hr : B.r = 3) : ServeR B v B ⟨12, 0, 0, 0⟩ false 0
  | none (h : B.Ok) (hv : v.Ok) (hk : ¬ v.k = 4) (hr : B.r = 0 ∨ B.r = 4) : ServeR B v B ⟨7, 0, 0, 0⟩ false 0
  | same (h : B.Ok) (hv : v.Ok) (hk : ¬ v.k = 4) (hr : B.r = 1 ∨ B.r = 2) (s : St) (ans : List An) (ht : Tells B.es s ans) (s' : St) (an : An) (st : Step s v s' an false) : ServeR B v B an false 0
  | full (h : B.Ok) (hv : v.Ok) (hk : ¬ v.k = 4) (hr : B.r = 1 ∨ B.r = 2) (s : St) (ans : List An) (ht : Tells B.es s ans) (s' : St) (an : An) (st : Step s v s' an true) (hl : 1999 ≤ B.es.length) : ServeR B v B ⟨14, 0, 0, 0⟩ false 0
  | done (h : B.Ok) (hv : v.Ok) (hk : ¬ v.k = 4) (hr : B.r = 1 ∨ B.r = 2) (s : St) (ans : List An) (ht : Tells B.es s ans) (s' : St) (an : An) (st : Step s v s' an true) (hl : B.es.length < 1999) : ServeR B v (B.more [v]) an true 0
/-- a berth in memory. -/
abbrev bCells (r e f t o : Int) (a : Option Addr) (n c : Nat) : Array Value := #[.int .i64 r, .int .i64 e, .int .i64 f, .int .i64 t, .int .i64 o, .slice a n c]
abbrev bVal (r e f t o : Int) (a : Option Addr) (n c : Nat) : Value := .agg (bCells r e f t o a n c)
def bBlock (w : World) (R : Nat) (r e f t o : Int) (a : Option Addr) (n c : Nat) : Prop := w.heap[R]? = some (.cells (bCells r e f t o a n c) 26 (0, 0))
section
variable {w w' : World} {R : Nat} {r e f t o : Int} {a : Option Addr} {n c : Nat}
theorem bBlock.cells (h : bBlock w R r e f t o a n c) : w.cell? ⟨R, 0, none⟩ = some (.int .i64 r) ∧ w.cell? ⟨R, 1, none⟩ = some (.int .i64 e) ∧ w.cell? ⟨R, 2, none⟩ = some (.int .i64 f) ∧ w.cell? ⟨R, 3, none⟩ = some (.int .i64 t) ∧ w.cell? ⟨R, 4, none⟩ = some (.int .i64 o) ∧ w.cell? ⟨R, 5, none⟩ = some (.slice a n c) := by
  unfold bBlock at h; simp [World.cell?, h]
theorem bBlock.lt (h : bBlock w R r e f t o a n c) : R < w.heap.size := by
  unfold bBlock at h
  rcases Nat.lt_or_ge R w.heap.size with h' | h'
  · exact h'
  · simp [Array.getElem?_eq_none h'] at h
theorem bBlock.below {N : Nat} (h : bBlock w R r e f t o a n c) (hb : Below N w w') (hR : R < N) : bBlock w' R r e f t o a n c := by
  unfold bBlock at h ⊢; rw [← h]; exact hb.block R hR
theorem bBlock.next (h : bBlock w R r e f t o a n c) (hb : Below w.heap.size w w') : bBlock w' R r e f t o a n c := h.below hb h.lt
theorem bBlock.free (h : bBlock w R r e f t o a n c) (k : Nat) : w.frozen? ⟨R, k, none⟩ = false := by
  unfold bBlock at h; simp [World.frozen?, h]
theorem bBlock.turned {R' : Nat} (h : bBlock w R r e f t o a n c) (tn : Turned R' w w') (hR : R ≠ R') : bBlock w' R r e f t o a n c := by
  unfold bBlock at h ⊢; rw [tn.block R hR]; exact h
theorem bBlock.new (w : World) (r e f t o : Int) (a : Option Addr) (n c : Nat) : bBlock (w.alloc (.cells (bCells r e f t o a n c) 26)) w.heap.size r e f t o a n c := heap_alloc_new w _
theorem heap_setB {k : Nat} {cs : Array Value} {T : TypeId} {v : Value} (h : w.heap[R]? = some (.cells cs T (0, 0))) : (w.setCell ⟨R, k, none⟩ v).heap[R]? = some (.cells (cs.set! k v) T (0, 0)) := by
  rw [setCell_eq_setRow w R k _ _ (0, 0) _ h, setRow_heap w R _ _ _ _ h]
  rfl
/-- a berth stored whole. -/
abbrev bStore (w : World) (R : Nat) (r e f t o : Int) (a : Option Addr) (n c : Nat) : World := (((((w.setCell ⟨R, 0, none⟩ (.int .i64 r)).setCell ⟨R, 1, none⟩ (.int .i64 e)).setCell ⟨R, 2, none⟩ (.int .i64 f)).setCell ⟨R, 3, none⟩ (.int .i64 t)).setCell ⟨R, 4, none⟩ (.int .i64 o)).setCell ⟨R, 5, none⟩ (.slice a n c)
theorem bBlock.store (h : bBlock w R r e f t o a n c) (r' e' f' t' o' : Int) (a' : Option Addr) (n' c' : Nat) : bBlock (bStore w R r' e' f' t' o' a' n' c') R r' e' f' t' o' a' n' c' := by
  unfold bBlock at h ⊢
  rw [heap_setB (heap_setB (heap_setB (heap_setB (heap_setB (heap_setB h)))))]
  simp
theorem bBlock.turn (w : World) (R : Nat) (r e f t o : Int) (a : Option Addr) (n c : Nat) : Turned R w (bStore w R r e f t o a n c) :=
  (((((Turned.set R 0 w _).trans (Turned.set R 1 _ _)).trans (Turned.set R 2 _ _)).trans (Turned.set R 3 _ _)).trans (Turned.set R 4 _ _)).trans (Turned.set R 5 _ _)
end
/-- a berth that came in: its events. -/
structure BIn (w : World) (B : Bt) (a : Option Addr) (c : Nat) : Prop where
  row : RowK .i64 w a (6 * B.es.length) (evFlat B.es)
  cap : B.es.length ≤ c
  nil : a = none → c = 0
theorem BIn.next {w w' : World} {B : Bt} {a : Option Addr} {c : Nat} (h : BIn w B a c) (b : Below w.heap.size w w') : BIn w' B a c := ⟨h.row.below b, h.cap, h.nil⟩
theorem BIn.turned {w w' : World} {B : Bt} {a : Option Addr} {c R : Nat} (h : BIn w B a c) (t : Turned R w w') (hR : ∀ x, a = some x → 0 < B.es.length → x.block ≠ R) : BIn w' B a c := ⟨t.row h.row (fun x hx h0 => hR x hx (by omega)), h.cap, h.nil⟩
/-- a berth that is answered. -/
structure BOut (w w' : World) (B : Bt) (x : Value) : Prop where
  ex : ∃ a c, x = bVal B.r B.e B.f B.t B.o a B.es.length c ∧ BIn w' B a c ∧ (∀ x, a = some x → w.heap.size ≤ x.block)
theorem BOut.zero (w w' : World) : BOut w w' Bt.zero (bVal 0 0 0 0 0 none 0 0) := ⟨none, 0, rfl, ⟨RowK.nil _ _ _, Nat.le_refl _, fun _ => rfl⟩, fun x hx => by cases hx⟩
end Go.Proofs.YtegbndllfnimdaaGreat

namespace Go.Proofs.YtegbndllfnimdaaGreat
open Go.RowKit

theorem within_any (x m : Int) (w : World) : Calls Tryz.prog 67 #[.int .i64 x, .int .i64 m] w fun e w' => e = .returned (.bool (decide (0 ≤ x ∧ x ≤ m))) ∧ w' = w := by
  by_cases h1 : 0 ≤ x
  · by_cases h2 : x ≤ m
    · rw [decide_eq_true (show 0 ≤ x ∧ x ≤ m from ⟨h1, h2⟩)]
      go_enter Tryz.func67, Tryz.ntmps67
      go_wp2
      go_ret
      exact ⟨rfl, rfl⟩
    · rw [decide_eq_false (show ¬ (0 ≤ x ∧ x ≤ m) from fun h => h2 h.2)]
      go_enter Tryz.func67, Tryz.ntmps67
      go_wp2
      go_ret
      exact ⟨rfl, rfl⟩
  · rw [decide_eq_false (show ¬ (0 ≤ x ∧ x ≤ m) from fun h => h1 h.1)]
    go_enter Tryz.func67, Tryz.ntmps67
    go_wp2
    go_ret
    exact ⟨rfl, rfl⟩
theorem isEpoch_any (x : Int) (w : World) : Calls Tryz.prog 61 #[.int .i64 x] w fun e w' => e = .returned (.bool (decide (1 ≤ x ∧ x ≤ 1048576))) ∧ w' = w := by
  by_cases h1 : 1 ≤ x
  · by_cases h2 : x ≤ 1048576
    · rw [decide_eq_true (show 1 ≤ x ∧ x ≤ 1048576 from ⟨h1, h2⟩)]
      go_enter Tryz.func61, Tryz.ntmps61
      go_wp2
      go_ret
      exact ⟨rfl, rfl⟩
    · rw [decide_eq_false (show ¬ (1 ≤ x ∧ x ≤ 1048576) from fun h => h2 h.2)]
      go_enter Tryz.func61, Tryz.ntmps61
      go_wp2
      go_ret
      exact ⟨rfl, rfl⟩
  · rw [decide_eq_false (show ¬ (1 ≤ x ∧ x ≤ 1048576) from fun h => h1 h.1)]
    go_enter Tryz.func61, Tryz.ntmps61
    go_wp2
    go_ret
    exact ⟨rfl, rfl⟩
theorem isBerthNode_any (x : Int) (w : World) : Calls Tryz.prog 57 #[.int .i64 x] w fun e w' => e = .returned (.bool (decide (0 ≤ x ∧ x ≤ 4))) ∧ w' = w := by
  go_enter Tryz.func57, Tryz.ntmps57
  go_wp2_with (go_at_call 67; refine (within_any _ _ _).mono ?_; rintro e w1 ⟨rfl, rfl⟩)
  go_ret
  exact ⟨by simp, rfl⟩
section
variable (r e f t o : Int) (a : Option Addr) (n c : Nat) (w : World)
theorem serves_any : Calls Tryz.prog 62 #[bVal r e f t o a n c] w fun x w' => x = .returned (.bool (decide (r = 1 ∨ r = 2))) ∧ Below w.heap.size w w' := by
  by_cases h1 : r = 1
  · subst h1
    go_enter Tryz.func62, Tryz.ntmps62
    go_wp2
    go_ret
    exact ⟨by simp, below1 _ _⟩
  · by_cases h2 : r = 2
    · subst h2
      go_enter Tryz.func62, Tryz.ntmps62
      go_wp2
      go_ret
      exact ⟨by simp, below1 _ _⟩
    · rw [decide_eq_false (show ¬ (r = 1 ∨ r = 2) by omega)]
      go_enter Tryz.func62, Tryz.ntmps62
      go_wp2
      go_ret
      exact ⟨by simp [h1, h2], below1 _ _⟩
theorem isSource_any : Calls Tryz.prog 58 #[bVal r e f t o a n c] w fun x w' => x = .returned (.bool (decide (r = 2 ∨ r = 3))) ∧ Below w.heap.size w w' := by
  by_cases h1 : r = 2
  · subst h1
    go_enter Tryz.func58, Tryz.ntmps58
    go_wp2
    go_ret
    exact ⟨by simp, below1 _ _⟩
  · by_cases h2 : r = 3
    · subst h2
      go_enter Tryz.func58, Tryz.ntmps58
      go_wp2
      go_ret
      exact ⟨by simp, below1 _ _⟩
    · rw [decide_eq_false (show ¬ (r = 2 ∨ r = 3) by omega)]
      go_enter Tryz.func58, Tryz.ntmps58
      go_wp2
      go_ret
      exact ⟨by simp [h1, h2], below1 _ _⟩
end
theorem b_stored {w wx : World} {R N : Nat} {r e f t o : Int} {a : Option Addr} {n c : Nat} (h : bBlock wx R r e f t o a n c) (bel : Below N w wx) (hN : N ≤ R) (r' e' f' t' o' : Int) (a' : Option Addr) (n' c' : Nat) :
    ∃ W, W = (((((wx.setCell ⟨R, 0, none⟩ (.int .i64 r')).setCell ⟨R, 1, none⟩ (.int .i64 e')).setCell ⟨R, 2, none⟩ (.int .i64 f')).setCell ⟨R, 3, none⟩ (.int .i64 t')).setCell ⟨R, 4, none⟩ (.int .i64 o')).setCell ⟨R, 5, none⟩ (.slice a' n' c') ∧ bBlock W R r' e' f' t' o' a' n' c' ∧ Below N w W ∧ Turned R wx W :=
  ⟨_, rfl, h.store _ _ _ _ _ _ _ _, (bBlock.turn _ _ _ _ _ _ _ _ _ _).under bel hN, bBlock.turn _ _ _ _ _ _ _ _ _ _⟩
theorem load_berth {W : World} {R : Nat} {r e f t o : Int} {a : Option Addr} {n c : Nat} (d : bBlock W R r e f t o a n c) : (loadVar 26 ⟨R, 0, none⟩).run Tryz.prog W = .ok (bVal r e f t o a n c) W :=
  run_loadVar_row (P := Tryz.prog) W R 26 26 _ (0, 0) _ d Tryz.underlying26 rfl (by kernel_rfl)
theorem ret_refuse {W : World} {R : Nat} {r e f t o : Int} {a : Option Addr} {n c : Nat} {er : Int} {tmps : Array Value} (d : bBlock W R r e f t o a n c) (t2 : tmps[2]? = some (.pointer (some ⟨R, 0, none⟩))) (t3 : tmps[3]? = some (.int .i64 er)) :
    (results Tryz.f44 tmps).run Tryz.prog W = .ok (.tuple #[bVal r e f t o a n c, .int .i64 er]) W := by
  simp [results, Tryz.results44, t2, t3, asAddr, load_berth d]
theorem refuse_any (er : Int) (w : World) : Calls Tryz.prog 44 #[.int .i64 er] w fun x w' => x = .returned (.tuple #[bVal 0 0 0 0 0 none 0 0, .int .i64 er]) ∧ Below w.heap.size w w' := by
  go_enter Tryz.func44, Tryz.ntmps44
  go_upto_region 1 with fail
  obtain ⟨W, hW, z, b⟩ : ∃ W, W = w.alloc (.cells (bCells 0 0 0 0 0 none 0 0) 26) ∧ bBlock W w.heap.size 0 0 0 0 0 none 0 0 ∧ Below w.heap.size w W := ⟨_, rfl, bBlock.new _ _ _ _ _ _ _ _ _, below1 _ _⟩
  rw [← hW]
  clear hW
  obtain ⟨x0, x1, x2, x3, x4, x5⟩ := z.cells
  have zf := z.free
  have HZ := veil z
  have HB := veil b
  clear z b
  go_wp2
  obtain ⟨W2, hW2, d2, b2, _⟩ := b_stored (unveil HZ) (unveil HB) (Nat.le_refl _) 0 0 0 0 0 none 0 0
  rw [← hW2]
  exact bodyPost_ret (ret_refuse d2 rfl rfl) rfl ⟨rfl, b2⟩
/-- events one behind the other, in new memory. -/
theorem behind_any (a b : Option Addr) (la ca lb cb : Nat) (A B : List Int) (w : World) (hA : RowK .i64 w a (6 * la) A) (hB : RowK .i64 w b (6 * lb) B) (nA : a = none → ca = 0) (nB : b = none → cb = 0) (hs : la + lb ≤ 1000000) :
    Calls Tryz.prog 66 #[.slice a la ca, .slice b lb cb] w fun e w' => ∃ a' c', e = .returned (.slice a' (la + lb : Nat) c') ∧ RowK .i64 w' a' (6 * (la + lb)) (A ++ B) ∧ la + lb ≤ c' ∧ (a' = none → c' = 0) ∧ (∀ x, a' = some x → w.heap.size ≤ x.block) ∧ Below w.heap.size w w' := by
  obtain ⟨i6, hi6, hz60, hz61, hz62⟩ := info_of Tryz.infoEvent
  have hw : IntKind.i64.wrap ((la : Int) + (lb : Int)) = ((la + lb : Nat) : Int) := by rw [IntKind.wrap_i64]; omega
  have hwf : ∀ u ∈ A ++ B, (Lit.int .i64 u).wf = true := fun u hu => by
    rcases List.mem_append.1 hu with h | h
    · exact hA.wf u h
    · exact hB.wf u h
  have HA : Hid (∀ w', Below w.heap.size w w' → RowK .i64 w' a (6 * la) A) := veil fun w' b => hA.below b
  have HB : Hid (∀ w', Below w.heap.size w w' → RowK .i64 w' b (6 * lb) B) := veil fun w' b => hB.below b
  clear hA hB
  go_enter Tryz.func66, Tryz.ntmps66
  go_wp2_with (first
    | (refine wpList_make_own _ rfl _ _ 24 rfl w.heap.size 48 i6 _ 6 Tryz.underlying24 hi6 hz60 hz61 .i64 .i64 _ (la + lb) rfl rfl (by first | rfl | omega) (by rw [hz62]; omega) (by unfold maxLen; omega) (Nat.le_refl _) ?_; intro W1 o1 g1; have b1 := (Below.refl w.heap.size w).grown g1 (by omega) (fun q hq => by cases hq))
    | (at_builtin; refine wpList_append_rows rfl _ _ 24 rfl w.heap.size 48 i6 _ 6 48 Tryz.underlying24 hi6 hz60 hz61 hz62 rfl (by decide) (.slice (some ⟨w.heap.size, 0, none⟩) 0 (la + lb)) 0 [] rfl o1 a la ca A rfl (unveil HA _ b1) nA (by unfold maxLen; omega) (by omega) (by have := b1.size; omega) ?_; intro v2 W2 o2 g2; simp only [Nat.zero_add, List.nil_append] at o2; have b2 := b1.grown g2 b1.size (fun q hq => (o1.lt q hq).1); clear o1 g1 g2 b1)
    | (at_builtin; refine wpList_append_rows rfl _ _ 24 rfl w.heap.size 48 i6 _ 6 48 Tryz.underlying24 hi6 hz60 hz61 hz62 rfl (by decide) v2 la A rfl o2 b lb cb B rfl (unveil HB _ b2) nB (by unfold maxLen; omega) (by omega) (by have := b2.size; omega) ?_; intro v3 W3 o3 g3; have b3 := b2.grown g3 b2.size (fun q hq => (o2.lt q hq).1); obtain ⟨a', c', rfl, r3, hc, _, n3, u3⟩ := RowK.ofMany o3 hwf; clear o2 g3 b2))
  go_ret
  exact ⟨a', c', rfl, r3, hc, n3, u3, b3⟩
end Go.Proofs.YtegbndllfnimdaaGreat

namespace Go.Proofs.YtegbndllfnimdaaGreat
open Go.RowKit

set_option maxHeartbeats 1000000 in
theorem mayStand_0 (e f t o : Int) (a : Option Addr) (n c : Nat) (w : World) : Calls Tryz.prog 93 #[bVal 0 e f t o a n c] w fun x w' => x = .returned (.bool (decide (standP 0 e f t o n))) ∧ Below w.heap.size w w' := by
  by_cases h0 : 0 < n
  case pos =>
    rw [decide_eq_false (show ¬ standP _ e f t o _ by unfold standP; omega)]
    go_enter Tryz.func93, Tryz.ntmps93
    go_wp2
    go_ret
    exact ⟨by first | rfl | simp, below1 _ _⟩
  case neg =>
  obtain rfl : n = 0 := by omega
  clear h0
  by_cases h1 : 0 ≤ e
  case neg =>
    rw [decide_eq_false (show ¬ standP _ e f t o _ by unfold standP; omega)]
    go_enter Tryz.func93, Tryz.ntmps93
    go_wp2
    go_ret
    exact ⟨by first | rfl | simp, below1 _ _⟩
  case pos =>
  by_cases h2 : e ≤ 1048576
  case neg =>
    rw [decide_eq_false (show ¬ standP _ e f t o _ by unfold standP; omega)]
    go_enter Tryz.func93, Tryz.ntmps93
    go_wp2
    go_ret
    exact ⟨by first | rfl | simp, below1 _ _⟩
  case pos =>
  have hf := fun w => within_any f 0 w
  by_cases h3 : 0 ≤ f ∧ f ≤ 0
  case neg =>
    rw [decide_eq_false h3] at hf
    rw [decide_eq_false (show ¬ standP _ e f t o _ by unfold standP; omega)]
    go_enter Tryz.func93, Tryz.ntmps93
    go_wp2_with (first | (go_at_call 67; refine (hf _).mono ?_; rintro x w1 ⟨rfl, rfl⟩; clear hf))
    go_ret
    exact ⟨by first | rfl | simp, below1 _ _⟩
  case pos =>
  rw [decide_eq_true h3] at hf
  have ht := fun w => within_any t 0 w
  by_cases h4 : 0 ≤ t ∧ t ≤ 0
  case neg =>
    rw [decide_eq_false h4] at ht
    rw [decide_eq_false (show ¬ standP _ e f t o _ by unfold standP; omega)]
    go_enter Tryz.func93, Tryz.ntmps93
    go_wp2_with (first | (go_at_call 67; refine (hf _).mono ?_; rintro x w1 ⟨rfl, rfl⟩; clear hf) | (go_at_call 67; refine (ht _).mono ?_; rintro x w1 ⟨rfl, rfl⟩; clear ht))
    go_ret
    exact ⟨by first | rfl | simp, below1 _ _⟩
  case pos =>
  rw [decide_eq_true h4] at ht
  have ho := fun w => within_any o 0 w
  by_cases h5 : 0 ≤ o ∧ o ≤ 0
  case neg =>
    rw [decide_eq_false h5] at ho
    rw [decide_eq_false (show ¬ standP _ e f t o _ by unfold standP; omega)]
    go_enter Tryz.func93, Tryz.ntmps93
    go_wp2_with (first | (go_at_call 67; refine (hf _).mono ?_; rintro x w1 ⟨rfl, rfl⟩; clear hf) | (go_at_call 67; refine (ht _).mono ?_; rintro x w1 ⟨rfl, rfl⟩; clear ht) | (go_at_call 67; refine (ho _).mono ?_; rintro x w1 ⟨rfl, rfl⟩; clear ho))
    go_ret
    exact ⟨by first | rfl | simp, below1 _ _⟩
  case pos =>
  rw [decide_eq_true h5] at ho
  rw [decide_eq_true (show standP _ e f t o _ by unfold standP; omega)]
  go_enter Tryz.func93, Tryz.ntmps93
  go_wp2_with (first | (go_at_call 67; refine (hf _).mono ?_; rintro x w1 ⟨rfl, rfl⟩; clear hf) | (go_at_call 67; refine (ht _).mono ?_; rintro x w1 ⟨rfl, rfl⟩; clear ht) | (go_at_call 67; refine (ho _).mono ?_; rintro x w1 ⟨rfl, rfl⟩; clear ho))
  go_ret
  exact ⟨by first | rfl | simp, below1 _ _⟩
set_option maxHeartbeats 1000000 in
theorem mayStand_1 (e f t o : Int) (a : Option Addr) (n c : Nat) (w : World) : Calls Tryz.prog 93 #[bVal 1 e f t o a n c] w fun x w' => x = .returned (.bool (decide (standP 1 e f t o n))) ∧ Below w.heap.size w w' := by
  by_cases h1 : 1 ≤ e
  case neg =>
    rw [decide_eq_false (show ¬ standP _ e f t o n by unfold standP; omega)]
    go_enter Tryz.func93, Tryz.ntmps93
    go_wp2
    go_ret
    exact ⟨by first | rfl | simp, below1 _ _⟩
  case pos =>
  by_cases h2 : e ≤ 1048576
  case neg =>
    rw [decide_eq_false (show ¬ standP _ e f t o n by unfold standP; omega)]
    go_enter Tryz.func93, Tryz.ntmps93
    go_wp2
    go_ret
    exact ⟨by first | rfl | simp, below1 _ _⟩
  case pos =>
  have hf := fun w => within_any f 0 w
  by_cases h3 : 0 ≤ f ∧ f ≤ 0
  case neg =>
    rw [decide_eq_false h3] at hf
    rw [decide_eq_false (show ¬ standP _ e f t o n by unfold standP; omega)]
    go_enter Tryz.func93, Tryz.ntmps93
    go_wp2_with (first | (go_at_call 67; refine (hf _).mono ?_; rintro x w1 ⟨rfl, rfl⟩; clear hf))
    go_ret
    exact ⟨by first | rfl | simp, below1 _ _⟩
  case pos =>
  rw [decide_eq_true h3] at hf
  have ht := fun w => within_any t 0 w
  by_cases h4 : 0 ≤ t ∧ t ≤ 0
  case neg =>
    rw [decide_eq_false h4] at ht
    rw [decide_eq_false (show ¬ standP _ e f t o n by unfold standP; omega)]
    go_enter Tryz.func93, Tryz.ntmps93
    go_wp2_with (first | (go_at_call 67; refine (hf _).mono ?_; rintro x w1 ⟨rfl, rfl⟩; clear hf) | (go_at_call 67; refine (ht _).mono ?_; rintro x w1 ⟨rfl, rfl⟩; clear ht))
    go_ret
    exact ⟨by first | rfl | simp, below1 _ _⟩
  case pos =>
  rw [decide_eq_true h4] at ht
  have ho := fun w => within_any o 0 w
  by_cases h5 : 0 ≤ o ∧ o ≤ 0
  case neg =>
    rw [decide_eq_false h5] at ho
    rw [decide_eq_false (show ¬ standP _ e f t o n by unfold standP; omega)]
    go_enter Tryz.func93, Tryz.ntmps93
    go_wp2_with (first | (go_at_call 67; refine (hf _).mono ?_; rintro x w1 ⟨rfl, rfl⟩; clear hf) | (go_at_call 67; refine (ht _).mono ?_; rintro x w1 ⟨rfl, rfl⟩; clear ht) | (go_at_call 67; refine (ho _).mono ?_; rintro x w1 ⟨rfl, rfl⟩; clear ho))
    go_ret
    exact ⟨by first | rfl | simp, below1 _ _⟩
  case pos =>
  rw [decide_eq_true h5] at ho
  rw [decide_eq_true (show standP _ e f t o n by unfold standP; omega)]
  go_enter Tryz.func93, Tryz.ntmps93
  go_wp2_with (first | (go_at_call 67; refine (hf _).mono ?_; rintro x w1 ⟨rfl, rfl⟩; clear hf) | (go_at_call 67; refine (ht _).mono ?_; rintro x w1 ⟨rfl, rfl⟩; clear ht) | (go_at_call 67; refine (ho _).mono ?_; rintro x w1 ⟨rfl, rfl⟩; clear ho))
  go_ret
  exact ⟨by first | rfl | simp, below1 _ _⟩
set_option maxHeartbeats 1000000 in
theorem mayStand_2 (e f t o : Int) (a : Option Addr) (n c : Nat) (w : World) : Calls Tryz.prog 93 #[bVal 2 e f t o a n c] w fun x w' => x = .returned (.bool (decide (standP 2 e f t o n))) ∧ Below w.heap.size w w' := by
  by_cases h1 : 1 ≤ e
  case neg =>
    rw [decide_eq_false (show ¬ standP _ e f t o n by unfold standP; omega)]
    go_enter Tryz.func93, Tryz.ntmps93
    go_wp2
    go_ret
    exact ⟨by first | rfl | simp, below1 _ _⟩
  case pos =>
  by_cases h2 : e ≤ 1048576
  case neg =>
    rw [decide_eq_false (show ¬ standP _ e f t o n by unfold standP; omega)]
    go_enter Tryz.func93, Tryz.ntmps93
    go_wp2
    go_ret
    exact ⟨by first | rfl | simp, below1 _ _⟩
  case pos =>
  have hf := fun w => within_any f 0 w
  by_cases h3 : 0 ≤ f ∧ f ≤ 0
  case neg =>
    rw [decide_eq_false h3] at hf
    rw [decide_eq_false (show ¬ standP _ e f t o n by unfold standP; omega)]
    go_enter Tryz.func93, Tryz.ntmps93
    go_wp2_with (first | (go_at_call 67; refine (hf _).mono ?_; rintro x w1 ⟨rfl, rfl⟩; clear hf))
    go_ret
    exact ⟨by first | rfl | simp, below1 _ _⟩
  case pos =>
  rw [decide_eq_true h3] at hf
  have ht := fun w => within_any t 4 w
  by_cases h4 : 0 ≤ t ∧ t ≤ 4
  case neg =>
    rw [decide_eq_false h4] at ht
    rw [decide_eq_false (show ¬ standP _ e f t o n by unfold standP; omega)]
    go_enter Tryz.func93, Tryz.ntmps93
    go_wp2_with (first | (go_at_call 67; refine (hf _).mono ?_; rintro x w1 ⟨rfl, rfl⟩; clear hf) | (go_at_call 67; refine (ht _).mono ?_; rintro x w1 ⟨rfl, rfl⟩; clear ht))
    go_ret
    exact ⟨by first | rfl | simp, below1 _ _⟩
  case pos =>
  rw [decide_eq_true h4] at ht
  have ho := fun w => within_any o 4 w
  by_cases h5 : 0 ≤ o ∧ o ≤ 4
  case neg =>
    rw [decide_eq_false h5] at ho
    rw [decide_eq_false (show ¬ standP _ e f t o n by unfold standP; omega)]
    go_enter Tryz.func93, Tryz.ntmps93
    go_wp2_with (first | (go_at_call 67; refine (hf _).mono ?_; rintro x w1 ⟨rfl, rfl⟩; clear hf) | (go_at_call 67; refine (ht _).mono ?_; rintro x w1 ⟨rfl, rfl⟩; clear ht) | (go_at_call 67; refine (ho _).mono ?_; rintro x w1 ⟨rfl, rfl⟩; clear ho))
    go_ret
    exact ⟨by first | rfl | simp, below1 _ _⟩
  case pos =>
  rw [decide_eq_true h5] at ho
  rw [decide_eq_true (show standP _ e f t o n by unfold standP; omega)]
  go_enter Tryz.func93, Tryz.ntmps93
  go_wp2_with (first | (go_at_call 67; refine (hf _).mono ?_; rintro x w1 ⟨rfl, rfl⟩; clear hf) | (go_at_call 67; refine (ht _).mono ?_; rintro x w1 ⟨rfl, rfl⟩; clear ht) | (go_at_call 67; refine (ho _).mono ?_; rintro x w1 ⟨rfl, rfl⟩; clear ho))
  go_ret
  exact ⟨by first | rfl | simp, below1 _ _⟩
set_option maxHeartbeats 1000000 in
theorem mayStand_3 (e f t o : Int) (a : Option Addr) (n c : Nat) (w : World) : Calls Tryz.prog 93 #[bVal 3 e f t o a n c] w fun x w' => x = .returned (.bool (decide (standP 3 e f t o n))) ∧ Below w.heap.size w w' := by
  by_cases h1 : 1 ≤ e
  case neg =>
    rw [decide_eq_false (show ¬ standP _ e f t o n by unfold standP; omega)]
    go_enter Tryz.func93, Tryz.ntmps93
    go_wp2
    go_ret
    exact ⟨by first | rfl | simp, below1 _ _⟩
  case pos =>
  by_cases h2 : e ≤ 1048576
  case neg =>
    rw [decide_eq_false (show ¬ standP _ e f t o n by unfold standP; omega)]
    go_enter Tryz.func93, Tryz.ntmps93
    go_wp2
    go_ret
    exact ⟨by first | rfl | simp, below1 _ _⟩
  case pos =>
  have hf := fun w => within_any f 0 w
  by_cases h3 : 0 ≤ f ∧ f ≤ 0
  case neg =>
    rw [decide_eq_false h3] at hf
    rw [decide_eq_false (show ¬ standP _ e f t o n by unfold standP; omega)]
    go_enter Tryz.func93, Tryz.ntmps93
    go_wp2_with (first | (go_at_call 67; refine (hf _).mono ?_; rintro x w1 ⟨rfl, rfl⟩; clear hf))
    go_ret
    exact ⟨by first | rfl | simp, below1 _ _⟩
  case pos =>
  rw [decide_eq_true h3] at hf
  have ht := fun w => within_any t 4 w
  by_cases h4 : 0 ≤ t ∧ t ≤ 4
  case neg =>
    rw [decide_eq_false h4] at ht
    rw [decide_eq_false (show ¬ standP _ e f t o n by unfold standP; omega)]
    go_enter Tryz.func93, Tryz.ntmps93
    go_wp2_with (first | (go_at_call 67; refine (hf _).mono ?_; rintro x w1 ⟨rfl, rfl⟩; clear hf) | (go_at_call 67; refine (ht _).mono ?_; rintro x w1 ⟨rfl, rfl⟩; clear ht))
    go_ret
    exact ⟨by first | rfl | simp, below1 _ _⟩
  case pos =>
  rw [decide_eq_true h4] at ht
  have ho := fun w => within_any o 0 w
  by_cases h5 : 0 ≤ o ∧ o ≤ 0
  case neg =>
    rw [decide_eq_false h5] at ho
    rw [decide_eq_false (show ¬ standP _ e f t o n by unfold standP; omega)]
    go_enter Tryz.func93, Tryz.ntmps93
    go_wp2_with (first | (go_at_call 67; refine (hf _).mono ?_; rintro x w1 ⟨rfl, rfl⟩; clear hf) | (go_at_call 67; refine (ht _).mono ?_; rintro x w1 ⟨rfl, rfl⟩; clear ht) | (go_at_call 67; refine (ho _).mono ?_; rintro x w1 ⟨rfl, rfl⟩; clear ho))
    go_ret
    exact ⟨by first | rfl | simp, below1 _ _⟩
  case pos =>
  rw [decide_eq_true h5] at ho
  rw [decide_eq_true (show standP _ e f t o n by unfold standP; omega)]
  go_enter Tryz.func93, Tryz.ntmps93
  go_wp2_with (first | (go_at_call 67; refine (hf _).mono ?_; rintro x w1 ⟨rfl, rfl⟩; clear hf) | (go_at_call 67; refine (ht _).mono ?_; rintro x w1 ⟨rfl, rfl⟩; clear ht) | (go_at_call 67; refine (ho _).mono ?_; rintro x w1 ⟨rfl, rfl⟩; clear ho))
  go_ret
  exact ⟨by first | rfl | simp, below1 _ _⟩
set_option maxHeartbeats 1000000 in
theorem mayStand_4 (e f t o : Int) (a : Option Addr) (n c : Nat) (w : World) : Calls Tryz.prog 93 #[bVal 4 e f t o a n c] w fun x w' => x = .returned (.bool (decide (standP 4 e f t o n))) ∧ Below w.heap.size w w' := by
  by_cases h1 : 1 ≤ e
  case neg =>
    rw [decide_eq_false (show ¬ standP _ e f t o n by unfold standP; omega)]
    go_enter Tryz.func93, Tryz.ntmps93
    go_wp2
    go_ret
    exact ⟨by first | rfl | simp, below1 _ _⟩
  case pos =>
  by_cases h2 : e ≤ 1048576
  case neg =>
    rw [decide_eq_false (show ¬ standP _ e f t o n by unfold standP; omega)]
    go_enter Tryz.func93, Tryz.ntmps93
    go_wp2
    go_ret
    exact ⟨by first | rfl | simp, below1 _ _⟩
  case pos =>
  have hf := fun w => within_any f 4 w
  by_cases h3 : 0 ≤ f ∧ f ≤ 4
  case neg =>
    rw [decide_eq_false h3] at hf
    rw [decide_eq_false (show ¬ standP _ e f t o n by unfold standP; omega)]
    go_enter Tryz.func93, Tryz.ntmps93
    go_wp2_with (first | (go_at_call 67; refine (hf _).mono ?_; rintro x w1 ⟨rfl, rfl⟩; clear hf))
    go_ret
    exact ⟨by first | rfl | simp, below1 _ _⟩
  case pos =>
  rw [decide_eq_true h3] at hf
  have ht := fun w => within_any t 0 w
  by_cases h4 : 0 ≤ t ∧ t ≤ 0
  case neg =>
    rw [decide_eq_false h4] at ht
    rw [decide_eq_false (show ¬ standP _ e f t o n by unfold standP; omega)]
    go_enter Tryz.func93, Tryz.ntmps93
    go_wp2_with (first | (go_at_call 67; refine (hf _).mono ?_; rintro x w1 ⟨rfl, rfl⟩; clear hf) | (go_at_call 67; refine (ht _).mono ?_; rintro x w1 ⟨rfl, rfl⟩; clear ht))
    go_ret
    exact ⟨by first | rfl | simp, below1 _ _⟩
  case pos =>
  rw [decide_eq_true h4] at ht
  have ho := fun w => within_any o 0 w
  by_cases h5 : 0 ≤ o ∧ o ≤ 0
  case neg =>
    rw [decide_eq_false h5] at ho
    rw [decide_eq_false (show ¬ standP _ e f t o n by unfold standP; omega)]
    go_enter Tryz.func93, Tryz.ntmps93
    go_wp2_with (first | (go_at_call 67; refine (hf _).mono ?_; rintro x w1 ⟨rfl, rfl⟩; clear hf) | (go_at_call 67; refine (ht _).mono ?_; rintro x w1 ⟨rfl, rfl⟩; clear ht) | (go_at_call 67; refine (ho _).mono ?_; rintro x w1 ⟨rfl, rfl⟩; clear ho))
    go_ret
    exact ⟨by first | rfl | simp, below1 _ _⟩
  case pos =>
  rw [decide_eq_true h5] at ho
  rw [decide_eq_true (show standP _ e f t o n by unfold standP; omega)]
  go_enter Tryz.func93, Tryz.ntmps93
  go_wp2_with (first | (go_at_call 67; refine (hf _).mono ?_; rintro x w1 ⟨rfl, rfl⟩; clear hf) | (go_at_call 67; refine (ht _).mono ?_; rintro x w1 ⟨rfl, rfl⟩; clear ht) | (go_at_call 67; refine (ho _).mono ?_; rintro x w1 ⟨rfl, rfl⟩; clear ho))
  go_ret
  exact ⟨by first | rfl | simp, below1 _ _⟩
theorem mayStand_any (r e f t o : Int) (a : Option Addr) (n c : Nat) (w : World) : Calls Tryz.prog 93 #[bVal r e f t o a n c] w fun x w' => x = .returned (.bool (decide (standP r e f t o n))) ∧ Below w.heap.size w w' := by
  by_cases h0 : r = 0
  · subst h0; exact mayStand_0 e f t o a n c w
  by_cases h1 : r = 1
  · subst h1; exact mayStand_1 e f t o a n c w
  by_cases h2 : r = 2
  · subst h2; exact mayStand_2 e f t o a n c w
  by_cases h3 : r = 3
  · subst h3; exact mayStand_3 e f t o a n c w
  by_cases h4 : r = 4
  · subst h4; exact mayStand_4 e f t o a n c w
  rw [decide_eq_false (show ¬ standP r e f t o n by unfold standP; omega)]
  go_enter Tryz.func93, Tryz.ntmps93
  go_wp2
  go_ret
  exact ⟨rfl, below1 _ _⟩
end Go.Proofs.YtegbndllfnimdaaGreat

namespace Go.Proofs.YtegbndllfnimdaaGreat
open Go.RowKit

theorem ret_replayed {W : World} {Z : Nat} {ep nx gv : Int} {r l : Value} {ws : Nat → Value} {er : Int} {tmps : Array Value} (q : qBlock W Z ep nx gv r l ws) (t2 : tmps[2]? = some (.pointer (some ⟨Z, 0, none⟩))) (t3 : tmps[3]? = some (.int .i64 er)) :
    (results Tryz.f63 tmps).run Tryz.prog W = .ok (.tuple #[qVal ep nx gv r l ws, .int .i64 er]) W := by
  have h1 := run_loadVar_row (P := Tryz.prog) W Z 37 37 _ (0, 0) _ q Tryz.underlying37 rfl (by rw [qCells_size]; exact Tryz.infoQ)
  simp [results, Tryz.results63, t2, t3, asAddr, h1]
theorem rd_made {w W1 : World} {r e f t o : Int} {a : Option Addr} {n c : Nat} (z1 : qBlock W1 (w.alloc (.cells (bCells r e f t o a n c) 26)).heap.size 0 0 0 (.slice none 0 0) (.slice none 0 0) zeroW)
    (b1 : Below (w.alloc (.cells (bCells r e f t o a n c) 26)).heap.size (w.alloc (.cells (bCells r e f t o a n c) 26)) W1) :
    bBlock W1 w.heap.size r e f t o a n c ∧ qBlock W1 (w.heap.size + 1) 0 0 0 (.slice none 0 0) (.slice none 0 0) zeroW ∧ Below w.heap.size w W1 := by
  rw [show (w.alloc (.cells (bCells r e f t o a n c) 26)).heap.size = w.heap.size + 1 by simp] at z1
  exact ⟨(bBlock.new w r e f t o a n c).next b1, z1, Below.next (below1 _ _) b1⟩
theorem QOut.zero (w w' : World) : QOut w w' St.zero (qVal 0 0 0 (.slice none 0 0) (.slice none 0 0) zeroW) := ⟨none, 0, none, 0, zeroW, rfl, RowK.nil _ _ _, RowK.nil _ _ _, Nat.le_refl _, Nat.le_refl _, fun _ => rfl, fun _ => rfl, zeroWins, fun x hx => (by cases hx), fun x hx => (by cases hx)⟩
/-- what replayed answers. -/
inductive Rb (B : Bt) : St → Int → Prop
  | yes {s : St} (ok : B.Ok) (ans : List An) (ht : Tells B.es s ans) : Rb B s 0
  | no (h : ¬ B.Ok) : Rb B St.zero 6
set_option maxRecDepth 20000 in
set_option maxHeartbeats 4000000 in
theorem replayed_any (B : Bt) (a : Option Addr) (c : Nat) (w : World) (hb : BIn w B a c) :
    Calls Tryz.prog 63 #[bVal B.r B.e B.f B.t B.o a B.es.length c] w fun x w' => ∃ y er s, x = .returned (.tuple #[y, .int .i64 er]) ∧ Rb B s er ∧ QOut w w' s y ∧ Below w.heap.size w w' := by
  have HM := fun w => mayStand_any B.r B.e B.f B.t B.o a B.es.length c w
  have HR : Hid (∀ W, Below w.heap.size w W → Calls Tryz.prog 13 #[.slice a B.es.length c] W fun e w' => ∃ x er s, e = .returned (.tuple #[x, .int .i64 er]) ∧ Rv B.es s er ∧ QOut W w' s x ∧ Below W.heap.size W w') := veil fun W b => replay_all B.es a c W (hb.row.below b)
  clear hb
  by_cases hs : standP B.r B.e B.f B.t B.o B.es.length
  case neg =>
    rw [decide_eq_false hs] at HM
    go_enter Tryz.func63, Tryz.ntmps63
    go_wp2_with (first
      | (refine q_alloc 2 rfl rfl rfl ?_; intro W1 z1 b1; obtain ⟨k1, y1, B1⟩ := rd_made z1 b1; obtain ⟨x0, x1, x2, x3, x4, x5⟩ := k1.cells; have HY := veil y1; have HB := veil B1; clear z1 b1 k1 y1 B1)
      | (go_at_call 93; refine (HM _).mono ?_; rintro x W2 ⟨rfl, b2⟩; clear HM x0 x1 x2 x3 x4 x5; have z2 := (unveil HY).next b2; have HB2 := veil (Below.next (unveil HB) b2); clear HY HB b2)
      | (refine q_build0 rfl rfl ?_)
      | (refine q_store (ra := none) (la := none) (rn := 0) (rc := 0) (ln := 0) (lc := 0) (ws' := zeroW) _ _ rfl rfl rfl rfl z2 zeroWins ?_; intro W4 q4 t4; have HQ4 := veil q4; have HT4 := veil t4; clear q4 t4))
    exact bodyPost_ret (ret_replayed (unveil HQ4) rfl rfl) rfl ⟨_, 6, St.zero, rfl, .no (fun ok => hs ok.stand), QOut.zero _ _, (unveil HT4).under (unveil HB2) (by omega)⟩
  case pos =>
  rw [decide_eq_true hs] at HM
  go_enter Tryz.func63, Tryz.ntmps63
  go_upto_region 4 with (first
    | (refine q_alloc 2 rfl rfl rfl ?_; intro W1 z1 b1; obtain ⟨k1, y1, B1⟩ := rd_made z1 b1; obtain ⟨x0, x1, x2, x3, x4, x5⟩ := k1.cells; have HK := veil k1; have HY := veil y1; have HB := veil B1; clear z1 b1 k1 y1 B1)
    | (go_at_call 93; refine (HM _).mono ?_; rintro x W2 ⟨rfl, b2⟩; clear HM x0 x1 x2 x3 x4 x5; obtain ⟨x0, x1, x2, x3, x4, x5⟩ := ((unveil HK).next b2).cells; have HY2 := veil ((unveil HY).next b2); have B2 := Below.next (unveil HB) b2; have hR := unveil HR W2 B2; have HB2 := veil B2; clear HY HB HR HK b2 B2)
    | (go_at_call 13; refine hR.mono ?_; rintro x W3 ⟨y, er, s, rfl, rv, ⟨⟨a1', c1', a2', c2', ws', rfl, r1, r2, l1', l2', n1, n2, hW', f1, f2⟩⟩, b3⟩; have HV := veil rv; have HY3 := veil ((unveil HY2).next b3); have HB3 := veil (Below.next (unveil HB2) b3); have hw2 := (unveil HB2).size; have hz2 : w.heap.size + 1 < W2.heap.size := (unveil HY2).lt; clear hR rv HY2 x0 x1 x2 x3 x4 x5)
    | (refine q_alloc 4 rfl rfl rfl ?_; intro W4 z4 b4)
    | (refine q_store (ra := a1') (la := a2') (ws' := ws') _ _ rfl rfl rfl rfl z4 hW' ?_; intro W5 q5 t5; have b5 := t5.under b4 (Nat.le_refl _); have HR1 := veil (r1.below b5); have HR2 := veil (r2.below b5); have y5 := (unveil HY3).next b5; have hlt := (unveil HY3).lt; have HB5 := veil (Below.next (unveil HB3) b5); clear z4 b4 t5 b5 HY3 HB3 r1 r2))
  have hne : w.heap.size + 1 ≠ W3.heap.size := by omega
  by_cases h0 : er = 0
  · subst h0
    go_wp2_with (first
      | (refine q_loads _ rfl rfl rfl q5 ?_)
      | (refine q_store (ra := a1') (la := a2') (ws' := ws') _ _ rfl rfl rfl rfl y5 hW' ?_; intro W6 q6 t6; have HQ6 := veil q6; have HT6 := veil t6; clear q6 t6))
    have t6 := unveil HT6
    have ok := ((unveil HV).ok hs).1 rfl
    obtain ⟨s', ans, ht⟩ := ok.told
    obtain ⟨rfl, _⟩ := (unveil HV).one (.told ans ok.len ht)
    have hl3 := (unveil HB2).size
    have hw1 : w.heap.size ≤ W2.heap.size := hl3
    exact bodyPost_ret (ret_replayed (unveil HQ6) rfl rfl) rfl ⟨_, 0, s, rfl, .yes ok ans ht, ⟨a1', c1', a2', c2', ws', rfl, t6.row (unveil HR1) (fun x hx _ => by have := f1 x hx; omega), t6.row (unveil HR2) (fun x hx _ => by have := f2 x hx; omega), l1', l2', n1, n2, hW', fun x hx => Nat.le_trans hw1 (f1 x hx), fun x hx => Nat.le_trans hw1 (f2 x hx)⟩, t6.under (unveil HB5) (by omega)⟩
  · clear q5
    go_wp2_with (first
      | (refine q_build0 rfl rfl ?_)
      | (refine q_store (ra := none) (la := none) (rn := 0) (rc := 0) (ln := 0) (lc := 0) (ws' := zeroW) _ _ rfl rfl rfl rfl y5 zeroWins ?_; intro W6 q6 t6; have HQ6 := veil q6; have HT6 := veil t6; clear q6 t6))
    exact bodyPost_ret (ret_replayed (unveil HQ6) rfl rfl) rfl ⟨_, 6, St.zero, rfl, .no (fun ok => h0 (((unveil HV).ok hs).2 ok)), QOut.zero _ _, (unveil HT6).under (unveil HB5) (by omega)⟩
set_option maxRecDepth 20000 in
set_option maxHeartbeats 4000000 in
theorem bcheck_any (B : Bt) (a : Option Addr) (c : Nat) (w : World) (hb : BIn w B a c) :
    Calls Tryz.prog 43 #[bVal B.r B.e B.f B.t B.o a B.es.length c] w fun x w' => ∃ er, x = .returned (.int .i64 er) ∧ ((er = 0 ∧ B.Ok) ∨ (er = 6 ∧ ¬ B.Ok)) ∧ Below w.heap.size w w' := by
  have HR : Hid (∀ W, Below w.heap.size w W → Calls Tryz.prog 63 #[bVal B.r B.e B.f B.t B.o a B.es.length c] W fun x w' => ∃ y er s, x = .returned (.tuple #[y, .int .i64 er]) ∧ Rb B s er ∧ QOut W w' s y ∧ Below W.heap.size W w') := veil fun W b => replayed_any B a c W (hb.next b)
  clear hb
  go_enter Tryz.func43, Tryz.ntmps43
  go_wp2_with (first
    | (go_at_call 63; refine (unveil HR _ (below1 _ _)).mono ?_; rintro x W3 ⟨y, er, s, rfl, rv, ⟨⟨a1', c1', a2', c2', ws', rfl, r1, r2, l1', l2', n1, n2, hW', f1, f2⟩⟩, b3⟩; have HV := veil rv; have HB3 := veil (Below.next (below1 _ _) b3); clear rv b3)
    | (refine q_alloc 3 rfl rfl rfl ?_; intro W4 z4 b4)
    | (refine q_store (ra := a1') (la := a2') (ws' := ws') _ _ rfl rfl rfl rfl z4 hW' ?_; intro W5 q5 t5; have HB5 := veil (Below.next (unveil HB3) (t5.under b4 (Nat.le_refl _))); clear q5 t5 z4 b4))
  go_ret
  refine ⟨er, rfl, ?_, unveil HB5⟩
  cases unveil HV with
  | yes ok => exact .inl ⟨rfl, ok⟩
  | no h => exact .inr ⟨rfl, h⟩
theorem bcheck_yes (B : Bt) (a : Option Addr) (c : Nat) (w : World) (hb : BIn w B a c) (ok : B.Ok) :
    Calls Tryz.prog 43 #[bVal B.r B.e B.f B.t B.o a B.es.length c] w fun x w' => x = .returned (.int .i64 0) ∧ Below w.heap.size w w' := by
  refine (bcheck_any B a c w hb).mono ?_
  rintro x w' ⟨er, rfl, ⟨rfl, _⟩ | ⟨_, h⟩, b⟩
  · exact ⟨rfl, b⟩
  · exact absurd ok h
theorem bcheck_no (B : Bt) (a : Option Addr) (c : Nat) (w : World) (hb : BIn w B a c) (ok : ¬ B.Ok) :
    Calls Tryz.prog 43 #[bVal B.r B.e B.f B.t B.o a B.es.length c] w fun x w' => x = .returned (.int .i64 6) ∧ Below w.heap.size w w' := by
  refine (bcheck_any B a c w hb).mono ?_
  rintro x w' ⟨er, rfl, ⟨_, h⟩ | ⟨rfl, _⟩, b⟩
  · exact absurd h ok
  · exact ⟨rfl, b⟩
/-- the box of an argument and the zero box of the answer. -/
structure Mb (w wx : World) (B : Bt) (a : Option Addr) (c : Nat) : Prop where
  b : bBlock wx w.heap.size B.r B.e B.f B.t B.o a B.es.length c
  z : bBlock wx (w.heap.size + 1) 0 0 0 0 0 none 0 0
  bel : Below w.heap.size w wx
theorem Mb.next {w wx wy : World} {B : Bt} {a : Option Addr} {c : Nat} (h : Mb w wx B a c) (b : Below wx.heap.size wx wy) : Mb w wy B a c := ⟨h.b.next b, h.z.next b, Below.next h.bel b⟩
theorem Mb.made (w : World) (B : Bt) (a : Option Addr) (c : Nat) : ∃ W, W = (w.alloc (.cells (bCells B.r B.e B.f B.t B.o a B.es.length c) 26)).alloc (.cells (bCells 0 0 0 0 0 none 0 0) 26) ∧ Mb w W B a c := by
  refine ⟨_, rfl, (bBlock.new w _ _ _ _ _ _ _ _).next (below1 _ _), ?_, below2 _ _ _⟩
  have h0 := bBlock.new (w.alloc (.cells (bCells B.r B.e B.f B.t B.o a B.es.length c) 26)) 0 0 0 0 0 none 0 0
  rw [show (w.alloc (.cells (bCells B.r B.e B.f B.t B.o a B.es.length c) 26)).heap.size = w.heap.size + 1 by simp] at h0
  exact h0
theorem ret_bwith {W : World} {R : Nat} {r e f t o : Int} {a : Option Addr} {n c : Nat} {tmps : Array Value} (d : bBlock W R r e f t o a n c) (t4 : tmps[4]? = some (.pointer (some ⟨R, 0, none⟩))) :
    (results Tryz.f59 tmps).run Tryz.prog W = .ok (bVal r e f t o a n c) W := by
  simp [results, Tryz.results59, t4, asAddr, load_berth d]
theorem evFlat_append (A B : List Ev) : evFlat (A ++ B) = evFlat A ++ evFlat B := by simp [evFlat]
/-- some events more. -/
theorem bwith_any (B : Bt) (a : Option Addr) (c : Nat) (l : List Ev) (b : Option Addr) (lb cb : Nat) (w : World) (hb : BIn w B a c) (hl : l.length = lb) (hr : RowK .i64 w b (6 * lb) (evFlat l)) (nb : b = none → cb = 0) (hs : B.es.length + lb ≤ 1000000) :
    Calls Tryz.prog 59 #[bVal B.r B.e B.f B.t B.o a B.es.length c, .slice b lb cb] w fun x w' => ∃ y, x = .returned y ∧ BOut w w' (B.more l) y ∧ Below w.heap.size w w' := by
  have HC : Hid (∀ W, Below w.heap.size w W → Calls Tryz.prog 66 #[.slice a B.es.length c, .slice b lb cb] W fun e w' => ∃ a' c', e = .returned (.slice a' (B.es.length + lb : Nat) c') ∧ RowK .i64 w' a' (6 * (B.es.length + lb)) (evFlat B.es ++ evFlat l) ∧ B.es.length + lb ≤ c' ∧ (a' = none → c' = 0) ∧ (∀ x, a' = some x → W.heap.size ≤ x.block) ∧ Below W.heap.size W w') := veil fun W bb => behind_any a b B.es.length c lb cb (evFlat B.es) (evFlat l) W (hb.row.below bb) (hr.below bb) hb.nil nb hs
  clear hb hr
  obtain ⟨n, hn⟩ : ∃ n, n = B.es.length + lb := ⟨_, rfl⟩
  rw [← hn] at HC
  have HN := veil hn
  clear hn
  go_enter Tryz.func59, Tryz.ntmps59
  go_upto_region 1 with fail
  obtain ⟨W1, hW1, M1⟩ := Mb.made w B a c
  rw [← hW1]
  clear hW1
  have h0 := M1.b.lt
  have h1 := M1.z.lt
  have hC := unveil HC W1 M1.bel
  obtain ⟨x0, x1, x2, x3, x4, x5⟩ := M1.b.cells
  have HM := veil M1
  clear HC M1
  go_upto_region 2 with (go_at_call 66; refine hC.mono ?_; rintro x W2 ⟨a', c', rfl, r2, hc2, n2, u2, b2⟩; have M2 := (unveil HM).next b2; clear hC x0 x1 x2 x3 x4 x5; obtain ⟨x0, x1, x2, x3, x4, x5⟩ := M2.b.cells; have xf := M2.b.free; have HM2 := veil M2; have HR2 := veil r2; have HU2 := veil u2; have hs2 := b2.size; clear M2 r2 u2 b2 HM)
  have M2 := unveil HM2
  obtain ⟨W3, hW3, k3, t3⟩ : ∃ W3, W3 = W2.setCell ⟨w.heap.size, 5, none⟩ (.slice a' n c') ∧ bBlock W3 w.heap.size B.r B.e B.f B.t B.o a' n c' ∧ Turned w.heap.size W2 W3 := by
    refine ⟨_, rfl, ?_, Turned.set _ _ _ _⟩
    have := M2.b
    unfold bBlock at this ⊢
    rw [heap_setB this]
    simp
  rw [← hW3]
  clear hW3
  have z3 := M2.z.turned t3 (by omega)
  have B3 := t3.under M2.bel (Nat.le_refl _)
  have r3 := t3.row (unveil HR2) (fun x hx _ => by have := unveil HU2 x hx; omega)
  obtain ⟨y0, y1, y2, y3, y4, y5⟩ := k3.cells
  obtain ⟨z0, z1, z2, z33, z4, z5⟩ := z3.cells
  have zf := z3.free
  have HZ3 := veil z3
  have HB3 := veil B3
  have HR3 := veil r3
  clear x0 x1 x2 x3 x4 x5 xf M2 z3 B3 r3 k3 t3
  go_wp2
  obtain ⟨W4, hW4, d4, b4, t4⟩ := b_stored (unveil HZ3) (unveil HB3) (show w.heap.size ≤ w.heap.size + 1 by omega) B.r B.e B.f B.t B.o a' n c'
  rw [← hW4]
  have hne : (B.more l).es.length = n := by rw [unveil HN]; simp [Bt.more, hl]
  refine bodyPost_ret (ret_bwith d4 rfl) rfl ⟨_, rfl, ⟨a', c', ?_, ⟨?_, ?_, n2⟩, fun x hx => ?_⟩, b4⟩
  · rw [hne]; rfl
  · rw [hne]
    show RowK .i64 W4 a' (6 * n) (evFlat (B.es ++ l))
    rw [evFlat_append]
    exact t4.row (unveil HR3) (fun x hx _ => by have := unveil HU2 x hx; omega)
  · rw [hne]; exact hc2
  · have := unveil HU2 x hx; omega
theorem Bt.more_nil (B : Bt) : B.more [] = B := by simp [Bt.more]
theorem bwith_none (B : Bt) (a : Option Addr) (c : Nat) (w : World) (hb : BIn w B a c) (hs : B.es.length ≤ 2000) :
    Calls Tryz.prog 59 #[bVal B.r B.e B.f B.t B.o a B.es.length c, .slice none 0 0] w fun x w' => ∃ y, x = .returned y ∧ BOut w w' B y ∧ Below w.heap.size w w' := by
  have := bwith_any B a c [] none 0 0 w hb rfl (RowK.nil _ _ _) (fun _ => rfl) (by omega)
  rw [Bt.more_nil] at this
  exact this
end Go.Proofs.YtegbndllfnimdaaGreat

namespace Go.Proofs.YtegbndllfnimdaaGreat
open Go.RowKit

theorem ret_bMake {W : World} {R : Nat} {r e f t o : Int} {a : Option Addr} {n c : Nat} {er : Int} {tmps : Array Value} (d : bBlock W R r e f t o a n c) (t1 : tmps[4]? = some (.pointer (some ⟨R, 0, none⟩))) (t2 : tmps[5]? = some (.int .i64 er)) :
    (results Tryz.f56 tmps).run Tryz.prog W = .ok (.tuple #[bVal r e f t o a n c, .int .i64 er]) W := by
  simp [results, Tryz.results56, t1, t2, asAddr, load_berth d]
set_option maxRecDepth 20000 in
set_option maxHeartbeats 4000000 in
theorem bmake_any (B : Bt) (a : Option Addr) (c : Nat) (ep : Int) (w : World) (hb : BIn w B a c) : Calls Tryz.prog 56 #[bVal B.r B.e B.f B.t B.o a B.es.length c, .int .i64 ep] w fun x w' => ∃ y B' er, x = .returned (.tuple #[y, .int .i64 er]) ∧ makeOf B ep = (B', er) ∧ BOut w w' B' y ∧ Below w.heap.size w w' := by
  have HE := fun w => isEpoch_any ep w
  by_cases ok : B.Ok
  case neg =>
    go_enter Tryz.func56, Tryz.ntmps56
    go_upto_region 1 with fail
    obtain ⟨W1, hW1, M1⟩ := Mb.made w B a c
    rw [← hW1]
    clear hW1
    have HC := bcheck_no B a c W1 (hb.next M1.bel) ok
    obtain ⟨x0, x1, x2, x3, x4, x5⟩ := M1.b.cells
    have HM := veil M1
    clear M1
    go_wp2_with (first | (go_at_call 43; refine HC.mono ?_; rintro x W2 ⟨rfl, b2⟩; clear HC x0 x1 x2 x3 x4 x5; have M2 := (unveil HM).next b2; obtain ⟨x0, x1, x2, x3, x4, x5⟩ := M2.b.cells; have HM2 := veil M2; clear M2 b2 HM) | (go_at_call 44; refine (refuse_any _ _).mono ?_; rintro x W9 ⟨rfl, b9⟩; have M9 := (unveil HM2).next b9; clear x0 x1 x2 x3 x4 x5; obtain ⟨z0, z1, z2, z3, z4, z5⟩ := M9.z.cells; have zf := M9.z.free; have HM9 := veil M9; clear M9 b9 HM2))
    obtain ⟨W4, hW4, d4, b4, _⟩ := b_stored (unveil HM9).z (unveil HM9).bel (show w.heap.size ≤ w.heap.size + 1 by omega) 0 0 0 0 0 none 0 0
    rw [← hW4]
    exact bodyPost_ret (ret_bMake d4 rfl rfl) rfl ⟨_, _, _, rfl, by simp [makeOf, ok], BOut.zero _ _, b4⟩
  case pos =>
  by_cases h1 : 1 ≤ ep ∧ ep ≤ 1048576
  case neg =>
    rw [decide_eq_false h1] at HE
    go_enter Tryz.func56, Tryz.ntmps56
    go_upto_region 1 with fail
    obtain ⟨W1, hW1, M1⟩ := Mb.made w B a c
    rw [← hW1]
    clear hW1
    have HC := bcheck_yes B a c W1 (hb.next M1.bel) ok
    obtain ⟨x0, x1, x2, x3, x4, x5⟩ := M1.b.cells
    have HM := veil M1
    clear M1
    go_wp2_with (first | (go_at_call 43; refine HC.mono ?_; rintro x W2 ⟨rfl, b2⟩; clear HC x0 x1 x2 x3 x4 x5; have M2 := (unveil HM).next b2; obtain ⟨x0, x1, x2, x3, x4, x5⟩ := M2.b.cells; have HM2 := veil M2; clear M2 b2 HM) | (go_at_call 61; refine (HE _).mono ?_; rintro x w3 ⟨rfl, hw3⟩; subst w3) | (go_at_call 44; refine (refuse_any _ _).mono ?_; rintro x W9 ⟨rfl, b9⟩; have M9 := (unveil HM2).next b9; clear x0 x1 x2 x3 x4 x5; obtain ⟨z0, z1, z2, z3, z4, z5⟩ := M9.z.cells; have zf := M9.z.free; have HM9 := veil M9; clear M9 b9 HM2))
    obtain ⟨W4, hW4, d4, b4, _⟩ := b_stored (unveil HM9).z (unveil HM9).bel (show w.heap.size ≤ w.heap.size + 1 by omega) 0 0 0 0 0 none 0 0
    rw [← hW4]
    exact bodyPost_ret (ret_bMake d4 rfl rfl) rfl ⟨_, _, _, rfl, by simp [makeOf, ok, h1], BOut.zero _ _, b4⟩
  case pos =>
  rw [decide_eq_true h1] at HE
  have H1 := veil h1
  clear h1
  by_cases h2 : B.r = 0
  case neg =>
    go_enter Tryz.func56, Tryz.ntmps56
    go_upto_region 1 with fail
    obtain ⟨W1, hW1, M1⟩ := Mb.made w B a c
    rw [← hW1]
    clear hW1
    have HC := bcheck_yes B a c W1 (hb.next M1.bel) ok
    obtain ⟨x0, x1, x2, x3, x4, x5⟩ := M1.b.cells
    have HM := veil M1
    clear M1
    go_wp2_with (first | (go_at_call 43; refine HC.mono ?_; rintro x W2 ⟨rfl, b2⟩; clear HC x0 x1 x2 x3 x4 x5; have M2 := (unveil HM).next b2; obtain ⟨x0, x1, x2, x3, x4, x5⟩ := M2.b.cells; have HM2 := veil M2; clear M2 b2 HM) | (go_at_call 61; refine (HE _).mono ?_; rintro x w3 ⟨rfl, hw3⟩; subst w3) | (go_at_call 44; refine (refuse_any _ _).mono ?_; rintro x W9 ⟨rfl, b9⟩; have M9 := (unveil HM2).next b9; clear x0 x1 x2 x3 x4 x5; obtain ⟨z0, z1, z2, z3, z4, z5⟩ := M9.z.cells; have zf := M9.z.free; have HM9 := veil M9; clear M9 b9 HM2))
    obtain ⟨W4, hW4, d4, b4, _⟩ := b_stored (unveil HM9).z (unveil HM9).bel (show w.heap.size ≤ w.heap.size + 1 by omega) 0 0 0 0 0 none 0 0
    rw [← hW4]
    exact bodyPost_ret (ret_bMake d4 rfl rfl) rfl ⟨_, _, _, rfl, by simp [makeOf, ok, unveil H1, h2], BOut.zero _ _, b4⟩
  case pos =>
  have H2 := veil h2
  by_cases h3 : ep ≤ B.e
  case pos =>
    clear h2
    go_enter Tryz.func56, Tryz.ntmps56
    go_upto_region 1 with fail
    obtain ⟨W1, hW1, M1⟩ := Mb.made w B a c
    rw [← hW1]
    clear hW1
    have HC := bcheck_yes B a c W1 (hb.next M1.bel) ok
    obtain ⟨x0, x1, x2, x3, x4, x5⟩ := M1.b.cells
    have HM := veil M1
    clear M1
    go_upto_region 5 with (first | (go_at_call 43; refine HC.mono ?_; rintro x W2 ⟨rfl, b2⟩; clear HC x0 x1 x2 x3 x4 x5; have M2 := (unveil HM).next b2; obtain ⟨x0, x1, x2, x3, x4, x5⟩ := M2.b.cells; have HM2 := veil M2; clear M2 b2 HM) | (go_at_call 61; refine (HE _).mono ?_; rintro x w3 ⟨rfl, hw3⟩; subst w3))
    have h2 := unveil H2
    go_wp2_with (first | (go_at_call 44; refine (refuse_any _ _).mono ?_; rintro x W9 ⟨rfl, b9⟩; have M9 := (unveil HM2).next b9; clear x0 x1 x2 x3 x4 x5; obtain ⟨z0, z1, z2, z3, z4, z5⟩ := M9.z.cells; have zf := M9.z.free; have HM9 := veil M9; clear M9 b9 HM2))
    obtain ⟨W4, hW4, d4, b4, _⟩ := b_stored (unveil HM9).z (unveil HM9).bel (show w.heap.size ≤ w.heap.size + 1 by omega) 0 0 0 0 0 none 0 0
    rw [← hW4]
    exact bodyPost_ret (ret_bMake d4 rfl rfl) rfl ⟨_, _, _, rfl, by simp [makeOf, ok, unveil H1, h2, h3], BOut.zero _ _, b4⟩
  case neg =>
  clear h2
  go_enter Tryz.func56, Tryz.ntmps56
  go_upto_region 1 with fail
  obtain ⟨W1, hW1, M1⟩ := Mb.made w B a c
  rw [← hW1]
  clear hW1
  have HC := bcheck_yes B a c W1 (hb.next M1.bel) ok
  obtain ⟨x0, x1, x2, x3, x4, x5⟩ := M1.b.cells
  have HM := veil M1
  clear M1
  go_upto_region 5 with (first | (go_at_call 43; refine HC.mono ?_; rintro x W2 ⟨rfl, b2⟩; clear HC x0 x1 x2 x3 x4 x5; have M2 := (unveil HM).next b2; obtain ⟨x0, x1, x2, x3, x4, x5⟩ := M2.b.cells; have HM2 := veil M2; clear M2 b2 HM) | (go_at_call 61; refine (HE _).mono ?_; rintro x w3 ⟨rfl, hw3⟩; subst w3))
  have h2 := unveil H2
  go_upto_region 9 with fail
  clear x0 x1 x2 x3 x4 x5
  obtain ⟨z0, z1, z2, z3, z4, z5⟩ := (unveil HM2).z.cells
  have zf := (unveil HM2).z.free
  go_wp2
  obtain ⟨W4, hW4, d4, b4, _⟩ := b_stored (unveil HM2).z (unveil HM2).bel (show w.heap.size ≤ w.heap.size + 1 by omega) 1 ep 0 0 0 none 0 0
  rw [← hW4]
  exact bodyPost_ret (ret_bMake d4 rfl rfl) rfl ⟨_, ⟨1, ep, 0, 0, 0, []⟩, 0, rfl, by simp [makeOf, ok, unveil H1, h2, h3], ⟨none, 0, rfl, ⟨RowK.nil _ _ _, Nat.le_refl _, fun _ => rfl⟩, fun x hx => by cases hx⟩, b4⟩
theorem ret_bForget {W : World} {R : Nat} {r e f t o : Int} {a : Option Addr} {n c : Nat} {er : Int} {tmps : Array Value} (d : bBlock W R r e f t o a n c) (t1 : tmps[4]? = some (.pointer (some ⟨R, 0, none⟩))) (t2 : tmps[5]? = some (.int .i64 er)) :
    (results Tryz.f15 tmps).run Tryz.prog W = .ok (.tuple #[bVal r e f t o a n c, .int .i64 er]) W := by
  simp [results, Tryz.results15, t1, t2, asAddr, load_berth d]
set_option maxRecDepth 20000 in
set_option maxHeartbeats 4000000 in
theorem bforget_any (B : Bt) (a : Option Addr) (c : Nat) (ep : Int) (w : World) (hb : BIn w B a c) : Calls Tryz.prog 15 #[bVal B.r B.e B.f B.t B.o a B.es.length c, .int .i64 ep] w fun x w' => ∃ y B' er, x = .returned (.tuple #[y, .int .i64 er]) ∧ forgetOf B ep = (B', er) ∧ BOut w w' B' y ∧ Below w.heap.size w w' := by
  by_cases ok : B.Ok
  case neg =>
    go_enter Tryz.func15, Tryz.ntmps15
    go_upto_region 1 with fail
    obtain ⟨W1, hW1, M1⟩ := Mb.made w B a c
    rw [← hW1]
    clear hW1
    have HC := bcheck_no B a c W1 (hb.next M1.bel) ok
    obtain ⟨x0, x1, x2, x3, x4, x5⟩ := M1.b.cells
    have HM := veil M1
    clear M1
    go_wp2_with (first | (go_at_call 43; refine HC.mono ?_; rintro x W2 ⟨rfl, b2⟩; clear HC x0 x1 x2 x3 x4 x5; have M2 := (unveil HM).next b2; obtain ⟨x0, x1, x2, x3, x4, x5⟩ := M2.b.cells; have HM2 := veil M2; clear M2 b2 HM) | (go_at_call 44; refine (refuse_any _ _).mono ?_; rintro x W9 ⟨rfl, b9⟩; have M9 := (unveil HM2).next b9; clear x0 x1 x2 x3 x4 x5; obtain ⟨z0, z1, z2, z3, z4, z5⟩ := M9.z.cells; have zf := M9.z.free; have HM9 := veil M9; clear M9 b9 HM2))
    obtain ⟨W4, hW4, d4, b4, _⟩ := b_stored (unveil HM9).z (unveil HM9).bel (show w.heap.size ≤ w.heap.size + 1 by omega) 0 0 0 0 0 none 0 0
    rw [← hW4]
    exact bodyPost_ret (ret_bForget d4 rfl rfl) rfl ⟨_, _, _, rfl, by simp [forgetOf, ok], BOut.zero _ _, b4⟩
  case pos =>
  by_cases h2 : B.r = 3
  case neg =>
    go_enter Tryz.func15, Tryz.ntmps15
    go_upto_region 1 with fail
    obtain ⟨W1, hW1, M1⟩ := Mb.made w B a c
    rw [← hW1]
    clear hW1
    have HC := bcheck_yes B a c W1 (hb.next M1.bel) ok
    obtain ⟨x0, x1, x2, x3, x4, x5⟩ := M1.b.cells
    have HM := veil M1
    clear M1
    go_wp2_with (first | (go_at_call 43; refine HC.mono ?_; rintro x W2 ⟨rfl, b2⟩; clear HC x0 x1 x2 x3 x4 x5; have M2 := (unveil HM).next b2; obtain ⟨x0, x1, x2, x3, x4, x5⟩ := M2.b.cells; have HM2 := veil M2; clear M2 b2 HM) | (go_at_call 44; refine (refuse_any _ _).mono ?_; rintro x W9 ⟨rfl, b9⟩; have M9 := (unveil HM2).next b9; clear x0 x1 x2 x3 x4 x5; obtain ⟨z0, z1, z2, z3, z4, z5⟩ := M9.z.cells; have zf := M9.z.free; have HM9 := veil M9; clear M9 b9 HM2))
    obtain ⟨W4, hW4, d4, b4, _⟩ := b_stored (unveil HM9).z (unveil HM9).bel (show w.heap.size ≤ w.heap.size + 1 by omega) 0 0 0 0 0 none 0 0
    rw [← hW4]
    exact bodyPost_ret (ret_bForget d4 rfl rfl) rfl ⟨_, _, _, rfl, by simp [forgetOf, ok, h2], BOut.zero _ _, b4⟩
  case pos =>
  have H2 := veil h2
  clear h2
  by_cases h3 : ep ≤ B.e
  case pos =>
    go_enter Tryz.func15, Tryz.ntmps15
    go_upto_region 1 with fail
    obtain ⟨W1, hW1, M1⟩ := Mb.made w B a c
    rw [← hW1]
    clear hW1
    have HC := bcheck_yes B a c W1 (hb.next M1.bel) ok
    obtain ⟨x0, x1, x2, x3, x4, x5⟩ := M1.b.cells
    have HM := veil M1
    clear M1
    go_upto_region 3 with (first | (go_at_call 43; refine HC.mono ?_; rintro x W2 ⟨rfl, b2⟩; clear HC x0 x1 x2 x3 x4 x5; have M2 := (unveil HM).next b2; obtain ⟨x0, x1, x2, x3, x4, x5⟩ := M2.b.cells; have HM2 := veil M2; clear M2 b2 HM))
    have h2 := unveil H2
    go_wp2_with (first | (go_at_call 44; refine (refuse_any _ _).mono ?_; rintro x W9 ⟨rfl, b9⟩; have M9 := (unveil HM2).next b9; clear x0 x1 x2 x3 x4 x5; obtain ⟨z0, z1, z2, z3, z4, z5⟩ := M9.z.cells; have zf := M9.z.free; have HM9 := veil M9; clear M9 b9 HM2))
    obtain ⟨W4, hW4, d4, b4, _⟩ := b_stored (unveil HM9).z (unveil HM9).bel (show w.heap.size ≤ w.heap.size + 1 by omega) 0 0 0 0 0 none 0 0
    rw [← hW4]
    exact bodyPost_ret (ret_bForget d4 rfl rfl) rfl ⟨_, _, _, rfl, by simp [forgetOf, ok, h2, h3], BOut.zero _ _, b4⟩
  case neg =>
  go_enter Tryz.func15, Tryz.ntmps15
  go_upto_region 1 with fail
  obtain ⟨W1, hW1, M1⟩ := Mb.made w B a c
  rw [← hW1]
  clear hW1
  have HC := bcheck_yes B a c W1 (hb.next M1.bel) ok
  obtain ⟨x0, x1, x2, x3, x4, x5⟩ := M1.b.cells
  have HM := veil M1
  clear M1
  go_upto_region 3 with (first | (go_at_call 43; refine HC.mono ?_; rintro x W2 ⟨rfl, b2⟩; clear HC x0 x1 x2 x3 x4 x5; have M2 := (unveil HM).next b2; obtain ⟨x0, x1, x2, x3, x4, x5⟩ := M2.b.cells; have HM2 := veil M2; clear M2 b2 HM))
  have h2 := unveil H2
  go_upto_region 7 with fail
  have h4 := (unveil HM2).z.lt
  obtain ⟨z0, z1, z2, z3, z4, z5⟩ := (unveil HM2).z.cells
  have zf := (unveil HM2).z.free
  go_wp2
  obtain ⟨W4, hW4, d4, b4, _⟩ := b_stored (unveil HM2).z (unveil HM2).bel (show w.heap.size ≤ w.heap.size + 1 by omega) 0 B.e 0 0 0 none 0 0
  rw [← hW4]
  exact bodyPost_ret (ret_bForget d4 rfl rfl) rfl ⟨_, ⟨0, B.e, 0, 0, 0, []⟩, 0, rfl, by simp [forgetOf, ok, h2, h3], ⟨none, 0, rfl, ⟨RowK.nil _ _ _, Nat.le_refl _, fun _ => rfl⟩, fun x hx => by cases hx⟩, b4⟩
theorem ret_bGo {W : World} {R : Nat} {r e f t o : Int} {a : Option Addr} {n c : Nat} {er : Int} {tmps : Array Value} (d : bBlock W R r e f t o a n c) (t1 : tmps[4]? = some (.pointer (some ⟨R, 0, none⟩))) (t2 : tmps[5]? = some (.int .i64 er)) :
    (results Tryz.f27 tmps).run Tryz.prog W = .ok (.tuple #[bVal r e f t o a n c, .int .i64 er]) W := by
  simp [results, Tryz.results27, t1, t2, asAddr, load_berth d]
set_option maxRecDepth 20000 in
set_option maxHeartbeats 4000000 in
theorem bgo_any (B : Bt) (a : Option Addr) (c : Nat) (nd : Int) (w : World) (hb : BIn w B a c) : Calls Tryz.prog 27 #[bVal B.r B.e B.f B.t B.o a B.es.length c, .int .i64 nd] w fun x w' => ∃ y B' er, x = .returned (.tuple #[y, .int .i64 er]) ∧ goesOf B nd = (B', er) ∧ BOut w w' B' y ∧ Below w.heap.size w w' := by
  have HN := fun w => isBerthNode_any nd w
  have HS := fun w => isSource_any B.r B.e B.f B.t B.o a B.es.length c w
  by_cases ok : B.Ok
  case neg =>
    go_enter Tryz.func27, Tryz.ntmps27
    go_upto_region 1 with fail
    obtain ⟨W1, hW1, M1⟩ := Mb.made w B a c
    rw [← hW1]
    clear hW1
    have HC := bcheck_no B a c W1 (hb.next M1.bel) ok
    obtain ⟨x0, x1, x2, x3, x4, x5⟩ := M1.b.cells
    have HM := veil M1
    clear M1
    go_wp2_with (first | (go_at_call 43; refine HC.mono ?_; rintro x W2 ⟨rfl, b2⟩; clear HC x0 x1 x2 x3 x4 x5; have M2 := (unveil HM).next b2; obtain ⟨x0, x1, x2, x3, x4, x5⟩ := M2.b.cells; have HM2 := veil M2; clear M2 b2 HM) | (go_at_call 44; refine (refuse_any _ _).mono ?_; rintro x W9 ⟨rfl, b9⟩; have M9 := (unveil HM2).next b9; clear x0 x1 x2 x3 x4 x5; obtain ⟨z0, z1, z2, z3, z4, z5⟩ := M9.z.cells; have zf := M9.z.free; have HM9 := veil M9; clear M9 b9 HM2))
    obtain ⟨W4, hW4, d4, b4, _⟩ := b_stored (unveil HM9).z (unveil HM9).bel (show w.heap.size ≤ w.heap.size + 1 by omega) 0 0 0 0 0 none 0 0
    rw [← hW4]
    exact bodyPost_ret (ret_bGo d4 rfl rfl) rfl ⟨_, _, _, rfl, by simp [goesOf, ok], BOut.zero _ _, b4⟩
  case pos =>
  by_cases h1 : 0 ≤ nd ∧ nd ≤ 4
  case neg =>
    rw [decide_eq_false h1] at HN
    go_enter Tryz.func27, Tryz.ntmps27
    go_upto_region 1 with fail
    obtain ⟨W1, hW1, M1⟩ := Mb.made w B a c
    rw [← hW1]
    clear hW1
    have HC := bcheck_yes B a c W1 (hb.next M1.bel) ok
    obtain ⟨x0, x1, x2, x3, x4, x5⟩ := M1.b.cells
    have HM := veil M1
    clear M1
    go_wp2_with (first | (go_at_call 43; refine HC.mono ?_; rintro x W2 ⟨rfl, b2⟩; clear HC x0 x1 x2 x3 x4 x5; have M2 := (unveil HM).next b2; obtain ⟨x0, x1, x2, x3, x4, x5⟩ := M2.b.cells; have HM2 := veil M2; clear M2 b2 HM) | (go_at_call 57; refine (HN _).mono ?_; rintro x w3 ⟨rfl, hw3⟩; subst w3) | (go_at_call 44; refine (refuse_any _ _).mono ?_; rintro x W9 ⟨rfl, b9⟩; have M9 := (unveil HM2).next b9; clear x0 x1 x2 x3 x4 x5; obtain ⟨z0, z1, z2, z3, z4, z5⟩ := M9.z.cells; have zf := M9.z.free; have HM9 := veil M9; clear M9 b9 HM2))
    obtain ⟨W4, hW4, d4, b4, _⟩ := b_stored (unveil HM9).z (unveil HM9).bel (show w.heap.size ≤ w.heap.size + 1 by omega) 0 0 0 0 0 none 0 0
    rw [← hW4]
    exact bodyPost_ret (ret_bGo d4 rfl rfl) rfl ⟨_, _, _, rfl, by simp [goesOf, ok, h1], BOut.zero _ _, b4⟩
  case pos =>
  rw [decide_eq_true h1] at HN
  have H1 := veil h1
  clear h1
  by_cases h2 : B.r = 2 ∨ B.r = 3
  case pos =>
    rw [decide_eq_true h2] at HS
    have H2 := veil h2
    clear h2
    go_enter Tryz.func27, Tryz.ntmps27
    go_upto_region 1 with fail
    obtain ⟨W1, hW1, M1⟩ := Mb.made w B a c
    rw [← hW1]
    clear hW1
    have HC := bcheck_yes B a c W1 (hb.next M1.bel) ok
    obtain ⟨x0, x1, x2, x3, x4, x5⟩ := M1.b.cells
    have HM := veil M1
    clear M1
    go_wp2_with (first | (go_at_call 43; refine HC.mono ?_; rintro x W2 ⟨rfl, b2⟩; clear HC x0 x1 x2 x3 x4 x5; have M2 := (unveil HM).next b2; obtain ⟨x0, x1, x2, x3, x4, x5⟩ := M2.b.cells; have HM2 := veil M2; clear M2 b2 HM) | (go_at_call 57; refine (HN _).mono ?_; rintro x w3 ⟨rfl, hw3⟩; subst w3) | (go_at_call 58; refine (HS _).mono ?_; rintro x W3 ⟨rfl, b3⟩; have M3 := (unveil HM2).next b3; clear HM2 x0 x1 x2 x3 x4 x5; obtain ⟨x0, x1, x2, x3, x4, x5⟩ := M3.b.cells; have HM2 := veil M3; clear M3 b3 HS) | (go_at_call 44; refine (refuse_any _ _).mono ?_; rintro x W9 ⟨rfl, b9⟩; have M9 := (unveil HM2).next b9; clear x0 x1 x2 x3 x4 x5; obtain ⟨z0, z1, z2, z3, z4, z5⟩ := M9.z.cells; have zf := M9.z.free; have HM9 := veil M9; clear M9 b9 HM2))
    obtain ⟨W4, hW4, d4, b4, _⟩ := b_stored (unveil HM9).z (unveil HM9).bel (show w.heap.size ≤ w.heap.size + 1 by omega) 0 0 0 0 0 none 0 0
    rw [← hW4]
    exact bodyPost_ret (ret_bGo d4 rfl rfl) rfl ⟨_, _, _, rfl, by simp only [goesOf]; rw [if_neg (fun h => h ok), if_neg (fun h => h (unveil H1)), if_pos (unveil H2)], BOut.zero _ _, b4⟩
  case neg =>
  rw [decide_eq_false h2] at HS
  have H2 := veil h2
  clear h2
  by_cases h3 : B.r = 1
  case neg =>
    go_enter Tryz.func27, Tryz.ntmps27
    go_upto_region 1 with fail
    obtain ⟨W1, hW1, M1⟩ := Mb.made w B a c
    rw [← hW1]
    clear hW1
    have HC := bcheck_yes B a c W1 (hb.next M1.bel) ok
    obtain ⟨x0, x1, x2, x3, x4, x5⟩ := M1.b.cells
    have HM := veil M1
    clear M1
    go_wp2_with (first | (go_at_call 43; refine HC.mono ?_; rintro x W2 ⟨rfl, b2⟩; clear HC x0 x1 x2 x3 x4 x5; have M2 := (unveil HM).next b2; obtain ⟨x0, x1, x2, x3, x4, x5⟩ := M2.b.cells; have HM2 := veil M2; clear M2 b2 HM) | (go_at_call 57; refine (HN _).mono ?_; rintro x w3 ⟨rfl, hw3⟩; subst w3) | (go_at_call 58; refine (HS _).mono ?_; rintro x W3 ⟨rfl, b3⟩; have M3 := (unveil HM2).next b3; clear HM2 x0 x1 x2 x3 x4 x5; obtain ⟨x0, x1, x2, x3, x4, x5⟩ := M3.b.cells; have HM2 := veil M3; clear M3 b3 HS) | (go_at_call 44; refine (refuse_any _ _).mono ?_; rintro x W9 ⟨rfl, b9⟩; have M9 := (unveil HM2).next b9; clear x0 x1 x2 x3 x4 x5; obtain ⟨z0, z1, z2, z3, z4, z5⟩ := M9.z.cells; have zf := M9.z.free; have HM9 := veil M9; clear M9 b9 HM2))
    obtain ⟨W4, hW4, d4, b4, _⟩ := b_stored (unveil HM9).z (unveil HM9).bel (show w.heap.size ≤ w.heap.size + 1 by omega) 0 0 0 0 0 none 0 0
    rw [← hW4]
    exact bodyPost_ret (ret_bGo d4 rfl rfl) rfl ⟨_, _, _, rfl, by simp only [goesOf]; rw [if_neg (fun h => h ok), if_neg (fun h => h (unveil H1)), if_neg (unveil H2), if_pos h3], BOut.zero _ _, b4⟩
  case pos =>
  have H3 := veil h3
  clear h3
  by_cases h4 : B.e = 1048576
  case pos =>
    have H4 := veil h4
    clear h4
    go_enter Tryz.func27, Tryz.ntmps27
    go_upto_region 1 with fail
    obtain ⟨W1, hW1, M1⟩ := Mb.made w B a c
    rw [← hW1]
    clear hW1
    have HC := bcheck_yes B a c W1 (hb.next M1.bel) ok
    obtain ⟨x0, x1, x2, x3, x4, x5⟩ := M1.b.cells
    have HM := veil M1
    clear M1
    go_upto_region 7 with (first | (go_at_call 43; refine HC.mono ?_; rintro x W2 ⟨rfl, b2⟩; clear HC x0 x1 x2 x3 x4 x5; have M2 := (unveil HM).next b2; obtain ⟨x0, x1, x2, x3, x4, x5⟩ := M2.b.cells; have HM2 := veil M2; clear M2 b2 HM) | (go_at_call 57; refine (HN _).mono ?_; rintro x w3 ⟨rfl, hw3⟩; subst w3) | (go_at_call 58; refine (HS _).mono ?_; rintro x W3 ⟨rfl, b3⟩; have M3 := (unveil HM2).next b3; clear HM2 x0 x1 x2 x3 x4 x5; obtain ⟨x0, x1, x2, x3, x4, x5⟩ := M3.b.cells; have HM2 := veil M3; clear M3 b3 HS))
    have h3 := unveil H3
    have h4 := unveil H4
    go_wp2_with (first | (go_at_call 44; refine (refuse_any _ _).mono ?_; rintro x W9 ⟨rfl, b9⟩; have M9 := (unveil HM2).next b9; clear x0 x1 x2 x3 x4 x5; obtain ⟨z0, z1, z2, z3, z4, z5⟩ := M9.z.cells; have zf := M9.z.free; have HM9 := veil M9; clear M9 b9 HM2))
    obtain ⟨W4, hW4, d4, b4, _⟩ := b_stored (unveil HM9).z (unveil HM9).bel (show w.heap.size ≤ w.heap.size + 1 by omega) 0 0 0 0 0 none 0 0
    rw [← hW4]
    exact bodyPost_ret (ret_bGo d4 rfl rfl) rfl ⟨_, _, _, rfl, by simp only [goesOf]; rw [if_neg (fun h => h ok), if_neg (fun h => h (unveil H1)), if_neg (unveil H2), if_neg (fun h => h h3), if_pos h4], BOut.zero _ _, b4⟩
  case neg =>
  go_enter Tryz.func27, Tryz.ntmps27
  go_upto_region 1 with fail
  obtain ⟨W1, hW1, M1⟩ := Mb.made w B a c
  rw [← hW1]
  clear hW1
  have HC := bcheck_yes B a c W1 (hb.next M1.bel) ok
  obtain ⟨x0, x1, x2, x3, x4, x5⟩ := M1.b.cells
  have HM := veil M1
  clear M1
  go_upto_region 7 with (first | (go_at_call 43; refine HC.mono ?_; rintro x W2 ⟨rfl, b2⟩; clear HC x0 x1 x2 x3 x4 x5; have M2 := (unveil HM).next b2; obtain ⟨x0, x1, x2, x3, x4, x5⟩ := M2.b.cells; have HM2 := veil M2; clear M2 b2 HM) | (go_at_call 57; refine (HN _).mono ?_; rintro x w3 ⟨rfl, hw3⟩; subst w3) | (go_at_call 58; refine (HS _).mono ?_; rintro x W3 ⟨rfl, b3⟩; have M3 := (unveil HM2).next b3; clear HM2 x0 x1 x2 x3 x4 x5; obtain ⟨x0, x1, x2, x3, x4, x5⟩ := M3.b.cells; have HM2 := veil M3; clear M3 b3 HS))
  have h3 := unveil H3
  go_upto_region 11 with fail
  clear h3
  have xf := (unveil HM2).b.free
  go_upto_region 12 with fail
  obtain ⟨W6, hW6, k3, t3⟩ : ∃ W6, W6 = (W3.setCell ⟨w.heap.size, 0, none⟩ (.int .i64 2)).setCell ⟨w.heap.size, 3, none⟩ (.int .i64 nd) ∧ bBlock W6 w.heap.size 2 B.e B.f nd B.o a B.es.length c ∧ Turned w.heap.size W3 W6 := by
    refine ⟨_, rfl, ?_, (Turned.set _ _ _ _).trans (Turned.set _ _ _ _)⟩
    have := (unveil HM2).b
    unfold bBlock at this ⊢
    rw [heap_setB (heap_setB this)]
    simp
  rw [← hW6]
  have z3 := (unveil HM2).z.turned t3 (by omega)
  have B3 := t3.under (unveil HM2).bel (Nat.le_refl _)
  have hlt := hb.row
  have i3 : BIn W6 ⟨2, B.e, B.f, nd, B.o, B.es⟩ a c := ⟨t3.row (hb.row.below (unveil HM2).bel) (fun x hx h0 => by have := hb.row.blk_lt x hx h0; omega), hb.cap, hb.nil⟩
  have HW := bwith_none ⟨2, B.e, B.f, nd, B.o, B.es⟩ a c W6 i3 ok.len
  obtain ⟨y0, y1, y2, y3, y4, y5⟩ := k3.cells
  have HZ := veil z3
  have HB := veil B3
  clear hW6 x0 x1 x2 x3 x4 x5 xf k3 t3 z3 B3 i3 hlt
  go_wp2_with (go_at_call 59; refine HW.mono ?_; rintro x W5 ⟨y, rfl, ⟨⟨a', c', rfl, i5, u5⟩⟩, b5⟩; have z5 := (unveil HZ).next b5; obtain ⟨z0, z1, z2, z3, z4, z5'⟩ := z5.cells; have zf := z5.free; have HZ5 := veil z5; have HB5 := veil (Below.next (unveil HB) b5); have HI5 := veil i5; have HU5 := veil u5; have hs5 := (unveil HB).size; clear HW y0 y1 y2 y3 y4 y5 z5 b5 i5 u5)
  obtain ⟨W4, hW4, d4, b4, t4⟩ := b_stored (unveil HZ5) (unveil HB5) (show w.heap.size ≤ w.heap.size + 1 by omega) 2 B.e B.f nd B.o a' B.es.length c'
  rw [← hW4]
  have h3 := unveil H3
  have hz := (unveil HZ).lt
  exact bodyPost_ret (ret_bGo d4 rfl rfl) rfl ⟨_, ⟨2, B.e, B.f, nd, B.o, B.es⟩, 0, rfl, by simp only [goesOf]; rw [if_neg (fun h => h ok), if_neg (fun h => h (unveil H1)), if_neg (unveil H2), if_neg (fun h => h h3), if_neg h4], ⟨a', c', rfl, (unveil HI5).turned t4 (fun x hx _ => by have := unveil HU5 x hx; omega), fun x hx => by have := unveil HU5 x hx; omega⟩, b4⟩
end Go.Proofs.YtegbndllfnimdaaGreat

namespace Go.Proofs.YtegbndllfnimdaaGreat
open Go.RowKit

theorem row_ev (W : World) (k p i b he hn : Int) (hw : ∀ u ∈ [k, p, i, b, he, hn], (Lit.int .i64 u).wf = true) : RowK .i64 (W.alloc (.cells #[.int .i64 k, .int .i64 p, .int .i64 i, .int .i64 b, .int .i64 he, .int .i64 hn] 48)) (some ⟨W.heap.size, 0, none⟩) 6 [k, p, i, b, he, hn] := by
  have h := heap_alloc_new W (.cells #[.int .i64 k, .int .i64 p, .int .i64 i, .int .i64 b, .int .i64 he, .int .i64 hn] 48)
  generalize W.alloc (.cells #[.int .i64 k, .int .i64 p, .int .i64 i, .int .i64 b, .int .i64 he, .int .i64 hn] 48) = W' at h ⊢
  refine ⟨rfl, hw, fun j hj => ⟨W.heap.size, 0, rfl, block_lt h, ?_⟩⟩
  have hj' : j = 0 ∨ j = 1 ∨ j = 2 ∨ j = 3 ∨ j = 4 ∨ j = 5 := by omega
  rcases hj' with rfl | rfl | rfl | rfl | rfl | rfl <;> simp [World.cell?, h]
theorem row_brk (W : World) : RowK .i64 (W.alloc (.cells #[.int .i64 4, .int .i64 0, .int .i64 0, .int .i64 0, .int .i64 0, .int .i64 0] 48)) (some ⟨W.heap.size, 0, none⟩) 6 [4, 0, 0, 0, 0, 0] := row_ev W 4 0 0 0 0 0 (by decide)
theorem ret_broken {W : World} {R : Nat} {r e f t o : Int} {a : Option Addr} {n c : Nat} {tmps : Array Value} (d : bBlock W R r e f t o a n c) (t2 : tmps[2]? = some (.pointer (some ⟨R, 0, none⟩))) :
    (results Tryz.f69 tmps).run Tryz.prog W = .ok (bVal r e f t o a n c) W := by
  simp [results, Tryz.results69, t2, asAddr, load_berth d]
set_option maxRecDepth 20000 in
set_option maxHeartbeats 4000000 in
theorem broken_any (B : Bt) (a : Option Addr) (c : Nat) (w : World) (hb : BIn w B a c) (hs : B.es.length ≤ 900000) :
    Calls Tryz.prog 69 #[bVal B.r B.e B.f B.t B.o a B.es.length c] w fun x w' => ∃ y, x = .returned y ∧ BOut w w' B.broken y ∧ Below w.heap.size w w' := by
  have HC : Hid (∀ W g, Below w.heap.size w W → RowK .i64 W (some ⟨g, 0, none⟩) 6 [4, 0, 0, 0, 0, 0] → Calls Tryz.prog 66 #[.slice a B.es.length c, .slice (some ⟨g, 0, none⟩) 1 1] W fun e w' => ∃ a' c', e = .returned (.slice a' (B.es.length + 1 : Nat) c') ∧ RowK .i64 w' a' (6 * (B.es.length + 1)) (evFlat B.es ++ [4, 0, 0, 0, 0, 0]) ∧ B.es.length + 1 ≤ c' ∧ (a' = none → c' = 0) ∧ (∀ x, a' = some x → W.heap.size ≤ x.block) ∧ Below W.heap.size W w') := veil fun W g bb hr => behind_any a (some ⟨g, 0, none⟩) B.es.length c 1 1 (evFlat B.es) [4, 0, 0, 0, 0, 0] W (hb.row.below bb) hr hb.nil (fun h => by cases h) (by omega)
  clear hb
  obtain ⟨n, hn⟩ : ∃ n, n = B.es.length + 1 := ⟨_, rfl⟩
  rw [← hn] at HC
  have HN := veil hn
  clear hn
  go_enter Tryz.func69, Tryz.ntmps69
  go_upto_region 1 with fail
  obtain ⟨W1, hW1, M1⟩ := Mb.made w B a c
  rw [← hW1]
  clear hW1
  have h0 := M1.b.lt
  have h1 := M1.z.lt
  have hne : w.heap.size ≠ W1.heap.size := by omega
  obtain ⟨x0, x1, x2, x3, x4, x5⟩ := M1.b.cells
  have HM := veil M1
  clear M1
  refine wp_region_held_drew (S := fun v => bBlock v w.heap.size B.r B.e B.f B.t B.o a B.es.length c) (by kernel_rfl) ((unveil HM).b.next (below_drew W1)) (fun hHeld => ?_)
  refine wpAnyH_take (i := 0) (v := .pointer (some ⟨w.heap.size, 1, none⟩)) rfl (by kernel_rfl) (by kernel_rfl) (by kernel_rfl) (fun _ _ _ h => h) (Or.inl ⟨by rfl, fun _ _ => by go_simp⟩) hHeld ?_
  simp only [List.getElem_toArray, List.getElem_cons_zero, Act.put, List.setIfInBounds_toArray, List.set_cons_zero, List.set_cons_succ]
  refine wpAnyH_take (i := 1) (v := .int .i64 B.e) rfl (by kernel_rfl) (by kernel_rfl) (by kernel_rfl) (fun _ _ _ h => h) (Or.inl ⟨by rfl, fun v b => by obtain ⟨y0, y1, y2, y3, y4, y5⟩ := bBlock.cells b; go_simp⟩) hHeld ?_
  simp only [List.getElem_toArray, List.getElem_cons_zero, List.getElem_cons_succ, Act.put, List.setIfInBounds_toArray, List.set_cons_zero, List.set_cons_succ]
  refine wpAnyH_take (i := 2) (v := .pointer (some ⟨w.heap.size, 5, none⟩)) rfl (by kernel_rfl) (by kernel_rfl) (by kernel_rfl) (fun _ _ _ h => h) (Or.inl ⟨by rfl, fun _ _ => by go_simp⟩) hHeld ?_
  simp only [List.getElem_toArray, List.getElem_cons_zero, List.getElem_cons_succ, Act.put, List.setIfInBounds_toArray, List.set_cons_zero, List.set_cons_succ]
  refine wpAnyH_take (i := 3) (v := .slice a B.es.length c) rfl (by kernel_rfl) (by kernel_rfl) (by kernel_rfl) (fun _ _ _ h => h) (Or.inl ⟨by rfl, fun v b => by obtain ⟨y0, y1, y2, y3, y4, y5⟩ := bBlock.cells b; go_simp⟩) hHeld ?_
  simp only [List.getElem_toArray, List.getElem_cons_zero, List.getElem_cons_succ, Act.put, List.setIfInBounds_toArray, List.set_cons_zero, List.set_cons_succ]
  refine wpAnyH_take (i := 4) (v := .agg #[.int .i64 4, .int .i64 0, .int .i64 0, .int .i64 0, .int .i64 0, .int .i64 0]) rfl (by kernel_rfl) (by kernel_rfl) (by kernel_rfl) (fun _ _ _ h => h) (Or.inl ⟨by rfl, fun _ _ => by go_simp⟩) hHeld ?_
  simp only [List.getElem_toArray, List.getElem_cons_zero, List.getElem_cons_succ, Act.put, List.setIfInBounds_toArray, List.set_cons_zero, List.set_cons_succ]
  have M0 : Mb w W1.drew B a c := (unveil HM).next (below_drew W1)
  have hs0 : W1.heap.size = W1.drew.heap.size := rfl
  obtain ⟨W0, hW0⟩ : ∃ W0, W0 = W1.drew := ⟨_, rfl⟩
  have bW0 := below_drew W1
  rw [← hW0] at M0 hs0 bW0 hHeld ⊢
  clear hW0
  refine wpAnyH_ready (rs := [5]) (by kernel_rfl) (by simp) ?_
  refine AllReadyH.cons rfl (fun K hK => ?_) AllReadyH.nil
  simp only [List.getElem_toArray, List.getElem_cons_zero, List.getElem_cons_succ]
  go_simp
  have r5 := row_brk W0
  have b5 := below1 W0 (.cells #[.int .i64 4, .int .i64 0, .int .i64 0, .int .i64 0, .int .i64 0, .int .i64 0] 48)
  have M5 := M0.next b5
  have bW5 := Below.next bW0 b5
  generalize W0.alloc (.cells #[.int .i64 4, .int .i64 0, .int .i64 0, .int .i64 0, .int .i64 0, .int .i64 0] 48) = W5 at r5 b5 M5 bW5 ⊢
  refine hK.out _ _ M5.b (fun hHeld => ?_)
  clear hK K M0
  refine wpAnyH_ready (rs := [6]) (by kernel_rfl) (by simp) ?_
  refine AllReadyH.cons rfl (fun K hK => ?_) AllReadyH.nil
  simp only [List.getElem_toArray, List.getElem_cons_zero, List.getElem_cons_succ]
  go_simp
  refine (unveil HC W5 W0.heap.size M5.bel r5).mono ?_
  rintro x W6 ⟨a', c', rfl, r6, hc6, n6, u6, b6⟩
  have M6 := M5.next b6
  have bW6 := Below.next bW5 b6
  refine hK.out _ _ M6.b (fun hHeld => ?_)
  clear hK K
  refine wpAnyH_take (i := 7) (v := bVal 1 B.e 0 0 0 a' n c') rfl (by kernel_rfl) (by kernel_rfl) (by kernel_rfl) (fun _ _ _ h => h) (Or.inl ⟨by rfl, fun _ _ => by go_simp⟩) hHeld ?_
  simp only [List.getElem_toArray, List.getElem_cons_zero, List.getElem_cons_succ, Act.put, List.setIfInBounds_toArray, List.set_cons_zero, List.set_cons_succ]
  refine wpAnyH_ready (rs := [8]) (by kernel_rfl) (by simp) ?_
  refine AllReadyH.cons rfl (fun K hK => ?_) AllReadyH.nil
  simp only [List.getElem_toArray, List.getElem_cons_zero, List.getElem_cons_succ]
  obtain ⟨z0, z1, z2, z3, z4, z5⟩ := M6.z.cells
  have zf := M6.z.free
  go_simp
  obtain ⟨W7, hW7, d7, b7, t7⟩ := b_stored M6.z M6.bel (show w.heap.size ≤ w.heap.size + 1 by omega) 1 B.e 0 0 0 a' n c'
  rw [← hW7]
  clear hW7
  have hu6 : ∀ x, a' = some x → W1.heap.size ≤ x.block := fun x hx => by have := u6 x hx; have := b5.size; omega
  have r7 := t7.row r6 (fun x hx _ => by have := hu6 x hx; omega)
  have k7 := M6.b.turned t7 (by omega)
  have HD7 := veil d7
  have HR7 := veil r7
  have HB7 := veil b7
  have HU6 := veil hu6
  refine hK.out _ _ k7 (fun hHeld => ?_)
  clear hK K
  refine wpAnyH_done (by kernel_rfl) ?_ _
  clear z0 z1 z2 z3 z4 z5 zf M6 M5 d7 r7 b7 t7 k7 hHeld x0 x1 x2 x3 x4 x5
  go_wp2
  have hne : B.broken.es.length = n := by rw [unveil HN]; simp [Bt.broken]
  refine bodyPost_ret (ret_broken (unveil HD7) rfl) rfl ⟨_, rfl, ⟨a', c', ?_, ⟨?_, ?_, n6⟩, fun x hx => ?_⟩, unveil HB7⟩
  · rw [hne]; rfl
  · rw [hne]
    show RowK .i64 W7 a' (6 * n) (evFlat (B.es ++ [Ev.brk]))
    rw [evFlat_append]
    exact unveil HR7
  · rw [hne]; exact hc6
  · have := unveil HU6 x hx; omega
theorem one_b (w : World) (B : Bt) (a : Option Addr) (c : Nat) : ∃ W, W = w.alloc (.cells (bCells B.r B.e B.f B.t B.o a B.es.length c) 26) ∧ bBlock W w.heap.size B.r B.e B.f B.t B.o a B.es.length c ∧ Below w.heap.size w W := ⟨_, rfl, bBlock.new _ _ _ _ _ _ _ _ _, below1 _ _⟩

set_option maxRecDepth 20000 in
set_option maxHeartbeats 4000000 in
theorem mayTell_any (B : Bt) (a : Option Addr) (c : Nat) (hv : Int) (w : World) (hb : BIn w B a c) : Calls Tryz.prog 60 #[bVal B.r B.e B.f B.t B.o a B.es.length c, .int .i64 hv] w fun x w' => x = .returned (.int .i64 (tellOf B hv)) ∧ Below w.heap.size w w' := by
  have HS := fun w => isSource_any B.r B.e B.f B.t B.o a B.es.length c w
  have HW := fun w => within_any hv B.es.length w
  by_cases ok : B.Ok
  case neg =>
    rw [show tellOf B hv = 6 by simp [tellOf, ok]]
    go_enter Tryz.func60, Tryz.ntmps60
    go_upto_region 1 with fail
    obtain ⟨W1, hW1, k1, b1⟩ := one_b w B a c
    rw [← hW1]
    clear hW1
    have HC := bcheck_no B a c W1 (hb.next b1) ok
    obtain ⟨x0, x1, x2, x3, x4, x5⟩ := k1.cells
    have HK := veil k1
    clear k1
    go_wp2_with (first | (go_at_call 43; refine HC.mono ?_; rintro x W2 ⟨rfl, b2⟩; clear HC x0 x1 x2 x3 x4 x5; have k2 := (unveil HK).next b2; obtain ⟨x0, x1, x2, x3, x4, x5⟩ := k2.cells; have HK2 := veil k2; clear k2))
    go_ret
    exact ⟨rfl, Below.next b1 b2⟩
  case pos =>
  by_cases h1 : B.r = 2 ∨ B.r = 3
  case neg =>
    rw [show tellOf B hv = 7 by unfold tellOf; rw [if_neg (fun h => h ok), if_pos h1]]
    rw [decide_eq_false h1] at HS
    clear h1
    go_enter Tryz.func60, Tryz.ntmps60
    go_upto_region 1 with fail
    obtain ⟨W1, hW1, k1, b1⟩ := one_b w B a c
    rw [← hW1]
    clear hW1
    have HC := bcheck_yes B a c W1 (hb.next b1) ok
    obtain ⟨x0, x1, x2, x3, x4, x5⟩ := k1.cells
    have HK := veil k1
    clear k1
    go_wp2_with (first | (go_at_call 43; refine HC.mono ?_; rintro x W2 ⟨rfl, b2⟩; clear HC x0 x1 x2 x3 x4 x5; have k2 := (unveil HK).next b2; obtain ⟨x0, x1, x2, x3, x4, x5⟩ := k2.cells; have HK2 := veil k2; clear k2) | (go_at_call 58; refine (HS _).mono ?_; rintro x W3 ⟨rfl, b3⟩; clear x0 x1 x2 x3 x4 x5; have k3 := (unveil HK2).next b3; obtain ⟨x0, x1, x2, x3, x4, x5⟩ := k3.cells; clear k3 HS))
    go_ret
    exact ⟨rfl, Below.next (Below.next b1 b2) b3⟩
  case pos =>
  by_cases h2 : 0 ≤ hv ∧ hv ≤ B.es.length
  case neg =>
    rw [show tellOf B hv = 2 by unfold tellOf; rw [if_neg (fun h => h ok), if_neg (fun h => h h1), if_pos h2]]
    rw [decide_eq_true h1] at HS
    rw [decide_eq_false h2] at HW
    clear h1 h2
    go_enter Tryz.func60, Tryz.ntmps60
    go_upto_region 1 with fail
    obtain ⟨W1, hW1, k1, b1⟩ := one_b w B a c
    rw [← hW1]
    clear hW1
    have HC := bcheck_yes B a c W1 (hb.next b1) ok
    obtain ⟨x0, x1, x2, x3, x4, x5⟩ := k1.cells
    have HK := veil k1
    clear k1
    go_wp2_with (first | (go_at_call 43; refine HC.mono ?_; rintro x W2 ⟨rfl, b2⟩; clear HC x0 x1 x2 x3 x4 x5; have k2 := (unveil HK).next b2; obtain ⟨x0, x1, x2, x3, x4, x5⟩ := k2.cells; have HK2 := veil k2; clear k2) | (go_at_call 58; refine (HS _).mono ?_; rintro x W3 ⟨rfl, b3⟩; clear x0 x1 x2 x3 x4 x5; have k3 := (unveil HK2).next b3; obtain ⟨x0, x1, x2, x3, x4, x5⟩ := k3.cells; clear k3 HS) | (go_at_call 67; refine (HW _).mono ?_; rintro x w4 ⟨rfl, hw4⟩; subst w4))
    go_ret
    exact ⟨rfl, Below.next (Below.next b1 b2) b3⟩
  case pos =>
  rw [show tellOf B hv = 0 by unfold tellOf; rw [if_neg (fun h => h ok), if_neg (fun h => h h1), if_neg (fun h => h h2)]]
  rw [decide_eq_true h1] at HS
  rw [decide_eq_true h2] at HW
  clear h1 h2
  go_enter Tryz.func60, Tryz.ntmps60
  go_upto_region 1 with fail
  obtain ⟨W1, hW1, k1, b1⟩ := one_b w B a c
  rw [← hW1]
  clear hW1
  have HC := bcheck_yes B a c W1 (hb.next b1) ok
  obtain ⟨x0, x1, x2, x3, x4, x5⟩ := k1.cells
  have HK := veil k1
  clear k1
  go_wp2_with (first | (go_at_call 43; refine HC.mono ?_; rintro x W2 ⟨rfl, b2⟩; clear HC x0 x1 x2 x3 x4 x5; have k2 := (unveil HK).next b2; obtain ⟨x0, x1, x2, x3, x4, x5⟩ := k2.cells; have HK2 := veil k2; clear k2) | (go_at_call 58; refine (HS _).mono ?_; rintro x W3 ⟨rfl, b3⟩; clear x0 x1 x2 x3 x4 x5; have k3 := (unveil HK2).next b3; obtain ⟨x0, x1, x2, x3, x4, x5⟩ := k3.cells; clear k3 HS) | (go_at_call 67; refine (HW _).mono ?_; rintro x w4 ⟨rfl, hw4⟩; subst w4))
  go_ret
  exact ⟨rfl, Below.next (Below.next b1 b2) b3⟩
theorem tell_zero {B : Bt} {hv : Int} (h : tellOf B hv = 0) : B.Ok ∧ (B.r = 2 ∨ B.r = 3) ∧ 0 ≤ hv ∧ hv ≤ B.es.length := by
  unfold tellOf at h
  by_cases ok : B.Ok
  · rw [if_neg (fun h => h ok)] at h
    by_cases h1 : B.r = 2 ∨ B.r = 3
    · rw [if_neg (fun h => h h1)] at h
      by_cases h2 : 0 ≤ hv ∧ hv ≤ B.es.length
      · exact ⟨ok, h1, h2⟩
      · rw [if_pos h2] at h; omega
    · rw [if_pos h1] at h; omega
  · rw [if_pos ok] at h; omega
theorem ret_bCaught {W : World} {R : Nat} {r e f t o : Int} {a : Option Addr} {n c : Nat} {er : Int} {tmps : Array Value} (d : bBlock W R r e f t o a n c) (t1 : tmps[4]? = some (.pointer (some ⟨R, 0, none⟩))) (t2 : tmps[5]? = some (.int .i64 er)) :
    (results Tryz.f28 tmps).run Tryz.prog W = .ok (.tuple #[bVal r e f t o a n c, .int .i64 er]) W := by
  simp [results, Tryz.results28, t1, t2, asAddr, load_berth d]
set_option maxRecDepth 20000 in
set_option maxHeartbeats 4000000 in
theorem bcaught_any (B : Bt) (a : Option Addr) (c : Nat) (hv : Int) (w : World) (hb : BIn w B a c) : Calls Tryz.prog 28 #[bVal B.r B.e B.f B.t B.o a B.es.length c, .int .i64 hv] w fun x w' => ∃ y B' er, x = .returned (.tuple #[y, .int .i64 er]) ∧ caughtOf B hv = (B', er) ∧ BOut w w' B' y ∧ Below w.heap.size w w' := by
  obtain ⟨g, hg⟩ : ∃ g, tellOf B hv = g := ⟨_, rfl⟩
  have HG := veil hg
  go_enter Tryz.func28, Tryz.ntmps28
  go_upto_region 1 with fail
  obtain ⟨W1, hW1, M1⟩ := Mb.made w B a c
  rw [← hW1]
  clear hW1
  have HT := mayTell_any B a c hv W1 (hb.next M1.bel)
  rw [hg] at HT
  clear hg
  obtain ⟨x0, x1, x2, x3, x4, x5⟩ := M1.b.cells
  have HM := veil M1
  clear M1
  go_upto_region 2 with (first | (go_at_call 60; refine HT.mono ?_; rintro x W2 ⟨rfl, b2⟩; clear HT x0 x1 x2 x3 x4 x5; have M2 := (unveil HM).next b2; obtain ⟨x0, x1, x2, x3, x4, x5⟩ := M2.b.cells; have HM2 := veil M2; clear M2 b2 HM))
  by_cases h0 : g = 0
  case neg =>
    go_wp2_with (first | (go_at_call 44; refine (refuse_any _ _).mono ?_; rintro x W9 ⟨rfl, b9⟩; have M9 := (unveil HM2).next b9; clear x0 x1 x2 x3 x4 x5; obtain ⟨z0, z1, z2, z3, z4, z5⟩ := M9.z.cells; have zf := M9.z.free; have HM9 := veil M9; clear M9 b9 HM2))
    obtain ⟨W4, hW4, d4, b4, _⟩ := b_stored (unveil HM9).z (unveil HM9).bel (show w.heap.size ≤ w.heap.size + 1 by omega) 0 0 0 0 0 none 0 0
    rw [← hW4]
    exact bodyPost_ret (ret_bCaught d4 rfl rfl) rfl ⟨_, _, _, rfl, by unfold caughtOf; rw [unveil HG, if_pos h0], BOut.zero _ _, b4⟩
  case pos =>
  subst h0
  obtain ⟨ok, h1, h2, h3⟩ := tell_zero (unveil HG)
  have HV := veil (And.intro h2 h3)
  clear h2 h3
  have hst := ok.stand
  have h4 : B.r = 3 ∨ (¬ B.r = 3 ∧ 0 ≤ B.o ∧ B.o ≤ 4) := by unfold Bt.Stand standP at hst; omega
  clear hst h1
  rcases h4 with h4 | ⟨h4, h5, h6⟩
  · have H4 := veil h4
    clear h4
    go_upto_region 5 with fail
    have h4 := unveil H4
    go_upto_region 8 with fail
    clear h4
    obtain ⟨W6, hW6⟩ : ∃ W6, W6 = W2 := ⟨_, rfl⟩
    have k6 := (unveil HM2).b
    have z6 := (unveil HM2).z
    have B6 := (unveil HM2).bel
    rw [← hW6] at k6 z6 B6 ⊢
    have i6 : BIn W6 B a c := hb.next B6
    have HW := bwith_none B a c W6 i6 ok.len
    obtain ⟨y0, y1, y2, y3, y4, y5⟩ := k6.cells
    have HZ := veil z6
    have HB := veil B6
    clear hW6 x0 x1 x2 x3 x4 x5 k6 z6 B6 i6
    go_wp2_with (go_at_call 59; refine HW.mono ?_; rintro x W5 ⟨y, rfl, ⟨⟨a', c', rfl, i5, u5⟩⟩, b5⟩; have z5 := (unveil HZ).next b5; obtain ⟨z0, z1, z2, z3, z4, z5'⟩ := z5.cells; have zf := z5.free; have HZ5 := veil z5; have HB5 := veil (Below.next (unveil HB) b5); have HI5 := veil i5; have HU5 := veil u5; have hs5 := (unveil HB).size; clear HW y0 y1 y2 y3 y4 y5 z5 b5 i5 u5)
    obtain ⟨W4, hW4, d4, b4, t4⟩ := b_stored (unveil HZ5) (unveil HB5) (show w.heap.size ≤ w.heap.size + 1 by omega) (B.r) (B.e) (B.f) (B.t) (B.o) a' B.es.length c'
    rw [← hW4]
    have hz := (unveil HZ).lt
    exact bodyPost_ret (ret_bCaught d4 rfl rfl) rfl ⟨_, B, 0, rfl, by unfold caughtOf; rw [unveil HG, if_neg (fun h => h rfl), if_pos (unveil H4)], ⟨a', c', rfl, (unveil HI5).turned t4 (fun x hx _ => by have := unveil HU5 x hx; omega), fun x hx => by have := unveil HU5 x hx; omega⟩, b4⟩
  · by_cases h7 : hv = B.es.length
    case pos =>
      have H7 := veil h7
      clear h7
      go_upto_region 6 with fail
      have h7 := unveil H7
      have xf := (unveil HM2).b.free
      go_upto_region 8 with fail
      clear h7 xf
      obtain ⟨W6, hW6, k6, t6⟩ : ∃ W6, W6 = ((W2.setCell ⟨w.heap.size, 0, none⟩ (.int .i64 (3))).setCell ⟨w.heap.size, 4, none⟩ (.int .i64 (0))) ∧ bBlock W6 w.heap.size (3) (B.e) (B.f) (B.t) (0) a B.es.length c ∧ Turned w.heap.size W2 W6 := by
        refine ⟨_, rfl, ?_, (Turned.set _ _ _ _).trans (Turned.set _ _ _ _)⟩
        have := (unveil HM2).b
        unfold bBlock at this ⊢
        rw [heap_setB (heap_setB this)]
        simp
      rw [← hW6]
      have z6 := (unveil HM2).z.turned t6 (by omega)
      have B6 := t6.under (unveil HM2).bel (Nat.le_refl _)
      have i6 : BIn W6 ⟨3, B.e, B.f, B.t, 0, B.es⟩ a c := ⟨t6.row (hb.row.below (unveil HM2).bel) (fun x hx h0 => by have := hb.row.blk_lt x hx h0; omega), hb.cap, hb.nil⟩
      have HW := bwith_none ⟨3, B.e, B.f, B.t, 0, B.es⟩ a c W6 i6 ok.len
      obtain ⟨y0, y1, y2, y3, y4, y5⟩ := k6.cells
      have HZ := veil z6
      have HB := veil B6
      clear hW6 x0 x1 x2 x3 x4 x5 k6 t6 z6 B6 i6
      go_wp2_with (go_at_call 59; refine HW.mono ?_; rintro x W5 ⟨y, rfl, ⟨⟨a', c', rfl, i5, u5⟩⟩, b5⟩; have z5 := (unveil HZ).next b5; obtain ⟨z0, z1, z2, z3, z4, z5'⟩ := z5.cells; have zf := z5.free; have HZ5 := veil z5; have HB5 := veil (Below.next (unveil HB) b5); have HI5 := veil i5; have HU5 := veil u5; have hs5 := (unveil HB).size; clear HW y0 y1 y2 y3 y4 y5 z5 b5 i5 u5)
      obtain ⟨W4, hW4, d4, b4, t4⟩ := b_stored (unveil HZ5) (unveil HB5) (show w.heap.size ≤ w.heap.size + 1 by omega) (3) (B.e) (B.f) (B.t) (0) a' B.es.length c'
      rw [← hW4]
      have hz := (unveil HZ).lt
      exact bodyPost_ret (ret_bCaught d4 rfl rfl) rfl ⟨_, ⟨3, B.e, B.f, B.t, 0, B.es⟩, 0, rfl, by unfold caughtOf; rw [unveil HG, if_neg (fun h => h rfl), if_neg h4, if_pos (Or.inl (unveil H7))], ⟨a', c', rfl, (unveil HI5).turned t4 (fun x hx _ => by have := unveil HU5 x hx; omega), fun x hx => by have := unveil HU5 x hx; omega⟩, b4⟩
    case neg =>
    by_cases h8 : B.o = 4
    case pos =>
      have H8 := veil h8
      clear h8
      go_upto_region 6 with fail
      have h8 := unveil H8
      have xf := (unveil HM2).b.free
      go_upto_region 8 with fail
      clear h8 xf
      obtain ⟨W6, hW6, k6, t6⟩ : ∃ W6, W6 = ((W2.setCell ⟨w.heap.size, 0, none⟩ (.int .i64 (3))).setCell ⟨w.heap.size, 4, none⟩ (.int .i64 (0))) ∧ bBlock W6 w.heap.size (3) (B.e) (B.f) (B.t) (0) a B.es.length c ∧ Turned w.heap.size W2 W6 := by
        refine ⟨_, rfl, ?_, (Turned.set _ _ _ _).trans (Turned.set _ _ _ _)⟩
        have := (unveil HM2).b
        unfold bBlock at this ⊢
        rw [heap_setB (heap_setB this)]
        simp
      rw [← hW6]
      have z6 := (unveil HM2).z.turned t6 (by omega)
      have B6 := t6.under (unveil HM2).bel (Nat.le_refl _)
      have i6 : BIn W6 ⟨3, B.e, B.f, B.t, 0, B.es⟩ a c := ⟨t6.row (hb.row.below (unveil HM2).bel) (fun x hx h0 => by have := hb.row.blk_lt x hx h0; omega), hb.cap, hb.nil⟩
      have HW := bwith_none ⟨3, B.e, B.f, B.t, 0, B.es⟩ a c W6 i6 ok.len
      obtain ⟨y0, y1, y2, y3, y4, y5⟩ := k6.cells
      have HZ := veil z6
      have HB := veil B6
      clear hW6 x0 x1 x2 x3 x4 x5 k6 t6 z6 B6 i6
      go_wp2_with (go_at_call 59; refine HW.mono ?_; rintro x W5 ⟨y, rfl, ⟨⟨a', c', rfl, i5, u5⟩⟩, b5⟩; have z5 := (unveil HZ).next b5; obtain ⟨z0, z1, z2, z3, z4, z5'⟩ := z5.cells; have zf := z5.free; have HZ5 := veil z5; have HB5 := veil (Below.next (unveil HB) b5); have HI5 := veil i5; have HU5 := veil u5; have hs5 := (unveil HB).size; clear HW y0 y1 y2 y3 y4 y5 z5 b5 i5 u5)
      obtain ⟨W4, hW4, d4, b4, t4⟩ := b_stored (unveil HZ5) (unveil HB5) (show w.heap.size ≤ w.heap.size + 1 by omega) (3) (B.e) (B.f) (B.t) (0) a' B.es.length c'
      rw [← hW4]
      have hz := (unveil HZ).lt
      exact bodyPost_ret (ret_bCaught d4 rfl rfl) rfl ⟨_, ⟨3, B.e, B.f, B.t, 0, B.es⟩, 0, rfl, by unfold caughtOf; rw [unveil HG, if_neg (fun h => h rfl), if_neg h4, if_pos (Or.inr (unveil H8))], ⟨a', c', rfl, (unveil HI5).turned t4 (fun x hx _ => by have := unveil HU5 x hx; omega), fun x hx => by have := unveil HU5 x hx; omega⟩, b4⟩
    case neg =>
    have hw : IntKind.i64.wrap (B.o + 1) = B.o + 1 := by rw [IntKind.wrap_i64]; omega
    have xf := (unveil HM2).b.free
    have e7 : (hv == (B.es.length : Int)) = false := by simpa using h7
    have e8 : (B.o == 4) = false := by simpa using h8
    go_upto_region 8 with fail
    clear xf hw e7 e8
    obtain ⟨W6, hW6, k6, t6⟩ : ∃ W6, W6 = (W2.setCell ⟨w.heap.size, 4, none⟩ (.int .i64 (B.o + 1))) ∧ bBlock W6 w.heap.size (B.r) (B.e) (B.f) (B.t) (B.o + 1) a B.es.length c ∧ Turned w.heap.size W2 W6 := by
      refine ⟨_, rfl, ?_, Turned.set _ _ _ _⟩
      have := (unveil HM2).b
      unfold bBlock at this ⊢
      rw [heap_setB this]
      simp
    rw [← hW6]
    have z6 := (unveil HM2).z.turned t6 (by omega)
    have B6 := t6.under (unveil HM2).bel (Nat.le_refl _)
    have i6 : BIn W6 ⟨B.r, B.e, B.f, B.t, B.o + 1, B.es⟩ a c := ⟨t6.row (hb.row.below (unveil HM2).bel) (fun x hx h0 => by have := hb.row.blk_lt x hx h0; omega), hb.cap, hb.nil⟩
    have HW := bwith_none ⟨B.r, B.e, B.f, B.t, B.o + 1, B.es⟩ a c W6 i6 ok.len
    obtain ⟨y0, y1, y2, y3, y4, y5⟩ := k6.cells
    have HZ := veil z6
    have HB := veil B6
    clear hW6 x0 x1 x2 x3 x4 x5 k6 t6 z6 B6 i6
    go_wp2_with (go_at_call 59; refine HW.mono ?_; rintro x W5 ⟨y, rfl, ⟨⟨a', c', rfl, i5, u5⟩⟩, b5⟩; have z5 := (unveil HZ).next b5; obtain ⟨z0, z1, z2, z3, z4, z5'⟩ := z5.cells; have zf := z5.free; have HZ5 := veil z5; have HB5 := veil (Below.next (unveil HB) b5); have HI5 := veil i5; have HU5 := veil u5; have hs5 := (unveil HB).size; clear HW y0 y1 y2 y3 y4 y5 z5 b5 i5 u5)
    obtain ⟨W4, hW4, d4, b4, t4⟩ := b_stored (unveil HZ5) (unveil HB5) (show w.heap.size ≤ w.heap.size + 1 by omega) (B.r) (B.e) (B.f) (B.t) (B.o + 1) a' B.es.length c'
    rw [← hW4]
    have hz := (unveil HZ).lt
    exact bodyPost_ret (ret_bCaught d4 rfl rfl) rfl ⟨_, ⟨B.r, B.e, B.f, B.t, B.o + 1, B.es⟩, 0, rfl, by unfold caughtOf; rw [unveil HG, if_neg (fun h => h rfl), if_neg h4, if_neg (fun h => h.elim h7 h8)], ⟨a', c', rfl, (unveil HI5).turned t4 (fun x hx _ => by have := unveil HU5 x hx; omega), fun x hx => by have := unveil HU5 x hx; omega⟩, b4⟩
end Go.Proofs.YtegbndllfnimdaaGreat

namespace Go.Proofs.YtegbndllfnimdaaGreat
open Go.RowKit

theorem ret_bBegin {W : World} {R : Nat} {r e f t o : Int} {a : Option Addr} {n c : Nat} {er : Int} {tmps : Array Value} (d : bBlock W R r e f t o a n c) (t1 : tmps[6]? = some (.pointer (some ⟨R, 0, none⟩))) (t2 : tmps[7]? = some (.int .i64 er)) :
    (results Tryz.f32 tmps).run Tryz.prog W = .ok (.tuple #[bVal r e f t o a n c, .int .i64 er]) W := by
  simp [results, Tryz.results32, t1, t2, asAddr, load_berth d]
set_option maxRecDepth 20000 in
set_option maxHeartbeats 4000000 in
theorem bbegin_any (B : Bt) (a : Option Addr) (c : Nat) (ep fr : Int) (w : World) (hb : BIn w B a c) : Calls Tryz.prog 32 #[bVal B.r B.e B.f B.t B.o a B.es.length c, .int .i64 ep, .int .i64 fr] w fun x w' => ∃ y B' er, x = .returned (.tuple #[y, .int .i64 er]) ∧ beginOf B ep fr = (B', er) ∧ BOut w w' B' y ∧ Below w.heap.size w w' := by
  have HE := fun w => isEpoch_any ep w
  have HN := fun w => isBerthNode_any fr w
  have HS := fun w => serves_any B.r B.e B.f B.t B.o a B.es.length c w
  by_cases ok : B.Ok
  case neg =>
    go_enter Tryz.func32, Tryz.ntmps32
    go_upto_region 1 with fail
    obtain ⟨W1, hW1, M1⟩ := Mb.made w B a c
    rw [← hW1]
    clear hW1
    have HC := bcheck_no B a c W1 (hb.next M1.bel) ok
    obtain ⟨x0, x1, x2, x3, x4, x5⟩ := M1.b.cells
    have HM := veil M1
    clear M1
    go_wp2_with (first | (go_at_call 43; refine HC.mono ?_; rintro x W2 ⟨rfl, b2⟩; clear HC x0 x1 x2 x3 x4 x5; have M2 := (unveil HM).next b2; obtain ⟨x0, x1, x2, x3, x4, x5⟩ := M2.b.cells; have HM2 := veil M2; clear M2 b2 HM) | (go_at_call 44; refine (refuse_any _ _).mono ?_; rintro x W9 ⟨rfl, b9⟩; have M9 := (unveil HM2).next b9; clear x0 x1 x2 x3 x4 x5; obtain ⟨z0, z1, z2, z3, z4, z5⟩ := M9.z.cells; have zf := M9.z.free; have HM9 := veil M9; clear M9 b9 HM2))
    obtain ⟨W4, hW4, d4, b4, _⟩ := b_stored (unveil HM9).z (unveil HM9).bel (show w.heap.size ≤ w.heap.size + 1 by omega) 0 0 0 0 0 none 0 0
    rw [← hW4]
    exact bodyPost_ret (ret_bBegin d4 rfl rfl) rfl ⟨_, _, _, rfl, by unfold beginOf; rw [if_pos ok], BOut.zero _ _, b4⟩
  case pos =>
  by_cases h1 : 1 ≤ ep ∧ ep ≤ 1048576
  case neg =>
    rw [decide_eq_false h1] at HE
    go_enter Tryz.func32, Tryz.ntmps32
    go_upto_region 1 with fail
    obtain ⟨W1, hW1, M1⟩ := Mb.made w B a c
    rw [← hW1]
    clear hW1
    have HC := bcheck_yes B a c W1 (hb.next M1.bel) ok
    obtain ⟨x0, x1, x2, x3, x4, x5⟩ := M1.b.cells
    have HM := veil M1
    clear M1
    go_wp2_with (first | (go_at_call 43; refine HC.mono ?_; rintro x W2 ⟨rfl, b2⟩; clear HC x0 x1 x2 x3 x4 x5; have M2 := (unveil HM).next b2; obtain ⟨x0, x1, x2, x3, x4, x5⟩ := M2.b.cells; have HM2 := veil M2; clear M2 b2 HM) | (go_at_call 61; refine (HE _).mono ?_; rintro x w3 ⟨rfl, hw3⟩; subst w3) | (go_at_call 44; refine (refuse_any _ _).mono ?_; rintro x W9 ⟨rfl, b9⟩; have M9 := (unveil HM2).next b9; clear x0 x1 x2 x3 x4 x5; obtain ⟨z0, z1, z2, z3, z4, z5⟩ := M9.z.cells; have zf := M9.z.free; have HM9 := veil M9; clear M9 b9 HM2))
    obtain ⟨W4, hW4, d4, b4, _⟩ := b_stored (unveil HM9).z (unveil HM9).bel (show w.heap.size ≤ w.heap.size + 1 by omega) 0 0 0 0 0 none 0 0
    rw [← hW4]
    exact bodyPost_ret (ret_bBegin d4 rfl rfl) rfl ⟨_, _, _, rfl, by unfold beginOf; rw [if_neg (fun h => h ok), if_pos (fun h => h1 h.1)], BOut.zero _ _, b4⟩
  case pos =>
  rw [decide_eq_true h1] at HE
  by_cases h2 : 0 ≤ fr ∧ fr ≤ 4
  case neg =>
    rw [decide_eq_false h2] at HN
    clear h1
    go_enter Tryz.func32, Tryz.ntmps32
    go_upto_region 1 with fail
    obtain ⟨W1, hW1, M1⟩ := Mb.made w B a c
    rw [← hW1]
    clear hW1
    have HC := bcheck_yes B a c W1 (hb.next M1.bel) ok
    obtain ⟨x0, x1, x2, x3, x4, x5⟩ := M1.b.cells
    have HM := veil M1
    clear M1
    go_wp2_with (first | (go_at_call 43; refine HC.mono ?_; rintro x W2 ⟨rfl, b2⟩; clear HC x0 x1 x2 x3 x4 x5; have M2 := (unveil HM).next b2; obtain ⟨x0, x1, x2, x3, x4, x5⟩ := M2.b.cells; have HM2 := veil M2; clear M2 b2 HM) | (go_at_call 61; refine (HE _).mono ?_; rintro x w3 ⟨rfl, hw3⟩; subst w3) | (go_at_call 57; refine (HN _).mono ?_; rintro x w3 ⟨rfl, hw3⟩; subst w3) | (go_at_call 44; refine (refuse_any _ _).mono ?_; rintro x W9 ⟨rfl, b9⟩; have M9 := (unveil HM2).next b9; clear x0 x1 x2 x3 x4 x5; obtain ⟨z0, z1, z2, z3, z4, z5⟩ := M9.z.cells; have zf := M9.z.free; have HM9 := veil M9; clear M9 b9 HM2))
    obtain ⟨W4, hW4, d4, b4, _⟩ := b_stored (unveil HM9).z (unveil HM9).bel (show w.heap.size ≤ w.heap.size + 1 by omega) 0 0 0 0 0 none 0 0
    rw [← hW4]
    exact bodyPost_ret (ret_bBegin d4 rfl rfl) rfl ⟨_, _, _, rfl, by unfold beginOf; rw [if_neg (fun h => h ok), if_pos (fun h => h2 h.2)], BOut.zero _ _, b4⟩
  case pos =>
  rw [decide_eq_true h2] at HN
  have H1 := veil (And.intro h1 h2)
  clear h1 h2
  by_cases h3 : B.r = 1 ∨ B.r = 2
  case pos =>
    rw [decide_eq_true h3] at HS
    have H3 := veil h3
    clear h3
    go_enter Tryz.func32, Tryz.ntmps32
    go_upto_region 1 with fail
    obtain ⟨W1, hW1, M1⟩ := Mb.made w B a c
    rw [← hW1]
    clear hW1
    have HC := bcheck_yes B a c W1 (hb.next M1.bel) ok
    obtain ⟨x0, x1, x2, x3, x4, x5⟩ := M1.b.cells
    have HM := veil M1
    clear M1
    go_wp2_with (first | (go_at_call 43; refine HC.mono ?_; rintro x W2 ⟨rfl, b2⟩; clear HC x0 x1 x2 x3 x4 x5; have M2 := (unveil HM).next b2; obtain ⟨x0, x1, x2, x3, x4, x5⟩ := M2.b.cells; have HM2 := veil M2; clear M2 b2 HM) | (go_at_call 61; refine (HE _).mono ?_; rintro x w3 ⟨rfl, hw3⟩; subst w3) | (go_at_call 57; refine (HN _).mono ?_; rintro x w3 ⟨rfl, hw3⟩; subst w3) | (go_at_call 62; refine (HS _).mono ?_; rintro x W3 ⟨rfl, b3⟩; have M3 := (unveil HM2).next b3; clear HM2 x0 x1 x2 x3 x4 x5; obtain ⟨x0, x1, x2, x3, x4, x5⟩ := M3.b.cells; have HM2 := veil M3; clear M3 b3 ) | (go_at_call 44; refine (refuse_any _ _).mono ?_; rintro x W9 ⟨rfl, b9⟩; have M9 := (unveil HM2).next b9; clear x0 x1 x2 x3 x4 x5; obtain ⟨z0, z1, z2, z3, z4, z5⟩ := M9.z.cells; have zf := M9.z.free; have HM9 := veil M9; clear M9 b9 HM2))
    obtain ⟨W4, hW4, d4, b4, _⟩ := b_stored (unveil HM9).z (unveil HM9).bel (show w.heap.size ≤ w.heap.size + 1 by omega) 0 0 0 0 0 none 0 0
    rw [← hW4]
    exact bodyPost_ret (ret_bBegin d4 rfl rfl) rfl ⟨_, _, _, rfl, by unfold beginOf; rw [if_neg (fun h => h ok), if_neg (fun h => h (unveil H1)), if_pos (by have := unveil H3; omega)], BOut.zero _ _, b4⟩
  case neg =>
  have H3 := veil h3
  clear h3
  by_cases h4 : B.r = 3
  case pos =>
    have H4 := veil h4
    clear h4
    go_enter Tryz.func32, Tryz.ntmps32
    go_upto_region 1 with fail
    obtain ⟨W1, hW1, M1⟩ := Mb.made w B a c
    rw [← hW1]
    clear hW1
    have HC := bcheck_yes B a c W1 (hb.next M1.bel) ok
    obtain ⟨x0, x1, x2, x3, x4, x5⟩ := M1.b.cells
    have HM := veil M1
    clear M1
    go_upto_region 5 with (first | (go_at_call 43; refine HC.mono ?_; rintro x W2 ⟨rfl, b2⟩; clear HC x0 x1 x2 x3 x4 x5; have M2 := (unveil HM).next b2; obtain ⟨x0, x1, x2, x3, x4, x5⟩ := M2.b.cells; have HM2 := veil M2; clear M2 b2 HM) | (go_at_call 61; refine (HE _).mono ?_; rintro x w3 ⟨rfl, hw3⟩; subst w3) | (go_at_call 57; refine (HN _).mono ?_; rintro x w3 ⟨rfl, hw3⟩; subst w3))
    clear HS
    have h4 := unveil H4
    go_wp2_with (first | (go_at_call 62; refine (serves_any _ _ _ _ _ _ _ _ _).mono ?_; rintro x W3 ⟨rfl, b3⟩; have M3 := (unveil HM2).next b3; clear HM2 x0 x1 x2 x3 x4 x5; obtain ⟨x0, x1, x2, x3, x4, x5⟩ := M3.b.cells; have HM2 := veil M3; clear M3 b3 ) | (go_at_call 44; refine (refuse_any _ _).mono ?_; rintro x W9 ⟨rfl, b9⟩; have M9 := (unveil HM2).next b9; clear x0 x1 x2 x3 x4 x5; obtain ⟨z0, z1, z2, z3, z4, z5⟩ := M9.z.cells; have zf := M9.z.free; have HM9 := veil M9; clear M9 b9 HM2))
    obtain ⟨W4, hW4, d4, b4, _⟩ := b_stored (unveil HM9).z (unveil HM9).bel (show w.heap.size ≤ w.heap.size + 1 by omega) 0 0 0 0 0 none 0 0
    rw [← hW4]
    exact bodyPost_ret (ret_bBegin d4 rfl rfl) rfl ⟨_, _, _, rfl, by unfold beginOf; rw [if_neg (fun h => h ok), if_neg (fun h => h (unveil H1)), if_pos (by have := unveil H4; omega)], BOut.zero _ _, b4⟩
  case neg =>
  rw [decide_eq_false (unveil H3)] at HS
  have H5 : Hid (¬ (B.r = 1 ∨ B.r = 2 ∨ B.r = 3)) := veil (by have := unveil H3; omega)
  go_enter Tryz.func32, Tryz.ntmps32
  go_upto_region 1 with fail
  obtain ⟨W1, hW1, M1⟩ := Mb.made w B a c
  rw [← hW1]
  clear hW1
  have HC := bcheck_yes B a c W1 (hb.next M1.bel) ok
  obtain ⟨x0, x1, x2, x3, x4, x5⟩ := M1.b.cells
  have HM := veil M1
  clear M1
  have e4 : (B.r == 3) = false := by simpa using h4
  go_upto_region 7 with (first | (go_at_call 43; refine HC.mono ?_; rintro x W2 ⟨rfl, b2⟩; clear HC x0 x1 x2 x3 x4 x5; have M2 := (unveil HM).next b2; obtain ⟨x0, x1, x2, x3, x4, x5⟩ := M2.b.cells; have HM2 := veil M2; clear M2 b2 HM) | (go_at_call 61; refine (HE _).mono ?_; rintro x w3 ⟨rfl, hw3⟩; subst w3) | (go_at_call 57; refine (HN _).mono ?_; rintro x w3 ⟨rfl, hw3⟩; subst w3) | (go_at_call 62; refine (HS _).mono ?_; rintro x W3 ⟨rfl, b3⟩; have M3 := (unveil HM2).next b3; clear HM2 x0 x1 x2 x3 x4 x5; obtain ⟨x0, x1, x2, x3, x4, x5⟩ := M3.b.cells; have HM2 := veil M3; clear M3 b3 ))
  clear e4 h4 HE HN
  by_cases h6 : B.r = 4 ∧ B.e = ep ∧ B.f = fr
  case pos =>
    have H6 := veil h6
    obtain ⟨h7, h8, h9⟩ := h6
    go_upto_region 8 with fail
    clear h7 h8 h9
    obtain ⟨W6, hW6⟩ : ∃ W6, W6 = W3 := ⟨_, rfl⟩
    have k6 := (unveil HM2).b
    have z6 := (unveil HM2).z
    have B6 := (unveil HM2).bel
    rw [← hW6] at k6 z6 B6 ⊢
    have i6 : BIn W6 B a c := hb.next B6
    have HW := bwith_none B a c W6 i6 ok.len
    obtain ⟨y0, y1, y2, y3, y4, y5⟩ := k6.cells
    have HZ := veil z6
    have HB := veil B6
    clear hW6 x0 x1 x2 x3 x4 x5 k6 z6 B6 i6
    go_wp2_with (go_at_call 59; refine HW.mono ?_; rintro x W5 ⟨y, rfl, ⟨⟨a', c', rfl, i5, u5⟩⟩, b5⟩; have z5 := (unveil HZ).next b5; obtain ⟨z0, z1, z2, z3, z4, z5'⟩ := z5.cells; have zf := z5.free; have HZ5 := veil z5; have HB5 := veil (Below.next (unveil HB) b5); have HI5 := veil i5; have HU5 := veil u5; have hs5 := (unveil HB).size; clear HW y0 y1 y2 y3 y4 y5 z5 b5 i5 u5)
    obtain ⟨W4, hW4, d4, b4, t4⟩ := b_stored (unveil HZ5) (unveil HB5) (show w.heap.size ≤ w.heap.size + 1 by omega) (B.r) (B.e) (B.f) (B.t) (B.o) a' B.es.length c'
    rw [← hW4]
    have hz := (unveil HZ).lt
    exact bodyPost_ret (ret_bBegin d4 rfl rfl) rfl ⟨_, B, 0, rfl, by unfold beginOf; rw [if_neg (fun h => h ok), if_neg (fun h => h (unveil H1)), if_neg (unveil H5), if_pos (unveil H6)], ⟨a', c', rfl, (unveil HI5).turned t4 (fun x hx _ => by have := unveil HU5 x hx; omega), fun x hx => by have := unveil HU5 x hx; omega⟩, b4⟩
  case neg =>
  have h6' : ((B.r == 4) = false) ∨ ((B.r == 4) = true ∧ (B.e == ep) = false) ∨ ((B.r == 4) = true ∧ (B.e == ep) = true ∧ (B.f == fr) = false) := by
    by_cases g1 : B.r = 4
    · by_cases g2 : B.e = ep
      · by_cases g3 : B.f = fr
        · exact absurd ⟨g1, g2, g3⟩ h6
        · exact .inr (.inr ⟨by simpa using g1, by simpa using g2, by simpa using g3⟩)
      · exact .inr (.inl ⟨by simpa using g1, by simpa using g2⟩)
    · exact .inl (by simpa using g1)
  by_cases h7 : ep ≤ B.e
  case pos =>
    have H6 := veil h6
    clear h6
    rcases h6' with g1 | ⟨g1, g2⟩ | ⟨g1, g2, g3⟩
    all_goals
      go_wp2_with (first | (go_at_call 44; refine (refuse_any _ _).mono ?_; rintro x W9 ⟨rfl, b9⟩; have M9 := (unveil HM2).next b9; clear x0 x1 x2 x3 x4 x5; obtain ⟨z0, z1, z2, z3, z4, z5⟩ := M9.z.cells; have zf := M9.z.free; have HM9 := veil M9; clear M9 b9 HM2))
      obtain ⟨W4, hW4, d4, b4, _⟩ := b_stored (unveil HM9).z (unveil HM9).bel (show w.heap.size ≤ w.heap.size + 1 by omega) 0 0 0 0 0 none 0 0
      rw [← hW4]
      exact bodyPost_ret (ret_bBegin d4 rfl rfl) rfl ⟨_, _, _, rfl, by unfold beginOf; rw [if_neg (fun h => h ok), if_neg (fun h => h (unveil H1)), if_neg (unveil H5), if_neg (unveil H6), if_pos h7], BOut.zero _ _, b4⟩
  case neg =>
  have H6 := veil h6
  clear h6
  have zf := (unveil HM2).z.free
  obtain ⟨z0, z1, z2, z3, z4, z5⟩ := (unveil HM2).z.cells
  rcases h6' with g1 | ⟨g1, g2⟩ | ⟨g1, g2, g3⟩
  all_goals
    go_wp2
    obtain ⟨W4, hW4, d4, b4, _⟩ := b_stored (unveil HM2).z (unveil HM2).bel (show w.heap.size ≤ w.heap.size + 1 by omega) 4 ep fr 0 0 none 0 0
    rw [← hW4]
    exact bodyPost_ret (ret_bBegin d4 rfl rfl) rfl ⟨_, ⟨4, ep, fr, 0, 0, []⟩, 0, rfl, by unfold beginOf; rw [if_neg (fun h => h ok), if_neg (fun h => h (unveil H1)), if_neg (unveil H5), if_neg (unveil H6), if_neg (by omega)], ⟨none, 0, rfl, ⟨RowK.nil _ _ _, Nat.le_refl _, fun _ => rfl⟩, fun x hx => by cases hx⟩, b4⟩
end Go.Proofs.YtegbndllfnimdaaGreat

namespace Go.Proofs.YtegbndllfnimdaaGreat
open Go.RowKit

def askOf (v : Ev) : Int := if ¬ eventFault v.k v.p v.i v.b v.he v.hn = 0 then eventFault v.k v.p v.i v.b v.he v.hn else if v.k = 4 then 3 else 0
theorem mayAsk_any (v : Ev) (w : World) : Calls Tryz.prog 64 #[evIn v] w fun x w' => x = .returned (.int .i64 (askOf v)) ∧ Below w.heap.size w w' := by
  have HC := fun w => check_any v.k v.p v.i v.b v.he v.hn w
  obtain ⟨f, hf⟩ : ∃ f, eventFault v.k v.p v.i v.b v.he v.hn = f := ⟨_, rfl⟩
  rw [hf] at HC
  by_cases h0 : f = 0
  · by_cases h1 : v.k = 4
    · rw [show askOf v = 3 by unfold askOf; rw [hf, if_neg (fun h => h h0), if_pos h1]]
      subst h0
      have H1 := veil h1
      clear h1 hf
      go_enter Tryz.func64, Tryz.ntmps64
      go_upto_region 1 with fail
      obtain ⟨W1, hW1, b1, e1⟩ : ∃ W1, W1 = w.alloc (.cells #[.int .i64 v.k, .int .i64 v.p, .int .i64 v.i, .int .i64 v.b, .int .i64 v.he, .int .i64 v.hn] 48) ∧ Below w.heap.size w W1 ∧ W1.heap[w.heap.size]? = some (.cells #[.int .i64 v.k, .int .i64 v.p, .int .i64 v.i, .int .i64 v.b, .int .i64 v.he, .int .i64 v.hn] 48 (0, 0)) := ⟨_, rfl, below1 _ _, heap_alloc_new _ _⟩
      rw [← hW1]
      obtain ⟨v0, v1, v2, v3, v4, v5⟩ := ev_box e1
      clear hW1
      go_upto_region 4 with (go_at_call 40; refine (HC _).mono ?_; rintro x W2 ⟨rfl, b2⟩; have e2 := (b2.block w.heap.size (block_lt e1)).trans e1; clear v0 v1 v2 v3 v4 v5; obtain ⟨v0, v1, v2, v3, v4, v5⟩ := ev_box e2; clear e1 e2)
      have h1 := unveil H1
      go_wp2
      go_ret
      exact ⟨rfl, Below.next b1 b2⟩
    · rw [show askOf v = 0 by unfold askOf; rw [hf, if_neg (fun h => h h0), if_neg h1]]
      subst h0
      clear hf
      go_enter Tryz.func64, Tryz.ntmps64
      go_upto_region 1 with fail
      obtain ⟨W1, hW1, b1, e1⟩ : ∃ W1, W1 = w.alloc (.cells #[.int .i64 v.k, .int .i64 v.p, .int .i64 v.i, .int .i64 v.b, .int .i64 v.he, .int .i64 v.hn] 48) ∧ Below w.heap.size w W1 ∧ W1.heap[w.heap.size]? = some (.cells #[.int .i64 v.k, .int .i64 v.p, .int .i64 v.i, .int .i64 v.b, .int .i64 v.he, .int .i64 v.hn] 48 (0, 0)) := ⟨_, rfl, below1 _ _, heap_alloc_new _ _⟩
      rw [← hW1]
      obtain ⟨v0, v1, v2, v3, v4, v5⟩ := ev_box e1
      clear hW1
      go_wp2_with (go_at_call 40; refine (HC _).mono ?_; rintro x W2 ⟨rfl, b2⟩; have e2 := (b2.block w.heap.size (block_lt e1)).trans e1; clear v0 v1 v2 v3 v4 v5; obtain ⟨v0, v1, v2, v3, v4, v5⟩ := ev_box e2; clear e1 e2)
      go_ret
      exact ⟨rfl, Below.next b1 b2⟩
  · rw [show askOf v = f by unfold askOf; rw [hf, if_pos h0]]
    clear hf
    go_enter Tryz.func64, Tryz.ntmps64
    go_wp2_with (go_at_call 40; refine (HC _).mono ?_; rintro x W2 ⟨rfl, b2⟩)
    go_ret
    exact ⟨rfl, Below.next (below1 _ _) b2⟩
theorem a_stored {w wx : World} {A N : Nat} {c he no bd : Int} (h : ansBlock wx A c he no bd) (bel : Below N w wx) (hN : N ≤ A) (c' he' no' bd' : Int) :
    ∃ W, W = (((wx.setCell ⟨A, 0, none⟩ (.int .i64 c')).setCell ⟨A, 1, none⟩ (.int .i64 he')).setCell ⟨A, 2, none⟩ (.int .i64 no')).setCell ⟨A, 3, none⟩ (.int .i64 bd') ∧ ansBlock W A c' he' no' bd' ∧ Below N w W ∧ Turned A wx W :=
  ⟨_, rfl, h.store c' he' no' bd', (ans_turned wx A c' he' no' bd').under bel hN, ans_turned wx A c' he' no' bd'⟩
/-- what berth.served answers, of a queue and an event that may be. -/
inductive SvR (B : Bt) (s : St) (v : Ev) : An → List Ev → Prop
  | shut (hr : B.r = 3) : SvR B s v ⟨12, 0, 0, 0⟩ []
  | none (hr : ¬ B.r = 3) (hs : ¬ (B.r = 1 ∨ B.r = 2)) : SvR B s v ⟨7, 0, 0, 0⟩ []
  | same (hr : B.r = 1 ∨ B.r = 2) (s' : St) (an : An) (st : Step s v s' an false) : SvR B s v an []
  | full (hr : B.r = 1 ∨ B.r = 2) (s' : St) (an : An) (st : Step s v s' an true) (hl : 1999 ≤ B.es.length) : SvR B s v ⟨14, 0, 0, 0⟩ []
  | done (hr : B.r = 1 ∨ B.r = 2) (s' : St) (an : An) (st : Step s v s' an true) (hl : B.es.length < 1999) : SvR B s v an [v]
/-- the boxes of served. -/
structure Sv (w wx : World) (E A : Nat) (B : Bt) (a : Option Addr) (c : Nat) (s : St) (rv lv : Value) (ws : Nat → Value) (v : Ev) : Prop where
  b : bBlock wx w.heap.size B.r B.e B.f B.t B.o a B.es.length c
  q : qBlock wx (w.heap.size + 1) s.ep s.nx s.gv rv lv ws
  e : wx.heap[E]? = some (.cells #[.int .i64 v.k, .int .i64 v.p, .int .i64 v.i, .int .i64 v.b, .int .i64 v.he, .int .i64 v.hn] 48 (0, 0))
  a : ansBlock wx A 0 0 0 0
  bel : Below w.heap.size w wx
  upE : w.heap.size + 1 < E
  upA : E < A
theorem Sv.next {w wx wy : World} {E A : Nat} {B : Bt} {a : Option Addr} {c : Nat} {s : St} {rv lv : Value} {ws : Nat → Value} {v : Ev} (h : Sv w wx E A B a c s rv lv ws v) (b : Below wx.heap.size wx wy) : Sv w wy E A B a c s rv lv ws v :=
  ⟨h.b.next b, h.q.next b, (b.block E (block_lt h.e)).trans h.e, h.a.next b, Below.next h.bel b, h.upE, h.upA⟩
theorem Sv.made {w W2 : World} {B : Bt} {a : Option Addr} {c : Nat} {s : St} {rv lv : Value} {ws : Nat → Value} {v : Ev} (q2 : qBlock W2 (w.alloc (.cells (bCells B.r B.e B.f B.t B.o a B.es.length c) 26)).heap.size s.ep s.nx s.gv rv lv ws)
    (b2 : Below (w.alloc (.cells (bCells B.r B.e B.f B.t B.o a B.es.length c) 26)).heap.size (w.alloc (.cells (bCells B.r B.e B.f B.t B.o a B.es.length c) 26)) W2) :
    ∃ W, W = (W2.alloc (.cells #[.int .i64 v.k, .int .i64 v.p, .int .i64 v.i, .int .i64 v.b, .int .i64 v.he, .int .i64 v.hn] 48)).alloc (.cells #[.int .i64 0, .int .i64 0, .int .i64 0, .int .i64 0] 44) ∧ Sv w W W2.heap.size (W2.heap.size + 1) B a c s rv lv ws v := by
  rw [show (w.alloc (.cells (bCells B.r B.e B.f B.t B.o a B.es.length c) 26)).heap.size = w.heap.size + 1 by simp] at q2
  have hA := ansBlock.new (W2.alloc (.cells #[.int .i64 v.k, .int .i64 v.p, .int .i64 v.i, .int .i64 v.b, .int .i64 v.he, .int .i64 v.hn] 48)) 0 0 0 0
  rw [show (W2.alloc (.cells #[.int .i64 v.k, .int .i64 v.p, .int .i64 v.i, .int .i64 v.b, .int .i64 v.he, .int .i64 v.hn] 48)).heap.size = W2.heap.size + 1 by simp] at hA
  have hE := heap_alloc_new W2 (.cells #[.int .i64 v.k, .int .i64 v.p, .int .i64 v.i, .int .i64 v.b, .int .i64 v.he, .int .i64 v.hn] 48)
  have b3 := below2 W2 (.cells #[.int .i64 v.k, .int .i64 v.p, .int .i64 v.i, .int .i64 v.b, .int .i64 v.he, .int .i64 v.hn] 48) (.cells #[.int .i64 0, .int .i64 0, .int .i64 0, .int .i64 0] 44)
  exact ⟨_, rfl, (((bBlock.new w _ _ _ _ _ _ _ _).next b2).next b3), q2.next b3, ((below1 _ _).block _ (block_lt hE)).trans hE, hA, Below.next (Below.next (below1 _ _) b2) b3, q2.lt, Nat.lt_succ_self _⟩
theorem ret_bserved {W : World} {A : Nat} {c he no bd : Int} {x : Value} {tmps : Array Value} (h : ansBlock W A c he no bd) (t6 : tmps[6]? = some (.pointer (some ⟨A, 0, none⟩))) (t7 : tmps[7]? = some x) :
    (results Tryz.f65 tmps).run Tryz.prog W = .ok (.tuple #[ansVal c he no bd, x]) W := by
  have h2 := run_loadVar_row (P := Tryz.prog) W A 44 44 _ (0, 0) _ h Tryz.underlying44 rfl (by kernel_rfl)
  simp [results, Tryz.results65, t6, t7, asAddr, h2]
set_option maxRecDepth 20000 in
set_option maxHeartbeats 4000000 in
theorem bserved_any (B : Bt) (a : Option Addr) (c : Nat) (s : St) (ra la : Option Addr) (rc lc : Nat) (ws : Nat → Value) (v : Ev) (w : World) (hR : RowK .i64 w ra (2 * s.rn) s.R) (hL : RowK .i64 w la (4 * s.ln) s.L) (nR : ra = none → rc = 0) (nL : la = none → lc = 0) (hW : Wins ws s.wt s.wz) (h : s.Ok) (hv : v.Ok) (hvw : ∀ u ∈ evCells v, (Lit.int .i64 u).wf = true) :
    Calls Tryz.prog 65 #[bVal B.r B.e B.f B.t B.o a B.es.length c, qVal s.ep s.nx s.gv (.slice ra s.rn rc) (.slice la s.ln lc) ws, evIn v] w fun x w' => ∃ an l a' c', x = .returned (.tuple #[anOf an, .slice a' l.length c']) ∧ SvR B s v an l ∧ RowK .i64 w' a' (6 * l.length) (evFlat l) ∧ (a' = none → c' = 0) ∧ Below w.heap.size w w' := by
  have HS := fun w => serves_any B.r B.e B.f B.t B.o a B.es.length c w
  have HD : Hid (∀ W, Below w.heap.size w W → Calls Tryz.prog 14 #[qVal s.ep s.nx s.gv (.slice ra s.rn rc) (.slice la s.ln lc) ws, evIn v] W fun e w' => ∃ (s' : St) (an : An) (ch : Bool) (x : Value), e = .returned (.tuple #[x, anOf an, .bool ch, .int .i64 0]) ∧ Step s v s' an ch ∧ QOut W w' s' x ∧ Below W.heap.size W w') := veil fun W b => do_step s ra la rc lc ws v W (hR.below b) (hL.below b) nR nL hW h hv
  clear hR hL nR nL
  go_enter Tryz.func65, Tryz.ntmps65
  go_upto_region 1 with (refine q_box 4 _ rfl rfl rfl rfl ?_; intro W2 q2 b2)
  obtain ⟨W3, hW3, S3⟩ := Sv.made (v := v) q2 b2
  rw [← hW3]
  clear hW3 q2 b2
  obtain ⟨x0, x1, x2, x3, x4, x5⟩ := S3.b.cells
  by_cases h3 : B.r = 3
  case pos =>
    obtain ⟨y0, y1, y2, y3⟩ := S3.a.cells
    have yf := S3.a.free
    have H3 := veil h3
    have HS3 := veil S3
    clear S3
    go_wp2
    have S3 := unveil HS3
    obtain ⟨W4, hW4, d4, b4, _⟩ := a_stored S3.a S3.bel (show w.heap.size ≤ W2.heap.size + 1 by have := S3.upE; omega) 12 0 0 0
    rw [← hW4]
    exact bodyPost_ret (ret_bserved d4 rfl rfl) rfl ⟨⟨12, 0, 0, 0⟩, [], none, 0, rfl, .shut (unveil H3), RowK.nil _ _ _, fun _ => rfl, b4⟩
  case neg =>
  have e3 : (B.r == 3) = false := by simpa using h3
  have H3 := veil h3
  clear h3
  by_cases h4 : B.r = 1 ∨ B.r = 2
  case neg =>
    rw [decide_eq_false h4] at HS
    have H4 := veil h4
    have HS3 := veil S3
    clear h4 S3
    go_upto_region 4 with (go_at_call 62; refine (HS _).mono ?_; rintro x W4 ⟨rfl, b4⟩; have S4 := (unveil HS3).next b4; clear HS HS3 x0 x1 x2 x3 x4 x5; have HS4 := veil S4; clear S4 b4)
    obtain ⟨y0, y1, y2, y3⟩ := (unveil HS4).a.cells
    have yf := (unveil HS4).a.free
    go_wp2
    have S4 := unveil HS4
    obtain ⟨W5, hW5, d5, b5, _⟩ := a_stored S4.a S4.bel (show w.heap.size ≤ W2.heap.size + 1 by have := S4.upE; omega) 7 0 0 0
    rw [← hW5]
    exact bodyPost_ret (ret_bserved d5 rfl rfl) rfl ⟨⟨7, 0, 0, 0⟩, [], none, 0, rfl, .none (unveil H3) (unveil H4), RowK.nil _ _ _, fun _ => rfl, b5⟩
  case pos =>
  rw [decide_eq_true h4] at HS
  have H4 := veil h4
  have HS3 := veil S3
  clear h4 S3
  go_upto_region 5 with (go_at_call 62; refine (HS _).mono ?_; rintro x W4 ⟨rfl, b4⟩; have S4 := (unveil HS3).next b4; clear HS HS3 x0 x1 x2 x3 x4 x5; have HS4 := veil S4; clear S4 b4)
  have q4 := (unveil HS4).q
  obtain ⟨v0, v1, v2, v3, v4, v5⟩ : W4.cell? ⟨W2.heap.size, 0, none⟩ = some (.int .i64 v.k) ∧ W4.cell? ⟨W2.heap.size, 1, none⟩ = some (.int .i64 v.p) ∧ W4.cell? ⟨W2.heap.size, 2, none⟩ = some (.int .i64 v.i) ∧ W4.cell? ⟨W2.heap.size, 3, none⟩ = some (.int .i64 v.b) ∧ W4.cell? ⟨W2.heap.size, 4, none⟩ = some (.int .i64 v.he) ∧ W4.cell? ⟨W2.heap.size, 5, none⟩ = some (.int .i64 v.hn) := ev_box (w0 := W2) (unveil HS4).e
  have hD := unveil HD W4 (unveil HS4).bel
  clear HD e3
  go_upto_region 6 with (first
    | (refine q_loads _ rfl rfl rfl q4 ?_)
    | (go_at_call 14; refine hD.mono ?_; rintro x W5 ⟨s', an, ch, x', rfl, st, ⟨⟨a1', c1', a2', c2', ws', rfl, r1, r2, l1', l2', n1, n2, hW', f1, f2⟩⟩, b5⟩; have HST := veil st; have S5 := (unveil HS4).next b5; have HS5 := veil S5; clear st hD q4 v0 v1 v2 v3 v4 v5 S5 b5 HS4 r1 r2 l1' l2' n1 n2 f1 f2)
    | (refine q_alloc 8 rfl rfl rfl ?_; intro W6 z6 b6; have z6' := z6.next (below1 W6 (.cells #[.int .i64 0, .int .i64 0, .int .i64 0, .int .i64 0] 44)); have hN6 : W5.heap.size < W6.heap.size := z6.lt; have S6 := ((unveil HS5).next b6).next (below1 W6 (.cells #[.int .i64 0, .int .i64 0, .int .i64 0, .int .i64 0] 44)); have HS6 := veil S6; have HY6 := veil (ansBlock.new W6 0 0 0 0); have hlA := (unveil HS5).a.lt; clear z6 b6 S6 HS5)
    | (refine q_store (ra := a1') (la := a2') (ws' := ws') _ _ rfl rfl rfl rfl z6' hW' ?_; intro W7 q7 t7; have y7 := (unveil HY6).turned t7 (by omega); obtain ⟨y0, y1, y2, y3⟩ := y7.cells; have yf := y7.free; have HY7 := veil y7; have HT7 := veil t7; clear z6' y7 q7 t7))
  have S6 := unveil HS6
  have S7 : Sv w W7 W2.heap.size (W2.heap.size + 1) B a c s (.slice ra s.rn rc) (.slice la s.ln lc) ws v := ⟨S6.b.turned (unveil HT7) (by have := S6.upE; have := S6.upA; omega), (unveil HT7).queue S6.q (by have := S6.upE; have := S6.upA; omega), ((unveil HT7).block _ (by have := S6.upA; omega)).trans S6.e, S6.a.turned (unveil HT7) (by omega), (unveil HT7).under S6.bel (by have := S6.upE; have := S6.upA; omega), S6.upE, S6.upA⟩
  obtain ⟨W8, hW8, y8, b8, t8⟩ := a_stored (unveil HY7) S7.bel (show w.heap.size ≤ W6.heap.size by have := S6.upE; have := S6.upA; omega) an.c an.he an.no an.bd
  rw [← hW8]
  have S8 : Sv w W8 W2.heap.size (W2.heap.size + 1) B a c s (.slice ra s.rn rc) (.slice la s.ln lc) ws v := ⟨S7.b.turned t8 (by have := S6.upE; have := S6.upA; omega), t8.queue S7.q (by have := S6.upE; have := S6.upA; omega), (t8.block _ (by have := S6.upA; omega)).trans S7.e, S7.a.turned t8 (by omega), b8, S6.upE, S6.upA⟩
  have hne : W6.heap.size ≠ W2.heap.size + 1 := by omega
  clear hW8 S6 S7 HS6 HT7 HY6 HY7 y0 y1 y2 y3 yf b8 t8
  have HS8 := veil S8
  have HY8 := veil y8
  cases ch with
  | false =>
    obtain ⟨u0, u1, u2, u3⟩ := y8.cells
    obtain ⟨y0, y1, y2, y3⟩ := S8.a.cells
    have yf := S8.a.free
    clear S8 y8
    go_wp2
    have S8 := unveil HS8
    obtain ⟨W9, hW9, d9, b9, _⟩ := a_stored S8.a S8.bel (show w.heap.size ≤ W2.heap.size + 1 by have := S8.upE; omega) an.c an.he an.no an.bd
    rw [← hW9]
    exact bodyPost_ret (ret_bserved d9 rfl rfl) rfl ⟨an, [], none, 0, rfl, .same (unveil H4) s' an (unveil HST), RowK.nil _ _ _, fun _ => rfl, b9⟩
  | true =>
  obtain ⟨x0, x1, x2, x3, x4, x5⟩ := S8.b.cells
  by_cases h9 : 1999 ≤ B.es.length
  case pos =>
    obtain ⟨y0, y1, y2, y3⟩ := S8.a.cells
    have yf := S8.a.free
    clear S8 y8
    have h9' : (1999 : Int) ≤ (B.es.length : Int) := by omega
    go_wp2
    have S8 := unveil HS8
    obtain ⟨W9, hW9, d9, b9, _⟩ := a_stored S8.a S8.bel (show w.heap.size ≤ W2.heap.size + 1 by have := S8.upE; omega) 14 0 0 0
    rw [← hW9]
    exact bodyPost_ret (ret_bserved d9 rfl rfl) rfl ⟨⟨14, 0, 0, 0⟩, [], none, 0, rfl, .full (unveil H4) s' an (unveil HST) h9, RowK.nil _ _ _, fun _ => rfl, b9⟩
  case neg =>
  have h9' : ¬ (1999 : Int) ≤ (B.es.length : Int) := by omega
  clear S8 y8
  go_upto_region 10 with fail
  clear x0 x1 x2 x3 x4 x5
  refine wp_region_held_drew (S := fun u => ansBlock u W6.heap.size an.c an.he an.no an.bd ∧ u.heap[W2.heap.size]? = some (.cells #[.int .i64 v.k, .int .i64 v.p, .int .i64 v.i, .int .i64 v.b, .int .i64 v.he, .int .i64 v.hn] 48 (0, 0))) (by kernel_rfl) ⟨(unveil HY8).next (below_drew W8), ((unveil HS8).next (below_drew W8)).e⟩ (fun hHeld => ?_)
  refine wpAnyH_take (i := 0) (v := anOf an) rfl (by kernel_rfl) (by kernel_rfl) (by kernel_rfl) (fun _ _ _ h => h) (yields_a _ rfl rfl rfl (fun _ h => h.1)) hHeld ?_
  simp only [List.getElem_toArray, List.getElem_cons_zero, Act.put, List.setIfInBounds_toArray, List.set_cons_zero, List.set_cons_succ]
  refine wpAnyH_take (i := 1) (v := evIn v) rfl (by kernel_rfl) (by kernel_rfl) (by kernel_rfl) (fun _ _ _ h => h) (Or.inl ⟨by rfl, fun u h => by obtain ⟨v0, v1, v2, v3, v4, v5⟩ := ev_box (w0 := W2) h.2; go_simp⟩) hHeld ?_
  simp only [List.getElem_toArray, List.getElem_cons_zero, List.getElem_cons_succ, Act.put, List.setIfInBounds_toArray, List.set_cons_zero, List.set_cons_succ]
  have S0 := (unveil HS8).next (below_drew W8)
  have Y0 := (unveil HY8).next (below_drew W8)
  obtain ⟨W0, hW0⟩ : ∃ W0, W0 = W8.drew := ⟨_, rfl⟩
  rw [← hW0] at S0 Y0 hHeld ⊢
  clear hW0
  refine wpAnyH_ready (rs := [2, 3]) (by kernel_rfl) (by simp) ?_
  refine AllReadyH.cons rfl (fun K hK => ?_) (AllReadyH.cons rfl (fun K hK => ?_) AllReadyH.nil)
  · simp only [List.getElem_toArray, List.getElem_cons_zero, List.getElem_cons_succ]
    go_simp
    have r5 := row_ev W0 v.k v.p v.i v.b v.he v.hn hvw
    have b5 := below1 W0 (.cells #[.int .i64 v.k, .int .i64 v.p, .int .i64 v.i, .int .i64 v.b, .int .i64 v.he, .int .i64 v.hn] 48)
    have S5 := S0.next b5
    have Y5 := Y0.next b5
    have hl0 := S0.a.lt
    generalize W0.alloc (.cells #[.int .i64 v.k, .int .i64 v.p, .int .i64 v.i, .int .i64 v.b, .int .i64 v.he, .int .i64 v.hn] 48) = W5 at r5 b5 S5 Y5 ⊢
    refine hK.out _ _ ⟨Y5, S5.e⟩ (fun hHeld => ?_)
    clear hK K
    refine wpAnyH_ready (rs := [3]) (by kernel_rfl) (by simp) ?_
    refine AllReadyH.cons rfl (fun K hK => ?_) AllReadyH.nil
    simp only [List.getElem_toArray, List.getElem_cons_zero, List.getElem_cons_succ]
    obtain ⟨y0, y1, y2, y3⟩ := S5.a.cells
    have yf := S5.a.free
    go_simp
    obtain ⟨W9, hW9, d9, b9, t9⟩ := a_stored S5.a S5.bel (show w.heap.size ≤ W2.heap.size + 1 by have := S5.upE; omega) an.c an.he an.no an.bd
    rw [← hW9]
    clear hW9
    have r9 := t9.row r5 (fun x hx _ => by cases hx; simp; omega)
    refine hK.out _ _ ⟨Y5.turned t9 hne, (t9.block _ (by have := S5.upA; omega)).trans S5.e⟩ (fun hHeld => ?_)
    clear hK K y0 y1 y2 y3 yf
    refine wpAnyH_take (i := 4) (v := .slice (some ⟨W0.heap.size, 0, none⟩) 1 1) rfl (by kernel_rfl) (by kernel_rfl) (by kernel_rfl) (fun _ _ _ h => h) (Or.inl ⟨by rfl, fun _ _ => by go_simp⟩) hHeld ?_
    simp only [List.getElem_toArray, List.getElem_cons_zero, List.getElem_cons_succ, Act.put, List.setIfInBounds_toArray, List.set_cons_zero, List.set_cons_succ]
    refine wpAnyH_done (by kernel_rfl) ?_ _
    have HD9 := veil d9
    have HB9 := veil b9
    have HR9 := veil r9
    clear d9 b9 r9 hHeld t9 S5 Y5 S0 Y0 r5
    go_wp2
    exact bodyPost_ret (ret_bserved (unveil HD9) rfl rfl) rfl ⟨an, [v], some ⟨W0.heap.size, 0, none⟩, 1, rfl, .done (unveil H4) s' an (unveil HST) (by omega), (show RowK .i64 _ (some ⟨W0.heap.size, 0, none⟩) 6 [v.k, v.p, v.i, v.b, v.he, v.hn] from unveil HR9), fun h => (by cases h), unveil HB9⟩
  · simp only [List.getElem_toArray, List.getElem_cons_zero, List.getElem_cons_succ]
    obtain ⟨y0, y1, y2, y3⟩ := S0.a.cells
    have yf := S0.a.free
    go_simp
    obtain ⟨W5, hW5, d5, b5, t5⟩ := a_stored S0.a S0.bel (show w.heap.size ≤ W2.heap.size + 1 by have := S0.upE; omega) an.c an.he an.no an.bd
    rw [← hW5]
    clear hW5
    have Y5 := Y0.turned t5 hne
    have E5 := (t5.block _ (by have := S0.upA; omega)).trans S0.e
    refine hK.out _ _ ⟨Y5, E5⟩ (fun hHeld => ?_)
    clear hK K y0 y1 y2 y3 yf
    refine wpAnyH_ready (rs := [2]) (by kernel_rfl) (by simp) ?_
    refine AllReadyH.cons rfl (fun K hK => ?_) AllReadyH.nil
    simp only [List.getElem_toArray, List.getElem_cons_zero, List.getElem_cons_succ]
    go_simp
    have r9 := row_ev W5 v.k v.p v.i v.b v.he v.hn hvw
    have b6 := below1 W5 (.cells #[.int .i64 v.k, .int .i64 v.p, .int .i64 v.i, .int .i64 v.b, .int .i64 v.he, .int .i64 v.hn] 48)
    have d9 := d5.next b6
    have b9 := Below.next b5 b6
    have Y9 := Y5.next b6
    have E9 := (b6.block _ (block_lt E5)).trans E5
    generalize W5.alloc (.cells #[.int .i64 v.k, .int .i64 v.p, .int .i64 v.i, .int .i64 v.b, .int .i64 v.he, .int .i64 v.hn] 48) = W9 at r9 b6 d9 b9 Y9 E9 ⊢
    refine hK.out _ _ ⟨Y9, E9⟩ (fun hHeld => ?_)
    clear hK K
    refine wpAnyH_take (i := 4) (v := .slice (some ⟨W5.heap.size, 0, none⟩) 1 1) rfl (by kernel_rfl) (by kernel_rfl) (by kernel_rfl) (fun _ _ _ h => h) (Or.inl ⟨by rfl, fun _ _ => by go_simp⟩) hHeld ?_
    simp only [List.getElem_toArray, List.getElem_cons_zero, List.getElem_cons_succ, Act.put, List.setIfInBounds_toArray, List.set_cons_zero, List.set_cons_succ]
    refine wpAnyH_done (by kernel_rfl) ?_ _
    have HD9 := veil d9
    have HB9 := veil b9
    have HR9 := veil r9
    clear d9 b9 r9 hHeld t5 S0 Y0 Y5 Y9 E5 E9 d5 b5
    go_wp2
    exact bodyPost_ret (ret_bserved (unveil HD9) rfl rfl) rfl ⟨an, [v], some ⟨W5.heap.size, 0, none⟩, 1, rfl, .done (unveil H4) s' an (unveil HST) (by omega), (show RowK .i64 _ (some ⟨W5.heap.size, 0, none⟩) 6 [v.k, v.p, v.i, v.b, v.he, v.hn] from unveil HR9), fun h => (by cases h), unveil HB9⟩
end Go.Proofs.YtegbndllfnimdaaGreat

namespace Go.Proofs.YtegbndllfnimdaaGreat
open Go.RowKit

/-- the boxes of Serve. -/
structure Sr (w wx : World) (B : Bt) (a : Option Addr) (c : Nat) (v : Ev) : Prop where
  b : bBlock wx w.heap.size B.r B.e B.f B.t B.o a B.es.length c
  e : wx.heap[w.heap.size + 1]? = some (.cells #[.int .i64 v.k, .int .i64 v.p, .int .i64 v.i, .int .i64 v.b, .int .i64 v.he, .int .i64 v.hn] 48 (0, 0))
  z : bBlock wx (w.heap.size + 2) 0 0 0 0 0 none 0 0
  y : ansBlock wx (w.heap.size + 3) 0 0 0 0
  bel : Below w.heap.size w wx
theorem Sr.next {w wx wy : World} {B : Bt} {a : Option Addr} {c : Nat} {v : Ev} (h : Sr w wx B a c v) (b : Below wx.heap.size wx wy) : Sr w wy B a c v :=
  ⟨h.b.next b, (b.block _ (block_lt h.e)).trans h.e, h.z.next b, h.y.next b, Below.next h.bel b⟩
theorem Sr.turned {w wx wy : World} {B : Bt} {a : Option Addr} {c R : Nat} {v : Ev} (h : Sr w wx B a c v) (t : Turned R wx wy) (hR : w.heap.size + 3 < R) : Sr w wy B a c v :=
  ⟨h.b.turned t (by omega), (t.block _ (by omega)).trans h.e, h.z.turned t (by omega), h.y.turned t (by omega), t.under h.bel (by omega)⟩
theorem Sr.made (w : World) (B : Bt) (a : Option Addr) (c : Nat) (v : Ev) : ∃ W, W = (((w.alloc (.cells (bCells B.r B.e B.f B.t B.o a B.es.length c) 26)).alloc (.cells #[.int .i64 v.k, .int .i64 v.p, .int .i64 v.i, .int .i64 v.b, .int .i64 v.he, .int .i64 v.hn] 48)).alloc (.cells (bCells 0 0 0 0 0 none 0 0) 26)).alloc (.cells #[.int .i64 0, .int .i64 0, .int .i64 0, .int .i64 0] 44) ∧ Sr w W B a c v := by
  have h0 := bBlock.new w B.r B.e B.f B.t B.o a B.es.length c
  have h1 := heap_alloc_new (w.alloc (.cells (bCells B.r B.e B.f B.t B.o a B.es.length c) 26)) (.cells #[.int .i64 v.k, .int .i64 v.p, .int .i64 v.i, .int .i64 v.b, .int .i64 v.he, .int .i64 v.hn] 48)
  have h2 := bBlock.new ((w.alloc (.cells (bCells B.r B.e B.f B.t B.o a B.es.length c) 26)).alloc (.cells #[.int .i64 v.k, .int .i64 v.p, .int .i64 v.i, .int .i64 v.b, .int .i64 v.he, .int .i64 v.hn] 48)) 0 0 0 0 0 none 0 0
  have h3 := ansBlock.new (((w.alloc (.cells (bCells B.r B.e B.f B.t B.o a B.es.length c) 26)).alloc (.cells #[.int .i64 v.k, .int .i64 v.p, .int .i64 v.i, .int .i64 v.b, .int .i64 v.he, .int .i64 v.hn] 48)).alloc (.cells (bCells 0 0 0 0 0 none 0 0) 26)) 0 0 0 0
  have s1 : (w.alloc (.cells (bCells B.r B.e B.f B.t B.o a B.es.length c) 26)).heap.size = w.heap.size + 1 := by simp
  have s2 : ((w.alloc (.cells (bCells B.r B.e B.f B.t B.o a B.es.length c) 26)).alloc (.cells #[.int .i64 v.k, .int .i64 v.p, .int .i64 v.i, .int .i64 v.b, .int .i64 v.he, .int .i64 v.hn] 48)).heap.size = w.heap.size + 2 := by simp
  have s3 : (((w.alloc (.cells (bCells B.r B.e B.f B.t B.o a B.es.length c) 26)).alloc (.cells #[.int .i64 v.k, .int .i64 v.p, .int .i64 v.i, .int .i64 v.b, .int .i64 v.he, .int .i64 v.hn] 48)).alloc (.cells (bCells 0 0 0 0 0 none 0 0) 26)).heap.size = w.heap.size + 3 := by simp
  rw [s1] at h1
  rw [s2] at h2
  rw [s3] at h3
  exact ⟨_, rfl, ((h0.next (below1 _ _)).next (below1 _ _)).next (below1 _ _), ((below1 _ _).block _ (by rw [s3]; omega)).trans (((below1 _ _).block _ (by rw [s2]; omega)).trans h1), h2.next (below1 _ _), h3, Below.next (Below.next (Below.next (below1 _ _) (below1 _ _)) (below1 _ _)) (below1 _ _)⟩
theorem ret_Serve {W : World} {R A : Nat} {r e f t o : Int} {a : Option Addr} {n c : Nat} {cc he no bd er : Int} {ch : Bool} {tmps : Array Value} (d : bBlock W R r e f t o a n c) (h : ansBlock W A cc he no bd) (t4 : tmps[4]? = some (.pointer (some ⟨R, 0, none⟩))) (t5 : tmps[5]? = some (.pointer (some ⟨A, 0, none⟩))) (t6 : tmps[6]? = some (.bool ch)) (t7 : tmps[7]? = some (.int .i64 er)) :
    (results Tryz.f34 tmps).run Tryz.prog W = .ok (.tuple #[bVal r e f t o a n c, ansVal cc he no bd, .bool ch, .int .i64 er]) W := by
  have h2 := run_loadVar_row (P := Tryz.prog) W A 44 44 _ (0, 0) _ h Tryz.underlying44 rfl (by kernel_rfl)
  simp [results, Tryz.results34, t4, t5, t6, t7, asAddr, load_berth d, h2]
/-- both answers stored. -/
theorem Sr.stored {w wx : World} {B : Bt} {a : Option Addr} {c : Nat} {v : Ev} (h : Sr w wx B a c v) (r' e' f' t' o' : Int) (a' : Option Addr) (n' c' : Nat) (cc he no bd : Int) :
    ∃ W, W = ((((((((((wx.setCell ⟨w.heap.size + 2, 0, none⟩ (.int .i64 r')).setCell ⟨w.heap.size + 2, 1, none⟩ (.int .i64 e')).setCell ⟨w.heap.size + 2, 2, none⟩ (.int .i64 f')).setCell ⟨w.heap.size + 2, 3, none⟩ (.int .i64 t')).setCell ⟨w.heap.size + 2, 4, none⟩ (.int .i64 o')).setCell ⟨w.heap.size + 2, 5, none⟩ (.slice a' n' c')).setCell ⟨w.heap.size + 3, 0, none⟩ (.int .i64 cc)).setCell ⟨w.heap.size + 3, 1, none⟩ (.int .i64 he)).setCell ⟨w.heap.size + 3, 2, none⟩ (.int .i64 no)).setCell ⟨w.heap.size + 3, 3, none⟩ (.int .i64 bd)) ∧ bBlock W (w.heap.size + 2) r' e' f' t' o' a' n' c' ∧ ansBlock W (w.heap.size + 3) cc he no bd ∧ Below w.heap.size w W := by
  obtain ⟨W1, hW1, d1, b1, t1⟩ := b_stored h.z h.bel (show w.heap.size ≤ w.heap.size + 2 by omega) r' e' f' t' o' a' n' c'
  have y1 := h.y.turned t1 (by omega)
  obtain ⟨W2, hW2, d2, b2, t2⟩ := a_stored y1 b1 (show w.heap.size ≤ w.heap.size + 3 by omega) cc he no bd
  refine ⟨W2, ?_, d1.turned t2 (by omega), d2, b2⟩
  rw [hW2, hW1]
theorem ask_yes {v : Ev} (h : askOf v = 0) : v.Ok ∧ ¬ v.k = 4 := by
  unfold askOf at h
  by_cases h0 : eventFault v.k v.p v.i v.b v.he v.hn = 0
  · rw [if_neg (fun g => g h0)] at h
    by_cases h1 : v.k = 4
    · rw [if_pos h1] at h; omega
    · exact ⟨h0, h1⟩
  · rw [if_pos h0] at h; exact absurd h h0
theorem ask_no {B : Bt} {v : Ev} (ok : B.Ok) (h : ¬ askOf v = 0) : ServeR B v Bt.zero An.zero false (askOf v) := by
  unfold askOf at h ⊢
  by_cases h0 : eventFault v.k v.p v.i v.b v.he v.hn = 0
  · rw [if_neg (fun g => g h0)] at h ⊢
    by_cases h1 : v.k = 4
    · rw [if_pos h1]; exact .brk ok h0 h1
    · rw [if_neg h1] at h; exact absurd rfl h
  · rw [if_pos h0]; exact .fault ok _ rfl h0
theorem SvR.serve {B : Bt} {v : Ev} {s : St} {ans : List An} {an : An} {l : List Ev} (h : SvR B s v an l) (ok : B.Ok) (hv : v.Ok) (hk : ¬ v.k = 4) (ht : Tells B.es s ans) : ServeR B v (B.more l) an (decide (0 < l.length)) 0 := by
  cases h with
  | shut hr => rw [Bt.more_nil]; exact .shut ok hv hk hr
  | none h3 hr =>
    rw [Bt.more_nil]
    refine .none ok hv hk ?_
    have := ok.stand
    unfold Bt.Stand standP at this
    omega
  | same hr s' an st => rw [Bt.more_nil]; exact .same ok hv hk hr s ans ht s' an st
  | full hr s' an st hl => rw [Bt.more_nil]; exact .full ok hv hk hr s ans ht s' an st hl
  | done hr s' an st hl => exact .done ok hv hk hr s ans ht s' an st hl
set_option maxRecDepth 20000 in
set_option maxHeartbeats 4000000 in
theorem serve_any (B : Bt) (a : Option Addr) (c : Nat) (v : Ev) (w : World) (hb : BIn w B a c) (hvw : ∀ u ∈ evCells v, (Lit.int .i64 u).wf = true) :
    Calls Tryz.prog 34 #[bVal B.r B.e B.f B.t B.o a B.es.length c, evIn v] w fun x w' => ∃ y an ch er B', x = .returned (.tuple #[y, anOf an, .bool ch, .int .i64 er]) ∧ ServeR B v B' an ch er ∧ BOut w w' B' y ∧ Below w.heap.size w w' := by
  go_enter Tryz.func34, Tryz.ntmps34
  go_upto_region 1 with fail
  obtain ⟨W1, hW1, S1⟩ := Sr.made w B a c v
  rw [← hW1]
  clear hW1
  have HR := replayed_any B a c W1 (hb.next S1.bel)
  obtain ⟨x0, x1, x2, x3, x4, x5⟩ := S1.b.cells
  have HS1 := veil S1
  have hy1 := S1.y.lt
  clear S1
  go_upto_region 2 with (first
    | (go_at_call 63; refine HR.mono ?_; rintro x W2 ⟨q, er, s, rfl, rb, ⟨⟨a1', c1', a2', c2', ws', rfl, r1, r2, l1', l2', n1, n2, hW', f1, f2⟩⟩, b2⟩; have HRB := veil rb; have HS2 := veil ((unveil HS1).next b2); clear HR rb b2 x0 x1 x2 x3 x4 x5 HS1)
    | (refine q_alloc 8 rfl rfl rfl ?_; intro W3 z3 b3)
    | (refine q_store (ra := a1') (la := a2') (ws' := ws') _ _ rfl rfl rfl rfl z3 hW' ?_; intro W4 q4 t4; have b4 := t4.under b3 (Nat.le_refl _); have r14 := r1.below b4; have r24 := r2.below b4; have S4 := (unveil HS2).next b4; have hy4 := (unveil HS2).y.lt; have HQ4 := veil q4; have HS4 := veil S4; have HR1 := veil r14; have HR2 := veil r24; clear z3 b3 t4 b4 q4 r14 r24 S4 HS2 r1 r2 f1 f2 l1' l2'))
  by_cases h0 : er = 0
  case neg =>
    obtain ⟨z0, z1, z2, z3, z4, z5⟩ := (unveil HS4).z.cells
    have zf := (unveil HS4).z.free
    obtain ⟨y0, y1, y2, y3⟩ := (unveil HS4).y.cells
    have yf := (unveil HS4).y.free
    go_wp2
    obtain ⟨W5, hW5, d5, a5, b5⟩ := (unveil HS4).stored 0 0 0 0 0 none 0 0 0 0 0 0
    rw [← hW5]
    have hno : ServeR B v Bt.zero An.zero false er := by
      cases unveil HRB with
      | yes => exact absurd rfl h0
      | no h => exact .state h
    exact bodyPost_ret (ret_Serve d5 a5 rfl rfl rfl rfl) rfl ⟨_, An.zero, false, er, Bt.zero, rfl, hno, BOut.zero _ _, b5⟩
  case pos =>
  subst h0
  have hyes : B.Ok ∧ ∃ ans, Tells B.es s ans := by
    generalize hz : (0 : Int) = z at HRB
    cases unveil HRB with
    | yes ok ans ht => exact ⟨ok, ans, ht⟩
    | no h => omega
  obtain ⟨ok, ans, ht⟩ := hyes
  have HTT := veil ht
  have hsok := ht.wf.ok
  clear ht HRB
  obtain ⟨v0, v1, v2, v3, v4, v5⟩ : W4.cell? ⟨w.heap.size + 1, 0, none⟩ = some (.int .i64 v.k) ∧ W4.cell? ⟨w.heap.size + 1, 1, none⟩ = some (.int .i64 v.p) ∧ W4.cell? ⟨w.heap.size + 1, 2, none⟩ = some (.int .i64 v.i) ∧ W4.cell? ⟨w.heap.size + 1, 3, none⟩ = some (.int .i64 v.b) ∧ W4.cell? ⟨w.heap.size + 1, 4, none⟩ = some (.int .i64 v.he) ∧ W4.cell? ⟨w.heap.size + 1, 5, none⟩ = some (.int .i64 v.hn) := by
    have := (unveil HS4).e
    simp [World.cell?, this]
  have HA := fun w => mayAsk_any v w
  obtain ⟨g, hg⟩ : ∃ g, askOf v = g := ⟨_, rfl⟩
  rw [hg] at HA
  have HG := veil hg
  clear hg
  go_upto_region 4 with (go_at_call 64; refine (HA _).mono ?_; rintro x W5 ⟨rfl, b5⟩; have S5 := (unveil HS4).next b5; have HQ5 := veil ((unveil HQ4).next b5); have HR15 := veil ((unveil HR1).below b5); have HR25 := veil ((unveil HR2).below b5); have HS5 := veil S5; have hy5 := (unveil HQ4).lt; have hs5 := b5.size; clear HA S5 b5 HS4 HQ4 HR1 HR2 v0 v1 v2 v3 v4 v5)
  by_cases h0 : g = 0
  case neg =>
    obtain ⟨z0, z1, z2, z3, z4, z5⟩ := (unveil HS5).z.cells
    have zf := (unveil HS5).z.free
    obtain ⟨y0, y1, y2, y3⟩ := (unveil HS5).y.cells
    have yf := (unveil HS5).y.free
    go_wp2
    obtain ⟨W6, hW6, d6, a6, b6⟩ := (unveil HS5).stored 0 0 0 0 0 none 0 0 0 0 0 0
    rw [← hW6]
    have hno := ask_no (v := v) ok (by rw [unveil HG]; exact h0)
    rw [unveil HG] at hno
    exact bodyPost_ret (ret_Serve d6 a6 rfl rfl rfl rfl) rfl ⟨_, An.zero, false, g, Bt.zero, rfl, hno, BOut.zero _ _, b6⟩
  case pos =>
  subst h0
  obtain ⟨hv, hk⟩ := ask_yes (unveil HG)
  have HK := veil hk
  clear hk HG
  have hSV := bserved_any B a c s a1' a2' c1' c2' ws' v W5 (unveil HR15) (unveil HR25) n1 n2 hW' hsok hv hvw
  obtain ⟨v0, v1, v2, v3, v4, v5⟩ : W5.cell? ⟨w.heap.size + 1, 0, none⟩ = some (.int .i64 v.k) ∧ W5.cell? ⟨w.heap.size + 1, 1, none⟩ = some (.int .i64 v.p) ∧ W5.cell? ⟨w.heap.size + 1, 2, none⟩ = some (.int .i64 v.i) ∧ W5.cell? ⟨w.heap.size + 1, 3, none⟩ = some (.int .i64 v.b) ∧ W5.cell? ⟨w.heap.size + 1, 4, none⟩ = some (.int .i64 v.he) ∧ W5.cell? ⟨w.heap.size + 1, 5, none⟩ = some (.int .i64 v.hn) := by
    have := (unveil HS5).e
    simp [World.cell?, this]
  obtain ⟨x0, x1, x2, x3, x4, x5⟩ := (unveil HS5).b.cells
  have q5 := unveil HQ5
  go_upto_region 7 with (first
    | (refine q_loads _ rfl rfl rfl q5 ?_)
    | (go_at_call 65; refine hSV.mono ?_; rintro x W6 ⟨an, l, al, cl, rfl, svr, rl, nl, b6⟩; have HSR := veil svr; have HRL := veil rl; have S6 := (unveil HS5).next b6; have hy6 := S6.y.lt; have HS6 := veil S6; clear hSV svr rl b6 S6 HS5 q5 v0 v1 v2 v3 v4 v5 x0 x1 x2 x3 x4 x5))
  have hW7 : ∃ W7, W7 = W6.alloc (.cells #[.int .i64 an.c, .int .i64 an.he, .int .i64 an.no, .int .i64 an.bd] 44) ∧ Sr w W7 B a c v ∧ ansBlock W7 W6.heap.size an.c an.he an.no an.bd ∧ RowK .i64 W7 al (6 * l.length) (evFlat l) := ⟨_, rfl, (unveil HS6).next (below1 _ _), ansBlock.new _ _ _ _ _, (unveil HRL).below (below1 _ _)⟩
  obtain ⟨W7, hW7, S7, y7, r7⟩ := hW7
  rw [← hW7]
  clear hW7 HS6 HRL
  obtain ⟨k, hkl⟩ : ∃ k, l.length = k := ⟨_, rfl⟩
  rw [hkl] at r7 ⊢
  have hk1 : k ≤ 1 := by
    rw [← hkl]
    cases unveil HSR <;> simp
  have hl0 := ok.len
  have HW : Hid (∀ W, Below W7.heap.size W7 W → Calls Tryz.prog 59 #[bVal B.r B.e B.f B.t B.o a B.es.length c, .slice al k cl] W fun x w' => ∃ y, x = .returned y ∧ BOut W w' (B.more l) y ∧ Below W.heap.size W w') := veil fun W bb => bwith_any B a c l al k cl W ((hb.next S7.bel).next bb) hkl (r7.below bb) nl (by omega)
  have HKL := veil hkl
  clear hkl
  refine wp_region_held_drew (S := fun u => bBlock u w.heap.size B.r B.e B.f B.t B.o a B.es.length c ∧ ansBlock u W6.heap.size an.c an.he an.no an.bd) (by kernel_rfl) ⟨S7.b.next (below_drew W7), y7.next (below_drew W7)⟩ (fun hHeld => ?_)
  refine wpAnyH_take (i := 0) (v := bVal B.r B.e B.f B.t B.o a B.es.length c) rfl (by kernel_rfl) (by kernel_rfl) (by kernel_rfl) (fun _ _ _ h => h) (Or.inl ⟨by rfl, fun u h => by obtain ⟨x0, x1, x2, x3, x4, x5⟩ := h.1.cells; go_simp⟩) hHeld ?_
  simp only [List.getElem_toArray, List.getElem_cons_zero, Act.put, List.setIfInBounds_toArray, List.set_cons_zero, List.set_cons_succ]
  refine wpAnyH_take (i := 1) (v := .slice al k cl) rfl (by kernel_rfl) (by kernel_rfl) (by kernel_rfl) (fun _ _ _ h => h) (Or.inl ⟨by rfl, fun _ _ => by go_simp⟩) hHeld ?_
  simp only [List.getElem_toArray, List.getElem_cons_zero, List.getElem_cons_succ, Act.put, List.setIfInBounds_toArray, List.set_cons_zero, List.set_cons_succ]
  refine wpAnyH_take (i := 3) (v := anOf an) rfl (by kernel_rfl) (by kernel_rfl) (by kernel_rfl) (fun _ _ _ h => h) (yields_a _ rfl rfl rfl (fun _ h => h.2)) hHeld ?_
  simp only [List.getElem_toArray, List.getElem_cons_zero, List.getElem_cons_succ, Act.put, List.setIfInBounds_toArray, List.set_cons_zero, List.set_cons_succ]
  refine wpAnyH_take (i := 4) (v := .slice al k cl) rfl (by kernel_rfl) (by kernel_rfl) (by kernel_rfl) (fun _ _ _ h => h) (Or.inl ⟨by rfl, fun _ _ => by go_simp⟩) hHeld ?_
  simp only [List.getElem_toArray, List.getElem_cons_zero, List.getElem_cons_succ, Act.put, List.setIfInBounds_toArray, List.set_cons_zero, List.set_cons_succ]
  refine wpAnyH_take (i := 5) (v := .int .i64 (k : Int)) rfl (by kernel_rfl) (by kernel_rfl) (by kernel_rfl) (fun _ _ _ h => h) (Or.inl ⟨by rfl, fun _ _ => by go_simp⟩) hHeld ?_
  simp only [List.getElem_toArray, List.getElem_cons_zero, List.getElem_cons_succ, Act.put, List.setIfInBounds_toArray, List.set_cons_zero, List.set_cons_succ]
  refine wpAnyH_take (i := 6) (v := .bool (decide (0 < k))) rfl (by kernel_rfl) (by kernel_rfl) (by kernel_rfl) (fun _ _ _ h => h) (Or.inl ⟨by rfl, fun _ _ => by go_simp⟩) hHeld ?_
  simp only [List.getElem_toArray, List.getElem_cons_zero, List.getElem_cons_succ, Act.put, List.setIfInBounds_toArray, List.set_cons_zero, List.set_cons_succ]
  have S0 := S7.next (below_drew W7)
  have Y0 := y7.next (below_drew W7)
  have hW0 := unveil HW W7.drew (below_drew W7)
  have hs0 : W6.heap.size < W7.drew.heap.size := y7.lt
  obtain ⟨W0, hWW⟩ : ∃ W0, W0 = W7.drew := ⟨_, rfl⟩
  rw [← hWW] at S0 Y0 hHeld hW0 hs0 ⊢
  clear hWW HW
  refine wpAnyH_ready (rs := [2]) (by kernel_rfl) (by simp) ?_
  refine AllReadyH.cons rfl (fun K hK => ?_) AllReadyH.nil
  simp only [List.getElem_toArray, List.getElem_cons_zero, List.getElem_cons_succ]
  go_simp
  refine hW0.mono ?_
  rintro x W8 ⟨y, rfl, ⟨⟨a', c', rfl, i8, u8⟩⟩, b8⟩
  have S8 := S0.next b8
  have Y8 := Y0.next b8
  refine hK.out _ _ ⟨S8.b, Y8⟩ (fun hHeld => ?_)
  clear hK K
  obtain ⟨B2, hB2⟩ : ∃ B2, B2 = B.more l := ⟨_, rfl⟩
  have HB2 := veil hB2
  rw [← hB2] at i8 ⊢
  clear hB2
  refine wpAnyH_ready (rs := [7]) (by kernel_rfl) (by simp) ?_
  refine AllReadyH.cons rfl (fun K hK => ?_) AllReadyH.nil
  simp only [List.getElem_toArray, List.getElem_cons_zero, List.getElem_cons_succ]
  obtain ⟨z0, z1, z2, z3, z4, z5⟩ := S8.z.cells
  have zf := S8.z.free
  go_simp
  obtain ⟨W9, hW9, d9, b9, t9⟩ := b_stored S8.z S8.bel (show w.heap.size ≤ w.heap.size + 2 by omega) B2.r B2.e B2.f B2.t B2.o a' B2.es.length c'
  rw [← hW9]
  clear hW9
  have y9 := S8.y.turned t9 (by omega)
  have i9 := i8.turned t9 (fun x hx _ => by have := u8 x hx; omega)
  refine hK.out _ _ ⟨S8.b.turned t9 (by omega), Y8.turned t9 (by omega)⟩ (fun hHeld => ?_)
  clear hK K z0 z1 z2 z3 z4 z5 zf
  refine wpAnyH_ready (rs := [8]) (by kernel_rfl) (by simp) ?_
  refine AllReadyH.cons rfl (fun K hK => ?_) AllReadyH.nil
  simp only [List.getElem_toArray, List.getElem_cons_zero, List.getElem_cons_succ]
  obtain ⟨y0, y1, y2, y3⟩ := y9.cells
  have yf := y9.free
  go_simp
  obtain ⟨W10, hW10, d10, b10, t10⟩ := a_stored y9 b9 (show w.heap.size ≤ w.heap.size + 3 by omega) an.c an.he an.no an.bd
  rw [← hW10]
  clear hW10
  have e10 := d9.turned t10 (by omega)
  have i10 := i9.turned t10 (fun x hx _ => by have := u8 x hx; omega)
  refine hK.out _ _ ⟨hHeld.1.turned t10 (by omega), hHeld.2.turned t10 (by omega)⟩ (fun hHeld => ?_)
  clear hK K y0 y1 y2 y3 yf
  refine wpAnyH_take (i := 9) (v := .bool (decide (0 < k))) rfl (by kernel_rfl) (by kernel_rfl) (by kernel_rfl) (fun _ _ _ h => h) (Or.inl ⟨by rfl, fun _ _ => by go_simp⟩) hHeld ?_
  simp only [List.getElem_toArray, List.getElem_cons_zero, List.getElem_cons_succ, Act.put, List.setIfInBounds_toArray, List.set_cons_zero, List.set_cons_succ]
  refine wpAnyH_take (i := 10) (v := .int .i64 0) rfl (by kernel_rfl) (by kernel_rfl) (by kernel_rfl) (fun _ _ _ h => h) (Or.inl ⟨by rfl, fun _ _ => by go_simp⟩) hHeld ?_
  simp only [List.getElem_toArray, List.getElem_cons_zero, List.getElem_cons_succ, Act.put, List.setIfInBounds_toArray, List.set_cons_zero, List.set_cons_succ]
  refine wpAnyH_done (by kernel_rfl) ?_ _
  have HD := veil d10
  have HE := veil e10
  have HB := veil b10
  have HI := veil i10
  have HU := veil u8
  clear d9 d10 e10 b9 b10 i8 i9 i10 t9 t10 y9 hHeld S8 Y8 S0 Y0 S7 y7 r7 u8
  go_wp2
  have hsv := (unveil HSR).serve ok hv (unveil HK) (unveil HTT)
  rw [unveil HKL, ← unveil HB2] at hsv
  exact bodyPost_ret (ret_Serve (unveil HE) (unveil HD) rfl rfl rfl rfl) rfl ⟨_, an, _, 0, B2, rfl, hsv, ⟨a', c', rfl, unveil HI, fun x hx => by have := unveil HU x hx; omega⟩, unveil HB⟩
end Go.Proofs.YtegbndllfnimdaaGreat
