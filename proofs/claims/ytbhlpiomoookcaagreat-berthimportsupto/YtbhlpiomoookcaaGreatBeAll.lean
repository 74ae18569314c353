/- Texts put together: BeA, BeB, BeC, BeD, BeE, BeF, BeG, BeH, BeI. -/
import Derived.Test.YtbhlpiomoookcaaGreatHsAll
import Derived.OwnWalk
import Derived.Deep.DeepCutAuto
namespace Go.Proofs.YtbhlpiomoookcaaGreat
open Go.RowKit

/-- a berth's numbers and events. -/
structure Bt where
  r : Int
  e : Int
  f : Int
  t : Int
  o : Int
  es : List Ev
def Bt.zero : Bt := ⟨0, 0, 0, 0, 0, []⟩
/-- as far as one sees without the events being told. -/
def standP (r e f t o : Int) (n : Nat) : Prop :=
  (r = 0 ∧ n = 0 ∧ 0 ≤ e ∧ e ≤ 1048576 ∧ f = 0 ∧ t = 0 ∧ o = 0) ∨
  (r = 1 ∧ 1 ≤ e ∧ e ≤ 1048576 ∧ f = 0 ∧ t = 0 ∧ o = 0) ∨
  (r = 2 ∧ 1 ≤ e ∧ e ≤ 1048576 ∧ f = 0 ∧ 0 ≤ t ∧ t ≤ 4 ∧ 0 ≤ o ∧ o ≤ 4) ∨
  (r = 3 ∧ 1 ≤ e ∧ e ≤ 1048576 ∧ f = 0 ∧ 0 ≤ t ∧ t ≤ 4 ∧ o = 0) ∨
  (r = 4 ∧ 1 ≤ e ∧ e ≤ 1048576 ∧ 0 ≤ f ∧ f ≤ 4 ∧ t = 0 ∧ o = 0)
instance (r e f t o : Int) (n : Nat) : Decidable (standP r e f t o n) := by unfold standP; infer_instance
def Bt.Stand (B : Bt) : Prop := standP B.r B.e B.f B.t B.o B.es.length
/-- a berth that may be. -/
structure Bt.Ok (B : Bt) : Prop where
  stand : B.Stand
  len : B.es.length ≤ 2000
  told : ∃ s ans, Tells B.es s ans
theorem Bt.zero_ok : Bt.zero.Ok := ⟨.inl ⟨rfl, rfl, by decide, by decide, rfl, rfl, rfl⟩, by decide, St.zero, [], .nil⟩
theorem Rv.ok {B : Bt} {s : St} {er : Int} (h : Rv B.es s er) (hs : B.Stand) : er = 0 ↔ B.Ok := by
  constructor
  · intro h0
    cases h with
    | size => omega
    | form => omega
    | told ans hl ht => exact ⟨hs, hl, s, ans, ht⟩
  · intro ok
    obtain ⟨s', ans, ht⟩ := ok.told
    exact (h.one (.told ans ok.len ht)).2
/-- the Break. -/
def Ev.brk : Ev := ⟨4, 0, 0, 0, 0, 0⟩
theorem Ev.brk_ok : Ev.brk.Ok := by
  unfold Ev.Ok Ev.brk eventFault
  simp
open Classical in
noncomputable def makeOf (B : Bt) (ep : Int) : Bt × Int :=
  if ¬ B.Ok then (Bt.zero, 6) else if ¬ (1 ≤ ep ∧ ep ≤ 1048576) then (Bt.zero, 2) else if ¬ B.r = 0 then (Bt.zero, 8) else if ep ≤ B.e then (Bt.zero, 15) else (⟨1, ep, 0, 0, 0, []⟩, 0)
open Classical in
noncomputable def goesOf (B : Bt) (nd : Int) : Bt × Int :=
  if ¬ B.Ok then (Bt.zero, 6) else if ¬ (0 ≤ nd ∧ nd ≤ 4) then (Bt.zero, 2) else if B.r = 2 ∨ B.r = 3 then (Bt.zero, 12) else if ¬ B.r = 1 then (Bt.zero, 7) else if B.e = 1048576 then (Bt.zero, 14) else (⟨2, B.e, B.f, nd, B.o, B.es⟩, 0)
open Classical in
noncomputable def tellOf (B : Bt) (hv : Int) : Int :=
  if ¬ B.Ok then 6 else if ¬ (B.r = 2 ∨ B.r = 3) then 7 else if ¬ (0 ≤ hv ∧ hv ≤ B.es.length) then 2 else 0
noncomputable def caughtOf (B : Bt) (hv : Int) : Bt × Int :=
  if ¬ tellOf B hv = 0 then (Bt.zero, tellOf B hv) else if B.r = 3 then (B, 0) else if hv = B.es.length ∨ B.o = 4 then (⟨3, B.e, B.f, B.t, 0, B.es⟩, 0) else (⟨B.r, B.e, B.f, B.t, B.o + 1, B.es⟩, 0)
noncomputable def partOf (B : Bt) (hv : Int) : List Ev × Bool × Int :=
  if ¬ tellOf B hv = 0 then ([], false, tellOf B hv) else ((B.es.drop hv.toNat).take 3, decide (B.r = 3 ∧ B.es.length ≤ hv.toNat + 3), 0)
open Classical in
noncomputable def beginOf (B : Bt) (ep fr : Int) : Bt × Int :=
  if ¬ B.Ok then (Bt.zero, 6) else if ¬ ((1 ≤ ep ∧ ep ≤ 1048576) ∧ (0 ≤ fr ∧ fr ≤ 4)) then (Bt.zero, 2) else if B.r = 1 ∨ B.r = 2 ∨ B.r = 3 then (Bt.zero, 8)
  else if B.r = 4 ∧ B.e = ep ∧ B.f = fr then (B, 0) else if ep ≤ B.e then (Bt.zero, 15) else (⟨4, ep, fr, 0, 0, []⟩, 0)
open Classical in
noncomputable def forgetOf (B : Bt) (ep : Int) : Bt × Int :=
  if ¬ B.Ok then (Bt.zero, 6) else if ¬ B.r = 3 then (Bt.zero, 7) else if ep ≤ B.e then (Bt.zero, 15) else (⟨0, B.e, 0, 0, 0, []⟩, 0)
/-- a berth that serves from now on, with a Break behind its events. -/
def Bt.broken (B : Bt) : Bt := ⟨1, B.e, 0, 0, 0, B.es ++ [Ev.brk]⟩
def Bt.more (B : Bt) (l : List Ev) : Bt := ⟨B.r, B.e, B.f, B.t, B.o, B.es ++ l⟩
open Classical in
noncomputable def wakeOf (B : Bt) : Bt × Int :=
  if ¬ B.Ok then (Bt.zero, 6) else if ¬ (B.r = 1 ∨ B.r = 2) then (B, 0) else if ¬ B.broken.Ok then (Bt.zero, 14) else (B.broken, 0)
/-- what comes goes together with what is there. -/
def Fits (hv come : List Ev) (last : Bool) : Prop := come.take hv.length = hv.take come.length ∧ (last = true → hv.length ≤ come.length)
open Classical in
noncomputable def importOf (B : Bt) (ep at' : Int) (l : List Ev) (last : Bool) : Bt × Int :=
  if ¬ B.Ok then (Bt.zero, 6) else if ¬ B.r = 4 then (Bt.zero, 7) else if ¬ B.e = ep then (Bt.zero, 15) else if ¬ (0 ≤ at' ∧ at' ≤ B.es.length) then (Bt.zero, 2)
  else if ¬ (l.length ≤ 2000 ∧ Fits (B.es.drop at'.toNat) l last) then (Bt.zero, 3)
  else if ¬ (if last then (B.more (l.drop (B.es.length - at'.toNat))).broken else B.more (l.drop (B.es.length - at'.toNat))).Ok then (Bt.zero, 3)
  else (if last then (B.more (l.drop (B.es.length - at'.toNat))).broken else B.more (l.drop (B.es.length - at'.toNat)), 0)
/-- what Serve answers. -/
inductive ServeR (B : Bt) (v : Ev) : Bt → An → Bool → Int → Prop
  | state (h : ¬ B.Ok) : ServeR B v Bt.zero An.zero false 6
  | fault (h : B.Ok) (f : Int) (hf : eventFault v.k v.p v.i v.b v.he v.hn = f) (h0 : ¬ f = 0) : ServeR B v Bt.zero An.zero false f
  | brk (h : B.Ok) (hv : v.Ok) (hk : v.k = 4) : ServeR B v Bt.zero An.zero false 3
  | shut (h : B.Ok) (hv : v.Ok) (hk : ¬ v.k = 4) (hr : B.r = 3) : ServeR B v B ⟨12, 0, 0, 0⟩ false 0
  | none (h : B.Ok) (hv : v.Ok) (hk : ¬ v.k = 4) (hr : B.r = 0 ∨ B.r = 4) : ServeR B v B ⟨7, 0, 0, 0⟩ false 0
  | same (h : B.Ok) (hv : v.Ok) (hk : ¬ v.k = 4) (hr : B.r = 1 ∨ B.r = 2) (s : St) (ans : List An) (ht : Tells B.es s ans) (s' : St) (an : An) (st : Step s v s' an false) : ServeR B v B an false 0
  | full (h : B.Ok) (hv : v.Ok) (hk : ¬ v.k = 4) (hr : B.r = 1 ∨ B.r = 2) (s : St) (ans : List An) (ht : Tells B.es s ans) (s' : St) (an : An) (st : Step s v s' an true) (hl : 1999 ≤ B.es.length) : ServeR B v B ⟨14, 0, 0, 0⟩ false 0
  | done (h : B.Ok) (hv : v.Ok) (hk : ¬ v.k = 4) (hr : B.r = 1 ∨ B.r = 2) (s : St) (ans : List An) (ht : Tells B.es s ans) (s' : St) (an : An) (st : Step s v s' an true) (hl : B.es.length < 1999) : ServeR B v (B.more [v]) an true 0
/-- a berth in memory. -/
abbrev bCells (r e f t o : Int) (a : Option Addr) (n c : Nat) : Array Value := #[.int .i64 r, .int .i64 e, .int .i64 f, .int .i64 t, .int .i64 o, .slice a n c]
abbrev bVal (r e f t o : Int) (a : Option Addr) (n c : Nat) : Value := .agg (bCells r e f t o a n c)
def bBlock (w : World) (R : Nat) (r e f t o : Int) (a : Option Addr) (n c : Nat) : Prop := w.heap[R]? = some (.cells (bCells r e f t o a n c) 24 (0, 0))
section
variable {w w' : World} {R : Nat} {r e f t o : Int} {a : Option Addr} {n c : Nat}
theorem bBlock.cells (h : bBlock w R r e f t o a n c) : w.cell? ⟨R, 0, none⟩ = some (.int .i64 r) ∧ w.cell? ⟨R, 1, none⟩ = some (.int .i64 e) ∧ w.cell? ⟨R, 2, none⟩ = some (.int .i64 f) ∧ w.cell? ⟨R, 3, none⟩ = some (.int .i64 t) ∧ w.cell? ⟨R, 4, none⟩ = some (.int .i64 o) ∧ w.cell? ⟨R, 5, none⟩ = some (.slice a n c) := by
  unfold bBlock at h; simp [World.cell?, h]
theorem bBlock.lt (h : bBlock w R r e f t o a n c) : R < w.heap.size := by
  unfold bBlock at h
  rcases Nat.lt_or_ge R w.heap.size with h' | h'
  · exact h'
  · simp [Array.getElem?_eq_none h'] at h
theorem bBlock.below {N : Nat} (h : bBlock w R r e f t o a n c) (hb : Below N w w') (hR : R < N) : bBlock w' R r e f t o a n c := by
  unfold bBlock at h ⊢; rw [← h]; exact hb.block R hR
theorem bBlock.next (h : bBlock w R r e f t o a n c) (hb : Below w.heap.size w w') : bBlock w' R r e f t o a n c := h.below hb h.lt
theorem bBlock.free (h : bBlock w R r e f t o a n c) (k : Nat) : w.frozen? ⟨R, k, none⟩ = false := by
  unfold bBlock at h; simp [World.frozen?, h]
theorem bBlock.turned {R' : Nat} (h : bBlock w R r e f t o a n c) (tn : Turned R' w w') (hR : R ≠ R') : bBlock w' R r e f t o a n c := by
  unfold bBlock at h ⊢; rw [tn.block R hR]; exact h
theorem bBlock.new (w : World) (r e f t o : Int) (a : Option Addr) (n c : Nat) : bBlock (w.alloc (.cells (bCells r e f t o a n c) 24)) w.heap.size r e f t o a n c := heap_alloc_new w _
theorem heap_setB {k : Nat} {cs : Array Value} {T : TypeId} {v : Value} (h : w.heap[R]? = some (.cells cs T (0, 0))) : (w.setCell ⟨R, k, none⟩ v).heap[R]? = some (.cells (cs.set! k v) T (0, 0)) := by
  rw [setCell_eq_setRow w R k _ _ (0, 0) _ h, setRow_heap w R _ _ _ _ h]
  rfl
/-- a berth stored whole. -/
abbrev bStore (w : World) (R : Nat) (r e f t o : Int) (a : Option Addr) (n c : Nat) : World := (((((w.setCell ⟨R, 0, none⟩ (.int .i64 r)).setCell ⟨R, 1, none⟩ (.int .i64 e)).setCell ⟨R, 2, none⟩ (.int .i64 f)).setCell ⟨R, 3, none⟩ (.int .i64 t)).setCell ⟨R, 4, none⟩ (.int .i64 o)).setCell ⟨R, 5, none⟩ (.slice a n c)
theorem bBlock.store (h : bBlock w R r e f t o a n c) (r' e' f' t' o' : Int) (a' : Option Addr) (n' c' : Nat) : bBlock (bStore w R r' e' f' t' o' a' n' c') R r' e' f' t' o' a' n' c' := by
  unfold bBlock at h ⊢
  rw [heap_setB (heap_setB (heap_setB (heap_setB (heap_setB (heap_setB h)))))]
  simp
theorem bBlock.turn (w : World) (R : Nat) (r e f t o : Int) (a : Option Addr) (n c : Nat) : Turned R w (bStore w R r e f t o a n c) :=
  (((((Turned.set R 0 w _).trans (Turned.set R 1 _ _)).trans (Turned.set R 2 _ _)).trans (Turned.set R 3 _ _)).trans (Turned.set R 4 _ _)).trans (Turned.set R 5 _ _)
end
/-- a berth that came in: its events. -/
structure BIn (w : World) (B : Bt) (a : Option Addr) (c : Nat) : Prop where
  row : RowK .i64 w a (6 * B.es.length) (evFlat B.es)
  cap : B.es.length ≤ c
  nil : a = none → c = 0
theorem BIn.next {w w' : World} {B : Bt} {a : Option Addr} {c : Nat} (h : BIn w B a c) (b : Below w.heap.size w w') : BIn w' B a c := ⟨h.row.below b, h.cap, h.nil⟩
theorem BIn.turned {w w' : World} {B : Bt} {a : Option Addr} {c R : Nat} (h : BIn w B a c) (t : Turned R w w') (hR : ∀ x, a = some x → 0 < B.es.length → x.block ≠ R) : BIn w' B a c := ⟨t.row h.row (fun x hx h0 => hR x hx (by omega)), h.cap, h.nil⟩
/-- a berth that is answered. -/
structure BOut (w w' : World) (B : Bt) (x : Value) : Prop where
  ex : ∃ a c, x = bVal B.r B.e B.f B.t B.o a B.es.length c ∧ BIn w' B a c ∧ (∀ x, a = some x → w.heap.size ≤ x.block)
theorem BOut.zero (w w' : World) : BOut w w' Bt.zero (bVal 0 0 0 0 0 none 0 0) := ⟨none, 0, rfl, ⟨RowK.nil _ _ _, Nat.le_refl _, fun _ => rfl⟩, fun x hx => by cases hx⟩
end Go.Proofs.YtbhlpiomoookcaaGreat

namespace Go.Proofs.YtbhlpiomoookcaaGreat
open Go.RowKit

theorem within_any (x m : Int) (w : World) : Calls Tryz.prog 28 #[.int .i64 x, .int .i64 m] w fun e w' => e = .returned (.bool (decide (0 ≤ x ∧ x ≤ m))) ∧ w' = w := by
  by_cases h1 : 0 ≤ x
  · by_cases h2 : x ≤ m
    · rw [decide_eq_true (show 0 ≤ x ∧ x ≤ m from ⟨h1, h2⟩)]
      go_enter Tryz.func28, Tryz.ntmps28
      go_wp2
      go_ret
      exact ⟨rfl, rfl⟩
    · rw [decide_eq_false (show ¬ (0 ≤ x ∧ x ≤ m) from fun h => h2 h.2)]
      go_enter Tryz.func28, Tryz.ntmps28
      go_wp2
      go_ret
      exact ⟨rfl, rfl⟩
  · rw [decide_eq_false (show ¬ (0 ≤ x ∧ x ≤ m) from fun h => h1 h.1)]
    go_enter Tryz.func28, Tryz.ntmps28
    go_wp2
    go_ret
    exact ⟨rfl, rfl⟩
theorem isEpoch_any (x : Int) (w : World) : Calls Tryz.prog 22 #[.int .i64 x] w fun e w' => e = .returned (.bool (decide (1 ≤ x ∧ x ≤ 1048576))) ∧ w' = w := by
  by_cases h1 : 1 ≤ x
  · by_cases h2 : x ≤ 1048576
    · rw [decide_eq_true (show 1 ≤ x ∧ x ≤ 1048576 from ⟨h1, h2⟩)]
      go_enter Tryz.func22, Tryz.ntmps22
      go_wp2
      go_ret
      exact ⟨rfl, rfl⟩
    · rw [decide_eq_false (show ¬ (1 ≤ x ∧ x ≤ 1048576) from fun h => h2 h.2)]
      go_enter Tryz.func22, Tryz.ntmps22
      go_wp2
      go_ret
      exact ⟨rfl, rfl⟩
  · rw [decide_eq_false (show ¬ (1 ≤ x ∧ x ≤ 1048576) from fun h => h1 h.1)]
    go_enter Tryz.func22, Tryz.ntmps22
    go_wp2
    go_ret
    exact ⟨rfl, rfl⟩
theorem isBerthNode_any (x : Int) (w : World) : Calls Tryz.prog 23 #[.int .i64 x] w fun e w' => e = .returned (.bool (decide (0 ≤ x ∧ x ≤ 4))) ∧ w' = w := by
  go_enter Tryz.func23, Tryz.ntmps23
  go_wp2_with (go_at_call 28; refine (within_any _ _ _).mono ?_; rintro e w1 ⟨rfl, rfl⟩)
  go_ret
  exact ⟨by simp, rfl⟩
section
variable (r e f t o : Int) (a : Option Addr) (n c : Nat) (w : World)
theorem serves_any : Calls Tryz.prog 24 #[bVal r e f t o a n c] w fun x w' => x = .returned (.bool (decide (r = 1 ∨ r = 2))) ∧ Below w.heap.size w w' := by
  by_cases h1 : r = 1
  · subst h1
    go_enter Tryz.func24, Tryz.ntmps24
    go_wp2
    go_ret
    exact ⟨by simp, below1 _ _⟩
  · by_cases h2 : r = 2
    · subst h2
      go_enter Tryz.func24, Tryz.ntmps24
      go_wp2
      go_ret
      exact ⟨by simp, below1 _ _⟩
    · rw [decide_eq_false (show ¬ (r = 1 ∨ r = 2) by omega)]
      go_enter Tryz.func24, Tryz.ntmps24
      go_wp2
      go_ret
      exact ⟨by simp [h1, h2], below1 _ _⟩
theorem isSource_any : Calls Tryz.prog 31 #[bVal r e f t o a n c] w fun x w' => x = .returned (.bool (decide (r = 2 ∨ r = 3))) ∧ Below w.heap.size w w' := by
  by_cases h1 : r = 2
  · subst h1
    go_enter Tryz.func31, Tryz.ntmps31
    go_wp2
    go_ret
    exact ⟨by simp, below1 _ _⟩
  · by_cases h2 : r = 3
    · subst h2
      go_enter Tryz.func31, Tryz.ntmps31
      go_wp2
      go_ret
      exact ⟨by simp, below1 _ _⟩
    · rw [decide_eq_false (show ¬ (r = 2 ∨ r = 3) by omega)]
      go_enter Tryz.func31, Tryz.ntmps31
      go_wp2
      go_ret
      exact ⟨by simp [h1, h2], below1 _ _⟩
end
theorem b_stored {w wx : World} {R N : Nat} {r e f t o : Int} {a : Option Addr} {n c : Nat} (h : bBlock wx R r e f t o a n c) (bel : Below N w wx) (hN : N ≤ R) (r' e' f' t' o' : Int) (a' : Option Addr) (n' c' : Nat) :
    ∃ W, W = (((((wx.setCell ⟨R, 0, none⟩ (.int .i64 r')).setCell ⟨R, 1, none⟩ (.int .i64 e')).setCell ⟨R, 2, none⟩ (.int .i64 f')).setCell ⟨R, 3, none⟩ (.int .i64 t')).setCell ⟨R, 4, none⟩ (.int .i64 o')).setCell ⟨R, 5, none⟩ (.slice a' n' c') ∧ bBlock W R r' e' f' t' o' a' n' c' ∧ Below N w W ∧ Turned R wx W :=
  ⟨_, rfl, h.store _ _ _ _ _ _ _ _, (bBlock.turn _ _ _ _ _ _ _ _ _ _).under bel hN, bBlock.turn _ _ _ _ _ _ _ _ _ _⟩
theorem load_berth {W : World} {R : Nat} {r e f t o : Int} {a : Option Addr} {n c : Nat} (d : bBlock W R r e f t o a n c) : (loadVar 24 ⟨R, 0, none⟩).run Tryz.prog W = .ok (bVal r e f t o a n c) W :=
  run_loadVar_row (P := Tryz.prog) W R 24 24 _ (0, 0) _ d Tryz.underlying24 rfl (by kernel_rfl)
theorem ret_refuse {W : World} {R : Nat} {r e f t o : Int} {a : Option Addr} {n c : Nat} {er : Int} {tmps : Array Value} (d : bBlock W R r e f t o a n c) (t2 : tmps[2]? = some (.pointer (some ⟨R, 0, none⟩))) (t3 : tmps[3]? = some (.int .i64 er)) :
    (results Tryz.f18 tmps).run Tryz.prog W = .ok (.tuple #[bVal r e f t o a n c, .int .i64 er]) W := by
  simp [results, Tryz.results18, t2, t3, asAddr, load_berth d]
theorem refuse_any (er : Int) (w : World) : Calls Tryz.prog 18 #[.int .i64 er] w fun x w' => x = .returned (.tuple #[bVal 0 0 0 0 0 none 0 0, .int .i64 er]) ∧ Below w.heap.size w w' := by
  go_enter Tryz.func18, Tryz.ntmps18
  go_upto_region 1 with fail
  obtain ⟨W, hW, z, b⟩ : ∃ W, W = w.alloc (.cells (bCells 0 0 0 0 0 none 0 0) 24) ∧ bBlock W w.heap.size 0 0 0 0 0 none 0 0 ∧ Below w.heap.size w W := ⟨_, rfl, bBlock.new _ _ _ _ _ _ _ _ _, below1 _ _⟩
  rw [← hW]
  clear hW
  obtain ⟨x0, x1, x2, x3, x4, x5⟩ := z.cells
  have zf := z.free
  have HZ := veil z
  have HB := veil b
  clear z b
  go_wp2
  obtain ⟨W2, hW2, d2, b2, _⟩ := b_stored (unveil HZ) (unveil HB) (Nat.le_refl _) 0 0 0 0 0 none 0 0
  rw [← hW2]
  exact bodyPost_ret (ret_refuse d2 rfl rfl) rfl ⟨rfl, b2⟩
/-- events one behind the other, in new memory. -/
theorem behind_any (a b : Option Addr) (la ca lb cb : Nat) (A B : List Int) (w : World) (hA : RowK .i64 w a (6 * la) A) (hB : RowK .i64 w b (6 * lb) B) (nA : a = none → ca = 0) (nB : b = none → cb = 0) (hs : la + lb ≤ 1000000) :
    Calls Tryz.prog 32 #[.slice a la ca, .slice b lb cb] w fun e w' => ∃ a' c', e = .returned (.slice a' (la + lb : Nat) c') ∧ RowK .i64 w' a' (6 * (la + lb)) (A ++ B) ∧ la + lb ≤ c' ∧ (a' = none → c' = 0) ∧ (∀ x, a' = some x → w.heap.size ≤ x.block) ∧ Below w.heap.size w w' := by
  obtain ⟨i6, hi6, hz60, hz61, hz62⟩ := info_of Tryz.infoEvent
  have hw : IntKind.i64.wrap ((la : Int) + (lb : Int)) = ((la + lb : Nat) : Int) := by rw [IntKind.wrap_i64]; omega
  have hwf : ∀ u ∈ A ++ B, (Lit.int .i64 u).wf = true := fun u hu => by
    rcases List.mem_append.1 hu with h | h
    · exact hA.wf u h
    · exact hB.wf u h
  have HA : Hid (∀ w', Below w.heap.size w w' → RowK .i64 w' a (6 * la) A) := veil fun w' b => hA.below b
  have HB : Hid (∀ w', Below w.heap.size w w' → RowK .i64 w' b (6 * lb) B) := veil fun w' b => hB.below b
  clear hA hB
  go_enter Tryz.func32, Tryz.ntmps32
  go_wp2_with (first
    | (refine wpList_make_own _ rfl _ _ 22 rfl w.heap.size 50 i6 _ 6 Tryz.underlying22 hi6 hz60 hz61 .i64 .i64 _ (la + lb) rfl rfl (by first | rfl | omega) (by rw [hz62]; omega) (by unfold maxLen; omega) (Nat.le_refl _) ?_; intro W1 o1 g1; have b1 := (Below.refl w.heap.size w).grown g1 (by omega) (fun q hq => by cases hq))
    | (at_builtin; refine wpList_append_rows rfl _ _ 22 rfl w.heap.size 50 i6 _ 6 48 Tryz.underlying22 hi6 hz60 hz61 hz62 rfl (by decide) (.slice (some ⟨w.heap.size, 0, none⟩) 0 (la + lb)) 0 [] rfl o1 a la ca A rfl (unveil HA _ b1) nA (by unfold maxLen; omega) (by omega) (by have := b1.size; omega) ?_; intro v2 W2 o2 g2; simp only [Nat.zero_add, List.nil_append] at o2; have b2 := b1.grown g2 b1.size (fun q hq => (o1.lt q hq).1); clear o1 g1 g2 b1)
    | (at_builtin; refine wpList_append_rows rfl _ _ 22 rfl w.heap.size 50 i6 _ 6 48 Tryz.underlying22 hi6 hz60 hz61 hz62 rfl (by decide) v2 la A rfl o2 b lb cb B rfl (unveil HB _ b2) nB (by unfold maxLen; omega) (by omega) (by have := b2.size; omega) ?_; intro v3 W3 o3 g3; have b3 := b2.grown g3 b2.size (fun q hq => (o2.lt q hq).1); obtain ⟨a', c', rfl, r3, hc, _, n3, u3⟩ := RowK.ofMany o3 hwf; clear o2 g3 b2))
  go_ret
  exact ⟨a', c', rfl, r3, hc, n3, u3, b3⟩
end Go.Proofs.YtbhlpiomoookcaaGreat

namespace Go.Proofs.YtbhlpiomoookcaaGreat
open Go.RowKit

set_option maxHeartbeats 1000000 in
theorem mayStand_0 (e f t o : Int) (a : Option Addr) (n c : Nat) (w : World) : Calls Tryz.prog 36 #[bVal 0 e f t o a n c] w fun x w' => x = .returned (.bool (decide (standP 0 e f t o n))) ∧ Below w.heap.size w w' := by
  by_cases h0 : 0 < n
  case pos =>
    rw [decide_eq_false (show ¬ standP _ e f t o _ by unfold standP; omega)]
    go_enter Tryz.func36, Tryz.ntmps36
    go_wp2
    go_ret
    exact ⟨by first | rfl | simp, below1 _ _⟩
  case neg =>
  obtain rfl : n = 0 := by omega
  clear h0
  by_cases h1 : 0 ≤ e
  case neg =>
    rw [decide_eq_false (show ¬ standP _ e f t o _ by unfold standP; omega)]
    go_enter Tryz.func36, Tryz.ntmps36
    go_wp2
    go_ret
    exact ⟨by first | rfl | simp, below1 _ _⟩
  case pos =>
  by_cases h2 : e ≤ 1048576
  case neg =>
    rw [decide_eq_false (show ¬ standP _ e f t o _ by unfold standP; omega)]
    go_enter Tryz.func36, Tryz.ntmps36
    go_wp2
    go_ret
    exact ⟨by first | rfl | simp, below1 _ _⟩
  case pos =>
  have hf := fun w => within_any f 0 w
  by_cases h3 : 0 ≤ f ∧ f ≤ 0
  case neg =>
    rw [decide_eq_false h3] at hf
    rw [decide_eq_false (show ¬ standP _ e f t o _ by unfold standP; omega)]
    go_enter Tryz.func36, Tryz.ntmps36
    go_wp2_with (first | (go_at_call 28; refine (hf _).mono ?_; rintro x w1 ⟨rfl, rfl⟩; clear hf))
    go_ret
    exact ⟨by first | rfl | simp, below1 _ _⟩
  case pos =>
  rw [decide_eq_true h3] at hf
  have ht := fun w => within_any t 0 w
  by_cases h4 : 0 ≤ t ∧ t ≤ 0
  case neg =>
    rw [decide_eq_false h4] at ht
    rw [decide_eq_false (show ¬ standP _ e f t o _ by unfold standP; omega)]
    go_enter Tryz.func36, Tryz.ntmps36
    go_wp2_with (first | (go_at_call 28; refine (hf _).mono ?_; rintro x w1 ⟨rfl, rfl⟩; clear hf) | (go_at_call 28; refine (ht _).mono ?_; rintro x w1 ⟨rfl, rfl⟩; clear ht))
    go_ret
    exact ⟨by first | rfl | simp, below1 _ _⟩
  case pos =>
  rw [decide_eq_true h4] at ht
  have ho := fun w => within_any o 0 w
  by_cases h5 : 0 ≤ o ∧ o ≤ 0
  case neg =>
    rw [decide_eq_false h5] at ho
    rw [decide_eq_false (show ¬ standP _ e f t o _ by unfold standP; omega)]
    go_enter Tryz.func36, Tryz.ntmps36
    go_wp2_with (first | (go_at_call 28; refine (hf _).mono ?_; rintro x w1 ⟨rfl, rfl⟩; clear hf) | (go_at_call 28; refine (ht _).mono ?_; rintro x w1 ⟨rfl, rfl⟩; clear ht) | (go_at_call 28; refine (ho _).mono ?_; rintro x w1 ⟨rfl, rfl⟩; clear ho))
    go_ret
    exact ⟨by first | rfl | simp, below1 _ _⟩
  case pos =>
  rw [decide_eq_true h5] at ho
  rw [decide_eq_true (show standP _ e f t o _ by unfold standP; omega)]
  go_enter Tryz.func36, Tryz.ntmps36
  go_wp2_with (first | (go_at_call 28; refine (hf _).mono ?_; rintro x w1 ⟨rfl, rfl⟩; clear hf) | (go_at_call 28; refine (ht _).mono ?_; rintro x w1 ⟨rfl, rfl⟩; clear ht) | (go_at_call 28; refine (ho _).mono ?_; rintro x w1 ⟨rfl, rfl⟩; clear ho))
  go_ret
  exact ⟨by first | rfl | simp, below1 _ _⟩
set_option maxHeartbeats 1000000 in
theorem mayStand_1 (e f t o : Int) (a : Option Addr) (n c : Nat) (w : World) : Calls Tryz.prog 36 #[bVal 1 e f t o a n c] w fun x w' => x = .returned (.bool (decide (standP 1 e f t o n))) ∧ Below w.heap.size w w' := by
  by_cases h1 : 1 ≤ e
  case neg =>
    rw [decide_eq_false (show ¬ standP _ e f t o n by unfold standP; omega)]
    go_enter Tryz.func36, Tryz.ntmps36
    go_wp2
    go_ret
    exact ⟨by first | rfl | simp, below1 _ _⟩
  case pos =>
  by_cases h2 : e ≤ 1048576
  case neg =>
    rw [decide_eq_false (show ¬ standP _ e f t o n by unfold standP; omega)]
    go_enter Tryz.func36, Tryz.ntmps36
    go_wp2
    go_ret
    exact ⟨by first | rfl | simp, below1 _ _⟩
  case pos =>
  have hf := fun w => within_any f 0 w
  by_cases h3 : 0 ≤ f ∧ f ≤ 0
  case neg =>
    rw [decide_eq_false h3] at hf
    rw [decide_eq_false (show ¬ standP _ e f t o n by unfold standP; omega)]
    go_enter Tryz.func36, Tryz.ntmps36
    go_wp2_with (first | (go_at_call 28; refine (hf _).mono ?_; rintro x w1 ⟨rfl, rfl⟩; clear hf))
    go_ret
    exact ⟨by first | rfl | simp, below1 _ _⟩
  case pos =>
  rw [decide_eq_true h3] at hf
  have ht := fun w => within_any t 0 w
  by_cases h4 : 0 ≤ t ∧ t ≤ 0
  case neg =>
    rw [decide_eq_false h4] at ht
    rw [decide_eq_false (show ¬ standP _ e f t o n by unfold standP; omega)]
    go_enter Tryz.func36, Tryz.ntmps36
    go_wp2_with (first | (go_at_call 28; refine (hf _).mono ?_; rintro x w1 ⟨rfl, rfl⟩; clear hf) | (go_at_call 28; refine (ht _).mono ?_; rintro x w1 ⟨rfl, rfl⟩; clear ht))
    go_ret
    exact ⟨by first | rfl | simp, below1 _ _⟩
  case pos =>
  rw [decide_eq_true h4] at ht
  have ho := fun w => within_any o 0 w
  by_cases h5 : 0 ≤ o ∧ o ≤ 0
  case neg =>
    rw [decide_eq_false h5] at ho
    rw [decide_eq_false (show ¬ standP _ e f t o n by unfold standP; omega)]
    go_enter Tryz.func36, Tryz.ntmps36
    go_wp2_with (first | (go_at_call 28; refine (hf _).mono ?_; rintro x w1 ⟨rfl, rfl⟩; clear hf) | (go_at_call 28; refine (ht _).mono ?_; rintro x w1 ⟨rfl, rfl⟩; clear ht) | (go_at_call 28; refine (ho _).mono ?_; rintro x w1 ⟨rfl, rfl⟩; clear ho))
    go_ret
    exact ⟨by first | rfl | simp, below1 _ _⟩
  case pos =>
  rw [decide_eq_true h5] at ho
  rw [decide_eq_true (show standP _ e f t o n by unfold standP; omega)]
  go_enter Tryz.func36, Tryz.ntmps36
  go_wp2_with (first | (go_at_call 28; refine (hf _).mono ?_; rintro x w1 ⟨rfl, rfl⟩; clear hf) | (go_at_call 28; refine (ht _).mono ?_; rintro x w1 ⟨rfl, rfl⟩; clear ht) | (go_at_call 28; refine (ho _).mono ?_; rintro x w1 ⟨rfl, rfl⟩; clear ho))
  go_ret
  exact ⟨by first | rfl | simp, below1 _ _⟩
set_option maxHeartbeats 1000000 in
theorem mayStand_2 (e f t o : Int) (a : Option Addr) (n c : Nat) (w : World) : Calls Tryz.prog 36 #[bVal 2 e f t o a n c] w fun x w' => x = .returned (.bool (decide (standP 2 e f t o n))) ∧ Below w.heap.size w w' := by
  by_cases h1 : 1 ≤ e
  case neg =>
    rw [decide_eq_false (show ¬ standP _ e f t o n by unfold standP; omega)]
    go_enter Tryz.func36, Tryz.ntmps36
    go_wp2
    go_ret
    exact ⟨by first | rfl | simp, below1 _ _⟩
  case pos =>
  by_cases h2 : e ≤ 1048576
  case neg =>
    rw [decide_eq_false (show ¬ standP _ e f t o n by unfold standP; omega)]
    go_enter Tryz.func36, Tryz.ntmps36
    go_wp2
    go_ret
    exact ⟨by first | rfl | simp, below1 _ _⟩
  case pos =>
  have hf := fun w => within_any f 0 w
  by_cases h3 : 0 ≤ f ∧ f ≤ 0
  case neg =>
    rw [decide_eq_false h3] at hf
    rw [decide_eq_false (show ¬ standP _ e f t o n by unfold standP; omega)]
    go_enter Tryz.func36, Tryz.ntmps36
    go_wp2_with (first | (go_at_call 28; refine (hf _).mono ?_; rintro x w1 ⟨rfl, rfl⟩; clear hf))
    go_ret
    exact ⟨by first | rfl | simp, below1 _ _⟩
  case pos =>
  rw [decide_eq_true h3] at hf
  have ht := fun w => within_any t 4 w
  by_cases h4 : 0 ≤ t ∧ t ≤ 4
  case neg =>
    rw [decide_eq_false h4] at ht
    rw [decide_eq_false (show ¬ standP _ e f t o n by unfold standP; omega)]
    go_enter Tryz.func36, Tryz.ntmps36
    go_wp2_with (first | (go_at_call 28; refine (hf _).mono ?_; rintro x w1 ⟨rfl, rfl⟩; clear hf) | (go_at_call 28; refine (ht _).mono ?_; rintro x w1 ⟨rfl, rfl⟩; clear ht))
    go_ret
    exact ⟨by first | rfl | simp, below1 _ _⟩
  case pos =>
  rw [decide_eq_true h4] at ht
  have ho := fun w => within_any o 4 w
  by_cases h5 : 0 ≤ o ∧ o ≤ 4
  case neg =>
    rw [decide_eq_false h5] at ho
    rw [decide_eq_false (show ¬ standP _ e f t o n by unfold standP; omega)]
    go_enter Tryz.func36, Tryz.ntmps36
    go_wp2_with (first | (go_at_call 28; refine (hf _).mono ?_; rintro x w1 ⟨rfl, rfl⟩; clear hf) | (go_at_call 28; refine (ht _).mono ?_; rintro x w1 ⟨rfl, rfl⟩; clear ht) | (go_at_call 28; refine (ho _).mono ?_; rintro x w1 ⟨rfl, rfl⟩; clear ho))
    go_ret
    exact ⟨by first | rfl | simp, below1 _ _⟩
  case pos =>
  rw [decide_eq_true h5] at ho
  rw [decide_eq_true (show standP _ e f t o n by unfold standP; omega)]
  go_enter Tryz.func36, Tryz.ntmps36
  go_wp2_with (first | (go_at_call 28; refine (hf _).mono ?_; rintro x w1 ⟨rfl, rfl⟩; clear hf) | (go_at_call 28; refine (ht _).mono ?_; rintro x w1 ⟨rfl, rfl⟩; clear ht) | (go_at_call 28; refine (ho _).mono ?_; rintro x w1 ⟨rfl, rfl⟩; clear ho))
  go_ret
  exact ⟨by first | rfl | simp, below1 _ _⟩
set_option maxHeartbeats 1000000 in
theorem mayStand_3 (e f t o : Int) (a : Option Addr) (n c : Nat) (w : World) : Calls Tryz.prog 36 #[bVal 3 e f t o a n c] w fun x w' => x = .returned (.bool (decide (standP 3 e f t o n))) ∧ Below w.heap.size w w' := by
  by_cases h1 : 1 ≤ e
  case neg =>
    rw [decide_eq_false (show ¬ standP _ e f t o n by unfold standP; omega)]
    go_enter Tryz.func36, Tryz.ntmps36
    go_wp2
    go_ret
    exact ⟨by first | rfl | simp, below1 _ _⟩
  case pos =>
  by_cases h2 : e ≤ 1048576
  case neg =>
    rw [decide_eq_false (show ¬ standP _ e f t o n by unfold standP; omega)]
    go_enter Tryz.func36, Tryz.ntmps36
    go_wp2
    go_ret
    exact ⟨by first | rfl | simp, below1 _ _⟩
  case pos =>
  have hf := fun w => within_any f 0 w
  by_cases h3 : 0 ≤ f ∧ f ≤ 0
  case neg =>
    rw [decide_eq_false h3] at hf
    rw [decide_eq_false (show ¬ standP _ e f t o n by unfold standP; omega)]
    go_enter Tryz.func36, Tryz.ntmps36
    go_wp2_with (first | (go_at_call 28; refine (hf _).mono ?_; rintro x w1 ⟨rfl, rfl⟩; clear hf))
    go_ret
    exact ⟨by first | rfl | simp, below1 _ _⟩
  case pos =>
  rw [decide_eq_true h3] at hf
  have ht := fun w => within_any t 4 w
  by_cases h4 : 0 ≤ t ∧ t ≤ 4
  case neg =>
    rw [decide_eq_false h4] at ht
    rw [decide_eq_false (show ¬ standP _ e f t o n by unfold standP; omega)]
    go_enter Tryz.func36, Tryz.ntmps36
    go_wp2_with (first | (go_at_call 28; refine (hf _).mono ?_; rintro x w1 ⟨rfl, rfl⟩; clear hf) | (go_at_call 28; refine (ht _).mono ?_; rintro x w1 ⟨rfl, rfl⟩; clear ht))
    go_ret
    exact ⟨by first | rfl | simp, below1 _ _⟩
  case pos =>
  rw [decide_eq_true h4] at ht
  have ho := fun w => within_any o 0 w
  by_cases h5 : 0 ≤ o ∧ o ≤ 0
  case neg =>
    rw [decide_eq_false h5] at ho
    rw [decide_eq_false (show ¬ standP _ e f t o n by unfold standP; omega)]
    go_enter Tryz.func36, Tryz.ntmps36
    go_wp2_with (first | (go_at_call 28; refine (hf _).mono ?_; rintro x w1 ⟨rfl, rfl⟩; clear hf) | (go_at_call 28; refine (ht _).mono ?_; rintro x w1 ⟨rfl, rfl⟩; clear ht) | (go_at_call 28; refine (ho _).mono ?_; rintro x w1 ⟨rfl, rfl⟩; clear ho))
    go_ret
    exact ⟨by first | rfl | simp, below1 _ _⟩
  case pos =>
  rw [decide_eq_true h5] at ho
  rw [decide_eq_true (show standP _ e f t o n by unfold standP; omega)]
  go_enter Tryz.func36, Tryz.ntmps36
  go_wp2_with (first | (go_at_call 28; refine (hf _).mono ?_; rintro x w1 ⟨rfl, rfl⟩; clear hf) | (go_at_call 28; refine (ht _).mono ?_; rintro x w1 ⟨rfl, rfl⟩; clear ht) | (go_at_call 28; refine (ho _).mono ?_; rintro x w1 ⟨rfl, rfl⟩; clear ho))
  go_ret
  exact ⟨by first | rfl | simp, below1 _ _⟩
set_option maxHeartbeats 1000000 in
theorem mayStand_4 (e f t o : Int) (a : Option Addr) (n c : Nat) (w : World) : Calls Tryz.prog 36 #[bVal 4 e f t o a n c] w fun x w' => x = .returned (.bool (decide (standP 4 e f t o n))) ∧ Below w.heap.size w w' := by
  by_cases h1 : 1 ≤ e
  case neg =>
    rw [decide_eq_false (show ¬ standP _ e f t o n by unfold standP; omega)]
    go_enter Tryz.func36, Tryz.ntmps36
    go_wp2
    go_ret
    exact ⟨by first | rfl | simp, below1 _ _⟩
  case pos =>
  by_cases h2 : e ≤ 1048576
  case neg =>
    rw [decide_eq_false (show ¬ standP _ e f t o n by unfold standP; omega)]
    go_enter Tryz.func36, Tryz.ntmps36
    go_wp2
    go_ret
    exact ⟨by first | rfl | simp, below1 _ _⟩
  case pos =>
  have hf := fun w => within_any f 4 w
  by_cases h3 : 0 ≤ f ∧ f ≤ 4
  case neg =>
    rw [decide_eq_false h3] at hf
    rw [decide_eq_false (show ¬ standP _ e f t o n by unfold standP; omega)]
    go_enter Tryz.func36, Tryz.ntmps36
    go_wp2_with (first | (go_at_call 28; refine (hf _).mono ?_; rintro x w1 ⟨rfl, rfl⟩; clear hf))
    go_ret
    exact ⟨by first | rfl | simp, below1 _ _⟩
  case pos =>
  rw [decide_eq_true h3] at hf
  have ht := fun w => within_any t 0 w
  by_cases h4 : 0 ≤ t ∧ t ≤ 0
  case neg =>
    rw [decide_eq_false h4] at ht
    rw [decide_eq_false (show ¬ standP _ e f t o n by unfold standP; omega)]
    go_enter Tryz.func36, Tryz.ntmps36
    go_wp2_with (first | (go_at_call 28; refine (hf _).mono ?_; rintro x w1 ⟨rfl, rfl⟩; clear hf) | (go_at_call 28; refine (ht _).mono ?_; rintro x w1 ⟨rfl, rfl⟩; clear ht))
    go_ret
    exact ⟨by first | rfl | simp, below1 _ _⟩
  case pos =>
  rw [decide_eq_true h4] at ht
  have ho := fun w => within_any o 0 w
  by_cases h5 : 0 ≤ o ∧ o ≤ 0
  case neg =>
    rw [decide_eq_false h5] at ho
    rw [decide_eq_false (show ¬ standP _ e f t o n by unfold standP; omega)]
    go_enter Tryz.func36, Tryz.ntmps36
    go_wp2_with (first | (go_at_call 28; refine (hf _).mono ?_; rintro x w1 ⟨rfl, rfl⟩; clear hf) | (go_at_call 28; refine (ht _).mono ?_; rintro x w1 ⟨rfl, rfl⟩; clear ht) | (go_at_call 28; refine (ho _).mono ?_; rintro x w1 ⟨rfl, rfl⟩; clear ho))
    go_ret
    exact ⟨by first | rfl | simp, below1 _ _⟩
  case pos =>
  rw [decide_eq_true h5] at ho
  rw [decide_eq_true (show standP _ e f t o n by unfold standP; omega)]
  go_enter Tryz.func36, Tryz.ntmps36
  go_wp2_with (first | (go_at_call 28; refine (hf _).mono ?_; rintro x w1 ⟨rfl, rfl⟩; clear hf) | (go_at_call 28; refine (ht _).mono ?_; rintro x w1 ⟨rfl, rfl⟩; clear ht) | (go_at_call 28; refine (ho _).mono ?_; rintro x w1 ⟨rfl, rfl⟩; clear ho))
  go_ret
  exact ⟨by first | rfl | simp, below1 _ _⟩
theorem mayStand_any (r e f t o : Int) (a : Option Addr) (n c : Nat) (w : World) : Calls Tryz.prog 36 #[bVal r e f t o a n c] w fun x w' => x = .returned (.bool (decide (standP r e f t o n))) ∧ Below w.heap.size w w' := by
  by_cases h0 : r = 0
  · subst h0; exact mayStand_0 e f t o a n c w
  by_cases h1 : r = 1
  · subst h1; exact mayStand_1 e f t o a n c w
  by_cases h2 : r = 2
  · subst h2; exact mayStand_2 e f t o a n c w
  by_cases h3 : r = 3
  · subst h3; exact mayStand_3 e f t o a n c w
  by_cases h4 : r = 4
  · subst h4; exact mayStand_4 e f t o a n c w
  rw [decide_eq_false (show ¬ standP r e f t o n by unfold standP; omega)]
  go_enter Tryz.func36, Tryz.ntmps36
  go_wp2
  go_ret
  exact ⟨rfl, below1 _ _⟩
end Go.Proofs.YtbhlpiomoookcaaGreat

namespace Go.Proofs.YtbhlpiomoookcaaGreat
open Go.RowKit

theorem ret_replayed {W : World} {Z : Nat} {ep nx gv : Int} {r l : Value} {ws : Nat → Value} {er : Int} {tmps : Array Value} (q : qBlock W Z ep nx gv r l ws) (t2 : tmps[2]? = some (.pointer (some ⟨Z, 0, none⟩))) (t3 : tmps[3]? = some (.int .i64 er)) :
    (results Tryz.f33 tmps).run Tryz.prog W = .ok (.tuple #[qVal ep nx gv r l ws, .int .i64 er]) W := by
  have h1 := run_loadVar_row (P := Tryz.prog) W Z 59 59 _ (0, 0) _ q Tryz.underlying59 rfl (by rw [qCells_size]; exact Tryz.infoQ)
  simp [results, Tryz.results33, t2, t3, asAddr, h1]
theorem rd_made {w W1 : World} {r e f t o : Int} {a : Option Addr} {n c : Nat} (z1 : qBlock W1 (w.alloc (.cells (bCells r e f t o a n c) 24)).heap.size 0 0 0 (.slice none 0 0) (.slice none 0 0) zeroW)
    (b1 : Below (w.alloc (.cells (bCells r e f t o a n c) 24)).heap.size (w.alloc (.cells (bCells r e f t o a n c) 24)) W1) :
    bBlock W1 w.heap.size r e f t o a n c ∧ qBlock W1 (w.heap.size + 1) 0 0 0 (.slice none 0 0) (.slice none 0 0) zeroW ∧ Below w.heap.size w W1 := by
  rw [show (w.alloc (.cells (bCells r e f t o a n c) 24)).heap.size = w.heap.size + 1 by simp] at z1
  exact ⟨(bBlock.new w r e f t o a n c).next b1, z1, Below.next (below1 _ _) b1⟩
theorem QOut.zero (w w' : World) : QOut w w' St.zero (qVal 0 0 0 (.slice none 0 0) (.slice none 0 0) zeroW) := ⟨none, 0, none, 0, zeroW, rfl, RowK.nil _ _ _, RowK.nil _ _ _, Nat.le_refl _, Nat.le_refl _, fun _ => rfl, fun _ => rfl, zeroWins, fun x hx => (by cases hx), fun x hx => (by cases hx)⟩
/-- what replayed answers. -/
inductive Rb (B : Bt) : St → Int → Prop
  | yes {s : St} (ok : B.Ok) (ans : List An) (ht : Tells B.es s ans) : Rb B s 0
  | no (h : ¬ B.Ok) : Rb B St.zero 6
set_option maxRecDepth 20000 in
set_option maxHeartbeats 4000000 in
theorem replayed_any (B : Bt) (a : Option Addr) (c : Nat) (w : World) (hb : BIn w B a c) :
    Calls Tryz.prog 33 #[bVal B.r B.e B.f B.t B.o a B.es.length c] w fun x w' => ∃ y er s, x = .returned (.tuple #[y, .int .i64 er]) ∧ Rb B s er ∧ QOut w w' s y ∧ Below w.heap.size w w' := by
  have HM := fun w => mayStand_any B.r B.e B.f B.t B.o a B.es.length c w
  have HR : Hid (∀ W, Below w.heap.size w W → Calls Tryz.prog 37 #[.slice a B.es.length c] W fun e w' => ∃ x er s, e = .returned (.tuple #[x, .int .i64 er]) ∧ Rv B.es s er ∧ QOut W w' s x ∧ Below W.heap.size W w') := veil fun W b => replay_all B.es a c W (hb.row.below b)
  clear hb
  by_cases hs : standP B.r B.e B.f B.t B.o B.es.length
  case neg =>
    rw [decide_eq_false hs] at HM
    go_enter Tryz.func33, Tryz.ntmps33
    go_wp2_with (first
      | (refine q_alloc 2 rfl rfl rfl ?_; intro W1 z1 b1; obtain ⟨k1, y1, B1⟩ := rd_made z1 b1; obtain ⟨x0, x1, x2, x3, x4, x5⟩ := k1.cells; have HY := veil y1; have HB := veil B1; clear z1 b1 k1 y1 B1)
      | (go_at_call 36; refine (HM _).mono ?_; rintro x W2 ⟨rfl, b2⟩; clear HM x0 x1 x2 x3 x4 x5; have z2 := (unveil HY).next b2; have HB2 := veil (Below.next (unveil HB) b2); clear HY HB b2)
      | (refine q_build0 rfl rfl ?_)
      | (refine q_store (ra := none) (la := none) (rn := 0) (rc := 0) (ln := 0) (lc := 0) (ws' := zeroW) _ _ rfl rfl rfl rfl z2 zeroWins ?_; intro W4 q4 t4; have HQ4 := veil q4; have HT4 := veil t4; clear q4 t4))
    exact bodyPost_ret (ret_replayed (unveil HQ4) rfl rfl) rfl ⟨_, 6, St.zero, rfl, .no (fun ok => hs ok.stand), QOut.zero _ _, (unveil HT4).under (unveil HB2) (by omega)⟩
  case pos =>
  rw [decide_eq_true hs] at HM
  go_enter Tryz.func33, Tryz.ntmps33
  go_upto_region 4 with (first
    | (refine q_alloc 2 rfl rfl rfl ?_; intro W1 z1 b1; obtain ⟨k1, y1, B1⟩ := rd_made z1 b1; obtain ⟨x0, x1, x2, x3, x4, x5⟩ := k1.cells; have HK := veil k1; have HY := veil y1; have HB := veil B1; clear z1 b1 k1 y1 B1)
    | (go_at_call 36; refine (HM _).mono ?_; rintro x W2 ⟨rfl, b2⟩; clear HM x0 x1 x2 x3 x4 x5; obtain ⟨x0, x1, x2, x3, x4, x5⟩ := ((unveil HK).next b2).cells; have HY2 := veil ((unveil HY).next b2); have B2 := Below.next (unveil HB) b2; have hR := unveil HR W2 B2; have HB2 := veil B2; clear HY HB HR HK b2 B2)
    | (go_at_call 37; refine hR.mono ?_; rintro x W3 ⟨y, er, s, rfl, rv, ⟨⟨a1', c1', a2', c2', ws', rfl, r1, r2, l1', l2', n1, n2, hW', f1, f2⟩⟩, b3⟩; have HV := veil rv; have HY3 := veil ((unveil HY2).next b3); have HB3 := veil (Below.next (unveil HB2) b3); have hw2 := (unveil HB2).size; have hz2 : w.heap.size + 1 < W2.heap.size := (unveil HY2).lt; clear hR rv HY2 x0 x1 x2 x3 x4 x5)
    | (refine q_alloc 4 rfl rfl rfl ?_; intro W4 z4 b4)
    | (refine q_store (ra := a1') (la := a2') (ws' := ws') _ _ rfl rfl rfl rfl z4 hW' ?_; intro W5 q5 t5; have b5 := t5.under b4 (Nat.le_refl _); have HR1 := veil (r1.below b5); have HR2 := veil (r2.below b5); have y5 := (unveil HY3).next b5; have hlt := (unveil HY3).lt; have HB5 := veil (Below.next (unveil HB3) b5); clear z4 b4 t5 b5 HY3 HB3 r1 r2))
  have hne : w.heap.size + 1 ≠ W3.heap.size := by omega
  by_cases h0 : er = 0
  · subst h0
    go_wp2_with (first
      | (refine q_loads _ rfl rfl rfl q5 ?_)
      | (refine q_store (ra := a1') (la := a2') (ws' := ws') _ _ rfl rfl rfl rfl y5 hW' ?_; intro W6 q6 t6; have HQ6 := veil q6; have HT6 := veil t6; clear q6 t6))
    have t6 := unveil HT6
    have ok := ((unveil HV).ok hs).1 rfl
    obtain ⟨s', ans, ht⟩ := ok.told
    obtain ⟨rfl, _⟩ := (unveil HV).one (.told ans ok.len ht)
    have hl3 := (unveil HB2).size
    have hw1 : w.heap.size ≤ W2.heap.size := hl3
    exact bodyPost_ret (ret_replayed (unveil HQ6) rfl rfl) rfl ⟨_, 0, s, rfl, .yes ok ans ht, ⟨a1', c1', a2', c2', ws', rfl, t6.row (unveil HR1) (fun x hx _ => by have := f1 x hx; omega), t6.row (unveil HR2) (fun x hx _ => by have := f2 x hx; omega), l1', l2', n1, n2, hW', fun x hx => Nat.le_trans hw1 (f1 x hx), fun x hx => Nat.le_trans hw1 (f2 x hx)⟩, t6.under (unveil HB5) (by omega)⟩
  · clear q5
    go_wp2_with (first
      | (refine q_build0 rfl rfl ?_)
      | (refine q_store (ra := none) (la := none) (rn := 0) (rc := 0) (ln := 0) (lc := 0) (ws' := zeroW) _ _ rfl rfl rfl rfl y5 zeroWins ?_; intro W6 q6 t6; have HQ6 := veil q6; have HT6 := veil t6; clear q6 t6))
    exact bodyPost_ret (ret_replayed (unveil HQ6) rfl rfl) rfl ⟨_, 6, St.zero, rfl, .no (fun ok => h0 (((unveil HV).ok hs).2 ok)), QOut.zero _ _, (unveil HT6).under (unveil HB5) (by omega)⟩
set_option maxRecDepth 20000 in
set_option maxHeartbeats 4000000 in
theorem bcheck_any (B : Bt) (a : Option Addr) (c : Nat) (w : World) (hb : BIn w B a c) :
    Calls Tryz.prog 21 #[bVal B.r B.e B.f B.t B.o a B.es.length c] w fun x w' => ∃ er, x = .returned (.int .i64 er) ∧ ((er = 0 ∧ B.Ok) ∨ (er = 6 ∧ ¬ B.Ok)) ∧ Below w.heap.size w w' := by
  have HR : Hid (∀ W, Below w.heap.size w W → Calls Tryz.prog 33 #[bVal B.r B.e B.f B.t B.o a B.es.length c] W fun x w' => ∃ y er s, x = .returned (.tuple #[y, .int .i64 er]) ∧ Rb B s er ∧ QOut W w' s y ∧ Below W.heap.size W w') := veil fun W b => replayed_any B a c W (hb.next b)
  clear hb
  go_enter Tryz.func21, Tryz.ntmps21
  go_wp2_with (first
    | (go_at_call 33; refine (unveil HR _ (below1 _ _)).mono ?_; rintro x W3 ⟨y, er, s, rfl, rv, ⟨⟨a1', c1', a2', c2', ws', rfl, r1, r2, l1', l2', n1, n2, hW', f1, f2⟩⟩, b3⟩; have HV := veil rv; have HB3 := veil (Below.next (below1 _ _) b3); clear rv b3)
    | (refine q_alloc 3 rfl rfl rfl ?_; intro W4 z4 b4)
    | (refine q_store (ra := a1') (la := a2') (ws' := ws') _ _ rfl rfl rfl rfl z4 hW' ?_; intro W5 q5 t5; have HB5 := veil (Below.next (unveil HB3) (t5.under b4 (Nat.le_refl _))); clear q5 t5 z4 b4))
  go_ret
  refine ⟨er, rfl, ?_, unveil HB5⟩
  cases unveil HV with
  | yes ok => exact .inl ⟨rfl, ok⟩
  | no h => exact .inr ⟨rfl, h⟩
theorem bcheck_yes (B : Bt) (a : Option Addr) (c : Nat) (w : World) (hb : BIn w B a c) (ok : B.Ok) :
    Calls Tryz.prog 21 #[bVal B.r B.e B.f B.t B.o a B.es.length c] w fun x w' => x = .returned (.int .i64 0) ∧ Below w.heap.size w w' := by
  refine (bcheck_any B a c w hb).mono ?_
  rintro x w' ⟨er, rfl, ⟨rfl, _⟩ | ⟨_, h⟩, b⟩
  · exact ⟨rfl, b⟩
  · exact absurd ok h
theorem bcheck_no (B : Bt) (a : Option Addr) (c : Nat) (w : World) (hb : BIn w B a c) (ok : ¬ B.Ok) :
    Calls Tryz.prog 21 #[bVal B.r B.e B.f B.t B.o a B.es.length c] w fun x w' => x = .returned (.int .i64 6) ∧ Below w.heap.size w w' := by
  refine (bcheck_any B a c w hb).mono ?_
  rintro x w' ⟨er, rfl, ⟨_, h⟩ | ⟨rfl, _⟩, b⟩
  · exact absurd h ok
  · exact ⟨rfl, b⟩
/-- the box of an argument and the zero box of the answer. -/
structure Mb (w wx : World) (B : Bt) (a : Option Addr) (c : Nat) : Prop where
  b : bBlock wx w.heap.size B.r B.e B.f B.t B.o a B.es.length c
  z : bBlock wx (w.heap.size + 1) 0 0 0 0 0 none 0 0
  bel : Below w.heap.size w wx
theorem Mb.next {w wx wy : World} {B : Bt} {a : Option Addr} {c : Nat} (h : Mb w wx B a c) (b : Below wx.heap.size wx wy) : Mb w wy B a c := ⟨h.b.next b, h.z.next b, Below.next h.bel b⟩
theorem Mb.made (w : World) (B : Bt) (a : Option Addr) (c : Nat) : ∃ W, W = (w.alloc (.cells (bCells B.r B.e B.f B.t B.o a B.es.length c) 24)).alloc (.cells (bCells 0 0 0 0 0 none 0 0) 24) ∧ Mb w W B a c := by
  refine ⟨_, rfl, (bBlock.new w _ _ _ _ _ _ _ _).next (below1 _ _), ?_, below2 _ _ _⟩
  have h0 := bBlock.new (w.alloc (.cells (bCells B.r B.e B.f B.t B.o a B.es.length c) 24)) 0 0 0 0 0 none 0 0
  rw [show (w.alloc (.cells (bCells B.r B.e B.f B.t B.o a B.es.length c) 24)).heap.size = w.heap.size + 1 by simp] at h0
  exact h0
theorem ret_bwith {W : World} {R : Nat} {r e f t o : Int} {a : Option Addr} {n c : Nat} {tmps : Array Value} (d : bBlock W R r e f t o a n c) (t4 : tmps[4]? = some (.pointer (some ⟨R, 0, none⟩))) :
    (results Tryz.f19 tmps).run Tryz.prog W = .ok (bVal r e f t o a n c) W := by
  simp [results, Tryz.results19, t4, asAddr, load_berth d]
theorem evFlat_append (A B : List Ev) : evFlat (A ++ B) = evFlat A ++ evFlat B := by simp [evFlat]
/-- some events more. -/
theorem bwith_any (B : Bt) (a : Option Addr) (c : Nat) (l : List Ev) (b : Option Addr) (lb cb : Nat) (w : World) (hb : BIn w B a c) (hl : l.length = lb) (hr : RowK .i64 w b (6 * lb) (evFlat l)) (nb : b = none → cb = 0) (hs : B.es.length + lb ≤ 1000000) :
    Calls Tryz.prog 19 #[bVal B.r B.e B.f B.t B.o a B.es.length c, .slice b lb cb] w fun x w' => ∃ y, x = .returned y ∧ BOut w w' (B.more l) y ∧ Below w.heap.size w w' := by
  have HC : Hid (∀ W, Below w.heap.size w W → Calls Tryz.prog 32 #[.slice a B.es.length c, .slice b lb cb] W fun e w' => ∃ a' c', e = .returned (.slice a' (B.es.length + lb : Nat) c') ∧ RowK .i64 w' a' (6 * (B.es.length + lb)) (evFlat B.es ++ evFlat l) ∧ B.es.length + lb ≤ c' ∧ (a' = none → c' = 0) ∧ (∀ x, a' = some x → W.heap.size ≤ x.block) ∧ Below W.heap.size W w') := veil fun W bb => behind_any a b B.es.length c lb cb (evFlat B.es) (evFlat l) W (hb.row.below bb) (hr.below bb) hb.nil nb hs
  clear hb hr
  obtain ⟨n, hn⟩ : ∃ n, n = B.es.length + lb := ⟨_, rfl⟩
  rw [← hn] at HC
  have HN := veil hn
  clear hn
  go_enter Tryz.func19, Tryz.ntmps19
  go_upto_region 1 with fail
  obtain ⟨W1, hW1, M1⟩ := Mb.made w B a c
  rw [← hW1]
  clear hW1
  have h0 := M1.b.lt
  have h1 := M1.z.lt
  have hC := unveil HC W1 M1.bel
  obtain ⟨x0, x1, x2, x3, x4, x5⟩ := M1.b.cells
  have HM := veil M1
  clear HC M1
  go_upto_region 2 with (go_at_call 32; refine hC.mono ?_; rintro x W2 ⟨a', c', rfl, r2, hc2, n2, u2, b2⟩; have M2 := (unveil HM).next b2; clear hC x0 x1 x2 x3 x4 x5; obtain ⟨x0, x1, x2, x3, x4, x5⟩ := M2.b.cells; have xf := M2.b.free; have HM2 := veil M2; have HR2 := veil r2; have HU2 := veil u2; have hs2 := b2.size; clear M2 r2 u2 b2 HM)
  have M2 := unveil HM2
  obtain ⟨W3, hW3, k3, t3⟩ : ∃ W3, W3 = W2.setCell ⟨w.heap.size, 5, none⟩ (.slice a' n c') ∧ bBlock W3 w.heap.size B.r B.e B.f B.t B.o a' n c' ∧ Turned w.heap.size W2 W3 := by
    refine ⟨_, rfl, ?_, Turned.set _ _ _ _⟩
    have := M2.b
    unfold bBlock at this ⊢
    rw [heap_setB this]
    simp
  rw [← hW3]
  clear hW3
  have z3 := M2.z.turned t3 (by omega)
  have B3 := t3.under M2.bel (Nat.le_refl _)
  have r3 := t3.row (unveil HR2) (fun x hx _ => by have := unveil HU2 x hx; omega)
  obtain ⟨y0, y1, y2, y3, y4, y5⟩ := k3.cells
  obtain ⟨z0, z1, z2, z33, z4, z5⟩ := z3.cells
  have zf := z3.free
  have HZ3 := veil z3
  have HB3 := veil B3
  have HR3 := veil r3
  clear x0 x1 x2 x3 x4 x5 xf M2 z3 B3 r3 k3 t3
  go_wp2
  obtain ⟨W4, hW4, d4, b4, t4⟩ := b_stored (unveil HZ3) (unveil HB3) (show w.heap.size ≤ w.heap.size + 1 by omega) B.r B.e B.f B.t B.o a' n c'
  rw [← hW4]
  have hne : (B.more l).es.length = n := by rw [unveil HN]; simp [Bt.more, hl]
  refine bodyPost_ret (ret_bwith d4 rfl) rfl ⟨_, rfl, ⟨a', c', ?_, ⟨?_, ?_, n2⟩, fun x hx => ?_⟩, b4⟩
  · rw [hne]; rfl
  · rw [hne]
    show RowK .i64 W4 a' (6 * n) (evFlat (B.es ++ l))
    rw [evFlat_append]
    exact t4.row (unveil HR3) (fun x hx _ => by have := unveil HU2 x hx; omega)
  · rw [hne]; exact hc2
  · have := unveil HU2 x hx; omega
theorem Bt.more_nil (B : Bt) : B.more [] = B := by simp [Bt.more]
theorem bwith_none (B : Bt) (a : Option Addr) (c : Nat) (w : World) (hb : BIn w B a c) (hs : B.es.length ≤ 2000) :
    Calls Tryz.prog 19 #[bVal B.r B.e B.f B.t B.o a B.es.length c, .slice none 0 0] w fun x w' => ∃ y, x = .returned y ∧ BOut w w' B y ∧ Below w.heap.size w w' := by
  have := bwith_any B a c [] none 0 0 w hb rfl (RowK.nil _ _ _) (fun _ => rfl) (by omega)
  rw [Bt.more_nil] at this
  exact this
end Go.Proofs.YtbhlpiomoookcaaGreat

namespace Go.Proofs.YtbhlpiomoookcaaGreat
open Go.RowKit

end Go.Proofs.YtbhlpiomoookcaaGreat

namespace Go.Proofs.YtbhlpiomoookcaaGreat
open Go.RowKit

theorem row_ev (W : World) (k p i b he hn : Int) (hw : ∀ u ∈ [k, p, i, b, he, hn], (Lit.int .i64 u).wf = true) : RowK .i64 (W.alloc (.cells #[.int .i64 k, .int .i64 p, .int .i64 i, .int .i64 b, .int .i64 he, .int .i64 hn] 50)) (some ⟨W.heap.size, 0, none⟩) 6 [k, p, i, b, he, hn] := by
  have h := heap_alloc_new W (.cells #[.int .i64 k, .int .i64 p, .int .i64 i, .int .i64 b, .int .i64 he, .int .i64 hn] 50)
  generalize W.alloc (.cells #[.int .i64 k, .int .i64 p, .int .i64 i, .int .i64 b, .int .i64 he, .int .i64 hn] 50) = W' at h ⊢
  refine ⟨rfl, hw, fun j hj => ⟨W.heap.size, 0, rfl, block_lt h, ?_⟩⟩
  have hj' : j = 0 ∨ j = 1 ∨ j = 2 ∨ j = 3 ∨ j = 4 ∨ j = 5 := by omega
  rcases hj' with rfl | rfl | rfl | rfl | rfl | rfl <;> simp [World.cell?, h]
theorem row_brk (W : World) : RowK .i64 (W.alloc (.cells #[.int .i64 4, .int .i64 0, .int .i64 0, .int .i64 0, .int .i64 0, .int .i64 0] 50)) (some ⟨W.heap.size, 0, none⟩) 6 [4, 0, 0, 0, 0, 0] := row_ev W 4 0 0 0 0 0 (by decide)
theorem ret_broken {W : World} {R : Nat} {r e f t o : Int} {a : Option Addr} {n c : Nat} {tmps : Array Value} (d : bBlock W R r e f t o a n c) (t2 : tmps[2]? = some (.pointer (some ⟨R, 0, none⟩))) :
    (results Tryz.f30 tmps).run Tryz.prog W = .ok (bVal r e f t o a n c) W := by
  simp [results, Tryz.results30, t2, asAddr, load_berth d]
set_option maxRecDepth 20000 in
set_option maxHeartbeats 4000000 in
theorem broken_any (B : Bt) (a : Option Addr) (c : Nat) (w : World) (hb : BIn w B a c) (hs : B.es.length ≤ 900000) :
    Calls Tryz.prog 30 #[bVal B.r B.e B.f B.t B.o a B.es.length c] w fun x w' => ∃ y, x = .returned y ∧ BOut w w' B.broken y ∧ Below w.heap.size w w' := by
  have HC : Hid (∀ W g, Below w.heap.size w W → RowK .i64 W (some ⟨g, 0, none⟩) 6 [4, 0, 0, 0, 0, 0] → Calls Tryz.prog 32 #[.slice a B.es.length c, .slice (some ⟨g, 0, none⟩) 1 1] W fun e w' => ∃ a' c', e = .returned (.slice a' (B.es.length + 1 : Nat) c') ∧ RowK .i64 w' a' (6 * (B.es.length + 1)) (evFlat B.es ++ [4, 0, 0, 0, 0, 0]) ∧ B.es.length + 1 ≤ c' ∧ (a' = none → c' = 0) ∧ (∀ x, a' = some x → W.heap.size ≤ x.block) ∧ Below W.heap.size W w') := veil fun W g bb hr => behind_any a (some ⟨g, 0, none⟩) B.es.length c 1 1 (evFlat B.es) [4, 0, 0, 0, 0, 0] W (hb.row.below bb) hr hb.nil (fun h => by cases h) (by omega)
  clear hb
  obtain ⟨n, hn⟩ : ∃ n, n = B.es.length + 1 := ⟨_, rfl⟩
  rw [← hn] at HC
  have HN := veil hn
  clear hn
  go_enter Tryz.func30, Tryz.ntmps30
  go_upto_region 1 with fail
  obtain ⟨W1, hW1, M1⟩ := Mb.made w B a c
  rw [← hW1]
  clear hW1
  have h0 := M1.b.lt
  have h1 := M1.z.lt
  have hne : w.heap.size ≠ W1.heap.size := by omega
  obtain ⟨x0, x1, x2, x3, x4, x5⟩ := M1.b.cells
  have HM := veil M1
  clear M1
  refine wp_region_held_drew (S := fun v => bBlock v w.heap.size B.r B.e B.f B.t B.o a B.es.length c) (by kernel_rfl) ((unveil HM).b.next (below_drew W1)) (fun hHeld => ?_)
  refine wpAnyH_take (i := 0) (v := .pointer (some ⟨w.heap.size, 1, none⟩)) rfl (by kernel_rfl) (by kernel_rfl) (by kernel_rfl) (fun _ _ _ h => h) (Or.inl ⟨by rfl, fun _ _ => by go_simp⟩) hHeld ?_
  simp only [List.getElem_toArray, List.getElem_cons_zero, Act.put, List.setIfInBounds_toArray, List.set_cons_zero, List.set_cons_succ]
  refine wpAnyH_take (i := 1) (v := .int .i64 B.e) rfl (by kernel_rfl) (by kernel_rfl) (by kernel_rfl) (fun _ _ _ h => h) (Or.inl ⟨by rfl, fun v b => by obtain ⟨y0, y1, y2, y3, y4, y5⟩ := bBlock.cells b; go_simp⟩) hHeld ?_
  simp only [List.getElem_toArray, List.getElem_cons_zero, List.getElem_cons_succ, Act.put, List.setIfInBounds_toArray, List.set_cons_zero, List.set_cons_succ]
  refine wpAnyH_take (i := 2) (v := .pointer (some ⟨w.heap.size, 5, none⟩)) rfl (by kernel_rfl) (by kernel_rfl) (by kernel_rfl) (fun _ _ _ h => h) (Or.inl ⟨by rfl, fun _ _ => by go_simp⟩) hHeld ?_
  simp only [List.getElem_toArray, List.getElem_cons_zero, List.getElem_cons_succ, Act.put, List.setIfInBounds_toArray, List.set_cons_zero, List.set_cons_succ]
  refine wpAnyH_take (i := 3) (v := .slice a B.es.length c) rfl (by kernel_rfl) (by kernel_rfl) (by kernel_rfl) (fun _ _ _ h => h) (Or.inl ⟨by rfl, fun v b => by obtain ⟨y0, y1, y2, y3, y4, y5⟩ := bBlock.cells b; go_simp⟩) hHeld ?_
  simp only [List.getElem_toArray, List.getElem_cons_zero, List.getElem_cons_succ, Act.put, List.setIfInBounds_toArray, List.set_cons_zero, List.set_cons_succ]
  refine wpAnyH_take (i := 4) (v := .agg #[.int .i64 4, .int .i64 0, .int .i64 0, .int .i64 0, .int .i64 0, .int .i64 0]) rfl (by kernel_rfl) (by kernel_rfl) (by kernel_rfl) (fun _ _ _ h => h) (Or.inl ⟨by rfl, fun _ _ => by go_simp⟩) hHeld ?_
  simp only [List.getElem_toArray, List.getElem_cons_zero, List.getElem_cons_succ, Act.put, List.setIfInBounds_toArray, List.set_cons_zero, List.set_cons_succ]
  have M0 : Mb w W1.drew B a c := (unveil HM).next (below_drew W1)
  have hs0 : W1.heap.size = W1.drew.heap.size := rfl
  obtain ⟨W0, hW0⟩ : ∃ W0, W0 = W1.drew := ⟨_, rfl⟩
  have bW0 := below_drew W1
  rw [← hW0] at M0 hs0 bW0 hHeld ⊢
  clear hW0
  refine wpAnyH_ready (rs := [5]) (by kernel_rfl) (by simp) ?_
  refine AllReadyH.cons rfl (fun K hK => ?_) AllReadyH.nil
  simp only [List.getElem_toArray, List.getElem_cons_zero, List.getElem_cons_succ]
  go_simp
  have r5 := row_brk W0
  have b5 := below1 W0 (.cells #[.int .i64 4, .int .i64 0, .int .i64 0, .int .i64 0, .int .i64 0, .int .i64 0] 50)
  have M5 := M0.next b5
  have bW5 := Below.next bW0 b5
  generalize W0.alloc (.cells #[.int .i64 4, .int .i64 0, .int .i64 0, .int .i64 0, .int .i64 0, .int .i64 0] 50) = W5 at r5 b5 M5 bW5 ⊢
  refine hK.out _ _ M5.b (fun hHeld => ?_)
  clear hK K M0
  refine wpAnyH_ready (rs := [6]) (by kernel_rfl) (by simp) ?_
  refine AllReadyH.cons rfl (fun K hK => ?_) AllReadyH.nil
  simp only [List.getElem_toArray, List.getElem_cons_zero, List.getElem_cons_succ]
  go_simp
  refine (unveil HC W5 W0.heap.size M5.bel r5).mono ?_
  rintro x W6 ⟨a', c', rfl, r6, hc6, n6, u6, b6⟩
  have M6 := M5.next b6
  have bW6 := Below.next bW5 b6
  refine hK.out _ _ M6.b (fun hHeld => ?_)
  clear hK K
  refine wpAnyH_take (i := 7) (v := bVal 1 B.e 0 0 0 a' n c') rfl (by kernel_rfl) (by kernel_rfl) (by kernel_rfl) (fun _ _ _ h => h) (Or.inl ⟨by rfl, fun _ _ => by go_simp⟩) hHeld ?_
  simp only [List.getElem_toArray, List.getElem_cons_zero, List.getElem_cons_succ, Act.put, List.setIfInBounds_toArray, List.set_cons_zero, List.set_cons_succ]
  refine wpAnyH_ready (rs := [8]) (by kernel_rfl) (by simp) ?_
  refine AllReadyH.cons rfl (fun K hK => ?_) AllReadyH.nil
  simp only [List.getElem_toArray, List.getElem_cons_zero, List.getElem_cons_succ]
  obtain ⟨z0, z1, z2, z3, z4, z5⟩ := M6.z.cells
  have zf := M6.z.free
  go_simp
  obtain ⟨W7, hW7, d7, b7, t7⟩ := b_stored M6.z M6.bel (show w.heap.size ≤ w.heap.size + 1 by omega) 1 B.e 0 0 0 a' n c'
  rw [← hW7]
  clear hW7
  have hu6 : ∀ x, a' = some x → W1.heap.size ≤ x.block := fun x hx => by have := u6 x hx; have := b5.size; omega
  have r7 := t7.row r6 (fun x hx _ => by have := hu6 x hx; omega)
  have k7 := M6.b.turned t7 (by omega)
  have HD7 := veil d7
  have HR7 := veil r7
  have HB7 := veil b7
  have HU6 := veil hu6
  refine hK.out _ _ k7 (fun hHeld => ?_)
  clear hK K
  refine wpAnyH_done (by kernel_rfl) ?_ _
  clear z0 z1 z2 z3 z4 z5 zf M6 M5 d7 r7 b7 t7 k7 hHeld x0 x1 x2 x3 x4 x5
  go_wp2
  have hne : B.broken.es.length = n := by rw [unveil HN]; simp [Bt.broken]
  refine bodyPost_ret (ret_broken (unveil HD7) rfl) rfl ⟨_, rfl, ⟨a', c', ?_, ⟨?_, ?_, n6⟩, fun x hx => ?_⟩, unveil HB7⟩
  · rw [hne]; rfl
  · rw [hne]
    show RowK .i64 W7 a' (6 * n) (evFlat (B.es ++ [Ev.brk]))
    rw [evFlat_append]
    exact unveil HR7
  · rw [hne]; exact hc6
  · have := unveil HU6 x hx; omega
theorem one_b (w : World) (B : Bt) (a : Option Addr) (c : Nat) : ∃ W, W = w.alloc (.cells (bCells B.r B.e B.f B.t B.o a B.es.length c) 24) ∧ bBlock W w.heap.size B.r B.e B.f B.t B.o a B.es.length c ∧ Below w.heap.size w W := ⟨_, rfl, bBlock.new _ _ _ _ _ _ _ _ _, below1 _ _⟩

set_option maxRecDepth 20000 in
set_option maxHeartbeats 4000000 in
theorem mayTell_any (B : Bt) (a : Option Addr) (c : Nat) (hv : Int) (w : World) (hb : BIn w B a c) : Calls Tryz.prog 17 #[bVal B.r B.e B.f B.t B.o a B.es.length c, .int .i64 hv] w fun x w' => x = .returned (.int .i64 (tellOf B hv)) ∧ Below w.heap.size w w' := by
  have HS := fun w => isSource_any B.r B.e B.f B.t B.o a B.es.length c w
  have HW := fun w => within_any hv B.es.length w
  by_cases ok : B.Ok
  case neg =>
    rw [show tellOf B hv = 6 by simp [tellOf, ok]]
    go_enter Tryz.func17, Tryz.ntmps17
    go_upto_region 1 with fail
    obtain ⟨W1, hW1, k1, b1⟩ := one_b w B a c
    rw [← hW1]
    clear hW1
    have HC := bcheck_no B a c W1 (hb.next b1) ok
    obtain ⟨x0, x1, x2, x3, x4, x5⟩ := k1.cells
    have HK := veil k1
    clear k1
    go_wp2_with (first | (go_at_call 21; refine HC.mono ?_; rintro x W2 ⟨rfl, b2⟩; clear HC x0 x1 x2 x3 x4 x5; have k2 := (unveil HK).next b2; obtain ⟨x0, x1, x2, x3, x4, x5⟩ := k2.cells; have HK2 := veil k2; clear k2))
    go_ret
    exact ⟨rfl, Below.next b1 b2⟩
  case pos =>
  by_cases h1 : B.r = 2 ∨ B.r = 3
  case neg =>
    rw [show tellOf B hv = 7 by unfold tellOf; rw [if_neg (fun h => h ok), if_pos h1]]
    rw [decide_eq_false h1] at HS
    clear h1
    go_enter Tryz.func17, Tryz.ntmps17
    go_upto_region 1 with fail
    obtain ⟨W1, hW1, k1, b1⟩ := one_b w B a c
    rw [← hW1]
    clear hW1
    have HC := bcheck_yes B a c W1 (hb.next b1) ok
    obtain ⟨x0, x1, x2, x3, x4, x5⟩ := k1.cells
    have HK := veil k1
    clear k1
    go_wp2_with (first | (go_at_call 21; refine HC.mono ?_; rintro x W2 ⟨rfl, b2⟩; clear HC x0 x1 x2 x3 x4 x5; have k2 := (unveil HK).next b2; obtain ⟨x0, x1, x2, x3, x4, x5⟩ := k2.cells; have HK2 := veil k2; clear k2) | (go_at_call 31; refine (HS _).mono ?_; rintro x W3 ⟨rfl, b3⟩; clear x0 x1 x2 x3 x4 x5; have k3 := (unveil HK2).next b3; obtain ⟨x0, x1, x2, x3, x4, x5⟩ := k3.cells; clear k3 HS))
    go_ret
    exact ⟨rfl, Below.next (Below.next b1 b2) b3⟩
  case pos =>
  by_cases h2 : 0 ≤ hv ∧ hv ≤ B.es.length
  case neg =>
    rw [show tellOf B hv = 2 by unfold tellOf; rw [if_neg (fun h => h ok), if_neg (fun h => h h1), if_pos h2]]
    rw [decide_eq_true h1] at HS
    rw [decide_eq_false h2] at HW
    clear h1 h2
    go_enter Tryz.func17, Tryz.ntmps17
    go_upto_region 1 with fail
    obtain ⟨W1, hW1, k1, b1⟩ := one_b w B a c
    rw [← hW1]
    clear hW1
    have HC := bcheck_yes B a c W1 (hb.next b1) ok
    obtain ⟨x0, x1, x2, x3, x4, x5⟩ := k1.cells
    have HK := veil k1
    clear k1
    go_wp2_with (first | (go_at_call 21; refine HC.mono ?_; rintro x W2 ⟨rfl, b2⟩; clear HC x0 x1 x2 x3 x4 x5; have k2 := (unveil HK).next b2; obtain ⟨x0, x1, x2, x3, x4, x5⟩ := k2.cells; have HK2 := veil k2; clear k2) | (go_at_call 31; refine (HS _).mono ?_; rintro x W3 ⟨rfl, b3⟩; clear x0 x1 x2 x3 x4 x5; have k3 := (unveil HK2).next b3; obtain ⟨x0, x1, x2, x3, x4, x5⟩ := k3.cells; clear k3 HS) | (go_at_call 28; refine (HW _).mono ?_; rintro x w4 ⟨rfl, hw4⟩; subst w4))
    go_ret
    exact ⟨rfl, Below.next (Below.next b1 b2) b3⟩
  case pos =>
  rw [show tellOf B hv = 0 by unfold tellOf; rw [if_neg (fun h => h ok), if_neg (fun h => h h1), if_neg (fun h => h h2)]]
  rw [decide_eq_true h1] at HS
  rw [decide_eq_true h2] at HW
  clear h1 h2
  go_enter Tryz.func17, Tryz.ntmps17
  go_upto_region 1 with fail
  obtain ⟨W1, hW1, k1, b1⟩ := one_b w B a c
  rw [← hW1]
  clear hW1
  have HC := bcheck_yes B a c W1 (hb.next b1) ok
  obtain ⟨x0, x1, x2, x3, x4, x5⟩ := k1.cells
  have HK := veil k1
  clear k1
  go_wp2_with (first | (go_at_call 21; refine HC.mono ?_; rintro x W2 ⟨rfl, b2⟩; clear HC x0 x1 x2 x3 x4 x5; have k2 := (unveil HK).next b2; obtain ⟨x0, x1, x2, x3, x4, x5⟩ := k2.cells; have HK2 := veil k2; clear k2) | (go_at_call 31; refine (HS _).mono ?_; rintro x W3 ⟨rfl, b3⟩; clear x0 x1 x2 x3 x4 x5; have k3 := (unveil HK2).next b3; obtain ⟨x0, x1, x2, x3, x4, x5⟩ := k3.cells; clear k3 HS) | (go_at_call 28; refine (HW _).mono ?_; rintro x w4 ⟨rfl, hw4⟩; subst w4))
  go_ret
  exact ⟨rfl, Below.next (Below.next b1 b2) b3⟩
theorem tell_zero {B : Bt} {hv : Int} (h : tellOf B hv = 0) : B.Ok ∧ (B.r = 2 ∨ B.r = 3) ∧ 0 ≤ hv ∧ hv ≤ B.es.length := by
  unfold tellOf at h
  by_cases ok : B.Ok
  · rw [if_neg (fun h => h ok)] at h
    by_cases h1 : B.r = 2 ∨ B.r = 3
    · rw [if_neg (fun h => h h1)] at h
      by_cases h2 : 0 ≤ hv ∧ hv ≤ B.es.length
      · exact ⟨ok, h1, h2⟩
      · rw [if_pos h2] at h; omega
    · rw [if_pos h1] at h; omega
  · rw [if_pos ok] at h; omega
theorem ret_bCaught {W : World} {R : Nat} {r e f t o : Int} {a : Option Addr} {n c : Nat} {er : Int} {tmps : Array Value} (d : bBlock W R r e f t o a n c) (t1 : tmps[4]? = some (.pointer (some ⟨R, 0, none⟩))) (t2 : tmps[5]? = some (.int .i64 er)) :
    (results Tryz.f7 tmps).run Tryz.prog W = .ok (.tuple #[bVal r e f t o a n c, .int .i64 er]) W := by
  simp [results, Tryz.results7, t1, t2, asAddr, load_berth d]
set_option maxRecDepth 20000 in
set_option maxHeartbeats 4000000 in
theorem bcaught_any (B : Bt) (a : Option Addr) (c : Nat) (hv : Int) (w : World) (hb : BIn w B a c) : Calls Tryz.prog 7 #[bVal B.r B.e B.f B.t B.o a B.es.length c, .int .i64 hv] w fun x w' => ∃ y B' er, x = .returned (.tuple #[y, .int .i64 er]) ∧ caughtOf B hv = (B', er) ∧ BOut w w' B' y ∧ Below w.heap.size w w' := by
  obtain ⟨g, hg⟩ : ∃ g, tellOf B hv = g := ⟨_, rfl⟩
  have HG := veil hg
  go_enter Tryz.func7, Tryz.ntmps7
  go_upto_region 1 with fail
  obtain ⟨W1, hW1, M1⟩ := Mb.made w B a c
  rw [← hW1]
  clear hW1
  have HT := mayTell_any B a c hv W1 (hb.next M1.bel)
  rw [hg] at HT
  clear hg
  obtain ⟨x0, x1, x2, x3, x4, x5⟩ := M1.b.cells
  have HM := veil M1
  clear M1
  go_upto_region 2 with (first | (go_at_call 17; refine HT.mono ?_; rintro x W2 ⟨rfl, b2⟩; clear HT x0 x1 x2 x3 x4 x5; have M2 := (unveil HM).next b2; obtain ⟨x0, x1, x2, x3, x4, x5⟩ := M2.b.cells; have HM2 := veil M2; clear M2 b2 HM))
  by_cases h0 : g = 0
  case neg =>
    go_wp2_with (first | (go_at_call 18; refine (refuse_any _ _).mono ?_; rintro x W9 ⟨rfl, b9⟩; have M9 := (unveil HM2).next b9; clear x0 x1 x2 x3 x4 x5; obtain ⟨z0, z1, z2, z3, z4, z5⟩ := M9.z.cells; have zf := M9.z.free; have HM9 := veil M9; clear M9 b9 HM2))
    obtain ⟨W4, hW4, d4, b4, _⟩ := b_stored (unveil HM9).z (unveil HM9).bel (show w.heap.size ≤ w.heap.size + 1 by omega) 0 0 0 0 0 none 0 0
    rw [← hW4]
    exact bodyPost_ret (ret_bCaught d4 rfl rfl) rfl ⟨_, _, _, rfl, by unfold caughtOf; rw [unveil HG, if_pos h0], BOut.zero _ _, b4⟩
  case pos =>
  subst h0
  obtain ⟨ok, h1, h2, h3⟩ := tell_zero (unveil HG)
  have HV := veil (And.intro h2 h3)
  clear h2 h3
  have hst := ok.stand
  have h4 : B.r = 3 ∨ (¬ B.r = 3 ∧ 0 ≤ B.o ∧ B.o ≤ 4) := by unfold Bt.Stand standP at hst; omega
  clear hst h1
  rcases h4 with h4 | ⟨h4, h5, h6⟩
  · have H4 := veil h4
    clear h4
    go_upto_region 5 with fail
    have h4 := unveil H4
    go_upto_region 8 with fail
    clear h4
    obtain ⟨W6, hW6⟩ : ∃ W6, W6 = W2 := ⟨_, rfl⟩
    have k6 := (unveil HM2).b
    have z6 := (unveil HM2).z
    have B6 := (unveil HM2).bel
    rw [← hW6] at k6 z6 B6 ⊢
    have i6 : BIn W6 B a c := hb.next B6
    have HW := bwith_none B a c W6 i6 ok.len
    obtain ⟨y0, y1, y2, y3, y4, y5⟩ := k6.cells
    have HZ := veil z6
    have HB := veil B6
    clear hW6 x0 x1 x2 x3 x4 x5 k6 z6 B6 i6
    go_wp2_with (go_at_call 19; refine HW.mono ?_; rintro x W5 ⟨y, rfl, ⟨⟨a', c', rfl, i5, u5⟩⟩, b5⟩; have z5 := (unveil HZ).next b5; obtain ⟨z0, z1, z2, z3, z4, z5'⟩ := z5.cells; have zf := z5.free; have HZ5 := veil z5; have HB5 := veil (Below.next (unveil HB) b5); have HI5 := veil i5; have HU5 := veil u5; have hs5 := (unveil HB).size; clear HW y0 y1 y2 y3 y4 y5 z5 b5 i5 u5)
    obtain ⟨W4, hW4, d4, b4, t4⟩ := b_stored (unveil HZ5) (unveil HB5) (show w.heap.size ≤ w.heap.size + 1 by omega) (B.r) (B.e) (B.f) (B.t) (B.o) a' B.es.length c'
    rw [← hW4]
    have hz := (unveil HZ).lt
    exact bodyPost_ret (ret_bCaught d4 rfl rfl) rfl ⟨_, B, 0, rfl, by unfold caughtOf; rw [unveil HG, if_neg (fun h => h rfl), if_pos (unveil H4)], ⟨a', c', rfl, (unveil HI5).turned t4 (fun x hx _ => by have := unveil HU5 x hx; omega), fun x hx => by have := unveil HU5 x hx; omega⟩, b4⟩
  · by_cases h7 : hv = B.es.length
    case pos =>
      have H7 := veil h7
      clear h7
      go_upto_region 6 with fail
      have h7 := unveil H7
      have xf := (unveil HM2).b.free
      go_upto_region 8 with fail
      clear h7 xf
      obtain ⟨W6, hW6, k6, t6⟩ : ∃ W6, W6 = ((W2.setCell ⟨w.heap.size, 0, none⟩ (.int .i64 (3))).setCell ⟨w.heap.size, 4, none⟩ (.int .i64 (0))) ∧ bBlock W6 w.heap.size (3) (B.e) (B.f) (B.t) (0) a B.es.length c ∧ Turned w.heap.size W2 W6 := by
        refine ⟨_, rfl, ?_, (Turned.set _ _ _ _).trans (Turned.set _ _ _ _)⟩
        have := (unveil HM2).b
        unfold bBlock at this ⊢
        rw [heap_setB (heap_setB this)]
        simp
      rw [← hW6]
      have z6 := (unveil HM2).z.turned t6 (by omega)
      have B6 := t6.under (unveil HM2).bel (Nat.le_refl _)
      have i6 : BIn W6 ⟨3, B.e, B.f, B.t, 0, B.es⟩ a c := ⟨t6.row (hb.row.below (unveil HM2).bel) (fun x hx h0 => by have := hb.row.blk_lt x hx h0; omega), hb.cap, hb.nil⟩
      have HW := bwith_none ⟨3, B.e, B.f, B.t, 0, B.es⟩ a c W6 i6 ok.len
      obtain ⟨y0, y1, y2, y3, y4, y5⟩ := k6.cells
      have HZ := veil z6
      have HB := veil B6
      clear hW6 x0 x1 x2 x3 x4 x5 k6 t6 z6 B6 i6
      go_wp2_with (go_at_call 19; refine HW.mono ?_; rintro x W5 ⟨y, rfl, ⟨⟨a', c', rfl, i5, u5⟩⟩, b5⟩; have z5 := (unveil HZ).next b5; obtain ⟨z0, z1, z2, z3, z4, z5'⟩ := z5.cells; have zf := z5.free; have HZ5 := veil z5; have HB5 := veil (Below.next (unveil HB) b5); have HI5 := veil i5; have HU5 := veil u5; have hs5 := (unveil HB).size; clear HW y0 y1 y2 y3 y4 y5 z5 b5 i5 u5)
      obtain ⟨W4, hW4, d4, b4, t4⟩ := b_stored (unveil HZ5) (unveil HB5) (show w.heap.size ≤ w.heap.size + 1 by omega) (3) (B.e) (B.f) (B.t) (0) a' B.es.length c'
      rw [← hW4]
      have hz := (unveil HZ).lt
      exact bodyPost_ret (ret_bCaught d4 rfl rfl) rfl ⟨_, ⟨3, B.e, B.f, B.t, 0, B.es⟩, 0, rfl, by unfold caughtOf; rw [unveil HG, if_neg (fun h => h rfl), if_neg h4, if_pos (Or.inl (unveil H7))], ⟨a', c', rfl, (unveil HI5).turned t4 (fun x hx _ => by have := unveil HU5 x hx; omega), fun x hx => by have := unveil HU5 x hx; omega⟩, b4⟩
    case neg =>
    by_cases h8 : B.o = 4
    case pos =>
      have H8 := veil h8
      clear h8
      go_upto_region 6 with fail
      have h8 := unveil H8
      have xf := (unveil HM2).b.free
      go_upto_region 8 with fail
      clear h8 xf
      obtain ⟨W6, hW6, k6, t6⟩ : ∃ W6, W6 = ((W2.setCell ⟨w.heap.size, 0, none⟩ (.int .i64 (3))).setCell ⟨w.heap.size, 4, none⟩ (.int .i64 (0))) ∧ bBlock W6 w.heap.size (3) (B.e) (B.f) (B.t) (0) a B.es.length c ∧ Turned w.heap.size W2 W6 := by
        refine ⟨_, rfl, ?_, (Turned.set _ _ _ _).trans (Turned.set _ _ _ _)⟩
        have := (unveil HM2).b
        unfold bBlock at this ⊢
        rw [heap_setB (heap_setB this)]
        simp
      rw [← hW6]
      have z6 := (unveil HM2).z.turned t6 (by omega)
      have B6 := t6.under (unveil HM2).bel (Nat.le_refl _)
      have i6 : BIn W6 ⟨3, B.e, B.f, B.t, 0, B.es⟩ a c := ⟨t6.row (hb.row.below (unveil HM2).bel) (fun x hx h0 => by have := hb.row.blk_lt x hx h0; omega), hb.cap, hb.nil⟩
      have HW := bwith_none ⟨3, B.e, B.f, B.t, 0, B.es⟩ a c W6 i6 ok.len
      obtain ⟨y0, y1, y2, y3, y4, y5⟩ := k6.cells
      have HZ := veil z6
      have HB := veil B6
      clear hW6 x0 x1 x2 x3 x4 x5 k6 t6 z6 B6 i6
      go_wp2_with (go_at_call 19; refine HW.mono ?_; rintro x W5 ⟨y, rfl, ⟨⟨a', c', rfl, i5, u5⟩⟩, b5⟩; have z5 := (unveil HZ).next b5; obtain ⟨z0, z1, z2, z3, z4, z5'⟩ := z5.cells; have zf := z5.free; have HZ5 := veil z5; have HB5 := veil (Below.next (unveil HB) b5); have HI5 := veil i5; have HU5 := veil u5; have hs5 := (unveil HB).size; clear HW y0 y1 y2 y3 y4 y5 z5 b5 i5 u5)
      obtain ⟨W4, hW4, d4, b4, t4⟩ := b_stored (unveil HZ5) (unveil HB5) (show w.heap.size ≤ w.heap.size + 1 by omega) (3) (B.e) (B.f) (B.t) (0) a' B.es.length c'
      rw [← hW4]
      have hz := (unveil HZ).lt
      exact bodyPost_ret (ret_bCaught d4 rfl rfl) rfl ⟨_, ⟨3, B.e, B.f, B.t, 0, B.es⟩, 0, rfl, by unfold caughtOf; rw [unveil HG, if_neg (fun h => h rfl), if_neg h4, if_pos (Or.inr (unveil H8))], ⟨a', c', rfl, (unveil HI5).turned t4 (fun x hx _ => by have := unveil HU5 x hx; omega), fun x hx => by have := unveil HU5 x hx; omega⟩, b4⟩
    case neg =>
    have hw : IntKind.i64.wrap (B.o + 1) = B.o + 1 := by rw [IntKind.wrap_i64]; omega
    have xf := (unveil HM2).b.free
    have e7 : (hv == (B.es.length : Int)) = false := by simpa using h7
    have e8 : (B.o == 4) = false := by simpa using h8
    go_upto_region 8 with fail
    clear xf hw e7 e8
    obtain ⟨W6, hW6, k6, t6⟩ : ∃ W6, W6 = (W2.setCell ⟨w.heap.size, 4, none⟩ (.int .i64 (B.o + 1))) ∧ bBlock W6 w.heap.size (B.r) (B.e) (B.f) (B.t) (B.o + 1) a B.es.length c ∧ Turned w.heap.size W2 W6 := by
      refine ⟨_, rfl, ?_, Turned.set _ _ _ _⟩
      have := (unveil HM2).b
      unfold bBlock at this ⊢
      rw [heap_setB this]
      simp
    rw [← hW6]
    have z6 := (unveil HM2).z.turned t6 (by omega)
    have B6 := t6.under (unveil HM2).bel (Nat.le_refl _)
    have i6 : BIn W6 ⟨B.r, B.e, B.f, B.t, B.o + 1, B.es⟩ a c := ⟨t6.row (hb.row.below (unveil HM2).bel) (fun x hx h0 => by have := hb.row.blk_lt x hx h0; omega), hb.cap, hb.nil⟩
    have HW := bwith_none ⟨B.r, B.e, B.f, B.t, B.o + 1, B.es⟩ a c W6 i6 ok.len
    obtain ⟨y0, y1, y2, y3, y4, y5⟩ := k6.cells
    have HZ := veil z6
    have HB := veil B6
    clear hW6 x0 x1 x2 x3 x4 x5 k6 t6 z6 B6 i6
    go_wp2_with (go_at_call 19; refine HW.mono ?_; rintro x W5 ⟨y, rfl, ⟨⟨a', c', rfl, i5, u5⟩⟩, b5⟩; have z5 := (unveil HZ).next b5; obtain ⟨z0, z1, z2, z3, z4, z5'⟩ := z5.cells; have zf := z5.free; have HZ5 := veil z5; have HB5 := veil (Below.next (unveil HB) b5); have HI5 := veil i5; have HU5 := veil u5; have hs5 := (unveil HB).size; clear HW y0 y1 y2 y3 y4 y5 z5 b5 i5 u5)
    obtain ⟨W4, hW4, d4, b4, t4⟩ := b_stored (unveil HZ5) (unveil HB5) (show w.heap.size ≤ w.heap.size + 1 by omega) (B.r) (B.e) (B.f) (B.t) (B.o + 1) a' B.es.length c'
    rw [← hW4]
    have hz := (unveil HZ).lt
    exact bodyPost_ret (ret_bCaught d4 rfl rfl) rfl ⟨_, ⟨B.r, B.e, B.f, B.t, B.o + 1, B.es⟩, 0, rfl, by unfold caughtOf; rw [unveil HG, if_neg (fun h => h rfl), if_neg h4, if_neg (fun h => h.elim h7 h8)], ⟨a', c', rfl, (unveil HI5).turned t4 (fun x hx _ => by have := unveil HU5 x hx; omega), fun x hx => by have := unveil HU5 x hx; omega⟩, b4⟩
end Go.Proofs.YtbhlpiomoookcaaGreat

namespace Go.Proofs.YtbhlpiomoookcaaGreat
open Go.RowKit

theorem ret_bBegin {W : World} {R : Nat} {r e f t o : Int} {a : Option Addr} {n c : Nat} {er : Int} {tmps : Array Value} (d : bBlock W R r e f t o a n c) (t1 : tmps[6]? = some (.pointer (some ⟨R, 0, none⟩))) (t2 : tmps[7]? = some (.int .i64 er)) :
    (results Tryz.f10 tmps).run Tryz.prog W = .ok (.tuple #[bVal r e f t o a n c, .int .i64 er]) W := by
  simp [results, Tryz.results10, t1, t2, asAddr, load_berth d]
set_option maxRecDepth 20000 in
set_option maxHeartbeats 4000000 in
theorem bbegin_any (B : Bt) (a : Option Addr) (c : Nat) (ep fr : Int) (w : World) (hb : BIn w B a c) : Calls Tryz.prog 10 #[bVal B.r B.e B.f B.t B.o a B.es.length c, .int .i64 ep, .int .i64 fr] w fun x w' => ∃ y B' er, x = .returned (.tuple #[y, .int .i64 er]) ∧ beginOf B ep fr = (B', er) ∧ BOut w w' B' y ∧ Below w.heap.size w w' := by
  have HE := fun w => isEpoch_any ep w
  have HN := fun w => isBerthNode_any fr w
  have HS := fun w => serves_any B.r B.e B.f B.t B.o a B.es.length c w
  by_cases ok : B.Ok
  case neg =>
    go_enter Tryz.func10, Tryz.ntmps10
    go_upto_region 1 with fail
    obtain ⟨W1, hW1, M1⟩ := Mb.made w B a c
    rw [← hW1]
    clear hW1
    have HC := bcheck_no B a c W1 (hb.next M1.bel) ok
    obtain ⟨x0, x1, x2, x3, x4, x5⟩ := M1.b.cells
    have HM := veil M1
    clear M1
    go_wp2_with (first | (go_at_call 21; refine HC.mono ?_; rintro x W2 ⟨rfl, b2⟩; clear HC x0 x1 x2 x3 x4 x5; have M2 := (unveil HM).next b2; obtain ⟨x0, x1, x2, x3, x4, x5⟩ := M2.b.cells; have HM2 := veil M2; clear M2 b2 HM) | (go_at_call 18; refine (refuse_any _ _).mono ?_; rintro x W9 ⟨rfl, b9⟩; have M9 := (unveil HM2).next b9; clear x0 x1 x2 x3 x4 x5; obtain ⟨z0, z1, z2, z3, z4, z5⟩ := M9.z.cells; have zf := M9.z.free; have HM9 := veil M9; clear M9 b9 HM2))
    obtain ⟨W4, hW4, d4, b4, _⟩ := b_stored (unveil HM9).z (unveil HM9).bel (show w.heap.size ≤ w.heap.size + 1 by omega) 0 0 0 0 0 none 0 0
    rw [← hW4]
    exact bodyPost_ret (ret_bBegin d4 rfl rfl) rfl ⟨_, _, _, rfl, by unfold beginOf; rw [if_pos ok], BOut.zero _ _, b4⟩
  case pos =>
  by_cases h1 : 1 ≤ ep ∧ ep ≤ 1048576
  case neg =>
    rw [decide_eq_false h1] at HE
    go_enter Tryz.func10, Tryz.ntmps10
    go_upto_region 1 with fail
    obtain ⟨W1, hW1, M1⟩ := Mb.made w B a c
    rw [← hW1]
    clear hW1
    have HC := bcheck_yes B a c W1 (hb.next M1.bel) ok
    obtain ⟨x0, x1, x2, x3, x4, x5⟩ := M1.b.cells
    have HM := veil M1
    clear M1
    go_wp2_with (first | (go_at_call 21; refine HC.mono ?_; rintro x W2 ⟨rfl, b2⟩; clear HC x0 x1 x2 x3 x4 x5; have M2 := (unveil HM).next b2; obtain ⟨x0, x1, x2, x3, x4, x5⟩ := M2.b.cells; have HM2 := veil M2; clear M2 b2 HM) | (go_at_call 22; refine (HE _).mono ?_; rintro x w3 ⟨rfl, hw3⟩; subst w3) | (go_at_call 18; refine (refuse_any _ _).mono ?_; rintro x W9 ⟨rfl, b9⟩; have M9 := (unveil HM2).next b9; clear x0 x1 x2 x3 x4 x5; obtain ⟨z0, z1, z2, z3, z4, z5⟩ := M9.z.cells; have zf := M9.z.free; have HM9 := veil M9; clear M9 b9 HM2))
    obtain ⟨W4, hW4, d4, b4, _⟩ := b_stored (unveil HM9).z (unveil HM9).bel (show w.heap.size ≤ w.heap.size + 1 by omega) 0 0 0 0 0 none 0 0
    rw [← hW4]
    exact bodyPost_ret (ret_bBegin d4 rfl rfl) rfl ⟨_, _, _, rfl, by unfold beginOf; rw [if_neg (fun h => h ok), if_pos (fun h => h1 h.1)], BOut.zero _ _, b4⟩
  case pos =>
  rw [decide_eq_true h1] at HE
  by_cases h2 : 0 ≤ fr ∧ fr ≤ 4
  case neg =>
    rw [decide_eq_false h2] at HN
    clear h1
    go_enter Tryz.func10, Tryz.ntmps10
    go_upto_region 1 with fail
    obtain ⟨W1, hW1, M1⟩ := Mb.made w B a c
    rw [← hW1]
    clear hW1
    have HC := bcheck_yes B a c W1 (hb.next M1.bel) ok
    obtain ⟨x0, x1, x2, x3, x4, x5⟩ := M1.b.cells
    have HM := veil M1
    clear M1
    go_wp2_with (first | (go_at_call 21; refine HC.mono ?_; rintro x W2 ⟨rfl, b2⟩; clear HC x0 x1 x2 x3 x4 x5; have M2 := (unveil HM).next b2; obtain ⟨x0, x1, x2, x3, x4, x5⟩ := M2.b.cells; have HM2 := veil M2; clear M2 b2 HM) | (go_at_call 22; refine (HE _).mono ?_; rintro x w3 ⟨rfl, hw3⟩; subst w3) | (go_at_call 23; refine (HN _).mono ?_; rintro x w3 ⟨rfl, hw3⟩; subst w3) | (go_at_call 18; refine (refuse_any _ _).mono ?_; rintro x W9 ⟨rfl, b9⟩; have M9 := (unveil HM2).next b9; clear x0 x1 x2 x3 x4 x5; obtain ⟨z0, z1, z2, z3, z4, z5⟩ := M9.z.cells; have zf := M9.z.free; have HM9 := veil M9; clear M9 b9 HM2))
    obtain ⟨W4, hW4, d4, b4, _⟩ := b_stored (unveil HM9).z (unveil HM9).bel (show w.heap.size ≤ w.heap.size + 1 by omega) 0 0 0 0 0 none 0 0
    rw [← hW4]
    exact bodyPost_ret (ret_bBegin d4 rfl rfl) rfl ⟨_, _, _, rfl, by unfold beginOf; rw [if_neg (fun h => h ok), if_pos (fun h => h2 h.2)], BOut.zero _ _, b4⟩
  case pos =>
  rw [decide_eq_true h2] at HN
  have H1 := veil (And.intro h1 h2)
  clear h1 h2
  by_cases h3 : B.r = 1 ∨ B.r = 2
  case pos =>
    rw [decide_eq_true h3] at HS
    have H3 := veil h3
    clear h3
    go_enter Tryz.func10, Tryz.ntmps10
    go_upto_region 1 with fail
    obtain ⟨W1, hW1, M1⟩ := Mb.made w B a c
    rw [← hW1]
    clear hW1
    have HC := bcheck_yes B a c W1 (hb.next M1.bel) ok
    obtain ⟨x0, x1, x2, x3, x4, x5⟩ := M1.b.cells
    have HM := veil M1
    clear M1
    go_wp2_with (first | (go_at_call 21; refine HC.mono ?_; rintro x W2 ⟨rfl, b2⟩; clear HC x0 x1 x2 x3 x4 x5; have M2 := (unveil HM).next b2; obtain ⟨x0, x1, x2, x3, x4, x5⟩ := M2.b.cells; have HM2 := veil M2; clear M2 b2 HM) | (go_at_call 22; refine (HE _).mono ?_; rintro x w3 ⟨rfl, hw3⟩; subst w3) | (go_at_call 23; refine (HN _).mono ?_; rintro x w3 ⟨rfl, hw3⟩; subst w3) | (go_at_call 24; refine (HS _).mono ?_; rintro x W3 ⟨rfl, b3⟩; have M3 := (unveil HM2).next b3; clear HM2 x0 x1 x2 x3 x4 x5; obtain ⟨x0, x1, x2, x3, x4, x5⟩ := M3.b.cells; have HM2 := veil M3; clear M3 b3 ) | (go_at_call 18; refine (refuse_any _ _).mono ?_; rintro x W9 ⟨rfl, b9⟩; have M9 := (unveil HM2).next b9; clear x0 x1 x2 x3 x4 x5; obtain ⟨z0, z1, z2, z3, z4, z5⟩ := M9.z.cells; have zf := M9.z.free; have HM9 := veil M9; clear M9 b9 HM2))
    obtain ⟨W4, hW4, d4, b4, _⟩ := b_stored (unveil HM9).z (unveil HM9).bel (show w.heap.size ≤ w.heap.size + 1 by omega) 0 0 0 0 0 none 0 0
    rw [← hW4]
    exact bodyPost_ret (ret_bBegin d4 rfl rfl) rfl ⟨_, _, _, rfl, by unfold beginOf; rw [if_neg (fun h => h ok), if_neg (fun h => h (unveil H1)), if_pos (by have := unveil H3; omega)], BOut.zero _ _, b4⟩
  case neg =>
  have H3 := veil h3
  clear h3
  by_cases h4 : B.r = 3
  case pos =>
    have H4 := veil h4
    clear h4
    go_enter Tryz.func10, Tryz.ntmps10
    go_upto_region 1 with fail
    obtain ⟨W1, hW1, M1⟩ := Mb.made w B a c
    rw [← hW1]
    clear hW1
    have HC := bcheck_yes B a c W1 (hb.next M1.bel) ok
    obtain ⟨x0, x1, x2, x3, x4, x5⟩ := M1.b.cells
    have HM := veil M1
    clear M1
    go_upto_region 5 with (first | (go_at_call 21; refine HC.mono ?_; rintro x W2 ⟨rfl, b2⟩; clear HC x0 x1 x2 x3 x4 x5; have M2 := (unveil HM).next b2; obtain ⟨x0, x1, x2, x3, x4, x5⟩ := M2.b.cells; have HM2 := veil M2; clear M2 b2 HM) | (go_at_call 22; refine (HE _).mono ?_; rintro x w3 ⟨rfl, hw3⟩; subst w3) | (go_at_call 23; refine (HN _).mono ?_; rintro x w3 ⟨rfl, hw3⟩; subst w3))
    clear HS
    have h4 := unveil H4
    go_wp2_with (first | (go_at_call 24; refine (serves_any _ _ _ _ _ _ _ _ _).mono ?_; rintro x W3 ⟨rfl, b3⟩; have M3 := (unveil HM2).next b3; clear HM2 x0 x1 x2 x3 x4 x5; obtain ⟨x0, x1, x2, x3, x4, x5⟩ := M3.b.cells; have HM2 := veil M3; clear M3 b3 ) | (go_at_call 18; refine (refuse_any _ _).mono ?_; rintro x W9 ⟨rfl, b9⟩; have M9 := (unveil HM2).next b9; clear x0 x1 x2 x3 x4 x5; obtain ⟨z0, z1, z2, z3, z4, z5⟩ := M9.z.cells; have zf := M9.z.free; have HM9 := veil M9; clear M9 b9 HM2))
    obtain ⟨W4, hW4, d4, b4, _⟩ := b_stored (unveil HM9).z (unveil HM9).bel (show w.heap.size ≤ w.heap.size + 1 by omega) 0 0 0 0 0 none 0 0
    rw [← hW4]
    exact bodyPost_ret (ret_bBegin d4 rfl rfl) rfl ⟨_, _, _, rfl, by unfold beginOf; rw [if_neg (fun h => h ok), if_neg (fun h => h (unveil H1)), if_pos (by have := unveil H4; omega)], BOut.zero _ _, b4⟩
  case neg =>
  rw [decide_eq_false (unveil H3)] at HS
  have H5 : Hid (¬ (B.r = 1 ∨ B.r = 2 ∨ B.r = 3)) := veil (by have := unveil H3; omega)
  go_enter Tryz.func10, Tryz.ntmps10
  go_upto_region 1 with fail
  obtain ⟨W1, hW1, M1⟩ := Mb.made w B a c
  rw [← hW1]
  clear hW1
  have HC := bcheck_yes B a c W1 (hb.next M1.bel) ok
  obtain ⟨x0, x1, x2, x3, x4, x5⟩ := M1.b.cells
  have HM := veil M1
  clear M1
  have e4 : (B.r == 3) = false := by simpa using h4
  go_upto_region 7 with (first | (go_at_call 21; refine HC.mono ?_; rintro x W2 ⟨rfl, b2⟩; clear HC x0 x1 x2 x3 x4 x5; have M2 := (unveil HM).next b2; obtain ⟨x0, x1, x2, x3, x4, x5⟩ := M2.b.cells; have HM2 := veil M2; clear M2 b2 HM) | (go_at_call 22; refine (HE _).mono ?_; rintro x w3 ⟨rfl, hw3⟩; subst w3) | (go_at_call 23; refine (HN _).mono ?_; rintro x w3 ⟨rfl, hw3⟩; subst w3) | (go_at_call 24; refine (HS _).mono ?_; rintro x W3 ⟨rfl, b3⟩; have M3 := (unveil HM2).next b3; clear HM2 x0 x1 x2 x3 x4 x5; obtain ⟨x0, x1, x2, x3, x4, x5⟩ := M3.b.cells; have HM2 := veil M3; clear M3 b3 ))
  clear e4 h4 HE HN
  by_cases h6 : B.r = 4 ∧ B.e = ep ∧ B.f = fr
  case pos =>
    have H6 := veil h6
    obtain ⟨h7, h8, h9⟩ := h6
    go_upto_region 8 with fail
    clear h7 h8 h9
    obtain ⟨W6, hW6⟩ : ∃ W6, W6 = W3 := ⟨_, rfl⟩
    have k6 := (unveil HM2).b
    have z6 := (unveil HM2).z
    have B6 := (unveil HM2).bel
    rw [← hW6] at k6 z6 B6 ⊢
    have i6 : BIn W6 B a c := hb.next B6
    have HW := bwith_none B a c W6 i6 ok.len
    obtain ⟨y0, y1, y2, y3, y4, y5⟩ := k6.cells
    have HZ := veil z6
    have HB := veil B6
    clear hW6 x0 x1 x2 x3 x4 x5 k6 z6 B6 i6
    go_wp2_with (go_at_call 19; refine HW.mono ?_; rintro x W5 ⟨y, rfl, ⟨⟨a', c', rfl, i5, u5⟩⟩, b5⟩; have z5 := (unveil HZ).next b5; obtain ⟨z0, z1, z2, z3, z4, z5'⟩ := z5.cells; have zf := z5.free; have HZ5 := veil z5; have HB5 := veil (Below.next (unveil HB) b5); have HI5 := veil i5; have HU5 := veil u5; have hs5 := (unveil HB).size; clear HW y0 y1 y2 y3 y4 y5 z5 b5 i5 u5)
    obtain ⟨W4, hW4, d4, b4, t4⟩ := b_stored (unveil HZ5) (unveil HB5) (show w.heap.size ≤ w.heap.size + 1 by omega) (B.r) (B.e) (B.f) (B.t) (B.o) a' B.es.length c'
    rw [← hW4]
    have hz := (unveil HZ).lt
    exact bodyPost_ret (ret_bBegin d4 rfl rfl) rfl ⟨_, B, 0, rfl, by unfold beginOf; rw [if_neg (fun h => h ok), if_neg (fun h => h (unveil H1)), if_neg (unveil H5), if_pos (unveil H6)], ⟨a', c', rfl, (unveil HI5).turned t4 (fun x hx _ => by have := unveil HU5 x hx; omega), fun x hx => by have := unveil HU5 x hx; omega⟩, b4⟩
  case neg =>
  have h6' : ((B.r == 4) = false) ∨ ((B.r == 4) = true ∧ (B.e == ep) = false) ∨ ((B.r == 4) = true ∧ (B.e == ep) = true ∧ (B.f == fr) = false) := by
    by_cases g1 : B.r = 4
    · by_cases g2 : B.e = ep
      · by_cases g3 : B.f = fr
        · exact absurd ⟨g1, g2, g3⟩ h6
        · exact .inr (.inr ⟨by simpa using g1, by simpa using g2, by simpa using g3⟩)
      · exact .inr (.inl ⟨by simpa using g1, by simpa using g2⟩)
    · exact .inl (by simpa using g1)
  by_cases h7 : ep ≤ B.e
  case pos =>
    have H6 := veil h6
    clear h6
    rcases h6' with g1 | ⟨g1, g2⟩ | ⟨g1, g2, g3⟩
    all_goals
      go_wp2_with (first | (go_at_call 18; refine (refuse_any _ _).mono ?_; rintro x W9 ⟨rfl, b9⟩; have M9 := (unveil HM2).next b9; clear x0 x1 x2 x3 x4 x5; obtain ⟨z0, z1, z2, z3, z4, z5⟩ := M9.z.cells; have zf := M9.z.free; have HM9 := veil M9; clear M9 b9 HM2))
      obtain ⟨W4, hW4, d4, b4, _⟩ := b_stored (unveil HM9).z (unveil HM9).bel (show w.heap.size ≤ w.heap.size + 1 by omega) 0 0 0 0 0 none 0 0
      rw [← hW4]
      exact bodyPost_ret (ret_bBegin d4 rfl rfl) rfl ⟨_, _, _, rfl, by unfold beginOf; rw [if_neg (fun h => h ok), if_neg (fun h => h (unveil H1)), if_neg (unveil H5), if_neg (unveil H6), if_pos h7], BOut.zero _ _, b4⟩
  case neg =>
  have H6 := veil h6
  clear h6
  have zf := (unveil HM2).z.free
  obtain ⟨z0, z1, z2, z3, z4, z5⟩ := (unveil HM2).z.cells
  rcases h6' with g1 | ⟨g1, g2⟩ | ⟨g1, g2, g3⟩
  all_goals
    go_wp2
    obtain ⟨W4, hW4, d4, b4, _⟩ := b_stored (unveil HM2).z (unveil HM2).bel (show w.heap.size ≤ w.heap.size + 1 by omega) 4 ep fr 0 0 none 0 0
    rw [← hW4]
    exact bodyPost_ret (ret_bBegin d4 rfl rfl) rfl ⟨_, ⟨4, ep, fr, 0, 0, []⟩, 0, rfl, by unfold beginOf; rw [if_neg (fun h => h ok), if_neg (fun h => h (unveil H1)), if_neg (unveil H5), if_neg (unveil H6), if_neg (by omega)], ⟨none, 0, rfl, ⟨RowK.nil _ _ _, Nat.le_refl _, fun _ => rfl⟩, fun x hx => by cases hx⟩, b4⟩
end Go.Proofs.YtbhlpiomoookcaaGreat

namespace Go.Proofs.YtbhlpiomoookcaaGreat
open Go.RowKit

def askOf (v : Ev) : Int := if ¬ eventFault v.k v.p v.i v.b v.he v.hn = 0 then eventFault v.k v.p v.i v.b v.he v.hn else if v.k = 4 then 3 else 0
theorem a_stored {w wx : World} {A N : Nat} {c he no bd : Int} (h : ansBlock wx A c he no bd) (bel : Below N w wx) (hN : N ≤ A) (c' he' no' bd' : Int) :
    ∃ W, W = (((wx.setCell ⟨A, 0, none⟩ (.int .i64 c')).setCell ⟨A, 1, none⟩ (.int .i64 he')).setCell ⟨A, 2, none⟩ (.int .i64 no')).setCell ⟨A, 3, none⟩ (.int .i64 bd') ∧ ansBlock W A c' he' no' bd' ∧ Below N w W ∧ Turned A wx W :=
  ⟨_, rfl, h.store c' he' no' bd', (ans_turned wx A c' he' no' bd').under bel hN, ans_turned wx A c' he' no' bd'⟩
/-- what berth.served answers, of a queue and an event that may be. -/
inductive SvR (B : Bt) (s : St) (v : Ev) : An → List Ev → Prop
  | shut (hr : B.r = 3) : SvR B s v ⟨12, 0, 0, 0⟩ []
  | none (hr : ¬ B.r = 3) (hs : ¬ (B.r = 1 ∨ B.r = 2)) : SvR B s v ⟨7, 0, 0, 0⟩ []
  | same (hr : B.r = 1 ∨ B.r = 2) (s' : St) (an : An) (st : Step s v s' an false) : SvR B s v an []
  | full (hr : B.r = 1 ∨ B.r = 2) (s' : St) (an : An) (st : Step s v s' an true) (hl : 1999 ≤ B.es.length) : SvR B s v ⟨14, 0, 0, 0⟩ []
  | done (hr : B.r = 1 ∨ B.r = 2) (s' : St) (an : An) (st : Step s v s' an true) (hl : B.es.length < 1999) : SvR B s v an [v]
/-- the boxes of served. -/
structure Sv (w wx : World) (E A : Nat) (B : Bt) (a : Option Addr) (c : Nat) (s : St) (rv lv : Value) (ws : Nat → Value) (v : Ev) : Prop where
  b : bBlock wx w.heap.size B.r B.e B.f B.t B.o a B.es.length c
  q : qBlock wx (w.heap.size + 1) s.ep s.nx s.gv rv lv ws
  e : wx.heap[E]? = some (.cells #[.int .i64 v.k, .int .i64 v.p, .int .i64 v.i, .int .i64 v.b, .int .i64 v.he, .int .i64 v.hn] 50 (0, 0))
  a : ansBlock wx A 0 0 0 0
  bel : Below w.heap.size w wx
  upE : w.heap.size + 1 < E
  upA : E < A
theorem Sv.next {w wx wy : World} {E A : Nat} {B : Bt} {a : Option Addr} {c : Nat} {s : St} {rv lv : Value} {ws : Nat → Value} {v : Ev} (h : Sv w wx E A B a c s rv lv ws v) (b : Below wx.heap.size wx wy) : Sv w wy E A B a c s rv lv ws v :=
  ⟨h.b.next b, h.q.next b, (b.block E (block_lt h.e)).trans h.e, h.a.next b, Below.next h.bel b, h.upE, h.upA⟩
theorem Sv.made {w W2 : World} {B : Bt} {a : Option Addr} {c : Nat} {s : St} {rv lv : Value} {ws : Nat → Value} {v : Ev} (q2 : qBlock W2 (w.alloc (.cells (bCells B.r B.e B.f B.t B.o a B.es.length c) 24)).heap.size s.ep s.nx s.gv rv lv ws)
    (b2 : Below (w.alloc (.cells (bCells B.r B.e B.f B.t B.o a B.es.length c) 24)).heap.size (w.alloc (.cells (bCells B.r B.e B.f B.t B.o a B.es.length c) 24)) W2) :
    ∃ W, W = (W2.alloc (.cells #[.int .i64 v.k, .int .i64 v.p, .int .i64 v.i, .int .i64 v.b, .int .i64 v.he, .int .i64 v.hn] 50)).alloc (.cells #[.int .i64 0, .int .i64 0, .int .i64 0, .int .i64 0] 68) ∧ Sv w W W2.heap.size (W2.heap.size + 1) B a c s rv lv ws v := by
  rw [show (w.alloc (.cells (bCells B.r B.e B.f B.t B.o a B.es.length c) 24)).heap.size = w.heap.size + 1 by simp] at q2
  have hA := ansBlock.new (W2.alloc (.cells #[.int .i64 v.k, .int .i64 v.p, .int .i64 v.i, .int .i64 v.b, .int .i64 v.he, .int .i64 v.hn] 50)) 0 0 0 0
  rw [show (W2.alloc (.cells #[.int .i64 v.k, .int .i64 v.p, .int .i64 v.i, .int .i64 v.b, .int .i64 v.he, .int .i64 v.hn] 50)).heap.size = W2.heap.size + 1 by simp] at hA
  have hE := heap_alloc_new W2 (.cells #[.int .i64 v.k, .int .i64 v.p, .int .i64 v.i, .int .i64 v.b, .int .i64 v.he, .int .i64 v.hn] 50)
  have b3 := below2 W2 (.cells #[.int .i64 v.k, .int .i64 v.p, .int .i64 v.i, .int .i64 v.b, .int .i64 v.he, .int .i64 v.hn] 50) (.cells #[.int .i64 0, .int .i64 0, .int .i64 0, .int .i64 0] 68)
  exact ⟨_, rfl, (((bBlock.new w _ _ _ _ _ _ _ _).next b2).next b3), q2.next b3, ((below1 _ _).block _ (block_lt hE)).trans hE, hA, Below.next (Below.next (below1 _ _) b2) b3, q2.lt, Nat.lt_succ_self _⟩
end Go.Proofs.YtbhlpiomoookcaaGreat

namespace Go.Proofs.YtbhlpiomoookcaaGreat
open Go.RowKit

/-- the boxes of Serve. -/
structure Sr (w wx : World) (B : Bt) (a : Option Addr) (c : Nat) (v : Ev) : Prop where
  b : bBlock wx w.heap.size B.r B.e B.f B.t B.o a B.es.length c
  e : wx.heap[w.heap.size + 1]? = some (.cells #[.int .i64 v.k, .int .i64 v.p, .int .i64 v.i, .int .i64 v.b, .int .i64 v.he, .int .i64 v.hn] 50 (0, 0))
  z : bBlock wx (w.heap.size + 2) 0 0 0 0 0 none 0 0
  y : ansBlock wx (w.heap.size + 3) 0 0 0 0
  bel : Below w.heap.size w wx
theorem Sr.next {w wx wy : World} {B : Bt} {a : Option Addr} {c : Nat} {v : Ev} (h : Sr w wx B a c v) (b : Below wx.heap.size wx wy) : Sr w wy B a c v :=
  ⟨h.b.next b, (b.block _ (block_lt h.e)).trans h.e, h.z.next b, h.y.next b, Below.next h.bel b⟩
theorem Sr.turned {w wx wy : World} {B : Bt} {a : Option Addr} {c R : Nat} {v : Ev} (h : Sr w wx B a c v) (t : Turned R wx wy) (hR : w.heap.size + 3 < R) : Sr w wy B a c v :=
  ⟨h.b.turned t (by omega), (t.block _ (by omega)).trans h.e, h.z.turned t (by omega), h.y.turned t (by omega), t.under h.bel (by omega)⟩
theorem Sr.made (w : World) (B : Bt) (a : Option Addr) (c : Nat) (v : Ev) : ∃ W, W = (((w.alloc (.cells (bCells B.r B.e B.f B.t B.o a B.es.length c) 24)).alloc (.cells #[.int .i64 v.k, .int .i64 v.p, .int .i64 v.i, .int .i64 v.b, .int .i64 v.he, .int .i64 v.hn] 50)).alloc (.cells (bCells 0 0 0 0 0 none 0 0) 24)).alloc (.cells #[.int .i64 0, .int .i64 0, .int .i64 0, .int .i64 0] 68) ∧ Sr w W B a c v := by
  have h0 := bBlock.new w B.r B.e B.f B.t B.o a B.es.length c
  have h1 := heap_alloc_new (w.alloc (.cells (bCells B.r B.e B.f B.t B.o a B.es.length c) 24)) (.cells #[.int .i64 v.k, .int .i64 v.p, .int .i64 v.i, .int .i64 v.b, .int .i64 v.he, .int .i64 v.hn] 50)
  have h2 := bBlock.new ((w.alloc (.cells (bCells B.r B.e B.f B.t B.o a B.es.length c) 24)).alloc (.cells #[.int .i64 v.k, .int .i64 v.p, .int .i64 v.i, .int .i64 v.b, .int .i64 v.he, .int .i64 v.hn] 50)) 0 0 0 0 0 none 0 0
  have h3 := ansBlock.new (((w.alloc (.cells (bCells B.r B.e B.f B.t B.o a B.es.length c) 24)).alloc (.cells #[.int .i64 v.k, .int .i64 v.p, .int .i64 v.i, .int .i64 v.b, .int .i64 v.he, .int .i64 v.hn] 50)).alloc (.cells (bCells 0 0 0 0 0 none 0 0) 24)) 0 0 0 0
  have s1 : (w.alloc (.cells (bCells B.r B.e B.f B.t B.o a B.es.length c) 24)).heap.size = w.heap.size + 1 := by simp
  have s2 : ((w.alloc (.cells (bCells B.r B.e B.f B.t B.o a B.es.length c) 24)).alloc (.cells #[.int .i64 v.k, .int .i64 v.p, .int .i64 v.i, .int .i64 v.b, .int .i64 v.he, .int .i64 v.hn] 50)).heap.size = w.heap.size + 2 := by simp
  have s3 : (((w.alloc (.cells (bCells B.r B.e B.f B.t B.o a B.es.length c) 24)).alloc (.cells #[.int .i64 v.k, .int .i64 v.p, .int .i64 v.i, .int .i64 v.b, .int .i64 v.he, .int .i64 v.hn] 50)).alloc (.cells (bCells 0 0 0 0 0 none 0 0) 24)).heap.size = w.heap.size + 3 := by simp
  rw [s1] at h1
  rw [s2] at h2
  rw [s3] at h3
  exact ⟨_, rfl, ((h0.next (below1 _ _)).next (below1 _ _)).next (below1 _ _), ((below1 _ _).block _ (by rw [s3]; omega)).trans (((below1 _ _).block _ (by rw [s2]; omega)).trans h1), h2.next (below1 _ _), h3, Below.next (Below.next (Below.next (below1 _ _) (below1 _ _)) (below1 _ _)) (below1 _ _)⟩
/-- both answers stored. -/
theorem Sr.stored {w wx : World} {B : Bt} {a : Option Addr} {c : Nat} {v : Ev} (h : Sr w wx B a c v) (r' e' f' t' o' : Int) (a' : Option Addr) (n' c' : Nat) (cc he no bd : Int) :
    ∃ W, W = ((((((((((wx.setCell ⟨w.heap.size + 2, 0, none⟩ (.int .i64 r')).setCell ⟨w.heap.size + 2, 1, none⟩ (.int .i64 e')).setCell ⟨w.heap.size + 2, 2, none⟩ (.int .i64 f')).setCell ⟨w.heap.size + 2, 3, none⟩ (.int .i64 t')).setCell ⟨w.heap.size + 2, 4, none⟩ (.int .i64 o')).setCell ⟨w.heap.size + 2, 5, none⟩ (.slice a' n' c')).setCell ⟨w.heap.size + 3, 0, none⟩ (.int .i64 cc)).setCell ⟨w.heap.size + 3, 1, none⟩ (.int .i64 he)).setCell ⟨w.heap.size + 3, 2, none⟩ (.int .i64 no)).setCell ⟨w.heap.size + 3, 3, none⟩ (.int .i64 bd)) ∧ bBlock W (w.heap.size + 2) r' e' f' t' o' a' n' c' ∧ ansBlock W (w.heap.size + 3) cc he no bd ∧ Below w.heap.size w W := by
  obtain ⟨W1, hW1, d1, b1, t1⟩ := b_stored h.z h.bel (show w.heap.size ≤ w.heap.size + 2 by omega) r' e' f' t' o' a' n' c'
  have y1 := h.y.turned t1 (by omega)
  obtain ⟨W2, hW2, d2, b2, t2⟩ := a_stored y1 b1 (show w.heap.size ≤ w.heap.size + 3 by omega) cc he no bd
  refine ⟨W2, ?_, d1.turned t2 (by omega), d2, b2⟩
  rw [hW2, hW1]
theorem ask_yes {v : Ev} (h : askOf v = 0) : v.Ok ∧ ¬ v.k = 4 := by
  unfold askOf at h
  by_cases h0 : eventFault v.k v.p v.i v.b v.he v.hn = 0
  · rw [if_neg (fun g => g h0)] at h
    by_cases h1 : v.k = 4
    · rw [if_pos h1] at h; omega
    · exact ⟨h0, h1⟩
  · rw [if_pos h0] at h; exact absurd h h0
theorem ask_no {B : Bt} {v : Ev} (ok : B.Ok) (h : ¬ askOf v = 0) : ServeR B v Bt.zero An.zero false (askOf v) := by
  unfold askOf at h ⊢
  by_cases h0 : eventFault v.k v.p v.i v.b v.he v.hn = 0
  · rw [if_neg (fun g => g h0)] at h ⊢
    by_cases h1 : v.k = 4
    · rw [if_pos h1]; exact .brk ok h0 h1
    · rw [if_neg h1] at h; exact absurd rfl h
  · rw [if_pos h0]; exact .fault ok _ rfl h0
theorem SvR.serve {B : Bt} {v : Ev} {s : St} {ans : List An} {an : An} {l : List Ev} (h : SvR B s v an l) (ok : B.Ok) (hv : v.Ok) (hk : ¬ v.k = 4) (ht : Tells B.es s ans) : ServeR B v (B.more l) an (decide (0 < l.length)) 0 := by
  cases h with
  | shut hr => rw [Bt.more_nil]; exact .shut ok hv hk hr
  | none h3 hr =>
    rw [Bt.more_nil]
    refine .none ok hv hk ?_
    have := ok.stand
    unfold Bt.Stand standP at this
    omega
  | same hr s' an st => rw [Bt.more_nil]; exact .same ok hv hk hr s ans ht s' an st
  | full hr s' an st hl => rw [Bt.more_nil]; exact .full ok hv hk hr s ans ht s' an st hl
  | done hr s' an st hl => exact .done ok hv hk hr s ans ht s' an st hl
end Go.Proofs.YtbhlpiomoookcaaGreat
