/- Texts put together: RdA, RdB, RdC, RdD, RdE, RdF, RdG, RdH, RdI, RdJ. -/
import Derived.Test.YtcdopnkabbfooaaGreatRaLow
import Derived.Test.YtcdopnkabbfooaaGreatPkG
import Derived.WideMake
namespace Go.Proofs.YtcdopnkabbfooaaGreat
open Go.RowKit

/-- a record's numbers. -/
structure Rec where
  k : Int
  q : Int
  e : Int
  p : Int
  v : Ev
def Rec.fault (r : Rec) : Int := recordFault r.k r.q r.e r.p r.v.k r.v.p r.v.i r.v.b r.v.he r.v.hn
abbrev recIn (r : Rec) : Value := .agg #[.int .i64 r.k, .int .i64 r.q, .int .i64 r.e, .int .i64 r.p, .int .i64 r.v.k, .int .i64 r.v.p, .int .i64 r.v.i, .int .i64 r.v.b, .int .i64 r.v.he, .int .i64 r.v.hn]
def rcBlock (w : World) (R : Nat) (r : Rec) : Prop := w.heap[R]? = some (.cells #[.int .i64 r.k, .int .i64 r.q, .int .i64 r.e, .int .i64 r.p, .int .i64 r.v.k, .int .i64 r.v.p, .int .i64 r.v.i, .int .i64 r.v.b, .int .i64 r.v.he, .int .i64 r.v.hn] 30 (0, 0))
theorem rcBlock.cells {w : World} {R : Nat} {r : Rec} (h : rcBlock w R r) : w.cell? ⟨R, 0, none⟩ = some (.int .i64 r.k) ∧ w.cell? ⟨R, 1, none⟩ = some (.int .i64 r.q) ∧ w.cell? ⟨R, 2, none⟩ = some (.int .i64 r.e) ∧ w.cell? ⟨R, 3, none⟩ = some (.int .i64 r.p) ∧ w.cell? ⟨R, 4, none⟩ = some (.int .i64 r.v.k) ∧ w.cell? ⟨R, 5, none⟩ = some (.int .i64 r.v.p) ∧ w.cell? ⟨R, 6, none⟩ = some (.int .i64 r.v.i) ∧ w.cell? ⟨R, 7, none⟩ = some (.int .i64 r.v.b) ∧ w.cell? ⟨R, 8, none⟩ = some (.int .i64 r.v.he) ∧ w.cell? ⟨R, 9, none⟩ = some (.int .i64 r.v.hn) := by
  unfold rcBlock at h; simp [World.cell?, h]
open Classical in
/-- the berth behind a record that fits. -/
noncomputable def deedOf (B : Bt) (r : Rec) : Option Bt :=
  if r.k = 1 then (if r.p = 0 ∧ B.r = 0 ∧ B.e < r.e then some ⟨1, r.e, 0, 0, 0, []⟩ else none)
  else if r.k = 2 then (if r.p = 0 ∧ B.e = r.e ∧ B.r = 1 then some (B.more [r.v]) else none)
  else if r.k = 3 then (if B.e = r.e ∧ B.r = 1 then some ⟨3, B.e, B.f, r.p, B.o, B.es⟩ else none)
  else if r.k = 4 then (if (beginOf B r.e r.p).2 = 0 then some (beginOf B r.e r.p).1 else none)
  else if r.k = 5 then (if r.p = 0 ∧ B.e = r.e ∧ B.r = 4 then some (B.more [r.v]) else none)
  else if r.k = 6 then (if r.p = 0 ∧ B.e = r.e ∧ B.r = 4 then some ⟨1, B.e, 0, B.t, B.o, B.es ++ [Ev.brk]⟩ else none)
  else (if r.p = 0 ∧ B.e = r.e ∧ B.r = 3 then some ⟨0, B.e, 0, 0, 0, []⟩ else none)
open Classical in
noncomputable def applyOf (B : Bt) (r : Rec) : Bt × Int :=
  if ¬ B.Ok then (Bt.zero, 6) else if ¬ r.fault = 0 then (Bt.zero, r.fault) else match deedOf B r with
    | none => (Bt.zero, 3)
    | some D => if D.Ok then (D, 0) else (Bt.zero, 3)
theorem apply_state {B : Bt} {r : Rec} (ok : ¬ B.Ok) : applyOf B r = (Bt.zero, 6) := by unfold applyOf; rw [if_pos ok]
theorem apply_fault {B : Bt} {r : Rec} (ok : B.Ok) (h : ¬ r.fault = 0) : applyOf B r = (Bt.zero, r.fault) := by unfold applyOf; rw [if_neg (fun g => g ok), if_pos h]
theorem apply_none {B : Bt} {r : Rec} (ok : B.Ok) (h : r.fault = 0) (hd : deedOf B r = none) : applyOf B r = (Bt.zero, 3) := by unfold applyOf; rw [if_neg (fun g => g ok), if_neg (fun g => g h), hd]
theorem apply_bad {B D : Bt} {r : Rec} (ok : B.Ok) (h : r.fault = 0) (hd : deedOf B r = some D) (hD : ¬ D.Ok) : applyOf B r = (Bt.zero, 3) := by unfold applyOf; rw [if_neg (fun g => g ok), if_neg (fun g => g h), hd]; simp [hD]
theorem apply_good {B D : Bt} {r : Rec} (ok : B.Ok) (h : r.fault = 0) (hd : deedOf B r = some D) (hD : D.Ok) : applyOf B r = (D, 0) := by unfold applyOf; rw [if_neg (fun g => g ok), if_neg (fun g => g h), hd]; simp [hD]
theorem Rec.kinds {r : Rec} (h : r.fault = 0) : r.k = 1 ∨ r.k = 2 ∨ r.k = 3 ∨ r.k = 4 ∨ r.k = 5 ∨ r.k = 6 ∨ r.k = 7 := by
  unfold Rec.fault recordFault at h
  split at h
  · omega
  · rename_i h1
    have := Decidable.not_not.1 h1
    omega
/-- the boxes of a berth, of a record and of the answer. -/
structure Mr (w wx : World) (B : Bt) (a : Option Addr) (c : Nat) (r : Rec) : Prop where
  b : bBlock wx w.heap.size B.r B.e B.f B.t B.o a B.es.length c
  rc : rcBlock wx (w.heap.size + 1) r
  z : bBlock wx (w.heap.size + 2) 0 0 0 0 0 none 0 0
  bel : Below w.heap.size w wx
theorem Mr.next {w wx wy : World} {B : Bt} {a : Option Addr} {c : Nat} {r : Rec} (h : Mr w wx B a c r) (b : Below wx.heap.size wx wy) : Mr w wy B a c r :=
  ⟨h.b.next b, (b.block _ (block_lt h.rc)).trans h.rc, h.z.next b, Below.next h.bel b⟩
theorem Mr.keep {w wx wy : World} {B : Bt} {a : Option Addr} {c base : Nat} {r : Rec} (h : Mr w wx B a c r) (k : ∀ Y, Y < base → wy.heap[Y]? = wx.heap[Y]?) (hb : w.heap.size + 2 < base) (bel : Below w.heap.size w wy) : Mr w wy B a c r :=
  ⟨(k _ (by omega)).trans h.b, (k _ (by omega)).trans h.rc, (k _ (by omega)).trans h.z, bel⟩
theorem Mr.turned {w wx wy : World} {B : Bt} {a : Option Addr} {c R : Nat} {r : Rec} (h : Mr w wx B a c r) (t : Turned R wx wy) (hR : w.heap.size + 2 < R) : Mr w wy B a c r :=
  ⟨h.b.turned t (by omega), (t.block _ (by omega)).trans h.rc, h.z.turned t (by omega), t.under h.bel (by omega)⟩
theorem Mr.made (w : World) (B : Bt) (a : Option Addr) (c : Nat) (r : Rec) : ∃ W, W = ((w.alloc (.cells (bCells B.r B.e B.f B.t B.o a B.es.length c) 24)).alloc (.cells #[.int .i64 r.k, .int .i64 r.q, .int .i64 r.e, .int .i64 r.p, .int .i64 r.v.k, .int .i64 r.v.p, .int .i64 r.v.i, .int .i64 r.v.b, .int .i64 r.v.he, .int .i64 r.v.hn] 30)).alloc (.cells (bCells 0 0 0 0 0 none 0 0) 24) ∧ Mr w W B a c r := by
  have h0 := bBlock.new w B.r B.e B.f B.t B.o a B.es.length c
  have h1 := heap_alloc_new (w.alloc (.cells (bCells B.r B.e B.f B.t B.o a B.es.length c) 24)) (.cells #[.int .i64 r.k, .int .i64 r.q, .int .i64 r.e, .int .i64 r.p, .int .i64 r.v.k, .int .i64 r.v.p, .int .i64 r.v.i, .int .i64 r.v.b, .int .i64 r.v.he, .int .i64 r.v.hn] 30)
  have h2 := bBlock.new ((w.alloc (.cells (bCells B.r B.e B.f B.t B.o a B.es.length c) 24)).alloc (.cells #[.int .i64 r.k, .int .i64 r.q, .int .i64 r.e, .int .i64 r.p, .int .i64 r.v.k, .int .i64 r.v.p, .int .i64 r.v.i, .int .i64 r.v.b, .int .i64 r.v.he, .int .i64 r.v.hn] 30)) 0 0 0 0 0 none 0 0
  have s1 : (w.alloc (.cells (bCells B.r B.e B.f B.t B.o a B.es.length c) 24)).heap.size = w.heap.size + 1 := by simp
  have s2 : ((w.alloc (.cells (bCells B.r B.e B.f B.t B.o a B.es.length c) 24)).alloc (.cells #[.int .i64 r.k, .int .i64 r.q, .int .i64 r.e, .int .i64 r.p, .int .i64 r.v.k, .int .i64 r.v.p, .int .i64 r.v.i, .int .i64 r.v.b, .int .i64 r.v.he, .int .i64 r.v.hn] 30)).heap.size = w.heap.size + 2 := by simp
  rw [s1] at h1
  rw [s2] at h2
  exact ⟨_, rfl, (h0.next (below1 _ _)).next (below1 _ _), ((below1 _ _).block _ (by rw [s2]; omega)).trans h1, h2, Below.next (Below.next (below1 _ _) (below1 _ _)) (below1 _ _)⟩
end Go.Proofs.YtcdopnkabbfooaaGreat

namespace Go.Proofs.YtcdopnkabbfooaaGreat
open Go.RowKit

/-- what a deed answers: no berth, or one whose events are a row of its own. -/
def DeedR (w' : World) (base : Nat) (x : Ending) (o : Option Bt) : Prop :=
  match o with
  | none => x = .returned (.tuple #[bVal 0 0 0 0 0 none 0 0, .bool false])
  | some D => ∃ a c, x = .returned (.tuple #[bVal D.r D.e D.f D.t D.o a D.es.length c, .bool true]) ∧ w'.ownsRow base 28 6 (.slice a D.es.length c) D.es.length ((evFlat D.es).map (Value.int .i64))
def createOf (B : Bt) (r : Rec) : Option Bt := if B.r = 0 ∧ B.e < r.e then some ⟨1, r.e, 0, 0, 0, []⟩ else none
def forgetD (B : Bt) : Bt := ⟨0, B.e, 0, 0, 0, []⟩
theorem ret_create {W : World} {R : Nat} {r e f t o : Int} {a : Option Addr} {n c : Nat} {ok : Bool} {tmps : Array Value} (d : bBlock W R r e f t o a n c) (t4 : tmps[4]? = some (.pointer (some ⟨R, 0, none⟩))) (t5 : tmps[5]? = some (.bool ok)) :
    (results Tryz.f57 tmps).run Tryz.prog W = .ok (.tuple #[bVal r e f t o a n c, .bool ok]) W := by
  simp [results, Tryz.results57, t4, t5, asAddr, load_berth d]
theorem ret_forget {W : World} {R : Nat} {r e f t o : Int} {a : Option Addr} {n c : Nat} {ok : Bool} {tmps : Array Value} (d : bBlock W R r e f t o a n c) (t4 : tmps[4]? = some (.pointer (some ⟨R, 0, none⟩))) (t5 : tmps[5]? = some (.bool ok)) :
    (results Tryz.f63 tmps).run Tryz.prog W = .ok (.tuple #[bVal r e f t o a n c, .bool ok]) W := by
  simp [results, Tryz.results63, t4, t5, asAddr, load_berth d]
set_option maxRecDepth 20000 in
set_option maxHeartbeats 4000000 in
theorem create_deed (B : Bt) (a : Option Addr) (c : Nat) (r : Rec) (w : World) : Calls Tryz.prog 57 #[bVal B.r B.e B.f B.t B.o a B.es.length c, recIn r] w fun x w' => DeedR w' w.heap.size x (createOf B r) ∧ Below w.heap.size w w' := by
  go_enter Tryz.func57, Tryz.ntmps57
  go_upto_region 1 with fail
  obtain ⟨W1, hW1, M1⟩ := Mr.made w B a c r
  rw [← hW1]
  clear hW1
  obtain ⟨x0, x1, x2, x3, x4, x5⟩ := M1.b.cells
  obtain ⟨r0, r1, r2, r3, r4, r5, r6, r7, r8, r9⟩ := M1.rc.cells
  obtain ⟨z0, z1, z2, z3, z4, z5⟩ := M1.z.cells
  have zf := M1.z.free
  have HM := veil M1
  clear M1
  by_cases h1 : B.r = 0
  · have e1 : (B.r != 0) = false := by simp [h1]
    by_cases h2 : B.e < r.e
    · have e2 : ¬ r.e ≤ B.e := by omega
      have hc : createOf B r = some ⟨1, r.e, 0, 0, 0, []⟩ := by unfold createOf; rw [if_pos ⟨h1, h2⟩]
      have HCO := veil hc
      clear h1 h2 hc
      go_wp2
      obtain ⟨W4, hW4, d4, b4, _⟩ := b_stored (unveil HM).z (unveil HM).bel (show w.heap.size ≤ w.heap.size + 2 by omega) 1 r.e 0 0 0 none 0 0
      rw [← hW4]
      refine bodyPost_ret (ret_create d4 rfl rfl) rfl ⟨?_, b4⟩
      rw [unveil HCO]
      exact ⟨none, 0, rfl, World.ownsRow_nil _ _ _ _⟩
    · have e2 : r.e ≤ B.e := by omega
      have hc : createOf B r = none := by unfold createOf; rw [if_neg (fun h => h2 h.2)]
      have HCO := veil hc
      clear h1 h2 hc
      go_wp2
      obtain ⟨W4, hW4, d4, b4, _⟩ := b_stored (unveil HM).z (unveil HM).bel (show w.heap.size ≤ w.heap.size + 2 by omega) 0 0 0 0 0 none 0 0
      rw [← hW4]
      refine bodyPost_ret (ret_create d4 rfl rfl) rfl ⟨?_, b4⟩
      rw [unveil HCO]
      exact rfl
  · have e1 : (B.r != 0) = true := by simp [h1]
    have hc : createOf B r = none := by unfold createOf; rw [if_neg (fun h => h1 h.1)]
    have HCO := veil hc
    clear h1 hc
    go_wp2
    obtain ⟨W4, hW4, d4, b4, _⟩ := b_stored (unveil HM).z (unveil HM).bel (show w.heap.size ≤ w.heap.size + 2 by omega) 0 0 0 0 0 none 0 0
    rw [← hW4]
    refine bodyPost_ret (ret_create d4 rfl rfl) rfl ⟨?_, b4⟩
    rw [unveil HCO]
    exact rfl
set_option maxRecDepth 20000 in
set_option maxHeartbeats 4000000 in
theorem forget_deed (B : Bt) (a : Option Addr) (c : Nat) (r : Rec) (w : World) : Calls Tryz.prog 63 #[bVal B.r B.e B.f B.t B.o a B.es.length c, recIn r] w fun x w' => DeedR w' w.heap.size x (some (forgetD B)) ∧ Below w.heap.size w w' := by
  go_enter Tryz.func63, Tryz.ntmps63
  go_upto_region 1 with fail
  obtain ⟨W1, hW1, M1⟩ := Mr.made w B a c r
  rw [← hW1]
  clear hW1
  obtain ⟨x0, x1, x2, x3, x4, x5⟩ := M1.b.cells
  obtain ⟨z0, z1, z2, z3, z4, z5⟩ := M1.z.cells
  have zf := M1.z.free
  have HM := veil M1
  clear M1
  go_wp2
  obtain ⟨W4, hW4, d4, b4, _⟩ := b_stored (unveil HM).z (unveil HM).bel (show w.heap.size ≤ w.heap.size + 2 by omega) 0 B.e 0 0 0 none 0 0
  rw [← hW4]
  exact bodyPost_ret (ret_forget d4 rfl rfl) rfl ⟨⟨none, 0, rfl, World.ownsRow_nil _ _ _ _⟩, b4⟩
end Go.Proofs.YtcdopnkabbfooaaGreat

namespace Go.Proofs.YtcdopnkabbfooaaGreat
open Go.RowKit

theorem ret_add {W : World} {R : Nat} {r e f t o : Int} {a : Option Addr} {n c : Nat} {ok : Bool} {tmps : Array Value} (d : bBlock W R r e f t o a n c) (t4 : tmps[4]? = some (.pointer (some ⟨R, 0, none⟩))) (t5 : tmps[5]? = some (.bool ok)) :
    (results Tryz.f59 tmps).run Tryz.prog W = .ok (.tuple #[bVal r e f t o a n c, .bool ok]) W := by
  simp [results, Tryz.results59, t4, t5, asAddr, load_berth d]
theorem six_news (w : World) (x0 x1 x2 x3 x4 x5 : Int) (t : TypeId) : ∀ j u, ([x0, x1, x2, x3, x4, x5].map (Value.int .i64))[j]? = some u → (w.alloc (.cells #[.int .i64 x0, .int .i64 x1, .int .i64 x2, .int .i64 x3, .int .i64 x4, .int .i64 x5] t)).cell? ((⟨w.heap.size, 0, none⟩ : Addr).add j) = some u := by
  intro j u hj
  exact news6 w x0 x1 x2 x3 x4 x5 t j u hj
theorem grows_trans {w w1 w2 : World} {row : Option Nat} (h : w.grownBy w1 row) (g : w1.grownBy w2 row) : w.grownBy w2 row :=
  ⟨g.os.trans h.os, g.tape.trans h.tape, g.output.trans h.output, Nat.le_trans h.size g.size, fun k hk hne => (g.block k (Nat.lt_of_lt_of_le hk h.size) hne).trans (h.block k hk hne)⟩
theorem grows_turned {w w1 w2 : World} {row : Option Nat} {R : Nat} (h : w.grownBy w1 row) (t : Turned R w1 w2) (hR : w.heap.size ≤ R) : w.grownBy w2 row :=
  ⟨t.os.trans h.os, t.tape.trans h.tape, t.output.trans h.output, by rw [t.size]; exact h.size, fun k hk hne => (t.block k (by omega)).trans (h.block k hk hne)⟩
theorem below_grows {w w' : World} (row : Option Nat) (b : Below w.heap.size w w') : w.grownBy w' row := ⟨b.os, b.tape, b.output, b.size, fun k hk _ => b.block k hk⟩
/-- the boxes of a berth and of the answer, and the berth's own events; the row is the one that the events had at first. -/
structure Ow (w wx : World) (base : Nat) (row : Option Nat) (r e f t o : Int) (v : Option Addr) (n c : Nat) (es : List Ev) : Prop where
  b : bBlock wx w.heap.size r e f t o v n c
  z : bBlock wx (w.heap.size + 2) 0 0 0 0 0 none 0 0
  own : wx.ownsRow base 28 6 (.slice v n c) n ((evFlat es).map (Value.int .i64))
  bel : w.grownBy wx row
theorem Ow.made {w wx : World} {base : Nat} {B : Bt} {a : Option Addr} {c : Nat} {r : Rec} (h : Mr w wx B a c r) (hown : w.ownsRow base 28 6 (.slice a B.es.length c) B.es.length ((evFlat B.es).map (Value.int .i64))) : Ow w wx base (Value.slice a B.es.length c).ownBlock B.r B.e B.f B.t B.o a B.es.length c B.es :=
  ⟨h.b, h.z, own_still hown (fun g hg _ => h.bel.block g ((hown.lt g hg).2)), below_grows _ h.bel⟩
/-- one event more, put where the others stand or where there is room. -/
theorem Ow.added {w wx W : World} {base : Nat} {r e f t o : Int} {a v : Option Addr} {n c vc : Nat} {es : List Ev} {x : Ev} {ob : Obj} (h : Ow w wx base (Value.slice a n c).ownBlock r e f t o a n c es) (hown : w.ownsRow base 28 6 (.slice a n c) n ((evFlat es).map (Value.int .i64)))
    (own : W.ownsRow base 28 6 (.slice v (n + 1) vc) (n + 1) ((evFlat es).map (Value.int .i64) ++ [x.k, x.p, x.i, x.b, x.he, x.hn].map (Value.int .i64))) (g : (wx.alloc ob).grownBy W (Value.slice a n c).ownBlock) :
    bBlock W w.heap.size r e f t o a n c ∧ (∀ W3, Turned w.heap.size W W3 → ∀ r' e' f' t' o', bBlock W3 w.heap.size r' e' f' t' o' v (n + 1) vc → Ow w W3 base (Value.slice a n c).ownBlock r' e' f' t' o' v (n + 1) vc (es ++ [x])) := by
  have h1 := h.b.next (below1 wx ob)
  have h2 := h.z.next (below1 wx ob)
  have o1 : ∀ q, (Value.slice a n c).ownBlock = some q → q < w.heap.size := fun q hq => (hown.lt q hq).2
  have k1 : bBlock W w.heap.size r e f t o a n c := (g.block _ h1.lt (fun e => by have := o1 _ e.symm; omega)).trans h1
  have k2 : bBlock W (w.heap.size + 2) 0 0 0 0 0 none 0 0 := (g.block _ h2.lt (fun e => by have := o1 _ e.symm; omega)).trans h2
  have bel : w.grownBy W (Value.slice a n c).ownBlock := grows_trans (grows_trans h.bel (World.grownBy_alloc wx ob _)) g
  refine ⟨k1, fun W3 t3 r' e' f' t' o' b3 => ⟨b3, k2.turned t3 (by omega), ?_, grows_turned bel t3 (Nat.le_refl _)⟩⟩
  have e1 : (evFlat (es ++ [x])).map (Value.int .i64) = (evFlat es).map (Value.int .i64) ++ [x.k, x.p, x.i, x.b, x.he, x.hn].map (Value.int .i64) := by rw [evFlat_append, List.map_append]; rfl
  rw [e1]
  exact t3.owns own (own_off own k1 (by decide))
/-- the answer put into its box. -/
theorem Ow.out {w wx : World} {base : Nat} {row : Option Nat} {r e f t o : Int} {v : Option Addr} {n c : Nat} {es : List Ev} (h : Ow w wx base row r e f t o v n c es) : ∃ W, W = (((((wx.setCell ⟨w.heap.size + 2, 0, none⟩ (.int .i64 r)).setCell ⟨w.heap.size + 2, 1, none⟩ (.int .i64 e)).setCell ⟨w.heap.size + 2, 2, none⟩ (.int .i64 f)).setCell ⟨w.heap.size + 2, 3, none⟩ (.int .i64 t)).setCell ⟨w.heap.size + 2, 4, none⟩ (.int .i64 o)).setCell ⟨w.heap.size + 2, 5, none⟩ (.slice v n c) ∧ bBlock W (w.heap.size + 2) r e f t o v n c ∧ (n = es.length → DeedR W base (.returned (.tuple #[bVal r e f t o v n c, .bool true])) (some ⟨r, e, f, t, o, es⟩)) ∧ w.grownBy W row := by
  obtain ⟨W4, hW4, d4, _, t4⟩ := b_stored h.z (Below.refl _ _) (Nat.le_refl _) r e f t o v n c
  refine ⟨W4, hW4, d4, ?_, grows_turned h.bel t4 (by omega)⟩
  rintro rfl
  exact ⟨v, c, rfl, t4.owns h.own (own_off h.own h.z (by decide))⟩
set_option maxRecDepth 20000 in
set_option maxHeartbeats 4000000 in
theorem add_deed (B : Bt) (a : Option Addr) (c : Nat) (r : Rec) (w : World) (base : Nat) (hown : w.ownsRow base 28 6 (.slice a B.es.length c) B.es.length ((evFlat B.es).map (Value.int .i64))) (hb : base ≤ w.heap.size) (hs : B.es.length ≤ 2000) :
    Calls Tryz.prog 59 #[bVal B.r B.e B.f B.t B.o a B.es.length c, recIn r] w fun x w' => DeedR w' base x (some (B.more [r.v])) ∧ w.grownBy w' (Value.slice a B.es.length c).ownBlock := by
  obtain ⟨i6, hi6, hz60, hz61, hz62⟩ := info_of Tryz.infoEvent
  go_enter Tryz.func59, Tryz.ntmps59
  go_upto_region 1 with fail
  obtain ⟨W1, hW1, M1⟩ := Mr.made w B a c r
  rw [← hW1]
  clear hW1
  have hz1 := block_lt M1.z
  have O1 := Ow.made M1 hown
  obtain ⟨x0, x1, x2, x3, x4, x5⟩ := M1.b.cells
  obtain ⟨r0, r1, r2, r3, r4, r5, r6, r7, r8, r9⟩ := M1.rc.cells
  have g1 : B.es.length + 1 ≤ maxLen := by unfold maxLen; omega
  have g2 : (B.es.length + 1) * 48 ≤ 140737488355328 := by omega
  have g3 : base ≤ W1.heap.size := by omega
  have g4 := six_news W1 r.v.k r.v.p r.v.i r.v.b r.v.he r.v.hn 28
  have g5 := O1.own.alloc (.cells #[.int .i64 r.v.k, .int .i64 r.v.p, .int .i64 r.v.i, .int .i64 r.v.b, .int .i64 r.v.he, .int .i64 r.v.hn] 28)
  have G1 := veil g1
  have G2 := veil g2
  have G3 := veil g3
  have G4 := veil g4
  have G5 := veil g5
  have HO1 := veil O1
  have HOW := veil hown
  clear g1 g2 g3 g4 g5 M1 O1 hown
  go_upto_region 2 with (at_builtin; refine wpList_append_own _ rfl (.tmp 7) (.tmp 10) 22 rfl base 28 i6 _ 6 48 Tryz.underlying22 hi6 hz60 hz61 hz62 rfl (by decide) (.slice a B.es.length c) B.es.length ((evFlat B.es).map (Value.int .i64)) rfl (unveil G5) ⟨W1.heap.size, 0, none⟩ 1 1 ([r.v.k, r.v.p, r.v.i, r.v.b, r.v.he, r.v.hn].map (Value.int .i64)) rfl rfl (unveil G4) (ints_oneCell .i64 _) (unveil G1) (unveil G2) (by have := unveil G3; simp; omega) ?_; intro v2 W2 own2 grow2 _; obtain ⟨a2, c2, rfl⟩ := own_form own2; obtain ⟨k2, K2⟩ := (unveil HO1).added (unveil HOW) own2 grow2; clear x0 x1 x2 x3 x4 x5 r0 r1 r2 r3 r4 r5 r6 r7 r8 r9 own2 grow2; have x5 := k2.cells.2.2.2.2.2; have xf := k2.free 5; have HK := veil k2; have HK2 := veil K2; clear k2 K2)
  obtain ⟨W3, hW3, O3⟩ : ∃ W3, W3 = W2.setCell ⟨w.heap.size, 5, none⟩ (.slice a2 (B.es.length + 1) c2) ∧ Ow w W3 base (Value.slice a B.es.length c).ownBlock B.r B.e B.f B.t B.o a2 (B.es.length + 1) c2 (B.es ++ [r.v]) := by
    refine ⟨_, rfl, unveil HK2 _ (Turned.set _ _ _ _) _ _ _ _ _ ?_⟩
    have := unveil HK
    unfold bBlock at this ⊢
    rw [heap_setB this]
    simp
  rw [← hW3]
  clear hW3 x5 xf HK HK2
  obtain ⟨W4, hW4, d4, D4, b4⟩ := O3.out
  obtain ⟨y0, y1, y2, y3, y4, y5⟩ := O3.b.cells
  obtain ⟨z0, z1, z2, z3, z4, z5⟩ := O3.z.cells
  have zf := O3.z.free
  have D5 := veil (D4 (by simp))
  have HB4 := veil b4
  have HD4 := veil d4
  have HW4 := veil hW4
  clear hW4 d4 D4 b4 O3 HO1 HOW G1 G2 G3 G4 G5
  go_wp2
  rw [← unveil HW4]
  exact bodyPost_ret (ret_add (unveil HD4) rfl rfl) rfl ⟨unveil D5, unveil HB4⟩
end Go.Proofs.YtcdopnkabbfooaaGreat

namespace Go.Proofs.YtcdopnkabbfooaaGreat
open Go.RowKit

theorem ret_activate {W : World} {R : Nat} {r e f t o : Int} {a : Option Addr} {n c : Nat} {ok : Bool} {tmps : Array Value} (d : bBlock W R r e f t o a n c) (t4 : tmps[4]? = some (.pointer (some ⟨R, 0, none⟩))) (t5 : tmps[5]? = some (.bool ok)) :
    (results Tryz.f62 tmps).run Tryz.prog W = .ok (.tuple #[bVal r e f t o a n c, .bool ok]) W := by
  simp [results, Tryz.results62, t4, t5, asAddr, load_berth d]
theorem ret_seal {W : World} {R : Nat} {r e f t o : Int} {a : Option Addr} {n c : Nat} {ok : Bool} {tmps : Array Value} (d : bBlock W R r e f t o a n c) (t4 : tmps[4]? = some (.pointer (some ⟨R, 0, none⟩))) (t5 : tmps[5]? = some (.bool ok)) :
    (results Tryz.f60 tmps).run Tryz.prog W = .ok (.tuple #[bVal r e f t o a n c, .bool ok]) W := by
  simp [results, Tryz.results60, t4, t5, asAddr, load_berth d]
theorem Turned.drawn (R : Nat) (w : World) : Turned R w w.drew := ⟨rfl, rfl, rfl, rfl, fun _ _ => rfl⟩
theorem Ow.turned {w wx W : World} {base : Nat} {row : Option Nat} {r e f t o : Int} {a : Option Addr} {n c : Nat} {es : List Ev} (h : Ow w wx base row r e f t o a n c es) (t3 : Turned w.heap.size wx W) {r' e' f' t' o' : Int} (b : bBlock W w.heap.size r' e' f' t' o' a n c) : Ow w W base row r' e' f' t' o' a n c es :=
  ⟨b, h.z.turned t3 (by omega), t3.owns h.own (own_off h.own h.b (by decide)), grows_turned h.bel t3 (Nat.le_refl _)⟩
set_option maxRecDepth 20000 in
set_option maxHeartbeats 4000000 in
theorem activate_deed (B : Bt) (a : Option Addr) (c : Nat) (r : Rec) (w : World) (base : Nat) (hown : w.ownsRow base 28 6 (.slice a B.es.length c) B.es.length ((evFlat B.es).map (Value.int .i64))) (hb : base ≤ w.heap.size) (hs : B.es.length ≤ 2000) :
    Calls Tryz.prog 62 #[bVal B.r B.e B.f B.t B.o a B.es.length c, recIn r] w fun x w' => DeedR w' base x (some ⟨1, B.e, 0, B.t, B.o, B.es ++ [Ev.brk]⟩) ∧ w.grownBy w' (Value.slice a B.es.length c).ownBlock := by
  obtain ⟨i6, hi6, hz60, hz61, hz62⟩ := info_of Tryz.infoEvent
  go_enter Tryz.func62, Tryz.ntmps62
  go_upto_region 1 with fail
  obtain ⟨W0, hW0, M0⟩ := Mr.made w B a c r
  rw [← hW0]
  clear hW0
  have O0 := Ow.made M0 hown
  obtain ⟨x0, x1, x2, x3, x4, x5⟩ := M0.b.cells
  have xf := M0.b.free
  have HO0 := veil O0
  have HOW := veil hown
  clear M0 O0 hown
  go_upto_region 2 with fail
  obtain ⟨W1, hW1, O1⟩ : ∃ W1, W1 = (W0.setCell ⟨w.heap.size, 0, none⟩ (.int .i64 1)).setCell ⟨w.heap.size, 2, none⟩ (.int .i64 0) ∧ Ow w W1 base (Value.slice a B.es.length c).ownBlock 1 B.e 0 B.t B.o a B.es.length c B.es := by
    refine ⟨_, rfl, (unveil HO0).turned ((Turned.set _ _ _ _).trans (Turned.set _ _ _ _)) ?_⟩
    have := (unveil HO0).b
    unfold bBlock at this ⊢
    rw [heap_setB (heap_setB this)]
    simp
  rw [← hW1]
  clear hW1 x0 x1 x2 x3 x4 x5 xf HO0
  have hz1 := O1.z.lt
  obtain ⟨x0, x1, x2, x3, x4, x5⟩ := O1.b.cells
  have g1 : B.es.length + 1 ≤ maxLen := by unfold maxLen; omega
  have g2 : (B.es.length + 1) * 48 ≤ 140737488355328 := by omega
  have g3 : base ≤ W1.heap.size := by omega
  have g4 := six_news W1 4 0 0 0 0 0 28
  have g5 := O1.own.alloc (.cells #[.int .i64 4, .int .i64 0, .int .i64 0, .int .i64 0, .int .i64 0, .int .i64 0] 28)
  have G1 := veil g1
  have G2 := veil g2
  have G3 := veil g3
  have G4 := veil g4
  have G5 := veil g5
  have HO1 := veil O1
  clear g1 g2 g3 g4 g5 O1
  go_upto_region 3 with (at_builtin; refine wpList_append_own _ rfl (.tmp 9) (.tmp 11) 22 rfl base 28 i6 _ 6 48 Tryz.underlying22 hi6 hz60 hz61 hz62 rfl (by decide) (.slice a B.es.length c) B.es.length ((evFlat B.es).map (Value.int .i64)) rfl (unveil G5) ⟨W1.heap.size, 0, none⟩ 1 1 ([4, 0, 0, 0, 0, 0].map (Value.int .i64)) rfl rfl (unveil G4) (ints_oneCell .i64 _) (unveil G1) (unveil G2) (by have := unveil G3; simp; omega) ?_; intro v2 W2 own2 grow2 _; obtain ⟨a2, c2, rfl⟩ := own_form own2; obtain ⟨k2, K2⟩ := (unveil HO1).added (x := Ev.brk) (unveil HOW) own2 grow2; clear x0 x1 x2 x3 x4 x5 own2 grow2; have x5 := k2.cells.2.2.2.2.2; have xf := k2.free 5; have HK := veil k2; have HK2 := veil K2; clear k2 K2)
  obtain ⟨W3, hW3, O3⟩ : ∃ W3, W3 = W2.setCell ⟨w.heap.size, 5, none⟩ (.slice a2 (B.es.length + 1) c2) ∧ Ow w W3 base (Value.slice a B.es.length c).ownBlock 1 B.e 0 B.t B.o a2 (B.es.length + 1) c2 (B.es ++ [Ev.brk]) := by
    refine ⟨_, rfl, unveil HK2 _ (Turned.set _ _ _ _) _ _ _ _ _ ?_⟩
    have := unveil HK
    unfold bBlock at this ⊢
    rw [heap_setB this]
    simp
  rw [← hW3]
  clear hW3 x5 xf HK HK2
  obtain ⟨W4, hW4, d4, D4, b4⟩ := O3.out
  obtain ⟨y0, y1, y2, y3, y4, y5⟩ := O3.b.cells
  obtain ⟨z0, z1, z2, z3, z4, z5⟩ := O3.z.cells
  have zf := O3.z.free
  have D5 := veil (D4 (by simp))
  have HB4 := veil b4
  have HD4 := veil d4
  have HW4 := veil hW4
  clear hW4 d4 D4 b4 O3 HO1 HOW G1 G2 G3 G4 G5
  go_wp2
  rw [← unveil HW4]
  exact bodyPost_ret (ret_activate (unveil HD4) rfl rfl) rfl ⟨unveil D5, unveil HB4⟩
set_option maxRecDepth 20000 in
set_option maxHeartbeats 4000000 in
theorem seal_deed (B : Bt) (a : Option Addr) (c : Nat) (r : Rec) (w : World) (base : Nat) (hown : w.ownsRow base 28 6 (.slice a B.es.length c) B.es.length ((evFlat B.es).map (Value.int .i64))) :
    Calls Tryz.prog 60 #[bVal B.r B.e B.f B.t B.o a B.es.length c, recIn r] w fun x w' => DeedR w' base x (some ⟨3, B.e, B.f, r.p, B.o, B.es⟩) ∧ w.grownBy w' (Value.slice a B.es.length c).ownBlock := by
  go_enter Tryz.func60, Tryz.ntmps60
  go_upto_region 1 with fail
  obtain ⟨W0, hW0, M0⟩ := Mr.made w B a c r
  rw [← hW0]
  clear hW0
  have O0 := Ow.made M0 hown
  obtain ⟨x0, x1, x2, x3, x4, x5⟩ := M0.b.cells
  obtain ⟨r0, r1, r2, r3, r4, r5, r6, r7, r8, r9⟩ := M0.rc.cells
  have xf := M0.b.free
  have HO0 := veil O0
  clear M0 O0 hown
  go_region
  obtain ⟨W3, hW3, O3⟩ : ∃ W3, W3 = ((W0.setCell ⟨w.heap.size, 0, none⟩ (.int .i64 3)).setCell ⟨w.heap.size, 3, none⟩ (.int .i64 r.p)).drew ∧ Ow w W3 base (Value.slice a B.es.length c).ownBlock 3 B.e B.f r.p B.o a B.es.length c B.es := by
    refine ⟨_, rfl, (unveil HO0).turned (((Turned.set _ _ _ _).trans (Turned.set _ _ _ _)).trans (Turned.drawn _ _)) ?_⟩
    have := (unveil HO0).b
    unfold bBlock at this ⊢
    show ((W0.setCell ⟨w.heap.size, 0, none⟩ (.int .i64 3)).setCell ⟨w.heap.size, 3, none⟩ (.int .i64 r.p)).heap[w.heap.size]? = _
    rw [heap_setB (heap_setB this)]
    simp
  rw [← hW3]
  clear hW3 x0 x1 x2 x3 x4 x5 r0 r1 r2 r3 r4 r5 r6 r7 r8 r9 xf HO0
  obtain ⟨W4, hW4, d4, D4, b4⟩ := O3.out
  obtain ⟨y0, y1, y2, y3, y4, y5⟩ := O3.b.cells
  obtain ⟨z0, z1, z2, z3, z4, z5⟩ := O3.z.cells
  have zf := O3.z.free
  have D5 := veil (D4 rfl)
  have HB4 := veil b4
  have HD4 := veil d4
  have HW4 := veil hW4
  clear hW4 d4 D4 b4 O3
  go_wp2
  rw [← unveil HW4]
  exact bodyPost_ret (ret_seal (unveil HD4) rfl rfl) rfl ⟨unveil D5, unveil HB4⟩
end Go.Proofs.YtcdopnkabbfooaaGreat

namespace Go.Proofs.YtcdopnkabbfooaaGreat
open Go.RowKit

theorem ret_begin {W : World} {R : Nat} {r e f t o : Int} {a : Option Addr} {n c : Nat} {ok : Bool} {tmps : Array Value} (d : bBlock W R r e f t o a n c) (t4 : tmps[4]? = some (.pointer (some ⟨R, 0, none⟩))) (t5 : tmps[5]? = some (.bool ok)) :
    (results Tryz.f61 tmps).run Tryz.prog W = .ok (.tuple #[bVal r e f t o a n c, .bool ok]) W := by
  simp [results, Tryz.results61, t4, t5, asAddr, load_berth d]
/-- a berth whose events stand in a row of events. -/
structure EvIn (w : World) (D : Bt) (a : Option Addr) (c : Nat) : Prop where
  inn : BIn w D a c
  ty : ∀ x, a = some x → 0 < D.es.length → ∃ cs, w.heap[x.block]? = some (.cells cs 28 (0, 0))
theorem EvIn.turned {w w' : World} {D : Bt} {a : Option Addr} {c R : Nat} {cs : Array Value} {t : TypeId} (h : EvIn w D a c) (tn : Turned R w w') (hR : w.heap[R]? = some (.cells cs t (0, 0))) (ht : 28 ≠ t) : EvIn w' D a c :=
  ⟨h.inn.turned tn (fun x hx h0 => by obtain ⟨cs', e⟩ := h.ty x hx h0; exact types_apart e hR ht), fun x hx h0 => by obtain ⟨cs', e⟩ := h.ty x hx h0; exact ⟨cs', (tn.block _ (types_apart e hR ht)).trans e⟩⟩
theorem EvIn.next {w w' : World} {D : Bt} {a : Option Addr} {c : Nat} (h : EvIn w D a c) (b : Below w.heap.size w w') : EvIn w' D a c :=
  ⟨h.inn.next b, fun x hx h0 => by obtain ⟨cs', e⟩ := h.ty x hx h0; exact ⟨cs', (b.block _ (block_lt e)).trans e⟩⟩
/-- what a deed answers: no berth, or one whose events are a row. -/
def DeedB (w' : World) (x : Ending) (o : Option Bt) : Prop :=
  match o with
  | none => x = .returned (.tuple #[bVal 0 0 0 0 0 none 0 0, .bool false])
  | some D => ∃ a c, x = .returned (.tuple #[bVal D.r D.e D.f D.t D.o a D.es.length c, .bool true]) ∧ EvIn w' D a c
theorem own_in {w : World} {base : Nat} {D : Bt} {a : Option Addr} {c : Nat} (h : w.ownsRow base 28 6 (.slice a D.es.length c) D.es.length ((evFlat D.es).map (Value.int .i64))) (hw : ∀ u ∈ evFlat D.es, (Lit.int .i64 u).wf = true) : EvIn w D a c := by
  obtain ⟨a', c', e1, r1, h1, _, h3, _⟩ := RowK.ofMany h hw
  cases e1
  refine ⟨⟨r1, h1, h3⟩, fun x hx h0 => ?_⟩
  rcases h.2 with ⟨e, _⟩ | ⟨g1, cap, cur, e, _, g3, _⟩
  · have e1 : a = none := by injection e
    rw [e1] at hx; cases hx
  · have e1 : a = some ⟨g1, 0, none⟩ := by injection e
    rw [e1] at hx; cases hx; exact ⟨_, g3⟩
theorem DeedR.b {w' : World} {base : Nat} {x : Ending} {o : Option Bt} (h : DeedR w' base x o) (hw : ∀ D, o = some D → ∀ u ∈ evFlat D.es, (Lit.int .i64 u).wf = true) : DeedB w' x o := by
  cases o with
  | none => exact h
  | some D =>
    obtain ⟨a, c, rfl, own⟩ := h
    exact ⟨a, c, rfl, own_in own (hw D rfl)⟩
/-- a berth without its events. -/
def Bt.bare (B : Bt) : Bt := ⟨B.r, B.e, B.f, B.t, B.o, []⟩
theorem bare_ok {B : Bt} (ok : B.Ok) : B.bare.Ok := by
  refine ⟨?_, by simp [Bt.bare], St.zero, [], .nil⟩
  have := ok.stand
  unfold Bt.Stand standP at this
  show standP B.r B.e B.f B.t B.o 0
  unfold standP
  rcases this with h | h | h | h | h
  · exact .inl ⟨h.1, rfl, h.2.2⟩
  · exact .inr (.inl h)
  · exact .inr (.inr (.inl h))
  · exact .inr (.inr (.inr (.inl h)))
  · exact .inr (.inr (.inr (.inr h)))
theorem begin_bare {B : Bt} (ok : B.Ok) (ep fr : Int) : ∀ D er, beginOf B.bare ep fr = (D, er) → D.es = [] ∧ (¬ er = 0 → ¬ (beginOf B ep fr).2 = 0) ∧ (er = 0 → (beginOf B ep fr).2 = 0 ∧ (D.e = B.e → (beginOf B ep fr).1 = ⟨D.r, D.e, D.f, D.t, D.o, B.es⟩) ∧ (¬ D.e = B.e → (beginOf B ep fr).1 = D)) := by
  intro D er h
  have ok0 := bare_ok ok
  unfold beginOf at h ⊢
  rw [if_neg (fun g => g ok0)] at h
  rw [if_neg (fun g => g ok)]
  by_cases g : ¬ ((1 ≤ ep ∧ ep ≤ 1048576) ∧ (0 ≤ fr ∧ fr ≤ 4))
  · rw [if_pos g] at h ⊢
    obtain ⟨rfl, rfl⟩ := Prod.mk.inj h
    exact ⟨rfl, fun _ => by decide, fun g' => by cases g'⟩
  rw [if_neg g] at h ⊢
  by_cases g1 : B.r = 1 ∨ B.r = 2 ∨ B.r = 3
  · rw [if_pos (show B.bare.r = 1 ∨ B.bare.r = 2 ∨ B.bare.r = 3 from g1)] at h
    rw [if_pos g1]
    obtain ⟨rfl, rfl⟩ := Prod.mk.inj h
    exact ⟨rfl, fun _ => by decide, fun g' => by cases g'⟩
  rw [if_neg (show ¬ (B.bare.r = 1 ∨ B.bare.r = 2 ∨ B.bare.r = 3) from g1)] at h
  rw [if_neg g1]
  by_cases g2 : B.r = 4 ∧ B.e = ep ∧ B.f = fr
  · rw [if_pos (show B.bare.r = 4 ∧ B.bare.e = ep ∧ B.bare.f = fr from g2)] at h
    rw [if_pos g2]
    obtain ⟨rfl, rfl⟩ := Prod.mk.inj h
    exact ⟨rfl, fun g' => absurd rfl g', fun _ => ⟨rfl, fun _ => rfl, fun g' => absurd rfl g'⟩⟩
  rw [if_neg (show ¬ (B.bare.r = 4 ∧ B.bare.e = ep ∧ B.bare.f = fr) from g2)] at h
  rw [if_neg g2]
  by_cases g3 : ep ≤ B.e
  · rw [if_pos (show ep ≤ B.bare.e from g3)] at h
    rw [if_pos g3]
    obtain ⟨rfl, rfl⟩ := Prod.mk.inj h
    exact ⟨rfl, fun _ => by decide, fun g' => by cases g'⟩
  rw [if_neg (show ¬ (ep ≤ B.bare.e) from g3)] at h
  rw [if_neg g3]
  obtain ⟨rfl, rfl⟩ := Prod.mk.inj h
  exact ⟨rfl, fun g' => absurd rfl g', fun _ => ⟨rfl, fun g' => by simp only at g'; omega, fun _ => rfl⟩⟩
open Classical in
noncomputable def beginD (B : Bt) (r : Rec) : Option Bt := if (beginOf B r.e r.p).2 = 0 then some (beginOf B r.e r.p).1 else none
/-- the boxes of begin: the berth without its events, the record, the answer; the events. -/
structure Bg (w wx : World) (base : Nat) (B : Bt) (a : Option Addr) (c : Nat) (r : Rec) : Prop where
  b : bBlock wx w.heap.size B.r B.e B.f B.t B.o none 0 0
  rc : rcBlock wx (w.heap.size + 1) r
  z : bBlock wx (w.heap.size + 2) 0 0 0 0 0 none 0 0
  own : wx.ownsRow base 28 6 (.slice a B.es.length c) B.es.length ((evFlat B.es).map (Value.int .i64))
  bel : Below w.heap.size w wx
theorem Bg.next {w wx wy : World} {base : Nat} {B : Bt} {a : Option Addr} {c : Nat} {r : Rec} (h : Bg w wx base B a c r) (b : Below wx.heap.size wx wy) : Bg w wy base B a c r :=
  ⟨h.b.next b, (b.block _ (block_lt h.rc)).trans h.rc, h.z.next b, own_still h.own (fun g hg _ => b.block g ((h.own.lt g hg).2)), Below.trans h.bel (b.mono (by have := h.b.lt; omega))⟩
theorem Bg.made {w wx : World} {base : Nat} {B : Bt} {a : Option Addr} {c : Nat} {r : Rec} (h : Mr w wx B a c r) (hown : w.ownsRow base 28 6 (.slice a B.es.length c) B.es.length ((evFlat B.es).map (Value.int .i64))) : ∃ W, W = wx.setCell ⟨w.heap.size, 5, none⟩ (.slice none 0 0) ∧ Bg w W base B a c r := by
  have t := Turned.set w.heap.size 5 wx (.slice none 0 0)
  refine ⟨_, rfl, ?_, (t.block _ (by omega)).trans h.rc, h.z.turned t (by omega), ?_, t.under h.bel (Nat.le_refl _)⟩
  · have := h.b
    unfold bBlock at this ⊢
    rw [heap_setB this]
    simp
  · exact own_still hown (fun g hg _ => by have := (hown.lt g hg).2; rw [t.block g (by omega)]; exact h.bel.block g this)
set_option maxRecDepth 20000 in
set_option maxHeartbeats 4000000 in
theorem begin_deed (B : Bt) (a : Option Addr) (c : Nat) (r : Rec) (w : World) (base : Nat) (hown : w.ownsRow base 28 6 (.slice a B.es.length c) B.es.length ((evFlat B.es).map (Value.int .i64))) (ok : B.Ok) (hw : ∀ u ∈ evFlat B.es, (Lit.int .i64 u).wf = true) :
    Calls Tryz.prog 61 #[bVal B.r B.e B.f B.t B.o a B.es.length c, recIn r] w fun x w' => DeedB w' x (beginD B r) ∧ Below w.heap.size w w' := by
  obtain ⟨D, er, hD⟩ : ∃ D er, beginOf B.bare r.e r.p = (D, er) := ⟨_, _, rfl⟩
  obtain ⟨hes, hno, hyes⟩ := begin_bare ok r.e r.p D er hD
  have HB : ∀ w, Calls Tryz.prog 47 #[bVal B.r B.e B.f B.t B.o none 0 0, .int .i64 r.e, .int .i64 r.p] w fun x w' => ∃ a' c', x = .returned (.tuple #[bVal D.r D.e D.f D.t D.o a' 0 c', .int .i64 er]) ∧ BIn w' D a' c' ∧ Below w.heap.size w w' := fun w => (bbegin_any B.bare none 0 r.e r.p w ⟨RowK.nil _ _ _, Nat.le_refl _, fun _ => rfl⟩).mono fun x w' ⟨y, B', er', h1, h2, h3, h4⟩ => by
    rw [hD] at h2
    obtain ⟨rfl, rfl⟩ := Prod.mk.inj h2
    obtain ⟨a', c', rfl, i3, _⟩ := h3
    rw [hes] at h1
    exact ⟨a', c', h1, i3, h4⟩
  have HNO := veil hno
  have HYES := veil hyes
  have HES := veil hes
  have HWF := veil hw
  have HOK := veil ok
  clear hD hes hno hyes hw ok
  go_enter Tryz.func61, Tryz.ntmps61
  go_upto_region 1 with fail
  obtain ⟨W1, hW1, M1⟩ := Mr.made w B a c r
  rw [← hW1]
  clear hW1
  obtain ⟨W2, hW2, G2⟩ := Bg.made M1 hown
  obtain ⟨x0, x1, x2, x3, x4, x5⟩ := M1.b.cells
  have xf := M1.b.free
  have HW2 := veil hW2
  have HG2 := veil G2
  clear hW2 G2 M1 hown
  go_upto_region 3 with fail
  rw [← unveil HW2]
  clear HW2 x0 x1 x2 x3 x4 x5 xf
  have hc := HB W2
  obtain ⟨x0, x1, x2, x3, x4, x5⟩ := (unveil HG2).b.cells
  obtain ⟨r0, r1, r2, r3, r4, r5, r6, r7, r8, r9⟩ := (unveil HG2).rc.cells
  clear HB
  go_upto_region 4 with (go_at_call 47; refine hc.mono ?_; rintro x W3 ⟨a', c', rfl, i3, b3⟩; clear hc x0 x1 x2 x3 x4 x5 r0 r1 r2 r3 r4 r5 r6 r7 r8 r9; have HI3 := veil i3; have HG3 := veil ((unveil HG2).next b3); clear i3 b3)
  obtain ⟨W4, hW4, d4, b4⟩ : ∃ W4, W4 = W3.alloc (.cells (bCells D.r D.e D.f D.t D.o a' 0 c') 24) ∧ bBlock W4 W3.heap.size D.r D.e D.f D.t D.o a' 0 c' ∧ Below W3.heap.size W3 W4 := ⟨_, rfl, bBlock.new _ _ _ _ _ _ _ _ _, below1 _ _⟩
  rw [← hW4]
  have G4 := (unveil HG3).next b4
  have I4 := (unveil HI3).next b4
  have hlt : w.heap.size + 2 < W3.heap.size := (unveil HG3).z.lt
  have HG4 := veil G4
  have HI4 := veil I4
  have HD4 := veil d4
  clear hW4 HG3 HG2 HI3 G4 I4
  by_cases h0 : er = 0
  case neg =>
    have e1 : (er != 0) = true := by simp [h0]
    have HR : beginD B r = none := if_neg (unveil HNO h0)
    have HRV := veil HR
    obtain ⟨z0, z1, z2, z3, z4, z5⟩ := (unveil HG4).z.cells
    have zf := (unveil HG4).z.free
    clear h0 HR b4 d4
    go_wp2
    obtain ⟨W5, hW5, d5, b5, _⟩ := b_stored (unveil HG4).z (unveil HG4).bel (show w.heap.size ≤ w.heap.size + 2 by omega) 0 0 0 0 0 none 0 0
    rw [← hW5]
    refine bodyPost_ret (ret_begin d5 rfl rfl) rfl ⟨?_, b5⟩
    rw [unveil HRV]
    exact rfl
  case pos =>
  have e1 : (er != 0) = false := by simp [h0]
  obtain ⟨y0, y1, y2⟩ := unveil HYES h0
  have HR : beginD B r = some (beginOf B r.e r.p).1 := if_pos y0
  have HRV := veil HR
  have Y1 := veil y1
  have Y2 := veil y2
  clear h0 HR y0 y1 y2 b4
  obtain ⟨x0, x1, x2, x3, x4, x5⟩ := (unveil HG4).b.cells
  obtain ⟨k0, k1, k2, k3, k4, k5⟩ := d4.cells
  have kf := d4.free
  clear d4
  by_cases h1 : D.e = B.e
  case neg =>
    have e2 : (D.e == B.e) = false := by simp [h1]
    have HD := veil (unveil Y2 h1)
    obtain ⟨z0, z1, z2, z3, z4, z5⟩ := (unveil HG4).z.cells
    have zf := (unveil HG4).z.free
    clear h1 Y1 Y2
    go_wp2
    obtain ⟨W5, hW5, d5, b5, t5⟩ := b_stored (unveil HG4).z (unveil HG4).bel (show w.heap.size ≤ w.heap.size + 2 by omega) D.r D.e D.f D.t D.o a' 0 c'
    rw [← hW5]
    refine bodyPost_ret (ret_begin d5 rfl rfl) rfl ⟨?_, b5⟩
    rw [unveil HRV, unveil HD]
    refine ⟨a', c', ?_, (unveil HI4).turned t5 (fun x _ h => by rw [unveil HES] at h; cases h), fun x _ h => by rw [unveil HES] at h; cases h⟩
    rw [unveil HES]
    rfl
  case pos =>
  have e2 : (D.e == B.e) = true := by simp [h1]
  have HD := veil (unveil Y1 h1)
  clear h1 Y1 Y2
  go_upto_region 8 with fail
  have hlt' := (unveil HD4).lt
  have t5 := Turned.set W3.heap.size 5 W4 (.slice a B.es.length c)
  obtain ⟨W5, hW5, d5⟩ : ∃ W5, W5 = W4.setCell ⟨W3.heap.size, 5, none⟩ (.slice a B.es.length c) ∧ bBlock W5 W3.heap.size D.r D.e D.f D.t D.o a B.es.length c := by
    refine ⟨_, rfl, ?_⟩
    have := unveil HD4
    unfold bBlock at this ⊢
    rw [heap_setB this]
    simp
  rw [← hW5] at t5 ⊢
  have z5 := (unveil HG4).z.turned t5 (by omega)
  have o5 := t5.owns (unveil HG4).own (own_off (unveil HG4).own (unveil HD4) (by decide))
  have b5 := t5.under (unveil HG4).bel (by omega)
  clear hW5 x0 x1 x2 x3 x4 x5 k0 k1 k2 k3 k4 k5 kf e1 e2
  obtain ⟨k0, k1, k2, k3, k4, k5⟩ := d5.cells
  obtain ⟨z0, z1, z2, z3, z4, z6⟩ := z5.cells
  have zf := z5.free
  have Z5 := veil z5
  have O5 := veil o5
  have B5 := veil b5
  clear d5 z5 o5 b5 t5 HD4 HG4 HI4
  go_wp2
  obtain ⟨W6, hW6, d6, b6, t6⟩ := b_stored (unveil Z5) (unveil B5) (show w.heap.size ≤ w.heap.size + 2 by omega) D.r D.e D.f D.t D.o a B.es.length c
  rw [← hW6]
  refine bodyPost_ret (ret_begin d6 rfl rfl) rfl ⟨?_, b6⟩
  rw [unveil HRV, unveil HD]
  exact ⟨a, c, rfl, own_in (D := ⟨D.r, D.e, D.f, D.t, D.o, B.es⟩) (t6.owns (unveil O5) (own_off (unveil O5) (unveil Z5) (by decide))) (unveil HWF)⟩
end Go.Proofs.YtcdopnkabbfooaaGreat

namespace Go.Proofs.YtcdopnkabbfooaaGreat
open Go.RowKit

theorem ret_asf {W : World} {R : Nat} {r e f t o : Int} {a : Option Addr} {n c : Nat} {ok : Bool} {tmps : Array Value} (d : bBlock W R r e f t o a n c) (t4 : tmps[6]? = some (.pointer (some ⟨R, 0, none⟩))) (t5 : tmps[7]? = some (.bool ok)) :
    (results Tryz.f78 tmps).run Tryz.prog W = .ok (.tuple #[bVal r e f t o a n c, .bool ok]) W := by
  simp [results, Tryz.results78, t4, t5, asAddr, load_berth d]
/-- a berth or none, as a berth and a word. -/
def optB (o : Option Bt) : Bt := o.getD Bt.zero
theorem DeedB.parts {w' : World} {x : Ending} {o : Option Bt} (h : DeedB w' x o) : ∃ a c, x = .returned (.tuple #[bVal (optB o).r (optB o).e (optB o).f (optB o).t (optB o).o a (optB o).es.length c, .bool o.isSome]) ∧ EvIn w' (optB o) a c ∧ (o = none → a = none ∧ c = 0) := by
  cases o with
  | none => exact ⟨none, 0, h, ⟨⟨RowK.nil _ _ _, Nat.le_refl _, fun _ => rfl⟩, fun x hx => by cases hx⟩, fun _ => ⟨rfl, rfl⟩⟩
  | some D => obtain ⟨a, c, h1, h2⟩ := h; exact ⟨a, c, h1, h2, fun h => by cases h⟩
theorem DeedB.of {w' : World} {o : Option Bt} {a : Option Addr} {c : Nat} (h : EvIn w' (optB o) a c) (hn : o = none → a = none ∧ c = 0) : DeedB w' (.returned (.tuple #[bVal (optB o).r (optB o).e (optB o).f (optB o).t (optB o).o a (optB o).es.length c, .bool o.isSome])) o := by
  cases o with
  | none => obtain ⟨rfl, rfl⟩ := hn rfl; rfl
  | some D => exact ⟨a, c, rfl, h⟩
theorem Mr.grown {w wx wy : World} {B : Bt} {a : Option Addr} {c : Nat} {r : Rec} {row : Option Nat} (h : Mr w wx B a c r) (g : wx.grownBy wy row) (hr : ∀ k, row = some k → k < w.heap.size) : bBlock wy (w.heap.size + 2) 0 0 0 0 0 none 0 0 :=
  (g.block _ h.z.lt (fun e => by have := hr _ e.symm; omega)).trans h.z
def asD (B : Bt) (r : Rec) (role : Int) (o : Option Bt) : Option Bt := if B.r = role ∧ B.e = r.e then o else none
set_option maxRecDepth 20000 in
set_option maxHeartbeats 4000000 in
theorem asf_deed (B : Bt) (a : Option Addr) (c : Nat) (r : Rec) (w : World) (P Q N : Nat) (role : Int) (o : Option Bt) (hP : w.cell? ⟨P, 0, none⟩ = some (.int .i64 role)) (hQ : w.cell? ⟨Q, 0, none⟩ = some (.func (.func N) #[] #[])) (hr : ∀ k, (Value.slice a B.es.length c).ownBlock = some k → k < w.heap.size)
    (heg : ∀ args w, (callFunc N args).run Tryz.prog w = .ok (.enter N args) w)
    (HN : ∀ W, Below w.heap.size w W → Calls Tryz.prog N #[bVal B.r B.e B.f B.t B.o a B.es.length c, recIn r] W fun x w' => DeedB w' x o ∧ W.grownBy w' (Value.slice a B.es.length c).ownBlock) :
    Calls Tryz.prog 78 #[bVal B.r B.e B.f B.t B.o a B.es.length c, recIn r, .pointer (some ⟨P, 0, none⟩), .pointer (some ⟨Q, 0, none⟩)] w fun x w' => DeedB w' x (asD B r role o) ∧ w.grownBy w' (Value.slice a B.es.length c).ownBlock := by
  have lP := World.block_lt_of_cell? w _ hP
  have lQ := World.block_lt_of_cell? w _ hQ
  have HNV := veil HN
  have HR := veil hr
  clear HN hr
  go_enter Tryz.func78, Tryz.ntmps78
  go_upto_region 1 with fail
  obtain ⟨W1, hW1, M1⟩ := Mr.made w B a c r
  rw [← hW1]
  clear hW1
  have p1 : W1.cell? ⟨P, 0, none⟩ = some (.int .i64 role) := (M1.bel.cell (p := ⟨P, 0, none⟩) lP).trans hP
  have q1 : W1.cell? ⟨Q, 0, none⟩ = some (.func (.func N) #[] #[]) := (M1.bel.cell (p := ⟨Q, 0, none⟩) lQ).trans hQ
  obtain ⟨x0, x1, x2, x3, x4, x5⟩ := M1.b.cells
  obtain ⟨r0, r1, r2, r3, r4, r5, r6, r7, r8, r9⟩ := M1.rc.cells
  have HM := veil M1
  clear M1 hP hQ lP lQ
  by_cases h : B.r = role ∧ B.e = r.e
  case neg =>
    have hd : asD B r role o = none := if_neg h
    have HD := veil hd
    obtain ⟨z0, z1, z2, z3, z4, z5⟩ := (unveil HM).z.cells
    have zf := (unveil HM).z.free
    have e0 : (B.r != role) = true ∨ ((B.r != role) = false ∧ (B.e != r.e) = true) := by
      by_cases h1 : B.r = role
      · exact .inr ⟨by simp [h1], by simp; exact fun h2 => h ⟨h1, h2⟩⟩
      · exact .inl (by simp [h1])
    clear h hd
    rcases e0 with e1 | ⟨e1, e2⟩
    all_goals
      go_wp2
      obtain ⟨W4, hW4, d4, b4, _⟩ := b_stored (unveil HM).z (unveil HM).bel (show w.heap.size ≤ w.heap.size + 2 by omega) 0 0 0 0 0 none 0 0
      rw [← hW4]
      refine bodyPost_ret (ret_asf d4 rfl rfl) rfl ⟨?_, below_grows _ b4⟩
      rw [unveil HD]
      exact rfl
  case pos =>
  have hd : asD B r role o = o := if_pos h
  have HD := veil hd
  have e1 : (B.r != role) = false := by simp [h.1]
  have e2 : (B.e != r.e) = false := by simp [h.2]
  clear h hd
  go_wp2_with (go_at_fn N; refine (unveil HNV _ (unveil HM).bel).mono ?_; rintro x W3 ⟨d3, g3⟩; obtain ⟨a3, c3, rfl, i3, n3⟩ := d3.parts; have zb := (unveil HM).grown g3 (unveil HR); have zf := zb.free; obtain ⟨z0, z1, z2, z3, z4, z5⟩ := zb.cells; have HZ := veil zb; have HI := veil i3; have HN3 := veil n3; have HG3 := veil (grows_trans (below_grows _ (unveil HM).bel) g3); clear d3 g3 zb i3 n3 x0 x1 x2 x3 x4 x5 r0 r1 r2 r3 r4 r5 r6 r7 r8 r9 p1 q1)
  obtain ⟨W4, hW4, d4, _, t4⟩ := b_stored (unveil HZ) (Below.refl _ _) (Nat.le_refl _) (optB o).r (optB o).e (optB o).f (optB o).t (optB o).o a3 (optB o).es.length c3
  rw [← hW4]
  refine bodyPost_ret (ret_asf d4 rfl rfl) rfl ⟨?_, grows_turned (unveil HG3) t4 (by omega)⟩
  rw [unveil HD]
  exact DeedB.of ((unveil HI).turned t4 (unveil HZ) (by decide)) (unveil HN3)
theorem ret_alonef {W : World} {R : Nat} {r e f t o : Int} {a : Option Addr} {n c : Nat} {ok : Bool} {tmps : Array Value} (d : bBlock W R r e f t o a n c) (t4 : tmps[5]? = some (.pointer (some ⟨R, 0, none⟩))) (t5 : tmps[6]? = some (.bool ok)) :
    (results Tryz.f77 tmps).run Tryz.prog W = .ok (.tuple #[bVal r e f t o a n c, .bool ok]) W := by
  simp [results, Tryz.results77, t4, t5, asAddr, load_berth d]
def aloneD (r : Rec) (o : Option Bt) : Option Bt := if r.p = 0 then o else none
set_option maxRecDepth 20000 in
set_option maxHeartbeats 4000000 in
theorem alonef_deed (B : Bt) (a : Option Addr) (c : Nat) (r : Rec) (w : World) (Q N : Nat) (o : Option Bt) (hQ : w.cell? ⟨Q, 0, none⟩ = some (.func (.func N) #[] #[])) (hr : ∀ k, (Value.slice a B.es.length c).ownBlock = some k → k < w.heap.size)
    (heg : ∀ args w, (callFunc N args).run Tryz.prog w = .ok (.enter N args) w)
    (HN : ∀ W, Below w.heap.size w W → Calls Tryz.prog N #[bVal B.r B.e B.f B.t B.o a B.es.length c, recIn r] W fun x w' => DeedB w' x o ∧ W.grownBy w' (Value.slice a B.es.length c).ownBlock) :
    Calls Tryz.prog 77 #[bVal B.r B.e B.f B.t B.o a B.es.length c, recIn r, .pointer (some ⟨Q, 0, none⟩)] w fun x w' => DeedB w' x (aloneD r o) ∧ w.grownBy w' (Value.slice a B.es.length c).ownBlock := by
  have lQ := World.block_lt_of_cell? w _ hQ
  have HNV := veil HN
  have HR := veil hr
  clear HN hr
  go_enter Tryz.func77, Tryz.ntmps77
  go_upto_region 1 with fail
  obtain ⟨W1, hW1, M1⟩ := Mr.made w B a c r
  rw [← hW1]
  clear hW1
  have q1 : W1.cell? ⟨Q, 0, none⟩ = some (.func (.func N) #[] #[]) := (M1.bel.cell (p := ⟨Q, 0, none⟩) lQ).trans hQ
  obtain ⟨x0, x1, x2, x3, x4, x5⟩ := M1.b.cells
  obtain ⟨r0, r1, r2, r3, r4, r5, r6, r7, r8, r9⟩ := M1.rc.cells
  have HM := veil M1
  clear M1 hQ lQ
  by_cases h : r.p = 0
  case neg =>
    have hd : aloneD r o = none := if_neg h
    have HD := veil hd
    obtain ⟨z0, z1, z2, z3, z4, z5⟩ := (unveil HM).z.cells
    have zf := (unveil HM).z.free
    have e1 : (r.p != 0) = true := by simp [h]
    clear h hd
    go_wp2
    obtain ⟨W4, hW4, d4, b4, _⟩ := b_stored (unveil HM).z (unveil HM).bel (show w.heap.size ≤ w.heap.size + 2 by omega) 0 0 0 0 0 none 0 0
    rw [← hW4]
    refine bodyPost_ret (ret_alonef d4 rfl rfl) rfl ⟨?_, below_grows _ b4⟩
    rw [unveil HD]
    exact rfl
  case pos =>
  have hd : aloneD r o = o := if_pos h
  have HD := veil hd
  have e1 : (r.p != 0) = false := by simp [h]
  clear h hd
  go_wp2_with (go_at_fn N; refine (unveil HNV _ (unveil HM).bel).mono ?_; rintro x W3 ⟨d3, g3⟩; obtain ⟨a3, c3, rfl, i3, n3⟩ := d3.parts; have zb := (unveil HM).grown g3 (unveil HR); have zf := zb.free; obtain ⟨z0, z1, z2, z3, z4, z5⟩ := zb.cells; have HZ := veil zb; have HI := veil i3; have HN3 := veil n3; have HG3 := veil (grows_trans (below_grows _ (unveil HM).bel) g3); clear d3 g3 zb i3 n3 x0 x1 x2 x3 x4 x5 r0 r1 r2 r3 r4 r5 r6 r7 r8 r9 q1)
  obtain ⟨W4, hW4, d4, _, t4⟩ := b_stored (unveil HZ) (Below.refl _ _) (Nat.le_refl _) (optB o).r (optB o).e (optB o).f (optB o).t (optB o).o a3 (optB o).es.length c3
  rw [← hW4]
  refine bodyPost_ret (ret_alonef d4 rfl rfl) rfl ⟨?_, grows_turned (unveil HG3) t4 (by omega)⟩
  rw [unveil HD]
  exact DeedB.of ((unveil HI).turned t4 (unveil HZ) (by decide)) (unveil HN3)
set_option maxRecDepth 20000 in
set_option maxHeartbeats 4000000 in
theorem alonef_as (B : Bt) (a : Option Addr) (c : Nat) (r : Rec) (w : World) (Q N P1 P2 : Nat) (o : Option Bt) (hQ : w.cell? ⟨Q, 0, none⟩ = some (.func (.func N) #[] #[.pointer (some ⟨P1, 0, none⟩), .pointer (some ⟨P2, 0, none⟩)])) (hr : ∀ k, (Value.slice a B.es.length c).ownBlock = some k → k < w.heap.size)
    (heg : ∀ args w, (callFunc N args).run Tryz.prog w = .ok (.enter N args) w)
    (HN : ∀ W, Below w.heap.size w W → Calls Tryz.prog N #[bVal B.r B.e B.f B.t B.o a B.es.length c, recIn r, .pointer (some ⟨P1, 0, none⟩), .pointer (some ⟨P2, 0, none⟩)] W fun x w' => DeedB w' x o ∧ W.grownBy w' (Value.slice a B.es.length c).ownBlock) :
    Calls Tryz.prog 77 #[bVal B.r B.e B.f B.t B.o a B.es.length c, recIn r, .pointer (some ⟨Q, 0, none⟩)] w fun x w' => DeedB w' x (aloneD r o) ∧ w.grownBy w' (Value.slice a B.es.length c).ownBlock := by
  have lQ := World.block_lt_of_cell? w _ hQ
  have HNV := veil HN
  have HR := veil hr
  clear HN hr
  go_enter Tryz.func77, Tryz.ntmps77
  go_upto_region 1 with fail
  obtain ⟨W1, hW1, M1⟩ := Mr.made w B a c r
  rw [← hW1]
  clear hW1
  have q1 : W1.cell? ⟨Q, 0, none⟩ = some (.func (.func N) #[] #[.pointer (some ⟨P1, 0, none⟩), .pointer (some ⟨P2, 0, none⟩)]) := (M1.bel.cell (p := ⟨Q, 0, none⟩) lQ).trans hQ
  obtain ⟨x0, x1, x2, x3, x4, x5⟩ := M1.b.cells
  obtain ⟨r0, r1, r2, r3, r4, r5, r6, r7, r8, r9⟩ := M1.rc.cells
  have HM := veil M1
  clear M1 hQ lQ
  by_cases h : r.p = 0
  case neg =>
    have hd : aloneD r o = none := if_neg h
    have HD := veil hd
    obtain ⟨z0, z1, z2, z3, z4, z5⟩ := (unveil HM).z.cells
    have zf := (unveil HM).z.free
    have e1 : (r.p != 0) = true := by simp [h]
    clear h hd
    go_wp2
    obtain ⟨W4, hW4, d4, b4, _⟩ := b_stored (unveil HM).z (unveil HM).bel (show w.heap.size ≤ w.heap.size + 2 by omega) 0 0 0 0 0 none 0 0
    rw [← hW4]
    refine bodyPost_ret (ret_alonef d4 rfl rfl) rfl ⟨?_, below_grows _ b4⟩
    rw [unveil HD]
    exact rfl
  case pos =>
  have hd : aloneD r o = o := if_pos h
  have HD := veil hd
  have e1 : (r.p != 0) = false := by simp [h]
  clear h hd
  go_wp2_with (go_at_fn N; refine (unveil HNV _ (unveil HM).bel).mono ?_; rintro x W3 ⟨d3, g3⟩; obtain ⟨a3, c3, rfl, i3, n3⟩ := d3.parts; have zb := (unveil HM).grown g3 (unveil HR); have zf := zb.free; obtain ⟨z0, z1, z2, z3, z4, z5⟩ := zb.cells; have HZ := veil zb; have HI := veil i3; have HN3 := veil n3; have HG3 := veil (grows_trans (below_grows _ (unveil HM).bel) g3); clear d3 g3 zb i3 n3 x0 x1 x2 x3 x4 x5 r0 r1 r2 r3 r4 r5 r6 r7 r8 r9 q1)
  obtain ⟨W4, hW4, d4, _, t4⟩ := b_stored (unveil HZ) (Below.refl _ _) (Nat.le_refl _) (optB o).r (optB o).e (optB o).f (optB o).t (optB o).o a3 (optB o).es.length c3
  rw [← hW4]
  refine bodyPost_ret (ret_alonef d4 rfl rfl) rfl ⟨?_, grows_turned (unveil HG3) t4 (by omega)⟩
  rw [unveil HD]
  exact DeedB.of ((unveil HI).turned t4 (unveil HZ) (by decide)) (unveil HN3)
end Go.Proofs.YtcdopnkabbfooaaGreat

namespace Go.Proofs.YtcdopnkabbfooaaGreat
open Go.RowKit

theorem run_insertD {w : World} {B clock : Nat} {es : Array MapEntry} {z : Int} {v : Value} (hb : w.heap[B]? = some (.map es clock)) (hf : Instr.findNow (.int .i64) (.int .i64 z) es.toList 0 = some none) :
    (Instr.mapUpdate 64 (.map (some B)) (.int .i64 z) v).run Tryz.prog w = .ok () { w with heap := w.heap.setIfInBounds B (.map (es.push ⟨.int .i64 z, v, clock⟩) (clock + 1)) } := by
  have hc : (Instr.checkKey false 10000 3 (.int .i64 z)).run Tryz.prog w = .ok () w := MapKept.run_checkKey (k := .int .i64 z) Tryz.underlying3 (by simp [MapKept.IsKey]) false 9999
  simp [Instr.mapUpdate, run_underlying Tryz.underlying64, MapKept.run_getObj_map hb, hc, MapKept.run_findKey Tryz.underlying3 hf, MapKept.run_setObj_map _ hb, Result.andThen]

/-- one entry more in a table that the call has made. -/
theorem mD_insert {ops : Array Oper} {rest : List Oper} {o : Oper} {a : Act} {Q : Exit → Act → World → Prop} {w : World} {B clock : Nat} {es : Array MapEntry} {z : Int} {v : Value} (m k x : Operand) (ho : o.op = .insert 64 m k x) (hw : Region.wanted o (yielded ops a.tmps) = true)
    (hm : a.eval m = .map (some B)) (hk : a.eval k = .int .i64 z) (hx : a.eval x = v) (hb : w.heap[B]? = some (.map es clock)) (hf : Instr.findNow (.int .i64) (.int .i64 z) es.toList 0 = some none)
    (h : ∀ w', w'.heap[B]? = some (.map (es.push ⟨.int .i64 z, v, clock⟩) (clock + 1)) → Turned B w w' → wpList Tryz.prog ops Q rest (a.put o.dst undef) w') : wpList Tryz.prog ops Q (o :: rest) a w :=
  wpList_step fun K hK => by
    rw [if_pos hw]
    have hrun := run_insertD (v := v) hb hf
    have hs := MapKept.heap_set (o' := .map (es.push ⟨.int .i64 z, v, clock⟩) (clock + 1)) hb
    have := hK _ _ (h { w with heap := w.heap.setIfInBounds B (.map (es.push ⟨.int .i64 z, v, clock⟩) (clock + 1)) } hs.1 ⟨rfl, rfl, rfl, by simp, fun r hr => hs.2 r hr⟩)
    unfold Oper.wp
    simp only [execOp, ho, hm, hk, hx]
    simp [hrun, Result.andThen]
    exact this
theorem mD_make {ops : Array Oper} {rest : List Oper} {o : Oper} {a : Act} {Q : Exit → Act → World → Prop} {w : World} (ho : o.op = .makeMap 64 none) (hw : Region.wanted o (yielded ops a.tmps) = true)
    (h : ∀ w', w'.heap[w.heap.size]? = some (.map #[] 0) → Below w.heap.size w w' → wpList Tryz.prog ops Q rest (a.put o.dst (.map (some w.heap.size))) w') : wpList Tryz.prog ops Q (o :: rest) a w :=
  wpList_step fun K hK => by
    rw [if_pos hw]
    have := hK _ _ (h _ (heap_alloc_new w _) (below1 _ _))
    unfold Oper.wp
    simp only [execOp, ho]
    simp [run_makeMap_plain, Result.andThen]
    exact this


/-- a value that is a closure of as. -/
def IsAs (w : World) (v : Value) (role : Int) (N : Nat) : Prop := ∃ P Q, v = .func (.func 78) #[] #[.pointer (some ⟨P, 0, none⟩), .pointer (some ⟨Q, 0, none⟩)] ∧ w.cell? ⟨P, 0, none⟩ = some (.int .i64 role) ∧ w.cell? ⟨Q, 0, none⟩ = some (.func (.func N) #[] #[])
/-- a value that is a closure of alone, of a plain deed. -/
def IsAl (w : World) (v : Value) (N : Nat) : Prop := ∃ Q, v = .func (.func 77) #[] #[.pointer (some ⟨Q, 0, none⟩)] ∧ w.cell? ⟨Q, 0, none⟩ = some (.func (.func N) #[] #[])
/-- a value that is a closure of alone, of a closure of as. -/
def IsAA (w : World) (v : Value) (role : Int) (N : Nat) : Prop := ∃ Q u, v = .func (.func 77) #[] #[.pointer (some ⟨Q, 0, none⟩)] ∧ w.cell? ⟨Q, 0, none⟩ = some u ∧ IsAs w u role N
theorem IsAs.keep {w w' : World} {v : Value} {role : Int} {N : Nat} (h : IsAs w v role N) (k : ∀ X x, w.cell? ⟨X, 0, none⟩ = some x → w'.cell? ⟨X, 0, none⟩ = some x) : IsAs w' v role N := by
  obtain ⟨P, Q, rfl, h1, h2⟩ := h
  exact ⟨P, Q, rfl, k _ _ h1, k _ _ h2⟩
theorem IsAl.keep {w w' : World} {v : Value} {N : Nat} (h : IsAl w v N) (k : ∀ X x, w.cell? ⟨X, 0, none⟩ = some x → w'.cell? ⟨X, 0, none⟩ = some x) : IsAl w' v N := by
  obtain ⟨Q, rfl, h2⟩ := h
  exact ⟨Q, rfl, k _ _ h2⟩
theorem IsAA.keep {w w' : World} {v : Value} {role : Int} {N : Nat} (h : IsAA w v role N) (k : ∀ X x, w.cell? ⟨X, 0, none⟩ = some x → w'.cell? ⟨X, 0, none⟩ = some x) : IsAA w' v role N := by
  obtain ⟨Q, u, rfl, h1, h2⟩ := h
  exact ⟨Q, u, rfl, k _ _ h1, h2.keep k⟩
theorem keeps_below {w w' : World} (b : Below w.heap.size w w') : ∀ X x, w.cell? ⟨X, 0, none⟩ = some x → w'.cell? ⟨X, 0, none⟩ = some x :=
  fun X _ h => (b.cell (p := ⟨X, 0, none⟩) (World.block_lt_of_cell? w _ h)).trans h
theorem keeps_map {w w' : World} {M clock : Nat} {es : Array MapEntry} (t : Turned M w w') (h : w.heap[M]? = some (.map es clock)) : ∀ X x, w.cell? ⟨X, 0, none⟩ = some x → w'.cell? ⟨X, 0, none⟩ = some x := by
  intro X _ hx
  have hne : X ≠ M := by
    rintro rfl
    simp [World.cell?, h] at hx
  exact (World.cell?_of_block (a := ⟨X, 0, none⟩) (t.block X hne)).trans hx
theorem dcell_new1 (w : World) (v : Value) (t : TypeId) : (w.alloc (.cells #[v] t)).cell? ⟨w.heap.size, 0, none⟩ = some v := by
  have := heap_alloc_new w (.cells #[v] t)
  unfold World.cell?
  rw [this]
  rfl
theorem dcell_new2 (w : World) (o : Obj) (v : Value) (t : TypeId) : ((w.alloc o).alloc (.cells #[v] t)).cell? ⟨w.heap.size + 1, 0, none⟩ = some v := by
  have h := dcell_new1 (w.alloc o) v t
  have e : (w.alloc o).heap.size = w.heap.size + 1 := by simp
  rw [e] at h
  exact h
theorem mf_any : ∀ (fn : Fn) (first cap : Array Value) (w : World), (Instr.makeFunc fn first cap).run Tryz.prog w = .ok (.func fn first cap) w := fun _ _ _ _ => rfl
set_option maxHeartbeats 1000000 in
theorem as_any (role : Int) (N : Nat) (w : World) : Calls Tryz.prog 58 #[.int .i64 role, .func (.func N) #[] #[]] w fun e w' => ∃ v, e = .returned v ∧ IsAs w' v role N ∧ Below w.heap.size w w' := by
  have hmf := mf_any
  go_enter Tryz.func58, Tryz.ntmps58
  go_wp2
  go_ret
  refine ⟨_, rfl, ⟨w.heap.size, w.heap.size + 1, rfl, ?_, ?_⟩, ?_⟩
  · exact keeps_below (below1 _ _) _ _ (dcell_new1 _ _ _)
  · exact dcell_new2 _ _ _ _
  · exact Below.next (below1 _ _) (below1 _ _)
set_option maxHeartbeats 1000000 in
theorem alone_any (N : Nat) (w : World) : Calls Tryz.prog 56 #[.func (.func N) #[] #[]] w fun e w' => ∃ v, e = .returned v ∧ IsAl w' v N ∧ Below w.heap.size w w' := by
  have hmf := mf_any
  go_enter Tryz.func56, Tryz.ntmps56
  go_wp2
  go_ret
  refine ⟨_, rfl, ⟨w.heap.size, rfl, ?_⟩, ?_⟩
  · exact dcell_new1 _ _ _
  · exact below1 _ _
set_option maxHeartbeats 1000000 in
theorem alone_as (v : Value) (role : Int) (N : Nat) (w : World) (h : IsAs w v role N) : Calls Tryz.prog 56 #[v] w fun e w' => ∃ v, e = .returned v ∧ IsAA w' v role N ∧ Below w.heap.size w w' := by
  have hmf := mf_any
  obtain ⟨P, Q, rfl, h1, h2⟩ := h
  have H : Hid (∀ o, IsAs (w.alloc o) (.func (.func 78) #[] #[.pointer (some ⟨P, 0, none⟩), .pointer (some ⟨Q, 0, none⟩)]) role N) := veil fun o => IsAs.keep ⟨P, Q, rfl, h1, h2⟩ (keeps_below (below1 w o))
  clear h1 h2
  go_enter Tryz.func56, Tryz.ntmps56
  go_wp2
  go_ret
  refine ⟨_, rfl, ⟨w.heap.size, _, rfl, ?_, unveil H _⟩, ?_⟩
  · exact dcell_new1 _ _ _
  · exact below1 _ _
/-- the table of the deeds. -/
structure Table (w : World) (M : Nat) (v1 v2 v3 v5 v6 v7 : Value) : Prop where
  tab : w.heap[M]? = some (.map #[⟨.int .i64 1, v1, 0⟩, ⟨.int .i64 2, v2, 1⟩, ⟨.int .i64 3, v3, 2⟩, ⟨.int .i64 4, .func (.func 61) #[] #[], 3⟩, ⟨.int .i64 5, v5, 4⟩, ⟨.int .i64 6, v6, 5⟩, ⟨.int .i64 7, v7, 6⟩] 7)
  d1 : IsAl w v1 57
  d2 : IsAA w v2 1 59
  d3 : IsAs w v3 1 60
  d5 : IsAA w v5 4 59
  d6 : IsAA w v6 4 62
  d7 : IsAA w v7 3 63
/-- what lies in the table so far. -/
structure Tb (w wx : World) (es : Array MapEntry) (clock : Nat) : Prop where
  tab : wx.heap[w.heap.size]? = some (.map es clock)
  bel : Below w.heap.size w wx
theorem Tb.next {w wx wy : World} {es : Array MapEntry} {clock : Nat} (h : Tb w wx es clock) (b : Below wx.heap.size wx wy) : Tb w wy es clock := ⟨(b.block _ (block_lt h.tab)).trans h.tab, Below.next h.bel b⟩
end Go.Proofs.YtcdopnkabbfooaaGreat

namespace Go.Proofs.YtcdopnkabbfooaaGreat
open Go.RowKit

set_option maxRecDepth 20000 in
set_option maxHeartbeats 4000000 in
theorem deeds_any (w : World) : Calls Tryz.prog 31 #[] w fun e w' => ∃ v1 v2 v3 v5 v6 v7, e = .returned (.map (some w.heap.size)) ∧ Table w' w.heap.size v1 v2 v3 v5 v6 v7 ∧ Below w.heap.size w w' := by
  go_enter Tryz.func31, Tryz.ntmps31
  go_wp2_with (first
    | (refine mD_make rfl rfl ?_; intro W0 m0 b0; have T0 := veil (Tb.mk (w := w) m0 b0); clear b0 m0)
    | (go_at_call 56; refine (alone_any 57 _).mono ?_; rintro _ W1 ⟨v1, rfl, dv1, b1⟩; have T1 := veil ((unveil T0).next b1); have Dv1 := veil dv1; clear dv1 b1 T0)
    | (refine mD_insert (es := #[]) (clock := 0) (z := 1) (v := v1) _ _ _ rfl rfl rfl rfl rfl (unveil T1).tab rfl ?_; intro W2 m2 t2; replace Dv1 := veil ((unveil Dv1).keep (keeps_map t2 (unveil T1).tab)); have T2 := veil (Tb.mk (w := w) m2 (t2.under (unveil T1).bel (Nat.le_refl _))); clear m2 t2 T1)
    | (go_at_call 58; refine (as_any 1 59 _).mono ?_; rintro _ W3 ⟨u2, rfl, du2, b3⟩; have T3 := veil ((unveil T2).next b3); have Du2 := veil du2; replace Dv1 := veil ((unveil Dv1).keep (keeps_below b3)); clear du2 b3 T2)
    | (go_at_call 56; refine (alone_as u2 1 59 _ (unveil Du2)).mono ?_; rintro _ W4 ⟨v2, rfl, dv2, b4⟩; have T4 := veil ((unveil T3).next b4); have Dv2 := veil dv2; replace Dv1 := veil ((unveil Dv1).keep (keeps_below b4)); clear dv2 b4 T3 Du2)
    | (refine mD_insert (es := #[(⟨.int .i64 1, v1, 0⟩ : MapEntry)]) (clock := 1) (z := 2) (v := v2) _ _ _ rfl rfl rfl rfl rfl (unveil T4).tab rfl ?_; intro W5 m5 t5; replace Dv1 := veil ((unveil Dv1).keep (keeps_map t5 (unveil T4).tab)); replace Dv2 := veil ((unveil Dv2).keep (keeps_map t5 (unveil T4).tab)); have T5 := veil (Tb.mk (w := w) m5 (t5.under (unveil T4).bel (Nat.le_refl _))); clear m5 t5 T4)
    | (go_at_call 58; refine (as_any 1 60 _).mono ?_; rintro _ W6 ⟨v3, rfl, dv3, b6⟩; have T6 := veil ((unveil T5).next b6); have Dv3 := veil dv3; replace Dv1 := veil ((unveil Dv1).keep (keeps_below b6)); replace Dv2 := veil ((unveil Dv2).keep (keeps_below b6)); clear dv3 b6 T5)
    | (refine mD_insert (es := #[(⟨.int .i64 1, v1, 0⟩ : MapEntry), (⟨.int .i64 2, v2, 1⟩ : MapEntry)]) (clock := 2) (z := 3) (v := v3) _ _ _ rfl rfl rfl rfl rfl (unveil T6).tab rfl ?_; intro W7 m7 t7; replace Dv1 := veil ((unveil Dv1).keep (keeps_map t7 (unveil T6).tab)); replace Dv2 := veil ((unveil Dv2).keep (keeps_map t7 (unveil T6).tab)); replace Dv3 := veil ((unveil Dv3).keep (keeps_map t7 (unveil T6).tab)); have T7 := veil (Tb.mk (w := w) m7 (t7.under (unveil T6).bel (Nat.le_refl _))); clear m7 t7 T6)
    | (refine mD_insert (es := #[(⟨.int .i64 1, v1, 0⟩ : MapEntry), (⟨.int .i64 2, v2, 1⟩ : MapEntry), (⟨.int .i64 3, v3, 2⟩ : MapEntry)]) (clock := 3) (z := 4) (v := (.func (.func 61) #[] #[])) _ _ _ rfl rfl rfl rfl rfl (unveil T7).tab rfl ?_; intro W8 m8 t8; replace Dv1 := veil ((unveil Dv1).keep (keeps_map t8 (unveil T7).tab)); replace Dv2 := veil ((unveil Dv2).keep (keeps_map t8 (unveil T7).tab)); replace Dv3 := veil ((unveil Dv3).keep (keeps_map t8 (unveil T7).tab)); have T8 := veil (Tb.mk (w := w) m8 (t8.under (unveil T7).bel (Nat.le_refl _))); clear m8 t8 T7)
    | (go_at_call 58; refine (as_any 4 59 _).mono ?_; rintro _ W9 ⟨u5, rfl, du5, b9⟩; have T9 := veil ((unveil T8).next b9); have Du5 := veil du5; replace Dv1 := veil ((unveil Dv1).keep (keeps_below b9)); replace Dv2 := veil ((unveil Dv2).keep (keeps_below b9)); replace Dv3 := veil ((unveil Dv3).keep (keeps_below b9)); clear du5 b9 T8)
    | (go_at_call 56; refine (alone_as u5 4 59 _ (unveil Du5)).mono ?_; rintro _ W10 ⟨v5, rfl, dv5, b10⟩; have T10 := veil ((unveil T9).next b10); have Dv5 := veil dv5; replace Dv1 := veil ((unveil Dv1).keep (keeps_below b10)); replace Dv2 := veil ((unveil Dv2).keep (keeps_below b10)); replace Dv3 := veil ((unveil Dv3).keep (keeps_below b10)); clear dv5 b10 T9 Du5)
    | (refine mD_insert (es := #[(⟨.int .i64 1, v1, 0⟩ : MapEntry), (⟨.int .i64 2, v2, 1⟩ : MapEntry), (⟨.int .i64 3, v3, 2⟩ : MapEntry), (⟨.int .i64 4, (.func (.func 61) #[] #[]), 3⟩ : MapEntry)]) (clock := 4) (z := 5) (v := v5) _ _ _ rfl rfl rfl rfl rfl (unveil T10).tab rfl ?_; intro W11 m11 t11; replace Dv1 := veil ((unveil Dv1).keep (keeps_map t11 (unveil T10).tab)); replace Dv2 := veil ((unveil Dv2).keep (keeps_map t11 (unveil T10).tab)); replace Dv3 := veil ((unveil Dv3).keep (keeps_map t11 (unveil T10).tab)); replace Dv5 := veil ((unveil Dv5).keep (keeps_map t11 (unveil T10).tab)); have T11 := veil (Tb.mk (w := w) m11 (t11.under (unveil T10).bel (Nat.le_refl _))); clear m11 t11 T10)
    | (go_at_call 58; refine (as_any 4 62 _).mono ?_; rintro _ W12 ⟨u6, rfl, du6, b12⟩; have T12 := veil ((unveil T11).next b12); have Du6 := veil du6; replace Dv1 := veil ((unveil Dv1).keep (keeps_below b12)); replace Dv2 := veil ((unveil Dv2).keep (keeps_below b12)); replace Dv3 := veil ((unveil Dv3).keep (keeps_below b12)); replace Dv5 := veil ((unveil Dv5).keep (keeps_below b12)); clear du6 b12 T11)
    | (go_at_call 56; refine (alone_as u6 4 62 _ (unveil Du6)).mono ?_; rintro _ W13 ⟨v6, rfl, dv6, b13⟩; have T13 := veil ((unveil T12).next b13); have Dv6 := veil dv6; replace Dv1 := veil ((unveil Dv1).keep (keeps_below b13)); replace Dv2 := veil ((unveil Dv2).keep (keeps_below b13)); replace Dv3 := veil ((unveil Dv3).keep (keeps_below b13)); replace Dv5 := veil ((unveil Dv5).keep (keeps_below b13)); clear dv6 b13 T12 Du6)
    | (refine mD_insert (es := #[(⟨.int .i64 1, v1, 0⟩ : MapEntry), (⟨.int .i64 2, v2, 1⟩ : MapEntry), (⟨.int .i64 3, v3, 2⟩ : MapEntry), (⟨.int .i64 4, (.func (.func 61) #[] #[]), 3⟩ : MapEntry), (⟨.int .i64 5, v5, 4⟩ : MapEntry)]) (clock := 5) (z := 6) (v := v6) _ _ _ rfl rfl rfl rfl rfl (unveil T13).tab rfl ?_; intro W14 m14 t14; replace Dv1 := veil ((unveil Dv1).keep (keeps_map t14 (unveil T13).tab)); replace Dv2 := veil ((unveil Dv2).keep (keeps_map t14 (unveil T13).tab)); replace Dv3 := veil ((unveil Dv3).keep (keeps_map t14 (unveil T13).tab)); replace Dv5 := veil ((unveil Dv5).keep (keeps_map t14 (unveil T13).tab)); replace Dv6 := veil ((unveil Dv6).keep (keeps_map t14 (unveil T13).tab)); have T14 := veil (Tb.mk (w := w) m14 (t14.under (unveil T13).bel (Nat.le_refl _))); clear m14 t14 T13)
    | (go_at_call 58; refine (as_any 3 63 _).mono ?_; rintro _ W15 ⟨u7, rfl, du7, b15⟩; have T15 := veil ((unveil T14).next b15); have Du7 := veil du7; replace Dv1 := veil ((unveil Dv1).keep (keeps_below b15)); replace Dv2 := veil ((unveil Dv2).keep (keeps_below b15)); replace Dv3 := veil ((unveil Dv3).keep (keeps_below b15)); replace Dv5 := veil ((unveil Dv5).keep (keeps_below b15)); replace Dv6 := veil ((unveil Dv6).keep (keeps_below b15)); clear du7 b15 T14)
    | (go_at_call 56; refine (alone_as u7 3 63 _ (unveil Du7)).mono ?_; rintro _ W16 ⟨v7, rfl, dv7, b16⟩; have T16 := veil ((unveil T15).next b16); have Dv7 := veil dv7; replace Dv1 := veil ((unveil Dv1).keep (keeps_below b16)); replace Dv2 := veil ((unveil Dv2).keep (keeps_below b16)); replace Dv3 := veil ((unveil Dv3).keep (keeps_below b16)); replace Dv5 := veil ((unveil Dv5).keep (keeps_below b16)); replace Dv6 := veil ((unveil Dv6).keep (keeps_below b16)); clear dv7 b16 T15 Du7)
    | (refine mD_insert (es := #[(⟨.int .i64 1, v1, 0⟩ : MapEntry), (⟨.int .i64 2, v2, 1⟩ : MapEntry), (⟨.int .i64 3, v3, 2⟩ : MapEntry), (⟨.int .i64 4, (.func (.func 61) #[] #[]), 3⟩ : MapEntry), (⟨.int .i64 5, v5, 4⟩ : MapEntry), (⟨.int .i64 6, v6, 5⟩ : MapEntry)]) (clock := 6) (z := 7) (v := v7) _ _ _ rfl rfl rfl rfl rfl (unveil T16).tab rfl ?_; intro W17 m17 t17; replace Dv1 := veil ((unveil Dv1).keep (keeps_map t17 (unveil T16).tab)); replace Dv2 := veil ((unveil Dv2).keep (keeps_map t17 (unveil T16).tab)); replace Dv3 := veil ((unveil Dv3).keep (keeps_map t17 (unveil T16).tab)); replace Dv5 := veil ((unveil Dv5).keep (keeps_map t17 (unveil T16).tab)); replace Dv6 := veil ((unveil Dv6).keep (keeps_map t17 (unveil T16).tab)); replace Dv7 := veil ((unveil Dv7).keep (keeps_map t17 (unveil T16).tab)); have T17 := veil (Tb.mk (w := w) m17 (t17.under (unveil T16).bel (Nat.le_refl _))); clear m17 t17 T16))
  go_ret
  exact ⟨_, _, _, _, _, _, rfl, ⟨(unveil T17).tab, unveil Dv1, unveil Dv2, unveil Dv3, unveil Dv5, unveil Dv6, unveil Dv7⟩, (unveil T17).bel⟩
end Go.Proofs.YtcdopnkabbfooaaGreat

namespace Go.Proofs.YtcdopnkabbfooaaGreat
open Go.RowKit

set_option maxRecDepth 20000 in
theorem clone_ev (a : Option Addr) (c : Nat) (l : List Ev) (w : World) (hA : RowK .i64 w a (6 * l.length) (evFlat l)) (hn : a = none → c = 0) (hs : l.length * 48 ≤ 140737488351232) :
    Calls Tryz.prog 30 #[.slice a l.length c] w fun e w' => ∃ v, e = .returned v ∧ w'.ownsRow w.heap.size 28 6 v l.length ((evFlat l).map (Value.int .i64)) ∧ Below w.heap.size w w' := by
  obtain ⟨i2, hi2, hz20, hz21, hz22⟩ := info_of Tryz.infoEvent
  cases a with
  | none =>
    have hl : l = [] := by
      rcases Nat.eq_zero_or_pos l.length with h | h
      · exact List.length_eq_zero_iff.1 h
      · obtain ⟨_, _, h', _⟩ := hA.cell 0 (by omega); cases h'
    subst hl
    have q : ∀ (w : World) (n c n' c' : Nat), (binOp .eql 22 (.slice none n c) (.slice none n' c')).run Tryz.prog w = .ok (.bool true) w := fun w n c n' c' => Lib.run_eql_slice_nil w _ _ none n c n' c' Tryz.underlying22
    go_enter Tryz.func30, Tryz.ntmps30
    go_wp2
    go_ret
    exact ⟨_, rfl, World.ownsRow_nil _ _ _ _, Below.refl _ _⟩
  | some x =>
    have q : ∀ (w : World) (n c n' c' : Nat), (binOp .eql 22 (.slice (some x) n c) (.slice none n' c')).run Tryz.prog w = .ok (.bool false) w := fun w n c n' c' => Lib.run_eql_slice_nil w _ _ (some x) n c n' c' Tryz.underlying22
    have HF : Hid (∀ v' w' w1, w1.ownsRow w.heap.size 28 6 (.slice (some ⟨w.heap.size, 0, none⟩) 0 0) 0 [] → Below w.heap.size w w1 → w'.ownsRow w.heap.size 28 6 v' l.length ((evFlat l).map (Value.int .i64)) → w1.grownBy w' (some w.heap.size) → w'.ownsRow w.heap.size 28 6 v' l.length ((evFlat l).map (Value.int .i64)) ∧ Below w.heap.size w w') := veil (by
      intro v' w' w1 o1 b1 own grow
      exact ⟨own, b1.grown grow b1.size (fun q hq => by cases hq; exact Nat.le_refl _)⟩)
    have O1 : Hid ((w.alloc (.cells #[] 28)).ownsRow w.heap.size 28 6 (.slice (some ⟨w.heap.size, 0, none⟩) 0 0) 0 []) := veil (World.ownsRow_made w #[] 0 (Nat.le_refl _) (Nat.zero_le _) (by simp))
    have B1 : Hid (Below w.heap.size w (w.alloc (.cells #[] 28))) := veil (below1 _ _)
    have RA := veil (hA.below (unveil B1))
    clear hA
    generalize l.length = n at *
    generalize evFlat l = D at *
    go_enter Tryz.func30, Tryz.ntmps30
    go_wp2_with (at_builtin; refine wpList_append_rows rfl _ _ 22 rfl w.heap.size 28 i2 _ 6 48 Tryz.underlying22 hi2 hz20 hz21 hz22 rfl (by decide) (.slice (some ⟨w.heap.size, 0, none⟩) 0 0) 0 [] rfl (unveil O1) (some x) n c D rfl (unveil RA) hn (by unfold maxLen; omega) (by omega) (unveil B1).size ?_; intro v' w4 own4 grow4; rw [List.nil_append, Nat.zero_add] at own4; have R := veil (unveil HF v' w4 _ (unveil O1) (unveil B1) own4 grow4); clear own4 grow4)
    go_ret
    exact ⟨v', rfl, unveil R⟩

theorem run_deedAt {w : World} {M : Nat} {v1 v2 v3 v5 v6 v7 : Value} (h : Table w M v1 v2 v3 v5 v6 v7) :
    (Instr.lookup 64 (.map (some M)) (.int .i64 1) false).run Tryz.prog w = .ok (v1) w ∧ (Instr.lookup 64 (.map (some M)) (.int .i64 2) false).run Tryz.prog w = .ok (v2) w ∧ (Instr.lookup 64 (.map (some M)) (.int .i64 3) false).run Tryz.prog w = .ok (v3) w ∧ (Instr.lookup 64 (.map (some M)) (.int .i64 4) false).run Tryz.prog w = .ok (.func (.func 61) #[] #[]) w ∧ (Instr.lookup 64 (.map (some M)) (.int .i64 5) false).run Tryz.prog w = .ok (v5) w ∧ (Instr.lookup 64 (.map (some M)) (.int .i64 6) false).run Tryz.prog w = .ok (v6) w ∧ (Instr.lookup 64 (.map (some M)) (.int .i64 7) false).run Tryz.prog w = .ok (v7) w := by
  have hc : ∀ k, (Instr.checkKey false 10000 3 (.int .i64 k)).run Tryz.prog w = .ok () w := fun k => MapKept.run_checkKey (k := .int .i64 k) Tryz.underlying3 (by simp [MapKept.IsKey]) false 9999
  have ht := h.tab
  refine ⟨?_, ?_, ?_, ?_, ?_, ?_, ?_⟩
  · have hf : Instr.findNow (.int .i64) (.int .i64 1) [(⟨.int .i64 1, v1, 0⟩ : MapEntry), ⟨.int .i64 2, v2, 1⟩, ⟨.int .i64 3, v3, 2⟩, ⟨.int .i64 4, .func (.func 61) #[] #[], 3⟩, ⟨.int .i64 5, v5, 4⟩, ⟨.int .i64 6, v6, 5⟩, ⟨.int .i64 7, v7, 6⟩] 0 = some (some (0, v1)) := rfl
    simp [Instr.lookup, run_underlying Tryz.underlying64, MapKept.run_getObj_map ht, hc 1, MapKept.run_findKey Tryz.underlying3 hf, Result.andThen]
  · have hf : Instr.findNow (.int .i64) (.int .i64 2) [(⟨.int .i64 1, v1, 0⟩ : MapEntry), ⟨.int .i64 2, v2, 1⟩, ⟨.int .i64 3, v3, 2⟩, ⟨.int .i64 4, .func (.func 61) #[] #[], 3⟩, ⟨.int .i64 5, v5, 4⟩, ⟨.int .i64 6, v6, 5⟩, ⟨.int .i64 7, v7, 6⟩] 0 = some (some (1, v2)) := rfl
    simp [Instr.lookup, run_underlying Tryz.underlying64, MapKept.run_getObj_map ht, hc 2, MapKept.run_findKey Tryz.underlying3 hf, Result.andThen]
  · have hf : Instr.findNow (.int .i64) (.int .i64 3) [(⟨.int .i64 1, v1, 0⟩ : MapEntry), ⟨.int .i64 2, v2, 1⟩, ⟨.int .i64 3, v3, 2⟩, ⟨.int .i64 4, .func (.func 61) #[] #[], 3⟩, ⟨.int .i64 5, v5, 4⟩, ⟨.int .i64 6, v6, 5⟩, ⟨.int .i64 7, v7, 6⟩] 0 = some (some (2, v3)) := rfl
    simp [Instr.lookup, run_underlying Tryz.underlying64, MapKept.run_getObj_map ht, hc 3, MapKept.run_findKey Tryz.underlying3 hf, Result.andThen]
  · have hf : Instr.findNow (.int .i64) (.int .i64 4) [(⟨.int .i64 1, v1, 0⟩ : MapEntry), ⟨.int .i64 2, v2, 1⟩, ⟨.int .i64 3, v3, 2⟩, ⟨.int .i64 4, .func (.func 61) #[] #[], 3⟩, ⟨.int .i64 5, v5, 4⟩, ⟨.int .i64 6, v6, 5⟩, ⟨.int .i64 7, v7, 6⟩] 0 = some (some (3, .func (.func 61) #[] #[])) := rfl
    simp [Instr.lookup, run_underlying Tryz.underlying64, MapKept.run_getObj_map ht, hc 4, MapKept.run_findKey Tryz.underlying3 hf, Result.andThen]
  · have hf : Instr.findNow (.int .i64) (.int .i64 5) [(⟨.int .i64 1, v1, 0⟩ : MapEntry), ⟨.int .i64 2, v2, 1⟩, ⟨.int .i64 3, v3, 2⟩, ⟨.int .i64 4, .func (.func 61) #[] #[], 3⟩, ⟨.int .i64 5, v5, 4⟩, ⟨.int .i64 6, v6, 5⟩, ⟨.int .i64 7, v7, 6⟩] 0 = some (some (4, v5)) := rfl
    simp [Instr.lookup, run_underlying Tryz.underlying64, MapKept.run_getObj_map ht, hc 5, MapKept.run_findKey Tryz.underlying3 hf, Result.andThen]
  · have hf : Instr.findNow (.int .i64) (.int .i64 6) [(⟨.int .i64 1, v1, 0⟩ : MapEntry), ⟨.int .i64 2, v2, 1⟩, ⟨.int .i64 3, v3, 2⟩, ⟨.int .i64 4, .func (.func 61) #[] #[], 3⟩, ⟨.int .i64 5, v5, 4⟩, ⟨.int .i64 6, v6, 5⟩, ⟨.int .i64 7, v7, 6⟩] 0 = some (some (5, v6)) := rfl
    simp [Instr.lookup, run_underlying Tryz.underlying64, MapKept.run_getObj_map ht, hc 6, MapKept.run_findKey Tryz.underlying3 hf, Result.andThen]
  · have hf : Instr.findNow (.int .i64) (.int .i64 7) [(⟨.int .i64 1, v1, 0⟩ : MapEntry), ⟨.int .i64 2, v2, 1⟩, ⟨.int .i64 3, v3, 2⟩, ⟨.int .i64 4, .func (.func 61) #[] #[], 3⟩, ⟨.int .i64 5, v5, 4⟩, ⟨.int .i64 6, v6, 5⟩, ⟨.int .i64 7, v7, 6⟩] 0 = some (some (6, v7)) := rfl
    simp [Instr.lookup, run_underlying Tryz.underlying64, MapKept.run_getObj_map ht, hc 7, MapKept.run_findKey Tryz.underlying3 hf, Result.andThen]
end Go.Proofs.YtcdopnkabbfooaaGreat

namespace Go.Proofs.YtcdopnkabbfooaaGreat
open Go.RowKit

/-- a value that is a deed of a berth and a record. -/
def Doer (w : World) (v : Value) (B : Bt) (a : Option Addr) (c : Nat) (r : Rec) (o : Option Bt) : Prop := ∃ g cap, v = .func (.func g) #[] cap ∧ (∀ args w, (callFunc g args).run Tryz.prog w = .ok (.enter g args) w) ∧
  ∀ W, Below w.heap.size w W → Calls Tryz.prog g (#[bVal B.r B.e B.f B.t B.o a B.es.length c, recIn r] ++ cap) W fun x w' => DeedB w' x o ∧ W.grownBy w' (Value.slice a B.es.length c).ownBlock
/-- a plain function that is such a deed, in whatever world from here on. -/
def Plain (w : World) (N : Nat) (B : Bt) (a : Option Addr) (c : Nat) (r : Rec) (o : Option Bt) : Prop := (∀ args w, (callFunc N args).run Tryz.prog w = .ok (.enter N args) w) ∧
  ∀ W, Below w.heap.size w W → Calls Tryz.prog N #[bVal B.r B.e B.f B.t B.o a B.es.length c, recIn r] W fun x w' => DeedB w' x o ∧ W.grownBy w' (Value.slice a B.es.length c).ownBlock
theorem below_still {w W : World} {base n c : Nat} {a : Option Addr} {xs : List Value} (h : w.ownsRow base 28 6 (.slice a n c) n xs) (b : Below w.heap.size w W) : W.ownsRow base 28 6 (.slice a n c) n xs :=
  own_still h (fun g hg _ => b.block g ((h.lt g hg).2))
section
variable {w : World} {B : Bt} {a : Option Addr} {c base : Nat} {r : Rec}
theorem wf_more {es : List Ev} {v : Ev} (h : ∀ u ∈ evFlat es, (Lit.int .i64 u).wf = true) (hv : ∀ u ∈ evFlat [v], (Lit.int .i64 u).wf = true) : ∀ u ∈ evFlat (es ++ [v]), (Lit.int .i64 u).wf = true := by
  intro u hu
  rw [evFlat_append] at hu
  rcases List.mem_append.1 hu with h1 | h1
  · exact h u h1
  · exact hv u h1
theorem plain_create : Plain w 57 B a c r (createOf B r) :=
  ⟨enters_of Tryz.func57 (by kernel_rfl) rfl, fun W _ => (create_deed B a c r W).mono fun x w' ⟨h1, h2⟩ => ⟨h1.b (fun D hD u hu => by unfold createOf at hD; split at hD <;> cases hD; cases hu), below_grows _ h2⟩⟩
theorem plain_forget : Plain w 63 B a c r (some (forgetD B)) :=
  ⟨enters_of Tryz.func63 (by kernel_rfl) rfl, fun W _ => (forget_deed B a c r W).mono fun x w' ⟨h1, h2⟩ => ⟨h1.b (fun D hD u hu => by cases hD; cases hu), below_grows _ h2⟩⟩
theorem plain_add (hown : w.ownsRow base 28 6 (.slice a B.es.length c) B.es.length ((evFlat B.es).map (Value.int .i64))) (hb : base ≤ w.heap.size) (hs : B.es.length ≤ 2000) (hw : ∀ u ∈ evFlat B.es, (Lit.int .i64 u).wf = true) (hv : ∀ u ∈ evFlat [r.v], (Lit.int .i64 u).wf = true) : Plain w 59 B a c r (some (B.more [r.v])) :=
  ⟨enters_of Tryz.func59 (by kernel_rfl) rfl, fun W b => (add_deed B a c r W base (below_still hown b) (Nat.le_trans hb b.size) hs).mono fun x w' ⟨h1, h2⟩ => ⟨h1.b (fun D hD => by cases hD; exact wf_more hw hv), h2⟩⟩
theorem plain_activate (hown : w.ownsRow base 28 6 (.slice a B.es.length c) B.es.length ((evFlat B.es).map (Value.int .i64))) (hb : base ≤ w.heap.size) (hs : B.es.length ≤ 2000) (hw : ∀ u ∈ evFlat B.es, (Lit.int .i64 u).wf = true) : Plain w 62 B a c r (some ⟨1, B.e, 0, B.t, B.o, B.es ++ [Ev.brk]⟩) :=
  ⟨enters_of Tryz.func62 (by kernel_rfl) rfl, fun W b => (activate_deed B a c r W base (below_still hown b) (Nat.le_trans hb b.size) hs).mono fun x w' ⟨h1, h2⟩ => ⟨h1.b (fun D hD => by cases hD; exact wf_more hw (by decide)), h2⟩⟩
theorem plain_seal (hown : w.ownsRow base 28 6 (.slice a B.es.length c) B.es.length ((evFlat B.es).map (Value.int .i64))) (hw : ∀ u ∈ evFlat B.es, (Lit.int .i64 u).wf = true) : Plain w 60 B a c r (some ⟨3, B.e, B.f, r.p, B.o, B.es⟩) :=
  ⟨enters_of Tryz.func60 (by kernel_rfl) rfl, fun W b => (seal_deed B a c r W base (below_still hown b)).mono fun x w' ⟨h1, h2⟩ => ⟨h1.b (fun D hD => by cases hD; exact hw), h2⟩⟩
theorem plain_begin (hown : w.ownsRow base 28 6 (.slice a B.es.length c) B.es.length ((evFlat B.es).map (Value.int .i64))) (ok : B.Ok) (hw : ∀ u ∈ evFlat B.es, (Lit.int .i64 u).wf = true) : Plain w 61 B a c r (beginD B r) :=
  ⟨enters_of Tryz.func61 (by kernel_rfl) rfl, fun W b => (begin_deed B a c r W base (below_still hown b) ok hw).mono fun x w' ⟨h1, h2⟩ => ⟨h1, below_grows _ h2⟩⟩
theorem Plain.doer {N : Nat} {o : Option Bt} (h : Plain w N B a c r o) : Doer w (.func (.func N) #[] #[]) B a c r o := ⟨N, #[], rfl, h.1, h.2⟩
theorem below_far {w W W' : World} (b : Below w.heap.size w W) (b' : Below W.heap.size W W') : Below w.heap.size w W' := Below.next b b'
theorem doer_al {v : Value} {N : Nat} {o : Option Bt} (hv : IsAl w v N) (h : Plain w N B a c r o) (hr : ∀ k, (Value.slice a B.es.length c).ownBlock = some k → k < w.heap.size) : Doer w v B a c r (aloneD r o) := by
  obtain ⟨Q, rfl, hq⟩ := hv
  exact ⟨_, _, rfl, enters_of Tryz.func77 (by kernel_rfl) rfl, fun W b => alonef_deed B a c r W Q N o (keeps_below b _ _ hq) (fun k hk => Nat.lt_of_lt_of_le (hr k hk) b.size) h.1 (fun W' b' => h.2 W' (below_far b b'))⟩
theorem doer_as {v : Value} {N : Nat} {role : Int} {o : Option Bt} (hv : IsAs w v role N) (h : Plain w N B a c r o) (hr : ∀ k, (Value.slice a B.es.length c).ownBlock = some k → k < w.heap.size) : Doer w v B a c r (asD B r role o) := by
  obtain ⟨P, Q, rfl, hp, hq⟩ := hv
  exact ⟨_, _, rfl, enters_of Tryz.func78 (by kernel_rfl) rfl, fun W b => asf_deed B a c r W P Q N role o (keeps_below b _ _ hp) (keeps_below b _ _ hq) (fun k hk => Nat.lt_of_lt_of_le (hr k hk) b.size) h.1 (fun W' b' => h.2 W' (below_far b b'))⟩
theorem doer_aa {v : Value} {N : Nat} {role : Int} {o : Option Bt} (hv : IsAA w v role N) (h : Plain w N B a c r o) (hr : ∀ k, (Value.slice a B.es.length c).ownBlock = some k → k < w.heap.size) : Doer w v B a c r (aloneD r (asD B r role o)) := by
  obtain ⟨Q, u, rfl, hq, P1, P2, rfl, hp1, hp2⟩ := hv
  exact ⟨_, _, rfl, enters_of Tryz.func77 (by kernel_rfl) rfl, fun W b => alonef_as B a c r W Q 78 P1 P2 _ (keeps_below b _ _ hq) (fun k hk => Nat.lt_of_lt_of_le (hr k hk) b.size) (enters_of Tryz.func78 (by kernel_rfl) rfl)
    (fun W' b' => asf_deed B a c r W' P1 P2 N role o (keeps_below (below_far b b') _ _ hp1) (keeps_below (below_far b b') _ _ hp2) (fun k hk => Nat.lt_of_lt_of_le (hr k hk) (below_far b b').size) h.1 (fun W'' b'' => h.2 W'' (below_far (below_far b b') b'')))⟩
/-- the function that the table has for a record. -/
theorem Table.doer {M : Nat} {v1 v2 v3 v5 v6 v7 : Value} (t : Table w M v1 v2 v3 v5 v6 v7) (hown : w.ownsRow base 28 6 (.slice a B.es.length c) B.es.length ((evFlat B.es).map (Value.int .i64))) (hb : base ≤ w.heap.size) (ok : B.Ok) (hw : ∀ u ∈ evFlat B.es, (Lit.int .i64 u).wf = true) (hv : ∀ u ∈ evFlat [r.v], (Lit.int .i64 u).wf = true) (hk : r.k = 1 ∨ r.k = 2 ∨ r.k = 3 ∨ r.k = 4 ∨ r.k = 5 ∨ r.k = 6 ∨ r.k = 7) :
    ∃ v, (Instr.lookup 64 (.map (some M)) (.int .i64 r.k) false).run Tryz.prog w = .ok v w ∧ Doer w v B a c r (deedOf B r) := by
  obtain ⟨l1, l2, l3, l4, l5, l6, l7⟩ := run_deedAt t
  have hr : ∀ k, (Value.slice a B.es.length c).ownBlock = some k → k < w.heap.size := fun k hk => (hown.lt k hk).2
  rcases hk with e | e | e | e | e | e | e <;> rw [e]
  · refine ⟨_, l1, ?_⟩
    have : deedOf B r = aloneD r (createOf B r) := by unfold deedOf aloneD createOf; rw [if_pos e]; by_cases g : r.p = 0 <;> simp [g]
    rw [this]
    exact doer_al t.d1 plain_create hr
  · refine ⟨_, l2, ?_⟩
    have : deedOf B r = aloneD r (asD B r 1 (some (B.more [r.v]))) := by unfold deedOf aloneD asD; rw [if_neg (by omega), if_pos e]; by_cases g : r.p = 0 <;> by_cases g1 : B.e = r.e <;> by_cases g2 : B.r = 1 <;> simp [g, g1, g2]
    rw [this]
    exact doer_aa t.d2 (plain_add hown hb ok.len hw hv) hr
  · refine ⟨_, l3, ?_⟩
    have : deedOf B r = asD B r 1 (some ⟨3, B.e, B.f, r.p, B.o, B.es⟩) := by unfold deedOf asD; rw [if_neg (by omega), if_neg (by omega), if_pos e]; by_cases g1 : B.e = r.e <;> by_cases g2 : B.r = 1 <;> simp [g1, g2]
    rw [this]
    exact doer_as t.d3 (plain_seal hown hw) hr
  · refine ⟨_, l4, ?_⟩
    have : deedOf B r = beginD B r := by unfold deedOf beginD; rw [if_neg (by omega), if_neg (by omega), if_neg (by omega), if_pos e]
    rw [this]
    exact (plain_begin hown ok hw).doer
  · refine ⟨_, l5, ?_⟩
    have : deedOf B r = aloneD r (asD B r 4 (some (B.more [r.v]))) := by unfold deedOf aloneD asD; rw [if_neg (by omega), if_neg (by omega), if_neg (by omega), if_neg (by omega), if_pos e]; by_cases g : r.p = 0 <;> by_cases g1 : B.e = r.e <;> by_cases g2 : B.r = 4 <;> simp [g, g1, g2]
    rw [this]
    exact doer_aa t.d5 (plain_add hown hb ok.len hw hv) hr
  · refine ⟨_, l6, ?_⟩
    have : deedOf B r = aloneD r (asD B r 4 (some ⟨1, B.e, 0, B.t, B.o, B.es ++ [Ev.brk]⟩)) := by unfold deedOf aloneD asD; rw [if_neg (by omega), if_neg (by omega), if_neg (by omega), if_neg (by omega), if_neg (by omega), if_pos e]; by_cases g : r.p = 0 <;> by_cases g1 : B.e = r.e <;> by_cases g2 : B.r = 4 <;> simp [g, g1, g2]
    rw [this]
    exact doer_aa t.d6 (plain_activate hown hb ok.len hw) hr
  · refine ⟨_, l7, ?_⟩
    have : deedOf B r = aloneD r (asD B r 3 (some (forgetD B))) := by unfold deedOf aloneD asD forgetD; rw [if_neg (by omega), if_neg (by omega), if_neg (by omega), if_neg (by omega), if_neg (by omega), if_neg (by omega)]; by_cases g : r.p = 0 <;> by_cases g1 : B.e = r.e <;> by_cases g2 : B.r = 3 <;> simp [g, g1, g2]
    rw [this]
    exact doer_aa t.d7 plain_forget hr
end
end Go.Proofs.YtcdopnkabbfooaaGreat
