/- The walk of queue.methods: a table of the four methods, by kind; the walk of queue.unchanged. -/
import Derived.Test.YtcdopnkabbfooaaGreatQuH
import Derived.WideMake
namespace Go.Proofs.YtcdopnkabbfooaaGreat
open Go.RowKit

theorem run_insert {w : World} {B clock : Nat} {es : Array MapEntry} {z : Int} {v : Value} (hb : w.heap[B]? = some (.map es clock)) (hf : Instr.findNow (.int .i64) (.int .i64 z) es.toList 0 = some none) :
    (Instr.mapUpdate 121 (.map (some B)) (.int .i64 z) v).run Tryz.prog w = .ok () { w with heap := w.heap.setIfInBounds B (.map (es.push ⟨.int .i64 z, v, clock⟩) (clock + 1)) } := by
  have hc : (Instr.checkKey false 10000 3 (.int .i64 z)).run Tryz.prog w = .ok () w := MapKept.run_checkKey (k := .int .i64 z) Tryz.underlying3 (by simp [MapKept.IsKey]) false 9999
  simp [Instr.mapUpdate, run_underlying Tryz.underlying121, MapKept.run_getObj_map hb, hc, MapKept.run_findKey Tryz.underlying3 hf, MapKept.run_setObj_map _ hb, Result.andThen]

/-- one entry more in a table that the call has made. -/
theorem m_insert {ops : Array Oper} {rest : List Oper} {o : Oper} {a : Act} {Q : Exit → Act → World → Prop} {w : World} {B clock : Nat} {es : Array MapEntry} {z : Int} {v : Value} (m k x : Operand) (ho : o.op = .insert 121 m k x) (hw : Region.wanted o (yielded ops a.tmps) = true)
    (hm : a.eval m = .map (some B)) (hk : a.eval k = .int .i64 z) (hx : a.eval x = v) (hb : w.heap[B]? = some (.map es clock)) (hf : Instr.findNow (.int .i64) (.int .i64 z) es.toList 0 = some none)
    (h : ∀ w', w'.heap[B]? = some (.map (es.push ⟨.int .i64 z, v, clock⟩) (clock + 1)) → Turned B w w' → wpList Tryz.prog ops Q rest (a.put o.dst undef) w') : wpList Tryz.prog ops Q (o :: rest) a w :=
  wpList_step fun K hK => by
    rw [if_pos hw]
    have hrun := run_insert (v := v) hb hf
    have hs := MapKept.heap_set (o' := .map (es.push ⟨.int .i64 z, v, clock⟩) (clock + 1)) hb
    have := hK _ _ (h { w with heap := w.heap.setIfInBounds B (.map (es.push ⟨.int .i64 z, v, clock⟩) (clock + 1)) } hs.1 ⟨rfl, rfl, rfl, by simp, fun r hr => hs.2 r hr⟩)
    unfold Oper.wp
    simp only [execOp, ho, hm, hk, hx]
    simp [hrun, Result.andThen]
    exact this
theorem m_make {ops : Array Oper} {rest : List Oper} {o : Oper} {a : Act} {Q : Exit → Act → World → Prop} {w : World} (ho : o.op = .makeMap 121 none) (hw : Region.wanted o (yielded ops a.tmps) = true)
    (h : ∀ w', w'.heap[w.heap.size]? = some (.map #[] 0) → Below w.heap.size w w' → wpList Tryz.prog ops Q rest (a.put o.dst (.map (some w.heap.size))) w') : wpList Tryz.prog ops Q (o :: rest) a w :=
  wpList_step fun K hK => by
    rw [if_pos hw]
    have := hK _ _ (h _ (heap_alloc_new w _) (below1 _ _))
    unfold Oper.wp
    simp only [execOp, ho]
    simp [run_makeMap_plain, Result.andThen]
    exact this

/-- the table. -/
def methods4 : Obj := .map #[⟨.int .i64 1, .func (.func 96) #[] #[], 0⟩, ⟨.int .i64 2, .func (.func 97) #[] #[], 1⟩, ⟨.int .i64 3, .func (.func 98) #[] #[], 2⟩, ⟨.int .i64 4, .func (.func 99) #[] #[], 3⟩] 4

set_option maxRecDepth 20000 in
set_option maxHeartbeats 1000000 in
theorem methods_any (w : World) :
    Calls Tryz.prog 87 #[] w fun e w' => e = .returned (.map (some w.heap.size)) ∧ w'.heap[w.heap.size]? = some methods4 ∧ Below w.heap.size w w' := by
  go_enter Tryz.func87, Tryz.ntmps87
  go_wp2_with (first
    | (refine m_make rfl rfl ?_; intro W1 m1 b1; have k1 := veil b1; clear b1)
    | (refine m_insert (es := #[]) _ _ _ rfl rfl rfl rfl rfl m1 rfl ?_; intro W2 m2 t2; have k2 := veil (t2.under (unveil k1) (Nat.le_refl _)); clear t2 m1)
    | (refine m_insert (clock := 1) _ _ _ rfl rfl rfl rfl rfl m2 rfl ?_; intro W3 m3 t3; have k3 := veil (t3.under (unveil k2) (Nat.le_refl _)); clear t3 m2)
    | (refine m_insert (clock := 2) _ _ _ rfl rfl rfl rfl rfl m3 rfl ?_; intro W4 m4 t4; have k4 := veil (t4.under (unveil k3) (Nat.le_refl _)); clear t4 m3)
    | (refine m_insert (clock := 3) _ _ _ rfl rfl rfl rfl rfl m4 rfl ?_; intro W5 m5 t5; have k5 := veil (t5.under (unveil k4) (Nat.le_refl _)); clear t5 m4; have M5 := veil m5; clear m5))
  go_ret
  exact ⟨rfl, unveil M5, unveil k5⟩

/-- which method is for an event's kind. -/
def methodOf (k : Int) : Nat := if k = 1 then 96 else if k = 2 then 97 else if k = 3 then 98 else 99
theorem run_method {w : World} {B : Nat} (h : w.heap[B]? = some methods4) : ∀ k : Int, (k = 1 ∨ k = 2 ∨ k = 3 ∨ k = 4) →
    (Instr.lookup 121 (.map (some B)) (.int .i64 k) false).run Tryz.prog w = .ok (.func (.func (methodOf k)) #[] #[]) w := by
  intro k hk
  have hc : (Instr.checkKey false 10000 3 (.int .i64 k)).run Tryz.prog w = .ok () w := MapKept.run_checkKey (k := .int .i64 k) Tryz.underlying3 (by simp [MapKept.IsKey]) false 9999
  unfold methods4 at h
  rcases hk with rfl | rfl | rfl | rfl
  · have hf : Instr.findNow (.int .i64) (.int .i64 1) [(⟨.int .i64 1, .func (.func 96) #[] #[], 0⟩ : MapEntry), ⟨.int .i64 2, .func (.func 97) #[] #[], 1⟩, ⟨.int .i64 3, .func (.func 98) #[] #[], 2⟩, ⟨.int .i64 4, .func (.func 99) #[] #[], 3⟩] 0 = some (some (0, .func (.func 96) #[] #[])) := rfl
    simp [Instr.lookup, run_underlying Tryz.underlying121, MapKept.run_getObj_map h, hc, MapKept.run_findKey Tryz.underlying3 hf, Result.andThen, methodOf]
  · have hf : Instr.findNow (.int .i64) (.int .i64 2) [(⟨.int .i64 1, .func (.func 96) #[] #[], 0⟩ : MapEntry), ⟨.int .i64 2, .func (.func 97) #[] #[], 1⟩, ⟨.int .i64 3, .func (.func 98) #[] #[], 2⟩, ⟨.int .i64 4, .func (.func 99) #[] #[], 3⟩] 0 = some (some (1, .func (.func 97) #[] #[])) := rfl
    simp [Instr.lookup, run_underlying Tryz.underlying121, MapKept.run_getObj_map h, hc, MapKept.run_findKey Tryz.underlying3 hf, Result.andThen, methodOf]
  · have hf : Instr.findNow (.int .i64) (.int .i64 3) [(⟨.int .i64 1, .func (.func 96) #[] #[], 0⟩ : MapEntry), ⟨.int .i64 2, .func (.func 97) #[] #[], 1⟩, ⟨.int .i64 3, .func (.func 98) #[] #[], 2⟩, ⟨.int .i64 4, .func (.func 99) #[] #[], 3⟩] 0 = some (some (2, .func (.func 98) #[] #[])) := rfl
    simp [Instr.lookup, run_underlying Tryz.underlying121, MapKept.run_getObj_map h, hc, MapKept.run_findKey Tryz.underlying3 hf, Result.andThen, methodOf]
  · have hf : Instr.findNow (.int .i64) (.int .i64 4) [(⟨.int .i64 1, .func (.func 96) #[] #[], 0⟩ : MapEntry), ⟨.int .i64 2, .func (.func 97) #[] #[], 1⟩, ⟨.int .i64 3, .func (.func 98) #[] #[], 2⟩, ⟨.int .i64 4, .func (.func 99) #[] #[], 3⟩] 0 = some (some (3, .func (.func 99) #[] #[])) := rfl
    simp [Instr.lookup, run_underlying Tryz.underlying121, MapKept.run_getObj_map h, hc, MapKept.run_findKey Tryz.underlying3 hf, Result.andThen, methodOf]

/-- an answer's cells. -/
abbrev ansVal (c he no bd : Int) : Value := .agg #[.int .i64 c, .int .i64 he, .int .i64 no, .int .i64 bd]
/-- an answer in memory, at a block of its own. -/
def ansBlock (w : World) (R : Nat) (c he no bd : Int) : Prop := w.heap[R]? = some (.cells #[.int .i64 c, .int .i64 he, .int .i64 no, .int .i64 bd] 75 (0, 0))
theorem ansBlock.cells {w : World} {R : Nat} {c he no bd : Int} (h : ansBlock w R c he no bd) : w.cell? ⟨R, 0, none⟩ = some (.int .i64 c) ∧ w.cell? ⟨R, 1, none⟩ = some (.int .i64 he) ∧ w.cell? ⟨R, 2, none⟩ = some (.int .i64 no) ∧ w.cell? ⟨R, 3, none⟩ = some (.int .i64 bd) := by
  unfold ansBlock at h; simp [World.cell?, h]
theorem ansBlock.free {w : World} {R : Nat} {c he no bd : Int} (h : ansBlock w R c he no bd) (o : Nat) : w.frozen? ⟨R, o, none⟩ = false := by
  unfold ansBlock at h; simp [World.frozen?, h]
theorem ansBlock.lt {w : World} {R : Nat} {c he no bd : Int} (h : ansBlock w R c he no bd) : R < w.heap.size := by
  unfold ansBlock at h
  rcases Nat.lt_or_ge R w.heap.size with h' | h'
  · exact h'
  · simp [Array.getElem?_eq_none h'] at h
theorem ansBlock.below {w w' : World} {R B : Nat} {c he no bd : Int} (h : ansBlock w R c he no bd) (hb : Below B w w') (hR : R < B) : ansBlock w' R c he no bd := by
  unfold ansBlock at h ⊢; rw [← h]; exact hb.block R hR
theorem ansBlock.next {w w' : World} {R : Nat} {c he no bd : Int} (h : ansBlock w R c he no bd) (hb : Below w.heap.size w w') : ansBlock w' R c he no bd := h.below hb h.lt
theorem ansBlock.new (w : World) (c he no bd : Int) : ansBlock (w.alloc (.cells #[.int .i64 c, .int .i64 he, .int .i64 no, .int .i64 bd] 75)) w.heap.size c he no bd := heap_alloc_new w _
theorem ansBlock.turned {w w' : World} {R R' : Nat} {c he no bd : Int} (h : ansBlock w R c he no bd) (t : Turned R' w w') (hR : R ≠ R') : ansBlock w' R c he no bd := by
  unfold ansBlock at h ⊢; rw [t.block R hR]; exact h
/-- an answer stored over another one. -/
abbrev ansStore (w : World) (R : Nat) (c he no bd : Int) : World := (((w.setCell ⟨R, 0, none⟩ (.int .i64 c)).setCell ⟨R, 1, none⟩ (.int .i64 he)).setCell ⟨R, 2, none⟩ (.int .i64 no)).setCell ⟨R, 3, none⟩ (.int .i64 bd)
theorem ansBlock.store {w : World} {R : Nat} {c he no bd : Int} (h : ansBlock w R c he no bd) (c' he' no' bd' : Int) : ansBlock (ansStore w R c' he' no' bd') R c' he' no' bd' := by
  unfold ansBlock at h ⊢
  rw [ansStore, heap_set (heap_set (heap_set (heap_set h)))]
  simp
theorem ans_turned (w : World) (R : Nat) (c he no bd : Int) : Turned R w (ansStore w R c he no bd) :=
  (((Turned.set R 0 w _).trans (Turned.set R 1 _ _)).trans (Turned.set R 2 _ _)).trans (Turned.set R 3 _ _)
theorem ret_unchanged {W : World} {R : Nat} {c he no bd : Int} {b : Bool} {tmps : Array Value} (h : ansBlock W R c he no bd) (t : tmps[2]? = some (.pointer (some ⟨R, 0, none⟩))) (tb : tmps[3]? = some (.bool b)) :
    (results Tryz.f110 tmps).run Tryz.prog W = .ok (.tuple #[ansVal c he no bd, .bool b]) W := by
  obtain ⟨k0, k1, k2, k3⟩ := h.cells
  simp [results, Tryz.results110, go_sem, k0, k1, k2, k3, t, tb]
set_option maxHeartbeats 400000 in
theorem unchanged_any (c : Int) (w : World) :
    Calls Tryz.prog 110 #[.int .i64 c] w fun e w' => e = .returned (.tuple #[ansVal c 0 0 0, .bool false]) ∧ Below w.heap.size w w' := by
  go_enter Tryz.func110, Tryz.ntmps110
  go_wp2
  exact bodyPost_ret (ret_unchanged (ansBlock.new w _ _ _ _) rfl rfl) rfl ⟨rfl, below1 _ _⟩
end Go.Proofs.YtcdopnkabbfooaaGreat
