/- Walks of tape.safe, Sync and Crash, and of the document's answer's TapeSynced and TapeCrashed. -/
import Derived.Test.YtlfecmkpafgcmaaTpB
import Derived.Test.YtlfecmkpafgcmaaPkJ
namespace Go.Proofs.Ytlfecmkpafgcmaa
open Go.RowKit

/-- a tape in memory: its two cells at a block of its own. -/
def tapeBlock (w : World) (R : Nat) (a : Option Addr) (len cap : Nat) (s : Int) : Prop := w.heap[R]? = some (.cells #[.slice a len cap, .int .i64 s] 54 (0, 0))
theorem tapeBlock.cell0 {w : World} {R : Nat} {a : Option Addr} {len cap : Nat} {s : Int} (h : tapeBlock w R a len cap s) : w.cell? ⟨R, 0, none⟩ = some (.slice a len cap) := by
  unfold tapeBlock at h; simp [World.cell?, h]
theorem tapeBlock.cell1 {w : World} {R : Nat} {a : Option Addr} {len cap : Nat} {s : Int} (h : tapeBlock w R a len cap s) : w.cell? ⟨R, 1, none⟩ = some (.int .i64 s) := by
  unfold tapeBlock at h; simp [World.cell?, h]
theorem tapeBlock.free {w : World} {R : Nat} {a : Option Addr} {len cap : Nat} {s : Int} (h : tapeBlock w R a len cap s) (o : Nat) : w.frozen? ⟨R, o, none⟩ = false := by
  unfold tapeBlock at h; simp [World.frozen?, h]
theorem tapeBlock.lt {w : World} {R : Nat} {a : Option Addr} {len cap : Nat} {s : Int} (h : tapeBlock w R a len cap s) : R < w.heap.size := by
  unfold tapeBlock at h
  rcases Nat.lt_or_ge R w.heap.size with h' | h'
  · exact h'
  · simp [Array.getElem?_eq_none h'] at h
theorem tapeBlock.below {w w' : World} {R B : Nat} {a : Option Addr} {len cap : Nat} {s : Int} (h : tapeBlock w R a len cap s) (hb : Below B w w') (hR : R < B) : tapeBlock w' R a len cap s := by
  unfold tapeBlock at h ⊢; rw [← h]; exact hb.block R hR
theorem tapeBlock.new (w : World) (a : Option Addr) (len cap : Nat) (s : Int) : tapeBlock (w.alloc (.cells #[.slice a len cap, .int .i64 s] 54)) w.heap.size a len cap s := heap_alloc_new w _

theorem tapeBlock.store {w : World} {R : Nat} {a : Option Addr} {len cap : Nat} {s : Int} (h : tapeBlock w R a len cap s) (a' : Option Addr) (len' cap' : Nat) (s' : Int) :
    tapeBlock ((w.setCell ⟨R, 0, none⟩ (.slice a' len' cap')).setCell ⟨R, 1, none⟩ (.int .i64 s')) R a' len' cap' s' := by
  unfold tapeBlock at h ⊢
  have h1 : (w.setCell ⟨R, 0, none⟩ (.slice a' len' cap')).heap[R]? = some (.cells #[.slice a' len' cap', .int .i64 s] 54 (0, 0)) := by
    rw [setCell_eq_setRow w R 0 _ _ (0, 0) _ h, setRow_heap w R _ _ _ _ h]
    simp
  rw [setCell_eq_setRow _ R 1 _ _ (0, 0) _ h1, setRow_heap _ R _ _ _ _ h1]
  simp
theorem tape_same (w : World) (R : Nat) (v v' : Value) : SameBut R w ((w.setCell ⟨R, 0, none⟩ v).setCell ⟨R, 1, none⟩ v') := (SameBut.set R 0 w v).trans (SameBut.set R 1 _ v')
/-- a world in which a block alone was changed that is not below. -/
theorem SameBut.under {R B : Nat} {w w1 w2 : World} (hb : Below B w w1) (h : SameBut R w1 w2) (hR : B ≤ R) : Below B w w2 :=
  ⟨h.os.trans hb.os, h.tape.trans hb.tape, h.output.trans hb.output, by rw [h.size]; exact hb.size, fun k hk => (h.block k (by omega)).trans (hb.block k hk)⟩

theorem ret_safe {W : World} {R : Nat} {a : Option Addr} {len cap : Nat} {s : Int} {tmps : Array Value} (h : tapeBlock W R a len cap s) (t : tmps[2]? = some (.pointer (some ⟨R, 0, none⟩))) :
    (results Try.f31 tmps).run Try.prog W = .ok (.agg #[.slice a len cap, .int .i64 s]) W := by
  have k0 := h.cell0
  have k1 := h.cell1
  simp [results, Try.results31, go_sem, k0, k1, t]
theorem ret_Sync {W : World} {R : Nat} {a : Option Addr} {len cap : Nat} {s e : Int} {tmps : Array Value} (h : tapeBlock W R a len cap s) (t : tmps[2]? = some (.pointer (some ⟨R, 0, none⟩))) (te : tmps[3]? = some (.int .i64 e)) :
    (results Try.f15 tmps).run Try.prog W = .ok (.tuple #[.agg #[.slice a len cap, .int .i64 s], .int .i64 e]) W := by
  have k0 := h.cell0
  have k1 := h.cell1
  simp [results, Try.results15, go_sem, k0, k1, t, te]
theorem ret_Crash {W : World} {R : Nat} {a : Option Addr} {len cap : Nat} {s e : Int} {tmps : Array Value} (h : tapeBlock W R a len cap s) (t : tmps[4]? = some (.pointer (some ⟨R, 0, none⟩))) (te : tmps[5]? = some (.int .i64 e)) :
    (results Try.f18 tmps).run Try.prog W = .ok (.tuple #[.agg #[.slice a len cap, .int .i64 s], .int .i64 e]) W := by
  have k0 := h.cell0
  have k1 := h.cell1
  simp [results, Try.results18, go_sem, k0, k1, t, te]
set_option maxRecDepth 20000 in
set_option maxHeartbeats 400000 in
theorem safe_any (a : Option Addr) (len cap : Nat) (l : List Int) (w : World) (h : RowK .u8 w a len l) (hn : a = none → cap = 0) (hm : len ≤ 1000000) :
    Calls Try.prog 31 #[.slice a len cap] w fun e w' =>
      ∃ a' cap', e = .returned (.agg #[.slice a' len cap', .int .i64 len]) ∧ RowK .u8 w' a' len l ∧ len ≤ cap' ∧ (a' = none → cap' = 0) ∧ cap' ≤ 9223372036854775807 ∧ (∀ x, a' = some x → w.heap.size ≤ x.block) ∧ Below w.heap.size w w' := by
  go_enter Try.func31, Try.ntmps31
  go_wp2_with fail
  refine (joined_any (w.heap.size + 1) 0 1 [⟨a, len, cap, l⟩] _ (by simp) (by simp) (by simp [sizes]; omega) ?_ ?_).mono ?_
  · intro k hk
    match k, hk with
    | 0, _ => simp
  · intro k hk
    match k, hk with
    | 0, _ => exact ⟨h.below (below2 _ _ _), hn⟩
  rintro e w1 ⟨a', cap', rfl, r1, c1, n1, m1, x1, b1⟩
  have e1 : sizes [⟨a, len, cap, l⟩] = len := by simp [sizes]
  have e2 : jointly [⟨a, len, cap, l⟩] = l := by simp [jointly]
  rw [e1, e2] at r1
  rw [e1] at c1 ⊢
  clear e1 e2
  have tb : tapeBlock w1 w.heap.size none 0 0 0 := (((tapeBlock.new w none 0 0 0).below (below1 _ _) (by simp)).below b1 (by simp; omega))
  have k0 := tb.cell0
  have k1 := tb.cell1
  have kf := tb.free
  have B1 := hide (below2t b1)
  have X1 : Hid (∀ x, a' = some x → w.heap.size + 1 ≤ x.block) := hide (fun x hx => by have := x1 x hx; simp at this; omega)
  clear b1 x1
  go_wp2
  refine bodyPost_ret (ret_safe (tb.store a' len cap' len) rfl) rfl ⟨a', cap', rfl, (tape_same w1 w.heap.size _ _).row r1 (fun x hx _ => by have := unhide X1 x hx; omega), c1, n1, m1, fun x hx => by have := unhide X1 x hx; omega, (tape_same w1 w.heap.size _ _).under (unhide B1) (Nat.le_refl _)⟩
end Go.Proofs.Ytlfecmkpafgcmaa
