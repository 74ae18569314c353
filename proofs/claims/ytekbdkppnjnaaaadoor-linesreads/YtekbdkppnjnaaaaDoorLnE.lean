/- The table of kinds, and the walk of lines.kindOf. -/
import Derived.Test.YtekbdkppnjnaaaaDoorLnD
namespace Go.Proofs.YtekbdkppnjnaaaaDoor
open Go.RowKit

def kList : List Value := [.string (kword 0), .int .i64 (kact 0), .int .i64 (kop 0), .string (kword 1), .int .i64 (kact 1), .int .i64 (kop 1), .string (kword 2), .int .i64 (kact 2), .int .i64 (kop 2), .string (kword 3), .int .i64 (kact 3), .int .i64 (kop 3), .string (kword 4), .int .i64 (kact 4), .int .i64 (kop 4), .string (kword 5), .int .i64 (kact 5), .int .i64 (kop 5),
  .string (kword 6), .int .i64 (kact 6), .int .i64 (kop 6), .string (kword 7), .int .i64 (kact 7), .int .i64 (kop 7), .string (kword 8), .int .i64 (kact 8), .int .i64 (kop 8), .string (kword 9), .int .i64 (kact 9), .int .i64 (kop 9), .string (kword 10), .int .i64 (kact 10), .int .i64 (kop 10), .string (kword 11), .int .i64 (kact 11), .int .i64 (kop 11)]
theorem kList_len : kList.length = 36 := rfl
/-- the table lies where the program keeps it. -/
def Kinds (w : World) : Prop := ∃ e fz, w.heap[0]? = some (.cells kList.toArray e fz)
theorem Kinds.lt {w : World} (h : Kinds w) : 0 < w.heap.size := by obtain ⟨e, fz, h⟩ := h; exact block_lt h
theorem Kinds.next {w w' : World} (h : Kinds w) (b : Below w.heap.size w w') : Kinds w' := by
  have hl := h.lt
  obtain ⟨e, fz, h⟩ := h
  exact ⟨e, fz, (b.block 0 hl).trans h⟩
theorem Kinds.turned {w w' : World} {R : Nat} (h : Kinds w) (t : Turned R w w') (hR : 0 ≠ R) : Kinds w' := by
  obtain ⟨e, fz, h⟩ := h
  exact ⟨e, fz, (t.block 0 hR).trans h⟩
theorem Kinds.range {w : World} (h : Kinds w) : w.rangeAt 0 0 kList := by
  obtain ⟨e, fz, h⟩ := h
  intro j v hj
  simp [World.cell?, h, hj]
theorem run_index_kinds : ∀ k : Nat, k < 12 → ∀ w : World, (Instr.index 79 (.agg kList.toArray) (.int .i64 k)).run Tryd.prog w = .ok (kVal k) w := by
  intro k hk w
  revert k
  refine below12 ?_ ?_ ?_ ?_ ?_ ?_ ?_ ?_ ?_ ?_ ?_ ?_ <;> (simp [Instr.index, run_underlying Tryd.underlying79, asIntOf, go_sem, kList])
def kBlock (w : World) (R : Nat) (s : ByteArray) (a o : Int) : Prop := w.heap[R]? = some (.cells #[.string s, .int .i64 a, .int .i64 o] 49 (0, 0))
section
variable {w w' : World} {R : Nat} {s : ByteArray} {a o : Int}
theorem kBlock.cells (h : kBlock w R s a o) : w.cell? ⟨R, 0, none⟩ = some (.string s) ∧ w.cell? ⟨R, 1, none⟩ = some (.int .i64 a) ∧ w.cell? ⟨R, 2, none⟩ = some (.int .i64 o) := by
  unfold kBlock at h; simp [World.cell?, h]
theorem kBlock.free (h : kBlock w R s a o) (i : Nat) : w.frozen? ⟨R, i, none⟩ = false := by
  unfold kBlock at h; simp [World.frozen?, h]
theorem kBlock.lt (h : kBlock w R s a o) : R < w.heap.size := block_lt h
theorem kBlock.next (h : kBlock w R s a o) (b : Below w.heap.size w w') : kBlock w' R s a o := (b.block R h.lt).trans h
theorem kBlock.new (w : World) (s : ByteArray) (a o : Int) : kBlock (w.alloc (.cells #[.string s, .int .i64 a, .int .i64 o] 49)) w.heap.size s a o := heap_alloc_new w _
theorem kBlock.store (h : kBlock w R s a o) (s' : ByteArray) (a' o' : Int) : kBlock (((w.setCell ⟨R, 0, none⟩ (.string s')).setCell ⟨R, 1, none⟩ (.int .i64 a')).setCell ⟨R, 2, none⟩ (.int .i64 o')) R s' a' o' := by
  unfold kBlock at h ⊢
  rw [heap_setA (heap_setA (heap_setA h))]
  simp
theorem kStore_turn (w : World) (R : Nat) (s : ByteArray) (a o : Int) : Turned R w (((w.setCell ⟨R, 0, none⟩ (.string s)).setCell ⟨R, 1, none⟩ (.int .i64 a)).setCell ⟨R, 2, none⟩ (.int .i64 o)) :=
  ((Turned.set R _ w _).trans (Turned.set R _ _ _)).trans (Turned.set R _ _ _)
theorem load_kind (d : kBlock w R s a o) : (loadVar 49 ⟨R, 0, none⟩).run Tryd.prog w = .ok (.agg #[.string s, .int .i64 a, .int .i64 o]) w :=
  run_loadVar_row (P := Tryd.prog) w R 49 49 _ (0, 0) _ d Tryd.underlying49 rfl (by kernel_rfl)
theorem ret_kindOf {tmps : Array Value} {b : Bool} (d : kBlock w R s a o) (t2 : tmps[2]? = some (.pointer (some ⟨R, 0, none⟩))) (t3 : tmps[3]? = some (.bool b)) :
    (results Tryd.f22 tmps).run Tryd.prog w = .ok (.tuple #[.agg #[.string s, .int .i64 a, .int .i64 o], .bool b]) w := by
  simp [results, Tryd.results22, t2, t3, asAddr, load_kind d]
end
theorem k_stored {w wx : World} {R N : Nat} {s : ByteArray} {a o : Int} (h : kBlock wx R s a o) (bel : Below N w wx) (hN : N ≤ R) (s' : ByteArray) (a' o' : Int) :
    ∃ W, W = ((wx.setCell ⟨R, 0, none⟩ (.string s')).setCell ⟨R, 1, none⟩ (.int .i64 a')).setCell ⟨R, 2, none⟩ (.int .i64 o') ∧ kBlock W R s' a' o' ∧ Below N w W :=
  ⟨_, rfl, h.store s' a' o', (kStore_turn wx R s' a' o').under bel hN⟩
/-- the boxes of kindOf. -/
structure Kw (w wr : World) (f : Nat → Int) : Prop where
  a : aBlock wr w.heap.size f
  k : kBlock wr (w.heap.size + 1) ⟨#[]⟩ 0 0
  b : Below w.heap.size w wr
theorem Kw.next {w wr wx : World} {f : Nat → Int} (h : Kw w wr f) (b : Below wr.heap.size wr wx) : Kw w wx f := ⟨h.a.next b, h.k.next b, Below.next h.b b⟩
set_option maxRecDepth 20000 in
set_option maxHeartbeats 2000000 in
theorem kindOf_any (f : Nat → Int) (w : World) (hK : Kinds w) : Calls Tryd.prog 22 #[aVal f] w fun e w' => e = .returned (.tuple #[kVal (kno (f 0) (f 5)), .bool (decide (kno (f 0) (f 5) < 12))]) ∧ Below w.heap.size w w' := by
  obtain ⟨W1, hW1, T1⟩ : ∃ W1, W1 = (w.alloc (.cells (aCells f) 27)).alloc (.cells #[.string ⟨#[]⟩, .int .i64 0, .int .i64 0] 49) ∧ Kw w W1 f := by
    refine ⟨_, rfl, (aBlock.new w f).next (below1 _ _), ?_, below2 _ _ _⟩
    have := kBlock.new (w.alloc (.cells (aCells f) 27)) ⟨#[]⟩ 0 0
    rw [World.size_alloc] at this
    exact this
  have hR := (hK.next T1.b).range
  have HT := veil T1
  clear hK T1
  go_enter Tryd.func22, Tryd.ntmps22
  go_upto_region 1 with fail
  rw [← hW1]
  clear hW1
  go_wp2_with (refine wpList_load_mid rfl 79 (.global 0) rfl 0 0 rfl kList _ hR Tryd.underlying79 rfl (by kernel_rfl) ?_)
  clear hR
  have hix := run_index_kinds
  go_loopw [7] (fun t wr => ∃ k : Nat, k ≤ 12 ∧ t = .int .i64 k ∧ (∀ j, j < k → fitsK j (f 0) (f 5) = false) ∧ Hid (Kw w wr f)) (fun t _ => 12 - (intOf t).toNat)
  case atStart => exact ⟨0, by omega, rfl, fun j hj => by omega, HT⟩
  case round =>
    clear HT
    obtain ⟨k, hk, rfl, hno, HT⟩ := hrel
    have HN := veil hno
    clear hno
    by_cases hlt : k < 12
    case neg =>
      obtain rfl : k = 12 := by omega
      have HK12 := veil (fits_none _ _ (unveil HN))
      clear HN hix
      obtain ⟨z0, z1, z2⟩ := (unveil HT).k.cells
      have zf := (unveil HT).k.free
      go_wp2
      obtain ⟨W2, hW2, d2, b2⟩ := k_stored (unveil HT).k (unveil HT).b (by omega) ⟨#[]⟩ 0 0
      rw [← hW2]
      refine bodyPost_ret (ret_kindOf d2 rfl rfl) rfl ⟨?_, b2⟩
      rw [unveil HK12]
      rfl
    case pos =>
      have hi := hix k hlt
      clear hix
      have HF : Hid (fitsK k (f 0) (f 5) = true → kno (f 0) (f 5) = k) := veil (fits_first _ _ k hlt (unveil HN))
      have HG : Hid (fitsK k (f 0) (f 5) = false → ∀ j, j < k + 1 → fitsK j (f 0) (f 5) = false) := veil fun h j hj => by
        by_cases e : j = k
        · rw [e]; exact h
        · exact unveil HN j (by omega)
      clear HN
      have HD : Hid (fitsK k (f 0) (f 5) = (kact k == f 0 && (kop k == f 5 || kact k != 2))) := veil rfl
      obtain ⟨s, hs⟩ : ∃ s, s = kword k := ⟨_, rfl⟩
      obtain ⟨A, hA⟩ : ∃ A, A = kact k := ⟨_, rfl⟩
      obtain ⟨O, hO⟩ : ∃ O, O = kop k := ⟨_, rfl⟩
      have HV : Hid (kVal k = .agg #[.string s, .int .i64 A, .int .i64 O]) := veil (by rw [hs, hA, hO])
      rw [kVal, ← hs, ← hA, ← hO] at hi
      rw [← hA, ← hO] at HD
      clear hs hA hO
      obtain ⟨W3, hW3, k3, b3⟩ : ∃ W3, W3 = wr.alloc (.cells #[.string s, .int .i64 A, .int .i64 O] 49) ∧ kBlock W3 wr.heap.size s A O ∧ Below wr.heap.size wr W3 := ⟨_, rfl, kBlock.new _ _ _ _, below1 _ _⟩
      have HT3 := veil ((unveil HT).next b3)
      have HB3 := veil b3
      obtain ⟨x0, x1, x2, x3, x4, x5, x6, x7, x8, x9, x10⟩ := (unveil HT3).a.cells
      obtain ⟨y0, y1, y2⟩ := k3.cells
      obtain ⟨z0, z1, z2⟩ := (unveil HT3).k.cells
      have zf := (unveil HT3).k.free
      clear x1 x2 x3 x4 x6 x7 x8 x9 x10 HT k3 b3
      have HYes : Hid (fitsK k (f 0) (f 5) = true → ∀ W2, kBlock W2 (w.heap.size + 1) s A O → Value.tuple #[.agg #[.string s, .int .i64 A, .int .i64 O], .bool true] = Value.tuple #[kVal (kno (f 0) (f 5)), .bool (decide (kno (f 0) (f 5) < 12))]) := veil fun h _ _ => by
        rw [unveil HF h, unveil HV, decide_eq_true hlt]
      by_cases g1 : (A == f 0) = true
      case neg =>
        have g1' : (A == f 0) = false := by simpa using g1
        have HX := veil (unveil HG ((unveil HD).trans (by rw [g1']; rfl)))
        clear HG HF HD HV HYes g1
        go_upto_region 4 with fail
        rw [← hW3]
        clear hW3 hi
        go_wp2
        go_roundw <;> first | exact ⟨k + 1, by omega, by go_num, unveil HX, HT3⟩ | (simp [intOf]; omega)
      case pos =>
        by_cases g2 : (O == f 5) = true
        case pos =>
          have HX := veil (unveil HYes ((unveil HD).trans (by rw [g1, g2]; rfl)))
          clear HG HF HD HV HYes
          go_upto_region 4 with fail
          rw [← hW3]
          clear hW3 hi
          go_wp2
          obtain ⟨W2, hW2, d2, b2⟩ := k_stored (unveil HT3).k (unveil HT3).b (by omega) s A O
          rw [← hW2]
          exact bodyPost_ret (ret_kindOf d2 rfl rfl) rfl ⟨by rw [unveil HX W2 d2], b2⟩
        case neg =>
          have g2' : (O == f 5) = false := by simpa using g2
          by_cases g3 : (A != 2) = true
          case pos =>
            have HX := veil (unveil HYes ((unveil HD).trans (by rw [g1, g2', g3]; rfl)))
            clear HG HF HD HV HYes g2
            go_upto_region 4 with fail
            rw [← hW3]
            clear hW3 hi
            go_wp2
            obtain ⟨W2, hW2, d2, b2⟩ := k_stored (unveil HT3).k (unveil HT3).b (by omega) s A O
            rw [← hW2]
            exact bodyPost_ret (ret_kindOf d2 rfl rfl) rfl ⟨by rw [unveil HX W2 d2], b2⟩
          case neg =>
            have g3' : (A != 2) = false := by simpa using g3
            have HX := veil (unveil HG ((unveil HD).trans (by rw [g1, g2', g3']; rfl)))
            clear HG HF HD HV HYes g2 g3
            go_upto_region 4 with fail
            rw [← hW3]
            clear hW3 hi
            go_wp2
            go_roundw <;> first | exact ⟨k + 1, by omega, by go_num, unveil HX, HT3⟩ | (simp [intOf]; omega)
end Go.Proofs.YtekbdkppnjnaaaaDoor
