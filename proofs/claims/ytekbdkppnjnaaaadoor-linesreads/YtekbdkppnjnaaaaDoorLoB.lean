/- Walk of lines.kindNamed. -/
import Derived.Test.YtekbdkppnjnaaaaDoorLoA
namespace Go.Proofs.YtekbdkppnjnaaaaDoor
open Go.RowKit

/-- the row of the table with this word; 12: none has it. -/
def Named (s : ByteArray) (i : Nat) : Prop := i ≤ 12 ∧ (∀ j, j < i → ¬ kword j = s) ∧ (i < 12 → kword i = s)
/-- the boxes of kindNamed. -/
structure Nw (w wr : World) : Prop where
  k : kBlock wr w.heap.size ⟨#[]⟩ 0 0
  b : Below w.heap.size w wr
theorem Nw.next {w wr wx : World} (h : Nw w wr) (b : Below wr.heap.size wr wx) : Nw w wx := ⟨h.k.next b, Below.next h.b b⟩
theorem ret_kindNamed {w : World} {R : Nat} {s : ByteArray} {a o : Int} {tmps : Array Value} {b : Bool} (d : kBlock w R s a o) (t2 : tmps[2]? = some (.pointer (some ⟨R, 0, none⟩))) (t3 : tmps[3]? = some (.bool b)) :
    (results Tryd.f48 tmps).run Tryd.prog w = .ok (.tuple #[.agg #[.string s, .int .i64 a, .int .i64 o], .bool b]) w := by
  simp [results, Tryd.results48, t2, t3, asAddr, load_kind d]
theorem str_ne {s t : ByteArray} (h : ¬ s = t) : (s.toList == t.toList) = false := by
  rw [Lib.toList_data, Lib.toList_data]
  cases e : (s.data.toList == t.data.toList)
  · rfl
  · refine absurd ?_ h
    have e1 := eq_of_beq e
    obtain ⟨⟨a⟩⟩ := s
    obtain ⟨⟨b⟩⟩ := t
    simp only at e1
    rw [e1]
set_option maxRecDepth 20000 in
set_option maxHeartbeats 2000000 in
theorem kindNamed_any (S : ByteArray) (w : World) (hK : Kinds w) : Calls Tryd.prog 48 #[.string S] w fun e w' => ∃ i, Named S i ∧ e = .returned (.tuple #[kVal i, .bool (decide (i < 12))]) ∧ Below w.heap.size w w' := by
  obtain ⟨W1, hW1, T1⟩ : ∃ W1, W1 = w.alloc (.cells #[.string ⟨#[]⟩, .int .i64 0, .int .i64 0] 49) ∧ Nw w W1 := ⟨_, rfl, kBlock.new w ⟨#[]⟩ 0 0, below1 _ _⟩
  have hR := (hK.next T1.b).range
  have HT := veil T1
  clear hK T1
  go_enter Tryd.func48, Tryd.ntmps48
  go_upto_region 1 with fail
  rw [← hW1]
  clear hW1
  go_wp2_with (refine wpList_load_mid rfl 79 (.global 0) rfl 0 0 rfl kList _ hR Tryd.underlying79 rfl (by kernel_rfl) ?_)
  clear hR
  have hix := run_index_kinds
  go_loopw [7] (fun t wr => ∃ k : Nat, k ≤ 12 ∧ t = .int .i64 k ∧ (∀ j, j < k → ¬ kword j = S) ∧ Hid (Nw w wr)) (fun t _ => 12 - (intOf t).toNat)
  case atStart => exact ⟨0, by omega, rfl, fun j hj => by omega, HT⟩
  case round =>
    clear HT
    obtain ⟨k, hk, rfl, hno, HT⟩ := hrel
    have HN := veil hno
    clear hno
    by_cases hlt : k < 12
    case neg =>
      obtain rfl : k = 12 := by omega
      clear hix
      obtain ⟨z0, z1, z2⟩ := (unveil HT).k.cells
      have zf := (unveil HT).k.free
      go_wp2
      obtain ⟨W2, hW2, d2, b2⟩ := k_stored (unveil HT).k (unveil HT).b (by omega) ⟨#[]⟩ 0 0
      rw [← hW2]
      exact bodyPost_ret (ret_kindNamed d2 rfl rfl) rfl ⟨12, ⟨by omega, unveil HN, fun h => by omega⟩, rfl, b2⟩
    case pos =>
      have hi := hix k hlt
      clear hix
      have HF : Hid (kword k = S → Named S k) := veil fun e => ⟨hk, unveil HN, fun _ => e⟩
      have HG : Hid (¬ kword k = S → ∀ j, j < k + 1 → ¬ kword j = S) := veil fun h j hj => by
        by_cases e : j = k
        · rw [e]; exact h
        · exact unveil HN j (by omega)
      clear HN
      obtain ⟨s, hs⟩ : ∃ s, s = kword k := ⟨_, rfl⟩
      obtain ⟨A, hA⟩ : ∃ A, A = kact k := ⟨_, rfl⟩
      obtain ⟨O, hO⟩ : ∃ O, O = kop k := ⟨_, rfl⟩
      have HV : Hid (kVal k = .agg #[.string s, .int .i64 A, .int .i64 O]) := veil (by rw [hs, hA, hO])
      rw [kVal, ← hs, ← hA, ← hO] at hi
      rw [← hs] at HF HG
      clear hs hA hO
      obtain ⟨W3, hW3, k3, b3⟩ : ∃ W3, W3 = wr.alloc (.cells #[.string s, .int .i64 A, .int .i64 O] 49) ∧ kBlock W3 wr.heap.size s A O ∧ Below wr.heap.size wr W3 := ⟨_, rfl, kBlock.new _ _ _ _, below1 _ _⟩
      have HT3 := veil ((unveil HT).next b3)
      obtain ⟨y0, y1, y2⟩ := k3.cells
      obtain ⟨z0, z1, z2⟩ := (unveil HT3).k.cells
      have zf := (unveil HT3).k.free
      clear HT k3 b3
      by_cases g : s = S
      case pos =>
        have HX := veil (unveil HF g)
        subst g
        clear HF HG
        go_upto_region 4 with fail
        rw [← hW3]
        clear hW3 hi
        go_wp2
        obtain ⟨W2, hW2, d2, b2⟩ := k_stored (unveil HT3).k (unveil HT3).b (by omega) s A O
        rw [← hW2]
        exact bodyPost_ret (ret_kindNamed d2 rfl rfl) rfl ⟨k, unveil HX, by rw [unveil HV, decide_eq_true hlt], b2⟩
      case neg =>
        have HX := veil (unveil HG g)
        have g1 := str_ne g
        clear HF HG g
        go_upto_region 4 with fail
        rw [← hW3]
        clear hW3 hi
        go_wp2
        go_roundw <;> first | exact ⟨k + 1, by omega, by go_num, unveil HX, HT3⟩ | (simp [intOf]; omega)
end Go.Proofs.YtekbdkppnjnaaaaDoor
