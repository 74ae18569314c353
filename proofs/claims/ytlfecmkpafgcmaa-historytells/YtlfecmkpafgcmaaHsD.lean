/- The walk of history.each, over what one call of the function does; of history.Replay. -/
import Derived.Test.YtlfecmkpafgcmaaHsC
import Derived.Test.YtlfecmkpafgcmaaQaD
namespace Go.Proofs.Ytlfecmkpafgcmaa
open Go.RowKit

/-- what a call with the next event does, up to the first that can't be told. -/
structure EachSpec (g : Nat) (recv : Value) (es : List Ev) (I : Nat → World → Prop) (J : World → Prop) : Prop where
  enters : ∀ args w, (callFunc g args).run Try.prog w = .ok (.enter g args) w
  step : ∀ k (hk : k < es.length) (W : World), I k W → Calls Try.prog g #[recv, evIn es[k]] W fun e w' => (e = .returned (.bool true) ∧ I (k + 1) w') ∨ (e = .returned (.bool false) ∧ J w')
  keep : ∀ k (W W' : World), I k W → Below W.heap.size W W' → I k W'
set_option maxRecDepth 20000 in
set_option maxHeartbeats 4000000 in
theorem each_any (g : Nat) (R : Nat) (es : List Ev) (I : Nat → World → Prop) (J : World → Prop) (sp : EachSpec g (.pointer (some ⟨R, 0, none⟩)) es I J) (a : Option Addr) (cap : Nat) (w : World) (h0 : I 0 w) (hl : es.length ≤ 2000)
    (hrow : ∀ k W, I k W → RowK .i64 W a (6 * es.length) (evFlat es)) :
    Calls Try.prog 22 #[.slice a es.length cap, .func (.func g) #[.pointer (some ⟨R, 0, none⟩)] #[]] w fun e w' => (e = .returned (.int .i64 0) ∧ I es.length w') ∨ (e = .returned (.int .i64 3) ∧ J w') := by
  have heg := sp.enters
  go_enter Try.func22, Try.ntmps22
  go_upto_region 4 with fail
  go_loopw [12] (fun i wr => ∃ k : Nat, k ≤ es.length ∧ i = .int .i64 k ∧ I k wr) (fun i _ => es.length - (intOf i).toNat)
  case atStart => exact ⟨0, Nat.zero_le _, rfl, h0⟩
  case round =>
    obtain ⟨k, hk, rfl, hI⟩ := hrel
    by_cases hlt : k < es.length
    · have hr := hrow k wr hI
      obtain ⟨b, off, rfl⟩ := hr.form (by omega)
      obtain ⟨x0, x1, x2, x3, x4, x5⟩ := hr.six k hlt
      have ea : ∀ t, t < 6 → (evFlat es).getD (6 * k + t) 0 = (evCells es[k]).getD t 0 := fun t ht => evFlat_at es k hlt t ht
      rw [show 6 * k = 6 * k + 0 from rfl, ea 0 (by omega)] at x0
      rw [ea 1 (by omega)] at x1
      rw [ea 2 (by omega)] at x2
      rw [ea 3 (by omega)] at x3
      rw [ea 4 (by omega)] at x4
      rw [ea 5 (by omega)] at x5
      have HSt := fun W hW => sp.step k hlt W hW
      obtain ⟨v, hv⟩ : ∃ v, v = es[k] := ⟨_, rfl⟩
      rw [← hv] at x0 x1 x2 x3 x4 x5 HSt
      simp only [evCells, List.getD_cons_zero, List.getD_cons_succ] at x0 x1 x2 x3 x4 x5
      have HI : Hid (∀ W, Below wr.heap.size wr W → I k W) := veil fun W b => sp.keep k wr W hI b
      have HS := veil HSt
      clear hr ea hv HSt hI
      go_upto_region 6 with fail
      obtain ⟨W1, hW1, b1, e1⟩ : ∃ W1, W1 = wr.alloc (.cells #[.int .i64 v.k, .int .i64 v.p, .int .i64 v.i, .int .i64 v.b, .int .i64 v.he, .int .i64 v.hn] 61) ∧ Below wr.heap.size wr W1 ∧ W1.heap[wr.heap.size]? = some (.cells #[.int .i64 v.k, .int .i64 v.p, .int .i64 v.i, .int .i64 v.b, .int .i64 v.he, .int .i64 v.hn] 61 (0, 0)) := ⟨_, rfl, below1 _ _, heap_alloc_new _ _⟩
      rw [← hW1]
      obtain ⟨v0, v1, v2, v3, v4, v5⟩ := ev_box e1
      have HC : Calls Try.prog g #[.pointer (some ⟨R, 0, none⟩), evIn v] W1 fun e w' => ∃ ch : Bool, e = .returned (.bool ch) ∧ Hid ((ch = true → I (k + 1) w') ∧ (ch = false → J w')) := (unveil HS W1 (unveil HI W1 b1)).mono (by
        rintro e w' (⟨rfl, h1⟩ | ⟨rfl, h1⟩)
        · exact ⟨true, rfl, veil ⟨fun _ => h1, fun h => (by cases h)⟩⟩
        · exact ⟨false, rfl, veil ⟨fun h => (by cases h), fun _ => h1⟩⟩)
      clear hW1 b1 e1 x0 x1 x2 x3 x4 x5
      go_wp2_with (go_at_fn g; refine HC.mono ?_; rintro e W2 ⟨ch, rfl, HCh⟩; clear HC v0 v1 v2 v3 v4 v5)
      · go_ret
        exact .inr ⟨rfl, (unveil HCh).2 (by cases ch <;> simp_all)⟩
      · refine ⟨⟨k + 1, by omega, by go_num, (unveil HCh).1 (by cases ch <;> simp_all)⟩, by simp [intOf]; omega⟩
    · obtain rfl : k = es.length := by omega
      have HI := veil hI
      clear hI
      go_wp2
      go_ret
      exact .inl ⟨rfl, unveil HI⟩
end Go.Proofs.Ytlfecmkpafgcmaa
