/- The walk of berthshiftref.RecordOf at slices without elements; then at every slice. -/
import Derived.Test.YtdpenbgmmgljoaaPkM
namespace Go.Proofs.Ytdpenbgmmgljoaa
open Go.RowKit

set_option maxHeartbeats 1000000 in
theorem recordOf_none (a : Option Addr) (cap : Nat) (w : World) (hn : a = none → cap = 0) :
    Calls Try.prog 36 #[.slice a 0 cap] w fun e w' => e = .returned (.tuple #[recVal zeros, .int .i64 4]) ∧ Below w.heap.size w w' := by
  have Z : recBlock (w.alloc (.cells #[.int .i64 0, .int .i64 0, .int .i64 0, .int .i64 0, .int .i64 0, .int .i64 0, .int .i64 0, .int .i64 0, .int .i64 0, .int .i64 0] 33)) w.heap.size zeros := ⟨rfl, heap_alloc_new w _⟩
  have HZ := hide Z
  clear Z
  cases a with
  | none =>
    have hc0 := hn rfl
    subst hc0
    clear hn
    go_enter Try.func36, Try.ntmps36
    go_wp2
    refine wp_loop_rounds 1 ?_
    rw [rounds_succ]
    go_wp2_with (go_at_call 48; refine (taken_short _ _ _ _ (by omega)).mono ?_; rintro e w3 ⟨rfl, rfl⟩)
    exact bodyPost_ret (ret_end (unhide HZ) rfl rfl) rfl ⟨rfl, below1 _ _⟩
  | some x =>
    clear hn
    go_enter Try.func36, Try.ntmps36
    go_wp2
    refine wp_loop_rounds 1 ?_
    rw [rounds_succ]
    go_wp2_with (go_at_call 48; refine (taken_short _ _ _ _ (by omega)).mono ?_; rintro e w3 ⟨rfl, rfl⟩)
    all_goals exact bodyPost_ret (ret_end (unhide HZ) rfl rfl) rfl ⟨rfl, below1 _ _⟩

theorem decode_nil : decodeOf [] = (zeros, 4) := by
  have h : decodeOf [] = (zeros, errAt [] 0) := decode_first (t := 0) (by omega) (fun u hu => by omega) (by decide)
  rw [h]; rfl

theorem recordOf_any (a : Option Addr) (len cap : Nat) (l : List Int) (w : World) (hb : RowK .u8 w a len l) (hlc : len ≤ cap) (hc : cap ≤ 140737488351232) (hn : a = none → cap = 0) :
    Calls Try.prog 36 #[.slice a len cap] w fun e w' => e = .returned (.tuple #[recVal (decodeOf l).1, .int .i64 (decodeOf l).2]) ∧ Below w.heap.size w w' := by
  by_cases h0 : 0 < len
  · obtain ⟨b0, off0, rfl⟩ := hb.form h0
    exact recordOf_some b0 off0 len cap l w hb hlc hc h0
  · have hl : len = 0 := by omega
    subst hl
    have hl0 : l = [] := List.length_eq_zero_iff.1 hb.len_eq
    subst hl0
    rw [decode_nil]
    exact recordOf_none a cap w hn
end Go.Proofs.Ytdpenbgmmgljoaa
