/- Walks of the law's sameActs, at rows that read the same, and of LinesShows. -/
import Derived.Test.YtekbdkppnjnaaaaDoorLnW
import Derived.Deep.QuietTactic
import Derived.BigQuiet
namespace Go.Proofs.YtekbdkppnjnaaaaDoor
open Go.RowKit

set_option maxRecDepth 20000 in
set_option maxHeartbeats 4000000 in
theorem sameActs_yes (a a' : Option Addr) (n cap cap' : Nat) (D : List Int) (w : World) (h : RowK .i64 w a (11 * n) D) (h' : RowK .i64 w a' (11 * n) D) (hm : n ≤ 3000000000000) :
    Calls Tryd.prog 15 #[.slice a n cap, .slice a' n cap'] w fun e w' => e = .returned (.bool true) ∧ ∃ m, w' = w.drewN m := by
  go_enter Tryd.func15, Tryd.ntmps15
  have ee : ((n : Int) == (n : Int)) = true := by simp
  go_wp2
  go_loopw [5] (fun t wr => ∃ k m : Nat, k ≤ n ∧ t = .int .i64 k ∧ wr = w.drewN m) (fun t _ => n - (intOf t).toNat)
  case atStart => exact ⟨0, 0, Nat.zero_le _, rfl, rfl⟩
  case round =>
    obtain ⟨k, m, hk, rfl, rfl⟩ := hrel
    by_cases hlt : k < n
    · obtain ⟨b, off, rfl⟩ := h.form (by omega)
      obtain ⟨b', off', rfl⟩ := h'.form (by omega)
      obtain ⟨x0, x1, x2, x3, x4, x5, x6, x7, x8, x9, x10⟩ := row_act h k hlt
      obtain ⟨y0, y1, y2, y3, y4, y5, y6, y7, y8, y9, y10⟩ := row_act h' k hlt
      generalize actAt D k = f at *
      generalize f 0 = p0 at x0 y0
      generalize f 1 = p1 at x1 y1
      generalize f 2 = p2 at x2 y2
      generalize f 3 = p3 at x3 y3
      generalize f 4 = p4 at x4 y4
      generalize f 5 = p5 at x5 y5
      generalize f 6 = p6 at x6 y6
      generalize f 7 = p7 at x7 y7
      generalize f 8 = p8 at x8 y8
      generalize f 9 = p9 at x9 y9
      generalize f 10 = p10 at x10 y10
      clear h h' f
      have hki : (k : Int) < (n : Int) := by omega
      go_wp2_with fail
      go_quiet (fail)
      clear x0 x1 x2 x3 x4 x5 x6 x7 x8 x9 x10 y0 y1 y2 y3 y4 y5 y6 y7 y8 y9 y10
      go_wp2
      go_roundw
      case rel => exact ⟨k + 1, m + nq, by omega, by go_num, by first | exact (World.drewN_add _ _ _).symm | exact World.drewN_add _ _ _ | exact World.drewN_drewN _ _ _ | rfl | simp⟩
      case measure => simp [intOf]; omega
    · have hk' : k = n := by omega
      subst hk'
      go_wp2
      go_ret
      exact ⟨rfl, m, rfl⟩
theorem sameActs_below (a a' : Option Addr) (n cap cap' : Nat) (D : List Int) (w : World) (h : RowK .i64 w a (11 * n) D) (h' : RowK .i64 w a' (11 * n) D) (hm : n ≤ 3000000000000) :
    Calls Tryd.prog 15 #[.slice a n cap, .slice a' n cap'] w fun e w' => e = .returned (.bool true) ∧ Below w.heap.size w w' := by
  refine (sameActs_yes a a' n cap cap' D w h h' hm).mono ?_
  rintro e w' ⟨rfl, m, rfl⟩
  exact ⟨rfl, ⟨rfl, rfl, rfl, Nat.le_refl _, fun _ _ => rfl⟩⟩
set_option maxRecDepth 20000 in
set_option maxHeartbeats 4000000 in
theorem walk_LinesShows (w : World) (hL : Laid w) (a : Option Addr) (len cap : Nat) (D : List Int) (h : RowK .i64 w a (11 * len) D) (_ : len ≤ cap) (hnil : a = none → cap = 0) (hs : cap * 88 ≤ 140737488351232) :
    Calls Tryd.prog 4 #[.slice a len cap] w fun x w' => x = .returned (.bool true) ∧ Below w.heap.size w w' := by
  have H1 := acts_any a len cap D w h hnil (by omega)
  have H2 : Hid (∀ v u, u.ownsRow w.heap.size 27 11 v len (D.map (Value.int .i64)) → Below w.heap.size w u → ∃ a' c', v = .slice a' len c' ∧ (Calls Tryd.prog 13 #[v] u fun x w' => ∃ s c e, x = .returned (.tuple #[.string (str s), .int .i64 c, .int .i64 e]) ∧ ShowR D len s c e ∧ Below u.heap.size u w') ∧ Hid (∀ u', Below u.heap.size u u' → Calls Tryd.prog 15 #[v, .slice a len cap] u' fun x w' => x = .returned (.bool true) ∧ Below u'.heap.size u' w')) := veil fun v u o b => by
    obtain ⟨a', c', rfl, r, _⟩ := RowK.ofMany o h.wf
    exact ⟨a', c', rfl, show_any a' len c' D u (hL.next b) r (by omega), veil fun u' b' => sameActs_below a' a len c' cap D u' (r.below b') (h.below (Below.next b b')) (by omega)⟩
  have H3 : Hid (∀ u, Below w.heap.size w u → Calls Tryd.prog 14 #[.slice a len cap] u fun x w' => ∃ s c e, x = .returned (.tuple #[.string (str s), .int .i64 c, .int .i64 e]) ∧ ShowR D len s c e ∧ Below u.heap.size u w') := veil fun u b => actsShown_any a len cap D u (h.below b) (by omega)
  clear hL h
  go_enter Tryd.func4, Tryd.ntmps4
  go_upto_region 3 with (first
    | (go_at_call 12; refine H1.mono ?_; rintro x V1 ⟨v, rfl, o1, b1⟩; obtain ⟨a1, c1, rfl, HA, HQ⟩ := unveil H2 v V1 o1 b1; clear H1 H2 o1)
    | (go_at_call 13; refine HA.mono ?_; rintro x V2 ⟨s2, c2, e2, rfl, r2, b2⟩; clear HA))
  have HB := veil (Below.next b1 b2)
  have HD : Hid (∀ s c e, ShowR D len s c e → str s = str s2 ∧ c = c2 ∧ e = e2) := veil fun s c e r => by obtain ⟨r1, r2, r3⟩ := r.det r2; exact ⟨by rw [r1], r2, r3⟩
  have HQ2 : Hid (∀ u', Below V2.heap.size V2 u' → Calls Tryd.prog 15 #[.slice a1 len c1, .slice a len cap] u' fun x w' => x = .returned (.bool true) ∧ Below u'.heap.size u' w') := veil fun u' b => unveil HQ u' (Below.next b2 b)
  have H4 := unveil H3 V2 (unveil HB)
  clear H3 b1 b2 r2 HQ
  generalize str s2 = S at *
  have q2 : (c2 == c2) = true := by simp
  have q3 : (e2 == e2) = true := by simp
  go_wp2_with (first
    | (go_at_call 14; refine H4.mono ?_; rintro x V3 ⟨s3, c3, e3, rfl, r3, b3⟩; obtain ⟨hs3, rfl, rfl⟩ := unveil HD _ _ _ r3; rw [hs3]; have H5 := unveil HQ2 V3 b3; clear H4 HD r3 HQ2 hs3)
    | (go_at_call 15; refine H5.mono ?_; rintro x V4 ⟨rfl, b4⟩; clear H5))
  go_ret
  exact ⟨by simp, Below.next (Below.next (unveil HB) b3) b4⟩
end Go.Proofs.YtekbdkppnjnaaaaDoor
