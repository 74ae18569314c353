/- Walks of the law's samePlans, sameLoads and of PlanBalances. -/
import Derived.Test.YtmkbidglfnpgjaaPnN
namespace Go.Proofs.Ytmkbidglfnpgjaa
open Go.RowKit

set_option maxRecDepth 20000 in
set_option maxHeartbeats 2000000 in
theorem samePlans_yes (a b : Option Addr) (ca cb : Nat) (l : List Pl) (w : World) (hA : RowK .i64 w a (3 * l.length) (plFlat l)) (hB : RowK .i64 w b (3 * l.length) (plFlat l)) (hl : l.length ≤ 9223372036854775806) :
    Calls Try.prog 13 #[.slice a l.length ca, .slice b l.length cb] w fun e w' => e = .returned (.bool true) ∧ Below w.heap.size w w' := by
  have HF := veil (fun k => plFlat_at l k)
  generalize l.length = n at *
  go_enter Try.func13, Try.ntmps13
  go_wp2
  go_loopw [5] (fun t wr => ∃ k : Nat, k ≤ n ∧ t = .int .i64 k ∧ Below w.heap.size w wr) (fun t _ => n - (intOf t).toNat)
  case atStart => exact ⟨0, Nat.zero_le _, rfl, Below.refl _ _⟩
  case round =>
    obtain ⟨k, hk, rfl, bel⟩ := hrel
    by_cases hlt : k < n
    · obtain ⟨b1, o1, rfl⟩ := hA.form (by omega)
      obtain ⟨b2, o2, rfl⟩ := hB.form (by omega)
      have rA := hA.below bel
      have rB := hB.below bel
      have x0 := rA.at (3 * k) (by omega)
      have x1 := rA.at (3 * k + 1) (by omega)
      have x2 := rA.at (3 * k + 2) (by omega)
      have y0 := rB.at (3 * k) (by omega)
      have y1 := rB.at (3 * k + 1) (by omega)
      have y2 := rB.at (3 * k + 2) (by omega)
      rw [← Nat.add_assoc] at x1 x2 y1 y2
      rw [Nat.mul_comm 3 k] at x0 x1 x2 y0 y1 y2
      have BL := veil bel
      clear rA rB hA hB bel
      generalize (plFlat l).getD (k * 3) 0 = p0 at *
      generalize (plFlat l).getD (k * 3 + 1) 0 = p1 at *
      generalize (plFlat l).getD (k * 3 + 2) 0 = p2 at *
      go_wp2_with fail
      go_quiet (fail)
      go_wp2
      go_roundw
      case rel => exact ⟨k + 1, by omega, by go_num, below_n (unveil BL) _⟩
      case measure => simp [intOf]; omega
    · have BL := veil bel
      clear hA hB bel
      go_wp2
      go_ret
      exact ⟨rfl, unveil BL⟩
set_option maxRecDepth 20000 in
set_option maxHeartbeats 2000000 in
theorem sameLoads_yes (a b : Option Addr) (ca cb : Nat) (l : List Ld) (w : World) (hA : RowK .i64 w a (3 * l.length) (ldFlat l)) (hB : RowK .i64 w b (3 * l.length) (ldFlat l)) (hl : l.length ≤ 9223372036854775806) :
    Calls Try.prog 14 #[.slice a l.length ca, .slice b l.length cb] w fun e w' => e = .returned (.bool true) ∧ Below w.heap.size w w' := by
  have HF := veil (fun k => ldFlat_at l k)
  generalize l.length = n at *
  go_enter Try.func14, Try.ntmps14
  go_wp2
  go_loopw [5] (fun t wr => ∃ k : Nat, k ≤ n ∧ t = .int .i64 k ∧ Below w.heap.size w wr) (fun t _ => n - (intOf t).toNat)
  case atStart => exact ⟨0, Nat.zero_le _, rfl, Below.refl _ _⟩
  case round =>
    obtain ⟨k, hk, rfl, bel⟩ := hrel
    by_cases hlt : k < n
    · obtain ⟨b1, o1, rfl⟩ := hA.form (by omega)
      obtain ⟨b2, o2, rfl⟩ := hB.form (by omega)
      have rA := hA.below bel
      have rB := hB.below bel
      have x0 := rA.at (3 * k) (by omega)
      have x1 := rA.at (3 * k + 1) (by omega)
      have x2 := rA.at (3 * k + 2) (by omega)
      have y0 := rB.at (3 * k) (by omega)
      have y1 := rB.at (3 * k + 1) (by omega)
      have y2 := rB.at (3 * k + 2) (by omega)
      rw [← Nat.add_assoc] at x1 x2 y1 y2
      rw [Nat.mul_comm 3 k] at x0 x1 x2 y0 y1 y2
      have BL := veil bel
      clear rA rB hA hB bel
      generalize (ldFlat l).getD (k * 3) 0 = p0 at *
      generalize (ldFlat l).getD (k * 3 + 1) 0 = p1 at *
      generalize (ldFlat l).getD (k * 3 + 2) 0 = p2 at *
      go_wp2_with fail
      go_quiet (fail)
      go_wp2
      go_roundw
      case rel => exact ⟨k + 1, by omega, by go_num, below_n (unveil BL) _⟩
      case measure => simp [intOf]; omega
    · have BL := veil bel
      clear hA hB bel
      go_wp2
      go_ret
      exact ⟨rfl, unveil BL⟩
theorem plFlat_wf : ∀ l : List Pl, (∀ x ∈ l, (0 ≤ x.q ∧ x.q ≤ 4294967296) ∧ (0 ≤ x.f ∧ x.f ≤ 4294967296) ∧ (0 ≤ x.t ∧ x.t ≤ 4294967296)) → ∀ u ∈ plFlat l, (Lit.int .i64 u).wf = true
  | [], _, u, hu => by cases hu
  | x :: l, h, u, hu => by
    obtain ⟨h1, h2, h3⟩ := h x (by simp)
    simp only [plFlat, List.mem_cons] at hu
    rcases hu with rfl | rfl | rfl | hu
    · exact lit_wf h1.1 h1.2
    · exact lit_wf h2.1 h2.2
    · exact lit_wf h3.1 h3.2
    · exact plFlat_wf l (fun y hy => h y (by simp [hy])) u hu
/-- what plans are: of a queue, and of two nodes. -/
theorem plansF_ok {nodes : Nat} (h5 : nodes ≤ 5) : ∀ (m : Nat) {now rest : List Ld} {gone : Int → Bool} {ws : List Int}, Now nodes now gone ws rest → ∀ x ∈ plansF m ws rest, (0 ≤ x.q ∧ x.q ≤ 3) ∧ (0 ≤ x.f ∧ x.f < nodes) ∧ (0 ≤ x.t ∧ x.t < nodes)
  | 0, _, _, _, _, _, x, hx => by simp [plansF] at hx
  | m + 1, now, rest, gone, ws, h, x, hx => by
    rcases goes_is ws rest with e | ⟨j, e, hj, hc⟩
    · rw [plansF_stop e] at hx; cases hx
    · rw [plansF_go e] at hx
      obtain ⟨e1, e2⟩ := h.ends
      rcases List.mem_cons.1 hx with rfl | hx
      · have ho := h.restOk j hj
        exact ⟨⟨ho.q0, ho.q3⟩, ⟨by show (0 : Int) ≤ (busyOf ws : Nat); omega, by show ((busyOf ws : Nat) : Int) < nodes; omega⟩, ⟨by show (0 : Int) ≤ (idleOf ws : Nat); omega, by show ((idleOf ws : Nat) : Int) < nodes; omega⟩⟩
      · obtain ⟨now', gone', h'⟩ := h.step hj hc
        exact plansF_ok h5 m h' x hx
theorem plansOf_wf (nodes moves : Int) (l : List Ld) : ∀ u ∈ plFlat (plansOf nodes moves l), (Lit.int .i64 u).wf = true := by
  unfold plansOf
  split
  case isFalse => intro u hu; cases hu
  case isTrue h =>
    rcases loadsOf_cases nodes l with h0 | ⟨h0, h1, h5, hr⟩
    · unfold balOf at h; rw [if_neg h0] at h; exact absurd h h0
    · obtain ⟨nd, rfl⟩ : ∃ m : Nat, nodes = m := ⟨nodes.toNat, by omega⟩
      refine plFlat_wf _ (fun x hx => ?_)
      have := plansF_ok (nodes := nd) (by omega) _ (Now.begin hr (by omega)) x hx
      omega
set_option maxRecDepth 20000 in
set_option maxHeartbeats 2000000 in
theorem walk_PlanBalances (w : World) (a : Option Addr) (len cap : Nat) (D : List Int) (hA : RowK .i64 w a (3 * len) D) (hc : len ≤ cap) (hn : a = none → cap = 0) (hz : cap * 24 ≤ 140737488351232) (nodes : Int) (_ : (Lit.int .i64 nodes).wf = true) (moves : Int) (_ : (Lit.int .i64 moves).wf = true) :
    Calls Try.prog 4 #[.slice a len cap, .int .i64 nodes, .int .i64 moves] w fun e w' => e = .returned (.bool true) ∧ Below w.heap.size w w' := by
  obtain ⟨l, rfl, rfl⟩ : ∃ l : List Ld, len = l.length ∧ D = ldFlat l := ⟨ldsOf D len, (ldsOf_len D len).symm, by rw [ldFlat_ldsOf D len (by have := hA.len_eq; omega), List.take_of_length_le (by have := hA.len_eq; omega)]⟩
  have HL := lawLoads_any a cap l w hA hn (by omega)
  have HP := veil (plansOf_wf nodes moves l)
  have HS : Hid (∀ a2 c2 w1, RowK .i64 w1 a2 (3 * l.length) (ldFlat l) → (a2 = none → c2 = 0) → Calls Try.prog 11 #[.slice a2 l.length c2, .int .i64 nodes, .int .i64 moves] w1 fun e w' => ∃ a3 c3, e = .returned (.tuple #[.slice a3 (plansOf nodes moves l).length c3, .int .i64 (balOf nodes moves l)]) ∧ RowK .i64 w' a3 (3 * (plansOf nodes moves l).length) (plFlat (plansOf nodes moves l)) ∧ Below w1.heap.size w1 w') := veil fun a2 c2 w1 h hn2 => (balance_any nodes moves a2 c2 l w1 h (by omega) hn2).mono (by
    rintro e w' ⟨v, rfl, o, b⟩
    obtain ⟨a3, c3, rfl, r, _⟩ := RowK.ofMany o (unveil HP)
    exact ⟨a3, c3, rfl, r, b⟩)
  have HR : Hid (∀ w1, Below w.heap.size w w1 → Calls Try.prog 12 #[.slice a l.length cap, .int .i64 nodes, .int .i64 moves] w1 fun e w' => ∃ a3 c3, e = .returned (.tuple #[.slice a3 (plansOf nodes moves l).length c3, .int .i64 (balOf nodes moves l)]) ∧ RowK .i64 w' a3 (3 * (plansOf nodes moves l).length) (plFlat (plansOf nodes moves l)) ∧ Below w1.heap.size w1 w') := veil fun w1 b => (refBalanced_any nodes moves a cap l w1 (hA.below b) (by omega)).mono (by
    rintro e w' ⟨v, rfl, o, b⟩
    obtain ⟨a3, c3, rfl, r, _⟩ := RowK.ofMany o (unveil HP)
    exact ⟨a3, c3, rfl, r, b⟩)
  have hpl : (plansOf nodes moves l).length ≤ 9223372036854775806 := by
    unfold plansOf
    split
    · rename_i h
      have h1 := plansF_len moves.toNat (works l nodes.toNat) l
      have h2 : moves ≤ 4 := by
        by_cases hm : 0 ≤ moves ∧ moves ≤ 4
        · exact hm.2
        · unfold balOf at h
          by_cases h0 : loadsOf nodes l = 0
          · rw [if_pos h0, if_neg hm] at h; cases h
          · rw [if_neg h0] at h; exact absurd h h0
      omega
    · simp
  have HX : Hid (∀ a3 c3 a4 c4 w5, RowK .i64 w5 a3 (3 * (plansOf nodes moves l).length) (plFlat (plansOf nodes moves l)) → RowK .i64 w5 a4 (3 * (plansOf nodes moves l).length) (plFlat (plansOf nodes moves l)) → Calls Try.prog 13 #[.slice a3 (plansOf nodes moves l).length c3, .slice a4 (plansOf nodes moves l).length c4] w5 fun e w' => e = .returned (.bool true) ∧ Below w5.heap.size w5 w') := veil fun a3 c3 a4 c4 w5 h1 h2 => samePlans_yes a3 a4 c3 c4 _ w5 h1 h2 hpl
  have HY : Hid (∀ a3 c3 w5, RowK .i64 w5 a3 (3 * l.length) (ldFlat l) → Below w.heap.size w w5 → Calls Try.prog 14 #[.slice a3 l.length c3, .slice a l.length cap] w5 fun e w' => e = .returned (.bool true) ∧ Below w5.heap.size w5 w') := veil fun a3 c3 w5 h1 b => sameLoads_yes a3 a c3 cap l w5 h1 (hA.below b) (by omega)
  clear hA HP hpl
  generalize plFlat (plansOf nodes moves l) = PF at *
  generalize (plansOf nodes moves l).length = np at *
  generalize balOf nodes moves l = e0 at *
  go_enter Try.func4, Try.ntmps4
  go_wp2_with (first
    | (go_at_call 9; refine HL.mono ?_; rintro _ w1 ⟨a2, c2, rfl, r2, _, _, hn2, b1⟩; have HS1 := unveil HS a2 c2 w1 r2 hn2; have R2 := veil r2; have B1 := veil b1; clear r2 b1 HL HS hn2)
    | (go_at_call 11; refine HS1.mono ?_; rintro _ w2 ⟨a3, c3, rfl, r3, b2⟩; have B2 := Below.next (unveil B1) b2; have HR1 := unveil HR w2 B2; have BB := veil B2; have R3 := veil r3; have R22 := veil ((unveil R2).below b2); clear b2 B2 HS1 B1 HR r3 R2)
    | (go_at_call 12; refine HR1.mono ?_; rintro _ w3 ⟨a4, c4, rfl, r4, b3⟩; have B3 := Below.next (unveil BB) b3; have HX1 := unveil HX a3 c3 a4 c4 w3 ((unveil R3).below b3) r4; have R23 := veil ((unveil R22).below b3); have BB3 := veil B3; clear b3 HR1 BB r4 R3 R22 B3 HX)
    | (go_at_call 13; refine HX1.mono ?_; rintro _ w4 ⟨rfl, b4⟩; have B4 := Below.next (unveil BB3) b4; have HY1 := unveil HY a2 c2 w4 ((unveil R23).below b4) B4; have BB4 := veil B4; clear b4 HX1 BB3 B4 HY R23)
    | (go_at_call 14; refine HY1.mono ?_; rintro _ w5 ⟨rfl, b5⟩; have B5 := veil (Below.next (unveil BB4) b5); clear b5 HY1 BB4))
  go_ret
  exact ⟨by first | rfl | simp, unveil B5⟩
end Go.Proofs.Ytmkbidglfnpgjaa
