/- The walk of plan.Balance. -/
import Derived.Test.YtmkbidglfnpgjaaPnK
namespace Go.Proofs.Ytmkbidglfnpgjaa
open Go.RowKit

/-- what Balance says. -/
noncomputable def balOf (nodes moves : Int) (l : List Ld) : Int := if loadsOf nodes l = 0 then if 0 ≤ moves ∧ moves ≤ 4 then 0 else 2 else loadsOf nodes l
noncomputable def plansOf (nodes moves : Int) (l : List Ld) : List Pl := if balOf nodes moves l = 0 then plansF moves.toNat (works l nodes.toNat) l else []
def plOwn (w : World) (base : Nat) (v : Value) (l : List Pl) : Prop := w.ownsRow base 39 3 v l.length ((plFlat l).map (Value.int .i64))
theorem plOwn.none (w : World) (base : Nat) : plOwn w base (.slice none 0 0) [] := World.ownsRow_nil _ _ _ _
set_option maxRecDepth 20000 in
set_option maxHeartbeats 2000000 in
theorem balance_any (nodes moves : Int) (a : Option Addr) (c : Nat) (l : List Ld) (w : World) (hA : RowK .i64 w a (3 * l.length) (ldFlat l)) (hl : l.length * 24 ≤ 140737488351232) (hn : a = none → c = 0) :
    Calls Try.prog 11 #[.slice a l.length c, .int .i64 nodes, .int .i64 moves] w fun e w' => ∃ v, e = .returned (.tuple #[v, .int .i64 (balOf nodes moves l)]) ∧ plOwn w' w.heap.size v (plansOf nodes moves l) ∧ Below w.heap.size w w' := by
  have HC := check_any nodes a c l w hA (by omega)
  rcases loadsOf_cases nodes l with h0 | ⟨h0, h1, h5, hr⟩
  · have e0 : balOf nodes moves l = loadsOf nodes l := by unfold balOf; rw [if_neg h0]
    have e1 : plansOf nodes moves l = [] := by unfold plansOf; rw [e0, if_neg h0]
    rw [e1, e0]
    clear e1 e0
    generalize loadsOf nodes l = e0 at *
    generalize l.length = n at *
    have hb : (e0 != 0) = true := by simpa using h0
    clear hA
    go_enter Try.func11, Try.ntmps11
    go_wp2_with (go_at_call 19; refine HC.mono ?_; rintro _ w1 ⟨rfl, b1⟩; have B1 := veil b1; clear b1 HC)
    exact bodyPost_ret (v := .tuple #[.slice none 0 0, .int .i64 e0]) (by simp [results, Try.results11, go_sem]) rfl ⟨_, rfl, plOwn.none _ _, unveil B1⟩
  · have HWi := fun w => within_any moves 4 w
    by_cases hm : 0 ≤ moves ∧ moves ≤ 4
    · have e0 : balOf nodes moves l = 0 := by unfold balOf; rw [if_pos h0, if_pos hm]
      have e1 : plansOf nodes moves l = plansF moves.toNat (works l nodes.toNat) l := by unfold plansOf; rw [if_pos e0]
      rw [e1, e0]
      rw [decide_eq_true hm] at HWi
      rw [h0] at HC
      obtain ⟨m, rfl⟩ : ∃ m : Nat, nodes = m := ⟨nodes.toNat, by omega⟩
      obtain ⟨k, rfl⟩ : ∃ k : Nat, moves = k := ⟨moves.toNat, by omega⟩
      simp only [Int.toNat_natCast]
      have HT : Hid (∀ w1, Below w.heap.size w w1 → Calls Try.prog 20 #[.slice a l.length c, .int .i64 m] w1 fun e w' => e = .returned (.slice (some ⟨w1.heap.size, 0, none⟩) m m) ∧ wsRow w' w1.heap.size w1.heap.size (works l m) ∧ Below w1.heap.size w1 w') := veil fun w1 b1 => tally_any m a c l w1 (hA.below b1) (by omega) (by omega) hr
      have HCl : Hid (∀ w1, Below w.heap.size w w1 → Calls Try.prog 28 #[.slice a l.length c] w1 fun e w' => ∃ v, e = .returned v ∧ ldOwn w' w1.heap.size v l ∧ Below w1.heap.size w1 w') := veil fun w1 b1 => clone_ld a c l w1 (hA.below b1) hn hl
      have HP : Hid (∀ (w3 : World) base gW a2 c2, base ≤ w3.heap.size → wsRow w3 base gW (works l m) → ldOwn w3 base (.slice a2 l.length c2) l → Calls Try.prog 27 #[.slice (some ⟨gW, 0, none⟩) m m, .slice a2 l.length c2, .int .i64 k] w3 fun e w' => ∃ v', e = .returned v' ∧ plOwn w' w3.heap.size v' (plansF k (works l m) l) ∧ Below base w3 w') := veil fun w3 base gW a2 c2 hb oW oR => plans_any (Now.begin hr (by omega)) (by omega) k (by omega) w3 base gW a2 l.length c2 rfl hb oW oR
      clear hA e0 e1 hr h0
      generalize plansF k (works l m) l = all at *
      generalize works l m = ws at *
      go_enter Try.func11, Try.ntmps11
      go_wp2_with (first
        | (go_at_call 19; refine HC.mono ?_; rintro _ w1 ⟨rfl, b1⟩; have B1 := veil b1; clear b1 HC)
        | (go_at_call 26; refine (HWi _).mono ?_; rintro _ w1 ⟨rfl, rfl⟩; clear HWi)
        | (go_at_call 20; refine (unveil HT w1 (unveil B1)).mono ?_; rintro _ w2 ⟨rfl, o2, b2⟩; have O2 := veil o2; have B2 := veil b2; clear o2 b2 HT)
        | (go_at_call 28; refine (unveil HCl w2 (Below.next (unveil B1) (unveil B2))).mono ?_; rintro _ w3 ⟨v3, rfl, o3, b3⟩; obtain ⟨a3, c3, rfl⟩ := own_form o3; have O3 := veil o3; have B3 := veil b3; clear o3 b3 HCl)
        | (go_at_call 27; refine (unveil HP w3 w1.heap.size w1.heap.size a3 c3 (Nat.le_trans (unveil B2).size (unveil B3).size) ((unveil O2).still ((unveil B3).block _ (unveil O2).lt.2)) (own_lower (unveil O3) (unveil B2).size)).mono ?_; rintro _ w4 ⟨v4, rfl, o4, b4⟩; have O4 := veil o4; have B4 := veil b4; clear o4 b4 HP))
      exact bodyPost_ret (v := .tuple #[v4, .int .i64 0]) (by simp [results, Try.results11, go_sem]) rfl ⟨_, rfl, own_lower (unveil O4) (Nat.le_trans (unveil B1).size (Nat.le_trans (unveil B2).size (unveil B3).size)), (Below.next (Below.next (unveil B1) (unveil B2)) (unveil B3)).trans ((unveil B4).mono (unveil B1).size)⟩
    · have e0 : balOf nodes moves l = 2 := by unfold balOf; rw [if_pos h0, if_neg hm]
      have e1 : plansOf nodes moves l = [] := by unfold plansOf; rw [e0, if_neg (by decide)]
      rw [e1, e0]
      rw [decide_eq_false hm] at HWi
      rw [h0] at HC
      clear e1 e0 hA
      go_enter Try.func11, Try.ntmps11
      go_wp2_with (first | (go_at_call 19; refine HC.mono ?_; rintro _ w1 ⟨rfl, b1⟩; have B1 := veil b1; clear b1 HC) | (go_at_call 26; refine (HWi _).mono ?_; rintro _ w1 ⟨rfl, rfl⟩; clear HWi))
      exact bodyPost_ret (v := .tuple #[.slice none 0 0, .int .i64 2]) (by simp [results, Try.results11, go_sem]) rfl ⟨_, rfl, plOwn.none _ _, unveil B1⟩
end Go.Proofs.Ytmkbidglfnpgjaa
