/- Walks of the document's answer's busiest and SpreadOf; PlanSpreads. -/
import Derived.Test.YtmkbidglfnpgjaaPnG
namespace Go.Proofs.Ytmkbidglfnpgjaa
open Go.RowKit

/-- the busiest of the places from j on, when one goes down. -/
structure BusyFrom (f : Int → Int) (n j m : Nat) : Prop where
  lt : m < n
  ge : ∀ i : Nat, j ≤ i → i < n → f i ≤ f m
  low : ∀ i : Nat, j ≤ i → i < m → f i < f m
  at_ : j ≤ m ∨ (j = n ∧ m + 1 = n)
theorem BusyFrom.yes {f : Int → Int} {n p m : Nat} (h : BusyFrom f n (p + 1) m) (hp : p < n) (hv : f m ≤ f p) : BusyFrom f n p p := by
  refine ⟨hp, fun i h1 h2 => ?_, fun i h1 h2 => by omega, .inl (Nat.le_refl _)⟩
  by_cases e : i = p
  · subst e; exact Int.le_refl _
  · have := h.ge i (by omega) h2; omega
theorem BusyFrom.no {f : Int → Int} {n p m : Nat} (h : BusyFrom f n (p + 1) m) (hv : ¬ f m ≤ f p) : BusyFrom f n p m := by
  have hpm : p + 1 ≤ m := by
    rcases h.at_ with h1 | ⟨h1, h2⟩
    · exact h1
    · obtain rfl : p = m := by omega
      exact absurd (Int.le_refl _) hv
  refine ⟨h.lt, fun i h1 h2 => ?_, fun i h1 h2 => ?_, .inl (by omega)⟩
  · by_cases e : i = p
    · subst e; omega
    · exact h.ge i (by omega) h2
  · by_cases e : i = p
    · subst e; omega
    · exact h.low i (by omega) h2
structure IdleFrom (f : Int → Int) (n j m : Nat) : Prop where
  lt : m < n
  le : ∀ i : Nat, j ≤ i → i < n → f m ≤ f i
  low : ∀ i : Nat, j ≤ i → i < m → f m < f i
  at_ : j ≤ m ∨ (j = n ∧ m + 1 = n)
theorem IdleFrom.yes {f : Int → Int} {n p m : Nat} (h : IdleFrom f n (p + 1) m) (hp : p < n) (hv : f p ≤ f m) : IdleFrom f n p p := by
  refine ⟨hp, fun i h1 h2 => ?_, fun i h1 h2 => by omega, .inl (Nat.le_refl _)⟩
  by_cases e : i = p
  · subst e; exact Int.le_refl _
  · have := h.le i (by omega) h2; omega
theorem IdleFrom.no {f : Int → Int} {n p m : Nat} (h : IdleFrom f n (p + 1) m) (hv : ¬ f p ≤ f m) : IdleFrom f n p m := by
  have hpm : p + 1 ≤ m := by
    rcases h.at_ with h1 | ⟨h1, h2⟩
    · exact h1
    · obtain rfl : p = m := by omega
      exact absurd (Int.le_refl _) hv
  refine ⟨h.lt, fun i h1 h2 => ?_, fun i h1 h2 => ?_, .inl (by omega)⟩
  · by_cases e : i = p
    · subst e; omega
    · exact h.le i (by omega) h2
  · by_cases e : i = p
    · subst e; omega
    · exact h.low i (by omega) h2
theorem BusyFrom.all {l : List Ld} {n m : Nat} (h : BusyFrom (workAt l) n 0 m) : m = busyOf (works l n) := by
  have hl := works_len l n
  have h0 := h.lt
  refine IsBusy.uniq (ws := works l n) ⟨by omega, fun i hi => ?_, fun i hi => ?_⟩ (busyOf_is _ (by omega)).1
  · rw [works_at l n i (by omega), works_at l n m h0]; exact h.ge i (Nat.zero_le _) (by omega)
  · rw [works_at l n i (by omega), works_at l n m h0]; exact h.low i (Nat.zero_le _) hi
theorem IdleFrom.all {l : List Ld} {n m : Nat} (h : IdleFrom (workAt l) n 0 m) : m = idleOf (works l n) := by
  have hl := works_len l n
  have h0 := h.lt
  refine IsIdle.uniq (ws := works l n) ⟨by omega, fun i hi => ?_, fun i hi => ?_⟩ (idleOf_is _ (by omega)).1
  · rw [works_at l n i (by omega), works_at l n m h0]; exact h.le i (Nat.zero_le _) (by omega)
  · rw [works_at l n i (by omega), works_at l n m h0]; exact h.low i (Nat.zero_le _) hi
set_option maxRecDepth 20000 in
set_option maxHeartbeats 2000000 in
theorem refBusiest_any (n : Nat) (a : Option Addr) (c : Nat) (l : List Ld) (w : World) (hA : RowK .i64 w a (3 * l.length) (ldFlat l)) (h1 : 1 ≤ n) (h5 : n ≤ 5) (hr : Rise n l) :
    Calls Try.prog 24 #[.slice a l.length c, .int .i64 n] w fun e w' => e = .returned (.tuple #[.int .i64 (busyOf (works l n)), .int .i64 (idleOf (works l n))]) ∧ w' = w := by
  have HW := fun z => workAt_any z n a c l w hA hr
  have HB := veil (fun m (h : BusyFrom (workAt l) n 0 m) => h.all)
  have HI := veil (fun m (h : IdleFrom (workAt l) n 0 m) => h.all)
  clear hA hr
  generalize workAt l = f at *
  generalize busyOf (works l n) = bu at *
  generalize idleOf (works l n) = id at *
  generalize l.length = len at *
  go_enter Try.func24, Try.ntmps24
  go_wp2
  go_loop [6, 7, 8] (fun b i t => ∃ j mb mi : Nat, j ≤ n ∧ t = .int .i64 ((j : Int) - 1) ∧ b = .int .i64 mb ∧ i = .int .i64 mi ∧ Hid (BusyFrom f n j mb) ∧ Hid (IdleFrom f n j mi)) (fun _ _ t => (intOf t + 1).toNat)
  case atStart => exact ⟨n, n - 1, n - 1, Nat.le_refl _, rfl, congrArg (Value.int .i64) (by omega), congrArg (Value.int .i64) (by omega), veil ⟨by omega, fun i a b => by omega, fun i a b => by omega, .inr ⟨rfl, by omega⟩⟩, veil ⟨by omega, fun i a b => by omega, fun i a b => by omega, .inr ⟨rfl, by omega⟩⟩⟩
  case round =>
    obtain ⟨j, mb, mi, hj, rfl, rfl, rfl, HB1, HI1⟩ := hrel
    cases j with
    | zero =>
      have e1 := unveil HB mb (unveil HB1)
      have e2 := unveil HI mi (unveil HI1)
      have E1 := veil e1
      have E2 := veil e2
      clear e1 e2 HW
      go_wp2
      exact bodyPost_ret (v := .tuple #[.int .i64 mb, .int .i64 mi]) (by simp [results, Try.results24, go_sem]) rfl ⟨by rw [unveil E1, unveil E2], rfl⟩
    | succ p =>
      have ep : ((p + 1 : Nat) : Int) - 1 = (p : Int) := by omega
      rw [ep]
      clear ep
      have hp : p < n := by omega
      have BY := veil ((unveil HB1).yes hp)
      have BN := veil ((unveil HB1).no)
      have IY := veil ((unveil HI1).yes hp)
      have IN := veil ((unveil HI1).no)
      clear HB1 HI1 HB HI
      by_cases c1 : f mb ≤ f p
      · by_cases c2 : f p ≤ f mi
        · have B := veil (unveil BY c1)
          have I := veil (unveil IY c2)
          clear BY BN IY IN
          go_wp2_with (go_at_call 25; refine (HW _).mono ?_; rintro _ w ⟨rfl, rfl⟩)
          exact ⟨⟨p, p, p, by omega, by go_num, rfl, rfl, B, I⟩, by simp [intOf]⟩
        · have B := veil (unveil BY c1)
          have I := veil (unveil IN c2)
          clear BY BN IY IN
          go_wp2_with (go_at_call 25; refine (HW _).mono ?_; rintro _ w ⟨rfl, rfl⟩)
          exact ⟨⟨p, p, mi, by omega, by go_num, rfl, rfl, B, I⟩, by simp [intOf]⟩
      · by_cases c2 : f p ≤ f mi
        · have B := veil (unveil BN c1)
          have I := veil (unveil IY c2)
          clear BY BN IY IN
          go_wp2_with (go_at_call 25; refine (HW _).mono ?_; rintro _ w ⟨rfl, rfl⟩)
          exact ⟨⟨p, mb, p, by omega, by go_num, rfl, rfl, B, I⟩, by simp [intOf]⟩
        · have B := veil (unveil BN c1)
          have I := veil (unveil IN c2)
          clear BY BN IY IN
          go_wp2_with (go_at_call 25; refine (HW _).mono ?_; rintro _ w ⟨rfl, rfl⟩)
          exact ⟨⟨p, mb, mi, by omega, by go_num, rfl, rfl, B, I⟩, by simp [intOf]⟩
end Go.Proofs.Ytmkbidglfnpgjaa
