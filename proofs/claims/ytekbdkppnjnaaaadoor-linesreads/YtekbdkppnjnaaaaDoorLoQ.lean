/- Walk of LinesReads. -/
import Derived.Test.YtekbdkppnjnaaaaDoorLoS
namespace Go.Proofs.YtekbdkppnjnaaaaDoor
open Go.RowKit

theorem ReadR.det {t : List UInt8} {D D' : List Int} {n n' : Nat} {p p' er er' : Int} (h : ReadR t D n p er) (h' : ReadR t D' n' p' er') : D = D' ∧ n = n' ∧ p = p' ∧ er = er' := by
  cases h with
  | size h =>
    cases h' with
    | size h' => exact ⟨rfl, rfl, rfl, rfl⟩
    | full h' _ _ => omega
    | form h' _ _ _ _ _ _ => omega
    | good h' _ _ _ _ => omega
  | full h h1 hg =>
    cases h' with
    | size h' => omega
    | full h' _ _ => exact ⟨rfl, rfl, rfl, rfl⟩
    | form h' k s hk h2 hg' hb => obtain ⟨f, hf⟩ := hg k s hk h2; exact absurd hf (hb f)
    | good h' _ h2 _ _ => omega
  | form h k s hk h1 hg hb =>
    cases h' with
    | size h' => omega
    | full h' h2 hg' => obtain ⟨f, hf⟩ := hg' k s hk h1; exact absurd hf (hb f)
    | form h' k' s' hk' h2 hg' hb' =>
      rcases Nat.lt_trichotomy k k' with e | e | e
      · obtain ⟨f, hf⟩ := hg' k s hk e; exact absurd hf (hb f)
      · subst e; exact ⟨rfl, rfl, rfl, rfl⟩
      · obtain ⟨f, hf⟩ := hg k' s' hk' e; exact absurd hf (hb' f)
    | good h' _ h2 _ hg' => exact absurd (hg' k s hk) (hb _)
  | good h D h1 hD hg =>
    cases h' with
    | size h' => omega
    | full h' h2 _ => omega
    | form h' k s hk h2 hg' hb => exact absurd (hg k s hk) (hb _)
    | good h' D' h2 hD' hg' =>
      refine ⟨flat_ext hD hD' (fun i hi => ?_), rfl, rfl, rfl⟩
      have hs := List.getElem?_eq_getElem hi
      exact (hg i _ hs).uniq (hg' i _ hs)
theorem ReadR.wf {t : List UInt8} {D : List Int} {n : Nat} {p er : Int} (h : ReadR t D n p er) : (∀ u ∈ D, (Lit.int .i64 u).wf = true) ∧ n ≤ 100000 := by
  cases h with
  | size h => exact ⟨(fun u hu => by cases hu), by omega⟩
  | full h h1 hg => exact ⟨(fun u hu => by cases hu), by omega⟩
  | form h k s hk h1 hg hb => exact ⟨(fun u hu => by cases hu), by omega⟩
  | good h D h1 hD hg => exact ⟨acts_wf hD (fun i hi => (hg i _ (List.getElem?_eq_getElem hi)).1), h1⟩
set_option maxRecDepth 20000 in
set_option maxHeartbeats 4000000 in
theorem walk_LinesReads (w : World) (hL : LaidR w) (s : ByteArray) (_ : s.size ≤ maxLen) :
    Calls Tryd.prog 5 #[.string s] w fun x w' => x = .returned (.bool true) ∧ Below w.heap.size w w' := by
  obtain ⟨t, rfl⟩ : ∃ t, s = str t := ⟨s.data.toList, by simp [str]⟩
  have H1 := read_full t w hL
  clear hL
  go_enter Tryd.func5, Tryd.ntmps5
  go_upto_region 2 with (go_at_call 16; refine H1.mono ?_; rintro e V1 ⟨v1, D, n, p, er, rfl, hr, o1, b1⟩; clear H1)
  have H2 := actsRead_any t V1
  obtain ⟨a1, c1, rfl, r1, _⟩ := RowK.ofMany o1 hr.wf.1
  have hn := hr.wf.2
  have HD : Hid (∀ D' n' p' er', ReadR t D' n' p' er' → D' = D ∧ n' = n ∧ p' = p ∧ er' = er) := veil fun D' n' p' er' h => h.det hr
  have hw := hr.wf.1
  have HW := veil hw
  clear o1 hr hw
  have q1 : (p == p) = true := by simp
  have q2 : (er == er) = true := by simp
  generalize str t = S at *
  go_upto_region 3 with (go_at_call 17; refine H2.mono ?_; rintro e V2 ⟨v2, D', n', p', er', rfl, hr', o2, b2⟩; obtain ⟨rfl, rfl, rfl, rfl⟩ := unveil HD _ _ _ _ hr'; clear H2 HD hr')
  obtain ⟨a2, c2, rfl, r2, _⟩ := RowK.ofMany o2 (unveil HW)
  have B2 := Below.next b1 b2
  have H3 := sameActs_below a1 a2 n' c1 c2 D' V2 (r1.below b2) r2 (by omega)
  clear o2 HW r1 r2 b1 b2
  go_wp2_with (go_at_call 15; refine H3.mono ?_; rintro e V3 ⟨rfl, b3⟩; clear H3)
  go_ret
  exact ⟨by simp, Below.next B2 b3⟩
end Go.Proofs.YtekbdkppnjnaaaaDoor
