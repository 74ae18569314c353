/- Walk of LinesFixed: acts are shown as they were read. -/
import Derived.Test.YtekbdkppnjnaaaaDoorLoF
import Derived.Test.YtekbdkppnjnaaaaDoorLnX
namespace Go.Proofs.YtekbdkppnjnaaaaDoor
open Go.RowKit

theorem lines_join : ∀ (n : Nat) (t : List UInt8), t.length ≤ n → (linesOf t).flatten = t
  | 0, t, h => by
    have : t = [] := List.length_eq_zero_iff.1 (by omega)
    subst this
    rfl
  | n + 1, t, h => by
    by_cases e : t = []
    · subst e; rfl
    · have h1 := lineEnd_pos e
      rw [linesOf_cons e, List.flatten_cons, lines_join n (t.drop (lineEnd t)) (by rw [List.length_drop]; omega), List.take_append_drop]
theorem show_join (D : List Int) (ls : List (List UInt8)) (hg : ∀ i s, ls[i]? = some s → s = lineL (actAt D i) ++ [10]) : ∀ k, k ≤ ls.length → showL D k = (ls.take k).flatten
  | 0, _ => by simp [showL]
  | k + 1, h => by
    have hk : k < ls.length := by omega
    rw [List.take_add_one, List.getElem?_eq_getElem hk, List.flatten_append, ← show_join D ls hg k (by omega)]
    show showL D k ++ (lineL (actAt D k) ++ [10]) = _
    rw [← hg k _ (List.getElem?_eq_getElem hk)]
    simp
/-- the numbers of an act that may be. -/
theorem chk_bounds {f : Nat → Int} (h : chk f = 0) : ∀ j, j < 11 → 0 ≤ f j ∧ f j ≤ 1073741824 := by
  obtain ⟨hi, hn⟩ := chk_nums h
  intro j hj
  by_cases e : j ∈ noffs (kno (f 0) (f 5))
  · exact hn _ (List.mem_map_of_mem e)
  · rw [chk_rest h j hj e]
    have : ∀ i, i < 12 → 0 ≤ kact i ∧ kact i ≤ 10 ∧ 0 ≤ kop i ∧ kop i ≤ 3 := by
      refine below12 ?_ ?_ ?_ ?_ ?_ ?_ ?_ ?_ ?_ ?_ ?_ ?_ <;> decide
    have := this _ hi
    unfold bareK
    split
    · omega
    · split <;> omega
theorem acts_wf {D : List Int} {n : Nat} (hD : D.length = 11 * n) (hg : ∀ i, i < n → chk (actAt D i) = 0) : ∀ u ∈ D, (Lit.int .i64 u).wf = true := fun u hu => by
  obtain ⟨k, hk, rfl⟩ := List.mem_iff_getElem.1 hu
  have h1 := chk_bounds (hg (k / 11) (by omega)) (k % 11) (by omega)
  have e : actAt D (k / 11) (k % 11) = D[k] := by
    unfold actAt
    rw [show 11 * (k / 11) + k % 11 = k by omega]
    simp [hk]
  rw [e] at h1
  exact Go.WalkArith.wf_i64 ⟨by omega, by omega⟩
/-- what Read answers where it refuses nothing, and where it does. -/
theorem ReadR.cases {t : List UInt8} {D : List Int} {n : Nat} {p er : Int} (h : ReadR t D n p er) : (¬ er = 0 ∧ n = 0 ∧ 0 ≤ p) ∨ (er = 0 ∧ p = 0 ∧ n ≤ 100000 ∧ D.length = 11 * n ∧ (∀ i, i < n → chk (actAt D i) = 0) ∧ showL D n = t) := by
  cases h with
  | size h => exact .inl ⟨by decide, rfl, by decide⟩
  | full h h1 hg => exact .inl ⟨by decide, rfl, by decide⟩
  | form h k s hk h1 hg hb => exact .inl ⟨by decide, rfl, by omega⟩
  | good h D h1 hD hg =>
    refine .inr ⟨rfl, rfl, h1, hD, fun i hi => (hg i _ (List.getElem?_eq_getElem hi)).1, ?_⟩
    rw [show_join D (linesOf t) (fun i s hs => (hg i s hs).2) _ (Nat.le_refl _), List.take_length]
    exact lines_join _ t (Nat.le_refl _)
set_option maxRecDepth 20000 in
set_option maxHeartbeats 4000000 in
theorem walk_LinesFixed (w : World) (hL : LaidR w) (s : ByteArray) (_ : s.size ≤ maxLen) :
    Calls Tryd.prog 8 #[.string s] w fun x w' => x = .returned (.bool true) ∧ Below w.heap.size w w' := by
  obtain ⟨t, rfl⟩ : ∃ t, s = str t := ⟨s.data.toList, by simp [str]⟩
  have H1 := read_full t w hL
  have HS : Hid (∀ u a n c D, Below w.heap.size w u → RowK .i64 u a (11 * n) D → n ≤ 100000 → Calls Tryd.prog 13 #[.slice a n c] u fun x w' => ∃ s c e, x = .returned (.tuple #[.string (str s), .int .i64 c, .int .i64 e]) ∧ ShowR D n s c e ∧ Below u.heap.size u w') := veil fun u a n c D b h hn => show_any a n c D u (hL.l.next b) h (by omega)
  clear hL
  go_enter Tryd.func8, Tryd.ntmps8
  go_upto_region 2 with (go_at_call 16; refine H1.mono ?_; rintro e V1 ⟨v, D, n, p, er, rfl, hr, o1, b1⟩; clear H1)
  obtain ⟨a, c, rfl⟩ := own_form o1
  rcases hr.cases with ⟨he, rfl, hp⟩ | ⟨rfl, rfl, hn, hD, hc, hsh⟩
  · clear HS hr o1
    have he' : (er == 0) = false := by simpa using he
    go_wp2
    go_ret
    exact ⟨by simp, b1⟩
  · obtain ⟨a', c', e1, r1, _⟩ := RowK.ofMany o1 (acts_wf hD hc)
    obtain ⟨rfl, rfl⟩ : a = a' ∧ c = c' := by simpa using e1
    have H2 := unveil HS V1 a n c D b1 r1 hn
    have HD : Hid (∀ s c e, ShowR D n s c e → str s = str t ∧ c = 0 ∧ e = 0) := veil fun s c e r => by
      obtain ⟨r1, r2, r3⟩ := r.det (.good hn hc)
      exact ⟨by rw [r1, hsh], r2, r3⟩
    clear HS hr o1 r1 e1 hsh hD hc
    generalize str t = S at *
    go_wp2_with (go_at_call 13; refine H2.mono ?_; rintro e V2 ⟨s2, c2, e2, rfl, r2, b2⟩; obtain ⟨hs2, rfl, rfl⟩ := unveil HD _ _ _ r2; rw [hs2]; clear H2 HD r2 hs2)
    go_ret
    exact ⟨by simp, Below.next b1 b2⟩
end Go.Proofs.YtekbdkppnjnaaaaDoor
