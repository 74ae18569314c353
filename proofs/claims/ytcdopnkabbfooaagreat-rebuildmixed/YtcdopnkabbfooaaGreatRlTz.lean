/- Records of two queues among each other. -/
import Derived.Test.YtcdopnkabbfooaaGreatRkTop
import Derived.Test.YtcdopnkabbfooaaGreatMvR
namespace Go.Proofs.YtcdopnkabbfooaaGreat
open Go.RowKit

/-- the first i of P and the first j of Q, among each other. -/
structure Mix (P Q : List Rec) (i j : Nat) (R : List Rec) : Prop where
  f0 : R.filter (fun r => decide (r.q.toNat = 0)) = P.take i
  f3 : R.filter (fun r => decide (r.q.toNat = 3)) = Q.take j
  q : ∀ r ∈ R, r.q = 0 ∨ r.q = 3
  l : R.length = i + j
  wf : ∀ u ∈ recFlat R, (Lit.int .i64 u).wf = true
theorem Mix.nil (P Q : List Rec) : Mix P Q 0 0 [] := ⟨rfl, rfl, by simp, rfl, by simp [recFlat]⟩
theorem rec_mem {l : List Rec} {r : Rec} (h : r ∈ l) {u : Int} (hu : u ∈ recTen r) : u ∈ recFlat l := List.mem_flatMap.2 ⟨r, h, hu⟩
theorem Mix.left {P Q R : List Rec} {i j : Nat} (h : Mix P Q i j R) (hP : ∀ r ∈ P, r.q = 0) (hw : ∀ u ∈ recFlat P, (Lit.int .i64 u).wf = true) (hi : i < P.length) : Mix P Q (i + 1) j (R ++ [P[i]]) := by
  have hm : P[i] ∈ P := List.getElem_mem hi
  have hq := hP _ hm
  refine ⟨?_, ?_, ?_, ?_, ?_⟩
  · rw [List.filter_append, h.f0, List.take_add_one, List.getElem?_eq_getElem hi, List.filter_cons_of_pos (by rw [hq]; decide), List.filter_nil]
    rfl
  · rw [List.filter_append, h.f3, List.filter_cons_of_neg (by rw [hq]; decide), List.filter_nil, List.append_nil]
  · intro r hr
    rcases List.mem_append.1 hr with g | g
    · exact h.q r g
    · rw [List.mem_singleton.1 g]; exact .inl hq
  · rw [List.length_append, h.l]; simp; omega
  · intro u hu
    rw [recFlat_snoc] at hu
    rcases List.mem_append.1 hu with g | g
    · exact h.wf u g
    · exact hw u (rec_mem hm g)
theorem Mix.right {P Q R : List Rec} {i j : Nat} (h : Mix P Q i j R) (hQ : ∀ r ∈ Q, r.q = 3) (hw : ∀ u ∈ recFlat Q, (Lit.int .i64 u).wf = true) (hj : j < Q.length) : Mix P Q i (j + 1) (R ++ [Q[j]]) := by
  have hm : Q[j] ∈ Q := List.getElem_mem hj
  have hq := hQ _ hm
  refine ⟨?_, ?_, ?_, ?_, ?_⟩
  · rw [List.filter_append, h.f0, List.filter_cons_of_neg (by rw [hq]; decide), List.filter_nil, List.append_nil]
  · rw [List.filter_append, h.f3, List.take_add_one, List.getElem?_eq_getElem hj, List.filter_cons_of_pos (by rw [hq]; decide), List.filter_nil]
    rfl
  · intro r hr
    rcases List.mem_append.1 hr with g | g
    · exact h.q r g
    · rw [List.mem_singleton.1 g]; exact .inr hq
  · rw [List.length_append, h.l]; simp; omega
  · intro u hu
    rw [recFlat_snoc] at hu
    rcases List.mem_append.1 hu with g | g
    · exact h.wf u g
    · exact hw u (rec_mem hm g)
theorem mix_all {P Q R : List Rec} {B0 B3 : Bt} (h : Mix P Q P.length Q.length R) (h0 : Runs Bt.zero P B0) (h3 : Runs Bt.zero Q B3) (hl : R.length ≤ 2010) (a : Option Addr) (c : Nat) (w : World) (row : RowK .i64 w a (10 * R.length) (recFlat R)) (hc : R.length ≤ c) :
    Calls Tryz.prog 15 #[.slice a R.length c] w fun x w' => ∃ Y f A K, x = .returned (.tuple #[.slice (some ⟨Y, 0, none⟩) 4 4, .int .i64 0, .int .i64 0]) ∧ Fb w' Y f A K ∧ f 0 = B0 ∧ f 3 = B3 ∧ Below w.heap.size w w' := by
  refine (all_any R a c w row hc (by omega)).mono ?_
  rintro x w' ⟨⟨_, g⟩, b⟩
  have none_at : ∀ q : Nat, q ≠ 0 → q ≠ 3 → R.filter (fun r => decide (r.q.toNat = q)) = [] := fun q n0 n3 => List.filter_eq_nil_iff.2 (fun r hr => by
    rcases h.q r hr with e | e <;> rw [e] <;> simp <;> omega)
  have hreb := runs_reb R (bts zeroF) [B0, Bt.zero, Bt.zero, B3] 0 rfl rfl (fun r hr => by rcases h.q r hr with e | e <;> rw [e] <;> decide) (by
    refine below4b ?_ ?_ ?_ ?_
    · rw [h.f0, List.take_length]; exact h0
    · rw [none_at 1 (by decide) (by decide)]; exact .nil _
    · rw [none_at 2 (by decide) (by decide)]; exact .nil _
    · rw [h.f3, List.take_length]; exact h3)
  rw [hreb] at g
  obtain ⟨Y, f, A, K, rfl, _, _, hS, fb, hY⟩ := g _ rfl
  have e0 := bts_get f 0 (by omega)
  have e3 := bts_get f 3 (by omega)
  rw [← hS] at e0 e3
  exact ⟨Y, f, A, K, rfl, fb, e0.symm, e3.symm, b⟩
end Go.Proofs.YtcdopnkabbfooaaGreat
