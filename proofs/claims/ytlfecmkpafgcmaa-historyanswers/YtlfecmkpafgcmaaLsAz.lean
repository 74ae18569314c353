/- The document's answer's AnswersOf; the law package's sameAnswers. -/
import Derived.Test.YtlfecmkpafgcmaaHnAll
import Derived.Test.YtlfecmkpafgcmaaRtAz
import Derived.Deep.QuietTactic
import Derived.BigQuiet
namespace Go.Proofs.Ytlfecmkpafgcmaa
open Go.RowKit

theorem Av.rv {es : List Ev} {w w' : World} {va : Value} {er : Int} (h : Av es w w' va er) : ∃ s, Rv es s er := by
  cases h with
  | bad h hr => exact ⟨_, hr⟩
  | told ans h ht own => exact ⟨_, .told ans h ht⟩
/-- both answer the same. -/
theorem Av.same {es : List Ev} {w w1 w2 v1 v2 : World} {va vb : Value} {e1 e2 : Int} (h : Av es w w1 va e1) (g : Av es w2 v1 vb e2) (b1 : Below w1.heap.size w1 v2) (b2 : Below v1.heap.size v1 v2) : e1 = e2 ∧ ∃ (n : Nat) (a a' : Option Addr) (c c' : Nat) (A : List Int), n ≤ 2000 ∧ va = .slice a n c ∧ vb = .slice a' n c' ∧ RowK .i64 v2 a (4 * n) A ∧ RowK .i64 v2 a' (4 * n) A := by
  cases h with
  | bad h hr =>
    cases g with
    | bad h' hr' => exact ⟨(hr.one hr').2, 0, none, none, 0, 0, [], by decide, rfl, rfl, RowK.nil _ _ _, RowK.nil _ _ _⟩
    | told ans h' ht own => exact absurd (hr.one (.told ans h' ht)).2 h
  | told ans h ht own =>
    cases g with
    | bad h' hr' => exact absurd (hr'.one (.told ans h ht)).2 h'
    | told ans' h' ht' own' =>
      obtain ⟨_, rfl⟩ := ht.one ht'
      obtain ⟨a, c, rfl, r, _⟩ := RowK.ofMany own ht.an_wf
      obtain ⟨a', c', rfl, r', _⟩ := RowK.ofMany own' ht.an_wf
      exact ⟨rfl, ans.length, a, a', c, c', anFlat ans, by have := ht.len; omega, rfl, rfl, r.below b1, r'.below b2⟩
theorem ret_AnswersOf {W : World} {x : Value} {er : Int} {tmps : Array Value} (t2 : tmps[2]? = some x) (t3 : tmps[3]? = some (.int .i64 er)) :
    (results Try.f8 tmps).run Try.prog W = .ok (.tuple #[x, .int .i64 er]) W := by
  simp [results, Try.results8, t2, t3]
set_option maxRecDepth 20000 in
set_option maxHeartbeats 4000000 in
theorem answersOf_any (es : List Ev) (a : Option Addr) (cap : Nat) (w : World) (hr : RowK .i64 w a (6 * es.length) (evFlat es)) :
    Calls Try.prog 8 #[.slice a es.length cap] w fun e w' => ∃ va er, e = .returned (.tuple #[va, .int .i64 er]) ∧ Av es w w' va er ∧ Below w.heap.size w w' := by
  have HT := veil (told_any es a cap w hr)
  go_enter Try.func8, Try.ntmps8
  go_wp2_with (first
    | (go_at_call 25; refine (unveil HT).mono ?_; rintro e W2 ⟨x, va, er, s, rfl, tv, ⟨⟨a1, c1, a2, c2, ws, rfl, _, _, _, _, _, _, hW, _, _⟩⟩, b2⟩; have HTv := veil tv; have HB2 := veil b2; clear HT tv b2)
    | (refine q_alloc 4 rfl rfl rfl ?_; intro W3 z3 b3; have HZ3 := veil z3; have HB3 := veil b3; clear b3)
    | (refine q_store (ra := a1) (la := a2) (ws' := ws) _ _ rfl rfl rfl rfl z3 hW ?_; intro W4 q4 t4; have HT4 := veil t4; clear q4 t4 z3))
  have b2 := unveil HB2
  have b3 := unveil HB3
  have t4 := unveil HT4
  refine bodyPost_ret (ret_AnswersOf rfl rfl) rfl ⟨va, er, rfl, ?_, t4.under (Below.next b2 b3) b2.size⟩
  cases unveil HTv with
  | bad h hr => exact .bad h hr
  | told ans h ht own =>
    have o3 := own_still own (fun g _ hg => b3.block g hg)
    exact .told ans h ht (t4.owns o3 (own_off o3 (unveil HZ3) (by decide)))
set_option maxHeartbeats 1000000 in
theorem sameAnswersL_yes (a a' : Option Addr) (n cap cap' : Nat) (A : List Int) (w : World) (h : RowK .i64 w a (4 * n) A) (h' : RowK .i64 w a' (4 * n) A) (hm : n ≤ 2000) :
    Calls Try.prog 9 #[.slice a n cap, .slice a' n cap'] w fun e w' => e = .returned (.bool true) ∧ ∃ m, w' = w.drewN m := by
  go_enter Try.func9, Try.ntmps9
  have ee : ((n : Int) == (n : Int)) = true := by simp
  go_wp2
  go_loopw [5] (fun t wr => ∃ k m : Nat, k ≤ n ∧ t = .int .i64 k ∧ wr = w.drewN m) (fun t _ => n - (intOf t).toNat)
  case atStart => exact ⟨0, 0, Nat.zero_le _, rfl, rfl⟩
  case round =>
    obtain ⟨k, m, hk, rfl, rfl⟩ := hrel
    by_cases hlt : k < n
    · obtain ⟨b, off, rfl⟩ := h.form (by omega)
      obtain ⟨b', off', rfl⟩ := h'.form (by omega)
      obtain ⟨m0, m1, m2, m3⟩ := h.four k hlt
      obtain ⟨n0, n1, n2, n3⟩ := h'.four k hlt
      generalize A.getD (4 * k) 0 = x0 at m0 n0
      generalize A.getD (4 * k + 1) 0 = x1 at m1 n1
      generalize A.getD (4 * k + 2) 0 = x2 at m2 n2
      generalize A.getD (4 * k + 3) 0 = x3 at m3 n3
      clear h h'
      have hki : (k : Int) < (n : Int) := by omega
      go_wp2_with fail
      go_quiet (fail)
      clear m0 m1 m2 m3 n0 n1 n2 n3
      go_wp2
      go_roundw
      case rel => exact ⟨k + 1, m + nq, by omega, by go_num, by first | exact (World.drewN_add _ _ _).symm | exact World.drewN_add _ _ _ | exact World.drewN_drewN _ _ _ | rfl | simp⟩
      case measure => simp [intOf]; omega
    · have hk' : k = n := by omega
      subst hk'
      go_wp2
      go_ret
      exact ⟨rfl, m, rfl⟩
end Go.Proofs.Ytlfecmkpafgcmaa
