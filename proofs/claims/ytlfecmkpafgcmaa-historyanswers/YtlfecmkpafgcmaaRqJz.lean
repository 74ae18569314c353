/- The document's answer's QueueDone, with whatever event. -/
import Derived.Test.YtlfecmkpafgcmaaRqDz
import Derived.Test.YtlfecmkpafgcmaaRqAll
import Derived.Test.YtlfecmkpafgcmaaRqGz
import Derived.Test.YtlfecmkpafgcmaaRqKH
import Derived.Test.YtlfecmkpafgcmaaRqIz
import Derived.Test.YtlfecmkpafgcmaaQAll
namespace Go.Proofs.Ytlfecmkpafgcmaa
open Go.RowKit

theorem queueDone_step (s : St) (ra la : Option Addr) (rc lc : Nat) (ws : Nat → Value) (v : Ev) (w : World) (hR : RowK .i64 w ra (2 * s.rn) s.R) (hL : RowK .i64 w la (4 * s.ln) s.L) (hW : Wins ws s.wt s.wz) (h : s.Ok) (hv : v.Ok) :
    Calls Try.prog 36 #[qVal s.ep s.nx s.gv (.slice ra s.rn rc) (.slice la s.ln lc) ws, evIn v] w fun e w' => QdR s v w e w' := by
  have hc := h.count
  rcases Ev.cases hv with ⟨hk, h1, h2, h3, h4, h5, h6, h7, h8⟩ | ⟨hk, h1, h2, h3, h4, h5⟩ | ⟨hk, h1, h2, h3, h4, h5, h6, h7⟩ | ⟨hk, h1, h2, h3, h4, h5⟩
  · obtain ⟨P, hP⟩ : ∃ P : Nat, v.p = P := ⟨v.p.toNat, by omega⟩
    have hPt : v.p.toNat = P := by omega
    have hP4 : P < 4 := by omega
    have hw := h.wins P hP4
    by_cases g1 : v.i < s.wt P - 8
    · refine queueDone_pub s ra la rc lc ws v w hR hL hW h (veil hv) (veil hk) P hP4 (veil hP) 0 noneS false 9 (fun w => idTaken_err _ _ 9 _ w (by decide) (fun w => idSeen_low _ _ _ w hw h3 h4 g1)) (veil fun _ => ?_) (veil fun g => by simp at g) (fun g => by simp at g)
      exact .pubLow hk (by rw [hPt]; exact g1)
    · cases g2 : inWin (s.wt P) (s.wz P) v.i with
      | true =>
        refine queueDone_pub s ra la rc lc ws v w hR hL hW h (veil hv) (veil hk) P hP4 (veil hP) (s.wt P) (s.wz P) false 0 (fun w => idTaken_old _ _ _ w hw h3 h4 g2) (veil fun _ => ?_) (veil fun g => by simp at g) (fun _ g => by simp at g)
        exact .pubOld hk (by rw [hPt]; exact g2)
      | false =>
        by_cases g3 : 500 ≤ s.rn + s.ln ∨ s.nx = 1073741824
        · refine queueDone_pub s ra la rc lc ws v w hR hL hW h (veil hv) (veil hk) P hP4 (veil hP) (takeT (s.wt P) v.i) (takeS (s.wt P) (s.wz P) v.i) true 0 (fun w => idTaken_new _ _ _ w hw h3 h4 (by omega) g2) (veil fun g => by simp at g) (veil fun _ hf => ?_) (fun _ _ => g3)
          exact .pubFull hk (by rw [hPt]; omega) (by rw [hPt]; exact g2) hf
        · have hn1 := hc.n1
          refine queueDone_new s ra la rc lc ws v w hR hL hW h (veil hv) (veil hk) P hP4 (veil hP) (takeT (s.wt P) v.i) (takeS (s.wt P) (s.wz P) v.i) (fun w => idTaken_new _ _ _ w hw h3 h4 (by omega) g2) (by omega) (by omega) (wf_in (by omega) (by omega)) (veil ?_)
          have := Step.pub (s := s) hk (by rw [hPt]; omega) (by rw [hPt]; exact g2) (by omega) (by omega)
          rw [hPt] at this
          exact this
  · by_cases g1 : s.rn = 0
    · exact queueDone_empty s ra la rc lc ws v w hR hL hW h (veil hv) (veil hk) (veil g1)
    · by_cases g2 : s.gv = 1073741824
      · exact queueDone_given s ra la rc lc ws v w hR hL hW h (veil hv) (veil hk) (by omega) (veil g2)
      · have := hc.g1
        exact queueDone_recv s ra la rc lc ws v w hR hL hW h (veil hv) (veil hk) (by omega) (by omega)
  · by_cases g1 : v.he = s.ep
    · exact queueDone_ack s ra la rc lc ws v w hR hL hW h (veil hv) (veil hk) (veil g1)
    · exact queueDone_stale s ra la rc lc ws v w hR hL hW h (veil hv) (veil hk) g1
  · by_cases g1 : s.ep = 1048576
    · exact queueDone_endFull s ra la rc lc ws v w hR hL hW h (veil hv) (veil hk) (veil g1)
    · have := hc.e1
      exact queueDone_stop s ra la rc lc ws v w hR hL hW h (veil hv) (veil hk) (by omega)
theorem queueDone_any (s : St) (ra la : Option Addr) (rc lc : Nat) (ws : Nat → Value) (v : Ev) (w : World) (hR : RowK .i64 w ra (2 * s.rn) s.R) (hL : RowK .i64 w la (4 * s.ln) s.L) (hW : Wins ws s.wt s.wz) (h : s.Ok) :
    Calls Try.prog 36 #[qVal s.ep s.nx s.gv (.slice ra s.rn rc) (.slice la s.ln lc) ws, evIn v] w fun e w' => ∃ (s' : St) (an : An) (ch : Bool) (er : Int) (x : Value), e = .returned (.tuple #[x, anOf an, .bool ch, .int .i64 er]) ∧ DoR s v s' an ch er ∧ QOut w w' s' x ∧ Below w.heap.size w w' := by
  by_cases hv : v.Ok
  · refine (queueDone_step s ra la rc lc ws v w hR hL hW h hv).mono ?_
    rintro e w' ⟨s', an, ch, x, rfl, st, q, b⟩
    exact ⟨s', an, ch, 0, x, rfl, .step hv st, q, b⟩
  · refine (queueDone_form s ra la rc lc ws v w hR hL hW h _ hv (veil rfl)).mono ?_
    rintro e w' ⟨rfl, b⟩
    exact ⟨St.zero, An.zero, false, _, _, rfl, .form _ rfl hv, ⟨⟨none, 0, none, 0, zeroW, rfl, RowK.nil _ _ _, RowK.nil _ _ _, Nat.le_refl _, Nat.le_refl _, fun _ => rfl, fun _ => rfl, zeroWins, fun x hx => (by cases hx), fun x hx => (by cases hx)⟩⟩, b⟩
theorem DoR.det {s s1 s2 : St} {v : Ev} {a1 a2 : An} {c1 c2 : Bool} {e1 e2 : Int} (h : s.Wf) (x : DoR s v s1 a1 c1 e1) (y : DoR s v s2 a2 c2 e2) : s1 = s2 ∧ a1 = a2 ∧ c1 = c2 ∧ e1 = e2 := by
  cases x with
  | step hv st =>
    cases y with
    | step hv' st' => obtain ⟨h1, h2, h3⟩ := Step.det h st st'; exact ⟨h1, h2, h3, rfl⟩
    | form _ hv' h0 => exact absurd (hv'.symm.trans hv) h0
  | form _ hv h0 =>
    cases y with
    | step hv' st' => exact absurd (hv.symm.trans hv') h0
    | form _ hv' h0' => exact ⟨rfl, rfl, rfl, hv.symm.trans hv'⟩
end Go.Proofs.Ytlfecmkpafgcmaa
