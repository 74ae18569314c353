/- ClientSafe in plain words: a queue that gets a client's messages, and both in their boxes. -/
import Derived.Test.YtjolamdlclcpcaaCqR
import Derived.Test.YtjolamdlclcpcaaQkE
import Derived.Test.YtjolamdlclcpcaaQkF
import Derived.Test.YtjolamdlclcpcaaWdL
namespace Go.Proofs.Ytjolamdlclcpcaa
open Go.RowKit

theorem nodup_lt : ∀ (n : Nat) (l : List Int), l.Nodup → (∀ i ∈ l, 0 ≤ i ∧ i < n) → l.length ≤ n
  | 0, l, _, h => by
    cases l with
    | nil => exact Nat.le_refl _
    | cons a l => have := h a (by simp); omega
  | n + 1, l, hd, h => by
    by_cases hm : (n : Int) ∈ l
    · have h1 := nodup_lt n (l.erase n) (hd.erase _) (fun i hi => by
        have h2 := (List.Nodup.mem_erase_iff hd).1 hi
        have h3 := h i h2.2
        have h4 : i ≠ (n : Int) := h2.1
        omega)
      rw [List.length_erase_of_mem hm] at h1
      omega
    · have h1 := nodup_lt n l hd (fun i hi => by
        have h3 := h i hi
        have h4 : i ≠ (n : Int) := fun e => hm (e ▸ hi)
        omega)
      omega
/-- a queue that has got messages of the producer 1 alone. -/
structure Sf (s : St) (ids : List Int) (sent : Nat) : Prop where
  wf : s.Wf
  win : WinInv ids (s.wt 1) (s.wz 1)
  nd : ids.Nodup
  rng : ∀ i ∈ ids, 0 ≤ i ∧ i < sent
  nx : s.nx = s.rn
  len : s.rn = ids.length
  ln : s.ln = 0
theorem Sf.zero : Sf St.zero [] 0 := ⟨St.zero_wf, WinInv.none, .nil, (fun i hi => by cases hi), rfl, rfl, rfl⟩
theorem Sf.more {s : St} {ids : List Int} {sent : Nat} (h : Sf s ids sent) : Sf s ids (sent + 1) := ⟨h.wf, h.win, h.nd, fun i hi => by have := h.rng i hi; omega, h.nx, h.len, h.ln⟩
theorem Sf.few {s : St} {ids : List Int} {sent : Nat} (h : Sf s ids sent) : s.rn ≤ sent := by rw [h.len]; exact nodup_lt sent ids h.nd h.rng
theorem Sf.top {s : St} {ids : List Int} {sent : Nat} (h : Sf s ids sent) : s.wt 1 ≤ sent := by
  by_cases he : ids = []
  · rw [h.win.zero he]; omega
  · have := h.rng _ (h.win.last he); omega
theorem Sf.pub {s s' : St} {ids : List Int} {sent : Nat} {v : Ev} {an : An} {ch : Bool} (h : Sf s ids sent) (hs : sent ≤ 80) (hv : v.Ok) (hk : v.k = 1) (hp : v.p = 1) (h0 : (sent : Int) - 8 ≤ v.i) (h1 : v.i < sent) (st : Step s v s' an ch) : an = ⟨0, 0, 0, 0⟩ ∧ ∃ ids', Sf s' ids' sent := by
  have wf' := st.wf h.wf hv
  have ht := h.top
  have hr := h.few
  have hv0 : 0 ≤ v.i ∧ v.i ≤ 1073741824 := by
    rcases Ev.cases hv with c | c | c | c <;> omega
  have hpn : v.p.toNat = 1 := by rw [hp]; rfl
  cases st with
  | recEmpty hk' | recFull hk' | recv hk' | ackStale hk' | ackNone hk' | ack hk' | endFull hk' | stop hk' => omega
  | pubLow _ h' => rw [hpn] at h'; omega
  | pubOld _ h' => exact ⟨rfl, ids, h⟩
  | pubFull _ _ _ h' => have := h.ln; have := h.nx; omega
  | pub _ hl hn _ _ =>
    rw [hpn] at hl hn
    have hin : v.i ∉ ids := fun hm => by rw [(h.win.mem v.i hl).2 hm] at hn; cases hn
    refine ⟨rfl, ids ++ [v.i], wf', ?_, ?_, ?_, ?_, ?_, h.ln⟩
    · show WinInv _ (tput s.wt v.p.toNat _ 1) (tput s.wz v.p.toNat _ 1)
      rw [hpn]
      unfold tput
      rw [if_pos rfl, if_pos rfl]
      exact h.win.take hv0.1 hv0.2 hn
    · rw [List.nodup_append]
      refine ⟨h.nd, by simp, fun x hx y hy => ?_⟩
      rw [List.mem_singleton.1 hy]
      exact fun e => hin (e ▸ hx)
    · intro i hi
      rcases List.mem_append.1 hi with hi | hi
      · exact h.rng i hi
      · rw [List.mem_singleton.1 hi]; omega
    · show s.nx + 1 = ((s.rn + 1 : Nat) : Int)
      rw [h.nx]; omega
    · show s.rn + 1 = (ids ++ [v.i]).length
      rw [h.len]; simp
/-- a client and a queue in their boxes. -/
structure Cs (w W : World) (X B : Nat) (C : Cl) (a : Option Addr) (c : Nat) (s : St) (a1 : Option Addr) (c1 : Nat) (a2 : Option Addr) (c2 : Nat) (ws : Nat → Value) : Prop where
  cb : cBlock W X C.p C.n a C.es.length c C.wh
  i : CIn W C a c
  q : Bx W B s a1 c1 a2 c2 ws
  bel : Below w.heap.size w W
  upX : w.heap.size ≤ X
  upB : w.heap.size ≤ B
  ne : X ≠ B
  oc : ∀ x, a = some x → 0 < C.es.length → x.block ≠ B
  oq : ∀ x, a1 = some x → 0 < s.rn → x.block ≠ X
  ln : s.ln = 0
theorem Cs.next {w W W' : World} {X B : Nat} {C : Cl} {a : Option Addr} {c : Nat} {s : St} {a1 : Option Addr} {c1 : Nat} {a2 : Option Addr} {c2 : Nat} {ws : Nat → Value} (h : Cs w W X B C a c s a1 c1 a2 c2 ws) (b : Below W.heap.size W W') : Cs w W' X B C a c s a1 c1 a2 c2 ws :=
  ⟨h.cb.next b, h.i.next b, h.q.next b, Below.next h.bel b, h.upX, h.upB, h.ne, h.oc, h.oq, h.ln⟩
theorem Bx.turned {W W' : World} {B R : Nat} {s : St} {a1 : Option Addr} {c1 : Nat} {a2 : Option Addr} {c2 : Nat} {ws : Nat → Value} (h : Bx W B s a1 c1 a2 c2 ws) (t : Turned R W W') (hB : B ≠ R) (h1 : ∀ x, a1 = some x → 0 < s.rn → x.block ≠ R) (h2 : s.ln = 0) : Bx W' B s a1 c1 a2 c2 ws :=
  ⟨t.queue h.q hB, t.row h.r1 (fun x hx h0 => h1 x hx (by omega)), t.row h.r2 (fun x hx h0 => by omega), h.n1, h.n2, h.wins⟩
/-- the client's box got another client. -/
theorem Cs.client {w W W' : World} {X B : Nat} {C D : Cl} {a a' : Option Addr} {c c' : Nat} {s : St} {a1 : Option Addr} {c1 : Nat} {a2 : Option Addr} {c2 : Nat} {ws : Nat → Value} (h : Cs w W X B C a c s a1 c1 a2 c2 ws) (t : Turned X W W') (cb : cBlock W' X D.p D.n a' D.es.length c' D.wh) (i : CIn W D a' c') (hx : ∀ x, a' = some x → 0 < D.es.length → x.block ≠ X ∧ x.block ≠ B) : Cs w W' X B D a' c' s a1 c1 a2 c2 ws :=
  ⟨cb, i.turn t (fun x e h0 => (hx x e h0).1), h.q.turned t (Ne.symm h.ne) h.oq h.ln, t.under h.bel h.upX, h.upX, h.upB, h.ne, fun x e h0 => (hx x e h0).2, h.oq, h.ln⟩
/-- the queue's box got another queue. -/
theorem Cs.queue {w W W' : World} {X B : Nat} {C : Cl} {a : Option Addr} {c : Nat} {s s' : St} {a1 : Option Addr} {c1 : Nat} {a2 : Option Addr} {c2 : Nat} {ws : Nat → Value} {b1 : Option Addr} {d1 : Nat} {b2 : Option Addr} {d2 : Nat} {vs : Nat → Value} (h : Cs w W X B C a c s a1 c1 a2 c2 ws) (t : Turned B W W')
    (q : qBlock W' B s'.ep s'.nx s'.gv (.slice b1 s'.rn d1) (.slice b2 s'.ln d2) vs) (r1 : RowK .i64 W b1 (2 * s'.rn) s'.R) (r2 : RowK .i64 W b2 (4 * s'.ln) s'.L) (n1 : b1 = none → d1 = 0) (n2 : b2 = none → d2 = 0) (hW : Wins vs s'.wt s'.wz) (ln : s'.ln = 0) (hx : ∀ x, b1 = some x → 0 < s'.rn → x.block ≠ X ∧ x.block ≠ B) : Cs w W' X B C a c s' b1 d1 b2 d2 vs :=
  ⟨h.cb.turned t h.ne, h.i.turn t h.oc, ⟨q, t.row r1 (fun x e h0 => (hx x e (by omega)).2), t.row r2 (fun x e h0 => by omega), n1, n2, hW⟩, t.under h.bel h.upB, h.upX, h.upB, h.ne, h.oc, fun x e h0 => (hx x e h0).1, ln⟩
end Go.Proofs.Ytjolamdlclcpcaa
