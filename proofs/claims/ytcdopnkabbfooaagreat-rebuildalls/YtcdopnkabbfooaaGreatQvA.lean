/- What a queue does with an event, in plain words; a desk's method for each kind. -/
import Derived.Test.YtcdopnkabbfooaaGreatQuU
import Derived.Test.YtcdopnkabbfooaaGreatQuX
import Derived.Test.YtcdopnkabbfooaaGreatQuY
import Derived.Test.YtcdopnkabbfooaaGreatQuF
import Derived.Test.YtcdopnkabbfooaaGreatPkC
namespace Go.Proofs.YtcdopnkabbfooaaGreat
open Go.RowKit

/-- a queue's numbers. -/
structure St where
  ep : Int
  nx : Int
  gv : Int
  rn : Nat
  R : List Int
  ln : Nat
  L : List Int
  wt : Nat → Int
  wz : Nat → Nat → Bool
/-- an event's numbers. -/
structure Ev where
  k : Int
  p : Int
  i : Int
  b : Int
  he : Int
  hn : Int
/-- an answer's numbers. -/
structure An where
  c : Int
  he : Int
  no : Int
  bd : Int
/-- an event done to a queue: the queue behind it, the answer, whether anything changed. -/
inductive Step (s : St) (v : Ev) : St → An → Bool → Prop
  | pubLow (hk : v.k = 1) (h : v.i < s.wt v.p.toNat - 8) : Step s v s ⟨9, 0, 0, 0⟩ false
  | pubOld (hk : v.k = 1) (h : inWin (s.wt v.p.toNat) (s.wz v.p.toNat) v.i = true) : Step s v s ⟨0, 0, 0, 0⟩ false
  | pubFull (hk : v.k = 1) (h : s.wt v.p.toNat - 8 ≤ v.i) (hn : inWin (s.wt v.p.toNat) (s.wz v.p.toNat) v.i = false) (hf : 500 ≤ s.rn + s.ln ∨ s.nx = 1073741824) : Step s v s ⟨14, 0, 0, 0⟩ false
  | pub (hk : v.k = 1) (h : s.wt v.p.toNat - 8 ≤ v.i) (hn : inWin (s.wt v.p.toNat) (s.wz v.p.toNat) v.i = false) (hr : s.rn + s.ln < 500) (hx : s.nx < 1073741824) :
      Step s v ⟨s.ep, s.nx + 1, s.gv, s.rn + 1, s.R ++ [s.nx, v.b], s.ln, s.L, tput s.wt v.p.toNat (takeT (s.wt v.p.toNat) v.i), tput s.wz v.p.toNat (takeS (s.wt v.p.toNat) (s.wz v.p.toNat) v.i)⟩ ⟨0, 0, 0, 0⟩ true
  | recEmpty (hk : v.k = 2) (h : s.rn = 0) : Step s v s ⟨10, 0, 0, 0⟩ false
  | recFull (hk : v.k = 2) (h : 0 < s.rn) (hg : s.gv = 1073741824) : Step s v s ⟨14, 0, 0, 0⟩ false
  | recv (hk : v.k = 2) (h : 0 < s.rn) (hg : s.gv < 1073741824) :
      Step s v ⟨s.ep, s.nx, s.gv + 1, s.rn - 1, s.R.drop 2, s.ln + 1, s.L ++ [s.ep, s.gv, s.R.getD 0 0, s.R.getD 1 0], s.wt, s.wz⟩ ⟨0, s.ep, s.gv, s.R.getD 1 0⟩ true
  | ackStale (hk : v.k = 3) (h : ¬ v.he = s.ep) : Step s v s ⟨11, 0, 0, 0⟩ false
  | ackNone (hk : v.k = 3) (h : v.he = s.ep) (ha : ackAt v.he v.hn s.L s.ln = -1) : Step s v s ⟨7, 0, 0, 0⟩ false
  | ack (hk : v.k = 3) (h : v.he = s.ep) (m : Nat) (hm : m < s.ln) (ha : ackAt v.he v.hn s.L s.ln = m) :
      Step s v ⟨s.ep, s.nx, s.gv, s.rn, s.R, s.ln - 1, s.L.take (4 * m) ++ s.L.drop (4 * m + 4), s.wt, s.wz⟩ ⟨0, 0, 0, 0⟩ true
  | endFull (hk : v.k = 4) (h : s.ep = 1048576) : Step s v s ⟨14, 0, 0, 0⟩ false
  | stop (hk : v.k = 4) (h : s.ep < 1048576) (R' : List Int) (ho : Ordered (s.R ++ msgsTo s.L s.ln) R' (s.rn + s.ln)) :
      Step s v ⟨s.ep + 1, s.nx, 0, s.rn + s.ln, R', 0, [], s.wt, s.wz⟩ ⟨0, 0, 0, 0⟩ true
def St.Ok (s : St) : Prop := QueueOk s.ep s.nx s.gv s.R s.rn s.L s.ln s.wt s.wz
def Ev.Ok (v : Ev) : Prop := eventFault v.k v.p v.i v.b v.he v.hn = 0
theorem Ev.cases {v : Ev} (h : v.Ok) : (v.k = 1 ∧ 0 ≤ v.p ∧ v.p ≤ 3 ∧ 0 ≤ v.i ∧ v.i ≤ 1073741824 ∧ 0 ≤ v.b ∧ v.b ≤ 1000000 ∧ v.he = 0 ∧ v.hn = 0) ∨ (v.k = 2 ∧ v.p = 0 ∧ v.i = 0 ∧ v.b = 0 ∧ v.he = 0 ∧ v.hn = 0) ∨
    (v.k = 3 ∧ 0 ≤ v.he ∧ v.he ≤ 1048576 ∧ 0 ≤ v.hn ∧ v.hn ≤ 1073741824 ∧ v.p = 0 ∧ v.i = 0 ∧ v.b = 0) ∨ (v.k = 4 ∧ v.p = 0 ∧ v.i = 0 ∧ v.b = 0 ∧ v.he = 0 ∧ v.hn = 0) := by
  unfold Ev.Ok eventFault at h
  split at h
  · rename_i hk
    split at h
    · omega
    · rename_i h1
      split at h
      · rename_i h2
        have h1 := Decidable.not_not.1 h1
        exact .inl ⟨hk, h1.1, h1.2.1, h1.2.2.1, h1.2.2.2.1, h1.2.2.2.2.1, h1.2.2.2.2.2, h2.1, h2.2⟩
      · omega
  · split at h
    · rename_i hk
      split at h
      · omega
      · rename_i h1
        split at h
        · rename_i h2
          have h1 := Decidable.not_not.1 h1
          exact .inr (.inr (.inl ⟨hk, h1.1, h1.2.1, h1.2.2.1, h1.2.2.2, h2.1, h2.2.1, h2.2.2⟩))
        · omega
    · split at h
      · rename_i h1
        obtain ⟨h1 | h1, h2⟩ := h1
        · exact .inr (.inl ⟨h1, h2⟩)
        · exact .inr (.inr (.inr ⟨h1, h2⟩))
      · omega
abbrev evIn (v : Ev) : Value := evVal v.k v.p v.i v.b v.he v.hn
abbrev anOf (a : An) : Value := ansVal a.c a.he a.no a.bd
/-- what a method leaves. -/
def Done (s : St) (v : Ev) (base B : Nat) (w : World) (x : Value) (w' : World) : Prop :=
  ∃ (s' : St) (an : An) (ch : Bool), x = .tuple #[anOf an, .bool ch] ∧ Step s v s' an ch ∧ DeskOut w' base B s'.ep s'.nx s'.gv s'.rn s'.R s'.ln s'.L s'.wt s'.wz ∧ Below base w w'

theorem method_any (base B : Nat) (s : St) (a1 : Option Addr) (c1 : Nat) (a2 : Option Addr) (c2 : Nat) (ws : Nat → Value) (v : Ev) (w : World) (D : Desk w base B s.ep s.nx s.gv a1 s.rn c1 a2 s.ln c2 s.R s.L ws) (hW : Wins ws s.wt s.wz) (hbase : base ≤ w.heap.size) (ok : s.Ok) (hv : v.Ok) :
    Calls Tryz.prog (methodOf v.k) #[.pointer (some ⟨B, 0, none⟩), evIn v] w fun e w' => ∃ x, e = .returned x ∧ Done s v base B w x w' := by
  have hc := ok.count
  have hsz : s.rn + s.ln ≤ 500 := hc.sz
  have out : ∀ w', Below w.heap.size w w' → DeskOut w' base B s.ep s.nx s.gv s.rn s.R s.ln s.L s.wt s.wz ∧ Below base w w' := fun w' hb => ⟨(D.next hb).out hW, hb.mono hbase⟩
  rcases Ev.cases hv with ⟨hk, h1, h2, h3, h4, h5, h6, h7, h8⟩ | ⟨hk, h1, h2, h3, h4, h5⟩ | ⟨hk, h1, h2, h3, h4, h5, h6, h7⟩ | ⟨hk, h1, h2, h3, h4, h5⟩
  · obtain ⟨P, hP⟩ : ∃ P : Nat, v.p = P := ⟨v.p.toNat, by omega⟩
    have hPt : v.p.toNat = P := by omega
    have hP4 : P < 4 := by omega
    have hw := ok.wins P hP4
    have hm : methodOf v.k = 96 := by rw [hk]; rfl
    rw [hm, show evIn v = evVal v.k (P : Int) v.i v.b v.he v.hn by rw [← hP]]
    by_cases g1 : v.i < s.wt P - 8
    · refine publish_any base B P s.ep s.nx s.gv a1 s.rn c1 a2 s.ln c2 s.R s.L ws s.wt s.wz v.k v.i v.b v.he v.hn w D hW hbase hP4 hsz hc.n0 hc.n1 (wf_in (by omega) (by omega)) 0 noneS false 9 (fun w => take_low _ _ _ w hw h3 h4 g1) (Done s v base B w) (veil fun _ w' hb => ?_) (veil fun h => by simp at h) (veil fun h => by simp at h)
      obtain ⟨d, bb⟩ := out w' hb
      exact ⟨s, ⟨9, 0, 0, 0⟩, false, rfl, .pubLow hk (by rw [hPt]; exact g1), d, bb⟩
    · cases g2 : inWin (s.wt P) (s.wz P) v.i with
      | true =>
        refine publish_any base B P s.ep s.nx s.gv a1 s.rn c1 a2 s.ln c2 s.R s.L ws s.wt s.wz v.k v.i v.b v.he v.hn w D hW hbase hP4 hsz hc.n0 hc.n1 (wf_in (by omega) (by omega)) (s.wt P) (s.wz P) false 0 (fun w => take_old _ _ _ w hw h3 h4 g2) (Done s v base B w) (veil fun _ w' hb => ?_) (veil fun h => by simp at h) (veil fun h => by simp at h)
        obtain ⟨d, bb⟩ := out w' hb
        exact ⟨s, ⟨0, 0, 0, 0⟩, false, rfl, .pubOld hk (by rw [hPt]; exact g2), d, bb⟩
      | false =>
        refine publish_any base B P s.ep s.nx s.gv a1 s.rn c1 a2 s.ln c2 s.R s.L ws s.wt s.wz v.k v.i v.b v.he v.hn w D hW hbase hP4 hsz hc.n0 hc.n1 (wf_in (by omega) (by omega)) (takeT (s.wt P) v.i) (takeS (s.wt P) (s.wz P) v.i) true 0 (fun w => take_new _ _ _ w hw h3 h4 (by omega) g2) (Done s v base B w) (veil fun h => by simp at h) (veil fun _ hf w' hb => ?_) (veil fun _ hr hx w' d bb => ?_)
        · obtain ⟨d, bb⟩ := out w' hb
          exact ⟨s, ⟨14, 0, 0, 0⟩, false, rfl, .pubFull hk (by rw [hPt]; omega) (by rw [hPt]; exact g2) hf, d, bb⟩
        · refine ⟨_, ⟨0, 0, 0, 0⟩, true, rfl, .pub hk (by rw [hPt]; omega) (by rw [hPt]; exact g2) hr hx, ?_, bb⟩
          rw [hPt]
          exact d
  · have hm : methodOf v.k = 97 := by rw [hk]; rfl
    rw [hm]
    by_cases g1 : s.rn = 0
    · refine (receive_no base B s.ep s.nx s.gv a1 s.rn c1 a2 s.ln c2 s.R s.L ws s.wt s.wz v.k v.p v.i v.b v.he v.hn w D hW hbase 10 (.inl ⟨g1, rfl⟩)).mono ?_
      rintro e w' ⟨rfl, d, bb⟩
      exact ⟨_, rfl, s, ⟨10, 0, 0, 0⟩, false, rfl, .recEmpty hk g1, d, bb⟩
    · by_cases g2 : s.gv = 1073741824
      · refine (receive_no base B s.ep s.nx s.gv a1 s.rn c1 a2 s.ln c2 s.R s.L ws s.wt s.wz v.k v.p v.i v.b v.he v.hn w D hW hbase 14 (.inr ⟨by omega, g2, rfl⟩)).mono ?_
        rintro e w' ⟨rfl, d, bb⟩
        exact ⟨_, rfl, s, ⟨14, 0, 0, 0⟩, false, rfl, .recFull hk (by omega) g2, d, bb⟩
      · obtain ⟨g, hg⟩ : ∃ g, a1 = some ⟨g, 0, none⟩ := by
          rcases D.o1.2 with ⟨_, h0⟩ | ⟨g, cap, cur, e, _⟩
          · omega
          · cases e; exact ⟨g, rfl⟩
        subst hg
        have := hc.g1
        refine (receive_yes base B g s.ep s.nx s.gv s.rn c1 a2 s.ln c2 s.R s.L ws s.wt s.wz v.k v.p v.i v.b v.he v.hn w D hW hbase (by omega) hsz hc.g0 (by omega) (wf_in hc.e0 (by have := hc.e1; omega))).mono ?_
        rintro e w' ⟨rfl, d, bb⟩
        exact ⟨_, rfl, _, ⟨0, s.ep, s.gv, s.R.getD 1 0⟩, true, rfl, .recv hk (by omega) (by omega), d, bb⟩
  · have hm : methodOf v.k = 98 := by rw [hk]; rfl
    rw [hm]
    refine ack_any base B s.ep s.nx s.gv a1 s.rn c1 a2 s.ln c2 s.R s.L ws s.wt s.wz v.k v.p v.i v.b v.he v.hn w D hW hbase hsz (Done s v base B w) (veil fun h w' hb => ?_) (veil fun h ha w' hb => ?_) (veil fun h m hm ha w' d bb => ?_)
    · obtain ⟨d, bb⟩ := out w' hb
      exact ⟨s, ⟨11, 0, 0, 0⟩, false, rfl, .ackStale hk h, d, bb⟩
    · obtain ⟨d, bb⟩ := out w' hb
      exact ⟨s, ⟨7, 0, 0, 0⟩, false, rfl, .ackNone hk h ha, d, bb⟩
    · exact ⟨_, ⟨0, 0, 0, 0⟩, true, rfl, .ack hk h m hm ha, d, bb⟩
  · have hm : methodOf v.k = 99 := by rw [hk]; rfl
    rw [hm]
    refine end_any base B s.ep s.nx s.gv a1 s.rn c1 a2 s.ln c2 s.R s.L ws s.wt s.wz v.k v.p v.i v.b v.he v.hn w D hW hbase hsz hc.e0 hc.e1 (Done s v base B w) (veil fun h w' hb => ?_) (veil fun h R' w' ho d bb => ?_)
    · obtain ⟨d, bb⟩ := out w' hb
      exact ⟨s, ⟨14, 0, 0, 0⟩, false, rfl, .endFull hk h, d, bb⟩
    · exact ⟨_, ⟨0, 0, 0, 0⟩, true, rfl, .stop hk h R' ho, d, bb⟩
end Go.Proofs.YtcdopnkabbfooaaGreat
