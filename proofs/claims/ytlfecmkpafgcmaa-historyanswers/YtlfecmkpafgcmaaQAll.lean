/- Texts put together: QvA, QvD, QkA, QvB, QvC, HsA, QkB, WdL, QkC, QkG, QkD, QvE. -/
import Derived.Test.YtlfecmkpafgcmaaQuU
import Derived.Test.YtlfecmkpafgcmaaQuMore
import Derived.Test.YtlfecmkpafgcmaaQuF
import Derived.Test.YtlfecmkpafgcmaaPkC
import Derived.Test.YtlfecmkpafgcmaaKpP
import Derived.Deep.RegionHeld3
import Derived.Test.YtlfecmkpafgcmaaQuH
import Derived.Deep.QuietTactic
import Derived.Test.YtlfecmkpafgcmaaWdE
namespace Go.Proofs.Ytlfecmkpafgcmaa
open Go.RowKit

/-- a queue's numbers. -/
structure St where
  ep : Int
  nx : Int
  gv : Int
  rn : Nat
  R : List Int
  ln : Nat
  L : List Int
  wt : Nat → Int
  wz : Nat → Nat → Bool
/-- an event's numbers. -/
structure Ev where
  k : Int
  p : Int
  i : Int
  b : Int
  he : Int
  hn : Int
/-- an answer's numbers. -/
structure An where
  c : Int
  he : Int
  no : Int
  bd : Int
/-- an event done to a queue: the queue behind it, the answer, whether anything changed. -/
inductive Step (s : St) (v : Ev) : St → An → Bool → Prop
  | pubLow (hk : v.k = 1) (h : v.i < s.wt v.p.toNat - 8) : Step s v s ⟨9, 0, 0, 0⟩ false
  | pubOld (hk : v.k = 1) (h : inWin (s.wt v.p.toNat) (s.wz v.p.toNat) v.i = true) : Step s v s ⟨0, 0, 0, 0⟩ false
  | pubFull (hk : v.k = 1) (h : s.wt v.p.toNat - 8 ≤ v.i) (hn : inWin (s.wt v.p.toNat) (s.wz v.p.toNat) v.i = false) (hf : 500 ≤ s.rn + s.ln ∨ s.nx = 1073741824) : Step s v s ⟨14, 0, 0, 0⟩ false
  | pub (hk : v.k = 1) (h : s.wt v.p.toNat - 8 ≤ v.i) (hn : inWin (s.wt v.p.toNat) (s.wz v.p.toNat) v.i = false) (hr : s.rn + s.ln < 500) (hx : s.nx < 1073741824) :
      Step s v ⟨s.ep, s.nx + 1, s.gv, s.rn + 1, s.R ++ [s.nx, v.b], s.ln, s.L, tput s.wt v.p.toNat (takeT (s.wt v.p.toNat) v.i), tput s.wz v.p.toNat (takeS (s.wt v.p.toNat) (s.wz v.p.toNat) v.i)⟩ ⟨0, 0, 0, 0⟩ true
  | recEmpty (hk : v.k = 2) (h : s.rn = 0) : Step s v s ⟨10, 0, 0, 0⟩ false
  | recFull (hk : v.k = 2) (h : 0 < s.rn) (hg : s.gv = 1073741824) : Step s v s ⟨14, 0, 0, 0⟩ false
  | recv (hk : v.k = 2) (h : 0 < s.rn) (hg : s.gv < 1073741824) :
      Step s v ⟨s.ep, s.nx, s.gv + 1, s.rn - 1, s.R.drop 2, s.ln + 1, s.L ++ [s.ep, s.gv, s.R.getD 0 0, s.R.getD 1 0], s.wt, s.wz⟩ ⟨0, s.ep, s.gv, s.R.getD 1 0⟩ true
  | ackStale (hk : v.k = 3) (h : ¬ v.he = s.ep) : Step s v s ⟨11, 0, 0, 0⟩ false
  | ackNone (hk : v.k = 3) (h : v.he = s.ep) (ha : ackAt v.he v.hn s.L s.ln = -1) : Step s v s ⟨7, 0, 0, 0⟩ false
  | ack (hk : v.k = 3) (h : v.he = s.ep) (m : Nat) (hm : m < s.ln) (ha : ackAt v.he v.hn s.L s.ln = m) :
      Step s v ⟨s.ep, s.nx, s.gv, s.rn, s.R, s.ln - 1, s.L.take (4 * m) ++ s.L.drop (4 * m + 4), s.wt, s.wz⟩ ⟨0, 0, 0, 0⟩ true
  | endFull (hk : v.k = 4) (h : s.ep = 1048576) : Step s v s ⟨14, 0, 0, 0⟩ false
  | stop (hk : v.k = 4) (h : s.ep < 1048576) (R' : List Int) (ho : Ordered (s.R ++ msgsTo s.L s.ln) R' (s.rn + s.ln)) :
      Step s v ⟨s.ep + 1, s.nx, 0, s.rn + s.ln, R', 0, [], s.wt, s.wz⟩ ⟨0, 0, 0, 0⟩ true
def St.Ok (s : St) : Prop := QueueOk s.ep s.nx s.gv s.R s.rn s.L s.ln s.wt s.wz
def Ev.Ok (v : Ev) : Prop := eventFault v.k v.p v.i v.b v.he v.hn = 0
theorem Ev.cases {v : Ev} (h : v.Ok) : (v.k = 1 ∧ 0 ≤ v.p ∧ v.p ≤ 3 ∧ 0 ≤ v.i ∧ v.i ≤ 1073741824 ∧ 0 ≤ v.b ∧ v.b ≤ 1000000 ∧ v.he = 0 ∧ v.hn = 0) ∨ (v.k = 2 ∧ v.p = 0 ∧ v.i = 0 ∧ v.b = 0 ∧ v.he = 0 ∧ v.hn = 0) ∨
    (v.k = 3 ∧ 0 ≤ v.he ∧ v.he ≤ 1048576 ∧ 0 ≤ v.hn ∧ v.hn ≤ 1073741824 ∧ v.p = 0 ∧ v.i = 0 ∧ v.b = 0) ∨ (v.k = 4 ∧ v.p = 0 ∧ v.i = 0 ∧ v.b = 0 ∧ v.he = 0 ∧ v.hn = 0) := by
  unfold Ev.Ok eventFault at h
  split at h
  · rename_i hk
    split at h
    · omega
    · rename_i h1
      split at h
      · rename_i h2
        have h1 := Decidable.not_not.1 h1
        exact .inl ⟨hk, h1.1, h1.2.1, h1.2.2.1, h1.2.2.2.1, h1.2.2.2.2.1, h1.2.2.2.2.2, h2.1, h2.2⟩
      · omega
  · split at h
    · rename_i hk
      split at h
      · omega
      · rename_i h1
        split at h
        · rename_i h2
          have h1 := Decidable.not_not.1 h1
          exact .inr (.inr (.inl ⟨hk, h1.1, h1.2.1, h1.2.2.1, h1.2.2.2, h2.1, h2.2.1, h2.2.2⟩))
        · omega
    · split at h
      · rename_i h1
        obtain ⟨h1 | h1, h2⟩ := h1
        · exact .inr (.inl ⟨h1, h2⟩)
        · exact .inr (.inr (.inr ⟨h1, h2⟩))
      · omega
abbrev evIn (v : Ev) : Value := evVal v.k v.p v.i v.b v.he v.hn
abbrev anOf (a : An) : Value := ansVal a.c a.he a.no a.bd
/-- what a method leaves. -/
def Done (s : St) (v : Ev) (base B : Nat) (w : World) (x : Value) (w' : World) : Prop :=
  ∃ (s' : St) (an : An) (ch : Bool), x = .tuple #[anOf an, .bool ch] ∧ Step s v s' an ch ∧ DeskOut w' base B s'.ep s'.nx s'.gv s'.rn s'.R s'.ln s'.L s'.wt s'.wz ∧ Below base w w'

theorem method_any (base B : Nat) (s : St) (a1 : Option Addr) (c1 : Nat) (a2 : Option Addr) (c2 : Nat) (ws : Nat → Value) (v : Ev) (w : World) (D : Desk w base B s.ep s.nx s.gv a1 s.rn c1 a2 s.ln c2 s.R s.L ws) (hW : Wins ws s.wt s.wz) (hbase : base ≤ w.heap.size) (ok : s.Ok) (hv : v.Ok) :
    Calls Try.prog (methodOf v.k) #[.pointer (some ⟨B, 0, none⟩), evIn v] w fun e w' => ∃ x, e = .returned x ∧ Done s v base B w x w' := by
  have hc := ok.count
  have hsz : s.rn + s.ln ≤ 500 := hc.sz
  have out : ∀ w', Below w.heap.size w w' → DeskOut w' base B s.ep s.nx s.gv s.rn s.R s.ln s.L s.wt s.wz ∧ Below base w w' := fun w' hb => ⟨(D.next hb).out hW, hb.mono hbase⟩
  rcases Ev.cases hv with ⟨hk, h1, h2, h3, h4, h5, h6, h7, h8⟩ | ⟨hk, h1, h2, h3, h4, h5⟩ | ⟨hk, h1, h2, h3, h4, h5, h6, h7⟩ | ⟨hk, h1, h2, h3, h4, h5⟩
  · obtain ⟨P, hP⟩ : ∃ P : Nat, v.p = P := ⟨v.p.toNat, by omega⟩
    have hPt : v.p.toNat = P := by omega
    have hP4 : P < 4 := by omega
    have hw := ok.wins P hP4
    have hm : methodOf v.k = 58 := by rw [hk]; rfl
    rw [hm, show evIn v = evVal v.k (P : Int) v.i v.b v.he v.hn by rw [← hP]]
    by_cases g1 : v.i < s.wt P - 8
    · refine publish_any base B P s.ep s.nx s.gv a1 s.rn c1 a2 s.ln c2 s.R s.L ws s.wt s.wz v.k v.i v.b v.he v.hn w D hW hbase hP4 hsz hc.n0 hc.n1 (wf_in (by omega) (by omega)) 0 noneS false 9 (fun w => take_low _ _ _ w hw h3 h4 g1) (Done s v base B w) (veil fun _ w' hb => ?_) (veil fun h => by simp at h) (veil fun h => by simp at h)
      obtain ⟨d, bb⟩ := out w' hb
      exact ⟨s, ⟨9, 0, 0, 0⟩, false, rfl, .pubLow hk (by rw [hPt]; exact g1), d, bb⟩
    · cases g2 : inWin (s.wt P) (s.wz P) v.i with
      | true =>
        refine publish_any base B P s.ep s.nx s.gv a1 s.rn c1 a2 s.ln c2 s.R s.L ws s.wt s.wz v.k v.i v.b v.he v.hn w D hW hbase hP4 hsz hc.n0 hc.n1 (wf_in (by omega) (by omega)) (s.wt P) (s.wz P) false 0 (fun w => take_old _ _ _ w hw h3 h4 g2) (Done s v base B w) (veil fun _ w' hb => ?_) (veil fun h => by simp at h) (veil fun h => by simp at h)
        obtain ⟨d, bb⟩ := out w' hb
        exact ⟨s, ⟨0, 0, 0, 0⟩, false, rfl, .pubOld hk (by rw [hPt]; exact g2), d, bb⟩
      | false =>
        refine publish_any base B P s.ep s.nx s.gv a1 s.rn c1 a2 s.ln c2 s.R s.L ws s.wt s.wz v.k v.i v.b v.he v.hn w D hW hbase hP4 hsz hc.n0 hc.n1 (wf_in (by omega) (by omega)) (takeT (s.wt P) v.i) (takeS (s.wt P) (s.wz P) v.i) true 0 (fun w => take_new _ _ _ w hw h3 h4 (by omega) g2) (Done s v base B w) (veil fun h => by simp at h) (veil fun _ hf w' hb => ?_) (veil fun _ hr hx w' d bb => ?_)
        · obtain ⟨d, bb⟩ := out w' hb
          exact ⟨s, ⟨14, 0, 0, 0⟩, false, rfl, .pubFull hk (by rw [hPt]; omega) (by rw [hPt]; exact g2) hf, d, bb⟩
        · refine ⟨_, ⟨0, 0, 0, 0⟩, true, rfl, .pub hk (by rw [hPt]; omega) (by rw [hPt]; exact g2) hr hx, ?_, bb⟩
          rw [hPt]
          exact d
  · have hm : methodOf v.k = 59 := by rw [hk]; rfl
    rw [hm]
    by_cases g1 : s.rn = 0
    · refine (receive_no base B s.ep s.nx s.gv a1 s.rn c1 a2 s.ln c2 s.R s.L ws s.wt s.wz v.k v.p v.i v.b v.he v.hn w D hW hbase 10 (.inl ⟨g1, rfl⟩)).mono ?_
      rintro e w' ⟨rfl, d, bb⟩
      exact ⟨_, rfl, s, ⟨10, 0, 0, 0⟩, false, rfl, .recEmpty hk g1, d, bb⟩
    · by_cases g2 : s.gv = 1073741824
      · refine (receive_no base B s.ep s.nx s.gv a1 s.rn c1 a2 s.ln c2 s.R s.L ws s.wt s.wz v.k v.p v.i v.b v.he v.hn w D hW hbase 14 (.inr ⟨by omega, g2, rfl⟩)).mono ?_
        rintro e w' ⟨rfl, d, bb⟩
        exact ⟨_, rfl, s, ⟨14, 0, 0, 0⟩, false, rfl, .recFull hk (by omega) g2, d, bb⟩
      · obtain ⟨g, hg⟩ : ∃ g, a1 = some ⟨g, 0, none⟩ := by
          rcases D.o1.2 with ⟨_, h0⟩ | ⟨g, cap, cur, e, _⟩
          · omega
          · cases e; exact ⟨g, rfl⟩
        subst hg
        have := hc.g1
        refine (receive_yes base B g s.ep s.nx s.gv s.rn c1 a2 s.ln c2 s.R s.L ws s.wt s.wz v.k v.p v.i v.b v.he v.hn w D hW hbase (by omega) hsz hc.g0 (by omega) (wf_in hc.e0 (by have := hc.e1; omega))).mono ?_
        rintro e w' ⟨rfl, d, bb⟩
        exact ⟨_, rfl, _, ⟨0, s.ep, s.gv, s.R.getD 1 0⟩, true, rfl, .recv hk (by omega) (by omega), d, bb⟩
  · have hm : methodOf v.k = 60 := by rw [hk]; rfl
    rw [hm]
    refine ack_any base B s.ep s.nx s.gv a1 s.rn c1 a2 s.ln c2 s.R s.L ws s.wt s.wz v.k v.p v.i v.b v.he v.hn w D hW hbase hsz (Done s v base B w) (veil fun h w' hb => ?_) (veil fun h ha w' hb => ?_) (veil fun h m hm ha w' d bb => ?_)
    · obtain ⟨d, bb⟩ := out w' hb
      exact ⟨s, ⟨11, 0, 0, 0⟩, false, rfl, .ackStale hk h, d, bb⟩
    · obtain ⟨d, bb⟩ := out w' hb
      exact ⟨s, ⟨7, 0, 0, 0⟩, false, rfl, .ackNone hk h ha, d, bb⟩
    · exact ⟨_, ⟨0, 0, 0, 0⟩, true, rfl, .ack hk h m hm ha, d, bb⟩
  · have hm : methodOf v.k = 61 := by rw [hk]; rfl
    rw [hm]
    refine end_any base B s.ep s.nx s.gv a1 s.rn c1 a2 s.ln c2 s.R s.L ws s.wt s.wz v.k v.p v.i v.b v.he v.hn w D hW hbase hsz hc.e0 hc.e1 (Done s v base B w) (veil fun h w' hb => ?_) (veil fun h R' w' ho d bb => ?_)
    · obtain ⟨d, bb⟩ := out w' hb
      exact ⟨s, ⟨14, 0, 0, 0⟩, false, rfl, .endFull hk h, d, bb⟩
    · exact ⟨_, ⟨0, 0, 0, 0⟩, true, rfl, .stop hk h R' ho, d, bb⟩
end Go.Proofs.Ytlfecmkpafgcmaa

namespace Go.Proofs.Ytlfecmkpafgcmaa

/-- a queue that may be, with lists of its lengths. -/
structure St.Wf (s : St) : Prop where
  ok : s.Ok
  lr : s.R.length = 2 * s.rn
  ll : s.L.length = 4 * s.ln
theorem getD_left (A B : List Int) (j : Nat) (h : j < A.length) : (A ++ B).getD j 0 = A.getD j 0 := by
  simp [List.getElem?_append_left h]
theorem getD_right (A B : List Int) (j n : Nat) (h : A.length = n) : (A ++ B).getD (n + j) 0 = B.getD j 0 := by
  subst h
  simp [List.getElem?_append_right]
theorem getD_drop (A : List Int) (k j : Nat) : (A.drop k).getD j 0 = A.getD (k + j) 0 := by simp
theorem dupB_false {l : List Int} : dupB l = false ↔ l.Nodup := by simp [dupB]
theorem ready_bounds {s : St} (h : s.Ok) {i : Nat} (hi : i < s.rn) : 0 ≤ s.R.getD (2 * i) 0 ∧ s.R.getD (2 * i) 0 ≤ s.nx - 1 ∧ 0 ≤ s.R.getD (2 * i + 1) 0 ∧ s.R.getD (2 * i + 1) 0 ≤ 1000000 := by
  have := (h.hold.ready i hi).come
  rw [Bool.and_eq_true, inR_iff, inR_iff] at this
  exact ⟨this.1.1, this.1.2, this.2.1, this.2.2⟩
theorem come_bounds {s : St} (h : s.Ok) {i : Nat} (hi : i < s.ln) : 0 ≤ s.L.getD (4 * i + 2) 0 ∧ s.L.getD (4 * i + 2) 0 ≤ s.nx - 1 ∧ 0 ≤ s.L.getD (4 * i + 3) 0 ∧ s.L.getD (4 * i + 3) 0 ≤ 1000000 := by
  have := h.hold.come i hi
  unfold ComeOk at this
  rw [Bool.and_eq_true, inR_iff, inR_iff] at this
  exact ⟨this.1.1, this.1.2, this.2.1, this.2.2⟩
theorem lease_bounds {s : St} (h : s.Ok) {i : Nat} (hi : i < s.ln) : s.L.getD (4 * i) 0 = s.ep ∧ 0 ≤ s.L.getD (4 * i + 1) 0 ∧ s.L.getD (4 * i + 1) 0 ≤ s.gv - 1 := by
  have := h.lease i hi
  have h2 := inR_iff.1 this.no
  exact ⟨this.epoch, h2.1, h2.2⟩
theorem ready_rise {s : St} (h : s.Ok) {i : Nat} (hi : i + 1 < s.rn) : s.R.getD (2 * i) 0 < s.R.getD (2 * (i + 1)) 0 := by
  have := (h.hold.ready (i + 1) hi).rise
  unfold lastR at this
  rw [if_neg (by omega), show 2 * (i + 1 - 1) = 2 * i by omega] at this
  exact this
theorem lease_rise {s : St} (h : s.Ok) {i : Nat} (hi : i + 1 < s.ln) : s.L.getD (4 * i + 1) 0 < s.L.getD (4 * (i + 1) + 1) 0 := by
  have := (h.lease (i + 1) hi).rise
  unfold lastOf at this
  rw [if_neg (by omega), show 4 * (i + 1 - 1) + 1 = 4 * i + 1 by omega] at this
  exact this
/-- ready messages, put together. -/
theorem ready_mk {nx : Int} {R : List Int} {n : Nat} (h1 : ∀ i, i < n → 0 ≤ R.getD (2 * i) 0 ∧ R.getD (2 * i) 0 ≤ nx - 1 ∧ 0 ≤ R.getD (2 * i + 1) 0 ∧ R.getD (2 * i + 1) 0 ≤ 1000000) (h2 : ∀ i, i + 1 < n → R.getD (2 * i) 0 < R.getD (2 * (i + 1)) 0) : ∀ i, i < n → ReadyOk nx R i := by
  intro i hi
  obtain ⟨a, b, c, d⟩ := h1 i hi
  refine ⟨by rw [Bool.and_eq_true, inR_iff, inR_iff]; exact ⟨⟨a, b⟩, c, d⟩, ?_⟩
  unfold lastR
  split
  · omega
  · have := h2 (i - 1) (by omega)
    rw [show 2 * (i - 1 + 1) = 2 * i by omega] at this
    exact this
theorem lease_mk {ep gv : Int} {L : List Int} {n : Nat} (h1 : ∀ i, i < n → L.getD (4 * i) 0 = ep ∧ 0 ≤ L.getD (4 * i + 1) 0 ∧ L.getD (4 * i + 1) 0 ≤ gv - 1) (h2 : ∀ i, i + 1 < n → L.getD (4 * i + 1) 0 < L.getD (4 * (i + 1) + 1) 0) : ∀ i, i < n → LeaseOk ep gv L i := by
  intro i hi
  obtain ⟨a, b, c⟩ := h1 i hi
  refine ⟨a, inR_iff.2 ⟨b, c⟩, ?_⟩
  unfold lastOf
  split
  · omega
  · have := h2 (i - 1) (by omega)
    rw [show 4 * (i - 1 + 1) + 1 = 4 * i + 1 by omega] at this
    exact this
theorem come_mk {nx : Int} {L : List Int} {n : Nat} (h1 : ∀ i, i < n → 0 ≤ L.getD (4 * i + 2) 0 ∧ L.getD (4 * i + 2) 0 ≤ nx - 1 ∧ 0 ≤ L.getD (4 * i + 3) 0 ∧ L.getD (4 * i + 3) 0 ≤ 1000000) : ∀ i, i < n → ComeOk nx L i := by
  intro i hi
  obtain ⟨a, b, c, d⟩ := h1 i hi
  unfold ComeOk
  rw [Bool.and_eq_true, inR_iff, inR_iff]
  exact ⟨⟨a, b⟩, c, d⟩
theorem readyNos_congr {R R' : List Int} {n : Nat} (h : ∀ i, i < n → R.getD (2 * i) 0 = R'.getD (2 * i) 0) : readyNos R n = readyNos R' n :=
  List.map_congr_left fun i hi => h i (List.mem_range.1 hi)
theorem leaseNos_congr {L L' : List Int} {n : Nat} (h : ∀ i, i < n → L.getD (4 * i + 2) 0 = L'.getD (4 * i + 2) 0) : leaseNos L n = leaseNos L' n :=
  List.map_congr_left fun i hi => h i (List.mem_range.1 hi)
theorem nos_less {s : St} (h : s.Ok) : ∀ x ∈ nosOf s.L s.ln s.R s.rn, x < s.nx := by
  intro x hx
  rcases List.mem_append.1 hx with hx | hx
  · obtain ⟨i, hi, rfl⟩ := List.mem_map.1 hx
    have := come_bounds h (List.mem_range.1 hi)
    omega
  · obtain ⟨i, hi, rfl⟩ := List.mem_map.1 hx
    have := ready_bounds h (List.mem_range.1 hi)
    omega
theorem readyNos_drop (R : List Int) (n : Nat) (h : 0 < n) : readyNos R n = R.getD 0 0 :: readyNos (R.drop 2) (n - 1) := by
  obtain ⟨m, rfl⟩ : ∃ m, n = m + 1 := ⟨n - 1, by omega⟩
  simp only [readyNos, List.range_succ_eq_map, List.map_cons, List.map_map, Nat.add_sub_cancel, Nat.mul_zero]
  congr 1
  apply List.map_congr_left
  intro i _
  simp only [Function.comp, getD_drop]
  rw [show 2 * Nat.succ i = 2 + 2 * i by omega]
theorem cut_get (L : List Int) (m ln i j : Nat) (hl : L.length = 4 * ln) (hm : m < ln) (hj : j < 4) : (L.take (4 * m) ++ L.drop (4 * m + 4)).getD (4 * i + j) 0 = if i < m then L.getD (4 * i + j) 0 else L.getD (4 * (i + 1) + j) 0 := by
  rw [cut_at]
  by_cases h : i < m
  · rw [if_pos ⟨by omega, by omega⟩, if_pos h]
  · rw [if_neg (by omega), if_pos (by omega), if_neg h, show 4 * i + j + 4 = 4 * (i + 1) + j by omega]
theorem leaseNos_cut (L : List Int) (m ln : Nat) (hl : L.length = 4 * ln) (hm : m < ln) : leaseNos (L.take (4 * m) ++ L.drop (4 * m + 4)) (ln - 1) = (leaseNos L ln).eraseIdx m := by
  apply List.ext_getElem
  · simp [leaseNos, List.length_eraseIdx, hm]
  · intro i h1 h2
    have hi : i < ln - 1 := by simpa [leaseNos] using h1
    rw [List.getElem_eraseIdx]
    simp only [leaseNos, List.getElem_map, List.getElem_range]
    rw [cut_get L m ln i 2 hl hm (by omega)]
    split <;> rfl
theorem msgsTo_len (L : List Int) : ∀ k, (msgsTo L k).length = 2 * k
  | 0 => rfl
  | k + 1 => by simp [msgsTo, msgsTo_len L k]; omega
theorem msgsTo_at (L : List Int) : ∀ k i, i < k → (msgsTo L k).getD (2 * i) 0 = L.getD (4 * i + 2) 0 ∧ (msgsTo L k).getD (2 * i + 1) 0 = L.getD (4 * i + 3) 0
  | 0, _, h => absurd h (Nat.not_lt_zero _)
  | k + 1, i, h => by
    have hl := msgsTo_len L k
    unfold msgsTo
    rcases Nat.lt_or_ge i k with h' | h'
    · rw [getD_left _ _ _ (by omega), getD_left _ _ _ (by omega)]
      exact msgsTo_at L k i h'
    · obtain rfl : i = k := by omega
      rw [show 2 * i = 2 * i + 0 from rfl, getD_right _ _ 0 _ hl, Nat.add_zero, getD_right _ _ 1 _ hl]
      exact ⟨rfl, rfl⟩
/-- the pairs of the ready messages and of the leased ones. -/
theorem all_at {s : St} (h : s.Wf) (i : Nat) (hi : i < s.rn + s.ln) : (i < s.rn ∧ pairAt (s.R ++ msgsTo s.L s.ln) i = pairAt s.R i) ∨ ∃ j, j < s.ln ∧ i = s.rn + j ∧ pairAt (s.R ++ msgsTo s.L s.ln) i = (s.L.getD (4 * j + 2) 0, s.L.getD (4 * j + 3) 0) := by
  have hr := h.lr
  rcases Nat.lt_or_ge i s.rn with h1 | h1
  · left
    refine ⟨h1, ?_⟩
    unfold pairAt
    rw [getD_left _ _ _ (by omega), getD_left _ _ _ (by omega)]
  · right
    refine ⟨i - s.rn, by omega, by omega, ?_⟩
    have hm := msgsTo_at s.L s.ln (i - s.rn) (by omega)
    unfold pairAt
    have e1 : 2 * i = 2 * s.rn + 2 * (i - s.rn) := by omega
    have e2 : 2 * i + 1 = 2 * s.rn + (2 * (i - s.rn) + 1) := by omega
    rw [e2, e1, getD_right _ _ _ _ hr, getD_right _ _ _ _ hr, hm.1, hm.2]
theorem ordered_nos {s : St} {R' : List Int} (h : s.Wf) (ho : Ordered (s.R ++ msgsTo s.L s.ln) R' (s.rn + s.ln)) : (readyNos R' (s.rn + s.ln)).Perm (nosOf s.L s.ln s.R s.rn) := by
  have e : ∀ (R : List Int) n, readyNos R n = (pairsOf R n).map Prod.fst := fun R n => by simp [readyNos, pairsOf, pairAt]
  have hp := ho.perm.map Prod.fst
  rw [← e, ← e] at hp
  refine hp.trans ?_
  have : readyNos (s.R ++ msgsTo s.L s.ln) (s.rn + s.ln) = readyNos s.R s.rn ++ leaseNos s.L s.ln := by
    apply List.ext_getElem
    · simp [readyNos, leaseNos]
    · intro i h1 h2
      have hi : i < s.rn + s.ln := by simpa [readyNos] using h1
      rw [List.getElem_append]
      simp only [readyNos, leaseNos, List.getElem_map, List.getElem_range, List.length_map, List.length_range]
      rcases all_at h i hi with ⟨h3, h4⟩ | ⟨j, h3, h4, h5⟩
      · rw [dif_pos h3]
        exact congrArg Prod.fst h4
      · rw [dif_neg (by omega)]
        have := congrArg Prod.fst h5
        simp only [pairAt] at this
        rw [this, show i - s.rn = j by omega]
  rw [this]
  exact List.perm_append_comm
theorem ordered_come {s : St} {R' : List Int} (h : s.Wf) (ho : Ordered (s.R ++ msgsTo s.L s.ln) R' (s.rn + s.ln)) : ∀ i, i < s.rn + s.ln → 0 ≤ R'.getD (2 * i) 0 ∧ R'.getD (2 * i) 0 ≤ s.nx - 1 ∧ 0 ≤ R'.getD (2 * i + 1) 0 ∧ R'.getD (2 * i + 1) 0 ≤ 1000000 := by
  intro i hi
  have hm : pairAt R' i ∈ pairsOf R' (s.rn + s.ln) := List.mem_map.2 ⟨i, List.mem_range.2 hi, rfl⟩
  obtain ⟨j, hj, he⟩ := List.mem_map.1 (ho.perm.mem_iff.1 hm)
  have hj := List.mem_range.1 hj
  have e1 := congrArg Prod.fst he
  have e2 := congrArg Prod.snd he
  rcases all_at h j hj with ⟨h3, h4⟩ | ⟨k, h3, h4, h5⟩
  · rw [h4] at e1 e2
    simp only [pairAt] at e1 e2
    rw [← e1, ← e2]
    exact ready_bounds h.ok h3
  · rw [h5] at e1 e2
    simp only [pairAt] at e1 e2
    rw [← e1, ← e2]
    exact come_bounds h.ok h3
theorem ordered_rise {s : St} {R' : List Int} (h : s.Wf) (ho : Ordered (s.R ++ msgsTo s.L s.ln) R' (s.rn + s.ln)) : ∀ i, i + 1 < s.rn + s.ln → R'.getD (2 * i) 0 < R'.getD (2 * (i + 1)) 0 := by
  intro i hi
  have h1 := ho.rise i (i + 1) (by omega) hi
  have hn : (readyNos R' (s.rn + s.ln)).Nodup := (ordered_nos h ho).nodup_iff.2 (dupB_false.1 h.ok.hold.apart)
  have h2 := List.pairwise_iff_getElem.1 hn i (i + 1) (by simp [readyNos]; omega) (by simp [readyNos]; omega) (by omega)
  simp only [readyNos, List.getElem_map, List.getElem_range] at h2
  omega

theorem Step.wf {s s' : St} {v : Ev} {an : An} {ch : Bool} (h : s.Wf) (hv : v.Ok) (st : Step s v s' an ch) : s'.Wf := by
  have ok := h.ok
  have hc := ok.count
  have hlr := h.lr
  have hll := h.ll
  cases st with
  | pubLow | pubOld | pubFull | recEmpty | recFull | ackStale | ackNone | endFull => exact h
  | pub hk h1 h2 hr hx =>
    have hb : 0 ≤ v.b ∧ v.b ≤ 1000000 ∧ 0 ≤ v.i ∧ v.i ≤ 1073741824 := by
      rcases Ev.cases hv with h | h | h | h <;> omega
    refine ⟨⟨⟨hc.e0, hc.e1, by have := hc.n0; show 0 ≤ s.nx + 1; omega, by show s.nx + 1 ≤ _; omega, hc.g0, hc.g1, by show s.rn + 1 + s.ln ≤ 500; omega⟩, ?_, ⟨?_, ?_, ?_⟩, ok.lease⟩, ?_, hll⟩
    · intro p hp
      show WinOk (tput s.wt v.p.toNat _ p) (tput s.wz v.p.toNat _ p)
      unfold tput
      by_cases e : p = v.p.toNat
      · rw [if_pos e, if_pos e, ← e]
        exact (ok.wins p hp).take (by omega) (by omega)
      · rw [if_neg e, if_neg e]
        exact ok.wins p hp
    · refine ready_mk (fun i hi => ?_) (fun i hi => ?_)
      · have hi : i < s.rn + 1 := hi
        show 0 ≤ (s.R ++ [s.nx, v.b]).getD (2 * i) 0 ∧ (s.R ++ [s.nx, v.b]).getD (2 * i) 0 ≤ s.nx + 1 - 1 ∧ 0 ≤ (s.R ++ [s.nx, v.b]).getD (2 * i + 1) 0 ∧ (s.R ++ [s.nx, v.b]).getD (2 * i + 1) 0 ≤ 1000000
        rcases Nat.lt_or_ge i s.rn with h' | h'
        · rw [getD_left _ _ _ (by omega), getD_left _ _ _ (by omega)]
          have := ready_bounds ok h'
          omega
        · obtain rfl : i = s.rn := by omega
          rw [getD_right _ _ 1 _ hlr, show 2 * s.rn = 2 * s.rn + 0 from rfl, getD_right _ _ 0 _ hlr]
          have := hc.n0
          simp
          omega
      · have hi : i + 1 < s.rn + 1 := hi
        show (s.R ++ [s.nx, v.b]).getD (2 * i) 0 < (s.R ++ [s.nx, v.b]).getD (2 * (i + 1)) 0
        rw [getD_left _ _ _ (by omega)]
        rcases Nat.lt_or_ge (i + 1) s.rn with h' | h'
        · rw [getD_left _ _ _ (by omega)]
          exact ready_rise ok h'
        · rw [show 2 * (i + 1) = 2 * s.rn + 0 by omega, getD_right _ _ 0 _ hlr]
          have := ready_bounds ok (show i < s.rn by omega)
          simp at this ⊢
          omega
    · refine come_mk (fun i hi => ?_)
      have := come_bounds ok hi
      exact ⟨this.1, by have := this.2.1; show s.L.getD (4 * i + 2) 0 ≤ s.nx + 1 - 1; omega, this.2.2⟩
    · show dupB (nosOf s.L s.ln (s.R ++ [s.nx, v.b]) (s.rn + 1)) = false
      rw [dupB_false, nosOf_succ, show 2 * s.rn = 2 * s.rn + 0 from rfl, getD_right _ _ 0 _ hlr]
      have e : nosOf s.L s.ln (s.R ++ [s.nx, v.b]) s.rn = nosOf s.L s.ln s.R s.rn := by
        unfold nosOf
        rw [readyNos_congr (fun i hi => getD_left _ _ _ (by omega))]
      rw [e, List.nodup_append]
      refine ⟨dupB_false.1 ok.hold.apart, by simp, fun a ha b hb => ?_⟩
      have := nos_less ok a ha
      simp at hb
      omega
    · show (s.R ++ [s.nx, v.b]).length = 2 * (s.rn + 1)
      simp
      omega
  | recv hk h1 hg =>
    refine ⟨⟨⟨hc.e0, hc.e1, hc.n0, hc.n1, by have := hc.g0; show 0 ≤ s.gv + 1; omega, by show s.gv + 1 ≤ _; omega, by have := hc.sz; show s.rn - 1 + (s.ln + 1) ≤ 500; omega⟩, ok.wins, ⟨?_, ?_, ?_⟩, ?_⟩, ?_, ?_⟩
    · refine ready_mk (fun i hi => ?_) (fun i hi => ?_)
      · have hi : i < s.rn - 1 := hi
        have := ready_bounds ok (show i + 1 < s.rn by omega)
        show 0 ≤ (s.R.drop 2).getD (2 * i) 0 ∧ (s.R.drop 2).getD (2 * i) 0 ≤ s.nx - 1 ∧ 0 ≤ (s.R.drop 2).getD (2 * i + 1) 0 ∧ (s.R.drop 2).getD (2 * i + 1) 0 ≤ 1000000
        rw [getD_drop, getD_drop, show 2 + 2 * i = 2 * (i + 1) by omega, show 2 + (2 * i + 1) = 2 * (i + 1) + 1 by omega]
        exact this
      · have hi : i + 1 < s.rn - 1 := hi
        have := ready_rise ok (show i + 1 + 1 < s.rn by omega)
        show (s.R.drop 2).getD (2 * i) 0 < (s.R.drop 2).getD (2 * (i + 1)) 0
        rw [getD_drop, getD_drop, show 2 + 2 * i = 2 * (i + 1) by omega, show 2 + 2 * (i + 1) = 2 * (i + 1 + 1) by omega]
        exact this
    · refine come_mk (fun i hi => ?_)
      have hi : i < s.ln + 1 := hi
      show 0 ≤ (s.L ++ [s.ep, s.gv, s.R.getD 0 0, s.R.getD 1 0]).getD (4 * i + 2) 0 ∧ (s.L ++ [s.ep, s.gv, s.R.getD 0 0, s.R.getD 1 0]).getD (4 * i + 2) 0 ≤ s.nx - 1 ∧ 0 ≤ (s.L ++ [s.ep, s.gv, s.R.getD 0 0, s.R.getD 1 0]).getD (4 * i + 3) 0 ∧ (s.L ++ [s.ep, s.gv, s.R.getD 0 0, s.R.getD 1 0]).getD (4 * i + 3) 0 ≤ 1000000
      rcases Nat.lt_or_ge i s.ln with h' | h'
      · rw [getD_left _ _ _ (by omega), getD_left _ _ _ (by omega)]
        exact come_bounds ok h'
      · obtain rfl : i = s.ln := by omega
        rw [getD_right _ _ 2 _ hll, getD_right _ _ 3 _ hll]
        exact ready_bounds ok h1
    · show dupB (nosOf (s.L ++ [s.ep, s.gv, s.R.getD 0 0, s.R.getD 1 0]) (s.ln + 1) (s.R.drop 2) (s.rn - 1)) = false
      have e : nosOf (s.L ++ [s.ep, s.gv, s.R.getD 0 0, s.R.getD 1 0]) (s.ln + 1) (s.R.drop 2) (s.rn - 1) = nosOf s.L s.ln s.R s.rn := by
        unfold nosOf
        rw [leaseNos_succ, getD_right _ _ 2 _ hll, leaseNos_congr (fun i hi => getD_left _ _ _ (by omega)), readyNos_drop s.R s.rn h1, List.append_assoc]
        rfl
      rw [e]
      exact ok.hold.apart
    · refine lease_mk (fun i hi => ?_) (fun i hi => ?_)
      · have hi : i < s.ln + 1 := hi
        show (s.L ++ [s.ep, s.gv, s.R.getD 0 0, s.R.getD 1 0]).getD (4 * i) 0 = s.ep ∧ 0 ≤ (s.L ++ [s.ep, s.gv, s.R.getD 0 0, s.R.getD 1 0]).getD (4 * i + 1) 0 ∧ (s.L ++ [s.ep, s.gv, s.R.getD 0 0, s.R.getD 1 0]).getD (4 * i + 1) 0 ≤ s.gv + 1 - 1
        rcases Nat.lt_or_ge i s.ln with h' | h'
        · rw [getD_left _ _ _ (by omega), getD_left _ _ _ (by omega)]
          have := lease_bounds ok h'
          omega
        · obtain rfl : i = s.ln := by omega
          rw [getD_right _ _ 1 _ hll, show 4 * s.ln = 4 * s.ln + 0 from rfl, getD_right _ _ 0 _ hll]
          have := hc.g0
          simp
          omega
      · have hi : i + 1 < s.ln + 1 := hi
        show (s.L ++ [s.ep, s.gv, s.R.getD 0 0, s.R.getD 1 0]).getD (4 * i + 1) 0 < (s.L ++ [s.ep, s.gv, s.R.getD 0 0, s.R.getD 1 0]).getD (4 * (i + 1) + 1) 0
        rw [getD_left _ _ _ (by omega)]
        rcases Nat.lt_or_ge (i + 1) s.ln with h' | h'
        · rw [getD_left _ _ _ (by omega)]
          exact lease_rise ok h'
        · rw [show 4 * (i + 1) + 1 = 4 * s.ln + 1 by omega, getD_right _ _ 1 _ hll]
          have := lease_bounds ok (show i < s.ln by omega)
          simp at this ⊢
          omega
    · show (s.R.drop 2).length = 2 * (s.rn - 1)
      simp
      omega
    · show (s.L ++ [s.ep, s.gv, s.R.getD 0 0, s.R.getD 1 0]).length = 4 * (s.ln + 1)
      simp
      omega
  | ack hk h1 m hm ha =>
    have g := fun i j (hj : j < 4) => cut_get s.L m s.ln i j hll hm hj
    refine ⟨⟨⟨hc.e0, hc.e1, hc.n0, hc.n1, hc.g0, hc.g1, by have := hc.sz; show s.rn + (s.ln - 1) ≤ 500; omega⟩, ok.wins, ⟨ok.hold.ready, ?_, ?_⟩, ?_⟩, hlr, ?_⟩
    · refine come_mk (fun i hi => ?_)
      have hi : i < s.ln - 1 := hi
      show 0 ≤ (s.L.take (4 * m) ++ s.L.drop (4 * m + 4)).getD (4 * i + 2) 0 ∧ (s.L.take (4 * m) ++ s.L.drop (4 * m + 4)).getD (4 * i + 2) 0 ≤ s.nx - 1 ∧ 0 ≤ (s.L.take (4 * m) ++ s.L.drop (4 * m + 4)).getD (4 * i + 3) 0 ∧ (s.L.take (4 * m) ++ s.L.drop (4 * m + 4)).getD (4 * i + 3) 0 ≤ 1000000
      rw [g i 2 (by omega), g i 3 (by omega)]
      split
      · exact come_bounds ok (by omega)
      · exact come_bounds ok (by omega)
    · show dupB (nosOf (s.L.take (4 * m) ++ s.L.drop (4 * m + 4)) (s.ln - 1) s.R s.rn) = false
      rw [dupB_false]
      unfold nosOf
      rw [leaseNos_cut s.L m s.ln hll hm]
      exact List.Nodup.sublist ((List.eraseIdx_sublist _ _).append (List.Sublist.refl _)) (dupB_false.1 ok.hold.apart)
    · refine lease_mk (fun i hi => ?_) (fun i hi => ?_)
      · have hi : i < s.ln - 1 := hi
        show (s.L.take (4 * m) ++ s.L.drop (4 * m + 4)).getD (4 * i) 0 = s.ep ∧ 0 ≤ (s.L.take (4 * m) ++ s.L.drop (4 * m + 4)).getD (4 * i + 1) 0 ∧ (s.L.take (4 * m) ++ s.L.drop (4 * m + 4)).getD (4 * i + 1) 0 ≤ s.gv - 1
        rw [g i 1 (by omega), show 4 * i = 4 * i + 0 from rfl, g i 0 (by omega)]
        split
        · exact lease_bounds ok (by omega)
        · exact lease_bounds ok (by omega)
      · have hi : i + 1 < s.ln - 1 := hi
        show (s.L.take (4 * m) ++ s.L.drop (4 * m + 4)).getD (4 * i + 1) 0 < (s.L.take (4 * m) ++ s.L.drop (4 * m + 4)).getD (4 * (i + 1) + 1) 0
        rw [g i 1 (by omega), g (i + 1) 1 (by omega)]
        have a1 := lease_rise ok (show i + 1 < s.ln by omega)
        have a2 := lease_rise ok (show i + 1 + 1 < s.ln by omega)
        split <;> split <;> omega
    · show (s.L.take (4 * m) ++ s.L.drop (4 * m + 4)).length = 4 * (s.ln - 1)
      simp
      omega
  | stop hk h1 R' ho =>
    refine ⟨⟨⟨by have := hc.e0; show 0 ≤ s.ep + 1; omega, by show s.ep + 1 ≤ _; omega, hc.n0, hc.n1, by show (0 : Int) ≤ 0; omega, by show (0 : Int) ≤ _; omega, by have := hc.sz; show s.rn + s.ln + 0 ≤ 500; omega⟩, ok.wins, ⟨ready_mk (ordered_come h ho) (ordered_rise h ho), fun i hi => absurd hi (Nat.not_lt_zero _), ?_⟩, fun i hi => absurd hi (Nat.not_lt_zero _)⟩, ho.len, rfl⟩
    show dupB (nosOf [] 0 R' (s.rn + s.ln)) = false
    rw [dupB_false]
    unfold nosOf
    rw [show leaseNos [] 0 = [] from rfl, List.nil_append]
    exact (ordered_nos h ho).nodup_iff.2 (dupB_false.1 ok.hold.apart)
end Go.Proofs.Ytlfecmkpafgcmaa

namespace Go.Proofs.Ytlfecmkpafgcmaa
open Go.RowKit

/-- the event of raw numbers. -/
def evNums (k a b c : Int) : List Int :=
  if pickedOf k 8 < 3 then [1, pickedOf a 2, pickedOf b 24, pickedOf c 1000, 0, 0]
  else if pickedOf k 8 < 5 then [2, 0, 0, 0, 0, 0]
  else if pickedOf k 8 < 7 then [3, 0, 0, 0, pickedOf a 3, pickedOf b 6]
  else [4, 0, 0, 0, 0, 0]

set_option maxRecDepth 20000 in
set_option maxHeartbeats 1000000 in
theorem event_any (k a b c : Int) (w : World) (wk : (Lit.int .i64 k).wf = true) (wa : (Lit.int .i64 a).wf = true) (wb : (Lit.int .i64 b).wf = true) (wc : (Lit.int .i64 c).wf = true) :
    Calls Try.prog 26 #[.agg #[.int .i64 k, .int .i64 a, .int .i64 b, .int .i64 c]] w fun e w' => e = .returned (.agg ((evNums k a b c).map (Value.int .i64)).toArray) ∧ Below w.heap.size w w' := by
  obtain ⟨ev, hev⟩ : ∃ ev, evNums k a b c = ev := ⟨_, rfl⟩
  rw [hev]
  unfold evNums at hev
  obtain ⟨p0, p1⟩ := pickedOf_range k 8 (by omega)
  go_enter Try.func26, Try.ntmps26
  go_wp2_with fail
  refine (picked_any k 8 _ wk (by omega) (by omega)).mono ?_
  rintro e w0 ⟨rfl, rfl⟩
  generalize pickedOf k 8 = p at p0 p1 hev
  have HV := veil hev
  clear hev
  have P : p = 0 ∨ p = 1 ∨ p = 2 ∨ p = 3 ∨ p = 4 ∨ p = 5 ∨ p = 6 ∨ p = 7 := by omega
  clear p0 p1
  rcases P with rfl | rfl | rfl | rfl | rfl | rfl | rfl | rfl
  · have hv : [1, pickedOf a 2, pickedOf b 24, pickedOf c 1000, 0, 0] = ev := by simpa using unveil HV
    subst hv
    clear HV
    go_wp2_with fail
    go_region_held3 (fun w' => w'.cell? ⟨w.heap.size, 1, none⟩ = some (.int .i64 a) ∧ w'.cell? ⟨w.heap.size, 2, none⟩ = some (.int .i64 b) ∧ w'.cell? ⟨w.heap.size, 3, none⟩ = some (.int .i64 c)) (go_keep) ((go_at_call 13; refine (picked_any _ _ _ (by assumption) (by omega) (by omega)).mono ?_; rintro e w' ⟨rfl, rfl⟩))
    all_goals
      go_wp2
      exact bodyPost_ret (v := .agg #[.int .i64 1, .int .i64 (pickedOf a 2), .int .i64 (pickedOf b 24), .int .i64 (pickedOf c 1000), .int .i64 0, .int .i64 0]) (by simp [results, Try.results26, go_sem]) rfl ⟨rfl, (below2 _ _ _).drew⟩
  · have hv : [1, pickedOf a 2, pickedOf b 24, pickedOf c 1000, 0, 0] = ev := by simpa using unveil HV
    subst hv
    clear HV
    go_wp2_with fail
    go_region_held3 (fun w' => w'.cell? ⟨w.heap.size, 1, none⟩ = some (.int .i64 a) ∧ w'.cell? ⟨w.heap.size, 2, none⟩ = some (.int .i64 b) ∧ w'.cell? ⟨w.heap.size, 3, none⟩ = some (.int .i64 c)) (go_keep) ((go_at_call 13; refine (picked_any _ _ _ (by assumption) (by omega) (by omega)).mono ?_; rintro e w' ⟨rfl, rfl⟩))
    all_goals
      go_wp2
      exact bodyPost_ret (v := .agg #[.int .i64 1, .int .i64 (pickedOf a 2), .int .i64 (pickedOf b 24), .int .i64 (pickedOf c 1000), .int .i64 0, .int .i64 0]) (by simp [results, Try.results26, go_sem]) rfl ⟨rfl, (below2 _ _ _).drew⟩
  · have hv : [1, pickedOf a 2, pickedOf b 24, pickedOf c 1000, 0, 0] = ev := by simpa using unveil HV
    subst hv
    clear HV
    go_wp2_with fail
    go_region_held3 (fun w' => w'.cell? ⟨w.heap.size, 1, none⟩ = some (.int .i64 a) ∧ w'.cell? ⟨w.heap.size, 2, none⟩ = some (.int .i64 b) ∧ w'.cell? ⟨w.heap.size, 3, none⟩ = some (.int .i64 c)) (go_keep) ((go_at_call 13; refine (picked_any _ _ _ (by assumption) (by omega) (by omega)).mono ?_; rintro e w' ⟨rfl, rfl⟩))
    all_goals
      go_wp2
      exact bodyPost_ret (v := .agg #[.int .i64 1, .int .i64 (pickedOf a 2), .int .i64 (pickedOf b 24), .int .i64 (pickedOf c 1000), .int .i64 0, .int .i64 0]) (by simp [results, Try.results26, go_sem]) rfl ⟨rfl, (below2 _ _ _).drew⟩
  · have hv : [2, 0, 0, 0, 0, 0] = ev := by simpa using unveil HV
    subst hv
    clear HV
    go_wp2
    exact bodyPost_ret (v := .agg #[.int .i64 2, .int .i64 0, .int .i64 0, .int .i64 0, .int .i64 0, .int .i64 0]) (by simp [results, Try.results26, go_sem]) rfl ⟨rfl, below2 _ _ _⟩
  · have hv : [2, 0, 0, 0, 0, 0] = ev := by simpa using unveil HV
    subst hv
    clear HV
    go_wp2
    exact bodyPost_ret (v := .agg #[.int .i64 2, .int .i64 0, .int .i64 0, .int .i64 0, .int .i64 0, .int .i64 0]) (by simp [results, Try.results26, go_sem]) rfl ⟨rfl, below2 _ _ _⟩
  · have hv : [3, 0, 0, 0, pickedOf a 3, pickedOf b 6] = ev := by simpa using unveil HV
    subst hv
    clear HV
    go_wp2_with fail
    go_region_held3 (fun w' => w'.cell? ⟨w.heap.size, 1, none⟩ = some (.int .i64 a) ∧ w'.cell? ⟨w.heap.size, 2, none⟩ = some (.int .i64 b)) (go_keep) ((go_at_call 13; refine (picked_any _ _ _ (by assumption) (by omega) (by omega)).mono ?_; rintro e w' ⟨rfl, rfl⟩))
    all_goals
      go_wp2
      exact bodyPost_ret (v := .agg #[.int .i64 3, .int .i64 0, .int .i64 0, .int .i64 0, .int .i64 (pickedOf a 3), .int .i64 (pickedOf b 6)]) (by simp [results, Try.results26, go_sem]) rfl ⟨rfl, (below2 _ _ _).drew⟩
  · have hv : [3, 0, 0, 0, pickedOf a 3, pickedOf b 6] = ev := by simpa using unveil HV
    subst hv
    clear HV
    go_wp2_with fail
    go_region_held3 (fun w' => w'.cell? ⟨w.heap.size, 1, none⟩ = some (.int .i64 a) ∧ w'.cell? ⟨w.heap.size, 2, none⟩ = some (.int .i64 b)) (go_keep) ((go_at_call 13; refine (picked_any _ _ _ (by assumption) (by omega) (by omega)).mono ?_; rintro e w' ⟨rfl, rfl⟩))
    all_goals
      go_wp2
      exact bodyPost_ret (v := .agg #[.int .i64 3, .int .i64 0, .int .i64 0, .int .i64 0, .int .i64 (pickedOf a 3), .int .i64 (pickedOf b 6)]) (by simp [results, Try.results26, go_sem]) rfl ⟨rfl, (below2 _ _ _).drew⟩
  · have hv : [4, 0, 0, 0, 0, 0] = ev := by simpa using unveil HV
    subst hv
    clear HV
    go_wp2
    exact bodyPost_ret (v := .agg #[.int .i64 4, .int .i64 0, .int .i64 0, .int .i64 0, .int .i64 0, .int .i64 0]) (by simp [results, Try.results26, go_sem]) rfl ⟨rfl, below2 _ _ _⟩
/-- the event of a deed. -/
def deedEv (k a b c : Int) : Ev :=
  if pickedOf k 8 < 3 then ⟨1, pickedOf a 2, pickedOf b 24, pickedOf c 1000, 0, 0⟩
  else if pickedOf k 8 < 5 then ⟨2, 0, 0, 0, 0, 0⟩
  else if pickedOf k 8 < 7 then ⟨3, 0, 0, 0, pickedOf a 3, pickedOf b 6⟩
  else ⟨4, 0, 0, 0, 0, 0⟩
theorem evNums_eq (k a b c : Int) : Value.agg ((evNums k a b c).map (Value.int .i64)).toArray = evIn (deedEv k a b c) := by
  unfold evNums deedEv
  repeat' split
  all_goals rfl
theorem event_ev (k a b c : Int) (w : World) (wk : (Lit.int .i64 k).wf = true) (wa : (Lit.int .i64 a).wf = true) (wb : (Lit.int .i64 b).wf = true) (wc : (Lit.int .i64 c).wf = true) :
    Calls Try.prog 26 #[.agg #[.int .i64 k, .int .i64 a, .int .i64 b, .int .i64 c]] w fun e w' => e = .returned (evIn (deedEv k a b c)) ∧ Below w.heap.size w w' := by
  rw [← evNums_eq]
  exact event_any k a b c w wk wa wb wc
/-- an event as deeds make them. -/
structure DeedLike (v : Ev) : Prop where
  ok : v.Ok
  p : 0 ≤ v.p ∧ v.p < 2
  i : 0 ≤ v.i ∧ v.i < 24
theorem deedEv_like (k a b c : Int) : DeedLike (deedEv k a b c) := by
  have h1 := pickedOf_range a 2 (by omega)
  have h2 := pickedOf_range b 24 (by omega)
  have h3 := pickedOf_range c 1000 (by omega)
  have h4 := pickedOf_range a 3 (by omega)
  have h5 := pickedOf_range b 6 (by omega)
  unfold deedEv
  repeat' split
  all_goals (refine ⟨?_, ?_, ?_⟩ <;> simp only [Ev.Ok, eventFault] <;> first | omega | (split <;> omega) | simp)
  all_goals (repeat' split)
  all_goals first | omega | rfl | simp_all
end Go.Proofs.Ytlfecmkpafgcmaa

namespace Go.Proofs.Ytlfecmkpafgcmaa
open Go.RowKit

/-- the four boxes of Do, behind a call. -/
structure Dos (w wx : World) (E Z A : Nat) (s : St) (rv lv : Value) (ws : Nat → Value) (v : Ev) : Prop where
  q : qBlock wx w.heap.size s.ep s.nx s.gv rv lv ws
  e : wx.heap[E]? = some (.cells #[.int .i64 v.k, .int .i64 v.p, .int .i64 v.i, .int .i64 v.b, .int .i64 v.he, .int .i64 v.hn] 61 (0, 0))
  z : qBlock wx Z 0 0 0 (.slice none 0 0) (.slice none 0 0) zeroW
  a : ansBlock wx A 0 0 0 0
  bel : Below w.heap.size w wx
  upE : w.heap.size < E
  upZ : E < Z
  upA : Z < A
theorem Dos.next {w wx wy : World} {E Z A : Nat} {s : St} {rv lv : Value} {ws : Nat → Value} {v : Ev} (h : Dos w wx E Z A s rv lv ws v) (b : Below wx.heap.size wx wy) : Dos w wy E Z A s rv lv ws v :=
  ⟨h.q.next b, (b.block E (block_lt h.e)).trans h.e, h.z.next b, h.a.next b, Below.next h.bel b, h.upE, h.upZ, h.upA⟩
theorem Dos.made {w W1 W3 : World} {s : St} {rv lv : Value} {ws : Nat → Value} {v : Ev} (q1 : qBlock W1 w.heap.size s.ep s.nx s.gv rv lv ws) (b1 : Below w.heap.size w W1)
    (z3 : qBlock W3 (W1.alloc (.cells #[.int .i64 v.k, .int .i64 v.p, .int .i64 v.i, .int .i64 v.b, .int .i64 v.he, .int .i64 v.hn] 61)).heap.size 0 0 0 (.slice none 0 0) (.slice none 0 0) zeroW)
    (b3 : Below (W1.alloc (.cells #[.int .i64 v.k, .int .i64 v.p, .int .i64 v.i, .int .i64 v.b, .int .i64 v.he, .int .i64 v.hn] 61)).heap.size (W1.alloc (.cells #[.int .i64 v.k, .int .i64 v.p, .int .i64 v.i, .int .i64 v.b, .int .i64 v.he, .int .i64 v.hn] 61)) W3) :
    Dos w (W3.alloc (.cells #[.int .i64 0, .int .i64 0, .int .i64 0, .int .i64 0] 50)) W1.heap.size (W1.heap.size + 1) W3.heap.size s rv lv ws v := by
  have e : (W1.alloc (.cells #[.int .i64 v.k, .int .i64 v.p, .int .i64 v.i, .int .i64 v.b, .int .i64 v.he, .int .i64 v.hn] 61)).heap.size = W1.heap.size + 1 := by simp
  have hz := z3.lt
  rw [e] at z3 hz
  refine ⟨((q1.next (below1 _ _)).next b3).next (below1 _ _), ?_, z3.next (below1 _ _), ansBlock.new W3 0 0 0 0, Below.next (Below.next (Below.next b1 (below1 _ _)) b3) (below1 _ _), q1.lt, Nat.lt_succ_self _, hz⟩
  have h1 := (b3.block W1.heap.size (by simp)).trans (heap_alloc_new W1 _)
  exact ((below1 W3 _).block W1.heap.size (block_lt h1)).trans h1

theorem ret_Do {W : World} {Z A : Nat} {ep nx gv : Int} {r l : Value} {ws : Nat → Value} {c he no bd er : Int} {ch : Bool} {tmps : Array Value} (q : qBlock W Z ep nx gv r l ws) (a : ansBlock W A c he no bd) (t4 : tmps[4]? = some (.pointer (some ⟨Z, 0, none⟩))) (t5 : tmps[5]? = some (.pointer (some ⟨A, 0, none⟩))) (t6 : tmps[6]? = some (.bool ch)) (t7 : tmps[7]? = some (.int .i64 er)) :
    (results Try.f27 tmps).run Try.prog W = .ok (.tuple #[qVal ep nx gv r l ws, ansVal c he no bd, .bool ch, .int .i64 er]) W := by
  have h1 := run_loadVar_row (P := Try.prog) W Z 38 38 _ (0, 0) _ q Try.underlying38 rfl (by rw [qCells_size]; exact Try.infoQ)
  have h2 := run_loadVar_row (P := Try.prog) W A 50 50 _ (0, 0) _ a Try.underlying50 rfl (by kernel_rfl)
  simp [results, Try.results27, t4, t5, t6, t7, asAddr, h1, h2]
/-- what Do answers where it refuses. -/
abbrev refused (er : Int) : Value := .tuple #[qVal 0 0 0 (.slice none 0 0) (.slice none 0 0) zeroW, ansVal 0 0 0 0, .bool false, .int .i64 er]
theorem Dos.end {w wx wy : World} {E Z A : Nat} {s : St} {rv lv : Value} {ws : Nat → Value} {v : Ev} (h : Dos w wx E Z A s rv lv ws v) (t : Turned Z wx wy) : ansBlock wy A 0 0 0 0 ∧ Below w.heap.size w wy :=
  ⟨h.a.turned t (by have := h.upA; omega), t.under h.bel (by have := h.upE; have := h.upZ; omega)⟩

set_option maxRecDepth 20000 in
set_option maxHeartbeats 4000000 in
theorem do_state (s : St) (ra la : Option Addr) (rc lc : Nat) (ws : Nat → Value) (v : Ev) (w : World) (hR : RowK .i64 w ra (2 * s.rn) s.R) (hL : RowK .i64 w la (4 * s.ln) s.L) (hW : Wins ws s.wt s.wz) (hs : s.rn + s.ln ≤ 9223372036854775807) (h : ¬ s.Ok) :
    Calls Try.prog 27 #[qVal s.ep s.nx s.gv (.slice ra s.rn rc) (.slice la s.ln lc) ws, evIn v] w fun e w' => e = .returned (refused 6) ∧ Below w.heap.size w w' := by
  go_enter Try.func27, Try.ntmps27
  go_wp2_with (first
    | (refine q_box 2 _ rfl rfl rfl rfl ?_; intro W1 q1 b1)
    | (refine q_alloc 4 rfl rfl rfl ?_; intro W3 z3 b3; have DD := Dos.made q1 b1 z3 b3; have DQ := DD.q; have HDD := veil DD; clear DD z3 b3 q1 b1)
    | (refine q_loads _ rfl rfl rfl DQ ?_)
    | (go_at_call 28; refine (qcheck_no _ _ _ _ _ _ _ _ _ _ _ _ s.wt s.wz _ (hR.below (unveil HDD).bel) (hL.below (unveil HDD).bel) hW hs h).mono ?_; rintro e W5 ⟨rfl, b5⟩; have D5 := (unveil HDD).next b5; have z5 := D5.z; obtain ⟨y0, y1, y2, y3⟩ := D5.a.cells; have yf := D5.a.free; have HD5 := veil D5; clear D5 HDD DQ b5)
    | (refine q_store (ra := none) (la := none) (rn := 0) (rc := 0) (ln := 0) (lc := 0) (ws' := zeroW) _ _ rfl rfl rfl rfl z5 zeroWins ?_; intro W6 q6 t6; obtain ⟨a6, b6⟩ := (unveil HD5).end t6; obtain ⟨x0, x1, x2, x3⟩ := a6.cells; have xf := a6.free; have HQ6 := veil q6; have HA6 := veil a6; have HB6 := veil b6; have nZA : W3.heap.size ≠ W1.heap.size + 1 := (by have := (unveil HD5).upA; omega); have hAl : w.heap.size ≤ W3.heap.size := (by have := (unveil HD5).upE; have := (unveil HD5).upZ; have := (unveil HD5).upA; omega); clear z5 y0 y1 y2 y3 yf q6 t6 a6 b6))
  have T7 := ans_turned W6 W3.heap.size 0 0 0 0
  exact bodyPost_ret (ret_Do (T7.queue (unveil HQ6) (by omega)) ((unveil HA6).store 0 0 0 0) rfl rfl rfl rfl) rfl ⟨rfl, T7.under (unveil HB6) hAl⟩
set_option maxRecDepth 20000 in
set_option maxHeartbeats 4000000 in
theorem do_form (s : St) (ra la : Option Addr) (rc lc : Nat) (ws : Nat → Value) (v : Ev) (w : World) (hR : RowK .i64 w ra (2 * s.rn) s.R) (hL : RowK .i64 w la (4 * s.ln) s.L) (hW : Wins ws s.wt s.wz) (h : s.Ok) (f : Int) (hf : ¬ f = 0) (HF : Hid (eventFault v.k v.p v.i v.b v.he v.hn = f)) :
    Calls Try.prog 27 #[qVal s.ep s.nx s.gv (.slice ra s.rn rc) (.slice la s.ln lc) ws, evIn v] w fun e w' => e = .returned (refused f) ∧ Below w.heap.size w w' := by
  have HC : ∀ w, Calls Try.prog 37 #[evIn v] w fun e w' => e = .returned (.int .i64 f) ∧ Below w.heap.size w w' := fun w => by
    have := check_any v.k v.p v.i v.b v.he v.hn w
    rwa [unveil HF] at this
  go_enter Try.func27, Try.ntmps27
  go_wp2_with (first
    | (refine q_box 2 _ rfl rfl rfl rfl ?_; intro W1 q1 b1)
    | (refine q_alloc 4 rfl rfl rfl ?_; intro W3 z3 b3; have DD := Dos.made q1 b1 z3 b3; have DQ := DD.q; have HDD := veil DD; clear DD z3 b3 q1 b1)
    | (refine q_loads _ rfl rfl rfl DQ ?_)
    | (go_at_call 28; refine (qcheck_yes _ _ _ _ _ _ _ _ _ _ _ _ s.wt s.wz _ (hR.below (unveil HDD).bel) (hL.below (unveil HDD).bel) hW h).mono ?_; rintro e W4 ⟨rfl, b4⟩; have D4 := (unveil HDD).next b4; have ev4 := D4.e; have v0 : W4.cell? ⟨W1.heap.size, 0, none⟩ = some (.int .i64 v.k) := (by simp [World.cell?, ev4]); have v1 : W4.cell? ⟨W1.heap.size, 1, none⟩ = some (.int .i64 v.p) := (by simp [World.cell?, ev4]); have v2 : W4.cell? ⟨W1.heap.size, 2, none⟩ = some (.int .i64 v.i) := (by simp [World.cell?, ev4]); have v3 : W4.cell? ⟨W1.heap.size, 3, none⟩ = some (.int .i64 v.b) := (by simp [World.cell?, ev4]); have v4 : W4.cell? ⟨W1.heap.size, 4, none⟩ = some (.int .i64 v.he) := (by simp [World.cell?, ev4]); have v5 : W4.cell? ⟨W1.heap.size, 5, none⟩ = some (.int .i64 v.hn) := (by simp [World.cell?, ev4]); have HD4 := veil D4; clear D4 HDD DQ b4 ev4)
    | (go_at_call 37; refine (HC _).mono ?_; rintro e W5 ⟨rfl, b5⟩; have D5 := (unveil HD4).next b5; have z5 := D5.z; obtain ⟨y0, y1, y2, y3⟩ := D5.a.cells; have yf := D5.a.free; have HD5 := veil D5; clear D5 HD4 b5 v0 v1 v2 v3 v4 v5)
    | (refine q_store (ra := none) (la := none) (rn := 0) (rc := 0) (ln := 0) (lc := 0) (ws' := zeroW) _ _ rfl rfl rfl rfl z5 zeroWins ?_; intro W6 q6 t6; obtain ⟨a6, b6⟩ := (unveil HD5).end t6; obtain ⟨x0, x1, x2, x3⟩ := a6.cells; have xf := a6.free; have HQ6 := veil q6; have HA6 := veil a6; have HB6 := veil b6; have nZA : W3.heap.size ≠ W1.heap.size + 1 := (by have := (unveil HD5).upA; omega); have hAl : w.heap.size ≤ W3.heap.size := (by have := (unveil HD5).upE; have := (unveil HD5).upZ; have := (unveil HD5).upA; omega); clear z5 y0 y1 y2 y3 yf q6 t6 a6 b6))
  have T7 := ans_turned W6 W3.heap.size 0 0 0 0
  exact bodyPost_ret (ret_Do (T7.queue (unveil HQ6) (by omega)) ((unveil HA6).store 0 0 0 0) rfl rfl rfl rfl) rfl ⟨rfl, T7.under (unveil HB6) hAl⟩
end Go.Proofs.Ytlfecmkpafgcmaa

namespace Go.Proofs.Ytlfecmkpafgcmaa
open Go.RowKit

/-- a queue in an answer: its rows are new. -/
structure QOut (w w' : World) (s : St) (x : Value) : Prop where
  ex : ∃ a1 c1 a2 c2 ws, x = qVal s.ep s.nx s.gv (.slice a1 s.rn c1) (.slice a2 s.ln c2) ws ∧ RowK .i64 w' a1 (2 * s.rn) s.R ∧ RowK .i64 w' a2 (4 * s.ln) s.L ∧ s.rn ≤ c1 ∧ s.ln ≤ c2 ∧ (a1 = none → c1 = 0) ∧ (a2 = none → c2 = 0) ∧ Wins ws s.wt s.wz ∧ (∀ x, a1 = some x → w.heap.size ≤ x.block) ∧ (∀ x, a2 = some x → w.heap.size ≤ x.block)

theorem ite_wanted {c : Bool} {A B : Prop} (h : c = true) (a : A) : if c = true then A else B := by rw [if_pos h]; exact a
theorem yields_a {ops : Array Oper} {S : World → Prop} {o : Oper} {a : Act} {R : Nat} {c he no bd : Int} (x : Operand) (ho : o.op = .load 50 x) (hw : Region.wanted o (yielded ops a.tmps) = true) (hx : a.eval x = .pointer (some ⟨R, 0, none⟩)) (hS : ∀ w, S w → ansBlock w R c he no bd) :
    YieldsIf Try.prog ops S o (ansVal c he no bd) a :=
  .inl ⟨hw, fun w hs => by
    unfold execOp
    simp only [ho, hx, Instr.loadAt, Instr.sureAddr, Sem.run_bind, Sem.run_pure, Result.andThen_ok, run_loadVar_row w R 50 50 _ (0, 0) _ (hS w hs) Try.underlying50 rfl (by kernel_rfl)]⟩
theorem Dos.under {w wx wy : World} {E Z A base : Nat} {s : St} {rv lv : Value} {ws : Nat → Value} {v : Ev} (h : Dos w wx E Z A s rv lv ws v) (b : Below base wx wy) (hA : A < base) : Dos w wy E Z A s rv lv ws v := by
  have := h.upE; have := h.upZ; have := h.upA
  exact ⟨h.q.below b (by omega), (b.block E (by omega)).trans h.e, h.z.below b (by omega), h.a.below b hA, h.bel.trans (b.mono (by omega)), h.upE, h.upZ, h.upA⟩

set_option maxRecDepth 20000 in
set_option maxHeartbeats 4000000 in
theorem do_step (s : St) (ra la : Option Addr) (rc lc : Nat) (ws : Nat → Value) (v : Ev) (w : World) (hR : RowK .i64 w ra (2 * s.rn) s.R) (hL : RowK .i64 w la (4 * s.ln) s.L) (nR : ra = none → rc = 0) (nL : la = none → lc = 0) (hW : Wins ws s.wt s.wz) (h : s.Ok) (hv : v.Ok) :
    Calls Try.prog 27 #[qVal s.ep s.nx s.gv (.slice ra s.rn rc) (.slice la s.ln lc) ws, evIn v] w fun e w' => ∃ (s' : St) (an : An) (ch : Bool) (x : Value), e = .returned (.tuple #[x, anOf an, .bool ch, .int .i64 0]) ∧ Step s v s' an ch ∧ QOut w w' s' x ∧ Below w.heap.size w w' := by
  have HC : ∀ w, Calls Try.prog 37 #[evIn v] w fun e w' => e = .returned (.int .i64 0) ∧ Below w.heap.size w w' := fun w => by
    have := check_any v.k v.p v.i v.b v.he v.hn w
    rwa [show eventFault v.k v.p v.i v.b v.he v.hn = 0 from hv] at this
  go_enter Try.func27, Try.ntmps27
  go_wp2_with (first
    | (refine q_box 2 _ rfl rfl rfl rfl ?_; intro W1 q1 b1)
    | (refine q_alloc 4 rfl rfl rfl ?_; intro W3 z3 b3; have DD := Dos.made q1 b1 z3 b3; have DQ := DD.q; have HDD := veil DD; clear DD z3 b3 q1 b1)
    | (refine q_loads _ rfl rfl rfl (by assumption) ?_)
    | (go_at_call 28; refine (qcheck_yes _ _ _ _ _ _ _ _ _ _ _ _ s.wt s.wz _ (hR.below (unveil HDD).bel) (hL.below (unveil HDD).bel) hW h).mono ?_; rintro e W4 ⟨rfl, b4⟩; have D4 := (unveil HDD).next b4; have ev4 := D4.e; have v0 : W4.cell? ⟨W1.heap.size, 0, none⟩ = some (.int .i64 v.k) := (by simp [World.cell?, ev4]); have v1 : W4.cell? ⟨W1.heap.size, 1, none⟩ = some (.int .i64 v.p) := (by simp [World.cell?, ev4]); have v2 : W4.cell? ⟨W1.heap.size, 2, none⟩ = some (.int .i64 v.i) := (by simp [World.cell?, ev4]); have v3 : W4.cell? ⟨W1.heap.size, 3, none⟩ = some (.int .i64 v.b) := (by simp [World.cell?, ev4]); have v4 : W4.cell? ⟨W1.heap.size, 4, none⟩ = some (.int .i64 v.he) := (by simp [World.cell?, ev4]); have v5 : W4.cell? ⟨W1.heap.size, 5, none⟩ = some (.int .i64 v.hn) := (by simp [World.cell?, ev4]); have HD4 := veil D4; clear D4 HDD DQ b4 ev4)
    | (go_at_call 37; refine (HC _).mono ?_; rintro e W5 ⟨rfl, b5⟩; have D5 := (unveil HD4).next b5; have DQ5 := D5.q; have HD5 := veil D5; clear D5 HD4 b5 v0 v1 v2 v3 v4 v5)
    | (go_at_call 38; refine (deskOf_any _ _ _ _ _ _ _ _ _ s.R s.L _ _ (hR.below (unveil HD5).bel) (hL.below (unveil HD5).bel) nR nL h.count.sz).mono ?_; rintro e W6 ⟨B, a1, c1, a2, c2, rfl, uB, d6, o1, o2, b6⟩; have D6 : Desk W6 W5.heap.size B s.ep s.nx s.gv a1 s.rn c1 a2 s.ln c2 s.R s.L ws := ⟨d6, uB, o1, o2, hR.wf, hL.wf⟩; have HS6 := veil D6; have HX6 := veil ((unveil HD5).next b6); have HB6 := veil b6; clear DQ5 D6 d6 uB o1 o2 b6))
  have hk4 : v.k = 1 ∨ v.k = 2 ∨ v.k = 3 ∨ v.k = 4 := by
    rcases Ev.cases hv with h | h | h | h
    · exact .inl h.1
    · exact .inr (.inl h.1)
    · exact .inr (.inr (.inl h.1))
    · exact .inr (.inr (.inr h.1))
  have HK := veil hk4
  have hMeth : Hid (∀ W, Below W6.heap.size W6 W → Calls Try.prog (methodOf v.k) #[.pointer (some ⟨B, 0, none⟩), evIn v] W fun e w' => ∃ x, e = .returned x ∧ Done s v W5.heap.size B W x w') := veil fun W hb =>
    method_any W5.heap.size B s a1 c1 a2 c2 ws v W ((unveil HS6).next hb) hW (by have := (unveil HS6).up; have := ((unveil HS6).next hb).d.lt; omega) h hv
  have heg : ∀ args w, (callFunc (methodOf v.k) args).run Try.prog w = .ok (.enter (methodOf v.k) args) w := by
    rcases hk4 with e | e | e | e
    · rw [e]; exact enters_of Try.func58 (by kernel_rfl) rfl
    · rw [e]; exact enters_of Try.func59 (by kernel_rfl) rfl
    · rw [e]; exact enters_of Try.func60 (by kernel_rfl) rfl
    · rw [e]; exact enters_of Try.func61 (by kernel_rfl) rfl
  obtain ⟨g, hg⟩ : ∃ g, methodOf v.k = g := ⟨_, rfl⟩
  rw [hg] at heg hMeth
  have HG := veil hg
  clear hg hk4
  have ev6 := (unveil HX6).e
  have v0 : W6.cell? ⟨W1.heap.size, 0, none⟩ = some (.int .i64 v.k) := by simp [World.cell?, ev6]
  have hEl : W1.heap.size < W6.heap.size := block_lt ev6
  have hEn : W1.heap.size ≠ W6.heap.size := by omega
  clear ev6
  go_cut [11] (fun p wx => p = .func (.func g) #[] #[] ∧ Below W6.heap.size W6 wx)
  case first =>
    go_region_with (go_at_call 39; refine (methods_any _).mono ?_; rintro e W7 ⟨rfl, m7, b7⟩; have B7 : Below W6.heap.size W6 W7 := (by first | with_reducible exact Below.next (below_drew _) b7 | exact Below.next (below_drew _) b7); have hlk : (Instr.lookup 100 (.map (some W6.heap.size)) (.int .i64 v.k) false).run Try.prog W7 = .ok (.func (.func g) #[] #[]) W7 := (by have hq := run_method m7 v.k (unveil HK); rw [unveil HG] at hq; exact hq); have v7 : W7.cell? ⟨W1.heap.size, 0, none⟩ = some (.int .i64 v.k) := (B7.cell (p := ⟨W1.heap.size, 0, none⟩) hEl).trans v0; have HB7 := veil B7; clear m7 b7 B7)
    all_goals (try go_wp2_with fail)
    all_goals go_meet
    all_goals exact ⟨rfl, unveil HB7⟩
  case rest =>
    obtain ⟨rfl, b8⟩ := hcut
    have X8 := (unveil HX6).next b8
    have ev8 := X8.e
    have v1 : wc.cell? ⟨W1.heap.size, 0, none⟩ = some (.int .i64 v.k) := by simp [World.cell?, ev8]
    have v2 : wc.cell? ⟨W1.heap.size, 1, none⟩ = some (.int .i64 v.p) := by simp [World.cell?, ev8]
    have v3 : wc.cell? ⟨W1.heap.size, 2, none⟩ = some (.int .i64 v.i) := by simp [World.cell?, ev8]
    have v4 : wc.cell? ⟨W1.heap.size, 3, none⟩ = some (.int .i64 v.b) := by simp [World.cell?, ev8]
    have v5 : wc.cell? ⟨W1.heap.size, 4, none⟩ = some (.int .i64 v.he) := by simp [World.cell?, ev8]
    have v6 : wc.cell? ⟨W1.heap.size, 5, none⟩ = some (.int .i64 v.hn) := by simp [World.cell?, ev8]
    have HX8 := veil X8
    have HB8 := veil b8
    clear v0 hEl hEn ev8 X8 b8
    go_step
    go_step
    go_wp2_with (go_at_fn g; refine (unveil hMeth _ (unveil HB8)).mono ?_; rintro e W9 ⟨x, rfl, s', an, ch, rfl, hst, dOut, b9⟩; have HST := veil hst; have HDO := veil dOut; have HB9 := veil b9; clear hst dOut b9 v1 v2 v3 v4 v5 v6)
    obtain ⟨a1', c1', a2', c2', ws', d9, r1, r2, l1, l2, n1, n2, hW', x1, x2⟩ := unveil HDO
    have X9 := (unveil HX8).under (unveil HB9) (unveil HD5).a.lt
    obtain ⟨W10, hW10, b10, y10⟩ : ∃ W10, W10 = W9.alloc (.cells #[.int .i64 an.c, .int .i64 an.he, .int .i64 an.no, .int .i64 an.bd] 50) ∧ Below W9.heap.size W9 W10 ∧ ansBlock W10 W9.heap.size an.c an.he an.no an.bd := ⟨_, rfl, below1 _ _, ansBlock.new W9 _ _ _ _⟩
    rw [← hW10]
    have d10 := d9.next b10
    have X10 := X9.next b10
    have r1' := r1.below b10
    have r2' := r2.below b10
    have hZB : W1.heap.size + 1 ≠ B := by
      have := (unveil HD5).z.lt; have := (unveil HS6).up; omega
    have hAB : W3.heap.size ≠ B := by
      have := (unveil HD5).a.lt; have := (unveil HS6).up; omega
    have hYZ : W9.heap.size ≠ W1.heap.size + 1 := by have := X9.z.lt; omega
    have hYA : W9.heap.size ≠ W3.heap.size := by have := X9.a.lt; omega
    have hZA : W1.heap.size + 1 ≠ W3.heap.size := by have := X9.upA; omega
    have hup : w.heap.size ≤ W5.heap.size := (unveil HD5).bel.size
    have hAl : w.heap.size ≤ W3.heap.size := by have := X9.upE; have := X9.upZ; have := X9.upA; omega
    have hZl : w.heap.size ≤ W1.heap.size + 1 := by have := X9.upE; omega
    have h5A := (unveil HD5).a.lt
    have h5Z := (unveil HD5).z.lt
    clear hW10 X9 d9 r1 r2 b10 HDO
    refine wp_region_held_drew (S := fun w' => dBlock w' B s'.ep s'.nx s'.gv (.slice a1' s'.rn c1') (.slice a2' s'.ln c2') ws' ∧ ansBlock w' W9.heap.size an.c an.he an.no an.bd) (by kernel_rfl) ⟨d10, y10⟩ (fun hHeld => ?_)
    refine wpAnyH_take (i := 0) (v := _) rfl (by kernel_rfl) (by kernel_rfl) (by kernel_rfl) (fun _ _ _ h => h) (Or.inl ⟨by rfl, fun _ _ => rfl⟩) hHeld ?_
    simp only [List.getElem_toArray, List.getElem_cons_zero, Act.put, List.setIfInBounds_toArray, List.set_cons_zero, List.set_cons_succ]
    refine wpAnyH_take (i := 1) (v := .pointer (some ⟨B, 0, none⟩)) rfl (by kernel_rfl) (by kernel_rfl) (by kernel_rfl) (fun _ _ _ h => h) (Or.inl ⟨by rfl, fun _ _ => by go_simp⟩) hHeld ?_
    simp only [List.getElem_toArray, List.getElem_cons_zero, List.getElem_cons_succ, Act.put, List.setIfInBounds_toArray, List.set_cons_zero, List.set_cons_succ]
    refine wpAnyH_take (i := 2) (v := .pointer (some ⟨B, 0, none⟩)) rfl (by kernel_rfl) (by kernel_rfl) (by kernel_rfl) (fun _ _ _ h => h) (Or.inl ⟨by rfl, fun _ _ => by go_simp⟩) hHeld ?_
    simp only [List.getElem_toArray, List.getElem_cons_zero, List.getElem_cons_succ, Act.put, List.setIfInBounds_toArray, List.set_cons_zero, List.set_cons_succ]
    refine wpAnyH_take (i := 3) (v := _) rfl (by kernel_rfl) (by kernel_rfl) (by kernel_rfl) (fun _ _ _ h => h) (yields_d _ rfl rfl rfl (fun _ h => h.1)) hHeld ?_
    simp only [List.getElem_toArray, List.getElem_cons_zero, List.getElem_cons_succ, Act.put, List.setIfInBounds_toArray, List.set_cons_zero, List.set_cons_succ]
    refine wpAnyH_take (i := 4) (v := _) rfl (by kernel_rfl) (by kernel_rfl) (by kernel_rfl) (fun _ _ _ h => h) (yields_a _ rfl rfl rfl (fun _ h => h.2)) hHeld ?_
    simp only [List.getElem_toArray, List.getElem_cons_zero, List.getElem_cons_succ, Act.put, List.setIfInBounds_toArray, List.set_cons_zero, List.set_cons_succ]
    refine wpAnyH_take (i := 5) (v := .bool ch) rfl (by kernel_rfl) (by kernel_rfl) (by kernel_rfl) (fun _ _ _ h => h) (Or.inl ⟨by rfl, fun _ _ => by go_simp⟩) hHeld ?_
    simp only [List.getElem_toArray, List.getElem_cons_zero, List.getElem_cons_succ, Act.put, List.setIfInBounds_toArray, List.set_cons_zero, List.set_cons_succ]
    refine wpAnyH_ready (rs := [6]) (by kernel_rfl) (by simp) ?_
    refine AllReadyH.cons rfl (fun K hK => ?_) AllReadyH.nil
    simp only [List.getElem_toArray, List.getElem_cons_zero, List.getElem_cons_succ]
    refine ite_wanted rfl ?_
    have zq : qBlock W10.drew (W1.heap.size + 1) 0 0 0 (.slice none 0 0) (.slice none 0 0) zeroW := X10.z
    refine wp_store_mid 38 (.tmp 4) (.tmp 44) rfl (W1.heap.size + 1) 0 _ rfl rfl (by rw [qCells_size]; exact zq.there) (by rw [qCells_size]; exact Try.infoQ) (qCells_one hW') ?_
    have q11 := zq.stored s'.ep s'.nx s'.gv (.slice a1' s'.rn c1') (.slice a2' s'.ln c2') ws'
    have T11 := Turned.sets (W1.heap.size + 1) (qCells s'.ep s'.nx s'.gv (.slice a1' s'.rn c1') (.slice a2' s'.ln c2') ws').toList 0 W10.drew
    have d11 := dBlock.turned (w := W10.drew) d10 T11 (fun e => hZB e.symm)
    have y11 := ansBlock.turned (w := W10.drew) y10 T11 hYZ
    have a11 := ansBlock.turned (w := W10.drew) X10.a T11 (fun e => hZA e.symm)
    have B11 : Below w.heap.size w _ := T11.under (show Below w.heap.size w W10.drew from ⟨X10.bel.os, X10.bel.tape, X10.bel.output, X10.bel.size, X10.bel.block⟩) hZl
    have r11 := Turned.row (w := W10.drew) T11 (r1'.below (below_drew W10)) (fun x hx _ => by have := x1 x hx; omega)
    have r12 := Turned.row (w := W10.drew) T11 (r2'.below (below_drew W10)) (fun x hx _ => by have := x2 x hx; omega)
    refine hK.out _ _ ⟨d11, y11⟩ (fun hHeld => ?_)
    clear hK K
    generalize W10.drew.setCells (W1.heap.size + 1) 0 (qCells s'.ep s'.nx s'.gv (.slice a1' s'.rn c1') (.slice a2' s'.ln c2') ws').toList = W11 at q11 d11 y11 a11 B11 r11 r12 hHeld ⊢
    refine wpAnyH_ready (rs := [7]) (by kernel_rfl) (by simp) ?_
    refine AllReadyH.cons rfl (fun K hK => ?_) AllReadyH.nil
    simp only [List.getElem_toArray, List.getElem_cons_zero, List.getElem_cons_succ]
    obtain ⟨u0, u1, u2, u3⟩ := a11.cells
    have xf := a11.free
    go_simp
    have T12 := ans_turned W11 W3.heap.size an.c an.he an.no an.bd
    have d12 := d11.turned T12 (fun e => hAB e.symm)
    have y12 := y11.turned T12 hYA
    have q12 := T12.queue q11 hZA
    have a12 := a11.store an.c an.he an.no an.bd
    have B12 := T12.under B11 hAl
    have s11 := T12.row r11 (fun x hx _ => by have := x1 x hx; omega)
    have s12 := T12.row r12 (fun x hx _ => by have := x2 x hx; omega)
    unfold ansStore at d12 y12 q12 a12 B12 s11 s12
    refine hK.out _ _ ⟨d12, y12⟩ (fun hHeld => ?_)
    clear hK K T12 d12 y12
    generalize (((W11.setCell ⟨W3.heap.size, 0, none⟩ (.int .i64 an.c)).setCell ⟨W3.heap.size, 1, none⟩ (.int .i64 an.he)).setCell ⟨W3.heap.size, 2, none⟩ (.int .i64 an.no)).setCell ⟨W3.heap.size, 3, none⟩ (.int .i64 an.bd) = W12 at q12 a12 B12 s11 s12 hHeld ⊢
    refine wpAnyH_take (i := 8) (v := .bool ch) rfl (by kernel_rfl) (by kernel_rfl) (by kernel_rfl) (fun _ _ _ h => h) (Or.inl ⟨by rfl, fun _ _ => by go_simp⟩) hHeld ?_
    simp only [List.getElem_toArray, List.getElem_cons_zero, List.getElem_cons_succ, Act.put, List.setIfInBounds_toArray, List.set_cons_zero, List.set_cons_succ]
    refine wpAnyH_take (i := 9) (v := .int .i64 0) rfl (by kernel_rfl) (by kernel_rfl) (by kernel_rfl) (fun _ _ _ h => h) (Or.inl ⟨by rfl, fun _ _ => by go_simp⟩) hHeld ?_
    simp only [List.getElem_toArray, List.getElem_cons_zero, List.getElem_cons_succ, Act.put, List.setIfInBounds_toArray, List.set_cons_zero, List.set_cons_succ]
    refine wpAnyH_done (by kernel_rfl) ?_ _
    have HQ12 := veil q12
    have HA12 := veil a12
    have HO12 := veil (QOut.mk (w := w) (w' := W12) (s := s') ⟨a1', c1', a2', c2', ws', rfl, s11, s12, l1, l2, n1, n2, hW', fun x hx => Nat.le_trans hup (x1 x hx), fun x hx => Nat.le_trans hup (x2 x hx)⟩)
    have HB12 := veil B12
    clear q12 a12 s11 s12 B12 q11 d11 y11 a11 r11 r12 B11 hHeld
    go_wp2
    exact bodyPost_ret (ret_Do (unveil HQ12) (unveil HA12) rfl rfl rfl rfl) rfl ⟨s', an, ch, _, rfl, unveil HST, unveil HO12, unveil HB12⟩
end Go.Proofs.Ytlfecmkpafgcmaa

namespace Go.Proofs.Ytlfecmkpafgcmaa
open Go.RowKit

theorem Try.infoEvent : (Try.prog.info? 61).map (fun i => (i.zero, i.size, i.bytes)) = some (some (.agg #[.int .i64 0, .int .i64 0, .int .i64 0, .int .i64 0, .int .i64 0, .int .i64 0]), 6, 48) := by kernel_rfl
/-- the k-th events are the same. -/
def SameAt (A B : List Int) (k : Nat) : Prop := ∀ j, j < 6 → A.getD (6 * k + j) 0 = B.getD (6 * k + j) 0
/-- two lists begin alike with just n events. -/
structure IsCommon (A B : List Int) (la lb n : Nat) : Prop where
  lea : n ≤ la
  leb : n ≤ lb
  same : ∀ k, k < n → SameAt A B k
  stop : n = la ∨ n = lb ∨ ¬ SameAt A B n
theorem IsCommon.le {A B : List Int} {la lb n m : Nat} (h : IsCommon A B la lb n) (g : IsCommon A B la lb m) : n ≤ m := by
  rcases Nat.lt_or_ge m n with hlt | hge
  · rcases g.stop with h1 | h1 | h1
    · have := h.lea; omega
    · have := h.leb; omega
    · exact absurd (h.same m hlt) h1
  · exact hge
theorem IsCommon.unique {A B : List Int} {la lb n m : Nat} (h : IsCommon A B la lb n) (g : IsCommon A B la lb m) : n = m := Nat.le_antisymm (h.le g) (g.le h)
theorem six_ne {p0 p1 p2 p3 p4 p5 q0 q1 q2 q3 q4 q5 : Int} (hs : ¬ (p0 = q0 ∧ p1 = q1 ∧ p2 = q2 ∧ p3 = q3 ∧ p4 = q4 ∧ p5 = q5)) :
    (¬ p0 = q0) ∨ (p0 = q0 ∧ ¬ p1 = q1) ∨ (p0 = q0 ∧ p1 = q1 ∧ ¬ p2 = q2) ∨ (p0 = q0 ∧ p1 = q1 ∧ p2 = q2 ∧ ¬ p3 = q3) ∨ (p0 = q0 ∧ p1 = q1 ∧ p2 = q2 ∧ p3 = q3 ∧ ¬ p4 = q4) ∨ (p0 = q0 ∧ p1 = q1 ∧ p2 = q2 ∧ p3 = q3 ∧ p4 = q4 ∧ ¬ p5 = q5) := by
  by_cases e0 : p0 = q0
  · by_cases e1 : p1 = q1
    · by_cases e2 : p2 = q2
      · by_cases e3 : p3 = q3
        · by_cases e4 : p4 = q4
          · exact .inr (.inr (.inr (.inr (.inr ⟨e0, e1, e2, e3, e4, fun e5 => hs ⟨e0, e1, e2, e3, e4, e5⟩⟩))))
          · exact .inr (.inr (.inr (.inr (.inl ⟨e0, e1, e2, e3, e4⟩))))
        · exact .inr (.inr (.inr (.inl ⟨e0, e1, e2, e3⟩)))
      · exact .inr (.inr (.inl ⟨e0, e1, e2⟩))
    · exact .inr (.inl ⟨e0, e1⟩)
  · exact .inl e0
/-- six cells of a row. -/
theorem RowK.six {w : World} {b off n : Nat} {D : List Int} (h : RowK .i64 w (some ⟨b, off, none⟩) (6 * n) D) (k : Nat) (hk : k < n) :
    w.cell? ⟨b, off + k * 6, none⟩ = some (.int .i64 (D.getD (6 * k) 0)) ∧ w.cell? ⟨b, off + k * 6 + 1, none⟩ = some (.int .i64 (D.getD (6 * k + 1) 0)) ∧ w.cell? ⟨b, off + k * 6 + 2, none⟩ = some (.int .i64 (D.getD (6 * k + 2) 0)) ∧
    w.cell? ⟨b, off + k * 6 + 3, none⟩ = some (.int .i64 (D.getD (6 * k + 3) 0)) ∧ w.cell? ⟨b, off + k * 6 + 4, none⟩ = some (.int .i64 (D.getD (6 * k + 4) 0)) ∧ w.cell? ⟨b, off + k * 6 + 5, none⟩ = some (.int .i64 (D.getD (6 * k + 5) 0)) := by
  rw [Nat.mul_comm k 6]
  exact ⟨h.at (6 * k) (by omega), h.at (6 * k + 1) (by omega), h.at (6 * k + 2) (by omega), h.at (6 * k + 3) (by omega), h.at (6 * k + 4) (by omega), h.at (6 * k + 5) (by omega)⟩

theorem news6 (w : World) (x0 x1 x2 x3 x4 x5 : Int) (t : TypeId) : ∀ j u, ([x0, x1, x2, x3, x4, x5].map (Value.int .i64))[j]? = some u → (w.alloc (.cells #[.int .i64 x0, .int .i64 x1, .int .i64 x2, .int .i64 x3, .int .i64 x4, .int .i64 x5] t)).drew.cell? ((⟨w.heap.size, 0, none⟩ : Addr).add j) = some u := by
  intro j u hj
  rw [Addr.add_mid]
  match j, hj with
  | 0, hj => simp at hj; subst hj; simp
  | 1, hj => simp at hj; subst hj; simp
  | 2, hj => simp at hj; subst hj; simp
  | 3, hj => simp at hj; subst hj; simp
  | 4, hj => simp at hj; subst hj; simp
  | 5, hj => simp at hj; subst hj; simp
  | n + 6, hj => simp at hj
theorem getD_at6 (R : List Int) (k : Nat) (h : k < R.length) : R.getD k 0 = R[k] := by simp [List.getElem?_eq_getElem h]
theorem take_six (L : List Int) (k : Nat) (h : 6 * k + 6 ≤ L.length) : L.take (6 * (k + 1)) = L.take (6 * k) ++ [L.getD (6 * k) 0, L.getD (6 * k + 1) 0, L.getD (6 * k + 2) 0, L.getD (6 * k + 3) 0, L.getD (6 * k + 4) 0, L.getD (6 * k + 5) 0] := by
  rw [show 6 * (k + 1) = (6 * k + 5) + 1 by omega, List.take_succ_eq_append_getElem (show 6 * k + 5 < L.length by omega), List.take_succ_eq_append_getElem (show 6 * k + 4 < L.length by omega), List.take_succ_eq_append_getElem (show 6 * k + 3 < L.length by omega), List.take_succ_eq_append_getElem (show 6 * k + 2 < L.length by omega), List.take_succ_eq_append_getElem (show 6 * k + 1 < L.length by omega), List.take_succ_eq_append_getElem (show 6 * k < L.length by omega), getD_at6 L (6 * k) (by omega), getD_at6 L (6 * k + 1) (by omega), getD_at6 L (6 * k + 2) (by omega), getD_at6 L (6 * k + 3) (by omega), getD_at6 L (6 * k + 4) (by omega), getD_at6 L (6 * k + 5) (by omega), List.append_assoc, List.append_assoc, List.append_assoc, List.append_assoc, List.append_assoc]
  rfl
set_option maxRecDepth 20000 in
set_option maxHeartbeats 2000000 in
theorem eventsCopy_any (a : Option Addr) (la ca : Nat) (A : List Int) (w : World) (hA : RowK .i64 w a (6 * la) A) (hs : la * 48 ≤ 140737488351232) :
    Calls Try.prog 24 #[.slice a la ca] w fun e w' => ∃ v, e = .returned v ∧ w'.ownsRow w.heap.size 61 6 v la (A.map (Value.int .i64)) ∧ Below w.heap.size w w' := by
  obtain ⟨i2, hi2, hz20, hz21, hz22⟩ := info_of Try.infoEvent
  go_enter Try.func24, Try.ntmps24
  go_wp2
  go_loopw [3, 4] (fun v t wr => ∃ k : Nat, k ≤ la ∧ t = .int .i64 k ∧ wr.ownsRow w.heap.size 61 6 v k ((A.take (6 * k)).map (Value.int .i64)) ∧ Below w.heap.size w wr) (fun _ t _ => la - (intOf t).toNat)
  case atStart => exact ⟨0, Nat.zero_le _, rfl, World.ownsRow_nil _ _ _ _, Below.refl _ _⟩
  case round =>
    obtain ⟨k, hk, rfl, ow, bel⟩ := hrel
    obtain ⟨a1, c1, rfl⟩ := own_form ow
    by_cases hlt : k < la
    · have rA := hA.below bel
      obtain ⟨b, off, rfl⟩ := hA.form (by omega)
      obtain ⟨x0, x1, x2, x3, x4, x5⟩ := rA.six k hlt
      have hT : Hid (A.take (6 * (k + 1)) = A.take (6 * k) ++ [A.getD (6 * k) 0, A.getD (6 * k + 1) 0, A.getD (6 * k + 2) 0, A.getD (6 * k + 3) 0, A.getD (6 * k + 4) 0, A.getD (6 * k + 5) 0]) := veil (take_six A k (by have := hA.len_eq; omega))
      have hbl : b < wr.heap.size := rA.lt (by omega)
      have hbn : b ≠ wr.heap.size := by omega
      clear rA
      generalize A.getD (6 * k) 0 = p0 at x0 hT
      generalize A.getD (6 * k + 1) 0 = p1 at x1 hT
      generalize A.getD (6 * k + 2) 0 = p2 at x2 hT
      generalize A.getD (6 * k + 3) 0 = p3 at x3 hT
      generalize A.getD (6 * k + 4) 0 = p4 at x4 hT
      generalize A.getD (6 * k + 5) 0 = p5 at x5 hT
      have b5 : Below wr.heap.size wr (wr.alloc (.cells #[.int .i64 p0, .int .i64 p1, .int .i64 p2, .int .i64 p3, .int .i64 p4, .int .i64 p5] 61)) := below1 _ _
      have HO5 : Hid ((wr.alloc (.cells #[.int .i64 p0, .int .i64 p1, .int .i64 p2, .int .i64 p3, .int .i64 p4, .int .i64 p5] 61)).ownsRow w.heap.size 61 6 (.slice a1 k c1) k ((A.take (6 * k)).map (Value.int .i64))) := veil (own_still ow (fun g _ hg => b5.block g hg))
      have hws : w.heap.size ≤ wr.heap.size := bel.size
      have HG : Hid (∀ w4, (wr.alloc (.cells #[.int .i64 p0, .int .i64 p1, .int .i64 p2, .int .i64 p3, .int .i64 p4, .int .i64 p5] 61)).grownBy w4 (Value.slice a1 k c1).ownBlock → Below w.heap.size w w4) := veil fun w4 g => (bel.trans (b5.mono bel.size)).grown g (by have := b5.size; omega) (fun q hq => (ow.lt q hq).1)
      have HA := veil hA
      clear ow bel b5 hA
      go_wp2_with (at_builtin; refine wpList_append_own _ rfl _ _ 22 rfl w.heap.size 61 i2 _ 6 48 Try.underlying22 hi2 hz20 hz21 hz22 rfl (by decide) (.slice a1 k c1) k ((A.take (6 * k)).map (Value.int .i64)) rfl (unveil HO5) ⟨wr.heap.size, 0, none⟩ 1 1 ([p0, p1, p2, p3, p4, p5].map (Value.int .i64)) rfl rfl (news6 _ _ _ _ _ _ _ _) (ints_oneCell _ _) (by unfold maxLen; omega) (by omega) (by simp; omega) ?_; intro v' w4 own4 grow4 _; obtain ⟨a', cap', rfl⟩ := own_form own4; rw [← List.map_append, ← unveil hT] at own4; have HO4 := veil own4; have HB4 := veil (unveil HG w4 grow4); clear own4 grow4)
      all_goals (go_roundw <;> first | exact ⟨k + 1, by omega, by go_num, unveil HO4, unveil HB4⟩ | (simp [intOf]; omega))
    · obtain rfl : k = la := by omega
      have htk : A.take (6 * k) = A := List.take_of_length_le (by have := hA.len_eq; omega)
      rw [htk] at ow
      have HO := veil ow
      have HB := veil bel
      clear ow bel htk hA
      go_wp2
      go_ret
      exact ⟨_, rfl, unveil HO, unveil HB⟩
end Go.Proofs.Ytlfecmkpafgcmaa

namespace Go.Proofs.Ytlfecmkpafgcmaa
open Go.RowKit

theorem Try.infoAns : (Try.prog.info? 50).map (fun i => (i.zero, i.size, i.bytes)) = some (some (.agg #[.int .i64 0, .int .i64 0, .int .i64 0, .int .i64 0]), 4, 32) := by kernel_rfl
/-- a queue in which nothing is. -/
def St.zero : St := ⟨0, 0, 0, 0, [], 0, [], fun _ => 0, fun _ _ => false⟩
theorem St.zero_wf : St.zero.Wf := by
  refine ⟨⟨⟨by decide, by decide, by decide, by decide, by decide, by decide, by decide⟩, fun p _ => WinOk.none, ⟨fun i hi => absurd hi (Nat.not_lt_zero _), fun i hi => absurd hi (Nat.not_lt_zero _), rfl⟩, fun i hi => absurd hi (Nat.not_lt_zero _)⟩, rfl, rfl⟩
/-- a history: events that changed something, the queue behind them, their answers. -/
inductive Hist : List Ev → St → List An → Prop
  | nil : Hist [] St.zero []
  | snoc {es : List Ev} {s s' : St} {ans : List An} {v : Ev} {an : An} (h : Hist es s ans) (hv : DeedLike v) (st : Step s v s' an true) : Hist (es ++ [v]) s' (ans ++ [an])
theorem Step.same {s s' : St} {v : Ev} {an : An} (st : Step s v s' an false) : s' = s := by cases st <;> rfl
theorem Hist.wf {es : List Ev} {s : St} {ans : List An} (h : Hist es s ans) : s.Wf := by
  induction h with
  | nil => exact St.zero_wf
  | snoc h hv st ih => exact st.wf ih hv.ok
theorem Hist.len {es : List Ev} {s : St} {ans : List An} (h : Hist es s ans) : ans.length = es.length := by
  induction h with
  | nil => rfl
  | snoc h hv st ih => simp [ih]
theorem Step.nx_up {s s' : St} {v : Ev} {an : An} (st : Step s v s' an true) : s.nx ≤ s'.nx ∧ (v.k = 1 → s'.nx = s.nx + 1) := by
  cases st with
  | pub => exact ⟨by show s.nx ≤ s.nx + 1; omega, fun _ => rfl⟩
  | recv hk => exact ⟨Int.le_refl _, fun h => by omega⟩
  | ack hk => exact ⟨Int.le_refl _, fun h => by omega⟩
  | stop hk => exact ⟨Int.le_refl _, fun h => by omega⟩
def evCells (v : Ev) : List Int := [v.k, v.p, v.i, v.b, v.he, v.hn]
def anCells (a : An) : List Int := [a.c, a.he, a.no, a.bd]
def evFlat (es : List Ev) : List Int := es.flatMap evCells
def anFlat (ans : List An) : List Int := ans.flatMap anCells
theorem evFlat_snoc (es : List Ev) (v : Ev) : evFlat (es ++ [v]) = evFlat es ++ evCells v := by simp [evFlat]
theorem anFlat_snoc (ans : List An) (a : An) : anFlat (ans ++ [a]) = anFlat ans ++ anCells a := by simp [anFlat]
/-- a queue in memory, in a box. -/
structure Qb (w wr : World) (B : Nat) (s : St) (a1 : Option Addr) (c1 : Nat) (a2 : Option Addr) (c2 : Nat) (ws : Nat → Value) : Prop where
  q : qBlock wr B s.ep s.nx s.gv (.slice a1 s.rn c1) (.slice a2 s.ln c2) ws
  r1 : RowK .i64 wr a1 (2 * s.rn) s.R
  r2 : RowK .i64 wr a2 (4 * s.ln) s.L
  l1 : s.rn ≤ c1
  l2 : s.ln ≤ c2
  n1 : a1 = none → c1 = 0
  n2 : a2 = none → c2 = 0
  wins : Wins ws s.wt s.wz
  f1 : ∀ x, a1 = some x → w.heap.size < x.block
  f2 : ∀ x, a2 = some x → w.heap.size < x.block
theorem Qb.next {w wr wx : World} {B : Nat} {s : St} {a1 : Option Addr} {c1 : Nat} {a2 : Option Addr} {c2 : Nat} {ws : Nat → Value} (h : Qb w wr B s a1 c1 a2 c2 ws) (b : Below wr.heap.size wr wx) : Qb w wx B s a1 c1 a2 c2 ws :=
  ⟨h.q.next b, h.r1.below b, h.r2.below b, h.l1, h.l2, h.n1, h.n2, h.wins, h.f1, h.f2⟩
/-- played on its way. -/
structure Pl (w wr : World) (Z B : Nat) (s : St) (a1 : Option Addr) (c1 : Nat) (a2 : Option Addr) (c2 : Nat) (ws : Nat → Value) (ve va : Value) (es : List Ev) (ans : List An) : Prop where
  z : qBlock wr Z 0 0 0 (.slice none 0 0) (.slice none 0 0) zeroW
  q : Qb w wr B s a1 c1 a2 c2 ws
  oe : wr.ownsRow (B + 1) 61 6 ve es.length ((evFlat es).map (Value.int .i64))
  oa : wr.ownsRow (B + 1) 50 4 va ans.length ((anFlat ans).map (Value.int .i64))
  bel : Below w.heap.size w wr
  upZ : w.heap.size ≤ Z
  upB : Z < B
section
variable {w wr wx : World} {Z B : Nat} {s : St} {a1 a2 : Option Addr} {c1 c2 : Nat} {ws : Nat → Value} {ve va : Value} {es : List Ev} {ans : List An}
theorem Pl.next (h : Pl w wr Z B s a1 c1 a2 c2 ws ve va es ans) (b : Below wr.heap.size wr wx) : Pl w wx Z B s a1 c1 a2 c2 ws ve va es ans :=
  ⟨h.z.next b, h.q.next b, own_still h.oe (fun g _ hg => b.block g hg), own_still h.oa (fun g _ hg => b.block g hg), Below.next h.bel b, h.upZ, h.upB⟩
end
/-- all but a block is as it was, as far as n. -/
structure Off (B n : Nat) (wa wb : World) : Prop where
  os : wb.os = wa.os
  tape : wb.tape = wa.tape
  output : wb.output = wa.output
  size : wa.heap.size ≤ wb.heap.size
  block : ∀ X, X < n → X ≠ B → wb.heap[X]? = wa.heap[X]?
theorem Off.below {B n : Nat} {wa wb : World} (b : Below n wa wb) : Off B n wa wb := ⟨b.os, b.tape, b.output, b.size, fun X hX _ => b.block X hX⟩
theorem Off.turn {B n Y : Nat} {wa wb wc : World} (h : Off B n wa wb) (t : Turned Y wb wc) (hY : n ≤ Y) : Off B n wa wc :=
  ⟨t.os.trans h.os, t.tape.trans h.tape, t.output.trans h.output, by rw [t.size]; exact h.size, fun X hX hB => (t.block X (by omega)).trans (h.block X hX hB)⟩
theorem Off.self {B n : Nat} {wa wb wc : World} (h : Off B n wa wb) (t : Turned B wb wc) : Off B n wa wc :=
  ⟨t.os.trans h.os, t.tape.trans h.tape, t.output.trans h.output, by rw [t.size]; exact h.size, fun X hX hB => (t.block X hB).trans (h.block X hX hB)⟩
theorem Off.row {B n : Nat} {wa wb : World} {k : IntKind} {a : Option Addr} {len : Nat} {l : List Int} (h : Off B n wa wb) (hr : RowK k wa a len l) (hn : n = wa.heap.size) (hB : ∀ x, a = some x → x.block ≠ B) : RowK k wb a len l :=
  ⟨hr.len_eq, hr.wf, fun i hi => by
    obtain ⟨b, off, ha, hlt, hc⟩ := hr.cell i hi
    exact ⟨b, off, ha, Nat.lt_of_lt_of_le hlt h.size, (World.cell?_of_block (h.block b (by omega) (hB _ ha))).trans hc⟩⟩
theorem Off.own {B n base e size m : Nat} {wa wb : World} {v : Value} {xs : List Value} (h : Off B n wa wb) (o : wa.ownsRow base e size v m xs) (hn : n = wa.heap.size) (hB : B < base) : wb.ownsRow base e size v m xs :=
  own_still o (fun g hg hl => h.block g (by omega) (by have := (o.lt g hg).1; omega))
theorem Pl.stored {w wa wb : World} {Z B : Nat} {s s' : St} {a1 a2 a1' a2' : Option Addr} {c1 c2 c1' c2' : Nat} {ws ws' : Nat → Value} {ve va : Value} {es : List Ev} {ans : List An}
    (h : Pl w wa Z B s a1 c1 a2 c2 ws ve va es ans) (o : Off B wa.heap.size wa wb) (q : qBlock wb B s'.ep s'.nx s'.gv (.slice a1' s'.rn c1') (.slice a2' s'.ln c2') ws') (r1 : RowK .i64 wa a1' (2 * s'.rn) s'.R) (r2 : RowK .i64 wa a2' (4 * s'.ln) s'.L)
    (l1 : s'.rn ≤ c1') (l2 : s'.ln ≤ c2') (n1 : a1' = none → c1' = 0) (n2 : a2' = none → c2' = 0) (hW : Wins ws' s'.wt s'.wz) (f1 : ∀ x, a1' = some x → B < x.block) (f2 : ∀ x, a2' = some x → B < x.block) : Pl w wb Z B s' a1' c1' a2' c2' ws' ve va es ans := by
  have hz := h.z.lt
  have hu := h.upZ
  have hb := h.upB
  refine ⟨?_, ⟨q, o.row r1 rfl (fun x hx => by have := f1 x hx; omega), o.row r2 rfl (fun x hx => by have := f2 x hx; omega), l1, l2, n1, n2, hW, fun x hx => by have := f1 x hx; omega, fun x hx => by have := f2 x hx; omega⟩, o.own h.oe rfl (by omega), o.own h.oa rfl (by omega), ?_, hu, hb⟩
  · have := h.z
    unfold qBlock at this ⊢
    rw [o.block Z hz (by omega)]
    exact this
  · exact ⟨o.os.trans h.bel.os, o.tape.trans h.bel.tape, o.output.trans h.bel.output, Nat.le_trans h.bel.size o.size, fun X hX => (o.block X (by have := h.bel.size; omega) (by omega)).trans (h.bel.block X hX)⟩
section
variable {w wa W wb : World} {Z B : Nat} {s : St} {a1 a2 a3 : Option Addr} {c1 c2 c3 : Nat} {ws : Nat → Value} {ve va : Value} {es : List Ev} {ans : List An}
theorem Pl.base (h : Pl w wa Z B s a1 c1 a2 c2 ws ve va es ans) (b : Below wa.heap.size wa W) {row : Option Nat} (gr : W.grownBy wb row) (hZ : row ≠ some Z) (hB : row ≠ some B) (h1 : ∀ x, a1 = some x → row ≠ some x.block) (h2 : ∀ x, a2 = some x → row ≠ some x.block) (hl : ∀ t, row = some t → B + 1 ≤ t) :
    qBlock wb Z 0 0 0 (.slice none 0 0) (.slice none 0 0) zeroW ∧ Qb w wb B s a1 c1 a2 c2 ws ∧ Below w.heap.size w wb := by
  have keep : ∀ X, X < wa.heap.size → row ≠ some X → wb.heap[X]? = wa.heap[X]? := fun X hX hne => by
    rw [gr.block X (by have := b.size; omega) (fun e => hne e.symm), b.block X hX]
  have row' : ∀ {a : Option Addr} {len : Nat} {l : List Int}, RowK .i64 wa a len l → (∀ x, a = some x → row ≠ some x.block) → RowK .i64 wb a len l := fun hr ha =>
    ⟨hr.len_eq, hr.wf, fun i hi => by
      obtain ⟨g, off, he, hlt, hc⟩ := hr.cell i hi
      exact ⟨g, off, he, by have := b.size; have := gr.size; omega, (World.cell?_of_block (keep g hlt (ha _ he))).trans hc⟩⟩
  have hu := h.upZ
  have hv := h.upB
  refine ⟨?_, ⟨?_, row' h.q.r1 h1, row' h.q.r2 h2, h.q.l1, h.q.l2, h.q.n1, h.q.n2, h.q.wins, h.q.f1, h.q.f2⟩, ?_⟩
  · have := h.z
    unfold qBlock at this ⊢
    rw [keep Z h.z.lt hZ]; exact this
  · have := h.q.q
    unfold qBlock at this ⊢
    rw [keep B h.q.q.lt hB]; exact this
  · exact (h.bel.trans (b.mono h.bel.size)).grown gr (by have := b.size; have := h.bel.size; omega) (fun q hq => by have := hl q hq; omega)
theorem Pl.event (h : Pl w wa Z B s a1 c1 a2 c2 ws ve va es ans) (b : Below wa.heap.size wa W) (gr : W.grownBy wb ve.ownBlock) (h1 : ∀ x, a1 = some x → ve.ownBlock ≠ some x.block) (h2 : ∀ x, a2 = some x → ve.ownBlock ≠ some x.block) (v : Ev)
    (own : wb.ownsRow (B + 1) 61 6 (.slice a3 (es.length + 1) c3) (es.length + 1) ((evFlat es).map (Value.int .i64) ++ (evCells v).map (Value.int .i64))) : Pl w wb Z B s a1 c1 a2 c2 ws (.slice a3 (es.length + 1) c3) va (es ++ [v]) ans := by
  have oZ := own_off h.oe h.z (by decide)
  have oB := own_off h.oe h.q.q (by decide)
  obtain ⟨z, q, bel⟩ := h.base b gr (fun e => oZ Z e rfl) (fun e => oB B e rfl) h1 h2 (fun t ht => (h.oe.lt t ht).1)
  refine ⟨z, q, ?_, own_grown (own_still h.oa (fun g _ hg => b.block g hg)) gr (fun g h1 h2 => own_apart h.oa h.oe (by decide) g h1 h2), bel, h.upZ, h.upB⟩
  rw [evFlat_snoc, List.map_append, List.length_append]
  exact own
theorem Pl.answer (h : Pl w wa Z B s a1 c1 a2 c2 ws ve va es ans) (b : Below wa.heap.size wa W) (gr : W.grownBy wb va.ownBlock) (h1 : ∀ x, a1 = some x → va.ownBlock ≠ some x.block) (h2 : ∀ x, a2 = some x → va.ownBlock ≠ some x.block) (v : An)
    (own : wb.ownsRow (B + 1) 50 4 (.slice a3 (ans.length + 1) c3) (ans.length + 1) ((anFlat ans).map (Value.int .i64) ++ (anCells v).map (Value.int .i64))) : Pl w wb Z B s a1 c1 a2 c2 ws ve (.slice a3 (ans.length + 1) c3) es (ans ++ [v]) := by
  have oZ := own_off h.oa h.z (by decide)
  have oB := own_off h.oa h.q.q (by decide)
  obtain ⟨z, q, bel⟩ := h.base b gr (fun e => oZ Z e rfl) (fun e => oB B e rfl) h1 h2 (fun t ht => (h.oa.lt t ht).1)
  refine ⟨z, q, own_grown (own_still h.oe (fun g _ hg => b.block g hg)) gr (fun g h1 h2 => own_apart h.oe h.oa (by decide) g h1 h2), ?_, bel, h.upZ, h.upB⟩
  rw [anFlat_snoc, List.map_append, List.length_append]
  exact own
end
/-- the first event that is published changes something. -/
theorem zero_pub {v : Ev} {s' : St} {an : An} (hv : v.Ok) (hk : v.k = 1) (st : Step St.zero v s' an false) : False := by
  have hb : 0 ≤ v.i := by rcases Ev.cases hv with h | h | h | h <;> omega
  cases st with
  | pubLow _ h => simp [St.zero] at h; omega
  | pubOld _ h => rw [show inWin (St.zero.wt v.p.toNat) (St.zero.wz v.p.toNat) v.i = inWin 0 noneS v.i from rfl, inWin_none] at h; cases h
  | pubFull _ _ _ h => simp [St.zero] at h
  | recEmpty h => omega
  | recFull h => omega
  | ackStale h => omega
  | ackNone h => omega
  | endFull h => omega
theorem hist_nil {es : List Ev} {s : St} {ans : List An} (h : Hist es s ans) (he : es = []) : s = St.zero := by
  cases h with
  | nil => rfl
  | snoc _ _ _ => simp at he
theorem deedEv_pub (k a b c : Int) (h : pickedOf k 8 ≤ 2) : (deedEv k a b c).k = 1 := by
  unfold deedEv
  rw [if_pos (by omega)]
theorem ret_played {W : World} {Z : Nat} {ep nx gv : Int} {r l ve va : Value} {ws : Nat → Value} {ch : Bool} {tmps : Array Value} (q : qBlock W Z ep nx gv r l ws) (t4 : tmps[4]? = some (.pointer (some ⟨Z, 0, none⟩))) (t5 : tmps[5]? = some ve) (t6 : tmps[6]? = some va) (t7 : tmps[7]? = some (.bool ch)) :
    (results Try.f10 tmps).run Try.prog W = .ok (.tuple #[qVal ep nx gv r l ws, ve, va, .bool ch]) W := by
  have h1 := run_loadVar_row (P := Try.prog) W Z 38 38 _ (0, 0) _ q Try.underlying38 rfl (by rw [qCells_size]; exact Try.infoQ)
  simp [results, Try.results10, t4, t5, t6, t7, asAddr, h1]
set_option maxRecDepth 20000 in
set_option maxHeartbeats 4000000 in
theorem played_any (a : Option Addr) (len cap most : Nat) (D : List Int) (w : World) (h : RowK .i64 w a (4 * len) D) (hm : most ≤ 60) :
    Calls Try.prog 10 #[.slice a len cap, .int .i64 most] w fun e w' => ∃ (s : St) (es : List Ev) (ans : List An) (x ve va : Value), e = .returned (.tuple #[x, ve, va, .bool true]) ∧ Hist es s ans ∧ es.length ≤ most ∧ es.length ≤ len ∧ (0 < len → 0 < most → pickedOf (D.getD 0 0) 8 ≤ 2 → es ≠ [] ∧ 0 < s.nx) ∧ QOut w w' s x ∧ w'.ownsRow w.heap.size 61 6 ve es.length ((evFlat es).map (Value.int .i64)) ∧ w'.ownsRow w.heap.size 50 4 va ans.length ((anFlat ans).map (Value.int .i64)) ∧ Below w.heap.size w w' := by
  obtain ⟨i6, hi6, hz60, hz61, hz62⟩ := info_of Try.infoEvent
  obtain ⟨i4, hi4, hz40, hz41, hz42⟩ := info_of Try.infoAns
  go_enter Try.func10, Try.ntmps10
  go_wp2_with (first
    | (refine q_alloc 4 rfl rfl rfl ?_; intro W1 z1 b1)
    | (refine q_alloc 8 rfl rfl rfl ?_; intro W2 z2 b2; have z1' := z1.next b2))
  have s1 : w.heap.size < W1.heap.size := z1.lt
  have P0 : Pl w W2 w.heap.size W1.heap.size St.zero none 0 none 0 zeroW (.slice none 0 0) (.slice none 0 0) [] [] :=
    ⟨z1', ⟨z2, RowK.nil _ _ _, RowK.nil _ _ _, Nat.le_refl _, Nat.le_refl _, fun _ => rfl, fun _ => rfl, zeroWins, (fun x hx => by cases hx), (fun x hx => by cases hx)⟩, World.ownsRow_nil _ _ _ _, World.ownsRow_nil _ _ _ _, Below.next b1 b2, Nat.le_refl _, s1⟩
  obtain ⟨B, hB⟩ : ∃ B, B = W1.heap.size := ⟨_, rfl⟩
  rw [← hB] at P0 s1 ⊢
  clear hB z1 z2 z1' b1 b2
  go_loopw [9, 10, 11] (fun ve va t wr => ∃ (m : Nat) (s : St) (a1 : Option Addr) (c1 : Nat) (a2 : Option Addr) (c2 : Nat) (ws : Nat → Value) (es : List Ev) (ans : List An), m ≤ len ∧ m ≤ most ∧ t = .int .i64 m ∧ Pl w wr w.heap.size B s a1 c1 a2 c2 ws ve va es ans ∧ Hid (Hist es s ans ∧ es.length ≤ m ∧ (0 < m → pickedOf (D.getD 0 0) 8 ≤ 2 → es ≠ [] ∧ 0 < s.nx))) (fun _ _ t _ => len - (intOf t).toNat)
  case atStart => exact ⟨0, St.zero, none, 0, none, 0, zeroW, [], [], by omega, by omega, rfl, P0, veil ⟨.nil, Nat.le_refl _, fun h => absurd h (Nat.lt_irrefl _)⟩⟩
  case round =>
    obtain ⟨m, s, a1, c1, a2, c2, ws, es, ans, hml, hmm, rfl, P, HH⟩ := hrel
    clear P0
    obtain ⟨ae, ce, rfl⟩ := own_form P.oe
    obtain ⟨aa, ca, rfl⟩ := own_form P.oa
    by_cases hl : m < len ∧ m < most
    case neg =>
      have P' := P
      have q0 := P.q.q
      have z0 := P.z
      have hu := P.upB
      have HP := veil P
      have hmx : m = len ∨ m = most := by omega
      have hwf := (unveil HH).1.wf
      have HC : Hid (∀ W, Below wr.heap.size wr W → Calls Try.prog 28 #[qVal s.ep s.nx s.gv (.slice a1 s.rn c1) (.slice a2 s.ln c2) ws] W fun e w' => e = .returned (.int .i64 0) ∧ Below W.heap.size W w') := veil fun W hb => qcheck_yes _ _ _ _ _ _ _ _ _ s.R s.L _ s.wt s.wz W (P'.q.r1.below hb) (P'.q.r2.below hb) P'.q.wins hwf.ok
      clear P P' h hwf
      have hW0 := (unveil HP).q.wins
      have hcase : ¬ ((m : Int) < (len : Int)) ∨ ((m : Int) < (len : Int) ∧ ¬ ((m : Int) < (most : Int))) := by omega
      rcases hcase with hc1 | ⟨hc1, hc2⟩
      all_goals
        go_wp2_with fail
        refine wp_region_held_drew (S := fun w' => qBlock w' B s.ep s.nx s.gv (.slice a1 s.rn c1) (.slice a2 s.ln c2) ws) (by kernel_rfl) q0 (fun hHeld => ?_)
        refine wpAnyH_take (i := 0) (v := _) rfl (by kernel_rfl) (by kernel_rfl) (by kernel_rfl) (fun _ _ _ h => h) (yields_q _ rfl rfl rfl (fun _ h => h)) hHeld ?_
        simp only [List.getElem_toArray, List.getElem_cons_zero, Act.put, List.setIfInBounds_toArray, List.set_cons_zero, List.set_cons_succ]
        refine wpAnyH_take (i := 1) (v := .slice ae es.length ce) rfl (by kernel_rfl) (by kernel_rfl) (by kernel_rfl) (fun _ _ _ h => h) (Or.inl ⟨by rfl, fun _ _ => by go_simp⟩) hHeld ?_
        simp only [List.getElem_toArray, List.getElem_cons_zero, List.getElem_cons_succ, Act.put, List.setIfInBounds_toArray, List.set_cons_zero, List.set_cons_succ]
        refine wpAnyH_take (i := 2) (v := .slice aa ans.length ca) rfl (by kernel_rfl) (by kernel_rfl) (by kernel_rfl) (fun _ _ _ h => h) (Or.inl ⟨by rfl, fun _ _ => by go_simp⟩) hHeld ?_
        simp only [List.getElem_toArray, List.getElem_cons_zero, List.getElem_cons_succ, Act.put, List.setIfInBounds_toArray, List.set_cons_zero, List.set_cons_succ]
        refine wpAnyH_take (i := 3) (v := _) rfl (by kernel_rfl) (by kernel_rfl) (by kernel_rfl) (fun _ _ _ h => h) (yields_q _ rfl rfl rfl (fun _ h => h)) hHeld ?_
        simp only [List.getElem_toArray, List.getElem_cons_zero, List.getElem_cons_succ, Act.put, List.setIfInBounds_toArray, List.set_cons_zero, List.set_cons_succ]
        refine wpAnyH_ready (rs := [4]) (by kernel_rfl) (by simp) ?_
        refine AllReadyH.cons rfl (fun K hK => ?_) AllReadyH.nil
        simp only [List.getElem_toArray, List.getElem_cons_zero, List.getElem_cons_succ]
        go_simp
        refine (unveil HC wr.drew (below_drew wr)).mono ?_
        rintro e W3 ⟨rfl, b3⟩
        have P3 := (unveil HP).next (Below.next (below_drew wr) b3)
        refine hK.out _ _ P3.q.q (fun hHeld => ?_)
        clear hK K
        refine wpAnyH_take (i := 5) (v := .bool true) rfl (by kernel_rfl) (by kernel_rfl) (by kernel_rfl) (fun _ _ _ h => h) (Or.inl ⟨by rfl, fun _ _ => by go_simp⟩) hHeld ?_
        simp only [List.getElem_toArray, List.getElem_cons_zero, List.getElem_cons_succ, Act.put, List.setIfInBounds_toArray, List.set_cons_zero, List.set_cons_succ]
        refine wpAnyH_ready (rs := [6]) (by kernel_rfl) (by simp) ?_
        refine AllReadyH.cons rfl (fun K hK => ?_) AllReadyH.nil
        simp only [List.getElem_toArray, List.getElem_cons_zero, List.getElem_cons_succ]
        refine ite_wanted rfl ?_
        refine wp_store_mid 38 (.tmp 4) (.tmp 56) rfl w.heap.size 0 _ rfl rfl (by rw [qCells_size]; exact P3.z.there) (by rw [qCells_size]; exact Try.infoQ) (qCells_one hW0) ?_
        have q4 := P3.z.stored s.ep s.nx s.gv (.slice a1 s.rn c1) (.slice a2 s.ln c2) ws
        have T4 := Turned.sets w.heap.size (qCells s.ep s.nx s.gv (.slice a1 s.rn c1) (.slice a2 s.ln c2) ws).toList 0 W3
        have qB4 := T4.queue P3.q.q (by omega)
        refine hK.out _ _ qB4 (fun hHeld => ?_)
        clear hK K
        generalize W3.setCells w.heap.size 0 (qCells s.ep s.nx s.gv (.slice a1 s.rn c1) (.slice a2 s.ln c2) ws).toList = W4 at q4 T4 qB4 hHeld ⊢
        refine wpAnyH_take (i := 7) (v := .slice ae es.length ce) rfl (by kernel_rfl) (by kernel_rfl) (by kernel_rfl) (fun _ _ _ h => h) (Or.inl ⟨by rfl, fun _ _ => by go_simp⟩) hHeld ?_
        simp only [List.getElem_toArray, List.getElem_cons_zero, List.getElem_cons_succ, Act.put, List.setIfInBounds_toArray, List.set_cons_zero, List.set_cons_succ]
        refine wpAnyH_take (i := 8) (v := .slice aa ans.length ca) rfl (by kernel_rfl) (by kernel_rfl) (by kernel_rfl) (fun _ _ _ h => h) (Or.inl ⟨by rfl, fun _ _ => by go_simp⟩) hHeld ?_
        simp only [List.getElem_toArray, List.getElem_cons_zero, List.getElem_cons_succ, Act.put, List.setIfInBounds_toArray, List.set_cons_zero, List.set_cons_succ]
        refine wpAnyH_take (i := 9) (v := .bool true) rfl (by kernel_rfl) (by kernel_rfl) (by kernel_rfl) (fun _ _ _ h => h) (Or.inl ⟨by rfl, fun _ _ => by go_simp⟩) hHeld ?_
        simp only [List.getElem_toArray, List.getElem_cons_zero, List.getElem_cons_succ, Act.put, List.setIfInBounds_toArray, List.set_cons_zero, List.set_cons_succ]
        refine wpAnyH_done (by kernel_rfl) ?_ _
        have HQ4 := veil q4
        have HT4 := veil T4
        have HP3 := veil P3
        clear q4 T4 qB4 P3 hHeld q0 z0
        go_wp2
        have X3 := unveil HP3
        have X4 := unveil HT4
        have hlm := (unveil HH).2.1
        refine bodyPost_ret (ret_played (unveil HQ4) rfl rfl rfl rfl) rfl ⟨s, es, ans, _, _, _, rfl, (unveil HH).1, by omega, by omega, fun h1 h2 h3 => (unveil HH).2.2 (by omega) h3, ⟨⟨a1, c1, a2, c2, ws, rfl, X4.row X3.q.r1 (fun x hx _ => by have := X3.q.f1 x hx; omega), X4.row X3.q.r2 (fun x hx _ => by have := X3.q.f2 x hx; omega), X3.q.l1, X3.q.l2, X3.q.n1, X3.q.n2, hW0, fun x hx => Nat.le_of_lt (X3.q.f1 x hx), fun x hx => Nat.le_of_lt (X3.q.f2 x hx)⟩⟩, own_lower (X4.own X3.oe (by omega)) (by omega), own_lower (X4.own X3.oa (by omega)) (by omega), X4.under X3.bel (Nat.le_refl _)⟩
    case pos =>
    obtain ⟨h1, h2⟩ := hl
    have hr := h.below P.bel
    obtain ⟨g, off, rfl⟩ := h.form (by omega)
    obtain ⟨x0, hx0⟩ : ∃ x, x = D.getD (4 * m) 0 := ⟨_, rfl⟩
    obtain ⟨x1, hx1⟩ : ∃ x, x = D.getD (4 * m + 1) 0 := ⟨_, rfl⟩
    obtain ⟨x2, hx2⟩ : ∃ x, x = D.getD (4 * m + 2) 0 := ⟨_, rfl⟩
    obtain ⟨x3, hx3⟩ : ∃ x, x = D.getD (4 * m + 3) 0 := ⟨_, rfl⟩
    have k0 : wr.cell? ⟨g, off + m * 4, none⟩ = some (.int .i64 x0) := by rw [Nat.mul_comm m 4, hx0]; exact hr.at (4 * m) (by omega)
    have k1 : wr.cell? ⟨g, off + m * 4 + 1, none⟩ = some (.int .i64 x1) := by rw [Nat.mul_comm m 4, hx1]; exact hr.at (4 * m + 1) (by omega)
    have k2 : wr.cell? ⟨g, off + m * 4 + 2, none⟩ = some (.int .i64 x2) := by rw [Nat.mul_comm m 4, hx2]; exact hr.at (4 * m + 2) (by omega)
    have k3 : wr.cell? ⟨g, off + m * 4 + 3, none⟩ = some (.int .i64 x3) := by rw [Nat.mul_comm m 4, hx3]; exact hr.at (4 * m + 3) (by omega)
    have w0 : (Lit.int .i64 x0).wf = true := by rw [hx0]; exact getD_fits D h.wf _
    have w1 : (Lit.int .i64 x1).wf = true := by rw [hx1]; exact getD_fits D h.wf _
    have w2 : (Lit.int .i64 x2).wf = true := by rw [hx2]; exact getD_fits D h.wf _
    have w3 : (Lit.int .i64 x3).wf = true := by rw [hx3]; exact getD_fits D h.wf _
    obtain ⟨v, hv⟩ : ∃ v, v = deedEv x0 x1 x2 x3 := ⟨_, rfl⟩
    have HV : Hid (DeedLike v ∧ (m = 0 → pickedOf (D.getD 0 0) 8 ≤ 2 → v.k = 1)) := veil ⟨by rw [hv]; exact deedEv_like _ _ _ _, fun h0 hp => by subst h0; rw [hv]; exact deedEv_pub _ _ _ _ (by rw [hx0]; exact hp)⟩
    have hE : ∀ w, Calls Try.prog 26 #[.agg #[.int .i64 x0, .int .i64 x1, .int .i64 x2, .int .i64 x3]] w fun e w' => e = .returned (evIn v) ∧ Below w.heap.size w w' := fun w => by rw [hv]; exact event_ev x0 x1 x2 x3 w w0 w1 w2 w3
    have HP := veil P
    have H := veil h
    clear P h hr hv w0 w1 w2 w3 hx0 hx1 hx2 hx3
    go_wp2_with (first
      | (go_at_call 26; refine (hE _).mono ?_; rintro e W3 ⟨rfl, b3⟩; have P3 := (unveil HP).next b3; have P4 := P3.next (below1 W3 (.cells #[.int .i64 v.k, .int .i64 v.p, .int .i64 v.i, .int .i64 v.b, .int .i64 v.he, .int .i64 v.hn] 61)); have q4 := P4.q.q; have hBE := P3.q.q.lt; have e4 := heap_alloc_new W3 (.cells #[.int .i64 v.k, .int .i64 v.p, .int .i64 v.i, .int .i64 v.b, .int .i64 v.he, .int .i64 v.hn] 61); have HE4 := veil e4; have HP4 := veil P4; clear P3 P4 b3 HP e4 k0 k1 k2 k3)
      | (refine q_loads _ rfl rfl rfl (by assumption) ?_))
    have hwf := (unveil HH).1.wf
    have hev := (unveil HV).1.ok
    refine (do_step s a1 a2 c1 c2 ws v _ (unveil HP4).q.r1 (unveil HP4).q.r2 (unveil HP4).q.n1 (unveil HP4).q.n2 (unveil HP4).q.wins hwf.ok hev).mono ?_
    rintro e W5 ⟨s', an, ch, x, rfl, st, ⟨⟨a1', c1', a2', c2', ws', rfl, r1, r2, l1, l2, n1, n2, hW', f1, f2⟩⟩, b5⟩
    have P5 := (unveil HP4).next b5
    have e5 : W5.heap[W3.heap.size]? = _ := (b5.block W3.heap.size (by simp)).trans (unveil HE4)
    have hoe : ∀ g, (Value.slice ae es.length ce).ownBlock = some g → g < W3.heap.size + 1 := fun g hg => by have := ((unveil HP4).oe.lt g hg).2; simpa using this
    have hoa : ∀ g, (Value.slice aa ans.length ca).ownBlock = some g → g < W3.heap.size + 1 := fun g hg => by have := ((unveil HP4).oa.lt g hg).2; simpa using this
    have hf1 : ∀ x, a1' = some x → W3.heap.size + 1 ≤ x.block := fun x hx => by have := f1 x hx; simpa using this
    have hf2 : ∀ x, a2' = some x → W3.heap.size + 1 ≤ x.block := fun x hx => by have := f2 x hx; simpa using this
    have HST := veil st
    have HP5 := veil P5
    have HE5 := veil e5
    have hE5 := block_lt e5
    have qB5 := P5.q.q
    clear b5 q4 HP4 HE4 P5 e5 st f1 f2 hwf hev
    cases ch with
    | false =>
      go_wp2_with (first
        | (refine q_alloc 13 rfl rfl rfl ?_; intro W6 z6 b6; have z6' := z6.next (below1 W6 (.cells #[.int .i64 0, .int .i64 0, .int .i64 0, .int .i64 0] 50)); have y6 := ansBlock.new W6 0 0 0 0; have O6 : Off B W5.heap.size W5 (W6.alloc (.cells #[.int .i64 0, .int .i64 0, .int .i64 0, .int .i64 0] 50)) := Off.below (b6.trans ((below1 W6 _).mono b6.size)); have hN6 : W5.heap.size < W6.heap.size := z6.lt; have qB6 := (qB5.next b6).next (below1 W6 (.cells #[.int .i64 0, .int .i64 0, .int .i64 0, .int .i64 0] 50)); clear z6 b6 qB5)
        | (refine q_store (ra := a1') (la := a2') (ws' := ws') _ _ rfl rfl rfl rfl z6' hW' ?_; intro W7 q7 t7; have y7 := y6.turned t7 (by omega); have qB7 := t7.queue qB6 (by omega); have O7 := O6.turn t7 (Nat.le_refl _); obtain ⟨y0, y1, y2, y3⟩ := y7.cells; have yf := y7.free; have q8 := (ans_turned W7 W6.heap.size an.c an.he an.no an.bd).queue q7 (by omega); have qB8 := (ans_turned W7 W6.heap.size an.c an.he an.no an.bd).queue qB7 (by omega); have O8 := O7.turn (ans_turned W7 W6.heap.size an.c an.he an.no an.bd) (by omega); have y8 := y7.store an.c an.he an.no an.bd; clear z6' y6 qB6 t7 q7 qB7 y7 O6 O7)
        | (refine q_loads _ rfl rfl rfl q8 ?_)
        | (refine q_store (ra := a1') (la := a2') (ws' := ws') _ _ rfl rfl rfl rfl qB8 hW' ?_; intro W9 q9 t9; have O9 := O8.self t9; have y9 := y8.turned t9 (by omega); have HQ9 := veil q9; have HO9 := veil O9; have HY9 := veil y9; clear q9 t9 O9 y9 O8 y8 q8 qB8))
      have P9 := (unveil HP5).stored (unveil HO9) (unveil HQ9) r1 r2 l1 l2 n1 n2 hW' (fun x hx => by have := hf1 x hx; omega) (fun x hx => by have := hf2 x hx; omega)
      have hst := unveil HST
      have hss := hst.same
      subst hss
      refine ⟨⟨m + 1, _, _, _, _, _, _, es, ans, by omega, by omega, by go_num, P9, veil ⟨(unveil HH).1, by have := (unveil HH).2.1; omega, fun _ hp => ?_⟩⟩, by simp [intOf]; omega⟩
      rcases Nat.eq_zero_or_pos m with h0 | h0
      · have he : es = [] := List.eq_nil_of_length_eq_zero (by have := (unveil HH).2.1; omega)
        have hz := hist_nil (unveil HH).1 he
        subst hz
        exact absurd hst (fun hst => zero_pub (unveil HV).1.ok ((unveil HV).2 h0 hp) hst)
      · exact (unveil HH).2.2 h0 hp
    | true =>
      have hel : es.length ≤ 60 := by have := (unveil HH).2.1; omega
      have hal : ans.length ≤ 60 := by have := (unveil HH).1.len; omega
      go_wp2_with (first
        | (refine q_alloc 13 rfl rfl rfl ?_; intro W6 z6 b6; have z6' := z6.next (below1 W6 (.cells #[.int .i64 0, .int .i64 0, .int .i64 0, .int .i64 0] 50)); have y6 := ansBlock.new W6 0 0 0 0; have O6 : Off B W5.heap.size W5 (W6.alloc (.cells #[.int .i64 0, .int .i64 0, .int .i64 0, .int .i64 0] 50)) := Off.below (b6.trans ((below1 W6 _).mono b6.size)); have hN6 : W5.heap.size < W6.heap.size := z6.lt; have qB6 := (qB5.next b6).next (below1 W6 (.cells #[.int .i64 0, .int .i64 0, .int .i64 0, .int .i64 0] 50)); clear z6 b6 qB5)
        | (refine q_store (ra := a1') (la := a2') (ws' := ws') _ _ rfl rfl rfl rfl z6' hW' ?_; intro W7 q7 t7; have y7 := y6.turned t7 (by omega); have qB7 := t7.queue qB6 (by omega); have O7 := O6.turn t7 (Nat.le_refl _); obtain ⟨y0, y1, y2, y3⟩ := y7.cells; have yf := y7.free; have q8 := (ans_turned W7 W6.heap.size an.c an.he an.no an.bd).queue q7 (by omega); have qB8 := (ans_turned W7 W6.heap.size an.c an.he an.no an.bd).queue qB7 (by omega); have O8 := O7.turn (ans_turned W7 W6.heap.size an.c an.he an.no an.bd) (by omega); have y8 := y7.store an.c an.he an.no an.bd; clear z6' y6 qB6 t7 q7 qB7 y7 O6 O7)
        | (refine q_loads _ rfl rfl rfl q8 ?_)
        | (refine q_store (ra := a1') (la := a2') (ws' := ws') _ _ rfl rfl rfl rfl qB8 hW' ?_; intro W9 q9 t9; have O9 := O8.self t9; have y9 := y8.turned t9 (by omega); have HQ9 := veil q9; have HO9 := veil O9; have HY9 := veil y9; have P9 := (unveil HP5).stored O9 q9 r1 r2 l1 l2 n1 n2 hW' (fun x hx => by have := hf1 x hx; omega) (fun x hx => by have := hf2 x hx; omega); have HOe := veil (own_still P9.oe (fun g _ hg => (below1 W9 (.cells #[.int .i64 v.k, .int .i64 v.p, .int .i64 v.i, .int .i64 v.b, .int .i64 v.he, .int .i64 v.hn] 61)).block g hg)); have hB9 := q9.lt; have HP9 := veil P9; have e9 : W9.heap[W3.heap.size]? = _ := (O9.block W3.heap.size hE5 (by omega)).trans (unveil HE5); have c0 : W9.cell? ⟨W3.heap.size, 0, none⟩ = some (.int .i64 v.k) := (by simp [World.cell?, e9]); have c1 : W9.cell? ⟨W3.heap.size, 1, none⟩ = some (.int .i64 v.p) := (by simp [World.cell?, e9]); have c2 : W9.cell? ⟨W3.heap.size, 2, none⟩ = some (.int .i64 v.i) := (by simp [World.cell?, e9]); have c3 : W9.cell? ⟨W3.heap.size, 3, none⟩ = some (.int .i64 v.b) := (by simp [World.cell?, e9]); have c4 : W9.cell? ⟨W3.heap.size, 4, none⟩ = some (.int .i64 v.he) := (by simp [World.cell?, e9]); have c5 : W9.cell? ⟨W3.heap.size, 5, none⟩ = some (.int .i64 v.hn) := (by simp [World.cell?, e9]); clear P9 q9 t9 O9 y9 O8 y8 q8 qB8 e9)
        | (at_builtin; refine wpList_append_own _ rfl _ _ 22 rfl (B + 1) 61 i6 _ 6 48 Try.underlying22 hi6 hz60 hz61 hz62 rfl (by decide) (.slice ae es.length ce) es.length ((evFlat es).map (Value.int .i64)) rfl (unveil HOe) ⟨W9.heap.size, 0, none⟩ 1 1 ((evCells v).map (Value.int .i64)) rfl rfl (news6 _ _ _ _ _ _ _ _) (ints_oneCell _ _) (by unfold maxLen; omega) (by omega) (by simp; omega) ?_; intro v' W10 own10 grow10 _; obtain ⟨a', c', rfl⟩ := own_form own10; have P10 := (unveil HP9).event (below1 W9 _) grow10 (fun x hx e => by have := hoe _ e; have := hf1 x hx; omega) (fun x hx e => by have := hoe _ e; have := hf2 x hx; omega) v own10; have y10 : ansBlock W10 W6.heap.size an.c an.he an.no an.bd := (grow10.block W6.heap.size (by have := (unveil HY9).lt; simp; omega) (fun e => own_off (unveil HP9).oe (unveil HY9) (by decide) _ e.symm rfl)).trans (((below1 W9 _).block W6.heap.size (unveil HY9).lt).trans (unveil HY9)); obtain ⟨y0, y1, y2, y3⟩ := y10.cells; have HOa := veil (own_still P10.oa (fun g _ hg => (below1 W10 (.cells #[.int .i64 an.c, .int .i64 an.he, .int .i64 an.no, .int .i64 an.bd] 50)).block g hg)); have hB10 := P10.q.q.lt; have HP10 := veil P10; clear own10 grow10 P10 y10)
        | (at_builtin; refine wpList_append_own _ rfl _ _ 23 rfl (B + 1) 50 i4 _ 4 32 Try.underlying23 hi4 hz40 hz41 hz42 rfl (by decide) (.slice aa ans.length ca) ans.length ((anFlat ans).map (Value.int .i64)) rfl (unveil HOa) ⟨W10.heap.size, 0, none⟩ 1 1 ((anCells an).map (Value.int .i64)) rfl rfl (news4 _ _ _ _ _ _) (ints_oneCell _ _) (by unfold maxLen; omega) (by omega) (by simp; omega) ?_; intro v' W11 own11 grow11 _; obtain ⟨a'', c'', rfl⟩ := own_form own11; have P11 := (unveil HP10).answer (below1 W10 _) grow11 (fun x hx e => by have := hoa _ e; have := hf1 x hx; omega) (fun x hx e => by have := hoa _ e; have := hf2 x hx; omega) an own11; have HP11 := veil P11; clear own11 grow11 P11))
      refine ⟨⟨m + 1, _, _, _, _, _, _, es ++ [v], ans ++ [an], by omega, by omega, by go_num, unveil HP11, veil ⟨.snoc (unveil HH).1 (unveil HV).1 (unveil HST), by have := (unveil HH).2.1; simp; omega, fun _ hp => ⟨by simp, ?_⟩⟩⟩, by simp [intOf]; omega⟩
      have hup := (unveil HST).nx_up
      rcases Nat.eq_zero_or_pos m with h0 | h0
      · have := hup.2 ((unveil HV).2 h0 hp)
        have := (unveil HH).1.wf.ok.count.n0
        omega
      · have := ((unveil HH).2.2 h0 hp).2
        omega
end Go.Proofs.Ytlfecmkpafgcmaa

namespace Go.Proofs.Ytlfecmkpafgcmaa
open Go.RowKit

/-- the window (t, s) remembers the ids A, as far as it goes. -/
structure WinInv (A : List Int) (t : Int) (s : Nat → Bool) : Prop where
  ok : WinOk t s
  mem : ∀ x, t - 8 ≤ x → (inWin t s x = true ↔ x ∈ A)
  zero : A = [] → t = 0
  last : A ≠ [] → t - 1 ∈ A
  less : ∀ x ∈ A, x < t

theorem WinInv.none : WinInv [] 0 noneS := ⟨WinOk.none, fun x _ => by rw [inWin_none]; simp, fun _ => rfl, fun h => absurd rfl h, by simp⟩
theorem WinInv.keep {A : List Int} {t id : Int} {s : Nat → Bool} (h : WinInv A t s) (hi : inWin t s id = true) : WinInv (A ++ [id]) t s := by
  have hr : t - 8 ≤ id := by obtain ⟨i, _, _, rfl⟩ := inWin_iff.1 hi; omega
  have hA : id ∈ A := (h.mem id hr).1 hi
  have hm : ∀ x, x ∈ A ++ [id] ↔ x ∈ A := by
    intro x
    simp only [List.mem_append, List.mem_singleton]
    exact ⟨fun h => h.elim (fun h => h) (fun h => by rw [h]; exact hA), .inl⟩
  refine ⟨h.ok, fun x hx => by rw [hm]; exact h.mem x hx, by simp, fun _ => ?_, fun x hx => h.less x ((hm x).1 hx)⟩
  rw [hm]
  exact h.last (by intro h0; rw [h0] at hA; cases hA)
theorem WinInv.take {A : List Int} {t id : Int} {s : Nat → Bool} (h : WinInv A t s) (h0 : 0 ≤ id) (h1 : id ≤ 1073741824) (hn : inWin t s id = false) : WinInv (A ++ [id]) (takeT t id) (takeS t s id) := by
  have hg := takeT_gt t id
  refine ⟨h.ok.take h0 h1, ?_, by simp, fun _ => ?_, ?_⟩
  · intro x hx
    rw [inWin_take hx]
    simp only [Bool.or_eq_true, decide_eq_true_eq, List.mem_append, List.mem_singleton]
    rw [h.mem x (by omega)]
    exact Or.comm
  · simp only [List.mem_append, List.mem_singleton]
    by_cases hc : t ≤ id
    · right
      unfold takeT
      rw [if_pos hc]
      omega
    · left
      have e : takeT t id = t := by unfold takeT; rw [if_neg hc]
      rw [e]
      refine h.last (fun hA => ?_)
      have := h.zero hA
      omega
  · intro x hx
    simp only [List.mem_append, List.mem_singleton] at hx
    rcases hx with hx | rfl
    · have := h.less x hx; omega
    · exact hg.2
/-- two windows that remember the same ids are one. -/
theorem WinInv.same {A B : List Int} {t t' : Int} {s s' : Nat → Bool} (h : WinInv A t s) (h' : WinInv B t' s') (hAB : ∀ x, x ∈ A ↔ x ∈ B) : t = t' ∧ ∀ i, i < 8 → s i = s' i := by
  have ht : t = t' := by
    by_cases hA : A = []
    · have hB : B = [] := List.eq_nil_iff_forall_not_mem.2 fun x hx => by rw [← hAB, hA] at hx; cases hx
      rw [h.zero hA, h'.zero hB]
    · have hB : B ≠ [] := fun hB => hA (List.eq_nil_iff_forall_not_mem.2 fun x hx => by rw [hAB, hB] at hx; cases hx)
      have h1 := h'.less _ ((hAB _).1 (h.last hA))
      have h2 := h.less _ ((hAB _).2 (h'.last hB))
      omega
  subst ht
  refine ⟨rfl, fun i hi => ?_⟩
  rw [← inWin_at (t := t) (s := s) i hi, ← inWin_at (t := t) (s := s') i hi, Bool.eq_iff_iff, h.mem _ (by omega), h'.mem _ (by omega)]
  exact hAB _

/-- Take at an id that is not below the window. -/
theorem take_step {A : List Int} {t id : Int} {s : Nat → Bool} (h : WinInv A t s) (h0 : 0 ≤ id) (h1 : id ≤ 1073741824) (h2 : t - 8 ≤ id) :
    ∃ T S b, WinInv (A ++ [id]) T S ∧ t ≤ T ∧ id < T ∧ T ≤ takeT t id ∧ (b = false → T = t ∧ S = s ∧ id ∈ A) ∧ (b = true → id ∉ A) ∧
      ∀ w, Calls Try.prog 75 #[winVal t s, .int .i64 id] w fun e w' => e = .returned (.tuple #[winVal T S, .bool b, .int .i64 0]) ∧ Below w.heap.size w w' := by
  have hg := takeT_gt t id
  cases hi : inWin t s id
  · refine ⟨takeT t id, takeS t s id, true, h.take h0 h1 hi, hg.1, hg.2, Int.le_refl _, fun h => (by cases h), fun _ hA => ?_, fun w => take_new t id s w h.ok h0 h1 h2 hi⟩
    rw [← h.mem id h2, hi] at hA
    cases hA
  · have hA := (h.mem id h2).1 hi
    exact ⟨t, s, false, h.keep hi, Int.le_refl _, h.less id hA, hg.1, fun _ => ⟨rfl, rfl, hA⟩, fun h => (by cases h), fun w => take_old t id s w h.ok h0 h1 hi⟩
end Go.Proofs.Ytlfecmkpafgcmaa

namespace Go.Proofs.Ytlfecmkpafgcmaa

/-- how many events of a kind there are. -/
def cnt (es : List Ev) (k : Int) : Nat := es.countP (fun v => decide (v.k = k))
theorem cnt_nil (k : Int) : cnt [] k = 0 := rfl
theorem cnt_snoc (es : List Ev) (v : Ev) (k : Int) : cnt (es ++ [v]) k = cnt es k + if v.k = k then 1 else 0 := by
  unfold cnt
  rw [List.countP_append]
  by_cases h : v.k = k <;> simp [h]
theorem cnt_le (es : List Ev) (k : Int) : cnt es k ≤ es.length := List.countP_le_length
theorem Hist.counts {es : List Ev} {s : St} {ans : List An} (h : Hist es s ans) : s.nx = cnt es 1 ∧ s.ep = cnt es 4 ∧ s.rn + s.ln + cnt es 3 = cnt es 1 ∧ s.gv ≤ es.length := by
  induction h with
  | nil => exact ⟨rfl, rfl, rfl, by decide⟩
  | @snoc es s s' ans v an h hv st ih =>
    obtain ⟨i1, i2, i3, i4⟩ := ih
    have h1 := cnt_snoc es v 1
    have h3 := cnt_snoc es v 3
    have h4 := cnt_snoc es v 4
    have hl : (es ++ [v]).length = es.length + 1 := by simp
    cases st with
    | pub hk _ _ _ _ =>
      rw [hk] at h1 h3 h4
      simp at h1 h3 h4
      refine ⟨?_, ?_, ?_, ?_⟩
      · show s.nx + 1 = _; omega
      · show s.ep = _; omega
      · show s.rn + 1 + s.ln + _ = _; omega
      · show s.gv ≤ _; omega
    | recv hk _ _ =>
      rw [hk] at h1 h3 h4
      simp at h1 h3 h4
      refine ⟨?_, ?_, ?_, ?_⟩
      · show s.nx = _; omega
      · show s.ep = _; omega
      · show s.rn - 1 + (s.ln + 1) + _ = _; omega
      · show s.gv + 1 ≤ _; omega
    | ack hk _ m hm _ =>
      rw [hk] at h1 h3 h4
      simp at h1 h3 h4
      refine ⟨?_, ?_, ?_, ?_⟩
      · show s.nx = _; omega
      · show s.ep = _; omega
      · show s.rn + (s.ln - 1) + _ = _; omega
      · show s.gv ≤ _; omega
    | stop hk _ R' _ =>
      rw [hk] at h1 h3 h4
      simp at h1 h3 h4
      refine ⟨?_, ?_, ?_, ?_⟩
      · show s.nx = _; omega
      · show s.ep + 1 = _; omega
      · show s.rn + s.ln + 0 + _ = _; omega
      · show (0 : Int) ≤ _; omega
/-- ids that a producer published. -/
def pubIds (es : List Ev) (p : Nat) : List Int := (es.filter (fun v => decide (v.k = 1) && decide (v.p.toNat = p))).map Ev.i
theorem pubIds_snoc (es : List Ev) (v : Ev) (p : Nat) : pubIds (es ++ [v]) p = pubIds es p ++ if v.k = 1 ∧ v.p.toNat = p then [v.i] else [] := by
  unfold pubIds
  rw [List.filter_append, List.map_append]
  congr 1
  by_cases h1 : v.k = 1 <;> by_cases h2 : v.p.toNat = p <;> simp [h1, h2]
theorem Hist.win {es : List Ev} {s : St} {ans : List An} (h : Hist es s ans) (p : Nat) : WinInv (pubIds es p) (s.wt p) (s.wz p) := by
  induction h with
  | nil => exact WinInv.none
  | @snoc es s s' ans v an h hv st ih =>
    rw [pubIds_snoc]
    cases st with
    | pub hk hl hn _ _ =>
      show WinInv _ (tput s.wt v.p.toNat _ p) (tput s.wz v.p.toNat _ p)
      unfold tput
      by_cases e : p = v.p.toNat
      · rw [if_pos e, if_pos e, if_pos ⟨hk, e.symm⟩, ← e]
        rw [← e] at hl hn
        have := hv.i
        exact ih.take (by omega) (by omega) hn
      · rw [if_neg e, if_neg e, if_neg (fun h => e h.2.symm), List.append_nil]
        exact ih
    | recv hk _ _ =>
      rw [if_neg (fun h => by omega), List.append_nil]
      exact ih
    | ack hk _ m hm _ =>
      rw [if_neg (fun h => by omega), List.append_nil]
      exact ih
    | stop hk _ R' _ =>
      rw [if_neg (fun h => by omega), List.append_nil]
      exact ih
theorem Hist.like {es : List Ev} {s : St} {ans : List An} (h : Hist es s ans) : ∀ v ∈ es, DeedLike v := by
  induction h with
  | nil => intro v hv; cases hv
  | snoc h hv st ih =>
    intro u hu
    rcases List.mem_append.1 hu with hu | hu
    · exact ih u hu
    · obtain rfl := List.mem_singleton.1 hu
      exact hv
theorem pubIds_mem {es : List Ev} {v : Ev} (h : v ∈ es) (hk : v.k = 1) : v.i ∈ pubIds es v.p.toNat :=
  List.mem_map.2 ⟨v, List.mem_filter.2 ⟨h, by simp [hk]⟩, rfl⟩
theorem Hist.pubIds_none {es : List Ev} {s : St} {ans : List An} (h : Hist es s ans) (p : Nat) (hp : 2 ≤ p) : pubIds es p = [] := by
  unfold pubIds
  rw [List.map_eq_nil_iff, List.filter_eq_nil_iff]
  intro v hv
  have := (h.like v hv).p
  simp
  omega
/-- where a handle is: nowhere, or at a place. -/
theorem idx_spec {α : Type} [Inhabited α] (eq : α → α → Bool) (x : α) : ∀ (l : List α) (i : Nat), (Lib.idxByFrom eq x l i = -1 ∧ ∀ j, j < l.length → eq x l[j]! = false) ∨ ∃ k, k < l.length ∧ Lib.idxByFrom eq x l i = ((i + k : Nat) : Int) ∧ eq x l[k]! = true
  | [], _ => .inl ⟨rfl, fun j hj => absurd hj (Nat.not_lt_zero _)⟩
  | y :: r, i => by
    cases h : eq x y with
    | true => exact .inr ⟨0, by simp, by simp [Lib.idxByFrom, h], by simpa using h⟩
    | false =>
      rcases idx_spec eq x r (i + 1) with ⟨e, ha⟩ | ⟨k, hk, e, ht⟩
      · refine .inl ⟨by simp [Lib.idxByFrom, h, e], fun j hj => ?_⟩
        cases j with
        | zero => simpa using h
        | succ j => simpa using ha j (by simpa using hj)
      · refine .inr ⟨k + 1, by simpa using hk, ?_, by simpa using ht⟩
        have : Lib.idxByFrom eq x (y :: r) i = Lib.idxByFrom eq x r (i + 1) := by simp [Lib.idxByFrom, h]
        rw [this, e]
        congr 1
        omega
theorem ackAt_spec (he hn : Int) (L : List Int) (ln : Nat) : (ackAt he hn L ln = -1 ∧ ∀ j, j < ln → ¬ (L.getD (4 * j) 0 = he ∧ L.getD (4 * j + 1) 0 = hn)) ∨ ∃ m : Nat, m < ln ∧ ackAt he hn L ln = m ∧ L.getD (4 * m) 0 = he ∧ L.getD (4 * m + 1) 0 = hn := by
  have hl : ((quadsOf L ln).take ln) = quadsOf L ln := List.take_of_length_le (by rw [quadsOf_len]; exact Nat.le_refl _)
  unfold ackAt
  rw [hl]
  unfold Lib.idxBy
  rcases idx_spec (fun _ y => isHandle he hn y) default (quadsOf L ln) 0 with ⟨e, ha⟩ | ⟨m, hm, e, ht⟩
  · refine .inl ⟨e, fun j hj ⟨h1, h2⟩ => ?_⟩
    have := ha j (by rw [quadsOf_len]; exact hj)
    rw [quadsOf_at L ln j hj] at this
    simp [isHandle, quadAt] at this
    simp at h1 h2
    exact this h1 h2
  · rw [quadsOf_len] at hm
    rw [quadsOf_at L ln m hm] at ht
    simp [isHandle, quadAt] at ht
    refine .inr ⟨m, hm, by rw [e, Nat.zero_add], ?_, ?_⟩
    · simpa using ht.1
    · simpa using ht.2
theorem lease_lt {s : St} (h : s.Ok) : ∀ (j i : Nat), i < j → j < s.ln → s.L.getD (4 * i + 1) 0 < s.L.getD (4 * j + 1) 0
  | 0, _, h1, _ => absurd h1 (Nat.not_lt_zero _)
  | j + 1, i, h1, h2 => by
    have hr := lease_rise h h2
    rcases Nat.lt_or_ge i j with h3 | h3
    · have := lease_lt h j i h3 (by omega)
      omega
    · obtain rfl : i = j := by omega
      exact hr
/-- an ack of a lease's handle: it was there, and is gone. -/
theorem Step.acked {s s' : St} {v : Ev} {an : An} {ch : Bool} (h : s.Wf) (st : Step s v s' an ch) (hk : v.k = 3) (j : Nat) (hj : j < s.ln) (h1 : v.he = s.L.getD (4 * j) 0) (h2 : v.hn = s.L.getD (4 * j + 1) 0) :
    ch = true ∧ an = ⟨0, 0, 0, 0⟩ ∧ s'.ep = s.ep ∧ s'.rn = s.rn ∧ s'.ln = s.ln - 1 ∧ ackAt v.he v.hn s'.L s'.ln = -1 := by
  have hep := (lease_bounds h.ok hj).1
  cases st with
  | pubLow hk' | pubOld hk' | pubFull hk' | pub hk' | recEmpty hk' | recFull hk' | recv hk' | endFull hk' | stop hk' => omega
  | ackStale _ h' => exact absurd (h1.trans hep) h'
  | ackNone _ _ ha =>
    rcases ackAt_spec v.he v.hn s.L s.ln with ⟨_, h3⟩ | ⟨m, _, h3, _⟩
    · exact absurd ⟨h1.symm, h2.symm⟩ (h3 j hj)
    · omega
  | ack _ _ m hm ha =>
    refine ⟨rfl, rfl, rfl, rfl, rfl, ?_⟩
    rcases ackAt_spec v.he v.hn s.L s.ln with ⟨h3, _⟩ | ⟨m', hm', h3, h4, h5⟩
    · omega
    · obtain rfl : m' = m := by omega
      rcases ackAt_spec v.he v.hn (s.L.take (4 * m') ++ s.L.drop (4 * m' + 4)) (s.ln - 1) with ⟨h6, _⟩ | ⟨i, hi, h6, h7, h8⟩
      · exact h6
      · exfalso
        have e := cut_get s.L m' s.ln i 1 h.ll hm (by omega)
        rw [e] at h8
        rw [← h5] at h8
        split at h8
        · have := lease_lt h.ok m' i (by omega) hm; omega
        · have := lease_lt h.ok (i + 1) m' (by omega) (by omega); omega
theorem Step.gone {s s' : St} {v : Ev} {an : An} {ch : Bool} (st : Step s v s' an ch) (hk : v.k = 3) (h1 : v.he = s.ep) (ha : ackAt v.he v.hn s.L s.ln = -1) : ch = false ∧ an = ⟨7, 0, 0, 0⟩ := by
  cases st with
  | pubLow hk' | pubOld hk' | pubFull hk' | pub hk' | recEmpty hk' | recFull hk' | recv hk' | endFull hk' | stop hk' => omega
  | ackStale _ h' => exact absurd h1 h'
  | ackNone _ _ _ => exact ⟨rfl, rfl⟩
  | ack _ _ m hm hb => omega
theorem Step.stale {s s' : St} {v : Ev} {an : An} {ch : Bool} (st : Step s v s' an ch) (hk : v.k = 3) (h1 : ¬ v.he = s.ep) : ch = false ∧ an = ⟨11, 0, 0, 0⟩ ∧ s' = s := by
  cases st with
  | pubLow hk' | pubOld hk' | pubFull hk' | pub hk' | recEmpty hk' | recFull hk' | recv hk' | endFull hk' | stop hk' => omega
  | ackStale _ h' => exact ⟨rfl, rfl, rfl⟩
  | ackNone _ h' _ => exact absurd h' h1
  | ack _ h' m hm hb => exact absurd h' h1
theorem ackAt_none (he hn : Int) (L : List Int) : ackAt he hn L 0 = -1 := by
  rcases ackAt_spec he hn L 0 with ⟨h, _⟩ | ⟨m, hm, _⟩
  · exact h
  · omega
/-- a break: what it leaves. -/
theorem Step.stopped {s s' : St} {v : Ev} {an : An} {ch : Bool} (h : s.Wf) (st : Step s v s' an ch) (hk : v.k = 4) (h1 : s.ep < 1048576) :
    ch = true ∧ an = ⟨0, 0, 0, 0⟩ ∧ s'.ep = s.ep + 1 ∧ s'.nx = s.nx ∧ s'.rn = s.rn + s.ln ∧ s'.ln = 0 ∧ s'.wt = s.wt ∧ s'.wz = s.wz ∧ ∀ i, i + 1 < s'.rn → s'.R.getD (2 * i) 0 < s'.R.getD (2 * (i + 1)) 0 := by
  cases st with
  | pubLow hk' | pubOld hk' | pubFull hk' | pub hk' | recEmpty hk' | recFull hk' | recv hk' | ackStale hk' | ackNone hk' | ack hk' => omega
  | endFull _ h' => omega
  | stop _ _ R' ho => exact ⟨rfl, rfl, rfl, rfl, rfl, rfl, rfl, rfl, ordered_rise h ho⟩
/-- a receive where something is ready. -/
theorem Step.received {s s' : St} {v : Ev} {an : An} {ch : Bool} (st : Step s v s' an ch) (hk : v.k = 2) (h1 : 0 < s.rn) (h2 : s.gv < 1073741824) :
    ch = true ∧ an = ⟨0, s.ep, s.gv, s.R.getD 1 0⟩ ∧ s' = ⟨s.ep, s.nx, s.gv + 1, s.rn - 1, s.R.drop 2, s.ln + 1, s.L ++ [s.ep, s.gv, s.R.getD 0 0, s.R.getD 1 0], s.wt, s.wz⟩ := by
  cases st with
  | pubLow hk' | pubOld hk' | pubFull hk' | pub hk' | ackStale hk' | ackNone hk' | ack hk' | endFull hk' | stop hk' => omega
  | recEmpty _ h' => omega
  | recFull _ _ h' => omega
  | recv _ _ _ => exact ⟨rfl, rfl, rfl⟩
theorem Step.emptied {s s' : St} {v : Ev} {an : An} {ch : Bool} (st : Step s v s' an ch) (hk : v.k = 2) (h1 : s.rn = 0) : ch = false ∧ an = ⟨10, 0, 0, 0⟩ ∧ s' = s := by
  cases st with
  | pubLow hk' | pubOld hk' | pubFull hk' | pub hk' | ackStale hk' | ackNone hk' | ack hk' | endFull hk' | stop hk' => omega
  | recEmpty _ h' => exact ⟨rfl, rfl, rfl⟩
  | recFull _ h' _ => omega
  | recv _ h' _ => omega
/-- a publish of an id that is new, where there is room. -/
theorem Step.published {s s' : St} {v : Ev} {an : An} {ch : Bool} (st : Step s v s' an ch) (hk : v.k = 1) (h1 : s.wt v.p.toNat - 8 ≤ v.i) (hn : inWin (s.wt v.p.toNat) (s.wz v.p.toNat) v.i = false) (h2 : s.rn + s.ln < 500) (h3 : s.nx < 1073741824) :
    ch = true ∧ an = ⟨0, 0, 0, 0⟩ ∧ s' = ⟨s.ep, s.nx + 1, s.gv, s.rn + 1, s.R ++ [s.nx, v.b], s.ln, s.L, tput s.wt v.p.toNat (takeT (s.wt v.p.toNat) v.i), tput s.wz v.p.toNat (takeS (s.wt v.p.toNat) (s.wz v.p.toNat) v.i)⟩ := by
  cases st with
  | recEmpty hk' | recFull hk' | recv hk' | ackStale hk' | ackNone hk' | ack hk' | endFull hk' | stop hk' => omega
  | pubLow _ h' => omega
  | pubOld _ h' => rw [hn] at h'; cases h'
  | pubFull _ _ _ h' => omega
  | pub _ _ _ _ _ => exact ⟨rfl, rfl, rfl⟩
/-- an id that was published comes again: nothing is added. -/
theorem Step.twice {es : List Ev} {s s' : St} {ans : List An} {u v : Ev} {an : An} {ch : Bool} (h : Hist es s ans) (hu : u ∈ es) (hk : u.k = 1) (hv : v.k = 1) (hp : v.p = u.p) (hi : v.i = u.i) (st : Step s v s' an ch) : ch = false ∧ (an = ⟨0, 0, 0, 0⟩ ∨ an = ⟨9, 0, 0, 0⟩) ∧ s' = s := by
  have hm := pubIds_mem hu hk
  have hw := h.win u.p.toNat
  cases st with
  | recEmpty hk' | recFull hk' | recv hk' | ackStale hk' | ackNone hk' | ack hk' | endFull hk' | stop hk' => omega
  | pubLow _ h' => exact ⟨rfl, .inr rfl, rfl⟩
  | pubOld _ h' => exact ⟨rfl, .inl rfl, rfl⟩
  | pubFull _ h1 h2 _ =>
    rw [hp, hi] at h1 h2
    rw [(hw.mem _ h1).2 hm] at h2
    cases h2
  | pub _ h1 h2 _ _ =>
    rw [hp, hi] at h1 h2
    rw [(hw.mem _ h1).2 hm] at h2
    cases h2
end Go.Proofs.Ytlfecmkpafgcmaa

namespace Go.Proofs.Ytlfecmkpafgcmaa

theorem inWin_under {t x : Int} {s : Nat → Bool} (h : x < t - 8) : inWin t s x = false := by
  unfold inWin
  rw [decide_eq_false (by omega)]
  simp
theorem getD_ext {A B : List Int} {n : Nat} (ha : A.length = 2 * n) (hb : B.length = 2 * n) (h : ∀ i, i < n → A.getD (2 * i) 0 = B.getD (2 * i) 0 ∧ A.getD (2 * i + 1) 0 = B.getD (2 * i + 1) 0) : A = B := by
  apply List.ext_getElem (by omega)
  intro i h1 h2
  have e : ∀ (L : List Int) (hL : i < L.length), L[i] = L.getD i 0 := fun L hL => by simp [List.getElem?_eq_getElem hL]
  rw [e A h1, e B h2]
  have hi := h (i / 2) (by omega)
  rcases Nat.mod_two_eq_zero_or_one i with hm | hm
  · have : 2 * (i / 2) = i := by omega
    rw [this] at hi
    exact hi.1
  · have : 2 * (i / 2) + 1 = i := by omega
    rw [this] at hi
    exact hi.2
theorem ordered_one {s : St} {A B : List Int} (h : s.Wf) (ha : Ordered (s.R ++ msgsTo s.L s.ln) A (s.rn + s.ln)) (hb : Ordered (s.R ++ msgsTo s.L s.ln) B (s.rn + s.ln)) : A = B := by
  have ra := ordered_rise h ha
  have rb := ordered_rise h hb
  have sorted : ∀ (C : List Int) (n : Nat), (∀ i, i + 1 < n → C.getD (2 * i) 0 < C.getD (2 * (i + 1)) 0) → (pairsOf C n).Pairwise (fun x y => x.1 < y.1) := by
    intro C n hC
    have far : ∀ j i, i < j → j < n → C.getD (2 * i) 0 < C.getD (2 * j) 0 := by
      intro j
      induction j with
      | zero => intro i h1; omega
      | succ j ih =>
        intro i h1 h2
        have hs := hC j h2
        rcases Nat.lt_or_ge i j with h3 | h3
        · have := ih i h3 (by omega); omega
        · obtain rfl : i = j := by omega
          exact hs
    rw [List.pairwise_iff_getElem]
    intro i j hi hj hij
    have hi' : i < n := by simpa [pairsOf] using hi
    have hj' : j < n := by simpa [pairsOf] using hj
    simp only [pairsOf, List.getElem_map, List.getElem_range, pairAt]
    exact far j i hij hj'
  have hp : (pairsOf A (s.rn + s.ln)).Perm (pairsOf B (s.rn + s.ln)) := ha.perm.trans hb.perm.symm
  have he : pairsOf A (s.rn + s.ln) = pairsOf B (s.rn + s.ln) := by
    refine List.Perm.eq_of_pairwise (le := fun x y => x.1 < y.1) ?_ (sorted A _ ra) (sorted B _ rb) hp
    intro a b _ _ h1 h2
    omega
  refine getD_ext ha.len hb.len (fun i hi => ?_)
  have h1 : (pairsOf A (s.rn + s.ln))[i]? = (pairsOf B (s.rn + s.ln))[i]? := by rw [he]
  simp [pairsOf, hi, pairAt] at h1
  simpa using h1
theorem Step.det {s s1 s2 : St} {v : Ev} {a1 a2 : An} {c1 c2 : Bool} (h : s.Wf) (x : Step s v s1 a1 c1) (y : Step s v s2 a2 c2) : s1 = s2 ∧ a1 = a2 ∧ c1 = c2 := by
  cases x with
  | pubLow hk g => cases y with
    | pubLow => exact ⟨rfl, rfl, rfl⟩
    | pubOld _ g2 => rw [inWin_under g] at g2; cases g2
    | pubFull | pub | recEmpty | recFull | recv | ackStale | ackNone | ack | endFull | stop => omega
  | pubOld hk g => cases y with
    | pubLow _ g2 => rw [inWin_under g2] at g; cases g
    | pubOld => exact ⟨rfl, rfl, rfl⟩
    | pubFull _ _ g2 => rw [g] at g2; cases g2
    | pub _ _ g2 => rw [g] at g2; cases g2
    | recEmpty | recFull | recv | ackStale | ackNone | ack | endFull | stop => omega
  | pubFull hk g g1 g2 => cases y with
    | pubOld _ g3 => rw [g1] at g3; cases g3
    | pubFull => exact ⟨rfl, rfl, rfl⟩
    | pubLow | pub | recEmpty | recFull | recv | ackStale | ackNone | ack | endFull | stop => omega
  | pub hk g g1 g2 g3 => obtain ⟨rfl, rfl, rfl⟩ := y.published hk g g1 g2 g3; exact ⟨rfl, rfl, rfl⟩
  | recEmpty hk g => obtain ⟨rfl, rfl, rfl⟩ := y.emptied hk g; exact ⟨rfl, rfl, rfl⟩
  | recFull hk g g1 => cases y with
    | recFull => exact ⟨rfl, rfl, rfl⟩
    | pubLow | pubOld | pubFull | pub | recEmpty | recv | ackStale | ackNone | ack | endFull | stop => omega
  | recv hk g g1 => obtain ⟨rfl, rfl, rfl⟩ := y.received hk g g1; exact ⟨rfl, rfl, rfl⟩
  | ackStale hk g => obtain ⟨rfl, rfl, rfl⟩ := y.stale hk g; exact ⟨rfl, rfl, rfl⟩
  | ackNone hk g g1 => cases y with
    | ackNone => exact ⟨rfl, rfl, rfl⟩
    | ackStale _ g2 => exact absurd g g2
    | pubLow | pubOld | pubFull | pub | recEmpty | recFull | recv | ack | endFull | stop => omega
  | ack hk g m hm g1 => cases y with
    | ack _ _ m' hm' g2 =>
      obtain rfl : m = m' := by omega
      exact ⟨rfl, rfl, rfl⟩
    | ackStale _ g2 => exact absurd g g2
    | pubLow | pubOld | pubFull | pub | recEmpty | recFull | recv | ackNone | endFull | stop => omega
  | endFull hk g => cases y with
    | endFull => exact ⟨rfl, rfl, rfl⟩
    | pubLow | pubOld | pubFull | pub | recEmpty | recFull | recv | ackStale | ackNone | ack | stop => omega
  | stop hk g R' ho => cases y with
    | stop _ _ R2 ho2 =>
      obtain rfl := ordered_one h ho ho2
      exact ⟨rfl, rfl, rfl⟩
    | pubLow | pubOld | pubFull | pub | recEmpty | recFull | recv | ackStale | ackNone | ack | endFull => omega
/-- events that may be, each of which changes something: a history. -/
inductive Tells : List Ev → St → List An → Prop
  | nil : Tells [] St.zero []
  | snoc {es : List Ev} {s s' : St} {ans : List An} {v : Ev} {an : An} (h : Tells es s ans) (hv : v.Ok) (st : Step s v s' an true) : Tells (es ++ [v]) s' (ans ++ [an])
theorem Hist.tells {es : List Ev} {s : St} {ans : List An} (h : Hist es s ans) : Tells es s ans := by
  induction h with
  | nil => exact .nil
  | snoc h hv st ih => exact .snoc ih hv.ok st
theorem Tells.wf {es : List Ev} {s : St} {ans : List An} (h : Tells es s ans) : s.Wf := by
  induction h with
  | nil => exact St.zero_wf
  | snoc h hv st ih => exact st.wf ih hv
theorem Tells.last {es : List Ev} {v : Ev} {s : St} {ans : List An} (h : Tells (es ++ [v]) s ans) : ∃ s0 ans0 an, Tells es s0 ans0 ∧ v.Ok ∧ Step s0 v s an true ∧ ans = ans0 ++ [an] := by
  generalize he : es ++ [v] = l at h
  cases h with
  | nil => simp at he
  | @snoc es' s0 s' ans0 v' an h hv st =>
    obtain ⟨rfl, hv'⟩ := List.append_inj' he rfl
    cases hv'
    exact ⟨s0, ans0, an, h, hv, st, rfl⟩
theorem Tells.one {es : List Ev} {s1 s2 : St} {ans1 ans2 : List An} (h1 : Tells es s1 ans1) (h2 : Tells es s2 ans2) : s1 = s2 ∧ ans1 = ans2 := by
  induction h1 generalizing s2 ans2 with
  | nil =>
    generalize he : ([] : List Ev) = l at h2
    cases h2 with
    | nil => exact ⟨rfl, rfl⟩
    | snoc => simp at he
  | snoc h hv st ih =>
    obtain ⟨s0, ans0, an, h3, _, st2, rfl⟩ := h2.last
    obtain ⟨rfl, rfl⟩ := ih h3
    obtain ⟨rfl, rfl, _⟩ := st.det h.wf st2
    exact ⟨rfl, rfl⟩
/-- the beginning of a history is one. -/
theorem Tells.take {es : List Ev} {s : St} {ans : List An} (h : Tells es s ans) : ∀ k, k ≤ es.length → ∃ s0, Tells (es.take k) s0 (ans.take k) := by
  induction h with
  | nil => intro k _; exact ⟨St.zero, by simpa using Tells.nil⟩
  | @snoc es s s' ans v an h hv st ih =>
    intro k hk
    have hl : ans.length = es.length := by
      clear ih st hk
      induction h with
      | nil => rfl
      | snoc _ _ _ ih => simp [ih]
    rcases Nat.lt_or_ge es.length k with h1 | h1
    · obtain rfl : k = (es ++ [v]).length := by simp at hk ⊢; omega
      refine ⟨s', ?_⟩
      rw [List.take_length, List.take_of_length_le (by simp; omega)]
      exact .snoc h hv st
    · obtain ⟨s0, h0⟩ := ih k h1
      refine ⟨s0, ?_⟩
      rw [List.take_append_of_le_length h1, List.take_append_of_le_length (by omega)]
      exact h0
theorem Tells.step {es : List Ev} {s : St} {ans : List An} (h : Tells es s ans) {k : Nat} (hk : k < es.length) {s0 : St} {a0 : List An} (h0 : Tells (es.take k) s0 a0) : ∃ s1 an, Step s0 es[k] s1 an true ∧ es[k].Ok := by
  obtain ⟨s1, h1⟩ := h.take (k + 1) hk
  rw [List.take_succ_eq_append_getElem hk] at h1
  obtain ⟨s2, ans2, an, h2, hv, st, _⟩ := h1.last
  obtain ⟨rfl, _⟩ := h2.one h0
  exact ⟨s1, an, st, hv⟩
end Go.Proofs.Ytlfecmkpafgcmaa

namespace Go.Proofs.Ytlfecmkpafgcmaa
open Go.RowKit

/-- of the first i events so many are of a kind. -/
def cntTo (D : List Int) (k : Int) : Nat → Nat
  | 0 => 0
  | i + 1 => cntTo D k i + if D.getD (6 * i) 0 = k then 1 else 0
theorem cntTo_le (D : List Int) (k : Int) : ∀ i, cntTo D k i ≤ i
  | 0 => Nat.le_refl _
  | i + 1 => by
    have := cntTo_le D k i
    unfold cntTo
    split <;> omega
theorem evFlat_at : ∀ (es : List Ev) (i : Nat) (h : i < es.length) (j : Nat), j < 6 → (evFlat es).getD (6 * i + j) 0 = (evCells es[i]).getD j 0
  | [], _, h, _, _ => absurd h (Nat.not_lt_zero _)
  | v :: es, 0, _, j, hj => by
    have hl : (evCells v).length = 6 := rfl
    show (evCells v ++ evFlat es).getD (6 * 0 + j) 0 = _
    rw [Nat.mul_zero, Nat.zero_add, getD_left _ _ _ (by omega)]
    rfl
  | v :: es, i + 1, h, j, hj => by
    have hl : (evCells v).length = 6 := rfl
    show (evCells v ++ evFlat es).getD (6 * (i + 1) + j) 0 = _
    rw [show 6 * (i + 1) + j = 6 + (6 * i + j) by omega, getD_right _ _ _ 6 hl, evFlat_at es i (by simpa using h) j hj]
    rfl
theorem evFlat_len (es : List Ev) : (evFlat es).length = 6 * es.length := by
  induction es with
  | nil => rfl
  | cons v es ih =>
    show (evCells v ++ evFlat es).length = _
    rw [List.length_append, ih]
    show 6 + _ = 6 * (es.length + 1)
    omega
theorem cntTo_es (es : List Ev) (k : Int) : ∀ i, i ≤ es.length → cntTo (evFlat es) k i = cnt (es.take i) k
  | 0, _ => by simp [cntTo, cnt]
  | i + 1, h => by
    have e := evFlat_at es i (by omega) 0 (by omega)
    rw [Nat.add_zero] at e
    rw [List.take_succ_eq_append_getElem (show i < es.length by omega), cnt_snoc]
    unfold cntTo
    rw [cntTo_es es k i (by omega), e]
    rfl
theorem cntTo_all (es : List Ev) (k : Int) : cntTo (evFlat es) k es.length = cnt es k := by
  rw [cntTo_es es k es.length (Nat.le_refl _), List.take_length]
end Go.Proofs.Ytlfecmkpafgcmaa

namespace Go.Proofs.Ytlfecmkpafgcmaa
open Go.RowKit

def An.zero : An := ⟨0, 0, 0, 0⟩
/-- what Do answers of a queue that may be. -/
inductive DoR (s : St) (v : Ev) : St → An → Bool → Int → Prop
  | step {s' : St} {an : An} {ch : Bool} (hv : v.Ok) (st : Step s v s' an ch) : DoR s v s' an ch 0
  | form (er : Int) (hv : eventFault v.k v.p v.i v.b v.he v.hn = er) (h : ¬ er = 0) : DoR s v St.zero An.zero false er
theorem DoR.err {s s' : St} {v : Ev} {an : An} {ch : Bool} {er : Int} (h : DoR s v s' an ch er) : er = 0 ∨ (¬ er = 0 ∧ ch = false) := by
  cases h with
  | step => exact .inl rfl
  | form _ _ h => exact .inr ⟨h, rfl⟩
theorem do_any (s : St) (ra la : Option Addr) (rc lc : Nat) (ws : Nat → Value) (v : Ev) (w : World) (hR : RowK .i64 w ra (2 * s.rn) s.R) (hL : RowK .i64 w la (4 * s.ln) s.L) (nR : ra = none → rc = 0) (nL : la = none → lc = 0) (hW : Wins ws s.wt s.wz) (h : s.Ok) :
    Calls Try.prog 27 #[qVal s.ep s.nx s.gv (.slice ra s.rn rc) (.slice la s.ln lc) ws, evIn v] w fun e w' => ∃ (s' : St) (an : An) (ch : Bool) (er : Int) (x : Value), e = .returned (.tuple #[x, anOf an, .bool ch, .int .i64 er]) ∧ DoR s v s' an ch er ∧ QOut w w' s' x ∧ Below w.heap.size w w' := by
  by_cases hv : v.Ok
  · refine (do_step s ra la rc lc ws v w hR hL nR nL hW h hv).mono ?_
    rintro e w' ⟨s', an, ch, x, rfl, st, q, b⟩
    exact ⟨s', an, ch, 0, x, rfl, .step hv st, q, b⟩
  · refine (do_form s ra la rc lc ws v w hR hL hW h _ hv (veil rfl)).mono ?_
    rintro e w' ⟨rfl, b⟩
    exact ⟨St.zero, An.zero, false, _, _, rfl, .form _ rfl hv, ⟨⟨none, 0, none, 0, zeroW, rfl, RowK.nil _ _ _, RowK.nil _ _ _, Nat.le_refl _, Nat.le_refl _, fun _ => rfl, fun _ => rfl, zeroWins, fun x hx => (by cases hx), fun x hx => (by cases hx)⟩⟩, b⟩

end Go.Proofs.Ytlfecmkpafgcmaa
