/- Texts put together: RqM, RqF, RqJ, RtA, RbA, RbB, RdP. -/
import Derived.Test.YtcdopnkabbfooaaGreatRaLow
import Derived.Test.YtcdopnkabbfooaaGreatQuI
import Derived.Test.YtcdopnkabbfooaaGreatRqC
import Derived.Deep.QuietTactic
import Derived.Deep.DeepCutAuto
import Derived.Test.YtcdopnkabbfooaaGreatRaSeen
import Derived.Test.YtcdopnkabbfooaaGreatRqE
import Derived.Test.YtcdopnkabbfooaaGreatRaDoc
import Derived.Test.YtcdopnkabbfooaaGreatRaKH
import Derived.Test.YtcdopnkabbfooaaGreatRqI
namespace Go.Proofs.YtcdopnkabbfooaaGreat
open Go.RowKit

/-- the first k leases but those of a handle's No. -/
def keepTo (L : List Int) (hn : Int) : Nat → List Int
  | 0 => []
  | k + 1 => if L.getD (4 * k + 1) 0 = hn then keepTo L hn k else keepTo L hn k ++ [L.getD (4 * k) 0, L.getD (4 * k + 1) 0, L.getD (4 * k + 2) 0, L.getD (4 * k + 3) 0]
def keepN (L : List Int) (hn : Int) : Nat → Nat
  | 0 => 0
  | k + 1 => if L.getD (4 * k + 1) 0 = hn then keepN L hn k else keepN L hn k + 1
theorem keepN_le (L : List Int) (hn : Int) : ∀ k, keepN L hn k ≤ k
  | 0 => Nat.le_refl _
  | k + 1 => by
    have := keepN_le L hn k
    rw [keepN]
    split <;> omega
theorem keep_all (L : List Int) (hn : Int) : ∀ k, 4 * k ≤ L.length → (∀ j, j < k → ¬ L.getD (4 * j + 1) 0 = hn) → keepN L hn k = k ∧ keepTo L hn k = L.take (4 * k)
  | 0, _, _ => ⟨rfl, rfl⟩
  | k + 1, hk, h => by
    obtain ⟨i1, i2⟩ := keep_all L hn k (by omega) (fun j hj => h j (by omega))
    rw [keepN, keepTo, if_neg (h k (by omega)), if_neg (h k (by omega)), i1, i2, take_four L k (by omega)]
    exact ⟨rfl, rfl⟩
theorem keep_one (L : List Int) (hn : Int) (m : Nat) (hm : L.getD (4 * m + 1) 0 = hn) : ∀ d, 4 * (m + 1 + d) ≤ L.length → (∀ j, j < m + 1 + d → j ≠ m → ¬ L.getD (4 * j + 1) 0 = hn) → keepN L hn (m + 1 + d) = m + d ∧ keepTo L hn (m + 1 + d) = L.take (4 * m) ++ (L.take (4 * (m + 1 + d))).drop (4 * m + 4)
  | 0, hk, h => by
    obtain ⟨i1, i2⟩ := keep_all L hn m (by omega) (fun j hj => h j (by omega) (by omega))
    rw [Nat.add_zero, keepN, keepTo, if_pos hm, if_pos hm, i1, i2]
    refine ⟨rfl, ?_⟩
    rw [List.drop_eq_nil_of_le (by simp; omega), List.append_nil]
  | d + 1, hk, h => by
    obtain ⟨i1, i2⟩ := keep_one L hn m hm d (by omega) (fun j hj => h j (by omega))
    have hne := h (m + 1 + d) (by omega) (by omega)
    rw [show m + 1 + (d + 1) = (m + 1 + d) + 1 by omega, keepN, keepTo, if_neg hne, if_neg hne, i1, i2, take_four L (m + 1 + d) (by omega)]
    refine ⟨by omega, ?_⟩
    rw [List.drop_append_of_le_length (by simp; omega), List.append_assoc]
theorem keep_spec {s : St} {v : Ev} (h : s.Wf) (he : v.he = s.ep) : (keepN s.L v.hn s.ln = s.ln ∧ keepTo s.L v.hn s.ln = s.L ∧ ackAt v.he v.hn s.L s.ln = -1) ∨
    (∃ m : Nat, m < s.ln ∧ ackAt v.he v.hn s.L s.ln = m ∧ keepN s.L v.hn s.ln = s.ln - 1 ∧ keepTo s.L v.hn s.ln = s.L.take (4 * m) ++ s.L.drop (4 * m + 4)) := by
  have hl := h.ll
  have htk : s.L.take (4 * s.ln) = s.L := List.take_of_length_le (by omega)
  rcases ackAt_spec v.he v.hn s.L s.ln with ⟨ha, hno⟩ | ⟨m, hm, ha, h0, h1⟩
  · obtain ⟨k1, k2⟩ := keep_all s.L v.hn s.ln (by omega) (fun j hj e => hno j hj ⟨by rw [he]; exact (h.ok.lease j hj).epoch, e⟩)
    exact .inl ⟨k1, by rw [k2, htk], ha⟩
  · obtain ⟨d, hd⟩ : ∃ d, s.ln = m + 1 + d := ⟨s.ln - (m + 1), by omega⟩
    obtain ⟨k1, k2⟩ := keep_one s.L v.hn m h1 d (by omega) (fun j hj hne e => by
      rw [← h1] at e
      rcases Nat.lt_or_ge j m with hjm | hjm
      · have := lease_lt h.ok m j hjm hm; omega
      · have := lease_lt h.ok j m (by omega) (by omega); omega)
    rw [← hd] at k1 k2
    exact .inr ⟨m, hm, ha, by omega, by rw [k2, htk]⟩
end Go.Proofs.YtcdopnkabbfooaaGreat

namespace Go.Proofs.YtcdopnkabbfooaaGreat
open Go.RowKit

set_option maxRecDepth 20000 in
set_option maxHeartbeats 4000000 in
theorem queueDone_stale (s : St) (ra la : Option Addr) (rc lc : Nat) (ws : Nat → Value) (v : Ev) (w : World) (hR : RowK .i64 w ra (2 * s.rn) s.R) (hL : RowK .i64 w la (4 * s.ln) s.L) (hW : Wins ws s.wt s.wz) (h : s.Ok) (hv : Hid v.Ok) (HK : Hid (v.k = 3)) (hst : ¬ v.he = s.ep) :
    Calls Tryz.prog 84 #[qVal s.ep s.nx s.gv (.slice ra s.rn rc) (.slice la s.ln lc) ws, evIn v] w fun e w' => QdR s v w e w' := by
  have HC : ∀ w, Calls Tryz.prog 66 #[evIn v] w fun e w' => e = .returned (.int .i64 0) ∧ Below w.heap.size w w' := fun w => by
    have := fault_any v.k v.p v.i v.b v.he v.hn w
    rwa [show eventFault v.k v.p v.i v.b v.he v.hn = 0 from unveil hv] at this
  have hsz := h.count.sz
  have hs : s.rn + s.ln ≤ 9223372036854775807 := by omega
  go_enter Tryz.func84, Tryz.ntmps84
  go_wp2_with (first
    | (refine q_box 2 _ rfl rfl rfl rfl ?_; intro W1 q1 b1)
    | (refine q_alloc 4 rfl rfl rfl ?_; intro W3 z3 b3; have DD := Dos.made q1 b1 z3 b3; have DQ := DD.q; have HDD := veil DD; clear DD z3 b3 q1 b1)
    | (refine q_loads _ rfl rfl rfl (by assumption) ?_)
    | (go_at_call 88; refine (queueFault_yes _ _ _ _ _ _ _ _ _ _ _ _ s.wt s.wz _ (hR.below (unveil HDD).bel) (hL.below (unveil HDD).bel) hW hs h).mono ?_; rintro e W4 ⟨rfl, b4⟩; have D4 := (unveil HDD).next b4; have ev4 := D4.e; have v0 : W4.cell? ⟨W1.heap.size, 0, none⟩ = some (.int .i64 v.k) := (by simp [World.cell?, ev4]); have v1 : W4.cell? ⟨W1.heap.size, 1, none⟩ = some (.int .i64 v.p) := (by simp [World.cell?, ev4]); have v2 : W4.cell? ⟨W1.heap.size, 2, none⟩ = some (.int .i64 v.i) := (by simp [World.cell?, ev4]); have v3 : W4.cell? ⟨W1.heap.size, 3, none⟩ = some (.int .i64 v.b) := (by simp [World.cell?, ev4]); have v4 : W4.cell? ⟨W1.heap.size, 4, none⟩ = some (.int .i64 v.he) := (by simp [World.cell?, ev4]); have v5 : W4.cell? ⟨W1.heap.size, 5, none⟩ = some (.int .i64 v.hn) := (by simp [World.cell?, ev4]); have HD4 := veil D4; clear D4 HDD DQ b4 ev4)
    | (go_at_call 66; refine (HC _).mono ?_; rintro e W5 ⟨rfl, b5⟩; have D5 := (unveil HD4).next b5; have DQ5 := D5.q; have HD5 := veil D5; clear D5 HD4 b5 v0 v1 v2 v3 v4 v5)
    | (go_at_call 89; refine (queueCopy_any _ _ _ _ _ _ _ _ _ s.R s.L ws s.wt s.wz _ (hR.below (unveil HD5).bel) (hL.below (unveil HD5).bel) hW (by omega) (by omega)).mono ?_; rintro e W6 ⟨v1, v2, rfl, o1, o2, b6⟩; obtain ⟨a1, c1, rfl⟩ := own_form o1; obtain ⟨a2, c2, rfl⟩ := own_form o2; have hA5 := (unveil HD5).a.lt; have HO1 := veil (own_lower o1 hA5); have HO2 := veil (own_lower o2 hA5); have HD6 := veil ((unveil HD5).next b6); clear DQ5 o1 o2 b6)
    | (refine q_alloc 9 rfl rfl rfl ?_; intro W7 z7 b7; have HB7 := veil b7; clear b7)
    | (refine q_store _ _ rfl rfl rfl rfl z7 hW ?_; intro W8 q8 t8; have HQ8 := veil (Qd.made (unveil HD6) (unveil HO1) (unveil HO2) (unveil HB7) q8 t8); clear t8 HD6 HO1 HO2 HB7 z7 hA5 HD5; obtain ⟨c0, c1', c2', c3, c4⟩ := (unveil HQ8).d.q.heads; have z8 := (unveil HQ8).d.z; have hups := (unveil HQ8).ups; have u0 : W8.cell? ⟨W1.heap.size, 0, none⟩ = some (.int .i64 (3 : Int)) := (by simp [World.cell?, (unveil HQ8).d.e, unveil HK]); have u1 : W8.cell? ⟨W1.heap.size, 1, none⟩ = some (.int .i64 v.p) := (by simp [World.cell?, (unveil HQ8).d.e]); have u2 : W8.cell? ⟨W1.heap.size, 2, none⟩ = some (.int .i64 v.i) := (by simp [World.cell?, (unveil HQ8).d.e]); have u3 : W8.cell? ⟨W1.heap.size, 3, none⟩ = some (.int .i64 v.b) := (by simp [World.cell?, (unveil HQ8).d.e]); have u4 : W8.cell? ⟨W1.heap.size, 4, none⟩ = some (.int .i64 v.he) := (by simp [World.cell?, (unveil HQ8).d.e]); have u5 : W8.cell? ⟨W1.heap.size, 5, none⟩ = some (.int .i64 v.hn) := (by simp [World.cell?, (unveil HQ8).d.e]))
    | (refine q_store _ _ rfl rfl rfl rfl (by assumption) hW ?_; intro W9 q9 t9; have a9 := (unveil HQ8).d.a.turned t9 (by have := (unveil HQ8).ups; omega); obtain ⟨x0, x1, x2, x3⟩ := a9.cells; have xf := a9.free; have HQ9 := veil q9; have HT9 := veil t9; clear q9 t9 a9))
  obtain ⟨fa, fT, fq, fb⟩ := (unveil HQ8).out (unveil HT9) hW hR.wf hL.wf 11 0 0 0
  exact bodyPost_ret (ret_QueueDone (fT.queue (unveil HQ9) (by have := (unveil HQ8).ups; omega)) fa rfl rfl rfl rfl) rfl (QdR.of (s' := s) (.ackStale (unveil HK) hst) fq fb)

set_option maxRecDepth 20000 in
set_option maxHeartbeats 4000000 in
theorem queueDone_ack (s : St) (ra la : Option Addr) (rc lc : Nat) (ws : Nat → Value) (v : Ev) (w : World) (hR : RowK .i64 w ra (2 * s.rn) s.R) (hL : RowK .i64 w la (4 * s.ln) s.L) (hW : Wins ws s.wt s.wz) (h : s.Ok) (hv : Hid v.Ok) (HK : Hid (v.k = 3)) (HE : Hid (v.he = s.ep)) :
    Calls Tryz.prog 84 #[qVal s.ep s.nx s.gv (.slice ra s.rn rc) (.slice la s.ln lc) ws, evIn v] w fun e w' => QdR s v w e w' := by
  obtain ⟨i2, hi2, hz20, hz21, hz22⟩ := info_of Tryz.infoLease
  have HC : ∀ w, Calls Tryz.prog 66 #[evIn v] w fun e w' => e = .returned (.int .i64 0) ∧ Below w.heap.size w w' := fun w => by
    have := fault_any v.k v.p v.i v.b v.he v.hn w
    rwa [show eventFault v.k v.p v.i v.b v.he v.hn = 0 from unveil hv] at this
  have hsz := h.count.sz
  have hs : s.rn + s.ln ≤ 9223372036854775807 := by omega
  go_enter Tryz.func84, Tryz.ntmps84
  go_wp2_with (first
    | (refine q_box 2 _ rfl rfl rfl rfl ?_; intro W1 q1 b1)
    | (refine q_alloc 4 rfl rfl rfl ?_; intro W3 z3 b3; have DD := Dos.made q1 b1 z3 b3; have DQ := DD.q; have HDD := veil DD; clear DD z3 b3 q1 b1)
    | (refine q_loads _ rfl rfl rfl (by assumption) ?_)
    | (go_at_call 88; refine (queueFault_yes _ _ _ _ _ _ _ _ _ _ _ _ s.wt s.wz _ (hR.below (unveil HDD).bel) (hL.below (unveil HDD).bel) hW hs h).mono ?_; rintro e W4 ⟨rfl, b4⟩; have D4 := (unveil HDD).next b4; have ev4 := D4.e; have v0 : W4.cell? ⟨W1.heap.size, 0, none⟩ = some (.int .i64 v.k) := (by simp [World.cell?, ev4]); have v1 : W4.cell? ⟨W1.heap.size, 1, none⟩ = some (.int .i64 v.p) := (by simp [World.cell?, ev4]); have v2 : W4.cell? ⟨W1.heap.size, 2, none⟩ = some (.int .i64 v.i) := (by simp [World.cell?, ev4]); have v3 : W4.cell? ⟨W1.heap.size, 3, none⟩ = some (.int .i64 v.b) := (by simp [World.cell?, ev4]); have v4 : W4.cell? ⟨W1.heap.size, 4, none⟩ = some (.int .i64 v.he) := (by simp [World.cell?, ev4]); have v5 : W4.cell? ⟨W1.heap.size, 5, none⟩ = some (.int .i64 v.hn) := (by simp [World.cell?, ev4]); have HD4 := veil D4; clear D4 HDD DQ b4 ev4)
    | (go_at_call 66; refine (HC _).mono ?_; rintro e W5 ⟨rfl, b5⟩; have D5 := (unveil HD4).next b5; have DQ5 := D5.q; have HD5 := veil D5; clear D5 HD4 b5 v0 v1 v2 v3 v4 v5)
    | (go_at_call 89; refine (queueCopy_any _ _ _ _ _ _ _ _ _ s.R s.L ws s.wt s.wz _ (hR.below (unveil HD5).bel) (hL.below (unveil HD5).bel) hW (by omega) (by omega)).mono ?_; rintro e W6 ⟨v1, v2, rfl, o1, o2, b6⟩; obtain ⟨a1, c1, rfl⟩ := own_form o1; obtain ⟨a2, c2, rfl⟩ := own_form o2; have hA5 := (unveil HD5).a.lt; have HO1 := veil (own_lower o1 hA5); have HO2 := veil (own_lower o2 hA5); have HD6 := veil ((unveil HD5).next b6); clear DQ5 o1 o2 b6)
    | (refine q_alloc 9 rfl rfl rfl ?_; intro W7 z7 b7; have HB7 := veil b7; clear b7)
    | (refine q_store _ _ rfl rfl rfl rfl z7 hW ?_; intro W8 q8 t8; have HQ8 := veil (Qd.made (unveil HD6) (unveil HO1) (unveil HO2) (unveil HB7) q8 t8); clear t8 HD6 HO1 HO2 HB7 z7 hA5 HD5; obtain ⟨c0, c1', c2', c3, c4⟩ := (unveil HQ8).d.q.heads; have z8 := (unveil HQ8).d.z; have hups := (unveil HQ8).ups; have u0 : W8.cell? ⟨W1.heap.size, 0, none⟩ = some (.int .i64 (3 : Int)) := (by simp [World.cell?, (unveil HQ8).d.e, unveil HK]); have u1 : W8.cell? ⟨W1.heap.size, 1, none⟩ = some (.int .i64 v.p) := (by simp [World.cell?, (unveil HQ8).d.e]); have u2 : W8.cell? ⟨W1.heap.size, 2, none⟩ = some (.int .i64 v.i) := (by simp [World.cell?, (unveil HQ8).d.e]); have u3 : W8.cell? ⟨W1.heap.size, 3, none⟩ = some (.int .i64 v.b) := (by simp [World.cell?, (unveil HQ8).d.e]); have u4 : W8.cell? ⟨W1.heap.size, 4, none⟩ = some (.int .i64 s.ep) := (by simp [World.cell?, (unveil HQ8).d.e, unveil HE]); have u5 : W8.cell? ⟨W1.heap.size, 5, none⟩ = some (.int .i64 v.hn) := (by simp [World.cell?, (unveil HQ8).d.e]); obtain ⟨d0, d1, d2, d3, d4⟩ := q8.heads; have df := q8.free))
  have C0 := (unveil HQ8).noLeases
  obtain ⟨WA, hWA⟩ : ∃ WA, WA = W8.setCell ⟨W6.heap.size, 4, none⟩ (.slice none 0 0) := ⟨_, rfl⟩
  rw [← hWA] at C0 ⊢
  clear hWA HQ8 c0 c1' c2' c3 c4 z8 hups u0 u1 u2 u3 u4 u5 d0 d1 d2 d3 d4 df q8
  go_loopw [16] (fun t wr => ∃ (k : Nat) (n : Nat) (M : List Int) (v2 : Value), k ≤ s.ln ∧ t = .int .i64 k ∧ n ≤ k ∧ Qd w wr W1.heap.size (W1.heap.size + 1) W3.heap.size W6.heap.size s (.slice ra s.rn rc) (.slice la s.ln lc) ws v ⟨s.ep, s.nx, s.gv, s.rn, s.R, n, M, s.wt, s.wz⟩ (.slice a1 s.rn c1) v2 ws ∧ Hid (n = keepN s.L v.hn k ∧ M = keepTo s.L v.hn k)) (fun t _ => s.ln - (intOf t).toNat)
  case atStart => exact ⟨0, 0, [], _, Nat.zero_le _, rfl, Nat.le_refl _, C0, veil ⟨rfl, rfl⟩⟩
  case round =>
    obtain ⟨k, n, M, v2, hk, rfl, hn, C, HI⟩ := hrel
    clear C0
    obtain ⟨a2', c2', rfl⟩ := own_form C.o2
    obtain ⟨e0, e1, e2, e3, e4⟩ := C.d.q.heads
    have u5 : wr.cell? ⟨W1.heap.size, 5, none⟩ = some (.int .i64 v.hn) := by simp [World.cell?, C.d.e]
    have HC := veil C
    by_cases hlt : k < s.ln
    case pos =>
      obtain ⟨b, off, rfl⟩ := hL.form (by omega)
      obtain ⟨x0, hx0⟩ : ∃ x, x = s.L.getD (4 * k) 0 := ⟨_, rfl⟩
      obtain ⟨x1, hx1⟩ : ∃ x, x = s.L.getD (4 * k + 1) 0 := ⟨_, rfl⟩
      obtain ⟨x2, hx2⟩ : ∃ x, x = s.L.getD (4 * k + 2) 0 := ⟨_, rfl⟩
      obtain ⟨x3, hx3⟩ : ∃ x, x = s.L.getD (4 * k + 3) 0 := ⟨_, rfl⟩
      have KC : Hid (∀ w3, Below w.heap.size w w3 → (w3.cell? ⟨b, off + k * 4, none⟩ = some (.int .i64 x0) ∧ w3.cell? ⟨b, off + k * 4 + 1, none⟩ = some (.int .i64 x1) ∧ w3.cell? ⟨b, off + k * 4 + 2, none⟩ = some (.int .i64 x2) ∧ w3.cell? ⟨b, off + k * 4 + 3, none⟩ = some (.int .i64 x3)) ∧ b < w3.heap.size ∧ b ≠ w3.heap.size) := veil fun w3 hb => by
        have r3 := hL.below hb
        have := r3.lt (by omega)
        refine ⟨⟨?_, ?_, ?_, ?_⟩, this, by omega⟩
        · rw [Nat.mul_comm k 4, hx0]; exact r3.at (4 * k) (by omega)
        · rw [Nat.mul_comm k 4, hx1]; exact r3.at (4 * k + 1) (by omega)
        · rw [Nat.mul_comm k 4, hx2]; exact r3.at (4 * k + 2) (by omega)
        · rw [Nat.mul_comm k 4, hx3]; exact r3.at (4 * k + 3) (by omega)
      have HX : Hid (x0 = s.L.getD (4 * k) 0 ∧ x1 = s.L.getD (4 * k + 1) 0 ∧ x2 = s.L.getD (4 * k + 2) 0 ∧ x3 = s.L.getD (4 * k + 3) 0) := veil ⟨hx0, hx1, hx2, hx3⟩
      obtain ⟨⟨k0, k1, k2, k3⟩, hbl, hbn⟩ := unveil KC wr C.d.bel
      have HL := veil hL
      clear C hx0 hx1 hx2 hx3 hL
      by_cases hx : x1 = v.hn
      case pos =>
        have HI4 : Hid (n = keepN s.L v.hn (k + 1) ∧ M = keepTo s.L v.hn (k + 1)) := veil (by
          obtain ⟨i1, i2⟩ := unveil HI
          rw [(unveil HX).2.1] at hx
          rw [keepN, keepTo, if_pos hx, if_pos hx]
          exact ⟨i1, i2⟩)
        rw [hx] at k1
        clear HX KC HI hx
        go_wp2_with fail
        go_quiet (fail)
        have HC4 := veil ((unveil HC).next (belowN wr nq))
        clear HC e0 e1 e2 e3 e4 u5 k0 k1 k2 k3
        go_wp2
        go_roundw
        case rel => exact ⟨k + 1, n, M, _, by omega, by go_num, by omega, unveil HC4, HI4⟩
        case measure => simp [intOf]; omega
      case neg =>
        go_wp2_with fail
        go_quiet (fail)
        have HC2 := veil ((unveil HC).next (belowN wr nq))
        obtain ⟨W2, hW2⟩ : ∃ W2, W2 = wr.drewN nq := ⟨_, rfl⟩
        rw [← hW2] at HC2 ⊢
        clear hW2 HC e0 e1 e2 e3 e4 u5 k0 k1 k2 k3 hbl hbn
        have C := unveil HC2
        obtain ⟨e0, e1, e2, e3, e4⟩ := C.d.q.heads
        obtain ⟨d0, d1, d2, d3, d4⟩ := C.q.heads
        obtain ⟨⟨k0, k1, k2, k3⟩, hbl, hbn⟩ := unveil KC W2 C.d.bel
        obtain ⟨g1, g2, g3, g4, g5⟩ := C.ups
        have hn1 : w.heap.size ≠ W2.heap.size := by omega
        have hl1 : w.heap.size < W2.heap.size := by omega
        have hn3 : W6.heap.size ≠ W2.heap.size := by omega
        have b5 : Below W2.heap.size W2 (W2.alloc (.cells #[.int .i64 x0, .int .i64 x1, .int .i64 x2, .int .i64 x3] 133)).drew := Below.next (below1 _ _) ⟨rfl, rfl, rfl, Nat.le_refl _, fun _ _ => rfl⟩
        have HO5 : Hid ((W2.alloc (.cells #[.int .i64 x0, .int .i64 x1, .int .i64 x2, .int .i64 x3] 133)).drew.ownsRow (W3.heap.size + 1) 133 4 (.slice a2' n c2') n (M.map (Value.int .i64))) := veil (own_still C.o2 (fun g _ hg => b5.block g hg))
        have HB5 := veil b5
        have HI4 : Hid (n + 1 = keepN s.L v.hn (k + 1) ∧ M ++ [x0, x1, x2, x3] = keepTo s.L v.hn (k + 1)) := veil (by
          obtain ⟨i1, i2⟩ := unveil HI
          obtain ⟨y0, y1, y2, y3⟩ := unveil HX
          rw [y1] at hx
          rw [keepN, keepTo, if_neg hx, if_neg hx, i1, i2, y0, y1, y2, y3]
          exact ⟨rfl, rfl⟩)
        clear C b5 HX KC HI
        go_wp2_with fail
        clear hx
        go_region_law (refine step_append_many rfl (.tmp 186) (.tmp 192) 86 rfl (W3.heap.size + 1) 133 i2 _ 4 32 Tryz.underlying86 hi2 hz20 hz21 hz22 rfl (by decide) (.slice a2' n c2') n M rfl (unveil HO5) ⟨W2.heap.size, 0, none⟩ 1 1 [x0, x1, x2, x3] rfl rfl (news4 _ _ _ _ _ _) (by unfold maxLen; omega) (by omega) (by simp; omega) ?_; intro v' w4 own4 grow4; obtain ⟨a', cap', rfl⟩ := own_form own4; obtain ⟨q4, C4⟩ := (unveil HC2).lease (unveil HB5) grow4 [x0, x1, x2, x3] (n + 1) own4; have k4 := q4.heads.2.2.2.2; have f4 := q4.free; have HC4 := veil C4; clear C4 q4 own4 grow4)
        all_goals go_wp2
        all_goals (go_roundw <;> first | exact ⟨k + 1, n + 1, _, _, by omega, by go_num, by omega, unveil HC4, HI4⟩ | (simp [intOf]; omega))
    case neg =>
      obtain rfl : k = s.ln := by omega
      obtain ⟨d0, d1, d2, d3, d4⟩ := C.q.heads
      have z8 := C.d.z
      have q8 := C.q
      have wf : s.Wf := ⟨h, hR.len_eq, hL.len_eq⟩
      have HF := keep_spec wf (unveil HE)
      obtain ⟨i1, i3⟩ := unveil HI
      rw [← i1, ← i3] at HF
      clear C i1 i3 HI
      rcases HF with ⟨i1, i3, i4⟩ | ⟨m, hm, ha, i1, i3⟩
      · subst i1
        subst i3
        go_wp2_with (first | (refine q_loads _ rfl rfl rfl q8 ?_) | (refine q_store _ _ rfl rfl rfl rfl (by assumption) hW ?_; intro W9 q9 t9; have a9 := (unveil HC).d.a.turned t9 (by have := (unveil HC).ups; omega); obtain ⟨x0, x1, x2, x3⟩ := a9.cells; have xf := a9.free; have HQ9 := veil q9; have HT9 := veil t9; clear q9 t9 a9))
        obtain ⟨fa, fT, fq, fb⟩ := (unveil HC).out (unveil HT9) hW hR.wf hL.wf 7 0 0 0
        exact bodyPost_ret (ret_QueueDone (fT.queue (unveil HQ9) (by have := (unveil HC).ups; omega)) fa rfl rfl rfl rfl) rfl (QdR.of (s' := s) (.ackNone (unveil HK) (unveil HE) i4) fq fb)
      · have hne : ¬ n = s.ln := by omega
        have hnb : ((n : Int) == (s.ln : Int)) = false := by simp; omega
        have HM : Hid (n = s.ln - 1 ∧ M = s.L.take (4 * m) ++ s.L.drop (4 * m + 4)) := veil ⟨i1, i3⟩
        have wM : ∀ u ∈ M, (Lit.int .i64 u).wf = true := by rw [i3]; exact cut_wf hL.wf _ _
        have HS : Hid (Step s v ⟨s.ep, s.nx, s.gv, s.rn, s.R, n, M, s.wt, s.wz⟩ ⟨0, 0, 0, 0⟩ true) := veil (by rw [i1, i3]; exact .ack (unveil HK) (unveil HE) m hm ha)
        clear i1 i3 ha
        go_wp2_with (first | (refine q_loads _ rfl rfl rfl q8 ?_) | (refine q_store _ _ rfl rfl rfl rfl (by assumption) hW ?_; intro W9 q9 t9; have a9 := (unveil HC).d.a.turned t9 (by have := (unveil HC).ups; omega); obtain ⟨x0, x1, x2, x3⟩ := a9.cells; have xf := a9.free; have HQ9 := veil q9; have HT9 := veil t9; clear q9 t9 a9))
        obtain ⟨fa, fT, fq, fb⟩ := (unveil HC).out (unveil HT9) hW hR.wf wM 0 0 0 0
        exact bodyPost_ret (ret_QueueDone (fT.queue (unveil HQ9) (by have := (unveil HC).ups; omega)) fa rfl rfl rfl rfl) rfl (QdR.of (s' := _) (unveil HS) fq fb)
end Go.Proofs.YtcdopnkabbfooaaGreat

namespace Go.Proofs.YtcdopnkabbfooaaGreat
open Go.RowKit

theorem queueDone_step (s : St) (ra la : Option Addr) (rc lc : Nat) (ws : Nat → Value) (v : Ev) (w : World) (hR : RowK .i64 w ra (2 * s.rn) s.R) (hL : RowK .i64 w la (4 * s.ln) s.L) (hW : Wins ws s.wt s.wz) (h : s.Ok) (hv : v.Ok) :
    Calls Tryz.prog 84 #[qVal s.ep s.nx s.gv (.slice ra s.rn rc) (.slice la s.ln lc) ws, evIn v] w fun e w' => QdR s v w e w' := by
  have hc := h.count
  rcases Ev.cases hv with ⟨hk, h1, h2, h3, h4, h5, h6, h7, h8⟩ | ⟨hk, h1, h2, h3, h4, h5⟩ | ⟨hk, h1, h2, h3, h4, h5, h6, h7⟩ | ⟨hk, h1, h2, h3, h4, h5⟩
  · obtain ⟨P, hP⟩ : ∃ P : Nat, v.p = P := ⟨v.p.toNat, by omega⟩
    have hPt : v.p.toNat = P := by omega
    have hP4 : P < 4 := by omega
    have hw := h.wins P hP4
    by_cases g1 : v.i < s.wt P - 8
    · refine queueDone_pub s ra la rc lc ws v w hR hL hW h (veil hv) (veil hk) P hP4 (veil hP) 0 noneS false 9 (fun w => idTaken_err _ _ 9 _ w (by decide) (fun w => idSeen_low _ _ _ w hw h3 h4 g1)) (veil fun _ => ?_) (veil fun g => by simp at g) (fun g => by simp at g)
      exact .pubLow hk (by rw [hPt]; exact g1)
    · cases g2 : inWin (s.wt P) (s.wz P) v.i with
      | true =>
        refine queueDone_pub s ra la rc lc ws v w hR hL hW h (veil hv) (veil hk) P hP4 (veil hP) (s.wt P) (s.wz P) false 0 (fun w => idTaken_old _ _ _ w hw h3 h4 g2) (veil fun _ => ?_) (veil fun g => by simp at g) (fun _ g => by simp at g)
        exact .pubOld hk (by rw [hPt]; exact g2)
      | false =>
        by_cases g3 : 500 ≤ s.rn + s.ln ∨ s.nx = 1073741824
        · refine queueDone_pub s ra la rc lc ws v w hR hL hW h (veil hv) (veil hk) P hP4 (veil hP) (takeT (s.wt P) v.i) (takeS (s.wt P) (s.wz P) v.i) true 0 (fun w => idTaken_new _ _ _ w hw h3 h4 (by omega) g2) (veil fun g => by simp at g) (veil fun _ hf => ?_) (fun _ _ => g3)
          exact .pubFull hk (by rw [hPt]; omega) (by rw [hPt]; exact g2) hf
        · have hn1 := hc.n1
          refine queueDone_new s ra la rc lc ws v w hR hL hW h (veil hv) (veil hk) P hP4 (veil hP) (takeT (s.wt P) v.i) (takeS (s.wt P) (s.wz P) v.i) (fun w => idTaken_new _ _ _ w hw h3 h4 (by omega) g2) (by omega) (by omega) (wf_in (by omega) (by omega)) (veil ?_)
          have := Step.pub (s := s) hk (by rw [hPt]; omega) (by rw [hPt]; exact g2) (by omega) (by omega)
          rw [hPt] at this
          exact this
  · by_cases g1 : s.rn = 0
    · exact queueDone_empty s ra la rc lc ws v w hR hL hW h (veil hv) (veil hk) (veil g1)
    · by_cases g2 : s.gv = 1073741824
      · exact queueDone_given s ra la rc lc ws v w hR hL hW h (veil hv) (veil hk) (by omega) (veil g2)
      · have := hc.g1
        exact queueDone_recv s ra la rc lc ws v w hR hL hW h (veil hv) (veil hk) (by omega) (by omega)
  · by_cases g1 : v.he = s.ep
    · exact queueDone_ack s ra la rc lc ws v w hR hL hW h (veil hv) (veil hk) (veil g1)
    · exact queueDone_stale s ra la rc lc ws v w hR hL hW h (veil hv) (veil hk) g1
  · by_cases g1 : s.ep = 1048576
    · exact queueDone_endFull s ra la rc lc ws v w hR hL hW h (veil hv) (veil hk) (veil g1)
    · have := hc.e1
      exact queueDone_stop s ra la rc lc ws v w hR hL hW h (veil hv) (veil hk) (by omega)
theorem queueDone_any (s : St) (ra la : Option Addr) (rc lc : Nat) (ws : Nat → Value) (v : Ev) (w : World) (hR : RowK .i64 w ra (2 * s.rn) s.R) (hL : RowK .i64 w la (4 * s.ln) s.L) (hW : Wins ws s.wt s.wz) (h : s.Ok) :
    Calls Tryz.prog 84 #[qVal s.ep s.nx s.gv (.slice ra s.rn rc) (.slice la s.ln lc) ws, evIn v] w fun e w' => ∃ (s' : St) (an : An) (ch : Bool) (er : Int) (x : Value), e = .returned (.tuple #[x, anOf an, .bool ch, .int .i64 er]) ∧ DoR s v s' an ch er ∧ QOut w w' s' x ∧ Below w.heap.size w w' := by
  by_cases hv : v.Ok
  · refine (queueDone_step s ra la rc lc ws v w hR hL hW h hv).mono ?_
    rintro e w' ⟨s', an, ch, x, rfl, st, q, b⟩
    exact ⟨s', an, ch, 0, x, rfl, .step hv st, q, b⟩
  · refine (queueDone_form s ra la rc lc ws v w hR hL hW h _ hv (veil rfl)).mono ?_
    rintro e w' ⟨rfl, b⟩
    exact ⟨St.zero, An.zero, false, _, _, rfl, .form _ rfl hv, ⟨⟨none, 0, none, 0, zeroW, rfl, RowK.nil _ _ _, RowK.nil _ _ _, Nat.le_refl _, Nat.le_refl _, fun _ => rfl, fun _ => rfl, zeroWins, fun x hx => (by cases hx), fun x hx => (by cases hx)⟩⟩, b⟩
theorem DoR.det {s s1 s2 : St} {v : Ev} {a1 a2 : An} {c1 c2 : Bool} {e1 e2 : Int} (h : s.Wf) (x : DoR s v s1 a1 c1 e1) (y : DoR s v s2 a2 c2 e2) : s1 = s2 ∧ a1 = a2 ∧ c1 = c2 ∧ e1 = e2 := by
  cases x with
  | step hv st =>
    cases y with
    | step hv' st' => obtain ⟨h1, h2, h3⟩ := Step.det h st st'; exact ⟨h1, h2, h3, rfl⟩
    | form _ hv' h0 => exact absurd (hv'.symm.trans hv) h0
  | form _ hv h0 =>
    cases y with
    | step hv' st' => exact absurd (hv.symm.trans hv') h0
    | form _ hv' h0' => exact ⟨rfl, rfl, rfl, hv.symm.trans hv'⟩
end Go.Proofs.YtcdopnkabbfooaaGreat

namespace Go.Proofs.YtcdopnkabbfooaaGreat
open Go.RowKit

theorem ret_Told {W : World} {Z : Nat} {ep nx gv : Int} {r l va : Value} {ws : Nat → Value} {er : Int} {tmps : Array Value} (q : qBlock W Z ep nx gv r l ws) (t2 : tmps[2]? = some (.pointer (some ⟨Z, 0, none⟩))) (t3 : tmps[3]? = some va) (t4 : tmps[4]? = some (.int .i64 er)) :
    (results Tryz.f79 tmps).run Tryz.prog W = .ok (.tuple #[qVal ep nx gv r l ws, va, .int .i64 er]) W := by
  have h1 := run_loadVar_row (P := Tryz.prog) W Z 92 92 _ (0, 0) _ q Tryz.underlying92 rfl (by rw [qCells_size]; exact Tryz.infoQ)
  simp [results, Tryz.results79, t2, t3, t4, asAddr, h1]
/-- what QueueDone left in two boxes. -/
def Tc (wr wx : World) (s : St) (v : Ev) (p8 p9 p10 p11 : Value) : Prop :=
  ∃ (X A : Nat) (s' : St) (an : An) (ch : Bool) (er : Int) (b1 : Option Addr) (d1 : Nat) (b2 : Option Addr) (d2 : Nat) (vs : Nat → Value), p8 = .pointer (some ⟨X, 0, none⟩) ∧ p9 = .pointer (some ⟨A, 0, none⟩) ∧ p10 = .bool ch ∧ p11 = .int .i64 er ∧ DoR s v s' an ch er ∧ Bx wx X s' b1 d1 b2 d2 vs ∧ ansBlock wx A an.c an.he an.no an.bd ∧ Below wr.heap.size wr wx ∧ wr.heap.size ≤ X ∧ wr.heap.size ≤ A ∧ s'.rn ≤ d1 ∧ s'.ln ≤ d2 ∧ (∀ x, b1 = some x → wr.heap.size ≤ x.block) ∧ (∀ x, b2 = some x → wr.heap.size ≤ x.block)
/-- the answers that Told gives. -/
inductive Tv (es : List Ev) (w w' : World) : St → Value → Int → Prop
  | bad {er : Int} (h : ¬ er = 0) (hr : Rv es St.zero er) : Tv es w w' St.zero (.slice none 0 0) er
  | told {s : St} {va : Value} (ans : List An) (h : es.length ≤ 2000) (ht : Tells es s ans) (own : w'.ownsRow w.heap.size 75 4 va ans.length ((anFlat ans).map (Value.int .i64))) : Tv es w w' s va 0
theorem Tv.rv {es : List Ev} {w w' : World} {s : St} {va : Value} {er : Int} (h : Tv es w w' s va er) : Rv es s er := by
  cases h with
  | bad h hr => exact hr
  | told ans h ht own => exact .told ans h ht
set_option maxRecDepth 20000 in
set_option maxHeartbeats 8000000 in
theorem told_any (es : List Ev) (a : Option Addr) (cap : Nat) (w : World) (hr : RowK .i64 w a (6 * es.length) (evFlat es)) :
    Calls Tryz.prog 79 #[.slice a es.length cap] w fun e w' => ∃ x va er s, e = .returned (.tuple #[x, va, .int .i64 er]) ∧ Tv es w w' s va er ∧ QOut w w' s x ∧ Below w.heap.size w w' := by
  obtain ⟨i4, hi4, hz40, hz41, hz42⟩ := info_of Tryz.infoAns
  by_cases hl : es.length ≤ 2000
  case neg =>
    go_enter Tryz.func79, Tryz.ntmps79
    go_wp2_with (first
      | (refine q_alloc 2 rfl rfl rfl ?_; intro W1 z1 b1; have HB1 := veil b1; clear b1)
      | (refine q_build0 rfl rfl ?_)
      | (refine q_store (ra := none) (la := none) (rn := 0) (rc := 0) (ln := 0) (lc := 0) (ws' := zeroW) _ _ rfl rfl rfl rfl z1 zeroWins ?_; intro W4 q4 t4; have HQ4 := veil q4; have HT4 := veil t4; clear q4 t4))
    exact bodyPost_ret (ret_Told (unveil HQ4) rfl rfl rfl) rfl ⟨_, _, _, St.zero, rfl, .bad (by decide) (.size (by omega)), ⟨none, 0, none, 0, zeroW, rfl, RowK.nil _ _ _, RowK.nil _ _ _, Nat.le_refl _, Nat.le_refl _, fun _ => rfl, fun _ => rfl, zeroWins, fun x hx => (by cases hx), fun x hx => (by cases hx)⟩, (unveil HT4).under (unveil HB1) (Nat.le_refl _)⟩
  case pos =>
  go_enter Tryz.func79, Tryz.ntmps79
  go_upto_region 6 with (first
    | (refine q_alloc 2 rfl rfl rfl ?_; intro W1 z1 b1)
    | (refine q_alloc 5 rfl rfl rfl ?_; intro W2 z2 b2; have z1' := z1.next b2))
  have s1 : w.heap.size < W1.heap.size := z1.lt
  have P0 : Pl w W2 w.heap.size W1.heap.size St.zero none 0 none 0 zeroW (.slice none 0 0) (.slice none 0 0) [] [] :=
    ⟨z1', ⟨z2, RowK.nil _ _ _, RowK.nil _ _ _, Nat.le_refl _, Nat.le_refl _, fun _ => rfl, fun _ => rfl, zeroWins, (fun x hx => by cases hx), (fun x hx => by cases hx)⟩, World.ownsRow_nil _ _ _ _, World.ownsRow_nil _ _ _ _, Below.next b1 b2, Nat.le_refl _, s1⟩
  obtain ⟨B, hB⟩ : ∃ B, B = W1.heap.size := ⟨_, rfl⟩
  rw [← hB] at P0 s1 ⊢
  clear hB z1 z2 z1' b1 b2
  go_loopw [6, 7] (fun va t wr => ∃ (k : Nat) (s : St) (a1 : Option Addr) (c1 : Nat) (a2 : Option Addr) (c2 : Nat) (ws : Nat → Value) (ans : List An), k ≤ es.length ∧ t = .int .i64 k ∧ Pl w wr w.heap.size B s a1 c1 a2 c2 ws (.slice none 0 0) va [] ans ∧ Hid (Tells (es.take k) s ans)) (fun _ t _ => es.length - (intOf t).toNat)
  case atStart => exact ⟨0, St.zero, none, 0, none, 0, zeroW, [], by omega, rfl, P0, veil (by simpa using Tells.nil)⟩
  case round =>
    obtain ⟨k, s, a1, c1, a2, c2, ws, ans, hk, rfl, P, HH⟩ := hrel
    clear P0
    obtain ⟨aa, ca, rfl⟩ := own_form P.oa
    have hW0 := P.q.wins
    by_cases hlt : k < es.length
    case neg =>
      obtain rfl : k = es.length := by omega
      have q0 := P.q.q
      have z0 := P.z
      have hu := P.upB
      have HP := veil P
      clear P
      go_wp2_with (first
        | (refine q_loads _ rfl rfl rfl q0 ?_)
        | (refine q_store (ra := a1) (la := a2) (ws' := ws) _ _ rfl rfl rfl rfl z0 hW0 ?_; intro W4 q4 t4; have HQ4 := veil q4; have HT4 := veil t4; clear q4 t4))
      have X3 := unveil HP
      have X4 := unveil HT4
      have ht := unveil HH
      rw [List.take_length] at ht
      exact bodyPost_ret (ret_Told (unveil HQ4) rfl rfl rfl) rfl ⟨_, _, _, s, rfl, .told ans hl ht (own_lower (X4.own X3.oa (by omega)) (by omega)), ⟨a1, c1, a2, c2, ws, rfl, X4.row X3.q.r1 (fun x hx _ => by have := X3.q.f1 x hx; omega), X4.row X3.q.r2 (fun x hx _ => by have := X3.q.f2 x hx; omega), X3.q.l1, X3.q.l2, X3.q.n1, X3.q.n2, hW0, fun x hx => Nat.le_of_lt (X3.q.f1 x hx), fun x hx => Nat.le_of_lt (X3.q.f2 x hx)⟩, X4.under X3.bel (Nat.le_refl _)⟩
    case pos =>
    have hrr := hr.below P.bel
    obtain ⟨g, off, rfl⟩ := hr.form (by omega)
    have hgl : g < wr.heap.size := hrr.lt (by omega)
    obtain ⟨x0, x1, x2, x3, x4, x5⟩ := hrr.six k hlt
    have ea : ∀ t, t < 6 → (evFlat es).getD (6 * k + t) 0 = (evCells es[k]).getD t 0 := fun t ht => evFlat_at es k hlt t ht
    rw [show 6 * k = 6 * k + 0 from rfl, ea 0 (by omega)] at x0
    rw [ea 1 (by omega)] at x1
    rw [ea 2 (by omega)] at x2
    rw [ea 3 (by omega)] at x3
    rw [ea 4 (by omega)] at x4
    rw [ea 5 (by omega)] at x5
    obtain ⟨v, hv⟩ : ∃ v, v = es[k] := ⟨_, rfl⟩
    rw [← hv] at x0 x1 x2 x3 x4 x5
    simp only [evCells, List.getD_cons_zero, List.getD_cons_succ] at x0 x1 x2 x3 x4 x5
    have HV := veil hv
    have HR := veil hr
    have q0 := P.q.q
    have hwf := (unveil HH).wf
    have HDo : Hid (∀ W, Below wr.heap.size wr W → Calls Tryz.prog 84 #[qVal s.ep s.nx s.gv (.slice a1 s.rn c1) (.slice a2 s.ln c2) ws, evIn v] W fun e w' => ∃ (s' : St) (an : An) (ch : Bool) (er : Int) (x : Value), e = .returned (.tuple #[x, anOf an, .bool ch, .int .i64 er]) ∧ DoR s v s' an ch er ∧ QOut W w' s' x ∧ Below W.heap.size W w') := veil fun W hb => queueDone_any s a1 a2 c1 c2 ws v W (P.q.r1.below hb) (P.q.r2.below hb) P.q.wins hwf.ok
    have HP := veil P
    clear P hrr ea hv hr hwf
    go_upto_region 8 with fail
    go_cut [8, 9, 10, 11] (fun p8 p9 p10 p11 wx => Tc wr wx s v p8 p9 p10 p11)
    case first =>
      as_aux_lemma =>
      refine wp_region_held_drew (S := Below wr.heap.size wr) (by kernel_rfl) (below_drew wr) (fun hHeld => ?_)
      refine wpAnyH_take (i := 0) (v := _) rfl (by kernel_rfl) (by kernel_rfl) (by kernel_rfl) (fun _ _ _ h => h) (yields_q _ rfl rfl rfl (fun _ b3 => q0.next b3)) hHeld ?_
      simp only [List.getElem_toArray, List.getElem_cons_zero, Act.put, List.setIfInBounds_toArray, List.set_cons_zero, List.set_cons_succ]
      refine wpAnyH_take (i := 1) (v := .slice (some ⟨g, off, none⟩) es.length cap) rfl (by kernel_rfl) (by kernel_rfl) (by kernel_rfl) (fun _ _ _ h => h) (Or.inl ⟨by rfl, fun _ _ => by go_simp⟩) hHeld ?_
      simp only [List.getElem_toArray, List.getElem_cons_zero, List.getElem_cons_succ, Act.put, List.setIfInBounds_toArray, List.set_cons_zero, List.set_cons_succ]
      refine wpAnyH_take (i := 2) (v := .int .i64 k) rfl (by kernel_rfl) (by kernel_rfl) (by kernel_rfl) (fun _ _ _ h => h) (Or.inl ⟨by rfl, fun _ _ => by go_simp⟩) hHeld ?_
      simp only [List.getElem_toArray, List.getElem_cons_zero, List.getElem_cons_succ, Act.put, List.setIfInBounds_toArray, List.set_cons_zero, List.set_cons_succ]
      refine wpAnyH_take (i := 3) (v := .pointer (some ⟨g, off + k * 6, none⟩)) rfl (by kernel_rfl) (by kernel_rfl) (by kernel_rfl) (fun _ _ _ h => h) (Or.inl ⟨by rfl, fun _ _ => by go_simp⟩) hHeld ?_
      simp only [List.getElem_toArray, List.getElem_cons_zero, List.getElem_cons_succ, Act.put, List.setIfInBounds_toArray, List.set_cons_zero, List.set_cons_succ]
      refine wpAnyH_take (i := 4) (v := .agg #[.int .i64 v.k, .int .i64 v.p, .int .i64 v.i, .int .i64 v.b, .int .i64 v.he, .int .i64 v.hn]) rfl (by kernel_rfl) (by kernel_rfl) (by kernel_rfl) (fun _ _ _ h => h) (Or.inl ⟨by rfl, fun w3 b3 => by have j0 := (b3.cell (p := ⟨g, off + k * 6, none⟩) hgl).trans x0; have j1 := (b3.cell (p := ⟨g, off + k * 6 + 1, none⟩) hgl).trans x1; have j2 := (b3.cell (p := ⟨g, off + k * 6 + 2, none⟩) hgl).trans x2; have j3 := (b3.cell (p := ⟨g, off + k * 6 + 3, none⟩) hgl).trans x3; have j4 := (b3.cell (p := ⟨g, off + k * 6 + 4, none⟩) hgl).trans x4; have j5 := (b3.cell (p := ⟨g, off + k * 6 + 5, none⟩) hgl).trans x5; go_simp⟩) hHeld ?_
      simp only [List.getElem_toArray, List.getElem_cons_zero, List.getElem_cons_succ, Act.put, List.setIfInBounds_toArray, List.set_cons_zero, List.set_cons_succ]
      have bW0 := below_drew wr
      have hz0 : wr.heap.size ≤ wr.drew.heap.size := bW0.size
      obtain ⟨W0, hW0⟩ : ∃ W0, W0 = wr.drew := ⟨_, rfl⟩
      rw [← hW0] at bW0 hz0 hHeld ⊢
      clear hW0
      refine wpAnyH_ready (rs := [5, 11, 12]) (by kernel_rfl) (by simp) ?_
      refine AllReadyH.cons rfl (fun K hK => ?_) (AllReadyH.cons rfl (fun K hK => ?_) (AllReadyH.cons rfl (fun K hK => ?_) AllReadyH.nil))
      · simp only [List.getElem_toArray, List.getElem_cons_zero, List.getElem_cons_succ]
        go_simp
        refine (unveil HDo _ bW0).mono ?_
        rintro e WC ⟨s', an, ch, er, x', rfl, hs', ⟨⟨b1', d1', b2', d2', vs', rfl, r1, r2, l1', l2', n1, n2, hW'', f1, f2⟩⟩, bn⟩
        have HS' := veil hs'
        clear hs'
        have hr1 := fun x hx h0 => r1.blk_lt x hx h0
        have hr2 := fun x hx h0 => r2.blk_lt x hx h0
        have bWC := Below.next bW0 bn
        have hSWC : W0.heap.size ≤ WC.heap.size := bn.size
        refine hK.out _ _ bWC (fun hHeld => ?_)
        clear hK K bn
        refine wpAnyH_take (i := 6) (v := .tuple #[qVal s'.ep s'.nx s'.gv (.slice b1' s'.rn d1') (.slice b2' s'.ln d2') vs', ansVal an.c an.he an.no an.bd, .bool ch, .int .i64 er]) rfl (by kernel_rfl) (by kernel_rfl) (by kernel_rfl) (fun _ _ _ h => h) (Or.inl ⟨by rfl, fun _ _ => by go_simp⟩) hHeld ?_
        simp only [List.getElem_toArray, List.getElem_cons_zero, List.getElem_cons_succ, Act.put, List.setIfInBounds_toArray, List.set_cons_zero, List.set_cons_succ]
        refine wpAnyH_take (i := 7) (v := qVal s'.ep s'.nx s'.gv (.slice b1' s'.rn d1') (.slice b2' s'.ln d2') vs') rfl (by kernel_rfl) (by kernel_rfl) (by kernel_rfl) (fun _ _ _ h => h) (Or.inl ⟨by rfl, fun _ _ => by go_simp⟩) hHeld ?_
        simp only [List.getElem_toArray, List.getElem_cons_zero, List.getElem_cons_succ, Act.put, List.setIfInBounds_toArray, List.set_cons_zero, List.set_cons_succ]
        refine wpAnyH_take (i := 8) (v := ansVal an.c an.he an.no an.bd) rfl (by kernel_rfl) (by kernel_rfl) (by kernel_rfl) (fun _ _ _ h => h) (Or.inl ⟨by rfl, fun _ _ => by go_simp⟩) hHeld ?_
        simp only [List.getElem_toArray, List.getElem_cons_zero, List.getElem_cons_succ, Act.put, List.setIfInBounds_toArray, List.set_cons_zero, List.set_cons_succ]
        refine wpAnyH_take (i := 9) (v := .bool ch) rfl (by kernel_rfl) (by kernel_rfl) (by kernel_rfl) (fun _ _ _ h => h) (Or.inl ⟨by rfl, fun _ _ => by go_simp⟩) hHeld ?_
        simp only [List.getElem_toArray, List.getElem_cons_zero, List.getElem_cons_succ, Act.put, List.setIfInBounds_toArray, List.set_cons_zero, List.set_cons_succ]
        refine wpAnyH_take (i := 10) (v := .int .i64 er) rfl (by kernel_rfl) (by kernel_rfl) (by kernel_rfl) (fun _ _ _ h => h) (Or.inl ⟨by rfl, fun _ _ => by go_simp⟩) hHeld ?_
        simp only [List.getElem_toArray, List.getElem_cons_zero, List.getElem_cons_succ, Act.put, List.setIfInBounds_toArray, List.set_cons_zero, List.set_cons_succ]
        refine wpAnyH_ready (rs := [11, 12]) (by kernel_rfl) (by simp) ?_
        refine AllReadyH.cons rfl (fun K hK => ?_) (AllReadyH.cons rfl (fun K hK => ?_) AllReadyH.nil)
        · simp only [List.getElem_toArray, List.getElem_cons_zero, List.getElem_cons_succ]
          refine ite_wanted rfl ?_
          refine q_alloc_wp 8 rfl rfl ?_
          intro WCQ zq bn
          have hXq : WC.heap.size < WCQ.heap.size := zq.lt
          have bWCQ := Below.next bWC bn
          have r1 := r1.below bn
          have r2 := r2.below bn
          have hSWCQ : WC.heap.size ≤ WCQ.heap.size := bn.size
          refine hK.out _ _ bWCQ (fun hHeld => ?_)
          clear hK K bn
          refine wpAnyH_ready (rs := [12]) (by kernel_rfl) (by simp) ?_
          refine AllReadyH.cons rfl (fun K hK => ?_) AllReadyH.nil
          · simp only [List.getElem_toArray, List.getElem_cons_zero, List.getElem_cons_succ]
            go_simp
            obtain ⟨WCQA, hWCQA, ya, bn⟩ : ∃ W, W = WCQ.alloc (.cells #[.int .i64 0, .int .i64 0, .int .i64 0, .int .i64 0] 75) ∧ ansBlock W WCQ.heap.size 0 0 0 0 ∧ Below WCQ.heap.size WCQ W := ⟨_, rfl, ansBlock.new _ 0 0 0 0, below1 _ _⟩
            rw [← hWCQA]
            have hXa : WCQ.heap.size < WCQA.heap.size := ya.lt
            have bWCQA := Below.next bWCQ bn
            clear hWCQA
            have zq := zq.next bn
            have r1 := r1.below bn
            have r2 := r2.below bn
            have hSWCQA : WCQ.heap.size ≤ WCQA.heap.size := bn.size
            refine hK.out _ _ bWCQA (fun hHeld => ?_)
            clear hK K bn
            refine wpAnyH_ready (rs := [13]) (by kernel_rfl) (by simp) ?_
            refine AllReadyH.cons rfl (fun K hK => ?_) AllReadyH.nil
            simp only [List.getElem_toArray, List.getElem_cons_zero, List.getElem_cons_succ]
            refine ite_wanted rfl ?_
            refine q_store_wp (ra := b1') (la := b2') (ws' := vs') _ _ rfl rfl rfl zq hW'' ?_
            intro Wq q5 t5
            have ya5 := ya.turned t5 (by omega)
            have r15 := t5.row r1 (fun x hx h0 => by have := f1 x hx; have := hr1 x hx h0; omega)
            have r25 := t5.row r2 (fun x hx h0 => by have := f2 x hx; have := hr2 x hx h0; omega)
            have b5 := t5.under bWCQA (by omega)
            refine hK.out _ _ b5 (fun hHeld => ?_)
            clear hK K
            refine wpAnyH_ready (rs := [14]) (by kernel_rfl) (by simp) ?_
            refine AllReadyH.cons rfl (fun K hK => ?_) AllReadyH.nil
            simp only [List.getElem_toArray, List.getElem_cons_zero, List.getElem_cons_succ]
            obtain ⟨y0, y1, y2, y3⟩ := ya5.cells
            have yf := ya5.free
            go_simp
            have t6 := ans_turned Wq (WCQ.heap.size) an.c an.he an.no an.bd
            have ya6 := ya5.store an.c an.he an.no an.bd
            have q6 := t6.queue q5 (by omega)
            have b6 := t6.under b5 (by omega)
            have X6 : Bx _ (WC.heap.size) s' b1' d1' b2' d2' vs' := ⟨q6, t6.row r15 (fun x hx h0 => by have := f1 x hx; have := hr1 x hx h0; omega), t6.row r25 (fun x hx h0 => by have := f2 x hx; have := hr2 x hx h0; omega), n1, n2, hW''⟩
            unfold ansStore at ya6 X6 b6
            refine hK.out _ _ b6 (fun hHeld => ?_)
            clear hK K y0 y1 y2 y3 yf q6 t6
            generalize (((Wq.setCell ⟨WCQ.heap.size, 0, none⟩ (.int .i64 an.c)).setCell ⟨WCQ.heap.size, 1, none⟩ (.int .i64 an.he)).setCell ⟨WCQ.heap.size, 2, none⟩ (.int .i64 an.no)).setCell ⟨WCQ.heap.size, 3, none⟩ (.int .i64 an.bd) = W6 at ya6 X6 b6 hHeld ⊢
            refine wpAnyH_take (i := 15) (v := .bool ch) rfl (by kernel_rfl) (by kernel_rfl) (by kernel_rfl) (fun _ _ _ h => h) (Or.inl ⟨by rfl, fun _ _ => by go_simp⟩) hHeld ?_
            simp only [List.getElem_toArray, List.getElem_cons_zero, List.getElem_cons_succ, Act.put, List.setIfInBounds_toArray, List.set_cons_zero, List.set_cons_succ]
            refine wpAnyH_take (i := 16) (v := .int .i64 er) rfl (by kernel_rfl) (by kernel_rfl) (by kernel_rfl) (fun _ _ _ h => h) (Or.inl ⟨by rfl, fun _ _ => by go_simp⟩) hHeld ?_
            simp only [List.getElem_toArray, List.getElem_cons_zero, List.getElem_cons_succ, Act.put, List.setIfInBounds_toArray, List.set_cons_zero, List.set_cons_succ]
            refine wpAnyH_done (by kernel_rfl) ?_ _
            go_wp2_with fail
            go_meet
            exact ⟨_, _, s', an, ch, er, b1', d1', b2', d2', vs', rfl, rfl, rfl, rfl, unveil HS', X6, ya6, b6, (by omega), (by omega), l1', l2', fun x hx => by have := f1 x hx; omega, fun x hx => by have := f2 x hx; omega⟩
        · simp only [List.getElem_toArray, List.getElem_cons_zero, List.getElem_cons_succ]
          go_simp
          obtain ⟨WCA, hWCA, ya, bn⟩ : ∃ W, W = WC.alloc (.cells #[.int .i64 0, .int .i64 0, .int .i64 0, .int .i64 0] 75) ∧ ansBlock W WC.heap.size 0 0 0 0 ∧ Below WC.heap.size WC W := ⟨_, rfl, ansBlock.new _ 0 0 0 0, below1 _ _⟩
          rw [← hWCA]
          have hXa : WC.heap.size < WCA.heap.size := ya.lt
          have bWCA := Below.next bWC bn
          clear hWCA
          have r1 := r1.below bn
          have r2 := r2.below bn
          have hSWCA : WC.heap.size ≤ WCA.heap.size := bn.size
          refine hK.out _ _ bWCA (fun hHeld => ?_)
          clear hK K bn
          refine wpAnyH_ready (rs := [11]) (by kernel_rfl) (by simp) ?_
          refine AllReadyH.cons rfl (fun K hK => ?_) AllReadyH.nil
          · simp only [List.getElem_toArray, List.getElem_cons_zero, List.getElem_cons_succ]
            refine ite_wanted rfl ?_
            refine q_alloc_wp 8 rfl rfl ?_
            intro WCAQ zq bn
            have hXq : WCA.heap.size < WCAQ.heap.size := zq.lt
            have bWCAQ := Below.next bWCA bn
            have ya := ya.next bn
            have r1 := r1.below bn
            have r2 := r2.below bn
            have hSWCAQ : WCA.heap.size ≤ WCAQ.heap.size := bn.size
            refine hK.out _ _ bWCAQ (fun hHeld => ?_)
            clear hK K bn
            refine wpAnyH_ready (rs := [13]) (by kernel_rfl) (by simp) ?_
            refine AllReadyH.cons rfl (fun K hK => ?_) AllReadyH.nil
            simp only [List.getElem_toArray, List.getElem_cons_zero, List.getElem_cons_succ]
            refine ite_wanted rfl ?_
            refine q_store_wp (ra := b1') (la := b2') (ws' := vs') _ _ rfl rfl rfl zq hW'' ?_
            intro Wq q5 t5
            have ya5 := ya.turned t5 (by omega)
            have r15 := t5.row r1 (fun x hx h0 => by have := f1 x hx; have := hr1 x hx h0; omega)
            have r25 := t5.row r2 (fun x hx h0 => by have := f2 x hx; have := hr2 x hx h0; omega)
            have b5 := t5.under bWCAQ (by omega)
            refine hK.out _ _ b5 (fun hHeld => ?_)
            clear hK K
            refine wpAnyH_ready (rs := [14]) (by kernel_rfl) (by simp) ?_
            refine AllReadyH.cons rfl (fun K hK => ?_) AllReadyH.nil
            simp only [List.getElem_toArray, List.getElem_cons_zero, List.getElem_cons_succ]
            obtain ⟨y0, y1, y2, y3⟩ := ya5.cells
            have yf := ya5.free
            go_simp
            have t6 := ans_turned Wq (WC.heap.size) an.c an.he an.no an.bd
            have ya6 := ya5.store an.c an.he an.no an.bd
            have q6 := t6.queue q5 (by omega)
            have b6 := t6.under b5 (by omega)
            have X6 : Bx _ (WCA.heap.size) s' b1' d1' b2' d2' vs' := ⟨q6, t6.row r15 (fun x hx h0 => by have := f1 x hx; have := hr1 x hx h0; omega), t6.row r25 (fun x hx h0 => by have := f2 x hx; have := hr2 x hx h0; omega), n1, n2, hW''⟩
            unfold ansStore at ya6 X6 b6
            refine hK.out _ _ b6 (fun hHeld => ?_)
            clear hK K y0 y1 y2 y3 yf q6 t6
            generalize (((Wq.setCell ⟨WC.heap.size, 0, none⟩ (.int .i64 an.c)).setCell ⟨WC.heap.size, 1, none⟩ (.int .i64 an.he)).setCell ⟨WC.heap.size, 2, none⟩ (.int .i64 an.no)).setCell ⟨WC.heap.size, 3, none⟩ (.int .i64 an.bd) = W6 at ya6 X6 b6 hHeld ⊢
            refine wpAnyH_take (i := 15) (v := .bool ch) rfl (by kernel_rfl) (by kernel_rfl) (by kernel_rfl) (fun _ _ _ h => h) (Or.inl ⟨by rfl, fun _ _ => by go_simp⟩) hHeld ?_
            simp only [List.getElem_toArray, List.getElem_cons_zero, List.getElem_cons_succ, Act.put, List.setIfInBounds_toArray, List.set_cons_zero, List.set_cons_succ]
            refine wpAnyH_take (i := 16) (v := .int .i64 er) rfl (by kernel_rfl) (by kernel_rfl) (by kernel_rfl) (fun _ _ _ h => h) (Or.inl ⟨by rfl, fun _ _ => by go_simp⟩) hHeld ?_
            simp only [List.getElem_toArray, List.getElem_cons_zero, List.getElem_cons_succ, Act.put, List.setIfInBounds_toArray, List.set_cons_zero, List.set_cons_succ]
            refine wpAnyH_done (by kernel_rfl) ?_ _
            go_wp2_with fail
            go_meet
            exact ⟨_, _, s', an, ch, er, b1', d1', b2', d2', vs', rfl, rfl, rfl, rfl, unveil HS', X6, ya6, b6, (by omega), (by omega), l1', l2', fun x hx => by have := f1 x hx; omega, fun x hx => by have := f2 x hx; omega⟩
      · simp only [List.getElem_toArray, List.getElem_cons_zero, List.getElem_cons_succ]
        refine ite_wanted rfl ?_
        refine q_alloc_wp 8 rfl rfl ?_
        intro WQ zq bn
        have hXq : W0.heap.size < WQ.heap.size := zq.lt
        have bWQ := Below.next bW0 bn
        have hSWQ : W0.heap.size ≤ WQ.heap.size := bn.size
        refine hK.out _ _ bWQ (fun hHeld => ?_)
        clear hK K bn
        refine wpAnyH_ready (rs := [5, 12]) (by kernel_rfl) (by simp) ?_
        refine AllReadyH.cons rfl (fun K hK => ?_) (AllReadyH.cons rfl (fun K hK => ?_) AllReadyH.nil)
        · simp only [List.getElem_toArray, List.getElem_cons_zero, List.getElem_cons_succ]
          go_simp
          refine (unveil HDo _ bWQ).mono ?_
          rintro e WQC ⟨s', an, ch, er, x', rfl, hs', ⟨⟨b1', d1', b2', d2', vs', rfl, r1, r2, l1', l2', n1, n2, hW'', f1, f2⟩⟩, bn⟩
          have HS' := veil hs'
          clear hs'
          have hr1 := fun x hx h0 => r1.blk_lt x hx h0
          have hr2 := fun x hx h0 => r2.blk_lt x hx h0
          have bWQC := Below.next bWQ bn
          have zq := zq.next bn
          have hSWQC : WQ.heap.size ≤ WQC.heap.size := bn.size
          refine hK.out _ _ bWQC (fun hHeld => ?_)
          clear hK K bn
          refine wpAnyH_take (i := 6) (v := .tuple #[qVal s'.ep s'.nx s'.gv (.slice b1' s'.rn d1') (.slice b2' s'.ln d2') vs', ansVal an.c an.he an.no an.bd, .bool ch, .int .i64 er]) rfl (by kernel_rfl) (by kernel_rfl) (by kernel_rfl) (fun _ _ _ h => h) (Or.inl ⟨by rfl, fun _ _ => by go_simp⟩) hHeld ?_
          simp only [List.getElem_toArray, List.getElem_cons_zero, List.getElem_cons_succ, Act.put, List.setIfInBounds_toArray, List.set_cons_zero, List.set_cons_succ]
          refine wpAnyH_take (i := 7) (v := qVal s'.ep s'.nx s'.gv (.slice b1' s'.rn d1') (.slice b2' s'.ln d2') vs') rfl (by kernel_rfl) (by kernel_rfl) (by kernel_rfl) (fun _ _ _ h => h) (Or.inl ⟨by rfl, fun _ _ => by go_simp⟩) hHeld ?_
          simp only [List.getElem_toArray, List.getElem_cons_zero, List.getElem_cons_succ, Act.put, List.setIfInBounds_toArray, List.set_cons_zero, List.set_cons_succ]
          refine wpAnyH_take (i := 8) (v := ansVal an.c an.he an.no an.bd) rfl (by kernel_rfl) (by kernel_rfl) (by kernel_rfl) (fun _ _ _ h => h) (Or.inl ⟨by rfl, fun _ _ => by go_simp⟩) hHeld ?_
          simp only [List.getElem_toArray, List.getElem_cons_zero, List.getElem_cons_succ, Act.put, List.setIfInBounds_toArray, List.set_cons_zero, List.set_cons_succ]
          refine wpAnyH_take (i := 9) (v := .bool ch) rfl (by kernel_rfl) (by kernel_rfl) (by kernel_rfl) (fun _ _ _ h => h) (Or.inl ⟨by rfl, fun _ _ => by go_simp⟩) hHeld ?_
          simp only [List.getElem_toArray, List.getElem_cons_zero, List.getElem_cons_succ, Act.put, List.setIfInBounds_toArray, List.set_cons_zero, List.set_cons_succ]
          refine wpAnyH_take (i := 10) (v := .int .i64 er) rfl (by kernel_rfl) (by kernel_rfl) (by kernel_rfl) (fun _ _ _ h => h) (Or.inl ⟨by rfl, fun _ _ => by go_simp⟩) hHeld ?_
          simp only [List.getElem_toArray, List.getElem_cons_zero, List.getElem_cons_succ, Act.put, List.setIfInBounds_toArray, List.set_cons_zero, List.set_cons_succ]
          refine wpAnyH_ready (rs := [12]) (by kernel_rfl) (by simp) ?_
          refine AllReadyH.cons rfl (fun K hK => ?_) AllReadyH.nil
          · simp only [List.getElem_toArray, List.getElem_cons_zero, List.getElem_cons_succ]
            go_simp
            obtain ⟨WQCA, hWQCA, ya, bn⟩ : ∃ W, W = WQC.alloc (.cells #[.int .i64 0, .int .i64 0, .int .i64 0, .int .i64 0] 75) ∧ ansBlock W WQC.heap.size 0 0 0 0 ∧ Below WQC.heap.size WQC W := ⟨_, rfl, ansBlock.new _ 0 0 0 0, below1 _ _⟩
            rw [← hWQCA]
            have hXa : WQC.heap.size < WQCA.heap.size := ya.lt
            have bWQCA := Below.next bWQC bn
            clear hWQCA
            have zq := zq.next bn
            have r1 := r1.below bn
            have r2 := r2.below bn
            have hSWQCA : WQC.heap.size ≤ WQCA.heap.size := bn.size
            refine hK.out _ _ bWQCA (fun hHeld => ?_)
            clear hK K bn
            refine wpAnyH_ready (rs := [13]) (by kernel_rfl) (by simp) ?_
            refine AllReadyH.cons rfl (fun K hK => ?_) AllReadyH.nil
            simp only [List.getElem_toArray, List.getElem_cons_zero, List.getElem_cons_succ]
            refine ite_wanted rfl ?_
            refine q_store_wp (ra := b1') (la := b2') (ws' := vs') _ _ rfl rfl rfl zq hW'' ?_
            intro Wq q5 t5
            have ya5 := ya.turned t5 (by omega)
            have r15 := t5.row r1 (fun x hx h0 => by have := f1 x hx; have := hr1 x hx h0; omega)
            have r25 := t5.row r2 (fun x hx h0 => by have := f2 x hx; have := hr2 x hx h0; omega)
            have b5 := t5.under bWQCA (by omega)
            refine hK.out _ _ b5 (fun hHeld => ?_)
            clear hK K
            refine wpAnyH_ready (rs := [14]) (by kernel_rfl) (by simp) ?_
            refine AllReadyH.cons rfl (fun K hK => ?_) AllReadyH.nil
            simp only [List.getElem_toArray, List.getElem_cons_zero, List.getElem_cons_succ]
            obtain ⟨y0, y1, y2, y3⟩ := ya5.cells
            have yf := ya5.free
            go_simp
            have t6 := ans_turned Wq (WQC.heap.size) an.c an.he an.no an.bd
            have ya6 := ya5.store an.c an.he an.no an.bd
            have q6 := t6.queue q5 (by omega)
            have b6 := t6.under b5 (by omega)
            have X6 : Bx _ (W0.heap.size) s' b1' d1' b2' d2' vs' := ⟨q6, t6.row r15 (fun x hx h0 => by have := f1 x hx; have := hr1 x hx h0; omega), t6.row r25 (fun x hx h0 => by have := f2 x hx; have := hr2 x hx h0; omega), n1, n2, hW''⟩
            unfold ansStore at ya6 X6 b6
            refine hK.out _ _ b6 (fun hHeld => ?_)
            clear hK K y0 y1 y2 y3 yf q6 t6
            generalize (((Wq.setCell ⟨WQC.heap.size, 0, none⟩ (.int .i64 an.c)).setCell ⟨WQC.heap.size, 1, none⟩ (.int .i64 an.he)).setCell ⟨WQC.heap.size, 2, none⟩ (.int .i64 an.no)).setCell ⟨WQC.heap.size, 3, none⟩ (.int .i64 an.bd) = W6 at ya6 X6 b6 hHeld ⊢
            refine wpAnyH_take (i := 15) (v := .bool ch) rfl (by kernel_rfl) (by kernel_rfl) (by kernel_rfl) (fun _ _ _ h => h) (Or.inl ⟨by rfl, fun _ _ => by go_simp⟩) hHeld ?_
            simp only [List.getElem_toArray, List.getElem_cons_zero, List.getElem_cons_succ, Act.put, List.setIfInBounds_toArray, List.set_cons_zero, List.set_cons_succ]
            refine wpAnyH_take (i := 16) (v := .int .i64 er) rfl (by kernel_rfl) (by kernel_rfl) (by kernel_rfl) (fun _ _ _ h => h) (Or.inl ⟨by rfl, fun _ _ => by go_simp⟩) hHeld ?_
            simp only [List.getElem_toArray, List.getElem_cons_zero, List.getElem_cons_succ, Act.put, List.setIfInBounds_toArray, List.set_cons_zero, List.set_cons_succ]
            refine wpAnyH_done (by kernel_rfl) ?_ _
            go_wp2_with fail
            go_meet
            exact ⟨_, _, s', an, ch, er, b1', d1', b2', d2', vs', rfl, rfl, rfl, rfl, unveil HS', X6, ya6, b6, (by omega), (by omega), l1', l2', fun x hx => by have := f1 x hx; omega, fun x hx => by have := f2 x hx; omega⟩
        · simp only [List.getElem_toArray, List.getElem_cons_zero, List.getElem_cons_succ]
          go_simp
          obtain ⟨WQA, hWQA, ya, bn⟩ : ∃ W, W = WQ.alloc (.cells #[.int .i64 0, .int .i64 0, .int .i64 0, .int .i64 0] 75) ∧ ansBlock W WQ.heap.size 0 0 0 0 ∧ Below WQ.heap.size WQ W := ⟨_, rfl, ansBlock.new _ 0 0 0 0, below1 _ _⟩
          rw [← hWQA]
          have hXa : WQ.heap.size < WQA.heap.size := ya.lt
          have bWQA := Below.next bWQ bn
          clear hWQA
          have zq := zq.next bn
          have hSWQA : WQ.heap.size ≤ WQA.heap.size := bn.size
          refine hK.out _ _ bWQA (fun hHeld => ?_)
          clear hK K bn
          refine wpAnyH_ready (rs := [5]) (by kernel_rfl) (by simp) ?_
          refine AllReadyH.cons rfl (fun K hK => ?_) AllReadyH.nil
          · simp only [List.getElem_toArray, List.getElem_cons_zero, List.getElem_cons_succ]
            go_simp
            refine (unveil HDo _ bWQA).mono ?_
            rintro e WQAC ⟨s', an, ch, er, x', rfl, hs', ⟨⟨b1', d1', b2', d2', vs', rfl, r1, r2, l1', l2', n1, n2, hW'', f1, f2⟩⟩, bn⟩
            have HS' := veil hs'
            clear hs'
            have hr1 := fun x hx h0 => r1.blk_lt x hx h0
            have hr2 := fun x hx h0 => r2.blk_lt x hx h0
            have bWQAC := Below.next bWQA bn
            have zq := zq.next bn
            have ya := ya.next bn
            have hSWQAC : WQA.heap.size ≤ WQAC.heap.size := bn.size
            refine hK.out _ _ bWQAC (fun hHeld => ?_)
            clear hK K bn
            refine wpAnyH_take (i := 6) (v := .tuple #[qVal s'.ep s'.nx s'.gv (.slice b1' s'.rn d1') (.slice b2' s'.ln d2') vs', ansVal an.c an.he an.no an.bd, .bool ch, .int .i64 er]) rfl (by kernel_rfl) (by kernel_rfl) (by kernel_rfl) (fun _ _ _ h => h) (Or.inl ⟨by rfl, fun _ _ => by go_simp⟩) hHeld ?_
            simp only [List.getElem_toArray, List.getElem_cons_zero, List.getElem_cons_succ, Act.put, List.setIfInBounds_toArray, List.set_cons_zero, List.set_cons_succ]
            refine wpAnyH_take (i := 7) (v := qVal s'.ep s'.nx s'.gv (.slice b1' s'.rn d1') (.slice b2' s'.ln d2') vs') rfl (by kernel_rfl) (by kernel_rfl) (by kernel_rfl) (fun _ _ _ h => h) (Or.inl ⟨by rfl, fun _ _ => by go_simp⟩) hHeld ?_
            simp only [List.getElem_toArray, List.getElem_cons_zero, List.getElem_cons_succ, Act.put, List.setIfInBounds_toArray, List.set_cons_zero, List.set_cons_succ]
            refine wpAnyH_take (i := 8) (v := ansVal an.c an.he an.no an.bd) rfl (by kernel_rfl) (by kernel_rfl) (by kernel_rfl) (fun _ _ _ h => h) (Or.inl ⟨by rfl, fun _ _ => by go_simp⟩) hHeld ?_
            simp only [List.getElem_toArray, List.getElem_cons_zero, List.getElem_cons_succ, Act.put, List.setIfInBounds_toArray, List.set_cons_zero, List.set_cons_succ]
            refine wpAnyH_take (i := 9) (v := .bool ch) rfl (by kernel_rfl) (by kernel_rfl) (by kernel_rfl) (fun _ _ _ h => h) (Or.inl ⟨by rfl, fun _ _ => by go_simp⟩) hHeld ?_
            simp only [List.getElem_toArray, List.getElem_cons_zero, List.getElem_cons_succ, Act.put, List.setIfInBounds_toArray, List.set_cons_zero, List.set_cons_succ]
            refine wpAnyH_take (i := 10) (v := .int .i64 er) rfl (by kernel_rfl) (by kernel_rfl) (by kernel_rfl) (fun _ _ _ h => h) (Or.inl ⟨by rfl, fun _ _ => by go_simp⟩) hHeld ?_
            simp only [List.getElem_toArray, List.getElem_cons_zero, List.getElem_cons_succ, Act.put, List.setIfInBounds_toArray, List.set_cons_zero, List.set_cons_succ]
            refine wpAnyH_ready (rs := [13]) (by kernel_rfl) (by simp) ?_
            refine AllReadyH.cons rfl (fun K hK => ?_) AllReadyH.nil
            simp only [List.getElem_toArray, List.getElem_cons_zero, List.getElem_cons_succ]
            refine ite_wanted rfl ?_
            refine q_store_wp (ra := b1') (la := b2') (ws' := vs') _ _ rfl rfl rfl zq hW'' ?_
            intro Wq q5 t5
            have ya5 := ya.turned t5 (by omega)
            have r15 := t5.row r1 (fun x hx h0 => by have := f1 x hx; have := hr1 x hx h0; omega)
            have r25 := t5.row r2 (fun x hx h0 => by have := f2 x hx; have := hr2 x hx h0; omega)
            have b5 := t5.under bWQAC (by omega)
            refine hK.out _ _ b5 (fun hHeld => ?_)
            clear hK K
            refine wpAnyH_ready (rs := [14]) (by kernel_rfl) (by simp) ?_
            refine AllReadyH.cons rfl (fun K hK => ?_) AllReadyH.nil
            simp only [List.getElem_toArray, List.getElem_cons_zero, List.getElem_cons_succ]
            obtain ⟨y0, y1, y2, y3⟩ := ya5.cells
            have yf := ya5.free
            go_simp
            have t6 := ans_turned Wq (WQ.heap.size) an.c an.he an.no an.bd
            have ya6 := ya5.store an.c an.he an.no an.bd
            have q6 := t6.queue q5 (by omega)
            have b6 := t6.under b5 (by omega)
            have X6 : Bx _ (W0.heap.size) s' b1' d1' b2' d2' vs' := ⟨q6, t6.row r15 (fun x hx h0 => by have := f1 x hx; have := hr1 x hx h0; omega), t6.row r25 (fun x hx h0 => by have := f2 x hx; have := hr2 x hx h0; omega), n1, n2, hW''⟩
            unfold ansStore at ya6 X6 b6
            refine hK.out _ _ b6 (fun hHeld => ?_)
            clear hK K y0 y1 y2 y3 yf q6 t6
            generalize (((Wq.setCell ⟨WQ.heap.size, 0, none⟩ (.int .i64 an.c)).setCell ⟨WQ.heap.size, 1, none⟩ (.int .i64 an.he)).setCell ⟨WQ.heap.size, 2, none⟩ (.int .i64 an.no)).setCell ⟨WQ.heap.size, 3, none⟩ (.int .i64 an.bd) = W6 at ya6 X6 b6 hHeld ⊢
            refine wpAnyH_take (i := 15) (v := .bool ch) rfl (by kernel_rfl) (by kernel_rfl) (by kernel_rfl) (fun _ _ _ h => h) (Or.inl ⟨by rfl, fun _ _ => by go_simp⟩) hHeld ?_
            simp only [List.getElem_toArray, List.getElem_cons_zero, List.getElem_cons_succ, Act.put, List.setIfInBounds_toArray, List.set_cons_zero, List.set_cons_succ]
            refine wpAnyH_take (i := 16) (v := .int .i64 er) rfl (by kernel_rfl) (by kernel_rfl) (by kernel_rfl) (fun _ _ _ h => h) (Or.inl ⟨by rfl, fun _ _ => by go_simp⟩) hHeld ?_
            simp only [List.getElem_toArray, List.getElem_cons_zero, List.getElem_cons_succ, Act.put, List.setIfInBounds_toArray, List.set_cons_zero, List.set_cons_succ]
            refine wpAnyH_done (by kernel_rfl) ?_ _
            go_wp2_with fail
            go_meet
            exact ⟨_, _, s', an, ch, er, b1', d1', b2', d2', vs', rfl, rfl, rfl, rfl, unveil HS', X6, ya6, b6, (by omega), (by omega), l1', l2', fun x hx => by have := f1 x hx; omega, fun x hx => by have := f2 x hx; omega⟩
      · simp only [List.getElem_toArray, List.getElem_cons_zero, List.getElem_cons_succ]
        go_simp
        obtain ⟨WA, hWA, ya, bn⟩ : ∃ W, W = W0.alloc (.cells #[.int .i64 0, .int .i64 0, .int .i64 0, .int .i64 0] 75) ∧ ansBlock W W0.heap.size 0 0 0 0 ∧ Below W0.heap.size W0 W := ⟨_, rfl, ansBlock.new _ 0 0 0 0, below1 _ _⟩
        rw [← hWA]
        have hXa : W0.heap.size < WA.heap.size := ya.lt
        have bWA := Below.next bW0 bn
        clear hWA
        have hSWA : W0.heap.size ≤ WA.heap.size := bn.size
        refine hK.out _ _ bWA (fun hHeld => ?_)
        clear hK K bn
        refine wpAnyH_ready (rs := [5, 11]) (by kernel_rfl) (by simp) ?_
        refine AllReadyH.cons rfl (fun K hK => ?_) (AllReadyH.cons rfl (fun K hK => ?_) AllReadyH.nil)
        · simp only [List.getElem_toArray, List.getElem_cons_zero, List.getElem_cons_succ]
          go_simp
          refine (unveil HDo _ bWA).mono ?_
          rintro e WAC ⟨s', an, ch, er, x', rfl, hs', ⟨⟨b1', d1', b2', d2', vs', rfl, r1, r2, l1', l2', n1, n2, hW'', f1, f2⟩⟩, bn⟩
          have HS' := veil hs'
          clear hs'
          have hr1 := fun x hx h0 => r1.blk_lt x hx h0
          have hr2 := fun x hx h0 => r2.blk_lt x hx h0
          have bWAC := Below.next bWA bn
          have ya := ya.next bn
          have hSWAC : WA.heap.size ≤ WAC.heap.size := bn.size
          refine hK.out _ _ bWAC (fun hHeld => ?_)
          clear hK K bn
          refine wpAnyH_take (i := 6) (v := .tuple #[qVal s'.ep s'.nx s'.gv (.slice b1' s'.rn d1') (.slice b2' s'.ln d2') vs', ansVal an.c an.he an.no an.bd, .bool ch, .int .i64 er]) rfl (by kernel_rfl) (by kernel_rfl) (by kernel_rfl) (fun _ _ _ h => h) (Or.inl ⟨by rfl, fun _ _ => by go_simp⟩) hHeld ?_
          simp only [List.getElem_toArray, List.getElem_cons_zero, List.getElem_cons_succ, Act.put, List.setIfInBounds_toArray, List.set_cons_zero, List.set_cons_succ]
          refine wpAnyH_take (i := 7) (v := qVal s'.ep s'.nx s'.gv (.slice b1' s'.rn d1') (.slice b2' s'.ln d2') vs') rfl (by kernel_rfl) (by kernel_rfl) (by kernel_rfl) (fun _ _ _ h => h) (Or.inl ⟨by rfl, fun _ _ => by go_simp⟩) hHeld ?_
          simp only [List.getElem_toArray, List.getElem_cons_zero, List.getElem_cons_succ, Act.put, List.setIfInBounds_toArray, List.set_cons_zero, List.set_cons_succ]
          refine wpAnyH_take (i := 8) (v := ansVal an.c an.he an.no an.bd) rfl (by kernel_rfl) (by kernel_rfl) (by kernel_rfl) (fun _ _ _ h => h) (Or.inl ⟨by rfl, fun _ _ => by go_simp⟩) hHeld ?_
          simp only [List.getElem_toArray, List.getElem_cons_zero, List.getElem_cons_succ, Act.put, List.setIfInBounds_toArray, List.set_cons_zero, List.set_cons_succ]
          refine wpAnyH_take (i := 9) (v := .bool ch) rfl (by kernel_rfl) (by kernel_rfl) (by kernel_rfl) (fun _ _ _ h => h) (Or.inl ⟨by rfl, fun _ _ => by go_simp⟩) hHeld ?_
          simp only [List.getElem_toArray, List.getElem_cons_zero, List.getElem_cons_succ, Act.put, List.setIfInBounds_toArray, List.set_cons_zero, List.set_cons_succ]
          refine wpAnyH_take (i := 10) (v := .int .i64 er) rfl (by kernel_rfl) (by kernel_rfl) (by kernel_rfl) (fun _ _ _ h => h) (Or.inl ⟨by rfl, fun _ _ => by go_simp⟩) hHeld ?_
          simp only [List.getElem_toArray, List.getElem_cons_zero, List.getElem_cons_succ, Act.put, List.setIfInBounds_toArray, List.set_cons_zero, List.set_cons_succ]
          refine wpAnyH_ready (rs := [11]) (by kernel_rfl) (by simp) ?_
          refine AllReadyH.cons rfl (fun K hK => ?_) AllReadyH.nil
          · simp only [List.getElem_toArray, List.getElem_cons_zero, List.getElem_cons_succ]
            refine ite_wanted rfl ?_
            refine q_alloc_wp 8 rfl rfl ?_
            intro WACQ zq bn
            have hXq : WAC.heap.size < WACQ.heap.size := zq.lt
            have bWACQ := Below.next bWAC bn
            have ya := ya.next bn
            have r1 := r1.below bn
            have r2 := r2.below bn
            have hSWACQ : WAC.heap.size ≤ WACQ.heap.size := bn.size
            refine hK.out _ _ bWACQ (fun hHeld => ?_)
            clear hK K bn
            refine wpAnyH_ready (rs := [13]) (by kernel_rfl) (by simp) ?_
            refine AllReadyH.cons rfl (fun K hK => ?_) AllReadyH.nil
            simp only [List.getElem_toArray, List.getElem_cons_zero, List.getElem_cons_succ]
            refine ite_wanted rfl ?_
            refine q_store_wp (ra := b1') (la := b2') (ws' := vs') _ _ rfl rfl rfl zq hW'' ?_
            intro Wq q5 t5
            have ya5 := ya.turned t5 (by omega)
            have r15 := t5.row r1 (fun x hx h0 => by have := f1 x hx; have := hr1 x hx h0; omega)
            have r25 := t5.row r2 (fun x hx h0 => by have := f2 x hx; have := hr2 x hx h0; omega)
            have b5 := t5.under bWACQ (by omega)
            refine hK.out _ _ b5 (fun hHeld => ?_)
            clear hK K
            refine wpAnyH_ready (rs := [14]) (by kernel_rfl) (by simp) ?_
            refine AllReadyH.cons rfl (fun K hK => ?_) AllReadyH.nil
            simp only [List.getElem_toArray, List.getElem_cons_zero, List.getElem_cons_succ]
            obtain ⟨y0, y1, y2, y3⟩ := ya5.cells
            have yf := ya5.free
            go_simp
            have t6 := ans_turned Wq (W0.heap.size) an.c an.he an.no an.bd
            have ya6 := ya5.store an.c an.he an.no an.bd
            have q6 := t6.queue q5 (by omega)
            have b6 := t6.under b5 (by omega)
            have X6 : Bx _ (WAC.heap.size) s' b1' d1' b2' d2' vs' := ⟨q6, t6.row r15 (fun x hx h0 => by have := f1 x hx; have := hr1 x hx h0; omega), t6.row r25 (fun x hx h0 => by have := f2 x hx; have := hr2 x hx h0; omega), n1, n2, hW''⟩
            unfold ansStore at ya6 X6 b6
            refine hK.out _ _ b6 (fun hHeld => ?_)
            clear hK K y0 y1 y2 y3 yf q6 t6
            generalize (((Wq.setCell ⟨W0.heap.size, 0, none⟩ (.int .i64 an.c)).setCell ⟨W0.heap.size, 1, none⟩ (.int .i64 an.he)).setCell ⟨W0.heap.size, 2, none⟩ (.int .i64 an.no)).setCell ⟨W0.heap.size, 3, none⟩ (.int .i64 an.bd) = W6 at ya6 X6 b6 hHeld ⊢
            refine wpAnyH_take (i := 15) (v := .bool ch) rfl (by kernel_rfl) (by kernel_rfl) (by kernel_rfl) (fun _ _ _ h => h) (Or.inl ⟨by rfl, fun _ _ => by go_simp⟩) hHeld ?_
            simp only [List.getElem_toArray, List.getElem_cons_zero, List.getElem_cons_succ, Act.put, List.setIfInBounds_toArray, List.set_cons_zero, List.set_cons_succ]
            refine wpAnyH_take (i := 16) (v := .int .i64 er) rfl (by kernel_rfl) (by kernel_rfl) (by kernel_rfl) (fun _ _ _ h => h) (Or.inl ⟨by rfl, fun _ _ => by go_simp⟩) hHeld ?_
            simp only [List.getElem_toArray, List.getElem_cons_zero, List.getElem_cons_succ, Act.put, List.setIfInBounds_toArray, List.set_cons_zero, List.set_cons_succ]
            refine wpAnyH_done (by kernel_rfl) ?_ _
            go_wp2_with fail
            go_meet
            exact ⟨_, _, s', an, ch, er, b1', d1', b2', d2', vs', rfl, rfl, rfl, rfl, unveil HS', X6, ya6, b6, (by omega), (by omega), l1', l2', fun x hx => by have := f1 x hx; omega, fun x hx => by have := f2 x hx; omega⟩
        · simp only [List.getElem_toArray, List.getElem_cons_zero, List.getElem_cons_succ]
          refine ite_wanted rfl ?_
          refine q_alloc_wp 8 rfl rfl ?_
          intro WAQ zq bn
          have hXq : WA.heap.size < WAQ.heap.size := zq.lt
          have bWAQ := Below.next bWA bn
          have ya := ya.next bn
          have hSWAQ : WA.heap.size ≤ WAQ.heap.size := bn.size
          refine hK.out _ _ bWAQ (fun hHeld => ?_)
          clear hK K bn
          refine wpAnyH_ready (rs := [5]) (by kernel_rfl) (by simp) ?_
          refine AllReadyH.cons rfl (fun K hK => ?_) AllReadyH.nil
          · simp only [List.getElem_toArray, List.getElem_cons_zero, List.getElem_cons_succ]
            go_simp
            refine (unveil HDo _ bWAQ).mono ?_
            rintro e WAQC ⟨s', an, ch, er, x', rfl, hs', ⟨⟨b1', d1', b2', d2', vs', rfl, r1, r2, l1', l2', n1, n2, hW'', f1, f2⟩⟩, bn⟩
            have HS' := veil hs'
            clear hs'
            have hr1 := fun x hx h0 => r1.blk_lt x hx h0
            have hr2 := fun x hx h0 => r2.blk_lt x hx h0
            have bWAQC := Below.next bWAQ bn
            have zq := zq.next bn
            have ya := ya.next bn
            have hSWAQC : WAQ.heap.size ≤ WAQC.heap.size := bn.size
            refine hK.out _ _ bWAQC (fun hHeld => ?_)
            clear hK K bn
            refine wpAnyH_take (i := 6) (v := .tuple #[qVal s'.ep s'.nx s'.gv (.slice b1' s'.rn d1') (.slice b2' s'.ln d2') vs', ansVal an.c an.he an.no an.bd, .bool ch, .int .i64 er]) rfl (by kernel_rfl) (by kernel_rfl) (by kernel_rfl) (fun _ _ _ h => h) (Or.inl ⟨by rfl, fun _ _ => by go_simp⟩) hHeld ?_
            simp only [List.getElem_toArray, List.getElem_cons_zero, List.getElem_cons_succ, Act.put, List.setIfInBounds_toArray, List.set_cons_zero, List.set_cons_succ]
            refine wpAnyH_take (i := 7) (v := qVal s'.ep s'.nx s'.gv (.slice b1' s'.rn d1') (.slice b2' s'.ln d2') vs') rfl (by kernel_rfl) (by kernel_rfl) (by kernel_rfl) (fun _ _ _ h => h) (Or.inl ⟨by rfl, fun _ _ => by go_simp⟩) hHeld ?_
            simp only [List.getElem_toArray, List.getElem_cons_zero, List.getElem_cons_succ, Act.put, List.setIfInBounds_toArray, List.set_cons_zero, List.set_cons_succ]
            refine wpAnyH_take (i := 8) (v := ansVal an.c an.he an.no an.bd) rfl (by kernel_rfl) (by kernel_rfl) (by kernel_rfl) (fun _ _ _ h => h) (Or.inl ⟨by rfl, fun _ _ => by go_simp⟩) hHeld ?_
            simp only [List.getElem_toArray, List.getElem_cons_zero, List.getElem_cons_succ, Act.put, List.setIfInBounds_toArray, List.set_cons_zero, List.set_cons_succ]
            refine wpAnyH_take (i := 9) (v := .bool ch) rfl (by kernel_rfl) (by kernel_rfl) (by kernel_rfl) (fun _ _ _ h => h) (Or.inl ⟨by rfl, fun _ _ => by go_simp⟩) hHeld ?_
            simp only [List.getElem_toArray, List.getElem_cons_zero, List.getElem_cons_succ, Act.put, List.setIfInBounds_toArray, List.set_cons_zero, List.set_cons_succ]
            refine wpAnyH_take (i := 10) (v := .int .i64 er) rfl (by kernel_rfl) (by kernel_rfl) (by kernel_rfl) (fun _ _ _ h => h) (Or.inl ⟨by rfl, fun _ _ => by go_simp⟩) hHeld ?_
            simp only [List.getElem_toArray, List.getElem_cons_zero, List.getElem_cons_succ, Act.put, List.setIfInBounds_toArray, List.set_cons_zero, List.set_cons_succ]
            refine wpAnyH_ready (rs := [13]) (by kernel_rfl) (by simp) ?_
            refine AllReadyH.cons rfl (fun K hK => ?_) AllReadyH.nil
            simp only [List.getElem_toArray, List.getElem_cons_zero, List.getElem_cons_succ]
            refine ite_wanted rfl ?_
            refine q_store_wp (ra := b1') (la := b2') (ws' := vs') _ _ rfl rfl rfl zq hW'' ?_
            intro Wq q5 t5
            have ya5 := ya.turned t5 (by omega)
            have r15 := t5.row r1 (fun x hx h0 => by have := f1 x hx; have := hr1 x hx h0; omega)
            have r25 := t5.row r2 (fun x hx h0 => by have := f2 x hx; have := hr2 x hx h0; omega)
            have b5 := t5.under bWAQC (by omega)
            refine hK.out _ _ b5 (fun hHeld => ?_)
            clear hK K
            refine wpAnyH_ready (rs := [14]) (by kernel_rfl) (by simp) ?_
            refine AllReadyH.cons rfl (fun K hK => ?_) AllReadyH.nil
            simp only [List.getElem_toArray, List.getElem_cons_zero, List.getElem_cons_succ]
            obtain ⟨y0, y1, y2, y3⟩ := ya5.cells
            have yf := ya5.free
            go_simp
            have t6 := ans_turned Wq (W0.heap.size) an.c an.he an.no an.bd
            have ya6 := ya5.store an.c an.he an.no an.bd
            have q6 := t6.queue q5 (by omega)
            have b6 := t6.under b5 (by omega)
            have X6 : Bx _ (WA.heap.size) s' b1' d1' b2' d2' vs' := ⟨q6, t6.row r15 (fun x hx h0 => by have := f1 x hx; have := hr1 x hx h0; omega), t6.row r25 (fun x hx h0 => by have := f2 x hx; have := hr2 x hx h0; omega), n1, n2, hW''⟩
            unfold ansStore at ya6 X6 b6
            refine hK.out _ _ b6 (fun hHeld => ?_)
            clear hK K y0 y1 y2 y3 yf q6 t6
            generalize (((Wq.setCell ⟨W0.heap.size, 0, none⟩ (.int .i64 an.c)).setCell ⟨W0.heap.size, 1, none⟩ (.int .i64 an.he)).setCell ⟨W0.heap.size, 2, none⟩ (.int .i64 an.no)).setCell ⟨W0.heap.size, 3, none⟩ (.int .i64 an.bd) = W6 at ya6 X6 b6 hHeld ⊢
            refine wpAnyH_take (i := 15) (v := .bool ch) rfl (by kernel_rfl) (by kernel_rfl) (by kernel_rfl) (fun _ _ _ h => h) (Or.inl ⟨by rfl, fun _ _ => by go_simp⟩) hHeld ?_
            simp only [List.getElem_toArray, List.getElem_cons_zero, List.getElem_cons_succ, Act.put, List.setIfInBounds_toArray, List.set_cons_zero, List.set_cons_succ]
            refine wpAnyH_take (i := 16) (v := .int .i64 er) rfl (by kernel_rfl) (by kernel_rfl) (by kernel_rfl) (fun _ _ _ h => h) (Or.inl ⟨by rfl, fun _ _ => by go_simp⟩) hHeld ?_
            simp only [List.getElem_toArray, List.getElem_cons_zero, List.getElem_cons_succ, Act.put, List.setIfInBounds_toArray, List.set_cons_zero, List.set_cons_succ]
            refine wpAnyH_done (by kernel_rfl) ?_ _
            go_wp2_with fail
            go_meet
            exact ⟨_, _, s', an, ch, er, b1', d1', b2', d2', vs', rfl, rfl, rfl, rfl, unveil HS', X6, ya6, b6, (by omega), (by omega), l1', l2', fun x hx => by have := f1 x hx; omega, fun x hx => by have := f2 x hx; omega⟩
    case rest =>
      as_aux_lemma =>
      obtain ⟨X, A, s', an, ch, er, b1', d1', b2', d2', vs', rfl, rfl, rfl, rfl, st, B5, y5, bel5, uX, uA, l1, l2, f1, f2⟩ := hcut
      obtain ⟨W5, hW5⟩ : ∃ W5, W5 = wc := ⟨_, rfl⟩
      subst hW5
      have P5 := (unveil HP).next bel5
      have hoa : ∀ g, (Value.slice aa ans.length ca).ownBlock = some g → g < wr.heap.size := fun g hg => ((unveil HP).oa.lt g hg).2
      have hBl := (unveil HP).q.q.lt
      have hZl := (unveil HP).z.lt
      have hu := P5.upB
      clear x0 x1 x2 x3 x4 x5 q0 HDo hW0
      by_cases hgo : er = 0 ∧ ch = true
      case neg =>
        have hbad : Stuck es := by
          refine ⟨k, s, ans, hlt, unveil HH, ?_⟩
          rw [← unveil HV]
          cases st with
          | step hv' st' =>
            cases ch with
            | true => exact absurd ⟨rfl, rfl⟩ hgo
            | false => exact .inr ⟨_, _, st'⟩
          | form _ hv' h0 => exact .inl (fun hok => h0 (hv'.symm.trans hok))
        have HS := veil hbad
        have hc : er = 0 ∧ ch = false ∨ ¬ er = 0 := by
          rcases Classical.em (er = 0) with h | h
          · exact .inl ⟨h, by cases ch with
              | true => exact absurd ⟨h, rfl⟩ hgo
              | false => rfl⟩
          · exact .inr h
        have z5 := P5.z
        have HP5 := veil P5
        clear hgo st B5 y5 hbad P5 HP
        rcases hc with ⟨rfl, rfl⟩ | hne
        all_goals
          go_wp2_with (first
            | (refine q_build0 rfl rfl ?_)
            | (refine q_store (ra := none) (la := none) (rn := 0) (rc := 0) (ln := 0) (lc := 0) (ws' := zeroW) _ _ rfl rfl rfl rfl z5 zeroWins ?_; intro W6 q6 t6; have HQ6 := veil q6; have HT6 := veil t6; clear q6 t6))
          exact bodyPost_ret (ret_Told (unveil HQ6) rfl rfl rfl) rfl ⟨_, _, _, St.zero, rfl, .bad (by decide) (.form hl (unveil HS)), ⟨none, 0, none, 0, zeroW, rfl, RowK.nil _ _ _, RowK.nil _ _ _, Nat.le_refl _, Nat.le_refl _, fun _ => rfl, fun _ => rfl, zeroWins, fun x hx => (by cases hx), fun x hx => (by cases hx)⟩, (unveil HT6).under (unveil HP5).bel (Nat.le_refl _)⟩
      case pos =>
      obtain ⟨rfl, rfl⟩ := hgo
      have HST : Hid (v.Ok ∧ Step s v s' an true) := veil (by
        cases st with
        | step hv' st' => exact ⟨hv', st'⟩)
      have hal : ans.length ≤ 2000 := by
        have := (unveil HH).len
        have h2 : (es.take k).length ≤ 2000 := by rw [List.length_take]; omega
        omega
      have qX := B5.q
      have qB := P5.q.q
      have hWs := B5.wins
      have HB5 := veil B5
      have HY5 := veil y5
      have HP5 := veil P5
      have hAl := y5.lt
      have hXl := B5.q.lt
      clear B5 y5 P5 st HP
      go_wp2_with (first
        | (refine q_loads _ rfl rfl rfl qX ?_)
        | (refine q_store (ra := b1') (la := b2') (ws' := vs') _ _ rfl rfl rfl rfl qB hWs ?_; intro W9 q9 t9; have O9 : Off B W5.heap.size W5 W9 := (Off.below (Below.refl _ _)).self t9; have y9 := (unveil HY5).turned t9 (by omega); have P9 := (unveil HP5).stored O9 q9 (unveil HB5).r1 (unveil HB5).r2 l1 l2 (unveil HB5).n1 (unveil HB5).n2 hWs (fun x hx => by have := f1 x hx; omega) (fun x hx => by have := f2 x hx; omega); obtain ⟨y0, y1, y2, y3⟩ := y9.cells; have HOa := veil (own_still P9.oa (fun g _ hg => (below1 W9 (.cells #[.int .i64 an.c, .int .i64 an.he, .int .i64 an.no, .int .i64 an.bd] 75)).block g hg)); have hB9 := P9.q.q.lt; have HP9 := veil P9; clear q9 t9 O9 y9 P9)
        | (at_builtin; refine wpList_append_own _ rfl _ _ 107 rfl (B + 1) 75 i4 _ 4 32 Tryz.underlying107 hi4 hz40 hz41 hz42 rfl (by decide) (.slice aa ans.length ca) ans.length ((anFlat ans).map (Value.int .i64)) rfl (unveil HOa) ⟨W9.heap.size, 0, none⟩ 1 1 ((anCells an).map (Value.int .i64)) rfl rfl (news4 _ _ _ _ _ _) (ints_oneCell _ _) (by unfold maxLen; omega) (by omega) (by simp; omega) ?_; intro v' W11 own11 grow11 _; obtain ⟨a'', c'', rfl⟩ := own_form own11; have P11 := (unveil HP9).answer (below1 W9 _) grow11 (fun x hx e => by have := hoa _ e; have := f1 x hx; omega) (fun x hx e => by have := hoa _ e; have := f2 x hx; omega) an own11; have HP11 := veil P11; clear own11 grow11 P11))
      have HI : Hid (Tells (es.take (k + 1)) s' (ans ++ [an])) := veil (by
        rw [List.take_succ_eq_append_getElem hlt, ← unveil HV]
        exact .snoc (unveil HH) (unveil HST).1 (unveil HST).2)
      go_roundw
      case rel => exact ⟨k + 1, s', _, _, _, _, _, ans ++ [an], by omega, by go_num, (by simpa using unveil HP11), HI⟩
      case measure => simp [intOf]; omega
theorem ret_Replayed {W : World} {Z : Nat} {ep nx gv : Int} {r l : Value} {ws : Nat → Value} {er : Int} {tmps : Array Value} (q : qBlock W Z ep nx gv r l ws) (t2 : tmps[2]? = some (.pointer (some ⟨Z, 0, none⟩))) (t3 : tmps[3]? = some (.int .i64 er)) :
    (results Tryz.f65 tmps).run Tryz.prog W = .ok (.tuple #[qVal ep nx gv r l ws, .int .i64 er]) W := by
  have h1 := run_loadVar_row (P := Tryz.prog) W Z 92 92 _ (0, 0) _ q Tryz.underlying92 rfl (by rw [qCells_size]; exact Tryz.infoQ)
  simp [results, Tryz.results65, t2, t3, asAddr, h1]
set_option maxRecDepth 20000 in
set_option maxHeartbeats 4000000 in
theorem replayedOf_any (es : List Ev) (a : Option Addr) (cap : Nat) (w : World) (hr : RowK .i64 w a (6 * es.length) (evFlat es)) :
    Calls Tryz.prog 65 #[.slice a es.length cap] w fun e w' => ∃ x er s, e = .returned (.tuple #[x, .int .i64 er]) ∧ Rv es s er ∧ QOut w w' s x ∧ Below w.heap.size w w' := by
  go_enter Tryz.func65, Tryz.ntmps65
  go_upto_region 1 with (refine q_alloc 2 rfl rfl rfl ?_; intro W1 z1 b1)
  have HT : Hid (Calls Tryz.prog 79 #[.slice a es.length cap] W1 fun e w' => ∃ x va er s, e = .returned (.tuple #[x, va, .int .i64 er]) ∧ Tv es W1 w' s va er ∧ QOut W1 w' s x ∧ Below W1.heap.size W1 w') := veil (told_any es a cap W1 (hr.below b1))
  have hZ1 := z1.lt
  go_wp2_with (first
    | (go_at_call 79; refine (unveil HT).mono ?_; rintro e W2 ⟨x, va, er, s, rfl, tv, ⟨⟨a1, c1, a2, c2, ws, rfl, r1, r2, l1, l2, n1, n2, hW, f1, f2⟩⟩, b2⟩; have z2 := z1.next b2; have B2 := Below.next b1 b2; have HRV := veil tv.rv; have hr1 := fun x hx h0 => r1.blk_lt x hx h0; have hr2 := fun x hx h0 => r2.blk_lt x hx h0; have hs2 := b2.size; clear HT z1 b1 b2 tv)
    | (refine q_alloc 4 rfl rfl rfl ?_; intro W3 z3 b3; have z2' := z2.next b3; have hX3 := z3.lt; have r13 := r1.below b3; have r23 := r2.below b3; have B3 := Below.next B2 b3; clear z2 b3 r1 r2 B2)
    | (refine q_store (ra := a1) (la := a2) (ws' := ws) _ _ rfl rfl rfl rfl z3 hW ?_; intro W4 q4 t4; have z4 := t4.queue z2' (by omega); have r14 := t4.row r13 (fun x hx h0 => by have := f1 x hx; have := hr1 x hx h0; omega); have r24 := t4.row r23 (fun x hx h0 => by have := f2 x hx; have := hr2 x hx h0; omega); have B4 := t4.under B3 (by omega); clear z3 z2' r13 r23 B3 t4)
    | (refine q_loads _ rfl rfl rfl q4 ?_)
    | (refine q_store (ra := a1) (la := a2) (ws' := ws) _ _ rfl rfl rfl rfl z4 hW ?_; intro W5 q5 t5; have HQ5 := veil q5; have HT5 := veil t5; clear q5 t5))
  have t5 := unveil HT5
  exact bodyPost_ret (ret_Replayed (unveil HQ5) rfl rfl) rfl ⟨_, er, s, rfl, unveil HRV, ⟨a1, c1, a2, c2, ws, rfl, t5.row r14 (fun x hx _ => by have := f1 x hx; omega), t5.row r24 (fun x hx _ => by have := f2 x hx; omega), l1, l2, n1, n2, hW, fun x hx => by have := f1 x hx; omega, fun x hx => by have := f2 x hx; omega⟩, t5.under B4 (Nat.le_refl _)⟩
end Go.Proofs.YtcdopnkabbfooaaGreat

namespace Go.Proofs.YtcdopnkabbfooaaGreat
open Go.RowKit
theorem inB_any (x lo hi : Int) (w : World) : Calls Tryz.prog 64 #[.int .i64 x, .int .i64 lo, .int .i64 hi] w fun e w' => e = .returned (.bool (decide (lo ≤ x ∧ x ≤ hi))) ∧ w' = w := by
  by_cases h1 : lo ≤ x
  · by_cases h2 : x ≤ hi
    · rw [decide_eq_true (show lo ≤ x ∧ x ≤ hi from ⟨h1, h2⟩)]
      go_enter Tryz.func64, Tryz.ntmps64
      go_wp2
      go_ret
      exact ⟨rfl, rfl⟩
    · rw [decide_eq_false (show ¬ (lo ≤ x ∧ x ≤ hi) from fun h => h2 h.2)]
      go_enter Tryz.func64, Tryz.ntmps64
      go_wp2
      go_ret
      exact ⟨rfl, rfl⟩
  · rw [decide_eq_false (show ¬ (lo ≤ x ∧ x ≤ hi) from fun h => h1 h.1)]
    go_enter Tryz.func64, Tryz.ntmps64
    go_wp2
    go_ret
    exact ⟨rfl, rfl⟩
theorem inB_yes (x lo hi : Int) (h : lo ≤ x ∧ x ≤ hi) (w : World) : Calls Tryz.prog 64 #[.int .i64 x, .int .i64 lo, .int .i64 hi] w fun e w' => e = .returned (.bool true) ∧ w' = w := by
  have := inB_any x lo hi w
  rwa [decide_eq_true h] at this
theorem inB_no (x lo hi : Int) (h : ¬ (lo ≤ x ∧ x ≤ hi)) (w : World) : Calls Tryz.prog 64 #[.int .i64 x, .int .i64 lo, .int .i64 hi] w fun e w' => e = .returned (.bool false) ∧ w' = w := by
  have := inB_any x lo hi w
  rwa [decide_eq_false h] at this
/-- what BerthFault answers. -/
inductive Fb (r e f t o : Int) (es : List Ev) : Int → Prop
  | stand (h : ¬ standP r e f t o es.length) : Fb r e f t o es 6
  | form {s : St} {er : Int} (h : standP r e f t o es.length) (hr : Rv es s er) (h0 : ¬ er = 0) : Fb r e f t o es 6
  | ok {s : St} (h : standP r e f t o es.length) (hr : Rv es s 0) : Fb r e f t o es 0
set_option maxRecDepth 20000 in
set_option maxHeartbeats 4000000 in
theorem faultB_0 (e f t o : Int) (es : List Ev) (a : Option Addr) (c : Nat) (w : World) (hr : RowK .i64 w a (6 * es.length) (evFlat es)) : Calls Tryz.prog 32 #[bVal 0 e f t o a es.length c] w fun x w' => ∃ er, x = .returned (.int .i64 er) ∧ Fb 0 e f t o es er ∧ Below w.heap.size w w' := by
  have cr := inB_yes 0 0 4 (by decide)
  by_cases he : 0 ≤ e ∧ e ≤ 1048576
  case neg =>
    have HN : Hid (¬ standP 0 e f t o es.length) := veil (by unfold standP; omega)
    have ce := inB_no e 0 1048576 he
    clear he
    go_enter Tryz.func32, Tryz.ntmps32
    go_wp2_with (first | (go_at_call 64; refine (cr _).mono ?_; rintro x w1 ⟨rfl, rfl⟩; clear cr) | (go_at_call 64; refine (ce _).mono ?_; rintro x w1 ⟨rfl, rfl⟩; clear ce))
    go_ret
    exact ⟨6, rfl, .stand (unveil HN), below1 _ _⟩
  case pos =>
  have ce := inB_yes e 0 1048576 he
  have He := veil he
  clear he
  by_cases hn : es.length = 0
  case neg =>
    have HN : Hid (¬ standP 0 e f t o es.length) := veil (by unfold standP; omega)
    have hn1 : 0 < es.length := by omega
    clear hn
    go_enter Tryz.func32, Tryz.ntmps32
    go_wp2_with (first | (go_at_call 64; refine (cr _).mono ?_; rintro x w1 ⟨rfl, rfl⟩; clear cr) | (go_at_call 64; refine (ce _).mono ?_; rintro x w1 ⟨rfl, rfl⟩; clear ce))
    go_ret
    exact ⟨6, rfl, .stand (unveil HN), below1 _ _⟩
  case pos =>
  have hn1 : ¬ 0 < es.length := by omega
  have hn2 : ¬ (0 : Int) < (es.length : Int) := by omega
  have Hn := veil hn
  clear hn
  by_cases hf : f = 0
  case neg =>
    have HN : Hid (¬ standP 0 e f t o es.length) := veil (by unfold standP; omega)
    go_enter Tryz.func32, Tryz.ntmps32
    go_wp2_with (first | (go_at_call 64; refine (cr _).mono ?_; rintro x w1 ⟨rfl, rfl⟩; clear cr) | (go_at_call 64; refine (ce _).mono ?_; rintro x w1 ⟨rfl, rfl⟩; clear ce))
    go_ret
    exact ⟨6, rfl, .stand (unveil HN), below1 _ _⟩
  case pos =>
  subst hf
  by_cases ht : t = 0
  case neg =>
    have HN : Hid (¬ standP 0 e 0 t o es.length) := veil (by unfold standP; omega)
    go_enter Tryz.func32, Tryz.ntmps32
    go_wp2_with (first | (go_at_call 64; refine (cr _).mono ?_; rintro x w1 ⟨rfl, rfl⟩; clear cr) | (go_at_call 64; refine (ce _).mono ?_; rintro x w1 ⟨rfl, rfl⟩; clear ce))
    go_ret
    exact ⟨6, rfl, .stand (unveil HN), below1 _ _⟩
  case pos =>
  subst ht
  by_cases ho : o = 0
  case neg =>
    have HN : Hid (¬ standP 0 e 0 0 o es.length) := veil (by unfold standP; omega)
    go_enter Tryz.func32, Tryz.ntmps32
    go_wp2_with (first | (go_at_call 64; refine (cr _).mono ?_; rintro x w1 ⟨rfl, rfl⟩; clear cr) | (go_at_call 64; refine (ce _).mono ?_; rintro x w1 ⟨rfl, rfl⟩; clear ce))
    go_ret
    exact ⟨6, rfl, .stand (unveil HN), below1 _ _⟩
  case pos =>
  subst ho
  have HS : Hid (standP 0 e 0 0 0 es.length) := veil (by unfold standP; have := unveil He; have := unveil Hn; omega)
  go_enter Tryz.func32, Tryz.ntmps32
  go_upto_region 12 with (first | (go_at_call 64; refine (cr _).mono ?_; rintro x w1 ⟨rfl, rfl⟩; clear cr) | (go_at_call 64; refine (ce _).mono ?_; rintro x w1 ⟨rfl, rfl⟩; clear ce))
  obtain ⟨W1, hW1, c5, b1⟩ : ∃ W1, W1 = w.alloc (.cells (bCells 0 e 0 0 0 a es.length c) 24) ∧ W1.cell? ⟨w.heap.size, 5, none⟩ = some (.slice a es.length c) ∧ Below w.heap.size w W1 := ⟨_, rfl, (bBlock.new w _ _ _ _ _ _ _ _).cells.2.2.2.2.2, below1 _ _⟩
  rw [← hW1]
  clear hW1
  have HR := replayedOf_any es a c W1 (hr.below b1)
  go_upto_region 13 with (first
    | (go_at_call 65; refine HR.mono ?_; rintro x W2 ⟨y, er, s, rfl, rv, ⟨⟨a1, c1, a2, c2, ws, rfl, r1, r2, l1, l2, n1, n2, hW, f1, f2⟩⟩, b2⟩; have HV := veil rv; have B2 := Below.next b1 b2; clear HR b1 b2 c5 rv r1 r2 f1 f2)
    | (refine q_alloc 4 rfl rfl rfl ?_; intro W3 z3 b3; have B3 := Below.next B2 b3; have hz3 := B2.size; clear B2 b3)
    | (refine q_store (ra := a1) (la := a2) (ws' := ws) _ _ rfl rfl rfl rfl z3 hW ?_; intro W4 q4 t4; have B4 := t4.under B3 hz3; clear q4 t4 B3 z3))
  by_cases h0 : er = 0
  · subst h0
    go_wp2
    go_ret
    exact ⟨0, rfl, .ok (unveil HS) (unveil HV), B4⟩
  · go_wp2
    go_ret
    exact ⟨6, rfl, .form (unveil HS) (unveil HV) h0, B4⟩
set_option maxRecDepth 20000 in
set_option maxHeartbeats 4000000 in
theorem faultB_1 (e f t o : Int) (es : List Ev) (a : Option Addr) (c : Nat) (w : World) (hr : RowK .i64 w a (6 * es.length) (evFlat es)) : Calls Tryz.prog 32 #[bVal 1 e f t o a es.length c] w fun x w' => ∃ er, x = .returned (.int .i64 er) ∧ Fb 1 e f t o es er ∧ Below w.heap.size w w' := by
  have cr := inB_yes 1 0 4 (by decide)
  by_cases he : 1 ≤ e ∧ e ≤ 1048576
  case neg =>
    have HN : Hid (¬ standP 1 e f t o es.length) := veil (by unfold standP; omega)
    have ce := inB_no e 1 1048576 he
    clear he
    go_enter Tryz.func32, Tryz.ntmps32
    go_wp2_with (first | (go_at_call 64; refine (cr _).mono ?_; rintro x w1 ⟨rfl, rfl⟩; clear cr) | (go_at_call 64; refine (ce _).mono ?_; rintro x w1 ⟨rfl, rfl⟩; clear ce))
    go_ret
    exact ⟨6, rfl, .stand (unveil HN), below1 _ _⟩
  case pos =>
  have ce := inB_yes e 1 1048576 he
  have He := veil he
  clear he
  by_cases hf : f = 0
  case neg =>
    have HN : Hid (¬ standP 1 e f t o es.length) := veil (by unfold standP; omega)
    go_enter Tryz.func32, Tryz.ntmps32
    go_wp2_with (first | (go_at_call 64; refine (cr _).mono ?_; rintro x w1 ⟨rfl, rfl⟩; clear cr) | (go_at_call 64; refine (ce _).mono ?_; rintro x w1 ⟨rfl, rfl⟩; clear ce))
    go_ret
    exact ⟨6, rfl, .stand (unveil HN), below1 _ _⟩
  case pos =>
  subst hf
  by_cases ht : t = 0
  case neg =>
    have HN : Hid (¬ standP 1 e 0 t o es.length) := veil (by unfold standP; omega)
    go_enter Tryz.func32, Tryz.ntmps32
    go_wp2_with (first | (go_at_call 64; refine (cr _).mono ?_; rintro x w1 ⟨rfl, rfl⟩; clear cr) | (go_at_call 64; refine (ce _).mono ?_; rintro x w1 ⟨rfl, rfl⟩; clear ce))
    go_ret
    exact ⟨6, rfl, .stand (unveil HN), below1 _ _⟩
  case pos =>
  subst ht
  by_cases ho : o = 0
  case neg =>
    have HN : Hid (¬ standP 1 e 0 0 o es.length) := veil (by unfold standP; omega)
    go_enter Tryz.func32, Tryz.ntmps32
    go_wp2_with (first | (go_at_call 64; refine (cr _).mono ?_; rintro x w1 ⟨rfl, rfl⟩; clear cr) | (go_at_call 64; refine (ce _).mono ?_; rintro x w1 ⟨rfl, rfl⟩; clear ce))
    go_ret
    exact ⟨6, rfl, .stand (unveil HN), below1 _ _⟩
  case pos =>
  subst ho
  have HS : Hid (standP 1 e 0 0 0 es.length) := veil (by unfold standP; have := unveil He; omega)
  go_enter Tryz.func32, Tryz.ntmps32
  go_upto_region 12 with (first | (go_at_call 64; refine (cr _).mono ?_; rintro x w1 ⟨rfl, rfl⟩; clear cr) | (go_at_call 64; refine (ce _).mono ?_; rintro x w1 ⟨rfl, rfl⟩; clear ce))
  obtain ⟨W1, hW1, c5, b1⟩ : ∃ W1, W1 = w.alloc (.cells (bCells 1 e 0 0 0 a es.length c) 24) ∧ W1.cell? ⟨w.heap.size, 5, none⟩ = some (.slice a es.length c) ∧ Below w.heap.size w W1 := ⟨_, rfl, (bBlock.new w _ _ _ _ _ _ _ _).cells.2.2.2.2.2, below1 _ _⟩
  rw [← hW1]
  clear hW1
  have HR := replayedOf_any es a c W1 (hr.below b1)
  go_upto_region 13 with (first
    | (go_at_call 65; refine HR.mono ?_; rintro x W2 ⟨y, er, s, rfl, rv, ⟨⟨a1, c1, a2, c2, ws, rfl, r1, r2, l1, l2, n1, n2, hW, f1, f2⟩⟩, b2⟩; have HV := veil rv; have B2 := Below.next b1 b2; clear HR b1 b2 c5 rv r1 r2 f1 f2)
    | (refine q_alloc 4 rfl rfl rfl ?_; intro W3 z3 b3; have B3 := Below.next B2 b3; have hz3 := B2.size; clear B2 b3)
    | (refine q_store (ra := a1) (la := a2) (ws' := ws) _ _ rfl rfl rfl rfl z3 hW ?_; intro W4 q4 t4; have B4 := t4.under B3 hz3; clear q4 t4 B3 z3))
  by_cases h0 : er = 0
  · subst h0
    go_wp2
    go_ret
    exact ⟨0, rfl, .ok (unveil HS) (unveil HV), B4⟩
  · go_wp2
    go_ret
    exact ⟨6, rfl, .form (unveil HS) (unveil HV) h0, B4⟩
set_option maxRecDepth 20000 in
set_option maxHeartbeats 4000000 in
theorem faultB_2 (e f t o : Int) (es : List Ev) (a : Option Addr) (c : Nat) (w : World) (hr : RowK .i64 w a (6 * es.length) (evFlat es)) : Calls Tryz.prog 32 #[bVal 2 e f t o a es.length c] w fun x w' => ∃ er, x = .returned (.int .i64 er) ∧ Fb 2 e f t o es er ∧ Below w.heap.size w w' := by
  have cr := inB_yes 2 0 4 (by decide)
  by_cases he : 1 ≤ e ∧ e ≤ 1048576
  case neg =>
    have HN : Hid (¬ standP 2 e f t o es.length) := veil (by unfold standP; omega)
    have ce := inB_no e 1 1048576 he
    clear he
    go_enter Tryz.func32, Tryz.ntmps32
    go_wp2_with (first | (go_at_call 64; refine (cr _).mono ?_; rintro x w1 ⟨rfl, rfl⟩; clear cr) | (go_at_call 64; refine (ce _).mono ?_; rintro x w1 ⟨rfl, rfl⟩; clear ce))
    go_ret
    exact ⟨6, rfl, .stand (unveil HN), below1 _ _⟩
  case pos =>
  have ce := inB_yes e 1 1048576 he
  have He := veil he
  clear he
  by_cases hf : f = 0
  case neg =>
    have HN : Hid (¬ standP 2 e f t o es.length) := veil (by unfold standP; omega)
    go_enter Tryz.func32, Tryz.ntmps32
    go_wp2_with (first | (go_at_call 64; refine (cr _).mono ?_; rintro x w1 ⟨rfl, rfl⟩; clear cr) | (go_at_call 64; refine (ce _).mono ?_; rintro x w1 ⟨rfl, rfl⟩; clear ce))
    go_ret
    exact ⟨6, rfl, .stand (unveil HN), below1 _ _⟩
  case pos =>
  subst hf
  by_cases ht : 0 ≤ t ∧ t ≤ 4
  case neg =>
    have HN : Hid (¬ standP 2 e 0 t o es.length) := veil (by unfold standP; omega)
    have ct := inB_no t 0 4 ht
    clear ht
    go_enter Tryz.func32, Tryz.ntmps32
    go_wp2_with (first | (go_at_call 64; refine (cr _).mono ?_; rintro x w1 ⟨rfl, rfl⟩; clear cr) | (go_at_call 64; refine (ce _).mono ?_; rintro x w1 ⟨rfl, rfl⟩; clear ce) | (go_at_call 64; refine (ct _).mono ?_; rintro x w1 ⟨rfl, rfl⟩; clear ct))
    go_ret
    exact ⟨6, rfl, .stand (unveil HN), below1 _ _⟩
  case pos =>
  have ct := inB_yes t 0 4 ht
  have Ht := veil ht
  clear ht
  by_cases ho : 0 ≤ o ∧ o ≤ 4
  case neg =>
    have HN : Hid (¬ standP 2 e 0 t o es.length) := veil (by unfold standP; omega)
    have co := inB_no o 0 4 ho
    clear ho
    go_enter Tryz.func32, Tryz.ntmps32
    go_wp2_with (first | (go_at_call 64; refine (cr _).mono ?_; rintro x w1 ⟨rfl, rfl⟩; clear cr) | (go_at_call 64; refine (ce _).mono ?_; rintro x w1 ⟨rfl, rfl⟩; clear ce) | (go_at_call 64; refine (ct _).mono ?_; rintro x w1 ⟨rfl, rfl⟩; clear ct) | (go_at_call 64; refine (co _).mono ?_; rintro x w1 ⟨rfl, rfl⟩; clear co))
    go_ret
    exact ⟨6, rfl, .stand (unveil HN), below1 _ _⟩
  case pos =>
  have co := inB_yes o 0 4 ho
  have Ho := veil ho
  clear ho
  have HS : Hid (standP 2 e 0 t o es.length) := veil (by unfold standP; have := unveil He; have := unveil Ht; have := unveil Ho; omega)
  go_enter Tryz.func32, Tryz.ntmps32
  go_upto_region 12 with (first | (go_at_call 64; refine (cr _).mono ?_; rintro x w1 ⟨rfl, rfl⟩; clear cr) | (go_at_call 64; refine (ce _).mono ?_; rintro x w1 ⟨rfl, rfl⟩; clear ce) | (go_at_call 64; refine (ct _).mono ?_; rintro x w1 ⟨rfl, rfl⟩; clear ct) | (go_at_call 64; refine (co _).mono ?_; rintro x w1 ⟨rfl, rfl⟩; clear co))
  obtain ⟨W1, hW1, c5, b1⟩ : ∃ W1, W1 = w.alloc (.cells (bCells 2 e 0 t o a es.length c) 24) ∧ W1.cell? ⟨w.heap.size, 5, none⟩ = some (.slice a es.length c) ∧ Below w.heap.size w W1 := ⟨_, rfl, (bBlock.new w _ _ _ _ _ _ _ _).cells.2.2.2.2.2, below1 _ _⟩
  rw [← hW1]
  clear hW1
  have HR := replayedOf_any es a c W1 (hr.below b1)
  go_upto_region 13 with (first
    | (go_at_call 65; refine HR.mono ?_; rintro x W2 ⟨y, er, s, rfl, rv, ⟨⟨a1, c1, a2, c2, ws, rfl, r1, r2, l1, l2, n1, n2, hW, f1, f2⟩⟩, b2⟩; have HV := veil rv; have B2 := Below.next b1 b2; clear HR b1 b2 c5 rv r1 r2 f1 f2)
    | (refine q_alloc 4 rfl rfl rfl ?_; intro W3 z3 b3; have B3 := Below.next B2 b3; have hz3 := B2.size; clear B2 b3)
    | (refine q_store (ra := a1) (la := a2) (ws' := ws) _ _ rfl rfl rfl rfl z3 hW ?_; intro W4 q4 t4; have B4 := t4.under B3 hz3; clear q4 t4 B3 z3))
  by_cases h0 : er = 0
  · subst h0
    go_wp2
    go_ret
    exact ⟨0, rfl, .ok (unveil HS) (unveil HV), B4⟩
  · go_wp2
    go_ret
    exact ⟨6, rfl, .form (unveil HS) (unveil HV) h0, B4⟩
set_option maxRecDepth 20000 in
set_option maxHeartbeats 4000000 in
theorem faultB_3 (e f t o : Int) (es : List Ev) (a : Option Addr) (c : Nat) (w : World) (hr : RowK .i64 w a (6 * es.length) (evFlat es)) : Calls Tryz.prog 32 #[bVal 3 e f t o a es.length c] w fun x w' => ∃ er, x = .returned (.int .i64 er) ∧ Fb 3 e f t o es er ∧ Below w.heap.size w w' := by
  have cr := inB_yes 3 0 4 (by decide)
  by_cases he : 1 ≤ e ∧ e ≤ 1048576
  case neg =>
    have HN : Hid (¬ standP 3 e f t o es.length) := veil (by unfold standP; omega)
    have ce := inB_no e 1 1048576 he
    clear he
    go_enter Tryz.func32, Tryz.ntmps32
    go_wp2_with (first | (go_at_call 64; refine (cr _).mono ?_; rintro x w1 ⟨rfl, rfl⟩; clear cr) | (go_at_call 64; refine (ce _).mono ?_; rintro x w1 ⟨rfl, rfl⟩; clear ce))
    go_ret
    exact ⟨6, rfl, .stand (unveil HN), below1 _ _⟩
  case pos =>
  have ce := inB_yes e 1 1048576 he
  have He := veil he
  clear he
  by_cases hf : f = 0
  case neg =>
    have HN : Hid (¬ standP 3 e f t o es.length) := veil (by unfold standP; omega)
    go_enter Tryz.func32, Tryz.ntmps32
    go_wp2_with (first | (go_at_call 64; refine (cr _).mono ?_; rintro x w1 ⟨rfl, rfl⟩; clear cr) | (go_at_call 64; refine (ce _).mono ?_; rintro x w1 ⟨rfl, rfl⟩; clear ce))
    go_ret
    exact ⟨6, rfl, .stand (unveil HN), below1 _ _⟩
  case pos =>
  subst hf
  by_cases ht : 0 ≤ t ∧ t ≤ 4
  case neg =>
    have HN : Hid (¬ standP 3 e 0 t o es.length) := veil (by unfold standP; omega)
    have ct := inB_no t 0 4 ht
    clear ht
    go_enter Tryz.func32, Tryz.ntmps32
    go_wp2_with (first | (go_at_call 64; refine (cr _).mono ?_; rintro x w1 ⟨rfl, rfl⟩; clear cr) | (go_at_call 64; refine (ce _).mono ?_; rintro x w1 ⟨rfl, rfl⟩; clear ce) | (go_at_call 64; refine (ct _).mono ?_; rintro x w1 ⟨rfl, rfl⟩; clear ct))
    go_ret
    exact ⟨6, rfl, .stand (unveil HN), below1 _ _⟩
  case pos =>
  have ct := inB_yes t 0 4 ht
  have Ht := veil ht
  clear ht
  by_cases ho : o = 0
  case neg =>
    have HN : Hid (¬ standP 3 e 0 t o es.length) := veil (by unfold standP; omega)
    go_enter Tryz.func32, Tryz.ntmps32
    go_wp2_with (first | (go_at_call 64; refine (cr _).mono ?_; rintro x w1 ⟨rfl, rfl⟩; clear cr) | (go_at_call 64; refine (ce _).mono ?_; rintro x w1 ⟨rfl, rfl⟩; clear ce) | (go_at_call 64; refine (ct _).mono ?_; rintro x w1 ⟨rfl, rfl⟩; clear ct))
    go_ret
    exact ⟨6, rfl, .stand (unveil HN), below1 _ _⟩
  case pos =>
  subst ho
  have HS : Hid (standP 3 e 0 t 0 es.length) := veil (by unfold standP; have := unveil He; have := unveil Ht; omega)
  go_enter Tryz.func32, Tryz.ntmps32
  go_upto_region 12 with (first | (go_at_call 64; refine (cr _).mono ?_; rintro x w1 ⟨rfl, rfl⟩; clear cr) | (go_at_call 64; refine (ce _).mono ?_; rintro x w1 ⟨rfl, rfl⟩; clear ce) | (go_at_call 64; refine (ct _).mono ?_; rintro x w1 ⟨rfl, rfl⟩; clear ct))
  obtain ⟨W1, hW1, c5, b1⟩ : ∃ W1, W1 = w.alloc (.cells (bCells 3 e 0 t 0 a es.length c) 24) ∧ W1.cell? ⟨w.heap.size, 5, none⟩ = some (.slice a es.length c) ∧ Below w.heap.size w W1 := ⟨_, rfl, (bBlock.new w _ _ _ _ _ _ _ _).cells.2.2.2.2.2, below1 _ _⟩
  rw [← hW1]
  clear hW1
  have HR := replayedOf_any es a c W1 (hr.below b1)
  go_upto_region 13 with (first
    | (go_at_call 65; refine HR.mono ?_; rintro x W2 ⟨y, er, s, rfl, rv, ⟨⟨a1, c1, a2, c2, ws, rfl, r1, r2, l1, l2, n1, n2, hW, f1, f2⟩⟩, b2⟩; have HV := veil rv; have B2 := Below.next b1 b2; clear HR b1 b2 c5 rv r1 r2 f1 f2)
    | (refine q_alloc 4 rfl rfl rfl ?_; intro W3 z3 b3; have B3 := Below.next B2 b3; have hz3 := B2.size; clear B2 b3)
    | (refine q_store (ra := a1) (la := a2) (ws' := ws) _ _ rfl rfl rfl rfl z3 hW ?_; intro W4 q4 t4; have B4 := t4.under B3 hz3; clear q4 t4 B3 z3))
  by_cases h0 : er = 0
  · subst h0
    go_wp2
    go_ret
    exact ⟨0, rfl, .ok (unveil HS) (unveil HV), B4⟩
  · go_wp2
    go_ret
    exact ⟨6, rfl, .form (unveil HS) (unveil HV) h0, B4⟩
set_option maxRecDepth 20000 in
set_option maxHeartbeats 4000000 in
theorem faultB_4 (e f t o : Int) (es : List Ev) (a : Option Addr) (c : Nat) (w : World) (hr : RowK .i64 w a (6 * es.length) (evFlat es)) : Calls Tryz.prog 32 #[bVal 4 e f t o a es.length c] w fun x w' => ∃ er, x = .returned (.int .i64 er) ∧ Fb 4 e f t o es er ∧ Below w.heap.size w w' := by
  have cr := inB_yes 4 0 4 (by decide)
  by_cases he : 1 ≤ e ∧ e ≤ 1048576
  case neg =>
    have HN : Hid (¬ standP 4 e f t o es.length) := veil (by unfold standP; omega)
    have ce := inB_no e 1 1048576 he
    clear he
    go_enter Tryz.func32, Tryz.ntmps32
    go_wp2_with (first | (go_at_call 64; refine (cr _).mono ?_; rintro x w1 ⟨rfl, rfl⟩; clear cr) | (go_at_call 64; refine (ce _).mono ?_; rintro x w1 ⟨rfl, rfl⟩; clear ce))
    go_ret
    exact ⟨6, rfl, .stand (unveil HN), below1 _ _⟩
  case pos =>
  have ce := inB_yes e 1 1048576 he
  have He := veil he
  clear he
  by_cases hf : 0 ≤ f ∧ f ≤ 4
  case neg =>
    have HN : Hid (¬ standP 4 e f t o es.length) := veil (by unfold standP; omega)
    have cf := inB_no f 0 4 hf
    clear hf
    go_enter Tryz.func32, Tryz.ntmps32
    go_wp2_with (first | (go_at_call 64; refine (cr _).mono ?_; rintro x w1 ⟨rfl, rfl⟩; clear cr) | (go_at_call 64; refine (ce _).mono ?_; rintro x w1 ⟨rfl, rfl⟩; clear ce) | (go_at_call 64; refine (cf _).mono ?_; rintro x w1 ⟨rfl, rfl⟩; clear cf))
    go_ret
    exact ⟨6, rfl, .stand (unveil HN), below1 _ _⟩
  case pos =>
  have cf := inB_yes f 0 4 hf
  have Hf := veil hf
  clear hf
  by_cases ht : t = 0
  case neg =>
    have HN : Hid (¬ standP 4 e f t o es.length) := veil (by unfold standP; omega)
    go_enter Tryz.func32, Tryz.ntmps32
    go_wp2_with (first | (go_at_call 64; refine (cr _).mono ?_; rintro x w1 ⟨rfl, rfl⟩; clear cr) | (go_at_call 64; refine (ce _).mono ?_; rintro x w1 ⟨rfl, rfl⟩; clear ce) | (go_at_call 64; refine (cf _).mono ?_; rintro x w1 ⟨rfl, rfl⟩; clear cf))
    go_ret
    exact ⟨6, rfl, .stand (unveil HN), below1 _ _⟩
  case pos =>
  subst ht
  by_cases ho : o = 0
  case neg =>
    have HN : Hid (¬ standP 4 e f 0 o es.length) := veil (by unfold standP; omega)
    go_enter Tryz.func32, Tryz.ntmps32
    go_wp2_with (first | (go_at_call 64; refine (cr _).mono ?_; rintro x w1 ⟨rfl, rfl⟩; clear cr) | (go_at_call 64; refine (ce _).mono ?_; rintro x w1 ⟨rfl, rfl⟩; clear ce) | (go_at_call 64; refine (cf _).mono ?_; rintro x w1 ⟨rfl, rfl⟩; clear cf))
    go_ret
    exact ⟨6, rfl, .stand (unveil HN), below1 _ _⟩
  case pos =>
  subst ho
  have HS : Hid (standP 4 e f 0 0 es.length) := veil (by unfold standP; have := unveil He; have := unveil Hf; omega)
  go_enter Tryz.func32, Tryz.ntmps32
  go_upto_region 12 with (first | (go_at_call 64; refine (cr _).mono ?_; rintro x w1 ⟨rfl, rfl⟩; clear cr) | (go_at_call 64; refine (ce _).mono ?_; rintro x w1 ⟨rfl, rfl⟩; clear ce) | (go_at_call 64; refine (cf _).mono ?_; rintro x w1 ⟨rfl, rfl⟩; clear cf))
  obtain ⟨W1, hW1, c5, b1⟩ : ∃ W1, W1 = w.alloc (.cells (bCells 4 e f 0 0 a es.length c) 24) ∧ W1.cell? ⟨w.heap.size, 5, none⟩ = some (.slice a es.length c) ∧ Below w.heap.size w W1 := ⟨_, rfl, (bBlock.new w _ _ _ _ _ _ _ _).cells.2.2.2.2.2, below1 _ _⟩
  rw [← hW1]
  clear hW1
  have HR := replayedOf_any es a c W1 (hr.below b1)
  go_upto_region 13 with (first
    | (go_at_call 65; refine HR.mono ?_; rintro x W2 ⟨y, er, s, rfl, rv, ⟨⟨a1, c1, a2, c2, ws, rfl, r1, r2, l1, l2, n1, n2, hW, f1, f2⟩⟩, b2⟩; have HV := veil rv; have B2 := Below.next b1 b2; clear HR b1 b2 c5 rv r1 r2 f1 f2)
    | (refine q_alloc 4 rfl rfl rfl ?_; intro W3 z3 b3; have B3 := Below.next B2 b3; have hz3 := B2.size; clear B2 b3)
    | (refine q_store (ra := a1) (la := a2) (ws' := ws) _ _ rfl rfl rfl rfl z3 hW ?_; intro W4 q4 t4; have B4 := t4.under B3 hz3; clear q4 t4 B3 z3))
  by_cases h0 : er = 0
  · subst h0
    go_wp2
    go_ret
    exact ⟨0, rfl, .ok (unveil HS) (unveil HV), B4⟩
  · go_wp2
    go_ret
    exact ⟨6, rfl, .form (unveil HS) (unveil HV) h0, B4⟩
theorem faultB_role (r e f t o : Int) (n : Nat) (a : Option Addr) (c : Nat) (w : World) (h : ¬ (0 ≤ r ∧ r ≤ 4)) : Calls Tryz.prog 32 #[bVal r e f t o a n c] w fun x w' => x = .returned (.int .i64 6) ∧ Below w.heap.size w w' := by
  have cr := inB_no r 0 4 h
  clear h
  go_enter Tryz.func32, Tryz.ntmps32
  go_wp2_with (first | (go_at_call 64; refine (cr _).mono ?_; rintro x w1 ⟨rfl, rfl⟩; clear cr))
  go_ret
  exact ⟨rfl, below1 _ _⟩
theorem faultB_fb (B : Bt) (a : Option Addr) (c : Nat) (w : World) (hb : BIn w B a c) : Calls Tryz.prog 32 #[bVal B.r B.e B.f B.t B.o a B.es.length c] w fun x w' => ∃ er, x = .returned (.int .i64 er) ∧ Fb B.r B.e B.f B.t B.o B.es er ∧ Below w.heap.size w w' := by
  obtain ⟨r, e, f, t, o, es⟩ := B
  by_cases h : 0 ≤ r ∧ r ≤ 4
  · rcases (show r = 0 ∨ r = 1 ∨ r = 2 ∨ r = 3 ∨ r = 4 by omega) with rfl | rfl | rfl | rfl | rfl
    · exact faultB_0 e f t o es a c w hb.row
    · exact faultB_1 e f t o es a c w hb.row
    · exact faultB_2 e f t o es a c w hb.row
    · exact faultB_3 e f t o es a c w hb.row
    · exact faultB_4 e f t o es a c w hb.row
  · refine (faultB_role r e f t o es.length a c w h).mono ?_
    rintro x w' ⟨rfl, b⟩
    have hn : ¬ standP r e f t o es.length := by unfold standP; omega
    exact ⟨6, rfl, .stand hn, b⟩
theorem Fb.iff {B : Bt} {er : Int} (h : Fb B.r B.e B.f B.t B.o B.es er) : (B.Ok ∧ er = 0) ∨ (¬ B.Ok ∧ er = 6) := by
  cases h with
  | stand h => exact .inr ⟨fun ok => h ok.stand, rfl⟩
  | form h hr h0 => exact .inr ⟨fun ok => h0 ((Rv.ok hr h).2 ok), rfl⟩
  | ok h hr => exact .inl ⟨(Rv.ok hr h).1 rfl, rfl⟩
theorem faultB_yes (B : Bt) (a : Option Addr) (c : Nat) (w : World) (hb : BIn w B a c) (ok : B.Ok) : Calls Tryz.prog 32 #[bVal B.r B.e B.f B.t B.o a B.es.length c] w fun x w' => x = .returned (.int .i64 0) ∧ Below w.heap.size w w' := by
  refine (faultB_fb B a c w hb).mono ?_
  rintro x w' ⟨er, rfl, h, b⟩
  rcases h.iff with ⟨_, rfl⟩ | ⟨h, _⟩
  · exact ⟨rfl, b⟩
  · exact absurd ok h
theorem faultB_no (B : Bt) (a : Option Addr) (c : Nat) (w : World) (hb : BIn w B a c) (ok : ¬ B.Ok) : Calls Tryz.prog 32 #[bVal B.r B.e B.f B.t B.o a B.es.length c] w fun x w' => x = .returned (.int .i64 6) ∧ Below w.heap.size w w' := by
  refine (faultB_fb B a c w hb).mono ?_
  rintro x w' ⟨er, rfl, h, b⟩
  rcases h.iff with ⟨h, _⟩ | ⟨_, rfl⟩
  · exact absurd h ok
  · exact ⟨rfl, b⟩
end Go.Proofs.YtcdopnkabbfooaaGreat

namespace Go.Proofs.YtcdopnkabbfooaaGreat
open Go.RowKit

theorem ret_bcopy {W : World} {R : Nat} {r e f t o : Int} {a : Option Addr} {n c : Nat} {tmps : Array Value} (d : bBlock W R r e f t o a n c) (t2 : tmps[2]? = some (.pointer (some ⟨R, 0, none⟩))) :
    (results Tryz.f27 tmps).run Tryz.prog W = .ok (bVal r e f t o a n c) W := by
  simp [results, Tryz.results27, t2, asAddr, load_berth d]
theorem ret_berths {W : World} {R : Nat} {r e f t o : Int} {a : Option Addr} {n c : Nat} {tmps : Array Value} (d : bBlock W R r e f t o a n c) (t2 : tmps[2]? = some (.pointer (some ⟨R, 0, none⟩))) :
    (results Tryz.f10 tmps).run Tryz.prog W = .ok (bVal r e f t o a n c) W := by
  simp [results, Tryz.results10, t2, asAddr, load_berth d]
/-- a row of events of one's own. -/
theorem own_events {w w' : World} {v : Value} {es : List Ev} {D : List Int} (hw : ∀ u ∈ D, (Lit.int .i64 u).wf = true) (hD : D = evFlat es) (o : w'.ownsRow w.heap.size 28 6 v es.length (D.map (Value.int .i64))) :
    ∃ a c, v = .slice a es.length c ∧ RowK .i64 w' a (6 * es.length) (evFlat es) ∧ es.length ≤ c ∧ (a = none → c = 0) ∧ (∀ x, a = some x → w.heap.size ≤ x.block) := by
  subst hD
  obtain ⟨a, c, e, r, l, _, n, x⟩ := RowK.ofMany o hw
  exact ⟨a, c, e, r, l, n, x⟩
set_option maxRecDepth 20000 in
set_option maxHeartbeats 4000000 in
theorem bcopy_own (B : Bt) (a : Option Addr) (c : Nat) (w : World) (hb : BIn w B a c) (hs : B.es.length * 48 ≤ 140737488351232) : Calls Tryz.prog 27 #[bVal B.r B.e B.f B.t B.o a B.es.length c] w fun x w' => ∃ a2 c2, x = .returned (bVal B.r B.e B.f B.t B.o a2 B.es.length c2) ∧ w'.ownsRow w.heap.size 28 6 (.slice a2 B.es.length c2) B.es.length ((evFlat B.es).map (Value.int .i64)) ∧ BIn w' B a2 c2 ∧ (∀ x, a2 = some x → w.heap.size ≤ x.block) ∧ Below w.heap.size w w' := by
  go_enter Tryz.func27, Tryz.ntmps27
  go_upto_region 1 with fail
  obtain ⟨W1, hW1, M1⟩ := Mb.made w B a c
  rw [← hW1]
  clear hW1
  have HC : Hid (Calls Tryz.prog 50 #[.slice a B.es.length c] W1 fun e w' => ∃ v, e = .returned v ∧ w'.ownsRow W1.heap.size 28 6 v B.es.length ((evFlat B.es).map (Value.int .i64)) ∧ Below W1.heap.size W1 w') := veil (eventsCopy_any a B.es.length c (evFlat B.es) W1 (hb.row.below M1.bel) hs)
  obtain ⟨x0, x1, x2, x3, x4, x5⟩ := M1.b.cells
  have hlt := M1.z.lt
  have HM := veil M1
  clear M1
  go_upto_region 2 with (first
    | (go_at_call 50; refine (unveil HC).mono ?_; rintro x W2 ⟨v, rfl, o2, b2⟩; obtain ⟨a2, c2, rfl, r2, l2, n2, f2⟩ := own_events hb.row.wf rfl o2; have M2 := (unveil HM).next b2; clear HC x0 x1 x2 x3 x4 x5; obtain ⟨x0, x1, x2, x3, x4, x5⟩ := M2.b.cells; have xf := M2.b.free; have HM2 := veil M2; have HO2 := veil o2; clear M2 b2 HM o2))
  obtain ⟨W3, hW3, T3, d3⟩ : ∃ W3, W3 = W2.setCell ⟨w.heap.size, 5, none⟩ (.slice a2 B.es.length c2) ∧ Turned w.heap.size W2 W3 ∧ bBlock W3 w.heap.size B.r B.e B.f B.t B.o a2 B.es.length c2 := ⟨_, rfl, Turned.set _ _ _ _, by
    have := heap_setB (k := 5) (v := .slice a2 B.es.length c2) (unveil HM2).b
    unfold bBlock
    rw [this]
    rfl⟩
  rw [← hW3]
  clear hW3 x0 x1 x2 x3 x4 x5 xf
  obtain ⟨x0, x1, x2, x3, x4, x5⟩ := d3.cells
  have z3 := (unveil HM2).z.turned T3 (by omega)
  have B3 := T3.under (unveil HM2).bel (Nat.le_refl _)
  have r3 := T3.row r2 (fun x hx _ => by have := f2 x hx; omega)
  obtain ⟨z0, z1, z2, z3', z4, z5⟩ := z3.cells
  have zf := z3.free
  have HZ := veil z3
  clear z3
  go_wp2
  obtain ⟨W4, hW4, d4, b4, T4⟩ := b_stored (unveil HZ) B3 (show w.heap.size ≤ w.heap.size + 1 by omega) B.r B.e B.f B.t B.o a2 B.es.length c2
  rw [← hW4]
  exact bodyPost_ret (ret_bcopy d4 rfl) rfl ⟨a2, c2, rfl, own_lower (T4.own (T3.own (unveil HO2) (by omega)) (by omega)) (by omega), ⟨T4.row r3 (fun x hx _ => by have := f2 x hx; omega), l2, n2⟩, fun x hx => by have := f2 x hx; omega, b4⟩
theorem bcopy_any (B : Bt) (a : Option Addr) (c : Nat) (w : World) (hb : BIn w B a c) (hs : B.es.length * 48 ≤ 140737488351232) : Calls Tryz.prog 27 #[bVal B.r B.e B.f B.t B.o a B.es.length c] w fun x w' => ∃ y, x = .returned y ∧ BOut w w' B y ∧ Below w.heap.size w w' := by
  refine (bcopy_own B a c w hb hs).mono ?_
  rintro x w' ⟨a2, c2, rfl, _, i2, f2, b2⟩
  exact ⟨_, rfl, ⟨a2, c2, rfl, i2, f2⟩, b2⟩
set_option maxRecDepth 20000 in
set_option maxHeartbeats 4000000 in
theorem berths_any (B : Bt) (a : Option Addr) (c : Nat) (w : World) (hb : BIn w B a c) (hs : B.es.length * 48 ≤ 140737488351232) : Calls Tryz.prog 10 #[bVal B.r B.e B.f B.t B.o a B.es.length c] w fun x w' => ∃ y, x = .returned y ∧ BOut w w' B y ∧ Below w.heap.size w w' := by
  go_enter Tryz.func10, Tryz.ntmps10
  go_upto_region 1 with fail
  obtain ⟨W1, hW1, M1⟩ := Mb.made w B a c
  rw [← hW1]
  clear hW1
  have HC := veil (bcopy_any B a c W1 (hb.next M1.bel) hs)
  obtain ⟨x0, x1, x2, x3, x4, x5⟩ := M1.b.cells
  have hlt := M1.z.lt
  have HM := veil M1
  clear M1
  go_wp2_with (first
    | (go_at_call 27; refine (unveil HC).mono ?_; rintro x W2 ⟨y, rfl, ⟨a2, c2, rfl, i2, f2⟩, b2⟩; have M2 := (unveil HM).next b2; clear HC x0 x1 x2 x3 x4 x5; obtain ⟨z0, z1, z2, z3, z4, z5⟩ := M2.z.cells; have zf := M2.z.free; have HM2 := veil M2; clear M2 b2 HM))
  obtain ⟨W4, hW4, d4, b4, T4⟩ := b_stored (unveil HM2).z (unveil HM2).bel (show w.heap.size ≤ w.heap.size + 1 by omega) B.r B.e B.f B.t B.o a2 B.es.length c2
  rw [← hW4]
  exact bodyPost_ret (ret_berths d4 rfl) rfl ⟨_, rfl, ⟨a2, c2, rfl, i2.turned T4 (fun x hx _ => by have := f2 x hx; omega), fun x hx => by have := f2 x hx; omega⟩, b4⟩
end Go.Proofs.YtcdopnkabbfooaaGreat

namespace Go.Proofs.YtcdopnkabbfooaaGreat
open Go.RowKit
theorem ret_bBegun {W : World} {R : Nat} {r e f t o : Int} {a : Option Addr} {n c : Nat} {er : Int} {tmps : Array Value} (d : bBlock W R r e f t o a n c) (t1 : tmps[6]? = some (.pointer (some ⟨R, 0, none⟩))) (t2 : tmps[7]? = some (.int .i64 er)) :
    (results Tryz.f34 tmps).run Tryz.prog W = .ok (.tuple #[bVal r e f t o a n c, .int .i64 er]) W := by
  simp [results, Tryz.results34, t1, t2, asAddr, load_berth d]
set_option maxRecDepth 20000 in
set_option maxHeartbeats 4000000 in
theorem bbegun_any (B : Bt) (a : Option Addr) (c : Nat) (ep fr : Int) (w : World) (hb : BIn w B a c) (hs : B.es.length * 48 ≤ 140737488351232) : Calls Tryz.prog 34 #[bVal B.r B.e B.f B.t B.o a B.es.length c, .int .i64 ep, .int .i64 fr] w fun x w' => ∃ y B' er, x = .returned (.tuple #[y, .int .i64 er]) ∧ beginOf B ep fr = (B', er) ∧ BOut w w' B' y ∧ Below w.heap.size w w' := by
  by_cases ok : B.Ok
  case neg =>
    go_enter Tryz.func34, Tryz.ntmps34
    go_upto_region 1 with fail
    obtain ⟨W1, hW1, M1⟩ := Mb.made w B a c
    rw [← hW1]
    clear hW1
    have HC := faultB_no B a c W1 (hb.next M1.bel) ok
    obtain ⟨x0, x1, x2, x3, x4, x5⟩ := M1.b.cells
    have HM := veil M1
    clear M1
    go_upto_region 2 with (go_at_call 32; refine HC.mono ?_; rintro x W2 ⟨rfl, b2⟩; clear HC x0 x1 x2 x3 x4 x5; have M2 := (unveil HM).next b2; obtain ⟨x0, x1, x2, x3, x4, x5⟩ := M2.b.cells; obtain ⟨z0, z1, z2, z3, z4, z5⟩ := M2.z.cells; have zf := M2.z.free; have HM2 := veil M2; clear M2 b2 HM)
    go_wp2
    obtain ⟨W4, hW4, d4, b4, _⟩ := b_stored (unveil HM2).z (unveil HM2).bel (show w.heap.size ≤ w.heap.size + 1 by omega) 0 0 0 0 0 none 0 0
    rw [← hW4]
    exact bodyPost_ret (ret_bBegun d4 rfl rfl) rfl ⟨_, Bt.zero, _, rfl, by simp [beginOf, ok], BOut.zero _ _, b4⟩
  case pos =>
  by_cases h1 : 1 ≤ ep ∧ ep ≤ 1048576
  case neg =>
    have HE1 := inB_no ep 1 1048576 h1
    have H1 := veil h1
    clear h1
    go_enter Tryz.func34, Tryz.ntmps34
    go_upto_region 1 with fail
    obtain ⟨W1, hW1, M1⟩ := Mb.made w B a c
    rw [← hW1]
    clear hW1
    have HC := faultB_yes B a c W1 (hb.next M1.bel) ok
    obtain ⟨x0, x1, x2, x3, x4, x5⟩ := M1.b.cells
    have HM := veil M1
    clear M1
    go_upto_region 2 with (go_at_call 32; refine HC.mono ?_; rintro x W2 ⟨rfl, b2⟩; clear HC x0 x1 x2 x3 x4 x5; have M2 := (unveil HM).next b2; obtain ⟨x0, x1, x2, x3, x4, x5⟩ := M2.b.cells; obtain ⟨z0, z1, z2, z3, z4, z5⟩ := M2.z.cells; have zf := M2.z.free; have HM2 := veil M2; clear M2 b2 HM)
    go_wp2_with (first | (go_at_call 64; refine (HE1 _).mono ?_; rintro x w3 ⟨rfl, hw3⟩; subst w3; clear HE1))
    obtain ⟨W4, hW4, d4, b4, _⟩ := b_stored (unveil HM2).z (unveil HM2).bel (show w.heap.size ≤ w.heap.size + 1 by omega) 0 0 0 0 0 none 0 0
    rw [← hW4]
    exact bodyPost_ret (ret_bBegun d4 rfl rfl) rfl ⟨_, Bt.zero, _, rfl, by have h1 := unveil H1; simp only [beginOf]; rw [if_neg (by simpa using ok), if_pos (fun h => h1 h.1)], BOut.zero _ _, b4⟩
  case pos =>
  have HE1 := inB_yes ep 1 1048576 h1
  have H1 := veil h1
  clear h1
  by_cases h2 : 0 ≤ fr ∧ fr ≤ 4
  case neg =>
    have HE2 := inB_no fr 0 4 h2
    have H2 := veil h2
    clear h2
    go_enter Tryz.func34, Tryz.ntmps34
    go_upto_region 1 with fail
    obtain ⟨W1, hW1, M1⟩ := Mb.made w B a c
    rw [← hW1]
    clear hW1
    have HC := faultB_yes B a c W1 (hb.next M1.bel) ok
    obtain ⟨x0, x1, x2, x3, x4, x5⟩ := M1.b.cells
    have HM := veil M1
    clear M1
    go_upto_region 2 with (go_at_call 32; refine HC.mono ?_; rintro x W2 ⟨rfl, b2⟩; clear HC x0 x1 x2 x3 x4 x5; have M2 := (unveil HM).next b2; obtain ⟨x0, x1, x2, x3, x4, x5⟩ := M2.b.cells; obtain ⟨z0, z1, z2, z3, z4, z5⟩ := M2.z.cells; have zf := M2.z.free; have HM2 := veil M2; clear M2 b2 HM)
    go_wp2_with (first | (go_at_call 64; refine (HE1 _).mono ?_; rintro x w3 ⟨rfl, hw3⟩; subst w3; clear HE1) | (go_at_call 64; refine (HE2 _).mono ?_; rintro x w3 ⟨rfl, hw3⟩; subst w3; clear HE2))
    obtain ⟨W4, hW4, d4, b4, _⟩ := b_stored (unveil HM2).z (unveil HM2).bel (show w.heap.size ≤ w.heap.size + 1 by omega) 0 0 0 0 0 none 0 0
    rw [← hW4]
    exact bodyPost_ret (ret_bBegun d4 rfl rfl) rfl ⟨_, Bt.zero, _, rfl, by have h2 := unveil H2; simp only [beginOf]; rw [if_neg (by simpa using ok), if_pos (fun h => h2 h.2)], BOut.zero _ _, b4⟩
  case pos =>
  have HE2 := inB_yes fr 0 4 h2
  have H2 := veil h2
  clear h2
  have H12 : Hid (¬ ¬ ((1 ≤ ep ∧ ep ≤ 1048576) ∧ (0 ≤ fr ∧ fr ≤ 4))) := veil (fun h => h ⟨unveil H1, unveil H2⟩)
  by_cases h3 : 1 ≤ B.r ∧ B.r ≤ 3
  case pos =>
    have HE3 := inB_yes B.r 1 3 h3
    have H3 := veil h3
    clear h3
    go_enter Tryz.func34, Tryz.ntmps34
    go_upto_region 1 with fail
    obtain ⟨W1, hW1, M1⟩ := Mb.made w B a c
    rw [← hW1]
    clear hW1
    have HC := faultB_yes B a c W1 (hb.next M1.bel) ok
    obtain ⟨x0, x1, x2, x3, x4, x5⟩ := M1.b.cells
    have HM := veil M1
    clear M1
    go_upto_region 2 with (go_at_call 32; refine HC.mono ?_; rintro x W2 ⟨rfl, b2⟩; clear HC x0 x1 x2 x3 x4 x5; have M2 := (unveil HM).next b2; obtain ⟨x0, x1, x2, x3, x4, x5⟩ := M2.b.cells; obtain ⟨z0, z1, z2, z3, z4, z5⟩ := M2.z.cells; have zf := M2.z.free; have HM2 := veil M2; clear M2 b2 HM)
    go_wp2_with (first | (go_at_call 64; refine (HE1 _).mono ?_; rintro x w3 ⟨rfl, hw3⟩; subst w3; clear HE1) | (go_at_call 64; refine (HE2 _).mono ?_; rintro x w3 ⟨rfl, hw3⟩; subst w3; clear HE2) | (go_at_call 64; refine (HE3 _).mono ?_; rintro x w3 ⟨rfl, hw3⟩; subst w3; clear HE3))
    obtain ⟨W4, hW4, d4, b4, _⟩ := b_stored (unveil HM2).z (unveil HM2).bel (show w.heap.size ≤ w.heap.size + 1 by omega) 0 0 0 0 0 none 0 0
    rw [← hW4]
    exact bodyPost_ret (ret_bBegun d4 rfl rfl) rfl ⟨_, Bt.zero, _, rfl, by have h3 := unveil H3; simp only [beginOf]; rw [if_neg (by simpa using ok), if_neg (unveil H12), if_pos (by omega)], BOut.zero _ _, b4⟩
  case neg =>
  have HE3 := inB_no B.r 1 3 h3
  have H3 : Hid (¬ (B.r = 1 ∨ B.r = 2 ∨ B.r = 3)) := veil (by omega)
  clear h3
  by_cases h4 : B.e < ep
  case pos =>
    go_enter Tryz.func34, Tryz.ntmps34
    go_upto_region 1 with fail
    obtain ⟨W1, hW1, M1⟩ := Mb.made w B a c
    rw [← hW1]
    clear hW1
    have HC := faultB_yes B a c W1 (hb.next M1.bel) ok
    obtain ⟨x0, x1, x2, x3, x4, x5⟩ := M1.b.cells
    have HM := veil M1
    clear M1
    go_upto_region 2 with (go_at_call 32; refine HC.mono ?_; rintro x W2 ⟨rfl, b2⟩; clear HC x0 x1 x2 x3 x4 x5; have M2 := (unveil HM).next b2; obtain ⟨x0, x1, x2, x3, x4, x5⟩ := M2.b.cells; obtain ⟨z0, z1, z2, z3, z4, z5⟩ := M2.z.cells; have zf := M2.z.free; have HM2 := veil M2; clear M2 b2 HM)
    go_wp2_with (first | (go_at_call 64; refine (HE1 _).mono ?_; rintro x w3 ⟨rfl, hw3⟩; subst w3; clear HE1) | (go_at_call 64; refine (HE2 _).mono ?_; rintro x w3 ⟨rfl, hw3⟩; subst w3; clear HE2) | (go_at_call 64; refine (HE3 _).mono ?_; rintro x w3 ⟨rfl, hw3⟩; subst w3; clear HE3))
    obtain ⟨W4, hW4, d4, b4, _⟩ := b_stored (unveil HM2).z (unveil HM2).bel (show w.heap.size ≤ w.heap.size + 1 by omega) 4 ep fr 0 0 none 0 0
    rw [← hW4]
    exact bodyPost_ret (ret_bBegun d4 rfl rfl) rfl ⟨_, ⟨4, ep, fr, 0, 0, []⟩, _, rfl, by simp only [beginOf]; rw [if_neg (by simpa using ok), if_neg (unveil H12), if_neg (unveil H3), if_neg (by omega), if_neg (by omega)], ⟨none, 0, rfl, ⟨RowK.nil _ _ _, Nat.le_refl _, fun _ => rfl⟩, fun x hx => by cases hx⟩, b4⟩
  case neg =>
  by_cases h5 : B.r = 4 ∧ B.e = ep ∧ B.f = fr
  case neg =>
    have hc : (B.r == 4) = false ∨ ((B.r == 4) = true ∧ (ep == B.e) = false) ∨ ((B.r == 4) = true ∧ (ep == B.e) = true ∧ (fr == B.f) = false) := by
      simp only [beq_eq_false_iff_ne, beq_iff_eq, ne_eq]
      omega
    have H5 := veil h5
    clear h5
    rcases hc with e1 | ⟨e1, e2⟩ | ⟨e1, e2, e3⟩
    all_goals
      go_enter Tryz.func34, Tryz.ntmps34
      go_upto_region 1 with fail
      obtain ⟨W1, hW1, M1⟩ := Mb.made w B a c
      rw [← hW1]
      clear hW1
      have HC := faultB_yes B a c W1 (hb.next M1.bel) ok
      obtain ⟨x0, x1, x2, x3, x4, x5⟩ := M1.b.cells
      have HM := veil M1
      clear M1
      go_upto_region 2 with (go_at_call 32; refine HC.mono ?_; rintro x W2 ⟨rfl, b2⟩; clear HC x0 x1 x2 x3 x4 x5; have M2 := (unveil HM).next b2; obtain ⟨x0, x1, x2, x3, x4, x5⟩ := M2.b.cells; obtain ⟨z0, z1, z2, z3, z4, z5⟩ := M2.z.cells; have zf := M2.z.free; have HM2 := veil M2; clear M2 b2 HM)
      go_wp2_with (first | (go_at_call 64; refine (HE1 _).mono ?_; rintro x w3 ⟨rfl, hw3⟩; subst w3; clear HE1) | (go_at_call 64; refine (HE2 _).mono ?_; rintro x w3 ⟨rfl, hw3⟩; subst w3; clear HE2) | (go_at_call 64; refine (HE3 _).mono ?_; rintro x w3 ⟨rfl, hw3⟩; subst w3; clear HE3))
      obtain ⟨W4, hW4, d4, b4, _⟩ := b_stored (unveil HM2).z (unveil HM2).bel (show w.heap.size ≤ w.heap.size + 1 by omega) 0 0 0 0 0 none 0 0
      rw [← hW4]
      exact bodyPost_ret (ret_bBegun d4 rfl rfl) rfl ⟨_, Bt.zero, _, rfl, by simp only [beginOf]; rw [if_neg (by simpa using ok), if_neg (unveil H12), if_neg (unveil H3), if_neg (unveil H5), if_pos (by omega)], BOut.zero _ _, b4⟩
  case pos =>
    have H5 := veil h5
    have e1 : (B.r == 4) = true := by simp [h5.1]
    have e2 : (ep == B.e) = true := by simp [h5.2.1]
    have e3 : (fr == B.f) = true := by simp [h5.2.2]
    clear h5
    go_enter Tryz.func34, Tryz.ntmps34
    go_upto_region 1 with fail
    obtain ⟨W1, hW1, M1⟩ := Mb.made w B a c
    rw [← hW1]
    clear hW1
    have HC := faultB_yes B a c W1 (hb.next M1.bel) ok
    obtain ⟨x0, x1, x2, x3, x4, x5⟩ := M1.b.cells
    have HM := veil M1
    clear M1
    go_upto_region 2 with (go_at_call 32; refine HC.mono ?_; rintro x W2 ⟨rfl, b2⟩; clear HC x0 x1 x2 x3 x4 x5; have M2 := (unveil HM).next b2; obtain ⟨x0, x1, x2, x3, x4, x5⟩ := M2.b.cells; obtain ⟨z0, z1, z2, z3, z4, z5⟩ := M2.z.cells; have zf := M2.z.free; have HM2 := veil M2; clear M2 b2 HM)
    go_upto_region 11 with (first | (go_at_call 64; refine (HE1 _).mono ?_; rintro x w3 ⟨rfl, hw3⟩; subst w3; clear HE1) | (go_at_call 64; refine (HE2 _).mono ?_; rintro x w3 ⟨rfl, hw3⟩; subst w3; clear HE2) | (go_at_call 64; refine (HE3 _).mono ?_; rintro x w3 ⟨rfl, hw3⟩; subst w3; clear HE3))
    have HCp := veil (bcopy_any B a c W2 (hb.next (unveil HM2).bel) hs)
    go_wp2_with (go_at_call 27; refine (unveil HCp).mono ?_; rintro x W3 ⟨y, rfl, ⟨a3, c3, rfl, i3, f3⟩, b3⟩; have M3 := (unveil HM2).next b3; have hlt3 := (unveil HM2).z.lt; clear HCp x0 x1 x2 x3 x4 x5 z0 z1 z2 z3 z4 z5 zf; obtain ⟨z0, z1, z2, z3, z4, z5⟩ := M3.z.cells; have zf := M3.z.free; have HM3 := veil M3; have HI3 := veil i3; clear HM2 M3 i3 b3)
    obtain ⟨W4, hW4, d4, b4, T4⟩ := b_stored (unveil HM3).z (unveil HM3).bel (show w.heap.size ≤ w.heap.size + 1 by omega) B.r B.e B.f B.t B.o a3 B.es.length c3
    rw [← hW4]
    exact bodyPost_ret (ret_bBegun d4 rfl rfl) rfl ⟨_, B, 0, rfl, by simp only [beginOf]; rw [if_neg (by simpa using ok), if_neg (unveil H12), if_neg (unveil H3), if_pos (unveil H5)], ⟨a3, c3, rfl, (unveil HI3).turned T4 (fun x hx _ => by have := f3 x hx; omega), fun x hx => by have := f3 x hx; omega⟩, b4⟩
end Go.Proofs.YtcdopnkabbfooaaGreat
