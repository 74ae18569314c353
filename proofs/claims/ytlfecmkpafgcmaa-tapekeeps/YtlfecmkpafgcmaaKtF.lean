/- The walk of berthshiftkeep.sameRecords. -/
import Derived.Test.YtlfecmkpafgcmaaTpM
namespace Go.Proofs.Ytlfecmkpafgcmaa
open Go.RowKit

set_option maxRecDepth 20000 in
set_option maxHeartbeats 1000000 in
theorem sameRecordsK_yes (a a' : Option Addr) (n cap n' cap' : Nat) (rs : List (List Int)) (w : World) (h : RecRow w a rs) (h' : RecRow w a' rs) (hn : n = rs.length) (hn' : n' = rs.length) (hm : n ≤ 1000000) :
    Calls Try.prog 21 #[.slice a n cap, .slice a' n' cap'] w fun e w' => e = .returned (.bool true) ∧ ∃ m, w' = w.drewN m := by
  subst hn'
  subst hn
  go_enter Try.func21, Try.ntmps21
  have ee : ((rs.length : Int) == (rs.length : Int)) = true := by simp
  go_wp2
  go_loopw [5] (fun t wr => ∃ k m : Nat, k ≤ rs.length ∧ t = .int .i64 k ∧ wr = w.drewN m) (fun t _ => rs.length - (intOf t).toNat)
  case atStart => exact ⟨0, 0, Nat.zero_le _, rfl, rfl⟩
  case round =>
    obtain ⟨k, m, hk, rfl, rfl⟩ := hrel
    by_cases hlt : k < rs.length
    · obtain ⟨b, off, rfl, hbl, _⟩ := h.cell (k * 10) (by omega)
      obtain ⟨b', off', rfl, hbl', _⟩ := h'.cell (k * 10) (by omega)
      have kc : ∀ j, j < 10 → w.cell? ⟨b, off + k * 10 + j, none⟩ = some (.int .i64 ((rs.getD k []).getD j 0)) := fun j hj => by
        obtain ⟨b2, off2, he, _, hcc⟩ := h.cell (k * 10 + j) (by omega)
        simp at he
        obtain ⟨rfl, rfl⟩ := he
        rw [flat_getD rs h.ten k j hlt hj] at hcc
        rw [Nat.add_assoc]
        exact hcc
      have kc' : ∀ j, j < 10 → w.cell? ⟨b', off' + k * 10 + j, none⟩ = some (.int .i64 ((rs.getD k []).getD j 0)) := fun j hj => by
        obtain ⟨b2, off2, he, _, hcc⟩ := h'.cell (k * 10 + j) (by omega)
        simp at he
        obtain ⟨rfl, rfl⟩ := he
        rw [flat_getD rs h'.ten k j hlt hj] at hcc
        rw [Nat.add_assoc]
        exact hcc
      have hzl : (rs.getD k []).length = 10 := h.ten _ (by rw [List.getD_eq_getElem?_getD, List.getElem?_eq_getElem hlt]; simp)
      generalize rs.getD k [] = zs at kc kc' hzl
      match zs, hzl with
      | [x0, x1, x2, x3, x4, x5, x6, x7, x8, x9], _ =>
        have m0 := kc 0 (by omega)
        have m1 := kc 1 (by omega)
        have m2 := kc 2 (by omega)
        have m3 := kc 3 (by omega)
        have m4 := kc 4 (by omega)
        have m5 := kc 5 (by omega)
        have m6 := kc 6 (by omega)
        have m7 := kc 7 (by omega)
        have m8 := kc 8 (by omega)
        have m9 := kc 9 (by omega)
        have n0 := kc' 0 (by omega)
        have n1 := kc' 1 (by omega)
        have n2 := kc' 2 (by omega)
        have n3 := kc' 3 (by omega)
        have n4 := kc' 4 (by omega)
        have n5 := kc' 5 (by omega)
        have n6 := kc' 6 (by omega)
        have n7 := kc' 7 (by omega)
        have n8 := kc' 8 (by omega)
        have n9 := kc' 9 (by omega)
        simp only [List.getD_cons_zero, List.getD_cons_succ, Nat.add_zero] at m0 m1 m2 m3 m4 m5 m6 m7 m8 m9 n0 n1 n2 n3 n4 n5 n6 n7 n8 n9
        clear kc kc' h h'
        have hki : (k : Int) < (rs.length : Int) := by omega
        go_wp2_with fail
        go_quiet (fail)
        clear m0 m1 m2 m3 m4 m5 m6 m7 m8 m9 n0 n1 n2 n3 n4 n5 n6 n7 n8 n9
        go_wp2
        go_roundw
        case rel => exact ⟨k + 1, m + nq, by omega, by go_num, by first | exact (World.drewN_add _ _ _).symm | exact World.drewN_add _ _ _ | exact World.drewN_drewN _ _ _ | rfl | simp⟩
        case measure => simp [intOf]; omega
    · have hk' : k = rs.length := by omega
      subst hk'
      go_wp2
      go_ret
      exact ⟨rfl, m, rfl⟩
end Go.Proofs.Ytlfecmkpafgcmaa
