/- Walks of the document's answer's SpreadOf, of the law's copy of loads, and of PlanSpreads. -/
import Derived.Test.YtmkbidglfnpgjaaPnH
import Derived.Test.YtmkbidglfnpgjaaPnP
namespace Go.Proofs.Ytmkbidglfnpgjaa
open Go.RowKit

theorem Try.infoLoad : (Try.prog.info? 41).map (fun i => (i.zero, i.size, i.bytes)) = some (some (.agg #[.int .i64 0, .int .i64 0, .int .i64 0]), 3, 24) := by kernel_rfl
theorem gapOf_at (l : List Ld) (m : Nat) (h : 0 < m) : gapOf (works l m) = workAt l (busyOf (works l m) : Nat) - workAt l (idleOf (works l m) : Nat) := by
  have hl := works_len l m
  have h1 := (busyOf_is (works l m) (by omega)).1.lt
  have h2 := (idleOf_is (works l m) (by omega)).1.lt
  unfold gapOf
  rw [works_at l m _ (by omega), works_at l m _ (by omega)]
set_option maxRecDepth 20000 in
set_option maxHeartbeats 2000000 in
theorem refSpread_any (nodes : Int) (a : Option Addr) (c : Nat) (l : List Ld) (w : World) (hA : RowK .i64 w a (3 * l.length) (ldFlat l)) (hl : l.length ≤ 9223372036854775806) :
    Calls Try.prog 10 #[.slice a l.length c, .int .i64 nodes] w fun e w' => e = .returned (.tuple #[.int .i64 (spreadOf nodes l), .int .i64 (loadsOf nodes l)]) ∧ Below w.heap.size w w' := by
  have HC := loadsFault_any nodes a c l w hA hl
  rcases loadsOf_cases nodes l with h0 | ⟨h0, h1, h5, hr⟩
  · have e1 : spreadOf nodes l = 0 := by unfold spreadOf; rw [if_neg h0]
    rw [e1]
    clear e1
    generalize loadsOf nodes l = e0 at *
    generalize l.length = n at *
    have hb : (e0 != 0) = true := by simpa using h0
    clear hA
    go_enter Try.func10, Try.ntmps10
    go_wp2_with (go_at_call 23; refine HC.mono ?_; rintro _ w1 ⟨rfl, b1⟩; have B1 := veil b1; clear b1 HC)
    exact bodyPost_ret (v := .tuple #[.int .i64 0, .int .i64 e0]) (by simp [results, Try.results10, go_sem]) rfl ⟨rfl, unveil B1⟩
  · obtain ⟨m, rfl⟩ : ∃ m : Nat, nodes = m := ⟨nodes.toNat, by omega⟩
    have e1 : spreadOf (m : Int) l = gapOf (works l m) := by unfold spreadOf; rw [if_pos h0]; rfl
    rw [e1, gapOf_at l m (by omega)]
    rw [h0] at HC ⊢
    have HB : Hid (∀ w1, Below w.heap.size w w1 → Calls Try.prog 24 #[.slice a l.length c, .int .i64 m] w1 fun e w' => e = .returned (.tuple #[.int .i64 (busyOf (works l m)), .int .i64 (idleOf (works l m))]) ∧ w' = w1) := veil fun w1 b1 => refBusiest_any m a c l w1 (hA.below b1) (by omega) (by omega) hr
    have HW : Hid (∀ w1, Below w.heap.size w w1 → ∀ z, Calls Try.prog 25 #[.slice a l.length c, .int .i64 z] w1 fun e w' => e = .returned (.int .i64 (workAt l z)) ∧ w' = w1) := veil fun w1 b1 z => workAt_any z m a c l w1 (hA.below b1) hr
    have v1 := hr.work (busyOf (works l m))
    have v2 := hr.work (idleOf (works l m))
    clear hr hA e1 h0
    generalize busyOf (works l m) = bu at *
    generalize idleOf (works l m) = id at *
    generalize workAt l = f at *
    generalize l.length = n at *
    go_enter Try.func10, Try.ntmps10
    go_wp2_with (first | (go_at_call 23; refine HC.mono ?_; rintro _ w1 ⟨rfl, b1⟩; have B1 := veil b1; have HB1 := unveil HB w1 b1; have HW1 := unveil HW w1 b1; clear b1 HC HB HW) | (go_at_call 24; refine HB1.mono ?_; rintro _ _ ⟨rfl, rfl⟩; clear HB1) | (go_at_call 25; refine (HW1 _).mono ?_; rintro _ _ ⟨rfl, rfl⟩))
    exact bodyPost_ret (v := .tuple #[.int .i64 (f bu - f id), .int .i64 0]) (by simp [results, Try.results10, go_sem]) rfl ⟨rfl, unveil B1⟩
theorem wf_flat {D : List Int} {w : World} {a : Option Addr} {n : Nat} (h : RowK .i64 w a n D) : ∀ u ∈ D, (Lit.int .i64 u).wf = true := h.wf
set_option maxRecDepth 20000 in
theorem lawLoads_any (a : Option Addr) (c : Nat) (l : List Ld) (w : World) (hA : RowK .i64 w a (3 * l.length) (ldFlat l)) (hn : a = none → c = 0) (hs : l.length * 24 ≤ 140737488351232) :
    Calls Try.prog 9 #[.slice a l.length c] w fun e w' => ∃ a2 c2, e = .returned (.slice a2 l.length c2) ∧ RowK .i64 w' a2 (3 * l.length) (ldFlat l) ∧ l.length ≤ c2 ∧ c2 ≤ maxLen ∧ (a2 = none → c2 = 0) ∧ Below w.heap.size w w' := by
  obtain ⟨i2, hi2, hz20, hz21, hz22⟩ := info_ofP Try.infoLoad
  have HF : Hid (∀ v' w', w'.ownsRow w.heap.size 41 3 v' l.length ((ldFlat l).map (Value.int .i64)) → w.grownBy w' none → ∃ a2 c2, v' = .slice a2 l.length c2 ∧ RowK .i64 w' a2 (3 * l.length) (ldFlat l) ∧ l.length ≤ c2 ∧ c2 ≤ maxLen ∧ (a2 = none → c2 = 0) ∧ Below w.heap.size w w') := veil (by
    intro v' w' own grow
    obtain ⟨a2, c2, e, r, h1, h2, h3, _⟩ := RowK.ofMany own hA.wf
    exact ⟨a2, c2, e, r, h1, h2, h3, (Below.refl _ _).grown grow (Nat.le_refl _) (fun q hq => by cases hq)⟩)
  generalize l.length = n at *
  generalize ldFlat l = D at *
  go_enter Try.func9, Try.ntmps9
  go_wp2_with (at_builtin; refine wpList_append_rows rfl _ _ 22 rfl w.heap.size 41 i2 _ 3 24 Try.underlying22 hi2 hz20 hz21 hz22 rfl (by decide) (.slice none 0 0) 0 [] rfl (World.ownsRow_nil _ _ _ _) a n c D rfl hA hn (by unfold maxLen; omega) (by omega) (Nat.le_refl _) ?_; intro v' w4 own4 grow4; rw [List.nil_append, Nat.zero_add] at own4; obtain ⟨a2, c2, rfl, r⟩ := unveil HF v' w4 own4 grow4; have R := veil r; clear own4 grow4 r)
  go_ret
  exact ⟨a2, c2, rfl, unveil R⟩
set_option maxRecDepth 20000 in
theorem walk_PlanSpreads (w : World) (a : Option Addr) (len cap : Nat) (D : List Int) (hA : RowK .i64 w a (3 * len) D) (hc : len ≤ cap) (hn : a = none → cap = 0) (hz : cap * 24 ≤ 140737488351232) (nodes : Int) (_ : (Lit.int .i64 nodes).wf = true) :
    Calls Try.prog 3 #[.slice a len cap, .int .i64 nodes] w fun e w' => e = .returned (.bool true) ∧ Below w.heap.size w w' := by
  obtain ⟨l, rfl, rfl⟩ : ∃ l : List Ld, len = l.length ∧ D = ldFlat l := ⟨ldsOf D len, (ldsOf_len D len).symm, by rw [ldFlat_ldsOf D len (by have := hA.len_eq; omega), List.take_of_length_le (by have := hA.len_eq; omega)]⟩
  have HL := lawLoads_any a cap l w hA hn (by omega)
  have HS : Hid (∀ a2 c2 w1, RowK .i64 w1 a2 (3 * l.length) (ldFlat l) → Calls Try.prog 8 #[.slice a2 l.length c2, .int .i64 nodes] w1 fun e w' => e = .returned (.tuple #[.int .i64 (spreadOf nodes l), .int .i64 (loadsOf nodes l)]) ∧ Below w1.heap.size w1 w') := veil fun a2 c2 w1 h => spread_any nodes a2 c2 l w1 h (by omega)
  have HR : Hid (∀ w1, Below w.heap.size w w1 → Calls Try.prog 10 #[.slice a l.length cap, .int .i64 nodes] w1 fun e w' => e = .returned (.tuple #[.int .i64 (spreadOf nodes l), .int .i64 (loadsOf nodes l)]) ∧ Below w1.heap.size w1 w') := veil fun w1 b => refSpread_any nodes a cap l w1 (hA.below b) (by omega)
  clear hA
  generalize spreadOf nodes l = s at *
  generalize loadsOf nodes l = e0 at *
  go_enter Try.func3, Try.ntmps3
  go_wp2_with (first | (go_at_call 9; refine HL.mono ?_; rintro _ w1 ⟨a2, c2, rfl, r2, _, _, _, b1⟩; have HS1 := unveil HS a2 c2 w1 r2; have B1 := veil b1; clear r2 b1 HL HS) | (go_at_call 8; refine HS1.mono ?_; rintro _ w2 ⟨rfl, b2⟩; have B2 := Below.next (unveil B1) b2; have HR1 := unveil HR w2 B2; have BB := veil B2; clear b2 B2 HS1 B1 HR) | (go_at_call 10; refine HR1.mono ?_; rintro _ w3 ⟨rfl, b3⟩; have B3 := veil (Below.next (unveil BB) b3); clear b3 HR1 BB))
  go_ret
  exact ⟨by first | rfl | simp, unveil B3⟩
end Go.Proofs.Ytmkbidglfnpgjaa
