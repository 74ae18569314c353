/- Walks of client.maySend, Send, Done, New. -/
import Derived.Test.YtjolamdlclcpcaaCqD
import Derived.Test.YtjolamdlclcpcaaCqE
namespace Go.Proofs.Ytjolamdlclcpcaa
open Go.RowKit

/-- may this be sent now? -/
inductive MayR (C : Cl) (b : Int) : Int → Prop
  | state (h : ¬ C.Ok) : MayR C b 6
  | range (h : C.Ok) (hb : ¬ (0 ≤ b ∧ b ≤ 1000000)) : MayR C b 2
  | full (h : C.Ok) (hb : 0 ≤ b ∧ b ≤ 1000000) (hf : C.full) : MayR C b 14
  | sent (h : C.Ok) (hb : 0 ≤ b ∧ b ≤ 1000000) (hf : ¬ C.full) : MayR C b 0
set_option maxRecDepth 20000 in
set_option maxHeartbeats 2000000 in
theorem maySend_any (C : Cl) (a : Option Addr) (c : Nat) (b : Int) (w : World) (h : CIn w C a c) :
    Calls Try.prog 39 #[cVal C.p C.n a C.es.length c C.wh, .int .i64 b] w fun e w' => ∃ f, e = .returned (.int .i64 f) ∧ MayR C b f ∧ Below w.heap.size w w' := by
  have HC : Hid (∀ W, Below w.heap.size w W → CIn W C a c) := veil fun W b => h.next b
  clear h
  obtain ⟨W, hW, cb, B0⟩ : ∃ W, W = w.alloc (.cells (cCells C.p C.n a C.es.length c C.wh) 25) ∧ cBlock W w.heap.size C.p C.n a C.es.length c C.wh ∧ Below w.heap.size w W := ⟨_, rfl, cBlock.new _ _ _ _ _ _ _, below1 _ _⟩
  have HC1 := ccheck_any C a c W (unveil HC W B0)
  have HB := veil (And.intro cb B0)
  by_cases ok : C.Ok
  case neg =>
    rw [show clFault C = 6 from if_neg ok] at HC1
    clear HC
    go_enter Try.func39, Try.ntmps39
    go_upto_region 1 with fail
    rw [← hW]
    clear hW
    obtain ⟨c0, c1, c2, c3, c4, c5, c6⟩ := cb.cells
    clear cb B0
    go_wp2_with (go_at_call 13; refine HC1.mono ?_; rintro e W1 ⟨rfl, d1⟩; clear HC1)
    go_ret
    exact ⟨6, rfl, .state ok, Below.next (unveil HB).2 d1⟩
  case pos =>
  rw [show clFault C = 0 from if_pos ok] at HC1
  have HI := fun w => cwithin_any b 1000000 w
  by_cases hb : 0 ≤ b ∧ b ≤ 1000000
  case neg =>
    rw [decide_eq_false hb] at HI
    clear HC
    go_enter Try.func39, Try.ntmps39
    go_upto_region 1 with fail
    rw [← hW]
    clear hW
    obtain ⟨c0, c1, c2, c3, c4, c5, c6⟩ := cb.cells
    clear cb B0
    go_wp2_with (first
      | (go_at_call 13; refine HC1.mono ?_; rintro e W1 ⟨rfl, d1⟩; clear HC1)
      | (go_at_call 52; refine (HI _).mono ?_; rintro e w2 ⟨rfl, hw2⟩; subst w2; clear HI))
    go_ret
    exact ⟨2, rfl, .range ok hb, Below.next (unveil HB).2 d1⟩
  case pos =>
  rw [decide_eq_true hb] at HI
  have HBB := veil hb
  clear hb
  obtain ⟨x, hx⟩ : ∃ x, C.n = x := ⟨_, rfl⟩
  have hx0 : 0 ≤ x := by rw [← hx]; exact ok.n0
  have hx1 : x ≤ 1073741824 := by rw [← hx]; exact ok.n1
  have HX := veil hx
  have HFN : Hid (∀ W, Below w.heap.size w W → Calls Try.prog 41 #[cVal C.p x a C.es.length c C.wh, .int .i64 (x - 8)] W fun e w' => e = .returned (.int .i64 (findOf (x - 8) C.es)) ∧ Below W.heap.size W w') := veil fun W b => by
    have := find_any C a c (x - 8) W (unveil HC W b) (by have := ok.len; omega)
    rwa [hx] at this
  have HFS : Hid ((findOf (x - 8) C.es = -1 ∧ (¬ x = 1073741824 → ¬ C.full)) ∨ (∃ k : Nat, findOf (x - 8) C.es = k ∧ C.full)) := veil (by
    rcases findOf_spec (x - 8) C.es with ⟨e, hn⟩ | ⟨k, hk, e, hi⟩
    · refine .inl ⟨e, fun hne hf => ?_⟩
      rcases hf with h1 | ⟨v, hv, h1⟩
      · exact hne (by rw [← hx]; exact h1)
      · have h2 := (okW_mem ok.w v hv).2.2.2.1
        rw [hx] at h1 h2
        exact hn v hv (by omega)
    · exact .inr ⟨k, e, .inr ⟨_, List.getElem_mem hk, by rw [hx]; omega⟩⟩)
  have HOK := veil ok
  rw [hx] at hW cb HC1
  clear HC ok hx
  have HB' : Hid (cBlock W w.heap.size C.p x a C.es.length c C.wh ∧ Below w.heap.size w W) := veil ⟨cb, B0⟩
  clear HB
  go_enter Try.func39, Try.ntmps39
  rw [unveil HX]
  go_upto_region 1 with fail
  rw [← hW]
  clear hW
  obtain ⟨c0, c1, c2, c3, c4, c5, c6⟩ := cb.cells
  clear cb B0
  by_cases hm : x = 1073741824
  · have HFL : Hid C.full := veil (.inl (by rw [unveil HX]; exact hm))
    subst hm
    clear HFN HFS
    go_wp2_with (first
      | (go_at_call 13; refine HC1.mono ?_; rintro e W1 ⟨rfl, d1⟩; clear HC1 c0 c1 c2 c3 c4 c5 c6; obtain ⟨c0, c1, c2, c3, c4, c5, c6⟩ := ((unveil HB').1.next d1).cells)
      | (go_at_call 52; refine (HI _).mono ?_; rintro e w2 ⟨rfl, hw2⟩; subst w2; clear HI))
    go_ret
    exact ⟨14, rfl, .full (unveil HOK) (unveil HBB) (unveil HFL), Below.next (unveil HB').2 d1⟩
  · have hm' : (x == (1073741824 : Int)) = false := by simpa using hm
    obtain ⟨y, hy⟩ : ∃ y, findOf (x - 8) C.es = y := ⟨_, rfl⟩
    rw [hy] at HFN HFS
    clear hy
    have HFS' : Hid ((y = -1 ∧ ¬ C.full) ∨ (0 ≤ y ∧ C.full)) := veil (by
      rcases unveil HFS with ⟨h1, h2⟩ | ⟨k, h1, h2⟩
      · exact .inl ⟨h1, h2 hm⟩
      · exact .inr ⟨by omega, h2⟩)
    clear HFS
    have hxw : ∀ z, z = x - 8 → Calls Try.prog 41 #[cVal C.p x a C.es.length c C.wh, .int .i64 z] W fun e w' => e = .returned (.int .i64 y) ∧ Below W.heap.size W w' := fun z hz => by subst hz; exact unveil HFN W (unveil HB').2
    have HXW : Hid (∀ z, z = x - 8 → ∀ W1, Below W.heap.size W W1 → Calls Try.prog 41 #[cVal C.p x a C.es.length c C.wh, .int .i64 z] W1 fun e w' => e = .returned (.int .i64 y) ∧ Below W1.heap.size W1 w') := veil fun z hz W1 d => by subst hz; exact unveil HFN W1 (Below.next (unveil HB').2 d)
    clear HFN hxw
    have hyc : y = -1 ∨ 0 ≤ y := by rcases unveil HFS' with h | h <;> omega
    rcases hyc with rfl | hy0
    · go_wp2_with (first
        | (go_at_call 13; refine HC1.mono ?_; rintro e W1 ⟨rfl, d1⟩; clear HC1 c0 c1 c2 c3 c4 c5 c6; obtain ⟨c0, c1, c2, c3, c4, c5, c6⟩ := ((unveil HB').1.next d1).cells)
        | (go_at_call 52; refine (HI _).mono ?_; rintro e w2 ⟨rfl, hw2⟩; subst w2; clear HI)
        | (go_at_call 41; refine (unveil HXW _ (by first | rfl | omega | (rw [IntKind.wrap_i64]; omega)) W1 d1).mono ?_; rintro e W2 ⟨rfl, d2⟩; clear HXW))
      go_ret
      exact ⟨0, rfl, .sent (unveil HOK) (unveil HBB) (by rcases unveil HFS' with h | h; exact h.2; omega), Below.next (Below.next (unveil HB').2 d1) d2⟩
    · go_wp2_with (first
        | (go_at_call 13; refine HC1.mono ?_; rintro e W1 ⟨rfl, d1⟩; clear HC1 c0 c1 c2 c3 c4 c5 c6; obtain ⟨c0, c1, c2, c3, c4, c5, c6⟩ := ((unveil HB').1.next d1).cells)
        | (go_at_call 52; refine (HI _).mono ?_; rintro e w2 ⟨rfl, hw2⟩; subst w2; clear HI)
        | (go_at_call 41; refine (unveil HXW _ (by first | rfl | omega | (rw [IntKind.wrap_i64]; omega)) W1 d1).mono ?_; rintro e W2 ⟨rfl, d2⟩; clear HXW))
      go_ret
      exact ⟨14, rfl, .full (unveil HOK) (unveil HBB) (by rcases unveil HFS' with h | h; omega; exact h.2), Below.next (Below.next (unveil HB').2 d1) d2⟩
end Go.Proofs.Ytjolamdlclcpcaa
