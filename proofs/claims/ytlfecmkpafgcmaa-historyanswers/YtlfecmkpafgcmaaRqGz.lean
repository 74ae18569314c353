/- The document's answer's QueueDone: Break. -/
import Derived.Test.YtlfecmkpafgcmaaRqAll
import Derived.Test.YtlfecmkpafgcmaaQAll
import Derived.Deep.DeepCutAuto
namespace Go.Proofs.Ytlfecmkpafgcmaa
open Go.RowKit

section
variable {w wx wy : World} {E Z A X : Nat} {s t : St} {rv lv v1 v2 v3 r l : Value} {ws wv : Nat → Value} {v : Ev} {ep nx gv : Int}
theorem qBlock.put0 (h : qBlock wx X ep nx gv r l ws) (y : Int) : qBlock (wx.setCell ⟨X, 0, none⟩ (.int .i64 y)) X y nx gv r l ws := by
  have := heap_set (o := 0) (v := .int .i64 y) h
  unfold qBlock
  rw [this]
  rfl
theorem qBlock.put1 (h : qBlock wx X ep nx gv r l ws) (y : Int) : qBlock (wx.setCell ⟨X, 1, none⟩ (.int .i64 y)) X ep y gv r l ws := by
  have := heap_set (o := 1) (v := .int .i64 y) h
  unfold qBlock
  rw [this]
  rfl
theorem qBlock.put2 (h : qBlock wx X ep nx gv r l ws) (y : Int) : qBlock (wx.setCell ⟨X, 2, none⟩ (.int .i64 y)) X ep nx y r l ws := by
  have := heap_set (o := 2) (v := .int .i64 y) h
  unfold qBlock
  rw [this]
  rfl
/-- the copy's ready messages stored anew. -/
theorem Qd.newReady (h : Qd w wx E Z A X s rv lv ws v t v1 v2 wv) (n : Nat) (M : List Int) (own : wx.ownsRow (A + 1) 84 2 v3 n (M.map (Value.int .i64))) : Qd w (wx.setCell ⟨X, 3, none⟩ v3) E Z A X s rv lv ws v ⟨t.ep, t.nx, t.gv, n, M, t.ln, t.L, t.wt, t.wz⟩ v3 v2 wv := by
  have T := Turned.set X 3 wx v3
  exact ⟨h.d.turned T h.upX, h.q.ready _, T.owns own (own_off own h.q (by decide)), T.owns h.o2 (own_off h.o2 h.q (by decide)), h.upX⟩
/-- the copy behind a break. -/
theorem Qd.broken (h : Qd w wx E Z A X s rv lv ws v t v1 v2 wv) (y : Int) : Qd w (((wx.setCell ⟨X, 4, none⟩ (.slice none 0 0)).setCell ⟨X, 0, none⟩ (.int .i64 y)).setCell ⟨X, 2, none⟩ (.int .i64 0)) E Z A X s rv lv ws v ⟨y, t.nx, 0, t.rn, t.R, 0, [], t.wt, t.wz⟩ v1 (.slice none 0 0) wv := by
  have C1 := h.noLeases
  have C2 := C1.turn (wt := t.wt) (wz := t.wz) (Turned.set X 0 _ (.int .i64 y)) (C1.q.put0 y)
  exact C2.turn (wt := t.wt) (wz := t.wz) (Turned.set X 2 _ (.int .i64 0)) (C2.q.put2 0)
end
theorem ready_rises {s : St} (h : s.Ok) : Rises s.R s.rn := by
  have far : ∀ j i, i < j → j < s.rn → s.R.getD (2 * i) 0 < s.R.getD (2 * j) 0 := by
    intro j
    induction j with
    | zero => intro i h1; omega
    | succ j ih =>
      intro i h1 h2
      have hs := (h.hold.ready (j + 1) h2).rise
      have hs : s.R.getD (2 * j) 0 < s.R.getD (2 * (j + 1)) 0 := hs
      rcases Nat.lt_or_ge i j with h3 | h3
      · have := ih i h3 (by omega); omega
      · obtain rfl : i = j := by omega
        exact hs
  intro i j h1 h2
  have := far j i h1 h2
  omega
set_option maxRecDepth 20000 in
set_option maxHeartbeats 4000000 in
theorem queueDone_endFull (s : St) (ra la : Option Addr) (rc lc : Nat) (ws : Nat → Value) (v : Ev) (w : World) (hR : RowK .i64 w ra (2 * s.rn) s.R) (hL : RowK .i64 w la (4 * s.ln) s.L) (hW : Wins ws s.wt s.wz) (h : s.Ok) (hv : Hid v.Ok) (HK : Hid (v.k = 4)) (HE : Hid (s.ep = 1048576)) :
    Calls Try.prog 36 #[qVal s.ep s.nx s.gv (.slice ra s.rn rc) (.slice la s.ln lc) ws, evIn v] w fun e w' => QdR s v w e w' := by
  have HC : ∀ w, Calls Try.prog 52 #[evIn v] w fun e w' => e = .returned (.int .i64 0) ∧ Below w.heap.size w w' := fun w => by
    have := fault_any v.k v.p v.i v.b v.he v.hn w
    rwa [show eventFault v.k v.p v.i v.b v.he v.hn = 0 from unveil hv] at this
  have hsz := h.count.sz
  have hs : s.rn + s.ln ≤ 9223372036854775807 := by omega
  go_enter Try.func36, Try.ntmps36
  go_wp2_with (first
    | (refine q_box 2 _ rfl rfl rfl rfl ?_; intro W1 q1 b1)
    | (refine q_alloc 4 rfl rfl rfl ?_; intro W3 z3 b3; have DD := Dos.made q1 b1 z3 b3; have DQ := DD.q; have HDD := veil DD; clear DD z3 b3 q1 b1)
    | (refine q_loads _ rfl rfl rfl (by assumption) ?_)
    | (go_at_call 51; refine (queueFault_yes _ _ _ _ _ _ _ _ _ _ _ _ s.wt s.wz _ (hR.below (unveil HDD).bel) (hL.below (unveil HDD).bel) hW hs h).mono ?_; rintro e W4 ⟨rfl, b4⟩; have D4 := (unveil HDD).next b4; have ev4 := D4.e; have v0 : W4.cell? ⟨W1.heap.size, 0, none⟩ = some (.int .i64 v.k) := (by simp [World.cell?, ev4]); have v1 : W4.cell? ⟨W1.heap.size, 1, none⟩ = some (.int .i64 v.p) := (by simp [World.cell?, ev4]); have v2 : W4.cell? ⟨W1.heap.size, 2, none⟩ = some (.int .i64 v.i) := (by simp [World.cell?, ev4]); have v3 : W4.cell? ⟨W1.heap.size, 3, none⟩ = some (.int .i64 v.b) := (by simp [World.cell?, ev4]); have v4 : W4.cell? ⟨W1.heap.size, 4, none⟩ = some (.int .i64 v.he) := (by simp [World.cell?, ev4]); have v5 : W4.cell? ⟨W1.heap.size, 5, none⟩ = some (.int .i64 v.hn) := (by simp [World.cell?, ev4]); have HD4 := veil D4; clear D4 HDD DQ b4 ev4)
    | (go_at_call 52; refine (HC _).mono ?_; rintro e W5 ⟨rfl, b5⟩; have D5 := (unveil HD4).next b5; have DQ5 := D5.q; have HD5 := veil D5; clear D5 HD4 b5 v0 v1 v2 v3 v4 v5)
    | (go_at_call 53; refine (queueCopy_any _ _ _ _ _ _ _ _ _ s.R s.L ws s.wt s.wz _ (hR.below (unveil HD5).bel) (hL.below (unveil HD5).bel) hW (by omega) (by omega)).mono ?_; rintro e W6 ⟨v1, v2, rfl, o1, o2, b6⟩; obtain ⟨a1, c1, rfl⟩ := own_form o1; obtain ⟨a2, c2, rfl⟩ := own_form o2; have hA5 := (unveil HD5).a.lt; have HO1 := veil (own_lower o1 hA5); have HO2 := veil (own_lower o2 hA5); have HD6 := veil ((unveil HD5).next b6); clear DQ5 o1 o2 b6)
    | (refine q_alloc 9 rfl rfl rfl ?_; intro W7 z7 b7; have HB7 := veil b7; clear b7)
    | (refine q_store _ _ rfl rfl rfl rfl z7 hW ?_; intro W8 q8 t8; have HQ8 := veil (Qd.made (unveil HD6) (unveil HO1) (unveil HO2) (unveil HB7) q8 t8); clear t8 HD6 HO1 HO2 HB7 z7 hA5 HD5; obtain ⟨c0, c1', c2', c3, c4⟩ := (unveil HQ8).d.q.heads; have z8 := (unveil HQ8).d.z; have hups := (unveil HQ8).ups; have u0 : W8.cell? ⟨W1.heap.size, 0, none⟩ = some (.int .i64 (4 : Int)) := (by simp [World.cell?, (unveil HQ8).d.e, unveil HK]); have u1 : W8.cell? ⟨W1.heap.size, 1, none⟩ = some (.int .i64 v.p) := (by simp [World.cell?, (unveil HQ8).d.e]); have u2 : W8.cell? ⟨W1.heap.size, 2, none⟩ = some (.int .i64 v.i) := (by simp [World.cell?, (unveil HQ8).d.e]); have u3 : W8.cell? ⟨W1.heap.size, 3, none⟩ = some (.int .i64 v.b) := (by simp [World.cell?, (unveil HQ8).d.e]); have u4 : W8.cell? ⟨W1.heap.size, 4, none⟩ = some (.int .i64 v.he) := (by simp [World.cell?, (unveil HQ8).d.e]); have u5 : W8.cell? ⟨W1.heap.size, 5, none⟩ = some (.int .i64 v.hn) := (by simp [World.cell?, (unveil HQ8).d.e]); rw [unveil HE] at c0)
    | (refine q_store _ _ rfl rfl rfl rfl (by assumption) hW ?_; intro W9 q9 t9; have a9 := (unveil HQ8).d.a.turned t9 (by have := (unveil HQ8).ups; omega); obtain ⟨x0, x1, x2, x3⟩ := a9.cells; have xf := a9.free; have HQ9 := veil q9; have HT9 := veil t9; clear q9 t9 a9))
  obtain ⟨fa, fT, fq, fb⟩ := (unveil HQ8).out (unveil HT9) hW hR.wf hL.wf 14 0 0 0
  exact bodyPost_ret (ret_QueueDone (fT.queue (unveil HQ9) (by have := (unveil HQ8).ups; omega)) fa rfl rfl rfl rfl) rfl (QdR.of (s' := s) (.endFull (unveil HK) (unveil HE)) fq fb)

set_option maxRecDepth 20000 in
set_option maxHeartbeats 4000000 in
theorem queueDone_stop (s : St) (ra la : Option Addr) (rc lc : Nat) (ws : Nat → Value) (v : Ev) (w : World) (hR : RowK .i64 w ra (2 * s.rn) s.R) (hL : RowK .i64 w la (4 * s.ln) s.L) (hW : Wins ws s.wt s.wz) (h : s.Ok) (hv : Hid v.Ok) (HK : Hid (v.k = 4)) (hep : s.ep < 1048576) :
    Calls Try.prog 36 #[qVal s.ep s.nx s.gv (.slice ra s.rn rc) (.slice la s.ln lc) ws, evIn v] w fun e w' => QdR s v w e w' := by
  have heb : (s.ep == 1048576) = false := by simp; omega
  have he0 := h.count.e0
  have he1 := h.count.e1
  have HEP := veil hep
  clear hep
  have HC : ∀ w, Calls Try.prog 52 #[evIn v] w fun e w' => e = .returned (.int .i64 0) ∧ Below w.heap.size w w' := fun w => by
    have := fault_any v.k v.p v.i v.b v.he v.hn w
    rwa [show eventFault v.k v.p v.i v.b v.he v.hn = 0 from unveil hv] at this
  have hsz := h.count.sz
  have hs : s.rn + s.ln ≤ 9223372036854775807 := by omega
  go_enter Try.func36, Try.ntmps36
  go_wp2_with (first
    | (refine q_box 2 _ rfl rfl rfl rfl ?_; intro W1 q1 b1)
    | (refine q_alloc 4 rfl rfl rfl ?_; intro W3 z3 b3; have DD := Dos.made q1 b1 z3 b3; have DQ := DD.q; have HDD := veil DD; clear DD z3 b3 q1 b1)
    | (refine q_loads _ rfl rfl rfl (by assumption) ?_)
    | (go_at_call 51; refine (queueFault_yes _ _ _ _ _ _ _ _ _ _ _ _ s.wt s.wz _ (hR.below (unveil HDD).bel) (hL.below (unveil HDD).bel) hW hs h).mono ?_; rintro e W4 ⟨rfl, b4⟩; have D4 := (unveil HDD).next b4; have ev4 := D4.e; have v0 : W4.cell? ⟨W1.heap.size, 0, none⟩ = some (.int .i64 v.k) := (by simp [World.cell?, ev4]); have v1 : W4.cell? ⟨W1.heap.size, 1, none⟩ = some (.int .i64 v.p) := (by simp [World.cell?, ev4]); have v2 : W4.cell? ⟨W1.heap.size, 2, none⟩ = some (.int .i64 v.i) := (by simp [World.cell?, ev4]); have v3 : W4.cell? ⟨W1.heap.size, 3, none⟩ = some (.int .i64 v.b) := (by simp [World.cell?, ev4]); have v4 : W4.cell? ⟨W1.heap.size, 4, none⟩ = some (.int .i64 v.he) := (by simp [World.cell?, ev4]); have v5 : W4.cell? ⟨W1.heap.size, 5, none⟩ = some (.int .i64 v.hn) := (by simp [World.cell?, ev4]); have HD4 := veil D4; clear D4 HDD DQ b4 ev4)
    | (go_at_call 52; refine (HC _).mono ?_; rintro e W5 ⟨rfl, b5⟩; have D5 := (unveil HD4).next b5; have DQ5 := D5.q; have HD5 := veil D5; clear D5 HD4 b5 v0 v1 v2 v3 v4 v5)
    | (go_at_call 53; refine (queueCopy_any _ _ _ _ _ _ _ _ _ s.R s.L ws s.wt s.wz _ (hR.below (unveil HD5).bel) (hL.below (unveil HD5).bel) hW (by omega) (by omega)).mono ?_; rintro e W6 ⟨v1, v2, rfl, o1, o2, b6⟩; obtain ⟨a1, c1, rfl⟩ := own_form o1; obtain ⟨a2, c2, rfl⟩ := own_form o2; have hA5 := (unveil HD5).a.lt; have HO1 := veil (own_lower o1 hA5); have HO2 := veil (own_lower o2 hA5); have HD6 := veil ((unveil HD5).next b6); clear DQ5 o1 o2 b6)
    | (refine q_alloc 9 rfl rfl rfl ?_; intro W7 z7 b7; have HB7 := veil b7; clear b7)
    | (refine q_store _ _ rfl rfl rfl rfl z7 hW ?_; intro W8 q8 t8; have HQ8 := veil (Qd.made (unveil HD6) (unveil HO1) (unveil HO2) (unveil HB7) q8 t8); clear t8 HD6 HO1 HO2 HB7 z7 hA5 HD5; obtain ⟨c0, c1', c2', c3, c4⟩ := (unveil HQ8).d.q.heads; have z8 := (unveil HQ8).d.z; have hups := (unveil HQ8).ups; have u0 : W8.cell? ⟨W1.heap.size, 0, none⟩ = some (.int .i64 (4 : Int)) := (by simp [World.cell?, (unveil HQ8).d.e, unveil HK]); have u1 : W8.cell? ⟨W1.heap.size, 1, none⟩ = some (.int .i64 v.p) := (by simp [World.cell?, (unveil HQ8).d.e]); have u2 : W8.cell? ⟨W1.heap.size, 2, none⟩ = some (.int .i64 v.i) := (by simp [World.cell?, (unveil HQ8).d.e]); have u3 : W8.cell? ⟨W1.heap.size, 3, none⟩ = some (.int .i64 v.b) := (by simp [World.cell?, (unveil HQ8).d.e]); have u4 : W8.cell? ⟨W1.heap.size, 4, none⟩ = some (.int .i64 v.he) := (by simp [World.cell?, (unveil HQ8).d.e]); have u5 : W8.cell? ⟨W1.heap.size, 5, none⟩ = some (.int .i64 v.hn) := (by simp [World.cell?, (unveil HQ8).d.e]); obtain ⟨d0, d1, d2, d3, d4⟩ := q8.heads; have df := q8.free))
  have C0 := unveil HQ8
  clear HQ8 c0 c1' c2' c3 c4 z8 hups u0 u1 u2 u3 u4 u5 d0 d1 d2 d3 d4 df q8
  go_loopw [17] (fun t wr => ∃ (k : Nat) (M : List Int) (v1 : Value), k ≤ s.ln ∧ t = .int .i64 k ∧ Qd w wr W1.heap.size (W1.heap.size + 1) W3.heap.size W6.heap.size s (.slice ra s.rn rc) (.slice la s.ln lc) ws v ⟨s.ep, s.nx, s.gv, s.rn + k, M, s.ln, s.L, s.wt, s.wz⟩ v1 (.slice a2 s.ln c2) ws ∧ Hid (Ordered (s.R ++ msgsTo s.L k) M (s.rn + k))) (fun t _ => s.ln - (intOf t).toNat)
  case atStart => exact ⟨0, s.R, _, Nat.zero_le _, rfl, C0, veil (by rw [msgsTo, List.append_nil]; exact ⟨hR.len_eq, List.Perm.refl _, ready_rises h⟩)⟩
  case round =>
    obtain ⟨k, M, v1, hk, rfl, C, HI⟩ := hrel
    clear C0
    obtain ⟨a1', c1', rfl⟩ := own_form C.o1
    obtain ⟨e0, e1, e2, e3, e4⟩ := C.d.q.heads
    obtain ⟨d0, d1, d2, d3, d4⟩ := C.q.heads
    have HC := veil C
    have wM : ∀ u ∈ M, (Lit.int .i64 u).wf = true := (unveil HI).wf (fun u hu => by
      rcases List.mem_append.1 hu with hu | hu
      · exact hR.wf u hu
      · exact msgsTo_wf hL.wf _ u hu)
    by_cases hlt : k < s.ln
    case pos =>
      obtain ⟨b, off, rfl⟩ := hL.form (by omega)
      obtain ⟨x2, hx2⟩ : ∃ x, x = s.L.getD (4 * k + 2) 0 := ⟨_, rfl⟩
      obtain ⟨x3, hx3⟩ : ∃ x, x = s.L.getD (4 * k + 3) 0 := ⟨_, rfl⟩
      have r3 := hL.below C.d.bel
      have hbl : b < wr.heap.size := r3.lt (by omega)
      have k2 : wr.cell? ⟨b, off + k * 4 + 2, none⟩ = some (.int .i64 x2) := by rw [Nat.mul_comm k 4, hx2]; exact r3.at (4 * k + 2) (by omega)
      have k3 : wr.cell? ⟨b, off + k * 4 + 3, none⟩ = some (.int .i64 x3) := by rw [Nat.mul_comm k 4, hx3]; exact r3.at (4 * k + 3) (by omega)
      have HI4 : Hid (Ordered (s.R ++ msgsTo s.L (k + 1)) (mFin M x2 x3 (s.rn + k)) (s.rn + k + 1)) := veil (by
        rw [msgsTo, ← List.append_assoc, ← hx2, ← hx3]
        exact mFin_ordered (unveil HI) (by have := (unveil HI).perm.length_eq; have := hR.len_eq; rw [List.length_append, msgsTo_len]; omega) x2 x3)
      have HRow : Hid (∀ w3, Below wr.heap.size wr w3 → RowK .i64 w3 a1' (2 * (s.rn + k)) M) := veil fun w3 hb => by
        obtain ⟨_, _, e, r, _⟩ := RowK.ofMany (C.next hb).o1 wM
        cases e
        exact r
      have HL := veil hL
      clear C hx2 hx3 hL r3 wM
      go_wp2_with fail
      first | go_region_with (first | (go_at_call 55; refine (messageIn_any _ _ _ M _ _ _ (unveil HRow _ (by first | with_reducible exact below_drew _ | exact below_drew _)) (by omega)).mono ?_; rintro e w4 ⟨v', rfl, own4, b4⟩; obtain ⟨a', cap', rfl⟩ := own_form own4; have C4 := (unveil HC).next (by first | with_reducible exact Below.next (below_drew _) b4 | exact Below.next (below_drew _) b4); have o4 := own_lower own4 (by have := (unveil HC).ltA; first | exact this | (simp; omega)); have f3 := C4.q.free; have k4 := C4.q.heads.2.2.2.1; have HC4 := veil (C4.newReady _ _ o4); clear C4 own4 o4 b4)) | fail
      all_goals (try clear e0 e1 e2 e3 e4 d0 d1 d2 d3 d4 k2 k3 HRow)
      all_goals go_wp2
      all_goals (go_roundw <;> first | exact ⟨k + 1, _, _, by omega, by go_num, (by first | exact unveil HC4 | exact (unveil HC4).next (below_drew _)), HI4⟩ | (simp [intOf]; omega))
    case neg =>
      obtain rfl : k = s.ln := by omega
      have df := C.q.free
      have C9 := C.broken (s.ep + 1)
      have q9' := C9.q
      have z9 := C9.d.z
      have HC9 := veil C9
      have hups := C.ups
      have hn1 : w.heap.size ≠ W6.heap.size := by omega
      have hn2 : W6.heap.size ≠ w.heap.size := by omega
      clear C C9
      go_wp2_with (first | (refine q_loads _ rfl rfl rfl q9' ?_) | (refine q_store _ _ rfl rfl rfl rfl z9 hW ?_; intro W9 q9 t9; have a9 := (unveil HC9).d.a.turned t9 (by have := (unveil HC9).ups; omega); obtain ⟨x0, x1, x2, x3⟩ := a9.cells; have xf := a9.free; have HQ9 := veil q9; have HT9 := veil t9; clear q9 t9 a9))
      obtain ⟨fa, fT, fq, fb⟩ := (unveil HC9).out (unveil HT9) hW wM (fun u hu => by cases hu) 0 0 0 0
      exact bodyPost_ret (ret_QueueDone (fT.queue (unveil HQ9) (by have := (unveil HC9).ups; omega)) fa rfl rfl rfl rfl) rfl (QdR.of (s' := _) (.stop (unveil HK) (unveil HEP) M (unveil HI)) fq fb)
end Go.Proofs.Ytlfecmkpafgcmaa
