/- What a client's calls do with a client that may be: contracts for the walks of berthshiftkeep. -/
import Derived.Test.YtjolamdlclcpcaaCqH
import Derived.Test.YtjolamdlclcpcaaKpP
namespace Go.Proofs.Ytjolamdlclcpcaa
open Go.RowKit

theorem Cl.Ok.sent {C : Cl} {b : Int} (ok : C.Ok) (hb : 0 ≤ b ∧ b ≤ 1000000) (hf : ¬ C.full) : Cl.Ok ⟨C.p, C.n + 1, C.es ++ [C.newEv b], C.wh⟩ := by
  have hn : C.n < 1073741824 := by have := ok.n1; rcases Int.lt_or_eq_of_le this with h | h; exact h; exact absurd (.inl h) hf
  have h0 := ok.n0; have h1 := ok.p0; have h2 := ok.p1
  refine ⟨ok.p0, ok.p1, by show 0 ≤ C.n + 1; omega, by show C.n + 1 ≤ _; omega, ?_, ok.k⟩
  show okW C.p (C.n + 1) (C.n + 1 - 8) (C.es ++ [C.newEv b])
  refine okW_snoc (p := C.p) (n := C.n) (v := C.newEv b) ?_ rfl rfl rfl (by omega) ?_
  · show eventFault 1 C.p C.n b 0 0 = 0
    unfold eventFault
    rw [if_pos rfl, if_neg (by omega), if_pos ⟨rfl, rfl⟩]
  · have hw := ok.w
    have hno : ∀ v ∈ C.es, ¬ v.i + 8 ≤ C.n := fun v hv h => hf (.inr ⟨v, hv, h⟩)
    clear hf
    cases hes : C.es with
    | nil => trivial
    | cons v es =>
      rw [hes] at hw hno
      obtain ⟨g0, g1, g2, g3, g4, g5⟩ := hw
      exact ⟨g0, g1, g2, by have := hno v (by simp); omega, g4, g5⟩
theorem Cl.Ok.done {C : Cl} {k : Nat} (ok : C.Ok) : Cl.Ok ⟨C.p, C.n, C.es.eraseIdx k, C.wh⟩ :=
  ⟨ok.p0, ok.p1, ok.n0, ok.n1, okW_sub (List.eraseIdx_sublist _ _) ok.w, ok.k⟩
theorem Cl.Ok.learnt {C : Cl} {k : Nat} {nd : Int} (ok : C.Ok) (hd : -1 ≤ nd ∧ nd ≤ 4) : Cl.Ok ⟨C.p, C.n, C.es, kput C.wh k nd⟩ :=
  ⟨ok.p0, ok.p1, ok.n0, ok.n1, ok.w, fun q hq => by
    show -1 ≤ kput C.wh k nd q ∧ kput C.wh k nd q ≤ 4
    unfold kput
    split
    · exact hd
    · exact ok.k q hq⟩
/-- a client as it is answered: a value, and what waits. -/
def CV (W : World) (C : Cl) (x : Value) : Prop := ∃ a c, x = cVal C.p C.n a C.es.length c C.wh ∧ CIn W C a c
section
variable (C : Cl) (a : Option Addr) (c : Nat) (w : World) (h : CIn w C a c) (ok : C.Ok)
include h ok
theorem send_yes (b : Int) (hb : 0 ≤ b ∧ b ≤ 1000000) (hf : ¬ C.full) : Calls Try.prog 19 #[cVal C.p C.n a C.es.length c C.wh, .int .i64 b] w fun e w' => ∃ a' c', e = .returned (.tuple #[cVal C.p (C.n + 1) a' (C.es.length + 1) c' C.wh, evIn (C.newEv b), .int .i64 0]) ∧ CIn w' ⟨C.p, C.n + 1, C.es ++ [C.newEv b], C.wh⟩ a' c' ∧ (∀ x, a' = some x → w.heap.size ≤ x.block) ∧ Below w.heap.size w w' := by
  refine (send_any C a c b w h).mono ?_
  rintro e w' ⟨x, rfl, ⟨D, y, v, e, rfl, r, ⟨a', c', rfl, i, u⟩⟩, bel⟩
  cases r with
  | state h => exact absurd ok h
  | range _ h => exact absurd hb h
  | full _ _ h => exact absurd h hf
  | sent => exact ⟨a', c', by simp, i, u, bel⟩
theorem send_full (b : Int) (hb : 0 ≤ b ∧ b ≤ 1000000) (hf : C.full) : Calls Try.prog 19 #[cVal C.p C.n a C.es.length c C.wh, .int .i64 b] w fun e w' => ∃ a' c', e = .returned (.tuple #[cVal 0 0 a' 0 c' (fun _ => 0), evIn Ev.nil, .int .i64 14]) ∧ Below w.heap.size w w' := by
  refine (send_any C a c b w h).mono ?_
  rintro e w' ⟨x, rfl, ⟨D, y, v, e, rfl, r, ⟨a', c', rfl, i, _⟩⟩, bel⟩
  cases r with
  | state h => exact absurd ok h
  | range _ h => exact absurd hb h
  | full => exact ⟨a', c', rfl, bel⟩
  | sent _ _ h => exact absurd hf h
theorem done_yes (id : Int) (k : Nat) (hk : k < C.es.length) (hi : C.es[k].i = id) : Calls Try.prog 21 #[cVal C.p C.n a C.es.length c C.wh, .int .i64 id] w fun e w' => ∃ a' c', e = .returned (.tuple #[cVal C.p C.n a' (C.es.length - 1) c' C.wh, .int .i64 0]) ∧ CIn w' ⟨C.p, C.n, C.es.eraseIdx k, C.wh⟩ a' c' ∧ (∀ x, a' = some x → w.heap.size ≤ x.block) ∧ Below w.heap.size w w' := by
  refine (done_any C a c id w h).mono ?_
  rintro e w' ⟨x, rfl, ⟨D, y, e, rfl, r, ⟨a', c', rfl, i, u⟩⟩, bel⟩
  cases r with
  | state h => exact absurd ok h
  | none _ h => exact absurd hi (h _ (List.getElem_mem hk))
  | done _ k' hk' hi' =>
    obtain rfl := rise_at (okW_rise ok.w) hk hk' (hi.trans hi'.symm)
    exact ⟨a', c', by rw [List.length_eraseIdx_of_lt hk], i, u, bel⟩
theorem done_none (id : Int) (hn : ∀ v ∈ C.es, ¬ v.i = id) : Calls Try.prog 21 #[cVal C.p C.n a C.es.length c C.wh, .int .i64 id] w fun e w' => ∃ a' c', e = .returned (.tuple #[cVal 0 0 a' 0 c' (fun _ => 0), .int .i64 7]) ∧ Below w.heap.size w w' := by
  refine (done_any C a c id w h).mono ?_
  rintro e w' ⟨x, rfl, ⟨D, y, e, rfl, r, ⟨a', c', rfl, i, _⟩⟩, bel⟩
  cases r with
  | state h => exact absurd ok h
  | none => exact ⟨a', c', rfl, bel⟩
  | done _ k' hk' hi' => exact absurd hi' (hn _ (List.getElem_mem hk'))
theorem learn_yes (k : Nat) (hk : k < 4) (nd : Int) (hd : -1 ≤ nd ∧ nd ≤ 4) : Calls Try.prog 23 #[cVal C.p C.n a C.es.length c C.wh, .int .i64 k, .int .i64 nd] w fun e w' => ∃ a' c', e = .returned (.tuple #[cVal C.p C.n a' C.es.length c' (kput C.wh k nd), .int .i64 0]) ∧ CIn w' ⟨C.p, C.n, C.es, kput C.wh k nd⟩ a' c' ∧ Below w.heap.size w w' := by
  refine (learn_any C a c k nd w h h.row.wf).mono ?_
  rintro e w' ⟨x, rfl, ⟨D, y, e, rfl, r, ⟨a', c', rfl, i, _⟩⟩, bel⟩
  cases r with
  | state h => exact absurd ok h
  | range _ h => exact absurd ⟨by omega, hd⟩ h
  | learnt _ k' hk' hq hd' =>
    obtain rfl : k = k' := by omega
    exact ⟨a', c', rfl, i, bel⟩
theorem ask_yes (k : Nat) (hk : k < 4) : Calls Try.prog 25 #[cVal C.p C.n a C.es.length c C.wh, .int .i64 k] w fun e w' => ∃ x f, e = .returned (.tuple #[.int .i64 x, .int .i64 f]) ∧ Hid ((C.wh k = -1 ∧ f = 7) ∨ (0 ≤ C.wh k ∧ x = C.wh k ∧ f = 0)) ∧ Below w.heap.size w w' := by
  refine (ask_any C a c k w h).mono ?_
  rintro e w' ⟨x, rfl, ⟨n, e, rfl, r⟩, bel⟩
  cases r with
  | state h => exact absurd ok h
  | range _ h => exact absurd (by omega) h
  | none _ k' hk' hq hn =>
    obtain rfl : k = k' := by omega
    exact ⟨_, _, rfl, veil (.inl ⟨hn, rfl⟩), bel⟩
  | here _ k' hk' hq hn =>
    obtain rfl : k = k' := by omega
    exact ⟨_, _, rfl, veil (.inr ⟨by have := (ok.k k hk).1; omega, rfl, rfl⟩), bel⟩
end
theorem new_yes (p : Int) (hp : 0 ≤ p ∧ p ≤ 3) (w : World) : Calls Try.prog 16 #[.int .i64 p] w fun e w' => e = .returned (.tuple #[cVal p 0 none 0 0 (fun _ => -1), .int .i64 0]) ∧ Below w.heap.size w w' := by
  refine (new_any p w).mono ?_
  rintro e w' ⟨x, rfl, ⟨D, e, rfl, r, _⟩, bel⟩
  cases r with
  | range h => exact absurd hp h
  | new => exact ⟨rfl, bel⟩
theorem Cl.new_ok {p : Int} (hp : 0 ≤ p ∧ p ≤ 3) : Cl.Ok ⟨p, 0, [], fun _ => -1⟩ := ⟨hp.1, hp.2, by show (0 : Int) ≤ 0; omega, by show (0 : Int) ≤ _; omega, trivial, fun _ _ => by show (-1 : Int) ≤ -1 ∧ (-1 : Int) ≤ 4; omega⟩
theorem CIn.nil' (w : World) (p n : Int) (wh : Nat → Int) : CIn w ⟨p, n, [], wh⟩ none 0 := ⟨RowK.nil _ _ _, Nat.le_refl _, fun _ => rfl, by simp⟩
/-- what Send answered, in two boxes. -/
structure Sd (W wx : World) (A B : Nat) (D : Cl) (v : Ev) (a : Option Addr) (c : Nat) : Prop where
  cb : cBlock wx A D.p D.n a D.es.length c D.wh
  eb : eBlock wx B v
  i : CIn wx D a c
  bel : Below W.heap.size W wx
  upA : W.heap.size ≤ A
  upB : W.heap.size ≤ B
  ne : A ≠ B
  fr : ∀ x, a = some x → W.heap.size ≤ x.block
theorem Sd.next {W wx wy : World} {A B : Nat} {D : Cl} {v : Ev} {a : Option Addr} {c : Nat} (h : Sd W wx A B D v a c) (b : Below wx.heap.size wx wy) : Sd W wy A B D v a c :=
  ⟨h.cb.next b, h.eb.next b, h.i.next b, Below.next h.bel b, h.upA, h.upB, h.ne, h.fr⟩
theorem CIn.turn {w w' : World} {C : Cl} {a : Option Addr} {c R : Nat} (h : CIn w C a c) (t : Turned R w w') (hR : ∀ x, a = some x → 0 < C.es.length → x.block ≠ R) : CIn w' C a c := ⟨t.row h.row (fun x hx h0 => hR x hx (by omega)), h.cap, h.nil, h.big⟩
theorem CIn.lt {w : World} {C : Cl} {a : Option Addr} {c : Nat} (h : CIn w C a c) : ∀ x, a = some x → 0 < C.es.length → x.block < w.heap.size := fun x hx h0 => by
  obtain ⟨b, off, rfl⟩ := h.row.form (by omega)
  cases hx
  exact h.row.lt (by omega)
theorem za_made (w : World) : ∃ W, W = w.alloc (.cells #[.int .i64 0, .int .i64 0, .slice none 0 0, .int .i64 0, .int .i64 0, .int .i64 0, .int .i64 0] 25) ∧ cBlock W w.heap.size 0 0 none 0 0 (fun _ => 0) ∧ Below w.heap.size w W := ⟨_, rfl, heap_alloc_new w _, below1 _ _⟩
theorem ze_made (w : World) : ∃ W, W = w.alloc (.cells #[.int .i64 0, .int .i64 0, .int .i64 0, .int .i64 0, .int .i64 0, .int .i64 0] 37) ∧ eBlock W w.heap.size Ev.nil ∧ Below w.heap.size w W := ⟨_, rfl, heap_alloc_new w _, below1 _ _⟩
theorem drew_below (w : World) : Below w.heap.size w w.drew := ⟨rfl, rfl, rfl, Nat.le_refl _, fun _ _ => rfl⟩
end Go.Proofs.Ytjolamdlclcpcaa
