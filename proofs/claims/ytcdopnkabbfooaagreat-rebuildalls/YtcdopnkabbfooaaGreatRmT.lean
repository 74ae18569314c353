/- Texts put together: RlY, RlZ, RmO, RmA. -/
import Derived.Test.YtcdopnkabbfooaaGreatRkX
import Derived.Test.YtcdopnkabbfooaaGreatPkG
import Derived.Test.YtcdopnkabbfooaaGreatRaLow
import Derived.Deep.Slices
namespace Go.Proofs.YtcdopnkabbfooaaGreat
open Go.RowKit

theorem pt_set {c d : Array Value} {k : Nat} (v : Value) (hk : k < 24) (h : 24 ≤ c.size ∧ 24 ≤ d.size ∧ ∀ i, i < 24 → c[i]? = d[i]?) : 24 ≤ (c.set! k v).size ∧ 24 ≤ (d.set! k v).size ∧ ∀ i, i < 24 → (c.set! k v)[i]? = (d.set! k v)[i]? := by
  obtain ⟨hc, hd, h⟩ := h
  refine ⟨by simpa using hc, by simpa using hd, fun i hi => ?_⟩
  simp only [Array.set!_eq_setIfInBounds, Array.getElem?_setIfInBounds]
  split
  · rw [if_pos (by omega), if_pos (by omega)]
  · exact h i hi
theorem pt_far {c : Array Value} {k i : Nat} (v : Value) (hk : k < 24) (hi : 24 ≤ i) : (c.set! k v)[i]? = c[i]? := by
  simp only [Array.set!_eq_setIfInBounds, Array.getElem?_setIfInBounds]
  rw [if_neg (by omega)]
/-- four berths at the head of the block O. -/
structure Ob (W : World) (O : Nat) (f : Nat → Bt) (A : Nat → Option Addr) (K : Nat → Nat) : Prop where
  blk : ∃ cur e, W.heap[O]? = some (.cells cur e (0, 0)) ∧ 24 ≤ cur.size ∧ ∀ i, i < 24 → cur[i]? = (btCells f A K)[i]?
  bin : ∀ q, q < 4 → BIn W (f q) (A q) (K q)
section
variable {W W' : World} {O : Nat} {f : Nat → Bt} {A : Nat → Option Addr} {K : Nat → Nat}
theorem Ob.lt (h : Ob W O f A K) : O < W.heap.size := by
  obtain ⟨cur, e, hb, _⟩ := h.blk
  exact block_lt hb
theorem Ob.next (h : Ob W O f A K) (b : Below W.heap.size W W') : Ob W' O f A K := by
  obtain ⟨cur, e, hb, hs, hp⟩ := h.blk
  exact ⟨⟨cur, e, (b.block _ (block_lt hb)).trans hb, hs, hp⟩, fun q hq => (h.bin q hq).next b⟩
theorem Ob.free (h : Ob W O f A K) (o : Nat) : W.frozen? ⟨O, o, none⟩ = false := by
  obtain ⟨cur, e, hb, _⟩ := h.blk
  simp [World.frozen?, hb]
theorem Ob.six (h : Ob W O f A K) : ∀ q, q < 4 → W.cell? ⟨O, q * 6, none⟩ = some (.int .i64 (f q).r) ∧ W.cell? ⟨O, q * 6 + 1, none⟩ = some (.int .i64 (f q).e) ∧ W.cell? ⟨O, q * 6 + 2, none⟩ = some (.int .i64 (f q).f) ∧ W.cell? ⟨O, q * 6 + 3, none⟩ = some (.int .i64 (f q).t) ∧ W.cell? ⟨O, q * 6 + 4, none⟩ = some (.int .i64 (f q).o) ∧ W.cell? ⟨O, q * 6 + 5, none⟩ = some (.slice (A q) (f q).es.length (K q)) := by
  obtain ⟨cur, e, hb, _, hp⟩ := h.blk
  have c : ∀ i, i < 24 → W.cell? ⟨O, i, none⟩ = (btCells f A K)[i]? := fun i hi => by
    have : W.cell? ⟨O, i, none⟩ = cur[i]? := by simp [World.cell?, hb]
    rw [this]; exact hp i hi
  refine below4b ?_ ?_ ?_ ?_ <;> exact ⟨(c _ (by omega)).trans rfl, (c _ (by omega)).trans rfl, (c _ (by omega)).trans rfl, (c _ (by omega)).trans rfl, (c _ (by omega)).trans rfl, (c _ (by omega)).trans rfl⟩
theorem Ob.bts (h : Ob W O f A K) : Bts W O f A K := ⟨h.lt, h.six, h.bin⟩
/-- a row of events lies not where the berths lie. -/
theorem Ob.off (h : Ob W O f A K) {n : Nat} {l : List Int} {b off : Nat} (hr : RowK .i64 W (some ⟨b, off, none⟩) (6 * n) l) (hn : 0 < n) (hb : b = O) : 24 ≤ off := by
  by_cases g : 24 ≤ off
  · exact g
  · exfalso
    obtain ⟨b2, off2, e2, _, hc⟩ := hr.cell (5 - off % 6) (by omega)
    cases e2
    subst hb
    have hs := (h.six (off / 6) (by omega)).2.2.2.2.2
    have e : off + (5 - off % 6) = off / 6 * 6 + 5 := by omega
    rw [e, hs] at hc
    cases hc
theorem Ob.put (h : Ob W O f A K) (q : Nat) (hq : q < 4) (D : Bt) (a : Option Addr) (c : Nat) (i : BIn W D a c) : Ob ((((((W.setCell ⟨O, q * 6, none⟩ (.int .i64 D.r)).setCell ⟨O, q * 6 + 1, none⟩ (.int .i64 D.e)).setCell ⟨O, q * 6 + 2, none⟩ (.int .i64 D.f)).setCell ⟨O, q * 6 + 3, none⟩ (.int .i64 D.t)).setCell ⟨O, q * 6 + 4, none⟩ (.int .i64 D.o)).setCell ⟨O, q * 6 + 5, none⟩ (.slice a D.es.length c)) O (upd f q D) (upd A q a) (upd K q c) ∧ Turned O W ((((((W.setCell ⟨O, q * 6, none⟩ (.int .i64 D.r)).setCell ⟨O, q * 6 + 1, none⟩ (.int .i64 D.e)).setCell ⟨O, q * 6 + 2, none⟩ (.int .i64 D.f)).setCell ⟨O, q * 6 + 3, none⟩ (.int .i64 D.t)).setCell ⟨O, q * 6 + 4, none⟩ (.int .i64 D.o)).setCell ⟨O, q * 6 + 5, none⟩ (.slice a D.es.length c)) := by
  have t : Turned O W ((((((W.setCell ⟨O, q * 6, none⟩ (.int .i64 D.r)).setCell ⟨O, q * 6 + 1, none⟩ (.int .i64 D.e)).setCell ⟨O, q * 6 + 2, none⟩ (.int .i64 D.f)).setCell ⟨O, q * 6 + 3, none⟩ (.int .i64 D.t)).setCell ⟨O, q * 6 + 4, none⟩ (.int .i64 D.o)).setCell ⟨O, q * 6 + 5, none⟩ (.slice a D.es.length c)) := six_turn W O q _ _ _ _ _ _
  obtain ⟨cur, e, hb, hs, hp⟩ := h.blk
  have hb' := heap_setB (k := q * 6 + 5) (v := .slice a D.es.length c) (heap_setB (k := q * 6 + 4) (v := .int .i64 D.o) (heap_setB (k := q * 6 + 3) (v := .int .i64 D.t) (heap_setB (k := q * 6 + 2) (v := .int .i64 D.f) (heap_setB (k := q * 6 + 1) (v := .int .i64 D.e) (heap_setB (k := q * 6) (v := .int .i64 D.r) hb)))))
  have hp' := pt_set (k := q * 6 + 5) (.slice a D.es.length c) (by omega) (pt_set (k := q * 6 + 4) (.int .i64 D.o) (by omega) (pt_set (k := q * 6 + 3) (.int .i64 D.t) (by omega) (pt_set (k := q * 6 + 2) (.int .i64 D.f) (by omega) (pt_set (k := q * 6 + 1) (.int .i64 D.e) (by omega) (pt_set (k := q * 6) (.int .i64 D.r) (by omega) ⟨hs, (by simp : 24 ≤ (btCells f A K).size), hp⟩)))))
  have hfar : ∀ o, 24 ≤ o → ((((((cur.set! (q * 6) (.int .i64 D.r)).set! (q * 6 + 1) (.int .i64 D.e)).set! (q * 6 + 2) (.int .i64 D.f)).set! (q * 6 + 3) (.int .i64 D.t)).set! (q * 6 + 4) (.int .i64 D.o)).set! (q * 6 + 5) (.slice a D.es.length c))[o]? = cur[o]? := fun o ho => by
    rw [pt_far _ (by omega) ho, pt_far _ (by omega) ho, pt_far _ (by omega) ho, pt_far _ (by omega) ho, pt_far _ (by omega) ho, pt_far _ (by omega) ho]
  have this : ∀ q, q < 4 → ((((((btCells f A K).set! (q * 6) (.int .i64 D.r)).set! (q * 6 + 1) (.int .i64 D.e)).set! (q * 6 + 2) (.int .i64 D.f)).set! (q * 6 + 3) (.int .i64 D.t)).set! (q * 6 + 4) (.int .i64 D.o)).set! (q * 6 + 5) (.slice a D.es.length c) = btCells (upd f q D) (upd A q a) (upd K q c) := by
    refine below4b ?_ ?_ ?_ ?_ <;> simp [upd]
  rw [this q hq] at hp'
  generalize hcur : (((((cur.set! (q * 6) (.int .i64 D.r)).set! (q * 6 + 1) (.int .i64 D.e)).set! (q * 6 + 2) (.int .i64 D.f)).set! (q * 6 + 3) (.int .i64 D.t)).set! (q * 6 + 4) (.int .i64 D.o)).set! (q * 6 + 5) (.slice a D.es.length c) = cur' at hb' hp' hfar
  generalize ((((((W.setCell ⟨O, q * 6, none⟩ (.int .i64 D.r)).setCell ⟨O, q * 6 + 1, none⟩ (.int .i64 D.e)).setCell ⟨O, q * 6 + 2, none⟩ (.int .i64 D.f)).setCell ⟨O, q * 6 + 3, none⟩ (.int .i64 D.t)).setCell ⟨O, q * 6 + 4, none⟩ (.int .i64 D.o)).setCell ⟨O, q * 6 + 5, none⟩ (.slice a D.es.length c)) = V at t hb' ⊢
  have keep : ∀ {x : Option Addr} {n : Nat} {l : List Int}, RowK .i64 W x (6 * n) l → RowK .i64 V x (6 * n) l := fun {x n l} hr => ⟨hr.len_eq, hr.wf, fun j hj => by
    obtain ⟨b, off, ha, hlt, hc⟩ := hr.cell j hj
    refine ⟨b, off, ha, by rw [t.size]; exact hlt, ?_⟩
    by_cases hbO : b = O
    · subst ha
      have ho := h.off hr (by omega) hbO
      subst hbO
      have e1 : V.cell? ⟨b, off + j, none⟩ = cur'[off + j]? := by simp [World.cell?, hb']
      have e2 : W.cell? ⟨b, off + j, none⟩ = cur[off + j]? := by simp [World.cell?, hb]
      rw [e1, hfar _ (by omega), ← e2]
      exact hc
    · exact (World.cell?_of_block (w := W) (t.block b hbO)).trans hc⟩
  refine ⟨⟨⟨cur', e, hb', hp'.1, hp'.2.2⟩, fun p hp => ?_⟩, t⟩
  by_cases e : p = q
  · subst e
    rw [upd_same, upd_same, upd_same]
    exact ⟨keep i.row, i.cap, i.nil⟩
  · rw [upd_other _ _ e, upd_other _ _ e, upd_other _ _ e]
    exact ⟨keep (h.bin p hp).row, (h.bin p hp).cap, (h.bin p hp).nil⟩
end
/-- a row of events lies not in a berth's box. -/
theorem row_box {W : World} {X : Nat} {r e f t o : Int} {a' : Option Addr} {m c' : Nat} (h : bBlock W X r e f t o a' m c') {a : Option Addr} {n : Nat} {l : List Int} (hr : RowK .i64 W a (6 * n) l) : ∀ x, a = some x → 0 < 6 * n → x.block ≠ X := by
  intro x hx hn hX
  obtain ⟨b, off, ha, _, hc0⟩ := hr.cell 0 hn
  obtain rfl := Option.some.inj (hx.symm.trans ha)
  simp only at hX
  subst hX
  by_cases g : off ≤ 5
  · obtain ⟨b2, off2, e2, _, hc⟩ := hr.cell (5 - off) (by omega)
    rw [ha] at e2
    cases e2
    rw [show off + (5 - off) = 5 by omega, h.cells.2.2.2.2.2] at hc
    cases hc
  · unfold bBlock at h
    have e1 : W.cell? ⟨b, off + 0, none⟩ = (bCells r e f t o a' m c')[off + 0]? := by simp [World.cell?, h]
    rw [e1, Array.getElem?_eq_none (by show 6 ≤ off + 0; omega)] at hc0
    cases hc0
/-- berths that are nothing yet. -/
def zc : Nat → List Value
  | 0 => []
  | k + 1 => zc k ++ [.int .i64 0, .int .i64 0, .int .i64 0, .int .i64 0, .int .i64 0, .slice none 0 0]
theorem Ob.new {W : World} {base : Nat} {v : Value} (own : W.ownsRow base 24 6 v 4 (zc 4)) : ∃ O c, v = .slice (some ⟨O, 0, none⟩) 4 c ∧ base ≤ O ∧ Ob W O zeroF (fun _ => none) (fun _ => 0) := by
  rcases own.2 with ⟨_, e⟩ | ⟨g, cap, cur, e, hb, hh, hn, hm, hs, ht⟩
  · omega
  · refine ⟨g, cap, e, hb, ⟨cur, _, hh, by omega, fun i hi => ?_⟩, fun q hq => ⟨RowK.nil _ _ _, Nat.le_refl _, fun _ => rfl⟩⟩
    have e1 : zc 4 = (btCells zeroF (fun _ => none) (fun _ => 0)).toList := rfl
    rw [← Array.getElem?_toList, ← Array.getElem?_toList, ← e1, ← ht, List.getElem?_take_of_lt (by omega)]
theorem newsB (w : World) (t : TypeId) : ∀ j u, ([.int .i64 0, .int .i64 0, .int .i64 0, .int .i64 0, .int .i64 0, .slice none 0 0] : List Value)[j]? = some u → (w.alloc (.cells #[.int .i64 0, .int .i64 0, .int .i64 0, .int .i64 0, .int .i64 0, .slice none 0 0] t)).cell? ((⟨w.heap.size, 0, none⟩ : Addr).add j) = some u := by
  intro j u hj
  rw [Addr.add_mid]
  match j, hj with
  | 0, hj => simp at hj; subst hj; simp
  | 1, hj => simp at hj; subst hj; simp
  | 2, hj => simp at hj; subst hj; simp
  | 3, hj => simp at hj; subst hj; simp
  | 4, hj => simp at hj; subst hj; simp
  | 5, hj => simp at hj; subst hj; simp
  | n + 6, hj => simp at hj
theorem bts_upd (f : Nat → Bt) (D : Bt) : ∀ q, q < 4 → (bts f).set q D = bts (upd f q D) := by
  refine below4b ?_ ?_ ?_ ?_ <;> simp [bts, upd]
theorem bts_get4 (f : Nat → Bt) : ∀ q, q < 4 → (bts f).getD q Bt.zero = f q := by refine below4b ?_ ?_ ?_ ?_ <;> rfl
/-- what the document's Rebuilt answers. -/
def RebR (w' : World) (o : Option (List Bt) × Nat × Int) (x : Ending) : Prop :=
  (o.1 = none → x = .returned (.tuple #[.slice none 0 0, .int .i64 o.2.1, .int .i64 o.2.2])) ∧
  ∀ S, o.1 = some S → ∃ O c f A K, x = .returned (.tuple #[.slice (some ⟨O, 0, none⟩) 4 c, .int .i64 0, .int .i64 0]) ∧ o.2.1 = 0 ∧ o.2.2 = 0 ∧ S = bts f ∧ Bts w' O f A K
end Go.Proofs.YtcdopnkabbfooaaGreat

namespace Go.Proofs.YtcdopnkabbfooaaGreat
open Go.RowKit

set_option maxRecDepth 20000 in
set_option maxHeartbeats 8000000 in
theorem rebuilt_any (HAp : ∀ (B : Bt) (a : Option Addr) (c : Nat) (r : Rec) (u : World), BIn u B a c → (∀ z ∈ evFlat [r.v], (Lit.int .i64 z).wf = true) → Calls Tryz.prog 12 #[bVal B.r B.e B.f B.t B.o a B.es.length c, recIn r] u fun x w' => ∃ a c, x = .returned (.tuple #[bVal (applyOf B r).1.r (applyOf B r).1.e (applyOf B r).1.f (applyOf B r).1.t (applyOf B r).1.o a (applyOf B r).1.es.length c, .int .i64 (applyOf B r).2]) ∧ BIn w' (applyOf B r).1 a c ∧ Below u.heap.size u w') (rs : List Rec) (a : Option Addr) (c : Nat) (w : World) (hr : RowK .i64 w a (10 * rs.length) (recFlat rs)) (hlen : rs.length * 80 ≤ 140737488351232) :
    Calls Tryz.prog 16 #[.slice a rs.length c] w fun x w' => RebR w' (rebS (bts zeroF) 0 rs) x ∧ Below w.heap.size w w' := by
  obtain ⟨i6, hi6, hz60, hz61, hz62⟩ := info_of Tryz.infoBerth
  have HA0 := veil HAp
  have HR : Hid (∀ W, Below w.heap.size w W → RowK .i64 W a (10 * rs.length) (recFlat rs)) := veil fun W b => hr.below b
  have HW := veil hr.wf
  obtain ⟨n, hn⟩ : ∃ n, n = rs.length := ⟨_, rfl⟩
  have HN := veil hn
  rw [← hn] at hlen ⊢
  clear hr hn HAp
  obtain ⟨o, ho⟩ : ∃ o, o = rebS (bts zeroF) 0 rs := ⟨_, rfl⟩
  have HOo := veil ho
  rw [← ho]
  clear ho
  go_enter Tryz.func16, Tryz.ntmps16
  go_wp2
  go_loopw [5, 6] (fun v t wr => ∃ k : Nat, k ≤ 4 ∧ t = .int .i64 k ∧ (∃ aN cN, v = .slice aN k cN) ∧ Hid (wr.ownsRow w.heap.size 24 6 v k (zc k)) ∧ Below w.heap.size w wr) (fun _ t _ => 4 - (intOf t).toNat)
  case atStart => exact ⟨0, Nat.zero_le _, rfl, ⟨none, 0, rfl⟩, veil (World.ownsRow_nil _ _ _ _), Below.refl _ _⟩
  case round =>
    obtain ⟨k, hk, rfl, ⟨aN, cN, rfl⟩, HO, bel⟩ := hrel
    by_cases hlt : k < 4
    case pos =>
      have hki : (k : Int) < 4 := by omega
      have hsz : w.heap.size ≤ wr.heap.size := bel.size
      have b5 : Below wr.heap.size wr (wr.alloc (.cells #[.int .i64 0, .int .i64 0, .int .i64 0, .int .i64 0, .int .i64 0, .slice none 0 0] 24)) := below1 _ _
      have HO5 : Hid ((wr.alloc (.cells #[.int .i64 0, .int .i64 0, .int .i64 0, .int .i64 0, .int .i64 0, .slice none 0 0] 24)).ownsRow w.heap.size 24 6 (.slice aN k cN) k (zc k)) := veil (own_still (unveil HO) (fun g _ hg => b5.block g hg))
      have HG : Hid (∀ w4, (wr.alloc (.cells #[.int .i64 0, .int .i64 0, .int .i64 0, .int .i64 0, .int .i64 0, .slice none 0 0] 24)).grownBy w4 (Value.slice aN k cN).ownBlock → Below w.heap.size w w4) := veil fun w4 g => (Below.next bel b5).grown g (Below.next bel b5).size (fun q hq => ((unveil HO).lt q hq).1)
      clear b5 HO bel HA0 HR HW HN HOo
      go_wp2_with (at_builtin; refine wpList_append_own _ rfl _ _ 39 rfl w.heap.size 24 i6 _ 6 64 Tryz.underlying39 hi6 hz60 hz61 hz62 rfl (by decide) (.slice aN k cN) k (zc k) rfl (unveil HO5) ⟨wr.heap.size, 0, none⟩ 1 1 [.int .i64 0, .int .i64 0, .int .i64 0, .int .i64 0, .int .i64 0, .slice none 0 0] rfl rfl (newsB _ _) (by simp [Value.oneCell']) (by unfold maxLen; omega) (by omega) (by simp; omega) ?_; intro v' w4 o4 g4 _; obtain ⟨aM, cM, rfl⟩ := own_form o4; have HO6 : Hid (w4.ownsRow w.heap.size 24 6 (.slice aM (k + 1) cM) (k + 1) (zc (k + 1))) := veil o4; have HB6 := veil (unveil HG w4 g4); clear o4 g4 HG HO5)
      all_goals (go_roundw <;> first | exact ⟨k + 1, by omega, by go_num, ⟨aM, cM, rfl⟩, HO6, unveil HB6⟩ | (simp [intOf]; omega))
    case neg =>
      obtain rfl : k = 4 := by omega
      obtain ⟨O, cO', e, hO, ob⟩ := Ob.new (unveil HO)
      cases e
      obtain ⟨cO, hcO⟩ : ∃ x, x = cN := ⟨_, rfl⟩
      rw [← hcO]
      clear hcO
      have e44 : ((4 : Nat) : Int) = 4 := rfl
      simp only [e44]
      clear e44
      have HOb : Hid (Ob wr O zeroF (fun _ => none) (fun _ => 0)) := veil ob
      have HB0 := veil bel
      clear HO ob bel
      obtain ⟨W0, hW0⟩ : ∃ X, X = wr := ⟨_, rfl⟩
      subst hW0
      go_wp2_with fail
      go_loopw [7] (fun t wx => ∃ k : Nat, ∃ f A Kf, k ≤ n ∧ t = .int .i64 k ∧ Hid (Ob wx O f A Kf ∧ rebS (bts f) k (rs.drop k) = o) ∧ Below w.heap.size w wx) (fun t _ => n - (intOf t).toNat)
      case atStart => exact ⟨0, zeroF, _, _, Nat.zero_le _, rfl, veil ⟨unveil HOb, (unveil HOo).symm⟩, unveil HB0⟩
      case round =>
        clear HOb HB0 HOo
        obtain ⟨k, f, A, Kf, hk, rfl, HI, bel⟩ := hrel
        by_cases hlt : k < n
        case neg =>
          obtain rfl : k = n := by omega
          have HX : Hid (RebR wr o (.returned (.tuple #[.slice (some ⟨O, 0, none⟩) 4 cO, .int .i64 0, .int .i64 0]))) := veil (by
            have h := (unveil HI).2
            rw [unveil HN, List.drop_length] at h
            unfold rebS at h
            rw [← h]
            exact ⟨fun h => (by cases h), fun S hS => ⟨O, cO, f, A, Kf, rfl, rfl, rfl, (Option.some.inj hS).symm, (unveil HI).1.bts⟩⟩)
          clear HI HA0 HR HW HN
          go_wp2
          go_ret3
          exact ⟨unveil HX, bel⟩
        case pos =>
          have hltr : k < rs.length := by rw [← unveil HN]; exact hlt
          have rk := unveil HR wr bel
          obtain ⟨b, off, rfl⟩ := rk.form (by omega)
          obtain ⟨r, hrr⟩ : ∃ r, r = rs[k] := ⟨_, rfl⟩
          have hx := row_rec rk k hltr
          rw [← hrr] at hx
          obtain ⟨z0, z1, z2, z3, z4, z5, z6, z7, z8, z9⟩ := hx
          have HRc : Hid (∀ u, Below wr.heap.size wr u → u.cell? ⟨b, off + k * 10, none⟩ = some (.int .i64 r.k) ∧ u.cell? ⟨b, off + k * 10 + 1, none⟩ = some (.int .i64 r.q) ∧ u.cell? ⟨b, off + k * 10 + 2, none⟩ = some (.int .i64 r.e) ∧ u.cell? ⟨b, off + k * 10 + 3, none⟩ = some (.int .i64 r.p) ∧ u.cell? ⟨b, off + k * 10 + 4, none⟩ = some (.int .i64 r.v.k) ∧ u.cell? ⟨b, off + k * 10 + 5, none⟩ = some (.int .i64 r.v.p) ∧ u.cell? ⟨b, off + k * 10 + 6, none⟩ = some (.int .i64 r.v.i) ∧ u.cell? ⟨b, off + k * 10 + 7, none⟩ = some (.int .i64 r.v.b) ∧ u.cell? ⟨b, off + k * 10 + 8, none⟩ = some (.int .i64 r.v.he) ∧ u.cell? ⟨b, off + k * 10 + 9, none⟩ = some (.int .i64 r.v.hn)) := veil fun u bu => by
            have h := row_rec (rk.below bu) k hltr
            rw [← hrr] at h
            exact h
          have hdr : rs.drop k = r :: rs.drop (k + 1) := by rw [hrr]; exact List.drop_eq_getElem_cons hltr
          have HVw : Hid (∀ z ∈ evFlat [r.v], (Lit.int .i64 z).wf = true) := veil (by
            intro z hz
            refine unveil HW z (List.mem_flatMap.2 ⟨r, by rw [hrr]; exact List.getElem_mem hltr, ?_⟩)
            simp [evFlat, evCells] at hz
            rcases hz with g | g | g | g | g | g <;> simp [recTen, g])
          have HI2 : Hid (Ob wr O f A Kf ∧ rebS (bts f) k (r :: rs.drop (k + 1)) = o) := veil ⟨(unveil HI).1, by rw [← hdr]; exact (unveil HI).2⟩
          have hbw : b < w.heap.size := (unveil HR w (Below.refl _ _)).lt (by omega)
          have hbl : b < wr.heap.size := rk.lt (by omega)
          clear HI rk hrr hdr hltr HW
          have HP : Calls Tryz.prog 33 #[.agg #[.int .i64 r.k, .int .i64 r.q, .int .i64 r.e, .int .i64 r.p, .int .i64 r.v.k, .int .i64 r.v.p, .int .i64 r.v.i, .int .i64 r.v.b, .int .i64 r.v.he, .int .i64 r.v.hn]] wr fun x w' => x = .returned (.int .i64 r.fault) ∧ Below wr.heap.size wr w' := recordFault_any r.k r.q r.e r.p r.v.k r.v.p r.v.i r.v.b r.v.he r.v.hn wr
          obtain ⟨ef, hef⟩ : ∃ ef, ef = r.fault := ⟨_, rfl⟩
          have HEf := veil hef
          rw [← hef] at HP
          clear hef
          by_cases g0 : (ef != 0) = true
          case pos =>
            have HX : Hid (∀ W', RebR W' o (.returned (.tuple #[.slice none 0 0, .int .i64 k, .int .i64 ef]))) := veil fun W' => by
              have h := (unveil HI2).2
              have hne : ¬ r.fault = 0 := by rw [← unveil HEf]; simpa using g0
              unfold rebS at h
              rw [if_pos hne] at h
              rw [← h, ← unveil HEf]
              exact ⟨fun _ => rfl, fun S hS => (by cases hS)⟩
            clear HI2 HEf HRc HVw HA0 HR HN
            go_wp2_with (go_at_call 33; refine HP.mono ?_; rintro x V ⟨rfl, b1⟩; clear HP z0 z1 z2 z3 z4 z5 z6 z7 z8 z9)
            go_ret3
            exact ⟨unveil HX _, Below.next bel b1⟩
          case neg =>
            have g0' : (ef != 0) = false := by simpa using g0
            have hf0 : r.fault = 0 := by rw [← unveil HEf]; simpa using g0
            obtain ⟨q, hq⟩ : ∃ q : Nat, r.q = q := ⟨r.q.toNat, by have := fault_q hf0; omega⟩
            have hq4 : q < 4 := by have := fault_q hf0; omega
            have hqi1 : (0 : Int) ≤ q := by omega
            have hqi2 : (q : Int) < 4 := by omega
            obtain ⟨D, er, hDe⟩ : ∃ D er, applyOf (f q) r = (D, er) := ⟨_, _, rfl⟩
            have HAt : Hid (At (bts f) r = f q) := veil (by unfold At; rw [hq]; exact bts_get4 f q hq4)
            have HAp : Hid (∀ u, Below wr.heap.size wr u → Calls Tryz.prog 12 #[bVal (f q).r (f q).e (f q).f (f q).t (f q).o (A q) (f q).es.length (Kf q), .agg #[.int .i64 r.k, .int .i64 q, .int .i64 r.e, .int .i64 r.p, .int .i64 r.v.k, .int .i64 r.v.p, .int .i64 r.v.i, .int .i64 r.v.b, .int .i64 r.v.he, .int .i64 r.v.hn]] u fun x w' => ∃ a1 c1, x = .returned (.tuple #[bVal D.r D.e D.f D.t D.o a1 D.es.length c1, .int .i64 er]) ∧ BIn w' D a1 c1 ∧ Below u.heap.size u w') := veil fun u bu => by
              have h := unveil HA0 (f q) (A q) (Kf q) r u (((unveil HI2).1.next bu).bin q hq4) (unveil HVw)
              simp only [recIn, hq, hDe] at h
              exact h
            have HRq : Hid (∀ u, Below wr.heap.size wr u → u.cell? ⟨b, off + k * 10, none⟩ = some (.int .i64 r.k) ∧ u.cell? ⟨b, off + k * 10 + 1, none⟩ = some (.int .i64 q) ∧ u.cell? ⟨b, off + k * 10 + 2, none⟩ = some (.int .i64 r.e) ∧ u.cell? ⟨b, off + k * 10 + 3, none⟩ = some (.int .i64 r.p) ∧ u.cell? ⟨b, off + k * 10 + 4, none⟩ = some (.int .i64 r.v.k) ∧ u.cell? ⟨b, off + k * 10 + 5, none⟩ = some (.int .i64 r.v.p) ∧ u.cell? ⟨b, off + k * 10 + 6, none⟩ = some (.int .i64 r.v.i) ∧ u.cell? ⟨b, off + k * 10 + 7, none⟩ = some (.int .i64 r.v.b) ∧ u.cell? ⟨b, off + k * 10 + 8, none⟩ = some (.int .i64 r.v.he) ∧ u.cell? ⟨b, off + k * 10 + 9, none⟩ = some (.int .i64 r.v.hn)) := veil fun u bu => by
              have h := unveil HRc u bu
              rw [hq] at h
              exact h
            have HSt : Hid (er = 0 → rebS (bts (upd f q D)) (k + 1) (rs.drop (k + 1)) = o) := veil fun h0 => by
              have h := (unveil HI2).2
              unfold rebS at h
              rw [if_neg (fun x => x hf0), unveil HAt, hDe] at h
              dsimp only at h
              rw [if_pos h0] at h
              rw [← h]
              unfold put
              rw [hq, Int.toNat_natCast, bts_upd f D q hq4]
            have HNo : Hid (¬ er = 0 → ∀ W', RebR W' o (.returned (.tuple #[.slice none 0 0, .int .i64 k, .int .i64 er]))) := veil fun h0 W' => by
              have h := (unveil HI2).2
              unfold rebS at h
              rw [if_neg (fun x => x hf0), unveil HAt, hDe] at h
              dsimp only at h
              rw [if_neg h0] at h
              rw [← h]
              exact ⟨fun _ => rfl, fun S hS => (by cases hS)⟩
            have HOb := veil (unveil HI2).1
            clear HI2 HEf HRc HVw HA0 HAt hDe hf0 g0 hq
            go_upto_region 12 with (go_at_call 33; refine HP.mono ?_; rintro x V ⟨rfl, b1⟩; clear HP z0 z1 z2 z3 z4 z5 z6 z7 z8 z9)
            have bV := Below.next bel b1
            have HO1 := veil ((unveil HOb).next b1)
            have HRv : Hid (∀ u, Below V.heap.size V u → u.cell? ⟨b, off + k * 10, none⟩ = some (.int .i64 r.k) ∧ u.cell? ⟨b, off + k * 10 + 1, none⟩ = some (.int .i64 q) ∧ u.cell? ⟨b, off + k * 10 + 2, none⟩ = some (.int .i64 r.e) ∧ u.cell? ⟨b, off + k * 10 + 3, none⟩ = some (.int .i64 r.p) ∧ u.cell? ⟨b, off + k * 10 + 4, none⟩ = some (.int .i64 r.v.k) ∧ u.cell? ⟨b, off + k * 10 + 5, none⟩ = some (.int .i64 r.v.p) ∧ u.cell? ⟨b, off + k * 10 + 6, none⟩ = some (.int .i64 r.v.i) ∧ u.cell? ⟨b, off + k * 10 + 7, none⟩ = some (.int .i64 r.v.b) ∧ u.cell? ⟨b, off + k * 10 + 8, none⟩ = some (.int .i64 r.v.he) ∧ u.cell? ⟨b, off + k * 10 + 9, none⟩ = some (.int .i64 r.v.hn)) := veil fun u bu => unveil HRq u (Below.next b1 bu)
            have HAv : Hid (∀ u, Below V.heap.size V u → Calls Tryz.prog 12 #[bVal (f q).r (f q).e (f q).f (f q).t (f q).o (A q) (f q).es.length (Kf q), .agg #[.int .i64 r.k, .int .i64 q, .int .i64 r.e, .int .i64 r.p, .int .i64 r.v.k, .int .i64 r.v.p, .int .i64 r.v.i, .int .i64 r.v.b, .int .i64 r.v.he, .int .i64 r.v.hn]] u fun x w' => ∃ a1 c1, x = .returned (.tuple #[bVal D.r D.e D.f D.t D.o a1 D.es.length c1, .int .i64 er]) ∧ BIn w' D a1 c1 ∧ Below u.heap.size u w') := veil fun u bu => unveil HAp u (Below.next b1 bu)
            have hOV : O < V.heap.size := (unveil HO1).lt
            clear HOb HRq HAp bel b1
            go_cut [9, 10] (fun p e wx => ∃ X a1 c1, p = .pointer (some ⟨X, 0, none⟩) ∧ e = .int .i64 er ∧ Hid (bBlock wx X D.r D.e D.f D.t D.o a1 D.es.length c1 ∧ BIn wx D a1 c1) ∧ Below V.heap.size V wx ∧ O < X)
            case first =>
              refine wp_region_held_drew (S := Below V.heap.size V) (by kernel_rfl) (below_drew V) (fun hHeld => ?_)
              refine wpAnyH_take (i := 0) (v := .slice (some ⟨O, 0, none⟩) 4 cO) rfl (by kernel_rfl) (by kernel_rfl) (by kernel_rfl) (fun _ _ _ h => h) (Or.inl ⟨by rfl, fun _ _ => by go_simp⟩) hHeld ?_
              simp only [List.getElem_toArray, List.getElem_cons_zero, Act.put, List.setIfInBounds_toArray, List.set_cons_zero, List.set_cons_succ]
              refine wpAnyH_take (i := 1) (v := .slice (some ⟨b, off, none⟩) n c) rfl (by kernel_rfl) (by kernel_rfl) (by kernel_rfl) (fun _ _ _ h => h) (Or.inl ⟨by rfl, fun _ _ => by go_simp⟩) hHeld ?_
              simp only [List.getElem_toArray, List.getElem_cons_zero, List.getElem_cons_succ, Act.put, List.setIfInBounds_toArray, List.set_cons_zero, List.set_cons_succ]
              refine wpAnyH_take (i := 2) (v := .int .i64 k) rfl (by kernel_rfl) (by kernel_rfl) (by kernel_rfl) (fun _ _ _ h => h) (Or.inl ⟨by rfl, fun _ _ => by go_simp⟩) hHeld ?_
              simp only [List.getElem_toArray, List.getElem_cons_zero, List.getElem_cons_succ, Act.put, List.setIfInBounds_toArray, List.set_cons_zero, List.set_cons_succ]
              refine wpAnyH_take (i := 3) (v := .pointer (some ⟨b, off + k * 10, none⟩)) rfl (by kernel_rfl) (by kernel_rfl) (by kernel_rfl) (fun _ _ _ h => h) (Or.inl ⟨by rfl, fun _ _ => by go_simp⟩) hHeld ?_
              simp only [List.getElem_toArray, List.getElem_cons_zero, List.getElem_cons_succ, Act.put, List.setIfInBounds_toArray, List.set_cons_zero, List.set_cons_succ]
              refine wpAnyH_take (i := 4) (v := .pointer (some ⟨b, off + k * 10 + 1, none⟩)) rfl (by kernel_rfl) (by kernel_rfl) (by kernel_rfl) (fun _ _ _ h => h) (Or.inl ⟨by rfl, fun _ _ => by go_simp⟩) hHeld ?_
              simp only [List.getElem_toArray, List.getElem_cons_zero, List.getElem_cons_succ, Act.put, List.setIfInBounds_toArray, List.set_cons_zero, List.set_cons_succ]
              refine wpAnyH_take (i := 5) (v := .int .i64 q) rfl (by kernel_rfl) (by kernel_rfl) (by kernel_rfl) (fun _ _ _ h => h) (Or.inl ⟨by rfl, fun u b => by obtain ⟨z0, z1, z2, z3, z4, z5, z6, z7, z8, z9⟩ := unveil HRv u b; go_simp⟩) hHeld ?_
              simp only [List.getElem_toArray, List.getElem_cons_zero, List.getElem_cons_succ, Act.put, List.setIfInBounds_toArray, List.set_cons_zero, List.set_cons_succ]
              refine wpAnyH_take (i := 6) (v := .pointer (some ⟨O, q * 6, none⟩)) rfl (by kernel_rfl) (by kernel_rfl) (by kernel_rfl) (fun _ _ _ h => h) (Or.inl ⟨by rfl, fun _ _ => by go_simp⟩) hHeld ?_
              simp only [List.getElem_toArray, List.getElem_cons_zero, List.getElem_cons_succ, Act.put, List.setIfInBounds_toArray, List.set_cons_zero, List.set_cons_succ]
              refine wpAnyH_take (i := 7) (v := bVal (f q).r (f q).e (f q).f (f q).t (f q).o (A q) (f q).es.length (Kf q)) rfl (by kernel_rfl) (by kernel_rfl) (by kernel_rfl) (fun _ _ _ h => h) (Or.inl ⟨by rfl, fun u b => by obtain ⟨y0, y1, y2, y3, y4, y5⟩ := ((unveil HO1).next b).six q hq4; go_simp⟩) hHeld ?_
              simp only [List.getElem_toArray, List.getElem_cons_zero, List.getElem_cons_succ, Act.put, List.setIfInBounds_toArray, List.set_cons_zero, List.set_cons_succ]
              refine wpAnyH_take (i := 8) (v := .slice (some ⟨b, off, none⟩) n c) rfl (by kernel_rfl) (by kernel_rfl) (by kernel_rfl) (fun _ _ _ h => h) (Or.inl ⟨by rfl, fun _ _ => by go_simp⟩) hHeld ?_
              simp only [List.getElem_toArray, List.getElem_cons_zero, List.getElem_cons_succ, Act.put, List.setIfInBounds_toArray, List.set_cons_zero, List.set_cons_succ]
              refine wpAnyH_take (i := 9) (v := .int .i64 k) rfl (by kernel_rfl) (by kernel_rfl) (by kernel_rfl) (fun _ _ _ h => h) (Or.inl ⟨by rfl, fun _ _ => by go_simp⟩) hHeld ?_
              simp only [List.getElem_toArray, List.getElem_cons_zero, List.getElem_cons_succ, Act.put, List.setIfInBounds_toArray, List.set_cons_zero, List.set_cons_succ]
              refine wpAnyH_take (i := 10) (v := .pointer (some ⟨b, off + k * 10, none⟩)) rfl (by kernel_rfl) (by kernel_rfl) (by kernel_rfl) (fun _ _ _ h => h) (Or.inl ⟨by rfl, fun _ _ => by go_simp⟩) hHeld ?_
              simp only [List.getElem_toArray, List.getElem_cons_zero, List.getElem_cons_succ, Act.put, List.setIfInBounds_toArray, List.set_cons_zero, List.set_cons_succ]
              refine wpAnyH_take (i := 11) (v := .agg #[.int .i64 r.k, .int .i64 q, .int .i64 r.e, .int .i64 r.p, .int .i64 r.v.k, .int .i64 r.v.p, .int .i64 r.v.i, .int .i64 r.v.b, .int .i64 r.v.he, .int .i64 r.v.hn]) rfl (by kernel_rfl) (by kernel_rfl) (by kernel_rfl) (fun _ _ _ h => h) (Or.inl ⟨by rfl, fun u b => by obtain ⟨z0, z1, z2, z3, z4, z5, z6, z7, z8, z9⟩ := unveil HRv u b; go_simp⟩) hHeld ?_
              simp only [List.getElem_toArray, List.getElem_cons_zero, List.getElem_cons_succ, Act.put, List.setIfInBounds_toArray, List.set_cons_zero, List.set_cons_succ]
              have bW0 := below_drew V
              obtain ⟨W0, hW0⟩ : ∃ W0, W0 = V.drew := ⟨_, rfl⟩
              rw [← hW0] at bW0  hHeld ⊢
              clear hW0
              refine wpAnyH_ready (rs := [12, 16]) (by kernel_rfl) (by simp) ?_
              refine AllReadyH.cons rfl (fun K hK => ?_) (AllReadyH.cons rfl (fun K hK => ?_) AllReadyH.nil)
              · simp only [List.getElem_toArray, List.getElem_cons_zero, List.getElem_cons_succ]
                go_simp
                refine (unveil HAv W0 bW0).mono ?_
                rintro e W1 ⟨a1, c1, rfl, ib, bn⟩
                have bW1 := Below.next bW0 bn
                clear bn
                refine hK.out _ _ bW1 (fun hHeld => ?_)
                clear hK K
                refine wpAnyH_take (i := 13) (v := .tuple #[bVal D.r D.e D.f D.t D.o a1 D.es.length c1, .int .i64 er]) rfl (by kernel_rfl) (by kernel_rfl) (by kernel_rfl) (fun _ _ _ h => h) (Or.inl ⟨by rfl, fun _ _ => by go_simp⟩) hHeld ?_
                simp only [List.getElem_toArray, List.getElem_cons_zero, List.getElem_cons_succ, Act.put, List.setIfInBounds_toArray, List.set_cons_zero, List.set_cons_succ]
                refine wpAnyH_take (i := 14) (v := bVal D.r D.e D.f D.t D.o a1 D.es.length c1) rfl (by kernel_rfl) (by kernel_rfl) (by kernel_rfl) (fun _ _ _ h => h) (Or.inl ⟨by rfl, fun _ _ => by go_simp⟩) hHeld ?_
                simp only [List.getElem_toArray, List.getElem_cons_zero, List.getElem_cons_succ, Act.put, List.setIfInBounds_toArray, List.set_cons_zero, List.set_cons_succ]
                refine wpAnyH_take (i := 15) (v := .int .i64 er) rfl (by kernel_rfl) (by kernel_rfl) (by kernel_rfl) (fun _ _ _ h => h) (Or.inl ⟨by rfl, fun _ _ => by go_simp⟩) hHeld ?_
                simp only [List.getElem_toArray, List.getElem_cons_zero, List.getElem_cons_succ, Act.put, List.setIfInBounds_toArray, List.set_cons_zero, List.set_cons_succ]
                refine wpAnyH_ready (rs := [16]) (by kernel_rfl) (by simp) ?_
                refine AllReadyH.cons rfl (fun K hK => ?_) AllReadyH.nil
                simp only [List.getElem_toArray, List.getElem_cons_zero, List.getElem_cons_succ]
                go_simp
                obtain ⟨W2, hN, zb, bn⟩ : ∃ W, W = W1.alloc (.cells (bCells 0 0 0 0 0 none 0 0) 24) ∧ bBlock W W1.heap.size 0 0 0 0 0 none 0 0 ∧ Below W1.heap.size W1 W := ⟨_, rfl, bBlock.new W1 0 0 0 0 0 none 0 0, below1 _ _⟩
                rw [← hN]
                clear hN
                have hX0 : V.heap.size ≤ W1.heap.size := bW1.size
                obtain ⟨X, hX⟩ : ∃ X, X = W1.heap.size := ⟨_, rfl⟩
                rw [← hX] at zb hX0 ⊢
                clear hX
                have bW2 := Below.next bW1 bn
                have ib := ib.next bn
                clear bn
                refine hK.out _ _ bW2 (fun hHeld => ?_)
                clear hK K
                refine wpAnyH_ready (rs := [17]) (by kernel_rfl) (by simp) ?_
                refine AllReadyH.cons rfl (fun K hK => ?_) AllReadyH.nil
                simp only [List.getElem_toArray, List.getElem_cons_zero, List.getElem_cons_succ]
                have hib := row_box zb ib.row
                obtain ⟨y0, y1, y2, y3, y4, y5⟩ := zb.cells
                have yf := zb.free
                go_simp
                obtain ⟨W3, hN, db, bW3, tn⟩ := b_stored zb bW2 hX0 D.r D.e D.f D.t D.o a1 D.es.length c1
                rw [← hN]
                clear hN y0 y1 y2 y3 y4 y5 yf
                have ib : BIn W3 D a1 c1 := ⟨tn.row ib.row hib, ib.cap, ib.nil⟩
                clear zb tn hib
                refine hK.out _ _ bW3 (fun hHeld => ?_)
                clear hK K
                refine wpAnyH_take (i := 18) (v := .int .i64 er) rfl (by kernel_rfl) (by kernel_rfl) (by kernel_rfl) (fun _ _ _ h => h) (Or.inl ⟨by rfl, fun _ _ => by go_simp⟩) hHeld ?_
                simp only [List.getElem_toArray, List.getElem_cons_zero, List.getElem_cons_succ, Act.put, List.setIfInBounds_toArray, List.set_cons_zero, List.set_cons_succ]
                refine wpAnyH_done (by kernel_rfl) ?_ _
                go_wp2_with fail
                go_meet
                exact ⟨X, a1, c1, rfl, rfl, veil ⟨db, ib⟩, bW3, by omega⟩
              · simp only [List.getElem_toArray, List.getElem_cons_zero, List.getElem_cons_succ]
                go_simp
                obtain ⟨W1, hN, zb, bn⟩ : ∃ W, W = W0.alloc (.cells (bCells 0 0 0 0 0 none 0 0) 24) ∧ bBlock W W0.heap.size 0 0 0 0 0 none 0 0 ∧ Below W0.heap.size W0 W := ⟨_, rfl, bBlock.new W0 0 0 0 0 0 none 0 0, below1 _ _⟩
                rw [← hN]
                clear hN
                have hX0 : V.heap.size ≤ W0.heap.size := bW0.size
                obtain ⟨X, hX⟩ : ∃ X, X = W0.heap.size := ⟨_, rfl⟩
                rw [← hX] at zb hX0 ⊢
                clear hX
                have bW1 := Below.next bW0 bn
                clear bn
                refine hK.out _ _ bW1 (fun hHeld => ?_)
                clear hK K
                refine wpAnyH_ready (rs := [12]) (by kernel_rfl) (by simp) ?_
                refine AllReadyH.cons rfl (fun K hK => ?_) AllReadyH.nil
                simp only [List.getElem_toArray, List.getElem_cons_zero, List.getElem_cons_succ]
                go_simp
                refine (unveil HAv W1 bW1).mono ?_
                rintro e W2 ⟨a1, c1, rfl, ib, bn⟩
                have bW2 := Below.next bW1 bn
                have zb := zb.next bn
                clear bn
                refine hK.out _ _ bW2 (fun hHeld => ?_)
                clear hK K
                refine wpAnyH_take (i := 13) (v := .tuple #[bVal D.r D.e D.f D.t D.o a1 D.es.length c1, .int .i64 er]) rfl (by kernel_rfl) (by kernel_rfl) (by kernel_rfl) (fun _ _ _ h => h) (Or.inl ⟨by rfl, fun _ _ => by go_simp⟩) hHeld ?_
                simp only [List.getElem_toArray, List.getElem_cons_zero, List.getElem_cons_succ, Act.put, List.setIfInBounds_toArray, List.set_cons_zero, List.set_cons_succ]
                refine wpAnyH_take (i := 14) (v := bVal D.r D.e D.f D.t D.o a1 D.es.length c1) rfl (by kernel_rfl) (by kernel_rfl) (by kernel_rfl) (fun _ _ _ h => h) (Or.inl ⟨by rfl, fun _ _ => by go_simp⟩) hHeld ?_
                simp only [List.getElem_toArray, List.getElem_cons_zero, List.getElem_cons_succ, Act.put, List.setIfInBounds_toArray, List.set_cons_zero, List.set_cons_succ]
                refine wpAnyH_take (i := 15) (v := .int .i64 er) rfl (by kernel_rfl) (by kernel_rfl) (by kernel_rfl) (fun _ _ _ h => h) (Or.inl ⟨by rfl, fun _ _ => by go_simp⟩) hHeld ?_
                simp only [List.getElem_toArray, List.getElem_cons_zero, List.getElem_cons_succ, Act.put, List.setIfInBounds_toArray, List.set_cons_zero, List.set_cons_succ]
                refine wpAnyH_ready (rs := [17]) (by kernel_rfl) (by simp) ?_
                refine AllReadyH.cons rfl (fun K hK => ?_) AllReadyH.nil
                simp only [List.getElem_toArray, List.getElem_cons_zero, List.getElem_cons_succ]
                have hib := row_box zb ib.row
                obtain ⟨y0, y1, y2, y3, y4, y5⟩ := zb.cells
                have yf := zb.free
                go_simp
                obtain ⟨W3, hN, db, bW3, tn⟩ := b_stored zb bW2 hX0 D.r D.e D.f D.t D.o a1 D.es.length c1
                rw [← hN]
                clear hN y0 y1 y2 y3 y4 y5 yf
                have ib : BIn W3 D a1 c1 := ⟨tn.row ib.row hib, ib.cap, ib.nil⟩
                clear zb tn hib
                refine hK.out _ _ bW3 (fun hHeld => ?_)
                clear hK K
                refine wpAnyH_take (i := 18) (v := .int .i64 er) rfl (by kernel_rfl) (by kernel_rfl) (by kernel_rfl) (fun _ _ _ h => h) (Or.inl ⟨by rfl, fun _ _ => by go_simp⟩) hHeld ?_
                simp only [List.getElem_toArray, List.getElem_cons_zero, List.getElem_cons_succ, Act.put, List.setIfInBounds_toArray, List.set_cons_zero, List.set_cons_succ]
                refine wpAnyH_done (by kernel_rfl) ?_ _
                go_wp2_with fail
                go_meet
                exact ⟨X, a1, c1, rfl, rfl, veil ⟨db, ib⟩, bW3, by omega⟩
            case rest =>
              obtain ⟨X, a1, c1, rfl, rfl, HD, b2, hOX⟩ := hcut
              have bC := Below.next bV b2
              have HO2 := veil ((unveil HO1).next b2)
              have HRw : Hid (∀ u, Below wc.heap.size wc u → u.cell? ⟨b, off + k * 10, none⟩ = some (.int .i64 r.k) ∧ u.cell? ⟨b, off + k * 10 + 1, none⟩ = some (.int .i64 q) ∧ u.cell? ⟨b, off + k * 10 + 2, none⟩ = some (.int .i64 r.e) ∧ u.cell? ⟨b, off + k * 10 + 3, none⟩ = some (.int .i64 r.p) ∧ u.cell? ⟨b, off + k * 10 + 4, none⟩ = some (.int .i64 r.v.k) ∧ u.cell? ⟨b, off + k * 10 + 5, none⟩ = some (.int .i64 r.v.p) ∧ u.cell? ⟨b, off + k * 10 + 6, none⟩ = some (.int .i64 r.v.i) ∧ u.cell? ⟨b, off + k * 10 + 7, none⟩ = some (.int .i64 r.v.b) ∧ u.cell? ⟨b, off + k * 10 + 8, none⟩ = some (.int .i64 r.v.he) ∧ u.cell? ⟨b, off + k * 10 + 9, none⟩ = some (.int .i64 r.v.hn)) := veil fun u bu => unveil HRv u (Below.next b2 bu)
              clear HO1 HRv HAv bV b2
              by_cases g1 : (er != 0) = true
              case pos =>
                have HX := veil (unveil HNo (by simpa using g1) wc)
                clear HNo HSt HD HO2 HRw HR HN
                go_wp2_with fail
                go_ret3
                exact ⟨unveil HX, bC⟩
              case neg =>
                have g1' : (er != 0) = false := by simpa using g1
                have HX := veil (unveil HSt (by simpa using g1))
                clear HNo HSt g1
                have hbO : b ≠ O := by omega
                go_upto_region 15 with fail
                refine wp_region_held_drew (S := (fun u => u.cell? ⟨b, off + k * 10 + 1, none⟩ = some (.int .i64 q) ∧ bBlock u X D.r D.e D.f D.t D.o a1 D.es.length c1)) (by kernel_rfl) (⟨(unveil HRw _ (below_drew wc)).2.1, (unveil HD).1.next (below_drew wc)⟩) (fun hHeld => ?_)
                refine wpAnyH_take (i := 0) (v := .slice (some ⟨O, 0, none⟩) 4 cO) rfl (by kernel_rfl) (by kernel_rfl) (by kernel_rfl) (fun _ _ _ h => h) (Or.inl ⟨by rfl, fun _ _ => by go_simp⟩) hHeld ?_
                simp only [List.getElem_toArray, List.getElem_cons_zero, Act.put, List.setIfInBounds_toArray, List.set_cons_zero, List.set_cons_succ]
                refine wpAnyH_take (i := 1) (v := .slice (some ⟨b, off, none⟩) n c) rfl (by kernel_rfl) (by kernel_rfl) (by kernel_rfl) (fun _ _ _ h => h) (Or.inl ⟨by rfl, fun _ _ => by go_simp⟩) hHeld ?_
                simp only [List.getElem_toArray, List.getElem_cons_zero, List.getElem_cons_succ, Act.put, List.setIfInBounds_toArray, List.set_cons_zero, List.set_cons_succ]
                refine wpAnyH_take (i := 2) (v := .int .i64 k) rfl (by kernel_rfl) (by kernel_rfl) (by kernel_rfl) (fun _ _ _ h => h) (Or.inl ⟨by rfl, fun _ _ => by go_simp⟩) hHeld ?_
                simp only [List.getElem_toArray, List.getElem_cons_zero, List.getElem_cons_succ, Act.put, List.setIfInBounds_toArray, List.set_cons_zero, List.set_cons_succ]
                refine wpAnyH_take (i := 3) (v := .pointer (some ⟨b, off + k * 10, none⟩)) rfl (by kernel_rfl) (by kernel_rfl) (by kernel_rfl) (fun _ _ _ h => h) (Or.inl ⟨by rfl, fun _ _ => by go_simp⟩) hHeld ?_
                simp only [List.getElem_toArray, List.getElem_cons_zero, List.getElem_cons_succ, Act.put, List.setIfInBounds_toArray, List.set_cons_zero, List.set_cons_succ]
                refine wpAnyH_take (i := 4) (v := .pointer (some ⟨b, off + k * 10 + 1, none⟩)) rfl (by kernel_rfl) (by kernel_rfl) (by kernel_rfl) (fun _ _ _ h => h) (Or.inl ⟨by rfl, fun _ _ => by go_simp⟩) hHeld ?_
                simp only [List.getElem_toArray, List.getElem_cons_zero, List.getElem_cons_succ, Act.put, List.setIfInBounds_toArray, List.set_cons_zero, List.set_cons_succ]
                refine wpAnyH_take (i := 5) (v := .int .i64 q) rfl (by kernel_rfl) (by kernel_rfl) (by kernel_rfl) (fun _ _ _ h => h) (Or.inl ⟨by rfl, fun u hu => by have z1 := hu.1; go_simp⟩) hHeld ?_
                simp only [List.getElem_toArray, List.getElem_cons_zero, List.getElem_cons_succ, Act.put, List.setIfInBounds_toArray, List.set_cons_zero, List.set_cons_succ]
                refine wpAnyH_take (i := 6) (v := bVal D.r D.e D.f D.t D.o a1 D.es.length c1) rfl (by kernel_rfl) (by kernel_rfl) (by kernel_rfl) (fun _ _ _ h => h) (Or.inl ⟨by rfl, fun u hu => by obtain ⟨y0, y1, y2, y3, y4, y5⟩ := hu.2.cells; go_simp⟩) hHeld ?_
                simp only [List.getElem_toArray, List.getElem_cons_zero, List.getElem_cons_succ, Act.put, List.setIfInBounds_toArray, List.set_cons_zero, List.set_cons_succ]
                refine wpAnyH_take (i := 7) (v := .pointer (some ⟨O, q * 6, none⟩)) rfl (by kernel_rfl) (by kernel_rfl) (by kernel_rfl) (fun _ _ _ h => h) (Or.inl ⟨by rfl, fun _ _ => by go_simp⟩) hHeld ?_
                simp only [List.getElem_toArray, List.getElem_cons_zero, List.getElem_cons_succ, Act.put, List.setIfInBounds_toArray, List.set_cons_zero, List.set_cons_succ]
                have bW0 := below_drew wc
                obtain ⟨W0, hW0⟩ : ∃ W0, W0 = wc.drew := ⟨_, rfl⟩
                rw [← hW0] at bW0  hHeld ⊢
                clear hW0
                refine wpAnyH_ready (rs := [8]) (by kernel_rfl) (by simp) ?_
                refine AllReadyH.cons rfl (fun K hK => ?_) AllReadyH.nil
                simp only [List.getElem_toArray, List.getElem_cons_zero, List.getElem_cons_succ]
                have ob := (unveil HO2).next bW0
                have ib := (unveil HD).2.next bW0
                obtain ⟨y0, y1, y2, y3, y4, y5⟩ := ob.six q hq4
                have yf := ob.free
                go_simp
                obtain ⟨W1, hN, op, tn⟩ : ∃ W, W = ((((((W0.setCell ⟨O, q * 6, none⟩ (.int .i64 D.r)).setCell ⟨O, q * 6 + 1, none⟩ (.int .i64 D.e)).setCell ⟨O, q * 6 + 2, none⟩ (.int .i64 D.f)).setCell ⟨O, q * 6 + 3, none⟩ (.int .i64 D.t)).setCell ⟨O, q * 6 + 4, none⟩ (.int .i64 D.o)).setCell ⟨O, q * 6 + 5, none⟩ (.slice a1 D.es.length c1)) ∧ Ob W O (upd f q D) (upd A q a1) (upd Kf q c1) ∧ Turned O W0 W := ⟨_, rfl, (ob.put q hq4 D a1 c1 ib).1, (ob.put q hq4 D a1 c1 ib).2⟩
                rw [← hN]
                clear hN y0 y1 y2 y3 y4 y5 yf
                have bZ := tn.under (Below.next bC bW0) hO
                have hSN : W1.cell? ⟨b, off + k * 10 + 1, none⟩ = some (.int .i64 q) ∧ bBlock W1 X D.r D.e D.f D.t D.o a1 D.es.length c1 := ⟨(World.cell?_of_block (w := W0) (tn.block b hbO)).trans (unveil HRw W0 bW0).2.1, ((unveil HD).1.next bW0).turned tn (by omega)⟩
                clear tn ob ib
                refine hK.out _ _ hSN (fun hHeld => ?_)
                clear hK K
                refine wpAnyH_done (by kernel_rfl) ?_ _
                go_wp2_with fail
                go_roundw <;> first | exact ⟨k + 1, upd f q D, _, _, by omega, by go_num, veil ⟨op, unveil HX⟩, bZ⟩ | (simp [intOf]; omega)
end Go.Proofs.YtcdopnkabbfooaaGreat

namespace Go.Proofs.YtcdopnkabbfooaaGreat
open Go.ChangeShapes Go.WideShapes Go.ChangeAt Go.RowKit

theorem cells_recM : Tryz.prog.cellsOf 30 = 10 := by kernel_rfl
theorem ints_recM {H : Type} {enc : TypeId × Value → H} {W : World} {base : Nat} {sp : Nat → Bool} {held : Bool} {fuel : Nat} {cs : List Value} {x : DataW H × List MemPlace} (h : DataW.trod enc Tryz.prog W base sp held fuel 30 cs = some x) : Ints cs ∧ cs.length = 10 := by
  obtain ⟨xs, n, _, _, hl, hlen, hf⟩ := DataW.trod_struct Tryz.underlying30 h
  rw [cells_recM] at hl
  refine ⟨?_, hl⟩
  match xs, hlen with
  | [y0, y1, y2, y3, y4], _ =>
    have f0 : DataW.trod enc Tryz.prog W base sp held n 3 ((cs.drop 0).take (Tryz.prog.cellsOf 3)) = some y0 := hf 0 _ rfl
    rw [cells_int] at f0
    have f1 : DataW.trod enc Tryz.prog W base sp held n 3 ((cs.drop 1).take (Tryz.prog.cellsOf 3)) = some y1 := hf 1 _ rfl
    rw [cells_int] at f1
    have f2 : DataW.trod enc Tryz.prog W base sp held n 3 ((cs.drop 2).take (Tryz.prog.cellsOf 3)) = some y2 := hf 2 _ rfl
    rw [cells_int] at f2
    have f3 : DataW.trod enc Tryz.prog W base sp held n 3 ((cs.drop 3).take (Tryz.prog.cellsOf 3)) = some y3 := hf 3 _ rfl
    rw [cells_int] at f3
    have f4 : DataW.trod enc Tryz.prog W base sp held n 28 ((cs.drop 4).take (Tryz.prog.cellsOf 28)) = some y4 := hf 4 _ rfl
    rw [cells_event] at f4
    exact ints_step (o := 0) (n := 1) (ints_int Tryz.underlying3 f0) (ints_step (o := 1) (n := 1) (ints_int Tryz.underlying3 f1) (ints_step (o := 2) (n := 1) (ints_int Tryz.underlying3 f2) (ints_step (o := 3) (n := 1) (ints_int Tryz.underlying3 f3) (ints_step (o := 4) (n := 6) (ints_event f4) (ints_end (by omega))))))
section
variable {H : Type} {enc : TypeId × Value → H} {W : World}
/-- the number that a cell holds. -/
def numOfCell (w : World) (a : Addr) : Int := match w.cell? a with
  | some (.int .i64 z) => z
  | _ => 0

/-- a slice of structs of numbers, by its cell. -/
theorem open_many {t e : TypeId} {size : Nat} (ht : Tryz.prog.underlying t = some (.slice e)) (hc : Tryz.prog.cellsOf e = size) (h0 : 0 < size)
    (hints : ∀ {fuel : Nat} {cs : List Value} {x : DataW H × List MemPlace}, DataW.trod enc Tryz.prog W 0 (fun _ => true) true fuel e cs = some x → Ints cs ∧ cs.length = size)
    {fuel : Nat} {cs : List Value} {d : DataW H} {p : List MemPlace} (hf : DataW.trod enc Tryz.prog W 0 (fun _ => true) true fuel t cs = some (d, p)) :
    ∃ a len cap D, cs = [.slice a len cap] ∧ RowK .i64 W a (size * len) D ∧ len ≤ cap ∧ cap ≤ maxLen ∧ (a = none → cap = 0) ∧ ((d = .nil ∧ cap = 0) ∨ ∃ es sp, d = .slice es sp ∧ es.length + sp.length = cap) := by
  rcases Go.Deep.open_slice ht hf with ⟨rfl, hx⟩ | ⟨x, l, c, m, n, Dd, Pl, rfl, _, hl, hm, hmm, hx, hall⟩
  · simp only [Prod.mk.injEq] at hx
    exact ⟨none, 0, 0, [], rfl, RowK.nil _ _ _, Nat.le_refl _, by unfold maxLen; omega, fun _ => rfl, .inl ⟨hx.1, rfl⟩⟩
  · simp only [if_true] at hmm
    subst hmm
    simp only [Prod.mk.injEq] at hx
    have hdat : (d = .nil ∧ m = 0) ∨ ∃ es sp, d = .slice es sp ∧ es.length + sp.length = m := .inr ⟨_, _, hx.1, by simp; omega⟩
    have key : ∀ i, i < l → ∀ t, t < size → ∃ z, W.cell? ((x.add (i * size)).add t) = some (.int .i64 z) ∧ (Lit.int .i64 z).wf = true := by
      intro i hi t ht
      obtain ⟨cs', h1, h2⟩ := hall i (by omega)
      rw [hc] at h1
      obtain ⟨⟨zs, rfl, hw⟩, hl4⟩ := hints h2
      have hl4' : zs.length = size := by simpa using hl4
      have h3 := (World.cells?_some h1).2.2 t ht
      rw [h3, List.getElem?_map, List.getElem?_eq_getElem (show t < zs.length by omega)]
      exact ⟨zs[t]'(by omega), rfl, hw _ (List.getElem_mem _)⟩
    obtain ⟨b, off, spot⟩ := x
    by_cases hl0 : l = 0
    · subst hl0
      exact ⟨_, _, _, [], rfl, RowK.nil _ _ _, hl, hm, by simp, hdat⟩
    have hspot : spot = none := by
      obtain ⟨z, hz, _⟩ := key 0 (by omega) 0 (by omega)
      simpa [Addr.add] using World.cell?_spot hz
    subst hspot
    have hadd : ∀ i t, ((⟨b, off, none⟩ : Addr).add i).add t = ⟨b, off + (i + t), none⟩ := by
      intro i t
      have h1 : ∀ (o j : Nat), (⟨b, o, none⟩ : Addr).add j = ⟨b, o + j, none⟩ := fun o j => by unfold Addr.add; split <;> simp_all
      rw [h1, h1, Nat.add_assoc]
    have cell : ∀ j, j < size * l → W.cell? ⟨b, off + j, none⟩ = some (.int .i64 (numOfCell W ⟨b, off + j, none⟩)) ∧ (Lit.int .i64 (numOfCell W ⟨b, off + j, none⟩)).wf = true := by
      intro j hj
      obtain ⟨z, hz, hw⟩ := key (j / size) (Nat.div_lt_of_lt_mul hj) (j % size) (Nat.mod_lt _ h0)
      rw [hadd, Nat.mul_comm (j / size) size, Nat.div_add_mod] at hz
      have hn : numOfCell W ⟨b, off + j, none⟩ = z := by unfold numOfCell; rw [hz]
      rw [hn]
      exact ⟨hz, hw⟩
    refine ⟨_, _, _, (List.range (size * l)).map (fun j => numOfCell W ⟨b, off + j, none⟩), rfl, ⟨by simp, ?_, ?_⟩, hl, hm, by simp, hdat⟩
    · intro u hu
      simp only [List.mem_map, List.mem_range] at hu
      obtain ⟨j, hj, rfl⟩ := hu
      exact (cell j hj).2
    · intro j hj
      have hcj := (cell j hj).1
      refine ⟨b, off, rfl, ?_, ?_⟩
      · unfold World.cell? at hcj
        by_cases hbl : b < W.heap.size
        · exact hbl
        · simp [Array.getElem?_eq_none (show W.heap.size ≤ b by omega)] at hcj
      · rw [hcj]
        simp [List.getD_eq_getElem?_getD, hj]
set_option maxRecDepth 20000 in
theorem open_Records {r : Reach} {b0 : Nat} {v : Value} {d : DataW H} {p : List MemPlace} (hv : Value.okWide Tryz.prog W r b0 37 v) (h : DataW.Trod enc Tryz.prog W 0 (fun _ => true) true 37 v d p) :
    ∃ a len cap D, v = .slice a len cap ∧ RowK .i64 W a (10 * len) D ∧ len ≤ cap ∧ cap ≤ maxLen ∧ (a = none → cap = 0) ∧ ((d = .nil ∧ cap = 0) ∨ ∃ es sp, d = .slice es sp ∧ es.length + sp.length = cap) := by
  obtain ⟨a, len, cap, rfl⟩ := okWide_slice Tryz.underlying37 hv
  obtain ⟨fuel, hf⟩ := h
  obtain ⟨a', len', cap', D, hcs, r1⟩ := open_many Tryz.underlying37 cells_recM (by decide) ints_recM hf
  simp [Value.cells] at hcs
  obtain ⟨rfl, rfl, rfl⟩ := hcs
  exact ⟨_, _, _, D, rfl, r1⟩
end
theorem recs_of : ∀ (n : Nat) (D : List Int), D.length = 10 * n → ∃ rs : List Rec, rs.length = n ∧ recFlat rs = D
  | 0, D, h => ⟨[], rfl, (List.length_eq_zero_iff.1 (by omega)).symm⟩
  | n + 1, D, h => by
    match D, h with
    | [], h => simp at h
    | [_], h => simp at h; omega
    | [_, _], h => simp at h; omega
    | [_, _, _], h => simp at h; omega
    | [_, _, _, _], h => simp at h; omega
    | [_, _, _, _, _], h => simp at h; omega
    | [_, _, _, _, _, _], h => simp at h; omega
    | [_, _, _, _, _, _, _], h => simp at h; omega
    | [_, _, _, _, _, _, _, _], h => simp at h; omega
    | [_, _, _, _, _, _, _, _, _], h => simp at h; omega
    | a :: b :: c :: d :: e :: f :: g :: i :: j :: k :: D, h =>
      obtain ⟨rs, h1, h2⟩ := recs_of n D (by simp at h; omega)
      exact ⟨⟨a, b, c, d, ⟨e, f, g, i, j, k⟩⟩ :: rs, by simp [h1], by rw [← h2]; rfl⟩
end Go.Proofs.YtcdopnkabbfooaaGreat

namespace Go.Proofs.YtcdopnkabbfooaaGreat
open Go.RowKit

theorem apply_zero {B D : Bt} {r : Rec} (h : applyOf B r = (D, 0)) : D.Ok := by
  by_cases ok : B.Ok
  · by_cases hf : r.fault = 0
    · cases hd : deedOf B r with
      | none => rw [apply_none ok hf hd] at h; exact absurd (Prod.mk.inj h).2 (by decide)
      | some E =>
        by_cases hE : E.Ok
        · rw [apply_good ok hf hd hE] at h
          rw [← (Prod.mk.inj h).1]; exact hE
        · rw [apply_bad ok hf hd hE] at h; exact absurd (Prod.mk.inj h).2 (by decide)
    · rw [apply_fault ok hf] at h; exact absurd (Prod.mk.inj h).2 hf
  · rw [apply_state ok] at h; exact absurd (Prod.mk.inj h).2 (by decide)
theorem reb_ok : ∀ (l : List Rec) (S S' : List Bt) (i j : Nat) (e : Int), (∀ B ∈ S, B.Ok) → rebS S i l = (some S', j, e) → ∀ B ∈ S', B.Ok
  | [], S, S', i, j, e, h, g => by
    unfold rebS at g
    have := (Prod.mk.inj g).1
    cases this
    exact h
  | r :: l, S, S', i, j, e, h, g => by
    unfold rebS at g
    split at g
    · have := (Prod.mk.inj g).1
      cases this
    · obtain ⟨D, er, hDe⟩ : ∃ D er, applyOf (At S r) r = (D, er) := ⟨_, _, rfl⟩
      rw [hDe] at g
      dsimp only at g
      by_cases he : er = 0
      · rw [if_pos he] at g
        refine reb_ok l (put S r D) S' _ _ _ ?_ g
        intro B hB
        unfold put at hB
        rcases List.mem_or_eq_of_mem_set hB with h1 | h1
        · exact h B h1
        · rw [h1]; rw [he] at hDe; exact apply_zero hDe
      · rw [if_neg he] at g
        have := (Prod.mk.inj g).1
        cases this
set_option maxRecDepth 20000 in
set_option maxHeartbeats 8000000 in
theorem walkA_RebuildAlls (HAp : ∀ (B : Bt) (a : Option Addr) (c : Nat) (r : Rec) (u : World), BIn u B a c → (∀ z ∈ evFlat [r.v], (Lit.int .i64 z).wf = true) → Calls Tryz.prog 12 #[bVal B.r B.e B.f B.t B.o a B.es.length c, recIn r] u fun x w' => ∃ a c, x = .returned (.tuple #[bVal (applyOf B r).1.r (applyOf B r).1.e (applyOf B r).1.f (applyOf B r).1.t (applyOf B r).1.o a (applyOf B r).1.es.length c, .int .i64 (applyOf B r).2]) ∧ BIn w' (applyOf B r).1 a c ∧ Below u.heap.size u w') (w : World) (a : Option Addr) (len cap : Nat) (D : List Int) (h : RowK .i64 w a (10 * len) D) (_ : len ≤ cap) (hnil : a = none → cap = 0) (hs : cap * 80 ≤ 140737488351232) :
    Calls Tryz.prog 4 #[.slice a len cap] w fun x w' => x = .returned (.bool true) ∧ Below w.heap.size w w' := by
  obtain ⟨rs, hrl, hrf⟩ := recs_of len D h.len_eq
  subst hrf
  have H1 := lawRecords_any a len cap (recFlat rs) w h hnil (by omega)
  have H2 : Hid (∀ v u, u.ownsRow w.heap.size 30 10 v len ((recFlat rs).map (Value.int .i64)) → Below w.heap.size w u → ∃ a' c', v = .slice a' len c' ∧ (Calls Tryz.prog 15 #[v] u fun x w' => AllOut u w' (rebS (bts zeroF) 0 rs) x ∧ Below u.heap.size u w') ∧ Hid (∀ u', Below u.heap.size u u' → Calls Tryz.prog 18 #[v, .slice a len cap] u' fun x w' => x = .returned (.bool true) ∧ Below u'.heap.size u' w')) := veil fun v u o b => by
    obtain ⟨a', c', rfl, r, hc, _⟩ := RowK.ofMany o h.wf
    subst hrl
    exact ⟨a', c', rfl, all_any rs a' c' u r hc (by omega), veil fun u' b' => sameRecs_yes a' a c' cap rs u' (r.below b') (h.below (Below.next b b')) (by omega)⟩
  have H3 : Hid (∀ u, Below w.heap.size w u → Calls Tryz.prog 16 #[.slice a len cap] u fun x w' => RebR w' (rebS (bts zeroF) 0 rs) x ∧ Below u.heap.size u w') := veil fun u b => by
    subst hrl
    exact rebuilt_any HAp rs a cap u (h.below b) (by omega)
  have HOk : Hid (∀ S p e, rebS (bts zeroF) 0 rs = (some S, p, e) → ∀ B ∈ S, B.Ok) := veil fun S p e h => reb_ok rs _ S 0 p e zeroF_ok h
  clear h HAp hrl
  generalize rebS (bts zeroF) 0 rs = o at *
  obtain ⟨S, p, e⟩ := o
  cases S with
  | none =>
    have HSB : Hid (∀ u, Calls Tryz.prog 17 #[.slice none 0 0, .slice none 0 0] u fun x w' => x = .returned (.bool true) ∧ Below u.heap.size u w') := veil sameBerths_none
    go_enter Tryz.func4, Tryz.ntmps4
    go_upto_region 3 with (first
      | (go_at_call 14; refine H1.mono ?_; rintro x V1 ⟨v, rfl, o1, b1⟩; obtain ⟨a1, c1, rfl, HA, HQ⟩ := unveil H2 v V1 o1 b1; clear H1 H2 o1)
      | (go_at_call 15; refine HA.mono ?_; rintro x V2 ⟨⟨r2, _⟩, b2⟩; obtain rfl := r2 rfl; clear HA r2))
    have HB := veil (Below.next b1 b2)
    have HQ2 : Hid (∀ u', Below V2.heap.size V2 u' → Calls Tryz.prog 18 #[.slice a1 len c1, .slice a len cap] u' fun x w' => x = .returned (.bool true) ∧ Below u'.heap.size u' w') := veil fun u' b => unveil HQ u' (Below.next b2 b)
    have H4 := unveil H3 V2 (unveil HB)
    clear H3 b1 b2 HQ
    go_wp2_with (first
      | (go_at_call 16; refine H4.mono ?_; rintro x V3 ⟨⟨r3, _⟩, b3⟩; obtain rfl := r3 rfl; clear H4 r3; have H5 := unveil HSB V3; clear HSB)
      | (go_at_call 17; refine H5.mono ?_; rintro x V4 ⟨rfl, b4⟩; clear H5; have H6 := unveil HQ2 V4 (Below.next b3 b4); clear HQ2)
      | (go_at_call 18; refine H6.mono ?_; rintro x V5 ⟨rfl, b5⟩; clear H6))
    go_ret
    exact ⟨by simp, Below.next (Below.next (Below.next (unveil HB) b3) b4) b5⟩
  | some S =>
    go_enter Tryz.func4, Tryz.ntmps4
    go_upto_region 3 with (first
      | (go_at_call 14; refine H1.mono ?_; rintro x V1 ⟨v, rfl, o1, b1⟩; obtain ⟨a1, c1, rfl, HA, HQ⟩ := unveil H2 v V1 o1 b1; clear H1 H2 o1)
      | (go_at_call 15; refine HA.mono ?_; rintro x V2 ⟨⟨_, r2⟩, b2⟩; obtain ⟨Y, f, A, K, rfl, hp, he, hS, fb, _⟩ := r2 S rfl; clear HA r2))
    have HB := veil (Below.next b1 b2)
    have HQ2 : Hid (∀ u', Below V2.heap.size V2 u' → Calls Tryz.prog 18 #[.slice a1 len c1, .slice a len cap] u' fun x w' => x = .returned (.bool true) ∧ Below u'.heap.size u' w') := veil fun u' b => unveil HQ u' (Below.next b2 b)
    have H4 := unveil H3 V2 (unveil HB)
    have HFb := veil fb
    have HS := veil hS
    clear H3 b1 b2 HQ hp he hS fb
    have HSB : Hid (∀ u O c f' A' K', Below V2.heap.size V2 u → S = bts f' → Bts u O f' A' K' → Calls Tryz.prog 17 #[.slice (some ⟨Y, 0, none⟩) 4 4, .slice (some ⟨O, 0, none⟩) 4 c] u fun x w' => x = .returned (.bool true) ∧ Below u.heap.size u w') := veil fun u O c f' A' K' bu e2 bt => by
      have ef : ∀ q, q < 4 → f' q = f q := fun q hq => by rw [← bts_get4 f' q hq, ← bts_get4 f q hq, ← e2, ← unveil HS]
      have bt' : Bts u O f A' K' := ⟨bt.lt, fun q hq => by rw [← ef q hq]; exact bt.six q hq, fun q hq => by rw [← ef q hq]; exact bt.bin q hq⟩
      exact sameBerths_yes Y O 4 c f A A' K K' u ((unveil HFb).bts.next bu) bt' (fun q hq => by have h1 := (bts_all f Bt.Ok).1 (by rw [← unveil HS]; exact unveil HOk S p e rfl) q hq; have := h1.len; omega)
    go_wp2_with (first
      | (go_at_call 16; refine H4.mono ?_; rintro x V3 ⟨⟨_, r3⟩, b3⟩; obtain ⟨O, cO, f', A', K', rfl, _, _, hS3, bt⟩ := r3 S rfl; clear H4 r3; have H5 := unveil HSB V3 O cO f' A' K' b3 hS3 bt; clear HSB hS3 bt)
      | (go_at_call 17; refine H5.mono ?_; rintro x V4 ⟨rfl, b4⟩; clear H5; have H6 := unveil HQ2 V4 (Below.next b3 b4); clear HQ2)
      | (go_at_call 18; refine H6.mono ?_; rintro x V5 ⟨rfl, b5⟩; clear H6))
    go_ret
    exact ⟨by simp, Below.next (Below.next (Below.next (unveil HB) b3) b4) b5⟩
end Go.Proofs.YtcdopnkabbfooaaGreat
