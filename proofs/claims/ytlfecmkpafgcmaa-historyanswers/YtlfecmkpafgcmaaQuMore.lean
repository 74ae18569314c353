/- Texts put together: QuW, QuX, QuY. -/
import Derived.Test.YtlfecmkpafgcmaaQuV
import Derived.Deep.RegionLaw
import Derived.Test.YtlfecmkpafgcmaaQuM
import Derived.Deep.QuietTactic
namespace Go.Proofs.Ytlfecmkpafgcmaa
open Go.RowKit

theorem run_clear_one4 (w : World) (b o c : Nat) (ty : TypeId) (hc : ∀ j, j < 4 → (w.cell? ⟨b, o + j, none⟩).isSome = true) (hf : ∀ j, j < 4 → w.frozen? ⟨b, o + j, none⟩ = false) :
    (Builtin.clear_ #[32] ty #[.slice (some ⟨b, o, none⟩) 1 c]).run Try.prog w = .ok (.tuple #[]) (w.setCells b o [.int .i64 0, .int .i64 0, .int .i64 0, .int .i64 0]) := by
  have hst := run_storeCells_cells (P := Try.prog) b o [.int .i64 0, .int .i64 0, .int .i64 0, .int .i64 0] 0 w (by simpa using hc) (by simpa using hf) (by simp [Value.oneCell'])
  simp only [Nat.add_zero] at hst
  simp [Builtin.clear_, run_underlying Try.underlying32, Try.zeroValue86, Builtin.zeroCells, Value.cells]
  rw [show (List.map (fun i => ([Value.int IntKind.i64 0, Value.int IntKind.i64 0, Value.int IntKind.i64 0, Value.int IntKind.i64 0] : List Value)[i % 4]?.getD default) (List.range 4)) = [Value.int IntKind.i64 0, Value.int IntKind.i64 0, Value.int IntKind.i64 0, Value.int IntKind.i64 0] from rfl, hst]
  rfl
theorem cut_at (L : List Int) (k j : Nat) : (L.take (4 * k) ++ L.drop (4 * k + 4)).getD j 0 = if j < 4 * k ∧ j < L.length then L.getD j 0 else if 4 * k ≤ L.length then L.getD (j + 4) 0 else 0 := by
  simp only [List.getD_eq_getElem?_getD]
  rcases Nat.lt_or_ge j (4 * k) with h | h
  · rcases Nat.lt_or_ge j L.length with h2 | h2
    · rw [if_pos ⟨h, h2⟩, List.getElem?_append_left (by simp; omega), List.getElem?_take_of_lt h]
    · rw [if_neg (by omega), if_neg (by omega), List.getElem?_eq_none (by simp; omega)]
      rfl
  · rw [if_neg (by omega)]
    rcases Nat.lt_or_ge L.length (4 * k) with h2 | h2
    · rw [if_neg (by omega), List.getElem?_eq_none (by simp; omega)]
      rfl
    · rw [if_pos h2, List.getElem?_append_right (by simp; omega), List.getElem?_drop]
      congr 2
      simp
      omega

set_option maxRecDepth 20000 in
set_option maxHeartbeats 4000000 in
theorem delete_one {w : World} {base g ln c : Nat} {L : List Int} (k : Nat) (h : w.ownsRow base 86 4 (.slice (some ⟨g, 0, none⟩) ln c) ln (L.map (Value.int .i64))) (hk : k < ln) :
    Calls Try.prog 79 #[.slice (some ⟨g, 0, none⟩) ln c, .int .i64 k, .int .i64 (k + 1)] w fun e w' => e = .returned (.slice (some ⟨g, 0, none⟩) (ln - 1) c) ∧ Turned g w w' ∧ ∀ j, j < 4 * (ln - 1) → w'.cell? ⟨g, j, none⟩ = some (.int .i64 ((L.take (4 * k) ++ L.drop (4 * k + 4)).getD j 0)) := by
  obtain ⟨i2, hi2, hz20, hz21, hz22⟩ := info_of Try.infoLease
  have hcells := h.cells (g := g) rfl
  have hlen : L.length = ln * 4 := by have := h.1; simpa using this
  rcases h.2 with ⟨h0, _⟩ | ⟨g', cap, cur, e, _, hg, hc, hm, hs, ht⟩
  · cases h0
  cases e
  have cell : ∀ j, j < ln * 4 → w.cell? ⟨g, j, none⟩ = some (.int .i64 (L.getD j 0)) := fun j hj => by
    have := hcells j (.int .i64 (L.getD j 0)) (by simp [List.getElem?_eq_getElem (show j < L.length by omega)])
    simpa [Addr.add_mid] using this
  have free : ∀ o, w.frozen? ⟨g, o, none⟩ = false := fun o => by simp [World.frozen?, hg]
  unfold maxLen at hm
  obtain ⟨news, hnews⟩ : ∃ news, news = (L.drop (4 * k + 4)).map (Value.int .i64) := ⟨_, rfl⟩
  have hnl : news.length = (ln - (k + 1)) * 4 := by rw [hnews]; simp; omega
  have hget : ∀ t, t < (ln - (k + 1)) * 4 → news[t]? = some (.int .i64 (L.getD (4 * k + 4 + t) 0)) := fun t ht => by
    rw [hnews]; simp [List.getElem?_eq_getElem (show 4 * k + 4 + t < L.length by omega)]
  obtain ⟨m, hmk⟩ : ∃ m, m = k + 1 := ⟨_, rfl⟩
  have hmi : (k : Int) + 1 = (m : Int) := by omega
  rw [hmi]
  rw [← hmk] at hnl hget
  obtain ⟨A, hA, hsrc⟩ : ∃ A : Addr, (if c = m then some (⟨g, 0, none⟩ : Addr) else some ⟨g, m * 4, none⟩) = some A ∧ Hid (∀ t u, news[t]? = some u → w.drew.cell? (A.add t) = some u) := by
    by_cases hh : c = m
    · refine ⟨⟨g, 0, none⟩, by simp [hh], veil fun t u hu => ?_⟩
      have h0 : news.length = 0 := by rw [hnl]; omega
      rw [List.length_eq_zero_iff.1 h0] at hu
      simp at hu
    · refine ⟨⟨g, m * 4, none⟩, by simp [hh], veil fun t u hu => ?_⟩
      have ht : t < (ln - m) * 4 := by
        have := (List.getElem?_eq_some_iff.1 hu).1
        rwa [hnl] at this
      rw [hget t ht] at hu
      cases hu
      rw [Addr.add_mid, show m * 4 + t = 4 * k + 4 + t by omega]
      exact cell (4 * k + 4 + t) (by omega)
  have s2 : Hid (∀ u ∈ news, u.oneCell' = true) := veil (by
    intro u hu
    rw [hnews] at hu
    obtain ⟨x, _, rfl⟩ := List.mem_map.1 hu
    rfl)
  have s3 : Hid (∀ t, t < news.length → (w.drew.cell? ⟨g, 0 + k * 4 + t, none⟩).isSome = true ∧ w.drew.frozen? ⟨g, 0 + k * 4 + t, none⟩ = false) := veil (by
    intro t ht
    rw [hnl] at ht
    exact ⟨by show (w.cell? _).isSome = true; rw [Nat.zero_add, cell _ (by omega)]; rfl, free _⟩)
  have s1 : Hid (news.length = (ln - m) * 4) := veil hnl
  obtain ⟨W1, hW1⟩ : ∃ W1, W1 = w.drew.setCells g (0 + k * 4) news := ⟨_, rfl⟩
  have HW1 : Hid (W1 = w.drew.setCells g (0 + k * 4) news) := veil hW1
  have T1 : Turned g w W1 := by rw [hW1]; exact (turned_drew g w).trans (Turned.sets g _ _ _)
  have inn : ∀ t, t < news.length → W1.cell? ⟨g, k * 4 + t, none⟩ = news[t]? := fun t ht => by
    rw [hW1, Nat.zero_add]
    have := World.cell?_setCells_in g news (k * 4) w.drew (fun j hj => by have := (unveil s3 j hj).1; rwa [Nat.zero_add] at this) t ht
    rw [this, List.getElem?_eq_getElem ht]
  have out : ∀ o, o < k * 4 ∨ k * 4 + news.length ≤ o → W1.cell? ⟨g, o, none⟩ = w.cell? ⟨g, o, none⟩ := fun o ho => by
    rw [hW1, Nat.zero_add]
    exact World.cell?_setCells_out g news (k * 4) w.drew ⟨g, o, none⟩ (fun _ _ => by simpa using ho)
  have f1 : ∀ o, W1.frozen? ⟨g, o, none⟩ = false := fun o => by rw [hW1, World.frozen?_setCells]; exact free o
  have ne : k + (ln - m) = ln - 1 := by omega
  have hcl : ∀ ty, (Builtin.clear_ #[32] ty #[.slice (some ⟨g, (ln - 1) * 4, none⟩) (ln - (ln - 1)) (c - (ln - 1))]).run Try.prog W1 = .ok (.tuple #[]) (W1.setCells g ((ln - 1) * 4) [.int .i64 0, .int .i64 0, .int .i64 0, .int .i64 0]) :=
    fun ty => by
      rw [show ln - (ln - 1) = 1 by omega]
      exact run_clear_one4 W1 g ((ln - 1) * 4) _ ty (fun j hj => by rw [out _ (by rw [hnl]; omega), cell _ (by omega)]; rfl) (fun j _ => f1 _)
  have HF : Hid (Turned g w (W1.setCells g ((ln - 1) * 4) [.int .i64 0, .int .i64 0, .int .i64 0, .int .i64 0]) ∧ ∀ j, j < 4 * (ln - 1) → (W1.setCells g ((ln - 1) * 4) [.int .i64 0, .int .i64 0, .int .i64 0, .int .i64 0]).cell? ⟨g, j, none⟩ = some (.int .i64 ((L.take (4 * k) ++ L.drop (4 * k + 4)).getD j 0))) := veil (by
    refine ⟨T1.trans (Turned.sets g _ _ _), fun j hj => ?_⟩
    rw [World.cell?_setCells_out g _ _ W1 ⟨g, j, none⟩ (fun _ _ => Or.inl (by show j < _; omega)), cut_at]
    rcases Nat.lt_or_ge j (4 * k) with h1 | h1
    · rw [if_pos ⟨h1, by omega⟩, out j (by omega)]
      exact cell j (by omega)
    · rw [if_neg (by omega), if_pos (by omega)]
      have := inn (j - k * 4) (by rw [hnl]; omega)
      rw [show k * 4 + (j - k * 4) = j by omega] at this
      rw [this, hget _ (by omega), show 4 * k + 4 + (j - k * 4) = j + 4 by omega])
  have hic : k ≤ c := by omega
  have hjc : m ≤ c := by omega
  have hjl : m ≤ ln := by omega
  have hkm : k < m := by omega
  have hkm' : ¬ k = m := by omega
  have Hmk := veil hmk
  clear hmk hmi hW1 T1 inn out f1 hget hnews hnl cell free hcells hs ht hlen h hg
  go_enter Try.func79, Try.ntmps79
  go_wp2_with fail
  go_region_law (refine step_append_room rfl (.tmp 22) (.tmp 25) 32 rfl 86 i2 4 Try.underlying32 hi2 hz21 g 0 k c (by simp [Act.eval, Act.put]) A (ln - m) (c - m) news (by simp [Act.eval, Act.put]) (unveil s1) (unveil hsrc) (unveil s2) (by omega) (unveil s3) ?_; rw [← unveil HW1, ne])
  all_goals go_wp2
  go_ret
  exact ⟨rfl, unveil HF⟩
end Go.Proofs.Ytlfecmkpafgcmaa

namespace Go.Proofs.Ytlfecmkpafgcmaa
open Go.RowKit Go.Lib

theorem ret_ack {W : World} {R : Nat} {c he no bd : Int} {b : Bool} {tmps : Array Value} (h : ansBlock W R c he no bd) (t : tmps[4]? = some (.pointer (some ⟨R, 0, none⟩))) (tb : tmps[5]? = some (.bool b)) :
    (results Try.f60 tmps).run Try.prog W = .ok (.tuple #[ansVal c he no bd, .bool b]) W := by
  obtain ⟨k0, k1, k2, k3⟩ := h.cells
  simp [results, Try.results60, go_sem, k0, k1, k2, k3, t, tb]
/-- a lease's four numbers. -/
abbrev Quad := Int × Int × Int × Int
abbrev encQ (x : Quad) : List Value := [.int .i64 x.1, .int .i64 x.2.1, .int .i64 x.2.2.1, .int .i64 x.2.2.2]
def quadAt (L : List Int) (j : Nat) : Quad := (L.getD (4 * j) 0, L.getD (4 * j + 1) 0, L.getD (4 * j + 2) 0, L.getD (4 * j + 3) 0)
def quadsOf (L : List Int) (n : Nat) : List Quad := (List.range n).map (quadAt L)
theorem quadsOf_len (L : List Int) (n : Nat) : (quadsOf L n).length = n := by simp [quadsOf]
theorem quadsOf_at (L : List Int) (n j : Nat) (h : j < n) : (quadsOf L n)[j]! = quadAt L j := by
  simp [quadsOf, h]
/-- is it the handle? -/
def isHandle (he hn : Int) (x : Quad) : Bool := x.1 == he && x.2.1 == hn

set_option maxRecDepth 20000 in
set_option maxHeartbeats 2000000 in
theorem ackPred {w : World} {E : Nat} {k p i b he hn : Int} (hE : w.heap[E]? = some (.cells #[.int .i64 k, .int .i64 p, .int .i64 i, .int .i64 b, .int .i64 he, .int .i64 hn] 61 (0, 0))) :
    PredBelow Try.prog 78 #[.pointer (some ⟨E, 0, none⟩)] (fun x : Quad => .agg (encQ x).toArray) (isHandle he hn) w := by
  rintro W ⟨x0, x1, x2, x3⟩ hb
  have e1 : W.heap[E]? = _ := (hb.block E (block_lt hE)).trans hE
  have hl := block_lt e1
  have k4 : W.cell? ⟨E, 4, none⟩ = some (.int .i64 he) := by simp [World.cell?, e1]
  have k5 : W.cell? ⟨E, 5, none⟩ = some (.int .i64 hn) := by simp [World.cell?, e1]
  have hn1 : E ≠ W.heap.size := by omega
  clear hE e1
  show Calls Try.prog 78 #[.agg #[.int .i64 x0, .int .i64 x1, .int .i64 x2, .int .i64 x3], .pointer (some ⟨E, 0, none⟩)] W _
  go_enter Try.func78, Try.ntmps78
  go_wp2
  all_goals (go_ret; exact ⟨by simp_all [isHandle], hb.alloc hb.size _⟩)
theorem index_none (fv : Value) (w : World) : Calls Try.prog 77 #[.slice none 0 0, fv] w fun e w' => e = .returned (.int .i64 (-1)) ∧ w' = w := by
  go_enter Try.func77, Try.ntmps77
  go_wp2
  go_loopw [5, 8] (fun _ s8 wr => s8 = .int .i64 0 ∧ wr = w) (fun _ _ _ => 0)
  case atStart => exact ⟨rfl, rfl⟩
  case round =>
    obtain ⟨rfl, rfl⟩ := hrel
    go_wp2
    go_ret
    exact ⟨rfl, rfl⟩
/-- where the lease with a handle lies, or -1. -/
def ackAt (he hn : Int) (L : List Int) (ln : Nat) : Int := Lib.idxBy (fun _ y => isHandle he hn y) ((quadsOf L ln).take ln) default
theorem index_any {W : World} {base E ln c2 : Nat} {a2 : Option Addr} {L : List Int} {k p i b he hn : Int} (hE : W.heap[E]? = some (.cells #[.int .i64 k, .int .i64 p, .int .i64 i, .int .i64 b, .int .i64 he, .int .i64 hn] 61 (0, 0)))
    (ow : W.ownsRow base 86 4 (.slice a2 ln c2) ln (L.map (Value.int .i64))) (hl : ln ≤ 500) :
    Calls Try.prog 77 #[.slice a2 ln c2, .func (.func 78) #[] #[.pointer (some ⟨E, 0, none⟩)]] W fun e w' => e = .returned (.int .i64 (ackAt he hn L ln)) ∧ Below W.heap.size W w' := by
  have hcells : ∀ g, _ → _ := fun g h => ow.cells (g := g) h
  have hlen : L.length = ln * 4 := by have := ow.1; simpa using this
  rcases ow.2 with ⟨h0, h1⟩ | ⟨g, cap, cur, e, _, hg, _⟩
  · subst h1
    cases h0
    refine (index_none _ W).mono ?_
    rintro e w' ⟨rfl, rfl⟩
    exact ⟨by simp [ackAt, quadsOf, Lib.idxBy, Lib.idxByFrom], Below.refl _ _⟩
  · cases e
    have eg : ∀ args w, (callFunc 78 args).run Try.prog w = .ok (.enter 78 args) w := enters_of Try.func78 (by kernel_rfl) rfl
    have cell : ∀ j, j < ln * 4 → W.cell? ⟨g, j, none⟩ = some (.int .i64 (L.getD j 0)) := fun j hj => by
      have := hcells g rfl j (.int .i64 (L.getD j 0)) (by simp [List.getElem?_eq_getElem (show j < L.length by omega)])
      simpa [Addr.add_mid] using this
    exact AnyQ.slices_IndexFunc Try.laysIndex 4 Try.isAgg86 Try.sizeOf86 encQ (fun _ => rfl) (isHandle he hn) 78 #[.pointer (some ⟨E, 0, none⟩)] eg g 0 ln c2 (quadsOf L ln) W (ackPred hE) (by rw [quadsOf_len]; exact Nat.le_refl _) (by omega) (block_lt hg) (fun j hj i v hi => by
      rw [quadsOf_len] at hj
      rw [quadsOf_at L ln j hj] at hi
      rw [Nat.zero_add]
      match i, hi with
      | 0, hi => simp [encQ, quadAt] at hi; rw [← hi, cell _ (by omega)]; simp [Nat.mul_comm]
      | 1, hi => simp [encQ, quadAt] at hi; rw [← hi, cell _ (by omega)]; simp [Nat.mul_comm]
      | 2, hi => simp [encQ, quadAt] at hi; rw [← hi, cell _ (by omega)]; simp [Nat.mul_comm]
      | 3, hi => simp [encQ, quadAt] at hi; rw [← hi, cell _ (by omega)]; simp [Nat.mul_comm]
      | i + 4, hi => simp [encQ] at hi)
/-- a desk of which a lease was taken out. -/
structure Dl (w wx : World) (base B : Nat) (ep nx gv : Int) (a1 : Option Addr) (rn c1 : Nat) (R : List Int) (g ln c2 : Nat) (L : List Int) (ws : Nat → Value) (A : Nat) : Prop where
  d : dBlock wx B ep nx gv (.slice a1 rn c1) (.slice (some ⟨g, 0, none⟩) ln c2) ws
  o1 : wx.ownsRow base 84 2 (.slice a1 rn c1) rn (R.map (Value.int .i64))
  row : RowK .i64 wx (some ⟨g, 0, none⟩) (4 * ln) L
  off : g ≠ A
  le : ln ≤ c2
  a : ansBlock wx A 0 0 0 0
  bel : Below base w wx
  up : base ≤ B
  low : base ≤ g
section
variable {w wx wy : World} {base B g : Nat} {ep nx gv : Int} {a1 : Option Addr} {rn ln c1 c2 : Nat} {R L L' : List Int} {ws : Nat → Value} {A : Nat} {wt : Nat → Int} {wz : Nat → Nat → Bool}
/-- a lease taken out. -/
theorem Pc.deleted (C : Pc w wx base B ep nx gv a1 rn c1 R (some ⟨g, 0, none⟩) ln c2 L ws A) (t : Turned g wx wy) (hl : L'.length = 4 * (ln - 1)) (hc : ∀ j, j < 4 * (ln - 1) → wy.cell? ⟨g, j, none⟩ = some (.int .i64 (L'.getD j 0)))
    (wL : ∀ u ∈ L', (Lit.int .i64 u).wf = true) :
    dBlock wy B ep nx gv (.slice a1 rn c1) (.slice (some ⟨g, 0, none⟩) ln c2) ws ∧ Dl w (wy.setCell ⟨B, 4, none⟩ (.slice (some ⟨g, 0, none⟩) (ln - 1) c2)) base B ep nx gv a1 rn c1 R g (ln - 1) c2 L' ws A := by
  have gB : g ≠ B := own_off C.o2 C.d (by decide) g rfl
  have gA : g ≠ A := own_off C.o2 C.a (by decide) g rfl
  have nA : A ≠ B := types_apart C.a C.d (by decide)
  have hg := C.o2.lt g rfl
  have dy : dBlock wy B ep nx gv (.slice a1 rn c1) (.slice (some ⟨g, 0, none⟩) ln c2) ws := C.d.turned t (fun e => gB e.symm)
  have ay : ansBlock wy A 0 0 0 0 := C.a.turned t (fun e => gA e.symm)
  have o1y := t.owns C.o1 (fun q hq e => own_apart C.o1 C.o2 (by decide) q hq (by rw [e]; rfl))
  have T2 := Turned.set B 4 wy (.slice (some ⟨g, 0, none⟩) (ln - 1) c2)
  have lc : ln ≤ c2 := by
    rcases C.o2.2 with ⟨h, _⟩ | ⟨g', cap, cur, e, _, _, h, _⟩
    · cases h
    · cases e; exact h
  refine ⟨dy, dy.leases _, T2.owns o1y (own_off o1y dy (by decide)), ?_, gA, by omega, ay.turned T2 nA, T2.under (t.under C.bel hg.1) C.up, C.up, hg.1⟩
  generalize wy.setCell ⟨B, 4, none⟩ (.slice (some ⟨g, 0, none⟩) (ln - 1) c2) = wv at T2 ⊢
  refine ⟨hl, wL, fun j hj => ⟨g, 0, rfl, by rw [T2.size, t.size]; exact hg.2, ?_⟩⟩
  rw [Nat.zero_add, ← hc j hj]
  exact World.cell?_of_block (T2.block g gB)
theorem Dl.turn (C : Dl w wx base B ep nx gv a1 rn c1 R g ln c2 L ws A) (T : Turned A wx wy) (wR : ∀ u ∈ R, (Lit.int .i64 u).wf = true) (hW : Wins ws wt wz) (hA : base ≤ A) : DeskOut wy base B ep nx gv rn R ln L wt wz ∧ Below base w wy := by
  have nA : A ≠ B := types_apart C.a C.d (by decide)
  have o1z := T.owns C.o1 (own_off C.o1 C.a (by decide))
  obtain ⟨_, _, e1, r1, l1, _, n1, x1⟩ := RowK.ofMany o1z wR
  cases e1
  refine ⟨⟨a1, c1, some ⟨g, 0, none⟩, c2, ws, C.d.turned T (fun e => nA e.symm), r1, T.row C.row (fun x hx _ => by cases hx; exact C.off), l1, C.le, n1, (by intro h; cases h), hW, x1, ?_⟩, T.under C.bel hA⟩
  intro x hx
  cases hx
  exact C.low
end
theorem ackAt_cases (he hn : Int) (L : List Int) (ln : Nat) : ackAt he hn L ln = -1 ∨ ∃ m : Nat, m < ln ∧ ackAt he hn L ln = m := by
  by_cases h : ∃ m, m < ln ∧ isHandle he hn (quadAt L m) = true
  · right
    have hP : ∃ m, m < ln ∧ isHandle he hn (quadAt L m) = true := h
    obtain ⟨m, ⟨hm, hh⟩, hmin⟩ : ∃ m, (m < ln ∧ isHandle he hn (quadAt L m) = true) ∧ ∀ j, j < m → ¬ (j < ln ∧ isHandle he hn (quadAt L j) = true) := by
      obtain ⟨m, hm⟩ := hP
      induction m using Nat.strongRecOn with
      | ind m ih =>
        by_cases hj : ∃ j, j < m ∧ (j < ln ∧ isHandle he hn (quadAt L j) = true)
        · obtain ⟨j, hj1, hj2⟩ := hj
          exact ih j hj1 hj2
        · exact ⟨m, hm, fun j hj1 hj2 => hj ⟨j, hj1, hj2⟩⟩
    refine ⟨m, hm, Lib.idxBy_hit _ (quadsOf L ln) ln m default hm (by rw [quadsOf_len]; exact Nat.le_refl _) (by show isHandle he hn (quadsOf L ln)[m]! = true; rw [quadsOf_at L ln m hm]; exact hh) (fun j hj => ?_)⟩
    show isHandle he hn (quadsOf L ln)[j]! = false
    rw [quadsOf_at L ln j (by omega)]
    have := hmin j hj
    simpa [show j < ln by omega] using this
  · left
    refine Lib.idxBy_miss _ (quadsOf L ln) ln default (fun j hj => ?_)
    show isHandle he hn (quadsOf L ln)[j]! = false
    rw [quadsOf_at L ln j hj]
    have : ¬ isHandle he hn (quadAt L j) = true := fun e => h ⟨j, hj, e⟩
    simpa using this
theorem cut_len (L : List Int) (m ln : Nat) (h : L.length = ln * 4) (hm : m < ln) : (L.take (4 * m) ++ L.drop (4 * m + 4)).length = 4 * (ln - 1) := by simp; omega
theorem cut_wf {L : List Int} (h : ∀ u ∈ L, (Lit.int .i64 u).wf = true) (a b : Nat) : ∀ u ∈ L.take a ++ L.drop b, (Lit.int .i64 u).wf = true := by
  intro u hu
  rcases List.mem_append.1 hu with hu | hu
  · exact h u (List.mem_of_mem_take hu)
  · exact h u (List.mem_of_mem_drop hu)
set_option maxRecDepth 20000 in
set_option maxHeartbeats 4000000 in
theorem ack_any (base B : Nat) (ep nx gv : Int) (a1 : Option Addr) (rn c1 : Nat) (a2 : Option Addr) (ln c2 : Nat) (R L : List Int) (ws : Nat → Value) (wt : Nat → Int) (wz : Nat → Nat → Bool) (k p i b he hn : Int) (w : World) (D : Desk w base B ep nx gv a1 rn c1 a2 ln c2 R L ws) (hW : Wins ws wt wz) (hbase : base ≤ w.heap.size) (hs : rn + ln ≤ 500)
    (Q : Value → World → Prop) (HS : Hid ((¬ he = ep) → ∀ w', Below w.heap.size w w' → Q (.tuple #[ansVal 11 0 0 0, .bool false]) w'))
    (HN : Hid (he = ep → ackAt he hn L ln = -1 → ∀ w', Below w.heap.size w w' → Q (.tuple #[ansVal 7 0 0 0, .bool false]) w'))
    (HY : Hid (he = ep → ∀ m : Nat, m < ln → ackAt he hn L ln = m → ∀ w', DeskOut w' base B ep nx gv rn R (ln - 1) (L.take (4 * m) ++ L.drop (4 * m + 4)) wt wz → Below base w w' → Q (.tuple #[ansVal 0 0 0 0, .bool true]) w')) :
    Calls Try.prog 60 #[.pointer (some ⟨B, 0, none⟩), evVal k p i b he hn] w fun e w' => ∃ v, e = .returned v ∧ Q v w' := by
  go_enter Try.func60, Try.ntmps60
  go_wp2_with fail
  obtain ⟨W2, hW2, z2, b2, s2, ev2⟩ := two_ev w k p i b he hn
  rw [← hW2]
  clear hW2
  have D2 := D.next b2
  obtain ⟨d0, d1, d2, d3, d4⟩ := D2.d.heads
  have v4 : W2.cell? ⟨w.heap.size, 4, none⟩ = some (.int .i64 he) := by simp [World.cell?, ev2]
  have v5 : W2.cell? ⟨w.heap.size, 5, none⟩ = some (.int .i64 hn) := by simp [World.cell?, ev2]
  have HZ2 := veil z2
  have HB2 := veil b2
  have HE2 := veil ev2
  have HD2 := veil D2
  clear D D2 z2 b2 s2 ev2
  by_cases hst : he = ep
  case neg =>
    go_quiet (fail)
    have HZC := veil ((unveil HZ2).next (belowN W2 nq))
    have HBC := veil (Below.next (unveil HB2) (belowN W2 nq))
    clear HZ2 HB2 HE2 HD2 d0 d1 d2 d3 d4 v4 v5
    go_wp2_with (go_at_call 76; refine (unchanged_any _ _).mono ?_; rintro e w1 ⟨rfl, b1⟩; have z1 := (unveil HZC).next b1; have b2 := Below.next (unveil HBC) b1; obtain ⟨y0, y1, y2, y3⟩ := z1.cells; have yf := z1.free; have HZ := veil z1; have HB := veil b2; clear b1 z1 b2)
    exact bodyPost_ret (ret_ack ((unveil HZ).store _ 0 0 0) rfl rfl) rfl ⟨_, rfl, unveil HS hst _ ((ans_turned w1 (w.heap.size + 1) _ 0 0 0).under (unveil HB) (Nat.le_succ _))⟩
  case pos =>
    subst hst
    go_quiet (fail)
    go_wp2_with fail
    have b3 : Below W2.heap.size W2 (W2.drewN nq) := belowN W2 nq
    have D3 := (unveil HD2).next b3
    have hBn := D3.d.lt
    refine (index_any (show (W2.drewN nq).heap[w.heap.size]? = _ from unveil HE2) D3.o2 (by omega)).mono ?_
    rintro e w4 ⟨rfl, b4⟩
    have D4 := D3.next b4
    have C4 : Pc w w4 base B he nx gv a1 rn c1 R a2 ln c2 L ws (w.heap.size + 1) :=
      ⟨D4.d, D4.o1, D4.o2, ((unveil HZ2).next b3).next b4, (Below.next (Below.next (unveil HB2) b3) b4).mono hbase, D4.up⟩
    have HB4 := veil (Below.next (Below.next (unveil HB2) b3) b4)
    have HZC := veil (((unveil HZ2).next b3).next b4)
    have HD4 := veil D4
    have hbw : base ≤ w4.heap.size := by have := D4.d.lt; have := D4.up; omega
    clear HZ2 HB2 HE2 HD2 d0 d1 d2 d3 d4 v4 v5 D3 D4 b3 b4 hBn
    rcases ackAt_cases he hn L ln with hk | ⟨m, hm, hk⟩
    case inl =>
      rw [hk]
      have HK := veil hk
      clear C4 hk
      go_wp2_with (go_at_call 76; refine (unchanged_any _ _).mono ?_; rintro e w1 ⟨rfl, b1⟩; have z1 := (unveil HZC).next b1; have b2 := Below.next (unveil HB4) b1; obtain ⟨y0, y1, y2, y3⟩ := z1.cells; have yf := z1.free; have HZ := veil z1; have HB := veil b2; clear b1 z1 b2)
      exact bodyPost_ret (ret_ack ((unveil HZ).store _ 0 0 0) rfl rfl) rfl ⟨_, rfl, unveil HN (by simp) (unveil HK) _ ((ans_turned w1 (w.heap.size + 1) _ 0 0 0).under (unveil HB) (Nat.le_succ _))⟩
    case inr =>
      rw [hk]
      have HK := veil hk
      clear hk HZC
      obtain ⟨d0, d1, d2, d3, d4⟩ := C4.d.heads
      have hmz : ¬ (m : Int) < 0 := by omega
      have hlen : L.length = ln * 4 := by have := C4.o2.1; simpa using this
      obtain ⟨g, hg⟩ : ∃ g, a2 = some ⟨g, 0, none⟩ := by
        rcases C4.o2.2 with ⟨_, h0⟩ | ⟨g, cap, cur, e, _⟩
        · omega
        · cases e; exact ⟨g, rfl⟩
      subst hg
      have HC4 := veil C4
      have wL := (unveil HD4).wL
      have HWR := veil (unveil HD4).wR
      clear C4
      go_wp2_with fail
      refine (delete_one m (unveil HC4).o2 hm).mono ?_
      rintro e w5 ⟨rfl, t5, c5⟩
      obtain ⟨y5, C5⟩ := (unveil HC4).deleted t5 (cut_len L m ln hlen hm) c5 (cut_wf wL _ _)
      obtain ⟨e0, e1, e2, e3, e4⟩ := y5.heads
      have ef := y5.free
      obtain ⟨u0, u1, u2, u3⟩ := C5.a.cells
      have uf := C5.a.free
      have HC5 := veil C5
      clear d0 d1 d2 d3 d4 t5 c5 y5 C5 HC4 wL HD4
      go_wp2
      obtain ⟨D9, B9⟩ := (unveil HC5).turn (ans_turned _ (w.heap.size + 1) 0 0 0 0) (unveil HWR) hW (by omega)
      exact bodyPost_ret (ret_ack ((unveil HC5).a.store 0 0 0 0) rfl rfl) rfl ⟨_, rfl, unveil HY (by simp) m hm (unveil HK) _ D9 B9⟩
end Go.Proofs.Ytlfecmkpafgcmaa

namespace Go.Proofs.Ytlfecmkpafgcmaa
open Go.RowKit Go.Lib Go.Sort

/-- a message's two numbers. -/
abbrev encP (x : Int × Int) : List Value := [.int .i64 x.1, .int .i64 x.2]
def pairAt (R : List Int) (i : Nat) : Int × Int := (R.getD (2 * i) 0, R.getD (2 * i + 1) 0)
def pairsOf (R : List Int) (n : Nat) : List (Int × Int) := (List.range n).map (pairAt R)
theorem pairsOf_len (R : List Int) (n : Nat) : (pairsOf R n).length = n := by simp [pairsOf]
/-- R' is R, sorted by the messages' Nos. -/
structure Ordered (R R' : List Int) (n : Nat) : Prop where
  len : R'.length = 2 * n
  perm : (pairsOf R' n).Perm (pairsOf R n)
  rise : ∀ i j, i < j → j < n → R'.getD (2 * i) 0 ≤ R'.getD (2 * j) 0
theorem ltNo (x y : Int × Int) : ltOf (fun x y : Int × Int => Lib.compareInt x.1 y.1) x y = decide (x.1 < y.1) := by
  unfold ltOf Lib.compareInt
  by_cases h1 : x.1 < y.1
  · simp [h1]
  · by_cases h2 : y.1 < x.1 <;> simp [h1, h2]
theorem swoNo : SWO (ltOf fun x y : Int × Int => Lib.compareInt x.1 y.1) where
  irrefl x := by rw [ltNo]; simp
  trans x y z h1 h2 := by rw [ltNo] at *; simp at *; omega
  ntrans x y z h1 h2 := by rw [ltNo] at *; simp at *; omega
set_option maxRecDepth 20000 in
set_option maxHeartbeats 1000000 in
theorem endCmp (x y : Int × Int) (W : World) : Calls Try.prog 81 #[.agg #[.int .i64 x.1, .int .i64 x.2], .agg #[.int .i64 y.1, .int .i64 y.2]] W fun e w' => e = .returned (.int .i64 (Lib.compareInt x.1 y.1)) ∧ ∃ q os', w' = grow (W.drewN q) os' := by
  have hcon := fun W' => AnyG.cmp_Compare_int Try.laysCompare x.1 y.1 W'
  change ∀ W', Calls Try.prog 82 _ _ _ at hcon
  generalize Lib.compareInt x.1 y.1 = r at hcon ⊢
  go_enter Try.func81, Try.ntmps81
  go_wp2_with (go_at_call 82; refine (hcon _).mono ?_; rintro e w' ⟨rfl, rfl⟩)
  go_ret
  exact ⟨rfl, 0, _, by rw [alloc_eq_grow, alloc_eq_grow, grow_grow]; rfl⟩
def flatOf (d : Array (Int × Int)) : List Int := (List.range (2 * d.size)).map fun j => if j % 2 = 0 then (d[j / 2]!).1 else (d[j / 2]!).2
theorem flatOf_at (d : Array (Int × Int)) (j : Nat) (h : j < 2 * d.size) : (flatOf d).getD j 0 = if j % 2 = 0 then (d[j / 2]!).1 else (d[j / 2]!).2 := by
  simp [flatOf, h]
theorem pairs_flat (d : Array (Int × Int)) : pairsOf (flatOf d) d.size = d.toList := by
  apply List.ext_getElem
  · simp [pairsOf]
  · intro i h1 h2
    have hi : i < d.size := by simpa using h2
    simp only [pairsOf, pairAt, List.getElem_map, List.getElem_range]
    rw [flatOf_at d _ (by omega), flatOf_at d _ (by omega), if_pos (by omega), if_neg (by omega), show 2 * i / 2 = i by omega, show (2 * i + 1) / 2 = i by omega]
    simp [hi]
theorem pairs_at! (R : List Int) (n i : Nat) (h : i < n) : (pairsOf R n).toArray[i]! = pairAt R i := by
  simp [pairsOf, h]
theorem order_some {w : World} {base g n c : Nat} {R : List Int} (h : w.ownsRow base 84 2 (.slice (some ⟨g, 0, none⟩) n c) n (R.map (Value.int .i64))) (hn : n ≤ 500) :
    Calls Try.prog 80 #[.slice (some ⟨g, 0, none⟩) n c, .func (.func 81) #[] #[]] w fun e w' => e = .returned (.tuple #[]) ∧ ∃ R', Ordered R R' n ∧ w.grownBy w' (some g) ∧ ∀ j, j < 2 * n → w'.cell? ⟨g, j, none⟩ = some (.int .i64 (R'.getD j 0)) := by
  have hcells : ∀ j u, _ → _ := fun j u hu => h.cells (g := g) rfl j u hu
  have hlen : R.length = n * 2 := by have := h.1; simpa using this
  have hgl := (h.lt g rfl).2
  rcases h.2 with ⟨h0, _⟩ | ⟨g', cap, cur, e, _, hg, _⟩
  · cases h0
  cases e
  have cell : ∀ j, j < n * 2 → w.cell? ⟨g, j, none⟩ = some (.int .i64 (R.getD j 0)) := fun j hj => by
    have := hcells j (.int .i64 (R.getD j 0)) (by simp [List.getElem?_eq_getElem (show j < R.length by omega)])
    simpa [Addr.add_mid] using this
  have eg : ∀ args w, (callFunc 81 args).run Try.prog w = .ok (.enter 81 args) w := enters_of Try.func81 (by kernel_rfl) rfl
  have hsz : (pairsOf R n).toArray.size = n := by simp [pairsOf]
  have hH : HoldsK encP 2 w g 0 (pairsOf R n).toArray := by
    intro j hj
    rw [size_flatK, hsz] at hj
    refine ⟨?_, by simp [World.frozen?, hg]⟩
    rw [Nat.zero_add, cell j hj, get_flatK _ _ _ _ (by rw [hsz]; exact hj), pairs_at! R n _ (by omega)]
    rcases Nat.mod_two_eq_zero_or_one j with hm | hm
    · rw [hm]; simp only [id, encP, pairAt]; rw [show 2 * (j / 2) = j by omega]; rfl
    · rw [hm]; simp only [id, encP, pairAt]; rw [show 2 * (j / 2) + 1 = j by omega]; rfl
  have hcon := AnyQ.slices_SortFunc Try.laysOrder 2 Try.isAgg84 Try.sizeOf84 encP (fun _ => rfl) (fun x v hv => by simp [encP] at hv; rcases hv with rfl | rfl <;> rfl) (fun x y => Lib.compareInt x.1 y.1) swoNo 81 #[] g 0 c (pairsOf R n).toArray w eg (fun _ _ _ _ x y => endCmp x y _) hH hgl (by rw [hsz]; omega)
  rw [hsz] at hcon
  refine (show Calls Try.prog 80 _ _ _ from hcon).mono ?_
  rintro e w' ⟨rfl, d', m, os, ⟨ps, _, pp⟩, so, rfl⟩
  rw [hsz] at ps
  have hK := holdsK_sortWorldK encP 2 w g 0 m (pairsOf R n).toArray d' os hgl hH (by rw [ps, hsz])
  refine ⟨rfl, flatOf d', ⟨by simp [flatOf, ps], ?_, ?_⟩, ?_, ?_⟩
  · have e1 := pairs_flat d'
    rw [ps] at e1
    rw [e1]
    have e2 : (d'.extract 0 n).toList = d'.toList := by rw [← ps]; simp
    have e3 : ((pairsOf R n).toArray.extract 0 n).toList = pairsOf R n := by simp [List.take_of_length_le (Nat.le_of_eq (pairsOf_len R n))]
    rw [e2, e3] at pp
    exact pp
  · intro i j hij hj
    have := so i j (Nat.zero_le _) hij hj
    rw [ltNo] at this
    rw [flatOf_at d' _ (by omega), flatOf_at d' _ (by omega), if_pos (by omega), if_pos (by omega), show 2 * i / 2 = i by omega, show 2 * j / 2 = j by omega]
    simp at this
    exact this
  · refine ⟨rfl, rfl, rfl, ?_, fun k hk hne => ?_⟩
    · simp [sortWorldK, putRowK, Go.Sort.putRow, Go.Sort.mapBlock, Go.Sort.ahead]
    · have : g ≠ k := fun e => hne (by rw [e])
      show (grow (putRowK encP 2 (Go.Sort.ahead w m) g 0 d') os).heap[k]? = w.heap[k]?
      rw [heap_grow_old _ _ (by simp [putRowK, Go.Sort.putRow, Go.Sort.mapBlock, Go.Sort.ahead]; exact hk)]
      simp [putRowK, Go.Sort.putRow, Go.Sort.mapBlock, Go.Sort.ahead, Array.getElem?_modify, this]
  · intro j hj
    have := (hK j (by rw [size_flatK, ps]; omega)).1
    rw [Nat.zero_add] at this
    rw [this, get_flatK _ _ _ _ (by rw [ps]; omega), flatOf_at d' j (by omega)]
    rcases Nat.mod_two_eq_zero_or_one j with hm | hm
    · rw [hm]; simp [encP]
    · rw [hm]; simp [encP]
theorem ret_end {W : World} {R : Nat} {c he no bd : Int} {b : Bool} {tmps : Array Value} (h : ansBlock W R c he no bd) (t : tmps[4]? = some (.pointer (some ⟨R, 0, none⟩))) (tb : tmps[5]? = some (.bool b)) :
    (results Try.f61 tmps).run Try.prog W = .ok (.tuple #[ansVal c he no bd, .bool b]) W := by
  obtain ⟨k0, k1, k2, k3⟩ := h.cells
  simp [results, Try.results61, go_sem, k0, k1, k2, k3, t, tb]
/-- the messages of the first k leases. -/
def msgsTo (L : List Int) : Nat → List Int
  | 0 => []
  | k + 1 => msgsTo L k ++ [L.getD (4 * k + 2) 0, L.getD (4 * k + 3) 0]
theorem msgsTo_wf {L : List Int} (wL : ∀ u ∈ L, (Lit.int .i64 u).wf = true) : ∀ k, ∀ u ∈ msgsTo L k, (Lit.int .i64 u).wf = true
  | 0, u, hu => by cases hu
  | k + 1, u, hu => by
    simp only [msgsTo, List.mem_append, List.mem_cons, List.not_mem_nil, or_false] at hu
    rcases hu with hu | rfl | rfl
    · exact msgsTo_wf wL k u hu
    · exact getD_fits L wL _
    · exact getD_fits L wL _
theorem Ordered.wf {X R' : List Int} {n : Nat} (h : Ordered X R' n) (wX : ∀ u ∈ X, (Lit.int .i64 u).wf = true) : ∀ u ∈ R', (Lit.int .i64 u).wf = true := by
  intro u hu
  obtain ⟨j, hj, rfl⟩ := List.mem_iff_getElem.1 hu
  have hl := h.len
  have hm : pairAt R' (j / 2) ∈ pairsOf R' n := List.mem_map.2 ⟨j / 2, by simp; omega, rfl⟩
  obtain ⟨i, _, hi⟩ := List.mem_map.1 (h.perm.mem_iff.1 hm)
  simp only [pairAt, Prod.mk.injEq] at hi
  rcases Nat.mod_two_eq_zero_or_one j with hm | hm
  · have : R'[j] = R'.getD (2 * (j / 2)) 0 := by rw [show 2 * (j / 2) = j by omega]; simp [hj]
    rw [this, ← hi.1]
    exact getD_fits X wX _
  · have : R'[j] = R'.getD (2 * (j / 2) + 1) 0 := by rw [show 2 * (j / 2) + 1 = j by omega]; simp [hj]
    rw [this, ← hi.2]
    exact getD_fits X wX _
theorem order_any {w : World} {base n c : Nat} {a : Option Addr} {X : List Int} (h : w.ownsRow base 84 2 (.slice a n c) n (X.map (Value.int .i64))) (hn : n ≤ 500) (wX : ∀ u ∈ X, (Lit.int .i64 u).wf = true) :
    Calls Try.prog 80 #[.slice a n c, .func (.func 81) #[] #[]] w fun e w' => e = .returned (.tuple #[]) ∧ ∃ R', Ordered X R' n ∧ w.grownBy w' (Value.slice a n c).ownBlock ∧ RowK .i64 w' a (2 * n) R' ∧ (a = none → c = 0) ∧ n ≤ c := by
  have hlen : X.length = n * 2 := by have := h.1; simpa using this
  rcases h.2 with ⟨h0, h1⟩ | ⟨g, cap, cur, e, _, hg, hc, _⟩
  · subst h1
    cases h0
    have hX : X = [] := List.length_eq_zero_iff.1 hlen
    refine (show Calls Try.prog 80 _ _ _ from AnyF.slices_SortFunc_none Try.laysOrder none 0 _ w).mono ?_
    rintro e w' ⟨rfl, rfl⟩
    exact ⟨rfl, [], ⟨rfl, by simp [pairsOf], fun i j _ h => absurd h (Nat.not_lt_zero _)⟩, World.grownBy.refl _ _, RowK.nil _ _ _, fun _ => rfl, Nat.le_refl _⟩
  · cases e
    have hgl := (h.lt g rfl).2
    refine (order_some h hn).mono ?_
    rintro e w' ⟨rfl, R', o, gr, cell⟩
    refine ⟨rfl, R', o, gr, ⟨o.len, o.wf wX, fun j hj => ⟨g, 0, rfl, by have := gr.size; omega, by rw [Nat.zero_add]; exact cell j hj⟩⟩, (fun h => by cases h), hc⟩
/-- a desk of which the messages are sorted. -/
structure Eo (w wx : World) (base B : Nat) (ep nx gv : Int) (a : Option Addr) (n c : Nat) (R' : List Int) (lv : Value) (ws : Nat → Value) (A : Nat) : Prop where
  d : dBlock wx B ep nx gv (.slice a n c) lv ws
  row : RowK .i64 wx a (2 * n) R'
  off : ∀ x, a = some x → x.block ≠ B ∧ x.block ≠ A ∧ base ≤ x.block
  le : n ≤ c
  nil : a = none → c = 0
  a : ansBlock wx A 0 0 0 0
  bel : Below base w wx
  up : base ≤ B
section
variable {w wx wy : World} {base B : Nat} {ep nx gv : Int} {a a2 : Option Addr} {n ln c c2 : Nat} {X R' L : List Int} {lv : Value} {ws : Nat → Value} {A : Nat} {wt : Nat → Int} {wz : Nat → Nat → Bool}
theorem Pc.sorted (C : Pc w wx base B ep nx gv a n c X a2 ln c2 L ws A) (gr : wx.grownBy wy (Value.slice a n c).ownBlock) (row : RowK .i64 wy a (2 * n) R') (hnil : a = none → c = 0) (hle : n ≤ c) : Eo w wy base B ep nx gv a n c R' (.slice a2 ln c2) ws A := by
  have keep : ∀ Y o, wx.heap[Y]? = some o → (Value.slice a n c).ownBlock ≠ some Y → wy.heap[Y]? = some o := by
    intro Y o hY hne
    rw [gr.block Y (block_lt hY) (fun e => hne e.symm)]
    exact hY
  have oB := own_off C.o1 C.d (by decide)
  have oA := own_off C.o1 C.a (by decide)
  refine ⟨keep B _ C.d (fun e => oB B e rfl), row, fun x hx => ?_, hle, hnil, keep A _ C.a (fun e => oA A e rfl), C.bel.grown gr (by have := C.d.lt; have := C.up; omega) (fun q hq => (C.o1.lt q hq).1), C.up⟩
  subst hx
  exact ⟨oB _ rfl, oA _ rfl, (C.o1.lt _ rfl).1⟩
theorem Eo.turn (E : Eo w wx base B ep nx gv a n c R' lv ws A) (t : Turned B wx wy) {ep' nx' gv' : Int} {lv' : Value} (d : dBlock wy B ep' nx' gv' (.slice a n c) lv' ws) : Eo w wy base B ep' nx' gv' a n c R' lv' ws A :=
  ⟨d, t.row E.row (fun x hx _ => (E.off x hx).1), E.off, E.le, E.nil, E.a.turned t (types_apart E.a E.d (by decide)), t.under E.bel E.up, E.up⟩
theorem Eo.out (E : Eo w wx base B ep nx gv a n c R' (.slice none 0 0) ws A) (t : Turned A wx wy) (hW : Wins ws wt wz) (hA : base ≤ A) : DeskOut wy base B ep nx gv n R' 0 [] wt wz ∧ Below base w wy := by
  have nA : A ≠ B := types_apart E.a E.d (by decide)
  exact ⟨⟨a, c, none, 0, ws, E.d.turned t (fun e => nA e.symm), t.row E.row (fun x hx _ => (E.off x hx).2.1), RowK.nil _ _ _, E.le, Nat.le_refl _, E.nil, fun _ => rfl, hW, fun x hx => (E.off x hx).2.2, fun x hx => by cases hx⟩, t.under E.bel hA⟩
end
set_option maxRecDepth 20000 in
set_option maxHeartbeats 4000000 in
theorem end_any (base B : Nat) (ep nx gv : Int) (a1 : Option Addr) (rn c1 : Nat) (a2 : Option Addr) (ln c2 : Nat) (R L : List Int) (ws : Nat → Value) (wt : Nat → Int) (wz : Nat → Nat → Bool) (k p i b he hn : Int) (w : World) (D : Desk w base B ep nx gv a1 rn c1 a2 ln c2 R L ws) (hW : Wins ws wt wz) (hbase : base ≤ w.heap.size) (hs : rn + ln ≤ 500) (h0 : 0 ≤ ep) (h1 : ep ≤ 1048576)
    (Q : Value → World → Prop) (HF : Hid (ep = 1048576 → ∀ w', Below w.heap.size w w' → Q (.tuple #[ansVal 14 0 0 0, .bool false]) w'))
    (HY : Hid (ep < 1048576 → ∀ R' w', Ordered (R ++ msgsTo L ln) R' (rn + ln) → DeskOut w' base B (ep + 1) nx 0 (rn + ln) R' 0 [] wt wz → Below base w w' → Q (.tuple #[ansVal 0 0 0 0, .bool true]) w')) :
    Calls Try.prog 61 #[.pointer (some ⟨B, 0, none⟩), evVal k p i b he hn] w fun e w' => ∃ v, e = .returned v ∧ Q v w' := by
  obtain ⟨i1, hi1, hz10, hz11, hz12⟩ := info_of Try.infoMsg
  obtain ⟨d0, d1, d2, d3, d4⟩ := D.d.heads
  have hBl := D.d.lt
  have hBn : B ≠ w.heap.size := by omega
  have hBn2 : B ≠ w.heap.size + 1 := by omega
  by_cases hf : ep = 1048576
  case pos =>
    clear D
    go_enter Try.func61, Try.ntmps61
    go_wp2_with (go_at_call 76; refine (unchanged_any _ _).mono ?_; rintro e w1 ⟨rfl, b1⟩; obtain ⟨z1, b2⟩ := ev_ans b1; obtain ⟨y0, y1, y2, y3⟩ := z1.cells; have yf := z1.free; have HZ := veil z1; have HB := veil b2; clear b1 z1 b2)
    exact bodyPost_ret (ret_end ((unveil HZ).store _ 0 0 0) rfl rfl) rfl ⟨_, rfl, unveil HF (by simp [hf]) _ ((ans_turned w1 (w.heap.size + 1) _ 0 0 0).under (unveil HB) (Nat.le_succ _))⟩
  case neg =>
    go_enter Try.func61, Try.ntmps61
    go_wp2_with fail
    obtain ⟨W2, hW2, z2, b2, s2, -⟩ := two_ev w k p i b he hn
    rw [← hW2, show (ep == 1048576) = false by simpa using hf]
    clear hW2
    have D2 := D.next b2
    have C2 : Pc w W2 base B ep nx gv a1 rn c1 R a2 ln c2 L ws (w.heap.size + 1) := ⟨D2.d, D2.o1, D2.o2, z2, b2.mono hbase, D2.up⟩
    have HD := veil D
    have wL := D.wL
    clear d0 d1 d2 d3 d4 hBn hBn2 D D2 z2 b2 s2
    go_loopw [23] (fun t wr => ∃ (m : Nat) (a : Option Addr) (c : Nat), m ≤ ln ∧ t = .int .i64 m ∧ Pc w wr base B ep nx gv a (rn + m) c (R ++ msgsTo L m) a2 ln c2 L ws (w.heap.size + 1)) (fun t _ => ln - (intOf t).toNat)
    case atStart => exact ⟨0, a1, c1, by omega, rfl, by simpa [msgsTo] using C2⟩
    case round =>
      obtain ⟨m, a, c, hm, rfl, C⟩ := hrel
      clear C2
      by_cases hlt : m < ln
      · obtain ⟨_, _, e2, r2, _, _, _, _⟩ := RowK.ofMany C.o2 wL
        cases e2
        obtain ⟨g, off, rfl⟩ := r2.form (by omega)
        obtain ⟨x0, hx0⟩ : ∃ x, x = L.getD (4 * m) 0 := ⟨_, rfl⟩
        obtain ⟨x1, hx1⟩ : ∃ x, x = L.getD (4 * m + 1) 0 := ⟨_, rfl⟩
        obtain ⟨x2, hx2⟩ : ∃ x, x = L.getD (4 * m + 2) 0 := ⟨_, rfl⟩
        obtain ⟨x3, hx3⟩ : ∃ x, x = L.getD (4 * m + 3) 0 := ⟨_, rfl⟩
        have k0 : wr.cell? ⟨g, off + m * 4, none⟩ = some (.int .i64 x0) := by rw [Nat.mul_comm m 4, hx0]; exact r2.at (4 * m) (by omega)
        have k1 : wr.cell? ⟨g, off + m * 4 + 1, none⟩ = some (.int .i64 x1) := by rw [Nat.mul_comm m 4, hx1]; exact r2.at (4 * m + 1) (by omega)
        have k2 : wr.cell? ⟨g, off + m * 4 + 2, none⟩ = some (.int .i64 x2) := by rw [Nat.mul_comm m 4, hx2]; exact r2.at (4 * m + 2) (by omega)
        have k3 : wr.cell? ⟨g, off + m * 4 + 3, none⟩ = some (.int .i64 x3) := by rw [Nat.mul_comm m 4, hx3]; exact r2.at (4 * m + 3) (by omega)
        have hgl : g < wr.heap.size := r2.lt (by omega)
        have hgn : g ≠ wr.heap.size := by omega
        have lB := C.d.lt
        have nB : B ≠ wr.heap.size := by omega
        have hT : Hid (R ++ msgsTo L (m + 1) = (R ++ msgsTo L m) ++ [x2, x3]) := veil (by rw [hx2, hx3]; simp [msgsTo])
        have HC := veil C
        clear C r2 hx0 hx1 hx2 hx3
        go_wp2_with fail
        obtain ⟨W3, hW3, b3, s3, e3⟩ : ∃ W3, W3 = wr.alloc (.cells #[.int .i64 x0, .int .i64 x1, .int .i64 x2, .int .i64 x3] 86) ∧ Below wr.heap.size wr W3 ∧ W3.heap.size = wr.heap.size + 1 ∧ W3.heap[wr.heap.size]? = some (.cells #[.int .i64 x0, .int .i64 x1, .int .i64 x2, .int .i64 x3] 86 (0, 0)) := ⟨_, rfl, below1 _ _, by simp, heap_alloc_new wr _⟩
        rw [← hW3]
        have q2 : W3.cell? ⟨wr.heap.size, 2, none⟩ = some (.int .i64 x2) := by simp [World.cell?, e3]
        have q3 : W3.cell? ⟨wr.heap.size, 3, none⟩ = some (.int .i64 x3) := by simp [World.cell?, e3]
        have hbr : base ≤ wr.heap.size := by have := (unveil HC).up; omega
        have C3 := (unveil HC).next b3 hbr
        obtain ⟨d0, d1, d2, d3, d4⟩ := C3.d.heads
        have df := C3.d.free
        have lB3 := C3.d.lt
        have nB3 : B ≠ W3.heap.size := by omega
        have nw3 : wr.heap.size ≠ W3.heap.size := by omega
        have lw3 : wr.heap.size < W3.heap.size := by omega
        have hb3 : base ≤ W3.heap.size := by omega
        have b7 : Below W3.heap.size W3 (W3.alloc (.cells #[.int .i64 x2, .int .i64 x3] 84)).drew := Below.next (below1 _ _) ⟨rfl, rfl, rfl, Nat.le_refl _, fun _ _ => rfl⟩
        have HO7 : Hid ((W3.alloc (.cells #[.int .i64 x2, .int .i64 x3] 84)).drew.ownsRow base 84 2 (.slice a (rn + m) c) (rn + m) ((R ++ msgsTo L m).map (Value.int .i64))) := veil (own_still C3.o1 (fun q _ hq => b7.block q hq))
        have HC3 := veil C3
        have HB7 := veil b7
        clear hW3 b3 s3 e3 k0 k1 k2 k3 HC C3 b7 lB nB hgl hgn
        generalize hXs : R ++ msgsTo L m = Xs at HO7 HC3 hT
        have HXs := veil hXs
        clear hXs
        go_region_law (refine step_append_many rfl (.tmp 32) (.tmp 35) 31 rfl base 84 i1 _ 2 16 Try.underlying31 hi1 hz10 hz11 hz12 rfl (by decide) (.slice a (rn + m) c) (rn + m) Xs rfl (unveil HO7) ⟨W3.heap.size, 0, none⟩ 1 1 [x2, x3] rfl rfl (news2 _ _ _ _) (by unfold maxLen; omega) (by omega) (by simp; omega) ?_; intro v' w7 own7 grow7; obtain ⟨a3, c3, rfl⟩ := own_form own7; obtain ⟨e7, C7⟩ := (unveil HC3).ready (unveil HB7) grow7 [x2, x3] hb3 own7; have f3 := e7.free; have k3 := e7.heads.2.2.2.1; rw [← unveil hT] at C7; have HC7 : Hid (Pc w (w7.setCell ⟨B, 3, none⟩ (.slice a3 (rn + m + 1) c3)) base B ep nx gv a3 (rn + (m + 1)) c3 (R ++ msgsTo L (m + 1)) (some ⟨g, off, none⟩) ln c2 L ws (w.heap.size + 1)) := veil C7; clear C7 e7 own7 grow7)
        all_goals go_wp2
        all_goals
          go_roundw
          case rel => exact ⟨m + 1, _, _, by omega, by go_num, unveil HC7⟩
          case measure => simp [intOf]; omega
      · obtain rfl : m = ln := by omega
        obtain ⟨d0, d1, d2, d3, d4⟩ := C.d.heads
        have df := C.d.free
        have HC := veil C
        have wX : ∀ u ∈ R ++ msgsTo L m, (Lit.int .i64 u).wf = true := by
          intro u hu
          rcases List.mem_append.1 hu with hu | hu
          · exact (unveil HD).wR u hu
          · exact msgsTo_wf wL m u hu
        clear C
        go_wp2_with fail
        refine (order_any (unveil HC).o1 hs wX).mono ?_
        rintro e w5 ⟨rfl, R', o5, g5, r5, n5, l5⟩
        have E5 := (unveil HC).sorted g5 r5 n5 l5
        obtain ⟨u0, u1, u2, u3, u4⟩ := E5.d.heads
        have uf := E5.d.free
        obtain ⟨y0, y1, y2, y3⟩ := E5.a.cells
        have yf := E5.a.free
        have nA : w.heap.size + 1 ≠ B := types_apart E5.a E5.d (by decide)
        have HE5 := veil E5
        have HO5 := veil o5
        clear d0 d1 d2 d3 d4 df HC wX g5 r5 E5 o5 HD n5 l5
        go_wp2
        have E6 := (unveil HE5).turn (Turned.set B 4 w5 (.slice none 0 0)) ((unveil HE5).d.leases _)
        have E7 := E6.turn (Turned.set B 0 _ (.int .i64 (ep + 1))) (E6.d.epoch _)
        have E8 := E7.turn (Turned.set B 2 _ (.int .i64 0)) (E7.d.given _)
        obtain ⟨D9, B9⟩ := E8.out (ans_turned _ (w.heap.size + 1) 0 0 0 0) hW (by omega)
        exact bodyPost_ret (ret_end (E8.a.store 0 0 0 0) rfl rfl) rfl ⟨_, rfl, unveil HY (by omega) R' _ (unveil HO5) D9 B9⟩
end Go.Proofs.Ytlfecmkpafgcmaa
