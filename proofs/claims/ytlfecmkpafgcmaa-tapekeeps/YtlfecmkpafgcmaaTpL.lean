/- The walk of tape.Read: all whole records of a tape, and how many bytes they have. -/
import Derived.Test.YtlfecmkpafgcmaaTpK
namespace Go.Proofs.Ytlfecmkpafgcmaa
open Go.RowKit

theorem Try.infoRec : (Try.prog.info? 63).map (fun i => (i.zero, i.size, i.bytes)) = some (some (.agg #[.int .i64 0, .int .i64 0, .int .i64 0, .int .i64 0, .int .i64 0, .int .i64 0, .int .i64 0, .int .i64 0, .int .i64 0, .int .i64 0]), 10, 80) := by kernel_rfl

/-- the cells of records. -/
def recCells (rs : List (List Int)) : List Value := rs.flatten.map (Value.int .i64)
theorem recCells_snoc (rs : List (List Int)) (zs : List Int) : recCells (rs ++ [zs]) = recCells rs ++ zs.map (Value.int .i64) := by simp [recCells]

/-- records in memory, one behind the other. -/
structure RecRow (w : World) (a : Option Addr) (rs : List (List Int)) : Prop where
  ten : ∀ z ∈ rs, z.length = 10
  cell : ∀ i, i < rs.length * 10 → ∃ b off, a = some ⟨b, off, none⟩ ∧ b < w.heap.size ∧ w.cell? ⟨b, off + i, none⟩ = some (.int .i64 (rs.flatten.getD i 0))

theorem flat_len (rs : List (List Int)) (h : ∀ z ∈ rs, z.length = 10) : rs.flatten.length = rs.length * 10 := by
  induction rs with
  | nil => rfl
  | cons z rs ih =>
    have := h z (by simp)
    have := ih (fun y hy => h y (by simp [hy]))
    simp only [List.flatten_cons, List.length_append, List.length_cons]
    omega
theorem RecRow.below {w w' : World} {a : Option Addr} {rs : List (List Int)} (h : RecRow w a rs) (hb : Below w.heap.size w w') : RecRow w' a rs :=
  ⟨h.ten, fun i hi => by
    obtain ⟨b, off, ha, hlt, hc⟩ := h.cell i hi
    exact ⟨b, off, ha, Nat.lt_of_lt_of_le hlt hb.size, (hb.cell hlt).trans hc⟩⟩
theorem RecRow.nil (w : World) (a : Option Addr) : RecRow w a [] := ⟨by simp, fun i hi => by simp at hi⟩
theorem RecRow.ofOwns {w : World} {base n : Nat} {v : Value} {rs : List (List Int)} (h : w.ownsRow base 63 10 v n (recCells rs)) (hn : rs.length = n) (ht : ∀ z ∈ rs, z.length = 10) :
    ∃ a cap, v = .slice a n cap ∧ RecRow w a rs ∧ n ≤ cap ∧ cap ≤ maxLen ∧ (a = none → cap = 0) ∧ (∀ x, a = some x → base ≤ x.block) := by
  have hf := flat_len rs ht
  rcases h.2 with ⟨rfl, rfl⟩ | ⟨g, cap, cur, rfl, hb, hg, hc, hm, _⟩
  · have : rs = [] := List.length_eq_zero_iff.1 hn
    subst this
    exact ⟨none, 0, rfl, RecRow.nil _ _, Nat.le_refl _, by unfold maxLen; omega, fun _ => rfl, fun x hx => by cases hx⟩
  · refine ⟨some ⟨g, 0, none⟩, cap, rfl, ⟨ht, fun i hi => ?_⟩, hc, hm, by simp, fun x hx => by simp at hx; subst hx; exact hb⟩
    have hci := h.cellAt i (by omega)
    have hbl := (h.lt g rfl).2
    refine ⟨g, 0, rfl, hbl, ?_⟩
    rw [Nat.zero_add, hci, recCells, List.getElem?_map, List.getElem?_eq_getElem (by omega)]
    simp [List.getElem?_eq_getElem (show i < rs.flatten.length by omega)]

theorem ten_news {w : World} {R : Nat} {zs : List Int} (h : recBlock w R zs) : ∀ j u, (zs.map (Value.int .i64))[j]? = some u → w.cell? ((⟨R, 0, none⟩ : Addr).add j) = some u := by
  intro j u hj
  have hl := h.1
  have hjl : j < zs.length := by
    rcases Nat.lt_or_ge j zs.length with h' | h'
    · exact h'
    · simp [List.getElem?_eq_none h'] at hj
  have hadd : (⟨R, 0, none⟩ : Addr).add j = ⟨R, j, none⟩ := by unfold Addr.add; split <;> simp_all
  rw [hadd, h.cell j (by omega)]
  simp [List.getElem?_eq_getElem hjl] at hj
  simp [List.getElem?_eq_getElem hjl, hj]

theorem RowK.from {k : IntKind} {w : World} {b off len : Nat} {l : List Int} (h : RowK k w (some ⟨b, off, none⟩) len l) (a : Option Addr) (lo : Nat) (ha : lo < len → a = some ⟨b, off + lo, none⟩) : RowK k w a (len - lo) (l.drop lo) := by
  have hl := h.len_eq
  refine ⟨by simp; omega, fun u hu => h.wf u (List.mem_of_mem_drop hu), fun i hi => ?_⟩
  refine ⟨b, off + lo, ha (by omega), h.lt (by omega), ?_⟩
  have := h.at (lo + i) (by omega)
  rw [Nat.add_assoc, this]
  simp [List.getD_eq_getElem?_getD]

theorem ret_Read {W : World} {v : Value} {n e : Int} {tmps : Array Value} (t2 : tmps[2]? = some v) (t3 : tmps[3]? = some (.int .i64 n)) (t4 : tmps[4]? = some (.int .i64 e)) :
    (results Try.f20 tmps).run Try.prog W = .ok (.tuple #[v, .int .i64 n, .int .i64 e]) W := by
  simp [results, Try.results20, go_sem, t2, t3, t4]
set_option maxRecDepth 20000 in
set_option maxHeartbeats 400000 in
theorem read_no (a : Option Addr) (len cap : Nat) (s : Int) (w : World) (hm : len ≤ 140737488351232) (h : ¬ (len ≤ 100000 ∧ 0 ≤ s ∧ s ≤ len)) :
    Calls Try.prog 20 #[.agg #[.slice a len cap, .int .i64 s]] w fun e w' => e = .returned (.tuple #[.slice none 0 0, .int .i64 0, .int .i64 6]) ∧ Below w.heap.size w w' := by
  go_enter Try.func20, Try.ntmps20
  go_wp2_with fail
  refine (mayBe_no a len cap s _ hm h).mono ?_
  rintro e w1 ⟨rfl, b1⟩
  go_wp2
  exact bodyPost_ret (ret_Read rfl rfl rfl) rfl ⟨rfl, below1t b1⟩

/-- a record at a new place. -/
theorem rec_new (w : World) (x0 x1 x2 x3 x4 x5 x6 x7 x8 x9 : Int) :
    ∃ W, W = w.alloc (.cells #[.int .i64 x0, .int .i64 x1, .int .i64 x2, .int .i64 x3, .int .i64 x4, .int .i64 x5, .int .i64 x6, .int .i64 x7, .int .i64 x8, .int .i64 x9] 63) ∧
    recBlock W w.heap.size [x0, x1, x2, x3, x4, x5, x6, x7, x8, x9] ∧ Below w.heap.size w W ∧ W.heap.size = w.heap.size + 1 :=
  ⟨_, rfl, ⟨rfl, heap_alloc_new w _⟩, below1 _ _, alloc_size _ _⟩

theorem framePair_some {b zs : List Int} {m : Nat} (h : unframeOf b = some (zs, m)) : framePair b = (zs, m) := by unfold framePair; rw [h]
theorem framePair_none {b : List Int} (h : unframeOf b = none) : framePair b = (zeros, 0) := by unfold framePair; rw [h]

set_option maxRecDepth 20000 in
set_option maxHeartbeats 2000000 in
theorem read_some (b off len cap : Nat) (l : List Int) (s : Int) (w : World) (h : RowK .u8 w (some ⟨b, off, none⟩) len l) (hlc : len ≤ cap) (hc : cap ≤ 9223372036854775807) (h1 : len ≤ 100000) (h2 : 0 ≤ s) (h3 : s ≤ len) :
    Calls Try.prog 20 #[.agg #[.slice (some ⟨b, off, none⟩) len cap, .int .i64 s]] w fun e w' =>
      ∃ a' cap', e = .returned (.tuple #[.slice a' (readOf l).1.length cap', .int .i64 (readOf l).2, .int .i64 0]) ∧ RecRow w' a' (readOf l).1 ∧ (readOf l).1.length ≤ cap' ∧ cap' ≤ 9223372036854775807 ∧ (a' = none → cap' = 0) ∧ (∀ x, a' = some x → w.heap.size ≤ x.block) ∧ Below w.heap.size w w' := by
  obtain ⟨i0, hi, hz0, hz1, hz2⟩ := info_parts Try.infoRec
  have hl := h.len_eq
  go_enter Try.func20, Try.ntmps20
  go_wp2_with fail
  obtain ⟨W, hW, tb0, B0, S0⟩ : ∃ W, W = w.alloc (.cells #[.slice (some ⟨b, off, none⟩) len cap, .int .i64 s] 54) ∧ tapeBlock W w.heap.size (some ⟨b, off, none⟩) len cap s ∧ Below w.heap.size w W ∧ W.heap.size = w.heap.size + 1 := ⟨_, rfl, tapeBlock.new w _ len cap s, below1 _ _, alloc_size _ _⟩
  rw [← hW]
  have r0 := h.below B0
  clear hW h
  refine (mayBe_yes (some ⟨b, off, none⟩) len cap s _ h1 h2 h3).mono ?_
  rintro e w1 ⟨rfl, b1⟩
  have tb1 := tb0.below b1 tb0.lt
  have r1 := r0.below b1
  have B1 := Below.next B0 b1
  have z1 := b1.size
  clear tb0 r0 B0 b1
  go_wp2
  go_loopw [5, 6] (fun v t wr => ∃ (k : Nat) (rs : List (List Int)), t = .int .i64 k ∧ Going l k rs ∧ 6 * rs.length ≤ k ∧ (∀ z ∈ rs, z.length = 10) ∧ wr.ownsRow w1.heap.size 63 10 v rs.length (recCells rs) ∧ Below w1.heap.size w1 wr)
    (fun _ t _ => len - (intOf t).toNat)
  case atStart => exact ⟨0, [], rfl, going_start l, Nat.le_refl _, by simp, World.ownsRow_nil _ _ _ _, Below.refl _ _⟩
  case round =>
    obtain ⟨k, rs, rfl, hgo, h6, hten, hown, hbel⟩ := hrel
    have hk : k ≤ len := by have := hgo.1; omega
    have hki : (k : Int) ≤ (len : Int) := by omega
    have hki2 : (len : Int) ≤ (cap : Int) := by omega
    have tb2 := tb1.below hbel tb1.lt
    have r2 := r1.below hbel
    have z2 := hbel.size
    have c0 := tb2.cell0
    have hwf := r2.wf
    by_cases hck : cap = k
    · have hu : unframeOf (l.drop k) = none := by unfold unframeOf; rw [if_pos (by simp; omega)]
      have hck2 := hck.symm
      clear hck
      subst hck2
      go_wp2_with fail
      refine (unframe_short _ _ _ _ (by omega)).mono ?_
      rintro e w3 ⟨rfl, b3⟩
      have B3 : Below w1.heap.size w1 w3 := hbel.trans (b3.mono z2)
      have o3 := own_below hown b3
      clear hbel b3 hown tb2 r2 c0
      have he := going_end hgo hu
      simp only [recVal, zeros, List.map_cons, List.map_nil]
      obtain ⟨a', cap', hv, hr, hc', hm', hn', hx'⟩ := RecRow.ofOwns o3 rfl hten
      subst hv
      clear o3
      go_wp2
      refine bodyPost_ret (ret_Read rfl rfl rfl) rfl ?_
      rw [he]
      exact ⟨a', cap', rfl, hr.below (below1 _ _), hc', by unfold maxLen at hm'; exact hm', hn', fun x hx => by have := hx' x hx; omega, Below.next (Below.next B1 B3) (below1 _ _)⟩
    · go_wp2_with fail
      refine (unframe_any _ _ _ (l.drop k) _ (r2.from _ k (fun hkl => by first | rfl | omega)) (by omega) (by omega) (by omega)).mono ?_
      rintro e w3 ⟨rfl, b3⟩
      have B3 : Below w1.heap.size w1 w3 := hbel.trans (b3.mono z2)
      have o3 := own_below hown b3
      clear hbel b3 hown tb2 r2 c0
      cases hu : unframeOf (l.drop k) with
      | none =>
        rw [framePair_none hu]
        have he := going_end hgo hu
        simp only [recVal, zeros, List.map_cons, List.map_nil]
        obtain ⟨a', cap', hv, hr, hc', hm', hn', hx'⟩ := RecRow.ofOwns o3 rfl hten
        subst hv
        clear o3
        go_wp2
        refine bodyPost_ret (ret_Read rfl rfl rfl) rfl ?_
        rw [he]
        exact ⟨a', cap', rfl, hr.below (below1 _ _), hc', by unfold maxLen at hm'; exact hm', hn', fun x hx => by have := hx' x hx; omega, Below.next (Below.next B1 B3) (below1 _ _)⟩
      | some p =>
        obtain ⟨zs, m⟩ := p
        have hz10 := unframe_len hu
        obtain ⟨_, hm6, hml, _, _⟩ := unframe_some hu
        have hgo2 := hide (going_step hgo hu)
        rw [framePair_some hu]
        rw [List.length_drop] at hml
        have hms : k + m ≤ len := by omega
        have hm7 : 6 ≤ m := by omega
        have hmne : ((m : Int) == 0) = false := by simp; omega
        have z3 := B3.size
        clear hu hm6 hml
        match zs, hz10 with
        | [x0, x1, x2, x3, x4, x5, x6, x7, x8, x9], _ =>
          simp only [recVal, List.map_cons, List.map_nil]
          have rn : Hid (recBlock ((w3.alloc (.cells #[.int .i64 x0, .int .i64 x1, .int .i64 x2, .int .i64 x3, .int .i64 x4, .int .i64 x5, .int .i64 x6, .int .i64 x7, .int .i64 x8, .int .i64 x9] 63)).alloc (.cells #[.int .i64 x0, .int .i64 x1, .int .i64 x2, .int .i64 x3, .int .i64 x4, .int .i64 x5, .int .i64 x6, .int .i64 x7, .int .i64 x8, .int .i64 x9] 63)) (w3.heap.size + 1) [x0, x1, x2, x3, x4, x5, x6, x7, x8, x9]) := ⟨rfl, by
            have := heap_alloc_new (w3.alloc (.cells #[.int .i64 x0, .int .i64 x1, .int .i64 x2, .int .i64 x3, .int .i64 x4, .int .i64 x5, .int .i64 x6, .int .i64 x7, .int .i64 x8, .int .i64 x9] 63)) (.cells #[.int .i64 x0, .int .i64 x1, .int .i64 x2, .int .i64 x3, .int .i64 x4, .int .i64 x5, .int .i64 x6, .int .i64 x7, .int .i64 x8, .int .i64 x9] 63)
            rw [alloc_size] at this
            exact this⟩
          go_wp2_with (at_builtin; refine wpList_append_own _ rfl _ _ 55 rfl w1.heap.size 63 i0 _ 10 80 Try.underlying55 hi hz0 hz1 hz2 rfl (by decide) _ _ _ rfl ((o3.alloc _).alloc _) ⟨w3.heap.size + 1, 0, none⟩ 1 1 ([x0, x1, x2, x3, x4, x5, x6, x7, x8, x9].map (Value.int .i64)) rfl rfl (ten_news (unhide rn)) (ints_oneCell .i64 _) (by unfold maxLen; omega) (by omega) (by simp; omega) ?_; intro v' w5 hown5 hgrow5 _)
          have hlt5 := o3.lt
          have R1 : Hid (w5.ownsRow w1.heap.size 63 10 v' (rs ++ [[x0, x1, x2, x3, x4, x5, x6, x7, x8, x9]]).length (recCells (rs ++ [[x0, x1, x2, x3, x4, x5, x6, x7, x8, x9]]))) := by
            rw [recCells_snoc, List.length_append]; exact hown5
          have R2 : Below w1.heap.size w1 w5 := ((B3.alloc z3 _).alloc (by simp; omega) _).grown hgrow5 (by simp; omega) (by intro t ht; exact (hlt5 t ht).1)
          have R3 : Hid (∀ z ∈ rs ++ [[x0, x1, x2, x3, x4, x5, x6, x7, x8, x9]], z.length = 10) := hide (fun z hz => by
            rcases List.mem_append.1 hz with hz | hz
            · exact hten z hz
            · simp at hz; subst hz; rfl)
          clear hown5 hgrow5 o3 rn hlt5
          go_wp2
          go_roundw
          case rel => exact ⟨k + m, _, by go_num, unhide hgo2, by simp; omega, unhide R3, unhide R1, R2⟩
          case measure => simp [intOf]; omega
end Go.Proofs.Ytlfecmkpafgcmaa
