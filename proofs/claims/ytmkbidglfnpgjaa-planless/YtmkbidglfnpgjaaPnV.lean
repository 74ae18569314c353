/- The walk of the keep package's behind; what a plan does to the spread. -/
import Derived.Test.YtmkbidglfnpgjaaPnU
namespace Go.Proofs.Ytmkbidglfnpgjaa
open Go.RowKit

abbrev plVal (x : Pl) : Value := .agg #[.int .i64 x.q, .int .i64 x.f, .int .i64 x.t]
/-- a plan in memory. -/
def plBlock (w : World) (R : Nat) (x : Pl) : Prop := w.heap[R]? = some (.cells #[.int .i64 x.q, .int .i64 x.f, .int .i64 x.t] 39 (0, 0))
theorem plBlock.cells {w : World} {R : Nat} {x : Pl} (h : plBlock w R x) : w.cell? ⟨R, 0, none⟩ = some (.int .i64 x.q) ∧ w.cell? ⟨R, 1, none⟩ = some (.int .i64 x.f) ∧ w.cell? ⟨R, 2, none⟩ = some (.int .i64 x.t) := by
  unfold plBlock at h; simp [World.cell?, h]
theorem plBlock.lt {w : World} {R : Nat} {x : Pl} (h : plBlock w R x) : R < w.heap.size := by
  unfold plBlock at h
  rcases Nat.lt_or_ge R w.heap.size with h' | h'
  · exact h'
  · simp [Array.getElem?_eq_none h'] at h
theorem plBlock.next {w w' : World} {R : Nat} {x : Pl} (h : plBlock w R x) (hb : Below w.heap.size w w') : plBlock w' R x := by
  have := h.lt
  unfold plBlock at h ⊢; rw [← h]; exact hb.block R this
theorem plBlock.turned {w w' : World} {R g : Nat} {x : Pl} (h : plBlock w R x) (T : Turned g w w') (hne : R ≠ g) : plBlock w' R x := by
  unfold plBlock at h ⊢; rw [← h]; exact T.block R hne
/-- the loads behind a plan. -/
def setNode (l : List Ld) (b : Nat) (t : Int) : List Ld := l.set b ⟨(ldAt l b).q, t, (ldAt l b).w⟩
def behindTo (l : List Ld) (b : Nat) (t : Int) (k : Nat) : List Ld := if k ≤ b then l else setNode l b t
theorem behindTo_len (l : List Ld) (b : Nat) (t : Int) (k : Nat) : (behindTo l b t k).length = l.length := by
  unfold behindTo setNode; split <;> simp
set_option maxRecDepth 20000 in
set_option maxHeartbeats 4000000 in
theorem behind_any (a : Option Addr) (c : Nat) (l : List Ld) (x : Pl) (b : Nat) (w : World) (hA : RowK .i64 w a (3 * l.length) (ldFlat l)) (hn : a = none → c = 0) (hs : l.length ≤ 4) (hb : b < l.length) (hq : (ldAt l b).q = x.q) (hf : (ldAt l b).n = x.f) (hd : ∀ j, j < l.length → j ≠ b → (ldAt l j).q ≠ x.q) :
    Calls Try.prog 18 #[.slice a l.length c, plVal x] w fun e w' => ∃ v, e = .returned v ∧ ldOwn w' w.heap.size v (setNode l b x.t) ∧ Below w.heap.size w w' := by
  obtain ⟨i3, hi3, hz30, hz31, hz32⟩ := info_ofP Try.infoLoad
  obtain ⟨q, f, t⟩ := x
  dsimp only at hq hf hd
  have nb : plBlock (w.alloc (.cells #[.int .i64 q, .int .i64 f, .int .i64 t] 39)) w.heap.size ⟨q, f, t⟩ := heap_alloc_new w _
  have B1 := below1 w (.cells #[.int .i64 q, .int .i64 f, .int .i64 t] 39)
  have rA := hA.below B1
  generalize hW : w.alloc (.cells #[.int .i64 q, .int .i64 f, .int .i64 t] 39) = W1 at *
  have HNB := veil nb
  have HB1 := veil B1
  have HRA := veil rA
  have hD : Hid (∀ k, (behindTo l b t k).length = l.length) := veil (behindTo_len l b t)
  have HSt : Hid (∀ W g cN, ldOwn W w.heap.size (.slice (some ⟨g, 0, none⟩) l.length cN) (behindTo l b t b) → ldOwn (W.setCell ⟨g, b * 3 + 1, none⟩ (.int .i64 t)) w.heap.size (.slice (some ⟨g, 0, none⟩) l.length cN) (behindTo l b t (b + 1))) := veil fun W g cN o => by
    have e1 : behindTo l b t b = l := by unfold behindTo; rw [if_pos (Nat.le_refl _)]
    have e2 : behindTo l b t (b + 1) = setNode l b t := by unfold behindTo; rw [if_neg (by omega)]
    rw [e1] at o
    rw [e2]
    exact o.set rfl b hb t
  have HSk : Hid (∀ k, k ≠ b → behindTo l b t (k + 1) = behindTo l b t k) := veil fun k hk => by
    unfold behindTo
    by_cases h1 : k ≤ b
    · rw [if_pos h1, if_pos (by omega)]
    · rw [if_neg h1, if_neg (by omega)]
  have HEnd : Hid (behindTo l b t l.length = setNode l b t) := veil (by unfold behindTo; rw [if_neg (by omega)])
  have HBeg : Hid (behindTo l b t 0 = l) := veil (by unfold behindTo; rw [if_pos (Nat.zero_le _)])
  have HQ : Hid (∀ k, k < l.length → k ≠ b → (ldAt (behindTo l b t k) k).q ≠ q) := veil fun k hk hne => by
    unfold behindTo
    split
    · exact hd k hk hne
    · unfold setNode
      rw [ldAt_set _ _ _ _ hb, if_neg hne]
      exact hd k hk hne
  have HQb : Hid ((ldAt (behindTo l b t b) b).q = q ∧ (ldAt (behindTo l b t b) b).n = f) := veil (by
    unfold behindTo; rw [if_pos (Nat.le_refl _)]; exact ⟨hq, hf⟩)
  have HAt : Hid (∀ W g cN k, ldOwn W w.heap.size (.slice (some ⟨g, 0, none⟩) l.length cN) (behindTo l b t k) → k < l.length → W.cell? ⟨g, k * 3, none⟩ = some (.int .i64 (ldAt (behindTo l b t k) k).q) ∧ W.cell? ⟨g, k * 3 + 1, none⟩ = some (.int .i64 (ldAt (behindTo l b t k) k).n) ∧ W.frozen? ⟨g, k * 3 + 1, none⟩ = false) := veil fun W g cN k o hk => by
    unfold ldOwn at o
    have hl := behindTo_len l b t k
    rw [hl] at o
    have hfl := ldFlat_len (behindTo l b t k)
    have key : ∀ i, i < 3 * l.length → W.cell? ⟨g, i, none⟩ = some (.int .i64 ((ldFlat (behindTo l b t k)).getD i 0)) := fun i hi => by
      rw [World.ownsRow.cellAt o i (by omega), List.getElem?_map, List.getElem?_eq_getElem (by omega)]
      simp [List.getElem?_eq_getElem (show i < (ldFlat (behindTo l b t k)).length by omega)]
    obtain ⟨e0, e1, _⟩ := ldFlat_at (behindTo l b t k) k
    rw [Nat.mul_comm k 3, ← e0, ← e1]
    exact ⟨key _ (by omega), key _ (by omega), World.ownsRow.frozenAt o _⟩
  have HF : Hid (∀ v' w', w'.ownsRow w.heap.size 41 3 v' l.length ((ldFlat l).map (Value.int .i64)) → W1.grownBy w' none → ldOwn w' w.heap.size v' (behindTo l b t 0) ∧ plBlock w' w.heap.size ⟨q, f, t⟩ ∧ Below w.heap.size w w') := veil (by
    intro v' w' own grow
    have bw : Below W1.heap.size W1 w' := (Below.refl _ _).grown grow (Nat.le_refl _) (fun q hq => by cases hq)
    exact ⟨by rw [unveil HBeg]; exact own, nb.next bw, Below.next B1 bw⟩)
  have hb1 : w.heap.size ≤ W1.heap.size := B1.size
  clear nb B1 rA hd hq hf hA
  have hb4 : b < 4 := by omega
  generalize hNl : l.length = n at *
  generalize ldFlat l = DF at *
  have HNl := veil hNl
  clear hNl
  go_enter Try.func18, Try.ntmps18
  go_upto_region 1 with (fail)
  clear hW
  go_upto_region 3 with (at_builtin; refine wpList_append_rows rfl _ _ 22 rfl w.heap.size 41 i3 _ 3 24 Try.underlying22 hi3 hz30 hz31 hz32 rfl (by decide) (.slice none 0 0) 0 [] rfl (World.ownsRow_nil _ _ _ _) a n c DF rfl (unveil HRA) hn (by unfold maxLen; omega) (by omega) hb1 ?_; intro v' w4 own4 grow4; rw [List.nil_append, Nat.zero_add] at own4; obtain ⟨a2, c2, rfl⟩ := own_form own4; have HR4 := veil (unveil HF _ w4 own4 grow4); clear own4 grow4)
  obtain ⟨g, rfl⟩ : ∃ g, a2 = some ⟨g, 0, none⟩ := by
    obtain ⟨o, _, _⟩ := unveil HR4
    unfold ldOwn at o
    rw [unveil hD] at o
    rcases o.2 with ⟨_, h0⟩ | ⟨g, _, _, e, _⟩
    · omega
    · simp only [Value.slice.injEq] at e
      exact ⟨g, e.1⟩
  go_loopw [6] (fun tt wr => ∃ k : Nat, k ≤ n ∧ tt = .int .i64 k ∧ ldOwn wr w.heap.size (.slice (some ⟨g, 0, none⟩) n c2) (behindTo l b t k) ∧ plBlock wr w.heap.size ⟨q, f, t⟩ ∧ Below w.heap.size w wr) (fun tt _ => n - (intOf tt).toNat)
  case atStart => exact ⟨0, Nat.zero_le _, rfl, (unveil HR4).1, (unveil HR4).2.1, (unveil HR4).2.2⟩
  case round =>
    clear HR4 HF HRA HB1 HNB
    obtain ⟨k, hk, rfl, o, pb, bel⟩ := hrel
    by_cases hlt : k < n
    · obtain ⟨x0, x1, x2⟩ := unveil HAt _ _ _ _ o hlt
      obtain ⟨p0, p1, p2⟩ := pb.cells
      dsimp only at p0 p1 p2
      have hgp : w.heap.size ≠ g := by
        intro e
        have o' := o
        unfold ldOwn at o'
        rcases o'.2 with ⟨h0, _⟩ | ⟨g1, cap, cur, e1, _, h3, _⟩
        · cases h0
        · simp only [Value.slice.injEq, Option.some.injEq, Addr.mk.injEq] at e1
          unfold plBlock at pb
          rw [e, e1.1.1, h3] at pb
          simp at pb
      have hgl := (o.lt g rfl).1
      by_cases hkb : k = b
      · subst hkb
        obtain ⟨hq1, hf1⟩ := unveil HQb
        rw [hq1] at x0
        rw [hf1] at x1
        have HO := veil o
        have HP := veil pb
        have BL := veil bel
        have HSt1 := unveil HSt
        clear o pb bel HQ HAt HSk
        go_wp2_with fail
        go_quiet (fail)
        go_wp2
        go_roundw
        case rel =>
          have T := Turned.set g (k * 3 + 1) wr (.int .i64 t)
          refine ⟨k + 1, by omega, by go_num, ?_, ?_, ?_⟩
          · exact own_still (HSt1 wr g c2 (unveil HO)) (fun g' _ _ => rfl)
          · have := (unveil HP).turned T hgp; exact this
          · exact (below_n (unveil BL) _).setCell hgl _
        case measure => simp [intOf]; omega
      · have hqn := unveil HQ k hlt hkb
        have hsk := unveil HSk k hkb
        have HSK := veil hsk
        generalize (ldAt (behindTo l b t k) k).q = qk at *
        generalize (ldAt (behindTo l b t k) k).n = nk at *
        have hbq : (qk == q) = false := by simpa using hqn
        have HO := veil o
        have HP := veil pb
        have BL := veil bel
        clear o pb bel HQ HAt HSk hsk
        go_wp2_with fail
        go_quiet (fail)
        go_wp2
        go_roundw
        case rel => exact ⟨k + 1, by omega, by go_num, by rw [unveil HSK]; exact own_still (unveil HO) (fun _ _ _ => rfl), unveil HP, below_n (unveil BL) _⟩
        case measure => simp [intOf]; omega
    · have hkn : k = n := by omega
      have HO : Hid (ldOwn wr w.heap.size (.slice (some ⟨g, 0, none⟩) n c2) (setNode l b t)) := veil (by rw [hkn, unveil HEnd] at o; exact o)
      have BL := veil bel
      clear o pb bel hkn
      go_wp2
      go_ret
      exact ⟨_, rfl, unveil HO, unveil BL⟩
/-- no plan makes the spread greater. -/
theorem shift_gap (ws : List Int) (x : Int) (hl : 0 < ws.length) (h0 : 0 < x) (h1 : x < gapOf ws) : gapOf (shift ws (busyOf ws) (idleOf ws) x) ≤ gapOf ws := by
  have ib := (busyOf_is ws hl).1
  have ii := (idleOf_is ws hl).1
  have hft : busyOf ws ≠ idleOf ws := by
    intro he
    unfold gapOf at h1
    rw [he] at h1
    omega
  have hl2 : (shift ws (busyOf ws) (idleOf ws) x).length = ws.length := shift_len _ _ _ _
  have jb := (busyOf_is (shift ws (busyOf ws) (idleOf ws) x) (by omega)).1.lt
  have ji := (idleOf_is (shift ws (busyOf ws) (idleOf ws) x) (by omega)).1.lt
  have key : ∀ k, k < ws.length → ws.getD (idleOf ws) 0 ≤ (shift ws (busyOf ws) (idleOf ws) x).getD k 0 ∧ (shift ws (busyOf ws) (idleOf ws) x).getD k 0 ≤ ws.getD (busyOf ws) 0 := fun k hk => by
    rw [shift_at ws _ _ k x ib.lt ii.lt hft]
    have g1 := ib.ge k hk
    have g2 := ii.le k hk
    unfold gapOf at h1
    split
    · omega
    · split <;> omega
  have k1 := key (busyOf (shift ws (busyOf ws) (idleOf ws) x)) (by omega)
  have k2 := key (idleOf (shift ws (busyOf ws) (idleOf ws) x)) (by omega)
  have e : gapOf (shift ws (busyOf ws) (idleOf ws) x) = (shift ws (busyOf ws) (idleOf ws) x).getD (busyOf (shift ws (busyOf ws) (idleOf ws) x)) 0 - (shift ws (busyOf ws) (idleOf ws) x).getD (idleOf (shift ws (busyOf ws) (idleOf ws) x)) 0 := rfl
  have e2 : gapOf ws = ws.getD (busyOf ws) 0 - ws.getD (idleOf ws) 0 := rfl
  omega
end Go.Proofs.Ytmkbidglfnpgjaa
