/- An append of records to a row of the call's own; the state of TapeKeeps' loop. -/
import Derived.Test.YtlfecmkpafgcmaaKtH
import Derived.Test.YtlfecmkpafgcmaaKtE
import Derived.Test.YtlfecmkpafgcmaaTpR
import Derived.Test.YtlfecmkpafgcmaaTpE
import Derived.Deep.RegionLaw
namespace Go.Proofs.Ytlfecmkpafgcmaa
open Go.RowKit

theorem wpList_append_recs {w : World} {ops : Array Oper} {rest : List Oper} {o : Oper} {a : Act} {Q : Exit → Act → World → Prop} (hgd : o.guard = none) (s x : Operand) (t : TypeId)
    (ho : o.op = .call { callee := .builtin .append, args := #[s, x], argTypes := #[t, t] })
    (base : Nat) (i : TypeInfo) (z : Value) (ht : Try.prog.underlying t = some (.slice 63)) (hi : Try.prog.info? 63 = some i) (hz : i.zero = some z)
    (hsize : i.size = 10) (hby : i.bytes = 80) (hzs : z.cells.size = 10)
    (v : Value) (n : Nat) (xs : List (List Int)) (hs : a.eval s = v) (hown : w.ownsRow base 63 10 v n (recCells xs))
    (ad : Option Addr) (m c : Nat) (l : List (List Int)) (hx : a.eval x = .slice ad m c) (hr : RecRow w ad l) (hml : m = l.length) (hnil : ad = none → c = 0)
    (hnm : n + m ≤ 1000) (hbase : base ≤ w.heap.size)
    (h : ∀ v' w', w'.ownsRow base 63 10 v' (n + m) (recCells (xs ++ l)) → w.grownBy w' v.ownBlock → wpList Try.prog ops Q rest (a.put o.dst v') w') : wpList Try.prog ops Q (o :: rest) a w := by
  have hf := flat_len l hr.ten
  cases ad with
  | none =>
    have hm : m = 0 := by
      by_cases h0 : 0 < m
      · obtain ⟨_, _, h', _⟩ := hr.cell 0 (by omega); cases h'
      · omega
    subst hm
    have hl : l = [] := List.length_eq_zero_iff.1 hml.symm
    subst hl
    refine wpList_append_own_none hgd s x t ho base 63 i 10 ht hi v n _ hs hown (by rw [hx, hnil rfl]) ?_
    exact h v w (by simpa using hown) (World.grownBy.refl _ _)
  | some x0 =>
    refine wpList_append_own w hgd s x t ho base 63 i z 10 80 ht hi hz hsize hby hzs (by decide) v n _ hs hown x0 m c (recCells l) hx (by unfold recCells; rw [List.length_map]; omega) ?_ (ints_oneCell _ _) (by unfold maxLen; omega) (by omega) hbase ?_
    · intro j u hj
      unfold recCells at hj
      have hjm : j < l.flatten.length := by
        rcases Nat.lt_or_ge j l.flatten.length with h' | h'
        · exact h'
        · rw [List.getElem?_eq_none (by rw [List.length_map]; exact h')] at hj
          cases hj
      obtain ⟨b, off, hb, _, hc⟩ := hr.cell j (by omega)
      simp only [Option.some.injEq] at hb
      subst hb
      have hadd : (⟨b, off, none⟩ : Addr).add j = ⟨b, off + j, none⟩ := by unfold Addr.add; split <;> simp_all
      rw [hadd, hc]
      simp only [List.getElem?_map, List.getElem?_eq_getElem hjm, Option.map_some, Option.some.injEq] at hj
      rw [← hj]
      simp [List.getElem?_eq_getElem hjm]
    · intro v' w' h1 h2 _
      exact h v' w' (by unfold recCells at h1 ⊢; rw [List.flatten_append, List.map_append]; exact h1) h2

/-- the state of the loop: the tape in its box R, the records written so far. -/
structure TkI (w1 wr : World) (R s : Nat) (L : List Int) (all : List (List Int)) (at' : Option Addr) (nt capt : Nat) (aa : Option Addr) (ca : Nat) : Prop where
  blk : tapeBlock wr R at' nt capt s
  row : RowK .u8 wr at' nt L
  le : nt ≤ capt
  nil : at' = none → capt = 0
  cm : capt ≤ 9223372036854775807
  recs : RecRow wr aa all
  rle : all.length ≤ ca
  rcm : ca ≤ 9223372036854775807
  rnil : aa = none → ca = 0
  roff : ∀ x, aa = some x → x.block ≠ R
  bel : Below w1.heap.size w1 wr
  hR : w1.heap.size ≤ R
theorem TkI.below {w1 wr wx : World} {R s : Nat} {L : List Int} {all : List (List Int)} {at' aa : Option Addr} {nt capt ca : Nat} (I : TkI w1 wr R s L all at' nt capt aa ca) (b : Below wr.heap.size wr wx) : TkI w1 wx R s L all at' nt capt aa ca :=
  ⟨I.blk.below b I.blk.lt, I.row.below b, I.le, I.nil, I.cm, I.recs.below b, I.rle, I.rcm, I.rnil, I.roff, Below.next I.bel b, I.hR⟩
theorem RecRow.otherK {w w' : World} {a : Option Addr} {rs : List (List Int)} (h : RecRow w a rs) (hb : ∀ x, a = some x → w'.heap[x.block]? = w.heap[x.block]?) (hs : w.heap.size ≤ w'.heap.size) : RecRow w' a rs :=
  ⟨h.ten, fun i hi => by
    obtain ⟨b, off, ha, hlt, hc⟩ := h.cell i hi
    refine ⟨b, off, ha, by omega, ?_⟩
    have := hb _ ha
    simp only [World.cell?] at hc ⊢
    rw [this]
    exact hc⟩
theorem RecRow.leftK {w : World} {a : Option Addr} {gs more : List (List Int)} (h : RecRow w a (gs ++ more)) : RecRow w a gs := by
  have hg : ∀ z ∈ gs, z.length = 10 := fun z hz => h.ten z (by simp [hz])
  have hf := flat_len gs hg
  refine ⟨hg, fun i hi => ?_⟩
  obtain ⟨b, off, ha, hlt, hc⟩ := h.cell i (by rw [List.length_append]; omega)
  refine ⟨b, off, ha, hlt, ?_⟩
  rw [hc, List.flatten_append]
  simp [List.getD_eq_getElem?_getD, List.getElem?_append_left (show i < gs.flatten.length by omega)]
/-- another tape put into the box. -/
theorem TkI.stored {w1 wr w' : World} {R s : Nat} {L : List Int} {all : List (List Int)} {at' aa : Option Addr} {nt capt ca : Nat} (I : TkI w1 wr R s L all at' nt capt aa ca) (b : Below wr.heap.size wr w') {a' : Option Addr} {n' cap' : Nat} {L' : List Int}
    (r : RowK .u8 w' a' n' L') (le : n' ≤ cap') (nil : a' = none → cap' = 0) (cm : cap' ≤ 9223372036854775807) (off : ∀ x, a' = some x → wr.heap.size ≤ x.block) (s' : Nat) :
    TkI w1 ((w'.setCell ⟨R, 0, none⟩ (.slice a' n' cap')).setCell ⟨R, 1, none⟩ (.int .i64 s')) R s' L' all a' n' cap' aa ca := by
  have SX := tape_same w' R (.slice a' n' cap') (.int .i64 s')
  have hlt := I.blk.lt
  exact ⟨(I.blk.below b I.blk.lt).store a' n' cap' s', SX.row r (fun x hx _ => by have := off x hx; omega), le, nil, cm,
    (I.recs.below b).otherK (fun x hx => SX.block _ (I.roff x hx)) (by have := SX.size; omega), I.rle, I.rcm, I.rnil, I.roff, SX.under (Below.next I.bel b) I.hR, I.hR⟩
/-- other records beside it. -/
theorem TkI.more {w1 wr w' : World} {R s : Nat} {L : List Int} {all all' : List (List Int)} {at' aa aa' : Option Addr} {nt capt ca ca' : Nat} (I : TkI w1 wr R s L all at' nt capt aa ca) (b : Below wr.heap.size wr w')
    (r : RecRow w' aa' all') (rle : all'.length ≤ ca') (rcm : ca' ≤ 9223372036854775807) (rnil : aa' = none → ca' = 0) (roff : ∀ x, aa' = some x → wr.heap.size ≤ x.block) : TkI w1 w' R s L all' at' nt capt aa' ca' :=
  ⟨I.blk.below b I.blk.lt, I.row.below b, I.le, I.nil, I.cm, r, rle, rcm, rnil, fun x hx => by have := roff x hx; have := I.blk.lt; omega, Below.next I.bel b, I.hR⟩
/-- Crash, where what it leaves is known. -/
theorem crash_toK (wb : World) (a : Option Addr) (len cap : Nat) (l : List Int) (s keep : Int) (n : Nat) (L : List Int) (h : RowK .u8 wb a len l) (hn : a = none → cap = 0) (hc : len ≤ cap) (h1 : len ≤ 100000) (h2 : 0 ≤ s) (h3 : s ≤ len) (hk : 0 ≤ keep) (hkm : keep ≤ 9223372036854775807)
    (hl : leftOf len s keep = n) (hL : l.take n = L) (w : World) (hb : Below wb.heap.size wb w) :
    Calls Try.prog 18 #[.agg #[.slice a len cap, .int .i64 s], .int .i64 keep] w fun e w' =>
      ∃ a' cap', e = .returned (.tuple #[.agg #[.slice a' n cap', .int .i64 n], .int .i64 0]) ∧ RowK .u8 w' a' n L ∧ n ≤ cap' ∧ (a' = none → cap' = 0) ∧ cap' ≤ 9223372036854775807 ∧ (∀ x, a' = some x → w.heap.size ≤ x.block) ∧ Below w.heap.size w w' := by
  refine (crash_yes a len cap l s keep w (h.below hb) hn hc h1 h2 h3 hk hkm).mono ?_
  rw [hl, hL]
  rintro e w' ⟨a', cap', g1, g2, g3, g4, g5, g6, g7⟩
  exact ⟨a', cap', g1, g2, g3, g4, g5, g6, g7⟩
theorem cutOf_le {k c : Nat} (h : k ≤ c) : cutOf k (c : Int) = (k : Int) := by
  unfold cutOf
  split <;> omega
theorem recBlock.grown {w w' : World} {R : Nat} {zs : List Int} (h : recBlock w R zs) (g : w.grownBy w' none) : recBlock w' R zs := ⟨h.1, (g.block _ h.lt (by simp)).trans h.2⟩
theorem step_append_recs {w : World} {ops : Array Oper} {o : Oper} {a : Act} {K : Act → World → Prop} {Q : Exit → Act → World → Prop} {E : Prop} (hgd : o.guard = none) (s x : Operand) (t : TypeId)
    (ho : o.op = .call { callee := .builtin .append, args := #[s, x], argTypes := #[t, t] })
    (base : Nat) (i : TypeInfo) (z : Value) (ht : Try.prog.underlying t = some (.slice 63)) (hi : Try.prog.info? 63 = some i) (hz : i.zero = some z)
    (hsize : i.size = 10) (hby : i.bytes = 80) (hzs : z.cells.size = 10)
    (v : Value) (n : Nat) (xs : List (List Int)) (hs : a.eval s = v) (hown : w.ownsRow base 63 10 v n (recCells xs))
    (ad : Option Addr) (m c : Nat) (l : List (List Int)) (hx : a.eval x = .slice ad m c) (hr : RecRow w ad l) (hml : m = l.length) (hnil : ad = none → c = 0)
    (hnm : n + m ≤ 1000) (hbase : base ≤ w.heap.size)
    (h : ∀ v' w', w'.ownsRow base 63 10 v' (n + m) (recCells (xs ++ l)) → w.grownBy w' v.ownBlock → K (a.put o.dst v') w') :
    if Region.wanted o (yielded ops a.tmps) = true then Oper.wp Try.prog o a w K Q else E := by
  have hf := flat_len l hr.ten
  have hw : Region.wanted o (yielded ops a.tmps) = true := by simp [Region.wanted, hgd]
  rw [if_pos hw]
  cases ad with
  | none =>
    have hm : m = 0 := by
      by_cases h0 : 0 < m
      · obtain ⟨_, _, h', _⟩ := hr.cell 0 (by omega); cases h'
      · omega
    subst hm
    have hl : l = [] := List.length_eq_zero_iff.1 hml.symm
    subst hl
    rw [hnil rfl] at hx
    have hrun := run_append_owned_none (P := Try.prog) (w := w) base t o.type 63 i 10 ht hi v n _ hown
    unfold Oper.wp
    simp [execOp, ho, resolve, invoke, builtin, hs, hx, hrun, Result.andThen]
    exact h v w (by simpa using hown) (World.grownBy.refl _ _)
  | some x0 =>
    refine wp_append_own w s x t ho base 63 i z 10 80 ht hi hz hsize hby hzs (by decide) v n _ hs hown x0 m c (recCells l) hx (by unfold recCells; rw [List.length_map]; omega) ?_ (ints_oneCell _ _) (by unfold maxLen; omega) (by omega) hbase ?_
    · intro j u hj
      unfold recCells at hj
      have hjm : j < l.flatten.length := by
        rcases Nat.lt_or_ge j l.flatten.length with h' | h'
        · exact h'
        · rw [List.getElem?_eq_none (by rw [List.length_map]; exact h')] at hj
          cases hj
      obtain ⟨b, off, hb, _, hc⟩ := hr.cell j (by omega)
      simp only [Option.some.injEq] at hb
      subst hb
      have hadd : (⟨b, off, none⟩ : Addr).add j = ⟨b, off + j, none⟩ := by unfold Addr.add; split <;> simp_all
      rw [hadd, hc]
      simp only [List.getElem?_map, List.getElem?_eq_getElem hjm, Option.map_some, Option.some.injEq] at hj
      rw [← hj]
      simp [List.getElem?_eq_getElem hjm]
    · intro v' w' h1 h2 _
      exact h v' w' (by unfold recCells at h1 ⊢; rw [List.flatten_append, List.map_append]; exact h1) h2
/-- a record in a block of its own, as a row of one. -/
theorem RecRow.one {w : World} {R : Nat} {zs : List Int} (h : recBlock w R zs) (hl : zs.length = 10) : RecRow w (some ⟨R, 0, none⟩) [zs] := by
  refine ⟨fun z hz => by simp at hz; subst hz; exact hl, fun i hi => ?_⟩
  simp only [List.length_singleton, Nat.one_mul] at hi
  refine ⟨R, 0, rfl, h.lt, ?_⟩
  have hj : (zs.map (Value.int .i64))[i]? = some (.int .i64 (zs.getD i 0)) := by
    rw [List.getElem?_map, List.getElem?_eq_getElem (by omega)]
    simp [List.getElem?_eq_getElem (show i < zs.length by omega)]
  have := ten_new h i _ hj
  have hadd : (⟨R, 0, none⟩ : Addr).add i = ⟨R, 0 + i, none⟩ := by unfold Addr.add; split <;> simp_all
  rw [hadd] at this
  rw [this]
  simp
/-- the last one of records. -/
theorem RecRow.lastK {w : World} {a : Option Addr} {gs : List (List Int)} {z0 z1 z2 z3 z4 z5 z6 z7 z8 z9 : Int} (h : RecRow w a (gs ++ [[z0, z1, z2, z3, z4, z5, z6, z7, z8, z9]])) : ∃ b off, a = some ⟨b, off, none⟩ ∧ w.cell? ⟨b, off + gs.length * 10, none⟩ = some (.int .i64 z0) ∧ w.cell? ⟨b, off + gs.length * 10 + 1, none⟩ = some (.int .i64 z1) ∧ w.cell? ⟨b, off + gs.length * 10 + 2, none⟩ = some (.int .i64 z2) ∧ w.cell? ⟨b, off + gs.length * 10 + 3, none⟩ = some (.int .i64 z3) ∧ w.cell? ⟨b, off + gs.length * 10 + 4, none⟩ = some (.int .i64 z4) ∧ w.cell? ⟨b, off + gs.length * 10 + 5, none⟩ = some (.int .i64 z5) ∧ w.cell? ⟨b, off + gs.length * 10 + 6, none⟩ = some (.int .i64 z6) ∧ w.cell? ⟨b, off + gs.length * 10 + 7, none⟩ = some (.int .i64 z7) ∧ w.cell? ⟨b, off + gs.length * 10 + 8, none⟩ = some (.int .i64 z8) ∧ w.cell? ⟨b, off + gs.length * 10 + 9, none⟩ = some (.int .i64 z9) := by
  have hg : ∀ z ∈ gs, z.length = 10 := fun z hz => h.ten z (by simp [hz])
  have hf := flat_len gs hg
  have hl : (gs ++ [[z0, z1, z2, z3, z4, z5, z6, z7, z8, z9]]).length = gs.length + 1 := by simp
  obtain ⟨b, off, ha, _, _⟩ := h.cell 0 (by omega)
  subst ha
  have key : ∀ q, q < 10 → w.cell? ⟨b, off + gs.length * 10 + q, none⟩ = some (.int .i64 ([z0, z1, z2, z3, z4, z5, z6, z7, z8, z9].getD q 0)) := fun q hq => by
    obtain ⟨b', off', hb, _, hc⟩ := h.cell (gs.length * 10 + q) (by omega)
    simp only [Option.some.injEq, Addr.mk.injEq, and_true] at hb
    obtain ⟨rfl, rfl⟩ := hb
    rw [Nat.add_assoc, hc, List.flatten_append]
    simp [List.getD_eq_getElem?_getD, List.getElem?_append_right (show gs.flatten.length ≤ gs.length * 10 + q by omega), hf]
  exact ⟨b, off, rfl, key 0 (by decide), key 1 (by decide), key 2 (by decide), key 3 (by decide), key 4 (by decide), key 5 (by decide), key 6 (by decide), key 7 (by decide), key 8 (by decide), key 9 (by decide)⟩
end Go.Proofs.Ytlfecmkpafgcmaa
