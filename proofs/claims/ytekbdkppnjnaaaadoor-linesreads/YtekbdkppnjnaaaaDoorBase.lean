/- What the walks of this seat share: bytes in memory, arguments that read behind a call as before it. -/
import Derived.WalkKit
import Derived.WalkSpells
import Derived.WalkLawsBesides
import Derived.ProofKit
import Derived.OpenShut
import Derived.Below
import Derived.Carry
import Derived.SizedLaws
import Derived.Laws.AppendOwnNone
namespace Go.Proofs.YtekbdkppnjnaaaaDoor
open Go.ChangeShapes Go.WideShapes Go.ChangeAt Go.RowKit

/-- A slice (nil or not) whose elements are the numbers l, each of kind k, in the world w: its cells lie among w's blocks. -/
structure RowK (k : IntKind) (w : World) (a : Option Addr) (len : Nat) (l : List Int) : Prop where
  len_eq : l.length = len
  wf : ∀ u ∈ l, (Lit.int k u).wf = true
  cell : ∀ i, i < len → ∃ b off, a = some ⟨b, off, none⟩ ∧ b < w.heap.size ∧ w.cell? ⟨b, off + i, none⟩ = some (.int k (l.getD i 0))

theorem RowK.below {k : IntKind} {w w' : World} {a : Option Addr} {len : Nat} {l : List Int} (h : RowK k w a len l) (hb : Below w.heap.size w w') : RowK k w' a len l :=
  ⟨h.len_eq, h.wf, fun i hi => by
    obtain ⟨b, off, ha, hlt, hc⟩ := h.cell i hi
    exact ⟨b, off, ha, Nat.lt_of_lt_of_le hlt hb.size, (hb.cell hlt).trans hc⟩⟩

theorem RowK.nil (k : IntKind) (w : World) (a : Option Addr) : RowK k w a 0 [] := ⟨rfl, by simp, fun i hi => by omega⟩

theorem RowK.at {k : IntKind} {w : World} {b off len : Nat} {l : List Int} (h : RowK k w (some ⟨b, off, none⟩) len l) (i : Nat) (hi : i < len) : w.cell? ⟨b, off + i, none⟩ = some (.int k (l.getD i 0)) := by
  obtain ⟨b', off', ha, _, hc⟩ := h.cell i hi
  simp at ha
  obtain ⟨rfl, rfl⟩ := ha
  exact hc

theorem RowK.lt {k : IntKind} {w : World} {b off len : Nat} {l : List Int} (h : RowK k w (some ⟨b, off, none⟩) len l) (hi : 0 < len) : b < w.heap.size := by
  obtain ⟨b', off', ha, hb, _⟩ := h.cell 0 hi
  simp at ha
  obtain ⟨rfl, rfl⟩ := ha
  exact hb

theorem RowK.form {k : IntKind} {w : World} {a : Option Addr} {len : Nat} {l : List Int} (h : RowK k w a len l) (hi : 0 < len) : ∃ b off, a = some ⟨b, off, none⟩ := by
  obtain ⟨b', off', ha, hb, _⟩ := h.cell 0 hi
  exact ⟨b', off', ha⟩

/-- what a call made, as a row of numbers. -/
theorem RowK.ofOwn {w : World} {base e g n cap : Nat} {k : IntKind} {l : List Int} (h : w.ownsRow base e 1 (.slice (some ⟨g, 0, none⟩) n cap) n (l.map (Value.int k))) (hl : l.length = n) (hw : ∀ u ∈ l, (Lit.int k u).wf = true) : RowK k w (some ⟨g, 0, none⟩) n l :=
  ⟨hl, hw, fun i hi => by
    have hc := h.cellAt i (by omega)
    have hb := (h.lt g rfl).2
    refine ⟨g, 0, rfl, hb, ?_⟩
    rw [Nat.zero_add, hc, List.getElem?_map, List.getElem?_eq_getElem (by omega)]
    simp [List.getElem?_eq_getElem (show i < l.length by omega)]⟩

/-- 'string(b)'. -/
theorem run_string_row {P : Program} {w : World} (src e : TypeId) (hs : P.underlying src = some (.slice e)) (he : P.underlying e = some (.int .u8)) {a : Option Addr} {len cap : Nat} {l : List Int} (h : RowK .u8 w a len l) :
    ∀ dst, P.underlying dst = some .string → (convert src dst (.slice a len cap)).run P w = .ok (.string (strOfNums l)) w := by
  intro dst hd
  by_cases h0 : len = 0
  · subst h0
    have hl : l = [] := List.length_eq_zero_iff.1 h.len_eq
    subst hl
    cases a with
    | none => rw [run_convert_bytes_nil w src e hs he 0 cap dst hd]; rfl
    | some x =>
      rw [run_convert_bytes_string w src dst e _ 0 cap hs he hd, run_bytesToString w _ 0 cap [] (by simp [loadCells, loadCellsFrom, Sem.run_pure])]
      rfl
  · obtain ⟨b, off, rfl⟩ := h.form (by omega)
    exact run_convert_bytes_arg w src e hs he b off len cap l h.len_eq (fun i hi => h.at i hi) dst hd

/-- 'append(out, src...)', out the call's own, src a row (nil or not). -/
theorem wpList_append_row {P : Program} {w : World} {ops : Array Oper} {rest : List Oper} {o : Oper} {a : Act} {Q : Exit → Act → World → Prop} (hgd : o.guard = none) (s x : Operand) (t : TypeId)
    (ho : o.op = .call { callee := .builtin .append, args := #[s, x], argTypes := #[t, t] })
    (base : Nat) (e : TypeId) (i : TypeInfo) (z : Value) (bytes : Nat) (ht : P.underlying t = some (.slice e)) (hi : P.info? e = some i) (hz : i.zero = some z)
    (hsize : i.size = 1) (hby : i.bytes = bytes) (hzs : z.cells.size = 1) (k : IntKind)
    (v : Value) (n : Nat) (xs : List Int) (hs : a.eval s = v) (hown : w.ownsRow base e 1 v n (xs.map (Value.int k)))
    (ad : Option Addr) (m c : Nat) (l : List Int) (hx : a.eval x = .slice ad m c) (hr : RowK k w ad m l) (hnil : ad = none → c = 0)
    (h63 : n + m ≤ maxLen) (hbytes : (n + m) * bytes ≤ 140737488355328) (hbase : base ≤ w.heap.size)
    (h : ∀ v' w', w'.ownsRow base e 1 v' (n + m) ((xs ++ l).map (Value.int k)) → w.grownBy w' v.ownBlock → wpList P ops Q rest (a.put o.dst v') w') : wpList P ops Q (o :: rest) a w := by
  cases ad with
  | none =>
    have hm : m = 0 := by
      by_cases h0 : 0 < m
      · obtain ⟨_, _, h', _⟩ := hr.cell 0 h0; cases h'
      · omega
    subst hm
    have hl : l = [] := List.length_eq_zero_iff.1 hr.len_eq
    subst hl
    refine wpList_append_own_none hgd s x t ho base e i 1 ht hi v n _ hs hown (by rw [hx, hnil rfl]) ?_
    exact h v w (by simpa using hown) (World.grownBy.refl _ _)
  | some x0 =>
    refine wpList_append_own w hgd s x t ho base e i z 1 bytes ht hi hz hsize hby hzs (by decide) v n _ hs hown x0 m c (l.map (Value.int k)) hx (by simp [hr.len_eq]) ?_ (ints_oneCell _ _) h63 hbytes hbase ?_
    · intro j u hj
      have hjm : j < l.length := by
        rcases Nat.lt_or_ge j l.length with h' | h'
        · exact h'
        · simp [List.getElem?_eq_none h'] at hj
      obtain ⟨b, off, hb, _, hc⟩ := hr.cell j (by rw [← hr.len_eq]; exact hjm)
      simp only [Option.some.injEq] at hb
      subst hb
      have hadd : (⟨b, off, none⟩ : Addr).add j = ⟨b, off + j, none⟩ := by unfold Addr.add; split <;> simp_all
      rw [hadd, hc]
      simp [List.getElem?_eq_getElem hjm] at hj
      simp [List.getElem?_eq_getElem hjm, hj]
    · intro v' w' h1 h2 _
      exact h v' w' (by rw [List.map_append]; exact h1) h2

/-- what a call made, nil or not. -/
theorem RowK.ofOwns {w : World} {base e n : Nat} {k : IntKind} {v : Value} {l : List Int} (h : w.ownsRow base e 1 v n (l.map (Value.int k))) (hw : ∀ u ∈ l, (Lit.int k u).wf = true) :
    ∃ a cap, v = .slice a n cap ∧ RowK k w a n l ∧ n ≤ cap ∧ cap ≤ maxLen ∧ (a = none → cap = 0) ∧ (∀ x, a = some x → base ≤ x.block) := by
  have hl : l.length = n := by have := h.1; simpa using this
  rcases h.2 with ⟨rfl, rfl⟩ | ⟨g, cap, cur, rfl, hb, hg, hc, hm, _⟩
  · have : l = [] := List.length_eq_zero_iff.1 hl
    subst this
    exact ⟨none, 0, rfl, RowK.nil _ _ _, Nat.le_refl _, by unfold maxLen; omega, fun _ => rfl, fun x hx => by cases hx⟩
  · exact ⟨some ⟨g, 0, none⟩, cap, rfl, RowK.ofOwn h hl hw, hc, hm, by simp, fun x hx => by simp at hx; subst hx; exact hb⟩

theorem below1 (w : World) (o1 : Obj) : Below w.heap.size w (w.alloc o1) := (Below.refl _ _).alloc (Nat.le_refl _) o1
theorem below2 (w : World) (o1 o2 : Obj) : Below w.heap.size w ((w.alloc o1).alloc o2) := (below1 w o1).alloc (by simp) o2
theorem below1t {w w' : World} {o1 : Obj} (h : Below (w.alloc o1).heap.size (w.alloc o1) w') : Below w.heap.size w w' := (below1 w o1).trans (h.mono (by simp))
theorem below2t {w w' : World} {o1 o2 : Obj} (h : Below ((w.alloc o1).alloc o2).heap.size ((w.alloc o1).alloc o2) w') : Below w.heap.size w w' := (below2 w o1 o2).trans (h.mono (by simp; omega))
theorem belowN (w : World) (n : Nat) : Below w.heap.size w (w.drewN n) := ⟨rfl, rfl, rfl, Nat.le_refl _, fun _ _ => rfl⟩
theorem Below.next {w w1 w2 : World} (h1 : Below w.heap.size w w1) (h2 : Below w1.heap.size w1 w2) : Below w.heap.size w w2 := h1.trans (h2.mono h1.size)

section
variable {H : Type} {enc : TypeId × Value → H} {P : Program}

/-- all arguments read behind the call as before it. -/
theorem trodAll_stays {ts : List TypeId} (hl : laidOutB P = true) (hr : ∀ t ∈ ts, P.readableRec t = true ∧ t < P.types.size) {W W' : World} :
    ∀ {vs : List Value} {ds : List (DataW H)} {ps : List MemPlace}, DataW.TrodAll enc P W 0 (fun _ => true) true ts vs ds ps → Below W.heap.size W W' → (∀ x ∈ ps, x.block < W.heap.size) →
      DataW.TrodAll enc P W' 0 (fun b => decide (b < W.heap.size)) true ts vs ds ps := by
  induction ts with
  | nil =>
    intro vs ds ps h _ _
    obtain ⟨rfl, rfl, rfl⟩ := trodAll_nil h
    exact trodAll_mk0
  | cons t ts ih =>
    intro vs ds ps h hb hlt
    obtain ⟨v, vs', d, ds', p, q, rfl, rfl, rfl, h1, h2⟩ := trodAll_cons h
    exact trodAll_cons_mk (Below.trod hl (hr t (by simp)).1 (hr t (by simp)).2 h1 hb (fun x hx => hlt x (by simp [hx]))) (ih (fun t ht => hr t (by simp [ht])) h2 hb (fun x hx => hlt x (by simp [hx])))

/-- a slice of integers that came in. -/
theorem open_row {W : World} {r : Reach} {b0 t e : TypeId} {k : IntKind} (ht : P.underlying t = some (.slice e)) (he : P.underlying e = some (.int k)) (hc : P.cellsOf e = 1) {v : Value} {d : DataW H} {p : List MemPlace}
    (hv : Value.okWide P W r b0 t v) (h : DataW.Trod enc P W 0 (fun _ => true) true t v d p) :
    ∃ a len cap l, v = .slice a len cap ∧ RowK k W a len l ∧ len ≤ cap ∧ cap ≤ maxLen ∧ (a = none → cap = 0) ∧ ((d = .nil ∧ cap = 0) ∨ ∃ es sp, d = .slice es sp ∧ es.length + sp.length = cap) := by
  obtain ⟨a, len, cap, rfl⟩ := okWide_slice ht hv
  have lt0 : ∀ x ∈ p, x.block < W.heap.size := by obtain ⟨m, hm⟩ := h; exact DataW.trod_lt m _ _ _ hm
  obtain ⟨fuel, hf⟩ := h
  rcases open_ints ht he hc hf with ⟨hcs, hx⟩ | ⟨x, l, c, zs, hcs, _, hl, hm, hz, hx, hcell, hwz⟩
  · simp [Value.cells] at hcs
    simp only [Prod.mk.injEq] at hx
    obtain ⟨rfl, rfl, rfl⟩ := hcs
    exact ⟨none, 0, 0, [], rfl, RowK.nil _ _ _, Nat.le_refl _, by unfold maxLen; omega, fun _ => rfl, .inl ⟨hx.1, rfl⟩⟩
  · simp [Value.cells] at hcs
    simp only [Prod.mk.injEq] at hx
    obtain ⟨rfl, rfl, rfl⟩ := hcs
    have hz' : zs.length = cap := by simpa using hz
    refine ⟨_, _, _, zs.take len, rfl, ⟨by simp; omega, fun u hu => hwz u (List.mem_of_mem_take hu), fun i hi => ?_⟩, hl, hm, by simp, .inr ?_⟩
    · have hci := hcell i (by omega)
      obtain ⟨b, off, spot⟩ := x
      have hspot : spot = none := by
        simpa [Addr.add] using World.cell?_spot (hcell 0 (by omega))
      subst hspot
      have hadd : (⟨b, off, none⟩ : Addr).add i = ⟨b, off + i, none⟩ := by unfold Addr.add; split <;> simp_all
      rw [hadd] at hci
      refine ⟨b, off, rfl, ?_, ?_⟩
      · unfold World.cell? at hci
        by_cases hbl : b < W.heap.size
        · exact hbl
        · simp [Array.getElem?_eq_none (show W.heap.size ≤ b by omega)] at hci
      · rw [hci]
        simp [hi]
    · exact ⟨_, _, hx.1, by simp [lits]; omega⟩

/-- how great a slice that came in may be. -/
theorem open_sized {ts : List TypeId} {ds : List (DataW H)} (h : (DataW.weightsEach P ts ds).all (· ≤ reachBytes) = true) {j : Nat} {t e : TypeId} {d : DataW H} {cap bytes : Nat} (ht : ts[j]? = some t) (hd : ds[j]? = some d)
    (hu : P.underlying t = some (.slice e)) (hb : P.bytesOf e = bytes) (hc : (d = .nil ∧ cap = 0) ∨ ∃ es sp, d = .slice es sp ∧ es.length + sp.length = cap) : cap * bytes ≤ 140737488351232 := by
  rcases hc with ⟨_, rfl⟩ | ⟨es, sp, rfl, rfl⟩
  · simp
  · have := sized_slice h ht hd hu
    rw [hb] at this
    simpa [reachBytes] using this

/-- a struct by value: its cells, each field read at its place. -/
theorem open_struct {W : World} {r : Reach} {b0 : Nat} {t : TypeId} {fs : Array Field} {v : Value} {d : DataW H} {p : List MemPlace} {base : Nat} {sp : Nat → Bool} {held : Bool} (hs : P.underlying t = some (.struct fs))
    (hv : Value.okWide P W r b0 t v) (h : DataW.Trod enc P W base sp held t v d p) :
    ∃ (cs : Array Value) (n : Nat), v = .agg cs ∧ cs.size = P.cellsOf t ∧ DataW.trod enc P W base sp held n t cs.toList = some (d, p) := by
  obtain ⟨cs, rfl, hsz⟩ := okWide_struct hs hv
  obtain ⟨fuel, hf⟩ := h
  exact ⟨cs, fuel, rfl, hsz, by simpa [Value.cells] using hf⟩
end
end Go.Proofs.YtekbdkppnjnaaaaDoor
