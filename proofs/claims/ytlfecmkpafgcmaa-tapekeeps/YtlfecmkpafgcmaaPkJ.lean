/- The walk of pack.fill: numbers taken from bytes, stored where pointers lead; it panics with what Take refuses. -/
import Derived.Test.YtlfecmkpafgcmaaPkH
import Derived.Test.YtlfecmkpafgcmaaPkB
namespace Go.Proofs.Ytlfecmkpafgcmaa
open Go.RowKit

/-- the j-th number of some bytes, and its error. -/
def numAt (l : List Int) (j : Nat) : Int := (takenOf (l.drop (4 * j))).1
def errAt (l : List Int) (j : Nat) : Int := (takenOf (l.drop (4 * j))).2

/-- a block of ten numbers, a record. -/
def recBlock (w : World) (R : Nat) (zs : List Int) : Prop := zs.length = 10 ∧ w.heap[R]? = some (.cells (zs.map (Value.int .i64)).toArray 63 (0, 0))

/-- numbers laid one by one, from the place s on. -/
def setNums (l zs : List Int) (s : Nat) : Nat → List Int
  | 0 => zs
  | j + 1 => (setNums l zs s j).set (s + j) (numAt l j)

/-- a world in which the block R alone may be another. -/
structure SameBut (R : Nat) (w w' : World) : Prop where
  os : w'.os = w.os
  tape : w'.tape = w.tape
  output : w'.output = w.output
  size : w'.heap.size = w.heap.size
  block : ∀ k, k ≠ R → w'.heap[k]? = w.heap[k]?

theorem SameBut.refl (R : Nat) (w : World) : SameBut R w w := ⟨rfl, rfl, rfl, rfl, fun _ _ => rfl⟩
theorem SameBut.trans {R : Nat} {a b c : World} (h : SameBut R a b) (k : SameBut R b c) : SameBut R a c :=
  ⟨k.os.trans h.os, k.tape.trans h.tape, k.output.trans h.output, k.size.trans h.size, fun x hx => (k.block x hx).trans (h.block x hx)⟩
theorem SameBut.drewN (R : Nat) (w : World) (n : Nat) : SameBut R w (w.drewN n) := ⟨rfl, rfl, rfl, rfl, fun _ _ => rfl⟩
theorem SameBut.cell {R : Nat} {w w' : World} (h : SameBut R w w') {b o : Nat} (hb : b ≠ R) : w'.cell? ⟨b, o, none⟩ = w.cell? ⟨b, o, none⟩ := World.cell?_of_block (w := w) (h.block b hb)
theorem SameBut.row {R : Nat} {k : IntKind} {w w' : World} (h : SameBut R w w') {a : Option Addr} {len : Nat} {l : List Int} (hr : RowK k w a len l) (hne : ∀ x, a = some x → 0 < len → x.block ≠ R) : RowK k w' a len l :=
  ⟨hr.len_eq, hr.wf, fun i hi => by
    obtain ⟨b, off, ha, hlt, hc⟩ := hr.cell i hi
    exact ⟨b, off, ha, by rw [h.size]; exact hlt, (h.cell (hne _ ha (by omega))).trans hc⟩⟩

theorem recBlock.cell {w : World} {R : Nat} {zs : List Int} (h : recBlock w R zs) (o : Nat) (ho : o < 10) : w.cell? ⟨R, o, none⟩ = some (.int .i64 (zs.getD o 0)) := by
  have := h.1
  simp [World.cell?, h.2, show o < zs.length by omega]
theorem recBlock.free {w : World} {R : Nat} {zs : List Int} (h : recBlock w R zs) (o : Nat) : w.frozen? ⟨R, o, none⟩ = false := by
  simp [World.frozen?, h.2]
theorem recBlock.lt {w : World} {R : Nat} {zs : List Int} (h : recBlock w R zs) : R < w.heap.size := by
  rcases Nat.lt_or_ge R w.heap.size with h' | h'
  · exact h'
  · have := h.2; rw [Array.getElem?_eq_none h'] at this; cases this
theorem recBlock.set {w : World} {R : Nat} {zs : List Int} (h : recBlock w R zs) (o : Nat) (x : Int) : recBlock (w.setCell ⟨R, o, none⟩ (.int .i64 x)) R (zs.set o x) := by
  refine ⟨by simpa using h.1, ?_⟩
  rw [setCell_eq_setRow w R o _ _ (0, 0) _ h.2]
  rw [setRow_heap w R _ _ _ _ h.2]
  simp [List.map_set]
theorem recBlock.drewN {w : World} {R : Nat} {zs : List Int} (h : recBlock w R zs) (n : Nat) : recBlock (w.drewN n) R zs := h
theorem SameBut.set (R o : Nat) (w : World) (v : Value) : SameBut R w (w.setCell ⟨R, o, none⟩ v) := by
  refine ⟨?_, ?_, ?_, ?_, fun k hk => Below.heap_setCell w _ v k hk⟩ <;> (unfold World.setCell; split <;> simp)

theorem RowK.drop4 {k : IntKind} {w : World} {b off len : Nat} {l : List Int} (h : RowK k w (some ⟨b, off, none⟩) len l) (a : Option Addr) (h4 : 4 ≤ len) (ha : 4 < len → a = some ⟨b, off + 4, none⟩) : RowK k w a (len - 4) (l.drop 4) := by
  refine ⟨by simp [h.len_eq], fun u hu => h.wf u (List.mem_of_mem_drop hu), fun i hi => ?_⟩
  refine ⟨b, off + 4, ha (by omega), h.lt (by omega), ?_⟩
  have := h.at (4 + i) (by omega)
  rw [Nat.add_assoc, this]
  simp [List.getD_eq_getElem?_getD]

set_option maxRecDepth 20000 in
set_option maxHeartbeats 1000000 in
theorem fill_any (N R s n capAt : Nat) (a : Option Addr) (len cap : Nat) (l zs : List Int) (w : World) (hs : s + n ≤ 10) (hN : N ≠ R)
    (hp : ∀ o, o < 10 → w.cell? ⟨N, o, none⟩ = some (.pointer (some ⟨R, o, none⟩))) (hR : recBlock w R zs) (hb : RowK .u8 w a len l) (hne : ∀ x, a = some x → 0 < len → x.block ≠ R) (hlc : len ≤ cap) (hc : cap ≤ 9223372036854775807) :
    Calls Try.prog 69 #[.slice (some ⟨N, s, none⟩) n capAt, .slice a len cap] w fun e w' =>
      ((∃ a' cap' len', e = .returned (.slice a' len' cap') ∧ (∀ t, t < n → errAt l t = 0) ∧ RowK .u8 w' a' len' (l.drop (4 * n)) ∧ (∀ x, a' = some x → 0 < len' → x.block ≠ R) ∧ len' ≤ cap' ∧ cap' ≤ 9223372036854775807 ∧ recBlock w' R (setNums l zs s n)) ∨
       (∃ t zs', t < n ∧ (∀ u, u < t → errAt l u = 0) ∧ errAt l t ≠ 0 ∧ e = .panicked [{ v := .iface 24 (.int .i64 (errAt l t)), recovered := false }] ∧ recBlock w' R zs')) ∧ SameBut R w w' := by
  go_enter Try.func69, Try.ntmps69
  go_wp2
  go_loopw [1, 11] (fun v i wr => ∃ (j len' cap' : Nat) (a' : Option Addr), j ≤ n ∧ i = .int .i64 j ∧ v = .slice a' len' cap' ∧ (∀ t, t < j → errAt l t = 0) ∧ RowK .u8 wr a' len' (l.drop (4 * j)) ∧ (∀ x, a' = some x → 0 < len' → x.block ≠ R) ∧ len' ≤ cap' ∧ cap' ≤ 9223372036854775807 ∧ recBlock wr R (setNums l zs s j) ∧ SameBut R w wr)
    (fun _ i _ => n - (intOf i).toNat)
  case atStart => exact ⟨0, len, cap, a, Nat.zero_le _, rfl, rfl, fun t ht => by omega, by simpa using hb, hne, hlc, hc, hR, SameBut.refl _ _⟩
  case round =>
    obtain ⟨j, len', cap', a', hj, rfl, rfl, herr, hrow, hne', hlc', hc', hrec, hsame⟩ := hrel
    by_cases hlt : j < n
    · have kp : wr.cell? ⟨N, s + j, none⟩ = some (.pointer (some ⟨R, s + j, none⟩)) := (hsame.cell hN).trans (hp (s + j) (by omega))
      have HE := hide herr
      have HR := hide hrow
      have HC := hide hrec
      have HS := hide hsame
      clear herr hrow hrec hsame hR hb hp
      go_wp2_with fail
      refine (take_any _ _ _ _ _ (unhide HR)).mono ?_
      rintro e w1 ⟨rfl, q, rfl⟩
      by_cases hz : errAt l j = 0
      · have h4 : 4 ≤ len' := by
          have h1 := (unhide HR).len_eq
          rcases Nat.lt_or_ge (l.drop (4 * j)).length 4 with h | h
          · exfalso
            have := hz
            unfold errAt at this
            rw [takenOf_short h] at this
            simp at this
          · omega
        obtain ⟨b0, off0, rfl⟩ := (unhide HR).form (by omega)
        have hz' : ((takenOf (l.drop (4 * j))).2 != 0) = false := by simpa [errAt] using hz
        have kr := (unhide HC).cell (s + j) (by omega)
        have kf := (unhide HC).free (s + j)
        go_wp2
        go_region
        all_goals
          generalize hA : (if cap' = 4 then some (⟨b0, off0, none⟩ : Addr) else some ⟨b0, off0 + 4, none⟩) = A'
          have HA := hide hA
          clear hA kr kf kp hz'
          go_wp2
          go_roundw
          case rel =>
            have hS : SameBut R wr ((wr.drewN (q + 1)).setCell ⟨R, s + j, none⟩ (.int .i64 (takenOf (l.drop (4 * j))).1)) := (SameBut.drewN R wr (q + 1)).trans (SameBut.set R (s + j) _ _)
            have hdr : (l.drop (4 * j)).drop 4 = l.drop (4 * (j + 1)) := by rw [List.drop_drop]; congr 1
            have hA4 : 4 < len' → A' = some ⟨b0, off0 + 4, none⟩ := fun h => by rw [← unhide HA, if_neg (by omega)]
            have hAb : ∀ x, A' = some x → 0 < len' - 4 → x.block ≠ R := fun x hx hp => by
              have h1 := hne' _ rfl (by omega)
              rw [← unhide HA] at hx
              split at hx <;> (simp at hx; subst hx; exact h1)
            refine ⟨j + 1, len' - 4, cap' - 4, A', by omega, by go_num, rfl, ?_, ?_, hAb, by omega, by omega, ?_, (unhide HS).trans hS⟩
            · intro t ht
              by_cases h : t = j
              · rw [h]; exact hz
              · exact unhide HE t (by omega)
            · rw [← hdr]
              exact hS.row ((unhide HR).drop4 A' h4 hA4) hAb
            · exact ((unhide HC).drewN (q + 1)).set (s + j) _
          case measure => simp [intOf]; omega
      · have hz' : ((takenOf (l.drop (4 * j))).2 != 0) = true := by simpa [errAt] using hz
        go_wp2
        exact ⟨rfl, .inr ⟨j, _, hlt, unhide HE, hz, rfl, (unhide HC).drewN q⟩, (unhide HS).trans (SameBut.drewN R wr q)⟩
    · have hjn : j = n := by omega
      subst hjn
      have HE := hide herr
      have HR := hide hrow
      have HC := hide hrec
      have HS := hide hsame
      clear herr hrow hrec hsame hR hb hp
      go_wp2
      go_ret
      exact ⟨.inl ⟨a', cap', len', rfl, unhide HE, unhide HR, hne', hlc', hc', unhide HC⟩, unhide HS⟩
end Go.Proofs.Ytlfecmkpafgcmaa
