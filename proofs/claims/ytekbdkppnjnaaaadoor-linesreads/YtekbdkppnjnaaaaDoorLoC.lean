/- The library's Cut, TrimSuffix, IndexByte, Atoi at this program. -/
import Derived.Test.YtekbdkppnjnaaaaDoorLoB
import Derived.Test.YtekbdkppnjnaaaaDoorLnY
import Derived.WalkSmall
namespace Go.Proofs.YtekbdkppnjnaaaaDoor
open Go.RowKit Go.Shelf

/-- what lies ahead of all: the tables, and the library's variables. -/
structure LaidR (w : World) : Prop where
  l : Laid w
  m : ∃ m, w.cell? ⟨1, 0, none⟩ = some (.int .i64 m)
  s : ∃ ev, w.cell? ⟨2, 0, none⟩ = some ev ∧ (ev = .nilIface ∨ ∃ t p, ev = .iface t p)
  r : ∃ ev, w.cell? ⟨3, 0, none⟩ = some ev ∧ (ev = .nilIface ∨ ∃ t p, ev = .iface t p)
theorem cell_lt {w : World} {b o : Nat} {v : Value} (h : w.cell? ⟨b, o, none⟩ = some v) : b < w.heap.size := Lib.lt_of_cell h
theorem LaidR.next {w w' : World} (h : LaidR w) (b : Below w.heap.size w w') : LaidR w' := by
  obtain ⟨l, ⟨m, hm⟩, ⟨e1, h1, h1'⟩, ⟨e2, h2, h2'⟩⟩ := h
  exact ⟨l.next b, ⟨m, (b.cell (p := ⟨_, 0, none⟩) (cell_lt hm)).trans hm⟩, ⟨e1, (b.cell (p := ⟨_, 0, none⟩) (cell_lt h1)).trans h1, h1'⟩, ⟨e2, (b.cell (p := ⟨_, 0, none⟩) (cell_lt h2)).trans h2, h2'⟩⟩
theorem str_data (l : List UInt8) : (str l).data.toList = l := by simp [str]
theorem cut_any (s : List UInt8) (hs : s.length ≤ 4000000) (w : World) (hL : LaidR w) : Calls Tryd.prog 46 #[.string (str s), .string (str [32])] w fun e w' => e = .returned (.tuple #[.string (str (Lib.cut s [32]).1), .string (str (Lib.cut s [32]).2.1), .bool (Lib.cut s [32]).2.2]) ∧ Below w.heap.size w w' := by
  obtain ⟨m, hm⟩ := hL.m
  have h := Any.strings_Cut Tryd.lays145 (str s) (str [32]) m w (by rw [str_size]; omega) hm
  rw [str_data, str_data] at h
  refine h.mono ?_
  rintro e w' ⟨rfl, n, rfl⟩
  exact ⟨rfl, below_drewN (Below.refl _ _) n⟩
theorem trim_any (s : List UInt8) (hs : s.length ≤ 4000000) (w : World) : Calls Tryd.prog 47 #[.string (str s), .string (str [10])] w fun e w' => e = .returned (.string (str (Lib.trimSuffix s [10]))) ∧ w' = w := by
  have h := Any.strings_TrimSuffix Tryd.lays102 (str s) (str [10]) w (by rw [str_size]; omega)
  rw [str_data, str_data] at h
  exact h
set_option maxRecDepth 20000 in
theorem indexByte_any (s : List UInt8) (w : World) : Calls Tryd.prog 45 #[.string (str s), .int .u8 10] w fun e w' => e = .returned (.int .i64 (Lib.indexByte s 10)) ∧ w' = w := by
  have HC := Any.stringslite_IndexByte Tryd.lays217 (str s) 10 w
  rw [str_data] at HC
  have HC2 : Calls Tryd.prog 58 #[.string (str s), .int .u8 10] w fun e w' => e = .returned (.int .i64 (Lib.indexByte s 10)) ∧ w' = w := HC
  clear HC
  generalize Lib.indexByte s 10 = z at *
  generalize str s = S at *
  go_enter Tryd.func45, Tryd.ntmps45
  go_wp2_with (go_at_call 58; refine HC2.mono ?_; rintro e w' ⟨rfl, rfl⟩)
  go_ret
  exact ⟨rfl, rfl⟩
theorem below_bytes (w : World) (t : TypeId) (b : ByteArray) : Below w.heap.size w (Lib.bytesWorld w t b) := ⟨rfl, rfl, rfl, by rw [Lib.bytesWorld_size]; omega, fun j hj => Lib.bytesWorld_at_old w t b j hj⟩
theorem atoi_any (s : List UInt8) (hs : s.length ≤ 4000000) (w : World) (hL : LaidR w) : Calls Tryd.prog 49 #[.string (str s)] w fun e w' => ∃ v ev, e = .returned (.tuple #[.int .i64 v, ev]) ∧ (∀ u : Nat, u ≤ 1073741824 → s = Lib.decDigits u → v = u) ∧ Below w.heap.size w w' := by
  cases h : Lib.atoiAll s with
  | ok v =>
    have hc := Any.strconv_Atoi_ok Tryd.laysC172 (str s) (by rw [str_size]; omega) v (by rw [str_data]; exact h) w
    refine hc.mono ?_
    rintro e w' ⟨rfl, hw⟩
    refine ⟨v, _, rfl, fun u hu e => ?_, ?_⟩
    · rw [e, atoi_dec u hu] at h
      cases h
      rfl
    · rcases hw with rfl | ⟨t, rfl⟩
      · exact Below.refl _ _
      · exact below_bytes _ _ _
  | «syntax» =>
    obtain ⟨ev, hv, hev⟩ := hL.s
    have hc := Any.strconv_Atoi_syntax Tryd.laysC172 (str s) (by rw [str_size]; omega) (by rw [str_data]; exact h) ev w hv hev
    refine hc.mono ?_
    rintro e w' ⟨N, rfl, _, _, b⟩
    refine ⟨_, _, rfl, fun u hu e => ?_, b⟩
    rw [e, atoi_dec u hu] at h
    cases h
  | range =>
    obtain ⟨ev, hv, hev⟩ := hL.r
    have hc := Any.strconv_Atoi_range Tryd.laysC172 (str s) (by rw [str_size]; omega) (by rw [str_data]; exact h) ev w hv hev
    refine hc.mono ?_
    rintro e w' ⟨N, rfl, _, _, b⟩
    refine ⟨_, _, rfl, fun u hu e => ?_, b⟩
    rw [e, atoi_dec u hu] at h
    cases h
end Go.Proofs.YtekbdkppnjnaaaaDoor
