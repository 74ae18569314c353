/- Walk of the document's actNumbers. -/
import Derived.Test.YtekbdkppnjnaaaaDoorLnI
namespace Go.Proofs.YtekbdkppnjnaaaaDoor
open Go.RowKit

def noffs : Nat → List Nat
  | 0 => [2, 1]
  | 1 => [2, 1]
  | 2 => [1]
  | 3 => [1]
  | 4 => [1, 4]
  | 5 => [3]
  | 6 => [3]
  | 7 => [3]
  | 8 => []
  | 9 => [1, 2, 6, 7, 8]
  | 10 => [1, 2]
  | 11 => [1, 2, 9, 10]
  | _ => []
def mosts : Nat → List Int
  | 0 => [3, 4]
  | 1 => [3, 4]
  | 2 => [4]
  | 3 => [4]
  | 4 => [4, 100000]
  | 5 => [1048576]
  | 6 => [1048576]
  | 7 => [1048576]
  | 8 => []
  | 9 => [4, 3, 3, 1073741824, 1000000]
  | 10 => [4, 3]
  | 11 => [4, 3, 1048576, 1073741824]
  | _ => []
theorem offs_noffs {k o : Int} (h : kno k o < 12) : offs k o = noffs (kno k o) := by
  rcases kno_cases k o with g | g | g | g | g | g | g | g | g | g | g | g | g
  all_goals first
    | (obtain ⟨rfl, g⟩ := g; rw [g]; rfl)
    | (obtain ⟨rfl, rfl, g⟩ := g; rw [g]; rfl)
    | omega
theorem noffs_facts : ∀ i, i < 12 → (noffs i).length ≤ 5 ∧ (noffs i).length = (mosts i).length ∧ (∀ x ∈ noffs i, x < 11) ∧ (noffs i).Nodup ∧ 0 ∉ noffs i ∧ 5 ∉ noffs i := by
  refine below12 ?_ ?_ ?_ ?_ ?_ ?_ ?_ ?_ ?_ ?_ ?_ ?_ <;> simp [noffs, mosts]
/-- a row of numbers that the call itself made. -/
abbrev iRow (w : World) (base : Nat) (v : Value) (l : List Int) : Prop := w.ownsRow base 3 1 v l.length (l.map (Value.int .i64))
theorem iRow.lit (w : World) (base : Nat) (l : List Int) (cs : Array Value) (hb : base ≤ w.heap.size) (hc : cs.toList = l.map (Value.int .i64)) (hl : l.length ≤ 5) : iRow (w.alloc (.cells cs 3)) base (.slice (some ⟨w.heap.size, 0, none⟩) l.length l.length) l := by
  have hs : cs.size = l.length := by rw [← Array.length_toList, hc, List.length_map]
  have := World.ownsRow_lit (base := base) (e := 3) (size := 1) w cs l.length hb (by unfold maxLen; omega) (by omega)
  rw [hc] at this
  exact this
theorem two_lits (V : World) (base : Nat) (l m : List Int) (cs ds : Array Value) (hb : base ≤ V.heap.size) (hc : cs.toList = l.map (Value.int .i64)) (hd : ds.toList = m.map (Value.int .i64)) (hl : l.length ≤ 5) (hm : m.length ≤ 5) :
    iRow ((V.alloc (.cells cs 3)).alloc (.cells ds 3)) base (.slice (some ⟨V.heap.size, 0, none⟩) l.length l.length) l ∧ iRow ((V.alloc (.cells cs 3)).alloc (.cells ds 3)) base (.slice (some ⟨V.heap.size + 1, 0, none⟩) m.length m.length) m := by
  refine ⟨own_still (iRow.lit V base l cs hb hc hl) (fun g _ hg => (below1 _ _).block g hg), ?_⟩
  have := iRow.lit (V.alloc (.cells cs 3)) base m ds (by simp; omega) hd hm
  rw [World.size_alloc] at this
  exact this
set_option maxRecDepth 20000 in
theorem actNumbers_0 (f : Nat → Int) (w : World) (h : kno (f 0) (f 5) = 0) : Calls Tryd.prog 27 #[aVal f] w fun e w' => ∃ v1 v2, e = .returned (.tuple #[v1, v2]) ∧ iRow w' w.heap.size v1 ((noffs 0).map f) ∧ iRow w' w.heap.size v2 (mosts 0) ∧ Below w.heap.size w w' := by
  obtain ⟨W1, hW1, A1, B1⟩ : ∃ W1, W1 = w.alloc (.cells (aCells f) 27) ∧ aBlock W1 w.heap.size f ∧ Below w.heap.size w W1 := ⟨_, rfl, aBlock.new w f, below1 _ _⟩
  have HC0 := actWord_any f W1
  rw [h] at HC0
  have HC : Calls Tryd.prog 26 #[aVal f] W1 fun e w' => e = .returned (.string ⟨#[109, 97, 107, 101]⟩) ∧ Below W1.heap.size W1 w' := HC0
  clear HC0 h
  obtain ⟨x0, x1, x2, x3, x4, x5, x6, x7, x8, x9, x10⟩ := A1.cells
  have HA := veil A1
  clear A1
  go_enter Tryd.func27, Tryd.ntmps27
  go_upto_region 1 with fail
  rw [← hW1]
  clear hW1
  go_wp2_with (go_at_call 26; refine HC.mono ?_; rintro e V ⟨rfl, bV⟩; clear HC x0 x1 x2 x3 x4 x5 x6 x7 x8 x9 x10; obtain ⟨x0, x1, x2, x3, x4, x5, x6, x7, x8, x9, x10⟩ := ((unveil HA).next bV).cells)
  go_ret2
  obtain ⟨r1, r2⟩ := two_lits V w.heap.size ((noffs 0).map f) (mosts 0) _ _ (Below.next B1 bV).size rfl rfl (by rw [List.length_map]; decide) (by decide)
  exact ⟨_, _, rfl, r1, r2, Below.next (Below.next B1 bV) (below2 _ _ _)⟩
set_option maxRecDepth 20000 in
theorem actNumbers_1 (f : Nat → Int) (w : World) (h : kno (f 0) (f 5) = 1) : Calls Tryd.prog 27 #[aVal f] w fun e w' => ∃ v1 v2, e = .returned (.tuple #[v1, v2]) ∧ iRow w' w.heap.size v1 ((noffs 1).map f) ∧ iRow w' w.heap.size v2 (mosts 1) ∧ Below w.heap.size w w' := by
  obtain ⟨W1, hW1, A1, B1⟩ : ∃ W1, W1 = w.alloc (.cells (aCells f) 27) ∧ aBlock W1 w.heap.size f ∧ Below w.heap.size w W1 := ⟨_, rfl, aBlock.new w f, below1 _ _⟩
  have HC0 := actWord_any f W1
  rw [h] at HC0
  have HC : Calls Tryd.prog 26 #[aVal f] W1 fun e w' => e = .returned (.string ⟨#[109, 111, 118, 101]⟩) ∧ Below W1.heap.size W1 w' := HC0
  clear HC0 h
  obtain ⟨x0, x1, x2, x3, x4, x5, x6, x7, x8, x9, x10⟩ := A1.cells
  have HA := veil A1
  clear A1
  go_enter Tryd.func27, Tryd.ntmps27
  go_upto_region 1 with fail
  rw [← hW1]
  clear hW1
  go_wp2_with (go_at_call 26; refine HC.mono ?_; rintro e V ⟨rfl, bV⟩; clear HC x0 x1 x2 x3 x4 x5 x6 x7 x8 x9 x10; obtain ⟨x0, x1, x2, x3, x4, x5, x6, x7, x8, x9, x10⟩ := ((unveil HA).next bV).cells)
  go_ret2
  obtain ⟨r1, r2⟩ := two_lits V w.heap.size ((noffs 1).map f) (mosts 1) _ _ (Below.next B1 bV).size rfl rfl (by rw [List.length_map]; decide) (by decide)
  exact ⟨_, _, rfl, r1, r2, Below.next (Below.next B1 bV) (below2 _ _ _)⟩
set_option maxRecDepth 20000 in
theorem actNumbers_2 (f : Nat → Int) (w : World) (h : kno (f 0) (f 5) = 2) : Calls Tryd.prog 27 #[aVal f] w fun e w' => ∃ v1 v2, e = .returned (.tuple #[v1, v2]) ∧ iRow w' w.heap.size v1 ((noffs 2).map f) ∧ iRow w' w.heap.size v2 (mosts 2) ∧ Below w.heap.size w w' := by
  obtain ⟨W1, hW1, A1, B1⟩ : ∃ W1, W1 = w.alloc (.cells (aCells f) 27) ∧ aBlock W1 w.heap.size f ∧ Below w.heap.size w W1 := ⟨_, rfl, aBlock.new w f, below1 _ _⟩
  have HC0 := actWord_any f W1
  rw [h] at HC0
  have HC : Calls Tryd.prog 26 #[aVal f] W1 fun e w' => e = .returned (.string ⟨#[115, 116, 101, 112]⟩) ∧ Below W1.heap.size W1 w' := HC0
  clear HC0 h
  obtain ⟨x0, x1, x2, x3, x4, x5, x6, x7, x8, x9, x10⟩ := A1.cells
  have HA := veil A1
  clear A1
  go_enter Tryd.func27, Tryd.ntmps27
  go_upto_region 1 with fail
  rw [← hW1]
  clear hW1
  go_wp2_with (go_at_call 26; refine HC.mono ?_; rintro e V ⟨rfl, bV⟩; clear HC x0 x1 x2 x3 x4 x5 x6 x7 x8 x9 x10; obtain ⟨x0, x1, x2, x3, x4, x5, x6, x7, x8, x9, x10⟩ := ((unveil HA).next bV).cells)
  go_ret2
  obtain ⟨r1, r2⟩ := two_lits V w.heap.size ((noffs 2).map f) (mosts 2) _ _ (Below.next B1 bV).size rfl rfl (by rw [List.length_map]; decide) (by decide)
  exact ⟨_, _, rfl, r1, r2, Below.next (Below.next B1 bV) (below2 _ _ _)⟩
set_option maxRecDepth 20000 in
theorem actNumbers_3 (f : Nat → Int) (w : World) (h : kno (f 0) (f 5) = 3) : Calls Tryd.prog 27 #[aVal f] w fun e w' => ∃ v1 v2, e = .returned (.tuple #[v1, v2]) ∧ iRow w' w.heap.size v1 ((noffs 3).map f) ∧ iRow w' w.heap.size v2 (mosts 3) ∧ Below w.heap.size w w' := by
  obtain ⟨W1, hW1, A1, B1⟩ : ∃ W1, W1 = w.alloc (.cells (aCells f) 27) ∧ aBlock W1 w.heap.size f ∧ Below w.heap.size w W1 := ⟨_, rfl, aBlock.new w f, below1 _ _⟩
  have HC0 := actWord_any f W1
  rw [h] at HC0
  have HC : Calls Tryd.prog 26 #[aVal f] W1 fun e w' => e = .returned (.string ⟨#[115, 116, 97, 114, 116]⟩) ∧ Below W1.heap.size W1 w' := HC0
  clear HC0 h
  obtain ⟨x0, x1, x2, x3, x4, x5, x6, x7, x8, x9, x10⟩ := A1.cells
  have HA := veil A1
  clear A1
  go_enter Tryd.func27, Tryd.ntmps27
  go_upto_region 1 with fail
  rw [← hW1]
  clear hW1
  go_wp2_with (go_at_call 26; refine HC.mono ?_; rintro e V ⟨rfl, bV⟩; clear HC x0 x1 x2 x3 x4 x5 x6 x7 x8 x9 x10; obtain ⟨x0, x1, x2, x3, x4, x5, x6, x7, x8, x9, x10⟩ := ((unveil HA).next bV).cells)
  go_ret2
  obtain ⟨r1, r2⟩ := two_lits V w.heap.size ((noffs 3).map f) (mosts 3) _ _ (Below.next B1 bV).size rfl rfl (by rw [List.length_map]; decide) (by decide)
  exact ⟨_, _, rfl, r1, r2, Below.next (Below.next B1 bV) (below2 _ _ _)⟩
set_option maxRecDepth 20000 in
theorem actNumbers_4 (f : Nat → Int) (w : World) (h : kno (f 0) (f 5) = 4) : Calls Tryd.prog 27 #[aVal f] w fun e w' => ∃ v1 v2, e = .returned (.tuple #[v1, v2]) ∧ iRow w' w.heap.size v1 ((noffs 4).map f) ∧ iRow w' w.heap.size v2 (mosts 4) ∧ Below w.heap.size w w' := by
  obtain ⟨W1, hW1, A1, B1⟩ : ∃ W1, W1 = w.alloc (.cells (aCells f) 27) ∧ aBlock W1 w.heap.size f ∧ Below w.heap.size w W1 := ⟨_, rfl, aBlock.new w f, below1 _ _⟩
  have HC0 := actWord_any f W1
  rw [h] at HC0
  have HC : Calls Tryd.prog 26 #[aVal f] W1 fun e w' => e = .returned (.string ⟨#[99, 114, 97, 115, 104]⟩) ∧ Below W1.heap.size W1 w' := HC0
  clear HC0 h
  obtain ⟨x0, x1, x2, x3, x4, x5, x6, x7, x8, x9, x10⟩ := A1.cells
  have HA := veil A1
  clear A1
  go_enter Tryd.func27, Tryd.ntmps27
  go_upto_region 1 with fail
  rw [← hW1]
  clear hW1
  go_wp2_with (go_at_call 26; refine HC.mono ?_; rintro e V ⟨rfl, bV⟩; clear HC x0 x1 x2 x3 x4 x5 x6 x7 x8 x9 x10; obtain ⟨x0, x1, x2, x3, x4, x5, x6, x7, x8, x9, x10⟩ := ((unveil HA).next bV).cells)
  go_ret2
  obtain ⟨r1, r2⟩ := two_lits V w.heap.size ((noffs 4).map f) (mosts 4) _ _ (Below.next B1 bV).size rfl rfl (by rw [List.length_map]; decide) (by decide)
  exact ⟨_, _, rfl, r1, r2, Below.next (Below.next B1 bV) (below2 _ _ _)⟩
set_option maxRecDepth 20000 in
theorem actNumbers_5 (f : Nat → Int) (w : World) (h : kno (f 0) (f 5) = 5) : Calls Tryd.prog 27 #[aVal f] w fun e w' => ∃ v1 v2, e = .returned (.tuple #[v1, v2]) ∧ iRow w' w.heap.size v1 ((noffs 5).map f) ∧ iRow w' w.heap.size v2 (mosts 5) ∧ Below w.heap.size w w' := by
  obtain ⟨W1, hW1, A1, B1⟩ : ∃ W1, W1 = w.alloc (.cells (aCells f) 27) ∧ aBlock W1 w.heap.size f ∧ Below w.heap.size w W1 := ⟨_, rfl, aBlock.new w f, below1 _ _⟩
  have HC0 := actWord_any f W1
  rw [h] at HC0
  have HC : Calls Tryd.prog 26 #[aVal f] W1 fun e w' => e = .returned (.string ⟨#[99, 97, 114, 114, 121]⟩) ∧ Below W1.heap.size W1 w' := HC0
  clear HC0 h
  obtain ⟨x0, x1, x2, x3, x4, x5, x6, x7, x8, x9, x10⟩ := A1.cells
  have HA := veil A1
  clear A1
  go_enter Tryd.func27, Tryd.ntmps27
  go_upto_region 1 with fail
  rw [← hW1]
  clear hW1
  go_wp2_with (go_at_call 26; refine HC.mono ?_; rintro e V ⟨rfl, bV⟩; clear HC x0 x1 x2 x3 x4 x5 x6 x7 x8 x9 x10; obtain ⟨x0, x1, x2, x3, x4, x5, x6, x7, x8, x9, x10⟩ := ((unveil HA).next bV).cells)
  go_ret2
  obtain ⟨r1, r2⟩ := two_lits V w.heap.size ((noffs 5).map f) (mosts 5) _ _ (Below.next B1 bV).size rfl rfl (by rw [List.length_map]; decide) (by decide)
  exact ⟨_, _, rfl, r1, r2, Below.next (Below.next B1 bV) (below2 _ _ _)⟩
set_option maxRecDepth 20000 in
theorem actNumbers_6 (f : Nat → Int) (w : World) (h : kno (f 0) (f 5) = 6) : Calls Tryd.prog 27 #[aVal f] w fun e w' => ∃ v1 v2, e = .returned (.tuple #[v1, v2]) ∧ iRow w' w.heap.size v1 ((noffs 6).map f) ∧ iRow w' w.heap.size v2 (mosts 6) ∧ Below w.heap.size w w' := by
  obtain ⟨W1, hW1, A1, B1⟩ : ∃ W1, W1 = w.alloc (.cells (aCells f) 27) ∧ aBlock W1 w.heap.size f ∧ Below w.heap.size w W1 := ⟨_, rfl, aBlock.new w f, below1 _ _⟩
  have HC0 := actWord_any f W1
  rw [h] at HC0
  have HC : Calls Tryd.prog 26 #[aVal f] W1 fun e w' => e = .returned (.string ⟨#[108, 111, 115, 101]⟩) ∧ Below W1.heap.size W1 w' := HC0
  clear HC0 h
  obtain ⟨x0, x1, x2, x3, x4, x5, x6, x7, x8, x9, x10⟩ := A1.cells
  have HA := veil A1
  clear A1
  go_enter Tryd.func27, Tryd.ntmps27
  go_upto_region 1 with fail
  rw [← hW1]
  clear hW1
  go_wp2_with (go_at_call 26; refine HC.mono ?_; rintro e V ⟨rfl, bV⟩; clear HC x0 x1 x2 x3 x4 x5 x6 x7 x8 x9 x10; obtain ⟨x0, x1, x2, x3, x4, x5, x6, x7, x8, x9, x10⟩ := ((unveil HA).next bV).cells)
  go_ret2
  obtain ⟨r1, r2⟩ := two_lits V w.heap.size ((noffs 6).map f) (mosts 6) _ _ (Below.next B1 bV).size rfl rfl (by rw [List.length_map]; decide) (by decide)
  exact ⟨_, _, rfl, r1, r2, Below.next (Below.next B1 bV) (below2 _ _ _)⟩
set_option maxRecDepth 20000 in
theorem actNumbers_7 (f : Nat → Int) (w : World) (h : kno (f 0) (f 5) = 7) : Calls Tryd.prog 27 #[aVal f] w fun e w' => ∃ v1 v2, e = .returned (.tuple #[v1, v2]) ∧ iRow w' w.heap.size v1 ((noffs 7).map f) ∧ iRow w' w.heap.size v2 (mosts 7) ∧ Below w.heap.size w w' := by
  obtain ⟨W1, hW1, A1, B1⟩ : ∃ W1, W1 = w.alloc (.cells (aCells f) 27) ∧ aBlock W1 w.heap.size f ∧ Below w.heap.size w W1 := ⟨_, rfl, aBlock.new w f, below1 _ _⟩
  have HC0 := actWord_any f W1
  rw [h] at HC0
  have HC : Calls Tryd.prog 26 #[aVal f] W1 fun e w' => e = .returned (.string ⟨#[100, 111, 117, 98, 108, 101]⟩) ∧ Below W1.heap.size W1 w' := HC0
  clear HC0 h
  obtain ⟨x0, x1, x2, x3, x4, x5, x6, x7, x8, x9, x10⟩ := A1.cells
  have HA := veil A1
  clear A1
  go_enter Tryd.func27, Tryd.ntmps27
  go_upto_region 1 with fail
  rw [← hW1]
  clear hW1
  go_wp2_with (go_at_call 26; refine HC.mono ?_; rintro e V ⟨rfl, bV⟩; clear HC x0 x1 x2 x3 x4 x5 x6 x7 x8 x9 x10; obtain ⟨x0, x1, x2, x3, x4, x5, x6, x7, x8, x9, x10⟩ := ((unveil HA).next bV).cells)
  go_ret2
  obtain ⟨r1, r2⟩ := two_lits V w.heap.size ((noffs 7).map f) (mosts 7) _ _ (Below.next B1 bV).size rfl rfl (by rw [List.length_map]; decide) (by decide)
  exact ⟨_, _, rfl, r1, r2, Below.next (Below.next B1 bV) (below2 _ _ _)⟩
set_option maxRecDepth 20000 in
theorem actNumbers_8 (f : Nat → Int) (w : World) (h : kno (f 0) (f 5) = 8) : Calls Tryd.prog 27 #[aVal f] w fun e w' => ∃ v1 v2, e = .returned (.tuple #[v1, v2]) ∧ iRow w' w.heap.size v1 ((noffs 8).map f) ∧ iRow w' w.heap.size v2 (mosts 8) ∧ Below w.heap.size w w' := by
  obtain ⟨W1, hW1, A1, B1⟩ : ∃ W1, W1 = w.alloc (.cells (aCells f) 27) ∧ aBlock W1 w.heap.size f ∧ Below w.heap.size w W1 := ⟨_, rfl, aBlock.new w f, below1 _ _⟩
  have HC0 := actWord_any f W1
  rw [h] at HC0
  have HC : Calls Tryd.prog 26 #[aVal f] W1 fun e w' => e = .returned (.string ⟨#[97, 108, 108]⟩) ∧ Below W1.heap.size W1 w' := HC0
  clear HC0 h
  obtain ⟨x0, x1, x2, x3, x4, x5, x6, x7, x8, x9, x10⟩ := A1.cells
  have HA := veil A1
  clear A1
  go_enter Tryd.func27, Tryd.ntmps27
  go_upto_region 1 with fail
  rw [← hW1]
  clear hW1
  go_wp2_with (go_at_call 26; refine HC.mono ?_; rintro e V ⟨rfl, bV⟩; clear HC x0 x1 x2 x3 x4 x5 x6 x7 x8 x9 x10; obtain ⟨x0, x1, x2, x3, x4, x5, x6, x7, x8, x9, x10⟩ := ((unveil HA).next bV).cells)
  go_ret2
  exact ⟨_, _, rfl, World.ownsRow_nil _ _ _ _, World.ownsRow_nil _ _ _ _, Below.next B1 bV⟩
set_option maxRecDepth 20000 in
theorem actNumbers_9 (f : Nat → Int) (w : World) (h : kno (f 0) (f 5) = 9) : Calls Tryd.prog 27 #[aVal f] w fun e w' => ∃ v1 v2, e = .returned (.tuple #[v1, v2]) ∧ iRow w' w.heap.size v1 ((noffs 9).map f) ∧ iRow w' w.heap.size v2 (mosts 9) ∧ Below w.heap.size w w' := by
  obtain ⟨W1, hW1, A1, B1⟩ : ∃ W1, W1 = w.alloc (.cells (aCells f) 27) ∧ aBlock W1 w.heap.size f ∧ Below w.heap.size w W1 := ⟨_, rfl, aBlock.new w f, below1 _ _⟩
  have HC0 := actWord_any f W1
  rw [h] at HC0
  have HC : Calls Tryd.prog 26 #[aVal f] W1 fun e w' => e = .returned (.string ⟨#[112, 117, 98, 108, 105, 115, 104]⟩) ∧ Below W1.heap.size W1 w' := HC0
  clear HC0 h
  obtain ⟨x0, x1, x2, x3, x4, x5, x6, x7, x8, x9, x10⟩ := A1.cells
  have HA := veil A1
  clear A1
  go_enter Tryd.func27, Tryd.ntmps27
  go_upto_region 1 with fail
  rw [← hW1]
  clear hW1
  go_wp2_with (go_at_call 26; refine HC.mono ?_; rintro e V ⟨rfl, bV⟩; clear HC x0 x1 x2 x3 x4 x5 x6 x7 x8 x9 x10; obtain ⟨x0, x1, x2, x3, x4, x5, x6, x7, x8, x9, x10⟩ := ((unveil HA).next bV).cells)
  go_ret2
  obtain ⟨r1, r2⟩ := two_lits V w.heap.size ((noffs 9).map f) (mosts 9) _ _ (Below.next B1 bV).size rfl rfl (by rw [List.length_map]; decide) (by decide)
  exact ⟨_, _, rfl, r1, r2, Below.next (Below.next B1 bV) (below2 _ _ _)⟩
set_option maxRecDepth 20000 in
theorem actNumbers_10 (f : Nat → Int) (w : World) (h : kno (f 0) (f 5) = 10) : Calls Tryd.prog 27 #[aVal f] w fun e w' => ∃ v1 v2, e = .returned (.tuple #[v1, v2]) ∧ iRow w' w.heap.size v1 ((noffs 10).map f) ∧ iRow w' w.heap.size v2 (mosts 10) ∧ Below w.heap.size w w' := by
  obtain ⟨W1, hW1, A1, B1⟩ : ∃ W1, W1 = w.alloc (.cells (aCells f) 27) ∧ aBlock W1 w.heap.size f ∧ Below w.heap.size w W1 := ⟨_, rfl, aBlock.new w f, below1 _ _⟩
  have HC0 := actWord_any f W1
  rw [h] at HC0
  have HC : Calls Tryd.prog 26 #[aVal f] W1 fun e w' => e = .returned (.string ⟨#[114, 101, 99, 101, 105, 118, 101]⟩) ∧ Below W1.heap.size W1 w' := HC0
  clear HC0 h
  obtain ⟨x0, x1, x2, x3, x4, x5, x6, x7, x8, x9, x10⟩ := A1.cells
  have HA := veil A1
  clear A1
  go_enter Tryd.func27, Tryd.ntmps27
  go_upto_region 1 with fail
  rw [← hW1]
  clear hW1
  go_wp2_with (go_at_call 26; refine HC.mono ?_; rintro e V ⟨rfl, bV⟩; clear HC x0 x1 x2 x3 x4 x5 x6 x7 x8 x9 x10; obtain ⟨x0, x1, x2, x3, x4, x5, x6, x7, x8, x9, x10⟩ := ((unveil HA).next bV).cells)
  go_ret2
  obtain ⟨r1, r2⟩ := two_lits V w.heap.size ((noffs 10).map f) (mosts 10) _ _ (Below.next B1 bV).size rfl rfl (by rw [List.length_map]; decide) (by decide)
  exact ⟨_, _, rfl, r1, r2, Below.next (Below.next B1 bV) (below2 _ _ _)⟩
set_option maxRecDepth 20000 in
theorem actNumbers_11 (f : Nat → Int) (w : World) (h : kno (f 0) (f 5) = 11) : Calls Tryd.prog 27 #[aVal f] w fun e w' => ∃ v1 v2, e = .returned (.tuple #[v1, v2]) ∧ iRow w' w.heap.size v1 ((noffs 11).map f) ∧ iRow w' w.heap.size v2 (mosts 11) ∧ Below w.heap.size w w' := by
  obtain ⟨W1, hW1, A1, B1⟩ : ∃ W1, W1 = w.alloc (.cells (aCells f) 27) ∧ aBlock W1 w.heap.size f ∧ Below w.heap.size w W1 := ⟨_, rfl, aBlock.new w f, below1 _ _⟩
  have HC0 := actWord_any f W1
  rw [h] at HC0
  have HC : Calls Tryd.prog 26 #[aVal f] W1 fun e w' => e = .returned (.string ⟨#[97, 99, 107]⟩) ∧ Below W1.heap.size W1 w' := HC0
  clear HC0 h
  obtain ⟨x0, x1, x2, x3, x4, x5, x6, x7, x8, x9, x10⟩ := A1.cells
  have HA := veil A1
  clear A1
  go_enter Tryd.func27, Tryd.ntmps27
  go_upto_region 1 with fail
  rw [← hW1]
  clear hW1
  go_wp2_with (go_at_call 26; refine HC.mono ?_; rintro e V ⟨rfl, bV⟩; clear HC x0 x1 x2 x3 x4 x5 x6 x7 x8 x9 x10; obtain ⟨x0, x1, x2, x3, x4, x5, x6, x7, x8, x9, x10⟩ := ((unveil HA).next bV).cells)
  go_ret2
  obtain ⟨r1, r2⟩ := two_lits V w.heap.size ((noffs 11).map f) (mosts 11) _ _ (Below.next B1 bV).size rfl rfl (by rw [List.length_map]; decide) (by decide)
  exact ⟨_, _, rfl, r1, r2, Below.next (Below.next B1 bV) (below2 _ _ _)⟩
set_option maxRecDepth 20000 in
theorem actNumbers_12 (f : Nat → Int) (w : World) (h : kno (f 0) (f 5) = 12) : Calls Tryd.prog 27 #[aVal f] w fun e w' => ∃ v1 v2, e = .returned (.tuple #[v1, v2]) ∧ iRow w' w.heap.size v1 ((noffs 12).map f) ∧ iRow w' w.heap.size v2 (mosts 12) ∧ Below w.heap.size w w' := by
  obtain ⟨W1, hW1, A1, B1⟩ : ∃ W1, W1 = w.alloc (.cells (aCells f) 27) ∧ aBlock W1 w.heap.size f ∧ Below w.heap.size w W1 := ⟨_, rfl, aBlock.new w f, below1 _ _⟩
  have HC0 := actWord_any f W1
  rw [h] at HC0
  have HC : Calls Tryd.prog 26 #[aVal f] W1 fun e w' => e = .returned (.string ⟨#[]⟩) ∧ Below W1.heap.size W1 w' := HC0
  clear HC0 h
  obtain ⟨x0, x1, x2, x3, x4, x5, x6, x7, x8, x9, x10⟩ := A1.cells
  have HA := veil A1
  clear A1
  go_enter Tryd.func27, Tryd.ntmps27
  go_upto_region 1 with fail
  rw [← hW1]
  clear hW1
  go_wp2_with (go_at_call 26; refine HC.mono ?_; rintro e V ⟨rfl, bV⟩; clear HC x0 x1 x2 x3 x4 x5 x6 x7 x8 x9 x10; obtain ⟨x0, x1, x2, x3, x4, x5, x6, x7, x8, x9, x10⟩ := ((unveil HA).next bV).cells)
  go_ret2
  exact ⟨_, _, rfl, World.ownsRow_nil _ _ _ _, World.ownsRow_nil _ _ _ _, Below.next B1 bV⟩
theorem actNumbers_any (f : Nat → Int) (w : World) : Calls Tryd.prog 27 #[aVal f] w fun e w' => ∃ v1 v2, e = .returned (.tuple #[v1, v2]) ∧ iRow w' w.heap.size v1 ((noffs (kno (f 0) (f 5))).map f) ∧ iRow w' w.heap.size v2 (mosts (kno (f 0) (f 5))) ∧ Below w.heap.size w w' := by
  rcases kno_cases (f 0) (f 5) with ⟨_, g⟩ | ⟨_, g⟩ | ⟨_, g⟩ | ⟨_, g⟩ | ⟨_, g⟩ | ⟨_, g⟩ | ⟨_, g⟩ | ⟨_, g⟩ | ⟨_, g⟩ | ⟨_, _, g⟩ | ⟨_, _, g⟩ | ⟨_, _, g⟩ | ⟨g, _⟩
  · rw [g]; exact actNumbers_0 f w g
  · rw [g]; exact actNumbers_1 f w g
  · rw [g]; exact actNumbers_2 f w g
  · rw [g]; exact actNumbers_3 f w g
  · rw [g]; exact actNumbers_4 f w g
  · rw [g]; exact actNumbers_5 f w g
  · rw [g]; exact actNumbers_6 f w g
  · rw [g]; exact actNumbers_7 f w g
  · rw [g]; exact actNumbers_8 f w g
  · rw [g]; exact actNumbers_9 f w g
  · rw [g]; exact actNumbers_10 f w g
  · rw [g]; exact actNumbers_11 f w g
  · rw [g]; exact actNumbers_12 f w g
end Go.Proofs.YtekbdkppnjnaaaaDoor
