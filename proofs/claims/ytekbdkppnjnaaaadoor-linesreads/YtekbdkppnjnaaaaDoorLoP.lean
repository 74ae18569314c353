/- Plain facts on a line's words, and on what the document makes of them. -/
import Derived.Test.YtekbdkppnjnaaaaDoorLoN
import Derived.Test.YtekbdkppnjnaaaaDoorLoO
namespace Go.Proofs.YtekbdkppnjnaaaaDoor
open Go.RowKit

/-- words, a blank behind each. -/
def flatB (ws : List (List UInt8)) : List UInt8 := ws.flatMap (· ++ [32])
theorem flatB_cons (x : List UInt8) (ws : List (List UInt8)) : flatB (x :: ws) = x ++ (32 :: flatB ws) := by simp [flatB]
theorem flatB_snoc (ws : List (List UInt8)) (x : List UInt8) : flatB (ws ++ [x]) = flatB ws ++ (x ++ [32]) := by simp [flatB]
theorem flatB_inj : ∀ (ws vs : List (List UInt8)), (∀ x ∈ ws, (32 : UInt8) ∉ x) → (∀ x ∈ vs, (32 : UInt8) ∉ x) → flatB ws = flatB vs → ws = vs
  | [], [], _, _, _ => rfl
  | [], y :: vs, _, _, h => by rw [flatB_cons] at h; exact absurd (congrArg List.length h) (by simp [flatB])
  | x :: ws, [], _, _, h => by rw [flatB_cons] at h; exact absurd (congrArg List.length h) (by simp [flatB])
  | x :: ws, y :: vs, h1, h2, h => by
    rw [flatB_cons, flatB_cons] at h
    obtain ⟨e1, e2⟩ := word_eq (h1 x (List.mem_cons_self ..)) (h2 y (List.mem_cons_self ..)) (.inr ⟨_, rfl⟩) (.inr ⟨_, rfl⟩) h
    rw [e1, flatB_inj ws vs (fun z hz => h1 z (List.mem_cons_of_mem _ hz)) (fun z hz => h2 z (List.mem_cons_of_mem _ hz)) (List.cons.inj e2).2]
/-- a line's words. -/
structure Words (s : List UInt8) (ws : List (List UInt8)) : Prop where
  no : ∀ x ∈ ws, (32 : UInt8) ∉ x
  eq : s ++ [32] = flatB ws
theorem nums_flat : ∀ l : List Int, numsL l ++ [32] = 32 :: flatB (l.map fun z => Lib.decDigits z.toNat)
  | [] => rfl
  | z :: l => by
    rw [List.map_cons, flatB_cons, ← nums_flat l]
    simp [numsL]
theorem line_words {f : Nat → Int} (h : chk f = 0) : Words (lineL f) (wordL (kno (f 0) (f 5)) :: ((noffs (kno (f 0) (f 5))).map f).map fun z => Lib.decDigits z.toNat) := by
  refine ⟨fun x hx => ?_, ?_⟩
  · rcases List.mem_cons.1 hx with rfl | hx
    · exact (word_no _ (chk_nums h).1).1
    · obtain ⟨z, _, rfl⟩ := List.mem_map.1 hx
      exact dec_no (by decide) _
  · rw [flatB_cons, ← nums_flat]
    simp [lineL]
theorem Words.uniq {s : List UInt8} {ws vs : List (List UInt8)} (h : Words s ws) (h' : Words s vs) : ws = vs := flatB_inj _ _ h.no h'.no (h.eq.symm.trans h'.eq)
theorem Words.ne {s : List UInt8} {ws : List (List UInt8)} (h : Words s ws) : ws ≠ [] := fun e => by
  have := h.eq
  rw [e] at this
  exact absurd (congrArg List.length this) (by simp [flatB])
/-- whole and digits. -/
theorem whole_dec (u : Nat) (h : u ≤ 1073741824) : wholeI (Lib.decDigits u) = (u : Int) := by
  have hl := dec_len u 9 (by omega)
  have hne := dec_ne u
  unfold wholeI
  rw [if_neg, dec_from]
  intro e
  rcases e with e | e | ⟨e, e'⟩
  · exact hne (List.length_eq_zero_iff.1 e)
  · omega
  · have := dec_of _ (Lib.decDigits u) rfl hne
    by_cases h10 : u < 10
    · rw [Lib.decDigits, dif_pos h10] at e'
      simp at e'
    · have hh : ∀ n, ¬ n < 10 → (Lib.decDigits n).head? = (Lib.decDigits (n / 10)).head? := fun n hn => by
        conv => lhs; rw [Lib.decDigits, dif_neg hn]
        cases hd : Lib.decDigits (n / 10) with
        | nil => exact absurd hd (dec_ne _)
        | cons a b => rfl
      have h48 : ∀ n, 0 < n → ¬ (Lib.decDigits n).head? = some 48 := by
        intro n
        induction n using Nat.strongRecOn with
        | ind n ih =>
          intro hn hc
          by_cases h1 : n < 10
          · rw [Lib.decDigits, dif_pos h1] at hc
            have hc' : UInt8.ofNat (48 + n) = 48 := Option.some.inj hc
            have := congrArg UInt8.toNat hc'
            rw [ofNat_toNat (by omega)] at this
            have h48 : (48 : UInt8).toNat = 48 := rfl
            omega
          · rw [hh n h1] at hc
            exact ih (n / 10) (by omega) (by omega) hc
      exact h48 u (by omega) e
theorem whole_ge {l : List UInt8} (h : 0 ≤ wholeI l) : l = Lib.decDigits (wholeI l).toNat := by
  unfold wholeI at h ⊢
  by_cases hc : l.length = 0 ∨ 10 < l.length ∨ (l.head? = some 48 ∧ 1 < l.length)
  · rw [if_pos hc] at h; omega
  · rw [if_neg hc] at h ⊢
    have h1 : ¬ l.length = 0 := fun e => hc (.inl e)
    have h3 : l.length = 1 ∨ l.head? ≠ some 48 := by
      by_cases e : l.head? = some 48
      · exact .inl (by
          have : ¬ 1 < l.length := fun e' => hc (.inr (.inr ⟨e, e'⟩))
          omega)
      · exact .inr e
    cases hd : Lib.decFrom 0 l with
    | none => rw [hd] at h; simp at h
    | some m =>
      simp only [Int.toNat_natCast]
      exact dec_of _ l rfl (fun e => h1 (by rw [e]; rfl)) h3 m hd
theorem wholeI_bounds (l : List UInt8) : -1 ≤ wholeI l := by
  unfold wholeI
  split
  · omega
  · split <;> omega
/-- what the document makes of a line (without its line feed). -/
def LineR (s : List UInt8) (f : Nat → Int) : Prop := (chk f = 0 ∧ s = lineL f) ∨ (f 0 = 0 ∧ ∀ g, chk g = 0 → ¬ s = lineL g)
theorem lineR_word {s : List UInt8} {ws : List (List UInt8)} (h : Words s ws) (hno : ∀ j, j < 12 → ¬ some (wordL (bOrd j)) = ws[0]?) : ∀ g, chk g = 0 → ¬ s = lineL g := fun g hg e => by
  subst e
  obtain ⟨j, hj, hb⟩ := bOrd_all _ (chk_nums hg).1
  refine hno j hj ?_
  rw [h.uniq (line_words hg), hb]
  rfl
theorem lineR_kind {s : List UInt8} {ws : List (List UInt8)} {i : Nat} (h : Words s ws) (hi : i < 12) (hw : some (wordL i) = ws[0]?) {g : Nat → Int} (hg : chk g = 0) (e : s = lineL g) : kno (g 0) (g 5) = i ∧ ws = wordL i :: ((noffs i).map g).map fun z => Lib.decDigits z.toNat := by
  subst e
  have hu := h.uniq (line_words hg)
  rw [hu] at hw
  have hk : i = kno (g 0) (g 5) := word_inj _ hi _ (chk_nums hg).1 (by simpa using hw)
  subst hk
  exact ⟨rfl, hu⟩
theorem lineR_len {s : List UInt8} {ws : List (List UInt8)} {i : Nat} (h : Words s ws) (hi : i < 12) (hw : some (wordL i) = ws[0]?) (hl : ¬ ws.length = (noffs i).length + 1) : ∀ g, chk g = 0 → ¬ s = lineL g := fun g hg e => by
  have := (lineR_kind h hi hw hg e).2
  exact hl (by rw [this]; simp)
/-- the act of the words. -/
theorem lineR_act {s : List UInt8} {ws : List (List UInt8)} {i : Nat} {h : Nat → Int} (hW : Words s ws) (hi : i < 12) (hw : some (wordL i) = ws[0]?) (hl : ws.length = (noffs i).length + 1) (hh : ∀ m (hm : m < (noffs i).length), h (noffs i)[m] = wholeI (ws[m + 1]'(by omega))) :
    (refFault (over (noffs i) (bareK i) h) = 0 → chk (over (noffs i) (bareK i) h) = 0 ∧ s = lineL (over (noffs i) (bareK i) h)) ∧ (¬ refFault (over (noffs i) (bareK i) h) = 0 → ∀ g, chk g = 0 → ¬ s = lineL g) := by
  obtain ⟨_, _, _, _, n0, n5⟩ := noffs_facts i hi
  obtain ⟨f, hf⟩ : ∃ f, f = over (noffs i) (bareK i) h := ⟨_, rfl⟩
  rw [← hf]
  have hk : kno (f 0) (f 5) = i := by
    rw [hf]
    unfold over
    rw [if_neg n0, if_neg n5]
    exact bare_kno i hi
  have hfm : ∀ m (hm : m < (noffs i).length), f (noffs i)[m] = wholeI (ws[m + 1]'(by omega)) := fun m hm => by
    rw [hf]
    unfold over
    rw [if_pos (List.getElem_mem hm)]
    exact hh m hm
  refine ⟨fun hr => ?_, fun hr g hg e => hr ?_⟩
  · have hc : chk f = 0 := by rw [chk_ref]; exact hr
    refine ⟨hc, ?_⟩
    have hb := (chk_nums hc).2
    rw [hk] at hb
    have hws : ws = wordL i :: ((noffs i).map f).map fun z => Lib.decDigits z.toNat := by
      refine List.ext_getElem (by rw [hl]; simp) fun m h1 h2 => ?_
      cases m with
      | zero =>
        rw [List.getElem?_eq_getElem (by omega)] at hw
        simpa using (Option.some.inj hw).symm
      | succ m =>
        have hm : m < (noffs i).length := by omega
        have h0 := (hb (f (noffs i)[m]) (List.mem_map_of_mem (List.getElem_mem hm))).1
        have e1 := hfm m hm
        rw [e1] at h0
        simp only [List.getElem_cons_succ, List.getElem_map]
        rw [e1]
        exact whole_ge h0
    have h1 := hW.eq
    have h2 := (line_words hc).eq
    rw [hk, ← hws] at h2
    exact List.append_cancel_right (h1.trans h2.symm)
  · obtain ⟨hkg, hws⟩ := lineR_kind hW hi hw hg e
    have hb := (chk_nums hg).2
    rw [hkg] at hb
    have hfg : ∀ j, j < 11 → g j = f j := by
      refine act_eq hg hkg (fun j hj hn => ?_) ?_
      · rw [hf]
        unfold over
        rw [if_neg hn]
      · refine List.ext_getElem (by simp) fun m h1 h2 => ?_
        have hm : m < (noffs i).length := by simpa using h1
        have hbm := hb (g (noffs i)[m]) (List.mem_map_of_mem (List.getElem_mem hm))
        simp only [List.getElem_map]
        rw [hfm m hm]
        have ew : ws[m + 1]'(by omega) = Lib.decDigits (g (noffs i)[m]).toNat := by
          have := congrArg (fun l => l[m + 1]?) hws
          simpa [hm, show m + 1 < ws.length by omega] using this
        rw [ew, whole_dec _ (by omega)]
        omega
    rw [← chk_ref]
    exact chk_ext hfg hg
/-- how far the words are found. -/
structure Wat (s : List UInt8) (ws : List (List UInt8)) (fr i : Nat) : Prop where
  no : ∀ x ∈ ws, (32 : UInt8) ∉ x
  eq : (s ++ [32]).take fr = flatB ws
  le : fr ≤ i
  clear : (32 : UInt8) ∉ ((s ++ [32]).drop fr).take (i - fr)
theorem Wat.first (s : List UInt8) : Wat s [] 0 0 := ⟨(fun x hx => by cases hx), rfl, Nat.le_refl _, by simp⟩
theorem take_next {l : List UInt8} {a i : Nat} (ha : a ≤ i) (hi : i < l.length) : (l.drop a).take (i + 1 - a) = (l.drop a).take (i - a) ++ [l[i]] := by
  rw [show i + 1 - a = (i - a) + 1 by omega, List.take_add_one, List.getElem?_drop, show a + (i - a) = i by omega, List.getElem?_eq_getElem hi]
  rfl
theorem Wat.on {s : List UInt8} {ws : List (List UInt8)} {fr i : Nat} (h : Wat s ws fr i) (hi : i < s.length) (hc : ¬ s[i] = 32) : Wat s ws fr (i + 1) := by
  refine ⟨h.no, h.eq, by have := h.le; omega, ?_⟩
  rw [take_next h.le (by simp; omega)]
  intro e
  rcases List.mem_append.1 e with e | e
  · exact h.clear e
  · rw [List.mem_singleton, List.getElem_append_left hi] at e
    exact hc e.symm
theorem Wat.word {s : List UInt8} {ws : List (List UInt8)} {fr i : Nat} (h : Wat s ws fr i) (hi : i ≤ s.length) (hc : (s ++ [32])[i]? = some 32) : Wat s (ws ++ [(s.drop fr).take (i - fr)]) (i + 1) (i + 1) := by
  have hle := h.le
  have hsub : ((s ++ [32]).drop fr).take (i - fr) = (s.drop fr).take (i - fr) := by
    rw [List.drop_append, List.take_append_of_le_length (by rw [List.length_drop]; omega)]
  refine ⟨fun x hx => ?_, ?_, Nat.le_refl _, by simp⟩
  · rcases List.mem_append.1 hx with hx | hx
    · exact h.no x hx
    · rw [List.mem_singleton.1 hx, ← hsub]
      exact h.clear
  · rw [flatB_snoc, ← h.eq, ← hsub]
    have hi2 : i < (s ++ [32]).length := by simp; omega
    have e1 : (s ++ [32]).take (i + 1) = (s ++ [32]).take i ++ [32] := by
      rw [List.take_add_one, hc]; rfl
    have e2 : (s ++ [32]).take i = (s ++ [32]).take fr ++ ((s ++ [32]).drop fr).take (i - fr) := by
      have := List.take_add (l := s ++ [32]) (i := fr) (j := i - fr)
      rwa [show fr + (i - fr) = i by omega] at this
    rw [e1, e2, List.append_assoc]
theorem Wat.last {s : List UInt8} {ws : List (List UInt8)} {fr : Nat} (h : Wat s ws fr (s.length + 1)) (hf : fr = s.length + 1) : Words s ws := by
  refine ⟨h.no, ?_⟩
  have := h.eq
  rw [hf, List.take_of_length_le (by simp)] at this
  exact this
end Go.Proofs.YtekbdkppnjnaaaaDoor
