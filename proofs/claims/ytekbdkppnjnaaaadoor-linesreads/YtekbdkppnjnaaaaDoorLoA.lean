/- Plain facts on lines: where a blank cuts, digits, and that no act has two lines. -/
import Derived.Test.YtekbdkppnjnaaaaDoorLnU
import Derived.Lib.IndexMore
import Derived.Lib.AtoiTie
namespace Go.Proofs.YtekbdkppnjnaaaaDoor
open Go.RowKit

theorem index_miss {c : UInt8} : ∀ {s : List UInt8}, c ∉ s → Lib.index s [c] = -1
  | [], _ => rfl
  | x :: s, h => by
    have h1 : ¬ c = x := fun e => h (e ▸ List.mem_cons_self ..)
    have h2 := index_miss (s := s) (fun e => h (List.mem_cons_of_mem _ e))
    simp [Lib.index, List.isPrefixOf, h1, h2]
theorem index_hit {c : UInt8} : ∀ {a : List UInt8} {b : List UInt8}, c ∉ a → Lib.index (a ++ c :: b) [c] = a.length
  | [], b, _ => by simp [Lib.index, List.isPrefixOf]
  | x :: a, b, h => by
    have h1 : ¬ c = x := fun e => h (e ▸ List.mem_cons_self ..)
    have h2 := index_hit (a := a) (b := b) (fun e => h (List.mem_cons_of_mem _ e))
    have h3 : ¬ ((a.length : Int) = -1) := by omega
    simp [Lib.index, List.isPrefixOf, h1, h2, h3]
theorem cut_miss {c : UInt8} {s : List UInt8} (h : c ∉ s) : Lib.cut s [c] = (s, [], false) := by
  unfold Lib.cut
  rw [index_miss h]
  rfl
theorem cut_hit {c : UInt8} {a b : List UInt8} (h : c ∉ a) : Lib.cut (a ++ c :: b) [c] = (a, b, true) := by
  unfold Lib.cut
  rw [index_hit h, if_pos (by omega)]
  have : ((a.length : Int)).toNat = a.length := by omega
  rw [this]
  simp
/-- what opens with a blank, or is nothing. -/
def Opens (x : List UInt8) : Prop := x = [] ∨ ∃ r, x = 32 :: r
theorem cut_word {a x : List UInt8} (h : (32 : UInt8) ∉ a) (hx : Opens x) : (Lib.cut (a ++ x) [32]).1 = a ∧ (Lib.cut (a ++ x) [32]).2.1 = x.drop 1 := by
  rcases hx with rfl | ⟨r, rfl⟩
  · rw [List.append_nil, cut_miss h]
    exact ⟨rfl, rfl⟩
  · rw [cut_hit h]
    exact ⟨rfl, rfl⟩
theorem word_eq {a b x y : List UInt8} (ha : (32 : UInt8) ∉ a) (hb : (32 : UInt8) ∉ b) (hx : Opens x) (hy : Opens y) (h : a ++ x = b ++ y) : a = b ∧ x = y := by
  have h1 := (cut_word ha hx).1
  rw [h, (cut_word hb hy).1] at h1
  refine ⟨h1.symm, ?_⟩
  rw [← h1] at h
  exact List.append_cancel_left h
theorem nums_opens (l : List Int) : Opens (numsL l) := by
  cases l with
  | nil => exact .inl rfl
  | cons z l => exact .inr ⟨Lib.decDigits z.toNat ++ numsL l, rfl⟩
theorem nums_cons (z : Int) (l : List Int) : (numsL (z :: l)).drop 1 = Lib.decDigits z.toNat ++ numsL l := rfl
/-- digits. -/
theorem ofNat_toNat {n : Nat} (h : n < 256) : (UInt8.ofNat n).toNat = n := by
  simp; omega
theorem dec_digit (u : Nat) : ∀ c ∈ Lib.decDigits u, 48 ≤ c.toNat ∧ c.toNat ≤ 57 := by
  induction u using Nat.strongRecOn with
  | ind u ih =>
    intro c hc
    rw [Lib.decDigits] at hc
    by_cases h : u < 10
    · rw [dif_pos h, List.mem_singleton] at hc
      subst hc
      rw [ofNat_toNat (by omega)]
      omega
    · rw [dif_neg h, List.mem_append, List.mem_singleton] at hc
      rcases hc with hc | hc
      · exact ih (u / 10) (by omega) c hc
      · subst hc
        rw [ofNat_toNat (by omega)]
        omega
theorem dec_ne (u : Nat) : Lib.decDigits u ≠ [] := by
  rw [Lib.decDigits]
  by_cases h : u < 10
  · rw [dif_pos h]; simp
  · rw [dif_neg h]; simp
theorem dec_no {c : UInt8} (hc : c.toNat < 48) (u : Nat) : c ∉ Lib.decDigits u := fun h => by
  have := dec_digit u c h
  omega
theorem decFrom_app : ∀ (l m : List UInt8) (acc : Nat), Lib.decFrom acc (l ++ m) = (Lib.decFrom acc l).bind fun a => Lib.decFrom a m
  | [], m, acc => rfl
  | c :: l, m, acc => by
    simp only [List.cons_append, Lib.decFrom]
    cases Lib.digitVal c with
    | none => rfl
    | some d => exact decFrom_app l m _
theorem digit_of {d : Nat} (h : d < 10) : Lib.digitVal (UInt8.ofNat (48 + d)) = some d := by
  unfold Lib.digitVal
  rw [ofNat_toNat (by omega), if_pos (by omega)]
  congr 1
  omega
theorem dec_from (u : Nat) : Lib.decFrom 0 (Lib.decDigits u) = some u := by
  induction u using Nat.strongRecOn with
  | ind u ih =>
    rw [Lib.decDigits]
    by_cases h : u < 10
    · rw [dif_pos h]
      simp only [Lib.decFrom]
      rw [digit_of h]
      simp
    · rw [dif_neg h, decFrom_app, ih (u / 10) (by omega)]
      simp only [Option.bind_some, Lib.decFrom]
      rw [digit_of (show u % 10 < 10 by omega)]
      simp only [Option.some.injEq]
      omega
theorem dec_inj {u v : Nat} (h : Lib.decDigits u = Lib.decDigits v) : u = v := by
  have := dec_from u
  rw [h, dec_from v] at this
  exact (Option.some.inj this).symm
theorem atoi_dec (u : Nat) (h : u ≤ 1073741824) : Lib.atoiAll (Lib.decDigits u) = .ok (u : Int) := by
  have hl := dec_len u 9 (by omega)
  rw [Lib.atoiAll_short _ (by omega)]
  have hd := dec_from u
  have h1 := dec_digit u
  cases e : Lib.decDigits u with
  | nil => exact absurd e (dec_ne u)
  | cons c r =>
    rw [e] at hd h1
    have hc := h1 c (List.mem_cons_self ..)
    have a1 : ¬ c = 45 := fun e => by subst e; revert hc; decide
    have a2 : ¬ c = 43 := fun e => by subst e; revert hc; decide
    simp [Lib.atoi, a1, a2, Lib.decNat, hd, Lib.NumEnd.ofOption]
/-- digits without noughts ahead are those of their number. -/
theorem dec_of : ∀ (n : Nat) (l : List UInt8), l.length = n → l ≠ [] → (l.length = 1 ∨ l.head? ≠ some 48) → ∀ m, Lib.decFrom 0 l = some m → l = Lib.decDigits m := by
  intro n
  induction n with
  | zero => intro l hl hne; exact absurd (List.length_eq_zero_iff.1 hl) hne
  | succ n ih =>
    intro l hl hne h0 m hm
    obtain ⟨k, c, rfl⟩ : ∃ k c, l = k ++ [c] := ⟨l.dropLast, l.getLast hne, (List.dropLast_concat_getLast hne).symm⟩
    rw [decFrom_app] at hm
    cases hk : Lib.decFrom 0 k with
    | none => rw [hk] at hm; cases hm
    | some a =>
      rw [hk] at hm
      have hd : ∃ d, Lib.digitVal c = some d ∧ m = a * 10 + d := by
        simp only [Option.bind_some, Lib.decFrom] at hm
        cases hdv : Lib.digitVal c with
        | none => rw [hdv] at hm; cases hm
        | some d => rw [hdv] at hm; exact ⟨d, rfl, (Option.some.inj hm).symm⟩
      obtain ⟨d, hdv, rfl⟩ := hd
      have hc : c = UInt8.ofNat (48 + d) ∧ d < 10 := by
        unfold Lib.digitVal at hdv
        by_cases hh : 48 ≤ c.toNat ∧ c.toNat ≤ 57
        · rw [if_pos hh] at hdv
          have : d = c.toNat - 48 := (Option.some.inj hdv).symm
          refine ⟨?_, by omega⟩
          rw [show 48 + d = c.toNat by omega]
          simp
        · rw [if_neg hh] at hdv; cases hdv
      cases k with
      | nil =>
        have : a = 0 := by simpa [Lib.decFrom] using hk.symm
        subst this
        rw [Lib.decDigits, dif_pos (by omega), List.nil_append, hc.1]
        simp
      | cons x k =>
        have hx : ¬ x = 48 := fun e => by
          rcases h0 with h0 | h0
          · simp at h0
          · simp [e] at h0
        have hkk := ih (x :: k) (by simp at hl ⊢; omega) (by simp) (.inr (by simp [hx])) a hk
        have ha : ¬ a = 0 := fun e => by
          rw [e, Lib.decDigits, dif_pos (by omega)] at hkk
          exact hx (List.cons.inj hkk).1
        rw [Lib.decDigits, dif_neg (by omega), show (a * 10 + d) / 10 = a by omega, show (a * 10 + d) % 10 = d by omega, ← hkk, hc.1]
/-- words. -/
theorem word_no : ∀ i, i < 12 → (32 : UInt8) ∉ wordL i ∧ (10 : UInt8) ∉ wordL i ∧ wordL i ≠ [] := by
  refine below12 ?_ ?_ ?_ ?_ ?_ ?_ ?_ ?_ ?_ ?_ ?_ ?_ <;> decide
theorem word_inj : ∀ i, i < 12 → ∀ j, j < 12 → wordL i = wordL j → i = j := by
  refine below12 ?_ ?_ ?_ ?_ ?_ ?_ ?_ ?_ ?_ ?_ ?_ ?_ <;> (refine below12 ?_ ?_ ?_ ?_ ?_ ?_ ?_ ?_ ?_ ?_ ?_ ?_ <;> decide)
theorem nums_inj : ∀ (l m : List Int), (∀ z ∈ l, 0 ≤ z) → (∀ z ∈ m, 0 ≤ z) → numsL l = numsL m → l = m
  | [], [], _, _, _ => rfl
  | [], y :: m, _, _, h => by cases h
  | z :: l, [], _, _, h => by cases h
  | z :: l, y :: m, h1, h2, h => by
    have h' : Lib.decDigits z.toNat ++ numsL l = Lib.decDigits y.toNat ++ numsL m := by
      have := congrArg (List.drop 1) h
      rwa [nums_cons, nums_cons] at this
    obtain ⟨e1, e2⟩ := word_eq (dec_no (by decide) _) (dec_no (by decide) _) (nums_opens l) (nums_opens m) h'
    have e3 := dec_inj e1
    have hz := h1 z (List.mem_cons_self ..)
    have hy := h2 y (List.mem_cons_self ..)
    rw [nums_inj l m (fun x hx => h1 x (List.mem_cons_of_mem _ hx)) (fun x hx => h2 x (List.mem_cons_of_mem _ hx)) e2, show z = y by omega]
theorem nums_no {c : UInt8} (hc : c.toNat < 48) (h : ¬ c = 32) : ∀ l : List Int, c ∉ numsL l
  | [], e => by cases e
  | z :: l, e => by
    have : c ∈ 32 :: (Lib.decDigits z.toNat ++ numsL l) := e
    rw [List.mem_cons, List.mem_append] at this
    rcases this with e | e | e
    · exact h e
    · exact dec_no hc _ e
    · exact nums_no hc h l e
/-- a text is an act's line. -/
def IsLine (s : List UInt8) (f : Nat → Int) : Prop := chk f = 0 ∧ s = lineL f ++ [10]
theorem line_no {f : Nat → Int} (h : chk f = 0) : (10 : UInt8) ∉ lineL f ∧ lineL f ≠ [] := by
  have hi := (chk_nums h).1
  obtain ⟨_, h2, h3⟩ := word_no _ hi
  unfold lineL
  refine ⟨fun e => ?_, fun e => h3 (List.append_eq_nil_iff.1 e).1⟩
  rcases List.mem_append.1 e with e | e
  · exact h2 e
  · exact nums_no (by decide) (by decide) _ e
theorem line_parts {f : Nat → Int} (h : chk f = 0) : (Lib.cut (lineL f) [32]).1 = wordL (kno (f 0) (f 5)) ∧ (Lib.cut (lineL f) [32]).2.1 = (numsL ((noffs (kno (f 0) (f 5))).map f)).drop 1 :=
  cut_word (word_no _ (chk_nums h).1).1 (nums_opens _)
/-- of an act that may be, what its word does not have is as in the bare one. -/
theorem chk_rest {f : Nat → Int} (h : chk f = 0) : ∀ i, i < 11 → i ∉ noffs (kno (f 0) (f 5)) → f i = bareK (kno (f 0) (f 5)) i := by
  have hi := (chk_nums h).1
  unfold chk at h
  rw [if_pos hi] at h
  by_cases hb : boundB (over (offs (f 0) (f 5)) (bareK (kno (f 0) (f 5))) f) = true
  · rw [if_pos hb] at h
    by_cases he : eqA (less (offs (f 0) (f 5)) f) (bareK (kno (f 0) (f 5))) = true
    · intro i h11 hn
      have := eqA_iff.1 he i h11
      unfold less at this
      rw [if_neg (by rw [offs_noffs hi]; exact hn)] at this
      exact this
    · rw [if_neg he] at h; cases h
  · rw [if_neg hb] at h; cases h
theorem act_eq {f g : Nat → Int} {i : Nat} (hf : chk f = 0) (hk : kno (f 0) (f 5) = i) (hg : ∀ j, j < 11 → j ∉ noffs i → g j = bareK i j) (hm : (noffs i).map f = (noffs i).map g) : ∀ j, j < 11 → f j = g j := by
  intro j hj
  by_cases hn : j ∈ noffs i
  · obtain ⟨k, hk, rfl⟩ := List.mem_iff_getElem.1 hn
    have := congrArg (fun l => l[k]?) hm
    simpa [hk] using this
  · have := chk_rest hf j hj (by rw [hk]; exact hn)
    rw [this, hk, hg j hj hn]
theorem IsLine.uniq {s : List UInt8} {f g : Nat → Int} (hf : IsLine s f) (hg : IsLine s g) : ∀ i, i < 11 → f i = g i := by
  obtain ⟨cf, ef⟩ := hf
  obtain ⟨cg, eg⟩ := hg
  have hl : lineL f = lineL g := List.append_cancel_right (ef.symm.trans eg)
  have nf := chk_nums cf
  have ng := chk_nums cg
  unfold lineL at hl
  obtain ⟨e1, e2⟩ := word_eq (word_no _ nf.1).1 (word_no _ ng.1).1 (nums_opens _) (nums_opens _) hl
  have e3 := word_inj _ nf.1 _ ng.1 e1
  refine act_eq cf rfl (fun j hj hn => ?_) ?_
  · rw [e3] at hn ⊢
    exact chk_rest cg j hj hn
  · have := nums_inj _ _ (fun z hz => (nf.2 z hz).1) (fun z hz => (ng.2 z hz).1) e2
    rw [this, e3]
end Go.Proofs.YtekbdkppnjnaaaaDoor
