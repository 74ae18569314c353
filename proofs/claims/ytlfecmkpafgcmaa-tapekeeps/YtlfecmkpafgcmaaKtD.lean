/- Plain facts: frames one behind the other are read as they were written; whole ones ahead of a tear. -/
import Derived.Test.YtlfecmkpafgcmaaKtC
import Derived.Test.YtlfecmkpafgcmaaTpN
import Derived.Test.YtlfecmkpafgcmaaTpQ
namespace Go.Proofs.Ytlfecmkpafgcmaa
open Go.RowKit

/-- records that are read from the first byte on, one after the other. -/
inductive Steps (b : List Int) : Nat → List (List Int) → Prop
  | start : Steps b 0 []
  | more {k m : Nat} {rs : List (List Int)} {zs : List Int} (h : Steps b k rs) (hu : unframeOf (b.drop k) = some (zs, m)) : Steps b (k + m) (rs ++ [zs])

theorem Steps.going {b : List Int} {k : Nat} {rs : List (List Int)} (h : Steps b k rs) : Going b k rs := by
  induction h with
  | start => exact going_start b
  | more _ hu ih => exact going_step ih hu
theorem Steps.end {b : List Int} {k : Nat} {rs : List (List Int)} (h : Steps b k rs) (hn : unframeOf (b.drop k) = none) : readOf b = (rs, k) := going_end h.going hn
theorem readF_steps (b : List Int) : ∀ (f k : Nat) (rs : List (List Int)), Steps b k rs → k ≤ b.length → b.length + 1 ≤ f + k → Steps b (readF f b k rs).2 (readF f b k rs).1 ∧ unframeOf (b.drop (readF f b k rs).2) = none
  | 0, k, rs, _, h1, h2 => by omega
  | f + 1, k, rs, hs, h1, h2 => by
    cases hu : unframeOf (b.drop k) with
    | none => rw [readF_end hu]; exact ⟨hs, hu⟩
    | some p =>
      obtain ⟨zs, m⟩ := p
      rw [readF_step hu]
      obtain ⟨_, hm, hl, _⟩ := unframe_some hu
      rw [List.length_drop] at hl
      exact readF_steps b f (k + m) (rs ++ [zs]) (hs.more hu) (by omega) (by omega)
theorem readOf_steps (b : List Int) : Steps b (readOf b).2 (readOf b).1 ∧ unframeOf (b.drop (readOf b).2) = none := readF_steps b _ 0 [] .start (Nat.zero_le _) (by omega)
theorem Steps.le {b : List Int} {k : Nat} {rs : List (List Int)} (h : Steps b k rs) : k ≤ b.length := h.going.1

/-- what is read further begins with what was read. -/
theorem readF_ext (b : List Int) : ∀ (f k : Nat) (rs : List (List Int)), ∃ more, (readF f b k rs).1 = rs ++ more ∧ k ≤ (readF f b k rs).2 ∧ (more = [] → (readF f b k rs).2 = k)
  | 0, k, rs => ⟨[], by simp [readF], Nat.le_refl _, fun _ => rfl⟩
  | f + 1, k, rs => by
    cases hu : unframeOf (b.drop k) with
    | none => rw [readF_end hu]; exact ⟨[], by simp, Nat.le_refl _, fun _ => rfl⟩
    | some p =>
      obtain ⟨zs, m⟩ := p
      rw [readF_step hu]
      obtain ⟨more, h1, h2, _⟩ := readF_ext b f (k + m) (rs ++ [zs])
      exact ⟨zs :: more, by rw [h1]; simp, by omega, fun h => by cases h⟩
theorem Steps.prefix {b : List Int} {k : Nat} {rs : List (List Int)} (h : Steps b k rs) : ∃ more, (readOf b).1 = rs ++ more ∧ k ≤ (readOf b).2 ∧ (more = [] → (readOf b).2 = k) := by
  obtain ⟨_, f, _, hf⟩ := h.going
  obtain ⟨more, h1, h2, h3⟩ := readF_ext b f k rs
  rw [hf] at h1 h2 h3
  exact ⟨more, h1, h2, h3⟩

theorem toldOf_take (b : List Int) (c : Nat) (h : 2 ≤ c) : toldOf (b.take c) = toldOf b := by
  unfold toldOf
  simp [List.getD_eq_getElem?_getD, show 0 < c by omega, show 1 < c by omega]
/-- a frame is told by its own bytes. -/
theorem unframe_take {b zs : List Int} {m c : Nat} (h : unframeOf b = some (zs, m)) (hc : m ≤ c) : unframeOf (b.take c) = some (zs, m) := by
  obtain ⟨h2, hm, hl, hs, hd⟩ := unframe_some h
  have ht := toldOf_take b c (by omega)
  unfold unframeOf
  rw [ht, if_neg (by simp; omega), if_neg (by simp; omega)]
  have e1 : (b.take c).take (toldOf b + 2) = b.take (toldOf b + 2) := by rw [List.take_take, Nat.min_eq_left (by omega)]
  have e2 : ((b.take c).drop (toldOf b + 2)).take 4 = (b.drop (toldOf b + 2)).take 4 := by
    rw [List.drop_take, List.take_take, Nat.min_eq_left (by omega)]
  have e3 : ((b.take c).drop 2).take (toldOf b) = (b.drop 2).take (toldOf b) := by
    rw [List.drop_take, List.take_take, Nat.min_eq_left (by omega)]
  rw [e1, e2, e3, if_neg (not_not_intro hs), hd, if_neg (not_not_intro rfl), hm]
theorem unframe_same {b b' zs : List Int} {m : Nat} (h : unframeOf b = some (zs, m)) (he : b.take m = b'.take m) : unframeOf b' = some (zs, m) := by
  have h1 := unframe_take h (Nat.le_refl m)
  rw [he] at h1
  obtain ⟨h2, hm, hl, hs, hd⟩ := unframe_some h1
  have hl' : m ≤ b'.length := by simp at hl; omega
  have ht := toldOf_take b' m (by omega)
  rw [ht] at hm hs hd
  unfold unframeOf
  rw [if_neg (by omega), if_neg (by omega)]
  have e1 : (b'.take m).take (toldOf b' + 2) = b'.take (toldOf b' + 2) := by rw [List.take_take, Nat.min_eq_left (by omega)]
  have e2 : ((b'.take m).drop (toldOf b' + 2)).take 4 = (b'.drop (toldOf b' + 2)).take 4 := by
    rw [List.drop_take, List.take_take, Nat.min_eq_left (by omega)]
  have e3 : ((b'.take m).drop 2).take (toldOf b') = (b'.drop 2).take (toldOf b') := by
    rw [List.drop_take, List.take_take, Nat.min_eq_left (by omega)]
  rw [e1, e2] at hs
  rw [e3] at hd
  rw [if_neg (not_not_intro hs), hd, if_neg (not_not_intro rfl), hm]
/-- what was read of bytes is read of others that begin alike. -/
theorem Steps.same {b : List Int} {k : Nat} {rs : List (List Int)} (h : Steps b k rs) : ∀ {b' : List Int}, b.take k = b'.take k → Steps b' k rs := by
  induction h with
  | start => intro b' _; exact .start
  | @more k m rs zs h hu ih =>
    intro b' he
    have h1 : b.take k = b'.take k := by
      have := congrArg (List.take k) he
      simpa [List.take_take, Nat.min_eq_left (show k ≤ k + m by omega)] using this
    refine (ih h1).more (unframe_same hu ?_)
    have := congrArg (List.drop k) he
    simpa [List.drop_take] using this

/-- a frame that was written is whole. -/
theorem unframe_frame {z : List Int} (hz : GoodRec z) (tail : List Int) : unframeOf (frameOf (bytesL z) ++ tail) = some (z, (bytesL z).length + 6) := by
  obtain ⟨x0, x1, x2, x3, x4, x5, x6, x7, x8, x9, rfl, hf, hzz⟩ := hz
  have hbl := bytesL_len [x0, x1, x2, x3, x4, x5, x6, x7, x8, x9]
  have hdt := decode_tail x0 x1 x2 x3 x4 x5 x6 x7 x8 x9 [] hf hzz
  rw [List.append_nil, if_pos rfl] at hdt
  have hbe : bytesL [x0, x1, x2, x3, x4, x5, x6, x7, x8, x9] = bytesOf x0 x1 x2 x3 x4 x5 x6 x7 x8 x9 := rfl
  rw [hbe] at hbl ⊢
  generalize bytesOf x0 x1 x2 x3 x4 x5 x6 x7 x8 x9 = p at hbl hdt
  have hfp : frameOf p ++ tail = ((p.length : Int) / 256) :: ((p.length : Int) % 256) :: (p ++ (four (sumOf (headOf p)) ++ tail)) := by simp [frameOf, headOf]
  have htold : toldOf (frameOf p ++ tail) = p.length := by
    rw [hfp]
    unfold toldOf
    simp
    omega
  have hlen : (frameOf p ++ tail).length = p.length + 6 + tail.length := by rw [List.length_append, frameOf_len]
  have t1 : (frameOf p ++ tail).take (p.length + 2) = headOf p := by
    unfold frameOf
    rw [List.append_assoc, List.take_left' (headOf_len p)]
  have t2 : ((frameOf p ++ tail).drop (p.length + 2)).take 4 = four (sumOf (headOf p)) := by
    unfold frameOf
    rw [List.append_assoc, List.drop_left' (headOf_len p), List.take_left' (by simp [four])]
  have t3 : ((frameOf p ++ tail).drop 2).take p.length = p := by
    rw [hfp]
    simp
  unfold unframeOf
  rw [htold, if_neg (by omega), if_neg (by omega), t1, t2, if_neg (not_not_intro rfl), t3, hdt, if_neg (not_not_intro rfl)]

theorem framesOf_append (rs rs' : List (List Int)) : framesOf (rs ++ rs') = framesOf rs ++ framesOf rs' := by simp [framesOf]
theorem frames_some (rs : List (List Int)) (tail : List Int) (hg : ∀ z ∈ rs, GoodRec z) : ∀ n, n ≤ rs.length → Steps (framesOf rs ++ tail) (framesOf (rs.take n)).length (rs.take n)
  | 0, _ => by simpa [framesOf] using Steps.start
  | n + 1, h => by
    have ht : rs.take (n + 1) = rs.take n ++ [rs[n]] := List.take_succ_eq_append_getElem h
    have hs : framesOf rs = framesOf (rs.take n) ++ (frameOf (bytesL rs[n]) ++ framesOf (rs.drop (n + 1))) := by
      have h1 : rs = (rs.take n ++ [rs[n]]) ++ rs.drop (n + 1) := by rw [← ht, List.take_append_drop]
      have h2 := congrArg framesOf h1
      rw [framesOf_append, framesOf_snoc, List.append_assoc] at h2
      exact h2
    rw [ht, framesOf_snoc, List.length_append]
    refine (frames_some rs tail hg n (by omega)).more ?_
    rw [hs, List.append_assoc, List.drop_left' rfl, List.append_assoc, frameOf_len]
    exact unframe_frame (hg _ (List.getElem_mem h)) _
theorem frames_steps (rs : List (List Int)) (tail : List Int) (hg : ∀ z ∈ rs, GoodRec z) : Steps (framesOf rs ++ tail) (framesOf rs).length rs := by
  have h := frames_some rs tail hg rs.length (Nat.le_refl _)
  rwa [List.take_length] at h
theorem unframe_nothing : unframeOf [] = none := rfl
/-- records are read as they were written. -/
theorem read_frames (rs : List (List Int)) (hg : ∀ z ∈ rs, GoodRec z) : readOf (framesOf rs) = (rs, (framesOf rs).length) := by
  have h := frames_steps rs [] hg
  rw [List.append_nil] at h
  exact h.end (by rw [List.drop_length]; rfl)
/-- what is cut off behind what was read changes nothing. -/
theorem read_cut (b : List Int) : readOf (b.take (readOf b).2) = readOf b := by
  have h := (readOf_steps b).1
  have hb := (readOf_bounds b).2
  have h1 : Steps (b.take (readOf b).2) (readOf b).2 (readOf b).1 := h.same (by rw [List.take_take, Nat.min_self])
  exact h1.end (by rw [List.drop_eq_nil_of_le (by simp; omega)]; rfl)
/-- of a torn tape the first whole records are read. -/
theorem read_torn (rs : List (List Int)) (hg : ∀ z ∈ rs, GoodRec z) (k : Nat) (hk : k ≤ (framesOf rs).length) :
    ∃ more, rs = (readOf ((framesOf rs).take k)).1 ++ more ∧ (more = [] ↔ k = (framesOf rs).length) := by
  have h := (readOf_steps ((framesOf rs).take k)).1
  have hb := (readOf_bounds ((framesOf rs).take k)).2
  rw [List.length_take] at hb
  have h1 : Steps (framesOf rs) (readOf ((framesOf rs).take k)).2 (readOf ((framesOf rs).take k)).1 := h.same (by rw [List.take_take, Nat.min_eq_left (by omega)])
  obtain ⟨more, h2, h3, h4⟩ := h1.prefix
  rw [read_frames rs hg] at h2 h3 h4
  refine ⟨more, h2, fun hm => ?_, fun hk2 => ?_⟩
  · have := h4 hm
    simp only at this
    omega
  · rw [hk2, List.take_length, read_frames rs hg] at h2
    simp only at h2
    have := congrArg List.length h2
    rw [List.length_append] at this
    exact List.length_eq_zero_iff.1 (by omega)
end Go.Proofs.Ytlfecmkpafgcmaa
