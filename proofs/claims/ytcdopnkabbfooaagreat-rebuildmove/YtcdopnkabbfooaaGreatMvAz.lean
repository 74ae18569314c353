/- A queue on its way from one berth to another one: what each call makes of the two; plain facts, and the two berths in memory. -/
import Derived.Test.YtcdopnkabbfooaaGreatRmBk
import Derived.Test.YtcdopnkabbfooaaGreatRkBe
namespace Go.Proofs.YtcdopnkabbfooaaGreat
open Go.RowKit

/-- a source on its way. -/
structure Src (B : Bt) (E : Int) (es : List Ev) (n : Nat) : Prop where
  r : B.r = 2 ∨ B.r = 3
  e : B.e = E
  es_ : B.es = es
  ok : B.Ok
  len : es.length ≤ n
theorem Src.tells {B : Bt} {E : Int} {es : List Ev} {n : Nat} (h : Src B E es n) : ∃ s ans, Tells es s ans := by
  have := h.ok.told; rwa [h.es_] at this
theorem Src.more {B : Bt} {E : Int} {es : List Ev} {n : Nat} (h : Src B E es n) (hn : n ≤ 1900) {v : Ev} {s s' : St} {an : An} {ans : List An} (ht : Tells es s ans) (hv : v.Ok) (st : Step s v s' an true) : Src (B.more [v]) E (es ++ [v]) (n + 1) := by
  have hl := h.len
  have hb := h.es_
  refine ⟨h.r, h.e, by show B.es ++ [v] = es ++ [v]; rw [hb], ⟨?_, ?_, ?_⟩, by simp; omega⟩
  · have hs := h.ok.stand
    have hr := h.r
    unfold Bt.Stand standP at hs ⊢
    show (B.r = 0 ∧ _ ∧ _) ∨ _
    rcases hs with h0 | h1 | h2 | h3 | h4
    · exact absurd h0.1 (by omega)
    · exact absurd h1.1 (by omega)
    · exact .inr (.inr (.inl h2))
    · exact .inr (.inr (.inr (.inl h3)))
    · exact absurd h4.1 (by omega)
  · show (B.es ++ [v]).length ≤ 2000
    rw [hb]; simp; omega
  · show ∃ s ans, Tells (B.es ++ [v]) s ans
    rw [hb]
    exact ⟨_, _, .snoc ht hv st⟩
/-- Serve at a source. -/
theorem serve_src {B : Bt} {E : Int} {es : List Ev} {n : Nat} (h : Src B E es n) (hn : n ≤ 1900) (a : Option Addr) (c : Nat) (v : Ev) (w : World) (hb : BIn w B a c) (hv : v.Ok) (hk : ¬ v.k = 4) :
    Calls Tryz.prog 41 #[bVal B.r B.e B.f B.t B.o a B.es.length c, evIn v] w fun x w' => ∃ a' c' an ch B' es', x = .returned (.tuple #[bVal B'.r B'.e B'.f B'.t B'.o a' B'.es.length c', anOf an, .bool ch, .int .i64 0]) ∧ Src B' E es' (n + 1) ∧ (∃ l, es' = es ++ l) ∧ (B'.r = B.r) ∧ BIn w' B' a' c' ∧ (∀ x, a' = some x → w.heap.size ≤ x.block) ∧ Below w.heap.size w w' := by
  refine (serve_any B a c v w hb (ev_wf hv)).mono ?_
  rintro x w' ⟨y, an, ch, er, B', rfl, sr, ⟨⟨a', c', rfl, i, u⟩⟩, b⟩
  have h' : Src B E es (n + 1) := ⟨h.r, h.e, h.es_, h.ok, by have := h.len; omega⟩
  have hr := h.r
  cases sr with
  | state h0 => exact absurd h.ok h0
  | fault _ f hf h0 => exact absurd (hf.symm.trans hv) h0
  | brk _ _ h0 => exact absurd h0 hk
  | shut _ _ _ _ => exact ⟨a', c', _, _, _, es, rfl, h', ⟨[], by simp⟩, rfl, i, u, b⟩
  | none _ _ _ h0 => omega
  | same _ _ _ _ s1 ans1 ht1 s' an st => exact ⟨a', c', _, _, _, es, rfl, h', ⟨[], by simp⟩, rfl, i, u, b⟩
  | full _ _ _ _ s1 ans1 ht1 s' an st h0 => exact ⟨a', c', _, _, _, es, rfl, h', ⟨[], by simp⟩, rfl, i, u, b⟩
  | done _ _ _ _ s1 ans1 ht1 s' an st _ =>
    rw [h.es_] at ht1
    exact ⟨a', c', _, _, _, es ++ [v], rfl, h.more hn ht1 hv st, ⟨[v], rfl⟩, rfl, i, u, b⟩
theorem Src.tell {B : Bt} {E : Int} {es : List Ev} {n : Nat} (h : Src B E es n) (k : Nat) (hk : k ≤ es.length) : tellOf B k = 0 := by
  unfold tellOf
  rw [if_neg (fun h0 => h0 h.ok), if_neg (fun h0 => h0 h.r), if_neg (fun h0 => h0 ⟨by omega, by rw [h.es_]; omega⟩)]
/-- Caught at a source. -/
theorem Src.caught {B : Bt} {E : Int} {es : List Ev} {n : Nat} (h : Src B E es n) (k : Nat) (hk : k ≤ es.length) : ∃ N, caughtOf B k = (N, 0) ∧ Src N E es n ∧ (k = es.length → N.r = 3) := by
  have ht := h.tell k hk
  have hes := h.es_
  unfold caughtOf
  rw [if_neg (fun h0 => h0 ht)]
  have hs := h.ok.stand
  unfold Bt.Stand standP at hs
  by_cases h3 : B.r = 3
  · rw [if_pos h3]
    exact ⟨B, rfl, h, fun _ => h3⟩
  · have h2 : B.r = 2 := by rcases h.r with h | h; exact h; exact absurd h h3
    rw [if_neg h3]
    have hs2 : 1 ≤ B.e ∧ B.e ≤ 1048576 ∧ B.f = 0 ∧ 0 ≤ B.t ∧ B.t ≤ 4 ∧ 0 ≤ B.o ∧ B.o ≤ 4 := by omega
    by_cases hc : (k : Int) = B.es.length ∨ B.o = 4
    · rw [if_pos hc]
      refine ⟨_, rfl, ⟨.inr rfl, h.e, hes, ⟨?_, h.ok.len, h.ok.told⟩, h.len⟩, fun _ => rfl⟩
      unfold Bt.Stand standP
      show ((3 : Int) = 0 ∧ _) ∨ _
      exact .inr (.inr (.inr (.inl ⟨rfl, hs2.1, hs2.2.1, hs2.2.2.1, hs2.2.2.2.1, hs2.2.2.2.2.1, rfl⟩)))
    · rw [if_neg hc]
      refine ⟨_, rfl, ⟨.inl h2, h.e, hes, ⟨?_, h.ok.len, h.ok.told⟩, h.len⟩, fun hk2 => absurd (.inl (by rw [hes]; omega)) hc⟩
      unfold Bt.Stand standP
      show (B.r = 0 ∧ _) ∨ _
      refine .inr (.inr (.inl ⟨h2, hs2.1, hs2.2.1, hs2.2.2.1, hs2.2.2.2.1, hs2.2.2.2.2.1, by show 0 ≤ B.o + 1; omega, ?_⟩))
      show B.o + 1 ≤ 4
      have : ¬ B.o = 4 := fun h0 => hc (.inr h0)
      omega
/-- Part of a source. -/
theorem Src.part {B : Bt} {E : Int} {es : List Ev} {n : Nat} (h : Src B E es n) (k : Nat) (hk : k ≤ es.length) : partOf B k = ((es.drop k).take 3, decide (B.r = 3 ∧ es.length ≤ k + 3), 0) := by
  unfold partOf
  rw [if_neg (fun h0 => h0 (h.tell k hk)), h.es_, Int.toNat_natCast]
/-- a target that takes a part. -/
theorem take_part {es : List Ev} {s : St} {ans : List An} {E : Int} (ht : Tells es s ans) (hl : es.length ≤ 100) (h1 : 1 ≤ E) (h2 : E ≤ 2000) (k : Nat) (hk : k ≤ es.length) :
    importOf (Bt.imp E 1 (es.take k)) E k ((es.drop k).take 3) false = (Bt.imp E 1 (es.take (k + 3)), 0) ∧
    importOf (Bt.imp E 1 (es.take (k + 3))) E k ((es.drop k).take 3) false = (Bt.imp E 1 (es.take (k + 3)), 0) := by
  obtain ⟨s0, ht0⟩ := ht.take k hk
  obtain ⟨m, hm⟩ : ∃ m, m = min (k + 3) es.length := ⟨_, rfl⟩
  have e3 : es.take (k + 3) = es.take m := by
    rw [hm]
    rcases Nat.lt_or_ge es.length (k + 3) with h | h
    · rw [Nat.min_eq_right (by omega), List.take_length, List.take_of_length_le (by omega)]
    · rw [Nat.min_eq_left h]
  obtain ⟨s1, ht1⟩ := ht.take m (by omega)
  have hlk : (es.take k).length = k := by rw [List.length_take]; omega
  have hlC : ((es.drop k).take 3).length = m - k := by rw [List.length_take, List.length_drop]; omega
  have hlm : (es.take m).length = m := by rw [List.length_take]; omega
  have happ : es.take k ++ (es.drop k).take 3 = es.take (k + 3) := List.take_add.symm
  constructor
  · have := import_more (X := E) (f := 1) (H := es.take k) (C := (es.drop k).take 3) (k := k) (s := s1) (ans := ans.take m) h1 (by omega) (by omega) (by omega) ht0 (by omega) (by
      rw [List.drop_eq_nil_of_le (by omega)]
      exact fits_nil _) (by omega) (by rw [hlk, Nat.sub_self, List.drop_zero, happ, e3]; exact ht1) (by rw [hlk, Nat.sub_self, List.drop_zero, happ, e3, hlm]; omega)
    rw [hlk, Nat.sub_self, List.drop_zero, happ] at this
    exact this
  · have hd : (es.take (k + 3)).drop k = (es.drop k).take 3 := by rw [List.drop_take]; congr 1; omega
    have hl3 : (es.take (k + 3)).length = m := by rw [e3]; exact hlm
    have hnil : ((es.drop k).take 3).drop (m - k) = [] := List.drop_eq_nil_of_le (by omega)
    have := import_more (X := E) (f := 1) (H := es.take (k + 3)) (C := (es.drop k).take 3) (k := k) (s := s1) (ans := ans.take m) h1 (by omega) (by omega) (by omega) (by rw [e3]; exact ht1) (by omega) (by
      rw [hd]
      exact ⟨rfl, fun h => by cases h⟩) (by omega) (by rw [hl3, hnil, List.append_nil, e3]; exact ht1) (by rw [hl3, hnil, List.append_nil, hl3]; omega)
    rw [hl3, hnil, List.append_nil] at this
    exact this
/-- a target that takes the last part. -/
theorem take_last {es : List Ev} {s : St} {ans : List An} {E : Int} (ht : Tells es s ans) (hl : es.length ≤ 100) (h1 : 1 ≤ E) (h2 : E ≤ 2000) (k : Nat) (hk : k ≤ es.length) (h3 : es.length ≤ k + 3) :
    importOf (Bt.imp E 1 (es.take k)) E k ((es.drop k).take 3) true = (Bt.act E (es ++ [Ev.brk]), 0) ∧ (Bt.act E (es ++ [Ev.brk])).Ok := by
  obtain ⟨s0, ht0⟩ := ht.take k hk
  obtain ⟨s2, an2, _, htb, _⟩ := ht.brk (by omega)
  have hlk : (es.take k).length = k := by rw [List.length_take]; omega
  have hC : (es.drop k).take 3 = es.drop k := List.take_of_length_le (by rw [List.length_drop]; omega)
  have happ : es.take k ++ es.drop k = es := List.take_append_drop k es
  have := import_last (X := E) (f := 1) (H := es.take k) (C := es.drop k) h1 (by omega) (by omega) (by omega) ht0 (by rw [List.length_drop]; omega) (by omega) (by rw [happ]; exact htb)
  rw [happ, hlk] at this
  rw [hC]
  exact ⟨this, htb.act_ok (by simp; omega) h1 (by omega)⟩

/-- two berths in their boxes, and two boxes for what is answered. -/
structure Mw (w wr : World) (R8 R9 Rs Rt : Nat) (S T : Bt) (aS : Option Addr) (cS : Nat) (aT : Option Addr) (cT : Nat) : Prop where
  z8 : bBlock wr R8 0 0 0 0 0 none 0 0
  z9 : bBlock wr R9 0 0 0 0 0 none 0 0
  s : Kb w wr Rs S aS cS
  t : Kb w wr Rt T aT cT
  o1 : w.heap.size ≤ R8
  o2 : R8 < R9
  o3 : R9 < Rs
  o4 : Rs < Rt
  ap : ∀ R, R = R8 ∨ R = R9 ∨ R = Rs ∨ R = Rt → (∀ x, aS = some x → 0 < S.es.length → x.block ≠ R) ∧ (∀ x, aT = some x → 0 < T.es.length → x.block ≠ R)
section
variable {w wr wx : World} {R8 R9 Rs Rt : Nat} {S T : Bt} {aS : Option Addr} {cS : Nat} {aT : Option Addr} {cT : Nat}
theorem Mw.next (h : Mw w wr R8 R9 Rs Rt S T aS cS aT cT) (b : Below wr.heap.size wr wx) : Mw w wx R8 R9 Rs Rt S T aS cS aT cT :=
  ⟨h.z8.next b, h.z9.next b, h.s.next b, h.t.next b, h.o1, h.o2, h.o3, h.o4, h.ap⟩
/-- another source stored. -/
theorem Mw.putS (h : Mw w wr R8 R9 Rs Rt S T aS cS aT cT) {S' : Bt} {a' : Option Addr} {c' : Nat} (i : BIn wr S' a' c') (ap : ∀ R, R = R8 ∨ R = R9 ∨ R = Rs ∨ R = Rt → ∀ x, a' = some x → 0 < S'.es.length → x.block ≠ R) :
    Mw w (bStore wr Rs S'.r S'.e S'.f S'.t S'.o a' S'.es.length c') R8 R9 Rs Rt S' T a' c' aT cT := by
  have t := bBlock.turn wr Rs S'.r S'.e S'.f S'.t S'.o a' S'.es.length c'
  have := h.o1; have := h.o2; have := h.o3; have := h.o4
  exact ⟨h.z8.turned t (by omega), h.z9.turned t (by omega), ⟨h.s.b.store _ _ _ _ _ _ _ _, i.turned t (ap Rs (by simp)), ap Rs (by simp), t.under h.s.bel h.s.up, h.s.up⟩, h.t.turned t (by omega) (h.ap Rs (by simp)).2 h.s.up, h.o1, h.o2, h.o3, h.o4, fun R hR => ⟨ap R hR, (h.ap R hR).2⟩⟩
/-- another target stored. -/
theorem Mw.putT (h : Mw w wr R8 R9 Rs Rt S T aS cS aT cT) {T' : Bt} {a' : Option Addr} {c' : Nat} (i : BIn wr T' a' c') (ap : ∀ R, R = R8 ∨ R = R9 ∨ R = Rs ∨ R = Rt → ∀ x, a' = some x → 0 < T'.es.length → x.block ≠ R) :
    Mw w (bStore wr Rt T'.r T'.e T'.f T'.t T'.o a' T'.es.length c') R8 R9 Rs Rt S T' aS cS a' c' := by
  have t := bBlock.turn wr Rt T'.r T'.e T'.f T'.t T'.o a' T'.es.length c'
  have := h.o1; have := h.o2; have := h.o3; have := h.o4
  exact ⟨h.z8.turned t (by omega), h.z9.turned t (by omega), h.s.turned t (by omega) (h.ap Rt (by simp)).1 h.t.up, ⟨h.t.b.store _ _ _ _ _ _ _ _, i.turned t (ap Rt (by simp)), ap Rt (by simp), t.under h.t.bel h.t.up, h.t.up⟩, h.o1, h.o2, h.o3, h.o4, fun R hR => ⟨(h.ap R hR).1, ap R hR⟩⟩
theorem Mw.fresh (h : Mw w wr R8 R9 Rs Rt S T aS cS aT cT) {n : Nat} {a' : Option Addr} (u : ∀ x, a' = some x → wr.heap.size ≤ x.block) : ∀ R, R = R8 ∨ R = R9 ∨ R = Rs ∨ R = Rt → ∀ x, a' = some x → 0 < n → x.block ≠ R := by
  intro R hR x hx _
  have := u x hx
  have h1 := h.z8.lt; have h2 := h.z9.lt; have h3 := h.s.b.lt; have h4 := h.t.b.lt
  omega
/-- both berths answered: what the boxes for it hold then. -/
structure MvOut (w W : World) (R8 R9 : Nat) (S T : Bt) (aS : Option Addr) (cS : Nat) (aT : Option Addr) (cT : Nat) : Prop where
  b8 : bBlock W R8 S.r S.e S.f S.t S.o aS S.es.length cS
  b9 : bBlock W R9 T.r T.e T.f T.t T.o aT T.es.length cT
  iS : BIn W S aS cS
  iT : BIn W T aT cT
  bel : Below w.heap.size w W
theorem Mw.out (h : Mw w wr R8 R9 Rs Rt S T aS cS aT cT) : MvOut w (bStore (bStore wr R8 S.r S.e S.f S.t S.o aS S.es.length cS) R9 T.r T.e T.f T.t T.o aT T.es.length cT).drew R8 R9 S T aS cS aT cT := by
  have t8 := bBlock.turn wr R8 S.r S.e S.f S.t S.o aS S.es.length cS
  have b8 := h.z8.store S.r S.e S.f S.t S.o aS S.es.length cS
  have z9 := h.z9.turned t8 (by have := h.o2; omega)
  have iS := h.s.i.turned t8 (h.ap R8 (by simp)).1
  have iT := h.t.i.turned t8 (h.ap R8 (by simp)).2
  have bel := t8.under h.s.bel h.o1
  generalize bStore wr R8 S.r S.e S.f S.t S.o aS S.es.length cS = W1 at *
  have t9 := bBlock.turn W1 R9 T.r T.e T.f T.t T.o aT T.es.length cT
  have d9 : Below (bStore W1 R9 T.r T.e T.f T.t T.o aT T.es.length cT).heap.size (bStore W1 R9 T.r T.e T.f T.t T.o aT T.es.length cT) (bStore W1 R9 T.r T.e T.f T.t T.o aT T.es.length cT).drew := (Below.refl _ _).drew
  exact ⟨(b8.turned t9 (by have := h.o2; omega)).next d9, (z9.store _ _ _ _ _ _ _ _).next d9, (iS.turned t9 (h.ap R9 (by simp)).1).next d9, (iT.turned t9 (h.ap R9 (by simp)).2).next d9, Below.next (t9.under bel (by have := h.o1; have := h.o2; omega)) d9⟩
end
/-- what is known of a move on its way. -/
inductive MvP (S T : Bt) (E : Int) (es : List Ev) (a i : Nat) : Prop
  | going (h : Nat) (hs : Src S E es (30 + a)) (ht : T = Bt.imp (E + 1) 1 (es.take h)) (hi : i ≤ h) (hl : h ≤ es.length) : MvP S T E es a i
  | there (hs : Src S E es (30 + a)) (hr : S.r = 3) (ht : T = Bt.act (E + 1) (es ++ [Ev.brk])) (hi : i ≤ 60) : MvP S T E es a i
end Go.Proofs.YtcdopnkabbfooaaGreat
