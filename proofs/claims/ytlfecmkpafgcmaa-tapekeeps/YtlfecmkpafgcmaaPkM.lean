/- The walk of berthshiftref.RecordOf: whatever the bytes, it answers the plain function decodeOf. -/
import Derived.Test.YtlfecmkpafgcmaaPkK
import Derived.Test.YtlfecmkpafgcmaaPkI
import Derived.Deep.RegionHeld3
namespace Go.Proofs.Ytlfecmkpafgcmaa
open Go.RowKit

def cntOf (l : List Int) : Nat := if hasEv (numAt l 0) then 10 else 4
def numsTo (l : List Int) (j : Nat) : List Int := (List.range j).map (numAt l)

/-- 'b[4*j:]' of a row. -/
theorem RowK.dropN {k : IntKind} {w : World} {b off len : Nat} {l : List Int} (h : RowK k w (some ⟨b, off, none⟩) len l) (a : Option Addr) (d : Nat) (hd : d ≤ len) (ha : d < len → a = some ⟨b, off + d, none⟩) : RowK k w a (len - d) (l.drop d) := by
  refine ⟨by simp [h.len_eq], fun u hu => h.wf u (List.mem_of_mem_drop hu), fun i hi => ?_⟩
  refine ⟨b, off + d, ha (by omega), h.lt (by omega), ?_⟩
  have := h.at (d + i) (by omega)
  rw [Nat.add_assoc, this]
  simp [List.getD_eq_getElem?_getD]

theorem decode_at {l : List Int} {j c : Nat} (he : ∀ t, t < j → errAt l t = 0) (h : ¬ errAt l j = 0) (hc : 0 < j → c = cntOf l) (hlt : j < c) : decodeOf l = (zeros, errAt l j) := by
  by_cases h4 : j < 4
  · exact decode_first h4 he h
  · have hcn := hc (by omega)
    unfold cntOf at hcn
    split at hcn
    · rename_i hev
      have := decode_second (l := l) (t := j - 4) (fun u hu => he u (by omega)) (by simpa [hasEv] using hev) (by omega) (fun u hu => he (4 + u) (by omega)) (by rw [show 4 + (j - 4) = j by omega]; exact h)
      rwa [show 4 + (j - 4) = j by omega] at this
    · omega

theorem recBlock.drew {w : World} {R : Nat} {zs : List Int} (h : recBlock w R zs) : recBlock w.drew R zs := h
theorem six_facts {w W : World} {R S B : Nat} {zs : List Int} {y0 y1 y2 y3 : Int} (x4 x5 x6 x7 x8 x9 : Int) (hR : recBlock W R zs) (hC : recBlock W S [y0, y1, y2, y3, 0, 0, 0, 0, 0, 0]) (hne : R ≠ S) (hB : Below B w W) (hle : B ≤ S) :
    recBlock ((((((W.setCell ⟨S, 4, none⟩ (.int .i64 x4)).setCell ⟨S, 5, none⟩ (.int .i64 x5)).setCell ⟨S, 6, none⟩ (.int .i64 x6)).setCell ⟨S, 7, none⟩ (.int .i64 x7)).setCell ⟨S, 8, none⟩ (.int .i64 x8)).setCell ⟨S, 9, none⟩ (.int .i64 x9)).drew R zs ∧ recBlock ((((((W.setCell ⟨S, 4, none⟩ (.int .i64 x4)).setCell ⟨S, 5, none⟩ (.int .i64 x5)).setCell ⟨S, 6, none⟩ (.int .i64 x6)).setCell ⟨S, 7, none⟩ (.int .i64 x7)).setCell ⟨S, 8, none⟩ (.int .i64 x8)).setCell ⟨S, 9, none⟩ (.int .i64 x9)).drew S [y0, y1, y2, y3, x4, x5, x6, x7, x8, x9] ∧ Below B w ((((((W.setCell ⟨S, 4, none⟩ (.int .i64 x4)).setCell ⟨S, 5, none⟩ (.int .i64 x5)).setCell ⟨S, 6, none⟩ (.int .i64 x6)).setCell ⟨S, 7, none⟩ (.int .i64 x7)).setCell ⟨S, 8, none⟩ (.int .i64 x8)).setCell ⟨S, 9, none⟩ (.int .i64 x9)).drew := by
  have h1 : recBlock ((((((W.setCell ⟨S, 4, none⟩ (.int .i64 x4)).setCell ⟨S, 5, none⟩ (.int .i64 x5)).setCell ⟨S, 6, none⟩ (.int .i64 x6)).setCell ⟨S, 7, none⟩ (.int .i64 x7)).setCell ⟨S, 8, none⟩ (.int .i64 x8)).setCell ⟨S, 9, none⟩ (.int .i64 x9)) R zs := (((((hR.other hne 4 _).other hne 5 _).other hne 6 _).other hne 7 _).other hne 8 _).other hne 9 _
  have h2 : recBlock ((((((W.setCell ⟨S, 4, none⟩ (.int .i64 x4)).setCell ⟨S, 5, none⟩ (.int .i64 x5)).setCell ⟨S, 6, none⟩ (.int .i64 x6)).setCell ⟨S, 7, none⟩ (.int .i64 x7)).setCell ⟨S, 8, none⟩ (.int .i64 x8)).setCell ⟨S, 9, none⟩ (.int .i64 x9)) S [y0, y1, y2, y3, x4, x5, x6, x7, x8, x9] := (((((hC.set 4 x4).set 5 x5).set 6 x6).set 7 x7).set 8 x8).set 9 x9
  have h3 : Below B w ((((((W.setCell ⟨S, 4, none⟩ (.int .i64 x4)).setCell ⟨S, 5, none⟩ (.int .i64 x5)).setCell ⟨S, 6, none⟩ (.int .i64 x6)).setCell ⟨S, 7, none⟩ (.int .i64 x7)).setCell ⟨S, 8, none⟩ (.int .i64 x8)).setCell ⟨S, 9, none⟩ (.int .i64 x9)) := (((((hB.setCell (p := ⟨S, 4, none⟩) hle _).setCell (p := ⟨S, 5, none⟩) hle _).setCell (p := ⟨S, 6, none⟩) hle _).setCell (p := ⟨S, 7, none⟩) hle _).setCell (p := ⟨S, 8, none⟩) hle _).setCell (p := ⟨S, 9, none⟩) hle _
  exact ⟨h1.drew, h2.drew, h3.drew⟩

theorem belowN' (B : Nat) (w : World) (n : Nat) : Below B w (w.drewN n) := ⟨rfl, rfl, rfl, Nat.le_refl _, fun _ _ => rfl⟩

end Go.Proofs.Ytlfecmkpafgcmaa
