/- The walk of the document's answer's RecordsOf. -/
import Derived.Test.YtlfecmkpafgcmaaTpN
import Derived.Test.YtlfecmkpafgcmaaTpM
import Derived.Test.YtlfecmkpafgcmaaTpI
import Derived.Test.YtlfecmkpafgcmaaPkN
namespace Go.Proofs.Ytlfecmkpafgcmaa
open Go.RowKit

theorem ext_getD {l l' : List Int} (hl : l.length = l'.length) (h : ∀ j, j < l.length → l.getD j 0 = l'.getD j 0) : l = l' := by
  refine List.ext_getElem hl fun i h1 h2 => ?_
  have := h i h1
  simpa [List.getD_eq_getElem?_getD, List.getElem?_eq_getElem h1, List.getElem?_eq_getElem h2] using this
theorem getD_take (l : List Int) (n i : Nat) (h : i < n) : (l.take n).getD i 0 = l.getD i 0 := by
  simp [List.getD_eq_getElem?_getD, h]

end Go.Proofs.Ytlfecmkpafgcmaa
