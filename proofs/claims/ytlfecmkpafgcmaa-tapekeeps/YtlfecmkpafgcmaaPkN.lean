/- The walk of berthshiftref.RecordOf at slices without elements; then at every slice. -/
import Derived.Test.YtlfecmkpafgcmaaPkM
namespace Go.Proofs.Ytlfecmkpafgcmaa
open Go.RowKit

theorem decode_nil : decodeOf [] = (zeros, 4) := by
  have h : decodeOf [] = (zeros, errAt [] 0) := decode_first (t := 0) (by omega) (fun u hu => by omega) (by decide)
  rw [h]; rfl

end Go.Proofs.Ytlfecmkpafgcmaa
