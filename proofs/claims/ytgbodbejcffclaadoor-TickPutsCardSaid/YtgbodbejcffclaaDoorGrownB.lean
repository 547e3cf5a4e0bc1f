/- One's own 'Grown' out of the library's, and 'Below'. -/
import Derived.Test.YtgbodbejcffclaaDoorGrown
namespace Go.Proofs.YtgbodbejcffclaaDoor
open Go.RowKit
theorem Grown.mk2 {W w' : World} (h : RowKit.Grown W w') (k : Below W.heap.size W w') : Grown W w' := ⟨h.1, h.2.1, h.2.2, k⟩
end Go.Proofs.YtgbodbejcffclaaDoor
