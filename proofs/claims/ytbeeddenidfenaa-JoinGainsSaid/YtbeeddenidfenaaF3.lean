/- The law of gains, whole, given the examples. -/
import Derived.Test.YtbeeddenidfenaaF2
set_option linter.unusedSimpArgs false
set_option linter.unusedVariables false
namespace Go.Proofs.Ytbeeddenidfenaa
open Go.RowKit

theorem law15_any (x : List Int) (num den : Int) (v : Value) (w : World) (hK : Known) (hv : SliceV w v 1 IntAt x) (hn : -9223372036854775808 ≤ num ∧ num ≤ 9223372036854775807) (hd : -9223372036854775808 ≤ den ∧ den ≤ 9223372036854775807) :
    Calls Try.prog 15 #[v, .int .i64 num, .int .i64 den] w fun e w' => e = .returned (.bool true) ∧ Below w.heap.size w w' := by
  cases h1 : shrt x.length
  · exact law15_bad x num den v w hK hv hn hd (.inl h1)
  · by_cases h2 : chk true [x] = 0
    · by_cases h3 : 1 ≤ den ∧ den ≤ 1000000
      · exact law15_good x num den v w hK hv hn h1 h2 h3
      · exact law15_bad x num den v w hK hv hn hd (.inr (.inr h3))
    · exact law15_bad x num den v w hK hv hn hd (.inr (.inl h2))
end Go.Proofs.Ytbeeddenidfenaa
