/- The model's phase behind the remainder: the entries 48 to 63 of the table. Condition: none. -/
import Derived.Test.YthmljielgkjeaaaSpec
namespace Go.Proofs.Ythmljielgkjeaaa
open Go
end Go.Proofs.Ythmljielgkjeaaa
