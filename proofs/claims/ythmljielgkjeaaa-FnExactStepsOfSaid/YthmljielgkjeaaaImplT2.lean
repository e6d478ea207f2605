/- The program's phase behind the remainder: the entries 32 to 47 of the table. Condition: none. -/
import Derived.Test.YthmljielgkjeaaaRem
namespace Go.Proofs.Ythmljielgkjeaaa
open Go
end Go.Proofs.Ythmljielgkjeaaa
