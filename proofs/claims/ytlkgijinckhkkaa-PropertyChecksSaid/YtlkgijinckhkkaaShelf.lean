/-
  No shelf is wanted at this seat.
-/
import Derived.Test.YtlkgijinckhkkaaProg
import Derived.Lib.MinMax
namespace Go.Proofs.Ytlkgijinckhkkaa
end Go.Proofs.Ytlkgijinckhkkaa
