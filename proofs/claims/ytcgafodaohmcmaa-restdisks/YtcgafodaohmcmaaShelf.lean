/-
  No contract of the library is laid at this program: what of it is called is walked.
-/
import Derived.Test.YtcgafodaohmcmaaProg
namespace Go.Proofs.Ytcgafodaohmcmaa
end Go.Proofs.Ytcgafodaohmcmaa
