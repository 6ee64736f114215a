/-
  No contract of the library is laid at this program: what of it is called is walked.
-/
import Derived.Test.YtklldfkaihpkiaaProg
namespace Go.Proofs.Ytklldfkaihpkiaa
end Go.Proofs.Ytklldfkaihpkiaa
