/- spec.l5Of, spec.TraceOf -/
import Derived.Test.YthjfmpeicjmlkaaTrF
namespace Go.Proofs.Ythjfmpeicjmlkaa
open Go.RowKit

/-- What l5Of leaves. -/
def L5Post (r : Tr) (w : World) (e : Ending) (w' : World) : Prop := Below w.heap.size w w' ∧ ∃ v, e = .returned (.agg #[.int .i64 r.k, v, .int .i64 r.v]) ∧ FRow w' w.heap.size v r.u.length (pcl r.u)

end Go.Proofs.Ythjfmpeicjmlkaa
