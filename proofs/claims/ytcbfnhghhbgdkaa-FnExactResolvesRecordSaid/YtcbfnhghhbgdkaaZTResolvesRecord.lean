/- For every record and every list of relations, the program's ResolvesRecord answers as the model's, leaves its arguments as they were, and returns.
   Conditions: those of the given statement, no more. -/
import Derived.Test.YtcbfnhghhbgdkaaExactResolvesRecordSaidPartbf
import Derived.Test.YtcbfnhghhbgdkaaExactResolvesRecordSaidPartbi
import Derived.Test.YtcbfnhghhbgdkaaExactResolvesRecordSaidPartbj
namespace Go.Proofs.Ytcbfnhghhbgdkaa
theorem fnExactResolvesRecord_proved : Rows.FnExactResolvesRecordSaid :=
  FResolvesRecord.over fun a1 a2 n1 c1 n2 c2 l1 l2 p np cp L w z1 z2 H1 H2 z3 H3 => WResolvesRecord.walk RvM.rvP
    (fun a1 a2 n1 c1 n2 c2 l m p np L w hc h1 h2 g1 g2 h3 g3 => RvI.impl_any a1 a2 p n1 c1 n2 c2 np np l m L w hc h1 h2 h3 g1 g2 g3)
    (fun a1 a2 n1 c1 n2 c2 l m p np L w _ h1 h2 g1 g2 h3 g3 => RvT.spec_any a1 a2 p n1 c1 n2 c2 np np l m L w h1 h2 h3 g1 g2 g3)
    a1 a2 n1 c1 n2 c2 l1 l2 p np cp L w z1 z2 H1 H2 z3 H3
end Go.Proofs.Ytcbfnhghhbgdkaa
