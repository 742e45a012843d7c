/- What spec.PlanOk returns: whether packages can be in together; for every row of packages that can be read. -/
import Derived.Test.YtgjdomgcnpjnlaaDoorSPlanW
namespace Go.Proofs.YtgjdomgcnpjnlaaDoor
open Go.RowKit

attribute [local go_sem ↓] Go.wp_at_zero Go.wp_at_succ

end Go.Proofs.YtgjdomgcnpjnlaaDoor
