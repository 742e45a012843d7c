/- What FnNewest and FnNewestMore share. -/
import Derived.Test.YtmbnkgoolgcjlaaSNewDrawW
import Derived.Test.YtmbnkgoolgcjlaaShelfW
import Derived.Test.YtmbnkgoolgcjlaaLuInW
import Derived.Test.YtmbnkgoolgcjlaaNewestMath2
namespace Go.Proofs.Ytmbnkgoolgcjlaa
open Go.RowKit

theorem OwP.prs {B : Nat} {w : World} {fv dv : Value} {fs ds : List (Int × Int)} (h : OwP B w fv dv fs ds) (hf : fs.length ≤ 1000000) (hd : ds.length ≤ 1000000) : Prs w fv fs ∧ Prs w dv ds := ⟨Prs.own h.f hf, Prs.own h.d hd⟩
end Go.Proofs.Ytmbnkgoolgcjlaa
