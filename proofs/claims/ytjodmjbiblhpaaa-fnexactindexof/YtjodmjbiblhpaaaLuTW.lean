/- What laws.luInts, luRoot, luMetas, luIndex and luTrust return of the same data: true. -/
import Derived.Test.YtjodmjbiblhpaaaTrustOkW
import Derived.Test.YtjodmjbiblhpaaaMathW
import Derived.Test.YtjodmjbiblhpaaaQuiW
namespace Go.Proofs.Ytjodmjbiblhpaaa
open Go.RowKit

/-- Trust as a value. -/
abbrev tvT (t : Tr.T) (kv mv : Value) : Value := tv t.n t.d kv t.has t.num t.til mv

end Go.Proofs.Ytjodmjbiblhpaaa
