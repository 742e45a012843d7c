/- Trust as plain data: whether it is ok, what is taken; no condition. -/
import Derived.Test.YthjmnkfpopfgbaaKeyMath
import Derived.Test.YthjmnkfpopfgbaaIndexMath
namespace Go.Proofs.Ythjmnkfpopfgbaa.Tr
open Pk

/-- Nothing of an index. -/
def noIdx (num til : Int) (ms : List Ix.M) : Bool := decide (num = 0) && (decide (til = 0) && decide (ms.length = 0))
def ok (n : Int) (ks : List Int) (d : Int) (has : Bool) (num til : Int) (ms : List Ix.M) : Bool := Ky.rootOk n ks d && (if has = true then Ix.idxOk num til ms else noIdx num til ms)
def fresh (n : Int) (ks : List Int) (d : Int) (has : Bool) (num til : Int) (ms : List Ix.M) (now : Int) : Bool := ok n ks d has num til ms && (has && inB now 0 til)
/-- An index may be taken. -/
def takes (n : Int) (ks : List Int) (d : Int) (has : Bool) (num : Int) (num' til' : Int) (ms' : List Ix.M) (by' : List Int) (now : Int) : Bool :=
  Ix.idxOk num' til' ms' && (Ky.signed n ks d by' && (inB now 0 til' && (!has || decide (num < num'))))
end Go.Proofs.Ythjmnkfpopfgbaa.Tr
