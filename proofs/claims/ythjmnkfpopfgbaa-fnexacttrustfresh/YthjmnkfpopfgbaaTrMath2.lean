/- Trust as plain data: what TrustNew, TrustRoot and TrustIndex answer; no condition. -/
import Derived.Test.YthjmnkfpopfgbaaTrMath
namespace Go.Proofs.Ythjmnkfpopfgbaa.Tr
open Pk

/-- Trust. -/
structure T where
  n : Int
  ks : List Int
  d : Int
  has : Bool
  num : Int
  til : Int
  ms : List Ix.M
def T.ok (t : T) : Bool := Tr.ok t.n t.ks t.d t.has t.num t.til t.ms
def T.fresh (t : T) (now : Int) : Bool := Tr.fresh t.n t.ks t.d t.has t.num t.til t.ms now
def T.none : T := ⟨0, [], 0, false, 0, 0, []⟩
/-- Trust in a root alone. -/
def new (n : Int) (ks : List Int) (d : Int) : T × Bool := if Ky.rootOk n ks d = true then (⟨n, ks, d, false, 0, 0, []⟩, true) else (T.none, false)
/-- Another root. -/
def root (t : T) (n : Int) (ks : List Int) (d : Int) (by' : List Int) : T × Bool :=
  if t.ok = true then (if Ky.next t.n t.ks t.d n ks d by' = true then ({ t with n := n, ks := ks, d := d }, true) else (t, false)) else (T.none, false)
/-- Another index. -/
def index (t : T) (num til : Int) (ms : List Ix.M) (by' : List Int) (now : Int) : T × Bool :=
  if t.ok && inB now 0 60 = true then (if takes t.n t.ks t.d t.has t.num num til ms by' now = true then ({ t with has := true, num := num, til := til, ms := ms }, true) else (t, false)) else (T.none, false)
end Go.Proofs.Ythjmnkfpopfgbaa.Tr
