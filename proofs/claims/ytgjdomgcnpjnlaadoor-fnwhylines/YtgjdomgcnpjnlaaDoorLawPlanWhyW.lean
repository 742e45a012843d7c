/- The walk of FnPlanWhy: it returns true and leaves what was there; for every row of bytes. -/
import Derived.Test.YtgjdomgcnpjnlaaDoorWhyDrawW
import Derived.Test.YtgjdomgcnpjnlaaDoorSpecWhyW
import Derived.Test.YtgjdomgcnpjnlaaDoorImplWhyW
import Derived.Test.YtgjdomgcnpjnlaaDoorWhyMath2
namespace Go.Proofs.YtgjdomgcnpjnlaaDoor
open Go.RowKit

attribute [local go_sem ↓] Go.wp_at_zero Go.wp_at_succ

theorem str_ne (d : Array UInt8) : ((⟨d⟩ : ByteArray) != ⟨d⟩) = false := by
  show (!(d == d)) = false
  rw [beq_self_eq_true]
  rfl
theorem str_eq (a b : List UInt8) (c : Bool) (h : a = b ↔ c = true) : ((⟨a.toArray⟩ : ByteArray) == ⟨b.toArray⟩) = c := by
  show (a.toArray == b.toArray) = c
  rw [Bool.eq_iff_iff, beq_iff_eq]
  constructor
  · intro e
    exact h.1 (by have := congrArg Array.toList e; simpa using this)
  · intro e
    rw [h.2 e]
theorem str_eqL (a b : List UInt8) (c : Bool) (h : a = b ↔ c = true) : ((⟨a.toArray⟩ : ByteArray).toList == b) = c := by
  rw [ByteArray.toList_mk, Bool.eq_iff_iff, beq_iff_eq]
  exact h
theorem own_room {w : World} {B sz : Nat} {t : TypeId} {a : Option Addr} {n c : Nat} {xs : List Value} (h : w.ownsRow B t sz (.slice a n c) n xs) : n ≤ c := by
  rcases h.2 with ⟨h, h0⟩ | ⟨g', cap', cur, hv, _, _, hn, _⟩
  · omega
  · injection hv with _ _ hv
    subst hv
    exact hn

set_option maxHeartbeats 8000000 in
set_option maxRecDepth 100000 in
theorem planWhy_walk (w : World) (a : Option Addr) (len cap : Nat) (h : Bytes w a len cap) :
    Calls Tryd.prog 4 #[.slice a len cap] w fun e w' => e = .returned (.bool true) ∧ Below w.heap.size w w' := by
  by_cases hbig : (1048576 : Int) < (len : Int)
  · go_enter Tryd.func4, Tryd.ntmps4
    go_wp2
    go_ret
    exact ⟨rfl, Below.refl _ _⟩
  have CD := hide (drawPlanWhy_any w a len cap h)
  clear h
  go_enter Tryd.func4, Tryd.ntmps4
  go_wp2_with fail
  refine (unhide CD).mono ?_
  rintro e w1 ⟨v, els, rfl, hpo, hms, b1⟩
  obtain ⟨ma, mc, hmv⟩ := own_formS hpo.own
  subst hmv
  have hrm := own_room hpo.own
  have I1 := hide (POwn.pks (N := fun _ => True) (hpo.weak (fun _ _ => trivial)) (fun _ _ => trivial) (by omega))
  have B1 := hide b1
  clear hpo b1 CD
  obtain ⟨l, hl⟩ : ∃ l : List Ix.Pg, l = els.map (·.1) := ⟨_, rfl⟩
  have hll : l.length = els.length := by rw [hl, List.length_map]
  rw [← hl] at I1
  have HR : Hid (∀ a c, Value.slice ma els.length mc = .slice a l.length c → l.length ≤ c) := fun _ _ e => by injection e with _ _ e; omega
  clear hl
  have HLL := hide hll
  clear hll
  go_wp2_with fail
  refine (implPlanWhy_any _ _ l (unhide I1) (unhide HR)).mono ?_
  rintro e w2 ⟨rfl, b2⟩
  have I2 := hide ((unhide I1).later b2)
  have B2 := hide ((unhide B1).trans (b2.mono (unhide B1).size))
  clear b2 I1 B1
  have hwf := str_eq (Ix.why l) Ix.fineT (Ix.planOk l) (Ix.why_fine l)
  have hwn := str_eq (Ix.why l) Ix.noneT (!Ix.pkgsOk l) (by rw [Ix.why_none]; cases Ix.pkgsOk l <;> simp)
  have hne := str_ne (Ix.why l).toArray
  have CS := hide (specPlanWhy_any _ (.slice ma els.length mc) l (unhide I2))
  obtain ⟨s, hs⟩ : ∃ s : ByteArray, s = ⟨(Ix.why l).toArray⟩ := ⟨_, rfl⟩
  rw [← hs] at hwf hwn hne CS ⊢
  have hwf' : (s == { data := #[102, 105, 110, 101, 10] }) = Ix.planOk l := hwf
  have hwn' : (s == { data := #[110, 111, 32, 112, 97, 99, 107, 97, 103, 101, 115, 10] }) = !Ix.pkgsOk l := hwn
  have hwf2 : (s.toList == [102, 105, 110, 101, 10]) = Ix.planOk l := by rw [hs]; exact str_eqL (Ix.why l) Ix.fineT (Ix.planOk l) (Ix.why_fine l)
  have hwn2 : (s.toList == [110, 111, 32, 112, 97, 99, 107, 97, 103, 101, 115, 10]) = !Ix.pkgsOk l := by rw [hs]; exact str_eqL (Ix.why l) Ix.noneT (!Ix.pkgsOk l) (by rw [Ix.why_none]; cases Ix.pkgsOk l <;> simp)
  clear hs hwf hwn
  go_wp2_with fail
  refine (unhide CS).mono ?_
  rintro e w3 ⟨rfl, b3⟩
  have I3 := hide ((unhide I2).later b3)
  have B3 := hide ((unhide B2).trans (b3.mono (unhide B2).size))
  clear b3 I2 B2 CS
  go_wp2_with fail
  refine (implPlanOk_any _ _ l (unhide I3) (unhide HR)).mono ?_
  rintro e w4 ⟨rfl, b4⟩
  have I4 := hide ((unhide I3).later b4)
  have B4 := hide ((unhide B3).trans (b4.mono (unhide B3).size))
  clear b4 I3 B3
  have he1 : (Ix.planOk l == Ix.planOk l) = true := by simp
  have he2 : ((!Ix.pkgsOk l) == (!Ix.pkgsOk l)) = true := by simp
  have CO := hide (implStoreOk_any _ (.slice ma els.length mc) l (unhide I4))
  generalize Ix.planOk l = po at *
  generalize Ix.pkgsOk l = ok at *
  go_wp2_with fail
  refine (unhide CO).mono ?_
  rintro e w5 ⟨rfl, b5⟩
  have B5 := hide ((unhide B4).trans (b5.mono (unhide B4).size))
  clear b5
  go_wp2
  go_ret
  exact ⟨rfl, unhide B5⟩
end Go.Proofs.YtgjdomgcnpjnlaaDoor
