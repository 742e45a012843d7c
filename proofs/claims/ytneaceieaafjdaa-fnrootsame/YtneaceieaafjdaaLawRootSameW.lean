/- The walk of FnRootSame: it returns true and leaves what was there; for every row of bytes. -/
import Derived.Test.YtneaceieaafjdaaKeysDrawW
import Derived.Test.YtneaceieaafjdaaKeyMath2
import Derived.Test.YtneaceieaafjdaaNextW
namespace Go.Proofs.Ytneaceieaafjdaa
open Go.RowKit

attribute [local go_sem ↓] Go.wp_at_zero Go.wp_at_succ

theorem Ins.take {w : World} {a : Option Addr} {n c : Nat} {k : List Int} (h : Ins w (.slice a n c) k) {m : Nat} (hm : m ≤ n) : Ins w (.slice a m c) (k.take m) := by
  obtain ⟨a', c', hv, hl, hr⟩ := h
  injection hv with e1 e2 e3
  subst e1 e2 e3
  have hlen : (k.take m).length = m := by rw [List.length_take]; omega
  refine ⟨a, c, by rw [hlen], by omega, fun hp => ?_⟩
  obtain ⟨b, off, ha, hb, hc⟩ := hr (by omega)
  refine ⟨b, off, ha, hb, fun i hi => ?_⟩
  rw [hc i (by omega)]
  unfold Ky.nth
  rw [List.getD_eq_getElem?_getD, List.getD_eq_getElem?_getD, List.getElem?_take_of_lt (by omega)]
theorem Ins.spot {w : World} {a : Option Addr} {n c : Nat} {k : List Int} (h : Ins w (.slice a n c) k) (hn : 0 < n) : ∃ b off, a = some ⟨b, off, none⟩ := by
  obtain ⟨a', c', hv, hl, hr⟩ := h
  injection hv with e1 e2 e3
  subst e1 e2 e3
  obtain ⟨b, off, ha, _⟩ := hr hn
  exact ⟨b, off, ha⟩
theorem sameNext_b {r : Bool} (w : World) (n d n2 d2 : Int) (v v2 vb : Value) (k k2 by' : List Int) (hr : Ky.next n k d n2 k2 d2 by' = r) (h : Ins w v k) (h2 : Ins w v2 k2) (hb : Ins w vb by') : Calls Try.prog 31 #[.agg #[.int .i64 n, v, .int .i64 d], .agg #[.int .i64 n2, v2, .int .i64 d2, vb]] w fun e w' => e = .returned (.bool r) ∧ Below w.heap.size w w' :=
  (implRootNext_any w n d n2 d2 v v2 vb k k2 by' h h2 hb).mono fun e w' ⟨he, hq⟩ => ⟨by rw [he, hr], hq⟩

set_option maxHeartbeats 2000000 in
theorem rootSame_walk (w : World) (a : Option Addr) (len cap : Nat) (h : Bytes w a len cap) :
    Calls Try.prog 11 #[.slice a len cap] w fun e w' => e = .returned (.bool true) ∧ Below w.heap.size w w' := by
  by_cases hs : len ≤ 1048576
  case neg =>
    have hs' : (1048576 : Int) < (len : Int) := by omega
    go_enter Try.func11, Try.ntmps11
    go_wp2
    go_ret
    exact ⟨rfl, Below.refl _ _⟩
  have hs' : (len : Int) ≤ 1048576 := by omega
  go_enter Try.func11, Try.ntmps11
  go_wp2_with fail
  refine (drawRootOk_any w a len cap h).mono ?_
  rintro e w1 ⟨n, d, v, k, rfl, hl, hcap, ik, b1⟩
  obtain ⟨ak, ck, hv, hc1, hc2⟩ := hcap
  subst hv
  have X2 := hide (Bx.new (n := n) (d := d) ik 32)
  have b2 := below1 w1 (.cells #[.int .i64 n, .slice ak k.length ck, .int .i64 d] 32)
  have B2 := hide (b1.trans (b2.mono b1.size))
  clear ik b1 b2 h
  go_wp2_with fail
  refine (implRootOk_any _ n d _ k (unhide X2).ins).mono ?_
  generalize w1.alloc _ = W2 at *
  rintro e w3 ⟨rfl, b3⟩
  have X3 := hide ((unhide X2).later b3)
  have B3 := hide ((unhide B2).trans (b3.mono (unhide B2).size))
  clear X2 B2 b3
  clear W2
  generalize w1.heap.size = g at *
  obtain ⟨p0, p1, p2⟩ := (unhide X3).cells
  go_wp2_with fail
  refine (specRootOk_any _ n d _ k (unhide X3).ins).mono ?_
  rintro e w4 ⟨rfl, b4⟩
  have X4 := hide ((unhide X3).later b4)
  have B4 := hide ((unhide B3).trans (b4.mono (unhide B3).size))
  clear X3 B3 b4 p0 p1 p2
  obtain ⟨p0, p1, p2⟩ := (unhide X4).cells
  cases hA : Ky.rootOk n k d
  · go_wp2_with fail
    refine (specRootOk_b _ n d _ k hA (unhide X4).ins).mono ?_
    rintro e w5 ⟨rfl, b5⟩
    have B5 := hide ((unhide B4).trans (b5.mono (unhide B4).size))
    clear X4 B4 b5 p0 p1 p2
    go_wp2
    go_ret
    exact ⟨rfl, unhide B5⟩
  · obtain ⟨⟨n0, n1⟩, hk, d0, d1⟩ := Ky.rootOk_get hA
    obtain ⟨m, hm⟩ : ∃ m : Nat, d = (m : Int) + 1 := ⟨(d - 1).toNat, by omega⟩
    subst hm
    obtain ⟨bk, ok, hak⟩ := (unhide X4).ins.spot (by omega)
    subst hak
    have hm0 : (0 : Int) ≤ (m : Int) := by omega
    have hck : ¬ ck = 0 := by omega
    have ew : IntKind.i64.wrap (m : Int) = (m : Int) := by simp [IntKind.wrap, IntKind.bits, IntKind.signed]; omega
    have l0 : g < w4.heap.size := (unhide X4).lt
    have hmc : (m : Int) ≤ (ck : Int) := by omega
    have hmk : m ≤ k.length := by omega
    have hc3 : (ck : Int) ≤ 9223372036854775807 := by omega
    have E1 := hide (Ky.same_next hA)
    have E2 := hide (Ky.same_few (m := m) hA (by omega))
    have heq : (decide (n < 9) == decide (n < 9)) = true := by simp
    have Y5 := hide (Bx.new (n := n + 1) (d := (m : Int) + 1) (unhide X4).ins 32)
    have b5 := below1 w4 (.cells #[.int .i64 (n + 1), .slice (some ⟨bk, ok, none⟩) k.length ck, .int .i64 ((m : Int) + 1)] 32)
    have X5 := hide ((unhide X4).later b5)
    have B5 := hide ((unhide B4).trans (b5.mono (unhide B4).size))
    clear b5 hA
    go_wp2_with fail
    clear X4 B4 p0 p1 p2 l0
    generalize w4.alloc _ = W5 at *
    generalize w4.heap.size = h at *
    obtain ⟨p0, p1, p2⟩ := (unhide X5).cells
    obtain ⟨q0, q1, q2⟩ := (unhide Y5).cells
    generalize hZ : decide (n < 9) = z at *
    go_region_held3 (fun w' => (w'.cell? ⟨g, 0, none⟩ = some (.int .i64 n) ∧ w'.cell? ⟨g, 1, none⟩ = some (.slice (some ⟨bk, ok, none⟩) k.length ck) ∧ w'.cell? ⟨g, 2, none⟩ = some (.int .i64 ((m : Int) + 1))) ∧ (w'.cell? ⟨h, 0, none⟩ = some (.int .i64 (n + 1)) ∧ w'.cell? ⟨h, 1, none⟩ = some (.slice (some ⟨bk, ok, none⟩) k.length ck) ∧ w'.cell? ⟨h, 2, none⟩ = some (.int .i64 ((m : Int) + 1))))
      (first
        | (go_keep; done)
        | exact ⟨(unhide X7).cells, (unhide Y7).cells⟩
        | exact ⟨(unhide X6).cells, (unhide Y6).cells⟩
        | fail)
      (first
        | (go_at_call 31; refine (sameNext_b _ n ((m : Int) + 1) (n + 1) ((m : Int) + 1) _ _ _ k k k (unhide E1) (by exact (unhide X5).drew.ins) (by exact (unhide Y5).drew.ins) (by exact (unhide X5).drew.ins)).mono ?_; rintro e w6 ⟨rfl, b6⟩; have X6 := hide ((unhide X5).drew.later b6); have Y6 := hide ((unhide Y5).drew.later b6))
        | (go_at_call 31; refine (sameNext_b _ n ((m : Int) + 1) (n + 1) ((m : Int) + 1) _ _ _ k k (k.take m) (unhide E2) (by exact (unhide X6).ins) (by exact (unhide Y6).ins) (by exact (unhide X6).ins.take hmk)).mono ?_; rintro e w7 ⟨rfl, b7⟩; have X7 := hide ((unhide X6).later b7); have Y7 := hide ((unhide Y6).later b7)))
    have B6 := hide ((unhide B5).drew.trans (b6.mono (unhide B5).size))
    have B7 := hide ((unhide B6).trans (b7.mono (unhide B6).size))
    clear b6 b7 p0 p1 p2 q0 q1 q2
    go_wp2
    go_ret
    exact ⟨rfl, unhide B7⟩
end Go.Proofs.Ytneaceieaafjdaa
