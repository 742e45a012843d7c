/- What spec.IndexOk and spec.l3Less return: whether the index is ok; for every index; nothing old is written. -/
import Derived.Test.YtnoghnkhfgiloaaDoorInW
import Derived.Test.YtnoghnkhfgiloaaDoorMetasW
namespace Go.Proofs.YtnoghnkhfgiloaaDoor
open Go.RowKit

set_option maxHeartbeats 2000000 in
theorem l3Less_any (n v m u : Int) (w : World) : Calls Tryd.prog 43 #[.int .i64 n, .int .i64 v, .int .i64 m, .int .i64 u] w fun e w' => e = .returned (.bool (Ix.less n v m u)) ∧ w' = w := by
  by_cases h1 : n < m
  · go_enter Tryd.func43, Tryd.ntmps43
    go_wp2
    go_ret
    exact ⟨by simp [Ix.less, h1], rfl⟩
  · have h1' : decide (n < m) = false := by simpa using h1
    by_cases h2 : n = m
    · have h2' : (n == m) = true := by simpa using h2
      have HE := hide h2
      clear h2
      go_enter Tryd.func43, Tryd.ntmps43
      go_wp2
      go_ret
      exact ⟨by have := unhide HE; subst this; simp [Ix.less], rfl⟩
    · have h2' : (n == m) = false := by simpa using h2
      go_enter Tryd.func43, Tryd.ntmps43
      go_wp2
      go_ret
      exact ⟨by simp [Ix.less, h1, h2], rfl⟩

set_option maxHeartbeats 4000000 in
/-- spec.IndexOk: whether the index is ok. -/
theorem indexOk_any (w : World) (num til : Int) (mv : Value) (l : List Ix.M) (h : Trs w mv l) :
    Calls Tryd.prog 24 #[.agg #[.int .i64 num, .int .i64 til, mv]] w fun e w' => e = .returned (.bool (Ix.idxOk num til l)) ∧ Below w.heap.size w w' := by
  have HB := hide (below1 w (.cells #[.int .i64 num, .int .i64 til, mv] 25))
  obtain ⟨a, cap, rfl, hlen, hrow⟩ := h
  cases hA : Pk.inB num 1 30
  · go_enter Tryd.func24, Tryd.ntmps24
    go_wp2_with (go_at_call 42; refine (in_any _ _ _ _).mono ?_; rintro e w' ⟨rfl, rfl⟩)
    go_ret
    exact ⟨ret_bool (by simp [Ix.idxOk, hA]), unhide HB⟩
  cases hB : Pk.inB til 0 60
  · go_enter Tryd.func24, Tryd.ntmps24
    go_wp2_with (go_at_call 42; refine (in_any _ _ _ _).mono ?_; rintro e w' ⟨rfl, rfl⟩)
    go_ret
    exact ⟨ret_bool (by simp [Ix.idxOk, hB]), unhide HB⟩
  by_cases hL : (8 : Int) < (l.length : Int)
  · go_enter Tryd.func24, Tryd.ntmps24
    go_wp2_with (go_at_call 42; refine (in_any _ _ _ _).mono ?_; rintro e w' ⟨rfl, rfl⟩)
    go_ret
    exact ⟨ret_bool (by have : ¬ l.length ≤ 8 := (by omega); simp [Ix.idxOk, this]), unhide HB⟩
  have hL' : decide ((8 : Int) < (l.length : Int)) = false := by simpa using hL
  go_enter Tryd.func24, Tryd.ntmps24
  go_wp2_with (go_at_call 42; refine (in_any _ _ _ _).mono ?_; rintro e w' ⟨rfl, rfl⟩)
  go_loopw [3] (fun i w' => ∃ k : Nat, k ≤ l.length ∧ i = .int .i64 k ∧ w'.heap[w.heap.size]? = some (.cells #[.int .i64 num, .int .i64 til, .slice a l.length cap] 25 (0, 0)) ∧ Below w.heap.size w w' ∧ ∀ j, j < k → Ix.good l j = true) (fun i _ => l.length - (intOf i).toNat)
  case atStart => exact ⟨0, Nat.zero_le _, rfl, heap_alloc_new w _, unhide HB, fun j hj => by omega⟩
  case round =>
    obtain ⟨k, hk, rfl, hX, hw, hgood⟩ := hrel
    have HG := hide hgood
    have HX := hide hX
    have HW := hide hw
    have p2 := cellOf hX 2
    clear hgood hX hw HB
    by_cases hlt : k < l.length
    · obtain ⟨b, off, rfl, hb, hc⟩ := hrow (by omega)
      have hcw : ∀ i, i < l.length → wr.cell? ⟨b, off + i * 3, none⟩ = some (.int .i64 (Ix.nm l i)) ∧ wr.cell? ⟨b, off + i * 3 + 1, none⟩ = some (.int .i64 (Ix.vr l i)) ∧ wr.cell? ⟨b, off + i * 3 + 2, none⟩ = some (.int .i64 (Ix.sm l i)) := fun i hi => by rw [(unhide HW).cell hb, (unhide HW).cell hb, (unhide HW).cell hb]; exact hc i hi
      have hb' : b < wr.heap.size := Nat.lt_of_lt_of_le hb (unhide HW).size
      have hs' : w.heap.size < wr.heap.size := heapLt (unhide HX)
      obtain ⟨c0, c1, c2⟩ := hcw k hlt
      have HC := hide hcw
      clear hc hrow hcw
      have hi0 : (0 : Int) ≤ (k : Int) := Int.natCast_nonneg _
      have hi1 : (k : Int) < (l.length : Int) := by omega
      have HN0 := hide ((unhide HW).alloc (unhide HW).size (.cells #[.int .i64 (Ix.nm l k), .int .i64 (Ix.vr l k), .int .i64 (Ix.sm l k)] 45))
      have HX0 := hide ((Below.heap_alloc wr (.cells #[.int .i64 (Ix.nm l k), .int .i64 (Ix.vr l k), .int .i64 (Ix.sm l k)] 45) _ hs').trans (unhide HX))
      cases hA1 : Pk.inB (Ix.nm l k) 1 4
      · go_wp2_with (go_at_call 42; refine (in_any _ _ _ _).mono ?_; rintro e w' ⟨rfl, rfl⟩)
        go_ret
        exact ⟨ret_bool (by rw [Ix.idxOk, Ix.metasOk_bad hlt (by simp [Ix.good, Ix.mOk, hA1]), Bool.and_false]), unhide HN0⟩
      cases hA2 : Pk.inB (Ix.vr l k) 1 5
      · go_wp2_with (go_at_call 42; refine (in_any _ _ _ _).mono ?_; rintro e w' ⟨rfl, rfl⟩)
        go_ret
        exact ⟨ret_bool (by rw [Ix.idxOk, Ix.metasOk_bad hlt (by simp [Ix.good, Ix.mOk, hA2]), Bool.and_false]), unhide HN0⟩
      cases hA3 : Pk.inB (Ix.sm l k) 0 9972
      · go_wp2_with (go_at_call 42; refine (in_any _ _ _ _).mono ?_; rintro e w' ⟨rfl, rfl⟩)
        go_ret
        exact ⟨ret_bool (by rw [Ix.idxOk, Ix.metasOk_bad hlt (by simp [Ix.good, Ix.mOk, hA3]), Bool.and_false]), unhide HN0⟩
      rcases Nat.eq_zero_or_pos k with rfl | hpos
      · simp only [Nat.zero_mul, Nat.add_zero] at c0 c1 c2
        go_wp2_with (go_at_call 42; refine (in_any _ _ _ _).mono ?_; rintro e w' ⟨rfl, rfl⟩)
        go_quiet (fail)
        go_wp2
        go_roundw
        case rel => exact ⟨1, by omega, by go_num, unhide HX0, below_drewN (unhide HN0) _, one_lt (by simp [Ix.good, Ix.mOk, hA1, hA2, hA3])⟩
        case measure => simp [intOf]; omega
      · obtain ⟨m, rfl⟩ : ∃ m, k = m + 1 := ⟨k - 1, by omega⟩
        obtain ⟨d0, d1, _⟩ := unhide HC m (by omega)
        have hp0 : decide ((0 : Int) < ((m + 1 : Nat) : Int)) = true := by simp
        cases hP : Ix.less (Ix.nm l m) (Ix.vr l m) (Ix.nm l (m + 1)) (Ix.vr l (m + 1))
        · go_wp2_with (go_at_call 42; refine (in_any _ _ _ _).mono ?_; rintro e w' ⟨rfl, rfl⟩)
          go_quiet ((go_at_call 43; exact Calls.quiet_of_same (l3Less_any _ _ _ _ _)))
          go_wp2
          go_ret
          exact ⟨ret_bool (by rw [Ix.idxOk, Ix.metasOk_bad hlt (by simp [Ix.good, hP]), Bool.and_false]), below_drewN (unhide HN0) _⟩
        · go_wp2_with (go_at_call 42; refine (in_any _ _ _ _).mono ?_; rintro e w' ⟨rfl, rfl⟩)
          go_quiet ((go_at_call 43; exact Calls.quiet_of_same (l3Less_any _ _ _ _ _)))
          go_wp2
          go_roundw
          case rel => exact ⟨m + 1 + 1, by omega, by go_num, unhide HX0, below_drewN (unhide HN0) _, fun j hj => by
            rcases Nat.lt_or_ge j (m + 1) with h | h
            · exact unhide HG j h
            · obtain rfl : j = m + 1 := by omega
              simp [Ix.good, Ix.mOk, hA1, hA2, hA3, hP]⟩
          case measure => simp [intOf]; omega
    · clear hrow
      go_wp2
      go_ret
      exact ⟨ret_bool (by rw [Ix.idxOk, Ix.metasOk_good (fun i hi => unhide HG i (by omega)), hA, hB, decide_eq_true (by omega : l.length ≤ 8)]; rfl), unhide HW⟩
end Go.Proofs.YtnoghnkhfgiloaaDoor
