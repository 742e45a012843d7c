import Derived.Test.YtlnieobmhofkdaaGreatMix0
import Derived.Test.YtlnieobmhofkdaaGreatMetasW
/- What spec.IndexOk and spec.l3Less return: whether the index is ok; for every index; nothing old is written. -/
namespace Go.Proofs.YtlnieobmhofkdaaGreat
open Go.RowKit

set_option maxHeartbeats 2000000 in
theorem l3Less_any (n v m u : Int) (w : World) : Calls Tryz.prog 71 #[.int .i64 n, .int .i64 v, .int .i64 m, .int .i64 u] w fun e w' => e = .returned (.bool (Ix.less n v m u)) ∧ w' = w := by
  by_cases h1 : n < m
  · go_enter Tryz.func71, Tryz.ntmps71
    go_wp2
    go_ret
    exact ⟨by simp [Ix.less, h1], rfl⟩
  · have h1' : decide (n < m) = false := by simpa using h1
    by_cases h2 : n = m
    · have h2' : (n == m) = true := by simpa using h2
      have HE := hide h2
      clear h2
      go_enter Tryz.func71, Tryz.ntmps71
      go_wp2
      go_ret
      exact ⟨by have := unhide HE; subst this; simp [Ix.less], rfl⟩
    · have h2' : (n == m) = false := by simpa using h2
      go_enter Tryz.func71, Tryz.ntmps71
      go_wp2
      go_ret
      exact ⟨by simp [Ix.less, h1, h2], rfl⟩

set_option maxHeartbeats 4000000 in
/-- spec.IndexOk: whether the index is ok. -/
theorem indexOk_any (w : World) (num til : Int) (mv : Value) (l : List Ix.M) (h : Trs w mv l) :
    Calls Tryz.prog 46 #[.agg #[.int .i64 num, .int .i64 til, mv]] w fun e w' => e = .returned (.bool (Ix.idxOk num til l)) ∧ Below w.heap.size w w' := by
  have HB := hide (below1 w (.cells #[.int .i64 num, .int .i64 til, mv] 37))
  obtain ⟨a, cap, rfl, hlen, hrow⟩ := h
  cases hA : Pk.inB num 1 30
  · go_enter Tryz.func46, Tryz.ntmps46
    go_wp2_with (go_at_call 69; refine (in_any _ _ _ _).mono ?_; rintro e w' ⟨rfl, rfl⟩)
    go_ret
    exact ⟨ret_bool (by simp [Ix.idxOk, hA]), unhide HB⟩
  cases hB : Pk.inB til 0 60
  · go_enter Tryz.func46, Tryz.ntmps46
    go_wp2_with (go_at_call 69; refine (in_any _ _ _ _).mono ?_; rintro e w' ⟨rfl, rfl⟩)
    go_ret
    exact ⟨ret_bool (by simp [Ix.idxOk, hB]), unhide HB⟩
  by_cases hL : (8 : Int) < (l.length : Int)
  · go_enter Tryz.func46, Tryz.ntmps46
    go_wp2_with (go_at_call 69; refine (in_any _ _ _ _).mono ?_; rintro e w' ⟨rfl, rfl⟩)
    go_ret
    exact ⟨ret_bool (by have : ¬ l.length ≤ 8 := (by omega); simp [Ix.idxOk, this]), unhide HB⟩
  have hL' : decide ((8 : Int) < (l.length : Int)) = false := by simpa using hL
  go_enter Tryz.func46, Tryz.ntmps46
  go_wp2_with (go_at_call 69; refine (in_any _ _ _ _).mono ?_; rintro e w' ⟨rfl, rfl⟩)
  go_loopw [3] (fun i w' => ∃ k : Nat, k ≤ l.length ∧ i = .int .i64 k ∧ w'.heap[w.heap.size]? = some (.cells #[.int .i64 num, .int .i64 til, .slice a l.length cap] 37 (0, 0)) ∧ Below w.heap.size w w' ∧ ∀ j, j < k → Ix.good l j = true) (fun i _ => l.length - (intOf i).toNat)
  case atStart => exact ⟨0, Nat.zero_le _, rfl, heap_alloc_new w _, unhide HB, fun j hj => by omega⟩
  case round =>
    obtain ⟨k, hk, rfl, hX, hw, hgood⟩ := hrel
    have HG := hide hgood
    have HX := hide hX
    have HW := hide hw
    have p2 := cellOf hX 2
    clear hgood hX hw HB
    by_cases hlt : k < l.length
    · obtain ⟨b, off, rfl, hb, hc⟩ := hrow (by omega)
      have hcw : ∀ i, i < l.length → wr.cell? ⟨b, off + i * 3, none⟩ = some (.int .i64 (Ix.nm l i)) ∧ wr.cell? ⟨b, off + i * 3 + 1, none⟩ = some (.int .i64 (Ix.vr l i)) ∧ wr.cell? ⟨b, off + i * 3 + 2, none⟩ = some (.int .i64 (Ix.sm l i)) := fun i hi => by rw [(unhide HW).cell hb, (unhide HW).cell hb, (unhide HW).cell hb]; exact hc i hi
      have hb' : b < wr.heap.size := Nat.lt_of_lt_of_le hb (unhide HW).size
      have hs' : w.heap.size < wr.heap.size := heapLt (unhide HX)
      obtain ⟨c0, c1, c2⟩ := hcw k hlt
      have HC := hide hcw
      clear hc hrow hcw
      have hi0 : (0 : Int) ≤ (k : Int) := Int.natCast_nonneg _
      have hi1 : (k : Int) < (l.length : Int) := by omega
      have HN0 := hide ((unhide HW).alloc (unhide HW).size (.cells #[.int .i64 (Ix.nm l k), .int .i64 (Ix.vr l k), .int .i64 (Ix.sm l k)] 60))
      have HX0 := hide ((Below.heap_alloc wr (.cells #[.int .i64 (Ix.nm l k), .int .i64 (Ix.vr l k), .int .i64 (Ix.sm l k)] 60) _ hs').trans (unhide HX))
      cases hA1 : Pk.inB (Ix.nm l k) 1 4
      · go_wp2_with (go_at_call 69; refine (in_any _ _ _ _).mono ?_; rintro e w' ⟨rfl, rfl⟩)
        go_ret
        exact ⟨ret_bool (by rw [Ix.idxOk, Ix.metasOk_bad hlt (by simp [Ix.good, Ix.mOk, hA1]), Bool.and_false]), unhide HN0⟩
      cases hA2 : Pk.inB (Ix.vr l k) 1 5
      · go_wp2_with (go_at_call 69; refine (in_any _ _ _ _).mono ?_; rintro e w' ⟨rfl, rfl⟩)
        go_ret
        exact ⟨ret_bool (by rw [Ix.idxOk, Ix.metasOk_bad hlt (by simp [Ix.good, Ix.mOk, hA2]), Bool.and_false]), unhide HN0⟩
      cases hA3 : Pk.inB (Ix.sm l k) 0 9972
      · go_wp2_with (go_at_call 69; refine (in_any _ _ _ _).mono ?_; rintro e w' ⟨rfl, rfl⟩)
        go_ret
        exact ⟨ret_bool (by rw [Ix.idxOk, Ix.metasOk_bad hlt (by simp [Ix.good, Ix.mOk, hA3]), Bool.and_false]), unhide HN0⟩
      rcases Nat.eq_zero_or_pos k with rfl | hpos
      · simp only [Nat.zero_mul, Nat.add_zero] at c0 c1 c2
        go_wp2_with (go_at_call 69; refine (in_any _ _ _ _).mono ?_; rintro e w' ⟨rfl, rfl⟩)
        go_quiet (fail)
        go_wp2
        go_roundw
        case rel => exact ⟨1, by omega, by go_num, unhide HX0, below_drewN (unhide HN0) _, one_lt (by simp [Ix.good, Ix.mOk, hA1, hA2, hA3])⟩
        case measure => simp [intOf]; omega
      · obtain ⟨m, rfl⟩ : ∃ m, k = m + 1 := ⟨k - 1, by omega⟩
        obtain ⟨d0, d1, _⟩ := unhide HC m (by omega)
        have hp0 : decide ((0 : Int) < ((m + 1 : Nat) : Int)) = true := by simp
        cases hP : Ix.less (Ix.nm l m) (Ix.vr l m) (Ix.nm l (m + 1)) (Ix.vr l (m + 1))
        · go_wp2_with (go_at_call 69; refine (in_any _ _ _ _).mono ?_; rintro e w' ⟨rfl, rfl⟩)
          go_quiet ((go_at_call 71; exact Calls.quiet_of_same (l3Less_any _ _ _ _ _)))
          go_wp2
          go_ret
          exact ⟨ret_bool (by rw [Ix.idxOk, Ix.metasOk_bad hlt (by simp [Ix.good, hP]), Bool.and_false]), below_drewN (unhide HN0) _⟩
        · go_wp2_with (go_at_call 69; refine (in_any _ _ _ _).mono ?_; rintro e w' ⟨rfl, rfl⟩)
          go_quiet ((go_at_call 71; exact Calls.quiet_of_same (l3Less_any _ _ _ _ _)))
          go_wp2
          go_roundw
          case rel => exact ⟨m + 1 + 1, by omega, by go_num, unhide HX0, below_drewN (unhide HN0) _, fun j hj => by
            rcases Nat.lt_or_ge j (m + 1) with h | h
            · exact unhide HG j h
            · obtain rfl : j = m + 1 := by omega
              simp [Ix.good, Ix.mOk, hA1, hA2, hA3, hP]⟩
          case measure => simp [intOf]; omega
    · clear hrow
      go_wp2
      go_ret
      exact ⟨ret_bool (by rw [Ix.idxOk, Ix.metasOk_good (fun i hi => unhide HG i (by omega)), hA, hB, decide_eq_true (by omega : l.length ≤ 8)]; rfl), unhide HW⟩
end Go.Proofs.YtlnieobmhofkdaaGreat

/- Laws on regions that draw their order and only read, whose callees leave what was there: one walk in the order of the text, a step at a time, guards decided. -/
namespace Go.Proofs.YtlnieobmhofkdaaGreat
open Go.RowKit
/-- The walk of what is left of a region, shut (so that nobody unfolds it). -/
structure WQ (P : Program) (ops : Array Oper) (C : World → Prop) (Q : Act → Prop) (l : List Oper) (a : Act) : Prop where
  out : wpQuiet P ops C Q l a
section
variable {P : Program} {ops : Array Oper} {C : World → Prop} {Q : Act → Prop} {a : Act} {o : Oper} {rest : List Oper}
theorem wq_take {v : Value} {d : Option Tmp} (hd : o.dst = d) (hw : Region.wanted o (yielded ops a.tmps) = true) (hy : ∀ w, C w → (execOp a.eval o).run P w = .ok (.value v) w)
    (h : WQ P ops C Q rest (a.put d v)) : WQ P ops C Q (o :: rest) a := by
  refine ⟨?_⟩
  unfold wpQuiet
  rw [if_pos hw]
  exact ⟨v, fun w hC => by unfold Oper.quietAt; rw [hy w hC]; exact ⟨rfl, rfl⟩, by rw [hd]; exact h.out⟩
theorem wq_skip {d : Option Tmp} (hd : o.dst = d) (hw : Region.wanted o (yielded ops a.tmps) = false) (h : WQ P ops C Q rest (a.put d undef)) : WQ P ops C Q (o :: rest) a := by
  refine ⟨?_⟩
  unfold wpQuiet
  rw [if_neg (by rw [hw]; exact Bool.false_ne_true), hd]
  exact h.out
theorem wq_call {v : Value} {d : Option Tmp} {f : FuncId} {args : Array Value} (hd : o.dst = d) (hw : Region.wanted o (yielded ops a.tmps) = true) (hy : ∀ w, C w → (execOp a.eval o).run P w = .ok (.enter f args) w)
    (hc : ∀ w, C w → Calls P f args w fun e w' => e = .returned v ∧ C w') (h : WQ P ops C Q rest (a.put d v)) : WQ P ops C Q (o :: rest) a := by
  refine ⟨?_⟩
  unfold wpQuiet
  rw [if_pos hw]
  exact ⟨v, fun w hC => by unfold Oper.quietAt; rw [hy w hC]; exact ⟨rfl, hc w hC⟩, by rw [hd]; exact h.out⟩
theorem run_move {i : Nat} {v : Value} (ho : o.op = .move (.tmp i)) (hv : a.tmps[i]? = some v) (w : World) : (execOp a.eval o).run P w = .ok (.value v) w := by
  obtain ⟨d, op, t, p, af, g⟩ := o
  dsimp only at ho
  subst ho
  simp [execOp, hv, go_sem]
theorem wq_move {i : Nat} {v : Value} {d : Option Tmp} (ho : o.op = .move (.tmp i)) (hd : o.dst = d) (hw : Region.wanted o (yielded ops a.tmps) = true) (hv : a.tmps[i]? = some v)
    (h : WQ P ops C Q rest (a.put d v)) : WQ P ops C Q (o :: rest) a := wq_take hd hw (fun w _ => run_move ho hv w) h
theorem wq_nil (h : Q a) : WQ P ops C Q [] a := ⟨h⟩
theorem wq_region {id : Nat} {Q : Exit → Act → World → Prop} {a : Act} {w : World} {l : List Oper} (hm : P.follows .mixedOrders = true) (hB : Region.lexB .any l.toArray = true)
    (h : WQ P l.toArray (fun w' => Below w.heap.size w w') (fun a' => ∀ w', Below w.heap.size w w' → Q .normal a' w') l a) : (Code.region id l.toArray true).wp P Q a w :=
  wp_region_quiet (C := fun w' => Below w.heap.size w w') hm hB (below_drew w) (by simpa using h.out)
end
end Go.Proofs.YtlnieobmhofkdaaGreat
