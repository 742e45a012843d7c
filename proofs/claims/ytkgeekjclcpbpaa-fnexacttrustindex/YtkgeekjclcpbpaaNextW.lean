/- What spec.RootNext and impl.RootNext return: whether a root may come behind another one; for all roots; nothing old is written. -/
import Derived.Test.YtkgeekjclcpbpaaRootW
namespace Go.Proofs.Ytkgeekjclcpbpaa
open Go.RowKit

/-- A signed root in a box, its keys, and those that sign. -/
structure Sx (w : World) (g : Nat) (n d : Int) (v vb : Value) (k by' : List Int) : Prop where
  lt : g < w.heap.size
  c0 : w.cell? ⟨g, 0, none⟩ = some (.int .i64 n)
  c1 : w.cell? ⟨g, 1, none⟩ = some v
  c2 : w.cell? ⟨g, 2, none⟩ = some (.int .i64 d)
  c3 : w.cell? ⟨g, 3, none⟩ = some vb
  ins : Ins w v k
  inb : Ins w vb by'
theorem Sx.later {w w' : World} {g : Nat} {n d : Int} {v vb : Value} {k by' : List Int} (h : Sx w g n d v vb k by') (hb : Below w.heap.size w w') : Sx w' g n d v vb k by' :=
  ⟨Nat.lt_of_lt_of_le h.lt hb.size, (hb.cell h.lt).trans h.c0, (hb.cell h.lt).trans h.c1, (hb.cell h.lt).trans h.c2, (hb.cell h.lt).trans h.c3, h.ins.later hb, h.inb.later hb⟩
theorem Sx.new {w : World} {n d : Int} {v vb : Value} {k by' : List Int} (h : Ins w v k) (hb : Ins w vb by') (t : TypeId) : Sx (w.alloc (.cells #[.int .i64 n, v, .int .i64 d, vb] t)) w.heap.size n d v vb k by' := by
  obtain ⟨z, x0, x1, x2, x3⟩ := box4i w (.int .i64 n) v (.int .i64 d) vb t
  exact ⟨by omega, x0, x1, x2, x3, h.later (below1 _ _), hb.later (below1 _ _)⟩

/-- Both boxes behind each other. -/
theorem two_boxes {w : World} {n d n2 d2 : Int} {v v2 vb : Value} {k k2 by' : List Int} (h : Ins w v k) (h2 : Ins w v2 k2) (hb : Ins w vb by') (t t2 : TypeId) :
    Bx ((w.alloc (.cells #[.int .i64 n, v, .int .i64 d] t)).alloc (.cells #[.int .i64 n2, v2, .int .i64 d2, vb] t2)) w.heap.size n d v k ∧ Sx ((w.alloc (.cells #[.int .i64 n, v, .int .i64 d] t)).alloc (.cells #[.int .i64 n2, v2, .int .i64 d2, vb] t2)) (w.heap.size + 1) n2 d2 v2 vb k2 by' ∧ Below w.heap.size w ((w.alloc (.cells #[.int .i64 n, v, .int .i64 d] t)).alloc (.cells #[.int .i64 n2, v2, .int .i64 d2, vb] t2)) := by
  have B1 := below1 w (.cells #[.int .i64 n, v, .int .i64 d] t)
  have X1 := Bx.new (n := n) (d := d) h t
  generalize hW : w.alloc (.cells #[.int .i64 n, v, .int .i64 d] t) = W at *
  have hz : W.heap.size = w.heap.size + 1 := by rw [← hW]; simp
  have B2 := below1 W (.cells #[.int .i64 n2, v2, .int .i64 d2, vb] t2)
  refine ⟨X1.later B2, ?_, B1.trans (B2.mono B1.size)⟩
  rw [← hz]
  exact Sx.new (h2.later B1) (hb.later B1) t2

set_option maxHeartbeats 1000000 in
theorem specRootNext_any (w : World) (n d n2 d2 : Int) (v v2 vb : Value) (k k2 by' : List Int) (h : Ins w v k) (h2 : Ins w v2 k2) (hb : Ins w vb by') :
    Calls Try.prog 107 #[.agg #[.int .i64 n, v, .int .i64 d], .agg #[.int .i64 n2, v2, .int .i64 d2, vb]] w fun e w' => e = .returned (.bool (Ky.next n k d n2 k2 d2 by')) ∧ Below w.heap.size w w' := by
  obtain ⟨a, c, hv⟩ := h.slice
  obtain ⟨a2, c2, hv2⟩ := h2.slice
  obtain ⟨ab, cb, hvb⟩ := hb.slice
  subst hv hv2 hvb
  have X0 := hide (two_boxes (n := n) (d := d) (n2 := n2) (d2 := d2) h h2 hb 25 46)
  clear h h2 hb
  go_enter Try.func107, Try.ntmps107
  go_wp2_with fail
  refine (specRootSigned_any _ n d _ _ k by' (unhide X0).1.ins (unhide X0).2.1.inb).mono ?_
  generalize (w.alloc _).alloc _ = W0 at *
  rintro e w1 ⟨rfl, b1⟩
  have X1 : Hid (_ ∧ _ ∧ _) := ⟨(unhide X0).1.later b1, (unhide X0).2.1.later b1, (unhide X0).2.2.trans (b1.mono (unhide X0).2.2.size)⟩
  obtain ⟨⟨_, p0, p1, p2, _⟩, ⟨_, q0, q1, q2, q3, _, _⟩, _⟩ := unhide X1
  clear b1 X0
  clear W0
  cases hA : Ky.signed n k d by'
  · go_wp2
    go_ret
    exact ⟨ret_bool (by simp [Ky.next, hA]), (unhide X1).2.2⟩
  · go_wp2_with fail
    refine (specRootSigned_any _ n2 d2 _ _ k2 by' (unhide X1).2.1.ins (unhide X1).2.1.inb).mono ?_
    rintro e w2 ⟨rfl, b2⟩
    have X2 : Hid (Bx w2 _ _ _ _ _ ∧ Sx w2 _ _ _ _ _ _ _ ∧ Below _ w w2) := ⟨(unhide X1).1.later b2, (unhide X1).2.1.later b2, (unhide X1).2.2.trans (b2.mono (unhide X1).2.2.size)⟩
    clear b2 X1 p0 p1 p2 q0 q1 q2 q3
    obtain ⟨⟨_, p0, p1, p2, _⟩, ⟨_, q0, q1, q2, q3, _, _⟩, _⟩ := unhide X2
    cases hB : Ky.signed n2 k2 d2 by'
    · go_wp2
      go_ret
      exact ⟨ret_bool (by simp [Ky.next, hB]), (unhide X2).2.2⟩
    · have hn : 1 ≤ n ∧ n ≤ 9 := by
        unfold Ky.signed Ky.rootOk at hA
        rw [Bool.and_eq_true, Bool.and_eq_true, Bool.and_eq_true, Bool.and_eq_true, Pk.inB_true] at hA
        exact hA.1.1.1.1
      go_wp2
      go_ret
      exact ⟨ret_bool (by unfold Ky.next; rw [hA, hB, Bool.eq_iff_iff]; simp), (unhide X2).2.2⟩

set_option maxHeartbeats 1000000 in
theorem implRootNext_any (w : World) (n d n2 d2 : Int) (v v2 vb : Value) (k k2 by' : List Int) (h : Ins w v k) (h2 : Ins w v2 k2) (hb : Ins w vb by') :
    Calls Try.prog 66 #[.agg #[.int .i64 n, v, .int .i64 d], .agg #[.int .i64 n2, v2, .int .i64 d2, vb]] w fun e w' => e = .returned (.bool (Ky.next n k d n2 k2 d2 by')) ∧ Below w.heap.size w w' := by
  obtain ⟨a, c, hv⟩ := h.slice
  obtain ⟨a2, c2, hv2⟩ := h2.slice
  obtain ⟨ab, cb, hvb⟩ := hb.slice
  subst hv hv2 hvb
  have X0 := hide (two_boxes (n := n) (d := d) (n2 := n2) (d2 := d2) h h2 hb 25 46)
  clear h h2 hb
  go_enter Try.func66, Try.ntmps66
  go_wp2_with fail
  refine (implKeysOk_b _ _ by' rfl (unhide X0).2.1.inb).mono ?_
  generalize (w.alloc _).alloc _ = W0 at *
  rintro e w1 ⟨rfl, b1⟩
  have X1 : Hid (_ ∧ _ ∧ _) := ⟨(unhide X0).1.later b1, (unhide X0).2.1.later b1, (unhide X0).2.2.trans (b1.mono (unhide X0).2.2.size)⟩
  obtain ⟨⟨_, p0, p1, p2, _⟩, ⟨_, q0, q1, q2, q3, _, _⟩, _⟩ := unhide X1
  clear b1 X0
  clear W0
  cases hK : Ky.keysOk by'
  · go_wp2
    go_ret
    exact ⟨ret_bool (by simp [Ky.next, Ky.signed, hK]), (unhide X1).2.2⟩
  · obtain ⟨s1, s2⟩ := small_ok hK
    go_wp2_with fail
    refine (setOf_any _ _ by' (unhide X1).2.1.inb s1 s2).mono ?_
    rintro e w2 ⟨rfl, o2, b2⟩
    have X2 : Hid (Bx w2 _ _ _ _ _ ∧ Sx w2 _ _ _ _ _ _ _ ∧ Below _ w w2) := ⟨(unhide X1).1.later b2, (unhide X1).2.1.later b2, (unhide X1).2.2.trans (b2.mono (unhide X1).2.2.size)⟩
    have O2 := hide o2
    clear b2 X1 p0 p1 p2 q0 q1 q2 q3 o2
    obtain ⟨⟨_, p0, p1, p2, _⟩, ⟨_, q0, q1, q2, q3, _, _⟩, _⟩ := unhide X2
    go_wp2_with fail
    refine (signedBy_any _ n d _ k by' _ (unhide X2).1.ins (unhide O2)).mono ?_
    rintro e w3 ⟨rfl, b3⟩
    have X3 : Hid (Bx w3 _ _ _ _ _ ∧ Sx w3 _ _ _ _ _ _ _ ∧ Below _ w w3) := ⟨(unhide X2).1.later b3, (unhide X2).2.1.later b3, (unhide X2).2.2.trans (b3.mono (unhide X2).2.2.size)⟩
    have O3 := hide ((unhide O2).later b3)
    clear b3 X2 O2 p0 p1 p2 q0 q1 q2 q3
    obtain ⟨⟨_, p0, p1, p2, _⟩, ⟨_, q0, q1, q2, q3, _, _⟩, _⟩ := unhide X3
    have hS : ∀ n k d, Ky.signed n k d by' = (Ky.rootOk n k d && decide (d ≤ (Ky.cnt k by' : Int))) := fun n k d => by unfold Ky.signed; rw [hK]; simp
    have HS := hide hS
    clear hS
    cases hA : (Ky.rootOk n k d && decide (d ≤ (Ky.cnt k by' : Int)))
    · go_wp2
      go_ret
      exact ⟨ret_bool (by unfold Ky.next; rw [unhide HS n k d, hA]; simp), (unhide X3).2.2⟩
    · go_wp2_with fail
      refine (signedBy_any _ n2 d2 _ k2 by' _ (unhide X3).2.1.ins (unhide O3)).mono ?_
      rintro e w4 ⟨rfl, b4⟩
      have X4 : Hid (Bx w4 _ _ _ _ _ ∧ Sx w4 _ _ _ _ _ _ _ ∧ Below _ w w4) := ⟨(unhide X3).1.later b4, (unhide X3).2.1.later b4, (unhide X3).2.2.trans (b4.mono (unhide X3).2.2.size)⟩
      clear b4 X3 O3 p0 p1 p2 q0 q1 q2 q3
      obtain ⟨⟨_, p0, p1, p2, _⟩, ⟨_, q0, q1, q2, q3, _, _⟩, _⟩ := unhide X4
      cases hB : (Ky.rootOk n2 k2 d2 && decide (d2 ≤ (Ky.cnt k2 by' : Int)))
      · go_wp2
        go_ret
        exact ⟨ret_bool (by unfold Ky.next; rw [unhide HS n2 k2 d2, hB]; simp), (unhide X4).2.2⟩
      · have hn : 1 ≤ n ∧ n ≤ 9 := by
          rw [Bool.and_eq_true] at hA
          have h1 := hA.1
          unfold Ky.rootOk at h1
          rw [Bool.and_eq_true, Bool.and_eq_true, Pk.inB_true] at h1
          exact h1.1.1
        go_wp2
        go_ret
        exact ⟨ret_bool (by unfold Ky.next; rw [unhide HS n k d, unhide HS n2 k2 d2, hA, hB, Bool.eq_iff_iff]; simp), (unhide X4).2.2⟩
end Go.Proofs.Ytkgeekjclcpbpaa
