/- What the laws' eqIndex returns: true of two indexes that read the same. -/
import Derived.Test.YtlnieobmhofkdaaGreatMetasW
import Derived.Deep.RegionHeld3
import Derived.Deep.DrawnRows
namespace Go.Proofs.YtlnieobmhofkdaaGreat
open Go.RowKit

attribute [local go_sem ↓] Go.wp_at_zero Go.wp_at_succ

set_option maxHeartbeats 1000000 in
theorem eqMeta_any (a b c : Int) (w : World) : Calls Tryz.prog 33 #[.agg #[.int .i64 a, .int .i64 b, .int .i64 c], .agg #[.int .i64 a, .int .i64 b, .int .i64 c]] w fun e w' => e = .returned (.bool true) ∧ Below w.heap.size w w' := by
  have ha : (a != a) = false := by simp
  have hb : (b != b) = false := by simp
  have hc : (c != c) = false := by simp
  go_enter Tryz.func33, Tryz.ntmps33
  go_wp2
  go_ret
  exact ⟨rfl, ((Below.refl _ _).alloc (Nat.le_refl _) _).alloc (by rw [sz1']; omega) _⟩

set_option maxHeartbeats 2000000 in
theorem eqMetaS_any (w : World) (v v' : Value) (l : List Ix.M) (h : Trs w v l) (h' : Trs w v' l) :
    Calls Tryz.prog 10 #[v, v'] w fun e w' => e = .returned (.bool true) ∧ Below w.heap.size w w' := by
  obtain ⟨a, cap, rfl, hlen, hrow⟩ := h
  obtain ⟨a', cap', rfl, _, hrow'⟩ := h'
  have hne : ((l.length : Int) != (l.length : Int)) = false := by simp
  go_enter Tryz.func10, Tryz.ntmps10
  go_wp2
  go_loopw [5] (fun i w' => ∃ k : Nat, k ≤ l.length ∧ i = .int .i64 k ∧ Below w.heap.size w w') (fun i _ => l.length - (intOf i).toNat)
  case atStart => exact ⟨0, Nat.zero_le _, rfl, Below.refl _ _⟩
  case round =>
    obtain ⟨k, hk, rfl, hw⟩ := hrel
    have HW := hide hw
    by_cases hlt : k < l.length
    · obtain ⟨b, off, rfl, hb, hc⟩ := hrow (by omega)
      obtain ⟨b', off', rfl, hb', hc'⟩ := hrow' (by omega)
      obtain ⟨c1, c2, c3⟩ := hc k hlt
      obtain ⟨d1, d2, d3⟩ := hc' k hlt
      rw [← hw.cell hb] at c1 c2 c3
      rw [← hw.cell hb'] at d1 d2 d3
      have z1 : b < wr.heap.size := Nat.lt_of_lt_of_le hb hw.size
      have z2 : b' < wr.heap.size := Nat.lt_of_lt_of_le hb' hw.size
      clear hc hc' hrow hrow' hw
      have hi0 : (0 : Int) ≤ (k : Int) := Int.natCast_nonneg _
      have hi1 : (k : Int) < (l.length : Int) := by omega
      go_wp2_with fail
      go_region_held3 (fun w' => (w'.cell? ⟨b, off + k * 3, none⟩ = some (.int .i64 (Ix.nm l k)) ∧ w'.cell? ⟨b, off + k * 3 + 1, none⟩ = some (.int .i64 (Ix.vr l k)) ∧ w'.cell? ⟨b, off + k * 3 + 2, none⟩ = some (.int .i64 (Ix.sm l k))) ∧ w'.cell? ⟨b', off' + k * 3, none⟩ = some (.int .i64 (Ix.nm l k)) ∧ w'.cell? ⟨b', off' + k * 3 + 1, none⟩ = some (.int .i64 (Ix.vr l k)) ∧ w'.cell? ⟨b', off' + k * 3 + 2, none⟩ = some (.int .i64 (Ix.sm l k)))
        (first | (go_keep; done) | (go_split_ands; refine ⟨⟨?_, ?_, ?_⟩, ?_, ?_, ?_⟩ <;> (rw [hbn.cell (by simp; omega)]; assumption)) | fail)
        ((go_at_call 33; refine (eqMeta_any _ _ _ _).mono ?_; rintro e w3 ⟨rfl, hbn⟩))
      have HW3 : Hid (Below w.heap.size w w3) := (unhide HW).trans ((show Below wr.heap.size wr w3 from ⟨hbn.os, hbn.tape, hbn.output, hbn.size, hbn.block⟩).mono (unhide HW).size)
      clear hbn
      go_wp2
      go_roundw
      case rel => exact ⟨k + 1, by omega, by go_num, unhide HW3⟩
      case measure => simp [intOf]; omega
    · clear hw
      go_wp2
      go_ret
      exact ⟨rfl, unhide HW⟩

set_option maxHeartbeats 2000000 in
/-- eqIndex: true where both read the same. -/
theorem eqIndex_any (w : World) (n d : Int) (v v' : Value) (l : List Ix.M) (h : Trs w v l) (h' : Trs w v' l) :
    Calls Tryz.prog 35 #[.agg #[.int .i64 n, .int .i64 d, v], .agg #[.int .i64 n, .int .i64 d, v']] w fun e w' => e = .returned (.bool true) ∧ Below w.heap.size w w' := by
  have hn : (n != n) = false := by simp
  have hd : (d != d) = false := by simp
  have hbel : ∀ o1 o2 : Obj, Below w.heap.size w ((w.alloc o1).alloc o2) := fun o1 o2 => ((Below.refl _ _).alloc (Nat.le_refl _) _).alloc (by rw [sz1']; omega) _
  have HF : Hid (∀ o1 o2 : Obj, Trs ((w.alloc o1).alloc o2) v l) := fun o1 o2 => h.later (hbel o1 o2)
  have HF' : Hid (∀ o1 o2 : Obj, Trs ((w.alloc o1).alloc o2) v' l) := fun o1 o2 => h'.later (hbel o1 o2)
  have HB := hide hbel
  obtain ⟨fa, fc, e1⟩ := h.slice
  obtain ⟨fa', fc', e3⟩ := h'.slice
  subst e1 e3
  clear h h' hbel
  go_enter Tryz.func35, Tryz.ntmps35
  go_wp2_with fail
  refine (eqMetaS_any _ _ _ l (unhide HF _ _) (unhide HF' _ _)).mono ?_
  rintro e w1 ⟨rfl, hb1⟩
  have HB1 := hide ((unhide HB _ _).trans (hb1.mono (by rw [sz1', sz1']; omega)))
  clear hb1
  go_wp2
  go_ret
  exact ⟨rfl, unhide HB1⟩
end Go.Proofs.YtlnieobmhofkdaaGreat
