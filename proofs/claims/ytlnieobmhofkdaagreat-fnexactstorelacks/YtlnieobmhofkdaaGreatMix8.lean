import Derived.Test.YtlnieobmhofkdaaGreatPkgTextW
import Derived.Deep.RegionHeld3
import Derived.Deep.DrawnRows
import Derived.Test.YtlnieobmhofkdaaGreatCopyW
/- What the laws' eqPkg returns: true of two packages that read the same. -/
namespace Go.Proofs.YtlnieobmhofkdaaGreat
open Go.RowKit

attribute [local go_sem ↓] Go.wp_at_zero Go.wp_at_succ

theorem sz1e (w : World) (o : Obj) : (w.alloc o).heap.size = w.heap.size + 1 := by simp
set_option maxHeartbeats 1000000 in
theorem eqFile_any (a b : Int) (w : World) : Calls Tryz.prog 87 #[.agg #[.int .i64 a, .int .i64 b], .agg #[.int .i64 a, .int .i64 b]] w fun e w' => e = .returned (.bool true) ∧ Below w.heap.size w w' := by
  have ha : (a != a) = false := by simp
  have hb : (b != b) = false := by simp
  go_enter Tryz.func87, Tryz.ntmps87
  go_wp2
  go_ret
  exact ⟨rfl, ((Below.refl _ _).alloc (Nat.le_refl _) _).alloc (by rw [sz1e]; omega) _⟩

set_option maxHeartbeats 2000000 in
theorem eqFileS_any (w : World) (v v' : Value) (l : List (Int × Int)) (h : Prs w v l) (h' : Prs w v' l) :
    Calls Tryz.prog 66 #[v, v'] w fun e w' => e = .returned (.bool true) ∧ Below w.heap.size w w' := by
  obtain ⟨a, cap, rfl, hlen, hrow⟩ := h
  obtain ⟨a', cap', rfl, _, hrow'⟩ := h'
  have hne : ((l.length : Int) != (l.length : Int)) = false := by simp
  go_enter Tryz.func66, Tryz.ntmps66
  go_wp2
  go_loopw [5] (fun i w' => ∃ k : Nat, k ≤ l.length ∧ i = .int .i64 k ∧ Below w.heap.size w w') (fun i _ => l.length - (intOf i).toNat)
  case atStart => exact ⟨0, Nat.zero_le _, rfl, Below.refl _ _⟩
  case round =>
    obtain ⟨k, hk, rfl, hw⟩ := hrel
    have HW := hide hw
    by_cases hlt : k < l.length
    · obtain ⟨b, off, rfl, hb, hc⟩ := hrow (by omega)
      obtain ⟨b', off', rfl, hb', hc'⟩ := hrow' (by omega)
      obtain ⟨c1, c2⟩ := hc k hlt
      obtain ⟨d1, d2⟩ := hc' k hlt
      rw [← hw.cell hb] at c1 c2
      rw [← hw.cell hb'] at d1 d2
      have z1 : b < wr.heap.size := Nat.lt_of_lt_of_le hb hw.size
      have z2 : b' < wr.heap.size := Nat.lt_of_lt_of_le hb' hw.size
      clear hc hc' hrow hrow' hw
      have hi0 : (0 : Int) ≤ (k : Int) := Int.natCast_nonneg _
      have hi1 : (k : Int) < (l.length : Int) := by omega
      go_wp2_with fail
      go_region_held3 (fun w' => w'.cell? ⟨b, off + k * 2, none⟩ = some (.int .i64 (Pk.fst l k)) ∧ w'.cell? ⟨b, off + k * 2 + 1, none⟩ = some (.int .i64 (Pk.snd l k)) ∧ w'.cell? ⟨b', off' + k * 2, none⟩ = some (.int .i64 (Pk.fst l k)) ∧ w'.cell? ⟨b', off' + k * 2 + 1, none⟩ = some (.int .i64 (Pk.snd l k)))
        (first | (go_keep; done) | (go_split_ands; refine ⟨?_, ?_, ?_, ?_⟩ <;> (rw [hbn.cell (by simp; omega)]; assumption)) | fail)
        ((go_at_call 87; refine (eqFile_any _ _ _).mono ?_; rintro e w3 ⟨rfl, hbn⟩))
      have HW3 : Hid (Below w.heap.size w w3) := (unhide HW).trans ((show Below wr.heap.size wr w3 from ⟨hbn.os, hbn.tape, hbn.output, hbn.size, hbn.block⟩).mono (unhide HW).size)
      clear hbn
      go_wp2
      go_roundw
      case rel => exact ⟨k + 1, by omega, by go_num, unhide HW3⟩
      case measure => simp [intOf]; omega
    · clear hw
      go_wp2
      go_ret
      exact ⟨rfl, unhide HW⟩
set_option maxHeartbeats 1000000 in
theorem eqDep_any (a b : Int) (w : World) : Calls Tryz.prog 88 #[.agg #[.int .i64 a, .int .i64 b], .agg #[.int .i64 a, .int .i64 b]] w fun e w' => e = .returned (.bool true) ∧ Below w.heap.size w w' := by
  have ha : (a != a) = false := by simp
  have hb : (b != b) = false := by simp
  go_enter Tryz.func88, Tryz.ntmps88
  go_wp2
  go_ret
  exact ⟨rfl, ((Below.refl _ _).alloc (Nat.le_refl _) _).alloc (by rw [sz1e]; omega) _⟩

set_option maxHeartbeats 2000000 in
theorem eqDepS_any (w : World) (v v' : Value) (l : List (Int × Int)) (h : Prs w v l) (h' : Prs w v' l) :
    Calls Tryz.prog 67 #[v, v'] w fun e w' => e = .returned (.bool true) ∧ Below w.heap.size w w' := by
  obtain ⟨a, cap, rfl, hlen, hrow⟩ := h
  obtain ⟨a', cap', rfl, _, hrow'⟩ := h'
  have hne : ((l.length : Int) != (l.length : Int)) = false := by simp
  go_enter Tryz.func67, Tryz.ntmps67
  go_wp2
  go_loopw [5] (fun i w' => ∃ k : Nat, k ≤ l.length ∧ i = .int .i64 k ∧ Below w.heap.size w w') (fun i _ => l.length - (intOf i).toNat)
  case atStart => exact ⟨0, Nat.zero_le _, rfl, Below.refl _ _⟩
  case round =>
    obtain ⟨k, hk, rfl, hw⟩ := hrel
    have HW := hide hw
    by_cases hlt : k < l.length
    · obtain ⟨b, off, rfl, hb, hc⟩ := hrow (by omega)
      obtain ⟨b', off', rfl, hb', hc'⟩ := hrow' (by omega)
      obtain ⟨c1, c2⟩ := hc k hlt
      obtain ⟨d1, d2⟩ := hc' k hlt
      rw [← hw.cell hb] at c1 c2
      rw [← hw.cell hb'] at d1 d2
      have z1 : b < wr.heap.size := Nat.lt_of_lt_of_le hb hw.size
      have z2 : b' < wr.heap.size := Nat.lt_of_lt_of_le hb' hw.size
      clear hc hc' hrow hrow' hw
      have hi0 : (0 : Int) ≤ (k : Int) := Int.natCast_nonneg _
      have hi1 : (k : Int) < (l.length : Int) := by omega
      go_wp2_with fail
      go_region_held3 (fun w' => w'.cell? ⟨b, off + k * 2, none⟩ = some (.int .i64 (Pk.fst l k)) ∧ w'.cell? ⟨b, off + k * 2 + 1, none⟩ = some (.int .i64 (Pk.snd l k)) ∧ w'.cell? ⟨b', off' + k * 2, none⟩ = some (.int .i64 (Pk.fst l k)) ∧ w'.cell? ⟨b', off' + k * 2 + 1, none⟩ = some (.int .i64 (Pk.snd l k)))
        (first | (go_keep; done) | (go_split_ands; refine ⟨?_, ?_, ?_, ?_⟩ <;> (rw [hbn.cell (by simp; omega)]; assumption)) | fail)
        ((go_at_call 88; refine (eqDep_any _ _ _).mono ?_; rintro e w3 ⟨rfl, hbn⟩))
      have HW3 : Hid (Below w.heap.size w w3) := (unhide HW).trans ((show Below wr.heap.size wr w3 from ⟨hbn.os, hbn.tape, hbn.output, hbn.size, hbn.block⟩).mono (unhide HW).size)
      clear hbn
      go_wp2
      go_roundw
      case rel => exact ⟨k + 1, by omega, by go_num, unhide HW3⟩
      case measure => simp [intOf]; omega
    · clear hw
      go_wp2
      go_ret
      exact ⟨rfl, unhide HW⟩
set_option maxHeartbeats 2000000 in
/-- eqPkg: true where both read the same. -/
theorem eqPkg_any (w : World) (nm vr : Int) (fv dv fv' dv' : Value) (fs ds : List (Int × Int)) (hf : Prs w fv fs) (hd : Prs w dv ds) (hf' : Prs w fv' fs) (hd' : Prs w dv' ds) :
    Calls Tryz.prog 36 #[.agg #[.int .i64 nm, .int .i64 vr, fv, dv], .agg #[.int .i64 nm, .int .i64 vr, fv', dv']] w fun e w' => e = .returned (.bool true) ∧ Below w.heap.size w w' := by
  have hbel : ∀ o1 o2 : Obj, Below w.heap.size w ((w.alloc o1).alloc o2) := fun o1 o2 => ((Below.refl _ _).alloc (Nat.le_refl _) _).alloc (by rw [sz1e]; omega) _
  have HF : Hid (∀ o1 o2 : Obj, Prs ((w.alloc o1).alloc o2) fv fs) := fun o1 o2 => hf.later (hbel o1 o2)
  have HF' : Hid (∀ o1 o2 : Obj, Prs ((w.alloc o1).alloc o2) fv' fs) := fun o1 o2 => hf'.later (hbel o1 o2)
  have HD : Hid (∀ o1 o2 : Obj, Prs ((w.alloc o1).alloc o2) dv ds) := fun o1 o2 => hd.later (hbel o1 o2)
  have HD' : Hid (∀ o1 o2 : Obj, Prs ((w.alloc o1).alloc o2) dv' ds) := fun o1 o2 => hd'.later (hbel o1 o2)
  have HB := hide hbel
  obtain ⟨fa, fc, e1⟩ := hf.slice
  obtain ⟨da, dc, e2⟩ := hd.slice
  obtain ⟨fa', fc', e3⟩ := hf'.slice
  obtain ⟨da', dc', e4⟩ := hd'.slice
  clear hf hd hf' hd' hbel
  subst e1 e2 e3 e4
  have hn : (nm != nm) = false := by simp
  have hv : (vr != vr) = false := by simp
  go_enter Tryz.func36, Tryz.ntmps36
  go_wp2_with fail
  refine (eqFileS_any _ _ _ fs ((unhide HF) _ _) ((unhide HF') _ _)).mono ?_
  rintro e w1 ⟨rfl, hb1⟩
  have x3 : ∀ (a b : Array Value) (t : TypeId), ((w.alloc (.cells a t)).alloc (.cells b t)).cell? ⟨w.heap.size, 3, none⟩ = a[3]? ∧ ((w.alloc (.cells a t)).alloc (.cells b t)).cell? ⟨w.heap.size + 1, 3, none⟩ = b[3]? := fun a b t => by
    constructor
    · rw [World.cell?_alloc_lt _ _ _ (by rw [sz1e]; exact Nat.lt_succ_self _), World.cell?_alloc_new]
    · have := World.cell?_alloc_new (w.alloc (.cells a t)) b t 3
      rw [sz1e] at this
      exact this
  have y3 : w1.cell? ⟨w.heap.size, 3, none⟩ = some (.slice da ds.length dc) := (hb1.cell (by rw [sz1e, sz1e]; show w.heap.size < _; omega)).trans (x3 _ _ _).1
  have y4 : w1.cell? ⟨w.heap.size + 1, 3, none⟩ = some (.slice da' ds.length dc') := (hb1.cell (by rw [sz1e, sz1e]; show w.heap.size + 1 < _; omega)).trans (x3 _ _ _).2
  have P1 : Hid (Prs w1 (.slice da ds.length dc) ds) := ((unhide HD) _ _).later hb1
  have P2 : Hid (Prs w1 (.slice da' ds.length dc') ds) := ((unhide HD') _ _).later hb1
  have HB1 : Hid (Below w.heap.size w w1) := ((unhide HB) _ _).trans (hb1.mono (by rw [sz1e, sz1e]; omega))
  clear hb1 x3 HF HF' HD HD' HB
  go_wp2_with fail
  refine (eqDepS_any _ _ _ ds (unhide P1) (unhide P2)).mono ?_
  rintro e w2 ⟨rfl, hb2⟩
  have HB2 : Hid (Below w.heap.size w w2) := (unhide HB1).trans (hb2.mono (unhide HB1).size)
  clear hb2
  go_wp2
  go_ret
  exact ⟨rfl, unhide HB2⟩
end Go.Proofs.YtlnieobmhofkdaaGreat

/- What the laws' szPkg returns: how much is left. -/
namespace Go.Proofs.YtlnieobmhofkdaaGreat
open Go.RowKit

attribute [local go_sem ↓] Go.wp_at_zero Go.wp_at_succ

set_option maxHeartbeats 1000000 in
theorem szFileS_any (w : World) (a : Option Addr) (n c : Nat) (left : Int) (h0 : 0 ≤ left) (h1 : left ≤ 1048576) (hn : n ≤ 9223372036854775807) :
    Calls Tryz.prog 43 #[.slice a n c, .int .i64 left] w fun e w' => ∃ r : Int, e = .returned (.int .i64 r) ∧ ((n : Int) ≤ left ∧ r = left - n ∨ left < (n : Int) ∧ r = -1) ∧ w' = w := by
  by_cases h : (n : Int) ≤ left
  · go_enter Tryz.func43, Tryz.ntmps43
    go_wp2
    go_ret
    exact ⟨left - n, rfl, Or.inl ⟨h, rfl⟩, rfl⟩
  · have h' : left - (n : Int) < 0 := by omega
    go_enter Tryz.func43, Tryz.ntmps43
    go_wp2
    go_ret
    exact ⟨-1, rfl, by omega, rfl⟩
set_option maxHeartbeats 1000000 in
theorem szDepS_any (w : World) (a : Option Addr) (n c : Nat) (left : Int) (h0 : 0 ≤ left) (h1 : left ≤ 1048576) (hn : n ≤ 9223372036854775807) :
    Calls Tryz.prog 44 #[.slice a n c, .int .i64 left] w fun e w' => ∃ r : Int, e = .returned (.int .i64 r) ∧ ((n : Int) ≤ left ∧ r = left - n ∨ left < (n : Int) ∧ r = -1) ∧ w' = w := by
  by_cases h : (n : Int) ≤ left
  · go_enter Tryz.func44, Tryz.ntmps44
    go_wp2
    go_ret
    exact ⟨left - n, rfl, Or.inl ⟨h, rfl⟩, rfl⟩
  · have h' : left - (n : Int) < 0 := by omega
    go_enter Tryz.func44, Tryz.ntmps44
    go_wp2
    go_ret
    exact ⟨-1, rfl, by omega, rfl⟩

set_option maxHeartbeats 1000000 in
/-- szPkg: what is left, or less than nothing where the rows are too long. -/
theorem szPkg_any (w : World) (nm vr : Int) (fa da : Option Addr) (n c m d : Nat) (left : Int) (h0 : 0 ≤ left) (h1 : left ≤ 1048576) (hn : n ≤ 9223372036854775807) (hm : m ≤ 9223372036854775807) :
    Calls Tryz.prog 19 #[.agg #[.int .i64 nm, .int .i64 vr, .slice fa n c, .slice da m d], .int .i64 left] w fun e w' => ∃ r : Int, e = .returned (.int .i64 r) ∧ ((n : Int) + m ≤ left ∧ r = left - n - m ∨ left < (n : Int) + m ∧ r = -1) ∧ Below w.heap.size w w' := by
  go_enter Tryz.func19, Tryz.ntmps19
  go_wp2_with fail
  refine (szFileS_any _ fa n c left h0 h1 hn).mono ?_
  rintro e w1 ⟨r, rfl, hr, hw1⟩
  have HB : Hid (Below w.heap.size w w1) := by rw [hw1]; exact (Below.refl _ _).alloc (Nat.le_refl _) _
  have b3 : w1.cell? ⟨w.heap.size, 3, none⟩ = some (.slice da m d) := by rw [hw1, World.cell?_alloc_new]; rfl
  clear hw1
  rcases hr with ⟨hr1, hr2⟩ | ⟨hr1, rfl⟩
  · have hr0 : 0 ≤ r := by omega
    have hr3 : r ≤ 1048576 := by omega
    have HR := hide hr2
    clear hr2
    go_wp2_with fail
    refine (szDepS_any _ da m d r hr0 hr3 hm).mono ?_
    rintro e w2 ⟨r2, rfl, hq, rfl⟩
    rcases hq with ⟨hq1, hq2⟩ | ⟨hq1, rfl⟩
    · have hq0 : 0 ≤ r2 := by omega
      have HQ := hide hq2
      clear hq2
      go_wp2
      go_ret
      exact ⟨r2, rfl, Or.inl ⟨by have := unhide HR; omega, by have := unhide HR; have := unhide HQ; omega⟩, unhide HB⟩
    · go_wp2
      go_ret
      exact ⟨-1, rfl, Or.inr ⟨by have := unhide HR; omega, rfl⟩, unhide HB⟩
  · go_wp2
    go_ret
    exact ⟨-1, rfl, Or.inr ⟨by omega, rfl⟩, unhide HB⟩
end Go.Proofs.YtlnieobmhofkdaaGreat
