import Derived.Test.YtlnieobmhofkdaaGreatChecked
import Derived.WalkKit
import Derived.Below
import Derived.OwnWalk
import Derived.Deep.QuietTactic
import Derived.BigQuiet
import Derived.Outline
import Derived.Test.YtlnieobmhofkdaaGreatMathW
/- Small laws that all texts share. -/
namespace Go.Proofs.YtlnieobmhofkdaaGreat
open Go.RowKit

theorem hide {p : Prop} (h : p) : Hid p := h
theorem unhide {p : Prop} (h : Hid p) : p := h
theorem one_lt {P : Nat → Prop} (h : P 0) : ∀ j, j < 1 → P j := fun j hj => by rw [Nat.lt_one_iff.1 hj]; exact h
theorem ret_bool {a b : Bool} (h : a = b) : Ending.returned (.bool a) = .returned (.bool b) := by rw [h]
theorem ret_int {k : IntKind} {a b : Int} (h : a = b) : Ending.returned (.int k a) = .returned (.int k b) := by rw [h]
theorem drewN_trans {w w1 : World} {q : Nat} (h : w1 = w.drewN q) (n : Nat) : ∃ m, w1.drewN n = w.drewN m := ⟨q + n, by rw [h, World.drewN_drewN]⟩
theorem below_drewN {B : Nat} {a w : World} (h : Below B a w) (q : Nat) : Below B a (w.drewN q) := ⟨h.os, h.tape, h.output, h.size, h.block⟩
theorem below_drew (w : World) : Below w.heap.size w w.drew := (Below.refl _ _).drew
theorem heapLt {w : World} {k : Nat} {o : Obj} (h : w.heap[k]? = some o) : k < w.heap.size := by
  rcases Nat.lt_or_ge k w.heap.size with h1 | h1
  · exact h1
  · rw [Array.getElem?_eq_none h1] at h; cases h
theorem cellOf {w : World} {b : Nat} {c : Array Value} {t : TypeId} {fr : Nat × Nat} (h : w.heap[b]? = some (.cells c t fr)) (o : Nat) : w.cell? ⟨b, o, none⟩ = c[o]? := by
  rw [World.cell?, h]; rfl
theorem frozenOf {w : World} {b : Nat} {c : Array Value} {t : TypeId} (h : w.heap[b]? = some (.cells c t (0, 0))) (o : Nat) : w.frozen? ⟨b, o, none⟩ = false := by
  rw [World.frozen?, h]; simp
theorem heapSet {w : World} {b o : Nat} {c : Array Value} {t : TypeId} {fr : Nat × Nat} {v : Value} (h : w.heap[b]? = some (.cells c t fr)) : (w.setCell ⟨b, o, none⟩ v).heap[b]? = some (.cells (c.setIfInBounds o v) t fr) := by
  simp [World.setCell, Array.getElem?_modify, h]
theorem sz1' (w : World) (o : Obj) : (w.alloc o).heap.size = w.heap.size + 1 := by simp
theorem below1 (w : World) (o : Obj) : Below w.heap.size w (w.alloc o) := (Below.refl _ _).alloc (Nat.le_refl _) _
end Go.Proofs.YtlnieobmhofkdaaGreat

/- What spec.l6In returns: whether a number lies between two. -/
namespace Go.Proofs.YtlnieobmhofkdaaGreat
open Go.RowKit

theorem in_any (n lo hi : Int) (w : World) : Calls Tryz.prog 69 #[.int .i64 n, .int .i64 lo, .int .i64 hi] w fun e w' => e = .returned (.bool (Pk.inB n lo hi)) ∧ w' = w := by
  by_cases h1 : lo ≤ n
  · go_enter Tryz.func69, Tryz.ntmps69
    go_wp2
    go_ret
    exact ⟨by simp [Pk.inB, h1], rfl⟩
  · have h2 : decide (lo ≤ n) = false := by simpa using h1
    go_enter Tryz.func69, Tryz.ntmps69
    go_wp2
    go_ret
    exact ⟨by simp [Pk.inB, h2], rfl⟩
end Go.Proofs.YtlnieobmhofkdaaGreat

/- What spec.PkgOk returns: whether the package is ok; for every package; nothing old is written. -/
namespace Go.Proofs.YtlnieobmhofkdaaGreat
open Go.RowKit

/-- A slice of pairs of ints that can be read. -/
def Prs (w : World) (v : Value) (l : List (Int × Int)) : Prop :=
  ∃ a cap, v = .slice a l.length cap ∧ l.length ≤ 1000000000000 ∧ (0 < l.length → ∃ b off, a = some ⟨b, off, none⟩ ∧ b < w.heap.size ∧ ∀ i, i < l.length → w.cell? ⟨b, off + i * 2, none⟩ = some (.int .i64 (Pk.fst l i)) ∧ w.cell? ⟨b, off + i * 2 + 1, none⟩ = some (.int .i64 (Pk.snd l i)))

theorem Prs.later {w w' : World} {v : Value} {l : List (Int × Int)} (h : Prs w v l) (hb : Below w.heap.size w w') : Prs w' v l := by
  obtain ⟨a, cap, hv, hl, hr⟩ := h
  refine ⟨a, cap, hv, hl, fun hp => ?_⟩
  obtain ⟨b, off, ha, hbs, hc⟩ := hr hp
  exact ⟨b, off, ha, Nat.lt_of_lt_of_le hbs hb.size, fun i hi => by rw [hb.cell hbs, hb.cell hbs]; exact hc i hi⟩
theorem Prs.slice {w : World} {v : Value} {l : List (Int × Int)} (h : Prs w v l) : ∃ a cap, v = .slice a l.length cap := by
  obtain ⟨a, cap, hv, _⟩ := h
  exact ⟨a, cap, hv⟩
/-- What a box of four holds, in its own world. -/
theorem box4 (w : World) (a b c d : Value) (t : TypeId) : (w.alloc (.cells #[a, b, c, d] t)).heap.size = w.heap.size + 1 ∧ (w.alloc (.cells #[a, b, c, d] t)).cell? ⟨w.heap.size, 0, none⟩ = some a ∧ (w.alloc (.cells #[a, b, c, d] t)).cell? ⟨w.heap.size, 1, none⟩ = some b ∧ (w.alloc (.cells #[a, b, c, d] t)).cell? ⟨w.heap.size, 2, none⟩ = some c ∧ (w.alloc (.cells #[a, b, c, d] t)).cell? ⟨w.heap.size, 3, none⟩ = some d :=
  ⟨by simp, by rw [World.cell?_alloc_new]; rfl, by rw [World.cell?_alloc_new]; rfl, by rw [World.cell?_alloc_new]; rfl, by rw [World.cell?_alloc_new]; rfl⟩

theorem len_le2 (l : List (Int × Int)) : decide ((l.length : Int) ≤ 2) = decide (l.length ≤ 2) := decide_eq_decide.2 (by omega)


set_option maxHeartbeats 1000000 in
theorem l1Files_any (w : World) (v : Value) (l : List (Int × Int)) (h : Prs w v l) :
    Calls Tryz.prog 72 #[v] w fun e w' => e = .returned (.bool (Pk.filesOk l)) ∧ ∃ q, w' = w.drewN q := by
  obtain ⟨a, cap, rfl, hlen, hrow⟩ := h
  go_enter Tryz.func72, Tryz.ntmps72
  go_wp2
  go_loopw [3] (fun i w' => ∃ k q : Nat, k ≤ l.length ∧ i = .int .i64 k ∧ w' = w.drewN q ∧ ∀ j, j < k → Pk.fileGood l j = true) (fun i _ => l.length - (intOf i).toNat)
  case atStart => exact ⟨0, 0, Nat.zero_le _, rfl, rfl, fun j hj => by omega⟩
  case round =>
    obtain ⟨k, q, hk, rfl, hw, hgood⟩ := hrel
    have HW : Hid _ := hw
    have HG : Hid _ := hgood
    by_cases hlt : k < l.length
    · obtain ⟨b, off, rfl, hb, hc⟩ := hrow (by omega)
      have hcw : ∀ i, i < l.length → wr.cell? ⟨b, off + i * 2, none⟩ = some (.int .i64 (Pk.fst l i)) ∧ wr.cell? ⟨b, off + i * 2 + 1, none⟩ = some (.int .i64 (Pk.snd l i)) := by rw [hw]; exact hc
      obtain ⟨c1, c2⟩ := hcw k hlt
      have HC : Hid _ := hcw
      clear hgood hc hrow hcw hw
      have hi0 : (0 : Int) ≤ (k : Int) := Int.natCast_nonneg _
      have hi1 : (k : Int) < (l.length : Int) := by omega
      cases hA : Pk.inB (Pk.fst l k) 0 5
      · go_wp2_with fail
        go_quiet ((go_at_call 69; exact Calls.quiet_of_same (in_any _ _ _ _)))
        go_wp2
        go_ret
        exact ⟨ret_bool (Pk.filesOk_bad hlt (by simp [Pk.fileGood, hA])).symm, drewN_trans HW.out _⟩
      cases hB : Pk.inB (Pk.snd l k) 0 9
      · go_wp2_with fail
        go_quiet ((go_at_call 69; exact Calls.quiet_of_same (in_any _ _ _ _)))
        go_wp2
        go_ret
        exact ⟨ret_bool (Pk.filesOk_bad hlt (by simp [Pk.fileGood, hB])).symm, drewN_trans HW.out _⟩
      rcases Nat.eq_zero_or_pos k with rfl | hpos
      · simp only [Nat.zero_mul, Nat.add_zero] at c1 c2
        go_wp2_with fail
        go_quiet ((go_at_call 69; exact Calls.quiet_of_same (in_any _ _ _ _)))
        go_wp2
        go_roundw
        case rel => exact ⟨1, q + _, by omega, by go_num, by rw [HW.out, World.drewN_drewN], one_lt (by simp [Pk.fileGood, hA, hB])⟩
        case measure => simp [intOf]; omega
      · obtain ⟨m, rfl⟩ : ∃ m, k = m + 1 := ⟨k - 1, by omega⟩
        obtain ⟨d1, _⟩ := HC.out m (by omega)
        have hp0 : decide ((0 : Int) < ((m + 1 : Nat) : Int)) = true := by simp
        by_cases hP : Pk.fst l m < Pk.fst l (m + 1)
        · have hP' : decide (Pk.fst l (m + 1) ≤ Pk.fst l m) = false := by simpa using hP
          go_wp2_with fail
          go_quiet ((go_at_call 69; exact Calls.quiet_of_same (in_any _ _ _ _)))
          go_wp2
          go_roundw
          case rel => exact ⟨m + 1 + 1, q + _, by omega, by go_num, by rw [HW.out, World.drewN_drewN], fun j hj => by
            rcases Nat.lt_or_ge j (m + 1) with h | h
            · exact HG.out j h
            · obtain rfl : j = m + 1 := by omega
              simp [Pk.fileGood, hA, hB, hP]⟩
          case measure => simp [intOf]; omega
        · have hP' : decide (Pk.fst l (m + 1) ≤ Pk.fst l m) = true := by simpa using hP
          go_wp2_with fail
          go_quiet ((go_at_call 69; exact Calls.quiet_of_same (in_any _ _ _ _)))
          go_wp2
          go_ret
          exact ⟨ret_bool (Pk.filesOk_bad hlt (by simp [Pk.fileGood, hA, hB]; simpa using hP)).symm, drewN_trans HW.out _⟩
    · clear hgood hw
      go_wp2
      go_ret
      exact ⟨ret_bool (by rw [Pk.filesOk_good (fun i hi => HG.out i (by omega))]; exact len_le2 l), q, HW.out⟩

set_option maxHeartbeats 2000000 in
theorem l1Deps_any (w : World) (nm : Int) (v : Value) (l : List (Int × Int)) (h : Prs w v l) :
    Calls Tryz.prog 73 #[.int .i64 nm, v] w fun e w' => e = .returned (.bool (Pk.depsOk nm l)) ∧ Below w.heap.size w w' := by
  obtain ⟨a, cap, rfl, hlen, hrow⟩ := h
  go_enter Tryz.func73, Tryz.ntmps73
  go_wp2
  go_loopw [5] (fun i w' => ∃ k : Nat, k ≤ l.length ∧ i = .int .i64 k ∧ Below w.heap.size w w' ∧ ∀ j, j < k → Pk.depGood nm l j = true) (fun i _ => l.length - (intOf i).toNat)
  case atStart => exact ⟨0, Nat.zero_le _, rfl, Below.refl _ _, fun j hj => by omega⟩
  case round =>
    obtain ⟨k, hk, rfl, hw, hgood⟩ := hrel
    have HG : Hid _ := hgood
    by_cases hlt : k < l.length
    · obtain ⟨b, off, rfl, hb, hc⟩ := hrow (by omega)
      have hcw : ∀ i, i < l.length → wr.cell? ⟨b, off + i * 2, none⟩ = some (.int .i64 (Pk.fst l i)) ∧ wr.cell? ⟨b, off + i * 2 + 1, none⟩ = some (.int .i64 (Pk.snd l i)) := fun i hi => by rw [hw.cell hb, hw.cell hb]; exact hc i hi
      have hb' : b < wr.heap.size := Nat.lt_of_lt_of_le hb hw.size
      obtain ⟨c1, c2⟩ := hcw k hlt
      have HC : Hid _ := hcw
      have HW : Hid _ := hw
      clear hgood hc hrow hcw hw
      have hi0 : (0 : Int) ≤ (k : Int) := Int.natCast_nonneg _
      have hi1 : (k : Int) < (l.length : Int) := by omega
      have HN : ∀ n : Nat, Below w.heap.size w ((wr.alloc (.cells #[.int .i64 (Pk.fst l k), .int .i64 (Pk.snd l k)] 98)).drewN n) := fun n => (HW.out.alloc HW.out.size _).trans ⟨rfl, rfl, rfl, Nat.le_refl _, fun _ _ => rfl⟩
      have HNN : Hid _ := HN
      clear HN
      cases hA : Pk.inB (Pk.fst l k) 1 4
      · go_wp2_with fail
        go_quiet ((go_at_call 69; exact Calls.quiet_of_same (in_any _ _ _ _)))
        go_wp2
        go_ret
        exact ⟨ret_bool (Pk.depsOk_bad hlt (by simp [Pk.depGood, hA])).symm, HNN.out _⟩
      by_cases hE : Pk.fst l k = nm
      · have hE' : (Pk.fst l k == nm) = true := by simpa using hE
        have HE : Hid _ := hE
        clear hE
        go_wp2_with fail
        go_quiet ((go_at_call 69; exact Calls.quiet_of_same (in_any _ _ _ _)))
        go_wp2
        go_ret
        exact ⟨ret_bool (Pk.depsOk_bad hlt (by simp [Pk.depGood, HE.out])).symm, HNN.out _⟩
      have hE' : (Pk.fst l k == nm) = false := by simpa using hE
      cases hB : Pk.inB (Pk.snd l k) 1 5
      · go_wp2_with fail
        go_quiet ((go_at_call 69; exact Calls.quiet_of_same (in_any _ _ _ _)))
        go_wp2
        go_ret
        exact ⟨ret_bool (Pk.depsOk_bad hlt (by simp [Pk.depGood, hB])).symm, HNN.out _⟩
      rcases Nat.eq_zero_or_pos k with rfl | hpos
      · simp only [Nat.zero_mul, Nat.add_zero] at c1 c2
        go_wp2_with fail
        go_quiet ((go_at_call 69; exact Calls.quiet_of_same (in_any _ _ _ _)))
        go_wp2
        go_roundw
        case rel => exact ⟨1, by omega, by go_num, HNN.out _, one_lt (by simp [Pk.depGood, hA, hB, hE])⟩
        case measure => simp [intOf]; omega
      · obtain ⟨m, rfl⟩ : ∃ m, k = m + 1 := ⟨k - 1, by omega⟩
        obtain ⟨d1, _⟩ := HC.out m (by omega)
        have hp0 : decide ((0 : Int) < ((m + 1 : Nat) : Int)) = true := by simp
        by_cases hP : Pk.fst l m < Pk.fst l (m + 1)
        · have hP' : decide (Pk.fst l (m + 1) ≤ Pk.fst l m) = false := by simpa using hP
          go_wp2_with fail
          go_quiet ((go_at_call 69; exact Calls.quiet_of_same (in_any _ _ _ _)))
          go_wp2
          go_roundw
          case rel => exact ⟨m + 1 + 1, by omega, by go_num, HNN.out _, fun j hj => by
            rcases Nat.lt_or_ge j (m + 1) with h | h
            · exact HG.out j h
            · obtain rfl : j = m + 1 := by omega
              simp [Pk.depGood, hA, hB, hP, hE]⟩
          case measure => simp [intOf]; omega
        · have hP' : decide (Pk.fst l (m + 1) ≤ Pk.fst l m) = true := by simpa using hP
          go_wp2_with fail
          go_quiet ((go_at_call 69; exact Calls.quiet_of_same (in_any _ _ _ _)))
          go_wp2
          go_ret
          exact ⟨ret_bool (Pk.depsOk_bad hlt (by simp [Pk.depGood, hA, hB, hE]; simpa using hP)).symm, HNN.out _⟩
    · have HW : Hid _ := hw
      clear hgood hw
      go_wp2
      go_ret
      exact ⟨ret_bool (by rw [Pk.depsOk_good (fun i hi => HG.out i (by omega))]; exact len_le2 l), HW.out⟩

set_option maxHeartbeats 2000000 in
/-- spec.PkgOk: whether the package is ok. -/
theorem pkgOk_any (w : World) (nm vr : Int) (fv dv : Value) (fs ds : List (Int × Int)) (hf : Prs w fv fs) (hd : Prs w dv ds) :
    Calls Tryz.prog 48 #[.agg #[.int .i64 nm, .int .i64 vr, fv, dv]] w fun e w' => e = .returned (.bool (Pk.pkgOk nm vr fs ds)) ∧ Below w.heap.size w w' := by
  have B1 : Below w.heap.size w (w.alloc (.cells #[.int .i64 nm, .int .i64 vr, fv, dv] 67)) := (Below.refl _ _).alloc (Nat.le_refl _) _
  have hf1 : ∀ q, Prs ((w.alloc (.cells #[.int .i64 nm, .int .i64 vr, fv, dv] 67)).drewN q) fv fs := fun q => hf.later (below_drewN B1 q)
  have hd1 : ∀ q, Prs ((w.alloc (.cells #[.int .i64 nm, .int .i64 vr, fv, dv] 67)).drewN q) dv ds := fun q => hd.later (below_drewN B1 q)
  have HB : Hid _ := B1
  have HF : Hid _ := hf1
  have HD : Hid _ := hd1
  obtain ⟨fa, fc, hfv⟩ := hf.slice
  obtain ⟨da, dc, hdv⟩ := hd.slice
  clear hf hd B1 hf1 hd1
  subst hfv hdv
  cases hA : Pk.inB nm 1 4
  · go_enter Tryz.func48, Tryz.ntmps48
    go_wp2_with (go_at_call 69; refine (in_any _ _ _ _).mono ?_; rintro e w' ⟨rfl, rfl⟩)
    go_ret
    exact ⟨ret_bool (by simp [Pk.pkgOk, hA]), HB.out⟩
  cases hB : Pk.inB vr 1 5
  · go_enter Tryz.func48, Tryz.ntmps48
    go_wp2_with (go_at_call 69; refine (in_any _ _ _ _).mono ?_; rintro e w' ⟨rfl, rfl⟩)
    go_ret
    exact ⟨ret_bool (by simp [Pk.pkgOk, hB]), HB.out⟩
  cases hC : Pk.filesOk fs
  · go_enter Tryz.func48, Tryz.ntmps48
    go_wp2_with (first | (go_at_call 69; refine (in_any _ _ _ _).mono ?_; rintro e w' ⟨rfl, rfl⟩) | (go_at_call 72; refine (l1Files_any _ _ fs (HF.out 0)).mono ?_; rintro e w' ⟨rfl, q, rfl⟩))
    go_ret
    exact ⟨ret_bool (by simp [Pk.pkgOk, hC]), below_drewN HB.out _⟩
  · go_enter Tryz.func48, Tryz.ntmps48
    go_wp2_with (first | (go_at_call 69; refine (in_any _ _ _ _).mono ?_; rintro e w' ⟨rfl, rfl⟩) | (go_at_call 72; refine (l1Files_any _ _ fs (HF.out 0)).mono ?_; rintro e w' ⟨rfl, q, rfl⟩) | (go_at_call 73; refine (l1Deps_any _ _ _ ds (HD.out _)).mono ?_; rintro e w' ⟨rfl, hbw⟩))
    go_ret
    exact ⟨ret_bool (by simp [Pk.pkgOk, hA, hB, hC]), (below_drewN HB.out _).trans (hbw.mono (by simp))⟩
end Go.Proofs.YtlnieobmhofkdaaGreat
