import Derived.Test.YtlnieobmhofkdaaGreatDoorChecked
import Derived.WalkKit
import Derived.Below
import Derived.OwnWalk
import Derived.Deep.QuietTactic
import Derived.BigQuiet
import Derived.Outline
import Derived.Test.YtlnieobmhofkdaaGreatDoorMathW
import Derived.WalkLawsBesides
import Derived.Deep.RegionWith
import Derived.Deep.DrawnRows
import Derived.Deep.RegionHeld3
import Derived.Deep.AppendLies
/- Small laws that all texts share. -/
namespace Go.Proofs.YtlnieobmhofkdaaGreatDoor
open Go.RowKit

theorem hide {p : Prop} (h : p) : Hid p := h
theorem unhide {p : Prop} (h : Hid p) : p := h
theorem one_lt {P : Nat → Prop} (h : P 0) : ∀ j, j < 1 → P j := fun j hj => by rw [Nat.lt_one_iff.1 hj]; exact h
theorem ret_bool {a b : Bool} (h : a = b) : Ending.returned (.bool a) = .returned (.bool b) := by rw [h]
theorem ret_int {k : IntKind} {a b : Int} (h : a = b) : Ending.returned (.int k a) = .returned (.int k b) := by rw [h]
theorem drewN_trans {w w1 : World} {q : Nat} (h : w1 = w.drewN q) (n : Nat) : ∃ m, w1.drewN n = w.drewN m := ⟨q + n, by rw [h, World.drewN_drewN]⟩
theorem below_drewN {B : Nat} {a w : World} (h : Below B a w) (q : Nat) : Below B a (w.drewN q) := ⟨h.os, h.tape, h.output, h.size, h.block⟩
theorem below_drew (w : World) : Below w.heap.size w w.drew := (Below.refl _ _).drew
theorem heapLt {w : World} {k : Nat} {o : Obj} (h : w.heap[k]? = some o) : k < w.heap.size := by
  rcases Nat.lt_or_ge k w.heap.size with h1 | h1
  · exact h1
  · rw [Array.getElem?_eq_none h1] at h; cases h
theorem cellOf {w : World} {b : Nat} {c : Array Value} {t : TypeId} {fr : Nat × Nat} (h : w.heap[b]? = some (.cells c t fr)) (o : Nat) : w.cell? ⟨b, o, none⟩ = c[o]? := by
  rw [World.cell?, h]; rfl
theorem frozenOf {w : World} {b : Nat} {c : Array Value} {t : TypeId} (h : w.heap[b]? = some (.cells c t (0, 0))) (o : Nat) : w.frozen? ⟨b, o, none⟩ = false := by
  rw [World.frozen?, h]; simp
theorem heapSet {w : World} {b o : Nat} {c : Array Value} {t : TypeId} {fr : Nat × Nat} {v : Value} (h : w.heap[b]? = some (.cells c t fr)) : (w.setCell ⟨b, o, none⟩ v).heap[b]? = some (.cells (c.setIfInBounds o v) t fr) := by
  simp [World.setCell, Array.getElem?_modify, h]
theorem sz1' (w : World) (o : Obj) : (w.alloc o).heap.size = w.heap.size + 1 := by simp
theorem below1 (w : World) (o : Obj) : Below w.heap.size w (w.alloc o) := (Below.refl _ _).alloc (Nat.le_refl _) _
end Go.Proofs.YtlnieobmhofkdaaGreatDoor

/- What spec.l6In returns: whether a number lies between two. -/
namespace Go.Proofs.YtlnieobmhofkdaaGreatDoor
open Go.RowKit

theorem in_any (n lo hi : Int) (w : World) : Calls Tryz.prog 97 #[.int .i64 n, .int .i64 lo, .int .i64 hi] w fun e w' => e = .returned (.bool (Pk.inB n lo hi)) ∧ w' = w := by
  by_cases h1 : lo ≤ n
  · go_enter Tryz.func97, Tryz.ntmps97
    go_wp2
    go_ret
    exact ⟨by simp [Pk.inB, h1], rfl⟩
  · have h2 : decide (lo ≤ n) = false := by simpa using h1
    go_enter Tryz.func97, Tryz.ntmps97
    go_wp2
    go_ret
    exact ⟨by simp [Pk.inB, h2], rfl⟩
end Go.Proofs.YtlnieobmhofkdaaGreatDoor

/- What spec.PkgOk returns: whether the package is ok; for every package; nothing old is written. -/
namespace Go.Proofs.YtlnieobmhofkdaaGreatDoor
open Go.RowKit

/-- A slice of pairs of ints that can be read. -/
def Prs (w : World) (v : Value) (l : List (Int × Int)) : Prop :=
  ∃ a cap, v = .slice a l.length cap ∧ l.length ≤ 1000000000000 ∧ (0 < l.length → ∃ b off, a = some ⟨b, off, none⟩ ∧ b < w.heap.size ∧ ∀ i, i < l.length → w.cell? ⟨b, off + i * 2, none⟩ = some (.int .i64 (Pk.fst l i)) ∧ w.cell? ⟨b, off + i * 2 + 1, none⟩ = some (.int .i64 (Pk.snd l i)))

theorem Prs.later {w w' : World} {v : Value} {l : List (Int × Int)} (h : Prs w v l) (hb : Below w.heap.size w w') : Prs w' v l := by
  obtain ⟨a, cap, hv, hl, hr⟩ := h
  refine ⟨a, cap, hv, hl, fun hp => ?_⟩
  obtain ⟨b, off, ha, hbs, hc⟩ := hr hp
  exact ⟨b, off, ha, Nat.lt_of_lt_of_le hbs hb.size, fun i hi => by rw [hb.cell hbs, hb.cell hbs]; exact hc i hi⟩
theorem Prs.slice {w : World} {v : Value} {l : List (Int × Int)} (h : Prs w v l) : ∃ a cap, v = .slice a l.length cap := by
  obtain ⟨a, cap, hv, _⟩ := h
  exact ⟨a, cap, hv⟩
/-- What a box of four holds, in its own world. -/
theorem box4 (w : World) (a b c d : Value) (t : TypeId) : (w.alloc (.cells #[a, b, c, d] t)).heap.size = w.heap.size + 1 ∧ (w.alloc (.cells #[a, b, c, d] t)).cell? ⟨w.heap.size, 0, none⟩ = some a ∧ (w.alloc (.cells #[a, b, c, d] t)).cell? ⟨w.heap.size, 1, none⟩ = some b ∧ (w.alloc (.cells #[a, b, c, d] t)).cell? ⟨w.heap.size, 2, none⟩ = some c ∧ (w.alloc (.cells #[a, b, c, d] t)).cell? ⟨w.heap.size, 3, none⟩ = some d :=
  ⟨by simp, by rw [World.cell?_alloc_new]; rfl, by rw [World.cell?_alloc_new]; rfl, by rw [World.cell?_alloc_new]; rfl, by rw [World.cell?_alloc_new]; rfl⟩

theorem len_le2 (l : List (Int × Int)) : decide ((l.length : Int) ≤ 2) = decide (l.length ≤ 2) := decide_eq_decide.2 (by omega)


set_option maxHeartbeats 1000000 in
theorem l1Files_any (w : World) (v : Value) (l : List (Int × Int)) (h : Prs w v l) :
    Calls Tryz.prog 131 #[v] w fun e w' => e = .returned (.bool (Pk.filesOk l)) ∧ ∃ q, w' = w.drewN q := by
  obtain ⟨a, cap, rfl, hlen, hrow⟩ := h
  go_enter Tryz.func131, Tryz.ntmps131
  go_wp2
  go_loopw [3] (fun i w' => ∃ k q : Nat, k ≤ l.length ∧ i = .int .i64 k ∧ w' = w.drewN q ∧ ∀ j, j < k → Pk.fileGood l j = true) (fun i _ => l.length - (intOf i).toNat)
  case atStart => exact ⟨0, 0, Nat.zero_le _, rfl, rfl, fun j hj => by omega⟩
  case round =>
    obtain ⟨k, q, hk, rfl, hw, hgood⟩ := hrel
    have HW : Hid _ := hw
    have HG : Hid _ := hgood
    by_cases hlt : k < l.length
    · obtain ⟨b, off, rfl, hb, hc⟩ := hrow (by omega)
      have hcw : ∀ i, i < l.length → wr.cell? ⟨b, off + i * 2, none⟩ = some (.int .i64 (Pk.fst l i)) ∧ wr.cell? ⟨b, off + i * 2 + 1, none⟩ = some (.int .i64 (Pk.snd l i)) := by rw [hw]; exact hc
      obtain ⟨c1, c2⟩ := hcw k hlt
      have HC : Hid _ := hcw
      clear hgood hc hrow hcw hw
      have hi0 : (0 : Int) ≤ (k : Int) := Int.natCast_nonneg _
      have hi1 : (k : Int) < (l.length : Int) := by omega
      cases hA : Pk.inB (Pk.fst l k) 0 5
      · go_wp2_with fail
        go_quiet ((go_at_call 97; exact Calls.quiet_of_same (in_any _ _ _ _)))
        go_wp2
        go_ret
        exact ⟨ret_bool (Pk.filesOk_bad hlt (by simp [Pk.fileGood, hA])).symm, drewN_trans HW.out _⟩
      cases hB : Pk.inB (Pk.snd l k) 0 9
      · go_wp2_with fail
        go_quiet ((go_at_call 97; exact Calls.quiet_of_same (in_any _ _ _ _)))
        go_wp2
        go_ret
        exact ⟨ret_bool (Pk.filesOk_bad hlt (by simp [Pk.fileGood, hB])).symm, drewN_trans HW.out _⟩
      rcases Nat.eq_zero_or_pos k with rfl | hpos
      · simp only [Nat.zero_mul, Nat.add_zero] at c1 c2
        go_wp2_with fail
        go_quiet ((go_at_call 97; exact Calls.quiet_of_same (in_any _ _ _ _)))
        go_wp2
        go_roundw
        case rel => exact ⟨1, q + _, by omega, by go_num, by rw [HW.out, World.drewN_drewN], one_lt (by simp [Pk.fileGood, hA, hB])⟩
        case measure => simp [intOf]; omega
      · obtain ⟨m, rfl⟩ : ∃ m, k = m + 1 := ⟨k - 1, by omega⟩
        obtain ⟨d1, _⟩ := HC.out m (by omega)
        have hp0 : decide ((0 : Int) < ((m + 1 : Nat) : Int)) = true := by simp
        by_cases hP : Pk.fst l m < Pk.fst l (m + 1)
        · have hP' : decide (Pk.fst l (m + 1) ≤ Pk.fst l m) = false := by simpa using hP
          go_wp2_with fail
          go_quiet ((go_at_call 97; exact Calls.quiet_of_same (in_any _ _ _ _)))
          go_wp2
          go_roundw
          case rel => exact ⟨m + 1 + 1, q + _, by omega, by go_num, by rw [HW.out, World.drewN_drewN], fun j hj => by
            rcases Nat.lt_or_ge j (m + 1) with h | h
            · exact HG.out j h
            · obtain rfl : j = m + 1 := by omega
              simp [Pk.fileGood, hA, hB, hP]⟩
          case measure => simp [intOf]; omega
        · have hP' : decide (Pk.fst l (m + 1) ≤ Pk.fst l m) = true := by simpa using hP
          go_wp2_with fail
          go_quiet ((go_at_call 97; exact Calls.quiet_of_same (in_any _ _ _ _)))
          go_wp2
          go_ret
          exact ⟨ret_bool (Pk.filesOk_bad hlt (by simp [Pk.fileGood, hA, hB]; simpa using hP)).symm, drewN_trans HW.out _⟩
    · clear hgood hw
      go_wp2
      go_ret
      exact ⟨ret_bool (by rw [Pk.filesOk_good (fun i hi => HG.out i (by omega))]; exact len_le2 l), q, HW.out⟩

set_option maxHeartbeats 2000000 in
theorem l1Deps_any (w : World) (nm : Int) (v : Value) (l : List (Int × Int)) (h : Prs w v l) :
    Calls Tryz.prog 132 #[.int .i64 nm, v] w fun e w' => e = .returned (.bool (Pk.depsOk nm l)) ∧ Below w.heap.size w w' := by
  obtain ⟨a, cap, rfl, hlen, hrow⟩ := h
  go_enter Tryz.func132, Tryz.ntmps132
  go_wp2
  go_loopw [5] (fun i w' => ∃ k : Nat, k ≤ l.length ∧ i = .int .i64 k ∧ Below w.heap.size w w' ∧ ∀ j, j < k → Pk.depGood nm l j = true) (fun i _ => l.length - (intOf i).toNat)
  case atStart => exact ⟨0, Nat.zero_le _, rfl, Below.refl _ _, fun j hj => by omega⟩
  case round =>
    obtain ⟨k, hk, rfl, hw, hgood⟩ := hrel
    have HG : Hid _ := hgood
    by_cases hlt : k < l.length
    · obtain ⟨b, off, rfl, hb, hc⟩ := hrow (by omega)
      have hcw : ∀ i, i < l.length → wr.cell? ⟨b, off + i * 2, none⟩ = some (.int .i64 (Pk.fst l i)) ∧ wr.cell? ⟨b, off + i * 2 + 1, none⟩ = some (.int .i64 (Pk.snd l i)) := fun i hi => by rw [hw.cell hb, hw.cell hb]; exact hc i hi
      have hb' : b < wr.heap.size := Nat.lt_of_lt_of_le hb hw.size
      obtain ⟨c1, c2⟩ := hcw k hlt
      have HC : Hid _ := hcw
      have HW : Hid _ := hw
      clear hgood hc hrow hcw hw
      have hi0 : (0 : Int) ≤ (k : Int) := Int.natCast_nonneg _
      have hi1 : (k : Int) < (l.length : Int) := by omega
      have HN : ∀ n : Nat, Below w.heap.size w ((wr.alloc (.cells #[.int .i64 (Pk.fst l k), .int .i64 (Pk.snd l k)] 134)).drewN n) := fun n => (HW.out.alloc HW.out.size _).trans ⟨rfl, rfl, rfl, Nat.le_refl _, fun _ _ => rfl⟩
      have HNN : Hid _ := HN
      clear HN
      cases hA : Pk.inB (Pk.fst l k) 1 4
      · go_wp2_with fail
        go_quiet ((go_at_call 97; exact Calls.quiet_of_same (in_any _ _ _ _)))
        go_wp2
        go_ret
        exact ⟨ret_bool (Pk.depsOk_bad hlt (by simp [Pk.depGood, hA])).symm, HNN.out _⟩
      by_cases hE : Pk.fst l k = nm
      · have hE' : (Pk.fst l k == nm) = true := by simpa using hE
        have HE : Hid _ := hE
        clear hE
        go_wp2_with fail
        go_quiet ((go_at_call 97; exact Calls.quiet_of_same (in_any _ _ _ _)))
        go_wp2
        go_ret
        exact ⟨ret_bool (Pk.depsOk_bad hlt (by simp [Pk.depGood, HE.out])).symm, HNN.out _⟩
      have hE' : (Pk.fst l k == nm) = false := by simpa using hE
      cases hB : Pk.inB (Pk.snd l k) 1 5
      · go_wp2_with fail
        go_quiet ((go_at_call 97; exact Calls.quiet_of_same (in_any _ _ _ _)))
        go_wp2
        go_ret
        exact ⟨ret_bool (Pk.depsOk_bad hlt (by simp [Pk.depGood, hB])).symm, HNN.out _⟩
      rcases Nat.eq_zero_or_pos k with rfl | hpos
      · simp only [Nat.zero_mul, Nat.add_zero] at c1 c2
        go_wp2_with fail
        go_quiet ((go_at_call 97; exact Calls.quiet_of_same (in_any _ _ _ _)))
        go_wp2
        go_roundw
        case rel => exact ⟨1, by omega, by go_num, HNN.out _, one_lt (by simp [Pk.depGood, hA, hB, hE])⟩
        case measure => simp [intOf]; omega
      · obtain ⟨m, rfl⟩ : ∃ m, k = m + 1 := ⟨k - 1, by omega⟩
        obtain ⟨d1, _⟩ := HC.out m (by omega)
        have hp0 : decide ((0 : Int) < ((m + 1 : Nat) : Int)) = true := by simp
        by_cases hP : Pk.fst l m < Pk.fst l (m + 1)
        · have hP' : decide (Pk.fst l (m + 1) ≤ Pk.fst l m) = false := by simpa using hP
          go_wp2_with fail
          go_quiet ((go_at_call 97; exact Calls.quiet_of_same (in_any _ _ _ _)))
          go_wp2
          go_roundw
          case rel => exact ⟨m + 1 + 1, by omega, by go_num, HNN.out _, fun j hj => by
            rcases Nat.lt_or_ge j (m + 1) with h | h
            · exact HG.out j h
            · obtain rfl : j = m + 1 := by omega
              simp [Pk.depGood, hA, hB, hP, hE]⟩
          case measure => simp [intOf]; omega
        · have hP' : decide (Pk.fst l (m + 1) ≤ Pk.fst l m) = true := by simpa using hP
          go_wp2_with fail
          go_quiet ((go_at_call 97; exact Calls.quiet_of_same (in_any _ _ _ _)))
          go_wp2
          go_ret
          exact ⟨ret_bool (Pk.depsOk_bad hlt (by simp [Pk.depGood, hA, hB, hE]; simpa using hP)).symm, HNN.out _⟩
    · have HW : Hid _ := hw
      clear hgood hw
      go_wp2
      go_ret
      exact ⟨ret_bool (by rw [Pk.depsOk_good (fun i hi => HG.out i (by omega))]; exact len_le2 l), HW.out⟩

set_option maxHeartbeats 2000000 in
/-- spec.PkgOk: whether the package is ok. -/
theorem pkgOk_any (w : World) (nm vr : Int) (fv dv : Value) (fs ds : List (Int × Int)) (hf : Prs w fv fs) (hd : Prs w dv ds) :
    Calls Tryz.prog 84 #[.agg #[.int .i64 nm, .int .i64 vr, fv, dv]] w fun e w' => e = .returned (.bool (Pk.pkgOk nm vr fs ds)) ∧ Below w.heap.size w w' := by
  have B1 : Below w.heap.size w (w.alloc (.cells #[.int .i64 nm, .int .i64 vr, fv, dv] 42)) := (Below.refl _ _).alloc (Nat.le_refl _) _
  have hf1 : ∀ q, Prs ((w.alloc (.cells #[.int .i64 nm, .int .i64 vr, fv, dv] 42)).drewN q) fv fs := fun q => hf.later (below_drewN B1 q)
  have hd1 : ∀ q, Prs ((w.alloc (.cells #[.int .i64 nm, .int .i64 vr, fv, dv] 42)).drewN q) dv ds := fun q => hd.later (below_drewN B1 q)
  have HB : Hid _ := B1
  have HF : Hid _ := hf1
  have HD : Hid _ := hd1
  obtain ⟨fa, fc, hfv⟩ := hf.slice
  obtain ⟨da, dc, hdv⟩ := hd.slice
  clear hf hd B1 hf1 hd1
  subst hfv hdv
  cases hA : Pk.inB nm 1 4
  · go_enter Tryz.func84, Tryz.ntmps84
    go_wp2_with (go_at_call 97; refine (in_any _ _ _ _).mono ?_; rintro e w' ⟨rfl, rfl⟩)
    go_ret
    exact ⟨ret_bool (by simp [Pk.pkgOk, hA]), HB.out⟩
  cases hB : Pk.inB vr 1 5
  · go_enter Tryz.func84, Tryz.ntmps84
    go_wp2_with (go_at_call 97; refine (in_any _ _ _ _).mono ?_; rintro e w' ⟨rfl, rfl⟩)
    go_ret
    exact ⟨ret_bool (by simp [Pk.pkgOk, hB]), HB.out⟩
  cases hC : Pk.filesOk fs
  · go_enter Tryz.func84, Tryz.ntmps84
    go_wp2_with (first | (go_at_call 97; refine (in_any _ _ _ _).mono ?_; rintro e w' ⟨rfl, rfl⟩) | (go_at_call 131; refine (l1Files_any _ _ fs (HF.out 0)).mono ?_; rintro e w' ⟨rfl, q, rfl⟩))
    go_ret
    exact ⟨ret_bool (by simp [Pk.pkgOk, hC]), below_drewN HB.out _⟩
  · go_enter Tryz.func84, Tryz.ntmps84
    go_wp2_with (first | (go_at_call 97; refine (in_any _ _ _ _).mono ?_; rintro e w' ⟨rfl, rfl⟩) | (go_at_call 131; refine (l1Files_any _ _ fs (HF.out 0)).mono ?_; rintro e w' ⟨rfl, q, rfl⟩) | (go_at_call 132; refine (l1Deps_any _ _ _ ds (HD.out _)).mono ?_; rintro e w' ⟨rfl, hbw⟩))
    go_ret
    exact ⟨ret_bool (by simp [Pk.pkgOk, hA, hB, hC]), (below_drewN HB.out _).trans (hbw.mono (by simp))⟩
end Go.Proofs.YtlnieobmhofkdaaGreatDoor

/- What spec.PkgText returns: the text of the package, or nothing; for every package; nothing old is written. -/
namespace Go.Proofs.YtlnieobmhofkdaaGreatDoor
open Go.RowKit

theorem b8_toNat {n : Int} (h0 : 0 ≤ n) (h1 : n < 256) : ((Pk.b8 n).toNat : Int) = n := by
  unfold Pk.b8
  rw [UInt8.toNat_ofNat']
  omega

/-- A row of one byte as a text. -/
theorem conv_one (w : World) (b : Nat) (n : Int) (c : Nat) (h0 : 0 ≤ n) (h1 : n < 256) (hc : w.cell? ⟨b, 0, none⟩ = some (.int .u8 n)) :
    (convert 22 9 (.slice (some ⟨b, 0, none⟩) 1 c)).run Tryz.prog w = .ok (.string ⟨#[Pk.b8 n]⟩) w := by
  have := run_convert_bytes_back (P := Tryz.prog) w 22 9 5 ⟨b, 0, none⟩ c [Pk.b8 n] Tryz.underlying22 Tryz.underlying5 Tryz.underlying9 (fun j hj => by
    obtain rfl : j = 0 := by simpa using hj
    have e : (⟨b, 0, none⟩ : Addr).add 0 = ⟨b, 0, none⟩ := rfl
    rw [e, hc]
    simp only [List.getElem_cons_zero]
    rw [b8_toNat h0 h1])
  exact this

set_option maxHeartbeats 1000000 in
set_option maxRecDepth 100000 in
theorem dec_any (n : Int) (w : World) (h0 : 0 ≤ n) (h1 : n ≤ 9) : Calls Tryz.prog 86 #[.int .i64 n] w fun e w' => e = .returned (.string ⟨#[Pk.b8 (48 + n)]⟩) ∧ w' = w.alloc (.cells #[.int .u8 (48 + n)] 5) := by
  have hcv := conv_one (w.alloc (.cells #[.int .u8 (48 + n)] 5)) w.heap.size (48 + n) 1 (by omega) (by omega) (by rw [World.cell?_alloc_new]; rfl)
  go_enter Tryz.func86, Tryz.ntmps86
  go_wp2
  go_ret
  exact ⟨rfl, rfl⟩

attribute [local go_sem ↓] Go.wp_at_zero Go.wp_at_succ
theorem app_data (a b : List UInt8) : (⟨a.toArray⟩ ++ ⟨b.toArray⟩ : ByteArray) = ⟨(a ++ b).toArray⟩ := by
  apply ByteArray.ext
  simp
theorem name_eq (nm vr : Int) : (⟨#[Pk.b8 (97 + nm - 1)]⟩ ++ ⟨#[Pk.b8 (48 + vr)]⟩ : ByteArray) = ⟨(Pk.nameT nm vr).toArray⟩ := by
  rw [show 97 + nm - 1 = 96 + nm from by omega]
  exact app_data [Pk.b8 (96 + nm)] [Pk.b8 (48 + vr)]
theorem ret_str {a b : ByteArray} (h : a = b) : Ending.returned (.string a) = .returned (.string b) := by rw [h]

set_option maxHeartbeats 2000000 in
set_option maxRecDepth 100000 in
theorem name_any (nm vr : Int) (w : World) (h0 : 1 ≤ nm) (h1 : nm ≤ 4) (h2 : 0 ≤ vr) (h3 : vr ≤ 9) : Calls Tryz.prog 85 #[.int .i64 nm, .int .i64 vr] w fun e w' => e = .returned (.string ⟨(Pk.nameT nm vr).toArray⟩) ∧ Below w.heap.size w w' := by
  have hcv := fun (wx : World) (b c : Nat) (h : wx.cell? ⟨b, 0, none⟩ = some (.int .u8 (97 + nm - 1))) => conv_one wx b (97 + nm - 1) c (by omega) (by omega) h
  have e1 : IntKind.i64.wrap (97 + nm) = 97 + nm := by simp [IntKind.wrap, IntKind.bits, IntKind.signed]; omega
  have e2 : IntKind.i64.wrap (97 + nm - 1) = 97 + nm - 1 := by simp [IntKind.wrap, IntKind.bits, IntKind.signed]; omega
  have e3 : IntKind.u8.wrap (97 + nm - 1) = 97 + nm - 1 := by simp [IntKind.wrap, IntKind.bits, IntKind.signed]; omega
  go_enter Tryz.func85, Tryz.ntmps85
  go_wp2
  go_region_with (go_at_call 86; refine (dec_any _ _ h2 h3).mono ?_; rintro e w' ⟨rfl, rfl⟩)
  all_goals
    go_wp2
    go_ret
    exact ⟨ret_str (name_eq nm vr), (((Below.refl _ _).alloc (Nat.le_refl _) _).alloc (by simp) _).drew⟩

theorem text_bad {nm vr : Int} {fs ds : List (Int × Int)} (h : Pk.pkgOk nm vr fs ds = false) : Pk.text nm vr fs ds = [] := by unfold Pk.text; rw [h]; rfl

theorem take_flat (f : Int × Int → List UInt8) (l : List (Int × Int)) (k : Nat) (h : k < l.length) : (l.take (k + 1)).flatMap f = (l.take k).flatMap f ++ f (Pk.fst l k, Pk.snd l k) := by
  rw [List.take_succ_eq_append_getElem h, List.flatMap_append]
  simp [Pk.fst, Pk.snd, h]

theorem flat_len (f : Int × Int → List UInt8) (c : Nat) (hf : ∀ x, (f x).length = c) : ∀ l : List (Int × Int), (l.flatMap f).length = c * l.length
  | [] => rfl
  | x :: l => by rw [List.flatMap_cons, List.length_append, hf, flat_len f c hf l, List.length_cons, Nat.mul_succ, Nat.add_comm]
theorem file_len (nm vr : Int) (fs : List (Int × Int)) (k : Nat) : (Pk.nameT nm vr ++ (fs.take k).flatMap Pk.fileT).length ≤ 2 + 4 * k := by
  rw [List.length_append, flat_len Pk.fileT 4 (fun _ => rfl)]
  have : (fs.take k).length ≤ k := List.length_take_le _ _
  simp only [Pk.nameT, List.length_cons, List.length_nil]
  omega
theorem dep_len (a : List UInt8) (ds : List (Int × Int)) (k : Nat) : (a ++ (ds.take k).flatMap Pk.depT).length ≤ a.length + 3 * k := by
  rw [List.length_append, flat_len Pk.depT 3 (fun _ => rfl)]
  have : (ds.take k).length ≤ k := List.length_take_le _ _
  omega

theorem text_ok {nm vr : Int} {fs ds : List (Int × Int)} (h : Pk.pkgOk nm vr fs ds = true) : Pk.text nm vr fs ds = Pk.nameT nm vr ++ fs.flatMap Pk.fileT ++ ds.flatMap Pk.depT := by unfold Pk.text; rw [h]; rfl
theorem ret_val {a b : ByteArray} (h : a = b) : Value.string a = .string b := by rw [h]
theorem app_more (a b : List UInt8) : (⟨a.toArray⟩ ++ ⟨b.toArray⟩ : ByteArray) = ⟨(a ++ b).toArray⟩ := app_data a b
theorem file_more (nm vr : Int) (fs : List (Int × Int)) (k : Nat) (h : k < fs.length) {s : ByteArray} (hs : s = ⟨(Pk.nameT nm vr ++ (fs.take k).flatMap Pk.fileT).toArray⟩) :
    s ++ ⟨#[32]⟩ ++ ⟨#[Pk.b8 (48 + Pk.fst fs k)]⟩ ++ ⟨#[58]⟩ ++ ⟨#[Pk.b8 (48 + Pk.snd fs k)]⟩ = ⟨(Pk.nameT nm vr ++ (fs.take (k + 1)).flatMap Pk.fileT).toArray⟩ := by
  rw [hs, take_flat _ _ _ h]
  apply ByteArray.ext
  simp [Pk.fileT]

theorem dep_more (a : List UInt8) (ds : List (Int × Int)) (k : Nat) (h : k < ds.length) {s : ByteArray} (hs : s = ⟨(a ++ (ds.take k).flatMap Pk.depT).toArray⟩) :
    s ++ ⟨#[32]⟩ ++ ⟨(Pk.nameT (Pk.fst ds k) (Pk.snd ds k)).toArray⟩ = ⟨(a ++ (ds.take (k + 1)).flatMap Pk.depT).toArray⟩ := by
  rw [hs, take_flat _ _ _ h]
  apply ByteArray.ext
  simp [Pk.depT]

theorem pkgOk_get {nm vr : Int} {fs ds : List (Int × Int)} (h : Pk.pkgOk nm vr fs ds = true) : (1 ≤ nm ∧ nm ≤ 4) ∧ (1 ≤ vr ∧ vr ≤ 5) ∧ Pk.filesOk fs = true ∧ Pk.depsOk nm ds = true := by
  unfold Pk.pkgOk at h
  rw [Bool.and_eq_true, Bool.and_eq_true, Bool.and_eq_true, Pk.inB_true, Pk.inB_true] at h
  exact ⟨h.1.1.1, h.1.1.2, h.1.2, h.2⟩

set_option maxHeartbeats 4000000 in
set_option maxRecDepth 100000 in
/-- spec.PkgText: the text of the package. -/
theorem pkgText_any (w : World) (nm vr : Int) (fv dv : Value) (fs ds : List (Int × Int)) (hf : Prs w fv fs) (hd : Prs w dv ds) :
    Calls Tryz.prog 36 #[.agg #[.int .i64 nm, .int .i64 vr, fv, dv]] w fun e w' => e = .returned (.string ⟨(Pk.text nm vr fs ds).toArray⟩) ∧ Below w.heap.size w w' := by
  have B1 : Below w.heap.size w (w.alloc (.cells #[.int .i64 nm, .int .i64 vr, fv, dv] 42)) := (Below.refl _ _).alloc (Nat.le_refl _) _
  have hf1 := hf.later B1
  have hd1 := hd.later B1
  have hx := box4 w (.int .i64 nm) (.int .i64 vr) fv dv 42
  have HX := hide hx
  have HB := hide B1
  have HF : Hid (Prs _ _ _) := hf1
  have HD : Hid (Prs _ _ _) := hd1
  obtain ⟨fa, fc, hfv⟩ := hf.slice
  obtain ⟨da, dc, hdv⟩ := hd.slice
  clear hf hd B1 hf1 hd1 hx
  subst hfv hdv
  cases hok : Pk.pkgOk nm vr fs ds
  · have HT := hide (text_bad hok)
    go_enter Tryz.func36, Tryz.ntmps36
    go_wp2_with fail
    refine (pkgOk_any _ nm vr _ _ fs ds HF.out HD.out).mono ?_
    rintro e w1 ⟨rfl, hb1⟩
    have HB1 := hide hb1
    clear hb1
    go_wp2
    go_ret
    exact ⟨ret_str (by rw [unhide HT]), HB.out.trans ((unhide HB1).mono (by simp))⟩
  · have HOK := hide hok
    obtain ⟨⟨n0, n1⟩, ⟨v0, v1⟩, hfo, hdo⟩ := pkgOk_get hok
    obtain ⟨fl, fb⟩ := Pk.filesOk_get hfo
    obtain ⟨dl, db⟩ := Pk.depsOk_get hdo
    have FB := hide fb
    have DB := hide db
    clear fb db hfo hdo
    go_enter Tryz.func36, Tryz.ntmps36
    go_wp2_with fail
    refine (pkgOk_any _ nm vr _ _ fs ds HF.out HD.out).mono ?_
    rintro e w1 ⟨rfl, hb1⟩
    generalize w.alloc _ = W0 at *
    obtain ⟨z0, x0, x1, x2, x3⟩ := HX.out
    clear HX
    have k0 : w1.cell? ⟨w.heap.size, 0, none⟩ = _ := (hb1.cell (by simp [z0])).trans x0
    have k1 : w1.cell? ⟨w.heap.size, 1, none⟩ = _ := (hb1.cell (by simp [z0])).trans x1
    have X2 := hide x2
    have X3 := hide x3
    have Z0 := hide z0
    have HB1 := hide hb1
    clear hb1 x0 x1 x2 x3 z0
    go_wp2_with fail
    refine (name_any nm vr _ n0 n1 (by omega) (by omega)).mono ?_
    rintro e w2 ⟨rfl, hb2⟩
    have HB2 := hide (Below.trans (unhide HB1) (hb2.mono (unhide HB1).size))
    clear HB1 hb2 k0 k1
    go_wp2_with fail
    go_loopw [3, 4] (fun o i w' => ∃ k : Nat, k ≤ fs.length ∧ i = .int .i64 k ∧ o = .string ⟨(Pk.nameT nm vr ++ (fs.take k).flatMap Pk.fileT).toArray⟩ ∧ Below W0.heap.size W0 w') (fun _ i _ => fs.length - (intOf i).toNat)
    case atStart => exact ⟨0, Nat.zero_le _, rfl, by simp, unhide HB2⟩
    case round =>
      obtain ⟨k, hk, rfl, ho, hw⟩ := hrel
      obtain ⟨s, hs⟩ : ∃ s : ByteArray, s = ⟨(Pk.nameT nm vr ++ (fs.take k).flatMap Pk.fileT).toArray⟩ := ⟨_, rfl⟩
      rw [← hs] at ho
      subst ho
      have hsz : s.size ≤ 10 := by rw [hs]; have := file_len nm vr fs k; show (List.toArray _).size ≤ 10; simp only [List.size_toArray]; omega
      have HS := hide hs
      clear hs
      have j2 : wr.cell? ⟨w.heap.size, 2, none⟩ = _ := (hw.cell (by simp [unhide Z0])).trans (unhide X2)
      have HW := hide hw
      clear hw HB2
      by_cases hlt : k < fs.length
      · obtain ⟨fa', fc', e1, _, hrow⟩ := HF.out
        injection e1 with e1 _ e3
        subst e1 e3
        obtain ⟨b, off, rfl, hbs, hc⟩ := hrow (by omega)
        obtain ⟨c1, c2⟩ := hc k hlt
        rw [← (unhide HW).cell hbs] at c1 c2
        obtain ⟨⟨p0, p1⟩, ⟨q0, q1⟩⟩ := unhide FB k hlt
        clear hc hrow
        have hi0 : (0 : Int) ≤ (k : Int) := Int.natCast_nonneg _
        have hi1 : (k : Int) < (fs.length : Int) := by omega
        have s1 : ¬ 9223372036854775807 < s.size + 1 := by omega
        have s2 : ¬ 9223372036854775807 < s.size + 1 + 1 := by omega
        have s3 : ¬ 9223372036854775807 < s.size + 1 + 1 + 1 := by omega
        have s4 : ¬ 9223372036854775807 < s.size + 1 + 1 + 1 + 1 := by omega
        go_wp2_with fail
        go_region_held3 (fun w' => w'.cell? ⟨w.heap.size, 2, none⟩ = some (.slice (some ⟨b, off, none⟩) fs.length fc) ∧ w'.cell? ⟨b, off + k * 2, none⟩ = some (.int .i64 (Pk.fst fs k)) ∧ w'.cell? ⟨b, off + k * 2 + 1, none⟩ = some (.int .i64 (Pk.snd fs k))) (go_keep)
          (first | (go_at_call_of 86 (Pk.fst fs k); refine (dec_any _ _ p0 (by omega)).mono ?_; rintro e w' ⟨rfl, rfl⟩) | (go_at_call_of 86 (Pk.snd fs k); refine (dec_any _ _ q0 (by omega)).mono ?_; rintro e w' ⟨rfl, rfl⟩))
        all_goals
          go_wp2
          go_roundw
          case rel => exact ⟨k + 1, by omega, by go_num, ret_val (file_more nm vr fs k hlt (unhide HS)), (((unhide HW).alloc (unhide HW).size _).alloc (Nat.le_trans (unhide HW).size (by simp)) _).drew⟩
          case measure => simp [intOf]; omega
      · obtain rfl : k = fs.length := by omega
        clear hlt
        rw [List.take_length] at HS
        go_wp2_with fail
        go_loopw [3, 5] (fun o i w' => ∃ k : Nat, k ≤ ds.length ∧ i = .int .i64 k ∧ o = .string ⟨(Pk.nameT nm vr ++ fs.flatMap Pk.fileT ++ (ds.take k).flatMap Pk.depT).toArray⟩ ∧ Below W0.heap.size W0 w') (fun _ i _ => ds.length - (intOf i).toNat)
        case atStart => exact ⟨0, Nat.zero_le _, rfl, ret_val (by rw [unhide HS]; simp), unhide HW⟩
        case round =>
          obtain ⟨k, hk, rfl, ho, hw⟩ := hrel
          clear HS hsz j2 HW
          obtain ⟨s, hs⟩ : ∃ s : ByteArray, s = ⟨(Pk.nameT nm vr ++ fs.flatMap Pk.fileT ++ (ds.take k).flatMap Pk.depT).toArray⟩ := ⟨_, rfl⟩
          rw [← hs] at ho
          subst ho
          have hsz : s.size ≤ 20 := by
            rw [hs]
            have h1 := dep_len (Pk.nameT nm vr ++ fs.flatMap Pk.fileT) ds k
            have h2 := file_len nm vr fs fs.length
            rw [List.take_length] at h2
            show (List.toArray _).size ≤ 20
            simp only [List.size_toArray]
            omega
          have HS := hide hs
          clear hs
          have j2 : wr.cell? ⟨w.heap.size, 3, none⟩ = _ := (hw.cell (by simp [unhide Z0])).trans (unhide X3)
          have HW := hide hw
          clear hw
          by_cases hlt : k < ds.length
          · obtain ⟨da', dc', e1, _, hrow⟩ := HD.out
            injection e1 with e1 _ e3
            subst e1 e3
            obtain ⟨b, off, rfl, hbs, hc⟩ := hrow (by omega)
            obtain ⟨c1, c2⟩ := hc k hlt
            rw [← (unhide HW).cell hbs] at c1 c2
            obtain ⟨⟨p0, p1⟩, ⟨q0, q1⟩⟩ := unhide DB k hlt
            clear hc hrow
            have hi0 : (0 : Int) ≤ (k : Int) := Int.natCast_nonneg _
            have hi1 : (k : Int) < (ds.length : Int) := by omega
            have hz2 : b < wr.heap.size := Nat.lt_of_lt_of_le hbs (unhide HW).size
            have hz1 : w.heap.size < wr.heap.size := by have := (unhide HW).size; rw [unhide Z0] at this; omega
            have s1 : ¬ 9223372036854775807 < s.size + 1 := by omega
            have s2 : ¬ 9223372036854775807 < s.size + 1 + (Pk.nameT (Pk.fst ds k) (Pk.snd ds k)).length := by
              have : (Pk.nameT (Pk.fst ds k) (Pk.snd ds k)).length = 2 := rfl
              omega
            go_wp2_with fail
            go_region_held3 (fun w' => w'.cell? ⟨w.heap.size, 3, none⟩ = some (.slice (some ⟨b, off, none⟩) ds.length dc) ∧ w'.cell? ⟨b, off + k * 2, none⟩ = some (.int .i64 (Pk.fst ds k)) ∧ w'.cell? ⟨b, off + k * 2 + 1, none⟩ = some (.int .i64 (Pk.snd ds k))) (first | go_keep | (go_split_ands; refine ⟨?_, ?_, ?_⟩ <;> (rw [hbn.cell (by simp; omega)]; assumption)))
              ((go_at_call 85; refine (name_any _ _ _ p0 p1 (by omega) (by omega)).mono ?_; rintro e w3 ⟨rfl, hbn⟩))
            go_wp2
            go_roundw
            case rel => exact ⟨k + 1, by omega, by go_num, ret_val (dep_more (Pk.nameT nm vr ++ fs.flatMap Pk.fileT) ds k hlt (unhide HS)), (unhide HW).trans ((show Below wr.heap.size wr w3 from ⟨hbn.os, hbn.tape, hbn.output, hbn.size, hbn.block⟩).mono (unhide HW).size)⟩
            case measure => simp [intOf]; omega
          · obtain rfl : k = ds.length := by omega
            rw [List.take_length] at HS
            go_wp2
            go_ret
            exact ⟨ret_str (by rw [unhide HS, text_ok (unhide HOK)]), HB.out.trans ((unhide HW).mono (by rw [unhide Z0]; omega))⟩
end Go.Proofs.YtlnieobmhofkdaaGreatDoor
