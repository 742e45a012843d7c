import Derived.Test.YtlnieobmhofkdaaGreatMix0
import Derived.Test.YtlnieobmhofkdaaGreatMathW
/- What impl.between returns: whether a number lies between two. -/
namespace Go.Proofs.YtlnieobmhofkdaaGreat
open Go.RowKit

theorem between_any (n lo hi : Int) (w : World) : Calls Tryz.prog 77 #[.int .i64 n, .int .i64 lo, .int .i64 hi] w fun e w' => e = .returned (.bool (Pk.inB n lo hi)) ∧ w' = w := by
  by_cases h1 : lo ≤ n
  · go_enter Tryz.func77, Tryz.ntmps77
    go_wp2
    go_ret
    exact ⟨by simp [Pk.inB, h1], rfl⟩
  · have h2 : decide (lo ≤ n) = false := by simpa using h1
    go_enter Tryz.func77, Tryz.ntmps77
    go_wp2
    go_ret
    exact ⟨by simp [Pk.inB, h2], rfl⟩
end Go.Proofs.YtlnieobmhofkdaaGreat

/- What impl.PkgOk returns: whether the package is ok; for every package; nothing old is written. -/
namespace Go.Proofs.YtlnieobmhofkdaaGreat
open Go.RowKit


theorem filesOk_long {l : List (Int × Int)} (h : ¬ l.length ≤ 2) : Pk.filesOk l = false := by unfold Pk.filesOk; rw [decide_eq_false h, Bool.false_and]
theorem depsOk_long {nm : Int} {l : List (Int × Int)} (h : ¬ l.length ≤ 2) : Pk.depsOk nm l = false := by unfold Pk.depsOk; rw [decide_eq_false h, Bool.false_and]

set_option maxHeartbeats 2000000 in
theorem implFiles_any (w : World) (v : Value) (l : List (Int × Int)) (h : Prs w v l) :
    Calls Tryz.prog 80 #[v] w fun e w' => e = .returned (.bool (Pk.filesOk l)) ∧ Below w.heap.size w w' := by
  obtain ⟨a, cap, rfl, hlen, hrow⟩ := h
  by_cases hlong : l.length ≤ 2
  · have hlong' : (l.length : Int) ≤ 2 := by omega
    go_enter Tryz.func80, Tryz.ntmps80
    go_wp2
    go_loopw [10] (fun i w' => ∃ k : Nat, k ≤ l.length ∧ i = .int .i64 k ∧ Below w.heap.size w w' ∧ ∀ j, j < k → Pk.fileGood l j = true) (fun i _ => l.length - (intOf i).toNat)
    case atStart => exact ⟨0, Nat.zero_le _, rfl, Below.refl _ _, fun j hj => by omega⟩
    case round =>
      obtain ⟨k, hk, rfl, hw, hgood⟩ := hrel
      have HG : Hid _ := hgood
      by_cases hlt : k < l.length
      · obtain ⟨b, off, rfl, hb, hc⟩ := hrow (by omega)
        have hcw : ∀ i, i < l.length → wr.cell? ⟨b, off + i * 2, none⟩ = some (.int .i64 (Pk.fst l i)) ∧ wr.cell? ⟨b, off + i * 2 + 1, none⟩ = some (.int .i64 (Pk.snd l i)) := fun i hi => by rw [hw.cell hb, hw.cell hb]; exact hc i hi
        have hb' : b < wr.heap.size := Nat.lt_of_lt_of_le hb hw.size
        obtain ⟨c1, c2⟩ := hcw k hlt
        have HC : Hid _ := hcw
        have HW : Hid _ := hw
        clear hgood hc hrow hcw hw
        have hi0 : (0 : Int) ≤ (k : Int) := Int.natCast_nonneg _
        have hi1 : (k : Int) < (l.length : Int) := by omega
        have HN0 : Hid (Below w.heap.size w (wr.alloc (.cells #[.int .i64 (Pk.fst l k), .int .i64 (Pk.snd l k)] 96))) := HW.out.alloc HW.out.size _
        have HN : ∀ n : Nat, Below w.heap.size w ((wr.alloc (.cells #[.int .i64 (Pk.fst l k), .int .i64 (Pk.snd l k)] 96)).drewN n) := fun n => below_drewN HN0.out n
        have HNN : Hid _ := HN
        clear HN
        cases hA : Pk.inB (Pk.fst l k) 0 5
        · go_wp2_with (go_at_call 77; refine (between_any _ _ _ _).mono ?_; rintro e w' ⟨rfl, rfl⟩)
          go_ret
          exact ⟨ret_bool (Pk.filesOk_bad hlt (by simp [Pk.fileGood, hA])).symm, HN0.out⟩
        cases hB : Pk.inB (Pk.snd l k) 0 9
        · go_wp2_with (go_at_call 77; refine (between_any _ _ _ _).mono ?_; rintro e w' ⟨rfl, rfl⟩)
          go_ret
          exact ⟨ret_bool (Pk.filesOk_bad hlt (by simp [Pk.fileGood, hB])).symm, HN0.out⟩
        rcases Nat.eq_zero_or_pos k with rfl | hpos
        · simp only [Nat.zero_mul, Nat.add_zero] at c1 c2
          go_wp2_with (go_at_call 77; refine (between_any _ _ _ _).mono ?_; rintro e w' ⟨rfl, rfl⟩)
          go_quiet (fail)
          go_wp2
          go_roundw
          case rel => exact ⟨1, by omega, by go_num, HNN.out _, one_lt (by simp [Pk.fileGood, hA, hB])⟩
          case measure => simp [intOf]; omega
        · obtain ⟨m, rfl⟩ : ∃ m, k = m + 1 := ⟨k - 1, by omega⟩
          obtain ⟨d1, _⟩ := HC.out m (by omega)
          have hp0 : decide ((0 : Int) < ((m + 1 : Nat) : Int)) = true := by simp
          by_cases hP : Pk.fst l m < Pk.fst l (m + 1)
          · have hP' : decide (Pk.fst l (m + 1) ≤ Pk.fst l m) = false := by simpa using hP
            go_wp2_with (go_at_call 77; refine (between_any _ _ _ _).mono ?_; rintro e w' ⟨rfl, rfl⟩)
            go_quiet (fail)
            go_wp2
            go_roundw
            case rel => exact ⟨m + 1 + 1, by omega, by go_num, HNN.out _, fun j hj => by
              rcases Nat.lt_or_ge j (m + 1) with h | h
              · exact HG.out j h
              · obtain rfl : j = m + 1 := by omega
                simp [Pk.fileGood, hA, hB, hP]⟩
            case measure => simp [intOf]; omega
          · have hP' : decide (Pk.fst l (m + 1) ≤ Pk.fst l m) = true := by simpa using hP
            go_wp2_with (go_at_call 77; refine (between_any _ _ _ _).mono ?_; rintro e w' ⟨rfl, rfl⟩)
            go_quiet (fail)
            go_wp2
            go_ret
            exact ⟨ret_bool (Pk.filesOk_bad hlt (by simp [Pk.fileGood, hA, hB]; simpa using hP)).symm, HNN.out _⟩
      · have HW : Hid _ := hw
        clear hgood hw
        go_wp2
        go_ret
        exact ⟨ret_bool (by rw [Pk.filesOk_good (fun i hi => HG.out i (by omega)), decide_eq_true hlong]), HW.out⟩
  · have hlong' : (2 : Int) < (l.length : Int) := by omega
    go_enter Tryz.func80, Tryz.ntmps80
    go_wp2
    go_ret
    exact ⟨ret_bool (filesOk_long hlong).symm, Below.refl _ _⟩

set_option maxHeartbeats 2000000 in
theorem implDeps_any (w : World) (nm : Int) (v : Value) (l : List (Int × Int)) (h : Prs w v l) :
    Calls Tryz.prog 81 #[.int .i64 nm, v] w fun e w' => e = .returned (.bool (Pk.depsOk nm l)) ∧ Below w.heap.size w w' := by
  obtain ⟨a, cap, rfl, hlen, hrow⟩ := h
  by_cases hlong : l.length ≤ 2
  · have hlong' : (l.length : Int) ≤ 2 := by omega
    go_enter Tryz.func81, Tryz.ntmps81
    go_wp2
    go_loopw [12] (fun i w' => ∃ k : Nat, k ≤ l.length ∧ i = .int .i64 k ∧ Below w.heap.size w w' ∧ ∀ j, j < k → Pk.depGood nm l j = true) (fun i _ => l.length - (intOf i).toNat)
    case atStart => exact ⟨0, Nat.zero_le _, rfl, Below.refl _ _, fun j hj => by omega⟩
    case round =>
      obtain ⟨k, hk, rfl, hw, hgood⟩ := hrel
      have HG : Hid _ := hgood
      by_cases hlt : k < l.length
      · obtain ⟨b, off, rfl, hb, hc⟩ := hrow (by omega)
        have hcw : ∀ i, i < l.length → wr.cell? ⟨b, off + i * 2, none⟩ = some (.int .i64 (Pk.fst l i)) ∧ wr.cell? ⟨b, off + i * 2 + 1, none⟩ = some (.int .i64 (Pk.snd l i)) := fun i hi => by rw [hw.cell hb, hw.cell hb]; exact hc i hi
        have hb' : b < wr.heap.size := Nat.lt_of_lt_of_le hb hw.size
        obtain ⟨c1, c2⟩ := hcw k hlt
        have HC : Hid _ := hcw
        have HW : Hid _ := hw
        clear hgood hc hrow hcw hw
        have hi0 : (0 : Int) ≤ (k : Int) := Int.natCast_nonneg _
        have hi1 : (k : Int) < (l.length : Int) := by omega
        have HN0 : Hid (Below w.heap.size w (wr.alloc (.cells #[.int .i64 (Pk.fst l k), .int .i64 (Pk.snd l k)] 98))) := HW.out.alloc HW.out.size _
        have HN : ∀ n : Nat, Below w.heap.size w ((wr.alloc (.cells #[.int .i64 (Pk.fst l k), .int .i64 (Pk.snd l k)] 98)).drewN n) := fun n => below_drewN HN0.out n
        have HNN : Hid _ := HN
        clear HN
        cases hA : Pk.inB (Pk.fst l k) 1 4
        · go_wp2_with (go_at_call 77; refine (between_any _ _ _ _).mono ?_; rintro e w' ⟨rfl, rfl⟩)
          go_ret
          exact ⟨ret_bool (Pk.depsOk_bad hlt (by simp [Pk.depGood, hA])).symm, HN0.out⟩
        cases hB : Pk.inB (Pk.snd l k) 1 5
        · go_wp2_with (go_at_call 77; refine (between_any _ _ _ _).mono ?_; rintro e w' ⟨rfl, rfl⟩)
          go_ret
          exact ⟨ret_bool (Pk.depsOk_bad hlt (by simp [Pk.depGood, hB])).symm, HN0.out⟩
        by_cases hE : Pk.fst l k = nm
        · have hE' : (Pk.fst l k == nm) = true := by simpa using hE
          have HE : Hid _ := hE
          clear hE
          go_wp2_with (go_at_call 77; refine (between_any _ _ _ _).mono ?_; rintro e w' ⟨rfl, rfl⟩)
          go_ret
          exact ⟨ret_bool (Pk.depsOk_bad hlt (by simp [Pk.depGood, HE.out])).symm, HN0.out⟩
        have hE' : (Pk.fst l k == nm) = false := by simpa using hE
        rcases Nat.eq_zero_or_pos k with rfl | hpos
        · simp only [Nat.zero_mul, Nat.add_zero] at c1 c2
          go_wp2_with (go_at_call 77; refine (between_any _ _ _ _).mono ?_; rintro e w' ⟨rfl, rfl⟩)
          go_quiet (fail)
          go_wp2
          go_roundw
          case rel => exact ⟨1, by omega, by go_num, HNN.out _, one_lt (by simp [Pk.depGood, hA, hB, hE])⟩
          case measure => simp [intOf]; omega
        · obtain ⟨m, rfl⟩ : ∃ m, k = m + 1 := ⟨k - 1, by omega⟩
          obtain ⟨d1, _⟩ := HC.out m (by omega)
          have hp0 : decide ((0 : Int) < ((m + 1 : Nat) : Int)) = true := by simp
          by_cases hP : Pk.fst l m < Pk.fst l (m + 1)
          · have hP' : decide (Pk.fst l (m + 1) ≤ Pk.fst l m) = false := by simpa using hP
            go_wp2_with (go_at_call 77; refine (between_any _ _ _ _).mono ?_; rintro e w' ⟨rfl, rfl⟩)
            go_quiet (fail)
            go_wp2
            go_roundw
            case rel => exact ⟨m + 1 + 1, by omega, by go_num, HNN.out _, fun j hj => by
              rcases Nat.lt_or_ge j (m + 1) with h | h
              · exact HG.out j h
              · obtain rfl : j = m + 1 := by omega
                simp [Pk.depGood, hA, hB, hP, hE]⟩
            case measure => simp [intOf]; omega
          · have hP' : decide (Pk.fst l (m + 1) ≤ Pk.fst l m) = true := by simpa using hP
            go_wp2_with (go_at_call 77; refine (between_any _ _ _ _).mono ?_; rintro e w' ⟨rfl, rfl⟩)
            go_quiet (fail)
            go_wp2
            go_ret
            exact ⟨ret_bool (Pk.depsOk_bad hlt (by simp [Pk.depGood, hA, hB, hE]; simpa using hP)).symm, HNN.out _⟩
      · have HW : Hid _ := hw
        clear hgood hw
        go_wp2
        go_ret
        exact ⟨ret_bool (by rw [Pk.depsOk_good (fun i hi => HG.out i (by omega)), decide_eq_true hlong]), HW.out⟩
  · have hlong' : (2 : Int) < (l.length : Int) := by omega
    go_enter Tryz.func81, Tryz.ntmps81
    go_wp2
    go_ret
    exact ⟨ret_bool (depsOk_long hlong).symm, Below.refl _ _⟩

set_option maxHeartbeats 2000000 in
/-- impl.PkgOk: whether the package is ok. -/
theorem implPkgOk_any (w : World) (nm vr : Int) (fv dv : Value) (fs ds : List (Int × Int)) (hf : Prs w fv fs) (hd : Prs w dv ds) :
    Calls Tryz.prog 58 #[.agg #[.int .i64 nm, .int .i64 vr, fv, dv]] w fun e w' => e = .returned (.bool (Pk.pkgOk nm vr fs ds)) ∧ Below w.heap.size w w' := by
  have B1 : Below w.heap.size w (w.alloc (.cells #[.int .i64 nm, .int .i64 vr, fv, dv] 67)) := (Below.refl _ _).alloc (Nat.le_refl _) _
  have hf1 := hf.later B1
  have hd1 := hd.later B1
  have HB : Hid _ := B1
  have HF : Hid (Prs _ _ _) := hf1
  have HD : Hid (Prs _ _ _) := hd1
  obtain ⟨fa, fc, hfv⟩ := hf.slice
  obtain ⟨da, dc, hdv⟩ := hd.slice
  clear hf hd B1 hf1 hd1
  subst hfv hdv
  cases hA : Pk.inB nm 1 4
  · go_enter Tryz.func58, Tryz.ntmps58
    go_wp2_with (go_at_call 77; refine (between_any _ _ _ _).mono ?_; rintro e w' ⟨rfl, rfl⟩)
    go_ret
    exact ⟨ret_bool (by simp [Pk.pkgOk, hA]), HB.out⟩
  cases hB : Pk.inB vr 1 5
  · go_enter Tryz.func58, Tryz.ntmps58
    go_wp2_with (go_at_call 77; refine (between_any _ _ _ _).mono ?_; rintro e w' ⟨rfl, rfl⟩)
    go_ret
    exact ⟨ret_bool (by simp [Pk.pkgOk, hB]), HB.out⟩
  go_enter Tryz.func58, Tryz.ntmps58
  go_wp2_with (go_at_call 77; refine (between_any _ _ _ _).mono ?_; rintro e w' ⟨rfl, rfl⟩)
  refine (implFiles_any _ _ fs HF.out).mono ?_
  rintro e w1 ⟨rfl, hb1⟩
  obtain ⟨z0, x0, _, _, x3⟩ := box4 w (.int .i64 nm) (.int .i64 vr) (.slice fa fs.length fc) (.slice da ds.length dc) 67
  have k0 : w1.cell? ⟨w.heap.size, 0, none⟩ = _ := (hb1.cell (by rw [z0]; exact Nat.lt_succ_self _)).trans x0
  have k3 : w1.cell? ⟨w.heap.size, 3, none⟩ = _ := (hb1.cell (by rw [z0]; exact Nat.lt_succ_self _)).trans x3
  have HB1 : Hid (Below w.heap.size w w1) := HB.out.trans (hb1.mono (by rw [z0]; omega))
  have HD1 : Hid (Prs _ _ _) := HD.out.later hb1
  clear hb1 x0 x3 z0 HF HD HB
  cases hC : Pk.filesOk fs
  · go_wp2
    go_ret
    exact ⟨ret_bool (by simp [Pk.pkgOk, hC]), HB1.out⟩
  · go_wp2_with fail
    refine (implDeps_any _ _ _ ds HD1.out).mono ?_
    rintro e w2 ⟨rfl, hb2⟩
    have HB2 : Hid (Below w.heap.size w w2) := HB1.out.trans (hb2.mono HB1.out.size)
    clear hb2
    go_wp2
    go_ret
    exact ⟨ret_bool (by simp [Pk.pkgOk, hA, hB, hC]), HB2.out⟩
end Go.Proofs.YtlnieobmhofkdaaGreat
