import Derived.Test.YtlnieobmhofkdaaGreatDoorMix1
import Derived.Test.YtlnieobmhofkdaaGreatDoorMix10
import Derived.Test.YtlnieobmhofkdaaGreatDoorPksW
import Derived.Test.YtlnieobmhofkdaaGreatDoorMix11
import Derived.Test.YtlnieobmhofkdaaGreatDoorBoxW
import Derived.Test.YtlnieobmhofkdaaGreatDoorMix12
import Derived.Test.YtlnieobmhofkdaaGreatDoorMathW
import Derived.Test.YtlnieobmhofkdaaGreatDoorMix5
/- What impl.PkgOk returns: whether the package is ok; for every package; nothing old is written. -/
namespace Go.Proofs.YtlnieobmhofkdaaGreatDoor
open Go.RowKit


theorem filesOk_long {l : List (Int × Int)} (h : ¬ l.length ≤ 2) : Pk.filesOk l = false := by unfold Pk.filesOk; rw [decide_eq_false h, Bool.false_and]
theorem depsOk_long {nm : Int} {l : List (Int × Int)} (h : ¬ l.length ≤ 2) : Pk.depsOk nm l = false := by unfold Pk.depsOk; rw [decide_eq_false h, Bool.false_and]

set_option maxHeartbeats 2000000 in
theorem implFiles_any (w : World) (v : Value) (l : List (Int × Int)) (h : Prs w v l) :
    Calls Tryz.prog 106 #[v] w fun e w' => e = .returned (.bool (Pk.filesOk l)) ∧ Below w.heap.size w w' := by
  obtain ⟨a, cap, rfl, hlen, hrow⟩ := h
  by_cases hlong : l.length ≤ 2
  · have hlong' : (l.length : Int) ≤ 2 := by omega
    go_enter Tryz.func106, Tryz.ntmps106
    go_wp2
    go_loopw [10] (fun i w' => ∃ k : Nat, k ≤ l.length ∧ i = .int .i64 k ∧ Below w.heap.size w w' ∧ ∀ j, j < k → Pk.fileGood l j = true) (fun i _ => l.length - (intOf i).toNat)
    case atStart => exact ⟨0, Nat.zero_le _, rfl, Below.refl _ _, fun j hj => by omega⟩
    case round =>
      obtain ⟨k, hk, rfl, hw, hgood⟩ := hrel
      have HG : Hid _ := hgood
      by_cases hlt : k < l.length
      · obtain ⟨b, off, rfl, hb, hc⟩ := hrow (by omega)
        have hcw : ∀ i, i < l.length → wr.cell? ⟨b, off + i * 2, none⟩ = some (.int .i64 (Pk.fst l i)) ∧ wr.cell? ⟨b, off + i * 2 + 1, none⟩ = some (.int .i64 (Pk.snd l i)) := fun i hi => by rw [hw.cell hb, hw.cell hb]; exact hc i hi
        have hb' : b < wr.heap.size := Nat.lt_of_lt_of_le hb hw.size
        obtain ⟨c1, c2⟩ := hcw k hlt
        have HC : Hid _ := hcw
        have HW : Hid _ := hw
        clear hgood hc hrow hcw hw
        have hi0 : (0 : Int) ≤ (k : Int) := Int.natCast_nonneg _
        have hi1 : (k : Int) < (l.length : Int) := by omega
        have HN0 : Hid (Below w.heap.size w (wr.alloc (.cells #[.int .i64 (Pk.fst l k), .int .i64 (Pk.snd l k)] 132))) := HW.out.alloc HW.out.size _
        have HN : ∀ n : Nat, Below w.heap.size w ((wr.alloc (.cells #[.int .i64 (Pk.fst l k), .int .i64 (Pk.snd l k)] 132)).drewN n) := fun n => below_drewN HN0.out n
        have HNN : Hid _ := HN
        clear HN
        cases hA : Pk.inB (Pk.fst l k) 0 5
        · go_wp2_with (go_at_call 103; refine (between_any _ _ _ _).mono ?_; rintro e w' ⟨rfl, rfl⟩)
          go_ret
          exact ⟨ret_bool (Pk.filesOk_bad hlt (by simp [Pk.fileGood, hA])).symm, HN0.out⟩
        cases hB : Pk.inB (Pk.snd l k) 0 9
        · go_wp2_with (go_at_call 103; refine (between_any _ _ _ _).mono ?_; rintro e w' ⟨rfl, rfl⟩)
          go_ret
          exact ⟨ret_bool (Pk.filesOk_bad hlt (by simp [Pk.fileGood, hB])).symm, HN0.out⟩
        rcases Nat.eq_zero_or_pos k with rfl | hpos
        · simp only [Nat.zero_mul, Nat.add_zero] at c1 c2
          go_wp2_with (go_at_call 103; refine (between_any _ _ _ _).mono ?_; rintro e w' ⟨rfl, rfl⟩)
          go_quiet (fail)
          go_wp2
          go_roundw
          case rel => exact ⟨1, by omega, by go_num, HNN.out _, one_lt (by simp [Pk.fileGood, hA, hB])⟩
          case measure => simp [intOf]; omega
        · obtain ⟨m, rfl⟩ : ∃ m, k = m + 1 := ⟨k - 1, by omega⟩
          obtain ⟨d1, _⟩ := HC.out m (by omega)
          have hp0 : decide ((0 : Int) < ((m + 1 : Nat) : Int)) = true := by simp
          by_cases hP : Pk.fst l m < Pk.fst l (m + 1)
          · have hP' : decide (Pk.fst l (m + 1) ≤ Pk.fst l m) = false := by simpa using hP
            go_wp2_with (go_at_call 103; refine (between_any _ _ _ _).mono ?_; rintro e w' ⟨rfl, rfl⟩)
            go_quiet (fail)
            go_wp2
            go_roundw
            case rel => exact ⟨m + 1 + 1, by omega, by go_num, HNN.out _, fun j hj => by
              rcases Nat.lt_or_ge j (m + 1) with h | h
              · exact HG.out j h
              · obtain rfl : j = m + 1 := by omega
                simp [Pk.fileGood, hA, hB, hP]⟩
            case measure => simp [intOf]; omega
          · have hP' : decide (Pk.fst l (m + 1) ≤ Pk.fst l m) = true := by simpa using hP
            go_wp2_with (go_at_call 103; refine (between_any _ _ _ _).mono ?_; rintro e w' ⟨rfl, rfl⟩)
            go_quiet (fail)
            go_wp2
            go_ret
            exact ⟨ret_bool (Pk.filesOk_bad hlt (by simp [Pk.fileGood, hA, hB]; simpa using hP)).symm, HNN.out _⟩
      · have HW : Hid _ := hw
        clear hgood hw
        go_wp2
        go_ret
        exact ⟨ret_bool (by rw [Pk.filesOk_good (fun i hi => HG.out i (by omega)), decide_eq_true hlong]), HW.out⟩
  · have hlong' : (2 : Int) < (l.length : Int) := by omega
    go_enter Tryz.func106, Tryz.ntmps106
    go_wp2
    go_ret
    exact ⟨ret_bool (filesOk_long hlong).symm, Below.refl _ _⟩

set_option maxHeartbeats 2000000 in
theorem implDeps_any (w : World) (nm : Int) (v : Value) (l : List (Int × Int)) (h : Prs w v l) :
    Calls Tryz.prog 107 #[.int .i64 nm, v] w fun e w' => e = .returned (.bool (Pk.depsOk nm l)) ∧ Below w.heap.size w w' := by
  obtain ⟨a, cap, rfl, hlen, hrow⟩ := h
  by_cases hlong : l.length ≤ 2
  · have hlong' : (l.length : Int) ≤ 2 := by omega
    go_enter Tryz.func107, Tryz.ntmps107
    go_wp2
    go_loopw [12] (fun i w' => ∃ k : Nat, k ≤ l.length ∧ i = .int .i64 k ∧ Below w.heap.size w w' ∧ ∀ j, j < k → Pk.depGood nm l j = true) (fun i _ => l.length - (intOf i).toNat)
    case atStart => exact ⟨0, Nat.zero_le _, rfl, Below.refl _ _, fun j hj => by omega⟩
    case round =>
      obtain ⟨k, hk, rfl, hw, hgood⟩ := hrel
      have HG : Hid _ := hgood
      by_cases hlt : k < l.length
      · obtain ⟨b, off, rfl, hb, hc⟩ := hrow (by omega)
        have hcw : ∀ i, i < l.length → wr.cell? ⟨b, off + i * 2, none⟩ = some (.int .i64 (Pk.fst l i)) ∧ wr.cell? ⟨b, off + i * 2 + 1, none⟩ = some (.int .i64 (Pk.snd l i)) := fun i hi => by rw [hw.cell hb, hw.cell hb]; exact hc i hi
        have hb' : b < wr.heap.size := Nat.lt_of_lt_of_le hb hw.size
        obtain ⟨c1, c2⟩ := hcw k hlt
        have HC : Hid _ := hcw
        have HW : Hid _ := hw
        clear hgood hc hrow hcw hw
        have hi0 : (0 : Int) ≤ (k : Int) := Int.natCast_nonneg _
        have hi1 : (k : Int) < (l.length : Int) := by omega
        have HN0 : Hid (Below w.heap.size w (wr.alloc (.cells #[.int .i64 (Pk.fst l k), .int .i64 (Pk.snd l k)] 134))) := HW.out.alloc HW.out.size _
        have HN : ∀ n : Nat, Below w.heap.size w ((wr.alloc (.cells #[.int .i64 (Pk.fst l k), .int .i64 (Pk.snd l k)] 134)).drewN n) := fun n => below_drewN HN0.out n
        have HNN : Hid _ := HN
        clear HN
        cases hA : Pk.inB (Pk.fst l k) 1 4
        · go_wp2_with (go_at_call 103; refine (between_any _ _ _ _).mono ?_; rintro e w' ⟨rfl, rfl⟩)
          go_ret
          exact ⟨ret_bool (Pk.depsOk_bad hlt (by simp [Pk.depGood, hA])).symm, HN0.out⟩
        cases hB : Pk.inB (Pk.snd l k) 1 5
        · go_wp2_with (go_at_call 103; refine (between_any _ _ _ _).mono ?_; rintro e w' ⟨rfl, rfl⟩)
          go_ret
          exact ⟨ret_bool (Pk.depsOk_bad hlt (by simp [Pk.depGood, hB])).symm, HN0.out⟩
        by_cases hE : Pk.fst l k = nm
        · have hE' : (Pk.fst l k == nm) = true := by simpa using hE
          have HE : Hid _ := hE
          clear hE
          go_wp2_with (go_at_call 103; refine (between_any _ _ _ _).mono ?_; rintro e w' ⟨rfl, rfl⟩)
          go_ret
          exact ⟨ret_bool (Pk.depsOk_bad hlt (by simp [Pk.depGood, HE.out])).symm, HN0.out⟩
        have hE' : (Pk.fst l k == nm) = false := by simpa using hE
        rcases Nat.eq_zero_or_pos k with rfl | hpos
        · simp only [Nat.zero_mul, Nat.add_zero] at c1 c2
          go_wp2_with (go_at_call 103; refine (between_any _ _ _ _).mono ?_; rintro e w' ⟨rfl, rfl⟩)
          go_quiet (fail)
          go_wp2
          go_roundw
          case rel => exact ⟨1, by omega, by go_num, HNN.out _, one_lt (by simp [Pk.depGood, hA, hB, hE])⟩
          case measure => simp [intOf]; omega
        · obtain ⟨m, rfl⟩ : ∃ m, k = m + 1 := ⟨k - 1, by omega⟩
          obtain ⟨d1, _⟩ := HC.out m (by omega)
          have hp0 : decide ((0 : Int) < ((m + 1 : Nat) : Int)) = true := by simp
          by_cases hP : Pk.fst l m < Pk.fst l (m + 1)
          · have hP' : decide (Pk.fst l (m + 1) ≤ Pk.fst l m) = false := by simpa using hP
            go_wp2_with (go_at_call 103; refine (between_any _ _ _ _).mono ?_; rintro e w' ⟨rfl, rfl⟩)
            go_quiet (fail)
            go_wp2
            go_roundw
            case rel => exact ⟨m + 1 + 1, by omega, by go_num, HNN.out _, fun j hj => by
              rcases Nat.lt_or_ge j (m + 1) with h | h
              · exact HG.out j h
              · obtain rfl : j = m + 1 := by omega
                simp [Pk.depGood, hA, hB, hP, hE]⟩
            case measure => simp [intOf]; omega
          · have hP' : decide (Pk.fst l (m + 1) ≤ Pk.fst l m) = true := by simpa using hP
            go_wp2_with (go_at_call 103; refine (between_any _ _ _ _).mono ?_; rintro e w' ⟨rfl, rfl⟩)
            go_quiet (fail)
            go_wp2
            go_ret
            exact ⟨ret_bool (Pk.depsOk_bad hlt (by simp [Pk.depGood, hA, hB, hE]; simpa using hP)).symm, HNN.out _⟩
      · have HW : Hid _ := hw
        clear hgood hw
        go_wp2
        go_ret
        exact ⟨ret_bool (by rw [Pk.depsOk_good (fun i hi => HG.out i (by omega)), decide_eq_true hlong]), HW.out⟩
  · have hlong' : (2 : Int) < (l.length : Int) := by omega
    go_enter Tryz.func107, Tryz.ntmps107
    go_wp2
    go_ret
    exact ⟨ret_bool (depsOk_long hlong).symm, Below.refl _ _⟩

set_option maxHeartbeats 2000000 in
/-- impl.PkgOk: whether the package is ok. -/
theorem implPkgOk_any (w : World) (nm vr : Int) (fv dv : Value) (fs ds : List (Int × Int)) (hf : Prs w fv fs) (hd : Prs w dv ds) :
    Calls Tryz.prog 54 #[.agg #[.int .i64 nm, .int .i64 vr, fv, dv]] w fun e w' => e = .returned (.bool (Pk.pkgOk nm vr fs ds)) ∧ Below w.heap.size w w' := by
  have B1 : Below w.heap.size w (w.alloc (.cells #[.int .i64 nm, .int .i64 vr, fv, dv] 42)) := (Below.refl _ _).alloc (Nat.le_refl _) _
  have hf1 := hf.later B1
  have hd1 := hd.later B1
  have HB : Hid _ := B1
  have HF : Hid (Prs _ _ _) := hf1
  have HD : Hid (Prs _ _ _) := hd1
  obtain ⟨fa, fc, hfv⟩ := hf.slice
  obtain ⟨da, dc, hdv⟩ := hd.slice
  clear hf hd B1 hf1 hd1
  subst hfv hdv
  cases hA : Pk.inB nm 1 4
  · go_enter Tryz.func54, Tryz.ntmps54
    go_wp2_with (go_at_call 103; refine (between_any _ _ _ _).mono ?_; rintro e w' ⟨rfl, rfl⟩)
    go_ret
    exact ⟨ret_bool (by simp [Pk.pkgOk, hA]), HB.out⟩
  cases hB : Pk.inB vr 1 5
  · go_enter Tryz.func54, Tryz.ntmps54
    go_wp2_with (go_at_call 103; refine (between_any _ _ _ _).mono ?_; rintro e w' ⟨rfl, rfl⟩)
    go_ret
    exact ⟨ret_bool (by simp [Pk.pkgOk, hB]), HB.out⟩
  go_enter Tryz.func54, Tryz.ntmps54
  go_wp2_with (go_at_call 103; refine (between_any _ _ _ _).mono ?_; rintro e w' ⟨rfl, rfl⟩)
  refine (implFiles_any _ _ fs HF.out).mono ?_
  rintro e w1 ⟨rfl, hb1⟩
  obtain ⟨z0, x0, _, _, x3⟩ := box4 w (.int .i64 nm) (.int .i64 vr) (.slice fa fs.length fc) (.slice da ds.length dc) 42
  have k0 : w1.cell? ⟨w.heap.size, 0, none⟩ = _ := (hb1.cell (by rw [z0]; exact Nat.lt_succ_self _)).trans x0
  have k3 : w1.cell? ⟨w.heap.size, 3, none⟩ = _ := (hb1.cell (by rw [z0]; exact Nat.lt_succ_self _)).trans x3
  have HB1 : Hid (Below w.heap.size w w1) := HB.out.trans (hb1.mono (by rw [z0]; omega))
  have HD1 : Hid (Prs _ _ _) := HD.out.later hb1
  clear hb1 x0 x3 z0 HF HD HB
  cases hC : Pk.filesOk fs
  · go_wp2
    go_ret
    exact ⟨ret_bool (by simp [Pk.pkgOk, hC]), HB1.out⟩
  · go_wp2_with fail
    refine (implDeps_any _ _ _ ds HD1.out).mono ?_
    rintro e w2 ⟨rfl, hb2⟩
    have HB2 : Hid (Below w.heap.size w w2) := HB1.out.trans (hb2.mono HB1.out.size)
    clear hb2
    go_wp2
    go_ret
    exact ⟨ret_bool (by simp [Pk.pkgOk, hA, hB, hC]), HB2.out⟩
end Go.Proofs.YtlnieobmhofkdaaGreatDoor

/- What impl.StoreOk and spec.StoreOk return: whether packages are ok and ascend; for every row of packages that can be read. -/
namespace Go.Proofs.YtlnieobmhofkdaaGreatDoor
open Go.RowKit

/-- Name and version of the package ahead; nothing ahead of the first. -/
def Ix.ahN (l : List Ix.Pg) (k : Nat) : Int := if k = 0 then 0 else (Ix.pg l (k - 1)).1
def Ix.ahV (l : List Ix.Pg) (k : Nat) : Int := if k = 0 then 0 else (Ix.pg l (k - 1)).2.1
theorem Ix.ahN_succ (l : List Ix.Pg) (k : Nat) : Ix.ahN l (k + 1) = (Ix.pg l k).1 := by simp [Ix.ahN]
theorem Ix.ahV_succ (l : List Ix.Pg) (k : Nat) : Ix.ahV l (k + 1) = (Ix.pg l k).2.1 := by simp [Ix.ahV]
theorem Ix.good_ahead (l : List Ix.Pg) (k : Nat) : Ix.pkgGood l k = (Ix.pOk (Ix.pg l k) && Ix.less (Ix.ahN l k) (Ix.ahV l k) (Ix.pg l k).1 (Ix.pg l k).2.1) := by
  unfold Ix.pkgGood Ix.ahN Ix.ahV
  by_cases hk : k = 0
  · rw [if_pos hk, if_pos hk, decide_eq_true hk, Bool.true_or]
    cases hO : Ix.pOk (Ix.pg l k)
    · rfl
    · have : Ix.less 0 0 (Ix.pg l k).1 (Ix.pg l k).2.1 = true := by
        unfold Ix.pOk Pk.pkgOk at hO
        simp only [Bool.and_eq_true, Pk.inB_true] at hO
        unfold Ix.less
        rw [decide_eq_true (by omega)]
        rfl
      rw [this]
  · rw [if_neg hk, if_neg hk, decide_eq_false hk, Bool.false_or]

set_option maxHeartbeats 4000000 in
set_option maxRecDepth 100000 in
theorem specStoreOk_any {N : Nat → Prop} (w : World) (v : Value) (l : List Ix.Pg) (h : Pks N w v l) :
    Calls Tryz.prog 14 #[v] w fun e w' => e = .returned (.bool (Ix.pkgsOk l)) ∧ Below w.heap.size w w' := by
  have H := hide h
  obtain ⟨a, cap, hv⟩ := h.slice
  subst hv
  clear h
  go_enter Tryz.func14, Tryz.ntmps14
  go_wp2_with fail
  refine (l3Pkgs_any _ _ l (unhide H)).mono ?_
  rintro e w1 ⟨rfl, b1⟩
  have B1 := hide b1
  clear b1
  go_wp2
  go_ret
  exact ⟨rfl, unhide B1⟩

set_option maxHeartbeats 4000000 in
set_option maxRecDepth 100000 in
theorem implStoreOk_any {N : Nat → Prop} (w : World) (v : Value) (l : List Ix.Pg) (h : Pks N w v l) :
    Calls Tryz.prog 17 #[v] w fun e w' => e = .returned (.bool (Ix.pkgsOk l)) ∧ Below w.heap.size w w' := by
  obtain ⟨a, cap, rfl, hlen, hrow⟩ := h
  have HA0 := hide (And.intro (heap_alloc_new w (.cells #[.int .i64 0, .int .i64 0, .int .i64 0] 55)) (below1 w (.cells #[.int .i64 0, .int .i64 0, .int .i64 0] 55)))
  go_enter Tryz.func17, Tryz.ntmps17
  go_wp2
  go_loopw [10] (fun i w' => ∃ k : Nat, k ≤ l.length ∧ i = .int .i64 k ∧ Below w.heap.size w w' ∧ w'.heap[w.heap.size]? = some (.cells #[.int .i64 (Ix.ahN l k), .int .i64 (Ix.ahV l k), .int .i64 0] 55 (0, 0)) ∧ ∀ j, j < k → Ix.pkgGood l j = true) (fun i _ => l.length - (intOf i).toNat)
  case atStart => exact ⟨0, Nat.zero_le _, rfl, (unhide HA0).2, (unhide HA0).1, fun j hj => by omega⟩
  case round =>
    obtain ⟨k, hk, rfl, hw, hA, hgood⟩ := hrel
    have HG := hide hgood
    have HW := hide hw
    have HA := hide hA
    clear hgood hw hA
    by_cases hlt : k < l.length
    · obtain ⟨b, off, rfl, hb, _, hc⟩ := hrow (by omega)
      obtain ⟨fv, dv, hAt, hf, hd⟩ := hc k hlt
      clear hc hrow
      obtain ⟨nm, vr, fs, ds, hpk⟩ : ∃ nm vr fs ds, Ix.pg l k = (nm, vr, fs, ds) := ⟨_, _, _, _, rfl⟩
      rw [hpk] at hAt hf hd
      dsimp only at hf hd
      obtain ⟨fa, fc, hfv⟩ := hf.slice
      obtain ⟨da, dc, hdv⟩ := hd.slice
      subst hfv hdv
      obtain ⟨c0, c1, c2, c3⟩ := hAt.keep ((unhide HW).block b hb)
      have hb' : b < wr.heap.size := Nat.lt_of_lt_of_le hb (unhide HW).size
      have hi0 : (0 : Int) ≤ (k : Int) := Int.natCast_nonneg _
      have hi1 : (k : Int) < (l.length : Int) := by omega
      have b1 := below1 wr (.cells #[.int .i64 nm, .int .i64 vr, .slice fa fs.length fc, .slice da ds.length dc] 42)
      have b2 := below1 (wr.alloc (.cells #[.int .i64 nm, .int .i64 vr, .slice fa fs.length fc, .slice da ds.length dc] 42)) (.cells #[.int .i64 nm, .int .i64 vr, .int .i64 0] 55)
      have bb := b1.trans (b2.mono b1.size)
      have HB := hide bb
      have hgl := (Ix.good_ahead l k).trans (by rw [hpk]; rfl : _ = (Pk.pkgOk nm vr fs ds && Ix.less (Ix.ahN l k) (Ix.ahV l k) nm vr))
      have HGL := hide hgl
      have CP := hide (implPkgOk_any ((wr.alloc (.cells #[.int .i64 nm, .int .i64 vr, .slice fa fs.length fc, .slice da ds.length dc] 42)).alloc (.cells #[.int .i64 nm, .int .i64 vr, .int .i64 0] 55)) nm vr _ _ fs ds (hf.prs.later ((unhide HW).trans (bb.mono (unhide HW).size))) (hd.prs.later ((unhide HW).trans (bb.mono (unhide HW).size))))
      have HPK := hide hpk
      have hAh := (bb.block _ (heapLt (unhide HA))).trans (unhide HA)
      have HAH := hide hAh
      have hMh := heap_alloc_new (wr.alloc (.cells #[.int .i64 nm, .int .i64 vr, .slice fa fs.length fc, .slice da ds.length dc] 42)) (.cells #[.int .i64 nm, .int .i64 vr, .int .i64 0] 55)
      have HMH := hide hMh
      have hAlt := heapLt (unhide HA)
      clear hAt hf hd hpk b1 b2 bb hgl hAh hMh
      generalize Ix.ahN l k = an at *
      generalize Ix.ahV l k = av at *
      go_wp2_with fail
      refine (unhide CP).mono ?_
      rintro e w1 ⟨rfl, b1⟩
      have hA1 := (b1.block _ (heapLt (unhide HAH))).trans (unhide HAH)
      have hM1 := (b1.block _ (heapLt (unhide HMH))).trans (unhide HMH)
      have B1 := (unhide HW).trans (((unhide HB).trans (b1.mono (unhide HB).size)).mono (unhide HW).size)
      rw [sz1'] at hM1
      have HA1 := hide hA1
      have HM1 := hide hM1
      have HB1 := hide B1
      cases hOk : Pk.pkgOk nm vr fs ds
      · clear hA1 hM1 B1 b1
        go_wp2
        go_ret
        exact ⟨ret_bool (Ix.pkgsOk_bad hlt (by rw [unhide HGL, hOk]; rfl)).symm, unhide HB1⟩
      obtain ⟨m0, m1, m2⟩ : _ ∧ _ ∧ _ := ⟨cellOf hM1 0, cellOf hM1 1, cellOf hM1 2⟩
      obtain ⟨a0, a1, a2⟩ : _ ∧ _ ∧ _ := ⟨cellOf hA1 0, cellOf hA1 1, cellOf hA1 2⟩
      clear hA1 hM1 B1 b1 CP HAH HMH HB HW HA c0 c1 c2 c3
      go_wp2_with fail
      refine (metaBelow_any _ an av 0 nm vr 0).mono ?_
      rintro e w2 ⟨rfl, b2⟩
      have hA2 := (b2.block _ (heapLt (unhide HA1))).trans (unhide HA1)
      have hM2 := (b2.block _ (heapLt (unhide HM1))).trans (unhide HM1)
      have B2 := (unhide HB1).trans (b2.mono (unhide HB1).size)
      have HA2 := hide hA2
      have HB2 := hide B2
      clear m0 m1 m2 a0 a1 a2
      cases hLs : Ix.less an av nm vr
      · clear hA2 hM2 B2 b2
        go_wp2
        go_ret
        exact ⟨ret_bool (Ix.pkgsOk_bad hlt (by rw [unhide HGL, hOk, hLs]; rfl)).symm, unhide HB2⟩
      obtain ⟨m0, m1, m2⟩ : _ ∧ _ ∧ _ := ⟨cellOf hM2 0, cellOf hM2 1, cellOf hM2 2⟩
      obtain ⟨a0, a1, a2⟩ : _ ∧ _ ∧ _ := ⟨cellOf hA2 0, cellOf hA2 1, cellOf hA2 2⟩
      obtain ⟨f0, f1, f2⟩ : _ ∧ _ ∧ _ := ⟨frozenOf hA2 0, frozenOf hA2 1, frozenOf hA2 2⟩
      clear hA2 hM2 B2 b2 HA1 HM1 HB1
      go_wp2
      go_roundw
      case rel =>
        refine ⟨k + 1, by omega, by go_num, ?_, ?_, ?_⟩
        · exact (((unhide HB2).setCell (Nat.le_refl _) _).setCell (Nat.le_refl _) _).setCell (Nat.le_refl _) _
        · rw [heapSet (heapSet (heapSet (unhide HA2))), Ix.ahN_succ, Ix.ahV_succ, unhide HPK]
          rfl
        · intro j hj
          rcases Nat.lt_or_ge j k with h | h
          · exact unhide HG j h
          · obtain rfl : j = k := by omega
            rw [unhide HGL, hOk, hLs]
            rfl
      case measure => simp [intOf]; omega
    · obtain rfl : k = l.length := by omega
      clear hlt
      go_wp2
      go_ret
      exact ⟨ret_bool (Ix.pkgsOk_good (unhide HG)).symm, unhide HW⟩
end Go.Proofs.YtlnieobmhofkdaaGreatDoor

/- What laws.luInts, luRoot, luMetas, luIndex and luTrust return of the same data: true. -/
namespace Go.Proofs.YtlnieobmhofkdaaGreatDoor
open Go.RowKit

set_option maxHeartbeats 2000000 in
set_option maxRecDepth 100000 in
theorem luMetas_same (w : World) (va vb : Value) (l : List Ix.M) (ha : Trs w va l) (hb : Trs w vb l) :
    Calls Tryz.prog 21 #[va, vb] w fun e w' => e = .returned (.bool true) ∧ Below w.heap.size w w' := by
  obtain ⟨a, ca, rfl, hla, hra⟩ := ha
  obtain ⟨b, cb, rfl, _, hrb⟩ := hb
  have HA := hide hra
  have HB := hide hrb
  clear hra hrb
  have hne : ((l.length : Int) != (l.length : Int)) = false := by simp
  go_enter Tryz.func21, Tryz.ntmps21
  go_wp2
  go_loopw [5] (fun i w' => ∃ k : Nat, k ≤ l.length ∧ i = .int .i64 k ∧ Below w.heap.size w w') (fun i _ => l.length - (intOf i).toNat)
  case atStart => exact ⟨0, Nat.zero_le _, rfl, Below.refl _ _⟩
  case round =>
    obtain ⟨k, hk, rfl, hw⟩ := hrel
    have HW := hide hw
    clear hw
    by_cases hlt : k < l.length
    · obtain ⟨x, ox, rfl, hx, cx⟩ := unhide HA (by omega)
      obtain ⟨y, oy, rfl, hy, cy⟩ := unhide HB (by omega)
      have hi0 : (0 : Int) ≤ (k : Int) := Int.natCast_nonneg _
      have hi1 : (k : Int) < (l.length : Int) := by omega
      have kk : ∀ w', Below wr.heap.size wr w' → (w'.cell? ⟨x, ox + k * 3, none⟩ = some (.int .i64 (Ix.nm l k)) ∧ w'.cell? ⟨x, ox + k * 3 + 1, none⟩ = some (.int .i64 (Ix.vr l k)) ∧ w'.cell? ⟨x, ox + k * 3 + 2, none⟩ = some (.int .i64 (Ix.sm l k))) ∧ (w'.cell? ⟨y, oy + k * 3, none⟩ = some (.int .i64 (Ix.nm l k)) ∧ w'.cell? ⟨y, oy + k * 3 + 1, none⟩ = some (.int .i64 (Ix.vr l k)) ∧ w'.cell? ⟨y, oy + k * 3 + 2, none⟩ = some (.int .i64 (Ix.sm l k))) := fun w' hw' => by
        have hb2 := (unhide HW).trans (hw'.mono (unhide HW).size)
        rw [hb2.cell hx, hb2.cell hx, hb2.cell hx, hb2.cell hy, hb2.cell hy, hb2.cell hy]
        exact ⟨cx k hlt, cy k hlt⟩
      have KK := hide kk
      clear kk cx cy
      generalize Ix.nm l k = z1 at *
      generalize Ix.vr l k = z2 at *
      generalize Ix.sm l k = z3 at *
      go_wp2_with fail
      refine wq_region (by kernel_rfl) (by kernel_rfl) ?_
      refine wq_move (d := some 17) rfl rfl (by rfl) rfl ?_
      simp only [Act.put, List.setIfInBounds_toArray, List.set_cons_zero, List.set_cons_succ, List.getElem_toArray, List.getElem_cons_zero]
      refine wq_move (d := some 18) rfl rfl (by rfl) rfl ?_
      simp only [Act.put, List.setIfInBounds_toArray, List.set_cons_zero, List.set_cons_succ, List.getElem_toArray, List.getElem_cons_zero, List.getElem_cons_succ]
      refine wq_take (d := some 19) rfl (by rfl) (v := ?_) ?_ ?_
      rotate_left
      · (intro w hCw; have hKw := (unhide KK) w hCw; go_simp <;> with_reducible rfl)
      simp only [Act.put, List.setIfInBounds_toArray, List.set_cons_zero, List.set_cons_succ]
      refine wq_take (d := some 20) rfl (by rfl) (v := ?_) ?_ ?_
      rotate_left
      · (intro w hCw; have hKw := (unhide KK) w hCw; go_simp <;> with_reducible rfl)
      simp only [Act.put, List.setIfInBounds_toArray, List.set_cons_zero, List.set_cons_succ]
      refine wq_move (d := some 21) rfl rfl (by rfl) rfl ?_
      simp only [Act.put, List.setIfInBounds_toArray, List.set_cons_zero, List.set_cons_succ, List.getElem_toArray, List.getElem_cons_zero, List.getElem_cons_succ]
      refine wq_move (d := some 22) rfl rfl (by rfl) rfl ?_
      simp only [Act.put, List.setIfInBounds_toArray, List.set_cons_zero, List.set_cons_succ, List.getElem_toArray, List.getElem_cons_zero, List.getElem_cons_succ]
      refine wq_take (d := some 23) rfl (by rfl) (v := ?_) ?_ ?_
      rotate_left
      · (intro w hCw; have hKw := (unhide KK) w hCw; go_simp <;> with_reducible rfl)
      simp only [Act.put, List.setIfInBounds_toArray, List.set_cons_zero, List.set_cons_succ]
      refine wq_take (d := some 24) rfl (by rfl) (v := ?_) ?_ ?_
      rotate_left
      · (intro w hCw; have hKw := (unhide KK) w hCw; go_simp <;> with_reducible rfl)
      simp only [Act.put, List.setIfInBounds_toArray, List.set_cons_zero, List.set_cons_succ]
      refine wq_take (d := some 25) rfl (by rfl) (v := (.bool false)) ?_ ?_
      · (intro w hCw; go_simp <;> omega)
      simp only [Act.put, List.setIfInBounds_toArray, List.set_cons_zero, List.set_cons_succ]
      refine wq_nil ?_
      intro w9 hw9
      go_wp2
      go_roundw
      case rel => exact ⟨k + 1, by omega, by go_num, (unhide HW).trans (hw9.mono (unhide HW).size)⟩
      case measure => simp [intOf]; omega
    · go_wp2
      go_ret
      exact ⟨rfl, unhide HW⟩

/-- Trust as a value. -/
abbrev tvT (t : Tr.T) (kv mv : Value) : Value := tv t.n t.d kv t.has t.num t.til mv

end Go.Proofs.YtlnieobmhofkdaaGreatDoor
