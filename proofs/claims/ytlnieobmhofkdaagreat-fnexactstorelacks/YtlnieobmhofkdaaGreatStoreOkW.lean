import Derived.Test.YtlnieobmhofkdaaGreatPksW
import Derived.Test.YtlnieobmhofkdaaGreatMix2
import Derived.Test.YtlnieobmhofkdaaGreatMix3
import Derived.Test.YtlnieobmhofkdaaGreatBoxW
/- What impl.StoreOk and spec.StoreOk return: whether packages are ok and ascend; for every row of packages that can be read. -/
namespace Go.Proofs.YtlnieobmhofkdaaGreat
open Go.RowKit

/-- Name and version of the package ahead; nothing ahead of the first. -/
def Ix.ahN (l : List Ix.Pg) (k : Nat) : Int := if k = 0 then 0 else (Ix.pg l (k - 1)).1
def Ix.ahV (l : List Ix.Pg) (k : Nat) : Int := if k = 0 then 0 else (Ix.pg l (k - 1)).2.1
theorem Ix.ahN_succ (l : List Ix.Pg) (k : Nat) : Ix.ahN l (k + 1) = (Ix.pg l k).1 := by simp [Ix.ahN]
theorem Ix.ahV_succ (l : List Ix.Pg) (k : Nat) : Ix.ahV l (k + 1) = (Ix.pg l k).2.1 := by simp [Ix.ahV]
theorem Ix.good_ahead (l : List Ix.Pg) (k : Nat) : Ix.pkgGood l k = (Ix.pOk (Ix.pg l k) && Ix.less (Ix.ahN l k) (Ix.ahV l k) (Ix.pg l k).1 (Ix.pg l k).2.1) := by
  unfold Ix.pkgGood Ix.ahN Ix.ahV
  by_cases hk : k = 0
  · rw [if_pos hk, if_pos hk, decide_eq_true hk, Bool.true_or]
    cases hO : Ix.pOk (Ix.pg l k)
    · rfl
    · have : Ix.less 0 0 (Ix.pg l k).1 (Ix.pg l k).2.1 = true := by
        unfold Ix.pOk Pk.pkgOk at hO
        simp only [Bool.and_eq_true, Pk.inB_true] at hO
        unfold Ix.less
        rw [decide_eq_true (by omega)]
        rfl
      rw [this]
  · rw [if_neg hk, if_neg hk, decide_eq_false hk, Bool.false_or]

set_option maxHeartbeats 4000000 in
set_option maxRecDepth 100000 in
theorem specStoreOk_any {N : Nat → Prop} (w : World) (v : Value) (l : List Ix.Pg) (h : Pks N w v l) :
    Calls Tryz.prog 21 #[v] w fun e w' => e = .returned (.bool (Ix.pkgsOk l)) ∧ Below w.heap.size w w' := by
  have H := hide h
  obtain ⟨a, cap, hv⟩ := h.slice
  subst hv
  clear h
  go_enter Tryz.func21, Tryz.ntmps21
  go_wp2_with fail
  refine (l3Pkgs_any _ _ l (unhide H)).mono ?_
  rintro e w1 ⟨rfl, b1⟩
  have B1 := hide b1
  clear b1
  go_wp2
  go_ret
  exact ⟨rfl, unhide B1⟩

set_option maxHeartbeats 4000000 in
set_option maxRecDepth 100000 in
theorem implStoreOk_any {N : Nat → Prop} (w : World) (v : Value) (l : List Ix.Pg) (h : Pks N w v l) :
    Calls Tryz.prog 29 #[v] w fun e w' => e = .returned (.bool (Ix.pkgsOk l)) ∧ Below w.heap.size w w' := by
  obtain ⟨a, cap, rfl, hlen, hrow⟩ := h
  have HA0 := hide (And.intro (heap_alloc_new w (.cells #[.int .i64 0, .int .i64 0, .int .i64 0] 60)) (below1 w (.cells #[.int .i64 0, .int .i64 0, .int .i64 0] 60)))
  go_enter Tryz.func29, Tryz.ntmps29
  go_wp2
  go_loopw [10] (fun i w' => ∃ k : Nat, k ≤ l.length ∧ i = .int .i64 k ∧ Below w.heap.size w w' ∧ w'.heap[w.heap.size]? = some (.cells #[.int .i64 (Ix.ahN l k), .int .i64 (Ix.ahV l k), .int .i64 0] 60 (0, 0)) ∧ ∀ j, j < k → Ix.pkgGood l j = true) (fun i _ => l.length - (intOf i).toNat)
  case atStart => exact ⟨0, Nat.zero_le _, rfl, (unhide HA0).2, (unhide HA0).1, fun j hj => by omega⟩
  case round =>
    obtain ⟨k, hk, rfl, hw, hA, hgood⟩ := hrel
    have HG := hide hgood
    have HW := hide hw
    have HA := hide hA
    clear hgood hw hA
    by_cases hlt : k < l.length
    · obtain ⟨b, off, rfl, hb, _, hc⟩ := hrow (by omega)
      obtain ⟨fv, dv, hAt, hf, hd⟩ := hc k hlt
      clear hc hrow
      obtain ⟨nm, vr, fs, ds, hpk⟩ : ∃ nm vr fs ds, Ix.pg l k = (nm, vr, fs, ds) := ⟨_, _, _, _, rfl⟩
      rw [hpk] at hAt hf hd
      dsimp only at hf hd
      obtain ⟨fa, fc, hfv⟩ := hf.slice
      obtain ⟨da, dc, hdv⟩ := hd.slice
      subst hfv hdv
      obtain ⟨c0, c1, c2, c3⟩ := hAt.keep ((unhide HW).block b hb)
      have hb' : b < wr.heap.size := Nat.lt_of_lt_of_le hb (unhide HW).size
      have hi0 : (0 : Int) ≤ (k : Int) := Int.natCast_nonneg _
      have hi1 : (k : Int) < (l.length : Int) := by omega
      have b1 := below1 wr (.cells #[.int .i64 nm, .int .i64 vr, .slice fa fs.length fc, .slice da ds.length dc] 67)
      have b2 := below1 (wr.alloc (.cells #[.int .i64 nm, .int .i64 vr, .slice fa fs.length fc, .slice da ds.length dc] 67)) (.cells #[.int .i64 nm, .int .i64 vr, .int .i64 0] 60)
      have bb := b1.trans (b2.mono b1.size)
      have HB := hide bb
      have hgl := (Ix.good_ahead l k).trans (by rw [hpk]; rfl : _ = (Pk.pkgOk nm vr fs ds && Ix.less (Ix.ahN l k) (Ix.ahV l k) nm vr))
      have HGL := hide hgl
      have CP := hide (implPkgOk_any ((wr.alloc (.cells #[.int .i64 nm, .int .i64 vr, .slice fa fs.length fc, .slice da ds.length dc] 67)).alloc (.cells #[.int .i64 nm, .int .i64 vr, .int .i64 0] 60)) nm vr _ _ fs ds (hf.prs.later ((unhide HW).trans (bb.mono (unhide HW).size))) (hd.prs.later ((unhide HW).trans (bb.mono (unhide HW).size))))
      have HPK := hide hpk
      have hAh := (bb.block _ (heapLt (unhide HA))).trans (unhide HA)
      have HAH := hide hAh
      have hMh := heap_alloc_new (wr.alloc (.cells #[.int .i64 nm, .int .i64 vr, .slice fa fs.length fc, .slice da ds.length dc] 67)) (.cells #[.int .i64 nm, .int .i64 vr, .int .i64 0] 60)
      have HMH := hide hMh
      have hAlt := heapLt (unhide HA)
      clear hAt hf hd hpk b1 b2 bb hgl hAh hMh
      generalize Ix.ahN l k = an at *
      generalize Ix.ahV l k = av at *
      go_wp2_with fail
      refine (unhide CP).mono ?_
      rintro e w1 ⟨rfl, b1⟩
      have hA1 := (b1.block _ (heapLt (unhide HAH))).trans (unhide HAH)
      have hM1 := (b1.block _ (heapLt (unhide HMH))).trans (unhide HMH)
      have B1 := (unhide HW).trans (((unhide HB).trans (b1.mono (unhide HB).size)).mono (unhide HW).size)
      rw [sz1'] at hM1
      have HA1 := hide hA1
      have HM1 := hide hM1
      have HB1 := hide B1
      cases hOk : Pk.pkgOk nm vr fs ds
      · clear hA1 hM1 B1 b1
        go_wp2
        go_ret
        exact ⟨ret_bool (Ix.pkgsOk_bad hlt (by rw [unhide HGL, hOk]; rfl)).symm, unhide HB1⟩
      obtain ⟨m0, m1, m2⟩ : _ ∧ _ ∧ _ := ⟨cellOf hM1 0, cellOf hM1 1, cellOf hM1 2⟩
      obtain ⟨a0, a1, a2⟩ : _ ∧ _ ∧ _ := ⟨cellOf hA1 0, cellOf hA1 1, cellOf hA1 2⟩
      clear hA1 hM1 B1 b1 CP HAH HMH HB HW HA c0 c1 c2 c3
      go_wp2_with fail
      refine (metaBelow_any _ an av 0 nm vr 0).mono ?_
      rintro e w2 ⟨rfl, b2⟩
      have hA2 := (b2.block _ (heapLt (unhide HA1))).trans (unhide HA1)
      have hM2 := (b2.block _ (heapLt (unhide HM1))).trans (unhide HM1)
      have B2 := (unhide HB1).trans (b2.mono (unhide HB1).size)
      have HA2 := hide hA2
      have HB2 := hide B2
      clear m0 m1 m2 a0 a1 a2
      cases hLs : Ix.less an av nm vr
      · clear hA2 hM2 B2 b2
        go_wp2
        go_ret
        exact ⟨ret_bool (Ix.pkgsOk_bad hlt (by rw [unhide HGL, hOk, hLs]; rfl)).symm, unhide HB2⟩
      obtain ⟨m0, m1, m2⟩ : _ ∧ _ ∧ _ := ⟨cellOf hM2 0, cellOf hM2 1, cellOf hM2 2⟩
      obtain ⟨a0, a1, a2⟩ : _ ∧ _ ∧ _ := ⟨cellOf hA2 0, cellOf hA2 1, cellOf hA2 2⟩
      obtain ⟨f0, f1, f2⟩ : _ ∧ _ ∧ _ := ⟨frozenOf hA2 0, frozenOf hA2 1, frozenOf hA2 2⟩
      clear hA2 hM2 B2 b2 HA1 HM1 HB1
      go_wp2
      go_roundw
      case rel =>
        refine ⟨k + 1, by omega, by go_num, ?_, ?_, ?_⟩
        · exact (((unhide HB2).setCell (Nat.le_refl _) _).setCell (Nat.le_refl _) _).setCell (Nat.le_refl _) _
        · rw [heapSet (heapSet (heapSet (unhide HA2))), Ix.ahN_succ, Ix.ahV_succ, unhide HPK]
          rfl
        · intro j hj
          rcases Nat.lt_or_ge j k with h | h
          · exact unhide HG j h
          · obtain rfl : j = k := by omega
            rw [unhide HGL, hOk, hLs]
            rfl
      case measure => simp [intOf]; omega
    · obtain rfl : k = l.length := by omega
      clear hlt
      go_wp2
      go_ret
      exact ⟨ret_bool (Ix.pkgsOk_good (unhide HG)).symm, unhide HW⟩
end Go.Proofs.YtlnieobmhofkdaaGreat
