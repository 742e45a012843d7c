/- What strconv.Itoa returns of the numbers that an index has; of those past 99 where the library's table lies. -/
import Derived.Test.YtnoghnkhfgiloaaDoorNamedW
import Derived.Test.YtnoghnkhfgiloaaDoorIdxTextMath
import Derived.Lib.AppendIntMem
namespace Go.Proofs.YtnoghnkhfgiloaaDoor
open Go.RowKit

theorem dec_lib : ∀ n : Nat, Lib.decDigits n = Ix.dec n := by
  intro n
  induction n using Nat.strongRecOn with
  | _ n ih =>
    by_cases h : n < 10
    · rw [Lib.decDigits, dif_pos h, Ix.dec_small h]
      unfold Pk.b8
      rw [show (48 + (n : Int)).toNat = 48 + n from by omega]
    · rw [Lib.decDigits, dif_neg h, Ix.dec_more h, ih (n / 10) (by omega)]
      unfold Pk.b8
      rw [show (48 + ((n % 10 : Nat) : Int)).toNat = 48 + n % 10 from by omega]
/-- The library's table lies. -/
def Tab (w : World) : Prop := Lib.TabIs Tryd.prog w "internal/strconv.uint64pow10" .u64 Lib.pow10Tab
theorem gTab : Tryd.prog.globalNamed "internal/strconv.uint64pow10" = some 1 := by kernel_rfl
theorem Tab.later {w w' : World} (h : Tab w) (bel : Below w.heap.size w w') : Tab w' := by
  unfold Tab Lib.TabIs World.var? at h ⊢
  simp only [gTab, Option.bind_some] at h ⊢
  have hlt : 1 < w.heap.size := by
    rcases Nat.lt_or_ge 1 w.heap.size with h' | h'
    · exact h'
    · simp [Array.getElem?_eq_none h'] at h
  rw [bel.block _ hlt]
  exact h
theorem itoa2_any (n : Int) (h0 : 0 ≤ n) (h1 : n < 100) (w : World) : Calls Tryd.prog 21 #[.int .i64 n] w fun e w' => e = .returned (.string ⟨(Ix.dec n.toNat).toArray⟩) ∧ w' = w := by
  obtain ⟨i, rfl⟩ := Int.eq_ofNat_of_zero_le h0
  refine (Tryd.strconv_Itoa_small i (by omega) w).mono fun e' w' ⟨h1, h2⟩ => ⟨?_, h2⟩
  rw [h1, dec_lib]; rfl
theorem itoaT_any (n : Int) (h0 : 0 ≤ n) (h1 : n < 1000000) (w : World) (hT : Tab w) : Calls Tryd.prog 21 #[.int .i64 n] w fun e w' => e = .returned (.string ⟨(Ix.dec n.toNat).toArray⟩) ∧ Below w.heap.size w w' := by
  refine (Tryd.strconv_Itoa n (by omega) (by omega) w hT).mono fun e' w' ⟨h1, k, os, h2⟩ => ⟨?_, ?_⟩
  · rw [h1, Lib.itoa, if_neg (by omega), dec_lib]
  · rw [h2]; exact Lib.below_grow _ _ (Nat.le_refl _) _ _
end Go.Proofs.YtnoghnkhfgiloaaDoor
