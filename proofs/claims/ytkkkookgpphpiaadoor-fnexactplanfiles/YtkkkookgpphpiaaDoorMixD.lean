import Derived.Test.YtkkkookgpphpiaaDoorPkgTextW
import Derived.Test.YtkkkookgpphpiaaDoorShelf
import Derived.Test.YtkkkookgpphpiaaDoorMixB
import Derived.Test.YtkkkookgpphpiaaDoorMathW
/- What impl.spellNamed writes: a name as a letter, and a version; strconv.Itoa of one figure. -/
namespace Go.Proofs.YtkkkookgpphpiaaDoor
open Go.RowKit

attribute [local go_sem ↓] Go.wp_at_zero Go.wp_at_succ

theorem itoa_any (n : Int) (w : World) (h0 : 0 ≤ n) (h1 : n ≤ 9) : Calls Tryd.prog 80 #[.int .i64 n] w fun e w' => e = .returned (.string ⟨#[Pk.b8 (48 + n)]⟩) ∧ w' = w := by
  obtain ⟨i, rfl⟩ := Int.eq_ofNat_of_zero_le h0
  have hi : i < 10 := by omega
  have e : Lib.decDigits i = [Pk.b8 (48 + (i : Int))] := by
    rw [Lib.decDigits, dif_pos hi]
    unfold Pk.b8
    rw [show (48 + (i : Int)).toNat = 48 + i from by omega]
  refine (Tryd.strconv_Itoa_small i (by omega) w).mono fun e' w' ⟨h1, h2⟩ => ⟨?_, h2⟩
  rw [h1, e]

theorem enc_letter (nm : Int) (h0 : 1 ≤ nm) (h1 : nm ≤ 4) : Utf8.encode (97 + nm - 1) = ⟨#[Pk.b8 (96 + nm)]⟩ := by
  have h : nm = 1 ∨ nm = 2 ∨ nm = 3 ∨ nm = 4 := by omega
  rcases h with rfl | rfl | rfl | rfl <;> decide

set_option maxHeartbeats 1000000 in
set_option maxRecDepth 100000 in
theorem spellNamed_any (nm vr : Int) (w : World) (h0 : 1 ≤ nm) (h1 : nm ≤ 4) (h2 : 0 ≤ vr) (h3 : vr ≤ 9) : Calls Tryd.prog 77 #[.int .i64 nm, .int .i64 vr] w fun e w' => e = .returned (.string ⟨(Pk.nameT nm vr).toArray⟩) ∧ w' = w := by
  have henc := enc_letter nm h0 h1
  have hsz : ¬ 9223372036854775807 < (1 + 1 : Nat) := by omega
  go_enter Tryd.func77, Tryd.ntmps77
  go_wp2_with (go_at_call 80; refine (itoa_any _ _ h2 h3).mono ?_; rintro e w' ⟨rfl, rfl⟩)
  go_ret
  exact ⟨ret_str (app_data [Pk.b8 (96 + nm)] [Pk.b8 (48 + vr)]), rfl⟩
end Go.Proofs.YtkkkookgpphpiaaDoor

/- What impl.between returns: whether a number lies between two. -/
namespace Go.Proofs.YtkkkookgpphpiaaDoor
open Go.RowKit

theorem between_any (n lo hi : Int) (w : World) : Calls Tryd.prog 71 #[.int .i64 n, .int .i64 lo, .int .i64 hi] w fun e w' => e = .returned (.bool (Pk.inB n lo hi)) ∧ w' = w := by
  by_cases h1 : lo ≤ n
  · go_enter Tryd.func71, Tryd.ntmps71
    go_wp2
    go_ret
    exact ⟨by simp [Pk.inB, h1], rfl⟩
  · have h2 : decide (lo ≤ n) = false := by simpa using h1
    go_enter Tryd.func71, Tryd.ntmps71
    go_wp2
    go_ret
    exact ⟨by simp [Pk.inB, h2], rfl⟩
end Go.Proofs.YtkkkookgpphpiaaDoor

/- What spec.KeysOk, impl.KeysOk and spec.l2Both return: whether keys are ok; how many are among both; for every row of numbers; nothing old is written. -/
namespace Go.Proofs.YtkkkookgpphpiaaDoor
open Go.RowKit

theorem infoI : (Tryd.prog.info? 3).map (fun i => (i.zero, i.size, i.bytes)) = some (some (.int .i64 0), 1, 8) := by kernel_rfl

/-- A slice of ints that can be read. -/
def Ins (w : World) (v : Value) (l : List Int) : Prop :=
  ∃ a cap, v = .slice a l.length cap ∧ l.length ≤ 1000000000000 ∧ (0 < l.length → ∃ b off, a = some ⟨b, off, none⟩ ∧ b < w.heap.size ∧ ∀ i, i < l.length → w.cell? ⟨b, off + i, none⟩ = some (.int .i64 (Ky.nth l i)))

theorem Ins.later {w w' : World} {v : Value} {l : List Int} (h : Ins w v l) (hb : Below w.heap.size w w') : Ins w' v l := by
  obtain ⟨a, cap, hv, hl, hr⟩ := h
  refine ⟨a, cap, hv, hl, fun hp => ?_⟩
  obtain ⟨b, off, ha, hbs, hc⟩ := hr hp
  exact ⟨b, off, ha, Nat.lt_of_lt_of_le hbs hb.size, fun i hi => by rw [hb.cell hbs]; exact hc i hi⟩
theorem Ins.slice {w : World} {v : Value} {l : List Int} (h : Ins w v l) : ∃ a cap, v = .slice a l.length cap := by
  obtain ⟨a, cap, hv, _⟩ := h
  exact ⟨a, cap, hv⟩
theorem Ins.nil (w : World) : Ins w (.slice none 0 0) [] := ⟨none, 0, rfl, by simp, fun h => by simp at h⟩
theorem Ins.drewN {w : World} {v : Value} {l : List Int} (h : Ins w v l) (q : Nat) : Ins (w.drewN q) v l := h
theorem Ins.drew {w : World} {v : Value} {l : List Int} (h : Ins w v l) : Ins w.drew v l := h



end Go.Proofs.YtkkkookgpphpiaaDoor
