import Derived.Test.YtlnieobmhofkdaaGreatNewestMath2
import Derived.Test.YtlnieobmhofkdaaGreatMathW
import Derived.Test.YtlnieobmhofkdaaGreatMix0
import Derived.Test.YtlnieobmhofkdaaGreatBoxW
import Derived.Test.YtlnieobmhofkdaaGreatMix9
import Derived.Test.YtlnieobmhofkdaaGreatPkgTextW
import Derived.Deep.AppendLies
import Derived.Deep.DrawnRows
/- Packages in order, as plain data: one more in its place keeps the order. -/
namespace Go.Proofs.YtlnieobmhofkdaaGreat.Ix
open Pk

theorem pg_get {l : List Pg} {i : Nat} (hi : i < l.length) : pg l i = l[i] := by
  unfold pg
  rw [List.getD_eq_getElem?_getD, List.getElem?_eq_getElem hi]
  rfl
theorem ahead_trans {a b c : Pg} (h1 : ahead a b = true) (h2 : ahead b c = true) : ahead a c = true := by
  unfold ahead less at *
  simp only [Bool.or_eq_true, Bool.and_eq_true, decide_eq_true_eq] at *
  omega
theorem pkgsOk_pair {l : List Pg} : pkgsOk l = true ↔ (∀ x ∈ l, pOk x = true) ∧ l.Pairwise (fun x y => ahead x y = true) := by
  constructor
  · intro h
    refine ⟨fun x hx => ?_, ?_⟩
    · obtain ⟨i, hi, e⟩ := List.getElem_of_mem hx
      have := pkgs_pOk h hi
      rw [pg_get hi, e] at this
      exact this
    · rw [List.pairwise_iff_getElem]
      intro i j hi hj hij
      have := pkgs_lt h hij hj
      rw [pg_get hi, pg_get hj] at this
      exact this
  · rintro ⟨h1, h2⟩
    rw [List.pairwise_iff_getElem] at h2
    refine pkgsOk_good (fun i hi => ?_)
    unfold pkgGood
    rw [h1 _ (pg_mem hi), Bool.true_and]
    rcases Nat.eq_zero_or_pos i with h0 | h0
    · rw [decide_eq_true h0, Bool.true_or]
    · have := h2 (i - 1) i (by omega) hi (by omega)
      rw [pg_get hi, pg_get (show i - 1 < l.length by omega)]
      rw [Bool.or_eq_true]
      exact .inr this
theorem wth_ok {l : List Pg} {p : Pg} (h : pkgsOk l = true) (hp : pOk p = true) : pkgsOk (wth l p) = true := by
  rw [pkgsOk_pair] at h ⊢
  obtain ⟨h1, h2⟩ := h
  unfold wth
  refine ⟨fun x hx => ?_, ?_⟩
  · rw [List.mem_append, List.mem_append, List.mem_filter, List.mem_filter, List.mem_singleton] at hx
    rcases hx with (hx | hx) | hx
    · exact h1 x hx.1
    · rw [hx]; exact hp
    · exact h1 x hx.1
  · rw [List.pairwise_append, List.pairwise_append]
    refine ⟨⟨h2.filter _, List.pairwise_singleton _ _, fun a ha b hb => ?_⟩, h2.filter _, fun a ha b hb => ?_⟩
    · rw [List.mem_singleton] at hb
      rw [hb]
      exact (List.mem_filter.1 ha).2
    · have hb2 : ahead p b = true := (List.mem_filter.1 hb).2
      rw [List.mem_append, List.mem_singleton] at ha
      rcases ha with ha | ha
      · exact ahead_trans (List.mem_filter.1 ha).2 hb2
      · rw [ha]; exact hb2
end Go.Proofs.YtlnieobmhofkdaaGreat.Ix

/- Whether among packages there is one of which a meta tells, as data. -/
namespace Go.Proofs.YtlnieobmhofkdaaGreat
def metIn (l : List Ix.Pg) (m : Ix.M) : Bool := l.any (fun p => decide (Ix.metaP p = m))
end Go.Proofs.YtlnieobmhofkdaaGreat

/- What impl.SumOf and spec.SumOf return: the sum of the text, byte by byte; for every text; nothing is written. -/
namespace Go.Proofs.YtlnieobmhofkdaaGreat
open Go.RowKit

set_option maxHeartbeats 400000 in
theorem implSum_any (s : ByteArray) (w : World) (hs : s.size ≤ maxLen) :
    Calls Tryz.prog 85 #[.string s] w fun e w' => e = .returned (.int .i64 (Sm.sum s.data.toList)) ∧ w' = w := by
  unfold maxLen at hs
  go_enter Tryz.func85, Tryz.ntmps85
  go_wp2
  go_loop [3, 4] (fun n i => ∃ k : Nat, k ≤ s.size ∧ i = .int .i64 k ∧ n = .int .i64 (Sm.sum (s.data.toList.take k))) (fun _ i => s.size - (intOf i).toNat)
  case atStart => exact ⟨0, Nat.zero_le _, rfl, rfl⟩
  case round =>
    obtain ⟨k, hk, rfl, rfl⟩ := hrel
    obtain ⟨hd0, hd1⟩ := Sm.sum_bd (s.data.toList.take k)
    by_cases hlt : k < s.size
    · have hb : s[k].toNat < 256 := s[k].toNat_lt
      have HS : Hid (Sm.sum (s.data.toList.take (k + 1)) = (31 * Sm.sum (s.data.toList.take k) + (s[k].toNat : Int) + 1) % 9973) := Sm.sum_take s k hlt
      generalize Sm.sum (s.data.toList.take k) = z at *
      go_wp2
      go_round
      case rel => exact ⟨k + 1, by omega, by go_num, by rw [HS.out]⟩
      case measure => simp [intOf]; omega
    · go_wp2
      go_ret
      exact ⟨ret_int (by rw [List.take_of_length_le (by simp; omega)]), rfl⟩

set_option maxHeartbeats 400000 in
theorem specSum_any (s : ByteArray) (w : World) (hs : s.size ≤ maxLen) :
    Calls Tryz.prog 23 #[.string s] w fun e w' => e = .returned (.int .i64 (Sm.sum s.data.toList)) ∧ w' = w := by
  unfold maxLen at hs
  go_enter Tryz.func23, Tryz.ntmps23
  go_wp2
  go_loop [3, 4] (fun n i => ∃ k : Nat, k ≤ s.size ∧ i = .int .i64 k ∧ n = .int .i64 (Sm.sum (s.data.toList.take k))) (fun _ i => s.size - (intOf i).toNat)
  case atStart => exact ⟨0, Nat.zero_le _, rfl, rfl⟩
  case round =>
    obtain ⟨k, hk, rfl, rfl⟩ := hrel
    obtain ⟨hd0, hd1⟩ := Sm.sum_bd (s.data.toList.take k)
    by_cases hlt : k < s.size
    · have hb : s[k].toNat < 256 := s[k].toNat_lt
      have HS : Hid (Sm.sum (s.data.toList.take (k + 1)) = (31 * Sm.sum (s.data.toList.take k) + (s[k].toNat : Int) + 1) % 9973) := Sm.sum_take s k hlt
      generalize Sm.sum (s.data.toList.take k) = z at *
      go_wp2
      go_round
      case rel => exact ⟨k + 1, by omega, by go_num, by rw [HS.out]⟩
      case measure => simp [intOf]; omega
    · go_wp2
      go_ret
      exact ⟨ret_int (by rw [List.take_of_length_le (by simp; omega)]), rfl⟩
end Go.Proofs.YtlnieobmhofkdaaGreat

/- What spec.IndexOf returns: an index of packages, its row the call's own; for every row of packages. -/
namespace Go.Proofs.YtlnieobmhofkdaaGreat
open Go.RowKit

attribute [local go_sem ↓] Go.wp_at_zero Go.wp_at_succ

theorem Pk.text_len (nm vr : Int) (fs ds : List (Int × Int)) : (Pk.text nm vr fs ds).length ≤ 30 := by
  unfold Pk.text
  split
  · rename_i h
    unfold Pk.pkgOk at h
    rw [Bool.and_eq_true, Bool.and_eq_true] at h
    have h1 := (Pk.filesOk_get h.1.2).1
    have h2 := (Pk.depsOk_get h.2).1
    unfold Pk.textOk
    rw [List.length_append, List.length_append, flat_len Pk.fileT 4 (fun _ => rfl), flat_len Pk.depT 3 (fun _ => rfl)]
    have : (Pk.nameT nm vr).length = 2 := rfl
    omega
  · exact Nat.zero_le _

/-- What IndexOf tells, as data. -/
def Ix.ofD (num til : Int) (l : List Ix.Pg) : Int × Int × List Ix.M := if Ix.ofOk num til l = true then (num, til, l.map Ix.metaP) else (0, 0, [])

structure Xs (W w : World) (X R : Nat) (num til : Int) (mv : Value) (ms : List Ix.M) : Prop where
  hX : w.heap[X]? = some (.cells #[.int .i64 num, .int .i64 til, mv] 37 (0, 0))
  hR : w.heap[R]? = some (.cells #[.int .i64 0, .int .i64 0, .slice none 0 0] 37 (0, 0))
  lX : W.heap.size ≤ X
  lR : W.heap.size ≤ R
  ne : R ≠ X
  own : w.ownsRow W.heap.size 60 3 mv ms.length (flat3 ms)
  bel : Below W.heap.size W w
section
variable {W w w' : World} {X R : Nat} {num til : Int} {mv : Value} {ms : List Ix.M}
theorem Xs.later (h : Xs W w X R num til mv ms) (hb : Below w.heap.size w w') : Xs W w' X R num til mv ms :=
  ⟨(hb.block X (heapLt h.hX)).trans h.hX, (hb.block R (heapLt h.hR)).trans h.hR, h.lX, h.lR, h.ne, own_later h.own hb, h.bel.trans (hb.mono h.bel.size)⟩
theorem Xs.drew (h : Xs W w X R num til mv ms) : Xs W w.drew X R num til mv ms := h.later (below_drew w)
theorem Xs.alloc (h : Xs W w X R num til mv ms) (o : Obj) : Xs W (w.alloc o) X R num til mv ms := h.later (below1 w o)
theorem Xs.app {w2 : World} {g cap : Nat} {x : Ix.M} (h : Xs W w X R num til mv ms) (hg : w.grownBy w2 mv.ownBlock)
    (ho : w2.ownsRow W.heap.size 60 3 (.slice (some ⟨g, 0, none⟩) (ms.length + 1) cap) (ms.length + 1) (flat3 ms ++ [.int .i64 x.1, .int .i64 x.2.1, .int .i64 x.2.2])) :
    Xs W (w2.setCell ⟨X, 2, none⟩ (.slice (some ⟨g, 0, none⟩) (ms.length + 1) cap)) X R num til (.slice (some ⟨g, 0, none⟩) (ms.length + 1) cap) (ms ++ [x]) := by
  have hX2 := (grown_other h.own hg h.hX (by decide)).trans h.hX
  have hR2 := (grown_other h.own hg h.hR (by decide)).trans h.hR
  refine ⟨by rw [heapSet hX2]; rfl, by rw [Below.heap_setCell _ _ _ _ h.ne]; exact hR2, h.lX, h.lR, h.ne, ?_, below_set (grown_below h.own hg h.bel h.bel.size) h.lX⟩
  rw [flat3_snoc, List.length_append]
  exact own_set ho hX2 (by decide)
theorem Xs.start (w : World) (num til : Int) : Xs w (((w.alloc (.cells #[.int .i64 0, .int .i64 0, .slice none 0 0] 37)).alloc (.cells #[] 60)).alloc (.cells #[.int .i64 num, .int .i64 til, .slice (some ⟨w.heap.size + 1, 0, none⟩) 0 0] 37)) (w.heap.size + 1 + 1) w.heap.size num til (.slice (some ⟨w.heap.size + 1, 0, none⟩) 0 0) [] := by
  have b3 : ∀ o1 o2 o3 : Obj, Below w.heap.size w (((w.alloc o1).alloc o2).alloc o3) := fun o1 o2 o3 =>
    (((Below.refl _ _).alloc (Nat.le_refl _) _).alloc (by rw [sz1]; omega) _).alloc (by rw [sz1, sz1]; omega) _
  refine ⟨?_, ?_, by omega, Nat.le_refl _, by omega, ⟨rfl, .inr ⟨w.heap.size + 1, 0, #[], rfl, by omega, ?_, by exact Nat.le_refl _, by unfold maxLen; omega, rfl, rfl⟩⟩, b3 _ _ _⟩
  · rw [at_new _ _ _ (by rw [sz1, sz1])]
  · rw [at_old _ _ _ (by rw [sz1, sz1]; omega), at_old _ _ _ (by rw [sz1]; omega), at_new _ _ _ rfl]
  · rw [at_old _ _ _ (by rw [sz1, sz1]; omega), at_new _ _ _ (by rw [sz1])]
end

end Go.Proofs.YtlnieobmhofkdaaGreat
