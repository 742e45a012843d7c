/- What spec's l71Keys returns: a row of its own of seven small numbers at most; the reader goes on. -/
import Derived.Test.YtkgeekjclcpbpaaPickW
import Derived.Test.YtkgeekjclcpbpaaKeyW
import Derived.Laws.MakeOwn
import Derived.Maps.AppendAt
import Derived.Deep.RegionLaw
namespace Go.Proofs.Ytkgeekjclcpbpaa
open Go.RowKit

/-- A row of numbers of one's own. -/
def OwnI (B : Nat) (w : World) (v : Value) (l : List Int) : Prop := w.ownsRow B 3 1 v l.length (l.map (Value.int .i64))

theorem OwnI.form {B : Nat} {w : World} {v : Value} {l : List Int} (h : OwnI B w v l) : ∃ a cap, v = .slice a l.length cap := by
  rcases h.2 with ⟨hv, hn⟩ | ⟨g, cap, cur, hv, _⟩
  · exact ⟨none, 0, by rw [hv, hn]⟩
  · exact ⟨_, cap, hv⟩
theorem OwnI.ins {B : Nat} {w : World} {v : Value} {l : List Int} (h : OwnI B w v l) (hl : l.length ≤ 1000000) : Ins w v l := by
  rcases h.2 with ⟨hv, hn⟩ | ⟨g, cap, cur, hv, hb, hg, hc, hm, hs, ht⟩
  · exact ⟨none, 0, by rw [hv, hn], by omega, fun hp => by omega⟩
  · refine ⟨some ⟨g, 0, none⟩, cap, hv, by omega, fun _ => ⟨g, 0, rfl, heapLt hg, fun i hi => ?_⟩⟩
    rw [Nat.zero_add, cellOf hg]
    have hu : (l.map (Value.int .i64))[i]? = some (.int .i64 (Ky.nth l i)) := by rw [List.getElem?_map, List.getElem?_eq_getElem hi, Ky.nth_get l i hi]; rfl
    rw [← ht, List.getElem?_take] at hu
    split at hu
    · simpa using hu
    · cases hu
theorem OwnI.keep {B : Nat} {w w' : World} {v : Value} {l : List Int} (h : OwnI B w v l) (hb : ∀ g cur, v.ownBlock = some g → B ≤ g → w.heap[g]? = some (.cells cur 3 (0, 0)) → w'.heap[g]? = w.heap[g]?) : OwnI B w' v l := by
  refine ⟨h.1, ?_⟩
  rcases h.2 with hn | ⟨g, cap, cur, rfl, hb1, hgg, rest⟩
  · exact .inl hn
  · exact .inr ⟨g, cap, cur, rfl, hb1, by rw [hb g cur rfl hb1 hgg]; exact hgg, rest⟩
theorem OwnI.later {B : Nat} {w w' : World} {v : Value} {l : List Int} (h : OwnI B w v l) (hb : Below w.heap.size w w') : OwnI B w' v l := h.keep (fun g _ _ _ hg => hb.block g (heapLt hg))
theorem OwnI.empty (w : World) : OwnI w.heap.size (w.alloc (.cells #[] 3)) (.slice (some ⟨w.heap.size, 0, none⟩) 0 0) [] :=
  ⟨rfl, .inr ⟨w.heap.size, 0, #[], rfl, Nat.le_refl _, heap_alloc_new w _, Nat.le_refl _, by unfold maxLen; omega, rfl, rfl⟩⟩
theorem OwnI.mono {B B' : Nat} {w : World} {v : Value} {l : List Int} (h : OwnI B w v l) (hB : B' ≤ B) : OwnI B' w v l := by
  refine ⟨h.1, ?_⟩
  rcases h.2 with hn | ⟨g, cap, cur, rfl, hb1, rest⟩
  · exact .inl hn
  · exact .inr ⟨g, cap, cur, rfl, Nat.le_trans hB hb1, rest⟩

/-- The state in which keys are drawn. -/
structure KSt (B : Nat) (W : World) (blk : Nat) (w : World) (v : Value) (l : List Int) (p : Nat) : Prop where
  rd : Rd B w blk p
  lB : B ≤ W.heap.size
  lt : blk < W.heap.size
  kp : Kp W.heap.size blk W w
  own : OwnI W.heap.size w v l

variable {B : Nat} {W w w' : World} {blk : Nat} {v : Value} {l : List Int} {p p' : Nat}
theorem KSt.keep (h : KSt B W blk w v l p) (hk : Kp w.heap.size blk w w') (hr : Rd B w' blk p') : KSt B W blk w' v l p' := by
  have hlt := h.lt
  exact ⟨hr, h.lB, h.lt, h.kp.trans hk h.kp.size, h.own.keep (fun g _ _ hB hg => hk.block g (heapLt hg) (by omega))⟩
theorem KSt.alloc (h : KSt B W blk w v l p) (o : Obj) : KSt B W blk (w.alloc o) v l p :=
  h.keep (Kp.of_below ((Below.refl _ _).alloc (Nat.le_refl _) o)) (h.rd.later (Nat.le_trans h.lB h.kp.size) ((Below.refl _ _).alloc (Nat.le_refl _) o))
theorem KSt.drew (h : KSt B W blk w v l p) : KSt B W blk w.drew v l p :=
  h.keep ⟨rfl, rfl, rfl, Nat.le_refl _, fun _ _ _ => rfl⟩ (h.rd.later (Nat.le_trans h.lB h.kp.size) ((Below.refl _ _).drew))
theorem KSt.app {x : Int} {v' : Value} (h : KSt B W blk w v l p) (hg : w.grownBy w' v.ownBlock) (ho : w'.ownsRow W.heap.size 3 1 v' (l.length + 1) (l.map (Value.int .i64) ++ [.int .i64 x])) : KSt B W blk w' v' (l ++ [x]) p := by
  have hlt := h.lt
  have lB := h.lB
  have row : ∀ k, v.ownBlock = some k → W.heap.size ≤ k := by
    intro k hk
    rcases h.own.2 with ⟨rfl, _⟩ | ⟨g', cap', cur, rfl, hb, hgg, _⟩
    · cases hk
    · simp only [Value.ownBlock, Option.some.injEq] at hk
      omega
  have old : ∀ k, k < W.heap.size → w'.heap[k]? = w.heap[k]? := fun k hk => hg.block k (Nat.lt_of_lt_of_le hk h.kp.size) (fun e => by
    have := row k e.symm
    omega)
  refine ⟨h.rd.keep (fun k hk _ => old k (by omega)) (old blk hlt), lB, hlt, ?_, ?_⟩
  · exact ⟨hg.os.trans h.kp.os, hg.tape.trans h.kp.tape, hg.output.trans h.kp.output, Nat.le_trans h.kp.size hg.size, fun k hk hne => (old k hk).trans (h.kp.block k hk hne)⟩
  · unfold OwnI
    rw [List.length_append, List.map_append]
    exact ho

set_option maxHeartbeats 2000000 in
set_option maxRecDepth 100000 in
theorem l71Keys_any {B : Nat} (w : World) (blk p : Nat) (h : Rd B w blk p) (hB : B ≤ w.heap.size) (hp : p ≤ 900000000) :
    Calls Try.prog 45 #[.pointer (some ⟨blk, 0, none⟩)] w fun e w' => ∃ v l p', e = .returned v ∧ l.length ≤ 7 ∧ (∀ x ∈ l, 0 ≤ x ∧ x ≤ 7) ∧ p' ≤ p + 8 ∧ KSt B w blk w' v l p' := by
  obtain ⟨i0, hi0, hz0, hz1, hz2⟩ := info_parts infoI
  have hst : KSt B w blk (w.alloc (.cells #[] 3)) (.slice (some ⟨w.heap.size, 0, none⟩) 0 0) [] p := ⟨h.later hB ((Below.refl _ _).alloc (Nat.le_refl _) _), hB, h.lt, Kp.of_below ((Below.refl _ _).alloc (Nat.le_refl _) _), OwnI.empty w⟩
  have HST := hide hst
  clear hst h
  go_enter Try.func45, Try.ntmps45
  go_wp2_with fail
  go_loopw [3, 4] (fun v i w' => ∃ (k : Nat) (l : List Int) (q : Nat), i = .int .i64 (k + 1) ∧ k ≤ 6 ∧ l.length ≤ k ∧ (∀ x ∈ l, 0 ≤ x ∧ x ≤ 7) ∧ q ≤ p + k ∧ KSt B w blk w' v l q) (fun _ i _ => (8 - intOf i).toNat)
  case atStart => exact ⟨0, [], p, rfl, by omega, by simp, by simp, by omega, unhide HST⟩
  case round =>
    clear HST
    obtain ⟨k, l, q, rfl, hk, hl, hx, hq, hs⟩ := hrel
    have HS := hide hs
    have HX := hide hx
    obtain ⟨va, vc, hv⟩ := hs.own.form
    subst hv
    clear hs hx
    by_cases hlt : k < 6
    · have hlt' : (k : Int) + 1 ≤ 6 := by omega
      go_wp2_with fail
      refine (pick_any _ blk q 2 (unhide HS).rd (by omega) (by omega) (by omega)).mono ?_
      rintro e w1 ⟨v1, rfl, v10, v11, hr1, hk1⟩
      have HS1 := hide ((unhide HS).keep hk1 hr1)
      clear HS hr1 hk1
      by_cases hv : v1 = 0
      · subst hv
        have hsz := (unhide HS1).kp.size
        go_wp2_with (first
          | (at_builtin; refine wpList_append_own _ rfl _ _ 23 rfl w.heap.size 3 i0 (.int .i64 0) 1 8 Try.underlying23 hi0 hz0 hz1 hz2 rfl (by decide) _ l.length (l.map (Value.int .i64)) rfl ((unhide HS1).alloc _).own ⟨w1.heap.size, 0, none⟩ 1 1 [.int .i64 ((k : Int) + 1)] rfl rfl (cell_one_new _ _ _) (ints_oneCell .i64 [(k : Int) + 1]) (by unfold maxLen; omega) (by omega) (by simp; omega) ?_; intro v' w2 hown' hgrow2 hnil2)
          | go_in)
        have HS2 := hide (((unhide HS1).alloc _).app hgrow2 hown')
        clear hown' hgrow2 hnil2 HS1
        go_roundw
        case rel => exact ⟨k + 1, l ++ [(k : Int) + 1], q + 1, by go_num, by omega, by rw [List.length_append]; simp only [List.length_cons, List.length_nil]; omega, fun x hx => by
          rcases List.mem_append.1 hx with h | h
          · exact unhide HX x h
          · simp only [List.mem_singleton] at h
            omega, by omega, unhide HS2⟩
        case measure => simp [intOf]; omega
      · have hvb : (v1 == 0) = false := by simp [hv]
        go_wp2
        go_roundw
        case rel => exact ⟨k + 1, l, q + 1, by go_num, by omega, by omega, unhide HX, by omega, unhide HS1⟩
        case measure => simp [intOf]; omega
    · obtain rfl : k = 6 := by omega
      go_wp2_with fail
      refine (pick_any _ blk q 16 (unhide HS).rd (by omega) (by omega) (by omega)).mono ?_
      rintro e w1 ⟨v1, rfl, v10, v11, hr1, hk1⟩
      have HS1 := hide ((unhide HS).keep hk1 hr1)
      clear HS hr1 hk1
      by_cases hv : v1 = 0
      · subst hv
        go_wp2_with fail
        refine (pick_any _ blk (q + 1) 3 ((unhide HS1).alloc _).rd (by omega) (by omega) (by omega)).mono ?_
        have n0 : (w1.alloc (.cells #[.int .i64 0, .int .i64 7, .int .i64 1] 3)).heap[w1.heap.size]? = some (.cells #[.int .i64 0, .int .i64 7, .int .i64 1] 3 (0, 0)) := heap_alloc_new _ _
        have hge := (unhide HS1).kp.size
        have hbl := (unhide HS1).lt
        have HS2 := hide ((unhide HS1).alloc (.cells #[.int .i64 0, .int .i64 7, .int .i64 1] 3))
        clear HS1
        generalize w1.alloc _ = W1 at *
        rintro e w2 ⟨v2, rfl, v20, v21, hr2, hk2⟩
        have n1 := hk2.block _ (heapLt n0) (by omega)
        rw [n0] at n1
        have HS3 := hide ((unhide HS2).keep hk2 hr2)
        have c0 : w2.cell? ⟨w1.heap.size, 0, none⟩ = _ := cellOf n1 0
        have c1 : w2.cell? ⟨w1.heap.size, 1, none⟩ = _ := cellOf n1 1
        have c2 : w2.cell? ⟨w1.heap.size, 2, none⟩ = _ := cellOf n1 2
        have hsz := (unhide HS3).kp.size
        clear HS2 hr2 hk2 n0 n1
        clear W1
        obtain ⟨x, hx0, hx7, hcase⟩ : ∃ x : Int, 0 ≤ x ∧ x ≤ 7 ∧ ((v2 = 0 ∧ x = 0) ∨ (v2 = 1 ∧ x = 7) ∨ (v2 = 2 ∧ x = 1)) := by
          have : v2 = 0 ∨ v2 = 1 ∨ v2 = 2 := by omega
          rcases this with h | h | h
          · exact ⟨0, by omega, by omega, .inl ⟨h, rfl⟩⟩
          · exact ⟨7, by omega, by omega, .inr (.inl ⟨h, rfl⟩)⟩
          · exact ⟨1, by omega, by omega, .inr (.inr ⟨h, rfl⟩)⟩
        rcases hcase with ⟨rfl, rfl⟩ | ⟨rfl, rfl⟩ | ⟨rfl, rfl⟩
        all_goals
          go_wp2_with (first
            | (at_builtin; refine wpList_append_own _ rfl _ _ 23 rfl w.heap.size 3 i0 (.int .i64 0) 1 8 Try.underlying23 hi0 hz0 hz1 hz2 rfl (by decide) _ l.length (l.map (Value.int .i64)) rfl ((unhide HS3).alloc _).own ⟨w2.heap.size, 0, none⟩ 1 1 [.int .i64 _] rfl rfl (cell_one_new _ _ _) (ints_oneCell .i64 [_]) (by unfold maxLen; omega) (by omega) (by simp; omega) ?_; intro v' w3 hown' hgrow3 hnil3)
            | go_in)
          have HS4 := hide (((unhide HS3).alloc _).app hgrow3 hown')
          clear hown' hgrow3 hnil3 HS3
          go_ret
          exact ⟨_, l ++ [_], q + 1 + 1, rfl, by rw [List.length_append]; simp only [List.length_cons, List.length_nil]; omega, fun x hx => by
            rcases List.mem_append.1 hx with h | h
            · exact unhide HX x h
            · simp only [List.mem_singleton] at h
              omega, by omega, unhide HS4⟩
      · have hvb : (v1 == 0) = false := by simp [hv]
        go_wp2
        go_ret
        exact ⟨_, l, q + 1, rfl, by omega, unhide HX, by omega, unhide HS1⟩
end Go.Proofs.Ytkgeekjclcpbpaa
