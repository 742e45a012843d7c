import Derived.Test.YtoccijcngncghaaDoorCopyIW
import Derived.Test.YtoccijcngncghaaDoorBoxW
import Derived.Test.YtoccijcngncghaaDoorMix2
import Derived.Test.YtoccijcngncghaaDoorShelf
import Derived.Laws.CopyRow
import Derived.Test.YtoccijcngncghaaDoorPkgTextW
import Derived.Deep.CutRange
/- What slices.Repeat returns of one number, six times: a row of its own. -/
namespace Go.Proofs.YtoccijcngncghaaDoor
open Go.RowKit

attribute [local go_sem ↓] Go.wp_at_zero Go.wp_at_succ

section
variable {P : Program}
theorem wp_copy_row (w : World) {o : Oper} {a : Act} {K : Act → World → Prop} {Q : Exit → Act → World → Prop} (d s : Operand) (t : TypeId)
    (ho : o.op = .call { callee := .builtin .copy, args := #[d, s], argTypes := #[t, t] }) (elem : TypeId) (hu : P.underlying t = some (.slice elem)) (hs : (P.info? elem).map (·.size) = some 1)
    (g off dLen dCap : Nat) (b : Addr) (sLen sCap : Nat) (cur : Array Value) (tt : TypeId) (cs : List Value) (hd : a.eval d = .slice (some ⟨g, off, none⟩) dLen dCap) (hx : a.eval s = .slice (some b) sLen sCap)
    (hg : w.heap[g]? = some (.cells cur tt (0, 0))) (hn : cs.length = Nat.min sLen dLen) (hsrc : ∀ j v, cs[j]? = some v → w.cell? (b.add j) = some v) (hfit : off + cs.length ≤ cur.size) (h1 : ∀ v ∈ cs, v.oneCell' = true)
    (h : K (a.put o.dst (goInt cs.length)) (w.setRow g (cur.toList.take off ++ cs ++ cur.toList.drop (off + cs.length)).toArray)) : o.wp P a w K Q := by
  have hr := run_copy_row P w t t o.type elem g off dLen dCap b sLen sCap cur tt cs hu hs hg hn hsrc hfit h1
  unfold Oper.wp execOp
  simp only [ho, resolve, invoke, builtin, Sem.run_bind, Sem.run_pure, Result.andThen_ok, List.map_toArray, List.map_cons, List.map_nil, hd, hx, hr]
  exact h
end
/-- The first n are -1. -/
def Neg (w : World) (g n : Nat) : Prop := ∃ C : Array Value, w.heap[g]? = some (.cells C 3 (0, 0)) ∧ C.size = 6 ∧ ∀ i, i < n → C[i]? = some (.int .i64 (-1))
theorem Neg.copy {w : World} {g n m : Nat} {C : Array Value} (h1 : w.heap[g]? = some (.cells C 3 (0, 0))) (h2 : C.size = 6) (h3 : ∀ i, i < n → C[i]? = some (.int .i64 (-1))) (hm : n + m ≤ 6) :
    Neg (w.setRow g (C.toList.take n ++ List.replicate m (Value.int .i64 (-1)) ++ C.toList.drop (n + m)).toArray) g (n + m) := by
  refine ⟨_, setRow_heap w g C _ 3 _ h1, ?_, fun i hi => ?_⟩
  · simp only [List.size_toArray, List.length_append, List.length_take, List.length_drop, List.length_replicate, Array.length_toList]
    omega
  · have hl : (C.toList.take n).length = n := by rw [List.length_take, Array.length_toList]; omega
    rw [List.getElem?_toArray, List.append_assoc]
    rcases Nat.lt_or_ge i n with h | h
    · rw [List.getElem?_append_left (by omega), List.getElem?_take_of_lt h, Array.getElem?_toList]
      exact h3 i h
    · rw [List.getElem?_append_right (by omega), hl, List.getElem?_append_left (by rw [List.length_replicate]; omega), List.getElem?_replicate, if_pos (by omega)]
theorem infoI6 : (Tryd.prog.info? 3).map (·.size) = some 1 := by kernel_rfl
theorem wp_copyN (w : World) {o : Oper} {a : Act} {K : Act → World → Prop} {Q : Exit → Act → World → Prop} (d s : Operand)
    (ho : o.op = .call { callee := .builtin .copy, args := #[d, s], argTypes := #[24, 24] })
    (g n m dLen dCap : Nat) (b : Nat) (sLen sCap : Nat) (hd : a.eval d = .slice (some ⟨g, n, none⟩) dLen dCap) (hx : a.eval s = .slice (some ⟨b, 0, none⟩) sLen sCap)
    (hneg : Neg w g n) (hn : m = Nat.min sLen dLen) (hsrc : ∀ j, j < m → w.cell? ⟨b, j, none⟩ = some (.int .i64 (-1))) (hfit : n + m ≤ 6)
    (h : ∀ w', Neg w' g (n + m) → w.grownBy w' (some g) → K (a.put o.dst (.int .i64 m)) w') : o.wp Tryd.prog a w K Q := by
  obtain ⟨C, h1, h2, h3⟩ := hneg
  have hl : (List.replicate m (Value.int .i64 (-1))).length = m := List.length_replicate
  refine wp_copy_row w d s _ ho 3 Tryd.underlying24 infoI6 g n dLen dCap ⟨b, 0, none⟩ sLen sCap C 3 (List.replicate m (Value.int .i64 (-1))) hd hx h1 (by rw [hl]; exact hn) (fun j v hv => ?_) (by rw [hl]; omega) (fun v hv => by rw [List.eq_of_mem_replicate hv]; rfl) ?_
  · rw [List.getElem?_replicate] at hv
    split at hv
    · rename_i hj
      have e := Option.some.inj hv
      subst e
      have hadd : (⟨b, 0, none⟩ : Addr).add j = ⟨b, j, none⟩ := by unfold Addr.add; split <;> simp_all
      rw [hadd]
      exact hsrc j hj
    · cases hv
  · rw [hl]
    have e : (goInt m : Value) = .int .i64 (m : Int) := rfl
    rw [e]
    exact h _ (Neg.copy h1 h2 h3 hfit) ⟨rfl, rfl, rfl, by simp, fun k _ hk => setRow_other w g k _ (fun e => hk (by rw [e]))⟩
theorem wpList_copyN (w : World) {ops : Array Oper} {rest : List Oper} {o : Oper} {a : Act} {Q : Exit → Act → World → Prop} (hgd : o.guard = none) (d s : Operand)
    (ho : o.op = .call { callee := .builtin .copy, args := #[d, s], argTypes := #[24, 24] })
    (g n m dLen dCap : Nat) (b : Nat) (sLen sCap : Nat) (hd : a.eval d = .slice (some ⟨g, n, none⟩) dLen dCap) (hx : a.eval s = .slice (some ⟨b, 0, none⟩) sLen sCap)
    (hneg : Neg w g n) (hn : m = Nat.min sLen dLen) (hsrc : ∀ j, j < m → w.cell? ⟨b, j, none⟩ = some (.int .i64 (-1))) (hfit : n + m ≤ 6)
    (h : ∀ w', Neg w' g (n + m) → w.grownBy w' (some g) → wpList Tryd.prog ops Q rest (a.put o.dst (.int .i64 m)) w') : wpList Tryd.prog ops Q (o :: rest) a w :=
  wpList_plain hgd fun _ hK => wp_copyN w d s ho g n m dLen dCap b sLen sCap hd hx hneg hn hsrc hfit fun w' h2 h3 => hK _ _ (h w' h2 h3)
theorem below_grown {B : Nat} {w0 w w' : World} {g : Nat} (h : Below B w0 w) (hg : w.grownBy w' (some g)) (hB : B ≤ g) (hs : B ≤ w.heap.size) : Below B w0 w' :=
  ⟨hg.os.trans h.os, hg.tape.trans h.tape, hg.output.trans h.output, Nat.le_trans h.size hg.size, fun k hk => (hg.block k (by omega) (fun e => by have := Option.some.inj e; omega)).trans (h.block k hk)⟩

set_option maxHeartbeats 4000000 in
set_option maxRecDepth 100000 in
theorem repeat6_any (w : World) (g0 : Nat) (hg0 : w.heap[g0]? = some (.cells #[.int .i64 (-1)] 3 (0, 0))) :
    Calls Tryd.prog 38 #[.slice (some ⟨g0, 0, none⟩) 1 1, .int .i64 6] w fun e w' => e = .returned (.slice (some ⟨w.heap.size, 0, none⟩) 6 6) ∧ Neg w' w.heap.size 6 ∧ Below w.heap.size w w' := by
  obtain ⟨C, hC, hmk⟩ := mk_ints w 6 (by omega)
  have hg1 := heap_alloc_new w (.cells C 3)
  have b1 := below1 w (.cells C 3)
  have H1 := hide (And.intro hg1 (And.intro b1 ((b1.block _ (heapLt hg0)).trans hg0)))
  have HC := hide hC
  have hlt0 := heapLt hg0
  clear hg0 hg1 b1 hC
  go_enter Tryd.func38, Tryd.ntmps38
  go_wp2_with fail
  have CM := hide (Tryd.bits_Mul 1 6 (by omega) (by omega) w)
  rw [show (1 * 6 / 18446744073709551616 : Nat) = 0 from rfl, show (1 * 6 % 18446744073709551616 : Nat) = 6 from rfl] at CM
  refine (unhide CM).mono ?_
  rintro e w' ⟨rfl, rfl⟩
  clear CM
  have x1 := cellOf (unhide H1).2.2 0
  have hmk' : (Instr.makeSlice 24 (.int .i64 6) (.int .i64 6)).run Tryd.prog w' = .ok (.slice (some ⟨w'.heap.size, 0, none⟩) 6 6) (w'.alloc (.cells C 3)) := hmk
  clear hmk
  have hneg0 : Neg (w'.alloc (.cells C 3)) w'.heap.size 0 := ⟨C, (unhide H1).1, unhide HC, fun i hi => by omega⟩
  have HN0 := hide hneg0
  have hsrc0 : ∀ j, j < 1 → (w'.alloc (.cells C 3)).cell? ⟨g0, j, none⟩ = some (.int .i64 (-1)) := fun j hj => by
    obtain rfl : j = 0 := by omega
    exact x1
  clear hneg0
  go_wp2_with (refine wpList_copyN _ rfl _ _ rfl w'.heap.size 0 1 6 6 g0 1 1 rfl rfl (unhide HN0) rfl hsrc0 (by omega) ?_; intro w2 hn2 hg2; have HN2 := hide hn2; have HB2 := hide (below_grown (unhide H1).2.1 hg2 (Nat.le_refl _) (unhide H1).2.1.size); clear hn2 hg2)
  go_loopw [8] (fun nv wr => ∃ n : Nat, (n = 1 ∨ n = 2 ∨ n = 4 ∨ n = 6) ∧ nv = .int .i64 n ∧ Neg wr w'.heap.size n ∧ Below w'.heap.size w' wr) (fun nv _ => 6 - (intOf nv).toNat)
  case atStart => exact ⟨1, .inl rfl, rfl, unhide HN2, unhide HB2⟩
  case round =>
    clear HN2 HB2 x1 hmk' hsrc0
    obtain ⟨n, hn, rfl, hneg, hb⟩ := hrel
    have HN := hide hneg
    have HB := hide hb
    clear hneg hb
    by_cases hlt : n < 6
    · obtain ⟨m, hm, hnext⟩ : ∃ m, m = Nat.min n (6 - n) ∧ (n + m = 2 ∨ n + m = 4 ∨ n + m = 6) := by
        rcases hn with rfl | rfl | rfl | rfl
        · exact ⟨1, rfl, .inl rfl⟩
        · exact ⟨2, rfl, .inr (.inl rfl)⟩
        · exact ⟨2, rfl, .inr (.inr rfl)⟩
        · omega
      have hm1 : 1 ≤ m ∧ n + m ≤ 6 ∧ m ≤ n ∧ 1 ≤ n := by
        rcases hn with rfl | rfl | rfl | rfl
        · subst hm; decide
        · subst hm; decide
        · subst hm; decide
        · omega
      obtain ⟨hm1, hm2, hm3, hm4⟩ := hm1
      have HM := hide hm
      have HNX := hide hnext
      have hi0 : (0 : Int) ≤ (n : Int) := Int.natCast_nonneg _
      have hi1 : (n : Int) ≤ 6 := by omega
      have hi2 : (n : Int) < 6 := by omega
      have hck : ¬ 6 = n := by omega
      have es : IntKind.i64.wrap ((n : Int) + (m : Int)) = (n : Int) + (m : Int) := by simp [IntKind.wrap, IntKind.bits, IntKind.signed]; omega
      clear hn hm hnext
      go_wp2_with fail
      refine wp_region_held_drew (S := fun _ => True) (by kernel_rfl) trivial (fun hHeld => ?_)
      have HNd : Hid (Neg wr.drew w'.heap.size n) := unhide HN
      have HBd := hide ((unhide HB).trans ((below_drew wr).mono (unhide HB).size))
      refine anyH_at (i := 0) (d := some 38) rfl rfl (by kernel_rfl) (by kernel_rfl) (by kernel_rfl) (fun _ _ _ h => h) (by rfl) (v := ?_) ?_ (by assumption) ?_
      rotate_left
      · (intro w hSw; (try dsimp only at hSw); go_simp <;> with_reducible rfl)
      simp only [Act.put, List.setIfInBounds_toArray, List.set_cons_zero, List.set_cons_succ]
      refine anyH_at (i := 1) (d := some 39) rfl rfl (by kernel_rfl) (by kernel_rfl) (by kernel_rfl) (fun _ _ _ h => h) (by rfl) (v := ?_) ?_ (by assumption) ?_
      rotate_left
      · (intro w hSw; (try dsimp only at hSw); go_simp <;> with_reducible rfl)
      simp only [Act.put, List.setIfInBounds_toArray, List.set_cons_zero, List.set_cons_succ]
      refine anyH_at (i := 2) (d := some 40) rfl rfl (by kernel_rfl) (by kernel_rfl) (by kernel_rfl) (fun _ _ _ h => h) (by rfl) (v := ?_) ?_ (by assumption) ?_
      rotate_left
      · (intro w hSw; (try dsimp only at hSw); go_simp <;> with_reducible rfl)
      simp only [Act.put, List.setIfInBounds_toArray, List.set_cons_zero, List.set_cons_succ]
      refine anyH_at (i := 3) (d := some 41) rfl rfl (by kernel_rfl) (by kernel_rfl) (by kernel_rfl) (fun _ _ _ h => h) (by rfl) (v := ?_) ?_ (by assumption) ?_
      rotate_left
      · (intro w hSw; (try dsimp only at hSw); go_simp <;> with_reducible rfl)
      simp only [Act.put, List.setIfInBounds_toArray, List.set_cons_zero, List.set_cons_succ]
      refine anyH_at (i := 4) (d := some 42) rfl rfl (by kernel_rfl) (by kernel_rfl) (by kernel_rfl) (fun _ _ _ h => h) (by rfl) (v := ?_) ?_ (by assumption) ?_
      rotate_left
      · (intro w hSw; (try dsimp only at hSw); go_simp <;> with_reducible rfl)
      simp only [Act.put, List.setIfInBounds_toArray, List.set_cons_zero, List.set_cons_succ]
      refine anyH_at (i := 5) (d := some 43) rfl rfl (by kernel_rfl) (by kernel_rfl) (by kernel_rfl) (fun _ _ _ h => h) (by rfl) (v := ?_) ?_ (by assumption) ?_
      rotate_left
      · (intro w hSw; (try dsimp only at hSw); go_simp <;> with_reducible rfl)
      simp only [Act.put, List.setIfInBounds_toArray, List.set_cons_zero, List.set_cons_succ]
      refine anyH_at (i := 6) (d := some 44) rfl rfl (by kernel_rfl) (by kernel_rfl) (by kernel_rfl) (fun _ _ _ h => h) (by rfl) (v := ?_) ?_ (by assumption) ?_
      rotate_left
      · (intro w hSw; (try dsimp only at hSw); go_simp <;> with_reducible rfl)
      simp only [Act.put, List.setIfInBounds_toArray, List.set_cons_zero, List.set_cons_succ]
      refine wpAnyH_ready (rs := [7]) (by kernel_rfl) (by simp) ?_
      refine AllReadyH.cons rfl (fun K hK => ?_) AllReadyH.nil
      rw [if_pos (by rfl)]
      refine wp_copyN _ _ _ rfl w'.heap.size n m (6 - n) (6 - n) w'.heap.size n 6 (by rfl) rfl (unhide HNd) (unhide HM) (fun j hj => by obtain ⟨D, d1, _, d3⟩ := unhide HNd; rw [cellOf d1]; exact d3 j (by omega)) hm2 ?_
      intro w3 hn3 hg3
      have HN3 := hide hn3
      have HB3 := hide (below_grown (unhide HBd) hg3 (Nat.le_refl _) (unhide HBd).size)
      clear hn3 hg3
      change K (Act.put _ (some 45) _) _
      refine hK.out _ _ ?_ (fun hHeldN => ?_)
      · trivial
      clear hHeld
      have hHeld := hHeldN
      clear hHeldN
      clear hK K
      try simp only [Act.put, List.setIfInBounds_toArray, List.set_cons_zero, List.set_cons_succ]
      refine anyH_at (i := 8) (d := some 46) rfl rfl (by kernel_rfl) (by kernel_rfl) (by kernel_rfl) (fun _ _ _ h => h) (by rfl) (v := ?_) ?_ (by assumption) ?_
      rotate_left
      · (intro w hSw; (try dsimp only at hSw); go_simp <;> with_reducible rfl)
      simp only [Act.put, List.setIfInBounds_toArray, List.set_cons_zero, List.set_cons_succ]
      refine anyH_at (i := 9) (d := some 8) rfl rfl (by kernel_rfl) (by kernel_rfl) (by kernel_rfl) (fun _ _ _ h => h) (by rfl) (v := ?_) ?_ (by assumption) ?_
      rotate_left
      · (intro w hSw; (try dsimp only at hSw); go_simp <;> with_reducible rfl)
      simp only [Act.put, List.setIfInBounds_toArray, List.set_cons_zero, List.set_cons_succ]
      refine wpAnyH_done (by kernel_rfl) ?_ _
      go_wp2
      go_roundw
      case rel => exact ⟨n + m, .inr (unhide HNX), by go_num, unhide HN3, unhide HB3⟩
      case measure => simp [intOf]; omega
    · have h6 : n = 6 := by omega
      subst h6
      clear hlt hn
      go_wp2
      go_ret
      exact ⟨rfl, unhide HN, unhide HB⟩
end Go.Proofs.YtoccijcngncghaaDoor
