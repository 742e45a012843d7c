/- What spec's DrawKeysBoth, DrawKeysOk, DrawRootOk and DrawRootSigned return: small rows and roots in memory of their own; nothing old is written. -/
import Derived.Test.YtneaceieaafjdaaRootDrawW
import Derived.Test.YtneaceieaafjdaaOpenW
namespace Go.Proofs.Ytneaceieaafjdaa
open Go.RowKit

variable {B : Nat} {W w w' : World} {blk : Nat} {v : Value} {l : List Int} {p p' : Nat}

/-- Behind a reader that is new nothing old is written. -/
theorem KSt.below {W0 : World} (h : KSt B W0 W.heap.size w v l p) (hb : Below W.heap.size W W0) : Below W.heap.size W w := hb.trans ((h.kp.mono hb.size).below (Nat.le_refl _))
/-- A slice that reaches no further than its room. -/
def Cap (v : Value) (l : List Int) : Prop := ∃ a c, v = .slice a l.length c ∧ l.length ≤ c ∧ c ≤ 9223372036854775807
theorem OwnI.cap {B : Nat} {w : World} {v : Value} {l : List Int} (h : OwnI B w v l) : Cap v l := by
  rcases h.2 with ⟨hv, hn⟩ | ⟨g, cap, cur, hv, hb, hg, hc, hm, _⟩
  · exact ⟨none, 0, by rw [hv, hn], by omega, by omega⟩
  · unfold maxLen at hm
    exact ⟨_, cap, hv, by omega, by omega⟩
theorem KSt.ins (h : KSt B W blk w v l p) (hl : l.length ≤ 8) : Ins w v l := h.own.ins (by omega)

set_option maxHeartbeats 1000000 in
theorem drawKeysBoth_any (w : World) (a : Option Addr) (len cap : Nat) (h : Bytes w a len cap) :
    Calls Try.prog 18 #[.slice a len cap] w fun e w' => ∃ va vb la lb, e = .returned (.tuple #[va, vb]) ∧ la.length ≤ 7 ∧ lb.length ≤ 7 ∧ Ins w' va la ∧ Ins w' vb lb ∧ Below w.heap.size w w' := by
  go_enter Try.func18, Try.ntmps18
  go_wp2_with fail
  refine (open_any w a len cap h).mono ?_
  rintro e w1 ⟨rfl, hr1, b1⟩
  have hlt := hr1.lt
  have HB1 := hide b1
  have HR1 := hide hr1
  have hz := b1.size
  clear b1 hr1 h
  go_wp2_with fail
  refine (l71Keys_any _ w.heap.size 0 (unhide HR1) hz (by omega)).mono ?_
  rintro e w2 ⟨v2, l2, p2, rfl, hl2, _, hp2, hs2⟩
  have HS2 := hide hs2
  clear hs2 HR1
  go_wp2_with fail
  refine (l71Keys_any _ w.heap.size p2 (unhide HS2).rd (Nat.le_trans hz (unhide HS2).kp.size) (by omega)).mono ?_
  rintro e w3 ⟨v3, l3, p3, rfl, hl3, _, hp3, hs3⟩
  have HS3 := hide ((unhide HS2).keep hs3.kp hs3.rd)
  have HT3 := hide (hs3.ins (by omega))
  clear hs3 HS2
  go_wp2
  exact bodyPost_ret (v := .tuple #[v2, v3]) (by simp [results, Try.results18, go_sem]) rfl ⟨v2, v3, l2, l3, rfl, hl2, hl3, (unhide HS3).ins (by omega), unhide HT3, (unhide HS3).below (unhide HB1)⟩

set_option maxHeartbeats 1000000 in
theorem drawKeysOk_any (w : World) (a : Option Addr) (len cap : Nat) (h : Bytes w a len cap) :
    Calls Try.prog 22 #[.slice a len cap] w fun e w' => ∃ va la, e = .returned va ∧ la.length ≤ 8 ∧ Cap va la ∧ Ins w' va la ∧ Below w.heap.size w w' := by
  obtain ⟨i0, hi0, hz0, hz1, hz2⟩ := info_parts infoI
  go_enter Try.func22, Try.ntmps22
  go_wp2_with fail
  refine (open_any w a len cap h).mono ?_
  rintro e w1 ⟨rfl, hr1, b1⟩
  have hlt := hr1.lt
  have HB1 := hide b1
  have HR1 := hide hr1
  have hz := b1.size
  clear b1 hr1 h
  go_wp2_with fail
  refine (l71Keys_any _ w.heap.size 0 (unhide HR1) hz (by omega)).mono ?_
  rintro e w2 ⟨v2, l2, p2, rfl, hl2, _, hp2, hs2⟩
  have HS2 := hide hs2
  clear hs2 HR1
  obtain ⟨a2, c2, hv2⟩ := (unhide HS2).own.form
  subst hv2
  go_wp2_with fail
  refine (pick_any _ w.heap.size p2 3 (unhide HS2).rd (by omega) (by omega) (by omega)).mono ?_
  rintro e w3 ⟨v3, rfl, v30, v31, hr3, hk3⟩
  have HS3 := hide ((unhide HS2).keep hk3 hr3)
  clear hr3 hk3 HS2
  by_cases hv : v3 = 0
  · subst hv
    go_wp2_with fail
    refine (pick_any _ w.heap.size (p2 + 1) 8 (unhide HS3).rd (by omega) (by omega) (by omega)).mono ?_
    rintro e w4 ⟨v4, rfl, v40, v41, hr4, hk4⟩
    have HS4 := hide ((unhide HS3).keep hk4 hr4)
    clear hr4 hk4 HS3
    have hsz := (unhide HS4).kp.size
    go_wp2_with (first
      | (at_builtin; refine wpList_append_own _ rfl _ _ 23 rfl w1.heap.size 3 i0 (.int .i64 0) 1 8 Try.underlying23 hi0 hz0 hz1 hz2 rfl (by decide) _ l2.length (l2.map (Value.int .i64)) rfl ((unhide HS4).alloc _).own ⟨w4.heap.size, 0, none⟩ 1 1 [.int .i64 v4] rfl rfl (cell_one_new _ _ _) (ints_oneCell .i64 [v4]) (by unfold maxLen; omega) (by omega) (by simp; omega) ?_; intro v' w5 hown' hgrow5 hnil5)
      | go_in)
    have HS5 := hide (((unhide HS4).alloc _).app hgrow5 hown')
    clear hown' hgrow5 hnil5 HS4
    go_ret
    have hll : (l2 ++ [v4]).length ≤ 8 := by rw [List.length_append]; simp only [List.length_cons, List.length_nil]; omega
    exact ⟨_, l2 ++ [v4], rfl, hll, (unhide HS5).own.cap, (unhide HS5).ins hll, (unhide HS5).below (unhide HB1)⟩
  · have hvb : (v3 == 0) = false := by simp [hv]
    go_wp2
    go_ret
    exact ⟨_, l2, rfl, by omega, (unhide HS3).own.cap, (unhide HS3).ins (by omega), (unhide HS3).below (unhide HB1)⟩

/-- A row stays over three stores into a box that is older. -/
theorem KSt.set3 (h : KSt B W blk w v l p) {R : Nat} (hR : R < W.heap.size) (a b c : Value) : OwnI W.heap.size (((w.setCell ⟨R, 0, none⟩ a).setCell ⟨R, 1, none⟩ b).setCell ⟨R, 2, none⟩ c) v l :=
  h.own.keep (fun g _ _ hg _ => by rw [Below.heap_setCell _ _ _ _ (by show g ≠ R; omega), Below.heap_setCell _ _ _ _ (by show g ≠ R; omega), Below.heap_setCell _ _ _ _ (by show g ≠ R; omega)])
theorem below_set3 {n : Nat} (h : Below n W w) {R : Nat} (hR : n ≤ R) (a b c : Value) : Below n W (((w.setCell ⟨R, 0, none⟩ a).setCell ⟨R, 1, none⟩ b).setCell ⟨R, 2, none⟩ c) :=
  ((h.setCell (by exact hR) _).setCell (by exact hR) _).setCell (by exact hR) _

/-- A reader over bytes, behind the box of the answer. -/
theorem open_behind (w : World) (a : Option Addr) (len cap : Nat) (h : Bytes w a len cap) (o : Obj) :
    Calls Try.prog 41 #[.slice a len cap] (w.alloc o) fun e w' => e = .returned (.pointer (some ⟨w.heap.size + 1, 0, none⟩)) ∧ Rd (w.heap.size + 1) w' (w.heap.size + 1) 0 ∧ w'.heap[w.heap.size]? = some o ∧ Below w.heap.size w w' ∧ w.heap.size + 1 < w'.heap.size := by
  have hz : (w.alloc o).heap.size = w.heap.size + 1 := by simp
  have h0 := heap_alloc_new w o
  have hb := below1 w o
  have h1 := h.later hb
  generalize w.alloc o = W0 at *
  refine (open_any W0 a len cap h1).mono ?_
  rintro e w1 ⟨rfl, hr1, b1⟩
  have := hr1.lt
  rw [hz] at hr1 this
  exact ⟨by rw [hz], hr1, (b1.block _ (by omega)).trans h0, hb.trans (b1.mono hb.size), this⟩

set_option maxHeartbeats 1000000 in
theorem drawRootSigned_any (w : World) (a : Option Addr) (len cap : Nat) (h : Bytes w a len cap) :
    Calls Try.prog 28 #[.slice a len cap] w fun e w' => ∃ n d v vb k by', e = .returned (.tuple #[.agg #[.int .i64 n, v, .int .i64 d], vb]) ∧ k.length ≤ 7 ∧ by'.length ≤ 7 ∧ Ins w' v k ∧ Ins w' vb by' ∧ Below w.heap.size w w' := by
  go_enter Try.func28, Try.ntmps28
  go_wp2_with fail
  refine (open_behind w a len cap h _).mono ?_
  rintro e w1 ⟨rfl, hr1, h01, b1, hz⟩
  have HB1 := hide b1
  have HR1 := hide hr1
  have H01 := hide h01
  clear b1 hr1 h h01
  go_wp2_with fail
  refine (l71Root_any _ (w.heap.size + 1) 0 (unhide HR1) (by omega) (by omega)).mono ?_
  rintro e w2 ⟨n, d, v2, k, p2, rfl, _, _, _, _, hl2, hp2, hs2⟩
  obtain ⟨a2, c2, hv2⟩ := hs2.own.form
  subst hv2
  have H02 := hide ((hs2.kp.block _ (by omega) (by omega)).trans (unhide H01))
  have HS2 := hide hs2
  clear hs2 HR1 H01
  go_wp2_with fail
  refine (l71Keys_any _ (w.heap.size + 1) p2 (unhide HS2).rd (Nat.le_trans (by omega) (unhide HS2).kp.size) (by omega)).mono ?_
  rintro e w3 ⟨v3, l3, p3, rfl, hl3, _, hp3, hs3⟩
  obtain ⟨a3, c3, hv3⟩ := hs3.own.form
  subst hv3
  have hz2 := (unhide HS2).kp.size
  have H03 := hide ((hs3.kp.block _ (by omega) (by omega)).trans (unhide H02))
  have HS3 := hide ((unhide HS2).keep hs3.kp hs3.rd)
  have HT3 := hide hs3
  clear hs3 HS2 H02
  obtain ⟨R0, R1, R2, G0, G1, G2⟩ := root_box6 (unhide H03)
  go_wp2
  obtain ⟨W4, hW4⟩ : ∃ W4, W4 = ((w3.setCell ⟨w.heap.size, 0, none⟩ (.int .i64 n)).setCell ⟨w.heap.size, 1, none⟩ (.slice a2 k.length c2)).setCell ⟨w.heap.size, 2, none⟩ (.int .i64 d) := ⟨_, rfl⟩
  have hX := heapSet (o := 2) (v := .int .i64 d) (heapSet (o := 1) (v := .slice a2 k.length c2) (heapSet (o := 0) (v := .int .i64 n) (unhide H03)))
  rw [← hW4] at hX ⊢
  obtain ⟨y0, y1, y2⟩ := root_box hX
  have B3 : Below w.heap.size w w3 := (unhide HB1).trans (((unhide HS3).kp.mono (show w.heap.size ≤ w1.heap.size by omega)).below (by omega))
  exact bodyPost_ret (v := .tuple #[.agg #[.int .i64 n, .slice a2 k.length c2, .int .i64 d], .slice a3 l3.length c3]) (by simp [results, Try.results28, go_sem, y0, y1, y2]) rfl
    ⟨n, d, _, _, k, l3, rfl, hl2, hl3, by rw [hW4]; exact ((unhide HS3).set3 (by omega) _ _ _).ins (by omega), by rw [hW4]; exact ((unhide HT3).set3 (by omega) _ _ _).ins (by omega), by rw [hW4]; exact below_set3 B3 (Nat.le_refl _) _ _ _⟩

set_option maxHeartbeats 1000000 in
theorem drawRootOk_any (w : World) (a : Option Addr) (len cap : Nat) (h : Bytes w a len cap) :
    Calls Try.prog 24 #[.slice a len cap] w fun e w' => ∃ n d v k, e = .returned (.agg #[.int .i64 n, v, .int .i64 d]) ∧ k.length ≤ 7 ∧ Cap v k ∧ Ins w' v k ∧ Below w.heap.size w w' := by
  go_enter Try.func24, Try.ntmps24
  go_wp2_with fail
  refine (open_behind w a len cap h _).mono ?_
  rintro e w1 ⟨rfl, hr1, h01, b1, hz⟩
  have HB1 := hide b1
  have HR1 := hide hr1
  have H01 := hide h01
  clear b1 hr1 h h01
  go_wp2_with fail
  refine (l71Root_any _ (w.heap.size + 1) 0 (unhide HR1) (by omega) (by omega)).mono ?_
  rintro e w2 ⟨n, d, v2, k, p2, rfl, n0, n1, d0, d1, hl2, hp2, hs2⟩
  obtain ⟨a2, c2, hv2⟩ := hs2.own.form
  subst hv2
  have H02 := hide ((hs2.kp.block _ (by omega) (by omega)).trans (unhide H01))
  have hz2 := hs2.kp.size
  have HS3 := hide (hs2.alloc (.cells #[.int .i64 n, .slice a2 k.length c2, .int .i64 d] 32))
  have H03 := hide ((Below.heap_alloc w2 (.cells #[.int .i64 n, .slice a2 k.length c2, .int .i64 d] 32) _ (heapLt (unhide H02))).trans (unhide H02))
  have HX3 := hide (heap_alloc_new w2 (.cells #[.int .i64 n, .slice a2 k.length c2, .int .i64 d] 32))
  clear hs2 HR1 H01 H02
  go_wp2_with fail
  refine (pick_any _ (w.heap.size + 1) p2 3 (unhide HS3).rd (by omega) (by omega) (by omega)).mono ?_
  generalize w2.alloc _ = W3 at *
  rintro e w4 ⟨v4, rfl, v40, v41, hr4, hk4⟩
  have H04 := hide ((hk4.block _ (heapLt (unhide H03)) (by omega)).trans (unhide H03))
  have HX4 := hide ((hk4.block _ (heapLt (unhide HX3)) (by omega)).trans (unhide HX3))
  have HS4 := hide ((unhide HS3).keep hk4 hr4)
  clear hr4 hk4 HS3 H03 HX3
  clear W3
  generalize w2.heap.size = g at *
  by_cases hv : v4 = 0
  · subst hv
    obtain ⟨X0, X1, X2⟩ := root_box (unhide HX4)
    have hk7 : (k.length : Int) ≤ 7 := by omega
    go_wp2_with fail
    refine (pick_any _ (w.heap.size + 1) (p2 + 1) ((k.length : Int) + 2) (unhide HS4).rd (by omega) (by omega) (by omega)).mono ?_
    rintro e w5 ⟨v5, rfl, v50, v51, hr5, hk5⟩
    have H05 := hide ((hk5.block _ (heapLt (unhide H04)) (by omega)).trans (unhide H04))
    have HX5 := hide ((hk5.block _ (heapLt (unhide HX4)) (by omega)).trans (unhide HX4))
    have HS5 := hide ((unhide HS4).keep hk5 hr5)
    clear hr5 hk5 HS4 H04 HX4 X0 X1 X2
    obtain ⟨X0, X1, X2, F0, F1, F2⟩ := root_box6 (unhide HX5)
    obtain ⟨R0, R1, R2, G0, G1, G2⟩ := root_box6 (unhide H05)
    go_wp2
    have HS6 := (unhide HS5).set (o := 2) (.int .i64 v5) (unhide HX5) (by decide) (by omega)
    have h6 := (Below.heap_setCell w5 ⟨g, 2, none⟩ (.int .i64 v5) w.heap.size (by show w.heap.size ≠ g; omega)).trans (unhide H05)
    generalize w5.setCell ⟨g, 2, none⟩ (.int .i64 v5) = w6 at *
    obtain ⟨W7, hW7⟩ : ∃ W7, W7 = ((w6.setCell ⟨w.heap.size, 0, none⟩ (.int .i64 n)).setCell ⟨w.heap.size, 1, none⟩ (.slice a2 k.length c2)).setCell ⟨w.heap.size, 2, none⟩ (.int .i64 v5) := ⟨_, rfl⟩
    have hX := heapSet (o := 2) (v := .int .i64 v5) (heapSet (o := 1) (v := .slice a2 k.length c2) (heapSet (o := 0) (v := .int .i64 n) h6))
    rw [← hW7] at hX ⊢
    obtain ⟨y0, y1, y2⟩ := root_box hX
    have B6 : Below w.heap.size w w6 := (unhide HB1).trans ((HS6.kp.mono (show w.heap.size ≤ w1.heap.size by omega)).below (by omega))
    exact bodyPost_ret (v := .agg #[.int .i64 n, .slice a2 k.length c2, .int .i64 v5]) (by simp [results, Try.results24, go_sem, y0, y1, y2]) rfl
      ⟨n, v5, _, k, rfl, hl2, HS6.own.cap, by rw [hW7]; exact (HS6.set3 (by omega) _ _ _).ins (by omega), by rw [hW7]; exact below_set3 B6 (Nat.le_refl _) _ _ _⟩
  · have hvb : (v4 == 0) = false := by simp [hv]
    obtain ⟨X0, X1, X2, F0, F1, F2⟩ := root_box6 (unhide HX4)
    obtain ⟨R0, R1, R2, G0, G1, G2⟩ := root_box6 (unhide H04)
    go_wp2
    obtain ⟨W7, hW7⟩ : ∃ W7, W7 = ((w4.setCell ⟨w.heap.size, 0, none⟩ (.int .i64 n)).setCell ⟨w.heap.size, 1, none⟩ (.slice a2 k.length c2)).setCell ⟨w.heap.size, 2, none⟩ (.int .i64 d) := ⟨_, rfl⟩
    have hX := heapSet (o := 2) (v := .int .i64 d) (heapSet (o := 1) (v := .slice a2 k.length c2) (heapSet (o := 0) (v := .int .i64 n) (unhide H04)))
    rw [← hW7] at hX ⊢
    obtain ⟨y0, y1, y2⟩ := root_box hX
    have B6 : Below w.heap.size w w4 := (unhide HB1).trans (((unhide HS4).kp.mono (show w.heap.size ≤ w1.heap.size by omega)).below (by omega))
    exact bodyPost_ret (v := .agg #[.int .i64 n, .slice a2 k.length c2, .int .i64 d]) (by simp [results, Try.results24, go_sem, y0, y1, y2]) rfl
      ⟨n, d, _, k, rfl, hl2, (unhide HS4).own.cap, by rw [hW7]; exact ((unhide HS4).set3 (by omega) _ _ _).ins (by omega), by rw [hW7]; exact below_set3 B6 (Nat.le_refl _) _ _ _⟩
end Go.Proofs.Ytneaceieaafjdaa
