/- What spec's l31Union and DrawRootNext return: a small row of its own; a root, and a signed one, in memory of their own; nothing old is written. -/
import Derived.Test.YthjmnkfpopfgbaaKeysDrawW
import Derived.Test.YthjmnkfpopfgbaaNextW
namespace Go.Proofs.Ythjmnkfpopfgbaa
open Go.RowKit

attribute [local go_sem ↓] Go.wp_at_zero Go.wp_at_succ

theorem own_app {B : Nat} {W w w' : World} {v v' : Value} {l : List Int} {x : Int} (h : OwnI B w v l) (hb : Below B W w) (hB : B ≤ w.heap.size) (hg : w.grownBy w' v.ownBlock) (ho : w'.ownsRow B 3 1 v' (l.length + 1) (l.map (Value.int .i64) ++ [.int .i64 x])) : OwnI B w' v' (l ++ [x]) ∧ Below B W w' := by
  refine ⟨?_, hb.grown hg hB (fun j hj => ?_)⟩
  · unfold OwnI
    rw [List.length_append, List.map_append]
    exact ho
  · rcases h.2 with ⟨rfl, _⟩ | ⟨g', cap', cur, rfl, hb', _⟩
    · cases hj
    · simp only [Value.ownBlock, Option.some.injEq] at hj
      omega

set_option maxHeartbeats 1000000 in
set_option maxRecDepth 100000 in
theorem l31Union_any (w : World) (va vb : Value) (a b : List Int) (ha : Ins w va a) (hb : Ins w vb b) (hla : a.length ≤ 100) (hlb : b.length ≤ 100) :
    Calls Try.prog 68 #[va, vb] w fun e w' => ∃ v l, e = .returned v ∧ l.length ≤ 6 ∧ OwnI w.heap.size w' v l ∧ Below w.heap.size w w' := by
  obtain ⟨i0, hi0, hz0, hz1, hz2⟩ := info_parts infoI
  have HA := hide ha
  have HB := hide hb
  clear ha hb
  go_enter Try.func68, Try.ntmps68
  go_wp2
  go_loopw [5, 6] (fun v i w' => ∃ (k : Nat) (l : List Int), i = .int .i64 (k + 1) ∧ k ≤ 6 ∧ l.length ≤ k ∧ OwnI w.heap.size w' v l ∧ Below w.heap.size w w') (fun _ i _ => (8 - intOf i).toNat)
  case atStart => exact ⟨0, [], rfl, by omega, by simp, OwnI.empty w, below1 _ _⟩
  case round =>
    obtain ⟨k, l, rfl, hk, hl, ho, hw⟩ := hrel
    obtain ⟨ua, uc, hu⟩ := ho.form
    subst hu
    have O := hide ho
    have HW := hide hw
    clear ho hw
    by_cases hlt : k < 6
    · have hlt' : (k : Int) + 1 ≤ 6 := by omega
      have z1 : Ky.both a [(k : Int) + 1] ≤ 1000 := Nat.le_trans (Ky.both_le _ _) (by simp; omega)
      have z2 : Ky.both b [(k : Int) + 1] ≤ 1000 := Nat.le_trans (Ky.both_le _ _) (by simp; omega)
      go_wp2_with fail
      have b7 := below1 wr (.cells #[.int .i64 ((k : Int) + 1)] 3)
      refine (l2Both_b _ _ _ a [(k : Int) + 1] (((unhide HA).later (unhide HW)).later b7) (Ins.one wr _ _) (by omega) (by simp)).mono ?_
      have O7 := hide ((unhide O).later b7)
      have W7 := hide ((unhide HW).trans (b7.mono (unhide HW).size))
      clear O HW b7
      generalize wr.alloc _ = V7 at *
      rintro e w8 ⟨rfl, b8⟩
      have O8 := hide ((unhide O7).later b8)
      have W8 := hide ((unhide W7).trans (b8.mono (unhide W7).size))
      clear O7 W7 b8
      clear V7
      generalize Ky.both a [(k : Int) + 1] = x at *
      go_wp2_with fail
      have b9 := below1 w8 (.cells #[.int .i64 ((k : Int) + 1)] 3)
      refine (l2Both_b _ _ _ b [(k : Int) + 1] (((unhide HB).later (unhide W8)).later b9) (Ins.one w8 _ _) (by omega) (by simp)).mono ?_
      have O9 := hide ((unhide O8).later b9)
      have W9 := hide ((unhide W8).trans (b9.mono (unhide W8).size))
      clear O8 W8 b9
      generalize w8.alloc _ = V9 at *
      rintro e w10 ⟨rfl, b10⟩
      have O10 := hide ((unhide O9).later b10)
      have W10 := hide ((unhide W9).trans (b10.mono (unhide W9).size))
      clear O9 W9 b10
      clear V9
      generalize Ky.both b [(k : Int) + 1] = y at *
      have ew : IntKind.i64.wrap ((x : Int) + (y : Int)) = (x : Int) + (y : Int) := by simp [IntKind.wrap, IntKind.bits, IntKind.signed]; omega
      have hsz := (unhide W10).size
      by_cases hgt : 0 < x + y
      · have hgt' : (0 : Int) < (x : Int) + (y : Int) := by omega
        go_wp2_with (first
          | (at_builtin; refine wpList_append_own _ rfl _ _ 23 rfl w.heap.size 3 i0 (.int .i64 0) 1 8 Try.underlying23 hi0 hz0 hz1 hz2 rfl (by decide) _ l.length (l.map (Value.int .i64)) rfl ((unhide O10).later (below1 _ _)) ⟨w10.heap.size, 0, none⟩ 1 1 [.int .i64 ((k : Int) + 1)] rfl rfl (cell_one_new _ _ _) (ints_oneCell .i64 [(k : Int) + 1]) (by unfold maxLen; omega) (by omega) (by simp; omega) ?_; intro v' w11 hown' hgrow11 hnil11)
          | go_in)
        have O11 := hide (own_app ((unhide O10).later (below1 w10 (.cells #[.int .i64 ((k : Int) + 1)] 3))) ((unhide W10).trans ((below1 _ _).mono hsz)) (by simp; omega) hgrow11 hown')
        clear hown' hgrow11 hnil11 O10 W10
        go_roundw
        case rel => exact ⟨k + 1, l ++ [(k : Int) + 1], by go_num, by omega, by rw [List.length_append]; simp only [List.length_cons, List.length_nil]; omega, (unhide O11).1, (unhide O11).2⟩
        case measure => simp [intOf]; omega
      · have hgt' : ¬ (0 : Int) < (x : Int) + (y : Int) := by omega
        go_wp2
        go_roundw
        case rel => exact ⟨k + 1, l, by go_num, by omega, by omega, unhide O10, unhide W10⟩
        case measure => simp [intOf]; omega
    · obtain rfl : k = 6 := by omega
      go_wp2
      go_ret
      exact ⟨_, l, rfl, hl, unhide O, unhide HW⟩

theorem wrap_in {v : Int} (h0 : -1000 ≤ v) (h1 : v ≤ 1000) : IntKind.i64.wrap v = v := by simp [IntKind.wrap, IntKind.bits, IntKind.signed]; omega
theorem quo_in {v : Int} (h0 : 0 ≤ v) (h1 : v < 12) : ∃ q, IntKind.i64.wrap (v.tdiv 11) = q ∧ 0 ≤ q ∧ q ≤ 1 := by
  have e : v.tdiv 11 = v / 11 := Int.tdiv_eq_ediv_of_nonneg h0
  exact ⟨v / 11, by rw [e]; exact wrap_in (by omega) (by omega), by omega, by omega⟩
theorem KSt.base' {B : Nat} {W W0 w : World} {blk : Nat} {v : Value} {l : List Int} {p : Nat} (h : KSt B W0 blk w v l p) (hk : Kp W.heap.size blk W W0) (hB : B ≤ W.heap.size) (hblk : blk < W.heap.size) : KSt B W blk w v l p :=
  ⟨h.rd, hB, hblk, hk.trans h.kp hk.size, h.own.mono hk.size⟩

/-- A reader over bytes, behind the two boxes of the answer. -/
theorem open_behind2 (w : World) (a : Option Addr) (len cap : Nat) (h : Bytes w a len cap) (o o2 : Obj) :
    Calls Try.prog 54 #[.slice a len cap] ((w.alloc o).alloc o2) fun e w' => e = .returned (.pointer (some ⟨w.heap.size + 2, 0, none⟩)) ∧ Rd (w.heap.size + 2) w' (w.heap.size + 2) 0 ∧ w'.heap[w.heap.size]? = some o ∧ w'.heap[w.heap.size + 1]? = some o2 ∧ Below w.heap.size w w' ∧ w.heap.size + 2 < w'.heap.size := by
  have hz : (w.alloc o).heap.size = w.heap.size + 1 := by simp
  have h0 := heap_alloc_new w o
  have hb := below1 w o
  have h1 := h.later hb
  generalize w.alloc o = W0 at *
  refine (open_behind W0 a len cap h1 o2).mono ?_
  rintro e w1 ⟨rfl, hr1, h2, b1, hlt⟩
  rw [hz] at hr1 h2 hlt
  exact ⟨by rw [hz], hr1, (b1.block _ (by omega)).trans h0, h2, hb.trans (b1.mono hb.size), hlt⟩

theorem KSt.later {B : Nat} {W w w' : World} {blk : Nat} {v : Value} {l : List Int} {p : Nat} (h : KSt B W blk w v l p) (hb : Below w.heap.size w w') : KSt B W blk w' v l p :=
  h.keep (Kp.of_below hb) (h.rd.later (Nat.le_trans h.lB h.kp.size) hb)
theorem KSt.other {B : Nat} {W w : World} {blk : Nat} {v v' : Value} {l l' : List Int} {p : Nat} (h : KSt B W blk w v l p) (ho : OwnI W.heap.size w v' l') : KSt B W blk w v' l' p := ⟨h.rd, h.lB, h.lt, h.kp, ho⟩
theorem sig_box {w : World} {g : Nat} {a b c d : Value} {t : TypeId} (h : w.heap[g]? = some (.cells #[a, b, c, d] t (0, 0))) : w.cell? ⟨g, 0, none⟩ = some a ∧ w.cell? ⟨g, 1, none⟩ = some b ∧ w.cell? ⟨g, 2, none⟩ = some c ∧ w.cell? ⟨g, 3, none⟩ = some d ∧ w.frozen? ⟨g, 0, none⟩ = false ∧ w.frozen? ⟨g, 1, none⟩ = false ∧ w.frozen? ⟨g, 2, none⟩ = false ∧ w.frozen? ⟨g, 3, none⟩ = false := ⟨cellOf h 0, cellOf h 1, cellOf h 2, cellOf h 3, frozenOf h 0, frozenOf h 1, frozenOf h 2, frozenOf h 3⟩

/-- The two answers are laid into their boxes, which are older than the rows. -/
theorem fin_next {B : Nat} {W w V V2 : World} {blk p R : Nat} {va vb vu a b c e0 e1 e2 e3 : Value} {la lb lu : List Int} {r0 r1 r2 s0 s1 s2 s3 : Value} {t t2 : TypeId} (ha : KSt B W blk w va la p) (hb : KSt B W blk w vb lb p) (hu : KSt B W blk w vu lu p)
    (hR : w.heap[R]? = some (.cells #[r0, r1, r2] t (0, 0))) (hQ : w.heap[R + 1]? = some (.cells #[s0, s1, s2, s3] t2 (0, 0))) (h1 : R + 1 < W.heap.size)
    (hV : V = ((w.setCell ⟨R, 0, none⟩ a).setCell ⟨R, 1, none⟩ b).setCell ⟨R, 2, none⟩ c) (hV2 : V2 = (((V.setCell ⟨R + 1, 0, none⟩ e0).setCell ⟨R + 1, 1, none⟩ e1).setCell ⟨R + 1, 2, none⟩ e2).setCell ⟨R + 1, 3, none⟩ e3) :
    (V2.cell? ⟨R, 0, none⟩ = some a ∧ V2.cell? ⟨R, 1, none⟩ = some b ∧ V2.cell? ⟨R, 2, none⟩ = some c) ∧ (V2.cell? ⟨R + 1, 0, none⟩ = some e0 ∧ V2.cell? ⟨R + 1, 1, none⟩ = some e1 ∧ V2.cell? ⟨R + 1, 2, none⟩ = some e2 ∧ V2.cell? ⟨R + 1, 3, none⟩ = some e3) ∧ OwnI W.heap.size V2 va la ∧ OwnI W.heap.size V2 vb lb ∧ OwnI W.heap.size V2 vu lu ∧ ∀ n, n ≤ R → n ≤ w.heap.size → Below n w V2 := by
  have far : ∀ j, j ≠ R → j ≠ R + 1 → V2.heap[j]? = w.heap[j]? := fun j h1 h2 => by
    rw [hV2, Below.heap_setCell _ _ _ _ (by exact h2), Below.heap_setCell _ _ _ _ (by exact h2), Below.heap_setCell _ _ _ _ (by exact h2), Below.heap_setCell _ _ _ _ (by exact h2), hV, Below.heap_setCell _ _ _ _ (by exact h1), Below.heap_setCell _ _ _ _ (by exact h1), Below.heap_setCell _ _ _ _ (by exact h1)]
  have hVR : V.heap[R]? = some (.cells #[a, b, c] t (0, 0)) := by rw [hV, heapSet (heapSet (heapSet hR))]; rfl
  have hVQ : V.heap[R + 1]? = some (.cells #[s0, s1, s2, s3] t2 (0, 0)) := by
    rw [hV, Below.heap_setCell _ _ _ _ (by show R + 1 ≠ R; omega), Below.heap_setCell _ _ _ _ (by show R + 1 ≠ R; omega), Below.heap_setCell _ _ _ _ (by show R + 1 ≠ R; omega)]
    exact hQ
  have hR2 : V2.heap[R]? = some (.cells #[a, b, c] t (0, 0)) := by
    rw [hV2, Below.heap_setCell _ _ _ _ (by show R ≠ R + 1; omega), Below.heap_setCell _ _ _ _ (by show R ≠ R + 1; omega), Below.heap_setCell _ _ _ _ (by show R ≠ R + 1; omega), Below.heap_setCell _ _ _ _ (by show R ≠ R + 1; omega)]
    exact hVR
  have hQ2 : V2.heap[R + 1]? = some (.cells #[e0, e1, e2, e3] t2 (0, 0)) := by rw [hV2, heapSet (heapSet (heapSet (heapSet hVQ)))]; rfl
  refine ⟨root_box hR2, ⟨cellOf hQ2 0, cellOf hQ2 1, cellOf hQ2 2, cellOf hQ2 3⟩, ha.own.keep (fun g _ _ hg _ => far g (by omega) (by omega)), hb.own.keep (fun g _ _ hg _ => far g (by omega) (by omega)), hu.own.keep (fun g _ _ hg _ => far g (by omega) (by omega)), fun n hn _ => ?_⟩
  rw [hV2, hV]
  exact (((((((Below.refl n w).setCell (by exact hn) _).setCell (by exact hn) _).setCell (by exact hn) _).setCell (by show n ≤ R + 1; omega) _).setCell (by show n ≤ R + 1; omega) _).setCell (by show n ≤ R + 1; omega) _).setCell (by show n ≤ R + 1; omega) _

theorem implRootNext_b {r : Bool} (w : World) (n d n2 d2 : Int) (v v2 vb : Value) (k k2 by' : List Int) (hr : Ky.next n k d n2 k2 d2 by' = r) (h : Ins w v k) (h2 : Ins w v2 k2) (hb : Ins w vb by') : Calls Try.prog 27 #[.agg #[.int .i64 n, v, .int .i64 d], .agg #[.int .i64 n2, v2, .int .i64 d2, vb]] w fun e w' => e = .returned (.bool r) ∧ Below w.heap.size w w' :=
  (implRootNext_any w n d n2 d2 v v2 vb k k2 by' h h2 hb).mono fun e w' ⟨he, hq⟩ => ⟨by rw [he, hr], hq⟩
theorem specRootNext_b {r : Bool} (w : World) (n d n2 d2 : Int) (v v2 vb : Value) (k k2 by' : List Int) (hr : Ky.next n k d n2 k2 d2 by' = r) (h : Ins w v k) (h2 : Ins w v2 k2) (hb : Ins w vb by') : Calls Try.prog 100 #[.agg #[.int .i64 n, v, .int .i64 d], .agg #[.int .i64 n2, v2, .int .i64 d2, vb]] w fun e w' => e = .returned (.bool r) ∧ Below w.heap.size w w' :=
  (specRootNext_any w n d n2 d2 v v2 vb k k2 by' h h2 hb).mono fun e w' ⟨he, hq⟩ => ⟨by rw [he, hr], hq⟩
end Go.Proofs.Ythjmnkfpopfgbaa
