/- What spec's l31Union and DrawRootNext return: a small row of its own; a root, and a signed one, in memory of their own; nothing old is written. -/
import Derived.Test.YtneaceieaafjdaaKeysDrawW
import Derived.Test.YtneaceieaafjdaaNextW
namespace Go.Proofs.Ytneaceieaafjdaa
open Go.RowKit

attribute [local go_sem ↓] Go.wp_at_zero Go.wp_at_succ

theorem own_app {B : Nat} {W w w' : World} {v v' : Value} {l : List Int} {x : Int} (h : OwnI B w v l) (hb : Below B W w) (hB : B ≤ w.heap.size) (hg : w.grownBy w' v.ownBlock) (ho : w'.ownsRow B 3 1 v' (l.length + 1) (l.map (Value.int .i64) ++ [.int .i64 x])) : OwnI B w' v' (l ++ [x]) ∧ Below B W w' := by
  refine ⟨?_, hb.grown hg hB (fun j hj => ?_)⟩
  · unfold OwnI
    rw [List.length_append, List.map_append]
    exact ho
  · rcases h.2 with ⟨rfl, _⟩ | ⟨g', cap', cur, rfl, hb', _⟩
    · cases hj
    · simp only [Value.ownBlock, Option.some.injEq] at hj
      omega

set_option maxHeartbeats 1000000 in
theorem l31Union_any (w : World) (va vb : Value) (a b : List Int) (ha : Ins w va a) (hb : Ins w vb b) (hla : a.length ≤ 100) (hlb : b.length ≤ 100) :
    Calls Try.prog 51 #[va, vb] w fun e w' => ∃ v l, e = .returned v ∧ l.length ≤ 6 ∧ OwnI w.heap.size w' v l ∧ Below w.heap.size w w' := by
  obtain ⟨i0, hi0, hz0, hz1, hz2⟩ := info_parts infoI
  have HA := hide ha
  have HB := hide hb
  clear ha hb
  go_enter Try.func51, Try.ntmps51
  go_wp2
  go_loopw [5, 6] (fun v i w' => ∃ (k : Nat) (l : List Int), i = .int .i64 (k + 1) ∧ k ≤ 6 ∧ l.length ≤ k ∧ OwnI w.heap.size w' v l ∧ Below w.heap.size w w') (fun _ i _ => (8 - intOf i).toNat)
  case atStart => exact ⟨0, [], rfl, by omega, by simp, OwnI.empty w, below1 _ _⟩
  case round =>
    obtain ⟨k, l, rfl, hk, hl, ho, hw⟩ := hrel
    obtain ⟨ua, uc, hu⟩ := ho.form
    subst hu
    have O := hide ho
    have HW := hide hw
    clear ho hw
    by_cases hlt : k < 6
    · have hlt' : (k : Int) + 1 ≤ 6 := by omega
      have z1 : Ky.both a [(k : Int) + 1] ≤ 1000 := Nat.le_trans (Ky.both_le _ _) (by simp; omega)
      have z2 : Ky.both b [(k : Int) + 1] ≤ 1000 := Nat.le_trans (Ky.both_le _ _) (by simp; omega)
      go_wp2_with fail
      have b7 := below1 wr (.cells #[.int .i64 ((k : Int) + 1)] 3)
      refine (l2Both_b _ _ _ a [(k : Int) + 1] (((unhide HA).later (unhide HW)).later b7) (Ins.one wr _ _) (by omega) (by simp)).mono ?_
      have O7 := hide ((unhide O).later b7)
      have W7 := hide ((unhide HW).trans (b7.mono (unhide HW).size))
      clear O HW b7
      generalize wr.alloc _ = V7 at *
      rintro e w8 ⟨rfl, b8⟩
      have O8 := hide ((unhide O7).later b8)
      have W8 := hide ((unhide W7).trans (b8.mono (unhide W7).size))
      clear O7 W7 b8
      clear V7
      generalize Ky.both a [(k : Int) + 1] = x at *
      go_wp2_with fail
      have b9 := below1 w8 (.cells #[.int .i64 ((k : Int) + 1)] 3)
      refine (l2Both_b _ _ _ b [(k : Int) + 1] (((unhide HB).later (unhide W8)).later b9) (Ins.one w8 _ _) (by omega) (by simp)).mono ?_
      have O9 := hide ((unhide O8).later b9)
      have W9 := hide ((unhide W8).trans (b9.mono (unhide W8).size))
      clear O8 W8 b9
      generalize w8.alloc _ = V9 at *
      rintro e w10 ⟨rfl, b10⟩
      have O10 := hide ((unhide O9).later b10)
      have W10 := hide ((unhide W9).trans (b10.mono (unhide W9).size))
      clear O9 W9 b10
      clear V9
      generalize Ky.both b [(k : Int) + 1] = y at *
      have ew : IntKind.i64.wrap ((x : Int) + (y : Int)) = (x : Int) + (y : Int) := by simp [IntKind.wrap, IntKind.bits, IntKind.signed]; omega
      have hsz := (unhide W10).size
      by_cases hgt : 0 < x + y
      · have hgt' : (0 : Int) < (x : Int) + (y : Int) := by omega
        go_wp2_with (first
          | (at_builtin; refine wpList_append_own _ rfl _ _ 23 rfl w.heap.size 3 i0 (.int .i64 0) 1 8 Try.underlying23 hi0 hz0 hz1 hz2 rfl (by decide) _ l.length (l.map (Value.int .i64)) rfl ((unhide O10).later (below1 _ _)) ⟨w10.heap.size, 0, none⟩ 1 1 [.int .i64 ((k : Int) + 1)] rfl rfl (cell_one_new _ _ _) (ints_oneCell .i64 [(k : Int) + 1]) (by unfold maxLen; omega) (by omega) (by simp; omega) ?_; intro v' w11 hown' hgrow11 hnil11)
          | go_in)
        have O11 := hide (own_app ((unhide O10).later (below1 w10 (.cells #[.int .i64 ((k : Int) + 1)] 3))) ((unhide W10).trans ((below1 _ _).mono hsz)) (by simp; omega) hgrow11 hown')
        clear hown' hgrow11 hnil11 O10 W10
        go_roundw
        case rel => exact ⟨k + 1, l ++ [(k : Int) + 1], by go_num, by omega, by rw [List.length_append]; simp only [List.length_cons, List.length_nil]; omega, (unhide O11).1, (unhide O11).2⟩
        case measure => simp [intOf]; omega
      · have hgt' : ¬ (0 : Int) < (x : Int) + (y : Int) := by omega
        go_wp2
        go_roundw
        case rel => exact ⟨k + 1, l, by go_num, by omega, by omega, unhide O10, unhide W10⟩
        case measure => simp [intOf]; omega
    · obtain rfl : k = 6 := by omega
      go_wp2
      go_ret
      exact ⟨_, l, rfl, hl, unhide O, unhide HW⟩

theorem wrap_in {v : Int} (h0 : -1000 ≤ v) (h1 : v ≤ 1000) : IntKind.i64.wrap v = v := by simp [IntKind.wrap, IntKind.bits, IntKind.signed]; omega
theorem quo_in {v : Int} (h0 : 0 ≤ v) (h1 : v < 12) : ∃ q, IntKind.i64.wrap (v.tdiv 11) = q ∧ 0 ≤ q ∧ q ≤ 1 := by
  have e : v.tdiv 11 = v / 11 := Int.tdiv_eq_ediv_of_nonneg h0
  exact ⟨v / 11, by rw [e]; exact wrap_in (by omega) (by omega), by omega, by omega⟩
theorem KSt.base' {B : Nat} {W W0 w : World} {blk : Nat} {v : Value} {l : List Int} {p : Nat} (h : KSt B W0 blk w v l p) (hk : Kp W.heap.size blk W W0) (hB : B ≤ W.heap.size) (hblk : blk < W.heap.size) : KSt B W blk w v l p :=
  ⟨h.rd, hB, hblk, hk.trans h.kp hk.size, h.own.mono hk.size⟩

/-- A reader over bytes, behind the two boxes of the answer. -/
theorem open_behind2 (w : World) (a : Option Addr) (len cap : Nat) (h : Bytes w a len cap) (o o2 : Obj) :
    Calls Try.prog 41 #[.slice a len cap] ((w.alloc o).alloc o2) fun e w' => e = .returned (.pointer (some ⟨w.heap.size + 2, 0, none⟩)) ∧ Rd (w.heap.size + 2) w' (w.heap.size + 2) 0 ∧ w'.heap[w.heap.size]? = some o ∧ w'.heap[w.heap.size + 1]? = some o2 ∧ Below w.heap.size w w' ∧ w.heap.size + 2 < w'.heap.size := by
  have hz : (w.alloc o).heap.size = w.heap.size + 1 := by simp
  have h0 := heap_alloc_new w o
  have hb := below1 w o
  have h1 := h.later hb
  generalize w.alloc o = W0 at *
  refine (open_behind W0 a len cap h1 o2).mono ?_
  rintro e w1 ⟨rfl, hr1, h2, b1, hlt⟩
  rw [hz] at hr1 h2 hlt
  exact ⟨by rw [hz], hr1, (b1.block _ (by omega)).trans h0, h2, hb.trans (b1.mono hb.size), hlt⟩

theorem KSt.later {B : Nat} {W w w' : World} {blk : Nat} {v : Value} {l : List Int} {p : Nat} (h : KSt B W blk w v l p) (hb : Below w.heap.size w w') : KSt B W blk w' v l p :=
  h.keep (Kp.of_below hb) (h.rd.later (Nat.le_trans h.lB h.kp.size) hb)
theorem KSt.other {B : Nat} {W w : World} {blk : Nat} {v v' : Value} {l l' : List Int} {p : Nat} (h : KSt B W blk w v l p) (ho : OwnI W.heap.size w v' l') : KSt B W blk w v' l' p := ⟨h.rd, h.lB, h.lt, h.kp, ho⟩
theorem sig_box {w : World} {g : Nat} {a b c d : Value} {t : TypeId} (h : w.heap[g]? = some (.cells #[a, b, c, d] t (0, 0))) : w.cell? ⟨g, 0, none⟩ = some a ∧ w.cell? ⟨g, 1, none⟩ = some b ∧ w.cell? ⟨g, 2, none⟩ = some c ∧ w.cell? ⟨g, 3, none⟩ = some d ∧ w.frozen? ⟨g, 0, none⟩ = false ∧ w.frozen? ⟨g, 1, none⟩ = false ∧ w.frozen? ⟨g, 2, none⟩ = false ∧ w.frozen? ⟨g, 3, none⟩ = false := ⟨cellOf h 0, cellOf h 1, cellOf h 2, cellOf h 3, frozenOf h 0, frozenOf h 1, frozenOf h 2, frozenOf h 3⟩

/-- The two answers are laid into their boxes, which are older than the rows. -/
theorem fin_next {B : Nat} {W w V V2 : World} {blk p R : Nat} {va vb vu a b c e0 e1 e2 e3 : Value} {la lb lu : List Int} {r0 r1 r2 s0 s1 s2 s3 : Value} {t t2 : TypeId} (ha : KSt B W blk w va la p) (hb : KSt B W blk w vb lb p) (hu : KSt B W blk w vu lu p)
    (hR : w.heap[R]? = some (.cells #[r0, r1, r2] t (0, 0))) (hQ : w.heap[R + 1]? = some (.cells #[s0, s1, s2, s3] t2 (0, 0))) (h1 : R + 1 < W.heap.size)
    (hV : V = ((w.setCell ⟨R, 0, none⟩ a).setCell ⟨R, 1, none⟩ b).setCell ⟨R, 2, none⟩ c) (hV2 : V2 = (((V.setCell ⟨R + 1, 0, none⟩ e0).setCell ⟨R + 1, 1, none⟩ e1).setCell ⟨R + 1, 2, none⟩ e2).setCell ⟨R + 1, 3, none⟩ e3) :
    (V2.cell? ⟨R, 0, none⟩ = some a ∧ V2.cell? ⟨R, 1, none⟩ = some b ∧ V2.cell? ⟨R, 2, none⟩ = some c) ∧ (V2.cell? ⟨R + 1, 0, none⟩ = some e0 ∧ V2.cell? ⟨R + 1, 1, none⟩ = some e1 ∧ V2.cell? ⟨R + 1, 2, none⟩ = some e2 ∧ V2.cell? ⟨R + 1, 3, none⟩ = some e3) ∧ OwnI W.heap.size V2 va la ∧ OwnI W.heap.size V2 vb lb ∧ OwnI W.heap.size V2 vu lu ∧ ∀ n, n ≤ R → n ≤ w.heap.size → Below n w V2 := by
  have far : ∀ j, j ≠ R → j ≠ R + 1 → V2.heap[j]? = w.heap[j]? := fun j h1 h2 => by
    rw [hV2, Below.heap_setCell _ _ _ _ (by exact h2), Below.heap_setCell _ _ _ _ (by exact h2), Below.heap_setCell _ _ _ _ (by exact h2), Below.heap_setCell _ _ _ _ (by exact h2), hV, Below.heap_setCell _ _ _ _ (by exact h1), Below.heap_setCell _ _ _ _ (by exact h1), Below.heap_setCell _ _ _ _ (by exact h1)]
  have hVR : V.heap[R]? = some (.cells #[a, b, c] t (0, 0)) := by rw [hV, heapSet (heapSet (heapSet hR))]; rfl
  have hVQ : V.heap[R + 1]? = some (.cells #[s0, s1, s2, s3] t2 (0, 0)) := by
    rw [hV, Below.heap_setCell _ _ _ _ (by show R + 1 ≠ R; omega), Below.heap_setCell _ _ _ _ (by show R + 1 ≠ R; omega), Below.heap_setCell _ _ _ _ (by show R + 1 ≠ R; omega)]
    exact hQ
  have hR2 : V2.heap[R]? = some (.cells #[a, b, c] t (0, 0)) := by
    rw [hV2, Below.heap_setCell _ _ _ _ (by show R ≠ R + 1; omega), Below.heap_setCell _ _ _ _ (by show R ≠ R + 1; omega), Below.heap_setCell _ _ _ _ (by show R ≠ R + 1; omega), Below.heap_setCell _ _ _ _ (by show R ≠ R + 1; omega)]
    exact hVR
  have hQ2 : V2.heap[R + 1]? = some (.cells #[e0, e1, e2, e3] t2 (0, 0)) := by rw [hV2, heapSet (heapSet (heapSet (heapSet hVQ)))]; rfl
  refine ⟨root_box hR2, ⟨cellOf hQ2 0, cellOf hQ2 1, cellOf hQ2 2, cellOf hQ2 3⟩, ha.own.keep (fun g _ _ hg _ => far g (by omega) (by omega)), hb.own.keep (fun g _ _ hg _ => far g (by omega) (by omega)), hu.own.keep (fun g _ _ hg _ => far g (by omega) (by omega)), fun n hn _ => ?_⟩
  rw [hV2, hV]
  exact (((((((Below.refl n w).setCell (by exact hn) _).setCell (by exact hn) _).setCell (by exact hn) _).setCell (by show n ≤ R + 1; omega) _).setCell (by show n ≤ R + 1; omega) _).setCell (by show n ≤ R + 1; omega) _).setCell (by show n ≤ R + 1; omega) _

set_option maxHeartbeats 2000000 in
set_option maxRecDepth 100000 in
theorem drawRootNext_any (w : World) (a : Option Addr) (len cap : Nat) (h : Bytes w a len cap) :
    Calls Try.prog 30 #[.slice a len cap] w fun e w' => ∃ n d v k n2 d2 v2 k2 vb by', e = .returned (.tuple #[.agg #[.int .i64 n, v, .int .i64 d], .agg #[.int .i64 n2, v2, .int .i64 d2, vb]]) ∧ k.length ≤ 7 ∧ k2.length ≤ 7 ∧ by'.length ≤ 7 ∧ n2 ≤ 100 ∧ Ins w' v k ∧ Ins w' v2 k2 ∧ Ins w' vb by' ∧ Below w.heap.size w w' := by
  go_enter Try.func30, Try.ntmps30
  go_wp2_with fail
  refine (open_behind2 w a len cap h _ _).mono ?_
  rintro e w1 ⟨rfl, hr1, h01, h02, b1, hz⟩
  have HB1 := hide b1
  have HR1 := hide hr1
  have H1 := hide (And.intro h01 h02)
  clear b1 hr1 h h01 h02
  go_wp2_with fail
  refine (l71Root_any _ (w.heap.size + 2) 0 (unhide HR1) (by omega) (by omega)).mono ?_
  rintro e w2 ⟨n, d, v2, k, p2, rfl, n0, n1, d0, d1, hl2, hp2, hs2⟩
  obtain ⟨ak, ck, hv2⟩ := hs2.own.form
  subst hv2
  have hz2 := hs2.kp.size
  have HS3 := hide (hs2.alloc (.cells #[.int .i64 n, .slice ak k.length ck, .int .i64 d] 32))
  have HA3 := hide (heap_alloc_new w2 (.cells #[.int .i64 n, .slice ak k.length ck, .int .i64 d] 32))
  clear hs2 HR1
  go_wp2_with fail
  refine (l71Root_any _ (w.heap.size + 2) p2 (unhide HS3).rd (Nat.le_trans (by omega) (unhide HS3).kp.size) (by omega)).mono ?_
  generalize w2.alloc _ = W3 at *
  rintro e w4 ⟨n4, d4, v4, k4, p4, rfl, n40, n41, d40, d41, hl4, hp4, hs4⟩
  obtain ⟨a4, c4, hv4⟩ := hs4.own.form
  subst hv4
  have hz3 := (unhide HS3).kp.size
  have HA4 := hide ((hs4.kp.block _ (heapLt (unhide HA3)) (by omega)).trans (unhide HA3))
  have HS4 := hide ((unhide HS3).keep hs4.kp hs4.rd)
  have HT4 := hide (hs4.base' (unhide HS3).kp (by omega) (by omega))
  clear hs4 HS3 HA3 hz3
  clear W3
  generalize w2.heap.size = g at *
  have hgl := heapLt (unhide HA4)
  have HS5 := hide ((unhide HS4).alloc (.cells #[.int .i64 n4, .slice a4 k4.length c4, .int .i64 d4] 32))
  have HT5 := hide ((unhide HT4).alloc (.cells #[.int .i64 n4, .slice a4 k4.length c4, .int .i64 d4] 32))
  have HA5 := hide ((Below.heap_alloc w4 (.cells #[.int .i64 n4, .slice a4 k4.length c4, .int .i64 d4] 32) _ hgl).trans (unhide HA4))
  have HX5 := hide (heap_alloc_new w4 (.cells #[.int .i64 n4, .slice a4 k4.length c4, .int .i64 d4] 32))
  clear HS4 HT4 HA4
  obtain ⟨q0, q1, q2⟩ := root_box (unhide HA5)
  obtain ⟨r0, r1, r2, f0, f1, f2⟩ := root_box6 (unhide HX5)
  have ew1 : IntKind.i64.wrap (n + 1) = n + 1 := wrap_in (by omega) (by omega)
  have hge4 := (unhide HS5).kp.size
  have hgX : g ≠ w4.heap.size := by omega
  go_wp2_with fail
  generalize w4.alloc _ = W5 at *
  go_region_held3 (fun w' => w'.cell? ⟨g, 0, none⟩ = some (.int .i64 n))
    (first
      | (go_keep; done)
      | exact (World.cell?_setCell_other _ _ _ _ (fun e => hgX (by injection e with e _ _; exact e.symm))).trans (root_box (unhide HA7)).1
      | exact (root_box (unhide HA7)).1
      | exact (root_box (unhide HA6)).1
      | fail)
    (first
      | (go_at_call 47; refine (pick_any _ (w.heap.size + 2) p4 12 (by exact (unhide HS5).drew.rd) (by omega) (by omega) (by omega)).mono ?_; rintro e w6 ⟨v6, rfl, v60, v61, hr6, hk6⟩; have HA6 := hide ((hk6.block _ (heapLt (unhide HA5)) (by omega)).trans (unhide HA5)); have HX6 := hide ((hk6.block _ (heapLt (unhide HX5)) (by omega)).trans (unhide HX5)); have HS6 := hide ((unhide HS5).drew.keep hk6 hr6); have HT6 := hide ((unhide HT5).drew.keep hk6 hr6); obtain ⟨q6, e6, q60, q61⟩ := quo_in v60 v61; have ew2 : IntKind.i64.wrap (n + 1 + q6) = n + 1 + q6 := wrap_in (by omega) (by omega))
      | (go_at_call 47; refine (pick_any _ (w.heap.size + 2) (p4 + 1) 12 (by exact (unhide HS6).rd) (by omega) (by omega) (by omega)).mono ?_; rintro e w7 ⟨v7, rfl, v70, v71, hr7, hk7⟩; have HA7 := hide ((hk7.block _ (heapLt (unhide HA6)) (by omega)).trans (unhide HA6)); have HX7 := hide ((hk7.block _ (heapLt (unhide HX6)) (by omega)).trans (unhide HX6)); have HS7 := hide ((unhide HS6).keep hk7 hr7); have HT7 := hide ((unhide HT6).keep hk7 hr7); obtain ⟨q7, e7, q70, q71⟩ := quo_in v70 v71; have ew3 : IntKind.i64.wrap (n + 1 + q6 - q7) = n + 1 + q6 - q7 := wrap_in (by omega) (by omega); obtain ⟨s0, s1, s2, t0, t1, t2⟩ := root_box6 (unhide HX7)))
  -- behind the number
  have HS8 := hide ((unhide HS7).set (o := 0) (.int .i64 (n + 1 + q6 - q7)) (unhide HX7) (by decide) (by omega))
  have HT8 := hide ((unhide HT7).set (o := 0) (.int .i64 (n + 1 + q6 - q7)) (unhide HX7) (by decide) (by omega))
  have HA8 := hide ((Below.heap_setCell w7 ⟨w4.heap.size, 0, none⟩ (.int .i64 (n + 1 + q6 - q7)) g (by exact hgX)).trans (unhide HA7))
  have hX8 : (w7.setCell ⟨w4.heap.size, 0, none⟩ (.int .i64 (n + 1 + q6 - q7))).heap[w4.heap.size]? = some (.cells #[.int .i64 (n + 1 + q6 - q7), .slice a4 k4.length c4, .int .i64 d4] 32 (0, 0)) := heapSet (unhide HX7)
  have HX8 := hide hX8
  clear HS7 HT7 HA7 HX7 hX8 HS6 HT6 HA6 HX6 HS5 HT5 HA5 HX5 hr6 hk6 hr7 hk7 s0 s1 s2 t0 t1 t2 q0 q1 q2 r0 r1 r2 f0 f1 f2 ew1 ew2 ew3 e6 e7
  generalize w7.setCell _ _ = w8 at *
  generalize w4.heap.size = gX at *
  obtain ⟨x0, x1, x2⟩ := root_box (unhide HA8)
  obtain ⟨y0, y1, y2⟩ := root_box (unhide HX8)
  go_wp2_with fail
  refine (l31Union_any _ _ _ k k4 ((unhide HS8).ins (by omega)) ((unhide HT8).ins (by omega)) (by omega) (by omega)).mono ?_
  rintro e w9 ⟨v9, l9, rfl, hl9, o9, b9⟩
  obtain ⟨a9, c9, hv9⟩ := o9.form
  subst hv9
  have HS9 := hide ((unhide HS8).later b9)
  have HT9 := hide ((unhide HT8).later b9)
  have HU9 := hide ((unhide HS9).other (o9.mono (unhide HS8).kp.size))
  have HA9 := hide ((b9.block _ (heapLt (unhide HA8))).trans (unhide HA8))
  have HX9 := hide ((b9.block _ (heapLt (unhide HX8))).trans (unhide HX8))
  clear HS8 HT8 HA8 HX8 o9 b9 x0 x1 x2 y0 y1 y2
  go_wp2_with fail
  refine (pick_any _ (w.heap.size + 2) (p4 + 1 + 1) 3 (unhide HS9).rd (by omega) (by omega) (by omega)).mono ?_
  rintro e w10 ⟨v10, rfl, v100, v101, hr10, hk10⟩
  have HS10 := hide ((unhide HS9).keep hk10 hr10)
  have HT10 := hide ((unhide HT9).keep hk10 hr10)
  have HU10 := hide ((unhide HU9).keep hk10 hr10)
  have HA10 := hide ((hk10.block _ (heapLt (unhide HA9)) (by omega)).trans (unhide HA9))
  have HX10 := hide ((hk10.block _ (heapLt (unhide HX9)) (by omega)).trans (unhide HX9))
  clear HS9 HT9 HU9 HA9 HX9 hr10 hk10
  by_cases hv : v10 = 0
  · subst hv
    clear HU10
    go_wp2_with fail
    refine (l71Keys_any _ (w.heap.size + 2) (p4 + 1 + 1 + 1) (unhide HS10).rd (Nat.le_trans (by omega) (unhide HS10).kp.size) (by omega)).mono ?_
    rintro e w11 ⟨v11, l11, p11, rfl, hl11, _, hp11, hs11⟩
    obtain ⟨a11, c11, hv11⟩ := hs11.own.form
    subst hv11
    have HS11 := hide ((unhide HS10).keep hs11.kp hs11.rd)
    have HT11 := hide ((unhide HT10).keep hs11.kp hs11.rd)
    have HU11 := hide (hs11.base' (unhide HS10).kp (by omega) (by omega))
    have HA11 := hide ((hs11.kp.block _ (heapLt (unhide HA10)) (by omega)).trans (unhide HA10))
    have HX11 := hide ((hs11.kp.block _ (heapLt (unhide HX10)) (by omega)).trans (unhide HX10))
    clear HS10 HT10 HA10 HX10 hs11
    obtain ⟨x0, x1, x2⟩ := root_box (unhide HA11)
    obtain ⟨y0, y1, y2⟩ := root_box (unhide HX11)
    have hR := ((unhide HS11).kp.block _ (show w.heap.size < w1.heap.size by omega) (by omega)).trans (unhide H1).1
    have hQ := ((unhide HS11).kp.block _ (show w.heap.size + 1 < w1.heap.size by omega) (by omega)).trans (unhide H1).2
    obtain ⟨z0, z1, z2, u0, u1, u2⟩ := root_box6 hR
    obtain ⟨s0, s1, s2, s3, t0, t1, t2, t3⟩ := sig_box hQ
    have HRR := hide hR
    have HQQ := hide hQ
    clear hR hQ
    have ng0 : ¬ w.heap.size = g := by omega
    have ng1 : ¬ w.heap.size + 1 = g := by omega
    have nx0 : ¬ w.heap.size = gX := by omega
    have nx1 : ¬ w.heap.size + 1 = gX := by omega
    go_wp2_with fail
    go_region_held3 (fun w' => (w'.cell? ⟨g, 0, none⟩ = some (.int .i64 n) ∧ w'.cell? ⟨g, 1, none⟩ = some (.slice ak k.length ck) ∧ w'.cell? ⟨g, 2, none⟩ = some (.int .i64 d)) ∧ (w'.cell? ⟨gX, 0, none⟩ = some (.int .i64 (n + 1 + q6 - q7)) ∧ w'.cell? ⟨gX, 1, none⟩ = some (.slice a4 k4.length c4) ∧ w'.cell? ⟨gX, 2, none⟩ = some (.int .i64 d4)))
      (first
        | (go_keep; done)
        | fail)
      (fail)

    go_wp2
    obtain ⟨V, hV⟩ : ∃ V, V = ((w11.setCell ⟨w.heap.size, 0, none⟩ (.int .i64 n)).setCell ⟨w.heap.size, 1, none⟩ (.slice ak k.length ck)).setCell ⟨w.heap.size, 2, none⟩ (.int .i64 d) := ⟨_, rfl⟩
    rw [← hV]
    obtain ⟨V2, hV2⟩ : ∃ V2, V2 = (((V.setCell ⟨w.heap.size + 1, 0, none⟩ (.int .i64 (n + 1 + q6 - q7))).setCell ⟨w.heap.size + 1, 1, none⟩ (.slice a4 k4.length c4)).setCell ⟨w.heap.size + 1, 2, none⟩ (.int .i64 d4)).setCell ⟨w.heap.size + 1, 3, none⟩ (.slice a11 l11.length c11) := ⟨_, rfl⟩
    rw [← hV2]
    obtain ⟨fA, fB, oA, oB, oU, fb⟩ := fin_next (unhide HS11) (unhide HT11) (unhide HU11) (unhide HRR) (unhide HQQ) (by omega) hV hV2
    obtain ⟨c0, c1, c2⟩ := fA
    obtain ⟨e0, e1, e2, e3⟩ := fB
    have BB : Below w.heap.size w V2 := (unhide HB1).trans ((((unhide HS11).kp.mono (show w.heap.size ≤ w1.heap.size by omega)).below (by omega)).trans (fb w.heap.size (by omega) (by exact Nat.le_trans (show w.heap.size ≤ w1.heap.size by omega) (unhide HS11).kp.size)))
    exact bodyPost_ret (v := .tuple #[.agg #[.int .i64 n, .slice ak k.length ck, .int .i64 d], .agg #[.int .i64 (n + 1 + q6 - q7), .slice a4 k4.length c4, .int .i64 d4, .slice a11 l11.length c11]]) (by simp [results, Try.results30, go_sem, c0, c1, c2, e0, e1, e2, e3]) rfl
      ⟨n, d, _, k, n + 1 + q6 - q7, d4, _, k4, _, l11, rfl, hl2, hl4, by omega, by omega, oA.ins (by omega), oB.ins (by omega), oU.ins (by omega), BB.drew⟩
  · have hvb : (v10 == 0) = false := by simp [hv]
    obtain ⟨x0, x1, x2⟩ := root_box (unhide HA10)
    obtain ⟨y0, y1, y2⟩ := root_box (unhide HX10)
    have hR := ((unhide HS10).kp.block _ (show w.heap.size < w1.heap.size by omega) (by omega)).trans (unhide H1).1
    have hQ := ((unhide HS10).kp.block _ (show w.heap.size + 1 < w1.heap.size by omega) (by omega)).trans (unhide H1).2
    obtain ⟨z0, z1, z2, u0, u1, u2⟩ := root_box6 hR
    obtain ⟨s0, s1, s2, s3, t0, t1, t2, t3⟩ := sig_box hQ
    have HRR := hide hR
    have HQQ := hide hQ
    clear hR hQ
    have ng0 : ¬ w.heap.size = g := by omega
    have ng1 : ¬ w.heap.size + 1 = g := by omega
    have nx0 : ¬ w.heap.size = gX := by omega
    have nx1 : ¬ w.heap.size + 1 = gX := by omega
    go_wp2_with fail
    go_region_held3 (fun w' => (w'.cell? ⟨g, 0, none⟩ = some (.int .i64 n) ∧ w'.cell? ⟨g, 1, none⟩ = some (.slice ak k.length ck) ∧ w'.cell? ⟨g, 2, none⟩ = some (.int .i64 d)) ∧ (w'.cell? ⟨gX, 0, none⟩ = some (.int .i64 (n + 1 + q6 - q7)) ∧ w'.cell? ⟨gX, 1, none⟩ = some (.slice a4 k4.length c4) ∧ w'.cell? ⟨gX, 2, none⟩ = some (.int .i64 d4)))
      (first
        | (go_keep; done)
        | fail)
      (fail)

    go_wp2
    obtain ⟨V, hV⟩ : ∃ V, V = ((w10.setCell ⟨w.heap.size, 0, none⟩ (.int .i64 n)).setCell ⟨w.heap.size, 1, none⟩ (.slice ak k.length ck)).setCell ⟨w.heap.size, 2, none⟩ (.int .i64 d) := ⟨_, rfl⟩
    rw [← hV]
    obtain ⟨V2, hV2⟩ : ∃ V2, V2 = (((V.setCell ⟨w.heap.size + 1, 0, none⟩ (.int .i64 (n + 1 + q6 - q7))).setCell ⟨w.heap.size + 1, 1, none⟩ (.slice a4 k4.length c4)).setCell ⟨w.heap.size + 1, 2, none⟩ (.int .i64 d4)).setCell ⟨w.heap.size + 1, 3, none⟩ (.slice a9 l9.length c9) := ⟨_, rfl⟩
    rw [← hV2]
    obtain ⟨fA, fB, oA, oB, oU, fb⟩ := fin_next (unhide HS10) (unhide HT10) (unhide HU10) (unhide HRR) (unhide HQQ) (by omega) hV hV2
    obtain ⟨c0, c1, c2⟩ := fA
    obtain ⟨e0, e1, e2, e3⟩ := fB
    have BB : Below w.heap.size w V2 := (unhide HB1).trans ((((unhide HS10).kp.mono (show w.heap.size ≤ w1.heap.size by omega)).below (by omega)).trans (fb w.heap.size (by omega) (by exact Nat.le_trans (show w.heap.size ≤ w1.heap.size by omega) (unhide HS10).kp.size)))
    exact bodyPost_ret (v := .tuple #[.agg #[.int .i64 n, .slice ak k.length ck, .int .i64 d], .agg #[.int .i64 (n + 1 + q6 - q7), .slice a4 k4.length c4, .int .i64 d4, .slice a9 l9.length c9]]) (by simp [results, Try.results30, go_sem, c0, c1, c2, e0, e1, e2, e3]) rfl
      ⟨n, d, _, k, n + 1 + q6 - q7, d4, _, k4, _, l9, rfl, hl2, hl4, by omega, by omega, oA.ins (by omega), oB.ins (by omega), oU.ins (by omega), BB.drew⟩

theorem implRootNext_b {r : Bool} (w : World) (n d n2 d2 : Int) (v v2 vb : Value) (k k2 by' : List Int) (hr : Ky.next n k d n2 k2 d2 by' = r) (h : Ins w v k) (h2 : Ins w v2 k2) (hb : Ins w vb by') : Calls Try.prog 31 #[.agg #[.int .i64 n, v, .int .i64 d], .agg #[.int .i64 n2, v2, .int .i64 d2, vb]] w fun e w' => e = .returned (.bool r) ∧ Below w.heap.size w w' :=
  (implRootNext_any w n d n2 d2 v v2 vb k k2 by' h h2 hb).mono fun e w' ⟨he, hq⟩ => ⟨by rw [he, hr], hq⟩
theorem specRootNext_b {r : Bool} (w : World) (n d n2 d2 : Int) (v v2 vb : Value) (k k2 by' : List Int) (hr : Ky.next n k d n2 k2 d2 by' = r) (h : Ins w v k) (h2 : Ins w v2 k2) (hb : Ins w vb by') : Calls Try.prog 32 #[.agg #[.int .i64 n, v, .int .i64 d], .agg #[.int .i64 n2, v2, .int .i64 d2, vb]] w fun e w' => e = .returned (.bool r) ∧ Below w.heap.size w w' :=
  (specRootNext_any w n d n2 d2 v v2 vb k k2 by' h h2 hb).mono fun e w' ⟨he, hq⟩ => ⟨by rw [he, hr], hq⟩
end Go.Proofs.Ytneaceieaafjdaa
