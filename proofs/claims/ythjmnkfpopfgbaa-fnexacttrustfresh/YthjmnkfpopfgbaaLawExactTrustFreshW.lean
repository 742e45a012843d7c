/- The walk of FnExactTrustFresh: it returns true; for every trust. -/
import Derived.Test.YthjmnkfpopfgbaaCopyTTW
import Derived.Test.YthjmnkfpopfgbaaOpenTrustW
import Derived.Test.YthjmnkfpopfgbaaFreshW
namespace Go.Proofs.Ythjmnkfpopfgbaa
open Go.RowKit

attribute [local go_sem ↓] Go.wp_at_zero Go.wp_at_succ

set_option maxHeartbeats 4000000 in
set_option maxRecDepth 100000 in
theorem exactTrustFresh_walk (w : World) (x : Int) (a : Option Addr) (n c : Nat) (y : Int) (has : Bool) (z t : Int) (b : Option Addr) (m e : Nat) (now : Int) (hR : RowIn w a n c) (hM : MetasIn w b m e) :
    Calls Try.prog 15 #[.agg #[.int .i64 x, .slice a n c, .int .i64 y, .bool has, .int .i64 z, .int .i64 t, .slice b m e], .int .i64 now] w fun e w' => e = .returned (.bool true) ∧ Below w.heap.size w w' := by
  obtain ⟨hn, P⟩ := hR
  obtain ⟨hm, Q⟩ := hM
  have x1 := heap_alloc_new w (.cells #[.int .i64 x, .slice a n c, .int .i64 y, .bool has, .int .i64 z, .int .i64 t, .slice b m e] 66)
  have H0 := hide (And.intro x1 (below1 w (.cells #[.int .i64 x, .slice a n c, .int .i64 y, .bool has, .int .i64 z, .int .i64 t, .slice b m e] 66)))
  have HP := hide (And.intro P Q)
  clear P Q x1
  go_enter Try.func15, Try.ntmps15
  go_wp2_with fail
  refine (szTrust_any _ x y a n c has z t b m e 1048576 (by omega) (by omega) hn hm).mono ?_
  generalize w.alloc _ = W0 at *
  rintro e' w1 ⟨b1, ⟨hl1, hl2, r, rfl, r0, r1⟩ | rfl⟩
  · obtain ⟨l, rfl, hi⟩ := (unhide HP).1 hl1
    obtain ⟨l2, rfl, hj⟩ := (unhide HP).2 hl2
    have B1 := (unhide H0).2.trans (b1.mono (unhide H0).2.size)
    have x1 := (b1.block _ (heapLt (unhide H0).1)).trans (unhide H0).1
    have X1 : Hid (Tb w1 w.heap.size x y (.slice a l.length c) l has z t (.slice b l2.length e) l2) := ⟨heapLt x1, cellOf x1 0, cellOf x1 1, cellOf x1 2, cellOf x1 3, cellOf x1 4, cellOf x1 5, cellOf x1 6, hi.later B1, hj.later B1⟩
    have HB1 := hide B1
    have CT := hide (fun (W : World) h1 h2 => toTrust_any W ⟨x, l, y, has, z, t, l2⟩ (.slice a l.length c) (.slice b l2.length e) h1 h2 hl1 hl2)
    dsimp only [tvT, tv] at CT
    clear H0 HP b1 B1 x1 hi hj
    obtain ⟨p0, p1, p2, p3, p4, p5, p6⟩ := (unhide X1).cells
    have hr : ¬ r < 0 := by omega
    go_wp2_with fail
    refine (unhide CT _ (unhide X1).ins (unhide X1).trs).mono ?_
    rintro e2 w2 ⟨kv2, mv2, rfl, i2, j2, b2⟩
    try dsimp only at i2 j2
    obtain ⟨ka, kc, e5⟩ := i2.slice
    obtain ⟨ma, mc, e6⟩ := j2.slice
    subst e5 e6
    have X2 := hide ((unhide X1).later b2)
    have B2 := hide ((unhide HB1).trans (b2.mono (unhide HB1).size))
    have IJ := hide (And.intro i2 j2)
    have CS := hide (specTrustFresh_any w2 x y _ l has z t _ l2 now i2 j2)
    dsimp only [tv] at CS
    clear X1 HB1 b2 i2 j2 p0 p1 p2 p3 p4 p5 p6
    go_wp2_with fail
    refine (unhide CS).mono ?_
    rintro e3 w3 ⟨rfl, b3⟩
    have X3 := hide ((unhide X2).later b3)
    have B3 := hide ((unhide B2).trans (b3.mono (unhide B2).size))
    clear X2 B2 b3 IJ CS
    obtain ⟨p0, p1, p2, p3, p4, p5, p6⟩ := (unhide X3).cells
    go_wp2_with fail
    refine (unhide CT _ (unhide X3).ins (unhide X3).trs).mono ?_
    rintro e4 w4 ⟨kv4, mv4, rfl, i4, j4, b4⟩
    try dsimp only at i4 j4
    obtain ⟨na, nc, e5⟩ := i4.slice
    obtain ⟨oa, oc, e6⟩ := j4.slice
    subst e5 e6
    have Y5 := hide (Tb.new (n := x) (d := y) (has := has) (num := z) (til := t) i4 j4 31)
    have b5 := below1 w4 (.cells #[.int .i64 x, .slice na l.length nc, .int .i64 y, .bool has, .int .i64 z, .int .i64 t, .slice oa l2.length oc] 31)
    have X4 := (unhide X3).later b4
    have X5 := hide (X4.later b5)
    have B4 := (unhide B3).trans (b4.mono (unhide B3).size)
    have B5 := hide (B4.trans (b5.mono B4.size))
    clear X3 B3 b4 b5 X4 B4 i4 j4 p0 p1 p2 p3 p4 p5 p6
    have CI := hide (fun (W : World) h1 h2 => implTrustFresh_any W x y (.slice na l.length nc) l has z t (.slice oa l2.length oc) l2 now h1 h2)
    dsimp only [tv] at CI
    try dsimp only [tvT, tv]
    go_wp2_with fail
    refine (unhide CI _ (unhide Y5).ins (unhide Y5).trs).mono ?_
    generalize w4.heap.size = G at *
    generalize w4.alloc _ = W5 at *
    clear w4
    rintro e6 w6 ⟨rfl, b6⟩
    have X6 := hide ((unhide X5).later b6)
    have Y6 := hide ((unhide Y5).later b6)
    have B6 := hide ((unhide B5).trans (b6.mono (unhide B5).size))
    have hok : (Tr.fresh x l y has z t l2 now != Tr.fresh x l y has z t l2 now) = false := by simp
    generalize Tr.fresh x l y has z t l2 now = ok at *
    clear X5 Y5 B5 b6 CI
    obtain ⟨p0, p1, p2, p3, p4, p5, p6⟩ := (unhide X6).cells
    obtain ⟨q0, q1, q2, q3, q4, q5, q6⟩ := (unhide Y6).cells
    go_wp2_with fail
    refine wp_region_held_drew (S := fun w' => (w'.cell? ⟨w.heap.size, 0, none⟩ = some (.int .i64 x) ∧ w'.cell? ⟨w.heap.size, 1, none⟩ = some (.slice a l.length c) ∧ w'.cell? ⟨w.heap.size, 2, none⟩ = some (.int .i64 y) ∧ w'.cell? ⟨w.heap.size, 3, none⟩ = some (.bool has) ∧ w'.cell? ⟨w.heap.size, 4, none⟩ = some (.int .i64 z) ∧ w'.cell? ⟨w.heap.size, 5, none⟩ = some (.int .i64 t) ∧ w'.cell? ⟨w.heap.size, 6, none⟩ = some (.slice b l2.length e)) ∧ (w'.cell? ⟨G, 0, none⟩ = some (.int .i64 x) ∧ w'.cell? ⟨G, 1, none⟩ = some (.slice na l.length nc) ∧ w'.cell? ⟨G, 2, none⟩ = some (.int .i64 y) ∧ w'.cell? ⟨G, 3, none⟩ = some (.bool has) ∧ w'.cell? ⟨G, 4, none⟩ = some (.int .i64 z) ∧ w'.cell? ⟨G, 5, none⟩ = some (.int .i64 t) ∧ w'.cell? ⟨G, 6, none⟩ = some (.slice oa l2.length oc))) (by kernel_rfl) ?_ (fun hHeld => ?_)
    · exact ⟨⟨p0, p1, p2, p3, p4, p5, p6⟩, q0, q1, q2, q3, q4, q5, q6⟩
    clear p0 p1 p2 p3 p4 p5 p6 q0 q1 q2 q3 q4 q5 q6
    have X6d := hide ((unhide X6).later (below_drew w6))
    have Y6d := hide ((unhide Y6).later (below_drew w6))
    have B6d := hide ((unhide B6).trans ((below_drew w6).mono (unhide B6).size))
    clear X6 Y6 B6
    refine anyH_at (i := 0) (d := some 26) rfl rfl (by kernel_rfl) (by kernel_rfl) (by kernel_rfl) (fun _ _ _ h => h) (by rfl) (v := ?_) ?_ (by assumption) ?_
    rotate_left
    · (intro w hSw; (try dsimp only at hSw); go_simp <;> with_reducible rfl)
    simp only [Act.put, List.setIfInBounds_toArray, List.set_cons_zero, List.set_cons_succ]
    refine anyH_at (i := 1) (d := some 27) rfl rfl (by kernel_rfl) (by kernel_rfl) (by kernel_rfl) (fun _ _ _ h => h) (by rfl) (v := ?_) ?_ (by assumption) ?_
    rotate_left
    · (intro w hSw; (try dsimp only at hSw); go_simp <;> with_reducible rfl)
    simp only [Act.put, List.setIfInBounds_toArray, List.set_cons_zero, List.set_cons_succ]
    refine wpAnyH_ready (rs := [2]) (by kernel_rfl) (by simp) ?_
    refine AllReadyH.cons rfl (fun K hK => ?_) AllReadyH.nil
    go_simp
    refine (unhide CT _ (by exact (unhide X6d).ins) (by exact (unhide X6d).trs)).mono ?_
    rintro e7 w7 ⟨kv7, mv7, rfl, i7, j7, b7⟩
    try dsimp only at i7 j7
    obtain ⟨sa, sc, e5⟩ := i7.slice
    obtain ⟨ua, uc, e6⟩ := j7.slice
    subst e5 e6
    have X7 := hide ((unhide X6d).later b7)
    have Y7 := hide ((unhide Y6d).later b7)
    have B7 := hide ((unhide B6d).trans (b7.mono (unhide B6d).size))
    have CE := hide (eqTrust_any w7 ⟨x, l, y, has, z, t, l2⟩ (.slice na l.length nc) (.slice oa l2.length oc) (.slice sa l.length sc) (.slice ua l2.length uc) (unhide Y7).ins (unhide Y7).trs i7 j7)
    dsimp only [tvT, tv] at CE
    clear X6d Y6d B6d b7 i7 j7
    try dsimp only [tvT, tv]
    go_wp2_with fail
    refine hK.out _ _ ?_ (fun hHeldN => ?_)
    · exact ⟨(unhide X7).cells, (unhide Y7).cells⟩
    clear hHeld
    have hHeld := hHeldN
    clear hHeldN
    clear hK K
    try simp only [Act.put, List.setIfInBounds_toArray, List.set_cons_zero, List.set_cons_succ]
    refine wpAnyH_ready (rs := [3]) (by kernel_rfl) (by simp) ?_
    refine AllReadyH.cons rfl (fun K hK => ?_) AllReadyH.nil
    go_simp
    refine (unhide CE).mono ?_
    rintro e8 w8 ⟨rfl, b8⟩
    have X8 := hide ((unhide X7).later b8)
    have Y8 := hide ((unhide Y7).later b8)
    have B8 := hide ((unhide B7).trans (b8.mono (unhide B7).size))
    clear X7 Y7 B7 b8 CE
    go_wp2_with fail
    refine hK.out _ _ ?_ (fun hHeldN => ?_)
    · exact ⟨(unhide X8).cells, (unhide Y8).cells⟩
    clear hHeld
    have hHeld := hHeldN
    clear hHeldN
    clear hK K
    try simp only [Act.put, List.setIfInBounds_toArray, List.set_cons_zero, List.set_cons_succ]
    refine anyH_at (i := 4) (d := some 30) rfl rfl (by kernel_rfl) (by kernel_rfl) (by kernel_rfl) (fun _ _ _ h => h) (by rfl) (v := ?_) ?_ (by assumption) ?_
    rotate_left
    · (intro w hSw; (try dsimp only at hSw); go_simp <;> with_reducible rfl)
    simp only [Act.put, List.setIfInBounds_toArray, List.set_cons_zero, List.set_cons_succ]
    refine wpAnyH_done (by kernel_rfl) ?_ _
    go_wp2
    go_ret
    exact ⟨rfl, unhide B8⟩
  · have B1 := hide ((unhide H0).2.trans (b1.mono (unhide H0).2.size))
    clear H0 HP b1
    go_wp2
    go_ret
    exact ⟨rfl, unhide B1⟩
end Go.Proofs.Ythjmnkfpopfgbaa
