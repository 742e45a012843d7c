/- The walk of FnTrustLate: it returns true; for every code. -/
import Derived.Test.YtkgeekjclcpbpaaTIDrawW
import Derived.Test.YtkgeekjclcpbpaaImplTrIdxW
import Derived.Test.YtkgeekjclcpbpaaMathW
namespace Go.Proofs.Ytkgeekjclcpbpaa
open Go.RowKit

theorem Si.new {w : World} {n2 t2 : Int} {v2 vb : Value} {m2 : List Ix.M} {by' : List Int} (h2 : Trs w v2 m2) (hb : Ins w vb by') (t : TypeId) : Si (w.alloc (.cells #[.int .i64 n2, .int .i64 t2, v2, vb] t)) w.heap.size n2 t2 v2 vb m2 by' :=
  ⟨by rw [sz1]; exact Nat.lt_succ_self _, cellOf (heap_alloc_new _ _) 0, cellOf (heap_alloc_new _ _) 1, cellOf (heap_alloc_new _ _) 2, cellOf (heap_alloc_new _ _) 3, h2.later (below1 _ _), hb.later (below1 _ _)⟩
theorem Si.cells {w : World} {g : Nat} {n2 t2 : Int} {v2 vb : Value} {m2 : List Ix.M} {by' : List Int} (h : Si w g n2 t2 v2 vb m2 by') : w.cell? ⟨g, 0, none⟩ = some (.int .i64 n2) ∧ w.cell? ⟨g, 1, none⟩ = some (.int .i64 t2) ∧ w.cell? ⟨g, 2, none⟩ = some v2 ∧ w.cell? ⟨g, 3, none⟩ = some vb := ⟨h.c0, h.c1, h.c2, h.c3⟩

set_option maxHeartbeats 8000000 in
set_option maxRecDepth 100000 in
theorem trustLate_walk (w : World) (a : Option Addr) (len cap : Nat) (h : Bytes w a len cap) :
    Calls Try.prog 5 #[.slice a len cap] w fun e w' => e = .returned (.bool true) ∧ Below w.heap.size w w' := by
  by_cases hbig : (1048576 : Int) < (len : Int)
  · go_enter Try.func5, Try.ntmps5
    go_wp2
    go_ret
    exact ⟨rfl, Below.refl _ _⟩
  have CD := hide (drawTrustIndex_any w a len cap h)
  unfold tv at CD
  clear h
  go_enter Try.func5, Try.ntmps5
  go_wp2_with fail
  refine (unhide CD).mono ?_
  clear CD
  rintro e w1 ⟨n, d, kv, ks, has, num, til, mv, ms, n2, t2, v2, vb, m2, by', now, rfl, hks, hms, hm2, hby, i1, i2, i3, i4, b1, hroom⟩
  obtain ⟨ka, kc, e1⟩ := i1.slice
  obtain ⟨ma, mc, e2⟩ := i2.slice
  obtain ⟨a2, c2, e3⟩ := i3.slice
  obtain ⟨ab, cb, e4⟩ := i4.slice
  subst e1 e2 e3 e4
  have X2 := Tb.new (n := n) (d := d) (has := has) (num := num) (til := til) i1 i2 30
  have c1 := below1 w1 (.cells #[.int .i64 n, .slice ka ks.length kc, .int .i64 d, .bool has, .int .i64 num, .int .i64 til, .slice ma ms.length mc] 30)
  have z1 := sz1' w1 (.cells #[.int .i64 n, .slice ka ks.length kc, .int .i64 d, .bool has, .int .i64 num, .int .i64 til, .slice ma ms.length mc] 30)
  have S3 := Si.new (n2 := n2) (t2 := t2) (i3.later c1) (i4.later c1) 32
  rw [z1] at S3
  have c2' := below1 (w1.alloc (.cells #[.int .i64 n, .slice ka ks.length kc, .int .i64 d, .bool has, .int .i64 num, .int .i64 til, .slice ma ms.length mc] 30)) (.cells #[.int .i64 n2, .int .i64 t2, .slice a2 m2.length c2, .slice ab by'.length cb] 32)
  have X3 := hide (X2.later c2')
  have S3' := hide S3
  have B3 := hide ((b1.trans (c1.mono b1.size)).trans (c2'.mono (Nat.le_trans b1.size c1.size)))
  clear X2 c1 z1 S3 c2' b1 i1 i2 i3 i4
  clear hroom
  obtain ⟨hl1, hl2⟩ := Tr.index_len (t := ⟨n, ks, d, has, num, til, ms⟩) (num := n2) (til := t2) (ms := m2) (by' := by') (now := now) hks hms hm2
  have CS := hide (fun (W : World) h1 h2 h3 h4 => specTrustIndex_any W ⟨n, ks, d, has, num, til, ms⟩ (.slice ka ks.length kc) (.slice ma ms.length mc) n2 t2 (.slice a2 m2.length c2) (.slice ab by'.length cb) m2 by' now h1 h2 h3 h4 (show ks.length ≤ 1000000 by omega) (show ms.length ≤ 1000000 by omega))
  have CI := hide (fun (W : World) h1 h2 h3 h4 => implTrustIndex_any W ⟨n, ks, d, has, num, til, ms⟩ (.slice ka ks.length kc) (.slice ma ms.length mc) n2 t2 (.slice a2 m2.length c2) (.slice ab by'.length cb) m2 by' now h1 h2 h3 h4)
  have HC := hide (Tr.index_cases ⟨n, ks, d, has, num, til, ms⟩ n2 t2 now m2 by')
  generalize Tr.index ⟨n, ks, d, has, num, til, ms⟩ n2 t2 m2 by' now = r at *
  obtain ⟨t, b⟩ := r
  dsimp only [tvT, tv] at *
  go_wp2_with fail
  refine (unhide CS _ (unhide X3).ins (unhide X3).trs (unhide S3').trs (unhide S3').inb).mono ?_
  generalize w1.heap.size = X at *
  generalize World.alloc _ _ = W3 at *
  clear w1
  rintro e w4 ⟨kv4, mv4, rfl, ok4, om4, b4⟩
  have r4 := OwnI.ins (B := W3.heap.size) ok4 (show t.ks.length ≤ 1000000 by omega)
  have q4 := Trs.own om4 (show t.ms.length ≤ 1000000000 by omega)
  obtain ⟨xa, xc, e5⟩ := r4.slice
  obtain ⟨ya, yc, e6⟩ := q4.slice
  subst e5 e6
  have X4 := (unhide X3).later b4
  have S4 := (unhide S3').later b4
  have B4 := (unhide B3).trans (b4.mono (unhide B3).size)
  have Y5 := hide (Tb.new (n := t.n) (d := t.d) (has := t.has) (num := t.num) (til := t.til) r4 q4 30)
  have b5 := below1 w4 (.cells #[.int .i64 t.n, .slice xa t.ks.length xc, .int .i64 t.d, .bool t.has, .int .i64 t.num, .int .i64 t.til, .slice ya t.ms.length yc] 30)
  have X5 := hide (X4.later b5)
  have S5 := hide (S4.later b5)
  have B5 := hide (B4.trans (b5.mono B4.size))
  clear ok4 om4 b4 b5 X4 S4 B4 r4 q4 X3 S3' B3 CS
  obtain ⟨x0, x1, x2, x3, x4, x5, x6⟩ := (unhide X5).cells
  obtain ⟨s0, s1, s2, s3⟩ := (unhide S5).cells
  go_wp2_with fail
  refine (unhide CI _ (unhide X5).ins (unhide X5).trs (unhide S5).trs (unhide S5).inb).mono ?_
  generalize w4.heap.size = Y at *
  generalize World.alloc _ _ = W5 at *
  clear w4
  clear W3
  rintro e w6 ⟨kv6, mv6, rfl, ok6, om6, b6⟩
  have r6 := OwnI.ins (B := W5.heap.size) ok6 (show t.ks.length ≤ 1000000 by omega)
  have q6 := Trs.own om6 (show t.ms.length ≤ 1000000000 by omega)
  obtain ⟨va, vc, e5⟩ := r6.slice
  obtain ⟨ua, uc, e6⟩ := q6.slice
  subst e5 e6
  have X6 := (unhide X5).later b6
  have S6 := (unhide S5).later b6
  have Y6 := (unhide Y5).later b6
  have B6 := (unhide B5).trans (b6.mono (unhide B5).size)
  have Z7 := hide (Tb.new (n := t.n) (d := t.d) (has := t.has) (num := t.num) (til := t.til) r6 q6 30)
  have b7 := below1 w6 (.cells #[.int .i64 t.n, .slice va t.ks.length vc, .int .i64 t.d, .bool t.has, .int .i64 t.num, .int .i64 t.til, .slice ua t.ms.length uc] 30)
  have X7 := hide (X6.later b7)
  have S7 := hide (S6.later b7)
  have Y7 := hide (Y6.later b7)
  have B7 := hide (B6.trans (b7.mono B6.size))
  clear ok6 om6 b6 b7 X6 S6 Y6 B6 r6 q6 X5 S5 Y5 B5 CI x0 x1 x2 x3 x4 x5 x6 s0 s1 s2 s3
  obtain ⟨y0, y1, y2, y3, y4, y5, y6⟩ := (unhide Y7).cells
  obtain ⟨z0, z1, z2, z3, z4, z5, z6⟩ := (unhide Z7).cells
  have CL := hide (fun (W : World) hk1 hm1 hk2 hm2 => luTrust_same W t (.slice va t.ks.length vc) (.slice ua t.ms.length uc) (.slice xa t.ks.length xc) (.slice ya t.ms.length yc) hk1 hm1 hk2 hm2)
  dsimp only [tvT, tv] at CL
  have hne : (b != b) = false := by simp
  have heq : (b == b) = true := by simp
  go_wp2_with fail
  refine (unhide CL _ (unhide Z7).ins (unhide Z7).trs (unhide Y7).ins (unhide Y7).trs).mono ?_
  generalize w6.heap.size = Z at *
  generalize World.alloc _ _ = W7 at *
  clear w6
  clear W5
  rintro e w8 ⟨rfl, b8⟩
  have X8 := hide ((unhide X7).later b8)
  have S8 := hide ((unhide S7).later b8)
  have Y8 := hide ((unhide Y7).later b8)
  have Z8 := hide ((unhide Z7).later b8)
  have B8 := hide ((unhide B7).trans (b8.mono (unhide B7).size))
  clear b8 X7 S7 Y7 Z7 B7 y0 y1 y2 y3 y4 y5 y6 z0 z1 z2 z3 z4 z5 z6
  clear W7
  obtain ⟨x0, x1, x2, x3, x4, x5, x6⟩ := (unhide X8).cells
  obtain ⟨s0, s1, s2, s3⟩ := (unhide S8).cells
  obtain ⟨y0, y1, y2, y3, y4, y5, y6⟩ := (unhide Y8).cells
  obtain ⟨z0, z1, z2, z3, z4, z5, z6⟩ := (unhide Z8).cells
  have hb : b = false ∨ b = true := by cases b <;> simp
  rcases hb with rfl | rfl
  · go_wp2_with fail
    refine (unhide CL _ (unhide Z8).ins (unhide Z8).trs (unhide Y8).ins (unhide Y8).trs).mono ?_
    rintro e w10 ⟨rfl, b10⟩
    have B10 := hide ((unhide B8).trans (b10.mono (unhide B8).size))
    clear b10
    go_wp2
    go_ret
    exact ⟨rfl, unhide B10⟩

  rcases unhide HC with ⟨hO, hc⟩ | ⟨hO, hI, hN, hc⟩ | ⟨hO, hI, hN, hc⟩
  · injection hc with _ hc2; cases hc2
  · injection hc with _ hc2; cases hc2
  injection hc with hc1 _
  subst hc1
  dsimp only at *
  obtain ⟨hix, hsg, ⟨g0, g1⟩, hnu⟩ := Tr.takes_get hN
  have hle : t2 ≤ 60 := by
    unfold Ix.idxOk at hix
    simp only [Bool.and_eq_true, Pk.inB_true] at hix
    exact hix.1.1.2.2
  have en : IntKind.i64.wrap (t2 + 1) = t2 + 1 := wrap_in' (by omega) (by omega)
  have q1 := Tr.index_late (t := ⟨n, ks, d, has, num, til, ms⟩) (num := n2) (til := t2) (now := t2 + 1) (ms := m2) (by' := by') (by omega)
  have q2 := Tr.index_last (t := ⟨n, ks, d, has, num, til, ms⟩) (num := n2) (til := t2) (now := now) (ms := m2) (by' := by') hO hN
  have q3 := fun (hh : has = true) => Tr.index_elder (t := ⟨n, ks, d, has, num, til, ms⟩) (til := t2) (now := now) (ms := m2) (by' := by') hh
  dsimp only at q3
  have C1 := hide (fun (W : World) h1 h2 h3 h4 => implTrustIndex_any W ⟨n, ks, d, has, num, til, ms⟩ (.slice ka ks.length kc) (.slice ma ms.length mc) n2 t2 (.slice a2 m2.length c2) (.slice ab by'.length cb) m2 by' (t2 + 1) h1 h2 h3 h4)
  have C2 := hide (fun (W : World) h1 h2 h3 h4 => implTrustIndex_any W ⟨n, ks, d, has, num, til, ms⟩ (.slice ka ks.length kc) (.slice ma ms.length mc) n2 t2 (.slice a2 m2.length c2) (.slice ab by'.length cb) m2 by' t2 h1 h2 h3 h4)
  have C3 := hide (fun (W : World) h1 h2 h3 h4 => implTrustIndex_any W ⟨n, ks, d, has, num, til, ms⟩ (.slice ka ks.length kc) (.slice ma ms.length mc) num t2 (.slice a2 m2.length c2) (.slice ab by'.length cb) m2 by' now h1 h2 h3 h4)
  generalize Tr.index ⟨n, ks, d, has, num, til, ms⟩ n2 t2 m2 by' (t2 + 1) = r1 at *
  generalize Tr.index ⟨n, ks, d, has, num, til, ms⟩ n2 t2 m2 by' t2 = r2 at *
  generalize Tr.index ⟨n, ks, d, has, num, til, ms⟩ num t2 m2 by' now = r3 at *
  obtain ⟨t1, bb1⟩ := r1
  obtain ⟨t2', bb2⟩ := r2
  obtain ⟨t3, bb3⟩ := r3
  dsimp only at q1 q2 q3
  subst q1 q2
  have Q3 := hide q3
  dsimp only [tvT, tv] at *
  clear HC hO hI hN hne heq CL Y8 y0 y1 y2 y3 y4 y5 y6 Z8 z0 z1 z2 z3 z4 z5 z6 hix hsg hnu q3
  go_wp2_with fail
  refine (unhide C1 _ (unhide X8).ins (unhide X8).trs (unhide S8).trs (unhide S8).inb).mono ?_
  rintro e w9 ⟨kv9, mv9, rfl, ok9, om9, b9⟩
  obtain ⟨pa, pc, e7⟩ := own_formS ok9
  obtain ⟨pb, pd, e8⟩ := own_formS om9
  subst e7 e8
  dsimp only [tvT, tv]
  have b10 := below1 w9 (.cells #[.int .i64 t1.n, .slice pa t1.ks.length pc, .int .i64 t1.d, .bool t1.has, .int .i64 t1.num, .int .i64 t1.til, .slice pb t1.ms.length pd] 30)
  have X10 := hide (((unhide X8).later b9).later b10)
  have S10 := hide (((unhide S8).later b9).later b10)
  have B9 := (unhide B8).trans (b9.mono (unhide B8).size)
  have B10 := hide (B9.trans (b10.mono B9.size))
  clear b9 b10 B9 ok9 om9 B8 X8 S8
  clear x0 x1 x2 x3 x4 x5 x6 s0 s1 s2 s3 C1
  obtain ⟨x0, x1, x2, x3, x4, x5, x6⟩ := (unhide X10).cells
  obtain ⟨s0, s1, s2, s3⟩ := (unhide S10).cells
  go_wp2_with fail
  refine (unhide C2 _ (unhide X10).ins (unhide X10).trs (unhide S10).trs (unhide S10).inb).mono ?_
  generalize World.alloc _ _ = W10 at *
  rintro e w11 ⟨kv11, mv11, rfl, ok11, om11, b11⟩
  obtain ⟨pa, pc, e7⟩ := own_formS ok11
  obtain ⟨pb, pd, e8⟩ := own_formS om11
  subst e7 e8
  dsimp only [tvT, tv]
  have b12 := below1 w11 (.cells #[.int .i64 t2'.n, .slice pa t2'.ks.length pc, .int .i64 t2'.d, .bool t2'.has, .int .i64 t2'.num, .int .i64 t2'.til, .slice pb t2'.ms.length pd] 30)
  have X12 := hide (((unhide X10).later b11).later b12)
  have S12 := hide (((unhide S10).later b11).later b12)
  have B11 := (unhide B10).trans (b11.mono (unhide B10).size)
  have B12 := hide (B11.trans (b12.mono B11.size))
  clear b11 b12 B11 ok11 om11 B10 X10 S10
  clear x0 x1 x2 x3 x4 x5 x6 s0 s1 s2 s3 C2
  obtain ⟨x0, x1, x2, x3, x4, x5, x6⟩ := (unhide X12).cells
  obtain ⟨s0, s1, s2, s3⟩ := (unhide S12).cells
  have hXlt : X < (w11.alloc (.cells #[.int .i64 t2'.n, .slice pa t2'.ks.length pc, .int .i64 t2'.d, .bool t2'.has, .int .i64 t2'.num, .int .i64 t2'.til, .slice pb t2'.ms.length pd] 30)).heap.size := (unhide X12).lt
  have hSlt : X + 1 < (w11.alloc (.cells #[.int .i64 t2'.n, .slice pa t2'.ks.length pc, .int .i64 t2'.d, .bool t2'.has, .int .i64 t2'.num, .int .i64 t2'.til, .slice pb t2'.ms.length pd] 30)).heap.size := (unhide S12).lt
  have hq := heap_alloc_new (w11.alloc (.cells #[.int .i64 t2'.n, .slice pa t2'.ks.length pc, .int .i64 t2'.d, .bool t2'.has, .int .i64 t2'.num, .int .i64 t2'.til, .slice pb t2'.ms.length pd] 30)) (.cells #[.int .i64 n2, .int .i64 t2, .slice a2 m2.length c2, .slice ab by'.length cb] 32)
  have q0 := cellOf hq 0
  have qf := frozenOf hq 0
  have E13 := Si.new (n2 := num) (t2 := t2) (unhide S12).trs (unhide S12).inb 32
  have b13 := below1 (w11.alloc (.cells #[.int .i64 t2'.n, .slice pa t2'.ks.length pc, .int .i64 t2'.d, .bool t2'.has, .int .i64 t2'.num, .int .i64 t2'.til, .slice pb t2'.ms.length pd] 30)) (.cells #[.int .i64 num, .int .i64 t2, .slice a2 m2.length c2, .slice ab by'.length cb] 32)
  have S13 := hide E13
  have X13 := hide ((unhide X12).later b13)
  have B13 := hide ((unhide B12).trans (b13.mono (unhide B12).size))
  have x4' := (((unhide X12).later (below1 (w11.alloc (.cells #[.int .i64 t2'.n, .slice pa t2'.ks.length pc, .int .i64 t2'.d, .bool t2'.has, .int .i64 t2'.num, .int .i64 t2'.til, .slice pb t2'.ms.length pd] 30)) (.cells #[.int .i64 n2, .int .i64 t2, .slice a2 m2.length c2, .slice ab by'.length cb] 32))).cells).2.2.2.2.1
  obtain ⟨u0, u1, u2, u3, u4, u5, u6⟩ := (unhide X13).cells
  obtain ⟨o0, o1, o2, o3⟩ := (unhide S13).cells
  clear hq E13 b13 B12
  go_wp2_with fail
  refine (unhide C3 _ (unhide X13).ins (unhide X13).trs (unhide S13).trs (unhide S13).inb).mono ?_
  rintro e w14 ⟨kv14, mv14, rfl, ok14, om14, b14⟩
  obtain ⟨pe, pf, e7⟩ := own_formS ok14
  obtain ⟨pg, ph, e8⟩ := own_formS om14
  subst e7 e8
  dsimp only [tvT, tv]
  have b15 := below1 w14 (.cells #[.int .i64 t3.n, .slice pe t3.ks.length pf, .int .i64 t3.d, .bool t3.has, .int .i64 t3.num, .int .i64 t3.til, .slice pg t3.ms.length ph] 30)
  have X15 := hide (((unhide X13).later b14).later b15)
  have B14 := (unhide B13).trans (b14.mono (unhide B13).size)
  have B15 := hide (B14.trans (b15.mono B14.size))
  clear b14 b15 B14 ok14 om14 B13 X13 S13 x0 x1 x2 x3 x4 x5 x6 s0 s1 s2 s3 q0 qf C3 X12 S12 x4' u0 u1 u2 u3 u4 u5 u6 o0 o1 o2 o3
  obtain ⟨x0, x1, x2, x3, x4, x5, x6⟩ := (unhide X15).cells
  cases has
  · go_wp2
    go_ret
    exact ⟨rfl, unhide B15⟩
  · have h3 := unhide Q3 rfl
    subst h3
    go_wp2
    go_ret
    exact ⟨rfl, unhide B15⟩
end Go.Proofs.Ytkgeekjclcpbpaa
