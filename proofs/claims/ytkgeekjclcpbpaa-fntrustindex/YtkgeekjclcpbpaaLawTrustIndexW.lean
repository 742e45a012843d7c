/- The walk of FnTrustIndex: it returns true; for every code. -/
import Derived.Test.YtkgeekjclcpbpaaLawTrustLateW
namespace Go.Proofs.Ytkgeekjclcpbpaa
open Go.RowKit

set_option maxHeartbeats 8000000 in
set_option maxRecDepth 100000 in
theorem trustIndex_walk (w : World) (a : Option Addr) (len cap : Nat) (h : Bytes w a len cap) :
    Calls Try.prog 3 #[.slice a len cap] w fun e w' => e = .returned (.bool true) ∧ Below w.heap.size w w' := by
  by_cases hbig : (1048576 : Int) < (len : Int)
  · go_enter Try.func3, Try.ntmps3
    go_wp2
    go_ret
    exact ⟨rfl, Below.refl _ _⟩
  have CD := hide (drawTrustIndex_any w a len cap h)
  unfold tv at CD
  clear h
  go_enter Try.func3, Try.ntmps3
  go_wp2_with fail
  refine (unhide CD).mono ?_
  clear CD
  rintro e w1 ⟨n, d, kv, ks, has, num, til, mv, ms, n2, t2, v2, vb, m2, by', now, rfl, hks, hms, hm2, hby, i1, i2, i3, i4, b1, hroom⟩
  obtain ⟨ka, kc, e1⟩ := i1.slice
  obtain ⟨ma, mc, e2⟩ := i2.slice
  obtain ⟨a2, c2, e3⟩ := i3.slice
  obtain ⟨ab, cb, e4⟩ := i4.slice
  subst e1 e2 e3 e4
  have X2 := Tb.new (n := n) (d := d) (has := has) (num := num) (til := til) i1 i2 30
  have c1 := below1 w1 (.cells #[.int .i64 n, .slice ka ks.length kc, .int .i64 d, .bool has, .int .i64 num, .int .i64 til, .slice ma ms.length mc] 30)
  have z1 := sz1' w1 (.cells #[.int .i64 n, .slice ka ks.length kc, .int .i64 d, .bool has, .int .i64 num, .int .i64 til, .slice ma ms.length mc] 30)
  have S3 := Si.new (n2 := n2) (t2 := t2) (i3.later c1) (i4.later c1) 32
  rw [z1] at S3
  have c2' := below1 (w1.alloc (.cells #[.int .i64 n, .slice ka ks.length kc, .int .i64 d, .bool has, .int .i64 num, .int .i64 til, .slice ma ms.length mc] 30)) (.cells #[.int .i64 n2, .int .i64 t2, .slice a2 m2.length c2, .slice ab by'.length cb] 32)
  have X3 := hide (X2.later c2')
  have S3' := hide S3
  have B3 := hide ((b1.trans (c1.mono b1.size)).trans (c2'.mono (Nat.le_trans b1.size c1.size)))
  clear X2 c1 z1 S3 c2' b1 i1 i2 i3 i4
  clear hroom
  obtain ⟨hl1, hl2⟩ := Tr.index_len (t := ⟨n, ks, d, has, num, til, ms⟩) (num := n2) (til := t2) (ms := m2) (by' := by') (now := now) hks hms hm2
  have CS := hide (fun (W : World) h1 h2 h3 h4 => specTrustIndex_any W ⟨n, ks, d, has, num, til, ms⟩ (.slice ka ks.length kc) (.slice ma ms.length mc) n2 t2 (.slice a2 m2.length c2) (.slice ab by'.length cb) m2 by' now h1 h2 h3 h4 (show ks.length ≤ 1000000 by omega) (show ms.length ≤ 1000000 by omega))
  have CI := hide (fun (W : World) h1 h2 h3 h4 => implTrustIndex_any W ⟨n, ks, d, has, num, til, ms⟩ (.slice ka ks.length kc) (.slice ma ms.length mc) n2 t2 (.slice a2 m2.length c2) (.slice ab by'.length cb) m2 by' now h1 h2 h3 h4)
  have HC := hide (Tr.index_cases ⟨n, ks, d, has, num, til, ms⟩ n2 t2 now m2 by')
  generalize Tr.index ⟨n, ks, d, has, num, til, ms⟩ n2 t2 m2 by' now = r at *
  obtain ⟨t, b⟩ := r
  dsimp only [tvT, tv] at *
  go_wp2_with fail
  refine (unhide CS _ (unhide X3).ins (unhide X3).trs (unhide S3').trs (unhide S3').inb).mono ?_
  generalize w1.heap.size = X at *
  generalize World.alloc _ _ = W3 at *
  clear w1
  rintro e w4 ⟨kv4, mv4, rfl, ok4, om4, b4⟩
  have r4 := OwnI.ins (B := W3.heap.size) ok4 (show t.ks.length ≤ 1000000 by omega)
  have q4 := Trs.own om4 (show t.ms.length ≤ 1000000000 by omega)
  obtain ⟨xa, xc, e5⟩ := r4.slice
  obtain ⟨ya, yc, e6⟩ := q4.slice
  subst e5 e6
  have X4 := (unhide X3).later b4
  have S4 := (unhide S3').later b4
  have B4 := (unhide B3).trans (b4.mono (unhide B3).size)
  have Y5 := hide (Tb.new (n := t.n) (d := t.d) (has := t.has) (num := t.num) (til := t.til) r4 q4 30)
  have b5 := below1 w4 (.cells #[.int .i64 t.n, .slice xa t.ks.length xc, .int .i64 t.d, .bool t.has, .int .i64 t.num, .int .i64 t.til, .slice ya t.ms.length yc] 30)
  have X5 := hide (X4.later b5)
  have S5 := hide (S4.later b5)
  have B5 := hide (B4.trans (b5.mono B4.size))
  clear ok4 om4 b4 b5 X4 S4 B4 r4 q4 X3 S3' B3 CS
  obtain ⟨x0, x1, x2, x3, x4, x5, x6⟩ := (unhide X5).cells
  obtain ⟨s0, s1, s2, s3⟩ := (unhide S5).cells
  go_wp2_with fail
  refine (unhide CI _ (unhide X5).ins (unhide X5).trs (unhide S5).trs (unhide S5).inb).mono ?_
  generalize w4.heap.size = Y at *
  generalize World.alloc _ _ = W5 at *
  clear w4
  clear W3
  rintro e w6 ⟨kv6, mv6, rfl, ok6, om6, b6⟩
  have r6 := OwnI.ins (B := W5.heap.size) ok6 (show t.ks.length ≤ 1000000 by omega)
  have q6 := Trs.own om6 (show t.ms.length ≤ 1000000000 by omega)
  obtain ⟨va, vc, e5⟩ := r6.slice
  obtain ⟨ua, uc, e6⟩ := q6.slice
  subst e5 e6
  have X6 := (unhide X5).later b6
  have S6 := (unhide S5).later b6
  have Y6 := (unhide Y5).later b6
  have B6 := (unhide B5).trans (b6.mono (unhide B5).size)
  have Z7 := hide (Tb.new (n := t.n) (d := t.d) (has := t.has) (num := t.num) (til := t.til) r6 q6 30)
  have b7 := below1 w6 (.cells #[.int .i64 t.n, .slice va t.ks.length vc, .int .i64 t.d, .bool t.has, .int .i64 t.num, .int .i64 t.til, .slice ua t.ms.length uc] 30)
  have X7 := hide (X6.later b7)
  have S7 := hide (S6.later b7)
  have Y7 := hide (Y6.later b7)
  have B7 := hide (B6.trans (b7.mono B6.size))
  clear ok6 om6 b6 b7 X6 S6 Y6 B6 r6 q6 X5 S5 Y5 B5 CI x0 x1 x2 x3 x4 x5 x6 s0 s1 s2 s3
  obtain ⟨y0, y1, y2, y3, y4, y5, y6⟩ := (unhide Y7).cells
  obtain ⟨z0, z1, z2, z3, z4, z5, z6⟩ := (unhide Z7).cells
  have CL := hide (fun (W : World) hk1 hm1 hk2 hm2 => luTrust_same W t (.slice va t.ks.length vc) (.slice ua t.ms.length uc) (.slice xa t.ks.length xc) (.slice ya t.ms.length yc) hk1 hm1 hk2 hm2)
  dsimp only [tvT, tv] at CL
  have hne : (b != b) = false := by simp
  have heq : (b == b) = true := by simp
  go_wp2_with fail
  refine (unhide CL _ (unhide Z7).ins (unhide Z7).trs (unhide Y7).ins (unhide Y7).trs).mono ?_
  generalize w6.heap.size = Z at *
  generalize World.alloc _ _ = W7 at *
  clear w6
  clear W5
  rintro e w8 ⟨rfl, b8⟩
  have X8 := hide ((unhide X7).later b8)
  have S8 := hide ((unhide S7).later b8)
  have Y8 := hide ((unhide Y7).later b8)
  have Z8 := hide ((unhide Z7).later b8)
  have B8 := hide ((unhide B7).trans (b8.mono (unhide B7).size))
  clear b8 X7 S7 Y7 Z7 B7 y0 y1 y2 y3 y4 y5 y6 z0 z1 z2 z3 z4 z5 z6
  clear W7
  obtain ⟨x0, x1, x2, x3, x4, x5, x6⟩ := (unhide X8).cells
  have CO := hide (fun (W : World) hk hm => specTrustOk_any W n d (.slice ka ks.length kc) ks has num til (.slice ma ms.length mc) ms hk hm)
  dsimp only [tv] at CO
  go_wp2_with fail
  refine (unhide CO _ (unhide X8).ins (unhide X8).trs).mono ?_
  rintro e w9 ⟨rfl, b9⟩
  have X9 := hide ((unhide X8).later b9)
  have S9 := hide ((unhide S8).later b9)
  have Y9 := hide ((unhide Y8).later b9)
  have Z9 := hide ((unhide Z8).later b9)
  have B9 := hide ((unhide B8).trans (b9.mono (unhide B8).size))
  clear b9 X8 S8 Y8 Z8 B8 x0 x1 x2 x3 x4 x5 x6 CO
  obtain ⟨x0, x1, x2, x3, x4, x5, x6⟩ := (unhide X9).cells
  obtain ⟨s0, s1, s2, s3⟩ := (unhide S9).cells
  obtain ⟨y0, y1, y2, y3, y4, y5, y6⟩ := (unhide Y9).cells
  obtain ⟨z0, z1, z2, z3, z4, z5, z6⟩ := (unhide Z9).cells
  rcases unhide HC with ⟨hO, hc⟩ | ⟨hO, hI, hN, hc⟩ | ⟨hO, hI, hN, hc⟩
  · unfold Tr.T.ok at hO
    dsimp only at hO
    have hway : Tr.ok n ks d has num til ms = false ∨ (Tr.ok n ks d has num til ms = true ∧ now < 0) ∨ (Tr.ok n ks d has num til ms = true ∧ 0 ≤ now ∧ 60 < now) := by
      cases hA : Tr.ok n ks d has num til ms
      · exact .inl rfl
      · rw [hA, Bool.true_and, Pk.inB_false] at hO
        rcases Int.lt_or_le now 0 with h | h
        · exact .inr (.inl ⟨rfl, h⟩)
        · exact .inr (.inr ⟨rfl, h, by omega⟩)
    rcases hway with hA | ⟨hA, hB⟩ | ⟨hA, hB, hC⟩
    · rw [hA]
      go_wp2_with fail
      refine (unhide CL _ (unhide Z9).ins (unhide Z9).trs (unhide Y9).ins (unhide Y9).trs).mono ?_
      rintro e w10 ⟨rfl, b10⟩
      have B10 := hide ((unhide B9).trans (b10.mono (unhide B9).size))
      clear b10
      go_wp2
      go_ret
      exact ⟨rfl, unhide B10⟩

    · rw [hA]
      go_wp2_with fail
      refine (unhide CL _ (unhide Z9).ins (unhide Z9).trs (unhide Y9).ins (unhide Y9).trs).mono ?_
      rintro e w10 ⟨rfl, b10⟩
      have B10 := hide ((unhide B9).trans (b10.mono (unhide B9).size))
      clear b10
      go_wp2
      go_ret
      exact ⟨rfl, unhide B10⟩

    · rw [hA]
      have hB' : ¬ now < 0 := by omega
      go_wp2_with fail
      refine (unhide CL _ (unhide Z9).ins (unhide Z9).trs (unhide Y9).ins (unhide Y9).trs).mono ?_
      rintro e w10 ⟨rfl, b10⟩
      have B10 := hide ((unhide B9).trans (b10.mono (unhide B9).size))
      clear b10
      go_wp2
      go_ret
      exact ⟨rfl, unhide B10⟩

  · unfold Tr.T.ok at hO
    dsimp only at hO hN
    rw [hO]
    injection hc with hc1 hc2
    subst hc2
    subst hc1
    dsimp only at *
    obtain ⟨hi0, hi1⟩ := Pk.inB_true.1 hI
    have hI0 : ¬ now < 0 := by omega
    have hI1 : ¬ 60 < now := by omega
    have CM := hide (fun (W : World) hk1 hm1 hk2 hm2 => luTrust_same W ⟨n, ks, d, has, num, til, ms⟩ (.slice va ks.length vc) (.slice ua ms.length uc) (.slice ka ks.length kc) (.slice ma ms.length mc) hk1 hm1 hk2 hm2)
    dsimp only [tvT, tv] at CM
    clear HC hne heq CL
    go_wp2_with fail
    refine (unhide CM _ (unhide Z9).ins (unhide Z9).trs (unhide X9).ins (unhide X9).trs).mono ?_
    rintro e w11 ⟨rfl, b11⟩
    have B11 := hide ((unhide B9).trans (b11.mono (unhide B9).size))
    clear b11
    go_wp2
    go_ret
    exact ⟨rfl, unhide B11⟩
  unfold Tr.T.ok at hO
  dsimp only at hO hN
  rw [hO]
  injection hc with hc1 hc2
  subst hc2
  subst hc1
  dsimp only at *
  obtain ⟨hi0, hi1⟩ := Pk.inB_true.1 hI
  have hI0 : ¬ now < 0 := by omega
  have hI1 : ¬ 60 < now := by omega
  obtain ⟨hix, hsg, ⟨g0, g1⟩, hnu⟩ := Tr.takes_get hN
  have q1 := Tr.index_again (t := ⟨n, ks, d, has, num, til, ms⟩) (num := n2) (til := t2) (now := now) (ms := m2) (by' := by')
  have q2 := fun (hh : has = true) => Tr.index_back (t := ⟨n, ks, d, has, num, til, ms⟩) (num := n2) (til := t2) (now := now) (now' := 0) (ms := m2) (by' := by') (by2 := by') hh hN
  have q3 := Tr.index_fresh (t := ⟨n, ks, d, has, num, til, ms⟩) (num := n2) (til := t2) (now := now) (ms := m2) (by' := by') hO hN
  dsimp only at q1 q2 q3
  have C1 := hide (fun (W : World) h1 h2 h3 h4 => implTrustIndex_any W ⟨n, ks, d, true, n2, t2, m2⟩ (.slice va ks.length vc) (.slice ua m2.length uc) n2 t2 (.slice a2 m2.length c2) (.slice ab by'.length cb) m2 by' now h1 h2 h3 h4)
  have C2 := hide (fun (W : World) h1 h2 h3 h4 => implTrustIndex_any W ⟨n, ks, d, true, n2, t2, m2⟩ (.slice va ks.length vc) (.slice ua m2.length uc) num til (.slice ma ms.length mc) (.slice ab by'.length cb) ms by' 0 h1 h2 h3 h4)
  have C3 := hide (fun (W : World) h1 h2 => implRootSigned_any W n d (.slice ka ks.length kc) (.slice ab by'.length cb) ks by' h1 h2)
  have C4 := hide (fun (W : World) h1 h2 => implTrustFresh_any W n d (.slice va ks.length vc) ks true n2 t2 (.slice ua m2.length uc) m2 now h1 h2)
  rw [hsg] at C3
  rw [q3] at C4
  generalize Tr.index ⟨n, ks, d, true, n2, t2, m2⟩ n2 t2 m2 by' now = r1 at *
  generalize Tr.index ⟨n, ks, d, true, n2, t2, m2⟩ num til ms by' 0 = r2 at *
  obtain ⟨t1, bb1⟩ := r1
  obtain ⟨t2', bb2⟩ := r2
  dsimp only at q1 q2 q3
  subst q1
  have Q2 := hide q2
  have Q4 := hide hnu
  have hge : t2 ≥ now := g1
  dsimp only [tvT, tv] at *
  clear HC hne heq CL Y9 y0 y1 y2 y3 y4 y5 y6 q2 q3 hnu hO hN hI hi0 hi1 hix hsg
  go_wp2_with fail
  refine (unhide C1 _ (unhide Z9).ins (unhide Z9).trs (unhide S9).trs (unhide S9).inb).mono ?_
  rintro e w10 ⟨kv10, mv10, rfl, ok10, om10, b10⟩
  obtain ⟨pa, pc, e7⟩ := own_formS ok10
  obtain ⟨pb, pd, e8⟩ := own_formS om10
  subst e7 e8
  dsimp only [tvT, tv]
  have b11 := below1 w10 (.cells #[.int .i64 t1.n, .slice pa t1.ks.length pc, .int .i64 t1.d, .bool t1.has, .int .i64 t1.num, .int .i64 t1.til, .slice pb t1.ms.length pd] 30)
  have X11 := hide (((unhide X9).later b10).later b11)
  have S11 := hide (((unhide S9).later b10).later b11)
  have Z11 := hide (((unhide Z9).later b10).later b11)
  have B10 := (unhide B9).trans (b10.mono (unhide B9).size)
  have B11 := hide (B10.trans (b11.mono B10.size))
  clear b10 b11 B10 ok10 om10 B9 X9 S9 Z9
  clear x0 x1 x2 x3 x4 x5 x6 s0 s1 s2 s3 z0 z1 z2 z3 z4 z5 z6 C1
  obtain ⟨x0, x1, x2, x3, x4, x5, x6⟩ := (unhide X11).cells
  obtain ⟨s0, s1, s2, s3⟩ := (unhide S11).cells
  obtain ⟨z0, z1, z2, z3, z4, z5, z6⟩ := (unhide Z11).cells
  go_wp2_with fail
  refine (unhide C2 _ (unhide Z11).ins (unhide Z11).trs (unhide X11).trs (unhide S11).inb).mono ?_
  generalize World.alloc _ _ = W11 at *
  rintro e w12 ⟨kv12, mv12, rfl, ok12, om12, b12⟩
  obtain ⟨pa, pc, e7⟩ := own_formS ok12
  obtain ⟨pb, pd, e8⟩ := own_formS om12
  subst e7 e8
  dsimp only [tvT, tv]
  have b13 := below1 w12 (.cells #[.int .i64 t2'.n, .slice pa t2'.ks.length pc, .int .i64 t2'.d, .bool t2'.has, .int .i64 t2'.num, .int .i64 t2'.til, .slice pb t2'.ms.length pd] 30)
  have X13 := hide (((unhide X11).later b12).later b13)
  have S13 := hide (((unhide S11).later b12).later b13)
  have Z13 := hide (((unhide Z11).later b12).later b13)
  have B12 := (unhide B11).trans (b12.mono (unhide B11).size)
  have B13 := hide (B12.trans (b13.mono B12.size))
  clear b12 b13 B12 ok12 om12 B11 X11 S11 Z11
  clear x0 x1 x2 x3 x4 x5 x6 s0 s1 s2 s3 z0 z1 z2 z3 z4 z5 z6 C2
  obtain ⟨x0, x1, x2, x3, x4, x5, x6⟩ := (unhide X13).cells
  obtain ⟨s0, s1, s2, s3⟩ := (unhide S13).cells
  obtain ⟨z0, z1, z2, z3, z4, z5, z6⟩ := (unhide Z13).cells
  cases has
  · clear Q2 Q4
    go_wp2_with fail
    refine (unhide C3 _ (unhide X13).ins (unhide S13).inb).mono ?_
    generalize World.alloc _ _ = W13 at *
    rintro e w14 ⟨rfl, b14⟩
    have X14 := hide ((unhide X13).later b14)
    have S14 := hide ((unhide S13).later b14)
    have Z14 := hide ((unhide Z13).later b14)
    have B14 := hide ((unhide B13).trans (b14.mono (unhide B13).size))
    clear b14 X13 S13 Z13 B13 x0 x1 x2 x3 x4 x5 x6 s0 s1 s2 s3 z0 z1 z2 z3 z4 z5 z6
    obtain ⟨x0, x1, x2, x3, x4, x5, x6⟩ := (unhide X14).cells
    obtain ⟨s0, s1, s2, s3⟩ := (unhide S14).cells
    obtain ⟨z0, z1, z2, z3, z4, z5, z6⟩ := (unhide Z14).cells
    go_wp2_with fail
    refine (luIndex_same _ n2 t2 _ _ m2 (unhide Z14).trs (unhide S14).trs).mono ?_
    rintro e w15 ⟨rfl, b15⟩
    have X15 := hide ((unhide X14).later b15)
    have Z15 := hide ((unhide Z14).later b15)
    have B15 := hide ((unhide B14).trans (b15.mono (unhide B14).size))
    clear b15 X14 S14 Z14 B14 x0 x1 x2 x3 x4 x5 x6 s0 s1 s2 s3 z0 z1 z2 z3 z4 z5 z6
    obtain ⟨x0, x1, x2, x3, x4, x5, x6⟩ := (unhide X15).cells
    obtain ⟨z0, z1, z2, z3, z4, z5, z6⟩ := (unhide Z15).cells
    go_wp2_with fail
    refine (luRoot_same _ n d _ _ ks (unhide Z15).ins (unhide X15).ins).mono ?_
    rintro e w16 ⟨rfl, b16⟩
    have Z16 := hide ((unhide Z15).later b16)
    have B16 := hide ((unhide B15).trans (b16.mono (unhide B15).size))
    clear b16 X15 Z15 B15 x0 x1 x2 x3 x4 x5 x6 z0 z1 z2 z3 z4 z5 z6
    obtain ⟨z0, z1, z2, z3, z4, z5, z6⟩ := (unhide Z16).cells
    go_wp2_with fail
    refine (unhide C4 _ (unhide Z16).ins (unhide Z16).trs).mono ?_
    rintro e w17 ⟨rfl, b17⟩
    have B17 := hide ((unhide B16).trans (b17.mono (unhide B16).size))
    clear b17
    go_wp2
    go_ret
    exact ⟨rfl, unhide B17⟩
  · have h2 := unhide Q2 rfl
    have hlt := unhide Q4 rfl
    subst h2
    clear Q2 Q4
    go_wp2_with fail
    refine (unhide C3 _ (unhide X13).ins (unhide S13).inb).mono ?_
    generalize World.alloc _ _ = W13 at *
    rintro e w14 ⟨rfl, b14⟩
    have X14 := hide ((unhide X13).later b14)
    have S14 := hide ((unhide S13).later b14)
    have Z14 := hide ((unhide Z13).later b14)
    have B14 := hide ((unhide B13).trans (b14.mono (unhide B13).size))
    clear b14 X13 S13 Z13 B13 x0 x1 x2 x3 x4 x5 x6 s0 s1 s2 s3 z0 z1 z2 z3 z4 z5 z6
    obtain ⟨x0, x1, x2, x3, x4, x5, x6⟩ := (unhide X14).cells
    obtain ⟨s0, s1, s2, s3⟩ := (unhide S14).cells
    obtain ⟨z0, z1, z2, z3, z4, z5, z6⟩ := (unhide Z14).cells
    go_wp2_with fail
    refine (luIndex_same _ n2 t2 _ _ m2 (unhide Z14).trs (unhide S14).trs).mono ?_
    rintro e w15 ⟨rfl, b15⟩
    have X15 := hide ((unhide X14).later b15)
    have Z15 := hide ((unhide Z14).later b15)
    have B15 := hide ((unhide B14).trans (b15.mono (unhide B14).size))
    clear b15 X14 S14 Z14 B14 x0 x1 x2 x3 x4 x5 x6 s0 s1 s2 s3 z0 z1 z2 z3 z4 z5 z6
    obtain ⟨x0, x1, x2, x3, x4, x5, x6⟩ := (unhide X15).cells
    obtain ⟨z0, z1, z2, z3, z4, z5, z6⟩ := (unhide Z15).cells
    go_wp2_with fail
    refine (luRoot_same _ n d _ _ ks (unhide Z15).ins (unhide X15).ins).mono ?_
    rintro e w16 ⟨rfl, b16⟩
    have Z16 := hide ((unhide Z15).later b16)
    have B16 := hide ((unhide B15).trans (b16.mono (unhide B15).size))
    clear b16 X15 Z15 B15 x0 x1 x2 x3 x4 x5 x6 z0 z1 z2 z3 z4 z5 z6
    obtain ⟨z0, z1, z2, z3, z4, z5, z6⟩ := (unhide Z16).cells
    go_wp2_with fail
    refine (unhide C4 _ (unhide Z16).ins (unhide Z16).trs).mono ?_
    rintro e w17 ⟨rfl, b17⟩
    have B17 := hide ((unhide B16).trans (b17.mono (unhide B16).size))
    clear b17
    go_wp2
    go_ret
    exact ⟨rfl, unhide B17⟩
end Go.Proofs.Ytkgeekjclcpbpaa
