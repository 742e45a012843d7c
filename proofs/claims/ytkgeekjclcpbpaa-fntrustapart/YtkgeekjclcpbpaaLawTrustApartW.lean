/- The walk of FnTrustApart: it returns true; for every two codes. -/
import Derived.Test.YtkgeekjclcpbpaaLawTrustLateW
import Derived.Test.YtkgeekjclcpbpaaTrustRootW
namespace Go.Proofs.Ytkgeekjclcpbpaa
open Go.RowKit

set_option maxHeartbeats 8000000 in
set_option maxRecDepth 100000 in
theorem trustApart_walk (w : World) (a : Option Addr) (len cap : Nat) (aM : Option Addr) (lenM capM : Nat) (h : Bytes w a len cap) (_ : Bytes w aM lenM capM) :
    Calls Try.prog 6 #[.slice a len cap, .slice aM lenM capM] w fun e w' => e = .returned (.bool true) ∧ Below w.heap.size w w' := by
  by_cases hbig : (1048576 : Int) < (len : Int)
  · go_enter Try.func6, Try.ntmps6
    go_wp2
    go_ret
    exact ⟨rfl, Below.refl _ _⟩
  have hbig' : decide ((1048576 : Int) < (len : Int)) = false := by simpa using hbig
  by_cases hbig2 : (1048576 : Int) < (lenM : Int)
  · go_enter Try.func6, Try.ntmps6
    go_wp2
    go_ret
    exact ⟨rfl, Below.refl _ _⟩
  have CD := hide (drawTrustIndex_any w a len cap h)
  unfold tv at CD
  clear h
  go_enter Try.func6, Try.ntmps6
  go_wp2_with fail
  refine (unhide CD).mono ?_
  clear CD
  rintro e w1 ⟨n, d, kv, ks, has, num, til, mv, ms, n2, t2, v2, vb, m2, by', now, rfl, hks, hms, hm2, hby, i1, i2, i3, i4, b1, hroom⟩
  obtain ⟨ka, kc, e1⟩ := i1.slice
  obtain ⟨ma, mc, e2⟩ := i2.slice
  obtain ⟨a2, c2, e3⟩ := i3.slice
  obtain ⟨ab, cb, e4⟩ := i4.slice
  subst e1 e2 e3 e4
  have X2 := Tb.new (n := n) (d := d) (has := has) (num := num) (til := til) i1 i2 30
  have c1 := below1 w1 (.cells #[.int .i64 n, .slice ka ks.length kc, .int .i64 d, .bool has, .int .i64 num, .int .i64 til, .slice ma ms.length mc] 30)
  have z1 := sz1' w1 (.cells #[.int .i64 n, .slice ka ks.length kc, .int .i64 d, .bool has, .int .i64 num, .int .i64 til, .slice ma ms.length mc] 30)
  have S3 := Si.new (n2 := n2) (t2 := t2) (i3.later c1) (i4.later c1) 32
  rw [z1] at S3
  have c2' := below1 (w1.alloc (.cells #[.int .i64 n, .slice ka ks.length kc, .int .i64 d, .bool has, .int .i64 num, .int .i64 til, .slice ma ms.length mc] 30)) (.cells #[.int .i64 n2, .int .i64 t2, .slice a2 m2.length c2, .slice ab by'.length cb] 32)
  have X3 := hide (X2.later c2')
  have S3' := hide S3
  have B3 := hide ((b1.trans (c1.mono b1.size)).trans (c2'.mono (Nat.le_trans b1.size c1.size)))
  clear X2 c1 z1 S3 c2' b1 i1 i2 i3 i4
  clear hroom
  obtain ⟨hl1, hl2⟩ := Tr.index_len (t := ⟨n, ks, d, has, num, til, ms⟩) (num := n2) (til := t2) (ms := m2) (by' := by') (now := now) hks hms hm2
  have CS := hide (fun (W : World) h1 h2 h3 h4 => specTrustIndex_any W ⟨n, ks, d, has, num, til, ms⟩ (.slice ka ks.length kc) (.slice ma ms.length mc) n2 t2 (.slice a2 m2.length c2) (.slice ab by'.length cb) m2 by' now h1 h2 h3 h4 (show ks.length ≤ 1000000 by omega) (show ms.length ≤ 1000000 by omega))
  have CI := hide (fun (W : World) h1 h2 h3 h4 => implTrustIndex_any W ⟨n, ks, d, has, num, til, ms⟩ (.slice ka ks.length kc) (.slice ma ms.length mc) n2 t2 (.slice a2 m2.length c2) (.slice ab by'.length cb) m2 by' now h1 h2 h3 h4)
  have HC := hide (Tr.index_cases ⟨n, ks, d, has, num, til, ms⟩ n2 t2 now m2 by')
  generalize Tr.index ⟨n, ks, d, has, num, til, ms⟩ n2 t2 m2 by' now = r at *
  obtain ⟨t, b⟩ := r
  dsimp only [tvT, tv] at *
  go_wp2_with fail
  refine (unhide CS _ (unhide X3).ins (unhide X3).trs (unhide S3').trs (unhide S3').inb).mono ?_
  generalize w1.heap.size = X at *
  generalize World.alloc _ _ = W3 at *
  clear w1
  rintro e w4 ⟨kv4, mv4, rfl, ok4, om4, b4⟩
  have r4 := OwnI.ins (B := W3.heap.size) ok4 (show t.ks.length ≤ 1000000 by omega)
  have q4 := Trs.own om4 (show t.ms.length ≤ 1000000000 by omega)
  obtain ⟨xa, xc, e5⟩ := r4.slice
  obtain ⟨ya, yc, e6⟩ := q4.slice
  subst e5 e6
  have X4 := (unhide X3).later b4
  have S4 := (unhide S3').later b4
  have B4 := (unhide B3).trans (b4.mono (unhide B3).size)
  have Y5 := hide (Tb.new (n := t.n) (d := t.d) (has := t.has) (num := t.num) (til := t.til) r4 q4 30)
  have b5 := below1 w4 (.cells #[.int .i64 t.n, .slice xa t.ks.length xc, .int .i64 t.d, .bool t.has, .int .i64 t.num, .int .i64 t.til, .slice ya t.ms.length yc] 30)
  have X5 := hide (X4.later b5)
  have S5 := hide (S4.later b5)
  have B5 := hide (B4.trans (b5.mono B4.size))
  clear ok4 om4 b4 b5 X4 S4 B4 r4 q4 X3 S3' B3 CS
  obtain ⟨x0, x1, x2, x3, x4, x5, x6⟩ := (unhide X5).cells
  obtain ⟨s0, s1, s2, s3⟩ := (unhide S5).cells
  go_wp2_with fail
  refine (unhide CI _ (unhide X5).ins (unhide X5).trs (unhide S5).trs (unhide S5).inb).mono ?_
  generalize w4.heap.size = Y at *
  generalize World.alloc _ _ = W5 at *
  clear w4
  clear W3
  rintro e w6 ⟨kv6, mv6, rfl, ok6, om6, b6⟩
  have r6 := OwnI.ins (B := W5.heap.size) ok6 (show t.ks.length ≤ 1000000 by omega)
  have q6 := Trs.own om6 (show t.ms.length ≤ 1000000000 by omega)
  obtain ⟨va, vc, e5⟩ := r6.slice
  obtain ⟨ua, uc, e6⟩ := q6.slice
  subst e5 e6
  have X6 := (unhide X5).later b6
  have S6 := (unhide S5).later b6
  have Y6 := (unhide Y5).later b6
  have B6 := (unhide B5).trans (b6.mono (unhide B5).size)
  have Z7 := hide (Tb.new (n := t.n) (d := t.d) (has := t.has) (num := t.num) (til := t.til) r6 q6 30)
  have b7 := below1 w6 (.cells #[.int .i64 t.n, .slice va t.ks.length vc, .int .i64 t.d, .bool t.has, .int .i64 t.num, .int .i64 t.til, .slice ua t.ms.length uc] 30)
  have X7 := hide (X6.later b7)
  have S7 := hide (S6.later b7)
  have Y7 := hide (Y6.later b7)
  have B7 := hide (B6.trans (b7.mono B6.size))
  clear ok6 om6 b6 b7 X6 S6 Y6 B6 r6 q6 X5 S5 Y5 B5 CI x0 x1 x2 x3 x4 x5 x6 s0 s1 s2 s3
  obtain ⟨y0, y1, y2, y3, y4, y5, y6⟩ := (unhide Y7).cells
  obtain ⟨z0, z1, z2, z3, z4, z5, z6⟩ := (unhide Z7).cells
  have CL := hide (fun (W : World) hk1 hm1 hk2 hm2 => luTrust_same W t (.slice va t.ks.length vc) (.slice ua t.ms.length uc) (.slice xa t.ks.length xc) (.slice ya t.ms.length yc) hk1 hm1 hk2 hm2)
  dsimp only [tvT, tv] at CL
  have hne : (b != b) = false := by simp
  have heq : (b == b) = true := by simp
  go_wp2_with fail
  refine (unhide CL _ (unhide Z7).ins (unhide Z7).trs (unhide Y7).ins (unhide Y7).trs).mono ?_
  generalize w6.heap.size = Z at *
  generalize World.alloc _ _ = W7 at *
  clear w6
  clear W5
  rintro e w8 ⟨rfl, b8⟩
  have X8 := hide ((unhide X7).later b8)
  have S8 := hide ((unhide S7).later b8)
  have Y8 := hide ((unhide Y7).later b8)
  have Z8 := hide ((unhide Z7).later b8)
  have B8 := hide ((unhide B7).trans (b8.mono (unhide B7).size))
  clear b8 X7 S7 Y7 Z7 B7 y0 y1 y2 y3 y4 y5 y6 z0 z1 z2 z3 z4 z5 z6
  clear W7
  obtain ⟨x0, x1, x2, x3, x4, x5, x6⟩ := (unhide X8).cells
  obtain ⟨s0, s1, s2, s3⟩ := (unhide S8).cells
  obtain ⟨y0, y1, y2, y3, y4, y5, y6⟩ := (unhide Y8).cells
  obtain ⟨z0, z1, z2, z3, z4, z5, z6⟩ := (unhide Z8).cells
  have hb : b = false ∨ b = true := by cases b <;> simp
  rcases hb with rfl | rfl
  · go_wp2_with fail
    refine (unhide CL _ (unhide Z8).ins (unhide Z8).trs (unhide Y8).ins (unhide Y8).trs).mono ?_
    rintro e w10 ⟨rfl, b10⟩
    have B10 := hide ((unhide B8).trans (b10.mono (unhide B8).size))
    clear b10
    go_wp2
    go_ret
    exact ⟨rfl, unhide B10⟩

  by_cases h9 : n = 9
  · have h9' : (n == 9) = true := by simpa using h9
    have H9 := hide h9
    clear h9
    go_wp2_with fail
    refine (unhide CL _ (unhide Z8).ins (unhide Z8).trs (unhide Y8).ins (unhide Y8).trs).mono ?_
    rintro e w10 ⟨rfl, b10⟩
    have B10 := hide ((unhide B8).trans (b10.mono (unhide B8).size))
    clear b10
    go_wp2
    go_ret
    exact ⟨rfl, unhide B10⟩

  have h9' : (n == 9) = false := by simpa using h9
  rcases unhide HC with ⟨hO, hc⟩ | ⟨hO, hI, hN, hc⟩ | ⟨hO, hI, hN, hc⟩
  · injection hc with _ hc2; cases hc2
  · injection hc with _ hc2; cases hc2
  injection hc with hc1 _
  subst hc1
  dsimp only at *
  have hrt := Tr.T.ok_root (t := ⟨n, ks, d, has, num, til, ms⟩) hO
  obtain ⟨⟨n0, n1⟩, hkk, d0, d1⟩ := Ky.rootOk_get hrt
  dsimp only at n0 n1 d0 d1
  have hkp : (0 : Int) < (ks.length : Int) := by omega
  have hr0 := Int.emod_nonneg (lenM : Int) (show (ks.length : Int) ≠ 0 by omega)
  have hr1 := Int.emod_lt_of_pos (lenM : Int) hkp
  have hD : 1 ≤ (1 + (lenM : Int) % (ks.length : Int)) ∧ (1 + (lenM : Int) % (ks.length : Int)) ≤ (ks.length : Int) := by omega
  have hOX := Tr.taken_ok (t := ⟨n, ks, d, has, num, til, ms⟩) hO hN
  obtain ⟨ro1, ro2, ro3⟩ := Tr.root_own (t := ⟨n, ks, d, has, num, til, ms⟩) (d := (1 + (lenM : Int) % (ks.length : Int))) hO h9 hD
  obtain ⟨rx1, rx2, rx3⟩ := Tr.root_own (t := ⟨n, ks, d, true, n2, t2, m2⟩) (d := (1 + (lenM : Int) % (ks.length : Int))) hOX h9 hD
  have ia := Tr.index_apart (t := ⟨n, ks, d, has, num, til, ms⟩) (d := (1 + (lenM : Int) % (ks.length : Int))) hI hN ro2
  dsimp only at ro1 rx1 ia
  have en : IntKind.i64.wrap (n + 1) = n + 1 := wrap_in' (by omega) (by omega)
  have e0 : ¬ (ks.length : Int) = 0 := by omega
  have er : IntKind.i64.wrap ((lenM : Int) % (ks.length : Int)) = (lenM : Int) % (ks.length : Int) := wrap_in' (by omega) (by omega)
  have ed : IntKind.i64.wrap (1 + (lenM : Int) % (ks.length : Int)) = (1 + (lenM : Int) % (ks.length : Int)) := wrap_in' (by omega) (by omega)
  have C1 := hide (fun (W : World) h1 h2 h3 h4 => implTrustRoot_any W ⟨n, ks, d, has, num, til, ms⟩ (.slice ka ks.length kc) (.slice ma ms.length mc) (n + 1) (1 + (lenM : Int) % (ks.length : Int)) (.slice ka ks.length kc) (.slice ka ks.length kc) ks ks h1 h2 h3 h4)
  have C2 := hide (fun (W : World) h1 h2 h3 h4 => implTrustRoot_any W ⟨n, ks, d, true, n2, t2, m2⟩ (.slice va ks.length vc) (.slice ua m2.length uc) (n + 1) (1 + (lenM : Int) % (ks.length : Int)) (.slice ka ks.length kc) (.slice ka ks.length kc) ks ks h1 h2 h3 h4)
  have C3 := hide (fun (W : World) (k1 m1 : Value) h1 h2 h3 h4 => implTrustIndex_any W ⟨n + 1, ks, (1 + (lenM : Int) % (ks.length : Int)), has, num, til, ms⟩ k1 m1 n2 t2 (.slice a2 m2.length c2) (.slice ab by'.length cb) m2 by' now h1 h2 h3 h4)
  have C4 := hide (fun (W : World) h1 h2 => implRootSigned_any W (n + 1) (1 + (lenM : Int) % (ks.length : Int)) (.slice ka ks.length kc) (.slice ab by'.length cb) ks by' h1 h2)
  rw [ro1] at C1
  rw [rx1] at C2
  rw [ia] at C3
  dsimp only [tvT, tv] at C1 C2 C3
  have hXlt : X < w8.heap.size := (unhide X8).lt
  have R9 := heap_alloc_new w8 (.cells #[.int .i64 n, .slice ka ks.length kc, .int .i64 d] 25)
  obtain ⟨a0, a1, a2'⟩ := box3c R9
  have af0 := frozenOf R9 0
  have af2 := frozenOf R9 2
  have b9 := below1 w8 (.cells #[.int .i64 (n + 1), .slice ka ks.length kc, .int .i64 (1 + (lenM : Int) % (ks.length : Int))] 25)
  have z9 := sz1' w8 (.cells #[.int .i64 (n + 1), .slice ka ks.length kc, .int .i64 (1 + (lenM : Int) % (ks.length : Int))] 25)
  have Q9 := Bx.new (n := n + 1) (d := (1 + (lenM : Int) % (ks.length : Int))) (unhide X8).ins 25
  have X9 := (unhide X8).later b9
  have G10 := Sx.new (n := n + 1) (d := (1 + (lenM : Int) % (ks.length : Int))) X9.ins X9.ins 46
  rw [z9] at G10
  have b10 := below1 (w8.alloc (.cells #[.int .i64 (n + 1), .slice ka ks.length kc, .int .i64 (1 + (lenM : Int) % (ks.length : Int))] 25)) (.cells #[.int .i64 (n + 1), .slice ka ks.length kc, .int .i64 (1 + (lenM : Int) % (ks.length : Int)), .slice ka ks.length kc] 46)
  have X10 := hide (X9.later b10)
  have S10 := hide (((unhide S8).later b9).later b10)
  have Z10 := hide (((unhide Z8).later b9).later b10)
  have Q10 := hide (Q9.later b10)
  have B9 := (unhide B8).trans (b9.mono (unhide B8).size)
  have B10 := hide (B9.trans (b10.mono B9.size))
  have G10' := hide G10
  obtain ⟨u0, u1, u2, u3, u4, u5, u6⟩ := (unhide X10).cells
  have o0 := G10.c0
  have o1 := G10.c1
  have o2 := G10.c2
  have o3 := G10.c3
  have HR0 := hide (And.intro hr0 hr1)
  clear HC hO hI hN hOX hrt hkk ro1 ro2 ro3 rx1 rx2 rx3 ia hne heq CL Y8 y0 y1 y2 y3 y4 y5 y6 R9 b9 z9 Q9 X9 G10 b10 B9 B8 Z8 z0 z1 z2 z3 z4 z5 z6 S8 s0 s1 s2 s3 X8 h9 hD hr0 hr1
  go_wp2_with fail
  refine (unhide C1 _ (unhide X10).ins (unhide X10).trs (unhide G10').ins (unhide G10').inb).mono ?_
  generalize w8.heap.size = R at *
  generalize World.alloc _ _ = W10 at *
  generalize (1 + (lenM : Int) % (ks.length : Int)) = D at *
  rintro e w11 ⟨kv11, mv11, rfl, ok11, om11, b11⟩
  have r11 := OwnI.ins (B := W10.heap.size) ok11 (show ks.length ≤ 1000000 by omega)
  have q11 := Trs.own om11 (show ms.length ≤ 1000000000 by omega)
  obtain ⟨f1, f2, e5⟩ := r11.slice
  obtain ⟨f3, f4, e6⟩ := q11.slice
  dsimp only at e5 e6
  subst e5 e6
  dsimp only [tvT, tv]
  have Y12 := hide (Tb.new (n := n + 1) (d := D) (has := has) (num := num) (til := til) r11 q11 30)
  dsimp only at Y12
  have b12 := below1 w11 (.cells #[.int .i64 (n + 1), .slice f1 ks.length f2, .int .i64 D, .bool has, .int .i64 num, .int .i64 til, .slice f3 ms.length f4] 30)
  have S12 := hide (((unhide S10).later b11).later b12)
  have Z12 := hide (((unhide Z10).later b11).later b12)
  have Q12 := hide (((unhide Q10).later b11).later b12)
  have G12 := hide (((unhide G10').later b11).later b12)
  have B11 := (unhide B10).trans (b11.mono (unhide B10).size)
  have B12 := hide (B11.trans (b12.mono B11.size))
  clear ok11 om11 r11 q11 b11 b12 B11 S10 Z10 Q10 G10' B10 X10 x0 x1 x2 x3 x4 x5 x6 u0 u1 u2 u3 u4 u5 u6 o0 o1 o2 o3 a0 a1 a2' af0 af2 C1
  obtain ⟨z0, z1, z2, z3, z4, z5, z6⟩ := (unhide Z12).cells
  have o0 := (unhide G12).c0
  have o1 := (unhide G12).c1
  have o2 := (unhide G12).c2
  have o3 := (unhide G12).c3
  go_wp2_with fail
  refine (unhide C2 _ (unhide Z12).ins (unhide Z12).trs (unhide G12).ins (unhide G12).inb).mono ?_
  generalize w11.heap.size = Y2 at *
  generalize World.alloc _ _ = W12 at *
  rintro e w13 ⟨kv13, mv13, rfl, ok13, om13, b13⟩
  have r13 := OwnI.ins (B := W12.heap.size) ok13 (show ks.length ≤ 1000000 by omega)
  have q13 := Trs.own om13 (show m2.length ≤ 1000000000 by omega)
  obtain ⟨g1, g2, e5⟩ := r13.slice
  obtain ⟨g3, g4, e6⟩ := q13.slice
  dsimp only at e5 e6
  subst e5 e6
  dsimp only [tvT, tv]
  have A14 := hide (Tb.new (n := n + 1) (d := D) (has := true) (num := n2) (til := t2) r13 q13 30)
  dsimp only at A14
  have b14 := below1 w13 (.cells #[.int .i64 (n + 1), .slice g1 ks.length g2, .int .i64 D, .bool true, .int .i64 n2, .int .i64 t2, .slice g3 m2.length g4] 30)
  have S14 := hide (((unhide S12).later b13).later b14)
  have Y14 := hide (((unhide Y12).later b13).later b14)
  have Q14 := hide (((unhide Q12).later b13).later b14)
  have B13 := (unhide B12).trans (b13.mono (unhide B12).size)
  have B14 := hide (B13.trans (b14.mono B13.size))
  clear ok13 om13 r13 q13 b13 b14 B13 S12 Y12 Z12 Q12 G12 B12 z0 z1 z2 z3 z4 z5 z6 o0 o1 o2 o3 C2
  obtain ⟨y0, y1, y2, y3, y4, y5, y6⟩ := (unhide Y14).cells
  obtain ⟨s0, s1, s2, s3⟩ := (unhide S14).cells
  have C5 := hide (fun (W : World) (k1 m1 : Value) hk1 hm1 hk2 hm2 => luTrust_same W ⟨n + 1, ks, D, true, n2, t2, m2⟩ (.slice g1 ks.length g2) (.slice g3 m2.length g4) k1 m1 hk1 hm1 hk2 hm2)
  dsimp only [tvT, tv] at C5
  go_wp2_with fail
  refine (unhide C3 _ _ _ (unhide Y14).ins (unhide Y14).trs (unhide S14).trs (unhide S14).inb).mono ?_
  generalize w13.heap.size = A2 at *
  generalize World.alloc _ _ = W14 at *
  rintro e w15 ⟨kv15, mv15, rfl, ok15, om15, b15⟩
  cases hA : Ky.signed (n + 1) ks D by'
  · rw [hA] at ok15 om15 C4
    rw [if_neg Bool.false_ne_true] at ok15 om15
    rw [if_neg Bool.false_ne_true]
    obtain ⟨h1, h2, e5⟩ := own_formS ok15
    obtain ⟨h3, h4, e6⟩ := own_formS om15
    dsimp only at e5 e6
    subst e5 e6
    dsimp only [tvT, tv]
    have b16 := below1 w15 (.cells #[.int .i64 (n + 1), .slice h1 ks.length h2, .int .i64 D, .bool has, .int .i64 num, .int .i64 til, .slice h3 ms.length h4] 30)
    have S16 := hide (((unhide S14).later b15).later b16)
    have Q16 := hide (((unhide Q14).later b15).later b16)
    have B15 := (unhide B14).trans (b15.mono (unhide B14).size)
    have B16 := hide (B15.trans (b16.mono B15.size))
    clear ok15 om15 b15 b16 B15 S14 Y14 Q14 B14 y0 y1 y2 y3 y4 y5 y6 s0 s1 s2 s3 A14
    obtain ⟨s0, s1, s2, s3⟩ := (unhide S16).cells
    obtain ⟨u0, u1, u2⟩ := (unhide Q16).cells
    go_wp2_with fail
    refine (unhide C4 _ (unhide Q16).ins (unhide S16).inb).mono ?_
    generalize World.alloc _ _ = W16 at *
    rintro e w17 ⟨rfl, b17⟩
    have B17 := hide ((unhide B16).trans (b17.mono (unhide B16).size))
    clear b17
    go_wp2
    go_ret
    exact ⟨rfl, unhide B17⟩
  · rw [hA] at ok15 om15 C4
    rw [if_pos rfl] at ok15 om15
    rw [if_pos rfl]
    have r15 := OwnI.ins (B := W14.heap.size) ok15 (show ks.length ≤ 1000000 by omega)
    have q15 := Trs.own om15 (show m2.length ≤ 1000000000 by omega)
    obtain ⟨h1, h2, e5⟩ := r15.slice
    obtain ⟨h3, h4, e6⟩ := q15.slice
    dsimp only at e5 e6
    subst e5 e6
    dsimp only [tvT, tv]
    have V16 := hide (Tb.new (n := n + 1) (d := D) (has := true) (num := n2) (til := t2) r15 q15 30)
    dsimp only at V16
    have b16 := below1 w15 (.cells #[.int .i64 (n + 1), .slice h1 ks.length h2, .int .i64 D, .bool true, .int .i64 n2, .int .i64 t2, .slice h3 m2.length h4] 30)
    have S16 := hide (((unhide S14).later b15).later b16)
    have Q16 := hide (((unhide Q14).later b15).later b16)
    have A16 := hide (((unhide A14).later b15).later b16)
    have B15 := (unhide B14).trans (b15.mono (unhide B14).size)
    have B16 := hide (B15.trans (b16.mono B15.size))
    clear ok15 om15 r15 q15 b15 b16 B15 S14 Y14 Q14 B14 y0 y1 y2 y3 y4 y5 y6 s0 s1 s2 s3 A14
    obtain ⟨s0, s1, s2, s3⟩ := (unhide S16).cells
    obtain ⟨u0, u1, u2⟩ := (unhide Q16).cells
    go_wp2_with fail
    refine (unhide C4 _ (unhide Q16).ins (unhide S16).inb).mono ?_
    generalize w15.heap.size = V2 at *
    generalize World.alloc _ _ = W16 at *
    rintro e w17 ⟨rfl, b17⟩
    have A17 := hide ((unhide A16).later b17)
    have V17 := hide ((unhide V16).later b17)
    have B17 := hide ((unhide B16).trans (b17.mono (unhide B16).size))
    clear b17 A16 V16 B16 S16 Q16 s0 s1 s2 s3 u0 u1 u2
    obtain ⟨y0, y1, y2, y3, y4, y5, y6⟩ := (unhide A17).cells
    obtain ⟨v0, v1, v2, v3, v4, v5, v6⟩ := (unhide V17).cells
    go_wp2_with fail
    refine (unhide C5 _ _ _ (unhide A17).ins (unhide A17).trs (unhide V17).ins (unhide V17).trs).mono ?_
    rintro e w18 ⟨rfl, b18⟩
    have B18 := hide ((unhide B17).trans (b18.mono (unhide B17).size))
    clear b18
    go_wp2
    go_ret
    exact ⟨rfl, unhide B18⟩
end Go.Proofs.Ytkgeekjclcpbpaa
