/- The walk of FnTrustRoot: it returns true; for every code. -/
import Derived.Test.YthjmnkfpopfgbaaTRDrawW
import Derived.Test.YthjmnkfpopfgbaaTrustRootW
namespace Go.Proofs.Ythjmnkfpopfgbaa
open Go.RowKit

theorem Sx.cells' {w : World} {g : Nat} {n d : Int} {v vb : Value} {k by' : List Int} (h : Sx w g n d v vb k by') : w.cell? ⟨g, 0, none⟩ = some (.int .i64 n) ∧ w.cell? ⟨g, 1, none⟩ = some v ∧ w.cell? ⟨g, 2, none⟩ = some (.int .i64 d) ∧ w.cell? ⟨g, 3, none⟩ = some vb := ⟨h.c0, h.c1, h.c2, h.c3⟩
theorem Tr.root_len {t : Tr.T} {n d : Int} {ks by' : List Int} (h1 : t.ks.length ≤ 7) (h2 : t.ms.length ≤ 9) (h3 : ks.length ≤ 7) : (Tr.root t n ks d by').1.ks.length ≤ 7 ∧ (Tr.root t n ks d by').1.ms.length ≤ 9 := by
  unfold Tr.root
  split
  · split
    · exact ⟨h3, h2⟩
    · exact ⟨h1, h2⟩
  · exact ⟨Nat.zero_le _, Nat.zero_le _⟩
theorem Ky.next_same {n d : Int} {ks by' : List Int} : Ky.next n ks d n ks d by' = false := by
  unfold Ky.next
  rw [decide_eq_false (by omega), Bool.and_false]
theorem Tr.root_again {t : Tr.T} {n d : Int} {ks by' : List Int} : (Tr.root { t with n := n, ks := ks, d := d } n ks d by').2 = false := by
  unfold Tr.root
  dsimp only
  rw [Ky.next_same]
  split
  · rfl
  · rfl
theorem Ky.next_root {n d n2 d2 : Int} {k k2 by' : List Int} (h : Ky.next n k d n2 k2 d2 by' = true) : Ky.rootOk n2 k2 d2 = true := by
  unfold Ky.next Ky.signed at h
  simp only [Bool.and_eq_true] at h
  exact h.1.2.1.1
/-- The three ways. -/
theorem Tr.root_cases (t : Tr.T) (n d : Int) (ks by' : List Int) : (t.ok = false ∧ Tr.root t n ks d by' = (Tr.T.none, false)) ∨ (t.ok = true ∧ Ky.next t.n t.ks t.d n ks d by' = false ∧ Tr.root t n ks d by' = (t, false)) ∨ (t.ok = true ∧ Ky.next t.n t.ks t.d n ks d by' = true ∧ Tr.root t n ks d by' = ({ t with n := n, ks := ks, d := d }, true) ∧ Tr.T.ok { t with n := n, ks := ks, d := d } = true) := by
  unfold Tr.root
  cases hO : t.ok
  · exact .inl ⟨rfl, rfl⟩
  · cases hN : Ky.next t.n t.ks t.d n ks d by'
    · exact .inr (.inl ⟨rfl, rfl, rfl⟩)
    · refine .inr (.inr ⟨rfl, rfl, rfl, ?_⟩)
      have h1 := Ky.next_root hN
      unfold Tr.T.ok Tr.ok at hO ⊢
      rw [Bool.and_eq_true] at hO
      dsimp only
      rw [h1, hO.2]
      rfl

set_option maxHeartbeats 4000000 in
set_option maxRecDepth 100000 in
theorem trustRoot_walk (w : World) (a : Option Addr) (len cap : Nat) (h : Bytes w a len cap) :
    Calls Try.prog 4 #[.slice a len cap] w fun e w' => e = .returned (.bool true) ∧ Below w.heap.size w w' := by
  by_cases hbig : (1048576 : Int) < (len : Int)
  · go_enter Try.func4, Try.ntmps4
    go_wp2
    go_ret
    exact ⟨rfl, Below.refl _ _⟩
  have CD := hide (drawTrustRoot_any w a len cap h)
  unfold tv at CD
  clear h
  go_enter Try.func4, Try.ntmps4
  go_wp2_with fail
  refine (unhide CD).mono ?_
  clear CD
  rintro e w1 ⟨n, d, kv, ks, has, num, til, mv, ms, n2, d2, v2, vb, k2, by', rfl, ⟨m0, m1⟩, hks, hms, hk2, hby, i1, i2, i3, i4, b1⟩
  obtain ⟨ka, kc, e1⟩ := i1.slice
  obtain ⟨ma, mc, e2⟩ := i2.slice
  obtain ⟨a2, c2, e3⟩ := i3.slice
  obtain ⟨ab, cb, e4⟩ := i4.slice
  subst e1 e2 e3 e4
  have X2 := Tb.new (n := n) (d := d) (has := has) (num := num) (til := til) i1 i2 31
  have c1 := below1 w1 (.cells #[.int .i64 n, .slice ka ks.length kc, .int .i64 d, .bool has, .int .i64 num, .int .i64 til, .slice ma ms.length mc] 31)
  have z1 := sz1' w1 (.cells #[.int .i64 n, .slice ka ks.length kc, .int .i64 d, .bool has, .int .i64 num, .int .i64 til, .slice ma ms.length mc] 31)
  have S3 := Sx.new (n := n2) (d := d2) (i3.later c1) (i4.later c1) 40
  rw [z1] at S3
  have c2' := below1 (w1.alloc (.cells #[.int .i64 n, .slice ka ks.length kc, .int .i64 d, .bool has, .int .i64 num, .int .i64 til, .slice ma ms.length mc] 31)) (.cells #[.int .i64 n2, .slice a2 k2.length c2, .int .i64 d2, .slice ab by'.length cb] 40)
  have X3 := hide (X2.later c2')
  have S3' := hide S3
  have B3 := hide ((b1.trans (c1.mono b1.size)).trans (c2'.mono (Nat.le_trans b1.size c1.size)))
  clear X2 c1 z1 S3 c2' b1 i1 i2 i3 i4
  obtain ⟨t0, ht0⟩ : ∃ t0 : Tr.T, t0 = ⟨n, ks, d, has, num, til, ms⟩ := ⟨_, rfl⟩
  obtain ⟨hl1, hl2⟩ := Tr.root_len (t := ⟨n, ks, d, has, num, til, ms⟩) (n := n2) (d := d2) (ks := k2) (by' := by') hks hms hk2
  have CS := hide (fun (W : World) h1 h2 h3 h4 => specTrustRoot_any W ⟨n, ks, d, has, num, til, ms⟩ (.slice ka ks.length kc) (.slice ma ms.length mc) n2 d2 (.slice a2 k2.length c2) (.slice ab by'.length cb) k2 by' h1 h2 h3 h4 (show ks.length ≤ 1000000 by omega) (show ms.length ≤ 1000000 by omega))
  have CI := hide (fun (W : World) h1 h2 h3 h4 => implTrustRoot_any W ⟨n, ks, d, has, num, til, ms⟩ (.slice ka ks.length kc) (.slice ma ms.length mc) n2 d2 (.slice a2 k2.length c2) (.slice ab by'.length cb) k2 by' h1 h2 h3 h4)
  have HC := hide (Tr.root_cases ⟨n, ks, d, has, num, til, ms⟩ n2 d2 k2 by')
  have AG := hide (fun (W : World) (kv mv : Value) (h1 : Ins W kv k2) (h2 : Trs W mv ms) h3 h4 => implTrustRoot_any W ⟨n2, k2, d2, has, num, til, ms⟩ kv mv n2 d2 (.slice a2 k2.length c2) (.slice ab by'.length cb) k2 by' h1 h2 h3 h4)
  have AG2 := hide (Tr.root_again (t := ⟨n, ks, d, has, num, til, ms⟩) (n := n2) (d := d2) (ks := k2) (by' := by'))
  dsimp only at AG2
  generalize Tr.root ⟨n2, k2, d2, has, num, til, ms⟩ n2 k2 d2 by' = ra at *
  generalize Tr.root ⟨n, ks, d, has, num, til, ms⟩ n2 k2 d2 by' = r at *
  obtain ⟨t, b⟩ := r
  dsimp only [tvT, tv] at *
  clear ht0
  clear t0
  go_wp2_with fail
  refine (unhide CS _ (unhide X3).ins (unhide X3).trs (unhide S3').ins (unhide S3').inb).mono ?_
  generalize w1.heap.size = X at *
  generalize World.alloc _ _ = W3 at *
  clear w1
  rintro e w4 ⟨kv4, mv4, rfl, ok4, om4, b4⟩
  have r4 := OwnI.ins (B := W3.heap.size) ok4 (show t.ks.length ≤ 1000000 by omega)
  have q4 := Trs.own om4 (show t.ms.length ≤ 1000000000 by omega)
  obtain ⟨xa, xc, e5⟩ := r4.slice
  obtain ⟨ya, yc, e6⟩ := q4.slice
  subst e5 e6
  have X4 := (unhide X3).later b4
  have S4 := (unhide S3').later b4
  have B4 := (unhide B3).trans (b4.mono (unhide B3).size)
  have Y5 := hide (Tb.new (n := t.n) (d := t.d) (has := t.has) (num := t.num) (til := t.til) r4 q4 31)
  have b5 := below1 w4 (.cells #[.int .i64 t.n, .slice xa t.ks.length xc, .int .i64 t.d, .bool t.has, .int .i64 t.num, .int .i64 t.til, .slice ya t.ms.length yc] 31)
  have X5 := hide (X4.later b5)
  have S5 := hide (S4.later b5)
  have B5 := hide (B4.trans (b5.mono B4.size))
  clear ok4 om4 b4 b5 X4 S4 B4 r4 q4 X3 S3' B3 CS
  obtain ⟨x0, x1, x2, x3, x4, x5, x6⟩ := (unhide X5).cells
  obtain ⟨s0, s1, s2, s3⟩ := Sx.cells' (unhide S5)
  go_wp2_with fail
  refine (unhide CI _ (unhide X5).ins (unhide X5).trs (unhide S5).ins (unhide S5).inb).mono ?_
  generalize w4.heap.size = Y at *
  generalize World.alloc _ _ = W5 at *
  clear w4
  clear W3
  rintro e w6 ⟨kv6, mv6, rfl, ok6, om6, b6⟩
  have r6 := OwnI.ins (B := W5.heap.size) ok6 (show t.ks.length ≤ 1000000 by omega)
  have q6 := Trs.own om6 (show t.ms.length ≤ 1000000000 by omega)
  obtain ⟨va, vc, e5⟩ := r6.slice
  obtain ⟨ua, uc, e6⟩ := q6.slice
  subst e5 e6
  have X6 := (unhide X5).later b6
  have S6 := (unhide S5).later b6
  have Y6 := (unhide Y5).later b6
  have B6 := (unhide B5).trans (b6.mono (unhide B5).size)
  have Z7 := hide (Tb.new (n := t.n) (d := t.d) (has := t.has) (num := t.num) (til := t.til) r6 q6 31)
  have b7 := below1 w6 (.cells #[.int .i64 t.n, .slice va t.ks.length vc, .int .i64 t.d, .bool t.has, .int .i64 t.num, .int .i64 t.til, .slice ua t.ms.length uc] 31)
  have X7 := hide (X6.later b7)
  have S7 := hide (S6.later b7)
  have Y7 := hide (Y6.later b7)
  have B7 := hide (B6.trans (b7.mono B6.size))
  clear ok6 om6 b6 b7 X6 S6 Y6 B6 r6 q6 X5 S5 Y5 B5 CI x0 x1 x2 x3 x4 x5 x6 s0 s1 s2 s3
  obtain ⟨y0, y1, y2, y3, y4, y5, y6⟩ := (unhide Y7).cells
  obtain ⟨z0, z1, z2, z3, z4, z5, z6⟩ := (unhide Z7).cells
  have CL := hide (fun (W : World) hk1 hm1 hk2 hm2 => luTrust_same W t (.slice va t.ks.length vc) (.slice ua t.ms.length uc) (.slice xa t.ks.length xc) (.slice ya t.ms.length yc) hk1 hm1 hk2 hm2)
  dsimp only [tvT, tv] at CL
  have hne : (b != b) = false := by simp
  have heq : (b == b) = true := by simp
  go_wp2_with fail
  refine (unhide CL _ (unhide Z7).ins (unhide Z7).trs (unhide Y7).ins (unhide Y7).trs).mono ?_
  generalize w6.heap.size = Z at *
  generalize World.alloc _ _ = W7 at *
  clear w6
  clear W5
  rintro e w8 ⟨rfl, b8⟩
  have X8 := hide ((unhide X7).later b8)
  have S8 := hide ((unhide S7).later b8)
  have Y8 := hide ((unhide Y7).later b8)
  have Z8 := hide ((unhide Z7).later b8)
  have B8 := hide ((unhide B7).trans (b8.mono (unhide B7).size))
  clear b8 X7 S7 Y7 Z7 B7 y0 y1 y2 y3 y4 y5 y6 z0 z1 z2 z3 z4 z5 z6
  clear W7
  obtain ⟨x0, x1, x2, x3, x4, x5, x6⟩ := (unhide X8).cells
  have CO := hide (fun (W : World) hk hm => specTrustOk_any W n d (.slice ka ks.length kc) ks has num til (.slice ma ms.length mc) ms hk hm)
  dsimp only [tv] at CO
  go_wp2_with fail
  refine (unhide CO _ (unhide X8).ins (unhide X8).trs).mono ?_
  rintro e w9 ⟨rfl, b9⟩
  have X9 := hide ((unhide X8).later b9)
  have S9 := hide ((unhide S8).later b9)
  have Y9 := hide ((unhide Y8).later b9)
  have Z9 := hide ((unhide Z8).later b9)
  have B9 := hide ((unhide B8).trans (b9.mono (unhide B8).size))
  clear b9 X8 S8 Y8 Z8 B8 x0 x1 x2 x3 x4 x5 x6
  obtain ⟨x0, x1, x2, x3, x4, x5, x6⟩ := (unhide X9).cells
  obtain ⟨s0, s1, s2, s3⟩ := Sx.cells' (unhide S9)
  obtain ⟨y0, y1, y2, y3, y4, y5, y6⟩ := (unhide Y9).cells
  obtain ⟨z0, z1, z2, z3, z4, z5, z6⟩ := (unhide Z9).cells
  rcases unhide HC with ⟨hO, hc⟩ | ⟨hO, hN, hc⟩ | ⟨hO, hN, hc, hO2⟩
  · unfold Tr.T.ok at hO
    dsimp only at hO
    rw [hO]
    go_wp2_with fail
    refine (unhide CL _ (unhide Z9).ins (unhide Z9).trs (unhide Y9).ins (unhide Y9).trs).mono ?_
    rintro e w10 ⟨rfl, b10⟩
    have B10 := hide ((unhide B9).trans (b10.mono (unhide B9).size))
    clear b10
    go_wp2
    go_ret
    exact ⟨rfl, unhide B10⟩
  · unfold Tr.T.ok at hO
    dsimp only at hO hN
    rw [hO]
    injection hc with hc1 hc2
    subst hc2
    have CN := hide (fun (W : World) h1 h2 h3 => implRootNext_any W n d n2 d2 (.slice ka ks.length kc) (.slice a2 k2.length c2) (.slice ab by'.length cb) ks k2 by' h1 h2 h3)
    rw [hN] at CN
    subst hc1
    dsimp only at *
    have CM := hide (fun (W : World) hk1 hm1 hk2 hm2 => luTrust_same W ⟨n, ks, d, has, num, til, ms⟩ (.slice va ks.length vc) (.slice ua ms.length uc) (.slice ka ks.length kc) (.slice ma ms.length mc) hk1 hm1 hk2 hm2)
    dsimp only [tvT, tv] at CM
    clear HC AG AG2 hne heq
    go_wp2_with fail
    refine (unhide CN _ (unhide X9).ins (unhide S9).ins (unhide S9).inb).mono ?_
    rintro e w10 ⟨rfl, b10⟩
    have X10 := hide ((unhide X9).later b10)
    have Z10 := hide ((unhide Z9).later b10)
    have B10 := hide ((unhide B9).trans (b10.mono (unhide B9).size))
    clear b10 X9 Z9 B9 x0 x1 x2 x3 x4 x5 x6 z0 z1 z2 z3 z4 z5 z6 y0 y1 y2 y3 y4 y5 y6 s0 s1 s2 s3
    obtain ⟨x0, x1, x2, x3, x4, x5, x6⟩ := (unhide X10).cells
    obtain ⟨z0, z1, z2, z3, z4, z5, z6⟩ := (unhide Z10).cells
    go_wp2_with fail
    refine (unhide CM _ (unhide Z10).ins (unhide Z10).trs (unhide X10).ins (unhide X10).trs).mono ?_
    rintro e w11 ⟨rfl, b11⟩
    have B11 := hide ((unhide B10).trans (b11.mono (unhide B10).size))
    clear b11
    go_wp2
    go_ret
    exact ⟨rfl, unhide B11⟩
  · unfold Tr.T.ok at hO hO2
    dsimp only at hO hN hO2
    rw [hO]
    injection hc with hc1 hc2
    subst hc2
    have CN := hide (fun (W : World) h1 h2 h3 => implRootNext_any W n d n2 d2 (.slice ka ks.length kc) (.slice a2 k2.length c2) (.slice ab by'.length cb) ks k2 by' h1 h2 h3)
    rw [hN] at CN
    subst hc1
    dsimp only at *
    have CK := hide (fun (W : World) hk hm => implTrustOk_any W n2 d2 (.slice va k2.length vc) k2 has num til (.slice ua ms.length uc) ms hk hm)
    rw [hO2] at CK
    dsimp only [tv] at CK
    obtain ⟨ta, ba⟩ := ra
    dsimp only at AG2
    have hba := unhide AG2
    subst hba
    clear HC AG2 hne heq
    go_wp2_with fail
    refine (unhide AG _ _ _ (unhide Z9).ins (unhide Z9).trs (unhide S9).ins (unhide S9).inb).mono ?_
    rintro e w10 ⟨kv10, mv10, rfl, ok10, om10, b10⟩
    obtain ⟨pa, pc, e7⟩ := own_formS ok10
    obtain ⟨pb, pd, e8⟩ := own_formS om10
    subst e7 e8
    dsimp only [tvT, tv]
    have b11 := below1 w10 (.cells #[.int .i64 ta.n, .slice pa ta.ks.length pc, .int .i64 ta.d, .bool ta.has, .int .i64 ta.num, .int .i64 ta.til, .slice pb ta.ms.length pd] 31)
    have X11 := hide (((unhide X9).later b10).later b11)
    have S11 := hide (((unhide S9).later b10).later b11)
    have Z11 := hide (((unhide Z9).later b10).later b11)
    have B10 := (unhide B9).trans (b10.mono (unhide B9).size)
    have B11 := hide (B10.trans (b11.mono B10.size))
    clear b10 b11 B10 ok10 om10 X9 S9 Z9 Y9 B9 x0 x1 x2 x3 x4 x5 x6 z0 z1 z2 z3 z4 z5 z6 y0 y1 y2 y3 y4 y5 y6 s0 s1 s2 s3
    obtain ⟨x0, x1, x2, x3, x4, x5, x6⟩ := (unhide X11).cells
    obtain ⟨s0, s1, s2, s3⟩ := Sx.cells' (unhide S11)
    go_wp2_with fail
    refine (unhide CN _ (unhide X11).ins (unhide S11).ins (unhide S11).inb).mono ?_
    generalize World.alloc _ _ = W11 at *
    rintro e w12 ⟨rfl, b12⟩
    have X12 := hide ((unhide X11).later b12)
    have S12 := hide ((unhide S11).later b12)
    have Z12 := hide ((unhide Z11).later b12)
    have B12 := hide ((unhide B11).trans (b12.mono (unhide B11).size))
    clear b12 X11 S11 Z11 B11 x0 x1 x2 x3 x4 x5 x6 s0 s1 s2 s3
    obtain ⟨z0, z1, z2, z3, z4, z5, z6⟩ := (unhide Z12).cells
    obtain ⟨s0, s1, s2, s3⟩ := Sx.cells' (unhide S12)
    go_wp2_with fail
    refine (luRoot_same _ n2 d2 _ _ k2 (unhide Z12).ins (unhide S12).ins).mono ?_
    rintro e w13 ⟨rfl, b13⟩
    have X13 := hide ((unhide X12).later b13)
    have Z13 := hide ((unhide Z12).later b13)
    have B13 := hide ((unhide B12).trans (b13.mono (unhide B12).size))
    clear b13 X12 S12 Z12 B12 z0 z1 z2 z3 z4 z5 z6 s0 s1 s2 s3
    obtain ⟨x0, x1, x2, x3, x4, x5, x6⟩ := (unhide X13).cells
    obtain ⟨z0, z1, z2, z3, z4, z5, z6⟩ := (unhide Z13).cells
    have hhas : (has == has) = true := by simp
    go_wp2_with fail
    refine (luIndex_same _ num til _ _ ms (unhide Z13).trs (unhide X13).trs).mono ?_
    rintro e w14 ⟨rfl, b14⟩
    have Z14 := hide ((unhide Z13).later b14)
    have B14 := hide ((unhide B13).trans (b14.mono (unhide B13).size))
    clear b14 X13 Z13 B13 x0 x1 x2 x3 x4 x5 x6 z0 z1 z2 z3 z4 z5 z6
    obtain ⟨z0, z1, z2, z3, z4, z5, z6⟩ := (unhide Z14).cells
    go_wp2_with fail
    refine (unhide CK _ (unhide Z14).ins (unhide Z14).trs).mono ?_
    rintro e w15 ⟨rfl, b15⟩
    have B15 := hide ((unhide B14).trans (b15.mono (unhide B14).size))
    clear b15
    go_wp2
    go_ret
    exact ⟨rfl, unhide B15⟩
end Go.Proofs.Ythjmnkfpopfgbaa
