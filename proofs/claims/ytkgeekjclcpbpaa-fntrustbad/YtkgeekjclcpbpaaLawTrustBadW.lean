/- The walk of FnTrustBad: it returns true; for every two codes. -/
import Derived.Test.YtkgeekjclcpbpaaLawTrustLateW
import Derived.Test.YtkgeekjclcpbpaaTrustRootW
namespace Go.Proofs.Ytkgeekjclcpbpaa
open Go.RowKit

theorem Ins.few {w : World} {a : Option Addr} {n c : Nat} {k : List Int} (h : Ins w (.slice a n c) k) {m : Nat} (hm : m ≤ n) : Ins w (.slice a (k.take m).length c) (k.take m) := by
  obtain ⟨a', c', hv, hl, hr⟩ := h
  injection hv with e1 e2 e3
  subst e1 e2 e3
  have hlen : (k.take m).length = m := by rw [List.length_take]; omega
  refine ⟨a, c, by rw [hlen], by omega, fun hp => ?_⟩
  obtain ⟨b, off, ha, hb, hc⟩ := hr (by omega)
  refine ⟨b, off, ha, hb, fun i hi => ?_⟩
  rw [hc i (by omega)]
  unfold Ky.nth
  rw [List.getD_eq_getElem?_getD, List.getD_eq_getElem?_getD, List.getElem?_take_of_lt (by omega)]
theorem Ins.spot' {w : World} {a : Option Addr} {n c : Nat} {k : List Int} (h : Ins w (.slice a n c) k) (hn : 0 < n) : ∃ b off, a = some ⟨b, off, none⟩ := by
  obtain ⟨a', c', hv, hl, hr⟩ := h
  injection hv with e1 e2 e3
  subst e1 e2 e3
  obtain ⟨b, off, ha, _⟩ := hr hn
  exact ⟨b, off, ha⟩
theorem Ins.single (w : World) (x : Int) (t : TypeId) : Ins (w.alloc (.cells #[.int .i64 x] t)) (.slice (some ⟨w.heap.size, 0, none⟩) 1 1) [x] := by
  refine ⟨_, _, rfl, by simp, fun _ => ⟨w.heap.size, 0, rfl, by rw [sz1']; omega, fun i hi => ?_⟩⟩
  obtain rfl : i = 0 := by simp at hi; omega
  exact cellOf (heap_alloc_new _ _) 0

set_option maxHeartbeats 8000000 in
set_option maxRecDepth 100000 in
theorem trustBad_walk (w : World) (a : Option Addr) (len cap : Nat) (aM : Option Addr) (lenM capM : Nat) (h : Bytes w a len cap) (_ : Bytes w aM lenM capM) :
    Calls Try.prog 4 #[.slice a len cap, .slice aM lenM capM] w fun e w' => e = .returned (.bool true) ∧ Below w.heap.size w w' := by
  by_cases hbig : (1048576 : Int) < (len : Int)
  · go_enter Try.func4, Try.ntmps4
    go_wp2
    go_ret
    exact ⟨rfl, Below.refl _ _⟩
  have hbig' : decide ((1048576 : Int) < (len : Int)) = false := by simpa using hbig
  by_cases hbig2 : (1048576 : Int) < (lenM : Int)
  · go_enter Try.func4, Try.ntmps4
    go_wp2
    go_ret
    exact ⟨rfl, Below.refl _ _⟩
  have CD := hide (drawTrustIndex_any w a len cap h)
  unfold tv at CD
  clear h
  go_enter Try.func4, Try.ntmps4
  go_wp2_with fail
  refine (unhide CD).mono ?_
  clear CD
  rintro e w1 ⟨n, d, kv, ks, has, num, til, mv, ms, n2, t2, v2, vb, m2, by', now, rfl, hks, hms, hm2, hby, i1, i2, i3, i4, b1, hroom⟩
  obtain ⟨ka, kc, e1⟩ := i1.slice
  obtain ⟨ma, mc, e2⟩ := i2.slice
  obtain ⟨a2, c2, e3⟩ := i3.slice
  obtain ⟨ab, cb, e4⟩ := i4.slice
  subst e1 e2 e3 e4
  have X2 := Tb.new (n := n) (d := d) (has := has) (num := num) (til := til) i1 i2 30
  have c1 := below1 w1 (.cells #[.int .i64 n, .slice ka ks.length kc, .int .i64 d, .bool has, .int .i64 num, .int .i64 til, .slice ma ms.length mc] 30)
  have z1 := sz1' w1 (.cells #[.int .i64 n, .slice ka ks.length kc, .int .i64 d, .bool has, .int .i64 num, .int .i64 til, .slice ma ms.length mc] 30)
  have S3 := Si.new (n2 := n2) (t2 := t2) (i3.later c1) (i4.later c1) 32
  rw [z1] at S3
  have c2' := below1 (w1.alloc (.cells #[.int .i64 n, .slice ka ks.length kc, .int .i64 d, .bool has, .int .i64 num, .int .i64 til, .slice ma ms.length mc] 30)) (.cells #[.int .i64 n2, .int .i64 t2, .slice a2 m2.length c2, .slice ab by'.length cb] 32)
  have X3 := hide (X2.later c2')
  have S3' := hide S3
  have B3 := hide ((b1.trans (c1.mono b1.size)).trans (c2'.mono (Nat.le_trans b1.size c1.size)))
  clear X2 c1 z1 S3 c2' b1 i1 i2 i3 i4
  obtain ⟨hl1, hl2⟩ := Tr.index_len (t := ⟨n, ks, d, has, num, til, ms⟩) (num := n2) (til := t2) (ms := m2) (by' := by') (now := now) hks hms hm2
  have CS := hide (fun (W : World) h1 h2 h3 h4 => specTrustIndex_any W ⟨n, ks, d, has, num, til, ms⟩ (.slice ka ks.length kc) (.slice ma ms.length mc) n2 t2 (.slice a2 m2.length c2) (.slice ab by'.length cb) m2 by' now h1 h2 h3 h4 (show ks.length ≤ 1000000 by omega) (show ms.length ≤ 1000000 by omega))
  have CI := hide (fun (W : World) h1 h2 h3 h4 => implTrustIndex_any W ⟨n, ks, d, has, num, til, ms⟩ (.slice ka ks.length kc) (.slice ma ms.length mc) n2 t2 (.slice a2 m2.length c2) (.slice ab by'.length cb) m2 by' now h1 h2 h3 h4)
  have HC := hide (Tr.index_cases ⟨n, ks, d, has, num, til, ms⟩ n2 t2 now m2 by')
  generalize Tr.index ⟨n, ks, d, has, num, til, ms⟩ n2 t2 m2 by' now = r at *
  obtain ⟨t, b⟩ := r
  dsimp only [tvT, tv] at *
  go_wp2_with fail
  refine (unhide CS _ (unhide X3).ins (unhide X3).trs (unhide S3').trs (unhide S3').inb).mono ?_
  generalize w1.heap.size = X at *
  generalize World.alloc _ _ = W3 at *
  clear w1
  rintro e w4 ⟨kv4, mv4, rfl, ok4, om4, b4⟩
  have r4 := OwnI.ins (B := W3.heap.size) ok4 (show t.ks.length ≤ 1000000 by omega)
  have q4 := Trs.own om4 (show t.ms.length ≤ 1000000000 by omega)
  obtain ⟨xa, xc, e5⟩ := r4.slice
  obtain ⟨ya, yc, e6⟩ := q4.slice
  subst e5 e6
  have X4 := (unhide X3).later b4
  have S4 := (unhide S3').later b4
  have B4 := (unhide B3).trans (b4.mono (unhide B3).size)
  have Y5 := hide (Tb.new (n := t.n) (d := t.d) (has := t.has) (num := t.num) (til := t.til) r4 q4 30)
  have b5 := below1 w4 (.cells #[.int .i64 t.n, .slice xa t.ks.length xc, .int .i64 t.d, .bool t.has, .int .i64 t.num, .int .i64 t.til, .slice ya t.ms.length yc] 30)
  have X5 := hide (X4.later b5)
  have S5 := hide (S4.later b5)
  have B5 := hide (B4.trans (b5.mono B4.size))
  clear ok4 om4 b4 b5 X4 S4 B4 r4 q4 X3 S3' B3 CS
  obtain ⟨x0, x1, x2, x3, x4, x5, x6⟩ := (unhide X5).cells
  obtain ⟨s0, s1, s2, s3⟩ := (unhide S5).cells
  go_wp2_with fail
  refine (unhide CI _ (unhide X5).ins (unhide X5).trs (unhide S5).trs (unhide S5).inb).mono ?_
  generalize w4.heap.size = Y at *
  generalize World.alloc _ _ = W5 at *
  clear w4
  clear W3
  rintro e w6 ⟨kv6, mv6, rfl, ok6, om6, b6⟩
  have r6 := OwnI.ins (B := W5.heap.size) ok6 (show t.ks.length ≤ 1000000 by omega)
  have q6 := Trs.own om6 (show t.ms.length ≤ 1000000000 by omega)
  obtain ⟨va, vc, e5⟩ := r6.slice
  obtain ⟨ua, uc, e6⟩ := q6.slice
  subst e5 e6
  have X6 := (unhide X5).later b6
  have S6 := (unhide S5).later b6
  have Y6 := (unhide Y5).later b6
  have B6 := (unhide B5).trans (b6.mono (unhide B5).size)
  have Z7 := hide (Tb.new (n := t.n) (d := t.d) (has := t.has) (num := t.num) (til := t.til) r6 q6 30)
  have b7 := below1 w6 (.cells #[.int .i64 t.n, .slice va t.ks.length vc, .int .i64 t.d, .bool t.has, .int .i64 t.num, .int .i64 t.til, .slice ua t.ms.length uc] 30)
  have X7 := hide (X6.later b7)
  have S7 := hide (S6.later b7)
  have Y7 := hide (Y6.later b7)
  have B7 := hide (B6.trans (b7.mono B6.size))
  clear ok6 om6 b6 b7 X6 S6 Y6 B6 r6 q6 X5 S5 Y5 B5 CI x0 x1 x2 x3 x4 x5 x6 s0 s1 s2 s3
  obtain ⟨y0, y1, y2, y3, y4, y5, y6⟩ := (unhide Y7).cells
  obtain ⟨z0, z1, z2, z3, z4, z5, z6⟩ := (unhide Z7).cells
  have CL := hide (fun (W : World) hk1 hm1 hk2 hm2 => luTrust_same W t (.slice va t.ks.length vc) (.slice ua t.ms.length uc) (.slice xa t.ks.length xc) (.slice ya t.ms.length yc) hk1 hm1 hk2 hm2)
  dsimp only [tvT, tv] at CL
  have hne : (b != b) = false := by simp
  have heq : (b == b) = true := by simp
  go_wp2_with fail
  refine (unhide CL _ (unhide Z7).ins (unhide Z7).trs (unhide Y7).ins (unhide Y7).trs).mono ?_
  generalize w6.heap.size = Z at *
  generalize World.alloc _ _ = W7 at *
  clear w6
  clear W5
  rintro e w8 ⟨rfl, b8⟩
  have X8 := hide ((unhide X7).later b8)
  have S8 := hide ((unhide S7).later b8)
  have Y8 := hide ((unhide Y7).later b8)
  have Z8 := hide ((unhide Z7).later b8)
  have B8 := hide ((unhide B7).trans (b8.mono (unhide B7).size))
  clear b8 X7 S7 Y7 Z7 B7 y0 y1 y2 y3 y4 y5 y6 z0 z1 z2 z3 z4 z5 z6
  clear W7
  obtain ⟨_, _, hroom1, hroom2, hroom3⟩ := hroom
  injection hroom1 with r1 _ r3
  subst r1 r3
  obtain ⟨x0, x1, x2, x3, x4, x5, x6⟩ := (unhide X8).cells
  have CO := hide (fun (W : World) hk hm => specTrustOk_any W n d (.slice ka ks.length kc) ks has num til (.slice ma ms.length mc) ms hk hm)
  dsimp only [tv] at CO
  go_wp2_with fail
  refine (unhide CO _ (unhide X8).ins (unhide X8).trs).mono ?_
  rintro e w9 ⟨rfl, b9⟩
  have X9 := hide ((unhide X8).later b9)
  have S9 := hide ((unhide S8).later b9)
  have Y9 := hide ((unhide Y8).later b9)
  have Z9 := hide ((unhide Z8).later b9)
  have B9 := hide ((unhide B8).trans (b9.mono (unhide B8).size))
  clear b9 X8 S8 Y8 Z8 B8 x0 x1 x2 x3 x4 x5 x6 CO
  obtain ⟨x0, x1, x2, x3, x4, x5, x6⟩ := (unhide X9).cells
  obtain ⟨s0, s1, s2, s3⟩ := (unhide S9).cells
  obtain ⟨y0, y1, y2, y3, y4, y5, y6⟩ := (unhide Y9).cells
  obtain ⟨z0, z1, z2, z3, z4, z5, z6⟩ := (unhide Z9).cells
  rcases unhide HC with ⟨hO, hc⟩ | ⟨hO, hI, hN, hc⟩ | ⟨hO, hI, hN, hc⟩
  · unfold Tr.T.ok at hO
    dsimp only at hO
    have hway : Tr.ok n ks d has num til ms = false ∨ (Tr.ok n ks d has num til ms = true ∧ now < 0) ∨ (Tr.ok n ks d has num til ms = true ∧ 0 ≤ now ∧ 60 < now) := by
      cases hA : Tr.ok n ks d has num til ms
      · exact .inl rfl
      · rw [hA, Bool.true_and, Pk.inB_false] at hO
        rcases Int.lt_or_le now 0 with h | h
        · exact .inr (.inl ⟨rfl, h⟩)
        · exact .inr (.inr ⟨rfl, h, by omega⟩)
    rcases hway with hA | ⟨hA, hB⟩ | ⟨hA, hB, hC⟩
    · rw [hA]
      go_wp2_with fail
      refine (unhide CL _ (unhide Z9).ins (unhide Z9).trs (unhide Y9).ins (unhide Y9).trs).mono ?_
      rintro e w10 ⟨rfl, b10⟩
      have B10 := hide ((unhide B9).trans (b10.mono (unhide B9).size))
      clear b10
      go_wp2
      go_ret
      exact ⟨rfl, unhide B10⟩

    · rw [hA]
      go_wp2_with fail
      refine (unhide CL _ (unhide Z9).ins (unhide Z9).trs (unhide Y9).ins (unhide Y9).trs).mono ?_
      rintro e w10 ⟨rfl, b10⟩
      have B10 := hide ((unhide B9).trans (b10.mono (unhide B9).size))
      clear b10
      go_wp2
      go_ret
      exact ⟨rfl, unhide B10⟩

    · rw [hA]
      have hB' : ¬ now < 0 := by omega
      go_wp2_with fail
      refine (unhide CL _ (unhide Z9).ins (unhide Z9).trs (unhide Y9).ins (unhide Y9).trs).mono ?_
      rintro e w10 ⟨rfl, b10⟩
      have B10 := hide ((unhide B9).trans (b10.mono (unhide B9).size))
      clear b10
      go_wp2
      go_ret
      exact ⟨rfl, unhide B10⟩

  · unfold Tr.T.ok at hO
    dsimp only at hO
    rw [hO]
    obtain ⟨hi0, hi1⟩ := Pk.inB_true.1 hI
    have hI0 : ¬ now < 0 := by omega
    have hI1 : ¬ 60 < now := by omega
    have hrt := Tr.T.ok_root (t := ⟨n, ks, d, has, num, til, ms⟩) (show Tr.T.ok ⟨n, ks, d, has, num, til, ms⟩ = true from hO)
    obtain ⟨⟨n0, n1⟩, hkk, d0, d1⟩ := Ky.rootOk_get hrt
    dsimp only at n0 n1 hkk d0 d1
    obtain ⟨m, hm⟩ : ∃ m : Nat, d = (m : Int) + 1 := ⟨(d - 1).toNat, by omega⟩
    subst hm
    have CI2 := hide (fun (W : World) (vk : Value) h1 h2 h3 (h4 : Ins W vk (ks.take m)) => implTrustIndex_any W ⟨n, ks, (m : Int) + 1, has, num, til, ms⟩ (.slice ka ks.length kc) (.slice ma ms.length mc) n2 t2 (.slice a2 m2.length c2) vk m2 (ks.take m) now h1 h2 h3 h4)
    have CR2 := hide (fun (W : World) (kx : Int) (vn vk : Value) h1 h2 (h3 : Ins W vn [kx]) (h4 : Ins W vk (ks.take m)) => implTrustRoot_any W ⟨n, ks, (m : Int) + 1, has, num, til, ms⟩ (.slice ka ks.length kc) (.slice ma ms.length mc) (n + 1) 1 vn vk [kx] (ks.take m) h1 h2 h3 h4)
    have q1 := Tr.index_few (t := ⟨n, ks, (m : Int) + 1, has, num, til, ms⟩) (num := n2) (til := t2) (now := now) (ms := m2) (m := m) hO hI (by dsimp only; omega)
    have q2 := fun kx : Int => Tr.root_few (t := ⟨n, ks, (m : Int) + 1, has, num, til, ms⟩) (n := n + 1) (d := 1) (ks := [kx]) (m := m) hO (by dsimp only; omega)
    dsimp only at q1 q2
    rw [q1] at CI2
    simp only [q2] at CR2
    have CM := hide (fun (W : World) (k1 m1 : Value) hk1 hm1 hk2 hm2 => luTrust_same W ⟨n, ks, (m : Int) + 1, has, num, til, ms⟩ k1 m1 (.slice ka ks.length kc) (.slice ma ms.length mc) hk1 hm1 hk2 hm2)
    dsimp only [tvT, tv] at CI2 CR2 CM
    have ek : IntKind.i64.wrap (1 + (lenM : Int) % 6) = 1 + (lenM : Int) % 6 := wrap_in' (by omega) (by omega)
    have en : IntKind.i64.wrap (n + 1) = n + 1 := wrap_in' (by omega) (by omega)
    have em : IntKind.i64.wrap (m : Int) = (m : Int) := wrap_in' (by omega) (by omega)
    have hm0 : (0 : Int) ≤ (m : Int) := by omega
    have hmk : m ≤ ks.length := by omega
    obtain ⟨bk, ok, hak⟩ := (unhide X9).ins.spot' (by omega)
    subst hak
    have hmax : maxLen = 9223372036854775807 := rfl
    have hck : ¬ kc = 0 := by omega
    have hmc : (m : Int) ≤ (kc : Int) := by omega
    have hc3 : (kc : Int) ≤ 9223372036854775807 := by omega
    have hlen : (ks.take m).length = m := by rw [List.length_take]; omega
    have nw : 0 < m → ∃ ad, some (⟨bk, ok, none⟩ : Addr) = some ad ∧ ∀ j u, ((ks.take m).map (Value.int .i64))[j]? = some u → (w9.alloc (.cells #[] 3)).cell? (ad.add j) = some u := fun hp => ins_news (((unhide X9).ins.later (below1 w9 (.cells #[] 3))).few hmk) (by omega)
    have NW := hide nw
    have HE := hide (empty_own (sz := 1) (B := w9.heap.size) (heap_alloc_new w9 (.cells #[] 3)) (Nat.le_refl _))
    obtain ⟨iI, hY0, hz0, hz1, hz2⟩ := info_parts infoI'
    obtain ⟨v0, v1, v2, v3, v4, v5, v6⟩ := ((unhide X9).later (below1 w9 (.cells #[] 3))).cells
    have HLEN := hide hlen
    clear hne heq CL HC hN hI hO hrt hkk q1 q2 nw hlen hmax Y9 y0 y1 y2 y3 y4 y5 y6 Z9 z0 z1 z2 z3 z4 z5 z6 hc
    generalize ks.take m = few at *
    go_upto_region 9 with (at_builtin; refine wpList_append_all _ rfl _ _ _ rfl w9.heap.size 3 iI _ 1 8 Try.underlying23 hY0 hz0 hz1 hz2 rfl (by omega) (.slice (some ⟨w9.heap.size, 0, none⟩) 0 0) rfl (unhide HE) (some ⟨bk, ok, none⟩) m kc (few.map (Value.int .i64)) rfl (by rw [List.length_map, unhide HLEN]; omega) (unhide NW) (int_cells _) (by unfold maxLen; omega) (by omega) (by rw [sz1']; omega) ?_; intro vk w10 hown hgrow)
    have hb10 := grown_below (B := w9.heap.size) (unhide HE) hgrow (below1 w9 (.cells #[] 3)) (below1 w9 (.cells #[] 3)).size
    have hown' : OwI w9.heap.size w10 vk few := by
      show World.ownsRow _ _ _ _ _ _ _
      rw [unhide HLEN]
      exact hown
    have F10 := hide (OwnI.ins (B := w9.heap.size) hown' (by rw [unhide HLEN]; omega))
    have X10 := hide ((unhide X9).later hb10)
    have S10 := hide ((unhide S9).later hb10)
    have B10 := hide ((unhide B9).trans (hb10.mono (unhide B9).size))
    obtain ⟨fa, fc, hfk⟩ := (unhide F10).slice
    subst hfk
    clear hown hown' hgrow hb10 HE NW X9 S9 B9 x0 x1 x2 x3 x4 x5 x6 s0 s1 s2 s3 v0 v1 v2 v3 v4 v5 v6 hY0 hz0 hz1 hz2
    clear iI
    obtain ⟨x0, x1, x2, x3, x4, x5, x6⟩ := (unhide X10).cells
    obtain ⟨s0, s1, s2, s3⟩ := (unhide S10).cells
    go_wp2_with fail
    refine (unhide CI2 _ _ (unhide X10).ins (unhide X10).trs (unhide S10).trs (unhide F10)).mono ?_
    rintro e w11 ⟨kv11, mv11, rfl, ok11, om11, b11⟩
    have r11 := OwnI.ins (B := w10.heap.size) ok11 (show ks.length ≤ 1000000 by omega)
    have q11 := Trs.own om11 (show ms.length ≤ 1000000000 by omega)
    obtain ⟨va', vc', e5⟩ := r11.slice
    obtain ⟨ua', uc', e6⟩ := q11.slice
    dsimp only at e5 e6
    subst e5 e6
    dsimp only [tvT, tv]
    have Y12 := Tb.new (n := n) (d := (m : Int) + 1) (has := has) (num := num) (til := til) r11 q11 30
    dsimp only at Y12
    have X11 := (unhide X10).later b11
    have F11 := (unhide F10).later b11
    have B11 := (unhide B10).trans (b11.mono (unhide B10).size)
    have b12 := below1 w11 (.cells #[.int .i64 n, .slice va' ks.length vc', .int .i64 ((m : Int) + 1), .bool has, .int .i64 num, .int .i64 til, .slice ua' ms.length uc'] 30)
    have X12 := X11.later b12
    have F12 := F11.later b12
    have B12 := B11.trans (b12.mono B11.size)
    have b13 := below1 (w11.alloc (.cells #[.int .i64 n, .slice va' ks.length vc', .int .i64 ((m : Int) + 1), .bool has, .int .i64 num, .int .i64 til, .slice ua' ms.length uc'] 30)) (.cells #[.int .i64 (1 + (lenM : Int) % 6)] 3)
    have N13 := Ins.single (w11.alloc (.cells #[.int .i64 n, .slice va' ks.length vc', .int .i64 ((m : Int) + 1), .bool has, .int .i64 num, .int .i64 til, .slice ua' ms.length uc'] 30)) (1 + (lenM : Int) % 6) 3
    have z12 := sz1' w11 (.cells #[.int .i64 n, .slice va' ks.length vc', .int .i64 ((m : Int) + 1), .bool has, .int .i64 num, .int .i64 til, .slice ua' ms.length uc'] 30)
    rw [z12] at N13
    have X13 := X12.later b13
    have Y13 := Y12.later b13
    have F13 := F12.later b13
    have B13 := B12.trans (b13.mono B12.size)
    have b14 := below1 ((w11.alloc (.cells #[.int .i64 n, .slice va' ks.length vc', .int .i64 ((m : Int) + 1), .bool has, .int .i64 num, .int .i64 til, .slice ua' ms.length uc'] 30)).alloc (.cells #[.int .i64 (1 + (lenM : Int) % 6)] 3)) (.cells #[.int .i64 (n + 1), .slice (some ⟨w11.heap.size + 1, 0, none⟩) 1 1, .int .i64 1] 25)
    have hq := heap_alloc_new ((w11.alloc (.cells #[.int .i64 n, .slice va' ks.length vc', .int .i64 ((m : Int) + 1), .bool has, .int .i64 num, .int .i64 til, .slice ua' ms.length uc'] 30)).alloc (.cells #[.int .i64 (1 + (lenM : Int) % 6)] 3)) (.cells #[.int .i64 (n + 1), .slice (some ⟨w11.heap.size + 1, 0, none⟩) 1 1, .int .i64 1] 25)
    rw [sz1', z12] at hq
    obtain ⟨g0, g1, g2⟩ := box3c hq
    have X14 := hide (X13.later b14)
    have Y14 := hide (Y13.later b14)
    have F14 := hide (F13.later b14)
    have N14 := hide (N13.later b14)
    have B14 := hide (B13.trans (b14.mono B13.size))
    obtain ⟨p0, p1, p2, p3, p4, p5, p6⟩ := X12.cells
    obtain ⟨u0, u1, u2, u3, u4, u5, u6⟩ := (unhide X14).cells
    clear hq b11 b12 b13 b14 X11 F11 B11 X12 F12 B12 X13 Y13 F13 B13 N13 Y12 z12 r11 q11 ok11 om11 X10 F10 S10 B10 x0 x1 x2 x3 x4 x5 x6 s0 s1 s2 s3 CI2
    go_wp2_with fail
    refine (unhide CR2 _ _ _ _ (unhide X14).ins (unhide X14).trs (unhide N14) (unhide F14)).mono ?_
    generalize World.alloc _ _ = W14 at *
    rintro e w15 ⟨kv15, mv15, rfl, ok15, om15, b15⟩
    have r15 := OwnI.ins (B := W14.heap.size) ok15 (show ks.length ≤ 1000000 by omega)
    have q15 := Trs.own om15 (show ms.length ≤ 1000000000 by omega)
    obtain ⟨va2, vc2, e5⟩ := r15.slice
    obtain ⟨ua2, uc2, e6⟩ := q15.slice
    dsimp only at e5 e6
    subst e5 e6
    dsimp only [tvT, tv]
    have b16 := below1 w15 (.cells #[.int .i64 n, .slice va2 ks.length vc2, .int .i64 ((m : Int) + 1), .bool has, .int .i64 num, .int .i64 til, .slice ua2 ms.length uc2] 30)
    have Z16 := hide (Tb.new (n := n) (d := (m : Int) + 1) (has := has) (num := num) (til := til) r15 q15 30)
    dsimp only at Z16
    have X16 := hide (((unhide X14).later b15).later b16)
    have Y16 := hide (((unhide Y14).later b15).later b16)
    have B15 := (unhide B14).trans (b15.mono (unhide B14).size)
    have B16 := hide (B15.trans (b16.mono B15.size))
    clear b15 b16 B15 ok15 om15 r15 q15 X14 Y14 F14 N14 B14 p0 p1 p2 p3 p4 p5 p6 u0 u1 u2 u3 u4 u5 u6 g0 g1 g2 CR2
    obtain ⟨x0, x1, x2, x3, x4, x5, x6⟩ := (unhide X16).cells
    obtain ⟨y0, y1, y2, y3, y4, y5, y6⟩ := (unhide Y16).cells
    go_wp2_with fail
    refine (unhide CM _ _ _ (unhide Y16).ins (unhide Y16).trs (unhide X16).ins (unhide X16).trs).mono ?_
    generalize w15.heap.size = G at *
    generalize World.alloc _ _ = W16 at *
    rintro e w17 ⟨rfl, b17⟩
    have X17 := hide ((unhide X16).later b17)
    have Z17 := hide ((unhide Z16).later b17)
    have B17 := hide ((unhide B16).trans (b17.mono (unhide B16).size))
    clear b17 X16 Y16 Z16 B16 x0 x1 x2 x3 x4 x5 x6 y0 y1 y2 y3 y4 y5 y6
    obtain ⟨x0, x1, x2, x3, x4, x5, x6⟩ := (unhide X17).cells
    obtain ⟨z0, z1, z2, z3, z4, z5, z6⟩ := (unhide Z17).cells
    go_wp2_with fail
    refine (unhide CM _ _ _ (unhide Z17).ins (unhide Z17).trs (unhide X17).ins (unhide X17).trs).mono ?_
    rintro e w18 ⟨rfl, b18⟩
    have B18 := hide ((unhide B17).trans (b18.mono (unhide B17).size))
    clear b18
    go_wp2
    go_ret
    exact ⟨rfl, unhide B18⟩
  · unfold Tr.T.ok at hO
    dsimp only at hO
    rw [hO]
    obtain ⟨hi0, hi1⟩ := Pk.inB_true.1 hI
    have hI0 : ¬ now < 0 := by omega
    have hI1 : ¬ 60 < now := by omega
    have hrt := Tr.T.ok_root (t := ⟨n, ks, d, has, num, til, ms⟩) (show Tr.T.ok ⟨n, ks, d, has, num, til, ms⟩ = true from hO)
    obtain ⟨⟨n0, n1⟩, hkk, d0, d1⟩ := Ky.rootOk_get hrt
    dsimp only at n0 n1 hkk d0 d1
    obtain ⟨m, hm⟩ : ∃ m : Nat, d = (m : Int) + 1 := ⟨(d - 1).toNat, by omega⟩
    subst hm
    have CI2 := hide (fun (W : World) (vk : Value) h1 h2 h3 (h4 : Ins W vk (ks.take m)) => implTrustIndex_any W ⟨n, ks, (m : Int) + 1, has, num, til, ms⟩ (.slice ka ks.length kc) (.slice ma ms.length mc) n2 t2 (.slice a2 m2.length c2) vk m2 (ks.take m) now h1 h2 h3 h4)
    have CR2 := hide (fun (W : World) (kx : Int) (vn vk : Value) h1 h2 (h3 : Ins W vn [kx]) (h4 : Ins W vk (ks.take m)) => implTrustRoot_any W ⟨n, ks, (m : Int) + 1, has, num, til, ms⟩ (.slice ka ks.length kc) (.slice ma ms.length mc) (n + 1) 1 vn vk [kx] (ks.take m) h1 h2 h3 h4)
    have q1 := Tr.index_few (t := ⟨n, ks, (m : Int) + 1, has, num, til, ms⟩) (num := n2) (til := t2) (now := now) (ms := m2) (m := m) hO hI (by dsimp only; omega)
    have q2 := fun kx : Int => Tr.root_few (t := ⟨n, ks, (m : Int) + 1, has, num, til, ms⟩) (n := n + 1) (d := 1) (ks := [kx]) (m := m) hO (by dsimp only; omega)
    dsimp only at q1 q2
    rw [q1] at CI2
    simp only [q2] at CR2
    have CM := hide (fun (W : World) (k1 m1 : Value) hk1 hm1 hk2 hm2 => luTrust_same W ⟨n, ks, (m : Int) + 1, has, num, til, ms⟩ k1 m1 (.slice ka ks.length kc) (.slice ma ms.length mc) hk1 hm1 hk2 hm2)
    dsimp only [tvT, tv] at CI2 CR2 CM
    have ek : IntKind.i64.wrap (1 + (lenM : Int) % 6) = 1 + (lenM : Int) % 6 := wrap_in' (by omega) (by omega)
    have en : IntKind.i64.wrap (n + 1) = n + 1 := wrap_in' (by omega) (by omega)
    have em : IntKind.i64.wrap (m : Int) = (m : Int) := wrap_in' (by omega) (by omega)
    have hm0 : (0 : Int) ≤ (m : Int) := by omega
    have hmk : m ≤ ks.length := by omega
    obtain ⟨bk, ok, hak⟩ := (unhide X9).ins.spot' (by omega)
    subst hak
    have hmax : maxLen = 9223372036854775807 := rfl
    have hck : ¬ kc = 0 := by omega
    have hmc : (m : Int) ≤ (kc : Int) := by omega
    have hc3 : (kc : Int) ≤ 9223372036854775807 := by omega
    have hlen : (ks.take m).length = m := by rw [List.length_take]; omega
    have nw : 0 < m → ∃ ad, some (⟨bk, ok, none⟩ : Addr) = some ad ∧ ∀ j u, ((ks.take m).map (Value.int .i64))[j]? = some u → (w9.alloc (.cells #[] 3)).cell? (ad.add j) = some u := fun hp => ins_news (((unhide X9).ins.later (below1 w9 (.cells #[] 3))).few hmk) (by omega)
    have NW := hide nw
    have HE := hide (empty_own (sz := 1) (B := w9.heap.size) (heap_alloc_new w9 (.cells #[] 3)) (Nat.le_refl _))
    obtain ⟨iI, hY0, hz0, hz1, hz2⟩ := info_parts infoI'
    obtain ⟨v0, v1, v2, v3, v4, v5, v6⟩ := ((unhide X9).later (below1 w9 (.cells #[] 3))).cells
    have HLEN := hide hlen
    clear hne heq CL HC hN hI hO hrt hkk q1 q2 nw hlen hmax Y9 y0 y1 y2 y3 y4 y5 y6 Z9 z0 z1 z2 z3 z4 z5 z6 hc
    generalize ks.take m = few at *
    go_upto_region 9 with (at_builtin; refine wpList_append_all _ rfl _ _ _ rfl w9.heap.size 3 iI _ 1 8 Try.underlying23 hY0 hz0 hz1 hz2 rfl (by omega) (.slice (some ⟨w9.heap.size, 0, none⟩) 0 0) rfl (unhide HE) (some ⟨bk, ok, none⟩) m kc (few.map (Value.int .i64)) rfl (by rw [List.length_map, unhide HLEN]; omega) (unhide NW) (int_cells _) (by unfold maxLen; omega) (by omega) (by rw [sz1']; omega) ?_; intro vk w10 hown hgrow)
    have hb10 := grown_below (B := w9.heap.size) (unhide HE) hgrow (below1 w9 (.cells #[] 3)) (below1 w9 (.cells #[] 3)).size
    have hown' : OwI w9.heap.size w10 vk few := by
      show World.ownsRow _ _ _ _ _ _ _
      rw [unhide HLEN]
      exact hown
    have F10 := hide (OwnI.ins (B := w9.heap.size) hown' (by rw [unhide HLEN]; omega))
    have X10 := hide ((unhide X9).later hb10)
    have S10 := hide ((unhide S9).later hb10)
    have B10 := hide ((unhide B9).trans (hb10.mono (unhide B9).size))
    obtain ⟨fa, fc, hfk⟩ := (unhide F10).slice
    subst hfk
    clear hown hown' hgrow hb10 HE NW X9 S9 B9 x0 x1 x2 x3 x4 x5 x6 s0 s1 s2 s3 v0 v1 v2 v3 v4 v5 v6 hY0 hz0 hz1 hz2
    clear iI
    obtain ⟨x0, x1, x2, x3, x4, x5, x6⟩ := (unhide X10).cells
    obtain ⟨s0, s1, s2, s3⟩ := (unhide S10).cells
    go_wp2_with fail
    refine (unhide CI2 _ _ (unhide X10).ins (unhide X10).trs (unhide S10).trs (unhide F10)).mono ?_
    rintro e w11 ⟨kv11, mv11, rfl, ok11, om11, b11⟩
    have r11 := OwnI.ins (B := w10.heap.size) ok11 (show ks.length ≤ 1000000 by omega)
    have q11 := Trs.own om11 (show ms.length ≤ 1000000000 by omega)
    obtain ⟨va', vc', e5⟩ := r11.slice
    obtain ⟨ua', uc', e6⟩ := q11.slice
    dsimp only at e5 e6
    subst e5 e6
    dsimp only [tvT, tv]
    have Y12 := Tb.new (n := n) (d := (m : Int) + 1) (has := has) (num := num) (til := til) r11 q11 30
    dsimp only at Y12
    have X11 := (unhide X10).later b11
    have F11 := (unhide F10).later b11
    have B11 := (unhide B10).trans (b11.mono (unhide B10).size)
    have b12 := below1 w11 (.cells #[.int .i64 n, .slice va' ks.length vc', .int .i64 ((m : Int) + 1), .bool has, .int .i64 num, .int .i64 til, .slice ua' ms.length uc'] 30)
    have X12 := X11.later b12
    have F12 := F11.later b12
    have B12 := B11.trans (b12.mono B11.size)
    have b13 := below1 (w11.alloc (.cells #[.int .i64 n, .slice va' ks.length vc', .int .i64 ((m : Int) + 1), .bool has, .int .i64 num, .int .i64 til, .slice ua' ms.length uc'] 30)) (.cells #[.int .i64 (1 + (lenM : Int) % 6)] 3)
    have N13 := Ins.single (w11.alloc (.cells #[.int .i64 n, .slice va' ks.length vc', .int .i64 ((m : Int) + 1), .bool has, .int .i64 num, .int .i64 til, .slice ua' ms.length uc'] 30)) (1 + (lenM : Int) % 6) 3
    have z12 := sz1' w11 (.cells #[.int .i64 n, .slice va' ks.length vc', .int .i64 ((m : Int) + 1), .bool has, .int .i64 num, .int .i64 til, .slice ua' ms.length uc'] 30)
    rw [z12] at N13
    have X13 := X12.later b13
    have Y13 := Y12.later b13
    have F13 := F12.later b13
    have B13 := B12.trans (b13.mono B12.size)
    have b14 := below1 ((w11.alloc (.cells #[.int .i64 n, .slice va' ks.length vc', .int .i64 ((m : Int) + 1), .bool has, .int .i64 num, .int .i64 til, .slice ua' ms.length uc'] 30)).alloc (.cells #[.int .i64 (1 + (lenM : Int) % 6)] 3)) (.cells #[.int .i64 (n + 1), .slice (some ⟨w11.heap.size + 1, 0, none⟩) 1 1, .int .i64 1] 25)
    have hq := heap_alloc_new ((w11.alloc (.cells #[.int .i64 n, .slice va' ks.length vc', .int .i64 ((m : Int) + 1), .bool has, .int .i64 num, .int .i64 til, .slice ua' ms.length uc'] 30)).alloc (.cells #[.int .i64 (1 + (lenM : Int) % 6)] 3)) (.cells #[.int .i64 (n + 1), .slice (some ⟨w11.heap.size + 1, 0, none⟩) 1 1, .int .i64 1] 25)
    rw [sz1', z12] at hq
    obtain ⟨g0, g1, g2⟩ := box3c hq
    have X14 := hide (X13.later b14)
    have Y14 := hide (Y13.later b14)
    have F14 := hide (F13.later b14)
    have N14 := hide (N13.later b14)
    have B14 := hide (B13.trans (b14.mono B13.size))
    obtain ⟨p0, p1, p2, p3, p4, p5, p6⟩ := X12.cells
    obtain ⟨u0, u1, u2, u3, u4, u5, u6⟩ := (unhide X14).cells
    clear hq b11 b12 b13 b14 X11 F11 B11 X12 F12 B12 X13 Y13 F13 B13 N13 Y12 z12 r11 q11 ok11 om11 X10 F10 S10 B10 x0 x1 x2 x3 x4 x5 x6 s0 s1 s2 s3 CI2
    go_wp2_with fail
    refine (unhide CR2 _ _ _ _ (unhide X14).ins (unhide X14).trs (unhide N14) (unhide F14)).mono ?_
    generalize World.alloc _ _ = W14 at *
    rintro e w15 ⟨kv15, mv15, rfl, ok15, om15, b15⟩
    have r15 := OwnI.ins (B := W14.heap.size) ok15 (show ks.length ≤ 1000000 by omega)
    have q15 := Trs.own om15 (show ms.length ≤ 1000000000 by omega)
    obtain ⟨va2, vc2, e5⟩ := r15.slice
    obtain ⟨ua2, uc2, e6⟩ := q15.slice
    dsimp only at e5 e6
    subst e5 e6
    dsimp only [tvT, tv]
    have b16 := below1 w15 (.cells #[.int .i64 n, .slice va2 ks.length vc2, .int .i64 ((m : Int) + 1), .bool has, .int .i64 num, .int .i64 til, .slice ua2 ms.length uc2] 30)
    have Z16 := hide (Tb.new (n := n) (d := (m : Int) + 1) (has := has) (num := num) (til := til) r15 q15 30)
    dsimp only at Z16
    have X16 := hide (((unhide X14).later b15).later b16)
    have Y16 := hide (((unhide Y14).later b15).later b16)
    have B15 := (unhide B14).trans (b15.mono (unhide B14).size)
    have B16 := hide (B15.trans (b16.mono B15.size))
    clear b15 b16 B15 ok15 om15 r15 q15 X14 Y14 F14 N14 B14 p0 p1 p2 p3 p4 p5 p6 u0 u1 u2 u3 u4 u5 u6 g0 g1 g2 CR2
    obtain ⟨x0, x1, x2, x3, x4, x5, x6⟩ := (unhide X16).cells
    obtain ⟨y0, y1, y2, y3, y4, y5, y6⟩ := (unhide Y16).cells
    go_wp2_with fail
    refine (unhide CM _ _ _ (unhide Y16).ins (unhide Y16).trs (unhide X16).ins (unhide X16).trs).mono ?_
    generalize w15.heap.size = G at *
    generalize World.alloc _ _ = W16 at *
    rintro e w17 ⟨rfl, b17⟩
    have X17 := hide ((unhide X16).later b17)
    have Z17 := hide ((unhide Z16).later b17)
    have B17 := hide ((unhide B16).trans (b17.mono (unhide B16).size))
    clear b17 X16 Y16 Z16 B16 x0 x1 x2 x3 x4 x5 x6 y0 y1 y2 y3 y4 y5 y6
    obtain ⟨x0, x1, x2, x3, x4, x5, x6⟩ := (unhide X17).cells
    obtain ⟨z0, z1, z2, z3, z4, z5, z6⟩ := (unhide Z17).cells
    go_wp2_with fail
    refine (unhide CM _ _ _ (unhide Z17).ins (unhide Z17).trs (unhide X17).ins (unhide X17).trs).mono ?_
    rintro e w18 ⟨rfl, b18⟩
    have B18 := hide ((unhide B17).trans (b18.mono (unhide B17).size))
    clear b18
    go_wp2
    go_ret
    exact ⟨rfl, unhide B18⟩
end Go.Proofs.Ytkgeekjclcpbpaa
