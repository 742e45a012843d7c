/- The walk of FnExactRootNext: it returns true and leaves what was there; for every root and signed root. -/
import Derived.Test.YtneaceieaafjdaaCopySW
import Derived.Test.YtneaceieaafjdaaOpenRootW
namespace Go.Proofs.Ytneaceieaafjdaa
open Go.RowKit

attribute [local go_sem ↓] Go.wp_at_zero Go.wp_at_succ

theorem raw2 (w : World) (a b c a2 b2 c2 d2 : Value) (t t2 : TypeId) : ((w.alloc (.cells #[a, b, c] t)).alloc (.cells #[a2, b2, c2, d2] t2)).heap.size = w.heap.size + 2 ∧ ((w.alloc (.cells #[a, b, c] t)).alloc (.cells #[a2, b2, c2, d2] t2)).heap[w.heap.size]? = some (.cells #[a, b, c] t) ∧ ((w.alloc (.cells #[a, b, c] t)).alloc (.cells #[a2, b2, c2, d2] t2)).heap[w.heap.size + 1]? = some (.cells #[a2, b2, c2, d2] t2) ∧ Below w.heap.size w ((w.alloc (.cells #[a, b, c] t)).alloc (.cells #[a2, b2, c2, d2] t2)) := by
  refine ⟨by rw [sz1', sz1'], ?_, ?_, ((Below.refl _ _).alloc (Nat.le_refl _) _).alloc (by rw [sz1']; omega) _⟩
  · rw [Below.heap_alloc _ _ _ (by rw [sz1']; omega)]
    exact heap_alloc_new w _
  · have e : w.heap.size + 1 = (w.alloc (.cells #[a, b, c] t)).heap.size := by rw [sz1']
    rw [e]
    exact heap_alloc_new _ _

theorem Bx.raw {w : World} {g : Nat} {n d : Int} {v : Value} {k : List Int} {t : TypeId} (h : w.heap[g]? = some (.cells #[.int .i64 n, v, .int .i64 d] t)) (hi : Ins w v k) : Bx w g n d v k :=
  ⟨heapLt h, cellOf h 0, cellOf h 1, cellOf h 2, hi⟩
theorem Sx.raw {w : World} {g : Nat} {n d : Int} {v vb : Value} {k by' : List Int} {t : TypeId} (h : w.heap[g]? = some (.cells #[.int .i64 n, v, .int .i64 d, vb] t)) (hi : Ins w v k) (hb : Ins w vb by') : Sx w g n d v vb k by' :=
  ⟨heapLt h, cellOf h 0, cellOf h 1, cellOf h 2, cellOf h 3, hi, hb⟩
theorem Sx.cells {w : World} {g : Nat} {n d : Int} {v vb : Value} {k by' : List Int} (h : Sx w g n d v vb k by') : w.cell? ⟨g, 0, none⟩ = some (.int .i64 n) ∧ w.cell? ⟨g, 1, none⟩ = some v ∧ w.cell? ⟨g, 2, none⟩ = some (.int .i64 d) ∧ w.cell? ⟨g, 3, none⟩ = some vb := ⟨h.c0, h.c1, h.c2, h.c3⟩
theorem Sx.drew {w : World} {g : Nat} {n d : Int} {v vb : Value} {k by' : List Int} (h : Sx w g n d v vb k by') : Sx w.drew g n d v vb k by' := ⟨h.lt, h.c0, h.c1, h.c2, h.c3, h.ins, h.inb⟩

set_option maxHeartbeats 2000000 in
theorem exactRootNext_walk (w : World) (x : Int) (a : Option Addr) (n c : Nat) (y : Int) (x' : Int) (a' : Option Addr) (n' c' : Nat) (y' : Int) (b : Option Addr) (m e : Nat) (hR : RowIn w a n c) (hR' : RowIn w a' n' c') (hRb : RowIn w b m e) :
    Calls Try.prog 17 #[.agg #[.int .i64 x, .slice a n c, .int .i64 y], .agg #[.int .i64 x', .slice a' n' c', .int .i64 y', .slice b m e]] w fun e w' => e = .returned (.bool true) ∧ Below w.heap.size w w' := by
  obtain ⟨hn, P⟩ := hR
  obtain ⟨hn', P'⟩ := hR'
  obtain ⟨hm, Pb⟩ := hRb
  have H0 := hide (raw2 w (.int .i64 x) (.slice a n c) (.int .i64 y) (.int .i64 x') (.slice a' n' c') (.int .i64 y') (.slice b m e) 45 52)
  have HP := hide P
  have HP' := hide P'
  have HPb := hide Pb
  clear P P' Pb
  go_enter Try.func17, Try.ntmps17
  go_wp2_with fail
  refine (szRoot_any _ x y a n c 1048576 (by omega) (by omega) hn).mono ?_
  generalize (w.alloc _).alloc _ = W0 at *
  rintro e1 w1 ⟨b1, ⟨hm1, r, rfl, r0, r1⟩ | rfl⟩
  · have H1 : Hid (w1.heap[w.heap.size]? = some _ ∧ w1.heap[w.heap.size + 1]? = some _ ∧ Below w.heap.size w w1) := ⟨(b1.block _ (heapLt (unhide H0).2.1)).trans (unhide H0).2.1, (b1.block _ (heapLt (unhide H0).2.2.1)).trans (unhide H0).2.2.1, (unhide H0).2.2.2.trans (b1.mono (unhide H0).2.2.2.size)⟩
    clear H0 b1
    clear W0
    have s0 := cellOf (unhide H1).2.1 0
    have s1 := cellOf (unhide H1).2.1 1
    have s2 := cellOf (unhide H1).2.1 2
    have s3 := cellOf (unhide H1).2.1 3
    go_wp2_with fail
    refine (szSigRoot_any _ x' y' a' b n' c' m e r r0 (by omega) hn' hm).mono ?_
    rintro e2 w2 ⟨b2, ⟨hm2, hm3, r', rfl, r0', r1'⟩ | rfl⟩
    · have H2 : Hid (w2.heap[w.heap.size]? = some _ ∧ w2.heap[w.heap.size + 1]? = some _ ∧ Below w.heap.size w w2) := ⟨(b2.block _ (heapLt (unhide H1).1)).trans (unhide H1).1, (b2.block _ (heapLt (unhide H1).2.1)).trans (unhide H1).2.1, (unhide H1).2.2.trans (b2.mono (unhide H1).2.2.size)⟩
      obtain ⟨l, rfl, hi⟩ := (unhide HP) hm1
      obtain ⟨l', rfl, hi'⟩ := (unhide HP') hm2
      obtain ⟨k, rfl, hk⟩ := (unhide HPb) hm3
      have X2 := hide (Bx.raw (unhide H2).1 (hi.later (unhide H2).2.2))
      have Z2 := hide (Sx.raw (unhide H2).2.1 (hi'.later (unhide H2).2.2) (hk.later (unhide H2).2.2))
      have B2 := hide (unhide H2).2.2
      clear H1 H2 b2 s0 s1 s2 s3 HP HP' HPb hi hi' hk
      obtain ⟨p0, p1, p2⟩ := (unhide X2).cells
      obtain ⟨s0, s1, s2, s3⟩ := (unhide Z2).cells
      go_wp2_with fail
      go_region_held3 (fun w' => (w'.cell? ⟨w.heap.size, 0, none⟩ = some (.int .i64 x) ∧ w'.cell? ⟨w.heap.size, 1, none⟩ = some (.slice a l.length c) ∧ w'.cell? ⟨w.heap.size, 2, none⟩ = some (.int .i64 y)) ∧ (w'.cell? ⟨w.heap.size + 1, 0, none⟩ = some (.int .i64 x') ∧ w'.cell? ⟨w.heap.size + 1, 1, none⟩ = some (.slice a' l'.length c') ∧ w'.cell? ⟨w.heap.size + 1, 2, none⟩ = some (.int .i64 y') ∧ w'.cell? ⟨w.heap.size + 1, 3, none⟩ = some (.slice b k.length e)))
        (first
          | (go_keep; done)
          | exact ⟨(unhide X5).cells, (unhide Z5).cells⟩
          | exact ⟨(unhide X4).cells, (unhide Z4).cells⟩
          | exact ⟨(unhide X3).cells, (unhide Z3).cells⟩
          | fail)
        (first
          | (go_at_call 36; refine (toRoot_any _ x y _ l (by exact (unhide X2).drew.ins) hm1).mono ?_; rintro e3 w3 ⟨g3, _, rfl, i3, b3⟩; have X3 := hide ((unhide X2).drew.later b3); have Z3 := hide ((unhide Z2).drew.later b3))
          | (go_at_call 39; refine (toSigRoot_any _ x' y' _ _ l' k (by exact (unhide Z3).ins) (by exact (unhide Z3).inb) hm2 hm3).mono ?_; rintro e4 w4 ⟨v4, u4, rfl, i4, j4, b4⟩; have X4 := hide ((unhide X3).later b4); have Z4 := hide ((unhide Z3).later b4))
          | (go_at_call 32; refine (specRootNext_any _ x y x' y' _ _ _ l l' k (by exact i3.later b4) (by exact i4) (by exact j4)).mono ?_; rintro e5 w5 ⟨rfl, b5⟩; have X5 := hide ((unhide X4).later b5); have Z5 := hide ((unhide Z4).later b5)))
      have B3 := hide ((unhide B2).drew.trans (b3.mono (unhide B2).size))
      have B4 := hide ((unhide B3).trans (b4.mono (unhide B3).size))
      have B5 := hide ((unhide B4).trans (b5.mono (unhide B4).size))
      clear b5 B4 X4 Z4 b4 b3 i3 i4 j4 X3 Z3 B3 X2 Z2 B2 p0 p1 p2 s0 s1 s2 s3
      obtain ⟨p0, p1, p2⟩ := (unhide X5).cells
      go_wp2_with fail
      refine (toRoot_any _ x y _ l (unhide X5).ins hm1).mono ?_
      rintro e6 w6 ⟨g6, _, rfl, i6, b6⟩
      have X6 := hide ((unhide X5).later b6)
      have Z6 := hide ((unhide Z5).later b6)
      have I6 := hide i6
      have B6 := hide ((unhide B5).trans (b6.mono (unhide B5).size))
      clear i6 b6 B5 X5 Z5 p0 p1 p2
      have Y7 := hide (Bx.new (n := x) (d := y) (unhide I6) 32)
      have b7 := below1 w6 (.cells #[.int .i64 x, .slice (some ⟨g6, 0, none⟩) l.length l.length, .int .i64 y] 32)
      have X7 := hide ((unhide X6).later b7)
      have Z7 := hide ((unhide Z6).later b7)
      have B7 := hide ((unhide B6).trans (b7.mono (unhide B6).size))
      clear b7 X6 Z6 I6 B6
      obtain ⟨s0, s1, s2, s3⟩ := (unhide Z7).cells
      go_wp2_with fail
      refine (toSigRoot_any _ x' y' _ _ l' k (unhide Z7).ins (unhide Z7).inb hm2 hm3).mono ?_
      generalize w6.alloc _ = W7 at *
      rintro e8 w8 ⟨v8, u8, rfl, i8, j8, b8⟩
      obtain ⟨va, vc, rfl⟩ := i8.slice
      obtain ⟨ua, uc, rfl⟩ := j8.slice
      have X8 := hide ((unhide X7).later b8)
      have Z8 := hide ((unhide Z7).later b8)
      have Y8 := hide ((unhide Y7).later b8)
      have K8 := hide (And.intro i8 j8)
      have B8 := hide ((unhide B7).trans (b8.mono (unhide B7).size))
      clear i8 j8 b8 B7 X7 Z7 Y7 s0 s1 s2 s3
      clear W7
      generalize w6.heap.size = g at *
      have V9 := hide (Sx.new (n := x') (d := y') (unhide K8).1 (unhide K8).2 39)
      have b9 := below1 w8 (.cells #[.int .i64 x', .slice va l'.length vc, .int .i64 y', .slice ua k.length uc] 39)
      have X9 := hide ((unhide X8).later b9)
      have Z9 := hide ((unhide Z8).later b9)
      have Y9 := hide ((unhide Y8).later b9)
      have B9 := hide ((unhide B8).trans (b9.mono (unhide B8).size))
      clear b9 X8 Z8 Y8 K8 B8
      obtain ⟨q0, q1, q2⟩ := (unhide Y9).cells
      obtain ⟨t0, t1, t2, t3⟩ := (unhide V9).cells
      go_wp2_with fail
      refine (implRootNext_any _ x y x' y' _ _ _ l l' k (unhide Y9).ins (unhide V9).ins (unhide V9).inb).mono ?_
      generalize w8.alloc _ = W9 at *
      rintro e10 w10 ⟨rfl, b10⟩
      have X10 := hide ((unhide X9).later b10)
      have Z10 := hide ((unhide Z9).later b10)
      have Y10 := hide ((unhide Y9).later b10)
      have V10 := hide ((unhide V9).later b10)
      have B10 := hide ((unhide B9).trans (b10.mono (unhide B9).size))
      have hok : (Ky.next x l y x' l' y' k != Ky.next x l y x' l' y' k) = false := by simp
      generalize Ky.next x l y x' l' y' k = ok at *
      clear b10 X9 Z9 Y9 V9 B9 q0 q1 q2 t0 t1 t2 t3
      clear W9
      generalize w8.heap.size = h at *
      obtain ⟨p0, p1, p2⟩ := (unhide X10).cells
      obtain ⟨q0, q1, q2⟩ := (unhide Y10).cells
      go_wp2_with fail
      go_region_held3 (fun w' => (w'.cell? ⟨w.heap.size, 0, none⟩ = some (.int .i64 x) ∧ w'.cell? ⟨w.heap.size, 1, none⟩ = some (.slice a l.length c) ∧ w'.cell? ⟨w.heap.size, 2, none⟩ = some (.int .i64 y)) ∧ (w'.cell? ⟨g, 0, none⟩ = some (.int .i64 x) ∧ w'.cell? ⟨g, 1, none⟩ = some (.slice (some ⟨g6, 0, none⟩) l.length l.length) ∧ w'.cell? ⟨g, 2, none⟩ = some (.int .i64 y)))
        (first
          | (go_keep; done)
          | exact ⟨(unhide X12).cells, (unhide Y12).cells⟩
          | exact ⟨(unhide X11).cells, (unhide Y11).cells⟩
          | fail)
        (first
          | (go_at_call 36; refine (toRoot_any _ x y _ l (by exact (unhide X10).drew.ins) hm1).mono ?_; rintro e11 w11 ⟨g11, _, rfl, i11, b11⟩; have X11 := hide ((unhide X10).drew.later b11); have Y11 := hide ((unhide Y10).drew.later b11))
          | (go_at_call 37; refine (eqRoot_any _ x y _ _ l (by exact (unhide Y11).ins) (by exact i11)).mono ?_; rintro e12 w12 ⟨rfl, b12⟩; have X12 := hide ((unhide X11).later b12); have Y12 := hide ((unhide Y11).later b12)))
      have B11 := hide ((unhide B10).drew.trans (b11.mono (unhide B10).size))
      have B12 := hide ((unhide B11).trans (b12.mono (unhide B11).size))
      have Z12 := hide (((unhide Z10).drew.later b11).later b12)
      have V12 := hide (((unhide V10).drew.later b11).later b12)
      clear b11 b12 i11 p0 p1 p2 q0 q1 q2 Z10 V10 X10 Y10
      clear X11 Y11 X12 Y12 B10 B11
      obtain ⟨s0, s1, s2, s3⟩ := (unhide Z12).cells
      obtain ⟨t0, t1, t2, t3⟩ := (unhide V12).cells
      go_wp2_with fail
      go_region_held3 (fun w' => (w'.cell? ⟨w.heap.size + 1, 0, none⟩ = some (.int .i64 x') ∧ w'.cell? ⟨w.heap.size + 1, 1, none⟩ = some (.slice a' l'.length c') ∧ w'.cell? ⟨w.heap.size + 1, 2, none⟩ = some (.int .i64 y') ∧ w'.cell? ⟨w.heap.size + 1, 3, none⟩ = some (.slice b k.length e)) ∧ (w'.cell? ⟨h, 0, none⟩ = some (.int .i64 x') ∧ w'.cell? ⟨h, 1, none⟩ = some (.slice va l'.length vc) ∧ w'.cell? ⟨h, 2, none⟩ = some (.int .i64 y') ∧ w'.cell? ⟨h, 3, none⟩ = some (.slice ua k.length uc)))
        (first
          | (go_keep; done)
          | exact ⟨(unhide Z14).cells, (unhide V14).cells⟩
          | exact ⟨(unhide Z13).cells, (unhide V13).cells⟩
          | fail)
        (first
          | (go_at_call 39; refine (toSigRoot_any _ x' y' _ _ l' k (by exact (unhide Z12).drew.ins) (by exact (unhide Z12).drew.inb) hm2 hm3).mono ?_; rintro e13 w13 ⟨v13, u13, rfl, i13, j13, b13⟩; have Z13 := hide ((unhide Z12).drew.later b13); have V13 := hide ((unhide V12).drew.later b13))
          | (go_at_call 40; refine (eqSigRoot_any _ x' y' _ _ _ _ l' k (by exact (unhide V13).ins) (by exact (unhide V13).inb) (by exact i13) (by exact j13)).mono ?_; rintro e14 w14 ⟨rfl, b14⟩; have Z14 := hide ((unhide Z13).later b14); have V14 := hide ((unhide V13).later b14)))
      have B13 := hide ((unhide B12).drew.trans (b13.mono (unhide B12).size))
      have B14 := hide ((unhide B13).trans (b14.mono (unhide B13).size))
      clear b13 b14 i13 j13 s0 s1 s2 s3 t0 t1 t2 t3
      go_wp2
      go_ret
      exact ⟨rfl, unhide B14⟩
    · have B2 := hide ((unhide H1).2.2.trans (b2.mono (unhide H1).2.2.size))
      clear H1 b2 HP HP' HPb s0 s1 s2 s3
      go_wp2
      go_ret
      exact ⟨rfl, unhide B2⟩
  · have B1 := hide ((unhide H0).2.2.2.trans (b1.mono (unhide H0).2.2.2.size))
    clear H0 HP HP' HPb b1
    go_wp2
    go_ret
    exact ⟨rfl, unhide B1⟩
end Go.Proofs.Ytneaceieaafjdaa
