/- The walk of FnNextNum: it returns true and leaves what was there; for every row of bytes. -/
import Derived.Test.YtneaceieaafjdaaNextDrawW
import Derived.Test.YtneaceieaafjdaaKeyMath2
namespace Go.Proofs.Ytneaceieaafjdaa
open Go.RowKit

theorem Sx.cellsN {w : World} {g : Nat} {n d : Int} {v vb : Value} {k by' : List Int} (h : Sx w g n d v vb k by') : w.cell? ⟨g, 0, none⟩ = some (.int .i64 n) ∧ w.cell? ⟨g, 1, none⟩ = some v ∧ w.cell? ⟨g, 2, none⟩ = some (.int .i64 d) ∧ w.cell? ⟨g, 3, none⟩ = some vb := ⟨h.c0, h.c1, h.c2, h.c3⟩

theorem two_num {w : World} {m1 m2 d : Int} {v vb : Value} {k by' : List Int} (h : Ins w v k) (hb : Ins w vb by') (t : TypeId) :
    Sx ((w.alloc (.cells #[.int .i64 m1, v, .int .i64 d, vb] t)).alloc (.cells #[.int .i64 m2, v, .int .i64 d, vb] t)) w.heap.size m1 d v vb k by' ∧ Sx ((w.alloc (.cells #[.int .i64 m1, v, .int .i64 d, vb] t)).alloc (.cells #[.int .i64 m2, v, .int .i64 d, vb] t)) (w.heap.size + 1) m2 d v vb k by' ∧ Below w.heap.size w ((w.alloc (.cells #[.int .i64 m1, v, .int .i64 d, vb] t)).alloc (.cells #[.int .i64 m2, v, .int .i64 d, vb] t)) := by
  have B1 := below1 w (.cells #[.int .i64 m1, v, .int .i64 d, vb] t)
  have X1 := Sx.new (n := m1) (d := d) h hb t
  generalize hW : w.alloc (.cells #[.int .i64 m1, v, .int .i64 d, vb] t) = W at *
  have hz : W.heap.size = w.heap.size + 1 := by rw [← hW]; simp
  have B2 := below1 W (.cells #[.int .i64 m2, v, .int .i64 d, vb] t)
  refine ⟨X1.later B2, ?_, B1.trans (B2.mono B1.size)⟩
  rw [← hz]
  exact Sx.new (h.later B1) (hb.later B1) t

set_option maxHeartbeats 2000000 in
theorem nextNum_walk (w : World) (a : Option Addr) (len cap : Nat) (h : Bytes w a len cap) :
    Calls Try.prog 9 #[.slice a len cap] w fun e w' => e = .returned (.bool true) ∧ Below w.heap.size w w' := by
  by_cases hs : len ≤ 1048576
  case neg =>
    have hs' : (1048576 : Int) < (len : Int) := by omega
    go_enter Try.func9, Try.ntmps9
    go_wp2
    go_ret
    exact ⟨rfl, Below.refl _ _⟩
  have hs' : (len : Int) ≤ 1048576 := by omega
  go_enter Try.func9, Try.ntmps9
  go_wp2_with fail
  refine (drawRootNext_any w a len cap h).mono ?_
  rintro e w1 ⟨n, d, v, k, n2, d2, v2, k2, vb, by', rfl, hl, hl2, hlb, _, ik, ik2, ib, b1⟩
  obtain ⟨ak, ck, hv⟩ := ik.slice
  obtain ⟨a2, c2, hv2⟩ := ik2.slice
  obtain ⟨ab, cb, hvb⟩ := ib.slice
  subst hv hv2 hvb
  have X2 := hide (two_boxes (n := n) (d := d) (n2 := n2) (d2 := d2) ik ik2 ib 32 39)
  have B1 := hide b1
  clear ik ik2 ib b1 h
  go_wp2_with fail
  refine (implRootNext_any _ n d n2 d2 _ _ _ k k2 by' (unhide X2).1.ins (unhide X2).2.1.ins (unhide X2).2.1.inb).mono ?_
  generalize (w1.alloc _).alloc _ = W2 at *
  rintro e w3 ⟨rfl, b3⟩
  have X3 := hide ((unhide X2).1.later b3)
  have Z3 := hide ((unhide X2).2.1.later b3)
  have B2 := hide ((unhide B1).trans ((unhide X2).2.2.mono (unhide B1).size))
  have B3 := hide ((unhide B2).trans (b3.mono (unhide B2).size))
  clear X2 B1 B2 b3
  clear W2
  generalize w1.heap.size = g at *
  obtain ⟨p0, p1, p2⟩ := (unhide X3).cells
  obtain ⟨s0, s1, s2, s3⟩ := (unhide Z3).cellsN
  go_wp2_with fail
  refine (specRootNext_any _ n d n2 d2 _ _ _ k k2 by' (unhide X3).ins (unhide Z3).ins (unhide Z3).inb).mono ?_
  rintro e w4 ⟨rfl, b4⟩
  have X4 := hide ((unhide X3).later b4)
  have Z4 := hide ((unhide Z3).later b4)
  have B4 := hide ((unhide B3).trans (b4.mono (unhide B3).size))
  clear X3 Z3 B3 b4 p0 p1 p2 s0 s1 s2 s3
  obtain ⟨p0, p1, p2⟩ := (unhide X4).cells
  obtain ⟨s0, s1, s2, s3⟩ := (unhide Z4).cellsN
  cases hN : Ky.next n k d n2 k2 d2 by'
  · go_wp2_with fail
    refine (specRootNext_b _ n d n2 d2 _ _ _ k k2 by' hN (unhide X4).ins (unhide Z4).ins (unhide Z4).inb).mono ?_
    rintro e w5 ⟨rfl, b5⟩
    have B5 := hide ((unhide B4).trans (b5.mono (unhide B4).size))
    clear X4 Z4 B4 b5 p0 p1 p2 s0 s1 s2 s3
    go_wp2
    go_ret
    exact ⟨rfl, unhide B5⟩
  · obtain ⟨g1, g2, g3⟩ := Ky.next_get hN
    obtain ⟨r1, kb, _⟩ := Ky.signed_get g1
    obtain ⟨⟨n0, n1⟩, k1, _, _⟩ := Ky.rootOk_get r1
    have m0 : 2 ≤ n2 := by omega
    have m1 : n2 ≤ 10 := by omega
    have E1 := hide (Ky.next_num (n := n) (d := d) (n2 := n2 + 1) (d2 := d2) (k := k) (k2 := k2) (by' := by') (by omega))
    have E2 := hide (Ky.next_num (n := n) (d := d) (n2 := n) (d2 := d2) (k := k) (k2 := k2) (by' := by') (by omega))
    have E3 := hide (Ky.next_num (n := n2) (d := d2) (n2 := n2) (d2 := d2) (k := k2) (k2 := k2) (by' := by') (by omega))
    have E4 := hide (Ky.next_num (n := n2) (d := d2) (n2 := n) (d2 := d) (k := k2) (k2 := k) (by' := by') (by omega))
    clear hN r1 kb g1 g2 g3 k1
    have l0 : g < w4.heap.size := (unhide X4).lt
    have l1 : g + 1 < w4.heap.size := (unhide Z4).lt
    have T5 := hide (two_num (m1 := n2 + 1) (m2 := n) (d := d2) (unhide Z4).ins (unhide Z4).inb 39)
    go_wp2_with fail
    refine (implRootNext_b _ n d (n2 + 1) d2 _ _ _ k k2 by' (unhide E1) ((unhide X4).ins.later (unhide T5).2.2) (unhide T5).1.ins (unhide T5).1.inb).mono ?_
    have X5 := hide ((unhide X4).later (unhide T5).2.2)
    have Z5 := hide ((unhide Z4).later (unhide T5).2.2)
    have V5 := hide (unhide T5).2.1
    have B5 := hide ((unhide B4).trans ((unhide T5).2.2.mono (unhide B4).size))
    clear T5 X4 Z4 B4 p0 p1 p2 s0 s1 s2 s3 l0 l1
    generalize (w4.alloc _).alloc _ = W5 at *
    generalize w4.heap.size = h at *
    rintro e w6 ⟨rfl, b6⟩
    have X6 := hide ((unhide X5).later b6)
    have Z6 := hide ((unhide Z5).later b6)
    have V6 := hide ((unhide V5).later b6)
    have B6 := hide ((unhide B5).trans (b6.mono (unhide B5).size))
    clear X5 Z5 V5 B5 b6
    clear W5
    obtain ⟨p0, p1, p2⟩ := (unhide X6).cells
    obtain ⟨s0, s1, s2, s3⟩ := (unhide Z6).cellsN
    obtain ⟨t0, t1, t2, t3⟩ := (unhide V6).cellsN
    go_wp2_with fail
    refine (implRootNext_b _ n d n d2 _ _ _ k k2 by' (unhide E2) (unhide X6).ins (unhide V6).ins (unhide V6).inb).mono ?_
    rintro e w7 ⟨rfl, b7⟩
    have X7 := hide ((unhide X6).later b7)
    have Z7 := hide ((unhide Z6).later b7)
    have V7 := hide ((unhide V6).later b7)
    have B7 := hide ((unhide B6).trans (b7.mono (unhide B6).size))
    clear X6 Z6 V6 B6 b7 p0 p1 p2 s0 s1 s2 s3 t0 t1 t2 t3
    obtain ⟨p0, p1, p2⟩ := (unhide X7).cells
    obtain ⟨s0, s1, s2, s3⟩ := (unhide Z7).cellsN
    obtain ⟨t0, t1, t2, t3⟩ := (unhide V7).cellsN
    go_wp2_with fail
    refine (implRootNext_b _ n2 d2 n2 d2 _ _ _ k2 k2 by' (unhide E3) (unhide Z7).ins (unhide Z7).ins (unhide Z7).inb).mono ?_
    rintro e w8 ⟨rfl, b8⟩
    have X8 := hide ((unhide X7).later b8)
    have Z8 := hide ((unhide Z7).later b8)
    have V8 := hide ((unhide V7).later b8)
    have B8 := hide ((unhide B7).trans (b8.mono (unhide B7).size))
    clear X7 Z7 V7 B7 b8 p0 p1 p2 s0 s1 s2 s3 t0 t1 t2 t3
    obtain ⟨p0, p1, p2⟩ := (unhide X8).cells
    obtain ⟨s0, s1, s2, s3⟩ := (unhide Z8).cellsN
    obtain ⟨t0, t1, t2, t3⟩ := (unhide V8).cellsN
    go_wp2_with fail
    refine (implRootNext_b _ n2 d2 n d _ _ _ k2 k by' (unhide E4) (unhide Z8).ins (unhide X8).ins (unhide Z8).inb).mono ?_
    rintro e w9 ⟨rfl, b9⟩
    have X9 := hide ((unhide X8).later b9)
    have Z9 := hide ((unhide Z8).later b9)
    have V9 := hide ((unhide V8).later b9)
    have B9 := hide ((unhide B8).trans (b9.mono (unhide B8).size))
    clear X8 Z8 V8 B8 b9 p0 p1 p2 s0 s1 s2 s3 t0 t1 t2 t3
    obtain ⟨p0, p1, p2⟩ := (unhide X9).cells
    obtain ⟨s0, s1, s2, s3⟩ := (unhide Z9).cellsN
    obtain ⟨t0, t1, t2, t3⟩ := (unhide V9).cellsN
    go_wp2
    go_ret
    exact ⟨rfl, unhide B9⟩
end Go.Proofs.Ytneaceieaafjdaa
