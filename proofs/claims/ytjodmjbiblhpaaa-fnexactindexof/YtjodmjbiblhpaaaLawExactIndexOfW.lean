/- The walk of FnExactIndexOf: it returns true and leaves what was there; for every row of packages and every two numbers. -/
import Derived.Test.YtjodmjbiblhpaaaOpenPkgsW
import Derived.Test.YtjodmjbiblhpaaaImplIdxOfW
import Derived.Test.YtjodmjbiblhpaaaPksMarkW
import Derived.Test.YtjodmjbiblhpaaaEqMW
import Derived.Test.YtjodmjbiblhpaaaMarkRW
namespace Go.Proofs.Ytjodmjbiblhpaaa
open Go.RowKit

theorem ownM_stays {N : Nat → Prop} {B : Nat} {w w' : World} {v : Value} {n : Nat} {xs : List Value} (h : w.ownsRow B 49 3 v n xs) (hs : Stays N w w') (hN : ∀ b, B ≤ b → ¬ N b) : w'.ownsRow B 49 3 v n xs :=
  own_keepS h (fun g _ _ hB hg => hs.block g (heapLt hg) (hN g hB))
theorem Ix.ofD_len (num til : Int) (l : List Ix.Pg) : (Ix.ofD num til l).2.2.length ≤ 8 := by
  unfold Ix.ofD
  split
  · rename_i h
    unfold Ix.ofOk Ix.idxOk at h
    simp only [Bool.and_eq_true, decide_eq_true_eq] at h
    exact h.2.1.2
  · exact Nat.zero_le _
/-- From a world on, all that was there stays. -/
theorem Stays.below {N : Nat → Prop} {w w' : World} {B : Nat} (h : Stays N w w') (hB : B ≤ w.heap.size) (hN : ∀ b, b < B → ¬ N b) : Below B w w' := ⟨h.os, h.tape, h.output, h.size, fun k hk => h.block k (by omega) (hN k hk)⟩

set_option maxHeartbeats 8000000 in
set_option maxRecDepth 100000 in
theorem exactIndexOf_walk (w : World) (num til : Int) (a : Option Addr) (n c : Nat) (hR : PkgsIn w a n c) :
    Calls Try.prog 3 #[.int .i64 num, .int .i64 til, .slice a n c] w fun e w' => e = .returned (.bool true) ∧ Below w.heap.size w w' := by
  obtain ⟨hn, P⟩ := hR
  by_cases hbig : n ≤ 1048576
  rotate_left
  · go_enter Try.func3, Try.ntmps3
    go_wp2_with fail
    refine (szPkgS_big _ a n c hn hbig).mono ?_
    rintro e w1 ⟨rfl, rfl⟩
    go_wp2
    go_ret
    exact ⟨rfl, Below.refl _ _⟩
  obtain ⟨q, hrow, hp⟩ := P hbig
  have CZ := hide (szPkgS_any w a n c q hbig hrow (fun i hi => ⟨(hp i hi).1.1, (hp i hi).2.1⟩))
  have HO := hide (fun hs => pkgs_of (c := c) hbig hrow hp hs)
  clear P hrow hp
  go_enter Try.func3, Try.ntmps3
  go_wp2_with fail
  refine (unhide CZ).mono ?_
  rintro e w1 ⟨b1, ⟨hs, r, rfl, r0⟩ | rfl⟩
  rotate_left
  · have B1 := hide b1
    clear b1 CZ HO
    go_wp2
    go_ret
    exact ⟨rfl, unhide B1⟩
  obtain ⟨l, rfl, hpk, hall⟩ := unhide HO hs
  have HP1 := hide (hpk.later b1)
  have B1 := hide b1
  have HALL := hide hall
  have hr : ¬ r < 0 := by omega
  clear CZ HO hs hpk hall b1
  clear q
  have hln1 := Ix.ofD_len num til l
  have CS := hide (fun (W : World) (v : Value) hW => indexOf_any (N := fun b => w1.heap.size ≤ b) W num til v l hW)
  have CI := hide (fun (N : Nat → Prop) (W : World) (v : Value) hW => implIndexOf_any (N := N) W num til v l hW)
  generalize Ix.ofD num til l = an at *
  generalize Ix.ofOk num til l = bo at *
  obtain ⟨nm, vr, ms⟩ := an
  dsimp only at hln1
  have hne : (bo != bo) = false := by simp
  go_wp2_with fail
  refine (toPkgS_any _ _ l (unhide HP1) hbig (unhide HALL)).mono ?_
  rintro e w2 ⟨rfl, f2, b2⟩
  have F2 := hide (f2.pks hbig)
  have BB2 := hide b2
  clear f2 b2
  go_wp2_with fail
  refine (unhide CS _ _ (unhide F2)).mono ?_
  rintro e w3 ⟨mv, rfl, ho, b3⟩
  dsimp only at ho ⊢
  obtain ⟨fa, fc, h1⟩ := own_formS ho
  subst h1
  have b3x := below1 w3 (.cells #[.int .i64 nm, .int .i64 vr, .slice fa ms.length fc] 26)
  have HX := hide (heap_alloc_new w3 (.cells #[.int .i64 nm, .int .i64 vr, .slice fa ms.length fc] 26))
  have hp3 := Trs.own ho (by omega)
  have PW := hide (hp3.later b3x)
  have BB3 := hide ((unhide BB2).trans ((b3.trans (b3x.mono b3.size)).mono (unhide BB2).size))
  clear hp3 b3x b3 ho F2 BB2
  go_wp2_with fail
  refine (toPkgS_any _ _ l ((unhide HP1).later (unhide BB3)) hbig (unhide HALL)).mono ?_
  generalize hXe : w3.heap.size = X at *
  clear hXe
  generalize w3.alloc _ = W3 at *
  clear w3
  rintro e w4 ⟨rfl, f4, b4⟩
  have F4 := hide (f4.pks hbig)
  have HWR := hide f4.wr
  have B34 := hide b4
  clear f4 b4
  have hB01 := (unhide B34).size
  go_wp2_with fail
  refine (unhide CI _ _ _ (unhide F4)).mono ?_
  rintro e w5 ⟨mv, rfl, ho, b5⟩
  dsimp only at ho ⊢
  obtain ⟨ga, gc, h1⟩ := own_formS ho
  subst h1
  have b5x := below1 w5 (.cells #[.int .i64 nm, .int .i64 vr, .slice ga ms.length gc] 26)
  have hYX : X < w5.heap.size := by have := heapLt (unhide HX); have := b5.size; omega
  have HY := hide (heap_alloc_new w5 (.cells #[.int .i64 nm, .int .i64 vr, .slice ga ms.length gc] 26))
  have OG := hide (own_later ho b5x)
  have b45 := b5.trans (b5x.mono b5.size)
  have B35 := hide ((unhide B34).trans (b45.mono (unhide B34).size))
  have F5 := hide ((unhide F4).later b45)
  have WR5 := hide ((unhide HWR).later b45)
  have hlo : w4.heap.size ≤ w5.heap.size := b5.size
  clear ho b5 b5x b45 F4 HWR
  have hx5 := (Below.block (unhide B35) _ (heapLt (unhide HX))).trans (unhide HX)
  obtain ⟨p0, p1, p2⟩ : _ ∧ _ ∧ _ := ⟨cellOf hx5 0, cellOf hx5 1, cellOf hx5 2⟩
  have hpg := Trs.own (unhide OG) (by omega)
  have hpw := (unhide PW).later (unhide B35)
  have CE := hide (eqIndex_any _ nm vr _ _ ms hpg hpw)
  clear hx5 hpg hpw
  go_wp2_with fail
  refine (unhide CE).mono ?_
  generalize hYe : w5.heap.size = Y at *
  clear hYe
  generalize w5.alloc _ = W5 at *
  clear w5 p0 p1 p2 CE
  rintro e w6 ⟨rfl, b6⟩
  have HY6 := hide ((b6.block _ (heapLt (unhide HY))).trans (unhide HY))
  have OG6 := hide (own_later (unhide OG) b6)
  have B36 := hide ((unhide B35).trans (b6.mono (unhide B35).size))
  have F6 := hide ((unhide F5).later b6)
  have WR6 := hide ((unhide WR5).later b6)
  clear b6 HY OG B35 F5 WR5
  clear W5
  go_wp2_with fail
  refine (toPkgS_any _ _ l ((unhide HP1).later ((unhide BB3).trans ((unhide B36).mono (unhide BB3).size))) hbig (unhide HALL)).mono ?_
  rintro e w7 ⟨rfl, f7, b7⟩
  have F7 := hide (f7.pks hbig)
  have G7 := hide ((unhide F6).later b7)
  have HY7 := hide ((b7.block _ (heapLt (unhide HY6))).trans (unhide HY6))
  have OG7 := hide (own_later (unhide OG6) b7)
  have B37 := hide ((unhide B36).trans (b7.mono (unhide B36).size))
  have WR7 := hide ((unhide WR6).later b7)
  clear f7 b7 HY6 OG6 B36 F6 WR6
  go_wp2_with fail
  refine (eqPkgS_any _ _ _ l (unhide G7) (unhide F7)).mono ?_
  rintro e w8 ⟨rfl, b8⟩
  have HY8 := hide ((b8.block _ (heapLt (unhide HY7))).trans (unhide HY7))
  have OG8 := hide (own_later (unhide OG7) b8)
  have B38 := hide ((unhide B37).trans (b8.mono (unhide B37).size))
  have WR8 := hide ((unhide WR7).later b8)
  clear b8 HY7 OG7 B37 F7 G7 WR7
  go_wp2_with fail
  refine (markPkgS_any _ _ _ (unhide WR8) hbig).mono ?_
  rintro e w9 ⟨k9, rfl, k90, s9⟩
  have hk9 : ¬ k9 < 0 := by omega
  have hdk9 : decide (k9 < 0) = false := by simpa using hk9
  have hY9 := (s9.block _ (heapLt (unhide HY8)) (by (try dsimp only); omega)).trans (unhide HY8)
  have OG9 := hide (ownM_stays (unhide OG8) s9 (fun b hb => by (try dsimp only); omega))
  have B39 := hide ((unhide B38).trans (s9.below (unhide B38).size (fun b hb => by (try dsimp only); omega)))
  have hx9 := (Below.block (unhide B39) _ (heapLt (unhide HX))).trans (unhide HX)
  have HY9 := hide hY9
  have hpg := Trs.own (unhide OG9) (by omega)
  have hpw := (unhide PW).later (unhide B39)
  have CE := hide (eqIndex_any _ nm vr _ _ ms hpg hpw)
  obtain ⟨p0, p1, p2⟩ : _ ∧ _ ∧ _ := ⟨cellOf hx9 0, cellOf hx9 1, cellOf hx9 2⟩
  obtain ⟨y0, y1, y2⟩ : _ ∧ _ ∧ _ := ⟨cellOf hY9 0, cellOf hY9 1, cellOf hY9 2⟩
  clear s9 HY8 OG8 B38 WR8 hx9 hY9 hpg hpw
  go_wp2_with fail
  refine (unhide CE).mono ?_
  rintro e w10 ⟨rfl, b10⟩
  have hY10 := (b10.block _ (heapLt (unhide HY9))).trans (unhide HY9)
  have HY10 := hide hY10
  have OG10 := hide (own_later (unhide OG9) b10)
  have B310 := hide ((unhide B39).trans (b10.mono (unhide B39).size))
  clear b10 HY9 OG9 B39 CE p0 p1 p2 y0 y1 y2
  obtain ⟨y0, y1, y2⟩ : _ ∧ _ ∧ _ := ⟨cellOf hY10 0, cellOf hY10 1, cellOf hY10 2⟩
  have hs310 := (unhide B310).size
  have hlt4 : w4.heap.size ≤ w10.heap.size := by have := heapLt (unhide HY10); omega
  have CM := hide (markIndex_any w10 nm vr (.slice ga ms.length gc) ms w4.heap.size 1 (unhide OG10) (by omega) (by omega) (by omega))
  clear hY10
  go_wp2_with fail
  refine (unhide CM).mono ?_
  rintro e w11 ⟨rfl, hf11, hfr⟩
  have hY11 := (hfr.block Y (heapLt (unhide HY10)) (fun e => own_ne (unhide OG10) (unhide HY10) (by decide) e)).trans (unhide HY10)
  have HY11 := hide hY11
  have HF11 := hide hf11
  have B311 := hide ((unhide B310).trans (hfr.below (unhide B310).size (fun k hk => Nat.le_trans hB01 (own_row (unhide OG10) k hk).1)))
  clear y0 y1 y2
  obtain ⟨y0, y1, y2⟩ : _ ∧ _ ∧ _ := ⟨cellOf hY11 0, cellOf hY11 1, cellOf hY11 2⟩
  have CH := hide (heldIndex_any w11 nm vr (.slice ga ms.length gc) ms.length w4.heap.size 1 hf11 (by omega) (by omega) (by omega))
  have hq : ¬ ((1 : Int) + 3 * (ms.length : Int)) < 0 := by omega
  have hqn : (((1 : Int) + 3 * (ms.length : Int)) != ((1 : Int) + 3 * (ms.length : Int))) = false := by simp
  clear hf11 hfr hY11 HY10 OG10 B310 CM
  go_wp2_with fail
  refine (unhide CH).mono ?_
  rintro e w12 ⟨rfl, b12⟩
  have HY12 := hide ((b12.block _ (heapLt (unhide HY11))).trans (unhide HY11))
  have HF12 := hide (own_later (unhide HF11) b12)
  have B312 := hide ((unhide B311).trans (b12.mono (unhide B311).size))
  clear b12 HY11 HF11  B311 y0 y1 y2 CH
  go_wp2_with fail
  refine (toPkgS_any _ _ l ((unhide HP1).later ((unhide BB3).trans ((unhide B312).mono (unhide BB3).size))) hbig (unhide HALL)).mono ?_
  rintro e w13 ⟨rfl, f13, b13⟩
  have F13 := hide (f13.pks hbig)
  have HY13 := hide ((b13.block _ (heapLt (unhide HY12))).trans (unhide HY12))
  have HF13 := hide (own_later (unhide HF12) b13)
  have B313 := hide ((unhide B312).trans (b13.mono (unhide B312).size))
  clear f13 b13 HY12 HF12  B312
  go_wp2_with fail
  refine (unhide CI _ _ _ (unhide F13)).mono ?_
  rintro e w14 ⟨mv, rfl, ho, b14⟩
  dsimp only at ho ⊢
  obtain ⟨ja, jc, h1⟩ := own_formS ho
  subst h1
  have b14x := below1 w14 (.cells #[.int .i64 nm, .int .i64 vr, .slice ja ms.length jc] 26)
  have b1314 := b14.trans (b14x.mono b14.size)
  have hXZ : X < w14.heap.size := by have := heapLt (unhide HX); have := (unhide B313).size; have := b14.size; omega
  have hYZ : Y < w14.heap.size := by have := heapLt (unhide HY13); have := b14.size; omega
  have HY14 := hide ((b1314.block _ (heapLt (unhide HY13))).trans (unhide HY13))
  have HF14 := hide (own_later (unhide HF13) b1314)
  have B314 := hide ((unhide B313).trans (b1314.mono (unhide B313).size))
  have hph := Trs.own (own_later ho b14x) (by omega)
  have hpw := (unhide PW).later (unhide B314)
  have CE := hide (eqIndex_any _ nm vr _ _ ms hph hpw)
  have hx14 := (Below.block (unhide B314) _ (heapLt (unhide HX))).trans (unhide HX)
  obtain ⟨p0, p1, p2⟩ : _ ∧ _ ∧ _ := ⟨cellOf hx14 0, cellOf hx14 1, cellOf hx14 2⟩
  clear ho b14 b14x b1314 HY13 HF13  B313 F13 hph hpw hx14
  go_wp2_with fail
  refine (unhide CE).mono ?_
  generalize hZe : w14.heap.size = Z at *
  clear hZe
  generalize w14.alloc _ = W14 at *
  clear w14 p0 p1 p2 CE
  rintro e w15 ⟨rfl, b15⟩
  have hY15 := (b15.block _ (heapLt (unhide HY14))).trans (unhide HY14)
  have B315 := hide ((unhide B314).trans (b15.mono (unhide B314).size))
  have CH := hide (heldIndex_any w15 nm vr (.slice ga ms.length gc) ms.length w4.heap.size 1 (own_later (unhide HF14) b15) (by omega) (by omega) (by omega))
  obtain ⟨y0, y1, y2⟩ : _ ∧ _ ∧ _ := ⟨cellOf hY15 0, cellOf hY15 1, cellOf hY15 2⟩
  clear b15 HY14 HF14 B314 hY15
  go_wp2_with fail
  refine (unhide CH).mono ?_
  rintro e w16 ⟨rfl, b16⟩
  have hB := (unhide B1).trans ((unhide BB3).mono (unhide B1).size)
  have B16 := hide (hB.trans (((unhide B315).trans (b16.mono (unhide B315).size)).mono hB.size))
  clear b16 hB
  go_wp2
  go_ret
  exact ⟨rfl, unhide B16⟩
end Go.Proofs.Ytjodmjbiblhpaaa
