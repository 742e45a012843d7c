/- The walk of FnExactPlanFiles: it returns true and leaves what was there; for every row of packages. -/
import Derived.Test.YtkkkookgpphpiaaDoorOpenPkgsW
import Derived.Test.YtkkkookgpphpiaaDoorSFilesW
import Derived.Test.YtkkkookgpphpiaaDoorPksMarkW
import Derived.Test.YtkkkookgpphpiaaDoorMarkTW
namespace Go.Proofs.YtkkkookgpphpiaaDoor
open Go.RowKit

theorem OwI.stays {N : Nat → Prop} {B : Nat} {w w' : World} {v : Value} {l : List Int} (h : OwI B w v l) (hs : Stays N w w') (hN : ∀ b, B ≤ b → ¬ N b) : OwI B w' v l :=
  own_keepS h (fun g _ _ hB hg => hs.block g (heapLt hg) (hN g hB))
/-- From a world on, all that was there stays. -/
theorem Stays.below0 {N : Nat → Prop} {w w' : World} {B : Nat} (h : Stays N w w') (hB : B ≤ w.heap.size) (hN : ∀ b, b < B → ¬ N b) : Below B w w' := ⟨h.os, h.tape, h.output, h.size, fun k hk => h.block k (by omega) (hN k hk)⟩
theorem Ix.planFiles_len (l : List Ix.Pg) : (Ix.planFiles l).length ≤ 6 := by
  unfold Ix.planFiles
  split
  · rw [Ix.filesTo_len l l.length (Nat.le_refl _)]; exact Nat.le_refl _
  · simp

set_option maxHeartbeats 8000000 in
set_option maxRecDepth 100000 in
theorem exactPlanFiles_walk (w : World) (a : Option Addr) (n c : Nat) (hR : PkgsIn w a n c) :
    Calls Tryd.prog 3 #[.slice a n c] w fun e w' => e = .returned (.bool true) ∧ Below w.heap.size w w' := by
  obtain ⟨hn, P⟩ := hR
  by_cases hbig : n ≤ 1048576
  rotate_left
  · go_enter Tryd.func3, Tryd.ntmps3
    go_wp2_with fail
    refine (szPkgS_big _ a n c hn hbig).mono ?_
    rintro e w1 ⟨rfl, rfl⟩
    go_wp2
    go_ret
    exact ⟨rfl, Below.refl _ _⟩
  obtain ⟨q, hrow, hp⟩ := P hbig
  have CZ := hide (szPkgS_any w a n c q hbig hrow (fun i hi => ⟨(hp i hi).1.1, (hp i hi).2.1⟩))
  have HO := hide (fun hs => pkgs_of (c := c) hbig hrow hp hs)
  clear P hrow hp
  go_enter Tryd.func3, Tryd.ntmps3
  go_wp2_with fail
  refine (unhide CZ).mono ?_
  rintro e w1 ⟨b1, ⟨hs, r, rfl, r0⟩ | rfl⟩
  rotate_left
  · have B1 := hide b1
    clear b1 CZ HO
    go_wp2
    go_ret
    exact ⟨rfl, unhide B1⟩
  obtain ⟨l, rfl, hpk, hall⟩ := unhide HO hs
  have HP1 := hide (hpk.later b1)
  have B1 := hide b1
  have HALL := hide hall
  have hr : ¬ r < 0 := by omega
  clear CZ HO hs hpk hall b1
  clear q
  have hln := Ix.planFiles_len l
  have CS := hide (fun (W : World) (v : Value) hW => specPlanFiles_any (N := fun b => w1.heap.size ≤ b) W v l hW)
  have CI := hide (fun (N : Nat → Prop) (W : World) (v : Value) hW hr => implPlanFiles_any (N := N) W v l hW hr)
  generalize Ix.planFiles l = PF at *
  go_wp2_with fail
  refine (toPkgS_any _ _ l (unhide HP1) hbig (unhide HALL)).mono ?_
  rintro e w2 ⟨rfl, f2, b2⟩
  have F2 := hide (f2.pks hbig)
  have BB2 := hide b2
  clear f2 b2
  go_wp2_with fail
  refine (unhide CS _ _ (unhide F2)).mono ?_
  rintro e w3 ⟨wv, rfl, ho, b3⟩
  have PW := hide (ho.wide (by omega))
  obtain ⟨wa, wc, rfl⟩ := own_formS ho
  have BB3 := hide ((unhide BB2).trans (b3.mono (unhide BB2).size))
  clear b3 ho F2 BB2
  go_wp2_with fail
  refine (toPkgS_any _ _ l ((unhide HP1).later (unhide BB3)) hbig (unhide HALL)).mono ?_
  rintro e w4 ⟨rfl, f4, b4⟩
  have F4 := hide (f4.pks hbig)
  have HWR := hide f4.wr
  have B34 := hide b4
  clear f4 b4
  have hB01 := (unhide B34).size
  go_wp2_with fail
  refine (unhide CI _ _ _ (unhide F4) (fun _ _ e => by injection e with _ _ e; omega)).mono ?_
  rintro e w5 ⟨gv, rfl, ho, b5⟩
  obtain ⟨ga, gc, rfl⟩ := own_formS ho
  have OG := hide ho
  have B35 := hide ((unhide B34).trans (b5.mono (unhide B34).size))
  have F5 := hide ((unhide F4).later b5)
  have WR5 := hide ((unhide HWR).later b5)
  have hlo : w4.heap.size ≤ w5.heap.size := b5.size
  clear ho b5 F4 HWR
  go_wp2_with fail
  refine (eqIntS_any _ _ _ PF ((unhide OG).wide (by omega)) ((unhide PW).later (unhide B35))).mono ?_
  rintro e w6 ⟨rfl, b6⟩
  have OG6 := hide (own_later (unhide OG) b6)
  have B36 := hide ((unhide B35).trans (b6.mono (unhide B35).size))
  have F6 := hide ((unhide F5).later b6)
  have WR6 := hide ((unhide WR5).later b6)
  have hlo6 : w4.heap.size ≤ w6.heap.size := Nat.le_trans hlo b6.size
  clear b6 OG B35 F5 WR5 hlo
  go_wp2_with fail
  refine (toPkgS_any _ _ l ((unhide HP1).later ((unhide BB3).trans ((unhide B36).mono (unhide BB3).size))) hbig (unhide HALL)).mono ?_
  rintro e w7 ⟨rfl, f7, b7⟩
  have F7 := hide (f7.pks hbig)
  have G7 := hide ((unhide F6).later b7)
  have OG7 := hide (own_later (unhide OG6) b7)
  have B37 := hide ((unhide B36).trans (b7.mono (unhide B36).size))
  have WR7 := hide ((unhide WR6).later b7)
  have hlo7 : w4.heap.size ≤ w7.heap.size := Nat.le_trans hlo6 b7.size
  clear f7 b7 OG6 B36 F6 WR6
  go_wp2_with fail
  refine (eqPkgS_any _ _ _ l (unhide G7) (unhide F7)).mono ?_
  rintro e w8 ⟨rfl, b8⟩
  have OG8 := hide (own_later (unhide OG7) b8)
  have B38 := hide ((unhide B37).trans (b8.mono (unhide B37).size))
  have WR8 := hide ((unhide WR7).later b8)
  have hlo8 : w4.heap.size ≤ w8.heap.size := Nat.le_trans hlo7 b8.size
  clear b8 OG7 B37 F7 G7 WR7 hlo7 hlo6
  go_wp2_with fail
  refine (markPkgS_any _ _ _ (unhide WR8) hbig).mono ?_
  rintro e w9 ⟨k9, rfl, k90, s9⟩
  have hk9 : ¬ k9 < 0 := by omega
  have hdk9 : decide (k9 < 0) = false := by simpa using hk9
  have OG9 := hide (OwI.stays (unhide OG8) s9 (fun b hb => by (try dsimp only); omega))
  have B39 := hide ((unhide B38).trans (s9.below0 (unhide B38).size (fun b hb => by (try dsimp only); omega)))
  have hlo9 : w4.heap.size ≤ w9.heap.size := Nat.le_trans hlo8 s9.size
  have CE := hide (eqIntS_any _ _ _ PF ((unhide OG9).wide (by omega)) ((unhide PW).later (unhide B39)))
  clear s9 OG8 B38 WR8 hlo8
  go_wp2_with fail
  refine (unhide CE).mono ?_
  rintro e w10 ⟨rfl, b10⟩
  have OG10 := hide (own_later (unhide OG9) b10)
  have B310 := hide ((unhide B39).trans (b10.mono (unhide B39).size))
  have hlo10 : w4.heap.size ≤ w10.heap.size := Nat.le_trans hlo9 b10.size
  clear b10 OG9 B39 CE hlo9
  have CM := hide (markIntS_any w10 _ PF w4.heap.size 1 (unhide OG10) (by omega) (by omega) (by omega))
  go_wp2_with fail
  refine (unhide CM).mono ?_
  rintro e w11 ⟨rfl, ho11, g11⟩
  have OG11 := hide ho11
  have B311 := hide (grown_below (B := w3.heap.size) (own_base' (unhide OG10) hB01) g11 (unhide B310) (unhide B310).size)
  have hq : ¬ ((1 : Int) + (PF.length : Int)) < 0 := by omega
  have hqn : (((1 : Int) + (PF.length : Int)) != ((1 : Int) + (PF.length : Int))) = false := by simp
  have CH := hide (heldIntS_any w11 _ PF.length w4.heap.size 1 ho11 (by omega) (by omega) (by omega))
  clear ho11 g11 OG10 B310 CM hlo10
  go_wp2_with fail
  refine (unhide CH).mono ?_
  rintro e w12 ⟨rfl, rfl⟩
  clear CH
  go_wp2_with fail
  refine (toPkgS_any _ _ l ((unhide HP1).later ((unhide BB3).trans ((unhide B311).mono (unhide BB3).size))) hbig (unhide HALL)).mono ?_
  rintro e w13 ⟨rfl, f13, b13⟩
  have F13 := hide (f13.pks hbig)
  have OG13 := hide (own_later (unhide OG11) b13)
  have B313 := hide ((unhide B311).trans (b13.mono (unhide B311).size))
  clear f13 b13 OG11 B311
  go_wp2_with fail
  refine (unhide CI _ _ _ (unhide F13) (fun _ _ e => by injection e with _ _ e; omega)).mono ?_
  rintro e w14 ⟨hv, rfl, ho, b14⟩
  obtain ⟨ja, jc, rfl⟩ := own_formS ho
  have OG14 := hide (own_later (unhide OG13) b14)
  have B314 := hide ((unhide B313).trans (b14.mono (unhide B313).size))
  have CE := hide (eqIntS_any _ _ _ PF (ho.wide (by omega)) ((unhide PW).later (unhide B314)))
  clear ho b14 OG13 B313 F13
  go_wp2_with fail
  refine (unhide CE).mono ?_
  rintro e w15 ⟨rfl, b15⟩
  have OG15 := hide (own_later (unhide OG14) b15)
  have B315 := hide ((unhide B314).trans (b15.mono (unhide B314).size))
  have CH := hide (heldIntS_any w15 _ PF.length w4.heap.size 1 (unhide OG15) (by omega) (by omega) (by omega))
  clear b15 OG14 B314 CE
  go_wp2_with fail
  refine (unhide CH).mono ?_
  rintro e w16 ⟨rfl, rfl⟩
  have hB := (unhide B1).trans ((unhide BB3).mono (unhide B1).size)
  have B16 := hide (hB.trans ((unhide B315).mono hB.size))
  clear hB
  go_wp2
  go_ret
  exact ⟨rfl, unhide B16⟩
end Go.Proofs.YtkkkookgpphpiaaDoor
