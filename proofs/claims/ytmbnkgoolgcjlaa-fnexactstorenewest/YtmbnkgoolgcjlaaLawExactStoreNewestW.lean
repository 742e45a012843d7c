/- The walk of FnExactStoreNewest: it returns true and leaves what was there; for every row of packages and every number. -/
import Derived.Test.YtmbnkgoolgcjlaaOpenPkgsW
import Derived.Test.YtmbnkgoolgcjlaaShelfW
import Derived.Test.YtmbnkgoolgcjlaaNewestPreW
import Derived.Test.YtmbnkgoolgcjlaaPksMarkW
namespace Go.Proofs.Ytmbnkgoolgcjlaa
open Go.RowKit

theorem OwP.stays {N : Nat → Prop} {B : Nat} {w w' : World} {fv dv : Value} {fs ds : List (Int × Int)} (h : OwP B w fv dv fs ds) (hs : Stays N w w') (hN : ∀ b, B ≤ b → ¬ N b) : OwP B w' fv dv fs ds :=
  ⟨own_keepS h.f (fun g _ _ hB hg => hs.block g (heapLt hg) (hN g hB)), own_keepS h.d (fun g _ _ hB hg => hs.block g (heapLt hg) (hN g hB))⟩
/-- From a world on, all that was there stays. -/
theorem Stays.below {N : Nat → Prop} {w w' : World} {B : Nat} (h : Stays N w w') (hB : B ≤ w.heap.size) (hN : ∀ b, b < B → ¬ N b) : Below B w w' := ⟨h.os, h.tape, h.output, h.size, fun k hk => h.block k (by omega) (hN k hk)⟩

set_option maxHeartbeats 8000000 in
set_option maxRecDepth 100000 in
theorem exactStoreNewest_walk (w : World) (a : Option Addr) (n c : Nat) (x : Int) (hR : PkgsIn w a n c) (hx : (Lit.int .i64 x).wf = true) :
    Calls Try.prog 6 #[.slice a n c, .int .i64 x] w fun e w' => e = .returned (.bool true) ∧ Below w.heap.size w w' := by
  have x0 : -9223372036854775808 ≤ x ∧ x ≤ 9223372036854775807 := by simpa [Lit.wf, IntKind.min, IntKind.max, IntKind.bits, IntKind.signed] using hx
  obtain ⟨x0, x1⟩ := x0
  obtain ⟨hn, P⟩ := hR
  by_cases hbig : n ≤ 1048576
  rotate_left
  · go_enter Try.func6, Try.ntmps6
    go_wp2_with fail
    refine (szPkgS_big _ a n c hn hbig).mono ?_
    rintro e w1 ⟨rfl, rfl⟩
    go_wp2
    go_ret
    exact ⟨rfl, Below.refl _ _⟩
  obtain ⟨q, hrow, hp⟩ := P hbig
  have CZ := hide (szPkgS_any w a n c q hbig hrow (fun i hi => ⟨(hp i hi).1.1, (hp i hi).2.1⟩))
  have HO := hide (fun hs => pkgs_of (c := c) hbig hrow hp hs)
  clear P hrow hp
  go_enter Try.func6, Try.ntmps6
  go_wp2_with fail
  refine (unhide CZ).mono ?_
  rintro e w1 ⟨b1, ⟨hs, r, rfl, r0⟩ | rfl⟩
  rotate_left
  · have B1 := hide b1
    clear b1 CZ HO
    go_wp2
    go_ret
    exact ⟨rfl, unhide B1⟩
  obtain ⟨l, rfl, hpk, hall⟩ := unhide HO hs
  have HP1 := hide (hpk.later b1)
  have B1 := hide b1
  have HALL := hide hall
  have hr : ¬ r < 0 := by omega
  clear CZ HO hs hpk hall b1 hx
  clear q
  obtain ⟨hln1, hln2⟩ := Ix.newA_lens l x
  have CS := hide (fun (W : World) (v : Value) hW => specStoreNewest_any (N := fun b => w1.heap.size ≤ b) W v l x hW)
  have CI := hide (fun (N : Nat → Prop) (W : World) (v : Value) hW => implStoreNewest_any (N := N) W v l x hW x0 x1)
  obtain ⟨an, han⟩ : ∃ an, an = Ix.newA l x := ⟨_, rfl⟩
  rw [← han] at CS CI hln1 hln2
  clear han
  obtain ⟨⟨nm, vr, fs, ds⟩, bo⟩ := an
  dsimp only at hln1 hln2
  have hne : (bo != bo) = false := by simp
  go_wp2_with fail
  refine (toPkgS_any _ _ l (unhide HP1) hbig (unhide HALL)).mono ?_
  rintro e w2 ⟨rfl, f2, b2⟩
  have F2 := hide (f2.pks hbig)
  have BB2 := hide b2
  clear f2 b2
  go_wp2_with fail
  refine (unhide CS _ _ (unhide F2)).mono ?_
  rintro e w3 ⟨u, rfl, ⟨fv, dv, rfl, ho⟩, b3⟩
  obtain ⟨fa, fc, da, dc, h1, h2⟩ := ho.forms
  dsimp only at h1 h2
  subst h1 h2
  dsimp only
  have b3x := below1 w3 (.cells #[.int .i64 nm, .int .i64 vr, .slice fa fs.length fc, .slice da ds.length dc] 29)
  have HX := hide (heap_alloc_new w3 (.cells #[.int .i64 nm, .int .i64 vr, .slice fa fs.length fc, .slice da ds.length dc] 29))
  have hp3 := ho.prs (by (try dsimp only); omega) (by (try dsimp only); omega)
  have PW : Hid (Prs (w3.alloc (.cells #[.int .i64 nm, .int .i64 vr, .slice fa fs.length fc, .slice da ds.length dc] 29)) (.slice fa fs.length fc) fs ∧ Prs (w3.alloc (.cells #[.int .i64 nm, .int .i64 vr, .slice fa fs.length fc, .slice da ds.length dc] 29)) (.slice da ds.length dc) ds) := ⟨hp3.1.later b3x, hp3.2.later b3x⟩
  have BB3 := hide ((unhide BB2).trans ((b3.trans (b3x.mono b3.size)).mono (unhide BB2).size))
  clear hp3 b3x b3 ho F2 BB2
  go_wp2_with fail
  refine (toPkgS_any _ _ l ((unhide HP1).later (unhide BB3)) hbig (unhide HALL)).mono ?_
  generalize hXe : w3.heap.size = X at *
  clear hXe
  generalize w3.alloc _ = W3 at *
  clear w3
  rintro e w4 ⟨rfl, f4, b4⟩
  have F4 := hide (f4.pks hbig)
  have HWR := hide f4.wr
  have B34 := hide b4
  clear f4 b4
  have hB01 := (unhide B34).size
  go_wp2_with fail
  refine (unhide CI _ _ _ (unhide F4)).mono ?_
  rintro e w5 ⟨u, rfl, ⟨fv, dv, rfl, ho⟩, b5⟩
  obtain ⟨ga, gc, ha, hc, h1, h2⟩ := ho.forms
  dsimp only at h1 h2
  subst h1 h2
  dsimp only
  have b5x := below1 w5 (.cells #[.int .i64 nm, .int .i64 vr, .slice ga fs.length gc, .slice ha ds.length hc] 29)
  have hYX : X < w5.heap.size := by have := heapLt (unhide HX); have := b5.size; omega
  have HY := hide (heap_alloc_new w5 (.cells #[.int .i64 nm, .int .i64 vr, .slice ga fs.length gc, .slice ha ds.length hc] 29))
  have OG := hide (OwP.later ho b5x)
  have b45 := b5.trans (b5x.mono b5.size)
  have B35 := hide ((unhide B34).trans (b45.mono (unhide B34).size))
  have F5 := hide ((unhide F4).later b45)
  have WR5 := hide ((unhide HWR).later b45)
  have hlo : w4.heap.size ≤ w5.heap.size := b5.size
  clear ho b5 b5x b45 F4 HWR
  have hx5 := (Below.block (unhide B35) _ (heapLt (unhide HX))).trans (unhide HX)
  obtain ⟨p0, p1, p2, p3⟩ : _ ∧ _ ∧ _ ∧ _ := ⟨cellOf hx5 0, cellOf hx5 1, cellOf hx5 2, cellOf hx5 3⟩
  have hpg := (unhide OG).prs (by (try dsimp only); omega) (by (try dsimp only); omega)
  have hpw := And.intro ((unhide PW).1.later (unhide B35)) ((unhide PW).2.later (unhide B35))
  have CE := hide (eqPkg_any _ nm vr _ _ _ _ fs ds hpg.1 hpg.2 hpw.1 hpw.2)
  clear hx5 hpg hpw
  go_wp2_with fail
  refine (unhide CE).mono ?_
  generalize hYe : w5.heap.size = Y at *
  clear hYe
  generalize w5.alloc _ = W5 at *
  clear w5 p0 p1 p2 p3 CE
  rintro e w6 ⟨rfl, b6⟩
  have HY6 := hide ((b6.block _ (heapLt (unhide HY))).trans (unhide HY))
  have OG6 := hide ((unhide OG).later b6)
  have B36 := hide ((unhide B35).trans (b6.mono (unhide B35).size))
  have F6 := hide ((unhide F5).later b6)
  have WR6 := hide ((unhide WR5).later b6)
  clear b6 HY OG B35 F5 WR5
  clear W5
  go_wp2_with fail
  refine (toPkgS_any _ _ l ((unhide HP1).later ((unhide BB3).trans ((unhide B36).mono (unhide BB3).size))) hbig (unhide HALL)).mono ?_
  rintro e w7 ⟨rfl, f7, b7⟩
  have F7 := hide (f7.pks hbig)
  have G7 := hide ((unhide F6).later b7)
  have HY7 := hide ((b7.block _ (heapLt (unhide HY6))).trans (unhide HY6))
  have OG7 := hide ((unhide OG6).later b7)
  have B37 := hide ((unhide B36).trans (b7.mono (unhide B36).size))
  have WR7 := hide ((unhide WR6).later b7)
  clear f7 b7 HY6 OG6 B36 F6 WR6
  go_wp2_with fail
  refine (eqPkgS_any _ _ _ l (unhide G7) (unhide F7)).mono ?_
  rintro e w8 ⟨rfl, b8⟩
  have HY8 := hide ((b8.block _ (heapLt (unhide HY7))).trans (unhide HY7))
  have OG8 := hide ((unhide OG7).later b8)
  have B38 := hide ((unhide B37).trans (b8.mono (unhide B37).size))
  have WR8 := hide ((unhide WR7).later b8)
  clear b8 HY7 OG7 B37 F7 G7 WR7
  go_wp2_with fail
  refine (markPkgS_any _ _ _ (unhide WR8) hbig).mono ?_
  rintro e w9 ⟨k9, rfl, k90, s9⟩
  have hk9 : ¬ k9 < 0 := by omega
  have hdk9 : decide (k9 < 0) = false := by simpa using hk9
  have hY9 := (s9.block _ (heapLt (unhide HY8)) (by (try dsimp only); omega)).trans (unhide HY8)
  have OG9 := hide ((unhide OG8).stays s9 (fun b hb => by (try dsimp only); omega))
  have B39 := hide ((unhide B38).trans (s9.below (unhide B38).size (fun b hb => by (try dsimp only); omega)))
  have hx9 := (Below.block (unhide B39) _ (heapLt (unhide HX))).trans (unhide HX)
  have HY9 := hide hY9
  have hpg := (unhide OG9).prs (by (try dsimp only); omega) (by (try dsimp only); omega)
  have hpw := And.intro ((unhide PW).1.later (unhide B39)) ((unhide PW).2.later (unhide B39))
  have CE := hide (eqPkg_any _ nm vr _ _ _ _ fs ds hpg.1 hpg.2 hpw.1 hpw.2)
  obtain ⟨p0, p1, p2, p3⟩ : _ ∧ _ ∧ _ ∧ _ := ⟨cellOf hx9 0, cellOf hx9 1, cellOf hx9 2, cellOf hx9 3⟩
  obtain ⟨y0, y1, y2, y3⟩ : _ ∧ _ ∧ _ ∧ _ := ⟨cellOf hY9 0, cellOf hY9 1, cellOf hY9 2, cellOf hY9 3⟩
  clear s9 HY8 OG8 B38 WR8 hx9 hY9 hpg hpw
  go_wp2_with fail
  refine (unhide CE).mono ?_
  rintro e w10 ⟨rfl, b10⟩
  have hY10 := (b10.block _ (heapLt (unhide HY9))).trans (unhide HY9)
  have HY10 := hide hY10
  have OG10 := hide ((unhide OG9).later b10)
  have B310 := hide ((unhide B39).trans (b10.mono (unhide B39).size))
  clear b10 HY9 OG9 B39 CE p0 p1 p2 p3 y0 y1 y2 y3
  obtain ⟨y0, y1, y2, y3⟩ : _ ∧ _ ∧ _ ∧ _ := ⟨cellOf hY10 0, cellOf hY10 1, cellOf hY10 2, cellOf hY10 3⟩
  have hs310 := (unhide B310).size
  have hlt4 : w4.heap.size ≤ w10.heap.size := by have := heapLt (unhide HY10); omega
  have CM := hide (markPkg_any w10 nm vr (.slice ga fs.length gc) (.slice ha ds.length hc) fs ds w4.heap.size (unhide OG10).f (unhide OG10).d hlt4 (by omega) (by omega))
  clear hY10
  go_wp2_with fail
  refine (unhide CM).mono ?_
  rintro e w11 ⟨rfl, hf11, hd11, b11, hoth⟩
  have hYf : some Y ≠ (Value.slice ga fs.length gc).ownBlock := fun e => own_ne (unhide OG10).f (unhide HY10) (by decide) e.symm
  have hYd : some Y ≠ (Value.slice ha ds.length hc).ownBlock := fun e => own_ne (unhide OG10).d (unhide HY10) (by decide) e.symm
  have hY11 := (hoth Y (heapLt (unhide HY10)) hYf hYd).trans (unhide HY10)
  have HY11 := hide hY11
  have HF11 := hide hf11
  have HD11 := hide hd11
  have B311 := hide ((unhide B310).trans (b11.mono hB01))
  clear y0 y1 y2 y3
  obtain ⟨y0, y1, y2, y3⟩ : _ ∧ _ ∧ _ ∧ _ := ⟨cellOf hY11 0, cellOf hY11 1, cellOf hY11 2, cellOf hY11 3⟩
  have CH := hide (heldPkg_any w11 nm vr (.slice ga fs.length gc) (.slice ha ds.length hc) fs.length ds.length w4.heap.size hf11 hd11 (by omega) (by omega))
  have hq : ¬ ((1 : Int) + 2 * (fs.length : Int) + 2 * (ds.length : Int)) < 0 := by omega
  have hqn : (((1 : Int) + 2 * (fs.length : Int) + 2 * (ds.length : Int)) != ((1 : Int) + 2 * (fs.length : Int) + 2 * (ds.length : Int))) = false := by simp
  clear hf11 hd11 b11 hoth hYf hYd hY11 HY10 OG10 B310 CM
  go_wp2_with fail
  refine (unhide CH).mono ?_
  rintro e w12 ⟨rfl, b12⟩
  have HY12 := hide ((b12.block _ (heapLt (unhide HY11))).trans (unhide HY11))
  have HF12 := hide (own_later (unhide HF11) b12)
  have HD12 := hide (own_later (unhide HD11) b12)
  have B312 := hide ((unhide B311).trans (b12.mono (unhide B311).size))
  clear b12 HY11 HF11 HD11 B311 y0 y1 y2 y3 CH
  go_wp2_with fail
  refine (toPkgS_any _ _ l ((unhide HP1).later ((unhide BB3).trans ((unhide B312).mono (unhide BB3).size))) hbig (unhide HALL)).mono ?_
  rintro e w13 ⟨rfl, f13, b13⟩
  have F13 := hide (f13.pks hbig)
  have HY13 := hide ((b13.block _ (heapLt (unhide HY12))).trans (unhide HY12))
  have HF13 := hide (own_later (unhide HF12) b13)
  have HD13 := hide (own_later (unhide HD12) b13)
  have B313 := hide ((unhide B312).trans (b13.mono (unhide B312).size))
  clear f13 b13 HY12 HF12 HD12 B312
  go_wp2_with fail
  refine (unhide CI _ _ _ (unhide F13)).mono ?_
  rintro e w14 ⟨u, rfl, ⟨fv, dv, rfl, ho⟩, b14⟩
  obtain ⟨ja, jc, ka, kc, h1, h2⟩ := ho.forms
  dsimp only at h1 h2
  subst h1 h2
  dsimp only
  have b14x := below1 w14 (.cells #[.int .i64 nm, .int .i64 vr, .slice ja fs.length jc, .slice ka ds.length kc] 29)
  have b1314 := b14.trans (b14x.mono b14.size)
  have hXZ : X < w14.heap.size := by have := heapLt (unhide HX); have := (unhide B313).size; have := b14.size; omega
  have hYZ : Y < w14.heap.size := by have := heapLt (unhide HY13); have := b14.size; omega
  have HY14 := hide ((b1314.block _ (heapLt (unhide HY13))).trans (unhide HY13))
  have HF14 := hide (own_later (unhide HF13) b1314)
  have HD14 := hide (own_later (unhide HD13) b1314)
  have B314 := hide ((unhide B313).trans (b1314.mono (unhide B313).size))
  have hph := (OwP.later ho b14x).prs (by (try dsimp only); omega) (by (try dsimp only); omega)
  have hpw := And.intro ((unhide PW).1.later (unhide B314)) ((unhide PW).2.later (unhide B314))
  have CE := hide (eqPkg_any _ nm vr _ _ _ _ fs ds hph.1 hph.2 hpw.1 hpw.2)
  have hx14 := (Below.block (unhide B314) _ (heapLt (unhide HX))).trans (unhide HX)
  obtain ⟨p0, p1, p2, p3⟩ : _ ∧ _ ∧ _ ∧ _ := ⟨cellOf hx14 0, cellOf hx14 1, cellOf hx14 2, cellOf hx14 3⟩
  clear ho b14 b14x b1314 HY13 HF13 HD13 B313 F13 hph hpw hx14
  go_wp2_with fail
  refine (unhide CE).mono ?_
  generalize hZe : w14.heap.size = Z at *
  clear hZe
  generalize w14.alloc _ = W14 at *
  clear w14 p0 p1 p2 p3 CE
  rintro e w15 ⟨rfl, b15⟩
  have hY15 := (b15.block _ (heapLt (unhide HY14))).trans (unhide HY14)
  have B315 := hide ((unhide B314).trans (b15.mono (unhide B314).size))
  have CH := hide (heldPkg_any w15 nm vr (.slice ga fs.length gc) (.slice ha ds.length hc) fs.length ds.length w4.heap.size (own_later (unhide HF14) b15) (own_later (unhide HD14) b15) (by omega) (by omega))
  obtain ⟨y0, y1, y2, y3⟩ : _ ∧ _ ∧ _ ∧ _ := ⟨cellOf hY15 0, cellOf hY15 1, cellOf hY15 2, cellOf hY15 3⟩
  clear b15 HY14 HF14 HD14 B314 hY15
  go_wp2_with fail
  refine (unhide CH).mono ?_
  rintro e w16 ⟨rfl, b16⟩
  have hB := (unhide B1).trans ((unhide BB3).mono (unhide B1).size)
  have B16 := hide (hB.trans (((unhide B315).trans (b16.mono (unhide B315).size)).mono hB.size))
  clear b16 hB
  go_wp2
  go_ret
  exact ⟨rfl, unhide B16⟩
end Go.Proofs.Ytmbnkgoolgcjlaa
