import Derived.Test.YtlnieobmhofkdaaGreatDoorBoxW
import Derived.Test.YtlnieobmhofkdaaGreatDoorMix16
import Derived.Test.YtlnieobmhofkdaaGreatDoorMix1
import Derived.Deep.AppendLies
import Derived.Deep.DrawnRows
/- What spec.IndexOf returns: an index of packages, its row the call's own; for every row of packages. -/
namespace Go.Proofs.YtlnieobmhofkdaaGreatDoor
open Go.RowKit

attribute [local go_sem ↓] Go.wp_at_zero Go.wp_at_succ

theorem Pk.text_len (nm vr : Int) (fs ds : List (Int × Int)) : (Pk.text nm vr fs ds).length ≤ 30 := by
  unfold Pk.text
  split
  · rename_i h
    unfold Pk.pkgOk at h
    rw [Bool.and_eq_true, Bool.and_eq_true] at h
    have h1 := (Pk.filesOk_get h.1.2).1
    have h2 := (Pk.depsOk_get h.2).1
    unfold Pk.textOk
    rw [List.length_append, List.length_append, flat_len Pk.fileT 4 (fun _ => rfl), flat_len Pk.depT 3 (fun _ => rfl)]
    have : (Pk.nameT nm vr).length = 2 := rfl
    omega
  · exact Nat.zero_le _

/-- What IndexOf tells, as data. -/
def Ix.ofD (num til : Int) (l : List Ix.Pg) : Int × Int × List Ix.M := if Ix.ofOk num til l = true then (num, til, l.map Ix.metaP) else (0, 0, [])

structure Xs (W w : World) (X R : Nat) (num til : Int) (mv : Value) (ms : List Ix.M) : Prop where
  hX : w.heap[X]? = some (.cells #[.int .i64 num, .int .i64 til, mv] 28 (0, 0))
  hR : w.heap[R]? = some (.cells #[.int .i64 0, .int .i64 0, .slice none 0 0] 28 (0, 0))
  lX : W.heap.size ≤ X
  lR : W.heap.size ≤ R
  ne : R ≠ X
  own : w.ownsRow W.heap.size 55 3 mv ms.length (flat3 ms)
  bel : Below W.heap.size W w
section
variable {W w w' : World} {X R : Nat} {num til : Int} {mv : Value} {ms : List Ix.M}
theorem Xs.later (h : Xs W w X R num til mv ms) (hb : Below w.heap.size w w') : Xs W w' X R num til mv ms :=
  ⟨(hb.block X (heapLt h.hX)).trans h.hX, (hb.block R (heapLt h.hR)).trans h.hR, h.lX, h.lR, h.ne, own_later h.own hb, h.bel.trans (hb.mono h.bel.size)⟩
theorem Xs.drew (h : Xs W w X R num til mv ms) : Xs W w.drew X R num til mv ms := h.later (below_drew w)
theorem Xs.alloc (h : Xs W w X R num til mv ms) (o : Obj) : Xs W (w.alloc o) X R num til mv ms := h.later (below1 w o)
theorem Xs.app {w2 : World} {g cap : Nat} {x : Ix.M} (h : Xs W w X R num til mv ms) (hg : w.grownBy w2 mv.ownBlock)
    (ho : w2.ownsRow W.heap.size 55 3 (.slice (some ⟨g, 0, none⟩) (ms.length + 1) cap) (ms.length + 1) (flat3 ms ++ [.int .i64 x.1, .int .i64 x.2.1, .int .i64 x.2.2])) :
    Xs W (w2.setCell ⟨X, 2, none⟩ (.slice (some ⟨g, 0, none⟩) (ms.length + 1) cap)) X R num til (.slice (some ⟨g, 0, none⟩) (ms.length + 1) cap) (ms ++ [x]) := by
  have hX2 := (grown_other h.own hg h.hX (by decide)).trans h.hX
  have hR2 := (grown_other h.own hg h.hR (by decide)).trans h.hR
  refine ⟨by rw [heapSet hX2]; rfl, by rw [Below.heap_setCell _ _ _ _ h.ne]; exact hR2, h.lX, h.lR, h.ne, ?_, below_set (grown_below h.own hg h.bel h.bel.size) h.lX⟩
  rw [flat3_snoc, List.length_append]
  exact own_set ho hX2 (by decide)
theorem Xs.start (w : World) (num til : Int) : Xs w (((w.alloc (.cells #[.int .i64 0, .int .i64 0, .slice none 0 0] 28)).alloc (.cells #[] 55)).alloc (.cells #[.int .i64 num, .int .i64 til, .slice (some ⟨w.heap.size + 1, 0, none⟩) 0 0] 28)) (w.heap.size + 1 + 1) w.heap.size num til (.slice (some ⟨w.heap.size + 1, 0, none⟩) 0 0) [] := by
  have b3 : ∀ o1 o2 o3 : Obj, Below w.heap.size w (((w.alloc o1).alloc o2).alloc o3) := fun o1 o2 o3 =>
    (((Below.refl _ _).alloc (Nat.le_refl _) _).alloc (by rw [sz1]; omega) _).alloc (by rw [sz1, sz1]; omega) _
  refine ⟨?_, ?_, by omega, Nat.le_refl _, by omega, ⟨rfl, .inr ⟨w.heap.size + 1, 0, #[], rfl, by omega, ?_, by exact Nat.le_refl _, by unfold maxLen; omega, rfl, rfl⟩⟩, b3 _ _ _⟩
  · rw [at_new _ _ _ (by rw [sz1, sz1])]
  · rw [at_old _ _ _ (by rw [sz1, sz1]; omega), at_old _ _ _ (by rw [sz1]; omega), at_new _ _ _ rfl]
  · rw [at_old _ _ _ (by rw [sz1, sz1]; omega), at_new _ _ _ (by rw [sz1])]
end

set_option maxHeartbeats 4000000 in
set_option maxRecDepth 100000 in
theorem indexOf_any {N : Nat → Prop} (w : World) (num til : Int) (pv : Value) (l : List Ix.Pg) (h : Pks N w pv l) :
    Calls Tryz.prog 82 #[.int .i64 num, .int .i64 til, pv] w fun e w' => ∃ mv, e = .returned (.tuple #[.agg #[.int .i64 (Ix.ofD num til l).1, .int .i64 (Ix.ofD num til l).2.1, mv], .bool (Ix.ofOk num til l)]) ∧ w'.ownsRow w.heap.size 55 3 mv (Ix.ofD num til l).2.2.length (flat3 (Ix.ofD num til l).2.2) ∧ Below w.heap.size w w' := by
  obtain ⟨i0, hI0, hz0, hz1, hz2⟩ := info_parts infoMeta
  obtain ⟨a, cap, hv⟩ := h.slice
  subst hv
  have HX := hide (Xs.start w num til)
  have HP := hide (h.later (unhide HX).bel)
  have H0 := hide h
  clear h
  have hs0 : w.heap.size < w.heap.size + 1 + 1 := by omega
  cases hA : Ix.pkgsOk l
  · go_enter Tryz.func82, Tryz.ntmps82
    go_wp2_with fail
    refine (l3Pkgs_any _ _ l (unhide HP)).mono ?_
    generalize World.alloc _ _ = W0 at *
    rw [hA]
    rintro e w1 ⟨rfl, b1⟩
    have HX1 := hide ((unhide HX).later b1)
    clear b1 HX HP
    have r0 := cellOf (unhide HX1).hR 0
    have r1 := cellOf (unhide HX1).hR 1
    have r2 := cellOf (unhide HX1).hR 2
    have s0 := frozenOf (unhide HX1).hR 0
    have s1 := frozenOf (unhide HX1).hR 1
    have s2 := frozenOf (unhide HX1).hR 2
    go_wp2
    obtain ⟨⟨q0, q1, q2⟩, hbel, _⟩ := fin3 (a := .int .i64 0) (b := .int .i64 0) (c := .slice none 0 0) (unhide HX1).hR (unhide HX1).lR (unhide HX1).bel rfl
    have hno : Ix.ofOk num til l = false := by unfold Ix.ofOk; rw [hA]; rfl
    have hD : Ix.ofD num til l = (0, 0, []) := by unfold Ix.ofD; rw [hno]; rfl
    exact bodyPost_ret (v := .tuple #[.agg #[.int .i64 0, .int .i64 0, .slice none 0 0], .bool false]) (by simp [results, Tryz.results82, go_sem, q0, q1, q2]) rfl ⟨.slice none 0 0, by rw [hD, hno], by rw [hD]; exact World.ownsRow_nil _ _ _ _, hbel⟩
  have hgood := Ix.pkgsOk_at hA
  have HG := hide hgood
  clear hgood
  go_enter Tryz.func82, Tryz.ntmps82
  go_wp2_with fail
  refine (l3Pkgs_any _ _ l (unhide HP)).mono ?_
  generalize World.alloc _ _ = W0 at *
  rw [hA]
  rintro e w1 ⟨rfl, b1⟩
  have HX1 := hide ((unhide HX).later b1)
  have HP1 := hide ((unhide HP).later b1)
  clear b1 HX HP
  clear W0
  go_wp2_with fail
  go_loopw [9] (fun i w' => ∃ (k : Nat) (mv : Value), k ≤ l.length ∧ i = .int .i64 k ∧ Xs w w' (w.heap.size + 1 + 1) w.heap.size num til mv ((l.take k).map Ix.metaP)) (fun i _ => l.length - (intOf i).toNat)
  case atStart => exact ⟨0, _, Nat.zero_le _, rfl, unhide HX1⟩
  case round =>
    obtain ⟨k, mv, hk, rfl, hx⟩ := hrel
    clear HX1 HP1
    have HX := hide hx
    clear hx
    have hmsl : ((l.take k).map Ix.metaP).length = k := by rw [List.length_map, List.length_take]; omega
    by_cases hlt : k < l.length
    · obtain ⟨a', cap', e1, hlen, hrow⟩ := unhide H0
      injection e1 with e1 _ e3
      subst e1 e3
      obtain ⟨b, off, rfl, hb, hNb, hc⟩ := hrow (by omega)
      obtain ⟨fv, dv, hAt, hf, hd⟩ := hc k hlt
      have hgk := unhide HG k hlt
      obtain ⟨nm, vr, fs, ds, hpk⟩ : ∃ nm vr fs ds, Ix.pg l k = (nm, vr, fs, ds) := ⟨_, _, _, _, rfl⟩
      rw [hpk] at hAt hf hd
      dsimp only at hf hd
      have HF := hide (hf.prs.later (unhide HX).bel)
      have HD := hide (hd.prs.later (unhide HX).bel)
      have hbw : b < wr.heap.size := Nat.lt_of_lt_of_le hb (unhide HX).bel.size
      obtain ⟨c0, c1, c2, c3⟩ := hAt.keep ((unhide HX).bel.block b hb)
      dsimp only at c0 c1
      obtain ⟨fa, fc, hfv⟩ := hf.slice
      obtain ⟨da, dc, hdv⟩ := hd.slice
      subst hfv hdv
      have hi0 : (0 : Int) ≤ (k : Int) := Int.natCast_nonneg _
      have hi1 : (k : Int) < (l.length : Int) := by omega
      have HMS := hide hmsl
      have hneX : b ≠ w.heap.size + 1 + 1 := by omega
      have hmp : Ix.metaP (Ix.pg l k) = (nm, vr, Sm.sum (Pk.text nm vr fs ds)) := by rw [hpk]; rfl
      have HMP := hide hmp
      have htk := Ix.take_pg l k hlt
      have HTK := hide htk
      clear hc hrow hAt hf hd hpk hgk hmsl hmp htk
      obtain ⟨ms, hms⟩ : ∃ ms, ms = (l.take k).map Ix.metaP := ⟨_, rfl⟩
      rw [← hms] at HX HMS
      have HME := hide hms
      clear hms
      obtain ⟨s, hs⟩ : ∃ s : ByteArray, s = ⟨(Pk.text nm vr fs ds).toArray⟩ := ⟨_, rfl⟩
      have hsz : s.size ≤ maxLen := by rw [hs]; have := Pk.text_len nm vr fs ds; unfold maxLen; show (Pk.text nm vr fs ds).toArray.size ≤ _; simp; omega
      have hsum : Sm.sum s.data.toList = Sm.sum (Pk.text nm vr fs ds) := by rw [hs]
      have HSM := hide hsum
      have HS := hide hs
      clear hs hsum
      have cX := cellOf (unhide HX).hX 2
      have hkeep : ∀ w1 w' : World, wr.heap.size ≤ w1.heap.size → Below w1.heap.size w1 w' → (w1.cell? ⟨w.heap.size + 1 + 1, 2, none⟩ = some mv ∧ w1.cell? ⟨b, off + k * 4, none⟩ = some (.int .i64 nm) ∧ w1.cell? ⟨b, off + k * 4 + 1, none⟩ = some (.int .i64 vr) ∧ w1.cell? ⟨b, off + k * 4 + 2, none⟩ = some (.slice fa fs.length fc) ∧ w1.cell? ⟨b, off + k * 4 + 3, none⟩ = some (.slice da ds.length dc)) → (w'.cell? ⟨w.heap.size + 1 + 1, 2, none⟩ = some mv ∧ w'.cell? ⟨b, off + k * 4, none⟩ = some (.int .i64 nm) ∧ w'.cell? ⟨b, off + k * 4 + 1, none⟩ = some (.int .i64 vr) ∧ w'.cell? ⟨b, off + k * 4 + 2, none⟩ = some (.slice fa fs.length fc) ∧ w'.cell? ⟨b, off + k * 4 + 3, none⟩ = some (.slice da ds.length dc)) := fun w1 w' hs hb2 h1 => by
        have hx := heapLt (unhide HX).hX
        exact ⟨(hb2.cell (Nat.lt_of_lt_of_le hx hs)).trans h1.1, (hb2.cell (Nat.lt_of_lt_of_le hbw hs)).trans h1.2.1, (hb2.cell (Nat.lt_of_lt_of_le hbw hs)).trans h1.2.2.1, (hb2.cell (Nat.lt_of_lt_of_le hbw hs)).trans h1.2.2.2.1, (hb2.cell (Nat.lt_of_lt_of_le hbw hs)).trans h1.2.2.2.2⟩
      have HK := hide hkeep
      clear hkeep
      go_wp2_with fail
      refine wl_region (S := fun w' => w'.cell? ⟨w.heap.size + 1 + 1, 2, none⟩ = some mv ∧ w'.cell? ⟨b, off + k * 4, none⟩ = some (.int .i64 nm) ∧ w'.cell? ⟨b, off + k * 4 + 1, none⟩ = some (.int .i64 vr) ∧ w'.cell? ⟨b, off + k * 4 + 2, none⟩ = some (.slice fa fs.length fc) ∧ w'.cell? ⟨b, off + k * 4 + 3, none⟩ = some (.slice da ds.length dc)) (s := 22) (by kernel_rfl) ⟨cX, c0, c1, c2, c3⟩ (fun hHeld => ?_)
      clear c0 c1 c2 c3 cX
      refine wl_take (i := 0) (d := some 24) rfl rfl (by kernel_rfl) (by kernel_rfl) (by kernel_rfl) (by kernel_rfl) (by kernel_rfl) (fun _ _ _ h => h) (by rfl) (v := ?_) ?_ (by assumption) ?_
      rotate_left
      · (intro w hSw; (try dsimp only at hSw); go_simp <;> with_reducible rfl)
      simp only [Act.put, List.setIfInBounds_toArray, List.set_cons_zero, List.set_cons_succ]
      refine wl_take (i := 1) (d := some 25) rfl rfl (by kernel_rfl) (by kernel_rfl) (by kernel_rfl) (by kernel_rfl) (by kernel_rfl) (fun _ _ _ h => h) (by rfl) (v := ?_) ?_ (by assumption) ?_
      rotate_left
      · (intro w hSw; (try dsimp only at hSw); go_simp <;> with_reducible rfl)
      simp only [Act.put, List.setIfInBounds_toArray, List.set_cons_zero, List.set_cons_succ]
      refine wl_take (i := 2) (d := some 26) rfl rfl (by kernel_rfl) (by kernel_rfl) (by kernel_rfl) (by kernel_rfl) (by kernel_rfl) (fun _ _ _ h => h) (by rfl) (fun w _ => run_move rfl rfl w) (by assumption) ?_
      simp only [Act.put, List.setIfInBounds_toArray, List.set_cons_zero, List.set_cons_succ, List.getElem_toArray, List.getElem_cons_zero, List.getElem_cons_succ]
      refine wl_take (i := 3) (d := some 27) rfl rfl (by kernel_rfl) (by kernel_rfl) (by kernel_rfl) (by kernel_rfl) (by kernel_rfl) (fun _ _ _ h => h) (by rfl) (fun w _ => run_move rfl rfl w) (by assumption) ?_
      simp only [Act.put, List.setIfInBounds_toArray, List.set_cons_zero, List.set_cons_succ, List.getElem_toArray, List.getElem_cons_zero, List.getElem_cons_succ]
      refine wl_take (i := 4) (d := some 28) rfl rfl (by kernel_rfl) (by kernel_rfl) (by kernel_rfl) (by kernel_rfl) (by kernel_rfl) (fun _ _ _ h => h) (by rfl) (v := ?_) ?_ (by assumption) ?_
      rotate_left
      · (intro w hSw; (try dsimp only at hSw); go_simp <;> with_reducible rfl)
      simp only [Act.put, List.setIfInBounds_toArray, List.set_cons_zero, List.set_cons_succ]
      refine wl_take (i := 5) (d := some 29) rfl rfl (by kernel_rfl) (by kernel_rfl) (by kernel_rfl) (by kernel_rfl) (by kernel_rfl) (fun _ _ _ h => h) (by rfl) (v := ?_) ?_ (by assumption) ?_
      rotate_left
      · (intro w hSw; (try dsimp only at hSw); go_simp <;> with_reducible rfl)
      simp only [Act.put, List.setIfInBounds_toArray, List.set_cons_zero, List.set_cons_succ]
      refine wl_take (i := 6) (d := some 30) rfl rfl (by kernel_rfl) (by kernel_rfl) (by kernel_rfl) (by kernel_rfl) (by kernel_rfl) (fun _ _ _ h => h) (by rfl) (v := ?_) ?_ (by assumption) ?_
      rotate_left
      · (intro w hSw; (try dsimp only at hSw); go_simp <;> with_reducible rfl)
      simp only [Act.put, List.setIfInBounds_toArray, List.set_cons_zero, List.set_cons_succ]
      refine wl_take (i := 7) (d := some 31) rfl rfl (by kernel_rfl) (by kernel_rfl) (by kernel_rfl) (by kernel_rfl) (by kernel_rfl) (fun _ _ _ h => h) (by rfl) (fun w _ => run_move rfl rfl w) (by assumption) ?_
      simp only [Act.put, List.setIfInBounds_toArray, List.set_cons_zero, List.set_cons_succ, List.getElem_toArray, List.getElem_cons_zero, List.getElem_cons_succ]
      refine wl_take (i := 8) (d := some 32) rfl rfl (by kernel_rfl) (by kernel_rfl) (by kernel_rfl) (by kernel_rfl) (by kernel_rfl) (fun _ _ _ h => h) (by rfl) (fun w _ => run_move rfl rfl w) (by assumption) ?_
      simp only [Act.put, List.setIfInBounds_toArray, List.set_cons_zero, List.set_cons_succ, List.getElem_toArray, List.getElem_cons_zero, List.getElem_cons_succ]
      refine wl_take (i := 9) (d := some 33) rfl rfl (by kernel_rfl) (by kernel_rfl) (by kernel_rfl) (by kernel_rfl) (by kernel_rfl) (fun _ _ _ h => h) (by rfl) (v := ?_) ?_ (by assumption) ?_
      rotate_left
      · (intro w hSw; (try dsimp only at hSw); go_simp <;> with_reducible rfl)
      simp only [Act.put, List.setIfInBounds_toArray, List.set_cons_zero, List.set_cons_succ]
      refine wl_take (i := 10) (d := some 34) rfl rfl (by kernel_rfl) (by kernel_rfl) (by kernel_rfl) (by kernel_rfl) (by kernel_rfl) (fun _ _ _ h => h) (by rfl) (v := ?_) ?_ (by assumption) ?_
      rotate_left
      · (intro w hSw; (try dsimp only at hSw); go_simp <;> with_reducible rfl)
      simp only [Act.put, List.setIfInBounds_toArray, List.set_cons_zero, List.set_cons_succ]
      refine wl_take (i := 11) (d := some 35) rfl rfl (by kernel_rfl) (by kernel_rfl) (by kernel_rfl) (by kernel_rfl) (by kernel_rfl) (fun _ _ _ h => h) (by rfl) (v := ?_) ?_ (by assumption) ?_
      rotate_left
      · (intro w hSw; (try dsimp only at hSw); go_simp <;> with_reducible rfl)
      simp only [Act.put, List.setIfInBounds_toArray, List.set_cons_zero, List.set_cons_succ]
      refine wl_take (i := 12) (d := some 36) rfl rfl (by kernel_rfl) (by kernel_rfl) (by kernel_rfl) (by kernel_rfl) (by kernel_rfl) (fun _ _ _ h => h) (by rfl) (fun w _ => run_move rfl rfl w) (by assumption) ?_
      simp only [Act.put, List.setIfInBounds_toArray, List.set_cons_zero, List.set_cons_succ, List.getElem_toArray, List.getElem_cons_zero, List.getElem_cons_succ]
      refine wl_take (i := 13) (d := some 37) rfl rfl (by kernel_rfl) (by kernel_rfl) (by kernel_rfl) (by kernel_rfl) (by kernel_rfl) (fun _ _ _ h => h) (by rfl) (fun w _ => run_move rfl rfl w) (by assumption) ?_
      simp only [Act.put, List.setIfInBounds_toArray, List.set_cons_zero, List.set_cons_succ, List.getElem_toArray, List.getElem_cons_zero, List.getElem_cons_succ]
      refine wl_take (i := 14) (d := some 38) rfl rfl (by kernel_rfl) (by kernel_rfl) (by kernel_rfl) (by kernel_rfl) (by kernel_rfl) (fun _ _ _ h => h) (by rfl) (v := ?_) ?_ (by assumption) ?_
      rotate_left
      · (intro w hSw; (try dsimp only at hSw); go_simp <;> with_reducible rfl)
      simp only [Act.put, List.setIfInBounds_toArray, List.set_cons_zero, List.set_cons_succ]
      refine wl_take (i := 15) (d := some 39) rfl rfl (by kernel_rfl) (by kernel_rfl) (by kernel_rfl) (by kernel_rfl) (by kernel_rfl) (fun _ _ _ h => h) (by rfl) (v := ?_) ?_ (by assumption) ?_
      rotate_left
      · (intro w hSw; (try dsimp only at hSw); go_simp <;> with_reducible rfl)
      simp only [Act.put, List.setIfInBounds_toArray, List.set_cons_zero, List.set_cons_succ]
      refine wl_one (i := 16) (by kernel_rfl) rfl (by rfl) (fun K hK => ?_)
      go_simp
      refine (pkgText_any _ nm vr _ _ fs ds (by exact (unhide HF).later (below_drew wr)) (by exact (unhide HD).later (below_drew wr))).mono ?_
      rw [← unhide HS]
      rintro e w3 ⟨rfl, b3⟩
      have hH3 := unhide HK _ w3 (by exact Nat.le_refl _) b3 hHeld
      have HB3 : Hid (Below wr.heap.size wr w3) := (below_drew wr).trans (b3.mono (by exact Nat.le_refl _))
      clear hHeld b3
      go_wp2_with fail
      refine hK.out _ _ (fun _ => (by assumption)) ?_
      clear hK K
      try simp only [Act.put, List.setIfInBounds_toArray, List.set_cons_zero, List.set_cons_succ]
      refine wl_one (i := 17) (by kernel_rfl) rfl (by rfl) (fun K hK => ?_)
      go_simp
      refine (specSum_any s _ hsz).mono ?_
      rintro e w4 ⟨rfl, rfl⟩
      rw [unhide HSM]
      go_wp2_with fail
      refine hK.out _ _ (fun _ => (by assumption)) ?_
      clear hK K
      try simp only [Act.put, List.setIfInBounds_toArray, List.set_cons_zero, List.set_cons_succ]
      refine wl_take (i := 18) (d := some 42) rfl rfl (by kernel_rfl) (by kernel_rfl) (by kernel_rfl) (by kernel_rfl) (by kernel_rfl) (fun _ _ _ h => h) (by rfl) (v := ?_) ?_ (by assumption) ?_
      rotate_left
      · (intro w hSw; (try dsimp only at hSw); go_simp <;> with_reducible rfl)
      simp only [Act.put, List.setIfInBounds_toArray, List.set_cons_zero, List.set_cons_succ]
      refine wl_one (i := 19) (by kernel_rfl) rfl (by rfl) (fun K hK => ?_)
      go_simp
      have hX4 := (unhide HX).later (unhide HB3)
      have hsz4 : w.heap.size ≤ w4.heap.size := hX4.bel.size
      have hX5 := hide (hX4.alloc (.cells #[.int .i64 nm, .int .i64 vr, .int .i64 (Sm.sum (Pk.text nm vr fs ds))] 55))
      have hH5 := unhide HK _ (w4.alloc (.cells #[.int .i64 nm, .int .i64 vr, .int .i64 (Sm.sum (Pk.text nm vr fs ds))] 55)) (unhide HB3).size (below1 _ _) hH3
      have hnw := World.news_of_block (cs := #[.int .i64 nm, .int .i64 vr, .int .i64 (Sm.sum (Pk.text nm vr fs ds))]) (t := 55) (fr := (0, 0)) (heap_alloc_new w4 (.cells #[.int .i64 nm, .int .i64 vr, .int .i64 (Sm.sum (Pk.text nm vr fs ds))] 55))
      clear hX4 hH3 HB3
      refine hK.out _ _ (fun _ => (by assumption)) ?_
      clear hK K
      try simp only [Act.put, List.setIfInBounds_toArray, List.set_cons_zero, List.set_cons_succ]
      refine wl_one (i := 20) (by kernel_rfl) rfl (by rfl) (fun K hK => ?_)
      have hmk : ms.length ≤ 1000000000 := by rw [unhide HMS]; omega
      refine wp_append_lies _ _ _ _ (by rfl) w.heap.size 55 i0 _ 3 24 Tryz.underlying26 hI0 hz0 hz1 hz2 rfl (by omega) mv ms.length (flat3 ms) (by rfl) (unhide hX5).own
        ⟨w4.heap.size, 0, none⟩ 1 1 [.int .i64 nm, .int .i64 vr, .int .i64 (Sm.sum (Pk.text nm vr fs ds))] (by rfl) (by rfl) hnw (by simp [Value.oneCell']) (by omega) (by unfold maxLen; omega) (by omega) (unhide hX5).bel.size (w4.heap.size + 1) (by simp) ?_
      intro gg gcap w6 hown hgrow hat hlt6
      have hX6 := (grown_other (unhide hX5).own hgrow (unhide hX5).hX (by decide)).trans (unhide hX5).hX
      have hbk : ∀ o, w6.cell? ⟨b, o, none⟩ = (w4.alloc (.cells #[.int .i64 nm, .int .i64 vr, .int .i64 (Sm.sum (Pk.text nm vr fs ds))] 55)).cell? ⟨b, o, none⟩ := fun o => World.cell?_of_block (hgrow.block b (by have := (unhide hX5).bel.size; omega) (fun e => by have := (own_row (unhide hX5).own b e.symm).1; omega))
      have hH6 : w6.cell? ⟨w.heap.size + 1 + 1, 2, none⟩ = some mv ∧ w6.cell? ⟨b, off + k * 4, none⟩ = some (.int .i64 nm) ∧ w6.cell? ⟨b, off + k * 4 + 1, none⟩ = some (.int .i64 vr) ∧ w6.cell? ⟨b, off + k * 4 + 2, none⟩ = some (.slice fa fs.length fc) ∧ w6.cell? ⟨b, off + k * 4 + 3, none⟩ = some (.slice da ds.length dc) := ⟨cellOf hX6 2, (hbk _).trans hH5.2.1, (hbk _).trans hH5.2.2.1, (hbk _).trans hH5.2.2.2.1, (hbk _).trans hH5.2.2.2.2⟩
      have HY := hide (Xs.app (x := (nm, vr, Sm.sum (Pk.text nm vr fs ds))) (unhide hX5) hgrow hown)
      have fX := frozenOf hX6 2
      clear hbk hH5 hX5 hgrow hown hat hnw hX6
      change K (Act.put _ (some 44) _) _
      refine hK.out _ _ (fun _ => (by assumption)) ?_
      clear hK K
      try simp only [Act.put, List.setIfInBounds_toArray, List.set_cons_zero, List.set_cons_succ]
      refine wl_take (i := 21) (d := some 45) rfl rfl (by kernel_rfl) (by kernel_rfl) (by kernel_rfl) (by kernel_rfl) (by kernel_rfl) (fun _ _ _ h => h) (by rfl) (v := ?_) ?_ (by assumption) ?_
      rotate_left
      · (intro w hSw; (try dsimp only at hSw); go_simp <;> with_reducible rfl)
      simp only [Act.put, List.setIfInBounds_toArray, List.set_cons_zero, List.set_cons_succ]
      refine wl_one (i := 22) (by kernel_rfl) rfl (by rfl) (fun K hK => ?_)
      go_simp
      generalize w6.setCell _ _ = w7 at *
      refine hK.out _ _ (fun h => absurd rfl h) ?_
      clear hK K
      refine wl_done (by kernel_rfl) ?_
      clear hH6 fX
      go_wp2
      go_roundw
      case rel => exact ⟨k + 1, _, by omega, by go_num, by rw [unhide HTK, List.map_append, List.map_cons, List.map_nil, unhide HMP, ← unhide HME]; exact unhide HY⟩
      case measure => simp [intOf]; omega
    · obtain rfl : k = l.length := by omega
      rw [List.take_of_length_le (Nat.le_refl _)] at HX
      have hml : (l.map Ix.metaP).length = l.length := List.length_map _
      have hl9 : l.length ≤ 1000000000 := by obtain ⟨_, _, _, h, _⟩ := unhide H0; exact h
      obtain ⟨ma, mc, hmv⟩ := own_formS (unhide HX).own
      rw [hml] at hmv
      have c0 := cellOf (unhide HX).hX 0
      have c1 := cellOf (unhide HX).hX 1
      have c2 := cellOf (unhide HX).hX 2
      subst hmv
      have hof : Ix.ofOk num til l = Ix.idxOk num til (l.map Ix.metaP) := by unfold Ix.ofOk; rw [hA, Bool.true_and]
      have cI : ∀ w', Below wr.heap.size wr w' → Calls Tryz.prog 48 #[.agg #[.int .i64 num, .int .i64 til, .slice ma l.length mc]] w' fun e w3 => e = .returned (.bool (Ix.ofOk num til l)) ∧ Below w'.heap.size w' w3 := fun w' hw' => by
        rw [hof]
        exact indexOk_any _ num til _ (l.map Ix.metaP) ((Trs.own (unhide HX).own (by omega)).later hw')
      have CI := hide cI
      have HOF := hide hof
      clear cI hof hml hl9
      go_wp2_with fail
      refine (unhide CI wr (Below.refl _ _)).mono ?_
      rintro e w3 ⟨rfl, b3⟩
      have HX3 := hide ((unhide HX).later b3)
      clear CI
      clear b3 HX c0 c1 c2
      have c0 := cellOf (unhide HX3).hX 0
      have c1 := cellOf (unhide HX3).hX 1
      have c2 := cellOf (unhide HX3).hX 2
      have r0 := cellOf (unhide HX3).hR 0
      have r1 := cellOf (unhide HX3).hR 1
      have r2 := cellOf (unhide HX3).hR 2
      have s0 := frozenOf (unhide HX3).hR 0
      have s1 := frozenOf (unhide HX3).hR 1
      have s2 := frozenOf (unhide HX3).hR 2
      cases hO : Ix.ofOk num til l
      · have hD : Ix.ofD num til l = (0, 0, []) := by unfold Ix.ofD; rw [hO]; rfl
        have HDD := hide hD
        clear hD
        go_wp2
        obtain ⟨⟨q0, q1, q2⟩, hbel, _⟩ := fin3 (a := .int .i64 0) (b := .int .i64 0) (c := .slice none 0 0) (unhide HX3).hR (unhide HX3).lR (unhide HX3).bel rfl
        exact bodyPost_ret (v := .tuple #[.agg #[.int .i64 0, .int .i64 0, .slice none 0 0], .bool false]) (by simp [results, Tryz.results82, go_sem, q0, q1, q2]) rfl ⟨.slice none 0 0, by rw [unhide HDD, hO], by rw [unhide HDD]; exact World.ownsRow_nil _ _ _ _, hbel⟩
      · have hD : Ix.ofD num til l = (num, til, l.map Ix.metaP) := by unfold Ix.ofD; rw [hO]; rfl
        have HDD := hide hD
        clear hD
        go_wp2
        obtain ⟨⟨q0, q1, q2⟩, hbel, hfar⟩ := fin3 (a := .int .i64 num) (b := .int .i64 til) (c := .slice ma l.length mc) (unhide HX3).hR (unhide HX3).lR (unhide HX3).bel rfl
        exact bodyPost_ret (v := .tuple #[.agg #[.int .i64 num, .int .i64 til, .slice ma l.length mc], .bool true]) (by simp [results, Tryz.results82, go_sem, q0, q1, q2]) rfl ⟨_, by rw [unhide HDD, hO], by rw [unhide HDD]; exact own_keepS (unhide HX3).own (fun g cur e _ hg => hfar g (fun e2 => own_ne (unhide HX3).own (unhide HX3).hR (by decide) (by rw [e, e2]))), hbel⟩
end Go.Proofs.YtlnieobmhofkdaaGreatDoor
