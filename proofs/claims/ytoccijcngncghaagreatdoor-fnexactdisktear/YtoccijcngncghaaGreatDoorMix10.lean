import Derived.Test.YtoccijcngncghaaGreatDoorMix9
import Derived.Test.YtoccijcngncghaaGreatDoorMix4
import Derived.Test.YtoccijcngncghaaGreatDoorCopyPW
import Derived.Test.YtoccijcngncghaaGreatDoorFaultsW
/- What spec.StoreNewest returns: the newest of a name, a copy; for every row of packages that can be read. -/
namespace Go.Proofs.YtoccijcngncghaaGreatDoor
open Go.RowKit

/-- What StoreNewest answers. -/
def NewAns (B : Nat) (w : World) (v : Value) (a : Ix.Pg × Bool) : Prop :=
  ∃ fv dv, v = .tuple #[.agg #[.int .i64 a.1.1, .int .i64 a.1.2.1, fv, dv], .bool a.2] ∧ OwP B w fv dv a.1.2.2.1 a.1.2.2.2
theorem NewAns.later {B : Nat} {w w' : World} {v : Value} {a : Ix.Pg × Bool} (h : NewAns B w v a) (hb : Below w.heap.size w w') : NewAns B w' v a := by
  obtain ⟨fv, dv, h1, h2⟩ := h
  exact ⟨fv, dv, h1, h2.later hb⟩
theorem NewAns.base {B B' : Nat} {w : World} {v : Value} {a : Ix.Pg × Bool} (h : NewAns B w v a) (hB : B' ≤ B) : NewAns B' w v a := by
  obtain ⟨fv, dv, h1, h2⟩ := h
  exact ⟨fv, dv, h1, h2.base hB⟩
theorem NewAns.none (B : Nat) (w : World) {l : List Ix.Pg} {n : Int} (h : Ix.newA l n = ((0, 0, [], []), false)) : NewAns B w (.tuple #[.agg #[.int .i64 0, .int .i64 0, .slice none 0 0, .slice none 0 0], .bool false]) (Ix.newA l n) := by
  rw [h]
  exact ⟨_, _, rfl, OwP.zero _ _⟩

set_option maxHeartbeats 4000000 in
set_option maxRecDepth 100000 in
theorem l12Newest_any {N : Nat → Prop} (w : World) (v : Value) (l : List Ix.Pg) (x : Int) (h : Pks N w v l) :
    Calls Tryz.prog 103 #[v, .int .i64 x] w fun e w' => ∃ u, e = .returned u ∧ NewAns w.heap.size w' u (Ix.orNone (Ix.newest l x)) ∧ Below w.heap.size w w' := by
  obtain ⟨a, cap, rfl, hlen, hrow⟩ := h
  have HA0 := hide (And.intro (heap_alloc_new w (.cells #[.int .i64 0, .int .i64 0, .slice none 0 0, .slice none 0 0] 42)) (below1 w (.cells #[.int .i64 0, .int .i64 0, .slice none 0 0, .slice none 0 0] 42)))
  have e0 : IntKind.i64.wrap ((l.length : Int) - 1) = (l.length : Int) - 1 := by simp [IntKind.wrap, IntKind.bits, IntKind.signed]; omega
  go_enter Tryz.func103, Tryz.ntmps103
  go_wp2
  go_loopw [6] (fun i w' => ∃ j : Nat, j ≤ l.length ∧ i = .int .i64 ((j : Int) - 1) ∧ Below w.heap.size w w' ∧ w'.heap[w.heap.size]? = some (.cells #[.int .i64 0, .int .i64 0, .slice none 0 0, .slice none 0 0] 42 (0, 0)) ∧ ∀ m, j ≤ m → m < l.length → (Ix.pg l m).1 ≠ x) (fun i _ => (intOf i + 1).toNat)
  case atStart => exact ⟨l.length, Nat.le_refl _, rfl, (unhide HA0).2, (unhide HA0).1, fun m h1 h2 => by omega⟩
  case round =>
    clear HA0
    obtain ⟨j, hj, rfl, hw, hA, hno⟩ := hrel
    have HW := hide hw
    have HA := hide hA
    have HN := hide hno
    clear hw hA hno
    rcases Nat.eq_zero_or_pos j with hj0 | hpos
    · subst hj0
      have hAx := unhide HA
      have c0 := cellOf hAx 0
      have c1 := cellOf hAx 1
      have c2 := cellOf hAx 2
      have c3 := cellOf hAx 3
      have f0 := frozenOf hAx 0
      have f1 := frozenOf hAx 1
      have f2 := frozenOf hAx 2
      have f3 := frozenOf hAx 3
      clear hAx
      go_wp2
      obtain ⟨⟨q0, q1, q2, q3⟩, hbel, hfar⟩ := fin4 (a := .int .i64 0) (b := .int .i64 0) (c := .slice none 0 0) (d := .slice none 0 0) (W := w) (unhide HA) (Nat.le_refl _) (unhide HW) rfl
      exact bodyPost_ret (v := .tuple #[.agg #[.int .i64 0, .int .i64 0, .slice none 0 0, .slice none 0 0], .bool false]) (by simp [results, Tryz.results103, go_sem, q0, q1, q2, q3]) rfl ⟨_, rfl, by rw [Ix.newest_none (unhide HN)]; exact ⟨_, _, rfl, OwP.zero _ _⟩, hbel⟩
    · obtain ⟨m, rfl⟩ : ∃ m, j = m + 1 := ⟨j - 1, by omega⟩
      obtain ⟨b, off, rfl, hb, _, hc⟩ := hrow (by omega)
      obtain ⟨fv, dv, hAt, hf, hd⟩ := hc m (by omega)
      clear hc hrow
      obtain ⟨nm, vr, fs, ds, hpk⟩ : ∃ nm vr fs ds, Ix.pg l m = (nm, vr, fs, ds) := ⟨_, _, _, _, rfl⟩
      rw [hpk] at hAt hf hd
      dsimp only at hf hd
      obtain ⟨fa, fc, hfv⟩ := hf.slice
      obtain ⟨da, dc, hdv⟩ := hd.slice
      subst hfv hdv
      obtain ⟨c0, c1, c2, c3⟩ := hAt.keep ((unhide HW).block b hb)
      dsimp only at c0 c1 c2 c3
      have hb' : b < wr.heap.size := Nat.lt_of_lt_of_le hb (unhide HW).size
      have ej : ((m + 1 : Nat) : Int) - 1 = (m : Int) := by omega
      have hi0 : (0 : Int) ≤ (m : Int) := Int.natCast_nonneg _
      have hi1 : (m : Int) < (l.length : Int) := by omega
      have HF := hide (And.intro (hf.prs.later (unhide HW)) (hd.prs.later (unhide HW)))
      have HPK := hide hpk
      have ew : IntKind.i64.wrap ((m : Int) - 1) = (m : Int) - 1 := by simp [IntKind.wrap, IntKind.bits, IntKind.signed]; omega
      clear hAt hf hd hpk
      rw [ej]
      clear ej
      by_cases hx : nm = x
      · subst hx
        go_wp2_with fail
        refine (specCopyPkg_any _ nm vr _ _ fs ds (unhide HF).1 (unhide HF).2).mono ?_
        rintro e w2 ⟨fv', dv', rfl, ho, hb2⟩
        obtain ⟨ga, gc, ha, hcc, h1, h2⟩ := ho.forms
        subst h1 h2
        have hA2 := (hb2.block _ (heapLt (unhide HA))).trans (unhide HA)
        have hO2 := ho.base (unhide HW).size
        have hB2 := (unhide HW).trans (hb2.mono (unhide HW).size)
        have r0 := cellOf hA2 0
        have r1 := cellOf hA2 1
        have r2 := cellOf hA2 2
        have r3 := cellOf hA2 3
        have s0 := frozenOf hA2 0
        have s1 := frozenOf hA2 1
        have s2 := frozenOf hA2 2
        have s3 := frozenOf hA2 3
        have HZ := hide (And.intro hA2 (And.intro hO2 hB2))
        clear ho hb2 hA2 hO2 hB2
        go_wp2
        obtain ⟨hR, hO, hB⟩ := unhide HZ
        obtain ⟨⟨q0, q1, q2, q3⟩, hbel, hfar⟩ := fin4 (a := .int .i64 nm) (b := .int .i64 vr) (c := .slice ga fs.length gc) (d := .slice ha ds.length hcc) (W := w) hR (Nat.le_refl _) hB rfl
        have hnew := Ix.newest_at (l := l) (n := nm) (i := m) (by omega) (by rw [unhide HPK]) (unhide HN)
        exact bodyPost_ret (v := .tuple #[.agg #[.int .i64 nm, .int .i64 vr, .slice ga fs.length gc, .slice ha ds.length hcc], .bool true]) (by simp [results, Tryz.results103, go_sem, q0, q1, q2, q3]) rfl ⟨_, rfl, by rw [hnew, unhide HPK]; exact ⟨_, _, rfl, ⟨own_keepS hO.f (fun g _ e _ hg => hfar g (fun e2 => own_ne hO.f hR (by decide) (by rw [e, e2]))), own_keepS hO.d (fun g _ e _ hg => hfar g (fun e2 => own_ne hO.d hR (by decide) (by rw [e, e2])))⟩⟩, hbel⟩
      · have hx' : (nm == x) = false := by simpa using hx
        go_wp2
        go_roundw
        case rel => exact ⟨m, by omega, rfl, unhide HW, unhide HA, fun k h1 h2 => by
          rcases Nat.lt_or_ge m k with h | h
          · exact unhide HN k h h2
          · obtain rfl : k = m := by omega
            rw [unhide HPK]
            exact hx⟩
        case measure => simp [intOf]
/-- What a package's box answers with. -/
theorem newAns_box {W w w' : World} {R : Nat} {a : Ix.Pg × Bool} {r0 r1 r2 r3 fv dv : Value} (hR : w.heap[R]? = some (.cells #[r0, r1, r2, r3] 42 (0, 0))) (lR : W.heap.size ≤ R) (hb : Below W.heap.size W w) (ho : OwP W.heap.size w fv dv a.1.2.2.1 a.1.2.2.2)
    (hw : w' = (((w.setCell ⟨R, 0, none⟩ (.int .i64 a.1.1)).setCell ⟨R, 1, none⟩ (.int .i64 a.1.2.1)).setCell ⟨R, 2, none⟩ fv).setCell ⟨R, 3, none⟩ dv) :
    (w'.cell? ⟨R, 0, none⟩ = some (.int .i64 a.1.1) ∧ w'.cell? ⟨R, 1, none⟩ = some (.int .i64 a.1.2.1) ∧ w'.cell? ⟨R, 2, none⟩ = some fv ∧ w'.cell? ⟨R, 3, none⟩ = some dv) ∧ NewAns W.heap.size w' (.tuple #[.agg #[.int .i64 a.1.1, .int .i64 a.1.2.1, fv, dv], .bool a.2]) a ∧ Below W.heap.size W w' := by
  obtain ⟨q, hbel, hfar⟩ := fin4 hR lR hb hw
  exact ⟨q, ⟨_, _, rfl, ⟨own_keepS ho.f (fun g _ e _ _ => hfar g (fun e2 => own_ne ho.f hR (by decide) (by rw [e, e2]))), own_keepS ho.d (fun g _ e _ _ => hfar g (fun e2 => own_ne ho.d hR (by decide) (by rw [e, e2])))⟩⟩, hbel⟩

end Go.Proofs.YtoccijcngncghaaGreatDoor

/- What both PlanOk return: whether packages can be in together; for every row of packages that can be read. -/
namespace Go.Proofs.YtoccijcngncghaaGreatDoor
open Go.RowKit

set_option maxHeartbeats 2000000 in
set_option maxRecDepth 100000 in
theorem implPlanOk_any {N : Nat → Prop} (w : World) (v : Value) (l : List Ix.Pg) (h : Pks N w v l) (hroom : ∀ a c, v = .slice a l.length c → l.length ≤ c) :
    Calls Tryz.prog 34 #[v] w fun e w' => e = .returned (.bool (Ix.planOk l)) ∧ Below w.heap.size w w' := by
  have H := hide h
  have HR := hide hroom
  obtain ⟨a, cap, hv⟩ := h.slice
  subst hv
  clear h hroom
  go_enter Tryz.func34, Tryz.ntmps34
  go_wp2_with fail
  refine (implStoreOk_any _ _ l (unhide H)).mono ?_
  rintro e w1 ⟨rfl, b1⟩
  have B1 := hide b1
  clear b1
  cases hk : Ix.pkgsOk l
  · go_wp2
    go_ret
    exact ⟨ret_bool (Ix.planOk_bad hk).symm, unhide B1⟩
  · go_wp2_with fail
    refine (faultsOf_any _ _ l ((unhide H).later (unhide B1)) (unhide HR) hk).mono ?_
    rintro e w2 ⟨u, rfl, hs, b2⟩
    obtain ⟨ua, uc, hu⟩ := own_formS hs
    subst hu
    have B2 := hide ((unhide B1).trans (b2.mono (unhide B1).size))
    have hp : Ix.planOk l = decide ((Ix.lines l).length = 0) := by unfold Ix.planOk; rw [hk, Bool.true_and]
    have HPL := hide hp
    clear hs b2 hp
    generalize Ix.lines l = ls at *
    by_cases h0 : ls.length = 0
    · have hq : ((ls.length : Int) == 0) = true := by rw [h0]; rfl
      have H0 := hide h0
      clear h0
      go_wp2
      go_ret
      exact ⟨ret_bool (by rw [unhide HPL, decide_eq_true (unhide H0)]), unhide B2⟩
    · have hq : ((ls.length : Int) == 0) = false := by rw [beq_eq_false_iff_ne]; omega
      go_wp2
      go_ret
      exact ⟨ret_bool (by rw [unhide HPL, decide_eq_false h0]), unhide B2⟩
end Go.Proofs.YtoccijcngncghaaGreatDoor
