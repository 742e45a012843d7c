import Derived.Test.YtkhanndmbpemfaaGreatDoorMix7
import Derived.Test.YtkhanndmbpemfaaGreatDoorMix4
import Derived.Laws.MakeOwn
import Derived.Test.YtkhanndmbpemfaaGreatDoorMix2
import Derived.Test.YtkhanndmbpemfaaGreatDoorShelf
import Derived.Laws.CopyRow
import Derived.Test.YtkhanndmbpemfaaGreatDoorMix3
import Derived.Deep.CutRange
/- What spec.PlanOk returns: whether packages can be in together; for every row of packages that can be read. -/
namespace Go.Proofs.YtkhanndmbpemfaaGreatDoor
open Go.RowKit

attribute [local go_sem ↓] Go.wp_at_zero Go.wp_at_succ

set_option maxHeartbeats 8000000 in
set_option maxRecDepth 100000 in
theorem specPlanOk_any {N : Nat → Prop} (w : World) (v : Value) (l : List Ix.Pg) (h : Pks N w v l) :
    Calls Tryz.prog 55 #[v] w fun e w' => e = .returned (.bool (Ix.planOk l)) ∧ Below w.heap.size w w' := by
  have HP := hide h
  obtain ⟨a, cap, rfl, hlen, hrow⟩ := h
  go_enter Tryz.func55, Tryz.ntmps55
  go_wp2_with fail
  refine (specStoreOk_any _ _ l (unhide HP)).mono ?_
  rintro e w1 ⟨rfl, b1⟩
  have B1 := hide b1
  clear b1
  cases hk : Ix.pkgsOk l
  · go_wp2
    go_ret
    exact ⟨ret_bool (Ix.planOk_bad hk).symm, unhide B1⟩
  have HOK := hide hk
  clear hk
  go_wp2_with fail
  refine (l13One_any _ _ l ((unhide HP).later (unhide B1))).mono ?_
  rintro e w2 ⟨⟨rfl, hone⟩ | ⟨rfl, j, hj, hle⟩, b2⟩
  rotate_left
  · have B2 := hide ((unhide B1).trans (b2.mono (unhide B1).size))
    have hbad : Ix.planOk l = false := by
      refine Ix.planOk_false hj (fun hn => ?_)
      rcases (Ix.besideL_nil (unhide HOK) hj).1 (Ix.linesAt_nil.1 hn).1 with h | h
      · omega
      · rw [Nat.add_sub_cancel] at h
        omega
    have HB := hide hbad
    clear b2 hbad hle
    go_wp2
    go_ret
    exact ⟨ret_bool (unhide HB).symm, unhide B2⟩
  have B2 := hide ((unhide B1).trans (b2.mono (unhide B1).size))
  have HONE := hide hone
  clear b2 hone B1
  go_wp2_with fail
  go_loopw [3] (fun i w' => ∃ k : Nat, k ≤ l.length ∧ i = .int .i64 k ∧ Below w.heap.size w w' ∧ ∀ j, j < k → Ix.linesAt l j = []) (fun i _ => l.length - (intOf i).toNat)
  case atStart => exact ⟨0, Nat.zero_le _, rfl, unhide B2, fun j hj => by omega⟩
  case round =>
    clear B2
    obtain ⟨k, hk, rfl, hw, hall⟩ := hrel
    have HW0 := hide hw
    have HA := hide hall
    clear hw hall
    by_cases hlt : k < l.length
    · obtain ⟨b, off, rfl, hb, _, hc⟩ := hrow (by omega)
      obtain ⟨fv, dv, hAt, hf, hd⟩ := hc k hlt
      clear hc hrow
      have hbn : Ix.besideL l k = [] := (Ix.besideL_nil (unhide HOK) hlt).2 (by
        rcases Nat.eq_zero_or_pos k with h | h
        · exact .inl h
        · obtain ⟨m, rfl⟩ : ∃ m, k = m + 1 := ⟨k - 1, by omega⟩
          exact .inr (unhide HONE m hlt))
      have HBN := hide hbn
      have hlens := Ix.pOk_lens (Ix.pkgs_pOk (unhide HOK) hlt)
      obtain ⟨nm, vr, fs, ds, hpk⟩ : ∃ nm vr fs ds, Ix.pg l k = (nm, vr, fs, ds) := ⟨_, _, _, _, rfl⟩
      have HPK := hide hpk
      rw [hpk] at hAt hf hd hlens
      dsimp only at hf hd hlens
      obtain ⟨hlf, hld⟩ := hlens
      obtain ⟨fa, fc, hfv, _, hfr⟩ := hf
      obtain ⟨da, dc, hdv, _, hdr⟩ := hd
      subst hfv hdv
      have hi0 : (0 : Int) ≤ (k : Int) := Int.natCast_nonneg _
      have hi1 : (k : Int) < (l.length : Int) := by omega
      have er : IntKind.i64.wrap ((k : Int) + 1) = (k : Int) + 1 := by simp [IntKind.wrap, IntKind.bits, IntKind.signed]; omega
      have hAw : Hid (∀ w', Below w.heap.size w w' → w'.cell? ⟨b, off + k * 4 + 2, none⟩ = some (.slice fa fs.length fc) ∧ w'.cell? ⟨b, off + k * 4 + 3, none⟩ = some (.slice da ds.length dc)) := fun w' hb2 => ⟨(hAt.keep (hb2.block b hb)).2.2.1, (hAt.keep (hb2.block b hb)).2.2.2⟩
      clear hAt hpk hbn
      go_wp2_with fail
      go_loopw [4] (fun jv w' => ∃ m : Nat, m ≤ ds.length ∧ jv = .int .i64 m ∧ Below w.heap.size w w' ∧ ∀ j, j < m → Ix.lackL l (nm, vr, fs, ds) (Pk.fst ds j, Pk.snd ds j) = []) (fun jv _ => ds.length - (intOf jv).toNat)
      case atStart => exact ⟨0, Nat.zero_le _, rfl, unhide HW0, fun j hj => by omega⟩
      case round =>
        clear HW0
        obtain ⟨m, hm, rfl, hw, hnd⟩ := hrel
        have HW := hide hw
        have HND := hide hnd
        clear hw hnd
        obtain ⟨c2, c3⟩ := unhide hAw wr (unhide HW)
        by_cases hlt2 : m < ds.length
        · obtain ⟨db, dof, rfl, hdb, _, hdc⟩ := hdr (by omega)
          obtain ⟨d0, d1⟩ := hdc m hlt2
          rw [← (unhide HW).cell hdb] at d0 d1
          have hj0 : (0 : Int) ≤ (m : Int) := Int.natCast_nonneg _
          have hj1 : (m : Int) < (ds.length : Int) := by omega
          have er2 : IntKind.i64.wrap ((m : Int) + 1) = (m : Int) + 1 := by simp [IntKind.wrap, IntKind.bits, IntKind.signed]; omega
          have hmem := (Ix.pair_mem hlt2).1
          have HME := hide hmem
          have hmet := Ix.met_newest (l := l) (d := (Pk.fst ds m, Pk.snd ds m)) (unhide HOK)
          have hlk := Ix.lackL_nil (l := l) (p := (nm, vr, fs, ds)) (d := (Pk.fst ds m, Pk.snd ds m))
          rw [hmet] at hlk
          have HLK := hide hlk
          clear hdc hdr hmem hmet hlk
          go_wp2_with fail
          refine (l13Meets_any _ _ l _ _ ((unhide HP).later (unhide HW))).mono ?_
          rintro e w3 ⟨rfl, b3⟩
          have HW3 := hide ((unhide HW).trans (b3.mono (unhide HW).size))
          clear b3 c2 c3 d0 d1
          cases hq : Ix.newMeets l (Pk.fst ds m, Pk.snd ds m)
          · have hbad : Ix.planOk l = false := Ix.planOk_false hlt (fun hn => by
              have h1 := (Ix.linesAt_nil.1 hn).2.1
              rw [unhide HPK] at h1
              have h2 := (unhide HLK).1 (h1 _ (unhide HME))
              rw [hq] at h2
              cases h2)
            have HB := hide hbad
            clear hbad
            go_wp2
            go_ret
            exact ⟨ret_bool (unhide HB).symm, unhide HW3⟩
          · go_wp2
            go_roundw
            case rel => exact ⟨m + 1, by omega, by go_num, unhide HW3, fun j hj => by
              rcases Nat.lt_or_ge j m with h | h
              · exact unhide HND j h
              · obtain rfl : j = m := by omega
                exact (unhide HLK).2 hq⟩
            case measure => simp [intOf]; omega
        · obtain rfl : m = ds.length := by omega
          clear hlt2 hdr
          go_wp2_with fail
          clear c2 c3
          go_loopw [5] (fun jv w' => ∃ m : Nat, m ≤ fs.length ∧ jv = .int .i64 m ∧ Below w.heap.size w w' ∧ ∀ j, j < m → Ix.placeL l k (nm, vr, fs, ds) (Pk.fst fs j, Pk.snd fs j) = []) (fun jv _ => fs.length - (intOf jv).toNat)
          case atStart => exact ⟨0, Nat.zero_le _, rfl, unhide HW, fun j hj => by omega⟩
          case round =>
            clear HW
            obtain ⟨m, hm, rfl, hw, hnf⟩ := hrel
            have HW := hide hw
            have HNF := hide hnf
            clear hw hnf
            obtain ⟨c2, c3⟩ := unhide hAw wr (unhide HW)
            by_cases hlt3 : m < fs.length
            · obtain ⟨fb, fof, rfl, hfb, _, hfc⟩ := hfr (by omega)
              obtain ⟨d0, d1⟩ := hfc m hlt3
              rw [← (unhide HW).cell hfb] at d0 d1
              have hj0 : (0 : Int) ≤ (m : Int) := Int.natCast_nonneg _
              have hj1 : (m : Int) < (fs.length : Int) := by omega
              have er2 : IntKind.i64.wrap ((m : Int) + 1) = (m : Int) + 1 := by simp [IntKind.wrap, IntKind.bits, IntKind.signed]; omega
              have HME := hide (Ix.pair_mem hlt3).1
              have HPL := hide (Ix.placeL_nil (l := l) (i := k) (p := (nm, vr, fs, ds)) (f := (Pk.fst fs m, Pk.snd fs m)))
              clear hfc hfr
              go_wp2_with fail
              refine (l13Owner_any _ _ l k (Pk.fst fs m) ((unhide HP).later (unhide HW)) hk).mono ?_
              rintro e w3 ⟨⟨n, hn, how, rfl⟩ | ⟨how, rfl⟩, b3⟩
              · have HW3 := hide ((unhide HW).trans (b3.mono (unhide HW).size))
                have hbad : Ix.planOk l = false := Ix.planOk_false hlt (fun hz => by
                  have h1 := (Ix.linesAt_nil.1 hz).2.2
                  rw [unhide HPK] at h1
                  have h2 := (unhide HPL).1 (h1 _ (unhide HME))
                  rw [how] at h2
                  cases h2)
                have HB := hide hbad
                have hge : (0 : Int) ≤ (n : Int) := Int.natCast_nonneg _
                have hge2 : decide ((0 : Int) ≤ (n : Int)) = true := decide_eq_true hge
                clear b3 c2 c3 d0 d1 hbad how
                go_wp2
                go_ret
                exact ⟨ret_bool (unhide HB).symm, unhide HW3⟩
              · have HW3 := hide ((unhide HW).trans (b3.mono (unhide HW).size))
                have HHO := hide how
                clear b3 c2 c3 d0 d1 how
                go_wp2
                go_roundw
                case rel => exact ⟨m + 1, by omega, by go_num, unhide HW3, fun j hj => by
                  rcases Nat.lt_or_ge j m with h | h
                  · exact unhide HNF j h
                  · obtain rfl : j = m := by omega
                    exact (unhide HPL).2 (unhide HHO)⟩
                case measure => simp [intOf]; omega
            · obtain rfl : m = fs.length := by omega
              clear hlt3
              go_wp2
              go_roundw
              case rel => exact ⟨k + 1, by omega, by go_num, unhide HW, fun j hj => by
                rcases Nat.lt_or_ge j k with h | h
                · exact unhide HA j h
                · obtain rfl : j = k := by omega
                  refine Ix.linesAt_nil.2 ⟨unhide HBN, fun d hd => ?_, fun f hf => ?_⟩
                  · rw [unhide HPK] at hd ⊢
                    obtain ⟨i, hi, rfl⟩ := Ix.mem_pair hd
                    exact unhide HND i hi
                  · rw [unhide HPK] at hf ⊢
                    obtain ⟨i, hi, rfl⟩ := Ix.mem_pair hf
                    exact unhide HNF i hi⟩
              case measure => simp [intOf]; omega
    · obtain rfl : k = l.length := by omega
      clear hlt
      go_wp2
      go_ret
      exact ⟨ret_bool (Ix.planOk_true (unhide HOK) (unhide HA)).symm, unhide HW0⟩
end Go.Proofs.YtkhanndmbpemfaaGreatDoor

/- What the laws' own helpers for rows of numbers return: toIntS a copy in memory of its own, eqIntS true of two that read the same, szIntS how much is left. -/
namespace Go.Proofs.YtkhanndmbpemfaaGreatDoor
open Go.RowKit



/-- A new row of n numbers. -/
theorem mk_ints (w : World) (n : Nat) (hn : n ≤ 1048576) :
    ∃ C : Array Value, C.size = n ∧ (Instr.makeSlice 23 (.int .i64 (n : Int)) (.int .i64 (n : Int))).run Tryz.prog w = .ok (.slice (some ⟨w.heap.size, 0, none⟩) n n) (w.alloc (.cells C 3)) := by
  obtain ⟨i, hi0, hz0, hz1, hz2⟩ := info_parts infoI
  have h := run_make (P := Tryz.prog) w 23 3 i (.int .i64 0) Tryz.underlying23 hi0 hz0 .i64 .i64 (n : Int) (n : Int) (by omega) (Int.le_refl _) (by rw [hz2]; omega) (by omega)
  rw [hz1] at h
  simp only [Int.toNat_natCast] at h
  exact ⟨_, by rw [size_madeCells, Nat.mul_one], h⟩

/-- The row that is filled: the first k numbers are there. -/
def FillI (w : World) (g : Nat) (l : List Int) (k : Nat) : Prop :=
  ∃ C : Array Value, w.heap[g]? = some (.cells C 3 (0, 0)) ∧ C.size = l.length ∧ ∀ i, i < k → C[i]? = some (.int .i64 (Ky.nth l i))

theorem FillI.more {w : World} {g : Nat} {l : List Int} {k : Nat} (h : FillI w g l k) (hk : k < l.length) :
    FillI (w.setCell ⟨g, k, none⟩ (.int .i64 (Ky.nth l k))) g l (k + 1) := by
  obtain ⟨C, h1, h2, h3⟩ := h
  refine ⟨_, heapSet h1, by simpa using h2, fun i hi => ?_⟩
  rcases Nat.lt_or_ge i k with hlt | hge
  · rw [Array.getElem?_setIfInBounds_ne (by omega)]
    exact h3 i hlt
  · obtain rfl : i = k := by omega
    rw [Array.getElem?_setIfInBounds_self_of_lt (by omega)]

theorem FillI.keep {w w' : World} {g k : Nat} {l : List Int} (h : FillI w g l k) (hb : w'.heap[g]? = w.heap[g]?) : FillI w' g l k := by
  obtain ⟨C, h1, h2, h3⟩ := h
  exact ⟨C, hb.trans h1, h2, h3⟩
theorem FillI.later {w w' : World} {g k : Nat} {l : List Int} (h : FillI w g l k) (hb : Below w.heap.size w w') : FillI w' g l k := by
  obtain ⟨C, h1, h2, h3⟩ := h
  exact ⟨C, (hb.block g (heapLt h1)).trans h1, h2, h3⟩
theorem FillI.ins {w : World} {g : Nat} {l : List Int} (h : FillI w g l l.length) (hl : l.length ≤ 1048576) : Ins w (.slice (some ⟨g, 0, none⟩) l.length l.length) l := by
  obtain ⟨C, h1, h2, h3⟩ := h
  refine ⟨_, _, rfl, by omega, fun _ => ⟨g, 0, rfl, heapLt h1, fun i hi => ?_⟩⟩
  rw [Nat.zero_add, cellOf h1]
  exact h3 i hi

set_option maxHeartbeats 1000000 in
theorem toIntS_fill (w : World) (v : Value) (l : List Int) (h : Ins w v l) (hl : l.length ≤ 1048576) :
    Calls Tryz.prog 30 #[v] w fun e w' => e = .returned (.slice (some ⟨w.heap.size, 0, none⟩) l.length l.length) ∧ FillI w' w.heap.size l l.length ∧ Below w.heap.size w w' := by
  obtain ⟨a, cap, rfl, _, hrow⟩ := h
  obtain ⟨C, hC, hmk⟩ := mk_ints w l.length hl
  have hl' : (l.length : Int) ≤ 1048576 := by omega
  have HC0 := hide hC
  clear hC
  go_enter Tryz.func30, Tryz.ntmps30
  go_wp2
  go_loopw [4] (fun i w' => ∃ k : Nat, k ≤ l.length ∧ i = .int .i64 k ∧ Below w.heap.size w w' ∧ FillI w' w.heap.size l k) (fun i _ => l.length - (intOf i).toNat)
  case atStart => exact ⟨0, Nat.zero_le _, rfl, (Below.refl _ _).alloc (Nat.le_refl _) _, C, heap_alloc_new w _, unhide HC0, fun i hi => by omega⟩
  case round =>
    obtain ⟨k, hk, rfl, hw, hfill⟩ := hrel
    clear hmk
    by_cases hlt : k < l.length
    · obtain ⟨b, off, rfl, hb, hc⟩ := hrow (by omega)
      have c1 := hc k hlt
      rw [← hw.cell hb] at c1
      have HW := hide hw
      have HF : Hid (FillI _ _ _ _) := hfill
      clear hc hrow hw
      obtain ⟨C', g1, g2, _⟩ := hfill
      have d1 : wr.cell? ⟨w.heap.size, k, none⟩ = some (C'[k]'(by omega)) := by rw [cellOf g1]; exact Array.getElem?_eq_getElem _
      have f1 := frozenOf g1 k
      generalize C'[k]'(by omega) = y1 at d1
      clear g1 g2
      have hi0 : (0 : Int) ≤ (k : Int) := Int.natCast_nonneg _
      have hi1 : (k : Int) < (l.length : Int) := by omega
      go_wp2
      go_roundw
      case rel => exact ⟨k + 1, by omega, by go_num, (unhide HW).setCell (Nat.le_refl _) _, (unhide HF).more hlt⟩
      case measure => simp [intOf]; omega
    · obtain rfl : k = l.length := by omega
      have HW := hide hw
      have HF : Hid (FillI _ _ _ _) := hfill
      clear hw hfill
      go_wp2
      go_ret
      exact ⟨rfl, unhide HF, unhide HW⟩
theorem toIntS_any (w : World) (v : Value) (l : List Int) (h : Ins w v l) (hl : l.length ≤ 1048576) :
    Calls Tryz.prog 30 #[v] w fun e w' => e = .returned (.slice (some ⟨w.heap.size, 0, none⟩) l.length l.length) ∧ Ins w' (.slice (some ⟨w.heap.size, 0, none⟩) l.length l.length) l ∧ Below w.heap.size w w' :=
  (toIntS_fill w v l h hl).mono fun _ _ ⟨h1, h2, h3⟩ => ⟨h1, h2.ins hl, h3⟩

set_option maxHeartbeats 1000000 in
theorem eqIntS_any (w : World) (v v' : Value) (l : List Int) (h : Ins w v l) (h' : Ins w v' l) :
    Calls Tryz.prog 38 #[v, v'] w fun e w' => e = .returned (.bool true) ∧ Below w.heap.size w w' := by
  obtain ⟨a, cap, rfl, hlen, hrow⟩ := h
  obtain ⟨a', cap', rfl, _, hrow'⟩ := h'
  have hne : ((l.length : Int) != (l.length : Int)) = false := by simp
  go_enter Tryz.func38, Tryz.ntmps38
  go_wp2
  go_loopw [5] (fun i w' => ∃ k : Nat, k ≤ l.length ∧ i = .int .i64 k ∧ Below w.heap.size w w') (fun i _ => l.length - (intOf i).toNat)
  case atStart => exact ⟨0, Nat.zero_le _, rfl, Below.refl _ _⟩
  case round =>
    obtain ⟨k, hk, rfl, hw⟩ := hrel
    have HW := hide hw
    by_cases hlt : k < l.length
    · obtain ⟨b, off, rfl, hb, hc⟩ := hrow (by omega)
      obtain ⟨b', off', rfl, hb', hc'⟩ := hrow' (by omega)
      have c1 := hc k hlt
      have d1 := hc' k hlt
      rw [← hw.cell hb] at c1
      rw [← hw.cell hb'] at d1
      clear hc hc' hrow hrow' hw
      have hi0 : (0 : Int) ≤ (k : Int) := Int.natCast_nonneg _
      have hi1 : (k : Int) < (l.length : Int) := by omega
      have hee : (Ky.nth l k != Ky.nth l k) = false := by simp
      go_wp2_with fail
      go_quiet (fail)
      go_wp2
      go_roundw
      case rel => exact ⟨k + 1, by omega, by go_num, below_drewN (unhide HW) _⟩
      case measure => simp [intOf]; omega
    · clear hw
      go_wp2
      go_ret
      exact ⟨rfl, unhide HW⟩

set_option maxHeartbeats 1000000 in
theorem szIntS_any (w : World) (a : Option Addr) (n c : Nat) (left : Int) (h0 : 0 ≤ left) (h1 : left ≤ 1048576) (hn : n ≤ 9223372036854775807) :
    Calls Tryz.prog 23 #[.slice a n c, .int .i64 left] w fun e w' => w' = w ∧ ((n ≤ 1048576 ∧ ∃ r : Int, e = .returned (.int .i64 r) ∧ 0 ≤ r ∧ r ≤ left) ∨ e = .returned (.int .i64 (-1))) := by
  have ew : IntKind.i64.wrap (left - (n : Int)) = left - (n : Int) := by simp [IntKind.wrap, IntKind.bits, IntKind.signed]; omega
  by_cases hlt : left - (n : Int) < 0
  · go_enter Tryz.func23, Tryz.ntmps23
    go_wp2
    go_ret
    exact ⟨rfl, .inr rfl⟩
  · go_enter Tryz.func23, Tryz.ntmps23
    go_wp2
    go_ret
    exact ⟨rfl, .inl ⟨by omega, _, rfl, by omega, by omega⟩⟩
end Go.Proofs.YtkhanndmbpemfaaGreatDoor

/- What slices.Repeat returns of one number, six times: a row of its own. -/
namespace Go.Proofs.YtkhanndmbpemfaaGreatDoor
open Go.RowKit

attribute [local go_sem ↓] Go.wp_at_zero Go.wp_at_succ

section
variable {P : Program}
theorem wp_copy_row (w : World) {o : Oper} {a : Act} {K : Act → World → Prop} {Q : Exit → Act → World → Prop} (d s : Operand) (t : TypeId)
    (ho : o.op = .call { callee := .builtin .copy, args := #[d, s], argTypes := #[t, t] }) (elem : TypeId) (hu : P.underlying t = some (.slice elem)) (hs : (P.info? elem).map (·.size) = some 1)
    (g off dLen dCap : Nat) (b : Addr) (sLen sCap : Nat) (cur : Array Value) (tt : TypeId) (cs : List Value) (hd : a.eval d = .slice (some ⟨g, off, none⟩) dLen dCap) (hx : a.eval s = .slice (some b) sLen sCap)
    (hg : w.heap[g]? = some (.cells cur tt (0, 0))) (hn : cs.length = Nat.min sLen dLen) (hsrc : ∀ j v, cs[j]? = some v → w.cell? (b.add j) = some v) (hfit : off + cs.length ≤ cur.size) (h1 : ∀ v ∈ cs, v.oneCell' = true)
    (h : K (a.put o.dst (goInt cs.length)) (w.setRow g (cur.toList.take off ++ cs ++ cur.toList.drop (off + cs.length)).toArray)) : o.wp P a w K Q := by
  have hr := run_copy_row P w t t o.type elem g off dLen dCap b sLen sCap cur tt cs hu hs hg hn hsrc hfit h1
  unfold Oper.wp execOp
  simp only [ho, resolve, invoke, builtin, Sem.run_bind, Sem.run_pure, Result.andThen_ok, List.map_toArray, List.map_cons, List.map_nil, hd, hx, hr]
  exact h
end
/-- The first n are -1. -/
def Neg (w : World) (g n : Nat) : Prop := ∃ C : Array Value, w.heap[g]? = some (.cells C 3 (0, 0)) ∧ C.size = 6 ∧ ∀ i, i < n → C[i]? = some (.int .i64 (-1))
theorem Neg.copy {w : World} {g n m : Nat} {C : Array Value} (h1 : w.heap[g]? = some (.cells C 3 (0, 0))) (h2 : C.size = 6) (h3 : ∀ i, i < n → C[i]? = some (.int .i64 (-1))) (hm : n + m ≤ 6) :
    Neg (w.setRow g (C.toList.take n ++ List.replicate m (Value.int .i64 (-1)) ++ C.toList.drop (n + m)).toArray) g (n + m) := by
  refine ⟨_, setRow_heap w g C _ 3 _ h1, ?_, fun i hi => ?_⟩
  · simp only [List.size_toArray, List.length_append, List.length_take, List.length_drop, List.length_replicate, Array.length_toList]
    omega
  · have hl : (C.toList.take n).length = n := by rw [List.length_take, Array.length_toList]; omega
    rw [List.getElem?_toArray, List.append_assoc]
    rcases Nat.lt_or_ge i n with h | h
    · rw [List.getElem?_append_left (by omega), List.getElem?_take_of_lt h, Array.getElem?_toList]
      exact h3 i h
    · rw [List.getElem?_append_right (by omega), hl, List.getElem?_append_left (by rw [List.length_replicate]; omega), List.getElem?_replicate, if_pos (by omega)]
theorem infoI6 : (Tryz.prog.info? 3).map (·.size) = some 1 := by kernel_rfl
theorem wp_copyN (w : World) {o : Oper} {a : Act} {K : Act → World → Prop} {Q : Exit → Act → World → Prop} (d s : Operand)
    (ho : o.op = .call { callee := .builtin .copy, args := #[d, s], argTypes := #[23, 23] })
    (g n m dLen dCap : Nat) (b : Nat) (sLen sCap : Nat) (hd : a.eval d = .slice (some ⟨g, n, none⟩) dLen dCap) (hx : a.eval s = .slice (some ⟨b, 0, none⟩) sLen sCap)
    (hneg : Neg w g n) (hn : m = Nat.min sLen dLen) (hsrc : ∀ j, j < m → w.cell? ⟨b, j, none⟩ = some (.int .i64 (-1))) (hfit : n + m ≤ 6)
    (h : ∀ w', Neg w' g (n + m) → w.grownBy w' (some g) → K (a.put o.dst (.int .i64 m)) w') : o.wp Tryz.prog a w K Q := by
  obtain ⟨C, h1, h2, h3⟩ := hneg
  have hl : (List.replicate m (Value.int .i64 (-1))).length = m := List.length_replicate
  refine wp_copy_row w d s _ ho 3 Tryz.underlying23 infoI6 g n dLen dCap ⟨b, 0, none⟩ sLen sCap C 3 (List.replicate m (Value.int .i64 (-1))) hd hx h1 (by rw [hl]; exact hn) (fun j v hv => ?_) (by rw [hl]; omega) (fun v hv => by rw [List.eq_of_mem_replicate hv]; rfl) ?_
  · rw [List.getElem?_replicate] at hv
    split at hv
    · rename_i hj
      have e := Option.some.inj hv
      subst e
      have hadd : (⟨b, 0, none⟩ : Addr).add j = ⟨b, j, none⟩ := by unfold Addr.add; split <;> simp_all
      rw [hadd]
      exact hsrc j hj
    · cases hv
  · rw [hl]
    have e : (goInt m : Value) = .int .i64 (m : Int) := rfl
    rw [e]
    exact h _ (Neg.copy h1 h2 h3 hfit) ⟨rfl, rfl, rfl, by simp, fun k _ hk => setRow_other w g k _ (fun e => hk (by rw [e]))⟩
theorem wpList_copyN (w : World) {ops : Array Oper} {rest : List Oper} {o : Oper} {a : Act} {Q : Exit → Act → World → Prop} (hgd : o.guard = none) (d s : Operand)
    (ho : o.op = .call { callee := .builtin .copy, args := #[d, s], argTypes := #[23, 23] })
    (g n m dLen dCap : Nat) (b : Nat) (sLen sCap : Nat) (hd : a.eval d = .slice (some ⟨g, n, none⟩) dLen dCap) (hx : a.eval s = .slice (some ⟨b, 0, none⟩) sLen sCap)
    (hneg : Neg w g n) (hn : m = Nat.min sLen dLen) (hsrc : ∀ j, j < m → w.cell? ⟨b, j, none⟩ = some (.int .i64 (-1))) (hfit : n + m ≤ 6)
    (h : ∀ w', Neg w' g (n + m) → w.grownBy w' (some g) → wpList Tryz.prog ops Q rest (a.put o.dst (.int .i64 m)) w') : wpList Tryz.prog ops Q (o :: rest) a w :=
  wpList_plain hgd fun _ hK => wp_copyN w d s ho g n m dLen dCap b sLen sCap hd hx hneg hn hsrc hfit fun w' h2 h3 => hK _ _ (h w' h2 h3)
theorem below_grown {B : Nat} {w0 w w' : World} {g : Nat} (h : Below B w0 w) (hg : w.grownBy w' (some g)) (hB : B ≤ g) (hs : B ≤ w.heap.size) : Below B w0 w' :=
  ⟨hg.os.trans h.os, hg.tape.trans h.tape, hg.output.trans h.output, Nat.le_trans h.size hg.size, fun k hk => (hg.block k (by omega) (fun e => by have := Option.some.inj e; omega)).trans (h.block k hk)⟩

end Go.Proofs.YtkhanndmbpemfaaGreatDoor

/- What impl.PlanFiles returns: what is at each place; for every row of packages that can be read. -/
namespace Go.Proofs.YtkhanndmbpemfaaGreatDoor
open Go.RowKit

attribute [local go_sem ↓] Go.wp_at_zero Go.wp_at_succ

def Ix.putF (a : List Int) (fs : List (Int × Int)) : List Int := fs.foldl (fun a f => a.set f.1.toNat f.2) a
def Ix.filesTo (l : List Ix.Pg) (k : Nat) : List Int := (l.take k).foldl (fun a p => Ix.putF a p.2.2.1) (List.replicate 6 (-1))
def Ix.planFiles (l : List Ix.Pg) : List Int := if Ix.planOk l = true then Ix.filesTo l l.length else []
theorem Ix.putF_len (fs : List (Int × Int)) : ∀ a : List Int, (Ix.putF a fs).length = a.length := by
  unfold Ix.putF
  induction fs with
  | nil => intro a; rfl
  | cons f fs ih => intro a; rw [List.foldl_cons, ih, List.length_set]
theorem Ix.filesTo_succ {l : List Ix.Pg} {k : Nat} (hk : k < l.length) : Ix.filesTo l (k + 1) = Ix.putF (Ix.filesTo l k) (Ix.pg l k).2.2.1 := by
  unfold Ix.filesTo
  rw [Ix.take_pgs hk, List.foldl_append]
  rfl
theorem Ix.filesTo_len (l : List Ix.Pg) : ∀ k, k ≤ l.length → (Ix.filesTo l k).length = 6
  | 0, _ => rfl
  | k + 1, hk => by rw [Ix.filesTo_succ hk, Ix.putF_len, Ix.filesTo_len l k (by omega)]
theorem Ix.putF_succ {fs : List (Int × Int)} {m : Nat} (hm : m < fs.length) (a : List Int) : Ix.putF a (fs.take (m + 1)) = (Ix.putF a (fs.take m)).set (Pk.fst fs m).toNat (Pk.snd fs m) := by
  unfold Ix.putF
  rw [List.take_add_one, (Ix.pair_mem hm).2, List.foldl_append]
  rfl
/-- A block of numbers. -/
def IntB (w : World) (g : Nat) (a : List Int) : Prop := w.heap[g]? = some (.cells (a.map (Value.int .i64)).toArray 3 (0, 0))
theorem IntB.keep {w w' : World} {g : Nat} {a : List Int} (h : IntB w g a) (hb : w'.heap[g]? = w.heap[g]?) : IntB w' g a := hb.trans h
theorem IntB.lt {w : World} {g : Nat} {a : List Int} (h : IntB w g a) : g < w.heap.size := heapLt h
theorem IntB.later {w w' : World} {g : Nat} {a : List Int} (h : IntB w g a) (hb : Below w.heap.size w w') : IntB w' g a := h.keep (hb.block g h.lt)
theorem IntB.set {w : World} {g i : Nat} {a : List Int} {x : Int} (h : IntB w g a) : IntB (w.setCell ⟨g, i, none⟩ (.int .i64 x)) g (a.set i x) := by
  unfold IntB at *
  rw [heapSet h]
  congr 2
  apply Array.ext'
  rw [Array.toList_setIfInBounds, List.toList_toArray, List.map_set]
theorem IntB.cell {w : World} {g i : Nat} {a : List Int} (h : IntB w g a) (hi : i < a.length) : ∃ x, w.cell? ⟨g, i, none⟩ = some (.int .i64 x) ∧ w.frozen? ⟨g, i, none⟩ = false := by
  refine ⟨a[i], ?_, frozenOf h i⟩
  rw [cellOf h, List.getElem?_toArray, List.getElem?_map, List.getElem?_eq_getElem hi]
  rfl
theorem IntB.own {w : World} {g B : Nat} {a : List Int} (h : IntB w g a) (hB : B ≤ g) (hl : a.length ≤ 1000000) : OwI B w (.slice (some ⟨g, 0, none⟩) a.length a.length) a := by
  refine ⟨by rw [List.length_map, Nat.mul_one], .inr ⟨g, a.length, _, rfl, hB, h, Nat.le_refl _, by unfold maxLen; omega, ?_, ?_⟩⟩
  · rw [List.size_toArray, List.length_map, Nat.mul_one]
  · rw [List.toList_toArray, Nat.mul_one, List.take_of_length_le (by rw [List.length_map]; exact Nat.le_refl _)]
theorem Neg.intB {w : World} {g : Nat} (h : Neg w g 6) : IntB w g (List.replicate 6 (-1)) := by
  obtain ⟨C, h1, h2, h3⟩ := h
  refine h1.trans ?_
  congr 2
  apply Array.ext'
  apply List.ext_getElem?
  intro j
  rw [List.toList_toArray, List.getElem?_map, Array.getElem?_toList]
  rcases Nat.lt_or_ge j 6 with hj | hj
  · rw [h3 j hj, List.getElem?_replicate, if_pos hj]
    rfl
  · rw [Array.getElem?_eq_none (by omega), List.getElem?_replicate, if_neg (by omega)]
    rfl

end Go.Proofs.YtkhanndmbpemfaaGreatDoor
