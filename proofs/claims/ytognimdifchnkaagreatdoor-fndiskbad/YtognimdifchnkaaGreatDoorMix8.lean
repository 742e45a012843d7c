import Derived.Test.YtognimdifchnkaaGreatDoorMix7
import Derived.Test.YtognimdifchnkaaGreatDoorMix4
import Derived.Laws.MakeOwn
import Derived.Test.YtognimdifchnkaaGreatDoorMix2
import Derived.Test.YtognimdifchnkaaGreatDoorShelf
import Derived.Laws.CopyRow
import Derived.Test.YtognimdifchnkaaGreatDoorMix3
import Derived.Deep.CutRange
import Derived.Test.YtognimdifchnkaaGreatDoorMix1
import Derived.Deep.RegionHeld3
/- What spec.PlanOk returns: whether packages can be in together; for every row of packages that can be read. -/
namespace Go.Proofs.YtognimdifchnkaaGreatDoor
open Go.RowKit

attribute [local go_sem ↓] Go.wp_at_zero Go.wp_at_succ

set_option maxHeartbeats 8000000 in
set_option maxRecDepth 100000 in
theorem specPlanOk_any {N : Nat → Prop} (w : World) (v : Value) (l : List Ix.Pg) (h : Pks N w v l) :
    Calls Tryz.prog 29 #[v] w fun e w' => e = .returned (.bool (Ix.planOk l)) ∧ Below w.heap.size w w' := by
  have HP := hide h
  obtain ⟨a, cap, rfl, hlen, hrow⟩ := h
  go_enter Tryz.func29, Tryz.ntmps29
  go_wp2_with fail
  refine (specStoreOk_any _ _ l (unhide HP)).mono ?_
  rintro e w1 ⟨rfl, b1⟩
  have B1 := hide b1
  clear b1
  cases hk : Ix.pkgsOk l
  · go_wp2
    go_ret
    exact ⟨ret_bool (Ix.planOk_bad hk).symm, unhide B1⟩
  have HOK := hide hk
  clear hk
  go_wp2_with fail
  refine (l13One_any _ _ l ((unhide HP).later (unhide B1))).mono ?_
  rintro e w2 ⟨⟨rfl, hone⟩ | ⟨rfl, j, hj, hle⟩, b2⟩
  rotate_left
  · have B2 := hide ((unhide B1).trans (b2.mono (unhide B1).size))
    have hbad : Ix.planOk l = false := by
      refine Ix.planOk_false hj (fun hn => ?_)
      rcases (Ix.besideL_nil (unhide HOK) hj).1 (Ix.linesAt_nil.1 hn).1 with h | h
      · omega
      · rw [Nat.add_sub_cancel] at h
        omega
    have HB := hide hbad
    clear b2 hbad hle
    go_wp2
    go_ret
    exact ⟨ret_bool (unhide HB).symm, unhide B2⟩
  have B2 := hide ((unhide B1).trans (b2.mono (unhide B1).size))
  have HONE := hide hone
  clear b2 hone B1
  go_wp2_with fail
  go_loopw [3] (fun i w' => ∃ k : Nat, k ≤ l.length ∧ i = .int .i64 k ∧ Below w.heap.size w w' ∧ ∀ j, j < k → Ix.linesAt l j = []) (fun i _ => l.length - (intOf i).toNat)
  case atStart => exact ⟨0, Nat.zero_le _, rfl, unhide B2, fun j hj => by omega⟩
  case round =>
    clear B2
    obtain ⟨k, hk, rfl, hw, hall⟩ := hrel
    have HW0 := hide hw
    have HA := hide hall
    clear hw hall
    by_cases hlt : k < l.length
    · obtain ⟨b, off, rfl, hb, _, hc⟩ := hrow (by omega)
      obtain ⟨fv, dv, hAt, hf, hd⟩ := hc k hlt
      clear hc hrow
      have hbn : Ix.besideL l k = [] := (Ix.besideL_nil (unhide HOK) hlt).2 (by
        rcases Nat.eq_zero_or_pos k with h | h
        · exact .inl h
        · obtain ⟨m, rfl⟩ : ∃ m, k = m + 1 := ⟨k - 1, by omega⟩
          exact .inr (unhide HONE m hlt))
      have HBN := hide hbn
      have hlens := Ix.pOk_lens (Ix.pkgs_pOk (unhide HOK) hlt)
      obtain ⟨nm, vr, fs, ds, hpk⟩ : ∃ nm vr fs ds, Ix.pg l k = (nm, vr, fs, ds) := ⟨_, _, _, _, rfl⟩
      have HPK := hide hpk
      rw [hpk] at hAt hf hd hlens
      dsimp only at hf hd hlens
      obtain ⟨hlf, hld⟩ := hlens
      obtain ⟨fa, fc, hfv, _, hfr⟩ := hf
      obtain ⟨da, dc, hdv, _, hdr⟩ := hd
      subst hfv hdv
      have hi0 : (0 : Int) ≤ (k : Int) := Int.natCast_nonneg _
      have hi1 : (k : Int) < (l.length : Int) := by omega
      have er : IntKind.i64.wrap ((k : Int) + 1) = (k : Int) + 1 := by simp [IntKind.wrap, IntKind.bits, IntKind.signed]; omega
      have hAw : Hid (∀ w', Below w.heap.size w w' → w'.cell? ⟨b, off + k * 4 + 2, none⟩ = some (.slice fa fs.length fc) ∧ w'.cell? ⟨b, off + k * 4 + 3, none⟩ = some (.slice da ds.length dc)) := fun w' hb2 => ⟨(hAt.keep (hb2.block b hb)).2.2.1, (hAt.keep (hb2.block b hb)).2.2.2⟩
      clear hAt hpk hbn
      go_wp2_with fail
      go_loopw [4] (fun jv w' => ∃ m : Nat, m ≤ ds.length ∧ jv = .int .i64 m ∧ Below w.heap.size w w' ∧ ∀ j, j < m → Ix.lackL l (nm, vr, fs, ds) (Pk.fst ds j, Pk.snd ds j) = []) (fun jv _ => ds.length - (intOf jv).toNat)
      case atStart => exact ⟨0, Nat.zero_le _, rfl, unhide HW0, fun j hj => by omega⟩
      case round =>
        clear HW0
        obtain ⟨m, hm, rfl, hw, hnd⟩ := hrel
        have HW := hide hw
        have HND := hide hnd
        clear hw hnd
        obtain ⟨c2, c3⟩ := unhide hAw wr (unhide HW)
        by_cases hlt2 : m < ds.length
        · obtain ⟨db, dof, rfl, hdb, _, hdc⟩ := hdr (by omega)
          obtain ⟨d0, d1⟩ := hdc m hlt2
          rw [← (unhide HW).cell hdb] at d0 d1
          have hj0 : (0 : Int) ≤ (m : Int) := Int.natCast_nonneg _
          have hj1 : (m : Int) < (ds.length : Int) := by omega
          have er2 : IntKind.i64.wrap ((m : Int) + 1) = (m : Int) + 1 := by simp [IntKind.wrap, IntKind.bits, IntKind.signed]; omega
          have hmem := (Ix.pair_mem hlt2).1
          have HME := hide hmem
          have hmet := Ix.met_newest (l := l) (d := (Pk.fst ds m, Pk.snd ds m)) (unhide HOK)
          have hlk := Ix.lackL_nil (l := l) (p := (nm, vr, fs, ds)) (d := (Pk.fst ds m, Pk.snd ds m))
          rw [hmet] at hlk
          have HLK := hide hlk
          clear hdc hdr hmem hmet hlk
          go_wp2_with fail
          refine (l13Meets_any _ _ l _ _ ((unhide HP).later (unhide HW))).mono ?_
          rintro e w3 ⟨rfl, b3⟩
          have HW3 := hide ((unhide HW).trans (b3.mono (unhide HW).size))
          clear b3 c2 c3 d0 d1
          cases hq : Ix.newMeets l (Pk.fst ds m, Pk.snd ds m)
          · have hbad : Ix.planOk l = false := Ix.planOk_false hlt (fun hn => by
              have h1 := (Ix.linesAt_nil.1 hn).2.1
              rw [unhide HPK] at h1
              have h2 := (unhide HLK).1 (h1 _ (unhide HME))
              rw [hq] at h2
              cases h2)
            have HB := hide hbad
            clear hbad
            go_wp2
            go_ret
            exact ⟨ret_bool (unhide HB).symm, unhide HW3⟩
          · go_wp2
            go_roundw
            case rel => exact ⟨m + 1, by omega, by go_num, unhide HW3, fun j hj => by
              rcases Nat.lt_or_ge j m with h | h
              · exact unhide HND j h
              · obtain rfl : j = m := by omega
                exact (unhide HLK).2 hq⟩
            case measure => simp [intOf]; omega
        · obtain rfl : m = ds.length := by omega
          clear hlt2 hdr
          go_wp2_with fail
          clear c2 c3
          go_loopw [5] (fun jv w' => ∃ m : Nat, m ≤ fs.length ∧ jv = .int .i64 m ∧ Below w.heap.size w w' ∧ ∀ j, j < m → Ix.placeL l k (nm, vr, fs, ds) (Pk.fst fs j, Pk.snd fs j) = []) (fun jv _ => fs.length - (intOf jv).toNat)
          case atStart => exact ⟨0, Nat.zero_le _, rfl, unhide HW, fun j hj => by omega⟩
          case round =>
            clear HW
            obtain ⟨m, hm, rfl, hw, hnf⟩ := hrel
            have HW := hide hw
            have HNF := hide hnf
            clear hw hnf
            obtain ⟨c2, c3⟩ := unhide hAw wr (unhide HW)
            by_cases hlt3 : m < fs.length
            · obtain ⟨fb, fof, rfl, hfb, _, hfc⟩ := hfr (by omega)
              obtain ⟨d0, d1⟩ := hfc m hlt3
              rw [← (unhide HW).cell hfb] at d0 d1
              have hj0 : (0 : Int) ≤ (m : Int) := Int.natCast_nonneg _
              have hj1 : (m : Int) < (fs.length : Int) := by omega
              have er2 : IntKind.i64.wrap ((m : Int) + 1) = (m : Int) + 1 := by simp [IntKind.wrap, IntKind.bits, IntKind.signed]; omega
              have HME := hide (Ix.pair_mem hlt3).1
              have HPL := hide (Ix.placeL_nil (l := l) (i := k) (p := (nm, vr, fs, ds)) (f := (Pk.fst fs m, Pk.snd fs m)))
              clear hfc hfr
              go_wp2_with fail
              refine (l13Owner_any _ _ l k (Pk.fst fs m) ((unhide HP).later (unhide HW)) hk).mono ?_
              rintro e w3 ⟨⟨n, hn, how, rfl⟩ | ⟨how, rfl⟩, b3⟩
              · have HW3 := hide ((unhide HW).trans (b3.mono (unhide HW).size))
                have hbad : Ix.planOk l = false := Ix.planOk_false hlt (fun hz => by
                  have h1 := (Ix.linesAt_nil.1 hz).2.2
                  rw [unhide HPK] at h1
                  have h2 := (unhide HPL).1 (h1 _ (unhide HME))
                  rw [how] at h2
                  cases h2)
                have HB := hide hbad
                have hge : (0 : Int) ≤ (n : Int) := Int.natCast_nonneg _
                have hge2 : decide ((0 : Int) ≤ (n : Int)) = true := decide_eq_true hge
                clear b3 c2 c3 d0 d1 hbad how
                go_wp2
                go_ret
                exact ⟨ret_bool (unhide HB).symm, unhide HW3⟩
              · have HW3 := hide ((unhide HW).trans (b3.mono (unhide HW).size))
                have HHO := hide how
                clear b3 c2 c3 d0 d1 how
                go_wp2
                go_roundw
                case rel => exact ⟨m + 1, by omega, by go_num, unhide HW3, fun j hj => by
                  rcases Nat.lt_or_ge j m with h | h
                  · exact unhide HNF j h
                  · obtain rfl : j = m := by omega
                    exact (unhide HPL).2 (unhide HHO)⟩
                case measure => simp [intOf]; omega
            · obtain rfl : m = fs.length := by omega
              clear hlt3
              go_wp2
              go_roundw
              case rel => exact ⟨k + 1, by omega, by go_num, unhide HW, fun j hj => by
                rcases Nat.lt_or_ge j k with h | h
                · exact unhide HA j h
                · obtain rfl : j = k := by omega
                  refine Ix.linesAt_nil.2 ⟨unhide HBN, fun d hd => ?_, fun f hf => ?_⟩
                  · rw [unhide HPK] at hd ⊢
                    obtain ⟨i, hi, rfl⟩ := Ix.mem_pair hd
                    exact unhide HND i hi
                  · rw [unhide HPK] at hf ⊢
                    obtain ⟨i, hi, rfl⟩ := Ix.mem_pair hf
                    exact unhide HNF i hi⟩
              case measure => simp [intOf]; omega
    · obtain rfl : k = l.length := by omega
      clear hlt
      go_wp2
      go_ret
      exact ⟨ret_bool (Ix.planOk_true (unhide HOK) (unhide HA)).symm, unhide HW0⟩
end Go.Proofs.YtognimdifchnkaaGreatDoor

/- What the laws' own helpers for rows of numbers return: toIntS a copy in memory of its own, eqIntS true of two that read the same, szIntS how much is left. -/
namespace Go.Proofs.YtognimdifchnkaaGreatDoor
open Go.RowKit



/-- A new row of n numbers. -/
theorem mk_ints (w : World) (n : Nat) (hn : n ≤ 1048576) :
    ∃ C : Array Value, C.size = n ∧ (Instr.makeSlice 24 (.int .i64 (n : Int)) (.int .i64 (n : Int))).run Tryz.prog w = .ok (.slice (some ⟨w.heap.size, 0, none⟩) n n) (w.alloc (.cells C 3)) := by
  obtain ⟨i, hi0, hz0, hz1, hz2⟩ := info_parts infoI
  have h := run_make (P := Tryz.prog) w 24 3 i (.int .i64 0) Tryz.underlying24 hi0 hz0 .i64 .i64 (n : Int) (n : Int) (by omega) (Int.le_refl _) (by rw [hz2]; omega) (by omega)
  rw [hz1] at h
  simp only [Int.toNat_natCast] at h
  exact ⟨_, by rw [size_madeCells, Nat.mul_one], h⟩

/-- The row that is filled: the first k numbers are there. -/
def FillI (w : World) (g : Nat) (l : List Int) (k : Nat) : Prop :=
  ∃ C : Array Value, w.heap[g]? = some (.cells C 3 (0, 0)) ∧ C.size = l.length ∧ ∀ i, i < k → C[i]? = some (.int .i64 (Ky.nth l i))

theorem FillI.more {w : World} {g : Nat} {l : List Int} {k : Nat} (h : FillI w g l k) (hk : k < l.length) :
    FillI (w.setCell ⟨g, k, none⟩ (.int .i64 (Ky.nth l k))) g l (k + 1) := by
  obtain ⟨C, h1, h2, h3⟩ := h
  refine ⟨_, heapSet h1, by simpa using h2, fun i hi => ?_⟩
  rcases Nat.lt_or_ge i k with hlt | hge
  · rw [Array.getElem?_setIfInBounds_ne (by omega)]
    exact h3 i hlt
  · obtain rfl : i = k := by omega
    rw [Array.getElem?_setIfInBounds_self_of_lt (by omega)]

theorem FillI.keep {w w' : World} {g k : Nat} {l : List Int} (h : FillI w g l k) (hb : w'.heap[g]? = w.heap[g]?) : FillI w' g l k := by
  obtain ⟨C, h1, h2, h3⟩ := h
  exact ⟨C, hb.trans h1, h2, h3⟩
theorem FillI.later {w w' : World} {g k : Nat} {l : List Int} (h : FillI w g l k) (hb : Below w.heap.size w w') : FillI w' g l k := by
  obtain ⟨C, h1, h2, h3⟩ := h
  exact ⟨C, (hb.block g (heapLt h1)).trans h1, h2, h3⟩
theorem FillI.ins {w : World} {g : Nat} {l : List Int} (h : FillI w g l l.length) (hl : l.length ≤ 1048576) : Ins w (.slice (some ⟨g, 0, none⟩) l.length l.length) l := by
  obtain ⟨C, h1, h2, h3⟩ := h
  refine ⟨_, _, rfl, by omega, fun _ => ⟨g, 0, rfl, heapLt h1, fun i hi => ?_⟩⟩
  rw [Nat.zero_add, cellOf h1]
  exact h3 i hi

end Go.Proofs.YtognimdifchnkaaGreatDoor

/- What slices.Repeat returns of one number, six times: a row of its own. -/
namespace Go.Proofs.YtognimdifchnkaaGreatDoor
open Go.RowKit

attribute [local go_sem ↓] Go.wp_at_zero Go.wp_at_succ

section
variable {P : Program}
theorem wp_copy_row (w : World) {o : Oper} {a : Act} {K : Act → World → Prop} {Q : Exit → Act → World → Prop} (d s : Operand) (t : TypeId)
    (ho : o.op = .call { callee := .builtin .copy, args := #[d, s], argTypes := #[t, t] }) (elem : TypeId) (hu : P.underlying t = some (.slice elem)) (hs : (P.info? elem).map (·.size) = some 1)
    (g off dLen dCap : Nat) (b : Addr) (sLen sCap : Nat) (cur : Array Value) (tt : TypeId) (cs : List Value) (hd : a.eval d = .slice (some ⟨g, off, none⟩) dLen dCap) (hx : a.eval s = .slice (some b) sLen sCap)
    (hg : w.heap[g]? = some (.cells cur tt (0, 0))) (hn : cs.length = Nat.min sLen dLen) (hsrc : ∀ j v, cs[j]? = some v → w.cell? (b.add j) = some v) (hfit : off + cs.length ≤ cur.size) (h1 : ∀ v ∈ cs, v.oneCell' = true)
    (h : K (a.put o.dst (goInt cs.length)) (w.setRow g (cur.toList.take off ++ cs ++ cur.toList.drop (off + cs.length)).toArray)) : o.wp P a w K Q := by
  have hr := run_copy_row P w t t o.type elem g off dLen dCap b sLen sCap cur tt cs hu hs hg hn hsrc hfit h1
  unfold Oper.wp execOp
  simp only [ho, resolve, invoke, builtin, Sem.run_bind, Sem.run_pure, Result.andThen_ok, List.map_toArray, List.map_cons, List.map_nil, hd, hx, hr]
  exact h
end
/-- The first n are -1. -/
def Neg (w : World) (g n : Nat) : Prop := ∃ C : Array Value, w.heap[g]? = some (.cells C 3 (0, 0)) ∧ C.size = 6 ∧ ∀ i, i < n → C[i]? = some (.int .i64 (-1))
theorem Neg.copy {w : World} {g n m : Nat} {C : Array Value} (h1 : w.heap[g]? = some (.cells C 3 (0, 0))) (h2 : C.size = 6) (h3 : ∀ i, i < n → C[i]? = some (.int .i64 (-1))) (hm : n + m ≤ 6) :
    Neg (w.setRow g (C.toList.take n ++ List.replicate m (Value.int .i64 (-1)) ++ C.toList.drop (n + m)).toArray) g (n + m) := by
  refine ⟨_, setRow_heap w g C _ 3 _ h1, ?_, fun i hi => ?_⟩
  · simp only [List.size_toArray, List.length_append, List.length_take, List.length_drop, List.length_replicate, Array.length_toList]
    omega
  · have hl : (C.toList.take n).length = n := by rw [List.length_take, Array.length_toList]; omega
    rw [List.getElem?_toArray, List.append_assoc]
    rcases Nat.lt_or_ge i n with h | h
    · rw [List.getElem?_append_left (by omega), List.getElem?_take_of_lt h, Array.getElem?_toList]
      exact h3 i h
    · rw [List.getElem?_append_right (by omega), hl, List.getElem?_append_left (by rw [List.length_replicate]; omega), List.getElem?_replicate, if_pos (by omega)]
theorem infoI6 : (Tryz.prog.info? 3).map (·.size) = some 1 := by kernel_rfl
theorem wp_copyN (w : World) {o : Oper} {a : Act} {K : Act → World → Prop} {Q : Exit → Act → World → Prop} (d s : Operand)
    (ho : o.op = .call { callee := .builtin .copy, args := #[d, s], argTypes := #[24, 24] })
    (g n m dLen dCap : Nat) (b : Nat) (sLen sCap : Nat) (hd : a.eval d = .slice (some ⟨g, n, none⟩) dLen dCap) (hx : a.eval s = .slice (some ⟨b, 0, none⟩) sLen sCap)
    (hneg : Neg w g n) (hn : m = Nat.min sLen dLen) (hsrc : ∀ j, j < m → w.cell? ⟨b, j, none⟩ = some (.int .i64 (-1))) (hfit : n + m ≤ 6)
    (h : ∀ w', Neg w' g (n + m) → w.grownBy w' (some g) → K (a.put o.dst (.int .i64 m)) w') : o.wp Tryz.prog a w K Q := by
  obtain ⟨C, h1, h2, h3⟩ := hneg
  have hl : (List.replicate m (Value.int .i64 (-1))).length = m := List.length_replicate
  refine wp_copy_row w d s _ ho 3 Tryz.underlying24 infoI6 g n dLen dCap ⟨b, 0, none⟩ sLen sCap C 3 (List.replicate m (Value.int .i64 (-1))) hd hx h1 (by rw [hl]; exact hn) (fun j v hv => ?_) (by rw [hl]; omega) (fun v hv => by rw [List.eq_of_mem_replicate hv]; rfl) ?_
  · rw [List.getElem?_replicate] at hv
    split at hv
    · rename_i hj
      have e := Option.some.inj hv
      subst e
      have hadd : (⟨b, 0, none⟩ : Addr).add j = ⟨b, j, none⟩ := by unfold Addr.add; split <;> simp_all
      rw [hadd]
      exact hsrc j hj
    · cases hv
  · rw [hl]
    have e : (goInt m : Value) = .int .i64 (m : Int) := rfl
    rw [e]
    exact h _ (Neg.copy h1 h2 h3 hfit) ⟨rfl, rfl, rfl, by simp, fun k _ hk => setRow_other w g k _ (fun e => hk (by rw [e]))⟩
theorem wpList_copyN (w : World) {ops : Array Oper} {rest : List Oper} {o : Oper} {a : Act} {Q : Exit → Act → World → Prop} (hgd : o.guard = none) (d s : Operand)
    (ho : o.op = .call { callee := .builtin .copy, args := #[d, s], argTypes := #[24, 24] })
    (g n m dLen dCap : Nat) (b : Nat) (sLen sCap : Nat) (hd : a.eval d = .slice (some ⟨g, n, none⟩) dLen dCap) (hx : a.eval s = .slice (some ⟨b, 0, none⟩) sLen sCap)
    (hneg : Neg w g n) (hn : m = Nat.min sLen dLen) (hsrc : ∀ j, j < m → w.cell? ⟨b, j, none⟩ = some (.int .i64 (-1))) (hfit : n + m ≤ 6)
    (h : ∀ w', Neg w' g (n + m) → w.grownBy w' (some g) → wpList Tryz.prog ops Q rest (a.put o.dst (.int .i64 m)) w') : wpList Tryz.prog ops Q (o :: rest) a w :=
  wpList_plain hgd fun _ hK => wp_copyN w d s ho g n m dLen dCap b sLen sCap hd hx hneg hn hsrc hfit fun w' h2 h3 => hK _ _ (h w' h2 h3)
theorem below_grown {B : Nat} {w0 w w' : World} {g : Nat} (h : Below B w0 w) (hg : w.grownBy w' (some g)) (hB : B ≤ g) (hs : B ≤ w.heap.size) : Below B w0 w' :=
  ⟨hg.os.trans h.os, hg.tape.trans h.tape, hg.output.trans h.output, Nat.le_trans h.size hg.size, fun k hk => (hg.block k (by omega) (fun e => by have := Option.some.inj e; omega)).trans (h.block k hk)⟩

end Go.Proofs.YtognimdifchnkaaGreatDoor

/- What impl.PlanFiles returns: what is at each place; for every row of packages that can be read. -/
namespace Go.Proofs.YtognimdifchnkaaGreatDoor
open Go.RowKit

attribute [local go_sem ↓] Go.wp_at_zero Go.wp_at_succ

def Ix.putF (a : List Int) (fs : List (Int × Int)) : List Int := fs.foldl (fun a f => a.set f.1.toNat f.2) a
def Ix.filesTo (l : List Ix.Pg) (k : Nat) : List Int := (l.take k).foldl (fun a p => Ix.putF a p.2.2.1) (List.replicate 6 (-1))
def Ix.planFiles (l : List Ix.Pg) : List Int := if Ix.planOk l = true then Ix.filesTo l l.length else []
theorem Ix.putF_len (fs : List (Int × Int)) : ∀ a : List Int, (Ix.putF a fs).length = a.length := by
  unfold Ix.putF
  induction fs with
  | nil => intro a; rfl
  | cons f fs ih => intro a; rw [List.foldl_cons, ih, List.length_set]
theorem Ix.filesTo_succ {l : List Ix.Pg} {k : Nat} (hk : k < l.length) : Ix.filesTo l (k + 1) = Ix.putF (Ix.filesTo l k) (Ix.pg l k).2.2.1 := by
  unfold Ix.filesTo
  rw [Ix.take_pgs hk, List.foldl_append]
  rfl
theorem Ix.filesTo_len (l : List Ix.Pg) : ∀ k, k ≤ l.length → (Ix.filesTo l k).length = 6
  | 0, _ => rfl
  | k + 1, hk => by rw [Ix.filesTo_succ hk, Ix.putF_len, Ix.filesTo_len l k (by omega)]
theorem Ix.putF_succ {fs : List (Int × Int)} {m : Nat} (hm : m < fs.length) (a : List Int) : Ix.putF a (fs.take (m + 1)) = (Ix.putF a (fs.take m)).set (Pk.fst fs m).toNat (Pk.snd fs m) := by
  unfold Ix.putF
  rw [List.take_add_one, (Ix.pair_mem hm).2, List.foldl_append]
  rfl
/-- A block of numbers. -/
def IntB (w : World) (g : Nat) (a : List Int) : Prop := w.heap[g]? = some (.cells (a.map (Value.int .i64)).toArray 3 (0, 0))
theorem IntB.keep {w w' : World} {g : Nat} {a : List Int} (h : IntB w g a) (hb : w'.heap[g]? = w.heap[g]?) : IntB w' g a := hb.trans h
theorem IntB.lt {w : World} {g : Nat} {a : List Int} (h : IntB w g a) : g < w.heap.size := heapLt h
theorem IntB.later {w w' : World} {g : Nat} {a : List Int} (h : IntB w g a) (hb : Below w.heap.size w w') : IntB w' g a := h.keep (hb.block g h.lt)
theorem IntB.set {w : World} {g i : Nat} {a : List Int} {x : Int} (h : IntB w g a) : IntB (w.setCell ⟨g, i, none⟩ (.int .i64 x)) g (a.set i x) := by
  unfold IntB at *
  rw [heapSet h]
  congr 2
  apply Array.ext'
  rw [Array.toList_setIfInBounds, List.toList_toArray, List.map_set]
theorem IntB.cell {w : World} {g i : Nat} {a : List Int} (h : IntB w g a) (hi : i < a.length) : ∃ x, w.cell? ⟨g, i, none⟩ = some (.int .i64 x) ∧ w.frozen? ⟨g, i, none⟩ = false := by
  refine ⟨a[i], ?_, frozenOf h i⟩
  rw [cellOf h, List.getElem?_toArray, List.getElem?_map, List.getElem?_eq_getElem hi]
  rfl
theorem IntB.own {w : World} {g B : Nat} {a : List Int} (h : IntB w g a) (hB : B ≤ g) (hl : a.length ≤ 1000000) : OwI B w (.slice (some ⟨g, 0, none⟩) a.length a.length) a := by
  refine ⟨by rw [List.length_map, Nat.mul_one], .inr ⟨g, a.length, _, rfl, hB, h, Nat.le_refl _, by unfold maxLen; omega, ?_, ?_⟩⟩
  · rw [List.size_toArray, List.length_map, Nat.mul_one]
  · rw [List.toList_toArray, Nat.mul_one, List.take_of_length_le (by rw [List.length_map]; exact Nat.le_refl _)]
theorem Neg.intB {w : World} {g : Nat} (h : Neg w g 6) : IntB w g (List.replicate 6 (-1)) := by
  obtain ⟨C, h1, h2, h3⟩ := h
  refine h1.trans ?_
  congr 2
  apply Array.ext'
  apply List.ext_getElem?
  intro j
  rw [List.toList_toArray, List.getElem?_map, Array.getElem?_toList]
  rcases Nat.lt_or_ge j 6 with hj | hj
  · rw [h3 j hj, List.getElem?_replicate, if_pos hj]
    rfl
  · rw [Array.getElem?_eq_none (by omega), List.getElem?_replicate, if_neg (by omega)]
    rfl

end Go.Proofs.YtognimdifchnkaaGreatDoor

/- Laws on regions that draw their order and end in one store that waits for all else: what holds ahead of that store serves all that come up ahead of it. -/
namespace Go.Proofs.YtognimdifchnkaaGreatDoor
section
variable {P : Program} {ops : Array Oper} {Q : Exit → Act → World → Prop} {md : Region.Mode} {S : World → Prop} {s : Nat}

/-- Whatever comes up from here on; S holds behind each but number s. -/
def AnyL (P : Program) (md : Region.Mode) (ops : Array Oper) (Q : Exit → Act → World → Prop) (S : World → Prop) (s : Nat) : Nat → Array Bool → Act → World → Prop
  | 0, L, a, w => Region.ready md ops L = [] ∧ Q .normal a w
  | n + 1, L, a, w => (Region.ready md ops L = [] → Q .normal a w) ∧ ∀ i ∈ Region.ready md ops L, wpOp P ops Q i (fun a' w' => (i ≠ s → S w') ∧ AnyL P md ops Q S s n (L.setIfInBounds i true) a' w') a w
theorem AnyL.any : ∀ (n : Nat) (L : Array Bool) (a : Act) (w : World), AnyL P md ops Q S s n L a w → wpAny P md ops Q n L a w
  | 0, _, _, _, h => h
  | n + 1, _, _, _, h => ⟨h.1, fun i hi => wpOp_mono (fun a' w' h' => AnyL.any n _ a' w' h'.2) (h.2 i hi)⟩

/-- What has come up has all behind it for which it waited. -/
def Down (md : Region.Mode) (ops : Array Oper) (L : Array Bool) : Prop := ∀ (k : Nat) (o : Oper), ops[k]? = some o → L.getD k false = true → ∀ e ∈ o.after, Region.binds md e = true → L.getD e.on false = true
/-- Number y waits, by steps, for number i. -/
def reachB (md : Region.Mode) (ops : Array Oper) (i : Nat) : Nat → Nat → Bool
  | 0, _ => false
  | n + 1, y => match ops[y]? with
    | some o => o.after.any fun e => Region.binds md e && (e.on == i || reachB md ops i n e.on)
    | none => false
theorem reach {L : Array Bool} (hd : Down md ops L) {i : Nat} : ∀ (n y : Nat) (o : Oper), ops[y]? = some o → reachB md ops i n y = true → (∀ e ∈ o.after, Region.binds md e = true → L.getD e.on false = true) → L.getD i false = true
  | 0, _, _, _, h, _ => by cases h
  | n + 1, y, o, ho, h, he => by
    unfold reachB at h
    rw [ho] at h
    simp only [Array.any_eq_true'] at h
    obtain ⟨e, hm, h⟩ := h
    rw [Bool.and_eq_true, Bool.or_eq_true] at h
    obtain ⟨hb, h | h⟩ := h
    · have : e.on = i := by simpa using h
      rw [← this]
      exact he e hm hb
    · have h1 := he e hm hb
      cases ho' : ops[e.on]? with
      | none =>
        cases n with
        | zero => cases h
        | succ n => unfold reachB at h; rw [ho'] at h; cases h
      | some o' => exact reach hd n e.on o' ho' h (fun e' hm' hb' => hd e.on o' ho' h1 e' hm' hb')
/-- Number s does not come up ahead of number i. -/
theorem not_last {L : Array Bool} (hd : Down md ops L) {i n : Nat} (hr : reachB md ops i n s = true) (hi : L.getD i true = false) : s ∉ Region.ready md ops L := by
  intro h
  obtain ⟨_, o, ho, hall⟩ := mem_ready.1 h
  have := reach hd n s o ho hr hall
  rcases Nat.lt_or_ge i L.size with h' | h'
  · simp [h'] at hi this; rw [hi] at this; cases this
  · simp [Array.getElem?_eq_none h'] at hi
theorem Down.step {L : Array Bool} (hd : Down md ops L) {j : Nat} (hj : j ∈ Region.ready md ops L) : Down md ops (L.setIfInBounds j true) := by
  intro k o ho hk e he hb
  by_cases hjk : j = k
  · subst hjk
    obtain ⟨_, o', ho', hall⟩ := mem_ready.1 hj
    rw [ho] at ho'
    injection ho' with ho'
    subst ho'
    exact getD_set_true (hall e he hb)
  · exact getD_set_true (hd k o ho (by rw [getD_set_ne false hjk] at hk; exact hk) e he hb)

/-- A number that may come up, and whose value is the same in all worlds that meet S, comes up first. -/
theorem AnyL.first {i : Nat} {oi : Oper} {v : Value} {m : Nat} (hi : ops[i]? = some oi) (hsel : ∀ (j : Nat) (o : Oper) cs b, ops[j]? = some o → o.op ≠ .select cs b)
    (hQ : ∀ c a w, Q (.panic c) (a.put oi.dst v) w → Q (.panic c) a w) (hr : reachB md ops i m s = true) :
    ∀ (n : Nat) (L : Array Bool) (a : Act) (w : World), Down md ops L →
      (∀ j oj, ops[j]? = some oj → j ≠ i → L.getD j true = false → (∀ e ∈ oj.after, Region.binds md e = true → e.on ≠ i) → oi.apart ops oj = true) →
      i ∈ Region.ready md ops L → YieldsIf P ops S oi v a → S w → AnyL P md ops Q S s n (L.setIfInBounds i true) (a.put oi.dst v) w → AnyL P md ops Q S s (n + 1) L a w := by
  intro n
  induction n with
  | zero =>
    intro L a w _ _ hir hy hS H
    refine ⟨fun h => (by rw [h] at hir; cases hir), fun j hj => ?_⟩
    rcases Nat.decEq j i with hji | hji
    · have := ready_mono hj hji
      rw [H.1] at this
      cases this
    · subst hji
      exact hy.wpOp hi hS ⟨fun _ => hS, H⟩
  | succ n ih =>
    intro L a w hd hfree hir hy hS H
    refine ⟨fun h => (by rw [h] at hir; cases hir), fun j hj => ?_⟩
    rcases Nat.decEq j i with hji | hji
    · have hjs : j ≠ s := fun e => not_last hd hr (mem_ready.1 hir).1 (e ▸ hj)
      obtain ⟨hjun, oj, hoj, hall⟩ := mem_ready.1 hj
      have hnot : ∀ e ∈ oj.after, Region.binds md e = true → e.on ≠ i := fun e he hb heq => by
        have h1 := hall e he hb
        have h0 := (mem_ready.1 hir).1
        rw [heq] at h1
        rcases Nat.lt_or_ge i L.size with h' | h'
        · simp [h'] at h0 h1; rw [h0] at h1; cases h1
        · simp [Array.getElem?_eq_none h'] at h1
      refine wpOp_mono (fun a' w' h3 => ?_) (wpOp_putIf hoj (hfree j oj hoj hji hjun hnot) (fun cs b => hsel i oi cs b hi) (fun cs b => hsel j oj cs b hoj) hQ hy (H.2 j (ready_mono hj hji)))
      have hS' := h3.2.1 hjs
      refine ⟨fun _ => hS', ih _ a' w' (hd.step hj) (fun k ok hk hki hun hno => hfree k ok hk hki ?_ hno) (ready_mono hir (Ne.symm hji)) h3.1 hS' ?_⟩
      · rcases Nat.decEq j k with hjk | hjk
        · rw [getD_set_ne true hjk] at hun; exact hun
        · subst hjk; exact hjun
      · rw [Array.setIfInBounds_comm _ _ hji]
        exact h3.2.2
    · subst hji
      exact hy.wpOp hi hS ⟨fun _ => hS, H⟩

/-- The walk, shut (so that nobody unfolds it). -/
structure WL (P : Program) (ops : Array Oper) (Q : Exit → Act → World → Prop) (S : World → Prop) (s n : Nat) (L : Array Bool) (a : Act) (w : World) : Prop where
  out : AnyL P .any ops Q S s n L a w
def downB (ops : Array Oper) (L : Array Bool) : Bool := (List.range ops.size).all fun k => !L.getD k false || (match ops[k]? with
  | some o => o.after.all fun e => !Region.binds .any e || L.getD e.on false
  | none => true)
theorem down_of {L : Array Bool} (h : downB ops L = true) : Down .any ops L := by
  intro k o ho hk e he hb
  unfold downB at h
  rw [List.all_eq_true] at h
  have hlt : k < ops.size := by
    rcases Nat.lt_or_ge k ops.size with h1 | h1
    · exact h1
    · rw [Array.getElem?_eq_none h1] at ho; cases ho
  have := h k (List.mem_range.2 hlt)
  rw [hk, ho] at this
  simp only [Bool.not_true, Bool.false_or] at this
  rw [Array.all_eq_true'] at this
  have := this e he
  rw [hb] at this
  simpa using this
variable {a : Act} {w : World} {n : Nat} {L : Array Bool}
theorem wl_take {i : Nat} {oi : Oper} {v : Value} {d : Option Tmp} (hi : ops[i]? = some oi) (hd : oi.dst = d) (hs : Region.noSelect ops = true) (hf : Region.free .any ops L i = true) (hr : (Region.ready .any ops L).contains i = true)
    (hw : downB ops L = true) (hre : reachB .any ops i ops.size s = true) (hQ : ∀ c a w, Q (.panic c) (a.put oi.dst v) w → Q (.panic c) a w) (hwn : Region.wanted oi (yielded ops a.tmps) = true) (hy : ∀ w, S w → (execOp a.eval oi).run P w = .ok (.value v) w) (hS : S w)
    (h : WL P ops Q S s n (L.setIfInBounds i true) (a.put d v) w) : WL P ops Q S s (n + 1) L a w := by
  subst hd
  exact ⟨AnyL.first hi (Region.noSelect_spec hs) hQ hre n L a w (down_of hw) (Region.free_spec hi hf) (by simpa using hr) (.inl ⟨hwn, hy⟩) hS h.out⟩
theorem wl_one {i : Nat} {o : Oper} (hr : Region.ready .any ops L = [i]) (ho : ops[i]? = some o) (hwn : Region.wanted o (yielded ops a.tmps) = true)
    (h : ∀ K : Act → World → Prop, Shut (∀ a w, (i ≠ s → S w) → WL P ops Q S s n (L.setIfInBounds i true) a w → K a w) → Oper.wp P o a w K Q) : WL P ops Q S s (n + 1) L a w := by
  refine ⟨⟨fun h0 => (by rw [hr] at h0; cases h0), fun j hj => ?_⟩⟩
  rw [hr] at hj
  obtain rfl : j = i := by simpa using hj
  refine wpOp_step ho (fun K' hK => ?_)
  rw [if_pos hwn]
  exact h K' (fun a w hS hW => hK a w ⟨hS, hW.out⟩)
theorem wl_done (hr : Region.ready .any ops L = []) (h : Q .normal a w) : WL P ops Q S s n L a w := by
  cases n with
  | zero => exact ⟨⟨hr, h⟩⟩
  | succ n => exact ⟨⟨fun _ => h, fun i hi => by rw [hr] at hi; cases hi⟩⟩
theorem wl_region {id : Nat} (hm : P.follows .mixedOrders = true) (hS : S w.drew) (h : S w.drew → WL P ops Q S s ops.size (Array.replicate ops.size false) a w.drew) : (Code.region id ops true).wp P Q a w :=
  wp_region_any hm (AnyL.any _ _ _ _ (h hS).out)
end
end Go.Proofs.YtognimdifchnkaaGreatDoor
