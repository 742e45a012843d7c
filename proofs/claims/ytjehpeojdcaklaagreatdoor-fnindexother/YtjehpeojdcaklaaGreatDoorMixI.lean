import Derived.Test.YtjehpeojdcaklaaGreatDoorOffDrawW
import Derived.Test.YtjehpeojdcaklaaGreatDoorOpenW
import Derived.Test.YtjehpeojdcaklaaGreatDoorMathW
import Derived.Test.YtjehpeojdcaklaaGreatDoorMixA
import Derived.Test.YtjehpeojdcaklaaGreatDoorMixC
import Derived.Maps.OwnSet
/- What spec's DrawIndexOf returns: two numbers, and a row of packages that is owned. -/
namespace Go.Proofs.YtjehpeojdcaklaaGreatDoor
open Go.RowKit

theorem wrapK {z : Int} (h0 : 0 ≤ z) (h1 : z ≤ 1000000) : IntKind.i64.wrap z = z := by simp [IntKind.wrap, IntKind.bits, IntKind.signed]; omega
theorem quoK_23 {v : Int} (h0 : 0 ≤ v) (h1 : v < 24) : ∃ q : Int, IntKind.i64.wrap (v.tdiv 23) = q ∧ 0 ≤ q ∧ q ≤ 1 := by
  have e : v.tdiv 23 = v / 23 := Int.tdiv_eq_ediv_of_nonneg h0
  rw [e, wrapK (by omega) (by omega)]
  exact ⟨_, rfl, by omega, by omega⟩
set_option maxHeartbeats 4000000 in
set_option maxRecDepth 100000 in
theorem drawIndexOf_any (w : World) (a : Option Addr) (len cap : Nat) (h : Bytes w a len cap) :
    Calls Tryz.prog 8 #[.slice a len cap] w fun e w' => ∃ (num til : Int) (v : Value) (els : List El), e = .returned (.tuple #[.int .i64 num, .int .i64 til, v]) ∧ 0 ≤ num ∧ num ≤ 100 ∧ 0 ≤ til ∧ til ≤ 100 ∧ POx w.heap.size w' v els ∧ els.length ≤ 8 ∧ Below w.heap.size w w' := by
  have H := hide h
  clear h
  go_enter Tryz.func8, Tryz.ntmps8
  go_wp2_with fail
  refine (open_any _ a len cap (unhide H)).mono ?_
  rintro e w1 ⟨rfl, hr1, b1⟩
  have hlt := hr1.lt
  have hsw := b1.size
  have HR := hide hr1
  have B1 := hide b1
  clear hr1 b1 H
  go_wp2_with fail
  refine (pick_any _ w.heap.size 0 9 (unhide HR) (by omega) (by omega) (by omega)).mono ?_
  rintro e w2 ⟨v2, rfl, v20, v21, hr, hk⟩
  have HK := hide hk
  replace HR := hide hr
  clear hr hk
  go_wp2_with fail
  refine (pick_any _ w.heap.size 1 24 (unhide HR) (by omega) (by omega) (by omega)).mono ?_
  rintro e w3 ⟨v3, rfl, v30, v31, hr, hk⟩
  replace HK := hide ((unhide HK).trans hk (unhide HK).size)
  replace HR := hide hr
  obtain ⟨q3, hq3, q30, q31⟩ := quoK_23 v30 v31
  have e3 : IntKind.i64.wrap (q3 * 30) = q3 * 30 := wrapK (by omega) (by omega)
  have e4 : IntKind.i64.wrap (v2 + q3 * 30) = v2 + q3 * 30 := wrapK (by omega) (by omega)
  clear hr hk
  go_wp2_with fail
  refine (pick_any _ w.heap.size 2 12 (unhide HR) (by omega) (by omega) (by omega)).mono ?_
  rintro e w4 ⟨v4, rfl, v40, v41, hr, hk⟩
  replace HK := hide ((unhide HK).trans hk (unhide HK).size)
  replace HR := hide hr
  clear hr hk
  go_wp2_with fail
  refine (pick_any _ w.heap.size 3 24 (unhide HR) (by omega) (by omega) (by omega)).mono ?_
  rintro e w5 ⟨v5, rfl, v50, v51, hr, hk⟩
  replace HK := hide ((unhide HK).trans hk (unhide HK).size)
  replace HR := hide hr
  obtain ⟨q5, hq5, q50, q51⟩ := quoK_23 v50 v51
  have e5 : IntKind.i64.wrap (q5 * 60) = q5 * 60 := wrapK (by omega) (by omega)
  have e6 : IntKind.i64.wrap (v4 + q5 * 60) = v4 + q5 * 60 := wrapK (by omega) (by omega)
  have hs5 := (unhide HK).size
  clear hr hk
  go_wp2_with fail
  refine (l71Off_any _ w.heap.size 4 (unhide HR) (by omega) (by omega)).mono ?_
  rintro e w6 ⟨v, els, p2, rfl, ho, hl, hp2, hr, hk⟩
  obtain ⟨va, vc, hv⟩ := own_formS ho.own
  subst hv
  replace HK := hide ((unhide HK).trans hk hs5)
  have HO := hide ho
  clear ho hr hk HR
  go_wp2
  exact bodyPost_ret (v := .tuple #[.int .i64 (v2 + q3 * 30), .int .i64 (v4 + q5 * 60), .slice va els.length vc]) (by simp [results, Tryz.results8, go_sem]) rfl ⟨_, _, _, els, rfl, by omega, by omega, by omega, by omega, POx.base (unhide HO) (by omega), hl, (unhide B1).trans (((unhide HK).mono hsw).below (Nat.le_refl _))⟩
end Go.Proofs.YtjehpeojdcaklaaGreatDoor

/- What spec.KeysOk, impl.KeysOk and spec.l2Both return: whether keys are ok; how many are among both; for every row of numbers; nothing old is written. -/
namespace Go.Proofs.YtjehpeojdcaklaaGreatDoor
open Go.RowKit

theorem infoI : (Tryz.prog.info? 3).map (fun i => (i.zero, i.size, i.bytes)) = some (some (.int .i64 0), 1, 8) := by kernel_rfl

/-- A slice of ints that can be read. -/
def Ins (w : World) (v : Value) (l : List Int) : Prop :=
  ∃ a cap, v = .slice a l.length cap ∧ l.length ≤ 1000000000000 ∧ (0 < l.length → ∃ b off, a = some ⟨b, off, none⟩ ∧ b < w.heap.size ∧ ∀ i, i < l.length → w.cell? ⟨b, off + i, none⟩ = some (.int .i64 (Ky.nth l i)))

theorem Ins.later {w w' : World} {v : Value} {l : List Int} (h : Ins w v l) (hb : Below w.heap.size w w') : Ins w' v l := by
  obtain ⟨a, cap, hv, hl, hr⟩ := h
  refine ⟨a, cap, hv, hl, fun hp => ?_⟩
  obtain ⟨b, off, ha, hbs, hc⟩ := hr hp
  exact ⟨b, off, ha, Nat.lt_of_lt_of_le hbs hb.size, fun i hi => by rw [hb.cell hbs]; exact hc i hi⟩
theorem Ins.slice {w : World} {v : Value} {l : List Int} (h : Ins w v l) : ∃ a cap, v = .slice a l.length cap := by
  obtain ⟨a, cap, hv, _⟩ := h
  exact ⟨a, cap, hv⟩
theorem Ins.nil (w : World) : Ins w (.slice none 0 0) [] := ⟨none, 0, rfl, by simp, fun h => by simp at h⟩
theorem Ins.drewN {w : World} {v : Value} {l : List Int} (h : Ins w v l) (q : Nat) : Ins (w.drewN q) v l := h
theorem Ins.drew {w : World} {v : Value} {l : List Int} (h : Ins w v l) : Ins w.drew v l := h



end Go.Proofs.YtjehpeojdcaklaaGreatDoor

/- What impl's set of keys answers: setOf makes it, has and countOf ask it; impl.KeysBoth and spec.KeysBoth: how many keys are among both, -1 if one is not ok; for every two rows of numbers; nothing old is written. -/
namespace Go.Proofs.YtjehpeojdcaklaaGreatDoor
open Go.RowKit Go.Maps

theorem lawK : Keyed Tryz.prog 3 := int_keyed Tryz.underlying3
/-- The set of keys, as data. -/
def Kd (l : List Int) : DataW Unit := setOf (.agg []) (l.map (Lit.int .i64))
theorem Kd_zero : Kd [] = .map [] := rfl
theorem Kd_snoc (l : List Int) (k : Nat) (hk : k < l.length) : Kd (l.take (k + 1)) = (Kd (l.take k)).put (.int .i64 (Ky.nth l k)) (.agg []) := by
  unfold Kd
  rw [List.take_add_one, List.map_append, Ky.nth_get l k hk]
  simp only [hk, getElem?_pos, Option.toList_some, List.map_cons, List.map_nil]
  exact setOf_snoc _ _ _
theorem has_Kd (l : List Int) (x : Int) : Maps.has (Kd l) (.int .i64 x) = l.contains x := by
  unfold Kd
  rw [has_setOf _ _ _ (by intro y hy; obtain ⟨z, _, rfl⟩ := List.mem_map.1 hy; trivial), List.any_map, List.contains_eq_any_beq]
  congr 1
  funext y
  simp [Lit.sameKey]
  by_cases h : x = y
  · subst h; simp
  · rw [beq_eq_false_iff_ne.2 h, decide_eq_false (fun e => h e.symm)]

/-- A world that holds the set. -/
def Own (w : World) (b : Nat) (l : List Int) : Prop := w.ownsMap Tryz.prog 3 (unitElem (H := Unit)) b l.length (Kd l)
theorem Own.later {w w' : World} {b : Nat} {l : List Int} (h : Own w b l) (hb : Below w.heap.size w w') : Own w' b l := by
  have hlt := World.ownsMap.lt h
  obtain ⟨es, clock, h1, h2⟩ := h
  exact ⟨es, clock, by rw [hb.block _ hlt]; exact h1, h2⟩

theorem wf_small {x : Int} (h0 : -1000 ≤ x) (h1 : x ≤ 1000) : (Lit.int .i64 x).wf = true := WalkArith.wf_i64 (by omega)

theorem small_ok {l : List Int} (h : Ky.keysOk l = true) : (∀ i, i < l.length → 1 ≤ Ky.nth l i ∧ Ky.nth l i ≤ 6) ∧ l.length ≤ 1000 := ⟨(Ky.good_get h).1, Nat.le_trans (Ky.ok_len h) (by omega)⟩

theorem Ins.one (w : World) (x : Int) (t : TypeId) : Ins (w.alloc (.cells #[.int .i64 x] t)) (.slice (some ⟨w.heap.size, 0, none⟩) 1 1) [x] :=
  ⟨_, _, rfl, by simp, fun _ => ⟨w.heap.size, 0, rfl, by simp, fun i hi => by
    obtain rfl : i = 0 := by simpa using hi
    rw [World.cell?_alloc_new]
    rfl⟩⟩
end Go.Proofs.YtjehpeojdcaklaaGreatDoor
