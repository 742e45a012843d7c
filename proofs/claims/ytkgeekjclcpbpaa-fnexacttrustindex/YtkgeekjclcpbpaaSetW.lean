/- What impl's set of keys answers: setOf makes it, has and countOf ask it; impl.KeysBoth and spec.KeysBoth: how many keys are among both, -1 if one is not ok; for every two rows of numbers; nothing old is written. -/
import Derived.Test.YtkgeekjclcpbpaaKeyW
import Derived.Maps.OwnSet
namespace Go.Proofs.Ytkgeekjclcpbpaa
open Go.RowKit Go.Maps

theorem lawK : Keyed Try.prog 3 := int_keyed Try.underlying3
theorem zeroU (w : World) : (zeroValue 130).run Try.prog w = .ok (.agg #[]) w := by kernel_rfl

/-- The set of keys, as data. -/
def Kd (l : List Int) : DataW Unit := setOf (.agg []) (l.map (Lit.int .i64))
theorem Kd_zero : Kd [] = .map [] := rfl
theorem Kd_snoc (l : List Int) (k : Nat) (hk : k < l.length) : Kd (l.take (k + 1)) = (Kd (l.take k)).put (.int .i64 (Ky.nth l k)) (.agg []) := by
  unfold Kd
  rw [List.take_add_one, List.map_append, Ky.nth_get l k hk]
  simp only [hk, getElem?_pos, Option.toList_some, List.map_cons, List.map_nil]
  exact setOf_snoc _ _ _
theorem has_Kd (l : List Int) (x : Int) : Maps.has (Kd l) (.int .i64 x) = l.contains x := by
  unfold Kd
  rw [has_setOf _ _ _ (by intro y hy; obtain ⟨z, _, rfl⟩ := List.mem_map.1 hy; trivial), List.any_map, List.contains_eq_any_beq]
  congr 1
  funext y
  simp [Lit.sameKey]
  by_cases h : x = y
  · subst h; simp
  · rw [beq_eq_false_iff_ne.2 h, decide_eq_false (fun e => h e.symm)]

/-- A world that holds the set. -/
def Own (w : World) (b : Nat) (l : List Int) : Prop := w.ownsMap Try.prog 3 (unitElem (H := Unit)) b l.length (Kd l)
theorem Own.later {w w' : World} {b : Nat} {l : List Int} (h : Own w b l) (hb : Below w.heap.size w w') : Own w' b l := by
  have hlt := World.ownsMap.lt h
  obtain ⟨es, clock, h1, h2⟩ := h
  exact ⟨es, clock, by rw [hb.block _ hlt]; exact h1, h2⟩

theorem wf_small {x : Int} (h0 : -1000 ≤ x) (h1 : x ≤ 1000) : (Lit.int .i64 x).wf = true := WalkArith.wf_i64 (by omega)

set_option maxHeartbeats 1000000 in
theorem setOf_any (w : World) (v : Value) (l : List Int) (h : Ins w v l) (hok : ∀ i, i < l.length → 1 ≤ Ky.nth l i ∧ Ky.nth l i ≤ 6) (hl6 : l.length ≤ 1000) :
    Calls Try.prog 59 #[v] w fun e w' => e = .returned (.map (some w.heap.size)) ∧ Own w' w.heap.size l ∧ Below w.heap.size w w' := by
  have hmm := @run_makeMap Try.prog
  obtain ⟨a, cap, rfl, _, hrow⟩ := h
  go_enter Try.func59, Try.ntmps59
  go_wp2
  go_loopw [9] (fun i wr => ∃ k : Nat, k ≤ l.length ∧ i = .int .i64 k ∧ wr.ownsMap Try.prog 3 (unitElem (H := Unit)) w.heap.size k (Kd (l.take k)) ∧ Below w.heap.size w wr) (fun i _ => l.length - (intOf i).toNat)
  case atStart => exact ⟨0, Nat.zero_le _, rfl, World.ownsMap_made _ _ _ _, (Below.refl _ _).alloc (Nat.le_refl _) _⟩
  case round =>
    obtain ⟨k, hk, rfl, hown, hw⟩ := hrel
    clear hmm
    by_cases hlt : k < l.length
    · obtain ⟨b, off, rfl, hb, hc⟩ := hrow (by omega)
      have c1 := hc k hlt
      rw [← hw.cell hb] at c1
      obtain ⟨o0, o1⟩ := hok k hlt
      have hkey : keyOf Try.prog 3 (.int .i64 (Ky.nth l k)) = some (.int .i64 (Ky.nth l k)) := keyOf_int_mk Try.underlying3 (wf_small (by omega) (by omega))
      have HS : Hid (Kd (l.take (k + 1)) = _) := Kd_snoc l k hlt
      have HW := hide hw
      clear hc hrow hw hok
      have hi0 : (0 : Int) ≤ (k : Int) := Int.natCast_nonneg _
      have hi1 : (k : Int) < (l.length : Int) := by omega
      go_wp2_with (first
        | (at_mapUpdate; refine wpList_mapUpdate_own _ rfl _ _ _ 97 rfl 3 130 lawK Try.underlying97 (unitElem (H := Unit)) w.heap.size k _ rfl hown (by unfold maxLen; omega) _ _ _ rfl rfl hkey _ [] unitElem_mk ?_; intro w1 hown1 hgrow1)
        | go_in)
      go_roundw
      case rel => exact ⟨k + 1, by omega, by go_num, by rw [HS.out]; exact hown1, (unhide HW).grown hgrow1 (unhide HW).size (fun j hj => by cases hj; exact Nat.le_refl _)⟩
      case measure => simp [intOf]; omega
    · obtain rfl : k = l.length := by omega
      rw [List.take_of_length_le (Nat.le_refl _)] at hown
      have HO := hide hown
      have HW := hide hw
      clear hown hw
      go_wp2
      go_ret
      exact ⟨rfl, unhide HO, unhide HW⟩

set_option maxHeartbeats 1000000 in
theorem has_any (w : World) (b : Nat) (l : List Int) (x : Int) (h : Own w b l) (h0 : -1000 ≤ x) (h1 : x ≤ 1000) :
    Calls Try.prog 114 #[.map (some b), .int .i64 x] w fun e w' => e = .returned (.bool (Ky.isIn l x)) ∧ Below w.heap.size w w' := by
  have hkey : keyOf Try.prog 3 (.int .i64 x) = some (.int .i64 x) := keyOf_int_mk Try.underlying3 (wf_small h0 h1)
  go_enter Try.func114, Try.ntmps114
  go_wp2_with (first
    | (at_lookup; refine wpList_lookup_own_unit _ rfl _ _ 97 rfl 3 130 lawK Try.underlying97 (zeroU _) b l.length _ rfl h _ _ rfl hkey ?_)
    | go_in)
  go_ret
  exact ⟨ret_bool (has_Kd l x), (Below.refl _ _).alloc (Nat.le_refl _) _⟩

set_option maxHeartbeats 1000000 in
theorem countOf_any (w : World) (b : Nat) (l : List Int) (v : Value) (a : List Int) (h : Own w b l) (ha : Ins w v a) (hok : ∀ i, i < a.length → 1 ≤ Ky.nth a i ∧ Ky.nth a i ≤ 6) (hl6 : a.length ≤ 1000) :
    Calls Try.prog 100 #[.map (some b), v] w fun e w' => e = .returned (.int .i64 (Ky.cnt a l)) ∧ Below w.heap.size w w' := by
  obtain ⟨aa, cap, rfl, _, hrow⟩ := ha
  go_enter Try.func100, Try.ntmps100
  go_wp2
  go_loopw [5, 10] (fun n i wr => ∃ k : Nat, k ≤ a.length ∧ i = .int .i64 k ∧ n = .int .i64 (Ky.cnt (a.take k) l) ∧ Below w.heap.size w wr) (fun _ i _ => a.length - (intOf i).toNat)
  case atStart => exact ⟨0, Nat.zero_le _, rfl, rfl, Below.refl _ _⟩
  case round =>
    obtain ⟨k, hk, rfl, rfl, hw⟩ := hrel
    by_cases hlt : k < a.length
    · obtain ⟨ba, off, rfl, hb, hc⟩ := hrow (by omega)
      have c1 := hc k hlt
      rw [← hw.cell hb] at c1
      obtain ⟨o0, o1⟩ := hok k hlt
      have HO : Hid (Own wr b l) := h.later hw
      have HS : Hid _ := Ky.cnt_snoc a k hlt l
      have hcd : Ky.cnt (a.take k) l ≤ 1000 := Nat.le_trans (Ky.cnt_le _ _) (by rw [List.length_take]; omega)
      generalize Ky.cnt (a.take k) l = z at *
      have HW := hide hw
      clear hc hrow hw hok h
      have hi0 : (0 : Int) ≤ (k : Int) := Int.natCast_nonneg _
      have hi1 : (k : Int) < (a.length : Int) := by omega
      cases hT : Ky.isIn l (Ky.nth a k)
      · go_wp2_with (go_at_call 114; refine (has_any _ b l (Ky.nth a k) (unhide HO) (by omega) (by omega)).mono ?_; rintro e w1 ⟨rfl, hb1⟩)
        go_roundw
        case rel => exact ⟨k + 1, by omega, by go_num, by rw [HS.out, hT]; rfl, (unhide HW).trans (hb1.mono (unhide HW).size)⟩
        case measure => simp [intOf]; omega
      · go_wp2_with (go_at_call 114; refine (has_any _ b l (Ky.nth a k) (unhide HO) (by omega) (by omega)).mono ?_; rintro e w1 ⟨rfl, hb1⟩)
        go_roundw
        case rel => exact ⟨k + 1, by omega, by go_num, by rw [HS.out, hT]; rfl, (unhide HW).trans (hb1.mono (unhide HW).size)⟩
        case measure => simp [intOf]; omega
    · obtain rfl : k = a.length := by omega
      have HW := hide hw
      clear hw
      go_wp2
      go_ret
      exact ⟨ret_int (by rw [List.take_of_length_le (Nat.le_refl _)]), unhide HW⟩

theorem small_ok {l : List Int} (h : Ky.keysOk l = true) : (∀ i, i < l.length → 1 ≤ Ky.nth l i ∧ Ky.nth l i ≤ 6) ∧ l.length ≤ 1000 := ⟨(Ky.good_get h).1, Nat.le_trans (Ky.ok_len h) (by omega)⟩

theorem Ins.one (w : World) (x : Int) (t : TypeId) : Ins (w.alloc (.cells #[.int .i64 x] t)) (.slice (some ⟨w.heap.size, 0, none⟩) 1 1) [x] :=
  ⟨_, _, rfl, by simp, fun _ => ⟨w.heap.size, 0, rfl, by simp, fun i hi => by
    obtain rfl : i = 0 := by simpa using hi
    rw [World.cell?_alloc_new]
    rfl⟩⟩
end Go.Proofs.Ytkgeekjclcpbpaa
