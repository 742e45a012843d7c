import Derived.Test.YtgjdomgcnpjnlaaDoorPlanOkW
import Derived.Test.YtgjdomgcnpjnlaaDoorMixG
/- What impl.PlanWhy returns: what is wrong, line by line; for every row of packages that can be read. -/
namespace Go.Proofs.YtgjdomgcnpjnlaaDoor
open Go.RowKit

attribute [local go_sem ↓] Go.wp_at_zero Go.wp_at_succ

set_option maxHeartbeats 2000000 in
set_option maxRecDepth 100000 in
theorem implPlanWhy_any {N : Nat → Prop} (w : World) (v : Value) (l : List Ix.Pg) (h : Pks N w v l) (hroom : ∀ a c, v = .slice a l.length c → l.length ≤ c) :
    Calls Tryd.prog 9 #[v] w fun e w' => e = .returned (.string ⟨(Ix.why l).toArray⟩) ∧ Below w.heap.size w w' := by
  have H := hide h
  have HR := hide hroom
  obtain ⟨a, cap, hv⟩ := h.slice
  subst hv
  clear h hroom
  go_enter Tryd.func9, Tryd.ntmps9
  go_wp2_with fail
  refine (implStoreOk_any _ _ l (unhide H)).mono ?_
  rintro e w1 ⟨rfl, b1⟩
  have B1 := hide b1
  clear b1
  cases hk : Ix.pkgsOk l
  · go_wp2
    go_ret
    exact ⟨ret_str (by unfold Ix.why; rw [hk]; rfl), unhide B1⟩
  · go_wp2_with fail
    refine (faultsOf_any _ _ l ((unhide H).later (unhide B1)) (unhide HR) hk).mono ?_
    rintro e w2 ⟨u, rfl, hs, b2⟩
    have B2 := hide ((unhide B1).trans (b2.mono (unhide B1).size))
    have hwy : Ix.why l = if (Ix.lines l).length = 0 then Ix.fineT else Ix.told (Ix.lines l) := by unfold Ix.why; rw [if_pos hk]
    have hsh : Ix.Short (Ix.lines l) := Ix.linesTo_short l _
    have hll : (Ix.lines l).length ≤ 100 := by
      have h1 := Ix.linesTo_len hk l.length (Nat.le_refl _)
      have h2 := Ix.pkgs_len hk
      unfold Ix.lines
      omega
    have HWY := hide hwy
    have HSH := hide hsh
    clear b2 hwy hsh hk
    generalize Ix.lines l = ls at *
    by_cases h0 : ls.length = 0
    · obtain ⟨ua, uc, hu⟩ := own_formS hs
      subst hu
      have hq : ((ls.length : Int) == 0) = true := by rw [h0]; rfl
      have H0 := hide h0
      clear h0 hs
      go_wp2
      go_ret
      exact ⟨ret_str (by rw [unhide HWY, if_pos (unhide H0)]; rfl), unhide B2⟩
    · have hq : ((ls.length : Int) == 0) = false := by rw [beq_eq_false_iff_ne]; omega
      rcases own_shape hs with ⟨_, hz⟩ | ⟨g, uc, hu, hgB⟩
      · exact absurd hz h0
      subst hu
      have hroom2 : ls.length ≤ uc := by
        obtain ⟨_, h2⟩ := hs
        rcases h2 with ⟨h, _⟩ | ⟨g', cap', cur, hv, _, _, hn, _⟩
        · cases h
        · injection hv with _ _ hv
          subst hv
          exact hn
      have hgl : g < w2.heap.size := by
        obtain ⟨_, c, hc⟩ := own_row hs g rfl
        exact heapLt hc
      obtain ⟨x0, xs, hls⟩ : ∃ x0 xs, ls = x0 :: xs := by
        cases ls with
        | nil => exact absurd rfl h0
        | cons a b => exact ⟨a, b, rfl⟩
      have hjoin := Ix.join_told x0 xs
      rw [← hls] at hjoin
      have hmap : (ls.map fun s => (⟨s.toArray⟩ : ByteArray)).map (·.data.toList) = ls := by rw [List.map_map]; exact List.map_id' ls
      have hcells : ∀ (j : Nat) x, (ls.map fun s => (⟨s.toArray⟩ : ByteArray))[j]? = some x → w2.cell? ⟨g, 0 + j, none⟩ = some (.string x) := fun j x hx => by
        rw [Nat.zero_add]
        rw [List.getElem?_map] at hx
        cases hj : ls[j]? with
        | none => rw [hj] at hx; cases hx
        | some s =>
          rw [hj] at hx
          have e := Option.some.inj hx
          subst e
          exact own_cell hs j _ (by rw [List.getElem?_map, hj]; rfl)
      have hjl : (Lib.join ls [10]).length + 1 = (Ix.told ls).length := by rw [← hjoin, List.length_append]; rfl
      have htl := Ix.told_len ls (unhide HSH)
      have CJ := hide (Tryd.strings_Join g 0 uc (ls.map fun s => (⟨s.toArray⟩ : ByteArray)) ⟨#[10]⟩ w2 hcells hgl (by rw [List.length_map]; omega) (by rw [List.length_map]; exact hroom2) (by rw [hmap]; show (Lib.join ls [10]).length ≤ _; omega))
      rw [List.length_map, hmap] at CJ
      have HJ := hide hjoin
      have hjs : (Lib.join ls [10]).length ≤ 2000 := by omega
      have CJ2 : Hid (Calls Tryd.prog 23 #[.slice (some ⟨g, 0, none⟩) ls.length uc, .string ⟨#[10]⟩] w2 fun e w' => e = .returned (.string ⟨(Lib.join ls [10]).toArray⟩) ∧ Below w2.heap.size w2 w') := unhide CJ
      have hjq : Ix.why l = Lib.join ls [10] ++ [10] := by rw [unhide HWY, if_neg h0]; exact (unhide HJ).symm
      have HJQ := hide hjq
      clear hjq CJ HJ hjoin hjl htl hcells hmap hs hls HSH
      generalize Lib.join ls [10] = js at *
      go_wp2_with fail
      refine (unhide CJ2).mono ?_
      rintro e w3 ⟨rfl, b3⟩
      have B3 := hide ((unhide B2).trans (b3.mono (unhide B2).size))
      have hsz : ¬ 9223372036854775807 < js.length + 1 := by omega
      clear b3
      go_wp2
      go_ret
      exact ⟨ret_str (by rw [unhide HJQ]; exact app_data js [10]), unhide B3⟩
end Go.Proofs.YtgjdomgcnpjnlaaDoor
