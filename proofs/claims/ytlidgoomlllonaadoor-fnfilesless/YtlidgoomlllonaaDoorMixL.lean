import Derived.Test.YtlidgoomlllonaaDoorPlanDrawW
import Derived.Test.YtlidgoomlllonaaDoorMixF
import Derived.Laws.MakeOwn
/- What spec's DrawPlanOk and DrawPlanFiles return: a row of packages that is owned. -/
namespace Go.Proofs.YtlidgoomlllonaaDoor
open Go.RowKit

theorem own_roomP {w : World} {B sz : Nat} {t : TypeId} {a : Option Addr} {n c : Nat} {xs : List Value} (h : w.ownsRow B t sz (.slice a n c) n xs) : n ≤ c := by
  rcases h.2 with ⟨h, h0⟩ | ⟨g', cap', cur, hv, _, _, hn, _⟩
  · omega
  · injection hv with _ _ hv
    subst hv
    exact hn

set_option maxHeartbeats 8000000 in
set_option maxRecDepth 100000 in
theorem drawPlanOk_any (w : World) (a : Option Addr) (len cap : Nat) (h : Bytes w a len cap) :
    Calls Tryd.prog 7 #[.slice a len cap] w fun e w' => ∃ v els, e = .returned v ∧ POx w.heap.size w' v els ∧ els.length ≤ 20 ∧ Below w.heap.size w w' := by
  have H := hide h
  clear h
  go_enter Tryd.func7, Tryd.ntmps7
  go_wp2_with fail
  refine (open_any _ a len cap (unhide H)).mono ?_
  rintro e w1 ⟨rfl, hr1, b1⟩
  have hlt := hr1.lt
  have hsw := b1.size
  have HR1 := hide hr1
  have B1 := hide b1
  clear hr1 b1 H
  go_wp2_with fail
  refine (l71Off_any _ w.heap.size 0 (unhide HR1) (by omega) (by omega)).mono ?_
  rintro e w2 ⟨v, els, p2, rfl, ho, hl, hp2, hr2, hk2⟩
  have HO2 := hide ho
  have HR2 := hide hr2
  have HK2 := hide hk2
  clear ho hr2 hk2 HR1
  go_wp2_with fail
  go_loopw [4, 5] (fun o i w' => ∃ (els : List El) (j p : Nat), i = .int .i64 j ∧ j ≤ 4 ∧ els.length ≤ 20 ∧ p ≤ 600 * (j + 1) ∧ POx w1.heap.size w' o els ∧ Rd w.heap.size w' w.heap.size p ∧ Kp w1.heap.size w.heap.size w1 w') (fun _ i _ => 4 - (intOf i).toNat)
  case atStart => exact ⟨els, 0, p2, rfl, by omega, by omega, by omega, unhide HO2, unhide HR2, unhide HK2⟩
  case round =>
    clear HO2 HR2 HK2 hl hp2
    clear els
    obtain ⟨els, j, p, rfl, hj, hl, hp, ho, hr, hk⟩ := hrel
    obtain ⟨va, vc, hv⟩ := own_formS ho.own
    subst hv
    have HO := hide ho
    have HR := hide hr
    have HK := hide hk
    have hsz := hk.size
    clear ho hr hk
    have HE : Hid (∀ (w' : World) (els' : List El) (u : Value), POx w1.heap.size w' u els' → els'.length ≤ 20 → Kp w1.heap.size w.heap.size w1 w' → ∃ v2 els2, Ending.returned u = Ending.returned v2 ∧ POx w.heap.size w' v2 els2 ∧ els2.length ≤ 20 ∧ Below w.heap.size w w') := fun w' els' u h1 h2 h3 => ⟨_, els', rfl, POx.base h1 hsw, h2, (unhide B1).trans ((h3.mono hsw).below (Nat.le_refl _))⟩
    by_cases hj3 : j < 4
    · have hd : decide ((j : Int) < 4) = true := decide_eq_true (by omega)
      go_wp2_with fail
      refine (pick_any _ w.heap.size p 6 (unhide HR) (by omega) (by omega) (by omega)).mono ?_
      rintro e w3 ⟨v3, rfl, v30, v31, hr3, hk3⟩
      have HR3 := hide hr3
      have HO3 := hide ((unhide HO).kp hk3 hlt)
      have HK3 : Hid (Kp w1.heap.size w.heap.size w1 w3) := (unhide HK).trans hk3 (unhide HK).size
      have hsz3 := (unhide HK3).size
      clear hr3 hk3 HR HO HK
      by_cases hv3 : 0 < v3
      · have hd2 : decide ((0 : Int) < v3) = true := decide_eq_true hv3
        have hPk : Pks (fun b => w1.heap.size ≤ b) w3 (.slice va els.length vc) (els.map (·.1)) := (POwn.weak (unhide HO3) (M := fun b => w1.heap.size ≤ b) (fun b hb => hb.1)).pks (fun b hb => hb) (by omega)
        have CO := hide (specPlanOk_any w3 (.slice va els.length vc) (els.map (·.1)) hPk)
        clear hPk
        generalize Ix.planOk (els.map (·.1)) = okk at *
        go_wp2_with fail
        refine (unhide CO).mono ?_
        rintro e w4 ⟨rfl, b4⟩
        have HR4 := hide ((unhide HR3).later (by omega) b4)
        have HO4 := hide ((unhide HO3).later b4)
        have HK4 : Hid (Kp w1.heap.size w.heap.size w1 w4) := (unhide HK3).trans (Kp.of_below b4) (unhide HK3).size
        have hsz4 := (unhide HK4).size
        clear b4 CO HR3 HO3 HK3
        have HGO : Hid ((okk = true ∧ els.length ≠ 0) ∨ (okk = false ∨ els.length = 0)) := by
          show (okk = true ∧ els.length ≠ 0) ∨ (okk = false ∨ els.length = 0)
          cases okk
          · exact .inr (.inl rfl)
          · by_cases h0 : els.length = 0
            · exact .inr (.inr h0)
            · exact .inl ⟨rfl, h0⟩
        have er : IntKind.i64.wrap ((j : Int) + 1) = (j : Int) + 1 := by simp [IntKind.wrap, IntKind.bits, IntKind.signed]; omega
        rcases unhide HGO with ⟨rfl, h0⟩ | hgo
        · have hq : ((els.length : Int) == 0) = false := by rw [beq_eq_false_iff_ne]; omega
          clear HGO
          go_wp2
          go_ret
          exact unhide HE _ _ _ (unhide HO4) hl (unhide HK4)
        · have HGO2 := hide hgo
          clear hgo HGO
          have HQ : Hid (okk = false ∨ (okk = true ∧ ((els.length : Int) == 0) = true)) := by
            show okk = false ∨ (okk = true ∧ ((els.length : Int) == 0) = true)
            rcases unhide HGO2 with h | h
            · exact .inl h
            · cases okk
              · exact .inl rfl
              · exact .inr ⟨rfl, by rw [h]; rfl⟩
          clear HGO2
          rcases unhide HQ with rfl | ⟨rfl, hq⟩
          all_goals
            clear HQ
            go_wp2_with fail
            refine (l71Pkgs_ok _ w.heap.size (p + 1) (unhide HR4) (by omega) (by omega)).mono ?_
            rintro e w5 ⟨v5, els5, p5, rfl, ho5, hok5, hl5, hp5, hr5, hk5⟩
            have hP5 := (POwn.weak ho5 (M := fun b => w.heap.size < b) (fun b hb => by have := hb.1; omega)).pks (fun b hb => by omega) (by omega)
            have HP5 := hide hP5
            have HR5 := hide hr5
            have HOK5 := hide (Ix.pkgsOk_pair.1 hok5).1
            have HK5 : Hid (Kp w1.heap.size w.heap.size w1 w5) := (unhide HK4).trans hk5 (unhide HK4).size
            have hsz5 := (unhide HK5).size
            clear ho5 hok5 hr5 hk5 hP5 HR4 HO4 HK4
            go_wp2_with fail
            refine (l71Plan_any _ w.heap.size p5 v5 (els5.map (·.1)) (unhide HR5) (by omega) (by omega) (unhide HP5) (unhide HOK5)).mono ?_
            rintro e w6 ⟨v6, els6, p6, rfl, ho6, hok6, hp6, hr6, hk6⟩
            have HO6 := hide (POx.base ho6 hsz5)
            have HR6 := hide hr6
            have HK6 : Hid (Kp w1.heap.size w.heap.size w1 w6) := (unhide HK5).trans hk6 (unhide HK5).size
            have hl6 := Ix.pkgs_len (Ix.planOk_pkgs hok6)
            rw [List.length_map] at hl6
            clear ho6 hok6 hr6 hk6 HP5 HR5 HOK5 HK5
            go_wp2
            go_roundw
            case rel => exact ⟨els6, j + 1, p6, by go_num, by omega, hl6, by omega, unhide HO6, unhide HR6, unhide HK6⟩
            case measure => simp [intOf]; omega
      · have hd2 : decide ((0 : Int) < v3) = false := decide_eq_false hv3
        go_wp2
        go_ret
        exact unhide HE _ _ _ (unhide HO3) hl (unhide HK3)
    · have hd : decide ((j : Int) < 4) = false := decide_eq_false (by omega)
      go_wp2
      go_ret
      exact unhide HE _ _ _ (unhide HO) hl (unhide HK)

set_option maxHeartbeats 1000000 in
theorem drawPlanFiles_any (w : World) (a : Option Addr) (len cap : Nat) (h : Bytes w a len cap) :
    Calls Tryd.prog 11 #[.slice a len cap] w fun e w' => ∃ v els, e = .returned v ∧ POx w.heap.size w' v els ∧ els.length ≤ 20 ∧ Below w.heap.size w w' := by
  have CD := hide (drawPlanOk_any w a len cap h)
  clear h
  go_enter Tryd.func11, Tryd.ntmps11
  go_wp2_with fail
  refine (unhide CD).mono ?_
  rintro e w1 ⟨v, els, rfl, hpo, hms, b1⟩
  have HO := hide hpo
  have B1 := hide b1
  clear hpo b1 CD
  go_wp2
  go_ret
  exact ⟨_, els, rfl, unhide HO, hms, unhide B1⟩
end Go.Proofs.YtlidgoomlllonaaDoor

/- What the laws' own helpers for rows of numbers return: toIntS a copy in memory of its own, eqIntS true of two that read the same, szIntS how much is left. -/
namespace Go.Proofs.YtlidgoomlllonaaDoor
open Go.RowKit



/-- A new row of n numbers. -/
theorem mk_ints (w : World) (n : Nat) (hn : n ≤ 1048576) :
    ∃ C : Array Value, C.size = n ∧ (Instr.makeSlice 26 (.int .i64 (n : Int)) (.int .i64 (n : Int))).run Tryd.prog w = .ok (.slice (some ⟨w.heap.size, 0, none⟩) n n) (w.alloc (.cells C 3)) := by
  obtain ⟨i, hi0, hz0, hz1, hz2⟩ := info_parts infoI
  have h := run_make (P := Tryd.prog) w 26 3 i (.int .i64 0) Tryd.underlying26 hi0 hz0 .i64 .i64 (n : Int) (n : Int) (by omega) (Int.le_refl _) (by rw [hz2]; omega) (by omega)
  rw [hz1] at h
  simp only [Int.toNat_natCast] at h
  exact ⟨_, by rw [size_madeCells, Nat.mul_one], h⟩

/-- The row that is filled: the first k numbers are there. -/
def FillI (w : World) (g : Nat) (l : List Int) (k : Nat) : Prop :=
  ∃ C : Array Value, w.heap[g]? = some (.cells C 3 (0, 0)) ∧ C.size = l.length ∧ ∀ i, i < k → C[i]? = some (.int .i64 (Ky.nth l i))

theorem FillI.more {w : World} {g : Nat} {l : List Int} {k : Nat} (h : FillI w g l k) (hk : k < l.length) :
    FillI (w.setCell ⟨g, k, none⟩ (.int .i64 (Ky.nth l k))) g l (k + 1) := by
  obtain ⟨C, h1, h2, h3⟩ := h
  refine ⟨_, heapSet h1, by simpa using h2, fun i hi => ?_⟩
  rcases Nat.lt_or_ge i k with hlt | hge
  · rw [Array.getElem?_setIfInBounds_ne (by omega)]
    exact h3 i hlt
  · obtain rfl : i = k := by omega
    rw [Array.getElem?_setIfInBounds_self_of_lt (by omega)]

theorem FillI.keep {w w' : World} {g k : Nat} {l : List Int} (h : FillI w g l k) (hb : w'.heap[g]? = w.heap[g]?) : FillI w' g l k := by
  obtain ⟨C, h1, h2, h3⟩ := h
  exact ⟨C, hb.trans h1, h2, h3⟩
theorem FillI.later {w w' : World} {g k : Nat} {l : List Int} (h : FillI w g l k) (hb : Below w.heap.size w w') : FillI w' g l k := by
  obtain ⟨C, h1, h2, h3⟩ := h
  exact ⟨C, (hb.block g (heapLt h1)).trans h1, h2, h3⟩
theorem FillI.ins {w : World} {g : Nat} {l : List Int} (h : FillI w g l l.length) (hl : l.length ≤ 1048576) : Ins w (.slice (some ⟨g, 0, none⟩) l.length l.length) l := by
  obtain ⟨C, h1, h2, h3⟩ := h
  refine ⟨_, _, rfl, by omega, fun _ => ⟨g, 0, rfl, heapLt h1, fun i hi => ?_⟩⟩
  rw [Nat.zero_add, cellOf h1]
  exact h3 i hi

end Go.Proofs.YtlidgoomlllonaaDoor
