import Derived.Test.YtkhanndmbpemfaaGreatDoorMix9
import Derived.Test.YtkhanndmbpemfaaGreatDoorMix4
import Derived.Test.YtkhanndmbpemfaaGreatDoorMix1
import Derived.Test.YtkhanndmbpemfaaGreatDoorMix2
import Derived.Laws.OwnMore
import Derived.Deep.AppendLies
import Derived.Maps.AppendAt
/- What DiskOk returns, on both sides: a disk is ok; for every disk that can be read. -/
namespace Go.Proofs.YtkhanndmbpemfaaGreatDoor
open Go.RowKit

attribute [local go_sem ↓] Go.wp_at_zero Go.wp_at_succ

namespace Dk
/-- A disk as data. -/
structure D where
  db : List Ix.Pg
  fl : List Int
  has : Bool
  jr : List Ix.Pg
def inF (x : Int) : Bool := Pk.inB x (-2) 9
def filesOk (fl : List Int) : Bool := decide (fl.length = 6) && fl.all inF
def D.ok (d : D) : Bool := filesOk d.fl && (Ix.planOk d.db && (Ix.planOk d.jr && (d.has || decide (d.jr.length = 0))))
def D.tru (d : D) : Bool := d.ok && (!d.has && decide (d.fl = Ix.planFiles d.db))
theorem all_yes {fl : List Int} (h : ∀ k, k < fl.length → inF (Ky.nth fl k) = true) : fl.all inF = true := by
  rw [List.all_eq_true]
  intro x hx
  obtain ⟨i, hi, e⟩ := List.getElem_of_mem hx
  have := h i hi
  unfold Ky.nth at this
  rw [List.getD_eq_getElem?_getD, List.getElem?_eq_getElem hi] at this
  rw [← e]
  exact this
theorem all_no {fl : List Int} {k : Nat} (hk : k < fl.length) (h : inF (Ky.nth fl k) = false) : fl.all inF = false := by
  rw [List.all_eq_false]
  refine ⟨fl[k], List.getElem_mem hk, ?_⟩
  unfold Ky.nth at h
  rw [List.getD_eq_getElem?_getD, List.getElem?_eq_getElem hk] at h
  have h2 : inF fl[k] = false := h
  rw [h2]
  simp
theorem ok_get {d : D} (h : d.ok = true) : filesOk d.fl = true ∧ Ix.planOk d.db = true ∧ Ix.planOk d.jr = true ∧ (d.has = true ∨ d.jr = []) := by
  unfold D.ok at h
  rw [Bool.and_eq_true, Bool.and_eq_true, Bool.and_eq_true, Bool.or_eq_true, decide_eq_true_eq] at h
  exact ⟨h.1, h.2.1, h.2.2.1, h.2.2.2.imp id List.length_eq_zero_iff.1⟩
theorem files_get {fl : List Int} (h : filesOk fl = true) : fl.length = 6 ∧ ∀ x ∈ fl, -2 ≤ x ∧ x ≤ 9 := by
  unfold filesOk at h
  rw [Bool.and_eq_true, decide_eq_true_eq, List.all_eq_true] at h
  exact ⟨h.1, fun x hx => Pk.inB_true.1 (h.2 x hx)⟩
end Dk

set_option maxHeartbeats 1000000 in
theorem fileFn_any (w : World) (x : Int) :
    Calls Tryz.prog 85 #[.int .i64 x] w fun e w' => e = .returned (.bool (!Dk.inF x)) ∧ Below w.heap.size w w' := by
  go_enter Tryz.func85, Tryz.ntmps85
  go_wp2_with (go_at_call 86; refine (between_any _ _ _ _).mono ?_; rintro e w' ⟨rfl, rfl⟩)
  go_ret
  exact ⟨rfl, Below.refl _ _⟩

set_option maxHeartbeats 1000000 in
set_option maxRecDepth 100000 in
theorem filesIndex_any (w : World) (v : Value) (l : List Int) (h : Ins w v l) :
    Calls Tryz.prog 108 #[v, .func (.func 85) #[] #[]] w fun e w' => ((∃ k : Nat, k < l.length ∧ Dk.inF (Ky.nth l k) = false ∧ e = .returned (.int .i64 k)) ∨ (e = .returned (.int .i64 (-1)) ∧ ∀ k, k < l.length → Dk.inF (Ky.nth l k) = true)) ∧ Below w.heap.size w w' := by
  obtain ⟨a, cap, rfl, hlen, hrow⟩ := h
  go_enter Tryz.func108, Tryz.ntmps108
  go_wp2_with fail
  go_loopw [8] (fun i w' => ∃ k : Nat, k ≤ l.length ∧ i = .int .i64 k ∧ Below w.heap.size w w' ∧ ∀ j, j < k → Dk.inF (Ky.nth l j) = true) (fun i _ => l.length - (intOf i).toNat)
  case atStart => exact ⟨0, Nat.zero_le _, rfl, Below.refl _ _, fun j hj => by omega⟩
  case round =>
    obtain ⟨k, hk, rfl, hw, hno⟩ := hrel
    have HW := hide hw
    have HN := hide hno
    clear hw hno
    by_cases hlt : k < l.length
    · obtain ⟨b, off, rfl, hb, hc⟩ := hrow (by omega)
      have c0 := hc k hlt
      rw [← (unhide HW).cell hb] at c0
      have hi0 : (0 : Int) ≤ (k : Int) := Int.natCast_nonneg _
      have hi1 : (k : Int) < (l.length : Int) := by omega
      have er : IntKind.i64.wrap ((k : Int) + 1) = (k : Int) + 1 := by simp [IntKind.wrap, IntKind.bits, IntKind.signed]; omega
      clear hc hrow
      go_wp2_with fail
      refine (fileFn_any _ _).mono ?_
      rintro e w1 ⟨rfl, b1⟩
      have HW1 := hide ((unhide HW).trans (b1.mono (unhide HW).size))
      clear b1 c0
      cases hx : Dk.inF (Ky.nth l k)
      · have HXX := hide hx
        clear hx
        go_wp2
        go_ret
        exact ⟨.inl ⟨k, hlt, unhide HXX, rfl⟩, unhide HW1⟩
      · have HXX := hide hx
        clear hx
        go_wp2
        go_roundw
        case rel => exact ⟨k + 1, by omega, by go_num, unhide HW1, fun j hj => by
          rcases Nat.lt_or_ge j k with h | h
          · exact unhide HN j h
          · obtain rfl : j = k := by omega
            exact unhide HXX⟩
        case measure => simp [intOf]; omega
    · obtain rfl : k = l.length := by omega
      clear hlt
      go_wp2
      go_ret
      exact ⟨.inr ⟨rfl, unhide HN⟩, unhide HW⟩

set_option maxHeartbeats 1000000 in
set_option maxRecDepth 100000 in
theorem filesThere_any (w : World) (v : Value) (l : List Int) (h : Ins w v l) :
    Calls Tryz.prog 52 #[v] w fun e w' => e = .returned (.bool (Dk.filesOk l)) ∧ Below w.heap.size w w' := by
  have CI := hide (filesIndex_any w v l h)
  obtain ⟨a, cap, rfl⟩ := h.slice
  clear h
  by_cases h6 : l.length = 6
  · have hn : ((l.length : Int) != 6) = false := by rw [h6]; rfl
    have HN := hide hn
    have H6 := hide h6
    clear hn
    have hneq : ((6 : Int) != 6) = false := rfl
    go_enter Tryz.func52, Tryz.ntmps52
    rw [h6] at CI
    clear h6
    have HM : Hid (((l.length : Int) != 6) = false) := unhide HN
    generalize hL : l.length = L at *
    obtain rfl : L = 6 := unhide H6
    go_wp2_with fail
    refine Calls.mono (R := fun e w' => e = .returned (.bool (!l.all Dk.inF)) ∧ Below w.heap.size w w') ?_ ?_
    · go_enter Tryz.func84, Tryz.ntmps84
      go_wp2_with fail
      refine (unhide CI).mono ?_
      rintro e w3 ⟨⟨k, hk, hx, rfl⟩ | ⟨rfl, hno⟩, b3⟩
      · have B3 := hide b3
        have hge : (0 : Int) ≤ (k : Int) := Int.natCast_nonneg _
        have hd : decide ((0 : Int) ≤ (k : Int)) = true := decide_eq_true hge
        have HX := hide (Dk.all_no (fl := l) (k := k) (by omega) hx)
        clear b3 hx
        go_wp2
        go_ret
        exact ⟨ret_bool (by rw [unhide HX]; rfl), unhide B3⟩
      · have B3 := hide b3
        have HX := hide (Dk.all_yes (fl := l) (fun k hk => hno k (by omega)))
        clear b3 hno
        go_wp2
        go_ret
        exact ⟨ret_bool (by rw [unhide HX]; rfl), unhide B3⟩
    rintro e w4 ⟨rfl, b4⟩
    have B4 := hide b4
    clear b4
    go_wp2
    go_ret
    exact ⟨ret_bool (by unfold Dk.filesOk; rw [hL]; simp), unhide B4⟩
  · have hn : ((l.length : Int) != 6) = true := by rw [bne_iff_ne]; omega
    have HF : Hid (Dk.filesOk l = false) := by show _ = _; unfold Dk.filesOk; rw [decide_eq_false h6]; rfl
    clear CI
    go_enter Tryz.func52, Tryz.ntmps52
    clear h6
    go_wp2
    go_ret
    exact ⟨ret_bool (unhide HF).symm, Below.refl _ _⟩

/-- A disk in a box. -/
abbrev dkV (v1 vf : Value) (has : Bool) (v2 : Value) : Value := .agg #[v1, vf, .bool has, v2]

set_option maxHeartbeats 2000000 in
set_option maxRecDepth 100000 in
theorem implDiskOk_any {N M : Nat → Prop} (w : World) (d : Dk.D) (v1 vf v2 : Value) (h1 : Pks N w v1 d.db) (r1 : ∀ a c, v1 = .slice a d.db.length c → d.db.length ≤ c) (hf : Ins w vf d.fl) (h2 : Pks M w v2 d.jr) (r2 : ∀ a c, v2 = .slice a d.jr.length c → d.jr.length ≤ c) :
    Calls Tryz.prog 21 #[dkV v1 vf d.has v2] w fun e w' => e = .returned (.bool d.ok) ∧ Below w.heap.size w w' := by
  obtain ⟨db, fl, has, jr⟩ := d
  dsimp only [dkV] at *
  have hok : (Dk.D.mk db fl has jr).ok = (Dk.filesOk fl && (Ix.planOk db && (Ix.planOk jr && (has || decide (jr.length = 0))))) := rfl
  have HOK := hide hok
  clear hok
  generalize (Dk.D.mk db fl has jr).ok = OK at *
  obtain ⟨a1, c1, e1⟩ := h1.slice
  obtain ⟨af, cf, ef⟩ := hf.slice
  obtain ⟨a2, c2, e2⟩ := h2.slice
  subst e1 ef e2
  have b0 := below1 w (.cells #[.slice a1 db.length c1, .slice af fl.length cf, .bool has, .slice a2 jr.length c2] 31)
  have HB := hide (heap_alloc_new w (.cells #[.slice a1 db.length c1, .slice af fl.length cf, .bool has, .slice a2 jr.length c2] 31))
  have BW := hide b0
  have H1 := hide (h1.later b0)
  have HF := hide (hf.later b0)
  have H2 := hide (h2.later b0)
  have R := hide (And.intro r1 r2)
  clear h1 hf h2 r1 r2 b0
  go_enter Tryz.func21, Tryz.ntmps21
  go_wp2_with fail
  refine (filesThere_any _ _ fl (unhide HF)).mono ?_
  generalize w.alloc _ = W0 at *
  rintro e w1 ⟨rfl, b⟩
  replace HB := hide ((b.block _ (heapLt (unhide HB))).trans (unhide HB))
  replace BW := hide ((unhide BW).trans (b.mono (unhide BW).size))
  replace H1 := hide ((unhide H1).later b)
  replace H2 := hide ((unhide H2).later b)
  clear b HF
  obtain ⟨x0, x1, x2, x3⟩ : _ ∧ _ ∧ _ ∧ _ := ⟨cellOf (unhide HB) 0, cellOf (unhide HB) 1, cellOf (unhide HB) 2, cellOf (unhide HB) 3⟩
  cases hA : Dk.filesOk fl
  · have HE : Hid (OK = false) := by show _ = _; rw [unhide HOK, hA]; rfl
    clear hA
    go_wp2
    go_ret
    exact ⟨ret_bool (unhide HE).symm, unhide BW⟩
  go_wp2_with fail
  refine (implPlanOk_any _ _ db (unhide H1) (unhide R).1).mono ?_
  rintro e w2 ⟨rfl, b⟩
  replace HB := hide ((b.block _ (heapLt (unhide HB))).trans (unhide HB))
  replace BW := hide ((unhide BW).trans (b.mono (unhide BW).size))
  replace H2 := hide ((unhide H2).later b)
  clear b H1 x0 x1 x2 x3
  obtain ⟨x0, x1, x2, x3⟩ : _ ∧ _ ∧ _ ∧ _ := ⟨cellOf (unhide HB) 0, cellOf (unhide HB) 1, cellOf (unhide HB) 2, cellOf (unhide HB) 3⟩
  cases hC : Ix.planOk db
  · have HE : Hid (OK = false) := by show _ = _; rw [unhide HOK, hA, hC]; rfl
    clear hA hC
    go_wp2
    go_ret
    exact ⟨ret_bool (unhide HE).symm, unhide BW⟩
  go_wp2_with fail
  refine (implPlanOk_any _ _ jr (unhide H2) (unhide R).2).mono ?_
  rintro e w3 ⟨rfl, b⟩
  replace HB := hide ((b.block _ (heapLt (unhide HB))).trans (unhide HB))
  replace BW := hide ((unhide BW).trans (b.mono (unhide BW).size))
  clear b H2 x0 x1 x2 x3
  obtain ⟨x0, x1, x2, x3⟩ : _ ∧ _ ∧ _ ∧ _ := ⟨cellOf (unhide HB) 0, cellOf (unhide HB) 1, cellOf (unhide HB) 2, cellOf (unhide HB) 3⟩
  cases hD : Ix.planOk jr
  · have HE : Hid (OK = false) := by show _ = _; rw [unhide HOK, hA, hC, hD]; rfl
    clear hA hC hD
    go_wp2
    go_ret
    exact ⟨ret_bool (unhide HE).symm, unhide BW⟩
  cases has
  · have hj : ((jr.length : Int) == 0) = decide (jr.length = 0) := by
      by_cases h : jr.length = 0
      · rw [decide_eq_true h, beq_iff_eq]; omega
      · rw [decide_eq_false h, beq_eq_false_iff_ne]; omega
    have HE : Hid (OK = decide (jr.length = 0)) := by show _ = _; rw [unhide HOK, hA, hC, hD]; simp
    clear hA hC hD
    generalize decide (jr.length = 0) = q at *
    cases q
    · go_wp2
      go_ret
      exact ⟨ret_bool (unhide HE).symm, unhide BW⟩
    · go_wp2
      go_ret
      exact ⟨ret_bool (unhide HE).symm, unhide BW⟩
  · have HE : Hid (OK = true) := by show _ = _; rw [unhide HOK, hA, hC, hD]; rfl
    clear hA hC hD
    go_wp2
    go_ret
    exact ⟨ret_bool (unhide HE).symm, unhide BW⟩

set_option maxHeartbeats 4000000 in
set_option maxRecDepth 100000 in
theorem specDiskOk_any {N M : Nat → Prop} (w : World) (d : Dk.D) (v1 vf v2 : Value) (h1 : Pks N w v1 d.db) (hf : Ins w vf d.fl) (h2 : Pks M w v2 d.jr) :
    Calls Tryz.prog 26 #[dkV v1 vf d.has v2] w fun e w' => e = .returned (.bool d.ok) ∧ Below w.heap.size w w' := by
  obtain ⟨db, fl, has, jr⟩ := d
  dsimp only [dkV] at *
  have hok : (Dk.D.mk db fl has jr).ok = ((decide (fl.length = 6) && fl.all Dk.inF) && (Ix.planOk db && (Ix.planOk jr && (has || decide (jr.length = 0))))) := rfl
  have HOK := hide hok
  clear hok
  generalize (Dk.D.mk db fl has jr).ok = OK at *
  obtain ⟨a1, c1, e1⟩ := h1.slice
  obtain ⟨a2, c2, e2⟩ := h2.slice
  obtain ⟨af, cf, ef, hlen, hrow⟩ := hf
  subst e1 ef e2
  have b0 := below1 w (.cells #[.slice a1 db.length c1, .slice af fl.length cf, .bool has, .slice a2 jr.length c2] 31)
  have HB := hide (heap_alloc_new w (.cells #[.slice a1 db.length c1, .slice af fl.length cf, .bool has, .slice a2 jr.length c2] 31))
  have BW := hide b0
  have HR := hide hrow
  have H1 := hide h1
  have H2 := hide h2
  clear h1 h2 b0 hrow
  go_enter Tryz.func26, Tryz.ntmps26
  go_wp2_with fail
  go_loopw [3] (fun i w' => ∃ k : Nat, k ≤ fl.length ∧ i = .int .i64 k ∧ Below w.heap.size w w' ∧ w'.heap[w.heap.size]? = some (.cells #[.slice a1 db.length c1, .slice af fl.length cf, .bool has, .slice a2 jr.length c2] 31 (0, 0)) ∧ ∀ j, j < k → Dk.inF (Ky.nth fl j) = true) (fun i _ => fl.length - (intOf i).toNat)
  case atStart => exact ⟨0, Nat.zero_le _, rfl, unhide BW, unhide HB, fun j hj => by omega⟩
  case round =>
    clear BW HB
    obtain ⟨k, hk, rfl, hw, hb, hno⟩ := hrel
    have BW := hide hw
    have HB := hide hb
    have HN := hide hno
    clear hw hb hno
    obtain ⟨x0, x1, x2, x3⟩ : _ ∧ _ ∧ _ ∧ _ := ⟨cellOf (unhide HB) 0, cellOf (unhide HB) 1, cellOf (unhide HB) 2, cellOf (unhide HB) 3⟩
    by_cases hlt : k < fl.length
    · obtain ⟨b, off, rfl, hb, hc⟩ := unhide HR (by omega)
      have d0 := hc k hlt
      rw [← (unhide BW).cell hb] at d0
      have hi0 : (0 : Int) ≤ (k : Int) := Int.natCast_nonneg _
      have hi1 : (k : Int) < (fl.length : Int) := by omega
      have hbs : b < wr.heap.size := Nat.lt_of_lt_of_le hb (unhide BW).size
      clear hc
      cases hx : Dk.inF (Ky.nth fl k)
      · have HE : Hid (OK = false) := by show _ = _; rw [unhide HOK, Dk.all_no hlt hx]; simp
        have HX : Hid (Pk.inB (Ky.nth fl k) (-2) 9 = false) := hx
        clear hx
        go_wp2_with (go_at_call 56; refine (in_any _ _ _ _).mono ?_; rw [unhide HX]; rintro e w' ⟨rfl, rfl⟩)
        go_ret
        exact ⟨ret_bool (unhide HE).symm, unhide BW⟩
      · have HXX := hide hx
        have HX : Hid (Pk.inB (Ky.nth fl k) (-2) 9 = true) := hx
        clear hx
        go_wp2_with (go_at_call 56; refine (in_any _ _ _ _).mono ?_; rw [unhide HX]; rintro e w' ⟨rfl, rfl⟩)
        go_roundw
        case rel => exact ⟨k + 1, by omega, by go_num, unhide BW, unhide HB, fun j hj => by
          rcases Nat.lt_or_ge j k with h | h
          · exact unhide HN j h
          · obtain rfl : j = k := by omega
            exact unhide HXX⟩
        case measure => simp [intOf]; omega
    · obtain rfl : k = fl.length := by omega
      have hall := Dk.all_yes (unhide HN)
      have HALL := hide hall
      clear hlt HN HR hall
      by_cases h6 : fl.length = 6
      rotate_left
      · have hq : ((fl.length : Int) == 6) = false := by rw [beq_eq_false_iff_ne]; omega
        have HE : Hid (OK = false) := by show _ = _; rw [unhide HOK, decide_eq_false h6]; rfl
        clear h6
        go_wp2
        go_ret
        exact ⟨ret_bool (unhide HE).symm, unhide BW⟩
      have hq : ((fl.length : Int) == 6) = true := by rw [h6]; rfl
      have H6 := hide h6
      clear h6
      go_wp2_with fail
      refine (specPlanOk_any _ _ db ((unhide H1).later (unhide BW))).mono ?_
      rintro e w2 ⟨rfl, b⟩
      replace HB := hide ((b.block _ (heapLt (unhide HB))).trans (unhide HB))
      replace BW := hide ((unhide BW).trans (b.mono (unhide BW).size))
      clear b x0 x1 x2 x3
      obtain ⟨x0, x1, x2, x3⟩ : _ ∧ _ ∧ _ ∧ _ := ⟨cellOf (unhide HB) 0, cellOf (unhide HB) 1, cellOf (unhide HB) 2, cellOf (unhide HB) 3⟩
      cases hC : Ix.planOk db
      · have HE : Hid (OK = false) := by show _ = _; rw [unhide HOK, hC]; simp
        clear hC
        go_wp2
        go_ret
        exact ⟨ret_bool (unhide HE).symm, unhide BW⟩
      go_wp2_with fail
      refine (specPlanOk_any _ _ jr ((unhide H2).later (unhide BW))).mono ?_
      rintro e w3 ⟨rfl, b⟩
      replace HB := hide ((b.block _ (heapLt (unhide HB))).trans (unhide HB))
      replace BW := hide ((unhide BW).trans (b.mono (unhide BW).size))
      clear b x0 x1 x2 x3
      obtain ⟨x0, x1, x2, x3⟩ : _ ∧ _ ∧ _ ∧ _ := ⟨cellOf (unhide HB) 0, cellOf (unhide HB) 1, cellOf (unhide HB) 2, cellOf (unhide HB) 3⟩
      cases hD : Ix.planOk jr
      · have HE : Hid (OK = false) := by show _ = _; rw [unhide HOK, hC, hD]; simp
        clear hC hD
        go_wp2
        go_ret
        exact ⟨ret_bool (unhide HE).symm, unhide BW⟩
      cases has
      · have hj : ((jr.length : Int) == 0) = decide (jr.length = 0) := by
          by_cases h : jr.length = 0
          · rw [decide_eq_true h, beq_iff_eq]; omega
          · rw [decide_eq_false h, beq_eq_false_iff_ne]; omega
        have HE : Hid (OK = decide (jr.length = 0)) := by show _ = _; rw [unhide HOK, unhide HALL, unhide H6, hC, hD]; simp
        clear hC hD
        generalize decide (jr.length = 0) = q at *
        cases q
        · go_wp2
          go_ret
          exact ⟨ret_bool (unhide HE).symm, unhide BW⟩
        · go_wp2
          go_ret
          exact ⟨ret_bool (unhide HE).symm, unhide BW⟩
      · have HE : Hid (OK = true) := by show _ = _; rw [unhide HOK, unhide HALL, unhide H6, hC, hD]; rfl
        clear hC hD
        go_wp2
        go_ret
        exact ⟨ret_bool (unhide HE).symm, unhide BW⟩
end Go.Proofs.YtkhanndmbpemfaaGreatDoor

/- What the laws' markPkg and heldPkg do: marks are laid into a package's rows, and nowhere else; they are read again. -/
namespace Go.Proofs.YtkhanndmbpemfaaGreatDoor
open Go.RowKit

/-- The marks that are laid, a pair a place. -/
def marks (k : Int) (n : Nat) : List (Int × Int) := (List.range n).map fun i : Nat => (k + 2 * (i : Int), k + 2 * (i : Int) + 1)
theorem marks_len (k : Int) (n : Nat) : (marks k n).length = n := by simp [marks]
theorem marks_succ (k : Int) (n : Nat) : marks k (n + 1) = marks k n ++ [(k + 2 * (n : Int), k + 2 * (n : Int) + 1)] := by simp [marks, List.range_succ]
theorem marks_at (k : Int) (n j : Nat) (h : j < n) : Pk.fst (marks k n) j = k + 2 * (j : Int) ∧ Pk.snd (marks k n) j = k + 2 * (j : Int) + 1 := by
  simp [Pk.fst, Pk.snd, marks, h]
theorem flat_app (a b : List (Int × Int)) : flat (a ++ b) = flat a ++ flat b := by unfold flat; rw [List.flatMap_append]
theorem flat_length : ∀ a : List (Int × Int), (flat a).length = a.length * 2
  | [] => rfl
  | x :: l => by
    have := flat_length l
    show (Value.int .i64 x.1 :: Value.int .i64 x.2 :: flat l).length = _
    simp only [List.length_cons, this]
    omega
theorem mark_set (k : Int) (l : List (Int × Int)) (j : Nat) (h : j < l.length) : ((flat (marks k j ++ l.drop j)).set (j * 2) (.int .i64 (k + 2 * j))).set (j * 2 + 1) (.int .i64 (k + 2 * j + 1)) = flat (marks k (j + 1) ++ l.drop (j + 1)) := by
  have hlen : (flat (marks k j)).length = j * 2 := by rw [flat_length, marks_len]
  rw [List.drop_eq_getElem_cons h, flat_app, List.set_append_right _ _ (by omega), List.set_append_right _ _ (by omega), hlen, Nat.sub_self, Nat.add_sub_cancel_left, marks_succ, flat_app, flat_app]
  rw [List.append_assoc]
  rfl
theorem grown_reflM (w : World) (r : Option Nat) : w.grownBy w r := ⟨rfl, rfl, rfl, Nat.le_refl _, fun _ _ _ => rfl⟩

set_option maxHeartbeats 2000000 in
set_option maxRecDepth 100000 in
theorem markFileS_any (w : World) (v : Value) (l : List (Int × Int)) (B : Nat) (k : Int) (h : w.ownsRow B 120 2 v l.length (flat l)) (hl : l.length ≤ 1048576) (k0 : 0 ≤ k) (k1 : k ≤ 1000000000000000) :
    Calls Tryz.prog 74 #[v, .int .i64 k] w fun e w' => e = .returned (.int .i64 (k + 2 * l.length)) ∧ w'.ownsRow B 120 2 v l.length (flat (marks k l.length)) ∧ w.grownBy w' v.ownBlock := by
  obtain ⟨a, cap, rfl⟩ := own_form h
  have H := hide h
  clear h
  go_enter Tryz.func74, Tryz.ntmps74
  go_wp2_with fail
  go_loopw [1, 5] (fun kv i w' => ∃ j : Nat, j ≤ l.length ∧ i = .int .i64 j ∧ kv = .int .i64 (k + 2 * j) ∧ w'.ownsRow B 120 2 (.slice a l.length cap) l.length (flat (marks k j ++ l.drop j)) ∧ w.grownBy w' (Value.slice a l.length cap).ownBlock) (fun _ i _ => l.length - (intOf i).toNat)
  case atStart => exact ⟨0, Nat.zero_le _, rfl, by simp, by simpa [marks] using unhide H, grown_reflM _ _⟩
  case round =>
    obtain ⟨j, hj, rfl, rfl, ho, hg⟩ := hrel
    have HO := hide ho
    have HG := hide hg
    by_cases hlt : j < l.length
    · obtain ⟨gb, cp, e, _, hgl⟩ := ho.form (by omega)
      injection e with e1 _ e3
      subst e1 e3
      have hat := flat_at (marks k j ++ l.drop j) j (by rw [List.length_append, marks_len, List.length_drop]; omega)
      have c1 : wr.cell? ⟨gb, j * 2, none⟩ = some (.int .i64 (Pk.fst (marks k j ++ l.drop j) j)) := by rw [ho.cellAt _ (by omega)]; exact hat.1
      have c2 : wr.cell? ⟨gb, j * 2 + 1, none⟩ = some (.int .i64 (Pk.snd (marks k j ++ l.drop j) j)) := by rw [ho.cellAt _ (by omega)]; exact hat.2
      have f1 : wr.frozen? ⟨gb, j * 2, none⟩ = false := ho.frozenAt _
      have f2 : wr.frozen? ⟨gb, j * 2 + 1, none⟩ = false := ho.frozenAt _
      have hi0 : (0 : Int) ≤ (j : Int) := Int.natCast_nonneg _
      have hi1 : (j : Int) < (l.length : Int) := by omega
      have HSET := hide (mark_set k l j hlt)
      clear ho hg hat
      go_wp2_with fail
      have h1 := (unhide HO).stored (j * 2) (.int .i64 (k + 2 * j))
      have h2 := h1.1.stored (j * 2 + 1) (.int .i64 (k + 2 * j + 1))
      go_roundw
      case rel =>
        refine ⟨j + 1, by omega, by go_num, by go_num, ?_, (unhide HG).trans (h1.2.trans h2.2)⟩
        rw [← unhide HSET]
        exact h2.1
      case measure => simp [intOf]; omega
    · obtain rfl : j = l.length := by omega
      rw [List.drop_length, List.append_nil] at HO
      clear ho hg hlt
      go_wp2
      go_ret
      exact ⟨rfl, unhide HO, unhide HG⟩

set_option maxHeartbeats 2000000 in
set_option maxRecDepth 100000 in
theorem heldFileS_any (w : World) (v : Value) (n : Nat) (B : Nat) (k : Int) (h : w.ownsRow B 120 2 v n (flat (marks k n))) (hl : n ≤ 1000) (k0 : 0 ≤ k) (k1 : k ≤ 1000000000000000) :
    Calls Tryz.prog 76 #[v, .int .i64 k] w fun e w' => e = .returned (.int .i64 (k + 2 * n)) ∧ w' = w := by
  obtain ⟨a, cap, rfl⟩ := own_form h
  have H := hide h
  clear h
  go_enter Tryz.func76, Tryz.ntmps76
  go_wp2_with fail
  go_loop [1, 5] (fun kv i => ∃ j : Nat, j ≤ n ∧ i = .int .i64 j ∧ kv = .int .i64 (k + 2 * j)) (fun _ i => n - (intOf i).toNat)
  case atStart => exact ⟨0, Nat.zero_le _, rfl, by simp⟩
  case round =>
    obtain ⟨j, hj, rfl, rfl⟩ := hrel
    by_cases hlt : j < n
    · obtain ⟨gb, cp, e, _, hgl⟩ := (unhide H).form (by omega)
      injection e with e1 _ e3
      subst e1 e3
      have hat := flat_at (marks k n) j (by rw [marks_len]; exact hlt)
      have c1 : w.cell? ⟨gb, j * 2, none⟩ = some (.int .i64 (k + 2 * j)) := by rw [(unhide H).cellAt _ (by omega), hat.1, (marks_at k n j hlt).1]
      have c2 : w.cell? ⟨gb, j * 2 + 1, none⟩ = some (.int .i64 (k + 2 * j + 1)) := by rw [(unhide H).cellAt _ (by omega), hat.2, (marks_at k n j hlt).2]
      have hi0 : (0 : Int) ≤ (j : Int) := Int.natCast_nonneg _
      have hi1 : (j : Int) < (n : Int) := by omega
      have b1 : (k + 2 * (j : Int) != k + 2 * (j : Int)) = false := by simp
      have b2 : (k + 2 * (j : Int) + 1 != k + 2 * (j : Int) + 1) = false := by simp
      clear hat
      go_wp2
      go_round
      case rel => exact ⟨j + 1, by omega, by go_num, by go_num⟩
      case measure => simp [intOf]; omega
    · obtain rfl : j = n := by omega
      go_wp2
      go_ret
      exact ⟨rfl, rfl⟩

set_option maxHeartbeats 2000000 in
set_option maxRecDepth 100000 in
theorem markDepS_any (w : World) (v : Value) (l : List (Int × Int)) (B : Nat) (k : Int) (h : w.ownsRow B 117 2 v l.length (flat l)) (hl : l.length ≤ 1048576) (k0 : 0 ≤ k) (k1 : k ≤ 1000000000000000) :
    Calls Tryz.prog 75 #[v, .int .i64 k] w fun e w' => e = .returned (.int .i64 (k + 2 * l.length)) ∧ w'.ownsRow B 117 2 v l.length (flat (marks k l.length)) ∧ w.grownBy w' v.ownBlock := by
  obtain ⟨a, cap, rfl⟩ := own_form h
  have H := hide h
  clear h
  go_enter Tryz.func75, Tryz.ntmps75
  go_wp2_with fail
  go_loopw [1, 5] (fun kv i w' => ∃ j : Nat, j ≤ l.length ∧ i = .int .i64 j ∧ kv = .int .i64 (k + 2 * j) ∧ w'.ownsRow B 117 2 (.slice a l.length cap) l.length (flat (marks k j ++ l.drop j)) ∧ w.grownBy w' (Value.slice a l.length cap).ownBlock) (fun _ i _ => l.length - (intOf i).toNat)
  case atStart => exact ⟨0, Nat.zero_le _, rfl, by simp, by simpa [marks] using unhide H, grown_reflM _ _⟩
  case round =>
    obtain ⟨j, hj, rfl, rfl, ho, hg⟩ := hrel
    have HO := hide ho
    have HG := hide hg
    by_cases hlt : j < l.length
    · obtain ⟨gb, cp, e, _, hgl⟩ := ho.form (by omega)
      injection e with e1 _ e3
      subst e1 e3
      have hat := flat_at (marks k j ++ l.drop j) j (by rw [List.length_append, marks_len, List.length_drop]; omega)
      have c1 : wr.cell? ⟨gb, j * 2, none⟩ = some (.int .i64 (Pk.fst (marks k j ++ l.drop j) j)) := by rw [ho.cellAt _ (by omega)]; exact hat.1
      have c2 : wr.cell? ⟨gb, j * 2 + 1, none⟩ = some (.int .i64 (Pk.snd (marks k j ++ l.drop j) j)) := by rw [ho.cellAt _ (by omega)]; exact hat.2
      have f1 : wr.frozen? ⟨gb, j * 2, none⟩ = false := ho.frozenAt _
      have f2 : wr.frozen? ⟨gb, j * 2 + 1, none⟩ = false := ho.frozenAt _
      have hi0 : (0 : Int) ≤ (j : Int) := Int.natCast_nonneg _
      have hi1 : (j : Int) < (l.length : Int) := by omega
      have HSET := hide (mark_set k l j hlt)
      clear ho hg hat
      go_wp2_with fail
      have h1 := (unhide HO).stored (j * 2) (.int .i64 (k + 2 * j))
      have h2 := h1.1.stored (j * 2 + 1) (.int .i64 (k + 2 * j + 1))
      go_roundw
      case rel =>
        refine ⟨j + 1, by omega, by go_num, by go_num, ?_, (unhide HG).trans (h1.2.trans h2.2)⟩
        rw [← unhide HSET]
        exact h2.1
      case measure => simp [intOf]; omega
    · obtain rfl : j = l.length := by omega
      rw [List.drop_length, List.append_nil] at HO
      clear ho hg hlt
      go_wp2
      go_ret
      exact ⟨rfl, unhide HO, unhide HG⟩

set_option maxHeartbeats 2000000 in
set_option maxRecDepth 100000 in
theorem heldDepS_any (w : World) (v : Value) (n : Nat) (B : Nat) (k : Int) (h : w.ownsRow B 117 2 v n (flat (marks k n))) (hl : n ≤ 1000) (k0 : 0 ≤ k) (k1 : k ≤ 1000000000000000) :
    Calls Tryz.prog 77 #[v, .int .i64 k] w fun e w' => e = .returned (.int .i64 (k + 2 * n)) ∧ w' = w := by
  obtain ⟨a, cap, rfl⟩ := own_form h
  have H := hide h
  clear h
  go_enter Tryz.func77, Tryz.ntmps77
  go_wp2_with fail
  go_loop [1, 5] (fun kv i => ∃ j : Nat, j ≤ n ∧ i = .int .i64 j ∧ kv = .int .i64 (k + 2 * j)) (fun _ i => n - (intOf i).toNat)
  case atStart => exact ⟨0, Nat.zero_le _, rfl, by simp⟩
  case round =>
    obtain ⟨j, hj, rfl, rfl⟩ := hrel
    by_cases hlt : j < n
    · obtain ⟨gb, cp, e, _, hgl⟩ := (unhide H).form (by omega)
      injection e with e1 _ e3
      subst e1 e3
      have hat := flat_at (marks k n) j (by rw [marks_len]; exact hlt)
      have c1 : w.cell? ⟨gb, j * 2, none⟩ = some (.int .i64 (k + 2 * j)) := by rw [(unhide H).cellAt _ (by omega), hat.1, (marks_at k n j hlt).1]
      have c2 : w.cell? ⟨gb, j * 2 + 1, none⟩ = some (.int .i64 (k + 2 * j + 1)) := by rw [(unhide H).cellAt _ (by omega), hat.2, (marks_at k n j hlt).2]
      have hi0 : (0 : Int) ≤ (j : Int) := Int.natCast_nonneg _
      have hi1 : (j : Int) < (n : Int) := by omega
      have b1 : (k + 2 * (j : Int) != k + 2 * (j : Int)) = false := by simp
      have b2 : (k + 2 * (j : Int) + 1 != k + 2 * (j : Int) + 1) = false := by simp
      clear hat
      go_wp2
      go_round
      case rel => exact ⟨j + 1, by omega, by go_num, by go_num⟩
      case measure => simp [intOf]; omega
    · obtain rfl : j = n := by omega
      go_wp2
      go_ret
      exact ⟨rfl, rfl⟩

/-- A row of files and a row of needs do not lie in one block. -/
theorem file_dep_ne {w : World} {B B' : Nat} {v v' : Value} {n n' : Nat} {xs xs' : List Value} (h : w.ownsRow B 120 2 v n xs) (h' : w.ownsRow B' 117 2 v' n' xs') : ∀ g, v'.ownBlock = some g → some g ≠ v.ownBlock := by
  intro g hg' hg
  rcases h.2 with ⟨rfl, _⟩ | ⟨g1, c1, cur1, rfl, _, hb1, _⟩
  · cases hg
  rcases h'.2 with ⟨rfl, _⟩ | ⟨g2, c2, cur2, rfl, _, hb2, _⟩
  · cases hg'
  simp only [Value.ownBlock, Option.some.injEq] at hg hg'
  subst hg'
  subst hg
  rw [hb1] at hb2
  injection hb2 with hb2
  injection hb2 with _ hb2 _
  revert hb2
  decide

end Go.Proofs.YtkhanndmbpemfaaGreatDoor
