import Derived.Test.YtkhanndmbpemfaaGreatDoorPksW
import Derived.Test.YtkhanndmbpemfaaGreatDoorMix2
import Derived.Test.YtkhanndmbpemfaaGreatDoorMix3
import Derived.Test.YtkhanndmbpemfaaGreatDoorMix4
import Derived.Test.YtkhanndmbpemfaaGreatDoorCopyPW
import Derived.Test.YtkhanndmbpemfaaGreatDoorMix1
/- What impl's methods of a package answer, and the first package of which one is true; for every row of packages that can be read. -/
namespace Go.Proofs.YtkhanndmbpemfaaGreatDoor
open Go.RowKit

attribute [local go_sem ↓] Go.wp_at_zero Go.wp_at_succ

theorem below12 (w : World) (o o2 : Obj) : Below w.heap.size w ((w.alloc o).alloc o2) := (below1 w o).trans ((below1 _ o2).mono (below1 w o).size)
set_option maxHeartbeats 1000000 in
set_option maxRecDepth 100000 in
theorem title_any (w : World) (nm vr : Int) (fv dv : Value) (h0 : 1 ≤ nm) (h1 : nm ≤ 4) (h2 : 0 ≤ vr) (h3 : vr ≤ 9) :
    Calls Tryz.prog 127 #[.agg #[.int .i64 nm, .int .i64 vr, fv, dv]] w fun e w' => e = .returned (.string ⟨(Pk.nameT nm vr).toArray⟩) ∧ Below w.heap.size w w' := by
  have HB := hide (below1 w (.cells #[.int .i64 nm, .int .i64 vr, fv, dv] 94))
  go_enter Tryz.func127, Tryz.ntmps127
  go_wp2_with (go_at_call 130; refine (spellNamed_any nm vr _ h0 h1 h2 h3).mono ?_; rintro e w' ⟨rfl, rfl⟩)
  go_ret
  exact ⟨rfl, unhide HB⟩

set_option maxHeartbeats 1000000 in
set_option maxRecDepth 100000 in
theorem meets_any (w : World) (nm vr : Int) (fv dv : Value) (fs ds : List (Int × Int)) (a b : Int) :
    Calls Tryz.prog 129 #[.agg #[.int .i64 nm, .int .i64 vr, fv, dv], .agg #[.int .i64 a, .int .i64 b]] w fun e w' => e = .returned (.bool (Ix.meetsP (a, b) (nm, vr, fs, ds))) ∧ Below w.heap.size w w' := by
  have HB := hide (below12 w (.cells #[.int .i64 nm, .int .i64 vr, fv, dv] 94) (.cells #[.int .i64 a, .int .i64 b] 117))
  by_cases he : nm = a
  · have HE := hide he
    have hq : (nm == a) = true := by simpa using he
    clear he
    go_enter Tryz.func129, Tryz.ntmps129
    go_wp2
    go_ret
    refine ⟨ret_bool ?_, unhide HB⟩
    unfold Ix.meetsP
    rw [decide_eq_true (unhide HE), Bool.true_and]
  · have hq : (nm == a) = false := by simpa using he
    go_enter Tryz.func129, Tryz.ntmps129
    go_wp2
    go_ret
    refine ⟨ret_bool ?_, unhide HB⟩
    unfold Ix.meetsP
    rw [decide_eq_false he, Bool.false_and]
set_option maxHeartbeats 1000000 in
set_option maxRecDepth 100000 in
theorem hasFn_any (w : World) (pb : Nat) (path a b : Int) (hp : w.heap[pb]? = some (.cells #[.int .i64 path] 3 (0, 0))) :
    Calls Tryz.prog 136 #[.agg #[.int .i64 a, .int .i64 b], .pointer (some ⟨pb, 0, none⟩)] w fun e w' => e = .returned (.bool (a == path)) ∧ Below w.heap.size w w' := by
  have HB := hide (below1 w (.cells #[.int .i64 a, .int .i64 b] 120))
  have c0 := cellOf hp 0
  have hlt := heapLt hp
  clear hp
  go_enter Tryz.func136, Tryz.ntmps136
  go_wp2
  go_ret
  exact ⟨rfl, unhide HB⟩
set_option maxHeartbeats 4000000 in
set_option maxRecDepth 100000 in
theorem indexFunc_any (w : World) (v : Value) (l : List (Int × Int)) (pb : Nat) (path : Int) (h : Prs w v l) (hp : w.heap[pb]? = some (.cells #[.int .i64 path] 3 (0, 0))) :
    Calls Tryz.prog 140 #[v, .func (.func 136) #[] #[.pointer (some ⟨pb, 0, none⟩)]] w fun e w' => ((∃ k : Nat, k < l.length ∧ Pk.fst l k = path ∧ e = .returned (.int .i64 k)) ∨ (e = .returned (.int .i64 (-1)) ∧ ∀ k, k < l.length → Pk.fst l k ≠ path)) ∧ Below w.heap.size w w' := by
  obtain ⟨a, cap, rfl, hlen, hrow⟩ := h
  have HP := hide hp
  clear hp
  go_enter Tryz.func140, Tryz.ntmps140
  go_wp2_with fail
  go_loopw [8] (fun i w' => ∃ k : Nat, k ≤ l.length ∧ i = .int .i64 k ∧ Below w.heap.size w w' ∧ ∀ j, j < k → Pk.fst l j ≠ path) (fun i _ => l.length - (intOf i).toNat)
  case atStart => exact ⟨0, Nat.zero_le _, rfl, Below.refl _ _, fun j hj => by omega⟩
  case round =>
    obtain ⟨k, hk, rfl, hw, hno⟩ := hrel
    have HW := hide hw
    have HN := hide hno
    clear hw hno
    by_cases hlt : k < l.length
    · obtain ⟨b, off, rfl, hb, hc⟩ := hrow (by omega)
      obtain ⟨c0, c1⟩ := hc k hlt
      rw [← (unhide HW).cell hb] at c0 c1
      have hi0 : (0 : Int) ≤ (k : Int) := Int.natCast_nonneg _
      have hi1 : (k : Int) < (l.length : Int) := by omega
      have er : IntKind.i64.wrap ((k : Int) + 1) = (k : Int) + 1 := by simp [IntKind.wrap, IntKind.bits, IntKind.signed]; omega
      clear hc hrow
      go_wp2_with fail
      refine (hasFn_any _ pb path _ _ (((unhide HW).block _ (heapLt (unhide HP))).trans (unhide HP))).mono ?_
      rintro e w1 ⟨rfl, b1⟩
      have HW1 := hide ((unhide HW).trans (b1.mono (unhide HW).size))
      clear b1 c0 c1
      by_cases hx : Pk.fst l k = path
      · have HXX := hide hx
        have hq : (Pk.fst l k == path) = true := by simpa using hx
        clear hx
        go_wp2
        go_ret
        exact ⟨.inl ⟨k, hlt, unhide HXX, rfl⟩, unhide HW1⟩
      · have hq : (Pk.fst l k == path) = false := by simpa using hx
        go_wp2
        go_roundw
        case rel => exact ⟨k + 1, by omega, by go_num, unhide HW1, fun j hj => by
          rcases Nat.lt_or_ge j k with h | h
          · exact unhide HN j h
          · obtain rfl : j = k := by omega
            exact hx⟩
        case measure => simp [intOf]; omega
    · obtain rfl : k = l.length := by omega
      clear hlt
      go_wp2
      go_ret
      exact ⟨.inr ⟨rfl, unhide HN⟩, unhide HW⟩

set_option maxHeartbeats 1000000 in
set_option maxRecDepth 100000 in
theorem hasFileAt_any (w : World) (nm vr : Int) (fv dv : Value) (fs ds : List (Int × Int)) (path : Int) (hf : Prs w fv fs) :
    Calls Tryz.prog 132 #[.agg #[.int .i64 nm, .int .i64 vr, fv, dv], .int .i64 path] w fun e w' => e = .returned (.bool (Ix.hasAt path (nm, vr, fs, ds))) ∧ Below w.heap.size w w' := by
  obtain ⟨fa, fc, hfv⟩ := hf.slice
  subst hfv
  have z1 := sz1' w (.cells #[.int .i64 nm, .int .i64 vr, .slice fa fs.length fc, dv] 94)
  have hp2 := heap_alloc_new (w.alloc (.cells #[.int .i64 nm, .int .i64 vr, .slice fa fs.length fc, dv] 94)) (.cells #[.int .i64 path] 3)
  rw [z1] at hp2
  have hb2 := below12 w (.cells #[.int .i64 nm, .int .i64 vr, .slice fa fs.length fc, dv] 94) (.cells #[.int .i64 path] 3)
  have HP2 := hide hp2
  have HB2 := hide hb2
  have HF2 := hide (hf.later hb2)
  clear z1 hp2 hb2 hf
  go_enter Tryz.func132, Tryz.ntmps132
  go_wp2_with fail
  have CI := hide (indexFunc_any _ _ fs _ path (unhide HF2) (unhide HP2))
  generalize World.alloc _ _ = W2 at *
  refine Calls.mono (R := fun e w' => e = .returned (.bool (Ix.hasAt path (nm, vr, fs, ds))) ∧ Below W2.heap.size W2 w') ?_ ?_
  · go_enter Tryz.func135, Tryz.ntmps135
    go_wp2_with fail
    refine (unhide CI).mono ?_
    rintro e w3 ⟨⟨k, hk, hx, rfl⟩ | ⟨rfl, hno⟩, b3⟩
    · have B3 := hide b3
      have hge : (0 : Int) ≤ (k : Int) := Int.natCast_nonneg _
      have hd : decide ((0 : Int) ≤ (k : Int)) = true := decide_eq_true hge
      have HX := hide hx
      clear b3 hx
      go_wp2
      go_ret
      exact ⟨ret_bool (Ix.hasAt_yes (p := (nm, vr, fs, ds)) hk (unhide HX)).symm, unhide B3⟩
    · have B3 := hide b3
      have HNO := hide hno
      clear b3 hno
      go_wp2
      go_ret
      exact ⟨ret_bool (Ix.hasAt_no (p := (nm, vr, fs, ds)) (unhide HNO)).symm, unhide B3⟩
  rintro e w4 ⟨rfl, b4⟩
  have B4 := hide ((unhide HB2).trans (b4.mono (unhide HB2).size))
  clear b4
  go_wp2
  go_ret
  exact ⟨rfl, unhide B4⟩

set_option maxHeartbeats 4000000 in
set_option maxRecDepth 100000 in
theorem firstInt_any {N : Nat → Prop} (w : World) (v : Value) (l : List Ix.Pg) (path : Int) (h : Pks N w v l) :
    Calls Tryz.prog 131 #[v, .func (.func 132) #[] #[], .int .i64 path] w fun e w' => ((∃ p fa fn fc da dn dc, l.find? (Ix.hasAt path) = some p ∧ e = .returned (.tuple #[.agg #[.int .i64 p.1, .int .i64 p.2.1, .slice fa fn fc, .slice da dn dc], .bool true])) ∨ (l.find? (Ix.hasAt path) = none ∧ e = .returned (.tuple #[.agg #[.int .i64 0, .int .i64 0, .slice none 0 0, .slice none 0 0], .bool false]))) ∧ Below w.heap.size w w' := by
  obtain ⟨a, cap, rfl, hlen, hrow⟩ := h
  have H0 := hide (And.intro (below1 w (.cells #[.int .i64 0, .int .i64 0, .slice none 0 0, .slice none 0 0] 94)) (heap_alloc_new w (.cells #[.int .i64 0, .int .i64 0, .slice none 0 0, .slice none 0 0] 94)))
  go_enter Tryz.func131, Tryz.ntmps131
  go_wp2_with fail
  go_loopw [12] (fun i w' => ∃ k : Nat, k ≤ l.length ∧ i = .int .i64 k ∧ Below w.heap.size w w' ∧ w'.heap[w.heap.size]? = some (.cells #[.int .i64 0, .int .i64 0, .slice none 0 0, .slice none 0 0] 94 (0, 0)) ∧ ∀ j, j < k → (Ix.hasAt path) (Ix.pg l j) = false) (fun i _ => l.length - (intOf i).toNat)
  case atStart => exact ⟨0, Nat.zero_le _, rfl, (unhide H0).1, (unhide H0).2, fun j hj => by omega⟩
  case round =>
    clear H0
    obtain ⟨k, hk, rfl, hw, hR,  hno⟩ := hrel
    have HW := hide hw
    have HR := hide hR
    have HN := hide hno
    skip
    clear hw hR hno
    by_cases hlt : k < l.length
    · obtain ⟨b, off, rfl, hb, _, hc⟩ := hrow (by omega)
      obtain ⟨fv, dv, hAt, hf, hd⟩ := hc k hlt
      clear hc hrow
      obtain ⟨nm, vr, fs, ds, hpk⟩ : ∃ nm vr fs ds, Ix.pg l k = (nm, vr, fs, ds) := ⟨_, _, _, _, rfl⟩
      rw [hpk] at hAt hf hd
      dsimp only at hf hd
      obtain ⟨fa, fc, hfv⟩ := hf.slice
      obtain ⟨da, dc, hdv⟩ := hd.slice
      subst hfv hdv
      obtain ⟨c0, c1, c2, c3⟩ := hAt.keep ((unhide HW).block b hb)
      dsimp only at c0 c1
      have hb' : b < wr.heap.size := Nat.lt_of_lt_of_le hb (unhide HW).size
      have hi0 : (0 : Int) ≤ (k : Int) := Int.natCast_nonneg _
      have hi1 : (k : Int) < (l.length : Int) := by omega
      have er : IntKind.i64.wrap ((k : Int) + 1) = (k : Int) + 1 := by simp [IntKind.wrap, IntKind.bits, IntKind.signed]; omega
      have bP := below1 wr (.cells #[.int .i64 nm, .int .i64 vr, .slice fa fs.length fc, .slice da ds.length dc] 94)
      have HP := hide (heap_alloc_new wr (.cells #[.int .i64 nm, .int .i64 vr, .slice fa fs.length fc, .slice da ds.length dc] 94))
      have HB := hide ((unhide HW).trans (bP.mono (unhide HW).size))
      have HR1 := hide ((bP.block _ (heapLt (unhide HR))).trans (unhide HR))
      have HF := hide (hf.prs.later (unhide HB))
      have HPK := hide hpk
      clear hAt hf hd hpk bP
      go_wp2_with fail
      refine (hasFileAt_any _ nm vr _ _ fs ds path (unhide HF)).mono ?_
      generalize hPe : wr.heap.size = P at *
      have HPE := hide hPe
      clear hPe
      generalize wr.alloc _ = W1 at *
      clear c0 c1 c2 c3 hb'
      rintro e w2 ⟨rfl, b2⟩
      have hP2 := (b2.block _ (heapLt (unhide HP))).trans (unhide HP)
      have hR2 := (b2.block _ (heapLt (unhide HR1))).trans (unhide HR1)
      have hB2 := (unhide HB).trans (b2.mono (unhide HB).size)
      have HP2 := hide hP2
      have HR2 := hide hR2
      have HB2 := hide hB2
      clear b2 HP HR1 HB HF
      cases hq : Ix.hasAt path (nm, vr, fs, ds)
      · clear hP2 hR2 hB2
        go_wp2
        go_roundw
        case rel => exact ⟨k + 1, by omega, by go_num, unhide HB2, unhide HR2, fun j hj => by
          rcases Nat.lt_or_ge j k with h | h
          · exact unhide HN j h
          · obtain rfl : j = k := by omega
            rw [unhide HPK]
            exact hq⟩
        case measure => simp [intOf]; omega
      · obtain ⟨p0, p1, p2, p3⟩ : _ ∧ _ ∧ _ ∧ _ := ⟨cellOf hP2 0, cellOf hP2 1, cellOf hP2 2, cellOf hP2 3⟩
        obtain ⟨⟨r0, s0⟩, ⟨r1, s1⟩, ⟨r2, s2⟩, r3, s3⟩ : (_ ∧ _) ∧ (_ ∧ _) ∧ (_ ∧ _) ∧ _ ∧ _ := ⟨⟨cellOf hR2 0, frozenOf hR2 0⟩, ⟨cellOf hR2 1, frozenOf hR2 1⟩, ⟨cellOf hR2 2, frozenOf hR2 2⟩, cellOf hR2 3, frozenOf hR2 3⟩
        have hne : P ≠ w.heap.size := by rw [← unhide HPE]; have := heapLt (unhide HR); omega
        have hfind := Ix.find_at (l := l) (q := Ix.hasAt path) hlt (by rw [unhide HPK]; exact hq) (unhide HN)
        rw [unhide HPK] at hfind
        have HFD := hide hfind
        clear hP2 hR2 hB2 hfind
        go_wp2
        obtain ⟨⟨q0, q1, q2, q3⟩, hbel, _⟩ := fin4 (a := .int .i64 nm) (b := .int .i64 vr) (c := .slice fa fs.length fc) (d := .slice da ds.length dc) (W := w) (unhide HR2) (by omega) (unhide HB2) rfl
        exact bodyPost_ret (v := .tuple #[.agg #[.int .i64 nm, .int .i64 vr, .slice fa fs.length fc, .slice da ds.length dc], .bool true]) (by simp [results, Tryz.results131, go_sem, q0, q1, q2, q3]) rfl ⟨.inl ⟨(nm, vr, fs, ds), _, _, _, _, _, _, unhide HFD, rfl⟩, hbel⟩
    · obtain rfl : k = l.length := by omega
      clear hlt
      have hR2 := unhide HR
      obtain ⟨⟨r0, s0⟩, ⟨r1, s1⟩, ⟨r2, s2⟩, r3, s3⟩ : (_ ∧ _) ∧ (_ ∧ _) ∧ (_ ∧ _) ∧ _ ∧ _ := ⟨⟨cellOf hR2 0, frozenOf hR2 0⟩, ⟨cellOf hR2 1, frozenOf hR2 1⟩, ⟨cellOf hR2 2, frozenOf hR2 2⟩, cellOf hR2 3, frozenOf hR2 3⟩
      clear hR2
      go_wp2
      obtain ⟨⟨q0, q1, q2, q3⟩, hbel, _⟩ := fin4 (a := .int .i64 0) (b := .int .i64 0) (c := .slice none 0 0) (d := .slice none 0 0) (W := w) (unhide HR) (by omega) (unhide HW) rfl
      exact bodyPost_ret (v := .tuple #[.agg #[.int .i64 0, .int .i64 0, .slice none 0 0, .slice none 0 0], .bool false]) (by simp [results, Tryz.results131, go_sem, q0, q1, q2, q3]) rfl ⟨.inr ⟨Ix.find_no (unhide HN), rfl⟩, hbel⟩

set_option maxHeartbeats 4000000 in
set_option maxRecDepth 100000 in
theorem firstDep_any {N : Nat → Prop} (w : World) (v : Value) (l : List Ix.Pg) (x y : Int) (h : Pks N w v l) :
    Calls Tryz.prog 128 #[v, .func (.func 129) #[] #[], .agg #[.int .i64 x, .int .i64 y]] w fun e w' => ((∃ p fa fn fc da dn dc, l.find? (Ix.meetsP (x, y)) = some p ∧ e = .returned (.tuple #[.agg #[.int .i64 p.1, .int .i64 p.2.1, .slice fa fn fc, .slice da dn dc], .bool true])) ∨ (l.find? (Ix.meetsP (x, y)) = none ∧ e = .returned (.tuple #[.agg #[.int .i64 0, .int .i64 0, .slice none 0 0, .slice none 0 0], .bool false]))) ∧ Below w.heap.size w w' := by
  obtain ⟨a, cap, rfl, hlen, hrow⟩ := h
  have z1 := sz1' w (.cells #[.int .i64 x, .int .i64 y] 117)
  have hr0 := heap_alloc_new (w.alloc (.cells #[.int .i64 x, .int .i64 y] 117)) (.cells #[.int .i64 0, .int .i64 0, .slice none 0 0, .slice none 0 0] 94)
  rw [z1] at hr0
  have H0 := hide (And.intro (below12 w (.cells #[.int .i64 x, .int .i64 y] 117) (.cells #[.int .i64 0, .int .i64 0, .slice none 0 0, .slice none 0 0] 94)) (And.intro hr0 (((below1 (w.alloc (.cells #[.int .i64 x, .int .i64 y] 117)) (.cells #[.int .i64 0, .int .i64 0, .slice none 0 0, .slice none 0 0] 94)).block _ (by rw [z1]; omega)).trans (heap_alloc_new w (.cells #[.int .i64 x, .int .i64 y] 117)))))
  clear z1 hr0
  go_enter Tryz.func128, Tryz.ntmps128
  go_wp2_with fail
  go_loopw [12] (fun i w' => ∃ k : Nat, k ≤ l.length ∧ i = .int .i64 k ∧ Below w.heap.size w w' ∧ w'.heap[w.heap.size + 1]? = some (.cells #[.int .i64 0, .int .i64 0, .slice none 0 0, .slice none 0 0] 94 (0, 0)) ∧ w'.heap[w.heap.size]? = some (.cells #[.int .i64 x, .int .i64 y] 117 (0, 0)) ∧ ∀ j, j < k → (Ix.meetsP (x, y)) (Ix.pg l j) = false) (fun i _ => l.length - (intOf i).toNat)
  case atStart => exact ⟨0, Nat.zero_le _, rfl, (unhide H0).1, (unhide H0).2.1, (unhide H0).2.2, fun j hj => by omega⟩
  case round =>
    clear H0
    obtain ⟨k, hk, rfl, hw, hR, hDx, hno⟩ := hrel
    have HW := hide hw
    have HR := hide hR
    have HN := hide hno
    have HDX := hide hDx
    have dx0 := cellOf hDx 0
    have dx1 := cellOf hDx 1
    have dlt := heapLt hDx
    clear hDx
    clear hw hR hno
    by_cases hlt : k < l.length
    · obtain ⟨b, off, rfl, hb, _, hc⟩ := hrow (by omega)
      obtain ⟨fv, dv, hAt, hf, hd⟩ := hc k hlt
      clear hc hrow
      obtain ⟨nm, vr, fs, ds, hpk⟩ : ∃ nm vr fs ds, Ix.pg l k = (nm, vr, fs, ds) := ⟨_, _, _, _, rfl⟩
      rw [hpk] at hAt hf hd
      dsimp only at hf hd
      obtain ⟨fa, fc, hfv⟩ := hf.slice
      obtain ⟨da, dc, hdv⟩ := hd.slice
      subst hfv hdv
      obtain ⟨c0, c1, c2, c3⟩ := hAt.keep ((unhide HW).block b hb)
      dsimp only at c0 c1
      have hb' : b < wr.heap.size := Nat.lt_of_lt_of_le hb (unhide HW).size
      have hi0 : (0 : Int) ≤ (k : Int) := Int.natCast_nonneg _
      have hi1 : (k : Int) < (l.length : Int) := by omega
      have er : IntKind.i64.wrap ((k : Int) + 1) = (k : Int) + 1 := by simp [IntKind.wrap, IntKind.bits, IntKind.signed]; omega
      have bP := below1 wr (.cells #[.int .i64 nm, .int .i64 vr, .slice fa fs.length fc, .slice da ds.length dc] 94)
      have HP := hide (heap_alloc_new wr (.cells #[.int .i64 nm, .int .i64 vr, .slice fa fs.length fc, .slice da ds.length dc] 94))
      have HB := hide ((unhide HW).trans (bP.mono (unhide HW).size))
      have HR1 := hide ((bP.block _ (heapLt (unhide HR))).trans (unhide HR))
      have HF := hide (hf.prs.later (unhide HB))
      have HPK := hide hpk
      have HDX1 := hide ((bP.block _ (heapLt (unhide HDX))).trans (unhide HDX))
      clear hAt hf hd hpk bP
      go_wp2_with fail
      refine (meets_any _ nm vr _ _ fs ds x y).mono ?_
      generalize hPe : wr.heap.size = P at *
      have HPE := hide hPe
      clear hPe
      generalize wr.alloc _ = W1 at *
      clear c0 c1 c2 c3 hb'
      rintro e w2 ⟨rfl, b2⟩
      have hP2 := (b2.block _ (heapLt (unhide HP))).trans (unhide HP)
      have hR2 := (b2.block _ (heapLt (unhide HR1))).trans (unhide HR1)
      have hB2 := (unhide HB).trans (b2.mono (unhide HB).size)
      have HDX2 := hide ((b2.block _ (heapLt (unhide HDX1))).trans (unhide HDX1))
      have HP2 := hide hP2
      have HR2 := hide hR2
      have HB2 := hide hB2
      clear b2 HP HR1 HB HF
      cases hq : Ix.meetsP (x, y) (nm, vr, fs, ds)
      · clear hP2 hR2 hB2
        go_wp2
        go_roundw
        case rel => exact ⟨k + 1, by omega, by go_num, unhide HB2, unhide HR2, unhide HDX2, fun j hj => by
          rcases Nat.lt_or_ge j k with h | h
          · exact unhide HN j h
          · obtain rfl : j = k := by omega
            rw [unhide HPK]
            exact hq⟩
        case measure => simp [intOf]; omega
      · obtain ⟨p0, p1, p2, p3⟩ : _ ∧ _ ∧ _ ∧ _ := ⟨cellOf hP2 0, cellOf hP2 1, cellOf hP2 2, cellOf hP2 3⟩
        obtain ⟨⟨r0, s0⟩, ⟨r1, s1⟩, ⟨r2, s2⟩, r3, s3⟩ : (_ ∧ _) ∧ (_ ∧ _) ∧ (_ ∧ _) ∧ _ ∧ _ := ⟨⟨cellOf hR2 0, frozenOf hR2 0⟩, ⟨cellOf hR2 1, frozenOf hR2 1⟩, ⟨cellOf hR2 2, frozenOf hR2 2⟩, cellOf hR2 3, frozenOf hR2 3⟩
        have hne : P ≠ w.heap.size + 1 := by rw [← unhide HPE]; have := heapLt (unhide HR); omega
        have hfind := Ix.find_at (l := l) (q := Ix.meetsP (x, y)) hlt (by rw [unhide HPK]; exact hq) (unhide HN)
        rw [unhide HPK] at hfind
        have HFD := hide hfind
        clear hP2 hR2 hB2 hfind
        go_wp2
        obtain ⟨⟨q0, q1, q2, q3⟩, hbel, _⟩ := fin4 (a := .int .i64 nm) (b := .int .i64 vr) (c := .slice fa fs.length fc) (d := .slice da ds.length dc) (W := w) (unhide HR2) (by omega) (unhide HB2) rfl
        exact bodyPost_ret (v := .tuple #[.agg #[.int .i64 nm, .int .i64 vr, .slice fa fs.length fc, .slice da ds.length dc], .bool true]) (by simp [results, Tryz.results128, go_sem, q0, q1, q2, q3]) rfl ⟨.inl ⟨(nm, vr, fs, ds), _, _, _, _, _, _, unhide HFD, rfl⟩, hbel⟩
    · obtain rfl : k = l.length := by omega
      clear hlt
      have hR2 := unhide HR
      obtain ⟨⟨r0, s0⟩, ⟨r1, s1⟩, ⟨r2, s2⟩, r3, s3⟩ : (_ ∧ _) ∧ (_ ∧ _) ∧ (_ ∧ _) ∧ _ ∧ _ := ⟨⟨cellOf hR2 0, frozenOf hR2 0⟩, ⟨cellOf hR2 1, frozenOf hR2 1⟩, ⟨cellOf hR2 2, frozenOf hR2 2⟩, cellOf hR2 3, frozenOf hR2 3⟩
      clear hR2
      go_wp2
      obtain ⟨⟨q0, q1, q2, q3⟩, hbel, _⟩ := fin4 (a := .int .i64 0) (b := .int .i64 0) (c := .slice none 0 0) (d := .slice none 0 0) (W := w) (unhide HR) (by omega) (unhide HW) rfl
      exact bodyPost_ret (v := .tuple #[.agg #[.int .i64 0, .int .i64 0, .slice none 0 0, .slice none 0 0], .bool false]) (by simp [results, Tryz.results128, go_sem, q0, q1, q2, q3]) rfl ⟨.inr ⟨Ix.find_no (unhide HN), rfl⟩, hbel⟩
end Go.Proofs.YtkhanndmbpemfaaGreatDoor

/- Two texts put together, as an operation. -/
namespace Go.Proofs.YtkhanndmbpemfaaGreatDoor
open Go.RowKit

theorem run_add {w : World} {o : Oper} {a : Act} (x y : Operand) (t : TypeId) (ho : o.op = Op.binOp BinOp.add 9 x y t) (s u : List UInt8) (hx : a.eval x = .string ⟨s.toArray⟩) (hy : a.eval y = .string ⟨u.toArray⟩) (hl : s.length + u.length ≤ 1000000) :
    (execOp a.eval o).run Tryz.prog w = .ok (.value (.string ⟨(s ++ u).toArray⟩)) w := by
  have hu := Tryz.underlying9
  have hs1 : (⟨s.toArray⟩ : ByteArray).size = s.length := rfl
  have hs2 : (⟨u.toArray⟩ : ByteArray).size = u.length := rfl
  have hsz : ¬ 9223372036854775807 < s.length + u.length := by omega
  simp only [execOp, ho, hx, hy]
  rw [← app_data]
  have hsz2 : ¬ maxLen < (⟨s.toArray⟩ : ByteArray).size + (⟨u.toArray⟩ : ByteArray).size := by rw [hs1, hs2]; unfold maxLen; omega
  go_simp
end Go.Proofs.YtkhanndmbpemfaaGreatDoor

/- What impl.PkgOk returns: whether the package is ok; for every package; nothing old is written. -/
namespace Go.Proofs.YtkhanndmbpemfaaGreatDoor
open Go.RowKit


theorem filesOk_long {l : List (Int × Int)} (h : ¬ l.length ≤ 2) : Pk.filesOk l = false := by unfold Pk.filesOk; rw [decide_eq_false h, Bool.false_and]
theorem depsOk_long {nm : Int} {l : List (Int × Int)} (h : ¬ l.length ≤ 2) : Pk.depsOk nm l = false := by unfold Pk.depsOk; rw [decide_eq_false h, Bool.false_and]

set_option maxHeartbeats 2000000 in
theorem implFiles_any (w : World) (v : Value) (l : List (Int × Int)) (h : Prs w v l) :
    Calls Tryz.prog 125 #[v] w fun e w' => e = .returned (.bool (Pk.filesOk l)) ∧ Below w.heap.size w w' := by
  obtain ⟨a, cap, rfl, hlen, hrow⟩ := h
  by_cases hlong : l.length ≤ 2
  · have hlong' : (l.length : Int) ≤ 2 := by omega
    go_enter Tryz.func125, Tryz.ntmps125
    go_wp2
    go_loopw [10] (fun i w' => ∃ k : Nat, k ≤ l.length ∧ i = .int .i64 k ∧ Below w.heap.size w w' ∧ ∀ j, j < k → Pk.fileGood l j = true) (fun i _ => l.length - (intOf i).toNat)
    case atStart => exact ⟨0, Nat.zero_le _, rfl, Below.refl _ _, fun j hj => by omega⟩
    case round =>
      obtain ⟨k, hk, rfl, hw, hgood⟩ := hrel
      have HG : Hid _ := hgood
      by_cases hlt : k < l.length
      · obtain ⟨b, off, rfl, hb, hc⟩ := hrow (by omega)
        have hcw : ∀ i, i < l.length → wr.cell? ⟨b, off + i * 2, none⟩ = some (.int .i64 (Pk.fst l i)) ∧ wr.cell? ⟨b, off + i * 2 + 1, none⟩ = some (.int .i64 (Pk.snd l i)) := fun i hi => by rw [hw.cell hb, hw.cell hb]; exact hc i hi
        have hb' : b < wr.heap.size := Nat.lt_of_lt_of_le hb hw.size
        obtain ⟨c1, c2⟩ := hcw k hlt
        have HC : Hid _ := hcw
        have HW : Hid _ := hw
        clear hgood hc hrow hcw hw
        have hi0 : (0 : Int) ≤ (k : Int) := Int.natCast_nonneg _
        have hi1 : (k : Int) < (l.length : Int) := by omega
        have HN0 : Hid (Below w.heap.size w (wr.alloc (.cells #[.int .i64 (Pk.fst l k), .int .i64 (Pk.snd l k)] 120))) := HW.out.alloc HW.out.size _
        have HN : ∀ n : Nat, Below w.heap.size w ((wr.alloc (.cells #[.int .i64 (Pk.fst l k), .int .i64 (Pk.snd l k)] 120)).drewN n) := fun n => below_drewN HN0.out n
        have HNN : Hid _ := HN
        clear HN
        cases hA : Pk.inB (Pk.fst l k) 0 5
        · go_wp2_with (go_at_call 86; refine (between_any _ _ _ _).mono ?_; rintro e w' ⟨rfl, rfl⟩)
          go_ret
          exact ⟨ret_bool (Pk.filesOk_bad hlt (by simp [Pk.fileGood, hA])).symm, HN0.out⟩
        cases hB : Pk.inB (Pk.snd l k) 0 9
        · go_wp2_with (go_at_call 86; refine (between_any _ _ _ _).mono ?_; rintro e w' ⟨rfl, rfl⟩)
          go_ret
          exact ⟨ret_bool (Pk.filesOk_bad hlt (by simp [Pk.fileGood, hB])).symm, HN0.out⟩
        rcases Nat.eq_zero_or_pos k with rfl | hpos
        · simp only [Nat.zero_mul, Nat.add_zero] at c1 c2
          go_wp2_with (go_at_call 86; refine (between_any _ _ _ _).mono ?_; rintro e w' ⟨rfl, rfl⟩)
          go_quiet (fail)
          go_wp2
          go_roundw
          case rel => exact ⟨1, by omega, by go_num, HNN.out _, one_lt (by simp [Pk.fileGood, hA, hB])⟩
          case measure => simp [intOf]; omega
        · obtain ⟨m, rfl⟩ : ∃ m, k = m + 1 := ⟨k - 1, by omega⟩
          obtain ⟨d1, _⟩ := HC.out m (by omega)
          have hp0 : decide ((0 : Int) < ((m + 1 : Nat) : Int)) = true := by simp
          by_cases hP : Pk.fst l m < Pk.fst l (m + 1)
          · have hP' : decide (Pk.fst l (m + 1) ≤ Pk.fst l m) = false := by simpa using hP
            go_wp2_with (go_at_call 86; refine (between_any _ _ _ _).mono ?_; rintro e w' ⟨rfl, rfl⟩)
            go_quiet (fail)
            go_wp2
            go_roundw
            case rel => exact ⟨m + 1 + 1, by omega, by go_num, HNN.out _, fun j hj => by
              rcases Nat.lt_or_ge j (m + 1) with h | h
              · exact HG.out j h
              · obtain rfl : j = m + 1 := by omega
                simp [Pk.fileGood, hA, hB, hP]⟩
            case measure => simp [intOf]; omega
          · have hP' : decide (Pk.fst l (m + 1) ≤ Pk.fst l m) = true := by simpa using hP
            go_wp2_with (go_at_call 86; refine (between_any _ _ _ _).mono ?_; rintro e w' ⟨rfl, rfl⟩)
            go_quiet (fail)
            go_wp2
            go_ret
            exact ⟨ret_bool (Pk.filesOk_bad hlt (by simp [Pk.fileGood, hA, hB]; simpa using hP)).symm, HNN.out _⟩
      · have HW : Hid _ := hw
        clear hgood hw
        go_wp2
        go_ret
        exact ⟨ret_bool (by rw [Pk.filesOk_good (fun i hi => HG.out i (by omega)), decide_eq_true hlong]), HW.out⟩
  · have hlong' : (2 : Int) < (l.length : Int) := by omega
    go_enter Tryz.func125, Tryz.ntmps125
    go_wp2
    go_ret
    exact ⟨ret_bool (filesOk_long hlong).symm, Below.refl _ _⟩

set_option maxHeartbeats 2000000 in
theorem implDeps_any (w : World) (nm : Int) (v : Value) (l : List (Int × Int)) (h : Prs w v l) :
    Calls Tryz.prog 126 #[.int .i64 nm, v] w fun e w' => e = .returned (.bool (Pk.depsOk nm l)) ∧ Below w.heap.size w w' := by
  obtain ⟨a, cap, rfl, hlen, hrow⟩ := h
  by_cases hlong : l.length ≤ 2
  · have hlong' : (l.length : Int) ≤ 2 := by omega
    go_enter Tryz.func126, Tryz.ntmps126
    go_wp2
    go_loopw [12] (fun i w' => ∃ k : Nat, k ≤ l.length ∧ i = .int .i64 k ∧ Below w.heap.size w w' ∧ ∀ j, j < k → Pk.depGood nm l j = true) (fun i _ => l.length - (intOf i).toNat)
    case atStart => exact ⟨0, Nat.zero_le _, rfl, Below.refl _ _, fun j hj => by omega⟩
    case round =>
      obtain ⟨k, hk, rfl, hw, hgood⟩ := hrel
      have HG : Hid _ := hgood
      by_cases hlt : k < l.length
      · obtain ⟨b, off, rfl, hb, hc⟩ := hrow (by omega)
        have hcw : ∀ i, i < l.length → wr.cell? ⟨b, off + i * 2, none⟩ = some (.int .i64 (Pk.fst l i)) ∧ wr.cell? ⟨b, off + i * 2 + 1, none⟩ = some (.int .i64 (Pk.snd l i)) := fun i hi => by rw [hw.cell hb, hw.cell hb]; exact hc i hi
        have hb' : b < wr.heap.size := Nat.lt_of_lt_of_le hb hw.size
        obtain ⟨c1, c2⟩ := hcw k hlt
        have HC : Hid _ := hcw
        have HW : Hid _ := hw
        clear hgood hc hrow hcw hw
        have hi0 : (0 : Int) ≤ (k : Int) := Int.natCast_nonneg _
        have hi1 : (k : Int) < (l.length : Int) := by omega
        have HN0 : Hid (Below w.heap.size w (wr.alloc (.cells #[.int .i64 (Pk.fst l k), .int .i64 (Pk.snd l k)] 117))) := HW.out.alloc HW.out.size _
        have HN : ∀ n : Nat, Below w.heap.size w ((wr.alloc (.cells #[.int .i64 (Pk.fst l k), .int .i64 (Pk.snd l k)] 117)).drewN n) := fun n => below_drewN HN0.out n
        have HNN : Hid _ := HN
        clear HN
        cases hA : Pk.inB (Pk.fst l k) 1 4
        · go_wp2_with (go_at_call 86; refine (between_any _ _ _ _).mono ?_; rintro e w' ⟨rfl, rfl⟩)
          go_ret
          exact ⟨ret_bool (Pk.depsOk_bad hlt (by simp [Pk.depGood, hA])).symm, HN0.out⟩
        cases hB : Pk.inB (Pk.snd l k) 1 5
        · go_wp2_with (go_at_call 86; refine (between_any _ _ _ _).mono ?_; rintro e w' ⟨rfl, rfl⟩)
          go_ret
          exact ⟨ret_bool (Pk.depsOk_bad hlt (by simp [Pk.depGood, hB])).symm, HN0.out⟩
        by_cases hE : Pk.fst l k = nm
        · have hE' : (Pk.fst l k == nm) = true := by simpa using hE
          have HE : Hid _ := hE
          clear hE
          go_wp2_with (go_at_call 86; refine (between_any _ _ _ _).mono ?_; rintro e w' ⟨rfl, rfl⟩)
          go_ret
          exact ⟨ret_bool (Pk.depsOk_bad hlt (by simp [Pk.depGood, HE.out])).symm, HN0.out⟩
        have hE' : (Pk.fst l k == nm) = false := by simpa using hE
        rcases Nat.eq_zero_or_pos k with rfl | hpos
        · simp only [Nat.zero_mul, Nat.add_zero] at c1 c2
          go_wp2_with (go_at_call 86; refine (between_any _ _ _ _).mono ?_; rintro e w' ⟨rfl, rfl⟩)
          go_quiet (fail)
          go_wp2
          go_roundw
          case rel => exact ⟨1, by omega, by go_num, HNN.out _, one_lt (by simp [Pk.depGood, hA, hB, hE])⟩
          case measure => simp [intOf]; omega
        · obtain ⟨m, rfl⟩ : ∃ m, k = m + 1 := ⟨k - 1, by omega⟩
          obtain ⟨d1, _⟩ := HC.out m (by omega)
          have hp0 : decide ((0 : Int) < ((m + 1 : Nat) : Int)) = true := by simp
          by_cases hP : Pk.fst l m < Pk.fst l (m + 1)
          · have hP' : decide (Pk.fst l (m + 1) ≤ Pk.fst l m) = false := by simpa using hP
            go_wp2_with (go_at_call 86; refine (between_any _ _ _ _).mono ?_; rintro e w' ⟨rfl, rfl⟩)
            go_quiet (fail)
            go_wp2
            go_roundw
            case rel => exact ⟨m + 1 + 1, by omega, by go_num, HNN.out _, fun j hj => by
              rcases Nat.lt_or_ge j (m + 1) with h | h
              · exact HG.out j h
              · obtain rfl : j = m + 1 := by omega
                simp [Pk.depGood, hA, hB, hP, hE]⟩
            case measure => simp [intOf]; omega
          · have hP' : decide (Pk.fst l (m + 1) ≤ Pk.fst l m) = true := by simpa using hP
            go_wp2_with (go_at_call 86; refine (between_any _ _ _ _).mono ?_; rintro e w' ⟨rfl, rfl⟩)
            go_quiet (fail)
            go_wp2
            go_ret
            exact ⟨ret_bool (Pk.depsOk_bad hlt (by simp [Pk.depGood, hA, hB, hE]; simpa using hP)).symm, HNN.out _⟩
      · have HW : Hid _ := hw
        clear hgood hw
        go_wp2
        go_ret
        exact ⟨ret_bool (by rw [Pk.depsOk_good (fun i hi => HG.out i (by omega)), decide_eq_true hlong]), HW.out⟩
  · have hlong' : (2 : Int) < (l.length : Int) := by omega
    go_enter Tryz.func126, Tryz.ntmps126
    go_wp2
    go_ret
    exact ⟨ret_bool (depsOk_long hlong).symm, Below.refl _ _⟩

set_option maxHeartbeats 2000000 in
/-- impl.PkgOk: whether the package is ok. -/
theorem implPkgOk_any (w : World) (nm vr : Int) (fv dv : Value) (fs ds : List (Int × Int)) (hf : Prs w fv fs) (hd : Prs w dv ds) :
    Calls Tryz.prog 109 #[.agg #[.int .i64 nm, .int .i64 vr, fv, dv]] w fun e w' => e = .returned (.bool (Pk.pkgOk nm vr fs ds)) ∧ Below w.heap.size w w' := by
  have B1 : Below w.heap.size w (w.alloc (.cells #[.int .i64 nm, .int .i64 vr, fv, dv] 94)) := (Below.refl _ _).alloc (Nat.le_refl _) _
  have hf1 := hf.later B1
  have hd1 := hd.later B1
  have HB : Hid _ := B1
  have HF : Hid (Prs _ _ _) := hf1
  have HD : Hid (Prs _ _ _) := hd1
  obtain ⟨fa, fc, hfv⟩ := hf.slice
  obtain ⟨da, dc, hdv⟩ := hd.slice
  clear hf hd B1 hf1 hd1
  subst hfv hdv
  cases hA : Pk.inB nm 1 4
  · go_enter Tryz.func109, Tryz.ntmps109
    go_wp2_with (go_at_call 86; refine (between_any _ _ _ _).mono ?_; rintro e w' ⟨rfl, rfl⟩)
    go_ret
    exact ⟨ret_bool (by simp [Pk.pkgOk, hA]), HB.out⟩
  cases hB : Pk.inB vr 1 5
  · go_enter Tryz.func109, Tryz.ntmps109
    go_wp2_with (go_at_call 86; refine (between_any _ _ _ _).mono ?_; rintro e w' ⟨rfl, rfl⟩)
    go_ret
    exact ⟨ret_bool (by simp [Pk.pkgOk, hB]), HB.out⟩
  go_enter Tryz.func109, Tryz.ntmps109
  go_wp2_with (go_at_call 86; refine (between_any _ _ _ _).mono ?_; rintro e w' ⟨rfl, rfl⟩)
  refine (implFiles_any _ _ fs HF.out).mono ?_
  rintro e w1 ⟨rfl, hb1⟩
  obtain ⟨z0, x0, _, _, x3⟩ := box4 w (.int .i64 nm) (.int .i64 vr) (.slice fa fs.length fc) (.slice da ds.length dc) 94
  have k0 : w1.cell? ⟨w.heap.size, 0, none⟩ = _ := (hb1.cell (by rw [z0]; exact Nat.lt_succ_self _)).trans x0
  have k3 : w1.cell? ⟨w.heap.size, 3, none⟩ = _ := (hb1.cell (by rw [z0]; exact Nat.lt_succ_self _)).trans x3
  have HB1 : Hid (Below w.heap.size w w1) := HB.out.trans (hb1.mono (by rw [z0]; omega))
  have HD1 : Hid (Prs _ _ _) := HD.out.later hb1
  clear hb1 x0 x3 z0 HF HD HB
  cases hC : Pk.filesOk fs
  · go_wp2
    go_ret
    exact ⟨ret_bool (by simp [Pk.pkgOk, hC]), HB1.out⟩
  · go_wp2_with fail
    refine (implDeps_any _ _ _ ds HD1.out).mono ?_
    rintro e w2 ⟨rfl, hb2⟩
    have HB2 : Hid (Below w.heap.size w w2) := HB1.out.trans (hb2.mono HB1.out.size)
    clear hb2
    go_wp2
    go_ret
    exact ⟨ret_bool (by simp [Pk.pkgOk, hA, hB, hC]), HB2.out⟩
end Go.Proofs.YtkhanndmbpemfaaGreatDoor
