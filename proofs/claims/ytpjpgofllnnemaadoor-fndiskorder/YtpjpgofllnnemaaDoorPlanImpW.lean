import Derived.Test.YtpjpgofllnnemaaDoorPksW
import Derived.Test.YtpjpgofllnnemaaDoorMix2
import Derived.Test.YtpjpgofllnnemaaDoorMix3
import Derived.Test.YtpjpgofllnnemaaDoorMix4
import Derived.Test.YtpjpgofllnnemaaDoorCopyPW
/- What impl's methods of a package answer, and the first package of which one is true; for every row of packages that can be read. -/
namespace Go.Proofs.YtpjpgofllnnemaaDoor
open Go.RowKit

attribute [local go_sem ↓] Go.wp_at_zero Go.wp_at_succ

theorem below12 (w : World) (o o2 : Obj) : Below w.heap.size w ((w.alloc o).alloc o2) := (below1 w o).trans ((below1 _ o2).mono (below1 w o).size)
set_option maxHeartbeats 1000000 in
set_option maxRecDepth 100000 in
theorem title_any (w : World) (nm vr : Int) (fv dv : Value) (h0 : 1 ≤ nm) (h1 : nm ≤ 4) (h2 : 0 ≤ vr) (h3 : vr ≤ 9) :
    Calls Tryd.prog 87 #[.agg #[.int .i64 nm, .int .i64 vr, fv, dv]] w fun e w' => e = .returned (.string ⟨(Pk.nameT nm vr).toArray⟩) ∧ Below w.heap.size w w' := by
  have HB := hide (below1 w (.cells #[.int .i64 nm, .int .i64 vr, fv, dv] 56))
  go_enter Tryd.func87, Tryd.ntmps87
  go_wp2_with (go_at_call 90; refine (spellNamed_any nm vr _ h0 h1 h2 h3).mono ?_; rintro e w' ⟨rfl, rfl⟩)
  go_ret
  exact ⟨rfl, unhide HB⟩

set_option maxHeartbeats 1000000 in
set_option maxRecDepth 100000 in
theorem meets_any (w : World) (nm vr : Int) (fv dv : Value) (fs ds : List (Int × Int)) (a b : Int) :
    Calls Tryd.prog 89 #[.agg #[.int .i64 nm, .int .i64 vr, fv, dv], .agg #[.int .i64 a, .int .i64 b]] w fun e w' => e = .returned (.bool (Ix.meetsP (a, b) (nm, vr, fs, ds))) ∧ Below w.heap.size w w' := by
  have HB := hide (below12 w (.cells #[.int .i64 nm, .int .i64 vr, fv, dv] 56) (.cells #[.int .i64 a, .int .i64 b] 90))
  by_cases he : nm = a
  · have HE := hide he
    have hq : (nm == a) = true := by simpa using he
    clear he
    go_enter Tryd.func89, Tryd.ntmps89
    go_wp2
    go_ret
    refine ⟨ret_bool ?_, unhide HB⟩
    unfold Ix.meetsP
    rw [decide_eq_true (unhide HE), Bool.true_and]
  · have hq : (nm == a) = false := by simpa using he
    go_enter Tryd.func89, Tryd.ntmps89
    go_wp2
    go_ret
    refine ⟨ret_bool ?_, unhide HB⟩
    unfold Ix.meetsP
    rw [decide_eq_false he, Bool.false_and]
set_option maxHeartbeats 1000000 in
set_option maxRecDepth 100000 in
theorem hasFn_any (w : World) (pb : Nat) (path a b : Int) (hp : w.heap[pb]? = some (.cells #[.int .i64 path] 3 (0, 0))) :
    Calls Tryd.prog 97 #[.agg #[.int .i64 a, .int .i64 b], .pointer (some ⟨pb, 0, none⟩)] w fun e w' => e = .returned (.bool (a == path)) ∧ Below w.heap.size w w' := by
  have HB := hide (below1 w (.cells #[.int .i64 a, .int .i64 b] 58))
  have c0 := cellOf hp 0
  have hlt := heapLt hp
  clear hp
  go_enter Tryd.func97, Tryd.ntmps97
  go_wp2
  go_ret
  exact ⟨rfl, unhide HB⟩
set_option maxHeartbeats 4000000 in
set_option maxRecDepth 100000 in
theorem indexFunc_any (w : World) (v : Value) (l : List (Int × Int)) (pb : Nat) (path : Int) (h : Prs w v l) (hp : w.heap[pb]? = some (.cells #[.int .i64 path] 3 (0, 0))) :
    Calls Tryd.prog 103 #[v, .func (.func 97) #[] #[.pointer (some ⟨pb, 0, none⟩)]] w fun e w' => ((∃ k : Nat, k < l.length ∧ Pk.fst l k = path ∧ e = .returned (.int .i64 k)) ∨ (e = .returned (.int .i64 (-1)) ∧ ∀ k, k < l.length → Pk.fst l k ≠ path)) ∧ Below w.heap.size w w' := by
  obtain ⟨a, cap, rfl, hlen, hrow⟩ := h
  have HP := hide hp
  clear hp
  go_enter Tryd.func103, Tryd.ntmps103
  go_wp2_with fail
  go_loopw [8] (fun i w' => ∃ k : Nat, k ≤ l.length ∧ i = .int .i64 k ∧ Below w.heap.size w w' ∧ ∀ j, j < k → Pk.fst l j ≠ path) (fun i _ => l.length - (intOf i).toNat)
  case atStart => exact ⟨0, Nat.zero_le _, rfl, Below.refl _ _, fun j hj => by omega⟩
  case round =>
    obtain ⟨k, hk, rfl, hw, hno⟩ := hrel
    have HW := hide hw
    have HN := hide hno
    clear hw hno
    by_cases hlt : k < l.length
    · obtain ⟨b, off, rfl, hb, hc⟩ := hrow (by omega)
      obtain ⟨c0, c1⟩ := hc k hlt
      rw [← (unhide HW).cell hb] at c0 c1
      have hi0 : (0 : Int) ≤ (k : Int) := Int.natCast_nonneg _
      have hi1 : (k : Int) < (l.length : Int) := by omega
      have er : IntKind.i64.wrap ((k : Int) + 1) = (k : Int) + 1 := by simp [IntKind.wrap, IntKind.bits, IntKind.signed]; omega
      clear hc hrow
      go_wp2_with fail
      refine (hasFn_any _ pb path _ _ (((unhide HW).block _ (heapLt (unhide HP))).trans (unhide HP))).mono ?_
      rintro e w1 ⟨rfl, b1⟩
      have HW1 := hide ((unhide HW).trans (b1.mono (unhide HW).size))
      clear b1 c0 c1
      by_cases hx : Pk.fst l k = path
      · have HXX := hide hx
        have hq : (Pk.fst l k == path) = true := by simpa using hx
        clear hx
        go_wp2
        go_ret
        exact ⟨.inl ⟨k, hlt, unhide HXX, rfl⟩, unhide HW1⟩
      · have hq : (Pk.fst l k == path) = false := by simpa using hx
        go_wp2
        go_roundw
        case rel => exact ⟨k + 1, by omega, by go_num, unhide HW1, fun j hj => by
          rcases Nat.lt_or_ge j k with h | h
          · exact unhide HN j h
          · obtain rfl : j = k := by omega
            exact hx⟩
        case measure => simp [intOf]; omega
    · obtain rfl : k = l.length := by omega
      clear hlt
      go_wp2
      go_ret
      exact ⟨.inr ⟨rfl, unhide HN⟩, unhide HW⟩

set_option maxHeartbeats 1000000 in
set_option maxRecDepth 100000 in
theorem hasFileAt_any (w : World) (nm vr : Int) (fv dv : Value) (fs ds : List (Int × Int)) (path : Int) (hf : Prs w fv fs) :
    Calls Tryd.prog 92 #[.agg #[.int .i64 nm, .int .i64 vr, fv, dv], .int .i64 path] w fun e w' => e = .returned (.bool (Ix.hasAt path (nm, vr, fs, ds))) ∧ Below w.heap.size w w' := by
  obtain ⟨fa, fc, hfv⟩ := hf.slice
  subst hfv
  have z1 := sz1' w (.cells #[.int .i64 nm, .int .i64 vr, .slice fa fs.length fc, dv] 56)
  have hp2 := heap_alloc_new (w.alloc (.cells #[.int .i64 nm, .int .i64 vr, .slice fa fs.length fc, dv] 56)) (.cells #[.int .i64 path] 3)
  rw [z1] at hp2
  have hb2 := below12 w (.cells #[.int .i64 nm, .int .i64 vr, .slice fa fs.length fc, dv] 56) (.cells #[.int .i64 path] 3)
  have HP2 := hide hp2
  have HB2 := hide hb2
  have HF2 := hide (hf.later hb2)
  clear z1 hp2 hb2 hf
  go_enter Tryd.func92, Tryd.ntmps92
  go_wp2_with fail
  have CI := hide (indexFunc_any _ _ fs _ path (unhide HF2) (unhide HP2))
  generalize World.alloc _ _ = W2 at *
  refine Calls.mono (R := fun e w' => e = .returned (.bool (Ix.hasAt path (nm, vr, fs, ds))) ∧ Below W2.heap.size W2 w') ?_ ?_
  · go_enter Tryd.func96, Tryd.ntmps96
    go_wp2_with fail
    refine (unhide CI).mono ?_
    rintro e w3 ⟨⟨k, hk, hx, rfl⟩ | ⟨rfl, hno⟩, b3⟩
    · have B3 := hide b3
      have hge : (0 : Int) ≤ (k : Int) := Int.natCast_nonneg _
      have hd : decide ((0 : Int) ≤ (k : Int)) = true := decide_eq_true hge
      have HX := hide hx
      clear b3 hx
      go_wp2
      go_ret
      exact ⟨ret_bool (Ix.hasAt_yes (p := (nm, vr, fs, ds)) hk (unhide HX)).symm, unhide B3⟩
    · have B3 := hide b3
      have HNO := hide hno
      clear b3 hno
      go_wp2
      go_ret
      exact ⟨ret_bool (Ix.hasAt_no (p := (nm, vr, fs, ds)) (unhide HNO)).symm, unhide B3⟩
  rintro e w4 ⟨rfl, b4⟩
  have B4 := hide ((unhide HB2).trans (b4.mono (unhide HB2).size))
  clear b4
  go_wp2
  go_ret
  exact ⟨rfl, unhide B4⟩

set_option maxHeartbeats 4000000 in
set_option maxRecDepth 100000 in
theorem firstInt_any {N : Nat → Prop} (w : World) (v : Value) (l : List Ix.Pg) (path : Int) (h : Pks N w v l) :
    Calls Tryd.prog 91 #[v, .func (.func 92) #[] #[], .int .i64 path] w fun e w' => ((∃ p fa fn fc da dn dc, l.find? (Ix.hasAt path) = some p ∧ e = .returned (.tuple #[.agg #[.int .i64 p.1, .int .i64 p.2.1, .slice fa fn fc, .slice da dn dc], .bool true])) ∨ (l.find? (Ix.hasAt path) = none ∧ e = .returned (.tuple #[.agg #[.int .i64 0, .int .i64 0, .slice none 0 0, .slice none 0 0], .bool false]))) ∧ Below w.heap.size w w' := by
  obtain ⟨a, cap, rfl, hlen, hrow⟩ := h
  have H0 := hide (And.intro (below1 w (.cells #[.int .i64 0, .int .i64 0, .slice none 0 0, .slice none 0 0] 56)) (heap_alloc_new w (.cells #[.int .i64 0, .int .i64 0, .slice none 0 0, .slice none 0 0] 56)))
  go_enter Tryd.func91, Tryd.ntmps91
  go_wp2_with fail
  go_loopw [12] (fun i w' => ∃ k : Nat, k ≤ l.length ∧ i = .int .i64 k ∧ Below w.heap.size w w' ∧ w'.heap[w.heap.size]? = some (.cells #[.int .i64 0, .int .i64 0, .slice none 0 0, .slice none 0 0] 56 (0, 0)) ∧ ∀ j, j < k → (Ix.hasAt path) (Ix.pg l j) = false) (fun i _ => l.length - (intOf i).toNat)
  case atStart => exact ⟨0, Nat.zero_le _, rfl, (unhide H0).1, (unhide H0).2, fun j hj => by omega⟩
  case round =>
    clear H0
    obtain ⟨k, hk, rfl, hw, hR,  hno⟩ := hrel
    have HW := hide hw
    have HR := hide hR
    have HN := hide hno
    skip
    clear hw hR hno
    by_cases hlt : k < l.length
    · obtain ⟨b, off, rfl, hb, _, hc⟩ := hrow (by omega)
      obtain ⟨fv, dv, hAt, hf, hd⟩ := hc k hlt
      clear hc hrow
      obtain ⟨nm, vr, fs, ds, hpk⟩ : ∃ nm vr fs ds, Ix.pg l k = (nm, vr, fs, ds) := ⟨_, _, _, _, rfl⟩
      rw [hpk] at hAt hf hd
      dsimp only at hf hd
      obtain ⟨fa, fc, hfv⟩ := hf.slice
      obtain ⟨da, dc, hdv⟩ := hd.slice
      subst hfv hdv
      obtain ⟨c0, c1, c2, c3⟩ := hAt.keep ((unhide HW).block b hb)
      dsimp only at c0 c1
      have hb' : b < wr.heap.size := Nat.lt_of_lt_of_le hb (unhide HW).size
      have hi0 : (0 : Int) ≤ (k : Int) := Int.natCast_nonneg _
      have hi1 : (k : Int) < (l.length : Int) := by omega
      have er : IntKind.i64.wrap ((k : Int) + 1) = (k : Int) + 1 := by simp [IntKind.wrap, IntKind.bits, IntKind.signed]; omega
      have bP := below1 wr (.cells #[.int .i64 nm, .int .i64 vr, .slice fa fs.length fc, .slice da ds.length dc] 56)
      have HP := hide (heap_alloc_new wr (.cells #[.int .i64 nm, .int .i64 vr, .slice fa fs.length fc, .slice da ds.length dc] 56))
      have HB := hide ((unhide HW).trans (bP.mono (unhide HW).size))
      have HR1 := hide ((bP.block _ (heapLt (unhide HR))).trans (unhide HR))
      have HF := hide (hf.prs.later (unhide HB))
      have HPK := hide hpk
      clear hAt hf hd hpk bP
      go_wp2_with fail
      refine (hasFileAt_any _ nm vr _ _ fs ds path (unhide HF)).mono ?_
      generalize hPe : wr.heap.size = P at *
      have HPE := hide hPe
      clear hPe
      generalize wr.alloc _ = W1 at *
      clear c0 c1 c2 c3 hb'
      rintro e w2 ⟨rfl, b2⟩
      have hP2 := (b2.block _ (heapLt (unhide HP))).trans (unhide HP)
      have hR2 := (b2.block _ (heapLt (unhide HR1))).trans (unhide HR1)
      have hB2 := (unhide HB).trans (b2.mono (unhide HB).size)
      have HP2 := hide hP2
      have HR2 := hide hR2
      have HB2 := hide hB2
      clear b2 HP HR1 HB HF
      cases hq : Ix.hasAt path (nm, vr, fs, ds)
      · clear hP2 hR2 hB2
        go_wp2
        go_roundw
        case rel => exact ⟨k + 1, by omega, by go_num, unhide HB2, unhide HR2, fun j hj => by
          rcases Nat.lt_or_ge j k with h | h
          · exact unhide HN j h
          · obtain rfl : j = k := by omega
            rw [unhide HPK]
            exact hq⟩
        case measure => simp [intOf]; omega
      · obtain ⟨p0, p1, p2, p3⟩ : _ ∧ _ ∧ _ ∧ _ := ⟨cellOf hP2 0, cellOf hP2 1, cellOf hP2 2, cellOf hP2 3⟩
        obtain ⟨⟨r0, s0⟩, ⟨r1, s1⟩, ⟨r2, s2⟩, r3, s3⟩ : (_ ∧ _) ∧ (_ ∧ _) ∧ (_ ∧ _) ∧ _ ∧ _ := ⟨⟨cellOf hR2 0, frozenOf hR2 0⟩, ⟨cellOf hR2 1, frozenOf hR2 1⟩, ⟨cellOf hR2 2, frozenOf hR2 2⟩, cellOf hR2 3, frozenOf hR2 3⟩
        have hne : P ≠ w.heap.size := by rw [← unhide HPE]; have := heapLt (unhide HR); omega
        have hfind := Ix.find_at (l := l) (q := Ix.hasAt path) hlt (by rw [unhide HPK]; exact hq) (unhide HN)
        rw [unhide HPK] at hfind
        have HFD := hide hfind
        clear hP2 hR2 hB2 hfind
        go_wp2
        obtain ⟨⟨q0, q1, q2, q3⟩, hbel, _⟩ := fin4 (a := .int .i64 nm) (b := .int .i64 vr) (c := .slice fa fs.length fc) (d := .slice da ds.length dc) (W := w) (unhide HR2) (by omega) (unhide HB2) rfl
        exact bodyPost_ret (v := .tuple #[.agg #[.int .i64 nm, .int .i64 vr, .slice fa fs.length fc, .slice da ds.length dc], .bool true]) (by simp [results, Tryd.results91, go_sem, q0, q1, q2, q3]) rfl ⟨.inl ⟨(nm, vr, fs, ds), _, _, _, _, _, _, unhide HFD, rfl⟩, hbel⟩
    · obtain rfl : k = l.length := by omega
      clear hlt
      have hR2 := unhide HR
      obtain ⟨⟨r0, s0⟩, ⟨r1, s1⟩, ⟨r2, s2⟩, r3, s3⟩ : (_ ∧ _) ∧ (_ ∧ _) ∧ (_ ∧ _) ∧ _ ∧ _ := ⟨⟨cellOf hR2 0, frozenOf hR2 0⟩, ⟨cellOf hR2 1, frozenOf hR2 1⟩, ⟨cellOf hR2 2, frozenOf hR2 2⟩, cellOf hR2 3, frozenOf hR2 3⟩
      clear hR2
      go_wp2
      obtain ⟨⟨q0, q1, q2, q3⟩, hbel, _⟩ := fin4 (a := .int .i64 0) (b := .int .i64 0) (c := .slice none 0 0) (d := .slice none 0 0) (W := w) (unhide HR) (by omega) (unhide HW) rfl
      exact bodyPost_ret (v := .tuple #[.agg #[.int .i64 0, .int .i64 0, .slice none 0 0, .slice none 0 0], .bool false]) (by simp [results, Tryd.results91, go_sem, q0, q1, q2, q3]) rfl ⟨.inr ⟨Ix.find_no (unhide HN), rfl⟩, hbel⟩

set_option maxHeartbeats 4000000 in
set_option maxRecDepth 100000 in
theorem firstDep_any {N : Nat → Prop} (w : World) (v : Value) (l : List Ix.Pg) (x y : Int) (h : Pks N w v l) :
    Calls Tryd.prog 88 #[v, .func (.func 89) #[] #[], .agg #[.int .i64 x, .int .i64 y]] w fun e w' => ((∃ p fa fn fc da dn dc, l.find? (Ix.meetsP (x, y)) = some p ∧ e = .returned (.tuple #[.agg #[.int .i64 p.1, .int .i64 p.2.1, .slice fa fn fc, .slice da dn dc], .bool true])) ∨ (l.find? (Ix.meetsP (x, y)) = none ∧ e = .returned (.tuple #[.agg #[.int .i64 0, .int .i64 0, .slice none 0 0, .slice none 0 0], .bool false]))) ∧ Below w.heap.size w w' := by
  obtain ⟨a, cap, rfl, hlen, hrow⟩ := h
  have z1 := sz1' w (.cells #[.int .i64 x, .int .i64 y] 90)
  have hr0 := heap_alloc_new (w.alloc (.cells #[.int .i64 x, .int .i64 y] 90)) (.cells #[.int .i64 0, .int .i64 0, .slice none 0 0, .slice none 0 0] 56)
  rw [z1] at hr0
  have H0 := hide (And.intro (below12 w (.cells #[.int .i64 x, .int .i64 y] 90) (.cells #[.int .i64 0, .int .i64 0, .slice none 0 0, .slice none 0 0] 56)) (And.intro hr0 (((below1 (w.alloc (.cells #[.int .i64 x, .int .i64 y] 90)) (.cells #[.int .i64 0, .int .i64 0, .slice none 0 0, .slice none 0 0] 56)).block _ (by rw [z1]; omega)).trans (heap_alloc_new w (.cells #[.int .i64 x, .int .i64 y] 90)))))
  clear z1 hr0
  go_enter Tryd.func88, Tryd.ntmps88
  go_wp2_with fail
  go_loopw [12] (fun i w' => ∃ k : Nat, k ≤ l.length ∧ i = .int .i64 k ∧ Below w.heap.size w w' ∧ w'.heap[w.heap.size + 1]? = some (.cells #[.int .i64 0, .int .i64 0, .slice none 0 0, .slice none 0 0] 56 (0, 0)) ∧ w'.heap[w.heap.size]? = some (.cells #[.int .i64 x, .int .i64 y] 90 (0, 0)) ∧ ∀ j, j < k → (Ix.meetsP (x, y)) (Ix.pg l j) = false) (fun i _ => l.length - (intOf i).toNat)
  case atStart => exact ⟨0, Nat.zero_le _, rfl, (unhide H0).1, (unhide H0).2.1, (unhide H0).2.2, fun j hj => by omega⟩
  case round =>
    clear H0
    obtain ⟨k, hk, rfl, hw, hR, hDx, hno⟩ := hrel
    have HW := hide hw
    have HR := hide hR
    have HN := hide hno
    have HDX := hide hDx
    have dx0 := cellOf hDx 0
    have dx1 := cellOf hDx 1
    have dlt := heapLt hDx
    clear hDx
    clear hw hR hno
    by_cases hlt : k < l.length
    · obtain ⟨b, off, rfl, hb, _, hc⟩ := hrow (by omega)
      obtain ⟨fv, dv, hAt, hf, hd⟩ := hc k hlt
      clear hc hrow
      obtain ⟨nm, vr, fs, ds, hpk⟩ : ∃ nm vr fs ds, Ix.pg l k = (nm, vr, fs, ds) := ⟨_, _, _, _, rfl⟩
      rw [hpk] at hAt hf hd
      dsimp only at hf hd
      obtain ⟨fa, fc, hfv⟩ := hf.slice
      obtain ⟨da, dc, hdv⟩ := hd.slice
      subst hfv hdv
      obtain ⟨c0, c1, c2, c3⟩ := hAt.keep ((unhide HW).block b hb)
      dsimp only at c0 c1
      have hb' : b < wr.heap.size := Nat.lt_of_lt_of_le hb (unhide HW).size
      have hi0 : (0 : Int) ≤ (k : Int) := Int.natCast_nonneg _
      have hi1 : (k : Int) < (l.length : Int) := by omega
      have er : IntKind.i64.wrap ((k : Int) + 1) = (k : Int) + 1 := by simp [IntKind.wrap, IntKind.bits, IntKind.signed]; omega
      have bP := below1 wr (.cells #[.int .i64 nm, .int .i64 vr, .slice fa fs.length fc, .slice da ds.length dc] 56)
      have HP := hide (heap_alloc_new wr (.cells #[.int .i64 nm, .int .i64 vr, .slice fa fs.length fc, .slice da ds.length dc] 56))
      have HB := hide ((unhide HW).trans (bP.mono (unhide HW).size))
      have HR1 := hide ((bP.block _ (heapLt (unhide HR))).trans (unhide HR))
      have HF := hide (hf.prs.later (unhide HB))
      have HPK := hide hpk
      have HDX1 := hide ((bP.block _ (heapLt (unhide HDX))).trans (unhide HDX))
      clear hAt hf hd hpk bP
      go_wp2_with fail
      refine (meets_any _ nm vr _ _ fs ds x y).mono ?_
      generalize hPe : wr.heap.size = P at *
      have HPE := hide hPe
      clear hPe
      generalize wr.alloc _ = W1 at *
      clear c0 c1 c2 c3 hb'
      rintro e w2 ⟨rfl, b2⟩
      have hP2 := (b2.block _ (heapLt (unhide HP))).trans (unhide HP)
      have hR2 := (b2.block _ (heapLt (unhide HR1))).trans (unhide HR1)
      have hB2 := (unhide HB).trans (b2.mono (unhide HB).size)
      have HDX2 := hide ((b2.block _ (heapLt (unhide HDX1))).trans (unhide HDX1))
      have HP2 := hide hP2
      have HR2 := hide hR2
      have HB2 := hide hB2
      clear b2 HP HR1 HB HF
      cases hq : Ix.meetsP (x, y) (nm, vr, fs, ds)
      · clear hP2 hR2 hB2
        go_wp2
        go_roundw
        case rel => exact ⟨k + 1, by omega, by go_num, unhide HB2, unhide HR2, unhide HDX2, fun j hj => by
          rcases Nat.lt_or_ge j k with h | h
          · exact unhide HN j h
          · obtain rfl : j = k := by omega
            rw [unhide HPK]
            exact hq⟩
        case measure => simp [intOf]; omega
      · obtain ⟨p0, p1, p2, p3⟩ : _ ∧ _ ∧ _ ∧ _ := ⟨cellOf hP2 0, cellOf hP2 1, cellOf hP2 2, cellOf hP2 3⟩
        obtain ⟨⟨r0, s0⟩, ⟨r1, s1⟩, ⟨r2, s2⟩, r3, s3⟩ : (_ ∧ _) ∧ (_ ∧ _) ∧ (_ ∧ _) ∧ _ ∧ _ := ⟨⟨cellOf hR2 0, frozenOf hR2 0⟩, ⟨cellOf hR2 1, frozenOf hR2 1⟩, ⟨cellOf hR2 2, frozenOf hR2 2⟩, cellOf hR2 3, frozenOf hR2 3⟩
        have hne : P ≠ w.heap.size + 1 := by rw [← unhide HPE]; have := heapLt (unhide HR); omega
        have hfind := Ix.find_at (l := l) (q := Ix.meetsP (x, y)) hlt (by rw [unhide HPK]; exact hq) (unhide HN)
        rw [unhide HPK] at hfind
        have HFD := hide hfind
        clear hP2 hR2 hB2 hfind
        go_wp2
        obtain ⟨⟨q0, q1, q2, q3⟩, hbel, _⟩ := fin4 (a := .int .i64 nm) (b := .int .i64 vr) (c := .slice fa fs.length fc) (d := .slice da ds.length dc) (W := w) (unhide HR2) (by omega) (unhide HB2) rfl
        exact bodyPost_ret (v := .tuple #[.agg #[.int .i64 nm, .int .i64 vr, .slice fa fs.length fc, .slice da ds.length dc], .bool true]) (by simp [results, Tryd.results88, go_sem, q0, q1, q2, q3]) rfl ⟨.inl ⟨(nm, vr, fs, ds), _, _, _, _, _, _, unhide HFD, rfl⟩, hbel⟩
    · obtain rfl : k = l.length := by omega
      clear hlt
      have hR2 := unhide HR
      obtain ⟨⟨r0, s0⟩, ⟨r1, s1⟩, ⟨r2, s2⟩, r3, s3⟩ : (_ ∧ _) ∧ (_ ∧ _) ∧ (_ ∧ _) ∧ _ ∧ _ := ⟨⟨cellOf hR2 0, frozenOf hR2 0⟩, ⟨cellOf hR2 1, frozenOf hR2 1⟩, ⟨cellOf hR2 2, frozenOf hR2 2⟩, cellOf hR2 3, frozenOf hR2 3⟩
      clear hR2
      go_wp2
      obtain ⟨⟨q0, q1, q2, q3⟩, hbel, _⟩ := fin4 (a := .int .i64 0) (b := .int .i64 0) (c := .slice none 0 0) (d := .slice none 0 0) (W := w) (unhide HR) (by omega) (unhide HW) rfl
      exact bodyPost_ret (v := .tuple #[.agg #[.int .i64 0, .int .i64 0, .slice none 0 0, .slice none 0 0], .bool false]) (by simp [results, Tryd.results88, go_sem, q0, q1, q2, q3]) rfl ⟨.inr ⟨Ix.find_no (unhide HN), rfl⟩, hbel⟩
end Go.Proofs.YtpjpgofllnnemaaDoor
