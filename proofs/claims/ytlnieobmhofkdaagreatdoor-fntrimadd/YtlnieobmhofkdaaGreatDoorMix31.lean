import Derived.Test.YtlnieobmhofkdaaGreatDoorMix29
import Derived.Test.YtlnieobmhofkdaaGreatDoorPksW
import Derived.Test.YtlnieobmhofkdaaGreatDoorMix5
import Derived.Test.YtlnieobmhofkdaaGreatDoorDrawAddW
import Derived.Test.YtlnieobmhofkdaaGreatDoorMix12
import Derived.Test.YtlnieobmhofkdaaGreatDoorMix21
import Derived.Test.YtlnieobmhofkdaaGreatDoorTrimW
import Derived.Test.YtlnieobmhofkdaaGreatDoorMix4
import Derived.ProofKit
import Derived.ChangeSlices
import Derived.OpenShut
/- What laws.luPkgs returns: of the same packages true. -/
namespace Go.Proofs.YtlnieobmhofkdaaGreatDoor
open Go.RowKit

set_option maxHeartbeats 4000000 in
set_option maxRecDepth 100000 in
theorem luPkgs_same {N M : Nat → Prop} (w : World) (v v' : Value) (l : List Ix.Pg) (h : Pks N w v l) (h' : Pks M w v' l) :
    Calls Tryz.prog 12 #[v, v'] w fun e w' => e = .returned (.bool true) ∧ Below w.heap.size w w' := by
  obtain ⟨a, cap, rfl, hlen, hrow⟩ := h
  obtain ⟨a', cap', rfl, _, hrow'⟩ := h'
  have hne : ((l.length : Int) != (l.length : Int)) = false := by simp
  go_enter Tryz.func12, Tryz.ntmps12
  go_wp2
  go_loopw [5] (fun i w' => ∃ k : Nat, k ≤ l.length ∧ i = .int .i64 k ∧ Below w.heap.size w w') (fun i _ => l.length - (intOf i).toNat)
  case atStart => exact ⟨0, Nat.zero_le _, rfl, Below.refl _ _⟩
  case round =>
    obtain ⟨k, hk, rfl, hw⟩ := hrel
    have HW := hide hw
    clear hw
    by_cases hlt : k < l.length
    · obtain ⟨b, off, rfl, hb, _, hc⟩ := hrow (by omega)
      obtain ⟨b', off', rfl, hb', _, hc'⟩ := hrow' (by omega)
      obtain ⟨fv, dv, hAt, hf, hd⟩ := hc k hlt
      obtain ⟨fv', dv', hAt', hf', hd'⟩ := hc' k hlt
      clear hc hc' hrow hrow'
      obtain ⟨nm, vr, fs, ds, hpk⟩ : ∃ nm vr fs ds, Ix.pg l k = (nm, vr, fs, ds) := ⟨_, _, _, _, rfl⟩
      rw [hpk] at hAt hf hd hAt' hf' hd'
      dsimp only at hf hd hf' hd'
      obtain ⟨fa, fc, e1⟩ := hf.slice
      obtain ⟨da, dc, e2⟩ := hd.slice
      obtain ⟨fa', fc', e3⟩ := hf'.slice
      obtain ⟨da', dc', e4⟩ := hd'.slice
      subst e1 e2 e3 e4
      have z1 : b < wr.heap.size := Nat.lt_of_lt_of_le hb (unhide HW).size
      have z2 : b' < wr.heap.size := Nat.lt_of_lt_of_le hb' (unhide HW).size
      have kk : ∀ w', Below wr.heap.size wr w' → (w'.cell? ⟨b, off + k * 4, none⟩ = some (.int .i64 nm) ∧ w'.cell? ⟨b, off + k * 4 + 1, none⟩ = some (.int .i64 vr) ∧ w'.cell? ⟨b, off + k * 4 + 2, none⟩ = some (.slice fa fs.length fc) ∧ w'.cell? ⟨b, off + k * 4 + 3, none⟩ = some (.slice da ds.length dc)) ∧ (w'.cell? ⟨b', off' + k * 4, none⟩ = some (.int .i64 nm) ∧ w'.cell? ⟨b', off' + k * 4 + 1, none⟩ = some (.int .i64 vr) ∧ w'.cell? ⟨b', off' + k * 4 + 2, none⟩ = some (.slice fa' fs.length fc') ∧ w'.cell? ⟨b', off' + k * 4 + 3, none⟩ = some (.slice da' ds.length dc')) := fun w' hw' =>
        ⟨hAt.keep (((unhide HW).trans (hw'.mono (unhide HW).size)).block b hb), hAt'.keep (((unhide HW).trans (hw'.mono (unhide HW).size)).block b' hb')⟩
      have HK := hide kk
      have cE : ∀ w', Below wr.heap.size wr w' → Calls Tryz.prog 46 #[.agg #[.int .i64 nm, .int .i64 vr, .slice fa fs.length fc, .slice da ds.length dc], .agg #[.int .i64 nm, .int .i64 vr, .slice fa' fs.length fc', .slice da' ds.length dc']] w' fun e w'' => e = .returned (.bool true) ∧ Below wr.heap.size wr w'' := fun w' hw' => by
        have hb2 := (unhide HW).trans (hw'.mono (unhide HW).size)
        have hsame : same nm vr nm vr fs ds fs ds = true := same_yes ⟨rfl, rfl, rfl, rfl⟩
        exact (lu_any w' nm vr nm vr _ _ _ _ fs ds fs ds (hf.prs.later hb2) (hd.prs.later hb2) (hf'.prs.later hb2) (hd'.prs.later hb2)).mono fun e w'' ⟨h1, h2⟩ => ⟨by rw [h1, hsame], hw'.trans (h2.mono hw'.size)⟩
      have CE := hide cE
      clear kk cE hAt hAt' hf hd hf' hd' hpk
      have hi0 : (0 : Int) ≤ (k : Int) := Int.natCast_nonneg _
      have hi1 : (k : Int) < (l.length : Int) := by omega
      go_wp2_with fail
      refine wq_region (by kernel_rfl) (by kernel_rfl) ?_
      refine wq_move (d := some 17) rfl rfl (by rfl) rfl ?_
      simp only [Act.put, List.setIfInBounds_toArray, List.set_cons_zero, List.set_cons_succ, List.getElem_toArray, List.getElem_cons_zero]
      refine wq_move (d := some 18) rfl rfl (by rfl) rfl ?_
      simp only [Act.put, List.setIfInBounds_toArray, List.set_cons_zero, List.set_cons_succ, List.getElem_toArray, List.getElem_cons_zero, List.getElem_cons_succ]
      refine wq_take (d := some 19) rfl (by rfl) (v := ?_) ?_ ?_
      rotate_left
      · (intro w hCw; have hKw := (unhide HK) w hCw; go_simp <;> with_reducible rfl)
      simp only [Act.put, List.setIfInBounds_toArray, List.set_cons_zero, List.set_cons_succ]
      refine wq_take (d := some 20) rfl (by rfl) (v := ?_) ?_ ?_
      rotate_left
      · (intro w hCw; have hKw := (unhide HK) w hCw; go_simp <;> with_reducible rfl)
      simp only [Act.put, List.setIfInBounds_toArray, List.set_cons_zero, List.set_cons_succ]
      refine wq_move (d := some 21) rfl rfl (by rfl) rfl ?_
      simp only [Act.put, List.setIfInBounds_toArray, List.set_cons_zero, List.set_cons_succ, List.getElem_toArray, List.getElem_cons_zero, List.getElem_cons_succ]
      refine wq_move (d := some 22) rfl rfl (by rfl) rfl ?_
      simp only [Act.put, List.setIfInBounds_toArray, List.set_cons_zero, List.set_cons_succ, List.getElem_toArray, List.getElem_cons_zero, List.getElem_cons_succ]
      refine wq_take (d := some 23) rfl (by rfl) (v := ?_) ?_ ?_
      rotate_left
      · (intro w hCw; have hKw := (unhide HK) w hCw; go_simp <;> with_reducible rfl)
      simp only [Act.put, List.setIfInBounds_toArray, List.set_cons_zero, List.set_cons_succ]
      refine wq_take (d := some 24) rfl (by rfl) (v := ?_) ?_ ?_
      rotate_left
      · (intro w hCw; have hKw := (unhide HK) w hCw; go_simp <;> with_reducible rfl)
      simp only [Act.put, List.setIfInBounds_toArray, List.set_cons_zero, List.set_cons_succ]
      refine wq_call (d := some 25) rfl (by rfl) (hc := (unhide CE)) ?_ ?_
      · (intro w hCw; go_simp)
      simp only [Act.put, List.setIfInBounds_toArray, List.set_cons_zero, List.set_cons_succ]
      refine wq_take (d := some 26) rfl (by rfl) (v := ?_) ?_ ?_
      rotate_left
      · (intro w hCw; have hKw := (unhide HK) w hCw; go_simp <;> with_reducible rfl)
      simp only [Act.put, List.setIfInBounds_toArray, List.set_cons_zero, List.set_cons_succ]
      refine wq_nil ?_
      intro w9 hw9
      go_wp2
      go_roundw
      case rel => exact ⟨k + 1, by omega, by go_num, (unhide HW).trans (hw9.mono (unhide HW).size)⟩
      case measure => simp [intOf]; omega
    · go_wp2
      go_ret
      exact ⟨rfl, unhide HW⟩
end Go.Proofs.YtlnieobmhofkdaaGreatDoor

/- What laws.luIn returns: whether a package is among others. -/
namespace Go.Proofs.YtlnieobmhofkdaaGreatDoor
open Go.RowKit

theorem same_pg {p q : Ix.Pg} : same p.1 p.2.1 q.1 q.2.1 p.2.2.1 p.2.2.2 q.2.2.1 q.2.2.2 = decide (p = q) := by
  obtain ⟨a, b, c, d⟩ := p
  obtain ⟨a', b', c', d'⟩ := q
  unfold same
  simp
/-- Packages at places that differ. -/
theorem not_in {l : List Ix.Pg} {p : Ix.Pg} (h : ∀ j, j < l.length → Ix.pg l j ≠ p) : decide (p ∈ l) = false := by
  rw [decide_eq_false_iff_not]
  intro hm
  obtain ⟨i, hi, e⟩ := List.getElem_of_mem hm
  refine h i hi ?_
  unfold Ix.pg
  rw [List.getD_eq_getElem?_getD, List.getElem?_eq_getElem hi]
  exact e

set_option maxHeartbeats 4000000 in
set_option maxRecDepth 100000 in
theorem luIn_any {N : Nat → Prop} (w : World) (v : Value) (l : List Ix.Pg) (nm vr : Int) (fv dv : Value) (fs ds : List (Int × Int)) (h : Pks N w v l) (hf : Prs w fv fs) (hd : Prs w dv ds) :
    Calls Tryz.prog 16 #[v, .agg #[.int .i64 nm, .int .i64 vr, fv, dv]] w fun e w' => e = .returned (.bool (decide ((nm, vr, fs, ds) ∈ l))) ∧ Below w.heap.size w w' := by
  obtain ⟨pa, pc, hpv⟩ := hf.slice
  obtain ⟨qa, qc, hqv⟩ := hd.slice
  subst hpv hqv
  have B0 := below1 w (.cells #[.int .i64 nm, .int .i64 vr, .slice pa fs.length pc, .slice qa ds.length qc] 42)
  have HA0 := hide (And.intro (heap_alloc_new w (.cells #[.int .i64 nm, .int .i64 vr, .slice pa fs.length pc, .slice qa ds.length qc] 42)) B0)
  have HF := hide (And.intro hf hd)
  clear hf hd B0
  obtain ⟨a, cap, rfl, hlen, hrow⟩ := h
  go_enter Tryz.func16, Tryz.ntmps16
  go_wp2
  go_loopw [5] (fun i w' => ∃ k : Nat, k ≤ l.length ∧ i = .int .i64 k ∧ Below w.heap.size w w' ∧ w'.heap[w.heap.size]? = some (.cells #[.int .i64 nm, .int .i64 vr, .slice pa fs.length pc, .slice qa ds.length qc] 42 (0, 0)) ∧ ∀ j, j < k → Ix.pg l j ≠ (nm, vr, fs, ds)) (fun i _ => l.length - (intOf i).toNat)
  case atStart => exact ⟨0, Nat.zero_le _, rfl, (unhide HA0).2, (unhide HA0).1, fun j hj => by omega⟩
  case round =>
    clear HA0
    obtain ⟨k, hk, rfl, hw, hA, hno⟩ := hrel
    have HW := hide hw
    have HA := hide hA
    have HN := hide hno
    clear hw hA hno
    by_cases hlt : k < l.length
    · obtain ⟨b, off, rfl, hb, _, hc⟩ := hrow (by omega)
      obtain ⟨fv, dv, hAt, hf, hd⟩ := hc k hlt
      clear hc hrow
      obtain ⟨n2, v2, f2, d2, hpk⟩ : ∃ nm vr fs ds, Ix.pg l k = (nm, vr, fs, ds) := ⟨_, _, _, _, rfl⟩
      rw [hpk] at hAt hf hd
      dsimp only at hf hd
      obtain ⟨fa, fc, hfv⟩ := hf.slice
      obtain ⟨da, dc, hdv⟩ := hd.slice
      subst hfv hdv
      have hi0 : (0 : Int) ≤ (k : Int) := Int.natCast_nonneg _
      have hi1 : (k : Int) < (l.length : Int) := by omega
      have kk : ∀ w', Below wr.heap.size wr w' → (w'.cell? ⟨b, off + k * 4, none⟩ = some (.int .i64 n2) ∧ w'.cell? ⟨b, off + k * 4 + 1, none⟩ = some (.int .i64 v2) ∧ w'.cell? ⟨b, off + k * 4 + 2, none⟩ = some (.slice fa f2.length fc) ∧ w'.cell? ⟨b, off + k * 4 + 3, none⟩ = some (.slice da d2.length dc)) ∧ (w'.cell? ⟨w.heap.size, 0, none⟩ = some (.int .i64 nm) ∧ w'.cell? ⟨w.heap.size, 1, none⟩ = some (.int .i64 vr) ∧ w'.cell? ⟨w.heap.size, 2, none⟩ = some (.slice pa fs.length pc) ∧ w'.cell? ⟨w.heap.size, 3, none⟩ = some (.slice qa ds.length qc)) := fun w' hw' => by
        have hx := (hw'.block _ (heapLt (unhide HA))).trans (unhide HA)
        exact ⟨hAt.keep (((unhide HW).trans (hw'.mono (unhide HW).size)).block b hb), cellOf hx 0, cellOf hx 1, cellOf hx 2, cellOf hx 3⟩
      have HK := hide kk
      have cP : ∀ w', Below wr.heap.size wr w' → Calls Tryz.prog 46 #[.agg #[.int .i64 n2, .int .i64 v2, .slice fa f2.length fc, .slice da d2.length dc], .agg #[.int .i64 nm, .int .i64 vr, .slice pa fs.length pc, .slice qa ds.length qc]] w' fun e w'' => e = .returned (.bool (decide (Ix.pg l k = (nm, vr, fs, ds)))) ∧ Below wr.heap.size wr w'' := fun w' hw' => by
        have hB := (unhide HW).trans (hw'.mono (unhide HW).size)
        refine (lu_any w' n2 v2 nm vr _ _ _ _ f2 d2 fs ds (hf.prs.later hB) (hd.prs.later hB) ((unhide HF).1.later hB) ((unhide HF).2.later hB)).mono ?_
        rintro e w'' ⟨he, hb⟩
        refine ⟨?_, hw'.trans (hb.mono hw'.size)⟩
        rw [he, hpk]
        exact congrArg (fun b => Ending.returned (.bool b)) (same_pg (p := (n2, v2, f2, d2)) (q := (nm, vr, fs, ds)))
      have CP := hide cP
      have HPK := hide hpk
      clear kk hAt hf hd hpk cP
      by_cases hS : Ix.pg l k = (nm, vr, fs, ds)
      · rw [decide_eq_true hS] at CP
        have HSS := hide hS
        clear hS
        go_wp2_with fail
        refine wq_region (by kernel_rfl) (by kernel_rfl) ?_
        refine wq_move (d := some 12) rfl rfl (by rfl) rfl ?_
        simp only [Act.put, List.setIfInBounds_toArray, List.set_cons_zero, List.set_cons_succ, List.getElem_toArray, List.getElem_cons_zero]
        refine wq_move (d := some 13) rfl rfl (by rfl) rfl ?_
        simp only [Act.put, List.setIfInBounds_toArray, List.set_cons_zero, List.set_cons_succ, List.getElem_toArray, List.getElem_cons_zero, List.getElem_cons_succ]
        refine wq_take (d := some 14) rfl (by rfl) (v := ?_) ?_ ?_
        rotate_left
        · (intro w hCw; have hKw := (unhide HK) w hCw; go_simp <;> with_reducible rfl)
        simp only [Act.put, List.setIfInBounds_toArray, List.set_cons_zero, List.set_cons_succ]
        refine wq_take (d := some 15) rfl (by rfl) (v := ?_) ?_ ?_
        rotate_left
        · (intro w hCw; have hKw := (unhide HK) w hCw; go_simp <;> with_reducible rfl)
        simp only [Act.put, List.setIfInBounds_toArray, List.set_cons_zero, List.set_cons_succ]
        refine wq_take (d := some 16) rfl (by rfl) (v := ?_) ?_ ?_
        rotate_left
        · (intro w hCw; have hKw := (unhide HK) w hCw; go_simp <;> with_reducible rfl)
        simp only [Act.put, List.setIfInBounds_toArray, List.set_cons_zero, List.set_cons_succ]
        refine wq_call (d := some 17) rfl (by rfl) (hc := (unhide CP)) ?_ ?_
        · (intro w hCw; go_simp)
        simp only [Act.put, List.setIfInBounds_toArray, List.set_cons_zero, List.set_cons_succ]
        refine wq_nil ?_
        intro w9 hw9
        go_wp2
        go_ret
        have hm := Ix.pg_mem hlt
        rw [unhide HSS] at hm
        exact ⟨ret_bool (decide_eq_true hm).symm, (unhide HW).trans (hw9.mono (unhide HW).size)⟩
      · rw [decide_eq_false hS] at CP
        have HSS := hide hS
        clear hS
        go_wp2_with fail
        refine wq_region (by kernel_rfl) (by kernel_rfl) ?_
        refine wq_move (d := some 12) rfl rfl (by rfl) rfl ?_
        simp only [Act.put, List.setIfInBounds_toArray, List.set_cons_zero, List.set_cons_succ, List.getElem_toArray, List.getElem_cons_zero]
        refine wq_move (d := some 13) rfl rfl (by rfl) rfl ?_
        simp only [Act.put, List.setIfInBounds_toArray, List.set_cons_zero, List.set_cons_succ, List.getElem_toArray, List.getElem_cons_zero, List.getElem_cons_succ]
        refine wq_take (d := some 14) rfl (by rfl) (v := ?_) ?_ ?_
        rotate_left
        · (intro w hCw; have hKw := (unhide HK) w hCw; go_simp <;> with_reducible rfl)
        simp only [Act.put, List.setIfInBounds_toArray, List.set_cons_zero, List.set_cons_succ]
        refine wq_take (d := some 15) rfl (by rfl) (v := ?_) ?_ ?_
        rotate_left
        · (intro w hCw; have hKw := (unhide HK) w hCw; go_simp <;> with_reducible rfl)
        simp only [Act.put, List.setIfInBounds_toArray, List.set_cons_zero, List.set_cons_succ]
        refine wq_take (d := some 16) rfl (by rfl) (v := ?_) ?_ ?_
        rotate_left
        · (intro w hCw; have hKw := (unhide HK) w hCw; go_simp <;> with_reducible rfl)
        simp only [Act.put, List.setIfInBounds_toArray, List.set_cons_zero, List.set_cons_succ]
        refine wq_call (d := some 17) rfl (by rfl) (hc := (unhide CP)) ?_ ?_
        · (intro w hCw; go_simp)
        simp only [Act.put, List.setIfInBounds_toArray, List.set_cons_zero, List.set_cons_succ]
        refine wq_nil ?_
        intro w9 hw9
        go_wp2
        go_roundw
        case rel => exact ⟨k + 1, by omega, by go_num, (unhide HW).trans (hw9.mono (unhide HW).size), (hw9.block _ (heapLt (unhide HA))).trans (unhide HA), fun j hj => by
          rcases Nat.lt_or_ge j k with h | h
          · exact unhide HN j h
          · obtain rfl : j = k := by omega
            exact unhide HSS⟩
        case measure => simp [intOf]; omega
    · obtain rfl : k = l.length := by omega
      clear hlt
      go_wp2
      go_ret
      exact ⟨ret_bool (not_in (unhide HN)).symm, unhide HW⟩
end Go.Proofs.YtlnieobmhofkdaaGreatDoor

/- The walk of FnTrimAdd: it returns true and leaves what was there; for every row of bytes. -/
namespace Go.Proofs.YtlnieobmhofkdaaGreatDoor
open Go.RowKit

attribute [local go_sem ↓] Go.wp_at_zero Go.wp_at_succ

set_option maxHeartbeats 8000000 in
set_option maxRecDepth 100000 in
theorem trimAdd_walk (w : World) (a : Option Addr) (len cap : Nat) (h : Bytes w a len cap) (ev : Addr) (hg : Gl w ev) :
    Calls Tryz.prog 7 #[.slice a len cap] w fun e w' => e = .returned (.bool true) ∧ Below w.heap.size w w' := by
  by_cases hbig : (1048576 : Int) < (len : Int)
  · go_enter Tryz.func7, Tryz.ntmps7
    go_wp2
    go_ret
    exact ⟨rfl, Below.refl _ _⟩
  have CD := hide (drawStoreAdd_any w a len cap h)
  have GL := hide hg
  clear h hg
  go_enter Tryz.func7, Tryz.ntmps7
  go_wp2_with fail
  refine (unhide CD).mono ?_
  rintro e w1 ⟨t, kv, mv, v, s, tx, rfl, hts, b1⟩
  obtain ⟨hks, hms, hsl, hok, hom, hpk⟩ := hts
  obtain ⟨n, ks, d, has, num, til, ms⟩ := t
  dsimp only at hks hms hok hom
  dsimp only [tvT, tv]
  obtain ⟨ka, kc, hkv⟩ := own_formS hok
  obtain ⟨ma, mc, hmv⟩ := own_formS hom
  obtain ⟨sa, sc, hsv⟩ := hpk.slice
  subst hkv hmv hsv
  have b2 := below1 w1 (.cells #[.int .i64 n, .slice ka ks.length kc, .int .i64 d, .bool has, .int .i64 num, .int .i64 til, .slice ma ms.length mc] 30)
  have HX := hide (heap_alloc_new w1 (.cells #[.int .i64 n, .slice ka ks.length kc, .int .i64 d, .bool has, .int .i64 num, .int .i64 til, .slice ma ms.length mc] 30))
  have IK := hide ((OwI.wide hok (by omega)).later b2)
  have IM := hide ((Trs.own hom (by omega)).later b2)
  have PS := hide ((hpk.weak (N' := fun _ => True) (fun _ _ => trivial)).later b2)
  have BW := hide (b1.trans (b2.mono b1.size))
  clear hok hom hpk b1 b2 CD
  have CI := hide (fun (W : World) hG h1 h2 h3 => implAdd_any (N := fun _ => True) W ⟨n, ks, d, has, num, til, ms⟩ (.slice ka ks.length kc) (.slice ma ms.length mc) (.slice sa s.length sc) s tx ev hG h1 h2 h3)
  have CJ := hide (fun (W : World) (N : Nat → Prop) (v : Value) (l : List Ix.Pg) (tx : ByteArray) hG h1 h2 h3 => implAdd_any (N := N) W ⟨n, ks, d, has, num, til, ms⟩ (.slice ka ks.length kc) (.slice ma ms.length mc) v l tx ev hG h1 h2 h3)
  have CS := hide (fun (W : World) h1 h2 h3 => specAdd_any (N := fun _ => True) W ⟨n, ks, d, has, num, til, ms⟩ (.slice ka ks.length kc) (.slice ma ms.length mc) (.slice sa s.length sc) s tx h1 h2 h3)
  have CT := hide (fun (W : World) h1 h2 => specTrustOk_any W n d (.slice ka ks.length kc) ks has num til (.slice ma ms.length mc) ms h1 h2)
  have CU := hide (fun (W : World) (v : Value) (l : List Ix.Pg) hG h1 h2 h3 => implTrim_any (N := fun _ => True) W ⟨n, ks, d, has, num, til, ms⟩ (.slice ka ks.length kc) (.slice ma ms.length mc) v l ev hG h1 h2 h3)
  dsimp only [tvT, tv] at CU
  dsimp only [tvT, tv] at CI CJ CS CT
  have HSM := hide (Ix.addA_small (Tr.T.ok ⟨n, ks, d, has, num, til, ms⟩) num til ms s tx.data.toList)
  obtain ⟨A, q, hA⟩ : ∃ A q, Ix.addA (Tr.T.ok ⟨n, ks, d, has, num, til, ms⟩) num til ms s tx.data.toList = (A, q) := ⟨_, _, rfl⟩
  rw [hA] at HSM CI CS
  dsimp only at HSM CI CS
  have HA := hide hA
  clear hA
  have hq1 : (q != q) = false := by simp
  have hq2 : (q == q) = true := by simp
  obtain ⟨x0, x1, x2, x3, x4, x5, x6⟩ : _ ∧ _ ∧ _ ∧ _ ∧ _ ∧ _ ∧ _ := ⟨cellOf (unhide HX) 0, cellOf (unhide HX) 1, cellOf (unhide HX) 2, cellOf (unhide HX) 3, cellOf (unhide HX) 4, cellOf (unhide HX) 5, cellOf (unhide HX) 6⟩
  go_wp2_with fail
  refine (unhide CS _ (unhide IK) (unhide IM) (unhide PS)).mono ?_
  generalize hXe : w1.heap.size = X at *
  generalize w1.alloc _ = W2 at *
  clear hXe
  clear w1
  rintro e w3 ⟨u, rfl, hpw, b⟩
  replace HX := hide ((b.block _ (heapLt (unhide HX))).trans (unhide HX))
  replace IK := hide ((unhide IK).later b)
  replace IM := hide ((unhide IM).later b)
  replace PS := hide ((unhide PS).later b)
  replace BW := hide ((unhide BW).trans (b.mono (unhide BW).size))
  obtain ⟨wa, wc, hu⟩ := hpw.slice
  subst hu
  have PW := hide hpw
  clear hpw b
  clear x0 x1 x2 x3 x4 x5 x6
  obtain ⟨x0, x1, x2, x3, x4, x5, x6⟩ : _ ∧ _ ∧ _ ∧ _ ∧ _ ∧ _ ∧ _ := ⟨cellOf (unhide HX) 0, cellOf (unhide HX) 1, cellOf (unhide HX) 2, cellOf (unhide HX) 3, cellOf (unhide HX) 4, cellOf (unhide HX) 5, cellOf (unhide HX) 6⟩
  go_wp2_with fail
  refine (unhide CI _ ((unhide GL).later (unhide BW)) (unhide IK) (unhide IM) (unhide PS)).mono ?_
  rintro e w4 ⟨u, els, rfl, hP, hmap, b⟩
  replace HX := hide ((b.block _ (heapLt (unhide HX))).trans (unhide HX))
  replace IK := hide ((unhide IK).later b)
  replace IM := hide ((unhide IM).later b)
  replace PS := hide ((unhide PS).later b)
  replace BW := hide ((unhide BW).trans (b.mono (unhide BW).size))
  replace PW := hide ((unhide PW).later b)
  have hpx := hP.pksA hmap (unhide HSM)
  obtain ⟨ga, gc, hgv⟩ := hpx.slice
  subst hgv
  have PX := hide (hpx.weak (N' := fun _ => True) (fun _ _ => trivial))
  clear hP hmap hpx b
  clear x0 x1 x2 x3 x4 x5 x6
  clear els
  go_wp2_with fail
  refine (luPkgs_same _ _ _ (A) (unhide PX) (unhide PW)).mono ?_
  rintro e w5 ⟨rfl, b⟩
  replace HX := hide ((b.block _ (heapLt (unhide HX))).trans (unhide HX))
  replace IK := hide ((unhide IK).later b)
  replace IM := hide ((unhide IM).later b)
  replace PS := hide ((unhide PS).later b)
  replace BW := hide ((unhide BW).trans (b.mono (unhide BW).size))
  replace PW := hide ((unhide PW).later b)
  replace PX := hide ((unhide PX).later b)
  clear b
  cases q
  · skip
    go_wp2_with fail
    refine (luPkgs_same _ _ _ (A) (unhide PX) (unhide PW)).mono ?_
    rintro e w5 ⟨rfl, b⟩
    replace BW := hide ((unhide BW).trans (b.mono (unhide BW).size))
    clear b
    clear HX IK IM PS PX PW
    go_wp2
    go_ret
    exact ⟨rfl, unhide BW⟩
  have hsome : (Ix.addA (Tr.T.ok ⟨n, ks, d, has, num, til, ms⟩) num til ms s tx.data.toList).2 = true := by rw [unhide HA]
  have hta := Ix.trim_add (t := ⟨n, ks, d, has, num, til, ms⟩) hsome
  dsimp only at hta
  rw [unhide HA] at hta
  dsimp only at hta
  have HTA := hide hta
  clear hta hsome
  have C2 := hide (fun (W : World) (u : Value) hG h1 h2 h3 => implAdd_any (N := fun _ => True) W ⟨n, ks, d, has, num, til, ms⟩ (.slice ka ks.length kc) (.slice ma ms.length mc) u (Ix.trimA ⟨n, ks, d, has, num, til, ms⟩ s) tx ev hG h1 h2 h3)
  dsimp only [tvT, tv] at C2
  rw [unhide HTA] at C2
  dsimp only at C2
  go_wp2_with fail
  obtain ⟨x0, x1, x2, x3, x4, x5, x6⟩ : _ ∧ _ ∧ _ ∧ _ ∧ _ ∧ _ ∧ _ := ⟨cellOf (unhide HX) 0, cellOf (unhide HX) 1, cellOf (unhide HX) 2, cellOf (unhide HX) 3, cellOf (unhide HX) 4, cellOf (unhide HX) 5, cellOf (unhide HX) 6⟩
  refine wp_region_held_drew (S := fun w' => w'.cell? ⟨X, 0, none⟩ = some (.int .i64 n) ∧ w'.cell? ⟨X, 1, none⟩ = some (.slice ka ks.length kc) ∧ w'.cell? ⟨X, 2, none⟩ = some (.int .i64 d) ∧ w'.cell? ⟨X, 3, none⟩ = some (.bool has) ∧ w'.cell? ⟨X, 4, none⟩ = some (.int .i64 num) ∧ w'.cell? ⟨X, 5, none⟩ = some (.int .i64 til) ∧ w'.cell? ⟨X, 6, none⟩ = some (.slice ma ms.length mc)) (by kernel_rfl) ⟨x0, x1, x2, x3, x4, x5, x6⟩ (fun hHeld => ?_)
  clear x0 x1 x2 x3 x4 x5 x6
  have hcf : ∀ w', (callFunc 23 #[.agg #[.int .i64 n, .slice ka ks.length kc, .int .i64 d, .bool has, .int .i64 num, .int .i64 til, .slice ma ms.length mc], .slice sa s.length sc]).run Tryz.prog w' = .ok (.enter 23 #[.agg #[.int .i64 n, .slice ka ks.length kc, .int .i64 d, .bool has, .int .i64 num, .int .i64 til, .slice ma ms.length mc], .slice sa s.length sc]) w' := by intro w'; kernel_rfl
  refine anyH_at (i := 0) (d := some 57) rfl rfl (by kernel_rfl) (by kernel_rfl) (by kernel_rfl) (fun _ _ _ h => h) (by rfl) (v := ?_) ?_ (by assumption) ?_
  rotate_left
  · (intro w hSw; (try dsimp only at hSw); go_simp <;> with_reducible rfl)
  simp only [Act.put, List.setIfInBounds_toArray, List.set_cons_zero, List.set_cons_succ]
  refine anyH_at (i := 1) (d := some 58) rfl rfl (by kernel_rfl) (by kernel_rfl) (by kernel_rfl) (fun _ _ _ h => h) (by rfl) (v := ?_) ?_ (by assumption) ?_
  rotate_left
  · (intro w hSw; (try dsimp only at hSw); go_simp <;> with_reducible rfl)
  simp only [Act.put, List.setIfInBounds_toArray, List.set_cons_zero, List.set_cons_succ]
  refine anyH_at (i := 2) (d := some 59) rfl rfl (by kernel_rfl) (by kernel_rfl) (by kernel_rfl) (fun _ _ _ h => h) (by rfl) (v := ?_) ?_ (by assumption) ?_
  rotate_left
  · (intro w hSw; (try dsimp only at hSw); go_simp <;> with_reducible rfl)
  simp only [Act.put, List.setIfInBounds_toArray, List.set_cons_zero, List.set_cons_succ]
  refine anyH_at (i := 4) (d := some 61) rfl rfl (by kernel_rfl) (by kernel_rfl) (by kernel_rfl) (fun _ _ _ h => h) (by rfl) (v := ?_) ?_ (by assumption) ?_
  rotate_left
  · (intro w hSw; (try dsimp only at hSw); go_simp <;> with_reducible rfl)
  simp only [Act.put, List.setIfInBounds_toArray, List.set_cons_zero, List.set_cons_succ]
  refine wpAnyH_ready (rs := [3]) (by kernel_rfl) (by simp) ?_
  refine AllReadyH.cons rfl (fun K hK => ?_) AllReadyH.nil
  go_simp
  have b := below_drew w5
  replace HX := hide ((b.block _ (heapLt (unhide HX))).trans (unhide HX))
  replace IK := hide ((unhide IK).later b)
  replace IM := hide ((unhide IM).later b)
  replace PS := hide ((unhide PS).later b)
  replace BW := hide ((unhide BW).trans (b.mono (unhide BW).size))
  replace PW := hide ((unhide PW).later b)
  replace PX := hide ((unhide PX).later b)
  clear b hcf
  refine (unhide CU _ _ (s) ((unhide GL).later (unhide BW)) (unhide IK) (unhide IM) (unhide PS)).mono ?_
  rintro e w8 ⟨u, els, rfl, hP, hmap, b⟩
  replace HX := hide ((b.block _ (heapLt (unhide HX))).trans (unhide HX))
  replace IK := hide ((unhide IK).later b)
  replace IM := hide ((unhide IM).later b)
  replace PS := hide ((unhide PS).later b)
  replace BW := hide ((unhide BW).trans (b.mono (unhide BW).size))
  replace PW := hide ((unhide PW).later b)
  replace PX := hide ((unhide PX).later b)
  have hpx := hP.pksA hmap (Ix.trimA_small _ _)
  obtain ⟨Ya, Yc, hgv⟩ := hpx.slice
  subst hgv
  have PY := hide (hpx.weak (N' := fun _ => True) (fun _ _ => trivial))
  clear hP hmap hpx b
  clear els
  try go_wp2_with fail
  refine hK.out _ _ ?_ (fun hHeldN => ?_)
  · exact ⟨cellOf (unhide HX) 0, cellOf (unhide HX) 1, cellOf (unhide HX) 2, cellOf (unhide HX) 3, cellOf (unhide HX) 4, cellOf (unhide HX) 5, cellOf (unhide HX) 6⟩
  clear hHeld
  have hHeld := hHeldN
  clear hHeldN
  clear hK K
  try simp only [Act.put, List.setIfInBounds_toArray, List.set_cons_zero, List.set_cons_succ]
  have hcf : ∀ w', (callFunc 11 #[.agg #[.int .i64 n, .slice ka ks.length kc, .int .i64 d, .bool has, .int .i64 num, .int .i64 til, .slice ma ms.length mc], .slice Ya (Ix.trimA ⟨n, ks, d, has, num, til, ms⟩ s).length Yc, .string tx]).run Tryz.prog w' = .ok (.enter 11 #[.agg #[.int .i64 n, .slice ka ks.length kc, .int .i64 d, .bool has, .int .i64 num, .int .i64 til, .slice ma ms.length mc], .slice Ya (Ix.trimA ⟨n, ks, d, has, num, til, ms⟩ s).length Yc, .string tx]) w' := by intro w'; kernel_rfl
  refine wpAnyH_ready (rs := [5]) (by kernel_rfl) (by simp) ?_
  refine AllReadyH.cons rfl (fun K hK => ?_) AllReadyH.nil
  go_simp
  refine (unhide C2 _ _ ((unhide GL).later (unhide BW)) (unhide IK) (unhide IM) (unhide PY)).mono ?_
  rintro e w9 ⟨u, els, rfl, hP, hmap, b⟩
  replace HX := hide ((b.block _ (heapLt (unhide HX))).trans (unhide HX))
  replace IK := hide ((unhide IK).later b)
  replace IM := hide ((unhide IM).later b)
  replace PS := hide ((unhide PS).later b)
  replace BW := hide ((unhide BW).trans (b.mono (unhide BW).size))
  replace PW := hide ((unhide PW).later b)
  replace PX := hide ((unhide PX).later b)
  have hpx := hP.pksA hmap (Ix.trimA_small _ _)
  obtain ⟨za, zc, hgv⟩ := hpx.slice
  subst hgv
  have PZ := hide (hpx.weak (N' := fun _ => True) (fun _ _ => trivial))
  clear hP hmap hpx b hcf PY
  clear els
  try go_wp2_with fail
  refine hK.out _ _ ?_ (fun hHeldN => ?_)
  · exact ⟨cellOf (unhide HX) 0, cellOf (unhide HX) 1, cellOf (unhide HX) 2, cellOf (unhide HX) 3, cellOf (unhide HX) 4, cellOf (unhide HX) 5, cellOf (unhide HX) 6⟩
  clear hHeld
  have hHeld := hHeldN
  clear hHeldN
  clear hK K
  try simp only [Act.put, List.setIfInBounds_toArray, List.set_cons_zero, List.set_cons_succ]
  refine anyH_at (i := 6) (d := some 56) rfl rfl (by kernel_rfl) (by kernel_rfl) (by kernel_rfl) (fun _ _ _ h => h) (by rfl) (v := ?_) ?_ (by assumption) ?_
  rotate_left
  · (intro w hSw; (try dsimp only at hSw); go_simp <;> with_reducible rfl)
  simp only [Act.put, List.setIfInBounds_toArray, List.set_cons_zero, List.set_cons_succ]
  refine anyH_at (i := 7) (d := some 63) rfl rfl (by kernel_rfl) (by kernel_rfl) (by kernel_rfl) (fun _ _ _ h => h) (by rfl) (v := ?_) ?_ (by assumption) ?_
  rotate_left
  · (intro w hSw; (try dsimp only at hSw); go_simp <;> with_reducible rfl)
  simp only [Act.put, List.setIfInBounds_toArray, List.set_cons_zero, List.set_cons_succ]
  refine anyH_at (i := 8) (d := some 64) rfl rfl (by kernel_rfl) (by kernel_rfl) (by kernel_rfl) (fun _ _ _ h => h) (by rfl) (v := ?_) ?_ (by assumption) ?_
  rotate_left
  · (intro w hSw; (try dsimp only at hSw); go_simp <;> with_reducible rfl)
  simp only [Act.put, List.setIfInBounds_toArray, List.set_cons_zero, List.set_cons_succ]
  refine anyH_at (i := 9) (d := some 10) rfl rfl (by kernel_rfl) (by kernel_rfl) (by kernel_rfl) (fun _ _ _ h => h) (by rfl) (v := ?_) ?_ (by assumption) ?_
  rotate_left
  · (intro w hSw; (try dsimp only at hSw); go_simp <;> with_reducible rfl)
  simp only [Act.put, List.setIfInBounds_toArray, List.set_cons_zero, List.set_cons_succ]
  refine anyH_at (i := 10) (d := some 11) rfl rfl (by kernel_rfl) (by kernel_rfl) (by kernel_rfl) (fun _ _ _ h => h) (by rfl) (v := ?_) ?_ (by assumption) ?_
  rotate_left
  · (intro w hSw; (try dsimp only at hSw); go_simp <;> with_reducible rfl)
  simp only [Act.put, List.setIfInBounds_toArray, List.set_cons_zero, List.set_cons_succ]
  refine wpAnyH_done (by kernel_rfl) ?_ _
  clear hHeld
  obtain ⟨x0, x1, x2, x3, x4, x5, x6⟩ : _ ∧ _ ∧ _ ∧ _ ∧ _ ∧ _ ∧ _ := ⟨cellOf (unhide HX) 0, cellOf (unhide HX) 1, cellOf (unhide HX) 2, cellOf (unhide HX) 3, cellOf (unhide HX) 4, cellOf (unhide HX) 5, cellOf (unhide HX) 6⟩
  go_wp2_with fail
  refine (unhide CU _ _ (A) ((unhide GL).later (unhide BW)) (unhide IK) (unhide IM) (unhide PX)).mono ?_
  rintro e w10 ⟨u, els, rfl, hP, hmap, b⟩
  replace HX := hide ((b.block _ (heapLt (unhide HX))).trans (unhide HX))
  replace IK := hide ((unhide IK).later b)
  replace IM := hide ((unhide IM).later b)
  replace PS := hide ((unhide PS).later b)
  replace BW := hide ((unhide BW).trans (b.mono (unhide BW).size))
  replace PW := hide ((unhide PW).later b)
  replace PX := hide ((unhide PX).later b)
  replace PZ := hide ((unhide PZ).later b)
  have hpx := hP.pksA hmap (Ix.trimA_small _ _)
  obtain ⟨Va, Vc, hgv⟩ := hpx.slice
  subst hgv
  have PV := hide (hpx.weak (N' := fun _ => True) (fun _ _ => trivial))
  clear hP hmap hpx b
  clear els
  clear x0 x1 x2 x3 x4 x5 x6
  go_wp2_with fail
  refine (luPkgs_same _ _ _ (Ix.trimA ⟨n, ks, d, has, num, til, ms⟩ A) (unhide PZ) (unhide PV)).mono ?_
  rintro e w11 ⟨rfl, b⟩
  replace BW := hide ((unhide BW).trans (b.mono (unhide BW).size))
  clear b
  clear HX IK IM PS PX PW PZ PV
  go_wp2
  go_ret
  exact ⟨rfl, unhide BW⟩
end Go.Proofs.YtlnieobmhofkdaaGreatDoor

/- How what came in is read: a row of bytes. -/
namespace Go.Proofs.YtlnieobmhofkdaaGreatDoor
open Go.RowKit Go.ChangeShapes Go.WideShapes

set_option maxRecDepth 100000 in
theorem open_bytes {H : Type} {enc : TypeId × Value → H} {W : World} {base b0 : Nat} {r : Reach} {spare : Nat → Bool} {held : Bool} {v : Value} {d : DataW H} {p : List MemPlace} (hv : Value.okWide Tryz.prog W r b0 22 v)
    (h : DataW.Trod enc Tryz.prog W base spare held 22 v d p) : ∃ a n c, v = .slice a n c ∧ Bytes W a n c := by
  obtain ⟨a0, len0, cap0, rfl⟩ := okWide_slice Tryz.underlying22 hv
  refine ⟨a0, len0, cap0, rfl, ?_⟩
  obtain ⟨fuel, hf⟩ := h
  rcases open_ints Tryz.underlying22 Tryz.underlying5 (by kernel_rfl) hf with ⟨hcs, _⟩ | ⟨x, l, c, zs, hcs, _, hl, hm, hz, _, hc, hwf⟩
  · simp [Value.cells] at hcs
    obtain ⟨rfl, rfl, rfl⟩ := hcs
    exact ⟨Nat.le_refl _, Nat.zero_le _, fun h => absurd h (Nat.lt_irrefl _)⟩
  · simp [Value.cells] at hcs
    obtain ⟨rfl, rfl, rfl⟩ := hcs
    refine ⟨hl, hm, fun hp => ?_⟩
    have hlz : len0 ≤ zs.length := by rw [hz]; split <;> omega
    obtain ⟨b, off, spot⟩ := x
    have h0 := hc 0 (by omega)
    have hspot : spot = none := by simpa [Addr.add] using World.cell?_spot h0
    subst hspot
    refine ⟨b, off, rfl, cell_lt (by simpa [Addr.add] using h0), fun i hi => ⟨zs.getD i 0, ?_⟩⟩
    have hw := hwf (zs.getD i 0) (by rw [List.getD_eq_getElem?_getD, List.getElem?_eq_getElem (by omega)]; exact List.getElem_mem _)
    have hb := bounds_u8 hw
    have hadd : (⟨b, off, none⟩ : Addr).add i = ⟨b, off + i, none⟩ := by unfold Addr.add; split <;> simp_all
    exact ⟨hb.1, by omega, by rw [← hadd]; exact hc i (by omega)⟩
end Go.Proofs.YtlnieobmhofkdaaGreatDoor
