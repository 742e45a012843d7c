/- What spec.l3Has and spec.IndexHas return: the package of a text, in rows of its own, and yes, if an index tells of it; or nothing, and no; for every index and text; nothing old is written. -/
import Derived.Test.YtlnieobmhofkdaaGreatDoorSpecReadW
import Derived.Test.YtlnieobmhofkdaaGreatDoorImplHasW
namespace Go.Proofs.YtlnieobmhofkdaaGreatDoor
open Go.RowKit

attribute [local go_sem ↓] Go.wp_at_zero Go.wp_at_succ

theorem Ix.meta_mem {ms : List Ix.M} {k : Nat} (h : k < ms.length) : (Ix.nm ms k, Ix.vr ms k, Ix.sm ms k) ∈ ms := by
  unfold Ix.nm Ix.vr Ix.sm
  rw [List.getD_eq_getElem?_getD, List.getElem?_eq_getElem h]
  exact List.getElem_mem h
theorem Ix.meta_not {ms : List Ix.M} {m : Ix.M} (h : ∀ j, j < ms.length → (Ix.nm ms j, Ix.vr ms j, Ix.sm ms j) ≠ m) : m ∉ ms := by
  intro hm
  obtain ⟨i, hi, e⟩ := List.getElem_of_mem hm
  refine h i hi ?_
  unfold Ix.nm Ix.vr Ix.sm
  rw [List.getD_eq_getElem?_getD, List.getElem?_eq_getElem hi]
  exact e
/-- As if the index were ok. -/
def l3has (ms : List Ix.M) (s : List UInt8) : Option Ix.Pg := (Ix.rp s).filter (fun p => decide (Ix.metaP p ∈ ms))
theorem l3has_ok {num til : Int} {ms : List Ix.M} {s : List UInt8} (h : Ix.idxOk num til ms = true) : Ix.has num til ms s = l3has ms s := by
  unfold Ix.has l3has Ix.tellsP
  rw [h]
  simp
/-- What is answered, the index as it is. -/
def L3Ans (ms : List Ix.M) (s : ByteArray) (w : World) (e : Ending) (w' : World) : Prop :=
  ∃ fv dv, e = .returned (.tuple #[.agg #[.int .i64 ((l3has ms s.data.toList).getD Ix.zeroP).1, .int .i64 ((l3has ms s.data.toList).getD Ix.zeroP).2.1, fv, dv], .bool (l3has ms s.data.toList).isSome])
    ∧ w'.ownsRow w.heap.size 132 2 fv ((l3has ms s.data.toList).getD Ix.zeroP).2.2.1.length (flat ((l3has ms s.data.toList).getD Ix.zeroP).2.2.1) ∧ w'.ownsRow w.heap.size 134 2 dv ((l3has ms s.data.toList).getD Ix.zeroP).2.2.2.length (flat ((l3has ms s.data.toList).getD Ix.zeroP).2.2.2) ∧ Below w.heap.size w w'
theorem L3Ans.no {ms : List Ix.M} {s : ByteArray} {w w' : World} (h : l3has ms s.data.toList = none) (hb : Below w.heap.size w w') : L3Ans ms s w (.returned (.tuple #[.agg #[.int .i64 0, .int .i64 0, .slice none 0 0, .slice none 0 0], .bool false])) w' := by
  unfold L3Ans
  rw [h]
  exact ⟨_, _, rfl, World.ownsRow_nil _ _ _ _, World.ownsRow_nil _ _ _ _, hb⟩
theorem L3Ans.yes {ms : List Ix.M} {s : ByteArray} {w w' : World} {nm vr : Int} {fv dv : Value} {fs ds : List (Int × Int)} (h : l3has ms s.data.toList = some (nm, vr, fs, ds)) (hf : w'.ownsRow w.heap.size 132 2 fv fs.length (flat fs)) (hd : w'.ownsRow w.heap.size 134 2 dv ds.length (flat ds)) (hb : Below w.heap.size w w') :
    L3Ans ms s w (.returned (.tuple #[.agg #[.int .i64 nm, .int .i64 vr, fv, dv], .bool true])) w' := by
  unfold L3Ans
  rw [h]
  exact ⟨_, _, rfl, hf, hd, hb⟩

set_option maxHeartbeats 4000000 in
set_option maxRecDepth 100000 in
theorem l3Has_any (w : World) (num til : Int) (mv : Value) (ms : List Ix.M) (s : ByteArray) (h : Trs w mv ms) :
    Calls Tryz.prog 89 #[.agg #[.int .i64 num, .int .i64 til, mv], .string s] w (L3Ans ms s w) := by
  obtain ⟨a, cap, hmv⟩ := h.slice
  subst hmv
  have B1 := below1 w (.cells #[.int .i64 num, .int .i64 til, .slice a ms.length cap] 28)
  have B2 := B1.trans ((below1 (w.alloc (.cells #[.int .i64 num, .int .i64 til, .slice a ms.length cap] 28)) (.cells #[.int .i64 0, .int .i64 0, .slice none 0 0, .slice none 0 0] 42)).mono B1.size)
  have hX1 := heap_alloc_new w (.cells #[.int .i64 num, .int .i64 til, .slice a ms.length cap] 28)
  have hX2 := ((below1 (w.alloc (.cells #[.int .i64 num, .int .i64 til, .slice a ms.length cap] 28)) (.cells #[.int .i64 0, .int .i64 0, .slice none 0 0, .slice none 0 0] 42)).block _ (heapLt hX1)).trans hX1
  have hR2 := heap_alloc_new (w.alloc (.cells #[.int .i64 num, .int .i64 til, .slice a ms.length cap] 28)) (.cells #[.int .i64 0, .int .i64 0, .slice none 0 0, .slice none 0 0] 42)
  rw [sz1' w] at hR2
  have H2 := hide (And.intro B2 (And.intro hX2 hR2))
  have G2 := hide (h.later B2)
  clear B1 B2 hX1 hX2 hR2 h
  go_enter Tryz.func89, Tryz.ntmps89
  go_wp2_with fail
  refine (specRead_any s _).mono ?_
  generalize World.alloc _ _ = W2 at *
  intro e w3 h3
  obtain ⟨fv, dv, rfl, hf, hd, b3⟩ := h3.of
  clear h3
  obtain ⟨nm, vr, fs, ds, hp⟩ : ∃ nm vr fs ds, Ix.rpD s.data.toList = (nm, vr, fs, ds) := ⟨_, _, _, _, rfl⟩
  have hln := Ix.rpD_len s.data.toList
  rw [hp] at hf hd hln ⊢
  dsimp only at hf hd hln ⊢
  have HP := hide hp
  obtain ⟨fa, fc, rfl⟩ := own_form hf
  obtain ⟨da, dc, rfl⟩ := own_form hd
  have z2 : w.heap.size ≤ W2.heap.size := (unhide H2).1.size
  have b4 := below1 w3 (.cells #[.int .i64 nm, .int .i64 vr, .slice fa fs.length fc, .slice da ds.length dc] 42)
  have H4 := hide (And.intro ((unhide H2).1.trans ((b3.trans (b4.mono b3.size)).mono z2)) (And.intro (((b3.trans (b4.mono b3.size)).block _ (heapLt (unhide H2).2.1)).trans (unhide H2).2.1) (And.intro (((b3.trans (b4.mono b3.size)).block _ (heapLt (unhide H2).2.2)).trans (unhide H2).2.2) (heap_alloc_new w3 (.cells #[.int .i64 nm, .int .i64 vr, .slice fa fs.length fc, .slice da ds.length dc] 42)))))
  have O4 := hide (And.intro (own2_later (own2_base hf z2) b4) (own2_later (own2_base hd z2) b4))
  have T4 := hide ((unhide G2).later (b3.trans (b4.mono b3.size)))
  clear hf hd b3 b4 H2 G2 hp hln
  obtain ⟨b, hb⟩ : ∃ b, (Ix.rp s.data.toList).isSome = b := ⟨_, rfl⟩
  rw [hb]
  have HB := hide hb
  clear hb
  cases b with
  | false =>
    have hN : l3has ms s.data.toList = none := by
      unfold l3has
      rw [Option.isSome_eq_false_iff.1 (unhide HB) |> Option.isNone_iff_eq_none.1]
      rfl
    have HN := hide hN
    clear hN
    obtain ⟨⟨r0, r1, r2, r3⟩, ⟨q0, q1, q2, q3⟩⟩ := box_cells (unhide H4).2.2.1
    go_wp2_with fail
    generalize w3.alloc _ = W4 at *
    have HFIN := hide (box_fin (unhide H4).2.2.1 rfl (a' := .int .i64 0) (b' := .int .i64 0) (c' := .slice none 0 0) (d' := .slice none 0 0))
    generalize World.setCell _ _ _ = w7 at *
    obtain ⟨⟨z0, z1, z2, z3⟩, hfar, hb⟩ := unhide HFIN
    exact bodyPost_ret (v := .tuple #[.agg #[.int .i64 0, .int .i64 0, .slice none 0 0, .slice none 0 0], .bool false]) (by simp [results, Tryz.results89, go_sem, z0, z1, z2, z3]) rfl (L3Ans.no (unhide HN) ((unhide H4).1.trans (hb.mono (Nat.le_succ _))))
  | true =>
    have hS : Ix.rp s.data.toList = some (nm, vr, fs, ds) := by
      obtain ⟨q, hq⟩ := Option.isSome_iff_exists.1 (unhide HB)
      rw [hq, ← unhide HP, Ix.rpD_some hq]
    have hM : Ix.metaP (nm, vr, fs, ds) = (nm, vr, Sm.sum s.data.toList) := Ix.metaP_text (Ix.rp_some.1 hS).2
    have hz := s.size
    have hln := Pk.text_le30 (Ix.rp_some.1 hS).1
    have hzz : s.size ≤ 30 := by
      have e : Pk.text nm vr fs ds = s.data.toList := (Ix.rp_some.1 hS).2
      rw [show Pk.text (nm, vr, fs, ds).1 (nm, vr, fs, ds).2.1 (nm, vr, fs, ds).2.2.1 (nm, vr, fs, ds).2.2.2 = s.data.toList from e, Array.length_toList] at hln
      exact hln
    have HS := hide (And.intro hS hM)
    clear hS hM hln hz
    obtain ⟨sm, hsm⟩ : ∃ x, x = Sm.sum s.data.toList := ⟨_, rfl⟩
    rw [← hsm] at HS
    have HSM := hide hsm
    clear hsm
    go_wp2_with fail
    generalize w3.alloc _ = W4 at *
    generalize w3.heap.size = P at *
    clear W2 z2
    have HTR := hide T4
    obtain ⟨a', cap', e1, hlen, hrow⟩ := unhide T4
    injection e1 with e1 _ e3
    subst e1 e3
    clear T4
    go_loopw [8] (fun i w' => ∃ k : Nat, k ≤ ms.length ∧ i = .int .i64 k ∧ Below W4.heap.size W4 w' ∧ ∀ j, j < k → (Ix.nm ms j, Ix.vr ms j, Ix.sm ms j) ≠ (nm, vr, sm)) (fun i _ => ms.length - (intOf i).toNat)
    case atStart => exact ⟨0, Nat.zero_le _, rfl, Below.refl _ _, fun j hj => by omega⟩
    case round =>
      obtain ⟨k, hk, rfl, hw, hno⟩ := hrel
      have HW := hide hw
      have HN := hide hno
      have hXw := (hw.block _ (heapLt (unhide H4).2.1)).trans (unhide H4).2.1
      have x2 := cellOf hXw 2
      clear hw hno
      by_cases hlt : k < ms.length
      · obtain ⟨bk, off, rfl, hbs, hc⟩ := hrow (by omega)
        obtain ⟨c0, c1, c2⟩ := hc k hlt
        rw [← (unhide HW).cell hbs] at c0 c1 c2
        have hbs' : bk < wr.heap.size := Nat.lt_of_lt_of_le hbs (unhide HW).size
        clear hc hrow hXw
        have hi0 : (0 : Int) ≤ (k : Int) := Int.natCast_nonneg _
        have hi1 : (k : Int) < (ms.length : Int) := by omega
        have HK := hide (And.intro hlt (Ix.meta_mem hlt))
        generalize hA : Ix.nm ms k = xa at *
        generalize hB : Ix.vr ms k = xb at *
        generalize hC : Ix.sm ms k = xc at *
        have HX := hide (And.intro hA (And.intro hB hC))
        clear hA hB hC
        go_wp2_with fail
        have b5 := below1 wr (.cells #[.int .i64 xa, .int .i64 xb, .int .i64 xc] 55)
        have hM5 := heap_alloc_new wr (.cells #[.int .i64 xa, .int .i64 xb, .int .i64 xc] 55)
        have HW5 := hide ((unhide HW).trans (b5.mono (unhide HW).size))
        have HM5 := hide hM5
        clear b5 hM5 c0 c1 c2 x2
        generalize wr.alloc _ = W5 at *
        generalize wr.heap.size = Q at *
        have kk : ∀ w', Below W5.heap.size W5 w' → (w'.cell? ⟨Q, 0, none⟩ = some (.int .i64 xa) ∧ w'.cell? ⟨Q, 1, none⟩ = some (.int .i64 xb) ∧ w'.cell? ⟨Q, 2, none⟩ = some (.int .i64 xc)) ∧ (w'.cell? ⟨P, 0, none⟩ = some (.int .i64 nm) ∧ w'.cell? ⟨P, 1, none⟩ = some (.int .i64 vr)) := fun w' hw' => by
          have hx := (hw'.block _ (heapLt (unhide HM5))).trans (unhide HM5)
          have hy := (((unhide HW5).trans (hw'.mono (unhide HW5).size)).block _ (heapLt (unhide H4).2.2.2)).trans (unhide H4).2.2.2
          exact ⟨⟨cellOf hx 0, cellOf hx 1, cellOf hx 2⟩, cellOf hy 0, cellOf hy 1⟩
        have KK := hide kk
        have cS : ∀ w', Below W5.heap.size W5 w' → Calls Tryz.prog 62 #[.string s] w' fun e w'' => e = .returned (.int .i64 sm) ∧ Below W5.heap.size W5 w'' := fun w' hw' =>
          (specSum_any s w' (by unfold maxLen; omega)).mono fun e w'' ⟨h1, h2⟩ => ⟨by rw [h1, unhide HSM], by rw [h2]; exact hw'⟩
        have CS := hide cS
        clear kk cS
        have next : (xa, xb, xc) ≠ (nm, vr, sm) → ∀ j, j < k + 1 → (Ix.nm ms j, Ix.vr ms j, Ix.sm ms j) ≠ (nm, vr, sm) := fun hne j hj => by
          rcases Nat.lt_or_ge j k with h | h
          · exact unhide HN j h
          · obtain rfl : j = k := by omega
            rw [(unhide HX).1, (unhide HX).2.1, (unhide HX).2.2]
            exact hne
        have NX := hide next
        clear next
        by_cases ha : xa = nm
        · by_cases hb : xb = vr
          · by_cases hc : xc = sm
            · have e1 : (xa == nm) = true := by simp [ha]
              have e2 : (xb == vr) = true := by simp [hb]
              have e3 : (xc == sm) = true := by simp [hc]
              have hN : l3has ms s.data.toList = some (nm, vr, fs, ds) := by
                unfold l3has
                rw [(unhide HS).1, Option.filter_some, if_pos]
                rw [(unhide HS).2, ← ha, ← hb, ← hc]
                exact decide_eq_true (unhide HK).2
              have HNN := hide hN
              clear ha hb hc hN
              refine wq_region (by kernel_rfl) (by kernel_rfl) ?_
              refine wq_take (d := some 30) rfl (by rfl) (v := ?_) ?_ ?_
              rotate_left
              · (intro w hCw; have hKw := (unhide KK) w hCw; go_simp <;> with_reducible rfl)
              simp only [Act.put, List.setIfInBounds_toArray, List.set_cons_zero, List.set_cons_succ]
              refine wq_take (d := some 31) rfl (by rfl) (v := ?_) ?_ ?_
              rotate_left
              · (intro w hCw; have hKw := (unhide KK) w hCw; go_simp <;> with_reducible rfl)
              simp only [Act.put, List.setIfInBounds_toArray, List.set_cons_zero, List.set_cons_succ]
              refine wq_take (d := some 32) rfl (by rfl) (v := ?_) ?_ ?_
              rotate_left
              · (intro w hCw; have hKw := (unhide KK) w hCw; go_simp <;> with_reducible rfl)
              simp only [Act.put, List.setIfInBounds_toArray, List.set_cons_zero, List.set_cons_succ]
              refine wq_take (d := some 33) rfl (by rfl) (v := ?_) ?_ ?_
              rotate_left
              · (intro w hCw; have hKw := (unhide KK) w hCw; go_simp <;> with_reducible rfl)
              simp only [Act.put, List.setIfInBounds_toArray, List.set_cons_zero, List.set_cons_succ]
              refine wq_take (d := some 34) rfl (by rfl) (v := (.bool true)) ?_ ?_
              · (intro w hCw; go_simp <;> omega)
              simp only [Act.put, List.setIfInBounds_toArray, List.set_cons_zero, List.set_cons_succ]
              refine wq_move (d := some 35) rfl rfl (by rfl) rfl ?_
              simp only [Act.put, List.setIfInBounds_toArray, List.set_cons_zero, List.set_cons_succ, List.getElem_toArray, List.getElem_cons_zero, List.getElem_cons_succ]
              refine wq_take (d := some 36) rfl (by rfl) (v := ?_) ?_ ?_
              rotate_left
              · (intro w hCw; have hKw := (unhide KK) w hCw; go_simp <;> with_reducible rfl)
              simp only [Act.put, List.setIfInBounds_toArray, List.set_cons_zero, List.set_cons_succ]
              refine wq_take (d := some 37) rfl (by rfl) (v := ?_) ?_ ?_
              rotate_left
              · (intro w hCw; have hKw := (unhide KK) w hCw; go_simp <;> with_reducible rfl)
              simp only [Act.put, List.setIfInBounds_toArray, List.set_cons_zero, List.set_cons_succ]
              refine wq_take (d := some 38) rfl (by rfl) (v := ?_) ?_ ?_
              rotate_left
              · (intro w hCw; have hKw := (unhide KK) w hCw; go_simp <;> with_reducible rfl)
              simp only [Act.put, List.setIfInBounds_toArray, List.set_cons_zero, List.set_cons_succ]
              refine wq_take (d := some 39) rfl (by rfl) (v := ?_) ?_ ?_
              rotate_left
              · (intro w hCw; have hKw := (unhide KK) w hCw; go_simp <;> with_reducible rfl)
              simp only [Act.put, List.setIfInBounds_toArray, List.set_cons_zero, List.set_cons_succ]
              refine wq_take (d := some 40) rfl (by rfl) (v := (.bool true)) ?_ ?_
              · (intro w hCw; go_simp <;> omega)
              simp only [Act.put, List.setIfInBounds_toArray, List.set_cons_zero, List.set_cons_succ]
              refine wq_take (d := some 41) rfl (by rfl) (v := ?_) ?_ ?_
              rotate_left
              · (intro w hCw; have hKw := (unhide KK) w hCw; go_simp <;> with_reducible rfl)
              simp only [Act.put, List.setIfInBounds_toArray, List.set_cons_zero, List.set_cons_succ]
              refine wq_move (d := some 42) rfl rfl (by rfl) rfl ?_
              simp only [Act.put, List.setIfInBounds_toArray, List.set_cons_zero, List.set_cons_succ, List.getElem_toArray, List.getElem_cons_zero, List.getElem_cons_succ]
              refine wq_take (d := some 43) rfl (by rfl) (v := ?_) ?_ ?_
              rotate_left
              · (intro w hCw; have hKw := (unhide KK) w hCw; go_simp <;> with_reducible rfl)
              simp only [Act.put, List.setIfInBounds_toArray, List.set_cons_zero, List.set_cons_succ]
              refine wq_take (d := some 44) rfl (by rfl) (v := ?_) ?_ ?_
              rotate_left
              · (intro w hCw; have hKw := (unhide KK) w hCw; go_simp <;> with_reducible rfl)
              simp only [Act.put, List.setIfInBounds_toArray, List.set_cons_zero, List.set_cons_succ]
              refine wq_move (d := some 45) rfl rfl (by rfl) rfl ?_
              simp only [Act.put, List.setIfInBounds_toArray, List.set_cons_zero, List.set_cons_succ, List.getElem_toArray, List.getElem_cons_zero, List.getElem_cons_succ]
              refine wq_call (d := some 46) rfl (by rfl) (hc := (unhide CS)) ?_ ?_
              · (intro w hCw; go_simp)
              simp only [Act.put, List.setIfInBounds_toArray, List.set_cons_zero, List.set_cons_succ]
              refine wq_take (d := some 47) rfl (by rfl) (v := (.bool true)) ?_ ?_
              · (intro w hCw; go_simp <;> omega)
              simp only [Act.put, List.setIfInBounds_toArray, List.set_cons_zero, List.set_cons_succ]
              refine wq_take (d := some 48) rfl (by rfl) (v := ?_) ?_ ?_
              rotate_left
              · (intro w hCw; have hKw := (unhide KK) w hCw; go_simp <;> with_reducible rfl)
              simp only [Act.put, List.setIfInBounds_toArray, List.set_cons_zero, List.set_cons_succ]
              refine wq_nil ?_
              intro w9 hw9
              have hbb := (unhide HW5).trans (hw9.mono (unhide HW5).size)
              have hR := (hbb.block _ (heapLt (unhide H4).2.2.1)).trans (unhide H4).2.2.1
              have hP := (hbb.block _ (heapLt (unhide H4).2.2.2)).trans (unhide H4).2.2.2
              have HR := hide hR
              obtain ⟨⟨r0, r1, r2, r3⟩, ⟨q0, q1, q2, q3⟩⟩ := box_cells hR
              obtain ⟨⟨c0, c1, c2, c3⟩, _⟩ := box_cells hP
              have HO := hide (And.intro (own2_later (unhide O4).1 hbb) (own2_later (unhide O4).2 hbb))
              have HW := hide hbb
              clear hw9 hR hP hbb
              go_wp2_with fail
              have HFIN := hide (box_fin (unhide HR) rfl (a' := .int .i64 nm) (b' := .int .i64 vr) (c' := .slice fa fs.length fc) (d' := .slice da ds.length dc))
              generalize World.setCell _ _ _ = w7 at *
              obtain ⟨⟨z0, z1, z2, z3⟩, hfar, hb⟩ := unhide HFIN
              have hf7 : w7.ownsRow w.heap.size 132 2 (.slice fa fs.length fc) fs.length (flat fs) := own_keep (unhide HO).1 (fun k _ _ _ hk => hfar k (fun e => by subst e; exact pkg_not_file (unhide HR) hk))
              have hd7 : w7.ownsRow w.heap.size 134 2 (.slice da ds.length dc) ds.length (flat ds) := own_keep (unhide HO).2 (fun k _ _ _ hk => hfar k (fun e => by subst e; exact pkg_not_dep (unhide HR) hk))
              exact bodyPost_ret (v := .tuple #[.agg #[.int .i64 nm, .int .i64 vr, .slice fa fs.length fc, .slice da ds.length dc], .bool true]) (by simp [results, Tryz.results89, go_sem, z0, z1, z2, z3]) rfl (L3Ans.yes (unhide HNN) hf7 hd7 (((unhide H4).1.trans ((unhide HW).mono (unhide H4).1.size)).trans (hb.mono (Nat.le_succ _))))
            · have e1 : (xa == nm) = true := by simp [ha]
              have e2 : (xb == vr) = true := by simp [hb]
              have e3 : (xc == sm) = false := by simp [hc]
              have hb2 := hide (unhide NX (fun e => hc (congrArg (fun x : Ix.M => x.2.2) e)))
              clear ha hb hc
              refine wq_region (by kernel_rfl) (by kernel_rfl) ?_
              refine wq_take (d := some 30) rfl (by rfl) (v := ?_) ?_ ?_
              rotate_left
              · (intro w hCw; have hKw := (unhide KK) w hCw; go_simp <;> with_reducible rfl)
              simp only [Act.put, List.setIfInBounds_toArray, List.set_cons_zero, List.set_cons_succ]
              refine wq_take (d := some 31) rfl (by rfl) (v := ?_) ?_ ?_
              rotate_left
              · (intro w hCw; have hKw := (unhide KK) w hCw; go_simp <;> with_reducible rfl)
              simp only [Act.put, List.setIfInBounds_toArray, List.set_cons_zero, List.set_cons_succ]
              refine wq_take (d := some 32) rfl (by rfl) (v := ?_) ?_ ?_
              rotate_left
              · (intro w hCw; have hKw := (unhide KK) w hCw; go_simp <;> with_reducible rfl)
              simp only [Act.put, List.setIfInBounds_toArray, List.set_cons_zero, List.set_cons_succ]
              refine wq_take (d := some 33) rfl (by rfl) (v := ?_) ?_ ?_
              rotate_left
              · (intro w hCw; have hKw := (unhide KK) w hCw; go_simp <;> with_reducible rfl)
              simp only [Act.put, List.setIfInBounds_toArray, List.set_cons_zero, List.set_cons_succ]
              refine wq_take (d := some 34) rfl (by rfl) (v := (.bool true)) ?_ ?_
              · (intro w hCw; go_simp <;> omega)
              simp only [Act.put, List.setIfInBounds_toArray, List.set_cons_zero, List.set_cons_succ]
              refine wq_move (d := some 35) rfl rfl (by rfl) rfl ?_
              simp only [Act.put, List.setIfInBounds_toArray, List.set_cons_zero, List.set_cons_succ, List.getElem_toArray, List.getElem_cons_zero, List.getElem_cons_succ]
              refine wq_take (d := some 36) rfl (by rfl) (v := ?_) ?_ ?_
              rotate_left
              · (intro w hCw; have hKw := (unhide KK) w hCw; go_simp <;> with_reducible rfl)
              simp only [Act.put, List.setIfInBounds_toArray, List.set_cons_zero, List.set_cons_succ]
              refine wq_take (d := some 37) rfl (by rfl) (v := ?_) ?_ ?_
              rotate_left
              · (intro w hCw; have hKw := (unhide KK) w hCw; go_simp <;> with_reducible rfl)
              simp only [Act.put, List.setIfInBounds_toArray, List.set_cons_zero, List.set_cons_succ]
              refine wq_take (d := some 38) rfl (by rfl) (v := ?_) ?_ ?_
              rotate_left
              · (intro w hCw; have hKw := (unhide KK) w hCw; go_simp <;> with_reducible rfl)
              simp only [Act.put, List.setIfInBounds_toArray, List.set_cons_zero, List.set_cons_succ]
              refine wq_take (d := some 39) rfl (by rfl) (v := ?_) ?_ ?_
              rotate_left
              · (intro w hCw; have hKw := (unhide KK) w hCw; go_simp <;> with_reducible rfl)
              simp only [Act.put, List.setIfInBounds_toArray, List.set_cons_zero, List.set_cons_succ]
              refine wq_take (d := some 40) rfl (by rfl) (v := (.bool true)) ?_ ?_
              · (intro w hCw; go_simp <;> omega)
              simp only [Act.put, List.setIfInBounds_toArray, List.set_cons_zero, List.set_cons_succ]
              refine wq_take (d := some 41) rfl (by rfl) (v := ?_) ?_ ?_
              rotate_left
              · (intro w hCw; have hKw := (unhide KK) w hCw; go_simp <;> with_reducible rfl)
              simp only [Act.put, List.setIfInBounds_toArray, List.set_cons_zero, List.set_cons_succ]
              refine wq_move (d := some 42) rfl rfl (by rfl) rfl ?_
              simp only [Act.put, List.setIfInBounds_toArray, List.set_cons_zero, List.set_cons_succ, List.getElem_toArray, List.getElem_cons_zero, List.getElem_cons_succ]
              refine wq_take (d := some 43) rfl (by rfl) (v := ?_) ?_ ?_
              rotate_left
              · (intro w hCw; have hKw := (unhide KK) w hCw; go_simp <;> with_reducible rfl)
              simp only [Act.put, List.setIfInBounds_toArray, List.set_cons_zero, List.set_cons_succ]
              refine wq_take (d := some 44) rfl (by rfl) (v := ?_) ?_ ?_
              rotate_left
              · (intro w hCw; have hKw := (unhide KK) w hCw; go_simp <;> with_reducible rfl)
              simp only [Act.put, List.setIfInBounds_toArray, List.set_cons_zero, List.set_cons_succ]
              refine wq_move (d := some 45) rfl rfl (by rfl) rfl ?_
              simp only [Act.put, List.setIfInBounds_toArray, List.set_cons_zero, List.set_cons_succ, List.getElem_toArray, List.getElem_cons_zero, List.getElem_cons_succ]
              refine wq_call (d := some 46) rfl (by rfl) (hc := (unhide CS)) ?_ ?_
              · (intro w hCw; go_simp)
              simp only [Act.put, List.setIfInBounds_toArray, List.set_cons_zero, List.set_cons_succ]
              refine wq_take (d := some 47) rfl (by rfl) (v := (.bool false)) ?_ ?_
              · (intro w hCw; go_simp <;> omega)
              simp only [Act.put, List.setIfInBounds_toArray, List.set_cons_zero, List.set_cons_succ]
              refine wq_take (d := some 48) rfl (by rfl) (v := ?_) ?_ ?_
              rotate_left
              · (intro w hCw; have hKw := (unhide KK) w hCw; go_simp <;> with_reducible rfl)
              simp only [Act.put, List.setIfInBounds_toArray, List.set_cons_zero, List.set_cons_succ]
              refine wq_nil ?_
              intro w9 hw9
              go_wp2
              go_roundw
              case rel => exact ⟨k + 1, by omega, by go_num, (unhide HW5).trans (hw9.mono (unhide HW5).size), unhide hb2⟩
              case measure => simp [intOf]; omega
          · have e1 : (xa == nm) = true := by simp [ha]
            have e2 : (xb == vr) = false := by simp [hb]
            have hb2 := hide (unhide NX (fun e => hb (congrArg (fun x : Ix.M => x.2.1) e)))
            clear ha hb
            refine wq_region (by kernel_rfl) (by kernel_rfl) ?_
            refine wq_take (d := some 30) rfl (by rfl) (v := ?_) ?_ ?_
            rotate_left
            · (intro w hCw; have hKw := (unhide KK) w hCw; go_simp <;> with_reducible rfl)
            simp only [Act.put, List.setIfInBounds_toArray, List.set_cons_zero, List.set_cons_succ]
            refine wq_take (d := some 31) rfl (by rfl) (v := ?_) ?_ ?_
            rotate_left
            · (intro w hCw; have hKw := (unhide KK) w hCw; go_simp <;> with_reducible rfl)
            simp only [Act.put, List.setIfInBounds_toArray, List.set_cons_zero, List.set_cons_succ]
            refine wq_take (d := some 32) rfl (by rfl) (v := ?_) ?_ ?_
            rotate_left
            · (intro w hCw; have hKw := (unhide KK) w hCw; go_simp <;> with_reducible rfl)
            simp only [Act.put, List.setIfInBounds_toArray, List.set_cons_zero, List.set_cons_succ]
            refine wq_take (d := some 33) rfl (by rfl) (v := ?_) ?_ ?_
            rotate_left
            · (intro w hCw; have hKw := (unhide KK) w hCw; go_simp <;> with_reducible rfl)
            simp only [Act.put, List.setIfInBounds_toArray, List.set_cons_zero, List.set_cons_succ]
            refine wq_take (d := some 34) rfl (by rfl) (v := (.bool true)) ?_ ?_
            · (intro w hCw; go_simp <;> omega)
            simp only [Act.put, List.setIfInBounds_toArray, List.set_cons_zero, List.set_cons_succ]
            refine wq_move (d := some 35) rfl rfl (by rfl) rfl ?_
            simp only [Act.put, List.setIfInBounds_toArray, List.set_cons_zero, List.set_cons_succ, List.getElem_toArray, List.getElem_cons_zero, List.getElem_cons_succ]
            refine wq_take (d := some 36) rfl (by rfl) (v := ?_) ?_ ?_
            rotate_left
            · (intro w hCw; have hKw := (unhide KK) w hCw; go_simp <;> with_reducible rfl)
            simp only [Act.put, List.setIfInBounds_toArray, List.set_cons_zero, List.set_cons_succ]
            refine wq_take (d := some 37) rfl (by rfl) (v := ?_) ?_ ?_
            rotate_left
            · (intro w hCw; have hKw := (unhide KK) w hCw; go_simp <;> with_reducible rfl)
            simp only [Act.put, List.setIfInBounds_toArray, List.set_cons_zero, List.set_cons_succ]
            refine wq_take (d := some 38) rfl (by rfl) (v := ?_) ?_ ?_
            rotate_left
            · (intro w hCw; have hKw := (unhide KK) w hCw; go_simp <;> with_reducible rfl)
            simp only [Act.put, List.setIfInBounds_toArray, List.set_cons_zero, List.set_cons_succ]
            refine wq_take (d := some 39) rfl (by rfl) (v := ?_) ?_ ?_
            rotate_left
            · (intro w hCw; have hKw := (unhide KK) w hCw; go_simp <;> with_reducible rfl)
            simp only [Act.put, List.setIfInBounds_toArray, List.set_cons_zero, List.set_cons_succ]
            refine wq_take (d := some 40) rfl (by rfl) (v := (.bool false)) ?_ ?_
            · (intro w hCw; go_simp <;> omega)
            simp only [Act.put, List.setIfInBounds_toArray, List.set_cons_zero, List.set_cons_succ]
            refine wq_take (d := some 41) rfl (by rfl) (v := ?_) ?_ ?_
            rotate_left
            · (intro w hCw; have hKw := (unhide KK) w hCw; go_simp <;> with_reducible rfl)
            simp only [Act.put, List.setIfInBounds_toArray, List.set_cons_zero, List.set_cons_succ]
            refine wq_move (d := some 42) rfl rfl (by rfl) rfl ?_
            simp only [Act.put, List.setIfInBounds_toArray, List.set_cons_zero, List.set_cons_succ, List.getElem_toArray, List.getElem_cons_zero, List.getElem_cons_succ]
            refine wq_skip (d := some 43) rfl (by rfl) ?_
            simp only [Act.put, List.setIfInBounds_toArray, List.set_cons_zero, List.set_cons_succ]
            refine wq_skip (d := some 44) rfl (by rfl) ?_
            simp only [Act.put, List.setIfInBounds_toArray, List.set_cons_zero, List.set_cons_succ]
            refine wq_skip (d := some 45) rfl (by rfl) ?_
            simp only [Act.put, List.setIfInBounds_toArray, List.set_cons_zero, List.set_cons_succ]
            refine wq_skip (d := some 46) rfl (by rfl) ?_
            simp only [Act.put, List.setIfInBounds_toArray, List.set_cons_zero, List.set_cons_succ]
            refine wq_skip (d := some 47) rfl (by rfl) ?_
            simp only [Act.put, List.setIfInBounds_toArray, List.set_cons_zero, List.set_cons_succ]
            refine wq_take (d := some 48) rfl (by rfl) (v := ?_) ?_ ?_
            rotate_left
            · (intro w hCw; have hKw := (unhide KK) w hCw; go_simp <;> with_reducible rfl)
            simp only [Act.put, List.setIfInBounds_toArray, List.set_cons_zero, List.set_cons_succ]
            refine wq_nil ?_
            intro w9 hw9
            go_wp2
            go_roundw
            case rel => exact ⟨k + 1, by omega, by go_num, (unhide HW5).trans (hw9.mono (unhide HW5).size), unhide hb2⟩
            case measure => simp [intOf]; omega
        · have hb1 : (xa == nm) = false := by simp [ha]
          have hb2 := hide (unhide NX (fun e => ha (congrArg (fun x : Ix.M => x.1) e)))
          refine wq_region (by kernel_rfl) (by kernel_rfl) ?_
          refine wq_take (d := some 30) rfl (by rfl) (v := ?_) ?_ ?_
          rotate_left
          · (intro w hCw; have hKw := (unhide KK) w hCw; go_simp <;> with_reducible rfl)
          simp only [Act.put, List.setIfInBounds_toArray, List.set_cons_zero, List.set_cons_succ]
          refine wq_take (d := some 31) rfl (by rfl) (v := ?_) ?_ ?_
          rotate_left
          · (intro w hCw; have hKw := (unhide KK) w hCw; go_simp <;> with_reducible rfl)
          simp only [Act.put, List.setIfInBounds_toArray, List.set_cons_zero, List.set_cons_succ]
          refine wq_take (d := some 32) rfl (by rfl) (v := ?_) ?_ ?_
          rotate_left
          · (intro w hCw; have hKw := (unhide KK) w hCw; go_simp <;> with_reducible rfl)
          simp only [Act.put, List.setIfInBounds_toArray, List.set_cons_zero, List.set_cons_succ]
          refine wq_take (d := some 33) rfl (by rfl) (v := ?_) ?_ ?_
          rotate_left
          · (intro w hCw; have hKw := (unhide KK) w hCw; go_simp <;> with_reducible rfl)
          simp only [Act.put, List.setIfInBounds_toArray, List.set_cons_zero, List.set_cons_succ]
          refine wq_take (d := some 34) rfl (by rfl) (v := (.bool false)) ?_ ?_
          · (intro w hCw; go_simp <;> omega)
          simp only [Act.put, List.setIfInBounds_toArray, List.set_cons_zero, List.set_cons_succ]
          refine wq_move (d := some 35) rfl rfl (by rfl) rfl ?_
          simp only [Act.put, List.setIfInBounds_toArray, List.set_cons_zero, List.set_cons_succ, List.getElem_toArray, List.getElem_cons_zero, List.getElem_cons_succ]
          refine wq_skip (d := some 36) rfl (by rfl) ?_
          simp only [Act.put, List.setIfInBounds_toArray, List.set_cons_zero, List.set_cons_succ]
          refine wq_skip (d := some 37) rfl (by rfl) ?_
          simp only [Act.put, List.setIfInBounds_toArray, List.set_cons_zero, List.set_cons_succ]
          refine wq_skip (d := some 38) rfl (by rfl) ?_
          simp only [Act.put, List.setIfInBounds_toArray, List.set_cons_zero, List.set_cons_succ]
          refine wq_skip (d := some 39) rfl (by rfl) ?_
          simp only [Act.put, List.setIfInBounds_toArray, List.set_cons_zero, List.set_cons_succ]
          refine wq_skip (d := some 40) rfl (by rfl) ?_
          simp only [Act.put, List.setIfInBounds_toArray, List.set_cons_zero, List.set_cons_succ]
          refine wq_take (d := some 41) rfl (by rfl) (v := ?_) ?_ ?_
          rotate_left
          · (intro w hCw; have hKw := (unhide KK) w hCw; go_simp <;> with_reducible rfl)
          simp only [Act.put, List.setIfInBounds_toArray, List.set_cons_zero, List.set_cons_succ]
          refine wq_move (d := some 42) rfl rfl (by rfl) rfl ?_
          simp only [Act.put, List.setIfInBounds_toArray, List.set_cons_zero, List.set_cons_succ, List.getElem_toArray, List.getElem_cons_zero, List.getElem_cons_succ]
          refine wq_skip (d := some 43) rfl (by rfl) ?_
          simp only [Act.put, List.setIfInBounds_toArray, List.set_cons_zero, List.set_cons_succ]
          refine wq_skip (d := some 44) rfl (by rfl) ?_
          simp only [Act.put, List.setIfInBounds_toArray, List.set_cons_zero, List.set_cons_succ]
          refine wq_skip (d := some 45) rfl (by rfl) ?_
          simp only [Act.put, List.setIfInBounds_toArray, List.set_cons_zero, List.set_cons_succ]
          refine wq_skip (d := some 46) rfl (by rfl) ?_
          simp only [Act.put, List.setIfInBounds_toArray, List.set_cons_zero, List.set_cons_succ]
          refine wq_skip (d := some 47) rfl (by rfl) ?_
          simp only [Act.put, List.setIfInBounds_toArray, List.set_cons_zero, List.set_cons_succ]
          refine wq_take (d := some 48) rfl (by rfl) (v := ?_) ?_ ?_
          rotate_left
          · (intro w hCw; have hKw := (unhide KK) w hCw; go_simp <;> with_reducible rfl)
          simp only [Act.put, List.setIfInBounds_toArray, List.set_cons_zero, List.set_cons_succ]
          refine wq_nil ?_
          intro w9 hw9
          go_wp2
          go_roundw
          case rel => exact ⟨k + 1, by omega, by go_num, (unhide HW5).trans (hw9.mono (unhide HW5).size), unhide hb2⟩
          case measure => simp [intOf]; omega
      · obtain rfl : k = ms.length := by omega
        have hN : l3has ms s.data.toList = none := by
          unfold l3has
          rw [(unhide HS).1, Option.filter_some, if_neg]
          rw [(unhide HS).2]
          simpa using Ix.meta_not (unhide HN)
        have HNN := hide hN
        have hR := ((unhide HW).block _ (heapLt (unhide H4).2.2.1)).trans (unhide H4).2.2.1
        have HR := hide hR
        obtain ⟨⟨r0, r1, r2, r3⟩, ⟨q0, q1, q2, q3⟩⟩ := box_cells hR
        clear hN hlt hR hXw hrow
        go_wp2_with fail
        have HFIN := hide (box_fin (unhide HR) rfl (a' := .int .i64 0) (b' := .int .i64 0) (c' := .slice none 0 0) (d' := .slice none 0 0))
        generalize World.setCell _ _ _ = w7 at *
        obtain ⟨⟨z0, z1, z2, z3⟩, hfar, hb⟩ := unhide HFIN
        exact bodyPost_ret (v := .tuple #[.agg #[.int .i64 0, .int .i64 0, .slice none 0 0, .slice none 0 0], .bool false]) (by simp [results, Tryz.results89, go_sem, z0, z1, z2, z3]) rfl (L3Ans.no (unhide HNN) (((unhide H4).1.trans ((unhide HW).mono (unhide H4).1.size)).trans (hb.mono (Nat.le_succ _))))

end Go.Proofs.YtlnieobmhofkdaaGreatDoor
