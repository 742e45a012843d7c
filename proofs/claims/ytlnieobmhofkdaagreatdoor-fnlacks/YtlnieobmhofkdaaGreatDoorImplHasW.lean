import Derived.Test.YtlnieobmhofkdaaGreatDoorMix16
import Derived.Test.YtlnieobmhofkdaaGreatDoorMix18
import Derived.Test.YtlnieobmhofkdaaGreatDoorMix13
/- What impl.PkgRead and impl.IndexHas return: the package of a text, in rows of its own, and yes, if an index tells of it; or nothing, and no; for every index and text; nothing old is written. -/
namespace Go.Proofs.YtlnieobmhofkdaaGreatDoor
open Go.RowKit

attribute [local go_sem ↓] Go.wp_at_zero Go.wp_at_succ

theorem Answer.of {s : ByteArray} {w w' : World} {e : Ending} (h : Answer s w e w') : ∃ fv dv, e = .returned (.tuple #[.agg #[.int .i64 (Ix.rpD s.data.toList).1, .int .i64 (Ix.rpD s.data.toList).2.1, fv, dv], .bool (Ix.rp s.data.toList).isSome])
    ∧ w'.ownsRow w.heap.size 132 2 fv (Ix.rpD s.data.toList).2.2.1.length (flat (Ix.rpD s.data.toList).2.2.1) ∧ w'.ownsRow w.heap.size 134 2 dv (Ix.rpD s.data.toList).2.2.2.length (flat (Ix.rpD s.data.toList).2.2.2) ∧ Below w.heap.size w w' := by
  obtain ⟨h | ⟨he, hn⟩, hb⟩ := h
  · obtain ⟨nm, vr, fs, ds, fv, dv, he, ho, ht, hf, hd⟩ := h
    have hr : Ix.rp s.data.toList = some (nm, vr, fs, ds) := Ix.rp_some.2 ⟨ho, ht⟩
    rw [Ix.rpD_some hr, hr]
    exact ⟨fv, dv, he, hf, hd, hb⟩
  · have hr : Ix.rp s.data.toList = none := Ix.rp_none.2 (fun p ho => hn _ _ _ _ ho)
    rw [Ix.rpD_none hr, hr]
    exact ⟨_, _, he, World.ownsRow_nil _ _ _ _, World.ownsRow_nil _ _ _ _, hb⟩
/-- What is answered of a text, an index at hand. -/
def HasAns (num til : Int) (ms : List Ix.M) (s : ByteArray) (w : World) (e : Ending) (w' : World) : Prop :=
  ∃ fv dv, e = .returned (.tuple #[.agg #[.int .i64 (Ix.hasD num til ms s.data.toList).1, .int .i64 (Ix.hasD num til ms s.data.toList).2.1, fv, dv], .bool (Ix.hasB num til ms s.data.toList)])
    ∧ w'.ownsRow w.heap.size 132 2 fv (Ix.hasD num til ms s.data.toList).2.2.1.length (flat (Ix.hasD num til ms s.data.toList).2.2.1) ∧ w'.ownsRow w.heap.size 134 2 dv (Ix.hasD num til ms s.data.toList).2.2.2.length (flat (Ix.hasD num til ms s.data.toList).2.2.2) ∧ Below w.heap.size w w'
theorem HasAns.no {num til : Int} {ms : List Ix.M} {s : ByteArray} {w w' : World} (h : Ix.has num til ms s.data.toList = none) (hb : Below w.heap.size w w') : HasAns num til ms s w (.returned (.tuple #[.agg #[.int .i64 0, .int .i64 0, .slice none 0 0, .slice none 0 0], .bool false])) w' := by
  unfold HasAns
  rw [(Ix.hasD_none h).1, (Ix.hasD_none h).2]
  exact ⟨_, _, rfl, World.ownsRow_nil _ _ _ _, World.ownsRow_nil _ _ _ _, hb⟩
theorem HasAns.yes {num til : Int} {ms : List Ix.M} {s : ByteArray} {w w' : World} {nm vr : Int} {fv dv : Value} {fs ds : List (Int × Int)} (h : Ix.has num til ms s.data.toList = some (nm, vr, fs, ds)) (hf : w'.ownsRow w.heap.size 132 2 fv fs.length (flat fs)) (hd : w'.ownsRow w.heap.size 134 2 dv ds.length (flat ds)) (hb : Below w.heap.size w w') :
    HasAns num til ms s w (.returned (.tuple #[.agg #[.int .i64 nm, .int .i64 vr, fv, dv], .bool true])) w' := by
  unfold HasAns
  rw [(Ix.hasD_some h).1, (Ix.hasD_some h).2]
  exact ⟨_, _, rfl, hf, hd, hb⟩

set_option maxHeartbeats 4000000 in
set_option maxRecDepth 100000 in
theorem implHas_any (w : World) (num til : Int) (mv : Value) (ms : List Ix.M) (s : ByteArray) (ev : Addr) (g : Gl w ev) (h : Trs w mv ms) :
    Calls Tryz.prog 15 #[.agg #[.int .i64 num, .int .i64 til, mv], .string s] w (HasAns num til ms s w) := by
  obtain ⟨a, cap, hmv⟩ := h.slice
  subst hmv
  have B1 := below1 w (.cells #[.int .i64 num, .int .i64 til, .slice a ms.length cap] 28)
  have B2 := B1.trans ((below1 (w.alloc (.cells #[.int .i64 num, .int .i64 til, .slice a ms.length cap] 28)) (.cells #[.int .i64 0, .int .i64 0, .slice none 0 0, .slice none 0 0] 42)).mono B1.size)
  have hX1 := heap_alloc_new w (.cells #[.int .i64 num, .int .i64 til, .slice a ms.length cap] 28)
  have hX2 := ((below1 (w.alloc (.cells #[.int .i64 num, .int .i64 til, .slice a ms.length cap] 28)) (.cells #[.int .i64 0, .int .i64 0, .slice none 0 0, .slice none 0 0] 42)).block _ (heapLt hX1)).trans hX1
  have hR2 := heap_alloc_new (w.alloc (.cells #[.int .i64 num, .int .i64 til, .slice a ms.length cap] 28)) (.cells #[.int .i64 0, .int .i64 0, .slice none 0 0, .slice none 0 0] 42)
  rw [sz1' w] at hR2
  have H2 := hide (And.intro B2 (And.intro hX2 hR2))
  have G2 := hide (And.intro (g.later B2) (h.later B2))
  clear B1 B2 hX1 hX2 hR2 g h
  go_enter Tryz.func15, Tryz.ntmps15
  go_wp2_with fail
  refine (implRead_any s _ ev (unhide G2).1).mono ?_
  generalize World.alloc _ _ = W2 at *
  intro e w3 h3
  obtain ⟨fv, dv, rfl, hf, hd, b3⟩ := h3.of
  clear h3
  obtain ⟨nm, vr, fs, ds, hp⟩ : ∃ nm vr fs ds, Ix.rpD s.data.toList = (nm, vr, fs, ds) := ⟨_, _, _, _, rfl⟩
  have hln := Ix.rpD_len s.data.toList
  rw [hp] at hf hd hln ⊢
  dsimp only at hf hd hln ⊢
  have HP := hide hp
  obtain ⟨fa, fc, rfl⟩ := own_form hf
  obtain ⟨da, dc, rfl⟩ := own_form hd
  have z2 : w.heap.size ≤ W2.heap.size := (unhide H2).1.size
  have b4 := below1 w3 (.cells #[.int .i64 nm, .int .i64 vr, .slice fa fs.length fc, .slice da ds.length dc] 42)
  have H4 := hide (And.intro ((unhide H2).1.trans ((b3.trans (b4.mono b3.size)).mono z2)) (And.intro (((b3.trans (b4.mono b3.size)).block _ (heapLt (unhide H2).2.1)).trans (unhide H2).2.1) (And.intro (((b3.trans (b4.mono b3.size)).block _ (heapLt (unhide H2).2.2)).trans (unhide H2).2.2) (heap_alloc_new w3 (.cells #[.int .i64 nm, .int .i64 vr, .slice fa fs.length fc, .slice da ds.length dc] 42)))))
  have O4 := hide (And.intro (own2_later (own2_base hf z2) b4) (own2_later (own2_base hd z2) b4))
  have T4 := hide ((unhide G2).2.later (b3.trans (b4.mono b3.size)))
  have Q4 := hide (And.intro ((Prs.own hf (by omega)).later b4) ((Prs.own hd (by omega)).later b4))
  clear hf hd b3 b4 H2 G2 hp hln
  obtain ⟨b, hb⟩ : ∃ b, (Ix.rp s.data.toList).isSome = b := ⟨_, rfl⟩
  rw [hb]
  have HB := hide hb
  clear hb
  go_wp2_with fail
  generalize w3.alloc _ = W4 at *
  generalize w3.heap.size = P at *
  clear W2 z2
  have kk : ∀ w', Below W4.heap.size W4 w' → (w'.cell? ⟨w.heap.size, 0, none⟩ = some (.int .i64 num) ∧ w'.cell? ⟨w.heap.size, 1, none⟩ = some (.int .i64 til) ∧ w'.cell? ⟨w.heap.size, 2, none⟩ = some (.slice a ms.length cap)) ∧ (w'.cell? ⟨P, 0, none⟩ = some (.int .i64 nm) ∧ w'.cell? ⟨P, 1, none⟩ = some (.int .i64 vr) ∧ w'.cell? ⟨P, 2, none⟩ = some (.slice fa fs.length fc) ∧ w'.cell? ⟨P, 3, none⟩ = some (.slice da ds.length dc)) := fun w' hw' => by
    have hx := (hw'.block _ (heapLt (unhide H4).2.1)).trans (unhide H4).2.1
    have hy := (hw'.block _ (heapLt (unhide H4).2.2.2)).trans (unhide H4).2.2.2
    exact ⟨⟨cellOf hx 0, cellOf hx 1, cellOf hx 2⟩, cellOf hy 0, cellOf hy 1, cellOf hy 2, cellOf hy 3⟩
  have KK := hide kk
  clear kk
  have cI : ∀ w', Below W4.heap.size W4 w' → Calls Tryz.prog 51 #[.agg #[.int .i64 num, .int .i64 til, .slice a ms.length cap]] w' fun e w'' => e = .returned (.bool (Ix.idxOk num til ms)) ∧ Below W4.heap.size W4 w'' := fun w' hw' =>
    (implIndexOk_any w' num til _ ms ((unhide T4).later hw')).mono fun e w'' ⟨h1, h2⟩ => ⟨h1, hw'.trans (h2.mono hw'.size)⟩
  have cM : ∀ w', Below W4.heap.size W4 w' → Calls Tryz.prog 53 #[.agg #[.int .i64 nm, .int .i64 vr, .slice fa fs.length fc, .slice da ds.length dc]] w' fun e w'' => e = .returned (.agg #[.int .i64 nm, .int .i64 vr, .int .i64 (Sm.sum (Pk.text nm vr fs ds))]) ∧ Below W4.heap.size W4 w'' := fun w' hw' =>
    (metaOf_any w' nm vr _ _ fs ds ((unhide Q4).1.later hw') ((unhide Q4).2.later hw')).mono fun e w'' ⟨h1, h2⟩ => ⟨h1, hw'.trans (h2.mono hw'.size)⟩
  have cT : ∀ w', Below W4.heap.size W4 w' → Calls Tryz.prog 52 #[.agg #[.int .i64 num, .int .i64 til, .slice a ms.length cap], .agg #[.int .i64 nm, .int .i64 vr, .int .i64 (Sm.sum (Pk.text nm vr fs ds))]] w' fun e w'' => e = .returned (.bool (decide ((nm, vr, Sm.sum (Pk.text nm vr fs ds)) ∈ ms))) ∧ Below W4.heap.size W4 w'' := fun w' hw' =>
    (tells_any w' num til _ ms nm vr _ ((unhide T4).later hw')).mono fun e w'' ⟨h1, h2⟩ => ⟨h1, hw'.trans (h2.mono hw'.size)⟩
  have CI := hide cI
  have CM := hide cM
  have CT := hide cT
  clear cI cM cT T4 Q4
  cases b with
  | false =>
    have hN := Ix.has_none (num := num) (til := til) (ms := ms) (Option.isSome_eq_false_iff.1 (unhide HB) |> Option.isNone_iff_eq_none.1)
    have HN := hide hN
    clear hN
    refine wq_region (by kernel_rfl) (by kernel_rfl) ?_
    refine wq_move (d := some 13) rfl rfl (by rfl) rfl ?_
    simp only [Act.put, List.setIfInBounds_toArray, List.set_cons_zero, List.set_cons_succ, List.getElem_toArray, List.getElem_cons_zero, List.getElem_cons_succ]
    refine wq_take (d := some 14) rfl (by rfl) (v := ?_) ?_ ?_
    rotate_left
    · (intro w hCw; have hKw := (unhide KK) w hCw; go_simp <;> with_reducible rfl)
    simp only [Act.put, List.setIfInBounds_toArray, List.set_cons_zero, List.set_cons_succ]
    refine wq_move (d := some 15) rfl rfl (by rfl) rfl ?_
    simp only [Act.put, List.setIfInBounds_toArray, List.set_cons_zero, List.set_cons_succ, List.getElem_toArray, List.getElem_cons_zero, List.getElem_cons_succ]
    refine wq_skip (d := some 16) rfl (by rfl) ?_
    simp only [Act.put, List.setIfInBounds_toArray, List.set_cons_zero, List.set_cons_succ]
    refine wq_skip (d := some 17) rfl (by rfl) ?_
    simp only [Act.put, List.setIfInBounds_toArray, List.set_cons_zero, List.set_cons_succ]
    refine wq_skip (d := some 18) rfl (by rfl) ?_
    simp only [Act.put, List.setIfInBounds_toArray, List.set_cons_zero, List.set_cons_succ]
    refine wq_take (d := some 19) rfl (by rfl) (v := ?_) ?_ ?_
    rotate_left
    · (intro w hCw; have hKw := (unhide KK) w hCw; go_simp <;> with_reducible rfl)
    simp only [Act.put, List.setIfInBounds_toArray, List.set_cons_zero, List.set_cons_succ]
    refine wq_move (d := some 20) rfl rfl (by rfl) rfl ?_
    simp only [Act.put, List.setIfInBounds_toArray, List.set_cons_zero, List.set_cons_succ, List.getElem_toArray, List.getElem_cons_zero, List.getElem_cons_succ]
    refine wq_skip (d := some 21) rfl (by rfl) ?_
    simp only [Act.put, List.setIfInBounds_toArray, List.set_cons_zero, List.set_cons_succ]
    refine wq_skip (d := some 22) rfl (by rfl) ?_
    simp only [Act.put, List.setIfInBounds_toArray, List.set_cons_zero, List.set_cons_succ]
    refine wq_skip (d := some 23) rfl (by rfl) ?_
    simp only [Act.put, List.setIfInBounds_toArray, List.set_cons_zero, List.set_cons_succ]
    refine wq_skip (d := some 24) rfl (by rfl) ?_
    simp only [Act.put, List.setIfInBounds_toArray, List.set_cons_zero, List.set_cons_succ]
    refine wq_skip (d := some 25) rfl (by rfl) ?_
    simp only [Act.put, List.setIfInBounds_toArray, List.set_cons_zero, List.set_cons_succ]
    refine wq_take (d := some 26) rfl (by rfl) (v := ?_) ?_ ?_
    rotate_left
    · (intro w hCw; have hKw := (unhide KK) w hCw; go_simp <;> with_reducible rfl)
    simp only [Act.put, List.setIfInBounds_toArray, List.set_cons_zero, List.set_cons_succ]
    refine wq_nil ?_
    intro w9 hw9
    have hR := (hw9.block _ (heapLt (unhide H4).2.2.1)).trans (unhide H4).2.2.1
    have HR := hide hR
    obtain ⟨⟨r0, r1, r2, r3⟩, ⟨q0, q1, q2, q3⟩⟩ := box_cells hR
    have HW := hide hw9
    clear hw9 hR
    go_wp2_with fail
    have HFIN := hide (box_fin (unhide HR) rfl (a' := .int .i64 0) (b' := .int .i64 0) (c' := .slice none 0 0) (d' := .slice none 0 0))
    generalize World.setCell _ _ _ = w7 at *
    obtain ⟨⟨z0, z1, z2, z3⟩, hfar, hb⟩ := unhide HFIN
    exact bodyPost_ret (v := .tuple #[.agg #[.int .i64 0, .int .i64 0, .slice none 0 0, .slice none 0 0], .bool false]) (by simp [results, Tryz.results15, go_sem, z0, z1, z2, z3]) rfl (HasAns.no (unhide HN) (((unhide H4).1.trans ((unhide HW).mono (unhide H4).1.size)).trans (hb.mono (Nat.le_succ _))))
  | true =>
    have hS : Ix.rp s.data.toList = some (nm, vr, fs, ds) := by
      obtain ⟨q, hq⟩ := Option.isSome_iff_exists.1 (unhide HB)
      rw [hq, ← unhide HP, Ix.rpD_some hq]
    have hM : Ix.metaP (nm, vr, fs, ds) = (nm, vr, Sm.sum (Pk.text nm vr fs ds)) := rfl
    have HS := hide (And.intro hS hM)
    clear hS hM
    cases hI : Ix.idxOk num til ms
    · have hN := Ix.has_bad (s := s.data.toList) hI
      have HN := hide hN
      rw [hI] at CI
      clear hN hI
      refine wq_region (by kernel_rfl) (by kernel_rfl) ?_
      refine wq_move (d := some 13) rfl rfl (by rfl) rfl ?_
      simp only [Act.put, List.setIfInBounds_toArray, List.set_cons_zero, List.set_cons_succ, List.getElem_toArray, List.getElem_cons_zero, List.getElem_cons_succ]
      refine wq_take (d := some 14) rfl (by rfl) (v := ?_) ?_ ?_
      rotate_left
      · (intro w hCw; have hKw := (unhide KK) w hCw; go_simp <;> with_reducible rfl)
      simp only [Act.put, List.setIfInBounds_toArray, List.set_cons_zero, List.set_cons_succ]
      refine wq_move (d := some 15) rfl rfl (by rfl) rfl ?_
      simp only [Act.put, List.setIfInBounds_toArray, List.set_cons_zero, List.set_cons_succ, List.getElem_toArray, List.getElem_cons_zero, List.getElem_cons_succ]
      refine wq_take (d := some 16) rfl (by rfl) (v := ?_) ?_ ?_
      rotate_left
      · (intro w hCw; have hKw := (unhide KK) w hCw; go_simp <;> with_reducible rfl)
      simp only [Act.put, List.setIfInBounds_toArray, List.set_cons_zero, List.set_cons_succ]
      refine wq_call (d := some 17) rfl (by rfl) (hc := (unhide CI)) ?_ ?_
      · (intro w hCw; go_simp)
      simp only [Act.put, List.setIfInBounds_toArray, List.set_cons_zero, List.set_cons_succ]
      refine wq_take (d := some 18) rfl (by rfl) (v := ?_) ?_ ?_
      rotate_left
      · (intro w hCw; have hKw := (unhide KK) w hCw; go_simp <;> with_reducible rfl)
      simp only [Act.put, List.setIfInBounds_toArray, List.set_cons_zero, List.set_cons_succ]
      refine wq_take (d := some 19) rfl (by rfl) (v := ?_) ?_ ?_
      rotate_left
      · (intro w hCw; have hKw := (unhide KK) w hCw; go_simp <;> with_reducible rfl)
      simp only [Act.put, List.setIfInBounds_toArray, List.set_cons_zero, List.set_cons_succ]
      refine wq_move (d := some 20) rfl rfl (by rfl) rfl ?_
      simp only [Act.put, List.setIfInBounds_toArray, List.set_cons_zero, List.set_cons_succ, List.getElem_toArray, List.getElem_cons_zero, List.getElem_cons_succ]
      refine wq_skip (d := some 21) rfl (by rfl) ?_
      simp only [Act.put, List.setIfInBounds_toArray, List.set_cons_zero, List.set_cons_succ]
      refine wq_skip (d := some 22) rfl (by rfl) ?_
      simp only [Act.put, List.setIfInBounds_toArray, List.set_cons_zero, List.set_cons_succ]
      refine wq_skip (d := some 23) rfl (by rfl) ?_
      simp only [Act.put, List.setIfInBounds_toArray, List.set_cons_zero, List.set_cons_succ]
      refine wq_skip (d := some 24) rfl (by rfl) ?_
      simp only [Act.put, List.setIfInBounds_toArray, List.set_cons_zero, List.set_cons_succ]
      refine wq_skip (d := some 25) rfl (by rfl) ?_
      simp only [Act.put, List.setIfInBounds_toArray, List.set_cons_zero, List.set_cons_succ]
      refine wq_take (d := some 26) rfl (by rfl) (v := ?_) ?_ ?_
      rotate_left
      · (intro w hCw; have hKw := (unhide KK) w hCw; go_simp <;> with_reducible rfl)
      simp only [Act.put, List.setIfInBounds_toArray, List.set_cons_zero, List.set_cons_succ]
      refine wq_nil ?_
      intro w9 hw9
      have hR := (hw9.block _ (heapLt (unhide H4).2.2.1)).trans (unhide H4).2.2.1
      have HR := hide hR
      obtain ⟨⟨r0, r1, r2, r3⟩, ⟨q0, q1, q2, q3⟩⟩ := box_cells hR
      have HW := hide hw9
      clear hw9 hR
      go_wp2_with fail
      have HFIN := hide (box_fin (unhide HR) rfl (a' := .int .i64 0) (b' := .int .i64 0) (c' := .slice none 0 0) (d' := .slice none 0 0))
      generalize World.setCell _ _ _ = w7 at *
      obtain ⟨⟨z0, z1, z2, z3⟩, hfar, hb⟩ := unhide HFIN
      exact bodyPost_ret (v := .tuple #[.agg #[.int .i64 0, .int .i64 0, .slice none 0 0, .slice none 0 0], .bool false]) (by simp [results, Tryz.results15, go_sem, z0, z1, z2, z3]) rfl (HasAns.no (unhide HN) (((unhide H4).1.trans ((unhide HW).mono (unhide H4).1.size)).trans (hb.mono (Nat.le_succ _))))
    · rw [hI] at CI
      cases hD : decide ((nm, vr, Sm.sum (Pk.text nm vr fs ds)) ∈ ms)
      · have hN : Ix.has num til ms s.data.toList = none := Ix.has_no (unhide HS).1 (by unfold Ix.tellsP; rw [hI, (unhide HS).2, hD]; rfl)
        have HN := hide hN
        rw [hD] at CT
        clear hN hI hD
        refine wq_region (by kernel_rfl) (by kernel_rfl) ?_
        refine wq_move (d := some 13) rfl rfl (by rfl) rfl ?_
        simp only [Act.put, List.setIfInBounds_toArray, List.set_cons_zero, List.set_cons_succ, List.getElem_toArray, List.getElem_cons_zero, List.getElem_cons_succ]
        refine wq_take (d := some 14) rfl (by rfl) (v := ?_) ?_ ?_
        rotate_left
        · (intro w hCw; have hKw := (unhide KK) w hCw; go_simp <;> with_reducible rfl)
        simp only [Act.put, List.setIfInBounds_toArray, List.set_cons_zero, List.set_cons_succ]
        refine wq_move (d := some 15) rfl rfl (by rfl) rfl ?_
        simp only [Act.put, List.setIfInBounds_toArray, List.set_cons_zero, List.set_cons_succ, List.getElem_toArray, List.getElem_cons_zero, List.getElem_cons_succ]
        refine wq_take (d := some 16) rfl (by rfl) (v := ?_) ?_ ?_
        rotate_left
        · (intro w hCw; have hKw := (unhide KK) w hCw; go_simp <;> with_reducible rfl)
        simp only [Act.put, List.setIfInBounds_toArray, List.set_cons_zero, List.set_cons_succ]
        refine wq_call (d := some 17) rfl (by rfl) (hc := (unhide CI)) ?_ ?_
        · (intro w hCw; go_simp)
        simp only [Act.put, List.setIfInBounds_toArray, List.set_cons_zero, List.set_cons_succ]
        refine wq_take (d := some 18) rfl (by rfl) (v := ?_) ?_ ?_
        rotate_left
        · (intro w hCw; have hKw := (unhide KK) w hCw; go_simp <;> with_reducible rfl)
        simp only [Act.put, List.setIfInBounds_toArray, List.set_cons_zero, List.set_cons_succ]
        refine wq_take (d := some 19) rfl (by rfl) (v := ?_) ?_ ?_
        rotate_left
        · (intro w hCw; have hKw := (unhide KK) w hCw; go_simp <;> with_reducible rfl)
        simp only [Act.put, List.setIfInBounds_toArray, List.set_cons_zero, List.set_cons_succ]
        refine wq_move (d := some 20) rfl rfl (by rfl) rfl ?_
        simp only [Act.put, List.setIfInBounds_toArray, List.set_cons_zero, List.set_cons_succ, List.getElem_toArray, List.getElem_cons_zero, List.getElem_cons_succ]
        refine wq_take (d := some 21) rfl (by rfl) (v := ?_) ?_ ?_
        rotate_left
        · (intro w hCw; have hKw := (unhide KK) w hCw; go_simp <;> with_reducible rfl)
        simp only [Act.put, List.setIfInBounds_toArray, List.set_cons_zero, List.set_cons_succ]
        refine wq_take (d := some 22) rfl (by rfl) (v := ?_) ?_ ?_
        rotate_left
        · (intro w hCw; have hKw := (unhide KK) w hCw; go_simp <;> with_reducible rfl)
        simp only [Act.put, List.setIfInBounds_toArray, List.set_cons_zero, List.set_cons_succ]
        refine wq_call (d := some 23) rfl (by rfl) (hc := (unhide CM)) ?_ ?_
        · (intro w hCw; go_simp)
        simp only [Act.put, List.setIfInBounds_toArray, List.set_cons_zero, List.set_cons_succ]
        refine wq_call (d := some 24) rfl (by rfl) (hc := (unhide CT)) ?_ ?_
        · (intro w hCw; go_simp)
        simp only [Act.put, List.setIfInBounds_toArray, List.set_cons_zero, List.set_cons_succ]
        refine wq_take (d := some 25) rfl (by rfl) (v := ?_) ?_ ?_
        rotate_left
        · (intro w hCw; have hKw := (unhide KK) w hCw; go_simp <;> with_reducible rfl)
        simp only [Act.put, List.setIfInBounds_toArray, List.set_cons_zero, List.set_cons_succ]
        refine wq_take (d := some 26) rfl (by rfl) (v := ?_) ?_ ?_
        rotate_left
        · (intro w hCw; have hKw := (unhide KK) w hCw; go_simp <;> with_reducible rfl)
        simp only [Act.put, List.setIfInBounds_toArray, List.set_cons_zero, List.set_cons_succ]
        refine wq_nil ?_
        intro w9 hw9
        have hR := (hw9.block _ (heapLt (unhide H4).2.2.1)).trans (unhide H4).2.2.1
        have HR := hide hR
        obtain ⟨⟨r0, r1, r2, r3⟩, ⟨q0, q1, q2, q3⟩⟩ := box_cells hR
        have HW := hide hw9
        clear hw9 hR
        go_wp2_with fail
        have HFIN := hide (box_fin (unhide HR) rfl (a' := .int .i64 0) (b' := .int .i64 0) (c' := .slice none 0 0) (d' := .slice none 0 0))
        generalize World.setCell _ _ _ = w7 at *
        obtain ⟨⟨z0, z1, z2, z3⟩, hfar, hb⟩ := unhide HFIN
        exact bodyPost_ret (v := .tuple #[.agg #[.int .i64 0, .int .i64 0, .slice none 0 0, .slice none 0 0], .bool false]) (by simp [results, Tryz.results15, go_sem, z0, z1, z2, z3]) rfl (HasAns.no (unhide HN) (((unhide H4).1.trans ((unhide HW).mono (unhide H4).1.size)).trans (hb.mono (Nat.le_succ _))))
      · have hN : Ix.has num til ms s.data.toList = some (nm, vr, fs, ds) := Ix.has_yes (unhide HS).1 (by unfold Ix.tellsP; rw [hI, (unhide HS).2, hD]; rfl)
        have HN := hide hN
        rw [hD] at CT
        clear hN hI hD
        refine wq_region (by kernel_rfl) (by kernel_rfl) ?_
        refine wq_move (d := some 13) rfl rfl (by rfl) rfl ?_
        simp only [Act.put, List.setIfInBounds_toArray, List.set_cons_zero, List.set_cons_succ, List.getElem_toArray, List.getElem_cons_zero, List.getElem_cons_succ]
        refine wq_take (d := some 14) rfl (by rfl) (v := ?_) ?_ ?_
        rotate_left
        · (intro w hCw; have hKw := (unhide KK) w hCw; go_simp <;> with_reducible rfl)
        simp only [Act.put, List.setIfInBounds_toArray, List.set_cons_zero, List.set_cons_succ]
        refine wq_move (d := some 15) rfl rfl (by rfl) rfl ?_
        simp only [Act.put, List.setIfInBounds_toArray, List.set_cons_zero, List.set_cons_succ, List.getElem_toArray, List.getElem_cons_zero, List.getElem_cons_succ]
        refine wq_take (d := some 16) rfl (by rfl) (v := ?_) ?_ ?_
        rotate_left
        · (intro w hCw; have hKw := (unhide KK) w hCw; go_simp <;> with_reducible rfl)
        simp only [Act.put, List.setIfInBounds_toArray, List.set_cons_zero, List.set_cons_succ]
        refine wq_call (d := some 17) rfl (by rfl) (hc := (unhide CI)) ?_ ?_
        · (intro w hCw; go_simp)
        simp only [Act.put, List.setIfInBounds_toArray, List.set_cons_zero, List.set_cons_succ]
        refine wq_take (d := some 18) rfl (by rfl) (v := ?_) ?_ ?_
        rotate_left
        · (intro w hCw; have hKw := (unhide KK) w hCw; go_simp <;> with_reducible rfl)
        simp only [Act.put, List.setIfInBounds_toArray, List.set_cons_zero, List.set_cons_succ]
        refine wq_take (d := some 19) rfl (by rfl) (v := ?_) ?_ ?_
        rotate_left
        · (intro w hCw; have hKw := (unhide KK) w hCw; go_simp <;> with_reducible rfl)
        simp only [Act.put, List.setIfInBounds_toArray, List.set_cons_zero, List.set_cons_succ]
        refine wq_move (d := some 20) rfl rfl (by rfl) rfl ?_
        simp only [Act.put, List.setIfInBounds_toArray, List.set_cons_zero, List.set_cons_succ, List.getElem_toArray, List.getElem_cons_zero, List.getElem_cons_succ]
        refine wq_take (d := some 21) rfl (by rfl) (v := ?_) ?_ ?_
        rotate_left
        · (intro w hCw; have hKw := (unhide KK) w hCw; go_simp <;> with_reducible rfl)
        simp only [Act.put, List.setIfInBounds_toArray, List.set_cons_zero, List.set_cons_succ]
        refine wq_take (d := some 22) rfl (by rfl) (v := ?_) ?_ ?_
        rotate_left
        · (intro w hCw; have hKw := (unhide KK) w hCw; go_simp <;> with_reducible rfl)
        simp only [Act.put, List.setIfInBounds_toArray, List.set_cons_zero, List.set_cons_succ]
        refine wq_call (d := some 23) rfl (by rfl) (hc := (unhide CM)) ?_ ?_
        · (intro w hCw; go_simp)
        simp only [Act.put, List.setIfInBounds_toArray, List.set_cons_zero, List.set_cons_succ]
        refine wq_call (d := some 24) rfl (by rfl) (hc := (unhide CT)) ?_ ?_
        · (intro w hCw; go_simp)
        simp only [Act.put, List.setIfInBounds_toArray, List.set_cons_zero, List.set_cons_succ]
        refine wq_take (d := some 25) rfl (by rfl) (v := ?_) ?_ ?_
        rotate_left
        · (intro w hCw; have hKw := (unhide KK) w hCw; go_simp <;> with_reducible rfl)
        simp only [Act.put, List.setIfInBounds_toArray, List.set_cons_zero, List.set_cons_succ]
        refine wq_take (d := some 26) rfl (by rfl) (v := ?_) ?_ ?_
        rotate_left
        · (intro w hCw; have hKw := (unhide KK) w hCw; go_simp <;> with_reducible rfl)
        simp only [Act.put, List.setIfInBounds_toArray, List.set_cons_zero, List.set_cons_succ]
        refine wq_nil ?_
        intro w9 hw9
        have hR := (hw9.block _ (heapLt (unhide H4).2.2.1)).trans (unhide H4).2.2.1
        have HR := hide hR
        obtain ⟨⟨r0, r1, r2, r3⟩, ⟨q0, q1, q2, q3⟩⟩ := box_cells hR
        obtain ⟨_, c0, c1, c2, c3⟩ := unhide KK _ hw9
        have HO := hide (And.intro (own2_later (unhide O4).1 hw9) (own2_later (unhide O4).2 hw9))
        have HW := hide hw9
        clear hw9 hR
        go_wp2_with fail
        have HFIN := hide (box_fin (unhide HR) rfl (a' := .int .i64 nm) (b' := .int .i64 vr) (c' := .slice fa fs.length fc) (d' := .slice da ds.length dc))
        generalize World.setCell _ _ _ = w7 at *
        obtain ⟨⟨z0, z1, z2, z3⟩, hfar, hb⟩ := unhide HFIN
        have hf7 : w7.ownsRow w.heap.size 132 2 (.slice fa fs.length fc) fs.length (flat fs) := own_keep (unhide HO).1 (fun k _ _ _ hk => hfar k (fun e => by subst e; exact pkg_not_file (unhide HR) hk))
        have hd7 : w7.ownsRow w.heap.size 134 2 (.slice da ds.length dc) ds.length (flat ds) := own_keep (unhide HO).2 (fun k _ _ _ hk => hfar k (fun e => by subst e; exact pkg_not_dep (unhide HR) hk))
        exact bodyPost_ret (v := .tuple #[.agg #[.int .i64 nm, .int .i64 vr, .slice fa fs.length fc, .slice da ds.length dc], .bool true]) (by simp [results, Tryz.results15, go_sem, z0, z1, z2, z3]) rfl (HasAns.yes (unhide HN) hf7 hd7 (((unhide H4).1.trans ((unhide HW).mono (unhide H4).1.size)).trans (hb.mono (Nat.le_succ _))))
end Go.Proofs.YtlnieobmhofkdaaGreatDoor
