/- What spec.TrustIndex returns: trust in rows of one's own, with that index if it may be taken; for every trust, signed index and time. -/
import Derived.Test.YtkgeekjclcpbpaaTrustIndexW
namespace Go.Proofs.Ytkgeekjclcpbpaa
open Go.RowKit

attribute [local go_sem ↓] Go.wp_at_zero Go.wp_at_succ

set_option maxHeartbeats 4000000 in
set_option maxRecDepth 100000 in
theorem specTrustIndex_wide (w : World) (t : Tr.T) (kv mv : Value) (n2 t2 : Int) (v2 vb : Value) (m2 : List Ix.M) (by' : List Int) (now : Int) (hk : Ins w kv t.ks) (hm : Trs w mv t.ms) (h2 : Trs w v2 m2) (hb : Ins w vb by') (hlk : t.ks.length ≤ 1048576) (hlm : t.ms.length ≤ 1048576) :
    Calls Try.prog 11 #[tvT t kv mv, .agg #[.int .i64 n2, .int .i64 t2, v2, vb], .int .i64 now] w fun e w' => Ans w (Tr.index t n2 t2 m2 by' now) e w' := by
  have CC := hide (fun (W : World) hk hm => specCopyTrust_any W t kv mv hk hm)
  have CR := hide (fun (W : World) (k' m' : Value) h0 hk hm h2 hb => l11Index_any W t k' m' n2 t2 v2 vb m2 by' now h0 hk hm h2 hb)
  have hroot : Tr.index t n2 t2 m2 by' now = if (t.ok && Pk.inB now 0 60) = true then (if Tr.takes t.n t.ks t.d t.has t.num n2 t2 m2 by' now = true then ({ t with has := true, num := n2, til := t2, ms := m2 }, true) else (t, false)) else (Tr.T.none, false) := by
    unfold Tr.index
    cases t.ok <;> cases Pk.inB now 0 60 <;> rfl
  have HROOT := hide hroot
  clear hroot
  generalize Tr.index t n2 t2 m2 by' now = rr at *
  obtain ⟨n, ks, d, has, num, til, ms⟩ := t
  dsimp only [tvT, tv] at *
  obtain ⟨ka, kc, e1⟩ := hk.slice
  obtain ⟨ma, mc, e2⟩ := hm.slice
  obtain ⟨a2, c2, e3⟩ := h2.slice
  obtain ⟨ab, cb, e4⟩ := hb.slice
  subst e1 e2 e3 e4
  have H2 := hide (TSI.new (n := n) (d := d) (num := num) (til := til) (has := has) (n2 := n2) (t2 := t2) hk hm h2 hb)
  clear hk hm h2 hb
  have CT := hide (fun (W : World) hk hm => specTrustOk_any W n d (.slice ka ks.length kc) ks has num til (.slice ma ms.length mc) ms hk hm)
  dsimp only [tv] at CT
  go_enter Try.func11, Try.ntmps11
  go_wp2_with fail
  refine (unhide CT _ (unhide H2).k (unhide H2).m).mono ?_
  generalize World.alloc _ _ = W2 at *
  rintro e w3 ⟨rfl, b3⟩
  have H3 := hide ((unhide H2).later b3)
  clear b3 H2
  clear W2
  cases hO : Tr.ok n ks d has num til ms
  · have hT : rr = (Tr.T.none, false) := by rw [unhide HROOT]; unfold Tr.T.ok; rw [hO]; rfl
    have HT := hide hT
    clear hT
    obtain ⟨f0, f1, f2, f3, f4, f5, f6⟩ := frz7 (unhide H3).hR
    obtain ⟨r0, r1, r2, r3, r4, r5, r6⟩ := box7 (unhide H3).hR
    go_wp2_with (go_at_call 46; refine (in_any _ _ _ _).mono ?_; rintro e w' ⟨rfl, rfl⟩)
    obtain ⟨⟨q0, q1, q2, q3, q4, q5, q6⟩, ok5, om5, b5, _⟩ := finT (W := w) (n := 0) (d := 0) (has := false) (num := 0) (til := 0) (kv := .slice none 0 0) (mv := .slice none 0 0) (ks := []) (ms := []) (unhide H3).hR (by omega) (unhide H3).bel (World.ownsRow_nil _ _ _ _) (World.ownsRow_nil _ _ _ _) rfl
    exact bodyPost_ret (v := .tuple #[.agg #[.int .i64 0, .slice none 0 0, .int .i64 0, .bool false, .int .i64 0, .int .i64 0, .slice none 0 0], .bool false]) (by simp [results, Try.results11, go_sem, q0, q1, q2, q3, q4, q5, q6]) rfl ⟨_, _, by rw [unhide HT] <;> rfl, by rw [unhide HT]; exact ok5, by rw [unhide HT]; exact om5, b5⟩
  cases hI : Pk.inB now 0 60
  · have hT : rr = (Tr.T.none, false) := by rw [unhide HROOT, hI, Bool.and_false]; rfl
    have HT := hide hT
    clear hT
    obtain ⟨f0, f1, f2, f3, f4, f5, f6⟩ := frz7 (unhide H3).hR
    obtain ⟨r0, r1, r2, r3, r4, r5, r6⟩ := box7 (unhide H3).hR
    go_wp2_with (go_at_call 46; refine (in_any _ _ _ _).mono ?_; rintro e w' ⟨rfl, rfl⟩)
    obtain ⟨⟨q0, q1, q2, q3, q4, q5, q6⟩, ok5, om5, b5, _⟩ := finT (W := w) (n := 0) (d := 0) (has := false) (num := 0) (til := 0) (kv := .slice none 0 0) (mv := .slice none 0 0) (ks := []) (ms := []) (unhide H3).hR (by omega) (unhide H3).bel (World.ownsRow_nil _ _ _ _) (World.ownsRow_nil _ _ _ _) rfl
    exact bodyPost_ret (v := .tuple #[.agg #[.int .i64 0, .slice none 0 0, .int .i64 0, .bool false, .int .i64 0, .int .i64 0, .slice none 0 0], .bool false]) (by simp [results, Try.results11, go_sem, q0, q1, q2, q3, q4, q5, q6]) rfl ⟨_, _, by rw [unhide HT] <;> rfl, by rw [unhide HT]; exact ok5, by rw [unhide HT]; exact om5, b5⟩
  have hnow := (Pk.inB_true.1 hI).1
  obtain ⟨t0, t1, t2', t3, t4, t5, t6⟩ := box7 (unhide H3).hT
  obtain ⟨s0, s1, s2, s3⟩ := box4c (unhide H3).hS
  go_wp2_with (go_at_call 46; refine (in_any _ _ _ _).mono ?_; rintro e w' ⟨rfl, rfl⟩)
  refine wp_region_held_drew (S := fun w' => (w'.cell? ⟨w.heap.size, 0, none⟩ = some (.int .i64 n) ∧ w'.cell? ⟨w.heap.size, 1, none⟩ = some (.slice ka ks.length kc) ∧ w'.cell? ⟨w.heap.size, 2, none⟩ = some (.int .i64 d) ∧ w'.cell? ⟨w.heap.size, 3, none⟩ = some (.bool has) ∧ w'.cell? ⟨w.heap.size, 4, none⟩ = some (.int .i64 num) ∧ w'.cell? ⟨w.heap.size, 5, none⟩ = some (.int .i64 til) ∧ w'.cell? ⟨w.heap.size, 6, none⟩ = some (.slice ma ms.length mc)) ∧ (w'.cell? ⟨w.heap.size + 1, 0, none⟩ = some (.int .i64 n2) ∧ w'.cell? ⟨w.heap.size + 1, 1, none⟩ = some (.int .i64 t2) ∧ w'.cell? ⟨w.heap.size + 1, 2, none⟩ = some (.slice a2 m2.length c2) ∧ w'.cell? ⟨w.heap.size + 1, 3, none⟩ = some (.slice ab by'.length cb))) (by kernel_rfl) ?_ (fun hHeld => ?_)
  · exact ⟨⟨t0, t1, t2', t3, t4, t5, t6⟩, s0, s1, s2, s3⟩
  clear t0 t1 t2' t3 t4 t5 t6 s0 s1 s2 s3
  refine anyH_at (i := 0) (d := some 17) rfl rfl (by kernel_rfl) (by kernel_rfl) (by kernel_rfl) (fun _ _ _ h => h) (by rfl) (v := ?_) ?_ (by assumption) ?_
  rotate_left
  · (intro w hSw; (try dsimp only at hSw); go_simp <;> with_reducible rfl)
  simp only [Act.put, List.setIfInBounds_toArray, List.set_cons_zero, List.set_cons_succ]
  refine anyH_at (i := 2) (d := some 19) rfl rfl (by kernel_rfl) (by kernel_rfl) (by kernel_rfl) (fun _ _ _ h => h) (by rfl) (v := ?_) ?_ (by assumption) ?_
  rotate_left
  · (intro w hSw; (try dsimp only at hSw); go_simp <;> with_reducible rfl)
  simp only [Act.put, List.setIfInBounds_toArray, List.set_cons_zero, List.set_cons_succ]
  refine anyH_at (i := 3) (d := some 20) rfl rfl (by kernel_rfl) (by kernel_rfl) (by kernel_rfl) (fun _ _ _ h => h) (by rfl) (v := ?_) ?_ (by assumption) ?_
  rotate_left
  · (intro w hSw; (try dsimp only at hSw); go_simp <;> with_reducible rfl)
  simp only [Act.put, List.setIfInBounds_toArray, List.set_cons_zero, List.set_cons_succ]
  refine wpAnyH_ready (rs := [1]) (by kernel_rfl) (by simp) ?_
  refine AllReadyH.cons rfl (fun K hK => ?_) AllReadyH.nil
  go_simp
  have H3d := hide ((unhide H3).later (below_drew _))
  clear H3
  refine (unhide CC _ (by exact (unhide H3d).k) (by exact (unhide H3d).m)).mono ?_
  rintro e w4 ⟨kv4, mv4, rfl, ok4, om4, b4⟩
  try dsimp only at ok4 om4
  obtain ⟨ka4, kc4, e5⟩ := own_formS ok4
  obtain ⟨ma4, mc4, e6⟩ := own_formS om4
  subst e5 e6
  have H4 := hide ((unhide H3d).later b4)
  have O4 := hide (And.intro (own_base' ok4 (unhide H3d).bel.size) (own_base' om4 (unhide H3d).bel.size))
  clear ok4 om4 b4 H3d
  go_wp2_with fail
  refine hK.out _ _ ?_ (fun hHeldN => ?_)
  · exact ⟨box7 (unhide H4).hT, box4c (unhide H4).hS⟩
  clear hHeld
  have hHeld := hHeldN
  clear hHeldN
  clear hK K
  try simp only [Act.put, List.setIfInBounds_toArray, List.set_cons_zero, List.set_cons_succ]
  refine wpAnyH_ready (rs := [4]) (by kernel_rfl) (by simp) ?_
  refine AllReadyH.cons rfl (fun K hK => ?_) AllReadyH.nil
  go_simp
  refine (unhide CR _ _ _ hnow (OwI.wide (unhide O4).1 hlk) (Trs.own (unhide O4).2 (by omega)) (unhide H4).s (unhide H4).b).mono ?_
  rintro e w5 ⟨b5, hcase⟩
  try dsimp only at hcase
  have H5 := hide ((unhide H4).later b5)
  have hok' : (Tr.T.ok ⟨n, ks, d, has, num, til, ms⟩ && Pk.inB now 0 60) = true := by rw [hI, Bool.and_true]; exact hO
  have hres : ∃ (t' : Tr.T) (mv5 : Value) (b : Bool), rr = (t', b) ∧ e = .returned (.tuple #[tvT t' (.slice ka4 ks.length kc4) mv5, .bool b]) ∧ OwI w.heap.size w5 (.slice ka4 ks.length kc4) t'.ks ∧ OwM w.heap.size w5 mv5 t'.ms ∧ t'.ks = ks := by
    rcases hcase with ⟨hN, rfl⟩ | ⟨hN, mv5, rfl, om5⟩
    · exact ⟨⟨n, ks, d, has, num, til, ms⟩, _, false, by rw [unhide HROOT, if_pos hok', if_neg (by rw [hN]; exact Bool.false_ne_true)], rfl, own_later (unhide O4).1 b5, own_later (unhide O4).2 b5, rfl⟩
    · exact ⟨⟨n, ks, d, true, n2, t2, m2⟩, mv5, true, by rw [unhide HROOT, if_pos hok', if_pos hN], rfl, own_later (unhide O4).1 b5, own_base' om5 (unhide H4).bel.size, rfl⟩
  obtain ⟨t', mv5, b, hrr, rfl, ok5, om5, hms⟩ := hres
  obtain ⟨ma5, mc5, e7⟩ := own_formS om5
  subst e7
  have H6 := hide (And.intro ok5 (And.intro om5 hrr))
  clear hcase b5 O4 H4 ok5 om5 hrr hms hok'
  try dsimp only [tvT, tv]
  go_wp2_with fail
  refine hK.out _ _ ?_ (fun hHeldN => ?_)
  · exact ⟨box7 (unhide H5).hT, box4c (unhide H5).hS⟩
  obtain ⟨f0, f1, f2, f3, f4, f5, f6⟩ := frz7 (unhide H5).hR
  obtain ⟨r0, r1, r2, r3, r4, r5, r6⟩ := box7 (unhide H5).hR
  clear hHeld
  have hHeld := hHeldN
  clear hHeldN
  clear hK K
  try simp only [Act.put, List.setIfInBounds_toArray, List.set_cons_zero, List.set_cons_succ]
  refine anyH_at (i := 5) (d := some 22) rfl rfl (by kernel_rfl) (by kernel_rfl) (by kernel_rfl) (fun _ _ _ h => h) (by rfl) (v := ?_) ?_ (by assumption) ?_
  rotate_left
  · (intro w hSw; (try dsimp only at hSw); go_simp <;> with_reducible rfl)
  simp only [Act.put, List.setIfInBounds_toArray, List.set_cons_zero, List.set_cons_succ]
  refine anyH_at (i := 6) (d := some 23) rfl rfl (by kernel_rfl) (by kernel_rfl) (by kernel_rfl) (fun _ _ _ h => h) (by rfl) (v := ?_) ?_ (by assumption) ?_
  rotate_left
  · (intro w hSw; (try dsimp only at hSw); go_simp <;> with_reducible rfl)
  simp only [Act.put, List.setIfInBounds_toArray, List.set_cons_zero, List.set_cons_succ]
  refine wpAnyH_ready (rs := [7]) (by kernel_rfl) (by simp) ?_
  refine AllReadyH.cons rfl (fun K hK => ?_) AllReadyH.nil
  go_simp
  obtain ⟨q, ok7, om7, b7, hfar⟩ := finT (W := w) (n := t'.n) (d := t'.d) (has := t'.has) (num := t'.num) (til := t'.til) (unhide H5).hR (by omega) (unhide H5).bel (unhide H6).1 (unhide H6).2.1 rfl
  generalize World.setCell _ _ _ = w7 at *
  clear f0 f1 f2 f3 f4 f5 f6 r0 r1 r2 r3 r4 r5 r6
  refine hK.out _ _ ?_ (fun hHeldN => ?_)
  · exact ⟨box7 ((hfar _ (by omega)).trans (unhide H5).hT), box4c ((hfar _ (by omega)).trans (unhide H5).hS)⟩
  clear hHeld
  have hHeld := hHeldN
  clear hHeldN
  clear hK K
  try simp only [Act.put, List.setIfInBounds_toArray, List.set_cons_zero, List.set_cons_succ]
  refine anyH_at (i := 8) (d := some 7) rfl rfl (by kernel_rfl) (by kernel_rfl) (by kernel_rfl) (fun _ _ _ h => h) (by rfl) (v := ?_) ?_ (by assumption) ?_
  rotate_left
  · (intro w hSw; (try dsimp only at hSw); go_simp <;> with_reducible rfl)
  simp only [Act.put, List.setIfInBounds_toArray, List.set_cons_zero, List.set_cons_succ]
  refine wpAnyH_done (by kernel_rfl) ?_ _
  obtain ⟨q0, q1, q2, q3, q4, q5, q6⟩ := q
  go_wp2
  exact bodyPost_ret (v := .tuple #[.agg #[.int .i64 t'.n, .slice ka4 ks.length kc4, .int .i64 t'.d, .bool t'.has, .int .i64 t'.num, .int .i64 t'.til, .slice ma5 t'.ms.length mc5], .bool b]) (by simp [results, Try.results11, go_sem, q0, q1, q2, q3, q4, q5, q6]) rfl ⟨_, _, by rw [(unhide H6).2.2], by rw [(unhide H6).2.2]; exact ok7, by rw [(unhide H6).2.2]; exact om7, b7⟩
theorem specTrustIndex_any (w : World) (t : Tr.T) (kv mv : Value) (n2 t2 : Int) (v2 vb : Value) (m2 : List Ix.M) (by' : List Int) (now : Int) (hk : Ins w kv t.ks) (hm : Trs w mv t.ms) (h2 : Trs w v2 m2) (hb : Ins w vb by') (hlk : t.ks.length ≤ 1000000) (hlm : t.ms.length ≤ 1000000) :
    Calls Try.prog 11 #[tvT t kv mv, .agg #[.int .i64 n2, .int .i64 t2, v2, vb], .int .i64 now] w fun e w' => Ans w (Tr.index t n2 t2 m2 by' now) e w' :=
  specTrustIndex_wide w t kv mv n2 t2 v2 vb m2 by' now hk hm h2 hb (by omega) (by omega)

end Go.Proofs.Ytkgeekjclcpbpaa
