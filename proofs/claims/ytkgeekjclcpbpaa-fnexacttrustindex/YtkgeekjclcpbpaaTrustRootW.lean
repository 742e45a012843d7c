/- What spec's and impl's TrustRoot return: trust in rows of one's own, with that root if it may come next; for every trust and signed root. -/
import Derived.Test.YtkgeekjclcpbpaaTrustNewW
import Derived.Test.YtkgeekjclcpbpaaNextW
import Derived.Test.YtkgeekjclcpbpaaKeyDrawW
namespace Go.Proofs.Ytkgeekjclcpbpaa
open Go.RowKit

attribute [local go_sem ↓] Go.wp_at_zero Go.wp_at_succ

theorem box4c {w : World} {X : Nat} {a b c d : Value} {t : TypeId} (h : w.heap[X]? = some (.cells #[a, b, c, d] t (0, 0))) : w.cell? ⟨X, 0, none⟩ = some a ∧ w.cell? ⟨X, 1, none⟩ = some b ∧ w.cell? ⟨X, 2, none⟩ = some c ∧ w.cell? ⟨X, 3, none⟩ = some d := ⟨cellOf h 0, cellOf h 1, cellOf h 2, cellOf h 3⟩
/-- The first three of a box of seven are written. -/
theorem fin3of7 {w w' : World} {X : Nat} {a b c a0 b0 c0 d e f g : Value} {t : TypeId} (h : w.heap[X]? = some (.cells #[a0, b0, c0, d, e, f, g] t (0, 0))) (hw : w' = ((w.setCell ⟨X, 0, none⟩ a).setCell ⟨X, 1, none⟩ b).setCell ⟨X, 2, none⟩ c) :
    w'.heap[X]? = some (.cells #[a, b, c, d, e, f, g] t (0, 0)) ∧ (∀ k, k ≠ X → w'.heap[k]? = w.heap[k]?) ∧ w'.heap.size = w.heap.size ∧ w'.os = w.os ∧ w'.tape = w.tape ∧ w'.output = w.output := by
  refine ⟨by rw [hw, heapSet (heapSet (heapSet h))]; rfl, fun k hk => ?_, by rw [hw]; simp [World.setCell], by rw [hw]; simp [World.setCell], by rw [hw]; simp [World.setCell], by rw [hw]; simp [World.setCell]⟩
  rw [hw, Below.heap_setCell _ _ _ _ hk, Below.heap_setCell _ _ _ _ hk, Below.heap_setCell _ _ _ _ hk]
/-- The boxes of a trust and a signed root, and what is read through them. -/
structure TSR (w W : World) (n d num til : Int) (has : Bool) (kv mv : Value) (ks : List Int) (ms : List Ix.M) (n2 d2 : Int) (v2 vb : Value) (k2 by' : List Int) : Prop where
  bel : Below w.heap.size w W
  hT : W.heap[w.heap.size]? = some (.cells #[.int .i64 n, kv, .int .i64 d, .bool has, .int .i64 num, .int .i64 til, mv] 30 (0, 0))
  hS : W.heap[w.heap.size + 1]? = some (.cells #[.int .i64 n2, v2, .int .i64 d2, vb] 46 (0, 0))
  hR : W.heap[w.heap.size + 1 + 1]? = some (.cells #[.int .i64 0, .slice none 0 0, .int .i64 0, .bool false, .int .i64 0, .int .i64 0, .slice none 0 0] 30 (0, 0))
  k : Ins W kv ks
  m : Trs W mv ms
  s : Ins W v2 k2
  b : Ins W vb by'
theorem TSR.later {w W W' : World} {n d num til : Int} {has : Bool} {kv mv : Value} {ks : List Int} {ms : List Ix.M} {n2 d2 : Int} {v2 vb : Value} {k2 by' : List Int} (h : TSR w W n d num til has kv mv ks ms n2 d2 v2 vb k2 by') (hb : Below W.heap.size W W') : TSR w W' n d num til has kv mv ks ms n2 d2 v2 vb k2 by' :=
  ⟨h.bel.trans (hb.mono h.bel.size), (hb.block _ (heapLt h.hT)).trans h.hT, (hb.block _ (heapLt h.hS)).trans h.hS, (hb.block _ (heapLt h.hR)).trans h.hR, h.k.later hb, h.m.later hb, h.s.later hb, h.b.later hb⟩
theorem TSR.new {w : World} {n d num til : Int} {has : Bool} {kv mv : Value} {ks : List Int} {ms : List Ix.M} {n2 d2 : Int} {v2 vb : Value} {k2 by' : List Int} (hk : Ins w kv ks) (hm : Trs w mv ms) (h2 : Ins w v2 k2) (hb : Ins w vb by') :
    TSR w (((w.alloc (.cells #[.int .i64 n, kv, .int .i64 d, .bool has, .int .i64 num, .int .i64 til, mv] 30)).alloc (.cells #[.int .i64 n2, v2, .int .i64 d2, vb] 46)).alloc (.cells #[.int .i64 0, .slice none 0 0, .int .i64 0, .bool false, .int .i64 0, .int .i64 0, .slice none 0 0] 30)) n d num til has kv mv ks ms n2 d2 v2 vb k2 by' := by
  obtain ⟨B, e1, e2, e3⟩ := three_boxesT w (.cells #[.int .i64 n, kv, .int .i64 d, .bool has, .int .i64 num, .int .i64 til, mv] 30) (.cells #[.int .i64 n2, v2, .int .i64 d2, vb] 46) (.cells #[.int .i64 0, .slice none 0 0, .int .i64 0, .bool false, .int .i64 0, .int .i64 0, .slice none 0 0] 30)
  exact ⟨B, e1, e2, e3, hk.later B, hm.later B, h2.later B, hb.later B⟩

set_option maxHeartbeats 2000000 in
set_option maxRecDepth 100000 in
theorem l11Root_any (w : World) (t : Tr.T) (kv mv : Value) (n2 d2 : Int) (v2 vb : Value) (k2 by' : List Int) (hk : Ins w kv t.ks) (hm : Trs w mv t.ms) (h2 : Ins w v2 k2) (hb : Ins w vb by') :
    Calls Try.prog 79 #[tvT t kv mv, .agg #[.int .i64 n2, v2, .int .i64 d2, vb]] w fun e w' => Below w.heap.size w w' ∧ ((Ky.next t.n t.ks t.d n2 k2 d2 by' = false ∧ e = .returned (.tuple #[tvT t kv mv, .bool false])) ∨ (Ky.next t.n t.ks t.d n2 k2 d2 by' = true ∧ ∃ kv', e = .returned (.tuple #[tvT { t with n := n2, ks := k2, d := d2 } kv' mv, .bool true]) ∧ OwI w.heap.size w' kv' k2)) := by
  obtain ⟨n, ks, d, has, num, til, ms⟩ := t
  dsimp only [tvT, tv] at *
  obtain ⟨ka, kc, e1⟩ := hk.slice
  obtain ⟨ma, mc, e2⟩ := hm.slice
  obtain ⟨a2, c2, e3⟩ := h2.slice
  obtain ⟨ab, cb, e4⟩ := hb.slice
  subst e1 e2 e3 e4
  have H2 := hide (TSR.new (n := n) (d := d) (num := num) (til := til) (has := has) (n2 := n2) (d2 := d2) hk hm h2 hb)
  clear hk hm h2 hb
  go_enter Try.func79, Try.ntmps79
  go_wp2_with fail
  refine (specRootNext_any _ n d n2 d2 _ _ _ ks k2 by' (unhide H2).k (unhide H2).s (unhide H2).b).mono ?_
  generalize World.alloc _ _ = W2 at *
  rintro e w3 ⟨rfl, b3⟩
  have H3 := hide ((unhide H2).later b3)
  clear b3 H2
  clear W2
  obtain ⟨t0, t1, t2, t3, t4, t5, t6⟩ := box7 (unhide H3).hT
  obtain ⟨s0, s1, s2, s3⟩ := box4c (unhide H3).hS
  cases hN : Ky.next n ks d n2 k2 d2 by'
  · obtain ⟨f0, f1, f2, f3, f4, f5, f6⟩ := frz7 (unhide H3).hR
    obtain ⟨r0, r1, r2, r3, r4, r5, r6⟩ := box7 (unhide H3).hR
    go_wp2
    obtain ⟨hR, hfar, hsz, ho, ht, hp⟩ := fin7 (a := .int .i64 n) (b := .slice ka ks.length kc) (c := .int .i64 d) (d := .bool has) (e := .int .i64 num) (f := .int .i64 til) (g := .slice ma ms.length mc) (unhide H3).hR rfl
    obtain ⟨q0, q1, q2, q3, q4, q5, q6⟩ := box7 hR
    exact bodyPost_ret (v := .tuple #[.agg #[.int .i64 n, .slice ka ks.length kc, .int .i64 d, .bool has, .int .i64 num, .int .i64 til, .slice ma ms.length mc], .bool false]) (by simp [results, Try.results79, go_sem, q0, q1, q2, q3, q4, q5, q6]) rfl ⟨below_far (unhide H3).bel (by omega) hfar hsz ho ht hp, .inl ⟨hN, rfl⟩⟩
  · go_wp2_with fail
    refine (specCopyRoot_any _ n2 d2 _ k2 (unhide H3).s).mono ?_
    rintro e w4 ⟨kv', rfl, ok4, b4⟩
    obtain ⟨ka', kc', e5⟩ := own_formS ok4
    subst e5
    have H4 := hide ((unhide H3).later b4)
    have O4 := hide (own_base' ok4 (unhide H3).bel.size)
    clear ok4 b4 H3 t0 t1 t2 t3 t4 t5 t6 s0 s1 s2 s3
    obtain ⟨t0, t1, t2, t3, t4, t5, t6⟩ := box7 (unhide H4).hT
    obtain ⟨g0, g1, g2, _, _, _, _⟩ := frz7 (unhide H4).hT
    obtain ⟨f0, f1, f2, f3, f4, f5, f6⟩ := frz7 (unhide H4).hR
    obtain ⟨r0, r1, r2, r3, r4, r5, r6⟩ := box7 (unhide H4).hR
    have hne : w.heap.size ≠ w.heap.size + 1 + 1 := by omega
    have hne' : w.heap.size + 1 + 1 ≠ w.heap.size := by omega
    obtain ⟨hT5, hfar5, hsz5, ho5, ht5, hp5⟩ := fin3of7 (a := .int .i64 n2) (b := .slice ka' k2.length kc') (c := .int .i64 d2) (unhide H4).hT rfl
    have hR5 := (hfar5 (w.heap.size + 1 + 1) (by omega)).trans (unhide H4).hR
    have hb5 := below_far (unhide H4).bel (Nat.le_refl _) hfar5 hsz5 ho5 ht5 hp5
    have hO5 : OwI w.heap.size (((w4.setCell ⟨w.heap.size, 0, none⟩ (.int .i64 n2)).setCell ⟨w.heap.size, 1, none⟩ (.slice ka' k2.length kc')).setCell ⟨w.heap.size, 2, none⟩ (.int .i64 d2)) (.slice ka' k2.length kc') k2 := own_keepS (unhide O4) (fun g _ e _ _ => hfar5 g (fun e2 => own_ne (unhide O4) (unhide H4).hT (by decide) (by rw [e, e2])))
    have H5 := hide (And.intro hT5 (And.intro hR5 (And.intro hb5 hO5)))
    clear hT5 hfar5 hsz5 ho5 ht5 hp5 hR5 hb5 hO5
    go_wp2
    obtain ⟨hR, hfar, hsz, ho, ht, hp⟩ := fin7 (a := .int .i64 n2) (b := .slice ka' k2.length kc') (c := .int .i64 d2) (d := .bool has) (e := .int .i64 num) (f := .int .i64 til) (g := .slice ma ms.length mc) (unhide H5).2.1 rfl
    obtain ⟨q0, q1, q2, q3, q4, q5, q6⟩ := box7 hR
    exact bodyPost_ret (v := .tuple #[.agg #[.int .i64 n2, .slice ka' k2.length kc', .int .i64 d2, .bool has, .int .i64 num, .int .i64 til, .slice ma ms.length mc], .bool true]) (by simp [results, Try.results79, go_sem, q0, q1, q2, q3, q4, q5, q6]) rfl ⟨below_far (unhide H5).2.2.1 (by omega) hfar hsz ho ht hp, .inr ⟨hN, _, rfl, own_keepS (unhide H5).2.2.2 (fun g _ e _ _ => hfar g (fun e2 => own_ne (unhide H5).2.2.2 (unhide H5).2.1 (by decide) (by rw [e, e2])))⟩⟩

set_option maxHeartbeats 4000000 in
set_option maxRecDepth 100000 in
theorem specTrustRoot_wide (w : World) (t : Tr.T) (kv mv : Value) (n2 d2 : Int) (v2 vb : Value) (k2 by' : List Int) (hk : Ins w kv t.ks) (hm : Trs w mv t.ms) (h2 : Ins w v2 k2) (hb : Ins w vb by') (hlk : t.ks.length ≤ 1048576) (hlm : t.ms.length ≤ 1048576) :
    Calls Try.prog 31 #[tvT t kv mv, .agg #[.int .i64 n2, v2, .int .i64 d2, vb]] w fun e w' => Ans w (Tr.root t n2 k2 d2 by') e w' := by
  have CC := hide (fun (W : World) hk hm => specCopyTrust_any W t kv mv hk hm)
  have CR := hide (fun (W : World) (k' m' : Value) hk hm h2 hb => l11Root_any W t k' m' n2 d2 v2 vb k2 by' hk hm h2 hb)
  have hroot : Tr.root t n2 k2 d2 by' = if t.ok = true then (if Ky.next t.n t.ks t.d n2 k2 d2 by' = true then ({ t with n := n2, ks := k2, d := d2 }, true) else (t, false)) else (Tr.T.none, false) := rfl
  have HROOT := hide hroot
  clear hroot
  generalize Tr.root t n2 k2 d2 by' = rr at *
  obtain ⟨n, ks, d, has, num, til, ms⟩ := t
  dsimp only [tvT, tv] at *
  obtain ⟨ka, kc, e1⟩ := hk.slice
  obtain ⟨ma, mc, e2⟩ := hm.slice
  obtain ⟨a2, c2, e3⟩ := h2.slice
  obtain ⟨ab, cb, e4⟩ := hb.slice
  subst e1 e2 e3 e4
  have H2 := hide (TSR.new (n := n) (d := d) (num := num) (til := til) (has := has) (n2 := n2) (d2 := d2) hk hm h2 hb)
  clear hk hm h2 hb
  have CT := hide (fun (W : World) hk hm => specTrustOk_any W n d (.slice ka ks.length kc) ks has num til (.slice ma ms.length mc) ms hk hm)
  dsimp only [tv] at CT
  go_enter Try.func31, Try.ntmps31
  go_wp2_with fail
  refine (unhide CT _ (unhide H2).k (unhide H2).m).mono ?_
  generalize World.alloc _ _ = W2 at *
  rintro e w3 ⟨rfl, b3⟩
  have H3 := hide ((unhide H2).later b3)
  clear b3 H2
  clear W2
  cases hO : Tr.ok n ks d has num til ms
  · have hT : rr = (Tr.T.none, false) := by rw [unhide HROOT]; unfold Tr.T.ok; rw [hO]; rfl
    have HT := hide hT
    clear hT
    obtain ⟨f0, f1, f2, f3, f4, f5, f6⟩ := frz7 (unhide H3).hR
    obtain ⟨r0, r1, r2, r3, r4, r5, r6⟩ := box7 (unhide H3).hR
    go_wp2
    obtain ⟨⟨q0, q1, q2, q3, q4, q5, q6⟩, ok5, om5, b5, _⟩ := finT (W := w) (n := 0) (d := 0) (has := false) (num := 0) (til := 0) (kv := .slice none 0 0) (mv := .slice none 0 0) (ks := []) (ms := []) (unhide H3).hR (by omega) (unhide H3).bel (World.ownsRow_nil _ _ _ _) (World.ownsRow_nil _ _ _ _) rfl
    exact bodyPost_ret (v := .tuple #[.agg #[.int .i64 0, .slice none 0 0, .int .i64 0, .bool false, .int .i64 0, .int .i64 0, .slice none 0 0], .bool false]) (by simp [results, Try.results31, go_sem, q0, q1, q2, q3, q4, q5, q6]) rfl ⟨_, _, by rw [unhide HT] <;> rfl, by rw [unhide HT]; exact ok5, by rw [unhide HT]; exact om5, b5⟩
  obtain ⟨t0, t1, t2, t3, t4, t5, t6⟩ := box7 (unhide H3).hT
  obtain ⟨s0, s1, s2, s3⟩ := box4c (unhide H3).hS
  go_wp2_with fail
  refine wp_region_held_drew (S := fun w' => (w'.cell? ⟨w.heap.size, 0, none⟩ = some (.int .i64 n) ∧ w'.cell? ⟨w.heap.size, 1, none⟩ = some (.slice ka ks.length kc) ∧ w'.cell? ⟨w.heap.size, 2, none⟩ = some (.int .i64 d) ∧ w'.cell? ⟨w.heap.size, 3, none⟩ = some (.bool has) ∧ w'.cell? ⟨w.heap.size, 4, none⟩ = some (.int .i64 num) ∧ w'.cell? ⟨w.heap.size, 5, none⟩ = some (.int .i64 til) ∧ w'.cell? ⟨w.heap.size, 6, none⟩ = some (.slice ma ms.length mc)) ∧ (w'.cell? ⟨w.heap.size + 1, 0, none⟩ = some (.int .i64 n2) ∧ w'.cell? ⟨w.heap.size + 1, 1, none⟩ = some (.slice a2 k2.length c2) ∧ w'.cell? ⟨w.heap.size + 1, 2, none⟩ = some (.int .i64 d2) ∧ w'.cell? ⟨w.heap.size + 1, 3, none⟩ = some (.slice ab by'.length cb))) (by kernel_rfl) ?_ (fun hHeld => ?_)
  · exact ⟨⟨t0, t1, t2, t3, t4, t5, t6⟩, s0, s1, s2, s3⟩
  clear t0 t1 t2 t3 t4 t5 t6 s0 s1 s2 s3
  refine anyH_at (i := 0) (d := some 10) rfl rfl (by kernel_rfl) (by kernel_rfl) (by kernel_rfl) (fun _ _ _ h => h) (by rfl) (v := ?_) ?_ (by assumption) ?_
  rotate_left
  · (intro w hSw; (try dsimp only at hSw); go_simp <;> with_reducible rfl)
  simp only [Act.put, List.setIfInBounds_toArray, List.set_cons_zero, List.set_cons_succ]
  refine anyH_at (i := 2) (d := some 12) rfl rfl (by kernel_rfl) (by kernel_rfl) (by kernel_rfl) (fun _ _ _ h => h) (by rfl) (v := ?_) ?_ (by assumption) ?_
  rotate_left
  · (intro w hSw; (try dsimp only at hSw); go_simp <;> with_reducible rfl)
  simp only [Act.put, List.setIfInBounds_toArray, List.set_cons_zero, List.set_cons_succ]
  refine wpAnyH_ready (rs := [1]) (by kernel_rfl) (by simp) ?_
  refine AllReadyH.cons rfl (fun K hK => ?_) AllReadyH.nil
  go_simp
  have H3d := hide ((unhide H3).later (below_drew w3))
  clear H3
  refine (unhide CC _ (by exact (unhide H3d).k) (by exact (unhide H3d).m)).mono ?_
  rintro e w4 ⟨kv4, mv4, rfl, ok4, om4, b4⟩
  try dsimp only at ok4 om4
  obtain ⟨ka4, kc4, e5⟩ := own_formS ok4
  obtain ⟨ma4, mc4, e6⟩ := own_formS om4
  subst e5 e6
  have H4 := hide ((unhide H3d).later b4)
  have O4 := hide (And.intro (own_base' ok4 (unhide H3d).bel.size) (own_base' om4 (unhide H3d).bel.size))
  clear ok4 om4 b4 H3d
  go_wp2_with fail
  refine hK.out _ _ ?_ (fun hHeldN => ?_)
  · exact ⟨box7 (unhide H4).hT, box4c (unhide H4).hS⟩
  clear hHeld
  have hHeld := hHeldN
  clear hHeldN
  clear hK K
  try simp only [Act.put, List.setIfInBounds_toArray, List.set_cons_zero, List.set_cons_succ]
  refine wpAnyH_ready (rs := [3]) (by kernel_rfl) (by simp) ?_
  refine AllReadyH.cons rfl (fun K hK => ?_) AllReadyH.nil
  go_simp
  refine (unhide CR _ _ _ (OwI.wide (unhide O4).1 hlk) (Trs.own (unhide O4).2 (by omega)) (unhide H4).s (unhide H4).b).mono ?_
  rintro e w5 ⟨b5, hcase⟩
  try dsimp only at hcase
  have H5 := hide ((unhide H4).later b5)
  have hok' : Tr.T.ok ⟨n, ks, d, has, num, til, ms⟩ = true := hO
  have hres : ∃ (t' : Tr.T) (kv5 : Value) (b : Bool), rr = (t', b) ∧ e = .returned (.tuple #[tvT t' kv5 (.slice ma4 ms.length mc4), .bool b]) ∧ OwI w.heap.size w5 kv5 t'.ks ∧ OwM w.heap.size w5 (.slice ma4 ms.length mc4) t'.ms ∧ t'.ms = ms := by
    rcases hcase with ⟨hN, rfl⟩ | ⟨hN, kv5, rfl, ok5⟩
    · exact ⟨⟨n, ks, d, has, num, til, ms⟩, _, false, by rw [unhide HROOT, if_pos hok', if_neg (by rw [hN]; exact Bool.false_ne_true)], rfl, own_later (unhide O4).1 b5, own_later (unhide O4).2 b5, rfl⟩
    · exact ⟨⟨n2, k2, d2, has, num, til, ms⟩, kv5, true, by rw [unhide HROOT, if_pos hok', if_pos hN], rfl, own_base' ok5 (unhide H4).bel.size, own_later (unhide O4).2 b5, rfl⟩
  obtain ⟨t', kv5, b, hrr, rfl, ok5, om5, hms⟩ := hres
  obtain ⟨ka5, kc5, e7⟩ := own_formS ok5
  subst e7
  have H6 := hide (And.intro ok5 (And.intro om5 hrr))
  clear hcase b5 O4 H4 ok5 om5 hrr hms hok'
  try dsimp only [tvT, tv]
  go_wp2_with fail
  refine hK.out _ _ ?_ (fun hHeldN => ?_)
  · exact ⟨box7 (unhide H5).hT, box4c (unhide H5).hS⟩
  obtain ⟨f0, f1, f2, f3, f4, f5, f6⟩ := frz7 (unhide H5).hR
  obtain ⟨r0, r1, r2, r3, r4, r5, r6⟩ := box7 (unhide H5).hR
  clear hHeld
  have hHeld := hHeldN
  clear hHeldN
  clear hK K
  try simp only [Act.put, List.setIfInBounds_toArray, List.set_cons_zero, List.set_cons_succ]
  refine anyH_at (i := 4) (d := some 14) rfl rfl (by kernel_rfl) (by kernel_rfl) (by kernel_rfl) (fun _ _ _ h => h) (by rfl) (v := ?_) ?_ (by assumption) ?_
  rotate_left
  · (intro w hSw; (try dsimp only at hSw); go_simp <;> with_reducible rfl)
  simp only [Act.put, List.setIfInBounds_toArray, List.set_cons_zero, List.set_cons_succ]
  refine anyH_at (i := 5) (d := some 15) rfl rfl (by kernel_rfl) (by kernel_rfl) (by kernel_rfl) (fun _ _ _ h => h) (by rfl) (v := ?_) ?_ (by assumption) ?_
  rotate_left
  · (intro w hSw; (try dsimp only at hSw); go_simp <;> with_reducible rfl)
  simp only [Act.put, List.setIfInBounds_toArray, List.set_cons_zero, List.set_cons_succ]
  refine wpAnyH_ready (rs := [6]) (by kernel_rfl) (by simp) ?_
  refine AllReadyH.cons rfl (fun K hK => ?_) AllReadyH.nil
  go_simp
  obtain ⟨q, ok7, om7, b7, hfar⟩ := finT (W := w) (n := t'.n) (d := t'.d) (has := t'.has) (num := t'.num) (til := t'.til) (unhide H5).hR (by omega) (unhide H5).bel (unhide H6).1 (unhide H6).2.1 rfl
  generalize World.setCell _ _ _ = w7 at *
  clear f0 f1 f2 f3 f4 f5 f6 r0 r1 r2 r3 r4 r5 r6
  refine hK.out _ _ ?_ (fun hHeldN => ?_)
  · exact ⟨box7 ((hfar _ (by omega)).trans (unhide H5).hT), box4c ((hfar _ (by omega)).trans (unhide H5).hS)⟩
  clear hHeld
  have hHeld := hHeldN
  clear hHeldN
  clear hK K
  try simp only [Act.put, List.setIfInBounds_toArray, List.set_cons_zero, List.set_cons_succ]
  refine anyH_at (i := 7) (d := some 5) rfl rfl (by kernel_rfl) (by kernel_rfl) (by kernel_rfl) (fun _ _ _ h => h) (by rfl) (v := ?_) ?_ (by assumption) ?_
  rotate_left
  · (intro w hSw; (try dsimp only at hSw); go_simp <;> with_reducible rfl)
  simp only [Act.put, List.setIfInBounds_toArray, List.set_cons_zero, List.set_cons_succ]
  refine wpAnyH_done (by kernel_rfl) ?_ _
  obtain ⟨q0, q1, q2, q3, q4, q5, q6⟩ := q
  go_wp2
  exact bodyPost_ret (v := .tuple #[.agg #[.int .i64 t'.n, .slice ka5 t'.ks.length kc5, .int .i64 t'.d, .bool t'.has, .int .i64 t'.num, .int .i64 t'.til, .slice ma4 ms.length mc4], .bool b]) (by simp [results, Try.results31, go_sem, q0, q1, q2, q3, q4, q5, q6]) rfl ⟨_, _, by rw [(unhide H6).2.2], by rw [(unhide H6).2.2]; exact ok7, by rw [(unhide H6).2.2]; exact om7, b7⟩
theorem specTrustRoot_any (w : World) (t : Tr.T) (kv mv : Value) (n2 d2 : Int) (v2 vb : Value) (k2 by' : List Int) (hk : Ins w kv t.ks) (hm : Trs w mv t.ms) (h2 : Ins w v2 k2) (hb : Ins w vb by') (hlk : t.ks.length ≤ 1000000) (hlm : t.ms.length ≤ 1000000) :
    Calls Try.prog 31 #[tvT t kv mv, .agg #[.int .i64 n2, v2, .int .i64 d2, vb]] w fun e w' => Ans w (Tr.root t n2 k2 d2 by') e w' :=
  specTrustRoot_wide w t kv mv n2 d2 v2 vb k2 by' hk hm h2 hb (by omega) (by omega)

set_option maxHeartbeats 4000000 in
set_option maxRecDepth 100000 in
theorem implTrustRoot_any (w : World) (t : Tr.T) (kv mv : Value) (n2 d2 : Int) (v2 vb : Value) (k2 by' : List Int) (hk : Ins w kv t.ks) (hm : Trs w mv t.ms) (h2 : Ins w v2 k2) (hb : Ins w vb by') :
    Calls Try.prog 19 #[tvT t kv mv, .agg #[.int .i64 n2, v2, .int .i64 d2, vb]] w fun e w' => Ans w (Tr.root t n2 k2 d2 by') e w' := by
  have CC := hide (fun (W : World) hk hm => implCopyTrust_any W t kv mv hk hm)
  have hroot : Tr.root t n2 k2 d2 by' = if t.ok = true then (if Ky.next t.n t.ks t.d n2 k2 d2 by' = true then ({ t with n := n2, ks := k2, d := d2 }, true) else (t, false)) else (Tr.T.none, false) := rfl
  have HROOT := hide hroot
  clear hroot
  generalize Tr.root t n2 k2 d2 by' = rr at *
  obtain ⟨n, ks, d, has, num, til, ms⟩ := t
  dsimp only [tvT, tv] at *
  obtain ⟨ka, kc, e1⟩ := hk.slice
  obtain ⟨ma, mc, e2⟩ := hm.slice
  obtain ⟨a2, c2, e3⟩ := h2.slice
  obtain ⟨ab, cb, e4⟩ := hb.slice
  subst e1 e2 e3 e4
  have H2 := hide (TSR.new (n := n) (d := d) (num := num) (til := til) (has := has) (n2 := n2) (d2 := d2) hk hm h2 hb)
  clear hk hm h2 hb
  have CT := hide (fun (W : World) hk hm => implTrustOk_any W n d (.slice ka ks.length kc) ks has num til (.slice ma ms.length mc) ms hk hm)
  dsimp only [tv] at CT
  go_enter Try.func19, Try.ntmps19
  go_wp2_with fail
  refine (unhide CT _ (unhide H2).k (unhide H2).m).mono ?_
  generalize World.alloc _ _ = W2 at *
  rintro e w3 ⟨rfl, b3⟩
  have H3 := hide ((unhide H2).later b3)
  clear b3 H2
  clear W2
  cases hO : Tr.ok n ks d has num til ms
  · have hT : rr = (Tr.T.none, false) := by rw [unhide HROOT]; unfold Tr.T.ok; rw [hO]; rfl
    have HT := hide hT
    clear hT
    obtain ⟨f0, f1, f2, f3, f4, f5, f6⟩ := frz7 (unhide H3).hR
    obtain ⟨r0, r1, r2, r3, r4, r5, r6⟩ := box7 (unhide H3).hR
    go_wp2
    obtain ⟨⟨q0, q1, q2, q3, q4, q5, q6⟩, ok5, om5, b5, _⟩ := finT (W := w) (n := 0) (d := 0) (has := false) (num := 0) (til := 0) (kv := .slice none 0 0) (mv := .slice none 0 0) (ks := []) (ms := []) (unhide H3).hR (by omega) (unhide H3).bel (World.ownsRow_nil _ _ _ _) (World.ownsRow_nil _ _ _ _) rfl
    exact bodyPost_ret (v := .tuple #[.agg #[.int .i64 0, .slice none 0 0, .int .i64 0, .bool false, .int .i64 0, .int .i64 0, .slice none 0 0], .bool false]) (by simp [results, Try.results19, go_sem, q0, q1, q2, q3, q4, q5, q6]) rfl ⟨_, _, by rw [unhide HT] <;> rfl, by rw [unhide HT]; exact ok5, by rw [unhide HT]; exact om5, b5⟩
  have hok' : Tr.T.ok ⟨n, ks, d, has, num, til, ms⟩ = true := hO
  have HOK := hide hok'
  clear hok'
  obtain ⟨t0, t1, t2, t3, t4, t5, t6⟩ := box7 (unhide H3).hT
  go_wp2_with fail
  refine (unhide CC _ (unhide H3).k (unhide H3).m).mono ?_
  rintro e w4 ⟨kv4, mv4, rfl, ok4, om4, b4⟩
  try dsimp only at ok4 om4
  obtain ⟨ka4, kc4, e5⟩ := own_formS ok4
  obtain ⟨ma4, mc4, e6⟩ := own_formS om4
  subst e5 e6
  have H4 := (unhide H3).later b4
  have b5 := below1 w4 (.cells #[.int .i64 n, .slice ka4 ks.length kc4, .int .i64 d, .bool has, .int .i64 num, .int .i64 til, .slice ma4 ms.length mc4] 30)
  have hN5 := heap_alloc_new w4 (.cells #[.int .i64 n, .slice ka4 ks.length kc4, .int .i64 d, .bool has, .int .i64 num, .int .i64 til, .slice ma4 ms.length mc4] 30)
  have H5 := hide (H4.later b5)
  have hsz4 := heapLt H4.hR
  have hbel4 := H4.bel.size
  have N5 := hide (And.intro hN5 (And.intro (own_later (own_base' ok4 (unhide H3).bel.size) b5) (own_later (own_base' om4 (unhide H3).bel.size) b5)))
  clear H4 b5 hN5 ok4 om4 b4 H3 t0 t1 t2 t3 t4 t5 t6
  obtain ⟨t0, t1, t2, t3, t4, t5, t6⟩ := box7 (unhide H5).hT
  obtain ⟨s0, s1, s2, s3⟩ := box4c (unhide H5).hS
  try dsimp only [tvT, tv]
  go_wp2_with fail
  refine (implRootNext_any _ n d n2 d2 _ _ _ ks k2 by' (unhide H5).k (unhide H5).s (unhide H5).b).mono ?_
  generalize w4.heap.size = Y at *
  generalize w4.alloc _ = W5 at *
  clear w4
  rintro e w6 ⟨rfl, b6⟩
  have H6 := hide ((unhide H5).later b6)
  have N6 := hide (And.intro ((b6.block _ (heapLt (unhide N5).1)).trans (unhide N5).1) (And.intro (own_later (unhide N5).2.1 b6) (own_later (unhide N5).2.2 b6)))
  clear b6 H5 N5 t0 t1 t2 t3 t4 t5 t6 s0 s1 s2 s3
  clear W5
  cases hN : Ky.next n ks d n2 k2 d2 by'
  · have hT : rr = (⟨n, ks, d, has, num, til, ms⟩, false) := by rw [unhide HROOT, if_pos (unhide HOK), if_neg (by rw [hN]; exact Bool.false_ne_true)]
    have HT := hide hT
    clear hT
    obtain ⟨y0, y1, y2, y3, y4, y5, y6⟩ := box7 (unhide N6).1
    obtain ⟨f0, f1, f2, f3, f4, f5, f6⟩ := frz7 (unhide H6).hR
    obtain ⟨r0, r1, r2, r3, r4, r5, r6⟩ := box7 (unhide H6).hR
    go_wp2
    obtain ⟨⟨q0, q1, q2, q3, q4, q5, q6⟩, ok5, om5, b5, _⟩ := finT (W := w) (n := n) (d := d) (has := has) (num := num) (til := til) (unhide H6).hR (by omega) (unhide H6).bel (unhide N6).2.1 (unhide N6).2.2 rfl
    exact bodyPost_ret (v := .tuple #[.agg #[.int .i64 n, .slice ka4 ks.length kc4, .int .i64 d, .bool has, .int .i64 num, .int .i64 til, .slice ma4 ms.length mc4], .bool false]) (by simp [results, Try.results19, go_sem, q0, q1, q2, q3, q4, q5, q6]) rfl ⟨_, _, by rw [unhide HT] <;> rfl, by rw [unhide HT]; exact ok5, by rw [unhide HT]; exact om5, b5⟩
  · have hT : rr = (⟨n2, k2, d2, has, num, til, ms⟩, true) := by rw [unhide HROOT, if_pos (unhide HOK), if_pos hN]
    have HT := hide hT
    clear hT
    obtain ⟨s0, s1, s2, s3⟩ := box4c (unhide H6).hS
    go_wp2_with fail
    refine (implCopyRoot_any _ n2 d2 _ k2 (unhide H6).s).mono ?_
    rintro e w7 ⟨kv7, rfl, ok7, b7⟩
    obtain ⟨ka7, kc7, e8⟩ := own_formS ok7
    subst e8
    have H7 := hide ((unhide H6).later b7)
    have N7 := hide (And.intro ((b7.block _ (heapLt (unhide N6).1)).trans (unhide N6).1) (And.intro (own_base' ok7 (unhide H6).bel.size) (own_later (unhide N6).2.2 b7)))
    clear b7 ok7 H6 N6 s0 s1 s2 s3
    obtain ⟨y0, y1, y2, y3, y4, y5, y6⟩ := box7 (unhide N7).1
    obtain ⟨g0, g1, g2, _, _, _, _⟩ := frz7 (unhide N7).1
    obtain ⟨f0, f1, f2, f3, f4, f5, f6⟩ := frz7 (unhide H7).hR
    obtain ⟨r0, r1, r2, r3, r4, r5, r6⟩ := box7 (unhide H7).hR
    have hne : Y ≠ w.heap.size + 1 + 1 := by omega
    have hne' : w.heap.size + 1 + 1 ≠ Y := by omega
    obtain ⟨hT8, hfar8, hsz8, ho8, ht8, hp8⟩ := fin3of7 (a := .int .i64 n2) (b := .slice ka7 k2.length kc7) (c := .int .i64 d2) (unhide N7).1 rfl
    have hR8 := (hfar8 (w.heap.size + 1 + 1) (by omega)).trans (unhide H7).hR
    have hb8 := below_far (unhide H7).bel hbel4 hfar8 hsz8 ho8 ht8 hp8
    have hO8 : OwI w.heap.size (((w7.setCell ⟨Y, 0, none⟩ (.int .i64 n2)).setCell ⟨Y, 1, none⟩ (.slice ka7 k2.length kc7)).setCell ⟨Y, 2, none⟩ (.int .i64 d2)) (.slice ka7 k2.length kc7) k2 := own_keepS (unhide N7).2.1 (fun g _ e _ _ => hfar8 g (fun e2 => own_ne (unhide N7).2.1 (unhide N7).1 (by decide) (by rw [e, e2])))
    have hM8 : OwM w.heap.size (((w7.setCell ⟨Y, 0, none⟩ (.int .i64 n2)).setCell ⟨Y, 1, none⟩ (.slice ka7 k2.length kc7)).setCell ⟨Y, 2, none⟩ (.int .i64 d2)) (.slice ma4 ms.length mc4) ms := own_keepS (unhide N7).2.2 (fun g _ e _ _ => hfar8 g (fun e2 => own_ne (unhide N7).2.2 (unhide N7).1 (by decide) (by rw [e, e2])))
    have H8 := hide (And.intro hT8 (And.intro hR8 (And.intro hb8 (And.intro hO8 hM8))))
    clear hT8 hfar8 hsz8 ho8 ht8 hp8 hR8 hb8 hO8 hM8
    go_wp2
    obtain ⟨⟨q0, q1, q2, q3, q4, q5, q6⟩, ok5, om5, b5, _⟩ := finT (W := w) (n := n2) (d := d2) (has := has) (num := num) (til := til) (unhide H8).2.1 (by omega) (unhide H8).2.2.1 (unhide H8).2.2.2.1 (unhide H8).2.2.2.2 rfl
    exact bodyPost_ret (v := .tuple #[.agg #[.int .i64 n2, .slice ka7 k2.length kc7, .int .i64 d2, .bool has, .int .i64 num, .int .i64 til, .slice ma4 ms.length mc4], .bool true]) (by simp [results, Try.results19, go_sem, q0, q1, q2, q3, q4, q5, q6]) rfl ⟨_, _, by rw [unhide HT] <;> rfl, by rw [unhide HT]; exact ok5, by rw [unhide HT]; exact om5, b5⟩
end Go.Proofs.Ytkgeekjclcpbpaa
