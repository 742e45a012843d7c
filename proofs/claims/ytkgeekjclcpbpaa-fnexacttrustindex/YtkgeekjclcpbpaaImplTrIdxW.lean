/- What impl.TrustIndex returns: trust in rows of one's own, with that index if it may be taken; for every trust, signed index and time. -/
import Derived.Test.YtkgeekjclcpbpaaQuestW
namespace Go.Proofs.Ytkgeekjclcpbpaa
open Go.RowKit

/-- The last four of a box of seven are written. -/
theorem fin3456 {w w' : World} {X : Nat} {a b c d0 e0 f0 g0 d e f g : Value} {t : TypeId} (h : w.heap[X]? = some (.cells #[a, b, c, d0, e0, f0, g0] t (0, 0))) (hw : w' = (((w.setCell ⟨X, 3, none⟩ d).setCell ⟨X, 4, none⟩ e).setCell ⟨X, 5, none⟩ f).setCell ⟨X, 6, none⟩ g) :
    w'.heap[X]? = some (.cells #[a, b, c, d, e, f, g] t (0, 0)) ∧ (∀ k, k ≠ X → w'.heap[k]? = w.heap[k]?) ∧ w'.heap.size = w.heap.size ∧ w'.os = w.os ∧ w'.tape = w.tape ∧ w'.output = w.output := by
  refine ⟨by rw [hw, heapSet (heapSet (heapSet (heapSet h)))]; rfl, fun k hk => ?_, by rw [hw]; simp [World.setCell], by rw [hw]; simp [World.setCell], by rw [hw]; simp [World.setCell], by rw [hw]; simp [World.setCell]⟩
  rw [hw, Below.heap_setCell _ _ _ _ hk, Below.heap_setCell _ _ _ _ hk, Below.heap_setCell _ _ _ _ hk, Below.heap_setCell _ _ _ _ hk]

set_option maxHeartbeats 4000000 in
set_option maxRecDepth 100000 in
theorem implTrustIndex_any (w : World) (t : Tr.T) (kv mv : Value) (n2 t2 : Int) (v2 vb : Value) (m2 : List Ix.M) (by' : List Int) (now : Int) (hk : Ins w kv t.ks) (hm : Trs w mv t.ms) (h2 : Trs w v2 m2) (hb : Ins w vb by') :
    Calls Try.prog 12 #[tvT t kv mv, .agg #[.int .i64 n2, .int .i64 t2, v2, vb], .int .i64 now] w fun e w' => Ans w (Tr.index t n2 t2 m2 by' now) e w' := by
  have CC := hide (fun (W : World) hk hm => implCopyTrust_any W t kv mv hk hm)
  have CQ := hide (fun (W : World) hk hm h2 hb => questions_any W t kv mv n2 t2 v2 vb m2 by' now hk hm h2 hb)
  have hroot : Tr.index t n2 t2 m2 by' now = if (t.ok && Pk.inB now 0 60) = true then (if Tr.takes t.n t.ks t.d t.has t.num n2 t2 m2 by' now = true then ({ t with has := true, num := n2, til := t2, ms := m2 }, true) else (t, false)) else (Tr.T.none, false) := by
    unfold Tr.index
    cases t.ok <;> cases Pk.inB now 0 60 <;> rfl
  have HROOT := hide hroot
  clear hroot
  generalize Tr.index t n2 t2 m2 by' now = rr at *
  obtain ⟨n, ks, d, has, num, til, ms⟩ := t
  dsimp only [tvT, tv] at *
  obtain ⟨ka, kc, e1⟩ := hk.slice
  obtain ⟨ma, mc, e2⟩ := hm.slice
  obtain ⟨a2, c2, e3⟩ := h2.slice
  obtain ⟨ab, cb, e4⟩ := hb.slice
  subst e1 e2 e3 e4
  have H2 := hide (TSI.new (n := n) (d := d) (num := num) (til := til) (has := has) (n2 := n2) (t2 := t2) hk hm h2 hb)
  clear hk hm h2 hb
  have CT := hide (fun (W : World) hk hm => implTrustOk_any W n d (.slice ka ks.length kc) ks has num til (.slice ma ms.length mc) ms hk hm)
  dsimp only [tv] at CT
  go_enter Try.func12, Try.ntmps12
  go_wp2_with fail
  refine (unhide CT _ (unhide H2).k (unhide H2).m).mono ?_
  generalize World.alloc _ _ = W2 at *
  rintro e w3 ⟨rfl, b3⟩
  have H3 := hide ((unhide H2).later b3)
  clear b3 H2
  clear W2
  cases hO : Tr.ok n ks d has num til ms
  · have hT : rr = (Tr.T.none, false) := by rw [unhide HROOT]; unfold Tr.T.ok; rw [hO]; rfl
    have HT := hide hT
    clear hT
    obtain ⟨f0, f1, f2, f3, f4, f5, f6⟩ := frz7 (unhide H3).hR
    obtain ⟨r0, r1, r2, r3, r4, r5, r6⟩ := box7 (unhide H3).hR
    go_wp2_with (go_at_call 50; refine (between_any _ _ _ _).mono ?_; rintro e w' ⟨rfl, rfl⟩)
    obtain ⟨⟨q0, q1, q2, q3, q4, q5, q6⟩, ok5, om5, b5, _⟩ := finT (W := w) (n := 0) (d := 0) (has := false) (num := 0) (til := 0) (kv := .slice none 0 0) (mv := .slice none 0 0) (ks := []) (ms := []) (unhide H3).hR (by omega) (unhide H3).bel (World.ownsRow_nil _ _ _ _) (World.ownsRow_nil _ _ _ _) rfl
    exact bodyPost_ret (v := .tuple #[.agg #[.int .i64 0, .slice none 0 0, .int .i64 0, .bool false, .int .i64 0, .int .i64 0, .slice none 0 0], .bool false]) (by simp [results, Try.results12, go_sem, q0, q1, q2, q3, q4, q5, q6]) rfl ⟨_, _, by rw [unhide HT] <;> rfl, by rw [unhide HT]; exact ok5, by rw [unhide HT]; exact om5, b5⟩
  cases hI : Pk.inB now 0 60
  · have hT : rr = (Tr.T.none, false) := by rw [unhide HROOT, hI, Bool.and_false]; rfl
    have HT := hide hT
    clear hT
    obtain ⟨f0, f1, f2, f3, f4, f5, f6⟩ := frz7 (unhide H3).hR
    obtain ⟨r0, r1, r2, r3, r4, r5, r6⟩ := box7 (unhide H3).hR
    go_wp2_with (go_at_call 50; refine (between_any _ _ _ _).mono ?_; rintro e w' ⟨rfl, rfl⟩)
    obtain ⟨⟨q0, q1, q2, q3, q4, q5, q6⟩, ok5, om5, b5, _⟩ := finT (W := w) (n := 0) (d := 0) (has := false) (num := 0) (til := 0) (kv := .slice none 0 0) (mv := .slice none 0 0) (ks := []) (ms := []) (unhide H3).hR (by omega) (unhide H3).bel (World.ownsRow_nil _ _ _ _) (World.ownsRow_nil _ _ _ _) rfl
    exact bodyPost_ret (v := .tuple #[.agg #[.int .i64 0, .slice none 0 0, .int .i64 0, .bool false, .int .i64 0, .int .i64 0, .slice none 0 0], .bool false]) (by simp [results, Try.results12, go_sem, q0, q1, q2, q3, q4, q5, q6]) rfl ⟨_, _, by rw [unhide HT] <;> rfl, by rw [unhide HT]; exact ok5, by rw [unhide HT]; exact om5, b5⟩
  have hok' : (Tr.T.ok ⟨n, ks, d, has, num, til, ms⟩ && Pk.inB now 0 60) = true := by rw [hI, Bool.and_true]; exact hO
  have HOK := hide hok'
  clear hok'
  obtain ⟨t0, t1, t2', t3, t4, t5, t6⟩ := box7 (unhide H3).hT
  go_wp2_with (go_at_call 50; refine (between_any _ _ _ _).mono ?_; rintro e w' ⟨rfl, rfl⟩)
  refine (unhide CC _ (unhide H3).k (unhide H3).m).mono ?_
  rintro e w4 ⟨kv4, mv4, rfl, ok4, om4, b4⟩
  try dsimp only at ok4 om4
  obtain ⟨ka4, kc4, e5⟩ := own_formS ok4
  obtain ⟨ma4, mc4, e6⟩ := own_formS om4
  subst e5 e6
  have H4 := (unhide H3).later b4
  have b5 := below1 w4 (.cells #[.int .i64 n, .slice ka4 ks.length kc4, .int .i64 d, .bool has, .int .i64 num, .int .i64 til, .slice ma4 ms.length mc4] 30)
  have hN5 := heap_alloc_new w4 (.cells #[.int .i64 n, .slice ka4 ks.length kc4, .int .i64 d, .bool has, .int .i64 num, .int .i64 til, .slice ma4 ms.length mc4] 30)
  have H5 := hide (H4.later b5)
  have hsz4 := heapLt H4.hR
  have hbel4 := H4.bel.size
  have N5 := hide (And.intro hN5 (And.intro (own_later (own_base' ok4 (unhide H3).bel.size) b5) (own_later (own_base' om4 (unhide H3).bel.size) b5)))
  clear H4 b5 hN5 ok4 om4 b4 H3 t0 t1 t2' t3 t4 t5 t6
  obtain ⟨t0, t1, t2', t3, t4, t5, t6⟩ := box7 (unhide H5).hT
  obtain ⟨s0, s1, s2, s3⟩ := box4c (unhide H5).hS
  try dsimp only [tvT, tv]
  go_wp2_with fail
  refine (unhide CQ _ (unhide H5).k (unhide H5).m (unhide H5).s (unhide H5).b).mono ?_
  generalize w4.heap.size = Y at *
  generalize w4.alloc _ = W5 at *
  clear w4
  rintro e w5 ⟨rfl, b5, hq5, htb5, hsi5, hnow5, hsz5⟩
  try dsimp only at htb5
  have H5' := hide ((unhide H5).later b5)
  have N5' := hide (And.intro ((b5.block _ (heapLt (unhide N5).1)).trans (unhide N5).1) (And.intro (own_later (unhide N5).2.1 b5) (own_later (unhide N5).2.2 b5)))
  have CA := hide (askAll_any w5 _ _ _ _ now hq5 htb5 hsi5 hnow5 hsz5)
  clear b5 hq5 htb5 hsi5 hnow5 hsz5 H5 N5 t0 t1 t2' t3 t4 t5 t6 s0 s1 s2 s3
  go_wp2_with fail
  refine (unhide CA).mono ?_
  rintro e w6 ⟨rfl, b6⟩
  have H6 := hide ((unhide H5').later b6)
  have N6 := hide (And.intro ((b6.block _ (heapLt (unhide N5').1)).trans (unhide N5').1) (And.intro (own_later (unhide N5').2.1 b6) (own_later (unhide N5').2.2 b6)))
  clear b6 H5' N5' CA
  cases hN : Tr.takes n ks d has num n2 t2 m2 by' now
  · have hT : rr = (⟨n, ks, d, has, num, til, ms⟩, false) := by rw [unhide HROOT, if_pos (unhide HOK), if_neg (by rw [hN]; exact Bool.false_ne_true)]
    have HT := hide hT
    clear hT
    obtain ⟨y0, y1, y2, y3, y4, y5, y6⟩ := box7 (unhide N6).1
    obtain ⟨f0, f1, f2, f3, f4, f5, f6⟩ := frz7 (unhide H6).hR
    obtain ⟨r0, r1, r2, r3, r4, r5, r6⟩ := box7 (unhide H6).hR
    go_wp2
    obtain ⟨⟨q0, q1, q2, q3, q4, q5, q6⟩, ok5, om5, b5, _⟩ := finT (W := w) (n := n) (d := d) (has := has) (num := num) (til := til) (unhide H6).hR (by omega) (unhide H6).bel (unhide N6).2.1 (unhide N6).2.2 rfl
    exact bodyPost_ret (v := .tuple #[.agg #[.int .i64 n, .slice ka4 ks.length kc4, .int .i64 d, .bool has, .int .i64 num, .int .i64 til, .slice ma4 ms.length mc4], .bool false]) (by simp [results, Try.results12, go_sem, q0, q1, q2, q3, q4, q5, q6]) rfl ⟨_, _, by rw [unhide HT] <;> rfl, by rw [unhide HT]; exact ok5, by rw [unhide HT]; exact om5, b5⟩
  · have hT : rr = (⟨n, ks, d, true, n2, t2, m2⟩, true) := by rw [unhide HROOT, if_pos (unhide HOK), if_pos hN]
    have HT := hide hT
    clear hT
    obtain ⟨s0, s1, s2, s3⟩ := box4c (unhide H6).hS
    go_wp2_with fail
    refine (implCopyIndex_any _ n2 t2 _ m2 (unhide H6).s).mono ?_
    rintro e w7 ⟨kv7, rfl, ok7, b7⟩
    obtain ⟨ka7, kc7, e8⟩ := own_formS ok7
    subst e8
    have H7 := hide ((unhide H6).later b7)
    have N7 := hide (And.intro ((b7.block _ (heapLt (unhide N6).1)).trans (unhide N6).1) (And.intro (own_later (unhide N6).2.1 b7) (own_base' ok7 (unhide H6).bel.size)))
    clear b7 ok7 H6 N6 s0 s1 s2 s3
    obtain ⟨y0, y1, y2, y3, y4, y5, y6⟩ := box7 (unhide N7).1
    obtain ⟨_, _, _, g3, g4, g5, g6⟩ := frz7 (unhide N7).1
    obtain ⟨f0, f1, f2, f3, f4, f5, f6⟩ := frz7 (unhide H7).hR
    obtain ⟨r0, r1, r2, r3, r4, r5, r6⟩ := box7 (unhide H7).hR
    have hne : Y ≠ w.heap.size + 1 + 1 := by omega
    have hne' : w.heap.size + 1 + 1 ≠ Y := by omega
    obtain ⟨hT8, hfar8, hsz8, ho8, ht8, hp8⟩ := fin3456 (d := .bool true) (e := .int .i64 n2) (f := .int .i64 t2) (g := .slice ka7 m2.length kc7) (unhide N7).1 rfl
    have hR8 := (hfar8 (w.heap.size + 1 + 1) (by omega)).trans (unhide H7).hR
    have hb8 := below_far (unhide H7).bel hbel4 hfar8 hsz8 ho8 ht8 hp8
    have hO8 : OwI w.heap.size ((((w7.setCell ⟨Y, 3, none⟩ (.bool true)).setCell ⟨Y, 4, none⟩ (.int .i64 n2)).setCell ⟨Y, 5, none⟩ (.int .i64 t2)).setCell ⟨Y, 6, none⟩ (.slice ka7 m2.length kc7)) (.slice ka4 ks.length kc4) ks := own_keepS (unhide N7).2.1 (fun g _ e _ _ => hfar8 g (fun e2 => own_ne (unhide N7).2.1 (unhide N7).1 (by decide) (by rw [e, e2])))
    have hM8 : OwM w.heap.size ((((w7.setCell ⟨Y, 3, none⟩ (.bool true)).setCell ⟨Y, 4, none⟩ (.int .i64 n2)).setCell ⟨Y, 5, none⟩ (.int .i64 t2)).setCell ⟨Y, 6, none⟩ (.slice ka7 m2.length kc7)) (.slice ka7 m2.length kc7) m2 := own_keepS (unhide N7).2.2 (fun g _ e _ _ => hfar8 g (fun e2 => own_ne (unhide N7).2.2 (unhide N7).1 (by decide) (by rw [e, e2])))
    have H8 := hide (And.intro hT8 (And.intro hR8 (And.intro hb8 (And.intro hO8 hM8))))
    clear hT8 hfar8 hsz8 ho8 ht8 hp8 hR8 hb8 hO8 hM8
    go_wp2
    obtain ⟨⟨q0, q1, q2, q3, q4, q5, q6⟩, ok5, om5, b5, _⟩ := finT (W := w) (n := n) (d := d) (has := true) (num := n2) (til := t2) (unhide H8).2.1 (by omega) (unhide H8).2.2.1 (unhide H8).2.2.2.1 (unhide H8).2.2.2.2 rfl
    exact bodyPost_ret (v := .tuple #[.agg #[.int .i64 n, .slice ka4 ks.length kc4, .int .i64 d, .bool true, .int .i64 n2, .int .i64 t2, .slice ka7 m2.length kc7], .bool true]) (by simp [results, Try.results12, go_sem, q0, q1, q2, q3, q4, q5, q6]) rfl ⟨_, _, by rw [unhide HT] <;> rfl, by rw [unhide HT]; exact ok5, by rw [unhide HT]; exact om5, b5⟩
end Go.Proofs.Ytkgeekjclcpbpaa
