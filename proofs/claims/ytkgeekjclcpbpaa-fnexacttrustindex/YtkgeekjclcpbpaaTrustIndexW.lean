/- What spec.l11Index returns: trust with that index if it may be taken; for every trust and signed index, at a time that is not below 0. -/
import Derived.Test.YtkgeekjclcpbpaaTrustRootW
namespace Go.Proofs.Ytkgeekjclcpbpaa
open Go.RowKit

/-- The boxes of a trust and a signed index, and what is read through them. -/
structure TSI (w W : World) (n d num til : Int) (has : Bool) (kv mv : Value) (ks : List Int) (ms : List Ix.M) (n2 t2 : Int) (v2 vb : Value) (m2 : List Ix.M) (by' : List Int) : Prop where
  bel : Below w.heap.size w W
  hT : W.heap[w.heap.size]? = some (.cells #[.int .i64 n, kv, .int .i64 d, .bool has, .int .i64 num, .int .i64 til, mv] 30 (0, 0))
  hS : W.heap[w.heap.size + 1]? = some (.cells #[.int .i64 n2, .int .i64 t2, v2, vb] 32 (0, 0))
  hR : W.heap[w.heap.size + 1 + 1]? = some (.cells #[.int .i64 0, .slice none 0 0, .int .i64 0, .bool false, .int .i64 0, .int .i64 0, .slice none 0 0] 30 (0, 0))
  k : Ins W kv ks
  m : Trs W mv ms
  s : Trs W v2 m2
  b : Ins W vb by'
section
variable {w W W' : World} {n d num til : Int} {has : Bool} {kv mv : Value} {ks : List Int} {ms : List Ix.M} {n2 t2 : Int} {v2 vb : Value} {m2 : List Ix.M} {by' : List Int}
theorem TSI.later (h : TSI w W n d num til has kv mv ks ms n2 t2 v2 vb m2 by') (hb : Below W.heap.size W W') : TSI w W' n d num til has kv mv ks ms n2 t2 v2 vb m2 by' :=
  ⟨h.bel.trans (hb.mono h.bel.size), (hb.block _ (heapLt h.hT)).trans h.hT, (hb.block _ (heapLt h.hS)).trans h.hS, (hb.block _ (heapLt h.hR)).trans h.hR, h.k.later hb, h.m.later hb, h.s.later hb, h.b.later hb⟩
theorem TSI.new (hk : Ins w kv ks) (hm : Trs w mv ms) (h2 : Trs w v2 m2) (hb : Ins w vb by') :
    TSI w (((w.alloc (.cells #[.int .i64 n, kv, .int .i64 d, .bool has, .int .i64 num, .int .i64 til, mv] 30)).alloc (.cells #[.int .i64 n2, .int .i64 t2, v2, vb] 32)).alloc (.cells #[.int .i64 0, .slice none 0 0, .int .i64 0, .bool false, .int .i64 0, .int .i64 0, .slice none 0 0] 30)) n d num til has kv mv ks ms n2 t2 v2 vb m2 by' := by
  obtain ⟨B, e1, e2, e3⟩ := three_boxesT w (.cells #[.int .i64 n, kv, .int .i64 d, .bool has, .int .i64 num, .int .i64 til, mv] 30) (.cells #[.int .i64 n2, .int .i64 t2, v2, vb] 32) (.cells #[.int .i64 0, .slice none 0 0, .int .i64 0, .bool false, .int .i64 0, .int .i64 0, .slice none 0 0] 30)
  exact ⟨B, e1, e2, e3, hk.later B, hm.later B, h2.later B, hb.later B⟩
end
/-- The last three of a box of seven are written. -/
theorem fin456 {w w' : World} {X : Nat} {a b c d e0 f0 g0 e f g : Value} {t : TypeId} (h : w.heap[X]? = some (.cells #[a, b, c, d, e0, f0, g0] t (0, 0))) (hw : w' = ((w.setCell ⟨X, 4, none⟩ e).setCell ⟨X, 5, none⟩ f).setCell ⟨X, 6, none⟩ g) :
    w'.heap[X]? = some (.cells #[a, b, c, d, e, f, g] t (0, 0)) ∧ (∀ k, k ≠ X → w'.heap[k]? = w.heap[k]?) ∧ w'.heap.size = w.heap.size ∧ w'.os = w.os ∧ w'.tape = w.tape ∧ w'.output = w.output := by
  refine ⟨by rw [hw, heapSet (heapSet (heapSet h))]; rfl, fun k hk => ?_, by rw [hw]; simp [World.setCell], by rw [hw]; simp [World.setCell], by rw [hw]; simp [World.setCell], by rw [hw]; simp [World.setCell]⟩
  rw [hw, Below.heap_setCell _ _ _ _ hk, Below.heap_setCell _ _ _ _ hk, Below.heap_setCell _ _ _ _ hk]
theorem boxSet' {w : World} {X Y o : Nat} {u : Value} {ob : Obj} (h : w.heap[Y]? = some ob) (hne : Y ≠ X) : (w.setCell ⟨X, o, none⟩ u).heap[Y]? = some ob := by rw [Below.heap_setCell _ _ _ _ hne]; exact h

set_option maxHeartbeats 4000000 in
set_option maxRecDepth 100000 in
theorem l11Index_any (w : World) (t : Tr.T) (kv mv : Value) (n2 t2 : Int) (v2 vb : Value) (m2 : List Ix.M) (by' : List Int) (now : Int) (hnow : 0 ≤ now) (hk : Ins w kv t.ks) (hm : Trs w mv t.ms) (h2 : Trs w v2 m2) (hb : Ins w vb by') :
    Calls Try.prog 47 #[tvT t kv mv, .agg #[.int .i64 n2, .int .i64 t2, v2, vb], .int .i64 now] w fun e w' => Below w.heap.size w w' ∧ ((Tr.takes t.n t.ks t.d t.has t.num n2 t2 m2 by' now = false ∧ e = .returned (.tuple #[tvT t kv mv, .bool false])) ∨ (Tr.takes t.n t.ks t.d t.has t.num n2 t2 m2 by' now = true ∧ ∃ mv', e = .returned (.tuple #[tvT { t with has := true, num := n2, til := t2, ms := m2 } kv mv', .bool true]) ∧ OwM w.heap.size w' mv' m2)) := by
  obtain ⟨n, ks, d, has, num, til, ms⟩ := t
  dsimp only [tvT, tv] at *
  obtain ⟨ka, kc, e1⟩ := hk.slice
  obtain ⟨ma, mc, e2⟩ := hm.slice
  obtain ⟨a2, c2, e3⟩ := h2.slice
  obtain ⟨ab, cb, e4⟩ := hb.slice
  subst e1 e2 e3 e4
  have H2 := hide (TSI.new (n := n) (d := d) (num := num) (til := til) (has := has) (n2 := n2) (t2 := t2) hk hm h2 hb)
  have ENT := hide (And.intro hk (And.intro hm (And.intro h2 hb)))
  clear hk hm h2 hb
  have htk : Tr.takes n ks d has num n2 t2 m2 by' now = (Ix.idxOk n2 t2 m2 && (Ky.signed n ks d by' && (Pk.inB now 0 t2 && (!has || decide (num < n2))))) := rfl
  have HTK := hide htk
  clear htk
  generalize Tr.takes n ks d has num n2 t2 m2 by' now = tk at *
  have hfin : ∀ w3, TSI w w3 n d num til has (.slice ka ks.length kc) (.slice ma ms.length mc) ks ms n2 t2 (.slice a2 m2.length c2) (.slice ab by'.length cb) m2 by' → ∀ w5, w5 = ((((((w3.setCell ⟨w.heap.size + 1 + 1, 0, none⟩ (.int .i64 n)).setCell ⟨w.heap.size + 1 + 1, 1, none⟩ (.slice ka ks.length kc)).setCell ⟨w.heap.size + 1 + 1, 2, none⟩ (.int .i64 d)).setCell ⟨w.heap.size + 1 + 1, 3, none⟩ (.bool has)).setCell ⟨w.heap.size + 1 + 1, 4, none⟩ (.int .i64 num)).setCell ⟨w.heap.size + 1 + 1, 5, none⟩ (.int .i64 til)).setCell ⟨w.heap.size + 1 + 1, 6, none⟩ (.slice ma ms.length mc) → (w5.cell? ⟨w.heap.size + 1 + 1, 0, none⟩ = some (.int .i64 n) ∧ w5.cell? ⟨w.heap.size + 1 + 1, 1, none⟩ = some (.slice ka ks.length kc) ∧ w5.cell? ⟨w.heap.size + 1 + 1, 2, none⟩ = some (.int .i64 d) ∧ w5.cell? ⟨w.heap.size + 1 + 1, 3, none⟩ = some (.bool has) ∧ w5.cell? ⟨w.heap.size + 1 + 1, 4, none⟩ = some (.int .i64 num) ∧ w5.cell? ⟨w.heap.size + 1 + 1, 5, none⟩ = some (.int .i64 til) ∧ w5.cell? ⟨w.heap.size + 1 + 1, 6, none⟩ = some (.slice ma ms.length mc)) ∧ Below w.heap.size w w5 := fun w3 H3 w5 hw5 => by
    obtain ⟨hR, hfar, hsz, ho, ht, hp⟩ := fin7 H3.hR hw5
    exact ⟨box7 hR, below_far H3.bel (by omega) hfar hsz ho ht hp⟩
  have FIN := hide hfin
  clear hfin
  go_enter Try.func47, Try.ntmps47
  go_wp2_with fail
  refine (indexOk_any _ n2 t2 _ m2 (unhide H2).s).mono ?_
  generalize World.alloc _ _ = W2 at *
  rintro e w3 ⟨rfl, b3⟩
  have H3 := hide ((unhide H2).later b3)
  clear b3 H2
  clear W2
  obtain ⟨t0, t1, t2', t3, t4, t5, t6⟩ := box7 (unhide H3).hT
  obtain ⟨s0, s1, s2, s3⟩ := box4c (unhide H3).hS
  cases hA : Ix.idxOk n2 t2 m2
  · obtain ⟨f0, f1, f2, f3, f4, f5, f6⟩ := frz7 (unhide H3).hR
    obtain ⟨r0, r1, r2, r3, r4, r5, r6⟩ := box7 (unhide H3).hR
    have htk : tk = false := by rw [unhide HTK, hA]; rfl
    go_wp2
    obtain ⟨⟨q0, q1, q2, q3, q4, q5, q6⟩, hbel⟩ := unhide FIN _ (unhide H3) _ rfl
    exact bodyPost_ret (v := .tuple #[.agg #[.int .i64 n, .slice ka ks.length kc, .int .i64 d, .bool has, .int .i64 num, .int .i64 til, .slice ma ms.length mc], .bool false]) (by simp [results, Try.results47, go_sem, q0, q1, q2, q3, q4, q5, q6]) rfl ⟨hbel, .inl ⟨htk, rfl⟩⟩
  go_wp2_with fail
  refine (specRootSigned_any _ n d _ _ ks by' (unhide H3).k (unhide H3).b).mono ?_
  rintro e w4 ⟨rfl, b4⟩
  have H4 := hide ((unhide H3).later b4)
  clear b4 H3 t0 t1 t2' t3 t4 t5 t6 s0 s1 s2 s3
  obtain ⟨t0, t1, t2', t3, t4, t5, t6⟩ := box7 (unhide H4).hT
  obtain ⟨s0, s1, s2, s3⟩ := box4c (unhide H4).hS
  have hcase : tk = false ∧ (Ky.signed n ks d by' = false ∨ (Ky.signed n ks d by' = true ∧ (t2 < now ∨ (¬ t2 < now ∧ has = true ∧ n2 ≤ num)))) ∨ tk = true ∧ Ky.signed n ks d by' = true ∧ ¬ t2 < now ∧ (has = false ∨ (has = true ∧ ¬ n2 ≤ num)) := by
    rw [unhide HTK, hA]
    cases Ky.signed n ks d by'
    · exact .inl ⟨rfl, .inl rfl⟩
    · by_cases h1 : t2 < now
      · exact .inl ⟨by unfold Pk.inB; rw [decide_eq_false (show ¬ now ≤ t2 by omega)]; simp, .inr ⟨rfl, .inl h1⟩⟩
      · have hin : Pk.inB now 0 t2 = true := Pk.inB_true.2 ⟨hnow, by omega⟩
        cases has
        · exact .inr ⟨by rw [hin]; rfl, rfl, h1, .inl rfl⟩
        · by_cases h2 : n2 ≤ num
          · exact .inl ⟨by rw [hin, decide_eq_false (show ¬ num < n2 by omega)]; rfl, .inr ⟨rfl, .inr ⟨h1, rfl, h2⟩⟩⟩
          · exact .inr ⟨by rw [hin, decide_eq_true (show num < n2 by omega)]; rfl, rfl, h1, .inr ⟨rfl, h2⟩⟩
  rcases hcase with ⟨htk, hsg | ⟨hsg, hlt | ⟨hlt, hh, hle⟩⟩⟩ | ⟨htk, hsg, hlt, hh | ⟨hh, hle⟩⟩
  · rw [hsg]
    obtain ⟨f0, f1, f2, f3, f4, f5, f6⟩ := frz7 (unhide H4).hR
    obtain ⟨r0, r1, r2, r3, r4, r5, r6⟩ := box7 (unhide H4).hR
    have HTKF := hide htk
    clear htk
    go_wp2
    obtain ⟨⟨q0, q1, q2, q3, q4, q5, q6⟩, hbel⟩ := unhide FIN _ (unhide H4) _ rfl
    exact bodyPost_ret (v := .tuple #[.agg #[.int .i64 n, .slice ka ks.length kc, .int .i64 d, .bool has, .int .i64 num, .int .i64 til, .slice ma ms.length mc], .bool false]) (by simp [results, Try.results47, go_sem, q0, q1, q2, q3, q4, q5, q6]) rfl ⟨hbel, .inl ⟨unhide HTKF, rfl⟩⟩
  · rw [hsg]
    obtain ⟨f0, f1, f2, f3, f4, f5, f6⟩ := frz7 (unhide H4).hR
    obtain ⟨r0, r1, r2, r3, r4, r5, r6⟩ := box7 (unhide H4).hR
    have hlt' : decide (t2 < now) = true := decide_eq_true hlt
    have HTKF := hide htk
    clear htk
    go_wp2
    obtain ⟨⟨q0, q1, q2, q3, q4, q5, q6⟩, hbel⟩ := unhide FIN _ (unhide H4) _ rfl
    exact bodyPost_ret (v := .tuple #[.agg #[.int .i64 n, .slice ka ks.length kc, .int .i64 d, .bool has, .int .i64 num, .int .i64 til, .slice ma ms.length mc], .bool false]) (by simp [results, Try.results47, go_sem, q0, q1, q2, q3, q4, q5, q6]) rfl ⟨hbel, .inl ⟨unhide HTKF, rfl⟩⟩
  · rw [hsg]
    subst hh
    obtain ⟨f0, f1, f2, f3, f4, f5, f6⟩ := frz7 (unhide H4).hR
    obtain ⟨r0, r1, r2, r3, r4, r5, r6⟩ := box7 (unhide H4).hR
    have hlt' : decide (t2 < now) = false := decide_eq_false hlt
    have hle' : decide (n2 ≤ num) = true := decide_eq_true hle
    have HTKF := hide htk
    clear htk
    go_wp2
    obtain ⟨⟨q0, q1, q2, q3, q4, q5, q6⟩, hbel⟩ := unhide FIN _ (unhide H4) _ rfl
    exact bodyPost_ret (v := .tuple #[.agg #[.int .i64 n, .slice ka ks.length kc, .int .i64 d, .bool true, .int .i64 num, .int .i64 til, .slice ma ms.length mc], .bool false]) (by simp [results, Try.results47, go_sem, q0, q1, q2, q3, q4, q5, q6]) rfl ⟨hbel, .inl ⟨unhide HTKF, rfl⟩⟩
  all_goals
    rw [hsg]
    subst hh
    have hlt' : decide (t2 < now) = false := decide_eq_false hlt
    try have hle' : decide (n2 ≤ num) = false := decide_eq_false hle
    have HTKF := hide htk
    obtain ⟨_, _, _, g3, g4, g5, g6⟩ := frz7 (unhide H4).hT
    clear htk
    have B5 := below_set (o := 3) (u := .bool true) (unhide H4).bel (Nat.le_refl _)
    have H5 : Hid (TSI w (w4.setCell ⟨w.heap.size, 3, none⟩ (.bool true)) n d num til true (.slice ka ks.length kc) (.slice ma ms.length mc) ks ms n2 t2 (.slice a2 m2.length c2) (.slice ab by'.length cb) m2 by') :=
      ⟨B5, by rw [heapSet (unhide H4).hT]; rfl, boxSet' (unhide H4).hS (by omega), boxSet' (unhide H4).hR (by omega), (unhide ENT).1.later B5, (unhide ENT).2.1.later B5, (unhide ENT).2.2.1.later B5, (unhide ENT).2.2.2.later B5⟩
    have hne1 : w.heap.size ≠ w.heap.size + 1 := by omega
    clear B5
    go_wp2_with fail
    refine (specCopyIndex_any _ n2 t2 _ m2 (unhide H5).s).mono ?_
    generalize World.setCell _ _ _ = w5 at *
    rintro e w6 ⟨mv6, rfl, om6, b6⟩
    obtain ⟨xa, xc, e6⟩ := own_formS om6
    subst e6
    have H6 := hide ((unhide H5).later b6)
    have O6 := hide (own_base' om6 (unhide H5).bel.size)
    clear om6 b6 H5 H4 t0 t1 t2' t3 t4 t5 t6 s0 s1 s2 s3 g3 g4 g5 g6
    obtain ⟨t0, t1, t2', t3, t4, t5, t6⟩ := box7 (unhide H6).hT
    obtain ⟨_, _, _, _, g4, g5, g6⟩ := frz7 (unhide H6).hT
    obtain ⟨f0, f1, f2, f3, f4, f5, f6⟩ := frz7 (unhide H6).hR
    obtain ⟨r0, r1, r2, r3, r4, r5, r6⟩ := box7 (unhide H6).hR
    have hne : w.heap.size ≠ w.heap.size + 1 + 1 := by omega
    have hne' : w.heap.size + 1 + 1 ≠ w.heap.size := by omega
    obtain ⟨hT7, hfar7, hsz7, ho7, ht7, hp7⟩ := fin456 (e := .int .i64 n2) (f := .int .i64 t2) (g := .slice xa m2.length xc) (unhide H6).hT rfl
    have hR7 := (hfar7 (w.heap.size + 1 + 1) (by omega)).trans (unhide H6).hR
    have hb7 := below_far (unhide H6).bel (Nat.le_refl _) hfar7 hsz7 ho7 ht7 hp7
    have hO7 : OwM w.heap.size (((w6.setCell ⟨w.heap.size, 4, none⟩ (.int .i64 n2)).setCell ⟨w.heap.size, 5, none⟩ (.int .i64 t2)).setCell ⟨w.heap.size, 6, none⟩ (.slice xa m2.length xc)) (.slice xa m2.length xc) m2 := own_keepS (unhide O6) (fun g _ e _ _ => hfar7 g (fun e2 => own_ne (unhide O6) (unhide H6).hT (by decide) (by rw [e, e2])))
    have H7 := hide (And.intro hT7 (And.intro hR7 (And.intro hb7 hO7)))
    clear hT7 hfar7 hsz7 ho7 ht7 hp7 hR7 hb7 hO7
    go_wp2
    obtain ⟨hR, hfar, hsz, ho, ht, hp⟩ := fin7 (a := .int .i64 n) (b := .slice ka ks.length kc) (c := .int .i64 d) (d := .bool true) (e := .int .i64 n2) (f := .int .i64 t2) (g := .slice xa m2.length xc) (unhide H7).2.1 rfl
    obtain ⟨q0, q1, q2, q3, q4, q5, q6⟩ := box7 hR
    exact bodyPost_ret (v := .tuple #[.agg #[.int .i64 n, .slice ka ks.length kc, .int .i64 d, .bool true, .int .i64 n2, .int .i64 t2, .slice xa m2.length xc], .bool true]) (by simp [results, Try.results47, go_sem, q0, q1, q2, q3, q4, q5, q6]) rfl ⟨below_far (unhide H7).2.2.1 (by omega) hfar hsz ho ht hp, .inr ⟨unhide HTKF, _, rfl, own_keepS (unhide H7).2.2.2 (fun g _ e _ _ => hfar g (fun e2 => own_ne (unhide H7).2.2.2 (unhide H7).2.1 (by decide) (by rw [e, e2])))⟩⟩
end Go.Proofs.Ytkgeekjclcpbpaa
