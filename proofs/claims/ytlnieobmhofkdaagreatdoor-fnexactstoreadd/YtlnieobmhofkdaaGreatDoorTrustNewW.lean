import Derived.Test.YtlnieobmhofkdaaGreatDoorMix12
import Derived.Test.YtlnieobmhofkdaaGreatDoorMix14
import Derived.Test.YtlnieobmhofkdaaGreatDoorMix8
import Derived.Test.YtlnieobmhofkdaaGreatDoorBox7W
import Derived.Deep.DrawnRows
/- What impl.copyTrust, spec.l11Copy, and both TrustNew return: trust in rows of one's own; for every trust and root. -/
namespace Go.Proofs.YtlnieobmhofkdaaGreatDoor
open Go.RowKit

attribute [local go_sem ↓] Go.wp_at_zero Go.wp_at_succ

/-- Trust is laid into the answer's box. -/
theorem finT {W w w' : World} {R : Nat} {n d num til : Int} {has : Bool} {kv mv a0 b0 c0 d0 e0 f0 g0 : Value} {ks : List Int} {ms : List Ix.M} (hR : w.heap[R]? = some (.cells #[a0, b0, c0, d0, e0, f0, g0] 30 (0, 0))) (lR : W.heap.size ≤ R) (hb : Below W.heap.size W w) (hk : OwI W.heap.size w kv ks) (hm : OwM W.heap.size w mv ms)
    (hw : w' = ((((((w.setCell ⟨R, 0, none⟩ (.int .i64 n)).setCell ⟨R, 1, none⟩ kv).setCell ⟨R, 2, none⟩ (.int .i64 d)).setCell ⟨R, 3, none⟩ (.bool has)).setCell ⟨R, 4, none⟩ (.int .i64 num)).setCell ⟨R, 5, none⟩ (.int .i64 til)).setCell ⟨R, 6, none⟩ mv) :
    (w'.cell? ⟨R, 0, none⟩ = some (.int .i64 n) ∧ w'.cell? ⟨R, 1, none⟩ = some kv ∧ w'.cell? ⟨R, 2, none⟩ = some (.int .i64 d) ∧ w'.cell? ⟨R, 3, none⟩ = some (.bool has) ∧ w'.cell? ⟨R, 4, none⟩ = some (.int .i64 num) ∧ w'.cell? ⟨R, 5, none⟩ = some (.int .i64 til) ∧ w'.cell? ⟨R, 6, none⟩ = some mv) ∧ OwI W.heap.size w' kv ks ∧ OwM W.heap.size w' mv ms ∧ Below W.heap.size W w' ∧ (∀ k, k ≠ R → w'.heap[k]? = w.heap[k]?) := by
  obtain ⟨h1, hf, hs, ho, ht, hp⟩ := fin7 hR hw
  exact ⟨box7 h1, own_keepS hk (fun g _ e _ _ => hf g (fun e2 => own_ne hk hR (by decide) (by rw [e, e2]))), own_keepS hm (fun g _ e _ _ => hf g (fun e2 => own_ne hm hR (by decide) (by rw [e, e2]))), below_far hb lR hf hs ho ht hp, hf⟩
/-- What is answered: trust in rows of one's own, and whether. -/
def Ans (W : World) (r : Tr.T × Bool) (e : Ending) (w' : World) : Prop := ∃ kv mv, e = .returned (.tuple #[tvT r.1 kv mv, .bool r.2]) ∧ OwI W.heap.size w' kv r.1.ks ∧ OwM W.heap.size w' mv r.1.ms ∧ Below W.heap.size W w'
/-- The boxes at the beginning: what came in, the answer's. -/
theorem two_boxesT (w : World) (o1 o2 : Obj) : Below w.heap.size w ((w.alloc o1).alloc o2) ∧ ((w.alloc o1).alloc o2).heap[w.heap.size]? = some o1 ∧ ((w.alloc o1).alloc o2).heap[w.heap.size + 1]? = some o2 := by
  have h1 := below1 w o1
  have h2 := below1 (w.alloc o1) o2
  have e1 := heap_alloc_new w o1
  have e2 := heap_alloc_new (w.alloc o1) o2
  rw [sz1'] at e2
  exact ⟨h1.trans (h2.mono h1.size), (h2.block _ (heapLt e1)).trans e1, e2⟩
theorem three_boxesT (w : World) (o1 o2 o3 : Obj) : Below w.heap.size w (((w.alloc o1).alloc o2).alloc o3) ∧ (((w.alloc o1).alloc o2).alloc o3).heap[w.heap.size]? = some o1 ∧ (((w.alloc o1).alloc o2).alloc o3).heap[w.heap.size + 1]? = some o2 ∧ (((w.alloc o1).alloc o2).alloc o3).heap[w.heap.size + 1 + 1]? = some o3 := by
  obtain ⟨h1, e1, e2⟩ := two_boxesT w o1 o2
  have h3 := below1 ((w.alloc o1).alloc o2) o3
  have e3 := heap_alloc_new ((w.alloc o1).alloc o2) o3
  rw [sz1', sz1'] at e3
  exact ⟨h1.trans (h3.mono h1.size), (h3.block _ (heapLt e1)).trans e1, (h3.block _ (heapLt e2)).trans e2, e3⟩

set_option maxHeartbeats 2000000 in
set_option maxRecDepth 100000 in
theorem implTrustNew_any (w : World) (n d : Int) (kv : Value) (ks : List Int) (hk : Ins w kv ks) :
    Calls Tryz.prog 24 #[.agg #[.int .i64 n, kv, .int .i64 d]] w fun e w' => Ans w (Tr.new n ks d) e w' := by
  obtain ⟨ka, kc, e1⟩ := hk.slice
  subst e1
  obtain ⟨B2, x2, r2⟩ := two_boxesT w (.cells #[.int .i64 n, .slice ka ks.length kc, .int .i64 d] 25) (.cells #[.int .i64 0, .slice none 0 0, .int .i64 0, .bool false, .int .i64 0, .int .i64 0, .slice none 0 0] 30)
  have H2 := hide (And.intro B2 (And.intro x2 (And.intro r2 (hk.later B2))))
  clear B2 x2 r2 hk
  go_enter Tryz.func24, Tryz.ntmps24
  go_wp2_with fail
  refine (implRootOk_any _ n d _ ks (unhide H2).2.2.2).mono ?_
  generalize World.alloc _ _ = W2 at *
  rintro e w3 ⟨rfl, b3⟩
  have H3 := hide (And.intro ((unhide H2).1.trans (b3.mono (unhide H2).1.size)) (And.intro ((b3.block _ (heapLt (unhide H2).2.1)).trans (unhide H2).2.1) (And.intro ((b3.block _ (heapLt (unhide H2).2.2.1)).trans (unhide H2).2.2.1) ((unhide H2).2.2.2.later b3))))
  clear b3 H2
  have x0 := cellOf (unhide H3).2.1 0
  have x1 := cellOf (unhide H3).2.1 1
  have x2 := cellOf (unhide H3).2.1 2
  cases hA : Ky.rootOk n ks d
  · have hT : Tr.new n ks d = (Tr.T.none, false) := by unfold Tr.new; rw [hA]; rfl
    have HT := hide hT
    clear hT
    obtain ⟨s0, s1, s2, s3, s4, s5, s6⟩ := frz7 (unhide H3).2.2.1
    obtain ⟨r0, r1, r2, r3, r4, r5, r6⟩ := box7 (unhide H3).2.2.1
    go_wp2
    obtain ⟨⟨q0, q1, q2, q3, q4, q5, q6⟩, ok5, om5, b5, _⟩ := finT (n := 0) (d := 0) (has := false) (num := 0) (til := 0) (kv := .slice none 0 0) (mv := .slice none 0 0) (ks := []) (ms := []) (unhide H3).2.2.1 (Nat.le_succ _) (unhide H3).1 (World.ownsRow_nil _ _ _ _) (World.ownsRow_nil _ _ _ _) rfl
    exact bodyPost_ret (v := .tuple #[.agg #[.int .i64 0, .slice none 0 0, .int .i64 0, .bool false, .int .i64 0, .int .i64 0, .slice none 0 0], .bool false]) (by simp [results, Tryz.results24, go_sem, q0, q1, q2, q3, q4, q5, q6]) rfl ⟨_, _, by rw [unhide HT] <;> rfl, by rw [unhide HT]; exact ok5, by rw [unhide HT]; exact om5, b5⟩
  · have hT : Tr.new n ks d = (⟨n, ks, d, false, 0, 0, []⟩, true) := by unfold Tr.new; rw [hA]; rfl
    have HT := hide hT
    clear hT
    go_wp2_with fail
    refine (implCopyRoot_any _ n d _ ks (unhide H3).2.2.2).mono ?_
    rintro e w4 ⟨kv', rfl, ok4, b4⟩
    obtain ⟨ka', kc', e3⟩ := own_formS ok4
    subst e3
    have H4 := hide (And.intro ((unhide H3).1.trans (b4.mono (unhide H3).1.size)) (And.intro ((b4.block _ (heapLt (unhide H3).2.2.1)).trans (unhide H3).2.2.1) (own_base' ok4 (unhide H3).1.size)))
    clear b4 ok4 H3 x0 x1 x2
    obtain ⟨s0, s1, s2, s3, s4, s5, s6⟩ := frz7 (unhide H4).2.1
    obtain ⟨r0, r1, r2, r3, r4, r5, r6⟩ := box7 (unhide H4).2.1
    go_wp2
    obtain ⟨⟨q0, q1, q2, q3, q4, q5, q6⟩, ok5, om5, b5, _⟩ := finT (n := n) (d := d) (has := false) (num := 0) (til := 0) (mv := .slice none 0 0) (ms := []) (unhide H4).2.1 (Nat.le_succ _) (unhide H4).1 (unhide H4).2.2 (World.ownsRow_nil _ _ _ _) rfl
    exact bodyPost_ret (v := .tuple #[.agg #[.int .i64 n, .slice ka' ks.length kc', .int .i64 d, .bool false, .int .i64 0, .int .i64 0, .slice none 0 0], .bool true]) (by simp [results, Tryz.results24, go_sem, q0, q1, q2, q3, q4, q5, q6]) rfl ⟨_, _, by rw [unhide HT] <;> rfl, by rw [unhide HT]; exact ok5, by rw [unhide HT]; exact om5, b5⟩

end Go.Proofs.YtlnieobmhofkdaaGreatDoor
