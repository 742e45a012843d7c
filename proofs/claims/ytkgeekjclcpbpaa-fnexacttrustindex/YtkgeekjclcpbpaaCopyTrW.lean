/- What impl.copyOf, copyRoot, copyIndex and spec's l11RootCopy, l11IndexCopy return: the same, in a row of one's own; for every row. -/
import Derived.Test.YtkgeekjclcpbpaaAllW
import Derived.Test.YtkgeekjclcpbpaaTrustOkW
namespace Go.Proofs.Ytkgeekjclcpbpaa
open Go.RowKit

/-- A row of one's own: numbers; metas. -/
abbrev OwI (B : Nat) (w : World) (v : Value) (l : List Int) : Prop := w.ownsRow B 3 1 v l.length (l.map (Value.int .i64))
abbrev OwM (B : Nat) (w : World) (v : Value) (l : List Ix.M) : Prop := w.ownsRow B 122 3 v l.length (flat3 l)
theorem grown_none {w w' : World} {v : Value} (h : w.grownBy w' v.ownBlock) (hv : v.ownBlock = none) : Below w.heap.size w w' :=
  ⟨h.os, h.tape, h.output, h.size, fun k hk => h.block k hk (by rw [hv]; simp)⟩
theorem grown_new {W w w' : World} {v : Value} {g : Nat} (h : w.grownBy w' v.ownBlock) (hv : v.ownBlock = some g) (hb : Below W.heap.size W w) (hg : W.heap.size ≤ g) : Below W.heap.size W w' :=
  ⟨h.os.trans hb.os, h.tape.trans hb.tape, h.output.trans hb.output, Nat.le_trans hb.size h.size, fun k hk => (h.block k (by have := hb.size; omega) (by rw [hv]; simp; omega)).trans (hb.block k hk)⟩
theorem OwI.wide {B : Nat} {w : World} {v : Value} {l : List Int} (h : OwI B w v l) (hl : l.length ≤ 1048576) : Ins w v l := by
  rcases h.2 with ⟨hv, hn⟩ | ⟨g, cap, cur, hv, hb, hg, hc, hm, hs, ht⟩
  · exact ⟨none, 0, by rw [hv, hn], by omega, fun hp => by omega⟩
  · refine ⟨some ⟨g, 0, none⟩, cap, hv, by omega, fun _ => ⟨g, 0, rfl, heapLt hg, fun i hi => ?_⟩⟩
    rw [Nat.zero_add, cellOf hg]
    have hu : (l.map (Value.int .i64))[i]? = some (.int .i64 (Ky.nth l i)) := by rw [List.getElem?_map, List.getElem?_eq_getElem hi, Ky.nth_get l i hi]; rfl
    rw [← ht, List.getElem?_take] at hu
    split at hu
    · simpa using hu
    · cases hu
theorem empty_own {w : World} {g : Nat} {t : TypeId} {sz B : Nat} (h : w.heap[g]? = some (.cells #[] t (0, 0))) (hg : B ≤ g) : w.ownsRow B t sz (.slice (some ⟨g, 0, none⟩) 0 0) 0 [] :=
  ⟨by simp, .inr ⟨g, 0, #[], rfl, hg, h, Nat.le_refl _, by unfold maxLen; omega, by simp, by simp⟩⟩
theorem infoI' : (Try.prog.info? 3).map (fun i => (i.zero, i.size, i.bytes)) = some (some (.int .i64 0), 1, 8) := by kernel_rfl

theorem own_base' {w : World} {B B' sz n : Nat} {t : TypeId} {v : Value} {xs : List Value} (h : w.ownsRow B t sz v n xs) (hB : B' ≤ B) : w.ownsRow B' t sz v n xs := by
  refine ⟨h.1, ?_⟩
  rcases h.2 with hn | ⟨g, cap, cur, rfl, hb1, rest⟩
  · exact .inl hn
  · exact .inr ⟨g, cap, cur, rfl, Nat.le_trans hB hb1, rest⟩

set_option maxHeartbeats 1000000 in
set_option maxRecDepth 100000 in
theorem copyInts_any (w : World) (v : Value) (l : List Int) (h : Ins w v l) :
    Calls Try.prog 101 #[v] w fun e w' => ∃ v', e = .returned v' ∧ OwI w.heap.size w' v' l ∧ Below w.heap.size w w' := by
  obtain ⟨i0, hI0, hz0, hz1, hz2⟩ := info_parts infoI'
  obtain ⟨a, c, hv⟩ := h.slice
  subst hv
  have hlen : l.length ≤ 1000000000000 := by obtain ⟨_, _, _, h, _⟩ := h; exact h
  go_enter Try.func101, Try.ntmps101
  go_wp2_with (at_builtin; refine wpList_append_all _ rfl _ _ _ rfl w.heap.size 3 i0 _ 1 8 Try.underlying23 hI0 hz0 hz1 hz2 rfl (by omega) (.slice none 0 0) rfl (World.ownsRow_nil _ _ _ _) a l.length c (l.map (Value.int .i64)) rfl (by simp) (ins_news h) (int_cells l) (by unfold maxLen; omega) (by omega) (Nat.le_refl _) ?_; intro v' w1 hown hgrow)
  have HO := hide hown
  have HB := hide (grown_none hgrow rfl)
  clear hown hgrow h
  go_ret
  exact ⟨v', rfl, unhide HO, unhide HB⟩

set_option maxHeartbeats 1000000 in
set_option maxRecDepth 100000 in
theorem copyMetas_any (w : World) (v : Value) (l : List Ix.M) (h : Trs w v l) :
    Calls Try.prog 97 #[v] w fun e w' => ∃ v', e = .returned v' ∧ OwM w.heap.size w' v' l ∧ Below w.heap.size w w' := by
  obtain ⟨i0, hI0, hz0, hz1, hz2⟩ := info_parts infoMeta
  obtain ⟨a, c, hv⟩ := h.slice
  subst hv
  have hlen : l.length ≤ 1000000000000 := by obtain ⟨_, _, _, h, _⟩ := h; exact h
  go_enter Try.func97, Try.ntmps97
  go_wp2_with (at_builtin; refine wpList_append_all _ rfl _ _ _ rfl w.heap.size 122 i0 _ 3 24 Try.underlying26 hI0 hz0 hz1 hz2 rfl (by omega) (.slice none 0 0) rfl (World.ownsRow_nil _ _ _ _) a l.length c (flat3 l) rfl (flat3_cells l).1 (trs_news h) (flat3_cells l).2 (by unfold maxLen; omega) (by omega) (Nat.le_refl _) ?_; intro v' w1 hown hgrow)
  have HO := hide hown
  have HB := hide (grown_none hgrow rfl)
  clear hown hgrow h
  go_ret
  exact ⟨v', rfl, unhide HO, unhide HB⟩

set_option maxHeartbeats 1000000 in
set_option maxRecDepth 100000 in
theorem implCopyRoot_any (w : World) (n d : Int) (v : Value) (l : List Int) (h : Ins w v l) :
    Calls Try.prog 67 #[.agg #[.int .i64 n, v, .int .i64 d]] w fun e w' => ∃ v', e = .returned (.agg #[.int .i64 n, v', .int .i64 d]) ∧ OwI w.heap.size w' v' l ∧ Below w.heap.size w w' := by
  obtain ⟨a, c, hv⟩ := h.slice
  subst hv
  have B1 := below1 w (.cells #[.int .i64 n, .slice a l.length c, .int .i64 d] 25)
  have z1 := sz1' w (.cells #[.int .i64 n, .slice a l.length c, .int .i64 d] 25)
  have hb1 := heap_alloc_new w (.cells #[.int .i64 n, .slice a l.length c, .int .i64 d] 25)
  have key : ∀ W1 : World, Below w.heap.size w W1 → W1.heap.size = w.heap.size + 1 → W1.heap[w.heap.size]? = some (.cells #[.int .i64 n, .slice a l.length c, .int .i64 d] 25 (0, 0)) →
      Below w.heap.size w (W1.alloc (.cells #[.int .i64 0, .slice none 0 0, .int .i64 0] 25)) ∧ (W1.alloc (.cells #[.int .i64 0, .slice none 0 0, .int .i64 0] 25)).heap[w.heap.size]? = some (.cells #[.int .i64 n, .slice a l.length c, .int .i64 d] 25 (0, 0)) ∧ (W1.alloc (.cells #[.int .i64 0, .slice none 0 0, .int .i64 0] 25)).heap[w.heap.size + 1]? = some (.cells #[.int .i64 0, .slice none 0 0, .int .i64 0] 25 (0, 0)) := fun W1 hb hz hx =>
    ⟨hb.trans ((below1 _ _).mono hb.size), ((below1 W1 (.cells #[.int .i64 0, .slice none 0 0, .int .i64 0] 25)).block _ (heapLt hx)).trans hx, hz ▸ heap_alloc_new W1 _⟩
  obtain ⟨B2, hx2, hr2⟩ := key _ B1 z1 hb1
  have H2 := hide (And.intro B2 (And.intro hx2 hr2))
  have I2 := hide (h.later B2)
  clear key B1 z1 hb1 B2 hx2 hr2 h
  go_enter Try.func67, Try.ntmps67
  go_wp2_with fail
  refine (copyInts_any _ _ l (unhide I2)).mono ?_
  generalize World.alloc _ _ = W2 at *
  rintro e w3 ⟨v', rfl, ho3, hb3⟩
  have HO := hide (own_base' ho3 (unhide H2).1.size)
  have HB3 := hide ((unhide H2).1.trans (hb3.mono (unhide H2).1.size))
  have hBx := (hb3.block _ (heapLt (unhide H2).2.1)).trans (unhide H2).2.1
  have hRx := (hb3.block _ (heapLt (unhide H2).2.2)).trans (unhide H2).2.2
  have b0 := cellOf hBx 0
  have b1 := cellOf hBx 1
  have b2 := cellOf hBx 2
  have g0 := frozenOf hBx 1
  have r0 := cellOf hRx 0
  have r1 := cellOf hRx 1
  have r2 := cellOf hRx 2
  have s0 := frozenOf hRx 0
  have s1 := frozenOf hRx 1
  have s2 := frozenOf hRx 2
  clear ho3 hb3 I2 H2
  clear W2
  have hne : w.heap.size ≠ w.heap.size + 1 := by omega
  have hS1 := heapSet (o := 1) (v := v') hBx
  have hR1 : (w3.setCell ⟨w.heap.size, 1, none⟩ v').heap[w.heap.size + 1]? = _ := (Below.heap_setCell _ _ _ _ (by show w.heap.size + 1 ≠ w.heap.size; omega)).trans hRx
  have hO1 := own_set (o := 1) (u := v') (unhide HO) hBx (by decide)
  have hB1 := below_set (o := 1) (u := v') (unhide HB3) (Nat.le_refl _)
  have HF := hide (And.intro hR1 (And.intro hO1 hB1))
  clear hS1 hR1 hO1 hB1
  have HRX := hide hRx
  have HBX := hide hBx
  clear hRx hBx
  obtain ⟨va, vc, hv'⟩ := own_formS (unhide HO)
  subst hv'
  go_wp2
  obtain ⟨hR1, hO1, hB1⟩ := unhide HF
  have q := fin3 (a := .int .i64 n) (b := .slice va l.length vc) (c := .int .i64 d) (W := w) hR1 (by omega) hB1 rfl
  obtain ⟨⟨q0, q1, q2⟩, hbel, hfar⟩ := q
  exact bodyPost_ret (v := .agg #[.int .i64 n, .slice va l.length vc, .int .i64 d]) (by simp [results, Try.results67, go_sem, q0, q1, q2]) rfl ⟨_, rfl, own_keepS hO1 (fun g _ e _ hg => hfar g (fun e2 => own_ne hO1 hR1 (by decide) (by rw [e, e2]))), hbel⟩

set_option maxHeartbeats 1000000 in
set_option maxRecDepth 100000 in
theorem specCopyRoot_any (w : World) (n d : Int) (v : Value) (l : List Int) (h : Ins w v l) :
    Calls Try.prog 69 #[.agg #[.int .i64 n, v, .int .i64 d]] w fun e w' => ∃ v', e = .returned (.agg #[.int .i64 n, v', .int .i64 d]) ∧ OwI w.heap.size w' v' l ∧ Below w.heap.size w w' := by
  obtain ⟨i0, hI0, hz0, hz1, hz2⟩ := info_parts infoI'
  obtain ⟨a, c, hv⟩ := h.slice
  subst hv
  have hlen : l.length ≤ 1000000000000 := by obtain ⟨_, _, _, h, _⟩ := h; exact h
  have B1 := below1 w (.cells #[.int .i64 n, .slice a l.length c, .int .i64 d] 25)
  have z1 := sz1' w (.cells #[.int .i64 n, .slice a l.length c, .int .i64 d] 25)
  have hb1 := heap_alloc_new w (.cells #[.int .i64 n, .slice a l.length c, .int .i64 d] 25)
  have key : ∀ W1 : World, Below w.heap.size w W1 → W1.heap.size = w.heap.size + 1 → W1.heap[w.heap.size]? = some (.cells #[.int .i64 n, .slice a l.length c, .int .i64 d] 25 (0, 0)) →
      Below w.heap.size w ((W1.alloc (.cells #[.int .i64 0, .slice none 0 0, .int .i64 0] 25)).alloc (.cells #[] 3)) ∧ ((W1.alloc (.cells #[.int .i64 0, .slice none 0 0, .int .i64 0] 25)).alloc (.cells #[] 3)).heap[w.heap.size]? = some (.cells #[.int .i64 n, .slice a l.length c, .int .i64 d] 25 (0, 0)) ∧ ((W1.alloc (.cells #[.int .i64 0, .slice none 0 0, .int .i64 0] 25)).alloc (.cells #[] 3)).heap[w.heap.size + 1]? = some (.cells #[.int .i64 0, .slice none 0 0, .int .i64 0] 25 (0, 0)) ∧ ((W1.alloc (.cells #[.int .i64 0, .slice none 0 0, .int .i64 0] 25)).alloc (.cells #[] 3)).heap[w.heap.size + 1 + 1]? = some (.cells #[] 3 (0, 0)) := fun W1 hb hz hx => by
    have h1 := below1 W1 (.cells #[.int .i64 0, .slice none 0 0, .int .i64 0] 25)
    have h2 := below1 (W1.alloc (.cells #[.int .i64 0, .slice none 0 0, .int .i64 0] 25)) (.cells #[] 3)
    have hr := heap_alloc_new W1 (.cells #[.int .i64 0, .slice none 0 0, .int .i64 0] 25)
    have hq := heap_alloc_new (W1.alloc (.cells #[.int .i64 0, .slice none 0 0, .int .i64 0] 25)) (.cells #[] 3)
    rw [sz1', hz] at hq
    rw [hz] at hr
    have hb2 := hb.trans (h1.mono hb.size)
    exact ⟨hb2.trans (h2.mono hb2.size), (h2.block _ (by rw [sz1']; have := heapLt hx; omega)).trans ((h1.block _ (heapLt hx)).trans hx), (h2.block _ (heapLt hr)).trans hr, hq⟩
  obtain ⟨B2, hx2, hr2, hq2⟩ := key _ B1 z1 hb1
  have hO2 := empty_own (sz := 1) (B := w.heap.size) hq2 (by omega)
  have h := h.later B2
  have x0 := cellOf hx2 1
  have hlt2 := heapLt hx2
  have H2 := hide (And.intro B2 (And.intro hx2 hr2))
  have HO2 := hide hO2
  have hsz2 := B2.size
  have HSZ := hide hsz2
  clear key B1 z1 hb1 B2 hx2 hr2 hq2 hO2 hlt2 x0 hsz2
  have HI := hide h
  clear h
  go_enter Try.func69, Try.ntmps69
  go_wp2_with (at_builtin; refine wpList_append_all _ rfl _ _ _ rfl w.heap.size 3 i0 _ 1 8 Try.underlying23 hI0 hz0 hz1 hz2 rfl (by omega) (.slice (some ⟨w.heap.size + 1 + 1, 0, none⟩) 0 0) rfl (unhide HO2) a l.length c (l.map (Value.int .i64)) rfl (by simp) (ins_news (unhide HI)) (int_cells l) (by unfold maxLen; omega) (by omega) (unhide HSZ) ?_; intro v' w3 ho3 hg3; have hBx := (grown_other (unhide HO2) hg3 (unhide H2).2.1 (by decide)).trans (unhide H2).2.1; have hRx := (grown_other (unhide HO2) hg3 (unhide H2).2.2 (by decide)).trans (unhide H2).2.2; have b0 := cellOf hBx 0; have b1 := cellOf hBx 1; have b2 := cellOf hBx 2; have g0 := frozenOf hBx 1; have r0 := cellOf hRx 0; have r1 := cellOf hRx 1; have r2 := cellOf hRx 2; have s0 := frozenOf hRx 0; have s1 := frozenOf hRx 1; have s2 := frozenOf hRx 2; have HO := hide ho3; have HB3 := hide (grown_new (g := w.heap.size + 1 + 1) hg3 rfl (unhide H2).1 (by omega)); have hne : w.heap.size ≠ w.heap.size + 1 := (by omega); obtain ⟨va, vc, hv'⟩ := own_formS ho3; subst hv'; clear ho3 hg3)
  have hS1 := heapSet (o := 1) (v := .slice va l.length vc) hBx
  have hR1 : (w3.setCell ⟨w.heap.size, 1, none⟩ (.slice va l.length vc)).heap[w.heap.size + 1]? = _ := (Below.heap_setCell _ _ _ _ (by show w.heap.size + 1 ≠ w.heap.size; omega)).trans hRx
  have hO1 := own_set (o := 1) (u := .slice va l.length vc) (unhide HO) hBx (by decide)
  have hB1 := below_set (o := 1) (u := .slice va l.length vc) (unhide HB3) (Nat.le_refl _)
  have q := fin3 (a := .int .i64 n) (b := .slice va l.length vc) (c := .int .i64 d) (W := w) hR1 (by omega) hB1 rfl
  obtain ⟨⟨q0, q1, q2⟩, hbel, hfar⟩ := q
  exact bodyPost_ret (v := .agg #[.int .i64 n, .slice va l.length vc, .int .i64 d]) (by simp [results, Try.results69, go_sem, q0, q1, q2]) rfl ⟨_, rfl, own_keepS hO1 (fun g _ e _ hg => hfar g (fun e2 => own_ne hO1 hR1 (by decide) (by rw [e, e2]))), hbel⟩

set_option maxHeartbeats 1000000 in
set_option maxRecDepth 100000 in
theorem implCopyIndex_any (w : World) (n d : Int) (v : Value) (l : List Ix.M) (h : Trs w v l) :
    Calls Try.prog 54 #[.agg #[.int .i64 n, .int .i64 d, v]] w fun e w' => ∃ v', e = .returned (.agg #[.int .i64 n, .int .i64 d, v']) ∧ OwM w.heap.size w' v' l ∧ Below w.heap.size w w' := by
  obtain ⟨a, c, hv⟩ := h.slice
  subst hv
  have B1 := below1 w (.cells #[.int .i64 n, .int .i64 d, .slice a l.length c] 28)
  have z1 := sz1' w (.cells #[.int .i64 n, .int .i64 d, .slice a l.length c] 28)
  have hb1 := heap_alloc_new w (.cells #[.int .i64 n, .int .i64 d, .slice a l.length c] 28)
  have key : ∀ W1 : World, Below w.heap.size w W1 → W1.heap.size = w.heap.size + 1 → W1.heap[w.heap.size]? = some (.cells #[.int .i64 n, .int .i64 d, .slice a l.length c] 28 (0, 0)) →
      Below w.heap.size w (W1.alloc (.cells #[.int .i64 0, .int .i64 0, .slice none 0 0] 28)) ∧ (W1.alloc (.cells #[.int .i64 0, .int .i64 0, .slice none 0 0] 28)).heap[w.heap.size]? = some (.cells #[.int .i64 n, .int .i64 d, .slice a l.length c] 28 (0, 0)) ∧ (W1.alloc (.cells #[.int .i64 0, .int .i64 0, .slice none 0 0] 28)).heap[w.heap.size + 1]? = some (.cells #[.int .i64 0, .int .i64 0, .slice none 0 0] 28 (0, 0)) := fun W1 hb hz hx =>
    ⟨hb.trans ((below1 _ _).mono hb.size), ((below1 W1 (.cells #[.int .i64 0, .int .i64 0, .slice none 0 0] 28)).block _ (heapLt hx)).trans hx, hz ▸ heap_alloc_new W1 _⟩
  obtain ⟨B2, hx2, hr2⟩ := key _ B1 z1 hb1
  have H2 := hide (And.intro B2 (And.intro hx2 hr2))
  have I2 := hide (h.later B2)
  clear key B1 z1 hb1 B2 hx2 hr2 h
  go_enter Try.func54, Try.ntmps54
  go_wp2_with fail
  refine (copyMetas_any _ _ l (unhide I2)).mono ?_
  generalize World.alloc _ _ = W2 at *
  rintro e w3 ⟨v', rfl, ho3, hb3⟩
  have HO := hide (own_base' ho3 (unhide H2).1.size)
  have HB3 := hide ((unhide H2).1.trans (hb3.mono (unhide H2).1.size))
  have hBx := (hb3.block _ (heapLt (unhide H2).2.1)).trans (unhide H2).2.1
  have hRx := (hb3.block _ (heapLt (unhide H2).2.2)).trans (unhide H2).2.2
  have b0 := cellOf hBx 0
  have b1 := cellOf hBx 1
  have b2 := cellOf hBx 2
  have g0 := frozenOf hBx 2
  have r0 := cellOf hRx 0
  have r1 := cellOf hRx 1
  have r2 := cellOf hRx 2
  have s0 := frozenOf hRx 0
  have s1 := frozenOf hRx 1
  have s2 := frozenOf hRx 2
  clear ho3 hb3 I2 H2
  clear W2
  have hne : w.heap.size ≠ w.heap.size + 1 := by omega
  have hS1 := heapSet (o := 2) (v := v') hBx
  have hR1 : (w3.setCell ⟨w.heap.size, 2, none⟩ v').heap[w.heap.size + 1]? = _ := (Below.heap_setCell _ _ _ _ (by show w.heap.size + 1 ≠ w.heap.size; omega)).trans hRx
  have hO1 := own_set (o := 2) (u := v') (unhide HO) hBx (by decide)
  have hB1 := below_set (o := 2) (u := v') (unhide HB3) (Nat.le_refl _)
  have HF := hide (And.intro hR1 (And.intro hO1 hB1))
  clear hS1 hR1 hO1 hB1
  have HRX := hide hRx
  have HBX := hide hBx
  clear hRx hBx
  obtain ⟨va, vc, hv'⟩ := own_formS (unhide HO)
  subst hv'
  go_wp2
  obtain ⟨hR1, hO1, hB1⟩ := unhide HF
  have q := fin3 (a := .int .i64 n) (b := .int .i64 d) (c := .slice va l.length vc) (W := w) hR1 (by omega) hB1 rfl
  obtain ⟨⟨q0, q1, q2⟩, hbel, hfar⟩ := q
  exact bodyPost_ret (v := .agg #[.int .i64 n, .int .i64 d, .slice va l.length vc]) (by simp [results, Try.results54, go_sem, q0, q1, q2]) rfl ⟨_, rfl, own_keepS hO1 (fun g _ e _ hg => hfar g (fun e2 => own_ne hO1 hR1 (by decide) (by rw [e, e2]))), hbel⟩

set_option maxHeartbeats 1000000 in
set_option maxRecDepth 100000 in
theorem specCopyIndex_any (w : World) (n d : Int) (v : Value) (l : List Ix.M) (h : Trs w v l) :
    Calls Try.prog 90 #[.agg #[.int .i64 n, .int .i64 d, v]] w fun e w' => ∃ v', e = .returned (.agg #[.int .i64 n, .int .i64 d, v']) ∧ OwM w.heap.size w' v' l ∧ Below w.heap.size w w' := by
  obtain ⟨i0, hI0, hz0, hz1, hz2⟩ := info_parts infoMeta
  obtain ⟨a, c, hv⟩ := h.slice
  subst hv
  have hlen : l.length ≤ 1000000000000 := by obtain ⟨_, _, _, h, _⟩ := h; exact h
  have B1 := below1 w (.cells #[.int .i64 n, .int .i64 d, .slice a l.length c] 28)
  have z1 := sz1' w (.cells #[.int .i64 n, .int .i64 d, .slice a l.length c] 28)
  have hb1 := heap_alloc_new w (.cells #[.int .i64 n, .int .i64 d, .slice a l.length c] 28)
  have key : ∀ W1 : World, Below w.heap.size w W1 → W1.heap.size = w.heap.size + 1 → W1.heap[w.heap.size]? = some (.cells #[.int .i64 n, .int .i64 d, .slice a l.length c] 28 (0, 0)) →
      Below w.heap.size w ((W1.alloc (.cells #[.int .i64 0, .int .i64 0, .slice none 0 0] 28)).alloc (.cells #[] 122)) ∧ ((W1.alloc (.cells #[.int .i64 0, .int .i64 0, .slice none 0 0] 28)).alloc (.cells #[] 122)).heap[w.heap.size]? = some (.cells #[.int .i64 n, .int .i64 d, .slice a l.length c] 28 (0, 0)) ∧ ((W1.alloc (.cells #[.int .i64 0, .int .i64 0, .slice none 0 0] 28)).alloc (.cells #[] 122)).heap[w.heap.size + 1]? = some (.cells #[.int .i64 0, .int .i64 0, .slice none 0 0] 28 (0, 0)) ∧ ((W1.alloc (.cells #[.int .i64 0, .int .i64 0, .slice none 0 0] 28)).alloc (.cells #[] 122)).heap[w.heap.size + 1 + 1]? = some (.cells #[] 122 (0, 0)) := fun W1 hb hz hx => by
    have h1 := below1 W1 (.cells #[.int .i64 0, .int .i64 0, .slice none 0 0] 28)
    have h2 := below1 (W1.alloc (.cells #[.int .i64 0, .int .i64 0, .slice none 0 0] 28)) (.cells #[] 122)
    have hr := heap_alloc_new W1 (.cells #[.int .i64 0, .int .i64 0, .slice none 0 0] 28)
    have hq := heap_alloc_new (W1.alloc (.cells #[.int .i64 0, .int .i64 0, .slice none 0 0] 28)) (.cells #[] 122)
    rw [sz1', hz] at hq
    rw [hz] at hr
    have hb2 := hb.trans (h1.mono hb.size)
    exact ⟨hb2.trans (h2.mono hb2.size), (h2.block _ (by rw [sz1']; have := heapLt hx; omega)).trans ((h1.block _ (heapLt hx)).trans hx), (h2.block _ (heapLt hr)).trans hr, hq⟩
  obtain ⟨B2, hx2, hr2, hq2⟩ := key _ B1 z1 hb1
  have hO2 := empty_own (sz := 3) (B := w.heap.size) hq2 (by omega)
  have h := h.later B2
  have x0 := cellOf hx2 2
  have hlt2 := heapLt hx2
  have H2 := hide (And.intro B2 (And.intro hx2 hr2))
  have HO2 := hide hO2
  have hsz2 := B2.size
  have HSZ := hide hsz2
  clear key B1 z1 hb1 B2 hx2 hr2 hq2 hO2 hlt2 x0 hsz2
  have HI := hide h
  clear h
  go_enter Try.func90, Try.ntmps90
  go_wp2_with (at_builtin; refine wpList_append_all _ rfl _ _ _ rfl w.heap.size 122 i0 _ 3 24 Try.underlying26 hI0 hz0 hz1 hz2 rfl (by omega) (.slice (some ⟨w.heap.size + 1 + 1, 0, none⟩) 0 0) rfl (unhide HO2) a l.length c (flat3 l) rfl (flat3_cells l).1 (trs_news (unhide HI)) (flat3_cells l).2 (by unfold maxLen; omega) (by omega) (unhide HSZ) ?_; intro v' w3 ho3 hg3; have hBx := (grown_other (unhide HO2) hg3 (unhide H2).2.1 (by decide)).trans (unhide H2).2.1; have hRx := (grown_other (unhide HO2) hg3 (unhide H2).2.2 (by decide)).trans (unhide H2).2.2; have b0 := cellOf hBx 0; have b1 := cellOf hBx 1; have b2 := cellOf hBx 2; have g0 := frozenOf hBx 2; have r0 := cellOf hRx 0; have r1 := cellOf hRx 1; have r2 := cellOf hRx 2; have s0 := frozenOf hRx 0; have s1 := frozenOf hRx 1; have s2 := frozenOf hRx 2; have HO := hide ho3; have HB3 := hide (grown_new (g := w.heap.size + 1 + 1) hg3 rfl (unhide H2).1 (by omega)); have hne : w.heap.size ≠ w.heap.size + 1 := (by omega); obtain ⟨va, vc, hv'⟩ := own_formS ho3; subst hv'; clear ho3 hg3)
  have hS1 := heapSet (o := 2) (v := .slice va l.length vc) hBx
  have hR1 : (w3.setCell ⟨w.heap.size, 2, none⟩ (.slice va l.length vc)).heap[w.heap.size + 1]? = _ := (Below.heap_setCell _ _ _ _ (by show w.heap.size + 1 ≠ w.heap.size; omega)).trans hRx
  have hO1 := own_set (o := 2) (u := .slice va l.length vc) (unhide HO) hBx (by decide)
  have hB1 := below_set (o := 2) (u := .slice va l.length vc) (unhide HB3) (Nat.le_refl _)
  have q := fin3 (a := .int .i64 n) (b := .int .i64 d) (c := .slice va l.length vc) (W := w) hR1 (by omega) hB1 rfl
  obtain ⟨⟨q0, q1, q2⟩, hbel, hfar⟩ := q
  exact bodyPost_ret (v := .agg #[.int .i64 n, .int .i64 d, .slice va l.length vc]) (by simp [results, Try.results90, go_sem, q0, q1, q2]) rfl ⟨_, rfl, own_keepS hO1 (fun g _ e _ hg => hfar g (fun e2 => own_ne hO1 hR1 (by decide) (by rw [e, e2]))), hbel⟩
end Go.Proofs.Ytkgeekjclcpbpaa
