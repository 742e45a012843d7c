import Derived.Test.YtcdbgkdccflbgaaGreatDoorMathW
import Derived.Test.YtcdbgkdccflbgaaGreatDoorMix11
import Derived.Test.YtcdbgkdccflbgaaGreatDoorMix5
import Derived.Test.YtcdbgkdccflbgaaGreatDoorMix10
/- What spec's and impl's TrustOk and TrustFresh return; for every trust; nothing old is written. -/
namespace Go.Proofs.YtcdbgkdccflbgaaGreatDoor
open Go.RowKit

/-- Trust as a value. -/
abbrev tv (n d : Int) (kv : Value) (has : Bool) (num til : Int) (mv : Value) : Value := .agg #[.int .i64 n, kv, .int .i64 d, .bool has, .int .i64 num, .int .i64 til, mv]
/-- Trust in a box, and its rows. -/
structure Tb (w : World) (g : Nat) (n d : Int) (kv : Value) (ks : List Int) (has : Bool) (num til : Int) (mv : Value) (ms : List Ix.M) : Prop where
  lt : g < w.heap.size
  c0 : w.cell? ⟨g, 0, none⟩ = some (.int .i64 n)
  c1 : w.cell? ⟨g, 1, none⟩ = some kv
  c2 : w.cell? ⟨g, 2, none⟩ = some (.int .i64 d)
  c3 : w.cell? ⟨g, 3, none⟩ = some (.bool has)
  c4 : w.cell? ⟨g, 4, none⟩ = some (.int .i64 num)
  c5 : w.cell? ⟨g, 5, none⟩ = some (.int .i64 til)
  c6 : w.cell? ⟨g, 6, none⟩ = some mv
  ins : Ins w kv ks
  trs : Trs w mv ms
section
variable {w w' : World} {g : Nat} {n d num til : Int} {kv mv : Value} {ks : List Int} {has : Bool} {ms : List Ix.M}
theorem Tb.later (h : Tb w g n d kv ks has num til mv ms) (hb : Below w.heap.size w w') : Tb w' g n d kv ks has num til mv ms :=
  ⟨Nat.lt_of_lt_of_le h.lt hb.size, (hb.cell h.lt).trans h.c0, (hb.cell h.lt).trans h.c1, (hb.cell h.lt).trans h.c2, (hb.cell h.lt).trans h.c3, (hb.cell h.lt).trans h.c4, (hb.cell h.lt).trans h.c5, (hb.cell h.lt).trans h.c6, h.ins.later hb, h.trs.later hb⟩
theorem Tb.new (hk : Ins w kv ks) (hm : Trs w mv ms) (t : TypeId) : Tb (w.alloc (.cells #[.int .i64 n, kv, .int .i64 d, .bool has, .int .i64 num, .int .i64 til, mv] t)) w.heap.size n d kv ks has num til mv ms := by
  have e : ∀ i, (w.alloc (.cells #[.int .i64 n, kv, .int .i64 d, .bool has, .int .i64 num, .int .i64 til, mv] t)).cell? ⟨w.heap.size, i, none⟩ = (#[Value.int .i64 n, kv, .int .i64 d, .bool has, .int .i64 num, .int .i64 til, mv])[i]? := fun i => by rw [World.cell?_alloc_new]
  exact ⟨by rw [sz1']; omega, e 0, e 1, e 2, e 3, e 4, e 5, e 6, hk.later (below1 _ _), hm.later (below1 _ _)⟩
theorem Tb.cells (h : Tb w g n d kv ks has num til mv ms) : w.cell? ⟨g, 0, none⟩ = some (.int .i64 n) ∧ w.cell? ⟨g, 1, none⟩ = some kv ∧ w.cell? ⟨g, 2, none⟩ = some (.int .i64 d) ∧ w.cell? ⟨g, 3, none⟩ = some (.bool has) ∧ w.cell? ⟨g, 4, none⟩ = some (.int .i64 num) ∧ w.cell? ⟨g, 5, none⟩ = some (.int .i64 til) ∧ w.cell? ⟨g, 6, none⟩ = some mv := ⟨h.c0, h.c1, h.c2, h.c3, h.c4, h.c5, h.c6⟩
end
theorem len0 (l : List Ix.M) : ((l.length : Int) == 0) = decide (l = []) := by
  cases l with
  | nil => rfl
  | cons x l => rw [decide_eq_false (by simp)]; simp; omega

set_option maxHeartbeats 2000000 in
set_option maxRecDepth 100000 in
theorem specTrustOk_any (w : World) (n d : Int) (kv : Value) (ks : List Int) (has : Bool) (num til : Int) (mv : Value) (ms : List Ix.M) (hk : Ins w kv ks) (hm : Trs w mv ms) :
    Calls Tryz.prog 15 #[tv n d kv has num til mv] w fun e w' => e = .returned (.bool (Tr.ok n ks d has num til ms)) ∧ Below w.heap.size w w' := by
  obtain ⟨ka, kc, hkv⟩ := hk.slice
  obtain ⟨ma, mc, hmv⟩ := hm.slice
  subst hkv hmv
  have X0 := hide (Tb.new (n := n) (d := d) (has := has) (num := num) (til := til) hk hm 30)
  have B0 := hide (below1 w (.cells #[.int .i64 n, .slice ka ks.length kc, .int .i64 d, .bool has, .int .i64 num, .int .i64 til, .slice ma ms.length mc] 30))
  clear hk hm
  unfold tv
  go_enter Tryz.func15, Tryz.ntmps15
  go_wp2_with fail
  refine (specRootOk_any _ n d _ ks (unhide X0).ins).mono ?_
  generalize w.alloc _ = W0 at *
  rintro e w1 ⟨rfl, b1⟩
  have X1 := hide ((unhide X0).later b1)
  have B1 := hide ((unhide B0).trans (b1.mono (unhide B0).size))
  clear X0 B0 b1
  clear W0
  obtain ⟨c0, c1, c2, c3, c4, c5, c6⟩ := (unhide X1).cells
  cases hA : Ky.rootOk n ks d
  · go_wp2
    go_ret
    exact ⟨ret_bool (by simp [Tr.ok, hA]), unhide B1⟩
  cases has
  · by_cases h1 : num = 0
    · have h1' : (num == 0) = true := by simpa using h1
      have H1 := hide h1
      clear h1
      by_cases h2 : til = 0
      · have h2' : (til == 0) = true := by simpa using h2
        have H2 := hide h2
        clear h2
        go_wp2
        go_ret
        exact ⟨ret_bool (by simp only [Tr.ok, hA, Tr.noIdx, unhide H1, unhide H2]; simp; exact len0 _), unhide B1⟩
      · have h2' : (til == 0) = false := by simpa using h2
        have H2 := hide h2
        clear h2
        go_wp2
        go_ret
        exact ⟨ret_bool (by simp [Tr.ok, hA, Tr.noIdx, unhide H2]), unhide B1⟩
    · have h1' : (num == 0) = false := by simpa using h1
      have H1 := hide h1
      clear h1
      go_wp2
      go_ret
      exact ⟨ret_bool (by simp [Tr.ok, hA, Tr.noIdx, unhide H1]), unhide B1⟩
  · go_wp2_with fail
    refine (indexOk_any _ num til _ ms (unhide X1).trs).mono ?_
    rintro e w2 ⟨rfl, b2⟩
    have B2 := hide ((unhide B1).trans (b2.mono (unhide B1).size))
    clear b2
    go_wp2
    go_ret
    exact ⟨ret_bool (by simp [Tr.ok, hA]), unhide B2⟩

set_option maxHeartbeats 2000000 in
set_option maxRecDepth 100000 in
theorem isNoIndex_any (w : World) (num til : Int) (mv : Value) (ms : List Ix.M) (hm : Trs w mv ms) :
    Calls Tryz.prog 96 #[.agg #[.int .i64 num, .int .i64 til, mv]] w fun e w' => e = .returned (.bool (Tr.noIdx num til ms)) ∧ Below w.heap.size w w' := by
  obtain ⟨ma, mc, hmv⟩ := hm.slice
  subst hmv
  have B0 := hide (below1 w (.cells #[.int .i64 num, .int .i64 til, .slice ma ms.length mc] 28))
  by_cases h1 : num = 0
  · have h1' : (num == 0) = true := by simpa using h1
    have H1 := hide h1
    clear h1
    by_cases h2 : til = 0
    · have h2' : (til == 0) = true := by simpa using h2
      have H2 := hide h2
      clear h2
      go_enter Tryz.func96, Tryz.ntmps96
      go_wp2
      go_ret
      exact ⟨ret_bool (by simp only [Tr.noIdx, unhide H1, unhide H2]; simp; exact len0 _), unhide B0⟩
    · have h2' : (til == 0) = false := by simpa using h2
      have H2 := hide h2
      clear h2
      go_enter Tryz.func96, Tryz.ntmps96
      go_wp2
      go_ret
      exact ⟨ret_bool (by simp [Tr.noIdx, unhide H2]), unhide B0⟩
  · have h1' : (num == 0) = false := by simpa using h1
    have H1 := hide h1
    clear h1
    go_enter Tryz.func96, Tryz.ntmps96
    go_wp2
    go_ret
    exact ⟨ret_bool (by simp [Tr.noIdx, unhide H1]), unhide B0⟩

set_option maxHeartbeats 2000000 in
set_option maxRecDepth 100000 in
theorem implTrustOk_any (w : World) (n d : Int) (kv : Value) (ks : List Int) (has : Bool) (num til : Int) (mv : Value) (ms : List Ix.M) (hk : Ins w kv ks) (hm : Trs w mv ms) :
    Calls Tryz.prog 47 #[tv n d kv has num til mv] w fun e w' => e = .returned (.bool (Tr.ok n ks d has num til ms)) ∧ Below w.heap.size w w' := by
  obtain ⟨ka, kc, hkv⟩ := hk.slice
  obtain ⟨ma, mc, hmv⟩ := hm.slice
  subst hkv hmv
  have X0 := hide (Tb.new (n := n) (d := d) (has := has) (num := num) (til := til) hk hm 30)
  have B0 := hide (below1 w (.cells #[.int .i64 n, .slice ka ks.length kc, .int .i64 d, .bool has, .int .i64 num, .int .i64 til, .slice ma ms.length mc] 30))
  clear hk hm
  unfold tv
  cases hA : Ky.rootOk n ks d
  · cases has
    all_goals
      go_enter Tryz.func47, Tryz.ntmps47
      go_wp2_with fail
      refine (implRootOk_b _ n d _ ks hA (unhide X0).ins).mono ?_
      generalize w.alloc _ = W0 at *
      rintro e w1 ⟨rfl, b1⟩
      have B1 := hide ((unhide B0).trans (b1.mono (unhide B0).size))
      clear X0 B0 b1
      go_wp2
      go_ret
      exact ⟨ret_bool (by simp [Tr.ok, hA]), unhide B1⟩
  cases has
  · go_enter Tryz.func47, Tryz.ntmps47
    go_wp2_with fail
    refine (implRootOk_b _ n d _ ks hA (unhide X0).ins).mono ?_
    generalize w.alloc _ = W0 at *
    rintro e w1 ⟨rfl, b1⟩
    have X1 := hide ((unhide X0).later b1)
    have B1 := hide ((unhide B0).trans (b1.mono (unhide B0).size))
    clear X0 B0 b1
    obtain ⟨c0, c1, c2, c3, c4, c5, c6⟩ := (unhide X1).cells
    go_wp2_with fail
    refine (isNoIndex_any _ num til _ ms (unhide X1).trs).mono ?_
    rintro e w2 ⟨rfl, b2⟩
    have B2 := hide ((unhide B1).trans (b2.mono (unhide B1).size))
    clear b2
    go_wp2
    go_ret
    exact ⟨ret_bool (by simp [Tr.ok, hA]), unhide B2⟩
  · go_enter Tryz.func47, Tryz.ntmps47
    go_wp2_with fail
    refine (implRootOk_b _ n d _ ks hA (unhide X0).ins).mono ?_
    generalize w.alloc _ = W0 at *
    rintro e w1 ⟨rfl, b1⟩
    have X1 := hide ((unhide X0).later b1)
    have B1 := hide ((unhide B0).trans (b1.mono (unhide B0).size))
    clear X0 B0 b1
    obtain ⟨c0, c1, c2, c3, c4, c5, c6⟩ := (unhide X1).cells
    go_wp2_with fail
    refine (implIndexOk_any _ num til _ ms (unhide X1).trs).mono ?_
    rintro e w2 ⟨rfl, b2⟩
    have B2 := hide ((unhide B1).trans (b2.mono (unhide B1).size))
    clear b2
    go_wp2
    go_ret
    exact ⟨ret_bool (by simp [Tr.ok, hA]), unhide B2⟩
end Go.Proofs.YtcdbgkdccflbgaaGreatDoor

/- What impl.copyOf, copyRoot, copyIndex and spec's l11RootCopy, l11IndexCopy return: the same, in a row of one's own; for every row. -/
namespace Go.Proofs.YtcdbgkdccflbgaaGreatDoor
open Go.RowKit

/-- A row of one's own: numbers; metas. -/
abbrev OwI (B : Nat) (w : World) (v : Value) (l : List Int) : Prop := w.ownsRow B 3 1 v l.length (l.map (Value.int .i64))
abbrev OwM (B : Nat) (w : World) (v : Value) (l : List Ix.M) : Prop := w.ownsRow B 56 3 v l.length (flat3 l)
theorem grown_none {w w' : World} {v : Value} (h : w.grownBy w' v.ownBlock) (hv : v.ownBlock = none) : Below w.heap.size w w' :=
  ⟨h.os, h.tape, h.output, h.size, fun k hk => h.block k hk (by rw [hv]; simp)⟩
theorem grown_new {W w w' : World} {v : Value} {g : Nat} (h : w.grownBy w' v.ownBlock) (hv : v.ownBlock = some g) (hb : Below W.heap.size W w) (hg : W.heap.size ≤ g) : Below W.heap.size W w' :=
  ⟨h.os.trans hb.os, h.tape.trans hb.tape, h.output.trans hb.output, Nat.le_trans hb.size h.size, fun k hk => (h.block k (by have := hb.size; omega) (by rw [hv]; simp; omega)).trans (hb.block k hk)⟩
theorem OwI.wide {B : Nat} {w : World} {v : Value} {l : List Int} (h : OwI B w v l) (hl : l.length ≤ 1048576) : Ins w v l := by
  rcases h.2 with ⟨hv, hn⟩ | ⟨g, cap, cur, hv, hb, hg, hc, hm, hs, ht⟩
  · exact ⟨none, 0, by rw [hv, hn], by omega, fun hp => by omega⟩
  · refine ⟨some ⟨g, 0, none⟩, cap, hv, by omega, fun _ => ⟨g, 0, rfl, heapLt hg, fun i hi => ?_⟩⟩
    rw [Nat.zero_add, cellOf hg]
    have hu : (l.map (Value.int .i64))[i]? = some (.int .i64 (Ky.nth l i)) := by rw [List.getElem?_map, List.getElem?_eq_getElem hi, Ky.nth_get l i hi]; rfl
    rw [← ht, List.getElem?_take] at hu
    split at hu
    · simpa using hu
    · cases hu
theorem empty_own {w : World} {g : Nat} {t : TypeId} {sz B : Nat} (h : w.heap[g]? = some (.cells #[] t (0, 0))) (hg : B ≤ g) : w.ownsRow B t sz (.slice (some ⟨g, 0, none⟩) 0 0) 0 [] :=
  ⟨by simp, .inr ⟨g, 0, #[], rfl, hg, h, Nat.le_refl _, by unfold maxLen; omega, by simp, by simp⟩⟩
theorem infoI' : (Tryz.prog.info? 3).map (fun i => (i.zero, i.size, i.bytes)) = some (some (.int .i64 0), 1, 8) := by kernel_rfl

theorem own_base' {w : World} {B B' sz n : Nat} {t : TypeId} {v : Value} {xs : List Value} (h : w.ownsRow B t sz v n xs) (hB : B' ≤ B) : w.ownsRow B' t sz v n xs := by
  refine ⟨h.1, ?_⟩
  rcases h.2 with hn | ⟨g, cap, cur, rfl, hb1, rest⟩
  · exact .inl hn
  · exact .inr ⟨g, cap, cur, rfl, Nat.le_trans hB hb1, rest⟩

set_option maxHeartbeats 1000000 in
set_option maxRecDepth 100000 in
theorem copyInts_any (w : World) (v : Value) (l : List Int) (h : Ins w v l) :
    Calls Tryz.prog 119 #[v] w fun e w' => ∃ v', e = .returned v' ∧ OwI w.heap.size w' v' l ∧ Below w.heap.size w w' := by
  obtain ⟨i0, hI0, hz0, hz1, hz2⟩ := info_parts infoI'
  obtain ⟨a, c, hv⟩ := h.slice
  subst hv
  have hlen : l.length ≤ 1000000000000 := by obtain ⟨_, _, _, h, _⟩ := h; exact h
  go_enter Tryz.func119, Tryz.ntmps119
  go_wp2_with (at_builtin; refine wpList_append_all _ rfl _ _ _ rfl w.heap.size 3 i0 _ 1 8 Tryz.underlying23 hI0 hz0 hz1 hz2 rfl (by omega) (.slice none 0 0) rfl (World.ownsRow_nil _ _ _ _) a l.length c (l.map (Value.int .i64)) rfl (by simp) (ins_news h) (int_cells l) (by unfold maxLen; omega) (by omega) (Nat.le_refl _) ?_; intro v' w1 hown hgrow)
  have HO := hide hown
  have HB := hide (grown_none hgrow rfl)
  clear hown hgrow h
  go_ret
  exact ⟨v', rfl, unhide HO, unhide HB⟩

set_option maxHeartbeats 1000000 in
set_option maxRecDepth 100000 in
theorem implCopyRoot_any (w : World) (n d : Int) (v : Value) (l : List Int) (h : Ins w v l) :
    Calls Tryz.prog 70 #[.agg #[.int .i64 n, v, .int .i64 d]] w fun e w' => ∃ v', e = .returned (.agg #[.int .i64 n, v', .int .i64 d]) ∧ OwI w.heap.size w' v' l ∧ Below w.heap.size w w' := by
  obtain ⟨a, c, hv⟩ := h.slice
  subst hv
  have B1 := below1 w (.cells #[.int .i64 n, .slice a l.length c, .int .i64 d] 25)
  have z1 := sz1' w (.cells #[.int .i64 n, .slice a l.length c, .int .i64 d] 25)
  have hb1 := heap_alloc_new w (.cells #[.int .i64 n, .slice a l.length c, .int .i64 d] 25)
  have key : ∀ W1 : World, Below w.heap.size w W1 → W1.heap.size = w.heap.size + 1 → W1.heap[w.heap.size]? = some (.cells #[.int .i64 n, .slice a l.length c, .int .i64 d] 25 (0, 0)) →
      Below w.heap.size w (W1.alloc (.cells #[.int .i64 0, .slice none 0 0, .int .i64 0] 25)) ∧ (W1.alloc (.cells #[.int .i64 0, .slice none 0 0, .int .i64 0] 25)).heap[w.heap.size]? = some (.cells #[.int .i64 n, .slice a l.length c, .int .i64 d] 25 (0, 0)) ∧ (W1.alloc (.cells #[.int .i64 0, .slice none 0 0, .int .i64 0] 25)).heap[w.heap.size + 1]? = some (.cells #[.int .i64 0, .slice none 0 0, .int .i64 0] 25 (0, 0)) := fun W1 hb hz hx =>
    ⟨hb.trans ((below1 _ _).mono hb.size), ((below1 W1 (.cells #[.int .i64 0, .slice none 0 0, .int .i64 0] 25)).block _ (heapLt hx)).trans hx, hz ▸ heap_alloc_new W1 _⟩
  obtain ⟨B2, hx2, hr2⟩ := key _ B1 z1 hb1
  have H2 := hide (And.intro B2 (And.intro hx2 hr2))
  have I2 := hide (h.later B2)
  clear key B1 z1 hb1 B2 hx2 hr2 h
  go_enter Tryz.func70, Tryz.ntmps70
  go_wp2_with fail
  refine (copyInts_any _ _ l (unhide I2)).mono ?_
  generalize World.alloc _ _ = W2 at *
  rintro e w3 ⟨v', rfl, ho3, hb3⟩
  have HO := hide (own_base' ho3 (unhide H2).1.size)
  have HB3 := hide ((unhide H2).1.trans (hb3.mono (unhide H2).1.size))
  have hBx := (hb3.block _ (heapLt (unhide H2).2.1)).trans (unhide H2).2.1
  have hRx := (hb3.block _ (heapLt (unhide H2).2.2)).trans (unhide H2).2.2
  have b0 := cellOf hBx 0
  have b1 := cellOf hBx 1
  have b2 := cellOf hBx 2
  have g0 := frozenOf hBx 1
  have r0 := cellOf hRx 0
  have r1 := cellOf hRx 1
  have r2 := cellOf hRx 2
  have s0 := frozenOf hRx 0
  have s1 := frozenOf hRx 1
  have s2 := frozenOf hRx 2
  clear ho3 hb3 I2 H2
  clear W2
  have hne : w.heap.size ≠ w.heap.size + 1 := by omega
  have hS1 := heapSet (o := 1) (v := v') hBx
  have hR1 : (w3.setCell ⟨w.heap.size, 1, none⟩ v').heap[w.heap.size + 1]? = _ := (Below.heap_setCell _ _ _ _ (by show w.heap.size + 1 ≠ w.heap.size; omega)).trans hRx
  have hO1 := own_set (o := 1) (u := v') (unhide HO) hBx (by decide)
  have hB1 := below_set (o := 1) (u := v') (unhide HB3) (Nat.le_refl _)
  have HF := hide (And.intro hR1 (And.intro hO1 hB1))
  clear hS1 hR1 hO1 hB1
  have HRX := hide hRx
  have HBX := hide hBx
  clear hRx hBx
  obtain ⟨va, vc, hv'⟩ := own_formS (unhide HO)
  subst hv'
  go_wp2
  obtain ⟨hR1, hO1, hB1⟩ := unhide HF
  have q := fin3 (a := .int .i64 n) (b := .slice va l.length vc) (c := .int .i64 d) (W := w) hR1 (by omega) hB1 rfl
  obtain ⟨⟨q0, q1, q2⟩, hbel, hfar⟩ := q
  exact bodyPost_ret (v := .agg #[.int .i64 n, .slice va l.length vc, .int .i64 d]) (by simp [results, Tryz.results70, go_sem, q0, q1, q2]) rfl ⟨_, rfl, own_keepS hO1 (fun g _ e _ hg => hfar g (fun e2 => own_ne hO1 hR1 (by decide) (by rw [e, e2]))), hbel⟩

end Go.Proofs.YtcdbgkdccflbgaaGreatDoor
