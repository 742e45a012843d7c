import Derived.Test.YtlnieobmhofkdaaGreatDoorMathW
import Derived.Test.YtlnieobmhofkdaaGreatDoorMix11
import Derived.Test.YtlnieobmhofkdaaGreatDoorMix5
import Derived.Test.YtlnieobmhofkdaaGreatDoorMix10
import Derived.Test.YtlnieobmhofkdaaGreatDoorPksW
import Derived.Test.YtlnieobmhofkdaaGreatDoorMix4
/- What spec's and impl's TrustOk and TrustFresh return; for every trust; nothing old is written. -/
namespace Go.Proofs.YtlnieobmhofkdaaGreatDoor
open Go.RowKit

/-- Trust as a value. -/
abbrev tv (n d : Int) (kv : Value) (has : Bool) (num til : Int) (mv : Value) : Value := .agg #[.int .i64 n, kv, .int .i64 d, .bool has, .int .i64 num, .int .i64 til, mv]
/-- Trust in a box, and its rows. -/
structure Tb (w : World) (g : Nat) (n d : Int) (kv : Value) (ks : List Int) (has : Bool) (num til : Int) (mv : Value) (ms : List Ix.M) : Prop where
  lt : g < w.heap.size
  c0 : w.cell? ⟨g, 0, none⟩ = some (.int .i64 n)
  c1 : w.cell? ⟨g, 1, none⟩ = some kv
  c2 : w.cell? ⟨g, 2, none⟩ = some (.int .i64 d)
  c3 : w.cell? ⟨g, 3, none⟩ = some (.bool has)
  c4 : w.cell? ⟨g, 4, none⟩ = some (.int .i64 num)
  c5 : w.cell? ⟨g, 5, none⟩ = some (.int .i64 til)
  c6 : w.cell? ⟨g, 6, none⟩ = some mv
  ins : Ins w kv ks
  trs : Trs w mv ms
section
variable {w w' : World} {g : Nat} {n d num til : Int} {kv mv : Value} {ks : List Int} {has : Bool} {ms : List Ix.M}
theorem Tb.later (h : Tb w g n d kv ks has num til mv ms) (hb : Below w.heap.size w w') : Tb w' g n d kv ks has num til mv ms :=
  ⟨Nat.lt_of_lt_of_le h.lt hb.size, (hb.cell h.lt).trans h.c0, (hb.cell h.lt).trans h.c1, (hb.cell h.lt).trans h.c2, (hb.cell h.lt).trans h.c3, (hb.cell h.lt).trans h.c4, (hb.cell h.lt).trans h.c5, (hb.cell h.lt).trans h.c6, h.ins.later hb, h.trs.later hb⟩
theorem Tb.new (hk : Ins w kv ks) (hm : Trs w mv ms) (t : TypeId) : Tb (w.alloc (.cells #[.int .i64 n, kv, .int .i64 d, .bool has, .int .i64 num, .int .i64 til, mv] t)) w.heap.size n d kv ks has num til mv ms := by
  have e : ∀ i, (w.alloc (.cells #[.int .i64 n, kv, .int .i64 d, .bool has, .int .i64 num, .int .i64 til, mv] t)).cell? ⟨w.heap.size, i, none⟩ = (#[Value.int .i64 n, kv, .int .i64 d, .bool has, .int .i64 num, .int .i64 til, mv])[i]? := fun i => by rw [World.cell?_alloc_new]
  exact ⟨by rw [sz1']; omega, e 0, e 1, e 2, e 3, e 4, e 5, e 6, hk.later (below1 _ _), hm.later (below1 _ _)⟩
theorem Tb.cells (h : Tb w g n d kv ks has num til mv ms) : w.cell? ⟨g, 0, none⟩ = some (.int .i64 n) ∧ w.cell? ⟨g, 1, none⟩ = some kv ∧ w.cell? ⟨g, 2, none⟩ = some (.int .i64 d) ∧ w.cell? ⟨g, 3, none⟩ = some (.bool has) ∧ w.cell? ⟨g, 4, none⟩ = some (.int .i64 num) ∧ w.cell? ⟨g, 5, none⟩ = some (.int .i64 til) ∧ w.cell? ⟨g, 6, none⟩ = some mv := ⟨h.c0, h.c1, h.c2, h.c3, h.c4, h.c5, h.c6⟩
end
theorem len0 (l : List Ix.M) : ((l.length : Int) == 0) = decide (l = []) := by
  cases l with
  | nil => rfl
  | cons x l => rw [decide_eq_false (by simp)]; simp; omega

set_option maxHeartbeats 2000000 in
set_option maxRecDepth 100000 in
theorem specTrustOk_any (w : World) (n d : Int) (kv : Value) (ks : List Int) (has : Bool) (num til : Int) (mv : Value) (ms : List Ix.M) (hk : Ins w kv ks) (hm : Trs w mv ms) :
    Calls Tryz.prog 13 #[tv n d kv has num til mv] w fun e w' => e = .returned (.bool (Tr.ok n ks d has num til ms)) ∧ Below w.heap.size w w' := by
  obtain ⟨ka, kc, hkv⟩ := hk.slice
  obtain ⟨ma, mc, hmv⟩ := hm.slice
  subst hkv hmv
  have X0 := hide (Tb.new (n := n) (d := d) (has := has) (num := num) (til := til) hk hm 30)
  have B0 := hide (below1 w (.cells #[.int .i64 n, .slice ka ks.length kc, .int .i64 d, .bool has, .int .i64 num, .int .i64 til, .slice ma ms.length mc] 30))
  clear hk hm
  unfold tv
  go_enter Tryz.func13, Tryz.ntmps13
  go_wp2_with fail
  refine (specRootOk_any _ n d _ ks (unhide X0).ins).mono ?_
  generalize w.alloc _ = W0 at *
  rintro e w1 ⟨rfl, b1⟩
  have X1 := hide ((unhide X0).later b1)
  have B1 := hide ((unhide B0).trans (b1.mono (unhide B0).size))
  clear X0 B0 b1
  clear W0
  obtain ⟨c0, c1, c2, c3, c4, c5, c6⟩ := (unhide X1).cells
  cases hA : Ky.rootOk n ks d
  · go_wp2
    go_ret
    exact ⟨ret_bool (by simp [Tr.ok, hA]), unhide B1⟩
  cases has
  · by_cases h1 : num = 0
    · have h1' : (num == 0) = true := by simpa using h1
      have H1 := hide h1
      clear h1
      by_cases h2 : til = 0
      · have h2' : (til == 0) = true := by simpa using h2
        have H2 := hide h2
        clear h2
        go_wp2
        go_ret
        exact ⟨ret_bool (by simp only [Tr.ok, hA, Tr.noIdx, unhide H1, unhide H2]; simp; exact len0 _), unhide B1⟩
      · have h2' : (til == 0) = false := by simpa using h2
        have H2 := hide h2
        clear h2
        go_wp2
        go_ret
        exact ⟨ret_bool (by simp [Tr.ok, hA, Tr.noIdx, unhide H2]), unhide B1⟩
    · have h1' : (num == 0) = false := by simpa using h1
      have H1 := hide h1
      clear h1
      go_wp2
      go_ret
      exact ⟨ret_bool (by simp [Tr.ok, hA, Tr.noIdx, unhide H1]), unhide B1⟩
  · go_wp2_with fail
    refine (indexOk_any _ num til _ ms (unhide X1).trs).mono ?_
    rintro e w2 ⟨rfl, b2⟩
    have B2 := hide ((unhide B1).trans (b2.mono (unhide B1).size))
    clear b2
    go_wp2
    go_ret
    exact ⟨ret_bool (by simp [Tr.ok, hA]), unhide B2⟩

set_option maxHeartbeats 2000000 in
set_option maxRecDepth 100000 in
theorem isNoIndex_any (w : World) (num til : Int) (mv : Value) (ms : List Ix.M) (hm : Trs w mv ms) :
    Calls Tryz.prog 92 #[.agg #[.int .i64 num, .int .i64 til, mv]] w fun e w' => e = .returned (.bool (Tr.noIdx num til ms)) ∧ Below w.heap.size w w' := by
  obtain ⟨ma, mc, hmv⟩ := hm.slice
  subst hmv
  have B0 := hide (below1 w (.cells #[.int .i64 num, .int .i64 til, .slice ma ms.length mc] 28))
  by_cases h1 : num = 0
  · have h1' : (num == 0) = true := by simpa using h1
    have H1 := hide h1
    clear h1
    by_cases h2 : til = 0
    · have h2' : (til == 0) = true := by simpa using h2
      have H2 := hide h2
      clear h2
      go_enter Tryz.func92, Tryz.ntmps92
      go_wp2
      go_ret
      exact ⟨ret_bool (by simp only [Tr.noIdx, unhide H1, unhide H2]; simp; exact len0 _), unhide B0⟩
    · have h2' : (til == 0) = false := by simpa using h2
      have H2 := hide h2
      clear h2
      go_enter Tryz.func92, Tryz.ntmps92
      go_wp2
      go_ret
      exact ⟨ret_bool (by simp [Tr.noIdx, unhide H2]), unhide B0⟩
  · have h1' : (num == 0) = false := by simpa using h1
    have H1 := hide h1
    clear h1
    go_enter Tryz.func92, Tryz.ntmps92
    go_wp2
    go_ret
    exact ⟨ret_bool (by simp [Tr.noIdx, unhide H1]), unhide B0⟩

set_option maxHeartbeats 2000000 in
set_option maxRecDepth 100000 in
theorem implTrustOk_any (w : World) (n d : Int) (kv : Value) (ks : List Int) (has : Bool) (num til : Int) (mv : Value) (ms : List Ix.M) (hk : Ins w kv ks) (hm : Trs w mv ms) :
    Calls Tryz.prog 42 #[tv n d kv has num til mv] w fun e w' => e = .returned (.bool (Tr.ok n ks d has num til ms)) ∧ Below w.heap.size w w' := by
  obtain ⟨ka, kc, hkv⟩ := hk.slice
  obtain ⟨ma, mc, hmv⟩ := hm.slice
  subst hkv hmv
  have X0 := hide (Tb.new (n := n) (d := d) (has := has) (num := num) (til := til) hk hm 30)
  have B0 := hide (below1 w (.cells #[.int .i64 n, .slice ka ks.length kc, .int .i64 d, .bool has, .int .i64 num, .int .i64 til, .slice ma ms.length mc] 30))
  clear hk hm
  unfold tv
  cases hA : Ky.rootOk n ks d
  · cases has
    all_goals
      go_enter Tryz.func42, Tryz.ntmps42
      go_wp2_with fail
      refine (implRootOk_b _ n d _ ks hA (unhide X0).ins).mono ?_
      generalize w.alloc _ = W0 at *
      rintro e w1 ⟨rfl, b1⟩
      have B1 := hide ((unhide B0).trans (b1.mono (unhide B0).size))
      clear X0 B0 b1
      go_wp2
      go_ret
      exact ⟨ret_bool (by simp [Tr.ok, hA]), unhide B1⟩
  cases has
  · go_enter Tryz.func42, Tryz.ntmps42
    go_wp2_with fail
    refine (implRootOk_b _ n d _ ks hA (unhide X0).ins).mono ?_
    generalize w.alloc _ = W0 at *
    rintro e w1 ⟨rfl, b1⟩
    have X1 := hide ((unhide X0).later b1)
    have B1 := hide ((unhide B0).trans (b1.mono (unhide B0).size))
    clear X0 B0 b1
    obtain ⟨c0, c1, c2, c3, c4, c5, c6⟩ := (unhide X1).cells
    go_wp2_with fail
    refine (isNoIndex_any _ num til _ ms (unhide X1).trs).mono ?_
    rintro e w2 ⟨rfl, b2⟩
    have B2 := hide ((unhide B1).trans (b2.mono (unhide B1).size))
    clear b2
    go_wp2
    go_ret
    exact ⟨ret_bool (by simp [Tr.ok, hA]), unhide B2⟩
  · go_enter Tryz.func42, Tryz.ntmps42
    go_wp2_with fail
    refine (implRootOk_b _ n d _ ks hA (unhide X0).ins).mono ?_
    generalize w.alloc _ = W0 at *
    rintro e w1 ⟨rfl, b1⟩
    have X1 := hide ((unhide X0).later b1)
    have B1 := hide ((unhide B0).trans (b1.mono (unhide B0).size))
    clear X0 B0 b1
    obtain ⟨c0, c1, c2, c3, c4, c5, c6⟩ := (unhide X1).cells
    go_wp2_with fail
    refine (implIndexOk_any _ num til _ ms (unhide X1).trs).mono ?_
    rintro e w2 ⟨rfl, b2⟩
    have B2 := hide ((unhide B1).trans (b2.mono (unhide B1).size))
    clear b2
    go_wp2
    go_ret
    exact ⟨ret_bool (by simp [Tr.ok, hA]), unhide B2⟩
end Go.Proofs.YtlnieobmhofkdaaGreatDoor

/- What impl.copyOf, copyRoot, copyIndex and spec's l11RootCopy, l11IndexCopy return: the same, in a row of one's own; for every row. -/
namespace Go.Proofs.YtlnieobmhofkdaaGreatDoor
open Go.RowKit

/-- A row of one's own: numbers; metas. -/
abbrev OwI (B : Nat) (w : World) (v : Value) (l : List Int) : Prop := w.ownsRow B 3 1 v l.length (l.map (Value.int .i64))
abbrev OwM (B : Nat) (w : World) (v : Value) (l : List Ix.M) : Prop := w.ownsRow B 55 3 v l.length (flat3 l)
theorem grown_none {w w' : World} {v : Value} (h : w.grownBy w' v.ownBlock) (hv : v.ownBlock = none) : Below w.heap.size w w' :=
  ⟨h.os, h.tape, h.output, h.size, fun k hk => h.block k hk (by rw [hv]; simp)⟩
theorem grown_new {W w w' : World} {v : Value} {g : Nat} (h : w.grownBy w' v.ownBlock) (hv : v.ownBlock = some g) (hb : Below W.heap.size W w) (hg : W.heap.size ≤ g) : Below W.heap.size W w' :=
  ⟨h.os.trans hb.os, h.tape.trans hb.tape, h.output.trans hb.output, Nat.le_trans hb.size h.size, fun k hk => (h.block k (by have := hb.size; omega) (by rw [hv]; simp; omega)).trans (hb.block k hk)⟩
theorem OwI.wide {B : Nat} {w : World} {v : Value} {l : List Int} (h : OwI B w v l) (hl : l.length ≤ 1048576) : Ins w v l := by
  rcases h.2 with ⟨hv, hn⟩ | ⟨g, cap, cur, hv, hb, hg, hc, hm, hs, ht⟩
  · exact ⟨none, 0, by rw [hv, hn], by omega, fun hp => by omega⟩
  · refine ⟨some ⟨g, 0, none⟩, cap, hv, by omega, fun _ => ⟨g, 0, rfl, heapLt hg, fun i hi => ?_⟩⟩
    rw [Nat.zero_add, cellOf hg]
    have hu : (l.map (Value.int .i64))[i]? = some (.int .i64 (Ky.nth l i)) := by rw [List.getElem?_map, List.getElem?_eq_getElem hi, Ky.nth_get l i hi]; rfl
    rw [← ht, List.getElem?_take] at hu
    split at hu
    · simpa using hu
    · cases hu
theorem empty_own {w : World} {g : Nat} {t : TypeId} {sz B : Nat} (h : w.heap[g]? = some (.cells #[] t (0, 0))) (hg : B ≤ g) : w.ownsRow B t sz (.slice (some ⟨g, 0, none⟩) 0 0) 0 [] :=
  ⟨by simp, .inr ⟨g, 0, #[], rfl, hg, h, Nat.le_refl _, by unfold maxLen; omega, by simp, by simp⟩⟩
theorem infoI' : (Tryz.prog.info? 3).map (fun i => (i.zero, i.size, i.bytes)) = some (some (.int .i64 0), 1, 8) := by kernel_rfl

theorem own_base' {w : World} {B B' sz n : Nat} {t : TypeId} {v : Value} {xs : List Value} (h : w.ownsRow B t sz v n xs) (hB : B' ≤ B) : w.ownsRow B' t sz v n xs := by
  refine ⟨h.1, ?_⟩
  rcases h.2 with hn | ⟨g, cap, cur, rfl, hb1, rest⟩
  · exact .inl hn
  · exact .inr ⟨g, cap, cur, rfl, Nat.le_trans hB hb1, rest⟩

set_option maxHeartbeats 1000000 in
set_option maxRecDepth 100000 in
theorem copyInts_any (w : World) (v : Value) (l : List Int) (h : Ins w v l) :
    Calls Tryz.prog 115 #[v] w fun e w' => ∃ v', e = .returned v' ∧ OwI w.heap.size w' v' l ∧ Below w.heap.size w w' := by
  obtain ⟨i0, hI0, hz0, hz1, hz2⟩ := info_parts infoI'
  obtain ⟨a, c, hv⟩ := h.slice
  subst hv
  have hlen : l.length ≤ 1000000000000 := by obtain ⟨_, _, _, h, _⟩ := h; exact h
  go_enter Tryz.func115, Tryz.ntmps115
  go_wp2_with (at_builtin; refine wpList_append_all _ rfl _ _ _ rfl w.heap.size 3 i0 _ 1 8 Tryz.underlying23 hI0 hz0 hz1 hz2 rfl (by omega) (.slice none 0 0) rfl (World.ownsRow_nil _ _ _ _) a l.length c (l.map (Value.int .i64)) rfl (by simp) (ins_news h) (int_cells l) (by unfold maxLen; omega) (by omega) (Nat.le_refl _) ?_; intro v' w1 hown hgrow)
  have HO := hide hown
  have HB := hide (grown_none hgrow rfl)
  clear hown hgrow h
  go_ret
  exact ⟨v', rfl, unhide HO, unhide HB⟩

set_option maxHeartbeats 1000000 in
set_option maxRecDepth 100000 in
theorem implCopyRoot_any (w : World) (n d : Int) (v : Value) (l : List Int) (h : Ins w v l) :
    Calls Tryz.prog 64 #[.agg #[.int .i64 n, v, .int .i64 d]] w fun e w' => ∃ v', e = .returned (.agg #[.int .i64 n, v', .int .i64 d]) ∧ OwI w.heap.size w' v' l ∧ Below w.heap.size w w' := by
  obtain ⟨a, c, hv⟩ := h.slice
  subst hv
  have B1 := below1 w (.cells #[.int .i64 n, .slice a l.length c, .int .i64 d] 25)
  have z1 := sz1' w (.cells #[.int .i64 n, .slice a l.length c, .int .i64 d] 25)
  have hb1 := heap_alloc_new w (.cells #[.int .i64 n, .slice a l.length c, .int .i64 d] 25)
  have key : ∀ W1 : World, Below w.heap.size w W1 → W1.heap.size = w.heap.size + 1 → W1.heap[w.heap.size]? = some (.cells #[.int .i64 n, .slice a l.length c, .int .i64 d] 25 (0, 0)) →
      Below w.heap.size w (W1.alloc (.cells #[.int .i64 0, .slice none 0 0, .int .i64 0] 25)) ∧ (W1.alloc (.cells #[.int .i64 0, .slice none 0 0, .int .i64 0] 25)).heap[w.heap.size]? = some (.cells #[.int .i64 n, .slice a l.length c, .int .i64 d] 25 (0, 0)) ∧ (W1.alloc (.cells #[.int .i64 0, .slice none 0 0, .int .i64 0] 25)).heap[w.heap.size + 1]? = some (.cells #[.int .i64 0, .slice none 0 0, .int .i64 0] 25 (0, 0)) := fun W1 hb hz hx =>
    ⟨hb.trans ((below1 _ _).mono hb.size), ((below1 W1 (.cells #[.int .i64 0, .slice none 0 0, .int .i64 0] 25)).block _ (heapLt hx)).trans hx, hz ▸ heap_alloc_new W1 _⟩
  obtain ⟨B2, hx2, hr2⟩ := key _ B1 z1 hb1
  have H2 := hide (And.intro B2 (And.intro hx2 hr2))
  have I2 := hide (h.later B2)
  clear key B1 z1 hb1 B2 hx2 hr2 h
  go_enter Tryz.func64, Tryz.ntmps64
  go_wp2_with fail
  refine (copyInts_any _ _ l (unhide I2)).mono ?_
  generalize World.alloc _ _ = W2 at *
  rintro e w3 ⟨v', rfl, ho3, hb3⟩
  have HO := hide (own_base' ho3 (unhide H2).1.size)
  have HB3 := hide ((unhide H2).1.trans (hb3.mono (unhide H2).1.size))
  have hBx := (hb3.block _ (heapLt (unhide H2).2.1)).trans (unhide H2).2.1
  have hRx := (hb3.block _ (heapLt (unhide H2).2.2)).trans (unhide H2).2.2
  have b0 := cellOf hBx 0
  have b1 := cellOf hBx 1
  have b2 := cellOf hBx 2
  have g0 := frozenOf hBx 1
  have r0 := cellOf hRx 0
  have r1 := cellOf hRx 1
  have r2 := cellOf hRx 2
  have s0 := frozenOf hRx 0
  have s1 := frozenOf hRx 1
  have s2 := frozenOf hRx 2
  clear ho3 hb3 I2 H2
  clear W2
  have hne : w.heap.size ≠ w.heap.size + 1 := by omega
  have hS1 := heapSet (o := 1) (v := v') hBx
  have hR1 : (w3.setCell ⟨w.heap.size, 1, none⟩ v').heap[w.heap.size + 1]? = _ := (Below.heap_setCell _ _ _ _ (by show w.heap.size + 1 ≠ w.heap.size; omega)).trans hRx
  have hO1 := own_set (o := 1) (u := v') (unhide HO) hBx (by decide)
  have hB1 := below_set (o := 1) (u := v') (unhide HB3) (Nat.le_refl _)
  have HF := hide (And.intro hR1 (And.intro hO1 hB1))
  clear hS1 hR1 hO1 hB1
  have HRX := hide hRx
  have HBX := hide hBx
  clear hRx hBx
  obtain ⟨va, vc, hv'⟩ := own_formS (unhide HO)
  subst hv'
  go_wp2
  obtain ⟨hR1, hO1, hB1⟩ := unhide HF
  have q := fin3 (a := .int .i64 n) (b := .slice va l.length vc) (c := .int .i64 d) (W := w) hR1 (by omega) hB1 rfl
  obtain ⟨⟨q0, q1, q2⟩, hbel, hfar⟩ := q
  exact bodyPost_ret (v := .agg #[.int .i64 n, .slice va l.length vc, .int .i64 d]) (by simp [results, Tryz.results64, go_sem, q0, q1, q2]) rfl ⟨_, rfl, own_keepS hO1 (fun g _ e _ hg => hfar g (fun e2 => own_ne hO1 hR1 (by decide) (by rw [e, e2]))), hbel⟩

end Go.Proofs.YtlnieobmhofkdaaGreatDoor

/- What impl.copyPkg and spec.l12PkgCopy return: the same package, in rows of its own; for every package. -/
namespace Go.Proofs.YtlnieobmhofkdaaGreatDoor
open Go.RowKit

/-- Pairs as cells, out of a row that can be read. -/
theorem prs_news {w : World} {a : Option Addr} {c : Nat} {l : List (Int × Int)} (h : Prs w (.slice a l.length c) l) : 0 < l.length → ∃ ad, a = some ad ∧ ∀ j u, (flat l)[j]? = some u → w.cell? (ad.add j) = some u := by
  intro hp
  obtain ⟨a', c', e, _, hr⟩ := h
  injection e with e _ _
  subst e
  obtain ⟨b, off, rfl, _, hc⟩ := hr hp
  refine ⟨_, rfl, fun j u hu => ?_⟩
  have hfl : (flat l).length = l.length * 2 := by
    have : ∀ l : List (Int × Int), (flat l).length = l.length * 2 := fun l => by
      induction l with
      | nil => rfl
      | cons x l ih => show (flat l).length + 1 + 1 = _; rw [ih, List.length_cons]; omega
    exact this l
  have hj : j < l.length * 2 := by
    rcases Nat.lt_or_ge j (flat l).length with h | h
    · omega
    · rw [List.getElem?_eq_none h] at hu; cases hu
  obtain ⟨h0, h1⟩ := flat_at l (j / 2) (by omega)
  obtain ⟨c0, c1⟩ := hc (j / 2) (by omega)
  have hm : j % 2 = 0 ∨ j % 2 = 1 := by omega
  have hadd : (⟨b, off, none⟩ : Addr).add j = ⟨b, off + j, none⟩ := by unfold Addr.add; split <;> simp_all
  rw [hadd]
  rcases hm with h | h
  · have ej : j = j / 2 * 2 := by omega
    rw [ej] at hu ⊢
    rw [h0] at hu
    rw [← hu]; exact c0
  · have ej : j = j / 2 * 2 + 1 := by omega
    rw [ej] at hu ⊢
    rw [h1] at hu
    rw [← hu, ← Nat.add_assoc]; exact c1
theorem flat_cells (l : List (Int × Int)) : (flat l).length = l.length * 2 ∧ ∀ u ∈ flat l, u.oneCell' = true := by
  induction l with
  | nil => exact ⟨rfl, fun u hu => by cases hu⟩
  | cons x l ih =>
    refine ⟨?_, fun u hu => ?_⟩
    · show (flat l).length + 1 + 1 = _; rw [ih.1, List.length_cons]; omega
    · have : u ∈ Value.int .i64 x.1 :: Value.int .i64 x.2 :: flat l := hu
      simp only [List.mem_cons] at this
      rcases this with rfl | rfl | h
      · rfl
      · rfl
      · exact ih.2 u h
theorem emptyD {w W : World} {z : Nat} (hz : z = W.heap.size) (hb : Below w.heap.size w W) : Below w.heap.size w (W.alloc (.cells #[] 134)) ∧ (W.alloc (.cells #[] 134)).ownsRow w.heap.size 134 2 (.slice (some ⟨z, 0, none⟩) 0 0) 0 [] ∧ ∀ (k : Nat) (o : Obj), W.heap[k]? = some o → (W.alloc (.cells #[] 134)).heap[k]? = some o := by
  subst hz
  exact ⟨hb.trans ((below1 W _).mono hb.size), empty_own (heap_alloc_new W _) hb.size, fun k o h => ((below1 W _).block k (heapLt h)).trans h⟩
theorem Prs.keep2 {w w' : World} {v : Value} {l : List (Int × Int)} (h : Prs w v l) (hb : Below w.heap.size w w') : Prs w' v l := h.later hb
theorem fin4 {W w w' : World} {R : Nat} {a b c d r0 r1 r2 r3 : Value} {t : TypeId} (hR : w.heap[R]? = some (.cells #[r0, r1, r2, r3] t (0, 0))) (lR : W.heap.size ≤ R) (hb : Below W.heap.size W w)
    (hw : w' = (((w.setCell ⟨R, 0, none⟩ a).setCell ⟨R, 1, none⟩ b).setCell ⟨R, 2, none⟩ c).setCell ⟨R, 3, none⟩ d) :
    (w'.cell? ⟨R, 0, none⟩ = some a ∧ w'.cell? ⟨R, 1, none⟩ = some b ∧ w'.cell? ⟨R, 2, none⟩ = some c ∧ w'.cell? ⟨R, 3, none⟩ = some d) ∧ Below W.heap.size W w' ∧ ∀ g, g ≠ R → w'.heap[g]? = w.heap[g]? := by
  have h' : w'.heap[R]? = some (.cells #[a, b, c, d] t (0, 0)) := by rw [hw, heapSet (heapSet (heapSet (heapSet hR)))]; rfl
  refine ⟨⟨cellOf h' 0, cellOf h' 1, cellOf h' 2, cellOf h' 3⟩, ?_, fun g hg => ?_⟩
  · rw [hw]; exact below_set (below_set (below_set (below_set hb lR) lR) lR) lR
  · rw [hw, Below.heap_setCell _ _ _ _ hg, Below.heap_setCell _ _ _ _ hg, Below.heap_setCell _ _ _ _ hg, Below.heap_setCell _ _ _ _ hg]
/-- A package's rows, its own. -/
structure OwP (B : Nat) (w : World) (fv dv : Value) (fs ds : List (Int × Int)) : Prop where
  f : w.ownsRow B 132 2 fv fs.length (flat fs)
  d : w.ownsRow B 134 2 dv ds.length (flat ds)
theorem OwP.later {B : Nat} {w w' : World} {fv dv : Value} {fs ds : List (Int × Int)} (h : OwP B w fv dv fs ds) (hb : Below w.heap.size w w') : OwP B w' fv dv fs ds := ⟨own_later h.f hb, own_later h.d hb⟩
theorem OwP.base {B B' : Nat} {w : World} {fv dv : Value} {fs ds : List (Int × Int)} (h : OwP B w fv dv fs ds) (hB : B' ≤ B) : OwP B' w fv dv fs ds := ⟨own_base' h.f hB, own_base' h.d hB⟩
theorem OwP.zero (B : Nat) (w : World) : OwP B w (.slice none 0 0) (.slice none 0 0) [] [] := ⟨World.ownsRow_nil _ _ _ _, World.ownsRow_nil _ _ _ _⟩
theorem OwP.forms {B : Nat} {w : World} {fv dv : Value} {fs ds : List (Int × Int)} (h : OwP B w fv dv fs ds) : ∃ fa fc da dc, fv = .slice fa fs.length fc ∧ dv = .slice da ds.length dc := by
  obtain ⟨fa, fc, h1⟩ := own_formS h.f
  obtain ⟨da, dc, h2⟩ := own_formS h.d
  exact ⟨fa, fc, da, dc, h1, h2⟩

set_option maxHeartbeats 1000000 in
set_option maxRecDepth 100000 in
theorem copyFiles_any (w : World) (v : Value) (l : List (Int × Int)) (h : Prs w v l) :
    Calls Tryz.prog 134 #[v] w fun e w' => ∃ v', e = .returned v' ∧ w'.ownsRow w.heap.size 132 2 v' l.length (flat l) ∧ Below w.heap.size w w' := by
  obtain ⟨i0, hI0, hz0, hz1, hz2⟩ := info_parts infoFile
  obtain ⟨a, c, hv⟩ := h.slice
  subst hv
  have hlen : l.length ≤ 1000000000000 := by obtain ⟨_, _, _, h, _⟩ := h; exact h
  go_enter Tryz.func134, Tryz.ntmps134
  go_wp2_with (at_builtin; refine wpList_append_all _ rfl _ _ _ rfl w.heap.size 132 i0 _ 2 16 Tryz.underlying39 hI0 hz0 hz1 hz2 rfl (by omega) (.slice none 0 0) rfl (World.ownsRow_nil _ _ _ _) a l.length c (flat l) rfl (flat_cells l).1 (prs_news h) (flat_cells l).2 (by unfold maxLen; omega) (by omega) (Nat.le_refl _) ?_; intro v' w1 hown hgrow)
  have HO := hide hown
  have HB := hide (grown_none hgrow rfl)
  clear hown hgrow h
  go_ret
  exact ⟨v', rfl, unhide HO, unhide HB⟩

set_option maxHeartbeats 1000000 in
set_option maxRecDepth 100000 in
theorem copyDeps_any (w : World) (v : Value) (l : List (Int × Int)) (h : Prs w v l) :
    Calls Tryz.prog 135 #[v] w fun e w' => ∃ v', e = .returned v' ∧ w'.ownsRow w.heap.size 134 2 v' l.length (flat l) ∧ Below w.heap.size w w' := by
  obtain ⟨i0, hI0, hz0, hz1, hz2⟩ := info_parts infoDep
  obtain ⟨a, c, hv⟩ := h.slice
  subst hv
  have hlen : l.length ≤ 1000000000000 := by obtain ⟨_, _, _, h, _⟩ := h; exact h
  go_enter Tryz.func135, Tryz.ntmps135
  go_wp2_with (at_builtin; refine wpList_append_all _ rfl _ _ _ rfl w.heap.size 134 i0 _ 2 16 Tryz.underlying40 hI0 hz0 hz1 hz2 rfl (by omega) (.slice none 0 0) rfl (World.ownsRow_nil _ _ _ _) a l.length c (flat l) rfl (flat_cells l).1 (prs_news h) (flat_cells l).2 (by unfold maxLen; omega) (by omega) (Nat.le_refl _) ?_; intro v' w1 hown hgrow)
  have HO := hide hown
  have HB := hide (grown_none hgrow rfl)
  clear hown hgrow h
  go_ret
  exact ⟨v', rfl, unhide HO, unhide HB⟩

set_option maxHeartbeats 2000000 in
set_option maxRecDepth 100000 in
theorem implCopyPkg_any (w : World) (n r : Int) (fv dv : Value) (fs ds : List (Int × Int)) (hf : Prs w fv fs) (hd : Prs w dv ds) :
    Calls Tryz.prog 93 #[.agg #[.int .i64 n, .int .i64 r, fv, dv]] w fun e w' => ∃ fv' dv', e = .returned (.agg #[.int .i64 n, .int .i64 r, fv', dv']) ∧ OwP w.heap.size w' fv' dv' fs ds ∧ Below w.heap.size w w' := by
  obtain ⟨fa, fc, hfv⟩ := hf.slice
  obtain ⟨da, dc, hdv⟩ := hd.slice
  subst hfv hdv
  have B1 := below1 w (.cells #[.int .i64 n, .int .i64 r, .slice fa fs.length fc, .slice da ds.length dc] 42)
  have hx1 := heap_alloc_new w (.cells #[.int .i64 n, .int .i64 r, .slice fa fs.length fc, .slice da ds.length dc] 42)
  have z1 := sz1' w (.cells #[.int .i64 n, .int .i64 r, .slice fa fs.length fc, .slice da ds.length dc] 42)
  have b2 := below1 (w.alloc (.cells #[.int .i64 n, .int .i64 r, .slice fa fs.length fc, .slice da ds.length dc] 42)) (.cells #[.int .i64 0, .int .i64 0, .slice none 0 0, .slice none 0 0] 42)
  have B2 := B1.trans (b2.mono B1.size)
  have hx2 := (b2.block _ (heapLt hx1)).trans hx1
  have hr2 := heap_alloc_new (w.alloc (.cells #[.int .i64 n, .int .i64 r, .slice fa fs.length fc, .slice da ds.length dc] 42)) (.cells #[.int .i64 0, .int .i64 0, .slice none 0 0, .slice none 0 0] 42)
  rw [z1] at hr2
  have H2 := hide (And.intro B2 (And.intro hx2 hr2))
  have I2 := hide (hf.later B2)
  have HD := hide hd
  clear B1 b2 z1 hx1 B2 hx2 hr2 hf hd
  go_enter Tryz.func93, Tryz.ntmps93
  go_wp2_with fail
  refine (copyFiles_any _ _ fs (unhide I2)).mono ?_
  generalize World.alloc _ _ = W2 at *
  rintro e w3 ⟨v', rfl, ho3, hb3⟩
  obtain ⟨va, vc, hv'⟩ := own_formS ho3
  subst hv'
  have hBx := (hb3.block _ (heapLt (unhide H2).2.1)).trans (unhide H2).2.1
  have hRx := (hb3.block _ (heapLt (unhide H2).2.2)).trans (unhide H2).2.2
  have hB3 := (unhide H2).1.trans (hb3.mono (unhide H2).1.size)
  have b0 := cellOf hBx 2
  have g0 := frozenOf hBx 2
  have b3 := cellOf hBx 3
  have hB4 := below_set (o := 2) (u := .slice va fs.length vc) hB3 (Nat.le_refl _)
  have H4 := hide (And.intro (own_set (o := 2) (u := .slice va fs.length vc) (own_base' ho3 (unhide H2).1.size) hBx (by decide)) (And.intro (heapSet (o := 2) (v := .slice va fs.length vc) hBx) (And.intro ((Below.heap_setCell w3 ⟨w.heap.size, 2, none⟩ (.slice va fs.length vc) (w.heap.size + 1) (by show w.heap.size + 1 ≠ w.heap.size; omega)).trans hRx) hB4)))
  have D4 := hide ((unhide HD).keep2 hB4)
  clear ho3 hb3 hBx hRx hB3 hB4 H2 I2
  clear W2
  go_wp2_with fail
  refine (copyDeps_any _ _ ds (unhide D4)).mono ?_
  generalize World.setCell _ _ _ = W4 at *
  clear b0 g0 b3
  rintro e w5 ⟨v', rfl, ho5, hb5⟩
  obtain ⟨ua, uc, hv'⟩ := own_formS ho5
  subst hv'
  obtain ⟨hf4, hx4, hr4, hB4⟩ := unhide H4
  have hx5 := (hb5.block _ (heapLt hx4)).trans hx4
  have hr5 := (hb5.block _ (heapLt hr4)).trans hr4
  have hf5 := own_later hf4 hb5
  have hd5 := own_base' ho5 hB4.size
  have hB5 := hB4.trans (hb5.mono hB4.size)
  have c0 := cellOf hx5 0
  have c1 := cellOf hx5 1
  have c2 := cellOf hx5 2
  have c3 := cellOf hx5 3
  have k3 := frozenOf hx5 3
  have r0 := cellOf hr5 0
  have r1 := cellOf hr5 1
  have r2 := cellOf hr5 2
  have r3 := cellOf hr5 3
  have s0 := frozenOf hr5 0
  have s1 := frozenOf hr5 1
  have s2 := frozenOf hr5 2
  have s3 := frozenOf hr5 3
  have hne : w.heap.size ≠ w.heap.size + 1 := by omega
  have HZ := hide (And.intro (own_set (o := 3) (u := .slice ua ds.length uc) hf5 hx5 (by decide)) (And.intro (own_set (o := 3) (u := .slice ua ds.length uc) hd5 hx5 (by decide)) (And.intro ((Below.heap_setCell w5 ⟨w.heap.size, 3, none⟩ (.slice ua ds.length uc) (w.heap.size + 1) (by show w.heap.size + 1 ≠ w.heap.size; omega)).trans hr5) (below_set (o := 3) (u := .slice ua ds.length uc) hB5 (Nat.le_refl _)))))
  clear ho5 hb5 hx5 hr5 hf5 hd5 hB5 H4 hf4 hx4 hr4 hB4 D4 HD
  clear W4
  go_wp2
  obtain ⟨hF, hD, hR, hB⟩ := unhide HZ
  obtain ⟨⟨q0, q1, q2, q3⟩, hbel, hfar⟩ := fin4 (a := .int .i64 n) (b := .int .i64 r) (c := .slice va fs.length vc) (d := .slice ua ds.length uc) (W := w) hR (by omega) hB rfl
  exact bodyPost_ret (v := .agg #[.int .i64 n, .int .i64 r, .slice va fs.length vc, .slice ua ds.length uc]) (by simp [results, Tryz.results93, go_sem, q0, q1, q2, q3]) rfl ⟨_, _, rfl, ⟨own_keepS hF (fun g _ e _ hg => hfar g (fun e2 => own_ne hF hR (by decide) (by rw [e, e2]))), own_keepS hD (fun g _ e _ hg => hfar g (fun e2 => own_ne hD hR (by decide) (by rw [e, e2])))⟩, hbel⟩

set_option maxHeartbeats 4000000 in
set_option maxRecDepth 100000 in
theorem specCopyPkg_any (w : World) (n r : Int) (fv dv : Value) (fs ds : List (Int × Int)) (hf : Prs w fv fs) (hd : Prs w dv ds) :
    Calls Tryz.prog 91 #[.agg #[.int .i64 n, .int .i64 r, fv, dv]] w fun e w' => ∃ fv' dv', e = .returned (.agg #[.int .i64 n, .int .i64 r, fv', dv']) ∧ OwP w.heap.size w' fv' dv' fs ds ∧ Below w.heap.size w w' := by
  obtain ⟨i0, hI0, hz0, hz1, hz2⟩ := info_parts infoFile
  obtain ⟨i1, hI1, hy0, hy1, hy2⟩ := info_parts infoDep
  obtain ⟨fa, fc, hfv⟩ := hf.slice
  obtain ⟨da, dc, hdv⟩ := hd.slice
  subst hfv hdv
  have hlf : fs.length ≤ 1000000000000 := by obtain ⟨_, _, _, h, _⟩ := hf; exact h
  have hld : ds.length ≤ 1000000000000 := by obtain ⟨_, _, _, h, _⟩ := hd; exact h
  have B1 := below1 w (.cells #[.int .i64 n, .int .i64 r, .slice fa fs.length fc, .slice da ds.length dc] 42)
  have hx1 := heap_alloc_new w (.cells #[.int .i64 n, .int .i64 r, .slice fa fs.length fc, .slice da ds.length dc] 42)
  have z1 := sz1' w (.cells #[.int .i64 n, .int .i64 r, .slice fa fs.length fc, .slice da ds.length dc] 42)
  have b2 := below1 (w.alloc (.cells #[.int .i64 n, .int .i64 r, .slice fa fs.length fc, .slice da ds.length dc] 42)) (.cells #[.int .i64 0, .int .i64 0, .slice none 0 0, .slice none 0 0] 42)
  have B2 := B1.trans (b2.mono B1.size)
  have hx2 := (b2.block _ (heapLt hx1)).trans hx1
  have hr2 := heap_alloc_new (w.alloc (.cells #[.int .i64 n, .int .i64 r, .slice fa fs.length fc, .slice da ds.length dc] 42)) (.cells #[.int .i64 0, .int .i64 0, .slice none 0 0, .slice none 0 0] 42)
  have z2 := sz1' (w.alloc (.cells #[.int .i64 n, .int .i64 r, .slice fa fs.length fc, .slice da ds.length dc] 42)) (.cells #[.int .i64 0, .int .i64 0, .slice none 0 0, .slice none 0 0] 42)
  rw [z1] at hr2 z2
  have b3 := below1 ((w.alloc (.cells #[.int .i64 n, .int .i64 r, .slice fa fs.length fc, .slice da ds.length dc] 42)).alloc (.cells #[.int .i64 0, .int .i64 0, .slice none 0 0, .slice none 0 0] 42)) (.cells #[] 132)
  have he3 := heap_alloc_new ((w.alloc (.cells #[.int .i64 n, .int .i64 r, .slice fa fs.length fc, .slice da ds.length dc] 42)).alloc (.cells #[.int .i64 0, .int .i64 0, .slice none 0 0, .slice none 0 0] 42)) (.cells #[] 132)
  rw [z2] at he3
  have B3 := B2.trans (b3.mono B2.size)
  have hO3 := empty_own (sz := 2) (B := w.heap.size) he3 (by omega)
  have H3 := hide (And.intro B3 (And.intro ((b3.block _ (heapLt hx2)).trans hx2) (And.intro ((b3.block _ (heapLt hr2)).trans hr2) hO3)))
  have I3 := hide (hf.later B3)
  have HD := hide hd
  clear B1 b2 z1 z2 hx1 B2 hx2 hr2 hf hd b3 he3 B3 hO3
  go_enter Tryz.func91, Tryz.ntmps91
  go_wp2_with (first | (at_builtin; refine wpList_append_all _ rfl _ _ _ rfl w.heap.size 132 i0 _ 2 16 Tryz.underlying39 hI0 hz0 hz1 hz2 rfl (by omega) (.slice (some ⟨w.heap.size + 1 + 1, 0, none⟩) 0 0) rfl (unhide H3).2.2.2 fa fs.length fc (flat fs) rfl (flat_cells fs).1 (prs_news (unhide I3)) (flat_cells fs).2 (by unfold maxLen; omega) (by omega) (unhide H3).1.size ?_; intro v' w3 ho3 hg3; have hBx := (grown_other (unhide H3).2.2.2 hg3 (unhide H3).2.1 (by decide)).trans (unhide H3).2.1; have hRx := (grown_other (unhide H3).2.2.2 hg3 (unhide H3).2.2.1 (by decide)).trans (unhide H3).2.2.1; have hB3 := grown_new (g := w.heap.size + 1 + 1) hg3 rfl (unhide H3).1 (by omega); have b0 := cellOf hBx 2; have g0 := frozenOf hBx 2; have b3 := cellOf hBx 3; have hlt3 := heapLt hBx; obtain ⟨va, vc, hv'⟩ := own_formS ho3; subst hv'; have hB4 := below_set (o := 2) (u := .slice va fs.length vc) hB3 (Nat.le_refl _); have hE := emptyD (z := w3.heap.size) (by simp [World.setCell]) hB4; have H5 := hide (And.intro (own_later (own_set (o := 2) (u := .slice va fs.length vc) ho3 hBx (by decide)) (below1 _ (.cells #[] 134))) (And.intro (hE.2.2 _ _ (heapSet (o := 2) (v := .slice va fs.length vc) hBx)) (And.intro (hE.2.2 _ _ ((Below.heap_setCell w3 ⟨w.heap.size, 2, none⟩ (.slice va fs.length vc) (w.heap.size + 1) (by show w.heap.size + 1 ≠ w.heap.size; omega)).trans hRx)) (And.intro hE.1 hE.2.1)))); clear ho3 hg3 hBx hRx hB3 hB4 hE H3 I3) | (at_builtin; refine wpList_append_all _ rfl _ _ _ rfl w.heap.size 134 i1 _ 2 16 Tryz.underlying40 hI1 hy0 hy1 hy2 rfl (by omega) (.slice (some ⟨w3.heap.size, 0, none⟩) 0 0) rfl (unhide H5).2.2.2.2 da ds.length dc (flat ds) rfl (flat_cells ds).1 (prs_news ((unhide HD).later (unhide H5).2.2.2.1)) (flat_cells ds).2 (by unfold maxLen; omega) (by omega) (unhide H5).2.2.2.1.size ?_; intro v5 w5 ho5 hg5; have hx5 := (grown_other (unhide H5).2.2.2.2 hg5 (unhide H5).2.1 (by decide)).trans (unhide H5).2.1; have hr5 := (grown_other (unhide H5).2.2.2.2 hg5 (unhide H5).2.2.1 (by decide)).trans (unhide H5).2.2.1; have hB5 := grown_below (B := w.heap.size) (unhide H5).2.2.2.2 hg5 (unhide H5).2.2.2.1 (unhide H5).2.2.2.1.size; have hf5 := own_keepS (unhide H5).1 (fun g c e _ hg => grown_other (unhide H5).2.2.2.2 hg5 hg (by decide)); obtain ⟨ua, uc, hv5⟩ := own_formS ho5; subst hv5; have c0 := cellOf hx5 0; have c1 := cellOf hx5 1; have c2 := cellOf hx5 2; have c3 := cellOf hx5 3; have k3 := frozenOf hx5 3; have r0 := cellOf hr5 0; have r1 := cellOf hr5 1; have r2 := cellOf hr5 2; have r3 := cellOf hr5 3; have s0 := frozenOf hr5 0; have s1 := frozenOf hr5 1; have s2 := frozenOf hr5 2; have s3 := frozenOf hr5 3; have hne : w.heap.size ≠ w.heap.size + 1 := (by omega); have HZ := hide (And.intro (own_set (o := 3) (u := .slice ua ds.length uc) hf5 hx5 (by decide)) (And.intro (own_set (o := 3) (u := .slice ua ds.length uc) ho5 hx5 (by decide)) (And.intro ((Below.heap_setCell w5 ⟨w.heap.size, 3, none⟩ (.slice ua ds.length uc) (w.heap.size + 1) (by show w.heap.size + 1 ≠ w.heap.size; omega)).trans hr5) (below_set (o := 3) (u := .slice ua ds.length uc) hB5 (Nat.le_refl _))))); clear ho5 hg5 hx5 hr5 hf5 hB5 H5))
  obtain ⟨hF, hD, hR, hB⟩ := unhide HZ
  obtain ⟨⟨q0, q1, q2, q3⟩, hbel, hfar⟩ := fin4 (a := .int .i64 n) (b := .int .i64 r) (c := .slice va fs.length vc) (d := .slice ua ds.length uc) (W := w) hR (by omega) hB rfl
  exact bodyPost_ret (v := .agg #[.int .i64 n, .int .i64 r, .slice va fs.length vc, .slice ua ds.length uc]) (by simp [results, Tryz.results91, go_sem, q0, q1, q2, q3]) rfl ⟨_, _, rfl, ⟨own_keepS hF (fun g _ e _ hg => hfar g (fun e2 => own_ne hF hR (by decide) (by rw [e, e2]))), own_keepS hD (fun g _ e _ hg => hfar g (fun e2 => own_ne hD hR (by decide) (by rw [e, e2])))⟩, hbel⟩
end Go.Proofs.YtlnieobmhofkdaaGreatDoor
