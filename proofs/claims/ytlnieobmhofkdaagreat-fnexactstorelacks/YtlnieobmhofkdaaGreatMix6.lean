import Derived.Test.YtlnieobmhofkdaaGreatMathW
import Derived.Test.YtlnieobmhofkdaaGreatRootW
import Derived.Test.YtlnieobmhofkdaaGreatMix1
import Derived.Test.YtlnieobmhofkdaaGreatImplIndexOkW
import Derived.Test.YtlnieobmhofkdaaGreatMix5
/- What spec's and impl's TrustOk and TrustFresh return; for every trust; nothing old is written. -/
namespace Go.Proofs.YtlnieobmhofkdaaGreat
open Go.RowKit

/-- Trust as a value. -/
abbrev tv (n d : Int) (kv : Value) (has : Bool) (num til : Int) (mv : Value) : Value := .agg #[.int .i64 n, kv, .int .i64 d, .bool has, .int .i64 num, .int .i64 til, mv]
/-- Trust in a box, and its rows. -/
structure Tb (w : World) (g : Nat) (n d : Int) (kv : Value) (ks : List Int) (has : Bool) (num til : Int) (mv : Value) (ms : List Ix.M) : Prop where
  lt : g < w.heap.size
  c0 : w.cell? ⟨g, 0, none⟩ = some (.int .i64 n)
  c1 : w.cell? ⟨g, 1, none⟩ = some kv
  c2 : w.cell? ⟨g, 2, none⟩ = some (.int .i64 d)
  c3 : w.cell? ⟨g, 3, none⟩ = some (.bool has)
  c4 : w.cell? ⟨g, 4, none⟩ = some (.int .i64 num)
  c5 : w.cell? ⟨g, 5, none⟩ = some (.int .i64 til)
  c6 : w.cell? ⟨g, 6, none⟩ = some mv
  ins : Ins w kv ks
  trs : Trs w mv ms
section
variable {w w' : World} {g : Nat} {n d num til : Int} {kv mv : Value} {ks : List Int} {has : Bool} {ms : List Ix.M}
theorem Tb.later (h : Tb w g n d kv ks has num til mv ms) (hb : Below w.heap.size w w') : Tb w' g n d kv ks has num til mv ms :=
  ⟨Nat.lt_of_lt_of_le h.lt hb.size, (hb.cell h.lt).trans h.c0, (hb.cell h.lt).trans h.c1, (hb.cell h.lt).trans h.c2, (hb.cell h.lt).trans h.c3, (hb.cell h.lt).trans h.c4, (hb.cell h.lt).trans h.c5, (hb.cell h.lt).trans h.c6, h.ins.later hb, h.trs.later hb⟩
theorem Tb.new (hk : Ins w kv ks) (hm : Trs w mv ms) (t : TypeId) : Tb (w.alloc (.cells #[.int .i64 n, kv, .int .i64 d, .bool has, .int .i64 num, .int .i64 til, mv] t)) w.heap.size n d kv ks has num til mv ms := by
  have e : ∀ i, (w.alloc (.cells #[.int .i64 n, kv, .int .i64 d, .bool has, .int .i64 num, .int .i64 til, mv] t)).cell? ⟨w.heap.size, i, none⟩ = (#[Value.int .i64 n, kv, .int .i64 d, .bool has, .int .i64 num, .int .i64 til, mv])[i]? := fun i => by rw [World.cell?_alloc_new]
  exact ⟨by rw [sz1']; omega, e 0, e 1, e 2, e 3, e 4, e 5, e 6, hk.later (below1 _ _), hm.later (below1 _ _)⟩
theorem Tb.cells (h : Tb w g n d kv ks has num til mv ms) : w.cell? ⟨g, 0, none⟩ = some (.int .i64 n) ∧ w.cell? ⟨g, 1, none⟩ = some kv ∧ w.cell? ⟨g, 2, none⟩ = some (.int .i64 d) ∧ w.cell? ⟨g, 3, none⟩ = some (.bool has) ∧ w.cell? ⟨g, 4, none⟩ = some (.int .i64 num) ∧ w.cell? ⟨g, 5, none⟩ = some (.int .i64 til) ∧ w.cell? ⟨g, 6, none⟩ = some mv := ⟨h.c0, h.c1, h.c2, h.c3, h.c4, h.c5, h.c6⟩
end
theorem len0 (l : List Ix.M) : ((l.length : Int) == 0) = decide (l = []) := by
  cases l with
  | nil => rfl
  | cons x l => rw [decide_eq_false (by simp)]; simp; omega

set_option maxHeartbeats 2000000 in
set_option maxRecDepth 100000 in
theorem specTrustOk_any (w : World) (n d : Int) (kv : Value) (ks : List Int) (has : Bool) (num til : Int) (mv : Value) (ms : List Ix.M) (hk : Ins w kv ks) (hm : Trs w mv ms) :
    Calls Tryz.prog 20 #[tv n d kv has num til mv] w fun e w' => e = .returned (.bool (Tr.ok n ks d has num til ms)) ∧ Below w.heap.size w w' := by
  obtain ⟨ka, kc, hkv⟩ := hk.slice
  obtain ⟨ma, mc, hmv⟩ := hm.slice
  subst hkv hmv
  have X0 := hide (Tb.new (n := n) (d := d) (has := has) (num := num) (til := til) hk hm 39)
  have B0 := hide (below1 w (.cells #[.int .i64 n, .slice ka ks.length kc, .int .i64 d, .bool has, .int .i64 num, .int .i64 til, .slice ma ms.length mc] 39))
  clear hk hm
  unfold tv
  go_enter Tryz.func20, Tryz.ntmps20
  go_wp2_with fail
  refine (specRootOk_any _ n d _ ks (unhide X0).ins).mono ?_
  generalize w.alloc _ = W0 at *
  rintro e w1 ⟨rfl, b1⟩
  have X1 := hide ((unhide X0).later b1)
  have B1 := hide ((unhide B0).trans (b1.mono (unhide B0).size))
  clear X0 B0 b1
  clear W0
  obtain ⟨c0, c1, c2, c3, c4, c5, c6⟩ := (unhide X1).cells
  cases hA : Ky.rootOk n ks d
  · go_wp2
    go_ret
    exact ⟨ret_bool (by simp [Tr.ok, hA]), unhide B1⟩
  cases has
  · by_cases h1 : num = 0
    · have h1' : (num == 0) = true := by simpa using h1
      have H1 := hide h1
      clear h1
      by_cases h2 : til = 0
      · have h2' : (til == 0) = true := by simpa using h2
        have H2 := hide h2
        clear h2
        go_wp2
        go_ret
        exact ⟨ret_bool (by simp only [Tr.ok, hA, Tr.noIdx, unhide H1, unhide H2]; simp; exact len0 _), unhide B1⟩
      · have h2' : (til == 0) = false := by simpa using h2
        have H2 := hide h2
        clear h2
        go_wp2
        go_ret
        exact ⟨ret_bool (by simp [Tr.ok, hA, Tr.noIdx, unhide H2]), unhide B1⟩
    · have h1' : (num == 0) = false := by simpa using h1
      have H1 := hide h1
      clear h1
      go_wp2
      go_ret
      exact ⟨ret_bool (by simp [Tr.ok, hA, Tr.noIdx, unhide H1]), unhide B1⟩
  · go_wp2_with fail
    refine (indexOk_any _ num til _ ms (unhide X1).trs).mono ?_
    rintro e w2 ⟨rfl, b2⟩
    have B2 := hide ((unhide B1).trans (b2.mono (unhide B1).size))
    clear b2
    go_wp2
    go_ret
    exact ⟨ret_bool (by simp [Tr.ok, hA]), unhide B2⟩

set_option maxHeartbeats 2000000 in
set_option maxRecDepth 100000 in
theorem isNoIndex_any (w : World) (num til : Int) (mv : Value) (ms : List Ix.M) (hm : Trs w mv ms) :
    Calls Tryz.prog 57 #[.agg #[.int .i64 num, .int .i64 til, mv]] w fun e w' => e = .returned (.bool (Tr.noIdx num til ms)) ∧ Below w.heap.size w w' := by
  obtain ⟨ma, mc, hmv⟩ := hm.slice
  subst hmv
  have B0 := hide (below1 w (.cells #[.int .i64 num, .int .i64 til, .slice ma ms.length mc] 37))
  by_cases h1 : num = 0
  · have h1' : (num == 0) = true := by simpa using h1
    have H1 := hide h1
    clear h1
    by_cases h2 : til = 0
    · have h2' : (til == 0) = true := by simpa using h2
      have H2 := hide h2
      clear h2
      go_enter Tryz.func57, Tryz.ntmps57
      go_wp2
      go_ret
      exact ⟨ret_bool (by simp only [Tr.noIdx, unhide H1, unhide H2]; simp; exact len0 _), unhide B0⟩
    · have h2' : (til == 0) = false := by simpa using h2
      have H2 := hide h2
      clear h2
      go_enter Tryz.func57, Tryz.ntmps57
      go_wp2
      go_ret
      exact ⟨ret_bool (by simp [Tr.noIdx, unhide H2]), unhide B0⟩
  · have h1' : (num == 0) = false := by simpa using h1
    have H1 := hide h1
    clear h1
    go_enter Tryz.func57, Tryz.ntmps57
    go_wp2
    go_ret
    exact ⟨ret_bool (by simp [Tr.noIdx, unhide H1]), unhide B0⟩

set_option maxHeartbeats 2000000 in
set_option maxRecDepth 100000 in
theorem implTrustOk_any (w : World) (n d : Int) (kv : Value) (ks : List Int) (has : Bool) (num til : Int) (mv : Value) (ms : List Ix.M) (hk : Ins w kv ks) (hm : Trs w mv ms) :
    Calls Tryz.prog 28 #[tv n d kv has num til mv] w fun e w' => e = .returned (.bool (Tr.ok n ks d has num til ms)) ∧ Below w.heap.size w w' := by
  obtain ⟨ka, kc, hkv⟩ := hk.slice
  obtain ⟨ma, mc, hmv⟩ := hm.slice
  subst hkv hmv
  have X0 := hide (Tb.new (n := n) (d := d) (has := has) (num := num) (til := til) hk hm 39)
  have B0 := hide (below1 w (.cells #[.int .i64 n, .slice ka ks.length kc, .int .i64 d, .bool has, .int .i64 num, .int .i64 til, .slice ma ms.length mc] 39))
  clear hk hm
  unfold tv
  cases hA : Ky.rootOk n ks d
  · cases has
    all_goals
      go_enter Tryz.func28, Tryz.ntmps28
      go_wp2_with fail
      refine (implRootOk_b _ n d _ ks hA (unhide X0).ins).mono ?_
      generalize w.alloc _ = W0 at *
      rintro e w1 ⟨rfl, b1⟩
      have B1 := hide ((unhide B0).trans (b1.mono (unhide B0).size))
      clear X0 B0 b1
      go_wp2
      go_ret
      exact ⟨ret_bool (by simp [Tr.ok, hA]), unhide B1⟩
  cases has
  · go_enter Tryz.func28, Tryz.ntmps28
    go_wp2_with fail
    refine (implRootOk_b _ n d _ ks hA (unhide X0).ins).mono ?_
    generalize w.alloc _ = W0 at *
    rintro e w1 ⟨rfl, b1⟩
    have X1 := hide ((unhide X0).later b1)
    have B1 := hide ((unhide B0).trans (b1.mono (unhide B0).size))
    clear X0 B0 b1
    obtain ⟨c0, c1, c2, c3, c4, c5, c6⟩ := (unhide X1).cells
    go_wp2_with fail
    refine (isNoIndex_any _ num til _ ms (unhide X1).trs).mono ?_
    rintro e w2 ⟨rfl, b2⟩
    have B2 := hide ((unhide B1).trans (b2.mono (unhide B1).size))
    clear b2
    go_wp2
    go_ret
    exact ⟨ret_bool (by simp [Tr.ok, hA]), unhide B2⟩
  · go_enter Tryz.func28, Tryz.ntmps28
    go_wp2_with fail
    refine (implRootOk_b _ n d _ ks hA (unhide X0).ins).mono ?_
    generalize w.alloc _ = W0 at *
    rintro e w1 ⟨rfl, b1⟩
    have X1 := hide ((unhide X0).later b1)
    have B1 := hide ((unhide B0).trans (b1.mono (unhide B0).size))
    clear X0 B0 b1
    obtain ⟨c0, c1, c2, c3, c4, c5, c6⟩ := (unhide X1).cells
    go_wp2_with fail
    refine (implIndexOk_any _ num til _ ms (unhide X1).trs).mono ?_
    rintro e w2 ⟨rfl, b2⟩
    have B2 := hide ((unhide B1).trans (b2.mono (unhide B1).size))
    clear b2
    go_wp2
    go_ret
    exact ⟨ret_bool (by simp [Tr.ok, hA]), unhide B2⟩
end Go.Proofs.YtlnieobmhofkdaaGreat

/- What impl.copyOf, copyRoot, copyIndex and spec's l11RootCopy, l11IndexCopy return: the same, in a row of one's own; for every row. -/
namespace Go.Proofs.YtlnieobmhofkdaaGreat
open Go.RowKit

/-- A row of one's own: numbers; metas. -/
abbrev OwI (B : Nat) (w : World) (v : Value) (l : List Int) : Prop := w.ownsRow B 3 1 v l.length (l.map (Value.int .i64))
abbrev OwM (B : Nat) (w : World) (v : Value) (l : List Ix.M) : Prop := w.ownsRow B 60 3 v l.length (flat3 l)
theorem grown_none {w w' : World} {v : Value} (h : w.grownBy w' v.ownBlock) (hv : v.ownBlock = none) : Below w.heap.size w w' :=
  ⟨h.os, h.tape, h.output, h.size, fun k hk => h.block k hk (by rw [hv]; simp)⟩
theorem grown_new {W w w' : World} {v : Value} {g : Nat} (h : w.grownBy w' v.ownBlock) (hv : v.ownBlock = some g) (hb : Below W.heap.size W w) (hg : W.heap.size ≤ g) : Below W.heap.size W w' :=
  ⟨h.os.trans hb.os, h.tape.trans hb.tape, h.output.trans hb.output, Nat.le_trans hb.size h.size, fun k hk => (h.block k (by have := hb.size; omega) (by rw [hv]; simp; omega)).trans (hb.block k hk)⟩
theorem OwI.wide {B : Nat} {w : World} {v : Value} {l : List Int} (h : OwI B w v l) (hl : l.length ≤ 1048576) : Ins w v l := by
  rcases h.2 with ⟨hv, hn⟩ | ⟨g, cap, cur, hv, hb, hg, hc, hm, hs, ht⟩
  · exact ⟨none, 0, by rw [hv, hn], by omega, fun hp => by omega⟩
  · refine ⟨some ⟨g, 0, none⟩, cap, hv, by omega, fun _ => ⟨g, 0, rfl, heapLt hg, fun i hi => ?_⟩⟩
    rw [Nat.zero_add, cellOf hg]
    have hu : (l.map (Value.int .i64))[i]? = some (.int .i64 (Ky.nth l i)) := by rw [List.getElem?_map, List.getElem?_eq_getElem hi, Ky.nth_get l i hi]; rfl
    rw [← ht, List.getElem?_take] at hu
    split at hu
    · simpa using hu
    · cases hu
theorem empty_own {w : World} {g : Nat} {t : TypeId} {sz B : Nat} (h : w.heap[g]? = some (.cells #[] t (0, 0))) (hg : B ≤ g) : w.ownsRow B t sz (.slice (some ⟨g, 0, none⟩) 0 0) 0 [] :=
  ⟨by simp, .inr ⟨g, 0, #[], rfl, hg, h, Nat.le_refl _, by unfold maxLen; omega, by simp, by simp⟩⟩
theorem infoI' : (Tryz.prog.info? 3).map (fun i => (i.zero, i.size, i.bytes)) = some (some (.int .i64 0), 1, 8) := by kernel_rfl

theorem own_base' {w : World} {B B' sz n : Nat} {t : TypeId} {v : Value} {xs : List Value} (h : w.ownsRow B t sz v n xs) (hB : B' ≤ B) : w.ownsRow B' t sz v n xs := by
  refine ⟨h.1, ?_⟩
  rcases h.2 with hn | ⟨g, cap, cur, rfl, hb1, rest⟩
  · exact .inl hn
  · exact .inr ⟨g, cap, cur, rfl, Nat.le_trans hB hb1, rest⟩

end Go.Proofs.YtlnieobmhofkdaaGreat
