import Derived.Test.YtoccijcngncghaaDoorMix5
import Derived.Test.YtoccijcngncghaaDoorMathW
import Derived.Test.YtoccijcngncghaaDoorMix3
import Derived.Test.YtoccijcngncghaaDoorMix6
/- What impl.metaOk and impl.metaBelow return. -/
namespace Go.Proofs.YtoccijcngncghaaDoor
open Go.RowKit

set_option maxHeartbeats 2000000 in
theorem metaBelow_any (w : World) (n v s m u t : Int) :
    Calls Tryd.prog 95 #[.agg #[.int .i64 n, .int .i64 v, .int .i64 s], .agg #[.int .i64 m, .int .i64 u, .int .i64 t]] w fun e w' => e = .returned (.bool (Ix.less n v m u)) ∧ Below w.heap.size w w' := by
  have HB := hide ((below1 w (.cells #[.int .i64 n, .int .i64 v, .int .i64 s] 121)).alloc (by rw [sz1']; omega) (.cells #[.int .i64 m, .int .i64 u, .int .i64 t] 121))
  by_cases h : n = m
  · have hb : (n != m) = false := by simp [h]
    have HE := hide h
    clear h
    go_enter Tryd.func95, Tryd.ntmps95
    go_wp2
    go_ret
    exact ⟨ret_bool (by have := unhide HE; subst this; simp [Ix.less]), unhide HB⟩
  · have hb : (n != m) = true := by simp [h]
    go_enter Tryd.func95, Tryd.ntmps95
    go_wp2
    go_ret
    exact ⟨ret_bool (by simp [Ix.less, h]), unhide HB⟩
end Go.Proofs.YtoccijcngncghaaDoor

/- What impl.IndexOk returns: whether the index is ok; for every index; nothing old is written. -/
namespace Go.Proofs.YtoccijcngncghaaDoor
open Go.RowKit Go.Shelf

attribute [local go_sem] Oper.semAt_some

theorem blk_below {n : Nat} {W W' : World} {k : Nat} {o : Obj} (h : W.heap[k]? = some o) (hb : Below n W W') (hn : n = W.heap.size) : W'.heap[k]? = some o := (hb.block k (by rw [hn]; exact heapLt h)).trans h
theorem box3m (w : World) (a b c : Value) (t : TypeId) : (w.alloc (.cells #[a, b, c] t)).cell? ⟨w.heap.size, 0, none⟩ = some a ∧ (w.alloc (.cells #[a, b, c] t)).cell? ⟨w.heap.size, 1, none⟩ = some b ∧ (w.alloc (.cells #[a, b, c] t)).cell? ⟨w.heap.size, 2, none⟩ = some c :=
  ⟨by rw [World.cell?_alloc_new]; rfl, by rw [World.cell?_alloc_new]; rfl, by rw [World.cell?_alloc_new]; rfl⟩

theorem len_le8 (l : List Ix.M) : decide ((l.length : Int) ≤ 8) = decide (l.length ≤ 8) := decide_eq_decide.2 (by omega)

end Go.Proofs.YtoccijcngncghaaDoor

/- What spec's and impl's TrustOk and TrustFresh return; for every trust; nothing old is written. -/
namespace Go.Proofs.YtoccijcngncghaaDoor
open Go.RowKit

/-- Trust as a value. -/
abbrev tv (n d : Int) (kv : Value) (has : Bool) (num til : Int) (mv : Value) : Value := .agg #[.int .i64 n, kv, .int .i64 d, .bool has, .int .i64 num, .int .i64 til, mv]
/-- Trust in a box, and its rows. -/
structure Tb (w : World) (g : Nat) (n d : Int) (kv : Value) (ks : List Int) (has : Bool) (num til : Int) (mv : Value) (ms : List Ix.M) : Prop where
  lt : g < w.heap.size
  c0 : w.cell? ⟨g, 0, none⟩ = some (.int .i64 n)
  c1 : w.cell? ⟨g, 1, none⟩ = some kv
  c2 : w.cell? ⟨g, 2, none⟩ = some (.int .i64 d)
  c3 : w.cell? ⟨g, 3, none⟩ = some (.bool has)
  c4 : w.cell? ⟨g, 4, none⟩ = some (.int .i64 num)
  c5 : w.cell? ⟨g, 5, none⟩ = some (.int .i64 til)
  c6 : w.cell? ⟨g, 6, none⟩ = some mv
  ins : Ins w kv ks
  trs : Trs w mv ms
section
variable {w w' : World} {g : Nat} {n d num til : Int} {kv mv : Value} {ks : List Int} {has : Bool} {ms : List Ix.M}
theorem Tb.later (h : Tb w g n d kv ks has num til mv ms) (hb : Below w.heap.size w w') : Tb w' g n d kv ks has num til mv ms :=
  ⟨Nat.lt_of_lt_of_le h.lt hb.size, (hb.cell h.lt).trans h.c0, (hb.cell h.lt).trans h.c1, (hb.cell h.lt).trans h.c2, (hb.cell h.lt).trans h.c3, (hb.cell h.lt).trans h.c4, (hb.cell h.lt).trans h.c5, (hb.cell h.lt).trans h.c6, h.ins.later hb, h.trs.later hb⟩
theorem Tb.new (hk : Ins w kv ks) (hm : Trs w mv ms) (t : TypeId) : Tb (w.alloc (.cells #[.int .i64 n, kv, .int .i64 d, .bool has, .int .i64 num, .int .i64 til, mv] t)) w.heap.size n d kv ks has num til mv ms := by
  have e : ∀ i, (w.alloc (.cells #[.int .i64 n, kv, .int .i64 d, .bool has, .int .i64 num, .int .i64 til, mv] t)).cell? ⟨w.heap.size, i, none⟩ = (#[Value.int .i64 n, kv, .int .i64 d, .bool has, .int .i64 num, .int .i64 til, mv])[i]? := fun i => by rw [World.cell?_alloc_new]
  exact ⟨by rw [sz1']; omega, e 0, e 1, e 2, e 3, e 4, e 5, e 6, hk.later (below1 _ _), hm.later (below1 _ _)⟩
theorem Tb.cells (h : Tb w g n d kv ks has num til mv ms) : w.cell? ⟨g, 0, none⟩ = some (.int .i64 n) ∧ w.cell? ⟨g, 1, none⟩ = some kv ∧ w.cell? ⟨g, 2, none⟩ = some (.int .i64 d) ∧ w.cell? ⟨g, 3, none⟩ = some (.bool has) ∧ w.cell? ⟨g, 4, none⟩ = some (.int .i64 num) ∧ w.cell? ⟨g, 5, none⟩ = some (.int .i64 til) ∧ w.cell? ⟨g, 6, none⟩ = some mv := ⟨h.c0, h.c1, h.c2, h.c3, h.c4, h.c5, h.c6⟩
end
theorem len0 (l : List Ix.M) : ((l.length : Int) == 0) = decide (l = []) := by
  cases l with
  | nil => rfl
  | cons x l => rw [decide_eq_false (by simp)]; simp; omega

end Go.Proofs.YtoccijcngncghaaDoor

/- What impl.copyOf, copyRoot, copyIndex and spec's l11RootCopy, l11IndexCopy return: the same, in a row of one's own; for every row. -/
namespace Go.Proofs.YtoccijcngncghaaDoor
open Go.RowKit

/-- A row of one's own: numbers; metas. -/
abbrev OwI (B : Nat) (w : World) (v : Value) (l : List Int) : Prop := w.ownsRow B 3 1 v l.length (l.map (Value.int .i64))
abbrev OwM (B : Nat) (w : World) (v : Value) (l : List Ix.M) : Prop := w.ownsRow B 121 3 v l.length (flat3 l)
theorem grown_none {w w' : World} {v : Value} (h : w.grownBy w' v.ownBlock) (hv : v.ownBlock = none) : Below w.heap.size w w' :=
  ⟨h.os, h.tape, h.output, h.size, fun k hk => h.block k hk (by rw [hv]; simp)⟩
theorem grown_new {W w w' : World} {v : Value} {g : Nat} (h : w.grownBy w' v.ownBlock) (hv : v.ownBlock = some g) (hb : Below W.heap.size W w) (hg : W.heap.size ≤ g) : Below W.heap.size W w' :=
  ⟨h.os.trans hb.os, h.tape.trans hb.tape, h.output.trans hb.output, Nat.le_trans hb.size h.size, fun k hk => (h.block k (by have := hb.size; omega) (by rw [hv]; simp; omega)).trans (hb.block k hk)⟩
theorem OwI.wide {B : Nat} {w : World} {v : Value} {l : List Int} (h : OwI B w v l) (hl : l.length ≤ 1048576) : Ins w v l := by
  rcases h.2 with ⟨hv, hn⟩ | ⟨g, cap, cur, hv, hb, hg, hc, hm, hs, ht⟩
  · exact ⟨none, 0, by rw [hv, hn], by omega, fun hp => by omega⟩
  · refine ⟨some ⟨g, 0, none⟩, cap, hv, by omega, fun _ => ⟨g, 0, rfl, heapLt hg, fun i hi => ?_⟩⟩
    rw [Nat.zero_add, cellOf hg]
    have hu : (l.map (Value.int .i64))[i]? = some (.int .i64 (Ky.nth l i)) := by rw [List.getElem?_map, List.getElem?_eq_getElem hi, Ky.nth_get l i hi]; rfl
    rw [← ht, List.getElem?_take] at hu
    split at hu
    · simpa using hu
    · cases hu
theorem empty_own {w : World} {g : Nat} {t : TypeId} {sz B : Nat} (h : w.heap[g]? = some (.cells #[] t (0, 0))) (hg : B ≤ g) : w.ownsRow B t sz (.slice (some ⟨g, 0, none⟩) 0 0) 0 [] :=
  ⟨by simp, .inr ⟨g, 0, #[], rfl, hg, h, Nat.le_refl _, by unfold maxLen; omega, by simp, by simp⟩⟩
theorem infoI' : (Tryd.prog.info? 3).map (fun i => (i.zero, i.size, i.bytes)) = some (some (.int .i64 0), 1, 8) := by kernel_rfl

theorem own_base' {w : World} {B B' sz n : Nat} {t : TypeId} {v : Value} {xs : List Value} (h : w.ownsRow B t sz v n xs) (hB : B' ≤ B) : w.ownsRow B' t sz v n xs := by
  refine ⟨h.1, ?_⟩
  rcases h.2 with hn | ⟨g, cap, cur, rfl, hb1, rest⟩
  · exact .inl hn
  · exact .inr ⟨g, cap, cur, rfl, Nat.le_trans hB hb1, rest⟩

set_option maxHeartbeats 1000000 in
set_option maxRecDepth 100000 in
theorem copyInts_any (w : World) (v : Value) (l : List Int) (h : Ins w v l) :
    Calls Tryd.prog 104 #[v] w fun e w' => ∃ v', e = .returned v' ∧ OwI w.heap.size w' v' l ∧ Below w.heap.size w w' := by
  obtain ⟨i0, hI0, hz0, hz1, hz2⟩ := info_parts infoI'
  obtain ⟨a, c, hv⟩ := h.slice
  subst hv
  have hlen : l.length ≤ 1000000000000 := by obtain ⟨_, _, _, h, _⟩ := h; exact h
  go_enter Tryd.func104, Tryd.ntmps104
  go_wp2_with (at_builtin; refine wpList_append_all _ rfl _ _ _ rfl w.heap.size 3 i0 _ 1 8 Tryd.underlying24 hI0 hz0 hz1 hz2 rfl (by omega) (.slice none 0 0) rfl (World.ownsRow_nil _ _ _ _) a l.length c (l.map (Value.int .i64)) rfl (by simp) (ins_news h) (int_cells l) (by unfold maxLen; omega) (by omega) (Nat.le_refl _) ?_; intro v' w1 hown hgrow)
  have HO := hide hown
  have HB := hide (grown_none hgrow rfl)
  clear hown hgrow h
  go_ret
  exact ⟨v', rfl, unhide HO, unhide HB⟩

end Go.Proofs.YtoccijcngncghaaDoor
