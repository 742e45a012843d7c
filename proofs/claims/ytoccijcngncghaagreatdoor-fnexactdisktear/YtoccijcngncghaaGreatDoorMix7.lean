import Derived.Test.YtoccijcngncghaaGreatDoorMix6
import Derived.Maps.OwnSet
import Derived.Test.YtoccijcngncghaaGreatDoorChecked
import Derived.Deep.RegionHeld3
import Derived.Deep.DrawnRows
import Derived.Test.YtoccijcngncghaaGreatDoorMathW
import Derived.Test.YtoccijcngncghaaGreatDoorMix2
/- What impl's set of keys answers: setOf makes it, has and countOf ask it; impl.KeysBoth and spec.KeysBoth: how many keys are among both, -1 if one is not ok; for every two rows of numbers; nothing old is written. -/
namespace Go.Proofs.YtoccijcngncghaaGreatDoor
open Go.RowKit Go.Maps

theorem lawK : Keyed Tryz.prog 3 := int_keyed Tryz.underlying3
/-- The set of keys, as data. -/
def Kd (l : List Int) : DataW Unit := setOf (.agg []) (l.map (Lit.int .i64))
theorem Kd_zero : Kd [] = .map [] := rfl
theorem Kd_snoc (l : List Int) (k : Nat) (hk : k < l.length) : Kd (l.take (k + 1)) = (Kd (l.take k)).put (.int .i64 (Ky.nth l k)) (.agg []) := by
  unfold Kd
  rw [List.take_add_one, List.map_append, Ky.nth_get l k hk]
  simp only [hk, getElem?_pos, Option.toList_some, List.map_cons, List.map_nil]
  exact setOf_snoc _ _ _
theorem has_Kd (l : List Int) (x : Int) : Maps.has (Kd l) (.int .i64 x) = l.contains x := by
  unfold Kd
  rw [has_setOf _ _ _ (by intro y hy; obtain ⟨z, _, rfl⟩ := List.mem_map.1 hy; trivial), List.any_map, List.contains_eq_any_beq]
  congr 1
  funext y
  simp [Lit.sameKey]
  by_cases h : x = y
  · subst h; simp
  · rw [beq_eq_false_iff_ne.2 h, decide_eq_false (fun e => h e.symm)]

/-- A world that holds the set. -/
def Own (w : World) (b : Nat) (l : List Int) : Prop := w.ownsMap Tryz.prog 3 (unitElem (H := Unit)) b l.length (Kd l)
theorem Own.later {w w' : World} {b : Nat} {l : List Int} (h : Own w b l) (hb : Below w.heap.size w w') : Own w' b l := by
  have hlt := World.ownsMap.lt h
  obtain ⟨es, clock, h1, h2⟩ := h
  exact ⟨es, clock, by rw [hb.block _ hlt]; exact h1, h2⟩

theorem wf_small {x : Int} (h0 : -1000 ≤ x) (h1 : x ≤ 1000) : (Lit.int .i64 x).wf = true := WalkArith.wf_i64 (by omega)

theorem small_ok {l : List Int} (h : Ky.keysOk l = true) : (∀ i, i < l.length → 1 ≤ Ky.nth l i ∧ Ky.nth l i ≤ 6) ∧ l.length ≤ 1000 := ⟨(Ky.good_get h).1, Nat.le_trans (Ky.ok_len h) (by omega)⟩

theorem Ins.one (w : World) (x : Int) (t : TypeId) : Ins (w.alloc (.cells #[.int .i64 x] t)) (.slice (some ⟨w.heap.size, 0, none⟩) 1 1) [x] :=
  ⟨_, _, rfl, by simp, fun _ => ⟨w.heap.size, 0, rfl, by simp, fun i hi => by
    obtain rfl : i = 0 := by simpa using hi
    rw [World.cell?_alloc_new]
    rfl⟩⟩
end Go.Proofs.YtoccijcngncghaaGreatDoor

/- Two laws on regions that draw their order: an operation whose guard is false is passed by; one that yields is taken, its place written out. -/
namespace Go.Proofs.YtoccijcngncghaaGreatDoor
section
variable {P : Program} {ops : Array Oper} {Q : Exit → Act → World → Prop} {md : Region.Mode} {S : World → Prop}
theorem anyH_skip {i : Nat} {oi : Oper} {fuel : Nat} {listed : Array Bool} {a : Act} {w : World} (hi : ops[i]? = some oi)
    (hs : Region.noSelect ops = true) (hf : Region.free md ops listed i = true) (hr : (Region.ready md ops listed).contains i = true)
    (hQ : ∀ c a w, Q (.panic c) (a.put oi.dst undef) w → Q (.panic c) a w) (hw : Region.wanted oi (yielded ops a.tmps) = false) (hp : a.put oi.dst undef = a) (hS : S w)
    (h : wpAnyH P md ops Q S fuel (listed.setIfInBounds i true) a w) : wpAnyH P md ops Q S (fuel + 1) listed a w :=
  wpAnyH_take hi hs hf hr hQ (Or.inr ⟨hw, rfl⟩) hS (by rw [hp]; exact h)
theorem anyH_at {i : Nat} {oi : Oper} {v : Value} {d : Option Tmp} {fuel : Nat} {listed : Array Bool} {a : Act} {w : World} (hi : ops[i]? = some oi) (hd : oi.dst = d)
    (hs : Region.noSelect ops = true) (hf : Region.free md ops listed i = true) (hr : (Region.ready md ops listed).contains i = true)
    (hQ : ∀ c a w, Q (.panic c) (a.put oi.dst v) w → Q (.panic c) a w) (hw : Region.wanted oi (yielded ops a.tmps) = true) (hy : ∀ w, S w → (execOp a.eval oi).run P w = .ok (.value v) w) (hS : S w)
    (h : wpAnyH P md ops Q S fuel (listed.setIfInBounds i true) (a.put d v) w) : wpAnyH P md ops Q S (fuel + 1) listed a w :=
  wpAnyH_take hi hs hf hr hQ (Or.inl ⟨hw, hy⟩) hS (by rw [hd]; exact h)
end
end Go.Proofs.YtoccijcngncghaaGreatDoor

/- What spec's and impl's RootOk, RootSigned and RootNext return: whether a root is ok, whether enough of its keys signed, whether a root may come behind another one; for every root and row of numbers; nothing old is written. -/
namespace Go.Proofs.YtoccijcngncghaaGreatDoor
open Go.RowKit

attribute [local go_sem ↓] Go.wp_at_zero Go.wp_at_succ

/-- What a box of three holds, in its own world. -/
theorem box3 (w : World) (a b c : Value) (t : TypeId) : (w.alloc (.cells #[a, b, c] t)).heap.size = w.heap.size + 1 ∧ (w.alloc (.cells #[a, b, c] t)).cell? ⟨w.heap.size, 0, none⟩ = some a ∧ (w.alloc (.cells #[a, b, c] t)).cell? ⟨w.heap.size, 1, none⟩ = some b ∧ (w.alloc (.cells #[a, b, c] t)).cell? ⟨w.heap.size, 2, none⟩ = some c :=
  ⟨by simp, by rw [World.cell?_alloc_new]; rfl, by rw [World.cell?_alloc_new]; rfl, by rw [World.cell?_alloc_new]; rfl⟩
theorem box4i (w : World) (a b c d : Value) (t : TypeId) : (w.alloc (.cells #[a, b, c, d] t)).heap.size = w.heap.size + 1 ∧ (w.alloc (.cells #[a, b, c, d] t)).cell? ⟨w.heap.size, 0, none⟩ = some a ∧ (w.alloc (.cells #[a, b, c, d] t)).cell? ⟨w.heap.size, 1, none⟩ = some b ∧ (w.alloc (.cells #[a, b, c, d] t)).cell? ⟨w.heap.size, 2, none⟩ = some c ∧ (w.alloc (.cells #[a, b, c, d] t)).cell? ⟨w.heap.size, 3, none⟩ = some d :=
  ⟨by simp, by rw [World.cell?_alloc_new]; rfl, by rw [World.cell?_alloc_new]; rfl, by rw [World.cell?_alloc_new]; rfl, by rw [World.cell?_alloc_new]; rfl⟩

/-- A root in a box, and its keys. -/
structure Bx (w : World) (g : Nat) (n d : Int) (v : Value) (k : List Int) : Prop where
  lt : g < w.heap.size
  c0 : w.cell? ⟨g, 0, none⟩ = some (.int .i64 n)
  c1 : w.cell? ⟨g, 1, none⟩ = some v
  c2 : w.cell? ⟨g, 2, none⟩ = some (.int .i64 d)
  ins : Ins w v k
theorem Bx.later {w w' : World} {g : Nat} {n d : Int} {v : Value} {k : List Int} (h : Bx w g n d v k) (hb : Below w.heap.size w w') : Bx w' g n d v k :=
  ⟨Nat.lt_of_lt_of_le h.lt hb.size, (hb.cell h.lt).trans h.c0, (hb.cell h.lt).trans h.c1, (hb.cell h.lt).trans h.c2, h.ins.later hb⟩
theorem Bx.new {w : World} {n d : Int} {v : Value} {k : List Int} (h : Ins w v k) (t : TypeId) : Bx (w.alloc (.cells #[.int .i64 n, v, .int .i64 d] t)) w.heap.size n d v k := by
  obtain ⟨z, x0, x1, x2⟩ := box3 w (.int .i64 n) v (.int .i64 d) t
  exact ⟨by omega, x0, x1, x2, h.later (below1 _ _)⟩

theorem Bx.cells {w : World} {g : Nat} {n d : Int} {v : Value} {k : List Int} (h : Bx w g n d v k) : w.cell? ⟨g, 0, none⟩ = some (.int .i64 n) ∧ w.cell? ⟨g, 1, none⟩ = some v ∧ w.cell? ⟨g, 2, none⟩ = some (.int .i64 d) := ⟨h.c0, h.c1, h.c2⟩
theorem Bx.drew {w : World} {g : Nat} {n d : Int} {v : Value} {k : List Int} (h : Bx w g n d v k) : Bx w.drew g n d v k := ⟨h.lt, h.c0, h.c1, h.c2, h.ins⟩

theorem rootOk_keys {n d : Int} {k : List Int} (h : Ky.rootOk n k d = true) : Ky.keysOk k = true := by unfold Ky.rootOk at h; rw [Bool.and_eq_true, Bool.and_eq_true] at h; exact h.1.2

end Go.Proofs.YtoccijcngncghaaGreatDoor

/- What impl.metaOk and impl.metaBelow return. -/
namespace Go.Proofs.YtoccijcngncghaaGreatDoor
open Go.RowKit

set_option maxHeartbeats 2000000 in
theorem metaBelow_any (w : World) (n v s m u t : Int) :
    Calls Tryz.prog 92 #[.agg #[.int .i64 n, .int .i64 v, .int .i64 s], .agg #[.int .i64 m, .int .i64 u, .int .i64 t]] w fun e w' => e = .returned (.bool (Ix.less n v m u)) ∧ Below w.heap.size w w' := by
  have HB := hide ((below1 w (.cells #[.int .i64 n, .int .i64 v, .int .i64 s] 115)).alloc (by rw [sz1']; omega) (.cells #[.int .i64 m, .int .i64 u, .int .i64 t] 115))
  by_cases h : n = m
  · have hb : (n != m) = false := by simp [h]
    have HE := hide h
    clear h
    go_enter Tryz.func92, Tryz.ntmps92
    go_wp2
    go_ret
    exact ⟨ret_bool (by have := unhide HE; subst this; simp [Ix.less]), unhide HB⟩
  · have hb : (n != m) = true := by simp [h]
    go_enter Tryz.func92, Tryz.ntmps92
    go_wp2
    go_ret
    exact ⟨ret_bool (by simp [Ix.less, h]), unhide HB⟩
end Go.Proofs.YtoccijcngncghaaGreatDoor

/- What impl.IndexOk returns: whether the index is ok; for every index; nothing old is written. -/
namespace Go.Proofs.YtoccijcngncghaaGreatDoor
open Go.RowKit Go.Shelf

attribute [local go_sem] Oper.semAt_some

theorem blk_below {n : Nat} {W W' : World} {k : Nat} {o : Obj} (h : W.heap[k]? = some o) (hb : Below n W W') (hn : n = W.heap.size) : W'.heap[k]? = some o := (hb.block k (by rw [hn]; exact heapLt h)).trans h
theorem box3m (w : World) (a b c : Value) (t : TypeId) : (w.alloc (.cells #[a, b, c] t)).cell? ⟨w.heap.size, 0, none⟩ = some a ∧ (w.alloc (.cells #[a, b, c] t)).cell? ⟨w.heap.size, 1, none⟩ = some b ∧ (w.alloc (.cells #[a, b, c] t)).cell? ⟨w.heap.size, 2, none⟩ = some c :=
  ⟨by rw [World.cell?_alloc_new]; rfl, by rw [World.cell?_alloc_new]; rfl, by rw [World.cell?_alloc_new]; rfl⟩

theorem len_le8 (l : List Ix.M) : decide ((l.length : Int) ≤ 8) = decide (l.length ≤ 8) := decide_eq_decide.2 (by omega)

end Go.Proofs.YtoccijcngncghaaGreatDoor

/- What spec's and impl's TrustOk and TrustFresh return; for every trust; nothing old is written. -/
namespace Go.Proofs.YtoccijcngncghaaGreatDoor
open Go.RowKit

/-- Trust as a value. -/
abbrev tv (n d : Int) (kv : Value) (has : Bool) (num til : Int) (mv : Value) : Value := .agg #[.int .i64 n, kv, .int .i64 d, .bool has, .int .i64 num, .int .i64 til, mv]
/-- Trust in a box, and its rows. -/
structure Tb (w : World) (g : Nat) (n d : Int) (kv : Value) (ks : List Int) (has : Bool) (num til : Int) (mv : Value) (ms : List Ix.M) : Prop where
  lt : g < w.heap.size
  c0 : w.cell? ⟨g, 0, none⟩ = some (.int .i64 n)
  c1 : w.cell? ⟨g, 1, none⟩ = some kv
  c2 : w.cell? ⟨g, 2, none⟩ = some (.int .i64 d)
  c3 : w.cell? ⟨g, 3, none⟩ = some (.bool has)
  c4 : w.cell? ⟨g, 4, none⟩ = some (.int .i64 num)
  c5 : w.cell? ⟨g, 5, none⟩ = some (.int .i64 til)
  c6 : w.cell? ⟨g, 6, none⟩ = some mv
  ins : Ins w kv ks
  trs : Trs w mv ms
section
variable {w w' : World} {g : Nat} {n d num til : Int} {kv mv : Value} {ks : List Int} {has : Bool} {ms : List Ix.M}
theorem Tb.later (h : Tb w g n d kv ks has num til mv ms) (hb : Below w.heap.size w w') : Tb w' g n d kv ks has num til mv ms :=
  ⟨Nat.lt_of_lt_of_le h.lt hb.size, (hb.cell h.lt).trans h.c0, (hb.cell h.lt).trans h.c1, (hb.cell h.lt).trans h.c2, (hb.cell h.lt).trans h.c3, (hb.cell h.lt).trans h.c4, (hb.cell h.lt).trans h.c5, (hb.cell h.lt).trans h.c6, h.ins.later hb, h.trs.later hb⟩
theorem Tb.new (hk : Ins w kv ks) (hm : Trs w mv ms) (t : TypeId) : Tb (w.alloc (.cells #[.int .i64 n, kv, .int .i64 d, .bool has, .int .i64 num, .int .i64 til, mv] t)) w.heap.size n d kv ks has num til mv ms := by
  have e : ∀ i, (w.alloc (.cells #[.int .i64 n, kv, .int .i64 d, .bool has, .int .i64 num, .int .i64 til, mv] t)).cell? ⟨w.heap.size, i, none⟩ = (#[Value.int .i64 n, kv, .int .i64 d, .bool has, .int .i64 num, .int .i64 til, mv])[i]? := fun i => by rw [World.cell?_alloc_new]
  exact ⟨by rw [sz1']; omega, e 0, e 1, e 2, e 3, e 4, e 5, e 6, hk.later (below1 _ _), hm.later (below1 _ _)⟩
theorem Tb.cells (h : Tb w g n d kv ks has num til mv ms) : w.cell? ⟨g, 0, none⟩ = some (.int .i64 n) ∧ w.cell? ⟨g, 1, none⟩ = some kv ∧ w.cell? ⟨g, 2, none⟩ = some (.int .i64 d) ∧ w.cell? ⟨g, 3, none⟩ = some (.bool has) ∧ w.cell? ⟨g, 4, none⟩ = some (.int .i64 num) ∧ w.cell? ⟨g, 5, none⟩ = some (.int .i64 til) ∧ w.cell? ⟨g, 6, none⟩ = some mv := ⟨h.c0, h.c1, h.c2, h.c3, h.c4, h.c5, h.c6⟩
end
theorem len0 (l : List Ix.M) : ((l.length : Int) == 0) = decide (l = []) := by
  cases l with
  | nil => rfl
  | cons x l => rw [decide_eq_false (by simp)]; simp; omega

end Go.Proofs.YtoccijcngncghaaGreatDoor

/- What impl.copyOf, copyRoot, copyIndex and spec's l11RootCopy, l11IndexCopy return: the same, in a row of one's own; for every row. -/
namespace Go.Proofs.YtoccijcngncghaaGreatDoor
open Go.RowKit

/-- A row of one's own: numbers; metas. -/
abbrev OwI (B : Nat) (w : World) (v : Value) (l : List Int) : Prop := w.ownsRow B 3 1 v l.length (l.map (Value.int .i64))
abbrev OwM (B : Nat) (w : World) (v : Value) (l : List Ix.M) : Prop := w.ownsRow B 115 3 v l.length (flat3 l)
theorem grown_none {w w' : World} {v : Value} (h : w.grownBy w' v.ownBlock) (hv : v.ownBlock = none) : Below w.heap.size w w' :=
  ⟨h.os, h.tape, h.output, h.size, fun k hk => h.block k hk (by rw [hv]; simp)⟩
theorem grown_new {W w w' : World} {v : Value} {g : Nat} (h : w.grownBy w' v.ownBlock) (hv : v.ownBlock = some g) (hb : Below W.heap.size W w) (hg : W.heap.size ≤ g) : Below W.heap.size W w' :=
  ⟨h.os.trans hb.os, h.tape.trans hb.tape, h.output.trans hb.output, Nat.le_trans hb.size h.size, fun k hk => (h.block k (by have := hb.size; omega) (by rw [hv]; simp; omega)).trans (hb.block k hk)⟩
theorem OwI.wide {B : Nat} {w : World} {v : Value} {l : List Int} (h : OwI B w v l) (hl : l.length ≤ 1048576) : Ins w v l := by
  rcases h.2 with ⟨hv, hn⟩ | ⟨g, cap, cur, hv, hb, hg, hc, hm, hs, ht⟩
  · exact ⟨none, 0, by rw [hv, hn], by omega, fun hp => by omega⟩
  · refine ⟨some ⟨g, 0, none⟩, cap, hv, by omega, fun _ => ⟨g, 0, rfl, heapLt hg, fun i hi => ?_⟩⟩
    rw [Nat.zero_add, cellOf hg]
    have hu : (l.map (Value.int .i64))[i]? = some (.int .i64 (Ky.nth l i)) := by rw [List.getElem?_map, List.getElem?_eq_getElem hi, Ky.nth_get l i hi]; rfl
    rw [← ht, List.getElem?_take] at hu
    split at hu
    · simpa using hu
    · cases hu
theorem empty_own {w : World} {g : Nat} {t : TypeId} {sz B : Nat} (h : w.heap[g]? = some (.cells #[] t (0, 0))) (hg : B ≤ g) : w.ownsRow B t sz (.slice (some ⟨g, 0, none⟩) 0 0) 0 [] :=
  ⟨by simp, .inr ⟨g, 0, #[], rfl, hg, h, Nat.le_refl _, by unfold maxLen; omega, by simp, by simp⟩⟩
theorem infoI' : (Tryz.prog.info? 3).map (fun i => (i.zero, i.size, i.bytes)) = some (some (.int .i64 0), 1, 8) := by kernel_rfl

theorem own_base' {w : World} {B B' sz n : Nat} {t : TypeId} {v : Value} {xs : List Value} (h : w.ownsRow B t sz v n xs) (hB : B' ≤ B) : w.ownsRow B' t sz v n xs := by
  refine ⟨h.1, ?_⟩
  rcases h.2 with hn | ⟨g, cap, cur, rfl, hb1, rest⟩
  · exact .inl hn
  · exact .inr ⟨g, cap, cur, rfl, Nat.le_trans hB hb1, rest⟩

set_option maxHeartbeats 1000000 in
set_option maxRecDepth 100000 in
theorem copyInts_any (w : World) (v : Value) (l : List Int) (h : Ins w v l) :
    Calls Tryz.prog 89 #[v] w fun e w' => ∃ v', e = .returned v' ∧ OwI w.heap.size w' v' l ∧ Below w.heap.size w w' := by
  obtain ⟨i0, hI0, hz0, hz1, hz2⟩ := info_parts infoI'
  obtain ⟨a, c, hv⟩ := h.slice
  subst hv
  have hlen : l.length ≤ 1000000000000 := by obtain ⟨_, _, _, h, _⟩ := h; exact h
  go_enter Tryz.func89, Tryz.ntmps89
  go_wp2_with (at_builtin; refine wpList_append_all _ rfl _ _ _ rfl w.heap.size 3 i0 _ 1 8 Tryz.underlying24 hI0 hz0 hz1 hz2 rfl (by omega) (.slice none 0 0) rfl (World.ownsRow_nil _ _ _ _) a l.length c (l.map (Value.int .i64)) rfl (by simp) (ins_news h) (int_cells l) (by unfold maxLen; omega) (by omega) (Nat.le_refl _) ?_; intro v' w1 hown hgrow)
  have HO := hide hown
  have HB := hide (grown_none hgrow rfl)
  clear hown hgrow h
  go_ret
  exact ⟨v', rfl, unhide HO, unhide HB⟩

end Go.Proofs.YtoccijcngncghaaGreatDoor
