import Derived.Test.YtlnieobmhofkdaaGreatBoxW
import Derived.Test.YtlnieobmhofkdaaGreatKeyW
import Derived.Deep.AppendLies
import Derived.Laws.AppendOwn
import Derived.Maps.OwnSet
import Derived.Test.YtlnieobmhofkdaaGreatChecked
import Derived.Deep.RegionHeld3
/- An append of all of a row, empty or not, to an empty row of one's own. -/
namespace Go.Proofs.YtlnieobmhofkdaaGreat
open Go.RowKit
section
variable {P : Program}
theorem run_append_zero (w : World) (t ty e : TypeId) (i : TypeInfo) (ht : P.underlying t = some (.slice e)) (hi : P.info? e = some i) (base x : Option Addr) (cap c : Nat) :
    (Builtin.append_ #[t, t] ty #[.slice base 0 cap, .slice x 0 c]).run P w = .ok (.slice base 0 cap) w := by
  have hf : (Builtin.firstCells i.size 0 (.slice x 0 c)).run P w = .ok #[] w := by
    cases x <;> simp [Builtin.firstCells, loadCells, loadCellsFrom]
  cases base with
  | none => simp [Builtin.append_, run_underlying ht, sizeOf, typeInfo, hi, Builtin.lenOf, hf]
  | some b => simp [Builtin.append_, run_underlying ht, sizeOf, typeInfo, hi, Builtin.lenOf, hf, storeCells]
theorem grown_refl (w : World) (r : Option Nat) : w.grownBy w r := ⟨rfl, rfl, rfl, Nat.le_refl _, fun _ _ _ => rfl⟩
theorem wp_append_all (w : World) {o : Oper} {a : Act} {K : Act → World → Prop} {Q : Exit → Act → World → Prop} (s x : Operand) (t : TypeId)
    (ho : o.op = .call { callee := .builtin .append, args := #[s, x], argTypes := #[t, t] })
    (base : Nat) (e : TypeId) (i : TypeInfo) (z : Value) (size bytes : Nat) (ht : P.underlying t = some (.slice e)) (hi : P.info? e = some i) (hz : i.zero = some z)
    (hsize : i.size = size) (hby : i.bytes = bytes) (hzs : z.cells.size = size) (hsz : 0 < size)
    (v : Value) (hs : a.eval s = v) (hown : w.ownsRow base e size v 0 [])
    (xa : Option Addr) (m c : Nat) (news : List Value) (hx : a.eval x = .slice xa m c) (hl : news.length = m * size) (hnews : 0 < m → ∃ ad, xa = some ad ∧ ∀ j u, news[j]? = some u → w.cell? (ad.add j) = some u) (h1 : ∀ u ∈ news, u.oneCell' = true)
    (h63 : m ≤ maxLen) (hbytes : m * bytes ≤ 140737488355328) (hbase : base ≤ w.heap.size)
    (h : ∀ v' w', w'.ownsRow base e size v' m news → w.grownBy w' v.ownBlock → K (a.put o.dst v') w') : o.wp P a w K Q := by
  rcases Nat.eq_zero_or_pos m with rfl | hm
  · obtain rfl : news = [] := List.eq_nil_of_length_eq_zero (by simpa using hl)
    obtain ⟨b, cap, rfl⟩ := own_formS hown
    have hr := run_append_zero (P := P) w t o.type e i ht hi b xa cap c
    unfold Oper.wp execOp
    simp only [ho, resolve, invoke, builtin, Sem.run_bind, Sem.run_pure, Result.andThen_ok, List.map_toArray, List.map_cons, List.map_nil, hs, hx, hr]
    exact h _ _ hown (grown_refl _ _)
  · obtain ⟨ad, rfl, hc⟩ := hnews hm
    exact wp_append_own w s x t ho base e i z size bytes ht hi hz hsize hby hzs hsz v 0 [] hs hown ad m c news hx hl hc h1 (by omega) (by rw [Nat.zero_add]; exact hbytes) hbase fun v' w' h2 h3 _ => h v' w' (by simpa using h2) h3
theorem wpList_append_all (w : World) {ops : Array Oper} {rest : List Oper} {o : Oper} {a : Act} {Q : Exit → Act → World → Prop} (hgd : o.guard = none) (s x : Operand) (t : TypeId)
    (ho : o.op = .call { callee := .builtin .append, args := #[s, x], argTypes := #[t, t] })
    (base : Nat) (e : TypeId) (i : TypeInfo) (z : Value) (size bytes : Nat) (ht : P.underlying t = some (.slice e)) (hi : P.info? e = some i) (hz : i.zero = some z)
    (hsize : i.size = size) (hby : i.bytes = bytes) (hzs : z.cells.size = size) (hsz : 0 < size)
    (v : Value) (hs : a.eval s = v) (hown : w.ownsRow base e size v 0 [])
    (xa : Option Addr) (m c : Nat) (news : List Value) (hx : a.eval x = .slice xa m c) (hl : news.length = m * size) (hnews : 0 < m → ∃ ad, xa = some ad ∧ ∀ j u, news[j]? = some u → w.cell? (ad.add j) = some u) (h1 : ∀ u ∈ news, u.oneCell' = true)
    (h63 : m ≤ maxLen) (hbytes : m * bytes ≤ 140737488355328) (hbase : base ≤ w.heap.size)
    (h : ∀ v' w', w'.ownsRow base e size v' m news → w.grownBy w' v.ownBlock → wpList P ops Q rest (a.put o.dst v') w') : wpList P ops Q (o :: rest) a w :=
  wpList_plain hgd fun _ hK => wp_append_all w s x t ho base e i z size bytes ht hi hz hsize hby hzs hsz v hs hown xa m c news hx hl hnews h1 h63 hbytes hbase fun v' w' h2 h3 => hK _ _ (h v' w' h2 h3)
end
/-- Numbers as cells, out of a row that can be read. -/
theorem ins_news {w : World} {a : Option Addr} {c : Nat} {l : List Int} (h : Ins w (.slice a l.length c) l) : 0 < l.length → ∃ ad, a = some ad ∧ ∀ j u, (l.map (Value.int .i64))[j]? = some u → w.cell? (ad.add j) = some u := by
  intro hp
  obtain ⟨a', c', e, _, hr⟩ := h
  injection e with e _ _
  subst e
  obtain ⟨b, off, rfl, _, hc⟩ := hr hp
  refine ⟨_, rfl, fun j u hu => ?_⟩
  have hj : j < l.length := by
    rcases Nat.lt_or_ge j l.length with h | h
    · exact h
    · rw [List.getElem?_eq_none (by rw [List.length_map]; exact h)] at hu; cases hu
  rw [List.getElem?_map, List.getElem?_eq_getElem hj] at hu
  injection hu with hu
  rw [← hu]
  have := hc j hj
  rw [Ky.nth_get l j hj] at this
  have hadd : (⟨b, off, none⟩ : Addr).add j = ⟨b, off + j, none⟩ := by unfold Addr.add; split <;> simp_all
  rw [hadd]
  exact this
theorem int_cells (l : List Int) : ∀ u ∈ l.map (Value.int .i64), u.oneCell' = true := by
  intro u hu
  obtain ⟨x, _, rfl⟩ := List.mem_map.1 hu
  rfl
theorem trs_news {w : World} {a : Option Addr} {c : Nat} {l : List Ix.M} (h : Trs w (.slice a l.length c) l) : 0 < l.length → ∃ ad, a = some ad ∧ ∀ j u, (flat3 l)[j]? = some u → w.cell? (ad.add j) = some u := by
  intro hp
  obtain ⟨a', c', e, _, hr⟩ := h
  injection e with e _ _
  subst e
  obtain ⟨b, off, rfl, _, hc⟩ := hr hp
  refine ⟨_, rfl, fun j u hu => ?_⟩
  have hfl : (flat3 l).length = l.length * 3 := by
    have : ∀ l : List Ix.M, (flat3 l).length = l.length * 3 := fun l => by
      induction l with
      | nil => rfl
      | cons x l ih => show (flat3 l).length + 1 + 1 + 1 = _; rw [ih, List.length_cons]; omega
    exact this l
  have hj : j < l.length * 3 := by
    rcases Nat.lt_or_ge j (flat3 l).length with h | h
    · omega
    · rw [List.getElem?_eq_none h] at hu; cases hu
  obtain ⟨h0, h1, h2⟩ := flat3_at l (j / 3) (by omega)
  obtain ⟨c0, c1, c2⟩ := hc (j / 3) (by omega)
  have hm : j % 3 = 0 ∨ j % 3 = 1 ∨ j % 3 = 2 := by omega
  have hadd : (⟨b, off, none⟩ : Addr).add j = ⟨b, off + j, none⟩ := by unfold Addr.add; split <;> simp_all
  rw [hadd]
  rcases hm with h | h | h
  · have ej : j = j / 3 * 3 := by omega
    rw [ej] at hu ⊢
    rw [h0] at hu
    rw [← hu]; exact c0
  · have ej : j = j / 3 * 3 + 1 := by omega
    rw [ej] at hu ⊢
    rw [h1] at hu
    rw [← hu]; exact c1
  · have ej : j = j / 3 * 3 + 2 := by omega
    rw [ej] at hu ⊢
    rw [h2] at hu
    rw [← hu]; exact c2
theorem flat3_cells (l : List Ix.M) : (flat3 l).length = l.length * 3 ∧ ∀ u ∈ flat3 l, u.oneCell' = true := by
  induction l with
  | nil => exact ⟨rfl, fun u hu => by cases hu⟩
  | cons x l ih =>
    refine ⟨by show (flat3 l).length + 1 + 1 + 1 = _; rw [ih.1, List.length_cons]; omega, fun u hu => ?_⟩
    have e : flat3 (x :: l) = .int .i64 x.1 :: .int .i64 x.2.1 :: .int .i64 x.2.2 :: flat3 l := rfl
    rw [e] at hu
    simp only [List.mem_cons] at hu
    rcases hu with rfl | rfl | rfl | hu
    · rfl
    · rfl
    · rfl
    · exact ih.2 u hu
end Go.Proofs.YtlnieobmhofkdaaGreat

/- What impl's set of keys answers: setOf makes it, has and countOf ask it; impl.KeysBoth and spec.KeysBoth: how many keys are among both, -1 if one is not ok; for every two rows of numbers; nothing old is written. -/
namespace Go.Proofs.YtlnieobmhofkdaaGreat
open Go.RowKit Go.Maps

theorem lawK : Keyed Tryz.prog 3 := int_keyed Tryz.underlying3
/-- The set of keys, as data. -/
def Kd (l : List Int) : DataW Unit := setOf (.agg []) (l.map (Lit.int .i64))
theorem Kd_zero : Kd [] = .map [] := rfl
theorem Kd_snoc (l : List Int) (k : Nat) (hk : k < l.length) : Kd (l.take (k + 1)) = (Kd (l.take k)).put (.int .i64 (Ky.nth l k)) (.agg []) := by
  unfold Kd
  rw [List.take_add_one, List.map_append, Ky.nth_get l k hk]
  simp only [hk, getElem?_pos, Option.toList_some, List.map_cons, List.map_nil]
  exact setOf_snoc _ _ _
theorem has_Kd (l : List Int) (x : Int) : Maps.has (Kd l) (.int .i64 x) = l.contains x := by
  unfold Kd
  rw [has_setOf _ _ _ (by intro y hy; obtain ⟨z, _, rfl⟩ := List.mem_map.1 hy; trivial), List.any_map, List.contains_eq_any_beq]
  congr 1
  funext y
  simp [Lit.sameKey]
  by_cases h : x = y
  · subst h; simp
  · rw [beq_eq_false_iff_ne.2 h, decide_eq_false (fun e => h e.symm)]

/-- A world that holds the set. -/
def Own (w : World) (b : Nat) (l : List Int) : Prop := w.ownsMap Tryz.prog 3 (unitElem (H := Unit)) b l.length (Kd l)
theorem Own.later {w w' : World} {b : Nat} {l : List Int} (h : Own w b l) (hb : Below w.heap.size w w') : Own w' b l := by
  have hlt := World.ownsMap.lt h
  obtain ⟨es, clock, h1, h2⟩ := h
  exact ⟨es, clock, by rw [hb.block _ hlt]; exact h1, h2⟩

theorem wf_small {x : Int} (h0 : -1000 ≤ x) (h1 : x ≤ 1000) : (Lit.int .i64 x).wf = true := WalkArith.wf_i64 (by omega)

theorem small_ok {l : List Int} (h : Ky.keysOk l = true) : (∀ i, i < l.length → 1 ≤ Ky.nth l i ∧ Ky.nth l i ≤ 6) ∧ l.length ≤ 1000 := ⟨(Ky.good_get h).1, Nat.le_trans (Ky.ok_len h) (by omega)⟩

theorem Ins.one (w : World) (x : Int) (t : TypeId) : Ins (w.alloc (.cells #[.int .i64 x] t)) (.slice (some ⟨w.heap.size, 0, none⟩) 1 1) [x] :=
  ⟨_, _, rfl, by simp, fun _ => ⟨w.heap.size, 0, rfl, by simp, fun i hi => by
    obtain rfl : i = 0 := by simpa using hi
    rw [World.cell?_alloc_new]
    rfl⟩⟩
end Go.Proofs.YtlnieobmhofkdaaGreat

/- Two laws on regions that draw their order: an operation whose guard is false is passed by; one that yields is taken, its place written out. -/
namespace Go.Proofs.YtlnieobmhofkdaaGreat
section
variable {P : Program} {ops : Array Oper} {Q : Exit → Act → World → Prop} {md : Region.Mode} {S : World → Prop}
theorem anyH_skip {i : Nat} {oi : Oper} {fuel : Nat} {listed : Array Bool} {a : Act} {w : World} (hi : ops[i]? = some oi)
    (hs : Region.noSelect ops = true) (hf : Region.free md ops listed i = true) (hr : (Region.ready md ops listed).contains i = true)
    (hQ : ∀ c a w, Q (.panic c) (a.put oi.dst undef) w → Q (.panic c) a w) (hw : Region.wanted oi (yielded ops a.tmps) = false) (hp : a.put oi.dst undef = a) (hS : S w)
    (h : wpAnyH P md ops Q S fuel (listed.setIfInBounds i true) a w) : wpAnyH P md ops Q S (fuel + 1) listed a w :=
  wpAnyH_take hi hs hf hr hQ (Or.inr ⟨hw, rfl⟩) hS (by rw [hp]; exact h)
theorem anyH_at {i : Nat} {oi : Oper} {v : Value} {d : Option Tmp} {fuel : Nat} {listed : Array Bool} {a : Act} {w : World} (hi : ops[i]? = some oi) (hd : oi.dst = d)
    (hs : Region.noSelect ops = true) (hf : Region.free md ops listed i = true) (hr : (Region.ready md ops listed).contains i = true)
    (hQ : ∀ c a w, Q (.panic c) (a.put oi.dst v) w → Q (.panic c) a w) (hw : Region.wanted oi (yielded ops a.tmps) = true) (hy : ∀ w, S w → (execOp a.eval oi).run P w = .ok (.value v) w) (hS : S w)
    (h : wpAnyH P md ops Q S fuel (listed.setIfInBounds i true) (a.put d v) w) : wpAnyH P md ops Q S (fuel + 1) listed a w :=
  wpAnyH_take hi hs hf hr hQ (Or.inl ⟨hw, hy⟩) hS (by rw [hd]; exact h)
end
end Go.Proofs.YtlnieobmhofkdaaGreat
