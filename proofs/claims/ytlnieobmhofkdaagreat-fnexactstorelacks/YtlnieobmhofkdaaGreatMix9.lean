import Derived.Test.YtlnieobmhofkdaaGreatBoxW
import Derived.Maps.OwnSet
import Derived.Maps.OwnOps
import Derived.Maps.Views
import Derived.Test.YtlnieobmhofkdaaGreatMix0
import Derived.Deep.RegionHeld3
/- A map of the call's own, from numbers to values of any kind: what it holds at each number (V), read and written at the operation. -/
namespace Go.Proofs.YtlnieobmhofkdaaGreat
set_option maxRecDepth 100000
open Go.RowKit Go.Maps

def heldE (v : Value) : Option (DataW Value × List MemPlace) := some (.held v, [])
def nilS : Value := .slice none 0 0
/-- Block b is a map of at most n entries; it holds V i at the number i, nil where there is none. -/
def MapV (w : World) (b n : Nat) (V : Int → Value) : Prop :=
  ∃ D : DataW Value, w.ownsMap Tryz.prog 3 heldE b n D ∧ ∀ i : Int, D.atKey (.int .i64 i) (.held nilS) = .held (V i)
theorem keyI : Keyed Tryz.prog 3 := int_keyed Tryz.underlying3
theorem MapV.made (w : World) : MapV (w.alloc (.map #[] 0)) w.heap.size 0 (fun _ => nilS) :=
  ⟨.map [], World.ownsMap_made _ _ _ _, fun _ => rfl⟩
theorem MapV.keep {w w' : World} {b n : Nat} {V : Int → Value} (h : MapV w b n V) (hb : w'.heap[b]? = w.heap[b]?) : MapV w' b n V := by
  obtain ⟨D, ⟨es, clock, h1, h2⟩, h3⟩ := h
  exact ⟨D, ⟨es, clock, by rw [hb]; exact h1, h2⟩, h3⟩
theorem MapV.lt {w : World} {b n : Nat} {V : Int → Value} (h : MapV w b n V) : b < w.heap.size := by
  obtain ⟨D, h1, h3⟩ := h
  exact World.ownsMap.lt h1
theorem MapV.later {w w' : World} {b n : Nat} {V : Int → Value} (h : MapV w b n V) (hb : Below w.heap.size w w') : MapV w' b n V := h.keep (hb.block _ h.lt)
theorem MapV.notCells {w : World} {b n : Nat} {V : Int → Value} (h : MapV w b n V) {c : Array Value} {t : TypeId} {f : Nat × Nat} : w.heap[b]? ≠ some (.cells c t f) := by
  obtain ⟨D, ⟨es, clock, h1, _⟩, _⟩ := h
  rw [h1]
  intro e
  cases e
theorem keyOfI {i : Int} (h0 : -9223372036854775808 ≤ i) (h1 : i ≤ 9223372036854775807) : keyOf Tryz.prog 3 (.int .i64 i) = some (.int .i64 i) := keyOf_int_mk Tryz.underlying3 (WalkArith.wf_i64 (by omega))
/-- What is held at a number. -/
theorem MapV.look {w : World} {b n : Nat} {V : Int → Value} {t e : TypeId} {i : Int} (h : MapV w b n V) (ht : Tryz.prog.underlying t = some (.map 3 e)) (hz : (zeroValue e).run Tryz.prog w = .ok nilS w) (h0 : -9223372036854775808 ≤ i) (h1 : i ≤ 9223372036854775807) :
    (Instr.lookup t (.map (some b)) (.int .i64 i) false).run Tryz.prog w = .ok (V i) w := by
  obtain ⟨D, ho, hV⟩ := h
  obtain ⟨v, ps, hr, hv⟩ := ho.lookup keyI ht hz (zd := .held nilS) (zp := []) rfl (keyOfI h0 h1)
  rw [hV] at hv
  unfold heldE at hv
  injection hv with hv
  injection hv with hv _
  injection hv with hv
  rw [hr, hv]
theorem MapV.put {w : World} {b n : Nat} {V : Int → Value} {t e : TypeId} {i : Int} {v : Value} (h : MapV w b n V) (ht : Tryz.prog.underlying t = some (.map 3 e)) (hn : n < maxLen) (h0 : -9223372036854775808 ≤ i) (h1 : i ≤ 9223372036854775807) :
    ∃ w', (Instr.mapUpdate t (.map (some b)) (.int .i64 i) v).run Tryz.prog w = .ok () w' ∧ MapV w' b (n + 1) (fun j => if j = i then v else V j) ∧ w.grownBy w' (some b) := by
  obtain ⟨D, ho, hV⟩ := h
  obtain ⟨w', hr, ho', ht'⟩ := ho.store (val := v) keyI ht hn (keyOfI h0 h1) rfl
  refine ⟨w', hr, ⟨_, ho', fun j => ?_⟩, ht'.grown⟩
  show _ = DataW.held (if j = i then v else V j)
  by_cases hj : j = i
  · subst hj
    rw [if_pos rfl]
    exact atKey_put_same (k := .int .i64 j) (World.ownsMap.isMap ho) (show WideAt.IsKeyLit (.int .i64 j) from trivial) _ _
  · rw [if_neg hj, atKey_put_other (by intro e; injection e with _ e; exact hj e)]
    exact hV j
theorem wpList_lookV (w : World) {ops : Array Oper} {rest : List Oper} {o : Oper} {a : Act} {Q : Exit → Act → World → Prop}
    (hg : o.guard = none) (m x : Operand) (t : TypeId) (hop : o.op = Op.lookup t m x false) (e : TypeId) (ht : Tryz.prog.underlying t = some (.map 3 e)) (hz : (zeroValue e).run Tryz.prog w = .ok nilS w) (b n : Nat) (V : Int → Value)
    (hm : a.eval m = .map (some b)) (h : MapV w b n V) (i : Int) (hx : a.eval x = .int .i64 i) (h0 : -9223372036854775808 ≤ i) (h1 : i ≤ 9223372036854775807)
    (hK : wpList Tryz.prog ops Q rest (a.put o.dst (V i)) w) : wpList Tryz.prog ops Q (o :: rest) a w := by
  refine wpList_plain hg fun K' hK' => ?_
  have hrun := h.look ht hz h0 h1
  unfold Oper.wp
  simp [execOp, hop, hm, hx, hrun, Result.andThen]
  exact hK' _ _ hK
theorem wp_putV (w : World) {o : Oper} {a : Act} {K : Act → World → Prop} {Q : Exit → Act → World → Prop}
    (m x y : Operand) (t : TypeId) (hop : o.op = Op.mapUpdate t m x y) (e : TypeId) (ht : Tryz.prog.underlying t = some (.map 3 e)) (b n : Nat) (V : Int → Value)
    (hm : a.eval m = .map (some b)) (h : MapV w b n V) (hn : n < maxLen) (i : Int) (hx : a.eval x = .int .i64 i) (v : Value) (hy : a.eval y = v) (h0 : -9223372036854775808 ≤ i) (h1 : i ≤ 9223372036854775807)
    (hK : ∀ w', MapV w' b (n + 1) (fun j => if j = i then v else V j) → w.grownBy w' (some b) → K (a.put o.dst undef) w') : o.wp Tryz.prog a w K Q := by
  obtain ⟨w', hrun, r1, r2⟩ := h.put (v := v) ht hn h0 h1
  unfold Oper.wp
  simp [execOp, hop, hm, hx, hy, hrun, Result.andThen]
  exact hK w' r1 r2
theorem run_lookV {w : World} {o : Oper} {a : Act} (m x : Operand) (t : TypeId) (hop : o.op = Op.lookup t m x false) (e : TypeId) (ht : Tryz.prog.underlying t = some (.map 3 e)) (hz : (zeroValue e).run Tryz.prog w = .ok nilS w) (b n : Nat) (V : Int → Value)
    (hm : a.eval m = .map (some b)) (h : MapV w b n V) (i : Int) (hx : a.eval x = .int .i64 i) (h0 : -9223372036854775808 ≤ i) (h1 : i ≤ 9223372036854775807) : (execOp a.eval o).run Tryz.prog w = .ok (.value (V i)) w := by
  have hrun := h.look ht hz h0 h1
  simp [execOp, hop, hm, hx, hrun, Result.andThen]
end Go.Proofs.YtlnieobmhofkdaaGreat

/- Laws on regions that draw their order and end in one store that waits for all else: what holds ahead of that store serves all that come up ahead of it. -/
namespace Go.Proofs.YtlnieobmhofkdaaGreat
section
variable {P : Program} {ops : Array Oper} {Q : Exit → Act → World → Prop} {md : Region.Mode} {S : World → Prop} {s : Nat}

/-- Whatever comes up from here on; S holds behind each but number s. -/
def AnyL (P : Program) (md : Region.Mode) (ops : Array Oper) (Q : Exit → Act → World → Prop) (S : World → Prop) (s : Nat) : Nat → Array Bool → Act → World → Prop
  | 0, L, a, w => Region.ready md ops L = [] ∧ Q .normal a w
  | n + 1, L, a, w => (Region.ready md ops L = [] → Q .normal a w) ∧ ∀ i ∈ Region.ready md ops L, wpOp P ops Q i (fun a' w' => (i ≠ s → S w') ∧ AnyL P md ops Q S s n (L.setIfInBounds i true) a' w') a w
theorem AnyL.any : ∀ (n : Nat) (L : Array Bool) (a : Act) (w : World), AnyL P md ops Q S s n L a w → wpAny P md ops Q n L a w
  | 0, _, _, _, h => h
  | n + 1, _, _, _, h => ⟨h.1, fun i hi => wpOp_mono (fun a' w' h' => AnyL.any n _ a' w' h'.2) (h.2 i hi)⟩

/-- What has come up has all behind it for which it waited. -/
def Down (md : Region.Mode) (ops : Array Oper) (L : Array Bool) : Prop := ∀ (k : Nat) (o : Oper), ops[k]? = some o → L.getD k false = true → ∀ e ∈ o.after, Region.binds md e = true → L.getD e.on false = true
/-- Number y waits, by steps, for number i. -/
def reachB (md : Region.Mode) (ops : Array Oper) (i : Nat) : Nat → Nat → Bool
  | 0, _ => false
  | n + 1, y => match ops[y]? with
    | some o => o.after.any fun e => Region.binds md e && (e.on == i || reachB md ops i n e.on)
    | none => false
theorem reach {L : Array Bool} (hd : Down md ops L) {i : Nat} : ∀ (n y : Nat) (o : Oper), ops[y]? = some o → reachB md ops i n y = true → (∀ e ∈ o.after, Region.binds md e = true → L.getD e.on false = true) → L.getD i false = true
  | 0, _, _, _, h, _ => by cases h
  | n + 1, y, o, ho, h, he => by
    unfold reachB at h
    rw [ho] at h
    simp only [Array.any_eq_true'] at h
    obtain ⟨e, hm, h⟩ := h
    rw [Bool.and_eq_true, Bool.or_eq_true] at h
    obtain ⟨hb, h | h⟩ := h
    · have : e.on = i := by simpa using h
      rw [← this]
      exact he e hm hb
    · have h1 := he e hm hb
      cases ho' : ops[e.on]? with
      | none =>
        cases n with
        | zero => cases h
        | succ n => unfold reachB at h; rw [ho'] at h; cases h
      | some o' => exact reach hd n e.on o' ho' h (fun e' hm' hb' => hd e.on o' ho' h1 e' hm' hb')
/-- Number s does not come up ahead of number i. -/
theorem not_last {L : Array Bool} (hd : Down md ops L) {i n : Nat} (hr : reachB md ops i n s = true) (hi : L.getD i true = false) : s ∉ Region.ready md ops L := by
  intro h
  obtain ⟨_, o, ho, hall⟩ := mem_ready.1 h
  have := reach hd n s o ho hr hall
  rcases Nat.lt_or_ge i L.size with h' | h'
  · simp [h'] at hi this; rw [hi] at this; cases this
  · simp [Array.getElem?_eq_none h'] at hi
theorem Down.step {L : Array Bool} (hd : Down md ops L) {j : Nat} (hj : j ∈ Region.ready md ops L) : Down md ops (L.setIfInBounds j true) := by
  intro k o ho hk e he hb
  by_cases hjk : j = k
  · subst hjk
    obtain ⟨_, o', ho', hall⟩ := mem_ready.1 hj
    rw [ho] at ho'
    injection ho' with ho'
    subst ho'
    exact getD_set_true (hall e he hb)
  · exact getD_set_true (hd k o ho (by rw [getD_set_ne false hjk] at hk; exact hk) e he hb)

/-- A number that may come up, and whose value is the same in all worlds that meet S, comes up first. -/
theorem AnyL.first {i : Nat} {oi : Oper} {v : Value} {m : Nat} (hi : ops[i]? = some oi) (hsel : ∀ (j : Nat) (o : Oper) cs b, ops[j]? = some o → o.op ≠ .select cs b)
    (hQ : ∀ c a w, Q (.panic c) (a.put oi.dst v) w → Q (.panic c) a w) (hr : reachB md ops i m s = true) :
    ∀ (n : Nat) (L : Array Bool) (a : Act) (w : World), Down md ops L →
      (∀ j oj, ops[j]? = some oj → j ≠ i → L.getD j true = false → (∀ e ∈ oj.after, Region.binds md e = true → e.on ≠ i) → oi.apart ops oj = true) →
      i ∈ Region.ready md ops L → YieldsIf P ops S oi v a → S w → AnyL P md ops Q S s n (L.setIfInBounds i true) (a.put oi.dst v) w → AnyL P md ops Q S s (n + 1) L a w := by
  intro n
  induction n with
  | zero =>
    intro L a w _ _ hir hy hS H
    refine ⟨fun h => (by rw [h] at hir; cases hir), fun j hj => ?_⟩
    rcases Nat.decEq j i with hji | hji
    · have := ready_mono hj hji
      rw [H.1] at this
      cases this
    · subst hji
      exact hy.wpOp hi hS ⟨fun _ => hS, H⟩
  | succ n ih =>
    intro L a w hd hfree hir hy hS H
    refine ⟨fun h => (by rw [h] at hir; cases hir), fun j hj => ?_⟩
    rcases Nat.decEq j i with hji | hji
    · have hjs : j ≠ s := fun e => not_last hd hr (mem_ready.1 hir).1 (e ▸ hj)
      obtain ⟨hjun, oj, hoj, hall⟩ := mem_ready.1 hj
      have hnot : ∀ e ∈ oj.after, Region.binds md e = true → e.on ≠ i := fun e he hb heq => by
        have h1 := hall e he hb
        have h0 := (mem_ready.1 hir).1
        rw [heq] at h1
        rcases Nat.lt_or_ge i L.size with h' | h'
        · simp [h'] at h0 h1; rw [h0] at h1; cases h1
        · simp [Array.getElem?_eq_none h'] at h1
      refine wpOp_mono (fun a' w' h3 => ?_) (wpOp_putIf hoj (hfree j oj hoj hji hjun hnot) (fun cs b => hsel i oi cs b hi) (fun cs b => hsel j oj cs b hoj) hQ hy (H.2 j (ready_mono hj hji)))
      have hS' := h3.2.1 hjs
      refine ⟨fun _ => hS', ih _ a' w' (hd.step hj) (fun k ok hk hki hun hno => hfree k ok hk hki ?_ hno) (ready_mono hir (Ne.symm hji)) h3.1 hS' ?_⟩
      · rcases Nat.decEq j k with hjk | hjk
        · rw [getD_set_ne true hjk] at hun; exact hun
        · subst hjk; exact hjun
      · rw [Array.setIfInBounds_comm _ _ hji]
        exact h3.2.2
    · subst hji
      exact hy.wpOp hi hS ⟨fun _ => hS, H⟩

/-- The walk, shut (so that nobody unfolds it). -/
structure WL (P : Program) (ops : Array Oper) (Q : Exit → Act → World → Prop) (S : World → Prop) (s n : Nat) (L : Array Bool) (a : Act) (w : World) : Prop where
  out : AnyL P .any ops Q S s n L a w
def downB (ops : Array Oper) (L : Array Bool) : Bool := (List.range ops.size).all fun k => !L.getD k false || (match ops[k]? with
  | some o => o.after.all fun e => !Region.binds .any e || L.getD e.on false
  | none => true)
theorem down_of {L : Array Bool} (h : downB ops L = true) : Down .any ops L := by
  intro k o ho hk e he hb
  unfold downB at h
  rw [List.all_eq_true] at h
  have hlt : k < ops.size := by
    rcases Nat.lt_or_ge k ops.size with h1 | h1
    · exact h1
    · rw [Array.getElem?_eq_none h1] at ho; cases ho
  have := h k (List.mem_range.2 hlt)
  rw [hk, ho] at this
  simp only [Bool.not_true, Bool.false_or] at this
  rw [Array.all_eq_true'] at this
  have := this e he
  rw [hb] at this
  simpa using this
variable {a : Act} {w : World} {n : Nat} {L : Array Bool}
theorem wl_take {i : Nat} {oi : Oper} {v : Value} {d : Option Tmp} (hi : ops[i]? = some oi) (hd : oi.dst = d) (hs : Region.noSelect ops = true) (hf : Region.free .any ops L i = true) (hr : (Region.ready .any ops L).contains i = true)
    (hw : downB ops L = true) (hre : reachB .any ops i ops.size s = true) (hQ : ∀ c a w, Q (.panic c) (a.put oi.dst v) w → Q (.panic c) a w) (hwn : Region.wanted oi (yielded ops a.tmps) = true) (hy : ∀ w, S w → (execOp a.eval oi).run P w = .ok (.value v) w) (hS : S w)
    (h : WL P ops Q S s n (L.setIfInBounds i true) (a.put d v) w) : WL P ops Q S s (n + 1) L a w := by
  subst hd
  exact ⟨AnyL.first hi (Region.noSelect_spec hs) hQ hre n L a w (down_of hw) (Region.free_spec hi hf) (by simpa using hr) (.inl ⟨hwn, hy⟩) hS h.out⟩
theorem wl_one {i : Nat} {o : Oper} (hr : Region.ready .any ops L = [i]) (ho : ops[i]? = some o) (hwn : Region.wanted o (yielded ops a.tmps) = true)
    (h : ∀ K : Act → World → Prop, Shut (∀ a w, (i ≠ s → S w) → WL P ops Q S s n (L.setIfInBounds i true) a w → K a w) → Oper.wp P o a w K Q) : WL P ops Q S s (n + 1) L a w := by
  refine ⟨⟨fun h0 => (by rw [hr] at h0; cases h0), fun j hj => ?_⟩⟩
  rw [hr] at hj
  obtain rfl : j = i := by simpa using hj
  refine wpOp_step ho (fun K' hK => ?_)
  rw [if_pos hwn]
  exact h K' (fun a w hS hW => hK a w ⟨hS, hW.out⟩)
theorem wl_done (hr : Region.ready .any ops L = []) (h : Q .normal a w) : WL P ops Q S s n L a w := by
  cases n with
  | zero => exact ⟨⟨hr, h⟩⟩
  | succ n => exact ⟨⟨fun _ => h, fun i hi => by rw [hr] at hi; cases hi⟩⟩
theorem wl_region {id : Nat} (hm : P.follows .mixedOrders = true) (hS : S w.drew) (h : S w.drew → WL P ops Q S s ops.size (Array.replicate ops.size false) a w.drew) : (Code.region id ops true).wp P Q a w :=
  wp_region_any hm (AnyL.any _ _ _ _ (h hS).out)
end
end Go.Proofs.YtlnieobmhofkdaaGreat
