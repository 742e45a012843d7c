import Derived.Test.YtlnieobmhofkdaaGreatDoorSTrimDrawW
import Derived.Test.YtlnieobmhofkdaaGreatDoorMix14
import Derived.Test.YtlnieobmhofkdaaGreatDoorMix7
import Derived.Test.YtlnieobmhofkdaaGreatDoorMix12
import Derived.Test.YtlnieobmhofkdaaGreatDoorBoxW
import Derived.Maps.OwnSet
import Derived.Maps.OwnOps
import Derived.Maps.Views
import Derived.Test.YtlnieobmhofkdaaGreatDoorPksW
/- What spec.DrawStoreLacks returns: what DrawStoreTrim does. -/
namespace Go.Proofs.YtlnieobmhofkdaaGreatDoor
open Go.RowKit

set_option maxHeartbeats 4000000 in
set_option maxRecDepth 100000 in
theorem drawStoreLacks_any (w : World) (a : Option Addr) (len cap : Nat) (h : Bytes w a len cap) :
    Calls Tryz.prog 19 #[.slice a len cap] w fun e w' => ∃ (t : Tr.T) (kv mv v : Value) (s : List Ix.Pg), e = .returned (.tuple #[tvT t kv mv, v]) ∧ TrS w.heap.size w' t kv mv v s ∧ Below w.heap.size w w' := by
  have b0 := below1 w (.cells #[.int .i64 0, .slice none 0 0, .int .i64 0, .bool false, .int .i64 0, .int .i64 0, .slice none 0 0] 30)
  have HR := hide (heap_alloc_new w (.cells #[.int .i64 0, .slice none 0 0, .int .i64 0, .bool false, .int .i64 0, .int .i64 0, .slice none 0 0] 30))
  have H := hide (h.later b0)
  have BW := hide b0
  clear h b0
  go_enter Tryz.func19, Tryz.ntmps19
  go_wp2_with fail
  refine (drawStoreTrim_any _ a len cap (unhide H)).mono ?_
  generalize w.alloc _ = W1 at *
  rintro e w2 ⟨t, kv, mv, v, s, rfl, hts, b⟩
  obtain ⟨hks, hms, hsl, hok, hom, hpk⟩ := hts
  obtain ⟨n, ks, d, has, num, til, ms⟩ := t
  dsimp only at hks hms hok hom
  dsimp only [tvT, tv]
  obtain ⟨ka, kc, hkv⟩ := own_formS hok
  obtain ⟨ma, mc, hmv⟩ := own_formS hom
  obtain ⟨sa, sc, hsv⟩ := hpk.slice
  subst hkv hmv hsv
  have hle := (unhide BW).size
  have hlr := heapLt (unhide HR)
  replace HR := hide ((b.block _ (heapLt (unhide HR))).trans (unhide HR))
  replace BW := hide ((unhide BW).trans (b.mono (unhide BW).size))
  have OK := hide hok
  have OM := hide hom
  have PK := hide hpk
  clear b hok hom hpk H
  obtain ⟨g0, g1, g2, g3, g4, g5, g6⟩ : _ ∧ _ ∧ _ ∧ _ ∧ _ ∧ _ ∧ _ := ⟨frozenOf (unhide HR) 0, frozenOf (unhide HR) 1, frozenOf (unhide HR) 2, frozenOf (unhide HR) 3, frozenOf (unhide HR) 4, frozenOf (unhide HR) 5, frozenOf (unhide HR) 6⟩
  obtain ⟨r0, r1, r2, r3, r4, r5, r6⟩ : _ ∧ _ ∧ _ ∧ _ ∧ _ ∧ _ ∧ _ := ⟨cellOf (unhide HR) 0, cellOf (unhide HR) 1, cellOf (unhide HR) 2, cellOf (unhide HR) 3, cellOf (unhide HR) 4, cellOf (unhide HR) 5, cellOf (unhide HR) 6⟩
  go_wp2
  obtain ⟨⟨q0, q1, q2, q3, q4, q5, q6⟩, ok5, om5, b5, hfar⟩ := finT (W := w) (n := n) (d := d) (has := has) (num := num) (til := til) (unhide HR) (Nat.le_refl _) (unhide BW) (own_base' (unhide OK) hle) (own_base' (unhide OM) hle) rfl
  exact bodyPost_ret (v := .tuple #[.agg #[.int .i64 n, .slice ka ks.length kc, .int .i64 d, .bool has, .int .i64 num, .int .i64 til, .slice ma ms.length mc], .slice sa s.length sc]) (by simp [results, Tryz.results19, go_sem, q0, q1, q2, q3, q4, q5, q6]) rfl
    ⟨⟨n, ks, d, has, num, til, ms⟩, _, _, _, s, rfl, ⟨hks, hms, hsl, ok5, om5, ((unhide PK).keep (by simp only [World.setCell, Array.size_modify]; exact Nat.le_refl _) (fun j _ hj => hfar j (by omega))).weak (fun b hb => by omega)⟩, b5⟩
end Go.Proofs.YtlnieobmhofkdaaGreatDoor

/- What spec.StoreNewest returns: the newest of a name, a copy; for every row of packages that can be read. -/
namespace Go.Proofs.YtlnieobmhofkdaaGreatDoor
open Go.RowKit

/-- What StoreNewest answers. -/
def NewAns (B : Nat) (w : World) (v : Value) (a : Ix.Pg × Bool) : Prop :=
  ∃ fv dv, v = .tuple #[.agg #[.int .i64 a.1.1, .int .i64 a.1.2.1, fv, dv], .bool a.2] ∧ OwP B w fv dv a.1.2.2.1 a.1.2.2.2
theorem NewAns.later {B : Nat} {w w' : World} {v : Value} {a : Ix.Pg × Bool} (h : NewAns B w v a) (hb : Below w.heap.size w w') : NewAns B w' v a := by
  obtain ⟨fv, dv, h1, h2⟩ := h
  exact ⟨fv, dv, h1, h2.later hb⟩
theorem NewAns.base {B B' : Nat} {w : World} {v : Value} {a : Ix.Pg × Bool} (h : NewAns B w v a) (hB : B' ≤ B) : NewAns B' w v a := by
  obtain ⟨fv, dv, h1, h2⟩ := h
  exact ⟨fv, dv, h1, h2.base hB⟩
theorem NewAns.none (B : Nat) (w : World) {l : List Ix.Pg} {n : Int} (h : Ix.newA l n = ((0, 0, [], []), false)) : NewAns B w (.tuple #[.agg #[.int .i64 0, .int .i64 0, .slice none 0 0, .slice none 0 0], .bool false]) (Ix.newA l n) := by
  rw [h]
  exact ⟨_, _, rfl, OwP.zero _ _⟩

/-- What a package's box answers with. -/
theorem newAns_box {W w w' : World} {R : Nat} {a : Ix.Pg × Bool} {r0 r1 r2 r3 fv dv : Value} (hR : w.heap[R]? = some (.cells #[r0, r1, r2, r3] 42 (0, 0))) (lR : W.heap.size ≤ R) (hb : Below W.heap.size W w) (ho : OwP W.heap.size w fv dv a.1.2.2.1 a.1.2.2.2)
    (hw : w' = (((w.setCell ⟨R, 0, none⟩ (.int .i64 a.1.1)).setCell ⟨R, 1, none⟩ (.int .i64 a.1.2.1)).setCell ⟨R, 2, none⟩ fv).setCell ⟨R, 3, none⟩ dv) :
    (w'.cell? ⟨R, 0, none⟩ = some (.int .i64 a.1.1) ∧ w'.cell? ⟨R, 1, none⟩ = some (.int .i64 a.1.2.1) ∧ w'.cell? ⟨R, 2, none⟩ = some fv ∧ w'.cell? ⟨R, 3, none⟩ = some dv) ∧ NewAns W.heap.size w' (.tuple #[.agg #[.int .i64 a.1.1, .int .i64 a.1.2.1, fv, dv], .bool a.2]) a ∧ Below W.heap.size W w' := by
  obtain ⟨q, hbel, hfar⟩ := fin4 hR lR hb hw
  exact ⟨q, ⟨_, _, rfl, ⟨own_keepS ho.f (fun g _ e _ _ => hfar g (fun e2 => own_ne ho.f hR (by decide) (by rw [e, e2]))), own_keepS ho.d (fun g _ e _ _ => hfar g (fun e2 => own_ne ho.d hR (by decide) (by rw [e, e2])))⟩⟩, hbel⟩

end Go.Proofs.YtlnieobmhofkdaaGreatDoor

/- A map of the call's own, from numbers to values of any kind: what it holds at each number (V), read and written at the operation. -/
namespace Go.Proofs.YtlnieobmhofkdaaGreatDoor
set_option maxRecDepth 100000
open Go.RowKit Go.Maps

def heldE (v : Value) : Option (DataW Value × List MemPlace) := some (.held v, [])
def nilS : Value := .slice none 0 0
/-- Block b is a map of at most n entries; it holds V i at the number i, nil where there is none. -/
def MapV (w : World) (b n : Nat) (V : Int → Value) : Prop :=
  ∃ D : DataW Value, w.ownsMap Tryz.prog 3 heldE b n D ∧ ∀ i : Int, D.atKey (.int .i64 i) (.held nilS) = .held (V i)
theorem keyI : Keyed Tryz.prog 3 := int_keyed Tryz.underlying3
theorem MapV.made (w : World) : MapV (w.alloc (.map #[] 0)) w.heap.size 0 (fun _ => nilS) :=
  ⟨.map [], World.ownsMap_made _ _ _ _, fun _ => rfl⟩
theorem MapV.keep {w w' : World} {b n : Nat} {V : Int → Value} (h : MapV w b n V) (hb : w'.heap[b]? = w.heap[b]?) : MapV w' b n V := by
  obtain ⟨D, ⟨es, clock, h1, h2⟩, h3⟩ := h
  exact ⟨D, ⟨es, clock, by rw [hb]; exact h1, h2⟩, h3⟩
theorem MapV.lt {w : World} {b n : Nat} {V : Int → Value} (h : MapV w b n V) : b < w.heap.size := by
  obtain ⟨D, h1, h3⟩ := h
  exact World.ownsMap.lt h1
theorem MapV.later {w w' : World} {b n : Nat} {V : Int → Value} (h : MapV w b n V) (hb : Below w.heap.size w w') : MapV w' b n V := h.keep (hb.block _ h.lt)
theorem MapV.notCells {w : World} {b n : Nat} {V : Int → Value} (h : MapV w b n V) {c : Array Value} {t : TypeId} {f : Nat × Nat} : w.heap[b]? ≠ some (.cells c t f) := by
  obtain ⟨D, ⟨es, clock, h1, _⟩, _⟩ := h
  rw [h1]
  intro e
  cases e
theorem keyOfI {i : Int} (h0 : -9223372036854775808 ≤ i) (h1 : i ≤ 9223372036854775807) : keyOf Tryz.prog 3 (.int .i64 i) = some (.int .i64 i) := keyOf_int_mk Tryz.underlying3 (WalkArith.wf_i64 (by omega))
/-- What is held at a number. -/
theorem MapV.look {w : World} {b n : Nat} {V : Int → Value} {t e : TypeId} {i : Int} (h : MapV w b n V) (ht : Tryz.prog.underlying t = some (.map 3 e)) (hz : (zeroValue e).run Tryz.prog w = .ok nilS w) (h0 : -9223372036854775808 ≤ i) (h1 : i ≤ 9223372036854775807) :
    (Instr.lookup t (.map (some b)) (.int .i64 i) false).run Tryz.prog w = .ok (V i) w := by
  obtain ⟨D, ho, hV⟩ := h
  obtain ⟨v, ps, hr, hv⟩ := ho.lookup keyI ht hz (zd := .held nilS) (zp := []) rfl (keyOfI h0 h1)
  rw [hV] at hv
  unfold heldE at hv
  injection hv with hv
  injection hv with hv _
  injection hv with hv
  rw [hr, hv]
theorem MapV.put {w : World} {b n : Nat} {V : Int → Value} {t e : TypeId} {i : Int} {v : Value} (h : MapV w b n V) (ht : Tryz.prog.underlying t = some (.map 3 e)) (hn : n < maxLen) (h0 : -9223372036854775808 ≤ i) (h1 : i ≤ 9223372036854775807) :
    ∃ w', (Instr.mapUpdate t (.map (some b)) (.int .i64 i) v).run Tryz.prog w = .ok () w' ∧ MapV w' b (n + 1) (fun j => if j = i then v else V j) ∧ w.grownBy w' (some b) := by
  obtain ⟨D, ho, hV⟩ := h
  obtain ⟨w', hr, ho', ht'⟩ := ho.store (val := v) keyI ht hn (keyOfI h0 h1) rfl
  refine ⟨w', hr, ⟨_, ho', fun j => ?_⟩, ht'.grown⟩
  show _ = DataW.held (if j = i then v else V j)
  by_cases hj : j = i
  · subst hj
    rw [if_pos rfl]
    exact atKey_put_same (k := .int .i64 j) (World.ownsMap.isMap ho) (show WideAt.IsKeyLit (.int .i64 j) from trivial) _ _
  · rw [if_neg hj, atKey_put_other (by intro e; injection e with _ e; exact hj e)]
    exact hV j
theorem wpList_lookV (w : World) {ops : Array Oper} {rest : List Oper} {o : Oper} {a : Act} {Q : Exit → Act → World → Prop}
    (hg : o.guard = none) (m x : Operand) (t : TypeId) (hop : o.op = Op.lookup t m x false) (e : TypeId) (ht : Tryz.prog.underlying t = some (.map 3 e)) (hz : (zeroValue e).run Tryz.prog w = .ok nilS w) (b n : Nat) (V : Int → Value)
    (hm : a.eval m = .map (some b)) (h : MapV w b n V) (i : Int) (hx : a.eval x = .int .i64 i) (h0 : -9223372036854775808 ≤ i) (h1 : i ≤ 9223372036854775807)
    (hK : wpList Tryz.prog ops Q rest (a.put o.dst (V i)) w) : wpList Tryz.prog ops Q (o :: rest) a w := by
  refine wpList_plain hg fun K' hK' => ?_
  have hrun := h.look ht hz h0 h1
  unfold Oper.wp
  simp [execOp, hop, hm, hx, hrun, Result.andThen]
  exact hK' _ _ hK
theorem wp_putV (w : World) {o : Oper} {a : Act} {K : Act → World → Prop} {Q : Exit → Act → World → Prop}
    (m x y : Operand) (t : TypeId) (hop : o.op = Op.mapUpdate t m x y) (e : TypeId) (ht : Tryz.prog.underlying t = some (.map 3 e)) (b n : Nat) (V : Int → Value)
    (hm : a.eval m = .map (some b)) (h : MapV w b n V) (hn : n < maxLen) (i : Int) (hx : a.eval x = .int .i64 i) (v : Value) (hy : a.eval y = v) (h0 : -9223372036854775808 ≤ i) (h1 : i ≤ 9223372036854775807)
    (hK : ∀ w', MapV w' b (n + 1) (fun j => if j = i then v else V j) → w.grownBy w' (some b) → K (a.put o.dst undef) w') : o.wp Tryz.prog a w K Q := by
  obtain ⟨w', hrun, r1, r2⟩ := h.put (v := v) ht hn h0 h1
  unfold Oper.wp
  simp [execOp, hop, hm, hx, hy, hrun, Result.andThen]
  exact hK w' r1 r2
theorem run_lookV {w : World} {o : Oper} {a : Act} (m x : Operand) (t : TypeId) (hop : o.op = Op.lookup t m x false) (e : TypeId) (ht : Tryz.prog.underlying t = some (.map 3 e)) (hz : (zeroValue e).run Tryz.prog w = .ok nilS w) (b n : Nat) (V : Int → Value)
    (hm : a.eval m = .map (some b)) (h : MapV w b n V) (i : Int) (hx : a.eval x = .int .i64 i) (h0 : -9223372036854775808 ≤ i) (h1 : i ≤ 9223372036854775807) : (execOp a.eval o).run Tryz.prog w = .ok (.value (V i)) w := by
  have hrun := h.look ht hz h0 h1
  simp [execOp, hop, hm, hx, hrun, Result.andThen]
end Go.Proofs.YtlnieobmhofkdaaGreatDoor

/- What cmp.Compare, impl.verAgainst and slices.BinarySearchFunc return: where a version is, or would be, among packages ascending by version. -/
namespace Go.Proofs.YtlnieobmhofkdaaGreatDoor
open Go.RowKit

def cmpI (x y : Int) : Int := if x < y then -1 else if y < x then 1 else 0
theorem isNaN_any (x : Int) (w : World) : Calls Tryz.prog 154 #[.int .i64 x] w fun e w' => e = .returned (.bool false) ∧ w' = w := by
  have h : (x != x) = false := by simp
  go_enter Tryz.func154, Tryz.ntmps154
  go_wp2
  go_ret
  exact ⟨rfl, rfl⟩
set_option maxHeartbeats 1000000 in
set_option maxRecDepth 100000 in
theorem cmpI_any (x y : Int) (w : World) : Calls Tryz.prog 136 #[.int .i64 x, .int .i64 y] w fun e w' => e = .returned (.int .i64 (cmpI x y)) ∧ w' = w := by
  have hc : (x < y ∧ cmpI x y = -1) ∨ (¬ x < y ∧ y < x ∧ cmpI x y = 1) ∨ (¬ x < y ∧ ¬ y < x ∧ cmpI x y = 0) := by
    unfold cmpI
    by_cases h1 : x < y
    · exact .inl ⟨h1, by rw [if_pos h1]⟩
    by_cases h2 : y < x
    · exact .inr (.inl ⟨h1, h2, by rw [if_neg h1, if_pos h2]⟩)
    · exact .inr (.inr ⟨h1, h2, by rw [if_neg h1, if_neg h2]⟩)
  have n1 := fun W => isNaN_any x W
  have n2 := fun W => isNaN_any y W
  rcases hc with ⟨h1, hr⟩ | ⟨h1, h2, hr⟩ | ⟨h1, h2, hr⟩
  all_goals
    rw [hr]
    clear hr
    go_enter Tryz.func136, Tryz.ntmps136
    go_wp2_with (first | (refine (n1 _).mono ?_; rintro e w' ⟨rfl, rfl⟩) | (refine (n2 _).mono ?_; rintro e w' ⟨rfl, rfl⟩))
    go_ret
    exact ⟨rfl, rfl⟩
set_option maxHeartbeats 1000000 in
set_option maxRecDepth 100000 in
theorem verAgainst_any (nm vr x : Int) (fa da : Option Addr) (fn fc dn dc : Nat) (w : World) : Calls Tryz.prog 95 #[.agg #[.int .i64 nm, .int .i64 vr, .slice fa fn fc, .slice da dn dc], .int .i64 x] w fun e w' => e = .returned (.int .i64 (cmpI vr x)) ∧ Below w.heap.size w w' := by
  have b0 := below1 w (.cells #[.int .i64 nm, .int .i64 vr, .slice fa fn fc, .slice da dn dc] 42)
  have c := fun W => cmpI_any vr x W
  generalize cmpI vr x = r at *
  have B0 := hide b0
  clear b0
  go_enter Tryz.func95, Tryz.ntmps95
  go_wp2_with (refine (c _).mono ?_; rintro e w' ⟨rfl, rfl⟩)
  go_ret
  exact ⟨rfl, unhide B0⟩
theorem cmpI_neg {x y : Int} (h : x < y) : cmpI x y = -1 := by unfold cmpI; rw [if_pos h]
theorem cmpI_pos {x y : Int} (h : y < x) : cmpI x y = 1 := by unfold cmpI; rw [if_neg (by omega), if_pos h]
theorem cmpI_zero {x y : Int} (h : x = y) : cmpI x y = 0 := by unfold cmpI; rw [if_neg (by omega), if_neg (by omega)]

set_option maxHeartbeats 2000000 in
set_option maxRecDepth 100000 in
theorem search_any {N : Nat → Prop} (w : World) (v : Value) (l : List Ix.Pg) (x : Int) (h : Pks N w v l) (hl : l.length ≤ 1000) (hasc : ∀ i j, i < j → j < l.length → (Ix.pg l i).2.1 < (Ix.pg l j).2.1) :
    Calls Tryz.prog 94 #[v, .int .i64 x, .func (.func 95) #[] #[]] w fun e w' => ∃ k : Nat, e = .returned (.tuple #[.int .i64 k, .bool (decide (k < l.length) && decide ((Ix.pg l k).2.1 = x))]) ∧ k ≤ l.length ∧ (∀ i, i < k → (Ix.pg l i).2.1 < x) ∧ (∀ i, k ≤ i → i < l.length → x ≤ (Ix.pg l i).2.1) ∧ Below w.heap.size w w' := by
  have HASC := hide hasc
  clear hasc
  obtain ⟨a, cap, rfl, hlen, hrow⟩ := h
  have hcf : ∀ (p : Value) w', (callFunc 95 #[p, .int .i64 x]).run Tryz.prog w' = .ok (.enter 95 #[p, .int .i64 x]) w' := by intro p w'; kernel_rfl
  go_enter Tryz.func94, Tryz.ntmps94
  go_wp2
  go_loopw [9, 10] (fun i j wr => ∃ p q : Nat, i = .int .i64 p ∧ j = .int .i64 q ∧ p ≤ q ∧ q ≤ l.length ∧ (∀ k, k < p → (Ix.pg l k).2.1 < x) ∧ (∀ k, q ≤ k → k < l.length → x ≤ (Ix.pg l k).2.1) ∧ Below w.heap.size w wr) (fun i j _ => (intOf j).toNat - (intOf i).toNat)
  case atStart => exact ⟨0, l.length, rfl, rfl, Nat.zero_le _, Nat.le_refl _, fun k hk => absurd hk (Nat.not_lt_zero _), fun k h1 h2 => absurd h2 (by omega), Below.refl _ _⟩
  case round =>
    obtain ⟨p, q, rfl, rfl, hpq, hq, hlo, hhi, hw⟩ := hrel
    have HLO := hide hlo
    have HHI := hide hhi
    have HW := hide hw
    clear hlo hhi hw
    by_cases hlt : p < q
    · have hi1 : (p : Int) < (q : Int) := by omega
      obtain ⟨b, off, rfl, hb, _, hc⟩ := hrow (by omega)
      have hm1 : p ≤ (p + q) / 2 := by omega
      have hm2 : (p + q) / 2 < q := by omega
      obtain ⟨fv, dv, hAt, hf, hd⟩ := hc ((p + q) / 2) (by omega)
      obtain ⟨fa, fc, hfv⟩ := hf.slice
      obtain ⟨da, dc, hdv⟩ := hd.slice
      subst hfv hdv
      obtain ⟨c0, c1, c2, c3⟩ := hAt.keep ((unhide HW).block b hb)
      obtain ⟨vr, hvr⟩ : ∃ vr, (Ix.pg l ((p + q) / 2)).2.1 = vr := ⟨_, rfl⟩
      rw [hvr] at c1
      have HVR := hide hvr
      generalize (Ix.pg l ((p + q) / 2)).1 = nm at *
      generalize (Ix.pg l ((p + q) / 2)).2.2.1.length = fn at *
      generalize (Ix.pg l ((p + q) / 2)).2.2.2.length = dn at *
      have CV := hide (fun W => verAgainst_any nm vr x fa da fn fc dn dc W)
      clear hAt hf hd hc hrow hvr
      have hw1 : IntKind.i64.wrap ((p : Int) + (q : Int)) = (p : Int) + (q : Int) := by simp [IntKind.wrap, IntKind.bits, IntKind.signed]; omega
      have hw2 : IntKind.u64.wrap ((p : Int) + (q : Int)) = (p : Int) + (q : Int) := by simp [IntKind.wrap, IntKind.bits, IntKind.signed]; omega
      have hi2 : (0 : Int) ≤ ((p : Int) + (q : Int)) / 2 := by omega
      have hi3 : ((p : Int) + (q : Int)) / 2 < (l.length : Int) := by omega
      have hi4 : (((p : Int) + (q : Int)) / 2).toNat = (p + q) / 2 := by omega
      have hw4 : IntKind.i64.wrap (((p : Int) + (q : Int)) / 2 + 1) = ((p : Int) + (q : Int)) / 2 + 1 := by simp [IntKind.wrap, IntKind.bits, IntKind.signed]; omega
      have HMM := hide (And.intro hm1 hm2)
      clear hm1 hm2
      by_cases hvx : vr < x
      · rw [cmpI_neg hvx] at CV
        go_wp2_with fail
        refine (unhide CV _).mono ?_
        rintro e w2 ⟨rfl, hb2⟩
        have HB2 := hide ((unhide HW).trans (hb2.mono (unhide HW).size))
        clear hb2 CV c0 c1 c2 c3
        go_wp2
        go_roundw
        case rel => exact ⟨(p + q) / 2 + 1, q, by go_num, rfl, by have := (unhide HMM).2; omega, hq, fun k hk => by
            rcases Nat.lt_or_ge k ((p + q) / 2) with h1 | h1
            · exact Int.lt_trans (by have := unhide HASC k ((p + q) / 2) h1 (by have := (unhide HMM).2; omega); rwa [unhide HVR] at this) hvx
            · obtain rfl : k = (p + q) / 2 := by omega
              rw [unhide HVR]; exact hvx, unhide HHI, unhide HB2⟩
        case measure => have := (unhide HMM); simp [intOf]; omega
      · have hcn : ¬ cmpI vr x < 0 := by unfold cmpI; split; omega; split <;> omega
        generalize cmpI vr x = cv at *
        go_wp2_with fail
        refine (unhide CV _).mono ?_
        rintro e w2 ⟨rfl, hb2⟩
        have HB2 := hide ((unhide HW).trans (hb2.mono (unhide HW).size))
        clear hb2 CV c0 c1 c2 c3
        go_wp2
        go_roundw
        case rel => exact ⟨p, (p + q) / 2, rfl, by go_num, (unhide HMM).1, by have := (unhide HMM).2; omega, unhide HLO, fun k h1 h2 => by
            rcases Nat.lt_or_ge ((p + q) / 2) k with h3 | h3
            · have := unhide HASC ((p + q) / 2) k h3 h2
              rw [unhide HVR] at this
              omega
            · obtain rfl : k = (p + q) / 2 := by omega
              rw [unhide HVR]; omega, unhide HB2⟩
        case measure => have := (unhide HMM); simp [intOf]; omega
    · obtain rfl : p = q := by omega
      have hi1 : ¬ (p : Int) < (p : Int) := by omega
      clear hlt
      by_cases hend : p < l.length
      rotate_left
      · have hi2 : ¬ (p : Int) < (l.length : Int) := by omega
        have hdf : (decide (p < l.length) && decide ((Ix.pg l p).2.1 = x)) = false := by rw [decide_eq_false hend]; rfl
        have HDF := hide hdf
        clear hdf hend
        go_wp2
        go_ret2
        exact ⟨p, by rw [unhide HDF]; rfl, hq, unhide HLO, unhide HHI, unhide HW⟩
      · have hi2 : (p : Int) < (l.length : Int) := by omega
        have hi0 : (0 : Int) ≤ (p : Int) := Int.natCast_nonneg _
        obtain ⟨b, off, rfl, hb, _, hc⟩ := hrow (by omega)
        obtain ⟨fv, dv, hAt, hf, hd⟩ := hc p hend
        obtain ⟨fa, fc, hfv⟩ := hf.slice
        obtain ⟨da, dc, hdv⟩ := hd.slice
        subst hfv hdv
        obtain ⟨c0, c1, c2, c3⟩ := hAt.keep ((unhide HW).block b hb)
        obtain ⟨vr, hvr⟩ : ∃ vr, (Ix.pg l p).2.1 = vr := ⟨_, rfl⟩
        rw [hvr] at c1
        have hdf : (decide (p < l.length) && decide ((Ix.pg l p).2.1 = x)) = decide (cmpI vr x = 0) := by
          rw [decide_eq_true hend, Bool.true_and, hvr]
          have : vr = x ↔ cmpI vr x = 0 := by
            unfold cmpI
            constructor
            · intro h; rw [if_neg (by omega), if_neg (by omega)]
            · split
              · omega
              · split <;> omega
          simp only [this]
        have HDF := hide hdf
        generalize (Ix.pg l p).1 = nm at *
        generalize (Ix.pg l p).2.2.1.length = fn at *
        generalize (Ix.pg l p).2.2.2.length = dn at *
        have CV := hide (fun W => verAgainst_any nm vr x fa da fn fc dn dc W)
        clear hAt hf hd hc hrow hdf hend hvr
        generalize cmpI vr x = cv at *
        have hbe : (cv == 0) = decide (cv = 0) := by rfl
        go_wp2_with fail
        refine (unhide CV _).mono ?_
        rintro e w2 ⟨rfl, hb2⟩
        have HB2 := hide ((unhide HW).trans (hb2.mono (unhide HW).size))
        clear hb2 CV c0 c1 c2 c3
        go_wp2
        go_ret2
        exact ⟨p, by rw [unhide HDF]; rfl, hq, unhide HLO, unhide HHI, unhide HB2⟩
end Go.Proofs.YtlnieobmhofkdaaGreatDoor
