import Derived.RangeFuncNested
import Derived.RangeFuncBound
import Derived.RangeFuncCalls
import Derived.RangeFuncLeaves
import Derived.Shelf.Abstract
import Derived.Shelf.RegionOpen
import Derived.WalkKit
import Derived.OwnWalkIn
import Derived.TacticsInMore
import Derived.LoopNIn
import Derived.LoopIn
import Derived.Test.YtlnieobmhofkdaaGreatMix0
import Derived.Test.YtlnieobmhofkdaaGreatMathW
/- What impl.metasOf and its iterator do: the metas of an index, one behind the other; for every index. -/
namespace Go.Proofs.YtlnieobmhofkdaaGreat
open Go.RowKit Go.Shelf

attribute [local go_sem] Oper.semAt_some

/-- A slice of metas that can be read. -/
def Trs (w : World) (v : Value) (l : List Ix.M) : Prop :=
  ∃ a cap, v = .slice a l.length cap ∧ l.length ≤ 1000000000000 ∧ (0 < l.length → ∃ b off, a = some ⟨b, off, none⟩ ∧ b < w.heap.size ∧ ∀ i, i < l.length → w.cell? ⟨b, off + i * 3, none⟩ = some (.int .i64 (Ix.nm l i)) ∧ w.cell? ⟨b, off + i * 3 + 1, none⟩ = some (.int .i64 (Ix.vr l i)) ∧ w.cell? ⟨b, off + i * 3 + 2, none⟩ = some (.int .i64 (Ix.sm l i)))
theorem Trs.later {w w' : World} {v : Value} {l : List Ix.M} (h : Trs w v l) (hb : Below w.heap.size w w') : Trs w' v l := by
  obtain ⟨a, cap, hv, hl, hr⟩ := h
  refine ⟨a, cap, hv, hl, fun hp => ?_⟩
  obtain ⟨b, off, ha, hbs, hc⟩ := hr hp
  exact ⟨b, off, ha, Nat.lt_of_lt_of_le hbs hb.size, fun i hi => by rw [hb.cell hbs, hb.cell hbs, hb.cell hbs]; exact hc i hi⟩
theorem Trs.slice {w : World} {v : Value} {l : List Ix.M} (h : Trs w v l) : ∃ a cap, v = .slice a l.length cap := by
  obtain ⟨a, cap, hv, _⟩ := h
  exact ⟨a, cap, hv⟩

set_option maxRecDepth 100000 in
set_option maxHeartbeats 2000000 in
theorem metas1_in (n : Nat) (hn : 1 ≤ n) (l Bs n₀ b off cap : Nat) (zs : List Ix.M) (hlen : zs.length ≤ 1000000000000) (hb : b < n₀) (J Jx : Nat → World → Prop)
    (hA : ∀ s W, J s W → ∀ o, J s (W.alloc o))
    (hY : ∀ k W, J k W → k < zs.length → YieldAt Fence.wide (n - 1) Tryz.prog l #[.agg #[.int .i64 (Ix.nm zs k), .int .i64 (Ix.vr zs k), .int .i64 (Ix.sm zs k)]] W fun e W' =>
      (e = .returned (.bool true) ∧ J (k + 1) W' ∧ Below n₀ W W') ∨ (e = .returned (.bool false) ∧ Jx (k + 1) W'))
    (W : World) (hn₀ : n₀ ≤ W.heap.size) (hBs : W.cell? ⟨Bs, 2, none⟩ = some (.slice (some ⟨b, off, none⟩) zs.length cap)) (hc : ∀ j, j < zs.length → W.cell? ⟨b, off + j * 3, none⟩ = some (.int .i64 (Ix.nm zs j)) ∧ W.cell? ⟨b, off + j * 3 + 1, none⟩ = some (.int .i64 (Ix.vr zs j)) ∧ W.cell? ⟨b, off + j * 3 + 2, none⟩ = some (.int .i64 (Ix.sm zs j))) (h0 : J 0 W) :
    CallsIn Fence.wide n Tryz.prog 61 #[.func (.yield l) #[] #[], .pointer (some ⟨Bs, 0, none⟩)] W fun e W' => (∃ v, e = .returned v) ∧
      (J zs.length W' ∨ ∃ k, k ≤ zs.length ∧ Jx k W') := by
  refine callsIn_of_wp Tryz.func61 rfl trivial ?_ rfl
  simp only [Tryz.ntmps61, List.size_toArray, List.length_cons, List.length_nil, Nat.reduceAdd, Nat.reduceSub, Array.replicate_succ, Array.replicate_zero, List.push_toArray, List.append_toArray, List.nil_append, List.cons_append]
  gi_wp2
  gi_loopw [8] (fun i wr => ∃ k : Nat, k ≤ zs.length ∧ i = .int .i64 k ∧ J k wr ∧ Below n₀ W wr)
    (fun i _ => zs.length - (intOf i).toNat)
  case atStart => exact ⟨0, Nat.zero_le _, rfl, h0, Below.refl _ _⟩
  case round =>
    obtain ⟨k, hk, rfl, hJs, hnx⟩ := hrel
    have HJ := hide hJs
    have HX := hide hnx
    by_cases hlt : k < zs.length
    · obtain ⟨c0, c1, c2⟩ : wr.cell? ⟨b, off + k * 3, none⟩ = some (.int .i64 (Ix.nm zs k)) ∧ wr.cell? ⟨b, off + k * 3 + 1, none⟩ = some (.int .i64 (Ix.vr zs k)) ∧ wr.cell? ⟨b, off + k * 3 + 2, none⟩ = some (.int .i64 (Ix.sm zs k)) := by
        rw [hnx.cell hb, hnx.cell hb, hnx.cell hb]; exact hc k hlt
      obtain ⟨fn, tmps, assign, body, hy, hR⟩ := hY k (wr.alloc (.cells #[.int .i64 (Ix.nm zs k), .int .i64 (Ix.vr zs k), .int .i64 (Ix.sm zs k)] 60)) (hA _ _ hJs _) hlt
      have hb' : b < wr.heap.size := Nat.lt_of_lt_of_le hb (Nat.le_trans hn₀ hnx.size)
      have hi1 : (k : Int) < (zs.length : Int) := by omega
      have HC := hide hc
      have HA := hide hA
      clear hJs hnx hc hA hY
      gi_wp2
      refine hR.mono ?_
      rintro e W3 (⟨rfl, hJ3, hk3⟩ | ⟨rfl, hJx3⟩)
      · have HK3 := hide hk3
        have HJ3 := hide hJ3
        clear hk3 hJ3 hR hy
        gi_wp2
        go_roundw
        case rel => exact ⟨k + 1, by omega, by go_num, unhide HJ3, ((unhide HX).alloc (Nat.le_trans hn₀ (unhide HX).size) _).trans (unhide HK3)⟩
        case measure => simp [intOf]; omega
      · have HJX := hide hJx3
        clear hJx3 hR hy
        gi_wp2
        refine bodyPost_ret (results_none rfl _ _ _) rfl ?_
        exact ⟨⟨_, rfl⟩, .inr ⟨k + 1, by omega, unhide HJX⟩⟩
    · obtain rfl : k = zs.length := by omega
      clear hJs hnx hc hA hY
      gi_wp2
      go_end0
      exact ⟨⟨_, rfl⟩, .inl (unhide HJ)⟩

set_option maxRecDepth 100000 in
set_option maxHeartbeats 1000000 in
theorem metas1_nil_in (n l Bs : Nat) (a : Option Addr) (cap : Nat) (J : Nat → World → Prop) (W : World) (hBs : W.cell? ⟨Bs, 2, none⟩ = some (.slice a 0 cap)) (h0 : J 0 W) :
    CallsIn Fence.wide n Tryz.prog 61 #[.func (.yield l) #[] #[], .pointer (some ⟨Bs, 0, none⟩)] W fun e W' => (∃ v, e = .returned v) ∧ J 0 W' := by
  refine callsIn_of_wp Tryz.func61 rfl trivial ?_ rfl
  simp only [Tryz.ntmps61, List.size_toArray, List.length_cons, List.length_nil, Nat.reduceAdd, Nat.reduceSub, Array.replicate_succ, Array.replicate_zero, List.push_toArray, List.append_toArray, List.nil_append, List.cons_append]
  gi_wp2
  gi_loopw [8] (fun i wr => i = .int .i64 0 ∧ J 0 wr) (fun _ _ => 0)
  case atStart => exact ⟨rfl, h0⟩
  case round =>
    obtain ⟨rfl, hJs⟩ := hrel
    gi_wp2
    go_end0
    exact ⟨⟨_, rfl⟩, hJs⟩

set_option maxHeartbeats 1000000 in
/-- impl.metasOf: the index is boxed; the function value has the box. -/
theorem metasOf_in (n : Nat) (num til : Int) (a : Option Addr) (len cap : Nat) (w : World) :
    CallsIn Fence.wide n Tryz.prog 31 #[.agg #[.int .i64 num, .int .i64 til, .slice a len cap]] w fun e w' => e = .returned (.func (.func 61) #[] #[.pointer (some ⟨w.heap.size, 0, none⟩)]) ∧ w' = w.alloc (.cells #[.int .i64 num, .int .i64 til, .slice a len cap] 37) := by
  refine callsIn_of_wp Tryz.func31 rfl trivial ?_ rfl
  simp only [Tryz.ntmps31, List.size_toArray, List.length_cons, List.length_nil, Nat.reduceAdd, Nat.reduceSub, Array.replicate_succ, Array.replicate_zero, List.push_toArray, List.append_toArray, List.nil_append, List.cons_append]
  gi_wp2
  go_ret
  exact ⟨rfl, rfl⟩

/-- The iterator: all metas, in order; or a part; counted. -/
theorem metas_counts (n : Nat) (hn : 1 ≤ n) (Bs n₀ : Nat) (mv : Value) (zs : List Ix.M) (w : World) (hBs : Bs < w.heap.size) (hn₀ : n₀ ≤ w.heap.size) (hc : w.cell? ⟨Bs, 2, none⟩ = some mv)
    (w00 : World) (hw : w00.heap.size = n₀) (hT : Trs w00 mv zs) (hb0 : Below n₀ w00 w) (l : Nat) (J Jx : Nat → World → Prop) (W : World) (hW : Below w.heap.size w W) (hJ : ∀ s W, J s W → ∀ o, J s (W.alloc o))
    (hY : ∀ k W, J k W → k < zs.length → YieldAt Fence.wide (n - 1) Tryz.prog l #[.agg #[.int .i64 (Ix.nm zs k), .int .i64 (Ix.vr zs k), .int .i64 (Ix.sm zs k)]] W fun e W' =>
      (e = .returned (.bool true) ∧ J (k + 1) W' ∧ Below n₀ W W') ∨ (e = .returned (.bool false) ∧ Jx (k + 1) W')) (h0 : J 0 W) :
    CallsIn Fence.wide n Tryz.prog 61 #[.func (.yield l) #[] #[], .pointer (some ⟨Bs, 0, none⟩)] W fun e W' => (∃ v, e = .returned v) ∧ (J zs.length W' ∨ ∃ k, k ≤ zs.length ∧ Jx k W') := by
  have hc' := (hW.cell (p := ⟨Bs, 2, none⟩) hBs).trans hc
  obtain ⟨a, cap, rfl, hl, hr⟩ := hT
  rcases Nat.eq_zero_or_pos zs.length with h | h
  · obtain rfl := List.length_eq_zero_iff.1 h
    exact (metas1_nil_in n l Bs a cap J W hc' h0).mono fun e W' ⟨he, hj⟩ => ⟨he, .inl hj⟩
  · obtain ⟨b, off, rfl, hb, hcs⟩ := hr h
    have hB : Below n₀ w00 W := hb0.trans (hW.mono hn₀)
    have hb' : b < n₀ := by omega
    exact metas1_in n hn l Bs n₀ b off cap zs hl hb' J Jx hJ hY W (Nat.le_trans hn₀ hW.size) hc' (fun j hj => by rw [hB.cell hb', hB.cell hb', hB.cell hb']; exact hcs j hj) h0

/-- The iterator: all metas, in order; or a part. -/
theorem metas_stops (n : Nat) (hn : 1 ≤ n) (Bs n₀ : Nat) (mv : Value) (zs : List Ix.M) (w : World) (hBs : Bs < w.heap.size) (hn₀ : n₀ ≤ w.heap.size) (hc : w.cell? ⟨Bs, 2, none⟩ = some mv)
    (w00 : World) (hw : w00.heap.size = n₀) (hT : Trs w00 mv zs) (hb0 : Below n₀ w00 w) :
    SeqStopsK Fence.wide n Tryz.prog 61 #[.pointer (some ⟨Bs, 0, none⟩)] (fun x : Ix.M => #[Value.agg #[.int .i64 x.1, .int .i64 x.2.1, .int .i64 x.2.2]]) (Below n₀) (fun ys => ys = zs) (fun pre => pre <+: zs) zs.length w := fun l J Jx W hW hJ _ hY h0 => by
  refine (metas_counts n hn Bs n₀ mv zs w hBs hn₀ hc w00 hw hT hb0 l (fun k W => J (Ix.upto zs k) W) (fun k W => Jx (Ix.upto zs k) W) W hW (fun s W1 hs o => hJ _ W1 _ none hs (World.grownBy_alloc W1 o none) (fun r e => by cases e)) ?_ h0).mono ?_
  · intro k W1 hj hk
    have := hY _ (Ix.nm zs k, Ix.vr zs k, Ix.sm zs k) W1 hj (by rw [Ix.upto_length]; exact hk)
    rw [Ix.upto_succ]
    exact this
  · rintro e W' ⟨he, hj | ⟨k, hk, hj⟩⟩
    · exact ⟨he, .inl ⟨_, Ix.upto_all zs, hj⟩⟩
    · exact ⟨he, .inr ⟨_, by rw [Ix.upto_take zs hk]; exact List.take_prefix _ _, hj⟩⟩

theorem lift_list {p : Ix.M → Prop} : ∀ zs : List Ix.M, (∀ x ∈ zs, p x) → ∃ zp : List { x : Ix.M // p x }, zp.map (fun x => x.1) = zs
  | [], _ => ⟨[], rfl⟩
  | a :: t, h => by
    obtain ⟨zp, e⟩ := lift_list t (fun x hx => h x (by simp [hx]))
    exact ⟨⟨a, h a (by simp)⟩ :: zp, by simp [e]⟩
/-- The same, each meta with what is known of it. -/
theorem metas_stopsP (p : Ix.M → Prop) (n : Nat) (hn : 1 ≤ n) (Bs n₀ : Nat) (mv : Value) (zs : List Ix.M) (hp : ∀ x ∈ zs, p x) (w : World) (hBs : Bs < w.heap.size) (hn₀ : n₀ ≤ w.heap.size) (hc : w.cell? ⟨Bs, 2, none⟩ = some mv)
    (w00 : World) (hw : w00.heap.size = n₀) (hT : Trs w00 mv zs) (hb0 : Below n₀ w00 w) :
    SeqStopsK Fence.wide n Tryz.prog 61 #[.pointer (some ⟨Bs, 0, none⟩)] (fun x : { x : Ix.M // p x } => #[Value.agg #[.int .i64 x.1.1, .int .i64 x.1.2.1, .int .i64 x.1.2.2]]) (Below n₀) (fun ys => ys.map (fun x => x.1) = zs) (fun pre => pre.map (fun x => x.1) <+: zs) zs.length w := fun l J Jx W hW hJ _ hY h0 => by
  obtain ⟨zp, hzp⟩ : ∃ zp : List { x : Ix.M // p x }, zp.map (fun x => x.1) = zs := lift_list zs hp
  have hlen : zp.length = zs.length := by rw [← hzp, List.length_map]
  refine (metas_counts n hn Bs n₀ mv zs w hBs hn₀ hc w00 hw hT hb0 l (fun k W => J (zp.take k) W) (fun k W => Jx (zp.take k) W) W hW (fun s W1 hs o => hJ _ W1 _ none hs (World.grownBy_alloc W1 o none) (fun r e => by cases e)) ?_ (by simpa using h0)).mono ?_
  · intro k W1 hj hk
    have hk' : k < zp.length := by omega
    have e : zs.getD k (0, 0, 0) = (zp[k]).1 := by rw [← hzp, List.getD_eq_getElem?_getD, List.getElem?_map, List.getElem?_eq_getElem hk']; rfl
    have := hY _ zp[k] W1 hj (by rw [List.length_take]; omega)
    rw [List.take_add_one, List.getElem?_eq_getElem hk', Option.toList_some]
    unfold Ix.nm Ix.vr Ix.sm
    rw [e]
    exact this
  · rintro e W' ⟨he, hj | ⟨k, hk, hj⟩⟩
    · exact ⟨he, .inl ⟨_, hzp, by rw [← hlen, List.take_length] at hj; exact hj⟩⟩
    · exact ⟨he, .inr ⟨_, by show List.map _ (List.take k zp) <+: zs; rw [List.map_take, hzp]; exact List.take_prefix _ _, hj⟩⟩

/-- A block that is cells is kept. -/
theorem blk_own {β : Type} (B : Nat) (t : TypeId) (f : β → Array Value) : Own (fun s W => W.heap[B]? = some (.cells (f s) t (0, 0))) := fun s X Y row hs hg hrow =>
  (hg.block B (Array.getElem?_eq_some_iff.1 hs).1 (fun e' => by obtain ⟨_, ho, hc⟩ := hrow B e'.symm; rw [hs] at ho; cases ho; cases hc)).trans hs
theorem keeps_below {W W' : World} (h : Below W.heap.size W W') : KeepsOthers W W' := ⟨h.size, fun k _ hk _ => (h.block k (Array.getElem?_eq_some_iff.1 hk).1).trans hk⟩
end Go.Proofs.YtlnieobmhofkdaaGreat
