import Derived.Test.YtcdbgkdccflbgaaGreatDoorMixB
import Derived.Test.YtcdbgkdccflbgaaGreatDoorMixI
import Derived.Test.YtcdbgkdccflbgaaGreatDoorMixM
import Derived.Test.YtcdbgkdccflbgaaGreatDoorMixD
import Derived.Deep.DrawnRows
import Derived.Test.YtcdbgkdccflbgaaGreatDoorMixG
import Derived.Laws.MakeOwn
import Derived.Test.YtcdbgkdccflbgaaGreatDoorMixH
/- Boxes of seven: read, written. -/
namespace Go.Proofs.YtcdbgkdccflbgaaGreatDoor
open Go.RowKit

theorem box7 {w : World} {X : Nat} {a b c d e f g : Value} {t : TypeId} (h : w.heap[X]? = some (.cells #[a, b, c, d, e, f, g] t (0, 0))) : w.cell? ⟨X, 0, none⟩ = some a ∧ w.cell? ⟨X, 1, none⟩ = some b ∧ w.cell? ⟨X, 2, none⟩ = some c ∧ w.cell? ⟨X, 3, none⟩ = some d ∧ w.cell? ⟨X, 4, none⟩ = some e ∧ w.cell? ⟨X, 5, none⟩ = some f ∧ w.cell? ⟨X, 6, none⟩ = some g :=
  ⟨cellOf h 0, cellOf h 1, cellOf h 2, cellOf h 3, cellOf h 4, cellOf h 5, cellOf h 6⟩
theorem frz7 {w : World} {X : Nat} {c : Array Value} {t : TypeId} (h : w.heap[X]? = some (.cells c t (0, 0))) : w.frozen? ⟨X, 0, none⟩ = false ∧ w.frozen? ⟨X, 1, none⟩ = false ∧ w.frozen? ⟨X, 2, none⟩ = false ∧ w.frozen? ⟨X, 3, none⟩ = false ∧ w.frozen? ⟨X, 4, none⟩ = false ∧ w.frozen? ⟨X, 5, none⟩ = false ∧ w.frozen? ⟨X, 6, none⟩ = false :=
  ⟨frozenOf h 0, frozenOf h 1, frozenOf h 2, frozenOf h 3, frozenOf h 4, frozenOf h 5, frozenOf h 6⟩
/-- A box of seven is written. -/
theorem fin7 {w w' : World} {R : Nat} {a b c d e f g a0 b0 c0 d0 e0 f0 g0 : Value} {t : TypeId} (hR : w.heap[R]? = some (.cells #[a0, b0, c0, d0, e0, f0, g0] t (0, 0)))
    (hw : w' = ((((((w.setCell ⟨R, 0, none⟩ a).setCell ⟨R, 1, none⟩ b).setCell ⟨R, 2, none⟩ c).setCell ⟨R, 3, none⟩ d).setCell ⟨R, 4, none⟩ e).setCell ⟨R, 5, none⟩ f).setCell ⟨R, 6, none⟩ g) :
    w'.heap[R]? = some (.cells #[a, b, c, d, e, f, g] t (0, 0)) ∧ (∀ k, k ≠ R → w'.heap[k]? = w.heap[k]?) ∧ w'.heap.size = w.heap.size ∧ w'.os = w.os ∧ w'.tape = w.tape ∧ w'.output = w.output := by
  refine ⟨by rw [hw, heapSet (heapSet (heapSet (heapSet (heapSet (heapSet (heapSet hR))))))]; rfl, fun k hk => ?_, by rw [hw]; simp [World.setCell], by rw [hw]; simp [World.setCell], by rw [hw]; simp [World.setCell], by rw [hw]; simp [World.setCell]⟩
  rw [hw, Below.heap_setCell _ _ _ _ hk, Below.heap_setCell _ _ _ _ hk, Below.heap_setCell _ _ _ _ hk, Below.heap_setCell _ _ _ _ hk, Below.heap_setCell _ _ _ _ hk, Below.heap_setCell _ _ _ _ hk, Below.heap_setCell _ _ _ _ hk]
theorem below_far {B : Nat} {w0 w w' : World} {R : Nat} (h : Below B w0 w) (hR : B ≤ R) (hf : ∀ k, k ≠ R → w'.heap[k]? = w.heap[k]?) (hs : w'.heap.size = w.heap.size) (ho : w'.os = w.os) (ht : w'.tape = w.tape) (hp : w'.output = w.output) : Below B w0 w' :=
  ⟨ho.trans h.os, ht.trans h.tape, hp.trans h.output, by rw [hs]; exact h.size, fun k hk => (hf k (by omega)).trans (h.block k hk)⟩
end Go.Proofs.YtcdbgkdccflbgaaGreatDoor

/- What impl.copyTrust, spec.l11Copy, and both TrustNew return: trust in rows of one's own; for every trust and root. -/
namespace Go.Proofs.YtcdbgkdccflbgaaGreatDoor
open Go.RowKit

attribute [local go_sem ↓] Go.wp_at_zero Go.wp_at_succ

/-- Trust is laid into the answer's box. -/
theorem finT {W w w' : World} {R : Nat} {n d num til : Int} {has : Bool} {kv mv a0 b0 c0 d0 e0 f0 g0 : Value} {ks : List Int} {ms : List Ix.M} (hR : w.heap[R]? = some (.cells #[a0, b0, c0, d0, e0, f0, g0] 30 (0, 0))) (lR : W.heap.size ≤ R) (hb : Below W.heap.size W w) (hk : OwI W.heap.size w kv ks) (hm : OwM W.heap.size w mv ms)
    (hw : w' = ((((((w.setCell ⟨R, 0, none⟩ (.int .i64 n)).setCell ⟨R, 1, none⟩ kv).setCell ⟨R, 2, none⟩ (.int .i64 d)).setCell ⟨R, 3, none⟩ (.bool has)).setCell ⟨R, 4, none⟩ (.int .i64 num)).setCell ⟨R, 5, none⟩ (.int .i64 til)).setCell ⟨R, 6, none⟩ mv) :
    (w'.cell? ⟨R, 0, none⟩ = some (.int .i64 n) ∧ w'.cell? ⟨R, 1, none⟩ = some kv ∧ w'.cell? ⟨R, 2, none⟩ = some (.int .i64 d) ∧ w'.cell? ⟨R, 3, none⟩ = some (.bool has) ∧ w'.cell? ⟨R, 4, none⟩ = some (.int .i64 num) ∧ w'.cell? ⟨R, 5, none⟩ = some (.int .i64 til) ∧ w'.cell? ⟨R, 6, none⟩ = some mv) ∧ OwI W.heap.size w' kv ks ∧ OwM W.heap.size w' mv ms ∧ Below W.heap.size W w' ∧ (∀ k, k ≠ R → w'.heap[k]? = w.heap[k]?) := by
  obtain ⟨h1, hf, hs, ho, ht, hp⟩ := fin7 hR hw
  exact ⟨box7 h1, own_keepS hk (fun g _ e _ _ => hf g (fun e2 => own_ne hk hR (by decide) (by rw [e, e2]))), own_keepS hm (fun g _ e _ _ => hf g (fun e2 => own_ne hm hR (by decide) (by rw [e, e2]))), below_far hb lR hf hs ho ht hp, hf⟩
/-- What is answered: trust in rows of one's own, and whether. -/
def Ans (W : World) (r : Tr.T × Bool) (e : Ending) (w' : World) : Prop := ∃ kv mv, e = .returned (.tuple #[tvT r.1 kv mv, .bool r.2]) ∧ OwI W.heap.size w' kv r.1.ks ∧ OwM W.heap.size w' mv r.1.ms ∧ Below W.heap.size W w'
/-- The boxes at the beginning: what came in, the answer's. -/
theorem two_boxesT (w : World) (o1 o2 : Obj) : Below w.heap.size w ((w.alloc o1).alloc o2) ∧ ((w.alloc o1).alloc o2).heap[w.heap.size]? = some o1 ∧ ((w.alloc o1).alloc o2).heap[w.heap.size + 1]? = some o2 := by
  have h1 := below1 w o1
  have h2 := below1 (w.alloc o1) o2
  have e1 := heap_alloc_new w o1
  have e2 := heap_alloc_new (w.alloc o1) o2
  rw [sz1'] at e2
  exact ⟨h1.trans (h2.mono h1.size), (h2.block _ (heapLt e1)).trans e1, e2⟩
theorem three_boxesT (w : World) (o1 o2 o3 : Obj) : Below w.heap.size w (((w.alloc o1).alloc o2).alloc o3) ∧ (((w.alloc o1).alloc o2).alloc o3).heap[w.heap.size]? = some o1 ∧ (((w.alloc o1).alloc o2).alloc o3).heap[w.heap.size + 1]? = some o2 ∧ (((w.alloc o1).alloc o2).alloc o3).heap[w.heap.size + 1 + 1]? = some o3 := by
  obtain ⟨h1, e1, e2⟩ := two_boxesT w o1 o2
  have h3 := below1 ((w.alloc o1).alloc o2) o3
  have e3 := heap_alloc_new ((w.alloc o1).alloc o2) o3
  rw [sz1', sz1'] at e3
  exact ⟨h1.trans (h3.mono h1.size), (h3.block _ (heapLt e1)).trans e1, (h3.block _ (heapLt e2)).trans e2, e3⟩

set_option maxHeartbeats 2000000 in
set_option maxRecDepth 100000 in
theorem implTrustNew_any (w : World) (n d : Int) (kv : Value) (ks : List Int) (hk : Ins w kv ks) :
    Calls Tryz.prog 29 #[.agg #[.int .i64 n, kv, .int .i64 d]] w fun e w' => Ans w (Tr.new n ks d) e w' := by
  obtain ⟨ka, kc, e1⟩ := hk.slice
  subst e1
  obtain ⟨B2, x2, r2⟩ := two_boxesT w (.cells #[.int .i64 n, .slice ka ks.length kc, .int .i64 d] 25) (.cells #[.int .i64 0, .slice none 0 0, .int .i64 0, .bool false, .int .i64 0, .int .i64 0, .slice none 0 0] 30)
  have H2 := hide (And.intro B2 (And.intro x2 (And.intro r2 (hk.later B2))))
  clear B2 x2 r2 hk
  go_enter Tryz.func29, Tryz.ntmps29
  go_wp2_with fail
  refine (implRootOk_any _ n d _ ks (unhide H2).2.2.2).mono ?_
  generalize World.alloc _ _ = W2 at *
  rintro e w3 ⟨rfl, b3⟩
  have H3 := hide (And.intro ((unhide H2).1.trans (b3.mono (unhide H2).1.size)) (And.intro ((b3.block _ (heapLt (unhide H2).2.1)).trans (unhide H2).2.1) (And.intro ((b3.block _ (heapLt (unhide H2).2.2.1)).trans (unhide H2).2.2.1) ((unhide H2).2.2.2.later b3))))
  clear b3 H2
  have x0 := cellOf (unhide H3).2.1 0
  have x1 := cellOf (unhide H3).2.1 1
  have x2 := cellOf (unhide H3).2.1 2
  cases hA : Ky.rootOk n ks d
  · have hT : Tr.new n ks d = (Tr.T.none, false) := by unfold Tr.new; rw [hA]; rfl
    have HT := hide hT
    clear hT
    obtain ⟨s0, s1, s2, s3, s4, s5, s6⟩ := frz7 (unhide H3).2.2.1
    obtain ⟨r0, r1, r2, r3, r4, r5, r6⟩ := box7 (unhide H3).2.2.1
    go_wp2
    obtain ⟨⟨q0, q1, q2, q3, q4, q5, q6⟩, ok5, om5, b5, _⟩ := finT (n := 0) (d := 0) (has := false) (num := 0) (til := 0) (kv := .slice none 0 0) (mv := .slice none 0 0) (ks := []) (ms := []) (unhide H3).2.2.1 (Nat.le_succ _) (unhide H3).1 (World.ownsRow_nil _ _ _ _) (World.ownsRow_nil _ _ _ _) rfl
    exact bodyPost_ret (v := .tuple #[.agg #[.int .i64 0, .slice none 0 0, .int .i64 0, .bool false, .int .i64 0, .int .i64 0, .slice none 0 0], .bool false]) (by simp [results, Tryz.results29, go_sem, q0, q1, q2, q3, q4, q5, q6]) rfl ⟨_, _, by rw [unhide HT] <;> rfl, by rw [unhide HT]; exact ok5, by rw [unhide HT]; exact om5, b5⟩
  · have hT : Tr.new n ks d = (⟨n, ks, d, false, 0, 0, []⟩, true) := by unfold Tr.new; rw [hA]; rfl
    have HT := hide hT
    clear hT
    go_wp2_with fail
    refine (implCopyRoot_any _ n d _ ks (unhide H3).2.2.2).mono ?_
    rintro e w4 ⟨kv', rfl, ok4, b4⟩
    obtain ⟨ka', kc', e3⟩ := own_formS ok4
    subst e3
    have H4 := hide (And.intro ((unhide H3).1.trans (b4.mono (unhide H3).1.size)) (And.intro ((b4.block _ (heapLt (unhide H3).2.2.1)).trans (unhide H3).2.2.1) (own_base' ok4 (unhide H3).1.size)))
    clear b4 ok4 H3 x0 x1 x2
    obtain ⟨s0, s1, s2, s3, s4, s5, s6⟩ := frz7 (unhide H4).2.1
    obtain ⟨r0, r1, r2, r3, r4, r5, r6⟩ := box7 (unhide H4).2.1
    go_wp2
    obtain ⟨⟨q0, q1, q2, q3, q4, q5, q6⟩, ok5, om5, b5, _⟩ := finT (n := n) (d := d) (has := false) (num := 0) (til := 0) (mv := .slice none 0 0) (ms := []) (unhide H4).2.1 (Nat.le_succ _) (unhide H4).1 (unhide H4).2.2 (World.ownsRow_nil _ _ _ _) rfl
    exact bodyPost_ret (v := .tuple #[.agg #[.int .i64 n, .slice ka' ks.length kc', .int .i64 d, .bool false, .int .i64 0, .int .i64 0, .slice none 0 0], .bool true]) (by simp [results, Tryz.results29, go_sem, q0, q1, q2, q3, q4, q5, q6]) rfl ⟨_, _, by rw [unhide HT] <;> rfl, by rw [unhide HT]; exact ok5, by rw [unhide HT]; exact om5, b5⟩

end Go.Proofs.YtcdbgkdccflbgaaGreatDoor

/- What the laws' own helpers for rows of numbers return: toIntS a copy in memory of its own, eqIntS true of two that read the same, szIntS how much is left. -/
namespace Go.Proofs.YtcdbgkdccflbgaaGreatDoor
open Go.RowKit



/-- A new row of n numbers. -/
theorem mk_ints (w : World) (n : Nat) (hn : n ≤ 1048576) :
    ∃ C : Array Value, C.size = n ∧ (Instr.makeSlice 23 (.int .i64 (n : Int)) (.int .i64 (n : Int))).run Tryz.prog w = .ok (.slice (some ⟨w.heap.size, 0, none⟩) n n) (w.alloc (.cells C 3)) := by
  obtain ⟨i, hi0, hz0, hz1, hz2⟩ := info_parts infoI
  have h := run_make (P := Tryz.prog) w 23 3 i (.int .i64 0) Tryz.underlying23 hi0 hz0 .i64 .i64 (n : Int) (n : Int) (by omega) (Int.le_refl _) (by rw [hz2]; omega) (by omega)
  rw [hz1] at h
  simp only [Int.toNat_natCast] at h
  exact ⟨_, by rw [size_madeCells, Nat.mul_one], h⟩

/-- The row that is filled: the first k numbers are there. -/
def FillI (w : World) (g : Nat) (l : List Int) (k : Nat) : Prop :=
  ∃ C : Array Value, w.heap[g]? = some (.cells C 3 (0, 0)) ∧ C.size = l.length ∧ ∀ i, i < k → C[i]? = some (.int .i64 (Ky.nth l i))

theorem FillI.more {w : World} {g : Nat} {l : List Int} {k : Nat} (h : FillI w g l k) (hk : k < l.length) :
    FillI (w.setCell ⟨g, k, none⟩ (.int .i64 (Ky.nth l k))) g l (k + 1) := by
  obtain ⟨C, h1, h2, h3⟩ := h
  refine ⟨_, heapSet h1, by simpa using h2, fun i hi => ?_⟩
  rcases Nat.lt_or_ge i k with hlt | hge
  · rw [Array.getElem?_setIfInBounds_ne (by omega)]
    exact h3 i hlt
  · obtain rfl : i = k := by omega
    rw [Array.getElem?_setIfInBounds_self_of_lt (by omega)]

theorem FillI.keep {w w' : World} {g k : Nat} {l : List Int} (h : FillI w g l k) (hb : w'.heap[g]? = w.heap[g]?) : FillI w' g l k := by
  obtain ⟨C, h1, h2, h3⟩ := h
  exact ⟨C, hb.trans h1, h2, h3⟩
theorem FillI.later {w w' : World} {g k : Nat} {l : List Int} (h : FillI w g l k) (hb : Below w.heap.size w w') : FillI w' g l k := by
  obtain ⟨C, h1, h2, h3⟩ := h
  exact ⟨C, (hb.block g (heapLt h1)).trans h1, h2, h3⟩
theorem FillI.ins {w : World} {g : Nat} {l : List Int} (h : FillI w g l l.length) (hl : l.length ≤ 1048576) : Ins w (.slice (some ⟨g, 0, none⟩) l.length l.length) l := by
  obtain ⟨C, h1, h2, h3⟩ := h
  refine ⟨_, _, rfl, by omega, fun _ => ⟨g, 0, rfl, heapLt h1, fun i hi => ?_⟩⟩
  rw [Nat.zero_add, cellOf h1]
  exact h3 i hi

set_option maxHeartbeats 1000000 in
theorem toIntS_fill (w : World) (v : Value) (l : List Int) (h : Ins w v l) (hl : l.length ≤ 1048576) :
    Calls Tryz.prog 124 #[v] w fun e w' => e = .returned (.slice (some ⟨w.heap.size, 0, none⟩) l.length l.length) ∧ FillI w' w.heap.size l l.length ∧ Below w.heap.size w w' := by
  obtain ⟨a, cap, rfl, _, hrow⟩ := h
  obtain ⟨C, hC, hmk⟩ := mk_ints w l.length hl
  have hl' : (l.length : Int) ≤ 1048576 := by omega
  have HC0 := hide hC
  clear hC
  go_enter Tryz.func124, Tryz.ntmps124
  go_wp2
  go_loopw [4] (fun i w' => ∃ k : Nat, k ≤ l.length ∧ i = .int .i64 k ∧ Below w.heap.size w w' ∧ FillI w' w.heap.size l k) (fun i _ => l.length - (intOf i).toNat)
  case atStart => exact ⟨0, Nat.zero_le _, rfl, (Below.refl _ _).alloc (Nat.le_refl _) _, C, heap_alloc_new w _, unhide HC0, fun i hi => by omega⟩
  case round =>
    obtain ⟨k, hk, rfl, hw, hfill⟩ := hrel
    clear hmk
    by_cases hlt : k < l.length
    · obtain ⟨b, off, rfl, hb, hc⟩ := hrow (by omega)
      have c1 := hc k hlt
      rw [← hw.cell hb] at c1
      have HW := hide hw
      have HF : Hid (FillI _ _ _ _) := hfill
      clear hc hrow hw
      obtain ⟨C', g1, g2, _⟩ := hfill
      have d1 : wr.cell? ⟨w.heap.size, k, none⟩ = some (C'[k]'(by omega)) := by rw [cellOf g1]; exact Array.getElem?_eq_getElem _
      have f1 := frozenOf g1 k
      generalize C'[k]'(by omega) = y1 at d1
      clear g1 g2
      have hi0 : (0 : Int) ≤ (k : Int) := Int.natCast_nonneg _
      have hi1 : (k : Int) < (l.length : Int) := by omega
      go_wp2
      go_roundw
      case rel => exact ⟨k + 1, by omega, by go_num, (unhide HW).setCell (Nat.le_refl _) _, (unhide HF).more hlt⟩
      case measure => simp [intOf]; omega
    · obtain rfl : k = l.length := by omega
      have HW := hide hw
      have HF : Hid (FillI _ _ _ _) := hfill
      clear hw hfill
      go_wp2
      go_ret
      exact ⟨rfl, unhide HF, unhide HW⟩
theorem toIntS_any (w : World) (v : Value) (l : List Int) (h : Ins w v l) (hl : l.length ≤ 1048576) :
    Calls Tryz.prog 124 #[v] w fun e w' => e = .returned (.slice (some ⟨w.heap.size, 0, none⟩) l.length l.length) ∧ Ins w' (.slice (some ⟨w.heap.size, 0, none⟩) l.length l.length) l ∧ Below w.heap.size w w' :=
  (toIntS_fill w v l h hl).mono fun _ _ ⟨h1, h2, h3⟩ => ⟨h1, h2.ins hl, h3⟩

set_option maxHeartbeats 1000000 in
theorem eqIntS_any (w : World) (v v' : Value) (l : List Int) (h : Ins w v l) (h' : Ins w v' l) :
    Calls Tryz.prog 130 #[v, v'] w fun e w' => e = .returned (.bool true) ∧ Below w.heap.size w w' := by
  obtain ⟨a, cap, rfl, hlen, hrow⟩ := h
  obtain ⟨a', cap', rfl, _, hrow'⟩ := h'
  have hne : ((l.length : Int) != (l.length : Int)) = false := by simp
  go_enter Tryz.func130, Tryz.ntmps130
  go_wp2
  go_loopw [5] (fun i w' => ∃ k : Nat, k ≤ l.length ∧ i = .int .i64 k ∧ Below w.heap.size w w') (fun i _ => l.length - (intOf i).toNat)
  case atStart => exact ⟨0, Nat.zero_le _, rfl, Below.refl _ _⟩
  case round =>
    obtain ⟨k, hk, rfl, hw⟩ := hrel
    have HW := hide hw
    by_cases hlt : k < l.length
    · obtain ⟨b, off, rfl, hb, hc⟩ := hrow (by omega)
      obtain ⟨b', off', rfl, hb', hc'⟩ := hrow' (by omega)
      have c1 := hc k hlt
      have d1 := hc' k hlt
      rw [← hw.cell hb] at c1
      rw [← hw.cell hb'] at d1
      clear hc hc' hrow hrow' hw
      have hi0 : (0 : Int) ≤ (k : Int) := Int.natCast_nonneg _
      have hi1 : (k : Int) < (l.length : Int) := by omega
      have hee : (Ky.nth l k != Ky.nth l k) = false := by simp
      go_wp2_with fail
      go_quiet (fail)
      go_wp2
      go_roundw
      case rel => exact ⟨k + 1, by omega, by go_num, below_drewN (unhide HW) _⟩
      case measure => simp [intOf]; omega
    · clear hw
      go_wp2
      go_ret
      exact ⟨rfl, unhide HW⟩

set_option maxHeartbeats 1000000 in
theorem szIntS_any (w : World) (a : Option Addr) (n c : Nat) (left : Int) (h0 : 0 ≤ left) (h1 : left ≤ 1048576) (hn : n ≤ 9223372036854775807) :
    Calls Tryz.prog 120 #[.slice a n c, .int .i64 left] w fun e w' => w' = w ∧ ((n ≤ 1048576 ∧ ∃ r : Int, e = .returned (.int .i64 r) ∧ 0 ≤ r ∧ r ≤ left) ∨ e = .returned (.int .i64 (-1))) := by
  have ew : IntKind.i64.wrap (left - (n : Int)) = left - (n : Int) := by simp [IntKind.wrap, IntKind.bits, IntKind.signed]; omega
  by_cases hlt : left - (n : Int) < 0
  · go_enter Tryz.func120, Tryz.ntmps120
    go_wp2
    go_ret
    exact ⟨rfl, .inr rfl⟩
  · go_enter Tryz.func120, Tryz.ntmps120
    go_wp2
    go_ret
    exact ⟨rfl, .inl ⟨by omega, _, rfl, by omega, by omega⟩⟩
end Go.Proofs.YtcdbgkdccflbgaaGreatDoor

/- What spec.RootNext and impl.RootNext return: whether a root may come behind another one; for all roots; nothing old is written. -/
namespace Go.Proofs.YtcdbgkdccflbgaaGreatDoor
open Go.RowKit

/-- A signed root in a box, its keys, and those that sign. -/
structure Sx (w : World) (g : Nat) (n d : Int) (v vb : Value) (k by' : List Int) : Prop where
  lt : g < w.heap.size
  c0 : w.cell? ⟨g, 0, none⟩ = some (.int .i64 n)
  c1 : w.cell? ⟨g, 1, none⟩ = some v
  c2 : w.cell? ⟨g, 2, none⟩ = some (.int .i64 d)
  c3 : w.cell? ⟨g, 3, none⟩ = some vb
  ins : Ins w v k
  inb : Ins w vb by'
theorem Sx.later {w w' : World} {g : Nat} {n d : Int} {v vb : Value} {k by' : List Int} (h : Sx w g n d v vb k by') (hb : Below w.heap.size w w') : Sx w' g n d v vb k by' :=
  ⟨Nat.lt_of_lt_of_le h.lt hb.size, (hb.cell h.lt).trans h.c0, (hb.cell h.lt).trans h.c1, (hb.cell h.lt).trans h.c2, (hb.cell h.lt).trans h.c3, h.ins.later hb, h.inb.later hb⟩
theorem Sx.new {w : World} {n d : Int} {v vb : Value} {k by' : List Int} (h : Ins w v k) (hb : Ins w vb by') (t : TypeId) : Sx (w.alloc (.cells #[.int .i64 n, v, .int .i64 d, vb] t)) w.heap.size n d v vb k by' := by
  obtain ⟨z, x0, x1, x2, x3⟩ := box4i w (.int .i64 n) v (.int .i64 d) vb t
  exact ⟨by omega, x0, x1, x2, x3, h.later (below1 _ _), hb.later (below1 _ _)⟩

/-- Both boxes behind each other. -/
theorem two_boxes {w : World} {n d n2 d2 : Int} {v v2 vb : Value} {k k2 by' : List Int} (h : Ins w v k) (h2 : Ins w v2 k2) (hb : Ins w vb by') (t t2 : TypeId) :
    Bx ((w.alloc (.cells #[.int .i64 n, v, .int .i64 d] t)).alloc (.cells #[.int .i64 n2, v2, .int .i64 d2, vb] t2)) w.heap.size n d v k ∧ Sx ((w.alloc (.cells #[.int .i64 n, v, .int .i64 d] t)).alloc (.cells #[.int .i64 n2, v2, .int .i64 d2, vb] t2)) (w.heap.size + 1) n2 d2 v2 vb k2 by' ∧ Below w.heap.size w ((w.alloc (.cells #[.int .i64 n, v, .int .i64 d] t)).alloc (.cells #[.int .i64 n2, v2, .int .i64 d2, vb] t2)) := by
  have B1 := below1 w (.cells #[.int .i64 n, v, .int .i64 d] t)
  have X1 := Bx.new (n := n) (d := d) h t
  generalize hW : w.alloc (.cells #[.int .i64 n, v, .int .i64 d] t) = W at *
  have hz : W.heap.size = w.heap.size + 1 := by rw [← hW]; simp
  have B2 := below1 W (.cells #[.int .i64 n2, v2, .int .i64 d2, vb] t2)
  refine ⟨X1.later B2, ?_, B1.trans (B2.mono B1.size)⟩
  rw [← hz]
  exact Sx.new (h2.later B1) (hb.later B1) t2

end Go.Proofs.YtcdbgkdccflbgaaGreatDoor
