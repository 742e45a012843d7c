/- What impl.indexQuestions returns: four function values, and what each answers; for every trust, signed index and time. -/
import Derived.Test.YtkgeekjclcpbpaaSpecTrIdxW
import Derived.Test.YtkgeekjclcpbpaaFreshW
namespace Go.Proofs.Ytkgeekjclcpbpaa
open Go.RowKit

/-- A signed index in a box, and its rows. -/
structure Si (w : World) (g : Nat) (n2 t2 : Int) (v2 vb : Value) (m2 : List Ix.M) (by' : List Int) : Prop where
  lt : g < w.heap.size
  c0 : w.cell? ⟨g, 0, none⟩ = some (.int .i64 n2)
  c1 : w.cell? ⟨g, 1, none⟩ = some (.int .i64 t2)
  c2 : w.cell? ⟨g, 2, none⟩ = some v2
  c3 : w.cell? ⟨g, 3, none⟩ = some vb
  trs : Trs w v2 m2
  inb : Ins w vb by'
theorem Si.later {w w' : World} {g : Nat} {n2 t2 : Int} {v2 vb : Value} {m2 : List Ix.M} {by' : List Int} (h : Si w g n2 t2 v2 vb m2 by') (hb : Below w.heap.size w w') : Si w' g n2 t2 v2 vb m2 by' :=
  ⟨Nat.lt_of_lt_of_le h.lt hb.size, (hb.cell h.lt).trans h.c0, (hb.cell h.lt).trans h.c1, (hb.cell h.lt).trans h.c2, (hb.cell h.lt).trans h.c3, h.trs.later hb, h.inb.later hb⟩
section
variable {n d num til n2 t2 : Int} {kv mv v2 vb : Value} {ks by' : List Int} {has : Bool} {ms m2 : List Ix.M}
theorem quest1_any (w : World) (g : Nat) (h : Si w g n2 t2 v2 vb m2 by') :
    Calls Try.prog 93 #[.pointer (some ⟨g, 0, none⟩)] w fun e w' => e = .returned (.bool (Ix.idxOk n2 t2 m2)) ∧ Below w.heap.size w w' := by
  obtain ⟨a2, c2, e1⟩ := h.trs.slice
  subst e1
  obtain ⟨hlt, c0, c1, c2', _, ht, _⟩ := h
  have HT := hide ht
  clear ht
  go_enter Try.func93, Try.ntmps93
  go_wp2_with fail
  refine (implIndexOk_any _ n2 t2 _ m2 (unhide HT)).mono ?_
  rintro e w1 ⟨rfl, b1⟩
  have B1 := hide b1
  clear b1
  go_wp2
  go_ret
  exact ⟨rfl, unhide B1⟩
theorem quest2_any (w : World) (g s : Nat) (h : Tb w g n d kv ks has num til mv ms) (hs : Si w s n2 t2 v2 vb m2 by') :
    Calls Try.prog 94 #[.pointer (some ⟨g, 0, none⟩), .pointer (some ⟨s, 0, none⟩)] w fun e w' => e = .returned (.bool (Ky.signed n ks d by')) ∧ Below w.heap.size w w' := by
  obtain ⟨ka, kc, e1⟩ := h.ins.slice
  obtain ⟨ab, cb, e2⟩ := hs.inb.slice
  subst e1 e2
  obtain ⟨c0, c1, c2, _⟩ := h.cells
  have c3 := hs.c3
  have hlt := h.lt
  have hlt2 := hs.lt
  have I := hide (And.intro h.ins hs.inb)
  clear h hs
  go_enter Try.func94, Try.ntmps94
  go_wp2_with fail
  refine (implRootSigned_any _ n d _ _ ks by' (unhide I).1 (unhide I).2).mono ?_
  rintro e w1 ⟨rfl, b1⟩
  have B1 := hide b1
  clear b1
  go_wp2
  go_ret
  exact ⟨rfl, unhide B1⟩
theorem quest3_any (w : World) (s t : Nat) (now : Int) (hs : Si w s n2 t2 v2 vb m2 by') (ht : w.cell? ⟨t, 0, none⟩ = some (.int .i64 now)) :
    Calls Try.prog 95 #[.pointer (some ⟨s, 0, none⟩), .pointer (some ⟨t, 0, none⟩)] w fun e w' => e = .returned (.bool (Pk.inB now 0 t2)) ∧ Below w.heap.size w w' := by
  obtain ⟨a2, c2, e1⟩ := hs.trs.slice
  subst e1
  obtain ⟨hlt, c0, c1, c2', _, _, _⟩ := hs
  go_enter Try.func95, Try.ntmps95
  go_wp2_with fail
  refine (counts_any _ n2 t2 now _).mono ?_
  rintro e w1 ⟨rfl, b1⟩
  have B1 := hide b1
  clear b1
  go_wp2
  go_ret
  exact ⟨rfl, unhide B1⟩
theorem quest4_any (w : World) (g s : Nat) (h : Tb w g n d kv ks has num til mv ms) (hs : Si w s n2 t2 v2 vb m2 by') :
    Calls Try.prog 96 #[.pointer (some ⟨g, 0, none⟩), .pointer (some ⟨s, 0, none⟩)] w fun e w' => e = .returned (.bool (!has || decide (num < n2))) ∧ Below w.heap.size w w' := by
  obtain ⟨_, _, _, c3, c4, _, _⟩ := h.cells
  have s0 := hs.c0
  have hlt := h.lt
  have hlt2 := hs.lt
  clear h hs
  cases has
  · go_enter Try.func96, Try.ntmps96
    go_wp2
    go_ret
    exact ⟨rfl, Below.refl _ _⟩
  · go_enter Try.func96, Try.ntmps96
    go_wp2
    go_ret
    exact ⟨by simp, Below.refl _ _⟩
end
theorem cq1 (g : Nat) (w : World) : (callFunc 93 #[.pointer (some ⟨g, 0, none⟩)]).run Try.prog w = .ok (.enter 93 #[.pointer (some ⟨g, 0, none⟩)]) w := by kernel_rfl
theorem cq2 (g t : Nat) (w : World) : (callFunc 94 #[.pointer (some ⟨g, 0, none⟩), .pointer (some ⟨t, 0, none⟩)]).run Try.prog w = .ok (.enter 94 #[.pointer (some ⟨g, 0, none⟩), .pointer (some ⟨t, 0, none⟩)]) w := by kernel_rfl
theorem cq3 (g t : Nat) (w : World) : (callFunc 95 #[.pointer (some ⟨g, 0, none⟩), .pointer (some ⟨t, 0, none⟩)]).run Try.prog w = .ok (.enter 95 #[.pointer (some ⟨g, 0, none⟩), .pointer (some ⟨t, 0, none⟩)]) w := by kernel_rfl
theorem cq4 (g t : Nat) (w : World) : (callFunc 96 #[.pointer (some ⟨g, 0, none⟩), .pointer (some ⟨t, 0, none⟩)]).run Try.prog w = .ok (.enter 96 #[.pointer (some ⟨g, 0, none⟩), .pointer (some ⟨t, 0, none⟩)]) w := by kernel_rfl
def qF : Nat → FuncId
  | 0 => 93
  | 1 => 94
  | 2 => 95
  | _ => 96
def qC (g s t : Nat) : Nat → Array Value
  | 0 => #[.pointer (some ⟨s, 0, none⟩)]
  | 1 => #[.pointer (some ⟨g, 0, none⟩), .pointer (some ⟨s, 0, none⟩)]
  | 2 => #[.pointer (some ⟨s, 0, none⟩), .pointer (some ⟨t, 0, none⟩)]
  | _ => #[.pointer (some ⟨g, 0, none⟩), .pointer (some ⟨s, 0, none⟩)]
def qR (a b c d : Bool) : Nat → Bool
  | 0 => a
  | 1 => b
  | 2 => c
  | _ => d
/-- The questions, as they lie. -/
def Qs (w : World) (Q g s t : Nat) : Prop := w.heap[Q]? = some (.cells #[.func (.func 93) #[] #[.pointer (some ⟨s, 0, none⟩)], .func (.func 94) #[] #[.pointer (some ⟨g, 0, none⟩), .pointer (some ⟨s, 0, none⟩)], .func (.func 95) #[] #[.pointer (some ⟨s, 0, none⟩), .pointer (some ⟨t, 0, none⟩)], .func (.func 96) #[] #[.pointer (some ⟨g, 0, none⟩), .pointer (some ⟨s, 0, none⟩)]] 126 (0, 0))

/-- All of them: whether the index may be taken. -/
theorem askAll_any {n d num til n2 t2 : Int} {kv mv v2 vb : Value} {ks by' : List Int} {has : Bool} {ms m2 : List Ix.M} (w : World) (Q g s t : Nat) (now : Int) (hQ : Qs w Q g s t) (hT : Tb w g n d kv ks has num til mv ms) (hS : Si w s n2 t2 v2 vb m2 by') (ht : w.cell? ⟨t, 0, none⟩ = some (.int .i64 now)) (htl : t < w.heap.size) :
    Calls Try.prog 52 #[.slice (some ⟨Q, 0, none⟩) 4 4] w fun e w' => e = .returned (.bool (Tr.takes n ks d has num n2 t2 m2 by' now)) ∧ Below w.heap.size w w' := by
  refine (allSo_any w Q 0 4 4 qF (qC g s t) (qR (Ix.idxOk n2 t2 m2) (Ky.signed n ks d by') (Pk.inB now 0 t2) (!has || decide (num < n2))) (by omega) (heapLt hQ) ?_ ?_ ?_).mono ?_
  · intro i hi
    obtain rfl | rfl | rfl | rfl : i = 0 ∨ i = 1 ∨ i = 2 ∨ i = 3 := by omega
    · exact cellOf hQ 0
    · exact cellOf hQ 1
    · exact cellOf hQ 2
    · exact cellOf hQ 3
  · intro i hi w'
    obtain rfl | rfl | rfl | rfl : i = 0 ∨ i = 1 ∨ i = 2 ∨ i = 3 := by omega
    · exact cq1 _ _
    · exact cq2 _ _ _
    · exact cq3 _ _ _
    · exact cq4 _ _ _
  · intro i hi _ w' hw'
    have fin : ∀ {f : FuncId} {c : Array Value} {x : Bool}, (Calls Try.prog f c w' fun e w'' => e = .returned (.bool x) ∧ Below w'.heap.size w' w'') → Calls Try.prog f c w' fun e w'' => e = .returned (.bool x) ∧ Below w.heap.size w w'' := fun h => h.mono fun e w'' ⟨h1, h2⟩ => ⟨h1, hw'.trans (h2.mono hw'.size)⟩
    obtain rfl | rfl | rfl | rfl : i = 0 ∨ i = 1 ∨ i = 2 ∨ i = 3 := by omega
    · exact fin (quest1_any _ _ (hS.later hw'))
    · exact fin (quest2_any _ _ _ (hT.later hw') (hS.later hw'))
    · exact fin (quest3_any _ _ _ _ (hS.later hw') ((hw'.cell htl).trans ht))
    · exact fin (quest4_any _ _ _ (hT.later hw') (hS.later hw'))
  · rintro e w' ⟨rfl, hb⟩
    refine ⟨ret_bool ?_, hb⟩
    simp [List.range, List.range.loop, qR, Tr.takes]

set_option maxHeartbeats 2000000 in
set_option maxRecDepth 100000 in
theorem questions_any (w : World) (t : Tr.T) (kv mv : Value) (n2 t2 : Int) (v2 vb : Value) (m2 : List Ix.M) (by' : List Int) (now : Int) (hk : Ins w kv t.ks) (hm : Trs w mv t.ms) (h2 : Trs w v2 m2) (hb : Ins w vb by') :
    Calls Try.prog 53 #[tvT t kv mv, .agg #[.int .i64 n2, .int .i64 t2, v2, vb], .int .i64 now] w fun e w' => e = .returned (.slice (some ⟨w.heap.size + 1 + 1 + 1, 0, none⟩) 4 4) ∧ Below w.heap.size w w' ∧ Qs w' (w.heap.size + 1 + 1 + 1) w.heap.size (w.heap.size + 1) (w.heap.size + 1 + 1) ∧ Tb w' w.heap.size t.n t.d kv t.ks t.has t.num t.til mv t.ms ∧ Si w' (w.heap.size + 1) n2 t2 v2 vb m2 by' ∧ w'.cell? ⟨w.heap.size + 1 + 1, 0, none⟩ = some (.int .i64 now) ∧ w.heap.size + 1 + 1 < w'.heap.size := by
  obtain ⟨n, ks, d, has, num, til, ms⟩ := t
  dsimp only [tvT, tv] at *
  obtain ⟨ka, kc, e1⟩ := hk.slice
  obtain ⟨ma, mc, e2⟩ := hm.slice
  obtain ⟨a2, c2, e3⟩ := h2.slice
  obtain ⟨ab, cb, e4⟩ := hb.slice
  subst e1 e2 e3 e4
  obtain ⟨B, x1, x2, x3⟩ := three_boxesT w (.cells #[.int .i64 n, .slice ka ks.length kc, .int .i64 d, .bool has, .int .i64 num, .int .i64 til, .slice ma ms.length mc] 30) (.cells #[.int .i64 n2, .int .i64 t2, .slice a2 m2.length c2, .slice ab by'.length cb] 32) (.cells #[.int .i64 now] 3)
  have z3 : (((w.alloc (.cells #[.int .i64 n, .slice ka ks.length kc, .int .i64 d, .bool has, .int .i64 num, .int .i64 til, .slice ma ms.length mc] 30)).alloc (.cells #[.int .i64 n2, .int .i64 t2, .slice a2 m2.length c2, .slice ab by'.length cb] 32)).alloc (.cells #[.int .i64 now] 3)).heap.size = w.heap.size + 1 + 1 + 1 := by rw [sz1', sz1', sz1']
  have key : ∀ W3 : World, Below w.heap.size w W3 → W3.heap[w.heap.size]? = some (.cells #[.int .i64 n, .slice ka ks.length kc, .int .i64 d, .bool has, .int .i64 num, .int .i64 til, .slice ma ms.length mc] 30 (0, 0)) → W3.heap[w.heap.size + 1]? = some (.cells #[.int .i64 n2, .int .i64 t2, .slice a2 m2.length c2, .slice ab by'.length cb] 32 (0, 0)) → W3.heap[w.heap.size + 1 + 1]? = some (.cells #[.int .i64 now] 3 (0, 0)) → W3.heap.size = w.heap.size + 1 + 1 + 1 →
      Below w.heap.size w (W3.alloc (.cells #[.func (.func 93) #[] #[.pointer (some ⟨w.heap.size + 1, 0, none⟩)], .func (.func 94) #[] #[.pointer (some ⟨w.heap.size, 0, none⟩), .pointer (some ⟨w.heap.size + 1, 0, none⟩)], .func (.func 95) #[] #[.pointer (some ⟨w.heap.size + 1, 0, none⟩), .pointer (some ⟨w.heap.size + 1 + 1, 0, none⟩)], .func (.func 96) #[] #[.pointer (some ⟨w.heap.size, 0, none⟩), .pointer (some ⟨w.heap.size + 1, 0, none⟩)]] 126)) ∧ Qs (W3.alloc (.cells #[.func (.func 93) #[] #[.pointer (some ⟨w.heap.size + 1, 0, none⟩)], .func (.func 94) #[] #[.pointer (some ⟨w.heap.size, 0, none⟩), .pointer (some ⟨w.heap.size + 1, 0, none⟩)], .func (.func 95) #[] #[.pointer (some ⟨w.heap.size + 1, 0, none⟩), .pointer (some ⟨w.heap.size + 1 + 1, 0, none⟩)], .func (.func 96) #[] #[.pointer (some ⟨w.heap.size, 0, none⟩), .pointer (some ⟨w.heap.size + 1, 0, none⟩)]] 126)) (w.heap.size + 1 + 1 + 1) w.heap.size (w.heap.size + 1) (w.heap.size + 1 + 1) ∧ Tb (W3.alloc (.cells #[.func (.func 93) #[] #[.pointer (some ⟨w.heap.size + 1, 0, none⟩)], .func (.func 94) #[] #[.pointer (some ⟨w.heap.size, 0, none⟩), .pointer (some ⟨w.heap.size + 1, 0, none⟩)], .func (.func 95) #[] #[.pointer (some ⟨w.heap.size + 1, 0, none⟩), .pointer (some ⟨w.heap.size + 1 + 1, 0, none⟩)], .func (.func 96) #[] #[.pointer (some ⟨w.heap.size, 0, none⟩), .pointer (some ⟨w.heap.size + 1, 0, none⟩)]] 126)) w.heap.size n d (.slice ka ks.length kc) ks has num til (.slice ma ms.length mc) ms ∧ Si (W3.alloc (.cells #[.func (.func 93) #[] #[.pointer (some ⟨w.heap.size + 1, 0, none⟩)], .func (.func 94) #[] #[.pointer (some ⟨w.heap.size, 0, none⟩), .pointer (some ⟨w.heap.size + 1, 0, none⟩)], .func (.func 95) #[] #[.pointer (some ⟨w.heap.size + 1, 0, none⟩), .pointer (some ⟨w.heap.size + 1 + 1, 0, none⟩)], .func (.func 96) #[] #[.pointer (some ⟨w.heap.size, 0, none⟩), .pointer (some ⟨w.heap.size + 1, 0, none⟩)]] 126)) (w.heap.size + 1) n2 t2 (.slice a2 m2.length c2) (.slice ab by'.length cb) m2 by' ∧ (W3.alloc (.cells #[.func (.func 93) #[] #[.pointer (some ⟨w.heap.size + 1, 0, none⟩)], .func (.func 94) #[] #[.pointer (some ⟨w.heap.size, 0, none⟩), .pointer (some ⟨w.heap.size + 1, 0, none⟩)], .func (.func 95) #[] #[.pointer (some ⟨w.heap.size + 1, 0, none⟩), .pointer (some ⟨w.heap.size + 1 + 1, 0, none⟩)], .func (.func 96) #[] #[.pointer (some ⟨w.heap.size, 0, none⟩), .pointer (some ⟨w.heap.size + 1, 0, none⟩)]] 126)).cell? ⟨w.heap.size + 1 + 1, 0, none⟩ = some (.int .i64 now) ∧ w.heap.size + 1 + 1 < (W3.alloc (.cells #[.func (.func 93) #[] #[.pointer (some ⟨w.heap.size + 1, 0, none⟩)], .func (.func 94) #[] #[.pointer (some ⟨w.heap.size, 0, none⟩), .pointer (some ⟨w.heap.size + 1, 0, none⟩)], .func (.func 95) #[] #[.pointer (some ⟨w.heap.size + 1, 0, none⟩), .pointer (some ⟨w.heap.size + 1 + 1, 0, none⟩)], .func (.func 96) #[] #[.pointer (some ⟨w.heap.size, 0, none⟩), .pointer (some ⟨w.heap.size + 1, 0, none⟩)]] 126)).heap.size := by
    intro W3 B x1 x2 x3 z3
    have b4 := below1 W3 (.cells #[.func (.func 93) #[] #[.pointer (some ⟨w.heap.size + 1, 0, none⟩)], .func (.func 94) #[] #[.pointer (some ⟨w.heap.size, 0, none⟩), .pointer (some ⟨w.heap.size + 1, 0, none⟩)], .func (.func 95) #[] #[.pointer (some ⟨w.heap.size + 1, 0, none⟩), .pointer (some ⟨w.heap.size + 1 + 1, 0, none⟩)], .func (.func 96) #[] #[.pointer (some ⟨w.heap.size, 0, none⟩), .pointer (some ⟨w.heap.size + 1, 0, none⟩)]] 126)
    have q4 := heap_alloc_new W3 (.cells #[.func (.func 93) #[] #[.pointer (some ⟨w.heap.size + 1, 0, none⟩)], .func (.func 94) #[] #[.pointer (some ⟨w.heap.size, 0, none⟩), .pointer (some ⟨w.heap.size + 1, 0, none⟩)], .func (.func 95) #[] #[.pointer (some ⟨w.heap.size + 1, 0, none⟩), .pointer (some ⟨w.heap.size + 1 + 1, 0, none⟩)], .func (.func 96) #[] #[.pointer (some ⟨w.heap.size, 0, none⟩), .pointer (some ⟨w.heap.size + 1, 0, none⟩)]] 126)
    rw [z3] at q4
    have B4 := B.trans (b4.mono B.size)
    have y1 := (b4.block _ (heapLt x1)).trans x1
    have y2 := (b4.block _ (heapLt x2)).trans x2
    have y3 := (b4.block _ (heapLt x3)).trans x3
    exact ⟨B4, q4, ⟨heapLt y1, cellOf y1 0, cellOf y1 1, cellOf y1 2, cellOf y1 3, cellOf y1 4, cellOf y1 5, cellOf y1 6, hk.later B4, hm.later B4⟩, ⟨heapLt y2, cellOf y2 0, cellOf y2 1, cellOf y2 2, cellOf y2 3, h2.later B4, hb.later B4⟩, cellOf y3 0, heapLt y3⟩
  have KEY := hide (key _ B x1 x2 x3 z3)
  clear key B x1 x2 x3 z3 hk hm h2 hb
  go_enter Try.func53, Try.ntmps53
  go_wp2
  go_ret
  exact ⟨rfl, unhide KEY⟩
end Go.Proofs.Ytkgeekjclcpbpaa
