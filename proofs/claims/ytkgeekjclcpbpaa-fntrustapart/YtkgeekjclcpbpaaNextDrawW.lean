/- What spec's l31Union and DrawRootNext return: a small row of its own; a root, and a signed one, in memory of their own; nothing old is written. -/
import Derived.Test.YtkgeekjclcpbpaaKeysDrawW
import Derived.Test.YtkgeekjclcpbpaaNextW
namespace Go.Proofs.Ytkgeekjclcpbpaa
open Go.RowKit

attribute [local go_sem ↓] Go.wp_at_zero Go.wp_at_succ

theorem own_app {B : Nat} {W w w' : World} {v v' : Value} {l : List Int} {x : Int} (h : OwnI B w v l) (hb : Below B W w) (hB : B ≤ w.heap.size) (hg : w.grownBy w' v.ownBlock) (ho : w'.ownsRow B 3 1 v' (l.length + 1) (l.map (Value.int .i64) ++ [.int .i64 x])) : OwnI B w' v' (l ++ [x]) ∧ Below B W w' := by
  refine ⟨?_, hb.grown hg hB (fun j hj => ?_)⟩
  · unfold OwnI
    rw [List.length_append, List.map_append]
    exact ho
  · rcases h.2 with ⟨rfl, _⟩ | ⟨g', cap', cur, rfl, hb', _⟩
    · cases hj
    · simp only [Value.ownBlock, Option.some.injEq] at hj
      omega

theorem wrap_in {v : Int} (h0 : -1000 ≤ v) (h1 : v ≤ 1000) : IntKind.i64.wrap v = v := by simp [IntKind.wrap, IntKind.bits, IntKind.signed]; omega
theorem quo_in {v : Int} (h0 : 0 ≤ v) (h1 : v < 12) : ∃ q, IntKind.i64.wrap (v.tdiv 11) = q ∧ 0 ≤ q ∧ q ≤ 1 := by
  have e : v.tdiv 11 = v / 11 := Int.tdiv_eq_ediv_of_nonneg h0
  exact ⟨v / 11, by rw [e]; exact wrap_in (by omega) (by omega), by omega, by omega⟩
theorem KSt.base' {B : Nat} {W W0 w : World} {blk : Nat} {v : Value} {l : List Int} {p : Nat} (h : KSt B W0 blk w v l p) (hk : Kp W.heap.size blk W W0) (hB : B ≤ W.heap.size) (hblk : blk < W.heap.size) : KSt B W blk w v l p :=
  ⟨h.rd, hB, hblk, hk.trans h.kp hk.size, h.own.mono hk.size⟩

/-- A reader over bytes, behind the two boxes of the answer. -/
theorem open_behind2 (w : World) (a : Option Addr) (len cap : Nat) (h : Bytes w a len cap) (o o2 : Obj) :
    Calls Try.prog 40 #[.slice a len cap] ((w.alloc o).alloc o2) fun e w' => e = .returned (.pointer (some ⟨w.heap.size + 2, 0, none⟩)) ∧ Rd (w.heap.size + 2) w' (w.heap.size + 2) 0 ∧ w'.heap[w.heap.size]? = some o ∧ w'.heap[w.heap.size + 1]? = some o2 ∧ Below w.heap.size w w' ∧ w.heap.size + 2 < w'.heap.size := by
  have hz : (w.alloc o).heap.size = w.heap.size + 1 := by simp
  have h0 := heap_alloc_new w o
  have hb := below1 w o
  have h1 := h.later hb
  generalize w.alloc o = W0 at *
  refine (open_behind W0 a len cap h1 o2).mono ?_
  rintro e w1 ⟨rfl, hr1, h2, b1, hlt⟩
  rw [hz] at hr1 h2 hlt
  exact ⟨by rw [hz], hr1, (b1.block _ (by omega)).trans h0, h2, hb.trans (b1.mono hb.size), hlt⟩

theorem KSt.later {B : Nat} {W w w' : World} {blk : Nat} {v : Value} {l : List Int} {p : Nat} (h : KSt B W blk w v l p) (hb : Below w.heap.size w w') : KSt B W blk w' v l p :=
  h.keep (Kp.of_below hb) (h.rd.later (Nat.le_trans h.lB h.kp.size) hb)
theorem KSt.other {B : Nat} {W w : World} {blk : Nat} {v v' : Value} {l l' : List Int} {p : Nat} (h : KSt B W blk w v l p) (ho : OwnI W.heap.size w v' l') : KSt B W blk w v' l' p := ⟨h.rd, h.lB, h.lt, h.kp, ho⟩
theorem sig_box {w : World} {g : Nat} {a b c d : Value} {t : TypeId} (h : w.heap[g]? = some (.cells #[a, b, c, d] t (0, 0))) : w.cell? ⟨g, 0, none⟩ = some a ∧ w.cell? ⟨g, 1, none⟩ = some b ∧ w.cell? ⟨g, 2, none⟩ = some c ∧ w.cell? ⟨g, 3, none⟩ = some d ∧ w.frozen? ⟨g, 0, none⟩ = false ∧ w.frozen? ⟨g, 1, none⟩ = false ∧ w.frozen? ⟨g, 2, none⟩ = false ∧ w.frozen? ⟨g, 3, none⟩ = false := ⟨cellOf h 0, cellOf h 1, cellOf h 2, cellOf h 3, frozenOf h 0, frozenOf h 1, frozenOf h 2, frozenOf h 3⟩

/-- The two answers are laid into their boxes, which are older than the rows. -/
theorem fin_next {B : Nat} {W w V V2 : World} {blk p R : Nat} {va vb vu a b c e0 e1 e2 e3 : Value} {la lb lu : List Int} {r0 r1 r2 s0 s1 s2 s3 : Value} {t t2 : TypeId} (ha : KSt B W blk w va la p) (hb : KSt B W blk w vb lb p) (hu : KSt B W blk w vu lu p)
    (hR : w.heap[R]? = some (.cells #[r0, r1, r2] t (0, 0))) (hQ : w.heap[R + 1]? = some (.cells #[s0, s1, s2, s3] t2 (0, 0))) (h1 : R + 1 < W.heap.size)
    (hV : V = ((w.setCell ⟨R, 0, none⟩ a).setCell ⟨R, 1, none⟩ b).setCell ⟨R, 2, none⟩ c) (hV2 : V2 = (((V.setCell ⟨R + 1, 0, none⟩ e0).setCell ⟨R + 1, 1, none⟩ e1).setCell ⟨R + 1, 2, none⟩ e2).setCell ⟨R + 1, 3, none⟩ e3) :
    (V2.cell? ⟨R, 0, none⟩ = some a ∧ V2.cell? ⟨R, 1, none⟩ = some b ∧ V2.cell? ⟨R, 2, none⟩ = some c) ∧ (V2.cell? ⟨R + 1, 0, none⟩ = some e0 ∧ V2.cell? ⟨R + 1, 1, none⟩ = some e1 ∧ V2.cell? ⟨R + 1, 2, none⟩ = some e2 ∧ V2.cell? ⟨R + 1, 3, none⟩ = some e3) ∧ OwnI W.heap.size V2 va la ∧ OwnI W.heap.size V2 vb lb ∧ OwnI W.heap.size V2 vu lu ∧ ∀ n, n ≤ R → n ≤ w.heap.size → Below n w V2 := by
  have far : ∀ j, j ≠ R → j ≠ R + 1 → V2.heap[j]? = w.heap[j]? := fun j h1 h2 => by
    rw [hV2, Below.heap_setCell _ _ _ _ (by exact h2), Below.heap_setCell _ _ _ _ (by exact h2), Below.heap_setCell _ _ _ _ (by exact h2), Below.heap_setCell _ _ _ _ (by exact h2), hV, Below.heap_setCell _ _ _ _ (by exact h1), Below.heap_setCell _ _ _ _ (by exact h1), Below.heap_setCell _ _ _ _ (by exact h1)]
  have hVR : V.heap[R]? = some (.cells #[a, b, c] t (0, 0)) := by rw [hV, heapSet (heapSet (heapSet hR))]; rfl
  have hVQ : V.heap[R + 1]? = some (.cells #[s0, s1, s2, s3] t2 (0, 0)) := by
    rw [hV, Below.heap_setCell _ _ _ _ (by show R + 1 ≠ R; omega), Below.heap_setCell _ _ _ _ (by show R + 1 ≠ R; omega), Below.heap_setCell _ _ _ _ (by show R + 1 ≠ R; omega)]
    exact hQ
  have hR2 : V2.heap[R]? = some (.cells #[a, b, c] t (0, 0)) := by
    rw [hV2, Below.heap_setCell _ _ _ _ (by show R ≠ R + 1; omega), Below.heap_setCell _ _ _ _ (by show R ≠ R + 1; omega), Below.heap_setCell _ _ _ _ (by show R ≠ R + 1; omega), Below.heap_setCell _ _ _ _ (by show R ≠ R + 1; omega)]
    exact hVR
  have hQ2 : V2.heap[R + 1]? = some (.cells #[e0, e1, e2, e3] t2 (0, 0)) := by rw [hV2, heapSet (heapSet (heapSet (heapSet hVQ)))]; rfl
  refine ⟨root_box hR2, ⟨cellOf hQ2 0, cellOf hQ2 1, cellOf hQ2 2, cellOf hQ2 3⟩, ha.own.keep (fun g _ _ hg _ => far g (by omega) (by omega)), hb.own.keep (fun g _ _ hg _ => far g (by omega) (by omega)), hu.own.keep (fun g _ _ hg _ => far g (by omega) (by omega)), fun n hn _ => ?_⟩
  rw [hV2, hV]
  exact (((((((Below.refl n w).setCell (by exact hn) _).setCell (by exact hn) _).setCell (by exact hn) _).setCell (by show n ≤ R + 1; omega) _).setCell (by show n ≤ R + 1; omega) _).setCell (by show n ≤ R + 1; omega) _).setCell (by show n ≤ R + 1; omega) _

theorem implRootNext_b {r : Bool} (w : World) (n d n2 d2 : Int) (v v2 vb : Value) (k k2 by' : List Int) (hr : Ky.next n k d n2 k2 d2 by' = r) (h : Ins w v k) (h2 : Ins w v2 k2) (hb : Ins w vb by') : Calls Try.prog 66 #[.agg #[.int .i64 n, v, .int .i64 d], .agg #[.int .i64 n2, v2, .int .i64 d2, vb]] w fun e w' => e = .returned (.bool r) ∧ Below w.heap.size w w' :=
  (implRootNext_any w n d n2 d2 v v2 vb k k2 by' h h2 hb).mono fun e w' ⟨he, hq⟩ => ⟨by rw [he, hr], hq⟩
theorem specRootNext_b {r : Bool} (w : World) (n d n2 d2 : Int) (v v2 vb : Value) (k k2 by' : List Int) (hr : Ky.next n k d n2 k2 d2 by' = r) (h : Ins w v k) (h2 : Ins w v2 k2) (hb : Ins w vb by') : Calls Try.prog 107 #[.agg #[.int .i64 n, v, .int .i64 d], .agg #[.int .i64 n2, v2, .int .i64 d2, vb]] w fun e w' => e = .returned (.bool r) ∧ Below w.heap.size w w' :=
  (specRootNext_any w n d n2 d2 v v2 vb k k2 by' h h2 hb).mono fun e w' ⟨he, hq⟩ => ⟨by rw [he, hr], hq⟩
end Go.Proofs.Ytkgeekjclcpbpaa
