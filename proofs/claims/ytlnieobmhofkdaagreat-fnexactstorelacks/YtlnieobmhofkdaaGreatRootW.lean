import Derived.Test.YtlnieobmhofkdaaGreatMix5
import Derived.Deep.DrawnRows
/- What spec's and impl's RootOk, RootSigned and RootNext return: whether a root is ok, whether enough of its keys signed, whether a root may come behind another one; for every root and row of numbers; nothing old is written. -/
namespace Go.Proofs.YtlnieobmhofkdaaGreat
open Go.RowKit

attribute [local go_sem ↓] Go.wp_at_zero Go.wp_at_succ

set_option maxHeartbeats 1000000 in
theorem specRootOk_any (w : World) (n d : Int) (v : Value) (k : List Int) (h : Ins w v k) :
    Calls Tryz.prog 45 #[.agg #[.int .i64 n, v, .int .i64 d]] w fun e w' => e = .returned (.bool (Ky.rootOk n k d)) ∧ Below w.heap.size w w' := by
  obtain ⟨a, c, hv⟩ := h.slice
  subst hv
  have HB := hide (below1 w (.cells #[.int .i64 n, .slice a k.length c, .int .i64 d] 35))
  have HK : Hid (Ins (w.alloc (.cells #[.int .i64 n, .slice a k.length c, .int .i64 d] 35)) (.slice a k.length c) k) := h.later (unhide HB)
  clear h
  cases hA : Pk.inB n 1 9
  · go_enter Tryz.func45, Tryz.ntmps45
    go_wp2_with (go_at_call 69; refine (in_any _ _ _ _).mono ?_; rintro e w' ⟨rfl, rfl⟩)
    go_ret
    exact ⟨ret_bool (by simp [Ky.rootOk, hA]), unhide HB⟩
  cases hB : Ky.keysOk k
  · go_enter Tryz.func45, Tryz.ntmps45
    go_wp2_with (first | (go_at_call 69; refine (in_any _ _ _ _).mono ?_; rintro e w' ⟨rfl, rfl⟩) | (go_at_call 70; refine (specKeysOk_any _ _ k (unhide HK)).mono ?_; rintro e w' ⟨rfl, q, rfl⟩))
    go_ret
    exact ⟨ret_bool (by simp [Ky.rootOk, hB]), below_drewN (unhide HB) _⟩
  · go_enter Tryz.func45, Tryz.ntmps45
    go_wp2_with (first | (go_at_call 69; refine (in_any _ _ _ _).mono ?_; rintro e w' ⟨rfl, rfl⟩) | (go_at_call 70; refine (specKeysOk_any _ _ k (unhide HK)).mono ?_; rintro e w' ⟨rfl, q, rfl⟩))
    go_ret
    exact ⟨ret_bool (by simp [Ky.rootOk, hA, hB]), below_drewN (unhide HB) _⟩

set_option maxHeartbeats 1000000 in
theorem implRootOk_any (w : World) (n d : Int) (v : Value) (k : List Int) (h : Ins w v k) :
    Calls Tryz.prog 55 #[.agg #[.int .i64 n, v, .int .i64 d]] w fun e w' => e = .returned (.bool (Ky.rootOk n k d)) ∧ Below w.heap.size w w' := by
  obtain ⟨a, c, hv⟩ := h.slice
  subst hv
  have HB := hide (below1 w (.cells #[.int .i64 n, .slice a k.length c, .int .i64 d] 35))
  have HK : Hid (Ins (w.alloc (.cells #[.int .i64 n, .slice a k.length c, .int .i64 d] 35)) (.slice a k.length c) k) := h.later (unhide HB)
  clear h
  cases hA : Pk.inB n 1 9
  · go_enter Tryz.func55, Tryz.ntmps55
    go_wp2_with (go_at_call 77; refine (between_any _ _ _ _).mono ?_; rintro e w' ⟨rfl, rfl⟩)
    go_ret
    exact ⟨ret_bool (by simp [Ky.rootOk, hA]), unhide HB⟩
  cases hB : Ky.keysOk k
  · go_enter Tryz.func55, Tryz.ntmps55
    go_wp2_with (first | (go_at_call 77; refine (between_any _ _ _ _).mono ?_; rintro e w' ⟨rfl, rfl⟩) | (go_at_call 78; refine (implKeysOk_any _ _ k (unhide HK)).mono ?_; rintro e w' ⟨rfl, q, rfl⟩))
    go_ret
    exact ⟨ret_bool (by simp [Ky.rootOk, hB]), below_drewN (unhide HB) _⟩
  · go_enter Tryz.func55, Tryz.ntmps55
    go_wp2_with (first | (go_at_call 77; refine (between_any _ _ _ _).mono ?_; rintro e w' ⟨rfl, rfl⟩) | (go_at_call 78; refine (implKeysOk_any _ _ k (unhide HK)).mono ?_; rintro e w' ⟨rfl, q, rfl⟩))
    go_ret
    exact ⟨ret_bool (by simp [Ky.rootOk, hA, hB]), below_drewN (unhide HB) _⟩

/-- What a box of three holds, in its own world. -/
theorem box3 (w : World) (a b c : Value) (t : TypeId) : (w.alloc (.cells #[a, b, c] t)).heap.size = w.heap.size + 1 ∧ (w.alloc (.cells #[a, b, c] t)).cell? ⟨w.heap.size, 0, none⟩ = some a ∧ (w.alloc (.cells #[a, b, c] t)).cell? ⟨w.heap.size, 1, none⟩ = some b ∧ (w.alloc (.cells #[a, b, c] t)).cell? ⟨w.heap.size, 2, none⟩ = some c :=
  ⟨by simp, by rw [World.cell?_alloc_new]; rfl, by rw [World.cell?_alloc_new]; rfl, by rw [World.cell?_alloc_new]; rfl⟩
theorem box4i (w : World) (a b c d : Value) (t : TypeId) : (w.alloc (.cells #[a, b, c, d] t)).heap.size = w.heap.size + 1 ∧ (w.alloc (.cells #[a, b, c, d] t)).cell? ⟨w.heap.size, 0, none⟩ = some a ∧ (w.alloc (.cells #[a, b, c, d] t)).cell? ⟨w.heap.size, 1, none⟩ = some b ∧ (w.alloc (.cells #[a, b, c, d] t)).cell? ⟨w.heap.size, 2, none⟩ = some c ∧ (w.alloc (.cells #[a, b, c, d] t)).cell? ⟨w.heap.size, 3, none⟩ = some d :=
  ⟨by simp, by rw [World.cell?_alloc_new]; rfl, by rw [World.cell?_alloc_new]; rfl, by rw [World.cell?_alloc_new]; rfl, by rw [World.cell?_alloc_new]; rfl⟩

/-- A root in a box, and its keys. -/
structure Bx (w : World) (g : Nat) (n d : Int) (v : Value) (k : List Int) : Prop where
  lt : g < w.heap.size
  c0 : w.cell? ⟨g, 0, none⟩ = some (.int .i64 n)
  c1 : w.cell? ⟨g, 1, none⟩ = some v
  c2 : w.cell? ⟨g, 2, none⟩ = some (.int .i64 d)
  ins : Ins w v k
theorem Bx.later {w w' : World} {g : Nat} {n d : Int} {v : Value} {k : List Int} (h : Bx w g n d v k) (hb : Below w.heap.size w w') : Bx w' g n d v k :=
  ⟨Nat.lt_of_lt_of_le h.lt hb.size, (hb.cell h.lt).trans h.c0, (hb.cell h.lt).trans h.c1, (hb.cell h.lt).trans h.c2, h.ins.later hb⟩
theorem Bx.new {w : World} {n d : Int} {v : Value} {k : List Int} (h : Ins w v k) (t : TypeId) : Bx (w.alloc (.cells #[.int .i64 n, v, .int .i64 d] t)) w.heap.size n d v k := by
  obtain ⟨z, x0, x1, x2⟩ := box3 w (.int .i64 n) v (.int .i64 d) t
  exact ⟨by omega, x0, x1, x2, h.later (below1 _ _)⟩

theorem Bx.cells {w : World} {g : Nat} {n d : Int} {v : Value} {k : List Int} (h : Bx w g n d v k) : w.cell? ⟨g, 0, none⟩ = some (.int .i64 n) ∧ w.cell? ⟨g, 1, none⟩ = some v ∧ w.cell? ⟨g, 2, none⟩ = some (.int .i64 d) := ⟨h.c0, h.c1, h.c2⟩
theorem Bx.drew {w : World} {g : Nat} {n d : Int} {v : Value} {k : List Int} (h : Bx w g n d v k) : Bx w.drew g n d v k := ⟨h.lt, h.c0, h.c1, h.c2, h.ins⟩

theorem specKeysOk_b {b : Bool} (w : World) (v : Value) (l : List Int) (hb : Ky.keysOk l = b) (h : Ins w v l) : Calls Tryz.prog 70 #[v] w fun e w' => e = .returned (.bool b) ∧ Below w.heap.size w w' :=
  (specKeysOk_any w v l h).mono fun e w' ⟨he, q, hq⟩ => ⟨by rw [he, hb], by rw [hq]; exact below_drewN (Below.refl _ _) _⟩
theorem implKeysOk_b {b : Bool} (w : World) (v : Value) (l : List Int) (hb : Ky.keysOk l = b) (h : Ins w v l) : Calls Tryz.prog 78 #[v] w fun e w' => e = .returned (.bool b) ∧ Below w.heap.size w w' :=
  (implKeysOk_any w v l h).mono fun e w' ⟨he, q, hq⟩ => ⟨by rw [he, hb], by rw [hq]; exact below_drewN (Below.refl _ _) _⟩
theorem specRootOk_b {b : Bool} (w : World) (n d : Int) (v : Value) (k : List Int) (hb : Ky.rootOk n k d = b) (h : Ins w v k) : Calls Tryz.prog 45 #[.agg #[.int .i64 n, v, .int .i64 d]] w fun e w' => e = .returned (.bool b) ∧ Below w.heap.size w w' :=
  (specRootOk_any w n d v k h).mono fun e w' ⟨he, hq⟩ => ⟨by rw [he, hb], hq⟩
theorem implRootOk_b {b : Bool} (w : World) (n d : Int) (v : Value) (k : List Int) (hb : Ky.rootOk n k d = b) (h : Ins w v k) : Calls Tryz.prog 55 #[.agg #[.int .i64 n, v, .int .i64 d]] w fun e w' => e = .returned (.bool b) ∧ Below w.heap.size w w' :=
  (implRootOk_any w n d v k h).mono fun e w' ⟨he, hq⟩ => ⟨by rw [he, hb], hq⟩
theorem rootOk_keys {n d : Int} {k : List Int} (h : Ky.rootOk n k d = true) : Ky.keysOk k = true := by unfold Ky.rootOk at h; rw [Bool.and_eq_true, Bool.and_eq_true] at h; exact h.1.2

end Go.Proofs.YtlnieobmhofkdaaGreat
