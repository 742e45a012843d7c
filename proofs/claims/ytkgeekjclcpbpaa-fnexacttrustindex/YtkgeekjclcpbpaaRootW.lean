/- What spec's and impl's RootOk, RootSigned and RootNext return: whether a root is ok, whether enough of its keys signed, whether a root may come behind another one; for every root and row of numbers; nothing old is written. -/
import Derived.Test.YtkgeekjclcpbpaaSetW
import Derived.Test.YtkgeekjclcpbpaaSkipW
import Derived.Deep.DrawnRows
namespace Go.Proofs.Ytkgeekjclcpbpaa
open Go.RowKit

attribute [local go_sem ↓] Go.wp_at_zero Go.wp_at_succ

set_option maxHeartbeats 1000000 in
theorem specRootOk_any (w : World) (n d : Int) (v : Value) (k : List Int) (h : Ins w v k) :
    Calls Try.prog 55 #[.agg #[.int .i64 n, v, .int .i64 d]] w fun e w' => e = .returned (.bool (Ky.rootOk n k d)) ∧ Below w.heap.size w w' := by
  obtain ⟨a, c, hv⟩ := h.slice
  subst hv
  have HB := hide (below1 w (.cells #[.int .i64 n, .slice a k.length c, .int .i64 d] 25))
  have HK : Hid (Ins (w.alloc (.cells #[.int .i64 n, .slice a k.length c, .int .i64 d] 25)) (.slice a k.length c) k) := h.later (unhide HB)
  clear h
  cases hA : Pk.inB n 1 9
  · go_enter Try.func55, Try.ntmps55
    go_wp2_with (go_at_call 46; refine (in_any _ _ _ _).mono ?_; rintro e w' ⟨rfl, rfl⟩)
    go_ret
    exact ⟨ret_bool (by simp [Ky.rootOk, hA]), unhide HB⟩
  cases hB : Ky.keysOk k
  · go_enter Try.func55, Try.ntmps55
    go_wp2_with (first | (go_at_call 46; refine (in_any _ _ _ _).mono ?_; rintro e w' ⟨rfl, rfl⟩) | (go_at_call 98; refine (specKeysOk_any _ _ k (unhide HK)).mono ?_; rintro e w' ⟨rfl, q, rfl⟩))
    go_ret
    exact ⟨ret_bool (by simp [Ky.rootOk, hB]), below_drewN (unhide HB) _⟩
  · go_enter Try.func55, Try.ntmps55
    go_wp2_with (first | (go_at_call 46; refine (in_any _ _ _ _).mono ?_; rintro e w' ⟨rfl, rfl⟩) | (go_at_call 98; refine (specKeysOk_any _ _ k (unhide HK)).mono ?_; rintro e w' ⟨rfl, q, rfl⟩))
    go_ret
    exact ⟨ret_bool (by simp [Ky.rootOk, hA, hB]), below_drewN (unhide HB) _⟩

set_option maxHeartbeats 1000000 in
theorem implRootOk_any (w : World) (n d : Int) (v : Value) (k : List Int) (h : Ins w v k) :
    Calls Try.prog 71 #[.agg #[.int .i64 n, v, .int .i64 d]] w fun e w' => e = .returned (.bool (Ky.rootOk n k d)) ∧ Below w.heap.size w w' := by
  obtain ⟨a, c, hv⟩ := h.slice
  subst hv
  have HB := hide (below1 w (.cells #[.int .i64 n, .slice a k.length c, .int .i64 d] 25))
  have HK : Hid (Ins (w.alloc (.cells #[.int .i64 n, .slice a k.length c, .int .i64 d] 25)) (.slice a k.length c) k) := h.later (unhide HB)
  clear h
  cases hA : Pk.inB n 1 9
  · go_enter Try.func71, Try.ntmps71
    go_wp2_with (go_at_call 50; refine (between_any _ _ _ _).mono ?_; rintro e w' ⟨rfl, rfl⟩)
    go_ret
    exact ⟨ret_bool (by simp [Ky.rootOk, hA]), unhide HB⟩
  cases hB : Ky.keysOk k
  · go_enter Try.func71, Try.ntmps71
    go_wp2_with (first | (go_at_call 50; refine (between_any _ _ _ _).mono ?_; rintro e w' ⟨rfl, rfl⟩) | (go_at_call 57; refine (implKeysOk_any _ _ k (unhide HK)).mono ?_; rintro e w' ⟨rfl, q, rfl⟩))
    go_ret
    exact ⟨ret_bool (by simp [Ky.rootOk, hB]), below_drewN (unhide HB) _⟩
  · go_enter Try.func71, Try.ntmps71
    go_wp2_with (first | (go_at_call 50; refine (between_any _ _ _ _).mono ?_; rintro e w' ⟨rfl, rfl⟩) | (go_at_call 57; refine (implKeysOk_any _ _ k (unhide HK)).mono ?_; rintro e w' ⟨rfl, q, rfl⟩))
    go_ret
    exact ⟨ret_bool (by simp [Ky.rootOk, hA, hB]), below_drewN (unhide HB) _⟩

/-- What a box of three holds, in its own world. -/
theorem box3 (w : World) (a b c : Value) (t : TypeId) : (w.alloc (.cells #[a, b, c] t)).heap.size = w.heap.size + 1 ∧ (w.alloc (.cells #[a, b, c] t)).cell? ⟨w.heap.size, 0, none⟩ = some a ∧ (w.alloc (.cells #[a, b, c] t)).cell? ⟨w.heap.size, 1, none⟩ = some b ∧ (w.alloc (.cells #[a, b, c] t)).cell? ⟨w.heap.size, 2, none⟩ = some c :=
  ⟨by simp, by rw [World.cell?_alloc_new]; rfl, by rw [World.cell?_alloc_new]; rfl, by rw [World.cell?_alloc_new]; rfl⟩
theorem box4i (w : World) (a b c d : Value) (t : TypeId) : (w.alloc (.cells #[a, b, c, d] t)).heap.size = w.heap.size + 1 ∧ (w.alloc (.cells #[a, b, c, d] t)).cell? ⟨w.heap.size, 0, none⟩ = some a ∧ (w.alloc (.cells #[a, b, c, d] t)).cell? ⟨w.heap.size, 1, none⟩ = some b ∧ (w.alloc (.cells #[a, b, c, d] t)).cell? ⟨w.heap.size, 2, none⟩ = some c ∧ (w.alloc (.cells #[a, b, c, d] t)).cell? ⟨w.heap.size, 3, none⟩ = some d :=
  ⟨by simp, by rw [World.cell?_alloc_new]; rfl, by rw [World.cell?_alloc_new]; rfl, by rw [World.cell?_alloc_new]; rfl, by rw [World.cell?_alloc_new]; rfl⟩

/-- A root in a box, and its keys. -/
structure Bx (w : World) (g : Nat) (n d : Int) (v : Value) (k : List Int) : Prop where
  lt : g < w.heap.size
  c0 : w.cell? ⟨g, 0, none⟩ = some (.int .i64 n)
  c1 : w.cell? ⟨g, 1, none⟩ = some v
  c2 : w.cell? ⟨g, 2, none⟩ = some (.int .i64 d)
  ins : Ins w v k
theorem Bx.later {w w' : World} {g : Nat} {n d : Int} {v : Value} {k : List Int} (h : Bx w g n d v k) (hb : Below w.heap.size w w') : Bx w' g n d v k :=
  ⟨Nat.lt_of_lt_of_le h.lt hb.size, (hb.cell h.lt).trans h.c0, (hb.cell h.lt).trans h.c1, (hb.cell h.lt).trans h.c2, h.ins.later hb⟩
theorem Bx.new {w : World} {n d : Int} {v : Value} {k : List Int} (h : Ins w v k) (t : TypeId) : Bx (w.alloc (.cells #[.int .i64 n, v, .int .i64 d] t)) w.heap.size n d v k := by
  obtain ⟨z, x0, x1, x2⟩ := box3 w (.int .i64 n) v (.int .i64 d) t
  exact ⟨by omega, x0, x1, x2, h.later (below1 _ _)⟩

theorem Bx.cells {w : World} {g : Nat} {n d : Int} {v : Value} {k : List Int} (h : Bx w g n d v k) : w.cell? ⟨g, 0, none⟩ = some (.int .i64 n) ∧ w.cell? ⟨g, 1, none⟩ = some v ∧ w.cell? ⟨g, 2, none⟩ = some (.int .i64 d) := ⟨h.c0, h.c1, h.c2⟩
theorem Bx.drew {w : World} {g : Nat} {n d : Int} {v : Value} {k : List Int} (h : Bx w g n d v k) : Bx w.drew g n d v k := ⟨h.lt, h.c0, h.c1, h.c2, h.ins⟩

theorem specKeysOk_b {b : Bool} (w : World) (v : Value) (l : List Int) (hb : Ky.keysOk l = b) (h : Ins w v l) : Calls Try.prog 98 #[v] w fun e w' => e = .returned (.bool b) ∧ Below w.heap.size w w' :=
  (specKeysOk_any w v l h).mono fun e w' ⟨he, q, hq⟩ => ⟨by rw [he, hb], by rw [hq]; exact below_drewN (Below.refl _ _) _⟩
theorem implKeysOk_b {b : Bool} (w : World) (v : Value) (l : List Int) (hb : Ky.keysOk l = b) (h : Ins w v l) : Calls Try.prog 57 #[v] w fun e w' => e = .returned (.bool b) ∧ Below w.heap.size w w' :=
  (implKeysOk_any w v l h).mono fun e w' ⟨he, q, hq⟩ => ⟨by rw [he, hb], by rw [hq]; exact below_drewN (Below.refl _ _) _⟩
theorem l2Both_b (w : World) (va vb : Value) (a b : List Int) (ha : Ins w va a) (hb : Ins w vb b) (hla : a.length ≤ 1000) (hlb : b.length ≤ 1000) : Calls Try.prog 112 #[va, vb] w fun e w' => e = .returned (.int .i64 (Ky.both a b)) ∧ Below w.heap.size w w' :=
  (l2Both_any w va vb a b ha hb hla hlb).mono fun e w' ⟨he, q, hq⟩ => ⟨he, by rw [hq]; exact below_drewN (Below.refl _ _) _⟩

theorem specRootOk_b {b : Bool} (w : World) (n d : Int) (v : Value) (k : List Int) (hb : Ky.rootOk n k d = b) (h : Ins w v k) : Calls Try.prog 55 #[.agg #[.int .i64 n, v, .int .i64 d]] w fun e w' => e = .returned (.bool b) ∧ Below w.heap.size w w' :=
  (specRootOk_any w n d v k h).mono fun e w' ⟨he, hq⟩ => ⟨by rw [he, hb], hq⟩
theorem implRootOk_b {b : Bool} (w : World) (n d : Int) (v : Value) (k : List Int) (hb : Ky.rootOk n k d = b) (h : Ins w v k) : Calls Try.prog 71 #[.agg #[.int .i64 n, v, .int .i64 d]] w fun e w' => e = .returned (.bool b) ∧ Below w.heap.size w w' :=
  (implRootOk_any w n d v k h).mono fun e w' ⟨he, hq⟩ => ⟨by rw [he, hb], hq⟩
theorem rootOk_keys {n d : Int} {k : List Int} (h : Ky.rootOk n k d = true) : Ky.keysOk k = true := by unfold Ky.rootOk at h; rw [Bool.and_eq_true, Bool.and_eq_true] at h; exact h.1.2

set_option maxHeartbeats 1000000 in
theorem specRootSigned_any (w : World) (n d : Int) (v vb : Value) (k by' : List Int) (h : Ins w v k) (hb : Ins w vb by') :
    Calls Try.prog 89 #[.agg #[.int .i64 n, v, .int .i64 d], vb] w fun e w' => e = .returned (.bool (Ky.signed n k d by')) ∧ Below w.heap.size w w' := by
  obtain ⟨a, c, hv⟩ := h.slice
  subst hv
  have X0 := hide (Bx.new (n := n) (d := d) h 25)
  have HB0 := hide (below1 w (.cells #[.int .i64 n, .slice a k.length c, .int .i64 d] 25))
  have HY0 := hide (hb.later (unhide HB0))
  clear h hb
  cases hA : Ky.rootOk n k d
  · go_enter Try.func89, Try.ntmps89
    go_wp2_with fail
    generalize w.alloc _ = W0 at *
    obtain ⟨x0, x1, x2⟩ := (unhide X0).cells
    refine wp_region_held_drew (S := fun w' => w'.cell? ⟨w.heap.size, 0, none⟩ = some (.int .i64 n) ∧ w'.cell? ⟨w.heap.size, 1, none⟩ = some (.slice a k.length c) ∧ w'.cell? ⟨w.heap.size, 2, none⟩ = some (.int .i64 d)) (by kernel_rfl) ?_ (fun hHeld => ?_)
    · exact ⟨x0, x1, x2⟩
    refine anyH_at (i := 0) (d := some 5) rfl rfl (by kernel_rfl) (by kernel_rfl) (by kernel_rfl) (fun _ _ _ h => h) (by rfl) (v := ?_) ?_ (by assumption) ?_
    rotate_left
    · (intro w hSw; (try dsimp only at hSw); go_simp <;> with_reducible rfl)
    simp only [Act.put, List.setIfInBounds_toArray, List.set_cons_zero, List.set_cons_succ]
    refine wpAnyH_ready (rs := [1]) (by kernel_rfl) (by simp) ?_
    refine AllReadyH.cons rfl (fun K hK => ?_) AllReadyH.nil
    go_simp
    refine (specRootOk_b _ n d _ k hA (by exact (unhide X0).drew.ins)).mono ?_
    rintro e w1 ⟨rfl, b1⟩
    have X1 := hide ((unhide X0).drew.later b1)
    go_wp2_with fail
    refine hK.out _ _ ?_ (fun hHeldN => ?_)
    · exact (unhide X1).cells
    clear hHeld
    have hHeld := hHeldN
    clear hHeldN
    clear hK K
    try simp only [Act.put, List.setIfInBounds_toArray, List.set_cons_zero, List.set_cons_succ]
    refine anyH_at (i := 2) (d := some 7) rfl rfl (by kernel_rfl) (by kernel_rfl) (by kernel_rfl) (fun _ _ _ h => h) (by rfl) (v := ?_) ?_ (by assumption) ?_
    rotate_left
    · (intro w hSw; (try dsimp only at hSw); go_simp <;> with_reducible rfl)
    simp only [Act.put, List.setIfInBounds_toArray, List.set_cons_zero, List.set_cons_succ]
    refine anyH_skip (i := 3) rfl (by kernel_rfl) (by kernel_rfl) (by kernel_rfl) (fun _ _ _ h => h) (by rfl) (by rfl) (by assumption) ?_
    refine anyH_skip (i := 4) rfl (by kernel_rfl) (by kernel_rfl) (by kernel_rfl) (fun _ _ _ h => h) (by rfl) (by rfl) (by assumption) ?_
    refine anyH_at (i := 5) (d := some 10) rfl rfl (by kernel_rfl) (by kernel_rfl) (by kernel_rfl) (fun _ _ _ h => h) (by rfl) (v := ?_) ?_ (by assumption) ?_
    rotate_left
    · (intro w hSw; (try dsimp only at hSw); go_simp <;> with_reducible rfl)
    simp only [Act.put, List.setIfInBounds_toArray, List.set_cons_zero, List.set_cons_succ]
    refine anyH_at (i := 6) (d := some 11) rfl rfl (by kernel_rfl) (by kernel_rfl) (by kernel_rfl) (fun _ _ _ h => h) (by rfl) (v := ?_) ?_ (by assumption) ?_
    rotate_left
    · (intro w hSw; (try dsimp only at hSw); go_simp <;> with_reducible rfl)
    simp only [Act.put, List.setIfInBounds_toArray, List.set_cons_zero, List.set_cons_succ]
    refine anyH_skip (i := 7) rfl (by kernel_rfl) (by kernel_rfl) (by kernel_rfl) (fun _ _ _ h => h) (by rfl) (by rfl) (by assumption) ?_
    refine anyH_skip (i := 8) rfl (by kernel_rfl) (by kernel_rfl) (by kernel_rfl) (fun _ _ _ h => h) (by rfl) (by rfl) (by assumption) ?_
    refine anyH_skip (i := 9) rfl (by kernel_rfl) (by kernel_rfl) (by kernel_rfl) (fun _ _ _ h => h) (by rfl) (by rfl) (by assumption) ?_
    refine anyH_skip (i := 10) rfl (by kernel_rfl) (by kernel_rfl) (by kernel_rfl) (fun _ _ _ h => h) (by rfl) (by rfl) (by assumption) ?_
    refine anyH_skip (i := 11) rfl (by kernel_rfl) (by kernel_rfl) (by kernel_rfl) (fun _ _ _ h => h) (by rfl) (by rfl) (by assumption) ?_
    refine anyH_skip (i := 12) rfl (by kernel_rfl) (by kernel_rfl) (by kernel_rfl) (fun _ _ _ h => h) (by rfl) (by rfl) (by assumption) ?_
    refine anyH_skip (i := 13) rfl (by kernel_rfl) (by kernel_rfl) (by kernel_rfl) (fun _ _ _ h => h) (by rfl) (by rfl) (by assumption) ?_
    refine anyH_at (i := 14) (d := some 19) rfl rfl (by kernel_rfl) (by kernel_rfl) (by kernel_rfl) (fun _ _ _ h => h) (by rfl) (v := ?_) ?_ (by assumption) ?_
    rotate_left
    · (intro w hSw; (try dsimp only at hSw); go_simp <;> with_reducible rfl)
    simp only [Act.put, List.setIfInBounds_toArray, List.set_cons_zero, List.set_cons_succ]
    refine anyH_at (i := 15) (d := some 4) rfl rfl (by kernel_rfl) (by kernel_rfl) (by kernel_rfl) (fun _ _ _ h => h) (by rfl) (v := ?_) ?_ (by assumption) ?_
    rotate_left
    · (intro w hSw; (try dsimp only at hSw); go_simp <;> with_reducible rfl)
    simp only [Act.put, List.setIfInBounds_toArray, List.set_cons_zero, List.set_cons_succ]
    refine wpAnyH_done (by kernel_rfl) ?_ _
    have HB1 : Hid (Below w.heap.size w w1) := (unhide HB0).drew.trans (b1.mono (unhide HB0).size)
    clear b1 x0 x1 x2
    go_wp2
    go_ret
    exact ⟨ret_bool (by simp [Ky.signed, hA]), unhide HB1⟩
  cases hB : Ky.keysOk by'
  · go_enter Try.func89, Try.ntmps89
    go_wp2_with fail
    generalize w.alloc _ = W0 at *
    obtain ⟨x0, x1, x2⟩ := (unhide X0).cells
    refine wp_region_held_drew (S := (fun w' => w'.cell? ⟨w.heap.size, 0, none⟩ = some (.int .i64 n) ∧ w'.cell? ⟨w.heap.size, 1, none⟩ = some (.slice a k.length c) ∧ w'.cell? ⟨w.heap.size, 2, none⟩ = some (.int .i64 d))) (by kernel_rfl) ?_ (fun hHeld => ?_)
    · exact ⟨x0, x1, x2⟩
    refine anyH_at (i := 0) (d := some 5) rfl rfl (by kernel_rfl) (by kernel_rfl) (by kernel_rfl) (fun _ _ _ h => h) (by rfl) (v := ?_) ?_ (by assumption) ?_
    rotate_left
    · (intro w hSw; (try dsimp only at hSw); go_simp <;> with_reducible rfl)
    simp only [Act.put, List.setIfInBounds_toArray, List.set_cons_zero, List.set_cons_succ]
    refine wpAnyH_ready (rs := [1]) (by kernel_rfl) (by simp) ?_
    refine AllReadyH.cons rfl (fun K hK => ?_) AllReadyH.nil
    go_simp
    refine (specRootOk_b _ n d _ k hA (by exact (unhide X0).drew.ins)).mono ?_
    rintro e w1 ⟨rfl, b1⟩
    have X1 := hide ((unhide X0).drew.later b1)
    go_wp2_with fail
    refine hK.out _ _ ?_ (fun hHeldN => ?_)
    · exact (unhide X1).cells
    clear hHeld
    have hHeld := hHeldN
    clear hHeldN
    clear hK K
    try simp only [Act.put, List.setIfInBounds_toArray, List.set_cons_zero, List.set_cons_succ]
    refine anyH_at (i := 2) (d := some 7) rfl rfl (by kernel_rfl) (by kernel_rfl) (by kernel_rfl) (fun _ _ _ h => h) (by rfl) (v := ?_) ?_ (by assumption) ?_
    rotate_left
    · (intro w hSw; (try dsimp only at hSw); go_simp <;> with_reducible rfl)
    simp only [Act.put, List.setIfInBounds_toArray, List.set_cons_zero, List.set_cons_succ]
    refine anyH_at (i := 3) (d := some 8) rfl rfl (by kernel_rfl) (by kernel_rfl) (by kernel_rfl) (fun _ _ _ h => h) (by rfl) (v := ?_) ?_ (by assumption) ?_
    rotate_left
    · (intro w hSw; (try dsimp only at hSw); go_simp <;> with_reducible rfl)
    simp only [Act.put, List.setIfInBounds_toArray, List.set_cons_zero, List.set_cons_succ]
    refine wpAnyH_ready (rs := [4]) (by kernel_rfl) (by simp) ?_
    refine AllReadyH.cons rfl (fun K hK => ?_) AllReadyH.nil
    go_simp
    refine (specKeysOk_b _ _ by' hB (by exact ((unhide HY0).drew).later b1)).mono ?_
    rintro e w2 ⟨rfl, b2⟩
    have X2 := hide ((unhide X1).later b2)
    go_wp2_with fail
    refine hK.out _ _ ?_ (fun hHeldN => ?_)
    · exact (unhide X2).cells
    clear hHeld
    have hHeld := hHeldN
    clear hHeldN
    clear hK K
    try simp only [Act.put, List.setIfInBounds_toArray, List.set_cons_zero, List.set_cons_succ]
    refine anyH_at (i := 5) (d := some 10) rfl rfl (by kernel_rfl) (by kernel_rfl) (by kernel_rfl) (fun _ _ _ h => h) (by rfl) (v := ?_) ?_ (by assumption) ?_
    rotate_left
    · (intro w hSw; (try dsimp only at hSw); go_simp <;> with_reducible rfl)
    simp only [Act.put, List.setIfInBounds_toArray, List.set_cons_zero, List.set_cons_succ]
    refine anyH_at (i := 6) (d := some 11) rfl rfl (by kernel_rfl) (by kernel_rfl) (by kernel_rfl) (fun _ _ _ h => h) (by rfl) (v := ?_) ?_ (by assumption) ?_
    rotate_left
    · (intro w hSw; (try dsimp only at hSw); go_simp <;> with_reducible rfl)
    simp only [Act.put, List.setIfInBounds_toArray, List.set_cons_zero, List.set_cons_succ]
    refine anyH_skip (i := 7) rfl (by kernel_rfl) (by kernel_rfl) (by kernel_rfl) (fun _ _ _ h => h) (by rfl) (by rfl) (by assumption) ?_
    refine anyH_skip (i := 8) rfl (by kernel_rfl) (by kernel_rfl) (by kernel_rfl) (fun _ _ _ h => h) (by rfl) (by rfl) (by assumption) ?_
    refine anyH_skip (i := 9) rfl (by kernel_rfl) (by kernel_rfl) (by kernel_rfl) (fun _ _ _ h => h) (by rfl) (by rfl) (by assumption) ?_
    refine anyH_skip (i := 10) rfl (by kernel_rfl) (by kernel_rfl) (by kernel_rfl) (fun _ _ _ h => h) (by rfl) (by rfl) (by assumption) ?_
    refine anyH_skip (i := 11) rfl (by kernel_rfl) (by kernel_rfl) (by kernel_rfl) (fun _ _ _ h => h) (by rfl) (by rfl) (by assumption) ?_
    refine anyH_skip (i := 12) rfl (by kernel_rfl) (by kernel_rfl) (by kernel_rfl) (fun _ _ _ h => h) (by rfl) (by rfl) (by assumption) ?_
    refine anyH_skip (i := 13) rfl (by kernel_rfl) (by kernel_rfl) (by kernel_rfl) (fun _ _ _ h => h) (by rfl) (by rfl) (by assumption) ?_
    refine anyH_at (i := 14) (d := some 19) rfl rfl (by kernel_rfl) (by kernel_rfl) (by kernel_rfl) (fun _ _ _ h => h) (by rfl) (v := ?_) ?_ (by assumption) ?_
    rotate_left
    · (intro w hSw; (try dsimp only at hSw); go_simp <;> with_reducible rfl)
    simp only [Act.put, List.setIfInBounds_toArray, List.set_cons_zero, List.set_cons_succ]
    refine anyH_at (i := 15) (d := some 4) rfl rfl (by kernel_rfl) (by kernel_rfl) (by kernel_rfl) (fun _ _ _ h => h) (by rfl) (v := ?_) ?_ (by assumption) ?_
    rotate_left
    · (intro w hSw; (try dsimp only at hSw); go_simp <;> with_reducible rfl)
    simp only [Act.put, List.setIfInBounds_toArray, List.set_cons_zero, List.set_cons_succ]
    refine wpAnyH_done (by kernel_rfl) ?_ _
    have HB2 : Hid (Below w.heap.size w w2) := ((unhide HB0).drew.trans (b1.mono (unhide HB0).size)).trans (b2.mono (Nat.le_trans (unhide HB0).size b1.size))
    clear b1 b2 x0 x1 x2
    go_wp2
    go_ret
    exact ⟨ret_bool (by simp [Ky.signed, hB]), unhide HB2⟩
  · have hk := rootOk_keys hA
    have hkl := Nat.le_trans (Ky.ok_len hk) (show 6 ≤ 1000 by omega)
    have hbl := Nat.le_trans (Ky.ok_len hB) (show 6 ≤ 1000 by omega)
    go_enter Try.func89, Try.ntmps89
    go_wp2_with fail
    generalize w.alloc _ = W0 at *
    obtain ⟨x0, x1, x2⟩ := (unhide X0).cells
    go_region_held3 (fun w' => w'.cell? ⟨w.heap.size, 0, none⟩ = some (.int .i64 n) ∧ w'.cell? ⟨w.heap.size, 1, none⟩ = some (.slice a k.length c) ∧ w'.cell? ⟨w.heap.size, 2, none⟩ = some (.int .i64 d))
      (first
        | (go_keep; done)
        | exact (unhide X3).cells
        | exact (unhide X2).cells
        | exact (unhide X1).cells
        | fail)
      (first
        | (go_at_call 55; refine (specRootOk_b _ n d _ k hA (by exact (unhide X0).drew.ins)).mono ?_; rintro e w1 ⟨rfl, b1⟩; have X1 := hide ((unhide X0).drew.later b1))
        | (go_at_call 98; refine (specKeysOk_b _ _ by' hB (by exact ((unhide HY0).drew).later b1)).mono ?_; rintro e w2 ⟨rfl, b2⟩; have X2 := hide ((unhide X1).later b2))
        | (go_at_call 112; refine (l2Both_b _ _ _ k by' (by exact (unhide X2).ins) (by exact (((unhide HY0).drew).later b1).later b2) hkl hbl).mono ?_; rintro e w3 ⟨rfl, b3⟩; have X3 := hide ((unhide X2).later b3)))
    have HB2 : Hid (Below w.heap.size w w2) := ((unhide HB0).drew.trans (b1.mono (unhide HB0).size)).trans (b2.mono (Nat.le_trans (unhide HB0).size b1.size))
    have HB3 : Hid (Below w.heap.size w w3) := (unhide HB2).trans (b3.mono (unhide HB2).size)
    clear b1 b2 b3 x0 x1 x2
    go_wp2
    go_ret
    exact ⟨ret_bool (by unfold Ky.signed; rw [hA, hB, Ky.both_cnt k by' hB]; simp), unhide HB3⟩

set_option maxHeartbeats 1000000 in
theorem signedBy_any (w : World) (n d : Int) (v : Value) (k by' : List Int) (m : Nat) (h : Ins w v k) (ho : Own w m by') :
    Calls Try.prog 58 #[.agg #[.int .i64 n, v, .int .i64 d], .map (some m)] w fun e w' => e = .returned (.bool (Ky.rootOk n k d && decide (d ≤ (Ky.cnt k by' : Int)))) ∧ Below w.heap.size w w' := by
  obtain ⟨a, c, hv⟩ := h.slice
  subst hv
  have X0 := hide (Bx.new (n := n) (d := d) h 25)
  have HB0 := hide (below1 w (.cells #[.int .i64 n, .slice a k.length c, .int .i64 d] 25))
  have HY0 := hide (ho.later (unhide HB0))
  clear h ho
  cases hA : Ky.rootOk n k d
  · go_enter Try.func58, Try.ntmps58
    go_wp2_with fail
    generalize w.alloc _ = W0 at *
    obtain ⟨x0, x1, x2⟩ := (unhide X0).cells
    refine wp_region_held_drew (S := (fun w' => w'.cell? ⟨w.heap.size, 0, none⟩ = some (.int .i64 n) ∧ w'.cell? ⟨w.heap.size, 1, none⟩ = some (.slice a k.length c) ∧ w'.cell? ⟨w.heap.size, 2, none⟩ = some (.int .i64 d))) (by kernel_rfl) ?_ (fun hHeld => ?_)
    · exact ⟨x0, x1, x2⟩
    refine anyH_at (i := 0) (d := some 5) rfl rfl (by kernel_rfl) (by kernel_rfl) (by kernel_rfl) (fun _ _ _ h => h) (by rfl) (v := ?_) ?_ (by assumption) ?_
    rotate_left
    · (intro w hSw; (try dsimp only at hSw); go_simp <;> with_reducible rfl)
    simp only [Act.put, List.setIfInBounds_toArray, List.set_cons_zero, List.set_cons_succ]
    refine wpAnyH_ready (rs := [1]) (by kernel_rfl) (by simp) ?_
    refine AllReadyH.cons rfl (fun K hK => ?_) AllReadyH.nil
    go_simp
    refine (implRootOk_b _ n d _ k hA (by exact (unhide X0).drew.ins)).mono ?_
    rintro e w1 ⟨rfl, b1⟩
    have X1 := hide ((unhide X0).drew.later b1)
    go_wp2_with fail
    refine hK.out _ _ ?_ (fun hHeldN => ?_)
    · exact (unhide X1).cells
    clear hHeld
    have hHeld := hHeldN
    clear hHeldN
    clear hK K
    try simp only [Act.put, List.setIfInBounds_toArray, List.set_cons_zero, List.set_cons_succ]
    refine anyH_at (i := 2) (d := some 7) rfl rfl (by kernel_rfl) (by kernel_rfl) (by kernel_rfl) (fun _ _ _ h => h) (by rfl) (v := ?_) ?_ (by assumption) ?_
    rotate_left
    · (intro w hSw; (try dsimp only at hSw); go_simp <;> with_reducible rfl)
    simp only [Act.put, List.setIfInBounds_toArray, List.set_cons_zero, List.set_cons_succ]
    refine anyH_skip (i := 3) rfl (by kernel_rfl) (by kernel_rfl) (by kernel_rfl) (fun _ _ _ h => h) (by rfl) (by rfl) (by assumption) ?_
    refine anyH_skip (i := 4) rfl (by kernel_rfl) (by kernel_rfl) (by kernel_rfl) (fun _ _ _ h => h) (by rfl) (by rfl) (by assumption) ?_
    refine anyH_skip (i := 5) rfl (by kernel_rfl) (by kernel_rfl) (by kernel_rfl) (fun _ _ _ h => h) (by rfl) (by rfl) (by assumption) ?_
    refine anyH_skip (i := 6) rfl (by kernel_rfl) (by kernel_rfl) (by kernel_rfl) (fun _ _ _ h => h) (by rfl) (by rfl) (by assumption) ?_
    refine anyH_skip (i := 7) rfl (by kernel_rfl) (by kernel_rfl) (by kernel_rfl) (fun _ _ _ h => h) (by rfl) (by rfl) (by assumption) ?_
    refine anyH_skip (i := 8) rfl (by kernel_rfl) (by kernel_rfl) (by kernel_rfl) (fun _ _ _ h => h) (by rfl) (by rfl) (by assumption) ?_
    refine anyH_skip (i := 9) rfl (by kernel_rfl) (by kernel_rfl) (by kernel_rfl) (fun _ _ _ h => h) (by rfl) (by rfl) (by assumption) ?_
    refine anyH_at (i := 10) (d := some 15) rfl rfl (by kernel_rfl) (by kernel_rfl) (by kernel_rfl) (fun _ _ _ h => h) (by rfl) (v := ?_) ?_ (by assumption) ?_
    rotate_left
    · (intro w hSw; (try dsimp only at hSw); go_simp <;> with_reducible rfl)
    simp only [Act.put, List.setIfInBounds_toArray, List.set_cons_zero, List.set_cons_succ]
    refine anyH_at (i := 11) (d := some 4) rfl rfl (by kernel_rfl) (by kernel_rfl) (by kernel_rfl) (fun _ _ _ h => h) (by rfl) (v := ?_) ?_ (by assumption) ?_
    rotate_left
    · (intro w hSw; (try dsimp only at hSw); go_simp <;> with_reducible rfl)
    simp only [Act.put, List.setIfInBounds_toArray, List.set_cons_zero, List.set_cons_succ]
    refine wpAnyH_done (by kernel_rfl) ?_ _
    have HB1 : Hid (Below w.heap.size w w1) := (unhide HB0).drew.trans (b1.mono (unhide HB0).size)
    clear b1 x0 x1 x2
    go_wp2
    go_ret
    exact ⟨ret_bool (by simp), unhide HB1⟩
  · obtain ⟨s1, s2⟩ := small_ok (rootOk_keys hA)
    go_enter Try.func58, Try.ntmps58
    go_wp2_with fail
    generalize w.alloc _ = W0 at *
    obtain ⟨x0, x1, x2⟩ := (unhide X0).cells
    go_region_held3 (fun w' => w'.cell? ⟨w.heap.size, 0, none⟩ = some (.int .i64 n) ∧ w'.cell? ⟨w.heap.size, 1, none⟩ = some (.slice a k.length c) ∧ w'.cell? ⟨w.heap.size, 2, none⟩ = some (.int .i64 d))
      (first
        | (go_keep; done)
        | exact (unhide X2).cells
        | exact (unhide X1).cells
        | fail)
      (first
        | (go_at_call 71; refine (implRootOk_b _ n d _ k hA (by exact (unhide X0).drew.ins)).mono ?_; rintro e w1 ⟨rfl, b1⟩; have X1 := hide ((unhide X0).drew.later b1))
        | (go_at_call 100; refine (countOf_any _ m by' _ k (by exact ((unhide HY0).later (below_drew _)).later b1) (by exact (unhide X1).ins) s1 s2).mono ?_; rintro e w2 ⟨rfl, b2⟩; have X2 := hide ((unhide X1).later b2)))
    have HB1 : Hid (Below w.heap.size w w1) := (unhide HB0).drew.trans (b1.mono (unhide HB0).size)
    have HB2 : Hid (Below w.heap.size w w2) := (unhide HB1).trans (b2.mono (unhide HB1).size)
    clear b1 b2 x0 x1 x2
    go_wp2
    go_ret
    exact ⟨ret_bool (by simp), unhide HB2⟩

set_option maxHeartbeats 1000000 in
theorem implRootSigned_any (w : World) (n d : Int) (v vb : Value) (k by' : List Int) (h : Ins w v k) (hb : Ins w vb by') :
    Calls Try.prog 15 #[.agg #[.int .i64 n, v, .int .i64 d], vb] w fun e w' => e = .returned (.bool (Ky.signed n k d by')) ∧ Below w.heap.size w w' := by
  obtain ⟨a, c, hv⟩ := h.slice
  subst hv
  have X0 := hide (Bx.new (n := n) (d := d) h 25)
  have HB0 := hide (below1 w (.cells #[.int .i64 n, .slice a k.length c, .int .i64 d] 25))
  have HY0 := hide (hb.later (unhide HB0))
  clear h hb
  cases hB : Ky.keysOk by'
  · go_enter Try.func15, Try.ntmps15
    go_wp2_with fail
    generalize w.alloc _ = W0 at *
    refine wp_region_held_drew (S := fun _ => True) (by kernel_rfl) ?_ (fun hHeld => ?_)
    · exact True.intro
    refine anyH_at (i := 0) (d := some 5) rfl rfl (by kernel_rfl) (by kernel_rfl) (by kernel_rfl) (fun _ _ _ h => h) (by rfl) (v := ?_) ?_ (by assumption) ?_
    rotate_left
    · (intro w hSw; (try dsimp only at hSw); go_simp <;> with_reducible rfl)
    simp only [Act.put, List.setIfInBounds_toArray, List.set_cons_zero, List.set_cons_succ]
    refine wpAnyH_ready (rs := [1]) (by kernel_rfl) (by simp) ?_
    refine AllReadyH.cons rfl (fun K hK => ?_) AllReadyH.nil
    go_simp
    refine (implKeysOk_b _ _ by' hB (by exact (unhide HY0).drew)).mono ?_
    rintro e w1 ⟨rfl, b1⟩
    go_wp2_with fail
    refine hK.out _ _ ?_ (fun hHeldN => ?_)
    · exact True.intro
    clear hHeld
    have hHeld := hHeldN
    clear hHeldN
    clear hK K
    try simp only [Act.put, List.setIfInBounds_toArray, List.set_cons_zero, List.set_cons_succ]
    refine anyH_at (i := 2) (d := some 7) rfl rfl (by kernel_rfl) (by kernel_rfl) (by kernel_rfl) (fun _ _ _ h => h) (by rfl) (v := ?_) ?_ (by assumption) ?_
    rotate_left
    · (intro w hSw; (try dsimp only at hSw); go_simp <;> with_reducible rfl)
    simp only [Act.put, List.setIfInBounds_toArray, List.set_cons_zero, List.set_cons_succ]
    refine anyH_skip (i := 3) rfl (by kernel_rfl) (by kernel_rfl) (by kernel_rfl) (fun _ _ _ h => h) (by rfl) (by rfl) (by assumption) ?_
    refine anyH_skip (i := 4) rfl (by kernel_rfl) (by kernel_rfl) (by kernel_rfl) (fun _ _ _ h => h) (by rfl) (by rfl) (by assumption) ?_
    refine anyH_skip (i := 5) rfl (by kernel_rfl) (by kernel_rfl) (by kernel_rfl) (fun _ _ _ h => h) (by rfl) (by rfl) (by assumption) ?_
    refine anyH_skip (i := 6) rfl (by kernel_rfl) (by kernel_rfl) (by kernel_rfl) (fun _ _ _ h => h) (by rfl) (by rfl) (by assumption) ?_
    refine anyH_at (i := 7) (d := some 12) rfl rfl (by kernel_rfl) (by kernel_rfl) (by kernel_rfl) (fun _ _ _ h => h) (by rfl) (v := ?_) ?_ (by assumption) ?_
    rotate_left
    · (intro w hSw; (try dsimp only at hSw); go_simp <;> with_reducible rfl)
    simp only [Act.put, List.setIfInBounds_toArray, List.set_cons_zero, List.set_cons_succ]
    refine anyH_at (i := 8) (d := some 4) rfl rfl (by kernel_rfl) (by kernel_rfl) (by kernel_rfl) (fun _ _ _ h => h) (by rfl) (v := ?_) ?_ (by assumption) ?_
    rotate_left
    · (intro w hSw; (try dsimp only at hSw); go_simp <;> with_reducible rfl)
    simp only [Act.put, List.setIfInBounds_toArray, List.set_cons_zero, List.set_cons_succ]
    refine wpAnyH_done (by kernel_rfl) ?_ _
    have HB1 : Hid (Below w.heap.size w w1) := (unhide HB0).drew.trans (b1.mono (unhide HB0).size)
    clear b1
    go_wp2
    go_ret
    exact ⟨ret_bool (by simp [Ky.signed, hB]), unhide HB1⟩
  · obtain ⟨s1, s2⟩ := small_ok hB
    go_enter Try.func15, Try.ntmps15
    go_wp2_with fail
    generalize w.alloc _ = W0 at *
    obtain ⟨x0, x1, x2⟩ := (unhide X0).cells
    go_region_held3 (fun w' => w'.cell? ⟨w.heap.size, 0, none⟩ = some (.int .i64 n) ∧ w'.cell? ⟨w.heap.size, 1, none⟩ = some (.slice a k.length c) ∧ w'.cell? ⟨w.heap.size, 2, none⟩ = some (.int .i64 d))
      (first
        | (go_keep; done)
        | exact (unhide X3).cells
        | exact (unhide X2).cells
        | exact (unhide X1).cells
        | fail)
      (first
        | (go_at_call 57; refine (implKeysOk_b _ _ by' hB (by exact (unhide HY0).drew)).mono ?_; rintro e w1 ⟨rfl, b1⟩; have X1 := hide ((unhide X0).drew.later b1))
        | (go_at_call 59; refine (setOf_any _ _ by' (by exact (unhide HY0).drew.later b1) s1 s2).mono ?_; rintro e w2 ⟨rfl, o2, b2⟩; have X2 := hide ((unhide X1).later b2))
        | (go_at_call 58; refine (signedBy_any _ n d _ k by' _ (by exact (unhide X2).ins) (by exact o2)).mono ?_; rintro e w3 ⟨rfl, b3⟩; have X3 := hide ((unhide X2).later b3)))
    have HB1 : Hid (Below w.heap.size w w1) := (unhide HB0).drew.trans (b1.mono (unhide HB0).size)
    have HB2 : Hid (Below w.heap.size w w2) := (unhide HB1).trans (b2.mono (unhide HB1).size)
    have HB3 : Hid (Below w.heap.size w w3) := (unhide HB2).trans (b3.mono (unhide HB2).size)
    clear b1 b2 b3 o2 x0 x1 x2
    go_wp2
    go_ret
    exact ⟨ret_bool (by unfold Ky.signed; rw [hB]; simp), unhide HB3⟩

theorem implRootSigned_b {r : Bool} (w : World) (n d : Int) (v vb : Value) (k by' : List Int) (hr : Ky.signed n k d by' = r) (h : Ins w v k) (hb : Ins w vb by') : Calls Try.prog 15 #[.agg #[.int .i64 n, v, .int .i64 d], vb] w fun e w' => e = .returned (.bool r) ∧ Below w.heap.size w w' :=
  (implRootSigned_any w n d v vb k by' h hb).mono fun e w' ⟨he, hq⟩ => ⟨by rw [he, hr], hq⟩
theorem specRootSigned_b {r : Bool} (w : World) (n d : Int) (v vb : Value) (k by' : List Int) (hr : Ky.signed n k d by' = r) (h : Ins w v k) (hb : Ins w vb by') : Calls Try.prog 89 #[.agg #[.int .i64 n, v, .int .i64 d], vb] w fun e w' => e = .returned (.bool r) ∧ Below w.heap.size w w' :=
  (specRootSigned_any w n d v vb k by' h hb).mono fun e w' ⟨he, hq⟩ => ⟨by rw [he, hr], hq⟩
end Go.Proofs.Ytkgeekjclcpbpaa
