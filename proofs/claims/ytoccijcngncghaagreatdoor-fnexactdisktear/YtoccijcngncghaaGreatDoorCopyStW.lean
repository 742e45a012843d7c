import Derived.Test.YtoccijcngncghaaGreatDoorMix14
import Derived.Test.YtoccijcngncghaaGreatDoorCopyDkW
import Derived.Test.YtoccijcngncghaaGreatDoorMarkDkW
import Derived.Deep.CutRange
/- What the laws do with a step: how much it is, the step laid anew, two of them held against each other, marks. -/
namespace Go.Proofs.YtoccijcngncghaaGreatDoor
open Go.RowKit

attribute [local go_sem ↓] Go.wp_at_zero Go.wp_at_succ

/-- The row of a step, as data, not too long. -/
structure StepAt (w : World) (v : Value) (s : Dk.S) : Prop where
  pk : Pks (fun _ => True) w v s.ps
  l : s.ps.length ≤ 1048576
  a : ∀ i, i < s.ps.length → (Ix.pg s.ps i).2.2.1.length ≤ 1048576 ∧ (Ix.pg s.ps i).2.2.2.length ≤ 1048576
theorem StepAt.later {w w' : World} {v : Value} {s : Dk.S} (h : StepAt w v s) (hb : Below w.heap.size w w') : StepAt w' v s := ⟨h.pk.later hb, h.l, h.a⟩

set_option maxHeartbeats 4000000 in
set_option maxRecDepth 100000 in
theorem szStep_in (w : World) (k p x : Int) (a : Option Addr) (n c : Nat) (left : Int) (l0 : 0 ≤ left) (l1 : left ≤ 1048576) (h : PkgsIn w a n c) :
    Calls Tryz.prog 18 #[.agg #[.int .i64 k, .int .i64 p, .int .i64 x, .slice a n c], .int .i64 left] w fun e w' => Below w.heap.size w w' ∧ ((∃ ps : List Ix.Pg, ps.length = n ∧ StepAt w' (.slice a n c) ⟨k, p, x, ps⟩ ∧ ∃ r : Int, e = .returned (.int .i64 r) ∧ 0 ≤ r ∧ r ≤ left) ∨ e = .returned (.int .i64 (-1))) := by
  have b0 := below1 w (.cells #[.int .i64 k, .int .i64 p, .int .i64 x, .slice a n c] 47)
  have BW := hide b0
  have HI := hide h
  clear b0 h
  go_enter Tryz.func18, Tryz.ntmps18
  go_wp2_with fail
  refine (szPkgS_in _ a n c left l0 l1 ((unhide HI).later (unhide BW))).mono ?_
  generalize w.alloc _ = W0 at *
  rintro e w1 ⟨b, ⟨ps, hdl, hdn, hdp, hda, r1, rfl, r10, r11⟩ | rfl⟩
  rotate_left
  · have B1 := hide ((unhide BW).trans (b.mono (unhide BW).size))
    clear b
    go_wp2
    go_ret
    exact ⟨unhide B1, .inr rfl⟩
  have hr1 : ¬ r1 < 0 := by omega
  have B1 := hide ((unhide BW).trans (b.mono (unhide BW).size))
  have HD : Hid (StepAt w1 (.slice a n c) ⟨k, p, x, ps⟩) := ⟨hdp.later b, by show ps.length ≤ _; omega, by rw [← hdl] at hda; exact hda⟩
  have HL := hide hdl
  clear b hdp hda hdl BW
  go_wp2
  go_ret
  exact ⟨unhide B1, .inl ⟨ps, unhide HL, unhide HD, r1, rfl, r10, r11⟩⟩

/-- A step laid anew: its row may be written to. -/
structure StepNewAt (w : World) (g1 : Nat) (s : Dk.S) : Prop where
  f1 : FillP w g1 s.ps s.ps.length
  w1 : WrP (fun b => g1 ≤ b ∧ b < w.heap.size) w g1 s.ps.length
theorem StepNewAt.later {w w' : World} {g1 : Nat} {s : Dk.S} (h : StepNewAt w g1 s) (hb : Below w.heap.size w w') : StepNewAt w' g1 s :=
  ⟨h.f1.later hb, (h.w1.later hb).weakN (fun _ hx => ⟨hx.1, Nat.lt_of_lt_of_le hx.2 hb.size⟩)⟩
theorem StepNewAt.at {w : World} {g1 : Nat} {s : Dk.S} {v : Value} {w0 : World} (h : StepNewAt w g1 s) (hd : StepAt w0 v s) : StepAt w (rowV g1 s.ps.length) s :=
  ⟨(h.f1.pks hd.l).weak (fun _ _ => trivial), hd.l, hd.a⟩
theorem below_setX {B X o : Nat} {u : Value} {w w' : World} (h : Below B w w') (hX : B ≤ X) : Below B w (w'.setCell ⟨X, o, none⟩ u) := below_set h hX
theorem sz_set {w : World} {X o : Nat} {u : Value} : (w.setCell ⟨X, o, none⟩ u).heap.size = w.heap.size := by simp [World.setCell]

set_option linter.unusedSimpArgs false in
set_option maxHeartbeats 4000000 in
set_option maxRecDepth 100000 in
theorem toStep_fill (w : World) (s : Dk.S) (v : Value) (h : StepAt w v s) :
    Calls Tryz.prog 20 #[stV s.k s.p s.x v] w fun e w' => ∃ g1, w.heap.size ≤ g1 ∧ e = .returned (stV s.k s.p s.x (rowV g1 s.ps.length)) ∧ StepNewAt w' g1 s ∧ Below w.heap.size w w' := by
  have HH := hide h
  obtain ⟨a, c, e1⟩ := h.pk.slice
  subst e1
  clear h
  obtain ⟨B, hA, hR, hO, hsz⟩ := three_boxesD w (.cells #[.int .i64 s.k, .int .i64 s.p, .int .i64 s.x, .slice a s.ps.length c] 47) (.cells #[.int .i64 0, .int .i64 0, .int .i64 0, .slice none 0 0] 28) (.cells #[.int .i64 0, .int .i64 0, .int .i64 0, .slice none 0 0] 28)
  obtain ⟨k, p, x, ps⟩ := s
  dsimp only [stV, rowV] at *
  have HA := hide hA
  have HR := hide hR
  have HO := hide hO
  have BW := hide B
  have HZ := hide hsz
  clear hA hR hO B hsz
  go_enter Tryz.func20, Tryz.ntmps20
  go_upto_region 2 with fail
  generalize World.alloc _ _ = W0 at *
  obtain ⟨x0, x1, x2, x3⟩ : _ ∧ _ ∧ _ ∧ _ := ⟨cellOf (unhide HA) 0, cellOf (unhide HA) 1, cellOf (unhide HA) 2, cellOf (unhide HA) 3⟩
  obtain ⟨⟨o0, z0⟩, ⟨o1, z1⟩, ⟨o2, z2⟩, o3, z3⟩ : (_ ∧ _) ∧ (_ ∧ _) ∧ (_ ∧ _) ∧ _ ∧ _ := ⟨⟨cellOf (unhide HO) 0, frozenOf (unhide HO) 0⟩, ⟨cellOf (unhide HO) 1, frozenOf (unhide HO) 1⟩, ⟨cellOf (unhide HO) 2, frozenOf (unhide HO) 2⟩, cellOf (unhide HO) 3, frozenOf (unhide HO) 3⟩
  replace HA := hide ((Below.heap_setCell W0 ⟨w.heap.size + 1 + 1, 0, none⟩ (.int .i64 k) w.heap.size (by show w.heap.size ≠ w.heap.size + 1 + 1; omega)).trans (unhide HA))
  replace HR := hide ((Below.heap_setCell W0 ⟨w.heap.size + 1 + 1, 0, none⟩ (.int .i64 k) (w.heap.size + 1) (by show w.heap.size + 1 ≠ w.heap.size + 1 + 1; omega)).trans (unhide HR))
  replace HO := hide (heapSet (o := 0) (v := .int .i64 k) (unhide HO))
  replace BW := hide (below_set (o := 0) (u := .int .i64 k) (X := w.heap.size + 1 + 1) (unhide BW) (by omega))
  obtain ⟨x1_0, x1_1, x1_2, x1_3⟩ : _ ∧ _ ∧ _ ∧ _ := ⟨cellOf (unhide HA) 0, cellOf (unhide HA) 1, cellOf (unhide HA) 2, cellOf (unhide HA) 3⟩
  obtain ⟨⟨o1_0, z1_0⟩, ⟨o1_1, z1_1⟩, ⟨o1_2, z1_2⟩, o1_3, z1_3⟩ : (_ ∧ _) ∧ (_ ∧ _) ∧ (_ ∧ _) ∧ _ ∧ _ := ⟨⟨cellOf (unhide HO) 0, frozenOf (unhide HO) 0⟩, ⟨cellOf (unhide HO) 1, frozenOf (unhide HO) 1⟩, ⟨cellOf (unhide HO) 2, frozenOf (unhide HO) 2⟩, cellOf (unhide HO) 3, frozenOf (unhide HO) 3⟩
  replace HA := hide ((Below.heap_setCell (W0.setCell ⟨w.heap.size + 1 + 1, 0, none⟩ (.int .i64 k)) ⟨w.heap.size + 1 + 1, 1, none⟩ (.int .i64 p) w.heap.size (by show w.heap.size ≠ w.heap.size + 1 + 1; omega)).trans (unhide HA))
  replace HR := hide ((Below.heap_setCell (W0.setCell ⟨w.heap.size + 1 + 1, 0, none⟩ (.int .i64 k)) ⟨w.heap.size + 1 + 1, 1, none⟩ (.int .i64 p) (w.heap.size + 1) (by show w.heap.size + 1 ≠ w.heap.size + 1 + 1; omega)).trans (unhide HR))
  replace HO := hide (heapSet (o := 1) (v := .int .i64 p) (unhide HO))
  replace BW := hide (below_set (o := 1) (u := .int .i64 p) (X := w.heap.size + 1 + 1) (unhide BW) (by omega))
  obtain ⟨x2_0, x2_1, x2_2, x2_3⟩ : _ ∧ _ ∧ _ ∧ _ := ⟨cellOf (unhide HA) 0, cellOf (unhide HA) 1, cellOf (unhide HA) 2, cellOf (unhide HA) 3⟩
  obtain ⟨⟨o2_0, z2_0⟩, ⟨o2_1, z2_1⟩, ⟨o2_2, z2_2⟩, o2_3, z2_3⟩ : (_ ∧ _) ∧ (_ ∧ _) ∧ (_ ∧ _) ∧ _ ∧ _ := ⟨⟨cellOf (unhide HO) 0, frozenOf (unhide HO) 0⟩, ⟨cellOf (unhide HO) 1, frozenOf (unhide HO) 1⟩, ⟨cellOf (unhide HO) 2, frozenOf (unhide HO) 2⟩, cellOf (unhide HO) 3, frozenOf (unhide HO) 3⟩
  replace HA := hide ((Below.heap_setCell ((W0.setCell ⟨w.heap.size + 1 + 1, 0, none⟩ (.int .i64 k)).setCell ⟨w.heap.size + 1 + 1, 1, none⟩ (.int .i64 p)) ⟨w.heap.size + 1 + 1, 2, none⟩ (.int .i64 x) w.heap.size (by show w.heap.size ≠ w.heap.size + 1 + 1; omega)).trans (unhide HA))
  replace HR := hide ((Below.heap_setCell ((W0.setCell ⟨w.heap.size + 1 + 1, 0, none⟩ (.int .i64 k)).setCell ⟨w.heap.size + 1 + 1, 1, none⟩ (.int .i64 p)) ⟨w.heap.size + 1 + 1, 2, none⟩ (.int .i64 x) (w.heap.size + 1) (by show w.heap.size + 1 ≠ w.heap.size + 1 + 1; omega)).trans (unhide HR))
  replace HO := hide (heapSet (o := 2) (v := .int .i64 x) (unhide HO))
  replace BW := hide (below_set (o := 2) (u := .int .i64 x) (X := w.heap.size + 1 + 1) (unhide BW) (by omega))
  obtain ⟨x3_0, x3_1, x3_2, x3_3⟩ : _ ∧ _ ∧ _ ∧ _ := ⟨cellOf (unhide HA) 0, cellOf (unhide HA) 1, cellOf (unhide HA) 2, cellOf (unhide HA) 3⟩
  obtain ⟨⟨o3_0, z3_0⟩, ⟨o3_1, z3_1⟩, ⟨o3_2, z3_2⟩, o3_3, z3_3⟩ : (_ ∧ _) ∧ (_ ∧ _) ∧ (_ ∧ _) ∧ _ ∧ _ := ⟨⟨cellOf (unhide HO) 0, frozenOf (unhide HO) 0⟩, ⟨cellOf (unhide HO) 1, frozenOf (unhide HO) 1⟩, ⟨cellOf (unhide HO) 2, frozenOf (unhide HO) 2⟩, cellOf (unhide HO) 3, frozenOf (unhide HO) 3⟩
  have HS1 : Hid ((((W0.setCell ⟨w.heap.size + 1 + 1, 0, none⟩ (.int .i64 k)).setCell ⟨w.heap.size + 1 + 1, 1, none⟩ (.int .i64 p)).setCell ⟨w.heap.size + 1 + 1, 2, none⟩ (.int .i64 x)).heap.size = w.heap.size + 1 + 1 + 1) := by show _ = _; rw [sz_set, sz_set, sz_set]; exact unhide HZ
  go_wp2_with fail
  generalize (((W0.setCell ⟨w.heap.size + 1 + 1, 0, none⟩ (.int .i64 k)).setCell ⟨w.heap.size + 1 + 1, 1, none⟩ (.int .i64 p)).setCell ⟨w.heap.size + 1 + 1, 2, none⟩ (.int .i64 x)) = V1 at *
  refine (toPkgS_any _ _ ps ((unhide HH).pk.later (unhide BW)) (unhide HH).l (unhide HH).a).mono ?_
  rintro e w1 ⟨rfl, f, b⟩
  replace HR := hide ((b.block _ (heapLt (unhide HR))).trans (unhide HR))
  replace HO := hide ((b.block _ (heapLt (unhide HO))).trans (unhide HO))
  replace BW := hide ((unhide BW).trans (b.mono (unhide BW).size))
  have F1 := hide f
  have W1 := hide f.wr
  have hlo : w.heap.size + 1 + 1 < V1.heap.size := by have := unhide HS1; omega
  generalize hg1e : V1.heap.size = g1 at *
  clear f b hg1e HS1 HA
  clear x0 x1 x2 x3 o0 o1 o2 o3 z0 z1 z2 z3 x1_0 x1_1 x1_2 x1_3 o1_0 o1_1 o1_2 o1_3 z1_0 z1_1 z1_2 z1_3 x2_0 x2_1 x2_2 x2_3 o2_0 o2_1 o2_2 o2_3 z2_0 z2_1 z2_2 z2_3 x3_0 x3_1 x3_2 x3_3 o3_0 o3_1 o3_2 o3_3 z3_0 z3_1 z3_2 z3_3
  clear V1
  obtain ⟨⟨o0, z0⟩, ⟨o1, z1⟩, ⟨o2, z2⟩, o3, z3⟩ : (_ ∧ _) ∧ (_ ∧ _) ∧ (_ ∧ _) ∧ _ ∧ _ := ⟨⟨cellOf (unhide HO) 0, frozenOf (unhide HO) 0⟩, ⟨cellOf (unhide HO) 1, frozenOf (unhide HO) 1⟩, ⟨cellOf (unhide HO) 2, frozenOf (unhide HO) 2⟩, cellOf (unhide HO) 3, frozenOf (unhide HO) 3⟩
  replace HR := hide ((Below.heap_setCell w1 ⟨w.heap.size + 1 + 1, 3, none⟩ (.slice (some ⟨g1, 0, none⟩) ps.length ps.length) (w.heap.size + 1) (by show w.heap.size + 1 ≠ w.heap.size + 1 + 1; omega)).trans (unhide HR))
  replace HO := hide (heapSet (o := 3) (v := .slice (some ⟨g1, 0, none⟩) ps.length ps.length) (unhide HO))
  replace BW := hide (below_set (o := 3) (u := .slice (some ⟨g1, 0, none⟩) ps.length ps.length) (X := w.heap.size + 1 + 1) (unhide BW) (by omega))
  replace F1 := hide (FillP.set (o := 3) (u := .slice (some ⟨g1, 0, none⟩) ps.length ps.length) (X := w.heap.size + 1 + 1) (unhide F1) (by omega))
  replace W1 := hide (WrP.set0 (o := 3) (u := .slice (some ⟨g1, 0, none⟩) ps.length ps.length) (X := w.heap.size + 1 + 1) (unhide W1) (by omega))
  have HS2 : Hid ((w1.setCell ⟨w.heap.size + 1 + 1, 3, none⟩ (.slice (some ⟨g1, 0, none⟩) ps.length ps.length)).heap.size = w1.heap.size) := sz_set
  obtain ⟨u0, u1, u2, u3⟩ : _ ∧ _ ∧ _ ∧ _ := ⟨cellOf (unhide HO) 0, cellOf (unhide HO) 1, cellOf (unhide HO) 2, cellOf (unhide HO) 3⟩
  obtain ⟨⟨r0, q0⟩, ⟨r1, q1⟩, ⟨r2, q2⟩, r3, q3⟩ : (_ ∧ _) ∧ (_ ∧ _) ∧ (_ ∧ _) ∧ _ ∧ _ := ⟨⟨cellOf (unhide HR) 0, frozenOf (unhide HR) 0⟩, ⟨cellOf (unhide HR) 1, frozenOf (unhide HR) 1⟩, ⟨cellOf (unhide HR) 2, frozenOf (unhide HR) 2⟩, cellOf (unhide HR) 3, frozenOf (unhide HR) 3⟩
  go_wp2
  generalize w1.setCell _ _ = V4 at *
  replace F1 := hide (FillP.set (o := 0) (u := .int .i64 k) (X := w.heap.size + 1) (unhide F1) (by omega))
  replace W1 := hide (WrP.set0 (o := 0) (u := .int .i64 k) (X := w.heap.size + 1) (unhide W1) (by omega))
  replace BW := hide (below_set (o := 0) (u := .int .i64 k) (X := w.heap.size + 1) (unhide BW) (by omega))
  replace HR := hide (heapSet (o := 0) (v := .int .i64 k) (unhide HR))
  replace F1 := hide (FillP.set (o := 1) (u := .int .i64 p) (X := w.heap.size + 1) (unhide F1) (by omega))
  replace W1 := hide (WrP.set0 (o := 1) (u := .int .i64 p) (X := w.heap.size + 1) (unhide W1) (by omega))
  replace BW := hide (below_set (o := 1) (u := .int .i64 p) (X := w.heap.size + 1) (unhide BW) (by omega))
  replace HR := hide (heapSet (o := 1) (v := .int .i64 p) (unhide HR))
  replace F1 := hide (FillP.set (o := 2) (u := .int .i64 x) (X := w.heap.size + 1) (unhide F1) (by omega))
  replace W1 := hide (WrP.set0 (o := 2) (u := .int .i64 x) (X := w.heap.size + 1) (unhide W1) (by omega))
  replace BW := hide (below_set (o := 2) (u := .int .i64 x) (X := w.heap.size + 1) (unhide BW) (by omega))
  replace HR := hide (heapSet (o := 2) (v := .int .i64 x) (unhide HR))
  replace F1 := hide (FillP.set (o := 3) (u := .slice (some ⟨g1, 0, none⟩) ps.length ps.length) (X := w.heap.size + 1) (unhide F1) (by omega))
  replace W1 := hide (WrP.set0 (o := 3) (u := .slice (some ⟨g1, 0, none⟩) ps.length ps.length) (X := w.heap.size + 1) (unhide W1) (by omega))
  replace BW := hide (below_set (o := 3) (u := .slice (some ⟨g1, 0, none⟩) ps.length ps.length) (X := w.heap.size + 1) (unhide BW) (by omega))
  replace HR := hide (heapSet (o := 3) (v := .slice (some ⟨g1, 0, none⟩) ps.length ps.length) (unhide HR))
  have hszF : ((((V4.setCell ⟨w.heap.size + 1, 0, none⟩ (.int .i64 k)).setCell ⟨w.heap.size + 1, 1, none⟩ (.int .i64 p)).setCell ⟨w.heap.size + 1, 2, none⟩ (.int .i64 x)).setCell ⟨w.heap.size + 1, 3, none⟩ (.slice (some ⟨g1, 0, none⟩) ps.length ps.length)).heap.size = w1.heap.size := by rw [sz_set, sz_set, sz_set, sz_set]; exact unhide HS2
  clear r0 r1 r2 r3 q0 q1 q2 q3 u0 u1 u2 u3
  obtain ⟨y0, y1, y2, y3⟩ : _ ∧ _ ∧ _ ∧ _ := ⟨cellOf (unhide HR) 0, cellOf (unhide HR) 1, cellOf (unhide HR) 2, cellOf (unhide HR) 3⟩
  exact bodyPost_ret (v := .agg #[.int .i64 k, .int .i64 p, .int .i64 x, .slice (some ⟨g1, 0, none⟩) ps.length ps.length]) (by simp [results, Tryz.results20, go_sem, y0, y1, y2, y3]) rfl ⟨g1, by omega, rfl, ⟨unhide F1, (unhide W1).weakN (fun b hx => ⟨hx.1, by rw [hszF]; exact hx.2⟩)⟩, unhide BW⟩

set_option maxHeartbeats 4000000 in
set_option maxRecDepth 100000 in
theorem eqStep_any {N1 M1 : Nat → Prop} (w : World) (s : Dk.S) (v u : Value) (p1 : Pks N1 w v s.ps) (q1 : Pks M1 w u s.ps) :
    Calls Tryz.prog 22 #[stV s.k s.p s.x v, stV s.k s.p s.x u] w fun e w' => e = .returned (.bool true) ∧ Below w.heap.size w w' := by
  obtain ⟨k, p, x, ps⟩ := s
  dsimp only [stV] at *
  obtain ⟨a1, c1, e1⟩ := p1.slice
  obtain ⟨b1, k1, i1⟩ := q1.slice
  subst e1 i1
  have hA := heap_alloc_new w (.cells #[.int .i64 k, .int .i64 p, .int .i64 x, .slice a1 ps.length c1] 28)
  have bA := below1 w (.cells #[.int .i64 k, .int .i64 p, .int .i64 x, .slice a1 ps.length c1] 28)
  have bB := below1 (w.alloc (.cells #[.int .i64 k, .int .i64 p, .int .i64 x, .slice a1 ps.length c1] 28)) (.cells #[.int .i64 k, .int .i64 p, .int .i64 x, .slice b1 ps.length k1] 28)
  have BW := hide (bA.trans (bB.mono bA.size))
  have P := hide (And.intro p1 q1)
  have hk : (k != k) = false := by simp
  have hp : (p != p) = false := by simp
  have hx : (x != x) = false := by simp
  clear hA bA bB p1 q1
  go_enter Tryz.func22, Tryz.ntmps22
  go_wp2_with fail
  generalize World.alloc _ _ = W0 at *
  refine (eqPkgS_any _ _ _ ps ((unhide P).1.later (unhide BW)) ((unhide P).2.later (unhide BW))).mono ?_
  rintro e w1 ⟨rfl, b⟩
  replace BW := hide ((unhide BW).trans (b.mono (unhide BW).size))
  clear b
  go_wp2
  go_ret
  exact ⟨rfl, unhide BW⟩

set_option maxHeartbeats 4000000 in
set_option maxRecDepth 100000 in
theorem markStep_from {N : Nat → Prop} (w : World) (k p x : Int) (g n : Nat) (k0 : Int) (h : WrP N w g n) (hn : n ≤ 1048576) (kl : 0 ≤ k0) (kh : k0 ≤ 1000000000000) :
    Calls Tryz.prog 24 #[stV k p x (rowV g n), .int .i64 k0] w fun e w' => ∃ k' : Int, e = .returned (.int .i64 k') ∧ 0 ≤ k' ∧ ∃ w0, Below w.heap.size w w0 ∧ Stays N w0 w' := by
  have b0 := below1 w (.cells #[.int .i64 k, .int .i64 p, .int .i64 x, .slice (some ⟨g, 0, none⟩) n n] 28)
  have BW := hide b0
  have HI := hide (h.later b0)
  clear b0 h
  dsimp only [stV, rowV]
  go_enter Tryz.func24, Tryz.ntmps24
  go_wp2_with fail
  refine (markPkgS_from _ g n k0 (unhide HI) hn kl kh).mono ?_
  generalize w.alloc _ = W0 at *
  rintro e w1 ⟨k9, rfl, k90, _, st⟩
  have ST := hide st
  clear st
  go_wp2
  go_ret
  exact ⟨_, rfl, k90, W0, unhide BW, unhide ST⟩
end Go.Proofs.YtoccijcngncghaaGreatDoor
