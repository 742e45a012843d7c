import Derived.Test.YtkhanndmbpemfaaGreatDoorMix15
import Derived.Test.YtkhanndmbpemfaaGreatDoorMix10
/- What the laws' szDisk, toDisk and eqDisk do. -/
namespace Go.Proofs.YtkhanndmbpemfaaGreatDoor
open Go.RowKit

attribute [local go_sem ↓] Go.wp_at_zero Go.wp_at_succ

theorem FillP.set {w : World} {g k X o : Nat} {u : Value} {l : List Ix.Pg} (h : FillP w g l k) (hX : X < g) : FillP (w.setCell ⟨X, o, none⟩ u) g l k := by
  obtain ⟨C, h1, h2, h3⟩ := h
  refine ⟨C, (Below.heap_setCell _ _ _ _ (by show g ≠ X; omega)).trans h1, h2, fun i hi => ?_⟩
  obtain ⟨fv, dv, h4, h5, h6⟩ := h3 i hi
  exact ⟨fv, dv, h4, h5.keep (fun j hj _ => Below.heap_setCell _ _ _ _ (by show j ≠ X; omega)), h6.keep (fun j hj _ => Below.heap_setCell _ _ _ _ (by show j ≠ X; omega))⟩
theorem WrP.set0 {N : Nat → Prop} {w : World} {g n X o : Nat} {u : Value} (h : WrP N w g n) (hX : ¬ N X) : WrP N (w.setCell ⟨X, o, none⟩ u) g n := h.keepN (fun k _ hk => Below.heap_setCell _ _ _ _ (fun e => hX (by have e' : k = X := e; rw [← e']; exact hk)))
theorem three_boxesD (w : World) (o1 o2 o3 : Obj) : Below w.heap.size w (((w.alloc o1).alloc o2).alloc o3) ∧ (((w.alloc o1).alloc o2).alloc o3).heap[w.heap.size]? = some o1 ∧ (((w.alloc o1).alloc o2).alloc o3).heap[w.heap.size + 1]? = some o2 ∧ (((w.alloc o1).alloc o2).alloc o3).heap[w.heap.size + 1 + 1]? = some o3 ∧ (((w.alloc o1).alloc o2).alloc o3).heap.size = w.heap.size + 1 + 1 + 1 := by
  have z1 := sz1' w o1
  have z2 := sz1' (w.alloc o1) o2
  have z3 := sz1' ((w.alloc o1).alloc o2) o3
  have B1 := below1 w o1
  have b2 := below1 (w.alloc o1) o2
  have b3 := below1 ((w.alloc o1).alloc o2) o3
  have h1 := heap_alloc_new w o1
  have h2 := heap_alloc_new (w.alloc o1) o2
  have h3 := heap_alloc_new ((w.alloc o1).alloc o2) o3
  rw [z1] at h2 z2
  rw [z2] at h3 z3
  refine ⟨(B1.trans (b2.mono B1.size)).trans (b3.mono (by omega)), ?_, ?_, h3, z3⟩
  · rw [b3.block _ (by omega), b2.block _ (by omega)]; exact h1
  · rw [b3.block _ (by omega)]; exact h2

/-- A disk that came in: its rows, and whether there is a journal. -/
def DiskIn (W : World) (a1 : Option Addr) (n1 c1 : Nat) (af : Option Addr) (nf cf : Nat) (a2 : Option Addr) (n2 c2 : Nat) : Prop := PkgsIn W a1 n1 c1 ∧ RowIn W af nf cf ∧ PkgsIn W a2 n2 c2
theorem RowIn.later {w w' : World} {a : Option Addr} {n c : Nat} (h : RowIn w a n c) (hb : Below w.heap.size w w') : RowIn w' a n c := ⟨h.1, fun hs => by obtain ⟨l, h1, h2⟩ := h.2 hs; exact ⟨l, h1, h2.later hb⟩⟩
theorem DiskIn.later {w w' : World} {a1 af a2 : Option Addr} {n1 c1 nf cf n2 c2 : Nat} (h : DiskIn w a1 n1 c1 af nf cf a2 n2 c2) (hb : Below w.heap.size w w') : DiskIn w' a1 n1 c1 af nf cf a2 n2 c2 := ⟨h.1.later hb, h.2.1.later hb, h.2.2.later hb⟩
/-- The rows of a disk, as data, not too long. -/
structure DiskAt (w : World) (v1 vf v2 : Value) (d : Dk.D) : Prop where
  p1 : Pks (fun _ => True) w v1 d.db
  pf : Ins w vf d.fl
  p2 : Pks (fun _ => True) w v2 d.jr
  l1 : d.db.length ≤ 1048576
  a1 : ∀ i, i < d.db.length → (Ix.pg d.db i).2.2.1.length ≤ 1048576 ∧ (Ix.pg d.db i).2.2.2.length ≤ 1048576
  lf : d.fl.length ≤ 1048576
  l2 : d.jr.length ≤ 1048576
  a2 : ∀ i, i < d.jr.length → (Ix.pg d.jr i).2.2.1.length ≤ 1048576 ∧ (Ix.pg d.jr i).2.2.2.length ≤ 1048576
theorem DiskAt.later {w w' : World} {v1 vf v2 : Value} {d : Dk.D} (h : DiskAt w v1 vf v2 d) (hb : Below w.heap.size w w') : DiskAt w' v1 vf v2 d := ⟨h.p1.later hb, h.pf.later hb, h.p2.later hb, h.l1, h.a1, h.lf, h.l2, h.a2⟩

set_option maxHeartbeats 4000000 in
set_option maxRecDepth 100000 in
theorem szDisk_in (w : World) (a1 : Option Addr) (n1 c1 : Nat) (af : Option Addr) (nf cf : Nat) (has : Bool) (a2 : Option Addr) (n2 c2 : Nat) (left : Int) (l0 : 0 ≤ left) (l1 : left ≤ 1048576) (h : DiskIn w a1 n1 c1 af nf cf a2 n2 c2) :
    Calls Tryz.prog 6 #[.agg #[.slice a1 n1 c1, .slice af nf cf, .bool has, .slice a2 n2 c2], .int .i64 left] w fun e w' => Below w.heap.size w w' ∧ ((∃ d : Dk.D, d.has = has ∧ d.db.length = n1 ∧ d.fl.length = nf ∧ d.jr.length = n2 ∧ DiskAt w' (.slice a1 n1 c1) (.slice af nf cf) (.slice a2 n2 c2) d ∧ ∃ r : Int, e = .returned (.int .i64 r) ∧ 0 ≤ r ∧ r ≤ left) ∨ e = .returned (.int .i64 (-1))) := by
  have b0 := below1 w (.cells #[.slice a1 n1 c1, .slice af nf cf, .bool has, .slice a2 n2 c2] 25)
  have HB := hide (heap_alloc_new w (.cells #[.slice a1 n1 c1, .slice af nf cf, .bool has, .slice a2 n2 c2] 25))
  have BW := hide b0
  have HI := hide h
  clear b0 h
  go_enter Tryz.func6, Tryz.ntmps6
  go_wp2_with fail
  refine (szPkgS_in _ a1 n1 c1 left l0 l1 ((unhide HI).1.later (unhide BW))).mono ?_
  generalize w.alloc _ = W0 at *
  rintro e w1 ⟨b, ⟨db, hdl, hdn, hdp, hda, r1, rfl, r10, r11⟩ | rfl⟩
  rotate_left
  · have B1 := hide ((unhide BW).trans (b.mono (unhide BW).size))
    clear b
    go_wp2
    go_ret
    exact ⟨unhide B1, .inr rfl⟩
  replace HB := hide ((b.block _ (heapLt (unhide HB))).trans (unhide HB))
  replace BW := hide ((unhide BW).trans (b.mono (unhide BW).size))
  have P1 := hide (hdp.later b)
  have A1 := hide hda
  clear b hdp hda
  obtain ⟨x0, x1, x2, x3⟩ : _ ∧ _ ∧ _ ∧ _ := ⟨cellOf (unhide HB) 0, cellOf (unhide HB) 1, cellOf (unhide HB) 2, cellOf (unhide HB) 3⟩
  have hr1 : ¬ r1 < 0 := by omega
  have CZ := hide (szIntS_any w1 af nf cf r1 r10 (by omega) (unhide HI).2.1.1)
  go_wp2_with fail
  refine (unhide CZ).mono ?_
  rintro e w2 ⟨rfl, ⟨hfn, r2, rfl, r20, r21⟩ | rfl⟩
  rotate_left
  · clear CZ
    go_wp2
    go_ret
    exact ⟨unhide BW, .inr rfl⟩
  obtain ⟨fl, hfl, hfi⟩ := (unhide HI).2.1.2 hfn
  have PF := hide (hfi.later (unhide BW))
  have hr2 : ¬ r2 < 0 := by omega
  have CZ2 := hide (szPkgS_in w2 a2 n2 c2 r2 r20 (by omega) ((unhide HI).2.2.later (unhide BW)))
  clear CZ hfi
  go_wp2_with fail
  refine (unhide CZ2).mono ?_
  rintro e w3 ⟨b, ⟨jr, hjl, hjn, hjp, hja, r3, rfl, r30, r31⟩ | rfl⟩
  rotate_left
  · have B1 := hide ((unhide BW).trans (b.mono (unhide BW).size))
    clear b CZ2 x0 x1 x2 x3
    go_wp2
    go_ret
    exact ⟨unhide B1, .inr rfl⟩
  have hr3 : ¬ r3 < 0 := by omega
  have HD : Hid (DiskAt w3 (.slice a1 n1 c1) (.slice af nf cf) (.slice a2 n2 c2) ⟨db, fl, has, jr⟩) := ⟨(unhide P1).later b, (unhide PF).later b, hjp.later b, by show db.length ≤ _; omega, by rw [← hdl] at A1; exact unhide A1, by show fl.length ≤ _; omega, by show jr.length ≤ _; omega, by rw [← hjl] at hja; exact hja⟩
  have B1 := hide ((unhide BW).trans (b.mono (unhide BW).size))
  have HL := hide (And.intro hdl (And.intro hfl hjl))
  clear b hjp hja CZ2 x0 x1 x2 x3 P1 A1 PF HB BW hdl hfl hjl
  go_wp2
  go_ret
  exact ⟨unhide B1, .inl ⟨⟨db, fl, has, jr⟩, rfl, (unhide HL).1, (unhide HL).2.1, (unhide HL).2.2, unhide HD, r3, rfl, r30, by omega⟩⟩

/-- A disk laid anew: the rows of packages may be written to, each in blocks of its own. -/
structure DiskNewAt (w : World) (g1 g2 g3 : Nat) (d : Dk.D) : Prop where
  f1 : FillP w g1 d.db d.db.length
  ff : FillI w g2 d.fl d.fl.length
  f2 : FillP w g3 d.jr d.jr.length
  w1 : WrP (fun b => g1 ≤ b ∧ b < g2) w g1 d.db.length
  w2 : WrP (fun b => g3 ≤ b ∧ b < w.heap.size) w g3 d.jr.length
  o1 : g1 < g2
  o2 : g2 < g3
abbrev rowV (g n : Nat) : Value := .slice (some ⟨g, 0, none⟩) n n
theorem WrP.weakN {N M : Nat → Prop} {w : World} {g n : Nat} (h : WrP N w g n) (hN : ∀ b, N b → M b) : WrP M w g n := by
  obtain ⟨C, h1, h2, h3, h4⟩ := h
  refine ⟨C, h1, h2, hN _ h3, fun i hi => ?_⟩
  obtain ⟨x, y, g1, n1, g2, n2, k1, k2, k3, k4, k5⟩ := h4 i hi
  exact ⟨x, y, g1, n1, g2, n2, k1, ⟨hN _ k2.1, hN _ k2.2⟩, k3, k4, k5⟩
theorem DiskNewAt.later {w w' : World} {g1 g2 g3 : Nat} {d : Dk.D} (h : DiskNewAt w g1 g2 g3 d) (hb : Below w.heap.size w w') : DiskNewAt w' g1 g2 g3 d :=
  ⟨h.f1.later hb, h.ff.later hb, h.f2.later hb, h.w1.later hb, (h.w2.later hb).weakN (fun _ hx => ⟨hx.1, Nat.lt_of_lt_of_le hx.2 hb.size⟩), h.o1, h.o2⟩
theorem DiskNewAt.at {w : World} {g1 g2 g3 : Nat} {d : Dk.D} {v1 vf v2 : Value} {w0 : World} (h : DiskNewAt w g1 g2 g3 d) (hd : DiskAt w0 v1 vf v2 d) : DiskAt w (rowV g1 d.db.length) (rowV g2 d.fl.length) (rowV g3 d.jr.length) d :=
  ⟨(h.f1.pks hd.l1).weak (fun _ _ => trivial), h.ff.ins hd.lf, (h.f2.pks hd.l2).weak (fun _ _ => trivial), hd.l1, hd.a1, hd.lf, hd.l2, hd.a2⟩

set_option maxHeartbeats 4000000 in
set_option maxRecDepth 100000 in
theorem toDisk_fill (w : World) (d : Dk.D) (v1 vf v2 : Value) (h : DiskAt w v1 vf v2 d) :
    Calls Tryz.prog 9 #[dkV v1 vf d.has v2] w fun e w' => ∃ g1 g2 g3, w.heap.size ≤ g1 ∧ e = .returned (dkV (rowV g1 d.db.length) (rowV g2 d.fl.length) d.has (rowV g3 d.jr.length)) ∧ DiskNewAt w' g1 g2 g3 d ∧ Below w.heap.size w w' := by
  have HH := hide h
  obtain ⟨db, fl, has, jr⟩ := d
  dsimp only [dkV, rowV] at *
  obtain ⟨a1, c1, e1⟩ := h.p1.slice
  obtain ⟨af, cf, ef⟩ := h.pf.slice
  obtain ⟨a2, c2, e2⟩ := h.p2.slice
  dsimp only at e1 ef e2
  subst e1 ef e2
  have hl1 : db.length ≤ 1048576 := h.l1
  have hlf : fl.length ≤ 1048576 := h.lf
  have hl2 : jr.length ≤ 1048576 := h.l2
  obtain ⟨B, hA, hR, hO, hsz⟩ := three_boxesD w (.cells #[.slice a1 db.length c1, .slice af fl.length cf, .bool has, .slice a2 jr.length c2] 25) (.cells #[.slice none 0 0, .slice none 0 0, .bool false, .slice none 0 0] 31) (.cells #[.slice none 0 0, .slice none 0 0, .bool false, .slice none 0 0] 31)
  have HA := hide hA
  have HR := hide hR
  have HO := hide hO
  have BW := hide B
  have HZ := hide hsz
  clear h hA hR hO B hsz
  go_enter Tryz.func9, Tryz.ntmps9
  go_wp2_with fail
  generalize World.alloc _ _ = W0 at *
  obtain ⟨x0, x1, x2, x3⟩ : _ ∧ _ ∧ _ ∧ _ := ⟨cellOf (unhide HA) 0, cellOf (unhide HA) 1, cellOf (unhide HA) 2, cellOf (unhide HA) 3⟩
  refine (toPkgS_any _ _ db ((unhide HH).p1.later (unhide BW)) hl1 (unhide HH).a1).mono ?_
  rintro e w1 ⟨rfl, f, b⟩
  replace HA := hide ((b.block _ (heapLt (unhide HA))).trans (unhide HA))
  replace HR := hide ((b.block _ (heapLt (unhide HR))).trans (unhide HR))
  replace HO := hide ((b.block _ (heapLt (unhide HO))).trans (unhide HO))
  replace BW := hide ((unhide BW).trans (b.mono (unhide BW).size))
  have F1 := hide f
  have W1 := hide f.wr
  have hg1 := FillP.lt f
  generalize hg1e : W0.heap.size = g1 at *
  clear f b x0 x1 x2 x3 hg1e
  clear W0
  have hlo : w.heap.size + 1 + 1 < g1 := by have := unhide HZ; omega
  obtain ⟨⟨x0, o0⟩, x1, x2, x3⟩ : (_ ∧ _) ∧ _ ∧ _ ∧ _ := ⟨⟨cellOf (unhide HA) 0, cellOf (unhide HO) 0⟩, cellOf (unhide HA) 1, cellOf (unhide HA) 2, cellOf (unhide HA) 3⟩
  have p0 := frozenOf (unhide HO) 0
  replace HA := hide ((Below.heap_setCell w1 ⟨w.heap.size + 1 + 1, 0, none⟩ (.slice (some ⟨g1, 0, none⟩) db.length db.length) w.heap.size (by show w.heap.size ≠ w.heap.size + 1 + 1; omega)).trans (unhide HA))
  replace HR := hide ((Below.heap_setCell w1 ⟨w.heap.size + 1 + 1, 0, none⟩ (.slice (some ⟨g1, 0, none⟩) db.length db.length) (w.heap.size + 1) (by show w.heap.size + 1 ≠ w.heap.size + 1 + 1; omega)).trans (unhide HR))
  replace HO := hide (heapSet (o := 0) (v := .slice (some ⟨g1, 0, none⟩) db.length db.length) (unhide HO))
  replace BW := hide (below_set (o := 0) (u := .slice (some ⟨g1, 0, none⟩) db.length db.length) (X := w.heap.size + 1 + 1) (unhide BW) (by omega))
  replace F1 := hide (FillP.set (o := 0) (u := .slice (some ⟨g1, 0, none⟩) db.length db.length) (X := w.heap.size + 1 + 1) (unhide F1) (by omega))
  replace W1 := hide (WrP.set0 (o := 0) (u := .slice (some ⟨g1, 0, none⟩) db.length db.length) (X := w.heap.size + 1 + 1) (unhide W1) (by omega))
  have hs1 : (w1.setCell ⟨w.heap.size + 1 + 1, 0, none⟩ (.slice (some ⟨g1, 0, none⟩) db.length db.length)).heap.size = w1.heap.size := by simp [World.setCell]
  have HS1 := hide hs1
  clear hs1
  go_wp2_with fail
  generalize w1.setCell _ _ = V1 at *
  clear x0 x1 x2 x3 o0 p0
  refine (toIntS_fill _ _ fl ((unhide HH).pf.later (unhide BW)) hlf).mono ?_
  rintro e w2 ⟨rfl, f, b⟩
  replace HA := hide ((b.block _ (heapLt (unhide HA))).trans (unhide HA))
  replace HR := hide ((b.block _ (heapLt (unhide HR))).trans (unhide HR))
  replace HO := hide ((b.block _ (heapLt (unhide HO))).trans (unhide HO))
  replace BW := hide ((unhide BW).trans (b.mono (unhide BW).size))
  replace F1 := hide ((unhide F1).later b)
  replace W1 := hide ((unhide W1).later b)
  have F2 := hide f
  have hg2 := FillI.lt f
  have hlo2 : g1 < V1.heap.size := by have := unhide HS1; omega
  generalize hg2e : V1.heap.size = g2 at *
  clear f b hg2e
  clear V1
  have hHO2 := unhide HO
  obtain ⟨⟨x0, o0⟩, ⟨x1, o1⟩, ⟨x2, o2⟩, x3, o3⟩ : (_ ∧ _) ∧ (_ ∧ _) ∧ (_ ∧ _) ∧ _ ∧ _ := ⟨⟨cellOf (unhide HA) 0, cellOf (unhide HO) 0⟩, ⟨cellOf (unhide HA) 1, cellOf (unhide HO) 1⟩, ⟨cellOf (unhide HA) 2, cellOf (unhide HO) 2⟩, cellOf (unhide HA) 3, cellOf (unhide HO) 3⟩
  have p1 := frozenOf (unhide HO) 1
  have p2 := frozenOf (unhide HO) 2
  clear hHO2
  replace HA := hide ((Below.heap_setCell w2 ⟨w.heap.size + 1 + 1, 1, none⟩ (.slice (some ⟨g2, 0, none⟩) fl.length fl.length) w.heap.size (by show w.heap.size ≠ w.heap.size + 1 + 1; omega)).trans (unhide HA))
  replace HR := hide ((Below.heap_setCell w2 ⟨w.heap.size + 1 + 1, 1, none⟩ (.slice (some ⟨g2, 0, none⟩) fl.length fl.length) (w.heap.size + 1) (by show w.heap.size + 1 ≠ w.heap.size + 1 + 1; omega)).trans (unhide HR))
  replace HO := hide (heapSet (o := 1) (v := .slice (some ⟨g2, 0, none⟩) fl.length fl.length) (unhide HO))
  replace BW := hide (below_set (o := 1) (u := .slice (some ⟨g2, 0, none⟩) fl.length fl.length) (X := w.heap.size + 1 + 1) (unhide BW) (by omega))
  replace F1 := hide (FillP.set (o := 1) (u := .slice (some ⟨g2, 0, none⟩) fl.length fl.length) (X := w.heap.size + 1 + 1) (unhide F1) (by omega))
  replace W1 := hide (WrP.set0 (o := 1) (u := .slice (some ⟨g2, 0, none⟩) fl.length fl.length) (X := w.heap.size + 1 + 1) (unhide W1) (by omega))
  replace F2 := hide ((unhide F2).keep (w' := w2.setCell ⟨w.heap.size + 1 + 1, 1, none⟩ (.slice (some ⟨g2, 0, none⟩) fl.length fl.length)) (Below.heap_setCell _ _ _ _ (by show g2 ≠ w.heap.size + 1 + 1; omega)))
  have HS2 := hide (show (w2.setCell ⟨w.heap.size + 1 + 1, 1, none⟩ (.slice (some ⟨g2, 0, none⟩) fl.length fl.length)).heap.size = w2.heap.size by simp [World.setCell])
  replace HA := hide ((Below.heap_setCell (w2.setCell ⟨w.heap.size + 1 + 1, 1, none⟩ (.slice (some ⟨g2, 0, none⟩) fl.length fl.length)) ⟨w.heap.size + 1 + 1, 2, none⟩ (.bool has) w.heap.size (by show w.heap.size ≠ w.heap.size + 1 + 1; omega)).trans (unhide HA))
  replace HR := hide ((Below.heap_setCell (w2.setCell ⟨w.heap.size + 1 + 1, 1, none⟩ (.slice (some ⟨g2, 0, none⟩) fl.length fl.length)) ⟨w.heap.size + 1 + 1, 2, none⟩ (.bool has) (w.heap.size + 1) (by show w.heap.size + 1 ≠ w.heap.size + 1 + 1; omega)).trans (unhide HR))
  replace HO := hide (heapSet (o := 2) (v := .bool has) (unhide HO))
  replace BW := hide (below_set (o := 2) (u := .bool has) (X := w.heap.size + 1 + 1) (unhide BW) (by omega))
  replace F1 := hide (FillP.set (o := 2) (u := .bool has) (X := w.heap.size + 1 + 1) (unhide F1) (by omega))
  replace W1 := hide (WrP.set0 (o := 2) (u := .bool has) (X := w.heap.size + 1 + 1) (unhide W1) (by omega))
  replace F2 := hide ((unhide F2).keep (w' := (w2.setCell ⟨w.heap.size + 1 + 1, 1, none⟩ (.slice (some ⟨g2, 0, none⟩) fl.length fl.length)).setCell ⟨w.heap.size + 1 + 1, 2, none⟩ (.bool has)) (Below.heap_setCell _ _ _ _ (by show g2 ≠ w.heap.size + 1 + 1; omega)))
  have HS3 := hide (show ((w2.setCell ⟨w.heap.size + 1 + 1, 1, none⟩ (.slice (some ⟨g2, 0, none⟩) fl.length fl.length)).setCell ⟨w.heap.size + 1 + 1, 2, none⟩ (.bool has)).heap.size = (w2.setCell ⟨w.heap.size + 1 + 1, 1, none⟩ (.slice (some ⟨g2, 0, none⟩) fl.length fl.length)).heap.size by simp [World.setCell])
  go_wp2_with fail
  generalize hV3 : (w2.setCell ⟨w.heap.size + 1 + 1, 1, none⟩ (.slice (some ⟨g2, 0, none⟩) fl.length fl.length)).setCell _ _ = V3 at *
  refine (toPkgS_any _ _ jr ((unhide HH).p2.later (unhide BW)) hl2 (unhide HH).a2).mono ?_
  have hs3 : g2 < V3.heap.size := by have := unhide HS3; have := unhide HS2; omega
  clear x0 x1 x2 x3 o0 o1 o2 o3 p1 p2 HS2 HS3 hV3
  rintro e w3 ⟨rfl, f, b⟩
  replace HA := hide ((b.block _ (heapLt (unhide HA))).trans (unhide HA))
  replace HR := hide ((b.block _ (heapLt (unhide HR))).trans (unhide HR))
  replace HO := hide ((b.block _ (heapLt (unhide HO))).trans (unhide HO))
  replace BW := hide ((unhide BW).trans (b.mono (unhide BW).size))
  replace F1 := hide ((unhide F1).later b)
  replace W1 := hide ((unhide W1).later b)
  replace F2 := hide ((unhide F2).later b)
  have F3 := hide f
  have W3 := hide f.wr
  have hg3w := FillP.lt f
  generalize hg3e : V3.heap.size = g3 at *
  clear f b hg3e
  clear V3
  obtain ⟨⟨x0, o0⟩, ⟨x1, o1⟩, ⟨x2, o2⟩, x3, o3⟩ : (_ ∧ _) ∧ (_ ∧ _) ∧ (_ ∧ _) ∧ _ ∧ _ := ⟨⟨cellOf (unhide HA) 0, cellOf (unhide HO) 0⟩, ⟨cellOf (unhide HA) 1, cellOf (unhide HO) 1⟩, ⟨cellOf (unhide HA) 2, cellOf (unhide HO) 2⟩, cellOf (unhide HA) 3, cellOf (unhide HO) 3⟩
  have p3 := frozenOf (unhide HO) 3
  replace HR := hide ((Below.heap_setCell w3 ⟨w.heap.size + 1 + 1, 3, none⟩ (.slice (some ⟨g3, 0, none⟩) jr.length jr.length) (w.heap.size + 1) (by show w.heap.size + 1 ≠ w.heap.size + 1 + 1; omega)).trans (unhide HR))
  replace HO := hide (heapSet (o := 3) (v := .slice (some ⟨g3, 0, none⟩) jr.length jr.length) (unhide HO))
  replace F1 := hide (FillP.set (o := 3) (u := .slice (some ⟨g3, 0, none⟩) jr.length jr.length) (X := w.heap.size + 1 + 1) (unhide F1) (by omega))
  replace W1 := hide (WrP.set0 (o := 3) (u := .slice (some ⟨g3, 0, none⟩) jr.length jr.length) (X := w.heap.size + 1 + 1) (unhide W1) (by omega))
  replace F2 := hide ((unhide F2).keep (w' := w3.setCell ⟨w.heap.size + 1 + 1, 3, none⟩ (.slice (some ⟨g3, 0, none⟩) jr.length jr.length)) (Below.heap_setCell _ _ _ _ (by show g2 ≠ w.heap.size + 1 + 1; omega)))
  replace F3 := hide (FillP.set (o := 3) (u := .slice (some ⟨g3, 0, none⟩) jr.length jr.length) (X := w.heap.size + 1 + 1) (unhide F3) (by omega))
  replace W3 := hide (WrP.set0 (o := 3) (u := .slice (some ⟨g3, 0, none⟩) jr.length jr.length) (X := w.heap.size + 1 + 1) (unhide W3) (by omega))
  replace BW := hide (below_set (o := 3) (u := .slice (some ⟨g3, 0, none⟩) jr.length jr.length) (X := w.heap.size + 1 + 1) (unhide BW) (by omega))
  have hsz3 : (w3.setCell ⟨w.heap.size + 1 + 1, 3, none⟩ (.slice (some ⟨g3, 0, none⟩) jr.length jr.length)).heap.size = w3.heap.size := by simp [World.setCell]
  have HSZ := hide hsz3
  clear hsz3
  obtain ⟨⟨r0, q0⟩, ⟨r1, q1⟩, ⟨r2, q2⟩, r3, q3⟩ : (_ ∧ _) ∧ (_ ∧ _) ∧ (_ ∧ _) ∧ _ ∧ _ := ⟨⟨cellOf (unhide HR) 0, frozenOf (unhide HR) 0⟩, ⟨cellOf (unhide HR) 1, frozenOf (unhide HR) 1⟩, ⟨cellOf (unhide HR) 2, frozenOf (unhide HR) 2⟩, cellOf (unhide HR) 3, frozenOf (unhide HR) 3⟩
  obtain ⟨u0, u1, u2, u3⟩ : _ ∧ _ ∧ _ ∧ _ := ⟨cellOf (unhide HO) 0, cellOf (unhide HO) 1, cellOf (unhide HO) 2, cellOf (unhide HO) 3⟩
  go_wp2
  generalize w3.setCell _ _ = V4 at *
  clear x0 x1 x2 x3 o0 o1 o2 o3 p3 r0 r1 r2 r3 q0 q1 q2 q3 u0 u1 u2 u3
  replace F1 := hide (FillP.set (o := 0) (u := .slice (some ⟨g1, 0, none⟩) db.length db.length) (X := w.heap.size + 1) (unhide F1) (by omega))
  replace W1 := hide (WrP.set0 (o := 0) (u := .slice (some ⟨g1, 0, none⟩) db.length db.length) (X := w.heap.size + 1) (unhide W1) (by omega))
  replace F2 := hide ((unhide F2).keep (w' := V4.setCell ⟨w.heap.size + 1, 0, none⟩ (.slice (some ⟨g1, 0, none⟩) db.length db.length)) (Below.heap_setCell _ _ _ _ (by show g2 ≠ w.heap.size + 1; omega)))
  replace F3 := hide (FillP.set (o := 0) (u := .slice (some ⟨g1, 0, none⟩) db.length db.length) (X := w.heap.size + 1) (unhide F3) (by omega))
  replace W3 := hide (WrP.set0 (o := 0) (u := .slice (some ⟨g1, 0, none⟩) db.length db.length) (X := w.heap.size + 1) (unhide W3) (by omega))
  replace BW := hide (below_set (o := 0) (u := .slice (some ⟨g1, 0, none⟩) db.length db.length) (X := w.heap.size + 1) (unhide BW) (by omega))
  replace HR := hide (heapSet (o := 0) (v := .slice (some ⟨g1, 0, none⟩) db.length db.length) (unhide HR))
  replace F1 := hide (FillP.set (o := 1) (u := .slice (some ⟨g2, 0, none⟩) fl.length fl.length) (X := w.heap.size + 1) (unhide F1) (by omega))
  replace W1 := hide (WrP.set0 (o := 1) (u := .slice (some ⟨g2, 0, none⟩) fl.length fl.length) (X := w.heap.size + 1) (unhide W1) (by omega))
  replace F2 := hide ((unhide F2).keep (w' := (V4.setCell ⟨w.heap.size + 1, 0, none⟩ (.slice (some ⟨g1, 0, none⟩) db.length db.length)).setCell ⟨w.heap.size + 1, 1, none⟩ (.slice (some ⟨g2, 0, none⟩) fl.length fl.length)) (Below.heap_setCell _ _ _ _ (by show g2 ≠ w.heap.size + 1; omega)))
  replace F3 := hide (FillP.set (o := 1) (u := .slice (some ⟨g2, 0, none⟩) fl.length fl.length) (X := w.heap.size + 1) (unhide F3) (by omega))
  replace W3 := hide (WrP.set0 (o := 1) (u := .slice (some ⟨g2, 0, none⟩) fl.length fl.length) (X := w.heap.size + 1) (unhide W3) (by omega))
  replace BW := hide (below_set (o := 1) (u := .slice (some ⟨g2, 0, none⟩) fl.length fl.length) (X := w.heap.size + 1) (unhide BW) (by omega))
  replace HR := hide (heapSet (o := 1) (v := .slice (some ⟨g2, 0, none⟩) fl.length fl.length) (unhide HR))
  replace F1 := hide (FillP.set (o := 2) (u := .bool has) (X := w.heap.size + 1) (unhide F1) (by omega))
  replace W1 := hide (WrP.set0 (o := 2) (u := .bool has) (X := w.heap.size + 1) (unhide W1) (by omega))
  replace F2 := hide ((unhide F2).keep (w' := ((V4.setCell ⟨w.heap.size + 1, 0, none⟩ (.slice (some ⟨g1, 0, none⟩) db.length db.length)).setCell ⟨w.heap.size + 1, 1, none⟩ (.slice (some ⟨g2, 0, none⟩) fl.length fl.length)).setCell ⟨w.heap.size + 1, 2, none⟩ (.bool has)) (Below.heap_setCell _ _ _ _ (by show g2 ≠ w.heap.size + 1; omega)))
  replace F3 := hide (FillP.set (o := 2) (u := .bool has) (X := w.heap.size + 1) (unhide F3) (by omega))
  replace W3 := hide (WrP.set0 (o := 2) (u := .bool has) (X := w.heap.size + 1) (unhide W3) (by omega))
  replace BW := hide (below_set (o := 2) (u := .bool has) (X := w.heap.size + 1) (unhide BW) (by omega))
  replace HR := hide (heapSet (o := 2) (v := .bool has) (unhide HR))
  replace F1 := hide (FillP.set (o := 3) (u := .slice (some ⟨g3, 0, none⟩) jr.length jr.length) (X := w.heap.size + 1) (unhide F1) (by omega))
  replace W1 := hide (WrP.set0 (o := 3) (u := .slice (some ⟨g3, 0, none⟩) jr.length jr.length) (X := w.heap.size + 1) (unhide W1) (by omega))
  replace F2 := hide ((unhide F2).keep (w' := (((V4.setCell ⟨w.heap.size + 1, 0, none⟩ (.slice (some ⟨g1, 0, none⟩) db.length db.length)).setCell ⟨w.heap.size + 1, 1, none⟩ (.slice (some ⟨g2, 0, none⟩) fl.length fl.length)).setCell ⟨w.heap.size + 1, 2, none⟩ (.bool has)).setCell ⟨w.heap.size + 1, 3, none⟩ (.slice (some ⟨g3, 0, none⟩) jr.length jr.length)) (Below.heap_setCell _ _ _ _ (by show g2 ≠ w.heap.size + 1; omega)))
  replace F3 := hide (FillP.set (o := 3) (u := .slice (some ⟨g3, 0, none⟩) jr.length jr.length) (X := w.heap.size + 1) (unhide F3) (by omega))
  replace W3 := hide (WrP.set0 (o := 3) (u := .slice (some ⟨g3, 0, none⟩) jr.length jr.length) (X := w.heap.size + 1) (unhide W3) (by omega))
  replace BW := hide (below_set (o := 3) (u := .slice (some ⟨g3, 0, none⟩) jr.length jr.length) (X := w.heap.size + 1) (unhide BW) (by omega))
  replace HR := hide (heapSet (o := 3) (v := .slice (some ⟨g3, 0, none⟩) jr.length jr.length) (unhide HR))
  have hszF : ((((V4.setCell ⟨w.heap.size + 1, 0, none⟩ (.slice (some ⟨g1, 0, none⟩) db.length db.length)).setCell ⟨w.heap.size + 1, 1, none⟩ (.slice (some ⟨g2, 0, none⟩) fl.length fl.length)).setCell ⟨w.heap.size + 1, 2, none⟩ (.bool has)).setCell ⟨w.heap.size + 1, 3, none⟩ (.slice (some ⟨g3, 0, none⟩) jr.length jr.length)).heap.size = w3.heap.size := by simp only [World.setCell, Array.size_modify]; exact unhide HSZ
  obtain ⟨y0, y1, y2, y3⟩ : _ ∧ _ ∧ _ ∧ _ := ⟨cellOf (unhide HR) 0, cellOf (unhide HR) 1, cellOf (unhide HR) 2, cellOf (unhide HR) 3⟩
  exact bodyPost_ret (v := .agg #[.slice (some ⟨g1, 0, none⟩) db.length db.length, .slice (some ⟨g2, 0, none⟩) fl.length fl.length, .bool has, .slice (some ⟨g3, 0, none⟩) jr.length jr.length]) (by simp [results, Tryz.results9, go_sem, y0, y1, y2, y3]) rfl ⟨g1, g2, g3, by omega, rfl, ⟨unhide F1, unhide F2, unhide F3, (unhide W1).weakN (fun b hx => ⟨hx.1, by have := unhide HS1; omega⟩), (unhide W3).weakN (fun b hx => ⟨hx.1, by rw [hszF]; exact hx.2⟩), by omega, by omega⟩, unhide BW⟩

set_option maxHeartbeats 4000000 in
set_option maxRecDepth 100000 in
theorem eqDisk_any {N1 N2 M1 M2 : Nat → Prop} (w : World) (d : Dk.D) (v1 vf v2 u1 uf u2 : Value) (p1 : Pks N1 w v1 d.db) (pf : Ins w vf d.fl) (p2 : Pks N2 w v2 d.jr) (q1 : Pks M1 w u1 d.db) (qf : Ins w uf d.fl) (q2 : Pks M2 w u2 d.jr) :
    Calls Tryz.prog 12 #[dkV v1 vf d.has v2, dkV u1 uf d.has u2] w fun e w' => e = .returned (.bool true) ∧ Below w.heap.size w w' := by
  obtain ⟨db, fl, has, jr⟩ := d
  dsimp only [dkV] at *
  obtain ⟨a1, c1, e1⟩ := p1.slice
  obtain ⟨af, cf, ef⟩ := pf.slice
  obtain ⟨a2, c2, e2⟩ := p2.slice
  obtain ⟨b1, k1, i1⟩ := q1.slice
  obtain ⟨bf, kf, iff'⟩ := qf.slice
  obtain ⟨b2, k2, i2⟩ := q2.slice
  subst e1 ef e2 i1 iff' i2
  have hA := heap_alloc_new w (.cells #[.slice a1 db.length c1, .slice af fl.length cf, .bool has, .slice a2 jr.length c2] 31)
  have bA := below1 w (.cells #[.slice a1 db.length c1, .slice af fl.length cf, .bool has, .slice a2 jr.length c2] 31)
  have hB := heap_alloc_new (w.alloc (.cells #[.slice a1 db.length c1, .slice af fl.length cf, .bool has, .slice a2 jr.length c2] 31)) (.cells #[.slice b1 db.length k1, .slice bf fl.length kf, .bool has, .slice b2 jr.length k2] 31)
  have bB := below1 (w.alloc (.cells #[.slice a1 db.length c1, .slice af fl.length cf, .bool has, .slice a2 jr.length c2] 31)) (.cells #[.slice b1 db.length k1, .slice bf fl.length kf, .bool has, .slice b2 jr.length k2] 31)
  rw [sz1'] at hB
  have HA := hide ((bB.block _ (heapLt hA)).trans hA)
  have HB := hide hB
  have BW := hide (bA.trans (bB.mono bA.size))
  have P := hide (And.intro p1 (And.intro pf (And.intro p2 (And.intro q1 (And.intro qf q2)))))
  have hne : (has != has) = false := by simp
  clear hA bA hB bB p1 pf p2 q1 qf q2
  go_enter Tryz.func12, Tryz.ntmps12
  go_wp2_with fail
  generalize World.alloc _ _ = W0 at *
  refine (eqPkgS_any _ _ _ db ((unhide P).1.later (unhide BW)) ((unhide P).2.2.2.1.later (unhide BW))).mono ?_
  rintro e w1 ⟨rfl, b⟩
  replace HA := hide ((b.block _ (heapLt (unhide HA))).trans (unhide HA))
  replace HB := hide ((b.block _ (heapLt (unhide HB))).trans (unhide HB))
  replace BW := hide ((unhide BW).trans (b.mono (unhide BW).size))
  clear b
  obtain ⟨⟨x0, y0⟩, ⟨x1, y1⟩, ⟨x2, y2⟩, x3, y3⟩ : (_ ∧ _) ∧ (_ ∧ _) ∧ (_ ∧ _) ∧ _ ∧ _ := ⟨⟨cellOf (unhide HA) 0, cellOf (unhide HB) 0⟩, ⟨cellOf (unhide HA) 1, cellOf (unhide HB) 1⟩, ⟨cellOf (unhide HA) 2, cellOf (unhide HB) 2⟩, cellOf (unhide HA) 3, cellOf (unhide HB) 3⟩
  go_wp2_with fail
  refine (eqIntS_any _ _ _ fl ((unhide P).2.1.later (unhide BW)) ((unhide P).2.2.2.2.1.later (unhide BW))).mono ?_
  rintro e w2 ⟨rfl, b⟩
  replace HA := hide ((b.block _ (heapLt (unhide HA))).trans (unhide HA))
  replace HB := hide ((b.block _ (heapLt (unhide HB))).trans (unhide HB))
  replace BW := hide ((unhide BW).trans (b.mono (unhide BW).size))
  clear b x0 x1 x2 x3 y0 y1 y2 y3
  obtain ⟨⟨x0, y0⟩, ⟨x1, y1⟩, ⟨x2, y2⟩, x3, y3⟩ : (_ ∧ _) ∧ (_ ∧ _) ∧ (_ ∧ _) ∧ _ ∧ _ := ⟨⟨cellOf (unhide HA) 0, cellOf (unhide HB) 0⟩, ⟨cellOf (unhide HA) 1, cellOf (unhide HB) 1⟩, ⟨cellOf (unhide HA) 2, cellOf (unhide HB) 2⟩, cellOf (unhide HA) 3, cellOf (unhide HB) 3⟩
  go_wp2_with fail
  refine (eqPkgS_any _ _ _ jr ((unhide P).2.2.1.later (unhide BW)) ((unhide P).2.2.2.2.2.later (unhide BW))).mono ?_
  rintro e w3 ⟨rfl, b⟩
  replace BW := hide ((unhide BW).trans (b.mono (unhide BW).size))
  clear b x0 x1 x2 x3 y0 y1 y2 y3 HA HB
  go_wp2
  go_ret
  exact ⟨rfl, unhide BW⟩
end Go.Proofs.YtkhanndmbpemfaaGreatDoor
