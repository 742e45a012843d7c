/- spec.l21Do and spec.l21Tear on a disk of which the files alone are in a row of its own; its packages need but be readable. -/
import Derived.Test.YtkhanndmbpemfaaGreatDoorSDoStW
namespace Go.Proofs.YtkhanndmbpemfaaGreatDoor
open Go.RowKit

attribute [local go_sem ↓] Go.wp_at_zero Go.wp_at_succ

/-- Blocks from B on, but for that of the files. -/
abbrev NF (B : Nat) (uf : Value) (b : Nat) : Prop := B ≤ b ∧ uf.ownBlock ≠ some b
def RoomV (v : Value) (n : Nat) : Prop := ∀ a c, v = .slice a n c → n ≤ c
/-- A disk that can be read, its files its own. -/
structure DRd (N : Nat → Prop) (B : Nat) (w : World) (v1 vf v2 : Value) (db : List Ix.Pg) (fl : List Int) (jr : List Ix.Pg) : Prop where
  p1 : Pks N w v1 db
  r1 : RoomV v1 db.length
  pf : OwI B w vf fl
  p2 : Pks N w v2 jr
  r2 : RoomV v2 jr.length
theorem DRd.later {N : Nat → Prop} {B : Nat} {w w' : World} {v1 vf v2 : Value} {db jr : List Ix.Pg} {fl : List Int} (h : DRd N B w v1 vf v2 db fl jr) (b : Below w.heap.size w w') : DRd N B w' v1 vf v2 db fl jr :=
  ⟨h.p1.later b, h.r1, own_later h.pf b, h.p2.later b, h.r2⟩
theorem DRd.weak {N M : Nat → Prop} {B : Nat} {w : World} {v1 vf v2 : Value} {db jr : List Ix.Pg} {fl : List Int} (h : DRd N B w v1 vf v2 db fl jr) (hN : ∀ b, N b → M b) : DRd M B w v1 vf v2 db fl jr :=
  ⟨h.p1.weak hN, h.r1, h.pf, h.p2.weak hN, h.r2⟩
theorem Pks.set {N : Nat → Prop} {w : World} {v u : Value} {l : List Ix.Pg} {O o : Nat} (h : Pks N w v l) (hN : ∀ b, N b → b ≠ O) : Pks N (w.setCell ⟨O, o, none⟩ u) v l :=
  h.keep (by simp only [World.setCell, Array.size_modify]; exact Nat.le_refl _) (fun k _ hk => Below.heap_setCell _ _ _ _ (hN k hk))
theorem DRd.setD {N : Nat → Prop} {B : Nat} {w : World} {v1 vf v2 : Value} {db jr : List Ix.Pg} {fl : List Int} {O o : Nat} {u : Value} {c : Array Value} (h : DRd N B w v1 vf v2 db fl jr) (hN : ∀ b, N b → b ≠ O) (hO : w.heap[O]? = some (Obj.cells c 31 (0, 0))) : DRd N B (w.setCell ⟨O, o, none⟩ u) v1 vf v2 db fl jr :=
  ⟨h.p1.set hN, h.r1, own_set h.pf hO (by decide), h.p2.set hN, h.r2⟩
/-- A disk that is returned. -/
def DkRd (N : Nat → Prop) (B : Nat) (w : World) (a : Dk.D) (uf v : Value) : Prop := ∃ q1 q2, v = dkV q1 uf a.has q2 ∧ DRd N B w q1 uf q2 a.db a.fl a.jr
def smallP (ps : List Ix.Pg) : Prop := ps.length ≤ 1000 ∧ ∀ q ∈ ps, q.2.2.1.length ≤ 1000 ∧ q.2.2.2.length ≤ 1000
theorem smallP.E {ps : List Ix.Pg} {l : List El} (h : smallP ps) (hm : l.map (·.1) = ps) : smallE l := by
  have hl : l.length = ps.length := by rw [← hm, List.length_map]
  exact ⟨by rw [hl]; exact h.1, fun e he => h.2 e.1 (by rw [← hm]; exact List.mem_map_of_mem he)⟩
theorem PAns.room {B : Nat} {w : World} {v : Value} {l : List El} (h : PAns B w v l) : RoomV v l.length := fun a c e => by
  rcases h.own.2 with ⟨e2, hn⟩ | ⟨g, cap, cur, e2, _, _, hcp, _⟩
  · rw [e2] at e; injection e with _ _ e; omega
  · rw [e2] at e; injection e with _ _ e; omega
/-- The store into the answer's box. -/
theorem endR {N M : Nat → Prop} {w w6 : World} {R B : Nat} {u1 uf u2 : Value} {has : Bool} {db jr : List Ix.Pg} {fl : List Int} {r0 r1 r2 r3 : Value}
    (hR : w6.heap[R]? = some (.cells #[r0, r1, r2, r3] 31 (0, 0))) (lR : w.heap.size ≤ R) (hb : Stays M w w6) (hN : ∀ b, N b → b ≠ R)
    (hA : DRd N B w6 u1 uf u2 db fl jr) {w' : World}
    (hw : w' = (((w6.setCell ⟨R, 0, none⟩ u1).setCell ⟨R, 1, none⟩ uf).setCell ⟨R, 2, none⟩ (.bool has)).setCell ⟨R, 3, none⟩ u2) :
    (w'.cell? ⟨R, 0, none⟩ = some u1 ∧ w'.cell? ⟨R, 1, none⟩ = some uf ∧ w'.cell? ⟨R, 2, none⟩ = some (.bool has) ∧ w'.cell? ⟨R, 3, none⟩ = some u2) ∧ DRd N B w' u1 uf u2 db fl jr ∧ Stays M w w' := by
  have h1 := heapSet (o := 0) (v := u1) hR
  have h2 := heapSet (o := 1) (v := uf) h1
  have h3 := heapSet (o := 2) (v := .bool has) h2
  have h' : w'.heap[R]? = some (.cells #[u1, uf, .bool has, u2] 31 (0, 0)) := by rw [hw, heapSet h3]; rfl
  refine ⟨⟨cellOf h' 0, cellOf h' 1, cellOf h' 2, cellOf h' 3⟩, ?_, ?_⟩
  · rw [hw]
    exact (((hA.setD hN hR).setD hN h1).setD hN h2).setD hN h3
  · rw [hw]
    exact stays_set (stays_set (stays_set (stays_set hb (.inr lR)) (.inr lR)) (.inr lR)) (.inr lR)
theorem sz_setD {w : World} {X o : Nat} {u : Value} : (w.setCell ⟨X, o, none⟩ u).heap.size = w.heap.size := by simp [World.setCell]
theorem pks_nil {w : World} (N : Nat → Prop) (a : Option Addr) (c : Nat) : Pks N w (.slice a 0 c) [] := ⟨a, c, rfl, Nat.zero_le _, fun h => absurd h (Nat.lt_irrefl 0)⟩

set_option linter.unusedSimpArgs false in
set_option maxHeartbeats 8000000 in
set_option maxRecDepth 100000 in
theorem l21Do_rd {N : Nat → Prop} {B : Nat} (w : World) (has : Bool) (u1 uf u2 : Value) (db jr : List Ix.Pg) (fl : List Int) (k p x : Int) (sa : Option Addr) (sc : Nat) (ps : List Ix.Pg) (h : DRd N B w u1 uf u2 db fl jr) (hB : B ≤ w.heap.size) (hNF : ∀ b, N b → uf.ownBlock ≠ some b) (hNS : ∀ b, w.heap.size ≤ b → N b) (hp : Pks (fun _ => True) w (.slice sa ps.length sc) ps) (hl : smallP ps) (hk : k = 1 ∨ k = 2 ∨ k = 3 ∨ k = 4) (p0 : 0 ≤ p) (p1 : p < fl.length) :
    Calls Tryz.prog 57 #[dkV u1 uf has u2, stV k p x (.slice sa ps.length sc)] w fun e w' => ∃ v, e = .returned v ∧ DkRd N B w' (Dk.D.step ⟨db, fl, has, jr⟩ ⟨k, p, x, ps⟩) uf v ∧ Stays (fun x => uf.ownBlock = some x) w w' := by
  obtain ⟨a1, c1, i1⟩ := h.p1.slice
  obtain ⟨g, cf, iff', hBg, hgl⟩ := h.pf.form (by omega)
  obtain ⟨a2, c2, i2⟩ := h.p2.slice
  subst i1 iff' i2
  obtain ⟨AA, hAA⟩ : ∃ AA, AA = Dk.D.step ⟨db, fl, has, jr⟩ ⟨k, p, x, ps⟩ := ⟨_, rfl⟩
  rw [← hAA]
  have HAA := hide hAA
  obtain ⟨b0, k0, k1, k2, kz⟩ := three_boxesD w (.cells #[.slice a1 db.length c1, .slice (some ⟨g, 0, none⟩) fl.length cf, .bool has, .slice a2 jr.length c2] 31) (.cells #[.int .i64 k, .int .i64 p, .int .i64 x, .slice sa ps.length sc] 47) (.cells #[.slice none 0 0, .slice none 0 0, .bool false, .slice none 0 0] 31)
  have HD := hide k0
  have HT := hide k1
  have HR := hide k2
  have HSZ := hide (show w.heap.size + 1 + 1 < _ from heapLt k2)
  have BW := hide ((Stays.refl (fun x => (Value.slice (some ⟨g, 0, none⟩) fl.length cf).ownBlock = some x) w).below b0)
  have BW0 := hide b0
  have hA0 : DRd (fun b => N b ∧ b ≠ w.heap.size ∧ b ≠ w.heap.size + 1 + 1) B w (.slice a1 db.length c1) (.slice (some ⟨g, 0, none⟩) fl.length cf) (.slice a2 jr.length c2) db fl jr := by
    have hq : ∀ {v : Value} {l : List Ix.Pg}, Pks N w v l → Pks (fun b => N b ∧ b ≠ w.heap.size ∧ b ≠ w.heap.size + 1 + 1) w v l := fun hv => hv.bound.weak (fun b hb => ⟨hb.1, by have := hb.2; omega, by have := hb.2; omega⟩)
    exact ⟨hq h.p1, h.r1, h.pf, hq h.p2, h.r2⟩
  have HA := hide (hA0.later b0)
  have HNO : Hid (∀ b, (fun b => N b ∧ b ≠ w.heap.size ∧ b ≠ w.heap.size + 1 + 1) b → b ≠ w.heap.size) := fun b hb => hb.2.1
  have HNR : Hid (∀ b, (fun b => N b ∧ b ≠ w.heap.size ∧ b ≠ w.heap.size + 1 + 1) b → b ≠ w.heap.size + 1 + 1) := fun b hb => hb.2.2
  have HNW : Hid (∀ b, (fun b => N b ∧ b ≠ w.heap.size ∧ b ≠ w.heap.size + 1 + 1) b → N b) := fun b hb => hb.1
  have HNF := hide hNF
  have HNS := hide hNS
  have HP := hide hp
  have HPB := hide (And.intro p0 p1)
  have HB := hide hB
  have HGL := hide hgl
  have HL := hide hl
  clear hNF hNS h hp b0 k0 k1 k2 kz p0 p1 hB hAA hBg hgl hl hA0
  dsimp only [dkV, stV] at *
  go_enter Tryz.func57, Tryz.ntmps57
  go_upto_region 1 with fail
  generalize World.alloc _ _ = W0 at *
  rcases hk with rfl | rfl | rfl | rfl
  · have HE : Hid (AA = ⟨db, fl, true, ps⟩) := by show _ = _; rw [unhide HAA]; rfl
    obtain ⟨⟨x0, y0⟩, ⟨x1, y1⟩, ⟨x2, y2⟩, x3, y3⟩ : (_ ∧ _) ∧ (_ ∧ _) ∧ (_ ∧ _) ∧ _ ∧ _ := ⟨⟨cellOf (unhide HD) 0, frozenOf (unhide HD) 0⟩, ⟨cellOf (unhide HD) 1, frozenOf (unhide HD) 1⟩, ⟨cellOf (unhide HD) 2, frozenOf (unhide HD) 2⟩, cellOf (unhide HD) 3, frozenOf (unhide HD) 3⟩
    obtain ⟨t0, t1, t2, t3⟩ : _ ∧ _ ∧ _ ∧ _ := ⟨cellOf (unhide HT) 0, cellOf (unhide HT) 1, cellOf (unhide HT) 2, cellOf (unhide HT) 3⟩
    replace HA := hide (DRd.setD (o := 2) (u := .bool true) (unhide HA) (unhide HNO) (unhide HD))
    replace HT := hide ((Below.heap_setCell W0 ⟨w.heap.size, 2, none⟩ (.bool true) (w.heap.size + 1) (by show w.heap.size + 1 ≠ w.heap.size; omega)).trans (unhide HT))
    replace HR := hide ((Below.heap_setCell W0 ⟨w.heap.size, 2, none⟩ (.bool true) (w.heap.size + 1 + 1) (by show w.heap.size + 1 + 1 ≠ w.heap.size; omega)).trans (unhide HR))
    replace HD := hide (heapSet (o := 2) (v := .bool true) (unhide HD))
    replace BW := hide (stays_set (o := 2) (u := .bool true) (X := w.heap.size) (unhide BW) (.inr (Nat.le_refl _)))
    replace BW0 := hide (below_set (o := 2) (u := .bool true) (X := w.heap.size) (unhide BW0) (Nat.le_refl _))
    replace HSZ : Hid (w.heap.size + 1 + 1 < (W0.setCell ⟨w.heap.size, 2, none⟩ (.bool true)).heap.size) := by show _ < _; rw [sz_setD]; exact unhide HSZ
    obtain ⟨s0, s1, s2, s3⟩ : _ ∧ _ ∧ _ ∧ _ := ⟨cellOf (unhide HT) 0, cellOf (unhide HT) 1, cellOf (unhide HT) 2, cellOf (unhide HT) 3⟩
    have CC := hide (l12Copy_any (W0.setCell ⟨w.heap.size, 2, none⟩ (.bool true)) _ ps ((unhide HP).later (unhide BW0)) (unhide HL).1)
    go_wp2_with fail
    refine (unhide CC).mono ?_
    rintro e w1 ⟨u, els, rfl, hP, hm, b⟩
    obtain ⟨ua, uc, hu⟩ := own_formS hP.own
    subst hu
    have hme := smallP.E (unhide HL) hm
    have hpn := hP.pks hme.1 hme.2
    rw [hm] at hpn
    have hrm := hP.room
    have hlm : els.length = ps.length := by rw [← hm, List.length_map]
    rw [hlm] at hpn hrm
    have HPN : Hid (Pks (fun b => N b ∧ b ≠ w.heap.size ∧ b ≠ w.heap.size + 1 + 1) w1 (.slice ua ps.length uc) ps) := hpn.weak (fun b hb => by
      have h0 := unhide HSZ
      have h1 := unhide HB
      have h2 := unhide HGL
      exact ⟨unhide HNS b (by omega), by omega, by omega⟩)
    have HRM := hide hrm
    rw [hlm]
    replace HA := hide ((unhide HA).later b)
    replace HD := hide ((b.block _ (heapLt (unhide HD))).trans (unhide HD))
    replace HT := hide ((b.block _ (heapLt (unhide HT))).trans (unhide HT))
    replace HR := hide ((b.block _ (heapLt (unhide HR))).trans (unhide HR))
    replace BW := hide ((unhide BW).below b)
    replace BW0 := hide ((unhide BW0).trans (b.mono (unhide BW0).size))
    replace HSZ := hide (Nat.lt_of_lt_of_le (unhide HSZ) b.size)
    clear hP hm b CC hme hpn hrm hlm x0 x1 x2 x3 y0 y1 y2 y3 t0 t1 t2 t3 s0 s1 s2 s3
    replace HA : Hid (DRd (fun b => N b ∧ b ≠ w.heap.size ∧ b ≠ w.heap.size + 1 + 1) B w1 (.slice a1 db.length c1) (.slice (some ⟨g, 0, none⟩) fl.length cf) (.slice ua ps.length uc) db fl ps) := ⟨(unhide HA).p1, (unhide HA).r1, (unhide HA).pf, unhide HPN, unhide HRM⟩
    obtain ⟨⟨x0, y0⟩, ⟨x1, y1⟩, ⟨x2, y2⟩, x3, y3⟩ : (_ ∧ _) ∧ (_ ∧ _) ∧ (_ ∧ _) ∧ _ ∧ _ := ⟨⟨cellOf (unhide HD) 0, frozenOf (unhide HD) 0⟩, ⟨cellOf (unhide HD) 1, frozenOf (unhide HD) 1⟩, ⟨cellOf (unhide HD) 2, frozenOf (unhide HD) 2⟩, cellOf (unhide HD) 3, frozenOf (unhide HD) 3⟩
    replace HA := hide (DRd.setD (o := 3) (u := .slice ua ps.length uc) (unhide HA) (unhide HNO) (unhide HD))
    replace HT := hide ((Below.heap_setCell w1 ⟨w.heap.size, 3, none⟩ (.slice ua ps.length uc) (w.heap.size + 1) (by show w.heap.size + 1 ≠ w.heap.size; omega)).trans (unhide HT))
    replace HR := hide ((Below.heap_setCell w1 ⟨w.heap.size, 3, none⟩ (.slice ua ps.length uc) (w.heap.size + 1 + 1) (by show w.heap.size + 1 + 1 ≠ w.heap.size; omega)).trans (unhide HR))
    replace HD := hide (heapSet (o := 3) (v := .slice ua ps.length uc) (unhide HD))
    replace BW := hide (stays_set (o := 3) (u := .slice ua ps.length uc) (X := w.heap.size) (unhide BW) (.inr (Nat.le_refl _)))
    replace BW0 := hide (below_set (o := 3) (u := .slice ua ps.length uc) (X := w.heap.size) (unhide BW0) (Nat.le_refl _))
    replace HSZ : Hid (w.heap.size + 1 + 1 < (w1.setCell ⟨w.heap.size, 3, none⟩ (.slice ua ps.length uc)).heap.size) := by show _ < _; rw [sz_setD]; exact unhide HSZ
    obtain ⟨z0, z1, z2, z3⟩ : _ ∧ _ ∧ _ ∧ _ := ⟨cellOf (unhide HD) 0, cellOf (unhide HD) 1, cellOf (unhide HD) 2, cellOf (unhide HD) 3⟩
    obtain ⟨⟨r0, k0⟩, ⟨r1, k1⟩, ⟨r2, k2⟩, r3, k3⟩ : (_ ∧ _) ∧ (_ ∧ _) ∧ (_ ∧ _) ∧ _ ∧ _ := ⟨⟨cellOf (unhide HR) 0, frozenOf (unhide HR) 0⟩, ⟨cellOf (unhide HR) 1, frozenOf (unhide HR) 1⟩, ⟨cellOf (unhide HR) 2, frozenOf (unhide HR) 2⟩, cellOf (unhide HR) 3, frozenOf (unhide HR) 3⟩
    go_wp2
    obtain ⟨⟨q0, q1, q2, q3⟩, hans, hbel⟩ := endR (w := w) (unhide HR) (by omega) (unhide BW) (unhide HNR) (has := true) (unhide HA) rfl
    exact bodyPost_ret (v := .agg #[.slice a1 db.length c1, .slice (some ⟨g, 0, none⟩) fl.length cf, .bool true, .slice ua ps.length uc]) (by simp [results, Tryz.results57, go_sem, q0, q1, q2, q3]) rfl ⟨_, rfl, by rw [unhide HE]; exact ⟨_, _, rfl, hans.weak (unhide HNW)⟩, hbel⟩
  · obtain ⟨n, rfl⟩ := Int.eq_ofNat_of_zero_le (unhide HPB).1
    have HE : Hid (AA = ⟨db, fl.set n (x), has, jr⟩) := by show _ = _; rw [unhide HAA]; rfl
    have hn : n < fl.length := by have := (unhide HPB).2; omega
    have hpt := OwI.put (p := n) (x := x) (unhide HA).pf
    have q0 : W0.cell? ⟨g, n, none⟩ = some (.int .i64 (Ky.nth fl n)) := by
      rw [(unhide HA).pf.cellAt n (by omega), List.getElem?_map, List.getElem?_eq_getElem hn]
      unfold Ky.nth
      rw [List.getD_eq_getElem?_getD, List.getElem?_eq_getElem hn]
      rfl
    have q1 : W0.frozen? ⟨g, n, none⟩ = false := (unhide HA).pf.frozenAt n
    have nD : w.heap.size ≠ g := fun e => own_ne (unhide HA).pf (unhide HD) (by decide) (by rw [e]; rfl)
    have nT : w.heap.size + 1 ≠ g := fun e => own_ne (unhide HA).pf (unhide HT) (by decide) (by rw [e]; rfl)
    have nR : w.heap.size + 1 + 1 ≠ g := fun e => own_ne (unhide HA).pf (unhide HR) (by decide) (by rw [e]; rfl)
    have hi0 : (0 : Int) ≤ (n : Int) := Int.natCast_nonneg _
    have hi1 : (n : Int) < (fl.length : Int) := by omega
    obtain ⟨⟨x0, y0⟩, ⟨x1, y1⟩, ⟨x2, y2⟩, x3, y3⟩ : (_ ∧ _) ∧ (_ ∧ _) ∧ (_ ∧ _) ∧ _ ∧ _ := ⟨⟨cellOf (unhide HD) 0, frozenOf (unhide HD) 0⟩, ⟨cellOf (unhide HD) 1, frozenOf (unhide HD) 1⟩, ⟨cellOf (unhide HD) 2, frozenOf (unhide HD) 2⟩, cellOf (unhide HD) 3, frozenOf (unhide HD) 3⟩
    obtain ⟨t0, t1, t2, t3⟩ : _ ∧ _ ∧ _ ∧ _ := ⟨cellOf (unhide HT) 0, cellOf (unhide HT) 1, cellOf (unhide HT) 2, cellOf (unhide HT) 3⟩
    replace HA : Hid (DRd (fun b => N b ∧ b ≠ w.heap.size ∧ b ≠ w.heap.size + 1 + 1) B (W0.setCell ⟨g, n, none⟩ (.int .i64 (x))) (.slice a1 db.length c1) (.slice (some ⟨g, 0, none⟩) fl.length cf) (.slice a2 jr.length c2) db (fl.set n (x)) jr) := ⟨(unhide HA).p1.set (fun b hb e => unhide HNF b hb.1 (by rw [e]; rfl)), (unhide HA).r1, hpt.1, (unhide HA).p2.set (fun b hb e => unhide HNF b hb.1 (by rw [e]; rfl)), (unhide HA).r2⟩
    replace HD := hide ((Below.heap_setCell W0 ⟨g, n, none⟩ (.int .i64 (x)) w.heap.size nD).trans (unhide HD))
    replace HR := hide ((Below.heap_setCell W0 ⟨g, n, none⟩ (.int .i64 (x)) (w.heap.size + 1 + 1) nR).trans (unhide HR))
    replace BW := hide (stays_set (o := n) (u := .int .i64 (x)) (X := g) (unhide BW) (.inl rfl))
    clear hpt BW0
    obtain ⟨z0, z1, z2, z3⟩ : _ ∧ _ ∧ _ ∧ _ := ⟨cellOf (unhide HD) 0, cellOf (unhide HD) 1, cellOf (unhide HD) 2, cellOf (unhide HD) 3⟩
    obtain ⟨⟨r0, k0⟩, ⟨r1, k1⟩, ⟨r2, k2⟩, r3, k3⟩ : (_ ∧ _) ∧ (_ ∧ _) ∧ (_ ∧ _) ∧ _ ∧ _ := ⟨⟨cellOf (unhide HR) 0, frozenOf (unhide HR) 0⟩, ⟨cellOf (unhide HR) 1, frozenOf (unhide HR) 1⟩, ⟨cellOf (unhide HR) 2, frozenOf (unhide HR) 2⟩, cellOf (unhide HR) 3, frozenOf (unhide HR) 3⟩
    have HN := hide hn
    clear hn
    go_wp2
    obtain ⟨⟨q0, q1, q2, q3⟩, hans, hbel⟩ := endR (w := w) (unhide HR) (by omega) (unhide BW) (unhide HNR) (has := has) (unhide HA) rfl
    exact bodyPost_ret (v := .agg #[.slice a1 db.length c1, .slice (some ⟨g, 0, none⟩) fl.length cf, .bool has, .slice a2 jr.length c2]) (by simp [results, Tryz.results57, go_sem, q0, q1, q2, q3]) rfl ⟨_, rfl, by rw [unhide HE]; exact ⟨_, _, rfl, hans.weak (unhide HNW)⟩, hbel⟩
  · have HE : Hid (AA = ⟨ps, fl, has, jr⟩) := by show _ = _; rw [unhide HAA]; rfl
    obtain ⟨⟨x0, y0⟩, ⟨x1, y1⟩, ⟨x2, y2⟩, x3, y3⟩ : (_ ∧ _) ∧ (_ ∧ _) ∧ (_ ∧ _) ∧ _ ∧ _ := ⟨⟨cellOf (unhide HD) 0, frozenOf (unhide HD) 0⟩, ⟨cellOf (unhide HD) 1, frozenOf (unhide HD) 1⟩, ⟨cellOf (unhide HD) 2, frozenOf (unhide HD) 2⟩, cellOf (unhide HD) 3, frozenOf (unhide HD) 3⟩
    obtain ⟨t0, t1, t2, t3⟩ : _ ∧ _ ∧ _ ∧ _ := ⟨cellOf (unhide HT) 0, cellOf (unhide HT) 1, cellOf (unhide HT) 2, cellOf (unhide HT) 3⟩
    have CC := hide (l12Copy_any W0 _ ps ((unhide HP).later (unhide BW0)) (unhide HL).1)
    go_wp2_with fail
    refine (unhide CC).mono ?_
    rintro e w1 ⟨u, els, rfl, hP, hm, b⟩
    obtain ⟨ua, uc, hu⟩ := own_formS hP.own
    subst hu
    have hme := smallP.E (unhide HL) hm
    have hpn := hP.pks hme.1 hme.2
    rw [hm] at hpn
    have hrm := hP.room
    have hlm : els.length = ps.length := by rw [← hm, List.length_map]
    rw [hlm] at hpn hrm
    have HPN : Hid (Pks (fun b => N b ∧ b ≠ w.heap.size ∧ b ≠ w.heap.size + 1 + 1) w1 (.slice ua ps.length uc) ps) := hpn.weak (fun b hb => by
      have h0 := unhide HSZ
      have h1 := unhide HB
      have h2 := unhide HGL
      exact ⟨unhide HNS b (by omega), by omega, by omega⟩)
    have HRM := hide hrm
    rw [hlm]
    replace HA := hide ((unhide HA).later b)
    replace HD := hide ((b.block _ (heapLt (unhide HD))).trans (unhide HD))
    replace HT := hide ((b.block _ (heapLt (unhide HT))).trans (unhide HT))
    replace HR := hide ((b.block _ (heapLt (unhide HR))).trans (unhide HR))
    replace BW := hide ((unhide BW).below b)
    replace BW0 := hide ((unhide BW0).trans (b.mono (unhide BW0).size))
    replace HSZ := hide (Nat.lt_of_lt_of_le (unhide HSZ) b.size)
    clear hP hm b CC hme hpn hrm hlm x0 x1 x2 x3 y0 y1 y2 y3 t0 t1 t2 t3
    replace HA : Hid (DRd (fun b => N b ∧ b ≠ w.heap.size ∧ b ≠ w.heap.size + 1 + 1) B w1 (.slice ua ps.length uc) (.slice (some ⟨g, 0, none⟩) fl.length cf) (.slice a2 jr.length c2) ps fl jr) := ⟨unhide HPN, unhide HRM, (unhide HA).pf, (unhide HA).p2, (unhide HA).r2⟩
    obtain ⟨⟨x0, y0⟩, ⟨x1, y1⟩, ⟨x2, y2⟩, x3, y3⟩ : (_ ∧ _) ∧ (_ ∧ _) ∧ (_ ∧ _) ∧ _ ∧ _ := ⟨⟨cellOf (unhide HD) 0, frozenOf (unhide HD) 0⟩, ⟨cellOf (unhide HD) 1, frozenOf (unhide HD) 1⟩, ⟨cellOf (unhide HD) 2, frozenOf (unhide HD) 2⟩, cellOf (unhide HD) 3, frozenOf (unhide HD) 3⟩
    replace HA := hide (DRd.setD (o := 0) (u := .slice ua ps.length uc) (unhide HA) (unhide HNO) (unhide HD))
    replace HT := hide ((Below.heap_setCell w1 ⟨w.heap.size, 0, none⟩ (.slice ua ps.length uc) (w.heap.size + 1) (by show w.heap.size + 1 ≠ w.heap.size; omega)).trans (unhide HT))
    replace HR := hide ((Below.heap_setCell w1 ⟨w.heap.size, 0, none⟩ (.slice ua ps.length uc) (w.heap.size + 1 + 1) (by show w.heap.size + 1 + 1 ≠ w.heap.size; omega)).trans (unhide HR))
    replace HD := hide (heapSet (o := 0) (v := .slice ua ps.length uc) (unhide HD))
    replace BW := hide (stays_set (o := 0) (u := .slice ua ps.length uc) (X := w.heap.size) (unhide BW) (.inr (Nat.le_refl _)))
    replace BW0 := hide (below_set (o := 0) (u := .slice ua ps.length uc) (X := w.heap.size) (unhide BW0) (Nat.le_refl _))
    replace HSZ : Hid (w.heap.size + 1 + 1 < (w1.setCell ⟨w.heap.size, 0, none⟩ (.slice ua ps.length uc)).heap.size) := by show _ < _; rw [sz_setD]; exact unhide HSZ
    obtain ⟨z0, z1, z2, z3⟩ : _ ∧ _ ∧ _ ∧ _ := ⟨cellOf (unhide HD) 0, cellOf (unhide HD) 1, cellOf (unhide HD) 2, cellOf (unhide HD) 3⟩
    obtain ⟨⟨r0, k0⟩, ⟨r1, k1⟩, ⟨r2, k2⟩, r3, k3⟩ : (_ ∧ _) ∧ (_ ∧ _) ∧ (_ ∧ _) ∧ _ ∧ _ := ⟨⟨cellOf (unhide HR) 0, frozenOf (unhide HR) 0⟩, ⟨cellOf (unhide HR) 1, frozenOf (unhide HR) 1⟩, ⟨cellOf (unhide HR) 2, frozenOf (unhide HR) 2⟩, cellOf (unhide HR) 3, frozenOf (unhide HR) 3⟩
    go_wp2
    obtain ⟨⟨q0, q1, q2, q3⟩, hans, hbel⟩ := endR (w := w) (unhide HR) (by omega) (unhide BW) (unhide HNR) (has := has) (unhide HA) rfl
    exact bodyPost_ret (v := .agg #[.slice ua ps.length uc, .slice (some ⟨g, 0, none⟩) fl.length cf, .bool has, .slice a2 jr.length c2]) (by simp [results, Tryz.results57, go_sem, q0, q1, q2, q3]) rfl ⟨_, rfl, by rw [unhide HE]; exact ⟨_, _, rfl, hans.weak (unhide HNW)⟩, hbel⟩
  · have HE : Hid (AA = ⟨db, fl, false, []⟩) := by show _ = _; rw [unhide HAA]; rfl
    obtain ⟨⟨x0, y0⟩, ⟨x1, y1⟩, ⟨x2, y2⟩, x3, y3⟩ : (_ ∧ _) ∧ (_ ∧ _) ∧ (_ ∧ _) ∧ _ ∧ _ := ⟨⟨cellOf (unhide HD) 0, frozenOf (unhide HD) 0⟩, ⟨cellOf (unhide HD) 1, frozenOf (unhide HD) 1⟩, ⟨cellOf (unhide HD) 2, frozenOf (unhide HD) 2⟩, cellOf (unhide HD) 3, frozenOf (unhide HD) 3⟩
    obtain ⟨t0, t1, t2, t3⟩ : _ ∧ _ ∧ _ ∧ _ := ⟨cellOf (unhide HT) 0, cellOf (unhide HT) 1, cellOf (unhide HT) 2, cellOf (unhide HT) 3⟩
    replace HA := hide (DRd.setD (o := 2) (u := .bool false) (unhide HA) (unhide HNO) (unhide HD))
    replace HT := hide ((Below.heap_setCell W0 ⟨w.heap.size, 2, none⟩ (.bool false) (w.heap.size + 1) (by show w.heap.size + 1 ≠ w.heap.size; omega)).trans (unhide HT))
    replace HR := hide ((Below.heap_setCell W0 ⟨w.heap.size, 2, none⟩ (.bool false) (w.heap.size + 1 + 1) (by show w.heap.size + 1 + 1 ≠ w.heap.size; omega)).trans (unhide HR))
    replace HD := hide (heapSet (o := 2) (v := .bool false) (unhide HD))
    replace BW := hide (stays_set (o := 2) (u := .bool false) (X := w.heap.size) (unhide BW) (.inr (Nat.le_refl _)))
    replace BW0 := hide (below_set (o := 2) (u := .bool false) (X := w.heap.size) (unhide BW0) (Nat.le_refl _))
    replace HSZ : Hid (w.heap.size + 1 + 1 < (W0.setCell ⟨w.heap.size, 2, none⟩ (.bool false)).heap.size) := by show _ < _; rw [sz_setD]; exact unhide HSZ
    have b := below1 (W0.setCell ⟨w.heap.size, 2, none⟩ (.bool false)) (.cells #[] 94)
    replace HA := hide ((unhide HA).later b)
    replace HD := hide ((b.block _ (heapLt (unhide HD))).trans (unhide HD))
    replace HT := hide ((b.block _ (heapLt (unhide HT))).trans (unhide HT))
    replace HR := hide ((b.block _ (heapLt (unhide HR))).trans (unhide HR))
    replace BW := hide ((unhide BW).below b)
    replace BW0 := hide ((unhide BW0).trans (b.mono (unhide BW0).size))
    replace HSZ := hide (Nat.lt_of_lt_of_le (unhide HSZ) b.size)
    clear b
    replace HA : Hid (DRd (fun b => N b ∧ b ≠ w.heap.size ∧ b ≠ w.heap.size + 1 + 1) B ((W0.setCell ⟨w.heap.size, 2, none⟩ (.bool false)).alloc (.cells #[] 94)) (.slice a1 db.length c1) (.slice (some ⟨g, 0, none⟩) fl.length cf) (.slice (some ⟨W0.heap.size, 0, none⟩) 0 0) db fl []) := ⟨(unhide HA).p1, (unhide HA).r1, (unhide HA).pf, pks_nil _ _ _, fun _ _ _ => Nat.zero_le _⟩
    obtain ⟨⟨v0, j0⟩, ⟨v1, j1⟩, ⟨v2, j2⟩, v3, j3⟩ : (_ ∧ _) ∧ (_ ∧ _) ∧ (_ ∧ _) ∧ _ ∧ _ := ⟨⟨cellOf (unhide HD) 0, frozenOf (unhide HD) 0⟩, ⟨cellOf (unhide HD) 1, frozenOf (unhide HD) 1⟩, ⟨cellOf (unhide HD) 2, frozenOf (unhide HD) 2⟩, cellOf (unhide HD) 3, frozenOf (unhide HD) 3⟩
    replace HA := hide (DRd.setD (o := 3) (u := .slice (some ⟨W0.heap.size, 0, none⟩) 0 0) (unhide HA) (unhide HNO) (unhide HD))
    replace HT := hide ((Below.heap_setCell ((W0.setCell ⟨w.heap.size, 2, none⟩ (.bool false)).alloc (.cells #[] 94)) ⟨w.heap.size, 3, none⟩ (.slice (some ⟨W0.heap.size, 0, none⟩) 0 0) (w.heap.size + 1) (by show w.heap.size + 1 ≠ w.heap.size; omega)).trans (unhide HT))
    replace HR := hide ((Below.heap_setCell ((W0.setCell ⟨w.heap.size, 2, none⟩ (.bool false)).alloc (.cells #[] 94)) ⟨w.heap.size, 3, none⟩ (.slice (some ⟨W0.heap.size, 0, none⟩) 0 0) (w.heap.size + 1 + 1) (by show w.heap.size + 1 + 1 ≠ w.heap.size; omega)).trans (unhide HR))
    replace HD := hide (heapSet (o := 3) (v := .slice (some ⟨W0.heap.size, 0, none⟩) 0 0) (unhide HD))
    replace BW := hide (stays_set (o := 3) (u := .slice (some ⟨W0.heap.size, 0, none⟩) 0 0) (X := w.heap.size) (unhide BW) (.inr (Nat.le_refl _)))
    replace BW0 := hide (below_set (o := 3) (u := .slice (some ⟨W0.heap.size, 0, none⟩) 0 0) (X := w.heap.size) (unhide BW0) (Nat.le_refl _))
    replace HSZ : Hid (w.heap.size + 1 + 1 < (((W0.setCell ⟨w.heap.size, 2, none⟩ (.bool false)).alloc (.cells #[] 94)).setCell ⟨w.heap.size, 3, none⟩ (.slice (some ⟨W0.heap.size, 0, none⟩) 0 0)).heap.size) := by show _ < _; rw [sz_setD]; exact unhide HSZ
    obtain ⟨z0, z1, z2, z3⟩ : _ ∧ _ ∧ _ ∧ _ := ⟨cellOf (unhide HD) 0, cellOf (unhide HD) 1, cellOf (unhide HD) 2, cellOf (unhide HD) 3⟩
    obtain ⟨⟨r0, k0⟩, ⟨r1, k1⟩, ⟨r2, k2⟩, r3, k3⟩ : (_ ∧ _) ∧ (_ ∧ _) ∧ (_ ∧ _) ∧ _ ∧ _ := ⟨⟨cellOf (unhide HR) 0, frozenOf (unhide HR) 0⟩, ⟨cellOf (unhide HR) 1, frozenOf (unhide HR) 1⟩, ⟨cellOf (unhide HR) 2, frozenOf (unhide HR) 2⟩, cellOf (unhide HR) 3, frozenOf (unhide HR) 3⟩
    go_wp2
    obtain ⟨⟨q0, q1, q2, q3⟩, hans, hbel⟩ := endR (w := w) (unhide HR) (by omega) (unhide BW) (unhide HNR) (has := false) (unhide HA) rfl
    exact bodyPost_ret (v := .agg #[.slice a1 db.length c1, .slice (some ⟨g, 0, none⟩) fl.length cf, .bool false, .slice (some ⟨W0.heap.size, 0, none⟩) 0 0]) (by simp [results, Tryz.results57, go_sem, q0, q1, q2, q3]) rfl ⟨_, rfl, by rw [unhide HE]; exact ⟨_, _, rfl, hans.weak (unhide HNW)⟩, hbel⟩

set_option linter.unusedSimpArgs false in
set_option maxHeartbeats 8000000 in
set_option maxRecDepth 100000 in
theorem l21Tear_rd {N : Nat → Prop} {B : Nat} (w : World) (has : Bool) (u1 uf u2 : Value) (db jr : List Ix.Pg) (fl : List Int) (k p x : Int) (sa : Option Addr) (sc : Nat) (ps : List Ix.Pg) (h : DRd N B w u1 uf u2 db fl jr) (hB : B ≤ w.heap.size) (hNF : ∀ b, N b → uf.ownBlock ≠ some b) (hNS : ∀ b, w.heap.size ≤ b → N b) (hp : Pks (fun _ => True) w (.slice sa ps.length sc) ps) (hl : smallP ps) (hk : k = 1 ∨ k = 2 ∨ k = 3 ∨ k = 4) (p0 : 0 ≤ p) (p1 : p < fl.length) :
    Calls Tryz.prog 58 #[dkV u1 uf has u2, stV k p x (.slice sa ps.length sc)] w fun e w' => ∃ v, e = .returned v ∧ DkRd N B w' (Dk.D.torn ⟨db, fl, has, jr⟩ ⟨k, p, x, ps⟩) uf v ∧ Stays (fun x => uf.ownBlock = some x) w w' := by
  obtain ⟨a1, c1, i1⟩ := h.p1.slice
  obtain ⟨g, cf, iff', hBg, hgl⟩ := h.pf.form (by omega)
  obtain ⟨a2, c2, i2⟩ := h.p2.slice
  subst i1 iff' i2
  obtain ⟨AA, hAA⟩ : ∃ AA, AA = Dk.D.torn ⟨db, fl, has, jr⟩ ⟨k, p, x, ps⟩ := ⟨_, rfl⟩
  rw [← hAA]
  have HAA := hide hAA
  obtain ⟨b0, k0, k1, k2, kz⟩ := three_boxesD w (.cells #[.slice a1 db.length c1, .slice (some ⟨g, 0, none⟩) fl.length cf, .bool has, .slice a2 jr.length c2] 31) (.cells #[.int .i64 k, .int .i64 p, .int .i64 x, .slice sa ps.length sc] 47) (.cells #[.slice none 0 0, .slice none 0 0, .bool false, .slice none 0 0] 31)
  have HD := hide k0
  have HT := hide k1
  have HR := hide k2
  have HSZ := hide (show w.heap.size + 1 + 1 < _ from heapLt k2)
  have BW := hide ((Stays.refl (fun x => (Value.slice (some ⟨g, 0, none⟩) fl.length cf).ownBlock = some x) w).below b0)
  have BW0 := hide b0
  have hA0 : DRd (fun b => N b ∧ b ≠ w.heap.size ∧ b ≠ w.heap.size + 1 + 1) B w (.slice a1 db.length c1) (.slice (some ⟨g, 0, none⟩) fl.length cf) (.slice a2 jr.length c2) db fl jr := by
    have hq : ∀ {v : Value} {l : List Ix.Pg}, Pks N w v l → Pks (fun b => N b ∧ b ≠ w.heap.size ∧ b ≠ w.heap.size + 1 + 1) w v l := fun hv => hv.bound.weak (fun b hb => ⟨hb.1, by have := hb.2; omega, by have := hb.2; omega⟩)
    exact ⟨hq h.p1, h.r1, h.pf, hq h.p2, h.r2⟩
  have HA := hide (hA0.later b0)
  have HNO : Hid (∀ b, (fun b => N b ∧ b ≠ w.heap.size ∧ b ≠ w.heap.size + 1 + 1) b → b ≠ w.heap.size) := fun b hb => hb.2.1
  have HNR : Hid (∀ b, (fun b => N b ∧ b ≠ w.heap.size ∧ b ≠ w.heap.size + 1 + 1) b → b ≠ w.heap.size + 1 + 1) := fun b hb => hb.2.2
  have HNW : Hid (∀ b, (fun b => N b ∧ b ≠ w.heap.size ∧ b ≠ w.heap.size + 1 + 1) b → N b) := fun b hb => hb.1
  have HNF := hide hNF
  have HNS := hide hNS
  have HP := hide hp
  have HPB := hide (And.intro p0 p1)
  have HB := hide hB
  have HGL := hide hgl
  have HL := hide hl
  clear hNF hNS h hp b0 k0 k1 k2 kz p0 p1 hB hAA hBg hgl hl hA0
  dsimp only [dkV, stV] at *
  go_enter Tryz.func58, Tryz.ntmps58
  go_upto_region 1 with fail
  generalize World.alloc _ _ = W0 at *
  rcases hk with rfl | rfl | rfl | rfl
  · have HE : Hid (AA = ⟨db, fl, has, jr⟩) := by show _ = _; rw [unhide HAA]; rfl
    obtain ⟨⟨x0, y0⟩, ⟨x1, y1⟩, ⟨x2, y2⟩, x3, y3⟩ : (_ ∧ _) ∧ (_ ∧ _) ∧ (_ ∧ _) ∧ _ ∧ _ := ⟨⟨cellOf (unhide HD) 0, frozenOf (unhide HD) 0⟩, ⟨cellOf (unhide HD) 1, frozenOf (unhide HD) 1⟩, ⟨cellOf (unhide HD) 2, frozenOf (unhide HD) 2⟩, cellOf (unhide HD) 3, frozenOf (unhide HD) 3⟩
    obtain ⟨t0, t1, t2, t3⟩ : _ ∧ _ ∧ _ ∧ _ := ⟨cellOf (unhide HT) 0, cellOf (unhide HT) 1, cellOf (unhide HT) 2, cellOf (unhide HT) 3⟩
    obtain ⟨⟨r0, k0⟩, ⟨r1, k1⟩, ⟨r2, k2⟩, r3, k3⟩ : (_ ∧ _) ∧ (_ ∧ _) ∧ (_ ∧ _) ∧ _ ∧ _ := ⟨⟨cellOf (unhide HR) 0, frozenOf (unhide HR) 0⟩, ⟨cellOf (unhide HR) 1, frozenOf (unhide HR) 1⟩, ⟨cellOf (unhide HR) 2, frozenOf (unhide HR) 2⟩, cellOf (unhide HR) 3, frozenOf (unhide HR) 3⟩
    go_wp2
    obtain ⟨⟨q0, q1, q2, q3⟩, hans, hbel⟩ := endR (w := w) (unhide HR) (by omega) (unhide BW) (unhide HNR) (has := has) (unhide HA) rfl
    exact bodyPost_ret (v := .agg #[.slice a1 db.length c1, .slice (some ⟨g, 0, none⟩) fl.length cf, .bool has, .slice a2 jr.length c2]) (by simp [results, Tryz.results58, go_sem, q0, q1, q2, q3]) rfl ⟨_, rfl, by rw [unhide HE]; exact ⟨_, _, rfl, hans.weak (unhide HNW)⟩, hbel⟩
  · obtain ⟨n, rfl⟩ := Int.eq_ofNat_of_zero_le (unhide HPB).1
    have HE : Hid (AA = ⟨db, fl.set n (-2), has, jr⟩) := by show _ = _; rw [unhide HAA]; rfl
    have hn : n < fl.length := by have := (unhide HPB).2; omega
    have hpt := OwI.put (p := n) (x := -2) (unhide HA).pf
    have q0 : W0.cell? ⟨g, n, none⟩ = some (.int .i64 (Ky.nth fl n)) := by
      rw [(unhide HA).pf.cellAt n (by omega), List.getElem?_map, List.getElem?_eq_getElem hn]
      unfold Ky.nth
      rw [List.getD_eq_getElem?_getD, List.getElem?_eq_getElem hn]
      rfl
    have q1 : W0.frozen? ⟨g, n, none⟩ = false := (unhide HA).pf.frozenAt n
    have nD : w.heap.size ≠ g := fun e => own_ne (unhide HA).pf (unhide HD) (by decide) (by rw [e]; rfl)
    have nT : w.heap.size + 1 ≠ g := fun e => own_ne (unhide HA).pf (unhide HT) (by decide) (by rw [e]; rfl)
    have nR : w.heap.size + 1 + 1 ≠ g := fun e => own_ne (unhide HA).pf (unhide HR) (by decide) (by rw [e]; rfl)
    have hi0 : (0 : Int) ≤ (n : Int) := Int.natCast_nonneg _
    have hi1 : (n : Int) < (fl.length : Int) := by omega
    obtain ⟨⟨x0, y0⟩, ⟨x1, y1⟩, ⟨x2, y2⟩, x3, y3⟩ : (_ ∧ _) ∧ (_ ∧ _) ∧ (_ ∧ _) ∧ _ ∧ _ := ⟨⟨cellOf (unhide HD) 0, frozenOf (unhide HD) 0⟩, ⟨cellOf (unhide HD) 1, frozenOf (unhide HD) 1⟩, ⟨cellOf (unhide HD) 2, frozenOf (unhide HD) 2⟩, cellOf (unhide HD) 3, frozenOf (unhide HD) 3⟩
    obtain ⟨t0, t1, t2, t3⟩ : _ ∧ _ ∧ _ ∧ _ := ⟨cellOf (unhide HT) 0, cellOf (unhide HT) 1, cellOf (unhide HT) 2, cellOf (unhide HT) 3⟩
    replace HA : Hid (DRd (fun b => N b ∧ b ≠ w.heap.size ∧ b ≠ w.heap.size + 1 + 1) B (W0.setCell ⟨g, n, none⟩ (.int .i64 (-2))) (.slice a1 db.length c1) (.slice (some ⟨g, 0, none⟩) fl.length cf) (.slice a2 jr.length c2) db (fl.set n (-2)) jr) := ⟨(unhide HA).p1.set (fun b hb e => unhide HNF b hb.1 (by rw [e]; rfl)), (unhide HA).r1, hpt.1, (unhide HA).p2.set (fun b hb e => unhide HNF b hb.1 (by rw [e]; rfl)), (unhide HA).r2⟩
    replace HD := hide ((Below.heap_setCell W0 ⟨g, n, none⟩ (.int .i64 (-2)) w.heap.size nD).trans (unhide HD))
    replace HR := hide ((Below.heap_setCell W0 ⟨g, n, none⟩ (.int .i64 (-2)) (w.heap.size + 1 + 1) nR).trans (unhide HR))
    replace BW := hide (stays_set (o := n) (u := .int .i64 (-2)) (X := g) (unhide BW) (.inl rfl))
    clear hpt BW0
    obtain ⟨z0, z1, z2, z3⟩ : _ ∧ _ ∧ _ ∧ _ := ⟨cellOf (unhide HD) 0, cellOf (unhide HD) 1, cellOf (unhide HD) 2, cellOf (unhide HD) 3⟩
    obtain ⟨⟨r0, k0⟩, ⟨r1, k1⟩, ⟨r2, k2⟩, r3, k3⟩ : (_ ∧ _) ∧ (_ ∧ _) ∧ (_ ∧ _) ∧ _ ∧ _ := ⟨⟨cellOf (unhide HR) 0, frozenOf (unhide HR) 0⟩, ⟨cellOf (unhide HR) 1, frozenOf (unhide HR) 1⟩, ⟨cellOf (unhide HR) 2, frozenOf (unhide HR) 2⟩, cellOf (unhide HR) 3, frozenOf (unhide HR) 3⟩
    have HN := hide hn
    clear hn
    go_wp2
    obtain ⟨⟨q0, q1, q2, q3⟩, hans, hbel⟩ := endR (w := w) (unhide HR) (by omega) (unhide BW) (unhide HNR) (has := has) (unhide HA) rfl
    exact bodyPost_ret (v := .agg #[.slice a1 db.length c1, .slice (some ⟨g, 0, none⟩) fl.length cf, .bool has, .slice a2 jr.length c2]) (by simp [results, Tryz.results58, go_sem, q0, q1, q2, q3]) rfl ⟨_, rfl, by rw [unhide HE]; exact ⟨_, _, rfl, hans.weak (unhide HNW)⟩, hbel⟩
  · have HE : Hid (AA = ⟨[], fl, has, jr⟩) := by show _ = _; rw [unhide HAA]; rfl
    obtain ⟨⟨x0, y0⟩, ⟨x1, y1⟩, ⟨x2, y2⟩, x3, y3⟩ : (_ ∧ _) ∧ (_ ∧ _) ∧ (_ ∧ _) ∧ _ ∧ _ := ⟨⟨cellOf (unhide HD) 0, frozenOf (unhide HD) 0⟩, ⟨cellOf (unhide HD) 1, frozenOf (unhide HD) 1⟩, ⟨cellOf (unhide HD) 2, frozenOf (unhide HD) 2⟩, cellOf (unhide HD) 3, frozenOf (unhide HD) 3⟩
    obtain ⟨t0, t1, t2, t3⟩ : _ ∧ _ ∧ _ ∧ _ := ⟨cellOf (unhide HT) 0, cellOf (unhide HT) 1, cellOf (unhide HT) 2, cellOf (unhide HT) 3⟩
    have b := below1 W0 (.cells #[] 94)
    replace HA := hide ((unhide HA).later b)
    replace HD := hide ((b.block _ (heapLt (unhide HD))).trans (unhide HD))
    replace HT := hide ((b.block _ (heapLt (unhide HT))).trans (unhide HT))
    replace HR := hide ((b.block _ (heapLt (unhide HR))).trans (unhide HR))
    replace BW := hide ((unhide BW).below b)
    replace BW0 := hide ((unhide BW0).trans (b.mono (unhide BW0).size))
    replace HSZ := hide (Nat.lt_of_lt_of_le (unhide HSZ) b.size)
    clear b
    replace HA : Hid (DRd (fun b => N b ∧ b ≠ w.heap.size ∧ b ≠ w.heap.size + 1 + 1) B (W0.alloc (.cells #[] 94)) (.slice (some ⟨W0.heap.size, 0, none⟩) 0 0) (.slice (some ⟨g, 0, none⟩) fl.length cf) (.slice a2 jr.length c2) [] fl jr) := ⟨pks_nil _ _ _, fun _ _ _ => Nat.zero_le _, (unhide HA).pf, (unhide HA).p2, (unhide HA).r2⟩
    obtain ⟨⟨v0, j0⟩, ⟨v1, j1⟩, ⟨v2, j2⟩, v3, j3⟩ : (_ ∧ _) ∧ (_ ∧ _) ∧ (_ ∧ _) ∧ _ ∧ _ := ⟨⟨cellOf (unhide HD) 0, frozenOf (unhide HD) 0⟩, ⟨cellOf (unhide HD) 1, frozenOf (unhide HD) 1⟩, ⟨cellOf (unhide HD) 2, frozenOf (unhide HD) 2⟩, cellOf (unhide HD) 3, frozenOf (unhide HD) 3⟩
    replace HA := hide (DRd.setD (o := 0) (u := .slice (some ⟨W0.heap.size, 0, none⟩) 0 0) (unhide HA) (unhide HNO) (unhide HD))
    replace HT := hide ((Below.heap_setCell (W0.alloc (.cells #[] 94)) ⟨w.heap.size, 0, none⟩ (.slice (some ⟨W0.heap.size, 0, none⟩) 0 0) (w.heap.size + 1) (by show w.heap.size + 1 ≠ w.heap.size; omega)).trans (unhide HT))
    replace HR := hide ((Below.heap_setCell (W0.alloc (.cells #[] 94)) ⟨w.heap.size, 0, none⟩ (.slice (some ⟨W0.heap.size, 0, none⟩) 0 0) (w.heap.size + 1 + 1) (by show w.heap.size + 1 + 1 ≠ w.heap.size; omega)).trans (unhide HR))
    replace HD := hide (heapSet (o := 0) (v := .slice (some ⟨W0.heap.size, 0, none⟩) 0 0) (unhide HD))
    replace BW := hide (stays_set (o := 0) (u := .slice (some ⟨W0.heap.size, 0, none⟩) 0 0) (X := w.heap.size) (unhide BW) (.inr (Nat.le_refl _)))
    replace BW0 := hide (below_set (o := 0) (u := .slice (some ⟨W0.heap.size, 0, none⟩) 0 0) (X := w.heap.size) (unhide BW0) (Nat.le_refl _))
    replace HSZ : Hid (w.heap.size + 1 + 1 < ((W0.alloc (.cells #[] 94)).setCell ⟨w.heap.size, 0, none⟩ (.slice (some ⟨W0.heap.size, 0, none⟩) 0 0)).heap.size) := by show _ < _; rw [sz_setD]; exact unhide HSZ
    obtain ⟨z0, z1, z2, z3⟩ : _ ∧ _ ∧ _ ∧ _ := ⟨cellOf (unhide HD) 0, cellOf (unhide HD) 1, cellOf (unhide HD) 2, cellOf (unhide HD) 3⟩
    obtain ⟨⟨r0, k0⟩, ⟨r1, k1⟩, ⟨r2, k2⟩, r3, k3⟩ : (_ ∧ _) ∧ (_ ∧ _) ∧ (_ ∧ _) ∧ _ ∧ _ := ⟨⟨cellOf (unhide HR) 0, frozenOf (unhide HR) 0⟩, ⟨cellOf (unhide HR) 1, frozenOf (unhide HR) 1⟩, ⟨cellOf (unhide HR) 2, frozenOf (unhide HR) 2⟩, cellOf (unhide HR) 3, frozenOf (unhide HR) 3⟩
    go_wp2
    obtain ⟨⟨q0, q1, q2, q3⟩, hans, hbel⟩ := endR (w := w) (unhide HR) (by omega) (unhide BW) (unhide HNR) (has := has) (unhide HA) rfl
    exact bodyPost_ret (v := .agg #[.slice (some ⟨W0.heap.size, 0, none⟩) 0 0, .slice (some ⟨g, 0, none⟩) fl.length cf, .bool has, .slice a2 jr.length c2]) (by simp [results, Tryz.results58, go_sem, q0, q1, q2, q3]) rfl ⟨_, rfl, by rw [unhide HE]; exact ⟨_, _, rfl, hans.weak (unhide HNW)⟩, hbel⟩
  · have HE : Hid (AA = ⟨db, fl, has, jr⟩) := by show _ = _; rw [unhide HAA]; rfl
    obtain ⟨⟨x0, y0⟩, ⟨x1, y1⟩, ⟨x2, y2⟩, x3, y3⟩ : (_ ∧ _) ∧ (_ ∧ _) ∧ (_ ∧ _) ∧ _ ∧ _ := ⟨⟨cellOf (unhide HD) 0, frozenOf (unhide HD) 0⟩, ⟨cellOf (unhide HD) 1, frozenOf (unhide HD) 1⟩, ⟨cellOf (unhide HD) 2, frozenOf (unhide HD) 2⟩, cellOf (unhide HD) 3, frozenOf (unhide HD) 3⟩
    obtain ⟨t0, t1, t2, t3⟩ : _ ∧ _ ∧ _ ∧ _ := ⟨cellOf (unhide HT) 0, cellOf (unhide HT) 1, cellOf (unhide HT) 2, cellOf (unhide HT) 3⟩
    obtain ⟨⟨r0, k0⟩, ⟨r1, k1⟩, ⟨r2, k2⟩, r3, k3⟩ : (_ ∧ _) ∧ (_ ∧ _) ∧ (_ ∧ _) ∧ _ ∧ _ := ⟨⟨cellOf (unhide HR) 0, frozenOf (unhide HR) 0⟩, ⟨cellOf (unhide HR) 1, frozenOf (unhide HR) 1⟩, ⟨cellOf (unhide HR) 2, frozenOf (unhide HR) 2⟩, cellOf (unhide HR) 3, frozenOf (unhide HR) 3⟩
    go_wp2
    obtain ⟨⟨q0, q1, q2, q3⟩, hans, hbel⟩ := endR (w := w) (unhide HR) (by omega) (unhide BW) (unhide HNR) (has := has) (unhide HA) rfl
    exact bodyPost_ret (v := .agg #[.slice a1 db.length c1, .slice (some ⟨g, 0, none⟩) fl.length cf, .bool has, .slice a2 jr.length c2]) (by simp [results, Tryz.results58, go_sem, q0, q1, q2, q3]) rfl ⟨_, rfl, by rw [unhide HE]; exact ⟨_, _, rfl, hans.weak (unhide HNW)⟩, hbel⟩
end Go.Proofs.YtkhanndmbpemfaaGreatDoor
