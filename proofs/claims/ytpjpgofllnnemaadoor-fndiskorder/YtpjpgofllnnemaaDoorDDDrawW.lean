/- What spec.DrawDiskDo returns: a disk and a step that can be read. -/
import Derived.Test.YtpjpgofllnnemaaDoorStDrawW
namespace Go.Proofs.YtpjpgofllnnemaaDoor
open Go.RowKit

attribute [local go_sem ↓] Go.wp_at_zero Go.wp_at_succ

/-- A step that can be read. -/
structure SIn (w : World) (s : Dk.S) (pv : Value) : Prop where
  p : Pks (fun _ => True) w pv s.ps
  r : RoomV pv s.ps.length
theorem SIn.later {w w' : World} {s : Dk.S} {pv : Value} (h : SIn w s pv) (b : Below w.heap.size w w') : SIn w' s pv := ⟨h.p.later b, h.r⟩

/-- The same, all blocks from K on. -/
structure DFar (K : Nat) (w : World) (D : Dk.D) (v1 uf v2 : Value) : Prop where
  p1 : Pks (fun b => K ≤ b) w v1 D.db
  r1 : RoomV v1 D.db.length
  pf : InsN (fun b => K ≤ b) w uf D.fl
  p2 : Pks (fun b => K ≤ b) w v2 D.jr
  r2 : RoomV v2 D.jr.length
structure SFar (K : Nat) (w : World) (s : Dk.S) (pv : Value) : Prop where
  p : Pks (fun b => K ≤ b) w pv s.ps
  r : RoomV pv s.ps.length
theorem DFar.din {K : Nat} {w : World} {D : Dk.D} {v1 uf v2 : Value} (h : DFar K w D v1 uf v2) : DIn w D v1 uf v2 := ⟨h.p1.weak (fun _ _ => trivial), h.r1, h.pf.ins, h.p2.weak (fun _ _ => trivial), h.r2⟩
theorem SFar.sin {K : Nat} {w : World} {s : Dk.S} {pv : Value} (h : SFar K w s pv) : SIn w s pv := ⟨h.p.weak (fun _ _ => trivial), h.r⟩
theorem DFar.keep {K : Nat} {w w' : World} {D : Dk.D} {v1 uf v2 : Value} (h : DFar K w D v1 uf v2) (hs : w.heap.size ≤ w'.heap.size) (hk : ∀ k, K ≤ k → w'.heap[k]? = w.heap[k]?) : DFar K w' D v1 uf v2 :=
  ⟨h.p1.keep hs (fun k _ x => hk k x), h.r1, h.pf.keep hs (fun k _ x => hk k x), h.p2.keep hs (fun k _ x => hk k x), h.r2⟩
theorem SFar.keep {K : Nat} {w w' : World} {s : Dk.S} {pv : Value} (h : SFar K w s pv) (hs : w.heap.size ≤ w'.heap.size) (hk : ∀ k, K ≤ k → w'.heap[k]? = w.heap[k]?) : SFar K w' s pv := ⟨h.p.keep hs (fun k _ x => hk k x), h.r⟩

set_option linter.unusedSimpArgs false in
set_option maxHeartbeats 8000000 in
set_option maxRecDepth 100000 in
theorem drawDiskDo_far (w : World) (a : Option Addr) (len cap : Nat) (h : Bytes w a len cap) :
    Calls Tryd.prog 13 #[.slice a len cap] w fun e w' => ∃ (D : Dk.D) (v1 uf v2 : Value) (s : Dk.S) (pv : Value), e = .returned (.tuple #[dkV v1 uf D.has v2, stV s.k s.p s.x pv]) ∧ DFar (w.heap.size + 2) w' D v1 uf v2 ∧ SFar (w.heap.size + 2) w' s pv ∧ Below w.heap.size w w' := by
  obtain ⟨b0, k0, k1⟩ := two_boxesD w (.cells #[.slice none 0 0, .slice none 0 0, .bool false, .slice none 0 0] 26) (.cells #[.int .i64 0, .int .i64 0, .int .i64 0, .slice none 0 0] 34)
  have hz0 : ((w.alloc (.cells #[.slice none 0 0, .slice none 0 0, .bool false, .slice none 0 0] 26)).alloc (.cells #[.int .i64 0, .int .i64 0, .int .i64 0, .slice none 0 0] 34)).heap.size = w.heap.size + 2 := by simp
  have CO := hide (open_any _ a len cap (h.later b0))
  have HR := hide (And.intro k0 k1)
  have BW := hide b0
  clear h b0 k0 k1
  go_enter Tryd.func13, Tryd.ntmps13
  go_wp2_with fail
  refine (unhide CO).mono ?_
  generalize World.alloc _ _ = W0 at *
  rintro e w1 ⟨rfl, hr1, b1⟩
  have HR1 := hide ((b1.block _ (heapLt (unhide HR).1)).trans (unhide HR).1)
  have HR2 := hide ((b1.block _ (heapLt (unhide HR).2)).trans (unhide HR).2)
  have B1 := hide ((unhide BW).trans (b1.mono (unhide BW).size))
  have HRD := hide hr1
  have hs1 := hr1.lt
  have hblk : W0.heap.size = w.heap.size + 2 := hz0
  clear b1 hr1 CO HR BW hz0
  generalize W0.heap.size = blk at *
  clear W0
  subst hblk
  go_wp2_with fail
  refine (l71Disk_any _ (w.heap.size + 2) 0 (unhide HRD) (by omega) (by omega)).mono ?_
  rintro e w2 ⟨D, v1, uf, v2, pv, ps, q2, rfl, hout, hP, hrm, hpo, hq2, hr2, hk2⟩
  obtain ⟨db, fl, has, jr⟩ := D
  obtain ⟨f1, g1, i1⟩ := hout.p1.slice
  obtain ⟨af, cf, iff', hcf, hl1000, hrf⟩ := hout.pf
  obtain ⟨f2, g2, i2⟩ := hout.p2.slice
  obtain ⟨pa, pc, ipv⟩ := hP.slice
  dsimp only at i1 iff' i2 hcf hl1000
  subst i1 iff' i2 ipv
  have TD := hide (Dq.of ((Dr.start (unhide HRD) (by omega)).keep hk2 hr2) hout)
  have HP := hide ((hP.later (below1 w2 (.cells #[.slice f1 db.length g1, .slice af fl.length cf, .bool has, .slice f2 jr.length g2] 26))).weak (fun b hb => (by have := hb.1; omega : w.heap.size + 2 < b)))
  have HPR := hide hrm
  clear hout hr2 hk2 hrf hP hrm hpo
  dsimp only [dkV] at *
  have hbd := below_drew (w2.alloc (.cells #[.slice f1 db.length g1, .slice af fl.length cf, .bool has, .slice f2 jr.length g2] 26))
  replace TD := hide ((unhide TD).later hbd)
  replace HP := hide ((unhide HP).later hbd)
  clear hbd
  go_wp2_with fail
  generalize w2.heap.size = X at *
  generalize w2.alloc _ = w3 at *
  refine wp_region_held_drew (S := fun w' => w'.cell? ⟨X, 0, none⟩ = some (.slice f1 db.length g1) ∧ w'.cell? ⟨X, 1, none⟩ = some (.slice af fl.length cf) ∧ w'.cell? ⟨X, 2, none⟩ = some (.bool has) ∧ w'.cell? ⟨X, 3, none⟩ = some (.slice f2 jr.length g2)) (by kernel_rfl) (unhide TD).cells (fun hHeld => ?_)
  refine anyH_at (i := 0) (d := some 14) rfl rfl (by kernel_rfl) (by kernel_rfl) (by kernel_rfl) (fun _ _ _ h => h) (by rfl) (v := ?_) ?_ (by assumption) ?_
  rotate_left
  · (intro w hSw; (try dsimp only at hSw); go_simp <;> with_reducible rfl)
  simp only [Act.put, List.setIfInBounds_toArray, List.set_cons_zero, List.set_cons_succ]
  refine anyH_at (i := 1) (d := some 15) rfl rfl (by kernel_rfl) (by kernel_rfl) (by kernel_rfl) (fun _ _ _ h => h) (by rfl) (v := ?_) ?_ (by assumption) ?_
  rotate_left
  · (intro w hSw; (try dsimp only at hSw); go_simp <;> with_reducible rfl)
  simp only [Act.put, List.setIfInBounds_toArray, List.set_cons_zero, List.set_cons_succ]
  refine anyH_at (i := 2) (d := some 16) rfl rfl (by kernel_rfl) (by kernel_rfl) (by kernel_rfl) (fun _ _ _ h => h) (by rfl) (v := ?_) ?_ (by assumption) ?_
  rotate_left
  · (intro w hSw; (try dsimp only at hSw); go_simp <;> with_reducible rfl)
  simp only [Act.put, List.setIfInBounds_toArray, List.set_cons_zero, List.set_cons_succ]
  refine wpAnyH_ready (rs := [3]) (by kernel_rfl) (by simp) ?_
  refine AllReadyH.cons rfl (fun K hK => ?_) AllReadyH.nil
  go_simp
  refine (l71Step_any _ (w.heap.size + 2) q2 pa pc ps (by exact (unhide TD).dr.rd) (Nat.le_trans (by omega) (unhide TD).dr.size) (by omega)).mono ?_
  rintro e w5 ⟨s, sv, q5, rfl, hsv, hq5, hr5, hk5⟩
  obtain ⟨sk, sp, sx, sps⟩ := s
  dsimp only at hsv
  replace HP := hide ((unhide HP).keep hk5.size (fun k hk1 hN => hk5.block k hk1 (by omega)))
  replace TD := hide ((unhide TD).keep hk5 hr5)
  have hSI : SIn w5 ⟨sk, sp, sx, sps⟩ sv := by
    rcases hsv with ⟨rfl, e⟩ | ⟨rfl, e⟩
    · subst e
      exact ⟨pks_nil _ _ _, fun _ _ _ => Nat.zero_le _⟩
    · subst e
      exact ⟨(unhide HP).weak (fun _ _ => trivial), unhide HPR⟩
  obtain ⟨ta, tc, itv⟩ := hSI.p.slice
  dsimp only at itv
  subst itv
  have hSN : Pks (fun b => w.heap.size + 2 < b) w5 (.slice ta sps.length tc) sps := by
    rcases hsv with ⟨e0, e⟩ | ⟨e0, e⟩
    · subst e
      exact pks_nil _ _ _
    · subst e
      injection e0 with e0 _ e1
      subst e0 e1
      exact unhide HP
  have HSN := hide hSN
  have HSR := hide hSI.r
  clear hsv hSI hSN hr5 hk5 HP HPR
  have hR5 := (unhide TD).old (unhide HR1) (by omega)
  have hT5 := (unhide TD).old (unhide HR2) (by omega)
  obtain ⟨⟨r0, j0⟩, ⟨r1, j1⟩, ⟨r2, j2⟩, r3, j3⟩ : (_ ∧ _) ∧ (_ ∧ _) ∧ (_ ∧ _) ∧ _ ∧ _ := ⟨⟨cellOf hR5 0, frozenOf hR5 0⟩, ⟨cellOf hR5 1, frozenOf hR5 1⟩, ⟨cellOf hR5 2, frozenOf hR5 2⟩, cellOf hR5 3, frozenOf hR5 3⟩
  have hb5 := (unhide TD).below (unhide B1) (by omega)
  have HR5 := hide hR5
  have HT5 := hide hT5
  have HB5 := hide hb5
  clear hR5 hT5 hb5
  dsimp only [stV]
  go_wp2_with fail
  refine hK.out _ _ ?_ (fun hHeldN => ?_)
  · exact (unhide TD).cells
  clear hHeld
  have hHeld := hHeldN
  clear hHeldN
  clear hK K
  try simp only [Act.put, List.setIfInBounds_toArray, List.set_cons_zero, List.set_cons_succ]
  refine wpAnyH_ready (rs := [4]) (by kernel_rfl) (by simp) ?_
  refine AllReadyH.cons rfl (fun K hK => ?_) AllReadyH.nil
  go_simp
  have HF := hide (fin4 (a := .slice f1 db.length g1) (b := .slice af fl.length cf) (c := .bool has) (d := .slice f2 jr.length g2) (W := w) (unhide HR5) (Nat.le_refl _) (unhide HB5) rfl)
  have hsz : Hid (w5.heap.size ≤ ((((w5.setCell ⟨w.heap.size, 0, none⟩ (.slice f1 db.length g1)).setCell ⟨w.heap.size, 1, none⟩ (.slice af fl.length cf)).setCell ⟨w.heap.size, 2, none⟩ (.bool has)).setCell ⟨w.heap.size, 3, none⟩ (.slice f2 jr.length g2)).heap.size) := by show _ ≤ _; simp [World.setCell]
  clear r0 r1 r2 r3 j0 j1 j2 j3
  generalize World.setCell _ _ _ = W6 at *
  obtain ⟨⟨q0, q1, q2', q3⟩, hbel, hfar⟩ := unhide HF
  have hX6 : W6.cell? ⟨X, 0, none⟩ = some (.slice f1 db.length g1) ∧ W6.cell? ⟨X, 1, none⟩ = some (.slice af fl.length cf) ∧ W6.cell? ⟨X, 2, none⟩ = some (.bool has) ∧ W6.cell? ⟨X, 3, none⟩ = some (.slice f2 jr.length g2) := by
    have e : ∀ o, W6.cell? ⟨X, o, none⟩ = w5.cell? ⟨X, o, none⟩ := fun o => World.cell?_of_block (hfar X (by have := (unhide TD).lX; have := heapLt (unhide HR2); omega))
    rw [e, e, e, e]
    exact (unhide TD).cells
  have hT6 := (hfar (w.heap.size + 1) (by omega)).trans (unhide HT5)
  obtain ⟨⟨t0, j0⟩, ⟨t1, j1⟩, ⟨t2, j2⟩, t3, j3⟩ : (_ ∧ _) ∧ (_ ∧ _) ∧ (_ ∧ _) ∧ _ ∧ _ := ⟨⟨cellOf hT6 0, frozenOf hT6 0⟩, ⟨cellOf hT6 1, frozenOf hT6 1⟩, ⟨cellOf hT6 2, frozenOf hT6 2⟩, cellOf hT6 3, frozenOf hT6 3⟩
  have hD6 := (unhide TD).reads hfar (unhide hsz) (by have := heapLt (unhide HR1); omega)
  have hS6 : Pks (fun b => w.heap.size + 2 < b) W6 (.slice ta sps.length tc) sps := (unhide HSN).keep (unhide hsz) (fun k _ hk => hfar k (by omega))
  have HT6 := hide hT6
  have HBL := hide hbel
  have HX6 := hide hX6
  have HQ := hide (And.intro q0 (And.intro q1 (And.intro q2' q3)))
  have HFA := hide hfar
  clear HF hT6 hbel hX6 q0 q1 q2' q3
  refine hK.out _ _ ?_ (fun hHeldN => ?_)
  · exact unhide HX6
  clear hHeld
  have hHeld := hHeldN
  clear hHeldN
  clear hK K
  try simp only [Act.put, List.setIfInBounds_toArray, List.set_cons_zero, List.set_cons_succ]
  refine wpAnyH_ready (rs := [5]) (by kernel_rfl) (by simp) ?_
  refine AllReadyH.cons rfl (fun K hK => ?_) AllReadyH.nil
  go_simp
  have HG := hide (fin4 (a := .int .i64 sk) (b := .int .i64 sp) (c := .int .i64 sx) (d := .slice ta sps.length tc) (W := w) (unhide HT6) (Nat.le_succ _) (unhide HBL) rfl)
  have hsz2 : Hid (W6.heap.size ≤ ((((W6.setCell ⟨w.heap.size + 1, 0, none⟩ (.int .i64 sk)).setCell ⟨w.heap.size + 1, 1, none⟩ (.int .i64 sp)).setCell ⟨w.heap.size + 1, 2, none⟩ (.int .i64 sx)).setCell ⟨w.heap.size + 1, 3, none⟩ (.slice ta sps.length tc)).heap.size) := by show _ ≤ _; simp [World.setCell]
  clear t0 t1 t2 t3 j0 j1 j2 j3
  generalize World.setCell _ _ _ = W7 at *
  obtain ⟨⟨p0, p1, p2, p3⟩, hbel, hfar2⟩ := unhide HG
  have e7 : ∀ o, W7.cell? ⟨w.heap.size, o, none⟩ = W6.cell? ⟨w.heap.size, o, none⟩ := fun o => World.cell?_of_block (hfar2 w.heap.size (by omega))
  have eX : ∀ o, W7.cell? ⟨X, o, none⟩ = W6.cell? ⟨X, o, none⟩ := fun o => World.cell?_of_block (hfar2 X (by have := (unhide TD).lX; have := heapLt (unhide HR2); omega))
  obtain ⟨q0, q1, q2', q3⟩ := unhide HQ
  rw [← e7] at q0 q1 q2' q3
  have hX7 : W7.cell? ⟨X, 0, none⟩ = some (.slice f1 db.length g1) ∧ W7.cell? ⟨X, 1, none⟩ = some (.slice af fl.length cf) ∧ W7.cell? ⟨X, 2, none⟩ = some (.bool has) ∧ W7.cell? ⟨X, 3, none⟩ = some (.slice f2 jr.length g2) := by
    rw [eX, eX, eX, eX]
    exact unhide HX6
  have hD7 : DFar (w.heap.size + 2) W7 ⟨db, fl, has, jr⟩ (.slice f1 db.length g1) (.slice af fl.length cf) (.slice f2 jr.length g2) := by
    have hN := unhide TD
    have hw1 := heapLt (unhide HR1)
    have hw2 := heapLt (unhide HR2)
    have kk : ∀ k, w1.heap.size ≤ k → W7.heap[k]? = w5.heap[k]? := fun k hk => (hfar2 k (by omega)).trans (unhide HFA k (by omega))
    have hs := Nat.le_trans (unhide hsz) (unhide hsz2)
    exact ⟨(hN.p1.keep hs (fun k _ hk => kk k hk.1)).weak (fun b hb => by have := hb.1; omega), hN.r1, (hN.pf.keep hs (fun k _ hk => kk k hk.1)).weak (fun b hb => by have := hb.1; omega), (hN.p2.keep hs (fun k _ hk => kk k hk.1)).weak (fun b hb => by have := hb.1; omega), hN.r2⟩
  have hS7 : SFar (w.heap.size + 2) W7 ⟨sk, sp, sx, sps⟩ (.slice ta sps.length tc) := ⟨(hS6.keep (unhide hsz2) (fun k _ hk => hfar2 k (by omega))).weak (fun b hb => by omega), unhide HSR⟩
  have HD7 := hide hD7
  have HS7 := hide hS7
  have HX7 := hide hX7
  have HBL2 := hide hbel
  clear HG hD6 hS6 HT6 HBL HX6 HQ HFA HSN HSR hfar hfar2 e7 eX hX7 hD7 hS7 hbel hsz hsz2 TD HR5 HT5 HB5
  refine hK.out _ _ ?_ (fun hHeldN => ?_)
  · exact unhide HX7
  clear hHeld
  have hHeld := hHeldN
  clear hHeldN
  clear hK K
  try simp only [Act.put, List.setIfInBounds_toArray, List.set_cons_zero, List.set_cons_succ]
  refine wpAnyH_done (by kernel_rfl) ?_ _
  clear hHeld
  go_wp2
  exact bodyPost_ret (v := .tuple #[.agg #[.slice f1 db.length g1, .slice af fl.length cf, .bool has, .slice f2 jr.length g2], .agg #[.int .i64 sk, .int .i64 sp, .int .i64 sx, .slice ta sps.length tc]]) (by simp [results, Tryd.results13, go_sem, q0, q1, q2', q3, p0, p1, p2, p3]) rfl ⟨⟨db, fl, has, jr⟩, _, _, _, ⟨sk, sp, sx, sps⟩, _, rfl, unhide HD7, unhide HS7, unhide HBL2⟩
theorem drawDiskDo_any (w : World) (a : Option Addr) (len cap : Nat) (h : Bytes w a len cap) :
    Calls Tryd.prog 13 #[.slice a len cap] w fun e w' => ∃ (D : Dk.D) (v1 uf v2 : Value) (s : Dk.S) (pv : Value), e = .returned (.tuple #[dkV v1 uf D.has v2, stV s.k s.p s.x pv]) ∧ DIn w' D v1 uf v2 ∧ SIn w' s pv ∧ Below w.heap.size w w' :=
  (drawDiskDo_far w a len cap h).mono (by
    rintro e w' ⟨D, v1, uf, v2, s, pv, he, hd, hs, b⟩
    exact ⟨D, v1, uf, v2, s, pv, he, hd.din, hs.sin, b⟩)

end Go.Proofs.YtpjpgofllnnemaaDoor
