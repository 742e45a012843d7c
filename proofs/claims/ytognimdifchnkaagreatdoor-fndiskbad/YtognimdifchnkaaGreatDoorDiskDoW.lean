/- impl.DiskDo and impl.DiskTear: the disk behind a step, in rows of its own, and whether. -/
import Derived.Test.YtognimdifchnkaaGreatDoorBehindStepW
namespace Go.Proofs.YtognimdifchnkaaGreatDoor
open Go.RowKit

attribute [local go_sem ↓] Go.wp_at_zero Go.wp_at_succ

/-- The store into the answer's box, and what is answered. -/
theorem endC {w w6 : World} {R B : Nat} {u1 uf u2 : Value} {has yes : Bool} {e1 e2 : List El} {fl : List Int} {db jr : List Ix.Pg} {r0 r1 r2 r3 : Value}
    (hR : w6.heap[R]? = some (.cells #[r0, r1, r2, r3] 26 (0, 0))) (lR : w.heap.size ≤ R) (hb : Below w.heap.size w w6) (hRB : R < B) (hwB : w.heap.size ≤ B)
    (hA : DAns B w6 u1 uf u2 e1 fl e2) (hm1 : e1.map (·.1) = db) (hm2 : e2.map (·.1) = jr) {w' : World}
    (hw : w' = (((w6.setCell ⟨R, 0, none⟩ u1).setCell ⟨R, 1, none⟩ uf).setCell ⟨R, 2, none⟩ (.bool has)).setCell ⟨R, 3, none⟩ u2) :
    (w'.cell? ⟨R, 0, none⟩ = some u1 ∧ w'.cell? ⟨R, 1, none⟩ = some uf ∧ w'.cell? ⟨R, 2, none⟩ = some (.bool has) ∧ w'.cell? ⟨R, 3, none⟩ = some u2) ∧ DkAns w.heap.size w' (⟨db, fl, has, jr⟩, yes) (.tuple #[.agg #[u1, uf, .bool has, u2], .bool yes]) ∧ Below w.heap.size w w' := by
  obtain ⟨hq, hbel, hfar⟩ := fin4 (W := w) hR lR hb hw
  exact ⟨hq, ⟨_, _, _, e1, e2, rfl, DAns.base (B := B) ⟨hA.p1.keep (fun g hg => hfar g (by have := (hA.p1.lt g hg).1; omega)), own_keepS hA.pf (fun g _ e hle _ => hfar g (by omega)), hA.p2.keep (fun g hg => hfar g (by have := (hA.p2.lt g hg).1; omega)), hA.far⟩ hwB, hm1, hm2⟩, hbel⟩

set_option linter.unusedSimpArgs false in
set_option maxHeartbeats 4000000 in
set_option maxRecDepth 100000 in
theorem implDiskDo_any {N M L : Nat → Prop} (w : World) (d : Dk.D) (s : Dk.S) (v1 vf v2 vs : Value) (h1 : Pks N w v1 d.db) (r1 : ∀ a c, v1 = .slice a d.db.length c → d.db.length ≤ c) (hf : Ins w vf d.fl) (h2 : Pks M w v2 d.jr) (r2 : ∀ a c, v2 = .slice a d.jr.length c → d.jr.length ≤ c) (hs : Pks L w vs s.ps) (rs : ∀ a c, vs = .slice a s.ps.length c → s.ps.length ≤ c) :
    Calls Tryz.prog 9 #[dkV v1 vf d.has v2, stV s.k s.p s.x vs] w fun e w' => ∃ u, e = .returned u ∧ DkAns w.heap.size w' (Dk.doA d s) u ∧ Below w.heap.size w w' := by
  have CB := hide (fun (W : World) h1 hf h2 hs => doStep_any (N := N) (M := M) (L := L) W d s v1 vf v2 vs h1 r1 hf h2 r2 hs rs)
  generalize Dk.doA d s = AA at *
  obtain ⟨db, fl, has, jr⟩ := d
  obtain ⟨k, p, x, ps⟩ := s
  dsimp only [dkV, stV] at *
  obtain ⟨a1, c1, e1⟩ := h1.slice
  obtain ⟨af, cf, ef⟩ := hf.slice
  obtain ⟨a2, c2, e2⟩ := h2.slice
  obtain ⟨sa, sc, e3⟩ := hs.slice
  subst e1 ef e2 e3
  obtain ⟨b0, k0, k1, k2, kz⟩ := three_boxesD w (.cells #[.slice a1 db.length c1, .slice af fl.length cf, .bool has, .slice a2 jr.length c2] 26) (.cells #[.int .i64 k, .int .i64 p, .int .i64 x, .slice sa ps.length sc] 28) (.cells #[.slice none 0 0, .slice none 0 0, .bool false, .slice none 0 0] 26)
  have HR := hide k2
  have BW := hide b0
  have H0 := hide (And.intro h1 (And.intro hf (And.intro h2 hs)))
  clear h1 hf h2 hs b0 k0 k1 k2 kz r1 r2 rs
  go_enter Tryz.func9, Tryz.ntmps9
  go_wp2_with fail
  generalize World.alloc _ _ = W0 at *
  refine (unhide CB _ ((unhide H0).1.later (unhide BW)) ((unhide H0).2.1.later (unhide BW)) ((unhide H0).2.2.1.later (unhide BW)) ((unhide H0).2.2.2.later (unhide BW))).mono ?_
  rintro e w6 ⟨u, rfl, ⟨u1, uf, u2, e1, e2, rfl, hA, hm1, hm2⟩, b⟩
  obtain ⟨⟨db', fl', has', jr'⟩, yes⟩ := AA
  obtain ⟨f1, g1, i1⟩ := own_formS hA.p1.own
  obtain ⟨ff, gf, iff'⟩ := own_formS hA.pf
  obtain ⟨f2, g2, i2⟩ := own_formS hA.p2.own
  subst i1 iff' i2
  dsimp only [dkV] at *
  have HL : Hid (w.heap.size + 1 + 1 < W0.heap.size ∧ w.heap.size ≤ W0.heap.size) := ⟨heapLt (unhide HR), (unhide BW).size⟩
  replace HR := hide ((b.block _ (heapLt (unhide HR))).trans (unhide HR))
  replace BW := hide ((unhide BW).trans (b.mono (unhide BW).size))
  have HA := hide hA
  have HM := hide (And.intro hm1 hm2)
  clear b hA hm1 hm2 CB
  obtain ⟨⟨x0, y0⟩, ⟨x1, y1⟩, ⟨x2, y2⟩, x3, y3⟩ : (_ ∧ _) ∧ (_ ∧ _) ∧ (_ ∧ _) ∧ _ ∧ _ := ⟨⟨cellOf (unhide HR) 0, frozenOf (unhide HR) 0⟩, ⟨cellOf (unhide HR) 1, frozenOf (unhide HR) 1⟩, ⟨cellOf (unhide HR) 2, frozenOf (unhide HR) 2⟩, cellOf (unhide HR) 3, frozenOf (unhide HR) 3⟩
  go_wp2
  obtain ⟨⟨q0, q1, q2, q3⟩, hans, hbel⟩ := endC (w := w) (yes := yes) (unhide HR) (by omega) (unhide BW) (unhide HL).1 (unhide HL).2 (unhide HA) (unhide HM).1 (unhide HM).2 rfl
  exact bodyPost_ret (v := .tuple #[.agg #[.slice f1 e1.length g1, .slice ff fl'.length gf, .bool has', .slice f2 e2.length g2], .bool yes]) (by simp [results, Tryz.results9, go_sem, q0, q1, q2, q3]) rfl ⟨_, rfl, hans, hbel⟩

set_option linter.unusedSimpArgs false in
set_option maxHeartbeats 4000000 in
set_option maxRecDepth 100000 in
theorem implDiskTear_any {N M L : Nat → Prop} (w : World) (d : Dk.D) (s : Dk.S) (v1 vf v2 vs : Value) (h1 : Pks N w v1 d.db) (r1 : ∀ a c, v1 = .slice a d.db.length c → d.db.length ≤ c) (hf : Ins w vf d.fl) (h2 : Pks M w v2 d.jr) (r2 : ∀ a c, v2 = .slice a d.jr.length c → d.jr.length ≤ c) (hs : Pks L w vs s.ps) (rs : ∀ a c, vs = .slice a s.ps.length c → s.ps.length ≤ c) :
    Calls Tryz.prog 7 #[dkV v1 vf d.has v2, stV s.k s.p s.x vs] w fun e w' => ∃ u, e = .returned u ∧ DkAns w.heap.size w' (Dk.tearA d s) u ∧ Below w.heap.size w w' := by
  have CB := hide (fun (W : World) h1 hf h2 hs => tearStep_any (N := N) (M := M) (L := L) W d s v1 vf v2 vs h1 r1 hf h2 r2 hs rs)
  generalize Dk.tearA d s = AA at *
  obtain ⟨db, fl, has, jr⟩ := d
  obtain ⟨k, p, x, ps⟩ := s
  dsimp only [dkV, stV] at *
  obtain ⟨a1, c1, e1⟩ := h1.slice
  obtain ⟨af, cf, ef⟩ := hf.slice
  obtain ⟨a2, c2, e2⟩ := h2.slice
  obtain ⟨sa, sc, e3⟩ := hs.slice
  subst e1 ef e2 e3
  obtain ⟨b0, k0, k1, k2, kz⟩ := three_boxesD w (.cells #[.slice a1 db.length c1, .slice af fl.length cf, .bool has, .slice a2 jr.length c2] 26) (.cells #[.int .i64 k, .int .i64 p, .int .i64 x, .slice sa ps.length sc] 28) (.cells #[.slice none 0 0, .slice none 0 0, .bool false, .slice none 0 0] 26)
  have HR := hide k2
  have BW := hide b0
  have H0 := hide (And.intro h1 (And.intro hf (And.intro h2 hs)))
  clear h1 hf h2 hs b0 k0 k1 k2 kz r1 r2 rs
  go_enter Tryz.func7, Tryz.ntmps7
  go_wp2_with fail
  generalize World.alloc _ _ = W0 at *
  refine (unhide CB _ ((unhide H0).1.later (unhide BW)) ((unhide H0).2.1.later (unhide BW)) ((unhide H0).2.2.1.later (unhide BW)) ((unhide H0).2.2.2.later (unhide BW))).mono ?_
  rintro e w6 ⟨u, rfl, ⟨u1, uf, u2, e1, e2, rfl, hA, hm1, hm2⟩, b⟩
  obtain ⟨⟨db', fl', has', jr'⟩, yes⟩ := AA
  obtain ⟨f1, g1, i1⟩ := own_formS hA.p1.own
  obtain ⟨ff, gf, iff'⟩ := own_formS hA.pf
  obtain ⟨f2, g2, i2⟩ := own_formS hA.p2.own
  subst i1 iff' i2
  dsimp only [dkV] at *
  have HL : Hid (w.heap.size + 1 + 1 < W0.heap.size ∧ w.heap.size ≤ W0.heap.size) := ⟨heapLt (unhide HR), (unhide BW).size⟩
  replace HR := hide ((b.block _ (heapLt (unhide HR))).trans (unhide HR))
  replace BW := hide ((unhide BW).trans (b.mono (unhide BW).size))
  have HA := hide hA
  have HM := hide (And.intro hm1 hm2)
  clear b hA hm1 hm2 CB
  obtain ⟨⟨x0, y0⟩, ⟨x1, y1⟩, ⟨x2, y2⟩, x3, y3⟩ : (_ ∧ _) ∧ (_ ∧ _) ∧ (_ ∧ _) ∧ _ ∧ _ := ⟨⟨cellOf (unhide HR) 0, frozenOf (unhide HR) 0⟩, ⟨cellOf (unhide HR) 1, frozenOf (unhide HR) 1⟩, ⟨cellOf (unhide HR) 2, frozenOf (unhide HR) 2⟩, cellOf (unhide HR) 3, frozenOf (unhide HR) 3⟩
  go_wp2
  obtain ⟨⟨q0, q1, q2, q3⟩, hans, hbel⟩ := endC (w := w) (yes := yes) (unhide HR) (by omega) (unhide BW) (unhide HL).1 (unhide HL).2 (unhide HA) (unhide HM).1 (unhide HM).2 rfl
  exact bodyPost_ret (v := .tuple #[.agg #[.slice f1 e1.length g1, .slice ff fl'.length gf, .bool has', .slice f2 e2.length g2], .bool yes]) (by simp [results, Tryz.results7, go_sem, q0, q1, q2, q3]) rfl ⟨_, rfl, hans, hbel⟩

end Go.Proofs.YtognimdifchnkaaGreatDoor
