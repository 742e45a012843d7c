import Derived.Test.YtkhanndmbpemfaaGreatDoorMix25
/- spec.l71Disk: a disk that is drawn, and packages that may be in. -/
namespace Go.Proofs.YtkhanndmbpemfaaGreatDoor
open Go.RowKit

attribute [local go_sem ↓] Go.wp_at_zero Go.wp_at_succ

/-- Drawn packages as data. -/
theorem POx.out {B : Nat} {w : World} {v : Value} {l : List El} (h : POx B w v l) (hl : l.length ≤ 1000) : Pks (fun b => B ≤ b) w v (l.map (·.1)) ∧ RoomV v (l.map (·.1)).length := by
  refine ⟨(POwn.weak h (fun b hb => hb.1)).pks (fun _ hb => hb) (by omega), fun a c e => ?_⟩
  rw [List.length_map] at e ⊢
  rcases h.own.2 with ⟨e2, hn⟩ | ⟨g, cap, cur, e2, _, _, hcp, _⟩
  · rw [e2] at e; injection e with _ _ e; omega
  · rw [e2] at e; injection e with _ _ e; omega
theorem pkgs_draw {B : Nat} (w : World) (blk p : Nat) (h : Rd B w blk p) (hB : B ≤ w.heap.size) (hp : p ≤ 800000000) :
    Calls Tryz.prog 78 #[.pointer (some ⟨blk, 0, none⟩)] w fun e w' => ∃ v ps p', e = .returned v ∧ Pks (fun b => w.heap.size ≤ b) w' v ps ∧ RoomV v ps.length ∧ Ix.pkgsOk ps = true ∧ p' ≤ p + 400 ∧ Rd B w' blk p' ∧ Kp w.heap.size blk w w' :=
  (l71Pkgs_ok w blk p h hB hp).mono (by
    rintro e w' ⟨v, els, p', he, h1, h2, h3, h4, h5, h6⟩
    exact ⟨v, _, p', he, (h1.out (by omega)).1, (h1.out (by omega)).2, h2, h4, h5, h6⟩)
theorem off_draw {B : Nat} (w : World) (blk p : Nat) (h : Rd B w blk p) (hB : B ≤ w.heap.size) (hp : p ≤ 700000000) :
    Calls Tryz.prog 81 #[.pointer (some ⟨blk, 0, none⟩)] w fun e w' => ∃ v ps p', e = .returned v ∧ Pks (fun b => w.heap.size ≤ b) w' v ps ∧ RoomV v ps.length ∧ p' ≤ p + 600 ∧ Rd B w' blk p' ∧ Kp w.heap.size blk w w' :=
  (l71Off_any w blk p h hB hp).mono (by
    rintro e w' ⟨v, els, p', he, h1, h3, h4, h5, h6⟩
    exact ⟨v, _, p', he, (h1.out (by omega)).1, (h1.out (by omega)).2, h4, h5, h6⟩)
theorem plan_draw {B : Nat} (w : World) (blk p : Nat) (sv : Value) (st : List Ix.Pg) (h : Rd B w blk p) (hB : B ≤ w.heap.size) (hp : p ≤ 800000000) (hs : Pks (fun b => blk < b) w sv st) (hst : Ix.pkgsOk st = true) :
    Calls Tryz.prog 80 #[.pointer (some ⟨blk, 0, none⟩), sv] w fun e w' => ∃ v ps p', e = .returned v ∧ Pks (fun b => w.heap.size ≤ b) w' v ps ∧ RoomV v ps.length ∧ Ix.planOk ps = true ∧ p' ≤ p + 4 ∧ Rd B w' blk p' ∧ Kp w.heap.size blk w w' :=
  (l71Plan_any w blk p sv st h hB hp hs (Ix.pkgsOk_pair.1 hst).1).mono (by
    rintro e w' ⟨v, els, p', he, h1, h3, h4, h5, h6⟩
    have hl := Ix.pkgs_len (Ix.planOk_pkgs h3)
    rw [List.length_map] at hl
    exact ⟨v, _, p', he, (h1.out (by omega)).1, (h1.out (by omega)).2, h3, h4, h5, h6⟩)
theorem l22Steps_6 {N : Nat → Prop} (w : World) (a1 af a2 : Option Addr) (n1 c1 cf n2 c2 : Nat) (has : Bool) (fl : List Int) (v : Value) (ps : List Ix.Pg) (hf : Ins w (.slice af 6 cf) fl) (h6 : fl.length = 6) (hp : Pks N w v ps) (hok : Ix.pkgsOk ps = true) :
    Calls Tryz.prog 46 #[.agg #[.slice a1 n1 c1, .slice af 6 cf, .bool has, .slice a2 n2 c2], v] w fun e w' => ∃ sa sc, e = .returned (.slice sa (Dk.steps fl ps).length sc) ∧ Sts (fun b => w.heap.size ≤ b) w' (.slice sa (Dk.steps fl ps).length sc) (Dk.steps fl ps) ∧ Below w.heap.size w w' := by
  have h := l22Steps_any (N := N) w a1 af a2 n1 c1 cf n2 c2 has fl v ps (by rw [h6]; exact hf) h6 hp hok
  rw [h6] at h
  refine h.mono ?_
  rintro e w' ⟨u, els, rfl, hS, hm, b⟩
  have hL := Dk.steps_len fl ps
  have hlen : els.length = (Dk.steps fl ps).length := by rw [← hm, List.length_map]
  have hsts := hS.sts (by omega)
  rw [hm] at hsts
  obtain ⟨ua, uc, hu⟩ := hsts.slice
  subst hu
  exact ⟨_, _, rfl, hsts, b⟩
section
variable {B : Nat} {W w w' : World} {blk p p' X : Nat} {uf v1 v2 : Value} {D : Dk.D}
theorem Ds.uf6 (h : Ds B W blk w p X uf D v1 v2) (hl : D.fl.length = 6) : ∃ g cf, uf = .slice (some ⟨g, 0, none⟩) 6 cf := by
  obtain ⟨g, cf, e, _, _⟩ := (h.own hl).form (by omega)
  rw [hl] at e
  exact ⟨g, cf, e⟩
theorem Ds.sz6 (h : Ds B W blk w p X uf D v1 v2) (hl : D.fl.length = 6) : ∀ b, w.heap.size ≤ b → NX W.heap.size X uf b := fun b hb =>
  ⟨by have := heapLt h.hR; omega, fun e => by have := (h.own hl).lt b e; omega, by have := heapLt h.hX; omega⟩
/-- A file is written. -/
theorem Ds.put {g cf n : Nat} {y : Int} (h : Ds B W blk w p X (.slice (some ⟨g, 0, none⟩) 6 cf) D v1 v2) (hl : D.fl.length = 6) (_hn : n < 6) :
    Ds B W blk (w.setCell ⟨g, n, none⟩ (.int .i64 y)) p X (.slice (some ⟨g, 0, none⟩) 6 cf) { D with fl := D.fl.set n y } v1 v2 := by
  have hO := h.own hl
  have hpt := OwI.put (p := n) (x := y) (by rw [hl]; exact hO : OwI (W.heap.size + 1) w (.slice (some ⟨g, 0, none⟩) D.fl.length cf) D.fl)
  have hgX : X ≠ g := fun e => own_ne hO h.hX (by decide) (by rw [e]; rfl)
  have hgR : W.heap.size ≠ g := fun e => own_ne hO h.hR (by decide) (by rw [e]; rfl)
  have hgB := (own_row hO g rfl).1
  have hl2 : (D.fl.set n y).length = 6 := by rw [List.length_set]; exact hl
  have hown : OwI (W.heap.size + 1) (w.setCell ⟨g, n, none⟩ (.int .i64 y)) (.slice (some ⟨g, 0, none⟩) 6 cf) (D.fl.set n y) := by have := hpt.1; rw [hl] at this; exact this
  refine ⟨h.dr.set (by omega), ?_, ?_, h.lX, h.p1.set (fun b hb e => hb.2.1 (by rw [e]; rfl)), h.r1, ?_, fun _ => hown, h.p2.set (fun b hb e => hb.2.1 (by rw [e]; rfl)), h.r2⟩
  · rw [Below.heap_setCell _ _ _ _ hgX]; exact h.hX
  · rw [Below.heap_setCell _ _ _ _ hgR]; exact h.hR
  · refine InsN.weak (hown.insN (by rw [hl2]; omega) (by rw [hl2]; omega)) (fun b hb => ⟨by have := hb.1; omega, fun e => ?_⟩)
    have e2 : some g = some b := hb.2
    injection e2 with e2
    exact hgX (by rw [e2, e])
theorem Ds.fileAt {g cf n : Nat} (h : Ds B W blk w p X (.slice (some ⟨g, 0, none⟩) 6 cf) D v1 v2) (hl : D.fl.length = 6) (hn : n < 6) : w.cell? ⟨g, n, none⟩ = some (.int .i64 (Ky.nth D.fl n)) ∧ w.frozen? ⟨g, n, none⟩ = false := by
  obtain ⟨_, cc, hcc⟩ := own_row (h.own hl) g rfl
  refine ⟨?_, frozenOf hcc n⟩
  obtain ⟨_, _, e, _, _, hr⟩ := h.pf
  injection e with e1 _ _
  subst e1
  obtain ⟨b', o', e2, _, _, hx⟩ := hr (by omega)
  injection e2 with e2
  injection e2 with e2 e3
  subst e2 e3
  have := hx n (by omega)
  rw [Nat.zero_add] at this
  exact this
theorem InsN.set {N : Nat → Prop} {v u : Value} {l : List Int} {O o : Nat} (h : InsN N w v l) (hN : ∀ b, N b → b ≠ O) : InsN N (w.setCell ⟨O, o, none⟩ u) v l :=
  h.keep (by simp only [World.setCell, Array.size_modify]; exact Nat.le_refl _) (fun k _ hk => Below.heap_setCell _ _ _ _ (hN k hk))
theorem Ds.neX (h : Ds B W blk w p X uf D v1 v2) : W.heap.size ≠ X := by have := h.lX; omega
theorem Ds.setHas (h : Ds B W blk w p X uf D v1 v2) (b : Bool) : Ds B W blk (w.setCell ⟨X, 2, none⟩ (.bool b)) p X uf { D with has := b } v1 v2 :=
  ⟨h.dr.set (Nat.le_of_lt h.lX), heapSet h.hX, (Below.heap_setCell _ _ _ _ h.neX).trans h.hR, h.lX, h.p1.set (fun _ hb => hb.2.2), h.r1, h.pf.set (fun _ hb => hb.2), fun hl => own_set (h.own hl) h.hX (by decide), h.p2.set (fun _ hb => hb.2.2), h.r2⟩
theorem Ds.setDb {v1' : Value} {db' : List Ix.Pg} (h : Ds B W blk w p X uf D v1 v2) (hp : Pks (NX W.heap.size X uf) w v1' db') (hr : RoomV v1' db'.length) : Ds B W blk (w.setCell ⟨X, 0, none⟩ v1') p X uf { D with db := db' } v1' v2 :=
  ⟨h.dr.set (Nat.le_of_lt h.lX), heapSet h.hX, (Below.heap_setCell _ _ _ _ h.neX).trans h.hR, h.lX, hp.set (fun _ hb => hb.2.2), hr, h.pf.set (fun _ hb => hb.2), fun hl => own_set (h.own hl) h.hX (by decide), h.p2.set (fun _ hb => hb.2.2), h.r2⟩
theorem nth_drop1 (l : List Int) (i : Nat) : Ky.nth (l.drop 1) i = Ky.nth l (1 + i) := by
  unfold Ky.nth
  rw [List.getD_eq_getElem?_getD, List.getD_eq_getElem?_getD, List.getElem?_drop]
theorem Ds.setCut {g cf : Nat} (h : Ds B W blk w p X (.slice (some ⟨g, 0, none⟩) 6 cf) D v1 v2) (hl : D.fl.length = 6) : Ds B W blk (w.setCell ⟨X, 1, none⟩ (.slice (some ⟨g, 1, none⟩) 5 (cf - 1))) p X (.slice (some ⟨g, 1, none⟩) 5 (cf - 1)) { D with fl := D.fl.drop 1 } v1 v2 := by
  have h5 : (D.fl.drop 1).length = 5 := by rw [List.length_drop, hl]
  refine ⟨h.dr.set (Nat.le_of_lt h.lX), heapSet h.hX, (Below.heap_setCell _ _ _ _ h.neX).trans h.hR, h.lX, h.p1.set (fun _ hb => hb.2.2), h.r1, InsN.set ?_ (fun _ hb => hb.2), fun hh => ?_, h.p2.set (fun _ hb => hb.2.2), h.r2⟩
  · obtain ⟨a, cap, e, hc, hll, hr⟩ := h.pf
    injection e with e1 e2 e3
    subst e1 e3
    obtain ⟨b, off, ha, hbs, hN, hcc⟩ := hr (by omega)
    injection ha with ha
    injection ha with ha1 ha2
    subst ha1 ha2
    refine ⟨_, _, by show Value.slice _ 5 _ = Value.slice _ (D.fl.drop 1).length _; rw [h5], by show (D.fl.drop 1).length ≤ _; omega, by show (D.fl.drop 1).length ≤ _; omega, fun _ => ⟨g, 1, rfl, hbs, hN, fun i hi => ?_⟩⟩
    have hi' : i < (D.fl.drop 1).length := hi
    show _ = some (Value.int .i64 (Ky.nth (D.fl.drop 1) i))
    rw [nth_drop1]
    have := hcc (1 + i) (by omega)
    rw [Nat.zero_add] at this
    exact this
  · exact absurd (show (D.fl.drop 1).length = 6 from hh) (by omega)
theorem Pks.stays6 {v : Value} {l : List Ix.Pg} {R : Nat} (h : Pks (NX R X uf) w v l) (hs : Stays (fun x => uf.ownBlock = some x) w w') : Pks (NX R X uf) w' v l := h.keep hs.size (fun k hk hN => hs.block k hk hN.2.1)
theorem Pks.setX4 {v u1 u2 u3 u4 : Value} {l : List Ix.Pg} {R : Nat} (h : Pks (NX R X uf) w v l) : Pks (NX R X uf) ((((w.setCell ⟨X, 0, none⟩ u1).setCell ⟨X, 1, none⟩ u4).setCell ⟨X, 2, none⟩ u3).setCell ⟨X, 3, none⟩ u2) v l :=
  (((h.set (fun _ hb => hb.2.2)).set (fun _ hb => hb.2.2)).set (fun _ hb => hb.2.2)).set (fun _ hb => hb.2.2)
theorem Pks.nx {R : Nat} {v : Value} {l : List Ix.Pg} (h : Pks (fun b => W.heap.size ≤ b) w v l) (hN : ∀ b, W.heap.size ≤ b → NX R X uf b) : Pks (NX R X uf) w v l := h.weak hN
end

set_option linter.unusedSimpArgs false in
set_option maxHeartbeats 16000000 in
set_option maxRecDepth 100000 in
theorem l71Disk_any {B : Nat} (w : World) (blk p : Nat) (h : Rd B w blk p) (hB : B ≤ w.heap.size) (hp : p ≤ 600000000) :
    Calls Tryz.prog 45 #[.pointer (some ⟨blk, 0, none⟩)] w fun e w' => ∃ D v1 uf v2 pv ps p', e = .returned (.tuple #[dkV v1 uf D.has v2, pv]) ∧ DOut w.heap.size w' D v1 uf v2 ∧ Pks (fun b => w.heap.size < b ∧ uf.ownBlock ≠ some b) w' pv ps ∧ RoomV pv ps.length ∧ Ix.planOk ps = true ∧ p' ≤ p + 3000 ∧ Rd B w' blk p' ∧ Kp w.heap.size blk w w' := by
  have hlt := h.lt
  have b0 := below1 w (.cells #[.slice none 0 0, .slice none 0 0, .bool false, .slice none 0 0] 31)
  have HR := hide (heap_alloc_new w (.cells #[.slice none 0 0, .slice none 0 0, .bool false, .slice none 0 0] 31))
  have HD := hide ((Dr.start h hB).later b0)
  clear h b0
  go_enter Tryz.func45, Tryz.ntmps45
  go_wp2_with fail
  refine (pkgs_draw _ blk p (unhide HD).rd (Nat.le_trans hB (unhide HD).size) (by omega)).mono ?_
  generalize w.alloc _ = W0 at *
  rintro e w1 ⟨sv, st, p1, rfl, hP, hrm, hok, hp1, hr1, hk1⟩
  obtain ⟨sa, sc, hsv⟩ := hP.slice
  subst hsv
  have hs0 : w.heap.size < W0.heap.size := heapLt (unhide HR)
  replace HR := hide ((unhide HD).box hk1 (Nat.le_refl _) (unhide HR))
  replace HD := hide ((unhide HD).keep hk1 hr1)
  have HST := hide (hP.weak (fun b hb => (by omega : blk < b)))
  have HSO := hide hok
  clear hP hrm hok hr1 hk1 hs0
  go_wp2_with fail
  refine (specDiskNew_own w1).mono ?_
  rintro e w2 ⟨g1, g2, vf, rfl, hO, b⟩
  dsimp only [dkV]
  have hl0 := planFiles_nil2.2
  generalize Ix.planFiles [] = PF at *
  obtain ⟨gf, cf, hvf, hgb, hgl⟩ := hO.form (by omega)
  rw [hl0] at hvf
  subst hvf
  have hs1 : w.heap.size < w1.heap.size := heapLt (unhide HR)
  have hbx := below1 w2 (.cells #[.slice (some ⟨g1, 0, none⟩) 0 0, .slice (some ⟨gf, 0, none⟩) 6 cf, .bool false, .slice (some ⟨g2, 0, none⟩) 0 0] 31)
  have hOx : OwI (w.heap.size + 1) (w2.alloc (.cells #[.slice (some ⟨g1, 0, none⟩) 0 0, .slice (some ⟨gf, 0, none⟩) 6 cf, .bool false, .slice (some ⟨g2, 0, none⟩) 0 0] 31)) (.slice (some ⟨gf, 0, none⟩) 6 cf) PF := own_base' (own_later hO hbx) (by omega)
  have hsX := b.size
  have HI : Hid (Ds B w blk (w2.alloc (.cells #[.slice (some ⟨g1, 0, none⟩) 0 0, .slice (some ⟨gf, 0, none⟩) 6 cf, .bool false, .slice (some ⟨g2, 0, none⟩) 0 0] 31)) p1 w2.heap.size (.slice (some ⟨gf, 0, none⟩) 6 cf) ⟨[], PF, false, []⟩ (.slice (some ⟨g1, 0, none⟩) 0 0) (.slice (some ⟨g2, 0, none⟩) 0 0)) :=
    ⟨((unhide HD).later b).later hbx, heap_alloc_new _ _, ((b.trans (hbx.mono b.size)).block _ (heapLt (unhide HR))).trans (unhide HR), by omega, pks_nil _ _ _, fun _ _ _ => Nat.zero_le _, (hOx.insN (by omega) (by omega)).weak (fun b hb => ⟨by have := hb.1; omega, by have e := Option.some.inj hb.2; have e2 : gf = b := e; omega⟩), fun _ => hOx, pks_nil _ _ _, fun _ _ _ => Nat.zero_le _⟩
  have HL6 : Hid ((⟨[], PF, false, []⟩ : Dk.D).fl.length = 6) := hl0
  replace HST := hide ((unhide HST).later (b.trans (hbx.mono b.size)))
  clear hO b hgb hgl hbx hOx hsX hs1 HR HD hl0
  go_wp2_with fail
  generalize w2.heap.size = X at *
  generalize w2.alloc _ = w3 at *
  have hbd := below_drew w3
  replace HI := hide ((unhide HI).later hbd)
  replace HST := hide ((unhide HST).later hbd)
  clear hbd
  refine wl_region (S := fun w' => w'.cell? ⟨X, 0, none⟩ = some (.slice (some ⟨g1, 0, none⟩) 0 0) ∧ w'.cell? ⟨X, 1, none⟩ = some (.slice (some ⟨gf, 0, none⟩) 6 cf) ∧ w'.cell? ⟨X, 2, none⟩ = some (.bool false) ∧ w'.cell? ⟨X, 3, none⟩ = some (.slice (some ⟨g2, 0, none⟩) 0 0)) (s := 7) (by kernel_rfl) (unhide HI).cells (fun hHeld => ?_)
  refine wl_take (i := 0) (d := some 10) rfl rfl (by kernel_rfl) (by kernel_rfl) (by kernel_rfl) (by kernel_rfl) (by kernel_rfl) (fun _ _ _ h => h) (by rfl) (v := ?_) ?_ (by assumption) ?_
  rotate_left
  · (intro w hSw; (try dsimp only at hSw); go_simp <;> with_reducible rfl)
  simp only [Act.put, List.setIfInBounds_toArray, List.set_cons_zero, List.set_cons_succ]
  refine wl_take (i := 1) (d := some 11) rfl rfl (by kernel_rfl) (by kernel_rfl) (by kernel_rfl) (by kernel_rfl) (by kernel_rfl) (fun _ _ _ h => h) (by rfl) (v := ?_) ?_ (by assumption) ?_
  rotate_left
  · (intro w hSw; (try dsimp only at hSw); go_simp <;> with_reducible rfl)
  simp only [Act.put, List.setIfInBounds_toArray, List.set_cons_zero, List.set_cons_succ]
  refine wl_take (i := 2) (d := some 12) rfl rfl (by kernel_rfl) (by kernel_rfl) (by kernel_rfl) (by kernel_rfl) (by kernel_rfl) (fun _ _ _ h => h) (by rfl) (fun w _ => run_move rfl rfl w) (by assumption) ?_
  simp only [Act.put, List.setIfInBounds_toArray, List.set_cons_zero, List.set_cons_succ, List.getElem_toArray, List.getElem_cons_zero]
  refine wl_take (i := 3) (d := some 13) rfl rfl (by kernel_rfl) (by kernel_rfl) (by kernel_rfl) (by kernel_rfl) (by kernel_rfl) (fun _ _ _ h => h) (by rfl) (fun w _ => run_move rfl rfl w) (by assumption) ?_
  simp only [Act.put, List.setIfInBounds_toArray, List.set_cons_zero, List.set_cons_succ, List.getElem_toArray, List.getElem_cons_zero, List.getElem_cons_succ]
  refine wl_one (i := 4) (by kernel_rfl) rfl (by rfl) (fun K hK => ?_)
  go_simp
  refine (plan_draw _ blk p1 _ st (unhide HI).dr.rd (Nat.le_trans hB (unhide HI).dr.size) (by omega) (unhide HST) (unhide HSO)).mono ?_
  rintro e w4 ⟨pv, ps, p2, rfl, hP, hrm, hpo, hp2, hr2, hk2⟩
  obtain ⟨pa, pc, hpv⟩ := hP.slice
  subst hpv
  replace HI := hide ((unhide HI).keep hk2 hr2)
  have HP := hide hP
  have HPO := hide hpo
  have hH := (unhide HI).cells
  have HU4 : Hid (∀ b, w4.heap.size ≤ b → (Value.slice (some (⟨gf, 0, none⟩ : Addr)) 6 cf).ownBlock ≠ some b) := fun b hb => ((unhide HI).sz6 (unhide HL6) b hb).2.1
  clear hP hrm hpo hr2 hk2 HST HSO
  go_wp2_with fail
  refine hK.out _ _ (fun _ => (by assumption)) ?_
  clear hK K
  try simp only [Act.put, List.setIfInBounds_toArray, List.set_cons_zero, List.set_cons_succ]
  refine wl_one (i := 5) (by kernel_rfl) rfl (by rfl) (fun K hK => ?_)
  go_simp
  refine (l22Steps_6 _ _ (some ⟨gf, 0, none⟩) _ 0 0 cf 0 0 false PF _ ps (unhide HI).pf.ins (unhide HL6) (unhide HP) (Ix.planOk_pkgs (unhide HPO))).mono ?_
  rintro e w5 ⟨ua, uc, rfl, hsts, b⟩
  replace HI := hide ((unhide HI).later b)
  have HST := hide hsts
  have HSP := hide (Dk.steps_can' (fl := PF) (Ix.planOk_pkgs (unhide HPO)))
  have HSL := hide (Dk.steps_len PF ps)
  have HB4 := hide (show w4.heap.size ≤ w5.heap.size from b.size)
  clear hsts b hH
  have hH := (unhide HI).cells
  go_wp2_with fail
  refine hK.out _ _ (fun _ => (by assumption)) ?_
  clear hK K
  try simp only [Act.put, List.setIfInBounds_toArray, List.set_cons_zero, List.set_cons_succ]
  refine wl_one (i := 6) (by kernel_rfl) rfl (by rfl) (fun K hK => ?_)
  go_simp
  refine (l22To_rd (B := w.heap.size + 1) w5 false _ (.slice (some ⟨gf, 0, none⟩) 6 cf) _ [] [] PF _ (Dk.steps PF ps) 20 false ((unhide HI).drd (unhide HL6)) (by have := heapLt (unhide HI).hR; omega) (fun b hb => hb.2.1) ((unhide HI).sz6 (unhide HL6)) ((unhide HST).weak (fun b hb => unhide HU4 b hb)) (by have := (unhide HSL).1; omega) (by rw [unhide HL6]; exact unhide HSP) (by omega) (by omega)).mono ?_
  rintro e w6 ⟨x, rfl, hret, hst6⟩
  have hl6 : (Dk.till ⟨[], PF, false, []⟩ (Dk.steps PF ps) 20 false).fl.length = 6 := by rw [Dk.till_fl]; exact unhide HL6
  generalize Dk.till ⟨[], PF, false, []⟩ (Dk.steps PF ps) 20 false = D2 at *
  obtain ⟨q1, q2, rfl, hans⟩ := hret
  obtain ⟨h1, k1, i1⟩ := hans.p1.slice
  obtain ⟨h2, k2, i2⟩ := hans.p2.slice
  subst i1 i2
  have HS6 := hide (fun w' hw => (unhide HI).store (w' := w') (D' := D2) (unhide HL6) hans hl6 hst6 hw)
  have hX6 := (hst6.block X (heapLt (unhide HI).hX) (own_ne ((unhide HI).own (unhide HL6)) (unhide HI).hX (by decide))).trans (unhide HI).hX
  obtain ⟨⟨z0, j0⟩, ⟨z1, j1⟩, ⟨z2, j2⟩, z3, j3⟩ : (_ ∧ _) ∧ (_ ∧ _) ∧ (_ ∧ _) ∧ _ ∧ _ := ⟨⟨cellOf hX6 0, frozenOf hX6 0⟩, ⟨cellOf hX6 1, frozenOf hX6 1⟩, ⟨cellOf hX6 2, frozenOf hX6 2⟩, cellOf hX6 3, frozenOf hX6 3⟩
  have hS6 : w6.cell? ⟨X, 0, none⟩ = some (.slice (some ⟨g1, 0, none⟩) 0 0) ∧ w6.cell? ⟨X, 1, none⟩ = some (.slice (some ⟨gf, 0, none⟩) 6 cf) ∧ w6.cell? ⟨X, 2, none⟩ = some (.bool false) ∧ w6.cell? ⟨X, 3, none⟩ = some (.slice (some ⟨g2, 0, none⟩) 0 0) := ⟨z0, z1, z2, z3⟩
  clear hX6 hst6 hans hH hHeld
  dsimp only [dkV]
  go_wp2_with fail
  refine hK.out _ _ (fun _ => (by assumption)) ?_
  clear hK K
  try simp only [Act.put, List.setIfInBounds_toArray, List.set_cons_zero, List.set_cons_succ]
  refine wl_one (i := 7) (by kernel_rfl) rfl (by rfl) (fun K hK => ?_)
  go_simp
  have HI7 := hide (unhide HS6 _ rfl)
  clear HI
  have HI := HI7
  clear HI7
  replace HL6 := hide hl6
  generalize World.setCell _ _ _ = W7 at *
  refine hK.out _ _ (fun h => absurd rfl h) ?_
  clear hK K
  refine wl_done (by kernel_rfl) ?_
  clear z0 z1 z2 z3 j0 j1 j2 j3 hS6 HS6 hl6
  obtain ⟨db, fl, has, jr⟩ := D2
  dsimp only at HL6
  generalize h1 = f1 at *
  generalize k1 = g1 at *
  generalize h2 = f2 at *
  generalize k2 = g2 at *

  go_wp2_with fail
  refine (pkgs_draw W7 blk p2 (unhide HI).dr.rd (Nat.le_trans hB (unhide HI).dr.size) (by omega)).mono ?_
  rintro e w8 ⟨sv2, st2, p3, rfl, hP, _, hok, hp3, hr3, hk3⟩
  obtain ⟨sa2, sc2, hsv⟩ := hP.slice
  subst hsv
  have HST := hide (hP.weak (fun b hb => (by have := (unhide HI).dr.lt; have := (unhide HI).dr.size; omega : blk < b)))
  have HSO := hide hok
  replace HI := hide ((unhide HI).keep hk3 hr3)
  clear hP hok hr3 hk3
  go_wp2_with fail
  refine (plan_draw w8 blk p3 _ st2 (unhide HI).dr.rd (Nat.le_trans hB (unhide HI).dr.size) (by omega) (unhide HST) (unhide HSO)).mono ?_
  rintro e w9 ⟨pv, ps, p4, rfl, hP, hrm, hpo, hp4, hr4, hk4⟩
  obtain ⟨pa, pc, hpv⟩ := hP.slice
  subst hpv
  have HP := hide (hP.nx ((unhide HI).sz6 (unhide HL6)))
  have HPR := hide hrm
  have HPO := hide hpo
  replace HI := hide ((unhide HI).keep hk4 hr4)
  clear hP hrm hpo hr4 hk4 HST HSO
  go_wp2_with fail
  refine (pick_any w9 blk p4 3 (unhide HI).dr.rd (by omega) (by omega) (by omega)).mono ?_
  rintro e w10 ⟨v5, rfl, v50, v51, hr5, hk5⟩
  replace HP := hide ((unhide HP).keep hk5.size (fun k hk1 hN => hk5.block k hk1 (by have := hN.1; have := (unhide HI).dr.lt; omega)))
  replace HI := hide ((unhide HI).keep hk5 hr5)
  clear hr5 hk5
  by_cases hgo : 0 < v5
  · have hbd := below_drew w10
    replace HI := hide ((unhide HI).later hbd)
    replace HP := hide ((unhide HP).later hbd)
    clear hbd
    go_wp2_with fail
    refine wl_region (S := fun w' => w'.cell? ⟨X, 0, none⟩ = some (.slice f1 db.length g1) ∧ w'.cell? ⟨X, 1, none⟩ = some (.slice (some ⟨gf, 0, none⟩) 6 cf) ∧ w'.cell? ⟨X, 2, none⟩ = some (.bool has) ∧ w'.cell? ⟨X, 3, none⟩ = some (.slice f2 jr.length g2)) (s := 10) (by kernel_rfl) (unhide HI).cells (fun hHeld => ?_)
    refine wl_take (i := 0) (d := some 24) rfl rfl (by kernel_rfl) (by kernel_rfl) (by kernel_rfl) (by kernel_rfl) (by kernel_rfl) (fun _ _ _ h => h) (by rfl) (v := ?_) ?_ (by assumption) ?_
    rotate_left
    · (intro w hSw; (try dsimp only at hSw); go_simp <;> with_reducible rfl)
    simp only [Act.put, List.setIfInBounds_toArray, List.set_cons_zero, List.set_cons_succ]
    refine wl_take (i := 1) (d := some 25) rfl rfl (by kernel_rfl) (by kernel_rfl) (by kernel_rfl) (by kernel_rfl) (by kernel_rfl) (fun _ _ _ h => h) (by rfl) (v := ?_) ?_ (by assumption) ?_
    rotate_left
    · (intro w hSw; (try dsimp only at hSw); go_simp <;> with_reducible rfl)
    simp only [Act.put, List.setIfInBounds_toArray, List.set_cons_zero, List.set_cons_succ]
    refine wl_take (i := 2) (d := some 26) rfl rfl (by kernel_rfl) (by kernel_rfl) (by kernel_rfl) (by kernel_rfl) (by kernel_rfl) (fun _ _ _ h => h) (by rfl) (fun w _ => run_move rfl rfl w) (by assumption) ?_
    simp only [Act.put, List.setIfInBounds_toArray, List.set_cons_zero, List.set_cons_succ, List.getElem_toArray, List.getElem_cons_zero, List.getElem_cons_succ]
    refine wl_take (i := 4) (d := some 28) rfl rfl (by kernel_rfl) (by kernel_rfl) (by kernel_rfl) (by kernel_rfl) (by kernel_rfl) (fun _ _ _ h => h) (by rfl) (fun w _ => run_move rfl rfl w) (by assumption) ?_
    simp only [Act.put, List.setIfInBounds_toArray, List.set_cons_zero, List.set_cons_succ, List.getElem_toArray, List.getElem_cons_zero]
    refine wl_take (i := 6) (d := some 30) rfl rfl (by kernel_rfl) (by kernel_rfl) (by kernel_rfl) (by kernel_rfl) (by kernel_rfl) (fun _ _ _ h => h) (by rfl) (fun w _ => run_move rfl rfl w) (by assumption) ?_
    simp only [Act.put, List.setIfInBounds_toArray, List.set_cons_zero, List.set_cons_succ, List.getElem_toArray, List.getElem_cons_zero]
    refine wl_one (i := 3) (by kernel_rfl) rfl (by rfl) (fun K hK => ?_)
    go_simp
    refine (l22Steps_6 _ f1 (some ⟨gf, 0, none⟩) f2 db.length g1 cf jr.length g2 has fl _ ps (unhide HI).pf.ins (unhide HL6) (unhide HP) (Ix.planOk_pkgs (unhide HPO))).mono ?_
    rintro e w11 ⟨ua, uc, rfl, hsts, b⟩
    have HU4 : Hid (∀ b, w10.drew.heap.size ≤ b → (Value.slice (some (⟨gf, 0, none⟩ : Addr)) 6 cf).ownBlock ≠ some b ∧ blk < b) := fun b hb => ⟨((unhide HI).sz6 (unhide HL6) b hb).2.1, by have := (unhide HI).dr.lt; have := (unhide HI).dr.size; omega⟩
    have HST := hide (hsts.weak (N' := fun b => (Value.slice (some (⟨gf, 0, none⟩ : Addr)) 6 cf).ownBlock ≠ some b ∧ blk < b) (unhide HU4))
    replace HI := hide ((unhide HI).later b)
    replace HP := hide ((unhide HP).later b)
    have HSP := hide (Dk.steps_can' (fl := fl) (Ix.planOk_pkgs (unhide HPO)))
    have HSL := hide (Dk.steps_len fl ps)
    have hH := (unhide HI).cells
    clear hsts b HU4
    go_wp2_with fail
    refine hK.out _ _ (fun _ => (by assumption)) ?_
    clear hK K
    try simp only [Act.put, List.setIfInBounds_toArray, List.set_cons_zero, List.set_cons_succ]
    refine wl_one (i := 5) (by kernel_rfl) rfl (by rfl) (fun K hK => ?_)
    go_simp
    refine (pick_any _ blk (p4 + 1) 8 (by exact (unhide HI).dr.rd) (by omega) (by omega) (by omega)).mono ?_
    rintro e w12 ⟨v6, rfl, v60, v61, hr6, hk6⟩
    replace HP := hide ((unhide HP).keep hk6.size (fun k hk1 hN => hk6.block k hk1 (by have := hN.1; have := (unhide HI).dr.lt; omega)))
    replace HST := hide ((unhide HST).keep hk6.size (fun k hk1 hN => hk6.block k hk1 (by have := hN.2; omega)))
    replace HI := hide ((unhide HI).keep hk6 hr6)
    clear hr6 hk6 hH
    have hH := (unhide HI).cells
    go_wp2_with fail
    refine hK.out _ _ (fun _ => (by assumption)) ?_
    clear hK K
    try simp only [Act.put, List.setIfInBounds_toArray, List.set_cons_zero, List.set_cons_succ]
    refine wl_one (i := 7) (by kernel_rfl) rfl (by rfl) (fun K hK => ?_)
    go_simp
    refine (pick_any _ blk (p4 + 1 + 1) 2 (by exact (unhide HI).dr.rd) (by omega) (by omega) (by omega)).mono ?_
    rintro e w13 ⟨v7, rfl, v70, v71, hr7, hk7⟩
    replace HP := hide ((unhide HP).keep hk7.size (fun k hk1 hN => hk7.block k hk1 (by have := hN.1; have := (unhide HI).dr.lt; omega)))
    replace HST := hide ((unhide HST).keep hk7.size (fun k hk1 hN => hk7.block k hk1 (by have := hN.2; omega)))
    replace HI := hide ((unhide HI).keep hk7 hr7)
    clear hr7 hk7 hH
    have hH := (unhide HI).cells
    go_wp2_with fail
    refine hK.out _ _ (fun _ => (by assumption)) ?_
    clear hK K
    try simp only [Act.put, List.setIfInBounds_toArray, List.set_cons_zero, List.set_cons_succ]
    refine wl_take (i := 8) (d := some 32) rfl rfl (by kernel_rfl) (by kernel_rfl) (by kernel_rfl) (by kernel_rfl) (by kernel_rfl) (fun _ _ _ h => h) (by rfl) (v := ?_) ?_ (by assumption) ?_
    rotate_left
    · (intro w hSw; (try dsimp only at hSw); go_simp <;> with_reducible rfl)
    simp only [Act.put, List.setIfInBounds_toArray, List.set_cons_zero, List.set_cons_succ]
    refine wl_one (i := 9) (by kernel_rfl) rfl (by rfl) (fun K hK => ?_)
    go_simp
    refine (l22To_rd (B := w.heap.size + 1) w13 has _ (.slice (some ⟨gf, 0, none⟩) 6 cf) _ db jr fl _ (Dk.steps fl ps) v6 (v7 == 0) ((unhide HI).drd (unhide HL6)) (by have := heapLt (unhide HI).hR; omega) (fun b hb => hb.2.1) ((unhide HI).sz6 (unhide HL6)) ((unhide HST).weak (fun b hb => hb.1)) (by have := (unhide HSL).1; omega) (by rw [unhide HL6]; exact unhide HSP) (by omega) (by omega)).mono ?_
    rintro e w6 ⟨x, rfl, hret, hst6⟩
    have hl6 : (Dk.till ⟨db, fl, has, jr⟩ (Dk.steps fl ps) v6 (v7 == 0)).fl.length = 6 := by rw [Dk.till_fl]; exact unhide HL6
    generalize Dk.till ⟨db, fl, has, jr⟩ (Dk.steps fl ps) v6 (v7 == 0) = D2 at *
    obtain ⟨q1, q2, rfl, hans⟩ := hret
    obtain ⟨h1, k1, i1⟩ := hans.p1.slice
    obtain ⟨h2, k2, i2⟩ := hans.p2.slice
    subst i1 i2
    have HS6 := hide (fun w' hw => (unhide HI).store (w' := w') (D' := D2) (unhide HL6) hans hl6 hst6 hw)
    have hX6 := (hst6.block X (heapLt (unhide HI).hX) (own_ne ((unhide HI).own (unhide HL6)) (unhide HI).hX (by decide))).trans (unhide HI).hX
    obtain ⟨⟨z0, j0⟩, ⟨z1, j1⟩, ⟨z2, j2⟩, z3, j3⟩ : (_ ∧ _) ∧ (_ ∧ _) ∧ (_ ∧ _) ∧ _ ∧ _ := ⟨⟨cellOf hX6 0, frozenOf hX6 0⟩, ⟨cellOf hX6 1, frozenOf hX6 1⟩, ⟨cellOf hX6 2, frozenOf hX6 2⟩, cellOf hX6 3, frozenOf hX6 3⟩
    have hS6 : w6.cell? ⟨X, 0, none⟩ = some (.slice f1 db.length g1) ∧ w6.cell? ⟨X, 1, none⟩ = some (.slice (some ⟨gf, 0, none⟩) 6 cf) ∧ w6.cell? ⟨X, 2, none⟩ = some (.bool has) ∧ w6.cell? ⟨X, 3, none⟩ = some (.slice f2 jr.length g2) := ⟨z0, z1, z2, z3⟩
    have HP6 := hide ((unhide HP).stays6 hst6)
    clear hX6 hst6 hans hH hHeld
    dsimp only [dkV]
    go_wp2_with fail
    refine hK.out _ _ (fun _ => (by assumption)) ?_
    clear hK K
    try simp only [Act.put, List.setIfInBounds_toArray, List.set_cons_zero, List.set_cons_succ]
    refine wl_one (i := 10) (by kernel_rfl) rfl (by rfl) (fun K hK => ?_)
    go_simp
    have HI7 := hide (unhide HS6 _ rfl)
    replace HP := hide ((unhide HP6).setX4 (u1 := .slice h1 D2.db.length k1) (u2 := .slice h2 D2.jr.length k2) (u3 := .bool D2.has) (u4 := .slice (some ⟨gf, 0, none⟩) 6 cf))
    clear HP6
    clear HI
    have HI := HI7
    clear HI7
    replace HL6 := hide hl6
    generalize World.setCell _ _ _ = W7 at *
    refine hK.out _ _ (fun h => absurd rfl h) ?_
    clear hK K
    refine wl_done (by kernel_rfl) ?_
    clear z0 z1 z2 z3 j0 j1 j2 j3 hS6 HS6 hl6
    obtain ⟨db, fl, has, jr⟩ := D2
    dsimp only at HL6
    generalize h1 = f1 at *
    generalize k1 = g1 at *
    generalize h2 = f2 at *
    generalize k2 = g2 at *
    go_wp2_with fail
    refine (pick_any _ blk (p4 + 1 + 1 + 1) 24 (by exact (unhide HI).dr.rd) (by omega) (by omega) (by omega)).mono ?_
    rintro e w3 ⟨v3, rfl, v30, v31, hr3, hk3⟩
    replace HP := hide ((unhide HP).keep hk3.size (fun k hk1 hN => hk3.block k hk1 (by have := hN.1; have := (unhide HI).dr.lt; omega)))
    replace HI := hide ((unhide HI).keep hk3 hr3)
    clear hr3 hk3
    by_cases h0 : v3 = 0
    · subst h0
      have hbd := below_drew w3
      replace HI := hide ((unhide HI).later hbd)
      replace HP := hide ((unhide HP).later hbd)
      clear hbd
      obtain ⟨x0, x1, x2, x3⟩ := (unhide HI).cells
      go_wp2_with fail
      refine wp_region_held_drew (S := fun w' => w'.cell? ⟨X, 0, none⟩ = some (.slice f1 db.length g1) ∧ w'.cell? ⟨X, 1, none⟩ = some (.slice (some ⟨gf, 0, none⟩) 6 cf) ∧ w'.cell? ⟨X, 2, none⟩ = some (.bool has) ∧ w'.cell? ⟨X, 3, none⟩ = some (.slice f2 jr.length g2)) (by kernel_rfl) ⟨x0, x1, x2, x3⟩ (fun hHeld => ?_)
      refine anyH_at (i := 0) (d := some 38) rfl rfl (by kernel_rfl) (by kernel_rfl) (by kernel_rfl) (fun _ _ _ h => h) (by rfl) (v := ?_) ?_ (by assumption) ?_
      rotate_left
      · (intro w hSw; (try dsimp only at hSw); go_simp <;> with_reducible rfl)
      simp only [Act.put, List.setIfInBounds_toArray, List.set_cons_zero, List.set_cons_succ]
      refine anyH_at (i := 1) (d := some 39) rfl rfl (by kernel_rfl) (by kernel_rfl) (by kernel_rfl) (fun _ _ _ h => h) (by rfl) (v := ?_) ?_ (by assumption) ?_
      rotate_left
      · (intro w hSw; (try dsimp only at hSw); go_simp <;> with_reducible rfl)
      simp only [Act.put, List.setIfInBounds_toArray, List.set_cons_zero, List.set_cons_succ]
      refine anyH_at (i := 2) (d := some 40) rfl rfl (by kernel_rfl) (by kernel_rfl) (by kernel_rfl) (fun _ _ _ h => h) (by rfl) (v := ?_) ?_ (by assumption) ?_
      rotate_left
      · (intro w hSw; (try dsimp only at hSw); go_simp <;> with_reducible rfl)
      simp only [Act.put, List.setIfInBounds_toArray, List.set_cons_zero, List.set_cons_succ]
      refine anyH_at (i := 3) (d := some 41) rfl rfl (by kernel_rfl) (by kernel_rfl) (by kernel_rfl) (fun _ _ _ h => h) (by rfl) (v := ?_) ?_ (by assumption) ?_
      rotate_left
      · (intro w hSw; (try dsimp only at hSw); go_simp <;> with_reducible rfl)
      simp only [Act.put, List.setIfInBounds_toArray, List.set_cons_zero, List.set_cons_succ]
      refine anyH_at (i := 4) (d := some 42) rfl rfl (by kernel_rfl) (by kernel_rfl) (by kernel_rfl) (fun _ _ _ h => h) (by rfl) (v := ?_) ?_ (by assumption) ?_
      rotate_left
      · (intro w hSw; (try dsimp only at hSw); go_simp <;> with_reducible rfl)
      simp only [Act.put, List.setIfInBounds_toArray, List.set_cons_zero, List.set_cons_succ]
      refine anyH_at (i := 5) (d := some 43) rfl rfl (by kernel_rfl) (by kernel_rfl) (by kernel_rfl) (fun _ _ _ h => h) (by rfl) (v := ?_) ?_ (by assumption) ?_
      rotate_left
      · (intro w hSw; (try dsimp only at hSw); go_simp <;> with_reducible rfl)
      simp only [Act.put, List.setIfInBounds_toArray, List.set_cons_zero, List.set_cons_succ]
      refine anyH_at (i := 8) (d := some 46) rfl rfl (by kernel_rfl) (by kernel_rfl) (by kernel_rfl) (fun _ _ _ h => h) (by rfl) (v := ?_) ?_ (by assumption) ?_
      rotate_left
      · (intro w hSw; (try dsimp only at hSw); go_simp <;> with_reducible rfl)
      simp only [Act.put, List.setIfInBounds_toArray, List.set_cons_zero, List.set_cons_succ]
      clear x0 x1 x2 x3
      refine wpAnyH_ready (rs := [6, 7]) (by kernel_rfl) (by simp) ?_
      refine AllReadyH.cons rfl (fun K hK => ?_) (AllReadyH.cons rfl (fun K hK => ?_) AllReadyH.nil)
      · rw [if_pos (by rfl)]
        go_simp
        refine (pick_any _ blk (p4 + 1 + 1 + 1 + 1) 6 (by exact (unhide HI).dr.rd) (by omega) (by omega) (by omega)).mono ?_
        rintro e w8 ⟨v6, rfl, v60, v61, hr6, hk6⟩
        have HP6 := hide ((unhide HP).keep hk6.size (fun k hk1 hN => hk6.block k hk1 (by have := hN.1; have := (unhide HI).dr.lt; omega)))
        replace HI := hide ((unhide HI).keep hk6 hr6)
        replace HP := HP6
        clear hk6 hr6 HP6
        go_wp2_with fail
        refine hK.out _ _ ?_ (fun hHeldN => ?_)
        · exact (unhide HI).cells
        clear hHeld
        have hHeld := hHeldN
        clear hHeldN
        clear hK K
        try simp only [Act.put, List.setIfInBounds_toArray, List.set_cons_zero, List.set_cons_succ]
        refine wpAnyH_ready (rs := [7, 9]) (by kernel_rfl) (by simp) ?_
        refine AllReadyH.cons rfl (fun K hK => ?_) (AllReadyH.cons rfl (fun K hK => ?_) AllReadyH.nil)
        · rw [if_pos (by rfl)]
          go_simp
          have hba := below1 w8 (.cells #[.int .i64 (-3), .int .i64 0, .int .i64 5, .int .i64 10] 3)
          have HA := hide (heap_alloc_new w8 (.cells #[.int .i64 (-3), .int .i64 0, .int .i64 5, .int .i64 10] 3))
          have HLA : Hid (w.heap.size ≤ w8.heap.size) := (unhide HI).dr.size
          replace HI := hide ((unhide HI).later hba)
          replace HP := hide ((unhide HP).later hba)
          clear hba
          generalize w8.heap.size = AA at *
          generalize World.alloc w8 _ = w8x at *
          refine hK.out _ _ ?_ (fun hHeldN => ?_)
          · exact (unhide HI).cells
          clear hHeld
          have hHeld := hHeldN
          clear hHeldN
          clear hK K
          try simp only [Act.put, List.setIfInBounds_toArray, List.set_cons_zero, List.set_cons_succ]
          refine wpAnyH_ready (rs := [9]) (by kernel_rfl) (by simp) ?_
          refine AllReadyH.cons rfl (fun K hK => ?_) AllReadyH.nil
          go_simp
          refine (pick_any _ blk (p4 + 1 + 1 + 1 + 1 + 1) 4 (by exact (unhide HI).dr.rd) (by omega) (by omega) (by omega)).mono ?_
          rintro e w9 ⟨v4, rfl, v40, v41, hr4, hk4⟩
          have HP4 := hide ((unhide HP).keep hk4.size (fun k hk1 hN => hk4.block k hk1 (by have := hN.1; have := (unhide HI).dr.lt; omega)))
          replace HA := hide ((unhide HI).dr.box hk4 (unhide HLA) (unhide HA))
          replace HI := hide ((unhide HI).keep hk4 hr4)
          replace HP := HP4
          clear hk4 hr4 HP4
          go_wp2_with fail
          refine hK.out _ _ ?_ (fun hHeldN => ?_)
          · exact (unhide HI).cells
          clear hHeld
          have hHeld := hHeldN
          clear hHeldN
          clear hK K
          try simp only [Act.put, List.setIfInBounds_toArray, List.set_cons_zero, List.set_cons_succ]
          obtain ⟨nf, rfl⟩ := Int.eq_ofNat_of_zero_le v60
          have hnf : nf < 6 := by omega
          have hi0 : (0 : Int) ≤ (nf : Int) := Int.natCast_nonneg _
          have hi1 : (nf : Int) < 6 := by omega
          have hc4 : v4 = 0 ∨ v4 = 1 ∨ v4 = 2 ∨ v4 = 3 := by omega
          obtain ⟨a0, a1, a2, a3⟩ : _ ∧ _ ∧ _ ∧ _ := ⟨cellOf (unhide HA) 0, cellOf (unhide HA) 1, cellOf (unhide HA) 2, cellOf (unhide HA) 3⟩
          obtain ⟨hq0, hq1⟩ := (unhide HI).fileAt (unhide HL6) hnf
          rcases hc4 with rfl | rfl | rfl | rfl
          · skip
            refine anyH_at (i := 10) (d := some 48) rfl rfl (by kernel_rfl) (by kernel_rfl) (by kernel_rfl) (fun _ _ _ h => h) (by rfl) (v := ?_) ?_ (by assumption) ?_
            rotate_left
            · (intro w hSw; (try dsimp only at hSw); go_simp <;> with_reducible rfl)
            simp only [Act.put, List.setIfInBounds_toArray, List.set_cons_zero, List.set_cons_succ]
            refine wpAnyH_ready (rs := [11]) (by kernel_rfl) (by simp) ?_
            refine AllReadyH.cons rfl (fun K hK => ?_) AllReadyH.nil
            go_simp
            refine hK.out _ _ ?_ (fun hHeldN => ?_)
            · exact (unhide HI).cells
            clear hHeld
            have hHeld := hHeldN
            clear hHeldN
            clear hK K
            try simp only [Act.put, List.setIfInBounds_toArray, List.set_cons_zero, List.set_cons_succ]
            refine anyH_at (i := 12) (d := some 50) rfl rfl (by kernel_rfl) (by kernel_rfl) (by kernel_rfl) (fun _ _ _ h => h) (by rfl) (v := ?_) ?_ (by assumption) ?_
            rotate_left
            · (intro w hSw; (try dsimp only at hSw); go_simp <;> with_reducible rfl)
            simp only [Act.put, List.setIfInBounds_toArray, List.set_cons_zero, List.set_cons_succ]
            refine wpAnyH_ready (rs := [13]) (by kernel_rfl) (by simp) ?_
            refine AllReadyH.cons rfl (fun K hK => ?_) AllReadyH.nil
            go_simp
            have HI9 := hide ((unhide HI).put (n := nf) (y := (-3)) (unhide HL6) hnf)
            have HP9 := hide ((unhide HP).set (O := gf) (o := nf) (u := .int .i64 ((-3))) (fun b hb e => hb.2.1 (by rw [e]; rfl)))
            clear HI HP
            have HI := HI9
            have HP := HP9
            clear HI9 HP9 hq0 hq1 a0 a1 a2 a3 HA
            generalize World.setCell _ _ _ = W9 at *
            refine hK.out _ _ ?_ (fun hHeldN => ?_)
            · exact (unhide HI).cells
            clear hHeld
            have hHeld := hHeldN
            clear hHeldN
            clear hK K
            try simp only [Act.put, List.setIfInBounds_toArray, List.set_cons_zero, List.set_cons_succ]
            refine wpAnyH_done (by kernel_rfl) ?_ _
            clear hHeld
            obtain ⟨x0, x1, x2, x3⟩ := (unhide HI).cells
            obtain ⟨⟨r0, r1, r2, r3⟩, y0, y1, y2, y3⟩ := (unhide HI).cellsR
            go_wp2
            obtain ⟨⟨q0, q1, q2, q3⟩, hd, hrd, hkp, hfar, hs⟩ := (unhide HI).fin rfl
            exact bodyPost_ret (v := .tuple #[.agg #[.slice f1 db.length g1, .slice (some ⟨gf, 0, none⟩) 6 cf, .bool has, .slice f2 jr.length g2], .slice pa ps.length pc]) (by simp [results, Tryz.results45, go_sem, q0, q1, q2, q3]) rfl (by first | exact ⟨⟨db, fl.set nf (-3), has, jr⟩, _, _, _, _, rfl, hd, ps, ((unhide HP).keep hs (fun k _ hk => hfar k (by have := hk.1; omega))).weak (fun b hb => ⟨hb.1, hb.2.1⟩), unhide HPR, unhide HPO, p4 + 1 + 1 + 1 + 1 + 1 + 1, by omega, hrd, hkp⟩ | exact ⟨⟨db, fl.set nf (-3), has, jr⟩, _, _, _, _, ps, p4 + 1 + 1 + 1 + 1 + 1 + 1, rfl, hd, ((unhide HP).keep hs (fun k _ hk => hfar k (by have := hk.1; omega))).weak (fun b hb => ⟨hb.1, hb.2.1⟩), unhide HPR, unhide HPO, by omega, hrd, hkp⟩)
          · skip
            refine anyH_at (i := 10) (d := some 48) rfl rfl (by kernel_rfl) (by kernel_rfl) (by kernel_rfl) (fun _ _ _ h => h) (by rfl) (v := ?_) ?_ (by assumption) ?_
            rotate_left
            · (intro w hSw; (try dsimp only at hSw); go_simp <;> with_reducible rfl)
            simp only [Act.put, List.setIfInBounds_toArray, List.set_cons_zero, List.set_cons_succ]
            refine wpAnyH_ready (rs := [11]) (by kernel_rfl) (by simp) ?_
            refine AllReadyH.cons rfl (fun K hK => ?_) AllReadyH.nil
            go_simp
            refine hK.out _ _ ?_ (fun hHeldN => ?_)
            · exact (unhide HI).cells
            clear hHeld
            have hHeld := hHeldN
            clear hHeldN
            clear hK K
            try simp only [Act.put, List.setIfInBounds_toArray, List.set_cons_zero, List.set_cons_succ]
            refine anyH_at (i := 12) (d := some 50) rfl rfl (by kernel_rfl) (by kernel_rfl) (by kernel_rfl) (fun _ _ _ h => h) (by rfl) (v := ?_) ?_ (by assumption) ?_
            rotate_left
            · (intro w hSw; (try dsimp only at hSw); go_simp <;> with_reducible rfl)
            simp only [Act.put, List.setIfInBounds_toArray, List.set_cons_zero, List.set_cons_succ]
            refine wpAnyH_ready (rs := [13]) (by kernel_rfl) (by simp) ?_
            refine AllReadyH.cons rfl (fun K hK => ?_) AllReadyH.nil
            go_simp
            have HI9 := hide ((unhide HI).put (n := nf) (y := 0) (unhide HL6) hnf)
            have HP9 := hide ((unhide HP).set (O := gf) (o := nf) (u := .int .i64 (0)) (fun b hb e => hb.2.1 (by rw [e]; rfl)))
            clear HI HP
            have HI := HI9
            have HP := HP9
            clear HI9 HP9 hq0 hq1 a0 a1 a2 a3 HA
            generalize World.setCell _ _ _ = W9 at *
            refine hK.out _ _ ?_ (fun hHeldN => ?_)
            · exact (unhide HI).cells
            clear hHeld
            have hHeld := hHeldN
            clear hHeldN
            clear hK K
            try simp only [Act.put, List.setIfInBounds_toArray, List.set_cons_zero, List.set_cons_succ]
            refine wpAnyH_done (by kernel_rfl) ?_ _
            clear hHeld
            obtain ⟨x0, x1, x2, x3⟩ := (unhide HI).cells
            obtain ⟨⟨r0, r1, r2, r3⟩, y0, y1, y2, y3⟩ := (unhide HI).cellsR
            go_wp2
            obtain ⟨⟨q0, q1, q2, q3⟩, hd, hrd, hkp, hfar, hs⟩ := (unhide HI).fin rfl
            exact bodyPost_ret (v := .tuple #[.agg #[.slice f1 db.length g1, .slice (some ⟨gf, 0, none⟩) 6 cf, .bool has, .slice f2 jr.length g2], .slice pa ps.length pc]) (by simp [results, Tryz.results45, go_sem, q0, q1, q2, q3]) rfl (by first | exact ⟨⟨db, fl.set nf (0), has, jr⟩, _, _, _, _, rfl, hd, ps, ((unhide HP).keep hs (fun k _ hk => hfar k (by have := hk.1; omega))).weak (fun b hb => ⟨hb.1, hb.2.1⟩), unhide HPR, unhide HPO, p4 + 1 + 1 + 1 + 1 + 1 + 1, by omega, hrd, hkp⟩ | exact ⟨⟨db, fl.set nf (0), has, jr⟩, _, _, _, _, ps, p4 + 1 + 1 + 1 + 1 + 1 + 1, rfl, hd, ((unhide HP).keep hs (fun k _ hk => hfar k (by have := hk.1; omega))).weak (fun b hb => ⟨hb.1, hb.2.1⟩), unhide HPR, unhide HPO, by omega, hrd, hkp⟩)
          · skip
            refine anyH_at (i := 10) (d := some 48) rfl rfl (by kernel_rfl) (by kernel_rfl) (by kernel_rfl) (fun _ _ _ h => h) (by rfl) (v := ?_) ?_ (by assumption) ?_
            rotate_left
            · (intro w hSw; (try dsimp only at hSw); go_simp <;> with_reducible rfl)
            simp only [Act.put, List.setIfInBounds_toArray, List.set_cons_zero, List.set_cons_succ]
            refine wpAnyH_ready (rs := [11]) (by kernel_rfl) (by simp) ?_
            refine AllReadyH.cons rfl (fun K hK => ?_) AllReadyH.nil
            go_simp
            refine hK.out _ _ ?_ (fun hHeldN => ?_)
            · exact (unhide HI).cells
            clear hHeld
            have hHeld := hHeldN
            clear hHeldN
            clear hK K
            try simp only [Act.put, List.setIfInBounds_toArray, List.set_cons_zero, List.set_cons_succ]
            refine anyH_at (i := 12) (d := some 50) rfl rfl (by kernel_rfl) (by kernel_rfl) (by kernel_rfl) (fun _ _ _ h => h) (by rfl) (v := ?_) ?_ (by assumption) ?_
            rotate_left
            · (intro w hSw; (try dsimp only at hSw); go_simp <;> with_reducible rfl)
            simp only [Act.put, List.setIfInBounds_toArray, List.set_cons_zero, List.set_cons_succ]
            refine wpAnyH_ready (rs := [13]) (by kernel_rfl) (by simp) ?_
            refine AllReadyH.cons rfl (fun K hK => ?_) AllReadyH.nil
            go_simp
            have HI9 := hide ((unhide HI).put (n := nf) (y := 5) (unhide HL6) hnf)
            have HP9 := hide ((unhide HP).set (O := gf) (o := nf) (u := .int .i64 (5)) (fun b hb e => hb.2.1 (by rw [e]; rfl)))
            clear HI HP
            have HI := HI9
            have HP := HP9
            clear HI9 HP9 hq0 hq1 a0 a1 a2 a3 HA
            generalize World.setCell _ _ _ = W9 at *
            refine hK.out _ _ ?_ (fun hHeldN => ?_)
            · exact (unhide HI).cells
            clear hHeld
            have hHeld := hHeldN
            clear hHeldN
            clear hK K
            try simp only [Act.put, List.setIfInBounds_toArray, List.set_cons_zero, List.set_cons_succ]
            refine wpAnyH_done (by kernel_rfl) ?_ _
            clear hHeld
            obtain ⟨x0, x1, x2, x3⟩ := (unhide HI).cells
            obtain ⟨⟨r0, r1, r2, r3⟩, y0, y1, y2, y3⟩ := (unhide HI).cellsR
            go_wp2
            obtain ⟨⟨q0, q1, q2, q3⟩, hd, hrd, hkp, hfar, hs⟩ := (unhide HI).fin rfl
            exact bodyPost_ret (v := .tuple #[.agg #[.slice f1 db.length g1, .slice (some ⟨gf, 0, none⟩) 6 cf, .bool has, .slice f2 jr.length g2], .slice pa ps.length pc]) (by simp [results, Tryz.results45, go_sem, q0, q1, q2, q3]) rfl (by first | exact ⟨⟨db, fl.set nf (5), has, jr⟩, _, _, _, _, rfl, hd, ps, ((unhide HP).keep hs (fun k _ hk => hfar k (by have := hk.1; omega))).weak (fun b hb => ⟨hb.1, hb.2.1⟩), unhide HPR, unhide HPO, p4 + 1 + 1 + 1 + 1 + 1 + 1, by omega, hrd, hkp⟩ | exact ⟨⟨db, fl.set nf (5), has, jr⟩, _, _, _, _, ps, p4 + 1 + 1 + 1 + 1 + 1 + 1, rfl, hd, ((unhide HP).keep hs (fun k _ hk => hfar k (by have := hk.1; omega))).weak (fun b hb => ⟨hb.1, hb.2.1⟩), unhide HPR, unhide HPO, by omega, hrd, hkp⟩)
          · skip
            refine anyH_at (i := 10) (d := some 48) rfl rfl (by kernel_rfl) (by kernel_rfl) (by kernel_rfl) (fun _ _ _ h => h) (by rfl) (v := ?_) ?_ (by assumption) ?_
            rotate_left
            · (intro w hSw; (try dsimp only at hSw); go_simp <;> with_reducible rfl)
            simp only [Act.put, List.setIfInBounds_toArray, List.set_cons_zero, List.set_cons_succ]
            refine wpAnyH_ready (rs := [11]) (by kernel_rfl) (by simp) ?_
            refine AllReadyH.cons rfl (fun K hK => ?_) AllReadyH.nil
            go_simp
            refine hK.out _ _ ?_ (fun hHeldN => ?_)
            · exact (unhide HI).cells
            clear hHeld
            have hHeld := hHeldN
            clear hHeldN
            clear hK K
            try simp only [Act.put, List.setIfInBounds_toArray, List.set_cons_zero, List.set_cons_succ]
            refine anyH_at (i := 12) (d := some 50) rfl rfl (by kernel_rfl) (by kernel_rfl) (by kernel_rfl) (fun _ _ _ h => h) (by rfl) (v := ?_) ?_ (by assumption) ?_
            rotate_left
            · (intro w hSw; (try dsimp only at hSw); go_simp <;> with_reducible rfl)
            simp only [Act.put, List.setIfInBounds_toArray, List.set_cons_zero, List.set_cons_succ]
            refine wpAnyH_ready (rs := [13]) (by kernel_rfl) (by simp) ?_
            refine AllReadyH.cons rfl (fun K hK => ?_) AllReadyH.nil
            go_simp
            have HI9 := hide ((unhide HI).put (n := nf) (y := 10) (unhide HL6) hnf)
            have HP9 := hide ((unhide HP).set (O := gf) (o := nf) (u := .int .i64 (10)) (fun b hb e => hb.2.1 (by rw [e]; rfl)))
            clear HI HP
            have HI := HI9
            have HP := HP9
            clear HI9 HP9 hq0 hq1 a0 a1 a2 a3 HA
            generalize World.setCell _ _ _ = W9 at *
            refine hK.out _ _ ?_ (fun hHeldN => ?_)
            · exact (unhide HI).cells
            clear hHeld
            have hHeld := hHeldN
            clear hHeldN
            clear hK K
            try simp only [Act.put, List.setIfInBounds_toArray, List.set_cons_zero, List.set_cons_succ]
            refine wpAnyH_done (by kernel_rfl) ?_ _
            clear hHeld
            obtain ⟨x0, x1, x2, x3⟩ := (unhide HI).cells
            obtain ⟨⟨r0, r1, r2, r3⟩, y0, y1, y2, y3⟩ := (unhide HI).cellsR
            go_wp2
            obtain ⟨⟨q0, q1, q2, q3⟩, hd, hrd, hkp, hfar, hs⟩ := (unhide HI).fin rfl
            exact bodyPost_ret (v := .tuple #[.agg #[.slice f1 db.length g1, .slice (some ⟨gf, 0, none⟩) 6 cf, .bool has, .slice f2 jr.length g2], .slice pa ps.length pc]) (by simp [results, Tryz.results45, go_sem, q0, q1, q2, q3]) rfl (by first | exact ⟨⟨db, fl.set nf (10), has, jr⟩, _, _, _, _, rfl, hd, ps, ((unhide HP).keep hs (fun k _ hk => hfar k (by have := hk.1; omega))).weak (fun b hb => ⟨hb.1, hb.2.1⟩), unhide HPR, unhide HPO, p4 + 1 + 1 + 1 + 1 + 1 + 1, by omega, hrd, hkp⟩ | exact ⟨⟨db, fl.set nf (10), has, jr⟩, _, _, _, _, ps, p4 + 1 + 1 + 1 + 1 + 1 + 1, rfl, hd, ((unhide HP).keep hs (fun k _ hk => hfar k (by have := hk.1; omega))).weak (fun b hb => ⟨hb.1, hb.2.1⟩), unhide HPR, unhide HPO, by omega, hrd, hkp⟩)
        · rw [if_pos (by rfl)]
          go_simp
          refine (pick_any _ blk (p4 + 1 + 1 + 1 + 1 + 1) 4 (by exact (unhide HI).dr.rd) (by omega) (by omega) (by omega)).mono ?_
          rintro e w9 ⟨v4, rfl, v40, v41, hr4, hk4⟩
          have HP4 := hide ((unhide HP).keep hk4.size (fun k hk1 hN => hk4.block k hk1 (by have := hN.1; have := (unhide HI).dr.lt; omega)))
          replace HI := hide ((unhide HI).keep hk4 hr4)
          replace HP := HP4
          clear hk4 hr4 HP4
          go_wp2_with fail
          refine hK.out _ _ ?_ (fun hHeldN => ?_)
          · exact (unhide HI).cells
          clear hHeld
          have hHeld := hHeldN
          clear hHeldN
          clear hK K
          try simp only [Act.put, List.setIfInBounds_toArray, List.set_cons_zero, List.set_cons_succ]
          refine wpAnyH_ready (rs := [7]) (by kernel_rfl) (by simp) ?_
          refine AllReadyH.cons rfl (fun K hK => ?_) AllReadyH.nil
          go_simp
          have hba := below1 w9 (.cells #[.int .i64 (-3), .int .i64 0, .int .i64 5, .int .i64 10] 3)
          have HA := hide (heap_alloc_new w9 (.cells #[.int .i64 (-3), .int .i64 0, .int .i64 5, .int .i64 10] 3))
          have HLA : Hid (w.heap.size ≤ w9.heap.size) := (unhide HI).dr.size
          replace HI := hide ((unhide HI).later hba)
          replace HP := hide ((unhide HP).later hba)
          clear hba
          generalize w9.heap.size = AA at *
          generalize World.alloc w9 _ = wA at *
          refine hK.out _ _ ?_ (fun hHeldN => ?_)
          · exact (unhide HI).cells
          clear hHeld
          have hHeld := hHeldN
          clear hHeldN
          clear hK K
          try simp only [Act.put, List.setIfInBounds_toArray, List.set_cons_zero, List.set_cons_succ]
          obtain ⟨nf, rfl⟩ := Int.eq_ofNat_of_zero_le v60
          have hnf : nf < 6 := by omega
          have hi0 : (0 : Int) ≤ (nf : Int) := Int.natCast_nonneg _
          have hi1 : (nf : Int) < 6 := by omega
          have hc4 : v4 = 0 ∨ v4 = 1 ∨ v4 = 2 ∨ v4 = 3 := by omega
          obtain ⟨a0, a1, a2, a3⟩ : _ ∧ _ ∧ _ ∧ _ := ⟨cellOf (unhide HA) 0, cellOf (unhide HA) 1, cellOf (unhide HA) 2, cellOf (unhide HA) 3⟩
          obtain ⟨hq0, hq1⟩ := (unhide HI).fileAt (unhide HL6) hnf
          rcases hc4 with rfl | rfl | rfl | rfl
          · skip
            refine anyH_at (i := 10) (d := some 48) rfl rfl (by kernel_rfl) (by kernel_rfl) (by kernel_rfl) (fun _ _ _ h => h) (by rfl) (v := ?_) ?_ (by assumption) ?_
            rotate_left
            · (intro w hSw; (try dsimp only at hSw); go_simp <;> with_reducible rfl)
            simp only [Act.put, List.setIfInBounds_toArray, List.set_cons_zero, List.set_cons_succ]
            refine wpAnyH_ready (rs := [11]) (by kernel_rfl) (by simp) ?_
            refine AllReadyH.cons rfl (fun K hK => ?_) AllReadyH.nil
            go_simp
            refine hK.out _ _ ?_ (fun hHeldN => ?_)
            · exact (unhide HI).cells
            clear hHeld
            have hHeld := hHeldN
            clear hHeldN
            clear hK K
            try simp only [Act.put, List.setIfInBounds_toArray, List.set_cons_zero, List.set_cons_succ]
            refine anyH_at (i := 12) (d := some 50) rfl rfl (by kernel_rfl) (by kernel_rfl) (by kernel_rfl) (fun _ _ _ h => h) (by rfl) (v := ?_) ?_ (by assumption) ?_
            rotate_left
            · (intro w hSw; (try dsimp only at hSw); go_simp <;> with_reducible rfl)
            simp only [Act.put, List.setIfInBounds_toArray, List.set_cons_zero, List.set_cons_succ]
            refine wpAnyH_ready (rs := [13]) (by kernel_rfl) (by simp) ?_
            refine AllReadyH.cons rfl (fun K hK => ?_) AllReadyH.nil
            go_simp
            have HI9 := hide ((unhide HI).put (n := nf) (y := (-3)) (unhide HL6) hnf)
            have HP9 := hide ((unhide HP).set (O := gf) (o := nf) (u := .int .i64 ((-3))) (fun b hb e => hb.2.1 (by rw [e]; rfl)))
            clear HI HP
            have HI := HI9
            have HP := HP9
            clear HI9 HP9 hq0 hq1 a0 a1 a2 a3 HA
            generalize World.setCell _ _ _ = W9 at *
            refine hK.out _ _ ?_ (fun hHeldN => ?_)
            · exact (unhide HI).cells
            clear hHeld
            have hHeld := hHeldN
            clear hHeldN
            clear hK K
            try simp only [Act.put, List.setIfInBounds_toArray, List.set_cons_zero, List.set_cons_succ]
            refine wpAnyH_done (by kernel_rfl) ?_ _
            clear hHeld
            obtain ⟨x0, x1, x2, x3⟩ := (unhide HI).cells
            obtain ⟨⟨r0, r1, r2, r3⟩, y0, y1, y2, y3⟩ := (unhide HI).cellsR
            go_wp2
            obtain ⟨⟨q0, q1, q2, q3⟩, hd, hrd, hkp, hfar, hs⟩ := (unhide HI).fin rfl
            exact bodyPost_ret (v := .tuple #[.agg #[.slice f1 db.length g1, .slice (some ⟨gf, 0, none⟩) 6 cf, .bool has, .slice f2 jr.length g2], .slice pa ps.length pc]) (by simp [results, Tryz.results45, go_sem, q0, q1, q2, q3]) rfl (by first | exact ⟨⟨db, fl.set nf (-3), has, jr⟩, _, _, _, _, rfl, hd, ps, ((unhide HP).keep hs (fun k _ hk => hfar k (by have := hk.1; omega))).weak (fun b hb => ⟨hb.1, hb.2.1⟩), unhide HPR, unhide HPO, p4 + 1 + 1 + 1 + 1 + 1 + 1, by omega, hrd, hkp⟩ | exact ⟨⟨db, fl.set nf (-3), has, jr⟩, _, _, _, _, ps, p4 + 1 + 1 + 1 + 1 + 1 + 1, rfl, hd, ((unhide HP).keep hs (fun k _ hk => hfar k (by have := hk.1; omega))).weak (fun b hb => ⟨hb.1, hb.2.1⟩), unhide HPR, unhide HPO, by omega, hrd, hkp⟩)
          · skip
            refine anyH_at (i := 10) (d := some 48) rfl rfl (by kernel_rfl) (by kernel_rfl) (by kernel_rfl) (fun _ _ _ h => h) (by rfl) (v := ?_) ?_ (by assumption) ?_
            rotate_left
            · (intro w hSw; (try dsimp only at hSw); go_simp <;> with_reducible rfl)
            simp only [Act.put, List.setIfInBounds_toArray, List.set_cons_zero, List.set_cons_succ]
            refine wpAnyH_ready (rs := [11]) (by kernel_rfl) (by simp) ?_
            refine AllReadyH.cons rfl (fun K hK => ?_) AllReadyH.nil
            go_simp
            refine hK.out _ _ ?_ (fun hHeldN => ?_)
            · exact (unhide HI).cells
            clear hHeld
            have hHeld := hHeldN
            clear hHeldN
            clear hK K
            try simp only [Act.put, List.setIfInBounds_toArray, List.set_cons_zero, List.set_cons_succ]
            refine anyH_at (i := 12) (d := some 50) rfl rfl (by kernel_rfl) (by kernel_rfl) (by kernel_rfl) (fun _ _ _ h => h) (by rfl) (v := ?_) ?_ (by assumption) ?_
            rotate_left
            · (intro w hSw; (try dsimp only at hSw); go_simp <;> with_reducible rfl)
            simp only [Act.put, List.setIfInBounds_toArray, List.set_cons_zero, List.set_cons_succ]
            refine wpAnyH_ready (rs := [13]) (by kernel_rfl) (by simp) ?_
            refine AllReadyH.cons rfl (fun K hK => ?_) AllReadyH.nil
            go_simp
            have HI9 := hide ((unhide HI).put (n := nf) (y := 0) (unhide HL6) hnf)
            have HP9 := hide ((unhide HP).set (O := gf) (o := nf) (u := .int .i64 (0)) (fun b hb e => hb.2.1 (by rw [e]; rfl)))
            clear HI HP
            have HI := HI9
            have HP := HP9
            clear HI9 HP9 hq0 hq1 a0 a1 a2 a3 HA
            generalize World.setCell _ _ _ = W9 at *
            refine hK.out _ _ ?_ (fun hHeldN => ?_)
            · exact (unhide HI).cells
            clear hHeld
            have hHeld := hHeldN
            clear hHeldN
            clear hK K
            try simp only [Act.put, List.setIfInBounds_toArray, List.set_cons_zero, List.set_cons_succ]
            refine wpAnyH_done (by kernel_rfl) ?_ _
            clear hHeld
            obtain ⟨x0, x1, x2, x3⟩ := (unhide HI).cells
            obtain ⟨⟨r0, r1, r2, r3⟩, y0, y1, y2, y3⟩ := (unhide HI).cellsR
            go_wp2
            obtain ⟨⟨q0, q1, q2, q3⟩, hd, hrd, hkp, hfar, hs⟩ := (unhide HI).fin rfl
            exact bodyPost_ret (v := .tuple #[.agg #[.slice f1 db.length g1, .slice (some ⟨gf, 0, none⟩) 6 cf, .bool has, .slice f2 jr.length g2], .slice pa ps.length pc]) (by simp [results, Tryz.results45, go_sem, q0, q1, q2, q3]) rfl (by first | exact ⟨⟨db, fl.set nf (0), has, jr⟩, _, _, _, _, rfl, hd, ps, ((unhide HP).keep hs (fun k _ hk => hfar k (by have := hk.1; omega))).weak (fun b hb => ⟨hb.1, hb.2.1⟩), unhide HPR, unhide HPO, p4 + 1 + 1 + 1 + 1 + 1 + 1, by omega, hrd, hkp⟩ | exact ⟨⟨db, fl.set nf (0), has, jr⟩, _, _, _, _, ps, p4 + 1 + 1 + 1 + 1 + 1 + 1, rfl, hd, ((unhide HP).keep hs (fun k _ hk => hfar k (by have := hk.1; omega))).weak (fun b hb => ⟨hb.1, hb.2.1⟩), unhide HPR, unhide HPO, by omega, hrd, hkp⟩)
          · skip
            refine anyH_at (i := 10) (d := some 48) rfl rfl (by kernel_rfl) (by kernel_rfl) (by kernel_rfl) (fun _ _ _ h => h) (by rfl) (v := ?_) ?_ (by assumption) ?_
            rotate_left
            · (intro w hSw; (try dsimp only at hSw); go_simp <;> with_reducible rfl)
            simp only [Act.put, List.setIfInBounds_toArray, List.set_cons_zero, List.set_cons_succ]
            refine wpAnyH_ready (rs := [11]) (by kernel_rfl) (by simp) ?_
            refine AllReadyH.cons rfl (fun K hK => ?_) AllReadyH.nil
            go_simp
            refine hK.out _ _ ?_ (fun hHeldN => ?_)
            · exact (unhide HI).cells
            clear hHeld
            have hHeld := hHeldN
            clear hHeldN
            clear hK K
            try simp only [Act.put, List.setIfInBounds_toArray, List.set_cons_zero, List.set_cons_succ]
            refine anyH_at (i := 12) (d := some 50) rfl rfl (by kernel_rfl) (by kernel_rfl) (by kernel_rfl) (fun _ _ _ h => h) (by rfl) (v := ?_) ?_ (by assumption) ?_
            rotate_left
            · (intro w hSw; (try dsimp only at hSw); go_simp <;> with_reducible rfl)
            simp only [Act.put, List.setIfInBounds_toArray, List.set_cons_zero, List.set_cons_succ]
            refine wpAnyH_ready (rs := [13]) (by kernel_rfl) (by simp) ?_
            refine AllReadyH.cons rfl (fun K hK => ?_) AllReadyH.nil
            go_simp
            have HI9 := hide ((unhide HI).put (n := nf) (y := 5) (unhide HL6) hnf)
            have HP9 := hide ((unhide HP).set (O := gf) (o := nf) (u := .int .i64 (5)) (fun b hb e => hb.2.1 (by rw [e]; rfl)))
            clear HI HP
            have HI := HI9
            have HP := HP9
            clear HI9 HP9 hq0 hq1 a0 a1 a2 a3 HA
            generalize World.setCell _ _ _ = W9 at *
            refine hK.out _ _ ?_ (fun hHeldN => ?_)
            · exact (unhide HI).cells
            clear hHeld
            have hHeld := hHeldN
            clear hHeldN
            clear hK K
            try simp only [Act.put, List.setIfInBounds_toArray, List.set_cons_zero, List.set_cons_succ]
            refine wpAnyH_done (by kernel_rfl) ?_ _
            clear hHeld
            obtain ⟨x0, x1, x2, x3⟩ := (unhide HI).cells
            obtain ⟨⟨r0, r1, r2, r3⟩, y0, y1, y2, y3⟩ := (unhide HI).cellsR
            go_wp2
            obtain ⟨⟨q0, q1, q2, q3⟩, hd, hrd, hkp, hfar, hs⟩ := (unhide HI).fin rfl
            exact bodyPost_ret (v := .tuple #[.agg #[.slice f1 db.length g1, .slice (some ⟨gf, 0, none⟩) 6 cf, .bool has, .slice f2 jr.length g2], .slice pa ps.length pc]) (by simp [results, Tryz.results45, go_sem, q0, q1, q2, q3]) rfl (by first | exact ⟨⟨db, fl.set nf (5), has, jr⟩, _, _, _, _, rfl, hd, ps, ((unhide HP).keep hs (fun k _ hk => hfar k (by have := hk.1; omega))).weak (fun b hb => ⟨hb.1, hb.2.1⟩), unhide HPR, unhide HPO, p4 + 1 + 1 + 1 + 1 + 1 + 1, by omega, hrd, hkp⟩ | exact ⟨⟨db, fl.set nf (5), has, jr⟩, _, _, _, _, ps, p4 + 1 + 1 + 1 + 1 + 1 + 1, rfl, hd, ((unhide HP).keep hs (fun k _ hk => hfar k (by have := hk.1; omega))).weak (fun b hb => ⟨hb.1, hb.2.1⟩), unhide HPR, unhide HPO, by omega, hrd, hkp⟩)
          · skip
            refine anyH_at (i := 10) (d := some 48) rfl rfl (by kernel_rfl) (by kernel_rfl) (by kernel_rfl) (fun _ _ _ h => h) (by rfl) (v := ?_) ?_ (by assumption) ?_
            rotate_left
            · (intro w hSw; (try dsimp only at hSw); go_simp <;> with_reducible rfl)
            simp only [Act.put, List.setIfInBounds_toArray, List.set_cons_zero, List.set_cons_succ]
            refine wpAnyH_ready (rs := [11]) (by kernel_rfl) (by simp) ?_
            refine AllReadyH.cons rfl (fun K hK => ?_) AllReadyH.nil
            go_simp
            refine hK.out _ _ ?_ (fun hHeldN => ?_)
            · exact (unhide HI).cells
            clear hHeld
            have hHeld := hHeldN
            clear hHeldN
            clear hK K
            try simp only [Act.put, List.setIfInBounds_toArray, List.set_cons_zero, List.set_cons_succ]
            refine anyH_at (i := 12) (d := some 50) rfl rfl (by kernel_rfl) (by kernel_rfl) (by kernel_rfl) (fun _ _ _ h => h) (by rfl) (v := ?_) ?_ (by assumption) ?_
            rotate_left
            · (intro w hSw; (try dsimp only at hSw); go_simp <;> with_reducible rfl)
            simp only [Act.put, List.setIfInBounds_toArray, List.set_cons_zero, List.set_cons_succ]
            refine wpAnyH_ready (rs := [13]) (by kernel_rfl) (by simp) ?_
            refine AllReadyH.cons rfl (fun K hK => ?_) AllReadyH.nil
            go_simp
            have HI9 := hide ((unhide HI).put (n := nf) (y := 10) (unhide HL6) hnf)
            have HP9 := hide ((unhide HP).set (O := gf) (o := nf) (u := .int .i64 (10)) (fun b hb e => hb.2.1 (by rw [e]; rfl)))
            clear HI HP
            have HI := HI9
            have HP := HP9
            clear HI9 HP9 hq0 hq1 a0 a1 a2 a3 HA
            generalize World.setCell _ _ _ = W9 at *
            refine hK.out _ _ ?_ (fun hHeldN => ?_)
            · exact (unhide HI).cells
            clear hHeld
            have hHeld := hHeldN
            clear hHeldN
            clear hK K
            try simp only [Act.put, List.setIfInBounds_toArray, List.set_cons_zero, List.set_cons_succ]
            refine wpAnyH_done (by kernel_rfl) ?_ _
            clear hHeld
            obtain ⟨x0, x1, x2, x3⟩ := (unhide HI).cells
            obtain ⟨⟨r0, r1, r2, r3⟩, y0, y1, y2, y3⟩ := (unhide HI).cellsR
            go_wp2
            obtain ⟨⟨q0, q1, q2, q3⟩, hd, hrd, hkp, hfar, hs⟩ := (unhide HI).fin rfl
            exact bodyPost_ret (v := .tuple #[.agg #[.slice f1 db.length g1, .slice (some ⟨gf, 0, none⟩) 6 cf, .bool has, .slice f2 jr.length g2], .slice pa ps.length pc]) (by simp [results, Tryz.results45, go_sem, q0, q1, q2, q3]) rfl (by first | exact ⟨⟨db, fl.set nf (10), has, jr⟩, _, _, _, _, rfl, hd, ps, ((unhide HP).keep hs (fun k _ hk => hfar k (by have := hk.1; omega))).weak (fun b hb => ⟨hb.1, hb.2.1⟩), unhide HPR, unhide HPO, p4 + 1 + 1 + 1 + 1 + 1 + 1, by omega, hrd, hkp⟩ | exact ⟨⟨db, fl.set nf (10), has, jr⟩, _, _, _, _, ps, p4 + 1 + 1 + 1 + 1 + 1 + 1, rfl, hd, ((unhide HP).keep hs (fun k _ hk => hfar k (by have := hk.1; omega))).weak (fun b hb => ⟨hb.1, hb.2.1⟩), unhide HPR, unhide HPO, by omega, hrd, hkp⟩)
      · rw [if_pos (by rfl)]
        go_simp
        have hba := below1 w3.drew (.cells #[.int .i64 (-3), .int .i64 0, .int .i64 5, .int .i64 10] 3)
        have HA : Hid ((w3.alloc (.cells #[.int .i64 (-3), .int .i64 0, .int .i64 5, .int .i64 10] 3)).drew.heap[w3.heap.size]? = some (.cells #[.int .i64 (-3), .int .i64 0, .int .i64 5, .int .i64 10] 3 (0, 0))) := heap_alloc_new w3 (.cells #[.int .i64 (-3), .int .i64 0, .int .i64 5, .int .i64 10] 3)
        have HLA : Hid (w.heap.size ≤ w3.heap.size) := (unhide HI).dr.size
        have hIn := (unhide HI).later hba
        have hPn := (unhide HP).later hba
        rw [show w3.drew.alloc (.cells #[.int .i64 (-3), .int .i64 0, .int .i64 5, .int .i64 10] 3) = (w3.alloc (.cells #[.int .i64 (-3), .int .i64 0, .int .i64 5, .int .i64 10] 3)).drew from rfl] at hIn hPn
        clear HI HP
        have HI := hide hIn
        have HP := hide hPn
        clear hba hIn hPn
        generalize w3.heap.size = AA at *
        generalize World.drew (World.alloc w3 _) = w3x at *
        refine hK.out _ _ ?_ (fun hHeldN => ?_)
        · exact (unhide HI).cells
        clear hHeld
        have hHeld := hHeldN
        clear hHeldN
        clear hK K
        try simp only [Act.put, List.setIfInBounds_toArray, List.set_cons_zero, List.set_cons_succ]
        refine wpAnyH_ready (rs := [6]) (by kernel_rfl) (by simp) ?_
        refine AllReadyH.cons rfl (fun K hK => ?_) AllReadyH.nil
        go_simp
        refine (pick_any _ blk (p4 + 1 + 1 + 1 + 1) 6 (by exact (unhide HI).dr.rd) (by omega) (by omega) (by omega)).mono ?_
        rintro e w8 ⟨v6, rfl, v60, v61, hr6, hk6⟩
        have HP6 := hide ((unhide HP).keep hk6.size (fun k hk1 hN => hk6.block k hk1 (by have := hN.1; have := (unhide HI).dr.lt; omega)))
        replace HA := hide ((unhide HI).dr.box hk6 (unhide HLA) (unhide HA))
        replace HI := hide ((unhide HI).keep hk6 hr6)
        replace HP := HP6
        clear hk6 hr6 HP6
        go_wp2_with fail
        refine hK.out _ _ ?_ (fun hHeldN => ?_)
        · exact (unhide HI).cells
        clear hHeld
        have hHeld := hHeldN
        clear hHeldN
        clear hK K
        try simp only [Act.put, List.setIfInBounds_toArray, List.set_cons_zero, List.set_cons_succ]
        refine wpAnyH_ready (rs := [9]) (by kernel_rfl) (by simp) ?_
        refine AllReadyH.cons rfl (fun K hK => ?_) AllReadyH.nil
        go_simp
        refine (pick_any _ blk (p4 + 1 + 1 + 1 + 1 + 1) 4 (by exact (unhide HI).dr.rd) (by omega) (by omega) (by omega)).mono ?_
        rintro e w9 ⟨v4, rfl, v40, v41, hr4, hk4⟩
        have HP4 := hide ((unhide HP).keep hk4.size (fun k hk1 hN => hk4.block k hk1 (by have := hN.1; have := (unhide HI).dr.lt; omega)))
        replace HA := hide ((unhide HI).dr.box hk4 (unhide HLA) (unhide HA))
        replace HI := hide ((unhide HI).keep hk4 hr4)
        replace HP := HP4
        clear hk4 hr4 HP4
        go_wp2_with fail
        refine hK.out _ _ ?_ (fun hHeldN => ?_)
        · exact (unhide HI).cells
        clear hHeld
        have hHeld := hHeldN
        clear hHeldN
        clear hK K
        try simp only [Act.put, List.setIfInBounds_toArray, List.set_cons_zero, List.set_cons_succ]
        obtain ⟨nf, rfl⟩ := Int.eq_ofNat_of_zero_le v60
        have hnf : nf < 6 := by omega
        have hi0 : (0 : Int) ≤ (nf : Int) := Int.natCast_nonneg _
        have hi1 : (nf : Int) < 6 := by omega
        have hc4 : v4 = 0 ∨ v4 = 1 ∨ v4 = 2 ∨ v4 = 3 := by omega
        obtain ⟨a0, a1, a2, a3⟩ : _ ∧ _ ∧ _ ∧ _ := ⟨cellOf (unhide HA) 0, cellOf (unhide HA) 1, cellOf (unhide HA) 2, cellOf (unhide HA) 3⟩
        obtain ⟨hq0, hq1⟩ := (unhide HI).fileAt (unhide HL6) hnf
        rcases hc4 with rfl | rfl | rfl | rfl
        · skip
          refine anyH_at (i := 10) (d := some 48) rfl rfl (by kernel_rfl) (by kernel_rfl) (by kernel_rfl) (fun _ _ _ h => h) (by rfl) (v := ?_) ?_ (by assumption) ?_
          rotate_left
          · (intro w hSw; (try dsimp only at hSw); go_simp <;> with_reducible rfl)
          simp only [Act.put, List.setIfInBounds_toArray, List.set_cons_zero, List.set_cons_succ]
          refine wpAnyH_ready (rs := [11]) (by kernel_rfl) (by simp) ?_
          refine AllReadyH.cons rfl (fun K hK => ?_) AllReadyH.nil
          go_simp
          refine hK.out _ _ ?_ (fun hHeldN => ?_)
          · exact (unhide HI).cells
          clear hHeld
          have hHeld := hHeldN
          clear hHeldN
          clear hK K
          try simp only [Act.put, List.setIfInBounds_toArray, List.set_cons_zero, List.set_cons_succ]
          refine anyH_at (i := 12) (d := some 50) rfl rfl (by kernel_rfl) (by kernel_rfl) (by kernel_rfl) (fun _ _ _ h => h) (by rfl) (v := ?_) ?_ (by assumption) ?_
          rotate_left
          · (intro w hSw; (try dsimp only at hSw); go_simp <;> with_reducible rfl)
          simp only [Act.put, List.setIfInBounds_toArray, List.set_cons_zero, List.set_cons_succ]
          refine wpAnyH_ready (rs := [13]) (by kernel_rfl) (by simp) ?_
          refine AllReadyH.cons rfl (fun K hK => ?_) AllReadyH.nil
          go_simp
          have HI9 := hide ((unhide HI).put (n := nf) (y := (-3)) (unhide HL6) hnf)
          have HP9 := hide ((unhide HP).set (O := gf) (o := nf) (u := .int .i64 ((-3))) (fun b hb e => hb.2.1 (by rw [e]; rfl)))
          clear HI HP
          have HI := HI9
          have HP := HP9
          clear HI9 HP9 hq0 hq1 a0 a1 a2 a3 HA
          generalize World.setCell _ _ _ = W9 at *
          refine hK.out _ _ ?_ (fun hHeldN => ?_)
          · exact (unhide HI).cells
          clear hHeld
          have hHeld := hHeldN
          clear hHeldN
          clear hK K
          try simp only [Act.put, List.setIfInBounds_toArray, List.set_cons_zero, List.set_cons_succ]
          refine wpAnyH_done (by kernel_rfl) ?_ _
          clear hHeld
          obtain ⟨x0, x1, x2, x3⟩ := (unhide HI).cells
          obtain ⟨⟨r0, r1, r2, r3⟩, y0, y1, y2, y3⟩ := (unhide HI).cellsR
          go_wp2
          obtain ⟨⟨q0, q1, q2, q3⟩, hd, hrd, hkp, hfar, hs⟩ := (unhide HI).fin rfl
          exact bodyPost_ret (v := .tuple #[.agg #[.slice f1 db.length g1, .slice (some ⟨gf, 0, none⟩) 6 cf, .bool has, .slice f2 jr.length g2], .slice pa ps.length pc]) (by simp [results, Tryz.results45, go_sem, q0, q1, q2, q3]) rfl (by first | exact ⟨⟨db, fl.set nf (-3), has, jr⟩, _, _, _, _, rfl, hd, ps, ((unhide HP).keep hs (fun k _ hk => hfar k (by have := hk.1; omega))).weak (fun b hb => ⟨hb.1, hb.2.1⟩), unhide HPR, unhide HPO, p4 + 1 + 1 + 1 + 1 + 1 + 1, by omega, hrd, hkp⟩ | exact ⟨⟨db, fl.set nf (-3), has, jr⟩, _, _, _, _, ps, p4 + 1 + 1 + 1 + 1 + 1 + 1, rfl, hd, ((unhide HP).keep hs (fun k _ hk => hfar k (by have := hk.1; omega))).weak (fun b hb => ⟨hb.1, hb.2.1⟩), unhide HPR, unhide HPO, by omega, hrd, hkp⟩)
        · skip
          refine anyH_at (i := 10) (d := some 48) rfl rfl (by kernel_rfl) (by kernel_rfl) (by kernel_rfl) (fun _ _ _ h => h) (by rfl) (v := ?_) ?_ (by assumption) ?_
          rotate_left
          · (intro w hSw; (try dsimp only at hSw); go_simp <;> with_reducible rfl)
          simp only [Act.put, List.setIfInBounds_toArray, List.set_cons_zero, List.set_cons_succ]
          refine wpAnyH_ready (rs := [11]) (by kernel_rfl) (by simp) ?_
          refine AllReadyH.cons rfl (fun K hK => ?_) AllReadyH.nil
          go_simp
          refine hK.out _ _ ?_ (fun hHeldN => ?_)
          · exact (unhide HI).cells
          clear hHeld
          have hHeld := hHeldN
          clear hHeldN
          clear hK K
          try simp only [Act.put, List.setIfInBounds_toArray, List.set_cons_zero, List.set_cons_succ]
          refine anyH_at (i := 12) (d := some 50) rfl rfl (by kernel_rfl) (by kernel_rfl) (by kernel_rfl) (fun _ _ _ h => h) (by rfl) (v := ?_) ?_ (by assumption) ?_
          rotate_left
          · (intro w hSw; (try dsimp only at hSw); go_simp <;> with_reducible rfl)
          simp only [Act.put, List.setIfInBounds_toArray, List.set_cons_zero, List.set_cons_succ]
          refine wpAnyH_ready (rs := [13]) (by kernel_rfl) (by simp) ?_
          refine AllReadyH.cons rfl (fun K hK => ?_) AllReadyH.nil
          go_simp
          have HI9 := hide ((unhide HI).put (n := nf) (y := 0) (unhide HL6) hnf)
          have HP9 := hide ((unhide HP).set (O := gf) (o := nf) (u := .int .i64 (0)) (fun b hb e => hb.2.1 (by rw [e]; rfl)))
          clear HI HP
          have HI := HI9
          have HP := HP9
          clear HI9 HP9 hq0 hq1 a0 a1 a2 a3 HA
          generalize World.setCell _ _ _ = W9 at *
          refine hK.out _ _ ?_ (fun hHeldN => ?_)
          · exact (unhide HI).cells
          clear hHeld
          have hHeld := hHeldN
          clear hHeldN
          clear hK K
          try simp only [Act.put, List.setIfInBounds_toArray, List.set_cons_zero, List.set_cons_succ]
          refine wpAnyH_done (by kernel_rfl) ?_ _
          clear hHeld
          obtain ⟨x0, x1, x2, x3⟩ := (unhide HI).cells
          obtain ⟨⟨r0, r1, r2, r3⟩, y0, y1, y2, y3⟩ := (unhide HI).cellsR
          go_wp2
          obtain ⟨⟨q0, q1, q2, q3⟩, hd, hrd, hkp, hfar, hs⟩ := (unhide HI).fin rfl
          exact bodyPost_ret (v := .tuple #[.agg #[.slice f1 db.length g1, .slice (some ⟨gf, 0, none⟩) 6 cf, .bool has, .slice f2 jr.length g2], .slice pa ps.length pc]) (by simp [results, Tryz.results45, go_sem, q0, q1, q2, q3]) rfl (by first | exact ⟨⟨db, fl.set nf (0), has, jr⟩, _, _, _, _, rfl, hd, ps, ((unhide HP).keep hs (fun k _ hk => hfar k (by have := hk.1; omega))).weak (fun b hb => ⟨hb.1, hb.2.1⟩), unhide HPR, unhide HPO, p4 + 1 + 1 + 1 + 1 + 1 + 1, by omega, hrd, hkp⟩ | exact ⟨⟨db, fl.set nf (0), has, jr⟩, _, _, _, _, ps, p4 + 1 + 1 + 1 + 1 + 1 + 1, rfl, hd, ((unhide HP).keep hs (fun k _ hk => hfar k (by have := hk.1; omega))).weak (fun b hb => ⟨hb.1, hb.2.1⟩), unhide HPR, unhide HPO, by omega, hrd, hkp⟩)
        · skip
          refine anyH_at (i := 10) (d := some 48) rfl rfl (by kernel_rfl) (by kernel_rfl) (by kernel_rfl) (fun _ _ _ h => h) (by rfl) (v := ?_) ?_ (by assumption) ?_
          rotate_left
          · (intro w hSw; (try dsimp only at hSw); go_simp <;> with_reducible rfl)
          simp only [Act.put, List.setIfInBounds_toArray, List.set_cons_zero, List.set_cons_succ]
          refine wpAnyH_ready (rs := [11]) (by kernel_rfl) (by simp) ?_
          refine AllReadyH.cons rfl (fun K hK => ?_) AllReadyH.nil
          go_simp
          refine hK.out _ _ ?_ (fun hHeldN => ?_)
          · exact (unhide HI).cells
          clear hHeld
          have hHeld := hHeldN
          clear hHeldN
          clear hK K
          try simp only [Act.put, List.setIfInBounds_toArray, List.set_cons_zero, List.set_cons_succ]
          refine anyH_at (i := 12) (d := some 50) rfl rfl (by kernel_rfl) (by kernel_rfl) (by kernel_rfl) (fun _ _ _ h => h) (by rfl) (v := ?_) ?_ (by assumption) ?_
          rotate_left
          · (intro w hSw; (try dsimp only at hSw); go_simp <;> with_reducible rfl)
          simp only [Act.put, List.setIfInBounds_toArray, List.set_cons_zero, List.set_cons_succ]
          refine wpAnyH_ready (rs := [13]) (by kernel_rfl) (by simp) ?_
          refine AllReadyH.cons rfl (fun K hK => ?_) AllReadyH.nil
          go_simp
          have HI9 := hide ((unhide HI).put (n := nf) (y := 5) (unhide HL6) hnf)
          have HP9 := hide ((unhide HP).set (O := gf) (o := nf) (u := .int .i64 (5)) (fun b hb e => hb.2.1 (by rw [e]; rfl)))
          clear HI HP
          have HI := HI9
          have HP := HP9
          clear HI9 HP9 hq0 hq1 a0 a1 a2 a3 HA
          generalize World.setCell _ _ _ = W9 at *
          refine hK.out _ _ ?_ (fun hHeldN => ?_)
          · exact (unhide HI).cells
          clear hHeld
          have hHeld := hHeldN
          clear hHeldN
          clear hK K
          try simp only [Act.put, List.setIfInBounds_toArray, List.set_cons_zero, List.set_cons_succ]
          refine wpAnyH_done (by kernel_rfl) ?_ _
          clear hHeld
          obtain ⟨x0, x1, x2, x3⟩ := (unhide HI).cells
          obtain ⟨⟨r0, r1, r2, r3⟩, y0, y1, y2, y3⟩ := (unhide HI).cellsR
          go_wp2
          obtain ⟨⟨q0, q1, q2, q3⟩, hd, hrd, hkp, hfar, hs⟩ := (unhide HI).fin rfl
          exact bodyPost_ret (v := .tuple #[.agg #[.slice f1 db.length g1, .slice (some ⟨gf, 0, none⟩) 6 cf, .bool has, .slice f2 jr.length g2], .slice pa ps.length pc]) (by simp [results, Tryz.results45, go_sem, q0, q1, q2, q3]) rfl (by first | exact ⟨⟨db, fl.set nf (5), has, jr⟩, _, _, _, _, rfl, hd, ps, ((unhide HP).keep hs (fun k _ hk => hfar k (by have := hk.1; omega))).weak (fun b hb => ⟨hb.1, hb.2.1⟩), unhide HPR, unhide HPO, p4 + 1 + 1 + 1 + 1 + 1 + 1, by omega, hrd, hkp⟩ | exact ⟨⟨db, fl.set nf (5), has, jr⟩, _, _, _, _, ps, p4 + 1 + 1 + 1 + 1 + 1 + 1, rfl, hd, ((unhide HP).keep hs (fun k _ hk => hfar k (by have := hk.1; omega))).weak (fun b hb => ⟨hb.1, hb.2.1⟩), unhide HPR, unhide HPO, by omega, hrd, hkp⟩)
        · skip
          refine anyH_at (i := 10) (d := some 48) rfl rfl (by kernel_rfl) (by kernel_rfl) (by kernel_rfl) (fun _ _ _ h => h) (by rfl) (v := ?_) ?_ (by assumption) ?_
          rotate_left
          · (intro w hSw; (try dsimp only at hSw); go_simp <;> with_reducible rfl)
          simp only [Act.put, List.setIfInBounds_toArray, List.set_cons_zero, List.set_cons_succ]
          refine wpAnyH_ready (rs := [11]) (by kernel_rfl) (by simp) ?_
          refine AllReadyH.cons rfl (fun K hK => ?_) AllReadyH.nil
          go_simp
          refine hK.out _ _ ?_ (fun hHeldN => ?_)
          · exact (unhide HI).cells
          clear hHeld
          have hHeld := hHeldN
          clear hHeldN
          clear hK K
          try simp only [Act.put, List.setIfInBounds_toArray, List.set_cons_zero, List.set_cons_succ]
          refine anyH_at (i := 12) (d := some 50) rfl rfl (by kernel_rfl) (by kernel_rfl) (by kernel_rfl) (fun _ _ _ h => h) (by rfl) (v := ?_) ?_ (by assumption) ?_
          rotate_left
          · (intro w hSw; (try dsimp only at hSw); go_simp <;> with_reducible rfl)
          simp only [Act.put, List.setIfInBounds_toArray, List.set_cons_zero, List.set_cons_succ]
          refine wpAnyH_ready (rs := [13]) (by kernel_rfl) (by simp) ?_
          refine AllReadyH.cons rfl (fun K hK => ?_) AllReadyH.nil
          go_simp
          have HI9 := hide ((unhide HI).put (n := nf) (y := 10) (unhide HL6) hnf)
          have HP9 := hide ((unhide HP).set (O := gf) (o := nf) (u := .int .i64 (10)) (fun b hb e => hb.2.1 (by rw [e]; rfl)))
          clear HI HP
          have HI := HI9
          have HP := HP9
          clear HI9 HP9 hq0 hq1 a0 a1 a2 a3 HA
          generalize World.setCell _ _ _ = W9 at *
          refine hK.out _ _ ?_ (fun hHeldN => ?_)
          · exact (unhide HI).cells
          clear hHeld
          have hHeld := hHeldN
          clear hHeldN
          clear hK K
          try simp only [Act.put, List.setIfInBounds_toArray, List.set_cons_zero, List.set_cons_succ]
          refine wpAnyH_done (by kernel_rfl) ?_ _
          clear hHeld
          obtain ⟨x0, x1, x2, x3⟩ := (unhide HI).cells
          obtain ⟨⟨r0, r1, r2, r3⟩, y0, y1, y2, y3⟩ := (unhide HI).cellsR
          go_wp2
          obtain ⟨⟨q0, q1, q2, q3⟩, hd, hrd, hkp, hfar, hs⟩ := (unhide HI).fin rfl
          exact bodyPost_ret (v := .tuple #[.agg #[.slice f1 db.length g1, .slice (some ⟨gf, 0, none⟩) 6 cf, .bool has, .slice f2 jr.length g2], .slice pa ps.length pc]) (by simp [results, Tryz.results45, go_sem, q0, q1, q2, q3]) rfl (by first | exact ⟨⟨db, fl.set nf (10), has, jr⟩, _, _, _, _, rfl, hd, ps, ((unhide HP).keep hs (fun k _ hk => hfar k (by have := hk.1; omega))).weak (fun b hb => ⟨hb.1, hb.2.1⟩), unhide HPR, unhide HPO, p4 + 1 + 1 + 1 + 1 + 1 + 1, by omega, hrd, hkp⟩ | exact ⟨⟨db, fl.set nf (10), has, jr⟩, _, _, _, _, ps, p4 + 1 + 1 + 1 + 1 + 1 + 1, rfl, hd, ((unhide HP).keep hs (fun k _ hk => hfar k (by have := hk.1; omega))).weak (fun b hb => ⟨hb.1, hb.2.1⟩), unhide HPR, unhide HPO, by omega, hrd, hkp⟩)
    have h0' : (v3 == 0) = false := by simpa using h0
    by_cases h1 : v3 = 1
    · subst h1
      obtain ⟨x0, x1, x2, x3⟩ := (unhide HI).cells
      obtain ⟨y0, y1, y2, y3⟩ := (unhide HI).fr
      have HIp := hide ((unhide HI).setHas (!has))
      have HPp := hide ((unhide HP).set (O := X) (o := 2) (u := .bool (!has)) (fun b hb => hb.2.2))
      clear HI HP
      have HI := HIp
      have HP := HPp
      clear HIp HPp
      dsimp only at HI
      go_upto_region 16 with fail
      generalize World.setCell _ _ _ = W9 at *
      clear x0 x1 x2 x3 y0 y1 y2 y3
      obtain ⟨x0, x1, x2, x3⟩ := (unhide HI).cells
      obtain ⟨⟨r0, r1, r2, r3⟩, y0, y1, y2, y3⟩ := (unhide HI).cellsR
      go_wp2
      obtain ⟨⟨q0, q1, q2, q3⟩, hd, hrd, hkp, hfar, hs⟩ := (unhide HI).fin rfl
      exact bodyPost_ret (v := .tuple #[.agg #[.slice f1 db.length g1, .slice (some ⟨gf, 0, none⟩) 6 cf, .bool (!has), .slice f2 jr.length g2], .slice pa ps.length pc]) (by simp [results, Tryz.results45, go_sem, q0, q1, q2, q3]) rfl (by first | exact ⟨⟨db, fl, !has, jr⟩, _, _, _, _, rfl, hd, ps, ((unhide HP).keep hs (fun k _ hk => hfar k (by have := hk.1; omega))).weak (fun b hb => ⟨hb.1, hb.2.1⟩), unhide HPR, unhide HPO, p4 + 1 + 1 + 1 + 1, by omega, hrd, hkp⟩ | exact ⟨⟨db, fl, !has, jr⟩, _, _, _, _, ps, p4 + 1 + 1 + 1 + 1, rfl, hd, ((unhide HP).keep hs (fun k _ hk => hfar k (by have := hk.1; omega))).weak (fun b hb => ⟨hb.1, hb.2.1⟩), unhide HPR, unhide HPO, by omega, hrd, hkp⟩)
    have h1' : (v3 == 1) = false := by simpa using h1
    by_cases h2 : v3 = 2
    · subst h2
      obtain ⟨x0, x1, x2, x3⟩ := (unhide HI).cells
      obtain ⟨y0, y1, y2, y3⟩ := (unhide HI).fr
      have hcf : 6 ≤ cf := by
        obtain ⟨_, _, e, hc, _⟩ := (unhide HI).pf
        injection e with _ _ e
        have := unhide HL6
        dsimp only at hc
        omega
      have HIp := hide ((unhide HI).setCut (unhide HL6))
      have HPp := hide ((unhide HP).set (O := X) (o := 1) (u := .slice (some ⟨gf, 1, none⟩) 5 (cf - 1)) (fun b hb => hb.2.2))
      clear HI HP
      have HI := HIp
      have HP := HPp
      clear HIp HPp
      dsimp only at HI
      go_upto_region 16 with fail
      generalize World.setCell _ _ _ = W9 at *
      clear x0 x1 x2 x3 y0 y1 y2 y3
      obtain ⟨x0, x1, x2, x3⟩ := (unhide HI).cells
      obtain ⟨⟨r0, r1, r2, r3⟩, y0, y1, y2, y3⟩ := (unhide HI).cellsR
      go_wp2
      obtain ⟨⟨q0, q1, q2, q3⟩, hd, hrd, hkp, hfar, hs⟩ := (unhide HI).fin rfl
      exact bodyPost_ret (v := .tuple #[.agg #[.slice f1 db.length g1, .slice (some ⟨gf, 1, none⟩) 5 (cf - 1), .bool has, .slice f2 jr.length g2], .slice pa ps.length pc]) (by simp [results, Tryz.results45, go_sem, q0, q1, q2, q3]) rfl (by first | exact ⟨⟨db, fl.drop 1, has, jr⟩, _, _, _, _, rfl, hd, ps, ((unhide HP).keep hs (fun k _ hk => hfar k (by have := hk.1; omega))).weak (fun b hb => ⟨hb.1, hb.2.1⟩), unhide HPR, unhide HPO, p4 + 1 + 1 + 1 + 1, by omega, hrd, hkp⟩ | exact ⟨⟨db, fl.drop 1, has, jr⟩, _, _, _, _, ps, p4 + 1 + 1 + 1 + 1, rfl, hd, ((unhide HP).keep hs (fun k _ hk => hfar k (by have := hk.1; omega))).weak (fun b hb => ⟨hb.1, hb.2.1⟩), unhide HPR, unhide HPO, by omega, hrd, hkp⟩)
    have h2' : (v3 == 2) = false := by simpa using h2
    by_cases h3 : v3 = 3
    · subst h3
      go_wp2_with fail
      refine (off_draw _ blk (p4 + 1 + 1 + 1 + 1) (by exact (unhide HI).dr.rd) (Nat.le_trans hB (unhide HI).dr.size) (by omega)).mono ?_
      rintro e w4 ⟨ov, os, p5, rfl, hP5, hrm5, hp5, hr5, hk5⟩
      obtain ⟨oa, oc, hov⟩ := hP5.slice
      subst hov
      have hPn := hP5.nx ((unhide HI).sz6 (unhide HL6))
      replace HP := hide ((unhide HP).keep hk5.size (fun k hk1 hN => hk5.block k hk1 (by have := hN.1; have := (unhide HI).dr.lt; omega)))
      replace HI := hide ((unhide HI).keep hk5 hr5)
      obtain ⟨x0, x1, x2, x3⟩ := (unhide HI).cells
      obtain ⟨y0, y1, y2, y3⟩ := (unhide HI).fr
      have HIp := hide ((unhide HI).setDb hPn hrm5)
      have HPp := hide ((unhide HP).set (O := X) (o := 0) (u := .slice oa os.length oc) (fun b hb => hb.2.2))
      clear HI HP hr5 hk5 hPn hP5 hrm5
      have HI := HIp
      have HP := HPp
      clear HIp HPp
      dsimp only at HI
      go_upto_region 16 with fail
      generalize World.setCell _ _ _ = W9 at *
      clear x0 x1 x2 x3 y0 y1 y2 y3
      obtain ⟨x0, x1, x2, x3⟩ := (unhide HI).cells
      obtain ⟨⟨r0, r1, r2, r3⟩, y0, y1, y2, y3⟩ := (unhide HI).cellsR
      go_wp2
      obtain ⟨⟨q0, q1, q2, q3⟩, hd, hrd, hkp, hfar, hs⟩ := (unhide HI).fin rfl
      exact bodyPost_ret (v := .tuple #[.agg #[.slice oa os.length oc, .slice (some ⟨gf, 0, none⟩) 6 cf, .bool has, .slice f2 jr.length g2], .slice pa ps.length pc]) (by simp [results, Tryz.results45, go_sem, q0, q1, q2, q3]) rfl (by first | exact ⟨⟨os, fl, has, jr⟩, _, _, _, _, rfl, hd, ps, ((unhide HP).keep hs (fun k _ hk => hfar k (by have := hk.1; omega))).weak (fun b hb => ⟨hb.1, hb.2.1⟩), unhide HPR, unhide HPO, p5, by omega, hrd, hkp⟩ | exact ⟨⟨os, fl, has, jr⟩, _, _, _, _, ps, p5, rfl, hd, ((unhide HP).keep hs (fun k _ hk => hfar k (by have := hk.1; omega))).weak (fun b hb => ⟨hb.1, hb.2.1⟩), unhide HPR, unhide HPO, by omega, hrd, hkp⟩)
    have h3' : (v3 == 3) = false := by simpa using h3
    clear h0 h1 h2 h3
    obtain ⟨x0, x1, x2, x3⟩ := (unhide HI).cells
    obtain ⟨⟨r0, r1, r2, r3⟩, y0, y1, y2, y3⟩ := (unhide HI).cellsR
    go_wp2
    obtain ⟨⟨q0, q1, q2, q3⟩, hd, hrd, hkp, hfar, hs⟩ := (unhide HI).fin rfl
    exact bodyPost_ret (v := .tuple #[.agg #[.slice f1 db.length g1, .slice (some ⟨gf, 0, none⟩) 6 cf, .bool has, .slice f2 jr.length g2], .slice pa ps.length pc]) (by simp [results, Tryz.results45, go_sem, q0, q1, q2, q3]) rfl (by first | exact ⟨⟨db, fl, has, jr⟩, _, _, _, _, rfl, hd, ps, ((unhide HP).keep hs (fun k _ hk => hfar k (by have := hk.1; omega))).weak (fun b hb => ⟨hb.1, hb.2.1⟩), unhide HPR, unhide HPO, p4 + 1 + 1 + 1 + 1, by omega, hrd, hkp⟩ | exact ⟨⟨db, fl, has, jr⟩, _, _, _, _, ps, p4 + 1 + 1 + 1 + 1, rfl, hd, ((unhide HP).keep hs (fun k _ hk => hfar k (by have := hk.1; omega))).weak (fun b hb => ⟨hb.1, hb.2.1⟩), unhide HPR, unhide HPO, by omega, hrd, hkp⟩)
  · go_wp2_with fail
    refine (pick_any _ blk (p4 + 1) 24 (by exact (unhide HI).dr.rd) (by omega) (by omega) (by omega)).mono ?_
    rintro e w3 ⟨v3, rfl, v30, v31, hr3, hk3⟩
    replace HP := hide ((unhide HP).keep hk3.size (fun k hk1 hN => hk3.block k hk1 (by have := hN.1; have := (unhide HI).dr.lt; omega)))
    replace HI := hide ((unhide HI).keep hk3 hr3)
    clear hr3 hk3
    by_cases h0 : v3 = 0
    · subst h0
      have hbd := below_drew w3
      replace HI := hide ((unhide HI).later hbd)
      replace HP := hide ((unhide HP).later hbd)
      clear hbd
      obtain ⟨x0, x1, x2, x3⟩ := (unhide HI).cells
      go_wp2_with fail
      refine wp_region_held_drew (S := fun w' => w'.cell? ⟨X, 0, none⟩ = some (.slice f1 db.length g1) ∧ w'.cell? ⟨X, 1, none⟩ = some (.slice (some ⟨gf, 0, none⟩) 6 cf) ∧ w'.cell? ⟨X, 2, none⟩ = some (.bool has) ∧ w'.cell? ⟨X, 3, none⟩ = some (.slice f2 jr.length g2)) (by kernel_rfl) ⟨x0, x1, x2, x3⟩ (fun hHeld => ?_)
      refine anyH_at (i := 0) (d := some 38) rfl rfl (by kernel_rfl) (by kernel_rfl) (by kernel_rfl) (fun _ _ _ h => h) (by rfl) (v := ?_) ?_ (by assumption) ?_
      rotate_left
      · (intro w hSw; (try dsimp only at hSw); go_simp <;> with_reducible rfl)
      simp only [Act.put, List.setIfInBounds_toArray, List.set_cons_zero, List.set_cons_succ]
      refine anyH_at (i := 1) (d := some 39) rfl rfl (by kernel_rfl) (by kernel_rfl) (by kernel_rfl) (fun _ _ _ h => h) (by rfl) (v := ?_) ?_ (by assumption) ?_
      rotate_left
      · (intro w hSw; (try dsimp only at hSw); go_simp <;> with_reducible rfl)
      simp only [Act.put, List.setIfInBounds_toArray, List.set_cons_zero, List.set_cons_succ]
      refine anyH_at (i := 2) (d := some 40) rfl rfl (by kernel_rfl) (by kernel_rfl) (by kernel_rfl) (fun _ _ _ h => h) (by rfl) (v := ?_) ?_ (by assumption) ?_
      rotate_left
      · (intro w hSw; (try dsimp only at hSw); go_simp <;> with_reducible rfl)
      simp only [Act.put, List.setIfInBounds_toArray, List.set_cons_zero, List.set_cons_succ]
      refine anyH_at (i := 3) (d := some 41) rfl rfl (by kernel_rfl) (by kernel_rfl) (by kernel_rfl) (fun _ _ _ h => h) (by rfl) (v := ?_) ?_ (by assumption) ?_
      rotate_left
      · (intro w hSw; (try dsimp only at hSw); go_simp <;> with_reducible rfl)
      simp only [Act.put, List.setIfInBounds_toArray, List.set_cons_zero, List.set_cons_succ]
      refine anyH_at (i := 4) (d := some 42) rfl rfl (by kernel_rfl) (by kernel_rfl) (by kernel_rfl) (fun _ _ _ h => h) (by rfl) (v := ?_) ?_ (by assumption) ?_
      rotate_left
      · (intro w hSw; (try dsimp only at hSw); go_simp <;> with_reducible rfl)
      simp only [Act.put, List.setIfInBounds_toArray, List.set_cons_zero, List.set_cons_succ]
      refine anyH_at (i := 5) (d := some 43) rfl rfl (by kernel_rfl) (by kernel_rfl) (by kernel_rfl) (fun _ _ _ h => h) (by rfl) (v := ?_) ?_ (by assumption) ?_
      rotate_left
      · (intro w hSw; (try dsimp only at hSw); go_simp <;> with_reducible rfl)
      simp only [Act.put, List.setIfInBounds_toArray, List.set_cons_zero, List.set_cons_succ]
      refine anyH_at (i := 8) (d := some 46) rfl rfl (by kernel_rfl) (by kernel_rfl) (by kernel_rfl) (fun _ _ _ h => h) (by rfl) (v := ?_) ?_ (by assumption) ?_
      rotate_left
      · (intro w hSw; (try dsimp only at hSw); go_simp <;> with_reducible rfl)
      simp only [Act.put, List.setIfInBounds_toArray, List.set_cons_zero, List.set_cons_succ]
      clear x0 x1 x2 x3
      refine wpAnyH_ready (rs := [6, 7]) (by kernel_rfl) (by simp) ?_
      refine AllReadyH.cons rfl (fun K hK => ?_) (AllReadyH.cons rfl (fun K hK => ?_) AllReadyH.nil)
      · rw [if_pos (by rfl)]
        go_simp
        refine (pick_any _ blk (p4 + 1 + 1) 6 (by exact (unhide HI).dr.rd) (by omega) (by omega) (by omega)).mono ?_
        rintro e w8 ⟨v6, rfl, v60, v61, hr6, hk6⟩
        have HP6 := hide ((unhide HP).keep hk6.size (fun k hk1 hN => hk6.block k hk1 (by have := hN.1; have := (unhide HI).dr.lt; omega)))
        replace HI := hide ((unhide HI).keep hk6 hr6)
        replace HP := HP6
        clear hk6 hr6 HP6
        go_wp2_with fail
        refine hK.out _ _ ?_ (fun hHeldN => ?_)
        · exact (unhide HI).cells
        clear hHeld
        have hHeld := hHeldN
        clear hHeldN
        clear hK K
        try simp only [Act.put, List.setIfInBounds_toArray, List.set_cons_zero, List.set_cons_succ]
        refine wpAnyH_ready (rs := [7, 9]) (by kernel_rfl) (by simp) ?_
        refine AllReadyH.cons rfl (fun K hK => ?_) (AllReadyH.cons rfl (fun K hK => ?_) AllReadyH.nil)
        · rw [if_pos (by rfl)]
          go_simp
          have hba := below1 w8 (.cells #[.int .i64 (-3), .int .i64 0, .int .i64 5, .int .i64 10] 3)
          have HA := hide (heap_alloc_new w8 (.cells #[.int .i64 (-3), .int .i64 0, .int .i64 5, .int .i64 10] 3))
          have HLA : Hid (w.heap.size ≤ w8.heap.size) := (unhide HI).dr.size
          replace HI := hide ((unhide HI).later hba)
          replace HP := hide ((unhide HP).later hba)
          clear hba
          generalize w8.heap.size = AA at *
          generalize World.alloc w8 _ = w8x at *
          refine hK.out _ _ ?_ (fun hHeldN => ?_)
          · exact (unhide HI).cells
          clear hHeld
          have hHeld := hHeldN
          clear hHeldN
          clear hK K
          try simp only [Act.put, List.setIfInBounds_toArray, List.set_cons_zero, List.set_cons_succ]
          refine wpAnyH_ready (rs := [9]) (by kernel_rfl) (by simp) ?_
          refine AllReadyH.cons rfl (fun K hK => ?_) AllReadyH.nil
          go_simp
          refine (pick_any _ blk (p4 + 1 + 1 + 1) 4 (by exact (unhide HI).dr.rd) (by omega) (by omega) (by omega)).mono ?_
          rintro e w9 ⟨v4, rfl, v40, v41, hr4, hk4⟩
          have HP4 := hide ((unhide HP).keep hk4.size (fun k hk1 hN => hk4.block k hk1 (by have := hN.1; have := (unhide HI).dr.lt; omega)))
          replace HA := hide ((unhide HI).dr.box hk4 (unhide HLA) (unhide HA))
          replace HI := hide ((unhide HI).keep hk4 hr4)
          replace HP := HP4
          clear hk4 hr4 HP4
          go_wp2_with fail
          refine hK.out _ _ ?_ (fun hHeldN => ?_)
          · exact (unhide HI).cells
          clear hHeld
          have hHeld := hHeldN
          clear hHeldN
          clear hK K
          try simp only [Act.put, List.setIfInBounds_toArray, List.set_cons_zero, List.set_cons_succ]
          obtain ⟨nf, rfl⟩ := Int.eq_ofNat_of_zero_le v60
          have hnf : nf < 6 := by omega
          have hi0 : (0 : Int) ≤ (nf : Int) := Int.natCast_nonneg _
          have hi1 : (nf : Int) < 6 := by omega
          have hc4 : v4 = 0 ∨ v4 = 1 ∨ v4 = 2 ∨ v4 = 3 := by omega
          obtain ⟨a0, a1, a2, a3⟩ : _ ∧ _ ∧ _ ∧ _ := ⟨cellOf (unhide HA) 0, cellOf (unhide HA) 1, cellOf (unhide HA) 2, cellOf (unhide HA) 3⟩
          obtain ⟨hq0, hq1⟩ := (unhide HI).fileAt (unhide HL6) hnf
          rcases hc4 with rfl | rfl | rfl | rfl
          · skip
            refine anyH_at (i := 10) (d := some 48) rfl rfl (by kernel_rfl) (by kernel_rfl) (by kernel_rfl) (fun _ _ _ h => h) (by rfl) (v := ?_) ?_ (by assumption) ?_
            rotate_left
            · (intro w hSw; (try dsimp only at hSw); go_simp <;> with_reducible rfl)
            simp only [Act.put, List.setIfInBounds_toArray, List.set_cons_zero, List.set_cons_succ]
            refine wpAnyH_ready (rs := [11]) (by kernel_rfl) (by simp) ?_
            refine AllReadyH.cons rfl (fun K hK => ?_) AllReadyH.nil
            go_simp
            refine hK.out _ _ ?_ (fun hHeldN => ?_)
            · exact (unhide HI).cells
            clear hHeld
            have hHeld := hHeldN
            clear hHeldN
            clear hK K
            try simp only [Act.put, List.setIfInBounds_toArray, List.set_cons_zero, List.set_cons_succ]
            refine anyH_at (i := 12) (d := some 50) rfl rfl (by kernel_rfl) (by kernel_rfl) (by kernel_rfl) (fun _ _ _ h => h) (by rfl) (v := ?_) ?_ (by assumption) ?_
            rotate_left
            · (intro w hSw; (try dsimp only at hSw); go_simp <;> with_reducible rfl)
            simp only [Act.put, List.setIfInBounds_toArray, List.set_cons_zero, List.set_cons_succ]
            refine wpAnyH_ready (rs := [13]) (by kernel_rfl) (by simp) ?_
            refine AllReadyH.cons rfl (fun K hK => ?_) AllReadyH.nil
            go_simp
            have HI9 := hide ((unhide HI).put (n := nf) (y := (-3)) (unhide HL6) hnf)
            have HP9 := hide ((unhide HP).set (O := gf) (o := nf) (u := .int .i64 ((-3))) (fun b hb e => hb.2.1 (by rw [e]; rfl)))
            clear HI HP
            have HI := HI9
            have HP := HP9
            clear HI9 HP9 hq0 hq1 a0 a1 a2 a3 HA
            generalize World.setCell _ _ _ = W9 at *
            refine hK.out _ _ ?_ (fun hHeldN => ?_)
            · exact (unhide HI).cells
            clear hHeld
            have hHeld := hHeldN
            clear hHeldN
            clear hK K
            try simp only [Act.put, List.setIfInBounds_toArray, List.set_cons_zero, List.set_cons_succ]
            refine wpAnyH_done (by kernel_rfl) ?_ _
            clear hHeld
            obtain ⟨x0, x1, x2, x3⟩ := (unhide HI).cells
            obtain ⟨⟨r0, r1, r2, r3⟩, y0, y1, y2, y3⟩ := (unhide HI).cellsR
            go_wp2
            obtain ⟨⟨q0, q1, q2, q3⟩, hd, hrd, hkp, hfar, hs⟩ := (unhide HI).fin rfl
            exact bodyPost_ret (v := .tuple #[.agg #[.slice f1 db.length g1, .slice (some ⟨gf, 0, none⟩) 6 cf, .bool has, .slice f2 jr.length g2], .slice pa ps.length pc]) (by simp [results, Tryz.results45, go_sem, q0, q1, q2, q3]) rfl (by first | exact ⟨⟨db, fl.set nf (-3), has, jr⟩, _, _, _, _, rfl, hd, ps, ((unhide HP).keep hs (fun k _ hk => hfar k (by have := hk.1; omega))).weak (fun b hb => ⟨hb.1, hb.2.1⟩), unhide HPR, unhide HPO, p4 + 1 + 1 + 1 + 1, by omega, hrd, hkp⟩ | exact ⟨⟨db, fl.set nf (-3), has, jr⟩, _, _, _, _, ps, p4 + 1 + 1 + 1 + 1, rfl, hd, ((unhide HP).keep hs (fun k _ hk => hfar k (by have := hk.1; omega))).weak (fun b hb => ⟨hb.1, hb.2.1⟩), unhide HPR, unhide HPO, by omega, hrd, hkp⟩)
          · skip
            refine anyH_at (i := 10) (d := some 48) rfl rfl (by kernel_rfl) (by kernel_rfl) (by kernel_rfl) (fun _ _ _ h => h) (by rfl) (v := ?_) ?_ (by assumption) ?_
            rotate_left
            · (intro w hSw; (try dsimp only at hSw); go_simp <;> with_reducible rfl)
            simp only [Act.put, List.setIfInBounds_toArray, List.set_cons_zero, List.set_cons_succ]
            refine wpAnyH_ready (rs := [11]) (by kernel_rfl) (by simp) ?_
            refine AllReadyH.cons rfl (fun K hK => ?_) AllReadyH.nil
            go_simp
            refine hK.out _ _ ?_ (fun hHeldN => ?_)
            · exact (unhide HI).cells
            clear hHeld
            have hHeld := hHeldN
            clear hHeldN
            clear hK K
            try simp only [Act.put, List.setIfInBounds_toArray, List.set_cons_zero, List.set_cons_succ]
            refine anyH_at (i := 12) (d := some 50) rfl rfl (by kernel_rfl) (by kernel_rfl) (by kernel_rfl) (fun _ _ _ h => h) (by rfl) (v := ?_) ?_ (by assumption) ?_
            rotate_left
            · (intro w hSw; (try dsimp only at hSw); go_simp <;> with_reducible rfl)
            simp only [Act.put, List.setIfInBounds_toArray, List.set_cons_zero, List.set_cons_succ]
            refine wpAnyH_ready (rs := [13]) (by kernel_rfl) (by simp) ?_
            refine AllReadyH.cons rfl (fun K hK => ?_) AllReadyH.nil
            go_simp
            have HI9 := hide ((unhide HI).put (n := nf) (y := 0) (unhide HL6) hnf)
            have HP9 := hide ((unhide HP).set (O := gf) (o := nf) (u := .int .i64 (0)) (fun b hb e => hb.2.1 (by rw [e]; rfl)))
            clear HI HP
            have HI := HI9
            have HP := HP9
            clear HI9 HP9 hq0 hq1 a0 a1 a2 a3 HA
            generalize World.setCell _ _ _ = W9 at *
            refine hK.out _ _ ?_ (fun hHeldN => ?_)
            · exact (unhide HI).cells
            clear hHeld
            have hHeld := hHeldN
            clear hHeldN
            clear hK K
            try simp only [Act.put, List.setIfInBounds_toArray, List.set_cons_zero, List.set_cons_succ]
            refine wpAnyH_done (by kernel_rfl) ?_ _
            clear hHeld
            obtain ⟨x0, x1, x2, x3⟩ := (unhide HI).cells
            obtain ⟨⟨r0, r1, r2, r3⟩, y0, y1, y2, y3⟩ := (unhide HI).cellsR
            go_wp2
            obtain ⟨⟨q0, q1, q2, q3⟩, hd, hrd, hkp, hfar, hs⟩ := (unhide HI).fin rfl
            exact bodyPost_ret (v := .tuple #[.agg #[.slice f1 db.length g1, .slice (some ⟨gf, 0, none⟩) 6 cf, .bool has, .slice f2 jr.length g2], .slice pa ps.length pc]) (by simp [results, Tryz.results45, go_sem, q0, q1, q2, q3]) rfl (by first | exact ⟨⟨db, fl.set nf (0), has, jr⟩, _, _, _, _, rfl, hd, ps, ((unhide HP).keep hs (fun k _ hk => hfar k (by have := hk.1; omega))).weak (fun b hb => ⟨hb.1, hb.2.1⟩), unhide HPR, unhide HPO, p4 + 1 + 1 + 1 + 1, by omega, hrd, hkp⟩ | exact ⟨⟨db, fl.set nf (0), has, jr⟩, _, _, _, _, ps, p4 + 1 + 1 + 1 + 1, rfl, hd, ((unhide HP).keep hs (fun k _ hk => hfar k (by have := hk.1; omega))).weak (fun b hb => ⟨hb.1, hb.2.1⟩), unhide HPR, unhide HPO, by omega, hrd, hkp⟩)
          · skip
            refine anyH_at (i := 10) (d := some 48) rfl rfl (by kernel_rfl) (by kernel_rfl) (by kernel_rfl) (fun _ _ _ h => h) (by rfl) (v := ?_) ?_ (by assumption) ?_
            rotate_left
            · (intro w hSw; (try dsimp only at hSw); go_simp <;> with_reducible rfl)
            simp only [Act.put, List.setIfInBounds_toArray, List.set_cons_zero, List.set_cons_succ]
            refine wpAnyH_ready (rs := [11]) (by kernel_rfl) (by simp) ?_
            refine AllReadyH.cons rfl (fun K hK => ?_) AllReadyH.nil
            go_simp
            refine hK.out _ _ ?_ (fun hHeldN => ?_)
            · exact (unhide HI).cells
            clear hHeld
            have hHeld := hHeldN
            clear hHeldN
            clear hK K
            try simp only [Act.put, List.setIfInBounds_toArray, List.set_cons_zero, List.set_cons_succ]
            refine anyH_at (i := 12) (d := some 50) rfl rfl (by kernel_rfl) (by kernel_rfl) (by kernel_rfl) (fun _ _ _ h => h) (by rfl) (v := ?_) ?_ (by assumption) ?_
            rotate_left
            · (intro w hSw; (try dsimp only at hSw); go_simp <;> with_reducible rfl)
            simp only [Act.put, List.setIfInBounds_toArray, List.set_cons_zero, List.set_cons_succ]
            refine wpAnyH_ready (rs := [13]) (by kernel_rfl) (by simp) ?_
            refine AllReadyH.cons rfl (fun K hK => ?_) AllReadyH.nil
            go_simp
            have HI9 := hide ((unhide HI).put (n := nf) (y := 5) (unhide HL6) hnf)
            have HP9 := hide ((unhide HP).set (O := gf) (o := nf) (u := .int .i64 (5)) (fun b hb e => hb.2.1 (by rw [e]; rfl)))
            clear HI HP
            have HI := HI9
            have HP := HP9
            clear HI9 HP9 hq0 hq1 a0 a1 a2 a3 HA
            generalize World.setCell _ _ _ = W9 at *
            refine hK.out _ _ ?_ (fun hHeldN => ?_)
            · exact (unhide HI).cells
            clear hHeld
            have hHeld := hHeldN
            clear hHeldN
            clear hK K
            try simp only [Act.put, List.setIfInBounds_toArray, List.set_cons_zero, List.set_cons_succ]
            refine wpAnyH_done (by kernel_rfl) ?_ _
            clear hHeld
            obtain ⟨x0, x1, x2, x3⟩ := (unhide HI).cells
            obtain ⟨⟨r0, r1, r2, r3⟩, y0, y1, y2, y3⟩ := (unhide HI).cellsR
            go_wp2
            obtain ⟨⟨q0, q1, q2, q3⟩, hd, hrd, hkp, hfar, hs⟩ := (unhide HI).fin rfl
            exact bodyPost_ret (v := .tuple #[.agg #[.slice f1 db.length g1, .slice (some ⟨gf, 0, none⟩) 6 cf, .bool has, .slice f2 jr.length g2], .slice pa ps.length pc]) (by simp [results, Tryz.results45, go_sem, q0, q1, q2, q3]) rfl (by first | exact ⟨⟨db, fl.set nf (5), has, jr⟩, _, _, _, _, rfl, hd, ps, ((unhide HP).keep hs (fun k _ hk => hfar k (by have := hk.1; omega))).weak (fun b hb => ⟨hb.1, hb.2.1⟩), unhide HPR, unhide HPO, p4 + 1 + 1 + 1 + 1, by omega, hrd, hkp⟩ | exact ⟨⟨db, fl.set nf (5), has, jr⟩, _, _, _, _, ps, p4 + 1 + 1 + 1 + 1, rfl, hd, ((unhide HP).keep hs (fun k _ hk => hfar k (by have := hk.1; omega))).weak (fun b hb => ⟨hb.1, hb.2.1⟩), unhide HPR, unhide HPO, by omega, hrd, hkp⟩)
          · skip
            refine anyH_at (i := 10) (d := some 48) rfl rfl (by kernel_rfl) (by kernel_rfl) (by kernel_rfl) (fun _ _ _ h => h) (by rfl) (v := ?_) ?_ (by assumption) ?_
            rotate_left
            · (intro w hSw; (try dsimp only at hSw); go_simp <;> with_reducible rfl)
            simp only [Act.put, List.setIfInBounds_toArray, List.set_cons_zero, List.set_cons_succ]
            refine wpAnyH_ready (rs := [11]) (by kernel_rfl) (by simp) ?_
            refine AllReadyH.cons rfl (fun K hK => ?_) AllReadyH.nil
            go_simp
            refine hK.out _ _ ?_ (fun hHeldN => ?_)
            · exact (unhide HI).cells
            clear hHeld
            have hHeld := hHeldN
            clear hHeldN
            clear hK K
            try simp only [Act.put, List.setIfInBounds_toArray, List.set_cons_zero, List.set_cons_succ]
            refine anyH_at (i := 12) (d := some 50) rfl rfl (by kernel_rfl) (by kernel_rfl) (by kernel_rfl) (fun _ _ _ h => h) (by rfl) (v := ?_) ?_ (by assumption) ?_
            rotate_left
            · (intro w hSw; (try dsimp only at hSw); go_simp <;> with_reducible rfl)
            simp only [Act.put, List.setIfInBounds_toArray, List.set_cons_zero, List.set_cons_succ]
            refine wpAnyH_ready (rs := [13]) (by kernel_rfl) (by simp) ?_
            refine AllReadyH.cons rfl (fun K hK => ?_) AllReadyH.nil
            go_simp
            have HI9 := hide ((unhide HI).put (n := nf) (y := 10) (unhide HL6) hnf)
            have HP9 := hide ((unhide HP).set (O := gf) (o := nf) (u := .int .i64 (10)) (fun b hb e => hb.2.1 (by rw [e]; rfl)))
            clear HI HP
            have HI := HI9
            have HP := HP9
            clear HI9 HP9 hq0 hq1 a0 a1 a2 a3 HA
            generalize World.setCell _ _ _ = W9 at *
            refine hK.out _ _ ?_ (fun hHeldN => ?_)
            · exact (unhide HI).cells
            clear hHeld
            have hHeld := hHeldN
            clear hHeldN
            clear hK K
            try simp only [Act.put, List.setIfInBounds_toArray, List.set_cons_zero, List.set_cons_succ]
            refine wpAnyH_done (by kernel_rfl) ?_ _
            clear hHeld
            obtain ⟨x0, x1, x2, x3⟩ := (unhide HI).cells
            obtain ⟨⟨r0, r1, r2, r3⟩, y0, y1, y2, y3⟩ := (unhide HI).cellsR
            go_wp2
            obtain ⟨⟨q0, q1, q2, q3⟩, hd, hrd, hkp, hfar, hs⟩ := (unhide HI).fin rfl
            exact bodyPost_ret (v := .tuple #[.agg #[.slice f1 db.length g1, .slice (some ⟨gf, 0, none⟩) 6 cf, .bool has, .slice f2 jr.length g2], .slice pa ps.length pc]) (by simp [results, Tryz.results45, go_sem, q0, q1, q2, q3]) rfl (by first | exact ⟨⟨db, fl.set nf (10), has, jr⟩, _, _, _, _, rfl, hd, ps, ((unhide HP).keep hs (fun k _ hk => hfar k (by have := hk.1; omega))).weak (fun b hb => ⟨hb.1, hb.2.1⟩), unhide HPR, unhide HPO, p4 + 1 + 1 + 1 + 1, by omega, hrd, hkp⟩ | exact ⟨⟨db, fl.set nf (10), has, jr⟩, _, _, _, _, ps, p4 + 1 + 1 + 1 + 1, rfl, hd, ((unhide HP).keep hs (fun k _ hk => hfar k (by have := hk.1; omega))).weak (fun b hb => ⟨hb.1, hb.2.1⟩), unhide HPR, unhide HPO, by omega, hrd, hkp⟩)
        · rw [if_pos (by rfl)]
          go_simp
          refine (pick_any _ blk (p4 + 1 + 1 + 1) 4 (by exact (unhide HI).dr.rd) (by omega) (by omega) (by omega)).mono ?_
          rintro e w9 ⟨v4, rfl, v40, v41, hr4, hk4⟩
          have HP4 := hide ((unhide HP).keep hk4.size (fun k hk1 hN => hk4.block k hk1 (by have := hN.1; have := (unhide HI).dr.lt; omega)))
          replace HI := hide ((unhide HI).keep hk4 hr4)
          replace HP := HP4
          clear hk4 hr4 HP4
          go_wp2_with fail
          refine hK.out _ _ ?_ (fun hHeldN => ?_)
          · exact (unhide HI).cells
          clear hHeld
          have hHeld := hHeldN
          clear hHeldN
          clear hK K
          try simp only [Act.put, List.setIfInBounds_toArray, List.set_cons_zero, List.set_cons_succ]
          refine wpAnyH_ready (rs := [7]) (by kernel_rfl) (by simp) ?_
          refine AllReadyH.cons rfl (fun K hK => ?_) AllReadyH.nil
          go_simp
          have hba := below1 w9 (.cells #[.int .i64 (-3), .int .i64 0, .int .i64 5, .int .i64 10] 3)
          have HA := hide (heap_alloc_new w9 (.cells #[.int .i64 (-3), .int .i64 0, .int .i64 5, .int .i64 10] 3))
          have HLA : Hid (w.heap.size ≤ w9.heap.size) := (unhide HI).dr.size
          replace HI := hide ((unhide HI).later hba)
          replace HP := hide ((unhide HP).later hba)
          clear hba
          generalize w9.heap.size = AA at *
          generalize World.alloc w9 _ = wA at *
          refine hK.out _ _ ?_ (fun hHeldN => ?_)
          · exact (unhide HI).cells
          clear hHeld
          have hHeld := hHeldN
          clear hHeldN
          clear hK K
          try simp only [Act.put, List.setIfInBounds_toArray, List.set_cons_zero, List.set_cons_succ]
          obtain ⟨nf, rfl⟩ := Int.eq_ofNat_of_zero_le v60
          have hnf : nf < 6 := by omega
          have hi0 : (0 : Int) ≤ (nf : Int) := Int.natCast_nonneg _
          have hi1 : (nf : Int) < 6 := by omega
          have hc4 : v4 = 0 ∨ v4 = 1 ∨ v4 = 2 ∨ v4 = 3 := by omega
          obtain ⟨a0, a1, a2, a3⟩ : _ ∧ _ ∧ _ ∧ _ := ⟨cellOf (unhide HA) 0, cellOf (unhide HA) 1, cellOf (unhide HA) 2, cellOf (unhide HA) 3⟩
          obtain ⟨hq0, hq1⟩ := (unhide HI).fileAt (unhide HL6) hnf
          rcases hc4 with rfl | rfl | rfl | rfl
          · skip
            refine anyH_at (i := 10) (d := some 48) rfl rfl (by kernel_rfl) (by kernel_rfl) (by kernel_rfl) (fun _ _ _ h => h) (by rfl) (v := ?_) ?_ (by assumption) ?_
            rotate_left
            · (intro w hSw; (try dsimp only at hSw); go_simp <;> with_reducible rfl)
            simp only [Act.put, List.setIfInBounds_toArray, List.set_cons_zero, List.set_cons_succ]
            refine wpAnyH_ready (rs := [11]) (by kernel_rfl) (by simp) ?_
            refine AllReadyH.cons rfl (fun K hK => ?_) AllReadyH.nil
            go_simp
            refine hK.out _ _ ?_ (fun hHeldN => ?_)
            · exact (unhide HI).cells
            clear hHeld
            have hHeld := hHeldN
            clear hHeldN
            clear hK K
            try simp only [Act.put, List.setIfInBounds_toArray, List.set_cons_zero, List.set_cons_succ]
            refine anyH_at (i := 12) (d := some 50) rfl rfl (by kernel_rfl) (by kernel_rfl) (by kernel_rfl) (fun _ _ _ h => h) (by rfl) (v := ?_) ?_ (by assumption) ?_
            rotate_left
            · (intro w hSw; (try dsimp only at hSw); go_simp <;> with_reducible rfl)
            simp only [Act.put, List.setIfInBounds_toArray, List.set_cons_zero, List.set_cons_succ]
            refine wpAnyH_ready (rs := [13]) (by kernel_rfl) (by simp) ?_
            refine AllReadyH.cons rfl (fun K hK => ?_) AllReadyH.nil
            go_simp
            have HI9 := hide ((unhide HI).put (n := nf) (y := (-3)) (unhide HL6) hnf)
            have HP9 := hide ((unhide HP).set (O := gf) (o := nf) (u := .int .i64 ((-3))) (fun b hb e => hb.2.1 (by rw [e]; rfl)))
            clear HI HP
            have HI := HI9
            have HP := HP9
            clear HI9 HP9 hq0 hq1 a0 a1 a2 a3 HA
            generalize World.setCell _ _ _ = W9 at *
            refine hK.out _ _ ?_ (fun hHeldN => ?_)
            · exact (unhide HI).cells
            clear hHeld
            have hHeld := hHeldN
            clear hHeldN
            clear hK K
            try simp only [Act.put, List.setIfInBounds_toArray, List.set_cons_zero, List.set_cons_succ]
            refine wpAnyH_done (by kernel_rfl) ?_ _
            clear hHeld
            obtain ⟨x0, x1, x2, x3⟩ := (unhide HI).cells
            obtain ⟨⟨r0, r1, r2, r3⟩, y0, y1, y2, y3⟩ := (unhide HI).cellsR
            go_wp2
            obtain ⟨⟨q0, q1, q2, q3⟩, hd, hrd, hkp, hfar, hs⟩ := (unhide HI).fin rfl
            exact bodyPost_ret (v := .tuple #[.agg #[.slice f1 db.length g1, .slice (some ⟨gf, 0, none⟩) 6 cf, .bool has, .slice f2 jr.length g2], .slice pa ps.length pc]) (by simp [results, Tryz.results45, go_sem, q0, q1, q2, q3]) rfl (by first | exact ⟨⟨db, fl.set nf (-3), has, jr⟩, _, _, _, _, rfl, hd, ps, ((unhide HP).keep hs (fun k _ hk => hfar k (by have := hk.1; omega))).weak (fun b hb => ⟨hb.1, hb.2.1⟩), unhide HPR, unhide HPO, p4 + 1 + 1 + 1 + 1, by omega, hrd, hkp⟩ | exact ⟨⟨db, fl.set nf (-3), has, jr⟩, _, _, _, _, ps, p4 + 1 + 1 + 1 + 1, rfl, hd, ((unhide HP).keep hs (fun k _ hk => hfar k (by have := hk.1; omega))).weak (fun b hb => ⟨hb.1, hb.2.1⟩), unhide HPR, unhide HPO, by omega, hrd, hkp⟩)
          · skip
            refine anyH_at (i := 10) (d := some 48) rfl rfl (by kernel_rfl) (by kernel_rfl) (by kernel_rfl) (fun _ _ _ h => h) (by rfl) (v := ?_) ?_ (by assumption) ?_
            rotate_left
            · (intro w hSw; (try dsimp only at hSw); go_simp <;> with_reducible rfl)
            simp only [Act.put, List.setIfInBounds_toArray, List.set_cons_zero, List.set_cons_succ]
            refine wpAnyH_ready (rs := [11]) (by kernel_rfl) (by simp) ?_
            refine AllReadyH.cons rfl (fun K hK => ?_) AllReadyH.nil
            go_simp
            refine hK.out _ _ ?_ (fun hHeldN => ?_)
            · exact (unhide HI).cells
            clear hHeld
            have hHeld := hHeldN
            clear hHeldN
            clear hK K
            try simp only [Act.put, List.setIfInBounds_toArray, List.set_cons_zero, List.set_cons_succ]
            refine anyH_at (i := 12) (d := some 50) rfl rfl (by kernel_rfl) (by kernel_rfl) (by kernel_rfl) (fun _ _ _ h => h) (by rfl) (v := ?_) ?_ (by assumption) ?_
            rotate_left
            · (intro w hSw; (try dsimp only at hSw); go_simp <;> with_reducible rfl)
            simp only [Act.put, List.setIfInBounds_toArray, List.set_cons_zero, List.set_cons_succ]
            refine wpAnyH_ready (rs := [13]) (by kernel_rfl) (by simp) ?_
            refine AllReadyH.cons rfl (fun K hK => ?_) AllReadyH.nil
            go_simp
            have HI9 := hide ((unhide HI).put (n := nf) (y := 0) (unhide HL6) hnf)
            have HP9 := hide ((unhide HP).set (O := gf) (o := nf) (u := .int .i64 (0)) (fun b hb e => hb.2.1 (by rw [e]; rfl)))
            clear HI HP
            have HI := HI9
            have HP := HP9
            clear HI9 HP9 hq0 hq1 a0 a1 a2 a3 HA
            generalize World.setCell _ _ _ = W9 at *
            refine hK.out _ _ ?_ (fun hHeldN => ?_)
            · exact (unhide HI).cells
            clear hHeld
            have hHeld := hHeldN
            clear hHeldN
            clear hK K
            try simp only [Act.put, List.setIfInBounds_toArray, List.set_cons_zero, List.set_cons_succ]
            refine wpAnyH_done (by kernel_rfl) ?_ _
            clear hHeld
            obtain ⟨x0, x1, x2, x3⟩ := (unhide HI).cells
            obtain ⟨⟨r0, r1, r2, r3⟩, y0, y1, y2, y3⟩ := (unhide HI).cellsR
            go_wp2
            obtain ⟨⟨q0, q1, q2, q3⟩, hd, hrd, hkp, hfar, hs⟩ := (unhide HI).fin rfl
            exact bodyPost_ret (v := .tuple #[.agg #[.slice f1 db.length g1, .slice (some ⟨gf, 0, none⟩) 6 cf, .bool has, .slice f2 jr.length g2], .slice pa ps.length pc]) (by simp [results, Tryz.results45, go_sem, q0, q1, q2, q3]) rfl (by first | exact ⟨⟨db, fl.set nf (0), has, jr⟩, _, _, _, _, rfl, hd, ps, ((unhide HP).keep hs (fun k _ hk => hfar k (by have := hk.1; omega))).weak (fun b hb => ⟨hb.1, hb.2.1⟩), unhide HPR, unhide HPO, p4 + 1 + 1 + 1 + 1, by omega, hrd, hkp⟩ | exact ⟨⟨db, fl.set nf (0), has, jr⟩, _, _, _, _, ps, p4 + 1 + 1 + 1 + 1, rfl, hd, ((unhide HP).keep hs (fun k _ hk => hfar k (by have := hk.1; omega))).weak (fun b hb => ⟨hb.1, hb.2.1⟩), unhide HPR, unhide HPO, by omega, hrd, hkp⟩)
          · skip
            refine anyH_at (i := 10) (d := some 48) rfl rfl (by kernel_rfl) (by kernel_rfl) (by kernel_rfl) (fun _ _ _ h => h) (by rfl) (v := ?_) ?_ (by assumption) ?_
            rotate_left
            · (intro w hSw; (try dsimp only at hSw); go_simp <;> with_reducible rfl)
            simp only [Act.put, List.setIfInBounds_toArray, List.set_cons_zero, List.set_cons_succ]
            refine wpAnyH_ready (rs := [11]) (by kernel_rfl) (by simp) ?_
            refine AllReadyH.cons rfl (fun K hK => ?_) AllReadyH.nil
            go_simp
            refine hK.out _ _ ?_ (fun hHeldN => ?_)
            · exact (unhide HI).cells
            clear hHeld
            have hHeld := hHeldN
            clear hHeldN
            clear hK K
            try simp only [Act.put, List.setIfInBounds_toArray, List.set_cons_zero, List.set_cons_succ]
            refine anyH_at (i := 12) (d := some 50) rfl rfl (by kernel_rfl) (by kernel_rfl) (by kernel_rfl) (fun _ _ _ h => h) (by rfl) (v := ?_) ?_ (by assumption) ?_
            rotate_left
            · (intro w hSw; (try dsimp only at hSw); go_simp <;> with_reducible rfl)
            simp only [Act.put, List.setIfInBounds_toArray, List.set_cons_zero, List.set_cons_succ]
            refine wpAnyH_ready (rs := [13]) (by kernel_rfl) (by simp) ?_
            refine AllReadyH.cons rfl (fun K hK => ?_) AllReadyH.nil
            go_simp
            have HI9 := hide ((unhide HI).put (n := nf) (y := 5) (unhide HL6) hnf)
            have HP9 := hide ((unhide HP).set (O := gf) (o := nf) (u := .int .i64 (5)) (fun b hb e => hb.2.1 (by rw [e]; rfl)))
            clear HI HP
            have HI := HI9
            have HP := HP9
            clear HI9 HP9 hq0 hq1 a0 a1 a2 a3 HA
            generalize World.setCell _ _ _ = W9 at *
            refine hK.out _ _ ?_ (fun hHeldN => ?_)
            · exact (unhide HI).cells
            clear hHeld
            have hHeld := hHeldN
            clear hHeldN
            clear hK K
            try simp only [Act.put, List.setIfInBounds_toArray, List.set_cons_zero, List.set_cons_succ]
            refine wpAnyH_done (by kernel_rfl) ?_ _
            clear hHeld
            obtain ⟨x0, x1, x2, x3⟩ := (unhide HI).cells
            obtain ⟨⟨r0, r1, r2, r3⟩, y0, y1, y2, y3⟩ := (unhide HI).cellsR
            go_wp2
            obtain ⟨⟨q0, q1, q2, q3⟩, hd, hrd, hkp, hfar, hs⟩ := (unhide HI).fin rfl
            exact bodyPost_ret (v := .tuple #[.agg #[.slice f1 db.length g1, .slice (some ⟨gf, 0, none⟩) 6 cf, .bool has, .slice f2 jr.length g2], .slice pa ps.length pc]) (by simp [results, Tryz.results45, go_sem, q0, q1, q2, q3]) rfl (by first | exact ⟨⟨db, fl.set nf (5), has, jr⟩, _, _, _, _, rfl, hd, ps, ((unhide HP).keep hs (fun k _ hk => hfar k (by have := hk.1; omega))).weak (fun b hb => ⟨hb.1, hb.2.1⟩), unhide HPR, unhide HPO, p4 + 1 + 1 + 1 + 1, by omega, hrd, hkp⟩ | exact ⟨⟨db, fl.set nf (5), has, jr⟩, _, _, _, _, ps, p4 + 1 + 1 + 1 + 1, rfl, hd, ((unhide HP).keep hs (fun k _ hk => hfar k (by have := hk.1; omega))).weak (fun b hb => ⟨hb.1, hb.2.1⟩), unhide HPR, unhide HPO, by omega, hrd, hkp⟩)
          · skip
            refine anyH_at (i := 10) (d := some 48) rfl rfl (by kernel_rfl) (by kernel_rfl) (by kernel_rfl) (fun _ _ _ h => h) (by rfl) (v := ?_) ?_ (by assumption) ?_
            rotate_left
            · (intro w hSw; (try dsimp only at hSw); go_simp <;> with_reducible rfl)
            simp only [Act.put, List.setIfInBounds_toArray, List.set_cons_zero, List.set_cons_succ]
            refine wpAnyH_ready (rs := [11]) (by kernel_rfl) (by simp) ?_
            refine AllReadyH.cons rfl (fun K hK => ?_) AllReadyH.nil
            go_simp
            refine hK.out _ _ ?_ (fun hHeldN => ?_)
            · exact (unhide HI).cells
            clear hHeld
            have hHeld := hHeldN
            clear hHeldN
            clear hK K
            try simp only [Act.put, List.setIfInBounds_toArray, List.set_cons_zero, List.set_cons_succ]
            refine anyH_at (i := 12) (d := some 50) rfl rfl (by kernel_rfl) (by kernel_rfl) (by kernel_rfl) (fun _ _ _ h => h) (by rfl) (v := ?_) ?_ (by assumption) ?_
            rotate_left
            · (intro w hSw; (try dsimp only at hSw); go_simp <;> with_reducible rfl)
            simp only [Act.put, List.setIfInBounds_toArray, List.set_cons_zero, List.set_cons_succ]
            refine wpAnyH_ready (rs := [13]) (by kernel_rfl) (by simp) ?_
            refine AllReadyH.cons rfl (fun K hK => ?_) AllReadyH.nil
            go_simp
            have HI9 := hide ((unhide HI).put (n := nf) (y := 10) (unhide HL6) hnf)
            have HP9 := hide ((unhide HP).set (O := gf) (o := nf) (u := .int .i64 (10)) (fun b hb e => hb.2.1 (by rw [e]; rfl)))
            clear HI HP
            have HI := HI9
            have HP := HP9
            clear HI9 HP9 hq0 hq1 a0 a1 a2 a3 HA
            generalize World.setCell _ _ _ = W9 at *
            refine hK.out _ _ ?_ (fun hHeldN => ?_)
            · exact (unhide HI).cells
            clear hHeld
            have hHeld := hHeldN
            clear hHeldN
            clear hK K
            try simp only [Act.put, List.setIfInBounds_toArray, List.set_cons_zero, List.set_cons_succ]
            refine wpAnyH_done (by kernel_rfl) ?_ _
            clear hHeld
            obtain ⟨x0, x1, x2, x3⟩ := (unhide HI).cells
            obtain ⟨⟨r0, r1, r2, r3⟩, y0, y1, y2, y3⟩ := (unhide HI).cellsR
            go_wp2
            obtain ⟨⟨q0, q1, q2, q3⟩, hd, hrd, hkp, hfar, hs⟩ := (unhide HI).fin rfl
            exact bodyPost_ret (v := .tuple #[.agg #[.slice f1 db.length g1, .slice (some ⟨gf, 0, none⟩) 6 cf, .bool has, .slice f2 jr.length g2], .slice pa ps.length pc]) (by simp [results, Tryz.results45, go_sem, q0, q1, q2, q3]) rfl (by first | exact ⟨⟨db, fl.set nf (10), has, jr⟩, _, _, _, _, rfl, hd, ps, ((unhide HP).keep hs (fun k _ hk => hfar k (by have := hk.1; omega))).weak (fun b hb => ⟨hb.1, hb.2.1⟩), unhide HPR, unhide HPO, p4 + 1 + 1 + 1 + 1, by omega, hrd, hkp⟩ | exact ⟨⟨db, fl.set nf (10), has, jr⟩, _, _, _, _, ps, p4 + 1 + 1 + 1 + 1, rfl, hd, ((unhide HP).keep hs (fun k _ hk => hfar k (by have := hk.1; omega))).weak (fun b hb => ⟨hb.1, hb.2.1⟩), unhide HPR, unhide HPO, by omega, hrd, hkp⟩)
      · rw [if_pos (by rfl)]
        go_simp
        have hba := below1 w3.drew (.cells #[.int .i64 (-3), .int .i64 0, .int .i64 5, .int .i64 10] 3)
        have HA : Hid ((w3.alloc (.cells #[.int .i64 (-3), .int .i64 0, .int .i64 5, .int .i64 10] 3)).drew.heap[w3.heap.size]? = some (.cells #[.int .i64 (-3), .int .i64 0, .int .i64 5, .int .i64 10] 3 (0, 0))) := heap_alloc_new w3 (.cells #[.int .i64 (-3), .int .i64 0, .int .i64 5, .int .i64 10] 3)
        have HLA : Hid (w.heap.size ≤ w3.heap.size) := (unhide HI).dr.size
        have hIn := (unhide HI).later hba
        have hPn := (unhide HP).later hba
        rw [show w3.drew.alloc (.cells #[.int .i64 (-3), .int .i64 0, .int .i64 5, .int .i64 10] 3) = (w3.alloc (.cells #[.int .i64 (-3), .int .i64 0, .int .i64 5, .int .i64 10] 3)).drew from rfl] at hIn hPn
        clear HI HP
        have HI := hide hIn
        have HP := hide hPn
        clear hba hIn hPn
        generalize w3.heap.size = AA at *
        generalize World.drew (World.alloc w3 _) = w3x at *
        refine hK.out _ _ ?_ (fun hHeldN => ?_)
        · exact (unhide HI).cells
        clear hHeld
        have hHeld := hHeldN
        clear hHeldN
        clear hK K
        try simp only [Act.put, List.setIfInBounds_toArray, List.set_cons_zero, List.set_cons_succ]
        refine wpAnyH_ready (rs := [6]) (by kernel_rfl) (by simp) ?_
        refine AllReadyH.cons rfl (fun K hK => ?_) AllReadyH.nil
        go_simp
        refine (pick_any _ blk (p4 + 1 + 1) 6 (by exact (unhide HI).dr.rd) (by omega) (by omega) (by omega)).mono ?_
        rintro e w8 ⟨v6, rfl, v60, v61, hr6, hk6⟩
        have HP6 := hide ((unhide HP).keep hk6.size (fun k hk1 hN => hk6.block k hk1 (by have := hN.1; have := (unhide HI).dr.lt; omega)))
        replace HA := hide ((unhide HI).dr.box hk6 (unhide HLA) (unhide HA))
        replace HI := hide ((unhide HI).keep hk6 hr6)
        replace HP := HP6
        clear hk6 hr6 HP6
        go_wp2_with fail
        refine hK.out _ _ ?_ (fun hHeldN => ?_)
        · exact (unhide HI).cells
        clear hHeld
        have hHeld := hHeldN
        clear hHeldN
        clear hK K
        try simp only [Act.put, List.setIfInBounds_toArray, List.set_cons_zero, List.set_cons_succ]
        refine wpAnyH_ready (rs := [9]) (by kernel_rfl) (by simp) ?_
        refine AllReadyH.cons rfl (fun K hK => ?_) AllReadyH.nil
        go_simp
        refine (pick_any _ blk (p4 + 1 + 1 + 1) 4 (by exact (unhide HI).dr.rd) (by omega) (by omega) (by omega)).mono ?_
        rintro e w9 ⟨v4, rfl, v40, v41, hr4, hk4⟩
        have HP4 := hide ((unhide HP).keep hk4.size (fun k hk1 hN => hk4.block k hk1 (by have := hN.1; have := (unhide HI).dr.lt; omega)))
        replace HA := hide ((unhide HI).dr.box hk4 (unhide HLA) (unhide HA))
        replace HI := hide ((unhide HI).keep hk4 hr4)
        replace HP := HP4
        clear hk4 hr4 HP4
        go_wp2_with fail
        refine hK.out _ _ ?_ (fun hHeldN => ?_)
        · exact (unhide HI).cells
        clear hHeld
        have hHeld := hHeldN
        clear hHeldN
        clear hK K
        try simp only [Act.put, List.setIfInBounds_toArray, List.set_cons_zero, List.set_cons_succ]
        obtain ⟨nf, rfl⟩ := Int.eq_ofNat_of_zero_le v60
        have hnf : nf < 6 := by omega
        have hi0 : (0 : Int) ≤ (nf : Int) := Int.natCast_nonneg _
        have hi1 : (nf : Int) < 6 := by omega
        have hc4 : v4 = 0 ∨ v4 = 1 ∨ v4 = 2 ∨ v4 = 3 := by omega
        obtain ⟨a0, a1, a2, a3⟩ : _ ∧ _ ∧ _ ∧ _ := ⟨cellOf (unhide HA) 0, cellOf (unhide HA) 1, cellOf (unhide HA) 2, cellOf (unhide HA) 3⟩
        obtain ⟨hq0, hq1⟩ := (unhide HI).fileAt (unhide HL6) hnf
        rcases hc4 with rfl | rfl | rfl | rfl
        · skip
          refine anyH_at (i := 10) (d := some 48) rfl rfl (by kernel_rfl) (by kernel_rfl) (by kernel_rfl) (fun _ _ _ h => h) (by rfl) (v := ?_) ?_ (by assumption) ?_
          rotate_left
          · (intro w hSw; (try dsimp only at hSw); go_simp <;> with_reducible rfl)
          simp only [Act.put, List.setIfInBounds_toArray, List.set_cons_zero, List.set_cons_succ]
          refine wpAnyH_ready (rs := [11]) (by kernel_rfl) (by simp) ?_
          refine AllReadyH.cons rfl (fun K hK => ?_) AllReadyH.nil
          go_simp
          refine hK.out _ _ ?_ (fun hHeldN => ?_)
          · exact (unhide HI).cells
          clear hHeld
          have hHeld := hHeldN
          clear hHeldN
          clear hK K
          try simp only [Act.put, List.setIfInBounds_toArray, List.set_cons_zero, List.set_cons_succ]
          refine anyH_at (i := 12) (d := some 50) rfl rfl (by kernel_rfl) (by kernel_rfl) (by kernel_rfl) (fun _ _ _ h => h) (by rfl) (v := ?_) ?_ (by assumption) ?_
          rotate_left
          · (intro w hSw; (try dsimp only at hSw); go_simp <;> with_reducible rfl)
          simp only [Act.put, List.setIfInBounds_toArray, List.set_cons_zero, List.set_cons_succ]
          refine wpAnyH_ready (rs := [13]) (by kernel_rfl) (by simp) ?_
          refine AllReadyH.cons rfl (fun K hK => ?_) AllReadyH.nil
          go_simp
          have HI9 := hide ((unhide HI).put (n := nf) (y := (-3)) (unhide HL6) hnf)
          have HP9 := hide ((unhide HP).set (O := gf) (o := nf) (u := .int .i64 ((-3))) (fun b hb e => hb.2.1 (by rw [e]; rfl)))
          clear HI HP
          have HI := HI9
          have HP := HP9
          clear HI9 HP9 hq0 hq1 a0 a1 a2 a3 HA
          generalize World.setCell _ _ _ = W9 at *
          refine hK.out _ _ ?_ (fun hHeldN => ?_)
          · exact (unhide HI).cells
          clear hHeld
          have hHeld := hHeldN
          clear hHeldN
          clear hK K
          try simp only [Act.put, List.setIfInBounds_toArray, List.set_cons_zero, List.set_cons_succ]
          refine wpAnyH_done (by kernel_rfl) ?_ _
          clear hHeld
          obtain ⟨x0, x1, x2, x3⟩ := (unhide HI).cells
          obtain ⟨⟨r0, r1, r2, r3⟩, y0, y1, y2, y3⟩ := (unhide HI).cellsR
          go_wp2
          obtain ⟨⟨q0, q1, q2, q3⟩, hd, hrd, hkp, hfar, hs⟩ := (unhide HI).fin rfl
          exact bodyPost_ret (v := .tuple #[.agg #[.slice f1 db.length g1, .slice (some ⟨gf, 0, none⟩) 6 cf, .bool has, .slice f2 jr.length g2], .slice pa ps.length pc]) (by simp [results, Tryz.results45, go_sem, q0, q1, q2, q3]) rfl (by first | exact ⟨⟨db, fl.set nf (-3), has, jr⟩, _, _, _, _, rfl, hd, ps, ((unhide HP).keep hs (fun k _ hk => hfar k (by have := hk.1; omega))).weak (fun b hb => ⟨hb.1, hb.2.1⟩), unhide HPR, unhide HPO, p4 + 1 + 1 + 1 + 1, by omega, hrd, hkp⟩ | exact ⟨⟨db, fl.set nf (-3), has, jr⟩, _, _, _, _, ps, p4 + 1 + 1 + 1 + 1, rfl, hd, ((unhide HP).keep hs (fun k _ hk => hfar k (by have := hk.1; omega))).weak (fun b hb => ⟨hb.1, hb.2.1⟩), unhide HPR, unhide HPO, by omega, hrd, hkp⟩)
        · skip
          refine anyH_at (i := 10) (d := some 48) rfl rfl (by kernel_rfl) (by kernel_rfl) (by kernel_rfl) (fun _ _ _ h => h) (by rfl) (v := ?_) ?_ (by assumption) ?_
          rotate_left
          · (intro w hSw; (try dsimp only at hSw); go_simp <;> with_reducible rfl)
          simp only [Act.put, List.setIfInBounds_toArray, List.set_cons_zero, List.set_cons_succ]
          refine wpAnyH_ready (rs := [11]) (by kernel_rfl) (by simp) ?_
          refine AllReadyH.cons rfl (fun K hK => ?_) AllReadyH.nil
          go_simp
          refine hK.out _ _ ?_ (fun hHeldN => ?_)
          · exact (unhide HI).cells
          clear hHeld
          have hHeld := hHeldN
          clear hHeldN
          clear hK K
          try simp only [Act.put, List.setIfInBounds_toArray, List.set_cons_zero, List.set_cons_succ]
          refine anyH_at (i := 12) (d := some 50) rfl rfl (by kernel_rfl) (by kernel_rfl) (by kernel_rfl) (fun _ _ _ h => h) (by rfl) (v := ?_) ?_ (by assumption) ?_
          rotate_left
          · (intro w hSw; (try dsimp only at hSw); go_simp <;> with_reducible rfl)
          simp only [Act.put, List.setIfInBounds_toArray, List.set_cons_zero, List.set_cons_succ]
          refine wpAnyH_ready (rs := [13]) (by kernel_rfl) (by simp) ?_
          refine AllReadyH.cons rfl (fun K hK => ?_) AllReadyH.nil
          go_simp
          have HI9 := hide ((unhide HI).put (n := nf) (y := 0) (unhide HL6) hnf)
          have HP9 := hide ((unhide HP).set (O := gf) (o := nf) (u := .int .i64 (0)) (fun b hb e => hb.2.1 (by rw [e]; rfl)))
          clear HI HP
          have HI := HI9
          have HP := HP9
          clear HI9 HP9 hq0 hq1 a0 a1 a2 a3 HA
          generalize World.setCell _ _ _ = W9 at *
          refine hK.out _ _ ?_ (fun hHeldN => ?_)
          · exact (unhide HI).cells
          clear hHeld
          have hHeld := hHeldN
          clear hHeldN
          clear hK K
          try simp only [Act.put, List.setIfInBounds_toArray, List.set_cons_zero, List.set_cons_succ]
          refine wpAnyH_done (by kernel_rfl) ?_ _
          clear hHeld
          obtain ⟨x0, x1, x2, x3⟩ := (unhide HI).cells
          obtain ⟨⟨r0, r1, r2, r3⟩, y0, y1, y2, y3⟩ := (unhide HI).cellsR
          go_wp2
          obtain ⟨⟨q0, q1, q2, q3⟩, hd, hrd, hkp, hfar, hs⟩ := (unhide HI).fin rfl
          exact bodyPost_ret (v := .tuple #[.agg #[.slice f1 db.length g1, .slice (some ⟨gf, 0, none⟩) 6 cf, .bool has, .slice f2 jr.length g2], .slice pa ps.length pc]) (by simp [results, Tryz.results45, go_sem, q0, q1, q2, q3]) rfl (by first | exact ⟨⟨db, fl.set nf (0), has, jr⟩, _, _, _, _, rfl, hd, ps, ((unhide HP).keep hs (fun k _ hk => hfar k (by have := hk.1; omega))).weak (fun b hb => ⟨hb.1, hb.2.1⟩), unhide HPR, unhide HPO, p4 + 1 + 1 + 1 + 1, by omega, hrd, hkp⟩ | exact ⟨⟨db, fl.set nf (0), has, jr⟩, _, _, _, _, ps, p4 + 1 + 1 + 1 + 1, rfl, hd, ((unhide HP).keep hs (fun k _ hk => hfar k (by have := hk.1; omega))).weak (fun b hb => ⟨hb.1, hb.2.1⟩), unhide HPR, unhide HPO, by omega, hrd, hkp⟩)
        · skip
          refine anyH_at (i := 10) (d := some 48) rfl rfl (by kernel_rfl) (by kernel_rfl) (by kernel_rfl) (fun _ _ _ h => h) (by rfl) (v := ?_) ?_ (by assumption) ?_
          rotate_left
          · (intro w hSw; (try dsimp only at hSw); go_simp <;> with_reducible rfl)
          simp only [Act.put, List.setIfInBounds_toArray, List.set_cons_zero, List.set_cons_succ]
          refine wpAnyH_ready (rs := [11]) (by kernel_rfl) (by simp) ?_
          refine AllReadyH.cons rfl (fun K hK => ?_) AllReadyH.nil
          go_simp
          refine hK.out _ _ ?_ (fun hHeldN => ?_)
          · exact (unhide HI).cells
          clear hHeld
          have hHeld := hHeldN
          clear hHeldN
          clear hK K
          try simp only [Act.put, List.setIfInBounds_toArray, List.set_cons_zero, List.set_cons_succ]
          refine anyH_at (i := 12) (d := some 50) rfl rfl (by kernel_rfl) (by kernel_rfl) (by kernel_rfl) (fun _ _ _ h => h) (by rfl) (v := ?_) ?_ (by assumption) ?_
          rotate_left
          · (intro w hSw; (try dsimp only at hSw); go_simp <;> with_reducible rfl)
          simp only [Act.put, List.setIfInBounds_toArray, List.set_cons_zero, List.set_cons_succ]
          refine wpAnyH_ready (rs := [13]) (by kernel_rfl) (by simp) ?_
          refine AllReadyH.cons rfl (fun K hK => ?_) AllReadyH.nil
          go_simp
          have HI9 := hide ((unhide HI).put (n := nf) (y := 5) (unhide HL6) hnf)
          have HP9 := hide ((unhide HP).set (O := gf) (o := nf) (u := .int .i64 (5)) (fun b hb e => hb.2.1 (by rw [e]; rfl)))
          clear HI HP
          have HI := HI9
          have HP := HP9
          clear HI9 HP9 hq0 hq1 a0 a1 a2 a3 HA
          generalize World.setCell _ _ _ = W9 at *
          refine hK.out _ _ ?_ (fun hHeldN => ?_)
          · exact (unhide HI).cells
          clear hHeld
          have hHeld := hHeldN
          clear hHeldN
          clear hK K
          try simp only [Act.put, List.setIfInBounds_toArray, List.set_cons_zero, List.set_cons_succ]
          refine wpAnyH_done (by kernel_rfl) ?_ _
          clear hHeld
          obtain ⟨x0, x1, x2, x3⟩ := (unhide HI).cells
          obtain ⟨⟨r0, r1, r2, r3⟩, y0, y1, y2, y3⟩ := (unhide HI).cellsR
          go_wp2
          obtain ⟨⟨q0, q1, q2, q3⟩, hd, hrd, hkp, hfar, hs⟩ := (unhide HI).fin rfl
          exact bodyPost_ret (v := .tuple #[.agg #[.slice f1 db.length g1, .slice (some ⟨gf, 0, none⟩) 6 cf, .bool has, .slice f2 jr.length g2], .slice pa ps.length pc]) (by simp [results, Tryz.results45, go_sem, q0, q1, q2, q3]) rfl (by first | exact ⟨⟨db, fl.set nf (5), has, jr⟩, _, _, _, _, rfl, hd, ps, ((unhide HP).keep hs (fun k _ hk => hfar k (by have := hk.1; omega))).weak (fun b hb => ⟨hb.1, hb.2.1⟩), unhide HPR, unhide HPO, p4 + 1 + 1 + 1 + 1, by omega, hrd, hkp⟩ | exact ⟨⟨db, fl.set nf (5), has, jr⟩, _, _, _, _, ps, p4 + 1 + 1 + 1 + 1, rfl, hd, ((unhide HP).keep hs (fun k _ hk => hfar k (by have := hk.1; omega))).weak (fun b hb => ⟨hb.1, hb.2.1⟩), unhide HPR, unhide HPO, by omega, hrd, hkp⟩)
        · skip
          refine anyH_at (i := 10) (d := some 48) rfl rfl (by kernel_rfl) (by kernel_rfl) (by kernel_rfl) (fun _ _ _ h => h) (by rfl) (v := ?_) ?_ (by assumption) ?_
          rotate_left
          · (intro w hSw; (try dsimp only at hSw); go_simp <;> with_reducible rfl)
          simp only [Act.put, List.setIfInBounds_toArray, List.set_cons_zero, List.set_cons_succ]
          refine wpAnyH_ready (rs := [11]) (by kernel_rfl) (by simp) ?_
          refine AllReadyH.cons rfl (fun K hK => ?_) AllReadyH.nil
          go_simp
          refine hK.out _ _ ?_ (fun hHeldN => ?_)
          · exact (unhide HI).cells
          clear hHeld
          have hHeld := hHeldN
          clear hHeldN
          clear hK K
          try simp only [Act.put, List.setIfInBounds_toArray, List.set_cons_zero, List.set_cons_succ]
          refine anyH_at (i := 12) (d := some 50) rfl rfl (by kernel_rfl) (by kernel_rfl) (by kernel_rfl) (fun _ _ _ h => h) (by rfl) (v := ?_) ?_ (by assumption) ?_
          rotate_left
          · (intro w hSw; (try dsimp only at hSw); go_simp <;> with_reducible rfl)
          simp only [Act.put, List.setIfInBounds_toArray, List.set_cons_zero, List.set_cons_succ]
          refine wpAnyH_ready (rs := [13]) (by kernel_rfl) (by simp) ?_
          refine AllReadyH.cons rfl (fun K hK => ?_) AllReadyH.nil
          go_simp
          have HI9 := hide ((unhide HI).put (n := nf) (y := 10) (unhide HL6) hnf)
          have HP9 := hide ((unhide HP).set (O := gf) (o := nf) (u := .int .i64 (10)) (fun b hb e => hb.2.1 (by rw [e]; rfl)))
          clear HI HP
          have HI := HI9
          have HP := HP9
          clear HI9 HP9 hq0 hq1 a0 a1 a2 a3 HA
          generalize World.setCell _ _ _ = W9 at *
          refine hK.out _ _ ?_ (fun hHeldN => ?_)
          · exact (unhide HI).cells
          clear hHeld
          have hHeld := hHeldN
          clear hHeldN
          clear hK K
          try simp only [Act.put, List.setIfInBounds_toArray, List.set_cons_zero, List.set_cons_succ]
          refine wpAnyH_done (by kernel_rfl) ?_ _
          clear hHeld
          obtain ⟨x0, x1, x2, x3⟩ := (unhide HI).cells
          obtain ⟨⟨r0, r1, r2, r3⟩, y0, y1, y2, y3⟩ := (unhide HI).cellsR
          go_wp2
          obtain ⟨⟨q0, q1, q2, q3⟩, hd, hrd, hkp, hfar, hs⟩ := (unhide HI).fin rfl
          exact bodyPost_ret (v := .tuple #[.agg #[.slice f1 db.length g1, .slice (some ⟨gf, 0, none⟩) 6 cf, .bool has, .slice f2 jr.length g2], .slice pa ps.length pc]) (by simp [results, Tryz.results45, go_sem, q0, q1, q2, q3]) rfl (by first | exact ⟨⟨db, fl.set nf (10), has, jr⟩, _, _, _, _, rfl, hd, ps, ((unhide HP).keep hs (fun k _ hk => hfar k (by have := hk.1; omega))).weak (fun b hb => ⟨hb.1, hb.2.1⟩), unhide HPR, unhide HPO, p4 + 1 + 1 + 1 + 1, by omega, hrd, hkp⟩ | exact ⟨⟨db, fl.set nf (10), has, jr⟩, _, _, _, _, ps, p4 + 1 + 1 + 1 + 1, rfl, hd, ((unhide HP).keep hs (fun k _ hk => hfar k (by have := hk.1; omega))).weak (fun b hb => ⟨hb.1, hb.2.1⟩), unhide HPR, unhide HPO, by omega, hrd, hkp⟩)
    have h0' : (v3 == 0) = false := by simpa using h0
    by_cases h1 : v3 = 1
    · subst h1
      obtain ⟨x0, x1, x2, x3⟩ := (unhide HI).cells
      obtain ⟨y0, y1, y2, y3⟩ := (unhide HI).fr
      have HIp := hide ((unhide HI).setHas (!has))
      have HPp := hide ((unhide HP).set (O := X) (o := 2) (u := .bool (!has)) (fun b hb => hb.2.2))
      clear HI HP
      have HI := HIp
      have HP := HPp
      clear HIp HPp
      dsimp only at HI
      go_upto_region 16 with fail
      generalize World.setCell _ _ _ = W9 at *
      clear x0 x1 x2 x3 y0 y1 y2 y3
      obtain ⟨x0, x1, x2, x3⟩ := (unhide HI).cells
      obtain ⟨⟨r0, r1, r2, r3⟩, y0, y1, y2, y3⟩ := (unhide HI).cellsR
      go_wp2
      obtain ⟨⟨q0, q1, q2, q3⟩, hd, hrd, hkp, hfar, hs⟩ := (unhide HI).fin rfl
      exact bodyPost_ret (v := .tuple #[.agg #[.slice f1 db.length g1, .slice (some ⟨gf, 0, none⟩) 6 cf, .bool (!has), .slice f2 jr.length g2], .slice pa ps.length pc]) (by simp [results, Tryz.results45, go_sem, q0, q1, q2, q3]) rfl (by first | exact ⟨⟨db, fl, !has, jr⟩, _, _, _, _, rfl, hd, ps, ((unhide HP).keep hs (fun k _ hk => hfar k (by have := hk.1; omega))).weak (fun b hb => ⟨hb.1, hb.2.1⟩), unhide HPR, unhide HPO, p4 + 1 + 1, by omega, hrd, hkp⟩ | exact ⟨⟨db, fl, !has, jr⟩, _, _, _, _, ps, p4 + 1 + 1, rfl, hd, ((unhide HP).keep hs (fun k _ hk => hfar k (by have := hk.1; omega))).weak (fun b hb => ⟨hb.1, hb.2.1⟩), unhide HPR, unhide HPO, by omega, hrd, hkp⟩)
    have h1' : (v3 == 1) = false := by simpa using h1
    by_cases h2 : v3 = 2
    · subst h2
      obtain ⟨x0, x1, x2, x3⟩ := (unhide HI).cells
      obtain ⟨y0, y1, y2, y3⟩ := (unhide HI).fr
      have hcf : 6 ≤ cf := by
        obtain ⟨_, _, e, hc, _⟩ := (unhide HI).pf
        injection e with _ _ e
        have := unhide HL6
        dsimp only at hc
        omega
      have HIp := hide ((unhide HI).setCut (unhide HL6))
      have HPp := hide ((unhide HP).set (O := X) (o := 1) (u := .slice (some ⟨gf, 1, none⟩) 5 (cf - 1)) (fun b hb => hb.2.2))
      clear HI HP
      have HI := HIp
      have HP := HPp
      clear HIp HPp
      dsimp only at HI
      go_upto_region 16 with fail
      generalize World.setCell _ _ _ = W9 at *
      clear x0 x1 x2 x3 y0 y1 y2 y3
      obtain ⟨x0, x1, x2, x3⟩ := (unhide HI).cells
      obtain ⟨⟨r0, r1, r2, r3⟩, y0, y1, y2, y3⟩ := (unhide HI).cellsR
      go_wp2
      obtain ⟨⟨q0, q1, q2, q3⟩, hd, hrd, hkp, hfar, hs⟩ := (unhide HI).fin rfl
      exact bodyPost_ret (v := .tuple #[.agg #[.slice f1 db.length g1, .slice (some ⟨gf, 1, none⟩) 5 (cf - 1), .bool has, .slice f2 jr.length g2], .slice pa ps.length pc]) (by simp [results, Tryz.results45, go_sem, q0, q1, q2, q3]) rfl (by first | exact ⟨⟨db, fl.drop 1, has, jr⟩, _, _, _, _, rfl, hd, ps, ((unhide HP).keep hs (fun k _ hk => hfar k (by have := hk.1; omega))).weak (fun b hb => ⟨hb.1, hb.2.1⟩), unhide HPR, unhide HPO, p4 + 1 + 1, by omega, hrd, hkp⟩ | exact ⟨⟨db, fl.drop 1, has, jr⟩, _, _, _, _, ps, p4 + 1 + 1, rfl, hd, ((unhide HP).keep hs (fun k _ hk => hfar k (by have := hk.1; omega))).weak (fun b hb => ⟨hb.1, hb.2.1⟩), unhide HPR, unhide HPO, by omega, hrd, hkp⟩)
    have h2' : (v3 == 2) = false := by simpa using h2
    by_cases h3 : v3 = 3
    · subst h3
      go_wp2_with fail
      refine (off_draw _ blk (p4 + 1 + 1) (by exact (unhide HI).dr.rd) (Nat.le_trans hB (unhide HI).dr.size) (by omega)).mono ?_
      rintro e w4 ⟨ov, os, p5, rfl, hP5, hrm5, hp5, hr5, hk5⟩
      obtain ⟨oa, oc, hov⟩ := hP5.slice
      subst hov
      have hPn := hP5.nx ((unhide HI).sz6 (unhide HL6))
      replace HP := hide ((unhide HP).keep hk5.size (fun k hk1 hN => hk5.block k hk1 (by have := hN.1; have := (unhide HI).dr.lt; omega)))
      replace HI := hide ((unhide HI).keep hk5 hr5)
      obtain ⟨x0, x1, x2, x3⟩ := (unhide HI).cells
      obtain ⟨y0, y1, y2, y3⟩ := (unhide HI).fr
      have HIp := hide ((unhide HI).setDb hPn hrm5)
      have HPp := hide ((unhide HP).set (O := X) (o := 0) (u := .slice oa os.length oc) (fun b hb => hb.2.2))
      clear HI HP hr5 hk5 hPn hP5 hrm5
      have HI := HIp
      have HP := HPp
      clear HIp HPp
      dsimp only at HI
      go_upto_region 16 with fail
      generalize World.setCell _ _ _ = W9 at *
      clear x0 x1 x2 x3 y0 y1 y2 y3
      obtain ⟨x0, x1, x2, x3⟩ := (unhide HI).cells
      obtain ⟨⟨r0, r1, r2, r3⟩, y0, y1, y2, y3⟩ := (unhide HI).cellsR
      go_wp2
      obtain ⟨⟨q0, q1, q2, q3⟩, hd, hrd, hkp, hfar, hs⟩ := (unhide HI).fin rfl
      exact bodyPost_ret (v := .tuple #[.agg #[.slice oa os.length oc, .slice (some ⟨gf, 0, none⟩) 6 cf, .bool has, .slice f2 jr.length g2], .slice pa ps.length pc]) (by simp [results, Tryz.results45, go_sem, q0, q1, q2, q3]) rfl (by first | exact ⟨⟨os, fl, has, jr⟩, _, _, _, _, rfl, hd, ps, ((unhide HP).keep hs (fun k _ hk => hfar k (by have := hk.1; omega))).weak (fun b hb => ⟨hb.1, hb.2.1⟩), unhide HPR, unhide HPO, p5, by omega, hrd, hkp⟩ | exact ⟨⟨os, fl, has, jr⟩, _, _, _, _, ps, p5, rfl, hd, ((unhide HP).keep hs (fun k _ hk => hfar k (by have := hk.1; omega))).weak (fun b hb => ⟨hb.1, hb.2.1⟩), unhide HPR, unhide HPO, by omega, hrd, hkp⟩)
    have h3' : (v3 == 3) = false := by simpa using h3
    clear h0 h1 h2 h3
    obtain ⟨x0, x1, x2, x3⟩ := (unhide HI).cells
    obtain ⟨⟨r0, r1, r2, r3⟩, y0, y1, y2, y3⟩ := (unhide HI).cellsR
    go_wp2
    obtain ⟨⟨q0, q1, q2, q3⟩, hd, hrd, hkp, hfar, hs⟩ := (unhide HI).fin rfl
    exact bodyPost_ret (v := .tuple #[.agg #[.slice f1 db.length g1, .slice (some ⟨gf, 0, none⟩) 6 cf, .bool has, .slice f2 jr.length g2], .slice pa ps.length pc]) (by simp [results, Tryz.results45, go_sem, q0, q1, q2, q3]) rfl (by first | exact ⟨⟨db, fl, has, jr⟩, _, _, _, _, rfl, hd, ps, ((unhide HP).keep hs (fun k _ hk => hfar k (by have := hk.1; omega))).weak (fun b hb => ⟨hb.1, hb.2.1⟩), unhide HPR, unhide HPO, p4 + 1 + 1, by omega, hrd, hkp⟩ | exact ⟨⟨db, fl, has, jr⟩, _, _, _, _, ps, p4 + 1 + 1, rfl, hd, ((unhide HP).keep hs (fun k _ hk => hfar k (by have := hk.1; omega))).weak (fun b hb => ⟨hb.1, hb.2.1⟩), unhide HPR, unhide HPO, by omega, hrd, hkp⟩)

end Go.Proofs.YtkhanndmbpemfaaGreatDoor
