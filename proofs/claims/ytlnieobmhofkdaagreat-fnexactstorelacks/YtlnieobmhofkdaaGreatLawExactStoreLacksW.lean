import Derived.Test.YtlnieobmhofkdaaGreatLacksW
import Derived.Test.YtlnieobmhofkdaaGreatSLacksW
import Derived.Test.YtlnieobmhofkdaaGreatSzGW
import Derived.Test.YtlnieobmhofkdaaGreatCopyTTW
import Derived.Test.YtlnieobmhofkdaaGreatMarkRW
import Derived.Test.YtlnieobmhofkdaaGreatMix20
/- The walk of FnExactStoreLacks: it returns true and leaves what was there; for every trust and every row of packages. -/
namespace Go.Proofs.YtlnieobmhofkdaaGreat
open Go.RowKit

set_option maxHeartbeats 8000000 in
set_option maxRecDepth 100000 in
theorem exactStoreLacks_walk (w : World) (x : Int) (a : Option Addr) (n c : Nat) (y : Int) (has : Bool) (z t : Int) (b : Option Addr) (m e : Nat) (pa : Option Addr) (pn pc : Nat) (hR : RowIn w a n c) (hM : MetasIn w b m e) (hQ : PkgsIn w pa pn pc) :
    Calls Tryz.prog 3 #[.agg #[.int .i64 x, .slice a n c, .int .i64 y, .bool has, .int .i64 z, .int .i64 t, .slice b m e], .slice pa pn pc] w fun e w' => e = .returned (.bool true) ∧ Below w.heap.size w w' := by
  obtain ⟨hn, P⟩ := hR
  obtain ⟨hm, Q⟩ := hM
  have H0 := hide (And.intro (below1 w (.cells #[.int .i64 x, .slice a n c, .int .i64 y, .bool has, .int .i64 z, .int .i64 t, .slice b m e] 29)) (heap_alloc_new w (.cells #[.int .i64 x, .slice a n c, .int .i64 y, .bool has, .int .i64 z, .int .i64 t, .slice b m e] 29)))
  have HP := hide (And.intro P (And.intro Q hQ))
  clear P Q hQ
  go_enter Tryz.func3, Tryz.ntmps3
  go_wp2_with fail
  refine (szTrust_any _ x y a n c has z t b m e 1048576 (by omega) (by omega) hn hm).mono ?_
  generalize World.alloc _ _ = W0 at *
  rintro e1 w1 ⟨b1, ⟨hl1, hl2, r, rfl, r0, r1⟩ | rfl⟩
  rotate_left
  · have B1 := hide ((unhide H0).1.trans (b1.mono (unhide H0).1.size))
    clear H0 HP b1
    go_wp2
    go_ret
    exact ⟨rfl, unhide B1⟩
  have hb1 := (unhide H0).1.trans (b1.mono (unhide H0).1.size)
  have x1 := (b1.block _ (heapLt (unhide H0).2)).trans (unhide H0).2
  have H1 := hide (And.intro hb1 x1)
  have hr : ¬ r < 0 := by omega
  have CZ := hide (szPkgS_in w1 pa pn pc r r0 (by omega) ((unhide HP).2.2.later hb1))
  clear x1 b1 hb1 H0
  go_wp2_with fail
  refine (unhide CZ).mono ?_
  rintro e2 w2 ⟨b2, ⟨lp, rfl, hpl, hpk, hall, r', rfl, r0', r1'⟩ | rfl⟩
  rotate_left
  · have B2 := hide ((unhide H1).1.trans (b2.mono (unhide H1).1.size))
    clear H1 HP b2 CZ
    go_wp2
    go_ret
    exact ⟨rfl, unhide B2⟩
  obtain ⟨l, rfl, i1⟩ := (unhide HP).1 hl1
  obtain ⟨l2, rfl, i2⟩ := (unhide HP).2.1 hl2
  have hb2 := (unhide H1).1.trans (b2.mono (unhide H1).1.size)
  have XB := hide ((b2.block _ (heapLt (unhide H1).2)).trans (unhide H1).2)
  have IK := hide (i1.later hb2)
  have IM := hide (i2.later hb2)
  have PK := hide (hpk.later b2)
  have HALL := hide hall
  have BW := hide hb2
  have hr' : ¬ r' < 0 := by omega
  clear hb2 i1 i2 b2 hpk hall H1 HP CZ
  have CT := hide (fun (W : World) h1 h2 => toTrust_any W ⟨x, l, y, has, z, t, l2⟩ (.slice a l.length c) (.slice b l2.length e) h1 h2 hl1 hl2)
  have CF := hide (fun (W : World) h1 h2 => toTrust_fill W ⟨x, l, y, has, z, t, l2⟩ (.slice a l.length c) (.slice b l2.length e) h1 h2 hl1 hl2)
  have CQ := hide (fun (W : World) (k1 m1 k2 m2 : Value) h1 h2 h3 h4 => eqTrust_any W ⟨x, l, y, has, z, t, l2⟩ k1 m1 k2 m2 h1 h2 h3 h4)
  have CS := hide (fun (W : World) (k1 m1 v : Value) h1 h2 h3 => specLacks_any (N := fun _ => True) W ⟨x, l, y, has, z, t, l2⟩ k1 m1 v lp h1 h2 h3)
  have CI := hide (fun (W : World) (k1 m1 v : Value) h1 h2 h3 => implLacks_any (N := fun _ => True) W ⟨x, l, y, has, z, t, l2⟩ k1 m1 v lp h1 h2 h3)
  have hAl : (Ix.lacksA ⟨x, l, y, has, z, t, l2⟩ lp).length ≤ l2.length := by unfold Ix.lacksA; split; exact Ix.lacks12_le _ _; exact Nat.zero_le _
  generalize Ix.lacksA ⟨x, l, y, has, z, t, l2⟩ lp = A at *
  dsimp only [tvT, tv] at CT CF CQ CS CI
  have BE : Hid (Below w2.heap.size w2 w2) := Below.refl _ _
  have hxb := (Below.block (unhide BE) _ (heapLt (unhide XB))).trans (unhide XB)
  have HXB := hide hxb
  clear hxb
  obtain ⟨x0, x1, x2, x3, x4, x5, x6⟩ : _ ∧ _ ∧ _ ∧ _ ∧ _ ∧ _ ∧ _ := ⟨cellOf (unhide HXB) 0, cellOf (unhide HXB) 1, cellOf (unhide HXB) 2, cellOf (unhide HXB) 3, cellOf (unhide HXB) 4, cellOf (unhide HXB) 5, cellOf (unhide HXB) 6⟩
  clear HXB
  go_wp2_with fail
  refine (unhide CT _ ((unhide IK).later (unhide BE)) ((unhide IM).later (unhide BE))).mono ?_
  rintro e v1 ⟨kv1, mv1, rfl, i1, j1, b⟩
  obtain ⟨ka1, kc1, ek1⟩ := i1.slice
  obtain ⟨ma1, mc1, em1⟩ := j1.slice
  subst ek1 em1
  dsimp only
  replace BE := hide ((unhide BE).trans (b.mono (unhide BE).size))
  have I1 := hide (And.intro i1 j1)
  clear i1 j1 b x0 x1 x2 x3 x4 x5 x6
  go_wp2_with fail
  refine (toPkgS_any _ _ lp ((unhide PK).later (unhide BE)) hpl (unhide HALL)).mono ?_
  rintro e v2 ⟨rfl, f, b⟩
  replace BE := hide ((unhide BE).trans (b.mono (unhide BE).size))
  replace I1 := hide (And.intro ((unhide I1).1.later b) ((unhide I1).2.later b))
  have F1 := hide ((f.pks hpl).weak (N' := fun _ => True) (fun _ _ => trivial))
  clear f b
  go_wp2_with fail
  refine (unhide CS _ _ _ _ (unhide I1).1 (unhide I1).2 (unhide F1)).mono ?_
  rintro e v3 ⟨u, rfl, ho, b⟩
  replace BE := hide ((unhide BE).trans (b.mono (unhide BE).size))
  obtain ⟨wa, wc, hu⟩ := own_formS ho
  subst hu
  have PW := hide (Trs.own ho (by omega))
  have BE3 := BE
  have BV : Hid (Below v3.heap.size v3 v3) := Below.refl _ _
  clear ho b I1 F1 BE
  have hxb := (Below.block ((unhide BE3).trans ((unhide BV).mono (unhide BE3).size)) _ (heapLt (unhide XB))).trans (unhide XB)
  have HXB := hide hxb
  clear hxb
  obtain ⟨x0, x1, x2, x3, x4, x5, x6⟩ : _ ∧ _ ∧ _ ∧ _ ∧ _ ∧ _ ∧ _ := ⟨cellOf (unhide HXB) 0, cellOf (unhide HXB) 1, cellOf (unhide HXB) 2, cellOf (unhide HXB) 3, cellOf (unhide HXB) 4, cellOf (unhide HXB) 5, cellOf (unhide HXB) 6⟩
  clear HXB
  go_wp2_with fail
  refine (unhide CF _ ((unhide IK).later ((unhide BE3).trans ((unhide BV).mono (unhide BE3).size))) ((unhide IM).later ((unhide BE3).trans ((unhide BV).mono (unhide BE3).size)))).mono ?_
  rintro e v4 ⟨g1, g2, hg1, hg2, rfl, f1, f2, b⟩
  dsimp only
  replace BV := hide ((unhide BV).trans (b.mono (unhide BV).size))
  have FI := hide f1
  have FM := hide f2
  have b4 := below1 v4 (.cells #[.int .i64 x, .slice (some ⟨g1, 0, none⟩) l.length l.length, .int .i64 y, .bool has, .int .i64 z, .int .i64 t, .slice (some ⟨g2, 0, none⟩) l2.length l2.length] 39)
  have X0B := hide (heap_alloc_new v4 (.cells #[.int .i64 x, .slice (some ⟨g1, 0, none⟩) l.length l.length, .int .i64 y, .bool has, .int .i64 z, .int .i64 t, .slice (some ⟨g2, 0, none⟩) l2.length l2.length] 39))
  have hg1' : g1 < v4.heap.size := FillI.lt f1
  have hg2' : g2 < v4.heap.size := FillM.lt f2
  clear f1 f2 b x0 x1 x2 x3 x4 x5 x6
  replace BV := hide ((unhide BV).trans (b4.mono (unhide BV).size))
  replace FI := hide ((unhide FI).later b4)
  replace FM := hide ((unhide FM).later b4)
  clear b4
  go_wp2_with fail
  refine (toPkgS_any _ _ lp ((unhide PK).later ((unhide BE3).trans ((unhide BV).mono (unhide BE3).size))) hpl (unhide HALL)).mono ?_
  generalize hXe : v4.heap.size = Xb at *
  have hX5 : Xb < (v4.alloc (.cells #[.int .i64 x, .slice (some ⟨g1, 0, none⟩) l.length l.length, .int .i64 y, .bool has, .int .i64 z, .int .i64 t, .slice (some ⟨g2, 0, none⟩) l2.length l2.length] 39)).heap.size := heapLt (unhide X0B)
  generalize v4.alloc _ = W4 at *
  clear hXe
  rintro e v5 ⟨rfl, f, b⟩
  replace BV := hide ((unhide BV).trans (b.mono (unhide BV).size))
  replace FI := hide ((unhide FI).later b)
  replace FM := hide ((unhide FM).later b)
  replace X0B := hide ((b.block _ (heapLt (unhide X0B))).trans (unhide X0B))
  have FP := hide f
  have WR := hide f.wr
  clear f b
  clear v4
  obtain ⟨x0, x1, x2, x3, x4, x5, x6⟩ : _ ∧ _ ∧ _ ∧ _ ∧ _ ∧ _ ∧ _ := ⟨cellOf (unhide X0B) 0, cellOf (unhide X0B) 1, cellOf (unhide X0B) 2, cellOf (unhide X0B) 3, cellOf (unhide X0B) 4, cellOf (unhide X0B) 5, cellOf (unhide X0B) 6⟩
  have hS5 := heapLt (unhide X0B)
  have hE5 : v3.heap.size ≤ v5.heap.size := (unhide BV).size
  have hfp5 := FillP.lt (unhide FP)
  go_wp2_with fail
  refine (unhide CI _ _ _ _ ((unhide FI).ins hl1) ((unhide FM).trs hl2) (((unhide FP).pks hpl).weak (fun _ _ => trivial))).mono ?_
  rintro e v6 ⟨u, rfl, hP, b⟩
  replace BV := hide ((unhide BV).trans (b.mono (unhide BV).size))
  replace FI := hide ((unhide FI).later b)
  replace FM := hide ((unhide FM).later b)
  replace X0B := hide ((b.block _ (heapLt (unhide X0B))).trans (unhide X0B))
  replace FP := hide ((unhide FP).later b)
  replace WR := hide ((unhide WR).later b)
  obtain ⟨ga, gc, hu⟩ := own_formS hP
  subst hu
  have PA := hide hP
  clear hP b x0 x1 x2 x3 x4 x5 x6
  have CE := hide (eqMetaS_any v6 _ _ A (Trs.own (unhide PA) (by omega)) ((unhide PW).later (unhide BV)))
  go_wp2_with fail
  refine (unhide CE).mono ?_
  rintro e v7 ⟨rfl, b⟩
  replace BV := hide ((unhide BV).trans (b.mono (unhide BV).size))
  replace FI := hide ((unhide FI).later b)
  replace FM := hide ((unhide FM).later b)
  replace X0B := hide ((b.block _ (heapLt (unhide X0B))).trans (unhide X0B))
  replace FP := hide ((unhide FP).later b)
  replace WR := hide ((unhide WR).later b)
  replace PA := hide (own_later (unhide PA) b)
  clear b CE
  have HXB := hide ((Below.block ((unhide BE3).trans ((unhide BV).mono (unhide BE3).size)) _ (heapLt (unhide XB))).trans (unhide XB))
  go_wp2_with fail
  refine wp_region_held_drew (S := fun w' => (w'.cell? ⟨Xb, 0, none⟩ = some (.int .i64 x) ∧ w'.cell? ⟨Xb, 1, none⟩ = some (.slice (some ⟨g1, 0, none⟩) l.length l.length) ∧ w'.cell? ⟨Xb, 2, none⟩ = some (.int .i64 y) ∧ w'.cell? ⟨Xb, 3, none⟩ = some (.bool has) ∧ w'.cell? ⟨Xb, 4, none⟩ = some (.int .i64 z) ∧ w'.cell? ⟨Xb, 5, none⟩ = some (.int .i64 t) ∧ w'.cell? ⟨Xb, 6, none⟩ = some (.slice (some ⟨g2, 0, none⟩) l2.length l2.length)) ∧ (w'.cell? ⟨w.heap.size, 0, none⟩ = some (.int .i64 x) ∧ w'.cell? ⟨w.heap.size, 1, none⟩ = some (.slice a l.length c) ∧ w'.cell? ⟨w.heap.size, 2, none⟩ = some (.int .i64 y) ∧ w'.cell? ⟨w.heap.size, 3, none⟩ = some (.bool has) ∧ w'.cell? ⟨w.heap.size, 4, none⟩ = some (.int .i64 z) ∧ w'.cell? ⟨w.heap.size, 5, none⟩ = some (.int .i64 t) ∧ w'.cell? ⟨w.heap.size, 6, none⟩ = some (.slice b l2.length e))) (by kernel_rfl) (by exact ⟨⟨cellOf (unhide X0B) 0, cellOf (unhide X0B) 1, cellOf (unhide X0B) 2, cellOf (unhide X0B) 3, cellOf (unhide X0B) 4, cellOf (unhide X0B) 5, cellOf (unhide X0B) 6⟩, cellOf (unhide HXB) 0, cellOf (unhide HXB) 1, cellOf (unhide HXB) 2, cellOf (unhide HXB) 3, cellOf (unhide HXB) 4, cellOf (unhide HXB) 5, cellOf (unhide HXB) 6⟩) (fun hHeld => ?_)
  refine anyH_at (i := 0) (d := some 40) rfl rfl (by kernel_rfl) (by kernel_rfl) (by kernel_rfl) (fun _ _ _ h => h) (by rfl) (v := ?_) ?_ (by assumption) ?_
  rotate_left
  · (intro w hSw; (try dsimp only at hSw); go_simp <;> with_reducible rfl)
  simp only [Act.put, List.setIfInBounds_toArray, List.set_cons_zero, List.set_cons_succ]
  refine anyH_at (i := 1) (d := some 41) rfl rfl (by kernel_rfl) (by kernel_rfl) (by kernel_rfl) (fun _ _ _ h => h) (by rfl) (v := ?_) ?_ (by assumption) ?_
  rotate_left
  · (intro w hSw; (try dsimp only at hSw); go_simp <;> with_reducible rfl)
  simp only [Act.put, List.setIfInBounds_toArray, List.set_cons_zero, List.set_cons_succ]
  refine wpAnyH_ready (rs := [2]) (by kernel_rfl) (by simp) ?_
  refine AllReadyH.cons rfl (fun K hK => ?_) AllReadyH.nil
  go_simp
  have hd := below_drew v7
  clear HXB
  replace BV := hide ((unhide BV).trans (hd.mono (unhide BV).size))
  replace FI := hide ((unhide FI).later hd)
  replace FM := hide ((unhide FM).later hd)
  replace X0B := hide ((hd.block _ (heapLt (unhide X0B))).trans (unhide X0B))
  replace FP := hide ((unhide FP).later hd)
  replace WR := hide ((unhide WR).later hd)
  replace PA := hide (own_later (unhide PA) hd)
  clear hd
  refine (unhide CT _ ((unhide IK).later ((unhide BE3).trans ((unhide BV).mono (unhide BE3).size))) ((unhide IM).later ((unhide BE3).trans ((unhide BV).mono (unhide BE3).size)))).mono ?_
  rintro e v8 ⟨kv1, mv1, rfl, i1, j1, b⟩
  obtain ⟨ka1, kc1, ek1⟩ := i1.slice
  obtain ⟨ma1, mc1, em1⟩ := j1.slice
  subst ek1 em1
  dsimp only
  replace BV := hide ((unhide BV).trans (b.mono (unhide BV).size))
  replace FI := hide ((unhide FI).later b)
  replace FM := hide ((unhide FM).later b)
  replace X0B := hide ((b.block _ (heapLt (unhide X0B))).trans (unhide X0B))
  replace FP := hide ((unhide FP).later b)
  replace WR := hide ((unhide WR).later b)
  replace PA := hide (own_later (unhide PA) b)
  have I1 := hide (And.intro i1 j1)
  clear i1 j1 b
  have HXB := hide ((Below.block ((unhide BE3).trans ((unhide BV).mono (unhide BE3).size)) _ (heapLt (unhide XB))).trans (unhide XB))
  go_wp2_with fail
  refine hK.out _ _ ?_ (fun hHeldN => ?_)
  · exact ⟨⟨cellOf (unhide X0B) 0, cellOf (unhide X0B) 1, cellOf (unhide X0B) 2, cellOf (unhide X0B) 3, cellOf (unhide X0B) 4, cellOf (unhide X0B) 5, cellOf (unhide X0B) 6⟩, cellOf (unhide HXB) 0, cellOf (unhide HXB) 1, cellOf (unhide HXB) 2, cellOf (unhide HXB) 3, cellOf (unhide HXB) 4, cellOf (unhide HXB) 5, cellOf (unhide HXB) 6⟩
  clear hHeld
  have hHeld := hHeldN
  clear hHeldN
  clear hK K
  try simp only [Act.put, List.setIfInBounds_toArray, List.set_cons_zero, List.set_cons_succ]
  refine wpAnyH_ready (rs := [3]) (by kernel_rfl) (by simp) ?_
  refine AllReadyH.cons rfl (fun K hK => ?_) AllReadyH.nil
  go_simp
  refine (unhide CQ _ _ _ _ _ ((unhide FI).ins hl1) ((unhide FM).trs hl2) (unhide I1).1 (unhide I1).2).mono ?_
  rintro e v9 ⟨rfl, b⟩
  clear HXB
  replace BV := hide ((unhide BV).trans (b.mono (unhide BV).size))
  replace FI := hide ((unhide FI).later b)
  replace FM := hide ((unhide FM).later b)
  replace X0B := hide ((b.block _ (heapLt (unhide X0B))).trans (unhide X0B))
  replace FP := hide ((unhide FP).later b)
  replace WR := hide ((unhide WR).later b)
  replace PA := hide (own_later (unhide PA) b)
  clear b I1
  have HXB := hide ((Below.block ((unhide BE3).trans ((unhide BV).mono (unhide BE3).size)) _ (heapLt (unhide XB))).trans (unhide XB))
  go_wp2_with fail
  refine hK.out _ _ ?_ (fun hHeldN => ?_)
  · exact ⟨⟨cellOf (unhide X0B) 0, cellOf (unhide X0B) 1, cellOf (unhide X0B) 2, cellOf (unhide X0B) 3, cellOf (unhide X0B) 4, cellOf (unhide X0B) 5, cellOf (unhide X0B) 6⟩, cellOf (unhide HXB) 0, cellOf (unhide HXB) 1, cellOf (unhide HXB) 2, cellOf (unhide HXB) 3, cellOf (unhide HXB) 4, cellOf (unhide HXB) 5, cellOf (unhide HXB) 6⟩
  clear hHeld
  have hHeld := hHeldN
  clear hHeldN
  clear hK K
  try simp only [Act.put, List.setIfInBounds_toArray, List.set_cons_zero, List.set_cons_succ]
  refine anyH_at (i := 4) (d := some 44) rfl rfl (by kernel_rfl) (by kernel_rfl) (by kernel_rfl) (fun _ _ _ h => h) (by rfl) (v := ?_) ?_ (by assumption) ?_
  rotate_left
  · (intro w hSw; (try dsimp only at hSw); go_simp <;> with_reducible rfl)
  simp only [Act.put, List.setIfInBounds_toArray, List.set_cons_zero, List.set_cons_succ]
  refine wpAnyH_done (by kernel_rfl) ?_ _
  clear hHeld HXB
  go_wp2_with fail
  refine (toPkgS_any _ _ lp ((unhide PK).later ((unhide BE3).trans ((unhide BV).mono (unhide BE3).size))) hpl (unhide HALL)).mono ?_
  rintro e v10 ⟨rfl, f, b⟩
  replace BV := hide ((unhide BV).trans (b.mono (unhide BV).size))
  replace FI := hide ((unhide FI).later b)
  replace FM := hide ((unhide FM).later b)
  replace X0B := hide ((b.block _ (heapLt (unhide X0B))).trans (unhide X0B))
  replace FP := hide ((unhide FP).later b)
  replace WR := hide ((unhide WR).later b)
  replace PA := hide (own_later (unhide PA) b)
  have F1 := hide ((f.pks hpl).weak (N' := fun _ => True) (fun _ _ => trivial))
  clear f b
  have CE := hide (eqPkgS_any v10 _ _ lp ((unhide FP).pks hpl) (unhide F1))
  go_wp2_with fail
  refine (unhide CE).mono ?_
  rintro e v11 ⟨rfl, b⟩
  replace BV := hide ((unhide BV).trans (b.mono (unhide BV).size))
  replace FI := hide ((unhide FI).later b)
  replace FM := hide ((unhide FM).later b)
  replace X0B := hide ((b.block _ (heapLt (unhide X0B))).trans (unhide X0B))
  replace FP := hide ((unhide FP).later b)
  replace WR := hide ((unhide WR).later b)
  replace PA := hide (own_later (unhide PA) b)
  clear b CE F1
  obtain ⟨x0, x1, x2, x3, x4, x5, x6⟩ : _ ∧ _ ∧ _ ∧ _ ∧ _ ∧ _ ∧ _ := ⟨cellOf (unhide X0B) 0, cellOf (unhide X0B) 1, cellOf (unhide X0B) 2, cellOf (unhide X0B) 3, cellOf (unhide X0B) 4, cellOf (unhide X0B) 5, cellOf (unhide X0B) 6⟩
  have CMX := hide (markTrust_any v11 ⟨x, l, y, has, z, t, l2⟩ (.slice (some ⟨g1, 0, none⟩) l.length l.length) (.slice (some ⟨g2, 0, none⟩) l2.length l2.length) v3.heap.size 1 ((unhide FI).own hg1 hl1) ((unhide FM).own hg2 hl2) hl1 hl2 (by omega) (by omega))
  dsimp only [tvT, tv] at CMX
  go_wp2_with fail
  refine (unhide CMX).mono ?_
  rintro e v12 ⟨rfl, _, _, fr⟩
  have hgg : ∀ j, ((Value.slice (some ⟨g1, 0, none⟩) l.length l.length).ownBlock = some j ∨ (Value.slice (some ⟨g2, 0, none⟩) l2.length l2.length).ownBlock = some j) → v3.heap.size ≤ j ∧ j < W4.heap.size := fun j hj => by
    rcases hj with hj | hj
    · have e1 : g1 = j := Option.some.inj hj
      omega
    · have e1 : g2 = j := Option.some.inj hj
      omega
  replace WR := hide ((unhide WR).fr fr (fun q hq h => by have := hgg q h; omega))
  replace PA := hide (own_keepS (unhide PA) (fun q c hq _ hx => fr.block q (heapLt hx) (fun h => by have := hgg q h; have := ((unhide PA).lt q hq).1; omega)))
  replace BV := hide ((unhide BV).trans (fr.below (unhide BV).size (fun q h => (hgg q h).1)))
  clear fr hgg FI FM X0B FP CMX x0 x1 x2 x3 x4 x5 x6
  generalize hk1 : ((1 : Int) + (l.length : Int) + 3 * (l2.length : Int)) = k1 at *
  have hk1b : 0 ≤ k1 ∧ k1 ≤ 1000000000000 := by omega
  have CM := hide (markPkgS_from v12 _ _ k1 (unhide WR) hpl hk1b.1 hk1b.2)
  clear hk1
  go_wp2_with fail
  refine (unhide CM).mono ?_
  rintro e v13 ⟨k9, rfl, k90, _, s⟩
  replace PA := hide (own_keepS (unhide PA) (fun q c hq _ hx => s.block q (heapLt hx) (fun h => by have := ((unhide PA).lt q hq).1; omega)))
  replace BV := hide ((unhide BV).trans (s.belowB (unhide BV).size (fun q hq h => by omega)))
  clear s CM WR
  have hk9 : ¬ k9 < 0 := by omega
  have hdk9 : decide (k9 < 0) = false := by simpa using hk9
  have CE := hide (eqMetaS_any v13 _ _ A (Trs.own (unhide PA) (by omega)) ((unhide PW).later (unhide BV)))
  go_wp2_with fail
  refine (unhide CE).mono ?_
  rintro e v14 ⟨rfl, b⟩
  replace BV := hide ((unhide BV).trans (b.mono (unhide BV).size))
  replace PA := hide (own_later (unhide PA) b)
  clear b CE
  have CM := hide (markMetaS_any v14 _ A v5.heap.size 1 (unhide PA) (by omega) (by omega) (by omega))
  go_wp2_with fail
  refine (unhide CM).mono ?_
  rintro e v15 ⟨rfl, hP, hg⟩
  have PM := hide hP
  have b15 := grown_below (B := v3.heap.size) (own_base' (unhide PA) hE5) hg (unhide BV) (unhide BV).size
  replace BV := hide b15
  clear hg CM hP PA b15
  have hq : ¬ ((1 : Int) + 3 * (A.length : Int)) < 0 := by omega
  have hqn : (((1 : Int) + 3 * (A.length : Int)) != (1 + 3 * (A.length : Int))) = false := by simp
  have CH := hide (heldMetaS_any v15 _ A.length v5.heap.size 1 (unhide PM) (by omega) (by omega) (by omega))
  go_wp2_with fail
  refine (unhide CH).mono ?_
  rintro e v16 ⟨rfl, rfl⟩
  clear CH
  have hxb := (Below.block ((unhide BE3).trans ((unhide BV).mono (unhide BE3).size)) _ (heapLt (unhide XB))).trans (unhide XB)
  have HXB := hide hxb
  clear hxb
  obtain ⟨x0, x1, x2, x3, x4, x5, x6⟩ : _ ∧ _ ∧ _ ∧ _ ∧ _ ∧ _ ∧ _ := ⟨cellOf (unhide HXB) 0, cellOf (unhide HXB) 1, cellOf (unhide HXB) 2, cellOf (unhide HXB) 3, cellOf (unhide HXB) 4, cellOf (unhide HXB) 5, cellOf (unhide HXB) 6⟩
  clear HXB
  go_wp2_with fail
  refine (unhide CT _ ((unhide IK).later ((unhide BE3).trans ((unhide BV).mono (unhide BE3).size))) ((unhide IM).later ((unhide BE3).trans ((unhide BV).mono (unhide BE3).size)))).mono ?_
  rintro e v17 ⟨kv1, mv1, rfl, i1, j1, b⟩
  obtain ⟨ka1, kc1, ek1⟩ := i1.slice
  obtain ⟨ma1, mc1, em1⟩ := j1.slice
  subst ek1 em1
  dsimp only
  replace BV := hide ((unhide BV).trans (b.mono (unhide BV).size))
  replace PM := hide (own_later (unhide PM) b)
  have I1 := hide (And.intro i1 j1)
  clear i1 j1 b x0 x1 x2 x3 x4 x5 x6
  go_wp2_with fail
  refine (toPkgS_any _ _ lp ((unhide PK).later ((unhide BE3).trans ((unhide BV).mono (unhide BE3).size))) hpl (unhide HALL)).mono ?_
  rintro e v18 ⟨rfl, f, b⟩
  replace BV := hide ((unhide BV).trans (b.mono (unhide BV).size))
  replace PM := hide (own_later (unhide PM) b)
  replace I1 := hide (And.intro ((unhide I1).1.later b) ((unhide I1).2.later b))
  have F1 := hide ((f.pks hpl).weak (N' := fun _ => True) (fun _ _ => trivial))
  clear f b
  go_wp2_with fail
  refine (unhide CI _ _ _ _ (unhide I1).1 (unhide I1).2 (unhide F1)).mono ?_
  rintro e v19 ⟨u, rfl, hP, b⟩
  replace BV := hide ((unhide BV).trans (b.mono (unhide BV).size))
  replace PM := hide (own_later (unhide PM) b)
  obtain ⟨ja, jc, hu⟩ := own_formS hP
  subst hu
  have CE := hide (eqMetaS_any v19 _ _ A (Trs.own hP (by omega)) ((unhide PW).later (unhide BV)))
  clear hP b I1 F1
  go_wp2_with fail
  refine (unhide CE).mono ?_
  rintro e v20 ⟨rfl, b⟩
  replace BV := hide ((unhide BV).trans (b.mono (unhide BV).size))
  replace PM := hide (own_later (unhide PM) b)
  clear b CE
  have CH := hide (heldMetaS_any v20 _ A.length v5.heap.size 1 (unhide PM) (by omega) (by omega) (by omega))
  go_wp2_with fail
  refine (unhide CH).mono ?_
  rintro e v21 ⟨rfl, rfl⟩
  have BF := hide ((unhide BW).trans (((unhide BE3).trans ((unhide BV).mono (unhide BE3).size)).mono (unhide BW).size))
  clear CH PM BV
  go_wp2
  go_ret
  exact ⟨rfl, unhide BF⟩
end Go.Proofs.YtlnieobmhofkdaaGreat
