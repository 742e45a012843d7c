/- What impl.faultsOf returns: a line for each thing that is wrong; for every row of packages that are ok and ascend. -/
import Derived.Test.YtkhanndmbpemfaaGreatDoorFault2W
namespace Go.Proofs.YtkhanndmbpemfaaGreatDoor
open Go.RowKit

attribute [local go_sem ↓] Go.wp_at_zero Go.wp_at_succ

section
variable {P : Program}
theorem run_append_none (w : World) (t ty e : TypeId) (i : TypeInfo) (ht : P.underlying t = some (.slice e)) (hi : P.info? e = some i) (g n cap : Nat) (x : Option Addr) (c : Nat) (hn : n ≤ cap) :
    (Builtin.append_ #[t, t] ty #[.slice (some ⟨g, 0, none⟩) n cap, .slice x 0 c]).run P w = .ok (.slice (some ⟨g, 0, none⟩) n cap) w := by
  have hf : (Builtin.firstCells i.size 0 (.slice x 0 c)).run P w = .ok #[] w := by
    cases x <;> simp [Builtin.firstCells, loadCells, loadCellsFrom]
  simp [Builtin.append_, run_underlying ht, sizeOf, typeInfo, hi, Builtin.lenOf, hf, storeCells, hn]
/-- An append of a row of one's own, empty or not, to a row of one's own. -/
theorem wp_append_row (w : World) {o : Oper} {a : Act} {K : Act → World → Prop} {Q : Exit → Act → World → Prop} (s x : Operand) (t : TypeId)
    (ho : o.op = .call { callee := .builtin .append, args := #[s, x], argTypes := #[t, t] })
    (base : Nat) (e : TypeId) (i : TypeInfo) (z : Value) (size bytes : Nat) (ht : P.underlying t = some (.slice e)) (hi : P.info? e = some i) (hz : i.zero = some z)
    (hsize : i.size = size) (hby : i.bytes = bytes) (hzs : z.cells.size = size) (hsz : 0 < size)
    (v : Value) (n : Nat) (xs : List Value) (hs : a.eval s = v) (hown : w.ownsRow base e size v n xs)
    (u : Value) (m : Nat) (news : List Value) (hx : a.eval x = u) (hu : w.ownsRow base e size u m news) (h1 : ∀ u ∈ news, u.oneCell' = true)
    (h63 : n + m ≤ maxLen) (hbytes : (n + m) * bytes ≤ 140737488355328) (hbase : base ≤ w.heap.size)
    (h : ∀ v' w', w'.ownsRow base e size v' (n + m) (xs ++ news) → w.grownBy w' v.ownBlock → K (a.put o.dst v') w') : o.wp P a w K Q := by
  rcases hu.2 with ⟨rfl, rfl⟩ | ⟨g, cap, cur, rfl, hbg, hg, hnc, hcm, hcs, htake⟩
  · obtain rfl : news = [] := List.eq_nil_of_length_eq_zero (by simpa using hu.1)
    rcases hown.2 with ⟨rfl, rfl⟩ | ⟨g, cap, cur, rfl, hbg, hg, hnc, hcm, hcs, htake⟩
    · have hr := run_append_zero (P := P) w t o.type e i ht hi none none 0 0
      unfold Oper.wp execOp
      simp only [ho, resolve, invoke, builtin, Sem.run_bind, Sem.run_pure, Result.andThen_ok, List.map_toArray, List.map_cons, List.map_nil, hs, hx, hr]
      exact h _ _ (by simpa using hown) (grown_refl _ _)
    · have hr := run_append_none (P := P) w t o.type e i ht hi g n cap none 0 hnc
      unfold Oper.wp execOp
      simp only [ho, resolve, invoke, builtin, Sem.run_bind, Sem.run_pure, Result.andThen_ok, List.map_toArray, List.map_cons, List.map_nil, hs, hx, hr]
      exact h _ _ (by simpa using hown) (grown_refl _ _)
  · exact wp_append_own w s x t ho base e i z size bytes ht hi hz hsize hby hzs hsz v n xs hs hown ⟨g, 0, none⟩ m cap news hx hu.1 (hu.cells (g := g) rfl) h1 h63 hbytes hbase fun v' w' h2 h3 _ => h v' w' h2 h3
theorem wpList_append_row (w : World) {ops : Array Oper} {rest : List Oper} {o : Oper} {a : Act} {Q : Exit → Act → World → Prop} (hgd : o.guard = none) (s x : Operand) (t : TypeId)
    (ho : o.op = .call { callee := .builtin .append, args := #[s, x], argTypes := #[t, t] })
    (base : Nat) (e : TypeId) (i : TypeInfo) (z : Value) (size bytes : Nat) (ht : P.underlying t = some (.slice e)) (hi : P.info? e = some i) (hz : i.zero = some z)
    (hsize : i.size = size) (hby : i.bytes = bytes) (hzs : z.cells.size = size) (hsz : 0 < size)
    (v : Value) (n : Nat) (xs : List Value) (hs : a.eval s = v) (hown : w.ownsRow base e size v n xs)
    (u : Value) (m : Nat) (news : List Value) (hx : a.eval x = u) (hu : w.ownsRow base e size u m news) (h1 : ∀ u ∈ news, u.oneCell' = true)
    (h63 : n + m ≤ maxLen) (hbytes : (n + m) * bytes ≤ 140737488355328) (hbase : base ≤ w.heap.size)
    (h : ∀ v' w', w'.ownsRow base e size v' (n + m) (xs ++ news) → w.grownBy w' v.ownBlock → wpList P ops Q rest (a.put o.dst v') w') : wpList P ops Q (o :: rest) a w :=
  wpList_plain hgd fun _ hK => wp_append_row w s x t ho base e i z size bytes ht hi hz hsize hby hzs hsz v n xs hs hown u m news hx hu h1 h63 hbytes hbase fun v' w' h2 h3 => hK _ _ (h v' w' h2 h3)
end
theorem strB_one (ls : List (List UInt8)) : ∀ u ∈ ls.map strB, u.oneCell' = true := fun u hu => by
  obtain ⟨s, _, rfl⟩ := List.mem_map.1 hu
  rfl
theorem StrR.app {B : Nat} {w : World} {v : Value} {a b : List (List UInt8)} (h : w.ownsRow B 9 1 v (a.length + b.length) (a.map strB ++ b.map strB)) : StrR B w v (a ++ b) := by
  unfold StrR
  rw [List.length_append, List.map_append]
  exact h
theorem Ix.besideOf_at (l : List Ix.Pg) (k : Nat) (hk : k < l.length) : Ix.besideOf (l.take k) (Ix.pg l k) = Ix.besideL l k := by
  unfold Ix.besideOf Ix.besideL
  rcases Nat.eq_zero_or_pos k with h0 | hp
  · subst h0
    rw [if_neg (fun h => h.1 rfl)]
    rfl
  · have hl : (l.take k).length = k := by rw [List.length_take]; omega
    rw [Ix.last_pg (by omega), hl, Ix.take_pgk (by omega)]
    by_cases e : (Ix.pg l (k - 1)).1 = (Ix.pg l k).1
    · rw [if_pos ⟨by omega, e⟩]
      exact if_pos e
    · rw [if_neg (fun h => e h.2)]
      exact if_neg e

set_option maxHeartbeats 8000000 in
set_option maxRecDepth 100000 in
theorem faultsOf_any {N : Nat → Prop} (w : World) (v : Value) (l : List Ix.Pg) (h : Pks N w v l) (hroom : ∀ a c, v = .slice a l.length c → l.length ≤ c) (hok : Ix.pkgsOk l = true) :
    Calls Tryz.prog 88 #[v] w fun e w' => ∃ u, e = .returned u ∧ StrR w.heap.size w' u (Ix.lines l) ∧ Below w.heap.size w w' := by
  obtain ⟨i0, hI0, hz0, hz1, hz2⟩ := info_parts infoS
  have hl20 := Ix.pkgs_len hok
  have HOK := hide hok
  have HP := hide h
  clear hok
  obtain ⟨a, cap, rfl, hlen, hrow⟩ := h
  have hcap := hroom a cap rfl
  clear hroom
  go_enter Tryz.func88, Tryz.ntmps88
  go_wp2_with fail
  go_loopw [3, 8] (fun o i w' => ∃ k : Nat, k ≤ l.length ∧ i = .int .i64 k ∧ StrR w.heap.size w' o (Ix.linesTo l k) ∧ Below w.heap.size w w') (fun _ i _ => l.length - (intOf i).toNat)
  case atStart => exact ⟨0, Nat.zero_le _, rfl, StrR.nil _ _, Below.refl _ _⟩
  case round =>
    obtain ⟨k, hk, rfl, ho, hw⟩ := hrel
    obtain ⟨oa, oc, hov⟩ := own_formS ho
    subst hov
    have HS := hide ho
    have HW := hide hw
    clear ho hw
    by_cases hlt : k < l.length
    · obtain ⟨b, off, rfl, hb, _, hc⟩ := hrow (by omega)
      obtain ⟨fv, dv, hAt, hf, hd⟩ := hc k hlt
      have hpo := Ix.pkgs_pOk (unhide HOK) hlt
      have hn0 := Ix.pOk_name hpo
      have hv0 := Ix.pOk_ver hpo
      have hll := Ix.pOk_lens hpo
      have hfo := Ix.pOk_file hpo
      have hdo := Ix.pOk_dep hpo
      have hbo := Ix.besideOf_at l k hlt
      have hls := Ix.linesTo_succ l k
      have hll5 := Ix.linesTo_len (unhide HOK) k hk
      unfold Ix.linesAt at hls
      rw [← hbo] at hls
      clear hc hrow hpo hbo
      obtain ⟨nm, vr, fs, ds, hpk⟩ : ∃ nm vr fs ds, Ix.pg l k = (nm, vr, fs, ds) := ⟨_, _, _, _, rfl⟩
      rw [hpk] at hAt hf hd hn0 hv0 hll hfo hdo hls
      dsimp only at hf hd hn0 hv0 hll hfo hdo hls
      have HLS := hide hls
      have HFO := hide hfo
      have HDO := hide hdo
      obtain ⟨hll1, hll2⟩ := hll
      obtain ⟨fa, fc, hfv⟩ := hf.slice
      obtain ⟨da, dc, hdv⟩ := hd.slice
      subst hfv hdv
      obtain ⟨c0, c1, c2, c3⟩ := hAt.keep ((unhide HW).block b hb)
      dsimp only at c0 c1
      have hb' : b < wr.heap.size := Nat.lt_of_lt_of_le hb (unhide HW).size
      have hi0 : (0 : Int) ≤ (k : Int) := Int.natCast_nonneg _
      have hi1 : (k : Int) < (l.length : Int) := by omega
      have hi2 : (k : Int) ≤ (cap : Int) := by omega
      have hi3 : (k : Int) ≤ (l.length : Int) := by omega
      have hck : ¬ cap = 0 := by omega
      have er : IntKind.i64.wrap ((k : Int) + 1) = (k : Int) + 1 := by simp [IntKind.wrap, IntKind.bits, IntKind.signed]; omega
      have bP := below1 wr (.cells #[.int .i64 nm, .int .i64 vr, .slice fa fs.length fc, .slice da ds.length dc] 94)
      have HX := hide (heap_alloc_new wr (.cells #[.int .i64 nm, .int .i64 vr, .slice fa fs.length fc, .slice da ds.length dc] 94))
      have HW1 := hide ((unhide HW).trans (bP.mono (unhide HW).size))
      have HS1 := hide ((unhide HS).later bP)
      have HF := hide (And.intro hf.prs hd.prs)
      have hq : ∀ q ∈ l.take k, (1 ≤ q.1 ∧ q.1 ≤ 4) ∧ (1 ≤ q.2.1 ∧ q.2.1 ≤ 5) := fun q hq => by
        obtain ⟨j, hj, e⟩ := Ix.mem_ix (List.mem_of_mem_take hq)
        have := Ix.pkgs_pOk (unhide HOK) hj
        rw [e] at this
        exact ⟨Ix.pOk_name this, Ix.pOk_ver this⟩
      have hokt : ∀ j, j < (l.take k).length → Ix.pOk (Ix.pg (l.take k) j) = true := fun j hj => by
        rw [List.length_take] at hj
        rw [Ix.take_pgk (by omega)]
        exact Ix.pkgs_pOk (unhide HOK) (by omega)
      have HQ := hide (And.intro hq hokt)
      clear hAt hf hd hpk hls hfo hdo hq hokt bP HS HW
      go_wp2_with fail
      generalize hPe : wr.heap.size = P at *
      clear hPe
      generalize wr.alloc _ = W1 at *
      clear c0 c1 c2 c3 hb' hb
      clear wr
      have sOf : ∀ w' : World, w'.heap[P]? = W1.heap[P]? → w'.cell? ⟨P, 0, none⟩ = some (.int .i64 nm) ∧ w'.cell? ⟨P, 1, none⟩ = some (.int .i64 vr) ∧ w'.cell? ⟨P, 2, none⟩ = some (.slice fa fs.length fc) ∧ w'.cell? ⟨P, 3, none⟩ = some (.slice da ds.length dc) := fun w' hb => by
        have hx := hb.trans (unhide HX)
        exact ⟨cellOf hx 0, cellOf hx 1, cellOf hx 2, cellOf hx 3⟩
      have SOF := hide sOf
      clear sOf
      generalize Ix.linesTo l k = ls at *
      refine wp_region_held_drew (S := fun w' => w'.cell? ⟨P, 0, none⟩ = some (.int .i64 nm) ∧ w'.cell? ⟨P, 1, none⟩ = some (.int .i64 vr) ∧ w'.cell? ⟨P, 2, none⟩ = some (.slice fa fs.length fc) ∧ w'.cell? ⟨P, 3, none⟩ = some (.slice da ds.length dc)) (by kernel_rfl) (unhide SOF _ rfl) (fun hHeld => ?_)
      refine anyH_at (i := 0) (d := some 13) rfl rfl (by kernel_rfl) (by kernel_rfl) (by kernel_rfl) (fun _ _ _ h => h) (by rfl) (v := ?_) ?_ (by assumption) ?_
      rotate_left
      · (intro w hSw; (try dsimp only at hSw); go_simp <;> with_reducible rfl)
      simp only [Act.put, List.setIfInBounds_toArray, List.set_cons_zero, List.set_cons_succ]
      refine anyH_at (i := 1) (d := some 14) rfl rfl (by kernel_rfl) (by kernel_rfl) (by kernel_rfl) (fun _ _ _ h => h) (by rfl) (v := ?_) ?_ (by assumption) ?_
      rotate_left
      · (intro w hSw; (try dsimp only at hSw); go_simp <;> with_reducible rfl)
      simp only [Act.put, List.setIfInBounds_toArray, List.set_cons_zero, List.set_cons_succ]
      refine anyH_at (i := 2) (d := some 15) rfl rfl (by kernel_rfl) (by kernel_rfl) (by kernel_rfl) (fun _ _ _ h => h) (by rfl) (v := ?_) ?_ (by assumption) ?_
      rotate_left
      · (intro w hSw; (try dsimp only at hSw); go_simp <;> with_reducible rfl)
      simp only [Act.put, List.setIfInBounds_toArray, List.set_cons_zero, List.set_cons_succ]
      refine anyH_at (i := 3) (d := some 16) rfl rfl (by kernel_rfl) (by kernel_rfl) (by kernel_rfl) (fun _ _ _ h => h) (by rfl) (v := ?_) ?_ (by assumption) ?_
      rotate_left
      · (intro w hSw; (try dsimp only at hSw); go_simp <;> with_reducible rfl)
      simp only [Act.put, List.setIfInBounds_toArray, List.set_cons_zero, List.set_cons_succ]
      refine anyH_at (i := 4) (d := some 17) rfl rfl (by kernel_rfl) (by kernel_rfl) (by kernel_rfl) (fun _ _ _ h => h) (by rfl) (v := ?_) ?_ (by assumption) ?_
      rotate_left
      · (intro w hSw; (try dsimp only at hSw); go_simp <;> with_reducible rfl)
      simp only [Act.put, List.setIfInBounds_toArray, List.set_cons_zero, List.set_cons_succ]
      refine wpAnyH_ready (rs := [5]) (by kernel_rfl) (by simp) ?_
      refine AllReadyH.cons rfl (fun K hK => ?_) AllReadyH.nil
      go_simp
      refine (besideLines_any _ nm vr fa fs.length fc da ds.length dc fs ds _ (l.take k) (((unhide HP).later ((unhide HW1).trans ((below_drew W1).mono (unhide HW1).size))).take hk) hn0 hv0 (unhide HQ).2).mono ?_
      rintro e w2 ⟨u2, rfl, hs2, b2⟩
      have hb2 : Below W1.heap.size W1 w2 := (below_drew W1).trans b2
      obtain ⟨ua, uc, hu2⟩ := own_formS hs2
      subst hu2
      have hX2 := hb2.block P (heapLt (unhide HX))
      have HB2 := hide hb2
      have hW2 := (unhide HW1).trans (hb2.mono (unhide HW1).size)
      have HW2 := hide hW2
      have HU2 := hide (hs2.base (unhide HW1).size)
      have HS2 := hide ((unhide HS1).later hb2)
      have HX2 := hide hX2
      have hlb : (Ix.besideOf (l.take k) (nm, vr, fs, ds)).length ≤ 1 := by unfold Ix.besideOf; split; split <;> simp; simp
      generalize Ix.besideOf (l.take k) (nm, vr, fs, ds) = n1 at *
      clear hs2 b2 hb2 hX2 hW2
      go_wp2_with fail
      refine hK.out _ _ ?_ (fun hHeldN => ?_)
      · exact unhide SOF _ (unhide HX2)
      clear hHeld
      have hHeld := hHeldN
      clear hHeldN
      clear hK K
      try simp only [Act.put, List.setIfInBounds_toArray, List.set_cons_zero, List.set_cons_succ]
      refine wpAnyH_ready (rs := [6]) (by kernel_rfl) (by simp) ?_
      refine AllReadyH.cons rfl (fun K hK => ?_) AllReadyH.nil
      rw [if_pos (by rfl)]
      refine wp_append_row _ _ _ 111 rfl w.heap.size 9 i0 _ 1 16 Tryz.underlying111 hI0 hz0 hz1 hz2 rfl (by decide) (.slice oa ls.length oc) ls.length (ls.map strB) rfl (unhide HS2) (.slice ua n1.length uc) n1.length (n1.map strB) rfl (unhide HU2) (strB_one _) (by unfold maxLen; omega) (by omega) (unhide HW2).size ?_
      intro v3 w3 hown3 hgrow3
      have hX3 := (grown_other (unhide HS2) hgrow3 ((unhide HX2).trans (unhide HX)) (by decide)).trans (unhide HX2)
      have HS3 := hide (StrR.app hown3)
      have HW3 := hide (grown_below (B := w.heap.size) (unhide HS2) hgrow3 (unhide HW2) (unhide HW2).size)
      have HX3 := hide hX3
      clear hown3 hgrow3 hX3
      change K (Act.put _ (some 19) _) _
      refine hK.out _ _ ?_ (fun hHeldN => ?_)
      · exact unhide SOF _ (unhide HX3)
      clear hHeld
      have hHeld := hHeldN
      clear hHeldN
      clear hK K
      try simp only [Act.put, List.setIfInBounds_toArray, List.set_cons_zero, List.set_cons_succ]
      refine anyH_at (i := 7) (d := some 3) rfl rfl (by kernel_rfl) (by kernel_rfl) (by kernel_rfl) (fun _ _ _ h => h) (by rfl) (v := ?_) ?_ (by assumption) ?_
      rotate_left
      · (intro w hSw; (try dsimp only at hSw); go_simp <;> with_reducible rfl)
      simp only [Act.put, List.setIfInBounds_toArray, List.set_cons_zero, List.set_cons_succ]
      refine wpAnyH_done (by kernel_rfl) ?_ _
      obtain ⟨va, vc, hv3⟩ := own_formS (unhide HS3)
      subst hv3
      have hl3 : (ls ++ n1).length ≤ 101 := by rw [List.length_append]; omega
      generalize hL3 : ls ++ n1 = l3 at *
      have HL3 := hide hL3
      clear hL3
      obtain ⟨p0, p1, p2, p3⟩ := unhide SOF w3 (unhide HX3)
      clear HS1 HS2 HB2 HU2 HW2 HX2 HW1
      go_wp2_with fail
      refine (lackLines_any _ nm vr fa fs.length fc da dc fs ds _ l ((unhide HP).later (unhide HW3)) ((unhide HF).2.later (unhide HW3)) hn0 hv0 hll2 (unhide HDO)).mono ?_
      rintro e w4 ⟨u4, rfl, hs4, b4⟩
      obtain ⟨ta, tc, hu4⟩ := own_formS hs4
      subst hu4
      have HX4 := hide ((b4.block P (heapLt ((unhide HX3).trans (unhide HX)))).trans (unhide HX3))
      have HW4 := hide ((unhide HW3).trans (b4.mono (unhide HW3).size))
      have HU4 := hide (hs4.base (unhide HW3).size)
      have HS4 := hide ((unhide HS3).later b4)
      have hl4 : (ds.flatMap (Ix.lackL l (nm, vr, fs, ds))).length ≤ 2 := Nat.le_trans (Ix.flat_le _ (Ix.lackL_len l (nm, vr, fs, ds)) _) hll2
      generalize ds.flatMap (Ix.lackL l (nm, vr, fs, ds)) = n2 at *
      clear hs4 b4 p0 p1 p2 p3 HS3 HW3 HX3
      go_wp2_with (at_builtin; refine wpList_append_row _ rfl _ _ 111 rfl w.heap.size 9 i0 _ 1 16 Tryz.underlying111 hI0 hz0 hz1 hz2 rfl (by decide) (.slice va l3.length vc) l3.length (l3.map strB) rfl (unhide HS4) (.slice ta n2.length tc) n2.length (n2.map strB) rfl (unhide HU4) (strB_one _) (by unfold maxLen; omega) (by omega) (unhide HW4).size ?_; intro v5 w5 hown5 hgrow5; have hX5 := (grown_other (unhide HS4) hgrow5 ((unhide HX4).trans (unhide HX)) (by decide)).trans (unhide HX4); have HS5 := hide (StrR.app hown5); have HW5 := hide (grown_below (B := w.heap.size) (unhide HS4) hgrow5 (unhide HW4) (unhide HW4).size); have HX5 := hide hX5; clear hown5 hgrow5 hX5)
      obtain ⟨ra, rc, hv5⟩ := own_formS (unhide HS5)
      subst hv5
      have hl5 : (l3 ++ n2).length ≤ 103 := by rw [List.length_append]; omega
      generalize hL5 : l3 ++ n2 = l5 at *
      have HL5 := hide hL5
      clear hL5
      clear HS4 HU4 HW4 HX4
      refine wp_region_held_drew (S := fun w' => w'.cell? ⟨P, 0, none⟩ = some (.int .i64 nm) ∧ w'.cell? ⟨P, 1, none⟩ = some (.int .i64 vr) ∧ w'.cell? ⟨P, 2, none⟩ = some (.slice fa fs.length fc) ∧ w'.cell? ⟨P, 3, none⟩ = some (.slice da ds.length dc)) (by kernel_rfl) (unhide SOF _ (unhide HX5)) (fun hHeld => ?_)
      refine anyH_at (i := 0) (d := some 25) rfl rfl (by kernel_rfl) (by kernel_rfl) (by kernel_rfl) (fun _ _ _ h => h) (by rfl) (v := ?_) ?_ (by assumption) ?_
      rotate_left
      · (intro w hSw; (try dsimp only at hSw); go_simp <;> with_reducible rfl)
      simp only [Act.put, List.setIfInBounds_toArray, List.set_cons_zero, List.set_cons_succ]
      refine anyH_at (i := 1) (d := some 26) rfl rfl (by kernel_rfl) (by kernel_rfl) (by kernel_rfl) (fun _ _ _ h => h) (by rfl) (v := ?_) ?_ (by assumption) ?_
      rotate_left
      · (intro w hSw; (try dsimp only at hSw); go_simp <;> with_reducible rfl)
      simp only [Act.put, List.setIfInBounds_toArray, List.set_cons_zero, List.set_cons_succ]
      refine anyH_at (i := 2) (d := some 27) rfl rfl (by kernel_rfl) (by kernel_rfl) (by kernel_rfl) (fun _ _ _ h => h) (by rfl) (v := ?_) ?_ (by assumption) ?_
      rotate_left
      · (intro w hSw; (try dsimp only at hSw); go_simp <;> with_reducible rfl)
      simp only [Act.put, List.setIfInBounds_toArray, List.set_cons_zero, List.set_cons_succ]
      refine anyH_at (i := 3) (d := some 28) rfl rfl (by kernel_rfl) (by kernel_rfl) (by kernel_rfl) (fun _ _ _ h => h) (by rfl) (v := ?_) ?_ (by assumption) ?_
      rotate_left
      · (intro w hSw; (try dsimp only at hSw); go_simp <;> with_reducible rfl)
      simp only [Act.put, List.setIfInBounds_toArray, List.set_cons_zero, List.set_cons_succ]
      refine anyH_at (i := 4) (d := some 29) rfl rfl (by kernel_rfl) (by kernel_rfl) (by kernel_rfl) (fun _ _ _ h => h) (by rfl) (v := ?_) ?_ (by assumption) ?_
      rotate_left
      · (intro w hSw; (try dsimp only at hSw); go_simp <;> with_reducible rfl)
      simp only [Act.put, List.setIfInBounds_toArray, List.set_cons_zero, List.set_cons_succ]
      refine wpAnyH_ready (rs := [5]) (by kernel_rfl) (by simp) ?_
      refine AllReadyH.cons rfl (fun K hK => ?_) AllReadyH.nil
      go_simp
      refine (placeLines_any _ nm vr fa fc da ds.length dc fs ds _ (l.take k) (((unhide HP).later ((unhide HW5).trans ((below_drew w5).mono (unhide HW5).size))).take hk) ((unhide HF).1.later ((unhide HW5).trans ((below_drew w5).mono (unhide HW5).size))) hn0 hv0 hll1 ⟨unhide HFO, (unhide HQ).1⟩).mono ?_
      rintro e w6 ⟨u6, rfl, hs6, b6⟩
      have hb6 : Below w5.heap.size w5 w6 := (below_drew w5).trans b6
      obtain ⟨qa, qc, hu6⟩ := own_formS hs6
      subst hu6
      have HX6 := hide ((hb6.block P (heapLt ((unhide HX5).trans (unhide HX)))).trans (unhide HX5))
      have HW6 := hide ((unhide HW5).trans (hb6.mono (unhide HW5).size))
      have HU6 := hide (hs6.base (unhide HW5).size)
      have HS6 := hide ((unhide HS5).later hb6)
      have hl6 : (fs.flatMap (Ix.placeOf (l.take k) (nm, vr, fs, ds))).length ≤ 2 := Nat.le_trans (Ix.flat_le _ (Ix.placeOf_len (l.take k) (nm, vr, fs, ds)) _) hll1
      have hpl : fs.flatMap (Ix.placeL l k (nm, vr, fs, ds)) = fs.flatMap (Ix.placeOf (l.take k) (nm, vr, fs, ds)) := rfl
      rw [hpl] at HLS
      generalize fs.flatMap (Ix.placeOf (l.take k) (nm, vr, fs, ds)) = n3 at *
      clear hs6 b6 hb6 hpl
      go_wp2_with fail
      refine hK.out _ _ ?_ (fun hHeldN => ?_)
      · exact unhide SOF _ (unhide HX6)
      clear hHeld
      have hHeld := hHeldN
      clear hHeldN
      clear hK K
      try simp only [Act.put, List.setIfInBounds_toArray, List.set_cons_zero, List.set_cons_succ]
      refine wpAnyH_ready (rs := [6]) (by kernel_rfl) (by simp) ?_
      refine AllReadyH.cons rfl (fun K hK => ?_) AllReadyH.nil
      rw [if_pos (by rfl)]
      refine wp_append_row _ _ _ 111 rfl w.heap.size 9 i0 _ 1 16 Tryz.underlying111 hI0 hz0 hz1 hz2 rfl (by decide) (.slice ra l5.length rc) l5.length (l5.map strB) rfl (unhide HS6) (.slice qa n3.length qc) n3.length (n3.map strB) rfl (unhide HU6) (strB_one _) (by unfold maxLen; omega) (by omega) (unhide HW6).size ?_
      intro v7 w7 hown7 hgrow7
      have hX7 := (grown_other (unhide HS6) hgrow7 ((unhide HX6).trans (unhide HX)) (by decide)).trans (unhide HX6)
      have HS7 := hide (StrR.app hown7)
      have HW7 := hide (grown_below (B := w.heap.size) (unhide HS6) hgrow7 (unhide HW6) (unhide HW6).size)
      have HX7 := hide hX7
      clear hown7 hgrow7 hX7
      change K (Act.put _ (some 31) _) _
      refine hK.out _ _ ?_ (fun hHeldN => ?_)
      · exact unhide SOF _ (unhide HX7)
      clear hHeld
      have hHeld := hHeldN
      clear hHeldN
      clear hK K
      try simp only [Act.put, List.setIfInBounds_toArray, List.set_cons_zero, List.set_cons_succ]
      refine anyH_at (i := 7) (d := some 3) rfl rfl (by kernel_rfl) (by kernel_rfl) (by kernel_rfl) (fun _ _ _ h => h) (by rfl) (v := ?_) ?_ (by assumption) ?_
      rotate_left
      · (intro w hSw; (try dsimp only at hSw); go_simp <;> with_reducible rfl)
      simp only [Act.put, List.setIfInBounds_toArray, List.set_cons_zero, List.set_cons_succ]
      refine wpAnyH_done (by kernel_rfl) ?_ _
      go_wp2
      go_roundw
      case rel => exact ⟨k + 1, by omega, by go_num, by rw [unhide HLS, show ls ++ (n1 ++ n2 ++ n3) = l5 ++ n3 by rw [← unhide HL5, ← unhide HL3]; simp only [List.append_assoc]]; exact unhide HS7, unhide HW7⟩
      case measure => simp [intOf]; omega
    · obtain rfl : k = l.length := by omega
      clear hlt hrow
      go_wp2
      go_ret
      exact ⟨_, rfl, unhide HS, unhide HW⟩
end Go.Proofs.YtkhanndmbpemfaaGreatDoor
