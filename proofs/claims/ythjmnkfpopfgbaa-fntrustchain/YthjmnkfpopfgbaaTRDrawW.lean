/- What spec's DrawTrustRoot returns: trust and a signed root that can be read. -/
import Derived.Test.YthjmnkfpopfgbaaFreshDrawW
import Derived.Test.YthjmnkfpopfgbaaNextDrawW
import Derived.Test.YthjmnkfpopfgbaaLastW
namespace Go.Proofs.Ythjmnkfpopfgbaa
open Go.RowKit

attribute [local go_sem ↓] Go.wp_at_zero Go.wp_at_succ

/-- Trust and a root that a call drew. -/
structure TdR (B : Nat) (W : World) (blk : Nat) (w : World) (p X : Nat) (n d : Int) (kv : Value) (ks : List Int) (has : Bool) (num til : Int) (mv : Value) (ms : List Ix.M) (Z : Nat) (n2 d2 : Int) (v2 : Value) (k2 : List Int) : Prop where
  td : Td B W blk w p X n d kv ks has num til mv ms
  hZ : w.heap[Z]? = some (.cells #[.int .i64 n2, v2, .int .i64 d2] 25 (0, 0))
  lZ : W.heap.size ≤ Z
  ne : Z ≠ X
  keys : w.ownsRow W.heap.size 3 1 v2 k2.length (k2.map (Value.int .i64))
section
variable {B : Nat} {W w w' : World} {blk p p' X Z : Nat} {n d num til n2 d2 : Int} {kv mv v2 : Value} {ks k2 : List Int} {has : Bool} {ms : List Ix.M}
theorem TdR.keep (h : TdR B W blk w p X n d kv ks has num til mv ms Z n2 d2 v2 k2) (hk : Kp w.heap.size blk w w') (hr : Rd B w' blk p') : TdR B W blk w' p' X n d kv ks has num til mv ms Z n2 d2 v2 k2 :=
  ⟨h.td.keep hk hr, h.td.dr.box hk h.lZ h.hZ, h.lZ, h.ne, h.td.dr.row hk h.keys⟩
theorem TdR.later (h : TdR B W blk w p X n d kv ks has num til mv ms Z n2 d2 v2 k2) (hb : Below w.heap.size w w') : TdR B W blk w' p X n d kv ks has num til mv ms Z n2 d2 v2 k2 := h.keep (Kp.of_below hb) (h.td.dr.later hb).rd
theorem TdR.setNum (h : TdR B W blk w p X n d kv ks has num til mv ms Z n2 d2 v2 k2) (a : Int) : TdR B W blk (w.setCell ⟨Z, 0, none⟩ (.int .i64 a)) p X n d kv ks has num til mv ms Z a d2 v2 k2 :=
  ⟨⟨h.td.dr.set h.lZ, box_set h.td.hX h.ne.symm, h.td.lX, own_set h.td.keys h.hZ (by decide), own_set h.td.own h.hZ (by decide)⟩, by rw [heapSet h.hZ]; rfl, h.lZ, h.ne, own_set h.keys h.hZ (by decide)⟩
end
theorem box3c {w : World} {X : Nat} {a b c : Value} {t : TypeId} (h : w.heap[X]? = some (.cells #[a, b, c] t (0, 0))) : w.cell? ⟨X, 0, none⟩ = some a ∧ w.cell? ⟨X, 1, none⟩ = some b ∧ w.cell? ⟨X, 2, none⟩ = some c := ⟨cellOf h 0, cellOf h 1, cellOf h 2⟩
theorem box4d {w : World} {X : Nat} {a b c d : Value} {t : TypeId} (h : w.heap[X]? = some (.cells #[a, b, c, d] t (0, 0))) : w.cell? ⟨X, 0, none⟩ = some a ∧ w.cell? ⟨X, 1, none⟩ = some b ∧ w.cell? ⟨X, 2, none⟩ = some c ∧ w.cell? ⟨X, 3, none⟩ = some d := ⟨cellOf h 0, cellOf h 1, cellOf h 2, cellOf h 3⟩
theorem fin4 {w w' : World} {R : Nat} {a b c d a0 b0 c0 d0 : Value} {t : TypeId} (hR : w.heap[R]? = some (.cells #[a0, b0, c0, d0] t (0, 0)))
    (hw : w' = (((w.setCell ⟨R, 0, none⟩ a).setCell ⟨R, 1, none⟩ b).setCell ⟨R, 2, none⟩ c).setCell ⟨R, 3, none⟩ d) :
    w'.heap[R]? = some (.cells #[a, b, c, d] t (0, 0)) ∧ (∀ k, k ≠ R → w'.heap[k]? = w.heap[k]?) ∧ w'.heap.size = w.heap.size ∧ w'.os = w.os ∧ w'.tape = w.tape ∧ w'.output = w.output := by
  refine ⟨by rw [hw, heapSet (heapSet (heapSet (heapSet hR)))]; rfl, fun k hk => ?_, by rw [hw]; simp [World.setCell], by rw [hw]; simp [World.setCell], by rw [hw]; simp [World.setCell], by rw [hw]; simp [World.setCell]⟩
  rw [hw, Below.heap_setCell _ _ _ _ hk, Below.heap_setCell _ _ _ _ hk, Below.heap_setCell _ _ _ _ hk, Below.heap_setCell _ _ _ _ hk]

set_option maxHeartbeats 4000000 in
set_option maxRecDepth 100000 in
theorem drawTrustRoot_any (w : World) (a : Option Addr) (len cap : Nat) (h : Bytes w a len cap) :
    Calls Try.prog 23 #[.slice a len cap] w fun e w' => ∃ (n d : Int) (kv : Value) (ks : List Int) (has : Bool) (num til : Int) (mv : Value) (ms : List Ix.M) (n2 d2 : Int) (v2 vb : Value) (k2 by' : List Int), e = .returned (.tuple #[tv n d kv has num til mv, .agg #[.int .i64 n2, v2, .int .i64 d2, vb]]) ∧ (-100 ≤ n2 ∧ n2 ≤ 100) ∧ ks.length ≤ 7 ∧ ms.length ≤ 9 ∧ k2.length ≤ 7 ∧ by'.length ≤ 7 ∧ Ins w' kv ks ∧ Trs w' mv ms ∧ Ins w' v2 k2 ∧ Ins w' vb by' ∧ Below w.heap.size w w' := by
  unfold tv
  have CO := hide (open_behind2 w a len cap h (.cells #[.int .i64 0, .slice none 0 0, .int .i64 0, .bool false, .int .i64 0, .int .i64 0, .slice none 0 0] 31) (.cells #[.int .i64 0, .slice none 0 0, .int .i64 0, .slice none 0 0] 40))
  clear h
  go_enter Try.func23, Try.ntmps23
  go_wp2_with fail
  refine (unhide CO).mono ?_
  generalize World.alloc _ _ = W0 at *
  rintro e w1 ⟨rfl, hr1, hR1, hR2, b1, hs1⟩
  have HR1 := hide (And.intro hR1 hR2)
  have B1 := hide b1
  have HRD := hide hr1
  clear hR1 hR2 b1 hr1 CO
  clear W0
  go_wp2_with fail
  refine (l71Trust_any _ (w.heap.size + 2) 0 (unhide HRD) (by omega) (by omega)).mono ?_
  rintro e w2 ⟨n, d, kv, ks, has, num, til, mv, ms, pv, l, q2, rfl, ⟨n0, n1⟩, ⟨d0, d1⟩, ⟨m0, m1⟩, ⟨t0, t1⟩, hks, hms, hl, hq2, hdr, hok, hom, hppp⟩
  obtain ⟨ka, kc, hkv⟩ := own_formS hok
  obtain ⟨ma, mc, hmv⟩ := own_formS hom
  subst hkv hmv
  have hs2 := hdr.size
  have TD : Hid (Td (w.heap.size + 2) w1 (w.heap.size + 2) (w2.alloc (.cells #[.int .i64 n, .slice ka ks.length kc, .int .i64 d, .bool has, .int .i64 num, .int .i64 til, .slice ma ms.length mc] 31)) q2 w2.heap.size n d (.slice ka ks.length kc) ks has num til (.slice ma ms.length mc) ms) :=
    ⟨hdr.later (below1 _ _), heap_alloc_new _ _, hs2, own_later hok (below1 _ _), own_later hom (below1 _ _)⟩
  have hXR : w.heap.size + 2 < w2.heap.size := by omega
  clear hdr hok hom HRD hppp
  go_wp2_with fail
  refine (l71Root_any _ (w.heap.size + 2) q2 (unhide TD).dr.rd (by have := (unhide TD).dr.size; omega) (by omega)).mono ?_
  generalize w2.heap.size = X at *
  generalize w2.alloc _ = w3 at *
  clear w2
  rintro e w4 ⟨n2, d2, v2, k2, q4, rfl, a0, a1, e0, e1, hk2, hq4, hst⟩
  have hs3 := (unhide TD).dr.size
  have hXlt := heapLt (unhide TD).hX
  have TD4 := (unhide TD).keep hst.kp hst.rd
  have hO4 := own_base (show w4.ownsRow w3.heap.size 3 1 v2 k2.length (k2.map (Value.int .i64)) from hst.own) hs3
  obtain ⟨a2, c2, hv2⟩ := own_formS hO4
  subst hv2
  have hs4 := hst.kp.size
  have TR : Hid (TdR (w.heap.size + 2) w1 (w.heap.size + 2) (w4.alloc (.cells #[.int .i64 n2, .slice a2 k2.length c2, .int .i64 d2] 25)) q4 X n d (.slice ka ks.length kc) ks has num til (.slice ma ms.length mc) ms w4.heap.size n2 d2 (.slice a2 k2.length c2) k2) :=
    ⟨TD4.later (below1 _ _), heap_alloc_new _ _, by omega, by omega, own_later hO4 (below1 _ _)⟩
  clear hst TD4 hO4 TD
  go_wp2_with fail
  generalize w4.heap.size = Z at *
  generalize w4.alloc _ = w5 at *

  have x0 := cellOf (unhide TR).td.hX 0
  have en : IntKind.i64.wrap (n + 1) = n + 1 := wrap_in' (by omega) (by omega)
  refine wl_region (S := fun w' => w'.cell? ⟨X, 0, none⟩ = some (.int .i64 n)) (s := 13) (by kernel_rfl) x0 (fun hHeld => ?_)
  refine wl_take (i := 0) (d := some 18) rfl rfl (by kernel_rfl) (by kernel_rfl) (by kernel_rfl) (by kernel_rfl) (by kernel_rfl) (fun _ _ _ h => h) (by rfl) (v := ?_) ?_ (by assumption) ?_
  rotate_left
  · (intro w hSw; (try dsimp only at hSw); go_simp <;> with_reducible rfl)
  simp only [Act.put, List.setIfInBounds_toArray, List.set_cons_zero, List.set_cons_succ]
  refine wl_take (i := 1) (d := some 19) rfl rfl (by kernel_rfl) (by kernel_rfl) (by kernel_rfl) (by kernel_rfl) (by kernel_rfl) (fun _ _ _ h => h) (by rfl) (v := ?_) ?_ (by assumption) ?_
  rotate_left
  · (intro w hSw; (try dsimp only at hSw); go_simp <;> with_reducible rfl)
  simp only [Act.put, List.setIfInBounds_toArray, List.set_cons_zero, List.set_cons_succ]
  refine wl_take (i := 2) (d := some 20) rfl rfl (by kernel_rfl) (by kernel_rfl) (by kernel_rfl) (by kernel_rfl) (by kernel_rfl) (fun _ _ _ h => h) (by rfl) (v := ?_) ?_ (by assumption) ?_
  rotate_left
  · (intro w hSw; (try dsimp only at hSw); go_simp <;> with_reducible rfl)
  simp only [Act.put, List.setIfInBounds_toArray, List.set_cons_zero, List.set_cons_succ]
  refine wl_take (i := 3) (d := some 21) rfl rfl (by kernel_rfl) (by kernel_rfl) (by kernel_rfl) (by kernel_rfl) (by kernel_rfl) (fun _ _ _ h => h) (by rfl) (v := ?_) ?_ (by assumption) ?_
  rotate_left
  · (intro w hSw; (try dsimp only at hSw); go_simp <;> with_reducible rfl)
  simp only [Act.put, List.setIfInBounds_toArray, List.set_cons_zero, List.set_cons_succ]
  refine wl_take (i := 4) (d := some 22) rfl rfl (by kernel_rfl) (by kernel_rfl) (by kernel_rfl) (by kernel_rfl) (by kernel_rfl) (fun _ _ _ h => h) (by rfl) (fun w _ => run_move rfl rfl w) (by assumption) ?_
  simp only [Act.put, List.setIfInBounds_toArray, List.set_cons_zero, List.set_cons_succ, List.getElem_toArray, List.getElem_cons_zero, List.getElem_cons_succ]
  refine wl_take (i := 8) (d := some 26) rfl rfl (by kernel_rfl) (by kernel_rfl) (by kernel_rfl) (by kernel_rfl) (by kernel_rfl) (fun _ _ _ h => h) (by rfl) (fun w _ => run_move rfl rfl w) (by assumption) ?_
  simp only [Act.put, List.setIfInBounds_toArray, List.set_cons_zero, List.set_cons_succ, List.getElem_toArray, List.getElem_cons_zero, List.getElem_cons_succ]
  refine wl_one (i := 5) (by kernel_rfl) rfl (by rfl) (fun K hK => ?_)
  go_simp
  have TRd := hide ((unhide TR).later (below_drew w5))
  clear TR x0 hHeld
  refine (pick_any _ (w.heap.size + 2) q4 12 (by exact (unhide TRd).td.dr.rd) (by omega) (by omega) (by omega)).mono ?_
  rintro e w6 ⟨v6, rfl, v60, v61, hr6, hk6⟩
  have TR6 := hide ((unhide TRd).keep hk6 hr6)
  have hH6 := cellOf (unhide TR6).td.hX 0
  clear hr6 hk6 TRd
  obtain ⟨q6, hq6, q60, q61⟩ := quo_in' v60 (by omega)
  have e6 : IntKind.i64.wrap (n + 1 + q6) = n + 1 + q6 := wrap_in' (by omega) (by omega)
  go_wp2_with fail
  refine hK.out _ _ (fun _ => (by assumption)) ?_
  clear hK K
  try simp only [Act.put, List.setIfInBounds_toArray, List.set_cons_zero, List.set_cons_succ]
  refine wl_take (i := 6) (d := some 24) rfl rfl (by kernel_rfl) (by kernel_rfl) (by kernel_rfl) (by kernel_rfl) (by kernel_rfl) (fun _ _ _ h => h) (by rfl) (v := ?_) ?_ (by assumption) ?_
  rotate_left
  · (intro w hSw; (try dsimp only at hSw); go_simp <;> with_reducible rfl)
  simp only [Act.put, List.setIfInBounds_toArray, List.set_cons_zero, List.set_cons_succ]
  refine wl_take (i := 7) (d := some 25) rfl rfl (by kernel_rfl) (by kernel_rfl) (by kernel_rfl) (by kernel_rfl) (by kernel_rfl) (fun _ _ _ h => h) (by rfl) (v := ?_) ?_ (by assumption) ?_
  rotate_left
  · (intro w hSw; (try dsimp only at hSw); go_simp <;> with_reducible rfl)
  simp only [Act.put, List.setIfInBounds_toArray, List.set_cons_zero, List.set_cons_succ]
  refine wl_one (i := 9) (by kernel_rfl) rfl (by rfl) (fun K hK => ?_)
  go_simp
  refine (pick_any _ (w.heap.size + 2) (q4 + 1) 12 (by exact (unhide TR6).td.dr.rd) (by omega) (by omega) (by omega)).mono ?_
  rintro e w7 ⟨v7, rfl, v70, v71, hr7, hk7⟩
  have TR7 := hide ((unhide TR6).keep hk7 hr7)
  have hH7 := cellOf (unhide TR7).td.hX 0
  clear hr7 hk7 TR6 hH6
  obtain ⟨q7, hq7, q70, q71⟩ := quo_in' v70 (by omega)
  have e7 : IntKind.i64.wrap (n + 1 + q6 - q7) = n + 1 + q6 - q7 := wrap_in' (by omega) (by omega)
  go_wp2_with fail
  have z0 := cellOf (unhide TR7).hZ 0
  have fz0 := frozenOf (unhide TR7).hZ 0
  refine hK.out _ _ (fun _ => (by assumption)) ?_
  clear hK K
  try simp only [Act.put, List.setIfInBounds_toArray, List.set_cons_zero, List.set_cons_succ]
  refine wl_take (i := 10) (d := some 28) rfl rfl (by kernel_rfl) (by kernel_rfl) (by kernel_rfl) (by kernel_rfl) (by kernel_rfl) (fun _ _ _ h => h) (by rfl) (v := ?_) ?_ (by assumption) ?_
  rotate_left
  · (intro w hSw; (try dsimp only at hSw); go_simp <;> with_reducible rfl)
  simp only [Act.put, List.setIfInBounds_toArray, List.set_cons_zero, List.set_cons_succ]
  refine wl_take (i := 11) (d := some 29) rfl rfl (by kernel_rfl) (by kernel_rfl) (by kernel_rfl) (by kernel_rfl) (by kernel_rfl) (fun _ _ _ h => h) (by rfl) (v := ?_) ?_ (by assumption) ?_
  rotate_left
  · (intro w hSw; (try dsimp only at hSw); go_simp <;> with_reducible rfl)
  simp only [Act.put, List.setIfInBounds_toArray, List.set_cons_zero, List.set_cons_succ]
  refine wl_take (i := 12) (d := some 30) rfl rfl (by kernel_rfl) (by kernel_rfl) (by kernel_rfl) (by kernel_rfl) (by kernel_rfl) (fun _ _ _ h => h) (by rfl) (v := ?_) ?_ (by assumption) ?_
  rotate_left
  · (intro w hSw; (try dsimp only at hSw); go_simp <;> with_reducible rfl)
  simp only [Act.put, List.setIfInBounds_toArray, List.set_cons_zero, List.set_cons_succ]
  refine wl_one (i := 13) (by kernel_rfl) rfl (by rfl) (fun K hK => ?_)
  go_simp
  have TR8 := hide ((unhide TR7).setNum (n + 1 + q6 - q7))
  generalize World.setCell _ _ _ = w8 at *
  have hnb0 : -100 ≤ n + 1 + q6 - q7 := by omega
  have hnb1 : n + 1 + q6 - q7 ≤ 100 := by omega
  generalize n + 1 + q6 - q7 = m2 at *
  refine hK.out _ _ (fun h => absurd rfl h) ?_
  clear hK K
  refine wl_done (by kernel_rfl) ?_
  clear z0 fz0 hH7 TR7 e7 e6 en hq6 hq7
  have hI := (unhide TR8)
  have i1 : Ins w8 (.slice ka ks.length kc) ks := OwnI.ins (B := w1.heap.size) hI.td.keys (by omega)
  have i2 : Ins w8 (.slice a2 k2.length c2) k2 := OwnI.ins (B := w1.heap.size) hI.keys (by omega)
  have I8 := hide (And.intro i1 i2)
  obtain ⟨x0, x1, x2, x3, x4, x5, x6⟩ := box7 hI.td.hX
  obtain ⟨z0, z1, z2⟩ := box3c hI.hZ
  clear hI i1 i2
  go_wp2_with fail
  refine (l31Union_any _ _ _ ks k2 (unhide I8).1 (unhide I8).2 (by omega) (by omega)).mono ?_
  rintro e w9 ⟨ub, lb, rfl, hlb, ho9, b9⟩
  have TR9 := hide ((unhide TR8).later b9)
  have O9 := hide (own_base (show w9.ownsRow w8.heap.size 3 1 ub lb.length (lb.map (Value.int .i64)) from ho9) (unhide TR8).td.dr.size)
  clear ho9 b9 TR8 I8 x0 x1 x2 x3 x4 x5 x6 z0 z1 z2
  go_wp2_with fail
  refine (pick_any _ (w.heap.size + 2) (q4 + 1 + 1) 4 (unhide TR9).td.dr.rd (by omega) (by omega) (by omega)).mono ?_
  rintro e w10 ⟨v10, rfl, v100, v101, hr10, hk10⟩
  have TR10 := hide ((unhide TR9).keep hk10 hr10)
  have O10 := hide ((unhide TR9).td.dr.row hk10 (unhide O9))
  clear hr10 hk10 TR9 O9
  have hv10 : v10 = 0 ∨ ¬ v10 = 0 := by omega
  rcases hv10 with rfl | hv10
  rotate_left
  have hv10' : (v10 == 0) = false := by simpa using hv10
  obtain ⟨ua, uc, hub⟩ := own_formS (unhide O10)
  subst hub
  go_wp2_with fail
  have HX : Hid (∃ q, TdR (w.heap.size + 2) w1 (w.heap.size + 2) w10 q X n d (.slice ka ks.length kc) ks has num til (.slice ma ms.length mc) ms Z m2 d2 (.slice a2 k2.length c2) k2) := ⟨_, unhide TR10⟩
  have HO : Hid (w10.ownsRow w1.heap.size 3 1 (.slice ua lb.length uc) lb.length (lb.map (Value.int .i64))) := unhide O10
  have hlb7 : lb.length ≤ 7 := by omega
  clear TR10 O10 hv10 hv10' hlb
  generalize w10 = w11 at *
  rotate_left
  go_wp2_with fail
  refine (l71Keys_any _ (w.heap.size + 2) (q4 + 1 + 1 + 1) (unhide TR10).td.dr.rd (by have := (unhide TR10).td.dr.size; omega) (by omega)).mono ?_
  clear O10 hlb
  clear lb
  rintro e w11 ⟨ub', lb, q11, rfl, hlb7, _, hq11, hst⟩
  have HX : Hid (∃ q, TdR (w.heap.size + 2) w1 (w.heap.size + 2) w11 q X n d (.slice ka ks.length kc) ks has num til (.slice ma ms.length mc) ms Z m2 d2 (.slice a2 k2.length c2) k2) := ⟨_, (unhide TR10).keep hst.kp hst.rd⟩
  have HO := hide (own_base (show w11.ownsRow w10.heap.size 3 1 ub' lb.length (lb.map (Value.int .i64)) from hst.own) (unhide TR10).td.dr.size)
  obtain ⟨ua, uc, hub⟩ := own_formS (unhide HO)
  subst hub
  clear hst TR10
  go_wp2_with fail
  rotate_left
  all_goals
    obtain ⟨q, hTR⟩ := unhide HX
    have TRe := hide hTR
    clear hTR HX
    have hXb := (unhide TRe).td.lX
    have hZb := (unhide TRe).lZ
    have nX : X ≠ w.heap.size ∧ X ≠ w.heap.size + 1 := by omega
    have nZ : Z ≠ w.heap.size ∧ Z ≠ w.heap.size + 1 := by omega
    have nG : ∀ g, w1.heap.size ≤ g → g ≠ w.heap.size ∧ g ≠ w.heap.size + 1 := fun g hg => by omega
    have NN := hide (And.intro nX (And.intro nZ nG))
    clear nX nZ nG hXb hZb
    obtain ⟨x0, x1, x2, x3, x4, x5, x6⟩ := box7 (unhide TRe).td.hX
    obtain ⟨z0, z1, z2⟩ := box3c (unhide TRe).hZ
    refine wp_region_held_drew (S := fun w' => (w'.cell? ⟨X, 0, none⟩ = some (.int .i64 n) ∧ w'.cell? ⟨X, 1, none⟩ = some (.slice ka ks.length kc) ∧ w'.cell? ⟨X, 2, none⟩ = some (.int .i64 d) ∧ w'.cell? ⟨X, 3, none⟩ = some (.bool has) ∧ w'.cell? ⟨X, 4, none⟩ = some (.int .i64 num) ∧ w'.cell? ⟨X, 5, none⟩ = some (.int .i64 til) ∧ w'.cell? ⟨X, 6, none⟩ = some (.slice ma ms.length mc)) ∧ (w'.cell? ⟨Z, 0, none⟩ = some (.int .i64 m2) ∧ w'.cell? ⟨Z, 1, none⟩ = some (.slice a2 k2.length c2) ∧ w'.cell? ⟨Z, 2, none⟩ = some (.int .i64 d2))) (by kernel_rfl) ?_ (fun hHeld => ?_)
    · exact ⟨⟨x0, x1, x2, x3, x4, x5, x6⟩, z0, z1, z2⟩
    clear x0 x1 x2 x3 x4 x5 x6 z0 z1 z2
    have hRe := (unhide TRe).td.box0 (unhide HR1).1 (by omega)
    obtain ⟨f0, f1, f2, f3, f4, f5, f6⟩ := frz7 hRe
    obtain ⟨r0, r1, r2, r3, r4, r5, r6⟩ := box7 hRe
    have HRF := hide hRe
    have hSf := (unhide TRe).td.box0 (unhide HR1).2 (by omega)
    have HSF := hide hSf
    clear hRe hSf
    refine anyH_at (i := 0) (d := some 42) rfl rfl (by kernel_rfl) (by kernel_rfl) (by kernel_rfl) (fun _ _ _ h => h) (by rfl) (v := ?_) ?_ (by assumption) ?_
    rotate_left
    · (intro w hSw; (try dsimp only at hSw); go_simp <;> with_reducible rfl)
    simp only [Act.put, List.setIfInBounds_toArray, List.set_cons_zero, List.set_cons_succ]
    refine anyH_at (i := 1) (d := some 43) rfl rfl (by kernel_rfl) (by kernel_rfl) (by kernel_rfl) (fun _ _ _ h => h) (by rfl) (v := ?_) ?_ (by assumption) ?_
    rotate_left
    · (intro w hSw; (try dsimp only at hSw); go_simp <;> with_reducible rfl)
    simp only [Act.put, List.setIfInBounds_toArray, List.set_cons_zero, List.set_cons_succ]
    refine anyH_at (i := 2) (d := some 44) rfl rfl (by kernel_rfl) (by kernel_rfl) (by kernel_rfl) (fun _ _ _ h => h) (by rfl) (v := ?_) ?_ (by assumption) ?_
    rotate_left
    · (intro w hSw; (try dsimp only at hSw); go_simp <;> with_reducible rfl)
    simp only [Act.put, List.setIfInBounds_toArray, List.set_cons_zero, List.set_cons_succ]
    refine anyH_at (i := 3) (d := some 45) rfl rfl (by kernel_rfl) (by kernel_rfl) (by kernel_rfl) (fun _ _ _ h => h) (by rfl) (v := ?_) ?_ (by assumption) ?_
    rotate_left
    · (intro w hSw; (try dsimp only at hSw); go_simp <;> with_reducible rfl)
    simp only [Act.put, List.setIfInBounds_toArray, List.set_cons_zero, List.set_cons_succ]
    refine wpAnyH_ready (rs := [4]) (by kernel_rfl) (by simp) ?_
    refine AllReadyH.cons rfl (fun K hK => ?_) AllReadyH.nil
    go_simp
    obtain ⟨hR9, hfar9, hsz9, ho9, ht9, hp9⟩ := fin7 (a := .int .i64 n) (b := .slice ka ks.length kc) (c := .int .i64 d) (d := .bool has) (e := .int .i64 num) (f := .int .i64 til) (g := .slice ma ms.length mc) (unhide HRF) rfl
    generalize World.setCell _ _ _ = w12 at *
    clear f0 f1 f2 f3 f4 f5 f6 r0 r1 r2 r3 r4 r5 r6
    have y7 := box7 ((hfar9 X (unhide NN).1.1).trans (unhide TRe).td.hX)
    have y33 := box3c ((hfar9 Z (unhide NN).2.1.1).trans (unhide TRe).hZ)
    refine hK.out _ _ ?_ (fun hHeldN => ?_)
    · exact ⟨y7, y33⟩
    clear y7 y33
    have hS9 := (hfar9 (w.heap.size + 1) (Nat.succ_ne_self _)).trans (unhide HSF)
    have g0 := frozenOf hS9 0
    have g1 := frozenOf hS9 1
    have g2 := frozenOf hS9 2
    have g3 := frozenOf hS9 3
    obtain ⟨y0, y1, y2, y3⟩ := box4d hS9
    clear hHeld
    have hHeld := hHeldN
    clear hHeldN
    clear hK K
    try simp only [Act.put, List.setIfInBounds_toArray, List.set_cons_zero, List.set_cons_succ]
    refine wpAnyH_ready (rs := [5]) (by kernel_rfl) (by simp) ?_
    refine AllReadyH.cons rfl (fun K hK => ?_) AllReadyH.nil
    go_simp
    obtain ⟨hS10, hfar10, hsz10, ho10, ht10, hp10⟩ := fin4 (a := .int .i64 m2) (b := .slice a2 k2.length c2) (c := .int .i64 d2) (d := .slice ua lb.length uc) hS9 rfl
    generalize World.setCell _ _ _ = w13 at *
    clear g0 g1 g2 g3 y0 y1 y2 y3
    have hfar : ∀ k, k ≠ w.heap.size → k ≠ w.heap.size + 1 → w13.heap[k]? = w11.heap[k]? := fun k h1 h2 => (hfar10 k h2).trans (hfar9 k h1)
    have y7 := box7 ((hfar X (unhide NN).1.1 (unhide NN).1.2).trans (unhide TRe).td.hX)
    have y33 := box3c ((hfar Z (unhide NN).2.1.1 (unhide NN).2.1.2).trans (unhide TRe).hZ)
    refine hK.out _ _ ?_ (fun hHeldN => ?_)
    · exact ⟨y7, y33⟩
    clear y7 y33
    have hb13 := below_far (below_far ((unhide TRe).td.below (unhide B1) (by omega)) (Nat.le_refl _) hfar9 hsz9 ho9 ht9 hp9) (by omega : w.heap.size ≤ w.heap.size + 1) hfar10 hsz10 ho10 ht10 hp10
    have j1 : Ins w13 (.slice ka ks.length kc) ks := OwnI.ins (B := w1.heap.size) (own_keepS (unhide TRe).td.keys (fun g _ _ hg _ => hfar g ((unhide NN).2.2 g hg).1 ((unhide NN).2.2 g hg).2)) (by omega)
    have j2 : Trs w13 (.slice ma ms.length mc) ms := Trs.own (B := w1.heap.size) (own_keepS (unhide TRe).td.own (fun g _ _ hg _ => hfar g ((unhide NN).2.2 g hg).1 ((unhide NN).2.2 g hg).2)) (by omega)
    have j3 : Ins w13 (.slice a2 k2.length c2) k2 := OwnI.ins (B := w1.heap.size) (own_keepS (unhide TRe).keys (fun g _ _ hg _ => hfar g ((unhide NN).2.2 g hg).1 ((unhide NN).2.2 g hg).2)) (by omega)
    have j4 : Ins w13 (.slice ua lb.length uc) lb := OwnI.ins (B := w1.heap.size) (own_keepS (unhide HO) (fun g _ _ hg _ => hfar g ((unhide NN).2.2 g hg).1 ((unhide NN).2.2 g hg).2)) (by omega)
    obtain ⟨q0, q1, q2, q3, q4', q5, q6'⟩ := box7 ((hfar10 w.heap.size (Nat.succ_ne_self _).symm).trans hR9)
    obtain ⟨p0, p1, p2, p3⟩ := box4d hS10
    clear hHeld
    have hHeld := hHeldN
    clear hHeldN
    clear hK K
    try simp only [Act.put, List.setIfInBounds_toArray, List.set_cons_zero, List.set_cons_succ]
    refine wpAnyH_done (by kernel_rfl) ?_ _
    go_wp2
    exact bodyPost_ret (v := .tuple #[.agg #[.int .i64 n, .slice ka ks.length kc, .int .i64 d, .bool has, .int .i64 num, .int .i64 til, .slice ma ms.length mc], .agg #[.int .i64 m2, .slice a2 k2.length c2, .int .i64 d2, .slice ua lb.length uc]]) (by simp [results, Try.results23, go_sem, q0, q1, q2, q3, q4', q5, q6', p0, p1, p2, p3]) rfl ⟨_, _, _, ks, _, _, _, _, ms, _, _, _, _, k2, lb, rfl, ⟨hnb0, hnb1⟩, hks, hms, hk2, hlb7, j1.later (below_drew w13), j2.later (below_drew w13), j3.later (below_drew w13), j4.later (below_drew w13), hb13.drew⟩
end Go.Proofs.Ythjmnkfpopfgbaa
