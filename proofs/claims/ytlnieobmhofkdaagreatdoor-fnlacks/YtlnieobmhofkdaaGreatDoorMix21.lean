import Derived.Test.YtlnieobmhofkdaaGreatDoorMix20
import Derived.Test.YtlnieobmhofkdaaGreatDoorRootDrawW
import Derived.Test.YtlnieobmhofkdaaGreatDoorMix1
import Derived.Test.YtlnieobmhofkdaaGreatDoorMix12
import Derived.Test.YtlnieobmhofkdaaGreatDoorMix14
import Derived.Test.YtlnieobmhofkdaaGreatDoorMix8
import Derived.Deep.DrawnRows
/- What spec's l71Trust returns: trust, its rows made since, and packages; the reader goes on. -/
namespace Go.Proofs.YtlnieobmhofkdaaGreatDoor
open Go.RowKit

/-- The state of a function that draws trust. -/
structure Ts (B : Nat) (W : World) (blk : Nat) (w : World) (p R X : Nat) (n d : Int) (kv : Value) (ks : List Int) (has : Bool) (num til : Int) (mv : Value) (ms : List Ix.M) : Prop where
  dr : Dr B W blk w p
  hX : w.heap[X]? = some (.cells #[.int .i64 n, kv, .int .i64 d, .bool has, .int .i64 num, .int .i64 til, mv] 30 (0, 0))
  hR : w.heap[R]? = some (.cells #[.int .i64 0, .slice none 0 0, .int .i64 0, .bool false, .int .i64 0, .int .i64 0, .slice none 0 0] 30 (0, 0))
  lX : W.heap.size ≤ X
  lR : W.heap.size ≤ R
  ne : R ≠ X
  keys : w.ownsRow W.heap.size 3 1 kv ks.length (ks.map (Value.int .i64))
  own : w.ownsRow W.heap.size 55 3 mv ms.length (flat3 ms)
section
variable {B : Nat} {W w w' : World} {blk p p' R X : Nat} {n d num til : Int} {kv mv : Value} {ks : List Int} {has : Bool} {ms : List Ix.M}
theorem Ts.keep (h : Ts B W blk w p R X n d kv ks has num til mv ms) (hk : Kp w.heap.size blk w w') (hr : Rd B w' blk p') : Ts B W blk w' p' R X n d kv ks has num til mv ms :=
  ⟨h.dr.keep hk hr, h.dr.box hk h.lX h.hX, h.dr.box hk h.lR h.hR, h.lX, h.lR, h.ne, h.dr.row hk h.keys, h.dr.row hk h.own⟩
theorem Ts.later (h : Ts B W blk w p R X n d kv ks has num til mv ms) (hb : Below w.heap.size w w') : Ts B W blk w' p R X n d kv ks has num til mv ms := h.keep (Kp.of_below hb) (h.dr.later hb).rd
theorem Ts.setHas (h : Ts B W blk w p R X n d kv ks has num til mv ms) (b : Bool) : Ts B W blk (w.setCell ⟨X, 3, none⟩ (.bool b)) p R X n d kv ks b num til mv ms :=
  ⟨h.dr.set h.lX, by rw [heapSet h.hX]; rfl, box_set h.hR h.ne, h.lX, h.lR, h.ne, own_set h.keys h.hX (by decide), own_set h.own h.hX (by decide)⟩
theorem Ts.setIndex (h : Ts B W blk w p R X n d kv ks has num til mv ms) {a b : Int} {mv' : Value} {ms' : List Ix.M} (ho : w.ownsRow W.heap.size 55 3 mv' ms'.length (flat3 ms')) :
    Ts B W blk (((w.setCell ⟨X, 4, none⟩ (.int .i64 a)).setCell ⟨X, 5, none⟩ (.int .i64 b)).setCell ⟨X, 6, none⟩ mv') p R X n d kv ks has a b mv' ms' := by
  have h1 := heapSet (o := 4) (v := .int .i64 a) h.hX
  have h2 := heapSet (o := 5) (v := .int .i64 b) h1
  refine ⟨((h.dr.set h.lX).set h.lX).set h.lX, by rw [heapSet h2]; rfl, box_set (box_set (box_set h.hR h.ne) h.ne) h.ne, h.lX, h.lR, h.ne, ?_, ?_⟩
  · exact own_set (own_set (own_set h.keys h.hX (by decide)) h1 (by decide)) h2 (by decide)
  · exact own_set (own_set (own_set ho h.hX (by decide)) h1 (by decide)) h2 (by decide)
theorem Ts.cells (h : Ts B W blk w p R X n d kv ks has num til mv ms) : (w.cell? ⟨X, 0, none⟩ = some (.int .i64 n) ∧ w.cell? ⟨X, 1, none⟩ = some kv ∧ w.cell? ⟨X, 2, none⟩ = some (.int .i64 d) ∧ w.cell? ⟨X, 3, none⟩ = some (.bool has) ∧ w.cell? ⟨X, 4, none⟩ = some (.int .i64 num) ∧ w.cell? ⟨X, 5, none⟩ = some (.int .i64 til) ∧ w.cell? ⟨X, 6, none⟩ = some mv) :=
  ⟨cellOf h.hX 0, cellOf h.hX 1, cellOf h.hX 2, cellOf h.hX 3, cellOf h.hX 4, cellOf h.hX 5, cellOf h.hX 6⟩
theorem Ts.frozen (h : Ts B W blk w p R X n d kv ks has num til mv ms) : (w.frozen? ⟨X, 3, none⟩ = false ∧ w.frozen? ⟨X, 4, none⟩ = false ∧ w.frozen? ⟨X, 5, none⟩ = false ∧ w.frozen? ⟨X, 6, none⟩ = false) :=
  ⟨frozenOf h.hX 3, frozenOf h.hX 4, frozenOf h.hX 5, frozenOf h.hX 6⟩
theorem Ts.cellsR (h : Ts B W blk w p R X n d kv ks has num til mv ms) : (w.cell? ⟨R, 0, none⟩ = some (.int .i64 0) ∧ w.cell? ⟨R, 1, none⟩ = some (.slice none 0 0) ∧ w.cell? ⟨R, 2, none⟩ = some (.int .i64 0) ∧ w.cell? ⟨R, 3, none⟩ = some (.bool false) ∧ w.cell? ⟨R, 4, none⟩ = some (.int .i64 0) ∧ w.cell? ⟨R, 5, none⟩ = some (.int .i64 0) ∧ w.cell? ⟨R, 6, none⟩ = some (.slice none 0 0)) ∧ (w.frozen? ⟨R, 0, none⟩ = false ∧ w.frozen? ⟨R, 1, none⟩ = false ∧ w.frozen? ⟨R, 2, none⟩ = false ∧ w.frozen? ⟨R, 3, none⟩ = false ∧ w.frozen? ⟨R, 4, none⟩ = false ∧ w.frozen? ⟨R, 5, none⟩ = false ∧ w.frozen? ⟨R, 6, none⟩ = false) :=
  ⟨⟨cellOf h.hR 0, cellOf h.hR 1, cellOf h.hR 2, cellOf h.hR 3, cellOf h.hR 4, cellOf h.hR 5, cellOf h.hR 6⟩, ⟨frozenOf h.hR 0, frozenOf h.hR 1, frozenOf h.hR 2, frozenOf h.hR 3, frozenOf h.hR 4, frozenOf h.hR 5, frozenOf h.hR 6⟩⟩
/-- The answer is laid into its box. -/
theorem Ts.fin {pv : Value} {l : List Ix.Pg} (h : Ts B W blk w p R X n d kv ks has num til mv ms) (hp : Pks (fun b => W.heap.size ≤ b ∧ b ≠ R) w pv l)
    (hw : w' = ((((((w.setCell ⟨R, 0, none⟩ (.int .i64 n)).setCell ⟨R, 1, none⟩ kv).setCell ⟨R, 2, none⟩ (.int .i64 d)).setCell ⟨R, 3, none⟩ (.bool has)).setCell ⟨R, 4, none⟩ (.int .i64 num)).setCell ⟨R, 5, none⟩ (.int .i64 til)).setCell ⟨R, 6, none⟩ mv) :
    (w'.cell? ⟨R, 0, none⟩ = some (.int .i64 n) ∧ w'.cell? ⟨R, 1, none⟩ = some kv ∧ w'.cell? ⟨R, 2, none⟩ = some (.int .i64 d) ∧ w'.cell? ⟨R, 3, none⟩ = some (.bool has) ∧ w'.cell? ⟨R, 4, none⟩ = some (.int .i64 num) ∧ w'.cell? ⟨R, 5, none⟩ = some (.int .i64 til) ∧ w'.cell? ⟨R, 6, none⟩ = some mv) ∧ Dr B W blk w' p ∧ w'.ownsRow W.heap.size 3 1 kv ks.length (ks.map (Value.int .i64)) ∧ w'.ownsRow W.heap.size 55 3 mv ms.length (flat3 ms) ∧ Pks (fun b => W.heap.size ≤ b ∧ b ≠ R) w' pv l := by
  have far : ∀ k, k ≠ R → w'.heap[k]? = w.heap[k]? := fun k hk => by
    rw [hw, Below.heap_setCell _ _ _ _ hk, Below.heap_setCell _ _ _ _ hk, Below.heap_setCell _ _ _ _ hk, Below.heap_setCell _ _ _ _ hk, Below.heap_setCell _ _ _ _ hk, Below.heap_setCell _ _ _ _ hk, Below.heap_setCell _ _ _ _ hk]
  have h' : w'.heap[R]? = some (.cells #[.int .i64 n, kv, .int .i64 d, .bool has, .int .i64 num, .int .i64 til, mv] 30 (0, 0)) := by rw [hw, heapSet (heapSet (heapSet (heapSet (heapSet (heapSet (heapSet h.hR))))))]; rfl
  refine ⟨⟨cellOf h' 0, cellOf h' 1, cellOf h' 2, cellOf h' 3, cellOf h' 4, cellOf h' 5, cellOf h' 6⟩, ?_, ?_, ?_, ?_⟩
  · rw [hw]; exact ((((((h.dr.set h.lR).set h.lR).set h.lR).set h.lR).set h.lR).set h.lR).set h.lR
  · exact own_keepS h.keys (fun g _ e _ _ => far g (fun e2 => own_ne h.keys h.hR (by decide) (by rw [e, e2])))
  · exact own_keepS h.own (fun g _ e _ _ => far g (fun e2 => own_ne h.own h.hR (by decide) (by rw [e, e2])))
  · exact hp.keep (by rw [hw]; simp only [World.setCell, Array.size_modify]; exact Nat.le_refl _) (fun k _ hN => far k hN.2)
end

theorem Pks.kpX {w w' : World} {v : Value} {l : List Ix.Pg} {blk X : Nat} (h : Pks (fun b => X < b) w v l) (hk : Kp w.heap.size blk w w') (hb : blk ≤ X) : Pks (fun b => X < b) w' v l :=
  h.keep hk.size (fun k hk1 hN => hk.block k hk1 (by omega))
theorem Pks.setX {w : World} {v u : Value} {l : List Ix.Pg} {X o : Nat} (h : Pks (fun b => X < b) w v l) : Pks (fun b => X < b) (w.setCell ⟨X, o, none⟩ u) v l :=
  h.keep (by simp only [World.setCell, Array.size_modify]; exact Nat.le_refl _) (fun k _ hN => Below.heap_setCell _ _ _ _ (by show k ≠ X; omega))

set_option maxHeartbeats 4000000 in
set_option maxRecDepth 100000 in
theorem l71Trust_any {B : Nat} (w : World) (blk p : Nat) (h : Rd B w blk p) (hB : B ≤ w.heap.size) (hp : p ≤ 600000000) :
    Calls Tryz.prog 35 #[.pointer (some ⟨blk, 0, none⟩)] w fun e w' => ∃ (n d : Int) (kv : Value) (ks : List Int) (has : Bool) (num til : Int) (mv : Value) (ms : List Ix.M) (pv : Value) (l : List Ix.Pg) (p' : Nat),
      e = .returned (.tuple #[.agg #[.int .i64 n, kv, .int .i64 d, .bool has, .int .i64 num, .int .i64 til, mv], pv]) ∧ (0 ≤ n ∧ n ≤ 10) ∧ (0 ≤ d ∧ d ≤ 8) ∧ (-1 ≤ num ∧ num ≤ 100) ∧ (-1 ≤ til ∧ til ≤ 100) ∧ ks.length ≤ 7 ∧ ms.length ≤ 9 ∧ l.length ≤ 7 ∧ p' ≤ p + 1500 ∧ Dr B w blk w' p' ∧ w'.ownsRow w.heap.size 3 1 kv ks.length (ks.map (Value.int .i64)) ∧ w'.ownsRow w.heap.size 55 3 mv ms.length (flat3 ms) ∧ Pks (fun b => w.heap.size ≤ b ∧ b ≠ w.heap.size) w' pv l := by
  have hlt := h.lt
  have hR0 := heap_alloc_new w (.cells #[.int .i64 0, .slice none 0 0, .int .i64 0, .bool false, .int .i64 0, .int .i64 0, .slice none 0 0] 30)
  have HD0 := hide ((Dr.start h hB).later (below1 w (.cells #[.int .i64 0, .slice none 0 0, .int .i64 0, .bool false, .int .i64 0, .int .i64 0, .slice none 0 0] 30)))
  have hz0 := sz1 w (.cells #[.int .i64 0, .slice none 0 0, .int .i64 0, .bool false, .int .i64 0, .int .i64 0, .slice none 0 0] 30)
  have HR0 := hide hR0
  have HZ0 := hide hz0
  clear h hR0 hz0
  go_enter Tryz.func35, Tryz.ntmps35
  go_wp2_with fail
  refine (l71Root_any _ blk p (unhide HD0).rd (by have := (unhide HD0).size; omega) (by omega)).mono ?_
  generalize w.alloc _ = W0 at *
  rintro e w1 ⟨n, d, kv, ks, q1, rfl, n0, n1, d0, d1, hks, hq1, hst⟩
  have hs0 : w.heap.size ≤ W0.heap.size := (unhide HD0).size
  have HR1 := hide ((unhide HD0).box hst.kp (Nat.le_refl _) (unhide HR0))
  have HD1 := hide ((unhide HD0).keep hst.kp hst.rd)
  have HO1 := hide (own_base (show w1.ownsRow W0.heap.size 3 1 kv ks.length (ks.map (Value.int .i64)) from hst.own) hs0)
  obtain ⟨ka, kc, hkv⟩ := own_formS (unhide HO1)
  subst hkv
  have hs1 := (unhide HD1).size
  have hz1 : w.heap.size + 1 ≤ w1.heap.size := by have := unhide HZ0; have := hst.kp.size; omega
  have HT2 : Hid (Ts B w blk (w1.alloc (.cells #[.int .i64 n, .slice ka ks.length kc, .int .i64 d, .bool false, .int .i64 0, .int .i64 0, .slice none 0 0] 30)) q1 w.heap.size w1.heap.size n d (.slice ka ks.length kc) ks false 0 0 (.slice none 0 0) []) :=
    ⟨(unhide HD1).later (below1 _ _), heap_alloc_new _ _, ((below1 _ _).block _ (heapLt (unhide HR1))).trans (unhide HR1), hs1, Nat.le_refl _, by have := heapLt (unhide HR1); omega, own_later (unhide HO1) (below1 _ _), World.ownsRow_nil _ _ _ _⟩
  have hzz2 : w1.heap.size + 1 ≤ (w1.alloc (.cells #[.int .i64 n, .slice ka ks.length kc, .int .i64 d, .bool false, .int .i64 0, .int .i64 0, .slice none 0 0] 30)).heap.size := by rw [sz1]; exact Nat.le_refl _
  have HZ2 := hide hzz2
  clear hst HR0 HD0 HR1 HD1 HO1 HZ0 hzz2
  go_wp2_with fail
  refine (l71Pkgs_any _ blk q1 (unhide HT2).dr.rd (by have := (unhide HT2).dr.size; omega) (by omega)).mono ?_
  generalize w1.heap.size = X at *
  generalize w1.alloc _ = W2 at *
  clear w1
  rintro e w3 ⟨pv, l, q3, rfl, hpk, hl7, hq3, hr3, hk3⟩
  have HP3 : Hid (Pks (fun b => X < b) w3 pv l) := hpk.weak (fun b hb => by have := unhide HZ2; omega)
  have HT3 := hide ((unhide HT2).keep hk3 hr3)
  clear hpk hr3 hk3 HT2 HZ2
  clear hs0
  clear W2
  clear W0
  obtain ⟨pa, pc, hpv⟩ := (unhide HP3).slice
  subst hpv
  go_wp2_with fail
  refine (pick_any _ blk q3 5 (unhide HT3).dr.rd (by omega) (by omega) (by omega)).mono ?_
  rintro e w4 ⟨v4, rfl, v40, v41, hr4, hk4⟩
  have HP4 := hide ((unhide HP3).kpX hk4 (by omega))
  have HT4 := hide ((unhide HT3).keep hk4 hr4)
  clear hr4 hk4 HP3 HT3
  have hmid : v4 = 0 ∨ 0 < v4 := by omega
  rcases hmid with rfl | hv4
  rotate_left
  obtain ⟨x0, x1, x2, x3, x4, x5, x6⟩ := (unhide HT4).cells
  obtain ⟨f3, f4, f5, f6⟩ := (unhide HT4).frozen
  have HT5 := hide ((unhide HT4).setHas true)
  have HP5 := hide ((unhide HP4).setX (o := 3) (u := .bool true))
  clear HT4 HP4 x0 x1 x2 x4 x5 x6 f4 f5 f6
  go_wp2_with fail
  generalize w4.setCell _ _ = w5 at *
  refine (pick_any _ blk (q3 + 1) 4 (unhide HT5).dr.rd (by omega) (by omega) (by omega)).mono ?_
  rintro e w6 ⟨v6, rfl, v60, v61, hr6, hk6⟩
  have HP6 := hide ((unhide HP5).kpX hk6 (by omega))
  have HT6 := hide ((unhide HT5).keep hk6 hr6)
  have e6 : IntKind.i64.wrap (1 + v6) = 1 + v6 := wrap_small v60 (by omega)
  clear hr6 hk6 HP5 HT5
  go_wp2_with fail
  refine (pick_any _ blk (q3 + 1 + 1) 12 (unhide HT6).dr.rd (by omega) (by omega) (by omega)).mono ?_
  rintro e w7 ⟨v7, rfl, v70, v71, hr7, hk7⟩
  have HP7 := hide ((unhide HP6).kpX hk7 (by omega))
  have HT7 := hide ((unhide HT6).keep hk7 hr7)
  clear hr7 hk7 HP6 HT6
  go_wp2_with fail
  refine (indexOf_any _ (1 + v6) v7 _ l (unhide HP7)).mono ?_
  rintro e w8 ⟨mv, rfl, ho8, hb8⟩
  have hms := Ix.ofD_len (num := 1 + v6) (til := v7) (l := l) (by omega)
  obtain ⟨m0, m1, t0, t1⟩ := Ix.ofD_num (num := 1 + v6) (til := v7) (l := l) (by omega) (by omega) v70 (by omega)
  have HP8 := hide ((unhide HP7).later hb8)
  have HT8 := hide ((unhide HT7).later hb8)
  have HO8 := hide (own_base ho8 (unhide HT7).dr.size)
  obtain ⟨ma, mc, hmv⟩ := own_formS ho8
  generalize (Ix.ofD (1 + v6) v7 l).1 = num at *
  generalize (Ix.ofD (1 + v6) v7 l).2.1 = til at *
  generalize (Ix.ofD (1 + v6) v7 l).2.2 = ms at *
  generalize Ix.ofOk (1 + v6) v7 l = ok at *
  subst hmv
  obtain ⟨x0, x1, x2, x3, x4, x5, x6⟩ := (unhide HT8).cells
  obtain ⟨f3, f4, f5, f6⟩ := (unhide HT8).frozen
  have HT9 := hide ((unhide HT8).setIndex (a := num) (b := til) (unhide HO8))
  have HP9 := hide ((((unhide HP8).setX (o := 4) (u := .int .i64 num)).setX (o := 5) (u := .int .i64 til)).setX (o := 6) (u := .slice ma ms.length mc))
  clear ho8 hb8 HP7 HT7 HO8 HP8 HT8
  go_wp2_with fail
  generalize World.setCell _ _ _ = w9 at *
  have HX9 : Hid (∃ (q : Nat) (has : Bool) (num til : Int) (mv : Value) (ms : List Ix.M), q ≤ p + 700 ∧ -1 ≤ num ∧ num ≤ 100 ∧ -1 ≤ til ∧ til ≤ 100 ∧ ms.length ≤ 8 ∧ Ts B w blk w9 q w.heap.size X n d (.slice ka ks.length kc) ks has num til mv ms) := ⟨_, true, num, til, _, ms, by omega, by omega, m1, by omega, t1, hms, unhide HT9⟩
  clear HT9 x0 x1 x2 x3 x4 x5 x6 f3 f4 f5 f6 v60 v61 v70 v71 e6 m0 m1 t0 t1 hms
  rotate_left
  go_wp2_with fail
  generalize w4 = w9 at *
  have HP9 := HP4
  have HX9 : Hid (∃ (q : Nat) (has : Bool) (num til : Int) (mv : Value) (ms : List Ix.M), q ≤ p + 700 ∧ -1 ≤ num ∧ num ≤ 100 ∧ -1 ≤ til ∧ til ≤ 100 ∧ ms.length ≤ 8 ∧ Ts B w blk w9 q w.heap.size X n d (.slice ka ks.length kc) ks has num til mv ms) := ⟨_, false, 0, 0, _, [], by omega, by omega, by omega, by omega, by omega, by simp, unhide HT4⟩
  clear HT4 HP4
  rotate_left
  all_goals
    obtain ⟨q, has, num, til, mv, ms, hq, m0, m1, t0, t1, hms, hT⟩ := unhide HX9
    obtain ⟨ma, mc, hmv⟩ := own_formS hT.own
    subst hmv
    have HT9 := hide hT
    clear hT HX9
    refine (pick_any _ blk q 24 (unhide HT9).dr.rd (by omega) (by omega) (by omega)).mono ?_
    rintro e w10 ⟨v10, rfl, v100, v101, hr10, hk10⟩
    have HP10 := hide ((unhide HP9).kpX hk10 (by omega))
    have HT10 := hide ((unhide HT9).keep hk10 hr10)
    clear hr10 hk10 HP9 HT9
    have hXR : w.heap.size < X := by omega
    obtain ⟨⟨r0, r1, r2, r3, r4, r5, r6⟩, ⟨s0, s1, s2, s3, s4, s5, s6⟩⟩ := (unhide HT10).cellsR
    obtain ⟨x0, x1, x2, x3, x4, x5, x6⟩ := (unhide HT10).cells
    obtain ⟨f3, f4, f5, f6⟩ := (unhide HT10).frozen
    by_cases h0 : v10 = 0
    · subst h0
      go_wp2
      obtain ⟨⟨q0, q1', q2, q3', q4, q5, q6⟩, hd, hk, ho, hpp⟩ := ((unhide HT10).setHas (!has)).fin ((unhide HP10).setX.weak (fun b hb => (by omega))) rfl
      exact bodyPost_ret (v := .tuple #[.agg #[.int .i64 n, .slice ka ks.length kc, .int .i64 d, .bool (!has), .int .i64 num, .int .i64 til, .slice ma ms.length mc], .slice pa l.length pc]) (by simp [results, Tryz.results35, go_sem, q0, q1', q2, q3', q4, q5, q6]) rfl ⟨_, _, _, ks, _, _, _, _, _, _, l, _, rfl, ⟨n0, n1⟩, ⟨d0, d1⟩, ⟨by omega, by omega⟩, ⟨by omega, by omega⟩, hks, by omega, hl7, by omega, hd, hk, ho, hpp⟩
    have h0' : (v10 == 0) = false := by simpa using h0
    by_cases h1 : v10 = 1
    · subst h1
      have hsz := (unhide HT10).dr.size
      clear r0 r1 r2 r3 r4 r5 r6 s0 s1 s2 s3 s4 s5 s6 x0 x1 x2 x3 x4 x5 x6 f3 f4 f5 f6
      go_wp2_with fail
      refine (l71Index_any _ blk (q + 1) (unhide HT10).dr.rd (by have := (unhide HT10).dr.lB; omega) (by omega)).mono ?_
      rintro e w11 ⟨num', til', mv', ms', q11, rfl, a0, a1, b0, b1, hms', hq11, hd11, ho11⟩
      have HP11 := hide ((unhide HP10).kpX hd11.kp (by omega))
      have HT11 := hide ((unhide HT10).keep hd11.kp hd11.rd)
      have HO11 := hide (own_base ho11 hsz)
      obtain ⟨ma', mc', hmv'⟩ := own_formS ho11
      subst hmv'
      clear HP10 HT10 ho11 hd11
      obtain ⟨⟨r0, r1, r2, r3, r4, r5, r6⟩, ⟨s0, s1, s2, s3, s4, s5, s6⟩⟩ := (unhide HT11).cellsR
      obtain ⟨x0, x1, x2, x3, x4, x5, x6⟩ := (unhide HT11).cells
      obtain ⟨f3, f4, f5, f6⟩ := (unhide HT11).frozen
      go_wp2
      obtain ⟨⟨q0, q1', q2, q3', q4, q5, q6⟩, hd, hk, ho, hpp⟩ := ((unhide HT11).setIndex (a := num') (b := til') (unhide HO11)).fin (((((unhide HP11).setX (o := 4) (u := .int .i64 num')).setX (o := 5) (u := .int .i64 til')).setX (o := 6) (u := .slice ma' ms'.length mc')).weak (fun b hb => (by omega))) rfl
      exact bodyPost_ret (v := .tuple #[.agg #[.int .i64 n, .slice ka ks.length kc, .int .i64 d, .bool has, .int .i64 num', .int .i64 til', .slice ma' ms'.length mc'], .slice pa l.length pc]) (by simp [results, Tryz.results35, go_sem, q0, q1', q2, q3', q4, q5, q6]) rfl ⟨_, _, _, ks, _, _, _, _, _, _, l, _, rfl, ⟨n0, n1⟩, ⟨d0, d1⟩, ⟨by omega, by omega⟩, ⟨by omega, by omega⟩, hks, by omega, hl7, by omega, hd, hk, ho, hpp⟩
    have h1' : (v10 == 1) = false := by simpa using h1
    clear h0 h1
    go_wp2
    obtain ⟨⟨q0, q1', q2, q3', q4, q5, q6⟩, hd, hk, ho, hpp⟩ := (unhide HT10).fin ((unhide HP10).weak (fun b hb => (by omega))) rfl
    exact bodyPost_ret (v := .tuple #[.agg #[.int .i64 n, .slice ka ks.length kc, .int .i64 d, .bool has, .int .i64 num, .int .i64 til, .slice ma ms.length mc], .slice pa l.length pc]) (by simp [results, Tryz.results35, go_sem, q0, q1', q2, q3', q4, q5, q6]) rfl ⟨_, _, _, ks, _, _, _, _, _, _, l, _, rfl, ⟨n0, n1⟩, ⟨d0, d1⟩, ⟨by omega, by omega⟩, ⟨by omega, by omega⟩, hks, by omega, hl7, by omega, hd, hk, ho, hpp⟩
end Go.Proofs.YtlnieobmhofkdaaGreatDoor

/- Boxes of seven: read, written. -/
namespace Go.Proofs.YtlnieobmhofkdaaGreatDoor
open Go.RowKit

theorem box7 {w : World} {X : Nat} {a b c d e f g : Value} {t : TypeId} (h : w.heap[X]? = some (.cells #[a, b, c, d, e, f, g] t (0, 0))) : w.cell? ⟨X, 0, none⟩ = some a ∧ w.cell? ⟨X, 1, none⟩ = some b ∧ w.cell? ⟨X, 2, none⟩ = some c ∧ w.cell? ⟨X, 3, none⟩ = some d ∧ w.cell? ⟨X, 4, none⟩ = some e ∧ w.cell? ⟨X, 5, none⟩ = some f ∧ w.cell? ⟨X, 6, none⟩ = some g :=
  ⟨cellOf h 0, cellOf h 1, cellOf h 2, cellOf h 3, cellOf h 4, cellOf h 5, cellOf h 6⟩
theorem frz7 {w : World} {X : Nat} {c : Array Value} {t : TypeId} (h : w.heap[X]? = some (.cells c t (0, 0))) : w.frozen? ⟨X, 0, none⟩ = false ∧ w.frozen? ⟨X, 1, none⟩ = false ∧ w.frozen? ⟨X, 2, none⟩ = false ∧ w.frozen? ⟨X, 3, none⟩ = false ∧ w.frozen? ⟨X, 4, none⟩ = false ∧ w.frozen? ⟨X, 5, none⟩ = false ∧ w.frozen? ⟨X, 6, none⟩ = false :=
  ⟨frozenOf h 0, frozenOf h 1, frozenOf h 2, frozenOf h 3, frozenOf h 4, frozenOf h 5, frozenOf h 6⟩
/-- A box of seven is written. -/
theorem fin7 {w w' : World} {R : Nat} {a b c d e f g a0 b0 c0 d0 e0 f0 g0 : Value} {t : TypeId} (hR : w.heap[R]? = some (.cells #[a0, b0, c0, d0, e0, f0, g0] t (0, 0)))
    (hw : w' = ((((((w.setCell ⟨R, 0, none⟩ a).setCell ⟨R, 1, none⟩ b).setCell ⟨R, 2, none⟩ c).setCell ⟨R, 3, none⟩ d).setCell ⟨R, 4, none⟩ e).setCell ⟨R, 5, none⟩ f).setCell ⟨R, 6, none⟩ g) :
    w'.heap[R]? = some (.cells #[a, b, c, d, e, f, g] t (0, 0)) ∧ (∀ k, k ≠ R → w'.heap[k]? = w.heap[k]?) ∧ w'.heap.size = w.heap.size ∧ w'.os = w.os ∧ w'.tape = w.tape ∧ w'.output = w.output := by
  refine ⟨by rw [hw, heapSet (heapSet (heapSet (heapSet (heapSet (heapSet (heapSet hR))))))]; rfl, fun k hk => ?_, by rw [hw]; simp [World.setCell], by rw [hw]; simp [World.setCell], by rw [hw]; simp [World.setCell], by rw [hw]; simp [World.setCell]⟩
  rw [hw, Below.heap_setCell _ _ _ _ hk, Below.heap_setCell _ _ _ _ hk, Below.heap_setCell _ _ _ _ hk, Below.heap_setCell _ _ _ _ hk, Below.heap_setCell _ _ _ _ hk, Below.heap_setCell _ _ _ _ hk, Below.heap_setCell _ _ _ _ hk]
theorem below_far {B : Nat} {w0 w w' : World} {R : Nat} (h : Below B w0 w) (hR : B ≤ R) (hf : ∀ k, k ≠ R → w'.heap[k]? = w.heap[k]?) (hs : w'.heap.size = w.heap.size) (ho : w'.os = w.os) (ht : w'.tape = w.tape) (hp : w'.output = w.output) : Below B w0 w' :=
  ⟨ho.trans h.os, ht.trans h.tape, hp.trans h.output, by rw [hs]; exact h.size, fun k hk => (hf k (by omega)).trans (h.block k hk)⟩
end Go.Proofs.YtlnieobmhofkdaaGreatDoor

/- What impl.copyTrust, spec.l11Copy, and both TrustNew return: trust in rows of one's own; for every trust and root. -/
namespace Go.Proofs.YtlnieobmhofkdaaGreatDoor
open Go.RowKit

attribute [local go_sem ↓] Go.wp_at_zero Go.wp_at_succ

/-- Trust is laid into the answer's box. -/
theorem finT {W w w' : World} {R : Nat} {n d num til : Int} {has : Bool} {kv mv a0 b0 c0 d0 e0 f0 g0 : Value} {ks : List Int} {ms : List Ix.M} (hR : w.heap[R]? = some (.cells #[a0, b0, c0, d0, e0, f0, g0] 30 (0, 0))) (lR : W.heap.size ≤ R) (hb : Below W.heap.size W w) (hk : OwI W.heap.size w kv ks) (hm : OwM W.heap.size w mv ms)
    (hw : w' = ((((((w.setCell ⟨R, 0, none⟩ (.int .i64 n)).setCell ⟨R, 1, none⟩ kv).setCell ⟨R, 2, none⟩ (.int .i64 d)).setCell ⟨R, 3, none⟩ (.bool has)).setCell ⟨R, 4, none⟩ (.int .i64 num)).setCell ⟨R, 5, none⟩ (.int .i64 til)).setCell ⟨R, 6, none⟩ mv) :
    (w'.cell? ⟨R, 0, none⟩ = some (.int .i64 n) ∧ w'.cell? ⟨R, 1, none⟩ = some kv ∧ w'.cell? ⟨R, 2, none⟩ = some (.int .i64 d) ∧ w'.cell? ⟨R, 3, none⟩ = some (.bool has) ∧ w'.cell? ⟨R, 4, none⟩ = some (.int .i64 num) ∧ w'.cell? ⟨R, 5, none⟩ = some (.int .i64 til) ∧ w'.cell? ⟨R, 6, none⟩ = some mv) ∧ OwI W.heap.size w' kv ks ∧ OwM W.heap.size w' mv ms ∧ Below W.heap.size W w' ∧ (∀ k, k ≠ R → w'.heap[k]? = w.heap[k]?) := by
  obtain ⟨h1, hf, hs, ho, ht, hp⟩ := fin7 hR hw
  exact ⟨box7 h1, own_keepS hk (fun g _ e _ _ => hf g (fun e2 => own_ne hk hR (by decide) (by rw [e, e2]))), own_keepS hm (fun g _ e _ _ => hf g (fun e2 => own_ne hm hR (by decide) (by rw [e, e2]))), below_far hb lR hf hs ho ht hp, hf⟩
/-- What is answered: trust in rows of one's own, and whether. -/
def Ans (W : World) (r : Tr.T × Bool) (e : Ending) (w' : World) : Prop := ∃ kv mv, e = .returned (.tuple #[tvT r.1 kv mv, .bool r.2]) ∧ OwI W.heap.size w' kv r.1.ks ∧ OwM W.heap.size w' mv r.1.ms ∧ Below W.heap.size W w'
/-- The boxes at the beginning: what came in, the answer's. -/
theorem two_boxesT (w : World) (o1 o2 : Obj) : Below w.heap.size w ((w.alloc o1).alloc o2) ∧ ((w.alloc o1).alloc o2).heap[w.heap.size]? = some o1 ∧ ((w.alloc o1).alloc o2).heap[w.heap.size + 1]? = some o2 := by
  have h1 := below1 w o1
  have h2 := below1 (w.alloc o1) o2
  have e1 := heap_alloc_new w o1
  have e2 := heap_alloc_new (w.alloc o1) o2
  rw [sz1'] at e2
  exact ⟨h1.trans (h2.mono h1.size), (h2.block _ (heapLt e1)).trans e1, e2⟩
theorem three_boxesT (w : World) (o1 o2 o3 : Obj) : Below w.heap.size w (((w.alloc o1).alloc o2).alloc o3) ∧ (((w.alloc o1).alloc o2).alloc o3).heap[w.heap.size]? = some o1 ∧ (((w.alloc o1).alloc o2).alloc o3).heap[w.heap.size + 1]? = some o2 ∧ (((w.alloc o1).alloc o2).alloc o3).heap[w.heap.size + 1 + 1]? = some o3 := by
  obtain ⟨h1, e1, e2⟩ := two_boxesT w o1 o2
  have h3 := below1 ((w.alloc o1).alloc o2) o3
  have e3 := heap_alloc_new ((w.alloc o1).alloc o2) o3
  rw [sz1', sz1'] at e3
  exact ⟨h1.trans (h3.mono h1.size), (h3.block _ (heapLt e1)).trans e1, (h3.block _ (heapLt e2)).trans e2, e3⟩

set_option maxHeartbeats 2000000 in
set_option maxRecDepth 100000 in
theorem implTrustNew_any (w : World) (n d : Int) (kv : Value) (ks : List Int) (hk : Ins w kv ks) :
    Calls Tryz.prog 24 #[.agg #[.int .i64 n, kv, .int .i64 d]] w fun e w' => Ans w (Tr.new n ks d) e w' := by
  obtain ⟨ka, kc, e1⟩ := hk.slice
  subst e1
  obtain ⟨B2, x2, r2⟩ := two_boxesT w (.cells #[.int .i64 n, .slice ka ks.length kc, .int .i64 d] 25) (.cells #[.int .i64 0, .slice none 0 0, .int .i64 0, .bool false, .int .i64 0, .int .i64 0, .slice none 0 0] 30)
  have H2 := hide (And.intro B2 (And.intro x2 (And.intro r2 (hk.later B2))))
  clear B2 x2 r2 hk
  go_enter Tryz.func24, Tryz.ntmps24
  go_wp2_with fail
  refine (implRootOk_any _ n d _ ks (unhide H2).2.2.2).mono ?_
  generalize World.alloc _ _ = W2 at *
  rintro e w3 ⟨rfl, b3⟩
  have H3 := hide (And.intro ((unhide H2).1.trans (b3.mono (unhide H2).1.size)) (And.intro ((b3.block _ (heapLt (unhide H2).2.1)).trans (unhide H2).2.1) (And.intro ((b3.block _ (heapLt (unhide H2).2.2.1)).trans (unhide H2).2.2.1) ((unhide H2).2.2.2.later b3))))
  clear b3 H2
  have x0 := cellOf (unhide H3).2.1 0
  have x1 := cellOf (unhide H3).2.1 1
  have x2 := cellOf (unhide H3).2.1 2
  cases hA : Ky.rootOk n ks d
  · have hT : Tr.new n ks d = (Tr.T.none, false) := by unfold Tr.new; rw [hA]; rfl
    have HT := hide hT
    clear hT
    obtain ⟨s0, s1, s2, s3, s4, s5, s6⟩ := frz7 (unhide H3).2.2.1
    obtain ⟨r0, r1, r2, r3, r4, r5, r6⟩ := box7 (unhide H3).2.2.1
    go_wp2
    obtain ⟨⟨q0, q1, q2, q3, q4, q5, q6⟩, ok5, om5, b5, _⟩ := finT (n := 0) (d := 0) (has := false) (num := 0) (til := 0) (kv := .slice none 0 0) (mv := .slice none 0 0) (ks := []) (ms := []) (unhide H3).2.2.1 (Nat.le_succ _) (unhide H3).1 (World.ownsRow_nil _ _ _ _) (World.ownsRow_nil _ _ _ _) rfl
    exact bodyPost_ret (v := .tuple #[.agg #[.int .i64 0, .slice none 0 0, .int .i64 0, .bool false, .int .i64 0, .int .i64 0, .slice none 0 0], .bool false]) (by simp [results, Tryz.results24, go_sem, q0, q1, q2, q3, q4, q5, q6]) rfl ⟨_, _, by rw [unhide HT] <;> rfl, by rw [unhide HT]; exact ok5, by rw [unhide HT]; exact om5, b5⟩
  · have hT : Tr.new n ks d = (⟨n, ks, d, false, 0, 0, []⟩, true) := by unfold Tr.new; rw [hA]; rfl
    have HT := hide hT
    clear hT
    go_wp2_with fail
    refine (implCopyRoot_any _ n d _ ks (unhide H3).2.2.2).mono ?_
    rintro e w4 ⟨kv', rfl, ok4, b4⟩
    obtain ⟨ka', kc', e3⟩ := own_formS ok4
    subst e3
    have H4 := hide (And.intro ((unhide H3).1.trans (b4.mono (unhide H3).1.size)) (And.intro ((b4.block _ (heapLt (unhide H3).2.2.1)).trans (unhide H3).2.2.1) (own_base' ok4 (unhide H3).1.size)))
    clear b4 ok4 H3 x0 x1 x2
    obtain ⟨s0, s1, s2, s3, s4, s5, s6⟩ := frz7 (unhide H4).2.1
    obtain ⟨r0, r1, r2, r3, r4, r5, r6⟩ := box7 (unhide H4).2.1
    go_wp2
    obtain ⟨⟨q0, q1, q2, q3, q4, q5, q6⟩, ok5, om5, b5, _⟩ := finT (n := n) (d := d) (has := false) (num := 0) (til := 0) (mv := .slice none 0 0) (ms := []) (unhide H4).2.1 (Nat.le_succ _) (unhide H4).1 (unhide H4).2.2 (World.ownsRow_nil _ _ _ _) rfl
    exact bodyPost_ret (v := .tuple #[.agg #[.int .i64 n, .slice ka' ks.length kc', .int .i64 d, .bool false, .int .i64 0, .int .i64 0, .slice none 0 0], .bool true]) (by simp [results, Tryz.results24, go_sem, q0, q1, q2, q3, q4, q5, q6]) rfl ⟨_, _, by rw [unhide HT] <;> rfl, by rw [unhide HT]; exact ok5, by rw [unhide HT]; exact om5, b5⟩

end Go.Proofs.YtlnieobmhofkdaaGreatDoor
