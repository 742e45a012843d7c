import Derived.Test.YtlnieobmhofkdaaGreatDoorMix8
import Derived.Test.YtlnieobmhofkdaaGreatDoorTrimW
/- What spec.l71Some returns: some of packages; the reader goes on. -/
namespace Go.Proofs.YtlnieobmhofkdaaGreatDoor
open Go.RowKit

theorem POwn.kpB {N : Nat → Prop} {B blk : Nat} {w w' : World} {v : Value} {l : List El} (h : POwn N B w v l) (hk : Kp w.heap.size blk w w') (hb : blk < B) (hN : ∀ b, N b → b ≠ blk) : POwn N B w' v l :=
  ⟨own_keepS h.own (fun g _ _ hg hx => hk.block g (heapLt hx) (by omega)), fun e he => ⟨(h.el e he).1.keep hk.size (fun k hk1 hn => hk.block k hk1 (hN k hn)), (h.el e he).2.keep hk.size (fun k hk1 hn => hk.block k hk1 (hN k hn))⟩⟩

set_option maxHeartbeats 4000000 in
set_option maxRecDepth 100000 in
theorem l71Some_any {B : Nat} (w : World) (blk p : Nat) (v : Value) (l : List Ix.Pg) (h : Rd B w blk p) (hB : B ≤ w.heap.size) (hp : p ≤ 600000000) (hv : Pks (fun b => blk < b) w v l) (hl : l.length ≤ 7) :
    Calls Tryz.prog 39 #[.pointer (some ⟨blk, 0, none⟩), v] w fun e w' => ∃ v' s p', e = .returned v' ∧ s.length ≤ 8 ∧ p' ≤ p + 700 ∧ Pks (fun b => blk < b) w' v' s ∧ Rd B w' blk p' ∧ Kp w.heap.size blk w w' := by
  obtain ⟨i0, hI0, hz0, hz1, hz2⟩ := info_parts infoPkg
  have hlt := h.lt
  have hbd := hv.bound
  obtain ⟨a, cap, rfl, hlen, hrow⟩ := hbd
  clear hv
  have HR := hide hrow
  have b0 := below1 w (.cells #[] 42)
  have HRD := hide (h.later hB b0)
  have HK := hide (Kp.of_below (blk := blk) b0)
  have HPO : Hid (POwn (fun b => blk < b ∧ b < w.heap.size) w.heap.size (w.alloc (.cells #[] 42)) (.slice (some ⟨w.heap.size, 0, none⟩) 0 0) []) :=
    ⟨empty_own (sz := 4) (heap_alloc_new w _) (Nat.le_refl _), fun _ he => (by cases he)⟩
  clear h b0 hrow
  go_enter Tryz.func39, Tryz.ntmps39
  go_wp2_with fail
  go_loopw [5, 6] (fun o i w' => ∃ (k : Nat) (els : List El) (q : Nat), k ≤ l.length ∧ i = .int .i64 k ∧ els.length ≤ k ∧ q ≤ p + k ∧ POwn (fun b => blk < b ∧ b < w.heap.size) w.heap.size w' o els ∧ Rd B w' blk q ∧ Kp w.heap.size blk w w') (fun _ i _ => l.length - (intOf i).toNat)
  case atStart => exact ⟨0, [], p, Nat.zero_le _, rfl, Nat.le_refl _, Nat.le_refl _, unhide HPO, unhide HRD, unhide HK⟩
  case round =>
    clear HPO HRD HK
    obtain ⟨k, els, q, hk, rfl, hle, hq, hP, hr, hkp⟩ := hrel
    have HP := hide hP
    have RD := hide hr
    have K := hide hkp
    clear hP hr hkp
    by_cases hlt2 : k < l.length
    · have hi0 : (0 : Int) ≤ (k : Int) := Int.natCast_nonneg _
      have hi1 : (k : Int) < (l.length : Int) := by omega
      go_wp2_with fail
      refine (pick_any _ blk q 3 (unhide RD) (by omega) (by omega) (by omega)).mono ?_
      rintro e w2 ⟨v1, rfl, v10, v11, hr, hk2⟩
      have HP2 := hide (POwn.kpB (unhide HP) hk2 hlt (fun b hb => by omega))
      have RD2 := hide hr
      have hkk := (unhide K).trans hk2 (unhide K).size
      have K2 := hide hkk
      have hs2 := hkk.size
      clear hr hk2 HP RD K hkk
      by_cases hv1 : 0 < v1
      · obtain ⟨b, off, rfl, hb, hN, hc⟩ := unhide HR (by omega)
        obtain ⟨fv, dv, hAt, hf, hd⟩ := hc k hlt2
        clear hc
        obtain ⟨nm, vr, fs, ds, hpk⟩ : ∃ nm vr fs ds, Ix.pg l k = (nm, vr, fs, ds) := ⟨_, _, _, _, rfl⟩
        rw [hpk] at hAt hf hd
        dsimp only at hf hd
        obtain ⟨fa, fc, hfv⟩ := hf.slice
        obtain ⟨da, dc, hdv⟩ := hd.slice
        subst hfv hdv
        obtain ⟨c0, c1, c2, c3⟩ := hAt.keep ((unhide K2).block b hb (by omega))
        dsimp only at c0 c1 c2 c3
        have hb' : b < w2.heap.size := Nat.lt_of_lt_of_le hb hs2
        have bx := below1 w2 (.cells #[.int .i64 nm, .int .i64 vr, .slice fa fs.length fc, .slice da ds.length dc] 42)
        have kp3 := (unhide K2).trans (Kp.of_below (blk := blk) bx) hs2
        have HF3 := hide (And.intro (hf.keep kp3.size (fun j hj hn => kp3.block j hj (by omega))) (hd.keep kp3.size (fun j hj hn => kp3.block j hj (by omega))))
        have HP3 := hide (POwn.later (unhide HP2) bx)
        have RD3 := hide ((unhide RD2).later (Nat.le_trans hB hs2) bx)
        have K3 := hide kp3
        clear hAt hf hd hpk bx kp3 HP2 RD2 K2
        go_wp2_with (at_builtin; refine wpList_append_lies _ rfl _ _ _ rfl w.heap.size 42 i0 _ 4 64 Tryz.underlying31 hI0 hz0 hz1 hz2 rfl (by omega) _ els.length (flat4 els) rfl (unhide HP3).own ⟨w2.heap.size, 0, none⟩ 1 1 [.int .i64 nm, .int .i64 vr, .slice fa fs.length fc, .slice da ds.length dc] rfl rfl (World.news_of_block (cs := #[.int .i64 nm, .int .i64 vr, .slice fa fs.length fc, .slice da ds.length dc]) (t := 42) (fr := (0, 0)) (heap_alloc_new _ _)) (by simp [Value.oneCell']) (by omega) (by unfold maxLen; omega) (by omega) (by rw [sz1']; omega) (w2.heap.size + 1) (by rw [sz1']) ?_; intro gg gcap w10 hown hgrow hat hlt10)
        have HP10 := hide (POwn.snoc (e := ((nm, vr, fs, ds), .slice fa fs.length fc, .slice da ds.length dc)) (unhide HP3) hgrow hown ⟨(unhide HF3).1, (unhide HF3).2⟩ (fun b hb e => by have := ((unhide HP3).own.lt b e).1; omega))
        have hB10 := grown_below (B := w.heap.size) (unhide HP3).own hgrow (Below.refl w.heap.size _) (unhide K3).size
        have RD10 := hide ((unhide RD3).keep (fun j hj _ => hB10.block j (by omega)) (hB10.block blk hlt))
        have K10 := hide ((unhide K3).trans (Kp.of_below (blk := blk) hB10) (Nat.le_refl _))
        clear hown hgrow hat hlt10 HP3 RD3 K3 HF3 hB10
        go_roundw
        case rel => exact ⟨k + 1, els ++ [((nm, vr, fs, ds), .slice fa fs.length fc, .slice da ds.length dc)], q + 1, by omega, by go_num, by rw [List.length_append]; simp only [List.length_cons, List.length_nil]; omega, by omega, unhide HP10, unhide RD10, unhide K10⟩
        case measure => simp [intOf]; omega
      · go_wp2
        go_roundw
        case rel => exact ⟨k + 1, els, q + 1, by omega, by go_num, by omega, by omega, unhide HP2, unhide RD2, unhide K2⟩
        case measure => simp [intOf]; omega
    · obtain rfl : k = l.length := by omega
      go_wp2_with fail
      refine (pick_any _ blk q 12 (unhide RD) (by omega) (by omega) (by omega)).mono ?_
      rintro e w2 ⟨v2, rfl, v20, v21, hr, hk2⟩
      have HP2 := hide (POwn.kpB (unhide HP) hk2 hlt (fun b hb => by omega))
      have RD2 := hide hr
      have hkk := (unhide K).trans hk2 (unhide K).size
      have K2 := hide hkk
      have hs2 := hkk.size
      clear hr hk2 HP RD K hkk
      by_cases hv2 : v2 = 0
      · subst hv2
        go_wp2_with fail
        refine (l71Off_any _ blk (q + 1) (unhide RD2) (by omega) (by omega)).mono ?_
        rintro e w3 ⟨v3, els3, p3, rfl, ho, hel, hp3, hr, hk3⟩
        have hpk : Pks (fun b => w2.heap.size ≤ b) w3 v3 (els3.map (·.1)) := POwn.pks (POwn.weak ho (fun b hb => hb.1)) (fun b hb => hb) (by omega)
        have HPK := hide (hpk.weak (N' := fun b => blk < b) (fun b hb => by omega))
        have hkk := (unhide K2).trans hk3 hs2
        have K3 := hide hkk
        have RD3 := hide hr
        have hml : (els3.map (fun x : El => x.1)).length ≤ 8 := by rw [List.length_map]; exact hel
        clear ho hr hk3 hpk hkk HP2 RD2 K2
        go_wp2
        go_ret
        exact ⟨_, _, p3, rfl, hml, by omega, unhide HPK, unhide RD3, unhide K3⟩
      · have hv2b : (v2 == 0) = false := by simp [hv2]
        have hpk : Pks (fun b => blk < b) w2 _ (els.map (·.1)) := POwn.pks (POwn.weak (unhide HP2) (fun b hb => hb.1)) (fun b hb => by omega) (by omega)
        have HPK := hide hpk
        have hml : (els.map (fun x : El => x.1)).length ≤ 8 := by rw [List.length_map]; omega
        clear hpk HP2
        go_wp2
        go_ret
        exact ⟨_, _, q + 1, rfl, hml, by omega, unhide HPK, unhide RD2, unhide K2⟩
end Go.Proofs.YtlnieobmhofkdaaGreatDoor

/- The state of a function that draws an index. -/
namespace Go.Proofs.YtlnieobmhofkdaaGreatDoor
open Go.RowKit

/-- The state of a function that draws an index: the answer's box, the index's box, its row. -/
structure Is (B : Nat) (W : World) (blk : Nat) (w : World) (p R X : Nat) (num til : Int) (mv : Value) (ms : List Ix.M) : Prop where
  dr : Dr B W blk w p
  hX : w.heap[X]? = some (.cells #[.int .i64 num, .int .i64 til, mv] 28 (0, 0))
  hR : w.heap[R]? = some (.cells #[.int .i64 0, .int .i64 0, .slice none 0 0] 28 (0, 0))
  lX : W.heap.size ≤ X
  lR : W.heap.size ≤ R
  ne : R ≠ X
  own : w.ownsRow W.heap.size 55 3 mv ms.length (flat3 ms)
section
variable {B : Nat} {W w w' : World} {blk p p' R X : Nat} {num til : Int} {mv : Value} {ms : List Ix.M}
theorem Is.keep (h : Is B W blk w p R X num til mv ms) (hk : Kp w.heap.size blk w w') (hr : Rd B w' blk p') : Is B W blk w' p' R X num til mv ms :=
  ⟨h.dr.keep hk hr, h.dr.box hk h.lX h.hX, h.dr.box hk h.lR h.hR, h.lX, h.lR, h.ne, h.dr.row hk h.own⟩
theorem Is.later (h : Is B W blk w p R X num til mv ms) (hb : Below w.heap.size w w') : Is B W blk w' p R X num til mv ms := h.keep (Kp.of_below hb) (h.dr.later hb).rd
theorem Is.setNum (h : Is B W blk w p R X num til mv ms) (a : Int) : Is B W blk (w.setCell ⟨X, 0, none⟩ (.int .i64 a)) p R X a til mv ms :=
  ⟨h.dr.set h.lX, by rw [heapSet h.hX]; rfl, box_set h.hR h.ne, h.lX, h.lR, h.ne, own_set h.own h.hX (by decide)⟩
theorem Is.setTil (h : Is B W blk w p R X num til mv ms) (a : Int) : Is B W blk (w.setCell ⟨X, 1, none⟩ (.int .i64 a)) p R X num a mv ms :=
  ⟨h.dr.set h.lX, by rw [heapSet h.hX]; rfl, box_set h.hR h.ne, h.lX, h.lR, h.ne, own_set h.own h.hX (by decide)⟩
theorem Is.app {w2 : World} {g cap : Nat} {x : Ix.M} (h : Is B W blk w p R X num til mv ms) (hg : w.grownBy w2 mv.ownBlock)
    (ho : w2.ownsRow W.heap.size 55 3 (.slice (some ⟨g, 0, none⟩) (ms.length + 1) cap) (ms.length + 1) (flat3 ms ++ [.int .i64 x.1, .int .i64 x.2.1, .int .i64 x.2.2])) :
    Is B W blk (w2.setCell ⟨X, 2, none⟩ (.slice (some ⟨g, 0, none⟩) (ms.length + 1) cap)) p R X num til (.slice (some ⟨g, 0, none⟩) (ms.length + 1) cap) (ms ++ [x]) := by
  have hX2 := (grown_other h.own hg h.hX (by decide)).trans h.hX
  have hR2 := (grown_other h.own hg h.hR (by decide)).trans h.hR
  refine ⟨(h.dr.grown h.own hg).set h.lX, by rw [heapSet hX2]; rfl, box_set hR2 h.ne, h.lX, h.lR, h.ne, ?_⟩
  rw [flat3_snoc, List.length_append]
  exact own_set ho hX2 (by decide)
theorem Is.cells (h : Is B W blk w p R X num til mv ms) : (w.cell? ⟨X, 0, none⟩ = some (.int .i64 num) ∧ w.cell? ⟨X, 1, none⟩ = some (.int .i64 til) ∧ w.cell? ⟨X, 2, none⟩ = some mv) ∧ (w.frozen? ⟨X, 0, none⟩ = false ∧ w.frozen? ⟨X, 1, none⟩ = false ∧ w.frozen? ⟨X, 2, none⟩ = false) :=
  ⟨⟨cellOf h.hX 0, cellOf h.hX 1, cellOf h.hX 2⟩, ⟨frozenOf h.hX 0, frozenOf h.hX 1, frozenOf h.hX 2⟩⟩
theorem Is.cellsR (h : Is B W blk w p R X num til mv ms) : (w.cell? ⟨R, 0, none⟩ = some (.int .i64 0) ∧ w.cell? ⟨R, 1, none⟩ = some (.int .i64 0) ∧ w.cell? ⟨R, 2, none⟩ = some (.slice none 0 0)) ∧ (w.frozen? ⟨R, 0, none⟩ = false ∧ w.frozen? ⟨R, 1, none⟩ = false ∧ w.frozen? ⟨R, 2, none⟩ = false) :=
  ⟨⟨cellOf h.hR 0, cellOf h.hR 1, cellOf h.hR 2⟩, ⟨frozenOf h.hR 0, frozenOf h.hR 1, frozenOf h.hR 2⟩⟩
/-- The answer is laid into its box. -/
theorem Is.fin (h : Is B W blk w p R X num til mv ms) (hw : w' = ((w.setCell ⟨R, 0, none⟩ (.int .i64 num)).setCell ⟨R, 1, none⟩ (.int .i64 til)).setCell ⟨R, 2, none⟩ mv) :
    (w'.cell? ⟨R, 0, none⟩ = some (.int .i64 num) ∧ w'.cell? ⟨R, 1, none⟩ = some (.int .i64 til) ∧ w'.cell? ⟨R, 2, none⟩ = some mv) ∧ Dr B W blk w' p ∧ w'.ownsRow W.heap.size 55 3 mv ms.length (flat3 ms) := by
  have h' : w'.heap[R]? = some (.cells #[.int .i64 num, .int .i64 til, mv] 28 (0, 0)) := by rw [hw, heapSet (heapSet (heapSet h.hR))]; rfl
  refine ⟨⟨cellOf h' 0, cellOf h' 1, cellOf h' 2⟩, by rw [hw]; exact ((h.dr.set h.lR).set h.lR).set h.lR, ?_⟩
  rw [hw]
  have h1 := own_set (u := .int .i64 num) (o := 0) h.own h.hR (by decide)
  have h2 := own_set (u := .int .i64 til) (o := 1) h1 (heapSet h.hR) (by decide)
  exact own_set (u := mv) (o := 2) h2 (heapSet (heapSet h.hR)) (by decide)
end
end Go.Proofs.YtlnieobmhofkdaaGreatDoor
