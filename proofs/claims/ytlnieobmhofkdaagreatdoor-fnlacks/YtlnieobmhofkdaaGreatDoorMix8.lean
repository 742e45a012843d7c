import Derived.Test.YtlnieobmhofkdaaGreatDoorMix6
import Derived.Test.YtlnieobmhofkdaaGreatDoorMix7
import Derived.Test.YtlnieobmhofkdaaGreatDoorAnyDrawW
import Derived.Deep.AppendLies
import Derived.Laws.OwnMore
import Derived.Test.YtlnieobmhofkdaaGreatDoorChecked
import Derived.Deep.RegionHeld3
import Derived.Test.YtlnieobmhofkdaaGreatDoorMix4
import Derived.Maps.AppendAt
/- The state of a function that draws: the reader, and what stays of boxes and rows where it goes on, where a box is written, where a row grows. -/
namespace Go.Proofs.YtlnieobmhofkdaaGreatDoor
open Go.RowKit

structure Dr (B : Nat) (W : World) (blk : Nat) (w : World) (p : Nat) : Prop where
  rd : Rd B w blk p
  lB : B ≤ W.heap.size
  lt : blk < W.heap.size
  kp : Kp W.heap.size blk W w
section
variable {B : Nat} {W w w' : World} {blk p p' X o : Nat} {u : Value}
theorem Dr.keep (h : Dr B W blk w p) (hk : Kp w.heap.size blk w w') (hr : Rd B w' blk p') : Dr B W blk w' p' := ⟨hr, h.lB, h.lt, h.kp.trans hk h.kp.size⟩
theorem Dr.later (h : Dr B W blk w p) (hb : Below w.heap.size w w') : Dr B W blk w' p := h.keep (Kp.of_below hb) (h.rd.later (Nat.le_trans h.lB h.kp.size) hb)
theorem Dr.start (h : Rd B w blk p) (hB : B ≤ w.heap.size) : Dr B w blk w p := ⟨h, hB, h.lt, Kp.refl _ _ _⟩
theorem Dr.size (h : Dr B W blk w p) : W.heap.size ≤ w.heap.size := h.kp.size
theorem Dr.set (h : Dr B W blk w p) (hX : W.heap.size ≤ X) : Dr B W blk (w.setCell ⟨X, o, none⟩ u) p := by
  have far : ∀ k, k ≠ X → (w.setCell ⟨X, o, none⟩ u).heap[k]? = w.heap[k]? := fun k hk => Below.heap_setCell _ _ _ _ hk
  have hlt := h.lt
  have hlB := h.lB
  exact ⟨h.rd.keep (fun k hk _ => far k (by omega)) (far blk (by omega)), h.lB, h.lt, ⟨h.kp.os, h.kp.tape, h.kp.output, by simp only [World.setCell, Array.size_modify]; exact h.kp.size, fun k hk hne => (far k (by omega)).trans (h.kp.block k hk hne)⟩⟩
theorem Dr.grown {sz n : Nat} {t : TypeId} {v : Value} {xs : List Value} (h : Dr B W blk w p) (ho : w.ownsRow W.heap.size t sz v n xs) (hg : w.grownBy w' v.ownBlock) : Dr B W blk w' p := by
  have hlt := h.lt
  have hlB := h.lB
  have hsz := h.kp.size
  have old : ∀ k, k < W.heap.size → w'.heap[k]? = w.heap[k]? := fun k hk => hg.block k (by omega) (fun e => by have := (own_row ho k e.symm).1; omega)
  exact ⟨h.rd.keep (fun k hk _ => old k (by omega)) (old blk hlt), h.lB, h.lt, ⟨hg.os.trans h.kp.os, hg.tape.trans h.kp.tape, hg.output.trans h.kp.output, Nat.le_trans hsz hg.size, fun k hk hne => (old k hk).trans (h.kp.block k hk hne)⟩⟩
theorem Dr.box {ob : Obj} (h : Dr B W blk w p) (hk : Kp w.heap.size blk w w') (hX : W.heap.size ≤ X) (hx : w.heap[X]? = some ob) : w'.heap[X]? = some ob := by
  have := h.lt
  rw [hk.block X (heapLt hx) (by omega)]
  exact hx
theorem Dr.row {sz n : Nat} {t : TypeId} {v : Value} {xs : List Value} (h : Dr B W blk w p) (hk : Kp w.heap.size blk w w') (ho : w.ownsRow W.heap.size t sz v n xs) : w'.ownsRow W.heap.size t sz v n xs := by
  have := h.lt
  exact own_keepS ho (fun g _ _ hb hg => hk.block g (heapLt hg) (by omega))
theorem own_base {B' sz n : Nat} {t : TypeId} {v : Value} {xs : List Value} (h : w.ownsRow B t sz v n xs) (hB : B' ≤ B) : w.ownsRow B' t sz v n xs := by
  refine ⟨h.1, ?_⟩
  rcases h.2 with hn | ⟨g, cap, cur, rfl, hb1, rest⟩
  · exact .inl hn
  · exact .inr ⟨g, cap, cur, rfl, Nat.le_trans hB hb1, rest⟩
/-- A store into one box leaves another one. -/
theorem box_set {ob : Obj} {Y : Nat} (h : w.heap[Y]? = some ob) (hne : Y ≠ X) : (w.setCell ⟨X, o, none⟩ u).heap[Y]? = some ob := by rw [Below.heap_setCell _ _ _ _ hne]; exact h
theorem kp_dr (h : Dr B W blk w p) : Kp W.heap.size blk W w := h.kp
end
end Go.Proofs.YtlnieobmhofkdaaGreatDoor

/- What spec's l71Off returns: a row of packages that is owned; the reader goes on. -/
namespace Go.Proofs.YtlnieobmhofkdaaGreatDoor
open Go.RowKit

theorem POx.base {B B' : Nat} {w : World} {v : Value} {l : List El} (h : POx B w v l) (hB : B' ≤ B) : POx B' w v l :=
  POwn.weak ⟨own_baseP h.own hB, h.el⟩ (fun _ hb => ⟨Nat.le_trans hB hb.1, hb.2⟩)
/-- One more package. -/
theorem POx.app {B : Nat} {w w2 : World} {v : Value} {l : List El} {e : El} {g cap : Nat} (h : POx B w v l) (hg : w.grownBy w2 v.ownBlock)
    (ho : w2.ownsRow B 42 4 (.slice (some ⟨g, 0, none⟩) (l.length + 1) cap) (l.length + 1) (flat4 l ++ [.int .i64 e.1.1, .int .i64 e.1.2.1, e.2.1, e.2.2]))
    (hat : v.ownBlock = some g ∨ w.heap.size ≤ g) (h1 : PrsN (fun b => B ≤ b ∧ v.ownBlock ≠ some b) w e.2.1 e.1.2.2.1) (h2 : PrsN (fun b => B ≤ b ∧ v.ownBlock ≠ some b) w e.2.2 e.1.2.2.2) :
    POx B w2 (.slice (some ⟨g, 0, none⟩) (l.length + 1) cap) (l ++ [e]) := by
  have kp : ∀ {u : Value} {p : List (Int × Int)}, PrsN (fun b => B ≤ b ∧ v.ownBlock ≠ some b) w u p → PrsN (fun b => B ≤ b ∧ (Value.slice (some ⟨g, 0, none⟩) (l.length + 1) cap).ownBlock ≠ some b) w2 u p := fun {u p} hp => by
    have hp2 := hp.bound.keep hg.size (fun k hk hN => hg.block k hk (fun e => hN.1.2 e.symm))
    refine hp2.weak (fun b hb => ⟨hb.1.1, fun e => ?_⟩)
    have e2 : g = b := Option.some.inj e
    rcases hat with ha | ha
    · exact hb.1.2 (by rw [ha, e2])
    · have := hb.2; omega
  refine ⟨by rw [flat4_snoc, List.length_append]; exact ho, fun x hx => ?_⟩
  rcases List.mem_append.1 hx with hx | hx
  · exact ⟨kp (h.el x hx).1, kp (h.el x hx).2⟩
  · rw [List.mem_singleton] at hx
    subst hx
    exact ⟨kp h1, kp h2⟩
theorem flat4_len : ∀ l : List El, (flat4 l).length = l.length * 4
  | [] => rfl
  | x :: l => by
    have := flat4_len l
    show (Value.int .i64 x.1.1 :: Value.int .i64 x.1.2.1 :: x.2.1 :: x.2.2 :: flat4 l).length = _
    simp only [List.length_cons, this]
    omega
theorem flat4_app (a b : List El) : flat4 (a ++ b) = flat4 a ++ flat4 b := by unfold flat4; rw [List.flatMap_append]
theorem flat4_put (l : List El) (i : Nat) (e : El) (hi : i < l.length) : ((((flat4 l).set (i * 4) (.int .i64 e.1.1)).set (i * 4 + 1) (.int .i64 e.1.2.1)).set (i * 4 + 2) e.2.1).set (i * 4 + 3) e.2.2 = flat4 (l.take i ++ e :: l.drop (i + 1)) := by
  have hs : l = l.take i ++ l[i] :: l.drop (i + 1) := by rw [← List.drop_eq_getElem_cons hi, List.take_append_drop]
  have hlen : (flat4 (l.take i)).length = i * 4 := by rw [flat4_len, List.length_take]; omega
  conv => lhs; rw [hs]
  rw [flat4_app, List.set_append_right _ _ (by omega), List.set_append_right _ _ (by omega), List.set_append_right _ _ (by omega), List.set_append_right _ _ (by omega), hlen, Nat.sub_self, Nat.add_sub_cancel_left, Nat.add_sub_cancel_left, Nat.add_sub_cancel_left, flat4_app]
  rfl
/-- Another package at a place. -/
theorem POx.put {B : Nat} {w : World} {l : List El} {e : El} {g cap i : Nat} (h : POx B w (.slice (some ⟨g, 0, none⟩) l.length cap) l) (hi : i < l.length)
    (h1 : PrsN (fun b => B ≤ b ∧ (Value.slice (some ⟨g, 0, none⟩) l.length cap).ownBlock ≠ some b) w e.2.1 e.1.2.2.1) (h2 : PrsN (fun b => B ≤ b ∧ (Value.slice (some ⟨g, 0, none⟩) l.length cap).ownBlock ≠ some b) w e.2.2 e.1.2.2.2) :
    POx B ((((w.setCell ⟨g, i * 4, none⟩ (.int .i64 e.1.1)).setCell ⟨g, i * 4 + 1, none⟩ (.int .i64 e.1.2.1)).setCell ⟨g, i * 4 + 2, none⟩ e.2.1).setCell ⟨g, i * 4 + 3, none⟩ e.2.2) (.slice (some ⟨g, 0, none⟩) l.length cap) (l.take i ++ e :: l.drop (i + 1)) ∧ w.grownBy ((((w.setCell ⟨g, i * 4, none⟩ (.int .i64 e.1.1)).setCell ⟨g, i * 4 + 1, none⟩ (.int .i64 e.1.2.1)).setCell ⟨g, i * 4 + 2, none⟩ e.2.1).setCell ⟨g, i * 4 + 3, none⟩ e.2.2) (some g) := by
  have s1 := h.own.stored (i * 4) (.int .i64 e.1.1)
  have s2 := s1.1.stored (i * 4 + 1) (.int .i64 e.1.2.1)
  have s3 := s2.1.stored (i * 4 + 2) e.2.1
  have s4 := s3.1.stored (i * 4 + 3) e.2.2
  have hg := s1.2.trans (s2.2.trans (s3.2.trans s4.2))
  have hlen : (l.take i ++ e :: l.drop (i + 1)).length = l.length := by rw [List.length_append, List.length_cons, List.length_take, List.length_drop]; omega
  have kp : ∀ {u : Value} {p : List (Int × Int)}, PrsN (fun b => B ≤ b ∧ (Value.slice (some ⟨g, 0, none⟩) l.length cap).ownBlock ≠ some b) w u p → PrsN (fun b => B ≤ b ∧ (Value.slice (some ⟨g, 0, none⟩) l.length cap).ownBlock ≠ some b) ((((w.setCell ⟨g, i * 4, none⟩ (.int .i64 e.1.1)).setCell ⟨g, i * 4 + 1, none⟩ (.int .i64 e.1.2.1)).setCell ⟨g, i * 4 + 2, none⟩ e.2.1).setCell ⟨g, i * 4 + 3, none⟩ e.2.2) u p := fun {u p} hp => hp.keep hg.size (fun k hk hN => hg.block k hk (fun e => hN.2 e.symm))
  refine ⟨⟨?_, fun x hx => ?_⟩, hg⟩
  · rw [hlen, ← flat4_put l i e hi]
    exact s4.1
  · rcases List.mem_append.1 hx with hx | hx
    · have := h.el x (List.mem_of_mem_take hx)
      exact ⟨kp this.1, kp this.2⟩
    · rcases List.mem_cons.1 hx with rfl | hx
      · exact ⟨kp h1, kp h2⟩
      · have := h.el x (List.mem_of_mem_drop hx)
        exact ⟨kp this.1, kp this.2⟩

set_option maxHeartbeats 4000000 in
set_option maxRecDepth 100000 in
theorem l71Off_any {B : Nat} (w : World) (blk p : Nat) (h : Rd B w blk p) (hB : B ≤ w.heap.size) (hp : p ≤ 700000000) :
    Calls Tryz.prog 88 #[.pointer (some ⟨blk, 0, none⟩)] w fun e w' => ∃ v els p', e = .returned v ∧ POx w.heap.size w' v els ∧ els.length ≤ 8 ∧ p' ≤ p + 600 ∧ Rd B w' blk p' ∧ Kp w.heap.size blk w w' := by
  obtain ⟨i0, hI0, hz0, hz1, hz2⟩ := info_parts infoPkg
  have hlt := h.lt
  have H := hide h
  clear h
  go_enter Tryz.func88, Tryz.ntmps88
  go_wp2_with fail
  refine (l71Pkgs_own _ blk p (unhide H) hB (by omega)).mono ?_
  rintro e w1 ⟨v, els, p1, rfl, ho, hl, hp1, hr1, hk1⟩
  obtain ⟨va, vc, hv⟩ := own_formS ho.own
  subst hv
  have HO1 := hide ho
  have HR1 := hide hr1
  have HK1 := hide hk1
  have hs1 := hk1.size
  clear ho hr1 hk1 H
  go_wp2_with fail
  refine (pick_any _ blk p1 20 (unhide HR1) (by omega) (by omega) (by omega)).mono ?_
  rintro e w2 ⟨v2, rfl, v20, v21, hr2, hk2⟩
  have HO2 := hide ((unhide HO1).kp hk2 hlt)
  have HK2 := hide ((unhide HK1).trans hk2 (unhide HK1).size)
  have HR2 := hide hr2
  have hs2 := (unhide HK2).size
  clear HO1 HR1 HK1 hr2 hk2
  by_cases h0 : v2 = 0
  · subst h0
    go_wp2_with fail
    refine (l71Any_any _ blk (p1 + 1) (unhide HR2) (by omega) (by omega)).mono ?_
    rintro e w3 ⟨nm, vr, fv, dv, fs, ds, p3, rfl, hf2, hd2, hp3, of3, od3, hr3, hk3⟩
    have hN : ∀ b, w2.heap.size ≤ b → (w.heap.size ≤ b ∧ (Value.slice va els.length vc).ownBlock ≠ some b) := fun b hb => ⟨by omega, fun e => by
      obtain ⟨c, hc⟩ := (own_row (unhide HO2).own b e).2
      have := heapLt hc
      omega⟩
    have hf3 := PrsN.own of3 (by omega) hN
    have hd3 := PrsN.own od3 (by omega) hN
    obtain ⟨fa, fc, hfv⟩ := hf3.slice
    obtain ⟨da, dc, hdv⟩ := hd3.slice
    subst hfv hdv
    have HO3 := (unhide HO2).kp hk3 hlt
    have HK3 := hide ((unhide HK2).trans hk3 (unhide HK2).size)
    have b4 := below1 w3 (.cells #[.int .i64 nm, .int .i64 vr, .slice fa fs.length fc, .slice da ds.length dc] 42)
    have HO4 := hide (HO3.later b4)
    have HF4 := hide (And.intro (hf3.later b4) (hd3.later b4))
    have HR4 := hide (hr3.later (by have := (unhide HK3).size; omega) b4)
    have HK4 := hide ((unhide HK3).trans (Kp.of_below (blk := blk) b4) (unhide HK3).size)
    have HZ4 := hide (sz1 w3 (.cells #[.int .i64 nm, .int .i64 vr, .slice fa fs.length fc, .slice da ds.length dc] 42))
    have hs3 := (unhide HK3).size
    clear HO2 HO3 HK2 HK3 HR2 of3 od3 hf3 hd3 hr3 hk3 b4 hN
    go_wp2_with (at_builtin; refine wpList_append_lies _ rfl _ _ _ rfl w.heap.size 42 i0 _ 4 64 Tryz.underlying31 hI0 hz0 hz1 hz2 rfl (by omega) (.slice va els.length vc) els.length (flat4 els) rfl (unhide HO4).own ⟨w3.heap.size, 0, none⟩ 1 1 [.int .i64 nm, .int .i64 vr, .slice fa fs.length fc, .slice da ds.length dc] rfl rfl (World.news_of_block (cs := #[.int .i64 nm, .int .i64 vr, .slice fa fs.length fc, .slice da ds.length dc]) (t := 42) (fr := (0, 0)) (heap_alloc_new _ _)) (by simp [Value.oneCell']) (by omega) (by unfold maxLen; omega) (by omega) (by have := unhide HZ4; omega) (w3.heap.size + 1) (by rw [sz1]) ?_; intro gg gcap w5 hown hgrow hat hlt5)
    have D4 : Dr B w blk (w3.alloc (.cells #[.int .i64 nm, .int .i64 vr, .slice fa fs.length fc, .slice da ds.length dc] 42)) p3 := ⟨unhide HR4, hB, hlt, unhide HK4⟩
    have D5 := D4.grown (unhide HO4).own hgrow
    have hP5 := POx.app (unhide HO4) (e := ((nm, vr, fs, ds), .slice fa fs.length fc, .slice da ds.length dc)) hgrow hown (hat.imp id (fun e => by rw [unhide HZ4]; omega)) (unhide HF4).1 (unhide HF4).2
    have hl5 : (els ++ [((nm, vr, fs, ds), Value.slice fa fs.length fc, Value.slice da ds.length dc)]).length ≤ 8 := by rw [List.length_append]; simp only [List.length_cons, List.length_nil]; omega
    go_ret
    exact ⟨_, _, p3, rfl, hP5, hl5, by omega, D5.rd, D5.kp⟩
  have h0' : (v2 == 0) = false := by simpa using h0
  by_cases h1 : v2 = 1
  · subst h1
    by_cases hz : els.length = 0
    · have hz' : ¬ (0 : Int) < (els.length : Int) := by omega
      have HZ := hide hz
      clear hz
      go_wp2
      go_ret
      exact ⟨_, els, _, rfl, unhide HO2, by omega, by omega, unhide HR2, unhide HK2⟩
    have hz' : (0 : Int) < (els.length : Int) := by omega
    go_wp2_with fail
    refine (pick_any _ blk (p1 + 1) els.length (unhide HR2) (by omega) (by omega) (by omega)).mono ?_
    rintro e w3 ⟨v3, rfl, v30, v31, hr3, hk3⟩
    have HO3 := hide ((unhide HO2).kp hk3 hlt)
    have HK3 := hide ((unhide HK2).trans hk3 (unhide HK2).size)
    have HR3 := hide hr3
    have hs3 := (unhide HK3).size
    clear HO2 HR2 HK2 hr3 hk3
    go_wp2_with fail
    refine (l71Any_any _ blk (p1 + 1 + 1) (unhide HR3) (by omega) (by omega)).mono ?_
    rintro e w4 ⟨nm, vr, fv, dv, fs, ds, p4, rfl, hf2, hd2, hp4, of4, od4, hr4, hk4⟩
    have hN : ∀ b, w3.heap.size ≤ b → (w.heap.size ≤ b ∧ (Value.slice va els.length vc).ownBlock ≠ some b) := fun b hb => ⟨by omega, fun e => by
      obtain ⟨c, hc⟩ := (own_row (unhide HO3).own b e).2
      have := heapLt hc
      omega⟩
    have hf4 := PrsN.own of4 (by omega) hN
    have hd4 := PrsN.own od4 (by omega) hN
    obtain ⟨fa, fc, hfv⟩ := hf4.slice
    obtain ⟨da, dc, hdv⟩ := hd4.slice
    subst hfv hdv
    have hO4 := (unhide HO3).kp hk4 hlt
    obtain ⟨i, rfl⟩ : ∃ i : Nat, v3 = (i : Int) := ⟨v3.toNat, by omega⟩
    have hi : i < els.length := by omega
    obtain ⟨gb, cp, e1, _, hgl⟩ := hO4.own.form (by omega)
    injection e1 with e1 _ e3
    subst e1 e3
    have D4 : Dr B w blk w4 p4 := ⟨hr4, hB, hlt, (unhide HK3).trans hk4 (unhide HK3).size⟩
    have hput := POx.put hO4 (e := ((nm, vr, fs, ds), .slice fa fs.length fc, .slice da ds.length dc)) hi hf4 hd4
    have HPUT := hide (And.intro hput.1 (D4.grown hO4.own hput.2))
    have hat : ∀ j, j < 4 → ∃ y, w4.cell? ⟨gb, i * 4 + j, none⟩ = some y := fun j hj => by
      rw [hO4.own.cellAt _ (by omega)]
      exact ⟨_, List.getElem?_eq_getElem (by rw [flat4_len]; omega)⟩
    obtain ⟨y0, c0⟩ := hat 0 (by omega)
    obtain ⟨y1, c1⟩ := hat 1 (by omega)
    obtain ⟨y2, c2⟩ := hat 2 (by omega)
    obtain ⟨y3, c3⟩ := hat 3 (by omega)
    have f0 : w4.frozen? ⟨gb, i * 4, none⟩ = false := hO4.own.frozenAt _
    have f1 : w4.frozen? ⟨gb, i * 4 + 1, none⟩ = false := hO4.own.frozenAt _
    have f2 : w4.frozen? ⟨gb, i * 4 + 2, none⟩ = false := hO4.own.frozenAt _
    have f3 : w4.frozen? ⟨gb, i * 4 + 3, none⟩ = false := hO4.own.frozenAt _
    rw [Nat.add_zero] at c0
    have hl4 : (els.take i ++ ((nm, vr, fs, ds), Value.slice fa fs.length fc, Value.slice da ds.length dc) :: els.drop (i + 1)).length ≤ 8 := by rw [List.length_append, List.length_cons, List.length_take, List.length_drop]; omega
    have hi0 : (0 : Int) ≤ (i : Int) := by omega
    have hi1 : (i : Int) < (els.length : Int) := by omega
    clear hput hat hO4 D4 hf4 hd4 of4 od4 hr4 hk4 hN HO3 HK3 HR3 hgl
    go_wp2
    go_ret
    exact ⟨_, _, p4, rfl, (unhide HPUT).1, hl4, by omega, (unhide HPUT).2.rd, (unhide HPUT).2.kp⟩
  · have h1' : (v2 == 1) = false := by simpa using h1
    go_wp2
    go_ret
    exact ⟨_, els, _, rfl, unhide HO2, by omega, by omega, unhide HR2, unhide HK2⟩
end Go.Proofs.YtlnieobmhofkdaaGreatDoor

/- Two laws on regions that draw their order: an operation whose guard is false is passed by; one that yields is taken, its place written out. -/
namespace Go.Proofs.YtlnieobmhofkdaaGreatDoor
section
variable {P : Program} {ops : Array Oper} {Q : Exit → Act → World → Prop} {md : Region.Mode} {S : World → Prop}
theorem anyH_skip {i : Nat} {oi : Oper} {fuel : Nat} {listed : Array Bool} {a : Act} {w : World} (hi : ops[i]? = some oi)
    (hs : Region.noSelect ops = true) (hf : Region.free md ops listed i = true) (hr : (Region.ready md ops listed).contains i = true)
    (hQ : ∀ c a w, Q (.panic c) (a.put oi.dst undef) w → Q (.panic c) a w) (hw : Region.wanted oi (yielded ops a.tmps) = false) (hp : a.put oi.dst undef = a) (hS : S w)
    (h : wpAnyH P md ops Q S fuel (listed.setIfInBounds i true) a w) : wpAnyH P md ops Q S (fuel + 1) listed a w :=
  wpAnyH_take hi hs hf hr hQ (Or.inr ⟨hw, rfl⟩) hS (by rw [hp]; exact h)
theorem anyH_at {i : Nat} {oi : Oper} {v : Value} {d : Option Tmp} {fuel : Nat} {listed : Array Bool} {a : Act} {w : World} (hi : ops[i]? = some oi) (hd : oi.dst = d)
    (hs : Region.noSelect ops = true) (hf : Region.free md ops listed i = true) (hr : (Region.ready md ops listed).contains i = true)
    (hQ : ∀ c a w, Q (.panic c) (a.put oi.dst v) w → Q (.panic c) a w) (hw : Region.wanted oi (yielded ops a.tmps) = true) (hy : ∀ w, S w → (execOp a.eval oi).run P w = .ok (.value v) w) (hS : S w)
    (h : wpAnyH P md ops Q S fuel (listed.setIfInBounds i true) (a.put d v) w) : wpAnyH P md ops Q S (fuel + 1) listed a w :=
  wpAnyH_take hi hs hf hr hQ (Or.inl ⟨hw, hy⟩) hS (by rw [hd]; exact h)
end
end Go.Proofs.YtlnieobmhofkdaaGreatDoor

/- What the laws' markPkg and heldPkg do: marks are laid into a package's rows, and nowhere else; they are read again. -/
namespace Go.Proofs.YtlnieobmhofkdaaGreatDoor
open Go.RowKit

/-- The marks that are laid, a pair a place. -/
def marks (k : Int) (n : Nat) : List (Int × Int) := (List.range n).map fun i : Nat => (k + 2 * (i : Int), k + 2 * (i : Int) + 1)
theorem marks_len (k : Int) (n : Nat) : (marks k n).length = n := by simp [marks]
theorem marks_succ (k : Int) (n : Nat) : marks k (n + 1) = marks k n ++ [(k + 2 * (n : Int), k + 2 * (n : Int) + 1)] := by simp [marks, List.range_succ]
theorem marks_at (k : Int) (n j : Nat) (h : j < n) : Pk.fst (marks k n) j = k + 2 * (j : Int) ∧ Pk.snd (marks k n) j = k + 2 * (j : Int) + 1 := by
  simp [Pk.fst, Pk.snd, marks, h]
theorem flat_app (a b : List (Int × Int)) : flat (a ++ b) = flat a ++ flat b := by unfold flat; rw [List.flatMap_append]
theorem flat_length : ∀ a : List (Int × Int), (flat a).length = a.length * 2
  | [] => rfl
  | x :: l => by
    have := flat_length l
    show (Value.int .i64 x.1 :: Value.int .i64 x.2 :: flat l).length = _
    simp only [List.length_cons, this]
    omega
theorem mark_set (k : Int) (l : List (Int × Int)) (j : Nat) (h : j < l.length) : ((flat (marks k j ++ l.drop j)).set (j * 2) (.int .i64 (k + 2 * j))).set (j * 2 + 1) (.int .i64 (k + 2 * j + 1)) = flat (marks k (j + 1) ++ l.drop (j + 1)) := by
  have hlen : (flat (marks k j)).length = j * 2 := by rw [flat_length, marks_len]
  rw [List.drop_eq_getElem_cons h, flat_app, List.set_append_right _ _ (by omega), List.set_append_right _ _ (by omega), hlen, Nat.sub_self, Nat.add_sub_cancel_left, marks_succ, flat_app, flat_app]
  rw [List.append_assoc]
  rfl
theorem grown_reflM (w : World) (r : Option Nat) : w.grownBy w r := ⟨rfl, rfl, rfl, Nat.le_refl _, fun _ _ _ => rfl⟩

set_option maxHeartbeats 2000000 in
set_option maxRecDepth 100000 in
theorem markFileS_any (w : World) (v : Value) (l : List (Int × Int)) (B : Nat) (k : Int) (h : w.ownsRow B 132 2 v l.length (flat l)) (hl : l.length ≤ 1048576) (k0 : 0 ≤ k) (k1 : k ≤ 1000000000000000) :
    Calls Tryz.prog 76 #[v, .int .i64 k] w fun e w' => e = .returned (.int .i64 (k + 2 * l.length)) ∧ w'.ownsRow B 132 2 v l.length (flat (marks k l.length)) ∧ w.grownBy w' v.ownBlock := by
  obtain ⟨a, cap, rfl⟩ := own_form h
  have H := hide h
  clear h
  go_enter Tryz.func76, Tryz.ntmps76
  go_wp2_with fail
  go_loopw [1, 5] (fun kv i w' => ∃ j : Nat, j ≤ l.length ∧ i = .int .i64 j ∧ kv = .int .i64 (k + 2 * j) ∧ w'.ownsRow B 132 2 (.slice a l.length cap) l.length (flat (marks k j ++ l.drop j)) ∧ w.grownBy w' (Value.slice a l.length cap).ownBlock) (fun _ i _ => l.length - (intOf i).toNat)
  case atStart => exact ⟨0, Nat.zero_le _, rfl, by simp, by simpa [marks] using unhide H, grown_reflM _ _⟩
  case round =>
    obtain ⟨j, hj, rfl, rfl, ho, hg⟩ := hrel
    have HO := hide ho
    have HG := hide hg
    by_cases hlt : j < l.length
    · obtain ⟨gb, cp, e, _, hgl⟩ := ho.form (by omega)
      injection e with e1 _ e3
      subst e1 e3
      have hat := flat_at (marks k j ++ l.drop j) j (by rw [List.length_append, marks_len, List.length_drop]; omega)
      have c1 : wr.cell? ⟨gb, j * 2, none⟩ = some (.int .i64 (Pk.fst (marks k j ++ l.drop j) j)) := by rw [ho.cellAt _ (by omega)]; exact hat.1
      have c2 : wr.cell? ⟨gb, j * 2 + 1, none⟩ = some (.int .i64 (Pk.snd (marks k j ++ l.drop j) j)) := by rw [ho.cellAt _ (by omega)]; exact hat.2
      have f1 : wr.frozen? ⟨gb, j * 2, none⟩ = false := ho.frozenAt _
      have f2 : wr.frozen? ⟨gb, j * 2 + 1, none⟩ = false := ho.frozenAt _
      have hi0 : (0 : Int) ≤ (j : Int) := Int.natCast_nonneg _
      have hi1 : (j : Int) < (l.length : Int) := by omega
      have HSET := hide (mark_set k l j hlt)
      clear ho hg hat
      go_wp2_with fail
      have h1 := (unhide HO).stored (j * 2) (.int .i64 (k + 2 * j))
      have h2 := h1.1.stored (j * 2 + 1) (.int .i64 (k + 2 * j + 1))
      go_roundw
      case rel =>
        refine ⟨j + 1, by omega, by go_num, by go_num, ?_, (unhide HG).trans (h1.2.trans h2.2)⟩
        rw [← unhide HSET]
        exact h2.1
      case measure => simp [intOf]; omega
    · obtain rfl : j = l.length := by omega
      rw [List.drop_length, List.append_nil] at HO
      clear ho hg hlt
      go_wp2
      go_ret
      exact ⟨rfl, unhide HO, unhide HG⟩

set_option maxHeartbeats 2000000 in
set_option maxRecDepth 100000 in
theorem heldFileS_any (w : World) (v : Value) (n : Nat) (B : Nat) (k : Int) (h : w.ownsRow B 132 2 v n (flat (marks k n))) (hl : n ≤ 1000) (k0 : 0 ≤ k) (k1 : k ≤ 1000000000000000) :
    Calls Tryz.prog 78 #[v, .int .i64 k] w fun e w' => e = .returned (.int .i64 (k + 2 * n)) ∧ w' = w := by
  obtain ⟨a, cap, rfl⟩ := own_form h
  have H := hide h
  clear h
  go_enter Tryz.func78, Tryz.ntmps78
  go_wp2_with fail
  go_loop [1, 5] (fun kv i => ∃ j : Nat, j ≤ n ∧ i = .int .i64 j ∧ kv = .int .i64 (k + 2 * j)) (fun _ i => n - (intOf i).toNat)
  case atStart => exact ⟨0, Nat.zero_le _, rfl, by simp⟩
  case round =>
    obtain ⟨j, hj, rfl, rfl⟩ := hrel
    by_cases hlt : j < n
    · obtain ⟨gb, cp, e, _, hgl⟩ := (unhide H).form (by omega)
      injection e with e1 _ e3
      subst e1 e3
      have hat := flat_at (marks k n) j (by rw [marks_len]; exact hlt)
      have c1 : w.cell? ⟨gb, j * 2, none⟩ = some (.int .i64 (k + 2 * j)) := by rw [(unhide H).cellAt _ (by omega), hat.1, (marks_at k n j hlt).1]
      have c2 : w.cell? ⟨gb, j * 2 + 1, none⟩ = some (.int .i64 (k + 2 * j + 1)) := by rw [(unhide H).cellAt _ (by omega), hat.2, (marks_at k n j hlt).2]
      have hi0 : (0 : Int) ≤ (j : Int) := Int.natCast_nonneg _
      have hi1 : (j : Int) < (n : Int) := by omega
      have b1 : (k + 2 * (j : Int) != k + 2 * (j : Int)) = false := by simp
      have b2 : (k + 2 * (j : Int) + 1 != k + 2 * (j : Int) + 1) = false := by simp
      clear hat
      go_wp2
      go_round
      case rel => exact ⟨j + 1, by omega, by go_num, by go_num⟩
      case measure => simp [intOf]; omega
    · obtain rfl : j = n := by omega
      go_wp2
      go_ret
      exact ⟨rfl, rfl⟩

set_option maxHeartbeats 2000000 in
set_option maxRecDepth 100000 in
theorem markDepS_any (w : World) (v : Value) (l : List (Int × Int)) (B : Nat) (k : Int) (h : w.ownsRow B 134 2 v l.length (flat l)) (hl : l.length ≤ 1048576) (k0 : 0 ≤ k) (k1 : k ≤ 1000000000000000) :
    Calls Tryz.prog 77 #[v, .int .i64 k] w fun e w' => e = .returned (.int .i64 (k + 2 * l.length)) ∧ w'.ownsRow B 134 2 v l.length (flat (marks k l.length)) ∧ w.grownBy w' v.ownBlock := by
  obtain ⟨a, cap, rfl⟩ := own_form h
  have H := hide h
  clear h
  go_enter Tryz.func77, Tryz.ntmps77
  go_wp2_with fail
  go_loopw [1, 5] (fun kv i w' => ∃ j : Nat, j ≤ l.length ∧ i = .int .i64 j ∧ kv = .int .i64 (k + 2 * j) ∧ w'.ownsRow B 134 2 (.slice a l.length cap) l.length (flat (marks k j ++ l.drop j)) ∧ w.grownBy w' (Value.slice a l.length cap).ownBlock) (fun _ i _ => l.length - (intOf i).toNat)
  case atStart => exact ⟨0, Nat.zero_le _, rfl, by simp, by simpa [marks] using unhide H, grown_reflM _ _⟩
  case round =>
    obtain ⟨j, hj, rfl, rfl, ho, hg⟩ := hrel
    have HO := hide ho
    have HG := hide hg
    by_cases hlt : j < l.length
    · obtain ⟨gb, cp, e, _, hgl⟩ := ho.form (by omega)
      injection e with e1 _ e3
      subst e1 e3
      have hat := flat_at (marks k j ++ l.drop j) j (by rw [List.length_append, marks_len, List.length_drop]; omega)
      have c1 : wr.cell? ⟨gb, j * 2, none⟩ = some (.int .i64 (Pk.fst (marks k j ++ l.drop j) j)) := by rw [ho.cellAt _ (by omega)]; exact hat.1
      have c2 : wr.cell? ⟨gb, j * 2 + 1, none⟩ = some (.int .i64 (Pk.snd (marks k j ++ l.drop j) j)) := by rw [ho.cellAt _ (by omega)]; exact hat.2
      have f1 : wr.frozen? ⟨gb, j * 2, none⟩ = false := ho.frozenAt _
      have f2 : wr.frozen? ⟨gb, j * 2 + 1, none⟩ = false := ho.frozenAt _
      have hi0 : (0 : Int) ≤ (j : Int) := Int.natCast_nonneg _
      have hi1 : (j : Int) < (l.length : Int) := by omega
      have HSET := hide (mark_set k l j hlt)
      clear ho hg hat
      go_wp2_with fail
      have h1 := (unhide HO).stored (j * 2) (.int .i64 (k + 2 * j))
      have h2 := h1.1.stored (j * 2 + 1) (.int .i64 (k + 2 * j + 1))
      go_roundw
      case rel =>
        refine ⟨j + 1, by omega, by go_num, by go_num, ?_, (unhide HG).trans (h1.2.trans h2.2)⟩
        rw [← unhide HSET]
        exact h2.1
      case measure => simp [intOf]; omega
    · obtain rfl : j = l.length := by omega
      rw [List.drop_length, List.append_nil] at HO
      clear ho hg hlt
      go_wp2
      go_ret
      exact ⟨rfl, unhide HO, unhide HG⟩

set_option maxHeartbeats 2000000 in
set_option maxRecDepth 100000 in
theorem heldDepS_any (w : World) (v : Value) (n : Nat) (B : Nat) (k : Int) (h : w.ownsRow B 134 2 v n (flat (marks k n))) (hl : n ≤ 1000) (k0 : 0 ≤ k) (k1 : k ≤ 1000000000000000) :
    Calls Tryz.prog 79 #[v, .int .i64 k] w fun e w' => e = .returned (.int .i64 (k + 2 * n)) ∧ w' = w := by
  obtain ⟨a, cap, rfl⟩ := own_form h
  have H := hide h
  clear h
  go_enter Tryz.func79, Tryz.ntmps79
  go_wp2_with fail
  go_loop [1, 5] (fun kv i => ∃ j : Nat, j ≤ n ∧ i = .int .i64 j ∧ kv = .int .i64 (k + 2 * j)) (fun _ i => n - (intOf i).toNat)
  case atStart => exact ⟨0, Nat.zero_le _, rfl, by simp⟩
  case round =>
    obtain ⟨j, hj, rfl, rfl⟩ := hrel
    by_cases hlt : j < n
    · obtain ⟨gb, cp, e, _, hgl⟩ := (unhide H).form (by omega)
      injection e with e1 _ e3
      subst e1 e3
      have hat := flat_at (marks k n) j (by rw [marks_len]; exact hlt)
      have c1 : w.cell? ⟨gb, j * 2, none⟩ = some (.int .i64 (k + 2 * j)) := by rw [(unhide H).cellAt _ (by omega), hat.1, (marks_at k n j hlt).1]
      have c2 : w.cell? ⟨gb, j * 2 + 1, none⟩ = some (.int .i64 (k + 2 * j + 1)) := by rw [(unhide H).cellAt _ (by omega), hat.2, (marks_at k n j hlt).2]
      have hi0 : (0 : Int) ≤ (j : Int) := Int.natCast_nonneg _
      have hi1 : (j : Int) < (n : Int) := by omega
      have b1 : (k + 2 * (j : Int) != k + 2 * (j : Int)) = false := by simp
      have b2 : (k + 2 * (j : Int) + 1 != k + 2 * (j : Int) + 1) = false := by simp
      clear hat
      go_wp2
      go_round
      case rel => exact ⟨j + 1, by omega, by go_num, by go_num⟩
      case measure => simp [intOf]; omega
    · obtain rfl : j = n := by omega
      go_wp2
      go_ret
      exact ⟨rfl, rfl⟩

/-- A row of files and a row of needs do not lie in one block. -/
theorem file_dep_ne {w : World} {B B' : Nat} {v v' : Value} {n n' : Nat} {xs xs' : List Value} (h : w.ownsRow B 132 2 v n xs) (h' : w.ownsRow B' 134 2 v' n' xs') : ∀ g, v'.ownBlock = some g → some g ≠ v.ownBlock := by
  intro g hg' hg
  rcases h.2 with ⟨rfl, _⟩ | ⟨g1, c1, cur1, rfl, _, hb1, _⟩
  · cases hg
  rcases h'.2 with ⟨rfl, _⟩ | ⟨g2, c2, cur2, rfl, _, hb2, _⟩
  · cases hg'
  simp only [Value.ownBlock, Option.some.injEq] at hg hg'
  subst hg'
  subst hg
  rw [hb1] at hb2
  injection hb2 with hb2
  injection hb2 with _ hb2 _
  revert hb2
  decide

end Go.Proofs.YtlnieobmhofkdaaGreatDoor
