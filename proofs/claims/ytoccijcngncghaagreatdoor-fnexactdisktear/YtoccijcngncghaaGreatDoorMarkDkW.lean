import Derived.Test.YtoccijcngncghaaGreatDoorCopyDkW
import Derived.Test.YtoccijcngncghaaGreatDoorMix17
/- What the laws' markDisk and heldDisk do with a disk that is answered with: rows of its own, no two in one block. -/
namespace Go.Proofs.YtoccijcngncghaaGreatDoor
open Go.RowKit

/-- A disk that is answered with. -/
structure DAns (B : Nat) (w : World) (v1 vf v2 : Value) (e1 : List El) (fl : List Int) (e2 : List El) : Prop where
  p1 : PAns B w v1 e1
  pf : OwI B w vf fl
  p2 : PAns B w v2 e2
  far : ∀ g, blkP v1 e1 g → ¬ blkP v2 e2 g
theorem PAns.notInt {B : Nat} {w : World} {v : Value} {l : List El} (h : PAns B w v l) {g : Nat} {c : Array Value} (hg : w.heap[g]? = some (.cells c 3 (0, 0))) : ¬ blkP v l g := by
  rintro (hb | ⟨e, he, hb | hb⟩)
  · exact own_ne h.own hg (by decide) hb
  · exact own_ne (h.el e he).f hg (by decide) hb
  · exact own_ne (h.el e he).d hg (by decide) hb
theorem PAns.notDisk {B : Nat} {w : World} {v : Value} {l : List El} (h : PAns B w v l) {g : Nat} {c : Array Value} (hg : w.heap[g]? = some (.cells c 26 (0, 0))) : ¬ blkP v l g := by
  rintro (hb | ⟨e, he, hb | hb⟩)
  · exact own_ne h.own hg (by decide) hb
  · exact own_ne (h.el e he).f hg (by decide) hb
  · exact own_ne (h.el e he).d hg (by decide) hb
theorem OwI.staysP {B B' : Nat} {w w' : World} {vf v : Value} {fl : List Int} {l : List El} (h : OwI B w vf fl) (hp : PAns B' w v l) (hs : Stays (blkP v l) w w') : OwI B w' vf fl :=
  own_keepS h (fun g _ _ _ hgg => hs.block g (heapLt hgg) (hp.notInt hgg))
theorem PAns.staysI {B B' : Nat} {w w' : World} {vf v : Value} {fl : List Int} {l : List El} (h : PAns B w v l) (hf : OwI B' w vf fl) (hg : w.grownBy w' vf.ownBlock) : PAns B w' v l :=
  h.keep (fun g hb => hg.block g (h.lt g hb).2 (fun e => by
    obtain ⟨_, c, hc⟩ := own_row hf g e.symm
    exact h.notInt hc hb))
theorem markL_blkP {v : Value} {l : List El} {k : Int} {g : Nat} (h : blkP v (markL k l) g) : blkP v l g := by
  have e : markTo k l l.length = markL k l := by unfold markTo; rw [List.take_length, List.drop_length, List.append_nil]
  rw [← e] at h
  exact markTo_blk h
theorem DAns.later {B : Nat} {w w' : World} {v1 vf v2 : Value} {e1 e2 : List El} {fl : List Int} (h : DAns B w v1 vf v2 e1 fl e2) (hb : Below w.heap.size w w') : DAns B w' v1 vf v2 e1 fl e2 := ⟨h.p1.later hb, own_later h.pf hb, h.p2.later hb, h.far⟩
theorem DAns.base {B B' : Nat} {w : World} {v1 vf v2 : Value} {e1 e2 : List El} {fl : List Int} (h : DAns B w v1 vf v2 e1 fl e2) (hB : B' ≤ B) : DAns B' w v1 vf v2 e1 fl e2 := ⟨h.p1.base hB, own_base' h.pf hB, h.p2.base hB, h.far⟩
theorem DAns.below {B : Nat} {w w' : World} {v1 vf v2 : Value} {e1 e2 : List El} {fl : List Int} (h : DAns B w v1 vf v2 e1 fl e2) {W : World} (hW : Below W.heap.size W w) (hB : W.heap.size ≤ B) (hk : ∀ j, j < w.heap.size → ¬ blkP v1 e1 j → ¬ blkP v2 e2 j → vf.ownBlock ≠ some j → w'.heap[j]? = w.heap[j]?) (hs : w.heap.size ≤ w'.heap.size) (ho : w'.os = w.os) (ht : w'.tape = w.tape) (hp : w'.output = w.output) : Below W.heap.size W w' :=
  ⟨ho.trans hW.os, ht.trans hW.tape, hp.trans hW.output, Nat.le_trans hW.size hs, fun j hj => (hk j (Nat.lt_of_lt_of_le hj hW.size) (fun hb => by have := (h.p1.lt j hb).1; omega) (fun hb => by have := (h.p2.lt j hb).1; omega) (fun hb => by have := (h.pf.lt j hb).1; omega)).trans (hW.block j hj)⟩
def smallE (l : List El) : Prop := l.length ≤ 1000 ∧ ∀ e ∈ l, e.1.2.2.1.length ≤ 1000 ∧ e.1.2.2.2.length ≤ 1000

set_option maxHeartbeats 4000000 in
set_option maxRecDepth 100000 in
theorem markDisk_own (w : World) (has : Bool) (v1 vf v2 : Value) (e1 e2 : List El) (fl : List Int) (B : Nat) (k : Int) (h : DAns B w v1 vf v2 e1 fl e2) (hB : B ≤ w.heap.size) (s1 : smallE e1) (sf : fl.length ≤ 1000) (s2 : smallE e2) (k0 : 0 ≤ k) (k1 : k ≤ 1000) :
    Calls Tryz.prog 23 #[dkV v1 vf has v2, .int .i64 k] w fun e w' => e = .returned (.int .i64 (markK (markK k e1 + fl.length) e2)) ∧ DAns B w' v1 vf v2 (markL k e1) (marksI (markK k e1) fl.length) (markL (markK k e1 + fl.length) e2) ∧ Below B w w' ∧ ∀ (j : Nat) (c : Array Value), w.heap[j]? = some (Obj.cells c 26 (0, 0)) → w'.heap[j]? = some (Obj.cells c 26 (0, 0)) := by
  obtain ⟨a1, c1, i1⟩ := own_formS h.p1.own
  obtain ⟨af, cf, iff'⟩ := own_formS h.pf
  obtain ⟨a2, c2, i2⟩ := own_formS h.p2.own
  subst i1 iff' i2
  dsimp only [dkV]
  have b0 := below1 w (.cells #[.slice a1 e1.length c1, .slice af fl.length cf, .bool has, .slice a2 e2.length c2] 26)
  have HX := hide (heap_alloc_new w (.cells #[.slice a1 e1.length c1, .slice af fl.length cf, .bool has, .slice a2 e2.length c2] 26))
  have BW := hide (b0.mono hB)
  have KD : Hid (∀ (j : Nat) (c : Array Value), w.heap[j]? = some (Obj.cells c 26 (0, 0)) → (w.alloc (.cells #[.slice a1 e1.length c1, .slice af fl.length cf, .bool has, .slice a2 e2.length c2] 26)).heap[j]? = some (Obj.cells c 26 (0, 0))) := fun j c hj => (b0.block _ (heapLt hj)).trans hj
  have HD := hide (h.later b0)
  have LT1 := hide (fun g hg => (h.p1.lt g hg).2)
  have LTF := hide (fun g hg => (h.pf.lt g hg).2)
  have LT2 := hide (fun g hg => (h.p2.lt g hg).2)
  have m1 := markK_le e1 k s1.2
  have hs1 := s1.1
  have hs2 := s2.1
  have m2 := markK_le e2 (markK k e1 + fl.length) s2.2
  clear h b0
  go_enter Tryz.func23, Tryz.ntmps23
  go_wp2_with fail
  refine (markPkgS_own _ _ e1 B k (unhide HD).p1 s1.1 s1.2 k0 (by omega)).mono ?_
  generalize w.alloc _ = W0 at *
  rintro e w1 ⟨rfl, hP, st⟩
  have hX1 := (st.block _ (heapLt (unhide HX)) (fun hb => by have := unhide LT1 _ hb; omega)).trans (unhide HX)
  have D1 : Hid (DAns B w1 (.slice a1 e1.length c1) (.slice af fl.length cf) (.slice a2 e2.length c2) (markL k e1) fl e2) := ⟨hP, (unhide HD).pf.staysP (unhide HD).p1 st, (unhide HD).p2.stays st (fun g hg hb => (unhide HD).far g hb hg), fun g hg => (unhide HD).far g (markL_blkP hg)⟩
  have BW1 := hide ((unhide BW).trans (st.belowB (by have := (unhide BW).size; omega) (fun b hb hn => by have := ((unhide HD).p1.lt b hn).1; omega)))
  have HX1 := hide hX1
  have KD1 : Hid (∀ (j : Nat) (c : Array Value), w.heap[j]? = some (Obj.cells c 26 (0, 0)) → w1.heap[j]? = some (Obj.cells c 26 (0, 0))) := fun j c hj => by
    have hh := unhide KD j c hj
    exact (st.block _ (heapLt hh) ((unhide HD).p1.notDisk hh)).trans hh
  clear hP st hX1 HD BW HX KD
  clear W0
  obtain ⟨x0, x1, x2, x3⟩ : _ ∧ _ ∧ _ ∧ _ := ⟨cellOf (unhide HX1) 0, cellOf (unhide HX1) 1, cellOf (unhide HX1) 2, cellOf (unhide HX1) 3⟩
  go_wp2_with fail
  refine (markIntS_any w1 _ fl B (markK k e1) (unhide D1).pf (by omega) (by omega) (by omega)).mono ?_
  rintro e w2 ⟨rfl, ho, gr⟩
  have hX2 := (gr.block _ (heapLt (unhide HX1)) (fun e => by have := unhide LTF _ e.symm; omega)).trans (unhide HX1)
  have D2 : Hid (DAns B w2 (.slice a1 e1.length c1) (.slice af fl.length cf) (.slice a2 e2.length c2) (markL k e1) (marksI (markK k e1) fl.length) e2) := ⟨(unhide D1).p1.staysI (unhide D1).pf gr, ho, (unhide D1).p2.staysI (unhide D1).pf gr, (unhide D1).far⟩
  have BW2 := hide (grown_below (unhide D1).pf gr (unhide BW1) (by have := (unhide BW1).size; omega))
  have HX2 := hide hX2
  have KD2 : Hid (∀ (j : Nat) (c : Array Value), w.heap[j]? = some (Obj.cells c 26 (0, 0)) → w2.heap[j]? = some (Obj.cells c 26 (0, 0))) := fun j c hj => by
    have hh := unhide KD1 j c hj
    exact (gr.block _ (heapLt hh) (fun e => own_ne (unhide D1).pf hh (by decide) e.symm)).trans hh
  clear ho gr hX2 D1 BW1 HX1 KD1 x0 x1 x2 x3
  obtain ⟨x0, x1, x2, x3⟩ : _ ∧ _ ∧ _ ∧ _ := ⟨cellOf (unhide HX2) 0, cellOf (unhide HX2) 1, cellOf (unhide HX2) 2, cellOf (unhide HX2) 3⟩
  go_wp2_with fail
  refine (markPkgS_own w2 _ e2 B (markK k e1 + fl.length) (unhide D2).p2 s2.1 s2.2 (by omega) (by omega)).mono ?_
  rintro e w3 ⟨rfl, hP, st⟩
  have D3 : Hid (DAns B w3 (.slice a1 e1.length c1) (.slice af fl.length cf) (.slice a2 e2.length c2) (markL k e1) (marksI (markK k e1) fl.length) (markL (markK k e1 + fl.length) e2)) := ⟨(unhide D2).p1.stays st (fun g hg hb => (unhide D2).far g hg hb), (unhide D2).pf.staysP (unhide D2).p2 st, hP, fun g hg hb => (unhide D2).far g hg (markL_blkP hb)⟩
  have BW3 := hide ((unhide BW2).trans (st.belowB (by have := (unhide BW2).size; omega) (fun b hb hn => by have := ((unhide D2).p2.lt b hn).1; omega)))
  have KD3 : Hid (∀ (j : Nat) (c : Array Value), w.heap[j]? = some (Obj.cells c 26 (0, 0)) → w3.heap[j]? = some (Obj.cells c 26 (0, 0))) := fun j c hj => by
    have hh := unhide KD2 j c hj
    exact (st.block _ (heapLt hh) ((unhide D2).p2.notDisk hh)).trans hh
  clear hP st D2 BW2 HX2 x0 x1 x2 x3
  go_wp2
  go_ret
  exact ⟨rfl, unhide D3, unhide BW3, unhide KD3⟩

set_option maxHeartbeats 4000000 in
set_option maxRecDepth 100000 in
theorem heldDisk_own (w : World) (has : Bool) (v1 vf v2 : Value) (e1 e2 : List El) (n : Nat) (B : Nat) (k : Int) (h : DAns B w v1 vf v2 (markL k e1) (marksI (markK k e1) n) (markL (markK k e1 + n) e2)) (s1 : smallE e1) (sf : n ≤ 1000) (s2 : smallE e2) (k0 : 0 ≤ k) (k1 : k ≤ 1000) :
    Calls Tryz.prog 25 #[dkV v1 vf has v2, .int .i64 k] w fun e w' => e = .returned (.int .i64 (markK (markK k e1 + n) e2)) ∧ Below w.heap.size w w' := by
  obtain ⟨a1, c1, i1⟩ := own_formS h.p1.own
  obtain ⟨af, cf, iff'⟩ := own_formS h.pf
  obtain ⟨a2, c2, i2⟩ := own_formS h.p2.own
  rw [markL_len] at i1 i2
  rw [marksI_len] at iff'
  subst i1 iff' i2
  dsimp only [dkV]
  have b0 := below1 w (.cells #[.slice a1 e1.length c1, .slice af n cf, .bool has, .slice a2 e2.length c2] 26)
  have HX := hide (heap_alloc_new w (.cells #[.slice a1 e1.length c1, .slice af n cf, .bool has, .slice a2 e2.length c2] 26))
  have BW := hide b0
  have HD := hide (h.later b0)
  have m1 := markK_le e1 k s1.2
  have hs1 := s1.1
  have hs2 := s2.1
  have m2 := markK_le e2 (markK k e1 + n) s2.2
  have n1 : ¬ markK k e1 < 0 := by omega
  have n2 : ¬ markK k e1 + (n : Int) < 0 := by omega
  have n3 : ¬ markK (markK k e1 + n) e2 < 0 := by omega
  clear h b0
  go_enter Tryz.func25, Tryz.ntmps25
  go_wp2_with fail
  refine (heldPkgS_own _ _ e1 B k (unhide HD).p1 s1.1 s1.2 k0 (by omega)).mono ?_
  generalize w.alloc _ = W0 at *
  rintro e w1 ⟨rfl, rfl⟩
  obtain ⟨x0, x1, x2, x3⟩ : _ ∧ _ ∧ _ ∧ _ := ⟨cellOf (unhide HX) 0, cellOf (unhide HX) 1, cellOf (unhide HX) 2, cellOf (unhide HX) 3⟩
  have CH := hide (heldIntS_any w1 _ n B (markK k e1) (by have := (unhide HD).pf; exact this) (by omega) (by omega) (by omega))
  have CP := hide (heldPkgS_own w1 _ e2 B (markK k e1 + n) (unhide HD).p2 s2.1 s2.2 (by omega) (by omega))
  go_wp2_with fail
  refine (unhide CH).mono ?_
  rintro e w2 ⟨rfl, rfl⟩
  go_wp2_with fail
  refine (unhide CP).mono ?_
  rintro e w3 ⟨rfl, rfl⟩
  clear CH CP HD HX
  go_wp2
  go_ret
  exact ⟨rfl, unhide BW⟩
end Go.Proofs.YtoccijcngncghaaGreatDoor
