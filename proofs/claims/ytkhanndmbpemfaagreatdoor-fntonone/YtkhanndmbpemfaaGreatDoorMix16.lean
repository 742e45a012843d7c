import Derived.Test.YtkhanndmbpemfaaGreatDoorCopyDkW
import Derived.Test.YtkhanndmbpemfaaGreatDoorMix15
import Derived.Test.YtkhanndmbpemfaaGreatDoorMix13
import Derived.Test.YtkhanndmbpemfaaGreatDoorMix4
/- What the laws' markDisk and heldDisk do with a disk that is answered with: rows of its own, no two in one block. -/
namespace Go.Proofs.YtkhanndmbpemfaaGreatDoor
open Go.RowKit

/-- A disk that is answered with. -/
structure DAns (B : Nat) (w : World) (v1 vf v2 : Value) (e1 : List El) (fl : List Int) (e2 : List El) : Prop where
  p1 : PAns B w v1 e1
  pf : OwI B w vf fl
  p2 : PAns B w v2 e2
  far : ∀ g, blkP v1 e1 g → ¬ blkP v2 e2 g
theorem PAns.notInt {B : Nat} {w : World} {v : Value} {l : List El} (h : PAns B w v l) {g : Nat} {c : Array Value} (hg : w.heap[g]? = some (.cells c 3 (0, 0))) : ¬ blkP v l g := by
  rintro (hb | ⟨e, he, hb | hb⟩)
  · exact own_ne h.own hg (by decide) hb
  · exact own_ne (h.el e he).f hg (by decide) hb
  · exact own_ne (h.el e he).d hg (by decide) hb
theorem PAns.notDisk {B : Nat} {w : World} {v : Value} {l : List El} (h : PAns B w v l) {g : Nat} {c : Array Value} (hg : w.heap[g]? = some (.cells c 31 (0, 0))) : ¬ blkP v l g := by
  rintro (hb | ⟨e, he, hb | hb⟩)
  · exact own_ne h.own hg (by decide) hb
  · exact own_ne (h.el e he).f hg (by decide) hb
  · exact own_ne (h.el e he).d hg (by decide) hb
theorem OwI.staysP {B B' : Nat} {w w' : World} {vf v : Value} {fl : List Int} {l : List El} (h : OwI B w vf fl) (hp : PAns B' w v l) (hs : Stays (blkP v l) w w') : OwI B w' vf fl :=
  own_keepS h (fun g _ _ _ hgg => hs.block g (heapLt hgg) (hp.notInt hgg))
theorem PAns.staysI {B B' : Nat} {w w' : World} {vf v : Value} {fl : List Int} {l : List El} (h : PAns B w v l) (hf : OwI B' w vf fl) (hg : w.grownBy w' vf.ownBlock) : PAns B w' v l :=
  h.keep (fun g hb => hg.block g (h.lt g hb).2 (fun e => by
    obtain ⟨_, c, hc⟩ := own_row hf g e.symm
    exact h.notInt hc hb))
theorem markL_blkP {v : Value} {l : List El} {k : Int} {g : Nat} (h : blkP v (markL k l) g) : blkP v l g := by
  have e : markTo k l l.length = markL k l := by unfold markTo; rw [List.take_length, List.drop_length, List.append_nil]
  rw [← e] at h
  exact markTo_blk h
theorem DAns.later {B : Nat} {w w' : World} {v1 vf v2 : Value} {e1 e2 : List El} {fl : List Int} (h : DAns B w v1 vf v2 e1 fl e2) (hb : Below w.heap.size w w') : DAns B w' v1 vf v2 e1 fl e2 := ⟨h.p1.later hb, own_later h.pf hb, h.p2.later hb, h.far⟩
theorem DAns.base {B B' : Nat} {w : World} {v1 vf v2 : Value} {e1 e2 : List El} {fl : List Int} (h : DAns B w v1 vf v2 e1 fl e2) (hB : B' ≤ B) : DAns B' w v1 vf v2 e1 fl e2 := ⟨h.p1.base hB, own_base' h.pf hB, h.p2.base hB, h.far⟩
theorem DAns.below {B : Nat} {w w' : World} {v1 vf v2 : Value} {e1 e2 : List El} {fl : List Int} (h : DAns B w v1 vf v2 e1 fl e2) {W : World} (hW : Below W.heap.size W w) (hB : W.heap.size ≤ B) (hk : ∀ j, j < w.heap.size → ¬ blkP v1 e1 j → ¬ blkP v2 e2 j → vf.ownBlock ≠ some j → w'.heap[j]? = w.heap[j]?) (hs : w.heap.size ≤ w'.heap.size) (ho : w'.os = w.os) (ht : w'.tape = w.tape) (hp : w'.output = w.output) : Below W.heap.size W w' :=
  ⟨ho.trans hW.os, ht.trans hW.tape, hp.trans hW.output, Nat.le_trans hW.size hs, fun j hj => (hk j (Nat.lt_of_lt_of_le hj hW.size) (fun hb => by have := (h.p1.lt j hb).1; omega) (fun hb => by have := (h.p2.lt j hb).1; omega) (fun hb => by have := (h.pf.lt j hb).1; omega)).trans (hW.block j hj)⟩
def smallE (l : List El) : Prop := l.length ≤ 1000 ∧ ∀ e ∈ l, e.1.2.2.1.length ≤ 1000 ∧ e.1.2.2.2.length ≤ 1000

set_option maxHeartbeats 4000000 in
set_option maxRecDepth 100000 in
theorem markDisk_own (w : World) (has : Bool) (v1 vf v2 : Value) (e1 e2 : List El) (fl : List Int) (B : Nat) (k : Int) (h : DAns B w v1 vf v2 e1 fl e2) (hB : B ≤ w.heap.size) (s1 : smallE e1) (sf : fl.length ≤ 1000) (s2 : smallE e2) (k0 : 0 ≤ k) (k1 : k ≤ 1000) :
    Calls Tryz.prog 14 #[dkV v1 vf has v2, .int .i64 k] w fun e w' => e = .returned (.int .i64 (markK (markK k e1 + fl.length) e2)) ∧ DAns B w' v1 vf v2 (markL k e1) (marksI (markK k e1) fl.length) (markL (markK k e1 + fl.length) e2) ∧ Below B w w' ∧ ∀ (j : Nat) (c : Array Value), w.heap[j]? = some (Obj.cells c 31 (0, 0)) → w'.heap[j]? = some (Obj.cells c 31 (0, 0)) := by
  obtain ⟨a1, c1, i1⟩ := own_formS h.p1.own
  obtain ⟨af, cf, iff'⟩ := own_formS h.pf
  obtain ⟨a2, c2, i2⟩ := own_formS h.p2.own
  subst i1 iff' i2
  dsimp only [dkV]
  have b0 := below1 w (.cells #[.slice a1 e1.length c1, .slice af fl.length cf, .bool has, .slice a2 e2.length c2] 31)
  have HX := hide (heap_alloc_new w (.cells #[.slice a1 e1.length c1, .slice af fl.length cf, .bool has, .slice a2 e2.length c2] 31))
  have BW := hide (b0.mono hB)
  have KD : Hid (∀ (j : Nat) (c : Array Value), w.heap[j]? = some (Obj.cells c 31 (0, 0)) → (w.alloc (.cells #[.slice a1 e1.length c1, .slice af fl.length cf, .bool has, .slice a2 e2.length c2] 31)).heap[j]? = some (Obj.cells c 31 (0, 0))) := fun j c hj => (b0.block _ (heapLt hj)).trans hj
  have HD := hide (h.later b0)
  have LT1 := hide (fun g hg => (h.p1.lt g hg).2)
  have LTF := hide (fun g hg => (h.pf.lt g hg).2)
  have LT2 := hide (fun g hg => (h.p2.lt g hg).2)
  have m1 := markK_le e1 k s1.2
  have hs1 := s1.1
  have hs2 := s2.1
  have m2 := markK_le e2 (markK k e1 + fl.length) s2.2
  clear h b0
  go_enter Tryz.func14, Tryz.ntmps14
  go_wp2_with fail
  refine (markPkgS_own _ _ e1 B k (unhide HD).p1 s1.1 s1.2 k0 (by omega)).mono ?_
  generalize w.alloc _ = W0 at *
  rintro e w1 ⟨rfl, hP, st⟩
  have hX1 := (st.block _ (heapLt (unhide HX)) (fun hb => by have := unhide LT1 _ hb; omega)).trans (unhide HX)
  have D1 : Hid (DAns B w1 (.slice a1 e1.length c1) (.slice af fl.length cf) (.slice a2 e2.length c2) (markL k e1) fl e2) := ⟨hP, (unhide HD).pf.staysP (unhide HD).p1 st, (unhide HD).p2.stays st (fun g hg hb => (unhide HD).far g hb hg), fun g hg => (unhide HD).far g (markL_blkP hg)⟩
  have BW1 := hide ((unhide BW).trans (st.belowB (by have := (unhide BW).size; omega) (fun b hb hn => by have := ((unhide HD).p1.lt b hn).1; omega)))
  have HX1 := hide hX1
  have KD1 : Hid (∀ (j : Nat) (c : Array Value), w.heap[j]? = some (Obj.cells c 31 (0, 0)) → w1.heap[j]? = some (Obj.cells c 31 (0, 0))) := fun j c hj => by
    have hh := unhide KD j c hj
    exact (st.block _ (heapLt hh) ((unhide HD).p1.notDisk hh)).trans hh
  clear hP st hX1 HD BW HX KD
  clear W0
  obtain ⟨x0, x1, x2, x3⟩ : _ ∧ _ ∧ _ ∧ _ := ⟨cellOf (unhide HX1) 0, cellOf (unhide HX1) 1, cellOf (unhide HX1) 2, cellOf (unhide HX1) 3⟩
  go_wp2_with fail
  refine (markIntS_any w1 _ fl B (markK k e1) (unhide D1).pf (by omega) (by omega) (by omega)).mono ?_
  rintro e w2 ⟨rfl, ho, gr⟩
  have hX2 := (gr.block _ (heapLt (unhide HX1)) (fun e => by have := unhide LTF _ e.symm; omega)).trans (unhide HX1)
  have D2 : Hid (DAns B w2 (.slice a1 e1.length c1) (.slice af fl.length cf) (.slice a2 e2.length c2) (markL k e1) (marksI (markK k e1) fl.length) e2) := ⟨(unhide D1).p1.staysI (unhide D1).pf gr, ho, (unhide D1).p2.staysI (unhide D1).pf gr, (unhide D1).far⟩
  have BW2 := hide (grown_below (unhide D1).pf gr (unhide BW1) (by have := (unhide BW1).size; omega))
  have HX2 := hide hX2
  have KD2 : Hid (∀ (j : Nat) (c : Array Value), w.heap[j]? = some (Obj.cells c 31 (0, 0)) → w2.heap[j]? = some (Obj.cells c 31 (0, 0))) := fun j c hj => by
    have hh := unhide KD1 j c hj
    exact (gr.block _ (heapLt hh) (fun e => own_ne (unhide D1).pf hh (by decide) e.symm)).trans hh
  clear ho gr hX2 D1 BW1 HX1 KD1 x0 x1 x2 x3
  obtain ⟨x0, x1, x2, x3⟩ : _ ∧ _ ∧ _ ∧ _ := ⟨cellOf (unhide HX2) 0, cellOf (unhide HX2) 1, cellOf (unhide HX2) 2, cellOf (unhide HX2) 3⟩
  go_wp2_with fail
  refine (markPkgS_own w2 _ e2 B (markK k e1 + fl.length) (unhide D2).p2 s2.1 s2.2 (by omega) (by omega)).mono ?_
  rintro e w3 ⟨rfl, hP, st⟩
  have D3 : Hid (DAns B w3 (.slice a1 e1.length c1) (.slice af fl.length cf) (.slice a2 e2.length c2) (markL k e1) (marksI (markK k e1) fl.length) (markL (markK k e1 + fl.length) e2)) := ⟨(unhide D2).p1.stays st (fun g hg hb => (unhide D2).far g hg hb), (unhide D2).pf.staysP (unhide D2).p2 st, hP, fun g hg hb => (unhide D2).far g hg (markL_blkP hb)⟩
  have BW3 := hide ((unhide BW2).trans (st.belowB (by have := (unhide BW2).size; omega) (fun b hb hn => by have := ((unhide D2).p2.lt b hn).1; omega)))
  have KD3 : Hid (∀ (j : Nat) (c : Array Value), w.heap[j]? = some (Obj.cells c 31 (0, 0)) → w3.heap[j]? = some (Obj.cells c 31 (0, 0))) := fun j c hj => by
    have hh := unhide KD2 j c hj
    exact (st.block _ (heapLt hh) ((unhide D2).p2.notDisk hh)).trans hh
  clear hP st D2 BW2 HX2 x0 x1 x2 x3
  go_wp2
  go_ret
  exact ⟨rfl, unhide D3, unhide BW3, unhide KD3⟩

set_option maxHeartbeats 4000000 in
set_option maxRecDepth 100000 in
theorem heldDisk_own (w : World) (has : Bool) (v1 vf v2 : Value) (e1 e2 : List El) (n : Nat) (B : Nat) (k : Int) (h : DAns B w v1 vf v2 (markL k e1) (marksI (markK k e1) n) (markL (markK k e1 + n) e2)) (s1 : smallE e1) (sf : n ≤ 1000) (s2 : smallE e2) (k0 : 0 ≤ k) (k1 : k ≤ 1000) :
    Calls Tryz.prog 16 #[dkV v1 vf has v2, .int .i64 k] w fun e w' => e = .returned (.int .i64 (markK (markK k e1 + n) e2)) ∧ Below w.heap.size w w' := by
  obtain ⟨a1, c1, i1⟩ := own_formS h.p1.own
  obtain ⟨af, cf, iff'⟩ := own_formS h.pf
  obtain ⟨a2, c2, i2⟩ := own_formS h.p2.own
  rw [markL_len] at i1 i2
  rw [marksI_len] at iff'
  subst i1 iff' i2
  dsimp only [dkV]
  have b0 := below1 w (.cells #[.slice a1 e1.length c1, .slice af n cf, .bool has, .slice a2 e2.length c2] 31)
  have HX := hide (heap_alloc_new w (.cells #[.slice a1 e1.length c1, .slice af n cf, .bool has, .slice a2 e2.length c2] 31))
  have BW := hide b0
  have HD := hide (h.later b0)
  have m1 := markK_le e1 k s1.2
  have hs1 := s1.1
  have hs2 := s2.1
  have m2 := markK_le e2 (markK k e1 + n) s2.2
  have n1 : ¬ markK k e1 < 0 := by omega
  have n2 : ¬ markK k e1 + (n : Int) < 0 := by omega
  have n3 : ¬ markK (markK k e1 + n) e2 < 0 := by omega
  clear h b0
  go_enter Tryz.func16, Tryz.ntmps16
  go_wp2_with fail
  refine (heldPkgS_own _ _ e1 B k (unhide HD).p1 s1.1 s1.2 k0 (by omega)).mono ?_
  generalize w.alloc _ = W0 at *
  rintro e w1 ⟨rfl, rfl⟩
  obtain ⟨x0, x1, x2, x3⟩ : _ ∧ _ ∧ _ ∧ _ := ⟨cellOf (unhide HX) 0, cellOf (unhide HX) 1, cellOf (unhide HX) 2, cellOf (unhide HX) 3⟩
  have CH := hide (heldIntS_any w1 _ n B (markK k e1) (by have := (unhide HD).pf; exact this) (by omega) (by omega) (by omega))
  have CP := hide (heldPkgS_own w1 _ e2 B (markK k e1 + n) (unhide HD).p2 s2.1 s2.2 (by omega) (by omega))
  go_wp2_with fail
  refine (unhide CH).mono ?_
  rintro e w2 ⟨rfl, rfl⟩
  go_wp2_with fail
  refine (unhide CP).mono ?_
  rintro e w3 ⟨rfl, rfl⟩
  clear CH CP HD HX
  go_wp2
  go_ret
  exact ⟨rfl, unhide BW⟩
end Go.Proofs.YtkhanndmbpemfaaGreatDoor

/- A disk that is written to: how it is opened and closed, and what each step does to it, done and torn. -/
namespace Go.Proofs.YtkhanndmbpemfaaGreatDoor
open Go.RowKit

attribute [local go_sem ↓] Go.wp_at_zero Go.wp_at_succ

set_option maxHeartbeats 4000000 in
set_option maxRecDepth 100000 in
theorem copyPkgs_any {N : Nat → Prop} (w : World) (v : Value) (l : List Ix.Pg) (h : Pks N w v l) (hl : l.length ≤ 1000) :
    Calls Tryz.prog 64 #[v] w fun e w' => ∃ u els, e = .returned u ∧ PAns w.heap.size w' u els ∧ els.map (·.1) = l ∧ Below w.heap.size w w' := by
  obtain ⟨i0, hI0, hz0, hz1, hz2⟩ := info_parts infoPkg
  obtain ⟨a, cap, rfl, hlen, hrow⟩ := h
  have HR := hide hrow
  clear hrow hlen
  go_enter Tryz.func64, Tryz.ntmps64
  go_wp2_with fail
  go_loopw [3, 8] (fun o i w' => ∃ (k : Nat) (els : List El), k ≤ l.length ∧ i = .int .i64 k ∧ els.map (·.1) = l.take k ∧ PAns w.heap.size w' o els ∧ Below w.heap.size w w') (fun _ i _ => l.length - (intOf i).toNat)
  case atStart => exact ⟨0, [], Nat.zero_le _, rfl, rfl, PAns.nil _ _, Below.refl _ _⟩
  case round =>
    obtain ⟨k, els, hk, rfl, hmap, hP, hw⟩ := hrel
    have hle : els.length ≤ k := by rw [← List.length_map (f := fun x : El => x.1), hmap, List.length_take]; omega
    have HM := hide hmap
    have HP := hide hP
    have HW := hide hw
    clear hmap hP hw
    by_cases hlt : k < l.length
    · obtain ⟨b, off, rfl, hb, _, hc⟩ := unhide HR (by omega)
      obtain ⟨fv, dv, hAt, hf, hd⟩ := hc k hlt
      obtain ⟨nm, vr, fs, ds, hpk⟩ : ∃ nm vr fs ds, Ix.pg l k = (nm, vr, fs, ds) := ⟨_, _, _, _, rfl⟩
      rw [hpk] at hAt hf hd
      dsimp only at hf hd
      obtain ⟨fa, fc, hfv⟩ := hf.slice
      obtain ⟨da, dc, hdv⟩ := hd.slice
      subst hfv hdv
      obtain ⟨c0, c1, c2, c3⟩ := hAt.keep ((unhide HW).block b hb)
      dsimp only at c0 c1 c2 c3
      have hb' : b < wr.heap.size := Nat.lt_of_lt_of_le hb (unhide HW).size
      have hi0 : (0 : Int) ≤ (k : Int) := Int.natCast_nonneg _
      have hi1 : (k : Int) < (l.length : Int) := by omega
      have er : IntKind.i64.wrap ((k : Int) + 1) = (k : Int) + 1 := by simp [IntKind.wrap, IntKind.bits, IntKind.signed]; omega
      have b1 := below1 wr (.cells #[.int .i64 nm, .int .i64 vr, .slice fa fs.length fc, .slice da ds.length dc] 94)
      have hB1 := (unhide HW).trans (b1.mono (unhide HW).size)
      have CC := hide (implCopyPkg_any (wr.alloc (.cells #[.int .i64 nm, .int .i64 vr, .slice fa fs.length fc, .slice da ds.length dc] 94)) nm vr _ _ fs ds (hf.prs.later hB1) (hd.prs.later hB1))
      have HP1 := hide ((unhide HP).later b1)
      have HB1 := hide hB1
      have htk := Ix.take_pg l k hlt
      rw [hpk] at htk
      have HTK := hide htk
      clear hc hAt hf hd hpk htk b1 hB1 HP HW
      go_wp2_with fail
      refine (unhide CC).mono ?_
      generalize wr.alloc _ = W1 at *
      clear c0 c1 c2 c3 hb'
      rintro e w2 ⟨fv', dv', rfl, ho, hb2⟩
      obtain ⟨ga, gc, ha, hcc, h1, h2⟩ := ho.forms
      subst h1 h2
      have hfar : ∀ x ∈ els, farE x ((nm, vr, fs, ds), .slice ga fs.length gc, .slice ha ds.length hcc) := fun x hx => farE.new ((unhide HP1).el x hx) ho
      have HFA := hide hfar
      have b3 := below1 w2 (.cells #[.int .i64 nm, .int .i64 vr, .slice ga fs.length gc, .slice ha ds.length hcc] 94)
      have HB3 := hide ((unhide HB1).trans ((hb2.trans (b3.mono hb2.size)).mono (unhide HB1).size))
      have HP3 := hide ((unhide HP1).later (hb2.trans (b3.mono hb2.size)))
      have HO3 := hide ((ho.base (unhide HB1).size).later b3)
      have hs2 : w.heap.size ≤ w2.heap.size := Nat.le_trans (unhide HB1).size hb2.size
      clear CC ho hb2 b3 hfar HP1 HB1
      go_wp2_with (at_builtin; refine wpList_append_lies _ rfl _ _ _ rfl w.heap.size 94 i0 _ 4 64 Tryz.underlying29 hI0 hz0 hz1 hz2 rfl (by omega) _ els.length (flat4 els) rfl (unhide HP3).own ⟨w2.heap.size, 0, none⟩ 1 1 [.int .i64 nm, .int .i64 vr, .slice ga fs.length gc, .slice ha ds.length hcc] rfl rfl (World.news_of_block (cs := #[.int .i64 nm, .int .i64 vr, .slice ga fs.length gc, .slice ha ds.length hcc]) (t := 94) (fr := (0, 0)) (heap_alloc_new _ _)) (by simp [Value.oneCell']) (by omega) (by unfold maxLen; omega) (by omega) (by rw [sz1']; omega) (w2.heap.size + 1) (by rw [sz1']) ?_; intro gg gcap w10 hown hgrow hat hlt10)
      have HP10 := hide (PAns.snoc (e := ((nm, vr, fs, ds), .slice ga fs.length gc, .slice ha ds.length hcc)) (unhide HP3) hgrow hown (unhide HO3) (unhide HFA))
      have HB10 := hide (grown_below (B := w.heap.size) (unhide HP3).own hgrow (unhide HB3) (unhide HB3).size)
      clear hown hgrow hat hlt10 HP3 HB3 HO3 HFA
      go_roundw
      case rel => exact ⟨k + 1, els ++ [((nm, vr, fs, ds), .slice ga fs.length gc, .slice ha ds.length hcc)], by omega, by go_num, by rw [unhide HTK, List.map_append, unhide HM]; rfl, unhide HP10, unhide HB10⟩
      case measure => simp [intOf]; omega
    · obtain rfl : k = l.length := by omega
      rw [List.take_of_length_le (Nat.le_refl _)] at HM
      clear hlt HR
      go_wp2
      go_ret
      exact ⟨_, els, rfl, unhide HP, unhide HM, unhide HW⟩

/-- A disk that is open for writing, its block O, rows of its own. -/
structure Op (B : Nat) (w : World) (O : Nat) (has : Bool) (v2 v1 vf : Value) (e1 : List El) (fl : List Int) (e2 : List El) : Prop where
  box : w.heap[O]? = some (Obj.cells #[.bool has, v2, v1, vf] 100 (0, 0))
  lo : B ≤ O
  ans : DAns B w v1 vf v2 e1 fl e2
theorem Op.later {B : Nat} {w w' : World} {O : Nat} {has : Bool} {v2 v1 vf : Value} {e1 e2 : List El} {fl : List Int} (h : Op B w O has v2 v1 vf e1 fl e2) (hb : Below w.heap.size w w') : Op B w' O has v2 v1 vf e1 fl e2 := ⟨(hb.block _ (heapLt h.box)).trans h.box, h.lo, h.ans.later hb⟩
theorem PAns.notOpen {B : Nat} {w : World} {v : Value} {l : List El} (h : PAns B w v l) {g : Nat} {c : Array Value} (hg : w.heap[g]? = some (.cells c 100 (0, 0))) : ¬ blkP v l g := by
  rintro (hb | ⟨e, he, hb | hb⟩)
  · exact own_ne h.own hg (by decide) hb
  · exact own_ne (h.el e he).f hg (by decide) hb
  · exact own_ne (h.el e he).d hg (by decide) hb
/-- A cell of the open disk is written: its rows stay. -/
theorem DAns.set {B : Nat} {w : World} {v2 v1 vf : Value} {e1 e2 : List El} {fl : List Int} {O o : Nat} {u : Value} {c : Array Value} (h : DAns B w v1 vf v2 e1 fl e2) (hO : w.heap[O]? = some (Obj.cells c 100 (0, 0))) : DAns B (w.setCell ⟨O, o, none⟩ u) v1 vf v2 e1 fl e2 :=
  ⟨h.p1.keep (fun g hg => Below.heap_setCell _ _ _ _ (fun e => by have e' : g = O := e; subst e'; exact h.p1.notOpen hO hg)), own_set h.pf hO (by decide), h.p2.keep (fun g hg => Below.heap_setCell _ _ _ _ (fun e => by have e' : g = O := e; subst e'; exact h.p2.notOpen hO hg)), h.far⟩

theorem lenE {els : List El} {l : List Ix.Pg} (h : els.map (·.1) = l) : els.length = l.length := by rw [← h, List.length_map]

set_option maxHeartbeats 4000000 in
set_option maxRecDepth 100000 in
theorem opened_any {N M : Nat → Prop} (w : World) (d : Dk.D) (v1 vf v2 : Value) (h1 : Pks N w v1 d.db) (hf : Ins w vf d.fl) (h2 : Pks M w v2 d.jr) (l1 : d.db.length ≤ 1000) (l2 : d.jr.length ≤ 1000) (lf : d.fl.length ≤ 1000) :
    Calls Tryz.prog 33 #[dkV v1 vf d.has v2] w fun e w' => ∃ O u2 u1 uf e1 e2, e = .returned (.pointer (some ⟨O, 0, none⟩)) ∧ Op w.heap.size w' O d.has u2 u1 uf e1 d.fl e2 ∧ e1.map (·.1) = d.db ∧ e2.map (·.1) = d.jr ∧ Below w.heap.size w w' := by
  obtain ⟨db, fl, has, jr⟩ := d
  dsimp only [dkV] at *
  obtain ⟨a1, c1, e1⟩ := h1.slice
  obtain ⟨af, cf, ef⟩ := hf.slice
  obtain ⟨a2, c2, e2⟩ := h2.slice
  subst e1 ef e2
  have b0 := below1 w (.cells #[.slice a1 db.length c1, .slice af fl.length cf, .bool has, .slice a2 jr.length c2] 31)
  have HB := hide (heap_alloc_new w (.cells #[.slice a1 db.length c1, .slice af fl.length cf, .bool has, .slice a2 jr.length c2] 31))
  have BW := hide b0
  have H0 := hide (And.intro h1 (And.intro hf h2))
  clear h1 hf h2 b0
  go_enter Tryz.func33, Tryz.ntmps33
  go_wp2_with fail
  generalize w.alloc _ = W0 at *
  obtain ⟨x0, x1, x2, x3⟩ : _ ∧ _ ∧ _ ∧ _ := ⟨cellOf (unhide HB) 0, cellOf (unhide HB) 1, cellOf (unhide HB) 2, cellOf (unhide HB) 3⟩
  refine wp_region_held_drew (S := fun w' => w'.cell? ⟨w.heap.size, 0, none⟩ = some (.slice a1 db.length c1) ∧ w'.cell? ⟨w.heap.size, 1, none⟩ = some (.slice af fl.length cf) ∧ w'.cell? ⟨w.heap.size, 2, none⟩ = some (.bool has) ∧ w'.cell? ⟨w.heap.size, 3, none⟩ = some (.slice a2 jr.length c2)) (by kernel_rfl) ⟨x0, x1, x2, x3⟩ (fun hHeld => ?_)
  clear x0 x1 x2 x3
  refine anyH_at (i := 0) (d := some 3) rfl rfl (by kernel_rfl) (by kernel_rfl) (by kernel_rfl) (fun _ _ _ h => h) (by rfl) (v := ?_) ?_ (by assumption) ?_
  rotate_left
  · (intro w hSw; (try dsimp only at hSw); go_simp <;> with_reducible rfl)
  simp only [Act.put, List.setIfInBounds_toArray, List.set_cons_zero, List.set_cons_succ]
  refine anyH_at (i := 1) (d := some 4) rfl rfl (by kernel_rfl) (by kernel_rfl) (by kernel_rfl) (fun _ _ _ h => h) (by rfl) (v := ?_) ?_ (by assumption) ?_
  rotate_left
  · (intro w hSw; (try dsimp only at hSw); go_simp <;> with_reducible rfl)
  simp only [Act.put, List.setIfInBounds_toArray, List.set_cons_zero, List.set_cons_succ]
  refine anyH_at (i := 2) (d := some 5) rfl rfl (by kernel_rfl) (by kernel_rfl) (by kernel_rfl) (fun _ _ _ h => h) (by rfl) (v := ?_) ?_ (by assumption) ?_
  rotate_left
  · (intro w hSw; (try dsimp only at hSw); go_simp <;> with_reducible rfl)
  simp only [Act.put, List.setIfInBounds_toArray, List.set_cons_zero, List.set_cons_succ]
  refine anyH_at (i := 3) (d := some 6) rfl rfl (by kernel_rfl) (by kernel_rfl) (by kernel_rfl) (fun _ _ _ h => h) (by rfl) (v := ?_) ?_ (by assumption) ?_
  rotate_left
  · (intro w hSw; (try dsimp only at hSw); go_simp <;> with_reducible rfl)
  simp only [Act.put, List.setIfInBounds_toArray, List.set_cons_zero, List.set_cons_succ]
  refine anyH_at (i := 6) (d := some 9) rfl rfl (by kernel_rfl) (by kernel_rfl) (by kernel_rfl) (fun _ _ _ h => h) (by rfl) (v := ?_) ?_ (by assumption) ?_
  rotate_left
  · (intro w hSw; (try dsimp only at hSw); go_simp <;> with_reducible rfl)
  simp only [Act.put, List.setIfInBounds_toArray, List.set_cons_zero, List.set_cons_succ]
  refine anyH_at (i := 7) (d := some 10) rfl rfl (by kernel_rfl) (by kernel_rfl) (by kernel_rfl) (fun _ _ _ h => h) (by rfl) (v := ?_) ?_ (by assumption) ?_
  rotate_left
  · (intro w hSw; (try dsimp only at hSw); go_simp <;> with_reducible rfl)
  simp only [Act.put, List.setIfInBounds_toArray, List.set_cons_zero, List.set_cons_succ]
  refine anyH_at (i := 9) (d := some 12) rfl rfl (by kernel_rfl) (by kernel_rfl) (by kernel_rfl) (fun _ _ _ h => h) (by rfl) (v := ?_) ?_ (by assumption) ?_
  rotate_left
  · (intro w hSw; (try dsimp only at hSw); go_simp <;> with_reducible rfl)
  simp only [Act.put, List.setIfInBounds_toArray, List.set_cons_zero, List.set_cons_succ]
  refine anyH_at (i := 10) (d := some 13) rfl rfl (by kernel_rfl) (by kernel_rfl) (by kernel_rfl) (fun _ _ _ h => h) (by rfl) (v := ?_) ?_ (by assumption) ?_
  rotate_left
  · (intro w hSw; (try dsimp only at hSw); go_simp <;> with_reducible rfl)
  simp only [Act.put, List.setIfInBounds_toArray, List.set_cons_zero, List.set_cons_succ]
  refine wpAnyH_ready (rs := [4]) (by kernel_rfl) (by simp) ?_
  refine AllReadyH.cons rfl (fun K hK => ?_) AllReadyH.nil
  go_simp
  have hd := below_drew W0
  replace HB := hide ((hd.block _ (heapLt (unhide HB))).trans (unhide HB))
  replace BW := hide ((unhide BW).trans (hd.mono (unhide BW).size))
  clear hd
  refine (copyPkgs_any _ _ jr ((unhide H0).2.2.later (unhide BW)) l2).mono ?_
  rintro e w1 ⟨u2, els2, rfl, hP2, hm2, b⟩
  obtain ⟨ja, jc, hu⟩ := own_formS hP2.own
  subst hu
  replace HB := hide ((b.block _ (heapLt (unhide HB))).trans (unhide HB))
  have P2 := hide (hP2.base (unhide BW).size)
  replace BW := hide ((unhide BW).trans (b.mono (unhide BW).size))
  have HM2 := hide hm2
  clear hP2 hm2 b
  go_wp2_with fail
  refine hK.out _ _ ?_ (fun hHeldN => ?_)
  · exact ⟨cellOf (unhide HB) 0, cellOf (unhide HB) 1, cellOf (unhide HB) 2, cellOf (unhide HB) 3⟩
  clear hHeld
  have hHeld := hHeldN
  clear hHeldN
  clear hK K
  try simp only [Act.put, List.setIfInBounds_toArray, List.set_cons_zero, List.set_cons_succ]
  refine anyH_at (i := 5) (d := some 8) rfl rfl (by kernel_rfl) (by kernel_rfl) (by kernel_rfl) (fun _ _ _ h => h) (by rfl) (v := ?_) ?_ (by assumption) ?_
  rotate_left
  · (intro w hSw; (try dsimp only at hSw); go_simp <;> with_reducible rfl)
  simp only [Act.put, List.setIfInBounds_toArray, List.set_cons_zero, List.set_cons_succ]
  refine wpAnyH_ready (rs := [8]) (by kernel_rfl) (by simp) ?_
  refine AllReadyH.cons rfl (fun K hK => ?_) AllReadyH.nil
  go_simp
  refine (copyPkgs_any _ _ db ((unhide H0).1.later (unhide BW)) l1).mono ?_
  rintro e w2 ⟨u1, els1, rfl, hP1, hm1, b⟩
  obtain ⟨ia, ic, hu⟩ := own_formS hP1.own
  subst hu
  have hfar : Hid (∀ g, blkP (.slice ia els1.length ic) els1 g → ¬ blkP (.slice ja els2.length jc) els2 g) := fun g hg hg2 => by
    have := (hP1.lt g hg).1
    have := ((unhide P2).lt g hg2).2
    omega
  replace HB := hide ((b.block _ (heapLt (unhide HB))).trans (unhide HB))
  have P1 := hide (hP1.base (unhide BW).size)
  replace P2 := hide ((unhide P2).later b)
  replace BW := hide ((unhide BW).trans (b.mono (unhide BW).size))
  have HM1 := hide hm1
  clear hP1 hm1 b
  go_wp2_with fail
  refine hK.out _ _ ?_ (fun hHeldN => ?_)
  · exact ⟨cellOf (unhide HB) 0, cellOf (unhide HB) 1, cellOf (unhide HB) 2, cellOf (unhide HB) 3⟩
  clear hHeld
  have hHeld := hHeldN
  clear hHeldN
  clear hK K
  try simp only [Act.put, List.setIfInBounds_toArray, List.set_cons_zero, List.set_cons_succ]
  refine wpAnyH_ready (rs := [11]) (by kernel_rfl) (by simp) ?_
  refine AllReadyH.cons rfl (fun K hK => ?_) AllReadyH.nil
  go_simp
  refine (copyInts_any _ _ fl ((unhide H0).2.1.later (unhide BW))).mono ?_
  rintro e w3 ⟨uf, rfl, ho, b⟩
  obtain ⟨fa, fc, hu⟩ := own_formS ho
  subst hu
  replace HB := hide ((b.block _ (heapLt (unhide HB))).trans (unhide HB))
  have PF := hide (own_base' ho (unhide BW).size)
  replace P1 := hide ((unhide P1).later b)
  replace P2 := hide ((unhide P2).later b)
  replace BW := hide ((unhide BW).trans (b.mono (unhide BW).size))
  clear ho b
  go_wp2_with fail
  refine hK.out _ _ ?_ (fun hHeldN => ?_)
  · exact ⟨cellOf (unhide HB) 0, cellOf (unhide HB) 1, cellOf (unhide HB) 2, cellOf (unhide HB) 3⟩
  clear hHeld
  have hHeld := hHeldN
  clear hHeldN
  clear hK K
  try simp only [Act.put, List.setIfInBounds_toArray, List.set_cons_zero, List.set_cons_succ]
  refine anyH_at (i := 12) (d := some 15) rfl rfl (by kernel_rfl) (by kernel_rfl) (by kernel_rfl) (fun _ _ _ h => h) (by rfl) (v := ?_) ?_ (by assumption) ?_
  rotate_left
  · (intro w hSw; (try dsimp only at hSw); go_simp <;> with_reducible rfl)
  simp only [Act.put, List.setIfInBounds_toArray, List.set_cons_zero, List.set_cons_succ]
  refine wpAnyH_ready (rs := [13]) (by kernel_rfl) (by simp) ?_
  refine AllReadyH.cons rfl (fun K hK => ?_) AllReadyH.nil
  go_simp
  have b4 := below1 w3 (Obj.cells #[.bool has, .slice ja els2.length jc, .slice ia els1.length ic, .slice fa fl.length fc] 100)
  have HO : Hid (Op w.heap.size (World.alloc w3 (Obj.cells #[.bool has, .slice ja els2.length jc, .slice ia els1.length ic, .slice fa fl.length fc] 100)) w3.heap.size has (.slice ja els2.length jc) (.slice ia els1.length ic) (.slice fa fl.length fc) els1 fl els2) :=
    ⟨heap_alloc_new w3 _, (unhide BW).size, ⟨(unhide P1).later b4, own_later (unhide PF) b4, (unhide P2).later b4, unhide hfar⟩⟩
  replace HB := hide ((b4.block _ (heapLt (unhide HB))).trans (unhide HB))
  replace BW := hide ((unhide BW).trans (b4.mono (unhide BW).size))
  clear b4 P1 P2 PF hfar
  refine hK.out _ _ ?_ (fun hHeldN => ?_)
  · exact ⟨cellOf (unhide HB) 0, cellOf (unhide HB) 1, cellOf (unhide HB) 2, cellOf (unhide HB) 3⟩
  clear hHeld
  have hHeld := hHeldN
  clear hHeldN
  clear hK K
  try simp only [Act.put, List.setIfInBounds_toArray, List.set_cons_zero, List.set_cons_succ]
  refine anyH_at (i := 14) (d := some 2) rfl rfl (by kernel_rfl) (by kernel_rfl) (by kernel_rfl) (fun _ _ _ h => h) (by rfl) (v := ?_) ?_ (by assumption) ?_
  rotate_left
  · (intro w hSw; (try dsimp only at hSw); go_simp <;> with_reducible rfl)
  simp only [Act.put, List.setIfInBounds_toArray, List.set_cons_zero, List.set_cons_succ]
  refine wpAnyH_done (by kernel_rfl) ?_ _
  clear hHeld HB
  go_wp2
  go_ret
  exact ⟨_, _, _, _, els1, els2, rfl, unhide HO, unhide HM1, unhide HM2, unhide BW⟩
end Go.Proofs.YtkhanndmbpemfaaGreatDoor
