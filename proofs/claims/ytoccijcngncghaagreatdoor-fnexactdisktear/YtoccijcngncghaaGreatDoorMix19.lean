import Derived.Test.YtoccijcngncghaaGreatDoorMix15
import Derived.Test.YtoccijcngncghaaGreatDoorMix17
import Derived.Test.YtoccijcngncghaaGreatDoorCopyStW
import Derived.Test.YtoccijcngncghaaGreatDoorMix18
/- Marks counted on from big numbers. -/
namespace Go.Proofs.YtoccijcngncghaaGreatDoor
open Go.RowKit

set_option maxHeartbeats 4000000 in
set_option maxRecDepth 100000 in
theorem markIntS_big (w : World) (v : Value) (l : List Int) (B : Nat) (k : Int) (h : OwI B w v l) (hl : l.length ≤ 1048576) (k0 : 0 ≤ k) (k1 : k ≤ 1000000000000000) :
    Calls Tryz.prog 48 #[v, .int .i64 k] w fun e w' => e = .returned (.int .i64 (k + l.length)) ∧ OwI B w' v (marksI k l.length) ∧ w.grownBy w' v.ownBlock := by
  obtain ⟨a, cap, rfl⟩ := own_formS h
  have H := hide h
  clear h
  go_enter Tryz.func48, Tryz.ntmps48
  go_wp2_with fail
  go_loopw [1, 5] (fun kv i w' => ∃ j : Nat, j ≤ l.length ∧ i = .int .i64 j ∧ kv = .int .i64 (k + j) ∧ w'.ownsRow B 3 1 (.slice a l.length cap) l.length ((marksI k j ++ l.drop j).map (Value.int .i64)) ∧ w.grownBy w' (Value.slice a l.length cap).ownBlock) (fun _ i _ => l.length - (intOf i).toNat)
  case atStart => exact ⟨0, Nat.zero_le _, rfl, by simp, by simpa [marksI] using unhide H, grown_refl _ _⟩
  case round =>
    obtain ⟨j, hj, rfl, rfl, ho, hg⟩ := hrel
    have HO := hide ho
    have HG := hide hg
    by_cases hlt : j < l.length
    · obtain ⟨gb, cp, e, _, hgl⟩ := ho.form (by omega)
      injection e with e1 _ e3
      subst e1 e3
      have c1 : ∃ y, wr.cell? ⟨gb, j, none⟩ = some y := by
        rw [ho.cellAt _ (by omega)]
        exact ⟨_, List.getElem?_eq_getElem (by simp [marksI_len]; omega)⟩
      obtain ⟨y1, c1⟩ := c1
      have f1 : wr.frozen? ⟨gb, j, none⟩ = false := ho.frozenAt _
      have hi0 : (0 : Int) ≤ (j : Int) := Int.natCast_nonneg _
      have hi1 : (j : Int) < (l.length : Int) := by omega
      have HSET := hide (mark_setI k l j hlt)
      clear ho hg
      go_wp2_with fail
      have h1 := (unhide HO).stored j (.int .i64 (k + j))
      go_roundw
      case rel =>
        refine ⟨j + 1, by omega, by go_num, by go_num, ?_, (unhide HG).trans h1.2⟩
        rw [← unhide HSET]
        exact h1.1
      case measure => simp [intOf]; omega
    · obtain rfl : j = l.length := by omega
      rw [List.drop_length, List.append_nil] at HO
      have HO2 : Hid (OwI B wr (.slice a l.length cap) (marksI k l.length)) := by
        show World.ownsRow _ _ _ _ _ _ _
        rw [marksI_len]
        exact unhide HO
      clear ho hg hlt
      go_wp2
      go_ret
      exact ⟨rfl, unhide HO2, unhide HG⟩

set_option maxHeartbeats 4000000 in
set_option maxRecDepth 100000 in
theorem markPkgS_big {N : Nat → Prop} (w : World) (g n : Nat) (k0 : Int) (h : WrP N w g n) (hn : n ≤ 1048576) (kl : 0 ≤ k0) (kh : k0 ≤ 100000000000000) :
    Calls Tryz.prog 47 #[.slice (some ⟨g, 0, none⟩) n n, .int .i64 k0] w fun e w' => ∃ k : Int, e = .returned (.int .i64 k) ∧ 0 ≤ k ∧ k ≤ k0 + n * 10000000 ∧ Stays N w w' := by
  have H := hide h
  clear h
  go_enter Tryz.func47, Tryz.ntmps47
  go_wp2_with fail
  go_loopw [1, 5] (fun kv i w' => ∃ (j : Nat) (k : Int), j ≤ n ∧ i = .int .i64 j ∧ kv = .int .i64 k ∧ 0 ≤ k ∧ k ≤ k0 + j * 10000000 ∧ WrP N w' g n ∧ Stays N w w') (fun _ i _ => n - (intOf i).toNat)
  case atStart => exact ⟨0, k0, Nat.zero_le _, rfl, rfl, kl, by simp, unhide H, Stays.refl _ _⟩
  case round =>
    clear H
    obtain ⟨j, k, hj, rfl, rfl, kb0, kb1, hW, hS⟩ := hrel
    have HW := hide hW
    have HS := hide hS
    by_cases hlt : j < n
    · obtain ⟨x, y, g1, n1, g2, n2, ⟨c0, c1, c2, c3⟩, ⟨f0, f1⟩, ⟨hN, hN1, hN2⟩, ⟨l1, l2⟩, p1, p2⟩ := hW.at hlt
      have hw2 := (hW.set (u := .int .i64 k) hlt (.inl rfl)).set (u := .int .i64 (k + 1)) hlt (.inr rfl)
      have hs2 := hS.trans ((Stays.set (u := .int .i64 k) (o := j * 4) hN).trans (Stays.set (u := .int .i64 (k + 1)) (o := j * 4 + 1) hN))
      have HW2 := hide hw2
      have HS2 := hide hs2
      have HN := hide (And.intro hN (And.intro hN1 hN2))
      have hne1 : g1 ≠ g := fun e => by
        obtain ⟨C, h1, _⟩ := hW
        subst e
        obtain ⟨l, hl, h5⟩ := p1
        rw [h1] at h5
        injection h5 with e
        injection e with _ e2 _
        exact absurd e2 (by decide)
      have hne2 : g2 ≠ g := fun e => by
        obtain ⟨C, h1, _⟩ := hW
        subst e
        obtain ⟨l, hl, h5⟩ := p2
        rw [h1] at h5
        injection h5 with e
        injection e with _ e2 _
        exact absurd e2 (by decide)
      have far : ∀ m, m ≠ g → ((wr.setCell ⟨g, j * 4, none⟩ (.int .i64 k)).setCell ⟨g, j * 4 + 1, none⟩ (.int .i64 (k + 1))).heap[m]? = wr.heap[m]? := fun m hm => by rw [Below.heap_setCell _ _ _ _ hm, Below.heap_setCell _ _ _ _ hm]
      have P2 := hide (And.intro (p1.keep (far g1 hne1)) (p2.keep (far g2 hne2)))
      have hc3 : ((wr.setCell ⟨g, j * 4, none⟩ (.int .i64 k)).setCell ⟨g, j * 4 + 1, none⟩ (.int .i64 (k + 1))).cell? ⟨g, j * 4 + 3, none⟩ = some (.slice (some ⟨g2, 0, none⟩) n2 n2) := by
        obtain ⟨C, h1, _⟩ := hW
        exact cell_other (heapSet h1) (cell_other h1 c3 (by omega)) (by omega)
      have HC3 := hide hc3
      have hgl : g < wr.heap.size := by obtain ⟨C, h1, _⟩ := hW; exact heapLt h1
      have hi0 : (0 : Int) ≤ (j : Int) := Int.natCast_nonneg _
      have hi1 : (j : Int) < (n : Int) := by omega
      have e1 : IntKind.i64.wrap (k + 1) = k + 1 := by simp [IntKind.wrap, IntKind.bits, IntKind.signed]; omega
      have e2 : IntKind.i64.wrap (k + 1 + 1) = k + 1 + 1 := by simp [IntKind.wrap, IntKind.bits, IntKind.signed]; omega
      clear hW hS hw2 hs2 p1 p2 far hc3 c3 hN hN1 hN2 HW HS
      go_wp2_with fail
      obtain ⟨q1, hq1, ho1⟩ := (unhide P2).1.own (B := 0) (Nat.zero_le _) l1
      have CM := hide (markFileS_any _ _ q1 0 (k + 1 + 1) ho1 (by omega) (by omega) (by omega))
      rw [hq1] at CM
      clear ho1
      refine (unhide CM).mono ?_
      generalize World.setCell _ _ _ = W2 at *
      rintro e w3 ⟨rfl, hf3, hg3⟩
      have hp3 : PairB w3 g1 102 n1 := PairB.of (l := marks (k + 1 + 1) n1) hf3 (marks_len _ _)
      have hw3 := (unhide HW2).pair (by decide) (unhide P2).1 hp3 hg3
      have hs3 := (unhide HS2).trans (Stays.grown hg3 (unhide HN).2.1)
      have hg12 : g2 ≠ g1 := fun e => by
        have := (unhide P2).2
        rw [e] at this
        exact absurd (this.one (unhide P2).1).1 (by decide)
      have hp2 := (unhide P2).2.keep (w' := w3) (hg3.block _ (unhide P2).2.lt (fun e => hg12 (Option.some.inj e)))
      have hgl2 : g < W2.heap.size := by obtain ⟨C, h1, _⟩ := unhide HW2; exact heapLt h1
      have d3 : w3.cell? ⟨g, j * 4 + 3, none⟩ = some (.slice (some ⟨g2, 0, none⟩) n2 n2) := (World.cell?_of_block (a := ⟨g, j * 4 + 3, none⟩) (hg3.block g hgl2 (fun e => hne1 (Option.some.inj e).symm))).trans (unhide HC3)
      have HW3 := hide hw3
      have HS3 := hide hs3
      have HP3 := hide hp2
      clear hf3 hg3 hp3 hw3 hs3 hp2 HW2 HS2 P2 HC3 CM hgl2 c0 c1 c2 f0 f1
      clear W2
      go_wp2_with fail
      obtain ⟨q2, hq2, ho2⟩ := (unhide HP3).own (B := 0) (Nat.zero_le _) l2
      have CM := hide (markDepS_any _ _ q2 0 (k + 1 + 1 + 2 * (n1 : Int)) ho2 (by omega) (by omega) (by omega))
      rw [hq2] at CM
      clear ho2
      refine (unhide CM).mono ?_
      rintro e w4 ⟨rfl, hf4, hg4⟩
      have hp4 : PairB w4 g2 38 n2 := PairB.of (l := marks (k + 1 + 1 + 2 * (n1 : Int)) n2) hf4 (marks_len _ _)
      have HW4 := hide ((unhide HW3).pair (by decide) (unhide HP3) hp4 hg4)
      have HS4 := hide ((unhide HS3).trans (Stays.grown hg4 (unhide HN).2.2))
      clear hf4 hg4 hp4 HW3 HS3 HP3 CM d3
      go_wp2
      go_roundw
      case rel => exact ⟨j + 1, k + 1 + 1 + 2 * (n1 : Int) + 2 * (n2 : Int), by omega, by go_num, rfl, by omega, by omega, unhide HW4, unhide HS4⟩
      case measure => simp [intOf]; omega
    · obtain rfl : j = n := by omega
      clear hW hS hlt
      go_wp2
      go_ret
      exact ⟨k, rfl, by omega, by omega, unhide HS⟩

end Go.Proofs.YtoccijcngncghaaGreatDoor

/- Marks laid into a disk that the law laid anew: all else stays. -/
namespace Go.Proofs.YtoccijcngncghaaGreatDoor
open Go.RowKit

theorem Stays.weakN {N M : Nat → Prop} {w w' : World} (h : Stays N w w') (hN : ∀ b, N b → M b) : Stays M w w' := ⟨h.os, h.tape, h.output, h.size, fun k hk hn => h.block k hk (fun hm => hn (hN k hm))⟩

set_option maxHeartbeats 4000000 in
set_option maxRecDepth 100000 in
theorem markDisk_arg (w : World) (d : Dk.D) (g1 g2 g3 E : Nat) (h1 : WrP (fun b => g1 ≤ b ∧ b < g2) w g1 d.db.length) (hff : FillI w g2 d.fl d.fl.length) (h2 : WrP (fun b => g3 ≤ b ∧ b < E) w g3 d.jr.length) (ho1 : g1 < g2) (ho2 : g2 < g3) (hg3 : g3 < E) (hE : E ≤ w.heap.size) (l1 : d.db.length ≤ 1048576) (lf : d.fl.length ≤ 1048576) (l2 : d.jr.length ≤ 1048576) :
    Calls Tryz.prog 23 #[dkV (rowV g1 d.db.length) (rowV g2 d.fl.length) d.has (rowV g3 d.jr.length), .int .i64 1] w fun e w' => ∃ k : Int, e = .returned (.int .i64 k) ∧ 0 ≤ k ∧ k ≤ 100000000000000 ∧ ∃ w0, Below w.heap.size w w0 ∧ Stays (fun b => g1 ≤ b ∧ b < E) w0 w' := by
  obtain ⟨db, fl, has, jr⟩ := d
  dsimp only [dkV, rowV] at *
  have b0 := below1 w (.cells #[.slice (some ⟨g1, 0, none⟩) db.length db.length, .slice (some ⟨g2, 0, none⟩) fl.length fl.length, .bool has, .slice (some ⟨g3, 0, none⟩) jr.length jr.length] 26)
  have HX := hide (heap_alloc_new w (.cells #[.slice (some ⟨g1, 0, none⟩) db.length db.length, .slice (some ⟨g2, 0, none⟩) fl.length fl.length, .bool has, .slice (some ⟨g3, 0, none⟩) jr.length jr.length] 26))
  have BW := hide b0
  have W1 := hide (h1.later b0)
  have W2 := hide (h2.later b0)
  have FF : Hid (OwI g2 _ (.slice (some ⟨g2, 0, none⟩) fl.length fl.length) fl) := (hff.later b0).own (Nat.le_refl _) lf
  clear h1 h2 hff b0
  go_enter Tryz.func23, Tryz.ntmps23
  go_wp2_with fail
  refine (markPkgS_big _ g1 db.length 1 (unhide W1) l1 (by omega) (by omega)).mono ?_
  generalize w.alloc _ = W0 at *
  rintro e w1 ⟨k1, rfl, k10, k11, st⟩
  replace HX := hide ((st.block _ (heapLt (unhide HX)) (fun hb => by have hb' : g1 ≤ w.heap.size ∧ w.heap.size < g2 := hb; omega)).trans (unhide HX))
  replace W2 := hide ((unhide W2).stays st (fun b hb hc => by have hc' : g1 ≤ b ∧ b < g2 := hc; have hb' : g3 ≤ b ∧ b < E := hb; omega))
  have FF1 : Hid (OwI g2 w1 (.slice (some ⟨g2, 0, none⟩) fl.length fl.length) fl) := own_keepS (unhide FF) (fun g c e hle hg => st.block g (heapLt hg) (fun hc => by have hc' : g1 ≤ g ∧ g < g2 := hc; omega))
  have ST := hide (st.weakN (M := fun b => g1 ≤ b ∧ b < E) (fun b hb => ⟨hb.1, by have hb2 : b < g2 := hb.2; omega⟩))
  clear st FF W1
  obtain ⟨x0, x1, x2, x3⟩ : _ ∧ _ ∧ _ ∧ _ := ⟨cellOf (unhide HX) 0, cellOf (unhide HX) 1, cellOf (unhide HX) 2, cellOf (unhide HX) 3⟩
  go_wp2_with fail
  refine (markIntS_big w1 _ fl g2 k1 (unhide FF1) lf k10 (by omega)).mono ?_
  rintro e w2 ⟨rfl, ho, gr⟩
  have gr' : w1.grownBy w2 (some g2) := gr
  replace HX := hide ((gr'.block _ (heapLt (unhide HX)) (fun e => by have := Option.some.inj e; omega)).trans (unhide HX))
  replace W2 := hide ((unhide W2).keepN (fun b hk hb => gr'.block b hk (fun e => by have := Option.some.inj e; have hb' : g3 ≤ b ∧ b < E := hb; omega)))
  replace ST := hide ((unhide ST).trans (Stays.grown gr' ⟨by omega, by omega⟩))
  clear gr gr' ho FF1 x0 x1 x2 x3
  obtain ⟨x0, x1, x2, x3⟩ : _ ∧ _ ∧ _ ∧ _ := ⟨cellOf (unhide HX) 0, cellOf (unhide HX) 1, cellOf (unhide HX) 2, cellOf (unhide HX) 3⟩
  generalize hk2 : k1 + (fl.length : Int) = k2 at *
  have hk2b : 0 ≤ k2 ∧ k2 ≤ 20000000000000 := by omega
  clear hk2
  go_wp2_with fail
  refine (markPkgS_big w2 g3 jr.length k2 (unhide W2) l2 hk2b.1 (by omega)).mono ?_
  rintro e w3 ⟨k3, rfl, k30, k31, st⟩
  replace ST := hide ((unhide ST).trans (st.weakN (fun b hb => ⟨by have hb1 : g3 ≤ b := hb.1; omega, hb.2⟩)))
  have HK : Hid (k3 ≤ 100000000000000) := by show k3 ≤ _; omega
  clear st k11 k31 hk2b x0 x1 x2 x3 HX W2
  go_wp2
  go_ret
  exact ⟨k3, rfl, k30, unhide HK, _, unhide BW, unhide ST⟩

set_option maxHeartbeats 4000000 in
set_option maxRecDepth 100000 in
theorem markStep_big {N : Nat → Prop} (w : World) (k p x : Int) (g n : Nat) (k0 : Int) (h : WrP N w g n) (hn : n ≤ 1048576) (kl : 0 ≤ k0) (kh : k0 ≤ 100000000000000) :
    Calls Tryz.prog 24 #[stV k p x (rowV g n), .int .i64 k0] w fun e w' => ∃ k' : Int, e = .returned (.int .i64 k') ∧ 0 ≤ k' ∧ ∃ w0, Below w.heap.size w w0 ∧ Stays N w0 w' := by
  have b0 := below1 w (.cells #[.int .i64 k, .int .i64 p, .int .i64 x, .slice (some ⟨g, 0, none⟩) n n] 28)
  have BW := hide b0
  have HI := hide (h.later b0)
  clear b0 h
  dsimp only [stV, rowV]
  go_enter Tryz.func24, Tryz.ntmps24
  go_wp2_with fail
  refine (markPkgS_big _ g n k0 (unhide HI) hn kl kh).mono ?_
  generalize w.alloc _ = W0 at *
  rintro e w1 ⟨k9, rfl, k90, _, st⟩
  have ST := hide st
  clear st
  go_wp2
  go_ret
  exact ⟨_, rfl, k90, W0, unhide BW, unhide ST⟩
end Go.Proofs.YtoccijcngncghaaGreatDoor
