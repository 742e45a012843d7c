import Derived.Test.YtlnieobmhofkdaaGreatMix12
import Derived.Test.YtlnieobmhofkdaaGreatPksMarkW
/- What the laws' szPkgS and markPkgS do, from any number on. -/
namespace Go.Proofs.YtlnieobmhofkdaaGreat
open Go.RowKit

set_option maxHeartbeats 1000000 in
theorem szPkgS_over (w : World) (a : Option Addr) (n c : Nat) (left : Int) (l0 : 0 ≤ left) (l1 : left ≤ 1048576) (hn : n ≤ 9223372036854775807) (hb : ¬ (n : Int) ≤ left) :
    Calls Tryz.prog 5 #[.slice a n c, .int .i64 left] w fun e w' => e = .returned (.int .i64 (-1)) ∧ w' = w := by
  have ew : IntKind.i64.wrap (left - (n : Int)) = left - (n : Int) := by simp [IntKind.wrap, IntKind.bits, IntKind.signed]; omega
  have hlt : left - (n : Int) < 0 := by omega
  go_enter Tryz.func5, Tryz.ntmps5
  go_wp2
  go_ret
  exact ⟨rfl, rfl⟩

set_option maxHeartbeats 4000000 in
set_option maxRecDepth 100000 in
theorem szPkgS_raw (w : World) (a : Option Addr) (n c : Nat) (q : Nat → RawP) (left : Int) (l0 : 0 ≤ left) (l1 : left ≤ 1048576) (hn : (n : Int) ≤ left) (hrow : 0 < n → ∃ b off, a = some ⟨b, off, none⟩ ∧ b < w.heap.size ∧ ∀ i, i < n → RawAt w b (off + i * 4) (q i)) (hls : ∀ i, i < n → (q i).2.2.1.2.1 ≤ 9223372036854775807 ∧ (q i).2.2.2.2.1 ≤ 9223372036854775807) :
    Calls Tryz.prog 5 #[.slice a n c, .int .i64 left] w fun e w' => Below w.heap.size w w' ∧ (((∀ i, i < n → (q i).2.2.1.2.1 ≤ 1048576 ∧ (q i).2.2.2.2.1 ≤ 1048576) ∧ ∃ r : Int, e = .returned (.int .i64 r) ∧ 0 ≤ r ∧ r ≤ left) ∨ e = .returned (.int .i64 (-1))) := by
  have ew : IntKind.i64.wrap (left - (n : Int)) = left - (n : Int) := by simp [IntKind.wrap, IntKind.bits, IntKind.signed]; omega
  have hge : ¬ left - (n : Int) < 0 := by omega
  have HLS := hide hls
  clear hls
  go_enter Tryz.func5, Tryz.ntmps5
  go_wp2
  go_loopw [1, 5] (fun lv i w' => ∃ (k : Nat) (r : Int), k ≤ n ∧ i = .int .i64 k ∧ lv = .int .i64 r ∧ 0 ≤ r ∧ r ≤ left ∧ Below w.heap.size w w' ∧ ∀ j, j < k → (q j).2.2.1.2.1 ≤ 1048576 ∧ (q j).2.2.2.2.1 ≤ 1048576) (fun _ i _ => n - (intOf i).toNat)
  case atStart => exact ⟨0, _, Nat.zero_le _, rfl, rfl, by omega, by omega, Below.refl _ _, fun j hj => by omega⟩
  case round =>
    obtain ⟨k, r, hk, rfl, rfl, r0, r1, hw, hgood⟩ := hrel
    have HG := hide hgood
    have HW := hide hw
    clear hgood hw ew hge
    by_cases hlt : k < n
    · obtain ⟨b, off, rfl, hb, hc⟩ := hrow (by omega)
      have hq := hc k hlt
      obtain ⟨l3, l4⟩ := unhide HLS k hlt
      clear hc hrow
      have hex : ∃ nm vr fa fn fc da dn dc, q k = (nm, vr, (fa, fn, fc), (da, dn, dc)) := ⟨_, _, _, _, _, _, _, _, rfl⟩
      obtain ⟨nm, vr, fa, fn, fc, da, dn, dc, hqk⟩ := hex
      have HQK := hide hqk
      rw [hqk] at hq l3 l4
      obtain ⟨c0, c1, c2, c3⟩ := hq
      dsimp only at c0 c1 c2 c3 l3 l4
      rw [← (unhide HW).cell hb] at c0 c1 c2 c3
      have hb' : b < wr.heap.size := Nat.lt_of_lt_of_le hb (unhide HW).size
      have hi0 : (0 : Int) ≤ (k : Int) := Int.natCast_nonneg _
      have hi1 : (k : Int) < (n : Int) := by omega
      clear hqk
      go_wp2_with fail
      refine (szPkg_any _ nm vr fa da fn fc dn dc r r0 (by omega) l3 l4).mono ?_
      rintro e w1 ⟨r', rfl, hr', b1⟩
      have HW1 := hide ((unhide HW).trans (b1.mono (unhide HW).size))
      clear b1 c0 c1 c2 c3
      rcases hr' with ⟨h1, h2⟩ | ⟨h1, rfl⟩
      · have hr0 : ¬ r' < 0 := by omega
        have HR := hide (show 0 ≤ r' ∧ r' ≤ left ∧ fn ≤ 1048576 ∧ dn ≤ 1048576 by omega)
        clear h1 h2
        go_wp2
        go_roundw
        case rel =>
          refine ⟨k + 1, r', by omega, by go_num, rfl, (unhide HR).1, (unhide HR).2.1, unhide HW1, fun j hj => ?_⟩
          rcases Nat.lt_or_ge j k with h | h
          · exact unhide HG j h
          · obtain rfl : j = k := by omega
            rw [unhide HQK]
            exact (unhide HR).2.2
        case measure => simp [intOf]; omega
      · go_wp2
        go_ret
        exact ⟨unhide HW1, .inr rfl⟩
    · obtain rfl : k = n := by omega
      go_wp2
      go_ret
      exact ⟨unhide HW, .inl ⟨unhide HG, r, rfl, r0, r1⟩⟩
/-- A row of packages that came in is measured: it is small, and can be read, or no more is asked. -/
theorem szPkgS_in (w : World) (a : Option Addr) (n c : Nat) (left : Int) (l0 : 0 ≤ left) (l1 : left ≤ 1048576) (h : PkgsIn w a n c) :
    Calls Tryz.prog 5 #[.slice a n c, .int .i64 left] w fun e w' => Below w.heap.size w w' ∧ ((∃ l : List Ix.Pg, l.length = n ∧ n ≤ 1048576 ∧ Pks (fun _ => True) w (.slice a n c) l ∧ (∀ i, i < n → (Ix.pg l i).2.2.1.length ≤ 1048576 ∧ (Ix.pg l i).2.2.2.length ≤ 1048576) ∧ ∃ r : Int, e = .returned (.int .i64 r) ∧ 0 ≤ r ∧ r ≤ left) ∨ e = .returned (.int .i64 (-1))) := by
  obtain ⟨hn, P⟩ := h
  by_cases hb : (n : Int) ≤ left
  · obtain ⟨q, hrow, hp⟩ := P (by omega)
    refine (szPkgS_raw w a n c q left l0 l1 hb hrow (fun i hi => ⟨(hp i hi).1.1, (hp i hi).2.1⟩)).mono ?_
    rintro e w1 ⟨b1, ⟨hs, r, rfl, r0, r1⟩ | rfl⟩
    · obtain ⟨l, hl, hpk, hall⟩ := pkgs_of (c := c) (by omega) hrow hp hs
      subst hl
      exact ⟨b1, .inl ⟨l, rfl, by omega, hpk, hall, r, rfl, r0, r1⟩⟩
    · exact ⟨b1, .inr rfl⟩
  · refine (szPkgS_over w a n c left l0 l1 hn hb).mono ?_
    rintro e w1 ⟨rfl, rfl⟩
    exact ⟨Below.refl _ _, .inr rfl⟩

set_option maxHeartbeats 4000000 in
set_option maxRecDepth 100000 in
theorem markPkgS_from {N : Nat → Prop} (w : World) (g n : Nat) (k0 : Int) (h : WrP N w g n) (hn : n ≤ 1048576) (kl : 0 ≤ k0) (kh : k0 ≤ 1000000000000) :
    Calls Tryz.prog 14 #[.slice (some ⟨g, 0, none⟩) n n, .int .i64 k0] w fun e w' => ∃ k : Int, e = .returned (.int .i64 k) ∧ 0 ≤ k ∧ k ≤ k0 + n * 10000000 ∧ Stays N w w' := by
  have H := hide h
  clear h
  go_enter Tryz.func14, Tryz.ntmps14
  go_wp2_with fail
  go_loopw [1, 5] (fun kv i w' => ∃ (j : Nat) (k : Int), j ≤ n ∧ i = .int .i64 j ∧ kv = .int .i64 k ∧ 0 ≤ k ∧ k ≤ k0 + j * 10000000 ∧ WrP N w' g n ∧ Stays N w w') (fun _ i _ => n - (intOf i).toNat)
  case atStart => exact ⟨0, k0, Nat.zero_le _, rfl, rfl, kl, by simp, unhide H, Stays.refl _ _⟩
  case round =>
    clear H
    obtain ⟨j, k, hj, rfl, rfl, kb0, kb1, hW, hS⟩ := hrel
    have HW := hide hW
    have HS := hide hS
    by_cases hlt : j < n
    · obtain ⟨x, y, g1, n1, g2, n2, ⟨c0, c1, c2, c3⟩, ⟨f0, f1⟩, ⟨hN, hN1, hN2⟩, ⟨l1, l2⟩, p1, p2⟩ := hW.at hlt
      have hw2 := (hW.set (u := .int .i64 k) hlt (.inl rfl)).set (u := .int .i64 (k + 1)) hlt (.inr rfl)
      have hs2 := hS.trans ((Stays.set (u := .int .i64 k) (o := j * 4) hN).trans (Stays.set (u := .int .i64 (k + 1)) (o := j * 4 + 1) hN))
      have HW2 := hide hw2
      have HS2 := hide hs2
      have HN := hide (And.intro hN (And.intro hN1 hN2))
      have hne1 : g1 ≠ g := fun e => by
        obtain ⟨C, h1, _⟩ := hW
        subst e
        obtain ⟨l, hl, h5⟩ := p1
        rw [h1] at h5
        injection h5 with e
        injection e with _ e2 _
        exact absurd e2 (by decide)
      have hne2 : g2 ≠ g := fun e => by
        obtain ⟨C, h1, _⟩ := hW
        subst e
        obtain ⟨l, hl, h5⟩ := p2
        rw [h1] at h5
        injection h5 with e
        injection e with _ e2 _
        exact absurd e2 (by decide)
      have far : ∀ m, m ≠ g → ((wr.setCell ⟨g, j * 4, none⟩ (.int .i64 k)).setCell ⟨g, j * 4 + 1, none⟩ (.int .i64 (k + 1))).heap[m]? = wr.heap[m]? := fun m hm => by rw [Below.heap_setCell _ _ _ _ hm, Below.heap_setCell _ _ _ _ hm]
      have P2 := hide (And.intro (p1.keep (far g1 hne1)) (p2.keep (far g2 hne2)))
      have hc3 : ((wr.setCell ⟨g, j * 4, none⟩ (.int .i64 k)).setCell ⟨g, j * 4 + 1, none⟩ (.int .i64 (k + 1))).cell? ⟨g, j * 4 + 3, none⟩ = some (.slice (some ⟨g2, 0, none⟩) n2 n2) := by
        obtain ⟨C, h1, _⟩ := hW
        exact cell_other (heapSet h1) (cell_other h1 c3 (by omega)) (by omega)
      have HC3 := hide hc3
      have hgl : g < wr.heap.size := by obtain ⟨C, h1, _⟩ := hW; exact heapLt h1
      have hi0 : (0 : Int) ≤ (j : Int) := Int.natCast_nonneg _
      have hi1 : (j : Int) < (n : Int) := by omega
      have e1 : IntKind.i64.wrap (k + 1) = k + 1 := by simp [IntKind.wrap, IntKind.bits, IntKind.signed]; omega
      have e2 : IntKind.i64.wrap (k + 1 + 1) = k + 1 + 1 := by simp [IntKind.wrap, IntKind.bits, IntKind.signed]; omega
      clear hW hS hw2 hs2 p1 p2 far hc3 c3 hN hN1 hN2 HW HS
      go_wp2_with fail
      obtain ⟨q1, hq1, ho1⟩ := (unhide P2).1.own (B := 0) (Nat.zero_le _) l1
      have CM := hide (markFileS_any _ _ q1 0 (k + 1 + 1) ho1 (by omega) (by omega) (by omega))
      rw [hq1] at CM
      clear ho1
      refine (unhide CM).mono ?_
      generalize World.setCell _ _ _ = W2 at *
      rintro e w3 ⟨rfl, hf3, hg3⟩
      have hp3 : PairB w3 g1 96 n1 := PairB.of (l := marks (k + 1 + 1) n1) hf3 (marks_len _ _)
      have hw3 := (unhide HW2).pair (by decide) (unhide P2).1 hp3 hg3
      have hs3 := (unhide HS2).trans (Stays.grown hg3 (unhide HN).2.1)
      have hg12 : g2 ≠ g1 := fun e => by
        have := (unhide P2).2
        rw [e] at this
        exact absurd (this.one (unhide P2).1).1 (by decide)
      have hp2 := (unhide P2).2.keep (w' := w3) (hg3.block _ (unhide P2).2.lt (fun e => hg12 (Option.some.inj e)))
      have hgl2 : g < W2.heap.size := by obtain ⟨C, h1, _⟩ := unhide HW2; exact heapLt h1
      have d3 : w3.cell? ⟨g, j * 4 + 3, none⟩ = some (.slice (some ⟨g2, 0, none⟩) n2 n2) := (World.cell?_of_block (a := ⟨g, j * 4 + 3, none⟩) (hg3.block g hgl2 (fun e => hne1 (Option.some.inj e).symm))).trans (unhide HC3)
      have HW3 := hide hw3
      have HS3 := hide hs3
      have HP3 := hide hp2
      clear hf3 hg3 hp3 hw3 hs3 hp2 HW2 HS2 P2 HC3 CM hgl2 c0 c1 c2 f0 f1
      clear W2
      go_wp2_with fail
      obtain ⟨q2, hq2, ho2⟩ := (unhide HP3).own (B := 0) (Nat.zero_le _) l2
      have CM := hide (markDepS_any _ _ q2 0 (k + 1 + 1 + 2 * (n1 : Int)) ho2 (by omega) (by omega) (by omega))
      rw [hq2] at CM
      clear ho2
      refine (unhide CM).mono ?_
      rintro e w4 ⟨rfl, hf4, hg4⟩
      have hp4 : PairB w4 g2 98 n2 := PairB.of (l := marks (k + 1 + 1 + 2 * (n1 : Int)) n2) hf4 (marks_len _ _)
      have HW4 := hide ((unhide HW3).pair (by decide) (unhide HP3) hp4 hg4)
      have HS4 := hide ((unhide HS3).trans (Stays.grown hg4 (unhide HN).2.2))
      clear hf4 hg4 hp4 HW3 HS3 HP3 CM d3
      go_wp2
      go_roundw
      case rel => exact ⟨j + 1, k + 1 + 1 + 2 * (n1 : Int) + 2 * (n2 : Int), by omega, by go_num, rfl, by omega, by omega, unhide HW4, unhide HS4⟩
      case measure => simp [intOf]; omega
    · obtain rfl : j = n := by omega
      clear hW hS hlt
      go_wp2
      go_ret
      exact ⟨k, rfl, by omega, by omega, unhide HS⟩
end Go.Proofs.YtlnieobmhofkdaaGreat
