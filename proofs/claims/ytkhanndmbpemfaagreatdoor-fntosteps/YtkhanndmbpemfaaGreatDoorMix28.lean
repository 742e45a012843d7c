import Derived.Test.YtkhanndmbpemfaaGreatDoorInstTo2W
import Derived.Test.YtkhanndmbpemfaaGreatDoorMix27
/- spec.InstTo: a disk behind so many steps; the answer can be read. -/
namespace Go.Proofs.YtkhanndmbpemfaaGreatDoor
open Go.RowKit

attribute [local go_sem ↓] Go.wp_at_zero Go.wp_at_succ

theorem PrsN.ownX {N : Nat → Prop} {w : World} {B : Nat} {t : TypeId} {v : Value} {l : List (Int × Int)} (h : w.ownsRow B t 2 v l.length (flat l)) (hl : l.length ≤ 1000000) (hN : ∀ g, v.ownBlock = some g → N g) : PrsN N w v l := by
  rcases own_shape h with ⟨hv, hn⟩ | ⟨g, cap, hv, hb, hg⟩
  · exact ⟨none, 0, by rw [hv, hn], by omega, fun hp => by omega⟩
  · subst hv
    refine ⟨some ⟨g, 0, none⟩, cap, rfl, by omega, fun _ => ⟨g, 0, rfl, hg, hN g rfl, fun i hi => ?_⟩⟩
    obtain ⟨h0, h1⟩ := flat_at l i hi
    rw [Nat.zero_add]
    exact ⟨own_cell h _ _ h0, own_cell h _ _ h1⟩
theorem PAns.pksX {N : Nat → Prop} {B : Nat} {w : World} {v : Value} {l : List El} (h : PAns B w v l) (hs : smallE l) (hN : ∀ g, blkP v l g → N g) : Pks N w v (l.map (·.1)) := by
  have hlen : (l.map (·.1)).length = l.length := List.length_map _
  have hl := hs.1
  rcases own_shape h.own with ⟨hv, hn⟩ | ⟨g, cap, hv, hb, hg⟩
  · exact ⟨none, 0, by rw [hlen, hv, hn], by omega, fun hp => by omega⟩
  · subst hv
    refine ⟨some ⟨g, 0, none⟩, cap, by rw [hlen], by omega, fun _ => ⟨g, 0, rfl, hg, hN g (.inl rfl), fun i hi => ?_⟩⟩
    rw [hlen] at hi
    have he : l[i]? = some l[i] := List.getElem?_eq_getElem hi
    obtain ⟨h0, h1, h2, h3⟩ := flat4_at l i _ he
    have hp : Ix.pg (l.map (·.1)) i = l[i].1 := by
      unfold Ix.pg
      rw [List.getD_eq_getElem?_getD, List.getElem?_map, he]
      rfl
    have hE := h.el l[i] (List.getElem_mem hi)
    have hS := hs.2 l[i] (List.getElem_mem hi)
    refine ⟨l[i].2.1, l[i].2.2, ?_, by rw [hp]; exact PrsN.ownX hE.f (by omega) (fun g hg => hN g (.inr ⟨_, List.getElem_mem hi, .inl hg⟩)), by rw [hp]; exact PrsN.ownX hE.d (by omega) (fun g hg => hN g (.inr ⟨_, List.getElem_mem hi, .inr hg⟩))⟩
    rw [hp, Nat.zero_add]
    exact ⟨own_cell h.own _ _ h0, own_cell h.own _ _ h1, own_cell h.own _ _ h2, own_cell h.own _ _ h3⟩
theorem DAns.drd {B : Nat} {w : World} {v1 vf v2 : Value} {e1 e2 : List El} {fl : List Int} {db jr : List Ix.Pg} (h : DAns B w v1 vf v2 e1 fl e2) (m1 : e1.map (·.1) = db) (m2 : e2.map (·.1) = jr) (s1 : smallP db) (s2 : smallP jr) : DRd (fun b => B ≤ b ∧ vf.ownBlock ≠ some b) B w v1 vf v2 db fl jr := by
  have hx : ∀ {v : Value} {l : List El}, PAns B w v l → ∀ g, blkP v l g → B ≤ g ∧ vf.ownBlock ≠ some g := fun hp g hg => ⟨(hp.lt g hg).1, fun e => by
    obtain ⟨_, c, hc⟩ := own_row h.pf g e
    exact hp.notInt hc hg⟩
  have q1 := h.p1.pksX (s1.E m1) (hx h.p1)
  have q2 := h.p2.pksX (s2.E m2) (hx h.p2)
  have l1 : e1.length = db.length := by rw [← m1, List.length_map]
  have l2 : e2.length = jr.length := by rw [← m2, List.length_map]
  have r1 := h.p1.room
  have r2 := h.p2.room
  rw [m1] at q1
  rw [m2] at q2
  rw [l1] at r1
  rw [l2] at r2
  exact ⟨q1, r1, h.pf, q2, r2⟩

set_option linter.unusedSimpArgs false in
set_option maxHeartbeats 8000000 in
set_option maxRecDepth 100000 in
theorem specInstTo_any {N : Nat → Prop} (w : World) (d : Dk.D) (v1 vf v2 v : Value) (l : List Dk.S) (cut : Int) (torn : Bool) (hd : DIn w d v1 vf v2) (hs : StsR N w v l) (hl : l.length ≤ 1000) (c0 : -9000000000000000000 ≤ cut) (c1 : cut ≤ 9000000000000000000) :
    Calls Tryz.prog 8 #[dkV v1 vf d.has v2, v, .int .i64 cut, .bool torn] w fun e w' => ∃ q1 qf q2, e = .returned (.tuple #[dkV q1 qf (Dk.toA d l cut torn).1.has q2, .bool (Dk.toA d l cut torn).2]) ∧ DIn w' (Dk.toA d l cut torn).1 q1 qf q2 ∧ Below w.heap.size w w' := by
  have CO := hide (fun (W : World) (x : DIn W d v1 vf v2) => specDiskOk_any W d v1 vf v2 x.p1 x.pf x.p2)
  have GD := hide (fun h => Dk.ok_get (d := d) h)
  have HA := hide (show (d.ok = false ∨ allOk l = false ∨ cut < 0) → Dk.toA d l cut torn = (Dk.D.none, false) from fun h => by
    unfold Dk.toA
    rw [if_neg]
    rintro ⟨h1, h2, h3⟩
    rcases h with h | h | h
    · rw [h1] at h; cases h
    · rw [h2] at h; cases h
    · omega)
  have HY := hide (show d.ok = true → allOk l = true → 0 ≤ cut → Dk.toA d l cut torn = (Dk.till d l cut torn, true) from fun h1 h2 h3 => by unfold Dk.toA; rw [if_pos ⟨h1, h2, h3⟩])
  generalize hAA : Dk.toA d l cut torn = AA at *
  clear hAA
  generalize d.ok = dok at *
  obtain ⟨a1, c1', af, cf, a2, c2', i1, i2, i3⟩ := hd.forms
  obtain ⟨sa, sc, i4, hsc⟩ := hs.slice
  obtain ⟨db, fl, has, jr⟩ := d
  dsimp only at i1 i2 i3
  subst i1 i2 i3 i4
  obtain ⟨b0, k0, k1⟩ := two_boxesD w (.cells #[.slice a1 db.length c1', .slice af fl.length cf, .bool has, .slice a2 jr.length c2'] 31) (.cells #[.slice none 0 0, .slice none 0 0, .bool false, .slice none 0 0] 31)
  have HB := hide k0
  have HR := hide k1
  have BW := hide b0
  have HD := hide (hd.later b0)
  have HS := hide (hs.later b0)
  clear hd hs b0 k0 k1
  dsimp only [dkV] at *
  go_enter Tryz.func8, Tryz.ntmps8
  go_wp2_with fail
  generalize World.alloc _ _ = W0 at *
  go_loopw [10] (fun i w' => ∃ k : Nat, k ≤ l.length ∧ i = .int .i64 k ∧ (∀ (j : Nat) (s : Dk.S), j < k → l[j]? = some s → s.ok = true) ∧ w'.heap[w.heap.size]? = some (.cells #[.slice a1 db.length c1', .slice af fl.length cf, .bool has, .slice a2 jr.length c2'] 31 (0, 0)) ∧ w'.heap[w.heap.size + 1]? = some (.cells #[.slice none 0 0, .slice none 0 0, .bool false, .slice none 0 0] 31 (0, 0)) ∧ DIn w' ⟨db, fl, has, jr⟩ (.slice a1 db.length c1') (.slice af fl.length cf) (.slice a2 jr.length c2') ∧ StsR N w' (.slice sa l.length sc) l ∧ Below w.heap.size w w') (fun i _ => l.length - (intOf i).toNat)
  case atStart => exact ⟨0, Nat.zero_le _, rfl, fun j s hj => by omega, unhide HB, unhide HR, unhide HD, unhide HS, unhide BW⟩
  case round =>
    clear HB HR HD HS BW
    clear W0
    obtain ⟨k, hk, rfl, hno, hB, hR, hD, hS, hw⟩ := hrel
    have HN := hide hno
    have HB := hide hB
    have HR := hide hR
    have HD := hide hD
    have HS := hide hS
    have BW := hide hw
    clear hno hB hR hD hS hw
    by_cases hlt : k < l.length
    · obtain ⟨s, hsk⟩ : ∃ s, l[k]? = some s := ⟨_, List.getElem?_eq_getElem hlt⟩
      have HSK := hide hsk
      obtain ⟨b, off, pa, pc, hva, hsat, hpk, hroom, hb, _⟩ := (unhide HS).at hsk
      subst hva
      obtain ⟨t0, t1, t2, t3⟩ := hsat
      have CF := hide (specStep_any wr s _ hpk)
      have hi0 : (0 : Int) ≤ (k : Int) := Int.natCast_nonneg _
      have hi1 : (k : Int) < (l.length : Int) := by omega
      have er : IntKind.i64.wrap ((k : Int) + 1) = (k : Int) + 1 := by simp [IntKind.wrap, IntKind.bits, IntKind.signed]; omega
      obtain ⟨sk, sp, sx, sps⟩ := s
      dsimp only at t0 t1 t2 t3
      clear hsk hpk hroom hb
      generalize hx : Dk.S.ok ⟨sk, sp, sx, sps⟩ = ok at CF
      have HXX := hide hx
      clear hx
      go_wp2_with fail
      refine (unhide CF).mono ?_
      rintro e w1 ⟨rfl, b⟩
      replace HB := hide ((b.block _ (heapLt (unhide HB))).trans (unhide HB))
      replace HR := hide ((b.block _ (heapLt (unhide HR))).trans (unhide HR))
      replace HD := hide ((unhide HD).later b)
      replace HS := hide ((unhide HS).later b)
      replace BW := hide ((unhide BW).trans (b.mono (unhide BW).size))
      clear b t0 t1 t2 t3 CF
      cases ok
      · have HE := hide (unhide HA (.inr (.inl (allOk_no (unhide HSK) (unhide HXX)))))
        obtain ⟨⟨x0, y0⟩, ⟨x1, y1⟩, ⟨x2, y2⟩, x3, y3⟩ : (_ ∧ _) ∧ (_ ∧ _) ∧ (_ ∧ _) ∧ _ ∧ _ := ⟨⟨cellOf (unhide HR) 0, frozenOf (unhide HR) 0⟩, ⟨cellOf (unhide HR) 1, frozenOf (unhide HR) 1⟩, ⟨cellOf (unhide HR) 2, frozenOf (unhide HR) 2⟩, cellOf (unhide HR) 3, frozenOf (unhide HR) 3⟩
        clear HA HY
        go_wp2
        obtain ⟨⟨q0, q1, q2, q3⟩, hbel, hfar⟩ := fin4 (a := .slice none 0 0) (b := .slice none 0 0) (c := .bool false) (d := .slice none 0 0) (W := w) (unhide HR) (by omega) (unhide BW) rfl
        exact bodyPost_ret (v := .tuple #[.agg #[.slice none 0 0, .slice none 0 0, .bool false, .slice none 0 0], .bool false]) (by simp [results, Tryz.results8, go_sem, q0, q1, q2, q3]) rfl ⟨.slice none 0 0, .slice none 0 0, .slice none 0 0, by rw [unhide HE]; rfl, by rw [unhide HE]; exact ⟨pks_nil _ _ _, fun _ _ _ => Nat.zero_le _, ⟨none, 0, rfl, by simp [Dk.D.none], fun h => absurd h (by simp [Dk.D.none])⟩, pks_nil _ _ _, fun _ _ _ => Nat.zero_le _⟩, hbel⟩
      · go_wp2
        go_roundw
        case rel => exact ⟨k + 1, by omega, by go_num, fun j s hj hs => by
          rcases Nat.lt_or_ge j k with h | h
          · exact unhide HN j s h hs
          · obtain rfl : j = k := by omega
            rw [unhide HSK] at hs
            injection hs with hs
            rw [← hs]
            exact unhide HXX, unhide HB, unhide HR, unhide HD, unhide HS, unhide BW⟩
        case measure => simp [intOf]; omega
    · obtain rfl : k = l.length := by omega
      have HALE := hide (allOk_yes (l := l) (fun j s hs => unhide HN j s (List.getElem?_eq_some_iff.1 hs).1 hs))
      obtain ⟨x0, x1, x2, x3⟩ : _ ∧ _ ∧ _ ∧ _ := ⟨cellOf (unhide HB) 0, cellOf (unhide HB) 1, cellOf (unhide HB) 2, cellOf (unhide HB) 3⟩
      clear hlt HN
      go_wp2_with fail
      refine (unhide CO _ (unhide HD)).mono ?_
      rintro e w1 ⟨rfl, b⟩
      replace HB := hide ((b.block _ (heapLt (unhide HB))).trans (unhide HB))
      replace HR := hide ((b.block _ (heapLt (unhide HR))).trans (unhide HR))
      replace HD := hide ((unhide HD).later b)
      replace HS := hide ((unhide HS).later b)
      replace BW := hide ((unhide BW).trans (b.mono (unhide BW).size))
      clear b CO x0 x1 x2 x3
      cases dok
      · have HE := hide (unhide HA (.inl (by trivial)))
        obtain ⟨⟨x0, y0⟩, ⟨x1, y1⟩, ⟨x2, y2⟩, x3, y3⟩ : (_ ∧ _) ∧ (_ ∧ _) ∧ (_ ∧ _) ∧ _ ∧ _ := ⟨⟨cellOf (unhide HR) 0, frozenOf (unhide HR) 0⟩, ⟨cellOf (unhide HR) 1, frozenOf (unhide HR) 1⟩, ⟨cellOf (unhide HR) 2, frozenOf (unhide HR) 2⟩, cellOf (unhide HR) 3, frozenOf (unhide HR) 3⟩
        clear HA HY
        go_wp2
        obtain ⟨⟨q0, q1, q2, q3⟩, hbel, hfar⟩ := fin4 (a := .slice none 0 0) (b := .slice none 0 0) (c := .bool false) (d := .slice none 0 0) (W := w) (unhide HR) (by omega) (unhide BW) rfl
        exact bodyPost_ret (v := .tuple #[.agg #[.slice none 0 0, .slice none 0 0, .bool false, .slice none 0 0], .bool false]) (by simp [results, Tryz.results8, go_sem, q0, q1, q2, q3]) rfl ⟨.slice none 0 0, .slice none 0 0, .slice none 0 0, by rw [unhide HE]; rfl, by rw [unhide HE]; exact ⟨pks_nil _ _ _, fun _ _ _ => Nat.zero_le _, ⟨none, 0, rfl, by simp [Dk.D.none], fun h => absurd h (by simp [Dk.D.none])⟩, pks_nil _ _ _, fun _ _ _ => Nat.zero_le _⟩, hbel⟩
      by_cases hc0 : cut < 0
      · have HE := hide (unhide HA (.inr (.inr hc0)))
        obtain ⟨⟨x0, y0⟩, ⟨x1, y1⟩, ⟨x2, y2⟩, x3, y3⟩ : (_ ∧ _) ∧ (_ ∧ _) ∧ (_ ∧ _) ∧ _ ∧ _ := ⟨⟨cellOf (unhide HR) 0, frozenOf (unhide HR) 0⟩, ⟨cellOf (unhide HR) 1, frozenOf (unhide HR) 1⟩, ⟨cellOf (unhide HR) 2, frozenOf (unhide HR) 2⟩, cellOf (unhide HR) 3, frozenOf (unhide HR) 3⟩
        clear HA HY
        go_wp2
        obtain ⟨⟨q0, q1, q2, q3⟩, hbel, hfar⟩ := fin4 (a := .slice none 0 0) (b := .slice none 0 0) (c := .bool false) (d := .slice none 0 0) (W := w) (unhide HR) (by omega) (unhide BW) rfl
        exact bodyPost_ret (v := .tuple #[.agg #[.slice none 0 0, .slice none 0 0, .bool false, .slice none 0 0], .bool false]) (by simp [results, Tryz.results8, go_sem, q0, q1, q2, q3]) rfl ⟨.slice none 0 0, .slice none 0 0, .slice none 0 0, by rw [unhide HE]; rfl, by rw [unhide HE]; exact ⟨pks_nil _ _ _, fun _ _ _ => Nat.zero_le _, ⟨none, 0, rfl, by simp [Dk.D.none], fun h => absurd h (by simp [Dk.D.none])⟩, pks_nil _ _ _, fun _ _ _ => Nat.zero_le _⟩, hbel⟩
      obtain ⟨gf, g1, g2, _⟩ := unhide GD (by trivial)
      have hL6 : fl.length = 6 := (Dk.files_get gf).1
      have HLN := hide (And.intro (show db.length ≤ 1000 by have := Ix.pkgs_len (Ix.planOk_pkgs g1); omega) (And.intro (show jr.length ≤ 1000 by have := Ix.pkgs_len (Ix.planOk_pkgs g2); omega) (show fl.length ≤ 1000 by omega)))
      have HSM := hide (And.intro (smallP.ofOk (Ix.planOk_pkgs g1)) (smallP.ofOk (Ix.planOk_pkgs g2)))
      have HL6 := hide hL6
      have HE := hide (unhide HY (by trivial) (unhide HALE) (by omega))
      have HAL := hide (allOk_mem (unhide HALE))
      clear gf g1 g2 hL6 HA HY GD
      obtain ⟨x0, x1, x2, x3⟩ : _ ∧ _ ∧ _ ∧ _ := ⟨cellOf (unhide HB) 0, cellOf (unhide HB) 1, cellOf (unhide HB) 2, cellOf (unhide HB) 3⟩
      go_wp2_with fail
      refine (l21Copy_any _ ⟨db, fl, has, jr⟩ _ _ _ (unhide HD).p1 (unhide HD).pf (unhide HD).p2 (unhide HLN).1 (unhide HLN).2.1 (unhide HLN).2.2).mono ?_
      rintro e w2 ⟨u1, uf, u2, e1, e2, rfl, hA, hm1, hm2, b⟩
      have HRD := hide (hA.drd hm1 hm2 (unhide HSM).1 (unhide HSM).2)
      have HUF : Hid (∀ g, uf.ownBlock = some g → w1.heap.size ≤ g ∧ g < w2.heap.size) := fun g hg => hA.pf.lt g hg
      have HST := hide ((((unhide HS).bound.later b).weak (N' := fun b => uf.ownBlock ≠ some b) (fun x hx e => by have := (unhide HUF x e).1; have := hx.2; omega)).sts)
      have HB1 : Hid (w.heap.size + 1 < w1.heap.size ∧ w1.heap.size ≤ w2.heap.size) := ⟨heapLt (unhide HR), b.size⟩
      replace HR := hide ((b.block _ (heapLt (unhide HR))).trans (unhide HR))
      replace BW := hide ((unhide BW).trans (b.mono (unhide BW).size))
      clear hA hm1 hm2 b x0 x1 x2 x3 HD HS HB
      obtain ⟨f1, g1, i1⟩ := (unhide HRD).p1.slice
      obtain ⟨ff, gf, iff'⟩ := own_formS (unhide HRD).pf
      obtain ⟨f2, g2, i2⟩ := (unhide HRD).p2.slice
      dsimp only at i1 iff' i2
      subst i1 iff' i2
      dsimp only [dkV]
      go_wp2_with fail
      refine (l22To_rd (B := w1.heap.size) w2 has _ _ _ db jr fl _ l cut torn (unhide HRD) (unhide HB1).2 (fun b hb => hb.2) (fun b hb => ⟨by have := (unhide HB1).2; omega, fun e => by have := (unhide HUF b e).2; omega⟩) (unhide HST) hl (fun s hs => by
        obtain ⟨hk, hp, _, hps⟩ := Dk.S.ok_get (unhide HAL s hs)
        refine ⟨⟨hk, hp.1, ?_, ?_⟩, smallP.ofOk (Ix.planOk_pkgs hps)⟩
        · rw [unhide HL6]
          have := hp.2
          show s.p < ((6 : Nat) : Int)
          omega
        · have := Ix.pkgs_len (Ix.planOk_pkgs hps); omega) c0 c1).mono ?_
      rintro e w3 ⟨x, rfl, hret, hst⟩
      have hbel := hst.toBelow (B := w1.heap.size) (unhide HB1).2 (fun k hk => (unhide HUF k hk).1)
      have HLF := hide (show (Dk.till ⟨db, fl, has, jr⟩ l cut torn).fl.length = 6 by rw [Dk.till_fl]; exact unhide HL6)
      generalize Dk.till ⟨db, fl, has, jr⟩ l cut torn = D2 at *
      obtain ⟨q1, q2, rfl, hans⟩ := hret
      obtain ⟨h1, k1, i1⟩ := hans.p1.slice
      obtain ⟨h2, k2, i2⟩ := hans.p2.slice
      subst i1 i2
      replace HR := hide ((hbel.block _ (by have := unhide HB1; omega)).trans (unhide HR))
      replace BW := hide ((unhide BW).trans (hbel.mono (by have := unhide HB1; omega)))
      have HDR := hide hans
      clear hst hans hbel HRD HST
      obtain ⟨db2, fl2, has2, jr2⟩ := D2
      dsimp only [dkV] at *
      obtain ⟨⟨x0, y0⟩, ⟨x1, y1⟩, ⟨x2, y2⟩, x3, y3⟩ : (_ ∧ _) ∧ (_ ∧ _) ∧ (_ ∧ _) ∧ _ ∧ _ := ⟨⟨cellOf (unhide HR) 0, frozenOf (unhide HR) 0⟩, ⟨cellOf (unhide HR) 1, frozenOf (unhide HR) 1⟩, ⟨cellOf (unhide HR) 2, frozenOf (unhide HR) 2⟩, cellOf (unhide HR) 3, frozenOf (unhide HR) 3⟩
      go_wp2
      obtain ⟨⟨q0, q1, q2, q3⟩, hbel, hfar⟩ := fin4 (a := .slice h1 db2.length k1) (b := .slice ff fl.length gf) (c := .bool has2) (d := .slice h2 jr2.length k2) (W := w) (unhide HR) (by omega) (unhide BW) rfl
      have hRB := (unhide HB1).1
      have hOF := own_keepS (unhide HDR).pf (fun g _ _ hb _ => hfar g (by omega))
      exact bodyPost_ret (v := .tuple #[.agg #[.slice h1 db2.length k1, .slice ff fl.length gf, .bool has2, .slice h2 jr2.length k2], .bool true]) (by simp [results, Tryz.results8, go_sem, q0, q1, q2, q3]) rfl ⟨.slice h1 db2.length k1, .slice ff fl.length gf, .slice h2 jr2.length k2, by rw [unhide HE], by
        rw [unhide HE]
        exact ⟨((unhide HDR).p1.keep (by simp [World.setCell]) (fun k _ hk => hfar k (by have := hk.1; omega))).weak (fun _ _ => trivial), (unhide HDR).r1, OwI.wide hOF (by have h6 : fl2.length = 6 := unhide HLF; show fl2.length ≤ 1048576; omega), ((unhide HDR).p2.keep (by simp [World.setCell]) (fun k _ hk => hfar k (by have := hk.1; omega))).weak (fun _ _ => trivial), (unhide HDR).r2⟩, hbel⟩
end Go.Proofs.YtkhanndmbpemfaaGreatDoor

/- A row of steps of one's own whose packages can be read (in other blocks than the row's): as it comes from l22Steps, and with one more step behind. -/
namespace Go.Proofs.YtkhanndmbpemfaaGreatDoor
open Go.RowKit

structure SOx (B : Nat) (w : World) (v : Value) (l : List SEl) : Prop where
  own : w.ownsRow B 47 4 v l.length (flatS l)
  el : ∀ e ∈ l, Pks (fun b => B ≤ b ∧ v.ownBlock ≠ some b) w e.2.1 e.1.ps ∧ RoomV e.2.1 e.1.ps.length
theorem SOwn.ox {B : Nat} {w : World} {v : Value} {l : List SEl} (h : SOwn B w v l) : SOx B w v l := by
  refine ⟨h.own, fun e he => ?_⟩
  have hE := h.el e he
  have q := hE.p.pksX (N := fun b => B ≤ b ∧ v.ownBlock ≠ some b) hE.s (fun g hg => ⟨(hE.p.lt g hg).1, fun e2 => by
    obtain ⟨_, c, hc⟩ := own_row h.own g e2
    exact hE.p.notStep hc hg⟩)
  have r := hE.p.room
  rw [hE.m] at q
  have l1 : e.2.2.length = e.1.ps.length := by rw [← hE.m, List.length_map]
  rw [l1] at r
  exact ⟨q, r⟩
theorem SOx.empty (w : World) : SOx w.heap.size (w.alloc (.cells #[] 47)) (.slice (some ⟨w.heap.size, 0, none⟩) 0 0) [] :=
  ⟨⟨by simp [flatS], .inr ⟨w.heap.size, 0, #[], rfl, Nat.le_refl _, heap_alloc_new _ _, Nat.le_refl _, by unfold maxLen; omega, by simp, by simp [flatS]⟩⟩, fun e he => by cases he⟩
theorem SOx.base {B B' : Nat} {w : World} {v : Value} {l : List SEl} (h : SOx B w v l) (hB : B' ≤ B) : SOx B' w v l :=
  ⟨own_base' h.own hB, fun e he => ⟨(h.el e he).1.weak (fun _ hb => ⟨Nat.le_trans hB hb.1, hb.2⟩), (h.el e he).2⟩⟩
theorem SOx.keep {B : Nat} {w w' : World} {v : Value} {l : List SEl} (h : SOx B w v l) (hs : w.heap.size ≤ w'.heap.size) (hk : ∀ k, B ≤ k → k < w.heap.size → w'.heap[k]? = w.heap[k]?) : SOx B w' v l :=
  ⟨own_keepS h.own (fun g _ _ hb hg => hk g hb (heapLt hg)), fun e he => ⟨(h.el e he).1.keep hs (fun k hk1 hN => hk k hN.1 hk1), (h.el e he).2⟩⟩
theorem SOx.later {B : Nat} {w w' : World} {v : Value} {l : List SEl} (h : SOx B w v l) (b : Below w.heap.size w w') : SOx B w' v l := h.keep b.size (fun k _ hk => b.block k hk)
theorem SOx.kp {B : Nat} {w w' : World} {v : Value} {l : List SEl} {blk : Nat} (h : SOx B w v l) (hk : Kp w.heap.size blk w w') (hb : blk < B) : SOx B w' v l := h.keep hk.size (fun k h1 h2 => hk.block k h2 (by omega))
/-- One more step. -/
theorem SOx.app {B : Nat} {w w2 : World} {v : Value} {l : List SEl} {e : SEl} {g cap : Nat} (h : SOx B w v l) (hg : w.grownBy w2 v.ownBlock)
    (ho : w2.ownsRow B 47 4 (.slice (some ⟨g, 0, none⟩) (l.length + 1) cap) (l.length + 1) (flatS l ++ [.int .i64 e.1.k, .int .i64 e.1.p, .int .i64 e.1.x, e.2.1]))
    (hat : v.ownBlock = some g ∨ w.heap.size ≤ g) (h1 : Pks (fun b => B ≤ b ∧ v.ownBlock ≠ some b) w e.2.1 e.1.ps) (h2 : RoomV e.2.1 e.1.ps.length) :
    SOx B w2 (.slice (some ⟨g, 0, none⟩) (l.length + 1) cap) (l ++ [e]) := by
  have kp : ∀ {u : Value} {p : List Ix.Pg}, Pks (fun b => B ≤ b ∧ v.ownBlock ≠ some b) w u p → Pks (fun b => B ≤ b ∧ (Value.slice (some ⟨g, 0, none⟩) (l.length + 1) cap).ownBlock ≠ some b) w2 u p := fun {u p} hp => by
    have hp2 := hp.bound.keep hg.size (fun k hk hN => hg.block k hk (fun e => hN.1.2 e.symm))
    refine hp2.weak (fun b hb => ⟨hb.1.1, fun e => ?_⟩)
    have e2 : g = b := Option.some.inj e
    rcases hat with ha | ha
    · exact hb.1.2 (by rw [ha, e2])
    · have := hb.2; omega
  refine ⟨by rw [flatS_snoc, List.length_append]; exact ho, fun x hx => ?_⟩
  rcases List.mem_append.1 hx with hx | hx
  · exact ⟨kp (h.el x hx).1, (h.el x hx).2⟩
  · rw [List.mem_singleton] at hx
    subst hx
    exact ⟨kp h1, h2⟩
/-- It can be read. -/
theorem SOx.stsR {B : Nat} {w : World} {v : Value} {l : List SEl} (h : SOx B w v l) (hl : l.length ≤ 1000000) : StsR (fun b => B ≤ b) w v (l.map (·.1)) := by
  have hlen : (l.map (·.1)).length = l.length := List.length_map _
  have hcap : ∀ a n c, v = .slice a n c → n ≤ c := fun a n c e => by
    rcases h.own.2 with ⟨e2, hn⟩ | ⟨g, cap, cur, e2, _, _, hcp, _⟩
    · rw [e2] at e; injection e with _ e1 e; omega
    · rw [e2] at e; injection e with _ e1 e; omega
  rcases own_shape h.own with ⟨hv, hn⟩ | ⟨g, cap, hv, hb, hg⟩
  · exact ⟨none, 0, by rw [hlen, hv, hn], by omega, by omega, fun hp => by omega⟩
  · have hc := hcap _ _ _ hv
    subst hv
    refine ⟨some ⟨g, 0, none⟩, cap, by rw [hlen], by omega, by omega, fun _ => ⟨g, 0, rfl, hg, hb, fun i s hi => ?_⟩⟩
    rw [List.getElem?_map] at hi
    obtain ⟨e, he, rfl⟩ := Option.map_eq_some_iff.1 hi
    obtain ⟨h0, h1, h2, h3⟩ := flatS_at l i _ he
    have hE := h.el e (List.mem_of_getElem? he)
    refine ⟨e.2.1, ?_, hE.1.weak (fun b hb => hb.1), hE.2⟩
    rw [Nat.zero_add]
    exact ⟨own_cell h.own _ _ h0, own_cell h.own _ _ h1, own_cell h.own _ _ h2, own_cell h.own _ _ h3⟩
end Go.Proofs.YtkhanndmbpemfaaGreatDoor
