import Derived.Test.YtkhanndmbpemfaaGreatDoorMix19
import Derived.Deep.AppendLies
/- spec.l22Steps and spec.l22Mends: by which steps packages are put in, in rows of their own. -/
namespace Go.Proofs.YtkhanndmbpemfaaGreatDoor
open Go.RowKit

attribute [local go_sem ↓] Go.wp_at_zero Go.wp_at_succ

theorem infoStep : (Tryz.prog.info? 47).map (fun i => (i.zero, i.size, i.bytes)) = some (some (.agg #[.int .i64 0, .int .i64 0, .int .i64 0, .slice none 0 0]), 4, 48) := by kernel_rfl
theorem PAns.smallOf {ps : List Ix.Pg} {l : List El} (hm : l.map (·.1) = ps) (hok : Ix.pkgsOk ps = true) : smallE l := by
  have h1 := Ix.pkgs_len hok
  have h2 := (Ix.pkgsOk_pair.1 hok).1
  have hl : l.length = ps.length := by rw [← hm, List.length_map]
  refine ⟨by omega, fun e he => ?_⟩
  obtain ⟨h3, h4⟩ := Ix.pOk_lens (h2 e.1 (by rw [← hm]; exact List.mem_map_of_mem he))
  exact ⟨by omega, by omega⟩
/-- A row of one step, newly laid. -/
theorem SOwn.one {B : Nat} {w : World} {g : Nat} {e : SEl} (h : w.heap[g]? = some (.cells #[.int .i64 e.1.k, .int .i64 e.1.p, .int .i64 e.1.x, e.2.1] 47 (0, 0))) (hg : B ≤ g) (he : StO B w e) : SOwn B w (.slice (some ⟨g, 0, none⟩) 1 1) [e] :=
  ⟨⟨rfl, .inr ⟨g, 1, _, rfl, hg, h, Nat.le_refl _, by unfold maxLen; omega, rfl, rfl⟩⟩, fun x hx => by rw [List.mem_singleton] at hx; rw [hx]; exact he⟩
theorem map_len {ps : List Ix.Pg} {l : List El} (hm : l.map (·.1) = ps) : l.length = ps.length := by rw [← hm, List.length_map]

set_option maxHeartbeats 8000000 in
set_option maxRecDepth 100000 in
theorem l22Steps_any {N : Nat → Prop} (w : World) (a1 af a2 : Option Addr) (n1 c1 cf n2 c2 : Nat) (has : Bool) (fl : List Int) (v : Value) (ps : List Ix.Pg) (hf : Ins w (.slice af fl.length cf) fl) (h6 : fl.length = 6) (hp : Pks N w v ps) (hok : Ix.pkgsOk ps = true) :
    Calls Tryz.prog 46 #[.agg #[.slice a1 n1 c1, .slice af fl.length cf, .bool has, .slice a2 n2 c2], v] w fun e w' => ∃ u els, e = .returned u ∧ SOwn w.heap.size w' u els ∧ els.map (·.1) = Dk.steps fl ps ∧ Below w.heap.size w w' := by
  obtain ⟨i0, hI0, hz0, hz1, hz2⟩ := info_parts infoStep
  obtain ⟨va, vc, hv⟩ := hp.slice
  subst hv
  have hps : ps.length ≤ 1000 := by have := Ix.pkgs_len hok; omega
  have HPS := hide hps
  have HOK := hide hok
  have H6 := hide h6
  have HF := hide hf
  have HP := hide hp
  have HDB := hide (heap_alloc_new w (.cells #[.slice a1 n1 c1, .slice af fl.length cf, .bool has, .slice a2 n2 c2] 31))
  have BW := hide (below1 w (.cells #[.slice a1 n1 c1, .slice af fl.length cf, .bool has, .slice a2 n2 c2] 31))
  clear hps hok h6 hf hp
  go_enter Tryz.func46, Tryz.ntmps46
  go_wp2_with fail
  refine (l12Copy_any _ _ ps ((unhide HP).later (unhide BW)) (unhide HPS)).mono ?_
  generalize w.alloc _ = W0 at *
  rintro e w1 ⟨u, es, rfl, hP, hm, b⟩
  obtain ⟨ua, uc, hu⟩ := own_formS hP.own
  subst hu
  have hbX := below1 w1 (.cells #[.int .i64 1, .int .i64 0, .int .i64 0, .slice ua es.length uc] 47)
  have hX := heap_alloc_new w1 (.cells #[.int .i64 1, .int .i64 0, .int .i64 0, .slice ua es.length uc] 47)
  have hs1 : w.heap.size ≤ w1.heap.size := Nat.le_trans (unhide BW).size b.size
  have HS1 : Hid (SOwn w.heap.size (w1.alloc (.cells #[.int .i64 1, .int .i64 0, .int .i64 0, .slice ua es.length uc] 47)) (.slice (some ⟨w1.heap.size, 0, none⟩) 1 1) [(⟨1, 0, 0, ps⟩, .slice ua es.length uc, es)]) :=
    SOwn.one (e := (⟨1, 0, 0, ps⟩, .slice ua es.length uc, es)) hX hs1 ⟨(hP.base (unhide BW).size).later hbX, hm, PAns.smallOf hm (unhide HOK)⟩
  replace HDB := hide (((b.trans (hbX.mono b.size)).block _ (heapLt (unhide HDB))).trans (unhide HDB))
  replace BW := hide ((unhide BW).trans ((b.trans (hbX.mono b.size)).mono (unhide BW).size))
  clear hP hm b hbX hX hs1
  have CF := hide (l13Files_any _ _ ps ((unhide HP).later (unhide BW)) (unhide HOK))
  go_wp2_with fail
  refine (unhide CF).mono ?_
  rintro e w2 ⟨uf, rfl, hO, b⟩
  clear CF
  generalize w1.heap.size = X1 at *
  generalize w1.alloc _ = W1 at *
  replace HDB := hide ((b.block _ (heapLt (unhide HDB))).trans (unhide HDB))
  have HS := hide ((unhide HS1).later b)
  have HO : Hid (OwI w.heap.size w2 uf (Ix.filesTo ps ps.length)) := own_base' hO (unhide BW).size
  replace BW := hide ((unhide BW).trans (b.mono (unhide BW).size))
  have hL6 := Ix.filesTo_len ps ps.length (Nat.le_refl _)
  have HST : Hid (Dk.steps fl ps = ⟨1, 0, 0, ps⟩ :: (Dk.fileSteps (Ix.filesTo ps ps.length) fl 6 ++ [⟨3, 0, 0, ps⟩, ⟨4, 0, 0, []⟩])) := rfl
  generalize Ix.filesTo ps ps.length = F at *
  have HL6 := hide hL6
  clear hO b HS1 hL6 W0
  obtain ⟨fa, fc, hfv⟩ := own_formS (unhide HO)
  subst hfv
  go_wp2_with fail
  go_loopw [5, 7] (fun o i w' => ∃ (k : Nat) (els : List SEl), k ≤ 6 ∧ i = .int .i64 k ∧ els.map (·.1) = ⟨1, 0, 0, ps⟩ :: Dk.fileSteps F fl k ∧ SOwn w.heap.size w' o els ∧ OwI w.heap.size w' (.slice fa F.length fc) F ∧ w'.heap[w.heap.size]? = some (.cells #[.slice a1 n1 c1, .slice af fl.length cf, .bool has, .slice a2 n2 c2] 31 (0, 0)) ∧ Below w.heap.size w w') (fun _ i _ => 6 - (intOf i).toNat)
  case atStart => exact ⟨0, _, Nat.zero_le _, rfl, rfl, unhide HS, unhide HO, unhide HDB, unhide BW⟩
  case round =>
    clear HS HO HDB BW
    clear w1 w2 W1
    obtain ⟨k, els, hk, rfl, hmap, hS, hI, hD, hw⟩ := hrel
    have hlen : els.length ≤ 7 := by
      have h1 := congrArg List.length hmap
      rw [List.length_map, List.length_cons] at h1
      have := Dk.fileSteps_len F fl k
      omega
    have HM := hide hmap
    have HS := hide hS
    have HI := hide hI
    have HD := hide hD
    have HW := hide hw
    have HLN := hide hlen
    clear hmap hS hI hD hw hlen
    obtain ⟨sa, sc, hsv⟩ := own_formS (unhide HS).own
    subst hsv
    by_cases hlt : k < 6
    · have hkF : k < F.length := by rw [unhide HL6]; exact hlt
      have hkf : k < fl.length := by rw [unhide H6]; exact hlt
      obtain ⟨bF, fc', e, _, hbF⟩ := (unhide HI).form (by omega)
      injection e with e1 _ e2
      subst e1 e2
      obtain ⟨af', cf', e, _, hrf⟩ := unhide HF
      injection e with e1 _ e2
      subst e1 e2
      obtain ⟨bf, of, rfl, hbf, hcf⟩ := hrf (by omega)
      have q1 : wr.cell? ⟨bF, k, none⟩ = some (.int .i64 (Ky.nth F k)) := by
        rw [(unhide HI).cellAt k (by omega), List.getElem?_map, List.getElem?_eq_getElem hkF]
        unfold Ky.nth
        rw [List.getD_eq_getElem?_getD, List.getElem?_eq_getElem hkF]
        rfl
      have q2 := hcf k hkf
      rw [← (unhide HW).cell hbf] at q2
      have q0 : wr.cell? ⟨w.heap.size, 1, none⟩ = some (.slice (some ⟨bf, of, none⟩) fl.length cf) := cellOf (unhide HD) 1
      have hi0 : (0 : Int) ≤ (k : Int) := Int.natCast_nonneg _
      have hi1 : (k : Int) < (F.length : Int) := by omega
      have hi2 : (k : Int) < (fl.length : Int) := by omega
      clear hcf hrf hbf
      cases hne : (Ky.nth F k != Ky.nth fl k)
      · have HE := hide (Dk.fileSteps_eq hne)
        go_wp2_with fail
        go_quiet (fail)
        generalize hwd : World.drewN wr _ = wd
        have hbd : Below wr.heap.size wr wd := by rw [← hwd]; exact below_drewN (Below.refl _ _) _
        clear hwd
        replace HS := hide ((unhide HS).later hbd)
        replace HI := hide (own_later (unhide HI) hbd)
        replace HD := hide ((hbd.block _ (heapLt (unhide HD))).trans (unhide HD))
        replace HW := hide ((unhide HW).trans (hbd.mono (unhide HW).size))
        clear hbd q0 q1 q2
        go_wp2
        go_roundw
        case rel => exact ⟨k + 1, els, by omega, by go_num, by rw [unhide HE]; exact unhide HM, unhide HS, unhide HI, unhide HD, unhide HW⟩
        case measure => simp [intOf]; omega
      · have HE := hide (Dk.fileSteps_ne hne)
        go_wp2_with fail
        go_quiet (fail)
        generalize hwd : World.drewN wr _ = wd
        have hbd : Below wr.heap.size wr wd := by rw [← hwd]; exact below_drewN (Below.refl _ _) _
        clear hwd
        have hbX := below1 wd (.cells #[.int .i64 2, .int .i64 k, .int .i64 (Ky.nth F k), .slice none 0 0] 47)
        have q3 : wd.cell? ⟨bF, k, none⟩ = some (.int .i64 (Ky.nth F k)) := (World.cell?_of_block (hbd.block _ hbF)).trans q1
        have hbb := hbd.trans (hbX.mono hbd.size)
        have HS3 := hide ((unhide HS).later hbb)
        have HI3 := hide (own_later (unhide HI) hbb)
        have HD3 := hide ((hbb.block _ (heapLt (unhide HD))).trans (unhide HD))
        have HW3 := hide ((unhide HW).trans (hbb.mono (unhide HW).size))
        have hsz2 : w.heap.size ≤ wd.heap.size := Nat.le_trans (unhide HW).size hbd.size
        have hel := unhide HLN
        clear HS HI HD HW hbX hbd hbb q0 q1 q2 hbF
        go_wp2_with (at_builtin; refine wpList_append_lies _ rfl _ _ _ rfl w.heap.size 47 i0 _ 4 48 Tryz.underlying35 hI0 hz0 hz1 hz2 rfl (by omega) _ els.length (flatS els) rfl (unhide HS3).own ⟨wd.heap.size, 0, none⟩ 1 1 [.int .i64 2, .int .i64 k, .int .i64 (Ky.nth F k), .slice none 0 0] rfl rfl (World.news_of_block (cs := #[.int .i64 2, .int .i64 k, .int .i64 (Ky.nth F k), .slice none 0 0]) (t := 47) (fr := (0, 0)) (heap_alloc_new _ _)) (by simp [Value.oneCell']) (by omega) (by unfold maxLen; omega) (by omega) (by rw [sz1']; omega) (wd.heap.size + 1) (by rw [sz1']) ?_; intro gg gcap w10 hown hgrow hat hlt10)
        have hst := StO.nil w.heap.size (wd.alloc (.cells #[.int .i64 2, .int .i64 k, .int .i64 (Ky.nth F k), .slice none 0 0] 47)) ⟨2, k, Ky.nth F k, []⟩ rfl
        have HS4 := hide (SOwn.app (m := [(⟨2, (k : Int), Ky.nth F k, []⟩, .slice none 0 0, [])]) (unhide HS3) hgrow hown (fun e he => by rw [List.mem_singleton] at he; rw [he]; exact hst))
        have HB4 := hide (grown_below (B := w.heap.size) (unhide HS3).own hgrow (unhide HW3) (unhide HW3).size)
        have HI4 : Hid (OwI w.heap.size w10 (.slice (some ⟨bF, 0, none⟩) F.length fc) F) := own_keepS (unhide HI3) (fun g _ _ _ hgg => grown_other (unhide HS3).own hgrow hgg (by decide))
        have HD4 : Hid (w10.heap[w.heap.size]? = some (.cells #[.slice a1 n1 c1, .slice (some ⟨bf, of, none⟩) fl.length cf, .bool has, .slice a2 n2 c2] 31 (0, 0))) := (grown_other (unhide HS3).own hgrow (unhide HD3) (by decide)).trans (unhide HD3)
        clear hown hgrow hat hlt10 HS3 HW3 HI3 HD3 hst
        go_roundw
        case rel => exact ⟨k + 1, _, by omega, by go_num, by rw [unhide HE, List.map_append, unhide HM]; rfl, unhide HS4, unhide HI4, unhide HD4, unhide HB4⟩
        case measure => simp [intOf]; omega
    · obtain rfl : k = 6 := by omega
      have hge : ¬ ((6 : Nat) : Int) < (F.length : Int) := by have := unhide HL6; omega
      have CC := hide (l12Copy_any wr _ ps ((unhide HP).later (unhide HW)) (unhide HPS))
      have hsz2 := (unhide HW).size
      clear hlt hk
      go_wp2_with fail
      refine (unhide CC).mono ?_
      rintro e w3 ⟨u, es, rfl, hP, hm, b⟩
      obtain ⟨ua, uc, hu⟩ := own_formS hP.own
      subst hu
      have hbX := below1 w3 (.cells #[.int .i64 3, .int .i64 0, .int .i64 0, .slice ua es.length uc, .int .i64 4, .int .i64 0, .int .i64 0, .slice none 0 0] 47)
      have hbb := b.trans (hbX.mono b.size)
      have hst1 : StO w.heap.size (w3.alloc (.cells #[.int .i64 3, .int .i64 0, .int .i64 0, .slice ua es.length uc, .int .i64 4, .int .i64 0, .int .i64 0, .slice none 0 0] 47)) (⟨3, 0, 0, ps⟩, .slice ua es.length uc, es) := ⟨(hP.base hsz2).later hbX, hm, PAns.smallOf hm (unhide HOK)⟩
      have hst2 := StO.nil w.heap.size (w3.alloc (.cells #[.int .i64 3, .int .i64 0, .int .i64 0, .slice ua es.length uc, .int .i64 4, .int .i64 0, .int .i64 0, .slice none 0 0] 47)) ⟨4, 0, 0, []⟩ rfl
      have HST1 := hide hst1
      have HST2 := hide hst2
      have HS3 := hide ((unhide HS).later hbb)
      have HW3 := hide ((unhide HW).trans (hbb.mono (unhide HW).size))
      have hsz3 : w.heap.size ≤ w3.heap.size := Nat.le_trans hsz2 b.size
      have hel := unhide HLN
      clear HS HI HD HW hbX hbb hP hm b CC hst1 hst2
      go_wp2_with (at_builtin; refine wpList_append_lies _ rfl _ _ _ rfl w.heap.size 47 i0 _ 4 48 Tryz.underlying35 hI0 hz0 hz1 hz2 rfl (by omega) _ els.length (flatS els) rfl (unhide HS3).own ⟨w3.heap.size, 0, none⟩ 2 2 [.int .i64 3, .int .i64 0, .int .i64 0, .slice ua es.length uc, .int .i64 4, .int .i64 0, .int .i64 0, .slice none 0 0] rfl rfl (World.news_of_block (cs := #[.int .i64 3, .int .i64 0, .int .i64 0, .slice ua es.length uc, .int .i64 4, .int .i64 0, .int .i64 0, .slice none 0 0]) (t := 47) (fr := (0, 0)) (heap_alloc_new _ _)) (by simp [Value.oneCell']) (by omega) (by unfold maxLen; omega) (by omega) (by rw [sz1']; omega) (w3.heap.size + 1) (by rw [sz1']) ?_; intro gg gcap w10 hown hgrow hat hlt10)
      have HS4 := hide (SOwn.app (m := [(⟨3, 0, 0, ps⟩, .slice ua es.length uc, es), (⟨4, 0, 0, []⟩, .slice none 0 0, [])]) (unhide HS3) hgrow hown (fun e he => by
        rcases List.mem_cons.1 he with rfl | he
        · exact unhide HST1
        · rw [List.mem_singleton] at he; rw [he]; exact unhide HST2))
      have HB4 := hide (grown_below (B := w.heap.size) (unhide HS3).own hgrow (unhide HW3) (unhide HW3).size)
      clear hown hgrow hat hlt10 HS3 HW3 HST1 HST2
      go_wp2
      go_ret
      exact ⟨_, _, rfl, unhide HS4, by rw [unhide HST, List.map_append, unhide HM]; rfl, unhide HB4⟩

theorem Sts.tail {N : Nat → Prop} {w : World} {a : Option Addr} {c : Nat} {s : Dk.S} {l : List Dk.S} (h : Sts N w (.slice a (l.length + 1) c) (s :: l)) : ∃ b off, a = some ⟨b, off, none⟩ ∧ Sts N w (.slice (some ⟨b, off + 4, none⟩) l.length (c - 1)) l := by
  obtain ⟨a', cap, e, hl, hr⟩ := h
  injection e with e1 e2 e3
  subst e1 e3
  obtain ⟨b, off, ha, hbs, hN, hc⟩ := hr (by simp)
  refine ⟨b, off, ha, ⟨_, _, rfl, by simp only [List.length_cons] at hl; omega, fun _ => ⟨b, off + 4, rfl, hbs, hN, fun i s' hi => ?_⟩⟩⟩
  obtain ⟨pv, h1, h2⟩ := hc (i + 1) s' (by simpa using hi)
  rw [show off + (i + 1) * 4 = off + 4 + i * 4 from by omega] at h1
  exact ⟨pv, h1, h2⟩

end Go.Proofs.YtkhanndmbpemfaaGreatDoor
