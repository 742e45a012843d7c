import Derived.Test.YtjehpeojdcaklaaGreatDoorIndexDrawW
import Derived.Test.YtjehpeojdcaklaaGreatDoorMixI
import Derived.Test.YtjehpeojdcaklaaGreatDoorMixK
import Derived.Test.YtjehpeojdcaklaaGreatDoorMixL
import Derived.Test.YtjehpeojdcaklaaGreatDoorAnyDrawW
import Derived.Test.YtjehpeojdcaklaaGreatDoorMixD
import Derived.Deep.RegionLaw
/- What spec.DrawIndexHas returns: an index, its row made since, and a text. Nothing old is written. -/
namespace Go.Proofs.YtjehpeojdcaklaaGreatDoor
open Go.RowKit

theorem fourD (w : World) (a b c d : ByteArray) : ∀ i, i < 4 → (w.alloc (.cells #[.string a, .string b, .string c, .string d] 9)).drew.cell? ⟨w.heap.size, 0 + i, none⟩ = some (.string (#[a, b, c, d].getD i ⟨#[]⟩)) := by
  intro i hi
  show (w.alloc _).cell? _ = _
  rw [World.cell?_alloc_new]
  match i, hi with
  | 0, _ => rfl
  | 1, _ => rfl
  | 2, _ => rfl
  | 3, _ => rfl
  | n + 4, h => omega
theorem four_len (i : Nat) (hi : i < 4) : (#[(⟨#[48]⟩ : ByteArray), ⟨#[49]⟩, ⟨#[98]⟩, ⟨#[32]⟩].getD i ⟨#[]⟩).size ≤ 1 := by
  match i, hi with
  | 0, _ => decide
  | 1, _ => decide
  | 2, _ => decide
  | 3, _ => decide
  | n + 4, h => omega

set_option maxHeartbeats 4000000 in
set_option maxRecDepth 100000 in
theorem drawHas_any (w : World) (a : Option Addr) (len cap : Nat) (h : Bytes w a len cap) :
    Calls Tryz.prog 16 #[.slice a len cap] w fun e w' => ∃ (num til : Int) (ma : Option Addr) (mc : Nat) (ms : List Ix.M) (s : ByteArray), e = .returned (.tuple #[.agg #[.int .i64 num, .int .i64 til, .slice ma ms.length mc], .string s]) ∧ ms.length ≤ 9 ∧ w'.ownsRow w.heap.size 47 3 (.slice ma ms.length mc) ms.length (flat3 ms) ∧ s.size ≤ 40 ∧ Below w.heap.size w w' := by
  have BW0 := hide (below1 w (.cells #[.int .i64 0, .int .i64 0, .slice none 0 0] 28))
  have HR := hide (heap_alloc_new w (.cells #[.int .i64 0, .int .i64 0, .slice none 0 0] 28))
  have H := hide (h.later (unhide BW0))
  clear h
  go_enter Tryz.func16, Tryz.ntmps16
  go_wp2_with fail
  refine (open_any _ a len cap (unhide H)).mono ?_
  have hle : w.heap.size ≤ (w.alloc (.cells #[.int .i64 0, .int .i64 0, .slice none 0 0] 28)).heap.size := (unhide BW0).size
  have hrn : w.heap.size ≠ (w.alloc (.cells #[.int .i64 0, .int .i64 0, .slice none 0 0] 28)).heap.size := by rw [sz1]; omega
  generalize w.alloc _ = W0 at *
  obtain ⟨B, hB⟩ : ∃ B, W0.heap.size = B := ⟨_, rfl⟩
  rw [hB] at hle hrn ⊢
  rintro e w1 ⟨rfl, hr, b⟩
  have hBl := hr.lt
  have K : Hid (Kp B B W0 w1) := Kp.of_below b
  have RD := hide hr
  replace HR := hide ((b.block _ (by have := heapLt (unhide HR); omega)).trans (unhide HR))
  clear hr b H
  have HBB := hide hB
  clear hB
  go_wp2_with fail
  refine (l71Pkgs_ok _ B 0 (unhide RD) (by have := (unhide K).size; have := unhide HBB; omega) (by omega)).mono ?_
  rintro e w2 ⟨pv, els, p2, rfl, ho, hpo, hel, hp2, hr, hk⟩
  have hs1 := (unhide K).size
  replace HR := hide ((hk.block _ (heapLt (unhide HR)) (by omega)).trans (unhide HR))
  replace K := hide ((unhide K).trans hk (by have := (unhide K).size; have := unhide HBB; omega))
  replace RD := hide hr
  obtain ⟨l, hl⟩ : ∃ l, els.map (·.1) = l := ⟨_, rfl⟩
  have hll : l.length ≤ 7 := by rw [← hl, List.length_map]; exact hel
  have hpk : Pks (fun b => w1.heap.size ≤ b) w2 pv l := by rw [← hl]; exact POwn.pks (POwn.weak ho (fun b hb => hb.1)) (fun b hb => hb) (by omega)
  obtain ⟨pa, pc, hv⟩ := hpk.slice
  subst hv
  have PK := hide hpk
  rw [hl] at hpo
  have HPO := hide hpo
  clear hr hk ho hpo hel hl hpk
  clear els
  go_wp2_with fail
  refine (indexOf_any _ 1 5 _ l (unhide PK)).mono ?_
  have hs2 := (unhide K).size
  have hB2 := (unhide RD).lt
  rintro e w3 ⟨mv, rfl, ho, b⟩
  replace HR := hide ((b.block _ (heapLt (unhide HR))).trans (unhide HR))
  replace K := hide ((unhide K).trans (Kp.of_below (blk := B) b) (by have := (unhide K).size; have := unhide HBB; omega))
  replace PK := hide ((unhide PK).later b)
  replace RD := hide ((unhide RD).later (Nat.le_of_lt (unhide RD).lt) b)
  clear b
  have hml := Ix.ofD_le8 (num := 1) (til := 5) (l := l) (by omega)
  generalize Ix.ofD 1 5 l = d at *
  obtain ⟨x0, x1, ms⟩ := d
  dsimp only at ho hml ⊢
  obtain ⟨fa, fc, rfl⟩ := own_formS ho
  have bx := below1 w3 (.cells #[.int .i64 x0, .int .i64 x1, .slice fa ms.length fc] 28)
  have hXl := (unhide RD).lt
  have OM := hide (own_later ho bx)
  have HX := hide (heap_alloc_new w3 (.cells #[.int .i64 x0, .int .i64 x1, .slice fa ms.length fc] 28))
  replace HR := hide ((bx.block _ (heapLt (unhide HR))).trans (unhide HR))
  replace K := hide ((unhide K).trans (Kp.of_below (blk := B) bx) (by have := (unhide K).size; have := unhide HBB; omega))
  replace PK := hide ((unhide PK).later bx)
  replace RD := hide ((unhide RD).later (Nat.le_of_lt (unhide RD).lt) bx)
  clear bx ho
  have hw2 : w.heap.size ≤ w2.heap.size := by have := unhide HBB; omega
  have hw3 : w.heap.size ≠ w3.heap.size := by have := unhide HBB; omega
  by_cases hl0 : l.length = 0
  · have e1 : ((l.length : Int) == 0) = true := by rw [beq_iff_eq]; omega
    clear hl0
    have hsA := (unhide K).size
    have hblA := (unhide RD).lt
    go_wp2_with fail
    refine (l71Index_any _ B p2 (unhide RD) (by have := unhide HBB; omega) (by omega)).mono ?_
    generalize hQ : w3.heap.size = X at *
    generalize w3.alloc _ = W3 at *
    clear hQ
    rintro e wa ⟨num, til, mv2, ns, pa2, rfl, _, _, _, _, hnl, hpa, hdr, hon⟩
    have hk := hdr.kp
    replace HR := hide ((hk.block _ (heapLt (unhide HR)) (by omega)).trans (unhide HR))
    replace K := hide ((unhide K).trans hk (by have := (unhide K).size; have := unhide HBB; omega))
    replace RD := hide hdr.rd
    obtain ⟨na, nc, hv⟩ := own_formS hon
    subst hv
    have hbl := (unhide RD).lt
    have ON := hide hon
    have hsB := (unhide K).size
    clear hdr hk hon
    go_wp2_with fail
    refine (l71Any_any _ B pa2 (unhide RD) (by have := unhide HBB; omega) (by omega)).mono ?_
    rintro e wb ⟨nm, vr, fv, dv, fs, ds, pb, rfl, fl, dl, hpb, of1, od1, hr, hk⟩
    replace HR := hide ((hk.block _ (heapLt (unhide HR)) (by omega)).trans (unhide HR))
    replace K := hide ((unhide K).trans hk (by have := (unhide K).size; have := unhide HBB; omega))
    replace ON := hide (own_keepS (unhide ON) (fun g _ _ hg hgg => hk.block g (heapLt hgg) (by omega)))
    have P1 := hide (Prs.own of1 (by omega))
    have P2 := hide (Prs.own od1 (by omega))
    clear hr hk of1 od1 RD
    go_wp2_with fail
    refine (pkgText_any _ nm vr fv dv fs ds (unhide P1) (unhide P2)).mono ?_
    rintro e wc ⟨rfl, b⟩
    replace HR := hide ((b.block _ (heapLt (unhide HR))).trans (unhide HR))
    replace K := hide ((unhide K).trans (Kp.of_below (blk := B) b) (by have := (unhide K).size; have := unhide HBB; omega))
    replace ON := hide (own_later (unhide ON) b)
    clear b P1 P2
    obtain ⟨⟨r0, s0⟩, ⟨r1, s1⟩, r2, s2⟩ : (_ ∧ _) ∧ (_ ∧ _) ∧ _ ∧ _ := ⟨⟨cellOf (unhide HR) 0, frozenOf (unhide HR) 0⟩, ⟨cellOf (unhide HR) 1, frozenOf (unhide HR) 1⟩, cellOf (unhide HR) 2, frozenOf (unhide HR) 2⟩
    obtain ⟨s, hs⟩ : ∃ s : ByteArray, (⟨(Pk.text nm vr fs ds).toArray⟩ : ByteArray) = s := ⟨_, rfl⟩
    have hs30 : s.size ≤ 30 := by rw [← hs]; exact text_le16 nm vr fs ds
    rw [hs]
    clear hs
    go_wp2_with fail
    obtain ⟨⟨q0, q1, q2⟩, hbel, hfar⟩ := fin3 (W := w) (a := .int .i64 num) (b := .int .i64 til) (c := .slice na ns.length nc) (unhide HR) (Nat.le_refl _) ((unhide BW0).trans (((unhide K).mono hle).below hle)) rfl
    exact bodyPost_ret (v := .tuple #[.agg #[.int .i64 num, .int .i64 til, .slice na ns.length nc], .string s]) (by simp [results, Tryz.results16, go_sem, q0, q1, q2]) rfl ⟨_, _, _, _, ns, _, rfl, by omega, own_keepS (own_base (B' := w.heap.size) (unhide ON) (by have := unhide HBB; omega)) (fun g cur _ _ hg => hfar g (fun e => by rw [e] at hg; rw [unhide HR] at hg; injection hg with hg; injection hg with _ hg _; exact absurd hg (by decide))), by first | omega | exact text_le16 _ _ _ _, hbel⟩
  have e1 : ((l.length : Int) == 0) = false := by rw [beq_eq_false_iff_ne]; omega
  have hl1 : 0 < l.length := by omega
  clear hl0
  go_wp2_with fail
  refine (pick_any _ B p2 8 (unhide RD) (by omega) (by omega) (by omega)).mono ?_
  generalize hQ : w3.heap.size = X at *
  generalize w3.alloc _ = W3 at *
  clear hQ
  rintro e w4 ⟨v4, rfl, v40, v41, hr, hk⟩
  replace HR := hide ((hk.block _ (heapLt (unhide HR)) (by omega)).trans (unhide HR))
  replace K := hide ((unhide K).trans hk (by have := (unhide K).size; have := unhide HBB; omega))
  replace PK := hide ((unhide PK).kp hk hBl)
  replace OM := hide (own_keepS (unhide OM) (fun g _ _ hg hgg => hk.block g (heapLt hgg) (by omega)))
  replace HX := hide ((hk.block _ (heapLt (unhide HX)) (by omega)).trans (unhide HX))
  replace RD := hide hr
  clear hr hk
  by_cases hv4 : v4 = 0
  · subst hv4
    have hsA := (unhide K).size
    have hblA := (unhide RD).lt
    go_wp2_with fail
    refine (l71Index_any _ B (p2 + 1) (unhide RD) (by have := unhide HBB; omega) (by omega)).mono ?_
    rintro e wa ⟨num, til, mv2, ns, pa2, rfl, _, _, _, _, hnl, hpa, hdr, hon⟩
    have hk := hdr.kp
    replace HR := hide ((hk.block _ (heapLt (unhide HR)) (by omega)).trans (unhide HR))
    replace K := hide ((unhide K).trans hk (by have := (unhide K).size; have := unhide HBB; omega))
    replace RD := hide hdr.rd
    obtain ⟨na, nc, hv⟩ := own_formS hon
    subst hv
    have hbl := (unhide RD).lt
    have ON := hide hon
    have hsB := (unhide K).size
    clear hdr hk hon
    go_wp2_with fail
    refine (l71Any_any _ B pa2 (unhide RD) (by have := unhide HBB; omega) (by omega)).mono ?_
    rintro e wb ⟨nm, vr, fv, dv, fs, ds, pb, rfl, fl, dl, hpb, of1, od1, hr, hk⟩
    replace HR := hide ((hk.block _ (heapLt (unhide HR)) (by omega)).trans (unhide HR))
    replace K := hide ((unhide K).trans hk (by have := (unhide K).size; have := unhide HBB; omega))
    replace ON := hide (own_keepS (unhide ON) (fun g _ _ hg hgg => hk.block g (heapLt hgg) (by omega)))
    have P1 := hide (Prs.own of1 (by omega))
    have P2 := hide (Prs.own od1 (by omega))
    clear hr hk of1 od1 RD
    go_wp2_with fail
    refine (pkgText_any _ nm vr fv dv fs ds (unhide P1) (unhide P2)).mono ?_
    rintro e wc ⟨rfl, b⟩
    replace HR := hide ((b.block _ (heapLt (unhide HR))).trans (unhide HR))
    replace K := hide ((unhide K).trans (Kp.of_below (blk := B) b) (by have := (unhide K).size; have := unhide HBB; omega))
    replace ON := hide (own_later (unhide ON) b)
    clear b P1 P2
    obtain ⟨⟨r0, s0⟩, ⟨r1, s1⟩, r2, s2⟩ : (_ ∧ _) ∧ (_ ∧ _) ∧ _ ∧ _ := ⟨⟨cellOf (unhide HR) 0, frozenOf (unhide HR) 0⟩, ⟨cellOf (unhide HR) 1, frozenOf (unhide HR) 1⟩, cellOf (unhide HR) 2, frozenOf (unhide HR) 2⟩
    obtain ⟨s, hs⟩ : ∃ s : ByteArray, (⟨(Pk.text nm vr fs ds).toArray⟩ : ByteArray) = s := ⟨_, rfl⟩
    have hs30 : s.size ≤ 30 := by rw [← hs]; exact text_le16 nm vr fs ds
    rw [hs]
    clear hs
    go_wp2_with fail
    obtain ⟨⟨q0, q1, q2⟩, hbel, hfar⟩ := fin3 (W := w) (a := .int .i64 num) (b := .int .i64 til) (c := .slice na ns.length nc) (unhide HR) (Nat.le_refl _) ((unhide BW0).trans (((unhide K).mono hle).below hle)) rfl
    exact bodyPost_ret (v := .tuple #[.agg #[.int .i64 num, .int .i64 til, .slice na ns.length nc], .string s]) (by simp [results, Tryz.results16, go_sem, q0, q1, q2]) rfl ⟨_, _, _, _, ns, _, rfl, by omega, own_keepS (own_base (B' := w.heap.size) (unhide ON) (by have := unhide HBB; omega)) (fun g cur _ _ hg => hfar g (fun e => by rw [e] at hg; rw [unhide HR] at hg; injection hg with hg; injection hg with _ hg _; exact absurd hg (by decide))), by first | omega | exact text_le16 _ _ _ _, hbel⟩
  have hv4b : (v4 == 0) = false := by simp [hv4]
  clear hv4
  go_wp2_with fail
  refine (pick_any _ B (p2 + 1) l.length (unhide RD) (by omega) (by omega) (by omega)).mono ?_
  rintro e w5 ⟨v5, rfl, v50, v51, hr, hk⟩
  replace HR := hide ((hk.block _ (heapLt (unhide HR)) (by omega)).trans (unhide HR))
  replace K := hide ((unhide K).trans hk (by have := (unhide K).size; have := unhide HBB; omega))
  replace PK := hide ((unhide PK).kp hk hBl)
  replace OM := hide (own_keepS (unhide OM) (fun g _ _ hg hgg => hk.block g (heapLt hgg) (by omega)))
  replace HX := hide ((hk.block _ (heapLt (unhide HX)) (by omega)).trans (unhide HX))
  replace RD := hide hr
  clear hr hk
  obtain ⟨k, rfl⟩ := Int.eq_ofNat_of_zero_le v50
  have hlt : k < l.length := by omega
  obtain ⟨_, _, e2, hlen, hrow⟩ := unhide PK
  injection e2 with e2 _ e3
  subst e2 e3
  obtain ⟨bk, off, rfl, hbs, _, hc⟩ := hrow (by omega)
  obtain ⟨fv, dv, hAt, hf, hd⟩ := hc k hlt
  have hok := Ix.pkgsOk_at (unhide HPO) k hlt
  unfold Ix.pkgGood at hok
  rw [Bool.and_eq_true] at hok
  replace hok := hok.1
  clear hc hrow
  obtain ⟨nm, vr, fs, ds, hpk⟩ : ∃ nm vr fs ds, Ix.pg l k = (nm, vr, fs, ds) := ⟨_, _, _, _, rfl⟩
  rw [hpk] at hAt hf hd hok
  dsimp only at hf hd
  obtain ⟨fa', fc', rfl⟩ := hf.slice
  obtain ⟨da', dc', rfl⟩ := hd.slice
  have HF := hide (And.intro hf.prs hd.prs)
  obtain ⟨c0, c1, c2, c3⟩ := hAt
  dsimp only at c0 c1
  have htx : (Pk.text nm vr fs ds).length ≤ 30 := Pk.text_le30 hok
  have htn : 0 < (Pk.text nm vr fs ds).length := by
    rcases Nat.eq_zero_or_pos (Pk.text nm vr fs ds).length with h | h
    · have := Pk.text_nil.1 (List.length_eq_zero_iff.1 h)
      have h2 : Pk.pkgOk nm vr fs ds = true := hok
      rw [this] at h2
      cases h2
    · exact h
  obtain ⟨s, hs⟩ : ∃ s : ByteArray, (⟨(Pk.text nm vr fs ds).toArray⟩ : ByteArray) = s := ⟨_, rfl⟩
  have hs30 : s.size ≤ 30 := by rw [← hs]; exact htx
  have hs1' : 0 < s.size := by rw [← hs]; exact htn
  have HS := hide hs
  clear hs hf hd hok hpk htx htn
  clear PK
  go_wp2_with fail
  refine (pkgText_any _ nm vr _ _ fs ds (unhide HF).1 (unhide HF).2).mono ?_
  rw [unhide HS]
  rintro e w6 ⟨rfl, b⟩
  replace HR := hide ((b.block _ (heapLt (unhide HR))).trans (unhide HR))
  replace K := hide ((unhide K).trans (Kp.of_below (blk := B) b) (by have := (unhide K).size; have := unhide HBB; omega))
  replace OM := hide (own_later (unhide OM) b)
  replace HX := hide ((b.block _ (heapLt (unhide HX))).trans (unhide HX))
  replace RD := hide ((unhide RD).later (Nat.le_of_lt (unhide RD).lt) b)
  clear b c0 c1 c2 c3 HF
  go_wp2_with fail
  refine (pick_any _ B (p2 + 1 + 1) 4 (unhide RD) (by omega) (by omega) (by omega)).mono ?_
  rintro e w7 ⟨v7, rfl, v70, v71, hr, hk⟩
  replace HR := hide ((hk.block _ (heapLt (unhide HR)) (by omega)).trans (unhide HR))
  replace K := hide ((unhide K).trans hk (by have := (unhide K).size; have := unhide HBB; omega))
  replace OM := hide (own_keepS (unhide OM) (fun g _ _ hg hgg => hk.block g (heapLt hgg) (by omega)))
  replace HX := hide ((hk.block _ (heapLt (unhide HX)) (by omega)).trans (unhide HX))
  replace RD := hide hr
  clear hr hk
  by_cases hv7 : v7 = 0
  rotate_left
  · have hv7b : (v7 == 0) = false := by simp [hv7]
    clear hv7
    obtain ⟨⟨r0, s0⟩, ⟨r1, s1⟩, r2, s2⟩ : (_ ∧ _) ∧ (_ ∧ _) ∧ _ ∧ _ := ⟨⟨cellOf (unhide HR) 0, frozenOf (unhide HR) 0⟩, ⟨cellOf (unhide HR) 1, frozenOf (unhide HR) 1⟩, cellOf (unhide HR) 2, frozenOf (unhide HR) 2⟩
    obtain ⟨y0, y1, y2⟩ : _ ∧ _ ∧ _ := ⟨cellOf (unhide HX) 0, cellOf (unhide HX) 1, cellOf (unhide HX) 2⟩
    go_wp2_with fail
    obtain ⟨⟨q0, q1, q2⟩, hbel, hfar⟩ := fin3 (W := w) (a := .int .i64 x0) (b := .int .i64 x1) (c := .slice fa ms.length fc) (unhide HR) (Nat.le_refl _) ((unhide BW0).trans (((unhide K).mono hle).below hle)) rfl
    exact bodyPost_ret (v := .tuple #[.agg #[.int .i64 x0, .int .i64 x1, .slice fa ms.length fc], .string s]) (by simp [results, Tryz.results16, go_sem, q0, q1, q2]) rfl ⟨_, _, _, _, ms, _, rfl, by omega, own_keepS (own_base (B' := w.heap.size) (unhide OM) hw2) (fun g cur _ _ hg => hfar g (fun e => by rw [e] at hg; rw [unhide HR] at hg; injection hg with hg; injection hg with _ hg _; exact absurd hg (by decide))), by first | omega | exact text_le16 _ _ _ _, hbel⟩
  subst hv7
  go_wp2_with fail
  refine (pick_any _ B (p2 + 1 + 1 + 1) (s.size : Nat) (unhide RD) (by omega) (by omega) (by omega)).mono ?_
  rintro e w8 ⟨v8, rfl, v80, v81, hr, hk⟩
  replace HR := hide ((hk.block _ (heapLt (unhide HR)) (by omega)).trans (unhide HR))
  replace K := hide ((unhide K).trans hk (by have := (unhide K).size; have := unhide HBB; omega))
  replace OM := hide (own_keepS (unhide OM) (fun g _ _ hg hgg => hk.block g (heapLt hgg) (by omega)))
  replace HX := hide ((hk.block _ (heapLt (unhide HX)) (by omega)).trans (unhide HX))
  replace RD := hide hr
  clear hr hk
  obtain ⟨n8, rfl⟩ := Int.eq_ofNat_of_zero_le v80
  have hn8 : n8 ≤ s.size := by omega
  have hn9 : n8 + 1 ≤ s.size := by omega
  have hsB := (unhide K).size
  have hi1 : (n8 : Int) ≤ (s.size : Int) := by omega
  have hi2 : (n8 : Int) + 1 ≤ (s.size : Int) := by omega
  have hi3 : (0 : Int) ≤ (n8 : Int) + 1 := by omega
  have ew : IntKind.i64.wrap ((n8 : Int) + 1) = (n8 : Int) + 1 := by simp [IntKind.wrap, IntKind.bits, IntKind.signed]; omega
  have et : ((n8 : Int) + 1).toNat = n8 + 1 := by omega
  have hex : (s.extract 0 n8).size ≤ 30 := by rw [ByteArray.size_extract]; omega
  have hex2 : (s.extract (n8 + 1) s.size).size ≤ 30 := by rw [ByteArray.size_extract]; omega
  have HRa : Hid (∀ o, Rd B (w8.alloc o).drew B (p2 + 1 + 1 + 1 + 1)) := fun o => (unhide RD).later (Nat.le_of_lt (unhide RD).lt) (((Below.refl _ _).alloc (Nat.le_refl _) _).drew)
  have hB8 := (unhide RD).lt
  go_wp2_with fail
  go_region_law (go_simp; go_at_call 45; refine (of_any _ B (p2 + 1 + 1 + 1 + 1) w8.heap.size 0 4 4 (fun i => #[(⟨#[48]⟩ : ByteArray), ⟨#[49]⟩, ⟨#[98]⟩, ⟨#[32]⟩].getD i ⟨#[]⟩) (by exact (unhide HRa) _) (by omega) (by omega) (by omega) (by omega) (by omega) (by exact fourD _ _ _ _ _)).mono ?_; rintro e wd ⟨i, hi, rfl, hr8, hk8⟩; have hlen8 := four_len i hi; generalize Array.getD _ i _ = t8 at *; have hc1 : ¬ 9223372036854775807 < n8 + t8.size := (by omega); have hc2 : ¬ 9223372036854775807 < n8 + t8.size + (s.size - (n8 + 1)) := (by omega); dsimp only)
  all_goals
    have hk9 : Kp w8.heap.size B w8 wd := (Kp.of_below (blk := B) (((Below.refl w8.heap.size w8).alloc (Nat.le_refl _) _).drew)).trans hk8 (by show _ ≤ (World.alloc _ _).heap.size; rw [sz1]; exact Nat.le_succ _)
    replace HR := hide ((hk9.block _ (heapLt (unhide HR)) (by omega)).trans (unhide HR))
    replace K := hide ((unhide K).trans hk9 (by have := (unhide K).size; have := unhide HBB; omega))
    replace OM := hide (own_keepS (unhide OM) (fun g _ _ hg hgg => hk9.block g (heapLt hgg) (by omega)))
    replace HX := hide ((hk9.block _ (heapLt (unhide HX)) (by omega)).trans (unhide HX))
    have hsz9 : ((s.extract 0 n8 ++ t8) ++ s.extract (n8 + 1) s.size).size ≤ 40 := by
      rw [ByteArray.size_append, ByteArray.size_append, ByteArray.size_extract, ByteArray.size_extract]
      omega
    obtain ⟨s9, hs9⟩ : ∃ s9, ((s.extract 0 n8 ++ t8) ++ s.extract (n8 + 1) s.size) = s9 := ⟨_, rfl⟩
    rw [hs9] at hsz9 ⊢
    clear hr8 hk8 hk9 hs9 HRa
    obtain ⟨⟨r0, s0⟩, ⟨r1, s1⟩, r2, s2⟩ : (_ ∧ _) ∧ (_ ∧ _) ∧ _ ∧ _ := ⟨⟨cellOf (unhide HR) 0, frozenOf (unhide HR) 0⟩, ⟨cellOf (unhide HR) 1, frozenOf (unhide HR) 1⟩, cellOf (unhide HR) 2, frozenOf (unhide HR) 2⟩
    obtain ⟨y0, y1, y2⟩ : _ ∧ _ ∧ _ := ⟨cellOf (unhide HX) 0, cellOf (unhide HX) 1, cellOf (unhide HX) 2⟩
    go_wp2_with fail
    obtain ⟨⟨q0, q1, q2⟩, hbel, hfar⟩ := fin3 (W := w) (a := .int .i64 x0) (b := .int .i64 x1) (c := .slice fa ms.length fc) (unhide HR) (Nat.le_refl _) ((unhide BW0).trans (((unhide K).mono hle).below hle)) rfl
    exact bodyPost_ret (v := .tuple #[.agg #[.int .i64 x0, .int .i64 x1, .slice fa ms.length fc], .string s9]) (by simp [results, Tryz.results16, go_sem, q0, q1, q2]) rfl ⟨_, _, _, _, ms, _, rfl, by omega, own_keepS (own_base (B' := w.heap.size) (unhide OM) hw2) (fun g cur _ _ hg => hfar g (fun e => by rw [e] at hg; rw [unhide HR] at hg; injection hg with hg; injection hg with _ hg _; exact absurd hg (by decide))), by first | omega | exact text_le16 _ _ _ _, hbel⟩
end Go.Proofs.YtjehpeojdcaklaaGreatDoor
