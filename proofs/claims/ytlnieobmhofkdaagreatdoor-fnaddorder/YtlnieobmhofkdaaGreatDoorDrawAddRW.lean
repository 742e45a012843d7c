import Derived.Test.YtlnieobmhofkdaaGreatDoorMix41
import Derived.Deep.RegionHeld
import Derived.Test.YtlnieobmhofkdaaGreatDoorMix1
import Derived.Test.YtlnieobmhofkdaaGreatDoorAnyDrawW
/- What spec.DrawStoreAdd returns: trust, packages and a text. -/
namespace Go.Proofs.YtlnieobmhofkdaaGreatDoor
open Go.RowKit
theorem TrS.laterR {B : Nat} {w w' : World} {t : Tr.T} {kv mv v : Value} {s : List Ix.Pg} (h : TrS B w t kv mv v s) (b : Below w.heap.size w w') : TrS B w' t kv mv v s := ⟨h.ks, h.ms, h.sl, own_later h.ok b, own_later h.om b, h.pk.later b⟩
set_option maxHeartbeats 8000000 in
set_option maxRecDepth 100000 in
theorem drawStoreAddR_any (w : World) (a : Option Addr) (len cap : Nat) (h : Bytes w a len cap) :
    Calls Tryz.prog 9 #[.slice a len cap] w fun e w' => ∃ (t : Tr.T) (kv mv v : Value) (s : List Ix.Pg) (tx : ByteArray), e = .returned (.tuple #[tvT t kv mv, v, .string tx]) ∧ TrS w.heap.size w' t kv mv v s ∧ Below w.heap.size w w' ∧ (∃ a c, v = .slice a s.length c ∧ s.length ≤ c) := by
  have BW0 := hide (below1 w (.cells #[.int .i64 0, .slice none 0 0, .int .i64 0, .bool false, .int .i64 0, .int .i64 0, .slice none 0 0] 30))
  have HR := hide (heap_alloc_new w (.cells #[.int .i64 0, .slice none 0 0, .int .i64 0, .bool false, .int .i64 0, .int .i64 0, .slice none 0 0] 30))
  have H := hide (h.later (unhide BW0))
  clear h
  go_enter Tryz.func9, Tryz.ntmps9
  go_wp2_with fail
  refine (open_any _ a len cap (unhide H)).mono ?_
  have hle : w.heap.size ≤ (w.alloc (.cells #[.int .i64 0, .slice none 0 0, .int .i64 0, .bool false, .int .i64 0, .int .i64 0, .slice none 0 0] 30)).heap.size := (unhide BW0).size
  have hrn : w.heap.size < (w.alloc (.cells #[.int .i64 0, .slice none 0 0, .int .i64 0, .bool false, .int .i64 0, .int .i64 0, .slice none 0 0] 30)).heap.size := by rw [sz1']; omega
  generalize w.alloc _ = W0 at *
  obtain ⟨B, hB⟩ : ∃ B, W0.heap.size = B := ⟨_, rfl⟩
  rw [hB] at hle hrn ⊢
  rintro e w1 ⟨rfl, hr, b⟩
  have K : Hid (Kp B B W0 w1) := Kp.of_below b
  have RD := hide hr
  replace HR := hide ((b.block _ (by have := heapLt (unhide HR); omega)).trans (unhide HR))
  have hBl := hr.lt
  have hb1 := b.size
  clear hr b H
  have HBB := hide hB
  clear hB
  go_wp2_with fail
  refine (l71Trust_any _ B 0 (unhide RD) (by have := (unhide K).size; have := unhide HBB; omega) (by omega)).mono ?_
  rintro e w2 ⟨n, d, kv, ks, has, num, til, mv, ms, pv, l, p2, rfl, _, _, _, _, hks, hms, hll, hp2, hdr, hok, hom, hpk⟩
  obtain ⟨ka, kc, hkv⟩ := own_formS hok
  obtain ⟨ma, mc, hmv⟩ := own_formS hom
  subst hkv hmv
  have hk := hdr.kp
  replace HR := hide ((hk.block _ (heapLt (unhide HR)) (by omega)).trans (unhide HR))
  replace K := hide ((unhide K).trans hk (by have := unhide HBB; omega))
  have b3 := below1 w2 (.cells #[.int .i64 n, .slice ka ks.length kc, .int .i64 d, .bool has, .int .i64 num, .int .i64 til, .slice ma ms.length mc] 30)
  replace RD := hide (hdr.rd.later (by have := hk.size; have := unhide HBB; omega) b3)
  have HX := hide (heap_alloc_new w2 (.cells #[.int .i64 n, .slice ka ks.length kc, .int .i64 d, .bool has, .int .i64 num, .int .i64 til, .slice ma ms.length mc] 30))
  have OK := hide (own_later hok b3)
  have OM := hide (own_later hom b3)
  have PK := hide ((hpk.later b3).weak (N' := fun b => B < b) (fun b hb => by omega))
  replace HR := hide ((b3.block _ (heapLt (unhide HR))).trans (unhide HR))
  replace K := hide ((unhide K).trans (Kp.of_below (blk := B) b3) (by have := (unhide K).size; have := unhide HBB; omega))
  have hw1 : B < w1.heap.size := hBl
  have hs2 : w1.heap.size ≤ w2.heap.size := hk.size
  obtain ⟨va, vc, hpv⟩ := (unhide PK).slice
  subst hpv
  clear hdr hok hom hpk hk b3 hBl
  go_wp2_with fail
  refine (l71Any_any _ B p2 (unhide RD) (by have := (unhide K).size; have := unhide HBB; omega) (by omega)).mono ?_
  generalize hXe : w2.heap.size = X at *
  have hXl := heapLt (unhide HX)
  generalize w2.alloc _ = W2 at *
  clear hXe
  rintro e w3 ⟨nm, vr, fv, dv, fs, ds, p3, rfl, hfl, hdl, hp3, of1, od1, hr, hk⟩
  have hs3 := (unhide K).size
  have P1 := hide (Prs.own of1 (by omega))
  have P2 := hide (Prs.own od1 (by omega))
  replace HR := hide ((hk.block _ (heapLt (unhide HR)) (by omega)).trans (unhide HR))
  replace HX := hide ((hk.block _ (heapLt (unhide HX)) (by omega)).trans (unhide HX))
  replace OK := hide (own_keepS (unhide OK) (fun g _ _ hg hx => hk.block g (heapLt hx) (by omega)))
  replace OM := hide (own_keepS (unhide OM) (fun g _ _ hg hx => hk.block g (heapLt hx) (by omega)))
  replace PK := hide ((unhide PK).keep hk.size (fun j hj hn => hk.block j hj (by omega)))
  replace K := hide ((unhide K).trans hk (by have := (unhide K).size; have := unhide HBB; omega))
  replace RD := hide hr
  clear hr hk of1 od1 hXl hs3
  clear W2
  go_wp2_with fail
  refine (pkgText_any _ nm vr fv dv fs ds (unhide P1) (unhide P2)).mono ?_
  rintro e w4 ⟨rfl, b⟩
  replace HR := hide ((b.block _ (heapLt (unhide HR))).trans (unhide HR))
  replace HX := hide ((b.block _ (heapLt (unhide HX))).trans (unhide HX))
  replace OK := hide (own_later (unhide OK) b)
  replace OM := hide (own_later (unhide OM) b)
  replace PK := hide ((unhide PK).later b)
  replace RD := hide ((unhide RD).later (by have := (unhide K).size; have := unhide HBB; omega) b)
  replace K := hide ((unhide K).trans (Kp.of_below (blk := B) b) (by have := (unhide K).size; have := unhide HBB; omega))
  generalize (ByteArray.mk (Pk.text nm vr fs ds).toArray) = tx
  clear b P1 P2
  have FIN : Hid (∀ (W : World) (u : Value) (s' : List Ix.Pg), W.heap[w.heap.size]? = some (.cells #[.int .i64 0, .slice none 0 0, .int .i64 0, .bool false, .int .i64 0, .int .i64 0, .slice none 0 0] 30 (0, 0)) → OwI w1.heap.size W (.slice ka ks.length kc) ks → OwM w1.heap.size W (.slice ma ms.length mc) ms → Pks (fun b => B < b) W u s' → Kp B B W0 W → s'.length ≤ 9 →
      ∀ W', W' = ((((((W.setCell ⟨w.heap.size, 0, none⟩ (.int .i64 n)).setCell ⟨w.heap.size, 1, none⟩ (.slice ka ks.length kc)).setCell ⟨w.heap.size, 2, none⟩ (.int .i64 d)).setCell ⟨w.heap.size, 3, none⟩ (.bool has)).setCell ⟨w.heap.size, 4, none⟩ (.int .i64 num)).setCell ⟨w.heap.size, 5, none⟩ (.int .i64 til)).setCell ⟨w.heap.size, 6, none⟩ (.slice ma ms.length mc) →
        (W'.cell? ⟨w.heap.size, 0, none⟩ = some (.int .i64 n) ∧ W'.cell? ⟨w.heap.size, 1, none⟩ = some (.slice ka ks.length kc) ∧ W'.cell? ⟨w.heap.size, 2, none⟩ = some (.int .i64 d) ∧ W'.cell? ⟨w.heap.size, 3, none⟩ = some (.bool has) ∧ W'.cell? ⟨w.heap.size, 4, none⟩ = some (.int .i64 num) ∧ W'.cell? ⟨w.heap.size, 5, none⟩ = some (.int .i64 til) ∧ W'.cell? ⟨w.heap.size, 6, none⟩ = some (.slice ma ms.length mc)) ∧ TrS w.heap.size W' ⟨n, ks, d, has, num, til, ms⟩ (.slice ka ks.length kc) (.slice ma ms.length mc) u s' ∧ Below w.heap.size w W') := fun W u s' hR hk hm hp hkp hl W' hW' => by
    have hbel : Below w.heap.size w W := (unhide BW0).trans ((hkp.mono hle).below hle)
    obtain ⟨q, ok5, om5, b5, hfar⟩ := finT (W := w) hR (Nat.le_refl _) hbel (own_base' hk (by omega)) (own_base' hm (by omega)) hW'
    exact ⟨q, ⟨hks, hms, hl, ok5, om5, (hp.keep (by rw [hW']; simp only [World.setCell, Array.size_modify]; exact Nat.le_refl _) (fun j _ hj => hfar j (by omega))).weak (fun b hb => by omega)⟩, b5⟩
  by_cases hl0 : 0 < l.length
  · have hl0b : decide ((0 : Int) < (l.length : Int)) = true := decide_eq_true (by omega)
    go_wp2_with fail
    refine (pick_any _ B p3 6 (unhide RD) (by omega) (by omega) (by omega)).mono ?_
    rintro e w5 ⟨v5, rfl, v50, v51, hr, hk⟩
    replace HR := hide ((hk.block _ (heapLt (unhide HR)) (by omega)).trans (unhide HR))
    replace HX := hide ((hk.block _ (heapLt (unhide HX)) (by omega)).trans (unhide HX))
    replace OK := hide (own_keepS (unhide OK) (fun g _ _ hg hx => hk.block g (heapLt hx) (by omega)))
    replace OM := hide (own_keepS (unhide OM) (fun g _ _ hg hx => hk.block g (heapLt hx) (by omega)))
    replace PK := hide ((unhide PK).keep hk.size (fun j hj hn => hk.block j hj (by omega)))
    replace K := hide ((unhide K).trans hk (by have := (unhide K).size; have := unhide HBB; omega))
    replace RD := hide hr
    clear hr hk
    by_cases hv5 : 0 < v5
    · have hv5b : decide (0 < v5) = true := decide_eq_true hv5
      go_wp2_with fail
      refine (pick_any _ B (p3 + 1) (l.length : Int) (unhide RD) (by omega) (by omega) (by omega)).mono ?_
      rintro e w6 ⟨v6, rfl, v60, v61, hr, hk⟩
      replace HR := hide ((hk.block _ (heapLt (unhide HR)) (by omega)).trans (unhide HR))
      replace HX := hide ((hk.block _ (heapLt (unhide HX)) (by omega)).trans (unhide HX))
      replace OK := hide (own_keepS (unhide OK) (fun g _ _ hg hx => hk.block g (heapLt hx) (by omega)))
      replace OM := hide (own_keepS (unhide OM) (fun g _ _ hg hx => hk.block g (heapLt hx) (by omega)))
      replace PK := hide ((unhide PK).keep hk.size (fun j hj hn => hk.block j hj (by omega)))
      replace K := hide ((unhide K).trans hk (by have := (unhide K).size; have := unhide HBB; omega))
      replace RD := hide hr
      clear hr hk
      obtain ⟨i, rfl⟩ : ∃ i : Nat, v6 = (i : Int) := ⟨v6.toNat, by omega⟩
      have hi : i < l.length := by omega
      obtain ⟨a, cap, hva, hlen, hrow⟩ := unhide PK
      obtain ⟨hva1, hva2, hva3⟩ := Value.slice.inj hva
      subst hva1 hva3
      obtain ⟨bb, off, hae, hbb, hN, hc⟩ := hrow (by omega)
      subst hae
      obtain ⟨fv, dv, hAt, hf, hd⟩ := hc i hi
      clear hva hva2 hc hrow hN hbb
      obtain ⟨nm, vr, fs, ds, hpk⟩ : ∃ nm vr fs ds, Ix.pg l i = (nm, vr, fs, ds) := ⟨_, _, _, _, rfl⟩
      rw [hpk] at hAt hf hd
      dsimp only at hf hd
      obtain ⟨c0, c1, c2, c3⟩ := hAt
      dsimp only at c0 c1 c2 c3
      have P1 := hide hf.prs
      have P2 := hide hd.prs
      clear hf hd hpk
      go_wp2_with fail
      refine (pkgText_any _ nm vr fv dv fs ds (unhide P1) (unhide P2)).mono ?_
      rintro e w7 ⟨rfl, b⟩
      replace HR := hide ((b.block _ (heapLt (unhide HR))).trans (unhide HR))
      replace HX := hide ((b.block _ (heapLt (unhide HX))).trans (unhide HX))
      replace OK := hide (own_later (unhide OK) b)
      replace OM := hide (own_later (unhide OM) b)
      replace PK := hide ((unhide PK).later b)
      replace RD := hide ((unhide RD).later (by have := (unhide K).size; have := unhide HBB; omega) b)
      replace K := hide ((unhide K).trans (Kp.of_below (blk := B) b) (by have := (unhide K).size; have := unhide HBB; omega))
      generalize (ByteArray.mk (Pk.text nm vr fs ds).toArray) = tx2
      clear b P1 P2 c0 c1 c2 c3
      have KP := K
      clear K
      go_wp2_with fail
      obtain ⟨x0, x1, x2, x3, x4, x5, x6⟩ : _ ∧ _ ∧ _ ∧ _ ∧ _ ∧ _ ∧ _ := ⟨cellOf (unhide HX) 0, cellOf (unhide HX) 1, cellOf (unhide HX) 2, cellOf (unhide HX) 3, cellOf (unhide HX) 4, cellOf (unhide HX) 5, cellOf (unhide HX) 6⟩
      refine wp_region_held_drew (S := fun w' => w'.cell? ⟨X, 0, none⟩ = some (.int .i64 n) ∧ w'.cell? ⟨X, 1, none⟩ = some (.slice ka ks.length kc) ∧ w'.cell? ⟨X, 2, none⟩ = some (.int .i64 d) ∧ w'.cell? ⟨X, 3, none⟩ = some (.bool has) ∧ w'.cell? ⟨X, 4, none⟩ = some (.int .i64 num) ∧ w'.cell? ⟨X, 5, none⟩ = some (.int .i64 til) ∧ w'.cell? ⟨X, 6, none⟩ = some (.slice ma ms.length mc)) (by kernel_rfl) ⟨x0, x1, x2, x3, x4, x5, x6⟩ (fun hHeld => ?_)
      clear x0 x1 x2 x3 x4 x5 x6
      have hcf : ∀ w', (callFunc 39 #[.pointer (some ⟨B, 0, none⟩), .slice (some ⟨bb, off, none⟩) l.length vc]).run Tryz.prog w' = .ok (.enter 39 #[.pointer (some ⟨B, 0, none⟩), .slice (some ⟨bb, off, none⟩) l.length vc]) w' := by intro w'; kernel_rfl
      refine anyH_at (i := 0) (d := some 35) rfl rfl (by kernel_rfl) (by kernel_rfl) (by kernel_rfl) (fun _ _ _ h => h) (by rfl) (v := ?_) ?_ (by assumption) ?_
      rotate_left
      · (intro w hSw; (try dsimp only at hSw); go_simp <;> with_reducible rfl)
      simp only [Act.put, List.setIfInBounds_toArray, List.set_cons_zero, List.set_cons_succ]
      refine anyH_at (i := 1) (d := some 36) rfl rfl (by kernel_rfl) (by kernel_rfl) (by kernel_rfl) (fun _ _ _ h => h) (by rfl) (v := ?_) ?_ (by assumption) ?_
      rotate_left
      · (intro w hSw; (try dsimp only at hSw); go_simp <;> with_reducible rfl)
      simp only [Act.put, List.setIfInBounds_toArray, List.set_cons_zero, List.set_cons_succ]
      refine anyH_at (i := 2) (d := some 37) rfl rfl (by kernel_rfl) (by kernel_rfl) (by kernel_rfl) (fun _ _ _ h => h) (by rfl) (v := ?_) ?_ (by assumption) ?_
      rotate_left
      · (intro w hSw; (try dsimp only at hSw); go_simp <;> with_reducible rfl)
      simp only [Act.put, List.setIfInBounds_toArray, List.set_cons_zero, List.set_cons_succ]
      refine anyH_at (i := 4) (d := some 39) rfl rfl (by kernel_rfl) (by kernel_rfl) (by kernel_rfl) (fun _ _ _ h => h) (by rfl) (v := ?_) ?_ (by assumption) ?_
      rotate_left
      · (intro w hSw; (try dsimp only at hSw); go_simp <;> with_reducible rfl)
      simp only [Act.put, List.setIfInBounds_toArray, List.set_cons_zero, List.set_cons_succ]
      refine wpAnyH_ready (rs := [3]) (by kernel_rfl) (by simp) ?_
      refine AllReadyH.cons rfl (fun K hK => ?_) AllReadyH.nil
      go_simp
      have b := below_drew w7
      replace HR := hide ((b.block _ (heapLt (unhide HR))).trans (unhide HR))
      replace HX := hide ((b.block _ (heapLt (unhide HX))).trans (unhide HX))
      replace OK := hide (own_later (unhide OK) b)
      replace OM := hide (own_later (unhide OM) b)
      replace PK := hide ((unhide PK).later b)
      replace RD := hide ((unhide RD).later (by have := (unhide KP).size; have := unhide HBB; omega) b)
      replace KP := hide ((unhide KP).trans (Kp.of_below (blk := B) b) (by have := (unhide KP).size; have := unhide HBB; omega))
      clear b hcf
      refine (l71SomeR_any _ B (p3 + 1 + 1) _ l (unhide RD) (by have := (unhide KP).size; have := unhide HBB; omega) (by omega) (unhide PK) hll).mono ?_
      rintro e wS ⟨v3, s, pS, rfl, hsl, hpS, hpk, hr, hk, hrm⟩
      have HRM := hide hrm
      clear hrm
      replace HR := hide ((hk.block _ (heapLt (unhide HR)) (by omega)).trans (unhide HR))
      replace HX := hide ((hk.block _ (heapLt (unhide HX)) (by omega)).trans (unhide HX))
      replace OK := hide (own_keepS (unhide OK) (fun g _ _ hg hx => hk.block g (heapLt hx) (by omega)))
      replace OM := hide (own_keepS (unhide OM) (fun g _ _ hg hx => hk.block g (heapLt hx) (by omega)))
      replace KP := hide ((unhide KP).trans hk (by have := (unhide KP).size; have := unhide HBB; omega))
      replace RD := hide hr
      replace PK := hide hpk
      obtain ⟨sa, sc, hsv⟩ := hpk.slice
      subst hsv
      clear hr hk hpk
      try go_wp2_with fail
      refine hK.out _ _ ?_ (fun hHeldN => ?_)
      · exact ⟨cellOf (unhide HX) 0, cellOf (unhide HX) 1, cellOf (unhide HX) 2, cellOf (unhide HX) 3, cellOf (unhide HX) 4, cellOf (unhide HX) 5, cellOf (unhide HX) 6⟩
      obtain ⟨g0, g1, g2, g3, g4, g5, g6⟩ : _ ∧ _ ∧ _ ∧ _ ∧ _ ∧ _ ∧ _ := ⟨frozenOf (unhide HR) 0, frozenOf (unhide HR) 1, frozenOf (unhide HR) 2, frozenOf (unhide HR) 3, frozenOf (unhide HR) 4, frozenOf (unhide HR) 5, frozenOf (unhide HR) 6⟩
      obtain ⟨r0, r1, r2, r3, r4, r5, r6⟩ : _ ∧ _ ∧ _ ∧ _ ∧ _ ∧ _ ∧ _ := ⟨cellOf (unhide HR) 0, cellOf (unhide HR) 1, cellOf (unhide HR) 2, cellOf (unhide HR) 3, cellOf (unhide HR) 4, cellOf (unhide HR) 5, cellOf (unhide HR) 6⟩
      clear hHeld
      have hHeld := hHeldN
      clear hHeldN
      clear hK K
      try simp only [Act.put, List.setIfInBounds_toArray, List.set_cons_zero, List.set_cons_succ]
      refine wpAnyH_ready (rs := [5]) (by kernel_rfl) (by simp) ?_
      refine AllReadyH.cons rfl (fun K hK => ?_) AllReadyH.nil
      go_simp
      obtain ⟨hR9, hfar9, hsz9, ho9, ht9, hp9⟩ := fin7 (a := .int .i64 n) (b := .slice ka ks.length kc) (c := .int .i64 d) (d := .bool has) (e := .int .i64 num) (f := .int .i64 til) (g := .slice ma ms.length mc) (unhide HR) rfl
      have FF := hide (unhide FIN _ _ s (unhide HR) (unhide OK) (unhide OM) (unhide PK) (unhide KP) (by omega) _ rfl)
      generalize World.setCell _ _ _ = w12 at *
      clear g0 g1 g2 g3 g4 g5 g6 r0 r1 r2 r3 r4 r5 r6 hR9 hsz9 ho9 ht9 hp9
      have hX9 := (hfar9 X (by omega)).trans (unhide HX)
      refine hK.out _ _ ?_ (fun hHeldN => ?_)
      · exact ⟨cellOf hX9 0, cellOf hX9 1, cellOf hX9 2, cellOf hX9 3, cellOf hX9 4, cellOf hX9 5, cellOf hX9 6⟩
      clear hHeld
      have hHeld := hHeldN
      clear hHeldN
      clear hK K
      try simp only [Act.put, List.setIfInBounds_toArray, List.set_cons_zero, List.set_cons_succ]
      refine anyH_at (i := 6) (d := some 3) rfl rfl (by kernel_rfl) (by kernel_rfl) (by kernel_rfl) (fun _ _ _ h => h) (by rfl) (v := ?_) ?_ (by assumption) ?_
      rotate_left
      · (intro w hSw; (try dsimp only at hSw); go_simp <;> with_reducible rfl)
      simp only [Act.put, List.setIfInBounds_toArray, List.set_cons_zero, List.set_cons_succ]
      refine anyH_at (i := 7) (d := some 4) rfl rfl (by kernel_rfl) (by kernel_rfl) (by kernel_rfl) (fun _ _ _ h => h) (by rfl) (v := ?_) ?_ (by assumption) ?_
      rotate_left
      · (intro w hSw; (try dsimp only at hSw); go_simp <;> with_reducible rfl)
      simp only [Act.put, List.setIfInBounds_toArray, List.set_cons_zero, List.set_cons_succ]
      refine wpAnyH_done (by kernel_rfl) ?_ _
      obtain ⟨⟨q0, q1, q2, q3, q4, q5, q6⟩, hT, hB⟩ := unhide FF
      go_wp2
      exact bodyPost_ret (v := .tuple #[.agg #[.int .i64 n, .slice ka ks.length kc, .int .i64 d, .bool has, .int .i64 num, .int .i64 til, .slice ma ms.length mc], .slice sa s.length sc, .string tx2]) (by simp [results, Tryz.results9, go_sem, q0, q1, q2, q3, q4, q5, q6]) rfl ⟨⟨n, ks, d, has, num, til, ms⟩, _, _, _, s, tx2, rfl, hT, hB, unhide HRM⟩
    · have hv5b : decide (0 < v5) = false := decide_eq_false hv5
      have KP := K
      clear K
      go_wp2_with fail
      obtain ⟨x0, x1, x2, x3, x4, x5, x6⟩ : _ ∧ _ ∧ _ ∧ _ ∧ _ ∧ _ ∧ _ := ⟨cellOf (unhide HX) 0, cellOf (unhide HX) 1, cellOf (unhide HX) 2, cellOf (unhide HX) 3, cellOf (unhide HX) 4, cellOf (unhide HX) 5, cellOf (unhide HX) 6⟩
      refine wp_region_held_drew (S := fun w' => w'.cell? ⟨X, 0, none⟩ = some (.int .i64 n) ∧ w'.cell? ⟨X, 1, none⟩ = some (.slice ka ks.length kc) ∧ w'.cell? ⟨X, 2, none⟩ = some (.int .i64 d) ∧ w'.cell? ⟨X, 3, none⟩ = some (.bool has) ∧ w'.cell? ⟨X, 4, none⟩ = some (.int .i64 num) ∧ w'.cell? ⟨X, 5, none⟩ = some (.int .i64 til) ∧ w'.cell? ⟨X, 6, none⟩ = some (.slice ma ms.length mc)) (by kernel_rfl) ⟨x0, x1, x2, x3, x4, x5, x6⟩ (fun hHeld => ?_)
      clear x0 x1 x2 x3 x4 x5 x6
      have hcf : ∀ w', (callFunc 39 #[.pointer (some ⟨B, 0, none⟩), .slice va l.length vc]).run Tryz.prog w' = .ok (.enter 39 #[.pointer (some ⟨B, 0, none⟩), .slice va l.length vc]) w' := by intro w'; kernel_rfl
      refine anyH_at (i := 0) (d := some 35) rfl rfl (by kernel_rfl) (by kernel_rfl) (by kernel_rfl) (fun _ _ _ h => h) (by rfl) (v := ?_) ?_ (by assumption) ?_
      rotate_left
      · (intro w hSw; (try dsimp only at hSw); go_simp <;> with_reducible rfl)
      simp only [Act.put, List.setIfInBounds_toArray, List.set_cons_zero, List.set_cons_succ]
      refine anyH_at (i := 1) (d := some 36) rfl rfl (by kernel_rfl) (by kernel_rfl) (by kernel_rfl) (fun _ _ _ h => h) (by rfl) (v := ?_) ?_ (by assumption) ?_
      rotate_left
      · (intro w hSw; (try dsimp only at hSw); go_simp <;> with_reducible rfl)
      simp only [Act.put, List.setIfInBounds_toArray, List.set_cons_zero, List.set_cons_succ]
      refine anyH_at (i := 2) (d := some 37) rfl rfl (by kernel_rfl) (by kernel_rfl) (by kernel_rfl) (fun _ _ _ h => h) (by rfl) (v := ?_) ?_ (by assumption) ?_
      rotate_left
      · (intro w hSw; (try dsimp only at hSw); go_simp <;> with_reducible rfl)
      simp only [Act.put, List.setIfInBounds_toArray, List.set_cons_zero, List.set_cons_succ]
      refine anyH_at (i := 4) (d := some 39) rfl rfl (by kernel_rfl) (by kernel_rfl) (by kernel_rfl) (fun _ _ _ h => h) (by rfl) (v := ?_) ?_ (by assumption) ?_
      rotate_left
      · (intro w hSw; (try dsimp only at hSw); go_simp <;> with_reducible rfl)
      simp only [Act.put, List.setIfInBounds_toArray, List.set_cons_zero, List.set_cons_succ]
      refine wpAnyH_ready (rs := [3]) (by kernel_rfl) (by simp) ?_
      refine AllReadyH.cons rfl (fun K hK => ?_) AllReadyH.nil
      go_simp
      have b := below_drew w5
      replace HR := hide ((b.block _ (heapLt (unhide HR))).trans (unhide HR))
      replace HX := hide ((b.block _ (heapLt (unhide HX))).trans (unhide HX))
      replace OK := hide (own_later (unhide OK) b)
      replace OM := hide (own_later (unhide OM) b)
      replace PK := hide ((unhide PK).later b)
      replace RD := hide ((unhide RD).later (by have := (unhide KP).size; have := unhide HBB; omega) b)
      replace KP := hide ((unhide KP).trans (Kp.of_below (blk := B) b) (by have := (unhide KP).size; have := unhide HBB; omega))
      clear b hcf
      refine (l71SomeR_any _ B (p3 + 1) _ l (unhide RD) (by have := (unhide KP).size; have := unhide HBB; omega) (by omega) (unhide PK) hll).mono ?_
      rintro e wS ⟨v3, s, pS, rfl, hsl, hpS, hpk, hr, hk, hrm⟩
      have HRM := hide hrm
      clear hrm
      replace HR := hide ((hk.block _ (heapLt (unhide HR)) (by omega)).trans (unhide HR))
      replace HX := hide ((hk.block _ (heapLt (unhide HX)) (by omega)).trans (unhide HX))
      replace OK := hide (own_keepS (unhide OK) (fun g _ _ hg hx => hk.block g (heapLt hx) (by omega)))
      replace OM := hide (own_keepS (unhide OM) (fun g _ _ hg hx => hk.block g (heapLt hx) (by omega)))
      replace KP := hide ((unhide KP).trans hk (by have := (unhide KP).size; have := unhide HBB; omega))
      replace RD := hide hr
      replace PK := hide hpk
      obtain ⟨sa, sc, hsv⟩ := hpk.slice
      subst hsv
      clear hr hk hpk
      try go_wp2_with fail
      refine hK.out _ _ ?_ (fun hHeldN => ?_)
      · exact ⟨cellOf (unhide HX) 0, cellOf (unhide HX) 1, cellOf (unhide HX) 2, cellOf (unhide HX) 3, cellOf (unhide HX) 4, cellOf (unhide HX) 5, cellOf (unhide HX) 6⟩
      obtain ⟨g0, g1, g2, g3, g4, g5, g6⟩ : _ ∧ _ ∧ _ ∧ _ ∧ _ ∧ _ ∧ _ := ⟨frozenOf (unhide HR) 0, frozenOf (unhide HR) 1, frozenOf (unhide HR) 2, frozenOf (unhide HR) 3, frozenOf (unhide HR) 4, frozenOf (unhide HR) 5, frozenOf (unhide HR) 6⟩
      obtain ⟨r0, r1, r2, r3, r4, r5, r6⟩ : _ ∧ _ ∧ _ ∧ _ ∧ _ ∧ _ ∧ _ := ⟨cellOf (unhide HR) 0, cellOf (unhide HR) 1, cellOf (unhide HR) 2, cellOf (unhide HR) 3, cellOf (unhide HR) 4, cellOf (unhide HR) 5, cellOf (unhide HR) 6⟩
      clear hHeld
      have hHeld := hHeldN
      clear hHeldN
      clear hK K
      try simp only [Act.put, List.setIfInBounds_toArray, List.set_cons_zero, List.set_cons_succ]
      refine wpAnyH_ready (rs := [5]) (by kernel_rfl) (by simp) ?_
      refine AllReadyH.cons rfl (fun K hK => ?_) AllReadyH.nil
      go_simp
      obtain ⟨hR9, hfar9, hsz9, ho9, ht9, hp9⟩ := fin7 (a := .int .i64 n) (b := .slice ka ks.length kc) (c := .int .i64 d) (d := .bool has) (e := .int .i64 num) (f := .int .i64 til) (g := .slice ma ms.length mc) (unhide HR) rfl
      have FF := hide (unhide FIN _ _ s (unhide HR) (unhide OK) (unhide OM) (unhide PK) (unhide KP) (by omega) _ rfl)
      generalize World.setCell _ _ _ = w12 at *
      clear g0 g1 g2 g3 g4 g5 g6 r0 r1 r2 r3 r4 r5 r6 hR9 hsz9 ho9 ht9 hp9
      have hX9 := (hfar9 X (by omega)).trans (unhide HX)
      refine hK.out _ _ ?_ (fun hHeldN => ?_)
      · exact ⟨cellOf hX9 0, cellOf hX9 1, cellOf hX9 2, cellOf hX9 3, cellOf hX9 4, cellOf hX9 5, cellOf hX9 6⟩
      clear hHeld
      have hHeld := hHeldN
      clear hHeldN
      clear hK K
      try simp only [Act.put, List.setIfInBounds_toArray, List.set_cons_zero, List.set_cons_succ]
      refine anyH_at (i := 6) (d := some 3) rfl rfl (by kernel_rfl) (by kernel_rfl) (by kernel_rfl) (fun _ _ _ h => h) (by rfl) (v := ?_) ?_ (by assumption) ?_
      rotate_left
      · (intro w hSw; (try dsimp only at hSw); go_simp <;> with_reducible rfl)
      simp only [Act.put, List.setIfInBounds_toArray, List.set_cons_zero, List.set_cons_succ]
      refine anyH_at (i := 7) (d := some 4) rfl rfl (by kernel_rfl) (by kernel_rfl) (by kernel_rfl) (fun _ _ _ h => h) (by rfl) (v := ?_) ?_ (by assumption) ?_
      rotate_left
      · (intro w hSw; (try dsimp only at hSw); go_simp <;> with_reducible rfl)
      simp only [Act.put, List.setIfInBounds_toArray, List.set_cons_zero, List.set_cons_succ]
      refine wpAnyH_done (by kernel_rfl) ?_ _
      obtain ⟨⟨q0, q1, q2, q3, q4, q5, q6⟩, hT, hB⟩ := unhide FF
      go_wp2
      exact bodyPost_ret (v := .tuple #[.agg #[.int .i64 n, .slice ka ks.length kc, .int .i64 d, .bool has, .int .i64 num, .int .i64 til, .slice ma ms.length mc], .slice sa s.length sc, .string tx]) (by simp [results, Tryz.results9, go_sem, q0, q1, q2, q3, q4, q5, q6]) rfl ⟨⟨n, ks, d, has, num, til, ms⟩, _, _, _, s, tx, rfl, hT, hB, unhide HRM⟩
  · have hl0b : decide ((0 : Int) < (l.length : Int)) = false := decide_eq_false (by omega)
    have KP := K
    clear K
    go_wp2_with fail
    obtain ⟨x0, x1, x2, x3, x4, x5, x6⟩ : _ ∧ _ ∧ _ ∧ _ ∧ _ ∧ _ ∧ _ := ⟨cellOf (unhide HX) 0, cellOf (unhide HX) 1, cellOf (unhide HX) 2, cellOf (unhide HX) 3, cellOf (unhide HX) 4, cellOf (unhide HX) 5, cellOf (unhide HX) 6⟩
    refine wp_region_held_drew (S := fun w' => w'.cell? ⟨X, 0, none⟩ = some (.int .i64 n) ∧ w'.cell? ⟨X, 1, none⟩ = some (.slice ka ks.length kc) ∧ w'.cell? ⟨X, 2, none⟩ = some (.int .i64 d) ∧ w'.cell? ⟨X, 3, none⟩ = some (.bool has) ∧ w'.cell? ⟨X, 4, none⟩ = some (.int .i64 num) ∧ w'.cell? ⟨X, 5, none⟩ = some (.int .i64 til) ∧ w'.cell? ⟨X, 6, none⟩ = some (.slice ma ms.length mc)) (by kernel_rfl) ⟨x0, x1, x2, x3, x4, x5, x6⟩ (fun hHeld => ?_)
    clear x0 x1 x2 x3 x4 x5 x6
    have hcf : ∀ w', (callFunc 39 #[.pointer (some ⟨B, 0, none⟩), .slice va l.length vc]).run Tryz.prog w' = .ok (.enter 39 #[.pointer (some ⟨B, 0, none⟩), .slice va l.length vc]) w' := by intro w'; kernel_rfl
    refine anyH_at (i := 0) (d := some 35) rfl rfl (by kernel_rfl) (by kernel_rfl) (by kernel_rfl) (fun _ _ _ h => h) (by rfl) (v := ?_) ?_ (by assumption) ?_
    rotate_left
    · (intro w hSw; (try dsimp only at hSw); go_simp <;> with_reducible rfl)
    simp only [Act.put, List.setIfInBounds_toArray, List.set_cons_zero, List.set_cons_succ]
    refine anyH_at (i := 1) (d := some 36) rfl rfl (by kernel_rfl) (by kernel_rfl) (by kernel_rfl) (fun _ _ _ h => h) (by rfl) (v := ?_) ?_ (by assumption) ?_
    rotate_left
    · (intro w hSw; (try dsimp only at hSw); go_simp <;> with_reducible rfl)
    simp only [Act.put, List.setIfInBounds_toArray, List.set_cons_zero, List.set_cons_succ]
    refine anyH_at (i := 2) (d := some 37) rfl rfl (by kernel_rfl) (by kernel_rfl) (by kernel_rfl) (fun _ _ _ h => h) (by rfl) (v := ?_) ?_ (by assumption) ?_
    rotate_left
    · (intro w hSw; (try dsimp only at hSw); go_simp <;> with_reducible rfl)
    simp only [Act.put, List.setIfInBounds_toArray, List.set_cons_zero, List.set_cons_succ]
    refine anyH_at (i := 4) (d := some 39) rfl rfl (by kernel_rfl) (by kernel_rfl) (by kernel_rfl) (fun _ _ _ h => h) (by rfl) (v := ?_) ?_ (by assumption) ?_
    rotate_left
    · (intro w hSw; (try dsimp only at hSw); go_simp <;> with_reducible rfl)
    simp only [Act.put, List.setIfInBounds_toArray, List.set_cons_zero, List.set_cons_succ]
    refine wpAnyH_ready (rs := [3]) (by kernel_rfl) (by simp) ?_
    refine AllReadyH.cons rfl (fun K hK => ?_) AllReadyH.nil
    go_simp
    have b := below_drew w4
    replace HR := hide ((b.block _ (heapLt (unhide HR))).trans (unhide HR))
    replace HX := hide ((b.block _ (heapLt (unhide HX))).trans (unhide HX))
    replace OK := hide (own_later (unhide OK) b)
    replace OM := hide (own_later (unhide OM) b)
    replace PK := hide ((unhide PK).later b)
    replace RD := hide ((unhide RD).later (by have := (unhide KP).size; have := unhide HBB; omega) b)
    replace KP := hide ((unhide KP).trans (Kp.of_below (blk := B) b) (by have := (unhide KP).size; have := unhide HBB; omega))
    clear b hcf
    refine (l71SomeR_any _ B (p3) _ l (unhide RD) (by have := (unhide KP).size; have := unhide HBB; omega) (by omega) (unhide PK) hll).mono ?_
    rintro e wS ⟨v3, s, pS, rfl, hsl, hpS, hpk, hr, hk, hrm⟩
    have HRM := hide hrm
    clear hrm
    replace HR := hide ((hk.block _ (heapLt (unhide HR)) (by omega)).trans (unhide HR))
    replace HX := hide ((hk.block _ (heapLt (unhide HX)) (by omega)).trans (unhide HX))
    replace OK := hide (own_keepS (unhide OK) (fun g _ _ hg hx => hk.block g (heapLt hx) (by omega)))
    replace OM := hide (own_keepS (unhide OM) (fun g _ _ hg hx => hk.block g (heapLt hx) (by omega)))
    replace KP := hide ((unhide KP).trans hk (by have := (unhide KP).size; have := unhide HBB; omega))
    replace RD := hide hr
    replace PK := hide hpk
    obtain ⟨sa, sc, hsv⟩ := hpk.slice
    subst hsv
    clear hr hk hpk
    try go_wp2_with fail
    refine hK.out _ _ ?_ (fun hHeldN => ?_)
    · exact ⟨cellOf (unhide HX) 0, cellOf (unhide HX) 1, cellOf (unhide HX) 2, cellOf (unhide HX) 3, cellOf (unhide HX) 4, cellOf (unhide HX) 5, cellOf (unhide HX) 6⟩
    obtain ⟨g0, g1, g2, g3, g4, g5, g6⟩ : _ ∧ _ ∧ _ ∧ _ ∧ _ ∧ _ ∧ _ := ⟨frozenOf (unhide HR) 0, frozenOf (unhide HR) 1, frozenOf (unhide HR) 2, frozenOf (unhide HR) 3, frozenOf (unhide HR) 4, frozenOf (unhide HR) 5, frozenOf (unhide HR) 6⟩
    obtain ⟨r0, r1, r2, r3, r4, r5, r6⟩ : _ ∧ _ ∧ _ ∧ _ ∧ _ ∧ _ ∧ _ := ⟨cellOf (unhide HR) 0, cellOf (unhide HR) 1, cellOf (unhide HR) 2, cellOf (unhide HR) 3, cellOf (unhide HR) 4, cellOf (unhide HR) 5, cellOf (unhide HR) 6⟩
    clear hHeld
    have hHeld := hHeldN
    clear hHeldN
    clear hK K
    try simp only [Act.put, List.setIfInBounds_toArray, List.set_cons_zero, List.set_cons_succ]
    refine wpAnyH_ready (rs := [5]) (by kernel_rfl) (by simp) ?_
    refine AllReadyH.cons rfl (fun K hK => ?_) AllReadyH.nil
    go_simp
    obtain ⟨hR9, hfar9, hsz9, ho9, ht9, hp9⟩ := fin7 (a := .int .i64 n) (b := .slice ka ks.length kc) (c := .int .i64 d) (d := .bool has) (e := .int .i64 num) (f := .int .i64 til) (g := .slice ma ms.length mc) (unhide HR) rfl
    have FF := hide (unhide FIN _ _ s (unhide HR) (unhide OK) (unhide OM) (unhide PK) (unhide KP) (by omega) _ rfl)
    generalize World.setCell _ _ _ = w12 at *
    clear g0 g1 g2 g3 g4 g5 g6 r0 r1 r2 r3 r4 r5 r6 hR9 hsz9 ho9 ht9 hp9
    have hX9 := (hfar9 X (by omega)).trans (unhide HX)
    refine hK.out _ _ ?_ (fun hHeldN => ?_)
    · exact ⟨cellOf hX9 0, cellOf hX9 1, cellOf hX9 2, cellOf hX9 3, cellOf hX9 4, cellOf hX9 5, cellOf hX9 6⟩
    clear hHeld
    have hHeld := hHeldN
    clear hHeldN
    clear hK K
    try simp only [Act.put, List.setIfInBounds_toArray, List.set_cons_zero, List.set_cons_succ]
    refine anyH_at (i := 6) (d := some 3) rfl rfl (by kernel_rfl) (by kernel_rfl) (by kernel_rfl) (fun _ _ _ h => h) (by rfl) (v := ?_) ?_ (by assumption) ?_
    rotate_left
    · (intro w hSw; (try dsimp only at hSw); go_simp <;> with_reducible rfl)
    simp only [Act.put, List.setIfInBounds_toArray, List.set_cons_zero, List.set_cons_succ]
    refine anyH_at (i := 7) (d := some 4) rfl rfl (by kernel_rfl) (by kernel_rfl) (by kernel_rfl) (fun _ _ _ h => h) (by rfl) (v := ?_) ?_ (by assumption) ?_
    rotate_left
    · (intro w hSw; (try dsimp only at hSw); go_simp <;> with_reducible rfl)
    simp only [Act.put, List.setIfInBounds_toArray, List.set_cons_zero, List.set_cons_succ]
    refine wpAnyH_done (by kernel_rfl) ?_ _
    obtain ⟨⟨q0, q1, q2, q3, q4, q5, q6⟩, hT, hB⟩ := unhide FF
    go_wp2
    exact bodyPost_ret (v := .tuple #[.agg #[.int .i64 n, .slice ka ks.length kc, .int .i64 d, .bool has, .int .i64 num, .int .i64 til, .slice ma ms.length mc], .slice sa s.length sc, .string tx]) (by simp [results, Tryz.results9, go_sem, q0, q1, q2, q3, q4, q5, q6]) rfl ⟨⟨n, ks, d, has, num, til, ms⟩, _, _, _, s, tx, rfl, hT, hB, unhide HRM⟩
end Go.Proofs.YtlnieobmhofkdaaGreatDoor
