import Derived.Test.YtlnieobmhofkdaaGreatDoorMix19
import Derived.Test.YtlnieobmhofkdaaGreatDoorMix21
import Derived.Test.YtlnieobmhofkdaaGreatDoorMix4
/- What spec.DrawStoreTrim returns: trust and packages. -/
namespace Go.Proofs.YtlnieobmhofkdaaGreatDoor
open Go.RowKit

/-- Trust that is drawn, and packages. -/
structure TrS (B : Nat) (w : World) (t : Tr.T) (kv mv v : Value) (s : List Ix.Pg) : Prop where
  ks : t.ks.length ≤ 7
  ms : t.ms.length ≤ 9
  sl : s.length ≤ 9
  ok : OwI B w kv t.ks
  om : OwM B w mv t.ms
  pk : Pks (fun b => B ≤ b) w v s

set_option maxHeartbeats 8000000 in
set_option maxRecDepth 100000 in
theorem drawStoreTrim_any (w : World) (a : Option Addr) (len cap : Nat) (h : Bytes w a len cap) :
    Calls Tryz.prog 58 #[.slice a len cap] w fun e w' => ∃ (t : Tr.T) (kv mv v : Value) (s : List Ix.Pg), e = .returned (.tuple #[tvT t kv mv, v]) ∧ TrS w.heap.size w' t kv mv v s ∧ Below w.heap.size w w' := by
  have BW0 := hide (below1 w (.cells #[.int .i64 0, .slice none 0 0, .int .i64 0, .bool false, .int .i64 0, .int .i64 0, .slice none 0 0] 30))
  have HR := hide (heap_alloc_new w (.cells #[.int .i64 0, .slice none 0 0, .int .i64 0, .bool false, .int .i64 0, .int .i64 0, .slice none 0 0] 30))
  have H := hide (h.later (unhide BW0))
  clear h
  go_enter Tryz.func58, Tryz.ntmps58
  go_wp2_with fail
  refine (open_any _ a len cap (unhide H)).mono ?_
  have hle : w.heap.size ≤ (w.alloc (.cells #[.int .i64 0, .slice none 0 0, .int .i64 0, .bool false, .int .i64 0, .int .i64 0, .slice none 0 0] 30)).heap.size := (unhide BW0).size
  have hrn : w.heap.size < (w.alloc (.cells #[.int .i64 0, .slice none 0 0, .int .i64 0, .bool false, .int .i64 0, .int .i64 0, .slice none 0 0] 30)).heap.size := by rw [sz1']; omega
  generalize w.alloc _ = W0 at *
  obtain ⟨B, hB⟩ : ∃ B, W0.heap.size = B := ⟨_, rfl⟩
  rw [hB] at hle hrn ⊢
  rintro e w1 ⟨rfl, hr, b⟩
  have K : Hid (Kp B B W0 w1) := Kp.of_below b
  have RD := hide hr
  replace HR := hide ((b.block _ (by have := heapLt (unhide HR); omega)).trans (unhide HR))
  have hBl := hr.lt
  have hb1 := b.size
  clear hr b H
  have HBB := hide hB
  clear hB
  go_wp2_with fail
  refine (l71Trust_any _ B 0 (unhide RD) (by have := (unhide K).size; have := unhide HBB; omega) (by omega)).mono ?_
  rintro e w2 ⟨n, d, kv, ks, has, num, til, mv, ms, pv, l, p2, rfl, _, _, _, _, hks, hms, hll, hp2, hdr, hok, hom, hpk⟩
  obtain ⟨ka, kc, hkv⟩ := own_formS hok
  obtain ⟨ma, mc, hmv⟩ := own_formS hom
  subst hkv hmv
  have hk := hdr.kp
  replace HR := hide ((hk.block _ (heapLt (unhide HR)) (by omega)).trans (unhide HR))
  replace K := hide ((unhide K).trans hk (by have := unhide HBB; omega))
  have b3 := below1 w2 (.cells #[.int .i64 n, .slice ka ks.length kc, .int .i64 d, .bool has, .int .i64 num, .int .i64 til, .slice ma ms.length mc] 30)
  replace RD := hide (hdr.rd.later (by have := hk.size; have := unhide HBB; omega) b3)
  have HX := hide (heap_alloc_new w2 (.cells #[.int .i64 n, .slice ka ks.length kc, .int .i64 d, .bool has, .int .i64 num, .int .i64 til, .slice ma ms.length mc] 30))
  have OK := hide (own_later hok b3)
  have OM := hide (own_later hom b3)
  have PK := hide ((hpk.later b3).weak (N' := fun b => B < b) (fun b hb => by omega))
  replace HR := hide ((b3.block _ (heapLt (unhide HR))).trans (unhide HR))
  replace K := hide ((unhide K).trans (Kp.of_below (blk := B) b3) (by have := (unhide K).size; have := unhide HBB; omega))
  have hw1 : B < w1.heap.size := hBl
  have hs2 : w1.heap.size ≤ w2.heap.size := hk.size
  obtain ⟨va, vc, hpv⟩ := (unhide PK).slice
  subst hpv
  clear hdr hok hom hpk hk b3 hBl
  go_wp2_with fail
  refine (l71Some_any _ B p2 _ l (unhide RD) (by have := (unhide K).size; have := unhide HBB; omega) (by omega) (unhide PK) hll).mono ?_
  generalize hXe : w2.heap.size = X at *
  have hXl := heapLt (unhide HX)
  generalize w2.alloc _ = W2 at *
  clear hXe
  rintro e w3 ⟨v3, s, p3, rfl, hsl, hp3, hpk, hr, hk⟩
  replace HR := hide ((hk.block _ (heapLt (unhide HR)) (by omega)).trans (unhide HR))
  replace HX := hide ((hk.block _ (heapLt (unhide HX)) (by omega)).trans (unhide HX))
  replace OK := hide (own_keepS (unhide OK) (fun g _ _ hg hx => hk.block g (heapLt hx) (by omega)))
  replace OM := hide (own_keepS (unhide OM) (fun g _ _ hg hx => hk.block g (heapLt hx) (by omega)))
  replace K := hide ((unhide K).trans hk (by have := (unhide K).size; have := unhide HBB; omega))
  replace RD := hide hr
  replace PK := hide hpk
  obtain ⟨sa, sc, hsv⟩ := hpk.slice
  subst hsv
  clear hr hk hpk hXl
  clear W2
  go_wp2_with fail
  refine (pick_any _ B p3 2 (unhide RD) (by omega) (by omega) (by omega)).mono ?_
  rintro e w4 ⟨v4, rfl, v40, v41, hr, hk⟩
  replace HR := hide ((hk.block _ (heapLt (unhide HR)) (by omega)).trans (unhide HR))
  replace HX := hide ((hk.block _ (heapLt (unhide HX)) (by omega)).trans (unhide HX))
  replace OK := hide (own_keepS (unhide OK) (fun g _ _ hg hx => hk.block g (heapLt hx) (by omega)))
  replace OM := hide (own_keepS (unhide OM) (fun g _ _ hg hx => hk.block g (heapLt hx) (by omega)))
  replace PK := hide ((unhide PK).keep hk.size (fun j hj hn => hk.block j hj (by omega)))
  replace K := hide ((unhide K).trans hk (by have := (unhide K).size; have := unhide HBB; omega))
  replace RD := hide hr
  clear hr hk
  have FIN : Hid (∀ (W : World) (u : Value) (s' : List Ix.Pg), W.heap[w.heap.size]? = some (.cells #[.int .i64 0, .slice none 0 0, .int .i64 0, .bool false, .int .i64 0, .int .i64 0, .slice none 0 0] 30 (0, 0)) → OwI w1.heap.size W (.slice ka ks.length kc) ks → OwM w1.heap.size W (.slice ma ms.length mc) ms → Pks (fun b => B < b) W u s' → Kp B B W0 W → s'.length ≤ 9 →
      ∀ W', W' = ((((((W.setCell ⟨w.heap.size, 0, none⟩ (.int .i64 n)).setCell ⟨w.heap.size, 1, none⟩ (.slice ka ks.length kc)).setCell ⟨w.heap.size, 2, none⟩ (.int .i64 d)).setCell ⟨w.heap.size, 3, none⟩ (.bool has)).setCell ⟨w.heap.size, 4, none⟩ (.int .i64 num)).setCell ⟨w.heap.size, 5, none⟩ (.int .i64 til)).setCell ⟨w.heap.size, 6, none⟩ (.slice ma ms.length mc) →
        (W'.cell? ⟨w.heap.size, 0, none⟩ = some (.int .i64 n) ∧ W'.cell? ⟨w.heap.size, 1, none⟩ = some (.slice ka ks.length kc) ∧ W'.cell? ⟨w.heap.size, 2, none⟩ = some (.int .i64 d) ∧ W'.cell? ⟨w.heap.size, 3, none⟩ = some (.bool has) ∧ W'.cell? ⟨w.heap.size, 4, none⟩ = some (.int .i64 num) ∧ W'.cell? ⟨w.heap.size, 5, none⟩ = some (.int .i64 til) ∧ W'.cell? ⟨w.heap.size, 6, none⟩ = some (.slice ma ms.length mc)) ∧ TrS w.heap.size W' ⟨n, ks, d, has, num, til, ms⟩ (.slice ka ks.length kc) (.slice ma ms.length mc) u s' ∧ Below w.heap.size w W') := fun W u s' hR hk hm hp hkp hl W' hW' => by
    have hbel : Below w.heap.size w W := (unhide BW0).trans ((hkp.mono hle).below hle)
    obtain ⟨q, ok5, om5, b5, hfar⟩ := finT (W := w) hR (Nat.le_refl _) hbel (own_base' hk (by omega)) (own_base' hm (by omega)) hW'
    exact ⟨q, ⟨hks, hms, hl, ok5, om5, (hp.keep (by rw [hW']; simp only [World.setCell, Array.size_modify]; exact Nat.le_refl _) (fun j _ hj => hfar j (by omega))).weak (fun b hb => by omega)⟩, b5⟩
  by_cases hv4 : v4 = 0
  · subst hv4
    go_wp2_with fail
    refine (pick_any _ B (p3 + 1) 4 (unhide RD) (by omega) (by omega) (by omega)).mono ?_
    rintro e w5 ⟨v5, rfl, v50, v51, hr, hk⟩
    replace HR := hide ((hk.block _ (heapLt (unhide HR)) (by omega)).trans (unhide HR))
    replace HX := hide ((hk.block _ (heapLt (unhide HX)) (by omega)).trans (unhide HX))
    replace OK := hide (own_keepS (unhide OK) (fun g _ _ hg hx => hk.block g (heapLt hx) (by omega)))
    replace OM := hide (own_keepS (unhide OM) (fun g _ _ hg hx => hk.block g (heapLt hx) (by omega)))
    replace PK := hide ((unhide PK).keep hk.size (fun j hj hn => hk.block j hj (by omega)))
    replace K := hide ((unhide K).trans hk (by have := (unhide K).size; have := unhide HBB; omega))
    replace RD := hide hr
    clear hr hk
    have e5 : IntKind.i64.wrap (1 + v5) = 1 + v5 := wrap_small v50 (by omega)
    go_wp2_with fail
    refine (pick_any _ B (p3 + 1 + 1) 4 (unhide RD) (by omega) (by omega) (by omega)).mono ?_
    rintro e w6 ⟨v6, rfl, v60, v61, hr, hk⟩
    replace HR := hide ((hk.block _ (heapLt (unhide HR)) (by omega)).trans (unhide HR))
    replace HX := hide ((hk.block _ (heapLt (unhide HX)) (by omega)).trans (unhide HX))
    replace OK := hide (own_keepS (unhide OK) (fun g _ _ hg hx => hk.block g (heapLt hx) (by omega)))
    replace OM := hide (own_keepS (unhide OM) (fun g _ _ hg hx => hk.block g (heapLt hx) (by omega)))
    replace PK := hide ((unhide PK).keep hk.size (fun j hj hn => hk.block j hj (by omega)))
    replace K := hide ((unhide K).trans hk (by have := (unhide K).size; have := unhide HBB; omega))
    replace RD := hide hr
    clear hr hk
    have e6 : IntKind.i64.wrap (1 + v6) = 1 + v6 := wrap_small v60 (by omega)
    have hs6 := (unhide K).size
    go_wp2_with fail
    refine (l71Pkg_any _ B (p3 + 1 + 1 + 1) (1 + v5) (1 + v6) (unhide RD) (by have := unhide HBB; omega) (by omega)).mono ?_
    rintro e w7 ⟨fv, dv, fs, ds, p7, rfl, hfl, hdl, hp7, of1, od1, hr, hk⟩
    obtain ⟨fa, fc, hfv⟩ := own_formS of1
    obtain ⟨da, dc, hdv⟩ := own_formS od1
    subst hfv hdv
    have b7 := below1 w7 (.cells #[.int .i64 (1 + v5), .int .i64 (1 + v6), .slice fa fs.length fc, .slice da ds.length dc] 42)
    have hBw6 := (unhide RD).lt
    have HF := hide ((PrsN.own of1 (N := fun b => B < b) (by omega) (fun b hb => by omega)).keep b7.size (fun j hj _ => b7.block j hj))
    have HD := hide ((PrsN.own od1 (N := fun b => B < b) (by omega) (fun b hb => by omega)).keep b7.size (fun j hj _ => b7.block j hj))
    have HY := hide (heap_alloc_new w7 (.cells #[.int .i64 (1 + v5), .int .i64 (1 + v6), .slice fa fs.length fc, .slice da ds.length dc] 42))
    have hk2 := hk.trans (Kp.of_below (blk := B) b7) hk.size
    replace HR := hide ((hk2.block _ (heapLt (unhide HR)) (by omega)).trans (unhide HR))
    replace HX := hide ((hk2.block _ (heapLt (unhide HX)) (by omega)).trans (unhide HX))
    replace OK := hide (own_keepS (unhide OK) (fun g _ _ hg hx => hk2.block g (heapLt hx) (by omega)))
    replace OM := hide (own_keepS (unhide OM) (fun g _ _ hg hx => hk2.block g (heapLt hx) (by omega)))
    replace PK := hide ((unhide PK).keep hk2.size (fun j hj hn => hk2.block j hj (by omega)))
    replace K := hide ((unhide K).trans hk2 (by have := (unhide K).size; have := unhide HBB; omega))
    have hBY : B < w7.heap.size := Nat.lt_of_lt_of_le hBw6 hk.size
    clear hr hk of1 od1 b7 hk2 RD
    have hy := unhide HY
    obtain ⟨y0, y1, y2, y3⟩ : _ ∧ _ ∧ _ ∧ _ := ⟨cellOf hy 0, cellOf hy 1, cellOf hy 2, cellOf hy 3⟩
    clear hy
    go_wp2_with fail
    refine (l12Find_any _ _ s (1 + v5) (1 + v6) (unhide PK)).mono ?_
    generalize hYe : w7.heap.size = Y at *
    have hYl := heapLt (unhide HY)
    generalize w7.alloc _ = W7 at *
    clear hYe
    rintro e w8 ⟨rfl, r, rfl, hrr⟩
    by_cases hr0 : r < 0
    · clear hrr
      go_wp2_with fail
      refine (l3Pkgs_any _ _ s (unhide PK)).mono ?_
      rintro e w9 ⟨rfl, b⟩
      replace HR := hide ((b.block _ (heapLt (unhide HR))).trans (unhide HR))
      replace HX := hide ((b.block _ (heapLt (unhide HX))).trans (unhide HX))
      replace OK := hide (own_later (unhide OK) b)
      replace OM := hide (own_later (unhide OM) b)
      replace PK := hide ((unhide PK).later b)
      replace K := hide ((unhide K).trans (Kp.of_below (blk := B) b) (by have := (unhide K).size; have := unhide HBB; omega))
      replace HF := hide ((unhide HF).later b)
      replace HD := hide ((unhide HD).later b)
      replace HY := hide ((b.block _ (heapLt (unhide HY))).trans (unhide HY))
      clear b y0 y1 y2 y3
      cases hok : Ix.pkgsOk s
      · obtain ⟨⟨x0, g0⟩, ⟨x1, g1⟩, ⟨x2, g2⟩, ⟨x3, g3⟩, ⟨x4, g4⟩, ⟨x5, g5⟩, x6, g6⟩ : (_ ∧ _) ∧ (_ ∧ _) ∧ (_ ∧ _) ∧ (_ ∧ _) ∧ (_ ∧ _) ∧ (_ ∧ _) ∧ _ ∧ _ := ⟨⟨cellOf (unhide HX) 0, frozenOf (unhide HR) 0⟩, ⟨cellOf (unhide HX) 1, frozenOf (unhide HR) 1⟩, ⟨cellOf (unhide HX) 2, frozenOf (unhide HR) 2⟩, ⟨cellOf (unhide HX) 3, frozenOf (unhide HR) 3⟩, ⟨cellOf (unhide HX) 4, frozenOf (unhide HR) 4⟩, ⟨cellOf (unhide HX) 5, frozenOf (unhide HR) 5⟩, cellOf (unhide HX) 6, frozenOf (unhide HR) 6⟩
        obtain ⟨r0, r1, r2, r3, r4, r5, r6⟩ : _ ∧ _ ∧ _ ∧ _ ∧ _ ∧ _ ∧ _ := ⟨cellOf (unhide HR) 0, cellOf (unhide HR) 1, cellOf (unhide HR) 2, cellOf (unhide HR) 3, cellOf (unhide HR) 4, cellOf (unhide HR) 5, cellOf (unhide HR) 6⟩
        go_wp2
        obtain ⟨⟨q0, q1, q2, q3, q4, q5, q6⟩, hT, hB⟩ := unhide FIN _ _ s (unhide HR) (unhide OK) (unhide OM) (unhide PK) (unhide K) (by omega) _ rfl
        exact bodyPost_ret (v := .tuple #[.agg #[.int .i64 n, .slice ka ks.length kc, .int .i64 d, .bool has, .int .i64 num, .int .i64 til, .slice ma ms.length mc], .slice sa s.length sc]) (by simp [results, Tryz.results58, go_sem, q0, q1, q2, q3, q4, q5, q6]) rfl ⟨⟨n, ks, d, has, num, til, ms⟩, _, _, _, s, rfl, hT, hB⟩
      · obtain ⟨y0, y1, y2, y3⟩ : _ ∧ _ ∧ _ ∧ _ := ⟨cellOf (unhide HY) 0, cellOf (unhide HY) 1, cellOf (unhide HY) 2, cellOf (unhide HY) 3⟩
        have CW := hide (l12With_any w9 (.slice sa s.length sc) s (1 + v5, 1 + v6, fs, ds) (.slice fa fs.length fc) (.slice da ds.length dc) (unhide PK) (unhide HF) (unhide HD) (by omega))
        dsimp only at CW
        go_wp2_with fail
        refine (unhide CW).mono ?_
        rintro e w10 ⟨ov, els, rfl, hpo, hmap, b⟩
        have hle9 : els.length ≤ 9 := by
          have h1 : els.length = (Ix.wth s (1 + v5, 1 + v6, fs, ds)).length := by rw [← hmap, List.length_map]
          have h2 := Ix.wth_len1 s (1 + v5, 1 + v6, fs, ds)
          omega
        have hB9 : B < w9.heap.size := by have := (unhide K).size; have := unhide HBB; have := heapLt (unhide HY); omega
        have hpk := POwn.pks (POwn.weak (M := fun b => B < b) hpo (fun b hb => by omega)) (fun b hb => by omega) (by omega)
        obtain ⟨oa, oc, hov⟩ := own_formS hpo.own
        subst hov
        replace HR := hide ((b.block _ (heapLt (unhide HR))).trans (unhide HR))
        replace HX := hide ((b.block _ (heapLt (unhide HX))).trans (unhide HX))
        replace OK := hide (own_later (unhide OK) b)
        replace OM := hide (own_later (unhide OM) b)
        replace K := hide ((unhide K).trans (Kp.of_below (blk := B) b) (by have := (unhide K).size; have := unhide HBB; omega))
        have PK2 := hide hpk
        have hml : (els.map (fun x : El => x.1)).length ≤ 9 := by rw [List.length_map]; exact hle9
        clear hpo hmap b hpk CW y0 y1 y2 y3 HY HF HD PK
        obtain ⟨⟨x0, g0⟩, ⟨x1, g1⟩, ⟨x2, g2⟩, ⟨x3, g3⟩, ⟨x4, g4⟩, ⟨x5, g5⟩, x6, g6⟩ : (_ ∧ _) ∧ (_ ∧ _) ∧ (_ ∧ _) ∧ (_ ∧ _) ∧ (_ ∧ _) ∧ (_ ∧ _) ∧ _ ∧ _ := ⟨⟨cellOf (unhide HX) 0, frozenOf (unhide HR) 0⟩, ⟨cellOf (unhide HX) 1, frozenOf (unhide HR) 1⟩, ⟨cellOf (unhide HX) 2, frozenOf (unhide HR) 2⟩, ⟨cellOf (unhide HX) 3, frozenOf (unhide HR) 3⟩, ⟨cellOf (unhide HX) 4, frozenOf (unhide HR) 4⟩, ⟨cellOf (unhide HX) 5, frozenOf (unhide HR) 5⟩, cellOf (unhide HX) 6, frozenOf (unhide HR) 6⟩
        obtain ⟨r0, r1, r2, r3, r4, r5, r6⟩ : _ ∧ _ ∧ _ ∧ _ ∧ _ ∧ _ ∧ _ := ⟨cellOf (unhide HR) 0, cellOf (unhide HR) 1, cellOf (unhide HR) 2, cellOf (unhide HR) 3, cellOf (unhide HR) 4, cellOf (unhide HR) 5, cellOf (unhide HR) 6⟩
        go_wp2
        obtain ⟨⟨q0, q1, q2, q3, q4, q5, q6⟩, hT, hB⟩ := unhide FIN _ _ (els.map (·.1)) (unhide HR) (unhide OK) (unhide OM) (unhide PK2) (unhide K) hml _ rfl
        exact bodyPost_ret (v := .tuple #[.agg #[.int .i64 n, .slice ka ks.length kc, .int .i64 d, .bool has, .int .i64 num, .int .i64 til, .slice ma ms.length mc], .slice oa els.length oc]) (by simp [results, Tryz.results58, go_sem, q0, q1, q2, q3, q4, q5, q6]) rfl ⟨⟨n, ks, d, has, num, til, ms⟩, _, _, _, els.map (·.1), rfl, hT, hB⟩
    · clear hrr y0 y1 y2 y3
      obtain ⟨y0, y1, y2, y3⟩ : _ ∧ _ ∧ _ ∧ _ := ⟨cellOf (unhide HY) 0, cellOf (unhide HY) 1, cellOf (unhide HY) 2, cellOf (unhide HY) 3⟩
      obtain ⟨⟨x0, g0⟩, ⟨x1, g1⟩, ⟨x2, g2⟩, ⟨x3, g3⟩, ⟨x4, g4⟩, ⟨x5, g5⟩, x6, g6⟩ : (_ ∧ _) ∧ (_ ∧ _) ∧ (_ ∧ _) ∧ (_ ∧ _) ∧ (_ ∧ _) ∧ (_ ∧ _) ∧ _ ∧ _ := ⟨⟨cellOf (unhide HX) 0, frozenOf (unhide HR) 0⟩, ⟨cellOf (unhide HX) 1, frozenOf (unhide HR) 1⟩, ⟨cellOf (unhide HX) 2, frozenOf (unhide HR) 2⟩, ⟨cellOf (unhide HX) 3, frozenOf (unhide HR) 3⟩, ⟨cellOf (unhide HX) 4, frozenOf (unhide HR) 4⟩, ⟨cellOf (unhide HX) 5, frozenOf (unhide HR) 5⟩, cellOf (unhide HX) 6, frozenOf (unhide HR) 6⟩
      obtain ⟨r0, r1, r2, r3, r4, r5, r6⟩ : _ ∧ _ ∧ _ ∧ _ ∧ _ ∧ _ ∧ _ := ⟨cellOf (unhide HR) 0, cellOf (unhide HR) 1, cellOf (unhide HR) 2, cellOf (unhide HR) 3, cellOf (unhide HR) 4, cellOf (unhide HR) 5, cellOf (unhide HR) 6⟩
      go_wp2
      obtain ⟨⟨q0, q1, q2, q3, q4, q5, q6⟩, hT, hB⟩ := unhide FIN _ _ s (unhide HR) (unhide OK) (unhide OM) (unhide PK) (unhide K) (by omega) _ rfl
      exact bodyPost_ret (v := .tuple #[.agg #[.int .i64 n, .slice ka ks.length kc, .int .i64 d, .bool has, .int .i64 num, .int .i64 til, .slice ma ms.length mc], .slice sa s.length sc]) (by simp [results, Tryz.results58, go_sem, q0, q1, q2, q3, q4, q5, q6]) rfl (by first | exact ⟨⟨n, ks, d, has, num, til, ms⟩, _, _, _, s, rfl, hT, hB⟩ | exact ⟨⟨n, ks, d, has, num, til, ms⟩, _, _, _, rfl, ⟨s, hT⟩, hB⟩)
  · have hv4b : (v4 == 0) = false := by simp [hv4]
    obtain ⟨⟨x0, g0⟩, ⟨x1, g1⟩, ⟨x2, g2⟩, ⟨x3, g3⟩, ⟨x4, g4⟩, ⟨x5, g5⟩, x6, g6⟩ : (_ ∧ _) ∧ (_ ∧ _) ∧ (_ ∧ _) ∧ (_ ∧ _) ∧ (_ ∧ _) ∧ (_ ∧ _) ∧ _ ∧ _ := ⟨⟨cellOf (unhide HX) 0, frozenOf (unhide HR) 0⟩, ⟨cellOf (unhide HX) 1, frozenOf (unhide HR) 1⟩, ⟨cellOf (unhide HX) 2, frozenOf (unhide HR) 2⟩, ⟨cellOf (unhide HX) 3, frozenOf (unhide HR) 3⟩, ⟨cellOf (unhide HX) 4, frozenOf (unhide HR) 4⟩, ⟨cellOf (unhide HX) 5, frozenOf (unhide HR) 5⟩, cellOf (unhide HX) 6, frozenOf (unhide HR) 6⟩
    obtain ⟨r0, r1, r2, r3, r4, r5, r6⟩ : _ ∧ _ ∧ _ ∧ _ ∧ _ ∧ _ ∧ _ := ⟨cellOf (unhide HR) 0, cellOf (unhide HR) 1, cellOf (unhide HR) 2, cellOf (unhide HR) 3, cellOf (unhide HR) 4, cellOf (unhide HR) 5, cellOf (unhide HR) 6⟩
    go_wp2
    obtain ⟨⟨q0, q1, q2, q3, q4, q5, q6⟩, hT, hB⟩ := unhide FIN _ _ s (unhide HR) (unhide OK) (unhide OM) (unhide PK) (unhide K) (by omega) _ rfl
    exact bodyPost_ret (v := .tuple #[.agg #[.int .i64 n, .slice ka ks.length kc, .int .i64 d, .bool has, .int .i64 num, .int .i64 til, .slice ma ms.length mc], .slice sa s.length sc]) (by simp [results, Tryz.results58, go_sem, q0, q1, q2, q3, q4, q5, q6]) rfl ⟨⟨n, ks, d, has, num, til, ms⟩, _, _, _, s, rfl, hT, hB⟩
end Go.Proofs.YtlnieobmhofkdaaGreatDoor
