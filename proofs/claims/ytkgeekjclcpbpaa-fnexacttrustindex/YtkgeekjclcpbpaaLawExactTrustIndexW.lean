/- The walk of FnExactTrustIndex: it returns true and leaves what was there; for every trust and signed index. -/
import Derived.Test.YtkgeekjclcpbpaaLawExactTrustNewW
import Derived.Test.YtkgeekjclcpbpaaMarkSW
import Derived.Test.YtkgeekjclcpbpaaOpenTrustW
import Derived.Test.YtkgeekjclcpbpaaCopySIW
import Derived.Test.YtkgeekjclcpbpaaImplTrIdxW
import Derived.Deep.CutRange
namespace Go.Proofs.Ytkgeekjclcpbpaa
open Go.RowKit

attribute [local go_sem ↓] Go.wp_at_zero Go.wp_at_succ

theorem Tr.index_lenW {t : Tr.T} {num til now : Int} {ms : List Ix.M} {by' : List Int} (h1 : t.ks.length ≤ 1048576) (h2 : t.ms.length ≤ 1048576) (h3 : ms.length ≤ 1048576) : (Tr.index t num til ms by' now).1.ks.length ≤ 1048576 ∧ (Tr.index t num til ms by' now).1.ms.length ≤ 1048576 := by
  unfold Tr.index
  split
  · split
    · exact ⟨h1, h3⟩
    · exact ⟨h1, h2⟩
  · exact ⟨Nat.zero_le _, Nat.zero_le _⟩
/-- An empty box is filled. -/
theorem Go0.fill {W w w' : World} {g : Nat} {t : Tr.T} {kv mv : Value} (hY : w.heap[g]? = some (.cells #[.int .i64 0, .slice none 0 0, .int .i64 0, .bool false, .int .i64 0, .int .i64 0, .slice none 0 0] 30 (0, 0))) (hb : Below W.heap.size W w) (hk : OwI W.heap.size w kv t.ks) (hm : OwM W.heap.size w mv t.ms) (lo : W.heap.size ≤ g)
    (hw : w' = ((((((w.setCell ⟨g, 0, none⟩ (.int .i64 t.n)).setCell ⟨g, 1, none⟩ kv).setCell ⟨g, 2, none⟩ (.int .i64 t.d)).setCell ⟨g, 3, none⟩ (.bool t.has)).setCell ⟨g, 4, none⟩ (.int .i64 t.num)).setCell ⟨g, 5, none⟩ (.int .i64 t.til)).setCell ⟨g, 6, none⟩ mv) : Go0 W.heap.size w' g t kv mv ∧ Below W.heap.size W w' := by
  obtain ⟨h1, hf, hs, ho, ht, hp⟩ := fin7 hY hw
  refine ⟨⟨h1, lo, ?_, ?_⟩, below_far hb lo hf hs ho ht hp⟩
  · exact own_keepS hk (fun k _ e _ _ => hf k (fun e2 => own_ne hk hY (by decide) (by rw [e, e2])))
  · exact own_keepS hm (fun k _ e _ _ => hf k (fun e2 => own_ne hm hY (by decide) (by rw [e, e2])))

set_option maxHeartbeats 16000000 in
set_option maxRecDepth 100000 in
theorem exactTrustIndex_walk (w : World) (x : Int) (a : Option Addr) (n c : Nat) (y : Int) (has : Bool) (z t : Int) (b : Option Addr) (m e : Nat) (sx sy : Int) (sa : Option Addr) (sn sc : Nat) (ba : Option Addr) (bn be : Nat) (now : Int) (hR : RowIn w a n c) (hM : MetasIn w b m e) (hS : MetasIn w sa sn sc) (hB : RowIn w ba bn be) :
    Calls Try.prog 9 #[.agg #[.int .i64 x, .slice a n c, .int .i64 y, .bool has, .int .i64 z, .int .i64 t, .slice b m e], .agg #[.int .i64 sx, .int .i64 sy, .slice sa sn sc, .slice ba bn be], .int .i64 now] w fun e w' => e = .returned (.bool true) ∧ Below w.heap.size w w' := by
  obtain ⟨hn, P⟩ := hR
  obtain ⟨hm, Q⟩ := hM
  obtain ⟨hsn, PS⟩ := hS
  obtain ⟨hbn, PB⟩ := hB
  have H0 := hide (two_boxesT w (.cells #[.int .i64 x, .slice a n c, .int .i64 y, .bool has, .int .i64 z, .int .i64 t, .slice b m e] 59) (.cells #[.int .i64 sx, .int .i64 sy, .slice sa sn sc, .slice ba bn be] 70))
  have HP := hide (And.intro P (And.intro Q (And.intro PS PB)))
  clear P Q PS PB
  go_enter Try.func9, Try.ntmps9
  go_wp2_with fail
  refine (szTrust_any _ x y a n c has z t b m e 1048576 (by omega) (by omega) hn hm).mono ?_
  generalize World.alloc _ _ = W0 at *
  rintro e1 w1 ⟨b1, ⟨hl1, hl2, r, rfl, r0, r1⟩ | rfl⟩
  rotate_left
  · have B1 := hide ((unhide H0).1.trans (b1.mono (unhide H0).1.size))
    clear H0 HP b1
    go_wp2
    go_ret
    exact ⟨rfl, unhide B1⟩
  have B1 := (unhide H0).1.trans (b1.mono (unhide H0).1.size)
  have x1 := (b1.block _ (heapLt (unhide H0).2.1)).trans (unhide H0).2.1
  have s1 := (b1.block _ (heapLt (unhide H0).2.2)).trans (unhide H0).2.2
  have H1 := hide (And.intro B1 (And.intro x1 s1))
  have hr : ¬ r < 0 := by omega
  obtain ⟨u0, u1, u2, u3⟩ := box4f s1
  clear B1 x1 s1 b1 H0
  go_wp2_with fail
  refine (szSigIndex_any _ sx sy sa ba sn sc bn be r r0 (by omega) hsn hbn).mono ?_
  clear u0 u1 u2 u3
  rintro e2 w2 ⟨b2, ⟨hl3, hl4, r', rfl, r0', r1'⟩ | rfl⟩
  rotate_left
  · have B2 := hide ((unhide H1).1.trans (b2.mono (unhide H1).1.size))
    clear H1 HP b2
    go_wp2
    go_ret
    exact ⟨rfl, unhide B2⟩
  obtain ⟨l, rfl, i1⟩ := (unhide HP).1 hl1
  obtain ⟨l2, rfl, i2⟩ := (unhide HP).2.1 hl2
  obtain ⟨l3, rfl, i3⟩ := (unhide HP).2.2.1 hl3
  obtain ⟨l4, rfl, i4⟩ := (unhide HP).2.2.2 hl4
  have hb2 := (unhide H1).1.trans (b2.mono (unhide H1).1.size)
  have x2 := (b2.block _ (heapLt (unhide H1).2.1)).trans (unhide H1).2.1
  have s2 := (b2.block _ (heapLt (unhide H1).2.2)).trans (unhide H1).2.2
  have XT : Hid (Tb w2 w.heap.size x y (.slice a l.length c) l has z t (.slice b l2.length e) l2) := ⟨heapLt x2, cellOf x2 0, cellOf x2 1, cellOf x2 2, cellOf x2 3, cellOf x2 4, cellOf x2 5, cellOf x2 6, i1.later hb2, i2.later hb2⟩
  have XS : Hid (Si w2 (w.heap.size + 1) sx sy (.slice sa l3.length sc) (.slice ba l4.length be) l3 l4) := ⟨heapLt s2, cellOf s2 0, cellOf s2 1, cellOf s2 2, cellOf s2 3, i3.later hb2, i4.later hb2⟩
  have B2 := hide hb2
  have hr' : ¬ r' < 0 := by omega
  clear hb2 x2 s2 i1 i2 i3 i4 b2 H1 HP
  have CT := hide (fun (W : World) h1 h2 => toTrust_any W ⟨x, l, y, has, z, t, l2⟩ (.slice a l.length c) (.slice b l2.length e) h1 h2 hl1 hl2)
  have CF := hide (fun (W : World) h1 h2 => toTrust_fill W ⟨x, l, y, has, z, t, l2⟩ (.slice a l.length c) (.slice b l2.length e) h1 h2 hl1 hl2)
  dsimp only [tvT, tv] at CT CF
  obtain ⟨hqk, hqm⟩ := Tr.index_lenW (t := ⟨x, l, y, has, z, t, l2⟩) (num := sx) (til := sy) (ms := l3) (by' := l4) (now := now) hl1 hl2 hl3
  have CS := hide (fun (W : World) (k1 m1 v2 vb : Value) h1 h2 h3 h4 => specTrustIndex_wide W ⟨x, l, y, has, z, t, l2⟩ k1 m1 sx sy v2 vb l3 l4 now h1 h2 h3 h4 hl1 hl2)
  have CI := hide (fun (W : World) (k1 m1 v2 vb : Value) h1 h2 h3 h4 => implTrustIndex_any W ⟨x, l, y, has, z, t, l2⟩ k1 m1 sx sy v2 vb l3 l4 now h1 h2 h3 h4)
  generalize Tr.index ⟨x, l, y, has, z, t, l2⟩ sx sy l3 l4 now = rq at *
  obtain ⟨q, bq⟩ := rq
  dsimp only [tvT, tv] at hqk hqm CS CI
  have hbb : (bq != bq) = false := by simp
  have BA : Hid (Below w2.heap.size w2 w2) := Below.refl _ _
  go_upto_region 8 with fail
  go_cut [8, 9] from 29 to 37 (fun y o wx => ∃ (Yb : Nat) (ka3 : Option Addr) (kc3 : Nat) (ma3 : Option Addr) (mc3 : Nat), y = .pointer (some ⟨Yb, 0, none⟩) ∧ o = .bool bq ∧ Go0 w2.heap.size wx Yb q (.slice ka3 q.ks.length kc3) (.slice ma3 q.ms.length mc3) ∧ Below w2.heap.size w2 wx)
  case first =>
    obtain ⟨hc1, hc2⟩ : _ ∧ _ := ⟨((unhide XT).later (unhide BA)).cells, ((unhide XS).later (unhide BA)).cells⟩
    refine wp_region_held_drew (S := fun w' => (w'.cell? ⟨w.heap.size, 0, none⟩ = some (.int .i64 x) ∧ w'.cell? ⟨w.heap.size, 1, none⟩ = some (.slice a l.length c) ∧ w'.cell? ⟨w.heap.size, 2, none⟩ = some (.int .i64 y) ∧ w'.cell? ⟨w.heap.size, 3, none⟩ = some (.bool has) ∧ w'.cell? ⟨w.heap.size, 4, none⟩ = some (.int .i64 z) ∧ w'.cell? ⟨w.heap.size, 5, none⟩ = some (.int .i64 t) ∧ w'.cell? ⟨w.heap.size, 6, none⟩ = some (.slice b l2.length e)) ∧ (w'.cell? ⟨w.heap.size + 1, 0, none⟩ = some (.int .i64 sx) ∧ w'.cell? ⟨w.heap.size + 1, 1, none⟩ = some (.int .i64 sy) ∧ w'.cell? ⟨w.heap.size + 1, 2, none⟩ = some (.slice sa l3.length sc) ∧ w'.cell? ⟨w.heap.size + 1, 3, none⟩ = some (.slice ba l4.length be))) (by kernel_rfl) ⟨hc1, hc2⟩ (fun hHeld => ?_)
    clear hc1 hc2
    refine anyH_at (i := 0) (d := some 30) rfl rfl (by kernel_rfl) (by kernel_rfl) (by kernel_rfl) (fun _ _ _ h => h) (by rfl) (v := ?_) ?_ (by assumption) ?_
    rotate_left
    · (intro w hSw; (try dsimp only at hSw); go_simp <;> with_reducible rfl)
    simp only [Act.put, List.setIfInBounds_toArray, List.set_cons_zero, List.set_cons_succ]
    refine anyH_at (i := 2) (d := some 32) rfl rfl (by kernel_rfl) (by kernel_rfl) (by kernel_rfl) (fun _ _ _ h => h) (by rfl) (v := ?_) ?_ (by assumption) ?_
    rotate_left
    · (intro w hSw; (try dsimp only at hSw); go_simp <;> with_reducible rfl)
    simp only [Act.put, List.setIfInBounds_toArray, List.set_cons_zero, List.set_cons_succ]
    refine anyH_at (i := 4) (d := some 34) rfl rfl (by kernel_rfl) (by kernel_rfl) (by kernel_rfl) (fun _ _ _ h => h) (by rfl) (v := ?_) ?_ (by assumption) ?_
    rotate_left
    · (intro w hSw; (try dsimp only at hSw); go_simp <;> with_reducible rfl)
    simp only [Act.put, List.setIfInBounds_toArray, List.set_cons_zero, List.set_cons_succ]
    have D0 : Hid (Below w2.heap.size w2 w2.drew) := below_drew w2
    refine wpAnyH_ready (rs := [1, 9]) (by kernel_rfl) (by simp) ?_
    refine AllReadyH.cons rfl (fun K hK => ?_) (AllReadyH.cons rfl (fun K hK => ?_) AllReadyH.nil)
    rotate_left
    · go_simp
      have D0y := hide ((unhide D0).trans ((below1 _ (.cells #[.int .i64 0, .slice none 0 0, .int .i64 0, .bool false, .int .i64 0, .int .i64 0, .slice none 0 0] 30)).mono (unhide D0).size))
      have Y0y := hide (heap_alloc_new w2.drew (.cells #[.int .i64 0, .slice none 0 0, .int .i64 0, .bool false, .int .i64 0, .int .i64 0, .slice none 0 0] 30))
      have LO : Hid (w2.heap.size ≤ w2.drew.heap.size) := (unhide D0).size
      rw [show w2.drew.heap.size = w2.heap.size from rfl] at Y0y LO
      refine hK.out _ _ ?_ (fun hHeldN => ?_)
      · exact ⟨((unhide XT).later ((unhide BA).trans ((unhide D0y).mono (unhide BA).size))).cells, ((unhide XS).later ((unhide BA).trans ((unhide D0y).mono (unhide BA).size))).cells⟩
      clear hHeld
      have hHeld := hHeldN
      clear hHeldN
      clear hK K
      try simp only [Act.put, List.setIfInBounds_toArray, List.set_cons_zero, List.set_cons_succ]
      refine wpAnyH_ready (rs := [1]) (by kernel_rfl) (by simp) ?_
      refine AllReadyH.cons rfl (fun K hK => ?_) AllReadyH.nil
      go_simp
      refine (unhide CT _ ((unhide XT).later ((unhide BA).trans ((unhide D0y).mono (unhide BA).size))).ins ((unhide XT).later ((unhide BA).trans ((unhide D0y).mono (unhide BA).size))).trs).mono ?_
      rintro e' u1 ⟨kv1, mv1, rfl, i1, j1, b1⟩
      try dsimp only at i1 j1
      obtain ⟨ka1, kc1, ek1⟩ := i1.slice
      obtain ⟨ma1, mc1, em1⟩ := j1.slice
      subst ek1 em1
      try dsimp only [tvT, tv]
      have I1y := hide (And.intro i1 j1)
      have D1y := hide ((unhide D0y).trans (b1.mono (unhide D0y).size))
      have Y1y := hide ((b1.block _ (heapLt (unhide Y0y))).trans (unhide Y0y))
      clear i1 j1 b1 D0y Y0y
      go_wp2_with fail
      refine hK.out _ _ ?_ (fun hHeldN => ?_)
      · exact ⟨((unhide XT).later ((unhide BA).trans ((unhide D1y).mono (unhide BA).size))).cells, ((unhide XS).later ((unhide BA).trans ((unhide D1y).mono (unhide BA).size))).cells⟩
      clear hHeld
      have hHeld := hHeldN
      clear hHeldN
      clear hK K
      try simp only [Act.put, List.setIfInBounds_toArray, List.set_cons_zero, List.set_cons_succ]
      refine wpAnyH_ready (rs := [3]) (by kernel_rfl) (by simp) ?_
      refine AllReadyH.cons rfl (fun K hK => ?_) AllReadyH.nil
      go_simp
      refine (toSigIndex_any _ sx sy _ _ l3 l4 ((unhide XS).later ((unhide BA).trans ((unhide D1y).mono (unhide BA).size))).trs ((unhide XS).later ((unhide BA).trans ((unhide D1y).mono (unhide BA).size))).inb hl3 hl4).mono ?_
      rintro e' u2 ⟨v2, vb2, rfl, i2, j2, b2⟩
      obtain ⟨sa2, sc2, ek2⟩ := i2.slice
      obtain ⟨ba2, be2, em2⟩ := j2.slice
      subst ek2 em2
      have J2y := hide (And.intro i2 j2)
      have I2y := hide (And.intro ((unhide I1y).1.later b2) ((unhide I1y).2.later b2))
      have D2y := hide ((unhide D1y).trans (b2.mono (unhide D1y).size))
      have Y2y := hide ((b2.block _ (heapLt (unhide Y1y))).trans (unhide Y1y))
      clear i2 j2 b2 I1y D1y Y1y
      go_wp2_with fail
      refine hK.out _ _ ?_ (fun hHeldN => ?_)
      · exact ⟨((unhide XT).later ((unhide BA).trans ((unhide D2y).mono (unhide BA).size))).cells, ((unhide XS).later ((unhide BA).trans ((unhide D2y).mono (unhide BA).size))).cells⟩
      clear hHeld
      have hHeld := hHeldN
      clear hHeldN
      clear hK K
      try simp only [Act.put, List.setIfInBounds_toArray, List.set_cons_zero, List.set_cons_succ]
      refine wpAnyH_ready (rs := [5]) (by kernel_rfl) (by simp) ?_
      refine AllReadyH.cons rfl (fun K hK => ?_) AllReadyH.nil
      go_simp
      refine (unhide CS _ _ _ _ _ (unhide I2y).1 (unhide I2y).2 (unhide J2y).1 (unhide J2y).2).mono ?_
      rintro e' u3 ⟨kv3, mv3, rfl, ok3, om3, b3⟩
      obtain ⟨ka3, kc3, ek3⟩ := own_formS ok3
      obtain ⟨ma3, mc3, em3⟩ := own_formS om3
      try dsimp only at ek3 em3 ok3 om3
      subst ek3 em3
      try dsimp only [tvT, tv]
      have O3y := hide (And.intro (own_base' ok3 (unhide D2y).size) (own_base' om3 (unhide D2y).size))
      have D3y := hide ((unhide D2y).trans (b3.mono (unhide D2y).size))
      have Y3y := hide ((b3.block _ (heapLt (unhide Y2y))).trans (unhide Y2y))
      clear ok3 om3 b3 I2y J2y D2y Y2y
      go_wp2_with fail
      refine hK.out _ _ ?_ (fun hHeldN => ?_)
      · exact ⟨((unhide XT).later ((unhide BA).trans ((unhide D3y).mono (unhide BA).size))).cells, ((unhide XS).later ((unhide BA).trans ((unhide D3y).mono (unhide BA).size))).cells⟩
      clear hHeld
      have hHeld := hHeldN
      clear hHeldN
      clear hK K
      try simp only [Act.put, List.setIfInBounds_toArray, List.set_cons_zero, List.set_cons_succ]
      refine anyH_at (i := 6) (d := some 29) rfl rfl (by kernel_rfl) (by kernel_rfl) (by kernel_rfl) (fun _ _ _ h => h) (by rfl) (v := ?_) ?_ (by assumption) ?_
      rotate_left
      · (intro w hSw; (try dsimp only at hSw); go_simp <;> with_reducible rfl)
      simp only [Act.put, List.setIfInBounds_toArray, List.set_cons_zero, List.set_cons_succ]
      refine anyH_at (i := 7) (d := some 36) rfl rfl (by kernel_rfl) (by kernel_rfl) (by kernel_rfl) (fun _ _ _ h => h) (by rfl) (v := ?_) ?_ (by assumption) ?_
      rotate_left
      · (intro w hSw; (try dsimp only at hSw); go_simp <;> with_reducible rfl)
      simp only [Act.put, List.setIfInBounds_toArray, List.set_cons_zero, List.set_cons_succ]
      refine anyH_at (i := 8) (d := some 37) rfl rfl (by kernel_rfl) (by kernel_rfl) (by kernel_rfl) (fun _ _ _ h => h) (by rfl) (v := ?_) ?_ (by assumption) ?_
      rotate_left
      · (intro w hSw; (try dsimp only at hSw); go_simp <;> with_reducible rfl)
      simp only [Act.put, List.setIfInBounds_toArray, List.set_cons_zero, List.set_cons_succ]
      refine wpAnyH_ready (rs := [10]) (by kernel_rfl) (by simp) ?_
      refine AllReadyH.cons rfl (fun K hK => ?_) AllReadyH.nil
      obtain ⟨y0, y1, y2, y3, y4, y5, y6⟩ := box7 (unhide Y3y)
      obtain ⟨yf0, yf1, yf2, yf3, yf4, yf5, yf6⟩ := frz7 (unhide Y3y)
      go_simp
      obtain ⟨hG, hBF⟩ := Go0.fill (W := w2) (t := q) (unhide Y3y) (unhide D3y) (unhide O3y).1 (unhide O3y).2 (unhide LO) rfl
      refine hK.out _ _ ?_ (fun hHeldN => ?_)
      · exact ⟨((unhide XT).later ((unhide BA).trans (hBF.mono (unhide BA).size))).cells, ((unhide XS).later ((unhide BA).trans (hBF.mono (unhide BA).size))).cells⟩
      clear hHeld
      have hHeld := hHeldN
      clear hHeldN
      clear hK K
      try simp only [Act.put, List.setIfInBounds_toArray, List.set_cons_zero, List.set_cons_succ]
      refine anyH_at (i := 11) (d := some 9) rfl rfl (by kernel_rfl) (by kernel_rfl) (by kernel_rfl) (fun _ _ _ h => h) (by rfl) (v := ?_) ?_ (by assumption) ?_
      rotate_left
      · (intro w hSw; (try dsimp only at hSw); go_simp <;> with_reducible rfl)
      simp only [Act.put, List.setIfInBounds_toArray, List.set_cons_zero, List.set_cons_succ]
      refine wpAnyH_done (by kernel_rfl) ?_ _
      go_wp2_with fail
      go_meet
      exact ⟨_, _, _, _, _, rfl, rfl, hG, hBF⟩
    go_simp
    refine (unhide CT _ ((unhide XT).later ((unhide BA).trans ((unhide D0).mono (unhide BA).size))).ins ((unhide XT).later ((unhide BA).trans ((unhide D0).mono (unhide BA).size))).trs).mono ?_
    rintro e' u1 ⟨kv1, mv1, rfl, i1, j1, b1⟩
    try dsimp only at i1 j1
    obtain ⟨ka1, kc1, ek1⟩ := i1.slice
    obtain ⟨ma1, mc1, em1⟩ := j1.slice
    subst ek1 em1
    try dsimp only [tvT, tv]
    have I1 := hide (And.intro i1 j1)
    have D1 := hide ((unhide D0).trans (b1.mono (unhide D0).size))
    clear i1 j1 b1 D0
    go_wp2_with fail
    refine hK.out _ _ ?_ (fun hHeldN => ?_)
    · exact ⟨((unhide XT).later ((unhide BA).trans ((unhide D1).mono (unhide BA).size))).cells, ((unhide XS).later ((unhide BA).trans ((unhide D1).mono (unhide BA).size))).cells⟩
    clear hHeld
    have hHeld := hHeldN
    clear hHeldN
    clear hK K
    try simp only [Act.put, List.setIfInBounds_toArray, List.set_cons_zero, List.set_cons_succ]
    refine wpAnyH_ready (rs := [3, 9]) (by kernel_rfl) (by simp) ?_
    refine AllReadyH.cons rfl (fun K hK => ?_) (AllReadyH.cons rfl (fun K hK => ?_) AllReadyH.nil)
    rotate_left
    · go_simp
      have D1y := hide ((unhide D1).trans ((below1 _ (.cells #[.int .i64 0, .slice none 0 0, .int .i64 0, .bool false, .int .i64 0, .int .i64 0, .slice none 0 0] 30)).mono (unhide D1).size))
      have Y1y := hide (heap_alloc_new u1 (.cells #[.int .i64 0, .slice none 0 0, .int .i64 0, .bool false, .int .i64 0, .int .i64 0, .slice none 0 0] 30))
      have LO : Hid (w2.heap.size ≤ u1.heap.size) := (unhide D1).size
      have I1y := hide (And.intro ((unhide I1).1.later (below1 _ (.cells #[.int .i64 0, .slice none 0 0, .int .i64 0, .bool false, .int .i64 0, .int .i64 0, .slice none 0 0] 30))) ((unhide I1).2.later (below1 _ (.cells #[.int .i64 0, .slice none 0 0, .int .i64 0, .bool false, .int .i64 0, .int .i64 0, .slice none 0 0] 30))))
      refine hK.out _ _ ?_ (fun hHeldN => ?_)
      · exact ⟨((unhide XT).later ((unhide BA).trans ((unhide D1y).mono (unhide BA).size))).cells, ((unhide XS).later ((unhide BA).trans ((unhide D1y).mono (unhide BA).size))).cells⟩
      clear hHeld
      have hHeld := hHeldN
      clear hHeldN
      clear hK K
      try simp only [Act.put, List.setIfInBounds_toArray, List.set_cons_zero, List.set_cons_succ]
      refine wpAnyH_ready (rs := [3]) (by kernel_rfl) (by simp) ?_
      refine AllReadyH.cons rfl (fun K hK => ?_) AllReadyH.nil
      go_simp
      refine (toSigIndex_any _ sx sy _ _ l3 l4 ((unhide XS).later ((unhide BA).trans ((unhide D1y).mono (unhide BA).size))).trs ((unhide XS).later ((unhide BA).trans ((unhide D1y).mono (unhide BA).size))).inb hl3 hl4).mono ?_
      rintro e' u2 ⟨v2, vb2, rfl, i2, j2, b2⟩
      obtain ⟨sa2, sc2, ek2⟩ := i2.slice
      obtain ⟨ba2, be2, em2⟩ := j2.slice
      subst ek2 em2
      have J2y := hide (And.intro i2 j2)
      have I2y := hide (And.intro ((unhide I1y).1.later b2) ((unhide I1y).2.later b2))
      have D2y := hide ((unhide D1y).trans (b2.mono (unhide D1y).size))
      have Y2y := hide ((b2.block _ (heapLt (unhide Y1y))).trans (unhide Y1y))
      clear i2 j2 b2 I1y D1y Y1y
      go_wp2_with fail
      refine hK.out _ _ ?_ (fun hHeldN => ?_)
      · exact ⟨((unhide XT).later ((unhide BA).trans ((unhide D2y).mono (unhide BA).size))).cells, ((unhide XS).later ((unhide BA).trans ((unhide D2y).mono (unhide BA).size))).cells⟩
      clear hHeld
      have hHeld := hHeldN
      clear hHeldN
      clear hK K
      try simp only [Act.put, List.setIfInBounds_toArray, List.set_cons_zero, List.set_cons_succ]
      refine wpAnyH_ready (rs := [5]) (by kernel_rfl) (by simp) ?_
      refine AllReadyH.cons rfl (fun K hK => ?_) AllReadyH.nil
      go_simp
      refine (unhide CS _ _ _ _ _ (unhide I2y).1 (unhide I2y).2 (unhide J2y).1 (unhide J2y).2).mono ?_
      rintro e' u3 ⟨kv3, mv3, rfl, ok3, om3, b3⟩
      obtain ⟨ka3, kc3, ek3⟩ := own_formS ok3
      obtain ⟨ma3, mc3, em3⟩ := own_formS om3
      try dsimp only at ek3 em3 ok3 om3
      subst ek3 em3
      try dsimp only [tvT, tv]
      have O3y := hide (And.intro (own_base' ok3 (unhide D2y).size) (own_base' om3 (unhide D2y).size))
      have D3y := hide ((unhide D2y).trans (b3.mono (unhide D2y).size))
      have Y3y := hide ((b3.block _ (heapLt (unhide Y2y))).trans (unhide Y2y))
      clear ok3 om3 b3 I2y J2y D2y Y2y
      go_wp2_with fail
      refine hK.out _ _ ?_ (fun hHeldN => ?_)
      · exact ⟨((unhide XT).later ((unhide BA).trans ((unhide D3y).mono (unhide BA).size))).cells, ((unhide XS).later ((unhide BA).trans ((unhide D3y).mono (unhide BA).size))).cells⟩
      clear hHeld
      have hHeld := hHeldN
      clear hHeldN
      clear hK K
      try simp only [Act.put, List.setIfInBounds_toArray, List.set_cons_zero, List.set_cons_succ]
      refine anyH_at (i := 6) (d := some 29) rfl rfl (by kernel_rfl) (by kernel_rfl) (by kernel_rfl) (fun _ _ _ h => h) (by rfl) (v := ?_) ?_ (by assumption) ?_
      rotate_left
      · (intro w hSw; (try dsimp only at hSw); go_simp <;> with_reducible rfl)
      simp only [Act.put, List.setIfInBounds_toArray, List.set_cons_zero, List.set_cons_succ]
      refine anyH_at (i := 7) (d := some 36) rfl rfl (by kernel_rfl) (by kernel_rfl) (by kernel_rfl) (fun _ _ _ h => h) (by rfl) (v := ?_) ?_ (by assumption) ?_
      rotate_left
      · (intro w hSw; (try dsimp only at hSw); go_simp <;> with_reducible rfl)
      simp only [Act.put, List.setIfInBounds_toArray, List.set_cons_zero, List.set_cons_succ]
      refine anyH_at (i := 8) (d := some 37) rfl rfl (by kernel_rfl) (by kernel_rfl) (by kernel_rfl) (fun _ _ _ h => h) (by rfl) (v := ?_) ?_ (by assumption) ?_
      rotate_left
      · (intro w hSw; (try dsimp only at hSw); go_simp <;> with_reducible rfl)
      simp only [Act.put, List.setIfInBounds_toArray, List.set_cons_zero, List.set_cons_succ]
      refine wpAnyH_ready (rs := [10]) (by kernel_rfl) (by simp) ?_
      refine AllReadyH.cons rfl (fun K hK => ?_) AllReadyH.nil
      obtain ⟨y0, y1, y2, y3, y4, y5, y6⟩ := box7 (unhide Y3y)
      obtain ⟨yf0, yf1, yf2, yf3, yf4, yf5, yf6⟩ := frz7 (unhide Y3y)
      go_simp
      obtain ⟨hG, hBF⟩ := Go0.fill (W := w2) (t := q) (unhide Y3y) (unhide D3y) (unhide O3y).1 (unhide O3y).2 (unhide LO) rfl
      refine hK.out _ _ ?_ (fun hHeldN => ?_)
      · exact ⟨((unhide XT).later ((unhide BA).trans (hBF.mono (unhide BA).size))).cells, ((unhide XS).later ((unhide BA).trans (hBF.mono (unhide BA).size))).cells⟩
      clear hHeld
      have hHeld := hHeldN
      clear hHeldN
      clear hK K
      try simp only [Act.put, List.setIfInBounds_toArray, List.set_cons_zero, List.set_cons_succ]
      refine anyH_at (i := 11) (d := some 9) rfl rfl (by kernel_rfl) (by kernel_rfl) (by kernel_rfl) (fun _ _ _ h => h) (by rfl) (v := ?_) ?_ (by assumption) ?_
      rotate_left
      · (intro w hSw; (try dsimp only at hSw); go_simp <;> with_reducible rfl)
      simp only [Act.put, List.setIfInBounds_toArray, List.set_cons_zero, List.set_cons_succ]
      refine wpAnyH_done (by kernel_rfl) ?_ _
      go_wp2_with fail
      go_meet
      exact ⟨_, _, _, _, _, rfl, rfl, hG, hBF⟩
    go_simp
    refine (toSigIndex_any _ sx sy _ _ l3 l4 ((unhide XS).later ((unhide BA).trans ((unhide D1).mono (unhide BA).size))).trs ((unhide XS).later ((unhide BA).trans ((unhide D1).mono (unhide BA).size))).inb hl3 hl4).mono ?_
    rintro e' u2 ⟨v2, vb2, rfl, i2, j2, b2⟩
    obtain ⟨sa2, sc2, ek2⟩ := i2.slice
    obtain ⟨ba2, be2, em2⟩ := j2.slice
    subst ek2 em2
    have J2 := hide (And.intro i2 j2)
    have I2 := hide (And.intro ((unhide I1).1.later b2) ((unhide I1).2.later b2))
    have D2 := hide ((unhide D1).trans (b2.mono (unhide D1).size))
    clear i2 j2 b2 I1 D1
    go_wp2_with fail
    refine hK.out _ _ ?_ (fun hHeldN => ?_)
    · exact ⟨((unhide XT).later ((unhide BA).trans ((unhide D2).mono (unhide BA).size))).cells, ((unhide XS).later ((unhide BA).trans ((unhide D2).mono (unhide BA).size))).cells⟩
    clear hHeld
    have hHeld := hHeldN
    clear hHeldN
    clear hK K
    try simp only [Act.put, List.setIfInBounds_toArray, List.set_cons_zero, List.set_cons_succ]
    refine wpAnyH_ready (rs := [5, 9]) (by kernel_rfl) (by simp) ?_
    refine AllReadyH.cons rfl (fun K hK => ?_) (AllReadyH.cons rfl (fun K hK => ?_) AllReadyH.nil)
    rotate_left
    · go_simp
      have D2y := hide ((unhide D2).trans ((below1 _ (.cells #[.int .i64 0, .slice none 0 0, .int .i64 0, .bool false, .int .i64 0, .int .i64 0, .slice none 0 0] 30)).mono (unhide D2).size))
      have Y2y := hide (heap_alloc_new u2 (.cells #[.int .i64 0, .slice none 0 0, .int .i64 0, .bool false, .int .i64 0, .int .i64 0, .slice none 0 0] 30))
      have LO : Hid (w2.heap.size ≤ u2.heap.size) := (unhide D2).size
      have I2y := hide (And.intro ((unhide I2).1.later (below1 _ (.cells #[.int .i64 0, .slice none 0 0, .int .i64 0, .bool false, .int .i64 0, .int .i64 0, .slice none 0 0] 30))) ((unhide I2).2.later (below1 _ (.cells #[.int .i64 0, .slice none 0 0, .int .i64 0, .bool false, .int .i64 0, .int .i64 0, .slice none 0 0] 30))))
      have J2y := hide (And.intro ((unhide J2).1.later (below1 _ (.cells #[.int .i64 0, .slice none 0 0, .int .i64 0, .bool false, .int .i64 0, .int .i64 0, .slice none 0 0] 30))) ((unhide J2).2.later (below1 _ (.cells #[.int .i64 0, .slice none 0 0, .int .i64 0, .bool false, .int .i64 0, .int .i64 0, .slice none 0 0] 30))))
      refine hK.out _ _ ?_ (fun hHeldN => ?_)
      · exact ⟨((unhide XT).later ((unhide BA).trans ((unhide D2y).mono (unhide BA).size))).cells, ((unhide XS).later ((unhide BA).trans ((unhide D2y).mono (unhide BA).size))).cells⟩
      clear hHeld
      have hHeld := hHeldN
      clear hHeldN
      clear hK K
      try simp only [Act.put, List.setIfInBounds_toArray, List.set_cons_zero, List.set_cons_succ]
      refine wpAnyH_ready (rs := [5]) (by kernel_rfl) (by simp) ?_
      refine AllReadyH.cons rfl (fun K hK => ?_) AllReadyH.nil
      go_simp
      refine (unhide CS _ _ _ _ _ (unhide I2y).1 (unhide I2y).2 (unhide J2y).1 (unhide J2y).2).mono ?_
      rintro e' u3 ⟨kv3, mv3, rfl, ok3, om3, b3⟩
      obtain ⟨ka3, kc3, ek3⟩ := own_formS ok3
      obtain ⟨ma3, mc3, em3⟩ := own_formS om3
      try dsimp only at ek3 em3 ok3 om3
      subst ek3 em3
      try dsimp only [tvT, tv]
      have O3y := hide (And.intro (own_base' ok3 (unhide D2y).size) (own_base' om3 (unhide D2y).size))
      have D3y := hide ((unhide D2y).trans (b3.mono (unhide D2y).size))
      have Y3y := hide ((b3.block _ (heapLt (unhide Y2y))).trans (unhide Y2y))
      clear ok3 om3 b3 I2y J2y D2y Y2y
      go_wp2_with fail
      refine hK.out _ _ ?_ (fun hHeldN => ?_)
      · exact ⟨((unhide XT).later ((unhide BA).trans ((unhide D3y).mono (unhide BA).size))).cells, ((unhide XS).later ((unhide BA).trans ((unhide D3y).mono (unhide BA).size))).cells⟩
      clear hHeld
      have hHeld := hHeldN
      clear hHeldN
      clear hK K
      try simp only [Act.put, List.setIfInBounds_toArray, List.set_cons_zero, List.set_cons_succ]
      refine anyH_at (i := 6) (d := some 29) rfl rfl (by kernel_rfl) (by kernel_rfl) (by kernel_rfl) (fun _ _ _ h => h) (by rfl) (v := ?_) ?_ (by assumption) ?_
      rotate_left
      · (intro w hSw; (try dsimp only at hSw); go_simp <;> with_reducible rfl)
      simp only [Act.put, List.setIfInBounds_toArray, List.set_cons_zero, List.set_cons_succ]
      refine anyH_at (i := 7) (d := some 36) rfl rfl (by kernel_rfl) (by kernel_rfl) (by kernel_rfl) (fun _ _ _ h => h) (by rfl) (v := ?_) ?_ (by assumption) ?_
      rotate_left
      · (intro w hSw; (try dsimp only at hSw); go_simp <;> with_reducible rfl)
      simp only [Act.put, List.setIfInBounds_toArray, List.set_cons_zero, List.set_cons_succ]
      refine anyH_at (i := 8) (d := some 37) rfl rfl (by kernel_rfl) (by kernel_rfl) (by kernel_rfl) (fun _ _ _ h => h) (by rfl) (v := ?_) ?_ (by assumption) ?_
      rotate_left
      · (intro w hSw; (try dsimp only at hSw); go_simp <;> with_reducible rfl)
      simp only [Act.put, List.setIfInBounds_toArray, List.set_cons_zero, List.set_cons_succ]
      refine wpAnyH_ready (rs := [10]) (by kernel_rfl) (by simp) ?_
      refine AllReadyH.cons rfl (fun K hK => ?_) AllReadyH.nil
      obtain ⟨y0, y1, y2, y3, y4, y5, y6⟩ := box7 (unhide Y3y)
      obtain ⟨yf0, yf1, yf2, yf3, yf4, yf5, yf6⟩ := frz7 (unhide Y3y)
      go_simp
      obtain ⟨hG, hBF⟩ := Go0.fill (W := w2) (t := q) (unhide Y3y) (unhide D3y) (unhide O3y).1 (unhide O3y).2 (unhide LO) rfl
      refine hK.out _ _ ?_ (fun hHeldN => ?_)
      · exact ⟨((unhide XT).later ((unhide BA).trans (hBF.mono (unhide BA).size))).cells, ((unhide XS).later ((unhide BA).trans (hBF.mono (unhide BA).size))).cells⟩
      clear hHeld
      have hHeld := hHeldN
      clear hHeldN
      clear hK K
      try simp only [Act.put, List.setIfInBounds_toArray, List.set_cons_zero, List.set_cons_succ]
      refine anyH_at (i := 11) (d := some 9) rfl rfl (by kernel_rfl) (by kernel_rfl) (by kernel_rfl) (fun _ _ _ h => h) (by rfl) (v := ?_) ?_ (by assumption) ?_
      rotate_left
      · (intro w hSw; (try dsimp only at hSw); go_simp <;> with_reducible rfl)
      simp only [Act.put, List.setIfInBounds_toArray, List.set_cons_zero, List.set_cons_succ]
      refine wpAnyH_done (by kernel_rfl) ?_ _
      go_wp2_with fail
      go_meet
      exact ⟨_, _, _, _, _, rfl, rfl, hG, hBF⟩
    go_simp
    refine (unhide CS _ _ _ _ _ (unhide I2).1 (unhide I2).2 (unhide J2).1 (unhide J2).2).mono ?_
    rintro e' u3 ⟨kv3, mv3, rfl, ok3, om3, b3⟩
    obtain ⟨ka3, kc3, ek3⟩ := own_formS ok3
    obtain ⟨ma3, mc3, em3⟩ := own_formS om3
    try dsimp only at ek3 em3 ok3 om3
    subst ek3 em3
    try dsimp only [tvT, tv]
    have O3 := hide (And.intro (own_base' ok3 (unhide D2).size) (own_base' om3 (unhide D2).size))
    have D3 := hide ((unhide D2).trans (b3.mono (unhide D2).size))
    clear ok3 om3 b3 I2 J2 D2
    go_wp2_with fail
    refine hK.out _ _ ?_ (fun hHeldN => ?_)
    · exact ⟨((unhide XT).later ((unhide BA).trans ((unhide D3).mono (unhide BA).size))).cells, ((unhide XS).later ((unhide BA).trans ((unhide D3).mono (unhide BA).size))).cells⟩
    clear hHeld
    have hHeld := hHeldN
    clear hHeldN
    clear hK K
    try simp only [Act.put, List.setIfInBounds_toArray, List.set_cons_zero, List.set_cons_succ]
    refine anyH_at (i := 6) (d := some 29) rfl rfl (by kernel_rfl) (by kernel_rfl) (by kernel_rfl) (fun _ _ _ h => h) (by rfl) (v := ?_) ?_ (by assumption) ?_
    rotate_left
    · (intro w hSw; (try dsimp only at hSw); go_simp <;> with_reducible rfl)
    simp only [Act.put, List.setIfInBounds_toArray, List.set_cons_zero, List.set_cons_succ]
    refine anyH_at (i := 7) (d := some 36) rfl rfl (by kernel_rfl) (by kernel_rfl) (by kernel_rfl) (fun _ _ _ h => h) (by rfl) (v := ?_) ?_ (by assumption) ?_
    rotate_left
    · (intro w hSw; (try dsimp only at hSw); go_simp <;> with_reducible rfl)
    simp only [Act.put, List.setIfInBounds_toArray, List.set_cons_zero, List.set_cons_succ]
    refine anyH_at (i := 8) (d := some 37) rfl rfl (by kernel_rfl) (by kernel_rfl) (by kernel_rfl) (fun _ _ _ h => h) (by rfl) (v := ?_) ?_ (by assumption) ?_
    rotate_left
    · (intro w hSw; (try dsimp only at hSw); go_simp <;> with_reducible rfl)
    simp only [Act.put, List.setIfInBounds_toArray, List.set_cons_zero, List.set_cons_succ]
    refine wpAnyH_ready (rs := [9]) (by kernel_rfl) (by simp) ?_
    refine AllReadyH.cons rfl (fun K hK => ?_) AllReadyH.nil
    go_simp
    have D3y := hide ((unhide D3).trans ((below1 _ (.cells #[.int .i64 0, .slice none 0 0, .int .i64 0, .bool false, .int .i64 0, .int .i64 0, .slice none 0 0] 30)).mono (unhide D3).size))
    have Y3y := hide (heap_alloc_new u3 (.cells #[.int .i64 0, .slice none 0 0, .int .i64 0, .bool false, .int .i64 0, .int .i64 0, .slice none 0 0] 30))
    have LO : Hid (w2.heap.size ≤ u3.heap.size) := (unhide D3).size
    have O3y := hide (And.intro (own_later (unhide O3).1 (below1 _ (.cells #[.int .i64 0, .slice none 0 0, .int .i64 0, .bool false, .int .i64 0, .int .i64 0, .slice none 0 0] 30))) (own_later (unhide O3).2 (below1 _ (.cells #[.int .i64 0, .slice none 0 0, .int .i64 0, .bool false, .int .i64 0, .int .i64 0, .slice none 0 0] 30))))
    refine hK.out _ _ ?_ (fun hHeldN => ?_)
    · exact ⟨((unhide XT).later ((unhide BA).trans ((unhide D3y).mono (unhide BA).size))).cells, ((unhide XS).later ((unhide BA).trans ((unhide D3y).mono (unhide BA).size))).cells⟩
    clear hHeld
    have hHeld := hHeldN
    clear hHeldN
    clear hK K
    try simp only [Act.put, List.setIfInBounds_toArray, List.set_cons_zero, List.set_cons_succ]
    generalize World.alloc _ _ = v3y at *
    generalize u3.heap.size = Yb at *
    refine wpAnyH_ready (rs := [10]) (by kernel_rfl) (by simp) ?_
    refine AllReadyH.cons rfl (fun K hK => ?_) AllReadyH.nil
    obtain ⟨y0, y1, y2, y3, y4, y5, y6⟩ := box7 (unhide Y3y)
    obtain ⟨yf0, yf1, yf2, yf3, yf4, yf5, yf6⟩ := frz7 (unhide Y3y)
    go_simp
    obtain ⟨hG, hBF⟩ := Go0.fill (W := w2) (t := q) (unhide Y3y) (unhide D3y) (unhide O3y).1 (unhide O3y).2 (unhide LO) rfl
    refine hK.out _ _ ?_ (fun hHeldN => ?_)
    · exact ⟨((unhide XT).later ((unhide BA).trans (hBF.mono (unhide BA).size))).cells, ((unhide XS).later ((unhide BA).trans (hBF.mono (unhide BA).size))).cells⟩
    clear hHeld
    have hHeld := hHeldN
    clear hHeldN
    clear hK K
    try simp only [Act.put, List.setIfInBounds_toArray, List.set_cons_zero, List.set_cons_succ]
    refine anyH_at (i := 11) (d := some 9) rfl rfl (by kernel_rfl) (by kernel_rfl) (by kernel_rfl) (fun _ _ _ h => h) (by rfl) (v := ?_) ?_ (by assumption) ?_
    rotate_left
    · (intro w hSw; (try dsimp only at hSw); go_simp <;> with_reducible rfl)
    simp only [Act.put, List.setIfInBounds_toArray, List.set_cons_zero, List.set_cons_succ]
    refine wpAnyH_done (by kernel_rfl) ?_ _
    go_wp2_with fail
    go_meet
    exact ⟨_, _, _, _, _, rfl, rfl, hG, hBF⟩
  case rest =>
  obtain ⟨Wb, kW, kcW, mW, mcW, rfl, rfl, hGr, hBr⟩ := hcut
  have WT := hide hGr
  have BW4 := hide hBr
  have TA4 := hide ((unhide XT).later hBr)
  have SA4 := hide ((unhide XS).later hBr)
  clear hGr hBr BA CS
  obtain ⟨p0, p1, p2, p3, p4, p5, p6⟩ := (unhide TA4).cells
  go_wp2_with fail
  refine (unhide CF _ (unhide TA4).ins (unhide TA4).trs).mono ?_
  rintro e3 w5 ⟨g1, g2, hg1, hg2, rfl, i5, j5, b5⟩
  try dsimp only at i5 j5
  try dsimp only [tvT, tv]
  have lt1 : g1 < w5.heap.size := by obtain ⟨C, h, _⟩ := i5; exact heapLt h
  have lt2 : g2 < w5.heap.size := by obtain ⟨C, h, _⟩ := j5; exact heapLt h
  have b6 := below1 w5 (.cells #[.int .i64 x, .slice (some ⟨g1, 0, none⟩) l.length l.length, .int .i64 y, .bool has, .int .i64 z, .int .i64 t, .slice (some ⟨g2, 0, none⟩) l2.length l2.length] 30)
  have HX6 := hide (heap_alloc_new w5 (.cells #[.int .i64 x, .slice (some ⟨g1, 0, none⟩) l.length l.length, .int .i64 y, .bool has, .int .i64 z, .int .i64 t, .slice (some ⟨g2, 0, none⟩) l2.length l2.length] 30))
  have IX6 := hide (And.intro (i5.later b6) (j5.later b6))
  have z6 := sz1' w5 (.cells #[.int .i64 x, .slice (some ⟨g1, 0, none⟩) l.length l.length, .int .i64 y, .bool has, .int .i64 z, .int .i64 t, .slice (some ⟨g2, 0, none⟩) l2.length l2.length] 30)
  have BC6 := hide (b5.trans (b6.mono b5.size))
  have SA6 := hide ((unhide SA4).later (unhide BC6))
  have hs5 := b5.size
  clear i5 j5 b5 b6 p0 p1 p2 p3 p4 p5 p6
  obtain ⟨u0, u1, u2, u3⟩ := (unhide SA6).cells
  go_wp2_with fail
  refine (toSigIndex_fill _ sx sy _ _ l3 l4 (unhide SA6).trs (unhide SA6).inb hl3 hl4).mono ?_
  generalize hW6 : w5.alloc _ = W6 at *
  clear hW6
  generalize w5.heap.size = Xb at *
  clear w5
  rintro e4 w7 ⟨g3, g4, hg3, hg34, rfl, i7, j7, b7⟩
  have lt4 : g4 < w7.heap.size := by obtain ⟨C, h, _⟩ := j7; exact heapLt h
  have b8 := below1 w7 (.cells #[.int .i64 sx, .int .i64 sy, .slice (some ⟨g3, 0, none⟩) l3.length l3.length, .slice (some ⟨g4, 0, none⟩) l4.length l4.length] 32)
  have HS8 := hide (heap_alloc_new w7 (.cells #[.int .i64 sx, .int .i64 sy, .slice (some ⟨g3, 0, none⟩) l3.length l3.length, .slice (some ⟨g4, 0, none⟩) l4.length l4.length] 32))
  have IS8 := hide (And.intro (i7.later b8) (j7.later b8))
  have z8 := sz1' w7 (.cells #[.int .i64 sx, .int .i64 sy, .slice (some ⟨g3, 0, none⟩) l3.length l3.length, .slice (some ⟨g4, 0, none⟩) l4.length l4.length] 32)
  have hs7 := b7.size
  have bb := b7.trans (b8.mono b7.size)
  have HX8 := hide ((bb.block _ (heapLt (unhide HX6))).trans (unhide HX6))
  have IX8 := hide (And.intro ((unhide IX6).1.later bb) ((unhide IX6).2.later bb))
  have BC8 := hide ((unhide BC6).trans (bb.mono (unhide BC6).size))
  clear i7 j7 b7 b8 bb HX6 IX6 BC6 SA6 u0 u1 u2 u3
  obtain ⟨p0, p1, p2, p3, p4, p5, p6⟩ := box7 (unhide HX8)
  obtain ⟨u0, u1, u2, u3⟩ := box4f (unhide HS8)
  have HG6 : Hid (Xb + 1 = W6.heap.size ∧ g1 < Xb ∧ g2 < Xb ∧ W6.heap.size ≤ w7.heap.size) := ⟨z6.symm, lt1, lt2, hs7⟩
  have HNUM := hide (And.intro z6 (And.intro z8 (And.intro hs7 hs5)))
  clear z6 z8 hs7 hs5
  go_wp2_with fail
  refine (unhide CI _ _ _ _ _ ((unhide IX8).1.ins hl1) ((unhide IX8).2.trs hl2) ((unhide IS8).1.trs hl3) ((unhide IS8).2.ins hl4)).mono ?_
  have HGAP : Hid (g1 < (w7.alloc (.cells #[.int .i64 sx, .int .i64 sy, .slice (some ⟨g3, 0, none⟩) l3.length l3.length, .slice (some ⟨g4, 0, none⟩) l4.length l4.length] 32)).heap.size ∧ g2 < (w7.alloc (.cells #[.int .i64 sx, .int .i64 sy, .slice (some ⟨g3, 0, none⟩) l3.length l3.length, .slice (some ⟨g4, 0, none⟩) l4.length l4.length] 32)).heap.size ∧ g3 < (w7.alloc (.cells #[.int .i64 sx, .int .i64 sy, .slice (some ⟨g3, 0, none⟩) l3.length l3.length, .slice (some ⟨g4, 0, none⟩) l4.length l4.length] 32)).heap.size ∧ g4 < (w7.alloc (.cells #[.int .i64 sx, .int .i64 sy, .slice (some ⟨g3, 0, none⟩) l3.length l3.length, .slice (some ⟨g4, 0, none⟩) l4.length l4.length] 32)).heap.size ∧ wc.heap.size ≤ g3) := by
    have := unhide HNUM
    refine ⟨?_, ?_, ?_, ?_, ?_⟩ <;> omega
  clear HNUM
  generalize hW8 : w7.alloc _ = W8 at *
  clear hW8
  generalize w7.heap.size = Sb at *
  clear w7
  rintro e5 w9 ⟨kv9, mv9, rfl, ok9, om9, b9⟩
  obtain ⟨ia, ic, ek⟩ := own_formS ok9
  obtain ⟨ja, jc, em⟩ := own_formS om9
  try dsimp only at ek em ok9 om9
  subst ek em
  try dsimp only [tvT, tv]
  have b10 := below1 w9 (.cells #[.int .i64 q.n, .slice ia q.ks.length ic, .int .i64 q.d, .bool q.has, .int .i64 q.num, .int .i64 q.til, .slice ja q.ms.length jc] 30)
  have G10 := hide (Go0.new ok9 om9 b9.size)
  have bb := b9.trans (b10.mono b9.size)
  have HX10 := hide ((bb.block _ (heapLt (unhide HX8))).trans (unhide HX8))
  have HS10 := hide ((bb.block _ (heapLt (unhide HS8))).trans (unhide HS8))
  have IX10 := hide (And.intro ((unhide IX8).1.later bb) ((unhide IX8).2.later bb))
  have IS10 := hide (And.intro ((unhide IS8).1.later bb) ((unhide IS8).2.later bb))
  have BW10 := hide ((unhide BC8).trans (bb.mono (unhide BC8).size))
  have W10 := hide ((unhide WT).later (unhide BW10))
  clear ok9 om9 b9 b10 bb HX8 HS8 IX8 IS8 BC8 p0 p1 p2 p3 p4 p5 p6 u0 u1 u2 u3
  obtain ⟨gg0, gg1, gg2, gg3, gg4, gg5, gg6⟩ := ((unhide G10).tb hqk hqm).cells
  obtain ⟨ww0, ww1, ww2, ww3, ww4, ww5, ww6⟩ := ((unhide W10).tb hqk hqm).cells
  have CE := hide (fun (W : World) h1 h2 h3 h4 => eqTrust_any W q (.slice ia q.ks.length ic) (.slice ja q.ms.length jc) (.slice kW q.ks.length kcW) (.slice mW q.ms.length mcW) h1 h2 h3 h4)
  dsimp only [tvT, tv] at CE
  go_wp2_with fail
  refine (unhide CE _ ((unhide G10).tb hqk hqm).ins ((unhide G10).tb hqk hqm).trs ((unhide W10).tb hqk hqm).ins ((unhide W10).tb hqk hqm).trs).mono ?_
  generalize hW10 : w9.alloc (.cells #[.int .i64 q.n, .slice ia q.ks.length ic, .int .i64 q.d, .bool q.has, .int .i64 q.num, .int .i64 q.til, .slice ja q.ms.length jc] 30) = W10w at *
  clear hW10
  generalize w9.heap.size = Gb at *
  clear w9
  rintro e6 w11 ⟨rfl, b11⟩
  have HX11 := hide ((b11.block _ (heapLt (unhide HX10))).trans (unhide HX10))
  have HS11 := hide ((b11.block _ (heapLt (unhide HS10))).trans (unhide HS10))
  have IX11 := hide (And.intro ((unhide IX10).1.later b11) ((unhide IX10).2.later b11))
  have IS11 := hide (And.intro ((unhide IS10).1.later b11) ((unhide IS10).2.later b11))
  have G11 := hide ((unhide G10).later b11)
  have BW11 := hide ((unhide BW10).trans (b11.mono (unhide BW10).size))
  clear b11 G10 W10 HX10 HS10 IX10 IS10 BW10 gg0 gg1 gg2 gg3 gg4 gg5 gg6 ww0 ww1 ww2 ww3 ww4 ww5 ww6
  have A11 : Hid (Tb w11 w.heap.size x y (.slice a l.length c) l has z t (.slice b l2.length e) l2) := (unhide TA4).later (unhide BW11)
  have Y11 : Hid (Tb w11 Xb x y (.slice (some ⟨g1, 0, none⟩) l.length l.length) l has z t (.slice (some ⟨g2, 0, none⟩) l2.length l2.length) l2) := (⟨heapLt (unhide HX11), cellOf (unhide HX11) 0, cellOf (unhide HX11) 1, cellOf (unhide HX11) 2, cellOf (unhide HX11) 3, cellOf (unhide HX11) 4, cellOf (unhide HX11) 5, cellOf (unhide HX11) 6, (unhide IX11).1.ins hl1, (unhide IX11).2.trs hl2⟩ : Tb w11 Xb x y (.slice (some ⟨g1, 0, none⟩) l.length l.length) l has z t (.slice (some ⟨g2, 0, none⟩) l2.length l2.length) l2)
  have CE2 := hide (fun (W : World) (k2 m2 : Value) h1 h2 h3 h4 => eqTrust_any W ⟨x, l, y, has, z, t, l2⟩ (.slice (some ⟨g1, 0, none⟩) l.length l.length) (.slice (some ⟨g2, 0, none⟩) l2.length l2.length) k2 m2 h1 h2 h3 h4)
  dsimp only [tvT, tv] at CE2
  have A11' := hide ((unhide A11).later (below_drew w11))
  have Y11' := hide ((unhide Y11).later (below_drew w11))
  obtain ⟨p0, p1, p2, p3, p4, p5, p6⟩ := (unhide A11).cells
  obtain ⟨q0, q1, q2, q3, q4, q5, q6⟩ := (unhide Y11).cells
  go_wp2_with fail
  go_region_held3 (fun w' => (w'.cell? ⟨w.heap.size, 0, none⟩ = some (.int .i64 x) ∧ w'.cell? ⟨w.heap.size, 1, none⟩ = some (.slice a l.length c) ∧ w'.cell? ⟨w.heap.size, 2, none⟩ = some (.int .i64 y) ∧ w'.cell? ⟨w.heap.size, 3, none⟩ = some (.bool has) ∧ w'.cell? ⟨w.heap.size, 4, none⟩ = some (.int .i64 z) ∧ w'.cell? ⟨w.heap.size, 5, none⟩ = some (.int .i64 t) ∧ w'.cell? ⟨w.heap.size, 6, none⟩ = some (.slice b l2.length e)) ∧ (w'.cell? ⟨Xb, 0, none⟩ = some (.int .i64 x) ∧ w'.cell? ⟨Xb, 1, none⟩ = some (.slice (some ⟨g1, 0, none⟩) l.length l.length) ∧ w'.cell? ⟨Xb, 2, none⟩ = some (.int .i64 y) ∧ w'.cell? ⟨Xb, 3, none⟩ = some (.bool has) ∧ w'.cell? ⟨Xb, 4, none⟩ = some (.int .i64 z) ∧ w'.cell? ⟨Xb, 5, none⟩ = some (.int .i64 t) ∧ w'.cell? ⟨Xb, 6, none⟩ = some (.slice (some ⟨g2, 0, none⟩) l2.length l2.length)))
    (first
      | (go_keep; done)
      | exact ⟨(unhide A13).cells, (unhide Y13).cells⟩
      | exact ⟨(unhide A12).cells, (unhide Y12).cells⟩
      | fail)
    (first
      | (go_at_call 32; refine (unhide CT _ (by exact (unhide A11').ins) (by exact (unhide A11').trs)).mono ?_; rintro e7 w12 ⟨kv12, mv12, rfl, i12, j12, b12⟩; (try dsimp only at i12 j12); have A12 := hide ((unhide A11').later b12); have Y12 := hide ((unhide Y11').later b12))
      | (go_at_call 24; refine (unhide CE2 _ _ _ (by exact (unhide Y12).ins) (by exact (unhide Y12).trs) (by exact i12) (by exact j12)).mono ?_; rintro e8 w13 ⟨rfl, b13⟩; have A13 := hide ((unhide A12).later b13); have Y13 := hide ((unhide Y12).later b13)))
  have bd : Below w11.heap.size w11 w13 := (below_drew w11).trans (b12.trans (b13.mono b12.size))
  have HX13 := hide ((bd.block _ (heapLt (unhide HX11))).trans (unhide HX11))
  have HS13 := hide ((bd.block _ (heapLt (unhide HS11))).trans (unhide HS11))
  have IX13 := hide (And.intro ((unhide IX11).1.later bd) ((unhide IX11).2.later bd))
  have IS13 := hide (And.intro ((unhide IS11).1.later bd) ((unhide IS11).2.later bd))
  have G13 := hide ((unhide G11).later bd)
  have BW13 := hide ((unhide BW11).trans (bd.mono (unhide BW11).size))
  clear bd b12 b13 i12 j12 p0 p1 p2 p3 p4 p5 p6 q0 q1 q2 q3 q4 q5 q6 A11 Y11 A11' Y11' A12 Y12 A13 Y13 HX11 HS11 IX11 IS11 G11 BW11 CE2
  have A13 : Hid (Si w13 (w.heap.size + 1) sx sy (.slice sa l3.length sc) (.slice ba l4.length be) l3 l4) := (unhide SA4).later (unhide BW13)
  have Y13 : Hid (Si w13 Sb sx sy (.slice (some ⟨g3, 0, none⟩) l3.length l3.length) (.slice (some ⟨g4, 0, none⟩) l4.length l4.length) l3 l4) := (⟨heapLt (unhide HS13), cellOf (unhide HS13) 0, cellOf (unhide HS13) 1, cellOf (unhide HS13) 2, cellOf (unhide HS13) 3, (unhide IS13).1.trs hl3, (unhide IS13).2.ins hl4⟩ : Si w13 Sb sx sy (.slice (some ⟨g3, 0, none⟩) l3.length l3.length) (.slice (some ⟨g4, 0, none⟩) l4.length l4.length) l3 l4)
  have A13' := hide ((unhide A13).later (below_drew w13))
  have Y13' := hide ((unhide Y13).later (below_drew w13))
  obtain ⟨p0, p1, p2, p3⟩ := (unhide A13).cells
  obtain ⟨q0, q1, q2, q3⟩ := (unhide Y13).cells
  go_wp2_with fail
  go_region_held3 (fun w' => (w'.cell? ⟨w.heap.size + 1, 0, none⟩ = some (.int .i64 sx) ∧ w'.cell? ⟨w.heap.size + 1, 1, none⟩ = some (.int .i64 sy) ∧ w'.cell? ⟨w.heap.size + 1, 2, none⟩ = some (.slice sa l3.length sc) ∧ w'.cell? ⟨w.heap.size + 1, 3, none⟩ = some (.slice ba l4.length be)) ∧ (w'.cell? ⟨Sb, 0, none⟩ = some (.int .i64 sx) ∧ w'.cell? ⟨Sb, 1, none⟩ = some (.int .i64 sy) ∧ w'.cell? ⟨Sb, 2, none⟩ = some (.slice (some ⟨g3, 0, none⟩) l3.length l3.length) ∧ w'.cell? ⟨Sb, 3, none⟩ = some (.slice (some ⟨g4, 0, none⟩) l4.length l4.length)))
    (first
      | (go_keep; done)
      | exact ⟨(unhide A15).cells, (unhide Y15).cells⟩
      | exact ⟨(unhide A14).cells, (unhide Y14).cells⟩
      | fail)
    (first
      | (go_at_call 37; refine (toSigIndex_any _ sx sy _ _ l3 l4 (by exact (unhide A13').trs) (by exact (unhide A13').inb) hl3 hl4).mono ?_; rintro e9 w14 ⟨v14, vb14, rfl, i14, j14, b14⟩; have A14 := hide ((unhide A13').later b14); have Y14 := hide ((unhide Y13').later b14))
      | (go_at_call 38; refine (eqSigIndex_any _ sx sy _ _ _ _ l3 l4 (by exact (unhide Y14).trs) (by exact (unhide Y14).inb) (by exact i14) (by exact j14)).mono ?_; rintro e10 w15 ⟨rfl, b15⟩; have A15 := hide ((unhide A14).later b15); have Y15 := hide ((unhide Y14).later b15)))
  have bd : Below w13.heap.size w13 w15 := (below_drew w13).trans (b14.trans (b15.mono b14.size))
  have HX15 := hide ((bd.block _ (heapLt (unhide HX13))).trans (unhide HX13))
  have HS15 := hide ((bd.block _ (heapLt (unhide HS13))).trans (unhide HS13))
  have IX15 := hide (And.intro ((unhide IX13).1.later bd) ((unhide IX13).2.later bd))
  have IS15 := hide (And.intro ((unhide IS13).1.later bd) ((unhide IS13).2.later bd))
  have G15 := hide ((unhide G13).later bd)
  have BW15 := hide ((unhide BW13).trans (bd.mono (unhide BW13).size))
  clear bd b14 b15 i14 j14 p0 p1 p2 p3 q0 q1 q2 q3 A13 Y13 A13' Y13' A14 Y14 A15 Y15 HX13 HS13 IX13 IS13 G13 BW13
  have hgp := unhide HGAP
  obtain ⟨p0, p1, p2, p3, p4, p5, p6⟩ := box7 (unhide HX15)
  have CMX := hide (fun (W : World) h1 h2 => markTrust_any W ⟨x, l, y, has, z, t, l2⟩ (.slice (some ⟨g1, 0, none⟩) l.length l.length) (.slice (some ⟨g2, 0, none⟩) l2.length l2.length) wc.heap.size 1 h1 h2 hl1 hl2 (by omega) (by omega))
  dsimp only [tvT, tv] at CMX
  go_wp2_with fail
  refine (unhide CMX _ ((unhide IX15).1.own hg1 hl1) ((unhide IX15).2.own hg2 hl2)).mono ?_
  rintro e11 w16 ⟨rfl, _, _, f16⟩
  try dsimp only at f16
  have hN16 : ∀ k, (Value.slice (some ⟨g1, 0, none⟩) l.length l.length).ownBlock = some k ∨ (Value.slice (some ⟨g2, 0, none⟩) l2.length l2.length).ownBlock = some k → k = g1 ∨ k = g2 := fun k hk => hk.elim (fun e => .inl (by injection e with e; exact e.symm)) (fun e => .inr (by injection e with e; exact e.symm))
  have G16 := hide ((unhide G15).fr f16 (fun k hk => by rcases hN16 k hk with e | e <;> omega))
  have BW16 := hide ((unhide BW15).trans (f16.below (B := wc.heap.size) (unhide BW15).size (fun k hk => by rcases hN16 k hk with e | e <;> omega)))
  have hlt16 : g1 < W6.heap.size ∧ g2 < W6.heap.size ∧ W6.heap.size ≤ g3 := by have := unhide HG6; omega
  have IS16 := hide (And.intro ((unhide IS15).1.keep (f16.block g3 (by obtain ⟨C, h, _⟩ := (unhide IS15).1; exact heapLt h) (fun hk => by rcases hN16 g3 hk with e | e <;> omega))) ((unhide IS15).2.keep (f16.block g4 (by obtain ⟨C, h, _⟩ := (unhide IS15).2; exact heapLt h) (fun hk => by rcases hN16 g4 hk with e | e <;> omega))))
  have HS16 := hide ((f16.block Sb (heapLt (unhide HS15)) (fun hk => by rcases hN16 Sb hk with e | e <;> have := (unhide HG6).2.2.2 <;> omega)).trans (unhide HS15))
  clear f16 hN16 HX15 HS15 IX15 IS15 G15 BW15 p0 p1 p2 p3 p4 p5 p6 CMX
  obtain ⟨p0, p1, p2, p3⟩ := box4f (unhide HS16)
  go_wp2_with fail
  refine (markSigIndex_any _ sx sy _ _ l3 l4 wc.heap.size (1 + l.length + 3 * l2.length) ((unhide IS16).1.own (by omega) hl3) ((unhide IS16).2.own (by omega) hl4) hl3 hl4 (by omega) (by omega)).mono ?_
  rintro e12 w17 ⟨rfl, f17⟩
  have hN17 : ∀ k, (Value.slice (some ⟨g3, 0, none⟩) l3.length l3.length).ownBlock = some k ∨ (Value.slice (some ⟨g4, 0, none⟩) l4.length l4.length).ownBlock = some k → k = g3 ∨ k = g4 := fun k hk => hk.elim (fun e => .inl (by injection e with e; exact e.symm)) (fun e => .inr (by injection e with e; exact e.symm))
  have G17 := hide ((unhide G16).fr f17 (fun k hk => by rcases hN17 k hk with e | e <;> omega))
  have BW17 := hide ((unhide BW16).trans (f17.below (B := wc.heap.size) (unhide BW16).size (fun k hk => by rcases hN17 k hk with e | e <;> omega)))
  have W17 := hide ((unhide WT).later (unhide BW17))
  clear f17 hN17 HS16 IS16 G16 BW16 p0 p1 p2 p3
  have hk17 : ¬ (1 + (l.length : Int) + 3 * (l2.length : Int) + 3 * (l3.length : Int) + (l4.length : Int)) < 0 := by omega
  obtain ⟨gg0, gg1, gg2, gg3, gg4, gg5, gg6⟩ := ((unhide G17).tb hqk hqm).cells
  obtain ⟨ww0, ww1, ww2, ww3, ww4, ww5, ww6⟩ := ((unhide W17).tb hqk hqm).cells
  go_wp2_with fail
  refine (unhide CE _ ((unhide G17).tb hqk hqm).ins ((unhide G17).tb hqk hqm).trs ((unhide W17).tb hqk hqm).ins ((unhide W17).tb hqk hqm).trs).mono ?_
  rintro e13 w18 ⟨rfl, b18⟩
  have G18 := hide ((unhide G17).later b18)
  have BW18 := hide ((unhide BW17).trans (b18.mono (unhide BW17).size))
  clear b18 G17 W17 BW17 gg0 gg1 gg2 gg3 gg4 gg5 gg6 ww0 ww1 ww2 ww3 ww4 ww5 ww6 CE
  obtain ⟨gg0, gg1, gg2, gg3, gg4, gg5, gg6⟩ := ((unhide G18).tb hqk hqm).cells
  have CM := hide (fun (W : World) h1 h2 => markTrust_any W q (.slice ia q.ks.length ic) (.slice ja q.ms.length jc) W8.heap.size 1 h1 h2 hqk hqm (by omega) (by omega))
  have CH := hide (fun (W : World) h1 h2 => heldTrust_any W q (.slice ia q.ks.length ic) (.slice ja q.ms.length jc) W8.heap.size 1 h1 h2 hqk hqm (by omega) (by omega))
  dsimp only [tvT, tv] at CM CH
  go_wp2_with fail
  refine (unhide CM _ (unhide G18).ks (unhide G18).ms).mono ?_
  rintro e14 w19 ⟨rfl, mk19, mm19, f19⟩
  have BW19 := hide ((unhide BW18).trans (f19.below (B := wc.heap.size) (unhide BW18).size (fun k hk => by
    rcases hk with hk | hk
    · have := (own_row (unhide G18).ks k hk).1; omega
    · have := (own_row (unhide G18).ms k hk).1; omega)))
  have HG19 := hide ((unhide G18).marked f19)
  have MK19 := hide (And.intro mk19 mm19)
  clear f19 mk19 mm19 G18 BW18 gg0 gg1 gg2 gg3 gg4 gg5 gg6 CM
  have hz1 : ¬ (1 + (q.ks.length : Int) + 3 * (q.ms.length : Int)) < 0 := by omega
  have hz2 : (1 + (q.ks.length : Int) + 3 * (q.ms.length : Int) != 1 + (q.ks.length : Int) + 3 * (q.ms.length : Int)) = false := by simp
  obtain ⟨gg0, gg1, gg2, gg3, gg4, gg5, gg6⟩ := box7 (unhide HG19)
  go_wp2_with fail
  refine (unhide CH _ (unhide MK19).1 (unhide MK19).2).mono ?_
  rintro e15 w20 ⟨rfl, b20⟩
  have HG20 := hide ((b20.block _ (heapLt (unhide HG19))).trans (unhide HG19))
  have BW20 := hide ((unhide BW19).trans (b20.mono (unhide BW19).size))
  have MK20 := hide (And.intro (own_later (unhide MK19).1 b20) (own_later (unhide MK19).2 b20))
  clear b20 HG19 BW19 MK19 gg0 gg1 gg2 gg3 gg4 gg5 gg6
  have BA : Hid (Below w2.heap.size w2 w20) := (unhide BW4).trans ((unhide BW20).mono (unhide BW4).size)
  have WT' := hide ((unhide WT).later (unhide BW20))
  have HG20' := HG20
  have MK20' := MK20
  go_wp2_with  fail
  go_cut [17, 18] from 98 to 106 (fun y o wx => ∃ (Yb : Nat) (ka3 : Option Addr) (kc3 : Nat) (ma3 : Option Addr) (mc3 : Nat), y = .pointer (some ⟨Yb, 0, none⟩) ∧ o = .bool bq ∧ Go0 w20.heap.size wx Yb q (.slice ka3 q.ks.length kc3) (.slice ma3 q.ms.length mc3) ∧ Below w20.heap.size w20 wx)
  case first =>
    obtain ⟨hc1, hc2⟩ : _ ∧ _ := ⟨((unhide XT).later (unhide BA)).cells, ((unhide XS).later (unhide BA)).cells⟩
    refine wp_region_held_drew (S := fun w' => (w'.cell? ⟨w.heap.size, 0, none⟩ = some (.int .i64 x) ∧ w'.cell? ⟨w.heap.size, 1, none⟩ = some (.slice a l.length c) ∧ w'.cell? ⟨w.heap.size, 2, none⟩ = some (.int .i64 y) ∧ w'.cell? ⟨w.heap.size, 3, none⟩ = some (.bool has) ∧ w'.cell? ⟨w.heap.size, 4, none⟩ = some (.int .i64 z) ∧ w'.cell? ⟨w.heap.size, 5, none⟩ = some (.int .i64 t) ∧ w'.cell? ⟨w.heap.size, 6, none⟩ = some (.slice b l2.length e)) ∧ (w'.cell? ⟨w.heap.size + 1, 0, none⟩ = some (.int .i64 sx) ∧ w'.cell? ⟨w.heap.size + 1, 1, none⟩ = some (.int .i64 sy) ∧ w'.cell? ⟨w.heap.size + 1, 2, none⟩ = some (.slice sa l3.length sc) ∧ w'.cell? ⟨w.heap.size + 1, 3, none⟩ = some (.slice ba l4.length be))) (by kernel_rfl) ⟨hc1, hc2⟩ (fun hHeld => ?_)
    clear hc1 hc2
    refine anyH_at (i := 0) (d := some 99) rfl rfl (by kernel_rfl) (by kernel_rfl) (by kernel_rfl) (fun _ _ _ h => h) (by rfl) (v := ?_) ?_ (by assumption) ?_
    rotate_left
    · (intro w hSw; (try dsimp only at hSw); go_simp <;> with_reducible rfl)
    simp only [Act.put, List.setIfInBounds_toArray, List.set_cons_zero, List.set_cons_succ]
    refine anyH_at (i := 2) (d := some 101) rfl rfl (by kernel_rfl) (by kernel_rfl) (by kernel_rfl) (fun _ _ _ h => h) (by rfl) (v := ?_) ?_ (by assumption) ?_
    rotate_left
    · (intro w hSw; (try dsimp only at hSw); go_simp <;> with_reducible rfl)
    simp only [Act.put, List.setIfInBounds_toArray, List.set_cons_zero, List.set_cons_succ]
    refine anyH_at (i := 4) (d := some 103) rfl rfl (by kernel_rfl) (by kernel_rfl) (by kernel_rfl) (fun _ _ _ h => h) (by rfl) (v := ?_) ?_ (by assumption) ?_
    rotate_left
    · (intro w hSw; (try dsimp only at hSw); go_simp <;> with_reducible rfl)
    simp only [Act.put, List.setIfInBounds_toArray, List.set_cons_zero, List.set_cons_succ]
    have D0 : Hid (Below w20.heap.size w20 w20.drew) := below_drew w20
    refine wpAnyH_ready (rs := [1, 9]) (by kernel_rfl) (by simp) ?_
    refine AllReadyH.cons rfl (fun K hK => ?_) (AllReadyH.cons rfl (fun K hK => ?_) AllReadyH.nil)
    rotate_left
    · go_simp
      have D0y := hide ((unhide D0).trans ((below1 _ (.cells #[.int .i64 0, .slice none 0 0, .int .i64 0, .bool false, .int .i64 0, .int .i64 0, .slice none 0 0] 30)).mono (unhide D0).size))
      have Y0y := hide (heap_alloc_new w20.drew (.cells #[.int .i64 0, .slice none 0 0, .int .i64 0, .bool false, .int .i64 0, .int .i64 0, .slice none 0 0] 30))
      have LO : Hid (w20.heap.size ≤ w20.drew.heap.size) := (unhide D0).size
      rw [show w20.drew.heap.size = w20.heap.size from rfl] at Y0y LO
      refine hK.out _ _ ?_ (fun hHeldN => ?_)
      · exact ⟨((unhide XT).later ((unhide BA).trans ((unhide D0y).mono (unhide BA).size))).cells, ((unhide XS).later ((unhide BA).trans ((unhide D0y).mono (unhide BA).size))).cells⟩
      clear hHeld
      have hHeld := hHeldN
      clear hHeldN
      clear hK K
      try simp only [Act.put, List.setIfInBounds_toArray, List.set_cons_zero, List.set_cons_succ]
      refine wpAnyH_ready (rs := [1]) (by kernel_rfl) (by simp) ?_
      refine AllReadyH.cons rfl (fun K hK => ?_) AllReadyH.nil
      go_simp
      refine (unhide CT _ ((unhide XT).later ((unhide BA).trans ((unhide D0y).mono (unhide BA).size))).ins ((unhide XT).later ((unhide BA).trans ((unhide D0y).mono (unhide BA).size))).trs).mono ?_
      rintro e' u1 ⟨kv1, mv1, rfl, i1, j1, b1⟩
      try dsimp only at i1 j1
      obtain ⟨ka1, kc1, ek1⟩ := i1.slice
      obtain ⟨ma1, mc1, em1⟩ := j1.slice
      subst ek1 em1
      try dsimp only [tvT, tv]
      have I1y := hide (And.intro i1 j1)
      have D1y := hide ((unhide D0y).trans (b1.mono (unhide D0y).size))
      have Y1y := hide ((b1.block _ (heapLt (unhide Y0y))).trans (unhide Y0y))
      clear i1 j1 b1 D0y Y0y
      go_wp2_with fail
      refine hK.out _ _ ?_ (fun hHeldN => ?_)
      · exact ⟨((unhide XT).later ((unhide BA).trans ((unhide D1y).mono (unhide BA).size))).cells, ((unhide XS).later ((unhide BA).trans ((unhide D1y).mono (unhide BA).size))).cells⟩
      clear hHeld
      have hHeld := hHeldN
      clear hHeldN
      clear hK K
      try simp only [Act.put, List.setIfInBounds_toArray, List.set_cons_zero, List.set_cons_succ]
      refine wpAnyH_ready (rs := [3]) (by kernel_rfl) (by simp) ?_
      refine AllReadyH.cons rfl (fun K hK => ?_) AllReadyH.nil
      go_simp
      refine (toSigIndex_any _ sx sy _ _ l3 l4 ((unhide XS).later ((unhide BA).trans ((unhide D1y).mono (unhide BA).size))).trs ((unhide XS).later ((unhide BA).trans ((unhide D1y).mono (unhide BA).size))).inb hl3 hl4).mono ?_
      rintro e' u2 ⟨v2, vb2, rfl, i2, j2, b2⟩
      obtain ⟨sa2, sc2, ek2⟩ := i2.slice
      obtain ⟨ba2, be2, em2⟩ := j2.slice
      subst ek2 em2
      have J2y := hide (And.intro i2 j2)
      have I2y := hide (And.intro ((unhide I1y).1.later b2) ((unhide I1y).2.later b2))
      have D2y := hide ((unhide D1y).trans (b2.mono (unhide D1y).size))
      have Y2y := hide ((b2.block _ (heapLt (unhide Y1y))).trans (unhide Y1y))
      clear i2 j2 b2 I1y D1y Y1y
      go_wp2_with fail
      refine hK.out _ _ ?_ (fun hHeldN => ?_)
      · exact ⟨((unhide XT).later ((unhide BA).trans ((unhide D2y).mono (unhide BA).size))).cells, ((unhide XS).later ((unhide BA).trans ((unhide D2y).mono (unhide BA).size))).cells⟩
      clear hHeld
      have hHeld := hHeldN
      clear hHeldN
      clear hK K
      try simp only [Act.put, List.setIfInBounds_toArray, List.set_cons_zero, List.set_cons_succ]
      refine wpAnyH_ready (rs := [5]) (by kernel_rfl) (by simp) ?_
      refine AllReadyH.cons rfl (fun K hK => ?_) AllReadyH.nil
      go_simp
      refine (unhide CI _ _ _ _ _ (unhide I2y).1 (unhide I2y).2 (unhide J2y).1 (unhide J2y).2).mono ?_
      rintro e' u3 ⟨kv3, mv3, rfl, ok3, om3, b3⟩
      obtain ⟨ka3, kc3, ek3⟩ := own_formS ok3
      obtain ⟨ma3, mc3, em3⟩ := own_formS om3
      try dsimp only at ek3 em3 ok3 om3
      subst ek3 em3
      try dsimp only [tvT, tv]
      have O3y := hide (And.intro (own_base' ok3 (unhide D2y).size) (own_base' om3 (unhide D2y).size))
      have D3y := hide ((unhide D2y).trans (b3.mono (unhide D2y).size))
      have Y3y := hide ((b3.block _ (heapLt (unhide Y2y))).trans (unhide Y2y))
      clear ok3 om3 b3 I2y J2y D2y Y2y
      go_wp2_with fail
      refine hK.out _ _ ?_ (fun hHeldN => ?_)
      · exact ⟨((unhide XT).later ((unhide BA).trans ((unhide D3y).mono (unhide BA).size))).cells, ((unhide XS).later ((unhide BA).trans ((unhide D3y).mono (unhide BA).size))).cells⟩
      clear hHeld
      have hHeld := hHeldN
      clear hHeldN
      clear hK K
      try simp only [Act.put, List.setIfInBounds_toArray, List.set_cons_zero, List.set_cons_succ]
      refine anyH_at (i := 6) (d := some 98) rfl rfl (by kernel_rfl) (by kernel_rfl) (by kernel_rfl) (fun _ _ _ h => h) (by rfl) (v := ?_) ?_ (by assumption) ?_
      rotate_left
      · (intro w hSw; (try dsimp only at hSw); go_simp <;> with_reducible rfl)
      simp only [Act.put, List.setIfInBounds_toArray, List.set_cons_zero, List.set_cons_succ]
      refine anyH_at (i := 7) (d := some 105) rfl rfl (by kernel_rfl) (by kernel_rfl) (by kernel_rfl) (fun _ _ _ h => h) (by rfl) (v := ?_) ?_ (by assumption) ?_
      rotate_left
      · (intro w hSw; (try dsimp only at hSw); go_simp <;> with_reducible rfl)
      simp only [Act.put, List.setIfInBounds_toArray, List.set_cons_zero, List.set_cons_succ]
      refine anyH_at (i := 8) (d := some 106) rfl rfl (by kernel_rfl) (by kernel_rfl) (by kernel_rfl) (fun _ _ _ h => h) (by rfl) (v := ?_) ?_ (by assumption) ?_
      rotate_left
      · (intro w hSw; (try dsimp only at hSw); go_simp <;> with_reducible rfl)
      simp only [Act.put, List.setIfInBounds_toArray, List.set_cons_zero, List.set_cons_succ]
      refine wpAnyH_ready (rs := [10]) (by kernel_rfl) (by simp) ?_
      refine AllReadyH.cons rfl (fun K hK => ?_) AllReadyH.nil
      obtain ⟨y0, y1, y2, y3, y4, y5, y6⟩ := box7 (unhide Y3y)
      obtain ⟨yf0, yf1, yf2, yf3, yf4, yf5, yf6⟩ := frz7 (unhide Y3y)
      go_simp
      obtain ⟨hG, hBF⟩ := Go0.fill (W := w20) (t := q) (unhide Y3y) (unhide D3y) (unhide O3y).1 (unhide O3y).2 (unhide LO) rfl
      refine hK.out _ _ ?_ (fun hHeldN => ?_)
      · exact ⟨((unhide XT).later ((unhide BA).trans (hBF.mono (unhide BA).size))).cells, ((unhide XS).later ((unhide BA).trans (hBF.mono (unhide BA).size))).cells⟩
      clear hHeld
      have hHeld := hHeldN
      clear hHeldN
      clear hK K
      try simp only [Act.put, List.setIfInBounds_toArray, List.set_cons_zero, List.set_cons_succ]
      refine anyH_at (i := 11) (d := some 18) rfl rfl (by kernel_rfl) (by kernel_rfl) (by kernel_rfl) (fun _ _ _ h => h) (by rfl) (v := ?_) ?_ (by assumption) ?_
      rotate_left
      · (intro w hSw; (try dsimp only at hSw); go_simp <;> with_reducible rfl)
      simp only [Act.put, List.setIfInBounds_toArray, List.set_cons_zero, List.set_cons_succ]
      refine wpAnyH_done (by kernel_rfl) ?_ _
      go_wp2_with fail
      go_meet
      exact ⟨_, _, _, _, _, rfl, rfl, hG, hBF⟩
    go_simp
    refine (unhide CT _ ((unhide XT).later ((unhide BA).trans ((unhide D0).mono (unhide BA).size))).ins ((unhide XT).later ((unhide BA).trans ((unhide D0).mono (unhide BA).size))).trs).mono ?_
    rintro e' u1 ⟨kv1, mv1, rfl, i1, j1, b1⟩
    try dsimp only at i1 j1
    obtain ⟨ka1, kc1, ek1⟩ := i1.slice
    obtain ⟨ma1, mc1, em1⟩ := j1.slice
    subst ek1 em1
    try dsimp only [tvT, tv]
    have I1 := hide (And.intro i1 j1)
    have D1 := hide ((unhide D0).trans (b1.mono (unhide D0).size))
    clear i1 j1 b1 D0
    go_wp2_with fail
    refine hK.out _ _ ?_ (fun hHeldN => ?_)
    · exact ⟨((unhide XT).later ((unhide BA).trans ((unhide D1).mono (unhide BA).size))).cells, ((unhide XS).later ((unhide BA).trans ((unhide D1).mono (unhide BA).size))).cells⟩
    clear hHeld
    have hHeld := hHeldN
    clear hHeldN
    clear hK K
    try simp only [Act.put, List.setIfInBounds_toArray, List.set_cons_zero, List.set_cons_succ]
    refine wpAnyH_ready (rs := [3, 9]) (by kernel_rfl) (by simp) ?_
    refine AllReadyH.cons rfl (fun K hK => ?_) (AllReadyH.cons rfl (fun K hK => ?_) AllReadyH.nil)
    rotate_left
    · go_simp
      have D1y := hide ((unhide D1).trans ((below1 _ (.cells #[.int .i64 0, .slice none 0 0, .int .i64 0, .bool false, .int .i64 0, .int .i64 0, .slice none 0 0] 30)).mono (unhide D1).size))
      have Y1y := hide (heap_alloc_new u1 (.cells #[.int .i64 0, .slice none 0 0, .int .i64 0, .bool false, .int .i64 0, .int .i64 0, .slice none 0 0] 30))
      have LO : Hid (w20.heap.size ≤ u1.heap.size) := (unhide D1).size
      have I1y := hide (And.intro ((unhide I1).1.later (below1 _ (.cells #[.int .i64 0, .slice none 0 0, .int .i64 0, .bool false, .int .i64 0, .int .i64 0, .slice none 0 0] 30))) ((unhide I1).2.later (below1 _ (.cells #[.int .i64 0, .slice none 0 0, .int .i64 0, .bool false, .int .i64 0, .int .i64 0, .slice none 0 0] 30))))
      refine hK.out _ _ ?_ (fun hHeldN => ?_)
      · exact ⟨((unhide XT).later ((unhide BA).trans ((unhide D1y).mono (unhide BA).size))).cells, ((unhide XS).later ((unhide BA).trans ((unhide D1y).mono (unhide BA).size))).cells⟩
      clear hHeld
      have hHeld := hHeldN
      clear hHeldN
      clear hK K
      try simp only [Act.put, List.setIfInBounds_toArray, List.set_cons_zero, List.set_cons_succ]
      refine wpAnyH_ready (rs := [3]) (by kernel_rfl) (by simp) ?_
      refine AllReadyH.cons rfl (fun K hK => ?_) AllReadyH.nil
      go_simp
      refine (toSigIndex_any _ sx sy _ _ l3 l4 ((unhide XS).later ((unhide BA).trans ((unhide D1y).mono (unhide BA).size))).trs ((unhide XS).later ((unhide BA).trans ((unhide D1y).mono (unhide BA).size))).inb hl3 hl4).mono ?_
      rintro e' u2 ⟨v2, vb2, rfl, i2, j2, b2⟩
      obtain ⟨sa2, sc2, ek2⟩ := i2.slice
      obtain ⟨ba2, be2, em2⟩ := j2.slice
      subst ek2 em2
      have J2y := hide (And.intro i2 j2)
      have I2y := hide (And.intro ((unhide I1y).1.later b2) ((unhide I1y).2.later b2))
      have D2y := hide ((unhide D1y).trans (b2.mono (unhide D1y).size))
      have Y2y := hide ((b2.block _ (heapLt (unhide Y1y))).trans (unhide Y1y))
      clear i2 j2 b2 I1y D1y Y1y
      go_wp2_with fail
      refine hK.out _ _ ?_ (fun hHeldN => ?_)
      · exact ⟨((unhide XT).later ((unhide BA).trans ((unhide D2y).mono (unhide BA).size))).cells, ((unhide XS).later ((unhide BA).trans ((unhide D2y).mono (unhide BA).size))).cells⟩
      clear hHeld
      have hHeld := hHeldN
      clear hHeldN
      clear hK K
      try simp only [Act.put, List.setIfInBounds_toArray, List.set_cons_zero, List.set_cons_succ]
      refine wpAnyH_ready (rs := [5]) (by kernel_rfl) (by simp) ?_
      refine AllReadyH.cons rfl (fun K hK => ?_) AllReadyH.nil
      go_simp
      refine (unhide CI _ _ _ _ _ (unhide I2y).1 (unhide I2y).2 (unhide J2y).1 (unhide J2y).2).mono ?_
      rintro e' u3 ⟨kv3, mv3, rfl, ok3, om3, b3⟩
      obtain ⟨ka3, kc3, ek3⟩ := own_formS ok3
      obtain ⟨ma3, mc3, em3⟩ := own_formS om3
      try dsimp only at ek3 em3 ok3 om3
      subst ek3 em3
      try dsimp only [tvT, tv]
      have O3y := hide (And.intro (own_base' ok3 (unhide D2y).size) (own_base' om3 (unhide D2y).size))
      have D3y := hide ((unhide D2y).trans (b3.mono (unhide D2y).size))
      have Y3y := hide ((b3.block _ (heapLt (unhide Y2y))).trans (unhide Y2y))
      clear ok3 om3 b3 I2y J2y D2y Y2y
      go_wp2_with fail
      refine hK.out _ _ ?_ (fun hHeldN => ?_)
      · exact ⟨((unhide XT).later ((unhide BA).trans ((unhide D3y).mono (unhide BA).size))).cells, ((unhide XS).later ((unhide BA).trans ((unhide D3y).mono (unhide BA).size))).cells⟩
      clear hHeld
      have hHeld := hHeldN
      clear hHeldN
      clear hK K
      try simp only [Act.put, List.setIfInBounds_toArray, List.set_cons_zero, List.set_cons_succ]
      refine anyH_at (i := 6) (d := some 98) rfl rfl (by kernel_rfl) (by kernel_rfl) (by kernel_rfl) (fun _ _ _ h => h) (by rfl) (v := ?_) ?_ (by assumption) ?_
      rotate_left
      · (intro w hSw; (try dsimp only at hSw); go_simp <;> with_reducible rfl)
      simp only [Act.put, List.setIfInBounds_toArray, List.set_cons_zero, List.set_cons_succ]
      refine anyH_at (i := 7) (d := some 105) rfl rfl (by kernel_rfl) (by kernel_rfl) (by kernel_rfl) (fun _ _ _ h => h) (by rfl) (v := ?_) ?_ (by assumption) ?_
      rotate_left
      · (intro w hSw; (try dsimp only at hSw); go_simp <;> with_reducible rfl)
      simp only [Act.put, List.setIfInBounds_toArray, List.set_cons_zero, List.set_cons_succ]
      refine anyH_at (i := 8) (d := some 106) rfl rfl (by kernel_rfl) (by kernel_rfl) (by kernel_rfl) (fun _ _ _ h => h) (by rfl) (v := ?_) ?_ (by assumption) ?_
      rotate_left
      · (intro w hSw; (try dsimp only at hSw); go_simp <;> with_reducible rfl)
      simp only [Act.put, List.setIfInBounds_toArray, List.set_cons_zero, List.set_cons_succ]
      refine wpAnyH_ready (rs := [10]) (by kernel_rfl) (by simp) ?_
      refine AllReadyH.cons rfl (fun K hK => ?_) AllReadyH.nil
      obtain ⟨y0, y1, y2, y3, y4, y5, y6⟩ := box7 (unhide Y3y)
      obtain ⟨yf0, yf1, yf2, yf3, yf4, yf5, yf6⟩ := frz7 (unhide Y3y)
      go_simp
      obtain ⟨hG, hBF⟩ := Go0.fill (W := w20) (t := q) (unhide Y3y) (unhide D3y) (unhide O3y).1 (unhide O3y).2 (unhide LO) rfl
      refine hK.out _ _ ?_ (fun hHeldN => ?_)
      · exact ⟨((unhide XT).later ((unhide BA).trans (hBF.mono (unhide BA).size))).cells, ((unhide XS).later ((unhide BA).trans (hBF.mono (unhide BA).size))).cells⟩
      clear hHeld
      have hHeld := hHeldN
      clear hHeldN
      clear hK K
      try simp only [Act.put, List.setIfInBounds_toArray, List.set_cons_zero, List.set_cons_succ]
      refine anyH_at (i := 11) (d := some 18) rfl rfl (by kernel_rfl) (by kernel_rfl) (by kernel_rfl) (fun _ _ _ h => h) (by rfl) (v := ?_) ?_ (by assumption) ?_
      rotate_left
      · (intro w hSw; (try dsimp only at hSw); go_simp <;> with_reducible rfl)
      simp only [Act.put, List.setIfInBounds_toArray, List.set_cons_zero, List.set_cons_succ]
      refine wpAnyH_done (by kernel_rfl) ?_ _
      go_wp2_with fail
      go_meet
      exact ⟨_, _, _, _, _, rfl, rfl, hG, hBF⟩
    go_simp
    refine (toSigIndex_any _ sx sy _ _ l3 l4 ((unhide XS).later ((unhide BA).trans ((unhide D1).mono (unhide BA).size))).trs ((unhide XS).later ((unhide BA).trans ((unhide D1).mono (unhide BA).size))).inb hl3 hl4).mono ?_
    rintro e' u2 ⟨v2, vb2, rfl, i2, j2, b2⟩
    obtain ⟨sa2, sc2, ek2⟩ := i2.slice
    obtain ⟨ba2, be2, em2⟩ := j2.slice
    subst ek2 em2
    have J2 := hide (And.intro i2 j2)
    have I2 := hide (And.intro ((unhide I1).1.later b2) ((unhide I1).2.later b2))
    have D2 := hide ((unhide D1).trans (b2.mono (unhide D1).size))
    clear i2 j2 b2 I1 D1
    go_wp2_with fail
    refine hK.out _ _ ?_ (fun hHeldN => ?_)
    · exact ⟨((unhide XT).later ((unhide BA).trans ((unhide D2).mono (unhide BA).size))).cells, ((unhide XS).later ((unhide BA).trans ((unhide D2).mono (unhide BA).size))).cells⟩
    clear hHeld
    have hHeld := hHeldN
    clear hHeldN
    clear hK K
    try simp only [Act.put, List.setIfInBounds_toArray, List.set_cons_zero, List.set_cons_succ]
    refine wpAnyH_ready (rs := [5, 9]) (by kernel_rfl) (by simp) ?_
    refine AllReadyH.cons rfl (fun K hK => ?_) (AllReadyH.cons rfl (fun K hK => ?_) AllReadyH.nil)
    rotate_left
    · go_simp
      have D2y := hide ((unhide D2).trans ((below1 _ (.cells #[.int .i64 0, .slice none 0 0, .int .i64 0, .bool false, .int .i64 0, .int .i64 0, .slice none 0 0] 30)).mono (unhide D2).size))
      have Y2y := hide (heap_alloc_new u2 (.cells #[.int .i64 0, .slice none 0 0, .int .i64 0, .bool false, .int .i64 0, .int .i64 0, .slice none 0 0] 30))
      have LO : Hid (w20.heap.size ≤ u2.heap.size) := (unhide D2).size
      have I2y := hide (And.intro ((unhide I2).1.later (below1 _ (.cells #[.int .i64 0, .slice none 0 0, .int .i64 0, .bool false, .int .i64 0, .int .i64 0, .slice none 0 0] 30))) ((unhide I2).2.later (below1 _ (.cells #[.int .i64 0, .slice none 0 0, .int .i64 0, .bool false, .int .i64 0, .int .i64 0, .slice none 0 0] 30))))
      have J2y := hide (And.intro ((unhide J2).1.later (below1 _ (.cells #[.int .i64 0, .slice none 0 0, .int .i64 0, .bool false, .int .i64 0, .int .i64 0, .slice none 0 0] 30))) ((unhide J2).2.later (below1 _ (.cells #[.int .i64 0, .slice none 0 0, .int .i64 0, .bool false, .int .i64 0, .int .i64 0, .slice none 0 0] 30))))
      refine hK.out _ _ ?_ (fun hHeldN => ?_)
      · exact ⟨((unhide XT).later ((unhide BA).trans ((unhide D2y).mono (unhide BA).size))).cells, ((unhide XS).later ((unhide BA).trans ((unhide D2y).mono (unhide BA).size))).cells⟩
      clear hHeld
      have hHeld := hHeldN
      clear hHeldN
      clear hK K
      try simp only [Act.put, List.setIfInBounds_toArray, List.set_cons_zero, List.set_cons_succ]
      refine wpAnyH_ready (rs := [5]) (by kernel_rfl) (by simp) ?_
      refine AllReadyH.cons rfl (fun K hK => ?_) AllReadyH.nil
      go_simp
      refine (unhide CI _ _ _ _ _ (unhide I2y).1 (unhide I2y).2 (unhide J2y).1 (unhide J2y).2).mono ?_
      rintro e' u3 ⟨kv3, mv3, rfl, ok3, om3, b3⟩
      obtain ⟨ka3, kc3, ek3⟩ := own_formS ok3
      obtain ⟨ma3, mc3, em3⟩ := own_formS om3
      try dsimp only at ek3 em3 ok3 om3
      subst ek3 em3
      try dsimp only [tvT, tv]
      have O3y := hide (And.intro (own_base' ok3 (unhide D2y).size) (own_base' om3 (unhide D2y).size))
      have D3y := hide ((unhide D2y).trans (b3.mono (unhide D2y).size))
      have Y3y := hide ((b3.block _ (heapLt (unhide Y2y))).trans (unhide Y2y))
      clear ok3 om3 b3 I2y J2y D2y Y2y
      go_wp2_with fail
      refine hK.out _ _ ?_ (fun hHeldN => ?_)
      · exact ⟨((unhide XT).later ((unhide BA).trans ((unhide D3y).mono (unhide BA).size))).cells, ((unhide XS).later ((unhide BA).trans ((unhide D3y).mono (unhide BA).size))).cells⟩
      clear hHeld
      have hHeld := hHeldN
      clear hHeldN
      clear hK K
      try simp only [Act.put, List.setIfInBounds_toArray, List.set_cons_zero, List.set_cons_succ]
      refine anyH_at (i := 6) (d := some 98) rfl rfl (by kernel_rfl) (by kernel_rfl) (by kernel_rfl) (fun _ _ _ h => h) (by rfl) (v := ?_) ?_ (by assumption) ?_
      rotate_left
      · (intro w hSw; (try dsimp only at hSw); go_simp <;> with_reducible rfl)
      simp only [Act.put, List.setIfInBounds_toArray, List.set_cons_zero, List.set_cons_succ]
      refine anyH_at (i := 7) (d := some 105) rfl rfl (by kernel_rfl) (by kernel_rfl) (by kernel_rfl) (fun _ _ _ h => h) (by rfl) (v := ?_) ?_ (by assumption) ?_
      rotate_left
      · (intro w hSw; (try dsimp only at hSw); go_simp <;> with_reducible rfl)
      simp only [Act.put, List.setIfInBounds_toArray, List.set_cons_zero, List.set_cons_succ]
      refine anyH_at (i := 8) (d := some 106) rfl rfl (by kernel_rfl) (by kernel_rfl) (by kernel_rfl) (fun _ _ _ h => h) (by rfl) (v := ?_) ?_ (by assumption) ?_
      rotate_left
      · (intro w hSw; (try dsimp only at hSw); go_simp <;> with_reducible rfl)
      simp only [Act.put, List.setIfInBounds_toArray, List.set_cons_zero, List.set_cons_succ]
      refine wpAnyH_ready (rs := [10]) (by kernel_rfl) (by simp) ?_
      refine AllReadyH.cons rfl (fun K hK => ?_) AllReadyH.nil
      obtain ⟨y0, y1, y2, y3, y4, y5, y6⟩ := box7 (unhide Y3y)
      obtain ⟨yf0, yf1, yf2, yf3, yf4, yf5, yf6⟩ := frz7 (unhide Y3y)
      go_simp
      obtain ⟨hG, hBF⟩ := Go0.fill (W := w20) (t := q) (unhide Y3y) (unhide D3y) (unhide O3y).1 (unhide O3y).2 (unhide LO) rfl
      refine hK.out _ _ ?_ (fun hHeldN => ?_)
      · exact ⟨((unhide XT).later ((unhide BA).trans (hBF.mono (unhide BA).size))).cells, ((unhide XS).later ((unhide BA).trans (hBF.mono (unhide BA).size))).cells⟩
      clear hHeld
      have hHeld := hHeldN
      clear hHeldN
      clear hK K
      try simp only [Act.put, List.setIfInBounds_toArray, List.set_cons_zero, List.set_cons_succ]
      refine anyH_at (i := 11) (d := some 18) rfl rfl (by kernel_rfl) (by kernel_rfl) (by kernel_rfl) (fun _ _ _ h => h) (by rfl) (v := ?_) ?_ (by assumption) ?_
      rotate_left
      · (intro w hSw; (try dsimp only at hSw); go_simp <;> with_reducible rfl)
      simp only [Act.put, List.setIfInBounds_toArray, List.set_cons_zero, List.set_cons_succ]
      refine wpAnyH_done (by kernel_rfl) ?_ _
      go_wp2_with fail
      go_meet
      exact ⟨_, _, _, _, _, rfl, rfl, hG, hBF⟩
    go_simp
    refine (unhide CI _ _ _ _ _ (unhide I2).1 (unhide I2).2 (unhide J2).1 (unhide J2).2).mono ?_
    rintro e' u3 ⟨kv3, mv3, rfl, ok3, om3, b3⟩
    obtain ⟨ka3, kc3, ek3⟩ := own_formS ok3
    obtain ⟨ma3, mc3, em3⟩ := own_formS om3
    try dsimp only at ek3 em3 ok3 om3
    subst ek3 em3
    try dsimp only [tvT, tv]
    have O3 := hide (And.intro (own_base' ok3 (unhide D2).size) (own_base' om3 (unhide D2).size))
    have D3 := hide ((unhide D2).trans (b3.mono (unhide D2).size))
    clear ok3 om3 b3 I2 J2 D2
    go_wp2_with fail
    refine hK.out _ _ ?_ (fun hHeldN => ?_)
    · exact ⟨((unhide XT).later ((unhide BA).trans ((unhide D3).mono (unhide BA).size))).cells, ((unhide XS).later ((unhide BA).trans ((unhide D3).mono (unhide BA).size))).cells⟩
    clear hHeld
    have hHeld := hHeldN
    clear hHeldN
    clear hK K
    try simp only [Act.put, List.setIfInBounds_toArray, List.set_cons_zero, List.set_cons_succ]
    refine anyH_at (i := 6) (d := some 98) rfl rfl (by kernel_rfl) (by kernel_rfl) (by kernel_rfl) (fun _ _ _ h => h) (by rfl) (v := ?_) ?_ (by assumption) ?_
    rotate_left
    · (intro w hSw; (try dsimp only at hSw); go_simp <;> with_reducible rfl)
    simp only [Act.put, List.setIfInBounds_toArray, List.set_cons_zero, List.set_cons_succ]
    refine anyH_at (i := 7) (d := some 105) rfl rfl (by kernel_rfl) (by kernel_rfl) (by kernel_rfl) (fun _ _ _ h => h) (by rfl) (v := ?_) ?_ (by assumption) ?_
    rotate_left
    · (intro w hSw; (try dsimp only at hSw); go_simp <;> with_reducible rfl)
    simp only [Act.put, List.setIfInBounds_toArray, List.set_cons_zero, List.set_cons_succ]
    refine anyH_at (i := 8) (d := some 106) rfl rfl (by kernel_rfl) (by kernel_rfl) (by kernel_rfl) (fun _ _ _ h => h) (by rfl) (v := ?_) ?_ (by assumption) ?_
    rotate_left
    · (intro w hSw; (try dsimp only at hSw); go_simp <;> with_reducible rfl)
    simp only [Act.put, List.setIfInBounds_toArray, List.set_cons_zero, List.set_cons_succ]
    refine wpAnyH_ready (rs := [9]) (by kernel_rfl) (by simp) ?_
    refine AllReadyH.cons rfl (fun K hK => ?_) AllReadyH.nil
    go_simp
    have D3y := hide ((unhide D3).trans ((below1 _ (.cells #[.int .i64 0, .slice none 0 0, .int .i64 0, .bool false, .int .i64 0, .int .i64 0, .slice none 0 0] 30)).mono (unhide D3).size))
    have Y3y := hide (heap_alloc_new u3 (.cells #[.int .i64 0, .slice none 0 0, .int .i64 0, .bool false, .int .i64 0, .int .i64 0, .slice none 0 0] 30))
    have LO : Hid (w20.heap.size ≤ u3.heap.size) := (unhide D3).size
    have O3y := hide (And.intro (own_later (unhide O3).1 (below1 _ (.cells #[.int .i64 0, .slice none 0 0, .int .i64 0, .bool false, .int .i64 0, .int .i64 0, .slice none 0 0] 30))) (own_later (unhide O3).2 (below1 _ (.cells #[.int .i64 0, .slice none 0 0, .int .i64 0, .bool false, .int .i64 0, .int .i64 0, .slice none 0 0] 30))))
    refine hK.out _ _ ?_ (fun hHeldN => ?_)
    · exact ⟨((unhide XT).later ((unhide BA).trans ((unhide D3y).mono (unhide BA).size))).cells, ((unhide XS).later ((unhide BA).trans ((unhide D3y).mono (unhide BA).size))).cells⟩
    clear hHeld
    have hHeld := hHeldN
    clear hHeldN
    clear hK K
    try simp only [Act.put, List.setIfInBounds_toArray, List.set_cons_zero, List.set_cons_succ]
    generalize World.alloc _ _ = v3y at *
    generalize u3.heap.size = Yb at *
    refine wpAnyH_ready (rs := [10]) (by kernel_rfl) (by simp) ?_
    refine AllReadyH.cons rfl (fun K hK => ?_) AllReadyH.nil
    obtain ⟨y0, y1, y2, y3, y4, y5, y6⟩ := box7 (unhide Y3y)
    obtain ⟨yf0, yf1, yf2, yf3, yf4, yf5, yf6⟩ := frz7 (unhide Y3y)
    go_simp
    obtain ⟨hG, hBF⟩ := Go0.fill (W := w20) (t := q) (unhide Y3y) (unhide D3y) (unhide O3y).1 (unhide O3y).2 (unhide LO) rfl
    refine hK.out _ _ ?_ (fun hHeldN => ?_)
    · exact ⟨((unhide XT).later ((unhide BA).trans (hBF.mono (unhide BA).size))).cells, ((unhide XS).later ((unhide BA).trans (hBF.mono (unhide BA).size))).cells⟩
    clear hHeld
    have hHeld := hHeldN
    clear hHeldN
    clear hK K
    try simp only [Act.put, List.setIfInBounds_toArray, List.set_cons_zero, List.set_cons_succ]
    refine anyH_at (i := 11) (d := some 18) rfl rfl (by kernel_rfl) (by kernel_rfl) (by kernel_rfl) (fun _ _ _ h => h) (by rfl) (v := ?_) ?_ (by assumption) ?_
    rotate_left
    · (intro w hSw; (try dsimp only at hSw); go_simp <;> with_reducible rfl)
    simp only [Act.put, List.setIfInBounds_toArray, List.set_cons_zero, List.set_cons_succ]
    refine wpAnyH_done (by kernel_rfl) ?_ _
    go_wp2_with fail
    go_meet
    exact ⟨_, _, _, _, _, rfl, rfl, hG, hBF⟩
  case rest =>
  obtain ⟨Hb, kH, kcH, mH, mcH, rfl, rfl, hGr, hBr⟩ := hcut
  have H21 := hide hGr
  have W21 := hide ((unhide WT').later hBr)
  have HG21 := hide ((hBr.block _ (heapLt (unhide HG20))).trans (unhide HG20))
  have MK21 := hide (And.intro (own_later (unhide MK20).1 hBr) (own_later (unhide MK20).2 hBr))
  have B21 := hide ((unhide BA).trans (hBr.mono (unhide BA).size))
  clear hGr hBr WT' HG20 HG20' MK20 MK20' BA
  obtain ⟨gg0, gg1, gg2, gg3, gg4, gg5, gg6⟩ := ((unhide H21).tb hqk hqm).cells
  obtain ⟨ww0, ww1, ww2, ww3, ww4, ww5, ww6⟩ := ((unhide W21).tb hqk hqm).cells
  have CE := hide (fun (W : World) h1 h2 h3 h4 => eqTrust_any W q (.slice kH q.ks.length kcH) (.slice mH q.ms.length mcH) (.slice kW q.ks.length kcW) (.slice mW q.ms.length mcW) h1 h2 h3 h4)
  dsimp only [tvT, tv] at CE
  go_wp2_with fail
  refine (unhide CE _ ((unhide H21).tb hqk hqm).ins ((unhide H21).tb hqk hqm).trs ((unhide W21).tb hqk hqm).ins ((unhide W21).tb hqk hqm).trs).mono ?_
  rintro e16 w22 ⟨rfl, b22⟩
  have HG22 := hide ((b22.block _ (heapLt (unhide HG21))).trans (unhide HG21))
  have MK22 := hide (And.intro (own_later (unhide MK21).1 b22) (own_later (unhide MK21).2 b22))
  have B22 := hide ((unhide B21).trans (b22.mono (unhide B21).size))
  clear b22 HG21 MK21 B21 H21 W21 gg0 gg1 gg2 gg3 gg4 gg5 gg6 ww0 ww1 ww2 ww3 ww4 ww5 ww6 CE
  obtain ⟨gg0, gg1, gg2, gg3, gg4, gg5, gg6⟩ := box7 (unhide HG22)
  go_wp2_with fail
  refine (unhide CH _ (unhide MK22).1 (unhide MK22).2).mono ?_
  rintro e17 w23 ⟨rfl, b23⟩
  have B23 := (unhide B22).trans (b23.mono (unhide B22).size)
  have BE := hide ((unhide B2).trans (B23.mono (unhide B2).size))
  clear b23 B23 gg0 gg1 gg2 gg3 gg4 gg5 gg6
  go_wp2
  go_ret
  exact ⟨rfl, unhide BE⟩
end Go.Proofs.Ytkgeekjclcpbpaa
