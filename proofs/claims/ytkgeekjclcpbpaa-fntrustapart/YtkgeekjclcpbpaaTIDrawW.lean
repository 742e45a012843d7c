/- What spec's DrawTrustIndex returns: trust, a signed index that can be read, and a number. -/
import Derived.Test.YtkgeekjclcpbpaaTRDrawW
import Derived.Test.YtkgeekjclcpbpaaCopyTrW
import Derived.Deep.CutRange
namespace Go.Proofs.Ytkgeekjclcpbpaa
open Go.RowKit

attribute [local go_sem ↓] Go.wp_at_zero Go.wp_at_succ

/-- Trust that a call drew, and a box of an index. -/
structure TdY (B : Nat) (W : World) (blk : Nat) (w : World) (p X : Nat) (n d : Int) (kv : Value) (ks : List Int) (has : Bool) (num til : Int) (mv : Value) (ms : List Ix.M) (Y : Nat) (n2 t2 : Int) (v2 : Value) : Prop where
  td : Td B W blk w p X n d kv ks has num til mv ms
  hY : w.heap[Y]? = some (.cells #[.int .i64 n2, .int .i64 t2, v2] 28 (0, 0))
  lY : W.heap.size ≤ Y
  ne : Y ≠ X
section
variable {B : Nat} {W w w' : World} {blk p p' X Y : Nat} {n d num til n2 t2 a b : Int} {kv mv v2 v3 : Value} {ks : List Int} {has : Bool} {ms : List Ix.M}
theorem TdY.keep (h : TdY B W blk w p X n d kv ks has num til mv ms Y n2 t2 v2) (hk : Kp w.heap.size blk w w') (hr : Rd B w' blk p') : TdY B W blk w' p' X n d kv ks has num til mv ms Y n2 t2 v2 :=
  ⟨h.td.keep hk hr, h.td.dr.box hk h.lY h.hY, h.lY, h.ne⟩
theorem TdY.later (h : TdY B W blk w p X n d kv ks has num til mv ms Y n2 t2 v2) (hb : Below w.heap.size w w') : TdY B W blk w' p X n d kv ks has num til mv ms Y n2 t2 v2 := h.keep (Kp.of_below hb) (h.td.dr.later hb).rd
theorem TdY.new (h : Td B W blk w p X n d kv ks has num til mv ms) : TdY B W blk (w.alloc (.cells #[.int .i64 n2, .int .i64 t2, v2] 28)) p X n d kv ks has num til mv ms w.heap.size n2 t2 v2 :=
  ⟨h.later (below1 _ _), heap_alloc_new _ _, h.dr.size, by have := heapLt h.hX; omega⟩
theorem Td.setFar (h : Td B W blk w p X n d kv ks has num til mv ms) (hY : w.heap[Y]? = some (.cells #[.int .i64 n2, .int .i64 t2, v2] 28 (0, 0))) (lY : W.heap.size ≤ Y) (ne : Y ≠ X) (o : Nat) (u : Value) : Td B W blk (w.setCell ⟨Y, o, none⟩ u) p X n d kv ks has num til mv ms :=
  ⟨h.dr.set lY, box_set h.hX ne.symm, h.lX, own_set h.keys hY (by decide), own_set h.own hY (by decide)⟩
theorem TdY.fill (h : TdY B W blk w p X n d kv ks has num til mv ms Y n2 t2 v2) {m3 : List Ix.M} (ho : w.ownsRow W.heap.size 122 3 v3 m3.length (flat3 m3)) (hw : w' = ((w.setCell ⟨Y, 0, none⟩ (.int .i64 a)).setCell ⟨Y, 1, none⟩ (.int .i64 b)).setCell ⟨Y, 2, none⟩ v3) :
    TdY B W blk w' p X n d kv ks has num til mv ms Y a b v3 ∧ w'.ownsRow W.heap.size 122 3 v3 m3.length (flat3 m3) := by
  have h1 := heapSet (o := 0) (v := .int .i64 a) h.hY
  have h2 := heapSet (o := 1) (v := .int .i64 b) h1
  have q := hw
  subst q
  have far : ∀ k, k ≠ Y → (((w.setCell ⟨Y, 0, none⟩ (.int .i64 a)).setCell ⟨Y, 1, none⟩ (.int .i64 b)).setCell ⟨Y, 2, none⟩ v3).heap[k]? = w.heap[k]? := fun k hk => by rw [Below.heap_setCell _ _ _ _ hk, Below.heap_setCell _ _ _ _ hk, Below.heap_setCell _ _ _ _ hk]
  refine ⟨⟨⟨((h.td.dr.set h.lY).set h.lY).set h.lY, (far X h.ne.symm).trans h.td.hX, h.td.lX, ?_, ?_⟩, by rw [heapSet h2]; rfl, h.lY, h.ne⟩, ?_⟩
  · exact own_keepS h.td.keys (fun g _ e _ _ => far g (fun e2 => own_ne h.td.keys h.hY (by decide) (by rw [e, e2])))
  · exact own_keepS h.td.own (fun g _ e _ _ => far g (fun e2 => own_ne h.td.own h.hY (by decide) (by rw [e, e2])))
  · exact own_keepS ho (fun g _ e _ _ => far g (fun e2 => own_ne ho h.hY (by decide) (by rw [e, e2])))
end

theorem quo_4 {v : Int} (h0 : 0 ≤ v) (h1 : v < 5) : ∃ q, IntKind.i64.wrap (v.tdiv 4) = q ∧ 0 ≤ q ∧ q ≤ 1 := by
  refine ⟨v.tdiv 4, wrap_in' ?_ ?_, ?_, ?_⟩ <;> rw [Int.tdiv_eq_ediv_of_nonneg h0] <;> omega
theorem quo_29 {v : Int} (h0 : 0 ≤ v) (h1 : v < 30) : ∃ q, IntKind.i64.wrap (v.tdiv 29) = q ∧ 0 ≤ q ∧ q ≤ 1 := by
  refine ⟨v.tdiv 29, wrap_in' ?_ ?_, ?_, ?_⟩ <;> rw [Int.tdiv_eq_ediv_of_nonneg h0] <;> omega

/-- A slice of so many has the room that it says. -/
def Room (v : Value) (n : Nat) : Prop := ∃ a c, v = .slice a n c ∧ n ≤ c ∧ c ≤ maxLen
theorem own_room {w : World} {B sz n : Nat} {t : TypeId} {v : Value} {xs : List Value} (h : w.ownsRow B t sz v n xs) : Room v n := by
  rcases h.2 with ⟨rfl, rfl⟩ | ⟨g, cap, cur, rfl, _, _, h1, h2, _⟩
  · exact ⟨_, _, rfl, Nat.le_refl _, Nat.zero_le _⟩
  · exact ⟨_, _, rfl, h1, h2⟩

set_option maxHeartbeats 16000000 in
set_option maxRecDepth 100000 in
theorem drawTrustIndex_any (w : World) (a : Option Addr) (len cap : Nat) (h : Bytes w a len cap) :
    Calls Try.prog 10 #[.slice a len cap] w fun e w' => ∃ (n d : Int) (kv : Value) (ks : List Int) (has : Bool) (num til : Int) (mv : Value) (ms : List Ix.M) (n2 t2 : Int) (v2 vb : Value) (m2 : List Ix.M) (by' : List Int) (now : Int), e = .returned (.tuple #[tv n d kv has num til mv, .agg #[.int .i64 n2, .int .i64 t2, v2, vb], .int .i64 now]) ∧ ks.length ≤ 7 ∧ ms.length ≤ 9 ∧ m2.length ≤ 9 ∧ by'.length ≤ 7 ∧ Ins w' kv ks ∧ Trs w' mv ms ∧ Trs w' v2 m2 ∧ Ins w' vb by' ∧ Below w.heap.size w w' ∧ Room kv ks.length := by
  obtain ⟨iI, hI0, hz0, hz1, hz2⟩ := info_parts infoI'
  unfold tv
  have CO := hide (open_behind2 w a len cap h (.cells #[.int .i64 0, .slice none 0 0, .int .i64 0, .bool false, .int .i64 0, .int .i64 0, .slice none 0 0] 30) (.cells #[.int .i64 0, .int .i64 0, .slice none 0 0, .slice none 0 0] 32))
  clear h
  go_enter Try.func10, Try.ntmps10
  go_wp2_with fail
  refine (unhide CO).mono ?_
  generalize World.alloc _ _ = W0 at *
  rintro e w1 ⟨rfl, hr1, hR1, hR2, b1, hs1⟩
  have HR1 := hide (And.intro hR1 hR2)
  have B1 := hide b1
  have HRD := hide hr1
  clear hR1 hR2 b1 hr1 CO
  clear W0
  go_wp2_with fail
  refine (l71Trust_any _ (w.heap.size + 2) 0 (unhide HRD) (by omega) (by omega)).mono ?_
  rintro e w2 ⟨n, d, kv, ks, has, num, til, mv, ms, pv, l, q2, rfl, ⟨n0, n1⟩, ⟨d0, d1⟩, ⟨m0, m1⟩, ⟨t0, t1⟩, hks, hms, hl, hq2, hdr, hok, hom, hppp⟩
  obtain ⟨ka, kc, hkv⟩ := own_formS hok
  obtain ⟨ma, mc, hmv⟩ := own_formS hom
  subst hkv hmv
  have hs2 := hdr.size
  have TD : Hid (Td (w.heap.size + 2) w1 (w.heap.size + 2) (w2.alloc (.cells #[.int .i64 n, .slice ka ks.length kc, .int .i64 d, .bool has, .int .i64 num, .int .i64 til, .slice ma ms.length mc] 30)) q2 w2.heap.size n d (.slice ka ks.length kc) ks has num til (.slice ma ms.length mc) ms) :=
    ⟨hdr.later (below1 _ _), heap_alloc_new _ _, hs2, own_later hok (below1 _ _), own_later hom (below1 _ _)⟩
  have hXR : w.heap.size + 2 < w2.heap.size := by omega
  clear hdr hok hom HRD hppp hl
  clear l
  go_upto_region 3 with fail
  generalize w2.heap.size = X at *
  generalize w2.alloc _ = w3 at *
  clear w2
  go_cut [8, 9] from 18 to 38 (fun y o wx => ∃ (Y q : Nat) (n2 t2 : Int) (v2 : Value) (m2 : List Ix.M) (b2 : Bool), y = .pointer (some ⟨Y, 0, none⟩) ∧ o = .bool b2 ∧ q ≤ 3000 ∧ m2.length ≤ 9 ∧ TdY (w.heap.size + 2) w1 (w.heap.size + 2) wx q X n d (.slice ka ks.length kc) ks has num til (.slice ma ms.length mc) ms Y n2 t2 v2 ∧ wx.ownsRow w1.heap.size 122 3 v2 m2.length (flat3 m2))
  case first =>
    have x4 := cellOf (unhide TD).hX 4
    have en : IntKind.i64.wrap (num + 1) = num + 1 := wrap_in' (by omega) (by omega)
    refine wp_region_held_drew (S := fun w' => w'.cell? ⟨X, 4, none⟩ = some (.int .i64 num)) (by kernel_rfl) x4 (fun hHeld => ?_)
    clear x4
    refine anyH_at (i := 0) (d := some 19) rfl rfl (by kernel_rfl) (by kernel_rfl) (by kernel_rfl) (fun _ _ _ h => h) (by rfl) (v := ?_) ?_ (by assumption) ?_
    rotate_left
    · (intro w hSw; (try dsimp only at hSw); go_simp <;> with_reducible rfl)
    simp only [Act.put, List.setIfInBounds_toArray, List.set_cons_zero, List.set_cons_succ]
    refine anyH_at (i := 1) (d := some 20) rfl rfl (by kernel_rfl) (by kernel_rfl) (by kernel_rfl) (fun _ _ _ h => h) (by rfl) (v := ?_) ?_ (by assumption) ?_
    rotate_left
    · (intro w hSw; (try dsimp only at hSw); go_simp <;> with_reducible rfl)
    simp only [Act.put, List.setIfInBounds_toArray, List.set_cons_zero, List.set_cons_succ]
    refine anyH_at (i := 2) (d := some 21) rfl rfl (by kernel_rfl) (by kernel_rfl) (by kernel_rfl) (fun _ _ _ h => h) (by rfl) (v := ?_) ?_ (by assumption) ?_
    rotate_left
    · (intro w hSw; (try dsimp only at hSw); go_simp <;> with_reducible rfl)
    simp only [Act.put, List.setIfInBounds_toArray, List.set_cons_zero, List.set_cons_succ]
    refine anyH_at (i := 3) (d := some 22) rfl rfl (by kernel_rfl) (by kernel_rfl) (by kernel_rfl) (fun _ _ _ h => h) (by rfl) (v := ?_) ?_ (by assumption) ?_
    rotate_left
    · (intro w hSw; (try dsimp only at hSw); go_simp <;> with_reducible rfl)
    simp only [Act.put, List.setIfInBounds_toArray, List.set_cons_zero, List.set_cons_succ]
    refine anyH_at (i := 4) (d := some 23) rfl rfl (by kernel_rfl) (by kernel_rfl) (by kernel_rfl) (fun _ _ _ h => h) (by rfl) (v := ?_) ?_ (by assumption) ?_
    rotate_left
    · (intro w hSw; (try dsimp only at hSw); go_simp <;> with_reducible rfl)
    simp only [Act.put, List.setIfInBounds_toArray, List.set_cons_zero, List.set_cons_succ]
    refine anyH_at (i := 7) (d := some 26) rfl rfl (by kernel_rfl) (by kernel_rfl) (by kernel_rfl) (fun _ _ _ h => h) (by rfl) (v := ?_) ?_ (by assumption) ?_
    rotate_left
    · (intro w hSw; (try dsimp only at hSw); go_simp <;> with_reducible rfl)
    simp only [Act.put, List.setIfInBounds_toArray, List.set_cons_zero, List.set_cons_succ]
    refine anyH_at (i := 12) (d := some 31) rfl rfl (by kernel_rfl) (by kernel_rfl) (by kernel_rfl) (fun _ _ _ h => h) (by rfl) (v := ?_) ?_ (by assumption) ?_
    rotate_left
    · (intro w hSw; (try dsimp only at hSw); go_simp <;> with_reducible rfl)
    simp only [Act.put, List.setIfInBounds_toArray, List.set_cons_zero, List.set_cons_succ]
    refine anyH_at (i := 15) (d := some 34) rfl rfl (by kernel_rfl) (by kernel_rfl) (by kernel_rfl) (fun _ _ _ h => h) (by rfl) (v := ?_) ?_ (by assumption) ?_
    rotate_left
    · (intro w hSw; (try dsimp only at hSw); go_simp <;> with_reducible rfl)
    simp only [Act.put, List.setIfInBounds_toArray, List.set_cons_zero, List.set_cons_succ]
    have T0 := hide ((unhide TD).later (below_drew w3))
    have hq0 : q2 ≤ 1500 := by omega
    clear TD hq2
    refine wpAnyH_ready (rs := [5, 21]) (by kernel_rfl) (by simp) ?_
    refine AllReadyH.cons rfl (fun K hK => ?_) (AllReadyH.cons rfl (fun K hK => ?_) AllReadyH.nil)
    rotate_left
    · go_simp
      have T0y := hide (TdY.new (n2 := 0) (t2 := 0) (v2 := .slice none 0 0) (unhide T0))
      rw [show w3.drew.heap.size = w3.heap.size from rfl] at T0y
      refine hK.out _ _ ?_ (fun hHeldN => ?_)
      · exact cellOf (unhide T0y).td.hX 4
      clear hHeld
      have hHeld := hHeldN
      clear hHeldN
      clear hK K
      try simp only [Act.put, List.setIfInBounds_toArray, List.set_cons_zero, List.set_cons_succ]
      refine wpAnyH_ready (rs := [5]) (by kernel_rfl) (by simp) ?_
      refine AllReadyH.cons rfl (fun K hK => ?_) AllReadyH.nil
      go_simp
      refine (pick_any _ (w.heap.size + 2) (q2) 3 (by exact (unhide T0y).td.dr.rd) (by omega) (by omega) (by omega)).mono ?_
      rintro e w4 ⟨v0, rfl, v00, v01, hr, hk⟩
      have T1y := hide ((unhide T0y).keep hk hr)
      clear hr hk T0y
      have e25 : IntKind.i64.wrap (num + 1 + v0) = num + 1 + v0 := wrap_in' (by omega) (by omega)
      go_wp2_with fail
      refine hK.out _ _ ?_ (fun hHeldN => ?_)
      · exact cellOf (unhide T1y).td.hX 4
      clear hHeld
      have hHeld := hHeldN
      clear hHeldN
      clear hK K
      try simp only [Act.put, List.setIfInBounds_toArray, List.set_cons_zero, List.set_cons_succ]
      refine anyH_at (i := 6) (d := some 25) rfl rfl (by kernel_rfl) (by kernel_rfl) (by kernel_rfl) (fun _ _ _ h => h) (by rfl) (v := ?_) ?_ (by assumption) ?_
      rotate_left
      · (intro w hSw; (try dsimp only at hSw); go_simp <;> with_reducible rfl)
      simp only [Act.put, List.setIfInBounds_toArray, List.set_cons_zero, List.set_cons_succ]
      refine wpAnyH_ready (rs := [8]) (by kernel_rfl) (by simp) ?_
      refine AllReadyH.cons rfl (fun K hK => ?_) AllReadyH.nil
      go_simp
      refine (pick_any _ (w.heap.size + 2) (q2 + 1) 5 (by exact (unhide T1y).td.dr.rd) (by omega) (by omega) (by omega)).mono ?_
      rintro e w5 ⟨v1, rfl, v10, v11, hr, hk⟩
      have T2y := hide ((unhide T1y).keep hk hr)
      clear hr hk T1y
      obtain ⟨qq, hqq, qq0, qq1⟩ := quo_4 v10 (by omega)
      have e29 : IntKind.i64.wrap (qq * 2) = qq * 2 := wrap_in' (by omega) (by omega)
      have e30 : IntKind.i64.wrap (num + 1 + v0 - qq * 2) = num + 1 + v0 - qq * 2 := wrap_in' (by omega) (by omega)
      go_wp2_with fail
      refine hK.out _ _ ?_ (fun hHeldN => ?_)
      · exact cellOf (unhide T2y).td.hX 4
      clear hHeld
      have hHeld := hHeldN
      clear hHeldN
      clear hK K
      try simp only [Act.put, List.setIfInBounds_toArray, List.set_cons_zero, List.set_cons_succ]
      refine anyH_at (i := 9) (d := some 28) rfl rfl (by kernel_rfl) (by kernel_rfl) (by kernel_rfl) (fun _ _ _ h => h) (by rfl) (v := ?_) ?_ (by assumption) ?_
      rotate_left
      · (intro w hSw; (try dsimp only at hSw); go_simp <;> with_reducible rfl)
      simp only [Act.put, List.setIfInBounds_toArray, List.set_cons_zero, List.set_cons_succ]
      refine anyH_at (i := 10) (d := some 29) rfl rfl (by kernel_rfl) (by kernel_rfl) (by kernel_rfl) (fun _ _ _ h => h) (by rfl) (v := ?_) ?_ (by assumption) ?_
      rotate_left
      · (intro w hSw; (try dsimp only at hSw); go_simp <;> with_reducible rfl)
      simp only [Act.put, List.setIfInBounds_toArray, List.set_cons_zero, List.set_cons_succ]
      refine anyH_at (i := 11) (d := some 30) rfl rfl (by kernel_rfl) (by kernel_rfl) (by kernel_rfl) (fun _ _ _ h => h) (by rfl) (v := ?_) ?_ (by assumption) ?_
      rotate_left
      · (intro w hSw; (try dsimp only at hSw); go_simp <;> with_reducible rfl)
      simp only [Act.put, List.setIfInBounds_toArray, List.set_cons_zero, List.set_cons_succ]
      refine wpAnyH_ready (rs := [13]) (by kernel_rfl) (by simp) ?_
      refine AllReadyH.cons rfl (fun K hK => ?_) AllReadyH.nil
      go_simp
      refine (pick_any _ (w.heap.size + 2) (q2 + 1 + 1) 9 (by exact (unhide T2y).td.dr.rd) (by omega) (by omega) (by omega)).mono ?_
      rintro e w6 ⟨v2, rfl, v20, v21, hr, hk⟩
      have T3y := hide ((unhide T2y).keep hk hr)
      clear hr hk T2y
      have e33 : IntKind.i64.wrap (4 + v2) = 4 + v2 := wrap_in' (by omega) (by omega)
      go_wp2_with fail
      refine hK.out _ _ ?_ (fun hHeldN => ?_)
      · exact cellOf (unhide T3y).td.hX 4
      clear hHeld
      have hHeld := hHeldN
      clear hHeldN
      clear hK K
      try simp only [Act.put, List.setIfInBounds_toArray, List.set_cons_zero, List.set_cons_succ]
      refine anyH_at (i := 14) (d := some 33) rfl rfl (by kernel_rfl) (by kernel_rfl) (by kernel_rfl) (fun _ _ _ h => h) (by rfl) (v := ?_) ?_ (by assumption) ?_
      rotate_left
      · (intro w hSw; (try dsimp only at hSw); go_simp <;> with_reducible rfl)
      simp only [Act.put, List.setIfInBounds_toArray, List.set_cons_zero, List.set_cons_succ]
      refine wpAnyH_ready (rs := [16]) (by kernel_rfl) (by simp) ?_
      refine AllReadyH.cons rfl (fun K hK => ?_) AllReadyH.nil
      go_simp
      refine (l71Pkgs_any _ (w.heap.size + 2) (q2 + 1 + 1 + 1) (by exact (unhide T3y).td.dr.rd) (by have := (unhide T3y).td.dr.size; omega) (by omega)).mono ?_
      rintro e w7 ⟨pv, l, q3, rfl, hpk, hl7, hq3, hr, hk⟩
      obtain ⟨pa, pc, hpv⟩ := hpk.slice
      subst hpv
      have T4y := hide ((unhide T3y).keep hk hr)
      have P4y := hide hpk
      clear hr hk T3y hpk
      go_wp2_with fail
      refine hK.out _ _ ?_ (fun hHeldN => ?_)
      · exact cellOf (unhide T4y).td.hX 4
      clear hHeld
      have hHeld := hHeldN
      clear hHeldN
      clear hK K
      try simp only [Act.put, List.setIfInBounds_toArray, List.set_cons_zero, List.set_cons_succ]
      refine wpAnyH_ready (rs := [17]) (by kernel_rfl) (by simp) ?_
      refine AllReadyH.cons rfl (fun K hK => ?_) AllReadyH.nil
      go_simp
      refine (indexOf_any _ (num + 1 + v0 - qq * 2) (4 + v2) _ l (by exact unhide P4y)).mono ?_
      rintro e w8 ⟨mv8, rfl, ho8, hb8⟩
      have hms8 := Ix.ofD_len (num := num + 1 + v0 - qq * 2) (til := 4 + v2) (l := l) (by omega)
      have T5y := hide ((unhide T4y).later hb8)
      have O5y := hide (own_base ho8 (unhide T4y).td.dr.size)
      obtain ⟨a8, c8, hmv8⟩ := own_formS ho8
      generalize (Ix.ofD (num + 1 + v0 - qq * 2) (4 + v2) l).1 = n2 at *
      generalize (Ix.ofD (num + 1 + v0 - qq * 2) (4 + v2) l).2.1 = t2 at *
      generalize (Ix.ofD (num + 1 + v0 - qq * 2) (4 + v2) l).2.2 = m2 at *
      generalize Ix.ofOk (num + 1 + v0 - qq * 2) (4 + v2) l = b2 at *
      subst hmv8
      clear ho8 hb8 T4y P4y
      go_wp2_with fail
      refine hK.out _ _ ?_ (fun hHeldN => ?_)
      · exact cellOf (unhide T5y).td.hX 4
      clear hHeld
      have hHeld := hHeldN
      clear hHeldN
      clear hK K
      try simp only [Act.put, List.setIfInBounds_toArray, List.set_cons_zero, List.set_cons_succ]
      refine anyH_at (i := 18) (d := some 18) rfl rfl (by kernel_rfl) (by kernel_rfl) (by kernel_rfl) (fun _ _ _ h => h) (by rfl) (v := ?_) ?_ (by assumption) ?_
      rotate_left
      · (intro w hSw; (try dsimp only at hSw); go_simp <;> with_reducible rfl)
      simp only [Act.put, List.setIfInBounds_toArray, List.set_cons_zero, List.set_cons_succ]
      refine anyH_at (i := 19) (d := some 37) rfl rfl (by kernel_rfl) (by kernel_rfl) (by kernel_rfl) (fun _ _ _ h => h) (by rfl) (v := ?_) ?_ (by assumption) ?_
      rotate_left
      · (intro w hSw; (try dsimp only at hSw); go_simp <;> with_reducible rfl)
      simp only [Act.put, List.setIfInBounds_toArray, List.set_cons_zero, List.set_cons_succ]
      refine anyH_at (i := 20) (d := some 38) rfl rfl (by kernel_rfl) (by kernel_rfl) (by kernel_rfl) (fun _ _ _ h => h) (by rfl) (v := ?_) ?_ (by assumption) ?_
      rotate_left
      · (intro w hSw; (try dsimp only at hSw); go_simp <;> with_reducible rfl)
      simp only [Act.put, List.setIfInBounds_toArray, List.set_cons_zero, List.set_cons_succ]
      refine wpAnyH_ready (rs := [22]) (by kernel_rfl) (by simp) ?_
      refine AllReadyH.cons rfl (fun K hK => ?_) AllReadyH.nil
      obtain ⟨y0, y1, y2⟩ := box3c (unhide T5y).hY
      have yf0 := frozenOf (unhide T5y).hY 0
      have yf1 := frozenOf (unhide T5y).hY 1
      have yf2 := frozenOf (unhide T5y).hY 2
      go_simp
      obtain ⟨hTF, hOF⟩ := TdY.fill (a := n2) (b := t2) (unhide T5y) (unhide O5y) rfl
      refine hK.out _ _ ?_ (fun hHeldN => ?_)
      · exact cellOf hTF.td.hX 4
      clear hHeld
      have hHeld := hHeldN
      clear hHeldN
      clear hK K
      try simp only [Act.put, List.setIfInBounds_toArray, List.set_cons_zero, List.set_cons_succ]
      refine anyH_at (i := 23) (d := some 9) rfl rfl (by kernel_rfl) (by kernel_rfl) (by kernel_rfl) (fun _ _ _ h => h) (by rfl) (v := ?_) ?_ (by assumption) ?_
      rotate_left
      · (intro w hSw; (try dsimp only at hSw); go_simp <;> with_reducible rfl)
      simp only [Act.put, List.setIfInBounds_toArray, List.set_cons_zero, List.set_cons_succ]
      refine wpAnyH_done (by kernel_rfl) ?_ _
      go_wp2_with fail
      go_meet
      exact ⟨_, _, n2, t2, _, m2, b2, rfl, rfl, by omega, by omega, hTF, hOF⟩
    go_simp
    refine (pick_any _ (w.heap.size + 2) (q2) 3 (by exact (unhide T0).dr.rd) (by omega) (by omega) (by omega)).mono ?_
    rintro e w4 ⟨v0, rfl, v00, v01, hr, hk⟩
    have T1 := hide ((unhide T0).keep hk hr)
    clear hr hk T0
    have e25 : IntKind.i64.wrap (num + 1 + v0) = num + 1 + v0 := wrap_in' (by omega) (by omega)
    go_wp2_with fail
    refine hK.out _ _ ?_ (fun hHeldN => ?_)
    · exact cellOf (unhide T1).hX 4
    clear hHeld
    have hHeld := hHeldN
    clear hHeldN
    clear hK K
    try simp only [Act.put, List.setIfInBounds_toArray, List.set_cons_zero, List.set_cons_succ]
    refine anyH_at (i := 6) (d := some 25) rfl rfl (by kernel_rfl) (by kernel_rfl) (by kernel_rfl) (fun _ _ _ h => h) (by rfl) (v := ?_) ?_ (by assumption) ?_
    rotate_left
    · (intro w hSw; (try dsimp only at hSw); go_simp <;> with_reducible rfl)
    simp only [Act.put, List.setIfInBounds_toArray, List.set_cons_zero, List.set_cons_succ]
    refine wpAnyH_ready (rs := [8, 21]) (by kernel_rfl) (by simp) ?_
    refine AllReadyH.cons rfl (fun K hK => ?_) (AllReadyH.cons rfl (fun K hK => ?_) AllReadyH.nil)
    rotate_left
    · go_simp
      have T1y := hide (TdY.new (n2 := 0) (t2 := 0) (v2 := .slice none 0 0) (unhide T1))
      refine hK.out _ _ ?_ (fun hHeldN => ?_)
      · exact cellOf (unhide T1y).td.hX 4
      clear hHeld
      have hHeld := hHeldN
      clear hHeldN
      clear hK K
      try simp only [Act.put, List.setIfInBounds_toArray, List.set_cons_zero, List.set_cons_succ]
      refine wpAnyH_ready (rs := [8]) (by kernel_rfl) (by simp) ?_
      refine AllReadyH.cons rfl (fun K hK => ?_) AllReadyH.nil
      go_simp
      refine (pick_any _ (w.heap.size + 2) (q2 + 1) 5 (by exact (unhide T1y).td.dr.rd) (by omega) (by omega) (by omega)).mono ?_
      rintro e w5 ⟨v1, rfl, v10, v11, hr, hk⟩
      have T2y := hide ((unhide T1y).keep hk hr)
      clear hr hk T1y
      obtain ⟨qq, hqq, qq0, qq1⟩ := quo_4 v10 (by omega)
      have e29 : IntKind.i64.wrap (qq * 2) = qq * 2 := wrap_in' (by omega) (by omega)
      have e30 : IntKind.i64.wrap (num + 1 + v0 - qq * 2) = num + 1 + v0 - qq * 2 := wrap_in' (by omega) (by omega)
      go_wp2_with fail
      refine hK.out _ _ ?_ (fun hHeldN => ?_)
      · exact cellOf (unhide T2y).td.hX 4
      clear hHeld
      have hHeld := hHeldN
      clear hHeldN
      clear hK K
      try simp only [Act.put, List.setIfInBounds_toArray, List.set_cons_zero, List.set_cons_succ]
      refine anyH_at (i := 9) (d := some 28) rfl rfl (by kernel_rfl) (by kernel_rfl) (by kernel_rfl) (fun _ _ _ h => h) (by rfl) (v := ?_) ?_ (by assumption) ?_
      rotate_left
      · (intro w hSw; (try dsimp only at hSw); go_simp <;> with_reducible rfl)
      simp only [Act.put, List.setIfInBounds_toArray, List.set_cons_zero, List.set_cons_succ]
      refine anyH_at (i := 10) (d := some 29) rfl rfl (by kernel_rfl) (by kernel_rfl) (by kernel_rfl) (fun _ _ _ h => h) (by rfl) (v := ?_) ?_ (by assumption) ?_
      rotate_left
      · (intro w hSw; (try dsimp only at hSw); go_simp <;> with_reducible rfl)
      simp only [Act.put, List.setIfInBounds_toArray, List.set_cons_zero, List.set_cons_succ]
      refine anyH_at (i := 11) (d := some 30) rfl rfl (by kernel_rfl) (by kernel_rfl) (by kernel_rfl) (fun _ _ _ h => h) (by rfl) (v := ?_) ?_ (by assumption) ?_
      rotate_left
      · (intro w hSw; (try dsimp only at hSw); go_simp <;> with_reducible rfl)
      simp only [Act.put, List.setIfInBounds_toArray, List.set_cons_zero, List.set_cons_succ]
      refine wpAnyH_ready (rs := [13]) (by kernel_rfl) (by simp) ?_
      refine AllReadyH.cons rfl (fun K hK => ?_) AllReadyH.nil
      go_simp
      refine (pick_any _ (w.heap.size + 2) (q2 + 1 + 1) 9 (by exact (unhide T2y).td.dr.rd) (by omega) (by omega) (by omega)).mono ?_
      rintro e w6 ⟨v2, rfl, v20, v21, hr, hk⟩
      have T3y := hide ((unhide T2y).keep hk hr)
      clear hr hk T2y
      have e33 : IntKind.i64.wrap (4 + v2) = 4 + v2 := wrap_in' (by omega) (by omega)
      go_wp2_with fail
      refine hK.out _ _ ?_ (fun hHeldN => ?_)
      · exact cellOf (unhide T3y).td.hX 4
      clear hHeld
      have hHeld := hHeldN
      clear hHeldN
      clear hK K
      try simp only [Act.put, List.setIfInBounds_toArray, List.set_cons_zero, List.set_cons_succ]
      refine anyH_at (i := 14) (d := some 33) rfl rfl (by kernel_rfl) (by kernel_rfl) (by kernel_rfl) (fun _ _ _ h => h) (by rfl) (v := ?_) ?_ (by assumption) ?_
      rotate_left
      · (intro w hSw; (try dsimp only at hSw); go_simp <;> with_reducible rfl)
      simp only [Act.put, List.setIfInBounds_toArray, List.set_cons_zero, List.set_cons_succ]
      refine wpAnyH_ready (rs := [16]) (by kernel_rfl) (by simp) ?_
      refine AllReadyH.cons rfl (fun K hK => ?_) AllReadyH.nil
      go_simp
      refine (l71Pkgs_any _ (w.heap.size + 2) (q2 + 1 + 1 + 1) (by exact (unhide T3y).td.dr.rd) (by have := (unhide T3y).td.dr.size; omega) (by omega)).mono ?_
      rintro e w7 ⟨pv, l, q3, rfl, hpk, hl7, hq3, hr, hk⟩
      obtain ⟨pa, pc, hpv⟩ := hpk.slice
      subst hpv
      have T4y := hide ((unhide T3y).keep hk hr)
      have P4y := hide hpk
      clear hr hk T3y hpk
      go_wp2_with fail
      refine hK.out _ _ ?_ (fun hHeldN => ?_)
      · exact cellOf (unhide T4y).td.hX 4
      clear hHeld
      have hHeld := hHeldN
      clear hHeldN
      clear hK K
      try simp only [Act.put, List.setIfInBounds_toArray, List.set_cons_zero, List.set_cons_succ]
      refine wpAnyH_ready (rs := [17]) (by kernel_rfl) (by simp) ?_
      refine AllReadyH.cons rfl (fun K hK => ?_) AllReadyH.nil
      go_simp
      refine (indexOf_any _ (num + 1 + v0 - qq * 2) (4 + v2) _ l (by exact unhide P4y)).mono ?_
      rintro e w8 ⟨mv8, rfl, ho8, hb8⟩
      have hms8 := Ix.ofD_len (num := num + 1 + v0 - qq * 2) (til := 4 + v2) (l := l) (by omega)
      have T5y := hide ((unhide T4y).later hb8)
      have O5y := hide (own_base ho8 (unhide T4y).td.dr.size)
      obtain ⟨a8, c8, hmv8⟩ := own_formS ho8
      generalize (Ix.ofD (num + 1 + v0 - qq * 2) (4 + v2) l).1 = n2 at *
      generalize (Ix.ofD (num + 1 + v0 - qq * 2) (4 + v2) l).2.1 = t2 at *
      generalize (Ix.ofD (num + 1 + v0 - qq * 2) (4 + v2) l).2.2 = m2 at *
      generalize Ix.ofOk (num + 1 + v0 - qq * 2) (4 + v2) l = b2 at *
      subst hmv8
      clear ho8 hb8 T4y P4y
      go_wp2_with fail
      refine hK.out _ _ ?_ (fun hHeldN => ?_)
      · exact cellOf (unhide T5y).td.hX 4
      clear hHeld
      have hHeld := hHeldN
      clear hHeldN
      clear hK K
      try simp only [Act.put, List.setIfInBounds_toArray, List.set_cons_zero, List.set_cons_succ]
      refine anyH_at (i := 18) (d := some 18) rfl rfl (by kernel_rfl) (by kernel_rfl) (by kernel_rfl) (fun _ _ _ h => h) (by rfl) (v := ?_) ?_ (by assumption) ?_
      rotate_left
      · (intro w hSw; (try dsimp only at hSw); go_simp <;> with_reducible rfl)
      simp only [Act.put, List.setIfInBounds_toArray, List.set_cons_zero, List.set_cons_succ]
      refine anyH_at (i := 19) (d := some 37) rfl rfl (by kernel_rfl) (by kernel_rfl) (by kernel_rfl) (fun _ _ _ h => h) (by rfl) (v := ?_) ?_ (by assumption) ?_
      rotate_left
      · (intro w hSw; (try dsimp only at hSw); go_simp <;> with_reducible rfl)
      simp only [Act.put, List.setIfInBounds_toArray, List.set_cons_zero, List.set_cons_succ]
      refine anyH_at (i := 20) (d := some 38) rfl rfl (by kernel_rfl) (by kernel_rfl) (by kernel_rfl) (fun _ _ _ h => h) (by rfl) (v := ?_) ?_ (by assumption) ?_
      rotate_left
      · (intro w hSw; (try dsimp only at hSw); go_simp <;> with_reducible rfl)
      simp only [Act.put, List.setIfInBounds_toArray, List.set_cons_zero, List.set_cons_succ]
      refine wpAnyH_ready (rs := [22]) (by kernel_rfl) (by simp) ?_
      refine AllReadyH.cons rfl (fun K hK => ?_) AllReadyH.nil
      obtain ⟨y0, y1, y2⟩ := box3c (unhide T5y).hY
      have yf0 := frozenOf (unhide T5y).hY 0
      have yf1 := frozenOf (unhide T5y).hY 1
      have yf2 := frozenOf (unhide T5y).hY 2
      go_simp
      obtain ⟨hTF, hOF⟩ := TdY.fill (a := n2) (b := t2) (unhide T5y) (unhide O5y) rfl
      refine hK.out _ _ ?_ (fun hHeldN => ?_)
      · exact cellOf hTF.td.hX 4
      clear hHeld
      have hHeld := hHeldN
      clear hHeldN
      clear hK K
      try simp only [Act.put, List.setIfInBounds_toArray, List.set_cons_zero, List.set_cons_succ]
      refine anyH_at (i := 23) (d := some 9) rfl rfl (by kernel_rfl) (by kernel_rfl) (by kernel_rfl) (fun _ _ _ h => h) (by rfl) (v := ?_) ?_ (by assumption) ?_
      rotate_left
      · (intro w hSw; (try dsimp only at hSw); go_simp <;> with_reducible rfl)
      simp only [Act.put, List.setIfInBounds_toArray, List.set_cons_zero, List.set_cons_succ]
      refine wpAnyH_done (by kernel_rfl) ?_ _
      go_wp2_with fail
      go_meet
      exact ⟨_, _, n2, t2, _, m2, b2, rfl, rfl, by omega, by omega, hTF, hOF⟩
    go_simp
    refine (pick_any _ (w.heap.size + 2) (q2 + 1) 5 (by exact (unhide T1).dr.rd) (by omega) (by omega) (by omega)).mono ?_
    rintro e w5 ⟨v1, rfl, v10, v11, hr, hk⟩
    have T2 := hide ((unhide T1).keep hk hr)
    clear hr hk T1
    obtain ⟨qq, hqq, qq0, qq1⟩ := quo_4 v10 (by omega)
    have e29 : IntKind.i64.wrap (qq * 2) = qq * 2 := wrap_in' (by omega) (by omega)
    have e30 : IntKind.i64.wrap (num + 1 + v0 - qq * 2) = num + 1 + v0 - qq * 2 := wrap_in' (by omega) (by omega)
    go_wp2_with fail
    refine hK.out _ _ ?_ (fun hHeldN => ?_)
    · exact cellOf (unhide T2).hX 4
    clear hHeld
    have hHeld := hHeldN
    clear hHeldN
    clear hK K
    try simp only [Act.put, List.setIfInBounds_toArray, List.set_cons_zero, List.set_cons_succ]
    refine anyH_at (i := 9) (d := some 28) rfl rfl (by kernel_rfl) (by kernel_rfl) (by kernel_rfl) (fun _ _ _ h => h) (by rfl) (v := ?_) ?_ (by assumption) ?_
    rotate_left
    · (intro w hSw; (try dsimp only at hSw); go_simp <;> with_reducible rfl)
    simp only [Act.put, List.setIfInBounds_toArray, List.set_cons_zero, List.set_cons_succ]
    refine anyH_at (i := 10) (d := some 29) rfl rfl (by kernel_rfl) (by kernel_rfl) (by kernel_rfl) (fun _ _ _ h => h) (by rfl) (v := ?_) ?_ (by assumption) ?_
    rotate_left
    · (intro w hSw; (try dsimp only at hSw); go_simp <;> with_reducible rfl)
    simp only [Act.put, List.setIfInBounds_toArray, List.set_cons_zero, List.set_cons_succ]
    refine anyH_at (i := 11) (d := some 30) rfl rfl (by kernel_rfl) (by kernel_rfl) (by kernel_rfl) (fun _ _ _ h => h) (by rfl) (v := ?_) ?_ (by assumption) ?_
    rotate_left
    · (intro w hSw; (try dsimp only at hSw); go_simp <;> with_reducible rfl)
    simp only [Act.put, List.setIfInBounds_toArray, List.set_cons_zero, List.set_cons_succ]
    refine wpAnyH_ready (rs := [13, 21]) (by kernel_rfl) (by simp) ?_
    refine AllReadyH.cons rfl (fun K hK => ?_) (AllReadyH.cons rfl (fun K hK => ?_) AllReadyH.nil)
    rotate_left
    · go_simp
      have T2y := hide (TdY.new (n2 := 0) (t2 := 0) (v2 := .slice none 0 0) (unhide T2))
      refine hK.out _ _ ?_ (fun hHeldN => ?_)
      · exact cellOf (unhide T2y).td.hX 4
      clear hHeld
      have hHeld := hHeldN
      clear hHeldN
      clear hK K
      try simp only [Act.put, List.setIfInBounds_toArray, List.set_cons_zero, List.set_cons_succ]
      refine wpAnyH_ready (rs := [13]) (by kernel_rfl) (by simp) ?_
      refine AllReadyH.cons rfl (fun K hK => ?_) AllReadyH.nil
      go_simp
      refine (pick_any _ (w.heap.size + 2) (q2 + 1 + 1) 9 (by exact (unhide T2y).td.dr.rd) (by omega) (by omega) (by omega)).mono ?_
      rintro e w6 ⟨v2, rfl, v20, v21, hr, hk⟩
      have T3y := hide ((unhide T2y).keep hk hr)
      clear hr hk T2y
      have e33 : IntKind.i64.wrap (4 + v2) = 4 + v2 := wrap_in' (by omega) (by omega)
      go_wp2_with fail
      refine hK.out _ _ ?_ (fun hHeldN => ?_)
      · exact cellOf (unhide T3y).td.hX 4
      clear hHeld
      have hHeld := hHeldN
      clear hHeldN
      clear hK K
      try simp only [Act.put, List.setIfInBounds_toArray, List.set_cons_zero, List.set_cons_succ]
      refine anyH_at (i := 14) (d := some 33) rfl rfl (by kernel_rfl) (by kernel_rfl) (by kernel_rfl) (fun _ _ _ h => h) (by rfl) (v := ?_) ?_ (by assumption) ?_
      rotate_left
      · (intro w hSw; (try dsimp only at hSw); go_simp <;> with_reducible rfl)
      simp only [Act.put, List.setIfInBounds_toArray, List.set_cons_zero, List.set_cons_succ]
      refine wpAnyH_ready (rs := [16]) (by kernel_rfl) (by simp) ?_
      refine AllReadyH.cons rfl (fun K hK => ?_) AllReadyH.nil
      go_simp
      refine (l71Pkgs_any _ (w.heap.size + 2) (q2 + 1 + 1 + 1) (by exact (unhide T3y).td.dr.rd) (by have := (unhide T3y).td.dr.size; omega) (by omega)).mono ?_
      rintro e w7 ⟨pv, l, q3, rfl, hpk, hl7, hq3, hr, hk⟩
      obtain ⟨pa, pc, hpv⟩ := hpk.slice
      subst hpv
      have T4y := hide ((unhide T3y).keep hk hr)
      have P4y := hide hpk
      clear hr hk T3y hpk
      go_wp2_with fail
      refine hK.out _ _ ?_ (fun hHeldN => ?_)
      · exact cellOf (unhide T4y).td.hX 4
      clear hHeld
      have hHeld := hHeldN
      clear hHeldN
      clear hK K
      try simp only [Act.put, List.setIfInBounds_toArray, List.set_cons_zero, List.set_cons_succ]
      refine wpAnyH_ready (rs := [17]) (by kernel_rfl) (by simp) ?_
      refine AllReadyH.cons rfl (fun K hK => ?_) AllReadyH.nil
      go_simp
      refine (indexOf_any _ (num + 1 + v0 - qq * 2) (4 + v2) _ l (by exact unhide P4y)).mono ?_
      rintro e w8 ⟨mv8, rfl, ho8, hb8⟩
      have hms8 := Ix.ofD_len (num := num + 1 + v0 - qq * 2) (til := 4 + v2) (l := l) (by omega)
      have T5y := hide ((unhide T4y).later hb8)
      have O5y := hide (own_base ho8 (unhide T4y).td.dr.size)
      obtain ⟨a8, c8, hmv8⟩ := own_formS ho8
      generalize (Ix.ofD (num + 1 + v0 - qq * 2) (4 + v2) l).1 = n2 at *
      generalize (Ix.ofD (num + 1 + v0 - qq * 2) (4 + v2) l).2.1 = t2 at *
      generalize (Ix.ofD (num + 1 + v0 - qq * 2) (4 + v2) l).2.2 = m2 at *
      generalize Ix.ofOk (num + 1 + v0 - qq * 2) (4 + v2) l = b2 at *
      subst hmv8
      clear ho8 hb8 T4y P4y
      go_wp2_with fail
      refine hK.out _ _ ?_ (fun hHeldN => ?_)
      · exact cellOf (unhide T5y).td.hX 4
      clear hHeld
      have hHeld := hHeldN
      clear hHeldN
      clear hK K
      try simp only [Act.put, List.setIfInBounds_toArray, List.set_cons_zero, List.set_cons_succ]
      refine anyH_at (i := 18) (d := some 18) rfl rfl (by kernel_rfl) (by kernel_rfl) (by kernel_rfl) (fun _ _ _ h => h) (by rfl) (v := ?_) ?_ (by assumption) ?_
      rotate_left
      · (intro w hSw; (try dsimp only at hSw); go_simp <;> with_reducible rfl)
      simp only [Act.put, List.setIfInBounds_toArray, List.set_cons_zero, List.set_cons_succ]
      refine anyH_at (i := 19) (d := some 37) rfl rfl (by kernel_rfl) (by kernel_rfl) (by kernel_rfl) (fun _ _ _ h => h) (by rfl) (v := ?_) ?_ (by assumption) ?_
      rotate_left
      · (intro w hSw; (try dsimp only at hSw); go_simp <;> with_reducible rfl)
      simp only [Act.put, List.setIfInBounds_toArray, List.set_cons_zero, List.set_cons_succ]
      refine anyH_at (i := 20) (d := some 38) rfl rfl (by kernel_rfl) (by kernel_rfl) (by kernel_rfl) (fun _ _ _ h => h) (by rfl) (v := ?_) ?_ (by assumption) ?_
      rotate_left
      · (intro w hSw; (try dsimp only at hSw); go_simp <;> with_reducible rfl)
      simp only [Act.put, List.setIfInBounds_toArray, List.set_cons_zero, List.set_cons_succ]
      refine wpAnyH_ready (rs := [22]) (by kernel_rfl) (by simp) ?_
      refine AllReadyH.cons rfl (fun K hK => ?_) AllReadyH.nil
      obtain ⟨y0, y1, y2⟩ := box3c (unhide T5y).hY
      have yf0 := frozenOf (unhide T5y).hY 0
      have yf1 := frozenOf (unhide T5y).hY 1
      have yf2 := frozenOf (unhide T5y).hY 2
      go_simp
      obtain ⟨hTF, hOF⟩ := TdY.fill (a := n2) (b := t2) (unhide T5y) (unhide O5y) rfl
      refine hK.out _ _ ?_ (fun hHeldN => ?_)
      · exact cellOf hTF.td.hX 4
      clear hHeld
      have hHeld := hHeldN
      clear hHeldN
      clear hK K
      try simp only [Act.put, List.setIfInBounds_toArray, List.set_cons_zero, List.set_cons_succ]
      refine anyH_at (i := 23) (d := some 9) rfl rfl (by kernel_rfl) (by kernel_rfl) (by kernel_rfl) (fun _ _ _ h => h) (by rfl) (v := ?_) ?_ (by assumption) ?_
      rotate_left
      · (intro w hSw; (try dsimp only at hSw); go_simp <;> with_reducible rfl)
      simp only [Act.put, List.setIfInBounds_toArray, List.set_cons_zero, List.set_cons_succ]
      refine wpAnyH_done (by kernel_rfl) ?_ _
      go_wp2_with fail
      go_meet
      exact ⟨_, _, n2, t2, _, m2, b2, rfl, rfl, by omega, by omega, hTF, hOF⟩
    go_simp
    refine (pick_any _ (w.heap.size + 2) (q2 + 1 + 1) 9 (by exact (unhide T2).dr.rd) (by omega) (by omega) (by omega)).mono ?_
    rintro e w6 ⟨v2, rfl, v20, v21, hr, hk⟩
    have T3 := hide ((unhide T2).keep hk hr)
    clear hr hk T2
    have e33 : IntKind.i64.wrap (4 + v2) = 4 + v2 := wrap_in' (by omega) (by omega)
    go_wp2_with fail
    refine hK.out _ _ ?_ (fun hHeldN => ?_)
    · exact cellOf (unhide T3).hX 4
    clear hHeld
    have hHeld := hHeldN
    clear hHeldN
    clear hK K
    try simp only [Act.put, List.setIfInBounds_toArray, List.set_cons_zero, List.set_cons_succ]
    refine anyH_at (i := 14) (d := some 33) rfl rfl (by kernel_rfl) (by kernel_rfl) (by kernel_rfl) (fun _ _ _ h => h) (by rfl) (v := ?_) ?_ (by assumption) ?_
    rotate_left
    · (intro w hSw; (try dsimp only at hSw); go_simp <;> with_reducible rfl)
    simp only [Act.put, List.setIfInBounds_toArray, List.set_cons_zero, List.set_cons_succ]
    refine wpAnyH_ready (rs := [16, 21]) (by kernel_rfl) (by simp) ?_
    refine AllReadyH.cons rfl (fun K hK => ?_) (AllReadyH.cons rfl (fun K hK => ?_) AllReadyH.nil)
    rotate_left
    · go_simp
      have T3y := hide (TdY.new (n2 := 0) (t2 := 0) (v2 := .slice none 0 0) (unhide T3))
      refine hK.out _ _ ?_ (fun hHeldN => ?_)
      · exact cellOf (unhide T3y).td.hX 4
      clear hHeld
      have hHeld := hHeldN
      clear hHeldN
      clear hK K
      try simp only [Act.put, List.setIfInBounds_toArray, List.set_cons_zero, List.set_cons_succ]
      refine wpAnyH_ready (rs := [16]) (by kernel_rfl) (by simp) ?_
      refine AllReadyH.cons rfl (fun K hK => ?_) AllReadyH.nil
      go_simp
      refine (l71Pkgs_any _ (w.heap.size + 2) (q2 + 1 + 1 + 1) (by exact (unhide T3y).td.dr.rd) (by have := (unhide T3y).td.dr.size; omega) (by omega)).mono ?_
      rintro e w7 ⟨pv, l, q3, rfl, hpk, hl7, hq3, hr, hk⟩
      obtain ⟨pa, pc, hpv⟩ := hpk.slice
      subst hpv
      have T4y := hide ((unhide T3y).keep hk hr)
      have P4y := hide hpk
      clear hr hk T3y hpk
      go_wp2_with fail
      refine hK.out _ _ ?_ (fun hHeldN => ?_)
      · exact cellOf (unhide T4y).td.hX 4
      clear hHeld
      have hHeld := hHeldN
      clear hHeldN
      clear hK K
      try simp only [Act.put, List.setIfInBounds_toArray, List.set_cons_zero, List.set_cons_succ]
      refine wpAnyH_ready (rs := [17]) (by kernel_rfl) (by simp) ?_
      refine AllReadyH.cons rfl (fun K hK => ?_) AllReadyH.nil
      go_simp
      refine (indexOf_any _ (num + 1 + v0 - qq * 2) (4 + v2) _ l (by exact unhide P4y)).mono ?_
      rintro e w8 ⟨mv8, rfl, ho8, hb8⟩
      have hms8 := Ix.ofD_len (num := num + 1 + v0 - qq * 2) (til := 4 + v2) (l := l) (by omega)
      have T5y := hide ((unhide T4y).later hb8)
      have O5y := hide (own_base ho8 (unhide T4y).td.dr.size)
      obtain ⟨a8, c8, hmv8⟩ := own_formS ho8
      generalize (Ix.ofD (num + 1 + v0 - qq * 2) (4 + v2) l).1 = n2 at *
      generalize (Ix.ofD (num + 1 + v0 - qq * 2) (4 + v2) l).2.1 = t2 at *
      generalize (Ix.ofD (num + 1 + v0 - qq * 2) (4 + v2) l).2.2 = m2 at *
      generalize Ix.ofOk (num + 1 + v0 - qq * 2) (4 + v2) l = b2 at *
      subst hmv8
      clear ho8 hb8 T4y P4y
      go_wp2_with fail
      refine hK.out _ _ ?_ (fun hHeldN => ?_)
      · exact cellOf (unhide T5y).td.hX 4
      clear hHeld
      have hHeld := hHeldN
      clear hHeldN
      clear hK K
      try simp only [Act.put, List.setIfInBounds_toArray, List.set_cons_zero, List.set_cons_succ]
      refine anyH_at (i := 18) (d := some 18) rfl rfl (by kernel_rfl) (by kernel_rfl) (by kernel_rfl) (fun _ _ _ h => h) (by rfl) (v := ?_) ?_ (by assumption) ?_
      rotate_left
      · (intro w hSw; (try dsimp only at hSw); go_simp <;> with_reducible rfl)
      simp only [Act.put, List.setIfInBounds_toArray, List.set_cons_zero, List.set_cons_succ]
      refine anyH_at (i := 19) (d := some 37) rfl rfl (by kernel_rfl) (by kernel_rfl) (by kernel_rfl) (fun _ _ _ h => h) (by rfl) (v := ?_) ?_ (by assumption) ?_
      rotate_left
      · (intro w hSw; (try dsimp only at hSw); go_simp <;> with_reducible rfl)
      simp only [Act.put, List.setIfInBounds_toArray, List.set_cons_zero, List.set_cons_succ]
      refine anyH_at (i := 20) (d := some 38) rfl rfl (by kernel_rfl) (by kernel_rfl) (by kernel_rfl) (fun _ _ _ h => h) (by rfl) (v := ?_) ?_ (by assumption) ?_
      rotate_left
      · (intro w hSw; (try dsimp only at hSw); go_simp <;> with_reducible rfl)
      simp only [Act.put, List.setIfInBounds_toArray, List.set_cons_zero, List.set_cons_succ]
      refine wpAnyH_ready (rs := [22]) (by kernel_rfl) (by simp) ?_
      refine AllReadyH.cons rfl (fun K hK => ?_) AllReadyH.nil
      obtain ⟨y0, y1, y2⟩ := box3c (unhide T5y).hY
      have yf0 := frozenOf (unhide T5y).hY 0
      have yf1 := frozenOf (unhide T5y).hY 1
      have yf2 := frozenOf (unhide T5y).hY 2
      go_simp
      obtain ⟨hTF, hOF⟩ := TdY.fill (a := n2) (b := t2) (unhide T5y) (unhide O5y) rfl
      refine hK.out _ _ ?_ (fun hHeldN => ?_)
      · exact cellOf hTF.td.hX 4
      clear hHeld
      have hHeld := hHeldN
      clear hHeldN
      clear hK K
      try simp only [Act.put, List.setIfInBounds_toArray, List.set_cons_zero, List.set_cons_succ]
      refine anyH_at (i := 23) (d := some 9) rfl rfl (by kernel_rfl) (by kernel_rfl) (by kernel_rfl) (fun _ _ _ h => h) (by rfl) (v := ?_) ?_ (by assumption) ?_
      rotate_left
      · (intro w hSw; (try dsimp only at hSw); go_simp <;> with_reducible rfl)
      simp only [Act.put, List.setIfInBounds_toArray, List.set_cons_zero, List.set_cons_succ]
      refine wpAnyH_done (by kernel_rfl) ?_ _
      go_wp2_with fail
      go_meet
      exact ⟨_, _, n2, t2, _, m2, b2, rfl, rfl, by omega, by omega, hTF, hOF⟩
    go_simp
    refine (l71Pkgs_any _ (w.heap.size + 2) (q2 + 1 + 1 + 1) (by exact (unhide T3).dr.rd) (by have := (unhide T3).dr.size; omega) (by omega)).mono ?_
    rintro e w7 ⟨pv, l, q3, rfl, hpk, hl7, hq3, hr, hk⟩
    obtain ⟨pa, pc, hpv⟩ := hpk.slice
    subst hpv
    have T4 := hide ((unhide T3).keep hk hr)
    have P4 := hide hpk
    clear hr hk T3 hpk
    go_wp2_with fail
    refine hK.out _ _ ?_ (fun hHeldN => ?_)
    · exact cellOf (unhide T4).hX 4
    clear hHeld
    have hHeld := hHeldN
    clear hHeldN
    clear hK K
    try simp only [Act.put, List.setIfInBounds_toArray, List.set_cons_zero, List.set_cons_succ]
    refine wpAnyH_ready (rs := [17, 21]) (by kernel_rfl) (by simp) ?_
    refine AllReadyH.cons rfl (fun K hK => ?_) (AllReadyH.cons rfl (fun K hK => ?_) AllReadyH.nil)
    rotate_left
    · go_simp
      have T4y := hide (TdY.new (n2 := 0) (t2 := 0) (v2 := .slice none 0 0) (unhide T4))
      have P4y := hide ((unhide P4).later (below1 _ (.cells #[.int .i64 0, .int .i64 0, .slice none 0 0] 28)))
      refine hK.out _ _ ?_ (fun hHeldN => ?_)
      · exact cellOf (unhide T4y).td.hX 4
      clear hHeld
      have hHeld := hHeldN
      clear hHeldN
      clear hK K
      try simp only [Act.put, List.setIfInBounds_toArray, List.set_cons_zero, List.set_cons_succ]
      refine wpAnyH_ready (rs := [17]) (by kernel_rfl) (by simp) ?_
      refine AllReadyH.cons rfl (fun K hK => ?_) AllReadyH.nil
      go_simp
      refine (indexOf_any _ (num + 1 + v0 - qq * 2) (4 + v2) _ l (by exact unhide P4y)).mono ?_
      rintro e w8 ⟨mv8, rfl, ho8, hb8⟩
      have hms8 := Ix.ofD_len (num := num + 1 + v0 - qq * 2) (til := 4 + v2) (l := l) (by omega)
      have T5y := hide ((unhide T4y).later hb8)
      have O5y := hide (own_base ho8 (unhide T4y).td.dr.size)
      obtain ⟨a8, c8, hmv8⟩ := own_formS ho8
      generalize (Ix.ofD (num + 1 + v0 - qq * 2) (4 + v2) l).1 = n2 at *
      generalize (Ix.ofD (num + 1 + v0 - qq * 2) (4 + v2) l).2.1 = t2 at *
      generalize (Ix.ofD (num + 1 + v0 - qq * 2) (4 + v2) l).2.2 = m2 at *
      generalize Ix.ofOk (num + 1 + v0 - qq * 2) (4 + v2) l = b2 at *
      subst hmv8
      clear ho8 hb8 T4y P4y
      go_wp2_with fail
      refine hK.out _ _ ?_ (fun hHeldN => ?_)
      · exact cellOf (unhide T5y).td.hX 4
      clear hHeld
      have hHeld := hHeldN
      clear hHeldN
      clear hK K
      try simp only [Act.put, List.setIfInBounds_toArray, List.set_cons_zero, List.set_cons_succ]
      refine anyH_at (i := 18) (d := some 18) rfl rfl (by kernel_rfl) (by kernel_rfl) (by kernel_rfl) (fun _ _ _ h => h) (by rfl) (v := ?_) ?_ (by assumption) ?_
      rotate_left
      · (intro w hSw; (try dsimp only at hSw); go_simp <;> with_reducible rfl)
      simp only [Act.put, List.setIfInBounds_toArray, List.set_cons_zero, List.set_cons_succ]
      refine anyH_at (i := 19) (d := some 37) rfl rfl (by kernel_rfl) (by kernel_rfl) (by kernel_rfl) (fun _ _ _ h => h) (by rfl) (v := ?_) ?_ (by assumption) ?_
      rotate_left
      · (intro w hSw; (try dsimp only at hSw); go_simp <;> with_reducible rfl)
      simp only [Act.put, List.setIfInBounds_toArray, List.set_cons_zero, List.set_cons_succ]
      refine anyH_at (i := 20) (d := some 38) rfl rfl (by kernel_rfl) (by kernel_rfl) (by kernel_rfl) (fun _ _ _ h => h) (by rfl) (v := ?_) ?_ (by assumption) ?_
      rotate_left
      · (intro w hSw; (try dsimp only at hSw); go_simp <;> with_reducible rfl)
      simp only [Act.put, List.setIfInBounds_toArray, List.set_cons_zero, List.set_cons_succ]
      refine wpAnyH_ready (rs := [22]) (by kernel_rfl) (by simp) ?_
      refine AllReadyH.cons rfl (fun K hK => ?_) AllReadyH.nil
      obtain ⟨y0, y1, y2⟩ := box3c (unhide T5y).hY
      have yf0 := frozenOf (unhide T5y).hY 0
      have yf1 := frozenOf (unhide T5y).hY 1
      have yf2 := frozenOf (unhide T5y).hY 2
      go_simp
      obtain ⟨hTF, hOF⟩ := TdY.fill (a := n2) (b := t2) (unhide T5y) (unhide O5y) rfl
      refine hK.out _ _ ?_ (fun hHeldN => ?_)
      · exact cellOf hTF.td.hX 4
      clear hHeld
      have hHeld := hHeldN
      clear hHeldN
      clear hK K
      try simp only [Act.put, List.setIfInBounds_toArray, List.set_cons_zero, List.set_cons_succ]
      refine anyH_at (i := 23) (d := some 9) rfl rfl (by kernel_rfl) (by kernel_rfl) (by kernel_rfl) (fun _ _ _ h => h) (by rfl) (v := ?_) ?_ (by assumption) ?_
      rotate_left
      · (intro w hSw; (try dsimp only at hSw); go_simp <;> with_reducible rfl)
      simp only [Act.put, List.setIfInBounds_toArray, List.set_cons_zero, List.set_cons_succ]
      refine wpAnyH_done (by kernel_rfl) ?_ _
      go_wp2_with fail
      go_meet
      exact ⟨_, _, n2, t2, _, m2, b2, rfl, rfl, by omega, by omega, hTF, hOF⟩
    go_simp
    refine (indexOf_any _ (num + 1 + v0 - qq * 2) (4 + v2) _ l (by exact unhide P4)).mono ?_
    rintro e w8 ⟨mv8, rfl, ho8, hb8⟩
    have hms8 := Ix.ofD_len (num := num + 1 + v0 - qq * 2) (til := 4 + v2) (l := l) (by omega)
    have T5 := hide ((unhide T4).later hb8)
    have O5 := hide (own_base ho8 (unhide T4).dr.size)
    obtain ⟨a8, c8, hmv8⟩ := own_formS ho8
    generalize (Ix.ofD (num + 1 + v0 - qq * 2) (4 + v2) l).1 = n2 at *
    generalize (Ix.ofD (num + 1 + v0 - qq * 2) (4 + v2) l).2.1 = t2 at *
    generalize (Ix.ofD (num + 1 + v0 - qq * 2) (4 + v2) l).2.2 = m2 at *
    generalize Ix.ofOk (num + 1 + v0 - qq * 2) (4 + v2) l = b2 at *
    subst hmv8
    clear ho8 hb8 T4 P4
    go_wp2_with fail
    refine hK.out _ _ ?_ (fun hHeldN => ?_)
    · exact cellOf (unhide T5).hX 4
    clear hHeld
    have hHeld := hHeldN
    clear hHeldN
    clear hK K
    try simp only [Act.put, List.setIfInBounds_toArray, List.set_cons_zero, List.set_cons_succ]
    refine anyH_at (i := 18) (d := some 18) rfl rfl (by kernel_rfl) (by kernel_rfl) (by kernel_rfl) (fun _ _ _ h => h) (by rfl) (v := ?_) ?_ (by assumption) ?_
    rotate_left
    · (intro w hSw; (try dsimp only at hSw); go_simp <;> with_reducible rfl)
    simp only [Act.put, List.setIfInBounds_toArray, List.set_cons_zero, List.set_cons_succ]
    refine anyH_at (i := 19) (d := some 37) rfl rfl (by kernel_rfl) (by kernel_rfl) (by kernel_rfl) (fun _ _ _ h => h) (by rfl) (v := ?_) ?_ (by assumption) ?_
    rotate_left
    · (intro w hSw; (try dsimp only at hSw); go_simp <;> with_reducible rfl)
    simp only [Act.put, List.setIfInBounds_toArray, List.set_cons_zero, List.set_cons_succ]
    refine anyH_at (i := 20) (d := some 38) rfl rfl (by kernel_rfl) (by kernel_rfl) (by kernel_rfl) (fun _ _ _ h => h) (by rfl) (v := ?_) ?_ (by assumption) ?_
    rotate_left
    · (intro w hSw; (try dsimp only at hSw); go_simp <;> with_reducible rfl)
    simp only [Act.put, List.setIfInBounds_toArray, List.set_cons_zero, List.set_cons_succ]
    refine wpAnyH_ready (rs := [21]) (by kernel_rfl) (by simp) ?_
    refine AllReadyH.cons rfl (fun K hK => ?_) AllReadyH.nil
    go_simp
    have T5y := hide (TdY.new (n2 := 0) (t2 := 0) (v2 := .slice none 0 0) (unhide T5))
    have O5y := hide (own_later (unhide O5) (below1 _ (.cells #[.int .i64 0, .int .i64 0, .slice none 0 0] 28)))
    refine hK.out _ _ ?_ (fun hHeldN => ?_)
    · exact cellOf (unhide T5y).td.hX 4
    clear hHeld
    have hHeld := hHeldN
    clear hHeldN
    clear hK K
    try simp only [Act.put, List.setIfInBounds_toArray, List.set_cons_zero, List.set_cons_succ]
    generalize w8.alloc _ = W9 at *
    generalize w8.heap.size = Y9 at *
    refine wpAnyH_ready (rs := [22]) (by kernel_rfl) (by simp) ?_
    refine AllReadyH.cons rfl (fun K hK => ?_) AllReadyH.nil
    obtain ⟨y0, y1, y2⟩ := box3c (unhide T5y).hY
    have yf0 := frozenOf (unhide T5y).hY 0
    have yf1 := frozenOf (unhide T5y).hY 1
    have yf2 := frozenOf (unhide T5y).hY 2
    go_simp
    obtain ⟨hTF, hOF⟩ := TdY.fill (a := n2) (b := t2) (unhide T5y) (unhide O5y) rfl
    refine hK.out _ _ ?_ (fun hHeldN => ?_)
    · exact cellOf hTF.td.hX 4
    clear hHeld
    have hHeld := hHeldN
    clear hHeldN
    clear hK K
    try simp only [Act.put, List.setIfInBounds_toArray, List.set_cons_zero, List.set_cons_succ]
    refine anyH_at (i := 23) (d := some 9) rfl rfl (by kernel_rfl) (by kernel_rfl) (by kernel_rfl) (fun _ _ _ h => h) (by rfl) (v := ?_) ?_ (by assumption) ?_
    rotate_left
    · (intro w hSw; (try dsimp only at hSw); go_simp <;> with_reducible rfl)
    simp only [Act.put, List.setIfInBounds_toArray, List.set_cons_zero, List.set_cons_succ]
    refine wpAnyH_done (by kernel_rfl) ?_ _
    go_wp2_with fail
    go_meet
    exact ⟨_, _, n2, t2, _, m2, b2, rfl, rfl, by omega, by omega, hTF, hOF⟩
  case rest =>
    obtain ⟨Y, q, n2, t2, v2, m2, b2, rfl, rfl, hq, hm2, hTY, hOY⟩ := hcut
    obtain ⟨a2, c2, hv2⟩ := own_formS hOY
    subst hv2
    have hXl := heapLt hTY.td.hX
    have x1' : (wc.alloc (.cells #[] 3)).cell? ⟨X, 1, none⟩ = some (.slice ka ks.length kc) := ((below1 _ _).cell hXl).trans (cellOf hTY.td.hX 1)
    have i1 : Ins (wc.alloc (.cells #[] 3)) (.slice ka ks.length kc) ks := OwnI.ins (B := w1.heap.size) (own_later hTY.td.keys (below1 _ _)) (by omega)
    have I1 := hide i1
    have HE := hide (empty_own (sz := 1) (B := wc.heap.size) (heap_alloc_new wc (.cells #[] 3)) (Nat.le_refl _))
    have TY := hide hTY
    have OY := hide hOY
    clear hTY hOY i1 hXl TD hq2
    go_wp2_with (at_builtin; refine wpList_append_all _ rfl _ _ _ rfl wc.heap.size 3 iI _ 1 8 Try.underlying23 hI0 hz0 hz1 hz2 rfl (by omega) (.slice (some ⟨wc.heap.size, 0, none⟩) 0 0) rfl (unhide HE) ka ks.length kc (ks.map (Value.int .i64)) rfl (by simp) (ins_news (unhide I1)) (int_cells ks) (by unfold maxLen; omega) (by omega) (by rw [sz1']; omega) ?_; intro vk w4 hown hgrow)
    have hb4 := grown_below (B := wc.heap.size) (unhide HE) hgrow (below1 wc (.cells #[] 3)) (below1 wc (.cells #[] 3)).size
    have T4 := hide ((unhide TY).later hb4)
    have Y4 := hide (own_later (unhide OY) hb4)
    have O4 : Hid (w4.ownsRow w1.heap.size 3 1 vk ks.length (ks.map (Value.int .i64))) := own_base hown (unhide TY).td.dr.size
    clear hown hgrow hb4 TY OY HE I1 x1' hI0 hz0 hz1 hz2
    clear iI
    go_wp2_with fail
    refine (pick_any _ (w.heap.size + 2) q 4 (unhide T4).td.dr.rd (by omega) (by omega) (by omega)).mono ?_
    rintro e w10 ⟨v10, rfl, v100, v101, hr10, hk10⟩
    have T10 := hide ((unhide T4).keep hk10 hr10)
    have O10 := hide ((unhide T4).td.dr.row hk10 (unhide O4))
    have Y10 := hide ((unhide T4).td.dr.row hk10 (unhide Y4))
    clear hr10 hk10 T4 O4 Y4
    have hv10 : v10 = 0 ∨ ¬ v10 = 0 := by omega
    rcases hv10 with rfl | hv10
    · go_wp2_with fail
      refine (l71Keys_any _ (w.heap.size + 2) (q + 1) (unhide T10).td.dr.rd (by have := (unhide T10).td.dr.size; omega) (by omega)).mono ?_
      clear O10
      rintro e w11 ⟨ub', lb, q11, rfl, hlb7, _, hq11, hst⟩
      have HX : Hid (∃ q5, q5 ≤ 10000 ∧ TdY (w.heap.size + 2) w1 (w.heap.size + 2) w11 q5 X n d (.slice ka ks.length kc) ks has num til (.slice ma ms.length mc) ms Y n2 t2 (.slice a2 m2.length c2)) := ⟨_, by omega, (unhide T10).keep hst.kp hst.rd⟩
      have HO := hide (own_base (show w11.ownsRow w10.heap.size 3 1 ub' lb.length (lb.map (Value.int .i64)) from hst.own) (unhide T10).td.dr.size)
      have HY := hide ((unhide T10).td.dr.row hst.kp (unhide Y10))
      obtain ⟨ua, uc, hub⟩ := own_formS (unhide HO)
      subst hub
      clear hst T10 Y10
      go_wp2_with fail
      obtain ⟨q5, hTR⟩ := unhide HX
      have TRe := hide hTR.2
      have hq5 := hTR.1
      clear hTR HX
      have hXb := (unhide TRe).td.lX
      have hYb := (unhide TRe).lY
      have nX : X ≠ w.heap.size ∧ X ≠ w.heap.size + 1 := by omega
      have nY : Y ≠ w.heap.size ∧ Y ≠ w.heap.size + 1 := by omega
      have nG : ∀ g, w1.heap.size ≤ g → g ≠ w.heap.size ∧ g ≠ w.heap.size + 1 := fun g hg => by omega
      have NN := hide (And.intro nX (And.intro nY nG))
      clear nX nY nG hXb hYb
      obtain ⟨x0, x1, x2, x3, x4, x5, x6⟩ := box7 (unhide TRe).td.hX
      obtain ⟨z0, z1, z2⟩ := box3c (unhide TRe).hY
      refine wp_region_held_drew (S := fun w' => (w'.cell? ⟨X, 0, none⟩ = some (.int .i64 n) ∧ w'.cell? ⟨X, 1, none⟩ = some (.slice ka ks.length kc) ∧ w'.cell? ⟨X, 2, none⟩ = some (.int .i64 d) ∧ w'.cell? ⟨X, 3, none⟩ = some (.bool has) ∧ w'.cell? ⟨X, 4, none⟩ = some (.int .i64 num) ∧ w'.cell? ⟨X, 5, none⟩ = some (.int .i64 til) ∧ w'.cell? ⟨X, 6, none⟩ = some (.slice ma ms.length mc)) ∧ (w'.cell? ⟨Y, 0, none⟩ = some (.int .i64 n2) ∧ w'.cell? ⟨Y, 1, none⟩ = some (.int .i64 t2) ∧ w'.cell? ⟨Y, 2, none⟩ = some (.slice a2 m2.length c2))) (by kernel_rfl) ?_ (fun hHeld => ?_)
      · exact ⟨⟨x0, x1, x2, x3, x4, x5, x6⟩, z0, z1, z2⟩
      clear x0 x1 x2 x3 x4 x5 x6 z0 z1 z2
      refine anyH_at (i := 0) (d := some 49) rfl rfl (by kernel_rfl) (by kernel_rfl) (by kernel_rfl) (fun _ _ _ h => h) (by rfl) (v := ?_) ?_ (by assumption) ?_
      rotate_left
      · (intro w hSw; (try dsimp only at hSw); go_simp <;> with_reducible rfl)
      simp only [Act.put, List.setIfInBounds_toArray, List.set_cons_zero, List.set_cons_succ]
      refine anyH_at (i := 1) (d := some 50) rfl rfl (by kernel_rfl) (by kernel_rfl) (by kernel_rfl) (fun _ _ _ h => h) (by rfl) (v := ?_) ?_ (by assumption) ?_
      rotate_left
      · (intro w hSw; (try dsimp only at hSw); go_simp <;> with_reducible rfl)
      simp only [Act.put, List.setIfInBounds_toArray, List.set_cons_zero, List.set_cons_succ]
      refine anyH_at (i := 2) (d := some 51) rfl rfl (by kernel_rfl) (by kernel_rfl) (by kernel_rfl) (fun _ _ _ h => h) (by rfl) (v := ?_) ?_ (by assumption) ?_
      rotate_left
      · (intro w hSw; (try dsimp only at hSw); go_simp <;> with_reducible rfl)
      simp only [Act.put, List.setIfInBounds_toArray, List.set_cons_zero, List.set_cons_succ]
      refine anyH_at (i := 3) (d := some 52) rfl rfl (by kernel_rfl) (by kernel_rfl) (by kernel_rfl) (fun _ _ _ h => h) (by rfl) (v := ?_) ?_ (by assumption) ?_
      rotate_left
      · (intro w hSw; (try dsimp only at hSw); go_simp <;> with_reducible rfl)
      simp only [Act.put, List.setIfInBounds_toArray, List.set_cons_zero, List.set_cons_succ]
      refine anyH_at (i := 4) (d := some 53) rfl rfl (by kernel_rfl) (by kernel_rfl) (by kernel_rfl) (fun _ _ _ h => h) (by rfl) (v := ?_) ?_ (by assumption) ?_
      rotate_left
      · (intro w hSw; (try dsimp only at hSw); go_simp <;> with_reducible rfl)
      simp only [Act.put, List.setIfInBounds_toArray, List.set_cons_zero, List.set_cons_succ]
      refine anyH_at (i := 6) (d := some 55) rfl rfl (by kernel_rfl) (by kernel_rfl) (by kernel_rfl) (fun _ _ _ h => h) (by rfl) (v := ?_) ?_ (by assumption) ?_
      rotate_left
      · (intro w hSw; (try dsimp only at hSw); go_simp <;> with_reducible rfl)
      simp only [Act.put, List.setIfInBounds_toArray, List.set_cons_zero, List.set_cons_succ]
      refine wpAnyH_ready (rs := [5]) (by kernel_rfl) (by simp) ?_
      refine AllReadyH.cons rfl (fun K hK => ?_) AllReadyH.nil
      go_simp
      have T12 := hide ((unhide TRe).later (below_drew w11))
      have O12 := hide (own_later (unhide HO) (below_drew w11))
      have Y12 := hide (own_later (unhide HY) (below_drew w11))
      clear TRe HO HY
      refine (pick_any _ (w.heap.size + 2) q5 8 (by exact (unhide T12).td.dr.rd) (by omega) (by omega) (by omega)).mono ?_
      rintro e w13 ⟨v13, rfl, v130, v131, hr, hk⟩
      have T13 := hide ((unhide T12).keep hk hr)
      have O13 := hide ((unhide T12).td.dr.row hk (unhide O12))
      have Y13 := hide ((unhide T12).td.dr.row hk (unhide Y12))
      clear hr hk T12 O12 Y12
      go_wp2_with fail
      refine hK.out _ _ ?_ (fun hHeldN => ?_)
      · exact ⟨box7 (unhide T13).td.hX, box3c (unhide T13).hY⟩
      clear hHeld
      have hHeld := hHeldN
      clear hHeldN
      clear hK K
      try simp only [Act.put, List.setIfInBounds_toArray, List.set_cons_zero, List.set_cons_succ]
      refine wpAnyH_ready (rs := [7]) (by kernel_rfl) (by simp) ?_
      refine AllReadyH.cons rfl (fun K hK => ?_) AllReadyH.nil
      go_simp
      refine (pick_any _ (w.heap.size + 2) (q5 + 1) 30 (by exact (unhide T13).td.dr.rd) (by omega) (by omega) (by omega)).mono ?_
      rintro e w14 ⟨v14, rfl, v140, v141, hr, hk⟩
      have TRe := hide ((unhide T13).keep hk hr)
      have HO := hide ((unhide T13).td.dr.row hk (unhide O13))
      have HY := hide ((unhide T13).td.dr.row hk (unhide Y13))
      clear hr hk T13 O13 Y13
      obtain ⟨qq, hqq, qq0, qq1⟩ := quo_29 v140 (by omega)
      have e58 : IntKind.i64.wrap (qq * 60) = qq * 60 := wrap_in' (by omega) (by omega)
      have e59 : IntKind.i64.wrap (v13 + qq * 60) = v13 + qq * 60 := wrap_in' (by omega) (by omega)
      go_wp2_with fail
      refine hK.out _ _ ?_ (fun hHeldN => ?_)
      · exact ⟨box7 (unhide TRe).td.hX, box3c (unhide TRe).hY⟩
      have hRe := (unhide TRe).td.box0 (unhide HR1).1 (by omega)
      obtain ⟨f0, f1, f2, f3, f4, f5, f6⟩ := frz7 hRe
      obtain ⟨r0, r1, r2, r3, r4, r5, r6⟩ := box7 hRe
      have HRF := hide hRe
      have hSf := (unhide TRe).td.box0 (unhide HR1).2 (by omega)
      have HSF := hide hSf
      clear hRe hSf
      clear hHeld
      have hHeld := hHeldN
      clear hHeldN
      clear hK K
      try simp only [Act.put, List.setIfInBounds_toArray, List.set_cons_zero, List.set_cons_succ]
      refine anyH_at (i := 8) (d := some 57) rfl rfl (by kernel_rfl) (by kernel_rfl) (by kernel_rfl) (fun _ _ _ h => h) (by rfl) (v := ?_) ?_ (by assumption) ?_
      rotate_left
      · (intro w hSw; (try dsimp only at hSw); go_simp <;> with_reducible rfl)
      simp only [Act.put, List.setIfInBounds_toArray, List.set_cons_zero, List.set_cons_succ]
      refine anyH_at (i := 9) (d := some 58) rfl rfl (by kernel_rfl) (by kernel_rfl) (by kernel_rfl) (fun _ _ _ h => h) (by rfl) (v := ?_) ?_ (by assumption) ?_
      rotate_left
      · (intro w hSw; (try dsimp only at hSw); go_simp <;> with_reducible rfl)
      simp only [Act.put, List.setIfInBounds_toArray, List.set_cons_zero, List.set_cons_succ]
      refine anyH_at (i := 10) (d := some 59) rfl rfl (by kernel_rfl) (by kernel_rfl) (by kernel_rfl) (fun _ _ _ h => h) (by rfl) (v := ?_) ?_ (by assumption) ?_
      rotate_left
      · (intro w hSw; (try dsimp only at hSw); go_simp <;> with_reducible rfl)
      simp only [Act.put, List.setIfInBounds_toArray, List.set_cons_zero, List.set_cons_succ]
      refine wpAnyH_ready (rs := [11]) (by kernel_rfl) (by simp) ?_
      refine AllReadyH.cons rfl (fun K hK => ?_) AllReadyH.nil
      go_simp
      obtain ⟨hR9, hfar9, hsz9, ho9, ht9, hp9⟩ := fin7 (a := .int .i64 n) (b := .slice ka ks.length kc) (c := .int .i64 d) (d := .bool has) (e := .int .i64 num) (f := .int .i64 til) (g := .slice ma ms.length mc) (unhide HRF) rfl
      generalize World.setCell _ _ _ = w15 at *
      clear f0 f1 f2 f3 f4 f5 f6 r0 r1 r2 r3 r4 r5 r6
      have y7 := box7 ((hfar9 X (unhide NN).1.1).trans (unhide TRe).td.hX)
      have y33 := box3c ((hfar9 Y (unhide NN).2.1.1).trans (unhide TRe).hY)
      refine hK.out _ _ ?_ (fun hHeldN => ?_)
      · exact ⟨y7, y33⟩
      clear y7 y33
      have hS9 := (hfar9 (w.heap.size + 1) (Nat.succ_ne_self _)).trans (unhide HSF)
      have g0 := frozenOf hS9 0
      have g1 := frozenOf hS9 1
      have g2 := frozenOf hS9 2
      have g3 := frozenOf hS9 3
      obtain ⟨y0, y1, y2, y3⟩ := box4d hS9
      clear hHeld
      have hHeld := hHeldN
      clear hHeldN
      clear hK K
      try simp only [Act.put, List.setIfInBounds_toArray, List.set_cons_zero, List.set_cons_succ]
      refine wpAnyH_ready (rs := [12]) (by kernel_rfl) (by simp) ?_
      refine AllReadyH.cons rfl (fun K hK => ?_) AllReadyH.nil
      go_simp
      obtain ⟨hS10, hfar10, hsz10, ho10, ht10, hp10⟩ := fin4 (a := .int .i64 n2) (b := .int .i64 t2) (c := .slice a2 m2.length c2) (d := .slice ua lb.length uc) hS9 rfl
      generalize World.setCell _ _ _ = w16 at *
      clear g0 g1 g2 g3 y0 y1 y2 y3
      have hfar : ∀ k, k ≠ w.heap.size → k ≠ w.heap.size + 1 → w16.heap[k]? = w14.heap[k]? := fun k h1 h2 => (hfar10 k h2).trans (hfar9 k h1)
      have y7 := box7 ((hfar X (unhide NN).1.1 (unhide NN).1.2).trans (unhide TRe).td.hX)
      have y33 := box3c ((hfar Y (unhide NN).2.1.1 (unhide NN).2.1.2).trans (unhide TRe).hY)
      refine hK.out _ _ ?_ (fun hHeldN => ?_)
      · exact ⟨y7, y33⟩
      clear y7 y33
      have hb16 := below_far (below_far ((unhide TRe).td.below (unhide B1) (by omega)) (Nat.le_refl _) hfar9 hsz9 ho9 ht9 hp9) (by omega : w.heap.size ≤ w.heap.size + 1) hfar10 hsz10 ho10 ht10 hp10
      have j1 : Ins w16 (.slice ka ks.length kc) ks := OwnI.ins (B := w1.heap.size) (own_keepS (unhide TRe).td.keys (fun g _ _ hg _ => hfar g ((unhide NN).2.2 g hg).1 ((unhide NN).2.2 g hg).2)) (by omega)
      have j2 : Trs w16 (.slice ma ms.length mc) ms := Trs.own (B := w1.heap.size) (own_keepS (unhide TRe).td.own (fun g _ _ hg _ => hfar g ((unhide NN).2.2 g hg).1 ((unhide NN).2.2 g hg).2)) (by omega)
      have j3 : Trs w16 (.slice a2 m2.length c2) m2 := Trs.own (B := w1.heap.size) (own_keepS (unhide HY) (fun g _ _ hg _ => hfar g ((unhide NN).2.2 g hg).1 ((unhide NN).2.2 g hg).2)) (by omega)
      have j4 : Ins w16 (.slice ua lb.length uc) lb := OwnI.ins (B := w1.heap.size) (own_keepS (unhide HO) (fun g _ _ hg _ => hfar g ((unhide NN).2.2 g hg).1 ((unhide NN).2.2 g hg).2)) (by omega)
      obtain ⟨q0, q1, q2', q3, q4', q5', q6'⟩ := box7 ((hfar10 w.heap.size (Nat.succ_ne_self _).symm).trans hR9)
      obtain ⟨p0, p1, p2, p3⟩ := box4d hS10
      clear hHeld
      have hHeld := hHeldN
      clear hHeldN
      clear hK K
      try simp only [Act.put, List.setIfInBounds_toArray, List.set_cons_zero, List.set_cons_succ]
      refine anyH_at (i := 13) (d := some 4) rfl rfl (by kernel_rfl) (by kernel_rfl) (by kernel_rfl) (fun _ _ _ h => h) (by rfl) (v := ?_) ?_ (by assumption) ?_
      rotate_left
      · (intro w hSw; (try dsimp only at hSw); go_simp <;> with_reducible rfl)
      simp only [Act.put, List.setIfInBounds_toArray, List.set_cons_zero, List.set_cons_succ]
      refine wpAnyH_done (by kernel_rfl) ?_ _
      go_wp2
      exact bodyPost_ret (v := .tuple #[.agg #[.int .i64 n, .slice ka ks.length kc, .int .i64 d, .bool has, .int .i64 num, .int .i64 til, .slice ma ms.length mc], .agg #[.int .i64 n2, .int .i64 t2, .slice a2 m2.length c2, .slice ua lb.length uc], .int .i64 (v13 + qq * 60)]) (by simp [results, Try.results10, go_sem, q0, q1, q2', q3, q4', q5', q6', p0, p1, p2, p3]) rfl ⟨_, _, _, ks, _, _, _, _, ms, _, _, _, _, m2, lb, _, rfl, hks, hms, hm2, by omega, j1, j2, j3, j4, hb16, own_room (unhide TRe).td.keys⟩
    · have hv10' : (v10 == 0) = false := by simpa using hv10
      obtain ⟨ua, uc, hub⟩ := own_formS (unhide O10)
      subst hub
      go_wp2_with fail
      have HX : Hid (∃ q5, q5 ≤ 10000 ∧ TdY (w.heap.size + 2) w1 (w.heap.size + 2) w10 q5 X n d (.slice ka ks.length kc) ks has num til (.slice ma ms.length mc) ms Y n2 t2 (.slice a2 m2.length c2)) := ⟨_, by omega, unhide T10⟩
      have HO : Hid (w10.ownsRow w1.heap.size 3 1 (.slice ua ks.length uc) ks.length (ks.map (Value.int .i64))) := unhide O10
      have HY := Y10
      clear T10 O10 Y10 hv10 hv10'
      generalize w10 = w11 at *
      obtain ⟨q5, hTR⟩ := unhide HX
      have TRe := hide hTR.2
      have hq5 := hTR.1
      clear hTR HX
      have hXb := (unhide TRe).td.lX
      have hYb := (unhide TRe).lY
      have nX : X ≠ w.heap.size ∧ X ≠ w.heap.size + 1 := by omega
      have nY : Y ≠ w.heap.size ∧ Y ≠ w.heap.size + 1 := by omega
      have nG : ∀ g, w1.heap.size ≤ g → g ≠ w.heap.size ∧ g ≠ w.heap.size + 1 := fun g hg => by omega
      have NN := hide (And.intro nX (And.intro nY nG))
      clear nX nY nG hXb hYb
      obtain ⟨x0, x1, x2, x3, x4, x5, x6⟩ := box7 (unhide TRe).td.hX
      obtain ⟨z0, z1, z2⟩ := box3c (unhide TRe).hY
      refine wp_region_held_drew (S := fun w' => (w'.cell? ⟨X, 0, none⟩ = some (.int .i64 n) ∧ w'.cell? ⟨X, 1, none⟩ = some (.slice ka ks.length kc) ∧ w'.cell? ⟨X, 2, none⟩ = some (.int .i64 d) ∧ w'.cell? ⟨X, 3, none⟩ = some (.bool has) ∧ w'.cell? ⟨X, 4, none⟩ = some (.int .i64 num) ∧ w'.cell? ⟨X, 5, none⟩ = some (.int .i64 til) ∧ w'.cell? ⟨X, 6, none⟩ = some (.slice ma ms.length mc)) ∧ (w'.cell? ⟨Y, 0, none⟩ = some (.int .i64 n2) ∧ w'.cell? ⟨Y, 1, none⟩ = some (.int .i64 t2) ∧ w'.cell? ⟨Y, 2, none⟩ = some (.slice a2 m2.length c2))) (by kernel_rfl) ?_ (fun hHeld => ?_)
      · exact ⟨⟨x0, x1, x2, x3, x4, x5, x6⟩, z0, z1, z2⟩
      clear x0 x1 x2 x3 x4 x5 x6 z0 z1 z2
      refine anyH_at (i := 0) (d := some 49) rfl rfl (by kernel_rfl) (by kernel_rfl) (by kernel_rfl) (fun _ _ _ h => h) (by rfl) (v := ?_) ?_ (by assumption) ?_
      rotate_left
      · (intro w hSw; (try dsimp only at hSw); go_simp <;> with_reducible rfl)
      simp only [Act.put, List.setIfInBounds_toArray, List.set_cons_zero, List.set_cons_succ]
      refine anyH_at (i := 1) (d := some 50) rfl rfl (by kernel_rfl) (by kernel_rfl) (by kernel_rfl) (fun _ _ _ h => h) (by rfl) (v := ?_) ?_ (by assumption) ?_
      rotate_left
      · (intro w hSw; (try dsimp only at hSw); go_simp <;> with_reducible rfl)
      simp only [Act.put, List.setIfInBounds_toArray, List.set_cons_zero, List.set_cons_succ]
      refine anyH_at (i := 2) (d := some 51) rfl rfl (by kernel_rfl) (by kernel_rfl) (by kernel_rfl) (fun _ _ _ h => h) (by rfl) (v := ?_) ?_ (by assumption) ?_
      rotate_left
      · (intro w hSw; (try dsimp only at hSw); go_simp <;> with_reducible rfl)
      simp only [Act.put, List.setIfInBounds_toArray, List.set_cons_zero, List.set_cons_succ]
      refine anyH_at (i := 3) (d := some 52) rfl rfl (by kernel_rfl) (by kernel_rfl) (by kernel_rfl) (fun _ _ _ h => h) (by rfl) (v := ?_) ?_ (by assumption) ?_
      rotate_left
      · (intro w hSw; (try dsimp only at hSw); go_simp <;> with_reducible rfl)
      simp only [Act.put, List.setIfInBounds_toArray, List.set_cons_zero, List.set_cons_succ]
      refine anyH_at (i := 4) (d := some 53) rfl rfl (by kernel_rfl) (by kernel_rfl) (by kernel_rfl) (fun _ _ _ h => h) (by rfl) (v := ?_) ?_ (by assumption) ?_
      rotate_left
      · (intro w hSw; (try dsimp only at hSw); go_simp <;> with_reducible rfl)
      simp only [Act.put, List.setIfInBounds_toArray, List.set_cons_zero, List.set_cons_succ]
      refine anyH_at (i := 6) (d := some 55) rfl rfl (by kernel_rfl) (by kernel_rfl) (by kernel_rfl) (fun _ _ _ h => h) (by rfl) (v := ?_) ?_ (by assumption) ?_
      rotate_left
      · (intro w hSw; (try dsimp only at hSw); go_simp <;> with_reducible rfl)
      simp only [Act.put, List.setIfInBounds_toArray, List.set_cons_zero, List.set_cons_succ]
      refine wpAnyH_ready (rs := [5]) (by kernel_rfl) (by simp) ?_
      refine AllReadyH.cons rfl (fun K hK => ?_) AllReadyH.nil
      go_simp
      have T12 := hide ((unhide TRe).later (below_drew w11))
      have O12 := hide (own_later (unhide HO) (below_drew w11))
      have Y12 := hide (own_later (unhide HY) (below_drew w11))
      clear TRe HO HY
      refine (pick_any _ (w.heap.size + 2) q5 8 (by exact (unhide T12).td.dr.rd) (by omega) (by omega) (by omega)).mono ?_
      rintro e w13 ⟨v13, rfl, v130, v131, hr, hk⟩
      have T13 := hide ((unhide T12).keep hk hr)
      have O13 := hide ((unhide T12).td.dr.row hk (unhide O12))
      have Y13 := hide ((unhide T12).td.dr.row hk (unhide Y12))
      clear hr hk T12 O12 Y12
      go_wp2_with fail
      refine hK.out _ _ ?_ (fun hHeldN => ?_)
      · exact ⟨box7 (unhide T13).td.hX, box3c (unhide T13).hY⟩
      clear hHeld
      have hHeld := hHeldN
      clear hHeldN
      clear hK K
      try simp only [Act.put, List.setIfInBounds_toArray, List.set_cons_zero, List.set_cons_succ]
      refine wpAnyH_ready (rs := [7]) (by kernel_rfl) (by simp) ?_
      refine AllReadyH.cons rfl (fun K hK => ?_) AllReadyH.nil
      go_simp
      refine (pick_any _ (w.heap.size + 2) (q5 + 1) 30 (by exact (unhide T13).td.dr.rd) (by omega) (by omega) (by omega)).mono ?_
      rintro e w14 ⟨v14, rfl, v140, v141, hr, hk⟩
      have TRe := hide ((unhide T13).keep hk hr)
      have HO := hide ((unhide T13).td.dr.row hk (unhide O13))
      have HY := hide ((unhide T13).td.dr.row hk (unhide Y13))
      clear hr hk T13 O13 Y13
      obtain ⟨qq, hqq, qq0, qq1⟩ := quo_29 v140 (by omega)
      have e58 : IntKind.i64.wrap (qq * 60) = qq * 60 := wrap_in' (by omega) (by omega)
      have e59 : IntKind.i64.wrap (v13 + qq * 60) = v13 + qq * 60 := wrap_in' (by omega) (by omega)
      go_wp2_with fail
      refine hK.out _ _ ?_ (fun hHeldN => ?_)
      · exact ⟨box7 (unhide TRe).td.hX, box3c (unhide TRe).hY⟩
      have hRe := (unhide TRe).td.box0 (unhide HR1).1 (by omega)
      obtain ⟨f0, f1, f2, f3, f4, f5, f6⟩ := frz7 hRe
      obtain ⟨r0, r1, r2, r3, r4, r5, r6⟩ := box7 hRe
      have HRF := hide hRe
      have hSf := (unhide TRe).td.box0 (unhide HR1).2 (by omega)
      have HSF := hide hSf
      clear hRe hSf
      clear hHeld
      have hHeld := hHeldN
      clear hHeldN
      clear hK K
      try simp only [Act.put, List.setIfInBounds_toArray, List.set_cons_zero, List.set_cons_succ]
      refine anyH_at (i := 8) (d := some 57) rfl rfl (by kernel_rfl) (by kernel_rfl) (by kernel_rfl) (fun _ _ _ h => h) (by rfl) (v := ?_) ?_ (by assumption) ?_
      rotate_left
      · (intro w hSw; (try dsimp only at hSw); go_simp <;> with_reducible rfl)
      simp only [Act.put, List.setIfInBounds_toArray, List.set_cons_zero, List.set_cons_succ]
      refine anyH_at (i := 9) (d := some 58) rfl rfl (by kernel_rfl) (by kernel_rfl) (by kernel_rfl) (fun _ _ _ h => h) (by rfl) (v := ?_) ?_ (by assumption) ?_
      rotate_left
      · (intro w hSw; (try dsimp only at hSw); go_simp <;> with_reducible rfl)
      simp only [Act.put, List.setIfInBounds_toArray, List.set_cons_zero, List.set_cons_succ]
      refine anyH_at (i := 10) (d := some 59) rfl rfl (by kernel_rfl) (by kernel_rfl) (by kernel_rfl) (fun _ _ _ h => h) (by rfl) (v := ?_) ?_ (by assumption) ?_
      rotate_left
      · (intro w hSw; (try dsimp only at hSw); go_simp <;> with_reducible rfl)
      simp only [Act.put, List.setIfInBounds_toArray, List.set_cons_zero, List.set_cons_succ]
      refine wpAnyH_ready (rs := [11]) (by kernel_rfl) (by simp) ?_
      refine AllReadyH.cons rfl (fun K hK => ?_) AllReadyH.nil
      go_simp
      obtain ⟨hR9, hfar9, hsz9, ho9, ht9, hp9⟩ := fin7 (a := .int .i64 n) (b := .slice ka ks.length kc) (c := .int .i64 d) (d := .bool has) (e := .int .i64 num) (f := .int .i64 til) (g := .slice ma ms.length mc) (unhide HRF) rfl
      generalize World.setCell _ _ _ = w15 at *
      clear f0 f1 f2 f3 f4 f5 f6 r0 r1 r2 r3 r4 r5 r6
      have y7 := box7 ((hfar9 X (unhide NN).1.1).trans (unhide TRe).td.hX)
      have y33 := box3c ((hfar9 Y (unhide NN).2.1.1).trans (unhide TRe).hY)
      refine hK.out _ _ ?_ (fun hHeldN => ?_)
      · exact ⟨y7, y33⟩
      clear y7 y33
      have hS9 := (hfar9 (w.heap.size + 1) (Nat.succ_ne_self _)).trans (unhide HSF)
      have g0 := frozenOf hS9 0
      have g1 := frozenOf hS9 1
      have g2 := frozenOf hS9 2
      have g3 := frozenOf hS9 3
      obtain ⟨y0, y1, y2, y3⟩ := box4d hS9
      clear hHeld
      have hHeld := hHeldN
      clear hHeldN
      clear hK K
      try simp only [Act.put, List.setIfInBounds_toArray, List.set_cons_zero, List.set_cons_succ]
      refine wpAnyH_ready (rs := [12]) (by kernel_rfl) (by simp) ?_
      refine AllReadyH.cons rfl (fun K hK => ?_) AllReadyH.nil
      go_simp
      obtain ⟨hS10, hfar10, hsz10, ho10, ht10, hp10⟩ := fin4 (a := .int .i64 n2) (b := .int .i64 t2) (c := .slice a2 m2.length c2) (d := .slice ua ks.length uc) hS9 rfl
      generalize World.setCell _ _ _ = w16 at *
      clear g0 g1 g2 g3 y0 y1 y2 y3
      have hfar : ∀ k, k ≠ w.heap.size → k ≠ w.heap.size + 1 → w16.heap[k]? = w14.heap[k]? := fun k h1 h2 => (hfar10 k h2).trans (hfar9 k h1)
      have y7 := box7 ((hfar X (unhide NN).1.1 (unhide NN).1.2).trans (unhide TRe).td.hX)
      have y33 := box3c ((hfar Y (unhide NN).2.1.1 (unhide NN).2.1.2).trans (unhide TRe).hY)
      refine hK.out _ _ ?_ (fun hHeldN => ?_)
      · exact ⟨y7, y33⟩
      clear y7 y33
      have hb16 := below_far (below_far ((unhide TRe).td.below (unhide B1) (by omega)) (Nat.le_refl _) hfar9 hsz9 ho9 ht9 hp9) (by omega : w.heap.size ≤ w.heap.size + 1) hfar10 hsz10 ho10 ht10 hp10
      have j1 : Ins w16 (.slice ka ks.length kc) ks := OwnI.ins (B := w1.heap.size) (own_keepS (unhide TRe).td.keys (fun g _ _ hg _ => hfar g ((unhide NN).2.2 g hg).1 ((unhide NN).2.2 g hg).2)) (by omega)
      have j2 : Trs w16 (.slice ma ms.length mc) ms := Trs.own (B := w1.heap.size) (own_keepS (unhide TRe).td.own (fun g _ _ hg _ => hfar g ((unhide NN).2.2 g hg).1 ((unhide NN).2.2 g hg).2)) (by omega)
      have j3 : Trs w16 (.slice a2 m2.length c2) m2 := Trs.own (B := w1.heap.size) (own_keepS (unhide HY) (fun g _ _ hg _ => hfar g ((unhide NN).2.2 g hg).1 ((unhide NN).2.2 g hg).2)) (by omega)
      have j4 : Ins w16 (.slice ua ks.length uc) ks := OwnI.ins (B := w1.heap.size) (own_keepS (unhide HO) (fun g _ _ hg _ => hfar g ((unhide NN).2.2 g hg).1 ((unhide NN).2.2 g hg).2)) (by omega)
      obtain ⟨q0, q1, q2', q3, q4', q5', q6'⟩ := box7 ((hfar10 w.heap.size (Nat.succ_ne_self _).symm).trans hR9)
      obtain ⟨p0, p1, p2, p3⟩ := box4d hS10
      clear hHeld
      have hHeld := hHeldN
      clear hHeldN
      clear hK K
      try simp only [Act.put, List.setIfInBounds_toArray, List.set_cons_zero, List.set_cons_succ]
      refine anyH_at (i := 13) (d := some 4) rfl rfl (by kernel_rfl) (by kernel_rfl) (by kernel_rfl) (fun _ _ _ h => h) (by rfl) (v := ?_) ?_ (by assumption) ?_
      rotate_left
      · (intro w hSw; (try dsimp only at hSw); go_simp <;> with_reducible rfl)
      simp only [Act.put, List.setIfInBounds_toArray, List.set_cons_zero, List.set_cons_succ]
      refine wpAnyH_done (by kernel_rfl) ?_ _
      go_wp2
      exact bodyPost_ret (v := .tuple #[.agg #[.int .i64 n, .slice ka ks.length kc, .int .i64 d, .bool has, .int .i64 num, .int .i64 til, .slice ma ms.length mc], .agg #[.int .i64 n2, .int .i64 t2, .slice a2 m2.length c2, .slice ua ks.length uc], .int .i64 (v13 + qq * 60)]) (by simp [results, Try.results10, go_sem, q0, q1, q2', q3, q4', q5', q6', p0, p1, p2, p3]) rfl ⟨_, _, _, ks, _, _, _, _, ms, _, _, _, _, m2, ks, _, rfl, hks, hms, hm2, by omega, j1, j2, j3, j4, hb16, own_room (unhide TRe).td.keys⟩
end Go.Proofs.Ytkgeekjclcpbpaa
