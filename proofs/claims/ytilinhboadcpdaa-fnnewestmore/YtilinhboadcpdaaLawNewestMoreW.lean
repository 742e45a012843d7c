/- The walk of FnNewestMore: it returns true and leaves what was there; for every row of bytes. -/
import Derived.Test.YtilinhboadcpdaaNewestPreW
import Derived.Test.YtilinhboadcpdaaCutEW
namespace Go.Proofs.Ytilinhboadcpdaa
open Go.RowKit

attribute [local go_sem ↓] Go.wp_at_zero Go.wp_at_succ

/-- All but one, as far as it was gone. -/
def part (els : List El) (m k : Nat) : List El := (els.take k).eraseIdx m
theorem part_zero (els : List El) (m : Nat) : part els m 0 = [] := rfl
theorem part_full (els : List El) (m : Nat) : part els m els.length = cutE els m := by unfold part cutE; rw [List.take_length, List.eraseIdx_eq_take_drop_succ]
theorem part_same (els : List El) (m : Nat) (hm : m < els.length) : part els m (m + 1) = part els m m := by
  unfold part
  have hl : (els.take m).length = m := by rw [List.length_take]; omega
  rw [List.take_add_one, List.getElem?_eq_getElem hm, List.eraseIdx_append_of_length_le (by omega), hl, Nat.sub_self, List.eraseIdx_of_length_le (l := els.take m) (by omega)]
  simp
theorem part_samek {els : List El} {m k : Nat} (hk : k = m) (hm : m < els.length) : part els m (k + 1) = part els m k := by subst hk; exact part_same els k hm
theorem part_more {els : List El} {m k : Nat} {e : El} (hk : k < els.length) (he : els[k]? = some e) (hne : k ≠ m) : part els m (k + 1) = part els m k ++ [e] := by
  unfold part
  rw [List.take_add_one, he]
  rcases Nat.lt_or_ge m k with h | h
  · rw [List.eraseIdx_append_of_lt_length (by rw [List.length_take]; omega)]
    rfl
  · rw [List.eraseIdx_of_length_le (by rw [List.length_append, List.length_take]; show min k els.length + 1 ≤ m; omega), List.eraseIdx_of_length_le (by rw [List.length_take]; omega)]
    rfl
theorem part_len (els : List El) (m k : Nat) : (part els m k).length ≤ els.length := by
  unfold part
  refine Nat.le_trans (List.length_eraseIdx_le _ _) ?_
  rw [List.length_take]
  omega

set_option maxHeartbeats 8000000 in
set_option maxRecDepth 100000 in
theorem newestMore_walk (w : World) (a : Option Addr) (len cap : Nat) (h : Bytes w a len cap) :
    Calls Try.prog 4 #[.slice a len cap] w fun e w' => e = .returned (.bool true) ∧ Below w.heap.size w w' := by
  by_cases hbig : (1048576 : Int) < (len : Int)
  · go_enter Try.func4, Try.ntmps4
    go_wp2
    go_ret
    exact ⟨rfl, Below.refl _ _⟩
  have CD := hide (drawStoreNewest_any w a len cap h)
  clear h
  go_enter Try.func4, Try.ntmps4
  go_wp2_with fail
  refine (unhide CD).mono ?_
  rintro e w1 ⟨v, els, x, rfl, hpo, hms, x1, x2, b1⟩
  obtain ⟨ma, mc, hmv⟩ := own_formS hpo.own
  subst hmv
  have HPO := hide hpo
  have I1 := hide (POwn.pks (N := fun _ => True) (hpo.weak (fun _ _ => trivial)) (fun _ _ => trivial) (by omega))
  have B1 := hide b1
  clear hpo b1 CD
  obtain ⟨l, hl⟩ : ∃ l : List Ix.Pg, l = els.map (·.1) := ⟨_, rfl⟩
  have HL := hide hl
  rw [← hl] at I1
  clear hl
  obtain ⟨hln1, hln2⟩ := Ix.newA_lens l x
  go_wp2_with fail
  refine (specStoreNewest_any _ _ l x (unhide I1)).mono ?_
  rintro e w2 ⟨u2, rfl, ⟨fv, dv, rfl, ho2⟩, b2⟩
  obtain ⟨fa, fc, da, dc, h1, h2⟩ := ho2.forms
  subst h1 h2
  have I2 := hide ((unhide I1).later b2)
  have P2 := hide (ho2.prs (by omega) (by omega))
  have BB2 := hide b2
  clear ho2 b2
  have HLAW := hide (fun hk => Ix.newest_law (l := l) (x := x) hk)
  have CN := hide (fun (W : World) hW => implStoreNewest_any (N := fun _ => True) W (.slice ma els.length mc) l x hW (by omega) (by omega))
  have HAN : ∃ an, an = Ix.newA l x := ⟨_, rfl⟩
  obtain ⟨an, han⟩ := HAN
  have HANQ := hide han
  rw [← han] at P2 HLAW CN hln1 hln2 ⊢
  clear han
  obtain ⟨⟨nm, vr, fs, ds⟩, bo⟩ := an
  dsimp only at P2 HLAW hln1 hln2 ⊢
  have b3 := below1 w2 (.cells #[.int .i64 nm, .int .i64 vr, .slice fa fs.length fc, .slice da ds.length dc] 29)
  have HX3 := hide (heap_alloc_new w2 (.cells #[.int .i64 nm, .int .i64 vr, .slice fa fs.length fc, .slice da ds.length dc] 29))
  have I3 := hide ((unhide I2).later b3)
  have P3 := hide (And.intro ((unhide P2).1.later b3) ((unhide P2).2.later b3))
  have BB3 := hide ((unhide BB2).trans (b3.mono (unhide BB2).size))
  clear b3 I2 P2 BB2
  go_wp2_with fail
  refine (unhide CN _ (unhide I3)).mono ?_
  generalize hX : w2.heap.size = X at *
  clear hX
  generalize w2.alloc _ = W3 at *
  clear w2
  rintro e w4 ⟨u4, rfl, ⟨fv, dv, rfl, ho4⟩, b4⟩
  obtain ⟨ga, gc, ha, hc, h1, h2⟩ := ho4.forms
  dsimp only at h1 h2
  subst h1 h2
  have b5 := below1 w4 (.cells #[.int .i64 nm, .int .i64 vr, .slice ga fs.length gc, .slice ha ds.length hc] 29)
  have b45 := b4.trans (b5.mono b4.size)
  have HX5 := hide ((b45.block _ (heapLt (unhide HX3))).trans (unhide HX3))
  have HY5 := hide (heap_alloc_new w4 (.cells #[.int .i64 nm, .int .i64 vr, .slice ga fs.length gc, .slice ha ds.length hc] 29))
  have I5 := hide ((unhide I3).later b45)
  have P5 := hide (And.intro ((unhide P3).1.later b45) ((unhide P3).2.later b45))
  have hp4 := ho4.prs (by dsimp only; omega) (by dsimp only; omega)
  have Q5 : Hid (Prs (w4.alloc (.cells #[.int .i64 nm, .int .i64 vr, .slice ga fs.length gc, .slice ha ds.length hc] 29)) (.slice ga fs.length gc) fs ∧ Prs (w4.alloc (.cells #[.int .i64 nm, .int .i64 vr, .slice ga fs.length gc, .slice ha ds.length hc] 29)) (.slice ha ds.length hc) ds) := ⟨hp4.1.later b5, hp4.2.later b5⟩
  have BB5 := hide ((unhide BB3).trans (b45.mono (unhide BB3).size))
  have hXY : X < w4.heap.size := by have := heapLt (unhide HX3); have := b4.size; omega
  clear hp4 ho4 b4 b5 b45 HX3 I3 P3 BB3 CN I1
  clear W3
  have hne : (bo != bo) = false := by simp
  have heq : (bo == bo) = true := by simp
  dsimp only
  have x5 : _ ∧ _ ∧ _ ∧ _ := ⟨cellOf (unhide HX5) 0, cellOf (unhide HX5) 1, cellOf (unhide HX5) 2, cellOf (unhide HX5) 3⟩
  obtain ⟨p0, p1, p2, p3⟩ := x5
  have CLU := hide (fun (W : World) h1 h2 h3 h4 => lu_any W nm vr nm vr (.slice ga fs.length gc) (.slice ha ds.length hc) (.slice fa fs.length fc) (.slice da ds.length dc) fs ds fs ds h1 h2 h3 h4)
  rw [show same nm vr nm vr fs ds fs ds = true from same_yes ⟨rfl, rfl, rfl, rfl⟩] at CLU
  go_wp2_with fail
  refine (unhide CLU _ (unhide Q5).1 (unhide Q5).2 (unhide P5).1 (unhide P5).2).mono ?_
  generalize hYe : w4.heap.size = Y at *
  clear hYe
  generalize w4.alloc _ = W5 at *
  clear w4 p0 p1 p2 p3
  rintro e w6 ⟨rfl, b6⟩
  have HX6 := hide ((b6.block _ (heapLt (unhide HX5))).trans (unhide HX5))
  have HY6 := hide ((b6.block _ (heapLt (unhide HY5))).trans (unhide HY5))
  have I6 := hide ((unhide I5).later b6)
  have P6 := hide (And.intro ((unhide P5).1.later b6) ((unhide P5).2.later b6))
  have Q6 := hide (And.intro ((unhide Q5).1.later b6) ((unhide Q5).2.later b6))
  have BB6 := hide ((unhide BB5).trans (b6.mono (unhide BB5).size))
  clear b6 HX5 HY5 I5 P5 Q5 BB5
  clear W5
  obtain ⟨i0, hI0, hz0, hz1, hz2⟩ := info_parts infoPkg
  obtain ⟨c0, c1, c2, c3⟩ : _ ∧ _ ∧ _ ∧ _ := ⟨cellOf (unhide HX6) 0, cellOf (unhide HX6) 1, cellOf (unhide HX6) 2, cellOf (unhide HX6) 3⟩
  obtain ⟨y0, y1, y2, y3⟩ : _ ∧ _ ∧ _ ∧ _ := ⟨cellOf (unhide HY6) 0, cellOf (unhide HY6) 1, cellOf (unhide HY6) 2, cellOf (unhide HY6) 3⟩
  clear HLAW
  cases bo
  · go_wp2_with fail
    refine (unhide CLU _ (unhide Q6).1 (unhide Q6).2 (unhide P6).1 (unhide P6).2).mono ?_
    rintro e w8 ⟨rfl, b8⟩
    have B8 := hide ((unhide B1).trans (((unhide BB6).trans (b8.mono (unhide BB6).size)).mono (unhide B1).size))
    clear b8
    go_wp2
    go_ret
    exact ⟨rfl, unhide B8⟩
  clear c0 c1 c2 c3 y0 y1 y2 y3 P6 CLU hne heq
  obtain ⟨m, hm, hpm, hone, hmore⟩ := Ix.more_law (unhide HANQ).symm
  have hll : l.length = els.length := by rw [unhide HL, List.length_map]
  have HONE := hide hone
  have HMORE := hide hmore
  have HPM := hide hpm
  have hmE : m < els.length := by omega
  have HLL := hide hll
  clear hone hmore hpm hll HANQ hm
  rcases own_shape (unhide HPO).own with ⟨_, h0⟩ | ⟨g, mc', hv, hgB⟩
  · omega
  injection hv with hv1 _ hv2
  subst hv1 hv2
  have hg1 : g < w1.heap.size := by
    obtain ⟨_, c, hc⟩ := own_row (unhide HPO).own g rfl
    exact heapLt hc
  have bE := below1 w6 (.cells #[] 29)
  have HE := hide (And.intro (emptyP w6) bE)
  have hs16 := (unhide BB6).size
  clear bE
  go_wp2_with fail
  go_loopw [9, 10] (fun o i w' => ∃ k : Nat, k ≤ els.length ∧ i = .int .i64 k ∧ w'.ownsRow w6.heap.size 29 4 o (part els m k).length (flat4 (part els m k)) ∧ Below w6.heap.size w6 w') (fun _ i _ => els.length - (intOf i).toNat)
  case atStart => exact ⟨0, Nat.zero_le _, rfl, (unhide HE).1, (unhide HE).2⟩
  case round =>
    clear HE
    obtain ⟨k, hk, rfl, ho, hw⟩ := hrel
    obtain ⟨oa, oc, hov⟩ := own_formS ho
    subst hov
    have HO := hide ho
    have HW := hide hw
    clear ho hw
    by_cases hlt : k < els.length
    · obtain ⟨e, he⟩ : ∃ e, els[k]? = some e := ⟨_, List.getElem?_eq_getElem hlt⟩
      obtain ⟨n1, n2, n3, n4⟩ := flat4_at els k e he
      have hem := List.mem_of_getElem? he
      obtain ⟨hf, hd⟩ := (unhide HPO).el e hem
      have hpk : Ix.pg l k = e.1 := by
        rw [unhide HL]
        unfold Ix.pg
        rw [List.getD_eq_getElem?_getD, List.getElem?_map, he]
        rfl
      have HE := hide he
      obtain ⟨⟨n2', v2, f2, d2⟩, fv, dv⟩ := e
      dsimp only at n1 n2 n3 n4 hf hd hpk
      obtain ⟨ea, ec, hfv⟩ := hf.slice
      obtain ⟨ka, kc, hdv⟩ := hd.slice
      subst hfv hdv
      have BBw := (unhide BB6).trans ((unhide HW).mono (unhide BB6).size)
      have hi0 : (0 : Int) ≤ (k : Int) := Int.natCast_nonneg _
      have hi1 : (k : Int) < (els.length : Int) := by omega
      have kk : ∀ w', Below wr.heap.size wr w' → (w'.cell? ⟨g, k * 4, none⟩ = some (.int .i64 n2') ∧ w'.cell? ⟨g, k * 4 + 1, none⟩ = some (.int .i64 v2) ∧ w'.cell? ⟨g, k * 4 + 2, none⟩ = some (.slice ea f2.length ec) ∧ w'.cell? ⟨g, k * 4 + 3, none⟩ = some (.slice ka d2.length kc)) ∧ (w'.cell? ⟨Y, 0, none⟩ = some (.int .i64 nm) ∧ w'.cell? ⟨Y, 1, none⟩ = some (.int .i64 vr) ∧ w'.cell? ⟨Y, 2, none⟩ = some (.slice ga fs.length gc) ∧ w'.cell? ⟨Y, 3, none⟩ = some (.slice ha ds.length hc)) := fun w' hw' => by
        have hB := (unhide HW).trans (hw'.mono (unhide HW).size)
        have hx := (hB.block _ (heapLt (unhide HY6))).trans (unhide HY6)
        have hBB := BBw.trans (hw'.mono BBw.size)
        have hO := own_later (unhide HPO).own hBB
        exact ⟨⟨own_cell hO _ _ n1, own_cell hO _ _ n2, own_cell hO _ _ n3, own_cell hO _ _ n4⟩, cellOf hx 0, cellOf hx 1, cellOf hx 2, cellOf hx 3⟩
      have HK := hide kk
      have cP : ∀ w', Below wr.heap.size wr w' → Calls Try.prog 8 #[.agg #[.int .i64 n2', .int .i64 v2, .slice ea f2.length ec, .slice ka d2.length kc], .agg #[.int .i64 nm, .int .i64 vr, .slice ga fs.length gc, .slice ha ds.length hc]] w' fun e w'' => e = .returned (.bool (decide (Ix.pg l k = (nm, vr, fs, ds)))) ∧ Below wr.heap.size wr w'' := fun w' hw' => by
        have hB := BBw.trans (hw'.mono BBw.size)
        have hB6 := (unhide HW).trans (hw'.mono (unhide HW).size)
        refine (lu_any w' n2' v2 nm vr _ _ _ _ f2 d2 fs ds (hf.prs.later hB) (hd.prs.later hB) ((unhide Q6).1.later hB6) ((unhide Q6).2.later hB6)).mono ?_
        rintro e w'' ⟨he, hb⟩
        refine ⟨?_, hw'.trans (hb.mono hw'.size)⟩
        rw [he, hpk]
        exact congrArg (fun b => Ending.returned (.bool b)) (same_pg (p := (n2', v2, f2, d2)) (q := (nm, vr, fs, ds)))
      have CP := hide cP
      have er : IntKind.i64.wrap ((k : Int) + 1) = (k : Int) + 1 := by simp [IntKind.wrap, IntKind.bits, IntKind.signed]; omega
      clear kk cP n1 n2 n3 n4 hf hd hpk BBw he hem
      by_cases hkm : k = m
      · rw [hkm, unhide HPM, decide_eq_true rfl] at CP
        have HKM := hide hkm
        clear hkm
        go_wp2_with fail
        refine wq_region (by kernel_rfl) (by kernel_rfl) ?_
        refine wq_move (d := some 61) rfl rfl (by rfl) rfl ?_
        simp only [Act.put, List.setIfInBounds_toArray, List.set_cons_zero, List.set_cons_succ, List.getElem_toArray, List.getElem_cons_zero, List.getElem_cons_succ]
        refine wq_move (d := some 62) rfl rfl (by rfl) rfl ?_
        simp only [Act.put, List.setIfInBounds_toArray, List.set_cons_zero, List.set_cons_succ, List.getElem_toArray, List.getElem_cons_zero, List.getElem_cons_succ]
        refine wq_take (d := some 63) rfl (by rfl) (v := ?_) ?_ ?_
        rotate_left
        · (intro w hCw; have hKw := (unhide HK) w hCw; go_simp <;> with_reducible rfl)
        simp only [Act.put, List.setIfInBounds_toArray, List.set_cons_zero, List.set_cons_succ]
        refine wq_take (d := some 64) rfl (by rfl) (v := ?_) ?_ ?_
        rotate_left
        · (intro w hCw; have hKw := (unhide HK) w hCw; go_simp <;> with_reducible rfl)
        simp only [Act.put, List.setIfInBounds_toArray, List.set_cons_zero, List.set_cons_succ]
        refine wq_take (d := some 65) rfl (by rfl) (v := ?_) ?_ ?_
        rotate_left
        · (intro w hCw; have hKw := (unhide HK) w hCw; go_simp <;> with_reducible rfl)
        simp only [Act.put, List.setIfInBounds_toArray, List.set_cons_zero, List.set_cons_succ]
        refine wq_call (d := some 66) rfl (by rfl) (hc := (unhide CP)) ?_ ?_
        · (intro w hCw; go_simp)
        simp only [Act.put, List.setIfInBounds_toArray, List.set_cons_zero, List.set_cons_succ]
        refine wq_take (d := some 67) rfl (by rfl) (v := ?_) ?_ ?_
        rotate_left
        · (intro w hCw; have hKw := (unhide HK) w hCw; go_simp <;> with_reducible rfl)
        simp only [Act.put, List.setIfInBounds_toArray, List.set_cons_zero, List.set_cons_succ]
        refine wq_nil ?_
        intro w9 hw9
        go_wp2
        go_roundw
        case rel => exact ⟨k + 1, by omega, by go_num, by rw [part_samek (unhide HKM) hmE]; exact own_later (unhide HO) hw9, (unhide HW).trans (hw9.mono (unhide HW).size)⟩
        case measure => simp [intOf]; omega
      · rw [decide_eq_false (unhide HONE k (by rw [unhide HLL]; exact hlt) hkm)] at CP
        have hpl := part_len els m k
        go_wp2_with fail
        refine wq_region (by kernel_rfl) (by kernel_rfl) ?_
        refine wq_move (d := some 61) rfl rfl (by rfl) rfl ?_
        simp only [Act.put, List.setIfInBounds_toArray, List.set_cons_zero, List.set_cons_succ, List.getElem_toArray, List.getElem_cons_zero, List.getElem_cons_succ]
        refine wq_move (d := some 62) rfl rfl (by rfl) rfl ?_
        simp only [Act.put, List.setIfInBounds_toArray, List.set_cons_zero, List.set_cons_succ, List.getElem_toArray, List.getElem_cons_zero, List.getElem_cons_succ]
        refine wq_take (d := some 63) rfl (by rfl) (v := ?_) ?_ ?_
        rotate_left
        · (intro w hCw; have hKw := (unhide HK) w hCw; go_simp <;> with_reducible rfl)
        simp only [Act.put, List.setIfInBounds_toArray, List.set_cons_zero, List.set_cons_succ]
        refine wq_take (d := some 64) rfl (by rfl) (v := ?_) ?_ ?_
        rotate_left
        · (intro w hCw; have hKw := (unhide HK) w hCw; go_simp <;> with_reducible rfl)
        simp only [Act.put, List.setIfInBounds_toArray, List.set_cons_zero, List.set_cons_succ]
        refine wq_take (d := some 65) rfl (by rfl) (v := ?_) ?_ ?_
        rotate_left
        · (intro w hCw; have hKw := (unhide HK) w hCw; go_simp <;> with_reducible rfl)
        simp only [Act.put, List.setIfInBounds_toArray, List.set_cons_zero, List.set_cons_succ]
        refine wq_call (d := some 66) rfl (by rfl) (hc := (unhide CP)) ?_ ?_
        · (intro w hCw; go_simp)
        simp only [Act.put, List.setIfInBounds_toArray, List.set_cons_zero, List.set_cons_succ]
        refine wq_take (d := some 67) rfl (by rfl) (v := ?_) ?_ ?_
        rotate_left
        · (intro w hCw; have hKw := (unhide HK) w hCw; go_simp <;> with_reducible rfl)
        simp only [Act.put, List.setIfInBounds_toArray, List.set_cons_zero, List.set_cons_succ]
        refine wq_nil ?_
        intro w9 hw9
        obtain ⟨⟨q0, q1, q2, q3⟩, _⟩ := unhide HK w9 hw9
        have HW9 := hide ((unhide HW).trans (hw9.mono (unhide HW).size))
        have HO9 := hide (own_later (unhide HO) hw9)
        have b10 := below1 w9 (.cells #[.int .i64 n2', .int .i64 v2, .slice ea f2.length ec, .slice ka d2.length kc] 29)
        have HO10 := hide (own_later (unhide HO9) b10)
        have HW10 := hide ((unhide HW9).trans (b10.mono (unhide HW9).size))
        have hnw := World.news_of_block (cs := #[.int .i64 n2', .int .i64 v2, .slice ea f2.length ec, .slice ka d2.length kc]) (t := 29) (fr := (0, 0)) (heap_alloc_new w9 (.cells #[.int .i64 n2', .int .i64 v2, .slice ea f2.length ec, .slice ka d2.length kc] 29))
        have HNW := hide hnw
        have HMO := hide (part_more hlt (unhide HE) hkm)
        clear b10 hw9 HO9 hnw
        generalize part els m k = pk at *
        go_wp2_with (at_builtin; refine wpList_append_own _ rfl _ _ _ rfl w6.heap.size 29 i0 _ 4 64 Try.underlying23 hI0 hz0 hz1 hz2 rfl (by omega) (.slice oa pk.length oc) pk.length (flat4 pk) rfl (unhide HO10) ⟨w9.heap.size, 0, none⟩ 1 1 [.int .i64 n2', .int .i64 v2, .slice ea f2.length ec, .slice ka d2.length kc] rfl rfl (unhide HNW) (by simp [Value.oneCell']) (by unfold maxLen; omega) (by omega) (unhide HW10).size ?_; intro v11 w11 hown hgrow _; have HO11 := hide hown; have HW11 := hide (grown_below (B := w6.heap.size) (unhide HO10) hgrow (unhide HW10) (unhide HW10).size); clear hown hgrow)
        go_roundw
        case rel => exact ⟨k + 1, by omega, by go_num, by rw [unhide HMO, flat4_snoc, List.length_append]; exact unhide HO11, unhide HW11⟩
        case measure => simp [intOf]; omega
    · obtain rfl : k = els.length := by omega
      clear hlt
      rw [part_full] at HO ⊢
      have BBw := (unhide BB6).trans ((unhide HW).mono (unhide BB6).size)
      have Bw := hide ((unhide B1).trans (BBw.mono (unhide B1).size))
      have hP : Pks (fun _ => True) wr (.slice oa (cutE els m).length oc) ((cutE els m).map (·.1)) := POwn.of (unhide HPO) BBw (unhide HO) cutE_mem (by rw [cutE_len hmE]; omega)
      rw [cutE_map, ← unhide HL] at hP
      have CN := hide (implStoreNewest_any wr _ _ x hP (by omega) (by omega))
      have HYw := hide (((unhide HW).block _ (heapLt (unhide HY6))).trans (unhide HY6))
      obtain ⟨nc, hnc⟩ : ∃ nc, (cutE els m).length = nc := ⟨_, rfl⟩
      have HCL := hide (hnc.symm.trans (cutE_len (i := m) hmE))
      rw [hnc] at CN
      rw [hnc]
      clear hnc
      have HMO2 := hide (unhide HMORE)
      clear BBw hP HO HPO HMORE
      generalize Ix.newA (Ix.cutP l m) x = an2 at *
      go_wp2_with fail
      refine (unhide CN).mono ?_
      rintro e w12 ⟨u, rfl, ⟨fv, dv, rfl, ho12⟩, b12⟩
      obtain ⟨qa, qc, ra, rc, h1, h2⟩ := ho12.forms
      subst h1 h2
      obtain ⟨⟨qn, qv, qf, qd⟩, qb⟩ := an2
      dsimp only at HMO2 ⊢
      have b13 := below1 w12 (.cells #[.int .i64 qn, .int .i64 qv, .slice qa qf.length qc, .slice ra qd.length rc] 29)
      have b1213 := b12.trans (b13.mono b12.size)
      have hY13 := (b1213.block _ (heapLt (unhide HYw))).trans (unhide HYw)
      have B13 := hide ((unhide Bw).trans (b1213.mono (unhide Bw).size))
      have y1 := cellOf ((b12.block _ (heapLt (unhide HYw))).trans (unhide HYw)) 1
      have hYlt := heapLt ((b12.block _ (heapLt (unhide HYw))).trans (unhide HYw))
      have es : IntKind.i64.wrap ((els.length : Int) - 1) = (els.length : Int) - 1 := by simp [IntKind.wrap, IntKind.bits, IntKind.signed]; omega
      have eq1 : ((nc : Int) == (els.length : Int) - 1) = true := by rw [beq_iff_eq]; have := unhide HCL; omega
      clear ho12 b12 b13 b1213 hY13 CN
      cases qb
      · go_wp2
        go_ret
        exact ⟨rfl, unhide B13⟩
      · obtain ⟨hlv, hqn⟩ := unhide HMO2 rfl
        subst hqn
        have enx : (qn == qn) = true := by simp
        have elv : decide (qv < vr) = true := decide_eq_true hlv
        go_wp2
        go_ret
        exact ⟨rfl, unhide B13⟩
end Go.Proofs.Ytilinhboadcpdaa
