/- What spec.IndexText returns: the text of the index; for every index; nothing old is written. -/
import Derived.Test.YtnoghnkhfgiloaaDoorDecW
import Derived.Test.YtnoghnkhfgiloaaDoorIndexOkW
import Derived.Test.YtnoghnkhfgiloaaDoorImplIndexOkW
namespace Go.Proofs.YtnoghnkhfgiloaaDoor
open Go.RowKit

attribute [local go_sem ↓] Go.wp_at_zero Go.wp_at_succ

theorem toArr_size (l : List UInt8) : (⟨l.toArray⟩ : ByteArray).size = l.length := by show (List.toArray _).size = _; simp
theorem str_one (a : ByteArray) (b : UInt8) (x : List UInt8) (h : a = ⟨x.toArray⟩) : a ++ ⟨#[b]⟩ = ⟨(x ++ [b]).toArray⟩ := by rw [h]; exact app_data x [b]
theorem str_two (a b : ByteArray) (x y : List UInt8) (h : a = ⟨x.toArray⟩) (h' : b = ⟨y.toArray⟩) : a ++ b = ⟨(x ++ y).toArray⟩ := by rw [h, h']; exact app_data x y

set_option maxHeartbeats 4000000 in
set_option maxRecDepth 100000 in
/-- spec.IndexText: the text of the index. -/
theorem indexText_any (w : World) (num til : Int) (mv : Value) (l : List Ix.M) (h : Trs w mv l) :
    Calls Tryd.prog 10 #[.agg #[.int .i64 num, .int .i64 til, mv]] w fun e w' => e = .returned (.string ⟨(Ix.text num til l).toArray⟩) ∧ Below w.heap.size w w' := by
  have HN := hide (And.intro (heap_alloc_new w (.cells #[.int .i64 num, .int .i64 til, mv] 25)) (below1 w (.cells #[.int .i64 num, .int .i64 til, mv] 25)))
  have HT0 := hide h
  have HT := hide (h.later (unhide HN).2)
  obtain ⟨a, cap, hmv⟩ := h.slice
  clear h
  subst hmv
  cases hok : Ix.idxOk num til l
  · go_enter Tryd.func10, Tryd.ntmps10
    go_wp2_with fail
    refine (indexOk_any _ num til _ l (unhide HT)).mono ?_
    rintro e w1 ⟨rfl, hb1⟩
    have HB1 := hide ((unhide HN).2.trans (hb1.mono (unhide HN).2.size))
    clear hb1 HN
    go_wp2
    go_ret
    exact ⟨ret_str (by rw [Ix.text_bad hok]), unhide HB1⟩
  · have HOK := hide hok
    obtain ⟨⟨n0, n1⟩, ⟨t0, t1⟩, hl8, hmo⟩ := Ix.idxOk_get hok
    have HM := hide (fun i hi => Ix.mOk_get (Ix.good_mOk (Ix.metasOk_at hmo i hi)))
    have HMM := hide hmo
    clear hmo
    go_enter Tryd.func10, Tryd.ntmps10
    go_wp2_with fail
    refine (indexOk_any _ num til _ l (unhide HT)).mono ?_
    rw [hok]
    rintro e w1 ⟨rfl, hb1⟩
    have HX1 := hide (blk_below (unhide HN).1 hb1 rfl)
    have HB1 := hide ((unhide HN).2.trans (hb1.mono (unhide HN).2.size))
    clear hb1 HN HT hok
    obtain ⟨s1, hs1⟩ : ∃ s : ByteArray, s = ⟨(Ix.dec num.toNat).toArray⟩ := ⟨_, rfl⟩
    obtain ⟨s2, hs2⟩ : ∃ s : ByteArray, s = ⟨(Ix.dec til.toNat).toArray⟩ := ⟨_, rfl⟩
    have z1 : s1.size ≤ 2 := by rw [hs1, toArr_size]; exact Ix.dec_len2 (by omega)
    have z2 : s2.size ≤ 2 := by rw [hs2, toArr_size]; exact Ix.dec_len2 (by omega)
    have HS1 := hide hs1
    have HS2 := hide hs2
    clear hs1 hs2
    have y1 : ¬ 9223372036854775807 < s1.size + 1 := by omega
    have y2 : ¬ 9223372036854775807 < s1.size + 1 + s2.size := by omega
    have y3 : ¬ 9223372036854775807 < s1.size + 1 + s2.size + 1 := by omega
    have hlt1 := heapLt (unhide HX1)
    have k0 := cellOf (unhide HX1) 0
    have k1 := cellOf (unhide HX1) 1
    go_wp2_with fail
    go_region_held3 (fun w' => (w'.cell? ⟨w.heap.size, 0, none⟩ = some (.int .i64 num) ∧ w'.cell? ⟨w.heap.size, 1, none⟩ = some (.int .i64 til)) ∧ w1.heap.size ≤ w'.heap.size ∧ Below w1.heap.size w1 w')
      (first
        | exact ⟨⟨k0, k1⟩, Nat.le_refl _, (Below.refl _ _).drew⟩
        | (have hh := ‹(_ ∧ _) ∧ _ ≤ _ ∧ Below _ _ _›; exact ⟨⟨(hbn.cell (Nat.lt_of_lt_of_le hlt1 hh.2.1)).trans hh.1.1, (hbn.cell (Nat.lt_of_lt_of_le hlt1 hh.2.1)).trans hh.1.2⟩, Nat.le_trans hh.2.1 hbn.size, hh.2.2.trans (hbn.mono hh.2.1)⟩)
        | fail)
      (first
        | (go_at_call_of 25 num; refine (decI_any num (by omega) (by omega) _).mono ?_; rw [← unhide HS1]; rintro e w3 ⟨rfl, hbn⟩)
        | (go_at_call_of 25 til; refine (decI_any til (by omega) (by omega) _).mono ?_; rw [← unhide HS2]; rintro e w3 ⟨rfl, hbn⟩))
    have hh := ‹(_ ∧ _) ∧ _ ≤ _ ∧ Below w1.heap.size w1 _›
    have HB2 := hide hh.2.2
    have HH := hide (show s1 ++ ⟨#[32]⟩ ++ s2 ++ ⟨#[10]⟩ = ⟨(Ix.headT num til).toArray⟩ from str_one _ _ _ (str_two _ _ _ _ (str_one _ _ _ (unhide HS1)) (unhide HS2)))
    clear hh k0 k1 y1 y2 y3
    go_wp2_with fail
    go_loopw [3, 4] (fun o i w' => ∃ k : Nat, k ≤ l.length ∧ i = .int .i64 k ∧ o = .string ⟨(Ix.headT num til ++ (l.take k).flatMap Ix.metaT).toArray⟩ ∧ Below w1.heap.size w1 w') (fun _ i _ => l.length - (intOf i).toNat)
    case atStart => exact ⟨0, Nat.zero_le _, rfl, by rw [unhide HH]; simp, unhide HB2⟩
    case round =>
      clear HB2 HH z1 z2 HS1 HS2
      obtain ⟨k, hk, rfl, ho, hw⟩ := hrel
      obtain ⟨s, hs⟩ : ∃ s : ByteArray, s = ⟨(Ix.headT num til ++ (l.take k).flatMap Ix.metaT).toArray⟩ := ⟨_, rfl⟩
      rw [← hs] at ho
      subst ho
      have hsz : s.size ≤ 70 := by
        rw [hs, toArr_size, List.length_append]
        have h1 := Ix.headT_len (num := num) (til := til) (by omega) (by omega)
        have h2 := Ix.flat_le (l.take k) (fun x hx => by have := Ix.ok_mem (unhide HMM) x (List.mem_of_mem_take hx); omega)
        rw [List.length_take] at h2
        omega
      have HS := hide hs
      have HW := hide hw
      have HX := hide (blk_below (unhide HX1) hw rfl)
      have hlt := heapLt (unhide HX)
      have k2 := cellOf (unhide HX) 2
      clear hs hw
      by_cases hkl : k < l.length
      · obtain ⟨a', cap', e1, _, hrow⟩ := unhide HT0
        injection e1 with e1 _ e3
        subst e1 e3
        obtain ⟨b, off, rfl, hbs, hc⟩ := hrow (by omega)
        have hbw : Below w.heap.size w wr := (unhide HB1).trans ((unhide HW).mono (unhide HB1).size)
        obtain ⟨c0, c1, c2⟩ := hc k hkl
        rw [← hbw.cell hbs] at c0 c1 c2
        have hbs' : b < wr.heap.size := Nat.lt_of_lt_of_le hbs hbw.size
        obtain ⟨⟨p0, p1⟩, ⟨q0, q1⟩, ⟨r0, r1⟩⟩ := unhide HM k hkl
        clear hc hrow hbw
        have hi0 : (0 : Int) ≤ (k : Int) := Int.natCast_nonneg _
        have hi1 : (k : Int) < (l.length : Int) := by omega
        obtain ⟨u1, hu1⟩ : ∃ s : ByteArray, s = ⟨(Pk.nameT (Ix.nm l k) (Ix.vr l k)).toArray⟩ := ⟨_, rfl⟩
        obtain ⟨u2, hu2⟩ : ∃ s : ByteArray, s = ⟨(Ix.dec (Ix.sm l k).toNat).toArray⟩ := ⟨_, rfl⟩
        have z1 : u1.size = 2 := by rw [hu1, toArr_size]; rfl
        have z2 : u2.size ≤ 4 := by rw [hu2, toArr_size]; exact Ix.dec_len4 (by omega)
        have HU1 := hide hu1
        have HU2 := hide hu2
        have y1 : ¬ 9223372036854775807 < s.size + u1.size := by omega
        have y2 : ¬ 9223372036854775807 < s.size + u1.size + 1 := by omega
        have y3 : ¬ 9223372036854775807 < s.size + u1.size + 1 + u2.size := by omega
        have y4 : ¬ 9223372036854775807 < s.size + u1.size + 1 + u2.size + 1 := by omega
        clear hu1 hu2 z1
        go_wp2_with fail
        go_region_held3 (fun w' => (w'.cell? ⟨w.heap.size, 2, none⟩ = some (.slice (some ⟨b, off, none⟩) l.length cap) ∧ w'.cell? ⟨b, off + k * 3, none⟩ = some (.int .i64 (Ix.nm l k)) ∧ w'.cell? ⟨b, off + k * 3 + 1, none⟩ = some (.int .i64 (Ix.vr l k)) ∧ w'.cell? ⟨b, off + k * 3 + 2, none⟩ = some (.int .i64 (Ix.sm l k))) ∧ wr.heap.size ≤ w'.heap.size ∧ Below wr.heap.size wr w')
          (first
            | exact ⟨⟨k2, c0, c1, c2⟩, Nat.le_refl _, (Below.refl _ _).drew⟩
            | (have hh := ‹(_ ∧ _) ∧ _ ≤ _ ∧ Below _ _ _›; exact ⟨⟨(hbn.cell (Nat.lt_of_lt_of_le hlt hh.2.1)).trans hh.1.1, (hbn.cell (Nat.lt_of_lt_of_le hbs' hh.2.1)).trans hh.1.2.1, (hbn.cell (Nat.lt_of_lt_of_le hbs' hh.2.1)).trans hh.1.2.2.1, (hbn.cell (Nat.lt_of_lt_of_le hbs' hh.2.1)).trans hh.1.2.2.2⟩, Nat.le_trans hh.2.1 hbn.size, hh.2.2.trans (hbn.mono hh.2.1)⟩)
            | fail)
          (first
            | (go_at_call 26; refine (name_any (Ix.nm l k) (Ix.vr l k) _ p0 p1 (by omega) (by omega)).mono ?_; rw [← unhide HU1]; rintro e w3 ⟨rfl, hbn⟩)
            | (go_at_call 25; refine (decI_any (Ix.sm l k) r0 (by omega) _).mono ?_; rw [← unhide HU2]; rintro e w3 ⟨rfl, hbn⟩))
        all_goals
          have hh := ‹(_ ∧ _) ∧ _ ≤ _ ∧ Below wr.heap.size wr _›
          have HB5 := hide hh.2.2
          clear hh
          go_wp2
          go_roundw
          case rel => exact ⟨k + 1, by omega, by go_num, ret_val (by
            rw [Ix.take_flatM l k hkl, ← List.append_assoc]
            have e1 := str_two _ _ _ _ (unhide HS) (unhide HU1)
            have e2 := str_one _ 10 _ (str_two _ _ _ _ (str_one _ 32 _ e1) (unhide HU2))
            rw [e2]
            unfold Ix.metaT
            simp only [List.append_assoc]), (unhide HW).trans ((unhide HB5).mono (unhide HW).size)⟩
          case measure => simp [intOf]; omega
      · obtain rfl : k = l.length := by omega
        go_wp2
        go_ret
        exact ⟨ret_str (by rw [unhide HS, List.take_length, Ix.text_ok (unhide HOK)]), (unhide HB1).trans ((unhide HW).mono (unhide HB1).size)⟩
end Go.Proofs.YtnoghnkhfgiloaaDoor
