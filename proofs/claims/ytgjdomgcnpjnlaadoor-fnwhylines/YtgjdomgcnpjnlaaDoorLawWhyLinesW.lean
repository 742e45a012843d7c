/- The walk of FnWhyLines: it returns true and leaves what was there; for every row of bytes. -/
import Derived.Test.YtgjdomgcnpjnlaaDoorLawPlanWhyW
import Derived.Test.YtgjdomgcnpjnlaaDoorWhyMath3
namespace Go.Proofs.YtgjdomgcnpjnlaaDoor
open Go.RowKit

attribute [local go_sem ↓] Go.wp_at_zero Go.wp_at_succ

theorem byte_at (t : List UInt8) (i : Nat) (hi : i < (⟨t.toArray⟩ : ByteArray).size) : t[i]? = some ((⟨t.toArray⟩ : ByteArray)[i]) := by
  have h : i < t.length := hi
  rw [List.getElem?_eq_getElem h]
  rfl

set_option maxHeartbeats 8000000 in
set_option maxRecDepth 100000 in
theorem whyLines_walk (w : World) (a : Option Addr) (len cap : Nat) (h : Bytes w a len cap) :
    Calls Tryd.prog 5 #[.slice a len cap] w fun e w' => e = .returned (.bool true) ∧ Below w.heap.size w w' := by
  by_cases hbig : (1048576 : Int) < (len : Int)
  · go_enter Tryd.func5, Tryd.ntmps5
    go_wp2
    go_ret
    exact ⟨rfl, Below.refl _ _⟩
  have CD := hide (drawPlanWhy_any w a len cap h)
  clear h
  go_enter Tryd.func5, Tryd.ntmps5
  go_wp2_with fail
  refine (unhide CD).mono ?_
  rintro e w1 ⟨v, els, rfl, hpo, hms, b1⟩
  obtain ⟨ma, mc, hmv⟩ := own_formS hpo.own
  subst hmv
  have hrm := own_room hpo.own
  have I1 := hide (POwn.pks (N := fun _ => True) (hpo.weak (fun _ _ => trivial)) (fun _ _ => trivial) (by omega))
  have B1 := hide b1
  clear hpo b1 CD
  obtain ⟨l, hl⟩ : ∃ l : List Ix.Pg, l = els.map (·.1) := ⟨_, rfl⟩
  have hll : l.length = els.length := by rw [hl, List.length_map]
  rw [← hl] at I1
  have HR : Hid (∀ a c, Value.slice ma els.length mc = .slice a l.length c → l.length ≤ c) := fun _ _ e => by injection e with _ _ e; omega
  clear hl
  have HLL := hide hll
  clear hll
  go_wp2_with fail
  refine (implPlanWhy_any _ _ l (unhide I1) (unhide HR)).mono ?_
  rintro e w2 ⟨rfl, b2⟩
  have I2 := hide ((unhide I1).later b2)
  have B2 := hide ((unhide B1).trans (b2.mono (unhide B1).size))
  clear b2 I1 B1
  have hne := str_ne (Ix.why l).toArray
  have CS := hide (specPlanWhy_any _ (.slice ma els.length mc) l (unhide I2))
  have HG := hide (Ix.why_good l)
  have hbd : (Ix.why l).length ≤ 3000 := by
    unfold Ix.why
    split
    · rename_i hk
      split
      · exact of_decide_eq_true rfl
      · refine Ix.told_bd (Ix.linesTo_short l _) ?_
        have h1 := Ix.linesTo_len hk l.length (Nat.le_refl _)
        have h2 := Ix.pkgs_len hk
        unfold Ix.lines
        omega
    · exact of_decide_eq_true rfl
  generalize Ix.why l = t at *
  obtain ⟨s, hs⟩ : ∃ s : ByteArray, s = ⟨t.toArray⟩ := ⟨_, rfl⟩
  have hsz : s.size = t.length := by rw [hs]; rfl
  have hby : ∀ (i : Nat) (hi : i < s.size), t[i]? = some s[i] := by
    subst hs
    exact fun i hi => byte_at t i hi
  rw [← hs] at hne CS ⊢
  have HBY := hide hby
  have HSZ := hide hsz
  have hsb : s.size ≤ 3000 := by omega
  clear hs hby hsz
  go_wp2_with fail
  refine (unhide CS).mono ?_
  rintro e w3 ⟨rfl, b3⟩
  have I3 := hide ((unhide I2).later b3)
  have B3 := hide ((unhide B2).trans (b3.mono (unhide B2).size))
  clear b3 I2 B2 CS
  go_wp2_with fail
  go_loopw [5] (fun i w' => ∃ k : Nat, k ≤ s.size ∧ i = .int .i64 k ∧ w' = w3) (fun i _ => s.size - (intOf i).toNat)
  case atStart => exact ⟨0, Nat.zero_le _, rfl, rfl⟩
  case round =>
    obtain ⟨k, hk, rfl, hwr⟩ := hrel
    subst hwr
    by_cases hlt : k < s.size
    · have hi0 : (0 : Int) ≤ (k : Int) := Int.natCast_nonneg _
      have hi1 : (k : Int) < (s.size : Int) := by omega
      have er : IntKind.i64.wrap ((k : Int) + 1) = (k : Int) + 1 := by simp [IntKind.wrap, IntKind.bits, IntKind.signed]; omega
      by_cases hb : s[k] = 10
      · have hbe : (((s[k].toNat : Nat) : Int) == 10) = true := by rw [hb]; rfl
        rcases Ix.chk_at t 10 (unhide HG).1 k (by rw [unhide HBY k hlt, hb]) with ⟨_, h2⟩ | ⟨j, hj, hn⟩
        · exact absurd rfl h2
        · subst hj
          have hjl : j < s.size := by omega
          have hbn : s[j] ≠ 10 := fun e => hn (by rw [unhide HBY j hjl, e])
          have hbe2 : (((s[j].toNat : Nat) : Int) == 10) = false := by
            rw [beq_eq_false_iff_ne]
            intro e
            exact hbn (UInt8.toNat_inj.1 (by show _ = 10; omega))
          have hz : (((j + 1 : Nat) : Int) == 0) = false := by rw [beq_eq_false_iff_ne]; omega
          have ej : IntKind.i64.wrap (((j + 1 : Nat) : Int) - 1) = (j : Int) := by simp [IntKind.wrap, IntKind.bits, IntKind.signed]; omega
          have ej2 : IntKind.i64.wrap (j : Int) = (j : Int) := by simp [IntKind.wrap, IntKind.bits, IntKind.signed]; omega
          have hj0 : (0 : Int) ≤ (j : Int) := Int.natCast_nonneg _
          have hj1 : (j : Int) < (s.size : Int) := by omega
          clear hb hn hbn
          go_wp2
          go_roundw
          case rel => exact ⟨j + 1 + 1, by omega, by go_num, trivial⟩
          case measure => simp [intOf]; omega
      · have hbe : (((s[k].toNat : Nat) : Int) == 10) = false := by
          rw [beq_eq_false_iff_ne]
          intro e
          exact hb (UInt8.toNat_inj.1 (by show _ = 10; omega))
        clear hb
        go_wp2
        go_roundw
        case rel => exact ⟨k + 1, by omega, by go_num, trivial⟩
        case measure => simp [intOf]; omega
    · obtain rfl : k = s.size := by omega
      clear hlt
      obtain ⟨n, hn⟩ : ∃ n, s.size = n + 1 := ⟨s.size - 1, by have := (unhide HG).2.2; have := unhide HSZ; omega⟩
      have hnl : n < s.size := by omega
      have hlast : s[n]'hnl = 10 := by
        have h1 := (unhide HG).2.1
        rw [List.getLast?_eq_getElem?, ← unhide HSZ, hn, Nat.add_sub_cancel, unhide HBY n hnl] at h1
        exact Option.some.inj h1
      have hbl : ((((s[n]'hnl).toNat : Nat) : Int) == 10) = true := by rw [hlast]; rfl
      have hgt : decide ((1 : Int) < (s.size : Int)) = true := decide_eq_true (by have := (unhide HG).2.2; have := unhide HSZ; omega)
      have en : IntKind.i64.wrap ((s.size : Int) - 1) = (n : Int) := by rw [hn]; simp [IntKind.wrap, IntKind.bits, IntKind.signed]; omega
      have hn0 : (0 : Int) ≤ (n : Int) := Int.natCast_nonneg _
      have hn1 : (n : Int) < (s.size : Int) := by omega
      have HNN := hide hn
      clear hn hlast
      rcases Nat.eq_zero_or_pos els.length with h0 | hp
      · have hd : decide ((0 : Int) < (els.length : Int)) = false := decide_eq_false (by omega)
        go_wp2
        go_ret
        exact ⟨rfl, unhide B3⟩
      have hd : decide ((0 : Int) < (els.length : Int)) = true := decide_eq_true (by omega)
      obtain ⟨pa, pc, hmv, _, hrow⟩ := unhide I3
      injection hmv with hmv1 _ hmv3
      subst hmv1 hmv3
      obtain ⟨b, off, hpa, hb, _, hc⟩ := hrow (by have := unhide HLL; omega)
      subst hpa
      obtain ⟨fv, dv, hAt, hf, hdd⟩ := hc 0 (by have := unhide HLL; omega)
      clear hc hrow
      obtain ⟨nm, vr, fs, ds, hpk⟩ : ∃ nm vr fs ds, Ix.pg l 0 = (nm, vr, fs, ds) := ⟨_, _, _, _, rfl⟩
      rw [hpk] at hAt hf hdd
      dsimp only at hf hdd
      obtain ⟨fa, fc, hfv⟩ := hf.slice
      obtain ⟨da, dc, hdv⟩ := hdd.slice
      subst hfv hdv
      obtain ⟨c0, c1, c2, c3⟩ := hAt
      rw [Nat.zero_mul, Nat.add_zero] at c0 c1 c2 c3
      dsimp only at c0 c1
      have hi00 : (0 : Int) < (els.length : Int) := by omega
      have CK := hide (implPkgOk_any wr nm vr _ _ fs ds hf.prs hdd.prs)
      have HF := hide hf
      clear hpk hf hdd
      go_wp2_with fail
      refine (unhide CK).mono ?_
      rintro e w4 ⟨rfl, b4⟩
      have B4 := hide ((unhide B3).trans (b4.mono (unhide B3).size))
      cases hk : Pk.pkgOk nm vr fs ds
      · clear b4 c0 c1 c2 c3
        go_wp2
        go_ret
        exact ⟨rfl, unhide B4⟩
      rw [← b4.cell hb] at c0 c1 c2 c3
      have hb4 : b < w4.heap.size := Nat.lt_of_lt_of_le hb b4.size
      have HF4 := hide ((unhide HF).later b4)
      have HK := hide hk
      clear b4 hk CK
      have b6 := below12 w4 (.cells #[.int .i64 nm, .int .i64 vr, .slice fa fs.length fc, .slice none 0 0] 37) (.cells #[.int .i64 nm, .int .i64 vr, .slice fa fs.length fc, .slice none 0 0] 37)
      have hr6 := heap_alloc_new (w4.alloc (.cells #[.int .i64 nm, .int .i64 vr, .slice fa fs.length fc, .slice none 0 0] 37)) (.cells #[.int .i64 nm, .int .i64 vr, .slice fa fs.length fc, .slice none 0 0] 37)
      rw [sz1'] at hr6
      have hP6 : Pks (fun _ => True) ((w4.alloc (.cells #[.int .i64 nm, .int .i64 vr, .slice fa fs.length fc, .slice none 0 0] 37)).alloc (.cells #[.int .i64 nm, .int .i64 vr, .slice fa fs.length fc, .slice none 0 0] 37)) (.slice (some ⟨w4.heap.size + 1, 0, none⟩) 1 1) [(nm, vr, fs, [])] := by
        refine ⟨_, 1, rfl, of_decide_eq_true rfl, fun _ => ⟨w4.heap.size + 1, 0, rfl, heapLt hr6, trivial, fun i hi => ?_⟩⟩
        obtain rfl : i = 0 := by simpa using hi
        refine ⟨.slice fa fs.length fc, .slice none 0 0, ⟨?_, ?_, ?_, ?_⟩, ((unhide HF4).weak (fun _ _ => trivial)).later b6, ⟨none, 0, rfl, Nat.zero_le _, fun h => absurd h (Nat.lt_irrefl 0)⟩⟩
        · exact cellOf hr6 0
        · exact cellOf hr6 1
        · exact cellOf hr6 2
        · exact cellOf hr6 3
      have CW := hide (implPlanWhy_any _ _ _ hP6 (fun _ c e => by injection e with _ _ e; show 1 ≤ c; omega))
      rw [Ix.why_one (unhide HK), show Ix.fineT = [102, 105, 110, 101, 10] from rfl] at CW
      have B6 := hide ((unhide B4).trans (b6.mono (unhide B4).size))
      clear b6 hr6 hP6
      go_wp2_with fail
      refine (unhide CW).mono ?_
      rintro e w7 ⟨rfl, b7⟩
      have B7 := hide ((unhide B6).trans (b7.mono (unhide B6).size))
      clear b7 c0 c1 c2 c3
      go_wp2
      go_ret
      exact ⟨rfl, unhide B7⟩
end Go.Proofs.YtgjdomgcnpjnlaaDoor
