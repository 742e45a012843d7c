/- The walk of FnSignedMore: it returns true and leaves what was there; for every two rows of bytes. -/
import Derived.Test.YtneaceieaafjdaaKeysDrawW
import Derived.Test.YtneaceieaafjdaaKeyMath2
import Derived.Test.YtneaceieaafjdaaGrowW
namespace Go.Proofs.Ytneaceieaafjdaa
open Go.RowKit

attribute [local go_sem ↓] Go.wp_at_zero Go.wp_at_succ

set_option maxHeartbeats 2000000 in
theorem signedMore_walk (w : World) (a : Option Addr) (len cap : Nat) (a1 : Option Addr) (len1 cap1 : Nat) (h : Bytes w a len cap) (_h1 : Bytes w a1 len1 cap1) :
    Calls Try.prog 6 #[.slice a len cap, .slice a1 len1 cap1] w fun e w' => e = .returned (.bool true) ∧ Below w.heap.size w w' := by
  obtain ⟨i0, hi0, hz0, hz1, hz2⟩ := info_parts infoI
  by_cases hs : len ≤ 1048576
  case neg =>
    have hs' : (1048576 : Int) < (len : Int) := by omega
    go_enter Try.func6, Try.ntmps6
    go_wp2
    go_ret
    exact ⟨rfl, Below.refl _ _⟩
  by_cases ht : len1 ≤ 1048576
  case neg =>
    have hs' : (len : Int) ≤ 1048576 := by omega
    have ht' : (1048576 : Int) < (len1 : Int) := by omega
    go_enter Try.func6, Try.ntmps6
    go_wp2
    go_ret
    exact ⟨rfl, Below.refl _ _⟩
  have hs' : (len : Int) ≤ 1048576 := by omega
  have ht' : (len1 : Int) ≤ 1048576 := by omega
  go_enter Try.func6, Try.ntmps6
  go_wp2_with fail
  refine (drawRootSigned_any w a len cap h).mono ?_
  rintro e w1 ⟨n, d, v, vb, k, by', rfl, hl, hlb, ik, ib, b1⟩
  obtain ⟨ak, ck, hv⟩ := ik.slice
  obtain ⟨ab, cb, hvb⟩ := ib.slice
  subst hv hvb
  have X2 := hide (Bx.new (n := n) (d := d) ik 32)
  have b2 := below1 w1 (.cells #[.int .i64 n, .slice ak k.length ck, .int .i64 d] 32)
  have Y2 := hide (ib.later b2)
  have B2 := hide (b1.trans (b2.mono b1.size))
  clear ik ib b1 b2 h _h1
  go_wp2_with fail
  refine (implRootSigned_any _ n d _ _ k by' (unhide X2).ins (unhide Y2)).mono ?_
  generalize w1.alloc _ = W2 at *
  rintro e w3 ⟨rfl, b3⟩
  have X3 := hide ((unhide X2).later b3)
  have Y3 := hide ((unhide Y2).later b3)
  have B3 := hide ((unhide B2).trans (b3.mono (unhide B2).size))
  clear X2 Y2 B2 b3
  clear W2
  generalize w1.heap.size = g at *
  obtain ⟨p0, p1, p2⟩ := (unhide X3).cells
  go_wp2_with fail
  refine (specRootSigned_any _ n d _ _ k by' (unhide X3).ins (unhide Y3)).mono ?_
  rintro e w4 ⟨rfl, b4⟩
  have X4 := hide ((unhide X3).later b4)
  have Y4 := hide ((unhide Y3).later b4)
  have B4 := hide ((unhide B3).trans (b4.mono (unhide B3).size))
  clear X3 Y3 B3 b4 p0 p1 p2
  obtain ⟨p0, p1, p2⟩ := (unhide X4).cells
  cases hS : Ky.signed n k d by'
  · go_wp2_with fail
    refine (specRootSigned_b _ n d _ _ k by' hS (unhide X4).ins (unhide Y4)).mono ?_
    rintro e w5 ⟨rfl, b5⟩
    have B5 := hide ((unhide B4).trans (b5.mono (unhide B4).size))
    clear X4 Y4 B4 b5 p0 p1 p2
    go_wp2
    go_ret
    exact ⟨rfl, unhide B5⟩
  · obtain ⟨hA, hB, hC⟩ := Ky.signed_get hS
    have G5 := hide (Gr.start w4)
    have k0 : (0 : Int) ≤ (len1 : Int) % 6 := Int.emod_nonneg _ (by omega)
    have k1 : (len1 : Int) % 6 < 6 := Int.emod_lt_of_pos _ (by omega)
    clear p0 p1 p2
    go_wp2
    obtain ⟨key, hkey, y0, y1⟩ : ∃ key : Int, key = 1 + (len1 : Int) % 6 ∧ 1 ≤ key ∧ key ≤ 6 := ⟨_, rfl, by omega, by omega⟩
    rw [← hkey]
    clear k0 k1 hkey
    go_loopw [9, 10, 11] (fun v u i w' => ∃ j : Nat, j ≤ 6 ∧ i = .int .i64 (j + 1) ∧ Gr w4 w' v u (Ky.plus by' key j) (Ky.less by' key j)) (fun _ _ i _ => (8 - intOf i).toNat)
    case atStart => exact ⟨0, by omega, rfl, unhide G5⟩
    case round =>
      clear G5
      obtain ⟨j, hj, rfl, hg⟩ := hrel
      obtain ⟨va, vc, hv⟩ := hg.ov.form
      obtain ⟨ua, uc, hu⟩ := hg.ou.form
      subst hv hu
      have G := hide hg
      clear hg
      have pl := Ky.plus_len by' key j
      have ll := Ky.less_len by' key j
      by_cases hlt : j < 6
      · have hlt' : (j : Int) + 1 ≤ 6 := by omega
        have HK := hide (Ky.kboth_ok hB (Ky.ok_one hlt))
        have hH := Ky.has_is hB hlt
        have HP := hide (Ky.plus_succ by' key j)
        have HL := hide (Ky.less_succ by' key j)
        generalize Ky.plus by' key j = P at *
        generalize Ky.less by' key j = L at *
        generalize Ky.cnt by' [(j : Int) + 1] = N at *
        go_wp2_with fail
        have b7 := below1 wr (.cells #[.int .i64 ((j : Int) + 1)] 3)
        refine (implKeysBoth_b _ _ _ by' [(j : Int) + 1] (unhide HK) (((unhide Y4).later (unhide G).be).later b7) (Ins.one wr _ _)).mono ?_
        have G7 := hide ((unhide G).later b7)
        clear G b7
        generalize wr.alloc _ = W7 at *
        rintro e w8 ⟨rfl, b8⟩
        have G8 := hide ((unhide G7).later b8)
        clear G7 b8
        clear W7
        cases hI : Ky.isIn by' ((j : Int) + 1)
        · have hE : ((N : Int) == 1) = false := by rw [hH, hI]
          clear hH
          by_cases hk : (j : Int) + 1 = key
          · have hk' : ((j : Int) + 1 == key) = true := by rw [beq_iff_eq]; exact hk
            have eP : (if (Ky.isIn by' ((j : Int) + 1) || ((j : Int) + 1) == key) then [(j : Int) + 1] else []) = [(j : Int) + 1] := by rw [hI, hk']; rfl
            have eL : (if (Ky.isIn by' ((j : Int) + 1) && ((j : Int) + 1) != key) then [(j : Int) + 1] else []) = [] := by rw [hI]; rfl
            have EP := hide eP
            have EL := hide eL
            clear hk eP eL
            have hsz := (unhide G8).be.size
            go_wp2_with (first
              | (at_builtin; refine wpList_append_own_at _ rfl _ _ 23 rfl w4.heap.size 3 i0 (.int .i64 0) 1 8 Try.underlying23 hi0 hz0 hz1 hz2 rfl (by decide) _ P.length (P.map (Value.int .i64)) rfl ((unhide G8).later (below1 _ _)).ov ⟨w8.heap.size, 0, none⟩ 1 1 [.int .i64 ((j : Int) + 1)] rfl rfl (cell_one_new _ _ _) (ints_oneCell .i64 [(j : Int) + 1]) (by unfold maxLen; omega) (by omega) (by simp; omega) ?_; intro v' w9 hown' hgrow9 hnil9 hloc9)
              | go_in)
            have G9 := hide (((unhide G8).later (below1 w8 (.cells #[.int .i64 ((j : Int) + 1)] 3))).appv hgrow9 hown' hloc9)
            clear hown' hgrow9 hnil9 hloc9 G8
            go_roundw
            case rel => exact ⟨j + 1, by omega, by go_num, by rw [unhide HP, unhide HL, unhide EP, unhide EL, List.append_nil]; exact unhide G9⟩
            case measure => simp [intOf]; omega
          · have hk' : ((j : Int) + 1 == key) = false := by rw [beq_eq_false_iff_ne]; exact hk
            have eP : (if (Ky.isIn by' ((j : Int) + 1) || ((j : Int) + 1) == key) then [(j : Int) + 1] else []) = [] := by rw [hI, hk']; rfl
            have eL : (if (Ky.isIn by' ((j : Int) + 1) && ((j : Int) + 1) != key) then [(j : Int) + 1] else []) = [] := by rw [hI]; rfl
            have EP := hide eP
            have EL := hide eL
            clear hk eP eL
            go_wp2
            go_roundw
            case rel => exact ⟨j + 1, by omega, by go_num, by rw [unhide HP, unhide HL, unhide EP, unhide EL, List.append_nil, List.append_nil]; exact unhide G8⟩
            case measure => simp [intOf]; omega
        · have hE : ((N : Int) == 1) = true := by rw [hH, hI]
          clear hH
          have eP : (if (Ky.isIn by' ((j : Int) + 1) || ((j : Int) + 1) == key) then [(j : Int) + 1] else []) = [(j : Int) + 1] := by rw [hI]; rfl
          have EP := hide eP
          clear eP
          have hsz := (unhide G8).be.size
          by_cases hk : (j : Int) + 1 = key
          · have hk' : ((j : Int) + 1 != key) = false := by rw [bne_eq_false_iff_eq]; exact hk
            have eL : (if (Ky.isIn by' ((j : Int) + 1) && ((j : Int) + 1) != key) then [(j : Int) + 1] else []) = [] := by rw [hI, hk']; rfl
            have EL := hide eL
            clear hk eL
            go_wp2_with (first
              | (at_builtin; refine wpList_append_own_at _ rfl _ _ 23 rfl w4.heap.size 3 i0 (.int .i64 0) 1 8 Try.underlying23 hi0 hz0 hz1 hz2 rfl (by decide) _ P.length (P.map (Value.int .i64)) rfl ((unhide G8).later (below1 _ _)).ov ⟨w8.heap.size, 0, none⟩ 1 1 [.int .i64 ((j : Int) + 1)] rfl rfl (cell_one_new _ _ _) (ints_oneCell .i64 [(j : Int) + 1]) (by unfold maxLen; omega) (by omega) (by simp; omega) ?_; intro v' w9 hown' hgrow9 hnil9 hloc9)
              | go_in)
            have G9 := hide (((unhide G8).later (below1 w8 (.cells #[.int .i64 ((j : Int) + 1)] 3))).appv hgrow9 hown' hloc9)
            clear hown' hgrow9 hnil9 hloc9 G8
            go_roundw
            case rel => exact ⟨j + 1, by omega, by go_num, by rw [unhide HP, unhide HL, unhide EP, unhide EL, List.append_nil]; exact unhide G9⟩
            case measure => simp [intOf]; omega
          · have hk' : ((j : Int) + 1 != key) = true := by rw [bne_iff_ne]; exact hk
            have eL : (if (Ky.isIn by' ((j : Int) + 1) && ((j : Int) + 1) != key) then [(j : Int) + 1] else []) = [(j : Int) + 1] := by rw [hI, hk']; rfl
            have EL := hide eL
            clear hk eL
            go_wp2_with (first
              | (at_builtin; refine wpList_append_own_at _ rfl _ _ 23 rfl w4.heap.size 3 i0 (.int .i64 0) 1 8 Try.underlying23 hi0 hz0 hz1 hz2 rfl (by decide) _ P.length (P.map (Value.int .i64)) rfl ((unhide G8).later (below1 _ _)).ov ⟨w8.heap.size, 0, none⟩ 1 1 [.int .i64 ((j : Int) + 1)] rfl rfl (cell_one_new _ _ _) (ints_oneCell .i64 [(j : Int) + 1]) (by unfold maxLen; omega) (by omega) (by simp; omega) ?_; intro v' w9 hown' hgrow9 hnil9 hloc9; have G9 := hide (((unhide G8).later (below1 w8 (.cells #[.int .i64 ((j : Int) + 1)] 3))).appv hgrow9 hown' hloc9); have hsz9 := (unhide G9).be.size)
              | (at_builtin; refine wpList_append_own_at _ rfl _ _ 23 rfl w4.heap.size 3 i0 (.int .i64 0) 1 8 Try.underlying23 hi0 hz0 hz1 hz2 rfl (by decide) _ L.length (L.map (Value.int .i64)) rfl ((unhide G9).later (below1 _ _)).ou ⟨w9.heap.size, 0, none⟩ 1 1 [.int .i64 ((j : Int) + 1)] rfl rfl (cell_one_new _ _ _) (ints_oneCell .i64 [(j : Int) + 1]) (by unfold maxLen; omega) (by omega) (by simp; omega) ?_; intro u' w10 hown10 hgrow10 hnil10 hloc10)
              | go_in)
            have G10 := hide (((unhide G9).later (below1 w9 (.cells #[.int .i64 ((j : Int) + 1)] 3))).appu hgrow10 hown10 hloc10)
            clear hown' hgrow9 hnil9 hloc9 G8 hown10 hgrow10 hnil10 hloc10 G9
            go_roundw
            case rel => exact ⟨j + 1, by omega, by go_num, by rw [unhide HP, unhide HL, unhide EP, unhide EL]; exact unhide G10⟩
            case measure => simp [intOf]; omega
      · obtain rfl : j = 6 := by omega
        obtain ⟨o1, o2, _⟩ := Ky.plus_ok hB y0 y1
        have hq : Ky.signed n k d (Ky.less by' key 6) = decide (d ≤ (Ky.cnt k (Ky.less by' key 6) : Int)) := Ky.signed_mk hA o2
        have HQ := hide hq
        have HT := hide (Ky.signed_plus hS y0 y1)
        have HK := hide (Ky.kboth_ok (rootOk_keys hA) o2)
        have X6 := hide ((unhide X4).later (unhide G).be)
        have hs6 := (unhide G).be.size
        clear hq o1 o2
        generalize Ky.plus by' key 6 = P at *
        generalize Ky.less by' key 6 = L at *
        generalize Ky.cnt k L = N at *
        have IP := hide ((unhide G).ov.ins (by omega))
        have IL := hide ((unhide G).ou.ins (by omega))
        have B6 := hide ((unhide B4).trans ((unhide G).be.mono (unhide B4).size))
        clear G X4 Y4 B4
        obtain ⟨p0, p1, p2⟩ := (unhide X6).cells
        go_wp2_with fail
        refine (implKeysBoth_b _ _ _ k L (unhide HK) (unhide X6).ins (unhide IL)).mono ?_
        rintro e w7 ⟨rfl, b7⟩
        have X7 := hide ((unhide X6).later b7)
        have JP := hide ((unhide IP).later b7)
        have JL := hide ((unhide IL).later b7)
        have B7 := hide ((unhide B6).trans (b7.mono (unhide B6).size))
        clear X6 IP IL B6 b7 p0 p1 p2
        obtain ⟨p0, p1, p2⟩ := (unhide X7).cells
        have heq : (decide (d ≤ (N : Int)) == decide (d ≤ (N : Int))) = true := by simp
        generalize hZ : decide (d ≤ (N : Int)) = z at *
        go_wp2_with fail
        go_region_held3 (fun w' => w'.cell? ⟨g, 0, none⟩ = some (.int .i64 n) ∧ w'.cell? ⟨g, 1, none⟩ = some (.slice ak k.length ck) ∧ w'.cell? ⟨g, 2, none⟩ = some (.int .i64 d))
          (first
            | (go_keep; done)
            | exact (unhide X9).cells
            | exact (unhide X8).cells
            | fail)
          (first
            | (go_at_call_of 27 (Value.slice va P.length vc); refine (implRootSigned_b _ n d _ _ k P (unhide HT) (by exact (unhide X7).drew.ins) (by exact (unhide JP).drew)).mono ?_; rintro e w8 ⟨rfl, b8⟩; have X8 := hide ((unhide X7).drew.later b8))
            | (go_at_call_of 27 (Value.slice ua L.length uc); refine (implRootSigned_b _ n d _ _ k L (unhide HQ) (by exact (unhide X8).ins) (by exact (unhide JL).drew.later b8)).mono ?_; rintro e w9 ⟨rfl, b9⟩; have X9 := hide ((unhide X8).later b9)))
        have B8 := hide ((unhide B7).drew.trans (b8.mono (unhide B7).size))
        have B9 := hide ((unhide B8).trans (b9.mono (unhide B8).size))
        clear b8 b9 p0 p1 p2
        go_wp2
        go_ret
        exact ⟨ret_bool (by simp), unhide B9⟩
end Go.Proofs.Ytneaceieaafjdaa
