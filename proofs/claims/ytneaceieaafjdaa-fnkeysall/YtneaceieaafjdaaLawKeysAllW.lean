/- The walk of FnKeysAll: it returns true and leaves what was there; for every row of bytes. -/
import Derived.Test.YtneaceieaafjdaaKeysDrawW
import Derived.Test.YtneaceieaafjdaaKeyMath2
import Derived.Test.YtneaceieaafjdaaGrowW
import Derived.Test.YtneaceieaafjdaaAppendGW
namespace Go.Proofs.Ytneaceieaafjdaa
open Go.RowKit

/-- The cells of a row of one's own, as an append reads them. -/
theorem OwnI.news {B : Nat} {w : World} {g c : Nat} {n : Nat} {l : List Int} (h : OwnI B w (.slice (some ⟨g, 0, none⟩) n c) l) : ∀ j u, (l.map (Value.int .i64))[j]? = some u → w.cell? ((⟨g, 0, none⟩ : Addr).add j) = some u := by
  rcases h.2 with ⟨hv, _⟩ | ⟨g', cap, cur, hv, hb, hg, hc, hm, hs, ht⟩
  · cases hv
  · injection hv with e _ _
    injection e with e
    injection e with e _ _
    subst e
    intro j u hu
    have hadd : (⟨g, 0, none⟩ : Addr).add j = ⟨g, 0 + j, none⟩ := by unfold Addr.add; split <;> simp_all
    rw [hadd, Nat.zero_add, cellOf hg]
    rw [← ht, List.getElem?_take] at hu
    split at hu
    · simpa using hu
    · cases hu
theorem OwnI.spot {B : Nat} {w : World} {a : Option Addr} {n c : Nat} {l : List Int} (h : OwnI B w (.slice a n c) l) (hn : 0 < n) : ∃ g, a = some ⟨g, 0, none⟩ := by
  rcases h.2 with ⟨hv, _⟩ | ⟨g', cap, cur, hv, _⟩
  · injection hv with _ e _
    omega
  · injection hv with e _ _
    exact ⟨g', e⟩
theorem all_own {B : Nat} {w : World} {v : Value} (h : w.ownsRow B 3 1 v (0 + 6) ([] ++ (Ky.upTo 6).map (Value.int .i64))) : OwnI B w v (Ky.upTo 6) := by
  unfold OwnI
  rw [Ky.upTo_len]
  exact h
theorem nine_own {B : Nat} {w : World} {v : Value} (h : w.ownsRow B 3 1 v ((Ky.upTo 6).length + 1) ((Ky.upTo 6).map (Value.int .i64) ++ [.int .i64 9])) : OwnI B w v (Ky.upTo 6 ++ [9]) := by
  unfold OwnI
  rw [List.length_append, List.map_append]
  exact h
theorem own_more {B : Nat} {W w w' : World} {v v' : Value} {l : List Int} {m : List Int} (h : OwnI B w v l) (hb : Below B W w) (hB : B ≤ w.heap.size) (hg : w.grownBy w' v.ownBlock) (ho : w'.ownsRow B 3 1 v' (l.length + m.length) (l.map (Value.int .i64) ++ m.map (Value.int .i64))) : OwnI B w' v' (l ++ m) ∧ Below B W w' := by
  refine ⟨?_, hb.grown hg hB (fun j hj => (own_lt h hj).1)⟩
  unfold OwnI
  rw [List.length_append, List.map_append]
  exact ho

set_option maxHeartbeats 1000000 in
theorem keysAll_walk (w : World) (a : Option Addr) (len cap : Nat) (h : Bytes w a len cap) :
    Calls Try.prog 12 #[.slice a len cap] w fun e w' => e = .returned (.bool true) ∧ Below w.heap.size w w' := by
  obtain ⟨i0, hi0, hz0, hz1, hz2⟩ := info_parts infoI
  by_cases hs : len ≤ 1048576
  · have hs' : (len : Int) ≤ 1048576 := by omega
    go_enter Try.func12, Try.ntmps12
    go_wp2_with fail
    refine (drawKeysBoth_any w a len cap h).mono ?_
    rintro e w1 ⟨va, vb, la, lb, rfl, hla, hlb, ia, ib, b1⟩
    obtain ⟨aa, ca, hva⟩ := ia.slice
    obtain ⟨ab, cb, hvb⟩ := ib.slice
    subst hva hvb
    have I1 := hide (And.intro ia (And.intro ib b1))
    clear ia ib b1 h
    go_wp2_with fail
    refine (implKeysBoth_any _ _ _ la lb (unhide I1).1 (unhide I1).2.1).mono ?_
    rintro e w2 ⟨rfl, b2⟩
    have I2 := hide (And.intro ((unhide I1).1.later b2) (And.intro ((unhide I1).2.1.later b2) ((unhide I1).2.2.trans (b2.mono (unhide I1).2.2.size))))
    clear I1 b2
    go_wp2_with fail
    refine (specKeysBoth_b _ _ _ la lb rfl (unhide I2).1 (unhide I2).2.1).mono ?_
    rintro e w3 ⟨rfl, b3⟩
    have I3 := hide (And.intro ((unhide I2).1.later b3) (And.intro ((unhide I2).2.1.later b3) ((unhide I2).2.2.trans (b3.mono (unhide I2).2.2.size))))
    have hne : (Ky.kboth la lb != Ky.kboth la lb) = false := by simp
    have heq : (Ky.kboth la lb == Ky.kboth la lb) = true := by simp
    clear I2 b3
    go_wp2_with fail
    refine (specKeysOk_b _ _ la rfl (unhide I3).1).mono ?_
    rintro e w4 ⟨rfl, b4⟩
    have I4 := hide (And.intro ((unhide I3).1.later b4) (And.intro ((unhide I3).2.1.later b4) ((unhide I3).2.2.trans (b4.mono (unhide I3).2.2.size))))
    clear I3 b4
    cases hA : Ky.keysOk la
    · go_wp2_with fail
      refine (specKeysBoth_b _ _ _ la lb rfl (unhide I4).1 (unhide I4).2.1).mono ?_
      rintro e w5 ⟨rfl, b5⟩
      have B5 := hide ((unhide I4).2.2.trans (b5.mono (unhide I4).2.2.size))
      clear b5 I4
      go_wp2
      go_ret
      exact ⟨rfl, unhide B5⟩
    · clear hne heq
      go_wp2
      go_loopw [6, 7] (fun v i w' => ∃ k : Nat, k ≤ 6 ∧ i = .int .i64 (k + 1) ∧ OwnI w4.heap.size w' v (Ky.upTo k) ∧ Below w4.heap.size w4 w') (fun _ i _ => (8 - intOf i).toNat)
      case atStart => exact ⟨0, by omega, rfl, OwnI.empty w4, below1 _ _⟩
      case round =>
        obtain ⟨k, hk, rfl, ho, hw⟩ := hrel
        obtain ⟨va, vc, hv⟩ := ho.form
        rw [Ky.upTo_len] at hv
        subst hv
        have O := hide ho
        have HW := hide hw
        have hsz := hw.size
        clear ho hw
        by_cases hlt : k < 6
        · have hlt' : (k : Int) + 1 ≤ 6 := by omega
          have HU := hide (Ky.upTo_succ k)
          have hul := Ky.upTo_len k
          have HUL := hide hul
          go_wp2_with (first
            | (at_builtin; refine wpList_append_own _ rfl _ _ 23 rfl w4.heap.size 3 i0 (.int .i64 0) 1 8 Try.underlying23 hi0 hz0 hz1 hz2 rfl (by decide) _ (Ky.upTo k).length ((Ky.upTo k).map (Value.int .i64)) rfl ((unhide O).later (below1 _ _)) ⟨wr.heap.size, 0, none⟩ 1 1 [.int .i64 ((k : Int) + 1)] rfl rfl (cell_one_new _ _ _) (ints_oneCell .i64 [(k : Int) + 1]) (by unfold maxLen; omega) (by omega) (by simp; omega) ?_; intro v' w7 hown' hgrow7 hnil7)
            | go_in)
          have O7 := hide (own_more (m := [(k : Int) + 1]) ((unhide O).later (below1 wr (.cells #[.int .i64 ((k : Int) + 1)] 3))) ((unhide HW).trans ((below1 _ _).mono hsz)) (by simp; omega) hgrow7 hown')
          clear hown' hgrow7 hnil7 O HW
          go_roundw
          case rel => exact ⟨k + 1, by omega, by go_num, by rw [unhide HU]; exact (unhide O7).1, (unhide O7).2⟩
          case measure => simp [intOf]; omega
        · obtain rfl : k = 6 := by omega
          obtain ⟨gu, hgu⟩ := (unhide O).spot (by omega)
          subst hgu
          have I5 := hide ((unhide O).ins (by rw [Ky.upTo_len]; omega))
          have A5 := hide ((unhide I4).1.later (unhide HW))
          have B5 := hide ((unhide I4).2.2.trans ((unhide HW).mono (unhide I4).2.2.size))
          have hol := (unhide O)
          have E1 := hide (Ky.all_both hA)
          have E2 := hide (Ky.nil_both hA)
          have E3 := hide (Ky.nine_bad la)
          have q1 : ((la.length : Int) == (la.length : Int)) = true := by simp
          clear I4
          go_wp2_with fail
          refine (implKeysOk_b _ _ (Ky.upTo 6) Ky.all_ok (unhide I5)).mono ?_
          rintro e w6 ⟨rfl, b6⟩
          have O6 := hide ((unhide O).later b6)
          have I6 := hide ((unhide I5).later b6)
          have A6 := hide ((unhide A5).later b6)
          have B6 := hide ((unhide B5).trans (b6.mono (unhide B5).size))
          have Z6 := hide (Nat.le_trans hsz b6.size)
          clear O I5 A5 B5 b6 hol
          go_wp2_with fail
          refine (implKeysBoth_b _ _ _ (Ky.upTo 6) la (unhide E1) (unhide I6) (unhide A6)).mono ?_
          rintro e w7 ⟨rfl, b7⟩
          have O7 := hide ((unhide O6).later b7)
          have A7 := hide ((unhide A6).later b7)
          have B7 := hide ((unhide B6).trans (b7.mono (unhide B6).size))
          have Z7 := hide (Nat.le_trans (unhide Z6) b7.size)
          clear O6 I6 A6 B6 b7 Z6
          go_wp2_with fail
          refine (implKeysBoth_b _ _ _ la [] (unhide E2) (unhide A7) (Ins.nil _)).mono ?_
          rintro e w8 ⟨rfl, b8⟩
          have O8 := hide ((unhide O7).later b8)
          have A8 := hide ((unhide A7).later b8)
          have B8 := hide ((unhide B7).trans (b8.mono (unhide B7).size))
          have Z8 := hide (Nat.le_trans (unhide Z7) b8.size)
          clear O7 A7 B7 b8 Z7
          have b9 := below1 w8 (.cells #[] 3)
          have O9 := hide ((unhide O8).later b9)
          have U9 := hide (OwnI.empty w8)
          have hu6 : (Ky.upTo 6).length = 6 := Ky.upTo_len 6
          have HU6 := hide hu6
          clear hu6 b9
          go_wp2_with (first
            | (at_builtin; refine wpList_append_wanted _ (by rfl) _ _ 23 rfl w8.heap.size 3 i0 (.int .i64 0) 1 8 Try.underlying23 hi0 hz0 hz1 hz2 rfl (by decide) _ 0 [] rfl (unhide U9) ⟨gu, 0, none⟩ 6 vc ((Ky.upTo 6).map (Value.int .i64)) rfl (by rw [List.length_map, Ky.upTo_len]) (unhide O9).news (ints_oneCell .i64 (Ky.upTo 6)) (by unfold maxLen; omega) (by omega) (by simp) ?_; intro v10 w10 hown10 hgrow10 hnil10; have U10 := hide (all_own hown10); have G10 := hide ((below1 w8 (.cells #[] 3)).grown hgrow10 (by simp) (fun j hj => (own_lt (unhide U9) hj).1)); have hs10 := (unhide G10).size)
            | (at_builtin; refine wpList_append_wanted _ (by rfl) _ _ 23 rfl w8.heap.size 3 i0 (.int .i64 0) 1 8 Try.underlying23 hi0 hz0 hz1 hz2 rfl (by decide) _ (Ky.upTo 6).length ((Ky.upTo 6).map (Value.int .i64)) rfl ((unhide U10).later (below1 _ _)) ⟨w10.heap.size, 0, none⟩ 1 1 [.int .i64 9] rfl rfl (cell_one_new _ _ _) (ints_oneCell .i64 [9]) (by rw [Ky.upTo_len]; unfold maxLen; omega) (by rw [Ky.upTo_len]; omega) (by simp; omega) ?_; intro v11 w11 hown11 hgrow11 hnil11; have G11 := hide (((unhide G10).trans ((below1 _ _).mono hs10)).grown hgrow11 (by simp; omega) (fun j hj => (own_lt ((unhide U10).later (below1 w10 (.cells #[.int .i64 9] 3))) hj).1)); have U11 := hide (nine_own hown11))
            | (go_at_call 19; refine (implKeysBoth_b _ _ _ la (Ky.upTo 6 ++ [9]) (unhide E3) ((unhide A8).later (unhide G11)) ((unhide U11).ins (by rw [List.length_append, Ky.upTo_len]; simp))).mono ?_; rintro e w12 ⟨rfl, b12⟩)
            | go_in)
          have B11 := hide ((unhide B8).trans ((unhide G11).mono (unhide B8).size))
          have B12 := hide ((unhide B11).trans (b12.mono (unhide B11).size))
          clear hown10 hgrow10 hnil10 hown11 hgrow11 hnil11 U10 G10 U9 O9 b12
          go_ret
          exact ⟨rfl, unhide B12⟩
  · have hs' : (1048576 : Int) < (len : Int) := by omega
    go_enter Try.func12, Try.ntmps12
    go_wp2
    go_ret
    exact ⟨rfl, Below.refl _ _⟩
end Go.Proofs.Ytneaceieaafjdaa
