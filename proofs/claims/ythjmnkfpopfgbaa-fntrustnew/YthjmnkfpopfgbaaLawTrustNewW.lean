/- The walk of FnTrustNew: it returns true; for every code. -/
import Derived.Test.YthjmnkfpopfgbaaNewDrawW
import Derived.Test.YthjmnkfpopfgbaaTrustNewW
import Derived.Test.YthjmnkfpopfgbaaFreshW
import Derived.Test.YthjmnkfpopfgbaaKeyDrawW
namespace Go.Proofs.Ythjmnkfpopfgbaa
open Go.RowKit

theorem Ans.reads {W w' : World} {t : Tr.T} {kv mv : Value} (hk : OwI W.heap.size w' kv t.ks) (hm : OwM W.heap.size w' mv t.ms) (h1 : t.ks.length ≤ 1000000) (h2 : t.ms.length ≤ 1000000) : Ins w' kv t.ks ∧ Trs w' mv t.ms := ⟨OwnI.ins (B := W.heap.size) hk h1, Trs.own hm (by omega)⟩
theorem Tr.new_len {n d : Int} {ks : List Int} (h : ks.length ≤ 7) : (Tr.new n ks d).1.ks.length ≤ 7 ∧ (Tr.new n ks d).1.ms.length ≤ 7 := by
  unfold Tr.new
  split
  · exact ⟨h, Nat.zero_le _⟩
  · exact ⟨Nat.zero_le _, Nat.zero_le _⟩

set_option maxHeartbeats 4000000 in
set_option maxRecDepth 100000 in
theorem trustNew_walk (w : World) (a : Option Addr) (len cap : Nat) (h : Bytes w a len cap) :
    Calls Try.prog 3 #[.slice a len cap] w fun e w' => e = .returned (.bool true) ∧ Below w.heap.size w w' := by
  by_cases hbig : (1048576 : Int) < (len : Int)
  · go_enter Try.func3, Try.ntmps3
    go_wp2
    go_ret
    exact ⟨rfl, Below.refl _ _⟩
  have CD := hide (drawTrustNew_any w a len cap h)
  clear h
  go_enter Try.func3, Try.ntmps3
  go_wp2_with fail
  refine (unhide CD).mono ?_
  clear CD
  rintro e w1 ⟨n, d, kv, ks, rfl, n0, n1, d0, d1, hks, hi1, b1⟩
  obtain ⟨ka, kc, hkv⟩ := hi1.slice
  subst hkv
  have X2 := hide (Bx.new (n := n) (d := d) hi1 25)
  have B2 := hide (b1.trans ((below1 w1 (.cells #[.int .i64 n, .slice ka ks.length kc, .int .i64 d] 25)).mono b1.size))
  clear hi1 b1
  go_wp2_with fail
  refine (specTrustNew_any _ n d _ ks (unhide X2).ins).mono ?_
  generalize w1.heap.size = X at *
  generalize w1.alloc _ = W2 at *
  clear w1
  rintro e w3 ⟨kv3, mv3, rfl, ok3, om3, b3⟩
  obtain ⟨hl1, hl2⟩ := Tr.new_len (n := n) (d := d) hks
  obtain ⟨hi3, ht3⟩ := Ans.reads ok3 om3 (by omega) (by omega)
  have X3 := (unhide X2).later b3
  have B3 := (unhide B2).trans (b3.mono (unhide B2).size)
  obtain ⟨ka3, kc3, e3⟩ := hi3.slice
  obtain ⟨ma3, mc3, e4⟩ := ht3.slice
  subst e3 e4
  have hcase : Tr.new n ks d = (⟨n, ks, d, false, 0, 0, []⟩, true) ∧ Ky.rootOk n ks d = true ∨ Tr.new n ks d = (Tr.T.none, false) := by
    unfold Tr.new
    cases hA : Ky.rootOk n ks d
    · exact .inr rfl
    · exact .inl ⟨rfl, rfl⟩
  have HCASE := hide hcase
  have CI := hide (fun (W : World) hk => implTrustNew_any W n d (.slice ka ks.length kc) ks hk)
  clear hcase
  generalize Tr.new n ks d = r at *
  obtain ⟨t, b⟩ := r
  dsimp only at *
  have T4 := hide (Tb.new (n := t.n) (d := t.d) (has := t.has) (num := t.num) (til := t.til) hi3 ht3 31)
  have X4 := hide (X3.later (below1 w3 (.cells #[.int .i64 t.n, .slice ka3 t.ks.length kc3, .int .i64 t.d, .bool t.has, .int .i64 t.num, .int .i64 t.til, .slice ma3 t.ms.length mc3] 31)))
  have B4 := hide (B3.trans ((below1 w3 (.cells #[.int .i64 t.n, .slice ka3 t.ks.length kc3, .int .i64 t.d, .bool t.has, .int .i64 t.num, .int .i64 t.til, .slice ma3 t.ms.length mc3] 31)).mono B3.size))
  clear ok3 om3 b3 X3 B3 X2 B2 hi3 ht3
  have hXlt : X < w3.heap.size + 1 := by have := (unhide X4).lt; rw [sz1'] at this; exact this
  obtain ⟨x0, x1, x2⟩ := (unhide X4).cells
  unfold tvT tv
  go_wp2_with fail
  refine (unhide CI _ (unhide X4).ins).mono ?_
  generalize w3.heap.size = Y at *
  generalize w3.alloc _ = W4 at *
  clear w3
  rintro e w5 ⟨kv5, mv5, rfl, ok5, om5, b5⟩
  dsimp only at ok5 om5
  obtain ⟨hi5, ht5⟩ := Ans.reads ok5 om5 (by omega) (by omega)
  obtain ⟨ka5, kc5, e3⟩ := hi5.slice
  obtain ⟨ma5, mc5, e4⟩ := ht5.slice
  subst e3 e4
  have X5 := (unhide X4).later b5
  have T5 := (unhide T4).later b5
  have B5 := (unhide B4).trans (b5.mono (unhide B4).size)
  have U6 := hide (Tb.new (n := t.n) (d := t.d) (has := t.has) (num := t.num) (til := t.til) hi5 ht5 31)
  have b6 := below1 w5 (.cells #[.int .i64 t.n, .slice ka5 t.ks.length kc5, .int .i64 t.d, .bool t.has, .int .i64 t.num, .int .i64 t.til, .slice ma5 t.ms.length mc5] 31)
  have X6 := hide (X5.later b6)
  have T6 := hide (T5.later b6)
  have B6 := hide (B5.trans (b6.mono B5.size))
  clear ok5 om5 b5 b6 X5 T5 B5 X4 T4 B4 hi5 ht5 x0 x1 x2 CI
  obtain ⟨x0, x1, x2⟩ := (unhide X6).cells
  obtain ⟨t0, t1, t2, t3, t4, t5, t6⟩ := (unhide T6).cells
  obtain ⟨u0, u1, u2, u3, u4, u5, u6⟩ := (unhide U6).cells
  have CL := hide (fun (W : World) hk1 hm1 hk2 hm2 => luTrust_same W t (.slice ka5 t.ks.length kc5) (.slice ma5 t.ms.length mc5) (.slice ka3 t.ks.length kc3) (.slice ma3 t.ms.length mc3) hk1 hm1 hk2 hm2)
  dsimp only [tvT, tv] at CL
  have hne : (b != b) = false := by simp
  have heq : (b == b) = true := by simp
  unfold tvT tv
  go_wp2_with fail
  refine (unhide CL _ (unhide U6).ins (unhide U6).trs (unhide T6).ins (unhide T6).trs).mono ?_
  generalize w5.heap.size = Z at *
  generalize w5.alloc _ = W6 at *
  clear w5
  rintro e w7 ⟨rfl, b7⟩
  have X7 := hide ((unhide X6).later b7)
  have T7 := hide ((unhide T6).later b7)
  have U7 := hide ((unhide U6).later b7)
  have B7 := hide ((unhide B6).trans (b7.mono (unhide B6).size))
  clear b7 X6 T6 U6 B6 x0 x1 x2 t0 t1 t2 t3 t4 t5 t6 u0 u1 u2 u3 u4 u5 u6
  clear W6
  obtain ⟨x0, x1, x2⟩ := (unhide X7).cells
  obtain ⟨t0, t1, t2, t3, t4, t5, t6⟩ := (unhide T7).cells
  obtain ⟨u0, u1, u2, u3, u4, u5, u6⟩ := (unhide U7).cells
  rcases unhide HCASE with ⟨hc, hA⟩ | hc
  · injection hc with hc1 hc2
    subst hc2
    subst hc1
    dsimp only at *
    have hok : Tr.ok n ks d false 0 0 [] = true := by unfold Tr.ok; rw [hA]; rfl
    have C1 := hide (fun (W : World) hk hm => implTrustOk_any W n d (.slice ka5 ks.length kc5) ks false 0 0 (.slice ma5 0 mc5) [] hk hm)
    have C2 := hide (fun (W : World) hk hm => implTrustFresh_any W n d (.slice ka5 ks.length kc5) ks false 0 0 (.slice ma5 0 mc5) [] 0 hk hm)
    rw [hok] at C1
    have hfr : Tr.fresh n ks d false 0 0 [] 0 = false := by unfold Tr.fresh; rw [hok]; rfl
    rw [hfr] at C2
    dsimp only [tv] at C1 C2
    clear hne heq hA hok hfr HCASE
    go_wp2_with fail
    refine (unhide C1 _ (unhide U7).ins (unhide U7).trs).mono ?_
    rintro e w8 ⟨rfl, b8⟩
    have X8 := hide ((unhide X7).later b8)
    have U8 := hide ((unhide U7).later b8)
    have B8 := hide ((unhide B7).trans (b8.mono (unhide B7).size))
    clear b8 X7 T7 U7 B7 x0 x1 x2 t0 t1 t2 t3 t4 t5 t6 u0 u1 u2 u3 u4 u5 u6
    obtain ⟨x0, x1, x2⟩ := (unhide X8).cells
    obtain ⟨u0, u1, u2, u3, u4, u5, u6⟩ := (unhide U8).cells
    go_wp2_with fail
    refine (luRoot_same _ n d _ _ ks (unhide U8).ins (unhide X8).ins).mono ?_
    rintro e w9 ⟨rfl, b9⟩
    have U9 := hide ((unhide U8).later b9)
    have B9 := hide ((unhide B8).trans (b9.mono (unhide B8).size))
    clear b9 X8 U8 B8 x0 x1 x2 u0 u1 u2 u3 u4 u5 u6
    obtain ⟨u0, u1, u2, u3, u4, u5, u6⟩ := (unhide U9).cells
    go_wp2_with fail
    refine (unhide C2 _ (unhide U9).ins (unhide U9).trs).mono ?_
    rintro e w10 ⟨rfl, b10⟩
    have B10 := hide ((unhide B9).trans (b10.mono (unhide B9).size))
    clear b10
    go_wp2
    go_ret
    exact ⟨rfl, unhide B10⟩
  · injection hc with hc1 hc2
    subst hc2
    subst hc1
    dsimp only [Tr.T.none] at *
    go_wp2_with fail
    refine (unhide CL _ (unhide U7).ins (unhide U7).trs (unhide T7).ins (unhide T7).trs).mono ?_
    rintro e w8 ⟨rfl, b8⟩
    have B8 := hide ((unhide B7).trans (b8.mono (unhide B7).size))
    clear b8
    go_wp2
    go_ret
    exact ⟨rfl, unhide B8⟩
end Go.Proofs.Ythjmnkfpopfgbaa
