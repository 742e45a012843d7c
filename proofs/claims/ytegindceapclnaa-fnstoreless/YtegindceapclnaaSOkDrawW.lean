/- What spec's DrawStoreOk returns: a row of packages that is owned. -/
import Derived.Test.YtegindceapclnaaOffDrawW
import Derived.Test.YtegindceapclnaaOpenW
namespace Go.Proofs.Ytegindceapclnaa
open Go.RowKit

set_option maxHeartbeats 4000000 in
set_option maxRecDepth 100000 in
theorem drawStoreOk_any (w : World) (a : Option Addr) (len cap : Nat) (h : Bytes w a len cap) :
    Calls Try.prog 4 #[.slice a len cap] w fun e w' => ∃ v els, e = .returned v ∧ POx w.heap.size w' v els ∧ els.length ≤ 9 ∧ Below w.heap.size w w' := by
  obtain ⟨i0, hI0, hz0, hz1, hz2⟩ := info_parts infoPkg
  have H := hide h
  clear h
  go_enter Try.func4, Try.ntmps4
  go_wp2_with fail
  refine (open_any _ a len cap (unhide H)).mono ?_
  rintro e w1 ⟨rfl, hr1, b1⟩
  have hlt := hr1.lt
  have hsw := b1.size
  have HR1 := hide hr1
  have B1 := hide b1
  clear hr1 b1 H
  go_wp2_with fail
  refine (l71Off_any _ w.heap.size 0 (unhide HR1) (by omega) (by omega)).mono ?_
  rintro e w2 ⟨v, els, p2, rfl, ho, hl, hp2, hr2, hk2⟩
  obtain ⟨va, vc, hv⟩ := own_formS ho.own
  subst hv
  have HO2 := hide ho
  have HR2 := hide hr2
  have HK2 := hide hk2
  have hs2 := hk2.size
  clear ho hr2 hk2 HR1
  go_wp2_with fail
  refine (pick_any _ w.heap.size p2 4 (unhide HR2) (by omega) (by omega) (by omega)).mono ?_
  rintro e w3 ⟨v3, rfl, v30, v31, hr3, hk3⟩
  have HO3x := hide ((unhide HO2).kp hk3 hlt)
  have HK3x := hide ((unhide HK2).trans hk3 (unhide HK2).size)
  have HR3x := hide hr3
  have hs3' := (unhide HK3x).size
  clear HO2 HR2 HK2 hr3 hk3
  by_cases h0 : v3 = 0
  · subst h0
    go_wp2_with fail
    refine (l71Any_any _ w.heap.size (p2 + 1) (unhide HR3x) (by omega) (by omega)).mono ?_
    rintro e w6 ⟨nm, vr, fv, dv, fs, ds, p6, rfl, hf2, hd2, hp3, of3, od3, hr3, hk3⟩
    have hN : ∀ b, w3.heap.size ≤ b → (w1.heap.size ≤ b ∧ (Value.slice va els.length vc).ownBlock ≠ some b) := fun b hb => ⟨by omega, fun e => by
      obtain ⟨c, hc⟩ := (own_row (unhide HO3x).own b e).2
      have := heapLt hc
      omega⟩
    have hf3 := PrsN.own of3 (by omega) hN
    have hd3 := PrsN.own od3 (by omega) hN
    obtain ⟨fa, fc, hfv⟩ := hf3.slice
    obtain ⟨da, dc, hdv⟩ := hd3.slice
    subst hfv hdv
    have HO3 := (unhide HO3x).kp hk3 hlt
    have HK3 := hide ((unhide HK3x).trans hk3 (unhide HK3x).size)
    have b4 := below1 w6 (.cells #[.int .i64 nm, .int .i64 vr, .slice fa fs.length fc, .slice da ds.length dc] 29)
    have HO4 := hide (HO3.later b4)
    have HF4 := hide (And.intro (hf3.later b4) (hd3.later b4))
    have HR4 := hide (hr3.later (by have := (unhide HK3).size; omega) b4)
    have HK4 := hide ((unhide HK3).trans (Kp.of_below (blk := w.heap.size) b4) (unhide HK3).size)
    have HZ4 := hide (sz1 w6 (.cells #[.int .i64 nm, .int .i64 vr, .slice fa fs.length fc, .slice da ds.length dc] 29))
    have hs3 := (unhide HK3).size
    clear HO3x HO3 HK3x HK3 HR3x of3 od3 hf3 hd3 hr3 hk3 b4 hN
    go_wp2_with (at_builtin; refine wpList_append_lies _ rfl _ _ _ rfl w1.heap.size 29 i0 _ 4 64 Try.underlying23 hI0 hz0 hz1 hz2 rfl (by omega) (.slice va els.length vc) els.length (flat4 els) rfl (unhide HO4).own ⟨w6.heap.size, 0, none⟩ 1 1 [.int .i64 nm, .int .i64 vr, .slice fa fs.length fc, .slice da ds.length dc] rfl rfl (World.news_of_block (cs := #[.int .i64 nm, .int .i64 vr, .slice fa fs.length fc, .slice da ds.length dc]) (t := 29) (fr := (0, 0)) (heap_alloc_new _ _)) (by simp [Value.oneCell']) (by omega) (by unfold maxLen; omega) (by omega) (by have := unhide HZ4; omega) (w6.heap.size + 1) (by rw [sz1]) ?_; intro gg gcap w7 hown hgrow hat hlt5)
    have D4 : Dr w.heap.size w1 w.heap.size (w6.alloc (.cells #[.int .i64 nm, .int .i64 vr, .slice fa fs.length fc, .slice da ds.length dc] 29)) p6 := ⟨unhide HR4, by omega, hlt, unhide HK4⟩
    have D5 := D4.grown (unhide HO4).own hgrow
    have hP5 := POx.app (unhide HO4) (e := ((nm, vr, fs, ds), .slice fa fs.length fc, .slice da ds.length dc)) hgrow hown (hat.imp id (fun e => by rw [unhide HZ4]; omega)) (unhide HF4).1 (unhide HF4).2
    have hl5 : (els ++ [((nm, vr, fs, ds), Value.slice fa fs.length fc, Value.slice da ds.length dc)]).length ≤ 9 := by rw [List.length_append]; simp only [List.length_cons, List.length_nil]; omega
    go_ret
    exact ⟨_, _, rfl, POx.base hP5 hsw, hl5, (unhide B1).trans ((D5.kp.mono hsw).below (Nat.le_refl _))⟩
  · have h0' : (v3 == 0) = false := by simpa using h0
    go_wp2
    go_ret
    exact ⟨_, els, rfl, POx.base (unhide HO3x) hsw, by omega, (unhide B1).trans (((unhide HK3x).mono hsw).below (Nat.le_refl _))⟩
end Go.Proofs.Ytegindceapclnaa
