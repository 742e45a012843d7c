import Derived.Test.YtlnieobmhofkdaaGreatMix16
import Derived.Test.YtlnieobmhofkdaaGreatMix5
import Derived.Test.YtlnieobmhofkdaaGreatRowNW
import Derived.Test.YtlnieobmhofkdaaGreatPkgTextW
import Derived.Test.YtlnieobmhofkdaaGreatStoreOkW
import Derived.Test.YtlnieobmhofkdaaGreatMix6
import Derived.Test.YtlnieobmhofkdaaGreatMix13
import Derived.Test.YtlnieobmhofkdaaGreatMix12
import Derived.Test.YtlnieobmhofkdaaGreatMix19
import Derived.Test.YtlnieobmhofkdaaGreatMix10
import Derived.Deep.AppendLies
import Derived.Deep.RegionHeld
/- What spec.StoreLacks returns: of what an index tells that is not kept; for all trust and all packages that can be read; nothing old is written. -/
namespace Go.Proofs.YtlnieobmhofkdaaGreat
open Go.RowKit

attribute [local go_sem ↓] Go.wp_at_zero Go.wp_at_succ

theorem text_lenS (nm vr : Int) (fs ds : List (Int × Int)) : (Pk.text nm vr fs ds).length ≤ 100 := by
  cases h : Pk.pkgOk nm vr fs ds
  · rw [text_bad h]; simp
  · obtain ⟨_, _, hf, hd⟩ := pkgOk_get h
    have h1 := (Pk.filesOk_get hf).1
    have h2 := (Pk.depsOk_get hd).1
    rw [text_ok h, List.length_append, List.length_append, flat_len Pk.fileT 4 (fun _ => rfl), flat_len Pk.depT 3 (fun _ => rfl)]
    simp only [Pk.nameT, List.length_cons, List.length_nil]
    omega
section
variable {P : Program} {ops : Array Oper} {Q : Exit → Act → World → Prop} {md : Region.Mode} {S : World → Prop}
theorem anyH_skipU {i : Nat} {oi : Oper} {d : Option Tmp} {fuel : Nat} {listed : Array Bool} {a : Act} {w : World} (hi : ops[i]? = some oi) (hd : oi.dst = d)
    (hs : Region.noSelect ops = true) (hf : Region.free md ops listed i = true) (hr : (Region.ready md ops listed).contains i = true)
    (hQ : ∀ c a w, Q (.panic c) (a.put oi.dst undef) w → Q (.panic c) a w) (hw : Region.wanted oi (yielded ops a.tmps) = false) (hS : S w)
    (h : wpAnyH P md ops Q S fuel (listed.setIfInBounds i true) (a.put d undef) w) : wpAnyH P md ops Q S (fuel + 1) listed a w :=
  wpAnyH_take hi hs hf hr hQ (Or.inr ⟨hw, rfl⟩) hS (by rw [hd]; exact h)
end
theorem metIn_mem (l : List Ix.Pg) (m : Ix.M) : metIn l m = decide (m ∈ l.map Ix.metaP) := by
  unfold metIn
  rw [Bool.eq_iff_iff, List.any_eq_true, decide_eq_true_eq, List.mem_map]
  constructor
  · rintro ⟨p, hp, e⟩; exact ⟨p, hp, of_decide_eq_true e⟩
  · rintro ⟨p, hp, e⟩; exact ⟨p, hp, decide_eq_true e⟩
theorem lacks12_take {ms : List Ix.M} {l : List Ix.Pg} {k : Nat} {m : Ix.M} (hk : k < ms.length) (hm : (Ix.nm ms k, Ix.vr ms k, Ix.sm ms k) = m) : Ix.lacks12 (ms.take (k + 1)) l = if metIn l m = true then Ix.lacks12 (ms.take k) l else Ix.lacks12 (ms.take k) l ++ [m] := by
  have e : ms.take (k + 1) = ms.take k ++ [m] := by
    rw [List.take_succ_eq_append_getElem hk, ← hm]
    congr 2
    unfold Ix.nm Ix.vr Ix.sm
    rw [List.getD_eq_getElem?_getD, List.getElem?_eq_getElem hk]
    rfl
  rw [e, Ix.lacks12_snoc]

set_option maxHeartbeats 8000000 in
set_option maxRecDepth 100000 in
theorem specLacks_any {N : Nat → Prop} (w : World) (t : Tr.T) (kv mv v : Value) (l : List Ix.Pg) (hk : Ins w kv t.ks) (hm : Trs w mv t.ms) (h : Pks N w v l) :
    Calls Tryz.prog 6 #[tvT t kv mv, v] w fun e w' => ∃ u, e = .returned u ∧ OwM w.heap.size w' u (Ix.lacksA t l) ∧ Below w.heap.size w w' := by
  have hbad : t.ok = false → Ix.lacksA t l = [] := fun h => Ix.lacksA_bad h
  have hoff : Ix.pkgsOk l = false → Ix.lacksA t l = [] := fun h => Ix.lacksA_off h
  have hyes : t.ok = true → Ix.pkgsOk l = true → Ix.lacksA t l = Ix.lacks12 t.ms l := fun h1 h2 => Ix.lacksA_yes h1 h2
  have hms : t.ok = true → _ := fun h => Ix.ok_ms h
  have HA := hide (And.intro hbad (And.intro hoff (And.intro hyes hms)))
  clear hbad hoff hyes hms
  obtain ⟨n, ks, d, has, num, til, ms⟩ := t
  dsimp only at hk hm HA
  obtain ⟨i0, hI0, hz0, hz1, hz2⟩ := info_parts infoMeta
  obtain ⟨ka, kc, hkv⟩ := hk.slice
  obtain ⟨ma, mc, hmv⟩ := hm.slice
  obtain ⟨va, vc, hv⟩ := h.slice
  subst hkv hmv hv
  have B0 := below1 w (.cells #[.int .i64 n, .slice ka ks.length kc, .int .i64 d, .bool has, .int .i64 num, .int .i64 til, .slice ma ms.length mc] 39)
  have B1 := B0.trans ((below1 (w.alloc (.cells #[.int .i64 n, .slice ka ks.length kc, .int .i64 d, .bool has, .int .i64 num, .int .i64 til, .slice ma ms.length mc] 39)) (.cells #[] 60)).mono B0.size)
  have HX := hide (((below1 (w.alloc (.cells #[.int .i64 n, .slice ka ks.length kc, .int .i64 d, .bool has, .int .i64 num, .int .i64 til, .slice ma ms.length mc] 39)) (.cells #[] 60)).block _ (heapLt (heap_alloc_new w (.cells #[.int .i64 n, .slice ka ks.length kc, .int .i64 d, .bool has, .int .i64 num, .int .i64 til, .slice ma ms.length mc] 39)))).trans (heap_alloc_new w (.cells #[.int .i64 n, .slice ka ks.length kc, .int .i64 d, .bool has, .int .i64 num, .int .i64 til, .slice ma ms.length mc] 39)))
  have HO : Hid (((w.alloc (.cells #[.int .i64 n, .slice ka ks.length kc, .int .i64 d, .bool has, .int .i64 num, .int .i64 til, .slice ma ms.length mc] 39)).alloc (.cells #[] 60)).ownsRow w.heap.size 60 3 (.slice (some ⟨w.heap.size + 1, 0, none⟩) 0 0) 0 []) := by
    have e := empty_own (sz := 3) (B := w.heap.size) (heap_alloc_new (w.alloc (.cells #[.int .i64 n, .slice ka ks.length kc, .int .i64 d, .bool has, .int .i64 num, .int .i64 til, .slice ma ms.length mc] 39)) (.cells #[] 60)) B0.size
    rw [sz1'] at e
    exact e
  have IM0 := hide hm
  have PS0 := hide h
  have IK := hide (hk.later B1)
  have IM := hide (hm.later B1)
  have PS := hide (h.later B1)
  have BW := hide B1
  have CT := hide (fun (W : World) h1 h2 => specTrustOk_any W n d (.slice ka ks.length kc) ks has num til (.slice ma ms.length mc) ms h1 h2)
  dsimp only [tvT, tv] at CT ⊢
  clear B0 B1 hk hm h
  go_enter Tryz.func6, Tryz.ntmps6
  obtain ⟨x0, x1, x2, x3, x4, x5, x6⟩ : _ ∧ _ ∧ _ ∧ _ ∧ _ ∧ _ ∧ _ := ⟨cellOf (unhide HX) 0, cellOf (unhide HX) 1, cellOf (unhide HX) 2, cellOf (unhide HX) 3, cellOf (unhide HX) 4, cellOf (unhide HX) 5, cellOf (unhide HX) 6⟩
  go_wp2_with fail
  refine (unhide CT _ (unhide IK) (unhide IM)).mono ?_
  generalize (w.alloc _).alloc _ = W2 at *
  rintro e w3 ⟨rfl, b⟩
  replace HX := hide ((b.block _ (heapLt (unhide HX))).trans (unhide HX))
  replace IM := hide ((unhide IM).later b)
  replace PS := hide ((unhide PS).later b)
  replace BW := hide ((unhide BW).trans (b.mono (unhide BW).size))
  replace HO := hide (own_later (unhide HO) b)
  clear b x0 x1 x2 x3 x4 x5 x6 IK
  cases hT : Tr.ok n ks d has num til ms
  · have HE := hide ((unhide HA).1 hT)
    clear hT HA HX IM PS CT
    go_wp2
    go_ret
    exact ⟨_, rfl, by rw [unhide HE]; exact unhide HO, unhide BW⟩
  go_wp2_with fail
  refine (specStoreOk_any _ _ l (unhide PS)).mono ?_
  rintro e w4 ⟨rfl, b⟩
  replace HX := hide ((b.block _ (heapLt (unhide HX))).trans (unhide HX))
  replace IM := hide ((unhide IM).later b)
  replace PS := hide ((unhide PS).later b)
  replace BW := hide ((unhide BW).trans (b.mono (unhide BW).size))
  replace HO := hide (own_later (unhide HO) b)
  clear b
  cases hS : Ix.pkgsOk l
  · have HE := hide ((unhide HA).2.1 hS)
    clear hT hS HA HX IM PS CT
    go_wp2
    go_ret
    exact ⟨_, rfl, by rw [unhide HE]; exact unhide HO, unhide BW⟩
  have HE := hide ((unhide HA).2.2.1 hT hS)
  obtain ⟨hml, hmem⟩ := (unhide HA).2.2.2 hT
  have HPO := hide hS
  clear hT hS HA hmem CT
  go_wp2_with fail
  go_loopw [5, 6] (fun o i w' => ∃ k : Nat, k ≤ ms.length ∧ i = .int .i64 k ∧ OwM w.heap.size w' o (Ix.lacks12 (ms.take k) l) ∧ Below w.heap.size w w' ∧ w'.heap[w.heap.size]? = some (.cells #[.int .i64 n, .slice ka ks.length kc, .int .i64 d, .bool has, .int .i64 num, .int .i64 til, .slice ma ms.length mc] 39 (0, 0))) (fun _ i _ => ms.length - (intOf i).toNat)
  case atStart => exact ⟨0, Nat.zero_le _, rfl, unhide HO, unhide BW, unhide HX⟩
  case round =>
    clear HO BW HX IM PS
    obtain ⟨k, hk, rfl, hown, hbw, hw⟩ := hrel
    have HOWN := hide hown
    have HBW := hide hbw
    have HW := hide hw
    have x6 := cellOf hw 6
    clear hown hbw hw
    by_cases hlt : k < ms.length
    · obtain ⟨_, _, e1, _, hrow⟩ := unhide IM0
      injection e1 with e1 _ e3
      subst e1 e3
      obtain ⟨mb, moff, rfl, hmb, hmc⟩ := hrow (by omega)
      obtain ⟨d0, d1, d2⟩ := hmc k hlt
      have hwm : ∀ o, wr.cell? ⟨mb, o, none⟩ = w.cell? ⟨mb, o, none⟩ := fun o => (unhide HBW).cell hmb
      rw [← hwm] at d0 d1 d2
      clear hwm hmc hrow
      obtain ⟨m0, m1, m2, hmm⟩ : ∃ m0 m1 m2, (Ix.nm ms k, Ix.vr ms k, Ix.sm ms k) = (m0, m1, m2) := ⟨_, _, _, rfl⟩
      obtain ⟨hm0, hm1, hm2⟩ : Ix.nm ms k = m0 ∧ Ix.vr ms k = m1 ∧ Ix.sm ms k = m2 := by injection hmm with h1 h2; injection h2 with h2 h3; exact ⟨h1, h2, h3⟩
      rw [hm0] at d0
      rw [hm1] at d1
      rw [hm2] at d2
      have HTK := hide (lacks12_take (l := l) hlt hmm)
      clear hm0 hm1 hm2 hmm
      have hi0 : (0 : Int) ≤ (k : Int) := Int.natCast_nonneg _
      have hi1 : (k : Int) < (ms.length : Int) := by omega
      have hlk : (Ix.lacks12 (ms.take k) l).length ≤ 8 := by have h1 := Ix.lacks12_le (ms.take k) l; rw [List.length_take] at h1; omega
      have HLK := hide hlk
      clear hlk
      have b := below1 wr (.cells #[.int .i64 m0, .int .i64 m1, .int .i64 m2] 60)
      have HMB := hide (heap_alloc_new wr (.cells #[.int .i64 m0, .int .i64 m1, .int .i64 m2] 60))
      have HP6 := hide ((unhide PS0).later ((unhide HBW).trans (b.mono (unhide HBW).size)))
      have HBW6 := hide ((unhide HBW).trans (b.mono (unhide HBW).size))
      have HW6 := hide ((b.block _ (heapLt (unhide HW))).trans (unhide HW))
      have HOWN6 := hide (own_later (unhide HOWN) b)
      clear b
      obtain ⟨y0, y1, y2⟩ : _ ∧ _ ∧ _ := ⟨cellOf (unhide HMB) 0, cellOf (unhide HMB) 1, cellOf (unhide HMB) 2⟩
      go_wp2_with fail
      refine (l12Find_any _ _ l m0 m1 (unhide HP6)).mono ?_
      have hlY := heapLt (unhide HMB)
      generalize hYe : wr.heap.size = Y at *
      have HYE := hide hYe
      clear hYe
      generalize wr.alloc _ = W6 at *
      rintro e w8 ⟨rfl, r, rfl, hrr⟩
      have HLY := hide hlY
      clear hlY
      rcases hrr with ⟨rfl, hnone⟩ | ⟨hr0, hr1, hnam⟩
      · have hq : metIn l (m0, m1, m2) = false := by rw [metIn_mem]; exact decide_eq_false (Ix.lack_none hnone m2)
        have htk := unhide HTK
        rw [if_neg (by rw [hq]; simp)] at htk
        have HTK' := hide htk
        clear htk hq hnone HTK HP6 y0 y1 y2 d0 d1 d2 x6
        go_wp2_with fail
        refine wp_region_held_drew (S := fun _ => True) (by kernel_rfl) trivial (fun hHeld => ?_)
        refine anyH_at (i := 0) (d := some 39) rfl rfl (by kernel_rfl) (by kernel_rfl) (by kernel_rfl) (fun _ _ _ h => h) (by rfl) (v := ?_) ?_ (by assumption) ?_
        rotate_left
        · (intro w hSw; (try dsimp only at hSw); go_simp <;> with_reducible rfl)
        simp only [Act.put, List.setIfInBounds_toArray, List.set_cons_zero, List.set_cons_succ]
        refine anyH_at (i := 1) (d := some 40) rfl rfl (by kernel_rfl) (by kernel_rfl) (by kernel_rfl) (fun _ _ _ h => h) (by rfl) (v := ?_) ?_ (by assumption) ?_
        rotate_left
        · (intro w hSw; (try dsimp only at hSw); go_simp <;> with_reducible rfl)
        simp only [Act.put, List.setIfInBounds_toArray, List.set_cons_zero, List.set_cons_succ]
        refine anyH_at (i := 2) (d := some 41) rfl rfl (by kernel_rfl) (by kernel_rfl) (by kernel_rfl) (fun _ _ _ h => h) (by rfl) (v := ?_) ?_ (by assumption) ?_
        rotate_left
        · (intro w hSw; (try dsimp only at hSw); go_simp <;> with_reducible rfl)
        simp only [Act.put, List.setIfInBounds_toArray, List.set_cons_zero, List.set_cons_succ]
        refine anyH_skipU (i := 3) (d := some 42) rfl rfl (by kernel_rfl) (by kernel_rfl) (by kernel_rfl) (fun _ _ _ h => h) (by rfl) (by assumption) ?_
        simp only [Act.put, List.setIfInBounds_toArray, List.set_cons_zero, List.set_cons_succ]
        refine anyH_skipU (i := 4) (d := some 43) rfl rfl (by kernel_rfl) (by kernel_rfl) (by kernel_rfl) (fun _ _ _ h => h) (by rfl) (by assumption) ?_
        simp only [Act.put, List.setIfInBounds_toArray, List.set_cons_zero, List.set_cons_succ]
        refine anyH_skipU (i := 5) (d := some 44) rfl rfl (by kernel_rfl) (by kernel_rfl) (by kernel_rfl) (fun _ _ _ h => h) (by rfl) (by assumption) ?_
        simp only [Act.put, List.setIfInBounds_toArray, List.set_cons_zero, List.set_cons_succ]
        refine anyH_skipU (i := 6) (d := some 45) rfl rfl (by kernel_rfl) (by kernel_rfl) (by kernel_rfl) (fun _ _ _ h => h) (by rfl) (by assumption) ?_
        simp only [Act.put, List.setIfInBounds_toArray, List.set_cons_zero, List.set_cons_succ]
        refine anyH_skipU (i := 7) (d := some 46) rfl rfl (by kernel_rfl) (by kernel_rfl) (by kernel_rfl) (fun _ _ _ h => h) (by rfl) (by assumption) ?_
        simp only [Act.put, List.setIfInBounds_toArray, List.set_cons_zero, List.set_cons_succ]
        refine anyH_skipU (i := 8) (d := some 47) rfl rfl (by kernel_rfl) (by kernel_rfl) (by kernel_rfl) (fun _ _ _ h => h) (by rfl) (by assumption) ?_
        simp only [Act.put, List.setIfInBounds_toArray, List.set_cons_zero, List.set_cons_succ]
        refine anyH_skipU (i := 9) (d := some 48) rfl rfl (by kernel_rfl) (by kernel_rfl) (by kernel_rfl) (fun _ _ _ h => h) (by rfl) (by assumption) ?_
        simp only [Act.put, List.setIfInBounds_toArray, List.set_cons_zero, List.set_cons_succ]
        refine anyH_skipU (i := 10) (d := some 49) rfl rfl (by kernel_rfl) (by kernel_rfl) (by kernel_rfl) (fun _ _ _ h => h) (by rfl) (by assumption) ?_
        simp only [Act.put, List.setIfInBounds_toArray, List.set_cons_zero, List.set_cons_succ]
        refine anyH_skipU (i := 11) (d := some 50) rfl rfl (by kernel_rfl) (by kernel_rfl) (by kernel_rfl) (fun _ _ _ h => h) (by rfl) (by assumption) ?_
        simp only [Act.put, List.setIfInBounds_toArray, List.set_cons_zero, List.set_cons_succ]
        refine anyH_at (i := 12) (d := some 51) rfl rfl (by kernel_rfl) (by kernel_rfl) (by kernel_rfl) (fun _ _ _ h => h) (by rfl) (v := ?_) ?_ (by assumption) ?_
        rotate_left
        · (intro w hSw; (try dsimp only at hSw); go_simp <;> with_reducible rfl)
        simp only [Act.put, List.setIfInBounds_toArray, List.set_cons_zero, List.set_cons_succ]
        refine wpAnyH_done (by kernel_rfl) ?_ _
        clear hHeld
        have b := below_drew w8
        replace HMB := hide ((b.block _ (heapLt (unhide HMB))).trans (unhide HMB))
        replace HW6 := hide ((b.block _ (heapLt (unhide HW6))).trans (unhide HW6))
        replace HBW6 := hide ((unhide HBW6).trans (b.mono (unhide HBW6).size))
        replace HOWN6 := hide (own_later (unhide HOWN6) b)
        clear b
        generalize w8.drew = w9 at *
        obtain ⟨y0, y1, y2⟩ : _ ∧ _ ∧ _ := ⟨cellOf (unhide HMB) 0, cellOf (unhide HMB) 1, cellOf (unhide HMB) 2⟩
        have hlk := unhide HLK
        have hbs := (unhide HBW6).size
        go_wp2_with (at_builtin; refine wpList_append_lies _ rfl _ _ _ rfl w.heap.size 60 i0 _ 3 24 Tryz.underlying33 hI0 hz0 hz1 hz2 rfl (by omega) _ _ _ rfl (own_later (unhide HOWN6) (below1 _ _)) ⟨w9.heap.size, 0, none⟩ 1 1 [.int .i64 m0, .int .i64 m1, .int .i64 m2] rfl rfl (World.news_of_block (heap_alloc_new _ _)) (by simp [Value.oneCell']) (by omega) (by unfold maxLen; omega) (by omega) (by rw [sz1']; omega) (w9.heap.size + 1) (by rw [sz1']) ?_; intro gg gcap w10 hown hgrow hat hlt10)
        have hB10 := grown_below (B := w.heap.size) (own_later (unhide HOWN6) (below1 _ (.cells #[.int .i64 m0, .int .i64 m1, .int .i64 m2] 60))) hgrow ((unhide HBW6).trans ((below1 _ _).mono (unhide HBW6).size)) (by have := (below1 w9 (.cells #[.int .i64 m0, .int .i64 m1, .int .i64 m2] 60)).size; omega)
        have HN := hide hown
        have HX10 := hide ((hgrow.block _ (by have := heapLt (unhide HW6); rw [sz1']; omega) (fun e => own_ne (unhide HOWN6) (unhide HW6) (by decide) e.symm)).trans (((below1 w9 (.cells #[.int .i64 m0, .int .i64 m1, .int .i64 m2] 60)).block _ (heapLt (unhide HW6))).trans (unhide HW6)))
        have HB10 := hide hB10
        clear hown hgrow hat hlt10 hB10 y0 y1 y2
        go_wp2
        go_roundw
        case rel => exact ⟨k + 1, by omega, by go_num, by rw [unhide HTK']; show World.ownsRow _ _ _ _ _ _ _; rw [flat3_snoc, List.length_append]; exact unhide HN, unhide HB10, unhide HX10⟩
        case measure => simp [intOf]; omega
      · obtain ⟨i, rfl⟩ : ∃ i : Nat, r = (i : Int) := ⟨r.toNat, by omega⟩
        have hil : i < l.length := by omega
        rw [Int.toNat_natCast] at hnam
        have hmi := Ix.lack_some (unhide HPO) hil hnam m2
        obtain ⟨_, _, e1, _, hrow⟩ := unhide HP6
        injection e1 with e1 _ e3
        subst e1 e3
        obtain ⟨bk, off, rfl, hbs, _, hc⟩ := hrow (by omega)
        obtain ⟨fv, dv, hAt, hf, hd⟩ := hc i hil
        clear hc hrow
        obtain ⟨nm, vr, fs, ds, hpk⟩ : ∃ nm vr fs ds, Ix.pg l i = (nm, vr, fs, ds) := ⟨_, _, _, _, rfl⟩
        rw [hpk] at hAt hf hd hmi
        dsimp only at hf hd
        obtain ⟨fa, fc, hfv⟩ := hf.slice
        obtain ⟨da, dc, hdv⟩ := hd.slice
        subst hfv hdv
        obtain ⟨str, hs⟩ : ∃ str : ByteArray, str = ⟨(Pk.text nm vr fs ds).toArray⟩ := ⟨_, rfl⟩
        have hsz : str.size ≤ 100 := by rw [hs]; show (List.toArray _).size ≤ 100; simp only [List.size_toArray]; exact text_lenS nm vr fs ds
        obtain ⟨sm, hsm⟩ : ∃ sm, Sm.sum str.data.toList = sm := ⟨_, rfl⟩
        have hsx : Sm.sum (Ix.pText (nm, vr, fs, ds)) = sm := by rw [← hsm, hs]; rfl
        rw [hsx] at hmi
        have HSM := hide hsm
        have HS := hide hs
        have HF := hide (And.intro hf.prs hd.prs)
        have HAT := hide hAt
        have HBS := hide hbs
        have HMI := hide hmi
        clear hsm hs hf hd hAt hbs hmi hsx hpk hnam y0 y1 y2 d0 d1 d2 x6
        have hi2 : (0 : Int) ≤ (i : Int) := Int.natCast_nonneg _
        have hi3 : (i : Int) < (l.length : Int) := by omega
        have hi4 : ¬ (i : Int) < 0 := by omega
        go_wp2_with fail
        obtain ⟨c0, c1, c2, c3⟩ := unhide HAT
        dsimp only at c0 c1 c2 c3
        refine wp_region_held_drew (S := fun w' => ((w'.cell? ⟨bk, off + i * 4, none⟩ = some (.int .i64 nm) ∧ w'.cell? ⟨bk, off + i * 4 + 1, none⟩ = some (.int .i64 vr) ∧ w'.cell? ⟨bk, off + i * 4 + 2, none⟩ = some (.slice fa fs.length fc) ∧ w'.cell? ⟨bk, off + i * 4 + 3, none⟩ = some (.slice da ds.length dc))) ∧ (w'.cell? ⟨Y, 0, none⟩ = some (.int .i64 m0) ∧ w'.cell? ⟨Y, 1, none⟩ = some (.int .i64 m1) ∧ w'.cell? ⟨Y, 2, none⟩ = some (.int .i64 m2))) (by kernel_rfl) (by exact ⟨unhide HAT, cellOf (unhide HMB) 0, cellOf (unhide HMB) 1, cellOf (unhide HMB) 2⟩) (fun hHeld => ?_)
        clear c0 c1 c2 c3
        refine anyH_at (i := 0) (d := some 39) rfl rfl (by kernel_rfl) (by kernel_rfl) (by kernel_rfl) (fun _ _ _ h => h) (by rfl) (v := ?_) ?_ (by assumption) ?_
        rotate_left
        · (intro w hSw; (try dsimp only at hSw); go_simp <;> with_reducible rfl)
        simp only [Act.put, List.setIfInBounds_toArray, List.set_cons_zero, List.set_cons_succ]
        refine anyH_at (i := 1) (d := some 40) rfl rfl (by kernel_rfl) (by kernel_rfl) (by kernel_rfl) (fun _ _ _ h => h) (by rfl) (v := ?_) ?_ (by assumption) ?_
        rotate_left
        · (intro w hSw; (try dsimp only at hSw); go_simp <;> with_reducible rfl)
        simp only [Act.put, List.setIfInBounds_toArray, List.set_cons_zero, List.set_cons_succ]
        refine anyH_at (i := 2) (d := some 41) rfl rfl (by kernel_rfl) (by kernel_rfl) (by kernel_rfl) (fun _ _ _ h => h) (by rfl) (v := ?_) ?_ (by assumption) ?_
        rotate_left
        · (intro w hSw; (try dsimp only at hSw); go_simp <;> with_reducible rfl)
        simp only [Act.put, List.setIfInBounds_toArray, List.set_cons_zero, List.set_cons_succ]
        refine anyH_at (i := 3) (d := some 42) rfl rfl (by kernel_rfl) (by kernel_rfl) (by kernel_rfl) (fun _ _ _ h => h) (by rfl) (v := ?_) ?_ (by assumption) ?_
        rotate_left
        · (intro w hSw; (try dsimp only at hSw); go_simp <;> with_reducible rfl)
        simp only [Act.put, List.setIfInBounds_toArray, List.set_cons_zero, List.set_cons_succ]
        refine anyH_at (i := 4) (d := some 43) rfl rfl (by kernel_rfl) (by kernel_rfl) (by kernel_rfl) (fun _ _ _ h => h) (by rfl) (v := ?_) ?_ (by assumption) ?_
        rotate_left
        · (intro w hSw; (try dsimp only at hSw); go_simp <;> with_reducible rfl)
        simp only [Act.put, List.setIfInBounds_toArray, List.set_cons_zero, List.set_cons_succ]
        refine anyH_at (i := 5) (d := some 44) rfl rfl (by kernel_rfl) (by kernel_rfl) (by kernel_rfl) (fun _ _ _ h => h) (by rfl) (v := ?_) ?_ (by assumption) ?_
        rotate_left
        · (intro w hSw; (try dsimp only at hSw); go_simp <;> with_reducible rfl)
        simp only [Act.put, List.setIfInBounds_toArray, List.set_cons_zero, List.set_cons_succ]
        refine anyH_at (i := 6) (d := some 45) rfl rfl (by kernel_rfl) (by kernel_rfl) (by kernel_rfl) (fun _ _ _ h => h) (by rfl) (v := ?_) ?_ (by assumption) ?_
        rotate_left
        · (intro w hSw; (try dsimp only at hSw); go_simp <;> with_reducible rfl)
        simp only [Act.put, List.setIfInBounds_toArray, List.set_cons_zero, List.set_cons_succ]
        refine anyH_at (i := 9) (d := some 48) rfl rfl (by kernel_rfl) (by kernel_rfl) (by kernel_rfl) (fun _ _ _ h => h) (by rfl) (v := ?_) ?_ (by assumption) ?_
        rotate_left
        · (intro w hSw; (try dsimp only at hSw); go_simp <;> with_reducible rfl)
        simp only [Act.put, List.setIfInBounds_toArray, List.set_cons_zero, List.set_cons_succ]
        refine anyH_at (i := 10) (d := some 49) rfl rfl (by kernel_rfl) (by kernel_rfl) (by kernel_rfl) (fun _ _ _ h => h) (by rfl) (v := ?_) ?_ (by assumption) ?_
        rotate_left
        · (intro w hSw; (try dsimp only at hSw); go_simp <;> with_reducible rfl)
        simp only [Act.put, List.setIfInBounds_toArray, List.set_cons_zero, List.set_cons_succ]
        refine wpAnyH_ready (rs := [7]) (by kernel_rfl) (by simp) ?_
        refine AllReadyH.cons rfl (fun K hK => ?_) AllReadyH.nil
        go_simp
        have b := below_drew w8
        replace HMB := hide ((b.block _ (heapLt (unhide HMB))).trans (unhide HMB))
        replace HP6 := hide ((unhide HP6).later b)
        replace HW6 := hide ((b.block _ (heapLt (unhide HW6))).trans (unhide HW6))
        replace HBW6 := hide ((unhide HBW6).trans (b.mono (unhide HBW6).size))
        replace HOWN6 := hide (own_later (unhide HOWN6) b)
        replace HAT := hide ((unhide HAT).keep (b.block bk (unhide HBS)))
        replace HBS := hide (Nat.lt_of_lt_of_le (unhide HBS) b.size)
        replace HF := hide (And.intro ((unhide HF).1.later b) ((unhide HF).2.later b))
        clear b
        refine (pkgText_any _ nm vr _ _ fs ds (unhide HF).1 (unhide HF).2).mono ?_
        rintro e w9 ⟨rfl, b⟩
        rw [← unhide HS]
        replace HMB := hide ((b.block _ (heapLt (unhide HMB))).trans (unhide HMB))
        replace HP6 := hide ((unhide HP6).later b)
        replace HW6 := hide ((b.block _ (heapLt (unhide HW6))).trans (unhide HW6))
        replace HBW6 := hide ((unhide HBW6).trans (b.mono (unhide HBW6).size))
        replace HOWN6 := hide (own_later (unhide HOWN6) b)
        replace HAT := hide ((unhide HAT).keep (b.block bk (unhide HBS)))
        replace HBS := hide (Nat.lt_of_lt_of_le (unhide HBS) b.size)
        replace HF := hide (And.intro ((unhide HF).1.later b) ((unhide HF).2.later b))
        clear b
        try go_wp2_with fail
        refine hK.out _ _ ?_ (fun hHeldN => ?_)
        · exact ⟨unhide HAT, cellOf (unhide HMB) 0, cellOf (unhide HMB) 1, cellOf (unhide HMB) 2⟩
        clear hHeld
        have hHeld := hHeldN
        clear hHeldN
        clear hK K
        try simp only [Act.put, List.setIfInBounds_toArray, List.set_cons_zero, List.set_cons_succ]
        refine wpAnyH_ready (rs := [8]) (by kernel_rfl) (by simp) ?_
        refine AllReadyH.cons rfl (fun K hK => ?_) AllReadyH.nil
        go_simp
        refine (specSum_any str _ (by unfold maxLen; omega)).mono ?_
        rw [unhide HSM]
        rintro e wS ⟨rfl, rfl⟩
        try go_wp2_with fail
        refine hK.out _ _ ?_ (fun hHeldN => ?_)
        · exact ⟨unhide HAT, cellOf (unhide HMB) 0, cellOf (unhide HMB) 1, cellOf (unhide HMB) 2⟩
        clear hHeld
        have hHeld := hHeldN
        clear hHeldN
        clear hK K
        try simp only [Act.put, List.setIfInBounds_toArray, List.set_cons_zero, List.set_cons_succ]
        by_cases hq : sm = m2
        · have hqm : metIn l (m0, m1, m2) = true := by rw [metIn_mem]; exact decide_eq_true ((unhide HMI).2 hq)
          have htk := unhide HTK
          rw [if_pos hqm] at htk
          have HTK' := hide htk
          subst hq
          clear htk hqm HTK HMI HAT HF HP6
          refine anyH_at (i := 11) (d := some 50) rfl rfl (by kernel_rfl) (by kernel_rfl) (by kernel_rfl) (fun _ _ _ h => h) (by rfl) (v := ?_) ?_ (by assumption) ?_
          rotate_left
          · (intro w hSw; (try dsimp only at hSw); go_simp <;> with_reducible rfl)
          simp only [Act.put, List.setIfInBounds_toArray, List.set_cons_zero, List.set_cons_succ]
          refine anyH_at (i := 12) (d := some 51) rfl rfl (by kernel_rfl) (by kernel_rfl) (by kernel_rfl) (fun _ _ _ h => h) (by rfl) (v := ?_) ?_ (by assumption) ?_
          rotate_left
          · (intro w hSw; (try dsimp only at hSw); go_simp <;> with_reducible rfl)
          simp only [Act.put, List.setIfInBounds_toArray, List.set_cons_zero, List.set_cons_succ]
          refine wpAnyH_done (by kernel_rfl) ?_ _
          clear hHeld
          go_wp2
          go_roundw
          case rel => exact ⟨k + 1, by omega, by go_num, by rw [unhide HTK']; exact unhide HOWN6, unhide HBW6, unhide HW6⟩
          case measure => simp [intOf]; omega
        · have hqm : metIn l (m0, m1, m2) = false := by rw [metIn_mem]; exact decide_eq_false (fun h => hq ((unhide HMI).1 h))
          have htk := unhide HTK
          rw [if_neg (by rw [hqm]; simp)] at htk
          have HTK' := hide htk
          clear htk hqm HTK HMI HAT HF HP6
          have hne : (sm != m2) = true := by simp [hq]
          refine anyH_at (i := 11) (d := some 50) rfl rfl (by kernel_rfl) (by kernel_rfl) (by kernel_rfl) (fun _ _ _ h => h) (by rfl) (v := ?_) ?_ (by assumption) ?_
          rotate_left
          · (intro w hSw; (try dsimp only at hSw); go_simp <;> with_reducible rfl)
          simp only [Act.put, List.setIfInBounds_toArray, List.set_cons_zero, List.set_cons_succ]
          refine anyH_at (i := 12) (d := some 51) rfl rfl (by kernel_rfl) (by kernel_rfl) (by kernel_rfl) (fun _ _ _ h => h) (by rfl) (v := ?_) ?_ (by assumption) ?_
          rotate_left
          · (intro w hSw; (try dsimp only at hSw); go_simp <;> with_reducible rfl)
          simp only [Act.put, List.setIfInBounds_toArray, List.set_cons_zero, List.set_cons_succ]
          refine wpAnyH_done (by kernel_rfl) ?_ _
          clear hHeld
          obtain ⟨y0, y1, y2⟩ : _ ∧ _ ∧ _ := ⟨cellOf (unhide HMB) 0, cellOf (unhide HMB) 1, cellOf (unhide HMB) 2⟩
          have hlk := unhide HLK
          have hbs := (unhide HBW6).size
          go_wp2_with (at_builtin; refine wpList_append_lies _ rfl _ _ _ rfl w.heap.size 60 i0 _ 3 24 Tryz.underlying33 hI0 hz0 hz1 hz2 rfl (by omega) _ _ _ rfl (own_later (unhide HOWN6) (below1 _ _)) ⟨wS.heap.size, 0, none⟩ 1 1 [.int .i64 m0, .int .i64 m1, .int .i64 m2] rfl rfl (World.news_of_block (heap_alloc_new _ _)) (by simp [Value.oneCell']) (by omega) (by unfold maxLen; omega) (by omega) (by rw [sz1']; omega) (wS.heap.size + 1) (by rw [sz1']) ?_; intro gg gcap w10 hown hgrow hat hlt10)
          have hB10 := grown_below (B := w.heap.size) (own_later (unhide HOWN6) (below1 _ (.cells #[.int .i64 m0, .int .i64 m1, .int .i64 m2] 60))) hgrow ((unhide HBW6).trans ((below1 _ _).mono (unhide HBW6).size)) (by have := (below1 wS (.cells #[.int .i64 m0, .int .i64 m1, .int .i64 m2] 60)).size; omega)
          have HN := hide hown
          have HX10 := hide ((hgrow.block _ (by have := heapLt (unhide HW6); rw [sz1']; omega) (fun e => own_ne (unhide HOWN6) (unhide HW6) (by decide) e.symm)).trans (((below1 wS (.cells #[.int .i64 m0, .int .i64 m1, .int .i64 m2] 60)).block _ (heapLt (unhide HW6))).trans (unhide HW6)))
          have HB10 := hide hB10
          clear hown hgrow hat hlt10 hB10 y0 y1 y2
          go_wp2
          go_roundw
          case rel => exact ⟨k + 1, by omega, by go_num, by rw [unhide HTK']; show World.ownsRow _ _ _ _ _ _ _; rw [flat3_snoc, List.length_append]; exact unhide HN, unhide HB10, unhide HX10⟩
          case measure => simp [intOf]; omega
    · obtain rfl : k = ms.length := by omega
      clear hlt
      go_wp2
      go_ret
      exact ⟨_, rfl, by have h := unhide HOWN; rw [List.take_length] at h; rw [unhide HE]; exact h, unhide HBW⟩
end Go.Proofs.YtlnieobmhofkdaaGreat
