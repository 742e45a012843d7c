import Derived.Test.YtkhanndmbpemfaaGreatDoorPksW
import Derived.Test.YtkhanndmbpemfaaGreatDoorMix5
import Derived.Test.YtkhanndmbpemfaaGreatDoorMix4
import Derived.Test.YtkhanndmbpemfaaGreatDoorMix2
import Derived.Deep.AppendLies
import Derived.Deep.CutRange
/- What impl.StoreOk and spec.StoreOk return: whether packages are ok and ascend; for every row of packages that can be read. -/
namespace Go.Proofs.YtkhanndmbpemfaaGreatDoor
open Go.RowKit

/-- Name and version of the package ahead; nothing ahead of the first. -/
def Ix.ahN (l : List Ix.Pg) (k : Nat) : Int := if k = 0 then 0 else (Ix.pg l (k - 1)).1
def Ix.ahV (l : List Ix.Pg) (k : Nat) : Int := if k = 0 then 0 else (Ix.pg l (k - 1)).2.1
theorem Ix.ahN_succ (l : List Ix.Pg) (k : Nat) : Ix.ahN l (k + 1) = (Ix.pg l k).1 := by simp [Ix.ahN]
theorem Ix.ahV_succ (l : List Ix.Pg) (k : Nat) : Ix.ahV l (k + 1) = (Ix.pg l k).2.1 := by simp [Ix.ahV]
theorem Ix.good_ahead (l : List Ix.Pg) (k : Nat) : Ix.pkgGood l k = (Ix.pOk (Ix.pg l k) && Ix.less (Ix.ahN l k) (Ix.ahV l k) (Ix.pg l k).1 (Ix.pg l k).2.1) := by
  unfold Ix.pkgGood Ix.ahN Ix.ahV
  by_cases hk : k = 0
  · rw [if_pos hk, if_pos hk, decide_eq_true hk, Bool.true_or]
    cases hO : Ix.pOk (Ix.pg l k)
    · rfl
    · have : Ix.less 0 0 (Ix.pg l k).1 (Ix.pg l k).2.1 = true := by
        unfold Ix.pOk Pk.pkgOk at hO
        simp only [Bool.and_eq_true, Pk.inB_true] at hO
        unfold Ix.less
        rw [decide_eq_true (by omega)]
        rfl
      rw [this]
  · rw [if_neg hk, if_neg hk, decide_eq_false hk, Bool.false_or]

set_option maxHeartbeats 4000000 in
set_option maxRecDepth 100000 in
theorem specStoreOk_any {N : Nat → Prop} (w : World) (v : Value) (l : List Ix.Pg) (h : Pks N w v l) :
    Calls Tryz.prog 91 #[v] w fun e w' => e = .returned (.bool (Ix.pkgsOk l)) ∧ Below w.heap.size w w' := by
  have H := hide h
  obtain ⟨a, cap, hv⟩ := h.slice
  subst hv
  clear h
  go_enter Tryz.func91, Tryz.ntmps91
  go_wp2_with fail
  refine (l3Pkgs_any _ _ l (unhide H)).mono ?_
  rintro e w1 ⟨rfl, b1⟩
  have B1 := hide b1
  clear b1
  go_wp2
  go_ret
  exact ⟨rfl, unhide B1⟩

set_option maxHeartbeats 4000000 in
set_option maxRecDepth 100000 in
theorem implStoreOk_any {N : Nat → Prop} (w : World) (v : Value) (l : List Ix.Pg) (h : Pks N w v l) :
    Calls Tryz.prog 87 #[v] w fun e w' => e = .returned (.bool (Ix.pkgsOk l)) ∧ Below w.heap.size w w' := by
  obtain ⟨a, cap, rfl, hlen, hrow⟩ := h
  have HA0 := hide (And.intro (heap_alloc_new w (.cells #[.int .i64 0, .int .i64 0, .int .i64 0] 135)) (below1 w (.cells #[.int .i64 0, .int .i64 0, .int .i64 0] 135)))
  go_enter Tryz.func87, Tryz.ntmps87
  go_wp2
  go_loopw [10] (fun i w' => ∃ k : Nat, k ≤ l.length ∧ i = .int .i64 k ∧ Below w.heap.size w w' ∧ w'.heap[w.heap.size]? = some (.cells #[.int .i64 (Ix.ahN l k), .int .i64 (Ix.ahV l k), .int .i64 0] 135 (0, 0)) ∧ ∀ j, j < k → Ix.pkgGood l j = true) (fun i _ => l.length - (intOf i).toNat)
  case atStart => exact ⟨0, Nat.zero_le _, rfl, (unhide HA0).2, (unhide HA0).1, fun j hj => by omega⟩
  case round =>
    obtain ⟨k, hk, rfl, hw, hA, hgood⟩ := hrel
    have HG := hide hgood
    have HW := hide hw
    have HA := hide hA
    clear hgood hw hA
    by_cases hlt : k < l.length
    · obtain ⟨b, off, rfl, hb, _, hc⟩ := hrow (by omega)
      obtain ⟨fv, dv, hAt, hf, hd⟩ := hc k hlt
      clear hc hrow
      obtain ⟨nm, vr, fs, ds, hpk⟩ : ∃ nm vr fs ds, Ix.pg l k = (nm, vr, fs, ds) := ⟨_, _, _, _, rfl⟩
      rw [hpk] at hAt hf hd
      dsimp only at hf hd
      obtain ⟨fa, fc, hfv⟩ := hf.slice
      obtain ⟨da, dc, hdv⟩ := hd.slice
      subst hfv hdv
      obtain ⟨c0, c1, c2, c3⟩ := hAt.keep ((unhide HW).block b hb)
      have hb' : b < wr.heap.size := Nat.lt_of_lt_of_le hb (unhide HW).size
      have hi0 : (0 : Int) ≤ (k : Int) := Int.natCast_nonneg _
      have hi1 : (k : Int) < (l.length : Int) := by omega
      have b1 := below1 wr (.cells #[.int .i64 nm, .int .i64 vr, .slice fa fs.length fc, .slice da ds.length dc] 94)
      have b2 := below1 (wr.alloc (.cells #[.int .i64 nm, .int .i64 vr, .slice fa fs.length fc, .slice da ds.length dc] 94)) (.cells #[.int .i64 nm, .int .i64 vr, .int .i64 0] 135)
      have bb := b1.trans (b2.mono b1.size)
      have HB := hide bb
      have hgl := (Ix.good_ahead l k).trans (by rw [hpk]; rfl : _ = (Pk.pkgOk nm vr fs ds && Ix.less (Ix.ahN l k) (Ix.ahV l k) nm vr))
      have HGL := hide hgl
      have CP := hide (implPkgOk_any ((wr.alloc (.cells #[.int .i64 nm, .int .i64 vr, .slice fa fs.length fc, .slice da ds.length dc] 94)).alloc (.cells #[.int .i64 nm, .int .i64 vr, .int .i64 0] 135)) nm vr _ _ fs ds (hf.prs.later ((unhide HW).trans (bb.mono (unhide HW).size))) (hd.prs.later ((unhide HW).trans (bb.mono (unhide HW).size))))
      have HPK := hide hpk
      have hAh := (bb.block _ (heapLt (unhide HA))).trans (unhide HA)
      have HAH := hide hAh
      have hMh := heap_alloc_new (wr.alloc (.cells #[.int .i64 nm, .int .i64 vr, .slice fa fs.length fc, .slice da ds.length dc] 94)) (.cells #[.int .i64 nm, .int .i64 vr, .int .i64 0] 135)
      have HMH := hide hMh
      have hAlt := heapLt (unhide HA)
      clear hAt hf hd hpk b1 b2 bb hgl hAh hMh
      generalize Ix.ahN l k = an at *
      generalize Ix.ahV l k = av at *
      go_wp2_with fail
      refine (unhide CP).mono ?_
      rintro e w1 ⟨rfl, b1⟩
      have hA1 := (b1.block _ (heapLt (unhide HAH))).trans (unhide HAH)
      have hM1 := (b1.block _ (heapLt (unhide HMH))).trans (unhide HMH)
      have B1 := (unhide HW).trans (((unhide HB).trans (b1.mono (unhide HB).size)).mono (unhide HW).size)
      rw [sz1'] at hM1
      have HA1 := hide hA1
      have HM1 := hide hM1
      have HB1 := hide B1
      cases hOk : Pk.pkgOk nm vr fs ds
      · clear hA1 hM1 B1 b1
        go_wp2
        go_ret
        exact ⟨ret_bool (Ix.pkgsOk_bad hlt (by rw [unhide HGL, hOk]; rfl)).symm, unhide HB1⟩
      obtain ⟨m0, m1, m2⟩ : _ ∧ _ ∧ _ := ⟨cellOf hM1 0, cellOf hM1 1, cellOf hM1 2⟩
      obtain ⟨a0, a1, a2⟩ : _ ∧ _ ∧ _ := ⟨cellOf hA1 0, cellOf hA1 1, cellOf hA1 2⟩
      clear hA1 hM1 B1 b1 CP HAH HMH HB HW HA c0 c1 c2 c3
      go_wp2_with fail
      refine (metaBelow_any _ an av 0 nm vr 0).mono ?_
      rintro e w2 ⟨rfl, b2⟩
      have hA2 := (b2.block _ (heapLt (unhide HA1))).trans (unhide HA1)
      have hM2 := (b2.block _ (heapLt (unhide HM1))).trans (unhide HM1)
      have B2 := (unhide HB1).trans (b2.mono (unhide HB1).size)
      have HA2 := hide hA2
      have HB2 := hide B2
      clear m0 m1 m2 a0 a1 a2
      cases hLs : Ix.less an av nm vr
      · clear hA2 hM2 B2 b2
        go_wp2
        go_ret
        exact ⟨ret_bool (Ix.pkgsOk_bad hlt (by rw [unhide HGL, hOk, hLs]; rfl)).symm, unhide HB2⟩
      obtain ⟨m0, m1, m2⟩ : _ ∧ _ ∧ _ := ⟨cellOf hM2 0, cellOf hM2 1, cellOf hM2 2⟩
      obtain ⟨a0, a1, a2⟩ : _ ∧ _ ∧ _ := ⟨cellOf hA2 0, cellOf hA2 1, cellOf hA2 2⟩
      obtain ⟨f0, f1, f2⟩ : _ ∧ _ ∧ _ := ⟨frozenOf hA2 0, frozenOf hA2 1, frozenOf hA2 2⟩
      clear hA2 hM2 B2 b2 HA1 HM1 HB1
      go_wp2
      go_roundw
      case rel =>
        refine ⟨k + 1, by omega, by go_num, ?_, ?_, ?_⟩
        · exact (((unhide HB2).setCell (Nat.le_refl _) _).setCell (Nat.le_refl _) _).setCell (Nat.le_refl _) _
        · rw [heapSet (heapSet (heapSet (unhide HA2))), Ix.ahN_succ, Ix.ahV_succ, unhide HPK]
          rfl
        · intro j hj
          rcases Nat.lt_or_ge j k with h | h
          · exact unhide HG j h
          · obtain rfl : j = k := by omega
            rw [unhide HGL, hOk, hLs]
            rfl
      case measure => simp [intOf]; omega
    · obtain rfl : k = l.length := by omega
      clear hlt
      go_wp2
      go_ret
      exact ⟨ret_bool (Ix.pkgsOk_good (unhide HG)).symm, unhide HW⟩
end Go.Proofs.YtkhanndmbpemfaaGreatDoor

/- What impl's lines of faults are: rows of texts of one's own; for every row of packages that are ok. -/
namespace Go.Proofs.YtkhanndmbpemfaaGreatDoor
open Go.RowKit

attribute [local go_sem ↓] Go.wp_at_zero Go.wp_at_succ

def strB (s : List UInt8) : Value := .string ⟨s.toArray⟩
/-- A row of texts of one's own. -/
def StrR (B : Nat) (w : World) (v : Value) (ls : List (List UInt8)) : Prop := w.ownsRow B 9 1 v ls.length (ls.map strB)
theorem StrR.later {B : Nat} {w w' : World} {v : Value} {ls : List (List UInt8)} (h : StrR B w v ls) (hb : Below w.heap.size w w') : StrR B w' v ls := own_later h hb
theorem StrR.base {B B' : Nat} {w : World} {v : Value} {ls : List (List UInt8)} (h : StrR B w v ls) (hB : B' ≤ B) : StrR B' w v ls := own_base' h hB
theorem StrR.nil (B : Nat) (w : World) : StrR B w (.slice none 0 0) [] := World.ownsRow_nil _ _ _ _
theorem StrR.one (w : World) (s : List UInt8) : StrR w.heap.size (w.alloc (.cells #[strB s] 9)) (.slice (some ⟨w.heap.size, 0, none⟩) 1 1) [s] :=
  ⟨rfl, .inr ⟨w.heap.size, 1, #[strB s], rfl, Nat.le_refl _, heap_alloc_new w _, Nat.le_refl _, by unfold maxLen; omega, rfl, rfl⟩⟩
theorem infoS : (Tryz.prog.info? 9).map (fun i => (i.zero, i.size, i.bytes)) = some (some (.string ⟨#[]⟩), 1, 16) := by kernel_rfl
theorem Pks.take {N : Nat → Prop} {w : World} {a : Option Addr} {c : Nat} {l : List Ix.Pg} {i : Nat} (h : Pks N w (.slice a l.length c) l) (hi : i ≤ l.length) : Pks N w (.slice a i c) (l.take i) := by
  obtain ⟨a', c', hv, hl, hr⟩ := h
  injection hv with e1 _ e3
  subst e1 e3
  have hlt : (l.take i).length = i := by rw [List.length_take]; omega
  refine ⟨a, c, by rw [hlt], by omega, fun hp => ?_⟩
  obtain ⟨b, off, ha, hb, hN, hc⟩ := hr (by omega)
  refine ⟨b, off, ha, hb, hN, fun j hj => ?_⟩
  obtain ⟨fv, dv, h1, h2, h3⟩ := hc j (by omega)
  rw [Ix.take_pgk (by omega)]
  exact ⟨fv, dv, h1, h2, h3⟩
/-- What is said of the one ahead. -/
def Ix.besideOf (la : List Ix.Pg) (p : Ix.Pg) : List (List UInt8) := match la.getLast? with
  | some q => if q.1 = p.1 then [Ix.titleT p ++ Ix.besideT ++ Ix.titleT q] else []
  | none => []
theorem Ix.last_pg {la : List Ix.Pg} (h : 0 < la.length) : la.getLast? = some (Ix.pg la (la.length - 1)) := by
  rw [List.getLast?_eq_getElem?]
  unfold Ix.pg
  rw [List.getD_eq_getElem?_getD, List.getElem?_eq_getElem (by omega)]
  rfl

set_option maxHeartbeats 4000000 in
set_option maxRecDepth 100000 in
theorem besideLines_any {N : Nat → Prop} (w : World) (nm vr : Int) (fa : Option Addr) (fn fc : Nat) (da : Option Addr) (dn dc : Nat) (fs ds : List (Int × Int)) (v : Value) (la : List Ix.Pg) (h : Pks N w v la) (n0 : 1 ≤ nm ∧ nm ≤ 4) (v0 : 1 ≤ vr ∧ vr ≤ 5) (hok : ∀ j, j < la.length → Ix.pOk (Ix.pg la j) = true) :
    Calls Tryz.prog 111 #[.agg #[.int .i64 nm, .int .i64 vr, .slice fa fn fc, .slice da dn dc], v] w fun e w' => ∃ u, e = .returned u ∧ StrR w.heap.size w' u (Ix.besideOf la (nm, vr, fs, ds)) ∧ Below w.heap.size w w' := by
  have B0 := below1 w (.cells #[.int .i64 nm, .int .i64 vr, .slice fa fn fc, .slice da dn dc] 94)
  have H0 := hide (And.intro B0 (heap_alloc_new w (.cells #[.int .i64 nm, .int .i64 vr, .slice fa fn fc, .slice da dn dc] 94)))
  clear B0
  obtain ⟨a, cap, rfl, hlen, hrow⟩ := h
  rcases Nat.eq_zero_or_pos la.length with hz | hp
  · have hE : ((la.length : Int) == 0) = true := by rw [hz]; rfl
    have HZ := hide hz
    clear hz
    go_enter Tryz.func111, Tryz.ntmps111
    go_wp2
    go_ret
    have hnil : Ix.besideOf la (nm, vr, fs, ds) = [] := by rw [List.eq_nil_of_length_eq_zero (unhide HZ)]; rfl
    exact ⟨_, rfl, by rw [hnil]; exact StrR.nil _ _, (unhide H0).1⟩
  have hE : ((la.length : Int) == 0) = false := by rw [beq_eq_false_iff_ne]; omega
  obtain ⟨b, off, rfl, hb, _, hc⟩ := hrow hp
  obtain ⟨fv, dv, hAt, hf, hd⟩ := hc (la.length - 1) (by omega)
  have hokl := hok (la.length - 1) (by omega)
  clear hc hrow hok
  obtain ⟨n2, v2, f2, d2, hpk⟩ : ∃ nm vr fs ds, Ix.pg la (la.length - 1) = (nm, vr, fs, ds) := ⟨_, _, _, _, rfl⟩
  have hn2 := Ix.pOk_name hokl
  have hv2 := Ix.pOk_ver hokl
  rw [hpk] at hAt hf hd hn2 hv2
  dsimp only at hf hd hn2 hv2
  obtain ⟨ga, gc, hfv⟩ := hf.slice
  obtain ⟨ka, kc, hdv⟩ := hd.slice
  subst hfv hdv
  obtain ⟨c0, c1, c2, c3⟩ := hAt.keep ((unhide H0).1.block b hb)
  dsimp only at c0 c1
  have hlast := Ix.last_pg hp
  rw [hpk] at hlast
  have HL := hide hlast
  obtain ⟨m, hm⟩ : ∃ m, la.length = m + 1 := ⟨la.length - 1, by omega⟩
  have e1 : IntKind.i64.wrap ((la.length : Int) - 1) = (m : Int) := by rw [hm]; simp [IntKind.wrap, IntKind.bits, IntKind.signed]; omega
  rw [show la.length - 1 = m by omega] at c0 c1 c2 c3
  have hi0 : (0 : Int) ≤ (m : Int) := Int.natCast_nonneg _
  have hi1 : (m : Int) < (la.length : Int) := by omega
  have hb0 : b < (w.alloc (.cells #[.int .i64 nm, .int .i64 vr, .slice fa fn fc, .slice da dn dc] 94)).heap.size := by rw [sz1']; omega
  clear hAt hf hd hpk hlast hokl hm hp
  have hx0 := (unhide H0).2
  have x0 := cellOf hx0 0
  have xlt := heapLt hx0
  clear hx0
  have H0b := hide hb
  clear hb
  have z0 := sz1' w (.cells #[.int .i64 nm, .int .i64 vr, .slice fa fn fc, .slice da dn dc] 94)
  have b2 := below1 (w.alloc (.cells #[.int .i64 nm, .int .i64 vr, .slice fa fn fc, .slice da dn dc] 94)) (.cells #[.int .i64 n2, .int .i64 v2, .slice ga f2.length gc, .slice ka d2.length kc] 94)
  have hy2 := heap_alloc_new (w.alloc (.cells #[.int .i64 nm, .int .i64 vr, .slice fa fn fc, .slice da dn dc] 94)) (.cells #[.int .i64 n2, .int .i64 v2, .slice ga f2.length gc, .slice ka d2.length kc] 94)
  rw [z0] at hy2
  have hB2 := (unhide H0).1.trans (b2.mono (unhide H0).1.size)
  have hx2 := (b2.block _ (heapLt (unhide H0).2)).trans (unhide H0).2
  have H2 := hide (And.intro hB2 (And.intro hx2 hy2))
  clear b2 hy2 hB2 hx2 z0
  by_cases hx : n2 = nm
  · have hne : (n2 != nm) = false := by simpa using hx
    have HXX := hide hx
    clear hx
    go_enter Tryz.func111, Tryz.ntmps111
    go_wp2_with fail
    clear H0 c0 c1 c2 c3 x0 xlt hb0
    generalize World.alloc _ _ = W2 at *
    have sOf : ∀ w', Below W2.heap.size W2 w' → (w'.cell? ⟨w.heap.size, 0, none⟩ = some (.int .i64 nm) ∧ w'.cell? ⟨w.heap.size, 1, none⟩ = some (.int .i64 vr) ∧ w'.cell? ⟨w.heap.size, 2, none⟩ = some (.slice fa fn fc) ∧ w'.cell? ⟨w.heap.size, 3, none⟩ = some (.slice da dn dc)) ∧ (w'.cell? ⟨w.heap.size + 1, 0, none⟩ = some (.int .i64 n2) ∧ w'.cell? ⟨w.heap.size + 1, 1, none⟩ = some (.int .i64 v2) ∧ w'.cell? ⟨w.heap.size + 1, 2, none⟩ = some (.slice ga f2.length gc) ∧ w'.cell? ⟨w.heap.size + 1, 3, none⟩ = some (.slice ka d2.length kc)) := fun w' hb => by
      have hx := (hb.block _ (heapLt (unhide H2).2.1)).trans (unhide H2).2.1
      have hy := (hb.block _ (heapLt (unhide H2).2.2)).trans (unhide H2).2.2
      exact ⟨⟨cellOf hx 0, cellOf hx 1, cellOf hx 2, cellOf hx 3⟩, ⟨cellOf hy 0, cellOf hy 1, cellOf hy 2, cellOf hy 3⟩⟩
    have SOF := hide sOf
    clear sOf
    refine wp_region_held_drew (S := fun w' => (w'.cell? ⟨w.heap.size, 0, none⟩ = some (.int .i64 nm) ∧ w'.cell? ⟨w.heap.size, 1, none⟩ = some (.int .i64 vr) ∧ w'.cell? ⟨w.heap.size, 2, none⟩ = some (.slice fa fn fc) ∧ w'.cell? ⟨w.heap.size, 3, none⟩ = some (.slice da dn dc)) ∧ (w'.cell? ⟨w.heap.size + 1, 0, none⟩ = some (.int .i64 n2) ∧ w'.cell? ⟨w.heap.size + 1, 1, none⟩ = some (.int .i64 v2) ∧ w'.cell? ⟨w.heap.size + 1, 2, none⟩ = some (.slice ga f2.length gc) ∧ w'.cell? ⟨w.heap.size + 1, 3, none⟩ = some (.slice ka d2.length kc))) (by kernel_rfl) (unhide SOF _ (below_drew W2)) (fun hHeld => ?_)
    refine anyH_at (i := 0) (d := some 20) rfl rfl (by kernel_rfl) (by kernel_rfl) (by kernel_rfl) (fun _ _ _ h => h) (by rfl) (v := ?_) ?_ (by assumption) ?_
    rotate_left
    · (intro w hSw; (try dsimp only at hSw); go_simp <;> with_reducible rfl)
    simp only [Act.put, List.setIfInBounds_toArray, List.set_cons_zero, List.set_cons_succ]
    refine anyH_at (i := 3) (d := some 23) rfl rfl (by kernel_rfl) (by kernel_rfl) (by kernel_rfl) (fun _ _ _ h => h) (by rfl) (v := ?_) ?_ (by assumption) ?_
    rotate_left
    · (intro w hSw; (try dsimp only at hSw); go_simp <;> with_reducible rfl)
    simp only [Act.put, List.setIfInBounds_toArray, List.set_cons_zero, List.set_cons_succ]
    refine wpAnyH_ready (rs := [1]) (by kernel_rfl) (by simp) ?_
    refine AllReadyH.cons rfl (fun K hK => ?_) AllReadyH.nil
    go_simp
    refine (title_any _ nm vr _ _ n0.1 n0.2 (by omega) (by omega)).mono ?_
    rintro e w3 ⟨rfl, b3⟩
    have hb3 : Below W2.heap.size W2 w3 := (below_drew W2).trans b3
    have HB3 := hide hb3
    clear b3 hb3
    go_wp2_with fail
    refine hK.out _ _ ?_ (fun hHeldN => ?_)
    · exact unhide SOF _ (unhide HB3)
    clear hHeld
    have hHeld := hHeldN
    clear hHeldN
    clear hK K
    try simp only [Act.put, List.setIfInBounds_toArray, List.set_cons_zero, List.set_cons_succ]
    refine anyH_at (i := 2) (d := some 22) rfl rfl (by kernel_rfl) (by kernel_rfl) (by kernel_rfl) (fun _ _ _ h => h) (by rfl) (v := .string ⟨(Ix.titleT (nm, vr, fs, ds) ++ Ix.besideT).toArray⟩) (fun _ _ => run_add _ _ _ rfl (Pk.nameT nm vr) (Ix.besideT) rfl rfl (of_decide_eq_true rfl)) (by assumption) ?_
    simp only [Act.put, List.setIfInBounds_toArray, List.set_cons_zero, List.set_cons_succ]
    refine wpAnyH_ready (rs := [4]) (by kernel_rfl) (by simp) ?_
    refine AllReadyH.cons rfl (fun K hK => ?_) AllReadyH.nil
    go_simp
    refine (title_any _ n2 v2 _ _ hn2.1 hn2.2 (by omega) (by omega)).mono ?_
    rintro e w4 ⟨rfl, b4⟩
    have HB4 := hide ((unhide HB3).trans (b4.mono (unhide HB3).size))
    clear b4
    go_wp2_with fail
    refine hK.out _ _ ?_ (fun hHeldN => ?_)
    · exact unhide SOF _ (unhide HB4)
    clear hHeld
    have hHeld := hHeldN
    clear hHeldN
    clear hK K
    try simp only [Act.put, List.setIfInBounds_toArray, List.set_cons_zero, List.set_cons_succ]
    refine anyH_at (i := 5) (d := some 25) rfl rfl (by kernel_rfl) (by kernel_rfl) (by kernel_rfl) (fun _ _ _ h => h) (by rfl) (v := .string ⟨(Ix.titleT (nm, vr, fs, ds) ++ Ix.besideT ++ Ix.titleT (n2, v2, f2, d2)).toArray⟩) (fun _ _ => run_add _ _ _ rfl (Ix.titleT (nm, vr, fs, ds) ++ Ix.besideT) (Pk.nameT n2 v2) rfl rfl (of_decide_eq_true rfl)) (by assumption) ?_
    simp only [Act.put, List.setIfInBounds_toArray, List.set_cons_zero, List.set_cons_succ]
    refine wpAnyH_ready (rs := [6]) (by kernel_rfl) (by simp) ?_
    refine AllReadyH.cons rfl (fun K hK => ?_) AllReadyH.nil
    go_simp
    have b5 := below1 w4 (.cells #[strB (Ix.titleT (nm, vr, fs, ds) ++ Ix.besideT ++ Ix.titleT (n2, v2, f2, d2))] 9)
    have HB5 := hide ((unhide HB4).trans (b5.mono (unhide HB4).size))
    have HO5 := hide (StrR.one w4 (Ix.titleT (nm, vr, fs, ds) ++ Ix.besideT ++ Ix.titleT (n2, v2, f2, d2)))
    clear b5
    refine hK.out _ _ ?_ (fun hHeldN => ?_)
    · exact unhide SOF _ (unhide HB5)
    clear hHeld
    have hHeld := hHeldN
    clear hHeldN
    clear hK K
    try simp only [Act.put, List.setIfInBounds_toArray, List.set_cons_zero, List.set_cons_succ]
    refine anyH_at (i := 7) (d := some 4) rfl rfl (by kernel_rfl) (by kernel_rfl) (by kernel_rfl) (fun _ _ _ h => h) (by rfl) (v := ?_) ?_ (by assumption) ?_
    rotate_left
    · (intro w hSw; (try dsimp only at hSw); go_simp <;> with_reducible rfl)
    simp only [Act.put, List.setIfInBounds_toArray, List.set_cons_zero, List.set_cons_succ]
    refine wpAnyH_done (by kernel_rfl) ?_ _
    go_wp2
    go_ret
    have hone : Ix.besideOf la (nm, vr, fs, ds) = [Ix.titleT (nm, vr, fs, ds) ++ Ix.besideT ++ Ix.titleT (n2, v2, f2, d2)] := by unfold Ix.besideOf; rw [unhide HL]; exact if_pos (unhide HXX)
    have hBw := (unhide H2).1.trans ((unhide HB4).mono (unhide H2).1.size)
    exact ⟨_, rfl, by rw [hone]; exact (unhide HO5).base hBw.size, (unhide H2).1.trans ((unhide HB5).mono (unhide H2).1.size)⟩
  · have hne : (n2 != nm) = true := by simpa using hx
    go_enter Tryz.func111, Tryz.ntmps111
    go_wp2
    go_ret
    have hnil : Ix.besideOf la (nm, vr, fs, ds) = [] := by unfold Ix.besideOf; rw [unhide HL]; exact if_neg hx
    exact ⟨_, rfl, by rw [hnil]; exact StrR.nil _ _, (unhide H2).1⟩
end Go.Proofs.YtkhanndmbpemfaaGreatDoor
