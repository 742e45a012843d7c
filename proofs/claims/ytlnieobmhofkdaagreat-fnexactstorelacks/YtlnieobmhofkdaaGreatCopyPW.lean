import Derived.Test.YtlnieobmhofkdaaGreatMix5
import Derived.Test.YtlnieobmhofkdaaGreatMix6
import Derived.Test.YtlnieobmhofkdaaGreatPksW
import Derived.Test.YtlnieobmhofkdaaGreatMix3
/- What impl.copyPkg and spec.l12PkgCopy return: the same package, in rows of its own; for every package. -/
namespace Go.Proofs.YtlnieobmhofkdaaGreat
open Go.RowKit

/-- Pairs as cells, out of a row that can be read. -/
theorem prs_news {w : World} {a : Option Addr} {c : Nat} {l : List (Int × Int)} (h : Prs w (.slice a l.length c) l) : 0 < l.length → ∃ ad, a = some ad ∧ ∀ j u, (flat l)[j]? = some u → w.cell? (ad.add j) = some u := by
  intro hp
  obtain ⟨a', c', e, _, hr⟩ := h
  injection e with e _ _
  subst e
  obtain ⟨b, off, rfl, _, hc⟩ := hr hp
  refine ⟨_, rfl, fun j u hu => ?_⟩
  have hfl : (flat l).length = l.length * 2 := by
    have : ∀ l : List (Int × Int), (flat l).length = l.length * 2 := fun l => by
      induction l with
      | nil => rfl
      | cons x l ih => show (flat l).length + 1 + 1 = _; rw [ih, List.length_cons]; omega
    exact this l
  have hj : j < l.length * 2 := by
    rcases Nat.lt_or_ge j (flat l).length with h | h
    · omega
    · rw [List.getElem?_eq_none h] at hu; cases hu
  obtain ⟨h0, h1⟩ := flat_at l (j / 2) (by omega)
  obtain ⟨c0, c1⟩ := hc (j / 2) (by omega)
  have hm : j % 2 = 0 ∨ j % 2 = 1 := by omega
  have hadd : (⟨b, off, none⟩ : Addr).add j = ⟨b, off + j, none⟩ := by unfold Addr.add; split <;> simp_all
  rw [hadd]
  rcases hm with h | h
  · have ej : j = j / 2 * 2 := by omega
    rw [ej] at hu ⊢
    rw [h0] at hu
    rw [← hu]; exact c0
  · have ej : j = j / 2 * 2 + 1 := by omega
    rw [ej] at hu ⊢
    rw [h1] at hu
    rw [← hu, ← Nat.add_assoc]; exact c1
theorem flat_cells (l : List (Int × Int)) : (flat l).length = l.length * 2 ∧ ∀ u ∈ flat l, u.oneCell' = true := by
  induction l with
  | nil => exact ⟨rfl, fun u hu => by cases hu⟩
  | cons x l ih =>
    refine ⟨?_, fun u hu => ?_⟩
    · show (flat l).length + 1 + 1 = _; rw [ih.1, List.length_cons]; omega
    · have : u ∈ Value.int .i64 x.1 :: Value.int .i64 x.2 :: flat l := hu
      simp only [List.mem_cons] at this
      rcases this with rfl | rfl | h
      · rfl
      · rfl
      · exact ih.2 u h
theorem emptyD {w W : World} {z : Nat} (hz : z = W.heap.size) (hb : Below w.heap.size w W) : Below w.heap.size w (W.alloc (.cells #[] 98)) ∧ (W.alloc (.cells #[] 98)).ownsRow w.heap.size 98 2 (.slice (some ⟨z, 0, none⟩) 0 0) 0 [] ∧ ∀ (k : Nat) (o : Obj), W.heap[k]? = some o → (W.alloc (.cells #[] 98)).heap[k]? = some o := by
  subst hz
  exact ⟨hb.trans ((below1 W _).mono hb.size), empty_own (heap_alloc_new W _) hb.size, fun k o h => ((below1 W _).block k (heapLt h)).trans h⟩
theorem Prs.keep2 {w w' : World} {v : Value} {l : List (Int × Int)} (h : Prs w v l) (hb : Below w.heap.size w w') : Prs w' v l := h.later hb
theorem fin4 {W w w' : World} {R : Nat} {a b c d r0 r1 r2 r3 : Value} {t : TypeId} (hR : w.heap[R]? = some (.cells #[r0, r1, r2, r3] t (0, 0))) (lR : W.heap.size ≤ R) (hb : Below W.heap.size W w)
    (hw : w' = (((w.setCell ⟨R, 0, none⟩ a).setCell ⟨R, 1, none⟩ b).setCell ⟨R, 2, none⟩ c).setCell ⟨R, 3, none⟩ d) :
    (w'.cell? ⟨R, 0, none⟩ = some a ∧ w'.cell? ⟨R, 1, none⟩ = some b ∧ w'.cell? ⟨R, 2, none⟩ = some c ∧ w'.cell? ⟨R, 3, none⟩ = some d) ∧ Below W.heap.size W w' ∧ ∀ g, g ≠ R → w'.heap[g]? = w.heap[g]? := by
  have h' : w'.heap[R]? = some (.cells #[a, b, c, d] t (0, 0)) := by rw [hw, heapSet (heapSet (heapSet (heapSet hR)))]; rfl
  refine ⟨⟨cellOf h' 0, cellOf h' 1, cellOf h' 2, cellOf h' 3⟩, ?_, fun g hg => ?_⟩
  · rw [hw]; exact below_set (below_set (below_set (below_set hb lR) lR) lR) lR
  · rw [hw, Below.heap_setCell _ _ _ _ hg, Below.heap_setCell _ _ _ _ hg, Below.heap_setCell _ _ _ _ hg, Below.heap_setCell _ _ _ _ hg]
/-- A package's rows, its own. -/
structure OwP (B : Nat) (w : World) (fv dv : Value) (fs ds : List (Int × Int)) : Prop where
  f : w.ownsRow B 96 2 fv fs.length (flat fs)
  d : w.ownsRow B 98 2 dv ds.length (flat ds)
theorem OwP.later {B : Nat} {w w' : World} {fv dv : Value} {fs ds : List (Int × Int)} (h : OwP B w fv dv fs ds) (hb : Below w.heap.size w w') : OwP B w' fv dv fs ds := ⟨own_later h.f hb, own_later h.d hb⟩
theorem OwP.base {B B' : Nat} {w : World} {fv dv : Value} {fs ds : List (Int × Int)} (h : OwP B w fv dv fs ds) (hB : B' ≤ B) : OwP B' w fv dv fs ds := ⟨own_base' h.f hB, own_base' h.d hB⟩
theorem OwP.zero (B : Nat) (w : World) : OwP B w (.slice none 0 0) (.slice none 0 0) [] [] := ⟨World.ownsRow_nil _ _ _ _, World.ownsRow_nil _ _ _ _⟩
theorem OwP.forms {B : Nat} {w : World} {fv dv : Value} {fs ds : List (Int × Int)} (h : OwP B w fv dv fs ds) : ∃ fa fc da dc, fv = .slice fa fs.length fc ∧ dv = .slice da ds.length dc := by
  obtain ⟨fa, fc, h1⟩ := own_formS h.f
  obtain ⟨da, dc, h2⟩ := own_formS h.d
  exact ⟨fa, fc, da, dc, h1, h2⟩

set_option maxHeartbeats 1000000 in
set_option maxRecDepth 100000 in
theorem copyFiles_any (w : World) (v : Value) (l : List (Int × Int)) (h : Prs w v l) :
    Calls Tryz.prog 82 #[v] w fun e w' => ∃ v', e = .returned v' ∧ w'.ownsRow w.heap.size 96 2 v' l.length (flat l) ∧ Below w.heap.size w w' := by
  obtain ⟨i0, hI0, hz0, hz1, hz2⟩ := info_parts infoFile
  obtain ⟨a, c, hv⟩ := h.slice
  subst hv
  have hlen : l.length ≤ 1000000000000 := by obtain ⟨_, _, _, h, _⟩ := h; exact h
  go_enter Tryz.func82, Tryz.ntmps82
  go_wp2_with (at_builtin; refine wpList_append_all _ rfl _ _ _ rfl w.heap.size 96 i0 _ 2 16 Tryz.underlying64 hI0 hz0 hz1 hz2 rfl (by omega) (.slice none 0 0) rfl (World.ownsRow_nil _ _ _ _) a l.length c (flat l) rfl (flat_cells l).1 (prs_news h) (flat_cells l).2 (by unfold maxLen; omega) (by omega) (Nat.le_refl _) ?_; intro v' w1 hown hgrow)
  have HO := hide hown
  have HB := hide (grown_none hgrow rfl)
  clear hown hgrow h
  go_ret
  exact ⟨v', rfl, unhide HO, unhide HB⟩

set_option maxHeartbeats 1000000 in
set_option maxRecDepth 100000 in
theorem copyDeps_any (w : World) (v : Value) (l : List (Int × Int)) (h : Prs w v l) :
    Calls Tryz.prog 83 #[v] w fun e w' => ∃ v', e = .returned v' ∧ w'.ownsRow w.heap.size 98 2 v' l.length (flat l) ∧ Below w.heap.size w w' := by
  obtain ⟨i0, hI0, hz0, hz1, hz2⟩ := info_parts infoDep
  obtain ⟨a, c, hv⟩ := h.slice
  subst hv
  have hlen : l.length ≤ 1000000000000 := by obtain ⟨_, _, _, h, _⟩ := h; exact h
  go_enter Tryz.func83, Tryz.ntmps83
  go_wp2_with (at_builtin; refine wpList_append_all _ rfl _ _ _ rfl w.heap.size 98 i0 _ 2 16 Tryz.underlying65 hI0 hz0 hz1 hz2 rfl (by omega) (.slice none 0 0) rfl (World.ownsRow_nil _ _ _ _) a l.length c (flat l) rfl (flat_cells l).1 (prs_news h) (flat_cells l).2 (by unfold maxLen; omega) (by omega) (Nat.le_refl _) ?_; intro v' w1 hown hgrow)
  have HO := hide hown
  have HB := hide (grown_none hgrow rfl)
  clear hown hgrow h
  go_ret
  exact ⟨v', rfl, unhide HO, unhide HB⟩

set_option maxHeartbeats 2000000 in
set_option maxRecDepth 100000 in
theorem implCopyPkg_any (w : World) (n r : Int) (fv dv : Value) (fs ds : List (Int × Int)) (hf : Prs w fv fs) (hd : Prs w dv ds) :
    Calls Tryz.prog 60 #[.agg #[.int .i64 n, .int .i64 r, fv, dv]] w fun e w' => ∃ fv' dv', e = .returned (.agg #[.int .i64 n, .int .i64 r, fv', dv']) ∧ OwP w.heap.size w' fv' dv' fs ds ∧ Below w.heap.size w w' := by
  obtain ⟨fa, fc, hfv⟩ := hf.slice
  obtain ⟨da, dc, hdv⟩ := hd.slice
  subst hfv hdv
  have B1 := below1 w (.cells #[.int .i64 n, .int .i64 r, .slice fa fs.length fc, .slice da ds.length dc] 67)
  have hx1 := heap_alloc_new w (.cells #[.int .i64 n, .int .i64 r, .slice fa fs.length fc, .slice da ds.length dc] 67)
  have z1 := sz1' w (.cells #[.int .i64 n, .int .i64 r, .slice fa fs.length fc, .slice da ds.length dc] 67)
  have b2 := below1 (w.alloc (.cells #[.int .i64 n, .int .i64 r, .slice fa fs.length fc, .slice da ds.length dc] 67)) (.cells #[.int .i64 0, .int .i64 0, .slice none 0 0, .slice none 0 0] 67)
  have B2 := B1.trans (b2.mono B1.size)
  have hx2 := (b2.block _ (heapLt hx1)).trans hx1
  have hr2 := heap_alloc_new (w.alloc (.cells #[.int .i64 n, .int .i64 r, .slice fa fs.length fc, .slice da ds.length dc] 67)) (.cells #[.int .i64 0, .int .i64 0, .slice none 0 0, .slice none 0 0] 67)
  rw [z1] at hr2
  have H2 := hide (And.intro B2 (And.intro hx2 hr2))
  have I2 := hide (hf.later B2)
  have HD := hide hd
  clear B1 b2 z1 hx1 B2 hx2 hr2 hf hd
  go_enter Tryz.func60, Tryz.ntmps60
  go_wp2_with fail
  refine (copyFiles_any _ _ fs (unhide I2)).mono ?_
  generalize World.alloc _ _ = W2 at *
  rintro e w3 ⟨v', rfl, ho3, hb3⟩
  obtain ⟨va, vc, hv'⟩ := own_formS ho3
  subst hv'
  have hBx := (hb3.block _ (heapLt (unhide H2).2.1)).trans (unhide H2).2.1
  have hRx := (hb3.block _ (heapLt (unhide H2).2.2)).trans (unhide H2).2.2
  have hB3 := (unhide H2).1.trans (hb3.mono (unhide H2).1.size)
  have b0 := cellOf hBx 2
  have g0 := frozenOf hBx 2
  have b3 := cellOf hBx 3
  have hB4 := below_set (o := 2) (u := .slice va fs.length vc) hB3 (Nat.le_refl _)
  have H4 := hide (And.intro (own_set (o := 2) (u := .slice va fs.length vc) (own_base' ho3 (unhide H2).1.size) hBx (by decide)) (And.intro (heapSet (o := 2) (v := .slice va fs.length vc) hBx) (And.intro ((Below.heap_setCell w3 ⟨w.heap.size, 2, none⟩ (.slice va fs.length vc) (w.heap.size + 1) (by show w.heap.size + 1 ≠ w.heap.size; omega)).trans hRx) hB4)))
  have D4 := hide ((unhide HD).keep2 hB4)
  clear ho3 hb3 hBx hRx hB3 hB4 H2 I2
  clear W2
  go_wp2_with fail
  refine (copyDeps_any _ _ ds (unhide D4)).mono ?_
  generalize World.setCell _ _ _ = W4 at *
  clear b0 g0 b3
  rintro e w5 ⟨v', rfl, ho5, hb5⟩
  obtain ⟨ua, uc, hv'⟩ := own_formS ho5
  subst hv'
  obtain ⟨hf4, hx4, hr4, hB4⟩ := unhide H4
  have hx5 := (hb5.block _ (heapLt hx4)).trans hx4
  have hr5 := (hb5.block _ (heapLt hr4)).trans hr4
  have hf5 := own_later hf4 hb5
  have hd5 := own_base' ho5 hB4.size
  have hB5 := hB4.trans (hb5.mono hB4.size)
  have c0 := cellOf hx5 0
  have c1 := cellOf hx5 1
  have c2 := cellOf hx5 2
  have c3 := cellOf hx5 3
  have k3 := frozenOf hx5 3
  have r0 := cellOf hr5 0
  have r1 := cellOf hr5 1
  have r2 := cellOf hr5 2
  have r3 := cellOf hr5 3
  have s0 := frozenOf hr5 0
  have s1 := frozenOf hr5 1
  have s2 := frozenOf hr5 2
  have s3 := frozenOf hr5 3
  have hne : w.heap.size ≠ w.heap.size + 1 := by omega
  have HZ := hide (And.intro (own_set (o := 3) (u := .slice ua ds.length uc) hf5 hx5 (by decide)) (And.intro (own_set (o := 3) (u := .slice ua ds.length uc) hd5 hx5 (by decide)) (And.intro ((Below.heap_setCell w5 ⟨w.heap.size, 3, none⟩ (.slice ua ds.length uc) (w.heap.size + 1) (by show w.heap.size + 1 ≠ w.heap.size; omega)).trans hr5) (below_set (o := 3) (u := .slice ua ds.length uc) hB5 (Nat.le_refl _)))))
  clear ho5 hb5 hx5 hr5 hf5 hd5 hB5 H4 hf4 hx4 hr4 hB4 D4 HD
  clear W4
  go_wp2
  obtain ⟨hF, hD, hR, hB⟩ := unhide HZ
  obtain ⟨⟨q0, q1, q2, q3⟩, hbel, hfar⟩ := fin4 (a := .int .i64 n) (b := .int .i64 r) (c := .slice va fs.length vc) (d := .slice ua ds.length uc) (W := w) hR (by omega) hB rfl
  exact bodyPost_ret (v := .agg #[.int .i64 n, .int .i64 r, .slice va fs.length vc, .slice ua ds.length uc]) (by simp [results, Tryz.results60, go_sem, q0, q1, q2, q3]) rfl ⟨_, _, rfl, ⟨own_keepS hF (fun g _ e _ hg => hfar g (fun e2 => own_ne hF hR (by decide) (by rw [e, e2]))), own_keepS hD (fun g _ e _ hg => hfar g (fun e2 => own_ne hD hR (by decide) (by rw [e, e2])))⟩, hbel⟩

end Go.Proofs.YtlnieobmhofkdaaGreat
