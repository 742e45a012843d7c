/- The walk of FnPkgLess: it returns true and leaves what was there; for every two rows of bytes. -/
import Derived.Test.YtcngmglmcjoffaaPkgOkDrawW
import Derived.Test.YtcngmglmcjoffaaImplOkW
import Derived.Test.YtcngmglmcjoffaaSkipW
namespace Go.Proofs.Ytcngmglmcjoffaa
open Go.RowKit

attribute [local go_sem ↓] Go.wp_at_zero Go.wp_at_succ

theorem addP (b off i : Nat) : (⟨b, off, none⟩ : Addr).add i = ⟨b, off + i, none⟩ := by unfold Addr.add; split <;> simp_all
theorem flat_len (l : List (Int × Int)) : (flat l).length = l.length * 2 := by
  induction l with
  | nil => rfl
  | cons x t ih => have e : flat (x :: t) = .int .i64 x.1 :: .int .i64 x.2 :: flat t := rfl; rw [e, List.length_cons, List.length_cons, ih, List.length_cons]; omega
theorem flat_app (l m : List (Int × Int)) : flat (l ++ m) = flat l ++ flat m := by unfold flat; rw [List.flatMap_append]
theorem news_flat {w : World} {b off : Nat} {l : List (Int × Int)} (hc : ∀ i, i < l.length → w.cell? ⟨b, off + i * 2, none⟩ = some (.int .i64 (Pk.fst l i)) ∧ w.cell? ⟨b, off + i * 2 + 1, none⟩ = some (.int .i64 (Pk.snd l i))) : ∀ j u, (flat l)[j]? = some u → w.cell? ((⟨b, off, none⟩ : Addr).add j) = some u := by
  intro j u hu
  have hj : j < (flat l).length := (List.getElem?_eq_some_iff.1 hu).1
  rw [flat_len] at hj
  obtain ⟨f1, f2⟩ := flat_at l (j / 2) (by omega)
  obtain ⟨c1, c2⟩ := hc (j / 2) (by omega)
  rw [addP]
  rcases Nat.mod_two_eq_zero_or_one j with h | h
  · have e : j = j / 2 * 2 := by omega
    rw [e] at hu ⊢
    rw [f1] at hu
    rw [c1, hu]
  · have e : j = j / 2 * 2 + 1 := by omega
    rw [e] at hu ⊢
    rw [f2] at hu
    rw [← Nat.add_assoc, c2, hu]
theorem oneCell_flat (l : List (Int × Int)) : ∀ u ∈ flat l, u.oneCell' = true := by
  intro u hu
  unfold flat at hu
  rw [List.mem_flatMap] at hu
  obtain ⟨x, _, hx⟩ := hu
  simp only [List.mem_cons, List.not_mem_nil, or_false] at hx
  rcases hx with rfl | rfl <;> rfl

/-- Files without the one at a place. -/
def lessP (l : List (Int × Int)) (i : Nat) : List (Int × Int) := l.take i ++ l.drop (i + 1)
theorem files_one {y : Int × Int} (h : (0 ≤ y.1 ∧ y.1 ≤ 5) ∧ (0 ≤ y.2 ∧ y.2 ≤ 9)) : Pk.filesOk [y] = true := by
  rw [Pk.filesOk_good (fun i hi => ?_)]
  · rfl
  · obtain rfl : i = 0 := by simpa using hi
    unfold Pk.fileGood
    rw [show Pk.fst [y] 0 = y.1 from rfl, show Pk.snd [y] 0 = y.2 from rfl, Pk.inB_true.2 h.1, Pk.inB_true.2 h.2]
    rfl
theorem files_less : ∀ {l : List (Int × Int)} {i : Nat}, Pk.filesOk l = true → i < l.length → Pk.filesOk (lessP l i) = true
  | [], _, _, hi => by simp at hi
  | [x], 0, _, _ => rfl
  | [x], i + 1, _, hi => by simp at hi
  | [x, y], 0, h, _ => files_one ((Pk.filesOk_get h).2 1 (by simp))
  | [x, y], 1, h, _ => files_one ((Pk.filesOk_get h).2 0 (by simp))
  | [x, y], i + 2, _, hi => by simp only [List.length_cons, List.length_nil] at hi; omega
  | x :: y :: z :: t, _, h, _ => by have := (Pk.filesOk_get h).1; simp at this
theorem pkg_parts {nm vr : Int} {fs ds : List (Int × Int)} (h : Pk.pkgOk nm vr fs ds = true) : Pk.inB nm 1 4 = true ∧ Pk.inB vr 1 5 = true ∧ Pk.filesOk fs = true ∧ Pk.depsOk nm ds = true := by
  unfold Pk.pkgOk at h
  rw [Bool.and_eq_true, Bool.and_eq_true, Bool.and_eq_true] at h
  exact ⟨h.1.1.1, h.1.1.2, h.1.2, h.2⟩
theorem pkg_less {nm vr : Int} {fs ds : List (Int × Int)} {i : Nat} (h : Pk.pkgOk nm vr fs ds = true) (hi : i < fs.length) : Pk.pkgOk nm vr (lessP fs i) ds = true := by
  obtain ⟨h1, h2, h3, h4⟩ := pkg_parts h
  unfold Pk.pkgOk
  rw [h1, h2, files_less h3 hi, h4]
  rfl
theorem pkg_none {nm vr : Int} {fs ds : List (Int × Int)} (h : Pk.pkgOk nm vr fs ds = true) : Pk.pkgOk nm vr fs [] = true := by
  obtain ⟨h1, h2, h3, _⟩ := pkg_parts h
  unfold Pk.pkgOk
  rw [h1, h2, h3]
  rfl
theorem pkg_self (nm vr : Int) (fs : List (Int × Int)) : Pk.pkgOk nm vr fs [(nm, 1)] = false := by
  unfold Pk.pkgOk
  rw [Pk.depsOk_bad (i := 0) (by simp) (by unfold Pk.depGood; simp [Pk.fst]), Bool.and_false]

/-- A package in a box, and its rows. -/
structure Px (w : World) (g : Nat) (nm vr : Int) (fv dv : Value) (fs ds : List (Int × Int)) : Prop where
  hP : ∃ t, w.heap[g]? = some (.cells #[.int .i64 nm, .int .i64 vr, fv, dv] t (0, 0))
  pf : Prs w fv fs
  pd : Prs w dv ds
theorem Px.lt {w : World} {g : Nat} {nm vr : Int} {fv dv : Value} {fs ds : List (Int × Int)} (h : Px w g nm vr fv dv fs ds) : g < w.heap.size := by obtain ⟨t, h⟩ := h.hP; exact heap_lt h
theorem Px.cells {w : World} {g : Nat} {nm vr : Int} {fv dv : Value} {fs ds : List (Int × Int)} (h : Px w g nm vr fv dv fs ds) : w.cell? ⟨g, 0, none⟩ = some (.int .i64 nm) ∧ w.cell? ⟨g, 1, none⟩ = some (.int .i64 vr) ∧ w.cell? ⟨g, 2, none⟩ = some fv ∧ w.cell? ⟨g, 3, none⟩ = some dv := by
  obtain ⟨t, h⟩ := h.hP
  exact ⟨cell_of h 0, cell_of h 1, cell_of h 2, cell_of h 3⟩
theorem Px.later {w w' : World} {g : Nat} {nm vr : Int} {fv dv : Value} {fs ds : List (Int × Int)} (h : Px w g nm vr fv dv fs ds) (hb : Below w.heap.size w w') : Px w' g nm vr fv dv fs ds := by
  obtain ⟨⟨t, h1⟩, h2, h3⟩ := h
  exact ⟨⟨t, (hb.block _ (heap_lt h1)).trans h1⟩, h2.later hb, h3.later hb⟩
theorem Px.drew {w : World} {g : Nat} {nm vr : Int} {fv dv : Value} {fs ds : List (Int × Int)} (h : Px w g nm vr fv dv fs ds) : Px w.drew g nm vr fv dv fs ds := ⟨h.hP, h.pf, h.pd⟩
theorem Px.new {w : World} {nm vr : Int} {fv dv : Value} {fs ds : List (Int × Int)} (hf : Prs w fv fs) (hd : Prs w dv ds) (t : TypeId) : Px (w.alloc (.cells #[.int .i64 nm, .int .i64 vr, fv, dv] t)) w.heap.size nm vr fv dv fs ds :=
  ⟨⟨t, heap_alloc_new w _⟩, hf.later (below1 _ _), hd.later (below1 _ _)⟩
theorem implPkgOk_b {r : Bool} (w : World) (nm vr : Int) (fv dv : Value) (fs ds : List (Int × Int)) (hr : Pk.pkgOk nm vr fs ds = r) (hf : Prs w fv fs) (hd : Prs w dv ds) : Calls Try.prog 5 #[.agg #[.int .i64 nm, .int .i64 vr, fv, dv]] w fun e w' => e = .returned (.bool r) ∧ Below w.heap.size w w' :=
  (implPkgOk_any w nm vr fv dv fs ds hf hd).mono fun e w' ⟨he, hq⟩ => ⟨by rw [he, hr], hq⟩
theorem specPkgOk_b {r : Bool} (w : World) (nm vr : Int) (fv dv : Value) (fs ds : List (Int × Int)) (hr : Pk.pkgOk nm vr fs ds = r) (hf : Prs w fv fs) (hd : Prs w dv ds) : Calls Try.prog 6 #[.agg #[.int .i64 nm, .int .i64 vr, fv, dv]] w fun e w' => e = .returned (.bool r) ∧ Below w.heap.size w w' :=
  (pkgOk_any w nm vr fv dv fs ds hf hd).mono fun e w' ⟨he, hq⟩ => ⟨by rw [he, hr], hq⟩
theorem Prs.spotL {w : World} {a : Option Addr} {n c : Nat} {k : List (Int × Int)} (h : Prs w (.slice a n c) k) (hn : 0 < n) : ∃ b off, a = some ⟨b, off, none⟩ ∧ b < w.heap.size ∧ ∀ i, i < n → w.cell? ⟨b, off + i * 2, none⟩ = some (.int .i64 (Pk.fst k i)) ∧ w.cell? ⟨b, off + i * 2 + 1, none⟩ = some (.int .i64 (Pk.snd k i)) := by
  obtain ⟨a', c', hv, hl, hr⟩ := h
  injection hv with e1 e2 e3
  subst e1 e2 e3
  obtain ⟨b, off, ha, hb, hc⟩ := hr hn
  exact ⟨b, off, ha, hb, hc⟩
theorem newsP_take {w w' : World} {b off n m i : Nat} {k : List (Int × Int)} (hc : ∀ i, i < n → w.cell? ⟨b, off + i * 2, none⟩ = some (.int .i64 (Pk.fst k i)) ∧ w.cell? ⟨b, off + i * 2 + 1, none⟩ = some (.int .i64 (Pk.snd k i))) (hi : i ≤ n) (hb : Below m w w') (hbm : b < m) : ∀ j u, (flat (k.take i))[j]? = some u → w'.cell? ((⟨b, off, none⟩ : Addr).add j) = some u := by
  refine news_flat (fun j hj => ?_)
  rw [List.length_take] at hj
  have e1 : Pk.fst (k.take i) j = Pk.fst k j := by unfold Pk.fst; rw [List.getD_eq_getElem?_getD, List.getD_eq_getElem?_getD, List.getElem?_take_of_lt (by omega)]
  have e2 : Pk.snd (k.take i) j = Pk.snd k j := by unfold Pk.snd; rw [List.getD_eq_getElem?_getD, List.getD_eq_getElem?_getD, List.getElem?_take_of_lt (by omega)]
  rw [e1, e2, hb.cell hbm, hb.cell hbm]
  exact hc j (by omega)
theorem newsP_drop {w w' : World} {b off m i : Nat} {k : List (Int × Int)} (hc : ∀ i, i < k.length → w.cell? ⟨b, off + i * 2, none⟩ = some (.int .i64 (Pk.fst k i)) ∧ w.cell? ⟨b, off + i * 2 + 1, none⟩ = some (.int .i64 (Pk.snd k i))) (hb : Below m w w') (hbm : b < m) : ∀ j u, (flat (k.drop i))[j]? = some u → w'.cell? ((⟨b, off + i * 2, none⟩ : Addr).add j) = some u := by
  refine news_flat (fun j hj => ?_)
  rw [List.length_drop] at hj
  have e1 : Pk.fst (k.drop i) j = Pk.fst k (i + j) := by unfold Pk.fst; rw [List.getD_eq_getElem?_getD, List.getD_eq_getElem?_getD, List.getElem?_drop]
  have e2 : Pk.snd (k.drop i) j = Pk.snd k (i + j) := by unfold Pk.snd; rw [List.getD_eq_getElem?_getD, List.getD_eq_getElem?_getD, List.getElem?_drop]
  have e3 : off + i * 2 + j * 2 = off + (i + j) * 2 := by omega
  rw [e1, e2, hb.cell hbm, hb.cell hbm, e3]
  exact hc (i + j) (by omega)
/-- A row of files of one's own. -/
def OwnP (B : Nat) (w : World) (v : Value) (l : List (Int × Int)) : Prop := w.ownsRow B 37 2 v l.length (flat l)
theorem OwnP.empty (w : World) : OwnP w.heap.size (w.alloc (.cells #[] 37)) (.slice (some ⟨w.heap.size, 0, none⟩) 0 0) [] :=
  ⟨rfl, .inr ⟨w.heap.size, 0, #[], rfl, Nat.le_refl _, heap_alloc_new w _, Nat.le_refl _, by unfold maxLen; omega, rfl, rfl⟩⟩
theorem OwnP.lt {B : Nat} {w : World} {v : Value} {l : List (Int × Int)} (h : OwnP B w v l) {g : Nat} (hg : v.ownBlock = some g) : B ≤ g ∧ g < w.heap.size := by
  rcases h.2 with ⟨rfl, _⟩ | ⟨g', cap', cur, rfl, hb, hgg, _⟩
  · cases hg
  · simp only [Value.ownBlock, Option.some.injEq] at hg
    subst hg
    exact ⟨hb, heap_lt hgg⟩
theorem lessP_own {B : Nat} {w : World} {v : Value} {k : List (Int × Int)} {i : Nat} (h : w.ownsRow B 37 2 v (0 + i) ([] ++ flat (k.take i))) (hi : i ≤ k.length) : OwnP B w v (k.take i) := by
  unfold OwnP
  rw [List.length_take, Nat.min_eq_left hi, ← Nat.zero_add i]
  simpa using h
theorem withoutP_own {B : Nat} {w : World} {v : Value} {k : List (Int × Int)} {i m : Nat} (h : w.ownsRow B 37 2 v ((k.take i).length + m) (flat (k.take i) ++ flat (k.drop (i + 1)))) (hm : m = (k.drop (i + 1)).length) : OwnP B w v (lessP k i) := by
  unfold OwnP lessP
  rw [List.length_append, flat_app, ← hm]
  exact h

/-- Two packages more, and the row that the second needs. -/
theorem three {w : World} {n : Nat} {nm vr : Int} {fv : Value} {fs : List (Int × Int)} (hn : w.heap.size = n) (hf : Prs w fv fs) (t u : TypeId) :
    Px (((w.alloc (.cells #[.int .i64 nm, .int .i64 vr, fv, .slice none 0 0] t)).alloc (.cells #[.int .i64 nm, .int .i64 vr, fv, .slice (some ⟨n + 1 + 1, 0, none⟩) 1 1] t)).alloc (.cells #[.int .i64 nm, .int .i64 1] u)) n nm vr fv (.slice none 0 0) fs [] ∧
    Px (((w.alloc (.cells #[.int .i64 nm, .int .i64 vr, fv, .slice none 0 0] t)).alloc (.cells #[.int .i64 nm, .int .i64 vr, fv, .slice (some ⟨n + 1 + 1, 0, none⟩) 1 1] t)).alloc (.cells #[.int .i64 nm, .int .i64 1] u)) (n + 1) nm vr fv (.slice (some ⟨n + 1 + 1, 0, none⟩) 1 1) fs [(nm, 1)] ∧
    Below w.heap.size w (((w.alloc (.cells #[.int .i64 nm, .int .i64 vr, fv, .slice none 0 0] t)).alloc (.cells #[.int .i64 nm, .int .i64 vr, fv, .slice (some ⟨n + 1 + 1, 0, none⟩) 1 1] t)).alloc (.cells #[.int .i64 nm, .int .i64 1] u)) := by
  subst hn
  have b1 := below1 w (.cells #[.int .i64 nm, .int .i64 vr, fv, .slice none 0 0] t)
  have e1 : (w.alloc (.cells #[.int .i64 nm, .int .i64 vr, fv, .slice none 0 0] t)).heap.size = w.heap.size + 1 := by simp
  have y1 := Px.new (w := w) (nm := nm) (vr := vr) hf (show Prs w (.slice none 0 0) [] from ⟨_, _, rfl, by simp, fun h => absurd h (by simp)⟩) t
  have f1 := hf.later b1
  generalize w.alloc _ = w1 at *
  have b2 := below1 w1 (.cells #[.int .i64 nm, .int .i64 vr, fv, .slice (some ⟨w.heap.size + 1 + 1, 0, none⟩) 1 1] t)
  have h2 := heap_alloc_new w1 (.cells #[.int .i64 nm, .int .i64 vr, fv, .slice (some ⟨w.heap.size + 1 + 1, 0, none⟩) 1 1] t)
  have e2 : (w1.alloc (.cells #[.int .i64 nm, .int .i64 vr, fv, .slice (some ⟨w.heap.size + 1 + 1, 0, none⟩) 1 1] t)).heap.size = w.heap.size + 1 + 1 := by simp [e1]
  have y2 := y1.later b2
  have f2 := f1.later b2
  have b12 := b1.trans (b2.mono b1.size)
  rw [e1] at h2
  generalize w1.alloc _ = w2 at *
  have b3 := below1 w2 (.cells #[.int .i64 nm, .int .i64 1] u)
  have h3 := heap_alloc_new w2 (.cells #[.int .i64 nm, .int .i64 1] u)
  rw [e2] at h3
  have y3 := y2.later b3
  have f3 := f2.later b3
  have k2 := (b3.block _ (heap_lt h2)).trans h2
  have b13 := b12.trans (b3.mono b12.size)
  generalize w2.alloc _ = w3 at *
  refine ⟨y3, ⟨⟨t, k2⟩, f3, ⟨_, _, rfl, by simp, fun _ => ⟨_, _, rfl, heap_lt h3, fun i hi => ?_⟩⟩⟩, b13⟩
  obtain rfl : i = 0 := by simpa using hi
  exact ⟨cell_of h3 0, cell_of h3 1⟩

set_option maxHeartbeats 4000000 in
set_option maxRecDepth 100000 in
set_option linter.unusedSimpArgs false in
theorem pkgLess_walk (a0 a1 : Option Addr) (len cap len1 cap1 : Nat) (w : World) (h : Bytes w a0 len cap) (_h1 : Bytes w a1 len1 cap1) :
    Calls Try.prog 3 #[.slice a0 len cap, .slice a1 len1 cap1] w fun e w' => e = .returned (.bool true) ∧ Below w.heap.size w w' := by
  obtain ⟨i0, hi0, hz0, hz1, hz2⟩ := info_parts infoFile
  by_cases hs : len ≤ 1048576
  case neg =>
    have hs' : (1048576 : Int) < (len : Int) := by omega
    go_enter Try.func3, Try.ntmps3
    go_wp2
    go_ret
    exact ⟨rfl, Below.refl _ _⟩
  by_cases ht : len1 ≤ 1048576
  case neg =>
    have hs' : (len : Int) ≤ 1048576 := by omega
    have ht' : (1048576 : Int) < (len1 : Int) := by omega
    go_enter Try.func3, Try.ntmps3
    go_wp2
    go_ret
    exact ⟨rfl, Below.refl _ _⟩
  have hs' : (len : Int) ≤ 1048576 := by omega
  have ht' : (len1 : Int) ≤ 1048576 := by omega
  go_enter Try.func3, Try.ntmps3
  go_wp2_with fail
  refine (drawPkgOk_any w a0 len cap h).mono ?_
  rintro e w1 ⟨nm, vr, fv, dv, k, ds, rfl, hl, hdl, hcap, ik, idp, b1⟩
  obtain ⟨ak, ck, hv, hc1, hc2⟩ := hcap
  obtain ⟨da, dc, hdv⟩ := idp.slice
  subst hv hdv
  have X2 := hide (Px.new (nm := nm) (vr := vr) ik idp 26)
  have b2 := below1 w1 (.cells #[.int .i64 nm, .int .i64 vr, .slice ak k.length ck, .slice da ds.length dc] 26)
  have B2 := hide (b1.trans (b2.mono b1.size))
  clear ik idp b1 b2 h _h1
  go_wp2_with fail
  refine (implPkgOk_b _ nm vr _ _ k ds rfl (unhide X2).pf (unhide X2).pd).mono ?_
  generalize w1.alloc _ = W2 at *
  rintro e w3 ⟨rfl, b3⟩
  have X3 := hide ((unhide X2).later b3)
  have B3 := hide ((unhide B2).trans (b3.mono (unhide B2).size))
  clear X2 B2 b3
  clear W2
  generalize w1.heap.size = g at *
  obtain ⟨p0, p1, p2, p3⟩ := (unhide X3).cells
  go_wp2_with fail
  refine (specPkgOk_b _ nm vr _ _ k ds rfl (unhide X3).pf (unhide X3).pd).mono ?_
  rintro e w4 ⟨rfl, b4⟩
  have X4 := hide ((unhide X3).later b4)
  have B4 := hide ((unhide B3).trans (b4.mono (unhide B3).size))
  clear X3 B3 b4 p0 p1 p2 p3
  obtain ⟨p0, p1, p2, p3⟩ := (unhide X4).cells
  cases hA : Pk.pkgOk nm vr k ds
  · go_wp2_with fail
    refine (specPkgOk_b _ nm vr _ _ k ds hA (unhide X4).pf (unhide X4).pd).mono ?_
    rintro e w5 ⟨rfl, b5⟩
    have B5 := hide ((unhide B4).trans (b5.mono (unhide B4).size))
    clear X4 B4 b5 p0 p1 p2 p3
    go_wp2
    go_ret
    exact ⟨rfl, unhide B5⟩
  have l0 : g < w4.heap.size := (unhide X4).lt
  have hgx : g < w4.heap.size := l0
  have hb4 := (unhide B4).size
  have x5 := heap_alloc_new w4 (.cells #[.int .i64 nm, .int .i64 vr, .slice ak k.length ck, .slice da ds.length dc] 26)
  have b5 := below1 w4 (.cells #[.int .i64 nm, .int .i64 vr, .slice ak k.length ck, .slice da ds.length dc] 26)
  have H4 := hide (fun (w' : World) (hb : Below w4.heap.size w4 w') => (unhide X4).later hb)
  have X5 := hide ((unhide X4).later b5)
  have HX5 := hide x5
  have G5 := hide b5
  have E2 := hide (pkg_none hA)
  have E3 := hide (pkg_self nm vr k)
  clear b5 x5
  by_cases hkl : k.length = 0
  · have hkz : ¬ (0 : Int) < (k.length : Int) := by omega
    have Y5 := hide (Px.mk ⟨_, unhide HX5⟩ (unhide X5).pf (unhide X5).pd)
    have E1 := hide hA
    have HKL := hide hkl
    clear hkl
    have lx5 := heap_lt (unhide HX5)
    have n0 : (((w4.alloc (.cells #[.int .i64 nm, .int .i64 vr, .slice ak k.length ck, .slice da ds.length dc] 26)).alloc (.cells #[.int .i64 nm, .int .i64 vr, .slice ak k.length ck, .slice none 0 0] 26)).alloc (.cells #[.int .i64 nm, .int .i64 vr, .slice ak k.length ck, .slice da ds.length dc] 26)).cell? ⟨g, 0, none⟩ = some (.int .i64 nm) := (((unhide X5).later (below1 _ _)).later (below1 _ _)).cells.1
    have T9 := hide (three (nm := nm) (vr := vr) (w := w4.alloc (.cells #[.int .i64 nm, .int .i64 vr, .slice ak k.length ck, .slice da ds.length dc] 26)) (n := w4.heap.size + 1) (by simp) (unhide X5).pf 26 30)
    have Y9 := hide ((unhide Y5).later (unhide T9).2.2)
    have G9 := hide ((unhide G5).trans ((unhide T9).2.2.mono (Nat.le_of_lt lx5)))
    have U9 := hide (unhide T9).1
    have Z9 := hide (unhide T9).2.1
    clear T9
    obtain ⟨y0, y1, y2, y3⟩ := (unhide Y9).cells
    go_wp2_with fail
    refine (implPkgOk_b _ nm vr _ _ k ds (unhide E1) (unhide Y9).pf (unhide Y9).pd).mono ?_
    generalize (((w4.alloc _).alloc _).alloc _).alloc _ = W9 at *
    rintro e wA ⟨rfl, bA⟩
    have UA := hide ((unhide U9).later bA)
    have ZA := hide ((unhide Z9).later bA)
    have YA := hide ((unhide Y9).later bA)
    have GA := hide ((unhide G9).trans (bA.mono (Nat.le_of_lt (unhide Y9).lt)))
    clear U9 Z9 Y9 G9 bA y0 y1 y2 y3 p0 p1 p2 p3 n0
    generalize w4.heap.size + 1 = gy at *
    obtain ⟨u0, u1, u2, u3⟩ := (unhide UA).cells
    go_wp2_with fail
    refine (implPkgOk_b _ nm vr _ _ k [] (unhide E2) (unhide UA).pf (unhide UA).pd).mono ?_
    rintro e wB ⟨rfl, bB⟩
    have ZB := hide ((unhide ZA).later bB)
    have YB := hide ((unhide YA).later bB)
    have GB := hide ((unhide GA).trans (bB.mono (Nat.le_of_lt (unhide YA).lt)))
    clear UA ZA YA GA bB u0 u1 u2 u3
    obtain ⟨u0, u1, u2, u3⟩ := (unhide ZB).cells
    go_wp2_with fail
    refine (implPkgOk_b _ nm vr _ _ k [(nm, 1)] (unhide E3) (unhide ZB).pf (unhide ZB).pd).mono ?_
    rintro e wC ⟨rfl, bC⟩
    have GC := hide ((unhide GB).trans (bC.mono (Nat.le_of_lt (unhide YB).lt)))
    clear ZB YB GB bC u0 u1 u2 u3
    go_wp2
    go_ret
    exact ⟨rfl, (unhide B4).trans ((unhide GC).mono hb4)⟩
  · obtain ⟨bk, ok, hak, hbk, hcells⟩ := (unhide X4).pf.spotL (by omega)
    subst hak
    have HC := hide hcells
    clear hcells
    obtain ⟨i, hi, hrem⟩ : ∃ i : Nat, i < k.length ∧ (len1 : Int) % (k.length : Int) = (i : Int) := ⟨len1 % k.length, Nat.mod_lt _ (by omega), by simp⟩
    have hkz : ((k.length : Int) == 0) = false := by rw [beq_eq_false_iff_ne]; omega
    have hkz' : ¬ (k.length : Int) = 0 := by omega
    have hkp : (0 : Int) < (k.length : Int) := by omega
    have hi0' : (0 : Int) ≤ (i : Int) := by omega
    have hi1 : (i : Int) ≤ (ck : Int) := by omega
    have hi2 : (0 : Int) ≤ (i : Int) + 1 := by omega
    have hi3 : (i : Int) + 1 ≤ (k.length : Int) := by omega
    have hck : ¬ ck = 0 := by omega
    have ew : IntKind.i64.wrap ((i : Int) + 1) = (i : Int) + 1 := by simp [IntKind.wrap, IntKind.bits, IntKind.signed]; omega
    have et : ((i : Int) + 1).toNat = i + 1 := by omega
    by_cases hce : ck = i + 1
    · have HCE := hide hce
      clear hce
      go_wp2_with fail
      simp only [hrem]
      clear hrem hkz hkz' hkp
      clear X4 p0 p1 p2 p3 HC l0
      generalize w4.alloc _ = W5 at *
      generalize w4.heap.size = gx at *
      obtain ⟨p0, p1, p2, p3⟩ := (unhide X5).cells
      have lx := heap_lt (unhide HX5)
      obtain ⟨_, _, hab, hbk5, hc5⟩ := (unhide X5).pf.spotL (by omega)
      injection hab with hab
      injection hab with hab1 hab2 _
      subst hab1 hab2
      have HC5 := hide hc5
      clear hc5
      refine wp_region_held_drew (S := (fun w' => w'.cell? ⟨g, 0, none⟩ = some (.int .i64 nm) ∧ w'.cell? ⟨g, 1, none⟩ = some (.int .i64 vr) ∧ w'.cell? ⟨g, 2, none⟩ = some (.slice (some ⟨bk, ok, none⟩) k.length ck) ∧ w'.cell? ⟨g, 3, none⟩ = some (.slice da ds.length dc))) (by kernel_rfl) ?_ (fun hHeld => ?_)
      · exact ⟨p0, p1, p2, p3⟩
      refine anyH_at (i := 1) (d := some 47) rfl rfl (by kernel_rfl) (by kernel_rfl) (by kernel_rfl) (fun _ _ _ h => h) (by rfl) (v := ?_) ?_ (by assumption) ?_
      rotate_left
      · (intro w hSw; (try dsimp only at hSw); go_simp <;> with_reducible rfl)
      simp only [Act.put, List.setIfInBounds_toArray, List.set_cons_zero, List.set_cons_succ]
      refine anyH_at (i := 2) (d := some 48) rfl rfl (by kernel_rfl) (by kernel_rfl) (by kernel_rfl) (fun _ _ _ h => h) (by rfl) (v := ?_) ?_ (by assumption) ?_
      rotate_left
      · (intro w hSw; (try dsimp only at hSw); go_simp <;> with_reducible rfl)
      simp only [Act.put, List.setIfInBounds_toArray, List.set_cons_zero, List.set_cons_succ]
      refine anyH_at (i := 3) (d := some 49) rfl rfl (by kernel_rfl) (by kernel_rfl) (by kernel_rfl) (fun _ _ _ h => h) (by rfl) (v := ?_) ?_ (by assumption) ?_
      rotate_left
      · (intro w hSw; (try dsimp only at hSw); go_simp <;> with_reducible rfl)
      simp only [Act.put, List.setIfInBounds_toArray, List.set_cons_zero, List.set_cons_succ]
      refine anyH_at (i := 4) (d := some 50) rfl rfl (by kernel_rfl) (by kernel_rfl) (by kernel_rfl) (fun _ _ _ h => h) (by rfl) (v := ?_) ?_ (by assumption) ?_
      rotate_left
      · (intro w hSw; (try dsimp only at hSw); go_simp <;> with_reducible rfl)
      simp only [Act.put, List.setIfInBounds_toArray, List.set_cons_zero, List.set_cons_succ]
      refine anyH_at (i := 6) (d := some 52) rfl rfl (by kernel_rfl) (by kernel_rfl) (by kernel_rfl) (fun _ _ _ h => h) (by rfl) (v := ?_) ?_ (by assumption) ?_
      rotate_left
      · (intro w hSw; (try dsimp only at hSw); go_simp <;> with_reducible rfl)
      simp only [Act.put, List.setIfInBounds_toArray, List.set_cons_zero, List.set_cons_succ]
      refine anyH_at (i := 7) (d := some 53) rfl rfl (by kernel_rfl) (by kernel_rfl) (by kernel_rfl) (fun _ _ _ h => h) (by rfl) (v := ?_) ?_ (by assumption) ?_
      rotate_left
      · (intro w hSw; (try dsimp only at hSw); go_simp <;> with_reducible rfl)
      simp only [Act.put, List.setIfInBounds_toArray, List.set_cons_zero, List.set_cons_succ]
      refine anyH_at (i := 8) (d := some 54) rfl rfl (by kernel_rfl) (by kernel_rfl) (by kernel_rfl) (fun _ _ _ h => h) (by rfl) (v := ?_) ?_ (by assumption) ?_
      rotate_left
      · (intro w hSw; (try dsimp only at hSw); go_simp <;> with_reducible rfl)
      simp only [Act.put, List.setIfInBounds_toArray, List.set_cons_zero, List.set_cons_succ]
      refine anyH_at (i := 9) (d := some 55) rfl rfl (by kernel_rfl) (by kernel_rfl) (by kernel_rfl) (fun _ _ _ h => h) (by rfl) (v := ?_) ?_ (by assumption) ?_
      rotate_left
      · (intro w hSw; (try dsimp only at hSw); go_simp <;> with_reducible rfl)
      simp only [Act.put, List.setIfInBounds_toArray, List.set_cons_zero, List.set_cons_succ]
      refine anyH_at (i := 10) (d := some 56) rfl rfl (by kernel_rfl) (by kernel_rfl) (by kernel_rfl) (fun _ _ _ h => h) (by rfl) (v := ?_) ?_ (by assumption) ?_
      rotate_left
      · (intro w hSw; (try dsimp only at hSw); have hce := unhide HCE; go_simp <;> with_reducible rfl)
      simp only [Act.put, List.setIfInBounds_toArray, List.set_cons_zero, List.set_cons_succ]
      refine wpAnyH_ready (rs := [0]) (by kernel_rfl) (by simp) ?_
      refine AllReadyH.cons rfl (fun K hK => ?_) AllReadyH.nil
      go_simp
      refine hK.out _ _ ?_ (fun hHeldN => ?_)
      · exact ((unhide X5).later (below1 W5 (.cells #[] 37))).drew.cells
      clear hHeld
      have hHeld := hHeldN
      clear hHeldN
      clear hK K
      try simp only [Act.put, List.setIfInBounds_toArray, List.set_cons_zero, List.set_cons_succ]
      refine wpAnyH_ready (rs := [5]) (by kernel_rfl) (by simp) ?_
      refine AllReadyH.cons rfl (fun K hK => ?_) AllReadyH.nil
      rw [if_pos (by rfl)]
      have b6 := (below1 W5 (.cells #[] 37)).drew
      refine wp_append_own _ _ _ 23 rfl W5.heap.size 37 i0 _ 2 16 Try.underlying23 hi0 hz0 hz1 hz2 rfl (by decide) _ 0 [] rfl (World.ownsRow.drew (OwnP.empty W5)) ⟨bk, ok, none⟩ i ck (flat (k.take i)) rfl (by rw [flat_len, List.length_take]; omega) (newsP_take (unhide HC5) (by omega) b6 hbk5) (oneCell_flat _) (by unfold maxLen; omega) (by omega) (by simp) ?_
      intro v6 w6 hown6 hgrow6 hnil6
      clear hnil6
      have O6 := hide (lessP_own hown6 (by omega))
      have G6 := hide (b6.grown hgrow6 (by simp) (fun j hj => ((OwnP.empty W5).lt hj).1))
      have s6 := (unhide G6).size
      have X6 := hide ((unhide X5).later (unhide G6))
      clear hown6 hgrow6 b6
      change K (Act.put _ (some 51) _) _
      refine hK.out _ _ ?_ (fun hHeldN => ?_)
      · exact (unhide X6).cells
      clear hHeld
      have hHeld := hHeldN
      clear hHeldN
      clear hK K
      try simp only [Act.put, List.setIfInBounds_toArray, List.set_cons_zero, List.set_cons_succ]
      refine wpAnyH_ready (rs := [11]) (by kernel_rfl) (by simp) ?_
      refine AllReadyH.cons rfl (fun K hK => ?_) AllReadyH.nil
      rw [if_pos (by rfl)]
      refine wp_append_own _ _ _ 23 rfl W5.heap.size 37 i0 _ 2 16 Try.underlying23 hi0 hz0 hz1 hz2 rfl (by decide) _ (k.take i).length (flat (k.take i)) rfl (unhide O6) ⟨bk, ok, none⟩ _ _ (flat (k.drop (i + 1))) rfl (by have hce := unhide HCE; rw [flat_len, List.length_drop] <;> omega) (fun j u hu => by have hce := unhide HCE; rw [List.getElem?_eq_none (by rw [flat_len, List.length_drop]; omega)] at hu; cases hu) (oneCell_flat _) (by have hce := unhide HCE; rw [List.length_take]; unfold maxLen; omega) (by have hce := unhide HCE; rw [List.length_take]; omega) (by omega) ?_
      intro v7 w7 hown7 hgrow7 hnil7
      clear hnil7
      have O7 := hide (withoutP_own hown7 (by have hce := unhide HCE; rw [List.length_drop] <;> omega))
      have G7 := hide ((unhide G6).grown hgrow7 s6 (fun j hj => ((unhide O6).lt hj).1))
      have X7 := hide ((unhide X5).later (unhide G7))
      have HX7 := hide (((unhide G7).block _ lx).trans (unhide HX5))
      clear hown7 hgrow7 O6
      change K (Act.put _ (some 57) _) _
      refine hK.out _ _ ?_ (fun hHeldN => ?_)
      · exact (unhide X7).cells
      have y2 : w7.cell? ⟨gx, 2, none⟩ = _ := cell_of (unhide HX7) 2
      have f2 := frozen_of (unhide HX7) 2
      obtain ⟨a7, c7, hv7⟩ := own_form (unhide O7)
      subst hv7
      have ngx : ¬ gx = g := by omega
      clear hHeld
      have hHeld := hHeldN
      clear hHeldN
      clear hK K
      try simp only [Act.put, List.setIfInBounds_toArray, List.set_cons_zero, List.set_cons_succ]
      refine anyH_at (i := 12) (d := some 58) rfl rfl (by kernel_rfl) (by kernel_rfl) (by kernel_rfl) (fun _ _ _ h => h) (by rfl) (v := ?_) ?_ (by assumption) ?_
      rotate_left
      · (intro w hSw; (try dsimp only at hSw); go_simp <;> with_reducible rfl)
      simp only [Act.put, List.setIfInBounds_toArray, List.set_cons_zero, List.set_cons_succ]
      refine wpAnyH_ready (rs := [13]) (by kernel_rfl) (by simp) ?_
      refine AllReadyH.cons rfl (fun K hK => ?_) AllReadyH.nil
      go_simp
      refine hK.out _ _ ?_ (fun hHeldN => ?_)
      · exact ⟨(World.cell?_setCell_other _ _ _ _ (fun e => ngx (by injection e with e _ _))).trans (unhide X7).cells.1, (World.cell?_setCell_other _ _ _ _ (fun e => ngx (by injection e with e _ _))).trans (unhide X7).cells.2.1, (World.cell?_setCell_other _ _ _ _ (fun e => ngx (by injection e with e _ _))).trans (unhide X7).cells.2.2.1, (World.cell?_setCell_other _ _ _ _ (fun e => ngx (by injection e with e _ _))).trans (unhide X7).cells.2.2.2⟩
      clear hHeld
      have hHeld := hHeldN
      clear hHeldN
      clear hK K
      try simp only [Act.put, List.setIfInBounds_toArray, List.set_cons_zero, List.set_cons_succ]
      refine wpAnyH_done (by kernel_rfl) ?_ _
      clear hHeld
      have hX8 : (w7.setCell ⟨gx, 2, none⟩ (.slice a7 (lessP k i).length c7)).heap[gx]? = some (.cells #[.int .i64 nm, .int .i64 vr, .slice a7 (lessP k i).length c7, .slice da ds.length dc] 26 (0, 0)) := heap_set (unhide HX7)
      have O8 : OwnP W5.heap.size (w7.setCell ⟨gx, 2, none⟩ (.slice a7 (lessP k i).length c7)) (.slice a7 (lessP k i).length c7) (lessP k i) := own_keep (unhide O7) (fun j _ _ hj _ => Below.heap_setCell _ _ _ _ (by show j ≠ gx; omega))
      have G8 := hide (((unhide G5).trans ((unhide G7).mono (Nat.le_of_lt lx))).setCell (p := ⟨gx, 2, none⟩) (Nat.le_refl _) (.slice a7 (lessP k i).length c7))
      have wl : (lessP k i).length ≤ 4 := by unfold lessP; rw [List.length_append, List.length_take, List.length_drop]; omega
      have D8 := hide ((unhide H4 _ (unhide G8)).pd)
      have Y8 := hide (Px.mk ⟨_, hX8⟩ (Prs.own O8 (by omega)) (unhide D8))
      have E1 := hide (pkg_less hA hi)
      clear hX8 O8 D8 O7 G7 HX7 X7 y2 f2 X5 X6 G6 G5 HX5 HC5 p0 p1 p2 p3
      generalize w7.setCell _ _ = w8 at *
      have X8 := hide ((unhide H4) _ (unhide G8))
      obtain ⟨p0, p1, p2, p3⟩ := (unhide X8).cells
      have l8 := (unhide X8).lt
      have ly8 := (unhide Y8).lt
      have T9 := hide (three (nm := nm) (vr := vr) (w := w8) rfl (unhide X8).pf 26 30)
      have Y9 := hide ((unhide Y8).later (unhide T9).2.2)
      have G9 := hide ((unhide G8).trans ((unhide T9).2.2.mono (Nat.le_of_lt ly8)))
      have U9 := hide (unhide T9).1
      have Z9 := hide (unhide T9).2.1
      clear T9
      obtain ⟨y0, y1, y2, y3⟩ := (unhide Y9).cells
      go_wp2_with fail
      refine (implPkgOk_b _ nm vr _ _ (lessP k i) ds (unhide E1) (unhide Y9).pf (unhide Y9).pd).mono ?_
      generalize ((w8.alloc _).alloc _).alloc _ = W9 at *
      rintro e wA ⟨rfl, bA⟩
      have UA := hide ((unhide U9).later bA)
      have ZA := hide ((unhide Z9).later bA)
      have YA := hide ((unhide Y9).later bA)
      have GA := hide ((unhide G9).trans (bA.mono (Nat.le_of_lt (unhide Y9).lt)))
      clear U9 Z9 Y9 G9 bA y0 y1 y2 y3 p0 p1 p2 p3
      generalize w8.heap.size = gy at *
      obtain ⟨u0, u1, u2, u3⟩ := (unhide UA).cells
      go_wp2_with fail
      refine (implPkgOk_b _ nm vr _ _ k [] (unhide E2) (unhide UA).pf (unhide UA).pd).mono ?_
      rintro e wB ⟨rfl, bB⟩
      have ZB := hide ((unhide ZA).later bB)
      have YB := hide ((unhide YA).later bB)
      have GB := hide ((unhide GA).trans (bB.mono (Nat.le_of_lt (unhide YA).lt)))
      clear UA ZA YA GA bB u0 u1 u2 u3
      obtain ⟨u0, u1, u2, u3⟩ := (unhide ZB).cells
      go_wp2_with fail
      refine (implPkgOk_b _ nm vr _ _ k [(nm, 1)] (unhide E3) (unhide ZB).pf (unhide ZB).pd).mono ?_
      rintro e wC ⟨rfl, bC⟩
      have GC := hide ((unhide GB).trans (bC.mono (Nat.le_of_lt (unhide YB).lt)))
      clear ZB YB GB bC u0 u1 u2 u3
      go_wp2
      go_ret
      exact ⟨rfl, (unhide B4).trans ((unhide GC).mono hb4)⟩
    · have hce' : ¬ ck = i + 1 := hce
      go_wp2_with fail
      simp only [hrem]
      clear hrem hkz hkz' hkp
      clear X4 p0 p1 p2 p3 HC l0
      generalize w4.alloc _ = W5 at *
      generalize w4.heap.size = gx at *
      obtain ⟨p0, p1, p2, p3⟩ := (unhide X5).cells
      have lx := heap_lt (unhide HX5)
      obtain ⟨_, _, hab, hbk5, hc5⟩ := (unhide X5).pf.spotL (by omega)
      injection hab with hab
      injection hab with hab1 hab2 _
      subst hab1 hab2
      have HC5 := hide hc5
      clear hc5
      refine wp_region_held_drew (S := (fun w' => w'.cell? ⟨g, 0, none⟩ = some (.int .i64 nm) ∧ w'.cell? ⟨g, 1, none⟩ = some (.int .i64 vr) ∧ w'.cell? ⟨g, 2, none⟩ = some (.slice (some ⟨bk, ok, none⟩) k.length ck) ∧ w'.cell? ⟨g, 3, none⟩ = some (.slice da ds.length dc))) (by kernel_rfl) ?_ (fun hHeld => ?_)
      · exact ⟨p0, p1, p2, p3⟩
      refine anyH_at (i := 1) (d := some 47) rfl rfl (by kernel_rfl) (by kernel_rfl) (by kernel_rfl) (fun _ _ _ h => h) (by rfl) (v := ?_) ?_ (by assumption) ?_
      rotate_left
      · (intro w hSw; (try dsimp only at hSw); go_simp <;> with_reducible rfl)
      simp only [Act.put, List.setIfInBounds_toArray, List.set_cons_zero, List.set_cons_succ]
      refine anyH_at (i := 2) (d := some 48) rfl rfl (by kernel_rfl) (by kernel_rfl) (by kernel_rfl) (fun _ _ _ h => h) (by rfl) (v := ?_) ?_ (by assumption) ?_
      rotate_left
      · (intro w hSw; (try dsimp only at hSw); go_simp <;> with_reducible rfl)
      simp only [Act.put, List.setIfInBounds_toArray, List.set_cons_zero, List.set_cons_succ]
      refine anyH_at (i := 3) (d := some 49) rfl rfl (by kernel_rfl) (by kernel_rfl) (by kernel_rfl) (fun _ _ _ h => h) (by rfl) (v := ?_) ?_ (by assumption) ?_
      rotate_left
      · (intro w hSw; (try dsimp only at hSw); go_simp <;> with_reducible rfl)
      simp only [Act.put, List.setIfInBounds_toArray, List.set_cons_zero, List.set_cons_succ]
      refine anyH_at (i := 4) (d := some 50) rfl rfl (by kernel_rfl) (by kernel_rfl) (by kernel_rfl) (fun _ _ _ h => h) (by rfl) (v := ?_) ?_ (by assumption) ?_
      rotate_left
      · (intro w hSw; (try dsimp only at hSw); go_simp <;> with_reducible rfl)
      simp only [Act.put, List.setIfInBounds_toArray, List.set_cons_zero, List.set_cons_succ]
      refine anyH_at (i := 6) (d := some 52) rfl rfl (by kernel_rfl) (by kernel_rfl) (by kernel_rfl) (fun _ _ _ h => h) (by rfl) (v := ?_) ?_ (by assumption) ?_
      rotate_left
      · (intro w hSw; (try dsimp only at hSw); go_simp <;> with_reducible rfl)
      simp only [Act.put, List.setIfInBounds_toArray, List.set_cons_zero, List.set_cons_succ]
      refine anyH_at (i := 7) (d := some 53) rfl rfl (by kernel_rfl) (by kernel_rfl) (by kernel_rfl) (fun _ _ _ h => h) (by rfl) (v := ?_) ?_ (by assumption) ?_
      rotate_left
      · (intro w hSw; (try dsimp only at hSw); go_simp <;> with_reducible rfl)
      simp only [Act.put, List.setIfInBounds_toArray, List.set_cons_zero, List.set_cons_succ]
      refine anyH_at (i := 8) (d := some 54) rfl rfl (by kernel_rfl) (by kernel_rfl) (by kernel_rfl) (fun _ _ _ h => h) (by rfl) (v := ?_) ?_ (by assumption) ?_
      rotate_left
      · (intro w hSw; (try dsimp only at hSw); go_simp <;> with_reducible rfl)
      simp only [Act.put, List.setIfInBounds_toArray, List.set_cons_zero, List.set_cons_succ]
      refine anyH_at (i := 9) (d := some 55) rfl rfl (by kernel_rfl) (by kernel_rfl) (by kernel_rfl) (fun _ _ _ h => h) (by rfl) (v := ?_) ?_ (by assumption) ?_
      rotate_left
      · (intro w hSw; (try dsimp only at hSw); go_simp <;> with_reducible rfl)
      simp only [Act.put, List.setIfInBounds_toArray, List.set_cons_zero, List.set_cons_succ]
      refine anyH_at (i := 10) (d := some 56) rfl rfl (by kernel_rfl) (by kernel_rfl) (by kernel_rfl) (fun _ _ _ h => h) (by rfl) (v := ?_) ?_ (by assumption) ?_
      rotate_left
      · (intro w hSw; (try dsimp only at hSw); go_simp <;> with_reducible rfl)
      simp only [Act.put, List.setIfInBounds_toArray, List.set_cons_zero, List.set_cons_succ]
      refine wpAnyH_ready (rs := [0]) (by kernel_rfl) (by simp) ?_
      refine AllReadyH.cons rfl (fun K hK => ?_) AllReadyH.nil
      go_simp
      refine hK.out _ _ ?_ (fun hHeldN => ?_)
      · exact ((unhide X5).later (below1 W5 (.cells #[] 37))).drew.cells
      clear hHeld
      have hHeld := hHeldN
      clear hHeldN
      clear hK K
      try simp only [Act.put, List.setIfInBounds_toArray, List.set_cons_zero, List.set_cons_succ]
      refine wpAnyH_ready (rs := [5]) (by kernel_rfl) (by simp) ?_
      refine AllReadyH.cons rfl (fun K hK => ?_) AllReadyH.nil
      rw [if_pos (by rfl)]
      have b6 := (below1 W5 (.cells #[] 37)).drew
      refine wp_append_own _ _ _ 23 rfl W5.heap.size 37 i0 _ 2 16 Try.underlying23 hi0 hz0 hz1 hz2 rfl (by decide) _ 0 [] rfl (World.ownsRow.drew (OwnP.empty W5)) ⟨bk, ok, none⟩ i ck (flat (k.take i)) rfl (by rw [flat_len, List.length_take]; omega) (newsP_take (unhide HC5) (by omega) b6 hbk5) (oneCell_flat _) (by unfold maxLen; omega) (by omega) (by simp) ?_
      intro v6 w6 hown6 hgrow6 hnil6
      clear hnil6
      have O6 := hide (lessP_own hown6 (by omega))
      have G6 := hide (b6.grown hgrow6 (by simp) (fun j hj => ((OwnP.empty W5).lt hj).1))
      have s6 := (unhide G6).size
      have X6 := hide ((unhide X5).later (unhide G6))
      clear hown6 hgrow6 b6
      change K (Act.put _ (some 51) _) _
      refine hK.out _ _ ?_ (fun hHeldN => ?_)
      · exact (unhide X6).cells
      clear hHeld
      have hHeld := hHeldN
      clear hHeldN
      clear hK K
      try simp only [Act.put, List.setIfInBounds_toArray, List.set_cons_zero, List.set_cons_succ]
      refine wpAnyH_ready (rs := [11]) (by kernel_rfl) (by simp) ?_
      refine AllReadyH.cons rfl (fun K hK => ?_) AllReadyH.nil
      rw [if_pos (by rfl)]
      refine wp_append_own _ _ _ 23 rfl W5.heap.size 37 i0 _ 2 16 Try.underlying23 hi0 hz0 hz1 hz2 rfl (by decide) _ (k.take i).length (flat (k.take i)) rfl (unhide O6) ⟨bk, ok + (i + 1) * 2, none⟩ _ _ (flat (k.drop (i + 1))) rfl (by rw [flat_len, List.length_drop] <;> omega) (newsP_drop (unhide HC5) (unhide G6) hbk5) (oneCell_flat _) (by rw [List.length_take]; unfold maxLen; omega) (by rw [List.length_take]; omega) (by omega) ?_
      intro v7 w7 hown7 hgrow7 hnil7
      clear hnil7
      have O7 := hide (withoutP_own hown7 (by rw [List.length_drop] <;> omega))
      have G7 := hide ((unhide G6).grown hgrow7 s6 (fun j hj => ((unhide O6).lt hj).1))
      have X7 := hide ((unhide X5).later (unhide G7))
      have HX7 := hide (((unhide G7).block _ lx).trans (unhide HX5))
      clear hown7 hgrow7 O6
      change K (Act.put _ (some 57) _) _
      refine hK.out _ _ ?_ (fun hHeldN => ?_)
      · exact (unhide X7).cells
      have y2 : w7.cell? ⟨gx, 2, none⟩ = _ := cell_of (unhide HX7) 2
      have f2 := frozen_of (unhide HX7) 2
      obtain ⟨a7, c7, hv7⟩ := own_form (unhide O7)
      subst hv7
      have ngx : ¬ gx = g := by omega
      clear hHeld
      have hHeld := hHeldN
      clear hHeldN
      clear hK K
      try simp only [Act.put, List.setIfInBounds_toArray, List.set_cons_zero, List.set_cons_succ]
      refine anyH_at (i := 12) (d := some 58) rfl rfl (by kernel_rfl) (by kernel_rfl) (by kernel_rfl) (fun _ _ _ h => h) (by rfl) (v := ?_) ?_ (by assumption) ?_
      rotate_left
      · (intro w hSw; (try dsimp only at hSw); go_simp <;> with_reducible rfl)
      simp only [Act.put, List.setIfInBounds_toArray, List.set_cons_zero, List.set_cons_succ]
      refine wpAnyH_ready (rs := [13]) (by kernel_rfl) (by simp) ?_
      refine AllReadyH.cons rfl (fun K hK => ?_) AllReadyH.nil
      go_simp
      refine hK.out _ _ ?_ (fun hHeldN => ?_)
      · exact ⟨(World.cell?_setCell_other _ _ _ _ (fun e => ngx (by injection e with e _ _))).trans (unhide X7).cells.1, (World.cell?_setCell_other _ _ _ _ (fun e => ngx (by injection e with e _ _))).trans (unhide X7).cells.2.1, (World.cell?_setCell_other _ _ _ _ (fun e => ngx (by injection e with e _ _))).trans (unhide X7).cells.2.2.1, (World.cell?_setCell_other _ _ _ _ (fun e => ngx (by injection e with e _ _))).trans (unhide X7).cells.2.2.2⟩
      clear hHeld
      have hHeld := hHeldN
      clear hHeldN
      clear hK K
      try simp only [Act.put, List.setIfInBounds_toArray, List.set_cons_zero, List.set_cons_succ]
      refine wpAnyH_done (by kernel_rfl) ?_ _
      clear hHeld
      have hX8 : (w7.setCell ⟨gx, 2, none⟩ (.slice a7 (lessP k i).length c7)).heap[gx]? = some (.cells #[.int .i64 nm, .int .i64 vr, .slice a7 (lessP k i).length c7, .slice da ds.length dc] 26 (0, 0)) := heap_set (unhide HX7)
      have O8 : OwnP W5.heap.size (w7.setCell ⟨gx, 2, none⟩ (.slice a7 (lessP k i).length c7)) (.slice a7 (lessP k i).length c7) (lessP k i) := own_keep (unhide O7) (fun j _ _ hj _ => Below.heap_setCell _ _ _ _ (by show j ≠ gx; omega))
      have G8 := hide (((unhide G5).trans ((unhide G7).mono (Nat.le_of_lt lx))).setCell (p := ⟨gx, 2, none⟩) (Nat.le_refl _) (.slice a7 (lessP k i).length c7))
      have wl : (lessP k i).length ≤ 4 := by unfold lessP; rw [List.length_append, List.length_take, List.length_drop]; omega
      have D8 := hide ((unhide H4 _ (unhide G8)).pd)
      have Y8 := hide (Px.mk ⟨_, hX8⟩ (Prs.own O8 (by omega)) (unhide D8))
      have E1 := hide (pkg_less hA hi)
      clear hX8 O8 D8 O7 G7 HX7 X7 y2 f2 X5 X6 G6 G5 HX5 HC5 p0 p1 p2 p3
      generalize w7.setCell _ _ = w8 at *
      have X8 := hide ((unhide H4) _ (unhide G8))
      obtain ⟨p0, p1, p2, p3⟩ := (unhide X8).cells
      have l8 := (unhide X8).lt
      have ly8 := (unhide Y8).lt
      have T9 := hide (three (nm := nm) (vr := vr) (w := w8) rfl (unhide X8).pf 26 30)
      have Y9 := hide ((unhide Y8).later (unhide T9).2.2)
      have G9 := hide ((unhide G8).trans ((unhide T9).2.2.mono (Nat.le_of_lt ly8)))
      have U9 := hide (unhide T9).1
      have Z9 := hide (unhide T9).2.1
      clear T9
      obtain ⟨y0, y1, y2, y3⟩ := (unhide Y9).cells
      go_wp2_with fail
      refine (implPkgOk_b _ nm vr _ _ (lessP k i) ds (unhide E1) (unhide Y9).pf (unhide Y9).pd).mono ?_
      generalize ((w8.alloc _).alloc _).alloc _ = W9 at *
      rintro e wA ⟨rfl, bA⟩
      have UA := hide ((unhide U9).later bA)
      have ZA := hide ((unhide Z9).later bA)
      have YA := hide ((unhide Y9).later bA)
      have GA := hide ((unhide G9).trans (bA.mono (Nat.le_of_lt (unhide Y9).lt)))
      clear U9 Z9 Y9 G9 bA y0 y1 y2 y3 p0 p1 p2 p3
      generalize w8.heap.size = gy at *
      obtain ⟨u0, u1, u2, u3⟩ := (unhide UA).cells
      go_wp2_with fail
      refine (implPkgOk_b _ nm vr _ _ k [] (unhide E2) (unhide UA).pf (unhide UA).pd).mono ?_
      rintro e wB ⟨rfl, bB⟩
      have ZB := hide ((unhide ZA).later bB)
      have YB := hide ((unhide YA).later bB)
      have GB := hide ((unhide GA).trans (bB.mono (Nat.le_of_lt (unhide YA).lt)))
      clear UA ZA YA GA bB u0 u1 u2 u3
      obtain ⟨u0, u1, u2, u3⟩ := (unhide ZB).cells
      go_wp2_with fail
      refine (implPkgOk_b _ nm vr _ _ k [(nm, 1)] (unhide E3) (unhide ZB).pf (unhide ZB).pd).mono ?_
      rintro e wC ⟨rfl, bC⟩
      have GC := hide ((unhide GB).trans (bC.mono (Nat.le_of_lt (unhide YB).lt)))
      clear ZB YB GB bC u0 u1 u2 u3
      go_wp2
      go_ret
      exact ⟨rfl, (unhide B4).trans ((unhide GC).mono hb4)⟩
end Go.Proofs.Ytcngmglmcjoffaa
