import Derived.Test.YtlidgoomlllonaaDoorSNewW
import Derived.Test.YtlidgoomlllonaaDoorForMath
import Derived.Test.YtlidgoomlllonaaDoorPkgOkW
import Derived.WalkLawsBesides
import Derived.Deep.RegionWith
import Derived.Deep.DrawnRows
import Derived.Deep.RegionHeld3
import Derived.Deep.AppendLies
/- What spec's l13Is and l13Pick return; for every row of packages that can be read. -/
namespace Go.Proofs.YtlidgoomlllonaaDoor
open Go.RowKit

set_option maxHeartbeats 4000000 in
set_option maxRecDepth 100000 in
theorem l13Is_any {N : Nat → Prop} (w : World) (v : Value) (l : List Ix.Pg) (x : Int) (h : Pks N w v l) :
    Calls Tryd.prog 43 #[v, .int .i64 x] w fun e w' => e = .returned (.bool (Ix.isN l x)) ∧ Below w.heap.size w w' := by
  have HP := hide h
  obtain ⟨a, cap, hv⟩ := h.slice
  subst hv
  clear h
  unfold Ix.isN
  have CN := hide (l12Newest_any _ _ l x (unhide HP))
  generalize Ix.orNone (Ix.newest l x) = an at *
  obtain ⟨⟨nm, vr, fs, ds⟩, bo⟩ := an
  dsimp only
  go_enter Tryd.func43, Tryd.ntmps43
  go_wp2_with fail
  refine (unhide CN).mono ?_
  rintro e w1 ⟨u, rfl, ⟨fv, dv, rfl, ho⟩, b1⟩
  obtain ⟨fa, fc, da, dc, h1, h2⟩ := ho.forms
  dsimp only at h1 h2
  subst h1 h2
  dsimp only
  have b2 := below1 w1 (.cells #[.int .i64 nm, .int .i64 vr, .slice fa fs.length fc, .slice da ds.length dc] 30)
  have HB2 := hide (b1.trans (b2.mono b1.size))
  clear ho b1 b2
  go_wp2
  go_ret
  exact ⟨rfl, unhide HB2⟩

set_option maxHeartbeats 4000000 in
set_option maxRecDepth 100000 in
theorem l13Pick_any {N : Nat → Prop} (w : World) (v u : Value) (st ha : List Ix.Pg) (x : Int) (h : Pks N w v st) (h' : Pks N w u ha) :
    Calls Tryd.prog 44 #[v, u, .int .i64 x] w fun e w' => ∃ r, e = .returned r ∧ NewAns w.heap.size w' r (Ix.pick13 st ha x) ∧ Below w.heap.size w w' := by
  have B0 := below1 w (.cells #[.int .i64 0, .int .i64 0, .slice none 0 0, .slice none 0 0] 30)
  have HA0 := hide (And.intro (heap_alloc_new w (.cells #[.int .i64 0, .int .i64 0, .slice none 0 0, .slice none 0 0] 30)) B0)
  have H0 := hide (h.later B0)
  have H0' := hide (h'.later B0)
  obtain ⟨va, vc, hv⟩ := h.slice
  obtain ⟨ua, uc, hu⟩ := h'.slice
  subst hv hu
  clear h h' B0
  have C1 := hide (fun W hW => l12Newest_any (N := N) W (.slice va st.length vc) st x hW)
  have C2 := hide (fun W hW => l12Newest_any (N := N) W (.slice ua ha.length uc) ha x hW)
  have HPD : Ix.pick13 st ha x = (if ((Ix.orNone (Ix.newest st x)).2 && (!(Ix.orNone (Ix.newest ha x)).2 || decide ((Ix.orNone (Ix.newest ha x)).1.2.1 < (Ix.orNone (Ix.newest st x)).1.2.1))) = true then ((Ix.orNone (Ix.newest st x)).1, true) else Ix.orNone (Ix.newest ha x)) := rfl
  generalize Ix.pick13 st ha x = pd at *
  generalize Ix.orNone (Ix.newest st x) = an at *
  generalize Ix.orNone (Ix.newest ha x) = bn at *
  obtain ⟨⟨nm, vr, fs, ds⟩, bo⟩ := an
  obtain ⟨⟨nm', vr', fs', ds'⟩, bo'⟩ := bn
  dsimp only at HPD
  have HPX := hide HPD
  clear HPD
  go_enter Tryd.func44, Tryd.ntmps44
  go_wp2_with fail
  refine (unhide C1 _ (unhide H0)).mono ?_
  generalize World.alloc _ _ = W0 at *
  rintro e w1 ⟨r1, rfl, ⟨fv, dv, rfl, ho⟩, b1⟩
  obtain ⟨fa, fc, da, dc, h1, h2⟩ := ho.forms
  dsimp only at h1 h2
  subst h1 h2
  dsimp only
  have b2 := below1 w1 (.cells #[.int .i64 nm, .int .i64 vr, .slice fa fs.length fc, .slice da ds.length dc] 30)
  have hb12 := b1.trans (b2.mono b1.size)
  have HX2 := hide (heap_alloc_new w1 (.cells #[.int .i64 nm, .int .i64 vr, .slice fa fs.length fc, .slice da ds.length dc] 30))
  have HR2 := hide ((hb12.block _ (heapLt (unhide HA0).1)).trans (unhide HA0).1)
  have HB2 := hide ((unhide HA0).2.trans (hb12.mono (unhide HA0).2.size))
  have HO2 := hide ((ho.later b2).base (unhide HA0).2.size)
  have H2' := hide ((unhide H0').later hb12)
  have hw1 : w.heap.size < w1.heap.size := Nat.lt_of_lt_of_le (heapLt (unhide HA0).1) b1.size
  clear ho b1 b2 hb12 HA0 H0 H0' C1
  clear W0
  go_wp2_with fail
  refine (unhide C2 _ (unhide H2')).mono ?_
  generalize hXe : w1.heap.size = X at *
  clear hXe
  generalize World.alloc _ _ = W2 at *
  clear w1
  rintro e w3 ⟨r3, rfl, ⟨fv', dv', rfl, ho'⟩, b3⟩
  obtain ⟨fa', fc', da', dc', h1, h2⟩ := ho'.forms
  dsimp only at h1 h2
  subst h1 h2
  dsimp only
  have b4 := below1 w3 (.cells #[.int .i64 nm', .int .i64 vr', .slice fa' fs'.length fc', .slice da' ds'.length dc'] 30)
  have hb34 := b3.trans (b4.mono b3.size)
  have hX4 := (hb34.block _ (heapLt (unhide HX2))).trans (unhide HX2)
  have hY4 := heap_alloc_new w3 (.cells #[.int .i64 nm', .int .i64 vr', .slice fa' fs'.length fc', .slice da' ds'.length dc'] 30)
  have hR4 := (hb34.block _ (heapLt (unhide HR2))).trans (unhide HR2)
  have HB4 := hide ((unhide HB2).trans (hb34.mono (unhide HB2).size))
  have HO4 := hide ((unhide HO2).later hb34)
  have HO4' := hide ((ho'.later b4).base (unhide HB2).size)
  have hXY : X < w3.heap.size := Nat.lt_of_lt_of_le (heapLt (unhide HX2)) b3.size
  obtain ⟨x0, x1, x2, x3⟩ : _ ∧ _ ∧ _ ∧ _ := ⟨cellOf hX4 0, cellOf hX4 1, cellOf hX4 2, cellOf hX4 3⟩
  obtain ⟨y0, y1, y2, y3⟩ : _ ∧ _ ∧ _ ∧ _ := ⟨cellOf hY4 0, cellOf hY4 1, cellOf hY4 2, cellOf hY4 3⟩
  obtain ⟨r0, r1, r2, r3⟩ : _ ∧ _ ∧ _ ∧ _ := ⟨cellOf hR4 0, cellOf hR4 1, cellOf hR4 2, cellOf hR4 3⟩
  obtain ⟨s0, s1, s2, s3⟩ : _ ∧ _ ∧ _ ∧ _ := ⟨frozenOf hR4 0, frozenOf hR4 1, frozenOf hR4 2, frozenOf hR4 3⟩
  have HR4 := hide hR4
  have hYw : w.heap.size < w3.heap.size := by omega
  clear ho' b3 b4 hb34 HB2 HO2 HX2 HR2 H2' C2 hX4 hY4 hR4
  generalize hYe : w3.heap.size = Y at *
  clear hYe
  by_cases hc : (bo && (!bo' || decide (vr' < vr))) = true
  · rw [if_pos hc] at HPX
    rw [Bool.and_eq_true] at hc
    obtain ⟨hb1, hb2⟩ := hc
    subst hb1
    cases bo'
    all_goals
      simp only [Bool.not_true, Bool.not_false, Bool.false_or, Bool.true_or, decide_eq_true_eq] at hb2
      go_wp2_with fail
      generalize World.alloc _ _ = W4 at *
      obtain ⟨⟨q0, q1, q2, q3⟩, hans, hbel⟩ := newAns_box (a := ((nm, vr, fs, ds), true)) (unhide HR4) (Nat.le_refl _) (unhide HB4) (unhide HO4) rfl
      dsimp only at q0 q1 q2 q3
      exact bodyPost_ret (v := .tuple #[.agg #[.int .i64 nm, .int .i64 vr, .slice fa fs.length fc, .slice da ds.length dc], .bool true]) (by simp [results, Tryd.results44, go_sem, q0, q1, q2, q3]) rfl ⟨_, rfl, by rw [unhide HPX]; exact hans, hbel⟩
  · rw [if_neg hc] at HPX
    cases bo
    · clear hc
      go_wp2_with fail
      generalize World.alloc _ _ = W4 at *
      obtain ⟨⟨q0, q1, q2, q3⟩, hans, hbel⟩ := newAns_box (a := ((nm', vr', fs', ds'), bo')) (unhide HR4) (Nat.le_refl _) (unhide HB4) (unhide HO4') rfl
      dsimp only at q0 q1 q2 q3
      exact bodyPost_ret (v := .tuple #[.agg #[.int .i64 nm', .int .i64 vr', .slice fa' fs'.length fc', .slice da' ds'.length dc'], .bool bo']) (by simp [results, Tryd.results44, go_sem, q0, q1, q2, q3]) rfl ⟨_, rfl, by rw [unhide HPX]; exact hans, hbel⟩
    · simp only [Bool.true_and, Bool.or_eq_true, Bool.not_eq_true', decide_eq_true_eq, not_or, Bool.not_eq_false] at hc
      obtain ⟨hc1, hc2⟩ := hc
      subst hc1
      go_wp2_with fail
      generalize World.alloc _ _ = W4 at *
      obtain ⟨⟨q0, q1, q2, q3⟩, hans, hbel⟩ := newAns_box (a := ((nm', vr', fs', ds'), true)) (unhide HR4) (Nat.le_refl _) (unhide HB4) (unhide HO4') rfl
      dsimp only at q0 q1 q2 q3
      exact bodyPost_ret (v := .tuple #[.agg #[.int .i64 nm', .int .i64 vr', .slice fa' fs'.length fc', .slice da' ds'.length dc'], .bool true]) (by simp [results, Tryd.results44, go_sem, q0, q1, q2, q3]) rfl ⟨_, rfl, by rw [unhide HPX]; exact hans, hbel⟩
end Go.Proofs.YtlidgoomlllonaaDoor

/- What spec.PkgText returns: the text of the package, or nothing; for every package; nothing old is written. -/
namespace Go.Proofs.YtlidgoomlllonaaDoor
open Go.RowKit

theorem b8_toNat {n : Int} (h0 : 0 ≤ n) (h1 : n < 256) : ((Pk.b8 n).toNat : Int) = n := by
  unfold Pk.b8
  rw [UInt8.toNat_ofNat']
  omega

/-- A row of one byte as a text. -/
theorem conv_one (w : World) (b : Nat) (n : Int) (c : Nat) (h0 : 0 ≤ n) (h1 : n < 256) (hc : w.cell? ⟨b, 0, none⟩ = some (.int .u8 n)) :
    (convert 22 9 (.slice (some ⟨b, 0, none⟩) 1 c)).run Tryd.prog w = .ok (.string ⟨#[Pk.b8 n]⟩) w := by
  have := run_convert_bytes_back (P := Tryd.prog) w 22 9 5 ⟨b, 0, none⟩ c [Pk.b8 n] Tryd.underlying22 Tryd.underlying5 Tryd.underlying9 (fun j hj => by
    obtain rfl : j = 0 := by simpa using hj
    have e : (⟨b, 0, none⟩ : Addr).add 0 = ⟨b, 0, none⟩ := rfl
    rw [e, hc]
    simp only [List.getElem_cons_zero]
    rw [b8_toNat h0 h1])
  exact this

attribute [local go_sem ↓] Go.wp_at_zero Go.wp_at_succ
theorem app_data (a b : List UInt8) : (⟨a.toArray⟩ ++ ⟨b.toArray⟩ : ByteArray) = ⟨(a ++ b).toArray⟩ := by
  apply ByteArray.ext
  simp
theorem name_eq (nm vr : Int) : (⟨#[Pk.b8 (97 + nm - 1)]⟩ ++ ⟨#[Pk.b8 (48 + vr)]⟩ : ByteArray) = ⟨(Pk.nameT nm vr).toArray⟩ := by
  rw [show 97 + nm - 1 = 96 + nm from by omega]
  exact app_data [Pk.b8 (96 + nm)] [Pk.b8 (48 + vr)]
theorem ret_str {a b : ByteArray} (h : a = b) : Ending.returned (.string a) = .returned (.string b) := by rw [h]

theorem text_bad {nm vr : Int} {fs ds : List (Int × Int)} (h : Pk.pkgOk nm vr fs ds = false) : Pk.text nm vr fs ds = [] := by unfold Pk.text; rw [h]; rfl

theorem take_flat (f : Int × Int → List UInt8) (l : List (Int × Int)) (k : Nat) (h : k < l.length) : (l.take (k + 1)).flatMap f = (l.take k).flatMap f ++ f (Pk.fst l k, Pk.snd l k) := by
  rw [List.take_succ_eq_append_getElem h, List.flatMap_append]
  simp [Pk.fst, Pk.snd, h]

theorem flat_len (f : Int × Int → List UInt8) (c : Nat) (hf : ∀ x, (f x).length = c) : ∀ l : List (Int × Int), (l.flatMap f).length = c * l.length
  | [] => rfl
  | x :: l => by rw [List.flatMap_cons, List.length_append, hf, flat_len f c hf l, List.length_cons, Nat.mul_succ, Nat.add_comm]
theorem file_len (nm vr : Int) (fs : List (Int × Int)) (k : Nat) : (Pk.nameT nm vr ++ (fs.take k).flatMap Pk.fileT).length ≤ 2 + 4 * k := by
  rw [List.length_append, flat_len Pk.fileT 4 (fun _ => rfl)]
  have : (fs.take k).length ≤ k := List.length_take_le _ _
  simp only [Pk.nameT, List.length_cons, List.length_nil]
  omega
theorem dep_len (a : List UInt8) (ds : List (Int × Int)) (k : Nat) : (a ++ (ds.take k).flatMap Pk.depT).length ≤ a.length + 3 * k := by
  rw [List.length_append, flat_len Pk.depT 3 (fun _ => rfl)]
  have : (ds.take k).length ≤ k := List.length_take_le _ _
  omega

theorem text_ok {nm vr : Int} {fs ds : List (Int × Int)} (h : Pk.pkgOk nm vr fs ds = true) : Pk.text nm vr fs ds = Pk.nameT nm vr ++ fs.flatMap Pk.fileT ++ ds.flatMap Pk.depT := by unfold Pk.text; rw [h]; rfl
theorem ret_val {a b : ByteArray} (h : a = b) : Value.string a = .string b := by rw [h]
theorem app_more (a b : List UInt8) : (⟨a.toArray⟩ ++ ⟨b.toArray⟩ : ByteArray) = ⟨(a ++ b).toArray⟩ := app_data a b
theorem file_more (nm vr : Int) (fs : List (Int × Int)) (k : Nat) (h : k < fs.length) {s : ByteArray} (hs : s = ⟨(Pk.nameT nm vr ++ (fs.take k).flatMap Pk.fileT).toArray⟩) :
    s ++ ⟨#[32]⟩ ++ ⟨#[Pk.b8 (48 + Pk.fst fs k)]⟩ ++ ⟨#[58]⟩ ++ ⟨#[Pk.b8 (48 + Pk.snd fs k)]⟩ = ⟨(Pk.nameT nm vr ++ (fs.take (k + 1)).flatMap Pk.fileT).toArray⟩ := by
  rw [hs, take_flat _ _ _ h]
  apply ByteArray.ext
  simp [Pk.fileT]

theorem dep_more (a : List UInt8) (ds : List (Int × Int)) (k : Nat) (h : k < ds.length) {s : ByteArray} (hs : s = ⟨(a ++ (ds.take k).flatMap Pk.depT).toArray⟩) :
    s ++ ⟨#[32]⟩ ++ ⟨(Pk.nameT (Pk.fst ds k) (Pk.snd ds k)).toArray⟩ = ⟨(a ++ (ds.take (k + 1)).flatMap Pk.depT).toArray⟩ := by
  rw [hs, take_flat _ _ _ h]
  apply ByteArray.ext
  simp [Pk.depT]

theorem pkgOk_get {nm vr : Int} {fs ds : List (Int × Int)} (h : Pk.pkgOk nm vr fs ds = true) : (1 ≤ nm ∧ nm ≤ 4) ∧ (1 ≤ vr ∧ vr ≤ 5) ∧ Pk.filesOk fs = true ∧ Pk.depsOk nm ds = true := by
  unfold Pk.pkgOk at h
  rw [Bool.and_eq_true, Bool.and_eq_true, Bool.and_eq_true, Pk.inB_true, Pk.inB_true] at h
  exact ⟨h.1.1.1, h.1.1.2, h.1.2, h.2⟩

end Go.Proofs.YtlidgoomlllonaaDoor
