import Derived.Test.YtkhanndmbpemfaaGreatDoorSToRW
import Derived.Test.YtkhanndmbpemfaaGreatDoorMix3
import Derived.Test.YtkhanndmbpemfaaGreatDoorMix7
/- What spec.DiskNew returns, its files in a row of its own. -/
namespace Go.Proofs.YtkhanndmbpemfaaGreatDoor
open Go.RowKit

theorem planFiles_nil2 : Ix.planFiles [] = Ix.filesTo [] 0 ∧ (Ix.planFiles []).length = 6 := by
  have h : Ix.planOk [] = true := by decide
  have e : Ix.planFiles [] = Ix.filesTo [] 0 := by unfold Ix.planFiles; rw [if_pos h, List.length_nil]
  exact ⟨e, by rw [e]; exact Ix.filesTo_len [] 0 (Nat.le_refl _)⟩

set_option maxHeartbeats 2000000 in
set_option maxRecDepth 100000 in
theorem specDiskNew_own (w : World) :
    Calls Tryz.prog 79 #[] w fun e w' => ∃ g1 g2 vf, e = .returned (dkV (.slice (some ⟨g1, 0, none⟩) 0 0) vf false (.slice (some ⟨g2, 0, none⟩) 0 0)) ∧ OwI w.heap.size w' vf (Ix.planFiles []) ∧ Below w.heap.size w w' := by
  have hlb : (Ix.planFiles []).length ≤ 1000 := by rw [planFiles_nil2.2]; omega
  have CP : Hid (∀ W : World, Calls Tryz.prog 82 #[.slice none 0 0] W fun e w' => ∃ u, e = .returned u ∧ OwI W.heap.size w' u (Ix.planFiles []) ∧ Below W.heap.size W w') := fun W => by
    rw [planFiles_nil2.1]
    exact l13Files_any (N := fun _ => True) W (.slice none 0 0) [] (pks_nil _ _ _) (by decide)
  generalize Ix.planFiles [] = PF at *
  have b0 := below1 w (.cells #[.slice none 0 0, .slice none 0 0, .bool false, .slice none 0 0] 31)
  have hR := heap_alloc_new w (.cells #[.slice none 0 0, .slice none 0 0, .bool false, .slice none 0 0] 31)
  have b1 := below1 (w.alloc (.cells #[.slice none 0 0, .slice none 0 0, .bool false, .slice none 0 0] 31)) (.cells #[] 94)
  have HR := hide ((b1.block _ (heapLt hR)).trans hR)
  have BW := hide (b0.trans (b1.mono b0.size))
  clear b0 b1 hR
  go_enter Tryz.func79, Tryz.ntmps79
  go_wp2_with fail
  refine (unhide CP _).mono ?_
  generalize World.alloc _ _ = W0 at *
  rintro e w1 ⟨u, rfl, ho, b⟩
  obtain ⟨ua, uc, hu⟩ := own_formS ho
  subst hu
  have b2 := below1 w1 (.cells #[] 94)
  have b12 := b.trans (b2.mono b.size)
  have hR := (b12.block _ (heapLt (unhide HR))).trans (unhide HR)
  replace HR := hide hR
  have HO := hide (own_base' (own_later ho b2) (unhide BW).size)
  replace BW := hide ((unhide BW).trans (b12.mono (unhide BW).size))
  obtain ⟨⟨c0, f0⟩, ⟨c1, f1⟩, ⟨c2, f2⟩, c3, f3⟩ : (_ ∧ _) ∧ (_ ∧ _) ∧ (_ ∧ _) ∧ _ ∧ _ := ⟨⟨cellOf hR 0, frozenOf hR 0⟩, ⟨cellOf hR 1, frozenOf hR 1⟩, ⟨cellOf hR 2, frozenOf hR 2⟩, cellOf hR 3, frozenOf hR 3⟩
  clear ho b CP b2 b12 hR
  go_wp2
  obtain ⟨⟨q0, q1, q2, q3⟩, hbel, hfar⟩ := fin4 (a := .slice (some ⟨w.heap.size + 1, 0, none⟩) 0 0) (b := .slice ua PF.length uc) (c := .bool false) (d := .slice (some ⟨w1.heap.size, 0, none⟩) 0 0) (W := w) (unhide HR) (Nat.le_refl _) (unhide BW) rfl
  exact bodyPost_ret (v := .agg #[.slice (some ⟨w.heap.size + 1, 0, none⟩) 0 0, .slice ua PF.length uc, .bool false, .slice (some ⟨w1.heap.size, 0, none⟩) 0 0]) (by simp [results, Tryz.results79, go_sem, q0, q1, q2, q3]) rfl ⟨_, _, _, rfl, own_keepS (unhide HO) (fun g _ e _ _ => hfar g (fun e2 => own_ne (unhide HO) (unhide HR) (by decide) (by rw [e, e2]))), hbel⟩
end Go.Proofs.YtkhanndmbpemfaaGreatDoor

/- What is to be in, as plain data: spec's l13For. -/
namespace Go.Proofs.YtkhanndmbpemfaaGreatDoor.Ix
open Pk

/-- A package of a name is there. -/
def isN (l : List Pg) (n : Int) : Bool := (orNone (newest l n)).2
theorem orNone_some {o : Option Pg} (h : (orNone o).2 = true) : o = some (orNone o).1 := by
  cases o with
  | none => cases h
  | some p => rfl
theorem isN_true {l : List Pg} {n : Int} : isN l n = true ↔ ∃ x ∈ l, x.1 = n := by
  unfold isN
  constructor
  · intro h
    have := newest_mem (orNone_some h)
    exact ⟨_, this.1, this.2⟩
  · rintro ⟨x, hx, rfl⟩
    rcases newest_cases l x.1 with ⟨_, hn⟩ | ⟨m, hm, h1, _⟩
    · obtain ⟨i, hi, e⟩ := List.getElem_of_mem hx
      refine absurd ?_ (hn i hi)
      rw [show pg l i = x from by unfold pg; rw [List.getD_eq_getElem?_getD, List.getElem?_eq_getElem hi, e]; rfl]
    · rw [h1]; rfl
/-- The newer one of what is kept, and what is in. -/
def pick13 (st ha : List Pg) (n : Int) : Pg × Bool :=
  if ((orNone (newest st n)).2 && (!(orNone (newest ha n)).2 || decide ((orNone (newest ha n)).1.2.1 < (orNone (newest st n)).1.2.1))) = true then ((orNone (newest st n)).1, true) else orNone (newest ha n)
theorem pick13_mem {st ha : List Pg} {n : Int} (h : (pick13 st ha n).2 = true) : ((pick13 st ha n).1 ∈ st ∨ (pick13 st ha n).1 ∈ ha) ∧ (pick13 st ha n).1.1 = n := by
  unfold pick13 at *
  split at h
  · rename_i hc
    rw [if_pos hc]
    rw [Bool.and_eq_true] at hc
    have := newest_mem (orNone_some hc.1)
    exact ⟨.inl this.1, this.2⟩
  · rename_i hc
    rw [if_neg hc]
    have := newest_mem (orNone_some h)
    exact ⟨.inr this.1, this.2⟩
/-- What is wanted, by names. -/
def wSet (W : List Bool) (n : Int) : List Bool := W.set n.toNat true
def wAll (W : List Bool) (ns : List Int) : List Bool := ns.foldl wSet W
theorem wAll_len (ns : List Int) : ∀ W : List Bool, (wAll W ns).length = W.length := by
  unfold wAll
  induction ns with
  | nil => intro W; rfl
  | cons n ns ih => intro W; rw [List.foldl_cons, ih]; unfold wSet; rw [List.length_set]
theorem wAll_snoc (W : List Bool) (ns : List Int) (n : Int) : wAll W (ns ++ [n]) = (wAll W ns).set n.toNat true := by unfold wAll; rw [List.foldl_append]; rfl
/-- A name is wanted, and is not there. -/
def miss (W : List Bool) (out : List Pg) (n : Nat) : Bool := decide (1 ≤ n) && (W.getD n false && !isN out n)
def first (W : List Bool) (out : List Pg) : Option Nat := (List.range 5).find? (miss W out)
theorem first_none {W : List Bool} {out : List Pg} (h : ∀ m, m < 5 → miss W out m = false) : first W out = none := by
  unfold first
  rw [List.find?_eq_none]
  intro x hx
  rw [h x (List.mem_range.1 hx)]
  simp
theorem first_some {W : List Bool} {out : List Pg} {n : Nat} (hn : n < 5) (h1 : miss W out n = true) (h : ∀ m, m < n → miss W out m = false) : first W out = some n := by
  unfold first
  have e : List.range 5 = List.range n ++ (n :: (List.range 5).drop (n + 1)) := by
    have : n = 0 ∨ n = 1 ∨ n = 2 ∨ n = 3 ∨ n = 4 := by omega
    rcases this with rfl | rfl | rfl | rfl | rfl <;> rfl
  rw [e, List.find?_append, List.find?_eq_none.2 (fun x hx => by rw [h x (List.mem_range.1 hx)]; simp)]
  rw [List.find?_cons_of_pos h1]
  rfl
def forF (st ha : List Pg) : Nat → List Bool → List Pg → Option (List Pg)
  | 0, _, _ => none
  | f + 1, W, out => match first W out with
    | none => some out
    | some n => if (pick13 st ha n).2 = true then forF st ha f (wAll W ((pick13 st ha n).1.2.2.2.map (·.1))) (wth out (pick13 st ha n).1) else none
def forW (ha : List Pg) (name : Int) : List Bool := wAll (List.replicate 5 false) (name :: ha.map (·.1))
def forO (o : Option (List Pg)) : Option (List Pg) := match o with
  | none => none
  | some out => if planOk out = true then some out else none
/-- What is to be in. -/
def forD (st ha : List Pg) (name : Int) : Option (List Pg) := forO (forF st ha 5 (forW ha name) [])
theorem forF_end {st ha : List Pg} {f : Nat} {W : List Bool} {out : List Pg} (h : first W out = none) : forF st ha (f + 1) W out = some out := by
  show (match first W out with | none => _ | some n => _) = _
  rw [h]
theorem forF_no {st ha : List Pg} {f n : Nat} {W : List Bool} {out : List Pg} (h : first W out = some n) (hp : (pick13 st ha n).2 = false) : forF st ha (f + 1) W out = none := by
  show (match first W out with | none => _ | some n => _) = _
  rw [h]
  show (if (pick13 st ha n).2 = true then _ else _) = _
  rw [if_neg (by rw [hp]; simp)]
theorem forF_go {st ha : List Pg} {f n : Nat} {W : List Bool} {out : List Pg} (h : first W out = some n) (hp : (pick13 st ha n).2 = true) : forF st ha (f + 1) W out = forF st ha f (wAll W ((pick13 st ha n).1.2.2.2.map (·.1))) (wth out (pick13 st ha n).1) := by
  show (match first W out with | none => _ | some n => _) = _
  rw [h]
  show (if (pick13 st ha n).2 = true then _ else _) = _
  rw [if_pos hp]
theorem ahead_or {x p : Pg} (h : x.1 ≠ p.1) : (if ahead x p = true then 1 else 0) + (if ahead p x = true then 1 else 0) = 1 := by
  unfold ahead less
  rcases Int.lt_or_gt_of_ne h with h1 | h1
  · have h2 : ¬ p.1 < x.1 := by omega
    simp [h1, h2, Ne.symm h]
  · have h2 : ¬ x.1 < p.1 := by omega
    have h3 : p.1 < x.1 := h1
    simp [h3, h2, h]
theorem wth_more {l : List Pg} {p : Pg} (h : isN l p.1 = false) : (wth l p).length = l.length + 1 := by
  have hn : ∀ x ∈ l, x.1 ≠ p.1 := fun x hx e => by rw [isN_true.2 ⟨x, hx, e⟩] at h; cases h
  clear h
  unfold wth
  rw [List.length_append, List.length_append, List.length_singleton]
  induction l with
  | nil => rfl
  | cons x l ih =>
    have := ih (fun y hy => hn y (List.mem_cons_of_mem _ hy))
    have ho := ahead_or (hn x List.mem_cons_self)
    rw [List.filter_cons, List.filter_cons, List.length_cons]
    split <;> split <;> simp_all <;> omega
theorem wth_mem {l : List Pg} {p x : Pg} (h : x ∈ wth l p) : x ∈ l ∨ x = p := by
  unfold wth at h
  rw [List.mem_append, List.mem_append, List.mem_filter, List.mem_filter, List.mem_singleton] at h
  rcases h with (h | h) | h
  · exact .inl h.1
  · exact .inr h
  · exact .inl h.1
theorem wth_is {l : List Pg} {p : Pg} (h : isN l p.1 = false) (m : Int) : isN (wth l p) m = (isN l m || decide (m = p.1)) := by
  have hn : ∀ x ∈ l, x.1 ≠ p.1 := fun x hx e => by rw [isN_true.2 ⟨x, hx, e⟩] at h; cases h
  rw [Bool.eq_iff_iff, isN_true, Bool.or_eq_true, isN_true, decide_eq_true_eq]
  constructor
  · rintro ⟨x, hx, rfl⟩
    rcases wth_mem hx with h1 | h1
    · exact .inl ⟨x, h1, rfl⟩
    · exact .inr (by rw [h1])
  · rintro (⟨x, hx, rfl⟩ | rfl)
    · refine ⟨x, ?_, rfl⟩
      unfold wth
      rw [List.mem_append, List.mem_append, List.mem_filter, List.mem_filter]
      have ho := ahead_or (hn x hx)
      cases h1 : ahead x p
      · cases h2 : ahead p x
        · rw [h1, h2] at ho; simp at ho
        · exact .inr ⟨hx, rfl⟩
      · exact .inl (.inl ⟨hx, rfl⟩)
    · exact ⟨p, by unfold wth; simp, rfl⟩
/-- How many names are not there. -/
def lackN (l : List Pg) : Nat := (if isN l 1 = true then 0 else 1) + (if isN l 2 = true then 0 else 1) + (if isN l 3 = true then 0 else 1) + (if isN l 4 = true then 0 else 1)
theorem lackN_pos {l : List Pg} {n : Nat} (h1 : 1 ≤ n) (h2 : n < 5) (h : isN l n = false) : 1 ≤ lackN l := by
  unfold lackN
  have : (n : Int) = 1 ∨ (n : Int) = 2 ∨ (n : Int) = 3 ∨ (n : Int) = 4 := by omega
  rcases this with e | e | e | e
  all_goals
    rw [e] at h
    rw [h]
    simp only [Bool.false_eq_true, if_false]
    omega
theorem lackN_less {l : List Pg} {p : Pg} {n : Nat} (h1 : 1 ≤ n) (h2 : n < 5) (hp : p.1 = n) (h : isN l n = false) : lackN (wth l p) + 1 = lackN l := by
  have h' : isN l p.1 = false := by rw [hp]; exact h
  unfold lackN
  rw [wth_is h', wth_is h', wth_is h', wth_is h', hp]
  have : (n : Int) = 1 ∨ (n : Int) = 2 ∨ (n : Int) = 3 ∨ (n : Int) = 4 := by omega
  rcases this with e | e | e | e
  all_goals
    rw [e] at h ⊢
    rw [h]
    simp
    try omega
theorem lackN_nil : lackN [] = 4 := rfl
end Go.Proofs.YtkhanndmbpemfaaGreatDoor.Ix

/- What spec's l13Is and l13Pick return; for every row of packages that can be read. -/
namespace Go.Proofs.YtkhanndmbpemfaaGreatDoor
open Go.RowKit

set_option maxHeartbeats 4000000 in
set_option maxRecDepth 100000 in
theorem l13Is_any {N : Nat → Prop} (w : World) (v : Value) (l : List Ix.Pg) (x : Int) (h : Pks N w v l) :
    Calls Tryz.prog 123 #[v, .int .i64 x] w fun e w' => e = .returned (.bool (Ix.isN l x)) ∧ Below w.heap.size w w' := by
  have HP := hide h
  obtain ⟨a, cap, hv⟩ := h.slice
  subst hv
  clear h
  unfold Ix.isN
  have CN := hide (l12Newest_any _ _ l x (unhide HP))
  generalize Ix.orNone (Ix.newest l x) = an at *
  obtain ⟨⟨nm, vr, fs, ds⟩, bo⟩ := an
  dsimp only
  go_enter Tryz.func123, Tryz.ntmps123
  go_wp2_with fail
  refine (unhide CN).mono ?_
  rintro e w1 ⟨u, rfl, ⟨fv, dv, rfl, ho⟩, b1⟩
  obtain ⟨fa, fc, da, dc, h1, h2⟩ := ho.forms
  dsimp only at h1 h2
  subst h1 h2
  dsimp only
  have b2 := below1 w1 (.cells #[.int .i64 nm, .int .i64 vr, .slice fa fs.length fc, .slice da ds.length dc] 94)
  have HB2 := hide (b1.trans (b2.mono b1.size))
  clear ho b1 b2
  go_wp2
  go_ret
  exact ⟨rfl, unhide HB2⟩

set_option maxHeartbeats 4000000 in
set_option maxRecDepth 100000 in
theorem l13Pick_any {N : Nat → Prop} (w : World) (v u : Value) (st ha : List Ix.Pg) (x : Int) (h : Pks N w v st) (h' : Pks N w u ha) :
    Calls Tryz.prog 124 #[v, u, .int .i64 x] w fun e w' => ∃ r, e = .returned r ∧ NewAns w.heap.size w' r (Ix.pick13 st ha x) ∧ Below w.heap.size w w' := by
  have B0 := below1 w (.cells #[.int .i64 0, .int .i64 0, .slice none 0 0, .slice none 0 0] 94)
  have HA0 := hide (And.intro (heap_alloc_new w (.cells #[.int .i64 0, .int .i64 0, .slice none 0 0, .slice none 0 0] 94)) B0)
  have H0 := hide (h.later B0)
  have H0' := hide (h'.later B0)
  obtain ⟨va, vc, hv⟩ := h.slice
  obtain ⟨ua, uc, hu⟩ := h'.slice
  subst hv hu
  clear h h' B0
  have C1 := hide (fun W hW => l12Newest_any (N := N) W (.slice va st.length vc) st x hW)
  have C2 := hide (fun W hW => l12Newest_any (N := N) W (.slice ua ha.length uc) ha x hW)
  have HPD : Ix.pick13 st ha x = (if ((Ix.orNone (Ix.newest st x)).2 && (!(Ix.orNone (Ix.newest ha x)).2 || decide ((Ix.orNone (Ix.newest ha x)).1.2.1 < (Ix.orNone (Ix.newest st x)).1.2.1))) = true then ((Ix.orNone (Ix.newest st x)).1, true) else Ix.orNone (Ix.newest ha x)) := rfl
  generalize Ix.pick13 st ha x = pd at *
  generalize Ix.orNone (Ix.newest st x) = an at *
  generalize Ix.orNone (Ix.newest ha x) = bn at *
  obtain ⟨⟨nm, vr, fs, ds⟩, bo⟩ := an
  obtain ⟨⟨nm', vr', fs', ds'⟩, bo'⟩ := bn
  dsimp only at HPD
  have HPX := hide HPD
  clear HPD
  go_enter Tryz.func124, Tryz.ntmps124
  go_wp2_with fail
  refine (unhide C1 _ (unhide H0)).mono ?_
  generalize World.alloc _ _ = W0 at *
  rintro e w1 ⟨r1, rfl, ⟨fv, dv, rfl, ho⟩, b1⟩
  obtain ⟨fa, fc, da, dc, h1, h2⟩ := ho.forms
  dsimp only at h1 h2
  subst h1 h2
  dsimp only
  have b2 := below1 w1 (.cells #[.int .i64 nm, .int .i64 vr, .slice fa fs.length fc, .slice da ds.length dc] 94)
  have hb12 := b1.trans (b2.mono b1.size)
  have HX2 := hide (heap_alloc_new w1 (.cells #[.int .i64 nm, .int .i64 vr, .slice fa fs.length fc, .slice da ds.length dc] 94))
  have HR2 := hide ((hb12.block _ (heapLt (unhide HA0).1)).trans (unhide HA0).1)
  have HB2 := hide ((unhide HA0).2.trans (hb12.mono (unhide HA0).2.size))
  have HO2 := hide ((ho.later b2).base (unhide HA0).2.size)
  have H2' := hide ((unhide H0').later hb12)
  have hw1 : w.heap.size < w1.heap.size := Nat.lt_of_lt_of_le (heapLt (unhide HA0).1) b1.size
  clear ho b1 b2 hb12 HA0 H0 H0' C1
  clear W0
  go_wp2_with fail
  refine (unhide C2 _ (unhide H2')).mono ?_
  generalize hXe : w1.heap.size = X at *
  clear hXe
  generalize World.alloc _ _ = W2 at *
  clear w1
  rintro e w3 ⟨r3, rfl, ⟨fv', dv', rfl, ho'⟩, b3⟩
  obtain ⟨fa', fc', da', dc', h1, h2⟩ := ho'.forms
  dsimp only at h1 h2
  subst h1 h2
  dsimp only
  have b4 := below1 w3 (.cells #[.int .i64 nm', .int .i64 vr', .slice fa' fs'.length fc', .slice da' ds'.length dc'] 94)
  have hb34 := b3.trans (b4.mono b3.size)
  have hX4 := (hb34.block _ (heapLt (unhide HX2))).trans (unhide HX2)
  have hY4 := heap_alloc_new w3 (.cells #[.int .i64 nm', .int .i64 vr', .slice fa' fs'.length fc', .slice da' ds'.length dc'] 94)
  have hR4 := (hb34.block _ (heapLt (unhide HR2))).trans (unhide HR2)
  have HB4 := hide ((unhide HB2).trans (hb34.mono (unhide HB2).size))
  have HO4 := hide ((unhide HO2).later hb34)
  have HO4' := hide ((ho'.later b4).base (unhide HB2).size)
  have hXY : X < w3.heap.size := Nat.lt_of_lt_of_le (heapLt (unhide HX2)) b3.size
  obtain ⟨x0, x1, x2, x3⟩ : _ ∧ _ ∧ _ ∧ _ := ⟨cellOf hX4 0, cellOf hX4 1, cellOf hX4 2, cellOf hX4 3⟩
  obtain ⟨y0, y1, y2, y3⟩ : _ ∧ _ ∧ _ ∧ _ := ⟨cellOf hY4 0, cellOf hY4 1, cellOf hY4 2, cellOf hY4 3⟩
  obtain ⟨r0, r1, r2, r3⟩ : _ ∧ _ ∧ _ ∧ _ := ⟨cellOf hR4 0, cellOf hR4 1, cellOf hR4 2, cellOf hR4 3⟩
  obtain ⟨s0, s1, s2, s3⟩ : _ ∧ _ ∧ _ ∧ _ := ⟨frozenOf hR4 0, frozenOf hR4 1, frozenOf hR4 2, frozenOf hR4 3⟩
  have HR4 := hide hR4
  have hYw : w.heap.size < w3.heap.size := by omega
  clear ho' b3 b4 hb34 HB2 HO2 HX2 HR2 H2' C2 hX4 hY4 hR4
  generalize hYe : w3.heap.size = Y at *
  clear hYe
  by_cases hc : (bo && (!bo' || decide (vr' < vr))) = true
  · rw [if_pos hc] at HPX
    rw [Bool.and_eq_true] at hc
    obtain ⟨hb1, hb2⟩ := hc
    subst hb1
    cases bo'
    all_goals
      simp only [Bool.not_true, Bool.not_false, Bool.false_or, Bool.true_or, decide_eq_true_eq] at hb2
      go_wp2_with fail
      generalize World.alloc _ _ = W4 at *
      obtain ⟨⟨q0, q1, q2, q3⟩, hans, hbel⟩ := newAns_box (a := ((nm, vr, fs, ds), true)) (unhide HR4) (Nat.le_refl _) (unhide HB4) (unhide HO4) rfl
      dsimp only at q0 q1 q2 q3
      exact bodyPost_ret (v := .tuple #[.agg #[.int .i64 nm, .int .i64 vr, .slice fa fs.length fc, .slice da ds.length dc], .bool true]) (by simp [results, Tryz.results124, go_sem, q0, q1, q2, q3]) rfl ⟨_, rfl, by rw [unhide HPX]; exact hans, hbel⟩
  · rw [if_neg hc] at HPX
    cases bo
    · clear hc
      go_wp2_with fail
      generalize World.alloc _ _ = W4 at *
      obtain ⟨⟨q0, q1, q2, q3⟩, hans, hbel⟩ := newAns_box (a := ((nm', vr', fs', ds'), bo')) (unhide HR4) (Nat.le_refl _) (unhide HB4) (unhide HO4') rfl
      dsimp only at q0 q1 q2 q3
      exact bodyPost_ret (v := .tuple #[.agg #[.int .i64 nm', .int .i64 vr', .slice fa' fs'.length fc', .slice da' ds'.length dc'], .bool bo']) (by simp [results, Tryz.results124, go_sem, q0, q1, q2, q3]) rfl ⟨_, rfl, by rw [unhide HPX]; exact hans, hbel⟩
    · simp only [Bool.true_and, Bool.or_eq_true, Bool.not_eq_true', decide_eq_true_eq, not_or, Bool.not_eq_false] at hc
      obtain ⟨hc1, hc2⟩ := hc
      subst hc1
      go_wp2_with fail
      generalize World.alloc _ _ = W4 at *
      obtain ⟨⟨q0, q1, q2, q3⟩, hans, hbel⟩ := newAns_box (a := ((nm', vr', fs', ds'), true)) (unhide HR4) (Nat.le_refl _) (unhide HB4) (unhide HO4') rfl
      dsimp only at q0 q1 q2 q3
      exact bodyPost_ret (v := .tuple #[.agg #[.int .i64 nm', .int .i64 vr', .slice fa' fs'.length fc', .slice da' ds'.length dc'], .bool true]) (by simp [results, Tryz.results124, go_sem, q0, q1, q2, q3]) rfl ⟨_, rfl, by rw [unhide HPX]; exact hans, hbel⟩
end Go.Proofs.YtkhanndmbpemfaaGreatDoor
