import Derived.Test.YtkhanndmbpemfaaGreatDoorSDoStW
import Derived.Test.YtkhanndmbpemfaaGreatDoorMix1
import Derived.Laws.StructEq
import Derived.Test.YtkhanndmbpemfaaGreatDoorPksW
import Derived.Test.YtkhanndmbpemfaaGreatDoorMix14
import Derived.Test.YtkhanndmbpemfaaGreatDoorMix10
/- A row of steps: as data (what they do one behind the other; by which steps packages are put in), such a row that can be read, and one of one's own. -/
namespace Go.Proofs.YtkhanndmbpemfaaGreatDoor
open Go.RowKit

namespace Dk
/-- Steps done one behind the other. -/
def run (d : D) (l : List S) : D := l.foldl D.step d
theorem run_snoc (d : D) (l : List S) (s : S) : run d (l ++ [s]) = (run d l).step s := by unfold run; rw [List.foldl_append]; rfl
theorem run_take {d : D} {l : List S} {k : Nat} {s : S} (h : l[k]? = some s) : run d (l.take (k + 1)) = (run d (l.take k)).step s := by
  rw [List.take_add_one, h]
  exact run_snoc _ _ _
/-- Behind so many, the next one torn or not. -/
def till (d : D) (l : List S) (cut : Int) (torn : Bool) : D :=
  if torn = true ∧ 0 ≤ cut ∧ cut < l.length then (run d (l.take cut.toNat)).torn (l.getD cut.toNat ⟨0, 0, 0, []⟩) else run d (l.take cut.toNat)
/-- The places at which something else is to be. -/
def fileSteps (a b : List Int) (n : Nat) : List S := ((List.range n).filter fun i => Ky.nth a i != Ky.nth b i).map fun i : Nat => (⟨2, (i : Int), Ky.nth a i, []⟩ : S)
theorem fileSteps_ne {a b : List Int} {n : Nat} (h : (Ky.nth a n != Ky.nth b n) = true) : fileSteps a b (n + 1) = fileSteps a b n ++ [⟨2, (n : Int), Ky.nth a n, []⟩] := by
  unfold fileSteps
  rw [List.range_succ, List.filter_append, List.map_append]
  simp [h]
theorem fileSteps_eq {a b : List Int} {n : Nat} (h : (Ky.nth a n != Ky.nth b n) = false) : fileSteps a b (n + 1) = fileSteps a b n := by
  unfold fileSteps
  rw [List.range_succ, List.filter_append, List.map_append]
  simp [h]
theorem fileSteps_len (a b : List Int) (n : Nat) : (fileSteps a b n).length ≤ n := by
  unfold fileSteps
  rw [List.length_map]
  exact Nat.le_trans (List.length_filter_le _ _) (by rw [List.length_range]; exact Nat.le_refl _)
/-- By which steps a disk is mended, and by which packages are put in. -/
def mends (fl : List Int) (ps : List Ix.Pg) : List S := fileSteps (Ix.filesTo ps ps.length) fl 6 ++ [⟨3, 0, 0, ps⟩, ⟨4, 0, 0, []⟩]
def steps (fl : List Int) (ps : List Ix.Pg) : List S := ⟨1, 0, 0, ps⟩ :: mends fl ps
theorem steps_len (fl : List Int) (ps : List Ix.Pg) : (steps fl ps).length ≤ 9 ∧ 3 ≤ (steps fl ps).length := by
  have h := fileSteps_len (Ix.filesTo ps ps.length) fl 6
  unfold steps mends
  rw [List.length_cons, List.length_append]
  simp only [List.length_cons, List.length_nil]
  omega
theorem fileSteps_mem {a b : List Int} {n : Nat} {s : S} (h : s ∈ fileSteps a b n) : ∃ i : Nat, i < n ∧ s = ⟨2, (i : Int), Ky.nth a i, []⟩ ∧ Ky.nth a i ≠ Ky.nth b i := by
  unfold fileSteps at h
  obtain ⟨i, hi, rfl⟩ := List.mem_map.1 h
  obtain ⟨h1, h2⟩ := List.mem_filter.1 hi
  exact ⟨i, List.mem_range.1 h1, rfl, by simpa using h2⟩
theorem steps_mem {fl : List Int} {ps : List Ix.Pg} {s : S} (h : s ∈ steps fl ps) : (s = ⟨1, 0, 0, ps⟩ ∨ s = ⟨3, 0, 0, ps⟩ ∨ s = ⟨4, 0, 0, []⟩) ∨ ∃ i : Nat, i < 6 ∧ s = ⟨2, (i : Int), Ky.nth (Ix.filesTo ps ps.length) i, []⟩ ∧ Ky.nth (Ix.filesTo ps ps.length) i ≠ Ky.nth fl i := by
  unfold steps mends at h
  rcases List.mem_cons.1 h with rfl | h
  · exact .inl (.inl rfl)
  rcases List.mem_append.1 h with h | h
  · exact .inr (fileSteps_mem h)
  · simp only [List.mem_cons, List.not_mem_nil, or_false] at h
    exact .inl (.inr h)
/-- A step that can be done to a disk with so many files. -/
def canDo (n : Nat) (s : S) : Prop := (s.k = 1 ∨ s.k = 2 ∨ s.k = 3 ∨ s.k = 4) ∧ 0 ≤ s.p ∧ s.p < n ∧ s.ps.length ≤ 1000
theorem step_fl (d : D) (s : S) : (d.step s).fl.length = d.fl.length := by
  unfold D.step
  split
  · rfl
  · split
    · exact List.length_set ..
    · split <;> rfl
theorem run_fl : ∀ (l : List S) (d : D), (run d l).fl.length = d.fl.length
  | [], _ => rfl
  | s :: t, d => by
    show (run (d.step s) t).fl.length = _
    rw [run_fl t, step_fl]
theorem steps_can {fl : List Int} {ps : List Ix.Pg} (hl : ps.length ≤ 1000) : ∀ s ∈ steps fl ps, canDo 6 s := fun s hs => by
  rcases steps_mem hs with (rfl | rfl | rfl) | ⟨i, hi, rfl, _⟩
  · exact ⟨.inl rfl, by show (0 : Int) ≤ 0; omega, by show (0 : Int) < 6; omega, hl⟩
  · exact ⟨.inr (.inr (.inl rfl)), by show (0 : Int) ≤ 0; omega, by show (0 : Int) < 6; omega, hl⟩
  · exact ⟨.inr (.inr (.inr rfl)), by show (0 : Int) ≤ 0; omega, by show (0 : Int) < 6; omega, by show (0 : Nat) ≤ 1000; omega⟩
  · exact ⟨.inr (.inl rfl), by show (0 : Int) ≤ (i : Int); omega, by show (i : Int) < ((6 : Nat) : Int); omega, by show (0 : Nat) ≤ 1000; omega⟩
end Dk

/-- A step as it lies. -/
def SAt (w : World) (b off : Nat) (s : Dk.S) (pv : Value) : Prop :=
  w.cell? ⟨b, off, none⟩ = some (.int .i64 s.k) ∧ w.cell? ⟨b, off + 1, none⟩ = some (.int .i64 s.p) ∧ w.cell? ⟨b, off + 2, none⟩ = some (.int .i64 s.x) ∧ w.cell? ⟨b, off + 3, none⟩ = some pv
theorem SAt.keep {w w' : World} {b off : Nat} {s : Dk.S} {pv : Value} (h : SAt w b off s pv) (hb : w'.heap[b]? = w.heap[b]?) : SAt w' b off s pv := by
  obtain ⟨h0, h1, h2, h3⟩ := h
  have e : ∀ o, w'.cell? ⟨b, o, none⟩ = w.cell? ⟨b, o, none⟩ := fun o => World.cell?_of_block hb
  exact ⟨by rw [e]; exact h0, by rw [e]; exact h1, by rw [e]; exact h2, by rw [e]; exact h3⟩
/-- A slice of steps that can be read, all its blocks among N. -/
def Sts (N : Nat → Prop) (w : World) (v : Value) (l : List Dk.S) : Prop :=
  ∃ a cap, v = .slice a l.length cap ∧ l.length ≤ 1000000000 ∧ (0 < l.length → ∃ b off, a = some ⟨b, off, none⟩ ∧ b < w.heap.size ∧ N b ∧ ∀ i (s : Dk.S), l[i]? = some s → ∃ pv, SAt w b (off + i * 4) s pv ∧ Pks N w pv s.ps)
theorem Sts.keep {N : Nat → Prop} {w w' : World} {v : Value} {l : List Dk.S} (h : Sts N w v l) (hs : w.heap.size ≤ w'.heap.size) (hk : ∀ k, k < w.heap.size → N k → w'.heap[k]? = w.heap[k]?) : Sts N w' v l := by
  obtain ⟨a, cap, hv, hl, hr⟩ := h
  refine ⟨a, cap, hv, hl, fun hp => ?_⟩
  obtain ⟨b, off, ha, hbs, hN, hc⟩ := hr hp
  refine ⟨b, off, ha, Nat.lt_of_lt_of_le hbs hs, hN, fun i s hi => ?_⟩
  obtain ⟨pv, h1, h2⟩ := hc i s hi
  exact ⟨pv, h1.keep (hk b hbs hN), h2.keep hs hk⟩
theorem Sts.later {N : Nat → Prop} {w w' : World} {v : Value} {l : List Dk.S} (h : Sts N w v l) (hb : Below w.heap.size w w') : Sts N w' v l :=
  h.keep hb.size (fun k hk _ => hb.block k hk)
theorem Sts.slice {N : Nat → Prop} {w : World} {v : Value} {l : List Dk.S} (h : Sts N w v l) : ∃ a cap, v = .slice a l.length cap := by
  obtain ⟨a, cap, hv, _⟩ := h
  exact ⟨a, cap, hv⟩
theorem Sts.weak {N N' : Nat → Prop} {w : World} {v : Value} {l : List Dk.S} (h : Sts N w v l) (hN : ∀ b, N b → N' b) : Sts N' w v l := by
  obtain ⟨a, cap, hv, hl, hr⟩ := h
  refine ⟨a, cap, hv, hl, fun hp => ?_⟩
  obtain ⟨b, off, ha, hbs, h1, hc⟩ := hr hp
  refine ⟨b, off, ha, hbs, hN b h1, fun i s hi => ?_⟩
  obtain ⟨pv, h2, h3⟩ := hc i s hi
  exact ⟨pv, h2, h3.weak hN⟩
theorem Sts.stays {N M : Nat → Prop} {w w' : World} {v : Value} {l : List Dk.S} (h : Sts N w v l) (hs : Stays M w w') (hN : ∀ b, N b → ¬ M b) : Sts N w' v l :=
  h.keep hs.size (fun k hk hn => hs.block k hk (hN k hn))

/-- A step, the value of its packages, and these. -/
abbrev SEl := Dk.S × Value × List El
def flatS (l : List SEl) : List Value := l.flatMap fun e => [.int .i64 e.1.k, .int .i64 e.1.p, .int .i64 e.1.x, e.2.1]
theorem flatS_snoc (l : List SEl) (e : SEl) : flatS (l ++ [e]) = flatS l ++ [.int .i64 e.1.k, .int .i64 e.1.p, .int .i64 e.1.x, e.2.1] := by unfold flatS; rw [List.flatMap_append]; rfl
theorem flatS_app (a b : List SEl) : flatS (a ++ b) = flatS a ++ flatS b := by unfold flatS; rw [List.flatMap_append]
theorem flatS_at : ∀ (l : List SEl) (i : Nat) (e : SEl), l[i]? = some e → (flatS l)[i * 4]? = some (.int .i64 e.1.k) ∧ (flatS l)[i * 4 + 1]? = some (.int .i64 e.1.p) ∧ (flatS l)[i * 4 + 2]? = some (.int .i64 e.1.x) ∧ (flatS l)[i * 4 + 3]? = some e.2.1
  | [], i, e, h => by simp at h
  | x :: l, 0, e, h => by
    injection h with h
    subst h
    exact ⟨rfl, rfl, rfl, rfl⟩
  | x :: l, i + 1, e, h => by
    have := flatS_at l i e (by simpa using h)
    have e0 : flatS (x :: l) = .int .i64 x.1.k :: .int .i64 x.1.p :: .int .i64 x.1.x :: x.2.1 :: flatS l := rfl
    have e1 : (i + 1) * 4 = i * 4 + 1 + 1 + 1 + 1 := by omega
    rw [e0, e1]
    exact ⟨this.1, this.2.1, this.2.2.1, this.2.2.2⟩
/-- A step's packages in rows of their own. -/
structure StO (B : Nat) (w : World) (e : SEl) : Prop where
  p : PAns B w e.2.1 e.2.2
  m : e.2.2.map (·.1) = e.1.ps
  s : smallE e.2.2
theorem StO.later {B : Nat} {w w' : World} {e : SEl} (h : StO B w e) (hb : Below w.heap.size w w') : StO B w' e := ⟨h.p.later hb, h.m, h.s⟩
theorem StO.base {B B' : Nat} {w : World} {e : SEl} (h : StO B w e) (hB : B' ≤ B) : StO B' w e := ⟨h.p.base hB, h.m, h.s⟩
theorem StO.nil (B : Nat) (w : World) (s : Dk.S) (h : s.ps = []) : StO B w (s, .slice none 0 0, []) := ⟨PAns.nil B w, h.symm, Nat.zero_le _, fun _ h => by cases h⟩
/-- A row of steps of one's own. -/
structure SOwn (B : Nat) (w : World) (v : Value) (l : List SEl) : Prop where
  own : w.ownsRow B 47 4 v l.length (flatS l)
  el : ∀ e ∈ l, StO B w e
theorem PAns.notStep {B : Nat} {w : World} {v : Value} {l : List El} (h : PAns B w v l) {g : Nat} {c : Array Value} (hg : w.heap[g]? = some (.cells c 47 (0, 0))) : ¬ blkP v l g := by
  rintro (hb | ⟨e, he, hb | hb⟩)
  · exact own_ne h.own hg (by decide) hb
  · exact own_ne (h.el e he).f hg (by decide) hb
  · exact own_ne (h.el e he).d hg (by decide) hb
theorem SOwn.later {B : Nat} {w w' : World} {v : Value} {l : List SEl} (h : SOwn B w v l) (hb : Below w.heap.size w w') : SOwn B w' v l := ⟨own_later h.own hb, fun e he => (h.el e he).later hb⟩
theorem SOwn.base {B B' : Nat} {w : World} {v : Value} {l : List SEl} (h : SOwn B w v l) (hB : B' ≤ B) : SOwn B' w v l := ⟨own_base' h.own hB, fun e he => (h.el e he).base hB⟩
/-- More behind. -/
theorem SOwn.app {B : Nat} {w w2 : World} {v v' : Value} {l m : List SEl} (h : SOwn B w v l) (hg : w.grownBy w2 v.ownBlock) (ho : w2.ownsRow B 47 4 v' (l.length + m.length) (flatS l ++ flatS m)) (hm : ∀ e ∈ m, StO B w e) : SOwn B w2 v' (l ++ m) := by
  have kp : ∀ e : SEl, StO B w e → StO B w2 e := fun e he => ⟨he.p.keep (fun g hb => hg.block g (he.p.lt g hb).2 (fun e2 => by
    obtain ⟨_, c, hc⟩ := own_row h.own g e2.symm
    exact he.p.notStep hc hb)), he.m, he.s⟩
  refine ⟨by rw [flatS_app, List.length_append]; exact ho, fun x hx => ?_⟩
  rcases List.mem_append.1 hx with hx | hx
  · exact kp x (h.el x hx)
  · exact kp x (hm x hx)
theorem SOwn.sts {B : Nat} {w : World} {v : Value} {l : List SEl} (h : SOwn B w v l) (hl : l.length ≤ 1000000) : Sts (fun b => B ≤ b) w v (l.map (·.1)) := by
  have hlen : (l.map (·.1)).length = l.length := List.length_map _
  rcases own_shape h.own with ⟨hv, hn⟩ | ⟨g, cap, hv, hb, hg⟩
  · exact ⟨none, 0, by rw [hlen, hv, hn], by omega, fun hp => by omega⟩
  · subst hv
    refine ⟨some ⟨g, 0, none⟩, cap, by rw [hlen], by omega, fun _ => ⟨g, 0, rfl, hg, hb, fun i s hi => ?_⟩⟩
    rw [List.getElem?_map] at hi
    obtain ⟨e, he, rfl⟩ := Option.map_eq_some_iff.1 hi
    obtain ⟨h0, h1, h2, h3⟩ := flatS_at l i _ he
    have hE := h.el e (List.mem_of_getElem? he)
    refine ⟨e.2.1, ?_, ?_⟩
    · rw [Nat.zero_add]
      exact ⟨own_cell h.own _ _ h0, own_cell h.own _ _ h1, own_cell h.own _ _ h2, own_cell h.own _ _ h3⟩
    · rw [← hE.m]
      exact hE.p.pks hE.s.1 hE.s.2
end Go.Proofs.YtkhanndmbpemfaaGreatDoor

/- What laws.luPkg returns: whether two packages are the same. -/
namespace Go.Proofs.YtkhanndmbpemfaaGreatDoor
open Go.RowKit

theorem list_ext {l l' : List (Int × Int)} (hl : l.length = l'.length) (h : ∀ i, i < l.length → Pk.fst l i = Pk.fst l' i ∧ Pk.snd l i = Pk.snd l' i) : l = l' := by
  apply List.ext_getElem hl
  intro i h1 h2
  have := h i h1
  simp only [Pk.fst, Pk.snd, List.getD_eq_getElem?_getD, List.getElem?_eq_getElem h1, List.getElem?_eq_getElem h2, Option.getD_some] at this
  exact Prod.ext this.1 this.2

/-- Two packages are the same. -/
def same (nm vr nm' vr' : Int) (fs ds fs' ds' : List (Int × Int)) : Bool := decide (nm = nm' ∧ vr = vr' ∧ fs = fs' ∧ ds = ds')
theorem same_no {nm vr nm' vr' : Int} {fs ds fs' ds' : List (Int × Int)} (h : ¬ (nm = nm' ∧ vr = vr' ∧ fs = fs' ∧ ds = ds')) : same nm vr nm' vr' fs ds fs' ds' = false := decide_eq_false h
theorem same_yes {nm vr nm' vr' : Int} {fs ds fs' ds' : List (Int × Int)} (h : nm = nm' ∧ vr = vr' ∧ fs = fs' ∧ ds = ds') : same nm vr nm' vr' fs ds fs' ds' = true := decide_eq_true h
theorem sz1l (w : World) (o : Obj) : (w.alloc o).heap.size = w.heap.size + 1 := by simp

set_option maxHeartbeats 4000000 in
set_option maxRecDepth 100000 in
theorem lu_any (w : World) (nm vr nm' vr' : Int) (fv dv fv' dv' : Value) (fs ds fs' ds' : List (Int × Int)) (hf : Prs w fv fs) (hd : Prs w dv ds) (hf' : Prs w fv' fs') (hd' : Prs w dv' ds') :
    Calls Tryz.prog 83 #[.agg #[.int .i64 nm, .int .i64 vr, fv, dv], .agg #[.int .i64 nm', .int .i64 vr', fv', dv']] w fun e w' => e = .returned (.bool (same nm vr nm' vr' fs ds fs' ds')) ∧ Below w.heap.size w w' := by
  have hbel : ∀ o1 o2 : Obj, Below w.heap.size w ((w.alloc o1).alloc o2) := fun o1 o2 => ((Below.refl _ _).alloc (Nat.le_refl _) _).alloc (by rw [sz1l]; omega) _
  have HF : Hid (∀ o1 o2 : Obj, Prs ((w.alloc o1).alloc o2) fv fs) := fun o1 o2 => hf.later (hbel o1 o2)
  have HF' : Hid (∀ o1 o2 : Obj, Prs ((w.alloc o1).alloc o2) fv' fs') := fun o1 o2 => hf'.later (hbel o1 o2)
  have HD : Hid (∀ o1 o2 : Obj, Prs ((w.alloc o1).alloc o2) dv ds) := fun o1 o2 => hd.later (hbel o1 o2)
  have HD' : Hid (∀ o1 o2 : Obj, Prs ((w.alloc o1).alloc o2) dv' ds') := fun o1 o2 => hd'.later (hbel o1 o2)
  have HB := hide hbel
  obtain ⟨fa, fc, e1⟩ := hf.slice
  obtain ⟨da, dc, e2⟩ := hd.slice
  obtain ⟨fa', fc', e3⟩ := hf'.slice
  obtain ⟨da', dc', e4⟩ := hd'.slice
  clear hf hd hf' hd' hbel
  subst e1 e2 e3 e4
  by_cases hn : nm = nm'
  case neg =>
    have hnb : (nm != nm') = true := by simp [hn]
    have HE := hide (same_no (vr := vr) (vr' := vr') (fs := fs) (ds := ds) (fs' := fs') (ds' := ds') (fun h => hn h.1))
    clear hn
    go_enter Tryz.func83, Tryz.ntmps83
    go_wp2
    go_ret
    exact ⟨ret_bool (unhide HE).symm, (unhide HB) _ _⟩
  subst hn
  have hnb : (nm != nm) = false := by simp
  by_cases hv : vr = vr'
  case neg =>
    have hvb : (vr != vr') = true := by simp [hv]
    have HE := hide (same_no (nm := nm) (nm' := nm) (fs := fs) (ds := ds) (fs' := fs') (ds' := ds') (fun h => hv h.2.1))
    clear hv
    go_enter Tryz.func83, Tryz.ntmps83
    go_wp2
    go_ret
    exact ⟨ret_bool (unhide HE).symm, (unhide HB) _ _⟩
  subst hv
  have hvb : (vr != vr) = false := by simp
  by_cases hfl : fs.length = fs'.length
  case neg =>
    have hlb : ((fs.length : Int) != (fs'.length : Int)) = true := by simp; omega
    have HE := hide (same_no (nm := nm) (nm' := nm) (vr := vr) (vr' := vr) (ds := ds) (ds' := ds') (fun h => hfl (congrArg List.length h.2.2.1)))
    clear hfl
    go_enter Tryz.func83, Tryz.ntmps83
    go_wp2
    go_ret
    exact ⟨ret_bool (unhide HE).symm, (unhide HB) _ _⟩
  by_cases hdl : ds.length = ds'.length
  case neg =>
    have hlb : ((fs.length : Int) != (fs'.length : Int)) = false := by simp; omega
    have hmb : ((ds.length : Int) != (ds'.length : Int)) = true := by simp; omega
    have HE := hide (same_no (nm := nm) (nm' := nm) (vr := vr) (vr' := vr) (fs := fs) (fs' := fs') (fun h => hdl (congrArg List.length h.2.2.2)))
    clear hdl hfl
    go_enter Tryz.func83, Tryz.ntmps83
    go_wp2
    go_ret
    exact ⟨ret_bool (unhide HE).symm, (unhide HB) _ _⟩
  have hlb : ((fs.length : Int) != (fs'.length : Int)) = false := by simp; omega
  have hmb : ((ds.length : Int) != (ds'.length : Int)) = false := by simp; omega
  have HFL := hide hfl
  have HDL := hide hdl
  clear hfl hdl
  go_enter Tryz.func83, Tryz.ntmps83
  go_wp2_with fail
  have hx : ∀ (a b : Array Value) (t : TypeId) (i : Nat), ((w.alloc (.cells a t)).alloc (.cells b t)).cell? ⟨w.heap.size, i, none⟩ = a[i]? ∧ ((w.alloc (.cells a t)).alloc (.cells b t)).cell? ⟨w.heap.size + 1, i, none⟩ = b[i]? := fun a b t i => by
    constructor
    · rw [World.cell?_alloc_lt _ _ _ (by rw [sz1l]; exact Nat.lt_succ_self _), World.cell?_alloc_new]
    · have := World.cell?_alloc_new (w.alloc (.cells a t)) b t i
      rw [sz1l] at this
      exact this
  have hy2 := hx #[.int .i64 nm, .int .i64 vr, .slice fa fs.length fc, .slice da ds.length dc] #[.int .i64 nm, .int .i64 vr, .slice fa' fs'.length fc', .slice da' ds'.length dc'] 94 2
  have hy3 := hx #[.int .i64 nm, .int .i64 vr, .slice fa fs.length fc, .slice da ds.length dc] #[.int .i64 nm, .int .i64 vr, .slice fa' fs'.length fc', .slice da' ds'.length dc'] 94 3
  have HG : Hid (((w.alloc (.cells #[.int .i64 nm, .int .i64 vr, .slice fa fs.length fc, .slice da ds.length dc] 94)).alloc (.cells #[.int .i64 nm, .int .i64 vr, .slice fa' fs'.length fc', .slice da' ds'.length dc'] 94)).heap.size = w.heap.size + 2) := by show _ = _; rw [sz1l, sz1l]
  have hB0 := (unhide HB) (.cells #[.int .i64 nm, .int .i64 vr, .slice fa fs.length fc, .slice da ds.length dc] 94) (.cells #[.int .i64 nm, .int .i64 vr, .slice fa' fs'.length fc', .slice da' ds'.length dc'] 94)
  have P1 := (unhide HF) (.cells #[.int .i64 nm, .int .i64 vr, .slice fa fs.length fc, .slice da ds.length dc] 94) (.cells #[.int .i64 nm, .int .i64 vr, .slice fa' fs'.length fc', .slice da' ds'.length dc'] 94)
  have P2 := (unhide HF') (.cells #[.int .i64 nm, .int .i64 vr, .slice fa fs.length fc, .slice da ds.length dc] 94) (.cells #[.int .i64 nm, .int .i64 vr, .slice fa' fs'.length fc', .slice da' ds'.length dc'] 94)
  have P3 := (unhide HD) (.cells #[.int .i64 nm, .int .i64 vr, .slice fa fs.length fc, .slice da ds.length dc] 94) (.cells #[.int .i64 nm, .int .i64 vr, .slice fa' fs'.length fc', .slice da' ds'.length dc'] 94)
  have P4 := (unhide HD') (.cells #[.int .i64 nm, .int .i64 vr, .slice fa fs.length fc, .slice da ds.length dc] 94) (.cells #[.int .i64 nm, .int .i64 vr, .slice fa' fs'.length fc', .slice da' ds'.length dc'] 94)
  clear HF HF' HD HD' HB hx
  generalize (w.alloc _).alloc _ = W0 at *
  have x2 : W0.cell? ⟨w.heap.size, 2, none⟩ = some (.slice fa fs.length fc) := hy2.1
  have y2 : W0.cell? ⟨w.heap.size + 1, 2, none⟩ = some (.slice fa' fs'.length fc') := hy2.2
  have x3 : W0.cell? ⟨w.heap.size, 3, none⟩ = some (.slice da ds.length dc) := hy3.1
  have y3 : W0.cell? ⟨w.heap.size + 1, 3, none⟩ = some (.slice da' ds'.length dc') := hy3.2
  have hlt1 : w.heap.size < W0.heap.size := by have := unhide HG; omega
  have hlt2 : w.heap.size + 1 < W0.heap.size := by have := unhide HG; omega
  clear hy2 hy3 HG
  go_loopw [5] (fun i w' => ∃ k : Nat, k ≤ fs.length ∧ i = .int .i64 k ∧ Below W0.heap.size W0 w' ∧ ∀ j, j < k → Pk.fst fs j = Pk.fst fs' j ∧ Pk.snd fs j = Pk.snd fs' j) (fun i _ => fs.length - (intOf i).toNat)
  case atStart => exact ⟨0, Nat.zero_le _, rfl, Below.refl _ _, fun j hj => by omega⟩
  case round =>
    obtain ⟨k, hk, rfl, hw, hsame⟩ := hrel
    have HW := hide hw
    have HS := hide hsame
    have j1 : wr.cell? ⟨w.heap.size, 2, none⟩ = _ := (hw.cell hlt1).trans x2
    have j2 : wr.cell? ⟨w.heap.size + 1, 2, none⟩ = _ := (hw.cell hlt2).trans y2
    by_cases hlt : k < fs.length
    · have hlt' : k < fs'.length := by have := unhide HFL; omega
      obtain ⟨_, _, e1, _, hrow⟩ := P1
      injection e1 with e1 _ e3
      subst e1 e3
      obtain ⟨_, _, e1, _, hrow'⟩ := P2
      injection e1 with e1 _ e3
      subst e1 e3
      obtain ⟨b, off, rfl, hb, hc⟩ := hrow (by omega)
      obtain ⟨b', off', rfl, hb', hc'⟩ := hrow' (by omega)
      obtain ⟨c1, c2⟩ := hc k hlt
      obtain ⟨d1, d2⟩ := hc' k hlt'
      rw [← hw.cell hb] at c1 c2
      rw [← hw.cell hb'] at d1 d2
      clear hc hc' hrow hrow' hw hsame
      have hi0 : (0 : Int) ≤ (k : Int) := Int.natCast_nonneg _
      have hi1 : (k : Int) < (fs.length : Int) := by omega
      have hi2 : (k : Int) < (fs'.length : Int) := by omega
      by_cases hA : Pk.fst fs k = Pk.fst fs' k
      · by_cases hB : Pk.snd fs k = Pk.snd fs' k
        · have HA := hide hA
          have HBB := hide hB
          rw [hA] at c1
          rw [hB] at c2
          clear hA hB
          go_wp2_with fail
          go_quiet (fail)
          go_wp2
          go_roundw
          case rel => exact ⟨k + 1, by omega, by go_num, below_drewN (unhide HW) _, fun j hj => by
            rcases Nat.lt_or_ge j k with h | h
            · exact unhide HS j h
            · obtain rfl : j = k := by omega
              exact ⟨unhide HA, unhide HBB⟩⟩
          case measure => simp [intOf]; omega
        · go_wp2_with fail
          go_quiet (fail)
          go_wp2
          go_ret
          exact ⟨ret_bool (same_no (fun h => hB (by rw [h.2.2.1]))).symm, hB0.trans ((below_drewN (unhide HW) _).mono (Nat.le_of_lt hlt1))⟩
      · go_wp2_with fail
        go_quiet (fail)
        go_wp2
        go_ret
        exact ⟨ret_bool (same_no (fun h => hA (by rw [h.2.2.1]))).symm, hB0.trans ((below_drewN (unhide HW) _).mono (Nat.le_of_lt hlt1))⟩
    · obtain rfl : k = fs.length := by omega
      have HFS := hide (list_ext (unhide HFL) (unhide HS))
      have HW0 := hide hw
      have j3 : wr.cell? ⟨w.heap.size, 3, none⟩ = _ := (hw.cell hlt1).trans x3
      have j4 : wr.cell? ⟨w.heap.size + 1, 3, none⟩ = _ := (hw.cell hlt2).trans y3
      clear hw hsame hlt HW HS
      go_wp2_with fail
      go_loopw [6] (fun i w' => ∃ k : Nat, k ≤ ds.length ∧ i = .int .i64 k ∧ Below W0.heap.size W0 w' ∧ ∀ j, j < k → Pk.fst ds j = Pk.fst ds' j ∧ Pk.snd ds j = Pk.snd ds' j) (fun i _ => ds.length - (intOf i).toNat)
      case atStart => exact ⟨0, Nat.zero_le _, rfl, unhide HW0, fun j hj => by omega⟩
      case round =>
        obtain ⟨k, hk, rfl, hw, hsame⟩ := hrel
        have HW := hide hw
        have HS := hide hsame
        have j1 : wr.cell? ⟨w.heap.size, 3, none⟩ = _ := (hw.cell hlt1).trans x3
        have j2 : wr.cell? ⟨w.heap.size + 1, 3, none⟩ = _ := (hw.cell hlt2).trans y3
        by_cases hlt : k < ds.length
        · have hlt' : k < ds'.length := by have := unhide HDL; omega
          obtain ⟨_, _, e1, _, hrow⟩ := P3
          injection e1 with e1 _ e3
          subst e1 e3
          obtain ⟨_, _, e1, _, hrow'⟩ := P4
          injection e1 with e1 _ e3
          subst e1 e3
          obtain ⟨b, off, rfl, hb, hc⟩ := hrow (by omega)
          obtain ⟨b', off', rfl, hb', hc'⟩ := hrow' (by omega)
          obtain ⟨c1, c2⟩ := hc k hlt
          obtain ⟨d1, d2⟩ := hc' k hlt'
          rw [← hw.cell hb] at c1 c2
          rw [← hw.cell hb'] at d1 d2
          clear hc hc' hrow hrow' hw hsame
          have hi0 : (0 : Int) ≤ (k : Int) := Int.natCast_nonneg _
          have hi1 : (k : Int) < (ds.length : Int) := by omega
          have hi2 : (k : Int) < (ds'.length : Int) := by omega
          by_cases hA : Pk.fst ds k = Pk.fst ds' k
          · by_cases hB : Pk.snd ds k = Pk.snd ds' k
            · have HA := hide hA
              have HBB := hide hB
              rw [hA] at c1
              rw [hB] at c2
              clear hA hB
              go_wp2_with fail
              go_quiet (fail)
              go_wp2
              go_roundw
              case rel => exact ⟨k + 1, by omega, by go_num, below_drewN (unhide HW) _, fun j hj => by
                rcases Nat.lt_or_ge j k with h | h
                · exact unhide HS j h
                · obtain rfl : j = k := by omega
                  exact ⟨unhide HA, unhide HBB⟩⟩
              case measure => simp [intOf]; omega
            · go_wp2_with fail
              go_quiet (fail)
              go_wp2
              go_ret
              exact ⟨ret_bool (same_no (fun h => hB (by rw [h.2.2.2]))).symm, hB0.trans ((below_drewN (unhide HW) _).mono (Nat.le_of_lt hlt1))⟩
          · go_wp2_with fail
            go_quiet (fail)
            go_wp2
            go_ret
            exact ⟨ret_bool (same_no (fun h => hA (by rw [h.2.2.2]))).symm, hB0.trans ((below_drewN (unhide HW) _).mono (Nat.le_of_lt hlt1))⟩
        · obtain rfl : k = ds.length := by omega
          have HDS := hide (list_ext (unhide HDL) (unhide HS))
          clear hw hsame hlt
          go_wp2
          go_ret
          exact ⟨ret_bool (same_yes ⟨rfl, rfl, unhide HFS, unhide HDS⟩).symm, hB0.trans ((unhide HW).mono (Nat.le_of_lt hlt1))⟩
end Go.Proofs.YtkhanndmbpemfaaGreatDoor

/- What laws.luPkgs returns: of the same packages true. -/
namespace Go.Proofs.YtkhanndmbpemfaaGreatDoor
open Go.RowKit

set_option maxHeartbeats 4000000 in
set_option maxRecDepth 100000 in
theorem luPkgs_same {N M : Nat → Prop} (w : World) (v v' : Value) (l : List Ix.Pg) (h : Pks N w v l) (h' : Pks M w v' l) :
    Calls Tryz.prog 49 #[v, v'] w fun e w' => e = .returned (.bool true) ∧ Below w.heap.size w w' := by
  obtain ⟨a, cap, rfl, hlen, hrow⟩ := h
  obtain ⟨a', cap', rfl, _, hrow'⟩ := h'
  have hne : ((l.length : Int) != (l.length : Int)) = false := by simp
  go_enter Tryz.func49, Tryz.ntmps49
  go_wp2
  go_loopw [5] (fun i w' => ∃ k : Nat, k ≤ l.length ∧ i = .int .i64 k ∧ Below w.heap.size w w') (fun i _ => l.length - (intOf i).toNat)
  case atStart => exact ⟨0, Nat.zero_le _, rfl, Below.refl _ _⟩
  case round =>
    obtain ⟨k, hk, rfl, hw⟩ := hrel
    have HW := hide hw
    clear hw
    by_cases hlt : k < l.length
    · obtain ⟨b, off, rfl, hb, _, hc⟩ := hrow (by omega)
      obtain ⟨b', off', rfl, hb', _, hc'⟩ := hrow' (by omega)
      obtain ⟨fv, dv, hAt, hf, hd⟩ := hc k hlt
      obtain ⟨fv', dv', hAt', hf', hd'⟩ := hc' k hlt
      clear hc hc' hrow hrow'
      obtain ⟨nm, vr, fs, ds, hpk⟩ : ∃ nm vr fs ds, Ix.pg l k = (nm, vr, fs, ds) := ⟨_, _, _, _, rfl⟩
      rw [hpk] at hAt hf hd hAt' hf' hd'
      dsimp only at hf hd hf' hd'
      obtain ⟨fa, fc, e1⟩ := hf.slice
      obtain ⟨da, dc, e2⟩ := hd.slice
      obtain ⟨fa', fc', e3⟩ := hf'.slice
      obtain ⟨da', dc', e4⟩ := hd'.slice
      subst e1 e2 e3 e4
      have z1 : b < wr.heap.size := Nat.lt_of_lt_of_le hb (unhide HW).size
      have z2 : b' < wr.heap.size := Nat.lt_of_lt_of_le hb' (unhide HW).size
      have kk : ∀ w', Below wr.heap.size wr w' → (w'.cell? ⟨b, off + k * 4, none⟩ = some (.int .i64 nm) ∧ w'.cell? ⟨b, off + k * 4 + 1, none⟩ = some (.int .i64 vr) ∧ w'.cell? ⟨b, off + k * 4 + 2, none⟩ = some (.slice fa fs.length fc) ∧ w'.cell? ⟨b, off + k * 4 + 3, none⟩ = some (.slice da ds.length dc)) ∧ (w'.cell? ⟨b', off' + k * 4, none⟩ = some (.int .i64 nm) ∧ w'.cell? ⟨b', off' + k * 4 + 1, none⟩ = some (.int .i64 vr) ∧ w'.cell? ⟨b', off' + k * 4 + 2, none⟩ = some (.slice fa' fs.length fc') ∧ w'.cell? ⟨b', off' + k * 4 + 3, none⟩ = some (.slice da' ds.length dc')) := fun w' hw' =>
        ⟨hAt.keep (((unhide HW).trans (hw'.mono (unhide HW).size)).block b hb), hAt'.keep (((unhide HW).trans (hw'.mono (unhide HW).size)).block b' hb')⟩
      have HK := hide kk
      have cE : ∀ w', Below wr.heap.size wr w' → Calls Tryz.prog 83 #[.agg #[.int .i64 nm, .int .i64 vr, .slice fa fs.length fc, .slice da ds.length dc], .agg #[.int .i64 nm, .int .i64 vr, .slice fa' fs.length fc', .slice da' ds.length dc']] w' fun e w'' => e = .returned (.bool true) ∧ Below wr.heap.size wr w'' := fun w' hw' => by
        have hb2 := (unhide HW).trans (hw'.mono (unhide HW).size)
        have hsame : same nm vr nm vr fs ds fs ds = true := same_yes ⟨rfl, rfl, rfl, rfl⟩
        exact (lu_any w' nm vr nm vr _ _ _ _ fs ds fs ds (hf.prs.later hb2) (hd.prs.later hb2) (hf'.prs.later hb2) (hd'.prs.later hb2)).mono fun e w'' ⟨h1, h2⟩ => ⟨by rw [h1, hsame], hw'.trans (h2.mono hw'.size)⟩
      have CE := hide cE
      clear kk cE hAt hAt' hf hd hf' hd' hpk
      have hi0 : (0 : Int) ≤ (k : Int) := Int.natCast_nonneg _
      have hi1 : (k : Int) < (l.length : Int) := by omega
      go_wp2_with fail
      refine wq_region (by kernel_rfl) (by kernel_rfl) ?_
      refine wq_move (d := some 17) rfl rfl (by rfl) rfl ?_
      simp only [Act.put, List.setIfInBounds_toArray, List.set_cons_zero, List.set_cons_succ, List.getElem_toArray, List.getElem_cons_zero]
      refine wq_move (d := some 18) rfl rfl (by rfl) rfl ?_
      simp only [Act.put, List.setIfInBounds_toArray, List.set_cons_zero, List.set_cons_succ, List.getElem_toArray, List.getElem_cons_zero, List.getElem_cons_succ]
      refine wq_take (d := some 19) rfl (by rfl) (v := ?_) ?_ ?_
      rotate_left
      · (intro w hCw; have hKw := (unhide HK) w hCw; go_simp <;> with_reducible rfl)
      simp only [Act.put, List.setIfInBounds_toArray, List.set_cons_zero, List.set_cons_succ]
      refine wq_take (d := some 20) rfl (by rfl) (v := ?_) ?_ ?_
      rotate_left
      · (intro w hCw; have hKw := (unhide HK) w hCw; go_simp <;> with_reducible rfl)
      simp only [Act.put, List.setIfInBounds_toArray, List.set_cons_zero, List.set_cons_succ]
      refine wq_move (d := some 21) rfl rfl (by rfl) rfl ?_
      simp only [Act.put, List.setIfInBounds_toArray, List.set_cons_zero, List.set_cons_succ, List.getElem_toArray, List.getElem_cons_zero, List.getElem_cons_succ]
      refine wq_move (d := some 22) rfl rfl (by rfl) rfl ?_
      simp only [Act.put, List.setIfInBounds_toArray, List.set_cons_zero, List.set_cons_succ, List.getElem_toArray, List.getElem_cons_zero, List.getElem_cons_succ]
      refine wq_take (d := some 23) rfl (by rfl) (v := ?_) ?_ ?_
      rotate_left
      · (intro w hCw; have hKw := (unhide HK) w hCw; go_simp <;> with_reducible rfl)
      simp only [Act.put, List.setIfInBounds_toArray, List.set_cons_zero, List.set_cons_succ]
      refine wq_take (d := some 24) rfl (by rfl) (v := ?_) ?_ ?_
      rotate_left
      · (intro w hCw; have hKw := (unhide HK) w hCw; go_simp <;> with_reducible rfl)
      simp only [Act.put, List.setIfInBounds_toArray, List.set_cons_zero, List.set_cons_succ]
      refine wq_call (d := some 25) rfl (by rfl) (hc := (unhide CE)) ?_ ?_
      · (intro w hCw; go_simp)
      simp only [Act.put, List.setIfInBounds_toArray, List.set_cons_zero, List.set_cons_succ]
      refine wq_take (d := some 26) rfl (by rfl) (v := ?_) ?_ ?_
      rotate_left
      · (intro w hCw; have hKw := (unhide HK) w hCw; go_simp <;> with_reducible rfl)
      simp only [Act.put, List.setIfInBounds_toArray, List.set_cons_zero, List.set_cons_succ]
      refine wq_nil ?_
      intro w9 hw9
      go_wp2
      go_roundw
      case rel => exact ⟨k + 1, by omega, by go_num, (unhide HW).trans (hw9.mono (unhide HW).size)⟩
      case measure => simp [intOf]; omega
    · go_wp2
      go_ret
      exact ⟨rfl, unhide HW⟩
end Go.Proofs.YtkhanndmbpemfaaGreatDoor

/- What laws.luDisk returns of the same data: true. -/
namespace Go.Proofs.YtkhanndmbpemfaaGreatDoor
open Go.RowKit

theorem two_boxesD (w : World) (o1 o2 : Obj) : Below w.heap.size w ((w.alloc o1).alloc o2) ∧ ((w.alloc o1).alloc o2).heap[w.heap.size]? = some o1 ∧ ((w.alloc o1).alloc o2).heap[w.heap.size + 1]? = some o2 := by
  have z1 := sz1' w o1
  have B1 := below1 w o1
  have b2 := below1 (w.alloc o1) o2
  have h1 := heap_alloc_new w o1
  have h2 := heap_alloc_new (w.alloc o1) o2
  rw [z1] at h2
  refine ⟨B1.trans (b2.mono B1.size), ?_, h2⟩
  rw [b2.block _ (by omega)]
  exact h1

set_option maxHeartbeats 4000000 in
set_option maxRecDepth 100000 in
theorem luDisk_same {N1 M1 N2 M2 : Nat → Prop} (w : World) (d : Dk.D) (v1 vf v2 u1 uf u2 : Value) (p1 : Pks N1 w v1 d.db) (pf : Ins w vf d.fl) (p2 : Pks M1 w v2 d.jr) (q1 : Pks N2 w u1 d.db) (qf : Ins w uf d.fl) (q2 : Pks M2 w u2 d.jr) :
    Calls Tryz.prog 18 #[dkV v1 vf d.has v2, dkV u1 uf d.has u2] w fun e w' => e = .returned (.bool true) ∧ Below w.heap.size w w' := by
  obtain ⟨db, fl, has, jr⟩ := d
  dsimp only [dkV] at *
  obtain ⟨a1, c1, e1⟩ := p1.slice
  obtain ⟨af, cf, ef⟩ := pf.slice
  obtain ⟨a2, c2, e2⟩ := p2.slice
  obtain ⟨b1, s1, i1⟩ := q1.slice
  obtain ⟨bf, sf, iff'⟩ := qf.slice
  obtain ⟨b2, s2, i2⟩ := q2.slice
  subst e1 ef e2 i1 iff' i2
  obtain ⟨b0, k0, k1⟩ := two_boxesD w (.cells #[.slice a1 db.length c1, .slice af fl.length cf, .bool has, .slice a2 jr.length c2] 31) (.cells #[.slice b1 db.length s1, .slice bf fl.length sf, .bool has, .slice b2 jr.length s2] 31)
  have HA := hide k0
  have HB := hide k1
  have BW := hide b0
  have H0 := hide (And.intro p1 (And.intro pf p2))
  have H1 := hide (And.intro q1 (And.intro qf q2))
  have hh : (has == has) = true := by simp
  clear p1 pf p2 q1 qf q2 b0 k0 k1
  go_enter Tryz.func18, Tryz.ntmps18
  go_wp2_with fail
  generalize World.alloc _ _ = W0 at *
  refine (luPkgs_same _ _ _ db ((unhide H0).1.later (unhide BW)) ((unhide H1).1.later (unhide BW))).mono ?_
  rintro e w1 ⟨rfl, b⟩
  replace HA := hide ((b.block _ (heapLt (unhide HA))).trans (unhide HA))
  replace HB := hide ((b.block _ (heapLt (unhide HB))).trans (unhide HB))
  replace BW := hide ((unhide BW).trans (b.mono (unhide BW).size))
  clear b
  obtain ⟨x0, x1, x2, x3⟩ : _ ∧ _ ∧ _ ∧ _ := ⟨cellOf (unhide HA) 0, cellOf (unhide HA) 1, cellOf (unhide HA) 2, cellOf (unhide HA) 3⟩
  obtain ⟨y0, y1, y2, y3⟩ : _ ∧ _ ∧ _ ∧ _ := ⟨cellOf (unhide HB) 0, cellOf (unhide HB) 1, cellOf (unhide HB) 2, cellOf (unhide HB) 3⟩
  go_wp2_with fail
  refine (luInts_same _ _ _ fl ((unhide H0).2.1.later (unhide BW)) ((unhide H1).2.1.later (unhide BW))).mono ?_
  rintro e w2 ⟨rfl, b⟩
  clear x0 x1 x2 x3 y0 y1 y2 y3
  replace HA := hide ((b.block _ (heapLt (unhide HA))).trans (unhide HA))
  replace HB := hide ((b.block _ (heapLt (unhide HB))).trans (unhide HB))
  replace BW := hide ((unhide BW).trans (b.mono (unhide BW).size))
  clear b
  obtain ⟨x0, x1, x2, x3⟩ : _ ∧ _ ∧ _ ∧ _ := ⟨cellOf (unhide HA) 0, cellOf (unhide HA) 1, cellOf (unhide HA) 2, cellOf (unhide HA) 3⟩
  obtain ⟨y0, y1, y2, y3⟩ : _ ∧ _ ∧ _ ∧ _ := ⟨cellOf (unhide HB) 0, cellOf (unhide HB) 1, cellOf (unhide HB) 2, cellOf (unhide HB) 3⟩
  go_wp2_with fail
  refine (luPkgs_same _ _ _ jr ((unhide H0).2.2.later (unhide BW)) ((unhide H1).2.2.later (unhide BW))).mono ?_
  rintro e w3 ⟨rfl, b⟩
  replace BW := hide ((unhide BW).trans (b.mono (unhide BW).size))
  clear b x0 x1 x2 x3 y0 y1 y2 y3
  go_wp2
  go_ret
  exact ⟨rfl, unhide BW⟩
end Go.Proofs.YtkhanndmbpemfaaGreatDoor
