/- A row of steps: as data (what they do one behind the other; by which steps packages are put in), such a row that can be read, and one of one's own. -/
import Derived.Test.YtpjpgofllnnemaaDoorSDoStW
namespace Go.Proofs.YtpjpgofllnnemaaDoor
open Go.RowKit

namespace Dk
/-- Steps done one behind the other. -/
def run (d : D) (l : List S) : D := l.foldl D.step d
theorem run_snoc (d : D) (l : List S) (s : S) : run d (l ++ [s]) = (run d l).step s := by unfold run; rw [List.foldl_append]; rfl
theorem run_take {d : D} {l : List S} {k : Nat} {s : S} (h : l[k]? = some s) : run d (l.take (k + 1)) = (run d (l.take k)).step s := by
  rw [List.take_add_one, h]
  exact run_snoc _ _ _
/-- Behind so many, the next one torn or not. -/
def till (d : D) (l : List S) (cut : Int) (torn : Bool) : D :=
  if torn = true ∧ 0 ≤ cut ∧ cut < l.length then (run d (l.take cut.toNat)).torn (l.getD cut.toNat ⟨0, 0, 0, []⟩) else run d (l.take cut.toNat)
/-- The places at which something else is to be. -/
def fileSteps (a b : List Int) (n : Nat) : List S := ((List.range n).filter fun i => Ky.nth a i != Ky.nth b i).map fun i : Nat => (⟨2, (i : Int), Ky.nth a i, []⟩ : S)
theorem fileSteps_ne {a b : List Int} {n : Nat} (h : (Ky.nth a n != Ky.nth b n) = true) : fileSteps a b (n + 1) = fileSteps a b n ++ [⟨2, (n : Int), Ky.nth a n, []⟩] := by
  unfold fileSteps
  rw [List.range_succ, List.filter_append, List.map_append]
  simp [h]
theorem fileSteps_eq {a b : List Int} {n : Nat} (h : (Ky.nth a n != Ky.nth b n) = false) : fileSteps a b (n + 1) = fileSteps a b n := by
  unfold fileSteps
  rw [List.range_succ, List.filter_append, List.map_append]
  simp [h]
theorem fileSteps_len (a b : List Int) (n : Nat) : (fileSteps a b n).length ≤ n := by
  unfold fileSteps
  rw [List.length_map]
  exact Nat.le_trans (List.length_filter_le _ _) (by rw [List.length_range]; exact Nat.le_refl _)
/-- By which steps a disk is mended, and by which packages are put in. -/
def mends (fl : List Int) (ps : List Ix.Pg) : List S := fileSteps (Ix.filesTo ps ps.length) fl 6 ++ [⟨3, 0, 0, ps⟩, ⟨4, 0, 0, []⟩]
def steps (fl : List Int) (ps : List Ix.Pg) : List S := ⟨1, 0, 0, ps⟩ :: mends fl ps
theorem steps_len (fl : List Int) (ps : List Ix.Pg) : (steps fl ps).length ≤ 9 ∧ 3 ≤ (steps fl ps).length := by
  have h := fileSteps_len (Ix.filesTo ps ps.length) fl 6
  unfold steps mends
  rw [List.length_cons, List.length_append]
  simp only [List.length_cons, List.length_nil]
  omega
theorem fileSteps_mem {a b : List Int} {n : Nat} {s : S} (h : s ∈ fileSteps a b n) : ∃ i : Nat, i < n ∧ s = ⟨2, (i : Int), Ky.nth a i, []⟩ ∧ Ky.nth a i ≠ Ky.nth b i := by
  unfold fileSteps at h
  obtain ⟨i, hi, rfl⟩ := List.mem_map.1 h
  obtain ⟨h1, h2⟩ := List.mem_filter.1 hi
  exact ⟨i, List.mem_range.1 h1, rfl, by simpa using h2⟩
theorem steps_mem {fl : List Int} {ps : List Ix.Pg} {s : S} (h : s ∈ steps fl ps) : (s = ⟨1, 0, 0, ps⟩ ∨ s = ⟨3, 0, 0, ps⟩ ∨ s = ⟨4, 0, 0, []⟩) ∨ ∃ i : Nat, i < 6 ∧ s = ⟨2, (i : Int), Ky.nth (Ix.filesTo ps ps.length) i, []⟩ ∧ Ky.nth (Ix.filesTo ps ps.length) i ≠ Ky.nth fl i := by
  unfold steps mends at h
  rcases List.mem_cons.1 h with rfl | h
  · exact .inl (.inl rfl)
  rcases List.mem_append.1 h with h | h
  · exact .inr (fileSteps_mem h)
  · simp only [List.mem_cons, List.not_mem_nil, or_false] at h
    exact .inl (.inr h)
/-- A step that can be done to a disk with so many files. -/
def canDo (n : Nat) (s : S) : Prop := (s.k = 1 ∨ s.k = 2 ∨ s.k = 3 ∨ s.k = 4) ∧ 0 ≤ s.p ∧ s.p < n ∧ s.ps.length ≤ 1000
theorem step_fl (d : D) (s : S) : (d.step s).fl.length = d.fl.length := by
  unfold D.step
  split
  · rfl
  · split
    · exact List.length_set ..
    · split <;> rfl
theorem run_fl : ∀ (l : List S) (d : D), (run d l).fl.length = d.fl.length
  | [], _ => rfl
  | s :: t, d => by
    show (run (d.step s) t).fl.length = _
    rw [run_fl t, step_fl]
theorem steps_can {fl : List Int} {ps : List Ix.Pg} (hl : ps.length ≤ 1000) : ∀ s ∈ steps fl ps, canDo 6 s := fun s hs => by
  rcases steps_mem hs with (rfl | rfl | rfl) | ⟨i, hi, rfl, _⟩
  · exact ⟨.inl rfl, by show (0 : Int) ≤ 0; omega, by show (0 : Int) < 6; omega, hl⟩
  · exact ⟨.inr (.inr (.inl rfl)), by show (0 : Int) ≤ 0; omega, by show (0 : Int) < 6; omega, hl⟩
  · exact ⟨.inr (.inr (.inr rfl)), by show (0 : Int) ≤ 0; omega, by show (0 : Int) < 6; omega, by show (0 : Nat) ≤ 1000; omega⟩
  · exact ⟨.inr (.inl rfl), by show (0 : Int) ≤ (i : Int); omega, by show (i : Int) < ((6 : Nat) : Int); omega, by show (0 : Nat) ≤ 1000; omega⟩
end Dk

/-- A step as it lies. -/
def SAt (w : World) (b off : Nat) (s : Dk.S) (pv : Value) : Prop :=
  w.cell? ⟨b, off, none⟩ = some (.int .i64 s.k) ∧ w.cell? ⟨b, off + 1, none⟩ = some (.int .i64 s.p) ∧ w.cell? ⟨b, off + 2, none⟩ = some (.int .i64 s.x) ∧ w.cell? ⟨b, off + 3, none⟩ = some pv
theorem SAt.keep {w w' : World} {b off : Nat} {s : Dk.S} {pv : Value} (h : SAt w b off s pv) (hb : w'.heap[b]? = w.heap[b]?) : SAt w' b off s pv := by
  obtain ⟨h0, h1, h2, h3⟩ := h
  have e : ∀ o, w'.cell? ⟨b, o, none⟩ = w.cell? ⟨b, o, none⟩ := fun o => World.cell?_of_block hb
  exact ⟨by rw [e]; exact h0, by rw [e]; exact h1, by rw [e]; exact h2, by rw [e]; exact h3⟩
/-- A slice of steps that can be read, all its blocks among N. -/
def Sts (N : Nat → Prop) (w : World) (v : Value) (l : List Dk.S) : Prop :=
  ∃ a cap, v = .slice a l.length cap ∧ l.length ≤ 1000000000 ∧ (0 < l.length → ∃ b off, a = some ⟨b, off, none⟩ ∧ b < w.heap.size ∧ N b ∧ ∀ i (s : Dk.S), l[i]? = some s → ∃ pv, SAt w b (off + i * 4) s pv ∧ Pks N w pv s.ps)
theorem Sts.keep {N : Nat → Prop} {w w' : World} {v : Value} {l : List Dk.S} (h : Sts N w v l) (hs : w.heap.size ≤ w'.heap.size) (hk : ∀ k, k < w.heap.size → N k → w'.heap[k]? = w.heap[k]?) : Sts N w' v l := by
  obtain ⟨a, cap, hv, hl, hr⟩ := h
  refine ⟨a, cap, hv, hl, fun hp => ?_⟩
  obtain ⟨b, off, ha, hbs, hN, hc⟩ := hr hp
  refine ⟨b, off, ha, Nat.lt_of_lt_of_le hbs hs, hN, fun i s hi => ?_⟩
  obtain ⟨pv, h1, h2⟩ := hc i s hi
  exact ⟨pv, h1.keep (hk b hbs hN), h2.keep hs hk⟩
theorem Sts.later {N : Nat → Prop} {w w' : World} {v : Value} {l : List Dk.S} (h : Sts N w v l) (hb : Below w.heap.size w w') : Sts N w' v l :=
  h.keep hb.size (fun k hk _ => hb.block k hk)
theorem Sts.slice {N : Nat → Prop} {w : World} {v : Value} {l : List Dk.S} (h : Sts N w v l) : ∃ a cap, v = .slice a l.length cap := by
  obtain ⟨a, cap, hv, _⟩ := h
  exact ⟨a, cap, hv⟩
theorem Sts.weak {N N' : Nat → Prop} {w : World} {v : Value} {l : List Dk.S} (h : Sts N w v l) (hN : ∀ b, N b → N' b) : Sts N' w v l := by
  obtain ⟨a, cap, hv, hl, hr⟩ := h
  refine ⟨a, cap, hv, hl, fun hp => ?_⟩
  obtain ⟨b, off, ha, hbs, h1, hc⟩ := hr hp
  refine ⟨b, off, ha, hbs, hN b h1, fun i s hi => ?_⟩
  obtain ⟨pv, h2, h3⟩ := hc i s hi
  exact ⟨pv, h2, h3.weak hN⟩
theorem Sts.stays {N M : Nat → Prop} {w w' : World} {v : Value} {l : List Dk.S} (h : Sts N w v l) (hs : Stays M w w') (hN : ∀ b, N b → ¬ M b) : Sts N w' v l :=
  h.keep hs.size (fun k hk hn => hs.block k hk (hN k hn))

/-- A step, the value of its packages, and these. -/
abbrev SEl := Dk.S × Value × List El
def flatS (l : List SEl) : List Value := l.flatMap fun e => [.int .i64 e.1.k, .int .i64 e.1.p, .int .i64 e.1.x, e.2.1]
theorem flatS_snoc (l : List SEl) (e : SEl) : flatS (l ++ [e]) = flatS l ++ [.int .i64 e.1.k, .int .i64 e.1.p, .int .i64 e.1.x, e.2.1] := by unfold flatS; rw [List.flatMap_append]; rfl
theorem flatS_app (a b : List SEl) : flatS (a ++ b) = flatS a ++ flatS b := by unfold flatS; rw [List.flatMap_append]
theorem flatS_at : ∀ (l : List SEl) (i : Nat) (e : SEl), l[i]? = some e → (flatS l)[i * 4]? = some (.int .i64 e.1.k) ∧ (flatS l)[i * 4 + 1]? = some (.int .i64 e.1.p) ∧ (flatS l)[i * 4 + 2]? = some (.int .i64 e.1.x) ∧ (flatS l)[i * 4 + 3]? = some e.2.1
  | [], i, e, h => by simp at h
  | x :: l, 0, e, h => by
    injection h with h
    subst h
    exact ⟨rfl, rfl, rfl, rfl⟩
  | x :: l, i + 1, e, h => by
    have := flatS_at l i e (by simpa using h)
    have e0 : flatS (x :: l) = .int .i64 x.1.k :: .int .i64 x.1.p :: .int .i64 x.1.x :: x.2.1 :: flatS l := rfl
    have e1 : (i + 1) * 4 = i * 4 + 1 + 1 + 1 + 1 := by omega
    rw [e0, e1]
    exact ⟨this.1, this.2.1, this.2.2.1, this.2.2.2⟩
/-- A step's packages in rows of their own. -/
structure StO (B : Nat) (w : World) (e : SEl) : Prop where
  p : PAns B w e.2.1 e.2.2
  m : e.2.2.map (·.1) = e.1.ps
  s : smallE e.2.2
theorem StO.later {B : Nat} {w w' : World} {e : SEl} (h : StO B w e) (hb : Below w.heap.size w w') : StO B w' e := ⟨h.p.later hb, h.m, h.s⟩
theorem StO.base {B B' : Nat} {w : World} {e : SEl} (h : StO B w e) (hB : B' ≤ B) : StO B' w e := ⟨h.p.base hB, h.m, h.s⟩
theorem StO.nil (B : Nat) (w : World) (s : Dk.S) (h : s.ps = []) : StO B w (s, .slice none 0 0, []) := ⟨PAns.nil B w, h.symm, Nat.zero_le _, fun _ h => by cases h⟩
/-- A row of steps of one's own. -/
structure SOwn (B : Nat) (w : World) (v : Value) (l : List SEl) : Prop where
  own : w.ownsRow B 34 4 v l.length (flatS l)
  el : ∀ e ∈ l, StO B w e
theorem PAns.notStep {B : Nat} {w : World} {v : Value} {l : List El} (h : PAns B w v l) {g : Nat} {c : Array Value} (hg : w.heap[g]? = some (.cells c 34 (0, 0))) : ¬ blkP v l g := by
  rintro (hb | ⟨e, he, hb | hb⟩)
  · exact own_ne h.own hg (by decide) hb
  · exact own_ne (h.el e he).f hg (by decide) hb
  · exact own_ne (h.el e he).d hg (by decide) hb
theorem SOwn.later {B : Nat} {w w' : World} {v : Value} {l : List SEl} (h : SOwn B w v l) (hb : Below w.heap.size w w') : SOwn B w' v l := ⟨own_later h.own hb, fun e he => (h.el e he).later hb⟩
theorem SOwn.base {B B' : Nat} {w : World} {v : Value} {l : List SEl} (h : SOwn B w v l) (hB : B' ≤ B) : SOwn B' w v l := ⟨own_base' h.own hB, fun e he => (h.el e he).base hB⟩
/-- More behind. -/
theorem SOwn.app {B : Nat} {w w2 : World} {v v' : Value} {l m : List SEl} (h : SOwn B w v l) (hg : w.grownBy w2 v.ownBlock) (ho : w2.ownsRow B 34 4 v' (l.length + m.length) (flatS l ++ flatS m)) (hm : ∀ e ∈ m, StO B w e) : SOwn B w2 v' (l ++ m) := by
  have kp : ∀ e : SEl, StO B w e → StO B w2 e := fun e he => ⟨he.p.keep (fun g hb => hg.block g (he.p.lt g hb).2 (fun e2 => by
    obtain ⟨_, c, hc⟩ := own_row h.own g e2.symm
    exact he.p.notStep hc hb)), he.m, he.s⟩
  refine ⟨by rw [flatS_app, List.length_append]; exact ho, fun x hx => ?_⟩
  rcases List.mem_append.1 hx with hx | hx
  · exact kp x (h.el x hx)
  · exact kp x (hm x hx)
theorem SOwn.sts {B : Nat} {w : World} {v : Value} {l : List SEl} (h : SOwn B w v l) (hl : l.length ≤ 1000000) : Sts (fun b => B ≤ b) w v (l.map (·.1)) := by
  have hlen : (l.map (·.1)).length = l.length := List.length_map _
  rcases own_shape h.own with ⟨hv, hn⟩ | ⟨g, cap, hv, hb, hg⟩
  · exact ⟨none, 0, by rw [hlen, hv, hn], by omega, fun hp => by omega⟩
  · subst hv
    refine ⟨some ⟨g, 0, none⟩, cap, by rw [hlen], by omega, fun _ => ⟨g, 0, rfl, hg, hb, fun i s hi => ?_⟩⟩
    rw [List.getElem?_map] at hi
    obtain ⟨e, he, rfl⟩ := Option.map_eq_some_iff.1 hi
    obtain ⟨h0, h1, h2, h3⟩ := flatS_at l i _ he
    have hE := h.el e (List.mem_of_getElem? he)
    refine ⟨e.2.1, ?_, ?_⟩
    · rw [Nat.zero_add]
      exact ⟨own_cell h.own _ _ h0, own_cell h.own _ _ h1, own_cell h.own _ _ h2, own_cell h.own _ _ h3⟩
    · rw [← hE.m]
      exact hE.p.pks hE.s.1 hE.s.2
end Go.Proofs.YtpjpgofllnnemaaDoor
