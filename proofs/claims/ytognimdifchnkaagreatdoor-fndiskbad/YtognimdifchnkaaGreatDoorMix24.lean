import Derived.Test.YtognimdifchnkaaGreatDoorBehindW
import Derived.Test.YtognimdifchnkaaGreatDoorDDDrawW
import Derived.Test.YtognimdifchnkaaGreatDoorDiskDoW
import Derived.Test.YtognimdifchnkaaGreatDoorSDiskW
import Derived.Test.YtognimdifchnkaaGreatDoorMix17
/- What steps do to disks, as data: what is done is ok again; twice it is once; torn and then done it is done; at two places in either order. -/
namespace Go.Proofs.YtognimdifchnkaaGreatDoor
namespace Dk
theorem planOk_nil : Ix.planOk [] = true := by decide +kernel
theorem filesOk_set {fl : List Int} {n : Nat} {x : Int} (h : filesOk fl = true) (hx : inF x = true) : filesOk (fl.set n x) = true := by
  unfold filesOk at *
  rw [Bool.and_eq_true] at *
  refine ⟨by rw [List.length_set]; exact h.1, ?_⟩
  rw [List.all_eq_true] at *
  intro y hy
  rcases List.mem_or_eq_of_mem_set hy with hy | rfl
  · exact h.2 y hy
  · exact hx
theorem ok_make {d : D} (h1 : filesOk d.fl = true) (h2 : Ix.planOk d.db = true) (h3 : Ix.planOk d.jr = true) (h4 : d.has = true ∨ d.jr = []) : d.ok = true := by
  unfold D.ok
  rw [h1, h2, h3]
  rcases h4 with h | h
  · rw [h]; rfl
  · rw [h]; simp
theorem inF_of {x : Int} (h : -2 ≤ x ∧ x ≤ 9) : inF x = true := Pk.inB_true.2 h
theorem ok_step {d : D} {s : S} (h : d.ok = true) (hs : s.ok = true) : (d.step s).ok = true := by
  obtain ⟨h1, h2, h3, h4⟩ := ok_get h
  obtain ⟨hk, hp, hx, hps⟩ := S.ok_get hs
  unfold D.step
  split
  · exact ok_make h1 h2 hps (.inl rfl)
  split
  · exact ok_make (filesOk_set h1 (inF_of ⟨by omega, hx.2⟩)) h2 h3 h4
  split
  · exact ok_make h1 hps h3 h4
  · exact ok_make h1 h2 planOk_nil (.inr rfl)
theorem ok_torn {d : D} {s : S} (h : d.ok = true) : (d.torn s).ok = true := by
  obtain ⟨h1, h2, h3, h4⟩ := ok_get h
  unfold D.torn
  split
  · exact ok_make (filesOk_set h1 (inF_of ⟨by omega, by omega⟩)) h2 h3 h4
  split
  · exact ok_make h1 planOk_nil h3 h4
  · exact h
theorem step_step (d : D) (s : S) : (d.step s).step s = d.step s := by
  unfold D.step
  split
  · rfl
  split
  · dsimp only; rw [List.set_set]
  split
  · rfl
  · rfl
theorem torn_step (d : D) (s : S) : (d.torn s).step s = d.step s := by
  unfold D.step D.torn
  by_cases h2 : s.k = 2
  · rw [if_pos h2, if_neg (by omega), if_pos h2, if_neg (by omega), if_pos h2]
    dsimp only
    rw [List.set_set]
  by_cases h3 : s.k = 3
  · rw [if_neg h2, if_pos h3, if_neg (by omega), if_neg h2, if_pos h3, if_neg (by omega), if_neg h2, if_pos h3]
  · rw [if_neg h2, if_neg h3]
theorem step_file (d : D) (s : S) (h : s.k = 2) : d.step s = { d with fl := d.fl.set s.p.toNat s.x } := by
  unfold D.step
  rw [if_neg (by omega), if_pos h]
theorem step_db (d : D) (s : S) (h : s.k = 3) : d.step s = { d with db := s.ps } := by
  unfold D.step
  rw [if_neg (by omega), if_neg (by omega), if_pos h]
theorem step_jour (d : D) (s : S) (h : s.k = 1) : d.step s = { d with has := true, jr := s.ps } := by
  unfold D.step
  rw [if_pos h]
theorem step_done (d : D) (s : S) (h : s.k = 4) : d.step s = { d with has := false, jr := [] } := by
  unfold D.step
  rw [if_neg (by omega), if_neg (by omega), if_neg (by omega)]
/-- A file at one place, and another at another place, or what else it be: in either order. -/
theorem step_order (d : D) (s t : S) (ht : t.k = 2) (h : s.k = 3 ∨ (s.k = 2 ∧ s.p.toNat ≠ t.p.toNat)) : (d.step s).step t = (d.step t).step s := by
  rcases h with h | ⟨h, hne⟩
  · rw [step_db d s h, step_file _ t ht, step_file d t ht, step_db _ s h]
  · rw [step_file d s h, step_file _ t ht, step_file d t ht, step_file _ s h]
    dsimp only
    rw [List.set_comm _ _ hne]
theorem step_twice (d : D) (s t : S) (hs : s.k = 2) (ht : t.k = 2) (h : s.p = t.p) : (d.step s).step t = d.step t := by
  rw [step_file d s hs, step_file _ t ht, step_file d t ht]
  dsimp only
  rw [h, List.set_set]
end Dk
end Go.Proofs.YtognimdifchnkaaGreatDoor

/- impl.DiskDo, impl.DiskTear, spec.DiskDo, spec.DiskTear on a disk and a step that can be read: the answer can be read. -/
namespace Go.Proofs.YtognimdifchnkaaGreatDoor
open Go.RowKit

def smallD (d : Dk.D) : Prop := smallP d.db ∧ d.fl.length ≤ 1000 ∧ smallP d.jr
theorem smallP.nil : smallP [] := ⟨Nat.zero_le _, fun _ h => by cases h⟩
theorem smallD.none : smallD Dk.D.none := ⟨smallP.nil, Nat.zero_le _, smallP.nil⟩
theorem smallD.ofOk {d : Dk.D} (h : d.ok = true) : smallD d := by
  obtain ⟨gf, h1, h2, _⟩ := Dk.ok_get h
  exact ⟨smallP.ofOk (Ix.planOk_pkgs h1), by have := (Dk.files_get gf).1; omega, smallP.ofOk (Ix.planOk_pkgs h2)⟩
theorem doA_small (d : Dk.D) (s : Dk.S) : smallD (Dk.doA d s).1 := by
  unfold Dk.doA
  by_cases h : d.ok = true ∧ s.ok = true
  · rw [if_pos h]; exact smallD.ofOk (Dk.ok_step h.1 h.2)
  · rw [if_neg h]; exact smallD.none
theorem tearA_small (d : Dk.D) (s : Dk.S) : smallD (Dk.tearA d s).1 := by
  unfold Dk.tearA
  by_cases h : d.ok = true ∧ s.ok = true
  · rw [if_pos h]; exact smallD.ofOk (Dk.ok_torn h.1)
  · rw [if_neg h]; exact smallD.none
theorem PAns.out {B : Nat} {w : World} {v : Value} {l : List El} {ps : List Ix.Pg} (h : PAns B w v l) (hm : l.map (·.1) = ps) (hs : smallP ps) : Pks (fun b => B ≤ b) w v ps ∧ RoomV v ps.length := by
  have he := hs.E hm
  have hp := h.pks he.1 he.2
  have hr := h.room
  have hl : l.length = ps.length := by rw [← hm, List.length_map]
  rw [hm] at hp
  rw [hl] at hr
  exact ⟨hp, hr⟩
theorem DkAns.out {B : Nat} {w : World} {a : Dk.D × Bool} {u : Value} (h : DkAns B w a u) (hs : smallD a.1) : ∃ q1 qf q2, u = .tuple #[dkV q1 qf a.1.has q2, .bool a.2] ∧ DIn w a.1 q1 qf q2 := by
  obtain ⟨v1, vf, v2, e1, e2, rfl, hA, m1, m2⟩ := h
  obtain ⟨p1, r1⟩ := hA.p1.out m1 hs.1
  obtain ⟨p2, r2⟩ := hA.p2.out m2 hs.2.2
  exact ⟨v1, vf, v2, rfl, p1.weak (fun _ _ => trivial), r1, hA.pf.wide (by have := hs.2.1; omega), p2.weak (fun _ _ => trivial), r2⟩
theorem implDo_in (w : World) (d : Dk.D) (s : Dk.S) (v1 uf v2 pv : Value) (hd : DIn w d v1 uf v2) (hs : SIn w s pv) : Calls Tryz.prog 9 #[dkV v1 uf d.has v2, stV s.k s.p s.x pv] w fun e w' => ∃ q1 qf q2, e = .returned (.tuple #[dkV q1 qf (Dk.doA d s).1.has q2, .bool (Dk.doA d s).2]) ∧ DIn w' (Dk.doA d s).1 q1 qf q2 ∧ Below w.heap.size w w' :=
  (implDiskDo_any w d s v1 uf v2 pv hd.p1 hd.r1 hd.pf hd.p2 hd.r2 hs.p hs.r).mono (by
    rintro e w' ⟨u, rfl, h, b⟩
    obtain ⟨q1, qf, q2, rfl, h9⟩ := h.out (doA_small d s)
    exact ⟨q1, qf, q2, rfl, h9, b⟩)
theorem implTear_in (w : World) (d : Dk.D) (s : Dk.S) (v1 uf v2 pv : Value) (hd : DIn w d v1 uf v2) (hs : SIn w s pv) : Calls Tryz.prog 7 #[dkV v1 uf d.has v2, stV s.k s.p s.x pv] w fun e w' => ∃ q1 qf q2, e = .returned (.tuple #[dkV q1 qf (Dk.tearA d s).1.has q2, .bool (Dk.tearA d s).2]) ∧ DIn w' (Dk.tearA d s).1 q1 qf q2 ∧ Below w.heap.size w w' :=
  (implDiskTear_any w d s v1 uf v2 pv hd.p1 hd.r1 hd.pf hd.p2 hd.r2 hs.p hs.r).mono (by
    rintro e w' ⟨u, rfl, h, b⟩
    obtain ⟨q1, qf, q2, rfl, h9⟩ := h.out (tearA_small d s)
    exact ⟨q1, qf, q2, rfl, h9, b⟩)
theorem specDo_in (w : World) (d : Dk.D) (s : Dk.S) (v1 uf v2 pv : Value) (hd : DIn w d v1 uf v2) (hs : SIn w s pv) : Calls Tryz.prog 13 #[dkV v1 uf d.has v2, stV s.k s.p s.x pv] w fun e w' => ∃ q1 qf q2, e = .returned (.tuple #[dkV q1 qf (Dk.doA d s).1.has q2, .bool (Dk.doA d s).2]) ∧ DIn w' (Dk.doA d s).1 q1 qf q2 ∧ Below w.heap.size w w' :=
  (specDiskDo_any w d s v1 uf v2 pv hd.p1 hd.pf hd.p2 hs.p).mono (by
    rintro e w' ⟨u, rfl, h, b⟩
    obtain ⟨q1, qf, q2, rfl, h9⟩ := h.out (doA_small d s)
    exact ⟨q1, qf, q2, rfl, h9, b⟩)
theorem specTear_in (w : World) (d : Dk.D) (s : Dk.S) (v1 uf v2 pv : Value) (hd : DIn w d v1 uf v2) (hs : SIn w s pv) : Calls Tryz.prog 6 #[dkV v1 uf d.has v2, stV s.k s.p s.x pv] w fun e w' => ∃ q1 qf q2, e = .returned (.tuple #[dkV q1 qf (Dk.tearA d s).1.has q2, .bool (Dk.tearA d s).2]) ∧ DIn w' (Dk.tearA d s).1 q1 qf q2 ∧ Below w.heap.size w w' :=
  (specDiskTear_any w d s v1 uf v2 pv hd.p1 hd.pf hd.p2 hs.p).mono (by
    rintro e w' ⟨u, rfl, h, b⟩
    obtain ⟨q1, qf, q2, rfl, h9⟩ := h.out (tearA_small d s)
    exact ⟨q1, qf, q2, rfl, h9, b⟩)
theorem luDisk_in (w : World) (d : Dk.D) (v1 vf v2 u1 uf u2 : Value) (h : DIn w d v1 vf v2) (k : DIn w d u1 uf u2) :
    Calls Tryz.prog 8 #[dkV v1 vf d.has v2, dkV u1 uf d.has u2] w fun e w' => e = .returned (.bool true) ∧ Below w.heap.size w w' :=
  luDisk_same w d v1 vf v2 u1 uf u2 h.p1 h.pf h.p2 k.p1 k.pf k.p2
theorem DIn.forms {w : World} {d : Dk.D} {v1 uf v2 : Value} (h : DIn w d v1 uf v2) : ∃ a1 c1 af cf a2 c2, v1 = .slice a1 d.db.length c1 ∧ uf = .slice af d.fl.length cf ∧ v2 = .slice a2 d.jr.length c2 := by
  obtain ⟨a1, c1, i1⟩ := h.p1.slice
  obtain ⟨af, cf, i2⟩ := h.pf.slice
  obtain ⟨a2, c2, i3⟩ := h.p2.slice
  exact ⟨a1, c1, af, cf, a2, c2, i1, i2, i3⟩
theorem doA_no {d : Dk.D} {s : Dk.S} (h : ¬ (d.ok = true ∧ s.ok = true)) : Dk.doA d s = (⟨[], [], false, []⟩, false) := by unfold Dk.doA; rw [if_neg h]; rfl
theorem doA_yes {d : Dk.D} {s : Dk.S} (h : d.ok = true) (h' : s.ok = true) : Dk.doA d s = (d.step s, true) := by unfold Dk.doA; rw [if_pos ⟨h, h'⟩]
theorem tearA_no {d : Dk.D} {s : Dk.S} (h : ¬ (d.ok = true ∧ s.ok = true)) : Dk.tearA d s = (⟨[], [], false, []⟩, false) := by unfold Dk.tearA; rw [if_neg h]; rfl
theorem tearA_yes {d : Dk.D} {s : Dk.S} (h : d.ok = true) (h' : s.ok = true) : Dk.tearA d s = (d.torn s, true) := by unfold Dk.tearA; rw [if_pos ⟨h, h'⟩]
end Go.Proofs.YtognimdifchnkaaGreatDoor
