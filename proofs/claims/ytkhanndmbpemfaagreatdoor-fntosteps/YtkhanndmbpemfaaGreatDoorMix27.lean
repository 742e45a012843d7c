import Derived.Test.YtkhanndmbpemfaaGreatDoorMix26
import Derived.Test.YtkhanndmbpemfaaGreatDoorSDoW
import Derived.Test.YtkhanndmbpemfaaGreatDoorBehindW
import Derived.Test.YtkhanndmbpemfaaGreatDoorMix18
import Derived.Test.YtkhanndmbpemfaaGreatDoorMix19
import Derived.Test.YtkhanndmbpemfaaGreatDoorMix20
/- What spec.DrawDiskDo returns: a disk and a step that can be read. -/
namespace Go.Proofs.YtkhanndmbpemfaaGreatDoor
open Go.RowKit

attribute [local go_sem ↓] Go.wp_at_zero Go.wp_at_succ

/-- A step that can be read. -/
structure SIn (w : World) (s : Dk.S) (pv : Value) : Prop where
  p : Pks (fun _ => True) w pv s.ps
  r : RoomV pv s.ps.length
theorem SIn.later {w w' : World} {s : Dk.S} {pv : Value} (h : SIn w s pv) (b : Below w.heap.size w w') : SIn w' s pv := ⟨h.p.later b, h.r⟩

/-- The same, all blocks from K on. -/
structure DFar (K : Nat) (w : World) (D : Dk.D) (v1 uf v2 : Value) : Prop where
  p1 : Pks (fun b => K ≤ b) w v1 D.db
  r1 : RoomV v1 D.db.length
  pf : InsN (fun b => K ≤ b) w uf D.fl
  p2 : Pks (fun b => K ≤ b) w v2 D.jr
  r2 : RoomV v2 D.jr.length
structure SFar (K : Nat) (w : World) (s : Dk.S) (pv : Value) : Prop where
  p : Pks (fun b => K ≤ b) w pv s.ps
  r : RoomV pv s.ps.length
theorem DFar.din {K : Nat} {w : World} {D : Dk.D} {v1 uf v2 : Value} (h : DFar K w D v1 uf v2) : DIn w D v1 uf v2 := ⟨h.p1.weak (fun _ _ => trivial), h.r1, h.pf.ins, h.p2.weak (fun _ _ => trivial), h.r2⟩
theorem SFar.sin {K : Nat} {w : World} {s : Dk.S} {pv : Value} (h : SFar K w s pv) : SIn w s pv := ⟨h.p.weak (fun _ _ => trivial), h.r⟩
theorem DFar.keep {K : Nat} {w w' : World} {D : Dk.D} {v1 uf v2 : Value} (h : DFar K w D v1 uf v2) (hs : w.heap.size ≤ w'.heap.size) (hk : ∀ k, K ≤ k → w'.heap[k]? = w.heap[k]?) : DFar K w' D v1 uf v2 :=
  ⟨h.p1.keep hs (fun k _ x => hk k x), h.r1, h.pf.keep hs (fun k _ x => hk k x), h.p2.keep hs (fun k _ x => hk k x), h.r2⟩
theorem SFar.keep {K : Nat} {w w' : World} {s : Dk.S} {pv : Value} (h : SFar K w s pv) (hs : w.heap.size ≤ w'.heap.size) (hk : ∀ k, K ≤ k → w'.heap[k]? = w.heap[k]?) : SFar K w' s pv := ⟨h.p.keep hs (fun k _ x => hk k x), h.r⟩

end Go.Proofs.YtkhanndmbpemfaaGreatDoor

/- spec.DiskDo and spec.DiskTear: the disk behind a step, in rows of its own, and whether. -/
namespace Go.Proofs.YtkhanndmbpemfaaGreatDoor
open Go.RowKit

attribute [local go_sem ↓] Go.wp_at_zero Go.wp_at_succ

end Go.Proofs.YtkhanndmbpemfaaGreatDoor

/- What steps do to disks, as data: what is done is ok again; twice it is once; torn and then done it is done; at two places in either order. -/
namespace Go.Proofs.YtkhanndmbpemfaaGreatDoor
namespace Dk
theorem planOk_nil : Ix.planOk [] = true := by decide +kernel
theorem filesOk_set {fl : List Int} {n : Nat} {x : Int} (h : filesOk fl = true) (hx : inF x = true) : filesOk (fl.set n x) = true := by
  unfold filesOk at *
  rw [Bool.and_eq_true] at *
  refine ⟨by rw [List.length_set]; exact h.1, ?_⟩
  rw [List.all_eq_true] at *
  intro y hy
  rcases List.mem_or_eq_of_mem_set hy with hy | rfl
  · exact h.2 y hy
  · exact hx
theorem ok_make {d : D} (h1 : filesOk d.fl = true) (h2 : Ix.planOk d.db = true) (h3 : Ix.planOk d.jr = true) (h4 : d.has = true ∨ d.jr = []) : d.ok = true := by
  unfold D.ok
  rw [h1, h2, h3]
  rcases h4 with h | h
  · rw [h]; rfl
  · rw [h]; simp
theorem inF_of {x : Int} (h : -2 ≤ x ∧ x ≤ 9) : inF x = true := Pk.inB_true.2 h
theorem ok_step {d : D} {s : S} (h : d.ok = true) (hs : s.ok = true) : (d.step s).ok = true := by
  obtain ⟨h1, h2, h3, h4⟩ := ok_get h
  obtain ⟨hk, hp, hx, hps⟩ := S.ok_get hs
  unfold D.step
  split
  · exact ok_make h1 h2 hps (.inl rfl)
  split
  · exact ok_make (filesOk_set h1 (inF_of ⟨by omega, hx.2⟩)) h2 h3 h4
  split
  · exact ok_make h1 hps h3 h4
  · exact ok_make h1 h2 planOk_nil (.inr rfl)
theorem ok_torn {d : D} {s : S} (h : d.ok = true) : (d.torn s).ok = true := by
  obtain ⟨h1, h2, h3, h4⟩ := ok_get h
  unfold D.torn
  split
  · exact ok_make (filesOk_set h1 (inF_of ⟨by omega, by omega⟩)) h2 h3 h4
  split
  · exact ok_make h1 planOk_nil h3 h4
  · exact h
theorem step_step (d : D) (s : S) : (d.step s).step s = d.step s := by
  unfold D.step
  split
  · rfl
  split
  · dsimp only; rw [List.set_set]
  split
  · rfl
  · rfl
theorem torn_step (d : D) (s : S) : (d.torn s).step s = d.step s := by
  unfold D.step D.torn
  by_cases h2 : s.k = 2
  · rw [if_pos h2, if_neg (by omega), if_pos h2, if_neg (by omega), if_pos h2]
    dsimp only
    rw [List.set_set]
  by_cases h3 : s.k = 3
  · rw [if_neg h2, if_pos h3, if_neg (by omega), if_neg h2, if_pos h3, if_neg (by omega), if_neg h2, if_pos h3]
  · rw [if_neg h2, if_neg h3]
theorem step_file (d : D) (s : S) (h : s.k = 2) : d.step s = { d with fl := d.fl.set s.p.toNat s.x } := by
  unfold D.step
  rw [if_neg (by omega), if_pos h]
theorem step_db (d : D) (s : S) (h : s.k = 3) : d.step s = { d with db := s.ps } := by
  unfold D.step
  rw [if_neg (by omega), if_neg (by omega), if_pos h]
theorem step_jour (d : D) (s : S) (h : s.k = 1) : d.step s = { d with has := true, jr := s.ps } := by
  unfold D.step
  rw [if_pos h]
theorem step_done (d : D) (s : S) (h : s.k = 4) : d.step s = { d with has := false, jr := [] } := by
  unfold D.step
  rw [if_neg (by omega), if_neg (by omega), if_neg (by omega)]
/-- A file at one place, and another at another place, or what else it be: in either order. -/
theorem step_order (d : D) (s t : S) (ht : t.k = 2) (h : s.k = 3 ∨ (s.k = 2 ∧ s.p.toNat ≠ t.p.toNat)) : (d.step s).step t = (d.step t).step s := by
  rcases h with h | ⟨h, hne⟩
  · rw [step_db d s h, step_file _ t ht, step_file d t ht, step_db _ s h]
  · rw [step_file d s h, step_file _ t ht, step_file d t ht, step_file _ s h]
    dsimp only
    rw [List.set_comm _ _ hne]
theorem step_twice (d : D) (s t : S) (hs : s.k = 2) (ht : t.k = 2) (h : s.p = t.p) : (d.step s).step t = d.step t := by
  rw [step_file d s hs, step_file _ t ht, step_file d t ht]
  dsimp only
  rw [h, List.set_set]
end Dk
end Go.Proofs.YtkhanndmbpemfaaGreatDoor

/- impl.DiskDo, impl.DiskTear, spec.DiskDo, spec.DiskTear on a disk and a step that can be read: the answer can be read. -/
namespace Go.Proofs.YtkhanndmbpemfaaGreatDoor
open Go.RowKit

def smallD (d : Dk.D) : Prop := smallP d.db ∧ d.fl.length ≤ 1000 ∧ smallP d.jr
theorem smallP.nil : smallP [] := ⟨Nat.zero_le _, fun _ h => by cases h⟩
theorem smallD.none : smallD Dk.D.none := ⟨smallP.nil, Nat.zero_le _, smallP.nil⟩
theorem smallD.ofOk {d : Dk.D} (h : d.ok = true) : smallD d := by
  obtain ⟨gf, h1, h2, _⟩ := Dk.ok_get h
  exact ⟨smallP.ofOk (Ix.planOk_pkgs h1), by have := (Dk.files_get gf).1; omega, smallP.ofOk (Ix.planOk_pkgs h2)⟩
theorem doA_small (d : Dk.D) (s : Dk.S) : smallD (Dk.doA d s).1 := by
  unfold Dk.doA
  by_cases h : d.ok = true ∧ s.ok = true
  · rw [if_pos h]; exact smallD.ofOk (Dk.ok_step h.1 h.2)
  · rw [if_neg h]; exact smallD.none
theorem tearA_small (d : Dk.D) (s : Dk.S) : smallD (Dk.tearA d s).1 := by
  unfold Dk.tearA
  by_cases h : d.ok = true ∧ s.ok = true
  · rw [if_pos h]; exact smallD.ofOk (Dk.ok_torn h.1)
  · rw [if_neg h]; exact smallD.none
theorem PAns.out {B : Nat} {w : World} {v : Value} {l : List El} {ps : List Ix.Pg} (h : PAns B w v l) (hm : l.map (·.1) = ps) (hs : smallP ps) : Pks (fun b => B ≤ b) w v ps ∧ RoomV v ps.length := by
  have he := hs.E hm
  have hp := h.pks he.1 he.2
  have hr := h.room
  have hl : l.length = ps.length := by rw [← hm, List.length_map]
  rw [hm] at hp
  rw [hl] at hr
  exact ⟨hp, hr⟩
theorem DkAns.out {B : Nat} {w : World} {a : Dk.D × Bool} {u : Value} (h : DkAns B w a u) (hs : smallD a.1) : ∃ q1 qf q2, u = .tuple #[dkV q1 qf a.1.has q2, .bool a.2] ∧ DIn w a.1 q1 qf q2 := by
  obtain ⟨v1, vf, v2, e1, e2, rfl, hA, m1, m2⟩ := h
  obtain ⟨p1, r1⟩ := hA.p1.out m1 hs.1
  obtain ⟨p2, r2⟩ := hA.p2.out m2 hs.2.2
  exact ⟨v1, vf, v2, rfl, p1.weak (fun _ _ => trivial), r1, hA.pf.wide (by have := hs.2.1; omega), p2.weak (fun _ _ => trivial), r2⟩
theorem implDo_in (w : World) (d : Dk.D) (s : Dk.S) (v1 uf v2 pv : Value) (hd : DIn w d v1 uf v2) (hs : SIn w s pv) : Calls Tryz.prog 19 #[dkV v1 uf d.has v2, stV s.k s.p s.x pv] w fun e w' => ∃ q1 qf q2, e = .returned (.tuple #[dkV q1 qf (Dk.doA d s).1.has q2, .bool (Dk.doA d s).2]) ∧ DIn w' (Dk.doA d s).1 q1 qf q2 ∧ Below w.heap.size w w' :=
  (implDiskDo_any w d s v1 uf v2 pv hd.p1 hd.r1 hd.pf hd.p2 hd.r2 hs.p hs.r).mono (by
    rintro e w' ⟨u, rfl, h, b⟩
    obtain ⟨q1, qf, q2, rfl, h9⟩ := h.out (doA_small d s)
    exact ⟨q1, qf, q2, rfl, h9, b⟩)
theorem implTear_in (w : World) (d : Dk.D) (s : Dk.S) (v1 uf v2 pv : Value) (hd : DIn w d v1 uf v2) (hs : SIn w s pv) : Calls Tryz.prog 20 #[dkV v1 uf d.has v2, stV s.k s.p s.x pv] w fun e w' => ∃ q1 qf q2, e = .returned (.tuple #[dkV q1 qf (Dk.tearA d s).1.has q2, .bool (Dk.tearA d s).2]) ∧ DIn w' (Dk.tearA d s).1 q1 qf q2 ∧ Below w.heap.size w w' :=
  (implDiskTear_any w d s v1 uf v2 pv hd.p1 hd.r1 hd.pf hd.p2 hd.r2 hs.p hs.r).mono (by
    rintro e w' ⟨u, rfl, h, b⟩
    obtain ⟨q1, qf, q2, rfl, h9⟩ := h.out (tearA_small d s)
    exact ⟨q1, qf, q2, rfl, h9, b⟩)
theorem luDisk_in (w : World) (d : Dk.D) (v1 vf v2 u1 uf u2 : Value) (h : DIn w d v1 vf v2) (k : DIn w d u1 uf u2) :
    Calls Tryz.prog 18 #[dkV v1 vf d.has v2, dkV u1 uf d.has u2] w fun e w' => e = .returned (.bool true) ∧ Below w.heap.size w w' :=
  luDisk_same w d v1 vf v2 u1 uf u2 h.p1 h.pf h.p2 k.p1 k.pf k.p2
theorem DIn.forms {w : World} {d : Dk.D} {v1 uf v2 : Value} (h : DIn w d v1 uf v2) : ∃ a1 c1 af cf a2 c2, v1 = .slice a1 d.db.length c1 ∧ uf = .slice af d.fl.length cf ∧ v2 = .slice a2 d.jr.length c2 := by
  obtain ⟨a1, c1, i1⟩ := h.p1.slice
  obtain ⟨af, cf, i2⟩ := h.pf.slice
  obtain ⟨a2, c2, i3⟩ := h.p2.slice
  exact ⟨a1, c1, af, cf, a2, c2, i1, i2, i3⟩
theorem doA_no {d : Dk.D} {s : Dk.S} (h : ¬ (d.ok = true ∧ s.ok = true)) : Dk.doA d s = (⟨[], [], false, []⟩, false) := by unfold Dk.doA; rw [if_neg h]; rfl
theorem doA_yes {d : Dk.D} {s : Dk.S} (h : d.ok = true) (h' : s.ok = true) : Dk.doA d s = (d.step s, true) := by unfold Dk.doA; rw [if_pos ⟨h, h'⟩]
theorem tearA_no {d : Dk.D} {s : Dk.S} (h : ¬ (d.ok = true ∧ s.ok = true)) : Dk.tearA d s = (⟨[], [], false, []⟩, false) := by unfold Dk.tearA; rw [if_neg h]; rfl
theorem tearA_yes {d : Dk.D} {s : Dk.S} (h : d.ok = true) (h' : s.ok = true) : Dk.tearA d s = (d.torn s, true) := by unfold Dk.tearA; rw [if_pos ⟨h, h'⟩]
end Go.Proofs.YtkhanndmbpemfaaGreatDoor

/- impl.InstTo: a disk behind so many steps, the next one torn or not. -/
namespace Go.Proofs.YtkhanndmbpemfaaGreatDoor
open Go.RowKit Go.Maps

attribute [local go_sem ↓] Go.wp_at_zero Go.wp_at_succ

theorem stepFn_any {N : Nat → Prop} (w : World) (s : Dk.S) (v : Value) (h : Pks N w v s.ps) (r : RoomV v s.ps.length) :
    Calls Tryz.prog 62 #[stV s.k s.p s.x v] w fun e w' => e = .returned (.bool (!s.ok)) ∧ Below w.heap.size w w' := by
  obtain ⟨a, c, rfl⟩ := h.slice
  have CS := hide (fun (W : World) (x : Pks N W (.slice a s.ps.length c) s.ps) => implStepOk_any (N := N) W s _ x r)
  obtain ⟨k, p, x, ps⟩ := s
  dsimp only [stV] at *
  have b0 := below1 w (.cells #[.int .i64 k, .int .i64 p, .int .i64 x, .slice a ps.length c] 47)
  have HP := hide (h.later b0)
  have BW := hide b0
  clear h b0
  generalize Dk.S.ok ⟨k, p, x, ps⟩ = ok at *
  go_enter Tryz.func62, Tryz.ntmps62
  go_wp2_with fail
  refine (unhide CS _ (unhide HP)).mono ?_
  rintro e w1 ⟨rfl, b⟩
  have BW1 := hide ((unhide BW).trans (b.mono (unhide BW).size))
  clear b CS
  go_wp2
  go_ret
  exact ⟨rfl, unhide BW1⟩

def allOk (l : List Dk.S) : Bool := l.all Dk.S.ok
theorem allOk_yes {l : List Dk.S} (h : ∀ (k : Nat) (s : Dk.S), l[k]? = some s → s.ok = true) : allOk l = true := by
  unfold allOk
  rw [List.all_eq_true]
  intro s hs
  obtain ⟨k, hk⟩ := List.getElem?_of_mem hs
  exact h k s hk
theorem allOk_no {l : List Dk.S} {k : Nat} {s : Dk.S} (h : l[k]? = some s) (hs : s.ok = false) : allOk l = false := by
  unfold allOk
  rw [List.all_eq_false]
  exact ⟨s, List.mem_of_getElem? h, by rw [hs]; simp⟩
theorem allOk_mem {l : List Dk.S} (h : allOk l = true) : ∀ s ∈ l, s.ok = true := fun s hs => (List.all_eq_true.1 h) s hs

set_option maxHeartbeats 2000000 in
set_option maxRecDepth 100000 in
theorem stepsIndex_any {N : Nat → Prop} (w : World) (v : Value) (l : List Dk.S) (h : StsR N w v l) :
    Calls Tryz.prog 98 #[v, .func (.func 62) #[] #[]] w fun e w' => ((∃ k : Nat, k < l.length ∧ allOk l = false ∧ e = .returned (.int .i64 k)) ∨ (e = .returned (.int .i64 (-1)) ∧ allOk l = true)) ∧ Below w.heap.size w w' := by
  have H := hide h
  obtain ⟨a, cap, rfl, _, hlen, _⟩ := h
  go_enter Tryz.func98, Tryz.ntmps98
  go_wp2_with fail
  go_loopw [8] (fun i w' => ∃ k : Nat, k ≤ l.length ∧ i = .int .i64 k ∧ Below w.heap.size w w' ∧ ∀ (j : Nat) (s : Dk.S), j < k → l[j]? = some s → s.ok = true) (fun i _ => l.length - (intOf i).toNat)
  case atStart => exact ⟨0, Nat.zero_le _, rfl, Below.refl _ _, fun j s hj => by omega⟩
  case round =>
    obtain ⟨k, hk, rfl, hw, hno⟩ := hrel
    have HW := hide hw
    have HN := hide hno
    clear hw hno
    by_cases hlt : k < l.length
    · obtain ⟨s, hsk⟩ : ∃ s, l[k]? = some s := ⟨_, List.getElem?_eq_getElem hlt⟩
      have HSK := hide hsk
      obtain ⟨b, off, pa, pc, hva, hsat, hpk, hroom, hb, _⟩ := ((unhide H).later (unhide HW)).at hsk
      subst hva
      obtain ⟨c0, c1, c2, c3⟩ := hsat
      have CF := hide (stepFn_any wr s _ hpk (fun _ _ e => by injection e with _ _ e; omega))
      have hi0 : (0 : Int) ≤ (k : Int) := Int.natCast_nonneg _
      have hi1 : (k : Int) < (l.length : Int) := by omega
      have er : IntKind.i64.wrap ((k : Int) + 1) = (k : Int) + 1 := by simp [IntKind.wrap, IntKind.bits, IntKind.signed]; omega
      have HX : Hid (s.ok = s.ok) := rfl
      obtain ⟨sk, sp, sx, sps⟩ := s
      dsimp only at c0 c1 c2 c3
      clear hsk hpk hroom hb HX
      generalize hx : Dk.S.ok ⟨sk, sp, sx, sps⟩ = ok at CF
      have HXX := hide hx
      clear hx
      go_wp2_with fail
      refine (unhide CF).mono ?_
      rintro e w1 ⟨rfl, b1⟩
      have HW1 := hide ((unhide HW).trans (b1.mono (unhide HW).size))
      clear b1 c0 c1 c2 c3 CF
      cases ok
      · go_wp2
        go_ret
        exact ⟨.inl ⟨k, hlt, allOk_no (unhide HSK) (unhide HXX), rfl⟩, unhide HW1⟩
      · go_wp2
        go_roundw
        case rel => exact ⟨k + 1, by omega, by go_num, unhide HW1, fun j s hj hs => by
          rcases Nat.lt_or_ge j k with h | h
          · exact unhide HN j s h hs
          · obtain rfl : j = k := by omega
            rw [unhide HSK] at hs
            injection hs with hs
            rw [← hs]
            exact unhide HXX⟩
        case measure => simp [intOf]; omega
    · obtain rfl : k = l.length := by omega
      have HA := hide (allOk_yes (l := l) (fun j s hs => unhide HN j s (List.getElem?_eq_some_iff.1 hs).1 hs))
      clear hlt
      go_wp2
      go_ret
      exact ⟨.inr ⟨rfl, unhide HA⟩, unhide HW⟩

set_option maxHeartbeats 2000000 in
set_option maxRecDepth 100000 in
theorem allSteps_any {N : Nat → Prop} (w : World) (v : Value) (l : List Dk.S) (h : StsR N w v l) :
    Calls Tryz.prog 32 #[v] w fun e w' => e = .returned (.bool (allOk l)) ∧ Below w.heap.size w w' := by
  have CI := hide (stepsIndex_any w v l h)
  obtain ⟨a, cap, rfl, _⟩ := h.slice
  clear h
  go_enter Tryz.func32, Tryz.ntmps32
  go_wp2_with fail
  refine Calls.mono (R := fun e w' => e = .returned (.bool (!allOk l)) ∧ Below w.heap.size w w') ?_ ?_
  · go_enter Tryz.func61, Tryz.ntmps61
    go_wp2_with fail
    refine (unhide CI).mono ?_
    rintro e w3 ⟨⟨k, hk, hx, rfl⟩ | ⟨rfl, hno⟩, b3⟩
    · have B3 := hide b3
      have hge : (0 : Int) ≤ (k : Int) := Int.natCast_nonneg _
      have hd : decide ((0 : Int) ≤ (k : Int)) = true := decide_eq_true hge
      have HX := hide hx
      clear b3 hx
      go_wp2
      go_ret
      exact ⟨ret_bool (by rw [unhide HX]; rfl), unhide B3⟩
    · have B3 := hide b3
      have HX := hide hno
      clear b3 hno
      go_wp2
      go_ret
      exact ⟨ret_bool (by rw [unhide HX]; rfl), unhide B3⟩
  rintro e w4 ⟨rfl, b4⟩
  have B4 := hide b4
  clear b4
  go_wp2
  go_ret
  exact ⟨ret_bool (by simp), unhide B4⟩
end Go.Proofs.YtkhanndmbpemfaaGreatDoor
