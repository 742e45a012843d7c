import Derived.Test.YtkhanndmbpemfaaGreatDoorDrawInstToW
/- impl.InstTo, spec.InstTo on a disk and steps that can be read: the answer can be read; what they answer, as data. -/
namespace Go.Proofs.YtkhanndmbpemfaaGreatDoor
open Go.RowKit

namespace Dk
theorem run_ok : ∀ (l : List S) (d : D), d.ok = true → (∀ s ∈ l, s.ok = true) → (run d l).ok = true
  | [], _, h, _ => h
  | s :: t, d, h, hs => run_ok t (d.step s) (ok_step h (hs s (List.mem_cons_self ..))) (fun x hx => hs x (List.mem_cons_of_mem _ hx))
theorem till_ok {d : D} {l : List S} (cut : Int) (torn : Bool) (h : d.ok = true) (hl : allOk l = true) : (till d l cut torn).ok = true := by
  have hs := allOk_mem hl
  have hr : (run d (l.take cut.toNat)).ok = true := run_ok _ _ h (fun s hm => hs s (List.mem_of_mem_take hm))
  unfold till
  split
  · exact ok_torn hr
  · exact hr
theorem toA_yes {d : D} {l : List S} {cut : Int} (torn : Bool) (h : d.ok = true) (hl : allOk l = true) (hc : 0 ≤ cut) : toA d l cut torn = (till d l cut torn, true) := by unfold toA; rw [if_pos ⟨h, hl, hc⟩]
theorem toA_no {d : D} {l : List S} {cut : Int} {torn : Bool} (h : ¬ (d.ok = true ∧ allOk l = true ∧ 0 ≤ cut)) : toA d l cut torn = (⟨[], [], false, []⟩, false) := by unfold toA; rw [if_neg h]; rfl
theorem toA_nil {d : D} (h : d.ok = true) : toA d [] 3 true = (d, true) := by
  rw [toA_yes true h rfl (by omega)]
  rfl
theorem toA_zero {d : D} {l : List S} (h : d.ok = true) (hl : allOk l = true) : toA d l 0 false = (d, true) := by
  rw [toA_yes false h hl (by omega)]
  rfl
theorem till_len (d : D) (l : List S) (torn : Bool) : till d l (l.length : Int) torn = run d l := by
  unfold till
  rw [if_neg (by omega), Int.toNat_natCast, List.take_length]
theorem till_past (d : D) (l : List S) : till d l ((l.length : Int) + 5) false = run d l := by
  unfold till
  rw [if_neg (by simp), List.take_of_length_le (by omega)]
theorem toA_len {d : D} {l : List S} (torn : Bool) (h : d.ok = true) (hl : allOk l = true) : toA d l (l.length : Int) torn = (run d l, true) := by
  rw [toA_yes torn h hl (by omega), till_len]
theorem toA_past {d : D} {l : List S} (h : d.ok = true) (hl : allOk l = true) : toA d l ((l.length : Int) + 5) false = (run d l, true) := by
  rw [toA_yes false h hl (by omega), till_past]
theorem toA_below (d : D) (l : List S) (torn : Bool) : toA d l (-1) torn = (⟨[], [], false, []⟩, false) := toA_no (by omega)
end Dk
theorem toA_small (d : Dk.D) (l : List Dk.S) (cut : Int) (torn : Bool) : smallD (Dk.toA d l cut torn).1 := by
  by_cases h : d.ok = true ∧ allOk l = true ∧ 0 ≤ cut
  · rw [Dk.toA_yes torn h.1 h.2.1 h.2.2]; exact smallD.ofOk (Dk.till_ok cut torn h.1 h.2.1)
  · rw [Dk.toA_no h]; exact smallD.none
theorem implTo_in {N : Nat → Prop} (w : World) (d : Dk.D) (v1 uf v2 v : Value) (l : List Dk.S) (cut : Int) (torn : Bool) (hd : DIn w d v1 uf v2) (hs : StsR N w v l) (hl : l.length ≤ 1000) (c0 : -9000000000000000000 ≤ cut) (c1 : cut ≤ 9000000000000000000) :
    Calls Tryz.prog 11 #[dkV v1 uf d.has v2, v, .int .i64 cut, .bool torn] w fun e w' => ∃ q1 qf q2, e = .returned (.tuple #[dkV q1 qf (Dk.toA d l cut torn).1.has q2, .bool (Dk.toA d l cut torn).2]) ∧ DIn w' (Dk.toA d l cut torn).1 q1 qf q2 ∧ Below w.heap.size w w' :=
  (implInstTo_any w d v1 uf v2 v l cut torn hd hs hl c0 c1).mono (by
    rintro e w' ⟨u, rfl, h, b⟩
    obtain ⟨q1, qf, q2, rfl, h9⟩ := h.out (toA_small d l cut torn)
    exact ⟨q1, qf, q2, rfl, h9, b⟩)
end Go.Proofs.YtkhanndmbpemfaaGreatDoor

/- A disk in a box of the law's own; a disk whose rows lie among blocks N; a store of the one into the other's box. -/
namespace Go.Proofs.YtkhanndmbpemfaaGreatDoor
open Go.RowKit

theorem below_eq {a b : Nat} {w w' : World} (h : a = b) (hb : Below a w w') : Below b w w' := h ▸ hb
structure DkB (B : Nat) (w : World) (Y : Nat) (d : Dk.D) (v1 vf v2 : Value) (e1 e2 : List El) : Prop where
  box : w.heap[Y]? = some (Obj.cells #[v1, vf, .bool d.has, v2] 31 (0, 0))
  ans : DAns B w v1 vf v2 e1 d.fl e2
  m1 : e1.map (·.1) = d.db
  m2 : e2.map (·.1) = d.jr
theorem DkB.later {B : Nat} {w w' : World} {Y : Nat} {d : Dk.D} {v1 vf v2 : Value} {e1 e2 : List El} (h : DkB B w Y d v1 vf v2 e1 e2) (hb : Below w.heap.size w w') : DkB B w' Y d v1 vf v2 e1 e2 := ⟨(hb.block _ (heapLt h.box)).trans h.box, h.ans.later hb, h.m1, h.m2⟩
theorem DkB.fill {B : Nat} {W w6 : World} {Y : Nat} {d : Dk.D} {u1 uf u2 : Value} {e1 e2 : List El} {r0 r1 r2 r3 : Value} (hR : w6.heap[Y]? = some (.cells #[r0, r1, r2, r3] 31 (0, 0))) (lR : B ≤ Y) (hb : Below B W w6)
    (hA : DAns B w6 u1 uf u2 e1 d.fl e2) (m1 : e1.map (·.1) = d.db) (m2 : e2.map (·.1) = d.jr) {w' : World}
    (hw : w' = (((w6.setCell ⟨Y, 0, none⟩ u1).setCell ⟨Y, 1, none⟩ uf).setCell ⟨Y, 2, none⟩ (.bool d.has)).setCell ⟨Y, 3, none⟩ u2) : DkB B w' Y d u1 uf u2 e1 e2 ∧ Below B W w' := by
  obtain ⟨_, h2, h3⟩ := endE (w := W) hR lR hb hA hw
  exact ⟨⟨by rw [hw, heapSet (heapSet (heapSet (heapSet hR)))]; rfl, h2, m1, m2⟩, h3⟩

/-- Numbers that can be read, their block among N. -/
def InsM (N : Nat → Prop) (w : World) (v : Value) (l : List Int) : Prop :=
  ∃ a cap, v = .slice a l.length cap ∧ l.length ≤ 1000000000000 ∧ (0 < l.length → ∃ b off, a = some ⟨b, off, none⟩ ∧ b < w.heap.size ∧ N b ∧ ∀ i, i < l.length → w.cell? ⟨b, off + i, none⟩ = some (.int .i64 (Ky.nth l i)))
theorem InsM.keep {N : Nat → Prop} {w w' : World} {v : Value} {l : List Int} (h : InsM N w v l) (hs : w.heap.size ≤ w'.heap.size) (hk : ∀ k, k < w.heap.size → N k → w'.heap[k]? = w.heap[k]?) : InsM N w' v l := by
  obtain ⟨a, cap, hv, hl, hr⟩ := h
  refine ⟨a, cap, hv, hl, fun hp => ?_⟩
  obtain ⟨b, off, ha, hbs, hN, hcc⟩ := hr hp
  have e : ∀ o, w'.cell? ⟨b, o, none⟩ = w.cell? ⟨b, o, none⟩ := fun o => World.cell?_of_block (hk b hbs hN)
  exact ⟨b, off, ha, Nat.lt_of_lt_of_le hbs hs, hN, fun i hi => by rw [e]; exact hcc i hi⟩
theorem InsM.ins {N : Nat → Prop} {w : World} {v : Value} {l : List Int} (h : InsM N w v l) : Ins w v l := by
  obtain ⟨a, cap, hv, hl, hr⟩ := h
  refine ⟨a, cap, hv, hl, fun hp => ?_⟩
  obtain ⟨b, off, ha, hbs, hN, hcc⟩ := hr hp
  exact ⟨b, off, ha, hbs, hcc⟩
theorem InsM.weak {N M : Nat → Prop} {w : World} {v : Value} {l : List Int} (h : InsM N w v l) (hN : ∀ b, N b → M b) : InsM M w v l := by
  obtain ⟨a, cap, hv, hl, hr⟩ := h
  refine ⟨a, cap, hv, hl, fun hp => ?_⟩
  obtain ⟨b, off, ha, hbs, hn, hcc⟩ := hr hp
  exact ⟨b, off, ha, hbs, hN b hn, hcc⟩
theorem Ins.m {w : World} {v : Value} {l : List Int} (h : Ins w v l) : InsM (fun b => b < w.heap.size) w v l := by
  obtain ⟨a, cap, hv, hl, hr⟩ := h
  refine ⟨a, cap, hv, hl, fun hp => ?_⟩
  obtain ⟨b, off, ha, hbs, hcc⟩ := hr hp
  exact ⟨b, off, ha, hbs, hbs, hcc⟩
theorem OwI.insM {B : Nat} {w : World} {v : Value} {l : List Int} (h : OwI B w v l) (hl : l.length ≤ 1000) : InsM (fun b => B ≤ b) w v l := by
  rcases own_shape h with ⟨hv, hn⟩ | ⟨g, cap, hv, hb, hg⟩
  · exact ⟨none, 0, by rw [hv, hn], by omega, fun hp => by omega⟩
  · subst hv
    exact ⟨_, _, rfl, by omega, fun _ => ⟨g, 0, rfl, hg, hb, fun i hi => own_cell h _ _ (by rw [Nat.zero_add]; exact nth_at hi)⟩⟩

/-- A disk that can be read, its rows among the blocks N. -/
structure DN (N : Nat → Prop) (w : World) (D : Dk.D) (v1 uf v2 : Value) : Prop where
  p1 : Pks N w v1 D.db
  r1 : RoomV v1 D.db.length
  pf : InsM N w uf D.fl
  p2 : Pks N w v2 D.jr
  r2 : RoomV v2 D.jr.length
theorem DN.keep {N : Nat → Prop} {w w' : World} {D : Dk.D} {v1 uf v2 : Value} (h : DN N w D v1 uf v2) (hs : w.heap.size ≤ w'.heap.size) (hk : ∀ k, k < w.heap.size → N k → w'.heap[k]? = w.heap[k]?) : DN N w' D v1 uf v2 := ⟨h.p1.keep hs hk, h.r1, h.pf.keep hs hk, h.p2.keep hs hk, h.r2⟩
theorem DN.later {N : Nat → Prop} {w w' : World} {D : Dk.D} {v1 uf v2 : Value} (h : DN N w D v1 uf v2) (b : Below w.heap.size w w') : DN N w' D v1 uf v2 := h.keep b.size (fun k hk _ => b.block k hk)
theorem DN.weak {N M : Nat → Prop} {w : World} {D : Dk.D} {v1 uf v2 : Value} (h : DN N w D v1 uf v2) (hN : ∀ b, N b → M b) : DN M w D v1 uf v2 := ⟨h.p1.weak hN, h.r1, h.pf.weak hN, h.p2.weak hN, h.r2⟩
theorem DN.din {N : Nat → Prop} {w : World} {D : Dk.D} {v1 uf v2 : Value} (h : DN N w D v1 uf v2) : DIn w D v1 uf v2 := ⟨h.p1.weak (fun _ _ => trivial), h.r1, h.pf.ins, h.p2.weak (fun _ _ => trivial), h.r2⟩
theorem DIn.dn {w : World} {D : Dk.D} {v1 uf v2 : Value} (h : DIn w D v1 uf v2) : DN (fun b => b < w.heap.size) w D v1 uf v2 := ⟨h.p1.bound.weak (fun _ hb => hb.2), h.r1, h.pf.m, h.p2.bound.weak (fun _ hb => hb.2), h.r2⟩
theorem DAns.dn {B : Nat} {w : World} {D : Dk.D} {v1 vf v2 : Value} {e1 e2 : List El} (h : DAns B w v1 vf v2 e1 D.fl e2) (m1 : e1.map (·.1) = D.db) (m2 : e2.map (·.1) = D.jr) (hs : smallD D) : DN (fun b => B ≤ b) w D v1 vf v2 := by
  obtain ⟨p1, r1⟩ := h.p1.out m1 hs.1
  obtain ⟨p2, r2⟩ := h.p2.out m2 hs.2.2
  exact ⟨p1, r1, OwI.insM h.pf hs.2.1, p2, r2⟩
theorem dn_store {U w w' : World} {X Z B : Nat} {D : Dk.D} {v1 vf v2 : Value} {e1 e2 : List El} {r0 r1 r2 r3 : Value} (hX : w.heap[X]? = some (.cells #[r0, r1, r2, r3] 31 (0, 0))) (lX : U.heap.size ≤ X) (hb : Below U.heap.size U w)
    (hd : DkB B w Z D v1 vf v2 e1 e2) (hB : X < B) (hs : smallD D) (hw : w' = (((w.setCell ⟨X, 0, none⟩ v1).setCell ⟨X, 1, none⟩ vf).setCell ⟨X, 2, none⟩ (.bool D.has)).setCell ⟨X, 3, none⟩ v2) :
    w'.heap[X]? = some (.cells #[v1, vf, .bool D.has, v2] 31 (0, 0)) ∧ DN (fun b => b ≠ X) w' D v1 vf v2 ∧ Below U.heap.size U w' := by
  obtain ⟨_, hbel, hfar⟩ := fin4 (W := U) hX lX hb hw
  refine ⟨by rw [hw, heapSet (heapSet (heapSet (heapSet hX)))]; rfl, ?_, hbel⟩
  have h1 := (hd.ans.dn hd.m1 hd.m2 hs).weak (M := fun b => b ≠ X) (fun b hb => by omega)
  exact h1.keep (by rw [hw]; simp [World.setCell]) (fun k _ hk => hfar k hk)

namespace Dk
/-- The disk behind k rounds. -/
def st (d : D) (l : List S) (cut : Int) (torn : Bool) (k : Nat) : D := if (k : Int) ≤ cut then run d (l.take k) else till d l cut torn
theorem st_zero {d : D} {l : List S} {cut : Int} {torn : Bool} (hc : 0 ≤ cut) : st d l cut torn 0 = d := by unfold st; rw [if_pos (by omega)]; rfl
theorem st_ok {d : D} {l : List S} {cut : Int} {torn : Bool} (k : Nat) (h : d.ok = true) (hl : allOk l = true) : (st d l cut torn k).ok = true := by
  unfold st
  split
  · exact run_ok _ _ h (fun s hm => allOk_mem hl s (List.mem_of_mem_take hm))
  · exact till_ok cut torn h hl
theorem st_do {d : D} {l : List S} {cut : Int} {torn : Bool} {k : Nat} {s : S} (hs : l[k]? = some s) (hc : (k : Int) < cut) : st d l cut torn (k + 1) = (st d l cut torn k).step s := by
  unfold st
  rw [if_pos (by omega), if_pos (by omega), run_take hs]
theorem st_tear {d : D} {l : List S} {cut : Int} {k : Nat} {s : S} (hs : l[k]? = some s) (hc : (k : Int) = cut) : st d l cut true (k + 1) = (st d l cut true k).torn s := by
  have hk := (List.getElem?_eq_some_iff.1 hs).1
  unfold st
  rw [if_neg (by omega), if_pos (by omega)]
  unfold till
  rw [if_pos ⟨rfl, by omega, by omega⟩, ← hc, Int.toNat_natCast, List.getD_eq_getElem?_getD, hs]
  rfl
theorem st_stay {d : D} {l : List S} {cut : Int} {k : Nat} (hc : (k : Int) = cut) : st d l cut false (k + 1) = st d l cut false k := by
  unfold st
  rw [if_neg (by omega), if_pos (by omega)]
  unfold till
  rw [if_neg (by simp), ← hc, Int.toNat_natCast]
theorem st_end {d : D} {l : List S} {cut : Int} {torn : Bool} {k : Nat} (hk : k ≤ l.length) (h : ¬ (k < l.length ∧ (k : Int) ≤ cut)) : st d l cut torn k = till d l cut torn := by
  unfold st
  split
  · obtain rfl : k = l.length := by omega
    unfold till
    rw [if_neg (by omega), List.take_length, List.take_of_length_le (by omega)]
  · rfl
end Dk
end Go.Proofs.YtkhanndmbpemfaaGreatDoor
