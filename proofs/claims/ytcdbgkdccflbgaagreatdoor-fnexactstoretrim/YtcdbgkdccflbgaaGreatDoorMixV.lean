import Derived.Test.YtcdbgkdccflbgaaGreatDoorMixG
import Derived.ProofKit
import Derived.ChangeSlices
import Derived.Test.YtcdbgkdccflbgaaGreatDoorAnsPW
import Derived.Test.YtcdbgkdccflbgaaGreatDoorMixR
import Derived.Test.YtcdbgkdccflbgaaGreatDoorMixU
import Derived.Test.YtcdbgkdccflbgaaGreatDoorMixL
import Derived.Test.YtcdbgkdccflbgaaGreatDoorMixQ
import Derived.Test.YtcdbgkdccflbgaaGreatDoorCopyMW
import Derived.Test.YtcdbgkdccflbgaaGreatDoorMixS
import Derived.Test.YtcdbgkdccflbgaaGreatDoorTrimW
/- How what came in is read: a row of numbers. -/
namespace Go.Proofs.YtcdbgkdccflbgaaGreatDoor
open Go.RowKit Go.ChangeShapes Go.WideShapes

theorem add_noneI (b off i : Nat) : (⟨b, off, none⟩ : Addr).add i = ⟨b, off + i, none⟩ := by unfold Addr.add; split <;> simp_all
theorem cellLtI {w : World} {a : Addr} {v : Value} (h : w.cell? a = some v) : a.block < w.heap.size := by
  rcases Nat.lt_or_ge a.block w.heap.size with h1 | h1
  · exact h1
  · rw [World.cell?, Array.getElem?_eq_none h1] at h; cases h

/-- What is known of a row of numbers that came in. -/
def RowIn (W : World) (a : Option Addr) (n c : Nat) : Prop := n ≤ 9223372036854775807 ∧ (n ≤ 1048576 → ∃ l : List Int, l.length = n ∧ Ins W (.slice a n c) l)

theorem open_cell {H : Type} {enc : TypeId × Value → H} {W : World} {base fuel : Nat} {spare : Nat → Bool} {held : Bool} {v : Value} {x : DataW H × List MemPlace}
    (h : DataW.trod enc Tryz.prog W base spare held fuel 23 [v] = some x) : ∃ a n c, v = .slice a n c ∧ RowIn W a n c := by
  rcases open_ints Tryz.underlying23 Tryz.underlying3 (by kernel_rfl) h with ⟨hv, _⟩ | ⟨a, len, cap, zs, hv, _, hl, hm, hz, _, hx, _⟩
  · injection hv with hv _
    exact ⟨none, 0, 0, hv, by omega, fun _ => ⟨[], rfl, Ins.nil W⟩⟩
  · injection hv with hv _
    unfold maxLen at hm
    refine ⟨some a, len, cap, hv, by omega, fun hs => ?_⟩
    have hlz : len ≤ zs.length := by rw [hz]; split <;> omega
    have hlt : (zs.take len).length = len := by rw [List.length_take]; omega
    refine ⟨zs.take len, hlt, some a, cap, by rw [hlt], by omega, fun hp => ?_⟩
    obtain ⟨b, off, spot⟩ := a
    have h0 := hx 0 (by omega)
    have hspot : spot = none := by simpa [Addr.add] using World.cell?_spot h0
    subst hspot
    refine ⟨b, off, rfl, ?_, fun i hi => ?_⟩
    · have := cellLtI h0
      rw [add_noneI] at this
      exact this
    · have hi' : i < len := by omega
      have := hx i (by omega)
      rw [add_noneI] at this
      rw [this]
      unfold Ky.nth
      rw [List.getD_eq_getElem?_getD, List.getD_eq_getElem?_getD, List.getElem?_take_of_lt hi']

set_option maxRecDepth 100000 in
theorem open_row {H : Type} {enc : TypeId × Value → H} {W : World} {base b0 : Nat} {r : Reach} {spare : Nat → Bool} {held : Bool} {v : Value} {d : DataW H} {p : List MemPlace} (hv : Value.okWide Tryz.prog W r b0 23 v)
    (h : DataW.Trod enc Tryz.prog W base spare held 23 v d p) : ∃ a n c, v = .slice a n c ∧ RowIn W a n c := by
  obtain ⟨a0, len0, cap0, rfl⟩ := okWide_slice Tryz.underlying23 hv
  obtain ⟨fuel, hf⟩ := h
  exact open_cell hf
end Go.Proofs.YtcdbgkdccflbgaaGreatDoor

/- Rows of packages that are not long; what of marks' frames the exact laws use. -/
namespace Go.Proofs.YtcdbgkdccflbgaaGreatDoor
open Go.RowKit

def small (A : List Ix.Pg) : Prop := A.length ≤ 1000 ∧ ∀ p ∈ A, p.2.2.1.length ≤ 1000 ∧ p.2.2.2.length ≤ 1000
theorem small.els {A : List Ix.Pg} (h : small A) {els : List El} (hm : els.map (·.1) = A) : els.length ≤ 1000 ∧ ∀ e ∈ els, e.1.2.2.1.length ≤ 1000 ∧ e.1.2.2.2.length ≤ 1000 :=
  ⟨by rw [← List.length_map (f := fun x : El => x.1), hm]; exact h.1, fun e he => h.2 e.1 (by rw [← hm]; exact List.mem_map.2 ⟨e, he, rfl⟩)⟩
theorem small.sub {A l : List Ix.Pg} (h : small l) (hs : ∀ p ∈ A, p ∈ l) (hl : A.length ≤ l.length) : small A := ⟨Nat.le_trans hl h.1, fun p hp => h.2 p (hs p hp)⟩
theorem small.nil : small [] := ⟨Nat.zero_le _, fun p hp => (by cases hp)⟩
theorem small_pkgs {l : List Ix.Pg} (h : Ix.pkgsOk l = true) : small l := by
  refine ⟨by have := Ix.pkgs_len h; omega, fun p hp => ?_⟩
  obtain ⟨i, hi, hie⟩ := List.getElem_of_mem hp
  have hq := Ix.pkgs_pOk h hi
  rw [Ix.pg_get hi, hie] at hq
  unfold Ix.pOk Pk.pkgOk at hq
  rw [Bool.and_eq_true, Bool.and_eq_true, Bool.and_eq_true] at hq
  have h1 := (Pk.filesOk_get hq.1.2).1
  have h2 := (Pk.depsOk_get hq.2).1
  exact ⟨by omega, by omega⟩
theorem PAns.pksA {B : Nat} {w : World} {v : Value} {els : List El} {A : List Ix.Pg} (h : PAns B w v els) (hm : els.map (·.1) = A) (hA : small A) : Pks (fun b => B ≤ b) w v A := by
  obtain ⟨h1, h2⟩ := hA.els hm
  have := h.pks h1 h2
  rw [hm] at this
  exact this
theorem PAns.fr {N : Nat → Prop} {B : Nat} {w w' : World} {v : Value} {l : List El} (h : PAns B w v l) (hs : Fr N w w') (hN : ∀ g, blkP v l g → ¬ N g) : PAns B w' v l := h.keep (fun g hg => hs.block g (h.lt g hg).2 (hN g hg))
theorem WrP.keepN {N : Nat → Prop} {w w' : World} {g n : Nat} (h : WrP N w g n) (hb : ∀ k, k < w.heap.size → N k → w'.heap[k]? = w.heap[k]?) : WrP N w' g n := by
  obtain ⟨C, h1, h2, h3, h4⟩ := h
  refine ⟨C, (hb _ (heapLt h1) h3).trans h1, h2, h3, fun i hi => ?_⟩
  obtain ⟨x, y, g1, n1, g2, n2, k1, k2, k3, k4, k5⟩ := h4 i hi
  exact ⟨x, y, g1, n1, g2, n2, k1, k2, k3, k4.keep (hb _ k4.lt k2.1), k5.keep (hb _ k5.lt k2.2)⟩
theorem WrP.fr {N M : Nat → Prop} {w w' : World} {g n : Nat} (h : WrP N w g n) (hs : Fr M w w') (hd : ∀ b, N b → ¬ M b) : WrP N w' g n := h.keepN (fun k hk hn => hs.block k hk (hd k hn))
theorem WrP.stays {N M : Nat → Prop} {w w' : World} {g n : Nat} (h : WrP N w g n) (hs : Stays M w w') (hd : ∀ b, N b → ¬ M b) : WrP N w' g n := h.keepN (fun k hk hn => hs.block k hk (hd k hn))
theorem WrP.lt {N : Nat → Prop} {w : World} {g n : Nat} (h : WrP N w g n) : g < w.heap.size := by obtain ⟨C, h1, _⟩ := h; exact heapLt h1
/-- From a world on, all that was there stays. -/
theorem Stays.belowB {N : Nat → Prop} {w w' : World} {B : Nat} (h : Stays N w w') (hB : B ≤ w.heap.size) (hN : ∀ b, b < B → ¬ N b) : Below B w w' := ⟨h.os, h.tape, h.output, h.size, fun k hk => h.block k (by omega) (hN k hk)⟩
theorem FillI.lt {w : World} {g k : Nat} {l : List Int} (h : FillI w g l k) : g < w.heap.size := by obtain ⟨C, h1, _⟩ := h; exact heapLt h1
theorem FillM.lt {w : World} {g k : Nat} {l : List Ix.M} (h : FillM w g l k) : g < w.heap.size := by obtain ⟨C, h1, _⟩ := h; exact heapLt h1
theorem FillP.lt {w : World} {g k : Nat} {l : List Ix.Pg} (h : FillP w g l k) : g < w.heap.size := by obtain ⟨C, h1, _⟩ := h; exact heapLt h1
theorem PairsIn.later {w w' : World} {x : Option Addr × Nat × Nat} (h : PairsIn w x) (hb : Below w.heap.size w w') : PairsIn w' x := ⟨h.1, fun hs => by obtain ⟨l, h1, h2⟩ := h.2 hs; exact ⟨l, h1, h2.later hb⟩⟩
theorem PkgsIn.later {w w' : World} {a : Option Addr} {n c : Nat} (h : PkgsIn w a n c) (hb : Below w.heap.size w w') : PkgsIn w' a n c := by
  refine ⟨h.1, fun hs => ?_⟩
  obtain ⟨q, hrow, hp⟩ := h.2 hs
  refine ⟨q, fun hn => ?_, fun i hi => ⟨(hp i hi).1.later hb, (hp i hi).2.later hb⟩⟩
  obtain ⟨b, off, ha, hbs, hc⟩ := hrow hn
  refine ⟨b, off, ha, Nat.lt_of_lt_of_le hbs hb.size, fun i hi => ?_⟩
  obtain ⟨c0, c1, c2, c3⟩ := hc i hi
  exact ⟨(hb.cell hbs).trans c0, (hb.cell hbs).trans c1, (hb.cell hbs).trans c2, (hb.cell hbs).trans c3⟩
end Go.Proofs.YtcdbgkdccflbgaaGreatDoor

/- What is kept, and what not, as data: for the laws of trimming. -/
namespace Go.Proofs.YtcdbgkdccflbgaaGreatDoor

theorem Ix.trimA_small (t : Tr.T) (l : List Ix.Pg) : small (Ix.trimA t l) := by
  unfold Ix.trimA
  split
  · rename_i h
    exact (small_pkgs h.2).sub (fun p hp => (List.mem_filter.1 hp).1) (List.length_filter_le _ _)
  · exact small.nil
theorem Ix.tells_has {t : Tr.T} {p : Ix.Pg} (h : t.ok = true) (hp : Ix.tellsP t.num t.til t.ms p = true) : t.has = true := by
  have h1 := h
  unfold Tr.T.ok Tr.ok at h1
  rw [Bool.and_eq_true] at h1
  replace h1 := h1.2
  cases hh : t.has
  · rw [hh] at h1
    have h2 : Tr.noIdx t.num t.til t.ms = true := h1
    unfold Ix.tellsP at hp
    rw [Bool.and_eq_true] at hp
    have hx := hp.1
    unfold Tr.noIdx at h2
    unfold Ix.idxOk at hx
    simp only [Bool.and_eq_true, Pk.inB, decide_eq_true_eq] at h2 hx
    omega
  · rfl
theorem Ix.trim_pkgs {num til : Int} {ms : List Ix.M} {l : List Ix.Pg} (h : Ix.pkgsOk l = true) : Ix.pkgsOk (Ix.trim num til ms l) = true := by
  obtain ⟨h1, h2⟩ := Ix.pkgsOk_pair.1 h
  exact Ix.pkgsOk_pair.2 ⟨fun x hx => h1 x (List.mem_filter.1 hx).1, h2.sublist List.filter_sublist⟩
theorem Ix.trim_trim (num til : Int) (ms : List Ix.M) (l : List Ix.Pg) : Ix.trim num til ms (Ix.trim num til ms l) = Ix.trim num til ms l := by
  unfold Ix.trim
  rw [List.filter_filter]
  exact List.filter_congr fun x _ => by simp
theorem Ix.trimA_twice {t : Tr.T} {l : List Ix.Pg} (h1 : t.ok = true) (h2 : Ix.pkgsOk l = true) : Ix.trimA t (Ix.trimA t l) = Ix.trimA t l := by
  rw [Ix.trimA_yes h1 h2, Ix.trimA_yes h1 (Ix.trim_pkgs h2), Ix.trim_trim]
theorem Ix.trim_app (num til : Int) (ms : List Ix.M) (a b : List Ix.Pg) : Ix.trim num til ms (a ++ b) = Ix.trim num til ms a ++ Ix.trim num til ms b := List.filter_append _ _
theorem Ix.trim_at {num til : Int} {ms : List Ix.M} {l : List Ix.Pg} {k : Nat} (hk : k < l.length) (ht : Ix.tellsP num til ms (Ix.pg l k) = true) : (Ix.trim num til ms (l.take k)).length < (Ix.trim num til ms l).length ∧ Ix.pg (Ix.trim num til ms l) (Ix.trim num til ms (l.take k)).length = Ix.pg l k := by
  have e : Ix.trim num til ms l = Ix.trim num til ms (l.take k) ++ Ix.pg l k :: Ix.trim num til ms (l.drop (k + 1)) := by
    have h1 := Ix.trim_snoc (num := num) (til := til) (ms := ms) hk
    rw [if_pos ht] at h1
    conv => lhs; rw [← List.take_append_drop (k + 1) l]
    rw [Ix.trim_app, h1, List.append_assoc]
    rfl
  refine ⟨by rw [e, List.length_append, List.length_cons]; omega, ?_⟩
  conv => lhs; rw [e]
  unfold Ix.pg
  rw [List.getD_eq_getElem?_getD, List.getElem?_append_right (Nat.le_refl _), Nat.sub_self]
  rfl
theorem Ix.trim_none {t : Tr.T} (h : t.ok = true) (hh : t.has = false) (l : List Ix.Pg) : Ix.trim t.num t.til t.ms l = [] := by
  unfold Ix.trim
  rw [List.filter_eq_nil_iff]
  intro p _ hp
  rw [Ix.tells_has h hp] at hh
  cases hh
end Go.Proofs.YtcdbgkdccflbgaaGreatDoor
