import Derived.Test.YtlnieobmhofkdaaGreatBoxW
import Derived.Deep.AppendLies
import Derived.Test.YtlnieobmhofkdaaGreatMathW
/- What spec.l12Find and spec.l12With return: where a package of a name and version is; a row of one's own with a package more, in its place. -/
namespace Go.Proofs.YtlnieobmhofkdaaGreat
open Go.RowKit

set_option maxHeartbeats 4000000 in
set_option maxRecDepth 100000 in
theorem l12Find_any {N : Nat → Prop} (w : World) (v : Value) (l : List Ix.Pg) (n u : Int) (h : Pks N w v l) :
    Calls Tryz.prog 22 #[v, .int .i64 n, .int .i64 u] w fun e w' => w' = w ∧ ∃ r : Int, e = .returned (.int .i64 r) ∧ ((r = -1 ∧ ∀ i, i < l.length → Ix.named (Ix.pg l i) n u = false) ∨ (0 ≤ r ∧ r < l.length ∧ Ix.named (Ix.pg l r.toNat) n u = true)) := by
  obtain ⟨a, cap, rfl, hlen, hrow⟩ := h
  go_enter Tryz.func22, Tryz.ntmps22
  go_wp2
  go_loop [7] (fun i => ∃ k : Nat, k ≤ l.length ∧ i = .int .i64 k ∧ ∀ j, j < k → Ix.named (Ix.pg l j) n u = false) (fun i => l.length - (intOf i).toNat)
  case atStart => exact ⟨0, Nat.zero_le _, rfl, fun j hj => by omega⟩
  case round =>
    obtain ⟨k, hk, rfl, hno⟩ := hrel
    have HN := hide hno
    clear hno
    by_cases hlt : k < l.length
    · obtain ⟨b, off, rfl, hb, _, hc⟩ := hrow (by omega)
      obtain ⟨fv, dv, ⟨c0, c1, _, _⟩, _, _⟩ := hc k hlt
      clear hc hrow
      have hi0 : (0 : Int) ≤ (k : Int) := Int.natCast_nonneg _
      have hi1 : (k : Int) < (l.length : Int) := by omega
      have hstep : Ix.named (Ix.pg l k) n u = (decide ((Ix.pg l k).1 = n) && decide ((Ix.pg l k).2.1 = u)) := rfl
      generalize (Ix.pg l k).1 = nm at *
      generalize (Ix.pg l k).2.1 = vr at *
      by_cases h1 : nm = n
      · have h1' : (nm == n) = true := by simpa using h1
        have h1d : decide (nm = n) = true := by simpa using h1
        rw [h1d] at hstep
        clear h1 h1d
        by_cases h2 : vr = u
        · have h2' : (vr == u) = true := by simpa using h2
          have h2d : decide (vr = u) = true := by simpa using h2
          rw [h2d] at hstep
          have HST := hide hstep
          clear h2 h2d hstep
          go_wp2
          go_ret
          exact ⟨rfl, k, rfl, .inr ⟨hi0, hi1, by rw [Int.toNat_natCast]; exact unhide HST⟩⟩
        · have h2' : (vr == u) = false := by simpa using h2
          have h2d : decide (vr = u) = false := by simpa using h2
          rw [h2d] at hstep
          have HST := hide hstep
          clear h2 h2d hstep
          go_wp2
          go_round
          case rel => exact ⟨k + 1, by omega, by go_num, fun j hj => by
            rcases Nat.lt_or_ge j k with h | h
            · exact unhide HN j h
            · obtain rfl : j = k := by omega
              exact unhide HST⟩
          case measure => simp [intOf]; omega
      · have h1' : (nm == n) = false := by simpa using h1
        have h1d : decide (nm = n) = false := by simpa using h1
        rw [h1d] at hstep
        have HST := hide hstep
        clear h1 h1d hstep
        go_wp2
        go_round
        case rel => exact ⟨k + 1, by omega, by go_num, fun j hj => by
          rcases Nat.lt_or_ge j k with h | h
          · exact unhide HN j h
          · obtain rfl : j = k := by omega
            exact unhide HST⟩
        case measure => simp [intOf]; omega
    · go_wp2
      go_ret
      exact ⟨rfl, -1, rfl, .inl ⟨rfl, fun i hi => unhide HN i (by omega)⟩⟩

structure Ws (N : Nat → Prop) (W w : World) (nm vr : Int) (fv dv ov : Value) (els : List El) : Prop where
  box : w.heap[W.heap.size]? = some (.cells #[.int .i64 nm, .int .i64 vr, fv, dv] 67 (0, 0))
  own : w.ownsRow (W.heap.size + 1) 67 4 ov els.length (flat4 els)
  el : ∀ e ∈ els, PrsN N W e.2.1 e.1.2.2.1 ∧ PrsN N W e.2.2 e.1.2.2.2
  bel : Below W.heap.size W w
section
variable {N : Nat → Prop} {W w w' : World} {nm vr : Int} {fv dv ov : Value} {els : List El}
theorem Ws.later (h : Ws N W w nm vr fv dv ov els) (hb : Below w.heap.size w w') : Ws N W w' nm vr fv dv ov els :=
  ⟨(hb.block _ (heapLt h.box)).trans h.box, own_later h.own hb, h.el, h.bel.trans (hb.mono h.bel.size)⟩
theorem Ws.app {w2 : World} {ov' : Value} {e : El} (h : Ws N W w nm vr fv dv ov els) (hg : w.grownBy w2 ov.ownBlock) (ho : w2.ownsRow (W.heap.size + 1) 67 4 ov' (els.length + 1) (flat4 els ++ [.int .i64 e.1.1, .int .i64 e.1.2.1, e.2.1, e.2.2]))
    (he : PrsN N W e.2.1 e.1.2.2.1 ∧ PrsN N W e.2.2 e.1.2.2.2) : Ws N W w2 nm vr fv dv ov' (els ++ [e]) := by
  have hs := heapLt h.box
  refine ⟨(hg.block _ hs (fun e => ?_)).trans h.box, ?_, ?_, ?_⟩
  · have := (own_row h.own _ e.symm).1; omega
  · rw [flat4_snoc, List.length_append]; exact ho
  · intro x hx
    rcases List.mem_append.1 hx with hx | hx
    · exact h.el x hx
    · obtain rfl : x = e := by simpa using hx
      exact he
  · have h1 : Below (W.heap.size) w w2 := ⟨hg.os, hg.tape, hg.output, hg.size, fun k hk => hg.block k (by omega) (fun e => by have := (own_row h.own _ e.symm).1; omega)⟩
    exact h.bel.trans h1
theorem Ws.start (h : w' = (W.alloc (.cells #[.int .i64 nm, .int .i64 vr, fv, dv] 67)).alloc (.cells #[] 67)) : Ws N W w' nm vr fv dv (.slice (some ⟨W.heap.size + 1, 0, none⟩) 0 0) [] := by
  subst h
  refine ⟨?_, ⟨rfl, .inr ⟨W.heap.size + 1, 0, #[], rfl, by omega, ?_, by exact Nat.le_refl _, by unfold maxLen; omega, rfl, rfl⟩⟩, fun e he => (by cases he), ((Below.refl _ _).alloc (Nat.le_refl _) _).alloc (by rw [sz1]; omega) _⟩
  · rw [at_old _ _ _ (by rw [sz1]; omega), at_new _ _ _ rfl]
  · rw [at_new _ _ _ (by rw [sz1])]
theorem Ws.pown (h : Ws N W w nm vr fv dv ov els) : POwn N W.heap.size w ov els := by
  refine ⟨⟨h.own.1, ?_⟩, fun e he => ⟨(h.el e he).1.later h.bel, (h.el e he).2.later h.bel⟩⟩
  rcases h.own.2 with hn | ⟨g, cap, cur, rfl, hb1, hgg, rest⟩
  · exact .inl hn
  · exact .inr ⟨g, cap, cur, rfl, by omega, hgg, rest⟩
end

end Go.Proofs.YtlnieobmhofkdaaGreat

/- Two packages that are ok and have one text are the same. -/
namespace Go.Proofs.YtlnieobmhofkdaaGreat.Pk

theorem b8_inj {a b : Int} (ha : 0 ≤ a) (ha' : a < 256) (hb : 0 ≤ b) (hb' : b < 256) (h : b8 a = b8 b) : a = b := by
  have := congrArg UInt8.toNat h
  unfold b8 at this
  rw [UInt8.toNat_ofNat', UInt8.toNat_ofNat'] at this
  omega

def FOk (x : Int × Int) : Prop := 0 ≤ x.1 ∧ x.1 ≤ 9 ∧ 0 ≤ x.2 ∧ x.2 ≤ 9
def DOk (x : Int × Int) : Prop := 1 ≤ x.1 ∧ x.1 ≤ 4 ∧ 0 ≤ x.2 ∧ x.2 ≤ 9

theorem fileT_eq {x y : Int × Int} {a b : List UInt8} (hx : FOk x) (hy : FOk y) (h : fileT x ++ a = fileT y ++ b) : x = y ∧ a = b := by
  unfold fileT at h
  simp only [List.cons_append, List.nil_append, List.cons.injEq, true_and] at h
  obtain ⟨x1, x2, x3, x4⟩ := hx
  obtain ⟨y1, y2, y3, y4⟩ := hy
  have e1 := b8_inj (by omega) (by omega) (by omega) (by omega) h.1
  have e2 := b8_inj (by omega) (by omega) (by omega) (by omega) h.2.1
  exact ⟨Prod.ext (by omega) (by omega), h.2.2⟩
theorem nameT_eq {n v n' v' : Int} {a b : List UInt8} (h1 : 1 ≤ n ∧ n ≤ 4 ∧ 0 ≤ v ∧ v ≤ 9) (h2 : 1 ≤ n' ∧ n' ≤ 4 ∧ 0 ≤ v' ∧ v' ≤ 9) (h : nameT n v ++ a = nameT n' v' ++ b) : n = n' ∧ v = v' ∧ a = b := by
  unfold nameT at h
  simp only [List.cons_append, List.nil_append, List.cons.injEq] at h
  have e1 := b8_inj (by omega) (by omega) (by omega) (by omega) h.1
  have e2 := b8_inj (by omega) (by omega) (by omega) (by omega) h.2.1
  exact ⟨by omega, by omega, h.2.2⟩
theorem file_dep {x y : Int × Int} {a b : List UInt8} (hy : DOk y) (h : fileT x ++ a = depT y ++ b) : False := by
  unfold fileT depT nameT at h
  simp only [List.cons_append, List.nil_append, List.cons.injEq, true_and] at h
  have e := h.2.1
  obtain ⟨y1, y2, y3, y4⟩ := hy
  have : b8 58 = b8 (48 + y.2) := e
  have := b8_inj (by omega) (by omega) (by omega) (by omega) this
  omega
theorem deps_inj : ∀ (ds ds' : List (Int × Int)), (∀ x ∈ ds, DOk x) → (∀ x ∈ ds', DOk x) → ds.flatMap depT = ds'.flatMap depT → ds = ds'
  | [], [], _, _, _ => rfl
  | [], y :: l, _, _, h => by simp [depT] at h
  | x :: l, [], _, _, h => by simp [depT] at h
  | x :: l, y :: l', hx, hy, h => by
    rw [List.flatMap_cons, List.flatMap_cons] at h
    unfold depT at h
    simp only [List.cons_append, List.cons.injEq, true_and] at h
    obtain ⟨x1, x2, x3, x4⟩ := hx x (List.mem_cons_self ..)
    obtain ⟨y1, y2, y3, y4⟩ := hy y (List.mem_cons_self ..)
    obtain ⟨e1, e2, e3⟩ := nameT_eq ⟨x1, x2, x3, x4⟩ ⟨y1, y2, y3, y4⟩ h
    rw [Prod.ext e1 e2, deps_inj l l' (fun z hz => hx z (List.mem_cons_of_mem _ hz)) (fun z hz => hy z (List.mem_cons_of_mem _ hz)) e3]
theorem files_inj : ∀ (fs fs' ds ds' : List (Int × Int)), (∀ x ∈ fs, FOk x) → (∀ x ∈ fs', FOk x) → (∀ x ∈ ds, DOk x) → (∀ x ∈ ds', DOk x) → fs.flatMap fileT ++ ds.flatMap depT = fs'.flatMap fileT ++ ds'.flatMap depT → fs = fs' ∧ ds = ds'
  | [], [], ds, ds', _, _, h3, h4, h => ⟨rfl, deps_inj ds ds' h3 h4 h⟩
  | [], y :: l', [], ds', _, _, _, _, h => by simp [fileT] at h
  | [], y :: l', d :: m, ds', _, h2, h3, _, h => by
    rw [List.flatMap_cons, List.flatMap_cons, List.flatMap_nil, List.nil_append, List.append_assoc] at h
    exact (file_dep (h3 d (List.mem_cons_self ..)) h.symm).elim
  | x :: l, [], ds, [], _, _, _, _, h => by simp [fileT] at h
  | x :: l, [], ds, d :: m, h1, _, _, h4, h => by
    rw [List.flatMap_cons, List.flatMap_cons, List.flatMap_nil, List.nil_append, List.append_assoc] at h
    exact (file_dep (h4 d (List.mem_cons_self ..)) h).elim
  | x :: l, y :: l', ds, ds', h1, h2, h3, h4, h => by
    rw [List.flatMap_cons, List.flatMap_cons, List.append_assoc, List.append_assoc] at h
    obtain ⟨e1, e2⟩ := fileT_eq (h1 x (List.mem_cons_self ..)) (h2 y (List.mem_cons_self ..)) h
    obtain ⟨e3, e4⟩ := files_inj l l' ds ds' (fun z hz => h1 z (List.mem_cons_of_mem _ hz)) (fun z hz => h2 z (List.mem_cons_of_mem _ hz)) h3 h4 e2
    exact ⟨by rw [e1, e3], e4⟩

theorem mem_of {l : List (Int × Int)} {P : Int → Int → Prop} (h : ∀ i, i < l.length → P (fst l i) (snd l i)) : ∀ x ∈ l, P x.1 x.2 := by
  intro x hx
  obtain ⟨i, hi, rfl⟩ := List.getElem_of_mem hx
  have := h i hi
  simpa [fst, snd, hi] using this

theorem ok_parts {nm vr : Int} {fs ds : List (Int × Int)} (h : pkgOk nm vr fs ds = true) : (1 ≤ nm ∧ nm ≤ 4 ∧ 0 ≤ vr ∧ vr ≤ 9) ∧ (∀ x ∈ fs, FOk x) ∧ (∀ x ∈ ds, DOk x) := by
  unfold pkgOk at h
  rw [Bool.and_eq_true, Bool.and_eq_true, Bool.and_eq_true, inB_true, inB_true] at h
  have fb := mem_of (P := fun a b => (0 ≤ a ∧ a ≤ 5) ∧ (0 ≤ b ∧ b ≤ 9)) (filesOk_get h.1.2).2
  have db := mem_of (P := fun a b => (1 ≤ a ∧ a ≤ 4) ∧ (1 ≤ b ∧ b ≤ 5)) (depsOk_get h.2).2
  exact ⟨by omega, fun x hx => by have := fb x hx; unfold FOk; omega, fun x hx => by have := db x hx; unfold DOk; omega⟩

/-- Two packages that are ok are the same just if their texts are. -/
theorem text_inj {nm vr nm' vr' : Int} {fs ds fs' ds' : List (Int × Int)} (h : pkgOk nm vr fs ds = true) (h' : pkgOk nm' vr' fs' ds' = true) : text nm vr fs ds = text nm' vr' fs' ds' ↔ (nm = nm' ∧ vr = vr' ∧ fs = fs' ∧ ds = ds') := by
  constructor
  · intro e
    unfold text at e
    rw [if_pos h, if_pos h'] at e
    unfold textOk at e
    obtain ⟨a1, a2, a3⟩ := ok_parts h
    obtain ⟨b1, b2, b3⟩ := ok_parts h'
    rw [List.append_assoc, List.append_assoc] at e
    obtain ⟨e1, e2, e3⟩ := nameT_eq a1 b1 e
    obtain ⟨e4, e5⟩ := files_inj fs fs' ds ds' a2 b2 a3 b3 e3
    exact ⟨e1, e2, e4, e5⟩
  · rintro ⟨rfl, rfl, rfl, rfl⟩
    rfl
theorem text_nil {nm vr : Int} {fs ds : List (Int × Int)} : text nm vr fs ds = [] ↔ pkgOk nm vr fs ds = false := by
  unfold text
  cases h : pkgOk nm vr fs ds
  · simp
  · simp [textOk, nameT]
end Go.Proofs.YtlnieobmhofkdaaGreat.Pk
