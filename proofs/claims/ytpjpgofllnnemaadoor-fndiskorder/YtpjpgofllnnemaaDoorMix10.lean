import Derived.Test.YtpjpgofllnnemaaDoorMix2
import Derived.Test.YtpjpgofllnnemaaDoorMix4
import Derived.Laws.OwnMore
import Derived.Deep.AppendLies
import Derived.Maps.AppendAt
import Derived.Test.YtpjpgofllnnemaaDoorMix1
import Derived.Laws.MakeOwn
import Derived.Test.YtpjpgofllnnemaaDoorMix3
import Derived.Deep.RegionHeld3
import Derived.Deep.DrawnRows
import Derived.Test.YtpjpgofllnnemaaDoorPksW
/- What the laws' markPkg and heldPkg do: marks are laid into a package's rows, and nowhere else; they are read again. -/
namespace Go.Proofs.YtpjpgofllnnemaaDoor
open Go.RowKit

/-- The marks that are laid, a pair a place. -/
def marks (k : Int) (n : Nat) : List (Int × Int) := (List.range n).map fun i : Nat => (k + 2 * (i : Int), k + 2 * (i : Int) + 1)
theorem marks_len (k : Int) (n : Nat) : (marks k n).length = n := by simp [marks]
theorem marks_succ (k : Int) (n : Nat) : marks k (n + 1) = marks k n ++ [(k + 2 * (n : Int), k + 2 * (n : Int) + 1)] := by simp [marks, List.range_succ]
theorem marks_at (k : Int) (n j : Nat) (h : j < n) : Pk.fst (marks k n) j = k + 2 * (j : Int) ∧ Pk.snd (marks k n) j = k + 2 * (j : Int) + 1 := by
  simp [Pk.fst, Pk.snd, marks, h]
theorem flat_app (a b : List (Int × Int)) : flat (a ++ b) = flat a ++ flat b := by unfold flat; rw [List.flatMap_append]
theorem flat_length : ∀ a : List (Int × Int), (flat a).length = a.length * 2
  | [] => rfl
  | x :: l => by
    have := flat_length l
    show (Value.int .i64 x.1 :: Value.int .i64 x.2 :: flat l).length = _
    simp only [List.length_cons, this]
    omega
theorem mark_set (k : Int) (l : List (Int × Int)) (j : Nat) (h : j < l.length) : ((flat (marks k j ++ l.drop j)).set (j * 2) (.int .i64 (k + 2 * j))).set (j * 2 + 1) (.int .i64 (k + 2 * j + 1)) = flat (marks k (j + 1) ++ l.drop (j + 1)) := by
  have hlen : (flat (marks k j)).length = j * 2 := by rw [flat_length, marks_len]
  rw [List.drop_eq_getElem_cons h, flat_app, List.set_append_right _ _ (by omega), List.set_append_right _ _ (by omega), hlen, Nat.sub_self, Nat.add_sub_cancel_left, marks_succ, flat_app, flat_app]
  rw [List.append_assoc]
  rfl
theorem grown_reflM (w : World) (r : Option Nat) : w.grownBy w r := ⟨rfl, rfl, rfl, Nat.le_refl _, fun _ _ _ => rfl⟩

/-- A row of files and a row of needs do not lie in one block. -/
theorem file_dep_ne {w : World} {B B' : Nat} {v v' : Value} {n n' : Nat} {xs xs' : List Value} (h : w.ownsRow B 58 2 v n xs) (h' : w.ownsRow B' 90 2 v' n' xs') : ∀ g, v'.ownBlock = some g → some g ≠ v.ownBlock := by
  intro g hg' hg
  rcases h.2 with ⟨rfl, _⟩ | ⟨g1, c1, cur1, rfl, _, hb1, _⟩
  · cases hg
  rcases h'.2 with ⟨rfl, _⟩ | ⟨g2, c2, cur2, rfl, _, hb2, _⟩
  · cases hg'
  simp only [Value.ownBlock, Option.some.injEq] at hg hg'
  subst hg'
  subst hg
  rw [hb1] at hb2
  injection hb2 with hb2
  injection hb2 with _ hb2 _
  revert hb2
  decide

end Go.Proofs.YtpjpgofllnnemaaDoor

/- What the laws' own helpers return: szPkg how much is left, toPkg a copy of the package in memory of its own, eqPkg whether two packages are the same. -/
namespace Go.Proofs.YtpjpgofllnnemaaDoor
open Go.RowKit

theorem infoF : (Tryd.prog.info? 58).map (fun i => (i.zero, i.size, i.bytes)) = some (some (.agg #[.int .i64 0, .int .i64 0]), 2, 16) := by kernel_rfl
theorem infoD : (Tryd.prog.info? 90).map (fun i => (i.zero, i.size, i.bytes)) = some (some (.agg #[.int .i64 0, .int .i64 0]), 2, 16) := by kernel_rfl


/-- A new row of n pairs. -/
theorem mk_row (t e : TypeId) (hi : (Tryd.prog.info? e).map (fun i => (i.zero, i.size, i.bytes)) = some (some (.agg #[.int .i64 0, .int .i64 0]), 2, 16)) (ht : Tryd.prog.underlying t = some (.slice e)) (w : World) (n : Nat) (hn : n ≤ 1048576) :
    ∃ C : Array Value, C.size = n * 2 ∧ (Instr.makeSlice t (.int .i64 (n : Int)) (.int .i64 (n : Int))).run Tryd.prog w = .ok (.slice (some ⟨w.heap.size, 0, none⟩) n n) (w.alloc (.cells C e)) := by
  obtain ⟨i, hi0, hz0, hz1, hz2⟩ := info_parts hi
  have h := run_make (P := Tryd.prog) w t e i (.agg #[.int .i64 0, .int .i64 0]) ht hi0 hz0 .i64 .i64 (n : Int) (n : Int) (by omega) (Int.le_refl _) (by rw [hz2]; omega) (by omega)
  rw [hz1] at h
  simp only [Int.toNat_natCast] at h
  exact ⟨_, size_madeCells _ _, h⟩

/-- The row that is filled: the first k pairs are there. -/
def Fill (w : World) (g : Nat) (t : TypeId) (l : List (Int × Int)) (k : Nat) : Prop :=
  ∃ C : Array Value, w.heap[g]? = some (.cells C t (0, 0)) ∧ C.size = l.length * 2 ∧ ∀ i, i < k → C[i * 2]? = some (.int .i64 (Pk.fst l i)) ∧ C[i * 2 + 1]? = some (.int .i64 (Pk.snd l i))

theorem Fill.more {w : World} {g : Nat} {t : TypeId} {l : List (Int × Int)} {k : Nat} (h : Fill w g t l k) (hk : k < l.length) :
    Fill ((w.setCell ⟨g, k * 2, none⟩ (.int .i64 (Pk.fst l k))).setCell ⟨g, k * 2 + 1, none⟩ (.int .i64 (Pk.snd l k))) g t l (k + 1) := by
  obtain ⟨C, h1, h2, h3⟩ := h
  refine ⟨_, heapSet (heapSet h1), by simpa using h2, fun i hi => ?_⟩
  rcases Nat.lt_or_ge i k with hlt | hge
  · obtain ⟨a, b⟩ := h3 i hlt
    rw [Array.getElem?_setIfInBounds_ne (by omega), Array.getElem?_setIfInBounds_ne (by omega), Array.getElem?_setIfInBounds_ne (by omega), Array.getElem?_setIfInBounds_ne (by omega)]
    exact ⟨a, b⟩
  · obtain rfl : i = k := by omega
    rw [Array.getElem?_setIfInBounds_ne (by omega), Array.getElem?_setIfInBounds_self_of_lt (by omega), Array.getElem?_setIfInBounds_self_of_lt (by simp; omega)]
    exact ⟨rfl, rfl⟩

theorem Fill.keep {w w' : World} {g : Nat} {t : TypeId} {l : List (Int × Int)} {k : Nat} (h : Fill w g t l k) (hb : w'.heap[g]? = w.heap[g]?) : Fill w' g t l k := by
  obtain ⟨C, h1, h2⟩ := h
  exact ⟨C, hb.trans h1, h2⟩
theorem Fill.later {w w' : World} {g : Nat} {t : TypeId} {l : List (Int × Int)} {k : Nat} (h : Fill w g t l k) (hb : Below w.heap.size w w') : Fill w' g t l k := by
  obtain ⟨C, h1, h2⟩ := h
  exact ⟨C, (hb.block _ (heapLt h1)).trans h1, h2⟩
theorem Fill.prs {w : World} {g : Nat} {t : TypeId} {l : List (Int × Int)} (h : Fill w g t l l.length) (hl : l.length ≤ 1048576) : Prs w (.slice (some ⟨g, 0, none⟩) l.length l.length) l := by
  obtain ⟨C, h1, h2, h3⟩ := h
  refine ⟨_, _, rfl, by omega, fun _ => ⟨g, 0, rfl, heapLt h1, fun i hi => ?_⟩⟩
  obtain ⟨a, b⟩ := h3 i hi
  rw [Nat.zero_add, cellOf h1, cellOf h1]
  exact ⟨a, b⟩


theorem Prs.keep {w w' : World} {g off n c : Nat} {l : List (Int × Int)} (h : Prs w (.slice (some ⟨g, off, none⟩) n c) l) (hb : w'.heap[g]? = w.heap[g]?) (hs : w.heap.size ≤ w'.heap.size) : Prs w' (.slice (some ⟨g, off, none⟩) n c) l := by
  obtain ⟨a, cap, hv, hl, hr⟩ := h
  refine ⟨a, cap, hv, hl, fun hp => ?_⟩
  obtain ⟨b, off', ha, hbs, hc⟩ := hr hp
  rw [ha] at hv
  injection hv with h1 _ _
  injection h1 with h1
  injection h1 with h1 h2 _
  rw [h1] at hb
  exact ⟨b, off', ha, Nat.lt_of_lt_of_le hbs hs, fun i hi => ⟨(World.cell?_of_block (a := ⟨b, off' + i * 2, none⟩) hb).trans (hc i hi).1, (World.cell?_of_block (a := ⟨b, off' + i * 2 + 1, none⟩) hb).trans (hc i hi).2⟩⟩

/-- Three new blocks. -/
theorem three (w : World) (o1 o2 o3 : Obj) : (((w.alloc o1).alloc o2).alloc o3).heap.size = w.heap.size + 3 ∧ (((w.alloc o1).alloc o2).alloc o3).heap[w.heap.size]? = some o1 ∧ (((w.alloc o1).alloc o2).alloc o3).heap[w.heap.size + 1]? = some o2 ∧ (((w.alloc o1).alloc o2).alloc o3).heap[w.heap.size + 1 + 1]? = some o3 ∧ Below w.heap.size w (((w.alloc o1).alloc o2).alloc o3) := by
  have old : ∀ (w : World) (o : Obj) (k : Nat), k < w.heap.size → (w.alloc o).heap[k]? = w.heap[k]? := fun w o k hk => Below.heap_alloc w o k hk
  have new : ∀ (w : World) (o : Obj) (k : Nat), k = w.heap.size → (w.alloc o).heap[k]? = some o := fun w o k hk => by rw [hk]; exact heap_alloc_new w o
  refine ⟨by rw [sz1', sz1', sz1'], ?_, ?_, ?_, (((Below.refl _ _).alloc (Nat.le_refl _) _).alloc (by rw [sz1']; omega) _).alloc (by rw [sz1', sz1']; omega) _⟩
  · rw [old _ _ _ (by rw [sz1', sz1']; omega), old _ _ _ (by rw [sz1']; omega), new _ _ _ rfl]
  · rw [old _ _ _ (by rw [sz1', sz1']; omega), new _ _ _ (by rw [sz1'])]
  · rw [new _ _ _ (by rw [sz1', sz1'])]

end Go.Proofs.YtpjpgofllnnemaaDoor

/- What the laws' eqPkg returns: true of two packages that read the same. -/
namespace Go.Proofs.YtpjpgofllnnemaaDoor
open Go.RowKit

attribute [local go_sem ↓] Go.wp_at_zero Go.wp_at_succ

theorem sz1e (w : World) (o : Obj) : (w.alloc o).heap.size = w.heap.size + 1 := by simp
end Go.Proofs.YtpjpgofllnnemaaDoor

/- What the laws' szPkg returns: how much is left. -/
namespace Go.Proofs.YtpjpgofllnnemaaDoor
open Go.RowKit

attribute [local go_sem ↓] Go.wp_at_zero Go.wp_at_succ

end Go.Proofs.YtpjpgofllnnemaaDoor

/- What the laws' toPkgS, eqPkgS and szPkgS return: a copy in memory of its own, true of two that read the same, and whether there is too much. -/
namespace Go.Proofs.YtpjpgofllnnemaaDoor
open Go.RowKit

theorem infoPk : (Tryd.prog.info? 56).map (fun i => (i.zero, i.size, i.bytes)) = some (some (.agg #[.int .i64 0, .int .i64 0, .slice none 0 0, .slice none 0 0]), 4, 64) := by kernel_rfl
theorem mk_pkgs (w : World) (n : Nat) (hn : n ≤ 1048576) :
    ∃ C : Array Value, C.size = n * 4 ∧ (Instr.makeSlice 23 (.int .i64 (n : Int)) (.int .i64 (n : Int))).run Tryd.prog w = .ok (.slice (some ⟨w.heap.size, 0, none⟩) n n) (w.alloc (.cells C 56)) := by
  obtain ⟨i, hi0, hz0, hz1, hz2⟩ := info_parts infoPk
  have h := run_make (P := Tryd.prog) w 23 56 i (.agg #[.int .i64 0, .int .i64 0, .slice none 0 0, .slice none 0 0]) Tryd.underlying23 hi0 hz0 .i64 .i64 (n : Int) (n : Int) (by omega) (Int.le_refl _) (by rw [hz2]; omega) (by omega)
  rw [hz1] at h
  simp only [Int.toNat_natCast] at h
  exact ⟨_, size_madeCells _ _, h⟩
theorem Prs.at {N : Nat → Prop} {w : World} {g n c : Nat} {l : List (Int × Int)} (h : Prs w (.slice (some ⟨g, 0, none⟩) n c) l) (hN : N g) : PrsN N w (.slice (some ⟨g, 0, none⟩) n c) l := by
  obtain ⟨a, cap, hv, hl, hr⟩ := h
  refine ⟨a, cap, hv, hl, fun hp => ?_⟩
  obtain ⟨b, off, ha, hb, hc⟩ := hr hp
  injection hv with hv _ _
  rw [ha] at hv
  injection hv with hv
  injection hv with hv _ _
  exact ⟨b, off, ha, hb, hv ▸ hN, hc⟩

/-- A row of pairs that was made, behind the block g. -/
def RowF (w : World) (g : Nat) (t : TypeId) (v : Value) (l : List (Int × Int)) : Prop :=
  ∃ g1, v = .slice (some ⟨g1, 0, none⟩) l.length l.length ∧ g < g1 ∧ l.length ≤ 1048576 ∧ Fill w g1 t l l.length
theorem RowF.keep {w w' : World} {g : Nat} {t : TypeId} {v : Value} {l : List (Int × Int)} (h : RowF w g t v l) (hb : ∀ j, g < j → j < w.heap.size → w'.heap[j]? = w.heap[j]?) : RowF w' g t v l := by
  obtain ⟨g1, h1, h2, h3, h4⟩ := h
  have lt : g1 < w.heap.size := by obtain ⟨C, h, _⟩ := h4; exact heapLt h
  exact ⟨g1, h1, h2, h3, h4.keep (hb g1 h2 lt)⟩
theorem RowF.prsN {w : World} {g : Nat} {t : TypeId} {v : Value} {l : List (Int × Int)} (h : RowF w g t v l) : PrsN (fun b => g < b) w v l := by
  obtain ⟨g1, rfl, h2, h3, h4⟩ := h
  exact Prs.at (h4.prs h3) h2

/-- The row that is filled: the first k packages are there, their rows in later blocks. -/
def FillP (w : World) (g : Nat) (l : List Ix.Pg) (k : Nat) : Prop :=
  ∃ C : Array Value, w.heap[g]? = some (.cells C 56 (0, 0)) ∧ C.size = l.length * 4 ∧ ∀ i, i < k → ∃ fv dv, (C[i * 4]? = some (.int .i64 (Ix.pg l i).1) ∧ C[i * 4 + 1]? = some (.int .i64 (Ix.pg l i).2.1) ∧ C[i * 4 + 2]? = some fv ∧ C[i * 4 + 3]? = some dv) ∧ RowF w g 58 fv (Ix.pg l i).2.2.1 ∧ RowF w g 90 dv (Ix.pg l i).2.2.2
theorem FillP.later {w w' : World} {g k : Nat} {l : List Ix.Pg} (h : FillP w g l k) (hb : Below w.heap.size w w') : FillP w' g l k := by
  obtain ⟨C, h1, h2, h3⟩ := h
  refine ⟨C, (hb.block g (heapLt h1)).trans h1, h2, fun i hi => ?_⟩
  obtain ⟨fv, dv, h4, h5, h6⟩ := h3 i hi
  exact ⟨fv, dv, h4, h5.keep (fun j _ hj => hb.block j hj), h6.keep (fun j _ hj => hb.block j hj)⟩
theorem FillP.more {w : World} {g k : Nat} {l : List Ix.Pg} {fv dv : Value} (h : FillP w g l k) (hk : k < l.length) (hf : RowF w g 58 fv (Ix.pg l k).2.2.1) (hd : RowF w g 90 dv (Ix.pg l k).2.2.2) :
    FillP ((((w.setCell ⟨g, k * 4, none⟩ (.int .i64 (Ix.pg l k).1)).setCell ⟨g, k * 4 + 1, none⟩ (.int .i64 (Ix.pg l k).2.1)).setCell ⟨g, k * 4 + 2, none⟩ fv).setCell ⟨g, k * 4 + 3, none⟩ dv) g l (k + 1) := by
  obtain ⟨C, h1, h2, h3⟩ := h
  have far : ∀ j, j ≠ g → ((((w.setCell ⟨g, k * 4, none⟩ (.int .i64 (Ix.pg l k).1)).setCell ⟨g, k * 4 + 1, none⟩ (.int .i64 (Ix.pg l k).2.1)).setCell ⟨g, k * 4 + 2, none⟩ fv).setCell ⟨g, k * 4 + 3, none⟩ dv).heap[j]? = w.heap[j]? := fun j hj => by rw [Below.heap_setCell _ _ _ _ hj, Below.heap_setCell _ _ _ _ hj, Below.heap_setCell _ _ _ _ hj, Below.heap_setCell _ _ _ _ hj]
  have kp : ∀ {t : TypeId} {v : Value} {p : List (Int × Int)}, RowF w g t v p → RowF _ g t v p := fun h => h.keep (fun j hj _ => far j (by omega))
  refine ⟨_, heapSet (heapSet (heapSet (heapSet h1))), by simpa using h2, fun i hi => ?_⟩
  rcases Nat.lt_or_ge i k with hlt | hge
  · obtain ⟨fv', dv', ⟨a, b, c, d⟩, h5, h6⟩ := h3 i hlt
    refine ⟨fv', dv', ⟨?_, ?_, ?_, ?_⟩, kp h5, kp h6⟩
    · rw [Array.getElem?_setIfInBounds_ne (by omega), Array.getElem?_setIfInBounds_ne (by omega), Array.getElem?_setIfInBounds_ne (by omega), Array.getElem?_setIfInBounds_ne (by omega)]; exact a
    · rw [Array.getElem?_setIfInBounds_ne (by omega), Array.getElem?_setIfInBounds_ne (by omega), Array.getElem?_setIfInBounds_ne (by omega), Array.getElem?_setIfInBounds_ne (by omega)]; exact b
    · rw [Array.getElem?_setIfInBounds_ne (by omega), Array.getElem?_setIfInBounds_ne (by omega), Array.getElem?_setIfInBounds_ne (by omega), Array.getElem?_setIfInBounds_ne (by omega)]; exact c
    · rw [Array.getElem?_setIfInBounds_ne (by omega), Array.getElem?_setIfInBounds_ne (by omega), Array.getElem?_setIfInBounds_ne (by omega), Array.getElem?_setIfInBounds_ne (by omega)]; exact d
  · obtain rfl : i = k := by omega
    refine ⟨fv, dv, ⟨?_, ?_, ?_, ?_⟩, kp hf, kp hd⟩
    · rw [Array.getElem?_setIfInBounds_ne (by omega), Array.getElem?_setIfInBounds_ne (by omega), Array.getElem?_setIfInBounds_ne (by omega), Array.getElem?_setIfInBounds_self_of_lt (by omega)]
    · rw [Array.getElem?_setIfInBounds_ne (by omega), Array.getElem?_setIfInBounds_ne (by omega), Array.getElem?_setIfInBounds_self_of_lt (by simp; omega)]
    · rw [Array.getElem?_setIfInBounds_ne (by omega), Array.getElem?_setIfInBounds_self_of_lt (by simp; omega)]
    · rw [Array.getElem?_setIfInBounds_self_of_lt (by simp; omega)]
theorem FillP.pks {w : World} {g : Nat} {l : List Ix.Pg} (h : FillP w g l l.length) (hl : l.length ≤ 1048576) : Pks (fun b => g ≤ b) w (.slice (some ⟨g, 0, none⟩) l.length l.length) l := by
  obtain ⟨C, h1, h2, h3⟩ := h
  refine ⟨_, _, rfl, by omega, fun _ => ⟨g, 0, rfl, heapLt h1, Nat.le_refl _, fun i hi => ?_⟩⟩
  obtain ⟨fv, dv, ⟨a, b, c, d⟩, h5, h6⟩ := h3 i hi
  have wk : ∀ {v : Value} {p : List (Int × Int)}, PrsN (fun b => g < b) w v p → PrsN (fun b => g ≤ b) w v p := by
    rintro v p ⟨a, cap, hv, hl, hr⟩
    refine ⟨a, cap, hv, hl, fun hp => ?_⟩
    obtain ⟨b, off, ha, hb, hN, hc⟩ := hr hp
    exact ⟨b, off, ha, hb, Nat.le_of_lt hN, hc⟩
  refine ⟨fv, dv, ⟨?_, ?_, ?_, ?_⟩, wk h5.prsN, wk h6.prsN⟩
  · rw [Nat.zero_add, cellOf h1]; exact a
  · rw [Nat.zero_add, cellOf h1]; exact b
  · rw [Nat.zero_add, cellOf h1]; exact c
  · rw [Nat.zero_add, cellOf h1]; exact d

/-- A package as it lies: its numbers, and where its rows are. -/
abbrev RawP : Type := Int × Int × (Option Addr × Nat × Nat) × (Option Addr × Nat × Nat)
def RawAt (w : World) (b o : Nat) (q : RawP) : Prop := w.cell? ⟨b, o, none⟩ = some (.int .i64 q.1) ∧ w.cell? ⟨b, o + 1, none⟩ = some (.int .i64 q.2.1) ∧ w.cell? ⟨b, o + 2, none⟩ = some (.slice q.2.2.1.1 q.2.2.1.2.1 q.2.2.1.2.2) ∧ w.cell? ⟨b, o + 3, none⟩ = some (.slice q.2.2.2.1 q.2.2.2.2.1 q.2.2.2.2.2)

end Go.Proofs.YtpjpgofllnnemaaDoor
