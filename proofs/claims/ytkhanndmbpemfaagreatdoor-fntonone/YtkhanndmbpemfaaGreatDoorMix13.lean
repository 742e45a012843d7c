import Derived.Test.YtkhanndmbpemfaaGreatDoorAnsPW
import Derived.Deep.AppendLies
import Derived.Test.YtkhanndmbpemfaaGreatDoorMix10
import Derived.Test.YtkhanndmbpemfaaGreatDoorMix1
import Derived.Deep.SlicePairs
import Derived.Lib.SmallJoins
/- What spec.l12Copy and impl.copyPkgs return: packages anew, each row its own; for every row of packages. -/
namespace Go.Proofs.YtkhanndmbpemfaaGreatDoor
open Go.RowKit

theorem PAns.start (w : World) : PAns w.heap.size (w.alloc (.cells #[] 94)) (.slice (some ⟨w.heap.size, 0, none⟩) 0 0) [] :=
  ⟨empty_own (sz := 4) (heap_alloc_new w _) (Nat.le_refl _), fun _ he => (by cases he), List.Pairwise.nil⟩

set_option maxHeartbeats 4000000 in
set_option maxRecDepth 100000 in
theorem l12Copy_any {N : Nat → Prop} (w : World) (v : Value) (l : List Ix.Pg) (h : Pks N w v l) (hl : l.length ≤ 1000) :
    Calls Tryz.prog 59 #[v] w fun e w' => ∃ u els, e = .returned u ∧ PAns w.heap.size w' u els ∧ els.map (·.1) = l ∧ Below w.heap.size w w' := by
  obtain ⟨i0, hI0, hz0, hz1, hz2⟩ := info_parts infoPkg
  obtain ⟨a, cap, rfl, hlen, hrow⟩ := h
  have HR := hide hrow
  have HS := hide (And.intro (PAns.start w) (below1 w (.cells #[] 94)))
  clear hrow hlen
  go_enter Tryz.func59, Tryz.ntmps59
  go_wp2_with fail
  go_loopw [3, 4] (fun o i w' => ∃ (k : Nat) (els : List El), k ≤ l.length ∧ i = .int .i64 k ∧ els.map (·.1) = l.take k ∧ PAns w.heap.size w' o els ∧ Below w.heap.size w w') (fun _ i _ => l.length - (intOf i).toNat)
  case atStart => exact ⟨0, [], Nat.zero_le _, rfl, rfl, (unhide HS).1, (unhide HS).2⟩
  case round =>
    clear HS
    obtain ⟨k, els, hk, rfl, hmap, hP, hw⟩ := hrel
    have hle : els.length ≤ k := by rw [← List.length_map (f := fun x : El => x.1), hmap, List.length_take]; omega
    have HM := hide hmap
    have HP := hide hP
    have HW := hide hw
    clear hmap hP hw
    by_cases hlt : k < l.length
    · obtain ⟨b, off, rfl, hb, _, hc⟩ := unhide HR (by omega)
      obtain ⟨fv, dv, hAt, hf, hd⟩ := hc k hlt
      obtain ⟨nm, vr, fs, ds, hpk⟩ : ∃ nm vr fs ds, Ix.pg l k = (nm, vr, fs, ds) := ⟨_, _, _, _, rfl⟩
      rw [hpk] at hAt hf hd
      dsimp only at hf hd
      obtain ⟨fa, fc, hfv⟩ := hf.slice
      obtain ⟨da, dc, hdv⟩ := hd.slice
      subst hfv hdv
      obtain ⟨c0, c1, c2, c3⟩ := hAt.keep ((unhide HW).block b hb)
      dsimp only at c0 c1 c2 c3
      have hb' : b < wr.heap.size := Nat.lt_of_lt_of_le hb (unhide HW).size
      have hi0 : (0 : Int) ≤ (k : Int) := Int.natCast_nonneg _
      have hi1 : (k : Int) < (l.length : Int) := by omega
      have CC := hide (specCopyPkg_any wr nm vr _ _ fs ds (hf.prs.later (unhide HW)) (hd.prs.later (unhide HW)))
      have htk := Ix.take_pg l k hlt
      rw [hpk] at htk
      have HTK := hide htk
      clear hc hAt hf hd hpk htk
      go_wp2_with fail
      refine (unhide CC).mono ?_
      rintro e w2 ⟨fv', dv', rfl, ho, hb2⟩
      obtain ⟨ga, gc, ha, hcc, h1, h2⟩ := ho.forms
      subst h1 h2
      have hfar : ∀ x ∈ els, farE x ((nm, vr, fs, ds), .slice ga fs.length gc, .slice ha ds.length hcc) := fun x hx => farE.new ((unhide HP).el x hx) ho
      have HFA := hide hfar
      have b3 := below1 w2 (.cells #[.int .i64 nm, .int .i64 vr, .slice ga fs.length gc, .slice ha ds.length hcc] 94)
      have HB3 := hide ((unhide HW).trans ((hb2.trans (b3.mono hb2.size)).mono (unhide HW).size))
      have HP3 := hide ((unhide HP).later (hb2.trans (b3.mono hb2.size)))
      have HO3 := hide ((ho.base (unhide HW).size).later b3)
      have hs2 : w.heap.size ≤ w2.heap.size := Nat.le_trans (unhide HW).size hb2.size
      clear c0 c1 c2 c3 CC ho hb2 b3 hfar HP HW
      go_wp2_with (at_builtin; refine wpList_append_lies _ rfl _ _ _ rfl w.heap.size 94 i0 _ 4 64 Tryz.underlying29 hI0 hz0 hz1 hz2 rfl (by omega) _ els.length (flat4 els) rfl (unhide HP3).own ⟨w2.heap.size, 0, none⟩ 1 1 [.int .i64 nm, .int .i64 vr, .slice ga fs.length gc, .slice ha ds.length hcc] rfl rfl (World.news_of_block (cs := #[.int .i64 nm, .int .i64 vr, .slice ga fs.length gc, .slice ha ds.length hcc]) (t := 94) (fr := (0, 0)) (heap_alloc_new _ _)) (by simp [Value.oneCell']) (by omega) (by unfold maxLen; omega) (by omega) (by rw [sz1']; omega) (w2.heap.size + 1) (by rw [sz1']) ?_; intro gg gcap w10 hown hgrow hat hlt10)
      have HP10 := hide (PAns.snoc (e := ((nm, vr, fs, ds), .slice ga fs.length gc, .slice ha ds.length hcc)) (unhide HP3) hgrow hown (unhide HO3) (unhide HFA))
      have HB10 := hide (grown_below (B := w.heap.size) (unhide HP3).own hgrow (unhide HB3) (unhide HB3).size)
      clear hown hgrow hat hlt10 HP3 HB3 HO3 HFA
      go_roundw
      case rel => exact ⟨k + 1, els ++ [((nm, vr, fs, ds), .slice ga fs.length gc, .slice ha ds.length hcc)], by omega, by go_num, by rw [unhide HTK, List.map_append, unhide HM]; rfl, unhide HP10, unhide HB10⟩
      case measure => simp [intOf]; omega
    · obtain rfl : k = l.length := by omega
      rw [List.take_of_length_le (Nat.le_refl _)] at HM
      clear hlt HR
      go_wp2
      go_ret
      exact ⟨_, els, rfl, unhide HP, unhide HM, unhide HW⟩
end Go.Proofs.YtkhanndmbpemfaaGreatDoor

/- What a step is, on both sides; what the steps of a disk that is written to do. -/
namespace Go.Proofs.YtkhanndmbpemfaaGreatDoor
open Go.RowKit

attribute [local go_sem ↓] Go.wp_at_zero Go.wp_at_succ

namespace Dk
/-- A step as data. -/
structure S where
  k : Int
  p : Int
  x : Int
  ps : List Ix.Pg
def S.own (s : S) : Bool :=
  if s.k = 1 ∨ s.k = 3 then decide (s.p = 0) && decide (s.x = 0)
  else if s.k = 2 then decide (s.ps.length = 0)
  else if s.k = 4 then (decide (s.p = 0) && decide (s.x = 0)) && decide (s.ps.length = 0)
  else false
def S.ok (s : S) : Bool := s.own && (Pk.inB s.p 0 5 && (Pk.inB s.x (-1) 9 && Ix.planOk s.ps))
end Dk
theorem zeroI (x : Int) : (x == 0) = decide (x = 0) := by
  by_cases h : x = 0
  · rw [decide_eq_true h, beq_iff_eq]; exact h
  · rw [decide_eq_false h, beq_eq_false_iff_ne]; exact h
theorem zeroL (l : List Ix.Pg) : ((l.length : Int) == 0) = decide (l.length = 0) := by
  by_cases h : l.length = 0
  · rw [decide_eq_true h, beq_iff_eq]; omega
  · rw [decide_eq_false h, beq_eq_false_iff_ne]; omega
abbrev stV (k p x : Int) (v : Value) : Value := .agg #[.int .i64 k, .int .i64 p, .int .i64 x, v]

set_option maxHeartbeats 4000000 in
set_option maxRecDepth 100000 in
theorem justOwn_any (w : World) (s : Dk.S) (v : Value) (a : Option Addr) (c : Nat) (hv : v = .slice a s.ps.length c) :
    Calls Tryz.prog 99 #[stV s.k s.p s.x v] w fun e w' => e = .returned (.bool s.own) ∧ Below w.heap.size w w' := by
  obtain ⟨k, p, x, ps⟩ := s
  dsimp only [stV] at *
  subst hv
  have b0 := below1 w (.cells #[.int .i64 k, .int .i64 p, .int .i64 x, .slice a ps.length c] 47)
  have HB := hide (heap_alloc_new w (.cells #[.int .i64 k, .int .i64 p, .int .i64 x, .slice a ps.length c] 47))
  have BW := hide b0
  have hp := zeroI p
  have hx := zeroI x
  have hl := zeroL ps
  have HO : Hid ((Dk.S.mk k p x ps).own = if k = 1 ∨ k = 3 then decide (p = 0) && decide (x = 0) else if k = 2 then decide (ps.length = 0) else if k = 4 then (decide (p = 0) && decide (x = 0)) && decide (ps.length = 0) else false) := rfl
  generalize (Dk.S.mk k p x ps).own = OK at *
  clear b0
  generalize decide (p = 0) = bp at *
  generalize decide (x = 0) = bx at *
  generalize decide (ps.length = 0) = bl at *
  go_enter Tryz.func99, Tryz.ntmps99
  by_cases h1 : k = 1
  · subst h1
    rw [if_pos (.inl rfl)] at HO
    cases bp <;> cases bx <;> (go_wp2; go_ret; exact ⟨ret_bool (unhide HO).symm, unhide BW⟩)
  by_cases h3 : k = 3
  · subst h3
    rw [if_pos (.inr rfl)] at HO
    clear h1
    cases bp <;> cases bx <;> (go_wp2; go_ret; exact ⟨ret_bool (unhide HO).symm, unhide BW⟩)
  rw [if_neg (by omega)] at HO
  by_cases h2 : k = 2
  · subst h2
    rw [if_pos rfl] at HO
    clear h1 h3
    cases bp <;> cases bx <;> (go_wp2; go_ret; exact ⟨ret_bool (unhide HO).symm, unhide BW⟩)
  rw [if_neg h2] at HO
  by_cases h4 : k = 4
  · subst h4
    rw [if_pos rfl] at HO
    clear h1 h3 h2
    cases bp <;> cases bx <;> cases bl <;> (go_wp2; go_ret; exact ⟨ret_bool (unhide HO).symm, unhide BW⟩)
  · rw [if_neg h4] at HO
    have e1 : (k == 1) = false := by simpa using h1
    have e2 : (k == 2) = false := by simpa using h2
    have e3 : (k == 3) = false := by simpa using h3
    have e4 : (k == 4) = false := by simpa using h4
    cases bp <;> cases bx <;> (go_wp2; go_ret; exact ⟨ret_bool (unhide HO).symm, unhide BW⟩)

set_option maxHeartbeats 4000000 in
set_option maxRecDepth 100000 in
theorem implStepOk_any {N : Nat → Prop} (w : World) (s : Dk.S) (v : Value) (h : Pks N w v s.ps) (r : ∀ a c, v = .slice a s.ps.length c → s.ps.length ≤ c) :
    Calls Tryz.prog 63 #[stV s.k s.p s.x v] w fun e w' => e = .returned (.bool s.ok) ∧ Below w.heap.size w w' := by
  obtain ⟨a, c, hv⟩ := h.slice
  have CJ := hide (fun (W : World) => justOwn_any W s v a c hv)
  have HO : Hid (s.ok = (s.own && (Pk.inB s.p 0 5 && (Pk.inB s.x (-1) 9 && Ix.planOk s.ps)))) := rfl
  generalize s.ok = OK at *
  generalize s.own = ow at *
  obtain ⟨k, p, x, ps⟩ := s
  dsimp only [stV] at *
  subst hv
  have b0 := below1 w (.cells #[.int .i64 k, .int .i64 p, .int .i64 x, .slice a ps.length c] 47)
  have HB := hide (heap_alloc_new w (.cells #[.int .i64 k, .int .i64 p, .int .i64 x, .slice a ps.length c] 47))
  have BW := hide b0
  have HP := hide (h.later b0)
  have R := hide r
  clear b0 h r
  go_enter Tryz.func63, Tryz.ntmps63
  go_wp2_with fail
  refine (unhide CJ _).mono ?_
  generalize w.alloc _ = W0 at *
  rintro e w1 ⟨rfl, b⟩
  replace HB := hide ((b.block _ (heapLt (unhide HB))).trans (unhide HB))
  replace BW := hide ((unhide BW).trans (b.mono (unhide BW).size))
  replace HP := hide ((unhide HP).later b)
  clear b CJ
  obtain ⟨x0, x1, x2, x3⟩ : _ ∧ _ ∧ _ ∧ _ := ⟨cellOf (unhide HB) 0, cellOf (unhide HB) 1, cellOf (unhide HB) 2, cellOf (unhide HB) 3⟩
  cases ow
  · have HE : Hid (OK = false) := by show _ = _; rw [unhide HO]; rfl
    go_wp2
    go_ret
    exact ⟨ret_bool (unhide HE).symm, unhide BW⟩
  have CP := hide (fun (W : World) => between_any p 0 5 W)
  have CX := hide (fun (W : World) => between_any x (-1) 9 W)
  generalize Pk.inB p 0 5 = bp at *
  generalize Pk.inB x (-1) 9 = bx at *
  go_wp2_with fail
  refine (unhide CP _).mono ?_
  rintro e w2 ⟨rfl, rfl⟩
  cases bp
  · have HE : Hid (OK = false) := by show _ = _; rw [unhide HO]; rfl
    clear CP CX
    go_wp2
    go_ret
    exact ⟨ret_bool (unhide HE).symm, unhide BW⟩
  go_wp2_with fail
  refine (unhide CX _).mono ?_
  rintro e w3 ⟨rfl, rfl⟩
  cases bx
  · have HE : Hid (OK = false) := by show _ = _; rw [unhide HO]; rfl
    clear CP CX
    go_wp2
    go_ret
    exact ⟨ret_bool (unhide HE).symm, unhide BW⟩
  have HE : Hid (OK = Ix.planOk ps) := by show _ = _; rw [unhide HO]; rfl
  clear CP CX
  have CK := hide (implPlanOk_any w3 _ ps (unhide HP) (unhide R))
  generalize Ix.planOk ps = q at *
  go_wp2_with fail
  refine (unhide CK).mono ?_
  rintro e w4 ⟨rfl, b⟩
  replace BW := hide ((unhide BW).trans (b.mono (unhide BW).size))
  clear b x0 x1 x2 x3 HB HP CK
  go_wp2
  go_ret
  exact ⟨ret_bool (unhide HE).symm, unhide BW⟩
end Go.Proofs.YtkhanndmbpemfaaGreatDoor

/- How a package that came in is read: its numbers, and its two rows of pairs. -/
namespace Go.Proofs.YtkhanndmbpemfaaGreatDoor
open Go.RowKit Go.Deep Go.Joins

theorem fst_map (n : Nat) (f g : Nat → Int) (i : Nat) (h : i < n) : Pk.fst ((List.range n).map fun i => (f i, g i)) i = f i ∧ Pk.snd ((List.range n).map fun i => (f i, g i)) i = g i := by
  unfold Pk.fst Pk.snd
  simp [List.getD, h]

theorem add_none (b off i : Nat) : (⟨b, off, none⟩ : Addr).add i = ⟨b, off + i, none⟩ := by unfold Addr.add; split <;> simp_all

/-- A row of pairs that came in. -/
theorem open_pairs {H : Type} {enc : TypeId × Value → H} {W : World} {base fuel : Nat} {spare : Nat → Bool} {held : Bool} {t e : TypeId} {f0 f1 : Field} {v : Value} {x : DataW H × List MemPlace} (ht : Tryz.prog.underlying t = some (.slice e)) (he : Tryz.prog.underlying e = some (.struct #[f0, f1]))
    (ce : Tryz.prog.cellsOf e = 2) (o0 : f0.offset = 0) (o1 : f1.offset = 1) (c0 : Tryz.prog.cellsOf f0.type = 1) (c1 : Tryz.prog.cellsOf f1.type = 1) (u0 : Tryz.prog.underlying f0.type = some (.int .i64)) (u1 : Tryz.prog.underlying f1.type = some (.int .i64))
    (h : DataW.trod enc Tryz.prog W base spare held fuel t [v] = some x) :
    ∃ a n c, v = .slice a n c ∧ n ≤ 9223372036854775807 ∧ (n ≤ 1048576 → ∃ l : List (Int × Int), l.length = n ∧ Prs W (.slice a n c) l) := by
  rcases open_slice_pairs ht he ce o0 o1 c0 c1 h with ⟨hv, _⟩ | ⟨a, len, cap, m, n, V0, V1, D0, D1, P0, P1, hv, _, hl, hm, hmm, _, hx⟩
  · injection hv with hv _
    exact ⟨none, 0, 0, hv, by omega, fun _ => ⟨[], rfl, none, 0, rfl, by simp, fun h => by simp at h⟩⟩
  · injection hv with hv _
    unfold maxLen at hm
    refine ⟨some a, len, cap, hv, by omega, fun hs => ?_⟩
    have hlm : len ≤ m := by rw [hmm]; split <;> omega
    have each : ∀ i, i < len → ∃ q : Int × Int, W.cell? (a.add (i * 2)) = some (.int .i64 q.1) ∧ W.cell? (a.add (i * 2 + 1)) = some (.int .i64 q.2) := by
      intro i hi
      obtain ⟨h1, h2, h3, h4⟩ := hx i (by omega)
      obtain ⟨z0, e0, _, _⟩ := DataW.trod_int u0 h3
      obtain ⟨z1, e1, _, _⟩ := DataW.trod_int u1 h4
      injection e0 with e0 _
      injection e1 with e1 _
      exact ⟨(z0, z1), by rw [h1, e0], by rw [h2, e1]⟩
    obtain ⟨q, hq⟩ := choose_lt each
    refine ⟨(List.range len).map fun i => ((q i).1, (q i).2), by simp, some a, cap, by simp, by simp; omega, fun hp => ?_⟩
    have hp' : 0 < len := by simpa using hp
    obtain ⟨b, off, spot⟩ := a
    have h0 := (hq 0 hp').1
    have hspot : spot = none := by simpa [Addr.add] using World.cell?_spot h0
    subst hspot
    refine ⟨b, off, rfl, ?_, fun i hi => ?_⟩
    · rcases Nat.lt_or_ge b W.heap.size with h1 | h1
      · exact h1
      · rw [add_none, World.cell?, Array.getElem?_eq_none h1] at h0; cases h0
    · have hi' : i < len := by simpa using hi
      obtain ⟨g0, g1⟩ := hq i hi'
      obtain ⟨m0, m1⟩ := fst_map len (fun i => (q i).1) (fun i => (q i).2) i hi'
      rw [m0, m1]
      rw [add_none] at g0 g1
      exact ⟨g0, by rw [Nat.add_assoc]; exact g1⟩
end Go.Proofs.YtkhanndmbpemfaaGreatDoor
