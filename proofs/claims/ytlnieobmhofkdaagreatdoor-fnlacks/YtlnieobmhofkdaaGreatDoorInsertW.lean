import Derived.Test.YtlnieobmhofkdaaGreatDoorMix38
import Derived.Deep.AppendLies
import Derived.Lib.AppendZerosOnto
import Derived.Lib.Overlaps
import Derived.Laws.Externs
import Derived.Laws.CopyOwn
import Derived.Deep.RegionLaw
/- What slices.Insert returns for a row of packages of one's own and one package more: the row with it at a place, in place where there is room, else a new one. -/
namespace Go.Proofs.YtlnieobmhofkdaaGreatDoor
open Go.RowKit

attribute [local go_sem ↓] Go.wp_at_zero Go.wp_at_succ

/-- All but one block stay. -/
structure But (g : Nat) (w w' : World) : Prop where
  os : w'.os = w.os
  tape : w'.tape = w.tape
  output : w'.output = w.output
  size : w'.heap.size = w.heap.size
  block : ∀ k, k ≠ g → w'.heap[k]? = w.heap[k]?
theorem But.drew (g : Nat) (w : World) : But g w w.drew := ⟨rfl, rfl, rfl, rfl, fun _ _ => rfl⟩
theorem But.trans {g : Nat} {a b c : World} (h : But g a b) (k : But g b c) : But g a c := ⟨k.os.trans h.os, k.tape.trans h.tape, k.output.trans h.output, k.size.trans h.size, fun j hj => (k.block j hj).trans (h.block j hj)⟩
theorem But.setRow (g : Nat) (w : World) (cs : Array Value) : But g w (w.setRow g cs) := ⟨rfl, rfl, rfl, by simp [World.setRow], fun k hk => setRow_other w g k cs hk⟩
theorem copy4_run (w : World) (ty : TypeId) (g o dLen dCap : Nat) (a : Addr) (sLen sCap : Nat) (cur : List Value) (t : TypeId) (cs : List Value)
    (hg : w.heap[g]? = some (.cells cur.toArray t (0, 0))) (m : Nat) (hm : m = Nat.min sLen dLen) (hn : cs.length = m * 4)
    (hsrc : ∀ j v, cs[j]? = some v → w.cell? (a.add j) = some v) (hfit : o + cs.length ≤ cur.length) (h1 : ∀ v ∈ cs, v.oneCell' = true) :
    ∃ w', (Builtin.copy_ #[31, 31] ty #[.slice (some ⟨g, o, none⟩) dLen dCap, .slice (some a) sLen sCap]).run Tryz.prog w = .ok (goInt m) w' ∧ w'.heap[g]? = some (.cells (splice cur o cs).toArray t (0, 0)) ∧ But g w w' := by
  obtain ⟨i0, hI0, hz0, hz1, hz2⟩ := info_parts infoPkg
  have hl := run_loadCells_list (P := Tryz.prog) w a cs hsrc
  have hst := run_storeCells_at Tryz.prog g o t cs 0 cur.toArray w hg (by simpa using hfit) h1
  refine ⟨w.setRow g (splice cur o cs).toArray, ?_, setRow_heap w g _ _ t _ hg, But.setRow _ _ _⟩
  rw [hn, hm] at hl
  have e : (splice cur o cs).toArray = (cur.toArray.toList.take (o + 0) ++ cs ++ cur.toArray.toList.drop (o + 0 + cs.length)).toArray := by unfold splice; simp
  rw [e, hm]
  simp [Builtin.copy_, run_underlying Tryz.underlying31, Builtin.lenOf, Builtin.firstCells, sizeOf, typeInfo, hI0, hz1, hl, hst]
theorem wpList_copy4 {w : World} {ops : Array Oper} {rest : List Oper} {o : Oper} {a : Act} {Q : Exit → Act → World → Prop} (hgd : o.guard = none) (d s : Operand)
    (ho : o.op = .call { callee := .builtin .copy, args := #[d, s], argTypes := #[31, 31] })
    (g off dLen dCap : Nat) (ad : Addr) (sLen sCap : Nat) (hd : a.eval d = .slice (some ⟨g, off, none⟩) dLen dCap) (hs : a.eval s = .slice (some ad) sLen sCap)
    (cur : List Value) (t : TypeId) (hg : w.heap[g]? = some (.cells cur.toArray t (0, 0))) (cs : List Value) (m : Nat) (hm : m = Nat.min sLen dLen) (hn : cs.length = m * 4)
    (hsrc : ∀ j v, cs[j]? = some v → w.cell? (ad.add j) = some v) (hfit : off + cs.length ≤ cur.length) (h1 : ∀ v ∈ cs, v.oneCell' = true)
    (h : ∀ w', Hid (w'.heap[g]? = some (.cells (splice cur off cs).toArray t (0, 0))) → Hid (But g w w') → wpList Tryz.prog ops Q rest (a.put o.dst (goInt m)) w') : wpList Tryz.prog ops Q (o :: rest) a w := by
  refine wpList_plain hgd fun K hK => ?_
  obtain ⟨w', hr, h2, h3⟩ := copy4_run w o.type g off dLen dCap ad sLen sCap cur t cs hg m hm hn hsrc hfit h1
  unfold Oper.wp
  simp [execOp, ho, resolve, invoke, builtin, hd, hs, hr, Result.andThen]
  exact hK _ _ (h w' h2 h3)
theorem step_copy4 {ops : Array Oper} {o : Oper} {a : Act} {w : World} {K : Act → World → Prop} {Q : Exit → Act → World → Prop} {E : Prop} (hgd : o.guard = none) (d s : Operand)
    (ho : o.op = .call { callee := .builtin .copy, args := #[d, s], argTypes := #[31, 31] })
    (g off dLen dCap : Nat) (ad : Addr) (sLen sCap : Nat) (hd : a.eval d = .slice (some ⟨g, off, none⟩) dLen dCap) (hs : a.eval s = .slice (some ad) sLen sCap)
    (cur : List Value) (t : TypeId) (hg : w.heap[g]? = some (.cells cur.toArray t (0, 0))) (cs : List Value) (m : Nat) (hm : m = Nat.min sLen dLen) (hn : cs.length = m * 4)
    (hsrc : ∀ j v, cs[j]? = some v → w.cell? (ad.add j) = some v) (hfit : off + cs.length ≤ cur.length) (h1 : ∀ v ∈ cs, v.oneCell' = true)
    (h : ∀ w', Hid (w'.heap[g]? = some (.cells (splice cur off cs).toArray t (0, 0))) → Hid (But g w w') → K (a.put o.dst (goInt m)) w') :
    if Region.wanted o (yielded ops a.tmps) = true then Oper.wp Tryz.prog o a w K Q else E := by
  have hw : Region.wanted o (yielded ops a.tmps) = true := by simp [Region.wanted, hgd]
  rw [if_pos hw]
  obtain ⟨w', hr, h2, h3⟩ := copy4_run w o.type g off dLen dCap ad sLen sCap cur t cs hg m hm hn hsrc hfit h1
  unfold Oper.wp
  simp [execOp, ho, resolve, invoke, builtin, hd, hs, hr, Result.andThen]
  exact h w' h2 h3
/-- The cells of a block that is known whole, from a place on. -/
theorem cells_from {w : World} {g s : Nat} {cur cs : List Value} {t : TypeId} {fr : Nat × Nat} (hg : w.heap[g]? = some (.cells cur.toArray t fr)) (hc : ∀ j v, cs[j]? = some v → cur[s + j]? = some v) : ∀ j v, cs[j]? = some v → w.cell? ((⟨g, s, none⟩ : Addr).add j) = some v := fun j v hj => by
  rw [addP]
  simp only [World.cell?, hg]
  simpa using hc j v hj
theorem splice_at {L cs : List Value} {off : Nat} (h : off + cs.length ≤ L.length) (j : Nat) : (splice L off cs)[j]? = if off ≤ j ∧ j < off + cs.length then cs[j - off]? else L[j]? := by
  unfold splice
  by_cases h1 : j < off
  · rw [List.getElem?_append_left (by rw [List.length_take]; omega), List.getElem?_take_of_lt h1, if_neg (by omega)]
  · rw [List.getElem?_append_right (by rw [List.length_take]; omega), List.length_take, Nat.min_eq_left (by omega)]
    by_cases h2 : j < off + cs.length
    · rw [List.getElem?_append_left (by omega), if_pos ⟨by omega, h2⟩]
    · rw [List.getElem?_append_right (by omega), if_neg (by omega), List.getElem?_drop]
      congr 1
      omega
/-- Shifted by one element from a place on, and the new one laid there: the row. -/
theorem splice_shift {L xs x4 : List Value} {n i cap : Nat} (hx : L.take (n * 4) = xs) (hxl : xs.length = n * 4) (h4 : x4.length = 4) (hi : i < n) (hl : L.length = cap * 4) (hc : n + 1 ≤ cap) :
    (splice (splice L ((i + 1) * 4) (xs.drop (i * 4))) (i * 4) x4).take ((n + 1) * 4) = xs.take (i * 4) ++ x4 ++ xs.drop (i * 4) ∧ (splice (splice L ((i + 1) * 4) (xs.drop (i * 4))) (i * 4) x4).length = cap * 4 := by
  have hd : (xs.drop (i * 4)).length = n * 4 - i * 4 := by rw [List.length_drop, hxl]
  have f1 : (i + 1) * 4 + (xs.drop (i * 4)).length ≤ L.length := by rw [hd]; omega
  have l1 : (splice L ((i + 1) * 4) (xs.drop (i * 4))).length = L.length := length_splice _ _ _ f1
  have f2 : i * 4 + x4.length ≤ (splice L ((i + 1) * 4) (xs.drop (i * 4))).length := by omega
  refine ⟨?_, by rw [length_splice _ _ _ f2, l1, hl]⟩
  refine List.ext_getElem? (fun j => ?_)
  by_cases hj : j < (n + 1) * 4
  · rw [List.getElem?_take_of_lt hj, splice_at f2, splice_at f1, hd, h4]
    have hxj : ∀ k, k < n * 4 → L[k]? = xs[k]? := fun k hk => by rw [← hx, List.getElem?_take_of_lt hk]
    by_cases c1 : j < i * 4
    · rw [if_neg (by omega), if_neg (by omega), hxj j (by omega), List.append_assoc, List.getElem?_append_left (by rw [List.length_take, hxl]; omega), List.getElem?_take_of_lt c1]
    by_cases c2 : j < i * 4 + 4
    · rw [if_pos ⟨by omega, c2⟩, List.append_assoc, List.getElem?_append_right (by rw [List.length_take, hxl]; omega), List.length_take, hxl, Nat.min_eq_left (by omega), List.getElem?_append_left (by omega)]
    · rw [if_neg (by omega), if_pos ⟨by omega, by omega⟩, List.getElem?_drop, List.getElem?_append_right (by rw [List.length_append, List.length_take, hxl, h4]; omega), List.getElem?_drop]
      congr 1
      rw [List.length_append, List.length_take, hxl, h4]
      omega
  · rw [List.getElem?_eq_none (by rw [List.length_take]; omega), List.getElem?_eq_none (by rw [List.length_append, List.length_append, List.length_take, hxl, hd, h4]; omega)]
/-- A new row, the new element laid behind the head, then the tail: the row. -/
theorem splice_new {xs x4 Z : List Value} {n i cap : Nat} (hxl : xs.length = n * 4) (h4 : x4.length = 4) (hi : i < n) (hl : (xs.take (i * 4) ++ Z).length = cap * 4) (hc : n + 1 ≤ cap) :
    (splice (splice (xs.take (i * 4) ++ Z) (i * 4) x4) ((i + 1) * 4) (xs.drop (i * 4))).take ((n + 1) * 4) = xs.take (i * 4) ++ x4 ++ xs.drop (i * 4) ∧ (splice (splice (xs.take (i * 4) ++ Z) (i * 4) x4) ((i + 1) * 4) (xs.drop (i * 4))).length = cap * 4 ∧ (splice (xs.take (i * 4) ++ Z) (i * 4) x4).length = cap * 4 := by
  have hd : (xs.drop (i * 4)).length = n * 4 - i * 4 := by rw [List.length_drop, hxl]
  have f1 : i * 4 + x4.length ≤ (xs.take (i * 4) ++ Z).length := by omega
  have l1 : (splice (xs.take (i * 4) ++ Z) (i * 4) x4).length = (xs.take (i * 4) ++ Z).length := length_splice _ _ _ f1
  have f2 : (i + 1) * 4 + (xs.drop (i * 4)).length ≤ (splice (xs.take (i * 4) ++ Z) (i * 4) x4).length := by omega
  refine ⟨?_, by rw [length_splice _ _ _ f2, l1, hl], by rw [l1, hl]⟩
  refine List.ext_getElem? (fun j => ?_)
  by_cases hj : j < (n + 1) * 4
  · rw [List.getElem?_take_of_lt hj, splice_at f2, splice_at f1, hd, h4]
    by_cases c1 : j < i * 4
    · rw [if_neg (by omega), if_neg (by omega), List.getElem?_append_left (by rw [List.length_take, hxl]; omega), List.append_assoc, List.getElem?_append_left (by rw [List.length_take, hxl]; omega)]
    by_cases c2 : j < i * 4 + 4
    · rw [if_neg (by omega), if_pos ⟨by omega, c2⟩, List.append_assoc, List.getElem?_append_right (by rw [List.length_take, hxl]; omega), List.length_take, hxl, Nat.min_eq_left (by omega), List.getElem?_append_left (by omega)]
    · rw [if_pos ⟨by omega, by omega⟩, List.getElem?_drop, List.getElem?_append_right (by rw [List.length_append, List.length_take, hxl, h4]; omega), List.getElem?_drop]
      congr 1
      rw [List.length_append, List.length_take, hxl, h4]
      omega
  · rw [List.getElem?_eq_none (by rw [List.length_take]; omega), List.getElem?_eq_none (by rw [List.length_append, List.length_append, List.length_take, hxl, hd, h4]; omega)]

set_option linter.unusedSimpArgs false in
set_option maxHeartbeats 4000000 in
set_option maxRecDepth 100000 in
theorem insert_any {B : Nat} (w : World) (v : Value) (xs x4 : List Value) (n i vb : Nat) (hown : w.ownsRow B 42 4 v n xs) (hi : i ≤ n) (hn : n ≤ 1000) (h1 : ∀ u ∈ xs, u.oneCell' = true) (hvb : w.heap[vb]? = some (.cells x4.toArray 42 (0, 0))) (h4 : x4.length = 4) (h14 : ∀ u ∈ x4, u.oneCell' = true) (hne : v.ownBlock ≠ some vb) (hB : B ≤ w.heap.size) :
    Calls Tryz.prog 96 #[v, .int .i64 i, .slice (some ⟨vb, 0, none⟩) 1 1] w fun e w' => ∃ v', e = .returned v' ∧ w'.ownsRow B 42 4 v' (n + 1) (xs.take (i * 4) ++ x4 ++ xs.drop (i * 4)) ∧ w.grownBy w' v.ownBlock ∧ (v'.ownBlock = v.ownBlock ∨ ∃ g, v'.ownBlock = some g ∧ w.heap.size ≤ g) := by
  obtain ⟨i0, hI0, hz0, hz1, hz2⟩ := info_parts infoPkg
  have hnews : ∀ j u, x4[j]? = some u → w.cell? ((⟨vb, 0, none⟩ : Addr).add j) = some u := cells_from hvb (fun j v hj => by rw [Nat.zero_add]; exact hj)
  have hxl : xs.length = n * 4 := hown.1
  have hw1 : IntKind.i64.wrap ((n : Int) + 1) = (n : Int) + 1 := by simp [IntKind.wrap, IntKind.bits, IntKind.signed]; omega
  have hw2 : IntKind.i64.wrap ((i : Int) + 1) = (i : Int) + 1 := by simp [IntKind.wrap, IntKind.bits, IntKind.signed]; omega
  have hi0 : (0 : Int) ≤ (i : Int) := Int.natCast_nonneg _
  by_cases he : i = n
  · subst he
    have hx9 : xs.take (i * 4) ++ x4 ++ xs.drop (i * 4) = xs ++ x4 := by rw [← hxl, List.take_length, List.drop_length, List.append_nil]
    rw [hx9]
    have HX := hide hown
    have HN := hide hnews
    have hat0 : ∃ a cap, v = .slice a i cap ∧ (a = none → i = 0) ∧ i ≤ cap := by
      rcases hown.2 with ⟨hv, hn⟩ | ⟨g, cap, cur, hv, _, _, hc, _⟩
      · subst hn; exact ⟨none, 0, hv, fun _ => rfl, Nat.le_refl _⟩
      · exact ⟨_, _, hv, (fun h => nomatch h), hc⟩
    obtain ⟨a, cap, rfl, hnil, hcap⟩ := hat0
    clear hown hnews hvb hx9
    by_cases hci : cap = i
    · subst hci
      go_enter Tryz.func96, Tryz.ntmps96
      go_wp2_with (at_builtin; refine wpList_append_lies _ rfl _ _ _ rfl B 42 i0 _ 4 64 Tryz.underlying31 hI0 hz0 hz1 hz2 rfl (by omega) (.slice a cap cap) cap xs rfl (unhide HX) ⟨vb, 0, none⟩ 1 1 x4 rfl (by omega) (unhide HN) h14 (by omega) (by unfold maxLen; omega) (by omega) hB _ rfl ?_; intro g gc w' ho hg hat hlt)
      go_ret
      exact ⟨_, rfl, ho, hg, hat.imp (fun e => e.symm) (fun e => ⟨g, rfl, Nat.le_of_eq e.symm⟩)⟩
    · go_enter Tryz.func96, Tryz.ntmps96
      go_wp2_with (at_builtin; refine wpList_append_lies _ rfl _ _ _ rfl B 42 i0 _ 4 64 Tryz.underlying31 hI0 hz0 hz1 hz2 rfl (by omega) (.slice a i cap) i xs rfl (unhide HX) ⟨vb, 0, none⟩ 1 1 x4 rfl (by omega) (unhide HN) h14 (by omega) (by unfold maxLen; omega) (by omega) hB _ rfl ?_; intro g gc w' ho hg hat hlt)
      go_ret
      exact ⟨_, rfl, ho, hg, hat.imp (fun e => e.symm) (fun e => ⟨g, rfl, Nat.le_of_eq e.symm⟩)⟩
  · have hin : i < n := by omega
    obtain ⟨g, cap, cur, rfl, hBg, hg, hnc, hcm, hcs, hct⟩ : ∃ g cap cur, v = .slice (some ⟨g, 0, none⟩) n cap ∧ B ≤ g ∧ w.heap[g]? = some (.cells cur 42 (0, 0)) ∧ n ≤ cap ∧ cap ≤ maxLen ∧ cur.size = cap * 4 ∧ cur.toList.take (n * 4) = xs := by
      rcases hown.2 with ⟨_, hz⟩ | h
      · omega
      · exact h
    have hgv : g ≠ vb := fun e => hne (by rw [e]; rfl)
    have hzn : ¬ ((i : Int) = (n : Int)) := by omega
    have hz3 : (i : Int) ≤ (n : Int) := by omega
    have ht1 : ((i : Int) + 1).toNat = i + 1 := by omega
    have ht2 : ((n : Int) + 1).toNat = n + 1 := by omega
    have hb1 : (0 : Int) ≤ (i : Int) + 1 := by omega
    have hb2 : (0 : Int) ≤ (n : Int) + 1 := by omega
    have hci : ¬ (cap = i) := by omega
    have hcapm : cap ≤ 9223372036854775807 := by unfold maxLen at hcm; exact hcm
    by_cases hroom : n + 1 ≤ cap
    · have hr1 : ¬ ((cap : Int) < (n : Int) + 1) := by omega
      have hr2 : (n : Int) + 1 ≤ (cap : Int) := by omega
      have hr3 : ¬ (cap = i + 1) := by omega
      have hr4 : (i : Int) + 1 ≤ (n : Int) + 1 := by omega
      have hr5 : (i : Int) ≤ (n : Int) + 1 := by omega
      have hsa : w.shape? vb = some (42, 4) := by simp [World.shape?, hvb, h4]
      have hsb : w.shape? g = some (42, cap * 4) := by simp [World.shape?, hg, hcs]
      have hfz : ∀ o, w.frozen? ⟨vb, o, none⟩ = false := fun o => by simp [World.frozen?, hvb]
      have hszp : ∀ W, (Go.sizeOf 42).run Tryz.prog W = .ok 4 W := fun W => by simp [sizeOf, typeInfo, hI0, hz1]
      have hov : ∀ lb cb, (callFunc 137 #[.slice (some ⟨vb, 0, none⟩) 1 1, .slice (some ⟨g, (i + 1) * 4, none⟩) lb cb]).run Tryz.prog w = .ok (.value (.bool false)) w := fun lb cb => by
        rw [run_callFunc_extern Tryz.func137 (by kernel_rfl) (by kernel_rfl) (by kernel_rfl) (e := Extern.SlicesOverlaps.overlaps #[31, 31] #[4]) (by kernel_rfl),
          Lib.run_overlaps_apart w 31 4 42 Tryz.underlying31 4 hszp ⟨vb, 0, none⟩ ⟨g, (i + 1) * 4, none⟩ 1 1 lb cb (fun e => hgv e.symm) 42 42 4 (cap * 4) hsa hsb (by omega) (hfz 0) (hfz 4)]
        rfl
      have HG0 : Hid (w.drew.heap[g]? = some (.cells cur.toList.toArray 42 (0, 0))) := by show w.heap[g]? = _; rw [hg]
      have HS1 : Hid (∀ j v, (xs.drop (i * 4))[j]? = some v → w.drew.cell? ((⟨g, i * 4, none⟩ : Addr).add j) = some v) := cells_from (unhide HG0) (fun j v hj => by
        rw [List.getElem?_drop] at hj
        rw [← hct, List.getElem?_take] at hj
        split at hj
        · exact hj
        · cases hj)
      clear hsa hsb hfz hszp
      go_enter Tryz.func96, Tryz.ntmps96
      go_wp2_with (simp only [hov])
      clear hov
      go_region_law (refine step_copy4 rfl _ _ rfl g ((i + 1) * 4) (n - i) (cap - (i + 1)) ⟨g, i * 4, none⟩ (n + 1 - i) (cap - i) (by simp [Act.eval, Act.put]) (by simp [Act.eval, Act.put]) cur.toList 42 (unhide HG0) (xs.drop (i * 4)) (n - i) (by show n - i = min (n + 1 - i) (n - i); omega) (by rw [List.length_drop, hxl]; omega) (unhide HS1) (by rw [List.length_drop, hxl, Array.length_toList]; omega) (fun u hu => h1 u (List.mem_of_mem_drop hu)) ?_; intro w1 HG1 HB1)
      have HS2 : Hid (∀ j v, x4[j]? = some v → w1.cell? ((⟨vb, 0, none⟩ : Addr).add j) = some v) := cells_from (((unhide HB1).block vb (Ne.symm hgv)).trans hvb) (fun j v hj => by rw [Nat.zero_add]; exact hj)
      obtain ⟨hsp1, hsp2⟩ := splice_shift (cap := cap) hct hxl h4 hin (by rw [Array.length_toList]; exact hcs) hroom
      have hcl : cur.toList.length = cap * 4 := by rw [Array.length_toList]; exact hcs
      have hdl : (xs.drop (i * 4)).length = n * 4 - i * 4 := by rw [List.length_drop, hxl]
      have hl0 := length_splice cur.toList ((i + 1) * 4) (xs.drop (i * 4)) (by omega)
      have hl1 : i * 4 + x4.length ≤ (splice cur.toList ((i + 1) * 4) (xs.drop (i * 4))).length := by omega
      clear hcl hdl hl0
      have hm1 : 1 = Nat.min 1 (n + 1 - i) := by show 1 = min 1 (n + 1 - i); omega
      have hl4 : x4.length = 1 * 4 := by omega
      have HSP := hide (And.intro hsp1 hsp2)
      have HLL := hide hl1
      have HMM := hide hm1
      clear hsp1 hsp2 hl1 hm1
      go_wp2_with (refine wpList_copy4 rfl _ _ rfl g (i * 4) (n + 1 - i) (cap - i) ⟨vb, 0, none⟩ 1 1 rfl rfl (splice cur.toList ((i + 1) * 4) (xs.drop (i * 4))) 42 (unhide HG1) x4 1 (unhide HMM) hl4 (unhide HS2) (unhide HLL) h14 ?_; intro w2 HG2 HB2)
      go_ret
      have hB2 := ((But.drew g w).trans (unhide HB1)).trans (unhide HB2)
      refine ⟨_, rfl, ⟨?_, .inr ⟨g, cap, _, rfl, hBg, unhide HG2, hroom, hcm, ?_, ?_⟩⟩, ⟨hB2.os, hB2.tape, hB2.output, Nat.le_of_eq hB2.size.symm, fun k _ hk => hB2.block k (fun e => hk (by rw [e]; rfl))⟩, .inl rfl⟩
      · rw [List.length_append, List.length_append, List.length_take, List.length_drop, hxl, h4]; omega
      · rw [List.size_toArray]; exact (unhide HSP).2
      · exact (unhide HSP).1
    · obtain rfl : cap = n := by omega
      have hr1 : (cap : Int) < (cap : Int) + 1 := by omega
      have hw3 : IntKind.i64.wrap ((cap : Int) + 1 - (i : Int)) = (cap : Int) + 1 - (i : Int) := by simp [IntKind.wrap, IntKind.bits, IntKind.signed]; omega
      have hgl : g < w.heap.size := heapLt hg
      have hvl : vb < w.heap.size := heapLt hvb
      have hold : (Builtin.firstCells i0.size i (.slice (some ⟨g, 0, none⟩) i cap)).run Tryz.prog w.drew = .ok (xs.take (i * 4)).toArray w.drew := by
        rw [hz1]
        refine run_firstCells_some w.drew 4 i ⟨g, 0, none⟩ i cap (xs.take (i * 4)) (by rw [List.length_take]; omega) ?_
        refine cells_from (w := w.drew) (cur := cur.toList) (t := 42) (fr := (0, 0)) (by show w.heap[g]? = _; rw [hg]) (fun j v hj => ?_)
        rw [Nat.zero_add]
        rw [List.getElem?_take] at hj
        split at hj
        · rw [← hct, List.getElem?_take] at hj
          split at hj
          · exact hj
          · cases hj
        · cases hj
      have hkk : (cap : Int) + 1 - (i : Int) = ((cap + 1 - i : Nat) : Int) := by omega
      have hik : i + (cap + 1 - i) = cap + 1 := by omega
      obtain ⟨z, hz⟩ : ∃ z, z = Value.agg #[Value.int IntKind.i64 0, Value.int IntKind.i64 0, Value.slice none 0 0, Value.slice none 0 0] := ⟨_, rfl⟩
      rw [← hz] at hz0
      have hzc : z.cells.size = 4 := by rw [hz]; kernel_rfl
      have hrz : ∀ ty, (Builtin.append_ #[31, 3] ty #[.slice (some ⟨g, 0, none⟩) i cap, .int .i64 ((cap : Int) + 1 - (i : Int))]).run Tryz.prog w = .ok (.slice (some ⟨w.heap.size, 0, none⟩) (cap + 1) (grownCap w (cap + 1) cap 42)) (w.drew.alloc (.cells ((xs.take (i * 4)).toArray ++ Builtin.zeroCells z.cells (cap + 1 - i) ++ Builtin.zeroCells z.cells (grownCap w (cap + 1) cap 42 - (cap + 1))) 42)) := fun ty => by
        have h := Lib.run_append_grow_zeros w 31 3 ty 42 i0 z .i64 .i64 Tryz.underlying31 Tryz.underlying3 hI0 hz0 (some ⟨g, 0, none⟩) i cap (xs.take (i * 4)) hold (cap + 1 - i) (by omega) (by omega) (by omega) (by omega) (by rw [hz2]; omega) (by rw [hz2, hik]; exact growslice_fits (by omega) (by omega))
        rw [hik] at h
        rw [hkk]
        exact h
      have hG1 := grownCap_ge w (cap + 1) cap 42
      have hG2 := grownCap_le_maxLen w (cap + 1) cap 42 (by unfold maxLen; omega)
      obtain ⟨G, hG⟩ : ∃ G, G = grownCap w (cap + 1) cap 42 := ⟨_, rfl⟩
      rw [← hG] at hrz hG1 hG2
      clear hG
      obtain ⟨Z, hZ⟩ : ∃ Z : List Value, Z = (Builtin.zeroCells z.cells (cap + 1 - i) ++ Builtin.zeroCells z.cells (G - (cap + 1))).toList := ⟨_, rfl⟩
      have hZl : (xs.take (i * 4) ++ Z).length = G * 4 := by
        have e1 : Z.length = (cap + 1 - i) * 4 + (G - (cap + 1)) * 4 := by rw [hZ, Array.length_toList, Array.size_append, size_zeroCells, size_zeroCells, hzc]
        rw [List.length_append, List.length_take, hxl, e1]
        omega
      have hZa : (xs.take (i * 4)).toArray ++ Builtin.zeroCells z.cells (cap + 1 - i) ++ Builtin.zeroCells z.cells (G - (cap + 1)) = (xs.take (i * 4) ++ Z).toArray := by rw [hZ, Array.append_assoc]; simp
      rw [hZa] at hrz
      obtain ⟨hs1, hs2, hs3⟩ := splice_new (cap := G) hxl h4 hin hZl hG1
      have HN : Hid ((w.drew.alloc (.cells (xs.take (i * 4) ++ Z).toArray 42)).heap[w.heap.size]? = some (.cells (xs.take (i * 4) ++ Z).toArray 42 (0, 0))) := heap_alloc_new w.drew _
      have bA : Below w.heap.size w (w.drew.alloc (.cells (xs.take (i * 4) ++ Z).toArray 42)) := (below_drew w).trans (below1 w.drew _)
      have HBA := hide bA
      have hxd : ∀ j v, (xs.drop (i * 4))[j]? = some v → cur.toList[i * 4 + j]? = some v := fun j v hj => by
        rw [List.getElem?_drop] at hj
        rw [← hct, List.getElem?_take] at hj
        split at hj
        · exact hj
        · cases hj
      have HXD := hide hxd
      have HHG := hide (show w.heap[g]? = some (.cells cur.toList.toArray 42 (0, 0)) from by rw [hg])
      have HVB := hide hvb
      have HSP := hide (And.intro hs1 (And.intro hs2 hs3))
      have hm1 : 1 = Nat.min 1 (cap + 1 - i) := by show 1 = min 1 (cap + 1 - i); omega
      have hm2 : cap - i = Nat.min (cap - i) (cap - i) := by show cap - i = min (cap - i) (cap - i); omega
      have HMM := hide (And.intro hm1 hm2)
      have hl4 : x4.length = 1 * 4 := by omega
      have hd4 : (xs.drop (i * 4)).length = (cap - i) * 4 := by rw [List.length_drop, hxl]; omega
      have HL1 := hide (show i * 4 + x4.length ≤ (xs.take (i * 4) ++ Z).length by omega)
      have HL2 := hide (show (i + 1) * 4 + (xs.drop (i * 4)).length ≤ (splice (xs.take (i * 4) ++ Z) (i * 4) x4).length by omega)
      have hGi : ¬ (G = i) := by omega
      have hGj : ¬ (G = i + 1) := by omega
      have hGk : (i : Int) ≤ (cap : Int) + 1 := by omega
      have hGl : (i : Int) + 1 ≤ (cap : Int) + 1 := by omega
      clear hs1 hs2 hs3 hm1 hm2 hZa hZl hZ bA hxd hkk hik hold hzc hz
      have HV1 : Hid (∀ j v, x4[j]? = some v → (w.drew.alloc (.cells (xs.take (i * 4) ++ Z).toArray 42)).cell? ((⟨vb, 0, none⟩ : Addr).add j) = some v) := cells_from (((unhide HBA).block vb hvl).trans hvb) (fun j v hj => by rw [Nat.zero_add]; exact hj)
      generalize xs.take (i * 4) ++ Z = ROW at *
      have hNE : w.heap.size ≠ g := by omega
      go_enter Tryz.func96, Tryz.ntmps96
      go_wp2_with (first | (at_builtin; refine Lib.wpList_append_run _ rfl _ _ _ _ rfl _ _ rfl rfl _ _ (hrz _) ?_) | (refine wpList_copy4 rfl _ _ rfl w.heap.size (i * 4) (cap + 1 - i) (G - i) ⟨vb, 0, none⟩ 1 1 rfl rfl ROW 42 (unhide HN) x4 1 (unhide HMM).1 hl4 (unhide HV1) (unhide HL1) h14 ?_; intro w1 HG1 HB1))
      have HG1d : Hid (w1.drew.heap[w.heap.size]? = some (.cells (splice ROW (i * 4) x4).toArray 42 (0, 0))) := unhide HG1
      have HSg : Hid (w1.drew.heap[g]? = some (.cells cur.toList.toArray 42 (0, 0))) := ((unhide HB1).block g (Ne.symm hNE)).trans (((unhide HBA).block g hgl).trans (unhide HHG))
      have HSS : Hid (∀ j v, (xs.drop (i * 4))[j]? = some v → w1.drew.cell? ((⟨g, i * 4, none⟩ : Addr).add j) = some v) := cells_from (unhide HSg) (unhide HXD)
      go_region_law (refine step_copy4 rfl _ _ rfl w.heap.size ((i + 1) * 4) (cap - i) (G - (i + 1)) ⟨g, i * 4, none⟩ (cap - i) (cap - i) (by simp [Act.eval, Act.put]) (by simp [Act.eval, Act.put]) (splice ROW (i * 4) x4) 42 (unhide HG1d) (xs.drop (i * 4)) (cap - i) (unhide HMM).2 hd4 (unhide HSS) (unhide HL2) (fun u hu => h1 u (List.mem_of_mem_drop hu)) ?_; intro w2 HG2 HB2)
      go_wp2
      go_ret
      have hB2 := ((unhide HB1).trans (But.drew _ w1)).trans (unhide HB2)
      refine ⟨_, rfl, ⟨?_, .inr ⟨w.heap.size, G, _, rfl, hB, unhide HG2, hG1, hG2, ?_, ?_⟩⟩, ⟨hB2.os.trans (unhide HBA).os, hB2.tape.trans (unhide HBA).tape, hB2.output.trans (unhide HBA).output, by rw [hB2.size]; exact (unhide HBA).size, fun k hk _ => (hB2.block k (by omega)).trans ((unhide HBA).block k hk)⟩, .inr ⟨w.heap.size, rfl, Nat.le_refl _⟩⟩
      · rw [List.length_append, List.length_append, List.length_take, List.length_drop, hxl, h4]; omega
      · rw [List.size_toArray]; exact (unhide HSP).2.1
      · exact (unhide HSP).1
end Go.Proofs.YtlnieobmhofkdaaGreatDoor
