import Derived.Test.YtlnieobmhofkdaaGreatDoorAnsPW
import Derived.Deep.AppendLies
import Derived.Test.YtlnieobmhofkdaaGreatDoorMix0
import Derived.Test.YtlnieobmhofkdaaGreatDoorMathW
import Derived.Test.YtlnieobmhofkdaaGreatDoorMix7
/- What spec.l12Copy and impl.copyPkgs return: packages anew, each row its own; for every row of packages. -/
namespace Go.Proofs.YtlnieobmhofkdaaGreatDoor
open Go.RowKit

theorem PAns.start (w : World) : PAns w.heap.size (w.alloc (.cells #[] 42)) (.slice (some ⟨w.heap.size, 0, none⟩) 0 0) [] :=
  ⟨empty_own (sz := 4) (heap_alloc_new w _) (Nat.le_refl _), fun _ he => (by cases he), List.Pairwise.nil⟩

set_option maxHeartbeats 4000000 in
set_option maxRecDepth 100000 in
theorem l12Copy_any {N : Nat → Prop} (w : World) (v : Value) (l : List Ix.Pg) (h : Pks N w v l) (hl : l.length ≤ 1000) :
    Calls Tryz.prog 41 #[v] w fun e w' => ∃ u els, e = .returned u ∧ PAns w.heap.size w' u els ∧ els.map (·.1) = l ∧ Below w.heap.size w w' := by
  obtain ⟨i0, hI0, hz0, hz1, hz2⟩ := info_parts infoPkg
  obtain ⟨a, cap, rfl, hlen, hrow⟩ := h
  have HR := hide hrow
  have HS := hide (And.intro (PAns.start w) (below1 w (.cells #[] 42)))
  clear hrow hlen
  go_enter Tryz.func41, Tryz.ntmps41
  go_wp2_with fail
  go_loopw [3, 4] (fun o i w' => ∃ (k : Nat) (els : List El), k ≤ l.length ∧ i = .int .i64 k ∧ els.map (·.1) = l.take k ∧ PAns w.heap.size w' o els ∧ Below w.heap.size w w') (fun _ i _ => l.length - (intOf i).toNat)
  case atStart => exact ⟨0, [], Nat.zero_le _, rfl, rfl, (unhide HS).1, (unhide HS).2⟩
  case round =>
    clear HS
    obtain ⟨k, els, hk, rfl, hmap, hP, hw⟩ := hrel
    have hle : els.length ≤ k := by rw [← List.length_map (f := fun x : El => x.1), hmap, List.length_take]; omega
    have HM := hide hmap
    have HP := hide hP
    have HW := hide hw
    clear hmap hP hw
    by_cases hlt : k < l.length
    · obtain ⟨b, off, rfl, hb, _, hc⟩ := unhide HR (by omega)
      obtain ⟨fv, dv, hAt, hf, hd⟩ := hc k hlt
      obtain ⟨nm, vr, fs, ds, hpk⟩ : ∃ nm vr fs ds, Ix.pg l k = (nm, vr, fs, ds) := ⟨_, _, _, _, rfl⟩
      rw [hpk] at hAt hf hd
      dsimp only at hf hd
      obtain ⟨fa, fc, hfv⟩ := hf.slice
      obtain ⟨da, dc, hdv⟩ := hd.slice
      subst hfv hdv
      obtain ⟨c0, c1, c2, c3⟩ := hAt.keep ((unhide HW).block b hb)
      dsimp only at c0 c1 c2 c3
      have hb' : b < wr.heap.size := Nat.lt_of_lt_of_le hb (unhide HW).size
      have hi0 : (0 : Int) ≤ (k : Int) := Int.natCast_nonneg _
      have hi1 : (k : Int) < (l.length : Int) := by omega
      have CC := hide (specCopyPkg_any wr nm vr _ _ fs ds (hf.prs.later (unhide HW)) (hd.prs.later (unhide HW)))
      have htk := Ix.take_pg l k hlt
      rw [hpk] at htk
      have HTK := hide htk
      clear hc hAt hf hd hpk htk
      go_wp2_with fail
      refine (unhide CC).mono ?_
      rintro e w2 ⟨fv', dv', rfl, ho, hb2⟩
      obtain ⟨ga, gc, ha, hcc, h1, h2⟩ := ho.forms
      subst h1 h2
      have hfar : ∀ x ∈ els, farE x ((nm, vr, fs, ds), .slice ga fs.length gc, .slice ha ds.length hcc) := fun x hx => farE.new ((unhide HP).el x hx) ho
      have HFA := hide hfar
      have b3 := below1 w2 (.cells #[.int .i64 nm, .int .i64 vr, .slice ga fs.length gc, .slice ha ds.length hcc] 42)
      have HB3 := hide ((unhide HW).trans ((hb2.trans (b3.mono hb2.size)).mono (unhide HW).size))
      have HP3 := hide ((unhide HP).later (hb2.trans (b3.mono hb2.size)))
      have HO3 := hide ((ho.base (unhide HW).size).later b3)
      have hs2 : w.heap.size ≤ w2.heap.size := Nat.le_trans (unhide HW).size hb2.size
      clear c0 c1 c2 c3 CC ho hb2 b3 hfar HP HW
      go_wp2_with (at_builtin; refine wpList_append_lies _ rfl _ _ _ rfl w.heap.size 42 i0 _ 4 64 Tryz.underlying31 hI0 hz0 hz1 hz2 rfl (by omega) _ els.length (flat4 els) rfl (unhide HP3).own ⟨w2.heap.size, 0, none⟩ 1 1 [.int .i64 nm, .int .i64 vr, .slice ga fs.length gc, .slice ha ds.length hcc] rfl rfl (World.news_of_block (cs := #[.int .i64 nm, .int .i64 vr, .slice ga fs.length gc, .slice ha ds.length hcc]) (t := 42) (fr := (0, 0)) (heap_alloc_new _ _)) (by simp [Value.oneCell']) (by omega) (by unfold maxLen; omega) (by omega) (by rw [sz1']; omega) (w2.heap.size + 1) (by rw [sz1']) ?_; intro gg gcap w10 hown hgrow hat hlt10)
      have HP10 := hide (PAns.snoc (e := ((nm, vr, fs, ds), .slice ga fs.length gc, .slice ha ds.length hcc)) (unhide HP3) hgrow hown (unhide HO3) (unhide HFA))
      have HB10 := hide (grown_below (B := w.heap.size) (unhide HP3).own hgrow (unhide HB3) (unhide HB3).size)
      clear hown hgrow hat hlt10 HP3 HB3 HO3 HFA
      go_roundw
      case rel => exact ⟨k + 1, els ++ [((nm, vr, fs, ds), .slice ga fs.length gc, .slice ha ds.length hcc)], by omega, by go_num, by rw [unhide HTK, List.map_append, unhide HM]; rfl, unhide HP10, unhide HB10⟩
      case measure => simp [intOf]; omega
    · obtain rfl : k = l.length := by omega
      rw [List.take_of_length_le (Nat.le_refl _)] at HM
      clear hlt HR
      go_wp2
      go_ret
      exact ⟨_, els, rfl, unhide HP, unhide HM, unhide HW⟩
end Go.Proofs.YtlnieobmhofkdaaGreatDoor

/- How spec reads a text: by the lengths of its words. -/
namespace Go.Proofs.YtlnieobmhofkdaaGreatDoor.Pk

/-- A word as spec reads it. -/
def specW (first : Bool) : List UInt8 → Option (Nat × Int × Int)
  | [a, b] => some (bif first then 0 else 2, (a.toNat : Int) - 97 + 1, (b.toNat : Int) - 48)
  | [a, _, b] => bif first then none else some (1, (a.toNat : Int) - 48, (b.toNat : Int) - 48)
  | _ => none
/-- The words up to a place. -/
def specTo (ws : List (List UInt8)) (k : Nat) : List (Nat × Int × Int) := (List.range k).flatMap fun i => (specW (decide (i = 0)) (ws.getD i [])).toList
theorem specTo_some {ws : List (List UInt8)} {k : Nat} {x : Nat × Int × Int} (h : specW (decide (k = 0)) (ws.getD k []) = some x) : specTo ws (k + 1) = specTo ws k ++ [x] := by
  unfold specTo
  rw [List.range_succ, List.flatMap_append, List.flatMap_cons, h]
  rfl
theorem specTo_none {ws : List (List UInt8)} {k : Nat} (h : specW (decide (k = 0)) (ws.getD k []) = none) : specTo ws (k + 1) = specTo ws k := by
  unfold specTo
  rw [List.range_succ, List.flatMap_append, List.flatMap_cons, h]
  simp
theorem specTo_len (ws : List (List UInt8)) : ∀ k, (specTo ws k).length ≤ k
  | 0 => by simp [specTo]
  | k + 1 => by
    have := specTo_len ws k
    cases h : specW (decide (k = 0)) (ws.getD k []) with
    | none => rw [specTo_none h]; omega
    | some x => rw [specTo_some h, List.length_append]; simp only [List.length_cons, List.length_nil]; omega
theorem snamed_all : ∀ a : Fin 4, ∀ b : Fin 10, ∀ f : Bool, specW f (nameT (a.val + 1 : Nat) (b.val : Nat)) = some (bif f then 0 else 2, ((a.val + 1 : Nat) : Int), ((b.val : Nat) : Int)) := by decide +kernel
theorem sfile_all : ∀ a : Fin 10, ∀ b : Fin 10, specW false (wordT (1, (a.val : Nat), (b.val : Nat))) = some (1, ((a.val : Nat) : Int), ((b.val : Nat) : Int)) := by decide +kernel
theorem snamed_ok {a b : Int} (h : 1 ≤ a ∧ a ≤ 4 ∧ 0 ≤ b ∧ b ≤ 9) (f : Bool) : specW f (nameT a b) = some (bif f then 0 else 2, a, b) := by
  have := snamed_all ⟨(a - 1).toNat, by omega⟩ ⟨b.toNat, by omega⟩ f
  have e1 : (((a - 1).toNat + 1 : Nat) : Int) = a := by omega
  have e2 : ((b.toNat : Nat) : Int) = b := by omega
  simp only [e1, e2] at this
  exact this
theorem sfile_ok {a b : Int} (h : 0 ≤ a ∧ a ≤ 9 ∧ 0 ≤ b ∧ b ≤ 9) : specW false (wordT (1, a, b)) = some (1, a, b) := by
  have := sfile_all ⟨a.toNat, by omega⟩ ⟨b.toNat, by omega⟩
  have e1 : ((a.toNat : Nat) : Int) = a := by omega
  have e2 : ((b.toNat : Nat) : Int) = b := by omega
  simp only [e1, e2] at this
  exact this
theorem sword_text {nm vr : Int} {fs ds : List (Int × Int)} (h : pkgOk nm vr fs ds = true) (i : Nat) (hi : i < (wordL nm vr fs ds).length) : specW (decide (i = 0)) (wordT (wordL nm vr fs ds)[i]) = some (wordL nm vr fs ds)[i] := by
  obtain ⟨h1, h2, h3⟩ := ok_parts h
  cases i with
  | zero => exact snamed_ok h1 true
  | succ i =>
    have hd : decide (i + 1 = 0) = false := by simp
    have hm : (wordL nm vr fs ds)[i + 1] ∈ fs.map (fun x => ((1 : Nat), x.1, x.2)) ++ ds.map (fun x => ((2 : Nat), x.1, x.2)) := by
      simp only [wordL, List.getElem_cons_succ]
      exact List.getElem_mem _
    rw [hd]
    generalize (wordL nm vr fs ds)[i + 1] = x at hm
    simp only [List.mem_append, List.mem_map] at hm
    rcases hm with ⟨y, hy, rfl⟩ | ⟨y, hy, rfl⟩
    · exact sfile_ok (h2 y hy)
    · exact snamed_ok (h3 y hy) false
/-- Of the text of a package that is ok spec reads its words. -/
theorem spec_text {nm vr : Int} {fs ds : List (Int × Int)} (h : pkgOk nm vr fs ds = true) : specTo (split1 32 (text nm vr fs ds)) (split1 32 (text nm vr fs ds)).length = wordL nm vr fs ds := by
  have key : ∀ k, k ≤ (wordL nm vr fs ds).length → specTo (split1 32 (text nm vr fs ds)) k = (wordL nm vr fs ds).take k := by
    intro k
    induction k with
    | zero => intro _; rfl
    | succ k ih =>
      intro hk
      have e : specW (decide (k = 0)) ((split1 32 (text nm vr fs ds)).getD k []) = some (wordL nm vr fs ds)[k] := by
        rw [split_text h, List.getD_eq_getElem?_getD, List.getElem?_map, List.getElem?_eq_getElem (by omega)]
        exact sword_text h k (by omega)
      rw [specTo_some e, ih (by omega), List.take_succ_eq_append_getElem (by omega)]
  rw [key _ (by rw [split_text h, List.length_map]; exact Nat.le_refl _), split_text h, List.length_map, List.take_length]
/-- A text can only be that of the package that spec puts together. -/
theorem spec_only {t : List UInt8} {nm vr : Int} {fs ds : List (Int × Int)} (h : pkgOk nm vr fs ds = true) (e : text nm vr fs ds = t) : foldW (specTo (split1 32 t) (split1 32 t).length) = (nm, vr, fs, ds) := by
  subst e
  rw [spec_text h, fold_words]
end Go.Proofs.YtlnieobmhofkdaaGreatDoor.Pk

/- The package of a text, and what an index tells of a text, as plain data. -/
namespace Go.Proofs.YtlnieobmhofkdaaGreatDoor.Ix
open Pk

def zeroP : Pg := (0, 0, [], [])
/-- What a text is put together to. -/
def rq (s : List UInt8) : Pg := foldW (specTo (split1 32 s) (split1 32 s).length)
/-- The package of a text. -/
def rp (s : List UInt8) : Option Pg := if pOk (rq s) = true ∧ pText (rq s) = s then some (rq s) else none
theorem rp_some {s : List UInt8} {p : Pg} : rp s = some p ↔ pOk p = true ∧ pText p = s := by
  unfold rp
  constructor
  · intro h
    split at h
    · rename_i hh
      injection h with h
      subst h
      exact hh
    · cases h
  · rintro ⟨ho, ht⟩
    have e : rq s = p := by
      obtain ⟨a, b, c, d⟩ := p
      exact spec_only ho ht
    rw [e, if_pos ⟨ho, ht⟩]
theorem rp_none {s : List UInt8} : rp s = none ↔ ∀ p, pOk p = true → pText p ≠ s := by
  constructor
  · intro h p ho ht
    rw [rp_some.2 ⟨ho, ht⟩] at h
    cases h
  · intro h
    cases hr : rp s with
    | none => rfl
    | some p => exact absurd (rp_some.1 hr).2 (h p (rp_some.1 hr).1)
theorem rp_text {p : Pg} (h : pOk p = true) : rp (pText p) = some p := rp_some.2 ⟨h, rfl⟩
theorem rp_bad {p : Pg} (h : pOk p = false) : rp (pText p) = none := by
  have e : pText p = [] := by
    unfold pText
    unfold pOk at h
    unfold text
    rw [h]
    rfl
  rw [e, rp_none]
  intro q ho ht
  have : pOk q = false := by
    cases hq : pOk q
    · rfl
    · exfalso
      have h2 : pkgOk q.1 q.2.1 q.2.2.1 q.2.2.2 = true := hq
      have h3 : text q.1 q.2.1 q.2.2.1 q.2.2.2 = [] := ht
      rw [text_nil] at h3
      rw [h2] at h3
      cases h3
  rw [this] at ho
  cases ho
/-- .. nothing, if there is none. -/
def rpD (s : List UInt8) : Pg := (rp s).getD zeroP
theorem rpD_some {s : List UInt8} {p : Pg} (h : rp s = some p) : rpD s = p := by unfold rpD; rw [h]; rfl
theorem rpD_none {s : List UInt8} (h : rp s = none) : rpD s = zeroP := by unfold rpD; rw [h]; rfl

/-- An index tells of a package. -/
def tellsP (num til : Int) (ms : List M) (p : Pg) : Bool := idxOk num til ms && decide (metaP p ∈ ms)
/-- The package of a text, if an index tells of it. -/
def has (num til : Int) (ms : List M) (s : List UInt8) : Option Pg := (rp s).filter (tellsP num til ms)
def hasD (num til : Int) (ms : List M) (s : List UInt8) : Pg := (has num til ms s).getD zeroP
def hasB (num til : Int) (ms : List M) (s : List UInt8) : Bool := (has num til ms s).isSome
theorem has_none {num til : Int} {ms : List M} {s : List UInt8} (h : rp s = none) : has num til ms s = none := by unfold has; rw [h]; rfl
theorem has_bad {num til : Int} {ms : List M} {s : List UInt8} (h : idxOk num til ms = false) : has num til ms s = none := by
  unfold has
  cases rp s with
  | none => rfl
  | some p => simp [tellsP, h]
theorem has_yes {num til : Int} {ms : List M} {s : List UInt8} {p : Pg} (h : rp s = some p) (ht : tellsP num til ms p = true) : has num til ms s = some p := by unfold has; rw [h, Option.filter_some, if_pos ht]
theorem has_no {num til : Int} {ms : List M} {s : List UInt8} {p : Pg} (h : rp s = some p) (ht : tellsP num til ms p = false) : has num til ms s = none := by unfold has; rw [h, Option.filter_some, if_neg (by rw [ht]; exact Bool.false_ne_true)]
theorem has_some {num til : Int} {ms : List M} {s : List UInt8} {p : Pg} : has num til ms s = some p ↔ (pOk p = true ∧ pText p = s) ∧ idxOk num til ms = true ∧ metaP p ∈ ms := by
  constructor
  · intro h
    cases hr : rp s with
    | none => rw [has_none hr] at h; cases h
    | some q =>
      cases ht : tellsP num til ms q
      · rw [has_no hr ht] at h; cases h
      · rw [has_yes hr ht] at h
        injection h with h
        subst h
        unfold tellsP at ht
        rw [Bool.and_eq_true] at ht
        exact ⟨rp_some.1 hr, ht.1, of_decide_eq_true ht.2⟩
  · rintro ⟨h1, h2, h3⟩
    exact has_yes (rp_some.2 h1) (by unfold tellsP; rw [h2, decide_eq_true h3]; rfl)
theorem hasD_none {num til : Int} {ms : List M} {s : List UInt8} (h : has num til ms s = none) : hasD num til ms s = zeroP ∧ hasB num til ms s = false := by unfold hasD hasB; rw [h]; exact ⟨rfl, rfl⟩
theorem hasD_some {num til : Int} {ms : List M} {s : List UInt8} {p : Pg} (h : has num til ms s = some p) : hasD num til ms s = p ∧ hasB num til ms s = true := by unfold hasD hasB; rw [h]; exact ⟨rfl, rfl⟩
theorem metaP_text {p : Pg} {s : List UInt8} (h : pText p = s) : metaP p = (p.1, p.2.1, Sm.sum s) := by unfold metaP; rw [h]
theorem rpD_len (s : List UInt8) : (rpD s).2.2.1.length ≤ 2 ∧ (rpD s).2.2.2.length ≤ 2 := by
  cases h : rp s with
  | none => rw [rpD_none h]; exact ⟨Nat.zero_le _, Nat.zero_le _⟩
  | some p =>
    rw [rpD_some h]
    have ho := (rp_some.1 h).1
    unfold pOk pkgOk at ho
    rw [Bool.and_eq_true, Bool.and_eq_true, Bool.and_eq_true] at ho
    exact ⟨(filesOk_get ho.1.2).1, (depsOk_get ho.2).1⟩
theorem hasD_len (num til : Int) (ms : List M) (s : List UInt8) : (hasD num til ms s).2.2.1.length ≤ 2 ∧ (hasD num til ms s).2.2.2.length ≤ 2 := by
  cases h : has num til ms s with
  | none => rw [(hasD_none h).1]; exact ⟨Nat.zero_le _, Nat.zero_le _⟩
  | some p =>
    rw [(hasD_some h).1]
    have := rpD_len s
    rw [rpD_some (rp_some.2 (has_some.1 h).1)] at this
    exact this
end Go.Proofs.YtlnieobmhofkdaaGreatDoor.Ix

/- Metas as plain data: without one they are ok still, with one twice they are not. -/
namespace Go.Proofs.YtlnieobmhofkdaaGreatDoor.Ix
open Pk

def without (l : List M) (k : Nat) : List M := l.take k ++ l.drop (k + 1)
theorem without_length {l : List M} {k : Nat} (hk : k < l.length) : (without l k).length = l.length - 1 := by unfold without; rw [List.length_append, List.length_take, List.length_drop]; omega
theorem without_lt {l : List M} {k i : Nat} (hi : i < k) (hk : k < l.length) : (without l k).getD i (0, 0, 0) = l.getD i (0, 0, 0) := by
  unfold without
  rw [List.getD_eq_getElem?_getD, List.getD_eq_getElem?_getD, List.getElem?_append_left (by rw [List.length_take]; omega), List.getElem?_take_of_lt hi]
theorem without_ge {l : List M} {k i : Nat} (hi : k ≤ i) (hk : k < l.length) : (without l k).getD i (0, 0, 0) = l.getD (i + 1) (0, 0, 0) := by
  unfold without
  have hlen : (l.take k).length = k := by rw [List.length_take]; omega
  rw [List.getD_eq_getElem?_getD, List.getD_eq_getElem?_getD, List.getElem?_append_right (by omega), hlen, List.getElem?_drop, show k + 1 + (i - k) = i + 1 by omega]
theorem less_trans {a b c d e f : Int} (h1 : less a b c d = true) (h2 : less c d e f = true) : less a b e f = true := by
  unfold less at *
  simp only [Bool.or_eq_true, Bool.and_eq_true, decide_eq_true_eq] at *
  omega
theorem less_self (a b : Int) : less a b a b = false := by unfold less; simp
theorem good_less {l : List M} (h : metasOk l = true) {i : Nat} (hi : i + 1 < l.length) : less (nm l i) (vr l i) (nm l (i + 1)) (vr l (i + 1)) = true := by
  have := metasOk_at h (i + 1) hi
  unfold good at this
  rw [Bool.and_eq_true, Bool.or_eq_true] at this
  rcases this.2 with h | h
  · exact absurd (of_decide_eq_true h) (by omega)
  · simpa using h
theorem good_mOk {l : List M} (h : metasOk l = true) {i : Nat} (hi : i < l.length) : mOk (nm l i) (vr l i) (sm l i) = true := by
  have := metasOk_at h i hi
  unfold good at this
  rw [Bool.and_eq_true] at this
  exact this.1
theorem less_chain {l : List M} (h : metasOk l = true) {i : Nat} : ∀ d, i + d + 1 < l.length → less (nm l i) (vr l i) (nm l (i + d + 1)) (vr l (i + d + 1)) = true
  | 0, hi => good_less h hi
  | d + 1, hi => less_trans (less_chain h d (by omega)) (good_less h (i := i + d + 1) hi)
theorem without_ok {l : List M} {k : Nat} (h : metasOk l = true) (hk : k < l.length) : metasOk (without l k) = true := by
  refine metasOk_good (fun i hi => ?_)
  rw [without_length hk] at hi
  unfold good
  rcases Nat.lt_or_ge i k with hlt | hge
  · have e1 : ∀ j, j ≤ i → nm (without l k) j = nm l j ∧ vr (without l k) j = vr l j ∧ sm (without l k) j = sm l j := fun j hj => by
      unfold nm vr sm
      rw [without_lt (by omega) hk]
      exact ⟨rfl, rfl, rfl⟩
    rw [(e1 i (Nat.le_refl _)).1, (e1 i (Nat.le_refl _)).2.1, (e1 i (Nat.le_refl _)).2.2, (e1 (i - 1) (by omega)).1, (e1 (i - 1) (by omega)).2.1]
    exact metasOk_at h i (by omega)
  · have e1 : nm (without l k) i = nm l (i + 1) ∧ vr (without l k) i = vr l (i + 1) ∧ sm (without l k) i = sm l (i + 1) := by
      unfold nm vr sm
      rw [without_ge hge hk]
      exact ⟨rfl, rfl, rfl⟩
    rw [e1.1, e1.2.1, e1.2.2, good_mOk h (by omega), Bool.true_and, Bool.or_eq_true]
    rcases Nat.eq_zero_or_pos i with h0 | hpos
    · exact .inl (decide_eq_true h0)
    · right
      obtain ⟨m, rfl⟩ : ∃ m, i = m + 1 := ⟨i - 1, by omega⟩
      rcases Nat.lt_or_ge m k with hm | hm
      · obtain rfl : k = m + 1 := by omega
        have e2 : nm (without l (m + 1)) m = nm l m ∧ vr (without l (m + 1)) m = vr l m := by
          unfold nm vr
          rw [without_lt (by omega) hk]
          exact ⟨rfl, rfl⟩
        rw [Nat.add_sub_cancel, e2.1, e2.2]
        exact less_trans (good_less h (by omega)) (good_less h (i := m + 1) (by omega))
      · have e2 : nm (without l k) m = nm l (m + 1) ∧ vr (without l k) m = vr l (m + 1) := by
          unfold nm vr
          rw [without_ge hm hk]
          exact ⟨rfl, rfl⟩
        rw [Nat.add_sub_cancel, e2.1, e2.2]
        exact good_less h (i := m + 1) (by omega)
theorem twice_bad {l : List M} {k : Nat} (h : metasOk l = true) (hk : k < l.length) : metasOk (l ++ [(nm l k, vr l k, sm l k)]) = false := by
  rw [metasOk_snoc]
  have : less (last l).1 (last l).2.1 (nm l k) (vr l k) = false := by
    rw [last_at]
    show less (nm l (l.length - 1)) (vr l (l.length - 1)) (nm l k) (vr l k) = false
    rcases Nat.lt_or_ge (k + 1) l.length with hlt | hge
    · have := less_chain h (i := k) (l.length - 1 - k - 1) (by omega)
      rw [show k + (l.length - 1 - k - 1) + 1 = l.length - 1 by omega] at this
      exact less_not this
    · rw [show l.length - 1 = k by omega]
      exact less_self _ _
  dsimp only
  rw [this]
  simp
theorem idx_without {num til : Int} {l : List M} {k : Nat} (h : idxOk num til l = true) (hk : k < l.length) : idxOk num til (without l k) = true := by
  unfold idxOk at *
  simp only [Bool.and_eq_true, decide_eq_true_eq] at *
  exact ⟨⟨h.1.1, by rw [without_length hk]; omega⟩, without_ok h.2 hk⟩
theorem idx_twice {num til : Int} {l : List M} {k : Nat} (h : idxOk num til l = true) (hk : k < l.length) : idxOk num til (l ++ [(nm l k, vr l k, sm l k)]) = false := by
  unfold idxOk at *
  simp only [Bool.and_eq_true] at h
  rw [twice_bad h.2 hk, Bool.and_false]
end Go.Proofs.YtlnieobmhofkdaaGreatDoor.Ix

/- What an index of packages tells of: each of them; of what it does not tell any more it does not tell. -/
namespace Go.Proofs.YtlnieobmhofkdaaGreatDoor.Ix
open Pk

theorem of_get {num til : Int} {l : List Pg} (h : ofOk num til l = true) : pkgsOk l = true ∧ idxOk num til (l.map metaP) = true := by
  unfold ofOk at h
  rw [Bool.and_eq_true] at h
  exact h
theorem of_pOk {num til : Int} {l : List Pg} (h : ofOk num til l = true) {k : Nat} (hk : k < l.length) : pOk (pg l k) = true := by
  have := pkgsOk_at (of_get h).1 k hk
  unfold pkgGood at this
  rw [Bool.and_eq_true] at this
  exact this.1
theorem all_has {num til : Int} {l : List Pg} (h : ofOk num til l = true) {k : Nat} (hk : k < l.length) : has num til (l.map metaP) (pText (pg l k)) = some (pg l k) :=
  has_some.2 ⟨⟨of_pOk h hk, rfl⟩, (of_get h).2, List.mem_map.2 ⟨_, pg_mem hk, rfl⟩⟩
theorem map_at {l : List Pg} {i : Nat} (hi : i < l.length) : nm (l.map metaP) i = (pg l i).1 ∧ vr (l.map metaP) i = (pg l i).2.1 := by
  unfold nm vr pg
  rw [List.getD_eq_getElem?_getD, List.getD_eq_getElem?_getD, List.getElem?_map, List.getElem?_eq_getElem hi]
  exact ⟨rfl, rfl⟩
theorem metas_ne {ms : List M} (h : metasOk ms = true) {i j : Nat} (hij : i < j) (hj : j < ms.length) : ¬ (nm ms i = nm ms j ∧ vr ms i = vr ms j) := by
  intro e
  obtain ⟨d, rfl⟩ : ∃ d, j = i + d + 1 := ⟨j - i - 1, by omega⟩
  have := less_chain h (i := i) d hj
  rw [e.1, e.2, less_self] at this
  cases this
theorem other_mem {ms : List M} (h : metasOk ms = true) {i k : Nat} (hi : i < ms.length) (hk : k < ms.length) : ms[i] ∈ without ms k ↔ i ≠ k := by
  have at' : ∀ j (hj : j < ms.length), ms[j].1 = nm ms j ∧ ms[j].2.1 = vr ms j := fun j hj => by
    unfold nm vr
    rw [List.getD_eq_getElem?_getD, List.getElem?_eq_getElem hj]
    exact ⟨rfl, rfl⟩
  have inj : ∀ j (hj : j < ms.length), ms[j] = ms[i] → j = i := fun j hj e => by
    have e1 : nm ms j = nm ms i ∧ vr ms j = vr ms i := by rw [← (at' j hj).1, ← (at' j hj).2, ← (at' i hi).1, ← (at' i hi).2, e]; exact ⟨rfl, rfl⟩
    rcases Nat.lt_trichotomy j i with hl | he | hg
    · exact absurd e1 (metas_ne h hl hi)
    · exact he
    · exact absurd ⟨e1.1.symm, e1.2.symm⟩ (metas_ne h hg hj)
  unfold without
  rw [List.mem_append]
  constructor
  · rintro (hm | hm) e
    · obtain ⟨j, hj, hje⟩ := List.getElem_of_mem hm
      rw [List.length_take] at hj
      rw [List.getElem_take] at hje
      have := inj j (by omega) hje
      omega
    · obtain ⟨j, hj, hje⟩ := List.getElem_of_mem hm
      rw [List.length_drop] at hj
      rw [List.getElem_drop] at hje
      have := inj (k + 1 + j) (by omega) hje
      omega
  · intro hne
    rcases Nat.lt_or_ge i k with hl | hg
    · exact .inl (List.mem_iff_getElem.2 ⟨i, by rw [List.length_take]; omega, by rw [List.getElem_take]⟩)
    · exact .inr (List.mem_iff_getElem.2 ⟨i - (k + 1), by rw [List.length_drop]; omega, by rw [List.getElem_drop]; congr 1; omega⟩)
theorem other_has {num til : Int} {l : List Pg} (h : ofOk num til l = true) {i k : Nat} (hi : i < l.length) (hk : k < l.length) : hasB num til (without (l.map metaP) k) (pText (pg l i)) = decide (i ≠ k) := by
  have hlen : (l.map metaP).length = l.length := List.length_map _
  have hok := (of_get h).2
  have hms : metasOk (l.map metaP) = true := by
    unfold idxOk at hok
    rw [Bool.and_eq_true] at hok
    exact hok.2
  have hiff := other_mem hms (i := i) (k := k) (by omega) (by omega)
  have he : (l.map metaP)[i]'(by omega) = metaP (pg l i) := by
    rw [List.getElem_map]
    unfold pg
    rw [List.getD_eq_getElem?_getD, List.getElem?_eq_getElem hi]
    rfl
  rw [he] at hiff
  by_cases hne : i ≠ k
  · rw [decide_eq_true hne]
    exact (hasD_some (has_some.2 ⟨⟨of_pOk h hi, rfl⟩, idx_without hok (by omega), hiff.2 hne⟩)).2
  · rw [decide_eq_false hne]
    refine (hasD_none (has_no (rp_text (of_pOk h hi)) ?_)).2
    unfold tellsP
    rw [decide_eq_false (fun hm => hne (hiff.1 hm)), Bool.and_false]
end Go.Proofs.YtlnieobmhofkdaaGreatDoor.Ix

/- What is kept of packages when just those stay of which an index tells, as plain data. -/
namespace Go.Proofs.YtlnieobmhofkdaaGreatDoor.Ix
open Pk

def trim (num til : Int) (ms : List M) (l : List Pg) : List Pg := l.filter (tellsP num til ms)
theorem trim_snoc {num til : Int} {ms : List M} {l : List Pg} {k : Nat} (hk : k < l.length) : trim num til ms (l.take (k + 1)) = if tellsP num til ms (pg l k) = true then trim num til ms (l.take k) ++ [pg l k] else trim num til ms (l.take k) := by
  rw [take_pgs hk]
  unfold trim
  rw [List.filter_append]
  cases h : tellsP num til ms (pg l k)
  · rw [List.filter_cons_of_neg (by rw [h]; simp), List.filter_nil, List.append_nil, if_neg (by simp)]
  · rw [List.filter_cons_of_pos h, List.filter_nil, if_pos rfl]
theorem trim_len (num til : Int) (ms : List M) (l : List Pg) (k : Nat) : (trim num til ms (l.take k)).length ≤ k :=
  Nat.le_trans (List.length_filter_le _ _) (by rw [List.length_take]; omega)
theorem pks_pOk {l : List Pg} (h : pkgsOk l = true) {k : Nat} (hk : k < l.length) : pOk (pg l k) = true := by
  have := pkgsOk_at h k hk
  unfold pkgGood at this
  rw [Bool.and_eq_true] at this
  exact this.1
/-- What is told of the text of one that is kept is that one. -/
theorem has_kept {num til : Int} {ms : List M} {l : List Pg} (h : pkgsOk l = true) {k : Nat} (hk : k < l.length) :
    hasB num til ms (pText (pg l k)) = tellsP num til ms (pg l k) ∧ (tellsP num til ms (pg l k) = true → hasD num til ms (pText (pg l k)) = pg l k) := by
  have hr := rp_text (pks_pOk h hk)
  cases ht : tellsP num til ms (pg l k)
  · exact ⟨(hasD_none (has_no hr ht)).2, fun h => by cases h⟩
  · have := hasD_some (has_yes hr ht)
    exact ⟨this.2, fun _ => this.1⟩
/-- An index that is not ok tells of nothing. -/
theorem trim_bad {num til : Int} {ms : List M} (h : idxOk num til ms = false) (l : List Pg) : trim num til ms l = [] := by
  unfold trim
  rw [List.filter_eq_nil_iff]
  intro p _
  unfold tellsP
  rw [h]
  simp
end Go.Proofs.YtlnieobmhofkdaaGreatDoor.Ix

/- What is to be in, as plain data: what is wrong with packages, line by line. -/
namespace Go.Proofs.YtlnieobmhofkdaaGreatDoor.Ix
open Pk

def titleT (p : Pg) : List UInt8 := Pk.nameT p.1 p.2.1
def besideT : List UInt8 := [32, 98, 101, 115, 105, 100, 101, 32]
def lacksT : List UInt8 := [32, 108, 97, 99, 107, 115, 32]
def andT : List UInt8 := [32, 97, 110, 100, 32]
def atT : List UInt8 := [32, 97, 116, 32]
def meetsP (d : Int × Int) (p : Pg) : Bool := decide (p.1 = d.1) && decide (d.2 ≤ p.2.1)
def hasAt (path : Int) (p : Pg) : Bool := p.2.2.1.any (fun f => f.1 == path)
def met (l : List Pg) (d : Int × Int) : Option Pg := l.find? (meetsP d)
def owner (l : List Pg) (i : Nat) (path : Int) : Option Pg := (l.take i).find? (hasAt path)
def besideL (l : List Pg) (i : Nat) : List (List UInt8) := if i ≠ 0 ∧ (pg l (i - 1)).1 = (pg l i).1 then [titleT (pg l i) ++ besideT ++ titleT (pg l (i - 1))] else []
def lackL (l : List Pg) (p : Pg) (d : Int × Int) : List (List UInt8) := match met l d with
  | some _ => []
  | none => [titleT p ++ lacksT ++ Pk.nameT d.1 d.2]
def placeL (l : List Pg) (i : Nat) (p : Pg) (f : Int × Int) : List (List UInt8) := match owner l i f.1 with
  | some o => [titleT p ++ andT ++ titleT o ++ atT ++ [Pk.b8 (48 + f.1)]]
  | none => []
def linesAt (l : List Pg) (i : Nat) : List (List UInt8) := besideL l i ++ (pg l i).2.2.2.flatMap (lackL l (pg l i)) ++ (pg l i).2.2.1.flatMap (placeL l i (pg l i))
def linesTo (l : List Pg) (k : Nat) : List (List UInt8) := (List.range k).flatMap (linesAt l)
def lines (l : List Pg) : List (List UInt8) := linesTo l l.length
def planOk (l : List Pg) : Bool := pkgsOk l && decide ((lines l).length = 0)
theorem linesTo_succ (l : List Pg) (k : Nat) : linesTo l (k + 1) = linesTo l k ++ linesAt l k := by unfold linesTo; rw [List.range_succ, List.flatMap_append]; simp
theorem besideL_len (l : List Pg) (i : Nat) : (besideL l i).length ≤ 1 := by unfold besideL; split <;> simp
theorem lackL_len (l : List Pg) (p : Pg) (d : Int × Int) : (lackL l p d).length ≤ 1 := by unfold lackL; split <;> simp
theorem placeL_len (l : List Pg) (i : Nat) (p : Pg) (d : Int × Int) : (placeL l i p d).length ≤ 1 := by unfold placeL; split <;> simp
theorem flat_le {α β : Type} (f : α → List β) (h : ∀ x, (f x).length ≤ 1) : ∀ s : List α, (s.flatMap f).length ≤ s.length
  | [] => Nat.le_refl _
  | x :: s => by
    have := flat_le f h s
    have := h x
    rw [List.flatMap_cons, List.length_append, List.length_cons]
    omega
theorem linesAt_len {l : List Pg} {i : Nat} (h : pOk (pg l i) = true) : (linesAt l i).length ≤ 5 := by
  obtain ⟨h1, h2⟩ := pOk_lens h
  have a := besideL_len l i
  have b := flat_le (lackL l (pg l i)) (lackL_len l (pg l i)) (pg l i).2.2.2
  have c := flat_le (placeL l i (pg l i)) (placeL_len l i (pg l i)) (pg l i).2.2.1
  unfold linesAt
  rw [List.length_append, List.length_append]
  omega
theorem linesTo_len {l : List Pg} (h : pkgsOk l = true) : ∀ k, k ≤ l.length → (linesTo l k).length ≤ 5 * k
  | 0, _ => Nat.le_refl _
  | k + 1, hk => by
    have a := linesTo_len h k (by omega)
    have b := linesAt_len (pkgs_pOk h (i := k) (by omega))
    rw [linesTo_succ, List.length_append]
    omega
theorem take_cons_flat {α β : Type} (f : α → List β) (s : List α) (k : Nat) (x : α) (hx : s[k]? = some x) : (s.take (k + 1)).flatMap f = (s.take k).flatMap f ++ f x := by
  rw [List.take_add_one, hx, List.flatMap_append]
  simp
/-- The first that meets a need is there just if the newest does. -/
theorem mem_ix {l : List Pg} {p : Pg} (h : p ∈ l) : ∃ i, i < l.length ∧ pg l i = p := by
  obtain ⟨i, hi, e⟩ := List.getElem_of_mem h
  refine ⟨i, hi, ?_⟩
  unfold pg
  rw [List.getD_eq_getElem?_getD, List.getElem?_eq_getElem hi]
  exact e
def newMeets (l : List Pg) (d : Int × Int) : Bool := (orNone (newest l d.1)).2 && decide (d.2 ≤ (orNone (newest l d.1)).1.2.1)
theorem met_newest {l : List Pg} {d : Int × Int} (hk : pkgsOk l = true) : (met l d).isSome = newMeets l d := by
  unfold newMeets met
  rw [Bool.eq_iff_iff, List.find?_isSome]
  rcases newest_cases l d.1 with ⟨hn, hno⟩ | ⟨m, hm, hn, hx, hr⟩
  · rw [hn]
    refine ⟨fun ⟨p, hp, hm⟩ => ?_, fun h => by cases h⟩
    obtain ⟨i, hi, e⟩ := mem_ix hp
    unfold meetsP at hm
    simp only [Bool.and_eq_true, decide_eq_true_eq] at hm
    exact absurd (by rw [e]; exact hm.1) (hno i hi)
  · rw [hn]
    show _ ↔ (true && decide (d.2 ≤ (pg l m).2.1)) = true
    rw [Bool.true_and, decide_eq_true_eq]
    constructor
    · rintro ⟨p, hp, hmm⟩
      obtain ⟨i, hi, e⟩ := mem_ix hp
      unfold meetsP at hmm
      simp only [Bool.and_eq_true, decide_eq_true_eq] at hmm
      rw [← e] at hmm
      by_cases hne : i = m
      · rw [← hne]; exact hmm.2
      · have := newest_top hk hm hx hr i hi hmm.1 hne
        omega
    · intro h
      refine ⟨_, pg_mem hm, ?_⟩
      unfold meetsP
      simp only [Bool.and_eq_true, decide_eq_true_eq]
      exact ⟨hx, h⟩
theorem pOk_ver {p : Pg} (h : pOk p = true) : 1 ≤ p.2.1 ∧ p.2.1 ≤ 5 := by
  unfold pOk Pk.pkgOk at h
  simp only [Bool.and_eq_true, Pk.inB_true] at h
  omega
theorem pkgs_key {l : List Pg} (h : pkgsOk l = true) : ∀ i, i < l.length → 6 + (i : Int) ≤ (pg l i).1 * 5 + (pg l i).2.1
  | 0, hi => by
    have a := pOk_name (pkgs_pOk h hi)
    have b := pOk_ver (pkgs_pOk h hi)
    omega
  | i + 1, hi => by
    have a := pkgs_key h i (by omega)
    have b := pkgs_less h hi
    have c := pOk_ver (pkgs_pOk h (i := i) (by omega))
    have d := pOk_ver (pkgs_pOk h hi)
    unfold less at b
    simp only [Bool.or_eq_true, Bool.and_eq_true, decide_eq_true_eq] at b
    omega
/-- There are no more than twenty. -/
theorem pkgs_len {l : List Pg} (h : pkgsOk l = true) : l.length ≤ 20 := by
  rcases Nat.eq_zero_or_pos l.length with h0 | hp
  · omega
  · have a := pkgs_key h (l.length - 1) (by omega)
    have b := pOk_name (pkgs_pOk h (i := l.length - 1) (by omega))
    have c := pOk_ver (pkgs_pOk h (i := l.length - 1) (by omega))
    omega
theorem pOk_file {p : Pg} (h : pOk p = true) : ∀ i, i < p.2.2.1.length → (0 ≤ Pk.fst p.2.2.1 i ∧ Pk.fst p.2.2.1 i ≤ 5) ∧ (0 ≤ Pk.snd p.2.2.1 i ∧ Pk.snd p.2.2.1 i ≤ 9) := by
  unfold pOk Pk.pkgOk at h
  simp only [Bool.and_eq_true] at h
  exact (Pk.filesOk_get h.1.2).2
theorem pOk_dep {p : Pg} (h : pOk p = true) : ∀ i, i < p.2.2.2.length → (1 ≤ Pk.fst p.2.2.2 i ∧ Pk.fst p.2.2.2 i ≤ 4) ∧ (1 ≤ Pk.snd p.2.2.2 i ∧ Pk.snd p.2.2.2 i ≤ 5) := by
  unfold pOk Pk.pkgOk at h
  simp only [Bool.and_eq_true] at h
  exact (Pk.depsOk_get h.2).2
end Go.Proofs.YtlnieobmhofkdaaGreatDoor.Ix
