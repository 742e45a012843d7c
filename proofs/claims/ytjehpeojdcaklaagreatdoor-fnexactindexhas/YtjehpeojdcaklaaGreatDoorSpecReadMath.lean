/- How spec reads a text: by the lengths of its words. -/
import Derived.Test.YtjehpeojdcaklaaGreatDoorReadMath
namespace Go.Proofs.YtjehpeojdcaklaaGreatDoor.Pk

/-- A word as spec reads it. -/
def specW (first : Bool) : List UInt8 → Option (Nat × Int × Int)
  | [a, b] => some (bif first then 0 else 2, (a.toNat : Int) - 97 + 1, (b.toNat : Int) - 48)
  | [a, _, b] => bif first then none else some (1, (a.toNat : Int) - 48, (b.toNat : Int) - 48)
  | _ => none
/-- The words up to a place. -/
def specTo (ws : List (List UInt8)) (k : Nat) : List (Nat × Int × Int) := (List.range k).flatMap fun i => (specW (decide (i = 0)) (ws.getD i [])).toList
theorem specTo_some {ws : List (List UInt8)} {k : Nat} {x : Nat × Int × Int} (h : specW (decide (k = 0)) (ws.getD k []) = some x) : specTo ws (k + 1) = specTo ws k ++ [x] := by
  unfold specTo
  rw [List.range_succ, List.flatMap_append, List.flatMap_cons, h]
  rfl
theorem specTo_none {ws : List (List UInt8)} {k : Nat} (h : specW (decide (k = 0)) (ws.getD k []) = none) : specTo ws (k + 1) = specTo ws k := by
  unfold specTo
  rw [List.range_succ, List.flatMap_append, List.flatMap_cons, h]
  simp
theorem specTo_len (ws : List (List UInt8)) : ∀ k, (specTo ws k).length ≤ k
  | 0 => by simp [specTo]
  | k + 1 => by
    have := specTo_len ws k
    cases h : specW (decide (k = 0)) (ws.getD k []) with
    | none => rw [specTo_none h]; omega
    | some x => rw [specTo_some h, List.length_append]; simp only [List.length_cons, List.length_nil]; omega
theorem snamed_all : ∀ a : Fin 4, ∀ b : Fin 10, ∀ f : Bool, specW f (nameT (a.val + 1 : Nat) (b.val : Nat)) = some (bif f then 0 else 2, ((a.val + 1 : Nat) : Int), ((b.val : Nat) : Int)) := by decide +kernel
theorem sfile_all : ∀ a : Fin 10, ∀ b : Fin 10, specW false (wordT (1, (a.val : Nat), (b.val : Nat))) = some (1, ((a.val : Nat) : Int), ((b.val : Nat) : Int)) := by decide +kernel
theorem snamed_ok {a b : Int} (h : 1 ≤ a ∧ a ≤ 4 ∧ 0 ≤ b ∧ b ≤ 9) (f : Bool) : specW f (nameT a b) = some (bif f then 0 else 2, a, b) := by
  have := snamed_all ⟨(a - 1).toNat, by omega⟩ ⟨b.toNat, by omega⟩ f
  have e1 : (((a - 1).toNat + 1 : Nat) : Int) = a := by omega
  have e2 : ((b.toNat : Nat) : Int) = b := by omega
  simp only [e1, e2] at this
  exact this
theorem sfile_ok {a b : Int} (h : 0 ≤ a ∧ a ≤ 9 ∧ 0 ≤ b ∧ b ≤ 9) : specW false (wordT (1, a, b)) = some (1, a, b) := by
  have := sfile_all ⟨a.toNat, by omega⟩ ⟨b.toNat, by omega⟩
  have e1 : ((a.toNat : Nat) : Int) = a := by omega
  have e2 : ((b.toNat : Nat) : Int) = b := by omega
  simp only [e1, e2] at this
  exact this
theorem sword_text {nm vr : Int} {fs ds : List (Int × Int)} (h : pkgOk nm vr fs ds = true) (i : Nat) (hi : i < (wordL nm vr fs ds).length) : specW (decide (i = 0)) (wordT (wordL nm vr fs ds)[i]) = some (wordL nm vr fs ds)[i] := by
  obtain ⟨h1, h2, h3⟩ := ok_parts h
  cases i with
  | zero => exact snamed_ok h1 true
  | succ i =>
    have hd : decide (i + 1 = 0) = false := by simp
    have hm : (wordL nm vr fs ds)[i + 1] ∈ fs.map (fun x => ((1 : Nat), x.1, x.2)) ++ ds.map (fun x => ((2 : Nat), x.1, x.2)) := by
      simp only [wordL, List.getElem_cons_succ]
      exact List.getElem_mem _
    rw [hd]
    generalize (wordL nm vr fs ds)[i + 1] = x at hm
    simp only [List.mem_append, List.mem_map] at hm
    rcases hm with ⟨y, hy, rfl⟩ | ⟨y, hy, rfl⟩
    · exact sfile_ok (h2 y hy)
    · exact snamed_ok (h3 y hy) false
/-- Of the text of a package that is ok spec reads its words. -/
theorem spec_text {nm vr : Int} {fs ds : List (Int × Int)} (h : pkgOk nm vr fs ds = true) : specTo (split1 32 (text nm vr fs ds)) (split1 32 (text nm vr fs ds)).length = wordL nm vr fs ds := by
  have key : ∀ k, k ≤ (wordL nm vr fs ds).length → specTo (split1 32 (text nm vr fs ds)) k = (wordL nm vr fs ds).take k := by
    intro k
    induction k with
    | zero => intro _; rfl
    | succ k ih =>
      intro hk
      have e : specW (decide (k = 0)) ((split1 32 (text nm vr fs ds)).getD k []) = some (wordL nm vr fs ds)[k] := by
        rw [split_text h, List.getD_eq_getElem?_getD, List.getElem?_map, List.getElem?_eq_getElem (by omega)]
        exact sword_text h k (by omega)
      rw [specTo_some e, ih (by omega), List.take_succ_eq_append_getElem (by omega)]
  rw [key _ (by rw [split_text h, List.length_map]; exact Nat.le_refl _), split_text h, List.length_map, List.take_length]
/-- A text can only be that of the package that spec puts together. -/
theorem spec_only {t : List UInt8} {nm vr : Int} {fs ds : List (Int × Int)} (h : pkgOk nm vr fs ds = true) (e : text nm vr fs ds = t) : foldW (specTo (split1 32 t) (split1 32 t).length) = (nm, vr, fs, ds) := by
  subst e
  rw [spec_text h, fold_words]
end Go.Proofs.YtjehpeojdcaklaaGreatDoor.Pk
