import Derived.Test.YtcdbgkdccflbgaaGreatDoorAnsPW
import Derived.Deep.AppendLies
import Derived.Test.YtcdbgkdccflbgaaGreatDoorMixA
/- What spec.l12Copy and impl.copyPkgs return: packages anew, each row its own; for every row of packages. -/
namespace Go.Proofs.YtcdbgkdccflbgaaGreatDoor
open Go.RowKit

theorem PAns.start (w : World) : PAns w.heap.size (w.alloc (.cells #[] 42)) (.slice (some ⟨w.heap.size, 0, none⟩) 0 0) [] :=
  ⟨empty_own (sz := 4) (heap_alloc_new w _) (Nat.le_refl _), fun _ he => (by cases he), List.Pairwise.nil⟩

set_option maxHeartbeats 4000000 in
set_option maxRecDepth 100000 in
theorem l12Copy_any {N : Nat → Prop} (w : World) (v : Value) (l : List Ix.Pg) (h : Pks N w v l) (hl : l.length ≤ 1000) :
    Calls Tryz.prog 46 #[v] w fun e w' => ∃ u els, e = .returned u ∧ PAns w.heap.size w' u els ∧ els.map (·.1) = l ∧ Below w.heap.size w w' := by
  obtain ⟨i0, hI0, hz0, hz1, hz2⟩ := info_parts infoPkg
  obtain ⟨a, cap, rfl, hlen, hrow⟩ := h
  have HR := hide hrow
  have HS := hide (And.intro (PAns.start w) (below1 w (.cells #[] 42)))
  clear hrow hlen
  go_enter Tryz.func46, Tryz.ntmps46
  go_wp2_with fail
  go_loopw [3, 4] (fun o i w' => ∃ (k : Nat) (els : List El), k ≤ l.length ∧ i = .int .i64 k ∧ els.map (·.1) = l.take k ∧ PAns w.heap.size w' o els ∧ Below w.heap.size w w') (fun _ i _ => l.length - (intOf i).toNat)
  case atStart => exact ⟨0, [], Nat.zero_le _, rfl, rfl, (unhide HS).1, (unhide HS).2⟩
  case round =>
    clear HS
    obtain ⟨k, els, hk, rfl, hmap, hP, hw⟩ := hrel
    have hle : els.length ≤ k := by rw [← List.length_map (f := fun x : El => x.1), hmap, List.length_take]; omega
    have HM := hide hmap
    have HP := hide hP
    have HW := hide hw
    clear hmap hP hw
    by_cases hlt : k < l.length
    · obtain ⟨b, off, rfl, hb, _, hc⟩ := unhide HR (by omega)
      obtain ⟨fv, dv, hAt, hf, hd⟩ := hc k hlt
      obtain ⟨nm, vr, fs, ds, hpk⟩ : ∃ nm vr fs ds, Ix.pg l k = (nm, vr, fs, ds) := ⟨_, _, _, _, rfl⟩
      rw [hpk] at hAt hf hd
      dsimp only at hf hd
      obtain ⟨fa, fc, hfv⟩ := hf.slice
      obtain ⟨da, dc, hdv⟩ := hd.slice
      subst hfv hdv
      obtain ⟨c0, c1, c2, c3⟩ := hAt.keep ((unhide HW).block b hb)
      dsimp only at c0 c1 c2 c3
      have hb' : b < wr.heap.size := Nat.lt_of_lt_of_le hb (unhide HW).size
      have hi0 : (0 : Int) ≤ (k : Int) := Int.natCast_nonneg _
      have hi1 : (k : Int) < (l.length : Int) := by omega
      have CC := hide (specCopyPkg_any wr nm vr _ _ fs ds (hf.prs.later (unhide HW)) (hd.prs.later (unhide HW)))
      have htk := Ix.take_pg l k hlt
      rw [hpk] at htk
      have HTK := hide htk
      clear hc hAt hf hd hpk htk
      go_wp2_with fail
      refine (unhide CC).mono ?_
      rintro e w2 ⟨fv', dv', rfl, ho, hb2⟩
      obtain ⟨ga, gc, ha, hcc, h1, h2⟩ := ho.forms
      subst h1 h2
      have hfar : ∀ x ∈ els, farE x ((nm, vr, fs, ds), .slice ga fs.length gc, .slice ha ds.length hcc) := fun x hx => farE.new ((unhide HP).el x hx) ho
      have HFA := hide hfar
      have b3 := below1 w2 (.cells #[.int .i64 nm, .int .i64 vr, .slice ga fs.length gc, .slice ha ds.length hcc] 42)
      have HB3 := hide ((unhide HW).trans ((hb2.trans (b3.mono hb2.size)).mono (unhide HW).size))
      have HP3 := hide ((unhide HP).later (hb2.trans (b3.mono hb2.size)))
      have HO3 := hide ((ho.base (unhide HW).size).later b3)
      have hs2 : w.heap.size ≤ w2.heap.size := Nat.le_trans (unhide HW).size hb2.size
      clear c0 c1 c2 c3 CC ho hb2 b3 hfar HP HW
      go_wp2_with (at_builtin; refine wpList_append_lies _ rfl _ _ _ rfl w.heap.size 42 i0 _ 4 64 Tryz.underlying31 hI0 hz0 hz1 hz2 rfl (by omega) _ els.length (flat4 els) rfl (unhide HP3).own ⟨w2.heap.size, 0, none⟩ 1 1 [.int .i64 nm, .int .i64 vr, .slice ga fs.length gc, .slice ha ds.length hcc] rfl rfl (World.news_of_block (cs := #[.int .i64 nm, .int .i64 vr, .slice ga fs.length gc, .slice ha ds.length hcc]) (t := 42) (fr := (0, 0)) (heap_alloc_new _ _)) (by simp [Value.oneCell']) (by omega) (by unfold maxLen; omega) (by omega) (by rw [sz1']; omega) (w2.heap.size + 1) (by rw [sz1']) ?_; intro gg gcap w10 hown hgrow hat hlt10)
      have HP10 := hide (PAns.snoc (e := ((nm, vr, fs, ds), .slice ga fs.length gc, .slice ha ds.length hcc)) (unhide HP3) hgrow hown (unhide HO3) (unhide HFA))
      have HB10 := hide (grown_below (B := w.heap.size) (unhide HP3).own hgrow (unhide HB3) (unhide HB3).size)
      clear hown hgrow hat hlt10 HP3 HB3 HO3 HFA
      go_roundw
      case rel => exact ⟨k + 1, els ++ [((nm, vr, fs, ds), .slice ga fs.length gc, .slice ha ds.length hcc)], by omega, by go_num, by rw [unhide HTK, List.map_append, unhide HM]; rfl, unhide HP10, unhide HB10⟩
      case measure => simp [intOf]; omega
    · obtain rfl : k = l.length := by omega
      rw [List.take_of_length_le (Nat.le_refl _)] at HM
      clear hlt HR
      go_wp2
      go_ret
      exact ⟨_, els, rfl, unhide HP, unhide HM, unhide HW⟩
end Go.Proofs.YtcdbgkdccflbgaaGreatDoor

/- How spec reads a text: by the lengths of its words. -/
namespace Go.Proofs.YtcdbgkdccflbgaaGreatDoor.Pk

/-- A word as spec reads it. -/
def specW (first : Bool) : List UInt8 → Option (Nat × Int × Int)
  | [a, b] => some (bif first then 0 else 2, (a.toNat : Int) - 97 + 1, (b.toNat : Int) - 48)
  | [a, _, b] => bif first then none else some (1, (a.toNat : Int) - 48, (b.toNat : Int) - 48)
  | _ => none
/-- The words up to a place. -/
def specTo (ws : List (List UInt8)) (k : Nat) : List (Nat × Int × Int) := (List.range k).flatMap fun i => (specW (decide (i = 0)) (ws.getD i [])).toList
theorem specTo_some {ws : List (List UInt8)} {k : Nat} {x : Nat × Int × Int} (h : specW (decide (k = 0)) (ws.getD k []) = some x) : specTo ws (k + 1) = specTo ws k ++ [x] := by
  unfold specTo
  rw [List.range_succ, List.flatMap_append, List.flatMap_cons, h]
  rfl
theorem specTo_none {ws : List (List UInt8)} {k : Nat} (h : specW (decide (k = 0)) (ws.getD k []) = none) : specTo ws (k + 1) = specTo ws k := by
  unfold specTo
  rw [List.range_succ, List.flatMap_append, List.flatMap_cons, h]
  simp
theorem specTo_len (ws : List (List UInt8)) : ∀ k, (specTo ws k).length ≤ k
  | 0 => by simp [specTo]
  | k + 1 => by
    have := specTo_len ws k
    cases h : specW (decide (k = 0)) (ws.getD k []) with
    | none => rw [specTo_none h]; omega
    | some x => rw [specTo_some h, List.length_append]; simp only [List.length_cons, List.length_nil]; omega
theorem snamed_all : ∀ a : Fin 4, ∀ b : Fin 10, ∀ f : Bool, specW f (nameT (a.val + 1 : Nat) (b.val : Nat)) = some (bif f then 0 else 2, ((a.val + 1 : Nat) : Int), ((b.val : Nat) : Int)) := by decide +kernel
theorem sfile_all : ∀ a : Fin 10, ∀ b : Fin 10, specW false (wordT (1, (a.val : Nat), (b.val : Nat))) = some (1, ((a.val : Nat) : Int), ((b.val : Nat) : Int)) := by decide +kernel
theorem snamed_ok {a b : Int} (h : 1 ≤ a ∧ a ≤ 4 ∧ 0 ≤ b ∧ b ≤ 9) (f : Bool) : specW f (nameT a b) = some (bif f then 0 else 2, a, b) := by
  have := snamed_all ⟨(a - 1).toNat, by omega⟩ ⟨b.toNat, by omega⟩ f
  have e1 : (((a - 1).toNat + 1 : Nat) : Int) = a := by omega
  have e2 : ((b.toNat : Nat) : Int) = b := by omega
  simp only [e1, e2] at this
  exact this
theorem sfile_ok {a b : Int} (h : 0 ≤ a ∧ a ≤ 9 ∧ 0 ≤ b ∧ b ≤ 9) : specW false (wordT (1, a, b)) = some (1, a, b) := by
  have := sfile_all ⟨a.toNat, by omega⟩ ⟨b.toNat, by omega⟩
  have e1 : ((a.toNat : Nat) : Int) = a := by omega
  have e2 : ((b.toNat : Nat) : Int) = b := by omega
  simp only [e1, e2] at this
  exact this
theorem sword_text {nm vr : Int} {fs ds : List (Int × Int)} (h : pkgOk nm vr fs ds = true) (i : Nat) (hi : i < (wordL nm vr fs ds).length) : specW (decide (i = 0)) (wordT (wordL nm vr fs ds)[i]) = some (wordL nm vr fs ds)[i] := by
  obtain ⟨h1, h2, h3⟩ := ok_parts h
  cases i with
  | zero => exact snamed_ok h1 true
  | succ i =>
    have hd : decide (i + 1 = 0) = false := by simp
    have hm : (wordL nm vr fs ds)[i + 1] ∈ fs.map (fun x => ((1 : Nat), x.1, x.2)) ++ ds.map (fun x => ((2 : Nat), x.1, x.2)) := by
      simp only [wordL, List.getElem_cons_succ]
      exact List.getElem_mem _
    rw [hd]
    generalize (wordL nm vr fs ds)[i + 1] = x at hm
    simp only [List.mem_append, List.mem_map] at hm
    rcases hm with ⟨y, hy, rfl⟩ | ⟨y, hy, rfl⟩
    · exact sfile_ok (h2 y hy)
    · exact snamed_ok (h3 y hy) false
/-- Of the text of a package that is ok spec reads its words. -/
theorem spec_text {nm vr : Int} {fs ds : List (Int × Int)} (h : pkgOk nm vr fs ds = true) : specTo (split1 32 (text nm vr fs ds)) (split1 32 (text nm vr fs ds)).length = wordL nm vr fs ds := by
  have key : ∀ k, k ≤ (wordL nm vr fs ds).length → specTo (split1 32 (text nm vr fs ds)) k = (wordL nm vr fs ds).take k := by
    intro k
    induction k with
    | zero => intro _; rfl
    | succ k ih =>
      intro hk
      have e : specW (decide (k = 0)) ((split1 32 (text nm vr fs ds)).getD k []) = some (wordL nm vr fs ds)[k] := by
        rw [split_text h, List.getD_eq_getElem?_getD, List.getElem?_map, List.getElem?_eq_getElem (by omega)]
        exact sword_text h k (by omega)
      rw [specTo_some e, ih (by omega), List.take_succ_eq_append_getElem (by omega)]
  rw [key _ (by rw [split_text h, List.length_map]; exact Nat.le_refl _), split_text h, List.length_map, List.take_length]
/-- A text can only be that of the package that spec puts together. -/
theorem spec_only {t : List UInt8} {nm vr : Int} {fs ds : List (Int × Int)} (h : pkgOk nm vr fs ds = true) (e : text nm vr fs ds = t) : foldW (specTo (split1 32 t) (split1 32 t).length) = (nm, vr, fs, ds) := by
  subst e
  rw [spec_text h, fold_words]
end Go.Proofs.YtcdbgkdccflbgaaGreatDoor.Pk
