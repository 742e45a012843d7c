import Derived.Test.YtlnieobmhofkdaaGreatDoorMix16
import Derived.Test.YtlnieobmhofkdaaGreatDoorIndexOfW
import Derived.Test.YtlnieobmhofkdaaGreatDoorMix13
import Derived.Test.YtlnieobmhofkdaaGreatDoorMix0
import Derived.Test.YtlnieobmhofkdaaGreatDoorMix2
import Derived.Laws.OwnMore
import Derived.BigRegion
/- A package is laid into a box; what an index of packages holds. -/
namespace Go.Proofs.YtlnieobmhofkdaaGreatDoor
open Go.RowKit

theorem Ix.ofD_facts (num til : Int) (l : List Ix.Pg) : Ix.ofOk num til l = true → Ix.ofD num til l = (num, til, l.map Ix.metaP) := fun h => by unfold Ix.ofD; rw [if_pos h]
theorem Ix.ofD_le8 {num til : Int} {l : List Ix.Pg} (hl : l.length ≤ 8) : (Ix.ofD num til l).2.2.length ≤ 8 := by
  unfold Ix.ofD
  split
  · show (l.map Ix.metaP).length ≤ 8; rw [List.length_map]; exact hl
  · exact Nat.zero_le _
/-- A package is laid into a box: the box, and rows that are owned. -/
theorem pkg_fill {W w w' : World} {X B C n m : Nat} {a b c d a' b' fv dv : Value} {xs ys : List Value} (h : w.heap[X]? = some (.cells #[a, b, c, d] 42 (0, 0)))
    (hf : w.ownsRow B 132 2 fv n xs) (hd : w.ownsRow C 134 2 dv m ys) (hb : Below W.heap.size W w) (hX : W.heap.size ≤ X)
    (hw : w' = (((w.setCell ⟨X, 0, none⟩ a').setCell ⟨X, 1, none⟩ b').setCell ⟨X, 2, none⟩ fv).setCell ⟨X, 3, none⟩ dv) :
    w'.heap[X]? = some (.cells #[a', b', fv, dv] 42 (0, 0)) ∧ w'.ownsRow B 132 2 fv n xs ∧ w'.ownsRow C 134 2 dv m ys ∧ Below W.heap.size W w' := by
  obtain ⟨_, hfar, hbb⟩ := box_fin h hw
  refine ⟨?_, own_keep hf (fun k _ _ _ hk => hfar k (fun e => by subst e; exact pkg_not_file h hk)), own_keep hd (fun k _ _ _ hk => hfar k (fun e => by subst e; exact pkg_not_dep h hk)), hb.trans (hbb.mono hX)⟩
  rw [hw, heap_set (heap_set (heap_set (heap_set h)))]
  rfl
end Go.Proofs.YtlnieobmhofkdaaGreatDoor

/- What spec.l1Cut returns: a text, cut at a byte, in a row of its own; of texts of at most 30 bytes. -/
namespace Go.Proofs.YtlnieobmhofkdaaGreatDoor
open Go.RowKit

theorem split1_snoc_c (c : UInt8) : ∀ l, Pk.split1 c (l ++ [c]) = Pk.split1 c l ++ [[]]
  | [] => by simp [Pk.split1]
  | y :: l => by
    rw [List.cons_append]
    conv => lhs; unfold Pk.split1
    conv => rhs; unfold Pk.split1
    rw [split1_snoc_c c l]
    by_cases h : y = c
    · rw [if_pos h, if_pos h, List.cons_append]
    · rw [if_neg h, if_neg h]
      cases hs : Pk.split1 c l with
      | nil => exact absurd hs (Pk.split1_ne c l)
      | cons z zs => rfl
theorem split1_snoc (c x : UInt8) (hx : x ≠ c) : ∀ (l : List UInt8) (ini : List (List UInt8)) (last : List UInt8), Pk.split1 c l = ini ++ [last] → Pk.split1 c (l ++ [x]) = ini ++ [last ++ [x]]
  | [], ini, last, h => by
    have h' : [[]] = ini ++ [last] := h
    cases ini with
    | nil =>
      obtain rfl : last = [] := by simpa using h'.symm
      simp [Pk.split1, hx]
    | cons a b => simp at h'
  | y :: l, ini, last, h => by
    rw [List.cons_append]
    unfold Pk.split1 at h ⊢
    by_cases hy : y = c
    · rw [if_pos hy] at h ⊢
      cases ini with
      | nil =>
        have : Pk.split1 c l = [] := by simpa using (List.cons.inj h).2
        exact absurd this (Pk.split1_ne c l)
      | cons a b =>
        have h1 := List.cons.inj h
        rw [split1_snoc c x hx l b last h1.2, ← h1.1]
        rfl
    · rw [if_neg hy] at h ⊢
      cases hs : Pk.split1 c l with
      | nil => exact absurd hs (Pk.split1_ne c l)
      | cons z zs =>
        rw [hs] at h
        have h' : (y :: z) :: zs = ini ++ [last] := h
        cases ini with
        | nil =>
          obtain ⟨rfl, rfl⟩ : y :: z = last ∧ zs = [] := by simpa using h'
          rw [split1_snoc c x hx l [] z (by rw [hs]; rfl)]
          rfl
        | cons a b =>
          have h1 := List.cons.inj h'
          rw [split1_snoc c x hx l (z :: b) last (by rw [hs, h1.2]; rfl), ← h1.1]
          rfl
theorem split1_last (c : UInt8) (l : List UInt8) : ∃ ini last, Pk.split1 c l = ini ++ [last] := by
  rcases List.eq_nil_or_concat (Pk.split1 c l) with h | ⟨a, b, h⟩
  · exact absurd h (Pk.split1_ne c l)
  · exact ⟨a, b, by rw [h, List.concat_eq_append]⟩

def strOf (l : List UInt8) : Value := .string ⟨l.toArray⟩
theorem take_snocB (s : ByteArray) (k : Nat) (h : k < s.size) : s.data.toList.take (k + 1) = s.data.toList.take k ++ [s[k]] := by
  rw [List.take_succ_eq_append_getElem (by rw [Array.length_toList]; exact h)]; rfl

set_option maxHeartbeats 4000000 in
set_option maxRecDepth 100000 in
theorem cut1_any (s : ByteArray) (w : World) (hs : s.size ≤ 30) :
    Calls Tryz.prog 153 #[.string s, .int .u8 32] w fun e w' => ∃ v, e = .returned v ∧ w'.ownsRow w.heap.size 9 1 v (Pk.split1 32 s.data.toList).length ((Pk.split1 32 s.data.toList).map strOf) ∧ Below w.heap.size w w' := by
  obtain ⟨i0, hi0, hz0, hz1, hz2⟩ := info_parts infoStr
  have HB0 : Hid (Below w.heap.size w (w.alloc (.cells #[.string ⟨#[]⟩] 9))) := (Below.refl _ _).alloc (Nat.le_refl _) _
  have HO0 := hide (one_word w (.string ⟨#[]⟩) 9 w.heap.size (Nat.le_refl _))
  go_enter Tryz.func153, Tryz.ntmps153
  go_wp2_with fail
  generalize w.alloc _ = W0 at *
  go_loopw [5, 6] (fun u i w' => ∃ (k : Nat) (ini : List (List UInt8)) (last : List UInt8), k ≤ s.size ∧ i = .int .i64 k ∧ Pk.split1 32 (s.data.toList.take k) = ini ++ [last] ∧ ini.length ≤ k ∧ last.length ≤ k ∧ Below w.heap.size w w' ∧ w'.ownsRow w.heap.size 9 1 u (ini.length + 1) ((ini ++ [last]).map strOf)) (fun _ i _ => s.size - (intOf i).toNat)
  case atStart => exact ⟨0, [], [], Nat.zero_le _, rfl, rfl, Nat.le_refl _, Nat.le_refl _, unhide HB0, unhide HO0⟩
  case round =>
    clear HB0 HO0
    obtain ⟨k, ini, last, hk, rfl, hsp, hil, hll, hw, ho⟩ := hrel
    have HW := hide hw
    have HO := hide ho
    have HSP := hide hsp
    have hzw := hw.size
    obtain ⟨g, cap, rfl, hg1, hg2⟩ := ho.form (by omega)
    by_cases hlt : k < s.size
    · have HT := hide (take_snocB s k hlt)
      have hi0' : (0 : Int) ≤ (k : Int) := Int.natCast_nonneg _
      have hi1 : (k : Int) < (s.size : Int) := by omega
      by_cases hb : s[k] = 32
      · have hbe : (((s[k].toNat : Nat) : Int) == 32) = true := by rw [hb]; rfl
        have HE : Hid (Pk.split1 32 (s.data.toList.take (k + 1)) = (ini ++ [last]) ++ [[]]) := by
          show _ = _
          rw [unhide HT, hb, split1_snoc_c, hsp]
        clear hb hsp hw ho
        go_wp2_with (at_builtin; refine wpList_append_lies _ rfl _ _ _ rfl w.heap.size 9 i0 _ 1 16 Tryz.underlying92 hi0 hz0 hz1 hz2 rfl (by omega) (.slice (some ⟨g, 0, none⟩) (ini.length + 1) cap) (ini.length + 1) ((ini ++ [last]).map strOf) rfl ((unhide HO).alloc _) ⟨wr.heap.size, 0, none⟩ 1 1 [.string ⟨#[]⟩] rfl rfl (World.news_of_block (cs := #[.string ⟨#[]⟩]) (t := 9) (fr := (0, 0)) (heap_alloc_new _ _)) (by simp [Value.oneCell']) (by omega) (by unfold maxLen; omega) (by omega) (by rw [sz1w]; omega) (wr.heap.size + 1) (by rw [sz1w]) ?_; intro gg cap' w6 hown1 hgrow hat hlt4)
        go_roundw
        case rel =>
          refine ⟨k + 1, ini ++ [last], [], by omega, by go_num, unhide HE, by rw [List.length_append]; simp only [List.length_cons, List.length_nil]; omega, by simp, ((unhide HW).alloc hzw _).grown hgrow (by rw [sz1w]; omega) (fun g hg => ((unhide HO).lt g hg).1), ?_⟩
          rw [List.length_append, List.map_append]
          exact hown1
        case measure => simp [intOf]; omega
      · have hbe : (((s[k].toNat : Nat) : Int) == 32) = false := by
          rw [beq_eq_false_iff_ne]
          intro e
          exact hb (UInt8.toNat_inj.1 (by show _ = 32; omega))
        have HE : Hid (Pk.split1 32 (s.data.toList.take (k + 1)) = ini ++ [last ++ [s[k]]]) := by
          show _ = _
          rw [unhide HT]
          exact split1_snoc 32 _ hb _ _ _ hsp
        have hc : wr.cell? ⟨g, ini.length, none⟩ = some (.string ⟨last.toArray⟩) := by
          rw [ho.cellAt _ (by omega), List.map_append, List.getElem?_append_right (by rw [List.length_map]; exact Nat.le_refl _), List.length_map, Nat.sub_self]
          rfl
        have hf : wr.frozen? ⟨g, ini.length, none⟩ = false := ho.frozenAt _
        have hlsz : ¬ 9223372036854775807 < (⟨last.toArray⟩ : ByteArray).size + 1 := by show ¬ 9223372036854775807 < last.length + 1; omega
        have hj0 : (0 : Int) ≤ (ini.length : Int) := Int.natCast_nonneg _
        have hj1 : (ini.length : Int) < ((ini.length + 1 : Nat) : Int) := by omega
        have hcv := fun (wx : World) (b c : Nat) (h : wx.cell? ⟨b, 0, none⟩ = some (.int .u8 ((s[k].toNat : Nat) : Int))) => conv_one wx b ((s[k].toNat : Nat) : Int) c (Int.natCast_nonneg _) (by have := s[k].toNat_lt; omega) h
        have e1 : IntKind.i64.wrap (ini.length : Int) = (ini.length : Int) := by simp [IntKind.wrap, IntKind.bits, IntKind.signed]; omega
        clear hb hsp hw ho
        go_wp2_with fail
        go_region
        have hstr : ((⟨last.toArray⟩ : ByteArray) ++ ⟨#[Pk.b8 ((s[k].toNat : Nat) : Int)]⟩) = ⟨(last ++ [s[k]]).toArray⟩ := by
          have hb8 : Pk.b8 ((s[k].toNat : Nat) : Int) = s[k] := by unfold Pk.b8; simp
          rw [hb8]
          exact app_data last [s[k]]
        rw [hstr]
        have HO2 : Hid ((((wr.setCell ⟨g, ini.length, none⟩ (.string ⟨(last ++ [s[k]]).toArray⟩)).alloc (.cells #[.int .u8 ((s[k].toNat : Nat) : Int)] 5)).drew).ownsRow w.heap.size 9 1 (.slice (some ⟨g, 0, none⟩) (ini.length + 1) cap) (ini.length + 1) ((ini ++ [last ++ [s[k]]]).map strOf)) := by
          have h1 := (unhide HO).stored ini.length (.string ⟨(last ++ [s[k]]).toArray⟩)
          have e : ((ini ++ [last]).map strOf).set ini.length (.string ⟨(last ++ [s[k]]).toArray⟩) = (ini ++ [last ++ [s[k]]]).map strOf := by
            rw [List.map_append, List.map_append, List.set_append_right _ _ (by rw [List.length_map]; exact Nat.le_refl _), List.length_map, Nat.sub_self]
            rfl
          rw [e] at h1
          exact (h1.1.alloc _).drew
        have HB2 : Hid (Below w.heap.size w (((wr.setCell ⟨g, ini.length, none⟩ (.string ⟨(last ++ [s[k]]).toArray⟩)).alloc (.cells #[.int .u8 ((s[k].toNat : Nat) : Int)] 5)).drew)) := ((((unhide HW).setCell (p := ⟨g, ini.length, none⟩) hg1 _).alloc (by simp only [World.setCell, Array.size_modify]; exact hzw) _).drew)
        generalize World.drew _ = w5 at *
        clear hcv hc hf hstr
        go_wp2
        go_roundw
        case rel => exact ⟨k + 1, ini, last ++ [s[k]], by omega, by go_num, unhide HE, by omega, by rw [List.length_append]; simp only [List.length_cons, List.length_nil]; omega, unhide HB2, unhide HO2⟩
        case measure => simp [intOf]; omega
    · obtain rfl : k = s.size := by omega
      have hfull : s.data.toList.take s.size = s.data.toList := List.take_of_length_le (by rw [Array.length_toList]; exact Nat.le_refl _)
      rw [hfull] at HSP
      clear hsp hw ho hfull
      go_wp2
      go_ret
      refine ⟨_, rfl, ?_, unhide HW⟩
      rw [unhide HSP, List.length_append]
      exact unhide HO
end Go.Proofs.YtlnieobmhofkdaaGreatDoor
