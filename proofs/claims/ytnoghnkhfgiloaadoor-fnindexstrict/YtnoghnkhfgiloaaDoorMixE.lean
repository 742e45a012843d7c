import Derived.Test.YtnoghnkhfgiloaaDoorCutW
import Derived.Test.YtnoghnkhfgiloaaDoorPkgOkW
import Derived.LaidEql
import Derived.Stop.Asserts
import Derived.RowKitTokens
/- What spec.l1Cut returns: a text, cut at any byte, in a row of its own; of texts of at most 200 bytes. -/
namespace Go.Proofs.YtnoghnkhfgiloaaDoor
open Go.RowKit

set_option maxHeartbeats 4000000 in
set_option maxRecDepth 100000 in
theorem cutC_any (s : ByteArray) (c : UInt8) (w : World) (hs : s.size ≤ 200) :
    Calls Tryd.prog 33 #[.string s, .int .u8 ((c.toNat : Nat) : Int)] w fun e w' => ∃ v, e = .returned v ∧ w'.ownsRow w.heap.size 9 1 v (Pk.split1 c s.data.toList).length ((Pk.split1 c s.data.toList).map strOf) ∧ Below w.heap.size w w' := by
  obtain ⟨i0, hi0, hz0, hz1, hz2⟩ := info_parts infoStr
  have HB0 : Hid (Below w.heap.size w (w.alloc (.cells #[.string ⟨#[]⟩] 9))) := (Below.refl _ _).alloc (Nat.le_refl _) _
  have HO0 := hide (one_word w (.string ⟨#[]⟩) 9 w.heap.size (Nat.le_refl _))
  go_enter Tryd.func33, Tryd.ntmps33
  go_wp2_with fail
  generalize w.alloc _ = W0 at *
  go_loopw [5, 6] (fun u i w' => ∃ (k : Nat) (ini : List (List UInt8)) (last : List UInt8), k ≤ s.size ∧ i = .int .i64 k ∧ Pk.split1 c (s.data.toList.take k) = ini ++ [last] ∧ ini.length ≤ k ∧ last.length ≤ k ∧ Below w.heap.size w w' ∧ w'.ownsRow w.heap.size 9 1 u (ini.length + 1) ((ini ++ [last]).map strOf)) (fun _ i _ => s.size - (intOf i).toNat)
  case atStart => exact ⟨0, [], [], Nat.zero_le _, rfl, rfl, Nat.le_refl _, Nat.le_refl _, unhide HB0, unhide HO0⟩
  case round =>
    clear HB0 HO0
    obtain ⟨k, ini, last, hk, rfl, hsp, hil, hll, hw, ho⟩ := hrel
    have HW := hide hw
    have HO := hide ho
    have HSP := hide hsp
    have hzw := hw.size
    obtain ⟨g, cap, rfl, hg1, hg2⟩ := ho.form (by omega)
    by_cases hlt : k < s.size
    · have HT := hide (take_snocB s k hlt)
      have hi0' : (0 : Int) ≤ (k : Int) := Int.natCast_nonneg _
      have hi1 : (k : Int) < (s.size : Int) := by omega
      have HCC := hide (Eq.refl c)
      by_cases hb : s[k] = c
      · have hbe : (((s[k].toNat : Nat) : Int) == ((c.toNat : Nat) : Int)) = true := by rw [hb]; simp
        have HE : Hid (Pk.split1 c (s.data.toList.take (k + 1)) = (ini ++ [last]) ++ [[]]) := by
          show _ = _
          rw [unhide HT, hb, split1_snoc_c, hsp]
        clear hb hsp hw ho
        go_wp2_with (at_builtin; refine wpList_append_lies _ rfl _ _ _ rfl w.heap.size 9 i0 _ 1 16 Tryd.underlying55 hi0 hz0 hz1 hz2 rfl (by omega) (.slice (some ⟨g, 0, none⟩) (ini.length + 1) cap) (ini.length + 1) ((ini ++ [last]).map strOf) rfl ((unhide HO).alloc _) ⟨wr.heap.size, 0, none⟩ 1 1 [.string ⟨#[]⟩] rfl rfl (World.news_of_block (cs := #[.string ⟨#[]⟩]) (t := 9) (fr := (0, 0)) (heap_alloc_new _ _)) (by simp [Value.oneCell']) (by omega) (by unfold maxLen; omega) (by omega) (by rw [sz1w]; omega) (wr.heap.size + 1) (by rw [sz1w]) ?_; intro gg cap' w6 hown1 hgrow hat hlt4)
        go_roundw
        case rel =>
          refine ⟨k + 1, ini ++ [last], [], by omega, by go_num, unhide HE, by rw [List.length_append]; simp only [List.length_cons, List.length_nil]; omega, by simp, ((unhide HW).alloc hzw _).grown hgrow (by rw [sz1w]; omega) (fun g hg => ((unhide HO).lt g hg).1), ?_⟩
          rw [List.length_append, List.map_append]
          exact hown1
        case measure => simp [intOf]; omega
      · have hbe : (((s[k].toNat : Nat) : Int) == ((c.toNat : Nat) : Int)) = false := by
          rw [beq_eq_false_iff_ne]
          intro e
          exact hb (UInt8.toNat_inj.1 (by omega))
        have HE : Hid (Pk.split1 c (s.data.toList.take (k + 1)) = ini ++ [last ++ [s[k]]]) := by
          show _ = _
          rw [unhide HT]
          exact split1_snoc c _ hb _ _ _ hsp
        have hc : wr.cell? ⟨g, ini.length, none⟩ = some (.string ⟨last.toArray⟩) := by
          rw [ho.cellAt _ (by omega), List.map_append, List.getElem?_append_right (by rw [List.length_map]; exact Nat.le_refl _), List.length_map, Nat.sub_self]
          rfl
        have hf : wr.frozen? ⟨g, ini.length, none⟩ = false := ho.frozenAt _
        have hlsz : ¬ 9223372036854775807 < (⟨last.toArray⟩ : ByteArray).size + 1 := by show ¬ 9223372036854775807 < last.length + 1; omega
        have hj0 : (0 : Int) ≤ (ini.length : Int) := Int.natCast_nonneg _
        have hj1 : (ini.length : Int) < ((ini.length + 1 : Nat) : Int) := by omega
        have hcv := fun (wx : World) (b c : Nat) (h : wx.cell? ⟨b, 0, none⟩ = some (.int .u8 ((s[k].toNat : Nat) : Int))) => conv_one wx b ((s[k].toNat : Nat) : Int) c (Int.natCast_nonneg _) (by have := s[k].toNat_lt; omega) h
        have e1 : IntKind.i64.wrap (ini.length : Int) = (ini.length : Int) := by simp [IntKind.wrap, IntKind.bits, IntKind.signed]; omega
        clear hb hsp hw ho
        go_wp2_with fail
        go_region
        have hstr : ((⟨last.toArray⟩ : ByteArray) ++ ⟨#[Pk.b8 ((s[k].toNat : Nat) : Int)]⟩) = ⟨(last ++ [s[k]]).toArray⟩ := by
          have hb8 : Pk.b8 ((s[k].toNat : Nat) : Int) = s[k] := by unfold Pk.b8; simp
          rw [hb8]
          exact app_data last [s[k]]
        rw [hstr]
        have HO2 : Hid ((((wr.setCell ⟨g, ini.length, none⟩ (.string ⟨(last ++ [s[k]]).toArray⟩)).alloc (.cells #[.int .u8 ((s[k].toNat : Nat) : Int)] 5)).drew).ownsRow w.heap.size 9 1 (.slice (some ⟨g, 0, none⟩) (ini.length + 1) cap) (ini.length + 1) ((ini ++ [last ++ [s[k]]]).map strOf)) := by
          have h1 := (unhide HO).stored ini.length (.string ⟨(last ++ [s[k]]).toArray⟩)
          have e : ((ini ++ [last]).map strOf).set ini.length (.string ⟨(last ++ [s[k]]).toArray⟩) = (ini ++ [last ++ [s[k]]]).map strOf := by
            rw [List.map_append, List.map_append, List.set_append_right _ _ (by rw [List.length_map]; exact Nat.le_refl _), List.length_map, Nat.sub_self]
            rfl
          rw [e] at h1
          exact (h1.1.alloc _).drew
        have HB2 : Hid (Below w.heap.size w (((wr.setCell ⟨g, ini.length, none⟩ (.string ⟨(last ++ [s[k]]).toArray⟩)).alloc (.cells #[.int .u8 ((s[k].toNat : Nat) : Int)] 5)).drew)) := ((((unhide HW).setCell (p := ⟨g, ini.length, none⟩) hg1 _).alloc (by simp only [World.setCell, Array.size_modify]; exact hzw) _).drew)
        generalize World.drew _ = w5 at *
        clear hcv hc hf hstr
        go_wp2
        go_roundw
        case rel => exact ⟨k + 1, ini, last ++ [s[k]], by omega, by go_num, unhide HE, by omega, by rw [List.length_append]; simp only [List.length_cons, List.length_nil]; omega, unhide HB2, unhide HO2⟩
        case measure => simp [intOf]; omega
    · obtain rfl : k = s.size := by omega
      have hfull : s.data.toList.take s.size = s.data.toList := List.take_of_length_le (by rw [Array.length_toList]; exact Nat.le_refl _)
      rw [hfull] at HSP
      clear hsp hw ho hfull
      go_wp2
      go_ret
      refine ⟨_, rfl, ?_, unhide HW⟩
      rw [unhide HSP, List.length_append]
      exact unhide HO
end Go.Proofs.YtnoghnkhfgiloaaDoor

/- What errors.Is answers of nothing, and of the one error itself: no, and yes. -/
namespace Go.Proofs.YtnoghnkhfgiloaaDoor
open Go.RowKit Go.Extern.Stop Go.Stop Go.Extern

def cmpX := Extern.ReflectliteType.method fun t => do Extern.Rtype.noPackHeld "Comparable" t; pure (.bool (← typeInfo t).comparable)
theorem isComparable (w : World) : (cmpX #[.agg #[.pointer (some ⟨7, 128, none⟩)]]).run Tryd.prog w = .ok (.bool true) w := by kernel_rfl
theorem isComp : (Tryd.prog.info? 128).map (·.comparable) = some true := by kernel_rfl
theorem isSize : (Tryd.prog.info? 130).map (·.size) = some 1 := by kernel_rfl

end Go.Proofs.YtnoghnkhfgiloaaDoor
