/- What impl.readWords returns: the words of a text, in a row of its own, or the one error; of texts of at most 30 bytes. -/
import Derived.Test.YtcdbgkdccflbgaaGreatDoorReadW
import Derived.Test.YtcdbgkdccflbgaaGreatDoorImplTextW
namespace Go.Proofs.YtcdbgkdccflbgaaGreatDoor
open Go.RowKit

theorem splitS (s : ByteArray) (c : UInt8) : ((Lib.splitB ⟨#[c]⟩ 0 (Lib.countB s ⟨#[c]⟩) s).map Value.string) = (Pk.split1 c s.data.toList).map (fun l => Value.string ⟨l.toArray⟩) := by
  rw [← Pk.splitB_eq, List.map_map]
  rfl
theorem split_count (s : ByteArray) (c : UInt8) : Lib.countB s ⟨#[c]⟩ + 1 = (Pk.split1 c s.data.toList).length := by
  rw [← Pk.splitB_eq, List.length_map, Lib.splitB_all ⟨#[c]⟩ (Nat.le_refl 1) 0 _ s rfl]
/-- strings.Split at a blank. -/
theorem split_any (s : ByteArray) (w : World) (ev : Addr) (g : Gl w ev) (hs : s.size ≤ 1000) (n : Nat) (hn : n = (Pk.split1 32 s.data.toList).length) :
    Calls Tryz.prog 143 #[.string s, .string ⟨#[32]⟩] w fun e w' => e = .returned (.slice (some ⟨w.heap.size, 0, none⟩) n n) ∧ w' = w.alloc (.cells ((Pk.split1 32 s.data.toList).map (fun l => Value.string ⟨l.toArray⟩)).toArray 9) := by
  obtain ⟨m, hm⟩ := g.m
  have := Tryz.strings_Split s ⟨#[32]⟩ m w (by omega) hm (by decide)
  rw [splitS, split_count, ← hn] at this
  exact this

/-- The words up to a place are read. -/
def ReadsTo (t : List UInt8) (ps : List (Nat × Int × Int)) (k : Nat) : Prop := ps.length = k ∧ ∀ i, i < k → Pk.wordF (decide (i = 0)) ((Pk.split1 32 t).getD i []) = some (ps.getD i (0, 0, 0))
theorem ReadsTo.more {t : List UInt8} {ps : List (Nat × Int × Int)} {k : Nat} (h : ReadsTo t ps k) {x : Nat × Int × Int} (hx : Pk.wordF (decide (k = 0)) ((Pk.split1 32 t).getD k []) = some x) : ReadsTo t (ps ++ [x]) (k + 1) := by
  refine ⟨by rw [List.length_append, h.1]; rfl, fun i hi => ?_⟩
  rcases Nat.lt_or_ge i k with hlt | hge
  · rw [h.2 i hlt, List.getD_eq_getElem?_getD, List.getD_eq_getElem?_getD, List.getElem?_append_left (by rw [h.1]; exact hlt)]
  · obtain rfl : i = k := by omega
    rw [hx, List.getD_eq_getElem?_getD, List.getElem?_append_right (by rw [h.1]; exact Nat.le_refl _), h.1, Nat.sub_self]
    rfl

theorem split_size (t : List UInt8) (k n : Nat) (h : t.length ≤ n) : (⟨((Pk.split1 32 t).getD k []).toArray⟩ : ByteArray).size ≤ n := by
  refine size_of ?_
  rw [List.getD_eq_getElem?_getD]
  cases hk : (Pk.split1 32 t)[k]? with
  | none => simp
  | some x => have := (Pk.split1_len 32 t).2 x (List.mem_of_getElem? hk); simp only [Option.getD_some]; omega

theorem wordV_iface (x : Nat × Int × Int) : ∃ t v, wordV x = .iface t v := by
  obtain ⟨k, a, b⟩ := x
  match k with
  | 0 => exact ⟨_, _, rfl⟩
  | 1 => exact ⟨_, _, rfl⟩
  | k + 2 => exact ⟨_, _, rfl⟩

set_option maxHeartbeats 2000000 in
set_option maxRecDepth 100000 in
theorem readWords_any (s : ByteArray) (w : World) (ev : Addr) (g : Gl w ev) (hs : s.size ≤ 30) :
    Calls Tryz.prog 104 #[.string s] w fun e w' => ((∃ k, k < (Pk.split1 32 s.data.toList).length ∧ Pk.wordF (decide (k = 0)) ((Pk.split1 32 s.data.toList).getD k []) = none ∧ e = .returned (.tuple #[.slice none 0 0, .iface 252 (.pointer (some ev))])) ∨ (∃ ps v, Pk.Reads s.data.toList ps ∧ e = .returned (.tuple #[v, .nilIface]) ∧ w'.ownsRow w.heap.size 97 1 v ps.length (ps.map wordV))) ∧ Below w.heap.size w w' := by
  obtain ⟨i0, hi0, hz0, hz1, hz2⟩ := info_parts infoWord
  have hlen : s.data.toList.length = s.size := Array.length_toList
  obtain ⟨n, hn⟩ : ∃ n, n = (Pk.split1 32 s.data.toList).length := ⟨_, rfl⟩
  have hn31 : n ≤ 31 := by have := (Pk.split1_len 32 s.data.toList).1; omega
  have hn1 : 0 < n := by rw [hn]; exact List.length_pos_iff.2 (Pk.split1_ne 32 _)
  have HN := hide hn
  have HSZ : Hid (∀ k, (⟨((Pk.split1 32 s.data.toList).getD k []).toArray⟩ : ByteArray).size ≤ 1000) := fun k => Nat.le_trans (split_size _ k 30 (by omega)) (by omega)
  have HB0 : Hid (Below w.heap.size w (w.alloc (.cells #[] 97))) := (Below.refl _ _).alloc (Nat.le_refl _) _
  have HE := hide (heap_alloc_new w (.cells #[] 97))
  have G0 := hide g
  have G := hide (g.later (unhide HB0))
  have HSPL := hide (split_any s _ ev (unhide G) (by omega) n hn)
  clear g hlen
  rw [← hn]
  clear hn
  go_enter Tryz.func104, Tryz.ntmps104
  go_wp2_with fail
  refine (unhide HSPL).mono ?_
  have hz : (w.alloc (.cells #[] 97)).heap.size = w.heap.size + 1 := sz1w _ _
  rw [hz]
  clear HSPL
  generalize w.alloc _ = W0 at *
  rintro e w1 ⟨rfl, hw⟩
  have hb1 : Below W0.heap.size W0 w1 := by rw [hw]; exact (Below.refl _ _).alloc (Nat.le_refl _) _
  have HROW : Hid (w1.ownsRow w.heap.size 9 1 (.slice (some ⟨w.heap.size + 1, 0, none⟩) n n) n ((Pk.split1 32 s.data.toList).map (fun l => Value.string ⟨l.toArray⟩))) := by
    refine ⟨?_, .inr ⟨w.heap.size + 1, n, _, rfl, by omega, by rw [hw, ← hz]; exact heap_alloc_new _ _, Nat.le_refl _, by unfold maxLen; omega, ?_, ?_⟩⟩
    · rw [List.length_map, ← unhide HN, Nat.mul_one]
    · rw [List.size_toArray, List.length_map, ← unhide HN, Nat.mul_one]
    · rw [List.take_of_length_le (by rw [List.length_map, ← unhide HN, Nat.mul_one]; exact Nat.le_refl _)]
  have HB1 : Hid (Below w.heap.size w w1) := (unhide HB0).trans (hb1.mono (by omega))
  have HS0 : Hid (w1.ownsRow w.heap.size 97 1 (.slice (some ⟨w.heap.size, 0, none⟩) 0 0) 0 []) := ⟨rfl, .inr ⟨w.heap.size, 0, #[], rfl, Nat.le_refl _, by rw [hb1.block _ (by omega)]; exact unhide HE, Nat.le_refl _, by unfold maxLen; omega, rfl, rfl⟩⟩
  have hsz1 : w.heap.size + 1 < w1.heap.size := by rw [hw, sz1w, hz]; omega
  have HZ1 := hide hsz1
  clear hw hb1 HE HB0 G hz hsz1
  have HWS : Hid (∀ k, k < n → ((Pk.split1 32 s.data.toList).map (fun l => Value.string ⟨l.toArray⟩))[k]? = some (.string ⟨((Pk.split1 32 s.data.toList).getD k []).toArray⟩)) := fun k hk => by
    rw [unhide HN] at hk
    rw [List.getElem?_map, List.getD_eq_getElem?_getD, List.getElem?_eq_getElem hk]
    rfl
  generalize hr : (Pk.split1 32 s.data.toList).map (fun l => Value.string ⟨l.toArray⟩) = row at *
  clear hr
  go_wp2_with fail
  go_loopw [4, 13] (fun u i w' => ∃ (k : Nat) (ps : List (Nat × Int × Int)), k ≤ n ∧ i = .int .i64 k ∧ ReadsTo s.data.toList ps k ∧ Below w.heap.size w w' ∧ w'.ownsRow w.heap.size 9 1 (.slice (some ⟨w.heap.size + 1, 0, none⟩) n n) n row ∧ w'.ownsRow w.heap.size 97 1 u k (ps.map wordV)) (fun _ i _ => n - (intOf i).toNat)
  case atStart => exact ⟨0, [], Nat.zero_le _, rfl, ⟨rfl, fun i hi => by omega⟩, unhide HB1, unhide HROW, unhide HS0⟩
  case round =>
    clear HB1 HROW HS0 HZ1
    obtain ⟨k, ps, hk, rfl, hr, hw, ho1, ho2⟩ := hrel
    have hg := (unhide G0).later hw
    have HR := hide hr
    have HW := hide hw
    have HG := hide hg
    have HO1 := hide ho1
    have HO2 := hide ho2
    have hzw := hw.size
    by_cases hlt : k < n
    · have hc : wr.cell? ⟨w.heap.size + 1, k, none⟩ = some (.string ⟨((Pk.split1 32 s.data.toList).getD k []).toArray⟩) := by
        have := ho1.cells (g := w.heap.size + 1) rfl k _ (unhide HWS k hlt)
        have hadd : (⟨w.heap.size + 1, 0, none⟩ : Addr).add k = ⟨w.heap.size + 1, k, none⟩ := by unfold Addr.add; split <;> simp_all
        rwa [hadd] at this
      have hsz := unhide HSZ k
      have hi0' : (0 : Int) ≤ (k : Int) := Int.natCast_nonneg _
      have hi1 : (k : Int) < (n : Int) := by omega
      obtain ⟨f, hf⟩ : ∃ f, f = decide (k = 0) := ⟨_, rfl⟩
      have hfb : ((k : Int) == 0) = f := by
        rw [hf, Bool.eq_iff_iff]
        simp
      have HF := hide hf
      clear hf hr hw hg ho1 ho2
      cases hx : Pk.wordF f ((Pk.split1 32 s.data.toList).getD k []) with
      | none =>
        have HX := hide hx
        clear hx
        go_wp2_with fail
        refine (readWord_no f _ _ ev (unhide HG) hsz (unhide HX)).mono ?_
        rintro e w2 ⟨rfl, hb⟩
        have HB2 : Hid (Below w.heap.size w w2) := (unhide HW).trans (hb.mono hzw)
        clear hb
        go_wp2_with fail
        go_ret2
        exact ⟨.inl ⟨k, hlt, by rw [← unhide HF]; exact unhide HX, rfl⟩, unhide HB2⟩
      | some x =>
        have HX := hide hx
        clear hx
        go_wp2_with fail
        refine (readWord_ok f _ x _ ev (unhide HG) hsz (unhide HX)).mono ?_
        rintro e w2 ⟨rfl, hb⟩
        have HB2 : Hid (Below w.heap.size w w2) := (unhide HW).trans (hb.mono hzw)
        have HP1 : Hid (w2.ownsRow _ _ _ _ _ _) := own1_later (unhide HO1) hb
        have HP2 : Hid (w2.ownsRow _ _ _ _ _ _) := own1_later (unhide HO2) hb
        have hz2' : w.heap.size ≤ w2.heap.size := (unhide HB2).size
        clear hb HG HW HO1 HO2 hc
        obtain ⟨xt, xa, hxv⟩ := wordV_iface x
        have HXV := hide hxv
        rw [hxv]
        clear hxv
        go_wp2_with (at_builtin; refine wpList_append_lies _ rfl _ _ _ rfl w.heap.size 97 i0 _ 1 16 Tryz.underlying94 hi0 hz0 hz1 hz2 rfl (by omega) u4 k (ps.map wordV) rfl ((unhide HP2).alloc _) ⟨w2.heap.size, 0, none⟩ 1 1 [.iface xt xa] rfl rfl (World.news_of_block (cs := #[.iface xt xa]) (t := 97) (fr := (0, 0)) (heap_alloc_new _ _)) (by simp [Value.oneCell']) (by omega) (by unfold maxLen; omega) (by omega) (by rw [sz1w]; omega) (w2.heap.size + 1) (by rw [sz1w]) ?_; intro gg cap' w6 hown1 hgrow hat hlt4)
        go_roundw
        case rel =>
          refine ⟨k + 1, ps ++ [x], by omega, by go_num, (unhide HR).more (by rw [← unhide HF]; exact unhide HX), ((unhide HB2).alloc hz2' _).grown hgrow (by rw [sz1w]; omega) (fun g hg => ((unhide HP2).lt g hg).1), ?_, ?_⟩
          · exact own1_keep ((unhide HP1).alloc _) (fun g hv => hgrow.block g (((unhide HP1).alloc _).lt g hv).2 (fun e => rows_ne (unhide HP1) (unhide HP2) (by decide) g hv e.symm))
          · rw [List.map_append, List.map_cons, List.map_nil, unhide HXV]
            exact hown1
        case measure => simp [intOf]; omega
    · obtain rfl : k = n := by omega
      clear hlt hr hw hg ho1 ho2
      go_wp2
      go_ret2
      refine ⟨.inr ⟨ps, _, ?_, rfl, ?_⟩, unhide HW⟩
      · have := unhide HR
        exact ⟨by rw [this.1, unhide HN], fun i hi => this.2 i (by rw [unhide HN]; exact hi)⟩
      · rw [(unhide HR).1]
        exact unhide HO2
end Go.Proofs.YtcdbgkdccflbgaaGreatDoor
