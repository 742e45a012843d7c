import Derived.Test.YtlnieobmhofkdaaGreatDoorMix16
import Derived.Test.YtlnieobmhofkdaaGreatDoorMix17
import Derived.Test.YtlnieobmhofkdaaGreatDoorMix13
import Derived.Deep.RegionLaw
/- What spec.PkgRead returns: the package that is ok and has this text, in rows of its own, and yes; or nothing, and no, where there is none; for every text; nothing old is written. -/
namespace Go.Proofs.YtlnieobmhofkdaaGreatDoor
open Go.RowKit

theorem Sp.startS (w w2 : World) (R : Nat) (hb : Below w.heap.size w w2) (hR : w2.heap[R]? = some (.cells #[.int .i64 0, .int .i64 0, .slice none 0 0, .slice none 0 0] 42 (0, 0))) (lR : w.heap.size ≤ R) :
    Sp w R (w2.heap.size + 1 + 1) (((w2.alloc (.cells #[] 132)).alloc (.cells #[] 134)).alloc (.cells #[.int .i64 0, .int .i64 0, .slice (some ⟨w2.heap.size, 0, none⟩) 0 0, .slice (some ⟨w2.heap.size + 1, 0, none⟩) 0 0] 42)) 0 0 (.slice (some ⟨w2.heap.size, 0, none⟩) 0 0) (.slice (some ⟨w2.heap.size + 1, 0, none⟩) 0 0) [] [] := by
  have hz := hb.size
  have hlt := heap_lt hR
  refine ⟨((hb.alloc hz _).alloc (by rw [sz1]; omega) _).alloc (by rw [sz1, sz1]; omega) _, lR, by omega, by omega, ?_, ?_, ⟨rfl, .inr ⟨w2.heap.size, 0, #[], rfl, hz, ?_, Nat.le_refl _, by unfold maxLen; omega, rfl, rfl⟩⟩, ⟨rfl, .inr ⟨w2.heap.size + 1, 0, #[], rfl, by omega, ?_, Nat.le_refl _, by unfold maxLen; omega, rfl, rfl⟩⟩⟩
  · rw [at_old _ _ _ (by rw [sz1, sz1]; omega), at_old _ _ _ (by rw [sz1]; omega), at_old _ _ _ hlt]; exact hR
  · rw [at_new _ _ _ (by rw [sz1, sz1])]
  · rw [at_old _ _ _ (by rw [sz1, sz1]; omega), at_old _ _ _ (by rw [sz1]; omega), at_new _ _ _ rfl]
  · rw [at_old _ _ _ (by rw [sz1, sz1]; omega), at_new _ _ _ (by rw [sz1])]

theorem at_i {x : ByteArray} {l : List UInt8} (h : x.data.toList = l) (i : Nat) (hi : i < x.size) (y : UInt8) (hy : l[i]? = some y) : x[i].toNat = y.toNat := by
  have : x[i] = y := by
    show x.data[i] = y
    subst h
    rw [Array.getElem?_toList] at hy
    exact (Array.getElem?_eq_some_iff.1 hy).2
  rw [this]
theorem size_eq {x : ByteArray} {l : List UInt8} (h : x.data.toList = l) : x.size = l.length := by rw [← h, Array.length_toList]; rfl

theorem str_not {w : World} {B : Nat} {v : Value} {n k : Nat} {xs : List Value} {c : Array Value} {t : TypeId} (h : w.ownsRow B 9 1 v n xs) (hk : v.ownBlock = some k) (hp : w.heap[k]? = some (.cells c t (0, 0))) (ht : t ≠ 9) : False := by
  rcases h.2 with ⟨rfl, _⟩ | ⟨g, cap, cur, rfl, _, hg, _⟩
  · cases hk
  · simp only [Value.ownBlock, Option.some.injEq] at hk
    subst hk
    rw [hp] at hg
    injection hg with hg
    injection hg with _ hg _
    exact ht hg
theorem own2_block {w : World} {B : Nat} {t : TypeId} {v : Value} {n k : Nat} {xs : List Value} (h : w.ownsRow B t 2 v n xs) (hk : v.ownBlock = some k) : ∃ c, w.heap[k]? = some (.cells c t (0, 0)) := by
  rcases h.2 with ⟨rfl, _⟩ | ⟨g, cap, cur, rfl, _, hg, _⟩
  · cases hk
  · simp only [Value.ownBlock, Option.some.injEq] at hk
    subst hk
    exact ⟨cur, hg⟩
/-- The words stay where the package's box is written. -/
theorem words_box {w w1 : World} {v : Value} {n Pb : Nat} {xs : List Value} {c : Array Value} (h : w.ownsRow 0 9 1 v n xs) (hP : w.heap[Pb]? = some (.cells c 42 (0, 0))) (far : ∀ k, k ≠ Pb → w1.heap[k]? = w.heap[k]?) : w1.ownsRow 0 9 1 v n xs :=
  own1_keep h (fun k hk => far k (fun e => by subst e; exact str_not h hk hP (by decide)))
/-- .. and where one of its rows grows and its box is written. -/
theorem words_app {w w1 : World} {v u x : Value} {n m Pb o B : Nat} {t : TypeId} {xs ys : List Value} {c : Array Value} (h : w.ownsRow 0 9 1 v n xs) (hP : w.heap[Pb]? = some (.cells c 42 (0, 0))) (hr : w.ownsRow B t 2 u m ys) (ht : t ≠ 9) (hg : w.grownBy w1 u.ownBlock) : (w1.setCell ⟨Pb, o, none⟩ x).ownsRow 0 9 1 v n xs :=
  own1_keep h (fun k hk => by
    rw [Below.heap_setCell _ _ _ _ (fun e => by subst e; exact str_not h hk hP (by decide))]
    exact hg.block k (h.lt k hk).2 (fun e => by obtain ⟨c', hc'⟩ := own2_block hr e.symm; exact str_not h hk hc' ht))

set_option maxHeartbeats 8000000 in
set_option maxRecDepth 100000 in
theorem specRead_any (s : ByteArray) (w : World) : Calls Tryz.prog 133 #[.string s] w (Answer s w) := by
  have hlen : s.data.toList.length = s.size := Array.length_toList
  have hB0 : Below w.heap.size w (w.alloc (.cells #[.int .i64 0, .int .i64 0, .slice none 0 0, .slice none 0 0] 42)) := (Below.refl _ _).alloc (Nat.le_refl _) _
  by_cases hs : s.size ≤ 30
  case neg =>
    have hlt : (30 : Int) < (s.size : Int) := by omega
    have HB := hide hB0
    have HN : Hid (∀ nm vr fs ds, Pk.pkgOk nm vr fs ds = true → Pk.text nm vr fs ds ≠ s.data.toList) := fun nm vr fs ds ho e => by
      have := Pk.text_le30 ho
      rw [e] at this
      omega
    clear hlen hs hB0
    go_enter Tryz.func133, Tryz.ntmps133
    go_wp2
    exact bodyPost_ret (v := .tuple #[.agg #[.int .i64 0, .int .i64 0, .slice none 0 0, .slice none 0 0], .bool false]) (by simp [results, Tryz.results133, go_sem]) rfl ⟨.inr ⟨rfl, unhide HN⟩, unhide HB⟩
  case pos =>
    obtain ⟨i0, hi0, hz0, hz1, hz2⟩ := info_parts infoFile
    obtain ⟨i1, hj0, hy0, hy1, hy2⟩ := info_parts infoDep
    have HB0 := hide hB0
    have HZ := hide (sz1 w (.cells #[.int .i64 0, .int .i64 0, .slice none 0 0, .slice none 0 0] 42))
    have HXH := hide (heap_alloc_new w (.cells #[.int .i64 0, .int .i64 0, .slice none 0 0, .slice none 0 0] 42))
    have hs' : ¬ (30 : Int) < (s.size : Int) := by omega
    obtain ⟨n, hn⟩ : ∃ n, n = (Pk.split1 32 s.data.toList).length := ⟨_, rfl⟩
    have hn31 : n ≤ 31 := by have := (Pk.split1_len 32 s.data.toList).1; omega
    have hn1 : 0 < n := by rw [hn]; exact List.length_pos_iff.2 (Pk.split1_ne 32 _)
    have HN := hide hn
    clear hlen hB0 hn
    go_enter Tryz.func133, Tryz.ntmps133
    go_wp2_with fail
    refine (cut1_any s _ hs).mono ?_
    generalize w.alloc _ = W0 at *
    rintro e w2 ⟨v, rfl, ho, hb2⟩
    rw [← unhide HN] at ho
    obtain ⟨g, cap, rfl, hg1, hg2⟩ := ho.form hn1
    have hR2 : w2.heap[w.heap.size]? = _ := (hb2.block _ (by have := unhide HZ; omega)).trans (unhide HXH)
    have hbw2 : Below w.heap.size w w2 := (unhide HB0).trans (hb2.mono (by have := unhide HZ; omega))
    have HST := hide (Sp.startS w w2 w.heap.size hbw2 hR2 (Nat.le_refl _))
    have HO := hide (own1_base (ho.alloc (.cells #[] 132) |>.alloc (.cells #[] 134) |>.alloc (.cells #[.int .i64 0, .int .i64 0, .slice (some ⟨w2.heap.size, 0, none⟩) 0 0, .slice (some ⟨w2.heap.size + 1, 0, none⟩) 0 0] 42)) (Nat.zero_le _))
    have hlt2 : w.heap.size < w2.heap.size := heap_lt hR2
    clear ho hb2 hR2 hbw2 HB0 HZ HXH hg1
    clear W0
    go_wp2_with fail
    generalize hPb : w2.heap.size + 1 + 1 = Pb at *
    generalize World.alloc _ _ = w3 at *
    clear hPb hg2 hlt2
    go_loopw [6] (fun i w' => ∃ (k : Nat) (nm vr : Int) (fv dv : Value) (fs ds : List (Int × Int)), k ≤ n ∧ i = .int .i64 k ∧ Pk.foldW (Pk.specTo (Pk.split1 32 s.data.toList) k) = (nm, vr, fs, ds) ∧ Sp w w.heap.size Pb w' nm vr fv dv fs ds ∧ w'.ownsRow 0 9 1 (.slice (some ⟨g, 0, none⟩) n cap) n ((Pk.split1 32 s.data.toList).map strOf)) (fun i _ => n - (intOf i).toNat)
    case atStart => exact ⟨0, 0, 0, _, _, [], [], Nat.zero_le _, rfl, rfl, unhide HST, unhide HO⟩
    case round =>
      clear HST HO
      obtain ⟨k, nm, vr, fv, dv, fs, ds, hk, rfl, hfold, hs3, ho⟩ := hrel
      obtain ⟨⟨c0, c1, c2, c3⟩, ⟨f0, f1, f2, f3⟩⟩ := hs3.cells
      have hfl := Pk.fold_len (Pk.specTo (Pk.split1 32 s.data.toList) k)
      have hsl := Pk.specTo_len (Pk.split1 32 s.data.toList) k
      rw [hfold] at hfl
      have hlen1 : fs.length ≤ 31 := by have := hfl.1; dsimp only at this; omega
      have hlen2 : ds.length ≤ 31 := by have := hfl.2; dsimp only at this; omega
      have HF := hide hfold
      have HS := hide hs3
      have HO := hide ho
      have hne2 := hs3.row2
      have hne3 := hs3.row3
      have hPlt := heap_lt hs3.hP
      have hzw := hs3.bl.size
      by_cases hlt : k < n
      · have hlt' : k < (Pk.split1 32 s.data.toList).length := by have := unhide HN; omega
        obtain ⟨x, hx⟩ : ∃ x : ByteArray, (⟨((Pk.split1 32 s.data.toList).getD k []).toArray⟩ : ByteArray) = x := ⟨_, rfl⟩
        have hxl : x.data.toList = (Pk.split1 32 s.data.toList).getD k [] := by rw [← hx]
        have hc : wr.cell? ⟨g, k, none⟩ = some (.string x) := by
          rw [ho.cellAt _ (by omega), List.getElem?_map, List.getElem?_eq_getElem hlt', ← hx]
          simp [strOf, List.getD_eq_getElem?_getD, hlt']
        have hxs : x.size ≤ 30 := by
          have h1 := split_size s.data.toList k 30 (by rw [Array.length_toList]; exact hs)
          rw [hx] at h1
          exact h1
        clear hs3 ho hfold hfl hsl hx
        have hi0' : (0 : Int) ≤ (k : Int) := Int.natCast_nonneg _
        have hi1 : (k : Int) < (n : Int) := by omega
        have HSOME := fun y => hide (Pk.specTo_some (ws := Pk.split1 32 s.data.toList) (k := k) (x := y))
        have HNONE := hide (Pk.specTo_none (ws := Pk.split1 32 s.data.toList) (k := k))
        rw [← hxl] at HSOME HNONE
        by_cases h2 : x.size = 2
        · obtain ⟨a, b, hab⟩ : ∃ a b, x.data.toList = [a, b] := by
            have h1 := size_eq (x := x) rfl
            rw [h2] at h1
            match hx' : x.data.toList, h1 with
            | [a, b], _ => exact ⟨a, b, rfl⟩
          have HA := hide (at_i hab 0 (by omega) a rfl)
          have HBB := hide (at_i hab 1 (by omega) b rfl)
          have hsz : (x.size : Int) = 2 := by omega
          have hx0 : 0 < x.size := by omega
          have hx1 : 1 < x.size := by omega
          have ha : ((x[0].toNat : Nat) : Int) < 256 := by have := x[0].toNat_lt; omega
          have hb : ((x[1].toNat : Nat) : Int) < 256 := by have := x[1].toNat_lt; omega
          have ha0 : (0 : Int) ≤ ((x[0].toNat : Nat) : Int) := Int.natCast_nonneg _
          have hb0 : (0 : Int) ≤ ((x[1].toNat : Nat) : Int) := Int.natCast_nonneg _
          rcases Nat.eq_zero_or_pos k with rfl | hpos
          · have HT : Hid (Pk.foldW (Pk.specTo (Pk.split1 32 s.data.toList) (0 + 1)) = ((x[0].toNat : Int) - 97 + 1, (x[1].toNat : Int) - 48, fs, ds)) := by
              show _ = _
              rw [unhide (HSOME (0, (x[0].toNat : Int) - 97 + 1, (x[1].toNat : Int) - 48)) (by rw [hab, unhide HA, unhide HBB]; rfl), Pk.fold_snoc, unhide HF]
              rfl
            clear HSOME HNONE hab hxl c2 c3 f2 f3
            go_wp2_with fail
            go_roundw
            case rel => exact ⟨1, _, _, fv, dv, fs, ds, by omega, rfl, unhide HT, (unhide HS).head _ _ rfl, words_box (unhide HO) (unhide HS).hP (fun k hk => by rw [Below.heap_setCell _ _ _ _ hk, Below.heap_setCell _ _ _ _ hk])⟩
            case measure => simp [intOf]; omega
          · have HT : Hid (Pk.foldW (Pk.specTo (Pk.split1 32 s.data.toList) (k + 1)) = (nm, vr, fs, ds ++ [((x[0].toNat : Int) - 97 + 1, (x[1].toNat : Int) - 48)])) := by
              show _ = _
              rw [unhide (HSOME (2, (x[0].toNat : Int) - 97 + 1, (x[1].toNat : Int) - 48)) (by rw [hab, unhide HA, unhide HBB, show decide (k = 0) = false from decide_eq_false (by omega)]; rfl), Pk.fold_snoc, unhide HF]
              rfl
            have hk0 : ((k : Int) == 0) = false := by rw [beq_eq_false_iff_ne]; omega
            have hkp : (0 : Int) < (k : Int) := by omega
            have e0 : IntKind.i64.wrap ((x[0].toNat : Nat) : Int) = ((x[0].toNat : Nat) : Int) := by simp [IntKind.wrap, IntKind.bits, IntKind.signed]; omega
            have e1 : IntKind.i64.wrap ((x[1].toNat : Nat) : Int) = ((x[1].toNat : Nat) : Int) := by simp [IntKind.wrap, IntKind.bits, IntKind.signed]; omega
            have e2 : IntKind.i64.wrap (((x[0].toNat : Nat) : Int) - 97) = ((x[0].toNat : Nat) : Int) - 97 := by simp [IntKind.wrap, IntKind.bits, IntKind.signed]; omega
            have e3 : IntKind.i64.wrap (((x[0].toNat : Nat) : Int) - 97 + 1) = ((x[0].toNat : Nat) : Int) - 97 + 1 := by simp [IntKind.wrap, IntKind.bits, IntKind.signed]; omega
            have e4 : IntKind.i64.wrap (((x[1].toNat : Nat) : Int) - 48) = ((x[1].toNat : Nat) : Int) - 48 := by simp [IntKind.wrap, IntKind.bits, IntKind.signed]; omega
            clear HSOME HNONE hxl c0 c1 c2 f0 f1 f2
            go_wp2_with fail
            go_region_law (refine step_append_lies _ (by rfl) _ _ _ (by rfl) w.heap.size 134 i1 _ 2 16 Tryz.underlying40 hj0 hy0 hy1 hy2 rfl (by omega) dv ds.length (flat ds) (by rfl) (by exact (((unhide HS).alloc _).drew).hd) ⟨wr.heap.size, 0, none⟩ 1 1 [.int .i64 ((x[0].toNat : Int) - 97 + 1), .int .i64 ((x[1].toNat : Int) - 48)] (by rfl) (by rfl) (World.news_of_block (cs := #[.int .i64 ((x[0].toNat : Int) - 97 + 1), .int .i64 ((x[1].toNat : Int) - 48)]) (t := 134) (fr := (0, 0)) (heap_alloc_new wr _)) (by simp [Value.oneCell']) (by omega) (by unfold maxLen; omega) (by omega) (by exact Nat.le_trans hzw (by exact Nat.le_trans (Nat.le_succ _) (Nat.le_of_eq (sz1 wr _).symm))) (wr.heap.size + 1) (by exact sz1 wr _) ?_; intro gg cap' w6 hown1 hgrow hat hlt4; have c4 := (hgrow.cell_far ⟨Pb, 3, none⟩ (heap_lt (((unhide HS).alloc _).drew).hP) (Ne.symm hne3)).trans (((unhide HS).alloc _).drew).cells.1.2.2.2; have f4 := (hgrow.frozen_far ⟨Pb, 3, none⟩ (heap_lt (((unhide HS).alloc _).drew).hP) (Ne.symm hne3)).trans (((unhide HS).alloc _).drew).cells.2.2.2.2)
            all_goals
              have HS2 := hide (Sp.app3 (((unhide HS).alloc _).drew) hgrow hown1)
              have HO2 := hide (words_app (((unhide HO).alloc _).drew) (((unhide HS).alloc _).drew).hP (((unhide HS).alloc _).drew).hd (by decide) hgrow (o := 3) (x := .slice (some ⟨gg, 0, none⟩) (ds.length + 1) cap'))
              generalize World.setCell _ _ _ = w7 at *
              clear hgrow hown1 c4 f4 hat hlt4
              go_wp2
              go_roundw
              case rel => exact ⟨k + 1, nm, vr, fv, _, fs, _, by omega, by go_num, unhide HT, unhide HS2, unhide HO2⟩
              case measure => simp [intOf]; omega
        · by_cases h3 : x.size = 3 ∧ 0 < k
          · obtain ⟨h3, hpos⟩ := h3
            obtain ⟨a, m, b, hab⟩ : ∃ a m b, x.data.toList = [a, m, b] := by
              have h1 := size_eq (x := x) rfl
              rw [h3] at h1
              match hx' : x.data.toList, h1 with
              | [a, m, b], _ => exact ⟨a, m, b, rfl⟩
            have HA := hide (at_i hab 0 (by omega) a rfl)
            have HBB := hide (at_i hab 2 (by omega) b rfl)
            have hsz : (x.size : Int) = 3 := by omega
            have hx0 : 0 < x.size := by omega
            have hx1 : 2 < x.size := by omega
            have ha : ((x[0].toNat : Nat) : Int) < 256 := by have := x[0].toNat_lt; omega
            have hb : ((x[2].toNat : Nat) : Int) < 256 := by have := x[2].toNat_lt; omega
            have ha0 : (0 : Int) ≤ ((x[0].toNat : Nat) : Int) := Int.natCast_nonneg _
            have hb0 : (0 : Int) ≤ ((x[2].toNat : Nat) : Int) := Int.natCast_nonneg _
            have HT : Hid (Pk.foldW (Pk.specTo (Pk.split1 32 s.data.toList) (k + 1)) = (nm, vr, fs ++ [((x[0].toNat : Int) - 48, (x[2].toNat : Int) - 48)], ds)) := by
              show _ = _
              rw [unhide (HSOME (1, (x[0].toNat : Int) - 48, (x[2].toNat : Int) - 48)) (by rw [hab, unhide HA, unhide HBB, show decide (k = 0) = false from decide_eq_false (by omega)]; rfl), Pk.fold_snoc, unhide HF]
              rfl
            have hk0 : ((k : Int) == 0) = false := by rw [beq_eq_false_iff_ne]; omega
            have hkp : (0 : Int) < (k : Int) := by omega
            have e0 : IntKind.i64.wrap ((x[0].toNat : Nat) : Int) = ((x[0].toNat : Nat) : Int) := by simp [IntKind.wrap, IntKind.bits, IntKind.signed]; omega
            have e1 : IntKind.i64.wrap ((x[2].toNat : Nat) : Int) = ((x[2].toNat : Nat) : Int) := by simp [IntKind.wrap, IntKind.bits, IntKind.signed]; omega
            have e2 : IntKind.i64.wrap (((x[0].toNat : Nat) : Int) - 48) = ((x[0].toNat : Nat) : Int) - 48 := by simp [IntKind.wrap, IntKind.bits, IntKind.signed]; omega
            have e4 : IntKind.i64.wrap (((x[2].toNat : Nat) : Int) - 48) = ((x[2].toNat : Nat) : Int) - 48 := by simp [IntKind.wrap, IntKind.bits, IntKind.signed]; omega
            clear HSOME HNONE hxl c0 c1 c3 f0 f1 f3
            go_wp2_with fail
            go_region_law (refine step_append_lies _ (by rfl) _ _ _ (by rfl) w.heap.size 132 i0 _ 2 16 Tryz.underlying39 hi0 hz0 hz1 hz2 rfl (by omega) fv fs.length (flat fs) (by rfl) (by exact (((unhide HS).alloc _).drew).hf) ⟨wr.heap.size, 0, none⟩ 1 1 [.int .i64 ((x[0].toNat : Int) - 48), .int .i64 ((x[2].toNat : Int) - 48)] (by rfl) (by rfl) (World.news_of_block (cs := #[.int .i64 ((x[0].toNat : Int) - 48), .int .i64 ((x[2].toNat : Int) - 48)]) (t := 132) (fr := (0, 0)) (heap_alloc_new wr _)) (by simp [Value.oneCell']) (by omega) (by unfold maxLen; omega) (by omega) (by exact Nat.le_trans hzw (by exact Nat.le_trans (Nat.le_succ _) (Nat.le_of_eq (sz1 wr _).symm))) (wr.heap.size + 1) (by exact sz1 wr _) ?_; intro gg cap' w6 hown1 hgrow hat hlt4; have c4 := (hgrow.cell_far ⟨Pb, 2, none⟩ (heap_lt (((unhide HS).alloc _).drew).hP) (Ne.symm hne2)).trans (((unhide HS).alloc _).drew).cells.1.2.2.1; have f4 := (hgrow.frozen_far ⟨Pb, 2, none⟩ (heap_lt (((unhide HS).alloc _).drew).hP) (Ne.symm hne2)).trans (((unhide HS).alloc _).drew).cells.2.2.2.1)
            all_goals
              have HS2 := hide (Sp.app2 (((unhide HS).alloc _).drew) hgrow hown1)
              have HO2 := hide (words_app (((unhide HO).alloc _).drew) (((unhide HS).alloc _).drew).hP (((unhide HS).alloc _).drew).hf (by decide) hgrow (o := 2) (x := .slice (some ⟨gg, 0, none⟩) (fs.length + 1) cap'))
              generalize World.setCell _ _ _ = w7 at *
              clear hgrow hown1 c4 f4 hat hlt4
              go_wp2
              go_roundw
              case rel => exact ⟨k + 1, nm, vr, _, dv, _, ds, by omega, by go_num, unhide HT, unhide HS2, unhide HO2⟩
              case measure => simp [intOf]; omega
          · have HT : Hid (Pk.foldW (Pk.specTo (Pk.split1 32 s.data.toList) (k + 1)) = (nm, vr, fs, ds)) := by
              show _ = _
              rw [unhide HNONE (by
                have h1 := size_eq (x := x) rfl
                match hx' : x.data.toList, h1 with
                | [], _ => rfl
                | [_], _ => rfl
                | [_, _], h1 => exact absurd h1 h2
                | [_, _, _], h1 =>
                  have hk0 : k = 0 := by
                    rcases Nat.eq_zero_or_pos k with h | h
                    · exact h
                    · exact absurd ⟨h1, h⟩ h3
                  rw [hk0]
                  rfl
                | _ :: _ :: _ :: _ :: _, _ => rfl), unhide HF]
            have hb2 : ((x.size : Int) == 2) = false := by rw [beq_eq_false_iff_ne]; omega
            clear HSOME HNONE hxl c0 c1 c2 c3 f0 f1 f2 f3
            rcases Nat.eq_zero_or_pos k with rfl | hpos
            · clear h3 h2
              go_wp2
              go_roundw
              case rel => exact ⟨1, nm, vr, fv, dv, fs, ds, by omega, rfl, unhide HT, unhide HS, unhide HO⟩
              case measure => simp [intOf]; omega
            · have hb3 : ((x.size : Int) == 3) = false := by rw [beq_eq_false_iff_ne]; omega
              have hk0 : ((k : Int) == 0) = false := by rw [beq_eq_false_iff_ne]; omega
              have hkp : (0 : Int) < (k : Int) := by omega
              clear h3 h2
              go_wp2
              go_roundw
              case rel => exact ⟨k + 1, nm, vr, fv, dv, fs, ds, by omega, by go_num, unhide HT, unhide HS, unhide HO⟩
              case measure => simp [intOf]; omega
      · obtain rfl : k = n := by omega
        rw [unhide HN] at HF
        have HONLY : Hid (∀ nm' vr' fs' ds', Pk.pkgOk nm' vr' fs' ds' = true → Pk.text nm' vr' fs' ds' = s.data.toList → (nm, vr, fs, ds) = (nm', vr', fs', ds')) := fun nm' vr' fs' ds' ho e => (unhide HF).symm.trans (Pk.spec_only ho e)
        clear hlt hfold hfl hsl ho HO
        obtain ⟨fa, fc, rfl⟩ := own_form hs3.hf
        obtain ⟨da, dc, rfl⟩ := own_form hs3.hd
        have P1 : Hid (Prs wr (.slice fa fs.length fc) fs) := Prs.own hs3.hf (by omega)
        have P2 : Hid (Prs wr (.slice da ds.length dc) ds) := Prs.own hs3.hd (by omega)
        clear hs3 f0 f1 f2 f3
        go_wp2_with fail
        refine (pkgText_any _ nm vr _ _ fs ds (unhide P1) (unhide P2)).mono ?_
        rintro e w6 ⟨rfl, hb6⟩
        have HS6 := hide ((unhide HS).later hb6)
        clear hb6 c0 c1 c2 c3 P1 P2 HS
        obtain ⟨⟨c0, c1, c2, c3⟩, _⟩ := (unhide HS6).cells
        obtain ⟨⟨r0, r1, r2, r3⟩, ⟨q0, q1, q2, q3⟩⟩ := (unhide HS6).cellsR
        have hRlt := heap_lt (unhide HS6).hR
        obtain ⟨T, hT⟩ : ∃ T, (⟨(Pk.text nm vr fs ds).toArray⟩ : ByteArray) = T := ⟨_, rfl⟩
        have HT : Hid (Pk.text nm vr fs ds = T.data.toList) := by show _ = _; rw [← hT]
        rw [hT]
        clear hT
        by_cases hE : T = s
        · have hnb : (T == s) = true := by rw [hE, beq_toListBytes]; exact beq_self_eq_true _
          have hnc : (T.toList == s.toList) = true := by rw [hE]; exact beq_self_eq_true _
          have HE := hide hE
          clear hE
          cases hse : s.toList.isEmpty
          case true =>
            have HNO : Hid (∀ nm vr fs ds, Pk.pkgOk nm vr fs ds = true → Pk.text nm vr fs ds ≠ s.data.toList) := fun nm' vr' fs' ds' ho e => by
              rw [ByteArray.toList_eq, List.isEmpty_iff] at hse
              rw [hse] at e
              have := Pk.text_nil.1 e
              rw [ho] at this
              cases this
            go_wp2_with fail
            have HFIN := hide (box_fin (unhide HS6).hR rfl (a' := .int .i64 0) (b' := .int .i64 0) (c' := .slice none 0 0) (d' := .slice none 0 0))
            generalize World.setCell _ _ _ = w7 at *
            obtain ⟨⟨z0, z1, z2, z3⟩, hfar, hb⟩ := unhide HFIN
            have HB : Hid (Below w.heap.size w w7) := (unhide HS6).bl.trans hb
            clear hb hfar HFIN
            exact bodyPost_ret (v := .tuple #[.agg #[.int .i64 0, .int .i64 0, .slice none 0 0, .slice none 0 0], .bool false]) (by simp [results, Tryz.results133, go_sem, z0, z1, z2, z3]) rfl ⟨.inr ⟨rfl, unhide HNO⟩, unhide HB⟩
          have HOK : Hid (Pk.pkgOk nm vr fs ds = true) := by
            show _ = _
            cases ho : Pk.pkgOk nm vr fs ds
            · have h1 := Pk.text_nil.2 ho
              rw [unhide HT, unhide HE, ← ByteArray.toList_eq, ← List.isEmpty_iff, hse] at h1
              cases h1
            · rfl
          go_wp2_with fail
          have HFIN := hide ((unhide HS6).fin rfl)
          generalize World.setCell _ _ _ = w7 at *
          obtain ⟨⟨z0, z1, z2, z3⟩, hf, hd, hb⟩ := unhide HFIN
          have HB := hide hb
          have HFF := hide hf
          have HDD := hide hd
          clear hb hf hd HFIN
          exact bodyPost_ret (v := .tuple #[.agg #[.int .i64 nm, .int .i64 vr, .slice fa fs.length fc, .slice da ds.length dc], .bool true]) (by simp [results, Tryz.results133, go_sem, z0, z1, z2, z3]) rfl ⟨.inl ⟨nm, vr, fs, ds, _, _, rfl, unhide HOK, by rw [unhide HT, unhide HE], unhide HFF, unhide HDD⟩, unhide HB⟩
        · have hnb : (T == s) = false := by rw [beq_toListBytes, ByteArray.toList_eq, ByteArray.toList_eq]; exact beq_eq_false_iff_ne.2 (fun e => hE (ByteArray.ext (Array.ext' e)))
          have hnc : (T.toList == s.toList) = false := by rw [← beq_toListBytes]; exact hnb
          have HNO : Hid (∀ nm vr fs ds, Pk.pkgOk nm vr fs ds = true → Pk.text nm vr fs ds ≠ s.data.toList) := fun nm' vr' fs' ds' ho e => by
            have := (unhide HONLY) nm' vr' fs' ds' ho e
            injection this with e1 e2
            injection e2 with e2 e3
            injection e3 with e3 e4
            subst e1 e2 e3 e4
            rw [unhide HT] at e
            exact hE (ByteArray.ext (Array.ext' e))
          clear hE HONLY
          go_wp2_with fail
          have HFIN := hide (box_fin (unhide HS6).hR rfl (a' := .int .i64 0) (b' := .int .i64 0) (c' := .slice none 0 0) (d' := .slice none 0 0))
          generalize World.setCell _ _ _ = w7 at *
          obtain ⟨⟨z0, z1, z2, z3⟩, hfar, hb⟩ := unhide HFIN
          have HB : Hid (Below w.heap.size w w7) := (unhide HS6).bl.trans hb
          clear hb hfar HFIN
          exact bodyPost_ret (v := .tuple #[.agg #[.int .i64 0, .int .i64 0, .slice none 0 0, .slice none 0 0], .bool false]) (by simp [results, Tryz.results133, go_sem, z0, z1, z2, z3]) rfl ⟨.inr ⟨rfl, unhide HNO⟩, unhide HB⟩
end Go.Proofs.YtlnieobmhofkdaaGreatDoor
