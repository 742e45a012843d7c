import Derived.Test.YtnoghnkhfgiloaaDoorL3DecW
import Derived.Test.YtnoghnkhfgiloaaDoorMixE
import Derived.Test.YtnoghnkhfgiloaaDoorImplIReadW
import Derived.Test.YtnoghnkhfgiloaaDoorIndexTextW
import Derived.Deep.RegionLaw
/- What spec.IndexRead returns: the index that is ok and has this text, its row the call's own, and yes; or nothing, and no, where there is none; for every text; nothing old is written. -/
namespace Go.Proofs.YtnoghnkhfgiloaaDoor
open Go.RowKit

attribute [local go_sem ↓] Go.wp_at_zero Go.wp_at_succ

section
variable {W w : World} {X R : Nat} {num til a : Int} {mv : Value} {ms : List Ix.M}
theorem Xs.set0 (h : Xs W w X R num til mv ms) : Xs W (w.setCell ⟨X, 0, none⟩ (.int .i64 a)) X R a til mv ms :=
  ⟨by rw [heapSet h.hX]; rfl, by rw [Below.heap_setCell _ _ _ _ h.ne]; exact h.hR, h.lX, h.lR, h.ne, own_set h.own h.hX (by decide), below_set h.bel h.lX⟩
theorem Xs.set1 (h : Xs W w X R num til mv ms) : Xs W (w.setCell ⟨X, 1, none⟩ (.int .i64 a)) X R num a mv ms :=
  ⟨by rw [heapSet h.hX]; rfl, by rw [Below.heap_setCell _ _ _ _ h.ne]; exact h.hR, h.lX, h.lR, h.ne, own_set h.own h.hX (by decide), below_set h.bel h.lX⟩
end
/-- Texts in a row stay where the box of an index is written, and where its row grows. -/
theorem txt_set {w : World} {B n : Nat} {v : Value} {xs : List Value} {X o : Nat} {u : Value} {c : Array Value} (h : w.ownsRow B 9 1 v n xs) (hX : w.heap[X]? = some (.cells c 25 (0, 0))) : (w.setCell ⟨X, o, none⟩ u).ownsRow B 9 1 v n xs := own_set h hX (by decide)
theorem txt_grown {w w2 : World} {B B2 n m : Nat} {v u : Value} {xs ys : List Value} (h : w.ownsRow B 9 1 v n xs) (ho : w.ownsRow B2 45 3 u m ys) (hg : w.grownBy w2 u.ownBlock) : w2.ownsRow B 9 1 v n xs :=
  own_keepS h (fun g cur _ _ hgg => grown_other ho hg hgg (by decide))
theorem split_at {c : UInt8} {l : List UInt8} {n i : Nat} (hl : l.length ≤ n) : ((Pk.split1 c l).getD i []).length ≤ n := by
  rcases Nat.lt_or_ge i (Pk.split1 c l).length with h | h
  · rw [List.getD_eq_getElem?_getD, List.getElem?_eq_getElem h]
    exact Nat.le_trans ((Pk.split1_len c l).2 _ (List.getElem_mem h)) hl
  · rw [List.getD_eq_getElem?_getD, List.getElem?_eq_none h]
    exact Nat.zero_le _

set_option maxHeartbeats 8000000 in
set_option maxRecDepth 100000 in
theorem specIRead_any (s : ByteArray) (w : World) : Calls Tryd.prog 15 #[.string s] w (RxAns s w) := by
  obtain ⟨i0, hI0, hz0, hz1, hz2⟩ := info_parts infoMeta
  have hlen : s.data.toList.length = s.size := Array.length_toList
  have BW := hide (below1 w (.cells #[.int .i64 0, .int .i64 0, .slice none 0 0] 25))
  have HR := hide (heap_alloc_new w (.cells #[.int .i64 0, .int .i64 0, .slice none 0 0] 25))
  by_cases hs : s.size ≤ 120
  case neg =>
    have hlt : (120 : Int) < (s.size : Int) := by omega
    have HN := hide (Ix.rx_long (s := s.data.toList) (by omega))
    clear hlen hs
    go_enter Tryd.func15, Tryd.ntmps15
    go_wp2_with fail
    exact bodyPost_ret (v := .tuple #[.agg #[.int .i64 0, .int .i64 0, .slice none 0 0], .bool false]) (by simp [results, Tryd.results15, go_sem]) rfl (RxAns.no (unhide HN) (unhide BW))
  case pos =>
    have hs' : ¬ (120 : Int) < (s.size : Int) := by omega
    obtain ⟨ls, hls⟩ : ∃ ls, ls = Pk.split1 10 s.data.toList := ⟨_, rfl⟩
    obtain ⟨n, hn⟩ : ∃ n, n = ls.length := ⟨_, rfl⟩
    have hn1 : 0 < n := by rw [hn, hls]; exact List.length_pos_iff.2 (Pk.split1_ne 10 _)
    have hn121 : n ≤ 121 := by rw [hn, hls]; have := (Pk.split1_len 10 s.data.toList).1; omega
    have hlb : ∀ i, (ls.getD i []).length ≤ 120 := fun i => by rw [hls]; exact split_at (by omega)
    have HLS := hide hls
    have HN := hide hn
    clear hlen hls
    go_enter Tryd.func15, Tryd.ntmps15
    go_wp2_with fail
    refine (cutC_any s 10 _ (by omega)).mono ?_
    generalize w.alloc _ = W0 at *
    rintro e w2 ⟨v, rfl, ho, b2⟩
    rw [← unhide HLS, ← unhide HN] at ho
    obtain ⟨g, cap, rfl, hg1, hg2⟩ := ho.form hn1
    replace HR := hide ((b2.block _ (heapLt (unhide HR))).trans (unhide HR))
    replace BW := hide ((unhide BW).trans (b2.mono (unhide BW).size))
    have HO := hide (own_baseI ho (Nat.zero_le _))
    have hww2 := (unhide BW).size
    have hltR := heapLt (unhide HR)
    clear b2 ho hn hg1 hg2
    go_wp2_with fail
    have be := below1 w2 (.cells #[] 45)
    have bx := below1 (w2.alloc (.cells #[] 45)) (.cells #[.int .i64 0, .int .i64 0, .slice (some ⟨w2.heap.size, 0, none⟩) 0 0] 25)
    have b4 := be.trans (bx.mono be.size)
    have HXS : Hid (Xs w ((w2.alloc (.cells #[] 45)).alloc (.cells #[.int .i64 0, .int .i64 0, .slice (some ⟨w2.heap.size, 0, none⟩) 0 0] 25)) (w2.heap.size + 1) w.heap.size 0 0 (.slice (some ⟨w2.heap.size, 0, none⟩) 0 0) []) := by
      refine ⟨?_, (b4.block _ hltR).trans (unhide HR), by omega, Nat.le_refl _, by omega, ⟨rfl, .inr ⟨w2.heap.size, 0, #[], rfl, hww2, ?_, by exact Nat.le_refl _, by unfold maxLen; omega, rfl, rfl⟩⟩, (unhide BW).trans (b4.mono hww2)⟩
      · rw [at_new _ _ _ (by rw [sz1])]
      · rw [at_old _ _ _ (by rw [sz1]; omega), at_new _ _ _ rfl]
    replace HO := hide (own_later (unhide HO) b4)
    clear be bx b4 HR BW
    generalize hXe : w2.heap.size + 1 = X at *
    have hX' : X ≠ w.heap.size := by omega
    generalize World.alloc _ _ = w3 at *
    clear hww2 hltR hXe
    go_loopw [6] (fun i w' => ∃ (k : Nat) (acc : List Ix.M) (mv : Value), k + 1 ≤ n ∧ i = .int .i64 k ∧ Ix.sTo ls k = some acc ∧ Xs w w' X w.heap.size (Ix.sIdx acc).1 (Ix.sIdx acc).2.1 mv (Ix.sIdx acc).2.2 ∧ w'.ownsRow 0 9 1 (.slice (some ⟨g, 0, none⟩) n cap) n (ls.map strOf)) (fun i _ => n - (intOf i).toNat)
    case atStart => exact ⟨0, [], _, hn1, rfl, rfl, unhide HXS, unhide HO⟩
    case round =>
      clear HXS HO
      obtain ⟨k, acc, mv, hk, rfl, hto, hx, ho⟩ := hrel
      have hal := Ix.sTo_len hto
      have HT := hide hto
      have HX := hide hx
      have HO := hide ho
      have ew : IntKind.i64.wrap ((k : Int) + 1) = (k : Int) + 1 := by simp [IntKind.wrap, IntKind.bits, IntKind.signed]; omega
      clear hto hx
      by_cases hlt : k + 1 < n
      · have hlt' : k < ls.length := by have := unhide HN; omega
        obtain ⟨x, hx⟩ : ∃ x : ByteArray, (⟨(ls.getD k []).toArray⟩ : ByteArray) = x := ⟨_, rfl⟩
        have hxl : x.data.toList = ls.getD k [] := by rw [← hx]
        have hxs : x.size ≤ 120 := by rw [← hx]; exact hlb k
        have hc : wr.cell? ⟨g, k, none⟩ = some (.string x) := by
          rw [ho.cellAt _ (by omega), List.getElem?_map, List.getElem?_eq_getElem hlt', ← hx]
          simp [strOf, List.getD_eq_getElem?_getD, hlt']
        have hi0 : (0 : Int) ≤ (k : Int) := Int.natCast_nonneg _
        have hi1 : (k : Int) < (n : Int) := by omega
        have hi2 : (k : Int) + 1 < (n : Int) := by omega
        have HXL := hide hxl
        clear ho hx hxl
        go_wp2_with fail
        refine (cutC_any x 32 _ (by omega)).mono ?_
        rintro e w4 ⟨v2, rfl, ho2, b4⟩
        replace HX := hide ((unhide HX).later b4)
        replace HO := hide (own_later (unhide HO) b4)
        obtain ⟨ws, hws⟩ : ∃ ws, ws = Pk.split1 32 x.data.toList := ⟨_, rfl⟩
        rw [← hws] at ho2
        have hws1 : 0 < ws.length := by rw [hws]; exact List.length_pos_iff.2 (Pk.split1_ne 32 _)
        have hwb : ∀ y ∈ ws, y.length ≤ 120 := fun y hy => by rw [hws] at hy; have := (Pk.split1_len 32 x.data.toList).2 y hy; rw [Array.length_toList] at this; exact Nat.le_trans this hxs
        have hwl : ws.length ≤ 121 := by rw [hws]; have := (Pk.split1_len 32 x.data.toList).1; rw [Array.length_toList] at this; exact Nat.le_trans this (by show x.size + 1 ≤ _; omega)
        rw [unhide HXL] at hws
        have HWS := hide hws
        obtain ⟨g2, cap2, rfl, _, _⟩ := ho2.form hws1
        replace ho2 := own_baseI ho2 (Nat.zero_le _)
        have HO2 := hide ho2
        clear b4 hc hws
        by_cases h2 : ws.length = 2
        rotate_left
        · have HNO : Hid (Ix.rx s.data.toList = none) := by
            refine Ix.s_none (k := k) (by rw [← unhide HLS, ← unhide HN]; omega) (Ix.sTo_none ?_)
            rw [← unhide HLS]
            unfold Ix.sLine
            rw [← unhide HWS]
            match ws, h2 with
            | [], _ => rfl
            | [_], _ => rfl
            | _ :: _ :: _ :: _, _ => rfl
          have hne : ((ws.length : Int) != 2) = true := by simp; omega
          clear h2 ho2
          obtain ⟨⟨r0, s0⟩, ⟨r1, s1⟩, r2, s2⟩ : (_ ∧ _) ∧ (_ ∧ _) ∧ _ ∧ _ := ⟨⟨cellOf (unhide HX).hR 0, frozenOf (unhide HX).hR 0⟩, ⟨cellOf (unhide HX).hR 1, frozenOf (unhide HX).hR 1⟩, cellOf (unhide HX).hR 2, frozenOf (unhide HX).hR 2⟩
          go_wp2_with fail
          obtain ⟨⟨q0, q1, q2⟩, hbel, _⟩ := fin3 (a := .int .i64 0) (b := .int .i64 0) (c := .slice none 0 0) (unhide HX).hR (unhide HX).lR (unhide HX).bel rfl
          exact bodyPost_ret (v := .tuple #[.agg #[.int .i64 0, .int .i64 0, .slice none 0 0], .bool false]) (by simp [results, Tryd.results15, go_sem, q0, q1, q2]) rfl (RxAns.no (unhide HNO) hbel)
        · obtain ⟨A, B, rfl⟩ : ∃ A B, ws = [A, B] := by
            match ws, h2 with
            | [A, B], _ => exact ⟨A, B, rfl⟩
          obtain ⟨sa, hsa⟩ : ∃ sa : ByteArray, (⟨A.toArray⟩ : ByteArray) = sa := ⟨_, rfl⟩
          obtain ⟨sb, hsb⟩ : ∃ sb : ByteArray, (⟨B.toArray⟩ : ByteArray) = sb := ⟨_, rfl⟩
          have hal2 : sa.data.toList = A := by rw [← hsa]
          have hbl2 : sb.data.toList = B := by rw [← hsb]
          have hsz1 : sa.size ≤ 120 := by rw [← hsa]; exact hwb A (by simp)
          have hsz2 : sb.size ≤ 120 := by rw [← hsb]; exact hwb B (by simp)
          have ca : ∀ w' : World, w'.ownsRow 0 9 1 (.slice (some ⟨g2, 0, none⟩) [A, B].length cap2) [A, B].length ([A, B].map strOf) → w'.cell? ⟨g2, 0, none⟩ = some (.string sa) ∧ w'.cell? ⟨g2, 1, none⟩ = some (.string sb) := fun w' h => by
            constructor
            · have := h.cellAt 0 (by simp)
              rw [this, ← hsa]
              rfl
            · have := h.cellAt 1 (by simp)
              rw [this, ← hsb]
              rfl
          have CA := hide ca
          have HAB := hide (And.intro hal2 hbl2)
          have hne : ((2 : Int) != 2) = false := by simp
          have e2 : [A, B].length = 2 := rfl
          rw [e2] at CA HO2
          clear h2 ho2 hsa hsb ca hwb hwl hws1 hal2 hbl2 e2
          obtain ⟨c0, c1⟩ := unhide CA _ (unhide HO2)
          have hgX : g2 ≠ X := fun e => own_ne (unhide HO2) (unhide HX).hX (by decide) (by rw [e]; rfl)
          rcases Nat.eq_zero_or_pos k with rfl | hpos
          · obtain rfl := List.length_eq_zero_iff.1 hal
            have HT2 : Hid (Ix.sTo ls (0 + 1) = some [(Ix.l3dec A, Ix.l3dec B, 0)]) := by
              show _ = _
              rw [Ix.sTo_some (acc := []) (unhide HT) (m := (Ix.l3dec A, Ix.l3dec B, 0)) (by unfold Ix.sLine; rw [← unhide HWS]; rfl)]
              rfl
            rw [← (unhide HAB).1, ← (unhide HAB).2] at HT2
            clear hal
            obtain ⟨x0, x1, x2⟩ : _ ∧ _ ∧ _ := ⟨cellOf (unhide HX).hX 0, cellOf (unhide HX).hX 1, cellOf (unhide HX).hX 2⟩
            obtain ⟨f0, f1, f2⟩ : _ ∧ _ ∧ _ := ⟨frozenOf (unhide HX).hX 0, frozenOf (unhide HX).hX 1, frozenOf (unhide HX).hX 2⟩
            go_wp2_with fail
            refine (l3Dec_any sa (by omega) _).mono ?_
            rintro e w5 ⟨rfl, rfl⟩
            have HX5 := hide ((unhide HX).set0 (a := Ix.l3dec sa.data.toList))
            have HO5 := hide (txt_set (o := 0) (u := .int .i64 (Ix.l3dec sa.data.toList)) (unhide HO) (unhide HX).hX)
            have HP5 := hide (txt_set (o := 0) (u := .int .i64 (Ix.l3dec sa.data.toList)) (unhide HO2) (unhide HX).hX)
            clear c0 c1
            obtain ⟨c0, c1⟩ := unhide CA _ (unhide HP5)
            have CB := hide (l3Dec_any sb (by omega))
            generalize Ix.l3dec sa.data.toList = za at *
            generalize Ix.l3dec sb.data.toList = zb at *
            go_wp2_with fail
            refine (unhide CB _).mono ?_
            rintro e w6 ⟨rfl, rfl⟩
            have HX6 := hide ((unhide HX5).set1 (a := zb))
            have HO6 := hide (txt_set (o := 1) (u := .int .i64 zb) (unhide HO5) (unhide HX5).hX)
            go_wp2_with fail
            generalize World.setCell _ _ _ = w7 at *
            go_roundw
            case rel => exact ⟨1, _, _, by omega, rfl, unhide HT2, unhide HX6, unhide HO6⟩
            case measure => simp [intOf]; omega
          · have hk0 : ((k : Int) == 0) = false := by rw [beq_eq_false_iff_ne]; omega
            by_cases h2 : sa.size = 2
            rotate_left
            · have HNO : Hid (Ix.rx s.data.toList = none) := by
                refine Ix.s_none (k := k) (by rw [← unhide HLS, ← unhide HN]; omega) (Ix.sTo_none ?_)
                rw [← unhide HLS]
                unfold Ix.sLine
                rw [← unhide HWS]
                have hl2 : A.length ≠ 2 := by rw [← (unhide HAB).1, Array.length_toList]; exact h2
                dsimp only
                rw [if_neg (by omega)]
                match A, hl2 with
                | [], _ => rfl
                | [_], _ => rfl
                | _ :: _ :: _ :: _, _ => rfl
              have hne2 : ((sa.size : Int) != 2) = true := by simp; omega
              clear h2
              obtain ⟨⟨r0, s0⟩, ⟨r1, s1⟩, r2, s2⟩ : (_ ∧ _) ∧ (_ ∧ _) ∧ _ ∧ _ := ⟨⟨cellOf (unhide HX).hR 0, frozenOf (unhide HX).hR 0⟩, ⟨cellOf (unhide HX).hR 1, frozenOf (unhide HX).hR 1⟩, cellOf (unhide HX).hR 2, frozenOf (unhide HX).hR 2⟩
              go_wp2_with fail
              obtain ⟨⟨q0, q1, q2⟩, hbel, _⟩ := fin3 (a := .int .i64 0) (b := .int .i64 0) (c := .slice none 0 0) (unhide HX).hR (unhide HX).lR (unhide HX).bel rfl
              exact bodyPost_ret (v := .tuple #[.agg #[.int .i64 0, .int .i64 0, .slice none 0 0], .bool false]) (by simp [results, Tryd.results15, go_sem, q0, q1, q2]) rfl (RxAns.no (unhide HNO) hbel)
            · obtain ⟨p, q, hpq⟩ : ∃ p q, sa.data.toList = [p, q] := by
                have h1 : sa.data.toList.length = 2 := by rw [Array.length_toList]; exact h2
                match hx' : sa.data.toList, h1 with
                | [p, q], _ => exact ⟨p, q, rfl⟩
              have hsz : (sa.size : Int) = 2 := by omega
              have hx0 : 0 < sa.size := by omega
              have hx1 : 1 < sa.size := by omega
              have hp0 : sa[0].toNat = p.toNat := by
                have : sa[0] = p := by
                  show sa.data[0] = p
                  have := List.getElem_of_eq hpq (i := 0) (by rw [hpq]; simp)
                  rw [Array.getElem_toList] at this
                  exact this
                rw [this]
              have hp1 : sa[1].toNat = q.toNat := by
                have : sa[1] = q := by
                  show sa.data[1] = q
                  have := List.getElem_of_eq hpq (i := 1) (by rw [hpq]; simp)
                  rw [Array.getElem_toList] at this
                  exact this
                rw [this]
              have ha : ((sa[0].toNat : Nat) : Int) < 256 := by have := sa[0].toNat_lt; omega
              have hb : ((sa[1].toNat : Nat) : Int) < 256 := by have := sa[1].toNat_lt; omega
              have ha0 : (0 : Int) ≤ ((sa[0].toNat : Nat) : Int) := Int.natCast_nonneg _
              have hb0 : (0 : Int) ≤ ((sa[1].toNat : Nat) : Int) := Int.natCast_nonneg _
              have HT2 : Hid (Ix.sTo ls (k + 1) = some (acc ++ [((sa[0].toNat : Int) - 97 + 1, (sa[1].toNat : Int) - 48, Ix.l3dec sb.data.toList)])) := by
                show _ = _
                refine Ix.sTo_some (unhide HT) ?_
                unfold Ix.sLine
                rw [← unhide HWS]
                dsimp only
                rw [if_neg (by omega), ← (unhide HAB).1, hpq, (unhide HAB).2, hp0, hp1]
              have HSN := fun m => hide (Ix.sIdx_snoc (acc := acc) (m := m) (fun e => by rw [e] at hal; exact absurd hal (by simp; omega)))
              have hml : (Ix.sIdx acc).2.2.length ≤ 200 := by
                have : (Ix.sIdx acc).2.2.length ≤ acc.length := by
                  cases acc with
                  | nil => exact Nat.le_refl _
                  | cons a t => obtain ⟨_, _, _⟩ := a; exact Nat.le_succ _
                omega
              have CB := hide (l3Dec_any sb (by omega))
              generalize Ix.l3dec sb.data.toList = zb at *
              have e0 : IntKind.i64.wrap ((sa[0].toNat : Nat) : Int) = ((sa[0].toNat : Nat) : Int) := by simp [IntKind.wrap, IntKind.bits, IntKind.signed]; omega
              have e1 : IntKind.i64.wrap ((sa[1].toNat : Nat) : Int) = ((sa[1].toNat : Nat) : Int) := by simp [IntKind.wrap, IntKind.bits, IntKind.signed]; omega
              have e2 : IntKind.i64.wrap (((sa[0].toNat : Nat) : Int) - 97) = ((sa[0].toNat : Nat) : Int) - 97 := by simp [IntKind.wrap, IntKind.bits, IntKind.signed]; omega
              have e3 : IntKind.i64.wrap (((sa[0].toNat : Nat) : Int) - 97 + 1) = ((sa[0].toNat : Nat) : Int) - 97 + 1 := by simp [IntKind.wrap, IntKind.bits, IntKind.signed]; omega
              have e4 : IntKind.i64.wrap (((sa[1].toNat : Nat) : Int) - 48) = ((sa[1].toNat : Nat) : Int) - 48 := by simp [IntKind.wrap, IntKind.bits, IntKind.signed]; omega
              obtain ⟨x0, x1, x2⟩ : _ ∧ _ ∧ _ := ⟨cellOf (unhide HX).hX 0, cellOf (unhide HX).hX 1, cellOf (unhide HX).hX 2⟩
              clear h2 hpq hp0 hp1 hal
              generalize hmm : (Ix.sIdx acc).2.2 = ms at *
              have HMM := hide hmm
              clear hmm
              go_wp2_with fail
              have hSd : w4.drew.cell? ⟨X, 2, none⟩ = some mv ∧ w4.drew.cell? ⟨g2, 0, none⟩ = some (.string sa) ∧ w4.drew.cell? ⟨g2, 1, none⟩ = some (.string sb) := ⟨x2, c0, c1⟩
              refine wl_region (S := fun w' => w'.cell? ⟨X, 2, none⟩ = some mv ∧ w'.cell? ⟨g2, 0, none⟩ = some (.string sa) ∧ w'.cell? ⟨g2, 1, none⟩ = some (.string sb)) (s := 23) (by kernel_rfl) hSd (fun hHeld => ?_)
              refine wl_take (i := 0) (d := some 50) rfl rfl (by kernel_rfl) (by kernel_rfl) (by kernel_rfl) (by kernel_rfl) (by kernel_rfl) (fun _ _ _ h => h) (by rfl) (v := ?_) ?_ (by assumption) ?_
              rotate_left
              · (intro w hSw; (try dsimp only at hSw); go_simp <;> with_reducible rfl)
              simp only [Act.put, List.setIfInBounds_toArray, List.set_cons_zero, List.set_cons_succ]
              refine wl_take (i := 1) (d := some 51) rfl rfl (by kernel_rfl) (by kernel_rfl) (by kernel_rfl) (by kernel_rfl) (by kernel_rfl) (fun _ _ _ h => h) (by rfl) (v := ?_) ?_ (by assumption) ?_
              rotate_left
              · (intro w hSw; (try dsimp only at hSw); go_simp <;> with_reducible rfl)
              simp only [Act.put, List.setIfInBounds_toArray, List.set_cons_zero, List.set_cons_succ]
              refine wl_take (i := 2) (d := some 52) rfl rfl (by kernel_rfl) (by kernel_rfl) (by kernel_rfl) (by kernel_rfl) (by kernel_rfl) (fun _ _ _ h => h) (by rfl) (v := ?_) ?_ (by assumption) ?_
              rotate_left
              · (intro w hSw; (try dsimp only at hSw); go_simp <;> with_reducible rfl)
              simp only [Act.put, List.setIfInBounds_toArray, List.set_cons_zero, List.set_cons_succ]
              refine wl_take (i := 3) (d := some 53) rfl rfl (by kernel_rfl) (by kernel_rfl) (by kernel_rfl) (by kernel_rfl) (by kernel_rfl) (fun _ _ _ h => h) (by rfl) (v := ?_) ?_ (by assumption) ?_
              rotate_left
              · (intro w hSw; (try dsimp only at hSw); go_simp <;> with_reducible rfl)
              simp only [Act.put, List.setIfInBounds_toArray, List.set_cons_zero, List.set_cons_succ]
              refine wl_take (i := 4) (d := some 54) rfl rfl (by kernel_rfl) (by kernel_rfl) (by kernel_rfl) (by kernel_rfl) (by kernel_rfl) (fun _ _ _ h => h) (by rfl) (v := ?_) ?_ (by assumption) ?_
              rotate_left
              · (intro w hSw; (try dsimp only at hSw); go_simp <;> with_reducible rfl)
              simp only [Act.put, List.setIfInBounds_toArray, List.set_cons_zero, List.set_cons_succ]
              refine wl_take (i := 5) (d := some 55) rfl rfl (by kernel_rfl) (by kernel_rfl) (by kernel_rfl) (by kernel_rfl) (by kernel_rfl) (fun _ _ _ h => h) (by rfl) (v := ?_) ?_ (by assumption) ?_
              rotate_left
              · (intro w hSw; (try dsimp only at hSw); go_simp <;> with_reducible rfl)
              simp only [Act.put, List.setIfInBounds_toArray, List.set_cons_zero, List.set_cons_succ]
              refine wl_take (i := 6) (d := some 56) rfl rfl (by kernel_rfl) (by kernel_rfl) (by kernel_rfl) (by kernel_rfl) (by kernel_rfl) (fun _ _ _ h => h) (by rfl) (v := ?_) ?_ (by assumption) ?_
              rotate_left
              · (intro w hSw; (try dsimp only at hSw); go_simp <;> with_reducible rfl)
              simp only [Act.put, List.setIfInBounds_toArray, List.set_cons_zero, List.set_cons_succ]
              refine wl_take (i := 7) (d := some 57) rfl rfl (by kernel_rfl) (by kernel_rfl) (by kernel_rfl) (by kernel_rfl) (by kernel_rfl) (fun _ _ _ h => h) (by rfl) (v := ?_) ?_ (by assumption) ?_
              rotate_left
              · (intro w hSw; (try dsimp only at hSw); go_simp <;> with_reducible rfl)
              simp only [Act.put, List.setIfInBounds_toArray, List.set_cons_zero, List.set_cons_succ]
              refine wl_take (i := 8) (d := some 58) rfl rfl (by kernel_rfl) (by kernel_rfl) (by kernel_rfl) (by kernel_rfl) (by kernel_rfl) (fun _ _ _ h => h) (by rfl) (v := ?_) ?_ (by assumption) ?_
              rotate_left
              · (intro w hSw; (try dsimp only at hSw); go_simp <;> with_reducible rfl)
              simp only [Act.put, List.setIfInBounds_toArray, List.set_cons_zero, List.set_cons_succ]
              refine wl_take (i := 9) (d := some 59) rfl rfl (by kernel_rfl) (by kernel_rfl) (by kernel_rfl) (by kernel_rfl) (by kernel_rfl) (fun _ _ _ h => h) (by rfl) (v := ?_) ?_ (by assumption) ?_
              rotate_left
              · (intro w hSw; (try dsimp only at hSw); go_simp <;> with_reducible rfl)
              simp only [Act.put, List.setIfInBounds_toArray, List.set_cons_zero, List.set_cons_succ]
              refine wl_take (i := 10) (d := some 60) rfl rfl (by kernel_rfl) (by kernel_rfl) (by kernel_rfl) (by kernel_rfl) (by kernel_rfl) (fun _ _ _ h => h) (by rfl) (v := ?_) ?_ (by assumption) ?_
              rotate_left
              · (intro w hSw; (try dsimp only at hSw); go_simp <;> with_reducible rfl)
              simp only [Act.put, List.setIfInBounds_toArray, List.set_cons_zero, List.set_cons_succ]
              refine wl_take (i := 11) (d := some 61) rfl rfl (by kernel_rfl) (by kernel_rfl) (by kernel_rfl) (by kernel_rfl) (by kernel_rfl) (fun _ _ _ h => h) (by rfl) (v := ?_) ?_ (by assumption) ?_
              rotate_left
              · (intro w hSw; (try dsimp only at hSw); go_simp <;> with_reducible rfl)
              simp only [Act.put, List.setIfInBounds_toArray, List.set_cons_zero, List.set_cons_succ]
              refine wl_take (i := 12) (d := some 62) rfl rfl (by kernel_rfl) (by kernel_rfl) (by kernel_rfl) (by kernel_rfl) (by kernel_rfl) (fun _ _ _ h => h) (by rfl) (v := ?_) ?_ (by assumption) ?_
              rotate_left
              · (intro w hSw; (try dsimp only at hSw); go_simp <;> with_reducible rfl)
              simp only [Act.put, List.setIfInBounds_toArray, List.set_cons_zero, List.set_cons_succ]
              refine wl_take (i := 13) (d := some 63) rfl rfl (by kernel_rfl) (by kernel_rfl) (by kernel_rfl) (by kernel_rfl) (by kernel_rfl) (fun _ _ _ h => h) (by rfl) (v := ?_) ?_ (by assumption) ?_
              rotate_left
              · (intro w hSw; (try dsimp only at hSw); go_simp <;> with_reducible rfl)
              simp only [Act.put, List.setIfInBounds_toArray, List.set_cons_zero, List.set_cons_succ]
              refine wl_take (i := 14) (d := some 64) rfl rfl (by kernel_rfl) (by kernel_rfl) (by kernel_rfl) (by kernel_rfl) (by kernel_rfl) (fun _ _ _ h => h) (by rfl) (v := ?_) ?_ (by assumption) ?_
              rotate_left
              · (intro w hSw; (try dsimp only at hSw); go_simp <;> with_reducible rfl)
              simp only [Act.put, List.setIfInBounds_toArray, List.set_cons_zero, List.set_cons_succ]
              refine wl_take (i := 15) (d := some 65) rfl rfl (by kernel_rfl) (by kernel_rfl) (by kernel_rfl) (by kernel_rfl) (by kernel_rfl) (fun _ _ _ h => h) (by rfl) (v := ?_) ?_ (by assumption) ?_
              rotate_left
              · (intro w hSw; (try dsimp only at hSw); go_simp <;> with_reducible rfl)
              simp only [Act.put, List.setIfInBounds_toArray, List.set_cons_zero, List.set_cons_succ]
              refine wl_take (i := 16) (d := some 66) rfl rfl (by kernel_rfl) (by kernel_rfl) (by kernel_rfl) (by kernel_rfl) (by kernel_rfl) (fun _ _ _ h => h) (by rfl) (v := ?_) ?_ (by assumption) ?_
              rotate_left
              · (intro w hSw; (try dsimp only at hSw); go_simp <;> with_reducible rfl)
              simp only [Act.put, List.setIfInBounds_toArray, List.set_cons_zero, List.set_cons_succ]
              refine wl_take (i := 17) (d := some 67) rfl rfl (by kernel_rfl) (by kernel_rfl) (by kernel_rfl) (by kernel_rfl) (by kernel_rfl) (fun _ _ _ h => h) (by rfl) (v := ?_) ?_ (by assumption) ?_
              rotate_left
              · (intro w hSw; (try dsimp only at hSw); go_simp <;> with_reducible rfl)
              simp only [Act.put, List.setIfInBounds_toArray, List.set_cons_zero, List.set_cons_succ]
              refine wl_one (i := 18) (by kernel_rfl) rfl (by rfl) (fun K hK => ?_)
              go_simp
              clear hHeld
              refine (unhide CB _).mono ?_
              rintro e w6 ⟨rfl, rfl⟩
              go_wp2_with fail
              refine hK.out _ _ (fun _ => (by assumption)) ?_
              clear hK K
              try simp only [Act.put, List.setIfInBounds_toArray, List.set_cons_zero, List.set_cons_succ]
              refine wl_take (i := 19) (d := some 69) rfl rfl (by kernel_rfl) (by kernel_rfl) (by kernel_rfl) (by kernel_rfl) (by kernel_rfl) (fun _ _ _ h => h) (by rfl) (v := ?_) ?_ (by assumption) ?_
              rotate_left
              · (intro w hSw; (try dsimp only at hSw); go_simp <;> with_reducible rfl)
              simp only [Act.put, List.setIfInBounds_toArray, List.set_cons_zero, List.set_cons_succ]
              refine wl_one (i := 20) (by kernel_rfl) rfl (by rfl) (fun K hK => ?_)
              go_simp
              have hX4 := hide ((unhide HX).drew.alloc (.cells #[.int .i64 ((sa[0].toNat : Int) - 97 + 1), .int .i64 ((sa[1].toNat : Int) - 48), .int .i64 zb] 45))
              have hO4 := hide (own_later (own_later (unhide HO) (below_drew w4)) (below1 w4.drew (.cells #[.int .i64 ((sa[0].toNat : Int) - 97 + 1), .int .i64 ((sa[1].toNat : Int) - 48), .int .i64 zb] 45)))
              have hP4 := hide (own_later (own_later (unhide HO2) (below_drew w4)) (below1 w4.drew (.cells #[.int .i64 ((sa[0].toNat : Int) - 97 + 1), .int .i64 ((sa[1].toNat : Int) - 48), .int .i64 zb] 45)))
              have hH4 : (w4.drew.alloc (.cells #[.int .i64 ((sa[0].toNat : Int) - 97 + 1), .int .i64 ((sa[1].toNat : Int) - 48), .int .i64 zb] 45)).cell? ⟨X, 2, none⟩ = some mv ∧ (w4.drew.alloc (.cells #[.int .i64 ((sa[0].toNat : Int) - 97 + 1), .int .i64 ((sa[1].toNat : Int) - 48), .int .i64 zb] 45)).cell? ⟨g2, 0, none⟩ = some (.string sa) ∧ (w4.drew.alloc (.cells #[.int .i64 ((sa[0].toNat : Int) - 97 + 1), .int .i64 ((sa[1].toNat : Int) - 48), .int .i64 zb] 45)).cell? ⟨g2, 1, none⟩ = some (.string sb) := ⟨cellOf (unhide hX4).hX 2, unhide CA _ (unhide hP4)⟩
              have hnw := World.news_of_block (cs := #[.int .i64 ((sa[0].toNat : Int) - 97 + 1), .int .i64 ((sa[1].toNat : Int) - 48), .int .i64 zb]) (t := 45) (fr := (0, 0)) (heap_alloc_new w4.drew (.cells #[.int .i64 ((sa[0].toNat : Int) - 97 + 1), .int .i64 ((sa[1].toNat : Int) - 48), .int .i64 zb] 45))
              clear hSd
              refine hK.out _ _ (fun _ => (by assumption)) ?_
              clear hK K
              try simp only [Act.put, List.setIfInBounds_toArray, List.set_cons_zero, List.set_cons_succ]
              refine wl_one (i := 21) (by kernel_rfl) rfl (by rfl) (fun K hK => ?_)
              refine wp_append_lies _ _ _ _ (by rfl) w.heap.size 45 i0 _ 3 24 Tryd.underlying23 hI0 hz0 hz1 hz2 rfl (by omega) mv ms.length (flat3 ms) (by rfl) (unhide hX4).own
                ⟨w4.drew.heap.size, 0, none⟩ 1 1 [.int .i64 ((sa[0].toNat : Int) - 97 + 1), .int .i64 ((sa[1].toNat : Int) - 48), .int .i64 zb] (by rfl) (by rfl) hnw (by simp [Value.oneCell']) (by omega) (by unfold maxLen; omega) (by omega) (unhide hX4).bel.size (w4.heap.size + 1) (by simp) ?_
              intro gg gcap w11 hown hgrow hat hlt11
              have hX11 := (grown_other (unhide hX4).own hgrow (unhide hX4).hX (by decide)).trans (unhide hX4).hX
              have hO11 := hide (txt_grown (unhide hO4) (unhide hX4).own hgrow)
              have hP11 := hide (txt_grown (unhide hP4) (unhide hX4).own hgrow)
              have hH11 : w11.cell? ⟨X, 2, none⟩ = some mv ∧ w11.cell? ⟨g2, 0, none⟩ = some (.string sa) ∧ w11.cell? ⟨g2, 1, none⟩ = some (.string sb) := ⟨cellOf hX11 2, unhide CA _ (unhide hP11)⟩
              have x2' := cellOf hX11 2
              have fX := frozenOf hX11 2
              have HY := hide (Xs.app (x := ((sa[0].toNat : Int) - 97 + 1, (sa[1].toNat : Int) - 48, zb)) (unhide hX4) hgrow hown)
              have HOY := hide (txt_set (o := 2) (u := .slice (some ⟨gg, 0, none⟩) (ms.length + 1) gcap) (unhide hO11) hX11)
              clear hH4 hX4 hgrow hown hat hnw hX11 hO4 hP4 hO11 hP11 hlt11
              change K (Act.put _ (some 71) _) _
              refine hK.out _ _ (fun _ => (by assumption)) ?_
              clear hK K
              try simp only [Act.put, List.setIfInBounds_toArray, List.set_cons_zero, List.set_cons_succ]
              refine wl_take (i := 22) (d := some 72) rfl rfl (by kernel_rfl) (by kernel_rfl) (by kernel_rfl) (by kernel_rfl) (by kernel_rfl) (fun _ _ _ h => h) (by rfl) (v := ?_) ?_ (by assumption) ?_
              rotate_left
              · (intro w hSw; (try dsimp only at hSw); go_simp <;> with_reducible rfl)
              simp only [Act.put, List.setIfInBounds_toArray, List.set_cons_zero, List.set_cons_succ]
              refine wl_one (i := 23) (by kernel_rfl) rfl (by rfl) (fun K hK => ?_)
              go_simp
              generalize w11.setCell _ _ = w12 at *
              refine hK.out _ _ (fun h => absurd rfl h) ?_
              clear hK K
              refine wl_done (by kernel_rfl) ?_
              clear hH11 fX x2'
              go_wp2
              go_roundw
              case rel =>
                refine ⟨k + 1, acc ++ [((sa[0].toNat : Int) - 97 + 1, (sa[1].toNat : Int) - 48, zb)], .slice (some ⟨gg, 0, none⟩) (ms.length + 1) gcap, by omega, by go_num, unhide HT2, ?_, unhide HOY⟩
                rw [unhide (HSN _)]
                dsimp only
                exact unhide HY
              case measure => simp [intOf]; omega
      · have hkn : k + 1 = n := by omega
        have HSO := fun {b : Bool} hb => hide (Ix.s_some (s := s.data.toList) (acc := acc) (by rw [← unhide HLS, ← unhide HN, show n - 1 = k by omega]; exact unhide HT) (b := b) hb)
        have hml : (Ix.sIdx acc).2.2.length ≤ 200 := by
          have : (Ix.sIdx acc).2.2.length ≤ acc.length := by
            cases acc with
            | nil => exact Nat.le_refl _
            | cons a t => obtain ⟨_, _, _⟩ := a; exact Nat.le_succ _
          omega
        have hi2 : ¬ (k : Int) + 1 < (n : Int) := by omega
        clear hlt hkn ho HT HO hal
        obtain ⟨a, b, ms, hab⟩ : ∃ a b ms, Ix.sIdx acc = (a, b, ms) := ⟨_, _, _, rfl⟩
        rw [hab] at HX HSO hml
        dsimp only at HX HSO hml
        clear hab
        obtain ⟨fa, fc, hmv⟩ := own_formS (unhide HX).own
        subst hmv
        obtain ⟨x0, x1, x2⟩ : _ ∧ _ ∧ _ := ⟨cellOf (unhide HX).hX 0, cellOf (unhide HX).hX 1, cellOf (unhide HX).hX 2⟩
        have HTR := hide (Trs.own (unhide HX).own (by omega))
        go_wp2_with fail
        refine (indexText_any _ a b _ ms (unhide HTR)).mono ?_
        rintro e w5 ⟨rfl, b5⟩
        replace HX := hide ((unhide HX).later b5)
        clear b5 x0 x1 x2 HTR
        obtain ⟨x0, x1, x2⟩ : _ ∧ _ ∧ _ := ⟨cellOf (unhide HX).hX 0, cellOf (unhide HX).hX 1, cellOf (unhide HX).hX 2⟩
        obtain ⟨⟨r0, s0⟩, ⟨r1, s1⟩, r2, s2⟩ : (_ ∧ _) ∧ (_ ∧ _) ∧ _ ∧ _ := ⟨⟨cellOf (unhide HX).hR 0, frozenOf (unhide HX).hR 0⟩, ⟨cellOf (unhide HX).hR 1, frozenOf (unhide HX).hR 1⟩, cellOf (unhide HX).hR 2, frozenOf (unhide HX).hR 2⟩
        obtain ⟨T, hT⟩ : ∃ T, (⟨(Ix.text a b ms).toArray⟩ : ByteArray) = T := ⟨_, rfl⟩
        have HTT : Hid (Ix.text a b ms = T.data.toList) := by show _ = _; rw [← hT]
        rw [hT]
        clear hT
        by_cases hE : T = s
        · have hnb : (T == s) = true := by rw [hE, beq_toListBytes]; exact beq_self_eq_true _
          have hnc : (T.toList == s.toList) = true := by rw [hE]; exact beq_self_eq_true _
          have HE := hide hE
          clear hE
          cases hse : s.toList.isEmpty
          · have HY : Hid (Ix.rx s.data.toList = some (a, b, ms)) := by
              have := unhide (HSO (b := true) (decide_eq_true ⟨by rw [unhide HTT, unhide HE], fun e => by have h1 := (str_nil s).2 e; rw [hse] at h1; cases h1⟩))
              rw [if_pos rfl] at this
              exact this
            go_wp2_with fail
            obtain ⟨⟨q0, q1, q2⟩, hbel, hfar⟩ := fin3 (a := .int .i64 a) (b := .int .i64 b) (c := .slice fa ms.length fc) (unhide HX).hR (unhide HX).lR (unhide HX).bel rfl
            exact bodyPost_ret (v := .tuple #[.agg #[.int .i64 a, .int .i64 b, .slice fa ms.length fc], .bool true]) (by simp [results, Tryd.results15, go_sem, q0, q1, q2]) rfl (RxAns.yes (unhide HY) (not_meta (unhide HX).hR (unhide HX).own hfar) hbel)
          · have HNO : Hid (Ix.rx s.data.toList = none) := by
              have := unhide (HSO (b := false) (decide_eq_false (fun h => h.2 ((str_nil s).1 hse))))
              rw [if_neg (by simp)] at this
              exact this
            go_wp2_with fail
            obtain ⟨⟨q0, q1, q2⟩, hbel, _⟩ := fin3 (a := .int .i64 0) (b := .int .i64 0) (c := .slice none 0 0) (unhide HX).hR (unhide HX).lR (unhide HX).bel rfl
            exact bodyPost_ret (v := .tuple #[.agg #[.int .i64 0, .int .i64 0, .slice none 0 0], .bool false]) (by simp [results, Tryd.results15, go_sem, q0, q1, q2]) rfl (RxAns.no (unhide HNO) hbel)
        · have hnb : (T == s) = false := by rw [beq_toListBytes, ByteArray.toList_eq, ByteArray.toList_eq]; exact beq_eq_false_iff_ne.2 (fun e => hE (ByteArray.ext (Array.ext' e)))
          have hnc : (T.toList == s.toList) = false := by rw [← beq_toListBytes]; exact hnb
          have HNO : Hid (Ix.rx s.data.toList = none) := by
            have := unhide (HSO (b := false) (decide_eq_false (fun h => hE (by have h2 := h.1; rw [unhide HTT] at h2; exact ByteArray.ext (Array.ext' h2)))))
            rw [if_neg (by simp)] at this
            exact this
          clear hE
          go_wp2_with fail
          obtain ⟨⟨q0, q1, q2⟩, hbel, _⟩ := fin3 (a := .int .i64 0) (b := .int .i64 0) (c := .slice none 0 0) (unhide HX).hR (unhide HX).lR (unhide HX).bel rfl
          exact bodyPost_ret (v := .tuple #[.agg #[.int .i64 0, .int .i64 0, .slice none 0 0], .bool false]) (by simp [results, Tryd.results15, go_sem, q0, q1, q2]) rfl (RxAns.no (unhide HNO) hbel)
end Go.Proofs.YtnoghnkhfgiloaaDoor
