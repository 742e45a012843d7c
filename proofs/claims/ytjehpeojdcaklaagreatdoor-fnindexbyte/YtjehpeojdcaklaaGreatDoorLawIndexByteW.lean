import Derived.Test.YtjehpeojdcaklaaGreatDoorDrawHasW
import Derived.Test.YtjehpeojdcaklaaGreatDoorSpecHasW
import Derived.Test.YtjehpeojdcaklaaGreatDoorLuW
import Derived.Test.YtjehpeojdcaklaaGreatDoorMixM
import Derived.Test.YtjehpeojdcaklaaGreatDoorMixK
import Derived.Deep.CutRange
/- The walk of laws.FnIndexByte: it returns true; for every code. -/
namespace Go.Proofs.YtjehpeojdcaklaaGreatDoor
open Go.RowKit

attribute [local go_sem ↓] Go.wp_at_zero Go.wp_at_succ

set_option maxHeartbeats 8000000 in
set_option maxRecDepth 100000 in
theorem indexByte_walk (w : World) (a0 : Option Addr) (len0 cap0 : Nat) (a1 : Option Addr) (len1 cap1 : Nat) (w0 : Bytes w a0 len0 cap0) (w1 : Bytes w a1 len1 cap1) (ev : Addr) (g : Gl w ev) :
    Calls Tryz.prog 4 #[.slice a0 len0 cap0, .slice a1 len1 cap1] w fun e w' => e = .returned (.bool true) ∧ Below w.heap.size w w' := by
  have W0 := hide w0
  have BW := hide (Below.refl w.heap.size w)
  have G := hide g
  clear w0 g
  have W1 := hide w1
  clear w1
  by_cases g0 : len0 ≤ 1048576
  rotate_left
  · have g0' : decide ((1048576 : Int) < (len0 : Int)) = true := by simp; omega
    go_enter Tryz.func4, Tryz.ntmps4
    go_wp2
    go_ret
    exact ⟨rfl, Below.refl _ _⟩
  by_cases g1 : len1 ≤ 1048576
  rotate_left
  · have g0' : decide ((1048576 : Int) < (len0 : Int)) = false := by simp; omega
    have g1' : decide ((1048576 : Int) < (len1 : Int)) = true := by simp; omega
    go_enter Tryz.func4, Tryz.ntmps4
    go_wp2
    go_ret
    exact ⟨rfl, Below.refl _ _⟩
  go_enter Tryz.func4, Tryz.ntmps4
  go_wp2_with fail
  refine (drawHas_any w a0 len0 cap0 (unhide W0)).mono ?_
  rintro e w2 ⟨num, til, ma, mc, ms, s, rfl, hml, ho, hs40, bb⟩
  replace BW := hide ((unhide BW).trans (bb.mono (unhide BW).size))
  replace G := hide ((unhide G).later bb)
  replace W1 := hide ((unhide W1).later bb)
  clear bb W0
  have bx := below1 w2 (.cells #[.int .i64 num, .int .i64 til, .slice ma ms.length mc] 28)
  have T1 := hide ((Trs.own ho (by omega)).later bx)
  have X1 := hide (heap_alloc_new w2 (.cells #[.int .i64 num, .int .i64 til, .slice ma ms.length mc] 28))
  replace BW := hide ((unhide BW).trans (bx.mono (unhide BW).size))
  replace G := hide ((unhide G).later bx)
  replace W1 := hide ((unhide W1).later bx)
  clear bx ho
  obtain ⟨x0, x1, x2⟩ : _ ∧ _ ∧ _ := ⟨cellOf (unhide X1) 0, cellOf (unhide X1) 1, cellOf (unhide X1) 2⟩
  go_wp2_with fail
  refine (specHas_any _ num til _ ms s (unhide T1)).mono ?_
  generalize hQ : w2.heap.size = X at *
  generalize w2.alloc _ = W2 at *
  clear hQ
  clear w2
  have CI := hide (fun (W : World) (h : Trs W (.slice ma ms.length mc) ms) (g : Gl W ev) => implHas_any W num til _ ms s ev g h)
  unfold HasAns at CI
  rintro e w3 ⟨fv, dv, rfl, hf, hd, bb⟩
  replace BW := hide ((unhide BW).trans (bb.mono (unhide BW).size))
  replace G := hide ((unhide G).later bb)
  replace W1 := hide ((unhide W1).later bb)
  replace T1 := hide ((unhide T1).later bb)
  replace X1 := hide ((bb.block _ (heapLt (unhide X1))).trans (unhide X1))
  clear bb x0 x1 x2
  have hln := Ix.hasD_len num til ms s.data.toList
  obtain ⟨nm, vr, fs, ds, hp⟩ : ∃ nm vr fs ds, Ix.hasD num til ms s.data.toList = (nm, vr, fs, ds) := ⟨_, _, _, _, rfl⟩
  obtain ⟨b, hb⟩ : ∃ b, Ix.hasB num til ms s.data.toList = b := ⟨_, rfl⟩
  rw [hp, hb] at CI
  rw [hp] at hf hd hln
  rw [hp, hb]
  have HPB := hide (And.intro hp hb)
  dsimp only at hf hd hln ⊢
  obtain ⟨fa, fc, rfl⟩ := own_form hf
  obtain ⟨da, dc, rfl⟩ := own_form hd
  have hbb : (b != b) = false := by cases b <;> rfl
  clear hp hb
  have bx := below1 w3 (.cells #[.int .i64 nm, .int .i64 vr, .slice fa fs.length fc, .slice da ds.length dc] 35)
  have PF := hide ((Prs.own hf (by omega)).later bx)
  have PD := hide ((Prs.own hd (by omega)).later bx)
  have X2 := hide (heap_alloc_new w3 (.cells #[.int .i64 nm, .int .i64 vr, .slice fa fs.length fc, .slice da ds.length dc] 35))
  replace BW := hide ((unhide BW).trans (bx.mono (unhide BW).size))
  replace G := hide ((unhide G).later bx)
  replace W1 := hide ((unhide W1).later bx)
  replace T1 := hide ((unhide T1).later bx)
  replace X1 := hide ((bx.block _ (heapLt (unhide X1))).trans (unhide X1))
  clear bx hf hd
  clear W2
  obtain ⟨x0, x1, x2⟩ : _ ∧ _ ∧ _ := ⟨cellOf (unhide X1) 0, cellOf (unhide X1) 1, cellOf (unhide X1) 2⟩
  go_wp2_with fail
  refine (unhide CI _ (unhide T1) (unhide G)).mono ?_
  generalize hQ : w3.heap.size = P at *
  generalize w3.alloc _ = W3 at *
  clear hQ
  clear w3
  rintro e w4 ⟨fv, dv, rfl, hf, hd, bb⟩
  replace BW := hide ((unhide BW).trans (bb.mono (unhide BW).size))
  replace G := hide ((unhide G).later bb)
  replace W1 := hide ((unhide W1).later bb)
  replace T1 := hide ((unhide T1).later bb)
  replace X1 := hide ((bb.block _ (heapLt (unhide X1))).trans (unhide X1))
  replace PF := hide ((unhide PF).later bb)
  replace PD := hide ((unhide PD).later bb)
  replace X2 := hide ((bb.block _ (heapLt (unhide X2))).trans (unhide X2))
  clear bb x0 x1 x2
  dsimp only at hf hd ⊢
  obtain ⟨ga, gc, rfl⟩ := own_form hf
  obtain ⟨ea, ec, rfl⟩ := own_form hd
  have bx := below1 w4 (.cells #[.int .i64 nm, .int .i64 vr, .slice ga fs.length gc, .slice ea ds.length ec] 35)
  have QF := hide ((Prs.own hf (by omega)).later bx)
  have QD := hide ((Prs.own hd (by omega)).later bx)
  have X3 := hide (heap_alloc_new w4 (.cells #[.int .i64 nm, .int .i64 vr, .slice ga fs.length gc, .slice ea ds.length ec] 35))
  replace BW := hide ((unhide BW).trans (bx.mono (unhide BW).size))
  replace G := hide ((unhide G).later bx)
  replace W1 := hide ((unhide W1).later bx)
  replace T1 := hide ((unhide T1).later bx)
  replace X1 := hide ((bx.block _ (heapLt (unhide X1))).trans (unhide X1))
  replace PF := hide ((unhide PF).later bx)
  replace PD := hide ((unhide PD).later bx)
  replace X2 := hide ((bx.block _ (heapLt (unhide X2))).trans (unhide X2))
  clear bx hf hd
  clear W3
  have hsame : same nm vr nm vr fs ds fs ds = true := same_yes ⟨rfl, rfl, rfl, rfl⟩
  have HSM := hide hsame
  clear hsame CI
  obtain ⟨p0, p1, p2, p3⟩ : _ ∧ _ ∧ _ ∧ _ := ⟨cellOf (unhide X2) 0, cellOf (unhide X2) 1, cellOf (unhide X2) 2, cellOf (unhide X2) 3⟩
  go_wp2_with fail
  refine (lu_any _ nm vr nm vr _ _ _ _ fs ds fs ds (unhide QF) (unhide QD) (unhide PF) (unhide PD)).mono ?_
  rw [unhide HSM]
  generalize hQ : w4.heap.size = Q at *
  generalize w4.alloc _ = W4 at *
  clear hQ
  clear w4
  rintro e w5 ⟨rfl, bb⟩
  replace BW := hide ((unhide BW).trans (bb.mono (unhide BW).size))
  replace G := hide ((unhide G).later bb)
  replace W1 := hide ((unhide W1).later bb)
  replace T1 := hide ((unhide T1).later bb)
  replace X1 := hide ((bb.block _ (heapLt (unhide X1))).trans (unhide X1))
  replace PF := hide ((unhide PF).later bb)
  replace PD := hide ((unhide PD).later bb)
  replace X2 := hide ((bb.block _ (heapLt (unhide X2))).trans (unhide X2))
  replace QF := hide ((unhide QF).later bb)
  replace QD := hide ((unhide QD).later bb)
  replace X3 := hide ((bb.block _ (heapLt (unhide X3))).trans (unhide X3))
  clear bb p0 p1 p2 p3
  clear W4
  obtain ⟨p0, p1, p2, p3⟩ : _ ∧ _ ∧ _ ∧ _ := ⟨cellOf (unhide X2) 0, cellOf (unhide X2) 1, cellOf (unhide X2) 2, cellOf (unhide X2) 3⟩
  obtain ⟨q0, q1, q2, q3⟩ : _ ∧ _ ∧ _ ∧ _ := ⟨cellOf (unhide X3) 0, cellOf (unhide X3) 1, cellOf (unhide X3) 2, cellOf (unhide X3) 3⟩
  cases b with
  | false =>
    go_wp2_with fail
    refine (lu_any _ nm vr nm vr _ _ _ _ fs ds fs ds (unhide QF) (unhide QD) (unhide PF) (unhide PD)).mono ?_
    rw [unhide HSM]
    rintro e wz ⟨rfl, bb⟩
    replace BW := hide ((unhide BW).trans (bb.mono (unhide BW).size))
    replace G := hide ((unhide G).later bb)
    replace W1 := hide ((unhide W1).later bb)
    replace T1 := hide ((unhide T1).later bb)
    replace X1 := hide ((bb.block _ (heapLt (unhide X1))).trans (unhide X1))
    replace PF := hide ((unhide PF).later bb)
    replace PD := hide ((unhide PD).later bb)
    replace X2 := hide ((bb.block _ (heapLt (unhide X2))).trans (unhide X2))
    replace QF := hide ((unhide QF).later bb)
    replace QD := hide ((unhide QD).later bb)
    replace X3 := hide ((bb.block _ (heapLt (unhide X3))).trans (unhide X3))
    go_wp2
    go_ret
    exact ⟨rfl, unhide BW⟩
  | true =>
    have hH : Ix.has num til ms s.data.toList = some (nm, vr, fs, ds) := by
      obtain ⟨h1, h2⟩ := unhide HPB
      unfold Ix.hasB at h2
      obtain ⟨q, hq⟩ := Option.isSome_iff_exists.1 h2
      rw [hq, ← h1, (Ix.hasD_some hq).1]
    have hT : (⟨(Pk.text nm vr fs ds).toArray⟩ : ByteArray) = s := by
      have e : Pk.text nm vr fs ds = s.data.toList := (Ix.has_some.1 hH).1.2
      rw [e]
    have hse : (s == s) = true := beq_yes s
    have hsn : 2 ≤ s.size := by
      obtain ⟨t, ht⟩ := Ix.text_head (Ix.has_some.1 hH).1.1
      rw [(Ix.has_some.1 hH).1.2] at ht
      have : s.data.toList.length = s.size := Array.length_toList
      rw [ht] at this
      simp only [List.length_cons] at this
      omega
    have HH := hide hH
    have HT := hide hT
    clear hH hT
    by_cases h2 : s.size = 2
    · have e2 : ((s.size : Int) == 2) = true := by rw [beq_iff_eq]; omega
      clear h2 hsn
      go_wp2_with fail
      refine (implText_any _ nm vr _ _ fs ds (unhide QF) (unhide QD)).mono ?_
      rw [unhide HT]
      rintro e w6 ⟨rfl, bb⟩
      replace BW := hide ((unhide BW).trans (bb.mono (unhide BW).size))
      replace G := hide ((unhide G).later bb)
      replace W1 := hide ((unhide W1).later bb)
      replace T1 := hide ((unhide T1).later bb)
      replace X1 := hide ((bb.block _ (heapLt (unhide X1))).trans (unhide X1))
      replace PF := hide ((unhide PF).later bb)
      replace PD := hide ((unhide PD).later bb)
      replace X2 := hide ((bb.block _ (heapLt (unhide X2))).trans (unhide X2))
      replace QF := hide ((unhide QF).later bb)
      replace QD := hide ((unhide QD).later bb)
      replace X3 := hide ((bb.block _ (heapLt (unhide X3))).trans (unhide X3))
      go_wp2
      go_ret
      exact ⟨rfl, unhide BW⟩
    have e2 : ((s.size : Int) == 2) = false := by rw [beq_eq_false_iff_ne]; omega
    obtain ⟨d, hd⟩ : ∃ d : Nat, s.size = d + 3 := ⟨s.size - 3, by omega⟩
    obtain ⟨r, hr, hrem⟩ : ∃ r : Nat, r < d + 1 ∧ (len1 : Int) % ((d : Int) + 1) = (r : Int) := ⟨len1 % (d + 1), Nat.mod_lt _ (by omega), by simp⟩
    have ews : IntKind.i64.wrap ((s.size : Int) - 2) = (d : Int) + 1 := by rw [hd]; simp [IntKind.wrap, IntKind.bits, IntKind.signed]; omega
    have hkz : (((d : Int) + 1) == 0) = false := by rw [beq_eq_false_iff_ne]; omega
    have hkz' : ¬ (d : Int) + 1 = 0 := by omega
    have er : IntKind.i64.wrap ((len1 : Int) % ((d : Int) + 1)) = (len1 : Int) % ((d : Int) + 1) := by rw [hrem]; simp [IntKind.wrap, IntKind.bits, IntKind.signed]; omega
    have er2 : IntKind.i64.wrap (2 + (len1 : Int) % ((d : Int) + 1)) = 2 + (len1 : Int) % ((d : Int) + 1) := by rw [hrem]; simp [IntKind.wrap, IntKind.bits, IntKind.signed]; omega
    obtain ⟨k, hkk⟩ : ∃ k : Nat, k = r + 2 := ⟨_, rfl⟩
    have HREM : Hid (2 + (len1 : Int) % ((d : Int) + 1) = (k : Int)) := by show _ = _; rw [hrem]; omega
    have hk2 : 2 ≤ k := by omega
    have hkl : k < s.size := by omega
    clear h2 hsn hrem hkk hd hr
    have T5 := hide (And.intro (unhide T1) (unhide G))
    have hs42 : s.size ≤ 40 := hs40
    by_cases hl1 : len1 = 0
    · have hln : ¬ (0 : Int) < (len1 : Int) := by omega
      clear hl1
      have hb := s[k].toNat_lt
      obtain ⟨nb, hnb⟩ : ∃ nb : Int, nb = (((s[k].toNat : Nat) : Int) + 1) % 256 := ⟨_, rfl⟩
      have hn0 : 0 ≤ nb := by omega
      have hn1 : nb < 256 := by omega
      have hk0 : (0 : Int) ≤ (k : Int) := by omega
      have hk1 : (k : Int) ≤ (s.size : Int) := by omega
      have hk3 : (k : Int) < (s.size : Int) := by omega
      have hk4 : k ≤ s.size := by omega
      have hk5 : k + 1 ≤ s.size := by omega
      have hk6 : (k : Int) + 1 ≤ (s.size : Int) := by omega
      have hk7 : (0 : Int) ≤ (k : Int) + 1 := by omega
      have ek : IntKind.i64.wrap ((k : Int) + 1) = (k : Int) + 1 := by simp [IntKind.wrap, IntKind.bits, IntKind.signed]; omega
      have ek2 : ((k : Int) + 1).toNat = k + 1 := by omega
      have e0 : IntKind.i64.wrap ((s[k].toNat : Nat) : Int) = ((s[k].toNat : Nat) : Int) := by simp [IntKind.wrap, IntKind.bits, IntKind.signed]; omega
      have e1 : IntKind.i64.wrap (((s[k].toNat : Nat) : Int) + 1) = ((s[k].toNat : Nat) : Int) + 1 := by simp [IntKind.wrap, IntKind.bits, IntKind.signed]; omega
      have e3 : IntKind.u8.wrap (((s[k].toNat : Nat) : Int) + 1) = nb := by rw [hnb]; simp [IntKind.wrap, IntKind.bits, IntKind.signed]
      have hcv := fun (wx : World) (b c : Nat) (h : wx.cell? ⟨b, 0, none⟩ = some (.int .u8 nb)) => conv_one wx b nb c hn0 hn1 h
      have hc1 : ¬ 9223372036854775807 < k + 1 := by omega
      have hc3 : ¬ 9223372036854775807 < s.size := by omega
      have hc2 : ¬ 9223372036854775807 < k + 1 + (s.size - (k + 1)) := by omega
      obtain ⟨s9, h9⟩ : ∃ s9 : ByteArray, s.extract 0 k ++ ⟨#[Pk.b8 nb]⟩ ++ s.extract (k + 1) s.size = s9 := ⟨_, rfl⟩
      have h9' : s.extract 0 k ++ (⟨#[Pk.b8 nb]⟩ ++ s.extract (k + 1) s.size) = s9 := by rw [← h9, ByteArray.append_assoc]
      have HBAD : Hid (Ix.hasB num til ms s9.data.toList = false) := by
        have hkl' : k < s.data.toList.length := by rw [Array.length_toList]; exact hkl
        have hne : Pk.b8 nb ≠ s.data.toList[k] := fun e => by
          have e' : (Pk.b8 nb).toNat = s[k].toNat := by rw [e]; rfl
          have := b8_toNat hn0 hn1
          omega
        have hL : s9.data.toList = s.data.toList.take k ++ [Pk.b8 nb] ++ s.data.toList.drop (k + 1) := by
          rw [← h9, ByteArray.data_append, ByteArray.data_append, Array.toList_append, Array.toList_append, ByteArray.data_extract, ByteArray.data_extract, Array.toList_extract, Array.toList_extract, List.extract_eq_take_drop, List.extract_eq_take_drop]
          have hz : s.data.toList.length = s.size := Array.length_toList
          have e1 : (s.data.toList.drop (k + 1)).take (s.size - (k + 1)) = s.data.toList.drop (k + 1) := List.take_of_length_le (by rw [List.length_drop, hz]; exact Nat.le_refl _)
          simp [e1]
        rw [hL]
        exact (Ix.hasD_none (Ix.byte_bad (unhide HH) hk2 hkl' hne)).2
      have kk : ∀ w', Below w5.heap.size w5 w' → w'.cell? ⟨X, 0, none⟩ = some (.int .i64 num) ∧ w'.cell? ⟨X, 1, none⟩ = some (.int .i64 til) ∧ w'.cell? ⟨X, 2, none⟩ = some (.slice ma ms.length mc) := fun w' hw' => by
        have hx := (hw'.block _ (heapLt (unhide X1))).trans (unhide X1)
        exact ⟨cellOf hx 0, cellOf hx 1, cellOf hx 2⟩
      have KK := hide kk
      clear kk hnb hb
      go_wp2_with fail
      have hrem := unhide HREM
      simp only [hrem]
      clear hrem
      go_cut [13, 14] from 88 to 110 (fun y o wx => ∃ (Xb : Nat), y = .pointer (some ⟨Xb, 0, none⟩) ∧ o = .bool false ∧ Below w5.heap.size w5 wx)
      case first =>
        refine wp_region_held_drew (S := fun w' => w'.cell? ⟨X, 0, none⟩ = some (.int .i64 num) ∧ w'.cell? ⟨X, 1, none⟩ = some (.int .i64 til) ∧ w'.cell? ⟨X, 2, none⟩ = some (.slice ma ms.length mc)) (by kernel_rfl) (by exact unhide KK _ (below_drew w5)) (fun hHeld => ?_)
        refine anyH_at (i := 0) (d := some 89) rfl rfl (by kernel_rfl) (by kernel_rfl) (by kernel_rfl) (fun _ _ _ h => h) (by rfl) (v := ?_) ?_ (by assumption) ?_
        rotate_left
        · (intro w hSw; (try dsimp only at hSw); go_simp <;> with_reducible rfl)
        simp only [Act.put, List.setIfInBounds_toArray, List.set_cons_zero, List.set_cons_succ]
        refine anyH_at (i := 1) (d := some 90) rfl rfl (by kernel_rfl) (by kernel_rfl) (by kernel_rfl) (fun _ _ _ h => h) (by rfl) (v := ?_) ?_ (by assumption) ?_
        rotate_left
        · (intro w hSw; (try dsimp only at hSw); go_simp <;> with_reducible rfl)
        simp only [Act.put, List.setIfInBounds_toArray, List.set_cons_zero, List.set_cons_succ]
        refine anyH_at (i := 2) (d := some 91) rfl rfl (by kernel_rfl) (by kernel_rfl) (by kernel_rfl) (fun _ _ _ h => h) (by rfl) (v := ?_) ?_ (by assumption) ?_
        rotate_left
        · (intro w hSw; (try dsimp only at hSw); go_simp <;> with_reducible rfl)
        simp only [Act.put, List.setIfInBounds_toArray, List.set_cons_zero, List.set_cons_succ]
        refine anyH_at (i := 3) (d := some 92) rfl rfl (by kernel_rfl) (by kernel_rfl) (by kernel_rfl) (fun _ _ _ h => h) (by rfl) (v := ?_) ?_ (by assumption) ?_
        rotate_left
        · (intro w hSw; (try dsimp only at hSw); go_simp <;> with_reducible rfl)
        simp only [Act.put, List.setIfInBounds_toArray, List.set_cons_zero, List.set_cons_succ]
        refine anyH_at (i := 4) (d := some 93) rfl rfl (by kernel_rfl) (by kernel_rfl) (by kernel_rfl) (fun _ _ _ h => h) (by rfl) (v := ?_) ?_ (by assumption) ?_
        rotate_left
        · (intro w hSw; (try dsimp only at hSw); go_simp <;> with_reducible rfl)
        simp only [Act.put, List.setIfInBounds_toArray, List.set_cons_zero, List.set_cons_succ]
        refine anyH_at (i := 5) (d := some 94) rfl rfl (by kernel_rfl) (by kernel_rfl) (by kernel_rfl) (fun _ _ _ h => h) (by rfl) (v := ?_) ?_ (by assumption) ?_
        rotate_left
        · (intro w hSw; (try dsimp only at hSw); go_simp <;> with_reducible rfl)
        simp only [Act.put, List.setIfInBounds_toArray, List.set_cons_zero, List.set_cons_succ]
        refine anyH_at (i := 6) (d := some 95) rfl rfl (by kernel_rfl) (by kernel_rfl) (by kernel_rfl) (fun _ _ _ h => h) (by rfl) (v := ?_) ?_ (by assumption) ?_
        rotate_left
        · (intro w hSw; (try dsimp only at hSw); go_simp <;> with_reducible rfl)
        simp only [Act.put, List.setIfInBounds_toArray, List.set_cons_zero, List.set_cons_succ]
        refine anyH_at (i := 7) (d := some 96) rfl rfl (by kernel_rfl) (by kernel_rfl) (by kernel_rfl) (fun _ _ _ h => h) (by rfl) (v := ?_) ?_ (by assumption) ?_
        rotate_left
        · (intro w hSw; (try dsimp only at hSw); go_simp <;> with_reducible rfl)
        simp only [Act.put, List.setIfInBounds_toArray, List.set_cons_zero, List.set_cons_succ]
        refine anyH_at (i := 8) (d := some 97) rfl rfl (by kernel_rfl) (by kernel_rfl) (by kernel_rfl) (fun _ _ _ h => h) (by rfl) (v := ?_) ?_ (by assumption) ?_
        rotate_left
        · (intro w hSw; (try dsimp only at hSw); go_simp <;> with_reducible rfl)
        simp only [Act.put, List.setIfInBounds_toArray, List.set_cons_zero, List.set_cons_succ]
        refine anyH_at (i := 9) (d := some 98) rfl rfl (by kernel_rfl) (by kernel_rfl) (by kernel_rfl) (fun _ _ _ h => h) (by rfl) (v := ?_) ?_ (by assumption) ?_
        rotate_left
        · (intro w hSw; (try dsimp only at hSw); go_simp <;> with_reducible rfl)
        simp only [Act.put, List.setIfInBounds_toArray, List.set_cons_zero, List.set_cons_succ]
        refine anyH_at (i := 10) (d := some 99) rfl rfl (by kernel_rfl) (by kernel_rfl) (by kernel_rfl) (fun _ _ _ h => h) (by rfl) (v := ?_) ?_ (by assumption) ?_
        rotate_left
        · (intro w hSw; (try dsimp only at hSw); go_simp <;> with_reducible rfl)
        simp only [Act.put, List.setIfInBounds_toArray, List.set_cons_zero, List.set_cons_succ]
        refine anyH_at (i := 14) (d := some 103) rfl rfl (by kernel_rfl) (by kernel_rfl) (by kernel_rfl) (fun _ _ _ h => h) (by rfl) (v := ?_) ?_ (by assumption) ?_
        rotate_left
        · (intro w hSw; (try dsimp only at hSw); go_simp <;> with_reducible rfl)
        simp only [Act.put, List.setIfInBounds_toArray, List.set_cons_zero, List.set_cons_succ]
        refine anyH_at (i := 15) (d := some 104) rfl rfl (by kernel_rfl) (by kernel_rfl) (by kernel_rfl) (fun _ _ _ h => h) (by rfl) (v := ?_) ?_ (by assumption) ?_
        rotate_left
        · (intro w hSw; (try dsimp only at hSw); go_simp <;> with_reducible rfl)
        simp only [Act.put, List.setIfInBounds_toArray, List.set_cons_zero, List.set_cons_succ]
        refine anyH_at (i := 16) (d := some 105) rfl rfl (by kernel_rfl) (by kernel_rfl) (by kernel_rfl) (fun _ _ _ h => h) (by rfl) (v := ?_) ?_ (by assumption) ?_
        rotate_left
        · (intro w hSw; (try dsimp only at hSw); go_simp <;> with_reducible rfl)
        simp only [Act.put, List.setIfInBounds_toArray, List.set_cons_zero, List.set_cons_succ]
        refine anyH_at (i := 17) (d := some 106) rfl rfl (by kernel_rfl) (by kernel_rfl) (by kernel_rfl) (fun _ _ _ h => h) (by rfl) (v := ?_) ?_ (by assumption) ?_
        rotate_left
        · (intro w hSw; (try dsimp only at hSw); go_simp <;> with_reducible rfl)
        simp only [Act.put, List.setIfInBounds_toArray, List.set_cons_zero, List.set_cons_succ]
        have DD : Hid (Below w5.heap.size w5 w5.drew) := below_drew w5
        refine wpAnyH_ready (rs := [11, 23]) (by kernel_rfl) (by simp) ?_
        refine AllReadyH.cons rfl (fun K hK => ?_) (AllReadyH.cons rfl (fun K hK => ?_) AllReadyH.nil)
        rotate_left
        · go_simp
          have HBX : Hid ((w5.drew.alloc (.cells #[.int .i64 0, .int .i64 0, .slice none 0 0, .slice none 0 0] 35)).heap[w5.heap.size]? = _) := heap_alloc_new w5.drew (.cells #[.int .i64 0, .int .i64 0, .slice none 0 0, .slice none 0 0] 35)
          have LOX : Hid (w5.heap.size ≤ w5.heap.size) := (unhide DD).size
          have bX := below1 w5.drew (.cells #[.int .i64 0, .int .i64 0, .slice none 0 0, .slice none 0 0] 35)
          replace DD := hide ((unhide DD).trans (bX.mono (unhide DD).size))
          clear bX
          refine hK.out _ _ ?_ (fun hHeldN => ?_)
          · exact unhide KK _ (unhide DD)
          clear hHeld
          have hHeld := hHeldN
          clear hHeldN
          clear hK K
          try simp only [Act.put, List.setIfInBounds_toArray, List.set_cons_zero, List.set_cons_succ]
          replace DD : Hid (Below w5.heap.size w5 (World.alloc w5 (.cells #[.int .i64 0, .int .i64 0, .slice none 0 0, .slice none 0 0] 35)).drew) := DD
          replace HBX : Hid ((World.alloc w5 (.cells #[.int .i64 0, .int .i64 0, .slice none 0 0, .slice none 0 0] 35)).drew.heap[w5.heap.size]? = _) := HBX
          generalize (World.alloc w5 (.cells #[.int .i64 0, .int .i64 0, .slice none 0 0, .slice none 0 0] 35)).drew = uA at *
          refine wpAnyH_ready (rs := [11]) (by kernel_rfl) (by simp) ?_
          refine AllReadyH.cons rfl (fun K hK => ?_) AllReadyH.nil
          go_simp
          have b := below1 uA (.cells #[.int .u8 nb] 5)
          have HBY := hide (heap_alloc_new uA (.cells #[.int .u8 nb] 5))
          replace DD := hide ((unhide DD).trans (b.mono (unhide DD).size))
          replace HBX := hide ((b.block _ (heapLt (unhide HBX))).trans (unhide HBX))
          clear b
          refine hK.out _ _ ?_ (fun hHeldN => ?_)
          · exact unhide KK _ (unhide DD)
          clear hHeld
          have hHeld := hHeldN
          clear hHeldN
          clear hK K
          try simp only [Act.put, List.setIfInBounds_toArray, List.set_cons_zero, List.set_cons_succ]
          generalize hBp : uA.heap.size = Bp at *
          clear hBp
          generalize World.alloc uA (.cells #[.int .u8 nb] 5) = u1 at *
          refine wpAnyH_ready (rs := [12]) (by kernel_rfl) (by simp) ?_
          refine AllReadyH.cons rfl (fun K hK => ?_) AllReadyH.nil
          have y0 := cellOf (unhide HBY) 0
          go_simp
          refine hK.out _ _ ?_ (fun hHeldN => ?_)
          · exact unhide KK _ (unhide DD)
          clear hHeld
          have hHeld := hHeldN
          clear hHeldN
          clear hK K
          try simp only [Act.put, List.setIfInBounds_toArray, List.set_cons_zero, List.set_cons_succ]
          clear y0
          rename World => u2
          refine anyH_at (i := 13) (d := some 102) rfl rfl (by kernel_rfl) (by kernel_rfl) (by kernel_rfl) (fun _ _ _ h => h) (by rfl) (v := ?_) ?_ (by assumption) ?_
          rotate_left
          · (intro w hSw; (try dsimp only at hSw); go_simp <;> with_reducible rfl)
          simp only [Act.put, List.setIfInBounds_toArray, List.set_cons_zero, List.set_cons_succ]
          refine anyH_at (i := 18) (d := some 107) rfl rfl (by kernel_rfl) (by kernel_rfl) (by kernel_rfl) (fun _ _ _ h => h) (by rfl) (v := ?_) ?_ (by assumption) ?_
          rotate_left
          · (intro w hSw; (try dsimp only at hSw); go_simp <;> with_reducible rfl)
          simp only [Act.put, List.setIfInBounds_toArray, List.set_cons_zero, List.set_cons_succ]
          refine wpAnyH_ready (rs := [19]) (by kernel_rfl) (by simp) ?_
          refine AllReadyH.cons rfl (fun K hK => ?_) AllReadyH.nil
          go_simp
          have LP := hide (unhide DD).size
          refine (implHas_any _ num til _ ms _ ev ((unhide T5).2.later (unhide DD)) ((unhide T5).1.later (unhide DD))).mono ?_
          rintro e u3 ⟨fv2, dv2, rfl, hf2, hd2, b⟩
          replace DD := hide ((unhide DD).trans (b.mono (unhide DD).size))
          replace HBX := hide ((b.block _ (heapLt (unhide HBX))).trans (unhide HBX))
          replace HBY := hide ((b.block _ (heapLt (unhide HBY))).trans (unhide HBY))
          rw [unhide HBAD]
          generalize Ix.hasD num til ms s9.data.toList = pq at *
          obtain ⟨pn, pv, pf, pd⟩ := pq
          dsimp only at hf2 hd2 ⊢
          obtain ⟨ja, jc, rfl⟩ := own_form hf2
          obtain ⟨ka, kc, rfl⟩ := own_form hd2
          have OF := hide (own2_base hf2 (unhide LP))
          have OD := hide (own2_base hd2 (unhide LP))
          clear hf2 hd2
          clear b LP
          go_wp2_with fail
          refine hK.out _ _ ?_ (fun hHeldN => ?_)
          · exact unhide KK _ (unhide DD)
          clear hHeld
          have hHeld := hHeldN
          clear hHeldN
          clear hK K
          try simp only [Act.put, List.setIfInBounds_toArray, List.set_cons_zero, List.set_cons_succ]
          refine anyH_at (i := 20) (d := some 88) rfl rfl (by kernel_rfl) (by kernel_rfl) (by kernel_rfl) (fun _ _ _ h => h) (by rfl) (v := ?_) ?_ (by assumption) ?_
          rotate_left
          · (intro w hSw; (try dsimp only at hSw); go_simp <;> with_reducible rfl)
          simp only [Act.put, List.setIfInBounds_toArray, List.set_cons_zero, List.set_cons_succ]
          refine anyH_at (i := 21) (d := some 109) rfl rfl (by kernel_rfl) (by kernel_rfl) (by kernel_rfl) (fun _ _ _ h => h) (by rfl) (v := ?_) ?_ (by assumption) ?_
          rotate_left
          · (intro w hSw; (try dsimp only at hSw); go_simp <;> with_reducible rfl)
          simp only [Act.put, List.setIfInBounds_toArray, List.set_cons_zero, List.set_cons_succ]
          refine anyH_at (i := 22) (d := some 110) rfl rfl (by kernel_rfl) (by kernel_rfl) (by kernel_rfl) (fun _ _ _ h => h) (by rfl) (v := ?_) ?_ (by assumption) ?_
          rotate_left
          · (intro w hSw; (try dsimp only at hSw); go_simp <;> with_reducible rfl)
          simp only [Act.put, List.setIfInBounds_toArray, List.set_cons_zero, List.set_cons_succ]
          refine wpAnyH_ready (rs := [24]) (by kernel_rfl) (by simp) ?_
          refine AllReadyH.cons rfl (fun K hK => ?_) AllReadyH.nil
          obtain ⟨⟨r0, r1, r2, r3⟩, ⟨q0, q1, q2, q3⟩⟩ := box_cells (unhide HBX)
          go_simp
          obtain ⟨hBX, hOF, hOD, hBB⟩ := pkg_fill (unhide HBX) (unhide OF) (unhide OD) (unhide DD) (unhide LOX) rfl
          refine hK.out _ _ ?_ (fun hHeldN => ?_)
          · exact unhide KK _ hBB
          clear hHeld
          have hHeld := hHeldN
          clear hHeldN
          clear hK K
          try simp only [Act.put, List.setIfInBounds_toArray, List.set_cons_zero, List.set_cons_succ]
          refine anyH_at (i := 25) (d := some 14) rfl rfl (by kernel_rfl) (by kernel_rfl) (by kernel_rfl) (fun _ _ _ h => h) (by rfl) (v := ?_) ?_ (by assumption) ?_
          rotate_left
          · (intro w hSw; (try dsimp only at hSw); go_simp <;> with_reducible rfl)
          simp only [Act.put, List.setIfInBounds_toArray, List.set_cons_zero, List.set_cons_succ]
          refine wpAnyH_done (by kernel_rfl) ?_ _
          go_wp2_with fail
          go_meet
          exact ⟨_, rfl, rfl, hBB⟩
        go_simp
        have b := below1 w5.drew (.cells #[.int .u8 nb] 5)
        have HBY : Hid ((w5.drew.alloc (.cells #[.int .u8 nb] 5)).heap[w5.heap.size]? = _) := heap_alloc_new w5.drew (.cells #[.int .u8 nb] 5)
        replace DD := hide ((unhide DD).trans (b.mono (unhide DD).size))
        clear b
        refine hK.out _ _ ?_ (fun hHeldN => ?_)
        · exact unhide KK _ (unhide DD)
        clear hHeld
        have hHeld := hHeldN
        clear hHeldN
        clear hK K
        try simp only [Act.put, List.setIfInBounds_toArray, List.set_cons_zero, List.set_cons_succ]
        replace DD : Hid (Below w5.heap.size w5 (World.alloc w5 (.cells #[.int .u8 nb] 5)).drew) := DD
        replace HBY : Hid ((World.alloc w5 (.cells #[.int .u8 nb] 5)).drew.heap[w5.heap.size]? = _) := HBY
        generalize (World.alloc w5 (.cells #[.int .u8 nb] 5)).drew = u1 at *
        refine wpAnyH_ready (rs := [12, 23]) (by kernel_rfl) (by simp) ?_
        refine AllReadyH.cons rfl (fun K hK => ?_) (AllReadyH.cons rfl (fun K hK => ?_) AllReadyH.nil)
        rotate_left
        · go_simp
          have HBX := hide (heap_alloc_new u1 (.cells #[.int .i64 0, .int .i64 0, .slice none 0 0, .slice none 0 0] 35))
          have LOX : Hid (w5.heap.size ≤ u1.heap.size) := (unhide DD).size
          have bX := below1 u1 (.cells #[.int .i64 0, .int .i64 0, .slice none 0 0, .slice none 0 0] 35)
          replace DD := hide ((unhide DD).trans (bX.mono (unhide DD).size))
          replace HBY := hide ((bX.block _ (heapLt (unhide HBY))).trans (unhide HBY))
          clear bX
          refine hK.out _ _ ?_ (fun hHeldN => ?_)
          · exact unhide KK _ (unhide DD)
          clear hHeld
          have hHeld := hHeldN
          clear hHeldN
          clear hK K
          try simp only [Act.put, List.setIfInBounds_toArray, List.set_cons_zero, List.set_cons_succ]
          generalize hXb : u1.heap.size = Xb at *
          clear hXb
          refine wpAnyH_ready (rs := [12]) (by kernel_rfl) (by simp) ?_
          refine AllReadyH.cons rfl (fun K hK => ?_) AllReadyH.nil
          have y0 := cellOf (unhide HBY) 0
          go_simp
          refine hK.out _ _ ?_ (fun hHeldN => ?_)
          · exact unhide KK _ (unhide DD)
          clear hHeld
          have hHeld := hHeldN
          clear hHeldN
          clear hK K
          try simp only [Act.put, List.setIfInBounds_toArray, List.set_cons_zero, List.set_cons_succ]
          clear y0
          rename World => u2
          refine anyH_at (i := 13) (d := some 102) rfl rfl (by kernel_rfl) (by kernel_rfl) (by kernel_rfl) (fun _ _ _ h => h) (by rfl) (v := ?_) ?_ (by assumption) ?_
          rotate_left
          · (intro w hSw; (try dsimp only at hSw); go_simp <;> with_reducible rfl)
          simp only [Act.put, List.setIfInBounds_toArray, List.set_cons_zero, List.set_cons_succ]
          refine anyH_at (i := 18) (d := some 107) rfl rfl (by kernel_rfl) (by kernel_rfl) (by kernel_rfl) (fun _ _ _ h => h) (by rfl) (v := ?_) ?_ (by assumption) ?_
          rotate_left
          · (intro w hSw; (try dsimp only at hSw); go_simp <;> with_reducible rfl)
          simp only [Act.put, List.setIfInBounds_toArray, List.set_cons_zero, List.set_cons_succ]
          refine wpAnyH_ready (rs := [19]) (by kernel_rfl) (by simp) ?_
          refine AllReadyH.cons rfl (fun K hK => ?_) AllReadyH.nil
          go_simp
          have LP := hide (unhide DD).size
          refine (implHas_any _ num til _ ms _ ev ((unhide T5).2.later (unhide DD)) ((unhide T5).1.later (unhide DD))).mono ?_
          rintro e u3 ⟨fv2, dv2, rfl, hf2, hd2, b⟩
          replace DD := hide ((unhide DD).trans (b.mono (unhide DD).size))
          replace HBY := hide ((b.block _ (heapLt (unhide HBY))).trans (unhide HBY))
          replace HBX := hide ((b.block _ (heapLt (unhide HBX))).trans (unhide HBX))
          rw [unhide HBAD]
          generalize Ix.hasD num til ms s9.data.toList = pq at *
          obtain ⟨pn, pv, pf, pd⟩ := pq
          dsimp only at hf2 hd2 ⊢
          obtain ⟨ja, jc, rfl⟩ := own_form hf2
          obtain ⟨ka, kc, rfl⟩ := own_form hd2
          have OF := hide (own2_base hf2 (unhide LP))
          have OD := hide (own2_base hd2 (unhide LP))
          clear hf2 hd2
          clear b LP
          go_wp2_with fail
          refine hK.out _ _ ?_ (fun hHeldN => ?_)
          · exact unhide KK _ (unhide DD)
          clear hHeld
          have hHeld := hHeldN
          clear hHeldN
          clear hK K
          try simp only [Act.put, List.setIfInBounds_toArray, List.set_cons_zero, List.set_cons_succ]
          refine anyH_at (i := 20) (d := some 88) rfl rfl (by kernel_rfl) (by kernel_rfl) (by kernel_rfl) (fun _ _ _ h => h) (by rfl) (v := ?_) ?_ (by assumption) ?_
          rotate_left
          · (intro w hSw; (try dsimp only at hSw); go_simp <;> with_reducible rfl)
          simp only [Act.put, List.setIfInBounds_toArray, List.set_cons_zero, List.set_cons_succ]
          refine anyH_at (i := 21) (d := some 109) rfl rfl (by kernel_rfl) (by kernel_rfl) (by kernel_rfl) (fun _ _ _ h => h) (by rfl) (v := ?_) ?_ (by assumption) ?_
          rotate_left
          · (intro w hSw; (try dsimp only at hSw); go_simp <;> with_reducible rfl)
          simp only [Act.put, List.setIfInBounds_toArray, List.set_cons_zero, List.set_cons_succ]
          refine anyH_at (i := 22) (d := some 110) rfl rfl (by kernel_rfl) (by kernel_rfl) (by kernel_rfl) (fun _ _ _ h => h) (by rfl) (v := ?_) ?_ (by assumption) ?_
          rotate_left
          · (intro w hSw; (try dsimp only at hSw); go_simp <;> with_reducible rfl)
          simp only [Act.put, List.setIfInBounds_toArray, List.set_cons_zero, List.set_cons_succ]
          refine wpAnyH_ready (rs := [24]) (by kernel_rfl) (by simp) ?_
          refine AllReadyH.cons rfl (fun K hK => ?_) AllReadyH.nil
          obtain ⟨⟨r0, r1, r2, r3⟩, ⟨q0, q1, q2, q3⟩⟩ := box_cells (unhide HBX)
          go_simp
          obtain ⟨hBX, hOF, hOD, hBB⟩ := pkg_fill (unhide HBX) (unhide OF) (unhide OD) (unhide DD) (unhide LOX) rfl
          refine hK.out _ _ ?_ (fun hHeldN => ?_)
          · exact unhide KK _ hBB
          clear hHeld
          have hHeld := hHeldN
          clear hHeldN
          clear hK K
          try simp only [Act.put, List.setIfInBounds_toArray, List.set_cons_zero, List.set_cons_succ]
          refine anyH_at (i := 25) (d := some 14) rfl rfl (by kernel_rfl) (by kernel_rfl) (by kernel_rfl) (fun _ _ _ h => h) (by rfl) (v := ?_) ?_ (by assumption) ?_
          rotate_left
          · (intro w hSw; (try dsimp only at hSw); go_simp <;> with_reducible rfl)
          simp only [Act.put, List.setIfInBounds_toArray, List.set_cons_zero, List.set_cons_succ]
          refine wpAnyH_done (by kernel_rfl) ?_ _
          go_wp2_with fail
          go_meet
          exact ⟨_, rfl, rfl, hBB⟩
        have y0 := cellOf (unhide HBY) 0
        go_simp
        refine hK.out _ _ ?_ (fun hHeldN => ?_)
        · exact unhide KK _ (unhide DD)
        clear hHeld
        have hHeld := hHeldN
        clear hHeldN
        clear hK K
        try simp only [Act.put, List.setIfInBounds_toArray, List.set_cons_zero, List.set_cons_succ]
        clear y0
        rename World => u2
        refine anyH_at (i := 13) (d := some 102) rfl rfl (by kernel_rfl) (by kernel_rfl) (by kernel_rfl) (fun _ _ _ h => h) (by rfl) (v := ?_) ?_ (by assumption) ?_
        rotate_left
        · (intro w hSw; (try dsimp only at hSw); go_simp <;> with_reducible rfl)
        simp only [Act.put, List.setIfInBounds_toArray, List.set_cons_zero, List.set_cons_succ]
        refine anyH_at (i := 18) (d := some 107) rfl rfl (by kernel_rfl) (by kernel_rfl) (by kernel_rfl) (fun _ _ _ h => h) (by rfl) (v := ?_) ?_ (by assumption) ?_
        rotate_left
        · (intro w hSw; (try dsimp only at hSw); go_simp <;> with_reducible rfl)
        simp only [Act.put, List.setIfInBounds_toArray, List.set_cons_zero, List.set_cons_succ]
        refine wpAnyH_ready (rs := [19, 23]) (by kernel_rfl) (by simp) ?_
        refine AllReadyH.cons rfl (fun K hK => ?_) (AllReadyH.cons rfl (fun K hK => ?_) AllReadyH.nil)
        rotate_left
        · go_simp
          have HBX := hide (heap_alloc_new u2 (.cells #[.int .i64 0, .int .i64 0, .slice none 0 0, .slice none 0 0] 35))
          have LOX : Hid (w5.heap.size ≤ u2.heap.size) := (unhide DD).size
          have bX := below1 u2 (.cells #[.int .i64 0, .int .i64 0, .slice none 0 0, .slice none 0 0] 35)
          replace DD := hide ((unhide DD).trans (bX.mono (unhide DD).size))
          replace HBY := hide ((bX.block _ (heapLt (unhide HBY))).trans (unhide HBY))
          clear bX
          refine hK.out _ _ ?_ (fun hHeldN => ?_)
          · exact unhide KK _ (unhide DD)
          clear hHeld
          have hHeld := hHeldN
          clear hHeldN
          clear hK K
          try simp only [Act.put, List.setIfInBounds_toArray, List.set_cons_zero, List.set_cons_succ]
          generalize hXb : u2.heap.size = Xb at *
          clear hXb
          refine wpAnyH_ready (rs := [19]) (by kernel_rfl) (by simp) ?_
          refine AllReadyH.cons rfl (fun K hK => ?_) AllReadyH.nil
          go_simp
          have LP := hide (unhide DD).size
          refine (implHas_any _ num til _ ms _ ev ((unhide T5).2.later (unhide DD)) ((unhide T5).1.later (unhide DD))).mono ?_
          rintro e u3 ⟨fv2, dv2, rfl, hf2, hd2, b⟩
          replace DD := hide ((unhide DD).trans (b.mono (unhide DD).size))
          replace HBY := hide ((b.block _ (heapLt (unhide HBY))).trans (unhide HBY))
          replace HBX := hide ((b.block _ (heapLt (unhide HBX))).trans (unhide HBX))
          rw [unhide HBAD]
          generalize Ix.hasD num til ms s9.data.toList = pq at *
          obtain ⟨pn, pv, pf, pd⟩ := pq
          dsimp only at hf2 hd2 ⊢
          obtain ⟨ja, jc, rfl⟩ := own_form hf2
          obtain ⟨ka, kc, rfl⟩ := own_form hd2
          have OF := hide (own2_base hf2 (unhide LP))
          have OD := hide (own2_base hd2 (unhide LP))
          clear hf2 hd2
          clear b LP
          go_wp2_with fail
          refine hK.out _ _ ?_ (fun hHeldN => ?_)
          · exact unhide KK _ (unhide DD)
          clear hHeld
          have hHeld := hHeldN
          clear hHeldN
          clear hK K
          try simp only [Act.put, List.setIfInBounds_toArray, List.set_cons_zero, List.set_cons_succ]
          refine anyH_at (i := 20) (d := some 88) rfl rfl (by kernel_rfl) (by kernel_rfl) (by kernel_rfl) (fun _ _ _ h => h) (by rfl) (v := ?_) ?_ (by assumption) ?_
          rotate_left
          · (intro w hSw; (try dsimp only at hSw); go_simp <;> with_reducible rfl)
          simp only [Act.put, List.setIfInBounds_toArray, List.set_cons_zero, List.set_cons_succ]
          refine anyH_at (i := 21) (d := some 109) rfl rfl (by kernel_rfl) (by kernel_rfl) (by kernel_rfl) (fun _ _ _ h => h) (by rfl) (v := ?_) ?_ (by assumption) ?_
          rotate_left
          · (intro w hSw; (try dsimp only at hSw); go_simp <;> with_reducible rfl)
          simp only [Act.put, List.setIfInBounds_toArray, List.set_cons_zero, List.set_cons_succ]
          refine anyH_at (i := 22) (d := some 110) rfl rfl (by kernel_rfl) (by kernel_rfl) (by kernel_rfl) (fun _ _ _ h => h) (by rfl) (v := ?_) ?_ (by assumption) ?_
          rotate_left
          · (intro w hSw; (try dsimp only at hSw); go_simp <;> with_reducible rfl)
          simp only [Act.put, List.setIfInBounds_toArray, List.set_cons_zero, List.set_cons_succ]
          refine wpAnyH_ready (rs := [24]) (by kernel_rfl) (by simp) ?_
          refine AllReadyH.cons rfl (fun K hK => ?_) AllReadyH.nil
          obtain ⟨⟨r0, r1, r2, r3⟩, ⟨q0, q1, q2, q3⟩⟩ := box_cells (unhide HBX)
          go_simp
          obtain ⟨hBX, hOF, hOD, hBB⟩ := pkg_fill (unhide HBX) (unhide OF) (unhide OD) (unhide DD) (unhide LOX) rfl
          refine hK.out _ _ ?_ (fun hHeldN => ?_)
          · exact unhide KK _ hBB
          clear hHeld
          have hHeld := hHeldN
          clear hHeldN
          clear hK K
          try simp only [Act.put, List.setIfInBounds_toArray, List.set_cons_zero, List.set_cons_succ]
          refine anyH_at (i := 25) (d := some 14) rfl rfl (by kernel_rfl) (by kernel_rfl) (by kernel_rfl) (fun _ _ _ h => h) (by rfl) (v := ?_) ?_ (by assumption) ?_
          rotate_left
          · (intro w hSw; (try dsimp only at hSw); go_simp <;> with_reducible rfl)
          simp only [Act.put, List.setIfInBounds_toArray, List.set_cons_zero, List.set_cons_succ]
          refine wpAnyH_done (by kernel_rfl) ?_ _
          go_wp2_with fail
          go_meet
          exact ⟨_, rfl, rfl, hBB⟩
        go_simp
        have LP := hide (unhide DD).size
        refine (implHas_any _ num til _ ms _ ev ((unhide T5).2.later (unhide DD)) ((unhide T5).1.later (unhide DD))).mono ?_
        rintro e u3 ⟨fv2, dv2, rfl, hf2, hd2, b⟩
        replace DD := hide ((unhide DD).trans (b.mono (unhide DD).size))
        replace HBY := hide ((b.block _ (heapLt (unhide HBY))).trans (unhide HBY))
        rw [unhide HBAD]
        generalize Ix.hasD num til ms s9.data.toList = pq at *
        obtain ⟨pn, pv, pf, pd⟩ := pq
        dsimp only at hf2 hd2 ⊢
        obtain ⟨ja, jc, rfl⟩ := own_form hf2
        obtain ⟨ka, kc, rfl⟩ := own_form hd2
        have OF := hide (own2_base hf2 (unhide LP))
        have OD := hide (own2_base hd2 (unhide LP))
        clear hf2 hd2
        clear b LP
        go_wp2_with fail
        refine hK.out _ _ ?_ (fun hHeldN => ?_)
        · exact unhide KK _ (unhide DD)
        clear hHeld
        have hHeld := hHeldN
        clear hHeldN
        clear hK K
        try simp only [Act.put, List.setIfInBounds_toArray, List.set_cons_zero, List.set_cons_succ]
        refine anyH_at (i := 20) (d := some 88) rfl rfl (by kernel_rfl) (by kernel_rfl) (by kernel_rfl) (fun _ _ _ h => h) (by rfl) (v := ?_) ?_ (by assumption) ?_
        rotate_left
        · (intro w hSw; (try dsimp only at hSw); go_simp <;> with_reducible rfl)
        simp only [Act.put, List.setIfInBounds_toArray, List.set_cons_zero, List.set_cons_succ]
        refine anyH_at (i := 21) (d := some 109) rfl rfl (by kernel_rfl) (by kernel_rfl) (by kernel_rfl) (fun _ _ _ h => h) (by rfl) (v := ?_) ?_ (by assumption) ?_
        rotate_left
        · (intro w hSw; (try dsimp only at hSw); go_simp <;> with_reducible rfl)
        simp only [Act.put, List.setIfInBounds_toArray, List.set_cons_zero, List.set_cons_succ]
        refine anyH_at (i := 22) (d := some 110) rfl rfl (by kernel_rfl) (by kernel_rfl) (by kernel_rfl) (fun _ _ _ h => h) (by rfl) (v := ?_) ?_ (by assumption) ?_
        rotate_left
        · (intro w hSw; (try dsimp only at hSw); go_simp <;> with_reducible rfl)
        simp only [Act.put, List.setIfInBounds_toArray, List.set_cons_zero, List.set_cons_succ]
        refine wpAnyH_ready (rs := [23]) (by kernel_rfl) (by simp) ?_
        refine AllReadyH.cons rfl (fun K hK => ?_) AllReadyH.nil
        go_simp
        have HBX := hide (heap_alloc_new u3 (.cells #[.int .i64 0, .int .i64 0, .slice none 0 0, .slice none 0 0] 35))
        have LOX : Hid (w5.heap.size ≤ u3.heap.size) := (unhide DD).size
        have bX := below1 u3 (.cells #[.int .i64 0, .int .i64 0, .slice none 0 0, .slice none 0 0] 35)
        replace DD := hide ((unhide DD).trans (bX.mono (unhide DD).size))
        replace HBY := hide ((bX.block _ (heapLt (unhide HBY))).trans (unhide HBY))
        replace OF := hide (own2_later (unhide OF) bX)
        replace OD := hide (own2_later (unhide OD) bX)
        clear bX
        refine hK.out _ _ ?_ (fun hHeldN => ?_)
        · exact unhide KK _ (unhide DD)
        clear hHeld
        have hHeld := hHeldN
        clear hHeldN
        clear hK K
        try simp only [Act.put, List.setIfInBounds_toArray, List.set_cons_zero, List.set_cons_succ]
        generalize hXb : u3.heap.size = Xb at *
        clear hXb
        refine wpAnyH_ready (rs := [24]) (by kernel_rfl) (by simp) ?_
        refine AllReadyH.cons rfl (fun K hK => ?_) AllReadyH.nil
        obtain ⟨⟨r0, r1, r2, r3⟩, ⟨q0, q1, q2, q3⟩⟩ := box_cells (unhide HBX)
        go_simp
        obtain ⟨hBX, hOF, hOD, hBB⟩ := pkg_fill (unhide HBX) (unhide OF) (unhide OD) (unhide DD) (unhide LOX) rfl
        refine hK.out _ _ ?_ (fun hHeldN => ?_)
        · exact unhide KK _ hBB
        clear hHeld
        have hHeld := hHeldN
        clear hHeldN
        clear hK K
        try simp only [Act.put, List.setIfInBounds_toArray, List.set_cons_zero, List.set_cons_succ]
        refine anyH_at (i := 25) (d := some 14) rfl rfl (by kernel_rfl) (by kernel_rfl) (by kernel_rfl) (fun _ _ _ h => h) (by rfl) (v := ?_) ?_ (by assumption) ?_
        rotate_left
        · (intro w hSw; (try dsimp only at hSw); go_simp <;> with_reducible rfl)
        simp only [Act.put, List.setIfInBounds_toArray, List.set_cons_zero, List.set_cons_succ]
        refine wpAnyH_done (by kernel_rfl) ?_ _
        go_wp2_with fail
        go_meet
        exact ⟨_, rfl, rfl, hBB⟩
      case rest =>
        obtain ⟨Xb, rfl, rfl, hb2⟩ := hcut
        have hx3 := (hb2.block _ (heapLt (unhide X3))).trans (unhide X3)
        obtain ⟨q0, q1, q2, q3⟩ : _ ∧ _ ∧ _ ∧ _ := ⟨cellOf hx3 0, cellOf hx3 1, cellOf hx3 2, cellOf hx3 3⟩
        have CT := hide (implText_any wc nm vr _ _ fs ds ((unhide QF).later hb2) ((unhide QD).later hb2))
        rw [unhide HT] at CT
        replace BW := hide ((unhide BW).trans (hb2.mono (unhide BW).size))
        clear hx3 hb2
        go_wp2_with fail
        refine (unhide CT).mono ?_
        rintro e w9 ⟨rfl, bb⟩
        replace BW := hide ((unhide BW).trans (bb.mono (unhide BW).size))
        clear bb CT
        go_wp2
        go_ret
        exact ⟨rfl, unhide BW⟩
    obtain ⟨bk, off, hak, hbs, hcc⟩ := (unhide W1).2.2 (by omega)
    obtain ⟨z, z0, z1, hz⟩ := hcc 0 (by omega)
    rw [Nat.add_zero] at hz
    subst hak
    have hlp : (0 : Int) < (len1 : Int) := by omega
    clear hcc hl1
    by_cases hzz : z = 0
    · subst hzz
      have hb := s[k].toNat_lt
      obtain ⟨nb, hnb⟩ : ∃ nb : Int, nb = (((s[k].toNat : Nat) : Int) + 1) % 256 := ⟨_, rfl⟩
      have hn0 : 0 ≤ nb := by omega
      have hn1 : nb < 256 := by omega
      have hk0 : (0 : Int) ≤ (k : Int) := by omega
      have hk1 : (k : Int) ≤ (s.size : Int) := by omega
      have hk3 : (k : Int) < (s.size : Int) := by omega
      have hk4 : k ≤ s.size := by omega
      have hk5 : k + 1 ≤ s.size := by omega
      have hk6 : (k : Int) + 1 ≤ (s.size : Int) := by omega
      have hk7 : (0 : Int) ≤ (k : Int) + 1 := by omega
      have ek : IntKind.i64.wrap ((k : Int) + 1) = (k : Int) + 1 := by simp [IntKind.wrap, IntKind.bits, IntKind.signed]; omega
      have ek2 : ((k : Int) + 1).toNat = k + 1 := by omega
      have e0 : IntKind.i64.wrap ((s[k].toNat : Nat) : Int) = ((s[k].toNat : Nat) : Int) := by simp [IntKind.wrap, IntKind.bits, IntKind.signed]; omega
      have e1 : IntKind.i64.wrap (((s[k].toNat : Nat) : Int) + 1) = ((s[k].toNat : Nat) : Int) + 1 := by simp [IntKind.wrap, IntKind.bits, IntKind.signed]; omega
      have e3 : IntKind.u8.wrap (((s[k].toNat : Nat) : Int) + 1) = nb := by rw [hnb]; simp [IntKind.wrap, IntKind.bits, IntKind.signed]
      have hcv := fun (wx : World) (b c : Nat) (h : wx.cell? ⟨b, 0, none⟩ = some (.int .u8 nb)) => conv_one wx b nb c hn0 hn1 h
      have hc1 : ¬ 9223372036854775807 < k + 1 := by omega
      have hc3 : ¬ 9223372036854775807 < s.size := by omega
      have hc2 : ¬ 9223372036854775807 < k + 1 + (s.size - (k + 1)) := by omega
      obtain ⟨s9, h9⟩ : ∃ s9 : ByteArray, s.extract 0 k ++ ⟨#[Pk.b8 nb]⟩ ++ s.extract (k + 1) s.size = s9 := ⟨_, rfl⟩
      have h9' : s.extract 0 k ++ (⟨#[Pk.b8 nb]⟩ ++ s.extract (k + 1) s.size) = s9 := by rw [← h9, ByteArray.append_assoc]
      have HBAD : Hid (Ix.hasB num til ms s9.data.toList = false) := by
        have hkl' : k < s.data.toList.length := by rw [Array.length_toList]; exact hkl
        have hne : Pk.b8 nb ≠ s.data.toList[k] := fun e => by
          have e' : (Pk.b8 nb).toNat = s[k].toNat := by rw [e]; rfl
          have := b8_toNat hn0 hn1
          omega
        have hL : s9.data.toList = s.data.toList.take k ++ [Pk.b8 nb] ++ s.data.toList.drop (k + 1) := by
          rw [← h9, ByteArray.data_append, ByteArray.data_append, Array.toList_append, Array.toList_append, ByteArray.data_extract, ByteArray.data_extract, Array.toList_extract, Array.toList_extract, List.extract_eq_take_drop, List.extract_eq_take_drop]
          have hz : s.data.toList.length = s.size := Array.length_toList
          have e1 : (s.data.toList.drop (k + 1)).take (s.size - (k + 1)) = s.data.toList.drop (k + 1) := List.take_of_length_le (by rw [List.length_drop, hz]; exact Nat.le_refl _)
          simp [e1]
        rw [hL]
        exact (Ix.hasD_none (Ix.byte_bad (unhide HH) hk2 hkl' hne)).2
      have kk : ∀ w', Below w5.heap.size w5 w' → w'.cell? ⟨X, 0, none⟩ = some (.int .i64 num) ∧ w'.cell? ⟨X, 1, none⟩ = some (.int .i64 til) ∧ w'.cell? ⟨X, 2, none⟩ = some (.slice ma ms.length mc) := fun w' hw' => by
        have hx := (hw'.block _ (heapLt (unhide X1))).trans (unhide X1)
        exact ⟨cellOf hx 0, cellOf hx 1, cellOf hx 2⟩
      have KK := hide kk
      clear kk hnb hb
      go_wp2_with fail
      have hrem := unhide HREM
      simp only [hrem]
      clear hrem
      go_cut [13, 14] from 88 to 110 (fun y o wx => ∃ (Xb : Nat), y = .pointer (some ⟨Xb, 0, none⟩) ∧ o = .bool false ∧ Below w5.heap.size w5 wx)
      case first =>
        refine wp_region_held_drew (S := fun w' => w'.cell? ⟨X, 0, none⟩ = some (.int .i64 num) ∧ w'.cell? ⟨X, 1, none⟩ = some (.int .i64 til) ∧ w'.cell? ⟨X, 2, none⟩ = some (.slice ma ms.length mc)) (by kernel_rfl) (by exact unhide KK _ (below_drew w5)) (fun hHeld => ?_)
        refine anyH_at (i := 0) (d := some 89) rfl rfl (by kernel_rfl) (by kernel_rfl) (by kernel_rfl) (fun _ _ _ h => h) (by rfl) (v := ?_) ?_ (by assumption) ?_
        rotate_left
        · (intro w hSw; (try dsimp only at hSw); go_simp <;> with_reducible rfl)
        simp only [Act.put, List.setIfInBounds_toArray, List.set_cons_zero, List.set_cons_succ]
        refine anyH_at (i := 1) (d := some 90) rfl rfl (by kernel_rfl) (by kernel_rfl) (by kernel_rfl) (fun _ _ _ h => h) (by rfl) (v := ?_) ?_ (by assumption) ?_
        rotate_left
        · (intro w hSw; (try dsimp only at hSw); go_simp <;> with_reducible rfl)
        simp only [Act.put, List.setIfInBounds_toArray, List.set_cons_zero, List.set_cons_succ]
        refine anyH_at (i := 2) (d := some 91) rfl rfl (by kernel_rfl) (by kernel_rfl) (by kernel_rfl) (fun _ _ _ h => h) (by rfl) (v := ?_) ?_ (by assumption) ?_
        rotate_left
        · (intro w hSw; (try dsimp only at hSw); go_simp <;> with_reducible rfl)
        simp only [Act.put, List.setIfInBounds_toArray, List.set_cons_zero, List.set_cons_succ]
        refine anyH_at (i := 3) (d := some 92) rfl rfl (by kernel_rfl) (by kernel_rfl) (by kernel_rfl) (fun _ _ _ h => h) (by rfl) (v := ?_) ?_ (by assumption) ?_
        rotate_left
        · (intro w hSw; (try dsimp only at hSw); go_simp <;> with_reducible rfl)
        simp only [Act.put, List.setIfInBounds_toArray, List.set_cons_zero, List.set_cons_succ]
        refine anyH_at (i := 4) (d := some 93) rfl rfl (by kernel_rfl) (by kernel_rfl) (by kernel_rfl) (fun _ _ _ h => h) (by rfl) (v := ?_) ?_ (by assumption) ?_
        rotate_left
        · (intro w hSw; (try dsimp only at hSw); go_simp <;> with_reducible rfl)
        simp only [Act.put, List.setIfInBounds_toArray, List.set_cons_zero, List.set_cons_succ]
        refine anyH_at (i := 5) (d := some 94) rfl rfl (by kernel_rfl) (by kernel_rfl) (by kernel_rfl) (fun _ _ _ h => h) (by rfl) (v := ?_) ?_ (by assumption) ?_
        rotate_left
        · (intro w hSw; (try dsimp only at hSw); go_simp <;> with_reducible rfl)
        simp only [Act.put, List.setIfInBounds_toArray, List.set_cons_zero, List.set_cons_succ]
        refine anyH_at (i := 6) (d := some 95) rfl rfl (by kernel_rfl) (by kernel_rfl) (by kernel_rfl) (fun _ _ _ h => h) (by rfl) (v := ?_) ?_ (by assumption) ?_
        rotate_left
        · (intro w hSw; (try dsimp only at hSw); go_simp <;> with_reducible rfl)
        simp only [Act.put, List.setIfInBounds_toArray, List.set_cons_zero, List.set_cons_succ]
        refine anyH_at (i := 7) (d := some 96) rfl rfl (by kernel_rfl) (by kernel_rfl) (by kernel_rfl) (fun _ _ _ h => h) (by rfl) (v := ?_) ?_ (by assumption) ?_
        rotate_left
        · (intro w hSw; (try dsimp only at hSw); go_simp <;> with_reducible rfl)
        simp only [Act.put, List.setIfInBounds_toArray, List.set_cons_zero, List.set_cons_succ]
        refine anyH_at (i := 8) (d := some 97) rfl rfl (by kernel_rfl) (by kernel_rfl) (by kernel_rfl) (fun _ _ _ h => h) (by rfl) (v := ?_) ?_ (by assumption) ?_
        rotate_left
        · (intro w hSw; (try dsimp only at hSw); go_simp <;> with_reducible rfl)
        simp only [Act.put, List.setIfInBounds_toArray, List.set_cons_zero, List.set_cons_succ]
        refine anyH_at (i := 9) (d := some 98) rfl rfl (by kernel_rfl) (by kernel_rfl) (by kernel_rfl) (fun _ _ _ h => h) (by rfl) (v := ?_) ?_ (by assumption) ?_
        rotate_left
        · (intro w hSw; (try dsimp only at hSw); go_simp <;> with_reducible rfl)
        simp only [Act.put, List.setIfInBounds_toArray, List.set_cons_zero, List.set_cons_succ]
        refine anyH_at (i := 10) (d := some 99) rfl rfl (by kernel_rfl) (by kernel_rfl) (by kernel_rfl) (fun _ _ _ h => h) (by rfl) (v := ?_) ?_ (by assumption) ?_
        rotate_left
        · (intro w hSw; (try dsimp only at hSw); go_simp <;> with_reducible rfl)
        simp only [Act.put, List.setIfInBounds_toArray, List.set_cons_zero, List.set_cons_succ]
        refine anyH_at (i := 14) (d := some 103) rfl rfl (by kernel_rfl) (by kernel_rfl) (by kernel_rfl) (fun _ _ _ h => h) (by rfl) (v := ?_) ?_ (by assumption) ?_
        rotate_left
        · (intro w hSw; (try dsimp only at hSw); go_simp <;> with_reducible rfl)
        simp only [Act.put, List.setIfInBounds_toArray, List.set_cons_zero, List.set_cons_succ]
        refine anyH_at (i := 15) (d := some 104) rfl rfl (by kernel_rfl) (by kernel_rfl) (by kernel_rfl) (fun _ _ _ h => h) (by rfl) (v := ?_) ?_ (by assumption) ?_
        rotate_left
        · (intro w hSw; (try dsimp only at hSw); go_simp <;> with_reducible rfl)
        simp only [Act.put, List.setIfInBounds_toArray, List.set_cons_zero, List.set_cons_succ]
        refine anyH_at (i := 16) (d := some 105) rfl rfl (by kernel_rfl) (by kernel_rfl) (by kernel_rfl) (fun _ _ _ h => h) (by rfl) (v := ?_) ?_ (by assumption) ?_
        rotate_left
        · (intro w hSw; (try dsimp only at hSw); go_simp <;> with_reducible rfl)
        simp only [Act.put, List.setIfInBounds_toArray, List.set_cons_zero, List.set_cons_succ]
        refine anyH_at (i := 17) (d := some 106) rfl rfl (by kernel_rfl) (by kernel_rfl) (by kernel_rfl) (fun _ _ _ h => h) (by rfl) (v := ?_) ?_ (by assumption) ?_
        rotate_left
        · (intro w hSw; (try dsimp only at hSw); go_simp <;> with_reducible rfl)
        simp only [Act.put, List.setIfInBounds_toArray, List.set_cons_zero, List.set_cons_succ]
        have DD : Hid (Below w5.heap.size w5 w5.drew) := below_drew w5
        refine wpAnyH_ready (rs := [11, 23]) (by kernel_rfl) (by simp) ?_
        refine AllReadyH.cons rfl (fun K hK => ?_) (AllReadyH.cons rfl (fun K hK => ?_) AllReadyH.nil)
        rotate_left
        · go_simp
          have HBX : Hid ((w5.drew.alloc (.cells #[.int .i64 0, .int .i64 0, .slice none 0 0, .slice none 0 0] 35)).heap[w5.heap.size]? = _) := heap_alloc_new w5.drew (.cells #[.int .i64 0, .int .i64 0, .slice none 0 0, .slice none 0 0] 35)
          have LOX : Hid (w5.heap.size ≤ w5.heap.size) := (unhide DD).size
          have bX := below1 w5.drew (.cells #[.int .i64 0, .int .i64 0, .slice none 0 0, .slice none 0 0] 35)
          replace DD := hide ((unhide DD).trans (bX.mono (unhide DD).size))
          clear bX
          refine hK.out _ _ ?_ (fun hHeldN => ?_)
          · exact unhide KK _ (unhide DD)
          clear hHeld
          have hHeld := hHeldN
          clear hHeldN
          clear hK K
          try simp only [Act.put, List.setIfInBounds_toArray, List.set_cons_zero, List.set_cons_succ]
          replace DD : Hid (Below w5.heap.size w5 (World.alloc w5 (.cells #[.int .i64 0, .int .i64 0, .slice none 0 0, .slice none 0 0] 35)).drew) := DD
          replace HBX : Hid ((World.alloc w5 (.cells #[.int .i64 0, .int .i64 0, .slice none 0 0, .slice none 0 0] 35)).drew.heap[w5.heap.size]? = _) := HBX
          generalize (World.alloc w5 (.cells #[.int .i64 0, .int .i64 0, .slice none 0 0, .slice none 0 0] 35)).drew = uA at *
          refine wpAnyH_ready (rs := [11]) (by kernel_rfl) (by simp) ?_
          refine AllReadyH.cons rfl (fun K hK => ?_) AllReadyH.nil
          go_simp
          have b := below1 uA (.cells #[.int .u8 nb] 5)
          have HBY := hide (heap_alloc_new uA (.cells #[.int .u8 nb] 5))
          replace DD := hide ((unhide DD).trans (b.mono (unhide DD).size))
          replace HBX := hide ((b.block _ (heapLt (unhide HBX))).trans (unhide HBX))
          clear b
          refine hK.out _ _ ?_ (fun hHeldN => ?_)
          · exact unhide KK _ (unhide DD)
          clear hHeld
          have hHeld := hHeldN
          clear hHeldN
          clear hK K
          try simp only [Act.put, List.setIfInBounds_toArray, List.set_cons_zero, List.set_cons_succ]
          generalize hBp : uA.heap.size = Bp at *
          clear hBp
          generalize World.alloc uA (.cells #[.int .u8 nb] 5) = u1 at *
          refine wpAnyH_ready (rs := [12]) (by kernel_rfl) (by simp) ?_
          refine AllReadyH.cons rfl (fun K hK => ?_) AllReadyH.nil
          have y0 := cellOf (unhide HBY) 0
          go_simp
          refine hK.out _ _ ?_ (fun hHeldN => ?_)
          · exact unhide KK _ (unhide DD)
          clear hHeld
          have hHeld := hHeldN
          clear hHeldN
          clear hK K
          try simp only [Act.put, List.setIfInBounds_toArray, List.set_cons_zero, List.set_cons_succ]
          clear y0
          rename World => u2
          refine anyH_at (i := 13) (d := some 102) rfl rfl (by kernel_rfl) (by kernel_rfl) (by kernel_rfl) (fun _ _ _ h => h) (by rfl) (v := ?_) ?_ (by assumption) ?_
          rotate_left
          · (intro w hSw; (try dsimp only at hSw); go_simp <;> with_reducible rfl)
          simp only [Act.put, List.setIfInBounds_toArray, List.set_cons_zero, List.set_cons_succ]
          refine anyH_at (i := 18) (d := some 107) rfl rfl (by kernel_rfl) (by kernel_rfl) (by kernel_rfl) (fun _ _ _ h => h) (by rfl) (v := ?_) ?_ (by assumption) ?_
          rotate_left
          · (intro w hSw; (try dsimp only at hSw); go_simp <;> with_reducible rfl)
          simp only [Act.put, List.setIfInBounds_toArray, List.set_cons_zero, List.set_cons_succ]
          refine wpAnyH_ready (rs := [19]) (by kernel_rfl) (by simp) ?_
          refine AllReadyH.cons rfl (fun K hK => ?_) AllReadyH.nil
          go_simp
          have LP := hide (unhide DD).size
          refine (implHas_any _ num til _ ms _ ev ((unhide T5).2.later (unhide DD)) ((unhide T5).1.later (unhide DD))).mono ?_
          rintro e u3 ⟨fv2, dv2, rfl, hf2, hd2, b⟩
          replace DD := hide ((unhide DD).trans (b.mono (unhide DD).size))
          replace HBX := hide ((b.block _ (heapLt (unhide HBX))).trans (unhide HBX))
          replace HBY := hide ((b.block _ (heapLt (unhide HBY))).trans (unhide HBY))
          rw [unhide HBAD]
          generalize Ix.hasD num til ms s9.data.toList = pq at *
          obtain ⟨pn, pv, pf, pd⟩ := pq
          dsimp only at hf2 hd2 ⊢
          obtain ⟨ja, jc, rfl⟩ := own_form hf2
          obtain ⟨ka, kc, rfl⟩ := own_form hd2
          have OF := hide (own2_base hf2 (unhide LP))
          have OD := hide (own2_base hd2 (unhide LP))
          clear hf2 hd2
          clear b LP
          go_wp2_with fail
          refine hK.out _ _ ?_ (fun hHeldN => ?_)
          · exact unhide KK _ (unhide DD)
          clear hHeld
          have hHeld := hHeldN
          clear hHeldN
          clear hK K
          try simp only [Act.put, List.setIfInBounds_toArray, List.set_cons_zero, List.set_cons_succ]
          refine anyH_at (i := 20) (d := some 88) rfl rfl (by kernel_rfl) (by kernel_rfl) (by kernel_rfl) (fun _ _ _ h => h) (by rfl) (v := ?_) ?_ (by assumption) ?_
          rotate_left
          · (intro w hSw; (try dsimp only at hSw); go_simp <;> with_reducible rfl)
          simp only [Act.put, List.setIfInBounds_toArray, List.set_cons_zero, List.set_cons_succ]
          refine anyH_at (i := 21) (d := some 109) rfl rfl (by kernel_rfl) (by kernel_rfl) (by kernel_rfl) (fun _ _ _ h => h) (by rfl) (v := ?_) ?_ (by assumption) ?_
          rotate_left
          · (intro w hSw; (try dsimp only at hSw); go_simp <;> with_reducible rfl)
          simp only [Act.put, List.setIfInBounds_toArray, List.set_cons_zero, List.set_cons_succ]
          refine anyH_at (i := 22) (d := some 110) rfl rfl (by kernel_rfl) (by kernel_rfl) (by kernel_rfl) (fun _ _ _ h => h) (by rfl) (v := ?_) ?_ (by assumption) ?_
          rotate_left
          · (intro w hSw; (try dsimp only at hSw); go_simp <;> with_reducible rfl)
          simp only [Act.put, List.setIfInBounds_toArray, List.set_cons_zero, List.set_cons_succ]
          refine wpAnyH_ready (rs := [24]) (by kernel_rfl) (by simp) ?_
          refine AllReadyH.cons rfl (fun K hK => ?_) AllReadyH.nil
          obtain ⟨⟨r0, r1, r2, r3⟩, ⟨q0, q1, q2, q3⟩⟩ := box_cells (unhide HBX)
          go_simp
          obtain ⟨hBX, hOF, hOD, hBB⟩ := pkg_fill (unhide HBX) (unhide OF) (unhide OD) (unhide DD) (unhide LOX) rfl
          refine hK.out _ _ ?_ (fun hHeldN => ?_)
          · exact unhide KK _ hBB
          clear hHeld
          have hHeld := hHeldN
          clear hHeldN
          clear hK K
          try simp only [Act.put, List.setIfInBounds_toArray, List.set_cons_zero, List.set_cons_succ]
          refine anyH_at (i := 25) (d := some 14) rfl rfl (by kernel_rfl) (by kernel_rfl) (by kernel_rfl) (fun _ _ _ h => h) (by rfl) (v := ?_) ?_ (by assumption) ?_
          rotate_left
          · (intro w hSw; (try dsimp only at hSw); go_simp <;> with_reducible rfl)
          simp only [Act.put, List.setIfInBounds_toArray, List.set_cons_zero, List.set_cons_succ]
          refine wpAnyH_done (by kernel_rfl) ?_ _
          go_wp2_with fail
          go_meet
          exact ⟨_, rfl, rfl, hBB⟩
        go_simp
        have b := below1 w5.drew (.cells #[.int .u8 nb] 5)
        have HBY : Hid ((w5.drew.alloc (.cells #[.int .u8 nb] 5)).heap[w5.heap.size]? = _) := heap_alloc_new w5.drew (.cells #[.int .u8 nb] 5)
        replace DD := hide ((unhide DD).trans (b.mono (unhide DD).size))
        clear b
        refine hK.out _ _ ?_ (fun hHeldN => ?_)
        · exact unhide KK _ (unhide DD)
        clear hHeld
        have hHeld := hHeldN
        clear hHeldN
        clear hK K
        try simp only [Act.put, List.setIfInBounds_toArray, List.set_cons_zero, List.set_cons_succ]
        replace DD : Hid (Below w5.heap.size w5 (World.alloc w5 (.cells #[.int .u8 nb] 5)).drew) := DD
        replace HBY : Hid ((World.alloc w5 (.cells #[.int .u8 nb] 5)).drew.heap[w5.heap.size]? = _) := HBY
        generalize (World.alloc w5 (.cells #[.int .u8 nb] 5)).drew = u1 at *
        refine wpAnyH_ready (rs := [12, 23]) (by kernel_rfl) (by simp) ?_
        refine AllReadyH.cons rfl (fun K hK => ?_) (AllReadyH.cons rfl (fun K hK => ?_) AllReadyH.nil)
        rotate_left
        · go_simp
          have HBX := hide (heap_alloc_new u1 (.cells #[.int .i64 0, .int .i64 0, .slice none 0 0, .slice none 0 0] 35))
          have LOX : Hid (w5.heap.size ≤ u1.heap.size) := (unhide DD).size
          have bX := below1 u1 (.cells #[.int .i64 0, .int .i64 0, .slice none 0 0, .slice none 0 0] 35)
          replace DD := hide ((unhide DD).trans (bX.mono (unhide DD).size))
          replace HBY := hide ((bX.block _ (heapLt (unhide HBY))).trans (unhide HBY))
          clear bX
          refine hK.out _ _ ?_ (fun hHeldN => ?_)
          · exact unhide KK _ (unhide DD)
          clear hHeld
          have hHeld := hHeldN
          clear hHeldN
          clear hK K
          try simp only [Act.put, List.setIfInBounds_toArray, List.set_cons_zero, List.set_cons_succ]
          generalize hXb : u1.heap.size = Xb at *
          clear hXb
          refine wpAnyH_ready (rs := [12]) (by kernel_rfl) (by simp) ?_
          refine AllReadyH.cons rfl (fun K hK => ?_) AllReadyH.nil
          have y0 := cellOf (unhide HBY) 0
          go_simp
          refine hK.out _ _ ?_ (fun hHeldN => ?_)
          · exact unhide KK _ (unhide DD)
          clear hHeld
          have hHeld := hHeldN
          clear hHeldN
          clear hK K
          try simp only [Act.put, List.setIfInBounds_toArray, List.set_cons_zero, List.set_cons_succ]
          clear y0
          rename World => u2
          refine anyH_at (i := 13) (d := some 102) rfl rfl (by kernel_rfl) (by kernel_rfl) (by kernel_rfl) (fun _ _ _ h => h) (by rfl) (v := ?_) ?_ (by assumption) ?_
          rotate_left
          · (intro w hSw; (try dsimp only at hSw); go_simp <;> with_reducible rfl)
          simp only [Act.put, List.setIfInBounds_toArray, List.set_cons_zero, List.set_cons_succ]
          refine anyH_at (i := 18) (d := some 107) rfl rfl (by kernel_rfl) (by kernel_rfl) (by kernel_rfl) (fun _ _ _ h => h) (by rfl) (v := ?_) ?_ (by assumption) ?_
          rotate_left
          · (intro w hSw; (try dsimp only at hSw); go_simp <;> with_reducible rfl)
          simp only [Act.put, List.setIfInBounds_toArray, List.set_cons_zero, List.set_cons_succ]
          refine wpAnyH_ready (rs := [19]) (by kernel_rfl) (by simp) ?_
          refine AllReadyH.cons rfl (fun K hK => ?_) AllReadyH.nil
          go_simp
          have LP := hide (unhide DD).size
          refine (implHas_any _ num til _ ms _ ev ((unhide T5).2.later (unhide DD)) ((unhide T5).1.later (unhide DD))).mono ?_
          rintro e u3 ⟨fv2, dv2, rfl, hf2, hd2, b⟩
          replace DD := hide ((unhide DD).trans (b.mono (unhide DD).size))
          replace HBY := hide ((b.block _ (heapLt (unhide HBY))).trans (unhide HBY))
          replace HBX := hide ((b.block _ (heapLt (unhide HBX))).trans (unhide HBX))
          rw [unhide HBAD]
          generalize Ix.hasD num til ms s9.data.toList = pq at *
          obtain ⟨pn, pv, pf, pd⟩ := pq
          dsimp only at hf2 hd2 ⊢
          obtain ⟨ja, jc, rfl⟩ := own_form hf2
          obtain ⟨ka, kc, rfl⟩ := own_form hd2
          have OF := hide (own2_base hf2 (unhide LP))
          have OD := hide (own2_base hd2 (unhide LP))
          clear hf2 hd2
          clear b LP
          go_wp2_with fail
          refine hK.out _ _ ?_ (fun hHeldN => ?_)
          · exact unhide KK _ (unhide DD)
          clear hHeld
          have hHeld := hHeldN
          clear hHeldN
          clear hK K
          try simp only [Act.put, List.setIfInBounds_toArray, List.set_cons_zero, List.set_cons_succ]
          refine anyH_at (i := 20) (d := some 88) rfl rfl (by kernel_rfl) (by kernel_rfl) (by kernel_rfl) (fun _ _ _ h => h) (by rfl) (v := ?_) ?_ (by assumption) ?_
          rotate_left
          · (intro w hSw; (try dsimp only at hSw); go_simp <;> with_reducible rfl)
          simp only [Act.put, List.setIfInBounds_toArray, List.set_cons_zero, List.set_cons_succ]
          refine anyH_at (i := 21) (d := some 109) rfl rfl (by kernel_rfl) (by kernel_rfl) (by kernel_rfl) (fun _ _ _ h => h) (by rfl) (v := ?_) ?_ (by assumption) ?_
          rotate_left
          · (intro w hSw; (try dsimp only at hSw); go_simp <;> with_reducible rfl)
          simp only [Act.put, List.setIfInBounds_toArray, List.set_cons_zero, List.set_cons_succ]
          refine anyH_at (i := 22) (d := some 110) rfl rfl (by kernel_rfl) (by kernel_rfl) (by kernel_rfl) (fun _ _ _ h => h) (by rfl) (v := ?_) ?_ (by assumption) ?_
          rotate_left
          · (intro w hSw; (try dsimp only at hSw); go_simp <;> with_reducible rfl)
          simp only [Act.put, List.setIfInBounds_toArray, List.set_cons_zero, List.set_cons_succ]
          refine wpAnyH_ready (rs := [24]) (by kernel_rfl) (by simp) ?_
          refine AllReadyH.cons rfl (fun K hK => ?_) AllReadyH.nil
          obtain ⟨⟨r0, r1, r2, r3⟩, ⟨q0, q1, q2, q3⟩⟩ := box_cells (unhide HBX)
          go_simp
          obtain ⟨hBX, hOF, hOD, hBB⟩ := pkg_fill (unhide HBX) (unhide OF) (unhide OD) (unhide DD) (unhide LOX) rfl
          refine hK.out _ _ ?_ (fun hHeldN => ?_)
          · exact unhide KK _ hBB
          clear hHeld
          have hHeld := hHeldN
          clear hHeldN
          clear hK K
          try simp only [Act.put, List.setIfInBounds_toArray, List.set_cons_zero, List.set_cons_succ]
          refine anyH_at (i := 25) (d := some 14) rfl rfl (by kernel_rfl) (by kernel_rfl) (by kernel_rfl) (fun _ _ _ h => h) (by rfl) (v := ?_) ?_ (by assumption) ?_
          rotate_left
          · (intro w hSw; (try dsimp only at hSw); go_simp <;> with_reducible rfl)
          simp only [Act.put, List.setIfInBounds_toArray, List.set_cons_zero, List.set_cons_succ]
          refine wpAnyH_done (by kernel_rfl) ?_ _
          go_wp2_with fail
          go_meet
          exact ⟨_, rfl, rfl, hBB⟩
        have y0 := cellOf (unhide HBY) 0
        go_simp
        refine hK.out _ _ ?_ (fun hHeldN => ?_)
        · exact unhide KK _ (unhide DD)
        clear hHeld
        have hHeld := hHeldN
        clear hHeldN
        clear hK K
        try simp only [Act.put, List.setIfInBounds_toArray, List.set_cons_zero, List.set_cons_succ]
        clear y0
        rename World => u2
        refine anyH_at (i := 13) (d := some 102) rfl rfl (by kernel_rfl) (by kernel_rfl) (by kernel_rfl) (fun _ _ _ h => h) (by rfl) (v := ?_) ?_ (by assumption) ?_
        rotate_left
        · (intro w hSw; (try dsimp only at hSw); go_simp <;> with_reducible rfl)
        simp only [Act.put, List.setIfInBounds_toArray, List.set_cons_zero, List.set_cons_succ]
        refine anyH_at (i := 18) (d := some 107) rfl rfl (by kernel_rfl) (by kernel_rfl) (by kernel_rfl) (fun _ _ _ h => h) (by rfl) (v := ?_) ?_ (by assumption) ?_
        rotate_left
        · (intro w hSw; (try dsimp only at hSw); go_simp <;> with_reducible rfl)
        simp only [Act.put, List.setIfInBounds_toArray, List.set_cons_zero, List.set_cons_succ]
        refine wpAnyH_ready (rs := [19, 23]) (by kernel_rfl) (by simp) ?_
        refine AllReadyH.cons rfl (fun K hK => ?_) (AllReadyH.cons rfl (fun K hK => ?_) AllReadyH.nil)
        rotate_left
        · go_simp
          have HBX := hide (heap_alloc_new u2 (.cells #[.int .i64 0, .int .i64 0, .slice none 0 0, .slice none 0 0] 35))
          have LOX : Hid (w5.heap.size ≤ u2.heap.size) := (unhide DD).size
          have bX := below1 u2 (.cells #[.int .i64 0, .int .i64 0, .slice none 0 0, .slice none 0 0] 35)
          replace DD := hide ((unhide DD).trans (bX.mono (unhide DD).size))
          replace HBY := hide ((bX.block _ (heapLt (unhide HBY))).trans (unhide HBY))
          clear bX
          refine hK.out _ _ ?_ (fun hHeldN => ?_)
          · exact unhide KK _ (unhide DD)
          clear hHeld
          have hHeld := hHeldN
          clear hHeldN
          clear hK K
          try simp only [Act.put, List.setIfInBounds_toArray, List.set_cons_zero, List.set_cons_succ]
          generalize hXb : u2.heap.size = Xb at *
          clear hXb
          refine wpAnyH_ready (rs := [19]) (by kernel_rfl) (by simp) ?_
          refine AllReadyH.cons rfl (fun K hK => ?_) AllReadyH.nil
          go_simp
          have LP := hide (unhide DD).size
          refine (implHas_any _ num til _ ms _ ev ((unhide T5).2.later (unhide DD)) ((unhide T5).1.later (unhide DD))).mono ?_
          rintro e u3 ⟨fv2, dv2, rfl, hf2, hd2, b⟩
          replace DD := hide ((unhide DD).trans (b.mono (unhide DD).size))
          replace HBY := hide ((b.block _ (heapLt (unhide HBY))).trans (unhide HBY))
          replace HBX := hide ((b.block _ (heapLt (unhide HBX))).trans (unhide HBX))
          rw [unhide HBAD]
          generalize Ix.hasD num til ms s9.data.toList = pq at *
          obtain ⟨pn, pv, pf, pd⟩ := pq
          dsimp only at hf2 hd2 ⊢
          obtain ⟨ja, jc, rfl⟩ := own_form hf2
          obtain ⟨ka, kc, rfl⟩ := own_form hd2
          have OF := hide (own2_base hf2 (unhide LP))
          have OD := hide (own2_base hd2 (unhide LP))
          clear hf2 hd2
          clear b LP
          go_wp2_with fail
          refine hK.out _ _ ?_ (fun hHeldN => ?_)
          · exact unhide KK _ (unhide DD)
          clear hHeld
          have hHeld := hHeldN
          clear hHeldN
          clear hK K
          try simp only [Act.put, List.setIfInBounds_toArray, List.set_cons_zero, List.set_cons_succ]
          refine anyH_at (i := 20) (d := some 88) rfl rfl (by kernel_rfl) (by kernel_rfl) (by kernel_rfl) (fun _ _ _ h => h) (by rfl) (v := ?_) ?_ (by assumption) ?_
          rotate_left
          · (intro w hSw; (try dsimp only at hSw); go_simp <;> with_reducible rfl)
          simp only [Act.put, List.setIfInBounds_toArray, List.set_cons_zero, List.set_cons_succ]
          refine anyH_at (i := 21) (d := some 109) rfl rfl (by kernel_rfl) (by kernel_rfl) (by kernel_rfl) (fun _ _ _ h => h) (by rfl) (v := ?_) ?_ (by assumption) ?_
          rotate_left
          · (intro w hSw; (try dsimp only at hSw); go_simp <;> with_reducible rfl)
          simp only [Act.put, List.setIfInBounds_toArray, List.set_cons_zero, List.set_cons_succ]
          refine anyH_at (i := 22) (d := some 110) rfl rfl (by kernel_rfl) (by kernel_rfl) (by kernel_rfl) (fun _ _ _ h => h) (by rfl) (v := ?_) ?_ (by assumption) ?_
          rotate_left
          · (intro w hSw; (try dsimp only at hSw); go_simp <;> with_reducible rfl)
          simp only [Act.put, List.setIfInBounds_toArray, List.set_cons_zero, List.set_cons_succ]
          refine wpAnyH_ready (rs := [24]) (by kernel_rfl) (by simp) ?_
          refine AllReadyH.cons rfl (fun K hK => ?_) AllReadyH.nil
          obtain ⟨⟨r0, r1, r2, r3⟩, ⟨q0, q1, q2, q3⟩⟩ := box_cells (unhide HBX)
          go_simp
          obtain ⟨hBX, hOF, hOD, hBB⟩ := pkg_fill (unhide HBX) (unhide OF) (unhide OD) (unhide DD) (unhide LOX) rfl
          refine hK.out _ _ ?_ (fun hHeldN => ?_)
          · exact unhide KK _ hBB
          clear hHeld
          have hHeld := hHeldN
          clear hHeldN
          clear hK K
          try simp only [Act.put, List.setIfInBounds_toArray, List.set_cons_zero, List.set_cons_succ]
          refine anyH_at (i := 25) (d := some 14) rfl rfl (by kernel_rfl) (by kernel_rfl) (by kernel_rfl) (fun _ _ _ h => h) (by rfl) (v := ?_) ?_ (by assumption) ?_
          rotate_left
          · (intro w hSw; (try dsimp only at hSw); go_simp <;> with_reducible rfl)
          simp only [Act.put, List.setIfInBounds_toArray, List.set_cons_zero, List.set_cons_succ]
          refine wpAnyH_done (by kernel_rfl) ?_ _
          go_wp2_with fail
          go_meet
          exact ⟨_, rfl, rfl, hBB⟩
        go_simp
        have LP := hide (unhide DD).size
        refine (implHas_any _ num til _ ms _ ev ((unhide T5).2.later (unhide DD)) ((unhide T5).1.later (unhide DD))).mono ?_
        rintro e u3 ⟨fv2, dv2, rfl, hf2, hd2, b⟩
        replace DD := hide ((unhide DD).trans (b.mono (unhide DD).size))
        replace HBY := hide ((b.block _ (heapLt (unhide HBY))).trans (unhide HBY))
        rw [unhide HBAD]
        generalize Ix.hasD num til ms s9.data.toList = pq at *
        obtain ⟨pn, pv, pf, pd⟩ := pq
        dsimp only at hf2 hd2 ⊢
        obtain ⟨ja, jc, rfl⟩ := own_form hf2
        obtain ⟨ka, kc, rfl⟩ := own_form hd2
        have OF := hide (own2_base hf2 (unhide LP))
        have OD := hide (own2_base hd2 (unhide LP))
        clear hf2 hd2
        clear b LP
        go_wp2_with fail
        refine hK.out _ _ ?_ (fun hHeldN => ?_)
        · exact unhide KK _ (unhide DD)
        clear hHeld
        have hHeld := hHeldN
        clear hHeldN
        clear hK K
        try simp only [Act.put, List.setIfInBounds_toArray, List.set_cons_zero, List.set_cons_succ]
        refine anyH_at (i := 20) (d := some 88) rfl rfl (by kernel_rfl) (by kernel_rfl) (by kernel_rfl) (fun _ _ _ h => h) (by rfl) (v := ?_) ?_ (by assumption) ?_
        rotate_left
        · (intro w hSw; (try dsimp only at hSw); go_simp <;> with_reducible rfl)
        simp only [Act.put, List.setIfInBounds_toArray, List.set_cons_zero, List.set_cons_succ]
        refine anyH_at (i := 21) (d := some 109) rfl rfl (by kernel_rfl) (by kernel_rfl) (by kernel_rfl) (fun _ _ _ h => h) (by rfl) (v := ?_) ?_ (by assumption) ?_
        rotate_left
        · (intro w hSw; (try dsimp only at hSw); go_simp <;> with_reducible rfl)
        simp only [Act.put, List.setIfInBounds_toArray, List.set_cons_zero, List.set_cons_succ]
        refine anyH_at (i := 22) (d := some 110) rfl rfl (by kernel_rfl) (by kernel_rfl) (by kernel_rfl) (fun _ _ _ h => h) (by rfl) (v := ?_) ?_ (by assumption) ?_
        rotate_left
        · (intro w hSw; (try dsimp only at hSw); go_simp <;> with_reducible rfl)
        simp only [Act.put, List.setIfInBounds_toArray, List.set_cons_zero, List.set_cons_succ]
        refine wpAnyH_ready (rs := [23]) (by kernel_rfl) (by simp) ?_
        refine AllReadyH.cons rfl (fun K hK => ?_) AllReadyH.nil
        go_simp
        have HBX := hide (heap_alloc_new u3 (.cells #[.int .i64 0, .int .i64 0, .slice none 0 0, .slice none 0 0] 35))
        have LOX : Hid (w5.heap.size ≤ u3.heap.size) := (unhide DD).size
        have bX := below1 u3 (.cells #[.int .i64 0, .int .i64 0, .slice none 0 0, .slice none 0 0] 35)
        replace DD := hide ((unhide DD).trans (bX.mono (unhide DD).size))
        replace HBY := hide ((bX.block _ (heapLt (unhide HBY))).trans (unhide HBY))
        replace OF := hide (own2_later (unhide OF) bX)
        replace OD := hide (own2_later (unhide OD) bX)
        clear bX
        refine hK.out _ _ ?_ (fun hHeldN => ?_)
        · exact unhide KK _ (unhide DD)
        clear hHeld
        have hHeld := hHeldN
        clear hHeldN
        clear hK K
        try simp only [Act.put, List.setIfInBounds_toArray, List.set_cons_zero, List.set_cons_succ]
        generalize hXb : u3.heap.size = Xb at *
        clear hXb
        refine wpAnyH_ready (rs := [24]) (by kernel_rfl) (by simp) ?_
        refine AllReadyH.cons rfl (fun K hK => ?_) AllReadyH.nil
        obtain ⟨⟨r0, r1, r2, r3⟩, ⟨q0, q1, q2, q3⟩⟩ := box_cells (unhide HBX)
        go_simp
        obtain ⟨hBX, hOF, hOD, hBB⟩ := pkg_fill (unhide HBX) (unhide OF) (unhide OD) (unhide DD) (unhide LOX) rfl
        refine hK.out _ _ ?_ (fun hHeldN => ?_)
        · exact unhide KK _ hBB
        clear hHeld
        have hHeld := hHeldN
        clear hHeldN
        clear hK K
        try simp only [Act.put, List.setIfInBounds_toArray, List.set_cons_zero, List.set_cons_succ]
        refine anyH_at (i := 25) (d := some 14) rfl rfl (by kernel_rfl) (by kernel_rfl) (by kernel_rfl) (fun _ _ _ h => h) (by rfl) (v := ?_) ?_ (by assumption) ?_
        rotate_left
        · (intro w hSw; (try dsimp only at hSw); go_simp <;> with_reducible rfl)
        simp only [Act.put, List.setIfInBounds_toArray, List.set_cons_zero, List.set_cons_succ]
        refine wpAnyH_done (by kernel_rfl) ?_ _
        go_wp2_with fail
        go_meet
        exact ⟨_, rfl, rfl, hBB⟩
      case rest =>
        obtain ⟨Xb, rfl, rfl, hb2⟩ := hcut
        have hx3 := (hb2.block _ (heapLt (unhide X3))).trans (unhide X3)
        obtain ⟨q0, q1, q2, q3⟩ : _ ∧ _ ∧ _ ∧ _ := ⟨cellOf hx3 0, cellOf hx3 1, cellOf hx3 2, cellOf hx3 3⟩
        have CT := hide (implText_any wc nm vr _ _ fs ds ((unhide QF).later hb2) ((unhide QD).later hb2))
        rw [unhide HT] at CT
        replace BW := hide ((unhide BW).trans (hb2.mono (unhide BW).size))
        clear hx3 hb2
        go_wp2_with fail
        refine (unhide CT).mono ?_
        rintro e w9 ⟨rfl, bb⟩
        replace BW := hide ((unhide BW).trans (bb.mono (unhide BW).size))
        clear bb CT
        go_wp2
        go_ret
        exact ⟨rfl, unhide BW⟩
    have hzp : 0 < z := by omega
    have ewz : IntKind.i64.wrap z = z := by simp [IntKind.wrap, IntKind.bits, IntKind.signed]; omega
    clear hzz
    have hb := s[k].toNat_lt
    obtain ⟨nb, hnb⟩ : ∃ nb : Int, nb = (((s[k].toNat : Nat) : Int) + z) % 256 := ⟨_, rfl⟩
    have hn0 : 0 ≤ nb := by omega
    have hn1 : nb < 256 := by omega
    have hk0 : (0 : Int) ≤ (k : Int) := by omega
    have hk1 : (k : Int) ≤ (s.size : Int) := by omega
    have hk3 : (k : Int) < (s.size : Int) := by omega
    have hk4 : k ≤ s.size := by omega
    have hk5 : k + 1 ≤ s.size := by omega
    have hk6 : (k : Int) + 1 ≤ (s.size : Int) := by omega
    have hk7 : (0 : Int) ≤ (k : Int) + 1 := by omega
    have ek : IntKind.i64.wrap ((k : Int) + 1) = (k : Int) + 1 := by simp [IntKind.wrap, IntKind.bits, IntKind.signed]; omega
    have ek2 : ((k : Int) + 1).toNat = k + 1 := by omega
    have e0 : IntKind.i64.wrap ((s[k].toNat : Nat) : Int) = ((s[k].toNat : Nat) : Int) := by simp [IntKind.wrap, IntKind.bits, IntKind.signed]; omega
    have e1 : IntKind.i64.wrap (((s[k].toNat : Nat) : Int) + z) = ((s[k].toNat : Nat) : Int) + z := by simp [IntKind.wrap, IntKind.bits, IntKind.signed]; omega
    have e3 : IntKind.u8.wrap (((s[k].toNat : Nat) : Int) + z) = nb := by rw [hnb]; simp [IntKind.wrap, IntKind.bits, IntKind.signed]
    have hcv := fun (wx : World) (b c : Nat) (h : wx.cell? ⟨b, 0, none⟩ = some (.int .u8 nb)) => conv_one wx b nb c hn0 hn1 h
    have hc1 : ¬ 9223372036854775807 < k + 1 := by omega
    have hc3 : ¬ 9223372036854775807 < s.size := by omega
    have hc2 : ¬ 9223372036854775807 < k + 1 + (s.size - (k + 1)) := by omega
    obtain ⟨s9, h9⟩ : ∃ s9 : ByteArray, s.extract 0 k ++ ⟨#[Pk.b8 nb]⟩ ++ s.extract (k + 1) s.size = s9 := ⟨_, rfl⟩
    have h9' : s.extract 0 k ++ (⟨#[Pk.b8 nb]⟩ ++ s.extract (k + 1) s.size) = s9 := by rw [← h9, ByteArray.append_assoc]
    have HBAD : Hid (Ix.hasB num til ms s9.data.toList = false) := by
      have hkl' : k < s.data.toList.length := by rw [Array.length_toList]; exact hkl
      have hne : Pk.b8 nb ≠ s.data.toList[k] := fun e => by
        have e' : (Pk.b8 nb).toNat = s[k].toNat := by rw [e]; rfl
        have := b8_toNat hn0 hn1
        omega
      have hL : s9.data.toList = s.data.toList.take k ++ [Pk.b8 nb] ++ s.data.toList.drop (k + 1) := by
        rw [← h9, ByteArray.data_append, ByteArray.data_append, Array.toList_append, Array.toList_append, ByteArray.data_extract, ByteArray.data_extract, Array.toList_extract, Array.toList_extract, List.extract_eq_take_drop, List.extract_eq_take_drop]
        have hz : s.data.toList.length = s.size := Array.length_toList
        have e1 : (s.data.toList.drop (k + 1)).take (s.size - (k + 1)) = s.data.toList.drop (k + 1) := List.take_of_length_le (by rw [List.length_drop, hz]; exact Nat.le_refl _)
        simp [e1]
      rw [hL]
      exact (Ix.hasD_none (Ix.byte_bad (unhide HH) hk2 hkl' hne)).2
    have kk : ∀ w', Below w5.heap.size w5 w' → w'.cell? ⟨X, 0, none⟩ = some (.int .i64 num) ∧ w'.cell? ⟨X, 1, none⟩ = some (.int .i64 til) ∧ w'.cell? ⟨X, 2, none⟩ = some (.slice ma ms.length mc) := fun w' hw' => by
      have hx := (hw'.block _ (heapLt (unhide X1))).trans (unhide X1)
      exact ⟨cellOf hx 0, cellOf hx 1, cellOf hx 2⟩
    have KK := hide kk
    clear kk hnb hb
    go_wp2_with fail
    have hrem := unhide HREM
    simp only [hrem]
    clear hrem
    go_cut [13, 14] from 88 to 110 (fun y o wx => ∃ (Xb : Nat), y = .pointer (some ⟨Xb, 0, none⟩) ∧ o = .bool false ∧ Below w5.heap.size w5 wx)
    case first =>
      refine wp_region_held_drew (S := fun w' => w'.cell? ⟨X, 0, none⟩ = some (.int .i64 num) ∧ w'.cell? ⟨X, 1, none⟩ = some (.int .i64 til) ∧ w'.cell? ⟨X, 2, none⟩ = some (.slice ma ms.length mc)) (by kernel_rfl) (by exact unhide KK _ (below_drew w5)) (fun hHeld => ?_)
      refine anyH_at (i := 0) (d := some 89) rfl rfl (by kernel_rfl) (by kernel_rfl) (by kernel_rfl) (fun _ _ _ h => h) (by rfl) (v := ?_) ?_ (by assumption) ?_
      rotate_left
      · (intro w hSw; (try dsimp only at hSw); go_simp <;> with_reducible rfl)
      simp only [Act.put, List.setIfInBounds_toArray, List.set_cons_zero, List.set_cons_succ]
      refine anyH_at (i := 1) (d := some 90) rfl rfl (by kernel_rfl) (by kernel_rfl) (by kernel_rfl) (fun _ _ _ h => h) (by rfl) (v := ?_) ?_ (by assumption) ?_
      rotate_left
      · (intro w hSw; (try dsimp only at hSw); go_simp <;> with_reducible rfl)
      simp only [Act.put, List.setIfInBounds_toArray, List.set_cons_zero, List.set_cons_succ]
      refine anyH_at (i := 2) (d := some 91) rfl rfl (by kernel_rfl) (by kernel_rfl) (by kernel_rfl) (fun _ _ _ h => h) (by rfl) (v := ?_) ?_ (by assumption) ?_
      rotate_left
      · (intro w hSw; (try dsimp only at hSw); go_simp <;> with_reducible rfl)
      simp only [Act.put, List.setIfInBounds_toArray, List.set_cons_zero, List.set_cons_succ]
      refine anyH_at (i := 3) (d := some 92) rfl rfl (by kernel_rfl) (by kernel_rfl) (by kernel_rfl) (fun _ _ _ h => h) (by rfl) (v := ?_) ?_ (by assumption) ?_
      rotate_left
      · (intro w hSw; (try dsimp only at hSw); go_simp <;> with_reducible rfl)
      simp only [Act.put, List.setIfInBounds_toArray, List.set_cons_zero, List.set_cons_succ]
      refine anyH_at (i := 4) (d := some 93) rfl rfl (by kernel_rfl) (by kernel_rfl) (by kernel_rfl) (fun _ _ _ h => h) (by rfl) (v := ?_) ?_ (by assumption) ?_
      rotate_left
      · (intro w hSw; (try dsimp only at hSw); go_simp <;> with_reducible rfl)
      simp only [Act.put, List.setIfInBounds_toArray, List.set_cons_zero, List.set_cons_succ]
      refine anyH_at (i := 5) (d := some 94) rfl rfl (by kernel_rfl) (by kernel_rfl) (by kernel_rfl) (fun _ _ _ h => h) (by rfl) (v := ?_) ?_ (by assumption) ?_
      rotate_left
      · (intro w hSw; (try dsimp only at hSw); go_simp <;> with_reducible rfl)
      simp only [Act.put, List.setIfInBounds_toArray, List.set_cons_zero, List.set_cons_succ]
      refine anyH_at (i := 6) (d := some 95) rfl rfl (by kernel_rfl) (by kernel_rfl) (by kernel_rfl) (fun _ _ _ h => h) (by rfl) (v := ?_) ?_ (by assumption) ?_
      rotate_left
      · (intro w hSw; (try dsimp only at hSw); go_simp <;> with_reducible rfl)
      simp only [Act.put, List.setIfInBounds_toArray, List.set_cons_zero, List.set_cons_succ]
      refine anyH_at (i := 7) (d := some 96) rfl rfl (by kernel_rfl) (by kernel_rfl) (by kernel_rfl) (fun _ _ _ h => h) (by rfl) (v := ?_) ?_ (by assumption) ?_
      rotate_left
      · (intro w hSw; (try dsimp only at hSw); go_simp <;> with_reducible rfl)
      simp only [Act.put, List.setIfInBounds_toArray, List.set_cons_zero, List.set_cons_succ]
      refine anyH_at (i := 8) (d := some 97) rfl rfl (by kernel_rfl) (by kernel_rfl) (by kernel_rfl) (fun _ _ _ h => h) (by rfl) (v := ?_) ?_ (by assumption) ?_
      rotate_left
      · (intro w hSw; (try dsimp only at hSw); go_simp <;> with_reducible rfl)
      simp only [Act.put, List.setIfInBounds_toArray, List.set_cons_zero, List.set_cons_succ]
      refine anyH_at (i := 9) (d := some 98) rfl rfl (by kernel_rfl) (by kernel_rfl) (by kernel_rfl) (fun _ _ _ h => h) (by rfl) (v := ?_) ?_ (by assumption) ?_
      rotate_left
      · (intro w hSw; (try dsimp only at hSw); go_simp <;> with_reducible rfl)
      simp only [Act.put, List.setIfInBounds_toArray, List.set_cons_zero, List.set_cons_succ]
      refine anyH_at (i := 10) (d := some 99) rfl rfl (by kernel_rfl) (by kernel_rfl) (by kernel_rfl) (fun _ _ _ h => h) (by rfl) (v := ?_) ?_ (by assumption) ?_
      rotate_left
      · (intro w hSw; (try dsimp only at hSw); go_simp <;> with_reducible rfl)
      simp only [Act.put, List.setIfInBounds_toArray, List.set_cons_zero, List.set_cons_succ]
      refine anyH_at (i := 14) (d := some 103) rfl rfl (by kernel_rfl) (by kernel_rfl) (by kernel_rfl) (fun _ _ _ h => h) (by rfl) (v := ?_) ?_ (by assumption) ?_
      rotate_left
      · (intro w hSw; (try dsimp only at hSw); go_simp <;> with_reducible rfl)
      simp only [Act.put, List.setIfInBounds_toArray, List.set_cons_zero, List.set_cons_succ]
      refine anyH_at (i := 15) (d := some 104) rfl rfl (by kernel_rfl) (by kernel_rfl) (by kernel_rfl) (fun _ _ _ h => h) (by rfl) (v := ?_) ?_ (by assumption) ?_
      rotate_left
      · (intro w hSw; (try dsimp only at hSw); go_simp <;> with_reducible rfl)
      simp only [Act.put, List.setIfInBounds_toArray, List.set_cons_zero, List.set_cons_succ]
      refine anyH_at (i := 16) (d := some 105) rfl rfl (by kernel_rfl) (by kernel_rfl) (by kernel_rfl) (fun _ _ _ h => h) (by rfl) (v := ?_) ?_ (by assumption) ?_
      rotate_left
      · (intro w hSw; (try dsimp only at hSw); go_simp <;> with_reducible rfl)
      simp only [Act.put, List.setIfInBounds_toArray, List.set_cons_zero, List.set_cons_succ]
      refine anyH_at (i := 17) (d := some 106) rfl rfl (by kernel_rfl) (by kernel_rfl) (by kernel_rfl) (fun _ _ _ h => h) (by rfl) (v := ?_) ?_ (by assumption) ?_
      rotate_left
      · (intro w hSw; (try dsimp only at hSw); go_simp <;> with_reducible rfl)
      simp only [Act.put, List.setIfInBounds_toArray, List.set_cons_zero, List.set_cons_succ]
      have DD : Hid (Below w5.heap.size w5 w5.drew) := below_drew w5
      refine wpAnyH_ready (rs := [11, 23]) (by kernel_rfl) (by simp) ?_
      refine AllReadyH.cons rfl (fun K hK => ?_) (AllReadyH.cons rfl (fun K hK => ?_) AllReadyH.nil)
      rotate_left
      · go_simp
        have HBX : Hid ((w5.drew.alloc (.cells #[.int .i64 0, .int .i64 0, .slice none 0 0, .slice none 0 0] 35)).heap[w5.heap.size]? = _) := heap_alloc_new w5.drew (.cells #[.int .i64 0, .int .i64 0, .slice none 0 0, .slice none 0 0] 35)
        have LOX : Hid (w5.heap.size ≤ w5.heap.size) := (unhide DD).size
        have bX := below1 w5.drew (.cells #[.int .i64 0, .int .i64 0, .slice none 0 0, .slice none 0 0] 35)
        replace DD := hide ((unhide DD).trans (bX.mono (unhide DD).size))
        clear bX
        refine hK.out _ _ ?_ (fun hHeldN => ?_)
        · exact unhide KK _ (unhide DD)
        clear hHeld
        have hHeld := hHeldN
        clear hHeldN
        clear hK K
        try simp only [Act.put, List.setIfInBounds_toArray, List.set_cons_zero, List.set_cons_succ]
        replace DD : Hid (Below w5.heap.size w5 (World.alloc w5 (.cells #[.int .i64 0, .int .i64 0, .slice none 0 0, .slice none 0 0] 35)).drew) := DD
        replace HBX : Hid ((World.alloc w5 (.cells #[.int .i64 0, .int .i64 0, .slice none 0 0, .slice none 0 0] 35)).drew.heap[w5.heap.size]? = _) := HBX
        generalize (World.alloc w5 (.cells #[.int .i64 0, .int .i64 0, .slice none 0 0, .slice none 0 0] 35)).drew = uA at *
        refine wpAnyH_ready (rs := [11]) (by kernel_rfl) (by simp) ?_
        refine AllReadyH.cons rfl (fun K hK => ?_) AllReadyH.nil
        go_simp
        have b := below1 uA (.cells #[.int .u8 nb] 5)
        have HBY := hide (heap_alloc_new uA (.cells #[.int .u8 nb] 5))
        replace DD := hide ((unhide DD).trans (b.mono (unhide DD).size))
        replace HBX := hide ((b.block _ (heapLt (unhide HBX))).trans (unhide HBX))
        clear b
        refine hK.out _ _ ?_ (fun hHeldN => ?_)
        · exact unhide KK _ (unhide DD)
        clear hHeld
        have hHeld := hHeldN
        clear hHeldN
        clear hK K
        try simp only [Act.put, List.setIfInBounds_toArray, List.set_cons_zero, List.set_cons_succ]
        generalize hBp : uA.heap.size = Bp at *
        clear hBp
        generalize World.alloc uA (.cells #[.int .u8 nb] 5) = u1 at *
        refine wpAnyH_ready (rs := [12]) (by kernel_rfl) (by simp) ?_
        refine AllReadyH.cons rfl (fun K hK => ?_) AllReadyH.nil
        have y0 := cellOf (unhide HBY) 0
        go_simp
        refine hK.out _ _ ?_ (fun hHeldN => ?_)
        · exact unhide KK _ (unhide DD)
        clear hHeld
        have hHeld := hHeldN
        clear hHeldN
        clear hK K
        try simp only [Act.put, List.setIfInBounds_toArray, List.set_cons_zero, List.set_cons_succ]
        clear y0
        rename World => u2
        refine anyH_at (i := 13) (d := some 102) rfl rfl (by kernel_rfl) (by kernel_rfl) (by kernel_rfl) (fun _ _ _ h => h) (by rfl) (v := ?_) ?_ (by assumption) ?_
        rotate_left
        · (intro w hSw; (try dsimp only at hSw); go_simp <;> with_reducible rfl)
        simp only [Act.put, List.setIfInBounds_toArray, List.set_cons_zero, List.set_cons_succ]
        refine anyH_at (i := 18) (d := some 107) rfl rfl (by kernel_rfl) (by kernel_rfl) (by kernel_rfl) (fun _ _ _ h => h) (by rfl) (v := ?_) ?_ (by assumption) ?_
        rotate_left
        · (intro w hSw; (try dsimp only at hSw); go_simp <;> with_reducible rfl)
        simp only [Act.put, List.setIfInBounds_toArray, List.set_cons_zero, List.set_cons_succ]
        refine wpAnyH_ready (rs := [19]) (by kernel_rfl) (by simp) ?_
        refine AllReadyH.cons rfl (fun K hK => ?_) AllReadyH.nil
        go_simp
        have LP := hide (unhide DD).size
        refine (implHas_any _ num til _ ms _ ev ((unhide T5).2.later (unhide DD)) ((unhide T5).1.later (unhide DD))).mono ?_
        rintro e u3 ⟨fv2, dv2, rfl, hf2, hd2, b⟩
        replace DD := hide ((unhide DD).trans (b.mono (unhide DD).size))
        replace HBX := hide ((b.block _ (heapLt (unhide HBX))).trans (unhide HBX))
        replace HBY := hide ((b.block _ (heapLt (unhide HBY))).trans (unhide HBY))
        rw [unhide HBAD]
        generalize Ix.hasD num til ms s9.data.toList = pq at *
        obtain ⟨pn, pv, pf, pd⟩ := pq
        dsimp only at hf2 hd2 ⊢
        obtain ⟨ja, jc, rfl⟩ := own_form hf2
        obtain ⟨ka, kc, rfl⟩ := own_form hd2
        have OF := hide (own2_base hf2 (unhide LP))
        have OD := hide (own2_base hd2 (unhide LP))
        clear hf2 hd2
        clear b LP
        go_wp2_with fail
        refine hK.out _ _ ?_ (fun hHeldN => ?_)
        · exact unhide KK _ (unhide DD)
        clear hHeld
        have hHeld := hHeldN
        clear hHeldN
        clear hK K
        try simp only [Act.put, List.setIfInBounds_toArray, List.set_cons_zero, List.set_cons_succ]
        refine anyH_at (i := 20) (d := some 88) rfl rfl (by kernel_rfl) (by kernel_rfl) (by kernel_rfl) (fun _ _ _ h => h) (by rfl) (v := ?_) ?_ (by assumption) ?_
        rotate_left
        · (intro w hSw; (try dsimp only at hSw); go_simp <;> with_reducible rfl)
        simp only [Act.put, List.setIfInBounds_toArray, List.set_cons_zero, List.set_cons_succ]
        refine anyH_at (i := 21) (d := some 109) rfl rfl (by kernel_rfl) (by kernel_rfl) (by kernel_rfl) (fun _ _ _ h => h) (by rfl) (v := ?_) ?_ (by assumption) ?_
        rotate_left
        · (intro w hSw; (try dsimp only at hSw); go_simp <;> with_reducible rfl)
        simp only [Act.put, List.setIfInBounds_toArray, List.set_cons_zero, List.set_cons_succ]
        refine anyH_at (i := 22) (d := some 110) rfl rfl (by kernel_rfl) (by kernel_rfl) (by kernel_rfl) (fun _ _ _ h => h) (by rfl) (v := ?_) ?_ (by assumption) ?_
        rotate_left
        · (intro w hSw; (try dsimp only at hSw); go_simp <;> with_reducible rfl)
        simp only [Act.put, List.setIfInBounds_toArray, List.set_cons_zero, List.set_cons_succ]
        refine wpAnyH_ready (rs := [24]) (by kernel_rfl) (by simp) ?_
        refine AllReadyH.cons rfl (fun K hK => ?_) AllReadyH.nil
        obtain ⟨⟨r0, r1, r2, r3⟩, ⟨q0, q1, q2, q3⟩⟩ := box_cells (unhide HBX)
        go_simp
        obtain ⟨hBX, hOF, hOD, hBB⟩ := pkg_fill (unhide HBX) (unhide OF) (unhide OD) (unhide DD) (unhide LOX) rfl
        refine hK.out _ _ ?_ (fun hHeldN => ?_)
        · exact unhide KK _ hBB
        clear hHeld
        have hHeld := hHeldN
        clear hHeldN
        clear hK K
        try simp only [Act.put, List.setIfInBounds_toArray, List.set_cons_zero, List.set_cons_succ]
        refine anyH_at (i := 25) (d := some 14) rfl rfl (by kernel_rfl) (by kernel_rfl) (by kernel_rfl) (fun _ _ _ h => h) (by rfl) (v := ?_) ?_ (by assumption) ?_
        rotate_left
        · (intro w hSw; (try dsimp only at hSw); go_simp <;> with_reducible rfl)
        simp only [Act.put, List.setIfInBounds_toArray, List.set_cons_zero, List.set_cons_succ]
        refine wpAnyH_done (by kernel_rfl) ?_ _
        go_wp2_with fail
        go_meet
        exact ⟨_, rfl, rfl, hBB⟩
      go_simp
      have b := below1 w5.drew (.cells #[.int .u8 nb] 5)
      have HBY : Hid ((w5.drew.alloc (.cells #[.int .u8 nb] 5)).heap[w5.heap.size]? = _) := heap_alloc_new w5.drew (.cells #[.int .u8 nb] 5)
      replace DD := hide ((unhide DD).trans (b.mono (unhide DD).size))
      clear b
      refine hK.out _ _ ?_ (fun hHeldN => ?_)
      · exact unhide KK _ (unhide DD)
      clear hHeld
      have hHeld := hHeldN
      clear hHeldN
      clear hK K
      try simp only [Act.put, List.setIfInBounds_toArray, List.set_cons_zero, List.set_cons_succ]
      replace DD : Hid (Below w5.heap.size w5 (World.alloc w5 (.cells #[.int .u8 nb] 5)).drew) := DD
      replace HBY : Hid ((World.alloc w5 (.cells #[.int .u8 nb] 5)).drew.heap[w5.heap.size]? = _) := HBY
      generalize (World.alloc w5 (.cells #[.int .u8 nb] 5)).drew = u1 at *
      refine wpAnyH_ready (rs := [12, 23]) (by kernel_rfl) (by simp) ?_
      refine AllReadyH.cons rfl (fun K hK => ?_) (AllReadyH.cons rfl (fun K hK => ?_) AllReadyH.nil)
      rotate_left
      · go_simp
        have HBX := hide (heap_alloc_new u1 (.cells #[.int .i64 0, .int .i64 0, .slice none 0 0, .slice none 0 0] 35))
        have LOX : Hid (w5.heap.size ≤ u1.heap.size) := (unhide DD).size
        have bX := below1 u1 (.cells #[.int .i64 0, .int .i64 0, .slice none 0 0, .slice none 0 0] 35)
        replace DD := hide ((unhide DD).trans (bX.mono (unhide DD).size))
        replace HBY := hide ((bX.block _ (heapLt (unhide HBY))).trans (unhide HBY))
        clear bX
        refine hK.out _ _ ?_ (fun hHeldN => ?_)
        · exact unhide KK _ (unhide DD)
        clear hHeld
        have hHeld := hHeldN
        clear hHeldN
        clear hK K
        try simp only [Act.put, List.setIfInBounds_toArray, List.set_cons_zero, List.set_cons_succ]
        generalize hXb : u1.heap.size = Xb at *
        clear hXb
        refine wpAnyH_ready (rs := [12]) (by kernel_rfl) (by simp) ?_
        refine AllReadyH.cons rfl (fun K hK => ?_) AllReadyH.nil
        have y0 := cellOf (unhide HBY) 0
        go_simp
        refine hK.out _ _ ?_ (fun hHeldN => ?_)
        · exact unhide KK _ (unhide DD)
        clear hHeld
        have hHeld := hHeldN
        clear hHeldN
        clear hK K
        try simp only [Act.put, List.setIfInBounds_toArray, List.set_cons_zero, List.set_cons_succ]
        clear y0
        rename World => u2
        refine anyH_at (i := 13) (d := some 102) rfl rfl (by kernel_rfl) (by kernel_rfl) (by kernel_rfl) (fun _ _ _ h => h) (by rfl) (v := ?_) ?_ (by assumption) ?_
        rotate_left
        · (intro w hSw; (try dsimp only at hSw); go_simp <;> with_reducible rfl)
        simp only [Act.put, List.setIfInBounds_toArray, List.set_cons_zero, List.set_cons_succ]
        refine anyH_at (i := 18) (d := some 107) rfl rfl (by kernel_rfl) (by kernel_rfl) (by kernel_rfl) (fun _ _ _ h => h) (by rfl) (v := ?_) ?_ (by assumption) ?_
        rotate_left
        · (intro w hSw; (try dsimp only at hSw); go_simp <;> with_reducible rfl)
        simp only [Act.put, List.setIfInBounds_toArray, List.set_cons_zero, List.set_cons_succ]
        refine wpAnyH_ready (rs := [19]) (by kernel_rfl) (by simp) ?_
        refine AllReadyH.cons rfl (fun K hK => ?_) AllReadyH.nil
        go_simp
        have LP := hide (unhide DD).size
        refine (implHas_any _ num til _ ms _ ev ((unhide T5).2.later (unhide DD)) ((unhide T5).1.later (unhide DD))).mono ?_
        rintro e u3 ⟨fv2, dv2, rfl, hf2, hd2, b⟩
        replace DD := hide ((unhide DD).trans (b.mono (unhide DD).size))
        replace HBY := hide ((b.block _ (heapLt (unhide HBY))).trans (unhide HBY))
        replace HBX := hide ((b.block _ (heapLt (unhide HBX))).trans (unhide HBX))
        rw [unhide HBAD]
        generalize Ix.hasD num til ms s9.data.toList = pq at *
        obtain ⟨pn, pv, pf, pd⟩ := pq
        dsimp only at hf2 hd2 ⊢
        obtain ⟨ja, jc, rfl⟩ := own_form hf2
        obtain ⟨ka, kc, rfl⟩ := own_form hd2
        have OF := hide (own2_base hf2 (unhide LP))
        have OD := hide (own2_base hd2 (unhide LP))
        clear hf2 hd2
        clear b LP
        go_wp2_with fail
        refine hK.out _ _ ?_ (fun hHeldN => ?_)
        · exact unhide KK _ (unhide DD)
        clear hHeld
        have hHeld := hHeldN
        clear hHeldN
        clear hK K
        try simp only [Act.put, List.setIfInBounds_toArray, List.set_cons_zero, List.set_cons_succ]
        refine anyH_at (i := 20) (d := some 88) rfl rfl (by kernel_rfl) (by kernel_rfl) (by kernel_rfl) (fun _ _ _ h => h) (by rfl) (v := ?_) ?_ (by assumption) ?_
        rotate_left
        · (intro w hSw; (try dsimp only at hSw); go_simp <;> with_reducible rfl)
        simp only [Act.put, List.setIfInBounds_toArray, List.set_cons_zero, List.set_cons_succ]
        refine anyH_at (i := 21) (d := some 109) rfl rfl (by kernel_rfl) (by kernel_rfl) (by kernel_rfl) (fun _ _ _ h => h) (by rfl) (v := ?_) ?_ (by assumption) ?_
        rotate_left
        · (intro w hSw; (try dsimp only at hSw); go_simp <;> with_reducible rfl)
        simp only [Act.put, List.setIfInBounds_toArray, List.set_cons_zero, List.set_cons_succ]
        refine anyH_at (i := 22) (d := some 110) rfl rfl (by kernel_rfl) (by kernel_rfl) (by kernel_rfl) (fun _ _ _ h => h) (by rfl) (v := ?_) ?_ (by assumption) ?_
        rotate_left
        · (intro w hSw; (try dsimp only at hSw); go_simp <;> with_reducible rfl)
        simp only [Act.put, List.setIfInBounds_toArray, List.set_cons_zero, List.set_cons_succ]
        refine wpAnyH_ready (rs := [24]) (by kernel_rfl) (by simp) ?_
        refine AllReadyH.cons rfl (fun K hK => ?_) AllReadyH.nil
        obtain ⟨⟨r0, r1, r2, r3⟩, ⟨q0, q1, q2, q3⟩⟩ := box_cells (unhide HBX)
        go_simp
        obtain ⟨hBX, hOF, hOD, hBB⟩ := pkg_fill (unhide HBX) (unhide OF) (unhide OD) (unhide DD) (unhide LOX) rfl
        refine hK.out _ _ ?_ (fun hHeldN => ?_)
        · exact unhide KK _ hBB
        clear hHeld
        have hHeld := hHeldN
        clear hHeldN
        clear hK K
        try simp only [Act.put, List.setIfInBounds_toArray, List.set_cons_zero, List.set_cons_succ]
        refine anyH_at (i := 25) (d := some 14) rfl rfl (by kernel_rfl) (by kernel_rfl) (by kernel_rfl) (fun _ _ _ h => h) (by rfl) (v := ?_) ?_ (by assumption) ?_
        rotate_left
        · (intro w hSw; (try dsimp only at hSw); go_simp <;> with_reducible rfl)
        simp only [Act.put, List.setIfInBounds_toArray, List.set_cons_zero, List.set_cons_succ]
        refine wpAnyH_done (by kernel_rfl) ?_ _
        go_wp2_with fail
        go_meet
        exact ⟨_, rfl, rfl, hBB⟩
      have y0 := cellOf (unhide HBY) 0
      go_simp
      refine hK.out _ _ ?_ (fun hHeldN => ?_)
      · exact unhide KK _ (unhide DD)
      clear hHeld
      have hHeld := hHeldN
      clear hHeldN
      clear hK K
      try simp only [Act.put, List.setIfInBounds_toArray, List.set_cons_zero, List.set_cons_succ]
      clear y0
      rename World => u2
      refine anyH_at (i := 13) (d := some 102) rfl rfl (by kernel_rfl) (by kernel_rfl) (by kernel_rfl) (fun _ _ _ h => h) (by rfl) (v := ?_) ?_ (by assumption) ?_
      rotate_left
      · (intro w hSw; (try dsimp only at hSw); go_simp <;> with_reducible rfl)
      simp only [Act.put, List.setIfInBounds_toArray, List.set_cons_zero, List.set_cons_succ]
      refine anyH_at (i := 18) (d := some 107) rfl rfl (by kernel_rfl) (by kernel_rfl) (by kernel_rfl) (fun _ _ _ h => h) (by rfl) (v := ?_) ?_ (by assumption) ?_
      rotate_left
      · (intro w hSw; (try dsimp only at hSw); go_simp <;> with_reducible rfl)
      simp only [Act.put, List.setIfInBounds_toArray, List.set_cons_zero, List.set_cons_succ]
      refine wpAnyH_ready (rs := [19, 23]) (by kernel_rfl) (by simp) ?_
      refine AllReadyH.cons rfl (fun K hK => ?_) (AllReadyH.cons rfl (fun K hK => ?_) AllReadyH.nil)
      rotate_left
      · go_simp
        have HBX := hide (heap_alloc_new u2 (.cells #[.int .i64 0, .int .i64 0, .slice none 0 0, .slice none 0 0] 35))
        have LOX : Hid (w5.heap.size ≤ u2.heap.size) := (unhide DD).size
        have bX := below1 u2 (.cells #[.int .i64 0, .int .i64 0, .slice none 0 0, .slice none 0 0] 35)
        replace DD := hide ((unhide DD).trans (bX.mono (unhide DD).size))
        replace HBY := hide ((bX.block _ (heapLt (unhide HBY))).trans (unhide HBY))
        clear bX
        refine hK.out _ _ ?_ (fun hHeldN => ?_)
        · exact unhide KK _ (unhide DD)
        clear hHeld
        have hHeld := hHeldN
        clear hHeldN
        clear hK K
        try simp only [Act.put, List.setIfInBounds_toArray, List.set_cons_zero, List.set_cons_succ]
        generalize hXb : u2.heap.size = Xb at *
        clear hXb
        refine wpAnyH_ready (rs := [19]) (by kernel_rfl) (by simp) ?_
        refine AllReadyH.cons rfl (fun K hK => ?_) AllReadyH.nil
        go_simp
        have LP := hide (unhide DD).size
        refine (implHas_any _ num til _ ms _ ev ((unhide T5).2.later (unhide DD)) ((unhide T5).1.later (unhide DD))).mono ?_
        rintro e u3 ⟨fv2, dv2, rfl, hf2, hd2, b⟩
        replace DD := hide ((unhide DD).trans (b.mono (unhide DD).size))
        replace HBY := hide ((b.block _ (heapLt (unhide HBY))).trans (unhide HBY))
        replace HBX := hide ((b.block _ (heapLt (unhide HBX))).trans (unhide HBX))
        rw [unhide HBAD]
        generalize Ix.hasD num til ms s9.data.toList = pq at *
        obtain ⟨pn, pv, pf, pd⟩ := pq
        dsimp only at hf2 hd2 ⊢
        obtain ⟨ja, jc, rfl⟩ := own_form hf2
        obtain ⟨ka, kc, rfl⟩ := own_form hd2
        have OF := hide (own2_base hf2 (unhide LP))
        have OD := hide (own2_base hd2 (unhide LP))
        clear hf2 hd2
        clear b LP
        go_wp2_with fail
        refine hK.out _ _ ?_ (fun hHeldN => ?_)
        · exact unhide KK _ (unhide DD)
        clear hHeld
        have hHeld := hHeldN
        clear hHeldN
        clear hK K
        try simp only [Act.put, List.setIfInBounds_toArray, List.set_cons_zero, List.set_cons_succ]
        refine anyH_at (i := 20) (d := some 88) rfl rfl (by kernel_rfl) (by kernel_rfl) (by kernel_rfl) (fun _ _ _ h => h) (by rfl) (v := ?_) ?_ (by assumption) ?_
        rotate_left
        · (intro w hSw; (try dsimp only at hSw); go_simp <;> with_reducible rfl)
        simp only [Act.put, List.setIfInBounds_toArray, List.set_cons_zero, List.set_cons_succ]
        refine anyH_at (i := 21) (d := some 109) rfl rfl (by kernel_rfl) (by kernel_rfl) (by kernel_rfl) (fun _ _ _ h => h) (by rfl) (v := ?_) ?_ (by assumption) ?_
        rotate_left
        · (intro w hSw; (try dsimp only at hSw); go_simp <;> with_reducible rfl)
        simp only [Act.put, List.setIfInBounds_toArray, List.set_cons_zero, List.set_cons_succ]
        refine anyH_at (i := 22) (d := some 110) rfl rfl (by kernel_rfl) (by kernel_rfl) (by kernel_rfl) (fun _ _ _ h => h) (by rfl) (v := ?_) ?_ (by assumption) ?_
        rotate_left
        · (intro w hSw; (try dsimp only at hSw); go_simp <;> with_reducible rfl)
        simp only [Act.put, List.setIfInBounds_toArray, List.set_cons_zero, List.set_cons_succ]
        refine wpAnyH_ready (rs := [24]) (by kernel_rfl) (by simp) ?_
        refine AllReadyH.cons rfl (fun K hK => ?_) AllReadyH.nil
        obtain ⟨⟨r0, r1, r2, r3⟩, ⟨q0, q1, q2, q3⟩⟩ := box_cells (unhide HBX)
        go_simp
        obtain ⟨hBX, hOF, hOD, hBB⟩ := pkg_fill (unhide HBX) (unhide OF) (unhide OD) (unhide DD) (unhide LOX) rfl
        refine hK.out _ _ ?_ (fun hHeldN => ?_)
        · exact unhide KK _ hBB
        clear hHeld
        have hHeld := hHeldN
        clear hHeldN
        clear hK K
        try simp only [Act.put, List.setIfInBounds_toArray, List.set_cons_zero, List.set_cons_succ]
        refine anyH_at (i := 25) (d := some 14) rfl rfl (by kernel_rfl) (by kernel_rfl) (by kernel_rfl) (fun _ _ _ h => h) (by rfl) (v := ?_) ?_ (by assumption) ?_
        rotate_left
        · (intro w hSw; (try dsimp only at hSw); go_simp <;> with_reducible rfl)
        simp only [Act.put, List.setIfInBounds_toArray, List.set_cons_zero, List.set_cons_succ]
        refine wpAnyH_done (by kernel_rfl) ?_ _
        go_wp2_with fail
        go_meet
        exact ⟨_, rfl, rfl, hBB⟩
      go_simp
      have LP := hide (unhide DD).size
      refine (implHas_any _ num til _ ms _ ev ((unhide T5).2.later (unhide DD)) ((unhide T5).1.later (unhide DD))).mono ?_
      rintro e u3 ⟨fv2, dv2, rfl, hf2, hd2, b⟩
      replace DD := hide ((unhide DD).trans (b.mono (unhide DD).size))
      replace HBY := hide ((b.block _ (heapLt (unhide HBY))).trans (unhide HBY))
      rw [unhide HBAD]
      generalize Ix.hasD num til ms s9.data.toList = pq at *
      obtain ⟨pn, pv, pf, pd⟩ := pq
      dsimp only at hf2 hd2 ⊢
      obtain ⟨ja, jc, rfl⟩ := own_form hf2
      obtain ⟨ka, kc, rfl⟩ := own_form hd2
      have OF := hide (own2_base hf2 (unhide LP))
      have OD := hide (own2_base hd2 (unhide LP))
      clear hf2 hd2
      clear b LP
      go_wp2_with fail
      refine hK.out _ _ ?_ (fun hHeldN => ?_)
      · exact unhide KK _ (unhide DD)
      clear hHeld
      have hHeld := hHeldN
      clear hHeldN
      clear hK K
      try simp only [Act.put, List.setIfInBounds_toArray, List.set_cons_zero, List.set_cons_succ]
      refine anyH_at (i := 20) (d := some 88) rfl rfl (by kernel_rfl) (by kernel_rfl) (by kernel_rfl) (fun _ _ _ h => h) (by rfl) (v := ?_) ?_ (by assumption) ?_
      rotate_left
      · (intro w hSw; (try dsimp only at hSw); go_simp <;> with_reducible rfl)
      simp only [Act.put, List.setIfInBounds_toArray, List.set_cons_zero, List.set_cons_succ]
      refine anyH_at (i := 21) (d := some 109) rfl rfl (by kernel_rfl) (by kernel_rfl) (by kernel_rfl) (fun _ _ _ h => h) (by rfl) (v := ?_) ?_ (by assumption) ?_
      rotate_left
      · (intro w hSw; (try dsimp only at hSw); go_simp <;> with_reducible rfl)
      simp only [Act.put, List.setIfInBounds_toArray, List.set_cons_zero, List.set_cons_succ]
      refine anyH_at (i := 22) (d := some 110) rfl rfl (by kernel_rfl) (by kernel_rfl) (by kernel_rfl) (fun _ _ _ h => h) (by rfl) (v := ?_) ?_ (by assumption) ?_
      rotate_left
      · (intro w hSw; (try dsimp only at hSw); go_simp <;> with_reducible rfl)
      simp only [Act.put, List.setIfInBounds_toArray, List.set_cons_zero, List.set_cons_succ]
      refine wpAnyH_ready (rs := [23]) (by kernel_rfl) (by simp) ?_
      refine AllReadyH.cons rfl (fun K hK => ?_) AllReadyH.nil
      go_simp
      have HBX := hide (heap_alloc_new u3 (.cells #[.int .i64 0, .int .i64 0, .slice none 0 0, .slice none 0 0] 35))
      have LOX : Hid (w5.heap.size ≤ u3.heap.size) := (unhide DD).size
      have bX := below1 u3 (.cells #[.int .i64 0, .int .i64 0, .slice none 0 0, .slice none 0 0] 35)
      replace DD := hide ((unhide DD).trans (bX.mono (unhide DD).size))
      replace HBY := hide ((bX.block _ (heapLt (unhide HBY))).trans (unhide HBY))
      replace OF := hide (own2_later (unhide OF) bX)
      replace OD := hide (own2_later (unhide OD) bX)
      clear bX
      refine hK.out _ _ ?_ (fun hHeldN => ?_)
      · exact unhide KK _ (unhide DD)
      clear hHeld
      have hHeld := hHeldN
      clear hHeldN
      clear hK K
      try simp only [Act.put, List.setIfInBounds_toArray, List.set_cons_zero, List.set_cons_succ]
      generalize hXb : u3.heap.size = Xb at *
      clear hXb
      refine wpAnyH_ready (rs := [24]) (by kernel_rfl) (by simp) ?_
      refine AllReadyH.cons rfl (fun K hK => ?_) AllReadyH.nil
      obtain ⟨⟨r0, r1, r2, r3⟩, ⟨q0, q1, q2, q3⟩⟩ := box_cells (unhide HBX)
      go_simp
      obtain ⟨hBX, hOF, hOD, hBB⟩ := pkg_fill (unhide HBX) (unhide OF) (unhide OD) (unhide DD) (unhide LOX) rfl
      refine hK.out _ _ ?_ (fun hHeldN => ?_)
      · exact unhide KK _ hBB
      clear hHeld
      have hHeld := hHeldN
      clear hHeldN
      clear hK K
      try simp only [Act.put, List.setIfInBounds_toArray, List.set_cons_zero, List.set_cons_succ]
      refine anyH_at (i := 25) (d := some 14) rfl rfl (by kernel_rfl) (by kernel_rfl) (by kernel_rfl) (fun _ _ _ h => h) (by rfl) (v := ?_) ?_ (by assumption) ?_
      rotate_left
      · (intro w hSw; (try dsimp only at hSw); go_simp <;> with_reducible rfl)
      simp only [Act.put, List.setIfInBounds_toArray, List.set_cons_zero, List.set_cons_succ]
      refine wpAnyH_done (by kernel_rfl) ?_ _
      go_wp2_with fail
      go_meet
      exact ⟨_, rfl, rfl, hBB⟩
    case rest =>
      obtain ⟨Xb, rfl, rfl, hb2⟩ := hcut
      have hx3 := (hb2.block _ (heapLt (unhide X3))).trans (unhide X3)
      obtain ⟨q0, q1, q2, q3⟩ : _ ∧ _ ∧ _ ∧ _ := ⟨cellOf hx3 0, cellOf hx3 1, cellOf hx3 2, cellOf hx3 3⟩
      have CT := hide (implText_any wc nm vr _ _ fs ds ((unhide QF).later hb2) ((unhide QD).later hb2))
      rw [unhide HT] at CT
      replace BW := hide ((unhide BW).trans (hb2.mono (unhide BW).size))
      clear hx3 hb2
      go_wp2_with fail
      refine (unhide CT).mono ?_
      rintro e w9 ⟨rfl, bb⟩
      replace BW := hide ((unhide BW).trans (bb.mono (unhide BW).size))
      clear bb CT
      go_wp2
      go_ret
      exact ⟨rfl, unhide BW⟩
end Go.Proofs.YtjehpeojdcaklaaGreatDoor
