/- The walk of laws.FnPkgCut: what is cut off a text, or a blank before or behind it, is no text of this package. -/
import Derived.Test.YtomnbbegpobaiaaGreatDoorImplReadW
import Derived.Test.YtomnbbegpobaiaaGreatDoorDrawTextW
import Derived.Test.YtomnbbegpobaiaaGreatDoorLuW
import Derived.Test.YtomnbbegpobaiaaGreatDoorInjW
namespace Go.Proofs.YtomnbbegpobaiaaGreatDoor
open Go.RowKit

attribute [local go_sem ↓] Go.wp_at_zero Go.wp_at_succ

theorem ByteArray_app1 {s : ByteArray} : (s ++ (⟨#[32]⟩ : ByteArray)).data.toList = s.data.toList ++ [32] := by
  rw [ByteArray.data_append, Array.toList_append]
theorem ByteArray_app2 {s : ByteArray} : ((⟨#[32]⟩ : ByteArray) ++ s).data.toList = 32 :: s.data.toList := by
  rw [ByteArray.data_append, Array.toList_append]
  rfl
theorem last_b {l : List UInt8} {x y : UInt8} {a : List UInt8} (h : a ++ [x] = l ++ [y]) : x = y := by
  have := congrArg List.getLast? h
  simpa using this
/-- The last byte of a text is a figure. -/
theorem text_last {nm vr : Int} {fs ds : List (Int × Int)} (h : Pk.pkgOk nm vr fs ds = true) {l : List UInt8} {y : UInt8} (e : Pk.text nm vr fs ds = l ++ [y]) : y ≠ 32 := by
  obtain ⟨h1, h2, h3⟩ := Pk.ok_parts h
  have hb : ∀ v : Int, 0 ≤ v → v ≤ 9 → Pk.b8 (48 + v) ≠ 32 := fun v v0 v1 e => by
    have : Pk.b8 (48 + v) = Pk.b8 32 := e
    have := Pk.b8_inj (by omega) (by omega) (by omega) (by omega) this
    omega
  rw [text_ok h] at e
  rcases List.eq_nil_or_concat ds with rfl | ⟨ds', d, rfl⟩
  · rw [List.flatMap_nil, List.append_nil] at e
    rcases List.eq_nil_or_concat fs with rfl | ⟨fs', f, rfl⟩
    · rw [List.flatMap_nil, List.append_nil] at e
      have : [Pk.b8 (96 + nm)] ++ [Pk.b8 (48 + vr)] = l ++ [y] := e
      rw [← last_b this]
      exact hb vr (by omega) (by omega)
    · rw [List.concat_eq_append, List.flatMap_append, List.flatMap_cons, List.flatMap_nil, List.append_nil] at e
      have : (Pk.nameT nm vr ++ fs'.flatMap Pk.fileT ++ [32, Pk.b8 (48 + f.1), 58]) ++ [Pk.b8 (48 + f.2)] = l ++ [y] := by rw [← e]; simp [Pk.fileT]
      rw [← last_b this]
      obtain ⟨_, _, f3, f4⟩ := h2 f (by simp)
      exact hb f.2 (by omega) (by omega)
  · rw [List.concat_eq_append, List.flatMap_append, List.flatMap_cons, List.flatMap_nil, List.append_nil] at e
    have : (Pk.nameT nm vr ++ fs.flatMap Pk.fileT ++ ds'.flatMap Pk.depT ++ [32, Pk.b8 (96 + d.1)]) ++ [Pk.b8 (48 + d.2)] = l ++ [y] := by rw [← e]; simp [Pk.depT, Pk.nameT]
    rw [← last_b this]
    obtain ⟨_, _, d3, d4⟩ := h3 d (by simp)
    exact hb d.2 (by omega) (by omega)
/-- The first byte of a text is a letter. -/
theorem text_first {nm vr : Int} {fs ds : List (Int × Int)} (h : Pk.pkgOk nm vr fs ds = true) {l : List UInt8} {y : UInt8} (e : Pk.text nm vr fs ds = y :: l) : y ≠ 32 := by
  obtain ⟨h1, h2, h3⟩ := Pk.ok_parts h
  rw [text_ok h] at e
  have : Pk.b8 (96 + nm) = y := by
    have := congrArg List.head? e
    simpa [Pk.nameT] using this
  rw [← this]
  intro e
  have : Pk.b8 (96 + nm) = Pk.b8 32 := e
  have := Pk.b8_inj (by omega) (by omega) (by omega) (by omega) this
  omega
theorem cut_ne {s : ByteArray} (h : 0 < s.size) : (s.extract 0 (s.size - 1)).data.toList ≠ s.data.toList := by
  intro e
  have := congrArg List.length e
  rw [Array.length_toList, Array.length_toList] at this
  have e2 : (s.extract 0 (s.size - 1)).size = s.size := this
  rw [ByteArray.size_extract] at e2
  omega

set_option maxHeartbeats 4000000 in
set_option maxRecDepth 100000 in
theorem pkgCut_walk (a0 : Option Addr) (len0 cap0 : Nat) (w : World) (w0 : Bytes w a0 len0 cap0) (ev : Addr) (g : Gl w ev) :
    Calls Tryz.prog 5 #[.slice a0 len0 cap0] w fun e w' => e = .returned (.bool true) ∧ Below w.heap.size w w' := by
  have W0 : Hid (Bytes _ _ _ _) := w0
  have G := hide g
  clear w0 g
  by_cases g0 : len0 ≤ 1048576
  · go_enter Tryz.func5, Tryz.ntmps5
    go_wp2_with fail
    refine (drawText_any w a0 len0 cap0 (unhide W0)).mono ?_
    rintro e w2 ⟨nm, vr, fv, dv, fs, ds, rfl, fl, dl, p1, p2, hb2⟩
    obtain ⟨fa, fc, rfl⟩ := p1.slice
    obtain ⟨da, dc, rfl⟩ := p2.slice
    have hb2' : Below w2.heap.size w2 (w2.alloc (.cells #[.int .i64 nm, .int .i64 vr, .slice fa fs.length fc, .slice da ds.length dc] 26)) := (Below.refl _ _).alloc (Nat.le_refl _) _
    have K2 := hide (And.intro (hb2.trans (hb2'.mono hb2.size)) (And.intro (Box.new w2 (.int .i64 nm) (.int .i64 vr) (.slice fa fs.length fc) (.slice da ds.length dc) 26) (And.intro (p1.later hb2') (p2.later hb2'))))
    clear hb2 hb2' p1 p2 W0
    obtain ⟨s, hs⟩ : ∃ s : ByteArray, (⟨(Pk.text nm vr fs ds).toArray⟩ : ByteArray) = s := ⟨_, rfl⟩
    have HS := hide hs
    clear hs
    go_wp2_with fail
    refine (implText_any _ nm vr _ _ fs ds (unhide K2).2.2.1 (unhide K2).2.2.2).mono ?_
    generalize w2.alloc _ = V2 at *
    rintro e w4 ⟨rfl, hb4⟩
    rw [unhide HS]
    have K4 : Hid (Below w.heap.size w w4 ∧ Box w4 w2.heap.size (.int .i64 nm) (.int .i64 vr) (.slice fa fs.length fc) (.slice da ds.length dc) ∧ Prs w4 (.slice fa fs.length fc) fs ∧ Prs w4 (.slice da ds.length dc) ds) := ⟨(unhide K2).1.trans (hb4.mono (unhide K2).1.size), (unhide K2).2.1.later hb4, (unhide K2).2.2.1.later hb4, (unhide K2).2.2.2.later hb4⟩
    clear hb4 K2
    generalize w2.heap.size = A at *
    obtain ⟨_, c0, c1, c2, c3⟩ := (unhide K4).2.1
    go_wp2_with fail
    refine (pkgText_any _ nm vr _ _ fs ds (unhide K4).2.2.1 (unhide K4).2.2.2).mono ?_
    rintro e w5 ⟨rfl, hb5⟩
    rw [unhide HS]
    have K5 : Hid (Below w.heap.size w w5 ∧ Box w5 A (.int .i64 nm) (.int .i64 vr) (.slice fa fs.length fc) (.slice da ds.length dc) ∧ Prs w5 (.slice fa fs.length fc) fs ∧ Prs w5 (.slice da ds.length dc) ds) := ⟨(unhide K4).1.trans (hb5.mono (unhide K4).1.size), (unhide K4).2.1.later hb5, (unhide K4).2.2.1.later hb5, (unhide K4).2.2.2.later hb5⟩
    clear hb5 K4 c0 c1 c2 c3
    obtain ⟨hA5, c0, c1, c2, c3⟩ := (unhide K5).2.1
    cases hse : s.toList.isEmpty
    case true =>
      go_wp2_with fail
      refine (pkgText_any _ nm vr _ _ fs ds (unhide K5).2.2.1 (unhide K5).2.2.2).mono ?_
      rintro e w6 ⟨rfl, hb6⟩
      rw [unhide HS]
      have HB6 := hide ((unhide K5).1.trans (hb6.mono (unhide K5).1.size))
      clear hb6
      go_wp2
      go_ret
      exact ⟨rfl, unhide HB6⟩
    have o1 : Pk.pkgOk nm vr fs ds = true := ok_of (unhide HS) hse
    have HT : Hid (Pk.text nm vr fs ds = s.data.toList) := by show _ = _; rw [← unhide HS]
    have O1 := hide o1
    clear o1
    have hpos : 0 < s.size := by
      rcases Nat.eq_zero_or_pos s.size with h | h
      · have : s.toList.isEmpty = true := by rw [ByteArray.toList_eq, List.isEmpty_iff, ← List.length_eq_zero_iff, Array.length_toList]; exact h
        rw [hse] at this
        cases this
      · exact h
    have hsmall : s.size ≤ 30 := by
      have := Pk.text_le30 (unhide O1)
      rw [unhide HT, Array.length_toList] at this
      exact this
    have hi1 : (1 : Int) ≤ (s.size : Int) := by omega
    have hi2 : (s.size : Int) ≤ 30 := by omega
    have hcap1 : ¬ 9223372036854775807 < s.size + 1 := by omega
    have hcap2 : ¬ 9223372036854775807 < 1 + s.size := by omega
    go_wp2_with fail
    refine (implRead_any _ _ ev ((unhide G).later (unhide K5).1)).mono ?_
    rintro e w6 ⟨hres, hb6⟩
    have hx : ∃ nm' vr' fs' ds' fv' dv' b, e = .returned (.tuple #[.agg #[.int .i64 nm', .int .i64 vr', fv', dv'], .bool b]) ∧ Prs w6 fv' fs' ∧ Prs w6 dv' ds' ∧ (b = true → same nm' vr' nm vr fs' ds' fs ds = false) := by
      rcases hres with ⟨nm', vr', fs', ds', fv', dv', rfl, ho, ht, hf, hd⟩ | ⟨rfl, hno⟩
      · have hl1 : fs'.length ≤ 1000000 := by have := (Pk.filesOk_get (pkgOk_get ho).2.2.1).1; omega
        have hl2 : ds'.length ≤ 1000000 := by have := (Pk.depsOk_get (pkgOk_get ho).2.2.2).1; omega
        refine ⟨nm', vr', fs', ds', fv', dv', true, rfl, Prs.own hf hl1, Prs.own hd hl2, fun _ => same_no (fun h => ?_)⟩
        obtain ⟨rfl, rfl, rfl, rfl⟩ := h
        exact cut_ne hpos (ht.symm.trans (unhide HT))
      · exact ⟨0, 0, [], [], _, _, false, rfl, Prs.nil _, Prs.nil _, fun h => by cases h⟩
    obtain ⟨nm', vr', fs', ds', fv', dv', b, rfl, q1, q2, hb⟩ := hx
    obtain ⟨fa', fc', rfl⟩ := q1.slice
    obtain ⟨da', dc', rfl⟩ := q2.slice
    have HSM := hide hb
    have hB7 : Below w6.heap.size w6 (w6.alloc (.cells #[.int .i64 nm', .int .i64 vr', .slice fa' fs'.length fc', .slice da' ds'.length dc'] 26)) := (Below.refl _ _).alloc (Nat.le_refl _) _
    have hb7 := hb6.trans (hB7.mono hb6.size)
    have K7 : Hid (Below w.heap.size w _ ∧ Box _ A (.int .i64 nm) (.int .i64 vr) (.slice fa fs.length fc) (.slice da ds.length dc) ∧ Prs _ (.slice fa fs.length fc) fs ∧ Prs _ (.slice da ds.length dc) ds ∧ Box _ w6.heap.size (.int .i64 nm') (.int .i64 vr') (.slice fa' fs'.length fc') (.slice da' ds'.length dc') ∧ Prs _ (.slice fa' fs'.length fc') fs' ∧ Prs _ (.slice da' ds'.length dc') ds') := ⟨(unhide K5).1.trans (hb7.mono (unhide K5).1.size), (unhide K5).2.1.later hb7, (unhide K5).2.2.1.later hb7, (unhide K5).2.2.2.later hb7, Box.new w6 _ _ _ _ 26, q1.later hB7, q2.later hB7⟩
    clear hb6 hb7 hB7 K5 c0 c1 c2 c3 hA5 hres q1 q2 hb
    go_wp2_with fail
    refine (implRead_any _ _ ev ((unhide G).later (unhide K7).1)).mono ?_
    generalize w6.alloc _ = V7 at *
    generalize w6.heap.size = X at *
    rintro e w8 ⟨hres, hb8⟩
    have hx : e = .returned (.tuple #[.agg #[.int .i64 0, .int .i64 0, .slice none 0 0, .slice none 0 0], .bool false]) := by
      rcases hres with ⟨_, _, _, _, _, _, _, ho, ht, _, _⟩ | ⟨he, _⟩
      · exact absurd rfl (text_last ho (ht.trans ByteArray_app1))
      · exact he
    subst hx
    have hB9 : Below w8.heap.size w8 (w8.alloc (.cells #[.int .i64 0, .int .i64 0, .slice none 0 0, .slice none 0 0] 26)) := (Below.refl _ _).alloc (Nat.le_refl _) _
    have hb9 := hb8.trans (hB9.mono hb8.size)
    have K9 : Hid (Below w.heap.size w _ ∧ Box _ A (.int .i64 nm) (.int .i64 vr) (.slice fa fs.length fc) (.slice da ds.length dc) ∧ Prs _ (.slice fa fs.length fc) fs ∧ Prs _ (.slice da ds.length dc) ds ∧ Box _ X (.int .i64 nm') (.int .i64 vr') (.slice fa' fs'.length fc') (.slice da' ds'.length dc') ∧ Prs _ (.slice fa' fs'.length fc') fs' ∧ Prs _ (.slice da' ds'.length dc') ds') := ⟨(unhide K7).1.trans (hb9.mono (unhide K7).1.size), (unhide K7).2.1.later hb9, (unhide K7).2.2.1.later hb9, (unhide K7).2.2.2.1.later hb9, (unhide K7).2.2.2.2.1.later hb9, (unhide K7).2.2.2.2.2.1.later hb9, (unhide K7).2.2.2.2.2.2.later hb9⟩
    clear hb8 hb9 hB9 K7 hres
    clear V7
    go_wp2_with fail
    refine (implRead_any _ _ ev ((unhide G).later (unhide K9).1)).mono ?_
    generalize w8.alloc _ = V9 at *
    rintro e w10 ⟨hres, hb10⟩
    have hx : e = .returned (.tuple #[.agg #[.int .i64 0, .int .i64 0, .slice none 0 0, .slice none 0 0], .bool false]) := by
      rcases hres with ⟨_, _, _, _, _, _, _, ho, ht, _, _⟩ | ⟨he, _⟩
      · exact absurd rfl (text_first ho (ht.trans ByteArray_app2))
      · exact he
    subst hx
    have hB11 : Below w10.heap.size w10 (w10.alloc (.cells #[.int .i64 0, .int .i64 0, .slice none 0 0, .slice none 0 0] 26)) := (Below.refl _ _).alloc (Nat.le_refl _) _
    have hb11 := hb10.trans (hB11.mono hb10.size)
    have K11 : Hid (Below w.heap.size w _ ∧ Box _ A (.int .i64 nm) (.int .i64 vr) (.slice fa fs.length fc) (.slice da ds.length dc) ∧ Prs _ (.slice fa fs.length fc) fs ∧ Prs _ (.slice da ds.length dc) ds ∧ Box _ X (.int .i64 nm') (.int .i64 vr') (.slice fa' fs'.length fc') (.slice da' ds'.length dc') ∧ Prs _ (.slice fa' fs'.length fc') fs' ∧ Prs _ (.slice da' ds'.length dc') ds') := ⟨(unhide K9).1.trans (hb11.mono (unhide K9).1.size), (unhide K9).2.1.later hb11, (unhide K9).2.2.1.later hb11, (unhide K9).2.2.2.1.later hb11, (unhide K9).2.2.2.2.1.later hb11, (unhide K9).2.2.2.2.2.1.later hb11, (unhide K9).2.2.2.2.2.2.later hb11⟩
    clear hb10 hb11 hB11 K9 hres
    clear V9
    have hA11 : ∀ o, A < (w10.alloc o).heap.size := fun o => Nat.lt_of_lt_of_le (unhide K11).2.1.1 (by rw [sz1, sz1]; exact Nat.le_refl _)
    obtain ⟨_, c0, c1, c2, c3⟩ := (unhide K11).2.1
    obtain ⟨_, d0, d1, d2, d3⟩ := (unhide K11).2.2.2.2.1
    cases b with
    | false =>
      have HB := hide (unhide K11).1
      go_wp2
      go_ret
      exact ⟨rfl, unhide HB⟩
    | true =>
      have hsame := (unhide HSM) rfl
      go_wp2_with fail
      refine (lu_any _ nm' vr' nm vr _ _ _ _ fs' ds' fs ds (unhide K11).2.2.2.2.2.1 (unhide K11).2.2.2.2.2.2 (unhide K11).2.2.1 (unhide K11).2.2.2.1).mono ?_
      generalize w10.alloc _ = V11 at *
      rintro e w12 ⟨rfl, hb12⟩
      have HB := hide ((unhide K11).1.trans (hb12.mono (unhide K11).1.size))
      clear hb12
      go_wp2
      go_ret
      exact ⟨rfl, unhide HB⟩
  · have g0' : decide ((1048576 : Int) < (len0 : Int)) = true := by simp; omega
    go_enter Tryz.func5, Tryz.ntmps5
    go_wp2
    go_ret
    exact ⟨rfl, Below.refl _ _⟩
end Go.Proofs.YtomnbbegpobaiaaGreatDoor
