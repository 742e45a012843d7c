import Derived.Test.YtlnieobmhofkdaaGreatMix0
import Derived.WalkLawsBesides
import Derived.Deep.RegionWith
import Derived.Deep.DrawnRows
import Derived.Deep.RegionHeld3
import Derived.Deep.AppendLies
/- What spec.PkgText returns: the text of the package, or nothing; for every package; nothing old is written. -/
namespace Go.Proofs.YtlnieobmhofkdaaGreat
open Go.RowKit

theorem b8_toNat {n : Int} (h0 : 0 ≤ n) (h1 : n < 256) : ((Pk.b8 n).toNat : Int) = n := by
  unfold Pk.b8
  rw [UInt8.toNat_ofNat']
  omega

/-- A row of one byte as a text. -/
theorem conv_one (w : World) (b : Nat) (n : Int) (c : Nat) (h0 : 0 ≤ n) (h1 : n < 256) (hc : w.cell? ⟨b, 0, none⟩ = some (.int .u8 n)) :
    (convert 114 9 (.slice (some ⟨b, 0, none⟩) 1 c)).run Tryz.prog w = .ok (.string ⟨#[Pk.b8 n]⟩) w := by
  have := run_convert_bytes_back (P := Tryz.prog) w 114 9 5 ⟨b, 0, none⟩ c [Pk.b8 n] Tryz.underlying114 Tryz.underlying5 Tryz.underlying9 (fun j hj => by
    obtain rfl : j = 0 := by simpa using hj
    have e : (⟨b, 0, none⟩ : Addr).add 0 = ⟨b, 0, none⟩ := rfl
    rw [e, hc]
    simp only [List.getElem_cons_zero]
    rw [b8_toNat h0 h1])
  exact this

set_option maxHeartbeats 1000000 in
set_option maxRecDepth 100000 in
theorem dec_any (n : Int) (w : World) (h0 : 0 ≤ n) (h1 : n ≤ 9) : Calls Tryz.prog 50 #[.int .i64 n] w fun e w' => e = .returned (.string ⟨#[Pk.b8 (48 + n)]⟩) ∧ w' = w.alloc (.cells #[.int .u8 (48 + n)] 5) := by
  have hcv := conv_one (w.alloc (.cells #[.int .u8 (48 + n)] 5)) w.heap.size (48 + n) 1 (by omega) (by omega) (by rw [World.cell?_alloc_new]; rfl)
  go_enter Tryz.func50, Tryz.ntmps50
  go_wp2
  go_ret
  exact ⟨rfl, rfl⟩

attribute [local go_sem ↓] Go.wp_at_zero Go.wp_at_succ
theorem app_data (a b : List UInt8) : (⟨a.toArray⟩ ++ ⟨b.toArray⟩ : ByteArray) = ⟨(a ++ b).toArray⟩ := by
  apply ByteArray.ext
  simp
theorem name_eq (nm vr : Int) : (⟨#[Pk.b8 (97 + nm - 1)]⟩ ++ ⟨#[Pk.b8 (48 + vr)]⟩ : ByteArray) = ⟨(Pk.nameT nm vr).toArray⟩ := by
  rw [show 97 + nm - 1 = 96 + nm from by omega]
  exact app_data [Pk.b8 (96 + nm)] [Pk.b8 (48 + vr)]
theorem ret_str {a b : ByteArray} (h : a = b) : Ending.returned (.string a) = .returned (.string b) := by rw [h]

set_option maxHeartbeats 2000000 in
set_option maxRecDepth 100000 in
theorem name_any (nm vr : Int) (w : World) (h0 : 1 ≤ nm) (h1 : nm ≤ 4) (h2 : 0 ≤ vr) (h3 : vr ≤ 9) : Calls Tryz.prog 49 #[.int .i64 nm, .int .i64 vr] w fun e w' => e = .returned (.string ⟨(Pk.nameT nm vr).toArray⟩) ∧ Below w.heap.size w w' := by
  have hcv := fun (wx : World) (b c : Nat) (h : wx.cell? ⟨b, 0, none⟩ = some (.int .u8 (97 + nm - 1))) => conv_one wx b (97 + nm - 1) c (by omega) (by omega) h
  have e1 : IntKind.i64.wrap (97 + nm) = 97 + nm := by simp [IntKind.wrap, IntKind.bits, IntKind.signed]; omega
  have e2 : IntKind.i64.wrap (97 + nm - 1) = 97 + nm - 1 := by simp [IntKind.wrap, IntKind.bits, IntKind.signed]; omega
  have e3 : IntKind.u8.wrap (97 + nm - 1) = 97 + nm - 1 := by simp [IntKind.wrap, IntKind.bits, IntKind.signed]; omega
  go_enter Tryz.func49, Tryz.ntmps49
  go_wp2
  go_region_with (go_at_call 50; refine (dec_any _ _ h2 h3).mono ?_; rintro e w' ⟨rfl, rfl⟩)
  all_goals
    go_wp2
    go_ret
    exact ⟨ret_str (name_eq nm vr), (((Below.refl _ _).alloc (Nat.le_refl _) _).alloc (by simp) _).drew⟩

theorem text_bad {nm vr : Int} {fs ds : List (Int × Int)} (h : Pk.pkgOk nm vr fs ds = false) : Pk.text nm vr fs ds = [] := by unfold Pk.text; rw [h]; rfl

theorem take_flat (f : Int × Int → List UInt8) (l : List (Int × Int)) (k : Nat) (h : k < l.length) : (l.take (k + 1)).flatMap f = (l.take k).flatMap f ++ f (Pk.fst l k, Pk.snd l k) := by
  rw [List.take_succ_eq_append_getElem h, List.flatMap_append]
  simp [Pk.fst, Pk.snd, h]

theorem flat_len (f : Int × Int → List UInt8) (c : Nat) (hf : ∀ x, (f x).length = c) : ∀ l : List (Int × Int), (l.flatMap f).length = c * l.length
  | [] => rfl
  | x :: l => by rw [List.flatMap_cons, List.length_append, hf, flat_len f c hf l, List.length_cons, Nat.mul_succ, Nat.add_comm]
theorem file_len (nm vr : Int) (fs : List (Int × Int)) (k : Nat) : (Pk.nameT nm vr ++ (fs.take k).flatMap Pk.fileT).length ≤ 2 + 4 * k := by
  rw [List.length_append, flat_len Pk.fileT 4 (fun _ => rfl)]
  have : (fs.take k).length ≤ k := List.length_take_le _ _
  simp only [Pk.nameT, List.length_cons, List.length_nil]
  omega
theorem dep_len (a : List UInt8) (ds : List (Int × Int)) (k : Nat) : (a ++ (ds.take k).flatMap Pk.depT).length ≤ a.length + 3 * k := by
  rw [List.length_append, flat_len Pk.depT 3 (fun _ => rfl)]
  have : (ds.take k).length ≤ k := List.length_take_le _ _
  omega

theorem text_ok {nm vr : Int} {fs ds : List (Int × Int)} (h : Pk.pkgOk nm vr fs ds = true) : Pk.text nm vr fs ds = Pk.nameT nm vr ++ fs.flatMap Pk.fileT ++ ds.flatMap Pk.depT := by unfold Pk.text; rw [h]; rfl
theorem ret_val {a b : ByteArray} (h : a = b) : Value.string a = .string b := by rw [h]
theorem app_more (a b : List UInt8) : (⟨a.toArray⟩ ++ ⟨b.toArray⟩ : ByteArray) = ⟨(a ++ b).toArray⟩ := app_data a b
theorem file_more (nm vr : Int) (fs : List (Int × Int)) (k : Nat) (h : k < fs.length) {s : ByteArray} (hs : s = ⟨(Pk.nameT nm vr ++ (fs.take k).flatMap Pk.fileT).toArray⟩) :
    s ++ ⟨#[32]⟩ ++ ⟨#[Pk.b8 (48 + Pk.fst fs k)]⟩ ++ ⟨#[58]⟩ ++ ⟨#[Pk.b8 (48 + Pk.snd fs k)]⟩ = ⟨(Pk.nameT nm vr ++ (fs.take (k + 1)).flatMap Pk.fileT).toArray⟩ := by
  rw [hs, take_flat _ _ _ h]
  apply ByteArray.ext
  simp [Pk.fileT]

theorem dep_more (a : List UInt8) (ds : List (Int × Int)) (k : Nat) (h : k < ds.length) {s : ByteArray} (hs : s = ⟨(a ++ (ds.take k).flatMap Pk.depT).toArray⟩) :
    s ++ ⟨#[32]⟩ ++ ⟨(Pk.nameT (Pk.fst ds k) (Pk.snd ds k)).toArray⟩ = ⟨(a ++ (ds.take (k + 1)).flatMap Pk.depT).toArray⟩ := by
  rw [hs, take_flat _ _ _ h]
  apply ByteArray.ext
  simp [Pk.depT]

theorem pkgOk_get {nm vr : Int} {fs ds : List (Int × Int)} (h : Pk.pkgOk nm vr fs ds = true) : (1 ≤ nm ∧ nm ≤ 4) ∧ (1 ≤ vr ∧ vr ≤ 5) ∧ Pk.filesOk fs = true ∧ Pk.depsOk nm ds = true := by
  unfold Pk.pkgOk at h
  rw [Bool.and_eq_true, Bool.and_eq_true, Bool.and_eq_true, Pk.inB_true, Pk.inB_true] at h
  exact ⟨h.1.1.1, h.1.1.2, h.1.2, h.2⟩

set_option maxHeartbeats 4000000 in
set_option maxRecDepth 100000 in
/-- spec.PkgText: the text of the package. -/
theorem pkgText_any (w : World) (nm vr : Int) (fv dv : Value) (fs ds : List (Int × Int)) (hf : Prs w fv fs) (hd : Prs w dv ds) :
    Calls Tryz.prog 24 #[.agg #[.int .i64 nm, .int .i64 vr, fv, dv]] w fun e w' => e = .returned (.string ⟨(Pk.text nm vr fs ds).toArray⟩) ∧ Below w.heap.size w w' := by
  have B1 : Below w.heap.size w (w.alloc (.cells #[.int .i64 nm, .int .i64 vr, fv, dv] 67)) := (Below.refl _ _).alloc (Nat.le_refl _) _
  have hf1 := hf.later B1
  have hd1 := hd.later B1
  have hx := box4 w (.int .i64 nm) (.int .i64 vr) fv dv 67
  have HX := hide hx
  have HB := hide B1
  have HF : Hid (Prs _ _ _) := hf1
  have HD : Hid (Prs _ _ _) := hd1
  obtain ⟨fa, fc, hfv⟩ := hf.slice
  obtain ⟨da, dc, hdv⟩ := hd.slice
  clear hf hd B1 hf1 hd1 hx
  subst hfv hdv
  cases hok : Pk.pkgOk nm vr fs ds
  · have HT := hide (text_bad hok)
    go_enter Tryz.func24, Tryz.ntmps24
    go_wp2_with fail
    refine (pkgOk_any _ nm vr _ _ fs ds HF.out HD.out).mono ?_
    rintro e w1 ⟨rfl, hb1⟩
    have HB1 := hide hb1
    clear hb1
    go_wp2
    go_ret
    exact ⟨ret_str (by rw [unhide HT]), HB.out.trans ((unhide HB1).mono (by simp))⟩
  · have HOK := hide hok
    obtain ⟨⟨n0, n1⟩, ⟨v0, v1⟩, hfo, hdo⟩ := pkgOk_get hok
    obtain ⟨fl, fb⟩ := Pk.filesOk_get hfo
    obtain ⟨dl, db⟩ := Pk.depsOk_get hdo
    have FB := hide fb
    have DB := hide db
    clear fb db hfo hdo
    go_enter Tryz.func24, Tryz.ntmps24
    go_wp2_with fail
    refine (pkgOk_any _ nm vr _ _ fs ds HF.out HD.out).mono ?_
    rintro e w1 ⟨rfl, hb1⟩
    generalize w.alloc _ = W0 at *
    obtain ⟨z0, x0, x1, x2, x3⟩ := HX.out
    clear HX
    have k0 : w1.cell? ⟨w.heap.size, 0, none⟩ = _ := (hb1.cell (by simp [z0])).trans x0
    have k1 : w1.cell? ⟨w.heap.size, 1, none⟩ = _ := (hb1.cell (by simp [z0])).trans x1
    have X2 := hide x2
    have X3 := hide x3
    have Z0 := hide z0
    have HB1 := hide hb1
    clear hb1 x0 x1 x2 x3 z0
    go_wp2_with fail
    refine (name_any nm vr _ n0 n1 (by omega) (by omega)).mono ?_
    rintro e w2 ⟨rfl, hb2⟩
    have HB2 := hide (Below.trans (unhide HB1) (hb2.mono (unhide HB1).size))
    clear HB1 hb2 k0 k1
    go_wp2_with fail
    go_loopw [3, 4] (fun o i w' => ∃ k : Nat, k ≤ fs.length ∧ i = .int .i64 k ∧ o = .string ⟨(Pk.nameT nm vr ++ (fs.take k).flatMap Pk.fileT).toArray⟩ ∧ Below W0.heap.size W0 w') (fun _ i _ => fs.length - (intOf i).toNat)
    case atStart => exact ⟨0, Nat.zero_le _, rfl, by simp, unhide HB2⟩
    case round =>
      obtain ⟨k, hk, rfl, ho, hw⟩ := hrel
      obtain ⟨s, hs⟩ : ∃ s : ByteArray, s = ⟨(Pk.nameT nm vr ++ (fs.take k).flatMap Pk.fileT).toArray⟩ := ⟨_, rfl⟩
      rw [← hs] at ho
      subst ho
      have hsz : s.size ≤ 10 := by rw [hs]; have := file_len nm vr fs k; show (List.toArray _).size ≤ 10; simp only [List.size_toArray]; omega
      have HS := hide hs
      clear hs
      have j2 : wr.cell? ⟨w.heap.size, 2, none⟩ = _ := (hw.cell (by simp [unhide Z0])).trans (unhide X2)
      have HW := hide hw
      clear hw HB2
      by_cases hlt : k < fs.length
      · obtain ⟨fa', fc', e1, _, hrow⟩ := HF.out
        injection e1 with e1 _ e3
        subst e1 e3
        obtain ⟨b, off, rfl, hbs, hc⟩ := hrow (by omega)
        obtain ⟨c1, c2⟩ := hc k hlt
        rw [← (unhide HW).cell hbs] at c1 c2
        obtain ⟨⟨p0, p1⟩, ⟨q0, q1⟩⟩ := unhide FB k hlt
        clear hc hrow
        have hi0 : (0 : Int) ≤ (k : Int) := Int.natCast_nonneg _
        have hi1 : (k : Int) < (fs.length : Int) := by omega
        have s1 : ¬ 9223372036854775807 < s.size + 1 := by omega
        have s2 : ¬ 9223372036854775807 < s.size + 1 + 1 := by omega
        have s3 : ¬ 9223372036854775807 < s.size + 1 + 1 + 1 := by omega
        have s4 : ¬ 9223372036854775807 < s.size + 1 + 1 + 1 + 1 := by omega
        go_wp2_with fail
        go_region_held3 (fun w' => w'.cell? ⟨w.heap.size, 2, none⟩ = some (.slice (some ⟨b, off, none⟩) fs.length fc) ∧ w'.cell? ⟨b, off + k * 2, none⟩ = some (.int .i64 (Pk.fst fs k)) ∧ w'.cell? ⟨b, off + k * 2 + 1, none⟩ = some (.int .i64 (Pk.snd fs k))) (go_keep)
          (first | (go_at_call_of 50 (Pk.fst fs k); refine (dec_any _ _ p0 (by omega)).mono ?_; rintro e w' ⟨rfl, rfl⟩) | (go_at_call_of 50 (Pk.snd fs k); refine (dec_any _ _ q0 (by omega)).mono ?_; rintro e w' ⟨rfl, rfl⟩))
        all_goals
          go_wp2
          go_roundw
          case rel => exact ⟨k + 1, by omega, by go_num, ret_val (file_more nm vr fs k hlt (unhide HS)), (((unhide HW).alloc (unhide HW).size _).alloc (Nat.le_trans (unhide HW).size (by simp)) _).drew⟩
          case measure => simp [intOf]; omega
      · obtain rfl : k = fs.length := by omega
        clear hlt
        rw [List.take_length] at HS
        go_wp2_with fail
        go_loopw [3, 5] (fun o i w' => ∃ k : Nat, k ≤ ds.length ∧ i = .int .i64 k ∧ o = .string ⟨(Pk.nameT nm vr ++ fs.flatMap Pk.fileT ++ (ds.take k).flatMap Pk.depT).toArray⟩ ∧ Below W0.heap.size W0 w') (fun _ i _ => ds.length - (intOf i).toNat)
        case atStart => exact ⟨0, Nat.zero_le _, rfl, ret_val (by rw [unhide HS]; simp), unhide HW⟩
        case round =>
          obtain ⟨k, hk, rfl, ho, hw⟩ := hrel
          clear HS hsz j2 HW
          obtain ⟨s, hs⟩ : ∃ s : ByteArray, s = ⟨(Pk.nameT nm vr ++ fs.flatMap Pk.fileT ++ (ds.take k).flatMap Pk.depT).toArray⟩ := ⟨_, rfl⟩
          rw [← hs] at ho
          subst ho
          have hsz : s.size ≤ 20 := by
            rw [hs]
            have h1 := dep_len (Pk.nameT nm vr ++ fs.flatMap Pk.fileT) ds k
            have h2 := file_len nm vr fs fs.length
            rw [List.take_length] at h2
            show (List.toArray _).size ≤ 20
            simp only [List.size_toArray]
            omega
          have HS := hide hs
          clear hs
          have j2 : wr.cell? ⟨w.heap.size, 3, none⟩ = _ := (hw.cell (by simp [unhide Z0])).trans (unhide X3)
          have HW := hide hw
          clear hw
          by_cases hlt : k < ds.length
          · obtain ⟨da', dc', e1, _, hrow⟩ := HD.out
            injection e1 with e1 _ e3
            subst e1 e3
            obtain ⟨b, off, rfl, hbs, hc⟩ := hrow (by omega)
            obtain ⟨c1, c2⟩ := hc k hlt
            rw [← (unhide HW).cell hbs] at c1 c2
            obtain ⟨⟨p0, p1⟩, ⟨q0, q1⟩⟩ := unhide DB k hlt
            clear hc hrow
            have hi0 : (0 : Int) ≤ (k : Int) := Int.natCast_nonneg _
            have hi1 : (k : Int) < (ds.length : Int) := by omega
            have hz2 : b < wr.heap.size := Nat.lt_of_lt_of_le hbs (unhide HW).size
            have hz1 : w.heap.size < wr.heap.size := by have := (unhide HW).size; rw [unhide Z0] at this; omega
            have s1 : ¬ 9223372036854775807 < s.size + 1 := by omega
            have s2 : ¬ 9223372036854775807 < s.size + 1 + (Pk.nameT (Pk.fst ds k) (Pk.snd ds k)).length := by
              have : (Pk.nameT (Pk.fst ds k) (Pk.snd ds k)).length = 2 := rfl
              omega
            go_wp2_with fail
            go_region_held3 (fun w' => w'.cell? ⟨w.heap.size, 3, none⟩ = some (.slice (some ⟨b, off, none⟩) ds.length dc) ∧ w'.cell? ⟨b, off + k * 2, none⟩ = some (.int .i64 (Pk.fst ds k)) ∧ w'.cell? ⟨b, off + k * 2 + 1, none⟩ = some (.int .i64 (Pk.snd ds k))) (first | go_keep | (go_split_ands; refine ⟨?_, ?_, ?_⟩ <;> (rw [hbn.cell (by simp; omega)]; assumption)))
              ((go_at_call 49; refine (name_any _ _ _ p0 p1 (by omega) (by omega)).mono ?_; rintro e w3 ⟨rfl, hbn⟩))
            go_wp2
            go_roundw
            case rel => exact ⟨k + 1, by omega, by go_num, ret_val (dep_more (Pk.nameT nm vr ++ fs.flatMap Pk.fileT) ds k hlt (unhide HS)), (unhide HW).trans ((show Below wr.heap.size wr w3 from ⟨hbn.os, hbn.tape, hbn.output, hbn.size, hbn.block⟩).mono (unhide HW).size)⟩
            case measure => simp [intOf]; omega
          · obtain rfl : k = ds.length := by omega
            rw [List.take_length] at HS
            go_wp2
            go_ret
            exact ⟨ret_str (by rw [unhide HS, text_ok (unhide HOK)]), HB.out.trans ((unhide HW).mono (by rw [unhide Z0]; omega))⟩
end Go.Proofs.YtlnieobmhofkdaaGreat
