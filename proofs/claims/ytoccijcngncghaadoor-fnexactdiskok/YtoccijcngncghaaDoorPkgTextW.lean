/- What spec.PkgText returns: the text of the package, or nothing; for every package; nothing old is written. -/
import Derived.Test.YtoccijcngncghaaDoorPkgOkW
import Derived.WalkLawsBesides
import Derived.Deep.RegionWith
import Derived.Deep.DrawnRows
import Derived.Deep.RegionHeld3
import Derived.Deep.AppendLies
namespace Go.Proofs.YtoccijcngncghaaDoor
open Go.RowKit

theorem b8_toNat {n : Int} (h0 : 0 ≤ n) (h1 : n < 256) : ((Pk.b8 n).toNat : Int) = n := by
  unfold Pk.b8
  rw [UInt8.toNat_ofNat']
  omega

/-- A row of one byte as a text. -/
theorem conv_one (w : World) (b : Nat) (n : Int) (c : Nat) (h0 : 0 ≤ n) (h1 : n < 256) (hc : w.cell? ⟨b, 0, none⟩ = some (.int .u8 n)) :
    (convert 22 9 (.slice (some ⟨b, 0, none⟩) 1 c)).run Tryd.prog w = .ok (.string ⟨#[Pk.b8 n]⟩) w := by
  have := run_convert_bytes_back (P := Tryd.prog) w 22 9 5 ⟨b, 0, none⟩ c [Pk.b8 n] Tryd.underlying22 Tryd.underlying5 Tryd.underlying9 (fun j hj => by
    obtain rfl : j = 0 := by simpa using hj
    have e : (⟨b, 0, none⟩ : Addr).add 0 = ⟨b, 0, none⟩ := rfl
    rw [e, hc]
    simp only [List.getElem_cons_zero]
    rw [b8_toNat h0 h1])
  exact this

attribute [local go_sem ↓] Go.wp_at_zero Go.wp_at_succ
theorem app_data (a b : List UInt8) : (⟨a.toArray⟩ ++ ⟨b.toArray⟩ : ByteArray) = ⟨(a ++ b).toArray⟩ := by
  apply ByteArray.ext
  simp
theorem name_eq (nm vr : Int) : (⟨#[Pk.b8 (97 + nm - 1)]⟩ ++ ⟨#[Pk.b8 (48 + vr)]⟩ : ByteArray) = ⟨(Pk.nameT nm vr).toArray⟩ := by
  rw [show 97 + nm - 1 = 96 + nm from by omega]
  exact app_data [Pk.b8 (96 + nm)] [Pk.b8 (48 + vr)]
theorem ret_str {a b : ByteArray} (h : a = b) : Ending.returned (.string a) = .returned (.string b) := by rw [h]

theorem text_bad {nm vr : Int} {fs ds : List (Int × Int)} (h : Pk.pkgOk nm vr fs ds = false) : Pk.text nm vr fs ds = [] := by unfold Pk.text; rw [h]; rfl

theorem take_flat (f : Int × Int → List UInt8) (l : List (Int × Int)) (k : Nat) (h : k < l.length) : (l.take (k + 1)).flatMap f = (l.take k).flatMap f ++ f (Pk.fst l k, Pk.snd l k) := by
  rw [List.take_succ_eq_append_getElem h, List.flatMap_append]
  simp [Pk.fst, Pk.snd, h]

theorem flat_len (f : Int × Int → List UInt8) (c : Nat) (hf : ∀ x, (f x).length = c) : ∀ l : List (Int × Int), (l.flatMap f).length = c * l.length
  | [] => rfl
  | x :: l => by rw [List.flatMap_cons, List.length_append, hf, flat_len f c hf l, List.length_cons, Nat.mul_succ, Nat.add_comm]
theorem file_len (nm vr : Int) (fs : List (Int × Int)) (k : Nat) : (Pk.nameT nm vr ++ (fs.take k).flatMap Pk.fileT).length ≤ 2 + 4 * k := by
  rw [List.length_append, flat_len Pk.fileT 4 (fun _ => rfl)]
  have : (fs.take k).length ≤ k := List.length_take_le _ _
  simp only [Pk.nameT, List.length_cons, List.length_nil]
  omega
theorem dep_len (a : List UInt8) (ds : List (Int × Int)) (k : Nat) : (a ++ (ds.take k).flatMap Pk.depT).length ≤ a.length + 3 * k := by
  rw [List.length_append, flat_len Pk.depT 3 (fun _ => rfl)]
  have : (ds.take k).length ≤ k := List.length_take_le _ _
  omega

theorem text_ok {nm vr : Int} {fs ds : List (Int × Int)} (h : Pk.pkgOk nm vr fs ds = true) : Pk.text nm vr fs ds = Pk.nameT nm vr ++ fs.flatMap Pk.fileT ++ ds.flatMap Pk.depT := by unfold Pk.text; rw [h]; rfl
theorem ret_val {a b : ByteArray} (h : a = b) : Value.string a = .string b := by rw [h]
theorem app_more (a b : List UInt8) : (⟨a.toArray⟩ ++ ⟨b.toArray⟩ : ByteArray) = ⟨(a ++ b).toArray⟩ := app_data a b
theorem file_more (nm vr : Int) (fs : List (Int × Int)) (k : Nat) (h : k < fs.length) {s : ByteArray} (hs : s = ⟨(Pk.nameT nm vr ++ (fs.take k).flatMap Pk.fileT).toArray⟩) :
    s ++ ⟨#[32]⟩ ++ ⟨#[Pk.b8 (48 + Pk.fst fs k)]⟩ ++ ⟨#[58]⟩ ++ ⟨#[Pk.b8 (48 + Pk.snd fs k)]⟩ = ⟨(Pk.nameT nm vr ++ (fs.take (k + 1)).flatMap Pk.fileT).toArray⟩ := by
  rw [hs, take_flat _ _ _ h]
  apply ByteArray.ext
  simp [Pk.fileT]

theorem dep_more (a : List UInt8) (ds : List (Int × Int)) (k : Nat) (h : k < ds.length) {s : ByteArray} (hs : s = ⟨(a ++ (ds.take k).flatMap Pk.depT).toArray⟩) :
    s ++ ⟨#[32]⟩ ++ ⟨(Pk.nameT (Pk.fst ds k) (Pk.snd ds k)).toArray⟩ = ⟨(a ++ (ds.take (k + 1)).flatMap Pk.depT).toArray⟩ := by
  rw [hs, take_flat _ _ _ h]
  apply ByteArray.ext
  simp [Pk.depT]

theorem pkgOk_get {nm vr : Int} {fs ds : List (Int × Int)} (h : Pk.pkgOk nm vr fs ds = true) : (1 ≤ nm ∧ nm ≤ 4) ∧ (1 ≤ vr ∧ vr ≤ 5) ∧ Pk.filesOk fs = true ∧ Pk.depsOk nm ds = true := by
  unfold Pk.pkgOk at h
  rw [Bool.and_eq_true, Bool.and_eq_true, Bool.and_eq_true, Pk.inB_true, Pk.inB_true] at h
  exact ⟨h.1.1.1, h.1.1.2, h.1.2, h.2⟩

end Go.Proofs.YtoccijcngncghaaDoor
