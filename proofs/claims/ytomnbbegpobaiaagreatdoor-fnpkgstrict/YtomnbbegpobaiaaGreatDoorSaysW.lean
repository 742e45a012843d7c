/- What both readers say of a text: one thing. -/
import Derived.Test.YtomnbbegpobaiaaGreatDoorImplReadW
namespace Go.Proofs.YtomnbbegpobaiaaGreatDoor
open Go.RowKit

/-- What is said of a text. -/
def Says (s : ByteArray) (nm vr : Int) (fs ds : List (Int × Int)) (b : Bool) : Prop :=
  (b = true ∧ Pk.pkgOk nm vr fs ds = true ∧ Pk.text nm vr fs ds = s.data.toList) ∨ (b = false ∧ nm = 0 ∧ vr = 0 ∧ fs = [] ∧ ds = [] ∧ ∀ nm vr fs ds, Pk.pkgOk nm vr fs ds = true → Pk.text nm vr fs ds ≠ s.data.toList)
theorem Says.one {s : ByteArray} {nm vr nm' vr' : Int} {fs ds fs' ds' : List (Int × Int)} {b b' : Bool} (h : Says s nm vr fs ds b) (h' : Says s nm' vr' fs' ds' b') : nm = nm' ∧ vr = vr' ∧ fs = fs' ∧ ds = ds' ∧ b = b' := by
  rcases h with ⟨rfl, ho, ht⟩ | ⟨rfl, rfl, rfl, rfl, rfl, hn⟩
  · rcases h' with ⟨rfl, ho', ht'⟩ | ⟨_, _, _, _, _, hn⟩
    · obtain ⟨a, b, c, d⟩ := (Pk.text_inj ho ho').1 (ht.trans ht'.symm)
      exact ⟨a, b, c, d, rfl⟩
    · exact absurd ht (hn _ _ _ _ ho)
  · rcases h' with ⟨rfl, ho', ht'⟩ | ⟨rfl, rfl, rfl, rfl, rfl, _⟩
    · exact absurd ht' (hn _ _ _ _ ho')
    · exact ⟨rfl, rfl, rfl, rfl, rfl⟩
theorem Says.len {s : ByteArray} {nm vr : Int} {fs ds : List (Int × Int)} {b : Bool} (h : Says s nm vr fs ds b) : fs.length ≤ 2 ∧ ds.length ≤ 2 := by
  rcases h with ⟨rfl, ho, _⟩ | ⟨rfl, rfl, rfl, rfl, rfl, _⟩
  · obtain ⟨_, _, h1, h2⟩ := pkgOk_get ho
    exact ⟨(Pk.filesOk_get h1).1, (Pk.depsOk_get h2).1⟩
  · simp
theorem Answer.out {s : ByteArray} {w w' : World} {e : Ending} (h : Answer s w e w') : ∃ nm vr fs ds fv dv b, e = .returned (.tuple #[.agg #[.int .i64 nm, .int .i64 vr, fv, dv], .bool b]) ∧ Says s nm vr fs ds b ∧ w'.ownsRow w.heap.size 50 2 fv fs.length (flat fs) ∧ w'.ownsRow w.heap.size 52 2 dv ds.length (flat ds) ∧ Below w.heap.size w w' := by
  obtain ⟨h | ⟨he, hn⟩, hb⟩ := h
  · obtain ⟨nm, vr, fs, ds, fv, dv, he, ho, ht, hf, hd⟩ := h
    exact ⟨nm, vr, fs, ds, fv, dv, true, he, .inl ⟨rfl, ho, ht⟩, hf, hd, hb⟩
  · exact ⟨0, 0, [], [], _, _, false, he, .inr ⟨rfl, rfl, rfl, rfl, rfl, hn⟩, ⟨rfl, .inl ⟨rfl, rfl⟩⟩, ⟨rfl, .inl ⟨rfl, rfl⟩⟩, hb⟩
end Go.Proofs.YtomnbbegpobaiaaGreatDoor
