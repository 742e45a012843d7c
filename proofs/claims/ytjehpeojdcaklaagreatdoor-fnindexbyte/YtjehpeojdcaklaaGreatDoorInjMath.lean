/- Two packages that are ok and have one text are the same. -/
import Derived.Test.YtjehpeojdcaklaaGreatDoorMathW
namespace Go.Proofs.YtjehpeojdcaklaaGreatDoor.Pk

theorem b8_inj {a b : Int} (ha : 0 ≤ a) (ha' : a < 256) (hb : 0 ≤ b) (hb' : b < 256) (h : b8 a = b8 b) : a = b := by
  have := congrArg UInt8.toNat h
  unfold b8 at this
  rw [UInt8.toNat_ofNat', UInt8.toNat_ofNat'] at this
  omega

def FOk (x : Int × Int) : Prop := 0 ≤ x.1 ∧ x.1 ≤ 9 ∧ 0 ≤ x.2 ∧ x.2 ≤ 9
def DOk (x : Int × Int) : Prop := 1 ≤ x.1 ∧ x.1 ≤ 4 ∧ 0 ≤ x.2 ∧ x.2 ≤ 9

theorem fileT_eq {x y : Int × Int} {a b : List UInt8} (hx : FOk x) (hy : FOk y) (h : fileT x ++ a = fileT y ++ b) : x = y ∧ a = b := by
  unfold fileT at h
  simp only [List.cons_append, List.nil_append, List.cons.injEq, true_and] at h
  obtain ⟨x1, x2, x3, x4⟩ := hx
  obtain ⟨y1, y2, y3, y4⟩ := hy
  have e1 := b8_inj (by omega) (by omega) (by omega) (by omega) h.1
  have e2 := b8_inj (by omega) (by omega) (by omega) (by omega) h.2.1
  exact ⟨Prod.ext (by omega) (by omega), h.2.2⟩
theorem nameT_eq {n v n' v' : Int} {a b : List UInt8} (h1 : 1 ≤ n ∧ n ≤ 4 ∧ 0 ≤ v ∧ v ≤ 9) (h2 : 1 ≤ n' ∧ n' ≤ 4 ∧ 0 ≤ v' ∧ v' ≤ 9) (h : nameT n v ++ a = nameT n' v' ++ b) : n = n' ∧ v = v' ∧ a = b := by
  unfold nameT at h
  simp only [List.cons_append, List.nil_append, List.cons.injEq] at h
  have e1 := b8_inj (by omega) (by omega) (by omega) (by omega) h.1
  have e2 := b8_inj (by omega) (by omega) (by omega) (by omega) h.2.1
  exact ⟨by omega, by omega, h.2.2⟩
theorem file_dep {x y : Int × Int} {a b : List UInt8} (hy : DOk y) (h : fileT x ++ a = depT y ++ b) : False := by
  unfold fileT depT nameT at h
  simp only [List.cons_append, List.nil_append, List.cons.injEq, true_and] at h
  have e := h.2.1
  obtain ⟨y1, y2, y3, y4⟩ := hy
  have : b8 58 = b8 (48 + y.2) := e
  have := b8_inj (by omega) (by omega) (by omega) (by omega) this
  omega
theorem deps_inj : ∀ (ds ds' : List (Int × Int)), (∀ x ∈ ds, DOk x) → (∀ x ∈ ds', DOk x) → ds.flatMap depT = ds'.flatMap depT → ds = ds'
  | [], [], _, _, _ => rfl
  | [], y :: l, _, _, h => by simp [depT] at h
  | x :: l, [], _, _, h => by simp [depT] at h
  | x :: l, y :: l', hx, hy, h => by
    rw [List.flatMap_cons, List.flatMap_cons] at h
    unfold depT at h
    simp only [List.cons_append, List.cons.injEq, true_and] at h
    obtain ⟨x1, x2, x3, x4⟩ := hx x (List.mem_cons_self ..)
    obtain ⟨y1, y2, y3, y4⟩ := hy y (List.mem_cons_self ..)
    obtain ⟨e1, e2, e3⟩ := nameT_eq ⟨x1, x2, x3, x4⟩ ⟨y1, y2, y3, y4⟩ h
    rw [Prod.ext e1 e2, deps_inj l l' (fun z hz => hx z (List.mem_cons_of_mem _ hz)) (fun z hz => hy z (List.mem_cons_of_mem _ hz)) e3]
theorem files_inj : ∀ (fs fs' ds ds' : List (Int × Int)), (∀ x ∈ fs, FOk x) → (∀ x ∈ fs', FOk x) → (∀ x ∈ ds, DOk x) → (∀ x ∈ ds', DOk x) → fs.flatMap fileT ++ ds.flatMap depT = fs'.flatMap fileT ++ ds'.flatMap depT → fs = fs' ∧ ds = ds'
  | [], [], ds, ds', _, _, h3, h4, h => ⟨rfl, deps_inj ds ds' h3 h4 h⟩
  | [], y :: l', [], ds', _, _, _, _, h => by simp [fileT] at h
  | [], y :: l', d :: m, ds', _, h2, h3, _, h => by
    rw [List.flatMap_cons, List.flatMap_cons, List.flatMap_nil, List.nil_append, List.append_assoc] at h
    exact (file_dep (h3 d (List.mem_cons_self ..)) h.symm).elim
  | x :: l, [], ds, [], _, _, _, _, h => by simp [fileT] at h
  | x :: l, [], ds, d :: m, h1, _, _, h4, h => by
    rw [List.flatMap_cons, List.flatMap_cons, List.flatMap_nil, List.nil_append, List.append_assoc] at h
    exact (file_dep (h4 d (List.mem_cons_self ..)) h).elim
  | x :: l, y :: l', ds, ds', h1, h2, h3, h4, h => by
    rw [List.flatMap_cons, List.flatMap_cons, List.append_assoc, List.append_assoc] at h
    obtain ⟨e1, e2⟩ := fileT_eq (h1 x (List.mem_cons_self ..)) (h2 y (List.mem_cons_self ..)) h
    obtain ⟨e3, e4⟩ := files_inj l l' ds ds' (fun z hz => h1 z (List.mem_cons_of_mem _ hz)) (fun z hz => h2 z (List.mem_cons_of_mem _ hz)) h3 h4 e2
    exact ⟨by rw [e1, e3], e4⟩

theorem mem_of {l : List (Int × Int)} {P : Int → Int → Prop} (h : ∀ i, i < l.length → P (fst l i) (snd l i)) : ∀ x ∈ l, P x.1 x.2 := by
  intro x hx
  obtain ⟨i, hi, rfl⟩ := List.getElem_of_mem hx
  have := h i hi
  simpa [fst, snd, hi] using this

theorem ok_parts {nm vr : Int} {fs ds : List (Int × Int)} (h : pkgOk nm vr fs ds = true) : (1 ≤ nm ∧ nm ≤ 4 ∧ 0 ≤ vr ∧ vr ≤ 9) ∧ (∀ x ∈ fs, FOk x) ∧ (∀ x ∈ ds, DOk x) := by
  unfold pkgOk at h
  rw [Bool.and_eq_true, Bool.and_eq_true, Bool.and_eq_true, inB_true, inB_true] at h
  have fb := mem_of (P := fun a b => (0 ≤ a ∧ a ≤ 5) ∧ (0 ≤ b ∧ b ≤ 9)) (filesOk_get h.1.2).2
  have db := mem_of (P := fun a b => (1 ≤ a ∧ a ≤ 4) ∧ (1 ≤ b ∧ b ≤ 5)) (depsOk_get h.2).2
  exact ⟨by omega, fun x hx => by have := fb x hx; unfold FOk; omega, fun x hx => by have := db x hx; unfold DOk; omega⟩

/-- Two packages that are ok are the same just if their texts are. -/
theorem text_inj {nm vr nm' vr' : Int} {fs ds fs' ds' : List (Int × Int)} (h : pkgOk nm vr fs ds = true) (h' : pkgOk nm' vr' fs' ds' = true) : text nm vr fs ds = text nm' vr' fs' ds' ↔ (nm = nm' ∧ vr = vr' ∧ fs = fs' ∧ ds = ds') := by
  constructor
  · intro e
    unfold text at e
    rw [if_pos h, if_pos h'] at e
    unfold textOk at e
    obtain ⟨a1, a2, a3⟩ := ok_parts h
    obtain ⟨b1, b2, b3⟩ := ok_parts h'
    rw [List.append_assoc, List.append_assoc] at e
    obtain ⟨e1, e2, e3⟩ := nameT_eq a1 b1 e
    obtain ⟨e4, e5⟩ := files_inj fs fs' ds ds' a2 b2 a3 b3 e3
    exact ⟨e1, e2, e4, e5⟩
  · rintro ⟨rfl, rfl, rfl, rfl⟩
    rfl
theorem text_nil {nm vr : Int} {fs ds : List (Int × Int)} : text nm vr fs ds = [] ↔ pkgOk nm vr fs ds = false := by
  unfold text
  cases h : pkgOk nm vr fs ds
  · simp
  · simp [textOk, nameT]
end Go.Proofs.YtjehpeojdcaklaaGreatDoor.Pk
