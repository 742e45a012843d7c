import Derived.Test.YtlnieobmhofkdaaGreatMix16
import Derived.Lib.SplitLaws
import Derived.Lib.AtoiAllCases
/- How a text of a package is read, as plain data: its words, what each says, and that the text of a package that is ok says that package. -/
namespace Go.Proofs.YtlnieobmhofkdaaGreat.Pk

/-- A text, cut at a byte. -/
def split1 (c : UInt8) : List UInt8 → List (List UInt8)
  | [] => [[]]
  | x :: l => if x = c then [] :: split1 c l else match split1 c l with
    | [] => [[x]]
    | y :: ys => (x :: y) :: ys

theorem split1_ne (c : UInt8) : ∀ l, split1 c l ≠ []
  | [] => by simp [split1]
  | x :: l => by
    unfold split1
    split
    · simp
    · split <;> simp
theorem split1_no (c : UInt8) : ∀ l, c ∉ l → split1 c l = [l]
  | [], _ => rfl
  | x :: l, h => by
    simp only [List.mem_cons, not_or] at h
    unfold split1
    rw [if_neg (fun e => h.1 e.symm), split1_no c l h.2]
theorem split1_app (c : UInt8) : ∀ a b, c ∉ a → split1 c (a ++ c :: b) = a :: split1 c b
  | [], b, _ => by simp [split1]
  | x :: a, b, h => by
    simp only [List.mem_cons, not_or] at h
    rw [List.cons_append]
    conv => lhs; unfold split1
    rw [if_neg (fun e => h.1 e.symm), split1_app c a b h.2]
theorem split1_len (c : UInt8) : ∀ l, (split1 c l).length ≤ l.length + 1 ∧ ∀ x ∈ split1 c l, x.length ≤ l.length
  | [] => by simp [split1]
  | y :: l => by
    obtain ⟨h1, h2⟩ := split1_len c l
    unfold split1
    split
    · simp only [List.length_cons, List.mem_cons]
      exact ⟨by omega, fun x hx => by
        rcases hx with rfl | hx
        · simp
        · have := h2 x hx; omega⟩
    · split
      · simp
      · rename_i z zs e
        rw [e] at h1 h2
        simp only [List.length_cons, List.mem_cons] at h1 ⊢
        exact ⟨by omega, fun x hx => by
          rcases hx with rfl | hx
          · have := h2 z (List.mem_cons_self ..); simp only [List.length_cons]; omega
          · have := h2 x (List.mem_cons_of_mem _ hx); omega⟩

theorem index_no (c : UInt8) : ∀ l, c ∉ l → Lib.index l [c] = -1
  | [], _ => rfl
  | x :: l, h => by
    simp only [List.mem_cons, not_or] at h
    have hp : ([c] : List UInt8).isPrefixOf (x :: l) = false := by simp [List.isPrefixOf, h.1]
    rw [Lib.index, hp, index_no c l h.2]
    rfl
theorem index_at (c : UInt8) : ∀ a b, c ∉ a → Lib.index (a ++ c :: b) [c] = (a.length : Nat)
  | [], b, _ => by rw [List.nil_append, Lib.index]; simp [List.isPrefixOf]
  | x :: a, b, h => by
    simp only [List.mem_cons, not_or] at h
    have hp : ([c] : List UInt8).isPrefixOf (x :: (a ++ c :: b)) = false := by simp [List.isPrefixOf, h.1]
    have hm : ((a.length : Int) == -1) = false := by rw [beq_eq_false_iff_ne]; omega
    rw [List.cons_append, Lib.index, hp, index_at c a b h.2, hm]
    simp

theorem splitK_eq (c : UInt8) : ∀ (n : Nat) (l : List UInt8), l.length ≤ n → Lib.splitK [c] 0 (Lib.count l [c]) l = split1 c l
  | n, l, hn => by
    by_cases h : c ∈ l
    · obtain ⟨a, b, rfl, ha⟩ := List.eq_append_cons_of_mem h
      have hi := index_at c a b ha
      have hm : ((a.length : Int) == -1) = false := by rw [beq_eq_false_iff_ne]; omega
      have hd : (a ++ c :: b).drop (a.length + 1) = b := by rw [← List.drop_drop, List.drop_left]; rfl
      have hb : Lib.count (a ++ c :: b) [c] = Lib.count b [c] + 1 := by
        rw [Lib.count_hit (by simp) hi]
        show 1 + Lib.count ((a ++ c :: b).drop (a.length + 1)) [c] = _
        rw [hd, Nat.add_comm]
      match n, hn with
      | 0, hn => simp at hn
      | n + 1, hn =>
        rw [hb, split1_app c a b ha]
        show (if Lib.index (a ++ c :: b) [c] == -1 then _ else _) = _
        rw [hi, hm, if_neg (by simp)]
        show (a ++ c :: b).take (a.length + 0) :: Lib.splitK [c] 0 (Lib.count b [c]) ((a ++ c :: b).drop (a.length + 1)) = _
        rw [hd, Nat.add_zero, List.take_left, splitK_eq c n b (by simp at hn; omega)]
    · rw [Lib.count_miss (index_no c l h), split1_no c l h]
      rfl
/-- What strings.Split cuts at one byte. -/
theorem splitB_eq (s : ByteArray) (c : UInt8) : (Lib.splitB ⟨#[c]⟩ 0 (Lib.countB s ⟨#[c]⟩) s).map (·.data.toList) = split1 c s.data.toList := by
  rw [Lib.splitB_data]
  exact splitK_eq c _ _ (Nat.le_refl _)

/-- A number, a name and a number, a word. -/
def numF (s : List UInt8) : Option Int := match Lib.atoiAll s with
  | .ok v => some v
  | _ => none
def namedF : List UInt8 → Option (Int × Int)
  | [] => none
  | c :: r => match numF r with
    | some v => some ((c.toNat : Int) - 97 + 1, v)
    | none => none
def fileF (a b : List UInt8) : Option (Nat × Int × Int) := match numF a, numF b with
  | some x, some y => some (1, x, y)
  | _, _ => none
def wordF (first : Bool) (s : List UInt8) : Option (Nat × Int × Int) :=
  if (Lib.cut s [58]).2.2 = true then fileF (Lib.cut s [58]).1 (Lib.cut s [58]).2.1
  else match namedF s with
    | some (n, v) => some (bif first then 0 else 2, n, v)
    | none => none

/-- The words of a package, and how each is written. -/
def wordL (nm vr : Int) (fs ds : List (Int × Int)) : List (Nat × Int × Int) := (0, nm, vr) :: (fs.map (fun x => (1, x.1, x.2)) ++ ds.map (fun x => (2, x.1, x.2)))
def wordT : Nat × Int × Int → List UInt8
  | (0, a, b) => nameT a b
  | (1, a, b) => [b8 (48 + a), 58, b8 (48 + b)]
  | (_, a, b) => nameT a b

theorem named_all : ∀ a : Fin 4, ∀ b : Fin 10, ∀ f : Bool, 32 ∉ nameT (a.val + 1 : Nat) (b.val : Nat) ∧ wordF f (nameT (a.val + 1 : Nat) (b.val : Nat)) = some (bif f then 0 else 2, ((a.val + 1 : Nat) : Int), ((b.val : Nat) : Int)) := by decide +kernel
theorem file_all : ∀ a : Fin 10, ∀ b : Fin 10, 32 ∉ wordT (1, (a.val : Nat), (b.val : Nat)) ∧ wordF false (wordT (1, (a.val : Nat), (b.val : Nat))) = some (1, ((a.val : Nat) : Int), ((b.val : Nat) : Int)) := by decide +kernel
theorem named_ok {a b : Int} (h : 1 ≤ a ∧ a ≤ 4 ∧ 0 ≤ b ∧ b ≤ 9) (f : Bool) : 32 ∉ nameT a b ∧ wordF f (nameT a b) = some (bif f then 0 else 2, a, b) := by
  have := named_all ⟨(a - 1).toNat, by omega⟩ ⟨b.toNat, by omega⟩ f
  have e1 : (((a - 1).toNat + 1 : Nat) : Int) = a := by omega
  have e2 : ((b.toNat : Nat) : Int) = b := by omega
  simp only [e1, e2] at this
  exact this
theorem file_ok {a b : Int} (h : 0 ≤ a ∧ a ≤ 9 ∧ 0 ≤ b ∧ b ≤ 9) : 32 ∉ wordT (1, a, b) ∧ wordF false (wordT (1, a, b)) = some (1, a, b) := by
  have := file_all ⟨a.toNat, by omega⟩ ⟨b.toNat, by omega⟩
  have e1 : ((a.toNat : Nat) : Int) = a := by omega
  have e2 : ((b.toNat : Nat) : Int) = b := by omega
  simp only [e1, e2] at this
  exact this

theorem split_words : ∀ (ws : List (List UInt8)) (a : List UInt8), 32 ∉ a → (∀ x ∈ ws, 32 ∉ x) → split1 32 (a ++ ws.flatMap (fun x => 32 :: x)) = a :: ws
  | [], a, ha, _ => by rw [List.flatMap_nil, List.append_nil, split1_no 32 a ha]
  | x :: ws, a, ha, h => by
    rw [List.flatMap_cons, List.cons_append, split1_app 32 a _ ha, split_words ws x (h x (List.mem_cons_self ..)) (fun y hy => h y (List.mem_cons_of_mem _ hy))]

theorem word_no {nm vr : Int} {fs ds : List (Int × Int)} (h : pkgOk nm vr fs ds = true) : ∀ x ∈ wordL nm vr fs ds, 32 ∉ wordT x := by
  obtain ⟨h1, h2, h3⟩ := ok_parts h
  intro x hx
  simp only [wordL, List.mem_cons, List.mem_append, List.mem_map] at hx
  rcases hx with rfl | ⟨y, hy, rfl⟩ | ⟨y, hy, rfl⟩
  · exact (named_ok h1 true).1
  · exact (file_ok (h2 y hy)).1
  · exact (named_ok (h3 y hy) true).1
/-- The text of a package that is ok is cut into its words. -/
theorem split_text {nm vr : Int} {fs ds : List (Int × Int)} (h : pkgOk nm vr fs ds = true) : split1 32 (text nm vr fs ds) = (wordL nm vr fs ds).map wordT := by
  have hno := word_no h
  have e : text nm vr fs ds = nameT nm vr ++ ((fs.map (fun x : Int × Int => ((1 : Nat), x.1, x.2)) ++ ds.map (fun x : Int × Int => ((2 : Nat), x.1, x.2))).map wordT).flatMap (fun x => 32 :: x) := by
    unfold text
    rw [if_pos h, textOk, List.map_append, List.flatMap_append, List.append_assoc]
    congr 2
    · rw [List.map_map, List.flatMap_map]; rfl
    · rw [List.map_map, List.flatMap_map]; rfl
  have hn : 32 ∉ nameT nm vr := hno (0, nm, vr) (List.mem_cons_self ..)
  rw [e, split_words _ _ hn]
  · rfl
  · intro x hx
    obtain ⟨y, hy, rfl⟩ := List.mem_map.1 hx
    exact hno y (List.mem_cons_of_mem _ hy)
/-- Each word of it is read as what it is. -/
theorem word_text {nm vr : Int} {fs ds : List (Int × Int)} (h : pkgOk nm vr fs ds = true) (i : Nat) (hi : i < (wordL nm vr fs ds).length) : wordF (decide (i = 0)) (wordT (wordL nm vr fs ds)[i]) = some (wordL nm vr fs ds)[i] := by
  obtain ⟨h1, h2, h3⟩ := ok_parts h
  cases i with
  | zero => exact (named_ok h1 true).2
  | succ i =>
    have hd : decide (i + 1 = 0) = false := by simp
    have hm : (wordL nm vr fs ds)[i + 1] ∈ fs.map (fun x => ((1 : Nat), x.1, x.2)) ++ ds.map (fun x => ((2 : Nat), x.1, x.2)) := by
      simp only [wordL, List.getElem_cons_succ]
      exact List.getElem_mem _
    rw [hd]
    generalize (wordL nm vr fs ds)[i + 1] = x at hm
    simp only [List.mem_append, List.mem_map] at hm
    rcases hm with ⟨y, hy, rfl⟩ | ⟨y, hy, rfl⟩
    · exact (file_ok (h2 y hy)).2
    · exact (named_ok (h3 y hy) false).2

/-- Words are put together to a package. -/
def stepW : (Int × Int × List (Int × Int) × List (Int × Int)) → (Nat × Int × Int) → (Int × Int × List (Int × Int) × List (Int × Int))
  | (_, _, fs, ds), (0, a, b) => (a, b, fs, ds)
  | (n, v, fs, ds), (1, a, b) => (n, v, fs ++ [(a, b)], ds)
  | (n, v, fs, ds), (_, a, b) => (n, v, fs, ds ++ [(a, b)])
def foldW (l : List (Nat × Int × Int)) : Int × Int × List (Int × Int) × List (Int × Int) := l.foldl stepW (0, 0, [], [])
theorem fold_files : ∀ (l : List (Int × Int)) (n v : Int) (fs ds : List (Int × Int)), (l.map (fun x => ((1 : Nat), x.1, x.2))).foldl stepW (n, v, fs, ds) = (n, v, fs ++ l, ds)
  | [], n, v, fs, ds => by simp
  | x :: l, n, v, fs, ds => by
    rw [List.map_cons, List.foldl_cons]
    show (l.map _).foldl stepW (n, v, fs ++ [(x.1, x.2)], ds) = _
    rw [fold_files l, List.append_assoc]
    rfl
theorem fold_deps : ∀ (l : List (Int × Int)) (n v : Int) (fs ds : List (Int × Int)), (l.map (fun x => ((2 : Nat), x.1, x.2))).foldl stepW (n, v, fs, ds) = (n, v, fs, ds ++ l)
  | [], n, v, fs, ds => by simp
  | x :: l, n, v, fs, ds => by
    rw [List.map_cons, List.foldl_cons]
    show (l.map _).foldl stepW (n, v, fs, ds ++ [(x.1, x.2)]) = _
    rw [fold_deps l, List.append_assoc]
    rfl
theorem fold_words (nm vr : Int) (fs ds : List (Int × Int)) : foldW (wordL nm vr fs ds) = (nm, vr, fs, ds) := by
  unfold foldW wordL
  rw [List.foldl_cons, List.foldl_append]
  show (ds.map _).foldl stepW ((fs.map _).foldl stepW (nm, vr, [], [])) = _
  rw [fold_files, fold_deps, List.nil_append, List.nil_append]
theorem fold_snoc (l : List (Nat × Int × Int)) (x : Nat × Int × Int) : foldW (l ++ [x]) = stepW (foldW l) x := by unfold foldW; rw [List.foldl_append]; rfl
theorem fold_len (l : List (Nat × Int × Int)) : (foldW l).2.2.1.length ≤ l.length ∧ (foldW l).2.2.2.length ≤ l.length := by
  have key : ∀ (l : List (Nat × Int × Int)) (st : Int × Int × List (Int × Int) × List (Int × Int)), (l.foldl stepW st).2.2.1.length ≤ st.2.2.1.length + l.length ∧ (l.foldl stepW st).2.2.2.length ≤ st.2.2.2.length + l.length := by
    intro l
    induction l with
    | nil => intro st; simp
    | cons x l ih =>
      intro st
      rw [List.foldl_cons]
      obtain ⟨i1, i2⟩ := ih (stepW st x)
      obtain ⟨n, v, fs, ds⟩ := st
      obtain ⟨k, a, b⟩ := x
      have : (stepW (n, v, fs, ds) (k, a, b)).2.2.1.length ≤ fs.length + 1 ∧ (stepW (n, v, fs, ds) (k, a, b)).2.2.2.length ≤ ds.length + 1 := by
        match k with
        | 0 => simp [stepW]
        | 1 => simp [stepW]
        | k + 2 => simp [stepW]
      simp only [List.length_cons]
      omega
  have := key l (0, 0, [], [])
  simpa [foldW] using this

/-- What is read of a text: words that are all read. -/
def Reads (t : List UInt8) (ps : List (Nat × Int × Int)) : Prop := ps.length = (split1 32 t).length ∧ ∀ i, i < (split1 32 t).length → wordF (decide (i = 0)) ((split1 32 t).getD i []) = some (ps.getD i (0, 0, 0))
theorem reads_text {nm vr : Int} {fs ds : List (Int × Int)} (h : pkgOk nm vr fs ds = true) : Reads (text nm vr fs ds) (wordL nm vr fs ds) := by
  refine ⟨by rw [split_text h, List.length_map], fun i hi => ?_⟩
  rw [split_text h, List.length_map] at hi
  rw [split_text h, List.getD_eq_getElem?_getD, List.getD_eq_getElem?_getD, List.getElem?_map, List.getElem?_eq_getElem hi]
  exact word_text h i hi
theorem reads_one {t : List UInt8} {ps qs : List (Nat × Int × Int)} (h : Reads t ps) (h' : Reads t qs) : ps = qs := by
  apply List.ext_getElem (h.1.trans h'.1.symm)
  intro i h1 h2
  have e1 := h.2 i (by rw [← h.1]; exact h1)
  have e2 := h'.2 i (by rw [← h.1]; exact h1)
  rw [e1] at e2
  injection e2 with e2
  simpa [List.getD_eq_getElem?_getD, h1, h2] using e2
/-- A word that is not read: the text is no package's. -/
theorem reads_none {t : List UInt8} {k : Nat} (hk : k < (split1 32 t).length) (hn : wordF (decide (k = 0)) ((split1 32 t).getD k []) = none) {nm vr : Int} {fs ds : List (Int × Int)} (h : pkgOk nm vr fs ds = true) : text nm vr fs ds ≠ t := by
  intro e
  subst e
  have := (reads_text h).2 k hk
  rw [hn] at this
  cases this
/-- Of a text whose words are read the package can only be what they are put together to. -/
theorem reads_only {t : List UInt8} {ps : List (Nat × Int × Int)} (hr : Reads t ps) {nm vr : Int} {fs ds : List (Int × Int)} (h : pkgOk nm vr fs ds = true) (e : text nm vr fs ds = t) : foldW ps = (nm, vr, fs, ds) := by
  subst e
  rw [reads_one hr (reads_text h), fold_words]
theorem text_le30 {nm vr : Int} {fs ds : List (Int × Int)} (h : pkgOk nm vr fs ds = true) : (text nm vr fs ds).length ≤ 30 := by
  have h' := h
  unfold pkgOk at h'
  rw [Bool.and_eq_true, Bool.and_eq_true, Bool.and_eq_true] at h'
  have h1 := (filesOk_get h'.1.2).1
  have h2 := (depsOk_get h'.2).1
  have lf : ∀ l : List (Int × Int), (l.flatMap fileT).length = 4 * l.length := fun l => by induction l with
    | nil => rfl
    | cons x l ih => rw [List.flatMap_cons, List.length_append, ih]; simp [fileT]; omega
  have ld : ∀ l : List (Int × Int), (l.flatMap depT).length = 3 * l.length := fun l => by induction l with
    | nil => rfl
    | cons x l ih => rw [List.flatMap_cons, List.length_append, ih]; simp [depT, nameT]; omega
  unfold text
  rw [if_pos h, textOk, List.length_append, List.length_append, lf, ld]
  simp [nameT]
  omega
end Go.Proofs.YtlnieobmhofkdaaGreat.Pk
