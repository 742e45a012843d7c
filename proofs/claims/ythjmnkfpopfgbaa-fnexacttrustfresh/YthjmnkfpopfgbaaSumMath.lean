/- The sum of a text as plain arithmetic: byte by byte, modulo 9973; no condition. -/
import Derived.KernelRfl
namespace Go.Proofs.Ythjmnkfpopfgbaa.Sm

/-- One byte more. -/
def step (n : Int) (c : UInt8) : Int := (31 * n + (c.toNat : Int) + 1) % 9973
/-- From a number on over a text. -/
def go (n : Int) (l : List UInt8) : Int := l.foldl step n
/-- The sum of a text. -/
def sum (l : List UInt8) : Int := go 7 l

theorem step_bd (n : Int) (c : UInt8) : 0 ≤ step n c ∧ step n c < 9973 := by unfold step; omega
theorem go_nil (n : Int) : go n [] = n := rfl
theorem go_cons (n : Int) (c : UInt8) (l : List UInt8) : go n (c :: l) = go (step n c) l := rfl
theorem go_append (n : Int) (a b : List UInt8) : go n (a ++ b) = go (go n a) b := by unfold go; rw [List.foldl_append]
theorem go_snoc (n : Int) (l : List UInt8) (c : UInt8) : go n (l ++ [c]) = step (go n l) c := by rw [go_append]; rfl
theorem go_bd : ∀ (l : List UInt8) (n : Int), 0 ≤ n → n < 9973 → 0 ≤ go n l ∧ go n l < 9973
  | [], n, h0, h1 => ⟨h0, h1⟩
  | c :: l, n, _, _ => by rw [go_cons]; exact go_bd l _ (step_bd n c).1 (step_bd n c).2
theorem sum_bd (l : List UInt8) : 0 ≤ sum l ∧ sum l < 9973 := go_bd l 7 (by omega) (by omega)
theorem step_inj {x y : Int} (c : UInt8) (hx : 0 ≤ x) (hx' : x < 9973) (hy : 0 ≤ y) (hy' : y < 9973) (h : step x c = step y c) : x = y := by
  unfold step at h; omega
theorem go_inj : ∀ (l : List UInt8) {x y : Int}, 0 ≤ x → x < 9973 → 0 ≤ y → y < 9973 → go x l = go y l → x = y
  | [], _, _, _, _, _, _, h => h
  | c :: l, x, y, hx, hx', hy, hy', h => by
    rw [go_cons, go_cons] at h
    exact step_inj c hx hx' hy hy' (go_inj l (step_bd x c).1 (step_bd x c).2 (step_bd y c).1 (step_bd y c).2 h)
theorem step_ne {n : Int} {c d : UInt8} (h : step n c = step n d) : c = d := by
  unfold step at h
  have h1 := c.toNat_lt
  have h2 := d.toNat_lt
  apply UInt8.toNat_inj.1
  omega
theorem sum_append (a b : List UInt8) : sum (a ++ b) = go (sum a) b := go_append 7 a b
theorem sum_snoc (l : List UInt8) (c : UInt8) : sum (l ++ [c]) = step (sum l) c := go_snoc 7 l c
/-- A byte that is changed is found. -/
theorem sum_change (a b : List UInt8) {c d : UInt8} (hcd : c ≠ d) : sum (a ++ (d :: b)) ≠ sum (a ++ (c :: b)) := by
  intro h
  rw [sum_append, sum_append, go_cons, go_cons] at h
  exact hcd (step_ne (go_inj b (step_bd _ _).1 (step_bd _ _).2 (step_bd _ _).1 (step_bd _ _).2 h)).symm
/-- What is behind two texts does not matter. -/
theorem sum_two (a b t : List UInt8) : sum (a ++ t) = sum (b ++ t) ↔ sum a = sum b := by
  rw [sum_append, sum_append]
  constructor
  · intro h; exact go_inj t (sum_bd a).1 (sum_bd a).2 (sum_bd b).1 (sum_bd b).2 h
  · intro h; rw [h]
theorem take_snoc (s : ByteArray) (k : Nat) (h : k < s.size) : s.data.toList.take (k + 1) = s.data.toList.take k ++ [s[k]] := by
  rw [List.take_succ_eq_append_getElem (by simpa using h)]; rfl
theorem sum_take (s : ByteArray) (k : Nat) (h : k < s.size) : sum (s.data.toList.take (k + 1)) = (31 * sum (s.data.toList.take k) + (s[k].toNat : Int) + 1) % 9973 := by
  rw [take_snoc s k h, sum_snoc]; rfl
end Go.Proofs.Ythjmnkfpopfgbaa.Sm
