/- What spec's l6Open returns: a reader at place 0. -/
import Derived.Test.YtnoghnkhfgiloaaDoorPickW
import Derived.Test.YtnoghnkhfgiloaaDoorBaseW
import Derived.OwnWalk
namespace Go.Proofs.YtnoghnkhfgiloaaDoor
open Go.RowKit

/-- A slice of bytes that can be read. -/
def Bytes (w : World) (a : Option Addr) (len cap : Nat) : Prop :=
  len ≤ cap ∧ cap ≤ maxLen ∧ (0 < len → ∃ b off, a = some ⟨b, off, none⟩ ∧ b < w.heap.size ∧ ∀ i, i < len → ∃ z : Int, 0 ≤ z ∧ z < 256 ∧ w.cell? ⟨b, off + i, none⟩ = some (.int .u8 z))

theorem Bytes.later {w w' : World} {a : Option Addr} {len cap : Nat} (h : Bytes w a len cap) (hb : Below w.heap.size w w') : Bytes w' a len cap := by
  refine ⟨h.1, h.2.1, fun hp => ?_⟩
  obtain ⟨b, off, ha, hbs, hc⟩ := h.2.2 hp
  refine ⟨b, off, ha, Nat.lt_of_lt_of_le hbs hb.size, fun i hi => ?_⟩
  obtain ⟨z, z0, z1, hz⟩ := hc i hi
  exact ⟨z, z0, z1, by rw [hb.cell hbs]; exact hz⟩

theorem Rd.new {w : World} {a : Option Addr} {len cap : Nat} (t : TypeId) (h : Bytes w a len cap) (n : Nat) (hn : n ≤ len) (hn' : n ≤ 2000) :
    Rd w.heap.size (w.alloc (.cells #[.slice a n cap, .int .i64 0] t)) w.heap.size 0 := by
  refine ⟨?_, ?_, ?_⟩
  · rw [World.cell?_alloc_new]; rfl
  · exact World.frozen?_alloc_new _ _ _ _
  · refine ⟨a, n, cap, by rw [World.cell?_alloc_new]; rfl, hn', fun hp => ?_⟩
    obtain ⟨b, off, ha, hbs, hc⟩ := h.2.2 (by omega)
    refine ⟨b, off, ha, by omega, hbs, fun i hi => ?_⟩
    obtain ⟨z, z0, z1, hz⟩ := hc i (by omega)
    exact ⟨z, z0, z1, by rw [World.cell?_alloc_lt _ _ _ hbs]; exact hz⟩

set_option maxHeartbeats 1000000 in
theorem open_any (w : World) (a : Option Addr) (len cap : Nat) (h : Bytes w a len cap) :
    Calls Tryd.prog 20 #[.slice a len cap] w fun e w' => e = .returned (.pointer (some ⟨w.heap.size, 0, none⟩)) ∧ Rd w.heap.size w' w.heap.size 0 ∧ Below w.heap.size w w' := by
  have h1 := h.1
  have h2 := h.2.1
  unfold maxLen at h2
  by_cases hl : len ≤ 2000
  · go_enter Tryd.func20, Tryd.ntmps20
    go_wp2
    go_ret
    exact ⟨rfl, Rd.new _ h len (Nat.le_refl _) hl, (Below.refl _ _).alloc (Nat.le_refl _) _⟩
  · have hl2 : (2000 : Int) ≤ (cap : Int) := by omega
    have hl3 : (2000 : Int) < (len : Int) := by omega
    go_enter Tryd.func20, Tryd.ntmps20
    go_wp2
    go_ret
    exact ⟨rfl, Rd.new _ h 2000 (by omega) (by omega), (Below.refl _ _).alloc (Nat.le_refl _) _⟩

/-- A reader over bytes, behind the box of the answer. -/
theorem open_behind (w : World) (a : Option Addr) (len cap : Nat) (h : Bytes w a len cap) (o : Obj) :
    Calls Tryd.prog 20 #[.slice a len cap] (w.alloc o) fun e w' => e = .returned (.pointer (some ⟨w.heap.size + 1, 0, none⟩)) ∧ Rd (w.heap.size + 1) w' (w.heap.size + 1) 0 ∧ w'.heap[w.heap.size]? = some o ∧ Below w.heap.size w w' ∧ w.heap.size + 1 < w'.heap.size := by
  have hz : (w.alloc o).heap.size = w.heap.size + 1 := by simp
  have h0 := heap_alloc_new w o
  have hb := below1 w o
  have h1 := h.later hb
  generalize w.alloc o = W0 at *
  refine (open_any W0 a len cap h1).mono ?_
  rintro e w1 ⟨rfl, hr1, b1⟩
  have := hr1.lt
  rw [hz] at hr1 this
  exact ⟨by rw [hz], hr1, (b1.block _ (by omega)).trans h0, hb.trans (b1.mono hb.size), this⟩
end Go.Proofs.YtnoghnkhfgiloaaDoor
