/- What spec's l6Open, of and l6Many return: a reader at place 0; one of the texts; a text of bounded length. -/
import Derived.Test.YtfhdcapkoahflaaPickW
import Derived.OwnWalk
namespace Go.Proofs.Ytfhdcapkoahflaa
open Go.RowKit

/-- A slice of bytes that can be read. -/
def Bytes (w : World) (a : Option Addr) (len cap : Nat) : Prop :=
  len ≤ cap ∧ cap ≤ maxLen ∧ (0 < len → ∃ b off, a = some ⟨b, off, none⟩ ∧ b < w.heap.size ∧ ∀ i, i < len → ∃ z : Int, 0 ≤ z ∧ z < 256 ∧ w.cell? ⟨b, off + i, none⟩ = some (.int .u8 z))

theorem Bytes.later {w w' : World} {a : Option Addr} {len cap : Nat} (h : Bytes w a len cap) (hb : Below w.heap.size w w') : Bytes w' a len cap := by
  refine ⟨h.1, h.2.1, fun hp => ?_⟩
  obtain ⟨b, off, ha, hbs, hc⟩ := h.2.2 hp
  refine ⟨b, off, ha, Nat.lt_of_lt_of_le hbs hb.size, fun i hi => ?_⟩
  obtain ⟨z, z0, z1, hz⟩ := hc i hi
  exact ⟨z, z0, z1, by rw [hb.cell hbs]; exact hz⟩

theorem Rd.new {w : World} {a : Option Addr} {len cap : Nat} (t : TypeId) (h : Bytes w a len cap) (n : Nat) (hn : n ≤ len) (hn' : n ≤ 2000) :
    Rd w.heap.size (w.alloc (.cells #[.slice a n cap, .int .i64 0] t)) w.heap.size 0 := by
  refine ⟨?_, ?_, ?_⟩
  · rw [World.cell?_alloc_new]; rfl
  · exact World.frozen?_alloc_new _ _ _ _
  · refine ⟨a, n, cap, by rw [World.cell?_alloc_new]; rfl, hn', fun hp => ?_⟩
    obtain ⟨b, off, ha, hbs, hc⟩ := h.2.2 (by omega)
    refine ⟨b, off, ha, by omega, hbs, fun i hi => ?_⟩
    obtain ⟨z, z0, z1, hz⟩ := hc i (by omega)
    exact ⟨z, z0, z1, by rw [World.cell?_alloc_lt _ _ _ hbs]; exact hz⟩

set_option maxHeartbeats 1000000 in
theorem open_any (w : World) (a : Option Addr) (len cap : Nat) (h : Bytes w a len cap) :
    Calls Try.prog 17 #[.slice a len cap] w fun e w' => e = .returned (.pointer (some ⟨w.heap.size, 0, none⟩)) ∧ Rd w.heap.size w' w.heap.size 0 ∧ Below w.heap.size w w' := by
  have h1 := h.1
  have h2 := h.2.1
  unfold maxLen at h2
  by_cases hl : len ≤ 2000
  · go_enter Try.func17, Try.ntmps17
    go_wp2
    go_ret
    exact ⟨rfl, Rd.new _ h len (Nat.le_refl _) hl, (Below.refl _ _).alloc (Nat.le_refl _) _⟩
  · have hl2 : (2000 : Int) ≤ (cap : Int) := by omega
    have hl3 : (2000 : Int) < (len : Int) := by omega
    go_enter Try.func17, Try.ntmps17
    go_wp2
    go_ret
    exact ⟨rfl, Rd.new _ h 2000 (by omega) (by omega), (Below.refl _ _).alloc (Nat.le_refl _) _⟩

set_option maxHeartbeats 1000000 in
/-- of: one of the texts. -/
theorem of_any {B : Nat} (w : World) (blk p b off n cap : Nat) (ss : Nat → ByteArray) (h : Rd B w blk p) (hp : p ≤ 1000000000) (hn : 1 ≤ n) (hn' : n ≤ 1000000) (_hcap : n ≤ cap)
    (hne : b ≠ blk) (hc : ∀ i, i < n → w.cell? ⟨b, off + i, none⟩ = some (.string (ss i))) :
    Calls Try.prog 29 #[.pointer (some ⟨blk, 0, none⟩), .slice (some ⟨b, off, none⟩) n cap] w fun e w' => ∃ i, i < n ∧ e = .returned (.string (ss i)) ∧ Rd B w' blk (p + 1) ∧ Kp w.heap.size blk w w' := by
  have hlt := cell_lt (hc 0 (by omega))
  go_enter Try.func29, Try.ntmps29
  go_wp2_with fail
  refine (pick_any w blk p n h hp (by omega) (by omega)).mono ?_
  rintro e w1 ⟨v, rfl, v0, v1, hr, hk⟩
  obtain ⟨i, rfl⟩ := Int.eq_ofNat_of_zero_le v0
  have hi : i < n := by omega
  have hci : w1.cell? ⟨b, off + i, none⟩ = some (.string (ss i)) := by rw [hk.cell hlt hne]; exact hc i hi
  clear hc
  go_wp2
  go_ret
  exact ⟨i, hi, rfl, hr, hk⟩

theorem many_step (o s n N : Nat) (hn : 0 < n) (h : o + n * s ≤ N) : (n % 2 = 1 → o + s + (n / 2) * (s + s) ≤ N) ∧ (n % 2 = 0 → o + (n / 2) * (s + s) ≤ N) ∧ s ≤ N := by
  have e : n = 2 * (n / 2) + n % 2 := by omega
  have e2 : (n / 2) * (s + s) = (2 * (n / 2)) * s := by rw [← Nat.two_mul, ← Nat.mul_assoc, Nat.mul_comm (n / 2) 2]
  have e3 : n * s = (2 * (n / 2)) * s + (n % 2) * s := by rw [← Nat.add_mul, ← e]
  have e4 : s ≤ n * s := Nat.le_mul_of_pos_left s hn
  refine ⟨fun h1 => ?_, fun h1 => ?_, by omega⟩
  · rw [h1, Nat.one_mul] at e3; omega
  · rw [h1, Nat.zero_mul] at e3; omega

set_option maxHeartbeats 1000000 in
/-- l6Many: a text of at most N bytes, where n times the text has no more. -/
theorem many_any (w : World) (s : ByteArray) (n N : Nat) (hn : n * s.size ≤ N) (hs : s.size ≤ N) (hN : N ≤ 1000000) (hn' : n ≤ 1000000) :
    Calls Try.prog 30 #[.string s, .int .i64 n] w fun e w' => ∃ t : ByteArray, t.size ≤ N ∧ e = .returned (.string t) ∧ w' = w := by
  go_enter Try.func30, Try.ntmps30
  go_wp2
  go_loop [0, 1, 5] (fun s' n' o' => ∃ (s1 o1 : ByteArray) (n1 : Nat), s' = .string s1 ∧ n' = .int .i64 n1 ∧ o' = .string o1 ∧ n1 ≤ 1000000 ∧ o1.size ≤ N ∧ s1.size ≤ 2 * N ∧ (0 < n1 → o1.size + n1 * s1.size ≤ N)) (fun _ n' _ => (intOf n').toNat)
  case atStart => exact ⟨s, _, n, rfl, rfl, rfl, hn', Nat.zero_le _, by omega, fun _ => by show 0 + n * s.size ≤ N; omega⟩
  case round =>
    obtain ⟨s1, o1, n1, rfl, rfl, rfl, h1, h2, h3, h4⟩ := hrel
    by_cases hz : 0 < n1
    · obtain ⟨m1, m2, m3⟩ := many_step o1.size s1.size n1 N hz (h4 hz)
      have M1 : Hid _ := m1
      have M2 : Hid _ := m2
      clear m1 m2 h4 hn
      by_cases hodd : n1 % 2 = 1
      · have hb : ((n1 : Int) % 2 == 1) = true := by simp; omega
        have m := M1.out hodd
        go_wp2
        go_round
        case rel => exact ⟨_, _, n1 / 2, rfl, by go_num, rfl, by omega, by rw [ByteArray.size_append]; omega, by rw [ByteArray.size_append]; omega, fun _ => by rw [ByteArray.size_append, ByteArray.size_append]; exact m⟩
        case measure => simp [intOf]; omega
      · have hb : ((n1 : Int) % 2 == 1) = false := by simp; omega
        have m := M2.out (by omega)
        go_wp2
        go_round
        case rel => exact ⟨_, _, n1 / 2, rfl, by go_num, rfl, by omega, h2, by rw [ByteArray.size_append]; omega, fun _ => by rw [ByteArray.size_append]; exact m⟩
        case measure => simp [intOf]; omega
    · go_wp2
      go_ret
      exact ⟨o1, h2, rfl, rfl⟩
end Go.Proofs.Ytfhdcapkoahflaa
