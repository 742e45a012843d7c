import Derived.Test.YtkhanndmbpemfaaGreatDoorChecked
import Derived.WalkKit
import Derived.Below
import Derived.Laws.BitsAllLaws
import Derived.Deep.QuietTactic
import Derived.BigQuiet
import Derived.Outline
import Derived.Test.YtkhanndmbpemfaaGreatDoorMix1
import Derived.OwnWalk
import Derived.Test.YtkhanndmbpemfaaGreatDoorMix2
import Derived.WalkLawsBesides
import Derived.Deep.RegionWith
import Derived.Deep.DrawnRows
import Derived.Deep.RegionHeld3
import Derived.Deep.AppendLies
/- What spec's reader of codes returns: pick answers a number from 0 below n and moves its place on by one; l6Open lays a reader at place 0. -/
namespace Go.Proofs.YtkhanndmbpemfaaGreatDoor
open Go.RowKit

theorem i64_xor_nat (a b : Nat) (ha : a < 9223372036854775808) (hb : b < 9223372036854775808) : bits .xor .i64 (a : Int) (b : Int) = ((a ^^^ b : Nat) : Int) := by
  have hx : a ^^^ b < 2 ^ 63 := Nat.xor_lt_two_pow (by omega) (by omega)
  show IntKind.i64.wrap ((BitVec.ofInt 64 (a : Int) ^^^ BitVec.ofInt 64 (b : Int)).toNat : Int) = _
  rw [BitVec.toNat_xor, ofInt_u64 a (by omega), ofInt_u64 b (by omega)]
  simp [IntKind.wrap, IntKind.bits, IntKind.signed]
  omega

/-- As it was below B, but for one block. -/
structure Kp (B blk : Nat) (w w' : World) : Prop where
  os : w'.os = w.os
  tape : w'.tape = w.tape
  output : w'.output = w.output
  size : w.heap.size ≤ w'.heap.size
  block : ∀ k, k < B → k ≠ blk → w'.heap[k]? = w.heap[k]?

theorem Kp.refl (B blk : Nat) (w : World) : Kp B blk w w := ⟨rfl, rfl, rfl, Nat.le_refl _, fun _ _ _ => rfl⟩
theorem Kp.trans {B B' blk : Nat} {a b c : World} (h : Kp B blk a b) (k : Kp B' blk b c) (hB : B ≤ B') : Kp B blk a c :=
  ⟨k.os.trans h.os, k.tape.trans h.tape, k.output.trans h.output, Nat.le_trans h.size k.size, fun i hi hne => (k.block i (by omega) hne).trans (h.block i hi hne)⟩
theorem Kp.mono {B B' blk : Nat} {w w' : World} (h : Kp B blk w w') (hB : B' ≤ B) : Kp B' blk w w' := ⟨h.os, h.tape, h.output, h.size, fun k hk => h.block k (Nat.lt_of_lt_of_le hk hB)⟩
theorem Kp.of_below {B blk : Nat} {w w' : World} (h : Below B w w') : Kp B blk w w' := ⟨h.os, h.tape, h.output, h.size, fun k hk _ => h.block k hk⟩
theorem Kp.below {B blk : Nat} {w w' : World} (h : Kp B blk w w') (hb : B ≤ blk) : Below B w w' := ⟨h.os, h.tape, h.output, h.size, fun k hk => h.block k hk (by omega)⟩
theorem Kp.cell {B blk : Nat} {w w' : World} (h : Kp B blk w w') {p : Addr} (hp : p.block < B) (hne : p.block ≠ blk) : w'.cell? p = w.cell? p := World.cell?_of_block (w := w) (h.block p.block hp hne)
theorem Kp.frozen {B blk : Nat} {w w' : World} (h : Kp B blk w w') {p : Addr} (hp : p.block < B) (hne : p.block ≠ blk) : w'.frozen? p = w.frozen? p := World.frozen?_of_block (w := w) (h.block p.block hp hne)
theorem Kp.setCell {B blk : Nat} (w : World) (o : Nat) (v : Value) (q : Nat) : Kp B blk w ((w.setCell ⟨blk, o, none⟩ v).drewN q) :=
  ⟨rfl, rfl, rfl, by simp [World.setCell], fun k _ hne => Below.heap_setCell _ _ _ _ hne⟩

/-- The row of bytes under a reader. -/
def Row (B : Nat) (w : World) (blk : Nat) : Prop := ∃ a len cap, w.cell? ⟨blk, 0, none⟩ = some (.slice a len cap) ∧ len ≤ 2000 ∧ (0 < len → ∃ b off, a = some ⟨b, off, none⟩ ∧ b ≠ blk ∧ b < B ∧ ∀ i, i < len → ∃ z : Int, 0 ≤ z ∧ z < 256 ∧ w.cell? ⟨b, off + i, none⟩ = some (.int .u8 z))

/-- A reader at block blk, at place p, over a row of bytes below B. -/
structure Rd (B : Nat) (w : World) (blk : Nat) (p : Nat) : Prop where
  at1 : w.cell? ⟨blk, 1, none⟩ = some (.int .i64 p)
  fr : w.frozen? ⟨blk, 1, none⟩ = false
  row : Row B w blk

theorem cell_lt {w : World} {a : Addr} {v : Value} (h : w.cell? a = some v) : a.block < w.heap.size := by
  rcases Nat.lt_or_ge a.block w.heap.size with h1 | h1
  · exact h1
  · rw [World.cell?, Array.getElem?_eq_none h1] at h; cases h

theorem Rd.lt {B : Nat} {w : World} {blk p : Nat} (h : Rd B w blk p) : blk < w.heap.size := cell_lt h.at1

/-- A reader stays where its own block and those below B do. -/
theorem Rd.keep {B : Nat} {w w' : World} {blk p : Nat} (h : Rd B w blk p) (hk : ∀ k, k < B → k ≠ blk → w'.heap[k]? = w.heap[k]?) (hb : w'.heap[blk]? = w.heap[blk]?) : Rd B w' blk p := by
  have e0 : ∀ o, w'.cell? ⟨blk, o, none⟩ = w.cell? ⟨blk, o, none⟩ := fun o => World.cell?_of_block hb
  refine ⟨by rw [e0]; exact h.at1, (World.frozen?_of_block hb).trans h.fr, ?_⟩
  obtain ⟨a, len, cap, h0, hl, hr⟩ := h.row
  refine ⟨a, len, cap, by rw [e0]; exact h0, hl, fun hp => ?_⟩
  obtain ⟨b, off, ha, hne, hbs, hc⟩ := hr hp
  refine ⟨b, off, ha, hne, hbs, fun i hi => ?_⟩
  obtain ⟨z, z0, z1, hz⟩ := hc i hi
  exact ⟨z, z0, z1, (World.cell?_of_block (hk b hbs hne)).trans hz⟩

/-- A reader stays over whatever leaves old blocks as they were. -/
theorem Rd.later {B : Nat} {w w' : World} {blk p : Nat} (h : Rd B w blk p) (hB : B ≤ w.heap.size) (hb : Below w.heap.size w w') : Rd B w' blk p :=
  h.keep (fun k hk _ => hb.block k (by omega)) (hb.block blk h.lt)

/-- What pick leaves behind. -/
theorem Rd.next {B : Nat} {w : World} {blk p : Nat} (h : Rd B w blk p) (q : Nat) : Rd B ((w.setCell ⟨blk, 1, none⟩ (.int .i64 ((p : Int) + 1))).drewN q) blk (p + 1) := by
  have e0 : ∀ (b o : Nat), (b ≠ blk ∨ o ≠ 1) → ((w.setCell ⟨blk, 1, none⟩ (.int .i64 ((p : Int) + 1))).drewN q).cell? ⟨b, o, none⟩ = w.cell? ⟨b, o, none⟩ := by
    intro b o hne
    rw [World.cell?_drewN]
    refine World.cell?_setCell_other _ _ _ _ (fun e => ?_)
    injection e with e1 e2 e3
    rcases hne with h | h
    · exact h e1.symm
    · exact h e2.symm
  refine ⟨?_, ?_, ?_⟩
  · rw [World.cell?_drewN, World.cell?_setCell_same _ _ _ h.at1]
    rfl
  · rw [World.frozen?_drewN]
    simpa using h.fr
  · obtain ⟨a, len, cap, h0, hl, hr⟩ := h.row
    refine ⟨a, len, cap, by rw [e0 _ _ (Or.inr (by omega))]; exact h0, hl, fun hp => ?_⟩
    obtain ⟨b, off, ha, hne, hbs, hc⟩ := hr hp
    refine ⟨b, off, ha, hne, hbs, fun i hi => ?_⟩
    obtain ⟨z, z0, z1, hz⟩ := hc i hi
    exact ⟨z, z0, z1, by rw [e0 _ _ (Or.inl hne)]; exact hz⟩

set_option maxHeartbeats 1000000 in
theorem pick_none (w : World) (blk cap : Nat) (a : Option Addr) (p n : Int) (hp : 0 ≤ p) (hp' : p ≤ 1000000000) (hn : 1 ≤ n)
    (h0 : w.cell? ⟨blk, 0, none⟩ = some (.slice a 0 cap)) (h1 : w.cell? ⟨blk, 1, none⟩ = some (.int .i64 p)) (hf : w.frozen? ⟨blk, 1, none⟩ = false) :
    Calls Tryz.prog 47 #[.pointer (some ⟨blk, 0, none⟩), .int .i64 n] w fun e w' => e = .returned (.int .i64 0) ∧ w' = w.setCell ⟨blk, 1, none⟩ (.int .i64 (p + 1)) := by
  go_enter Tryz.func47, Tryz.ntmps47
  go_wp2
  go_ret
  exact ⟨rfl, rfl⟩

set_option maxHeartbeats 1000000 in
theorem pick_near (w : World) (blk cap len : Nat) (b off : Nat) (k : Nat) (n z : Int) (hp' : k < len) (hl : len ≤ 2000) (hn : 1 ≤ n) (hn' : n ≤ 1000000000)
    (h0 : w.cell? ⟨blk, 0, none⟩ = some (.slice (some ⟨b, off, none⟩) len cap)) (h1 : w.cell? ⟨blk, 1, none⟩ = some (.int .i64 k)) (hf : w.frozen? ⟨blk, 1, none⟩ = false)
    (hb : b ≠ blk) (hz0 : 0 ≤ z) (hz1 : z < 256) (hc : w.cell? ⟨b, off + k, none⟩ = some (.int .u8 z)) :
    Calls Tryz.prog 47 #[.pointer (some ⟨blk, 0, none⟩), .int .i64 n] w fun e w' => e = .returned (.int .i64 (z % n)) ∧ w' = w.setCell ⟨blk, 1, none⟩ (.int .i64 (k + 1)) := by
  have hne : ((len : Int) == 0) = false := by simp; omega
  have hn1 : decide (n < 1) = false := by simp; omega
  go_enter Tryz.func47, Tryz.ntmps47
  go_wp2
  go_ret
  exact ⟨rfl, rfl⟩

set_option maxHeartbeats 2000000 in
theorem pick_far (w : World) (blk cap len : Nat) (b off : Nat) (k : Nat) (n z y : Int) (hk : len ≤ k) (hk' : k ≤ 1000000000) (hl0 : 0 < len) (hl : len ≤ 2000) (hn : 1 ≤ n) (hn' : n ≤ 1000000000)
    (h0 : w.cell? ⟨blk, 0, none⟩ = some (.slice (some ⟨b, off, none⟩) len cap)) (h1 : w.cell? ⟨blk, 1, none⟩ = some (.int .i64 k)) (hf : w.frozen? ⟨blk, 1, none⟩ = false)
    (hb : b ≠ blk) (hz0 : 0 ≤ z) (hz1 : z < 256) (hc : w.cell? ⟨b, off + k % len, none⟩ = some (.int .u8 z)) (hy0 : 0 ≤ y) (hy1 : y < 256) (hd : w.cell? ⟨b, off + (k * 7 + 3) % len, none⟩ = some (.int .u8 y)) :
    Calls Tryz.prog 47 #[.pointer (some ⟨blk, 0, none⟩), .int .i64 n] w fun e w' => ∃ (v : Int) (q : Nat), 0 ≤ v ∧ v < n ∧ e = .returned (.int .i64 v) ∧ w' = (w.setCell ⟨blk, 1, none⟩ (.int .i64 (k + 1))).drewN q := by
  have hne : ((len : Int) == 0) = false := by simp; omega
  have hn1 : decide (n < 1) = false := by simp; omega
  have hlt : (decide ((k : Int) < len)) = false := by simp; omega
  have r0 : (0 : Int) ≤ (k : Int) % (len : Int) := Int.emod_nonneg _ (by omega)
  have r1 : (k : Int) % (len : Int) < (len : Int) := Int.emod_lt_of_pos _ (by omega)
  have r2 : (0 : Int) ≤ ((k : Int) * 7 + 3) % (len : Int) := Int.emod_nonneg _ (by omega)
  have r3 : ((k : Int) * 7 + 3) % (len : Int) < (len : Int) := Int.emod_lt_of_pos _ (by omega)
  have r4 : (0 : Int) ≤ (k : Int) / (len : Int) := Int.ediv_nonneg (by omega) (by omega)
  have r5 : (k : Int) / (len : Int) ≤ 1000000000 := Int.le_trans (Int.ediv_le_self _ (by omega)) (by omega)
  obtain ⟨m, hm0, hm⟩ : ∃ m : Nat, m < 9223372036854775807 ∧ bits .xor .i64 (z * 131 + y * 1117 + (k : Int) * 29 + (k : Int) / (len : Int) * 53) ((z * 131 + y * 1117 + (k : Int) * 29 + (k : Int) / (len : Int) * 53) / 64) = (m : Int) := by
    obtain ⟨X, hX⟩ := Int.eq_ofNat_of_zero_le (show (0 : Int) ≤ z * 131 + y * 1117 + (k : Int) * 29 + (k : Int) / (len : Int) * 53 by omega)
    have hb : X < 2 ^ 62 := by omega
    rw [hX]
    refine ⟨X ^^^ X / 64, ?_, ?_⟩
    · have := Nat.xor_lt_two_pow hb (show X / 64 < 2 ^ 62 by omega); omega
    · have := i64_xor_nat X (X / 64) (by omega) (by omega)
      rw [← this]; rfl
  go_enter Tryz.func47, Tryz.ntmps47
  go_wp2
  go_quiet (fail)
  go_wp2
  go_ret
  exact ⟨(m : Int) % n, _, Int.emod_nonneg _ (by omega), Int.emod_lt_of_pos _ (by omega), rfl, rfl⟩

/-- pick: a number from 0 below n; its place moves on by one. -/
theorem pick_any {B : Nat} (w : World) (blk p : Nat) (n : Int) (h : Rd B w blk p) (hp : p ≤ 1000000000) (hn : 1 ≤ n) (hn' : n ≤ 1000000000) :
    Calls Tryz.prog 47 #[.pointer (some ⟨blk, 0, none⟩), .int .i64 n] w fun e w' => ∃ v : Int, e = .returned (.int .i64 v) ∧ 0 ≤ v ∧ v < n ∧ Rd B w' blk (p + 1) ∧ Kp w.heap.size blk w w' := by
  obtain ⟨a, len, cap, h0, hl, hr⟩ := h.row
  rcases Nat.eq_zero_or_pos len with rfl | hpos
  · refine (pick_none w blk cap a p n (by omega) (by omega) hn h0 h.at1 h.fr).mono ?_
    rintro e w' ⟨rfl, rfl⟩
    exact ⟨0, rfl, by omega, by omega, h.next 0, Kp.setCell w 1 _ 0⟩
  · obtain ⟨b, off, rfl, hne, hbs, hc⟩ := hr hpos
    by_cases hk : p < len
    · obtain ⟨z, z0, z1, hz⟩ := hc p hk
      refine (pick_near w blk cap len b off p n z hk hl hn hn' h0 h.at1 h.fr hne z0 z1 hz).mono ?_
      rintro e w' ⟨rfl, rfl⟩
      exact ⟨z % n, rfl, Int.emod_nonneg _ (by omega), Int.emod_lt_of_pos _ (by omega), h.next 0, Kp.setCell w 1 _ 0⟩
    · obtain ⟨z, z0, z1, hz⟩ := hc (p % len) (Nat.mod_lt _ hpos)
      obtain ⟨y, y0, y1, hy⟩ := hc ((p * 7 + 3) % len) (Nat.mod_lt _ hpos)
      refine (pick_far w blk cap len b off p n z y (by omega) hp hpos hl hn hn' h0 h.at1 h.fr hne z0 z1 hz y0 y1 hy).mono ?_
      rintro e w' ⟨v, q, v0, v1, rfl, rfl⟩
      exact ⟨v, rfl, v0, v1, h.next q, Kp.setCell w 1 _ q⟩
end Go.Proofs.YtkhanndmbpemfaaGreatDoor

/- What spec's l6Open returns: a reader at place 0. -/
namespace Go.Proofs.YtkhanndmbpemfaaGreatDoor
open Go.RowKit

/-- A slice of bytes that can be read. -/
def Bytes (w : World) (a : Option Addr) (len cap : Nat) : Prop :=
  len ≤ cap ∧ cap ≤ maxLen ∧ (0 < len → ∃ b off, a = some ⟨b, off, none⟩ ∧ b < w.heap.size ∧ ∀ i, i < len → ∃ z : Int, 0 ≤ z ∧ z < 256 ∧ w.cell? ⟨b, off + i, none⟩ = some (.int .u8 z))

theorem Bytes.later {w w' : World} {a : Option Addr} {len cap : Nat} (h : Bytes w a len cap) (hb : Below w.heap.size w w') : Bytes w' a len cap := by
  refine ⟨h.1, h.2.1, fun hp => ?_⟩
  obtain ⟨b, off, ha, hbs, hc⟩ := h.2.2 hp
  refine ⟨b, off, ha, Nat.lt_of_lt_of_le hbs hb.size, fun i hi => ?_⟩
  obtain ⟨z, z0, z1, hz⟩ := hc i hi
  exact ⟨z, z0, z1, by rw [hb.cell hbs]; exact hz⟩

theorem Rd.new {w : World} {a : Option Addr} {len cap : Nat} (t : TypeId) (h : Bytes w a len cap) (n : Nat) (hn : n ≤ len) (hn' : n ≤ 2000) :
    Rd w.heap.size (w.alloc (.cells #[.slice a n cap, .int .i64 0] t)) w.heap.size 0 := by
  refine ⟨?_, ?_, ?_⟩
  · rw [World.cell?_alloc_new]; rfl
  · exact World.frozen?_alloc_new _ _ _ _
  · refine ⟨a, n, cap, by rw [World.cell?_alloc_new]; rfl, hn', fun hp => ?_⟩
    obtain ⟨b, off, ha, hbs, hc⟩ := h.2.2 (by omega)
    refine ⟨b, off, ha, by omega, hbs, fun i hi => ?_⟩
    obtain ⟨z, z0, z1, hz⟩ := hc i (by omega)
    exact ⟨z, z0, z1, by rw [World.cell?_alloc_lt _ _ _ hbs]; exact hz⟩

set_option maxHeartbeats 1000000 in
theorem open_any (w : World) (a : Option Addr) (len cap : Nat) (h : Bytes w a len cap) :
    Calls Tryz.prog 44 #[.slice a len cap] w fun e w' => e = .returned (.pointer (some ⟨w.heap.size, 0, none⟩)) ∧ Rd w.heap.size w' w.heap.size 0 ∧ Below w.heap.size w w' := by
  have h1 := h.1
  have h2 := h.2.1
  unfold maxLen at h2
  by_cases hl : len ≤ 2000
  · go_enter Tryz.func44, Tryz.ntmps44
    go_wp2
    go_ret
    exact ⟨rfl, Rd.new _ h len (Nat.le_refl _) hl, (Below.refl _ _).alloc (Nat.le_refl _) _⟩
  · have hl2 : (2000 : Int) ≤ (cap : Int) := by omega
    have hl3 : (2000 : Int) < (len : Int) := by omega
    go_enter Tryz.func44, Tryz.ntmps44
    go_wp2
    go_ret
    exact ⟨rfl, Rd.new _ h 2000 (by omega) (by omega), (Below.refl _ _).alloc (Nat.le_refl _) _⟩

/-- A reader over bytes, behind the box of the answer. -/
theorem open_behind (w : World) (a : Option Addr) (len cap : Nat) (h : Bytes w a len cap) (o : Obj) :
    Calls Tryz.prog 44 #[.slice a len cap] (w.alloc o) fun e w' => e = .returned (.pointer (some ⟨w.heap.size + 1, 0, none⟩)) ∧ Rd (w.heap.size + 1) w' (w.heap.size + 1) 0 ∧ w'.heap[w.heap.size]? = some o ∧ Below w.heap.size w w' ∧ w.heap.size + 1 < w'.heap.size := by
  have hz : (w.alloc o).heap.size = w.heap.size + 1 := by simp
  have h0 := heap_alloc_new w o
  have hb := below1 w o
  have h1 := h.later hb
  generalize w.alloc o = W0 at *
  refine (open_any W0 a len cap h1).mono ?_
  rintro e w1 ⟨rfl, hr1, b1⟩
  have := hr1.lt
  rw [hz] at hr1 this
  exact ⟨by rw [hz], hr1, (b1.block _ (by omega)).trans h0, hb.trans (b1.mono hb.size), this⟩
end Go.Proofs.YtkhanndmbpemfaaGreatDoor

/- The state in which spec's drawing functions build a package: a reader, a box for the package, the box of the answer; what a pick, an append and a store leave of it. -/
namespace Go.Proofs.YtkhanndmbpemfaaGreatDoor
open Go.RowKit

structure St (B : Nat) (W : World) (blk R Pb : Nat) (w : World) (nm vr : Int) (fv dv : Value) (fs ds : List (Int × Int)) (p : Nat) : Prop where
  rd : Rd B w blk p
  lB : B ≤ W.heap.size
  lt : blk < W.heap.size
  kp : Kp W.heap.size blk W w
  lR : W.heap.size ≤ R
  lP : W.heap.size ≤ Pb
  ne : R ≠ Pb
  hR : w.heap[R]? = some (.cells #[.int .i64 0, .int .i64 0, .slice none 0 0, .slice none 0 0] 94 (0, 0))
  hP : w.heap[Pb]? = some (.cells #[.int .i64 nm, .int .i64 vr, fv, dv] 94 (0, 0))
  hf : w.ownsRow W.heap.size 120 2 fv fs.length (flat fs)
  hd : w.ownsRow W.heap.size 117 2 dv ds.length (flat ds)

variable {B : Nat} {W w w' : World} {blk R Pb : Nat} {nm vr : Int} {fv dv : Value} {fs ds : List (Int × Int)} {p p' : Nat}

/-- Where all blocks but the reader's stay, and the reader is one still. -/
theorem St.keep (h : St B W blk R Pb w nm vr fv dv fs ds p) (hk : Kp w.heap.size blk w w') (hr : Rd B w' blk p') : St B W blk R Pb w' nm vr fv dv fs ds p' := by
  have hlt := h.lt
  have lR := h.lR
  have lP := h.lP
  exact ⟨hr, h.lB, h.lt, h.kp.trans hk h.kp.size, h.lR, h.lP, h.ne,
    by rw [hk.block R (heap_lt h.hR) (by omega)]; exact h.hR, by rw [hk.block Pb (heap_lt h.hP) (by omega)]; exact h.hP,
    own_keep h.hf (fun g _ _ hB hg => hk.block g (heap_lt hg) (by omega)), own_keep h.hd (fun g _ _ hB hg => hk.block g (heap_lt hg) (by omega))⟩

theorem St.drew (h : St B W blk R Pb w nm vr fv dv fs ds p) : St B W blk R Pb w.drew nm vr fv dv fs ds p :=
  h.keep ⟨rfl, rfl, rfl, Nat.le_refl _, fun _ _ _ => rfl⟩ (h.rd.later (Nat.le_trans h.lB h.kp.size) ((Below.refl _ _).drew))
theorem St.drewN (h : St B W blk R Pb w nm vr fv dv fs ds p) (q : Nat) : St B W blk R Pb (w.drewN q) nm vr fv dv fs ds p :=
  h.keep ⟨rfl, rfl, rfl, Nat.le_refl _, fun _ _ _ => rfl⟩ (h.rd.later (Nat.le_trans h.lB h.kp.size) (below_drewN (Below.refl _ _) q))
theorem St.alloc (h : St B W blk R Pb w nm vr fv dv fs ds p) (o : Obj) : St B W blk R Pb (w.alloc o) nm vr fv dv fs ds p :=
  h.keep (Kp.of_below ((Below.refl _ _).alloc (Nat.le_refl _) o)) (h.rd.later (Nat.le_trans h.lB h.kp.size) ((Below.refl _ _).alloc (Nat.le_refl _) o))

/-- What the walk reads of a state. -/
theorem St.cells (h : St B W blk R Pb w nm vr fv dv fs ds p) : (w.cell? ⟨Pb, 0, none⟩ = some (.int .i64 nm) ∧ w.cell? ⟨Pb, 1, none⟩ = some (.int .i64 vr) ∧ w.cell? ⟨Pb, 2, none⟩ = some fv ∧ w.cell? ⟨Pb, 3, none⟩ = some dv) ∧ (w.frozen? ⟨Pb, 0, none⟩ = false ∧ w.frozen? ⟨Pb, 1, none⟩ = false ∧ w.frozen? ⟨Pb, 2, none⟩ = false ∧ w.frozen? ⟨Pb, 3, none⟩ = false) :=
  ⟨⟨cell_of h.hP 0, cell_of h.hP 1, cell_of h.hP 2, cell_of h.hP 3⟩, ⟨frozen_of h.hP 0, frozen_of h.hP 1, frozen_of h.hP 2, frozen_of h.hP 3⟩⟩
theorem St.cellsR (h : St B W blk R Pb w nm vr fv dv fs ds p) : (w.cell? ⟨R, 0, none⟩ = some (.int .i64 0) ∧ w.cell? ⟨R, 1, none⟩ = some (.int .i64 0) ∧ w.cell? ⟨R, 2, none⟩ = some (.slice none 0 0) ∧ w.cell? ⟨R, 3, none⟩ = some (.slice none 0 0)) ∧ (w.frozen? ⟨R, 0, none⟩ = false ∧ w.frozen? ⟨R, 1, none⟩ = false ∧ w.frozen? ⟨R, 2, none⟩ = false ∧ w.frozen? ⟨R, 3, none⟩ = false) :=
  ⟨⟨cell_of h.hR 0, cell_of h.hR 1, cell_of h.hR 2, cell_of h.hR 3⟩, ⟨frozen_of h.hR 0, frozen_of h.hR 1, frozen_of h.hR 2, frozen_of h.hR 3⟩⟩

/-- The answer is laid into its box. -/
theorem St.fin (h : St B W blk R Pb w nm vr fv dv fs ds p) {w' : World} (hw : w' = (((w.setCell ⟨R, 0, none⟩ (.int .i64 nm)).setCell ⟨R, 1, none⟩ (.int .i64 vr)).setCell ⟨R, 2, none⟩ fv).setCell ⟨R, 3, none⟩ dv) :
    (w'.cell? ⟨R, 0, none⟩ = some (.int .i64 nm) ∧ w'.cell? ⟨R, 1, none⟩ = some (.int .i64 vr) ∧ w'.cell? ⟨R, 2, none⟩ = some fv ∧ w'.cell? ⟨R, 3, none⟩ = some dv) ∧ w'.ownsRow W.heap.size 120 2 fv fs.length (flat fs) ∧ w'.ownsRow W.heap.size 117 2 dv ds.length (flat ds) ∧ Rd B w' blk p ∧ Kp W.heap.size blk W w' := by
  have hlt := h.lt
  have lR := h.lR
  have lB := h.lB
  have far : ∀ k, k ≠ R → w'.heap[k]? = w.heap[k]? := fun k hk => by
    rw [hw, Below.heap_setCell _ _ _ _ hk, Below.heap_setCell _ _ _ _ hk, Below.heap_setCell _ _ _ _ hk, Below.heap_setCell _ _ _ _ hk]
  have hR : w'.heap[R]? = some (.cells #[.int .i64 nm, .int .i64 vr, fv, dv] 94 (0, 0)) := by
    rw [hw, heap_set (heap_set (heap_set (heap_set h.hR)))]
    rfl
  refine ⟨⟨cell_of hR 0, cell_of hR 1, cell_of hR 2, cell_of hR 3⟩, ?_, ?_, ?_, ?_⟩
  · refine own_keep h.hf (fun k _ _ _ hk => far k (fun e => ?_))
    subst e
    rw [h.hR] at hk
    injection hk with hk
    injection hk with _ hk _
    revert hk
    decide
  · refine own_keep h.hd (fun k _ _ _ hk => far k (fun e => ?_))
    subst e
    rw [h.hR] at hk
    injection hk with hk
    injection hk with _ hk _
    revert hk
    decide
  · exact h.rd.keep (fun k hk _ => far k (by omega)) (far blk (by omega))
  · exact ⟨by rw [hw]; exact h.kp.os, by rw [hw]; exact h.kp.tape, by rw [hw]; exact h.kp.output, by rw [hw]; simp only [World.setCell, Array.size_modify]; exact h.kp.size, fun k hk hne => by rw [far k (by omega)]; exact h.kp.block k hk hne⟩

theorem St.row2 (h : St B W blk R Pb w nm vr fv dv fs ds p) : fv.ownBlock ≠ some Pb := by
  intro hk
  rcases h.hf.2 with ⟨rfl, _⟩ | ⟨g', cap', cur, rfl, hb, hgg, _⟩
  · cases hk
  · simp only [Value.ownBlock, Option.some.injEq] at hk
    subst hk
    rw [h.hP] at hgg
    injection hgg with hgg
    injection hgg with _ hgg _
    revert hgg
    decide
theorem St.row3 (h : St B W blk R Pb w nm vr fv dv fs ds p) : dv.ownBlock ≠ some Pb := by
  intro hk
  rcases h.hd.2 with ⟨rfl, _⟩ | ⟨g', cap', cur, rfl, hb, hgg, _⟩
  · cases hk
  · simp only [Value.ownBlock, Option.some.injEq] at hk
    subst hk
    rw [h.hP] at hgg
    injection hgg with hgg
    injection hgg with _ hgg _
    revert hgg
    decide

/-- An append to the files, and the store of the new row. -/
theorem St.app2 {w1 w2 : World} {g cap : Nat} {a b : Int} (h : St B W blk R Pb w1 nm vr fv dv fs ds p) (hg : w1.grownBy w2 fv.ownBlock)
    (ho : w2.ownsRow W.heap.size 120 2 (.slice (some ⟨g, 0, none⟩) (fs.length + 1) cap) (fs.length + 1) (flat fs ++ [.int .i64 a, .int .i64 b])) :
    St B W blk R Pb (w2.setCell ⟨Pb, 2, none⟩ (.slice (some ⟨g, 0, none⟩) (fs.length + 1) cap)) nm vr (.slice (some ⟨g, 0, none⟩) (fs.length + 1) cap) dv (fs ++ [(a, b)]) ds p := by
  have hlt := h.lt
  have lR := h.lR
  have lP := h.lP
  have row : ∀ k, fv.ownBlock = some k → W.heap.size ≤ k ∧ ∃ cur, w1.heap[k]? = some (.cells cur 120 (0, 0)) := by
    intro k hk
    rcases h.hf.2 with ⟨rfl, _⟩ | ⟨g', cap', cur, rfl, hb, hgg, _⟩
    · cases hk
    · simp only [Value.ownBlock, Option.some.injEq] at hk
      subst hk
      exact ⟨hb, cur, hgg⟩
  have kept : ∀ (k : Nat) (c : Array Value) (t : TypeId), w1.heap[k]? = some (Obj.cells c t (0, 0)) → t ≠ 120 → w2.heap[k]? = w1.heap[k]? := fun k c t hk ht => hg.block k (heap_lt hk) (fun e => by
    obtain ⟨_, cur, hc⟩ := row k e.symm
    rw [hk] at hc
    injection hc with hc
    injection hc with _ hc _
    exact ht hc)
  have old : ∀ k, k < W.heap.size → w2.heap[k]? = w1.heap[k]? := fun k hk => hg.block k (Nat.lt_of_lt_of_le hk h.kp.size) (fun e => by
    obtain ⟨h1, _⟩ := row k e.symm
    omega)
  have hP2 := kept Pb _ _ h.hP (by decide)
  rw [h.hP] at hP2
  have gP : Pb ≠ g := by
    rcases ho.2 with ⟨e, _⟩ | ⟨g', cap', cur, e, _, hgg, _⟩
    · cases e
    · injection e with e _ _
      injection e with e
      injection e with e _ _
      subst e
      intro e
      subst e
      rw [hP2] at hgg
      injection hgg with hgg
      injection hgg with _ hgg _
      revert hgg
      decide
  have far : ∀ k, k ≠ Pb → (w2.setCell ⟨Pb, 2, none⟩ (.slice (some ⟨g, 0, none⟩) (fs.length + 1) cap)).heap[k]? = w2.heap[k]? := fun k hk => Below.heap_setCell _ _ _ _ hk
  refine ⟨?_, h.lB, h.lt, ?_, h.lR, h.lP, h.ne, ?_, ?_, ?_, ?_⟩
  · have lB := h.lB
    exact h.rd.keep (fun k hk _ => by rw [far k (by omega), old k (by omega)]) (by rw [far blk (by omega), old blk h.lt])
  · exact ⟨by show w2.os = _; rw [hg.os]; exact h.kp.os, by show w2.tape = _; rw [hg.tape]; exact h.kp.tape, by show w2.output = _; rw [hg.output]; exact h.kp.output, by simp only [World.setCell, Array.size_modify]; exact Nat.le_trans h.kp.size hg.size, fun k hk hne => by rw [far k (by omega), old k hk]; exact h.kp.block k hk hne⟩
  · rw [far R h.ne, kept R _ _ h.hR (by decide)]; exact h.hR
  · rw [heap_set hP2]; rfl
  · rw [flat_snoc, List.length_append]
    exact own_keep ho (fun k _ e _ _ => far k (by
      simp only [Value.ownBlock, Option.some.injEq] at e
      omega))
  · refine own_keep (own_keep h.hd (fun k _ _ _ hk => kept k _ _ hk (by decide))) (fun k _ _ _ hk => far k (fun e => ?_))
    subst e
    rw [hP2] at hk
    injection hk with hk
    injection hk with _ hk _
    revert hk
    decide
/-- An append to the needs, and the store of the new row. -/
theorem St.app3 {w1 w2 : World} {g cap : Nat} {a b : Int} (h : St B W blk R Pb w1 nm vr fv dv fs ds p) (hg : w1.grownBy w2 dv.ownBlock)
    (ho : w2.ownsRow W.heap.size 117 2 (.slice (some ⟨g, 0, none⟩) (ds.length + 1) cap) (ds.length + 1) (flat ds ++ [.int .i64 a, .int .i64 b])) :
    St B W blk R Pb (w2.setCell ⟨Pb, 3, none⟩ (.slice (some ⟨g, 0, none⟩) (ds.length + 1) cap)) nm vr fv (.slice (some ⟨g, 0, none⟩) (ds.length + 1) cap) fs (ds ++ [(a, b)]) p := by
  have hlt := h.lt
  have lR := h.lR
  have lP := h.lP
  have row : ∀ k, dv.ownBlock = some k → W.heap.size ≤ k ∧ ∃ cur, w1.heap[k]? = some (.cells cur 117 (0, 0)) := by
    intro k hk
    rcases h.hd.2 with ⟨rfl, _⟩ | ⟨g', cap', cur, rfl, hb, hgg, _⟩
    · cases hk
    · simp only [Value.ownBlock, Option.some.injEq] at hk
      subst hk
      exact ⟨hb, cur, hgg⟩
  have kept : ∀ (k : Nat) (c : Array Value) (t : TypeId), w1.heap[k]? = some (Obj.cells c t (0, 0)) → t ≠ 117 → w2.heap[k]? = w1.heap[k]? := fun k c t hk ht => hg.block k (heap_lt hk) (fun e => by
    obtain ⟨_, cur, hc⟩ := row k e.symm
    rw [hk] at hc
    injection hc with hc
    injection hc with _ hc _
    exact ht hc)
  have old : ∀ k, k < W.heap.size → w2.heap[k]? = w1.heap[k]? := fun k hk => hg.block k (Nat.lt_of_lt_of_le hk h.kp.size) (fun e => by
    obtain ⟨h1, _⟩ := row k e.symm
    omega)
  have hP2 := kept Pb _ _ h.hP (by decide)
  rw [h.hP] at hP2
  have gP : Pb ≠ g := by
    rcases ho.2 with ⟨e, _⟩ | ⟨g', cap', cur, e, _, hgg, _⟩
    · cases e
    · injection e with e _ _
      injection e with e
      injection e with e _ _
      subst e
      intro e
      subst e
      rw [hP2] at hgg
      injection hgg with hgg
      injection hgg with _ hgg _
      revert hgg
      decide
  have far : ∀ k, k ≠ Pb → (w2.setCell ⟨Pb, 3, none⟩ (.slice (some ⟨g, 0, none⟩) (ds.length + 1) cap)).heap[k]? = w2.heap[k]? := fun k hk => Below.heap_setCell _ _ _ _ hk
  refine ⟨?_, h.lB, h.lt, ?_, h.lR, h.lP, h.ne, ?_, ?_, ?_, ?_⟩
  · have lB := h.lB
    exact h.rd.keep (fun k hk _ => by rw [far k (by omega), old k (by omega)]) (by rw [far blk (by omega), old blk h.lt])
  · exact ⟨by show w2.os = _; rw [hg.os]; exact h.kp.os, by show w2.tape = _; rw [hg.tape]; exact h.kp.tape, by show w2.output = _; rw [hg.output]; exact h.kp.output, by simp only [World.setCell, Array.size_modify]; exact Nat.le_trans h.kp.size hg.size, fun k hk hne => by rw [far k (by omega), old k hk]; exact h.kp.block k hk hne⟩
  · rw [far R h.ne, kept R _ _ h.hR (by decide)]; exact h.hR
  · rw [heap_set hP2]; rfl
  · refine own_keep (own_keep h.hf (fun k _ _ _ hk => kept k _ _ hk (by decide))) (fun k _ _ _ hk => far k (fun e => ?_))
    subst e
    rw [hP2] at hk
    injection hk with hk
    injection hk with _ hk _
    revert hk
    decide
  · rw [flat_snoc, List.length_append]
    exact own_keep ho (fun k _ e _ _ => far k (by
      simp only [Value.ownBlock, Option.some.injEq] at e
      omega))
end Go.Proofs.YtkhanndmbpemfaaGreatDoor
