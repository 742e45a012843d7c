import Derived.Test.YtlnieobmhofkdaaGreatDoorRows
import Derived.ProofKit
import Derived.Handed
import Derived.LaidLaws
import Derived.Lay
import Derived.MakeChecks
import Derived.Shelf.Vars
import Derived.Stop.LaidErr
import Derived.Stop.Joined
import Derived.Below
import Derived.Test.YtlnieobmhofkdaaGreatDoorMix2
import Derived.Test.YtlnieobmhofkdaaGreatDoorChecked
import Derived.WalkKit
import Derived.Laws.BitsAllLaws
import Derived.Deep.QuietTactic
import Derived.BigQuiet
import Derived.Outline
/- A variable holds behind a call what it held. A row of a law that reads listed variables, from its walk. -/
namespace Go.Proofs.YtlnieobmhofkdaaGreatDoor
open Go.ChangeShapes Go.WideShapes Go.ChangeAt Go.RowKit

/-- A variable holds behind a call what it held. -/
theorem var_below {W W' : World} {n : String} {g : Nat} {cs : Array Value} (bel : Below W.heap.size W W') (hg : Tryz.prog.globalNamed n = some g) (h : W.var? Tryz.prog n = some cs) : W'.var? Tryz.prog n = some cs := by
  unfold World.var? at h ⊢
  simp only [hg, Option.bind_some] at h ⊢
  have hlt : g < W.heap.size := by
    rcases Nat.lt_or_ge g W.heap.size with h' | h'
    · exact h'
    · simp [Array.getElem?_eq_none h'] at h
  rw [bel.block g hlt]
  exact h

/-- A row of a law that lists variables, from its walk; the walk is told the world's shape. -/
theorem wrap {H : Type} {enc : TypeId × Value → H} {a : Assume} {C : Checked} {os : Os} {f : FuncId} {fn : Func} {s : ChangeSpec} {conds : List PathCond} {apart fresh handsOn again : Bool} {X : World → Array Value → Prop}
    (hX : ∀ (w w' : World) (args : Array Value), w.heap = w'.heap → X w args → X w' args)
    (own : ownKnob C.prog.godebug = none) (started : os.Started) (noInit : C.prog.inits.idxOf? f = none) (hfn : C.prog.funcs[f]? = some fn)
    (wit : ∃ (w : World) (tape : Tape) (i : Input), w.os = os ∧ (w.forCall tape i).Shaped C.prog ∧ i.vars = [] ∧ Input.okWide C.prog (w.forCall tape i) .any w.heap.size f i ∧
      ((s.pre enc C.prog fn conds apart (w.forCall tape i).memory i.args ∧ X (w.forCall tape i).memory i.args) ∧ sizedMet enc C.prog fn (OpenSpec.ofChange s) apart (w.forCall tape i).memory i.args) ∧ a.holds C.prog (lone (Frame.enter C.prog f i.args .normal) [] (w.forCall tape i)))
    (walk : ∀ (W : World) (base : Nat) (args : Array Value) (ds gs : List (DataW H)) (before : List MemPlace),
      (∀ (j : Nat) t v, fn.params[j]? = some t → args[j]? = some v → Value.okWide C.prog W .any base t v) →
      DataW.Whole enc C.prog fn.params.toList s.vars apart W args.toList ds gs before → W.ShapedOpen C.prog → X W args →
      Calls C.prog f args W fun e W' => ∃ v, e = .returned v ∧ s.post enc C.prog fn apart fresh handsOn again W args v W') :
    ReturnsInHanded a C os f .any (fun w args => (s.pre enc C.prog fn conds apart w args ∧ X w args) ∧ sizedMet enc C.prog fn (OpenSpec.ofChange s) apart w args) (s.post enc C.prog fn apart fresh handsOn again) := by
  refine returnsInHanded_of_calls own started noInit wit ?_
  rintro w tape i - hsh - ⟨_, _, _, fn', hfn', _, _, _, _, hval⟩ ⟨⟨⟨ds, gs, before, hw, _⟩, hx⟩, _⟩ -
  obtain rfl : fn' = fn := Option.some.inj (hfn'.symm.trans hfn)
  refine (walk (w.forCall tape i) w.heap.size i.args ds gs before hval (DataW.Whole.of_heap (w' := w.forCall tape i) (by rfl) hw) hsh (hX _ _ _ (by rfl) hx)).mono fun e W' ⟨v, he, hp⟩ => ?_
  rw [he]
  exact ChangeSpec.post_blind hp
end Go.Proofs.YtlnieobmhofkdaaGreatDoor

/- What the listed variables give a walk: the one error, and the library's two; that the library's own number is one. A row of a law that reads them, from its walk. -/
namespace Go.Proofs.YtlnieobmhofkdaaGreatDoor
open Go.ChangeShapes Go.WideShapes Go.ChangeAt Go.RowKit

def laidL : List (String × DataW Unit) := [("math/bits.deBruijn32tab", Rows.laid_math_bits_deBruijn32tab), ("math/bits.deBruijn64tab", Rows.laid_math_bits_deBruijn64tab), ("internal/strconv.uint64pow10", Rows.laid_internal_strconv_uint64pow10), ("unicode/utf8.acceptRanges", Rows.laid_unicode_utf8_acceptRanges), ("strconv.ErrRange", Rows.laid_strconv_ErrRange), ("strconv.ErrSyntax", Rows.laid_strconv_ErrSyntax), ("loop.example/purser/impl.errNoWord", Rows.laid_loop_example_purser_impl_errNoWord), ("unicode/utf8.first", Rows.laid_unicode_utf8_first)]

theorem star : "*" ++ "errors.errorString" = "*errors.errorString" := by decide
theorem rowErr (u : TypeId) (h : Tryz.prog.typeName? 3 u = some "*errors.errorString") : u = 251 :=
  typeName_ptr_named (nm := "errors.errorString") (by rw [star]; kernel_rfl) (by kernel_rfl) (by decide) u (by rw [star]; exact h)
theorem cellsE : Tryz.prog.cellsOf 253 = 1 := by kernel_rfl
theorem cellsS : Tryz.prog.cellsOf 9 = 1 := by kernel_rfl
theorem gNo : Tryz.prog.globalNamed "loop.example/purser/impl.errNoWord" = some 0 := by kernel_rfl
theorem gSy : Tryz.prog.globalNamed "strconv.ErrSyntax" = some 4 := by kernel_rfl
theorem gRa : Tryz.prog.globalNamed "strconv.ErrRange" = some 5 := by kernel_rfl
theorem tNo : (Tryz.prog.globals[0]?).map (·.type) = some 146 := by kernel_rfl
theorem tSy : (Tryz.prog.globals[4]?).map (·.type) = some 146 := by kernel_rfl
theorem tRa : (Tryz.prog.globals[5]?).map (·.type) = some 146 := by kernel_rfl

/-- What the list gives. -/
theorem gl_of_laid {W : World} (hsh : W.ShapedOpen Tryz.prog) (h : laidMetH Tryz.prog laidL W) : ∃ ev, Gl W ev ∧ W.var? Tryz.prog "loop.example/purser/impl.errNoWord" = some #[.iface 251 (.pointer (some ev))] := by
  rw [MakeChecks.laidMetH_plain _ _ _ (by kernel_rfl)] at h
  have h4 := h.tail.tail.tail.tail
  obtain ⟨ar, _, hr, _⟩ := laid_sentinel h4 gRa tRa Tryz.underlying146 rowErr Tryz.underlying251 Tryz.underlying253 rfl rfl Tryz.underlying9 cellsE cellsS
  obtain ⟨ay, _, hs, _⟩ := laid_sentinel h4.tail gSy tSy Tryz.underlying146 rowErr Tryz.underlying251 Tryz.underlying253 rfl rfl Tryz.underlying9 cellsE cellsS
  obtain ⟨an, _, hn, _⟩ := laid_sentinel h4.tail.tail gNo tNo Tryz.underlying146 rowErr Tryz.underlying251 Tryz.underlying253 rfl rfl Tryz.underlying9 cellsE cellsS
  obtain ⟨m, hm⟩ := cell_of_shapedOpen_int (g := 1) (t := 3) (k := .i64) hsh (of_decide_eq_true (by kernel_rfl)) (zero := #[.int .i64 0]) (by kernel_rfl) rfl (by kernel_rfl) (by kernel_rfl) Tryz.underlying3
  have e1 : W.cell? ⟨0, 0, none⟩ = some (.iface 251 (.pointer (some an))) := by simpa using World.var?_cell gNo hn 0
  have e2 : W.cell? ⟨4, 0, none⟩ = some (.iface 251 (.pointer (some ay))) := by simpa using World.var?_cell gSy hs 0
  have e3 : W.cell? ⟨5, 0, none⟩ = some (.iface 251 (.pointer (some ar))) := by simpa using World.var?_cell gRa hr 0
  exact ⟨an, ⟨e1, ⟨_, e2, .inr ⟨_, _, rfl⟩⟩, ⟨_, e3, .inr ⟨_, _, rfl⟩⟩, ⟨m, hm⟩⟩, hn⟩
end Go.Proofs.YtlnieobmhofkdaaGreatDoor

/- What spec's reader of codes returns: pick answers a number from 0 below n and moves its place on by one; l6Open lays a reader at place 0. -/
namespace Go.Proofs.YtlnieobmhofkdaaGreatDoor
open Go.RowKit

theorem i64_xor_nat (a b : Nat) (ha : a < 9223372036854775808) (hb : b < 9223372036854775808) : bits .xor .i64 (a : Int) (b : Int) = ((a ^^^ b : Nat) : Int) := by
  have hx : a ^^^ b < 2 ^ 63 := Nat.xor_lt_two_pow (by omega) (by omega)
  show IntKind.i64.wrap ((BitVec.ofInt 64 (a : Int) ^^^ BitVec.ofInt 64 (b : Int)).toNat : Int) = _
  rw [BitVec.toNat_xor, ofInt_u64 a (by omega), ofInt_u64 b (by omega)]
  simp [IntKind.wrap, IntKind.bits, IntKind.signed]
  omega

/-- As it was below B, but for one block. -/
structure Kp (B blk : Nat) (w w' : World) : Prop where
  os : w'.os = w.os
  tape : w'.tape = w.tape
  output : w'.output = w.output
  size : w.heap.size ≤ w'.heap.size
  block : ∀ k, k < B → k ≠ blk → w'.heap[k]? = w.heap[k]?

theorem Kp.refl (B blk : Nat) (w : World) : Kp B blk w w := ⟨rfl, rfl, rfl, Nat.le_refl _, fun _ _ _ => rfl⟩
theorem Kp.trans {B B' blk : Nat} {a b c : World} (h : Kp B blk a b) (k : Kp B' blk b c) (hB : B ≤ B') : Kp B blk a c :=
  ⟨k.os.trans h.os, k.tape.trans h.tape, k.output.trans h.output, Nat.le_trans h.size k.size, fun i hi hne => (k.block i (by omega) hne).trans (h.block i hi hne)⟩
theorem Kp.mono {B B' blk : Nat} {w w' : World} (h : Kp B blk w w') (hB : B' ≤ B) : Kp B' blk w w' := ⟨h.os, h.tape, h.output, h.size, fun k hk => h.block k (Nat.lt_of_lt_of_le hk hB)⟩
theorem Kp.of_below {B blk : Nat} {w w' : World} (h : Below B w w') : Kp B blk w w' := ⟨h.os, h.tape, h.output, h.size, fun k hk _ => h.block k hk⟩
theorem Kp.below {B blk : Nat} {w w' : World} (h : Kp B blk w w') (hb : B ≤ blk) : Below B w w' := ⟨h.os, h.tape, h.output, h.size, fun k hk => h.block k hk (by omega)⟩
theorem Kp.cell {B blk : Nat} {w w' : World} (h : Kp B blk w w') {p : Addr} (hp : p.block < B) (hne : p.block ≠ blk) : w'.cell? p = w.cell? p := World.cell?_of_block (w := w) (h.block p.block hp hne)
theorem Kp.frozen {B blk : Nat} {w w' : World} (h : Kp B blk w w') {p : Addr} (hp : p.block < B) (hne : p.block ≠ blk) : w'.frozen? p = w.frozen? p := World.frozen?_of_block (w := w) (h.block p.block hp hne)
theorem Kp.setCell {B blk : Nat} (w : World) (o : Nat) (v : Value) (q : Nat) : Kp B blk w ((w.setCell ⟨blk, o, none⟩ v).drewN q) :=
  ⟨rfl, rfl, rfl, by simp [World.setCell], fun k _ hne => Below.heap_setCell _ _ _ _ hne⟩

/-- The row of bytes under a reader. -/
def Row (B : Nat) (w : World) (blk : Nat) : Prop := ∃ a len cap, w.cell? ⟨blk, 0, none⟩ = some (.slice a len cap) ∧ len ≤ 2000 ∧ (0 < len → ∃ b off, a = some ⟨b, off, none⟩ ∧ b ≠ blk ∧ b < B ∧ ∀ i, i < len → ∃ z : Int, 0 ≤ z ∧ z < 256 ∧ w.cell? ⟨b, off + i, none⟩ = some (.int .u8 z))

/-- A reader at block blk, at place p, over a row of bytes below B. -/
structure Rd (B : Nat) (w : World) (blk : Nat) (p : Nat) : Prop where
  at1 : w.cell? ⟨blk, 1, none⟩ = some (.int .i64 p)
  fr : w.frozen? ⟨blk, 1, none⟩ = false
  row : Row B w blk

theorem cell_lt {w : World} {a : Addr} {v : Value} (h : w.cell? a = some v) : a.block < w.heap.size := by
  rcases Nat.lt_or_ge a.block w.heap.size with h1 | h1
  · exact h1
  · rw [World.cell?, Array.getElem?_eq_none h1] at h; cases h

theorem Rd.lt {B : Nat} {w : World} {blk p : Nat} (h : Rd B w blk p) : blk < w.heap.size := cell_lt h.at1

/-- A reader stays where its own block and those below B do. -/
theorem Rd.keep {B : Nat} {w w' : World} {blk p : Nat} (h : Rd B w blk p) (hk : ∀ k, k < B → k ≠ blk → w'.heap[k]? = w.heap[k]?) (hb : w'.heap[blk]? = w.heap[blk]?) : Rd B w' blk p := by
  have e0 : ∀ o, w'.cell? ⟨blk, o, none⟩ = w.cell? ⟨blk, o, none⟩ := fun o => World.cell?_of_block hb
  refine ⟨by rw [e0]; exact h.at1, (World.frozen?_of_block hb).trans h.fr, ?_⟩
  obtain ⟨a, len, cap, h0, hl, hr⟩ := h.row
  refine ⟨a, len, cap, by rw [e0]; exact h0, hl, fun hp => ?_⟩
  obtain ⟨b, off, ha, hne, hbs, hc⟩ := hr hp
  refine ⟨b, off, ha, hne, hbs, fun i hi => ?_⟩
  obtain ⟨z, z0, z1, hz⟩ := hc i hi
  exact ⟨z, z0, z1, (World.cell?_of_block (hk b hbs hne)).trans hz⟩

/-- A reader stays over whatever leaves old blocks as they were. -/
theorem Rd.later {B : Nat} {w w' : World} {blk p : Nat} (h : Rd B w blk p) (hB : B ≤ w.heap.size) (hb : Below w.heap.size w w') : Rd B w' blk p :=
  h.keep (fun k hk _ => hb.block k (by omega)) (hb.block blk h.lt)

/-- What pick leaves behind. -/
theorem Rd.next {B : Nat} {w : World} {blk p : Nat} (h : Rd B w blk p) (q : Nat) : Rd B ((w.setCell ⟨blk, 1, none⟩ (.int .i64 ((p : Int) + 1))).drewN q) blk (p + 1) := by
  have e0 : ∀ (b o : Nat), (b ≠ blk ∨ o ≠ 1) → ((w.setCell ⟨blk, 1, none⟩ (.int .i64 ((p : Int) + 1))).drewN q).cell? ⟨b, o, none⟩ = w.cell? ⟨b, o, none⟩ := by
    intro b o hne
    rw [World.cell?_drewN]
    refine World.cell?_setCell_other _ _ _ _ (fun e => ?_)
    injection e with e1 e2 e3
    rcases hne with h | h
    · exact h e1.symm
    · exact h e2.symm
  refine ⟨?_, ?_, ?_⟩
  · rw [World.cell?_drewN, World.cell?_setCell_same _ _ _ h.at1]
    rfl
  · rw [World.frozen?_drewN]
    simpa using h.fr
  · obtain ⟨a, len, cap, h0, hl, hr⟩ := h.row
    refine ⟨a, len, cap, by rw [e0 _ _ (Or.inr (by omega))]; exact h0, hl, fun hp => ?_⟩
    obtain ⟨b, off, ha, hne, hbs, hc⟩ := hr hp
    refine ⟨b, off, ha, hne, hbs, fun i hi => ?_⟩
    obtain ⟨z, z0, z1, hz⟩ := hc i hi
    exact ⟨z, z0, z1, by rw [e0 _ _ (Or.inl hne)]; exact hz⟩

set_option maxHeartbeats 1000000 in
theorem pick_none (w : World) (blk cap : Nat) (a : Option Addr) (p n : Int) (hp : 0 ≤ p) (hp' : p ≤ 1000000000) (hn : 1 ≤ n)
    (h0 : w.cell? ⟨blk, 0, none⟩ = some (.slice a 0 cap)) (h1 : w.cell? ⟨blk, 1, none⟩ = some (.int .i64 p)) (hf : w.frozen? ⟨blk, 1, none⟩ = false) :
    Calls Tryz.prog 38 #[.pointer (some ⟨blk, 0, none⟩), .int .i64 n] w fun e w' => e = .returned (.int .i64 0) ∧ w' = w.setCell ⟨blk, 1, none⟩ (.int .i64 (p + 1)) := by
  go_enter Tryz.func38, Tryz.ntmps38
  go_wp2
  go_ret
  exact ⟨rfl, rfl⟩

set_option maxHeartbeats 1000000 in
theorem pick_near (w : World) (blk cap len : Nat) (b off : Nat) (k : Nat) (n z : Int) (hp' : k < len) (hl : len ≤ 2000) (hn : 1 ≤ n) (hn' : n ≤ 1000000000)
    (h0 : w.cell? ⟨blk, 0, none⟩ = some (.slice (some ⟨b, off, none⟩) len cap)) (h1 : w.cell? ⟨blk, 1, none⟩ = some (.int .i64 k)) (hf : w.frozen? ⟨blk, 1, none⟩ = false)
    (hb : b ≠ blk) (hz0 : 0 ≤ z) (hz1 : z < 256) (hc : w.cell? ⟨b, off + k, none⟩ = some (.int .u8 z)) :
    Calls Tryz.prog 38 #[.pointer (some ⟨blk, 0, none⟩), .int .i64 n] w fun e w' => e = .returned (.int .i64 (z % n)) ∧ w' = w.setCell ⟨blk, 1, none⟩ (.int .i64 (k + 1)) := by
  have hne : ((len : Int) == 0) = false := by simp; omega
  have hn1 : decide (n < 1) = false := by simp; omega
  go_enter Tryz.func38, Tryz.ntmps38
  go_wp2
  go_ret
  exact ⟨rfl, rfl⟩

set_option maxHeartbeats 2000000 in
theorem pick_far (w : World) (blk cap len : Nat) (b off : Nat) (k : Nat) (n z y : Int) (hk : len ≤ k) (hk' : k ≤ 1000000000) (hl0 : 0 < len) (hl : len ≤ 2000) (hn : 1 ≤ n) (hn' : n ≤ 1000000000)
    (h0 : w.cell? ⟨blk, 0, none⟩ = some (.slice (some ⟨b, off, none⟩) len cap)) (h1 : w.cell? ⟨blk, 1, none⟩ = some (.int .i64 k)) (hf : w.frozen? ⟨blk, 1, none⟩ = false)
    (hb : b ≠ blk) (hz0 : 0 ≤ z) (hz1 : z < 256) (hc : w.cell? ⟨b, off + k % len, none⟩ = some (.int .u8 z)) (hy0 : 0 ≤ y) (hy1 : y < 256) (hd : w.cell? ⟨b, off + (k * 7 + 3) % len, none⟩ = some (.int .u8 y)) :
    Calls Tryz.prog 38 #[.pointer (some ⟨blk, 0, none⟩), .int .i64 n] w fun e w' => ∃ (v : Int) (q : Nat), 0 ≤ v ∧ v < n ∧ e = .returned (.int .i64 v) ∧ w' = (w.setCell ⟨blk, 1, none⟩ (.int .i64 (k + 1))).drewN q := by
  have hne : ((len : Int) == 0) = false := by simp; omega
  have hn1 : decide (n < 1) = false := by simp; omega
  have hlt : (decide ((k : Int) < len)) = false := by simp; omega
  have r0 : (0 : Int) ≤ (k : Int) % (len : Int) := Int.emod_nonneg _ (by omega)
  have r1 : (k : Int) % (len : Int) < (len : Int) := Int.emod_lt_of_pos _ (by omega)
  have r2 : (0 : Int) ≤ ((k : Int) * 7 + 3) % (len : Int) := Int.emod_nonneg _ (by omega)
  have r3 : ((k : Int) * 7 + 3) % (len : Int) < (len : Int) := Int.emod_lt_of_pos _ (by omega)
  have r4 : (0 : Int) ≤ (k : Int) / (len : Int) := Int.ediv_nonneg (by omega) (by omega)
  have r5 : (k : Int) / (len : Int) ≤ 1000000000 := Int.le_trans (Int.ediv_le_self _ (by omega)) (by omega)
  obtain ⟨m, hm0, hm⟩ : ∃ m : Nat, m < 9223372036854775807 ∧ bits .xor .i64 (z * 131 + y * 1117 + (k : Int) * 29 + (k : Int) / (len : Int) * 53) ((z * 131 + y * 1117 + (k : Int) * 29 + (k : Int) / (len : Int) * 53) / 64) = (m : Int) := by
    obtain ⟨X, hX⟩ := Int.eq_ofNat_of_zero_le (show (0 : Int) ≤ z * 131 + y * 1117 + (k : Int) * 29 + (k : Int) / (len : Int) * 53 by omega)
    have hb : X < 2 ^ 62 := by omega
    rw [hX]
    refine ⟨X ^^^ X / 64, ?_, ?_⟩
    · have := Nat.xor_lt_two_pow hb (show X / 64 < 2 ^ 62 by omega); omega
    · have := i64_xor_nat X (X / 64) (by omega) (by omega)
      rw [← this]; rfl
  go_enter Tryz.func38, Tryz.ntmps38
  go_wp2
  go_quiet (fail)
  go_wp2
  go_ret
  exact ⟨(m : Int) % n, _, Int.emod_nonneg _ (by omega), Int.emod_lt_of_pos _ (by omega), rfl, rfl⟩

/-- pick: a number from 0 below n; its place moves on by one. -/
theorem pick_any {B : Nat} (w : World) (blk p : Nat) (n : Int) (h : Rd B w blk p) (hp : p ≤ 1000000000) (hn : 1 ≤ n) (hn' : n ≤ 1000000000) :
    Calls Tryz.prog 38 #[.pointer (some ⟨blk, 0, none⟩), .int .i64 n] w fun e w' => ∃ v : Int, e = .returned (.int .i64 v) ∧ 0 ≤ v ∧ v < n ∧ Rd B w' blk (p + 1) ∧ Kp w.heap.size blk w w' := by
  obtain ⟨a, len, cap, h0, hl, hr⟩ := h.row
  rcases Nat.eq_zero_or_pos len with rfl | hpos
  · refine (pick_none w blk cap a p n (by omega) (by omega) hn h0 h.at1 h.fr).mono ?_
    rintro e w' ⟨rfl, rfl⟩
    exact ⟨0, rfl, by omega, by omega, h.next 0, Kp.setCell w 1 _ 0⟩
  · obtain ⟨b, off, rfl, hne, hbs, hc⟩ := hr hpos
    by_cases hk : p < len
    · obtain ⟨z, z0, z1, hz⟩ := hc p hk
      refine (pick_near w blk cap len b off p n z hk hl hn hn' h0 h.at1 h.fr hne z0 z1 hz).mono ?_
      rintro e w' ⟨rfl, rfl⟩
      exact ⟨z % n, rfl, Int.emod_nonneg _ (by omega), Int.emod_lt_of_pos _ (by omega), h.next 0, Kp.setCell w 1 _ 0⟩
    · obtain ⟨z, z0, z1, hz⟩ := hc (p % len) (Nat.mod_lt _ hpos)
      obtain ⟨y, y0, y1, hy⟩ := hc ((p * 7 + 3) % len) (Nat.mod_lt _ hpos)
      refine (pick_far w blk cap len b off p n z y (by omega) hp hpos hl hn hn' h0 h.at1 h.fr hne z0 z1 hz y0 y1 hy).mono ?_
      rintro e w' ⟨v, q, v0, v1, rfl, rfl⟩
      exact ⟨v, rfl, v0, v1, h.next q, Kp.setCell w 1 _ q⟩
end Go.Proofs.YtlnieobmhofkdaaGreatDoor
