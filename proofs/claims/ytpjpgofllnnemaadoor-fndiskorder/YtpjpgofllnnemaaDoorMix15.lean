import Derived.Test.YtpjpgofllnnemaaDoorMix14
import Derived.Test.YtpjpgofllnnemaaDoorDiskOkW
import Derived.Test.YtpjpgofllnnemaaDoorMix12
import Derived.Test.YtpjpgofllnnemaaDoorMix4
/- What the laws' szDisk, toDisk and eqDisk do. -/
namespace Go.Proofs.YtpjpgofllnnemaaDoor
open Go.RowKit

attribute [local go_sem ↓] Go.wp_at_zero Go.wp_at_succ

theorem FillP.set {w : World} {g k X o : Nat} {u : Value} {l : List Ix.Pg} (h : FillP w g l k) (hX : X < g) : FillP (w.setCell ⟨X, o, none⟩ u) g l k := by
  obtain ⟨C, h1, h2, h3⟩ := h
  refine ⟨C, (Below.heap_setCell _ _ _ _ (by show g ≠ X; omega)).trans h1, h2, fun i hi => ?_⟩
  obtain ⟨fv, dv, h4, h5, h6⟩ := h3 i hi
  exact ⟨fv, dv, h4, h5.keep (fun j hj _ => Below.heap_setCell _ _ _ _ (by show j ≠ X; omega)), h6.keep (fun j hj _ => Below.heap_setCell _ _ _ _ (by show j ≠ X; omega))⟩
theorem WrP.set0 {N : Nat → Prop} {w : World} {g n X o : Nat} {u : Value} (h : WrP N w g n) (hX : ¬ N X) : WrP N (w.setCell ⟨X, o, none⟩ u) g n := h.keepN (fun k _ hk => Below.heap_setCell _ _ _ _ (fun e => hX (by have e' : k = X := e; rw [← e']; exact hk)))
theorem three_boxesD (w : World) (o1 o2 o3 : Obj) : Below w.heap.size w (((w.alloc o1).alloc o2).alloc o3) ∧ (((w.alloc o1).alloc o2).alloc o3).heap[w.heap.size]? = some o1 ∧ (((w.alloc o1).alloc o2).alloc o3).heap[w.heap.size + 1]? = some o2 ∧ (((w.alloc o1).alloc o2).alloc o3).heap[w.heap.size + 1 + 1]? = some o3 ∧ (((w.alloc o1).alloc o2).alloc o3).heap.size = w.heap.size + 1 + 1 + 1 := by
  have z1 := sz1' w o1
  have z2 := sz1' (w.alloc o1) o2
  have z3 := sz1' ((w.alloc o1).alloc o2) o3
  have B1 := below1 w o1
  have b2 := below1 (w.alloc o1) o2
  have b3 := below1 ((w.alloc o1).alloc o2) o3
  have h1 := heap_alloc_new w o1
  have h2 := heap_alloc_new (w.alloc o1) o2
  have h3 := heap_alloc_new ((w.alloc o1).alloc o2) o3
  rw [z1] at h2 z2
  rw [z2] at h3 z3
  refine ⟨(B1.trans (b2.mono B1.size)).trans (b3.mono (by omega)), ?_, ?_, h3, z3⟩
  · rw [b3.block _ (by omega), b2.block _ (by omega)]; exact h1
  · rw [b3.block _ (by omega)]; exact h2

/-- A disk that came in: its rows, and whether there is a journal. -/
def DiskIn (W : World) (a1 : Option Addr) (n1 c1 : Nat) (af : Option Addr) (nf cf : Nat) (a2 : Option Addr) (n2 c2 : Nat) : Prop := PkgsIn W a1 n1 c1 ∧ RowIn W af nf cf ∧ PkgsIn W a2 n2 c2
theorem RowIn.later {w w' : World} {a : Option Addr} {n c : Nat} (h : RowIn w a n c) (hb : Below w.heap.size w w') : RowIn w' a n c := ⟨h.1, fun hs => by obtain ⟨l, h1, h2⟩ := h.2 hs; exact ⟨l, h1, h2.later hb⟩⟩
theorem DiskIn.later {w w' : World} {a1 af a2 : Option Addr} {n1 c1 nf cf n2 c2 : Nat} (h : DiskIn w a1 n1 c1 af nf cf a2 n2 c2) (hb : Below w.heap.size w w') : DiskIn w' a1 n1 c1 af nf cf a2 n2 c2 := ⟨h.1.later hb, h.2.1.later hb, h.2.2.later hb⟩
/-- The rows of a disk, as data, not too long. -/
structure DiskAt (w : World) (v1 vf v2 : Value) (d : Dk.D) : Prop where
  p1 : Pks (fun _ => True) w v1 d.db
  pf : Ins w vf d.fl
  p2 : Pks (fun _ => True) w v2 d.jr
  l1 : d.db.length ≤ 1048576
  a1 : ∀ i, i < d.db.length → (Ix.pg d.db i).2.2.1.length ≤ 1048576 ∧ (Ix.pg d.db i).2.2.2.length ≤ 1048576
  lf : d.fl.length ≤ 1048576
  l2 : d.jr.length ≤ 1048576
  a2 : ∀ i, i < d.jr.length → (Ix.pg d.jr i).2.2.1.length ≤ 1048576 ∧ (Ix.pg d.jr i).2.2.2.length ≤ 1048576
theorem DiskAt.later {w w' : World} {v1 vf v2 : Value} {d : Dk.D} (h : DiskAt w v1 vf v2 d) (hb : Below w.heap.size w w') : DiskAt w' v1 vf v2 d := ⟨h.p1.later hb, h.pf.later hb, h.p2.later hb, h.l1, h.a1, h.lf, h.l2, h.a2⟩

/-- A disk laid anew: the rows of packages may be written to, each in blocks of its own. -/
structure DiskNewAt (w : World) (g1 g2 g3 : Nat) (d : Dk.D) : Prop where
  f1 : FillP w g1 d.db d.db.length
  ff : FillI w g2 d.fl d.fl.length
  f2 : FillP w g3 d.jr d.jr.length
  w1 : WrP (fun b => g1 ≤ b ∧ b < g2) w g1 d.db.length
  w2 : WrP (fun b => g3 ≤ b ∧ b < w.heap.size) w g3 d.jr.length
  o1 : g1 < g2
  o2 : g2 < g3
abbrev rowV (g n : Nat) : Value := .slice (some ⟨g, 0, none⟩) n n
theorem WrP.weakN {N M : Nat → Prop} {w : World} {g n : Nat} (h : WrP N w g n) (hN : ∀ b, N b → M b) : WrP M w g n := by
  obtain ⟨C, h1, h2, h3, h4⟩ := h
  refine ⟨C, h1, h2, hN _ h3, fun i hi => ?_⟩
  obtain ⟨x, y, g1, n1, g2, n2, k1, k2, k3, k4, k5⟩ := h4 i hi
  exact ⟨x, y, g1, n1, g2, n2, k1, ⟨hN _ k2.1, hN _ k2.2⟩, k3, k4, k5⟩
theorem DiskNewAt.later {w w' : World} {g1 g2 g3 : Nat} {d : Dk.D} (h : DiskNewAt w g1 g2 g3 d) (hb : Below w.heap.size w w') : DiskNewAt w' g1 g2 g3 d :=
  ⟨h.f1.later hb, h.ff.later hb, h.f2.later hb, h.w1.later hb, (h.w2.later hb).weakN (fun _ hx => ⟨hx.1, Nat.lt_of_lt_of_le hx.2 hb.size⟩), h.o1, h.o2⟩
theorem DiskNewAt.at {w : World} {g1 g2 g3 : Nat} {d : Dk.D} {v1 vf v2 : Value} {w0 : World} (h : DiskNewAt w g1 g2 g3 d) (hd : DiskAt w0 v1 vf v2 d) : DiskAt w (rowV g1 d.db.length) (rowV g2 d.fl.length) (rowV g3 d.jr.length) d :=
  ⟨(h.f1.pks hd.l1).weak (fun _ _ => trivial), h.ff.ins hd.lf, (h.f2.pks hd.l2).weak (fun _ _ => trivial), hd.l1, hd.a1, hd.lf, hd.l2, hd.a2⟩

end Go.Proofs.YtpjpgofllnnemaaDoor

/- What the laws' markDisk and heldDisk do with a disk that is answered with: rows of its own, no two in one block. -/
namespace Go.Proofs.YtpjpgofllnnemaaDoor
open Go.RowKit

/-- A disk that is answered with. -/
structure DAns (B : Nat) (w : World) (v1 vf v2 : Value) (e1 : List El) (fl : List Int) (e2 : List El) : Prop where
  p1 : PAns B w v1 e1
  pf : OwI B w vf fl
  p2 : PAns B w v2 e2
  far : ∀ g, blkP v1 e1 g → ¬ blkP v2 e2 g
theorem PAns.notInt {B : Nat} {w : World} {v : Value} {l : List El} (h : PAns B w v l) {g : Nat} {c : Array Value} (hg : w.heap[g]? = some (.cells c 3 (0, 0))) : ¬ blkP v l g := by
  rintro (hb | ⟨e, he, hb | hb⟩)
  · exact own_ne h.own hg (by decide) hb
  · exact own_ne (h.el e he).f hg (by decide) hb
  · exact own_ne (h.el e he).d hg (by decide) hb
theorem PAns.notDisk {B : Nat} {w : World} {v : Value} {l : List El} (h : PAns B w v l) {g : Nat} {c : Array Value} (hg : w.heap[g]? = some (.cells c 26 (0, 0))) : ¬ blkP v l g := by
  rintro (hb | ⟨e, he, hb | hb⟩)
  · exact own_ne h.own hg (by decide) hb
  · exact own_ne (h.el e he).f hg (by decide) hb
  · exact own_ne (h.el e he).d hg (by decide) hb
theorem OwI.staysP {B B' : Nat} {w w' : World} {vf v : Value} {fl : List Int} {l : List El} (h : OwI B w vf fl) (hp : PAns B' w v l) (hs : Stays (blkP v l) w w') : OwI B w' vf fl :=
  own_keepS h (fun g _ _ _ hgg => hs.block g (heapLt hgg) (hp.notInt hgg))
theorem PAns.staysI {B B' : Nat} {w w' : World} {vf v : Value} {fl : List Int} {l : List El} (h : PAns B w v l) (hf : OwI B' w vf fl) (hg : w.grownBy w' vf.ownBlock) : PAns B w' v l :=
  h.keep (fun g hb => hg.block g (h.lt g hb).2 (fun e => by
    obtain ⟨_, c, hc⟩ := own_row hf g e.symm
    exact h.notInt hc hb))
theorem markL_blkP {v : Value} {l : List El} {k : Int} {g : Nat} (h : blkP v (markL k l) g) : blkP v l g := by
  have e : markTo k l l.length = markL k l := by unfold markTo; rw [List.take_length, List.drop_length, List.append_nil]
  rw [← e] at h
  exact markTo_blk h
theorem DAns.later {B : Nat} {w w' : World} {v1 vf v2 : Value} {e1 e2 : List El} {fl : List Int} (h : DAns B w v1 vf v2 e1 fl e2) (hb : Below w.heap.size w w') : DAns B w' v1 vf v2 e1 fl e2 := ⟨h.p1.later hb, own_later h.pf hb, h.p2.later hb, h.far⟩
theorem DAns.base {B B' : Nat} {w : World} {v1 vf v2 : Value} {e1 e2 : List El} {fl : List Int} (h : DAns B w v1 vf v2 e1 fl e2) (hB : B' ≤ B) : DAns B' w v1 vf v2 e1 fl e2 := ⟨h.p1.base hB, own_base' h.pf hB, h.p2.base hB, h.far⟩
theorem DAns.below {B : Nat} {w w' : World} {v1 vf v2 : Value} {e1 e2 : List El} {fl : List Int} (h : DAns B w v1 vf v2 e1 fl e2) {W : World} (hW : Below W.heap.size W w) (hB : W.heap.size ≤ B) (hk : ∀ j, j < w.heap.size → ¬ blkP v1 e1 j → ¬ blkP v2 e2 j → vf.ownBlock ≠ some j → w'.heap[j]? = w.heap[j]?) (hs : w.heap.size ≤ w'.heap.size) (ho : w'.os = w.os) (ht : w'.tape = w.tape) (hp : w'.output = w.output) : Below W.heap.size W w' :=
  ⟨ho.trans hW.os, ht.trans hW.tape, hp.trans hW.output, Nat.le_trans hW.size hs, fun j hj => (hk j (Nat.lt_of_lt_of_le hj hW.size) (fun hb => by have := (h.p1.lt j hb).1; omega) (fun hb => by have := (h.p2.lt j hb).1; omega) (fun hb => by have := (h.pf.lt j hb).1; omega)).trans (hW.block j hj)⟩
def smallE (l : List El) : Prop := l.length ≤ 1000 ∧ ∀ e ∈ l, e.1.2.2.1.length ≤ 1000 ∧ e.1.2.2.2.length ≤ 1000

end Go.Proofs.YtpjpgofllnnemaaDoor

/- A disk that is written to: how it is opened and closed, and what each step does to it, done and torn. -/
namespace Go.Proofs.YtpjpgofllnnemaaDoor
open Go.RowKit

attribute [local go_sem ↓] Go.wp_at_zero Go.wp_at_succ

set_option maxHeartbeats 4000000 in
set_option maxRecDepth 100000 in
theorem copyPkgs_any {N : Nat → Prop} (w : World) (v : Value) (l : List Ix.Pg) (h : Pks N w v l) (hl : l.length ≤ 1000) :
    Calls Tryd.prog 78 #[v] w fun e w' => ∃ u els, e = .returned u ∧ PAns w.heap.size w' u els ∧ els.map (·.1) = l ∧ Below w.heap.size w w' := by
  obtain ⟨i0, hI0, hz0, hz1, hz2⟩ := info_parts infoPkg
  obtain ⟨a, cap, rfl, hlen, hrow⟩ := h
  have HR := hide hrow
  clear hrow hlen
  go_enter Tryd.func78, Tryd.ntmps78
  go_wp2_with fail
  go_loopw [3, 8] (fun o i w' => ∃ (k : Nat) (els : List El), k ≤ l.length ∧ i = .int .i64 k ∧ els.map (·.1) = l.take k ∧ PAns w.heap.size w' o els ∧ Below w.heap.size w w') (fun _ i _ => l.length - (intOf i).toNat)
  case atStart => exact ⟨0, [], Nat.zero_le _, rfl, rfl, PAns.nil _ _, Below.refl _ _⟩
  case round =>
    obtain ⟨k, els, hk, rfl, hmap, hP, hw⟩ := hrel
    have hle : els.length ≤ k := by rw [← List.length_map (f := fun x : El => x.1), hmap, List.length_take]; omega
    have HM := hide hmap
    have HP := hide hP
    have HW := hide hw
    clear hmap hP hw
    by_cases hlt : k < l.length
    · obtain ⟨b, off, rfl, hb, _, hc⟩ := unhide HR (by omega)
      obtain ⟨fv, dv, hAt, hf, hd⟩ := hc k hlt
      obtain ⟨nm, vr, fs, ds, hpk⟩ : ∃ nm vr fs ds, Ix.pg l k = (nm, vr, fs, ds) := ⟨_, _, _, _, rfl⟩
      rw [hpk] at hAt hf hd
      dsimp only at hf hd
      obtain ⟨fa, fc, hfv⟩ := hf.slice
      obtain ⟨da, dc, hdv⟩ := hd.slice
      subst hfv hdv
      obtain ⟨c0, c1, c2, c3⟩ := hAt.keep ((unhide HW).block b hb)
      dsimp only at c0 c1 c2 c3
      have hb' : b < wr.heap.size := Nat.lt_of_lt_of_le hb (unhide HW).size
      have hi0 : (0 : Int) ≤ (k : Int) := Int.natCast_nonneg _
      have hi1 : (k : Int) < (l.length : Int) := by omega
      have er : IntKind.i64.wrap ((k : Int) + 1) = (k : Int) + 1 := by simp [IntKind.wrap, IntKind.bits, IntKind.signed]; omega
      have b1 := below1 wr (.cells #[.int .i64 nm, .int .i64 vr, .slice fa fs.length fc, .slice da ds.length dc] 56)
      have hB1 := (unhide HW).trans (b1.mono (unhide HW).size)
      have CC := hide (implCopyPkg_any (wr.alloc (.cells #[.int .i64 nm, .int .i64 vr, .slice fa fs.length fc, .slice da ds.length dc] 56)) nm vr _ _ fs ds (hf.prs.later hB1) (hd.prs.later hB1))
      have HP1 := hide ((unhide HP).later b1)
      have HB1 := hide hB1
      have htk := Ix.take_pg l k hlt
      rw [hpk] at htk
      have HTK := hide htk
      clear hc hAt hf hd hpk htk b1 hB1 HP HW
      go_wp2_with fail
      refine (unhide CC).mono ?_
      generalize wr.alloc _ = W1 at *
      clear c0 c1 c2 c3 hb'
      rintro e w2 ⟨fv', dv', rfl, ho, hb2⟩
      obtain ⟨ga, gc, ha, hcc, h1, h2⟩ := ho.forms
      subst h1 h2
      have hfar : ∀ x ∈ els, farE x ((nm, vr, fs, ds), .slice ga fs.length gc, .slice ha ds.length hcc) := fun x hx => farE.new ((unhide HP1).el x hx) ho
      have HFA := hide hfar
      have b3 := below1 w2 (.cells #[.int .i64 nm, .int .i64 vr, .slice ga fs.length gc, .slice ha ds.length hcc] 56)
      have HB3 := hide ((unhide HB1).trans ((hb2.trans (b3.mono hb2.size)).mono (unhide HB1).size))
      have HP3 := hide ((unhide HP1).later (hb2.trans (b3.mono hb2.size)))
      have HO3 := hide ((ho.base (unhide HB1).size).later b3)
      have hs2 : w.heap.size ≤ w2.heap.size := Nat.le_trans (unhide HB1).size hb2.size
      clear CC ho hb2 b3 hfar HP1 HB1
      go_wp2_with (at_builtin; refine wpList_append_lies _ rfl _ _ _ rfl w.heap.size 56 i0 _ 4 64 Tryd.underlying23 hI0 hz0 hz1 hz2 rfl (by omega) _ els.length (flat4 els) rfl (unhide HP3).own ⟨w2.heap.size, 0, none⟩ 1 1 [.int .i64 nm, .int .i64 vr, .slice ga fs.length gc, .slice ha ds.length hcc] rfl rfl (World.news_of_block (cs := #[.int .i64 nm, .int .i64 vr, .slice ga fs.length gc, .slice ha ds.length hcc]) (t := 56) (fr := (0, 0)) (heap_alloc_new _ _)) (by simp [Value.oneCell']) (by omega) (by unfold maxLen; omega) (by omega) (by rw [sz1']; omega) (w2.heap.size + 1) (by rw [sz1']) ?_; intro gg gcap w10 hown hgrow hat hlt10)
      have HP10 := hide (PAns.snoc (e := ((nm, vr, fs, ds), .slice ga fs.length gc, .slice ha ds.length hcc)) (unhide HP3) hgrow hown (unhide HO3) (unhide HFA))
      have HB10 := hide (grown_below (B := w.heap.size) (unhide HP3).own hgrow (unhide HB3) (unhide HB3).size)
      clear hown hgrow hat hlt10 HP3 HB3 HO3 HFA
      go_roundw
      case rel => exact ⟨k + 1, els ++ [((nm, vr, fs, ds), .slice ga fs.length gc, .slice ha ds.length hcc)], by omega, by go_num, by rw [unhide HTK, List.map_append, unhide HM]; rfl, unhide HP10, unhide HB10⟩
      case measure => simp [intOf]; omega
    · obtain rfl : k = l.length := by omega
      rw [List.take_of_length_le (Nat.le_refl _)] at HM
      clear hlt HR
      go_wp2
      go_ret
      exact ⟨_, els, rfl, unhide HP, unhide HM, unhide HW⟩

/-- A disk that is open for writing, its block O, rows of its own. -/
structure Op (B : Nat) (w : World) (O : Nat) (has : Bool) (v2 v1 vf : Value) (e1 : List El) (fl : List Int) (e2 : List El) : Prop where
  box : w.heap[O]? = some (Obj.cells #[.bool has, v2, v1, vf] 88 (0, 0))
  lo : B ≤ O
  ans : DAns B w v1 vf v2 e1 fl e2
theorem Op.later {B : Nat} {w w' : World} {O : Nat} {has : Bool} {v2 v1 vf : Value} {e1 e2 : List El} {fl : List Int} (h : Op B w O has v2 v1 vf e1 fl e2) (hb : Below w.heap.size w w') : Op B w' O has v2 v1 vf e1 fl e2 := ⟨(hb.block _ (heapLt h.box)).trans h.box, h.lo, h.ans.later hb⟩
theorem PAns.notOpen {B : Nat} {w : World} {v : Value} {l : List El} (h : PAns B w v l) {g : Nat} {c : Array Value} (hg : w.heap[g]? = some (.cells c 88 (0, 0))) : ¬ blkP v l g := by
  rintro (hb | ⟨e, he, hb | hb⟩)
  · exact own_ne h.own hg (by decide) hb
  · exact own_ne (h.el e he).f hg (by decide) hb
  · exact own_ne (h.el e he).d hg (by decide) hb
/-- A cell of the open disk is written: its rows stay. -/
theorem DAns.set {B : Nat} {w : World} {v2 v1 vf : Value} {e1 e2 : List El} {fl : List Int} {O o : Nat} {u : Value} {c : Array Value} (h : DAns B w v1 vf v2 e1 fl e2) (hO : w.heap[O]? = some (Obj.cells c 88 (0, 0))) : DAns B (w.setCell ⟨O, o, none⟩ u) v1 vf v2 e1 fl e2 :=
  ⟨h.p1.keep (fun g hg => Below.heap_setCell _ _ _ _ (fun e => by have e' : g = O := e; subst e'; exact h.p1.notOpen hO hg)), own_set h.pf hO (by decide), h.p2.keep (fun g hg => Below.heap_setCell _ _ _ _ (fun e => by have e' : g = O := e; subst e'; exact h.p2.notOpen hO hg)), h.far⟩

theorem lenE {els : List El} {l : List Ix.Pg} (h : els.map (·.1) = l) : els.length = l.length := by rw [← h, List.length_map]

set_option maxHeartbeats 4000000 in
set_option maxRecDepth 100000 in
theorem opened_any {N M : Nat → Prop} (w : World) (d : Dk.D) (v1 vf v2 : Value) (h1 : Pks N w v1 d.db) (hf : Ins w vf d.fl) (h2 : Pks M w v2 d.jr) (l1 : d.db.length ≤ 1000) (l2 : d.jr.length ≤ 1000) (lf : d.fl.length ≤ 1000) :
    Calls Tryd.prog 53 #[dkV v1 vf d.has v2] w fun e w' => ∃ O u2 u1 uf e1 e2, e = .returned (.pointer (some ⟨O, 0, none⟩)) ∧ Op w.heap.size w' O d.has u2 u1 uf e1 d.fl e2 ∧ e1.map (·.1) = d.db ∧ e2.map (·.1) = d.jr ∧ Below w.heap.size w w' := by
  obtain ⟨db, fl, has, jr⟩ := d
  dsimp only [dkV] at *
  obtain ⟨a1, c1, e1⟩ := h1.slice
  obtain ⟨af, cf, ef⟩ := hf.slice
  obtain ⟨a2, c2, e2⟩ := h2.slice
  subst e1 ef e2
  have b0 := below1 w (.cells #[.slice a1 db.length c1, .slice af fl.length cf, .bool has, .slice a2 jr.length c2] 26)
  have HB := hide (heap_alloc_new w (.cells #[.slice a1 db.length c1, .slice af fl.length cf, .bool has, .slice a2 jr.length c2] 26))
  have BW := hide b0
  have H0 := hide (And.intro h1 (And.intro hf h2))
  clear h1 hf h2 b0
  go_enter Tryd.func53, Tryd.ntmps53
  go_wp2_with fail
  generalize w.alloc _ = W0 at *
  obtain ⟨x0, x1, x2, x3⟩ : _ ∧ _ ∧ _ ∧ _ := ⟨cellOf (unhide HB) 0, cellOf (unhide HB) 1, cellOf (unhide HB) 2, cellOf (unhide HB) 3⟩
  refine wp_region_held_drew (S := fun w' => w'.cell? ⟨w.heap.size, 0, none⟩ = some (.slice a1 db.length c1) ∧ w'.cell? ⟨w.heap.size, 1, none⟩ = some (.slice af fl.length cf) ∧ w'.cell? ⟨w.heap.size, 2, none⟩ = some (.bool has) ∧ w'.cell? ⟨w.heap.size, 3, none⟩ = some (.slice a2 jr.length c2)) (by kernel_rfl) ⟨x0, x1, x2, x3⟩ (fun hHeld => ?_)
  clear x0 x1 x2 x3
  refine anyH_at (i := 0) (d := some 3) rfl rfl (by kernel_rfl) (by kernel_rfl) (by kernel_rfl) (fun _ _ _ h => h) (by rfl) (v := ?_) ?_ (by assumption) ?_
  rotate_left
  · (intro w hSw; (try dsimp only at hSw); go_simp <;> with_reducible rfl)
  simp only [Act.put, List.setIfInBounds_toArray, List.set_cons_zero, List.set_cons_succ]
  refine anyH_at (i := 1) (d := some 4) rfl rfl (by kernel_rfl) (by kernel_rfl) (by kernel_rfl) (fun _ _ _ h => h) (by rfl) (v := ?_) ?_ (by assumption) ?_
  rotate_left
  · (intro w hSw; (try dsimp only at hSw); go_simp <;> with_reducible rfl)
  simp only [Act.put, List.setIfInBounds_toArray, List.set_cons_zero, List.set_cons_succ]
  refine anyH_at (i := 2) (d := some 5) rfl rfl (by kernel_rfl) (by kernel_rfl) (by kernel_rfl) (fun _ _ _ h => h) (by rfl) (v := ?_) ?_ (by assumption) ?_
  rotate_left
  · (intro w hSw; (try dsimp only at hSw); go_simp <;> with_reducible rfl)
  simp only [Act.put, List.setIfInBounds_toArray, List.set_cons_zero, List.set_cons_succ]
  refine anyH_at (i := 3) (d := some 6) rfl rfl (by kernel_rfl) (by kernel_rfl) (by kernel_rfl) (fun _ _ _ h => h) (by rfl) (v := ?_) ?_ (by assumption) ?_
  rotate_left
  · (intro w hSw; (try dsimp only at hSw); go_simp <;> with_reducible rfl)
  simp only [Act.put, List.setIfInBounds_toArray, List.set_cons_zero, List.set_cons_succ]
  refine anyH_at (i := 6) (d := some 9) rfl rfl (by kernel_rfl) (by kernel_rfl) (by kernel_rfl) (fun _ _ _ h => h) (by rfl) (v := ?_) ?_ (by assumption) ?_
  rotate_left
  · (intro w hSw; (try dsimp only at hSw); go_simp <;> with_reducible rfl)
  simp only [Act.put, List.setIfInBounds_toArray, List.set_cons_zero, List.set_cons_succ]
  refine anyH_at (i := 7) (d := some 10) rfl rfl (by kernel_rfl) (by kernel_rfl) (by kernel_rfl) (fun _ _ _ h => h) (by rfl) (v := ?_) ?_ (by assumption) ?_
  rotate_left
  · (intro w hSw; (try dsimp only at hSw); go_simp <;> with_reducible rfl)
  simp only [Act.put, List.setIfInBounds_toArray, List.set_cons_zero, List.set_cons_succ]
  refine anyH_at (i := 9) (d := some 12) rfl rfl (by kernel_rfl) (by kernel_rfl) (by kernel_rfl) (fun _ _ _ h => h) (by rfl) (v := ?_) ?_ (by assumption) ?_
  rotate_left
  · (intro w hSw; (try dsimp only at hSw); go_simp <;> with_reducible rfl)
  simp only [Act.put, List.setIfInBounds_toArray, List.set_cons_zero, List.set_cons_succ]
  refine anyH_at (i := 10) (d := some 13) rfl rfl (by kernel_rfl) (by kernel_rfl) (by kernel_rfl) (fun _ _ _ h => h) (by rfl) (v := ?_) ?_ (by assumption) ?_
  rotate_left
  · (intro w hSw; (try dsimp only at hSw); go_simp <;> with_reducible rfl)
  simp only [Act.put, List.setIfInBounds_toArray, List.set_cons_zero, List.set_cons_succ]
  refine wpAnyH_ready (rs := [4]) (by kernel_rfl) (by simp) ?_
  refine AllReadyH.cons rfl (fun K hK => ?_) AllReadyH.nil
  go_simp
  have hd := below_drew W0
  replace HB := hide ((hd.block _ (heapLt (unhide HB))).trans (unhide HB))
  replace BW := hide ((unhide BW).trans (hd.mono (unhide BW).size))
  clear hd
  refine (copyPkgs_any _ _ jr ((unhide H0).2.2.later (unhide BW)) l2).mono ?_
  rintro e w1 ⟨u2, els2, rfl, hP2, hm2, b⟩
  obtain ⟨ja, jc, hu⟩ := own_formS hP2.own
  subst hu
  replace HB := hide ((b.block _ (heapLt (unhide HB))).trans (unhide HB))
  have P2 := hide (hP2.base (unhide BW).size)
  replace BW := hide ((unhide BW).trans (b.mono (unhide BW).size))
  have HM2 := hide hm2
  clear hP2 hm2 b
  go_wp2_with fail
  refine hK.out _ _ ?_ (fun hHeldN => ?_)
  · exact ⟨cellOf (unhide HB) 0, cellOf (unhide HB) 1, cellOf (unhide HB) 2, cellOf (unhide HB) 3⟩
  clear hHeld
  have hHeld := hHeldN
  clear hHeldN
  clear hK K
  try simp only [Act.put, List.setIfInBounds_toArray, List.set_cons_zero, List.set_cons_succ]
  refine anyH_at (i := 5) (d := some 8) rfl rfl (by kernel_rfl) (by kernel_rfl) (by kernel_rfl) (fun _ _ _ h => h) (by rfl) (v := ?_) ?_ (by assumption) ?_
  rotate_left
  · (intro w hSw; (try dsimp only at hSw); go_simp <;> with_reducible rfl)
  simp only [Act.put, List.setIfInBounds_toArray, List.set_cons_zero, List.set_cons_succ]
  refine wpAnyH_ready (rs := [8]) (by kernel_rfl) (by simp) ?_
  refine AllReadyH.cons rfl (fun K hK => ?_) AllReadyH.nil
  go_simp
  refine (copyPkgs_any _ _ db ((unhide H0).1.later (unhide BW)) l1).mono ?_
  rintro e w2 ⟨u1, els1, rfl, hP1, hm1, b⟩
  obtain ⟨ia, ic, hu⟩ := own_formS hP1.own
  subst hu
  have hfar : Hid (∀ g, blkP (.slice ia els1.length ic) els1 g → ¬ blkP (.slice ja els2.length jc) els2 g) := fun g hg hg2 => by
    have := (hP1.lt g hg).1
    have := ((unhide P2).lt g hg2).2
    omega
  replace HB := hide ((b.block _ (heapLt (unhide HB))).trans (unhide HB))
  have P1 := hide (hP1.base (unhide BW).size)
  replace P2 := hide ((unhide P2).later b)
  replace BW := hide ((unhide BW).trans (b.mono (unhide BW).size))
  have HM1 := hide hm1
  clear hP1 hm1 b
  go_wp2_with fail
  refine hK.out _ _ ?_ (fun hHeldN => ?_)
  · exact ⟨cellOf (unhide HB) 0, cellOf (unhide HB) 1, cellOf (unhide HB) 2, cellOf (unhide HB) 3⟩
  clear hHeld
  have hHeld := hHeldN
  clear hHeldN
  clear hK K
  try simp only [Act.put, List.setIfInBounds_toArray, List.set_cons_zero, List.set_cons_succ]
  refine wpAnyH_ready (rs := [11]) (by kernel_rfl) (by simp) ?_
  refine AllReadyH.cons rfl (fun K hK => ?_) AllReadyH.nil
  go_simp
  refine (copyInts_any _ _ fl ((unhide H0).2.1.later (unhide BW))).mono ?_
  rintro e w3 ⟨uf, rfl, ho, b⟩
  obtain ⟨fa, fc, hu⟩ := own_formS ho
  subst hu
  replace HB := hide ((b.block _ (heapLt (unhide HB))).trans (unhide HB))
  have PF := hide (own_base' ho (unhide BW).size)
  replace P1 := hide ((unhide P1).later b)
  replace P2 := hide ((unhide P2).later b)
  replace BW := hide ((unhide BW).trans (b.mono (unhide BW).size))
  clear ho b
  go_wp2_with fail
  refine hK.out _ _ ?_ (fun hHeldN => ?_)
  · exact ⟨cellOf (unhide HB) 0, cellOf (unhide HB) 1, cellOf (unhide HB) 2, cellOf (unhide HB) 3⟩
  clear hHeld
  have hHeld := hHeldN
  clear hHeldN
  clear hK K
  try simp only [Act.put, List.setIfInBounds_toArray, List.set_cons_zero, List.set_cons_succ]
  refine anyH_at (i := 12) (d := some 15) rfl rfl (by kernel_rfl) (by kernel_rfl) (by kernel_rfl) (fun _ _ _ h => h) (by rfl) (v := ?_) ?_ (by assumption) ?_
  rotate_left
  · (intro w hSw; (try dsimp only at hSw); go_simp <;> with_reducible rfl)
  simp only [Act.put, List.setIfInBounds_toArray, List.set_cons_zero, List.set_cons_succ]
  refine wpAnyH_ready (rs := [13]) (by kernel_rfl) (by simp) ?_
  refine AllReadyH.cons rfl (fun K hK => ?_) AllReadyH.nil
  go_simp
  have b4 := below1 w3 (Obj.cells #[.bool has, .slice ja els2.length jc, .slice ia els1.length ic, .slice fa fl.length fc] 88)
  have HO : Hid (Op w.heap.size (World.alloc w3 (Obj.cells #[.bool has, .slice ja els2.length jc, .slice ia els1.length ic, .slice fa fl.length fc] 88)) w3.heap.size has (.slice ja els2.length jc) (.slice ia els1.length ic) (.slice fa fl.length fc) els1 fl els2) :=
    ⟨heap_alloc_new w3 _, (unhide BW).size, ⟨(unhide P1).later b4, own_later (unhide PF) b4, (unhide P2).later b4, unhide hfar⟩⟩
  replace HB := hide ((b4.block _ (heapLt (unhide HB))).trans (unhide HB))
  replace BW := hide ((unhide BW).trans (b4.mono (unhide BW).size))
  clear b4 P1 P2 PF hfar
  refine hK.out _ _ ?_ (fun hHeldN => ?_)
  · exact ⟨cellOf (unhide HB) 0, cellOf (unhide HB) 1, cellOf (unhide HB) 2, cellOf (unhide HB) 3⟩
  clear hHeld
  have hHeld := hHeldN
  clear hHeldN
  clear hK K
  try simp only [Act.put, List.setIfInBounds_toArray, List.set_cons_zero, List.set_cons_succ]
  refine anyH_at (i := 14) (d := some 2) rfl rfl (by kernel_rfl) (by kernel_rfl) (by kernel_rfl) (fun _ _ _ h => h) (by rfl) (v := ?_) ?_ (by assumption) ?_
  rotate_left
  · (intro w hSw; (try dsimp only at hSw); go_simp <;> with_reducible rfl)
  simp only [Act.put, List.setIfInBounds_toArray, List.set_cons_zero, List.set_cons_succ]
  refine wpAnyH_done (by kernel_rfl) ?_ _
  clear hHeld HB
  go_wp2
  go_ret
  exact ⟨_, _, _, _, els1, els2, rfl, unhide HO, unhide HM1, unhide HM2, unhide BW⟩
end Go.Proofs.YtpjpgofllnnemaaDoor
