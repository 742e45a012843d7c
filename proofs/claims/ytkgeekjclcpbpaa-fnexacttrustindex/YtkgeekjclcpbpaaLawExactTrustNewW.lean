/- The walk of FnExactTrustNew: it returns true and leaves what was there; for every root. -/
import Derived.Test.YtkgeekjclcpbpaaMarkRW
import Derived.Test.YtkgeekjclcpbpaaOpenRootW
namespace Go.Proofs.Ytkgeekjclcpbpaa
open Go.RowKit

attribute [local go_sem ↓] Go.wp_at_zero Go.wp_at_succ

theorem Tr.new_len {n d : Int} {ks : List Int} : (Tr.new n ks d).1.ks.length ≤ ks.length ∧ (Tr.new n ks d).1.ms.length ≤ ks.length := by
  unfold Tr.new
  split
  · exact ⟨Nat.le_refl _, Nat.zero_le _⟩
  · exact ⟨Nat.zero_le _, Nat.zero_le _⟩
/-- Trust in a box with rows of its own. -/
structure Go0 (B : Nat) (w : World) (g : Nat) (t : Tr.T) (kv mv : Value) : Prop where
  box : w.heap[g]? = some (.cells #[.int .i64 t.n, kv, .int .i64 t.d, .bool t.has, .int .i64 t.num, .int .i64 t.til, mv] 30 (0, 0))
  lo : B ≤ g
  ks : OwI B w kv t.ks
  ms : OwM B w mv t.ms
theorem Go0.later {B : Nat} {w w' : World} {g : Nat} {t : Tr.T} {kv mv : Value} (h : Go0 B w g t kv mv) (hb : Below w.heap.size w w') : Go0 B w' g t kv mv :=
  ⟨(hb.block g (heapLt h.box)).trans h.box, h.lo, own_later h.ks hb, own_later h.ms hb⟩
theorem Go0.fr {B : Nat} {N : Nat → Prop} {w w' : World} {g : Nat} {t : Tr.T} {kv mv : Value} (h : Go0 B w g t kv mv) (hf : Fr N w w') (hN : ∀ k, N k → k < B) : Go0 B w' g t kv mv :=
  ⟨(hf.block g (heapLt h.box) (fun hn => by have := hN g hn; have := h.lo; omega)).trans h.box, h.lo,
    hf.own h.ks (fun k hk hn => by have := hN k hn; have := (own_row h.ks k hk).1; omega), hf.own h.ms (fun k hk hn => by have := hN k hn; have := (own_row h.ms k hk).1; omega)⟩
theorem Go0.tb {B : Nat} {w : World} {g : Nat} {t : Tr.T} {kv mv : Value} (h : Go0 B w g t kv mv) (hk : t.ks.length ≤ 1048576) (hm : t.ms.length ≤ 1048576) : Tb w g t.n t.d kv t.ks t.has t.num t.til mv t.ms :=
  ⟨heapLt h.box, cellOf h.box 0, cellOf h.box 1, cellOf h.box 2, cellOf h.box 3, cellOf h.box 4, cellOf h.box 5, cellOf h.box 6, OwI.wide h.ks hk, Trs.own h.ms (by omega)⟩
theorem Go0.new {w W : World} {t : Tr.T} {kv mv : Value} (hk : OwI W.heap.size w kv t.ks) (hm : OwM W.heap.size w mv t.ms) (hs : W.heap.size ≤ w.heap.size) :
    Go0 W.heap.size (w.alloc (.cells #[.int .i64 t.n, kv, .int .i64 t.d, .bool t.has, .int .i64 t.num, .int .i64 t.til, mv] 30)) w.heap.size t kv mv :=
  ⟨heap_alloc_new _ _, hs, own_later hk (below1 _ _), own_later hm (below1 _ _)⟩
/-- The box stays where marks are laid into the rows. -/
theorem Go0.marked {B : Nat} {w w' : World} {g : Nat} {t : Tr.T} {kv mv : Value} (h : Go0 B w g t kv mv) (hf : Fr (fun j => kv.ownBlock = some j ∨ mv.ownBlock = some j) w w') :
    w'.heap[g]? = some (.cells #[.int .i64 t.n, kv, .int .i64 t.d, .bool t.has, .int .i64 t.num, .int .i64 t.til, mv] 30 (0, 0)) :=
  (hf.block g (heapLt h.box) (fun hn => hn.elim (fun e => own_ne h.ks h.box (by decide) e) (fun e => own_ne h.ms h.box (by decide) e))).trans h.box

set_option maxHeartbeats 8000000 in
set_option maxRecDepth 100000 in
theorem exactTrustNew_walk (w : World) (x : Int) (a : Option Addr) (n c : Nat) (y : Int) (hR : RowIn w a n c) :
    Calls Try.prog 7 #[.agg #[.int .i64 x, .slice a n c, .int .i64 y]] w fun e w' => e = .returned (.bool true) ∧ Below w.heap.size w w' := by
  obtain ⟨hn, P⟩ := hR
  obtain ⟨z0, x0, x1, x2⟩ := box3 w (.int .i64 x) (.slice a n c) (.int .i64 y) 48
  have H0 := hide (And.intro z0 (And.intro x0 (And.intro x1 (And.intro x2 (below1 w (.cells #[.int .i64 x, .slice a n c, .int .i64 y] 48))))))
  have HP := hide P
  clear z0 x0 x1 x2 P
  go_enter Try.func7, Try.ntmps7
  go_wp2_with fail
  refine (szRoot_any _ x y a n c 1048576 (by omega) (by omega) hn).mono ?_
  generalize w.alloc _ = W0 at *
  rintro e w1 ⟨b1, ⟨hm, r, rfl, r0, r1⟩ | rfl⟩
  rotate_left
  · have B1 : Hid (Below w.heap.size w w1) := (unhide H0).2.2.2.2.trans (b1.mono (unhide H0).2.2.2.2.size)
    clear H0 HP b1
    go_wp2
    go_ret
    exact ⟨rfl, unhide B1⟩
  obtain ⟨l, rfl, hi⟩ := (unhide HP) hm
  obtain ⟨z0, x0, x1, x2, b0⟩ := unhide H0
  have hlt : w.heap.size < W0.heap.size := by omega
  have X1 : Hid (Bx w1 w.heap.size x y (.slice a l.length c) l) := Bx.later ⟨hlt, x0, x1, x2, hi.later b0⟩ b1
  have B1 := hide (b0.trans (b1.mono b0.size))
  clear H0 HP z0 x0 x1 x2 b0 b1 hlt hi
  clear W0
  obtain ⟨hlk, hlm⟩ := Tr.new_len (n := x) (d := y) (ks := l)
  have CS := hide (fun (W : World) (v : Value) h => specTrustNew_any W x y v l h)
  have CI := hide (fun (W : World) (v : Value) h => implTrustNew_any W x y v l h)
  generalize Tr.new x l y = r at *
  obtain ⟨q, b⟩ := r
  dsimp only at hlk hlm
  have hqk : q.ks.length ≤ 1048576 := by omega
  have hqm : q.ms.length ≤ 1048576 := by omega
  have hbb : (b != b) = false := by simp
  clear hlk hlm
  obtain ⟨p0, p1, p2⟩ := (unhide X1).cells
  go_wp2_with fail
  refine (toRoot_any _ x y _ l (unhide X1).ins hm).mono ?_
  rintro e w2 ⟨g2, _, rfl, i2, b2⟩
  have I2 := hide i2
  have B2 := hide b2
  clear i2 b2 p0 p1 p2
  go_wp2_with fail
  refine (unhide CS _ _ (unhide I2)).mono ?_
  rintro e w3 ⟨kv3, mv3, rfl, ok3, om3, b3⟩
  obtain ⟨ka, kc, e1⟩ := own_formS ok3
  obtain ⟨ma, mc, e2⟩ := own_formS om3
  dsimp only at e1 e2 ok3 om3
  subst e1 e2
  dsimp only [tvT, tv]
  have b4 := below1 w3 (.cells #[.int .i64 q.n, .slice ka q.ks.length kc, .int .i64 q.d, .bool q.has, .int .i64 q.num, .int .i64 q.til, .slice ma q.ms.length mc] 30)
  have WT := hide (Go0.new ok3 om3 b3.size)
  have B4 := hide (((unhide B2).trans (b3.mono (unhide B2).size)).trans (b4.mono (Nat.le_trans (unhide B2).size b3.size)))
  have X4 := hide ((unhide X1).later (unhide B4))
  clear ok3 om3 b3 b4 I2 B2 CS
  obtain ⟨p0, p1, p2⟩ := (unhide X4).cells
  go_wp2_with fail
  refine (toRoot_fill _ x y _ l (unhide X4).ins hm).mono ?_
  generalize hW4 : w3.alloc (.cells #[.int .i64 q.n, .slice ka q.ks.length kc, .int .i64 q.d, .bool q.has, .int .i64 q.num, .int .i64 q.til, .slice ma q.ms.length mc] 30) = W4 at *
  clear hW4
  generalize w3.heap.size = Wb at *
  rintro e w5 ⟨g5, hg5, rfl, i5, b5⟩
  have hg5l : g5 < w5.heap.size := by obtain ⟨C, h, _⟩ := i5; exact heapLt h
  have hx6 := heap_alloc_new w5 (.cells #[.int .i64 x, .slice (some ⟨g5, 0, none⟩) l.length l.length, .int .i64 y] 25)
  have b6 := below1 w5 (.cells #[.int .i64 x, .slice (some ⟨g5, 0, none⟩) l.length l.length, .int .i64 y] 25)
  have I6 := hide (i5.later b6)
  have hz6 := sz1' w5 (.cells #[.int .i64 x, .slice (some ⟨g5, 0, none⟩) l.length l.length, .int .i64 y] 25)
  have B6 := hide (b5.trans (b6.mono b5.size))
  have HX6 := hide hx6
  have hs46 := b5.size
  clear i5 b5 b6 hx6 p0 p1 p2
  have hgap : g5 < (w5.alloc (.cells #[.int .i64 x, .slice (some ⟨g5, 0, none⟩) l.length l.length, .int .i64 y] 25)).heap.size := by omega
  have hgap2 : w5.heap.size < (w5.alloc (.cells #[.int .i64 x, .slice (some ⟨g5, 0, none⟩) l.length l.length, .int .i64 y] 25)).heap.size := by omega
  have HG := hide (And.intro hgap hgap2)
  clear hgap hgap2 hz6
  go_wp2_with fail
  refine (unhide CI _ _ ((unhide I6).ins hm)).mono ?_
  generalize hW6 : w5.alloc _ = W6 at *
  clear hW6
  generalize w5.heap.size = Xb at *
  clear w5
  rintro e w7 ⟨kv7, mv7, rfl, ok7, om7, b7⟩
  obtain ⟨ia, ic, e1⟩ := own_formS ok7
  obtain ⟨ja, jc, e2⟩ := own_formS om7
  dsimp only at e1 e2 ok7 om7
  subst e1 e2
  dsimp only [tvT, tv]
  have b8 := below1 w7 (.cells #[.int .i64 q.n, .slice ia q.ks.length ic, .int .i64 q.d, .bool q.has, .int .i64 q.num, .int .i64 q.til, .slice ja q.ms.length jc] 30)
  have G8 := hide (Go0.new ok7 om7 b7.size)
  have B8 := hide (b7.trans (b8.mono b7.size))
  have I8 := hide (((unhide I6).later b7).later b8)
  have HX8 := hide ((b8.block _ (Nat.lt_of_lt_of_le (unhide HG).2 b7.size)).trans ((b7.block _ (unhide HG).2).trans (unhide HX6)))
  have BW8 := hide ((unhide B6).trans ((unhide B8).mono (unhide B6).size))
  have W8 := hide ((unhide WT).later (unhide BW8))
  clear ok7 om7 b7 b8 I6 HX6 B8 B6
  obtain ⟨gg0, gg1, gg2, gg3, gg4, gg5, gg6⟩ := ((unhide G8).tb hqk hqm).cells
  obtain ⟨ww0, ww1, ww2, ww3, ww4, ww5, ww6⟩ := ((unhide W8).tb hqk hqm).cells
  have CE := hide (fun (W : World) h1 h2 h3 h4 => eqTrust_any W q (.slice ia q.ks.length ic) (.slice ja q.ms.length jc) (.slice ka q.ks.length kc) (.slice ma q.ms.length mc) h1 h2 h3 h4)
  dsimp only [tvT, tv] at CE
  go_wp2_with fail
  refine (unhide CE _ ((unhide G8).tb hqk hqm).ins ((unhide G8).tb hqk hqm).trs ((unhide W8).tb hqk hqm).ins ((unhide W8).tb hqk hqm).trs).mono ?_
  generalize hW8 : w7.alloc (.cells #[.int .i64 q.n, .slice ia q.ks.length ic, .int .i64 q.d, .bool q.has, .int .i64 q.num, .int .i64 q.til, .slice ja q.ms.length jc] 30) = W8w at *
  clear hW8
  generalize w7.heap.size = Gb at *
  rintro e w9 ⟨rfl, b9⟩
  have G9 := hide ((unhide G8).later b9)
  have I9 := hide ((unhide I8).later b9)
  have HX9 := hide ((b9.block _ (heapLt (unhide HX8))).trans (unhide HX8))
  have BW9 := hide ((unhide BW8).trans (b9.mono (unhide BW8).size))
  clear b9 G8 W8 I8 HX8 BW8 gg0 gg1 gg2 gg3 gg4 gg5 gg6 ww0 ww1 ww2 ww3 ww4 ww5 ww6
  have X9 : Hid (Bx w9 w.heap.size x y (.slice a l.length c) l) := (unhide X4).later (unhide BW9)
  have Y9 : Hid (Bx w9 Xb x y (.slice (some ⟨g5, 0, none⟩) l.length l.length) l) := ⟨heapLt (unhide HX9), cellOf (unhide HX9) 0, cellOf (unhide HX9) 1, cellOf (unhide HX9) 2, (unhide I9).ins hm⟩
  obtain ⟨p0, p1, p2⟩ := (unhide X9).cells
  obtain ⟨q0, q1, q2⟩ := (unhide Y9).cells
  go_wp2_with fail
  go_region_held3 (fun w' => (w'.cell? ⟨w.heap.size, 0, none⟩ = some (.int .i64 x) ∧ w'.cell? ⟨w.heap.size, 1, none⟩ = some (.slice a l.length c) ∧ w'.cell? ⟨w.heap.size, 2, none⟩ = some (.int .i64 y)) ∧ (w'.cell? ⟨Xb, 0, none⟩ = some (.int .i64 x) ∧ w'.cell? ⟨Xb, 1, none⟩ = some (.slice (some ⟨g5, 0, none⟩) l.length l.length) ∧ w'.cell? ⟨Xb, 2, none⟩ = some (.int .i64 y)))
    (first
      | (go_keep; done)
      | exact ⟨(unhide X11).cells, (unhide Y11).cells⟩
      | exact ⟨(unhide X10).cells, (unhide Y10).cells⟩
      | fail)
    (first
      | (go_at_call 22; refine (toRoot_any _ x y _ l (by exact (unhide X9).drew.ins) hm).mono ?_; rintro e w10 ⟨g10, _, rfl, i10, b10⟩; have X10 := hide ((unhide X9).drew.later b10); have Y10 := hide ((unhide Y9).drew.later b10))
      | (go_at_call 25; refine (eqRoot_any _ x y _ _ l (by exact (unhide Y10).ins) (by exact i10)).mono ?_; rintro e w11 ⟨rfl, b11⟩; have X11 := hide ((unhide X10).later b11); have Y11 := hide ((unhide Y10).later b11)))
  have bd : Below w9.heap.size w9 w11 := (below_drew w9).trans (b10.trans (b11.mono b10.size))
  have G11 := hide ((unhide G9).later bd)
  have I11 := hide ((unhide I9).later bd)
  have HX11 := hide ((bd.block _ (heapLt (unhide HX9))).trans (unhide HX9))
  have BW11 := hide ((unhide BW9).trans (bd.mono (unhide BW9).size))
  clear bd b10 b11 i10 p0 p1 p2 q0 q1 q2 X9 Y9 X10 Y10 X11 G9 I9 HX9 BW9
  obtain ⟨q0, q1, q2⟩ := (unhide Y11).cells
  go_wp2_with fail
  refine (markRoot_any _ x y _ l W4.heap.size 1 ((unhide I11).own hg5 hm) hm (by omega) (by omega)).mono ?_
  rintro e w12 ⟨rfl, _, f12⟩
  have hN12 : ∀ k, (Value.slice (some ⟨g5, 0, none⟩) l.length l.length).ownBlock = some k → k = g5 := fun k hk => by injection hk with hk; exact hk.symm
  have G12 := hide ((unhide G11).fr f12 (fun k hk => by have := hN12 k hk; have := (unhide HG).1; omega))
  have BW12 : Below W4.heap.size W4 w12 := (unhide BW11).trans ((f12.below (B := W4.heap.size) (unhide BW11).size (fun k hk => by have := hN12 k hk; omega)))
  have W12 := hide ((unhide WT).later BW12)
  have BW12' := hide BW12
  clear f12 hN12 BW12 G11 I11 HX11 BW11 Y11 q0 q1 q2
  have hk12 : ¬ (1 + (l.length : Int)) < 0 := by omega
  obtain ⟨gg0, gg1, gg2, gg3, gg4, gg5, gg6⟩ := ((unhide G12).tb hqk hqm).cells
  obtain ⟨ww0, ww1, ww2, ww3, ww4, ww5, ww6⟩ := ((unhide W12).tb hqk hqm).cells
  go_wp2_with fail
  refine (unhide CE _ ((unhide G12).tb hqk hqm).ins ((unhide G12).tb hqk hqm).trs ((unhide W12).tb hqk hqm).ins ((unhide W12).tb hqk hqm).trs).mono ?_
  rintro e w13 ⟨rfl, b13⟩
  have G13 := hide ((unhide G12).later b13)
  have BW13 := hide ((unhide BW12').trans (b13.mono (unhide BW12').size))
  clear b13 G12 W12 BW12' gg0 gg1 gg2 gg3 gg4 gg5 gg6 ww0 ww1 ww2 ww3 ww4 ww5 ww6 CE
  obtain ⟨gg0, gg1, gg2, gg3, gg4, gg5, gg6⟩ := ((unhide G13).tb hqk hqm).cells
  have CM := hide (fun (W : World) h1 h2 => markTrust_any W q (.slice ia q.ks.length ic) (.slice ja q.ms.length jc) W6.heap.size 1 h1 h2 hqk hqm (by omega) (by omega))
  have CH := hide (fun (W : World) h1 h2 => heldTrust_any W q (.slice ia q.ks.length ic) (.slice ja q.ms.length jc) W6.heap.size 1 h1 h2 hqk hqm (by omega) (by omega))
  dsimp only [tvT, tv] at CM CH
  have hs6 := (unhide HG).1
  go_wp2_with fail
  refine (unhide CM _ (unhide G13).ks (unhide G13).ms).mono ?_
  rintro e w14 ⟨rfl, mk14, mm14, f14⟩
  have BW14 : Below W4.heap.size W4 w14 := (unhide BW13).trans (f14.below (B := W4.heap.size) (unhide BW13).size (fun k hk => by
    rcases hk with hk | hk
    · have := (own_row (unhide G13).ks k hk).1; omega
    · have := (own_row (unhide G13).ms k hk).1; omega))
  have HB14 := hide ((unhide G13).marked f14)
  have BW14' := hide BW14
  have MK14 := hide (And.intro mk14 mm14)
  clear f14 mk14 mm14 BW14 G13 BW13 gg0 gg1 gg2 gg3 gg4 gg5 gg6 CM
  have hz1 : ¬ (1 + (q.ks.length : Int) + 3 * (q.ms.length : Int)) < 0 := by omega
  have hz2 : (1 + (q.ks.length : Int) + 3 * (q.ms.length : Int) != 1 + (q.ks.length : Int) + 3 * (q.ms.length : Int)) = false := by simp
  obtain ⟨gg0, gg1, gg2, gg3, gg4, gg5, gg6⟩ := box7 (unhide HB14)
  go_wp2_with fail
  refine (unhide CH _ (unhide MK14).1 (unhide MK14).2).mono ?_
  rintro e w15 ⟨rfl, b15⟩
  have HB15 := hide ((b15.block _ (heapLt (unhide HB14))).trans (unhide HB14))
  have BW15 := hide ((unhide BW14').trans (b15.mono (unhide BW14').size))
  have MK15 := hide (And.intro (own_later (unhide MK14).1 b15) (own_later (unhide MK14).2 b15))
  have X15 := hide ((unhide X4).later (unhide BW15))
  clear b15 HB14 BW14' MK14 gg0 gg1 gg2 gg3 gg4 gg5 gg6
  obtain ⟨p0, p1, p2⟩ := (unhide X15).cells
  go_wp2_with fail
  refine (toRoot_any _ x y _ l (unhide X15).ins hm).mono ?_
  rintro e w16 ⟨g16, _, rfl, i16, b16⟩
  have I16 := hide i16
  have B16 := hide b16
  clear i16 b16 p0 p1 p2 X15
  go_wp2_with fail
  refine (unhide CI _ _ (unhide I16)).mono ?_
  rintro e w17 ⟨kv17, mv17, rfl, ok17, om17, b17⟩
  obtain ⟨sa, sc, e1⟩ := own_formS ok17
  obtain ⟨ta, tc, e2⟩ := own_formS om17
  dsimp only at e1 e2 ok17 om17
  subst e1 e2
  dsimp only [tvT, tv]
  have b18 := below1 w17 (.cells #[.int .i64 q.n, .slice sa q.ks.length sc, .int .i64 q.d, .bool q.has, .int .i64 q.num, .int .i64 q.til, .slice ta q.ms.length tc] 30)
  have H18 := hide (Go0.new ok17 om17 b17.size)
  have bb := (unhide B16).trans ((b17.mono (unhide B16).size).trans (b18.mono (Nat.le_trans (unhide B16).size b17.size)))
  have HB18 := hide ((bb.block _ (heapLt (unhide HB15))).trans (unhide HB15))
  have BW18 := hide ((unhide BW15).trans (bb.mono (unhide BW15).size))
  have MK18 := hide (And.intro (own_later (unhide MK15).1 bb) (own_later (unhide MK15).2 bb))
  have W18 := hide ((unhide WT).later (unhide BW18))
  clear ok17 om17 b17 b18 bb B16 I16 HB15 BW15 MK15
  obtain ⟨gg0, gg1, gg2, gg3, gg4, gg5, gg6⟩ := ((unhide H18).tb hqk hqm).cells
  obtain ⟨ww0, ww1, ww2, ww3, ww4, ww5, ww6⟩ := ((unhide W18).tb hqk hqm).cells
  have CE := hide (fun (W : World) h1 h2 h3 h4 => eqTrust_any W q (.slice sa q.ks.length sc) (.slice ta q.ms.length tc) (.slice ka q.ks.length kc) (.slice ma q.ms.length mc) h1 h2 h3 h4)
  dsimp only [tvT, tv] at CE
  go_wp2_with fail
  refine (unhide CE _ ((unhide H18).tb hqk hqm).ins ((unhide H18).tb hqk hqm).trs ((unhide W18).tb hqk hqm).ins ((unhide W18).tb hqk hqm).trs).mono ?_
  generalize hW18 : w17.alloc (.cells #[.int .i64 q.n, .slice sa q.ks.length sc, .int .i64 q.d, .bool q.has, .int .i64 q.num, .int .i64 q.til, .slice ta q.ms.length tc] 30) = W18w at *
  clear hW18
  rintro e w19 ⟨rfl, b19⟩
  have HB19 := hide ((b19.block _ (heapLt (unhide HB18))).trans (unhide HB18))
  have BW19 := hide ((unhide BW18).trans (b19.mono (unhide BW18).size))
  have MK19 := hide (And.intro (own_later (unhide MK18).1 b19) (own_later (unhide MK18).2 b19))
  clear b19 HB18 BW18 MK18 H18 W18 gg0 gg1 gg2 gg3 gg4 gg5 gg6 ww0 ww1 ww2 ww3 ww4 ww5 ww6 CE
  obtain ⟨gg0, gg1, gg2, gg3, gg4, gg5, gg6⟩ := box7 (unhide HB19)
  go_wp2_with fail
  refine (unhide CH _ (unhide MK19).1 (unhide MK19).2).mono ?_
  rintro e w20 ⟨rfl, b20⟩
  have BW20 := (unhide BW19).trans (b20.mono (unhide BW19).size)
  have BA20 := (unhide B4).trans (BW20.mono (unhide B4).size)
  have B20 := hide ((unhide B1).trans (BA20.mono (unhide B1).size))
  clear b20 BW20 BA20 gg0 gg1 gg2 gg3 gg4 gg5 gg6
  go_wp2
  go_ret
  exact ⟨rfl, unhide B20⟩
end Go.Proofs.Ytkgeekjclcpbpaa
