import Derived.Test.YtpjpgofllnnemaaDoorMix8
import Derived.Test.YtpjpgofllnnemaaDoorMix1
import Derived.Deep.RegionHeld3
/- What impl.PlanFiles returns: what is at each place; for every row of packages that can be read. -/
namespace Go.Proofs.YtpjpgofllnnemaaDoor
open Go.RowKit

attribute [local go_sem ↓] Go.wp_at_zero Go.wp_at_succ

def Ix.putF (a : List Int) (fs : List (Int × Int)) : List Int := fs.foldl (fun a f => a.set f.1.toNat f.2) a
def Ix.filesTo (l : List Ix.Pg) (k : Nat) : List Int := (l.take k).foldl (fun a p => Ix.putF a p.2.2.1) (List.replicate 6 (-1))
def Ix.planFiles (l : List Ix.Pg) : List Int := if Ix.planOk l = true then Ix.filesTo l l.length else []
theorem Ix.putF_len (fs : List (Int × Int)) : ∀ a : List Int, (Ix.putF a fs).length = a.length := by
  unfold Ix.putF
  induction fs with
  | nil => intro a; rfl
  | cons f fs ih => intro a; rw [List.foldl_cons, ih, List.length_set]
theorem Ix.filesTo_succ {l : List Ix.Pg} {k : Nat} (hk : k < l.length) : Ix.filesTo l (k + 1) = Ix.putF (Ix.filesTo l k) (Ix.pg l k).2.2.1 := by
  unfold Ix.filesTo
  rw [Ix.take_pgs hk, List.foldl_append]
  rfl
theorem Ix.filesTo_len (l : List Ix.Pg) : ∀ k, k ≤ l.length → (Ix.filesTo l k).length = 6
  | 0, _ => rfl
  | k + 1, hk => by rw [Ix.filesTo_succ hk, Ix.putF_len, Ix.filesTo_len l k (by omega)]
theorem Ix.putF_succ {fs : List (Int × Int)} {m : Nat} (hm : m < fs.length) (a : List Int) : Ix.putF a (fs.take (m + 1)) = (Ix.putF a (fs.take m)).set (Pk.fst fs m).toNat (Pk.snd fs m) := by
  unfold Ix.putF
  rw [List.take_add_one, (Ix.pair_mem hm).2, List.foldl_append]
  rfl
/-- A block of numbers. -/
def IntB (w : World) (g : Nat) (a : List Int) : Prop := w.heap[g]? = some (.cells (a.map (Value.int .i64)).toArray 3 (0, 0))
theorem IntB.keep {w w' : World} {g : Nat} {a : List Int} (h : IntB w g a) (hb : w'.heap[g]? = w.heap[g]?) : IntB w' g a := hb.trans h
theorem IntB.lt {w : World} {g : Nat} {a : List Int} (h : IntB w g a) : g < w.heap.size := heapLt h
theorem IntB.later {w w' : World} {g : Nat} {a : List Int} (h : IntB w g a) (hb : Below w.heap.size w w') : IntB w' g a := h.keep (hb.block g h.lt)
theorem IntB.set {w : World} {g i : Nat} {a : List Int} {x : Int} (h : IntB w g a) : IntB (w.setCell ⟨g, i, none⟩ (.int .i64 x)) g (a.set i x) := by
  unfold IntB at *
  rw [heapSet h]
  congr 2
  apply Array.ext'
  rw [Array.toList_setIfInBounds, List.toList_toArray, List.map_set]
theorem IntB.cell {w : World} {g i : Nat} {a : List Int} (h : IntB w g a) (hi : i < a.length) : ∃ x, w.cell? ⟨g, i, none⟩ = some (.int .i64 x) ∧ w.frozen? ⟨g, i, none⟩ = false := by
  refine ⟨a[i], ?_, frozenOf h i⟩
  rw [cellOf h, List.getElem?_toArray, List.getElem?_map, List.getElem?_eq_getElem hi]
  rfl
theorem IntB.own {w : World} {g B : Nat} {a : List Int} (h : IntB w g a) (hB : B ≤ g) (hl : a.length ≤ 1000000) : OwI B w (.slice (some ⟨g, 0, none⟩) a.length a.length) a := by
  refine ⟨by rw [List.length_map, Nat.mul_one], .inr ⟨g, a.length, _, rfl, hB, h, Nat.le_refl _, by unfold maxLen; omega, ?_, ?_⟩⟩
  · rw [List.size_toArray, List.length_map, Nat.mul_one]
  · rw [List.toList_toArray, Nat.mul_one, List.take_of_length_le (by rw [List.length_map]; exact Nat.le_refl _)]
theorem Neg.intB {w : World} {g : Nat} (h : Neg w g 6) : IntB w g (List.replicate 6 (-1)) := by
  obtain ⟨C, h1, h2, h3⟩ := h
  refine h1.trans ?_
  congr 2
  apply Array.ext'
  apply List.ext_getElem?
  intro j
  rw [List.toList_toArray, List.getElem?_map, Array.getElem?_toList]
  rcases Nat.lt_or_ge j 6 with hj | hj
  · rw [h3 j hj, List.getElem?_replicate, if_pos hj]
    rfl
  · rw [Array.getElem?_eq_none (by omega), List.getElem?_replicate, if_neg (by omega)]
    rfl

set_option maxHeartbeats 8000000 in
set_option maxRecDepth 100000 in
theorem implPlanFiles_any {N : Nat → Prop} (w : World) (v : Value) (l : List Ix.Pg) (h : Pks N w v l) (hroom : ∀ a c, v = .slice a l.length c → l.length ≤ c) :
    Calls Tryd.prog 12 #[v] w fun e w' => ∃ u, e = .returned u ∧ OwI w.heap.size w' u (Ix.planFiles l) ∧ Below w.heap.size w w' := by
  have HP := hide h
  have HR := hide hroom
  clear hroom
  obtain ⟨a, cap, rfl, hlen, hrow⟩ := h
  go_enter Tryd.func12, Tryd.ntmps12
  go_wp2_with fail
  refine (implPlanOk_any _ _ l (unhide HP) (unhide HR)).mono ?_
  rintro e w1 ⟨rfl, b1⟩
  have B1 := hide b1
  clear b1
  cases hk : Ix.planOk l
  · go_wp2
    go_ret
    exact ⟨_, rfl, by unfold Ix.planFiles; rw [if_neg (by rw [hk]; simp)]; exact World.ownsRow_nil _ _ _ _, unhide B1⟩
  have HOK := hide (Ix.planOk_pkgs hk)
  have hpf : Ix.planFiles l = Ix.filesTo l l.length := by unfold Ix.planFiles; rw [if_pos hk]
  have HPF := hide hpf
  clear hk hpf
  have hg0 := heap_alloc_new w1 (.cells #[.int .i64 (-1)] 3)
  have b2 := below1 w1 (.cells #[.int .i64 (-1)] 3)
  have HB2 := hide ((unhide B1).trans (b2.mono (unhide B1).size))
  have CR := hide (repeat6_any _ _ hg0)
  clear hg0 b2
  go_wp2_with fail
  refine (unhide CR).mono ?_
  generalize w1.alloc _ = W2 at *
  rintro e w3 ⟨rfl, hneg, b3⟩
  have HI3 := hide hneg.intB
  have HB3 := hide ((unhide HB2).trans (b3.mono (unhide HB2).size))
  have hhw := (unhide HB2).size
  clear hneg b3 CR
  generalize W2.heap.size = H at *
  clear HB2
  clear W2
  go_wp2_with fail
  go_loopw [15] (fun i w' => ∃ k : Nat, k ≤ l.length ∧ i = .int .i64 k ∧ IntB w' H (Ix.filesTo l k) ∧ Below w.heap.size w w') (fun i _ => l.length - (intOf i).toNat)
  case atStart => exact ⟨0, Nat.zero_le _, rfl, unhide HI3, unhide HB3⟩
  case round =>
    clear HI3 HB3
    obtain ⟨k, hk, rfl, hI, hw⟩ := hrel
    have HI := hide hI
    have HW := hide hw
    clear hI hw
    by_cases hlt : k < l.length
    · obtain ⟨b, off, rfl, hb, _, hc⟩ := hrow (by omega)
      obtain ⟨fv, dv, hAt, hf, hd⟩ := hc k hlt
      clear hc hrow
      have hfo := Ix.pOk_file (Ix.pkgs_pOk (unhide HOK) hlt)
      have hfs := Ix.filesTo_succ hlt
      have hf6 := Ix.filesTo_len l k hk
      obtain ⟨nm, vr, fs, ds, hpk⟩ : ∃ nm vr fs ds, Ix.pg l k = (nm, vr, fs, ds) := ⟨_, _, _, _, rfl⟩
      rw [hpk] at hAt hf hd hfo hfs
      dsimp only at hf hd hfo hfs
      have HFS := hide hfs
      have HFO := hide hfo
      obtain ⟨da, dc, hdv⟩ := hd.slice
      obtain ⟨fa, fc, hfv, _, hfr⟩ := hf
      subst hfv hdv
      obtain ⟨c0, c1, c2, c3⟩ := hAt.keep ((unhide HW).block b hb)
      dsimp only at c0 c1
      have hb' : b < wr.heap.size := Nat.lt_of_lt_of_le hb (unhide HW).size
      have hi0 : (0 : Int) ≤ (k : Int) := Int.natCast_nonneg _
      have hi1 : (k : Int) < (l.length : Int) := by omega
      have er : IntKind.i64.wrap ((k : Int) + 1) = (k : Int) + 1 := by simp [IntKind.wrap, IntKind.bits, IntKind.signed]; omega
      have bP := below1 wr (.cells #[.int .i64 nm, .int .i64 vr, .slice fa fs.length fc, .slice da ds.length dc] 56)
      have HI1 := hide ((unhide HI).later bP)
      have HW1 := hide ((unhide HW).trans (bP.mono (unhide HW).size))
      clear hAt hd hpk hfs hfo bP HI
      go_wp2_with fail
      generalize wr.alloc _ = W1 at *
      clear c0 c1 c2 c3 hb'
      generalize Ix.filesTo l k = A at *
      go_loopw [22] (fun jv w' => ∃ m : Nat, m ≤ fs.length ∧ jv = .int .i64 m ∧ IntB w' H (Ix.putF A (fs.take m)) ∧ Below w.heap.size w w') (fun jv _ => fs.length - (intOf jv).toNat)
      case atStart => exact ⟨0, Nat.zero_le _, rfl, unhide HI1, unhide HW1⟩
      case round =>
        clear HI1 HW1
        obtain ⟨m, hm, rfl, hI, hw⟩ := hrel
        have HI := hide hI
        have HW := hide hw
        clear hI hw
        by_cases hlt2 : m < fs.length
        · obtain ⟨fb, fof, rfl, hfb, _, hfc⟩ := hfr (by omega)
          obtain ⟨d0, d1⟩ := hfc m hlt2
          rw [← (unhide HW).cell hfb] at d0 d1
          have hfb' : fb < wr.heap.size := Nat.lt_of_lt_of_le hfb (unhide HW).size
          have hj0 : (0 : Int) ≤ (m : Int) := Int.natCast_nonneg _
          have hj1 : (m : Int) < (fs.length : Int) := by omega
          have er2 : IntKind.i64.wrap ((m : Int) + 1) = (m : Int) + 1 := by simp [IntKind.wrap, IntKind.bits, IntKind.signed]; omega
          have hbd := (unhide HFO m hlt2).1
          have hps := Ix.putF_succ hlt2 A
          have hpl := Ix.putF_len (fs.take m) A
          obtain ⟨xn, hxn⟩ := Int.eq_ofNat_of_zero_le hbd.1
          rw [hxn] at d0 hbd hps
          rw [Int.toNat_natCast] at hps
          have HPS := hide hps
          have hx6 : xn < 6 := by omega
          have hx0 : (0 : Int) ≤ (xn : Int) := Int.natCast_nonneg _
          have hx1 : (xn : Int) < 6 := by omega
          clear hfc hfr hxn hps
          generalize Pk.snd fs m = y at *
          generalize Ix.putF A (fs.take m) = A2 at *
          have bF := below1 wr (.cells #[.int .i64 (xn : Int), .int .i64 y] 58)
          have hI2 := (unhide HI).later bF
          obtain ⟨z, q0, q1⟩ := hI2.cell (i := xn) (by omega)
          have HI2 := hide (hI2.set (i := xn) (x := y))
          have HW2 := hide (below_set (o := xn) (u := .int .i64 y) ((unhide HW).trans (bF.mono (unhide HW).size)) hhw)
          have hHl := hI2.lt
          clear hI2 bF HI
          go_wp2
          go_roundw
          case rel => exact ⟨m + 1, by omega, by go_num, by rw [unhide HPS]; exact unhide HI2, unhide HW2⟩
          case measure => simp [intOf]; omega
        · obtain rfl : m = fs.length := by omega
          rw [List.take_length] at HI
          clear hlt2 hfr
          go_wp2
          go_roundw
          case rel => exact ⟨k + 1, by omega, by go_num, by rw [unhide HFS]; exact unhide HI, unhide HW⟩
          case measure => simp [intOf]; omega
    · obtain rfl : k = l.length := by omega
      have h6 := Ix.filesTo_len l l.length (Nat.le_refl _)
      clear hlt hrow
      have hO := (unhide HI).own hhw (by omega)
      rw [← unhide HPF] at hO
      have hl6 : (Ix.planFiles l).length = 6 := by rw [unhide HPF]; exact h6
      have hO2 : OwI w.heap.size wr (.slice (some ⟨H, 0, none⟩) 6 6) (Ix.planFiles l) := by rw [hl6] at hO; exact hO
      have HO := hide hO2
      clear hO hO2 h6 hl6
      go_wp2
      go_ret
      exact ⟨_, rfl, unhide HO, unhide HW⟩
end Go.Proofs.YtpjpgofllnnemaaDoor

/- Laws on regions that draw their order and end in one store that waits for all else: what holds ahead of that store serves all that come up ahead of it. -/
namespace Go.Proofs.YtpjpgofllnnemaaDoor
section
variable {P : Program} {ops : Array Oper} {Q : Exit → Act → World → Prop} {md : Region.Mode} {S : World → Prop} {s : Nat}

/-- Whatever comes up from here on; S holds behind each but number s. -/
def AnyL (P : Program) (md : Region.Mode) (ops : Array Oper) (Q : Exit → Act → World → Prop) (S : World → Prop) (s : Nat) : Nat → Array Bool → Act → World → Prop
  | 0, L, a, w => Region.ready md ops L = [] ∧ Q .normal a w
  | n + 1, L, a, w => (Region.ready md ops L = [] → Q .normal a w) ∧ ∀ i ∈ Region.ready md ops L, wpOp P ops Q i (fun a' w' => (i ≠ s → S w') ∧ AnyL P md ops Q S s n (L.setIfInBounds i true) a' w') a w
theorem AnyL.any : ∀ (n : Nat) (L : Array Bool) (a : Act) (w : World), AnyL P md ops Q S s n L a w → wpAny P md ops Q n L a w
  | 0, _, _, _, h => h
  | n + 1, _, _, _, h => ⟨h.1, fun i hi => wpOp_mono (fun a' w' h' => AnyL.any n _ a' w' h'.2) (h.2 i hi)⟩

/-- What has come up has all behind it for which it waited. -/
def Down (md : Region.Mode) (ops : Array Oper) (L : Array Bool) : Prop := ∀ (k : Nat) (o : Oper), ops[k]? = some o → L.getD k false = true → ∀ e ∈ o.after, Region.binds md e = true → L.getD e.on false = true
/-- Number y waits, by steps, for number i. -/
def reachB (md : Region.Mode) (ops : Array Oper) (i : Nat) : Nat → Nat → Bool
  | 0, _ => false
  | n + 1, y => match ops[y]? with
    | some o => o.after.any fun e => Region.binds md e && (e.on == i || reachB md ops i n e.on)
    | none => false
theorem reach {L : Array Bool} (hd : Down md ops L) {i : Nat} : ∀ (n y : Nat) (o : Oper), ops[y]? = some o → reachB md ops i n y = true → (∀ e ∈ o.after, Region.binds md e = true → L.getD e.on false = true) → L.getD i false = true
  | 0, _, _, _, h, _ => by cases h
  | n + 1, y, o, ho, h, he => by
    unfold reachB at h
    rw [ho] at h
    simp only [Array.any_eq_true'] at h
    obtain ⟨e, hm, h⟩ := h
    rw [Bool.and_eq_true, Bool.or_eq_true] at h
    obtain ⟨hb, h | h⟩ := h
    · have : e.on = i := by simpa using h
      rw [← this]
      exact he e hm hb
    · have h1 := he e hm hb
      cases ho' : ops[e.on]? with
      | none =>
        cases n with
        | zero => cases h
        | succ n => unfold reachB at h; rw [ho'] at h; cases h
      | some o' => exact reach hd n e.on o' ho' h (fun e' hm' hb' => hd e.on o' ho' h1 e' hm' hb')
/-- Number s does not come up ahead of number i. -/
theorem not_last {L : Array Bool} (hd : Down md ops L) {i n : Nat} (hr : reachB md ops i n s = true) (hi : L.getD i true = false) : s ∉ Region.ready md ops L := by
  intro h
  obtain ⟨_, o, ho, hall⟩ := mem_ready.1 h
  have := reach hd n s o ho hr hall
  rcases Nat.lt_or_ge i L.size with h' | h'
  · simp [h'] at hi this; rw [hi] at this; cases this
  · simp [Array.getElem?_eq_none h'] at hi
theorem Down.step {L : Array Bool} (hd : Down md ops L) {j : Nat} (hj : j ∈ Region.ready md ops L) : Down md ops (L.setIfInBounds j true) := by
  intro k o ho hk e he hb
  by_cases hjk : j = k
  · subst hjk
    obtain ⟨_, o', ho', hall⟩ := mem_ready.1 hj
    rw [ho] at ho'
    injection ho' with ho'
    subst ho'
    exact getD_set_true (hall e he hb)
  · exact getD_set_true (hd k o ho (by rw [getD_set_ne false hjk] at hk; exact hk) e he hb)

/-- A number that may come up, and whose value is the same in all worlds that meet S, comes up first. -/
theorem AnyL.first {i : Nat} {oi : Oper} {v : Value} {m : Nat} (hi : ops[i]? = some oi) (hsel : ∀ (j : Nat) (o : Oper) cs b, ops[j]? = some o → o.op ≠ .select cs b)
    (hQ : ∀ c a w, Q (.panic c) (a.put oi.dst v) w → Q (.panic c) a w) (hr : reachB md ops i m s = true) :
    ∀ (n : Nat) (L : Array Bool) (a : Act) (w : World), Down md ops L →
      (∀ j oj, ops[j]? = some oj → j ≠ i → L.getD j true = false → (∀ e ∈ oj.after, Region.binds md e = true → e.on ≠ i) → oi.apart ops oj = true) →
      i ∈ Region.ready md ops L → YieldsIf P ops S oi v a → S w → AnyL P md ops Q S s n (L.setIfInBounds i true) (a.put oi.dst v) w → AnyL P md ops Q S s (n + 1) L a w := by
  intro n
  induction n with
  | zero =>
    intro L a w _ _ hir hy hS H
    refine ⟨fun h => (by rw [h] at hir; cases hir), fun j hj => ?_⟩
    rcases Nat.decEq j i with hji | hji
    · have := ready_mono hj hji
      rw [H.1] at this
      cases this
    · subst hji
      exact hy.wpOp hi hS ⟨fun _ => hS, H⟩
  | succ n ih =>
    intro L a w hd hfree hir hy hS H
    refine ⟨fun h => (by rw [h] at hir; cases hir), fun j hj => ?_⟩
    rcases Nat.decEq j i with hji | hji
    · have hjs : j ≠ s := fun e => not_last hd hr (mem_ready.1 hir).1 (e ▸ hj)
      obtain ⟨hjun, oj, hoj, hall⟩ := mem_ready.1 hj
      have hnot : ∀ e ∈ oj.after, Region.binds md e = true → e.on ≠ i := fun e he hb heq => by
        have h1 := hall e he hb
        have h0 := (mem_ready.1 hir).1
        rw [heq] at h1
        rcases Nat.lt_or_ge i L.size with h' | h'
        · simp [h'] at h0 h1; rw [h0] at h1; cases h1
        · simp [Array.getElem?_eq_none h'] at h1
      refine wpOp_mono (fun a' w' h3 => ?_) (wpOp_putIf hoj (hfree j oj hoj hji hjun hnot) (fun cs b => hsel i oi cs b hi) (fun cs b => hsel j oj cs b hoj) hQ hy (H.2 j (ready_mono hj hji)))
      have hS' := h3.2.1 hjs
      refine ⟨fun _ => hS', ih _ a' w' (hd.step hj) (fun k ok hk hki hun hno => hfree k ok hk hki ?_ hno) (ready_mono hir (Ne.symm hji)) h3.1 hS' ?_⟩
      · rcases Nat.decEq j k with hjk | hjk
        · rw [getD_set_ne true hjk] at hun; exact hun
        · subst hjk; exact hjun
      · rw [Array.setIfInBounds_comm _ _ hji]
        exact h3.2.2
    · subst hji
      exact hy.wpOp hi hS ⟨fun _ => hS, H⟩

/-- The walk, shut (so that nobody unfolds it). -/
structure WL (P : Program) (ops : Array Oper) (Q : Exit → Act → World → Prop) (S : World → Prop) (s n : Nat) (L : Array Bool) (a : Act) (w : World) : Prop where
  out : AnyL P .any ops Q S s n L a w
def downB (ops : Array Oper) (L : Array Bool) : Bool := (List.range ops.size).all fun k => !L.getD k false || (match ops[k]? with
  | some o => o.after.all fun e => !Region.binds .any e || L.getD e.on false
  | none => true)
theorem down_of {L : Array Bool} (h : downB ops L = true) : Down .any ops L := by
  intro k o ho hk e he hb
  unfold downB at h
  rw [List.all_eq_true] at h
  have hlt : k < ops.size := by
    rcases Nat.lt_or_ge k ops.size with h1 | h1
    · exact h1
    · rw [Array.getElem?_eq_none h1] at ho; cases ho
  have := h k (List.mem_range.2 hlt)
  rw [hk, ho] at this
  simp only [Bool.not_true, Bool.false_or] at this
  rw [Array.all_eq_true'] at this
  have := this e he
  rw [hb] at this
  simpa using this
variable {a : Act} {w : World} {n : Nat} {L : Array Bool}
theorem wl_take {i : Nat} {oi : Oper} {v : Value} {d : Option Tmp} (hi : ops[i]? = some oi) (hd : oi.dst = d) (hs : Region.noSelect ops = true) (hf : Region.free .any ops L i = true) (hr : (Region.ready .any ops L).contains i = true)
    (hw : downB ops L = true) (hre : reachB .any ops i ops.size s = true) (hQ : ∀ c a w, Q (.panic c) (a.put oi.dst v) w → Q (.panic c) a w) (hwn : Region.wanted oi (yielded ops a.tmps) = true) (hy : ∀ w, S w → (execOp a.eval oi).run P w = .ok (.value v) w) (hS : S w)
    (h : WL P ops Q S s n (L.setIfInBounds i true) (a.put d v) w) : WL P ops Q S s (n + 1) L a w := by
  subst hd
  exact ⟨AnyL.first hi (Region.noSelect_spec hs) hQ hre n L a w (down_of hw) (Region.free_spec hi hf) (by simpa using hr) (.inl ⟨hwn, hy⟩) hS h.out⟩
theorem wl_one {i : Nat} {o : Oper} (hr : Region.ready .any ops L = [i]) (ho : ops[i]? = some o) (hwn : Region.wanted o (yielded ops a.tmps) = true)
    (h : ∀ K : Act → World → Prop, Shut (∀ a w, (i ≠ s → S w) → WL P ops Q S s n (L.setIfInBounds i true) a w → K a w) → Oper.wp P o a w K Q) : WL P ops Q S s (n + 1) L a w := by
  refine ⟨⟨fun h0 => (by rw [hr] at h0; cases h0), fun j hj => ?_⟩⟩
  rw [hr] at hj
  obtain rfl : j = i := by simpa using hj
  refine wpOp_step ho (fun K' hK => ?_)
  rw [if_pos hwn]
  exact h K' (fun a w hS hW => hK a w ⟨hS, hW.out⟩)
theorem wl_done (hr : Region.ready .any ops L = []) (h : Q .normal a w) : WL P ops Q S s n L a w := by
  cases n with
  | zero => exact ⟨⟨hr, h⟩⟩
  | succ n => exact ⟨⟨fun _ => h, fun i hi => by rw [hr] at hi; cases hi⟩⟩
theorem wl_region {id : Nat} (hm : P.follows .mixedOrders = true) (hS : S w.drew) (h : S w.drew → WL P ops Q S s ops.size (Array.replicate ops.size false) a w.drew) : (Code.region id ops true).wp P Q a w :=
  wp_region_any hm (AnyL.any _ _ _ _ (h hS).out)
end
end Go.Proofs.YtpjpgofllnnemaaDoor
