import Derived.Test.YtkhanndmbpemfaaGreatDoorMix1
import Derived.Deep.RegionHeld3
import Derived.Test.YtkhanndmbpemfaaGreatDoorMix8
/- Laws on regions that draw their order and end in one store that waits for all else: what holds ahead of that store serves all that come up ahead of it. -/
namespace Go.Proofs.YtkhanndmbpemfaaGreatDoor
section
variable {P : Program} {ops : Array Oper} {Q : Exit → Act → World → Prop} {md : Region.Mode} {S : World → Prop} {s : Nat}

/-- Whatever comes up from here on; S holds behind each but number s. -/
def AnyL (P : Program) (md : Region.Mode) (ops : Array Oper) (Q : Exit → Act → World → Prop) (S : World → Prop) (s : Nat) : Nat → Array Bool → Act → World → Prop
  | 0, L, a, w => Region.ready md ops L = [] ∧ Q .normal a w
  | n + 1, L, a, w => (Region.ready md ops L = [] → Q .normal a w) ∧ ∀ i ∈ Region.ready md ops L, wpOp P ops Q i (fun a' w' => (i ≠ s → S w') ∧ AnyL P md ops Q S s n (L.setIfInBounds i true) a' w') a w
theorem AnyL.any : ∀ (n : Nat) (L : Array Bool) (a : Act) (w : World), AnyL P md ops Q S s n L a w → wpAny P md ops Q n L a w
  | 0, _, _, _, h => h
  | n + 1, _, _, _, h => ⟨h.1, fun i hi => wpOp_mono (fun a' w' h' => AnyL.any n _ a' w' h'.2) (h.2 i hi)⟩

/-- What has come up has all behind it for which it waited. -/
def Down (md : Region.Mode) (ops : Array Oper) (L : Array Bool) : Prop := ∀ (k : Nat) (o : Oper), ops[k]? = some o → L.getD k false = true → ∀ e ∈ o.after, Region.binds md e = true → L.getD e.on false = true
/-- Number y waits, by steps, for number i. -/
def reachB (md : Region.Mode) (ops : Array Oper) (i : Nat) : Nat → Nat → Bool
  | 0, _ => false
  | n + 1, y => match ops[y]? with
    | some o => o.after.any fun e => Region.binds md e && (e.on == i || reachB md ops i n e.on)
    | none => false
theorem reach {L : Array Bool} (hd : Down md ops L) {i : Nat} : ∀ (n y : Nat) (o : Oper), ops[y]? = some o → reachB md ops i n y = true → (∀ e ∈ o.after, Region.binds md e = true → L.getD e.on false = true) → L.getD i false = true
  | 0, _, _, _, h, _ => by cases h
  | n + 1, y, o, ho, h, he => by
    unfold reachB at h
    rw [ho] at h
    simp only [Array.any_eq_true'] at h
    obtain ⟨e, hm, h⟩ := h
    rw [Bool.and_eq_true, Bool.or_eq_true] at h
    obtain ⟨hb, h | h⟩ := h
    · have : e.on = i := by simpa using h
      rw [← this]
      exact he e hm hb
    · have h1 := he e hm hb
      cases ho' : ops[e.on]? with
      | none =>
        cases n with
        | zero => cases h
        | succ n => unfold reachB at h; rw [ho'] at h; cases h
      | some o' => exact reach hd n e.on o' ho' h (fun e' hm' hb' => hd e.on o' ho' h1 e' hm' hb')
/-- Number s does not come up ahead of number i. -/
theorem not_last {L : Array Bool} (hd : Down md ops L) {i n : Nat} (hr : reachB md ops i n s = true) (hi : L.getD i true = false) : s ∉ Region.ready md ops L := by
  intro h
  obtain ⟨_, o, ho, hall⟩ := mem_ready.1 h
  have := reach hd n s o ho hr hall
  rcases Nat.lt_or_ge i L.size with h' | h'
  · simp [h'] at hi this; rw [hi] at this; cases this
  · simp [Array.getElem?_eq_none h'] at hi
theorem Down.step {L : Array Bool} (hd : Down md ops L) {j : Nat} (hj : j ∈ Region.ready md ops L) : Down md ops (L.setIfInBounds j true) := by
  intro k o ho hk e he hb
  by_cases hjk : j = k
  · subst hjk
    obtain ⟨_, o', ho', hall⟩ := mem_ready.1 hj
    rw [ho] at ho'
    injection ho' with ho'
    subst ho'
    exact getD_set_true (hall e he hb)
  · exact getD_set_true (hd k o ho (by rw [getD_set_ne false hjk] at hk; exact hk) e he hb)

/-- A number that may come up, and whose value is the same in all worlds that meet S, comes up first. -/
theorem AnyL.first {i : Nat} {oi : Oper} {v : Value} {m : Nat} (hi : ops[i]? = some oi) (hsel : ∀ (j : Nat) (o : Oper) cs b, ops[j]? = some o → o.op ≠ .select cs b)
    (hQ : ∀ c a w, Q (.panic c) (a.put oi.dst v) w → Q (.panic c) a w) (hr : reachB md ops i m s = true) :
    ∀ (n : Nat) (L : Array Bool) (a : Act) (w : World), Down md ops L →
      (∀ j oj, ops[j]? = some oj → j ≠ i → L.getD j true = false → (∀ e ∈ oj.after, Region.binds md e = true → e.on ≠ i) → oi.apart ops oj = true) →
      i ∈ Region.ready md ops L → YieldsIf P ops S oi v a → S w → AnyL P md ops Q S s n (L.setIfInBounds i true) (a.put oi.dst v) w → AnyL P md ops Q S s (n + 1) L a w := by
  intro n
  induction n with
  | zero =>
    intro L a w _ _ hir hy hS H
    refine ⟨fun h => (by rw [h] at hir; cases hir), fun j hj => ?_⟩
    rcases Nat.decEq j i with hji | hji
    · have := ready_mono hj hji
      rw [H.1] at this
      cases this
    · subst hji
      exact hy.wpOp hi hS ⟨fun _ => hS, H⟩
  | succ n ih =>
    intro L a w hd hfree hir hy hS H
    refine ⟨fun h => (by rw [h] at hir; cases hir), fun j hj => ?_⟩
    rcases Nat.decEq j i with hji | hji
    · have hjs : j ≠ s := fun e => not_last hd hr (mem_ready.1 hir).1 (e ▸ hj)
      obtain ⟨hjun, oj, hoj, hall⟩ := mem_ready.1 hj
      have hnot : ∀ e ∈ oj.after, Region.binds md e = true → e.on ≠ i := fun e he hb heq => by
        have h1 := hall e he hb
        have h0 := (mem_ready.1 hir).1
        rw [heq] at h1
        rcases Nat.lt_or_ge i L.size with h' | h'
        · simp [h'] at h0 h1; rw [h0] at h1; cases h1
        · simp [Array.getElem?_eq_none h'] at h1
      refine wpOp_mono (fun a' w' h3 => ?_) (wpOp_putIf hoj (hfree j oj hoj hji hjun hnot) (fun cs b => hsel i oi cs b hi) (fun cs b => hsel j oj cs b hoj) hQ hy (H.2 j (ready_mono hj hji)))
      have hS' := h3.2.1 hjs
      refine ⟨fun _ => hS', ih _ a' w' (hd.step hj) (fun k ok hk hki hun hno => hfree k ok hk hki ?_ hno) (ready_mono hir (Ne.symm hji)) h3.1 hS' ?_⟩
      · rcases Nat.decEq j k with hjk | hjk
        · rw [getD_set_ne true hjk] at hun; exact hun
        · subst hjk; exact hjun
      · rw [Array.setIfInBounds_comm _ _ hji]
        exact h3.2.2
    · subst hji
      exact hy.wpOp hi hS ⟨fun _ => hS, H⟩

/-- The walk, shut (so that nobody unfolds it). -/
structure WL (P : Program) (ops : Array Oper) (Q : Exit → Act → World → Prop) (S : World → Prop) (s n : Nat) (L : Array Bool) (a : Act) (w : World) : Prop where
  out : AnyL P .any ops Q S s n L a w
def downB (ops : Array Oper) (L : Array Bool) : Bool := (List.range ops.size).all fun k => !L.getD k false || (match ops[k]? with
  | some o => o.after.all fun e => !Region.binds .any e || L.getD e.on false
  | none => true)
theorem down_of {L : Array Bool} (h : downB ops L = true) : Down .any ops L := by
  intro k o ho hk e he hb
  unfold downB at h
  rw [List.all_eq_true] at h
  have hlt : k < ops.size := by
    rcases Nat.lt_or_ge k ops.size with h1 | h1
    · exact h1
    · rw [Array.getElem?_eq_none h1] at ho; cases ho
  have := h k (List.mem_range.2 hlt)
  rw [hk, ho] at this
  simp only [Bool.not_true, Bool.false_or] at this
  rw [Array.all_eq_true'] at this
  have := this e he
  rw [hb] at this
  simpa using this
variable {a : Act} {w : World} {n : Nat} {L : Array Bool}
theorem wl_take {i : Nat} {oi : Oper} {v : Value} {d : Option Tmp} (hi : ops[i]? = some oi) (hd : oi.dst = d) (hs : Region.noSelect ops = true) (hf : Region.free .any ops L i = true) (hr : (Region.ready .any ops L).contains i = true)
    (hw : downB ops L = true) (hre : reachB .any ops i ops.size s = true) (hQ : ∀ c a w, Q (.panic c) (a.put oi.dst v) w → Q (.panic c) a w) (hwn : Region.wanted oi (yielded ops a.tmps) = true) (hy : ∀ w, S w → (execOp a.eval oi).run P w = .ok (.value v) w) (hS : S w)
    (h : WL P ops Q S s n (L.setIfInBounds i true) (a.put d v) w) : WL P ops Q S s (n + 1) L a w := by
  subst hd
  exact ⟨AnyL.first hi (Region.noSelect_spec hs) hQ hre n L a w (down_of hw) (Region.free_spec hi hf) (by simpa using hr) (.inl ⟨hwn, hy⟩) hS h.out⟩
theorem wl_one {i : Nat} {o : Oper} (hr : Region.ready .any ops L = [i]) (ho : ops[i]? = some o) (hwn : Region.wanted o (yielded ops a.tmps) = true)
    (h : ∀ K : Act → World → Prop, Shut (∀ a w, (i ≠ s → S w) → WL P ops Q S s n (L.setIfInBounds i true) a w → K a w) → Oper.wp P o a w K Q) : WL P ops Q S s (n + 1) L a w := by
  refine ⟨⟨fun h0 => (by rw [hr] at h0; cases h0), fun j hj => ?_⟩⟩
  rw [hr] at hj
  obtain rfl : j = i := by simpa using hj
  refine wpOp_step ho (fun K' hK => ?_)
  rw [if_pos hwn]
  exact h K' (fun a w hS hW => hK a w ⟨hS, hW.out⟩)
theorem wl_done (hr : Region.ready .any ops L = []) (h : Q .normal a w) : WL P ops Q S s n L a w := by
  cases n with
  | zero => exact ⟨⟨hr, h⟩⟩
  | succ n => exact ⟨⟨fun _ => h, fun i hi => by rw [hr] at hi; cases hi⟩⟩
theorem wl_region {id : Nat} (hm : P.follows .mixedOrders = true) (hS : S w.drew) (h : S w.drew → WL P ops Q S s ops.size (Array.replicate ops.size false) a w.drew) : (Code.region id ops true).wp P Q a w :=
  wp_region_any hm (AnyL.any _ _ _ _ (h hS).out)
end
end Go.Proofs.YtkhanndmbpemfaaGreatDoor

/- What spec.l13Files and spec.PlanFiles return: what is at each place; for every row of packages that can be read. -/
namespace Go.Proofs.YtkhanndmbpemfaaGreatDoor
open Go.RowKit

attribute [local go_sem ↓] Go.wp_at_zero Go.wp_at_succ

set_option maxHeartbeats 8000000 in
set_option maxRecDepth 100000 in
theorem l13Files_any {N : Nat → Prop} (w : World) (v : Value) (l : List Ix.Pg) (h : Pks N w v l) (hok : Ix.pkgsOk l = true) :
    Calls Tryz.prog 82 #[v] w fun e w' => ∃ u, e = .returned u ∧ OwI w.heap.size w' u (Ix.filesTo l l.length) ∧ Below w.heap.size w w' := by
  have HOK := hide hok
  clear hok
  obtain ⟨a, cap, rfl, hlen, hrow⟩ := h
  obtain ⟨C, hC, hmk⟩ := mk_ints w 6 (by omega)
  have hmk' : (Instr.makeSlice 23 (.int .i64 6) (.int .i64 6)).run Tryz.prog w = .ok (.slice (some ⟨w.heap.size, 0, none⟩) 6 6) (w.alloc (.cells C 3)) := hmk
  clear hmk
  have hneg0 : Neg (w.alloc (.cells C 3)) w.heap.size 0 := ⟨C, heap_alloc_new w _, hC, fun i hi => by omega⟩
  have HN0 := hide hneg0
  have HB0 := hide (below1 w (.cells C 3))
  clear hneg0 hC
  go_enter Tryz.func82, Tryz.ntmps82
  go_wp2_with fail
  go_loopw [4] (fun nv wr => ∃ n : Nat, n ≤ 6 ∧ nv = .int .i64 n ∧ Neg wr w.heap.size n ∧ Below w.heap.size w wr) (fun nv _ => 6 - (intOf nv).toNat)
  case atStart => exact ⟨0, by omega, rfl, unhide HN0, unhide HB0⟩
  case round =>
    clear HN0 HB0 hmk'
    obtain ⟨n, hn, rfl, hneg, hb⟩ := hrel
    have HB := hide hb
    clear hb
    by_cases hlt : n < 6
    · clear hrow
      obtain ⟨D, d1, d2, d3⟩ := hneg
      have q0 : wr.cell? ⟨w.heap.size, n, none⟩ = some (D[n]'(by omega)) := by rw [cellOf d1]; exact Array.getElem?_eq_getElem _
      have q1 := frozenOf d1 n
      have HN2 : Hid (Neg (wr.setCell ⟨w.heap.size, n, none⟩ (.int .i64 (-1))) w.heap.size (n + 1)) := ⟨_, heapSet d1, by simpa using d2, fun i hi => by
        rcases Nat.lt_or_ge i n with h1 | h1
        · rw [Array.getElem?_setIfInBounds_ne (by omega)]
          exact d3 i h1
        · obtain rfl : i = n := by omega
          rw [Array.getElem?_setIfInBounds_self_of_lt (by omega)]⟩
      generalize D[n]'(by omega) = y1 at q0
      clear d1 d2 d3
      have hi0 : (0 : Int) ≤ (n : Int) := Int.natCast_nonneg _
      have hi1 : (n : Int) < 6 := by omega
      go_wp2
      go_roundw
      case rel => exact ⟨n + 1, by omega, by go_num, unhide HN2, (unhide HB).setCell (Nat.le_refl _) _⟩
      case measure => simp [intOf]; omega
    · have hge : ¬ (n : Int) < 6 := by omega
      have h6 : n = 6 := by omega
      have hneg6 : Neg wr w.heap.size 6 := by rw [h6] at hneg; exact hneg
      have HI3 := hide hneg6.intB
      clear hlt hn hneg hneg6 h6
      go_wp2_with fail
      go_loopw [5] (fun i w' => ∃ k : Nat, k ≤ l.length ∧ i = .int .i64 k ∧ IntB w' w.heap.size (Ix.filesTo l k) ∧ Below w.heap.size w w') (fun i _ => l.length - (intOf i).toNat)
      case atStart => exact ⟨0, Nat.zero_le _, rfl, unhide HI3, unhide HB⟩
      case round =>
        clear HI3 HB
        obtain ⟨k, hk, rfl, hI, hw⟩ := hrel
        have HI := hide hI
        have HW := hide hw
        clear hI hw
        by_cases hlt : k < l.length
        · obtain ⟨b, off, rfl, hb, _, hc⟩ := hrow (by omega)
          obtain ⟨fv, dv, hAt, hf, hd⟩ := hc k hlt
          clear hc hrow
          have hfo := Ix.pOk_file (Ix.pkgs_pOk (unhide HOK) hlt)
          have hfs := Ix.filesTo_succ hlt
          have hf6 := Ix.filesTo_len l k hk
          obtain ⟨nm, vr, fs, ds, hpk⟩ : ∃ nm vr fs ds, Ix.pg l k = (nm, vr, fs, ds) := ⟨_, _, _, _, rfl⟩
          rw [hpk] at hAt hf hd hfo hfs
          dsimp only at hf hd hfo hfs
          have HFS := hide hfs
          have HFO := hide hfo
          obtain ⟨da, dc, hdv⟩ := hd.slice
          obtain ⟨fa, fc, hfv, _, hfr⟩ := hf
          subst hfv hdv
          have HAT := hide hAt
          have hi0 : (0 : Int) ≤ (k : Int) := Int.natCast_nonneg _
          have hi1 : (k : Int) < (l.length : Int) := by omega
          have er : IntKind.i64.wrap ((k : Int) + 1) = (k : Int) + 1 := by simp [IntKind.wrap, IntKind.bits, IntKind.signed]; omega
          clear hAt hd hpk hfs hfo
          go_wp2_with fail
          generalize Ix.filesTo l k = A at *
          go_loopw [6] (fun jv w' => ∃ m : Nat, m ≤ fs.length ∧ jv = .int .i64 m ∧ IntB w' w.heap.size (Ix.putF A (fs.take m)) ∧ Below w.heap.size w w') (fun jv _ => fs.length - (intOf jv).toNat)
          case atStart => exact ⟨0, Nat.zero_le _, rfl, unhide HI, unhide HW⟩
          case round =>
            clear HI HW
            obtain ⟨m, hm, rfl, hI, hw⟩ := hrel
            have HI := hide hI
            have HW := hide hw
            clear hI hw
            obtain ⟨c0, c1, c2, c3⟩ := (unhide HAT).keep ((unhide HW).block b hb)
            dsimp only at c0 c1
            by_cases hlt2 : m < fs.length
            · obtain ⟨fb, fof, rfl, hfb, _, hfc⟩ := hfr (by omega)
              have hj0 : (0 : Int) ≤ (m : Int) := Int.natCast_nonneg _
              have hj1 : (m : Int) < (fs.length : Int) := by omega
              have er2 : IntKind.i64.wrap ((m : Int) + 1) = (m : Int) + 1 := by simp [IntKind.wrap, IntKind.bits, IntKind.signed]; omega
              have hbd := (unhide HFO m hlt2).1
              have hps := Ix.putF_succ hlt2 A
              have hpl := Ix.putF_len (fs.take m) A
              obtain ⟨d0, d1⟩ := hfc m hlt2
              rw [← (unhide HW).cell hfb] at d0 d1
              obtain ⟨xn, hxn⟩ := Int.eq_ofNat_of_zero_le hbd.1
              rw [hxn] at d0 hbd hps
              rw [Int.toNat_natCast] at hps
              have HPS := hide hps
              have hx6 : xn < 6 := by omega
              have hx0 : (0 : Int) ≤ (xn : Int) := Int.natCast_nonneg _
              have hx1 : (xn : Int) < 6 := by omega
              clear hfc hfr hxn hps
              generalize Pk.snd fs m = y at *
              generalize Ix.putF A (fs.take m) = A2 at *
              have hd0 := below_drew wr
              have hID := (unhide HI).later hd0
              obtain ⟨z, q0, q1⟩ := hID.cell (i := xn) (by omega)
              have HI2 := hide (hID.set (i := xn) (x := y))
              have HW2 := hide (below_set (o := xn) (u := .int .i64 y) ((unhide HW).trans (hd0.mono (unhide HW).size)) (Nat.le_refl _))
              clear hd0 hID HI
              go_wp2_with fail
              have hSS : wr.drew.cell? ⟨b, off + k * 4 + 2, none⟩ = some (.slice (some ⟨fb, fof, none⟩) fs.length fc) ∧ wr.drew.cell? ⟨fb, fof + m * 2, none⟩ = some (.int .i64 (xn : Int)) ∧ wr.drew.cell? ⟨fb, fof + m * 2 + 1, none⟩ = some (.int .i64 y) := ⟨c2, d0, d1⟩
              refine wl_region (S := fun w' => w'.cell? ⟨b, off + k * 4 + 2, none⟩ = some (.slice (some ⟨fb, fof, none⟩) fs.length fc) ∧ w'.cell? ⟨fb, fof + m * 2, none⟩ = some (.int .i64 (xn : Int)) ∧ w'.cell? ⟨fb, fof + m * 2 + 1, none⟩ = some (.int .i64 y)) (s := 20) (by kernel_rfl) hSS (fun hHeld => ?_)
              clear hSS c0 c1 c2 c3 d0 d1
              refine wl_take (i := 0) (d := some 33) rfl rfl (by kernel_rfl) (by kernel_rfl) (by kernel_rfl) (by kernel_rfl) (by kernel_rfl) (fun _ _ _ h => h) (by rfl) (fun w _ => run_move rfl rfl w) (by assumption) ?_
              simp only [Act.put, List.setIfInBounds_toArray, List.set_cons_zero, List.set_cons_succ, List.getElem_toArray, List.getElem_cons_zero, List.getElem_cons_succ]
              refine wl_take (i := 1) (d := some 34) rfl rfl (by kernel_rfl) (by kernel_rfl) (by kernel_rfl) (by kernel_rfl) (by kernel_rfl) (fun _ _ _ h => h) (by rfl) (fun w _ => run_move rfl rfl w) (by assumption) ?_
              simp only [Act.put, List.setIfInBounds_toArray, List.set_cons_zero, List.set_cons_succ, List.getElem_toArray, List.getElem_cons_zero]
              refine wl_take (i := 2) (d := some 35) rfl rfl (by kernel_rfl) (by kernel_rfl) (by kernel_rfl) (by kernel_rfl) (by kernel_rfl) (fun _ _ _ h => h) (by rfl) (fun w _ => run_move rfl rfl w) (by assumption) ?_
              simp only [Act.put, List.setIfInBounds_toArray, List.set_cons_zero, List.set_cons_succ, List.getElem_toArray, List.getElem_cons_zero, List.getElem_cons_succ]
              refine wl_take (i := 3) (d := some 36) rfl rfl (by kernel_rfl) (by kernel_rfl) (by kernel_rfl) (by kernel_rfl) (by kernel_rfl) (fun _ _ _ h => h) (by rfl) (v := ?_) ?_ (by assumption) ?_
              rotate_left
              · (intro w hSw; (try dsimp only at hSw); go_simp <;> with_reducible rfl)
              simp only [Act.put, List.setIfInBounds_toArray, List.set_cons_zero, List.set_cons_succ]
              refine wl_take (i := 4) (d := some 37) rfl rfl (by kernel_rfl) (by kernel_rfl) (by kernel_rfl) (by kernel_rfl) (by kernel_rfl) (fun _ _ _ h => h) (by rfl) (v := ?_) ?_ (by assumption) ?_
              rotate_left
              · (intro w hSw; (try dsimp only at hSw); go_simp <;> with_reducible rfl)
              simp only [Act.put, List.setIfInBounds_toArray, List.set_cons_zero, List.set_cons_succ]
              refine wl_take (i := 5) (d := some 38) rfl rfl (by kernel_rfl) (by kernel_rfl) (by kernel_rfl) (by kernel_rfl) (by kernel_rfl) (fun _ _ _ h => h) (by rfl) (v := ?_) ?_ (by assumption) ?_
              rotate_left
              · (intro w hSw; (try dsimp only at hSw); go_simp <;> with_reducible rfl)
              simp only [Act.put, List.setIfInBounds_toArray, List.set_cons_zero, List.set_cons_succ]
              refine wl_take (i := 6) (d := some 39) rfl rfl (by kernel_rfl) (by kernel_rfl) (by kernel_rfl) (by kernel_rfl) (by kernel_rfl) (fun _ _ _ h => h) (by rfl) (fun w _ => run_move rfl rfl w) (by assumption) ?_
              simp only [Act.put, List.setIfInBounds_toArray, List.set_cons_zero, List.set_cons_succ, List.getElem_toArray, List.getElem_cons_zero, List.getElem_cons_succ]
              refine wl_take (i := 7) (d := some 40) rfl rfl (by kernel_rfl) (by kernel_rfl) (by kernel_rfl) (by kernel_rfl) (by kernel_rfl) (fun _ _ _ h => h) (by rfl) (v := ?_) ?_ (by assumption) ?_
              rotate_left
              · (intro w hSw; (try dsimp only at hSw); go_simp <;> with_reducible rfl)
              simp only [Act.put, List.setIfInBounds_toArray, List.set_cons_zero, List.set_cons_succ]
              refine wl_take (i := 8) (d := some 41) rfl rfl (by kernel_rfl) (by kernel_rfl) (by kernel_rfl) (by kernel_rfl) (by kernel_rfl) (fun _ _ _ h => h) (by rfl) (v := ?_) ?_ (by assumption) ?_
              rotate_left
              · (intro w hSw; (try dsimp only at hSw); go_simp <;> with_reducible rfl)
              simp only [Act.put, List.setIfInBounds_toArray, List.set_cons_zero, List.set_cons_succ]
              refine wl_take (i := 9) (d := some 42) rfl rfl (by kernel_rfl) (by kernel_rfl) (by kernel_rfl) (by kernel_rfl) (by kernel_rfl) (fun _ _ _ h => h) (by rfl) (v := ?_) ?_ (by assumption) ?_
              rotate_left
              · (intro w hSw; (try dsimp only at hSw); go_simp <;> with_reducible rfl)
              simp only [Act.put, List.setIfInBounds_toArray, List.set_cons_zero, List.set_cons_succ]
              refine wl_take (i := 10) (d := some 43) rfl rfl (by kernel_rfl) (by kernel_rfl) (by kernel_rfl) (by kernel_rfl) (by kernel_rfl) (fun _ _ _ h => h) (by rfl) (fun w _ => run_move rfl rfl w) (by assumption) ?_
              simp only [Act.put, List.setIfInBounds_toArray, List.set_cons_zero, List.set_cons_succ, List.getElem_toArray, List.getElem_cons_zero]
              refine wl_take (i := 11) (d := some 44) rfl rfl (by kernel_rfl) (by kernel_rfl) (by kernel_rfl) (by kernel_rfl) (by kernel_rfl) (fun _ _ _ h => h) (by rfl) (fun w _ => run_move rfl rfl w) (by assumption) ?_
              simp only [Act.put, List.setIfInBounds_toArray, List.set_cons_zero, List.set_cons_succ, List.getElem_toArray, List.getElem_cons_zero, List.getElem_cons_succ]
              refine wl_take (i := 12) (d := some 45) rfl rfl (by kernel_rfl) (by kernel_rfl) (by kernel_rfl) (by kernel_rfl) (by kernel_rfl) (fun _ _ _ h => h) (by rfl) (v := ?_) ?_ (by assumption) ?_
              rotate_left
              · (intro w hSw; (try dsimp only at hSw); go_simp <;> with_reducible rfl)
              simp only [Act.put, List.setIfInBounds_toArray, List.set_cons_zero, List.set_cons_succ]
              refine wl_take (i := 13) (d := some 46) rfl rfl (by kernel_rfl) (by kernel_rfl) (by kernel_rfl) (by kernel_rfl) (by kernel_rfl) (fun _ _ _ h => h) (by rfl) (v := ?_) ?_ (by assumption) ?_
              rotate_left
              · (intro w hSw; (try dsimp only at hSw); go_simp <;> with_reducible rfl)
              simp only [Act.put, List.setIfInBounds_toArray, List.set_cons_zero, List.set_cons_succ]
              refine wl_take (i := 14) (d := some 47) rfl rfl (by kernel_rfl) (by kernel_rfl) (by kernel_rfl) (by kernel_rfl) (by kernel_rfl) (fun _ _ _ h => h) (by rfl) (v := ?_) ?_ (by assumption) ?_
              rotate_left
              · (intro w hSw; (try dsimp only at hSw); go_simp <;> with_reducible rfl)
              simp only [Act.put, List.setIfInBounds_toArray, List.set_cons_zero, List.set_cons_succ]
              refine wl_take (i := 15) (d := some 48) rfl rfl (by kernel_rfl) (by kernel_rfl) (by kernel_rfl) (by kernel_rfl) (by kernel_rfl) (fun _ _ _ h => h) (by rfl) (fun w _ => run_move rfl rfl w) (by assumption) ?_
              simp only [Act.put, List.setIfInBounds_toArray, List.set_cons_zero, List.set_cons_succ, List.getElem_toArray, List.getElem_cons_zero, List.getElem_cons_succ]
              refine wl_take (i := 16) (d := some 49) rfl rfl (by kernel_rfl) (by kernel_rfl) (by kernel_rfl) (by kernel_rfl) (by kernel_rfl) (fun _ _ _ h => h) (by rfl) (v := ?_) ?_ (by assumption) ?_
              rotate_left
              · (intro w hSw; (try dsimp only at hSw); go_simp <;> with_reducible rfl)
              simp only [Act.put, List.setIfInBounds_toArray, List.set_cons_zero, List.set_cons_succ]
              refine wl_take (i := 17) (d := some 50) rfl rfl (by kernel_rfl) (by kernel_rfl) (by kernel_rfl) (by kernel_rfl) (by kernel_rfl) (fun _ _ _ h => h) (by rfl) (v := ?_) ?_ (by assumption) ?_
              rotate_left
              · (intro w hSw; (try dsimp only at hSw); go_simp <;> with_reducible rfl)
              simp only [Act.put, List.setIfInBounds_toArray, List.set_cons_zero, List.set_cons_succ]
              refine wl_take (i := 18) (d := some 51) rfl rfl (by kernel_rfl) (by kernel_rfl) (by kernel_rfl) (by kernel_rfl) (by kernel_rfl) (fun _ _ _ h => h) (by rfl) (v := ?_) ?_ (by assumption) ?_
              rotate_left
              · (intro w hSw; (try dsimp only at hSw); go_simp <;> with_reducible rfl)
              simp only [Act.put, List.setIfInBounds_toArray, List.set_cons_zero, List.set_cons_succ]
              refine wl_take (i := 19) (d := some 52) rfl rfl (by kernel_rfl) (by kernel_rfl) (by kernel_rfl) (by kernel_rfl) (by kernel_rfl) (fun _ _ _ h => h) (by rfl) (v := ?_) ?_ (by assumption) ?_
              rotate_left
              · (intro w hSw; (try dsimp only at hSw); go_simp <;> with_reducible rfl)
              simp only [Act.put, List.setIfInBounds_toArray, List.set_cons_zero, List.set_cons_succ]
              refine wl_one (i := 20) (by kernel_rfl) rfl (by rfl) (fun K hK => ?_)
              go_simp
              refine hK.out _ _ (fun h => absurd rfl h) ?_
              clear hK K
              refine wl_done (by kernel_rfl) ?_
              clear hHeld q0 q1
              go_wp2
              go_roundw
              case rel => exact ⟨m + 1, by omega, by go_num, by rw [unhide HPS]; exact unhide HI2, unhide HW2⟩
              case measure => simp [intOf]; omega
            · obtain rfl : m = fs.length := by omega
              rw [List.take_length] at HI
              clear hlt2 hfr
              go_wp2
              go_roundw
              case rel => exact ⟨k + 1, by omega, by go_num, by rw [unhide HFS]; exact unhide HI, unhide HW⟩
              case measure => simp [intOf]; omega
        · obtain rfl : k = l.length := by omega
          have h6 := Ix.filesTo_len l l.length (Nat.le_refl _)
          clear hlt hrow
          have hO := (unhide HI).own (Nat.le_refl _) (by omega)
          have hO2 : OwI w.heap.size wr (.slice (some ⟨w.heap.size, 0, none⟩) 6 6) (Ix.filesTo l l.length) := by rw [h6] at hO; exact hO
          have HO := hide hO2
          clear hO hO2 h6
          go_wp2
          go_ret
          exact ⟨_, rfl, unhide HO, unhide HW⟩

end Go.Proofs.YtkhanndmbpemfaaGreatDoor
