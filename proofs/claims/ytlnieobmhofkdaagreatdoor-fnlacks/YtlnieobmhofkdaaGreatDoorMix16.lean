import Derived.Test.YtlnieobmhofkdaaGreatDoorPkgOfW
import Derived.Test.YtlnieobmhofkdaaGreatDoorMix1
import Derived.Deep.RegionHeld3
import Derived.Test.YtlnieobmhofkdaaGreatDoorMathW
/- What impl.PkgRead returns: the package that is ok and has this text, in rows of its own, and yes; or nothing, and no, where there is none; for every text; nothing old is written. -/
namespace Go.Proofs.YtlnieobmhofkdaaGreatDoor
open Go.RowKit

/-- What a reader of texts answers. -/
def Answer (s : ByteArray) (w : World) (e : Ending) (w' : World) : Prop :=
  ((∃ nm vr fs ds fv dv, e = .returned (.tuple #[.agg #[.int .i64 nm, .int .i64 vr, fv, dv], .bool true]) ∧ Pk.pkgOk nm vr fs ds = true ∧ Pk.text nm vr fs ds = s.data.toList ∧ w'.ownsRow w.heap.size 132 2 fv fs.length (flat fs) ∧ w'.ownsRow w.heap.size 134 2 dv ds.length (flat ds))
    ∨ (e = .returned (.tuple #[.agg #[.int .i64 0, .int .i64 0, .slice none 0 0, .slice none 0 0], .bool false]) ∧ ∀ nm vr fs ds, Pk.pkgOk nm vr fs ds = true → Pk.text nm vr fs ds ≠ s.data.toList)) ∧ Below w.heap.size w w'

theorem own2_later {w w' : World} {B : Nat} {t : TypeId} {v : Value} {n : Nat} {xs : List Value} (h : w.ownsRow B t 2 v n xs) (hb : Below w.heap.size w w') : w'.ownsRow B t 2 v n xs := own_keep h (fun g _ _ _ hg => hb.block g (heap_lt hg))
theorem own2_base {w : World} {B B' : Nat} {t : TypeId} {v : Value} {n : Nat} {xs : List Value} (h : w.ownsRow B t 2 v n xs) (hB : B' ≤ B) : w.ownsRow B' t 2 v n xs := by
  refine ⟨h.1, ?_⟩
  rcases h.2 with hn | ⟨g, cap, cur, hv, hb, rest⟩
  · exact .inl hn
  · exact .inr ⟨g, cap, cur, hv, Nat.le_trans hB hb, rest⟩

/-- A package is laid into the box of the answer. -/
theorem box_fin {w w' : World} {R : Nat} {a b c d a' b' c' d' : Value} (h : w.heap[R]? = some (.cells #[a, b, c, d] 42 (0, 0))) (hw : w' = (((w.setCell ⟨R, 0, none⟩ a').setCell ⟨R, 1, none⟩ b').setCell ⟨R, 2, none⟩ c').setCell ⟨R, 3, none⟩ d') :
    (w'.cell? ⟨R, 0, none⟩ = some a' ∧ w'.cell? ⟨R, 1, none⟩ = some b' ∧ w'.cell? ⟨R, 2, none⟩ = some c' ∧ w'.cell? ⟨R, 3, none⟩ = some d') ∧ (∀ k, k ≠ R → w'.heap[k]? = w.heap[k]?) ∧ Below R w w' := by
  have hR : w'.heap[R]? = some (.cells #[a', b', c', d'] 42 (0, 0)) := by
    rw [hw, heap_set (heap_set (heap_set (heap_set h)))]
    rfl
  refine ⟨⟨cell_of hR 0, cell_of hR 1, cell_of hR 2, cell_of hR 3⟩, fun k hk => ?_, ?_⟩
  · rw [hw, Below.heap_setCell _ _ _ _ hk, Below.heap_setCell _ _ _ _ hk, Below.heap_setCell _ _ _ _ hk, Below.heap_setCell _ _ _ _ hk]
  · rw [hw]
    have b0 : Below R w w := Below.refl _ _
    have st : ∀ (u : World) (o : Nat) (v : Value), Below R w u → Below R w (u.setCell ⟨R, o, none⟩ v) := fun u o v h => h.setCell (p := ⟨R, o, none⟩) (Nat.le_refl R) v
    exact st _ _ _ (st _ _ _ (st _ _ _ (st _ _ _ b0)))
theorem box_cells {w : World} {R : Nat} {a b c d : Value} {t : TypeId} (h : w.heap[R]? = some (.cells #[a, b, c, d] t (0, 0))) : (w.cell? ⟨R, 0, none⟩ = some a ∧ w.cell? ⟨R, 1, none⟩ = some b ∧ w.cell? ⟨R, 2, none⟩ = some c ∧ w.cell? ⟨R, 3, none⟩ = some d) ∧ (w.frozen? ⟨R, 0, none⟩ = false ∧ w.frozen? ⟨R, 1, none⟩ = false ∧ w.frozen? ⟨R, 2, none⟩ = false ∧ w.frozen? ⟨R, 3, none⟩ = false) :=
  ⟨⟨cell_of h 0, cell_of h 1, cell_of h 2, cell_of h 3⟩, ⟨frozen_of h 0, frozen_of h 1, frozen_of h 2, frozen_of h 3⟩⟩

set_option maxHeartbeats 4000000 in
set_option maxRecDepth 100000 in
theorem implRead_any (s : ByteArray) (w : World) (ev : Addr) (g : Gl w ev) : Calls Tryz.prog 50 #[.string s] w (Answer s w) := by
  have hlen : s.data.toList.length = s.size := Array.length_toList
  have hB0 : Below w.heap.size w (w.alloc (.cells #[.int .i64 0, .int .i64 0, .slice none 0 0, .slice none 0 0] 42)) := (Below.refl _ _).alloc (Nat.le_refl _) _
  by_cases hs : s.size ≤ 30
  case neg =>
    have hlt : (30 : Int) < (s.size : Int) := by omega
    have HB := hide hB0
    have HN : Hid (∀ nm vr fs ds, Pk.pkgOk nm vr fs ds = true → Pk.text nm vr fs ds ≠ s.data.toList) := fun nm vr fs ds ho e => by
      have := Pk.text_le30 ho
      rw [e] at this
      omega
    clear hlen hs hB0 g
    go_enter Tryz.func50, Tryz.ntmps50
    go_wp2
    exact bodyPost_ret (v := .tuple #[.agg #[.int .i64 0, .int .i64 0, .slice none 0 0, .slice none 0 0], .bool false]) (by simp [results, Tryz.results50, go_sem]) rfl ⟨.inr ⟨rfl, unhide HN⟩, unhide HB⟩
  case pos =>
    have HB0 := hide hB0
    have HX := hide (box4 w (.int .i64 0) (.int .i64 0) (.slice none 0 0) (.slice none 0 0) 42)
    have HXH := hide (heap_alloc_new w (.cells #[.int .i64 0, .int .i64 0, .slice none 0 0, .slice none 0 0] 42))
    have G := hide (g.later hB0)
    have hs' : ¬ (30 : Int) < (s.size : Int) := by omega
    clear hlen hB0 g
    go_enter Tryz.func50, Tryz.ntmps50
    go_wp2_with fail
    refine (readWords_any s _ ev (unhide G) hs).mono ?_
    generalize w.alloc _ = W0 at *
    rintro e w1 ⟨hres, hb1⟩
    rcases hres with ⟨k, hk, hnone, rfl⟩ | ⟨ps, v, hr, rfl, ho⟩
    · have HN : Hid (∀ nm vr fs ds, Pk.pkgOk nm vr fs ds = true → Pk.text nm vr fs ds ≠ s.data.toList) := fun nm vr fs ds ho => Pk.reads_none hk hnone ho
      have he := ((unhide G).later hb1).e
      have hR : w1.heap[w.heap.size]? = _ := (hb1.block _ (by have := (unhide HX).1; omega)).trans (unhide HXH)
      obtain ⟨⟨r0, r1, r2, r3⟩, ⟨q0, q1, q2, q3⟩⟩ := box_cells hR
      have hRlt := heap_lt hR
      have HR := hide hR
      have HB1 : Hid (Below w.heap.size w w1) := (unhide HB0).trans (hb1.mono (by have := (unhide HX).1; omega))
      clear hk hnone hb1 hR HXH HX HB0 G
      clear W0
      go_wp2_with (go_at_call 101; refine (is_same ev _).mono ?_; rintro e w2 ⟨rfl, rfl⟩)
      have HFIN := hide (box_fin (unhide HR) rfl (a' := .int .i64 0) (b' := .int .i64 0) (c' := .slice none 0 0) (d' := .slice none 0 0))
      generalize World.setCell _ _ _ = w7 at *
      obtain ⟨⟨z0, z1, z2, z3⟩, hfar, hb⟩ := unhide HFIN
      have HB : Hid (Below w.heap.size w w7) := (unhide HB1).trans hb
      clear hb hfar HFIN
      exact bodyPost_ret (v := .tuple #[.agg #[.int .i64 0, .int .i64 0, .slice none 0 0, .slice none 0 0], .bool false]) (by simp [results, Tryz.results50, go_sem, z0, z1, z2, z3]) rfl ⟨.inr ⟨rfl, unhide HN⟩, unhide HB⟩
    · have he := ((unhide G).later hb1).e
      have hps : ps.length ≤ 100 := by
        have h1 := (Pk.split1_len 32 s.data.toList).1
        have h2 : s.data.toList.length = s.size := Array.length_toList
        rw [hr.1]
        omega
      have hpos : 0 < ps.length := by rw [hr.1]; exact List.length_pos_iff.2 (Pk.split1_ne 32 _)
      have hR : w1.heap[w.heap.size]? = _ := (hb1.block _ (by have := (unhide HX).1; omega)).trans (unhide HXH)
      have HR := hide hR
      have HB1 : Hid (Below w.heap.size w w1) := (unhide HB0).trans (hb1.mono (by have := (unhide HX).1; omega))
      have HO := hide (own1_base ho (Nat.zero_le _))
      have HRD := hide hr
      obtain ⟨ga, gc, hv⟩ : ∃ a c, v = .slice a ps.length c := by
        rcases ho.2 with ⟨hv, hn⟩ | ⟨g, cap, cur, hv, _⟩
        · exact ⟨none, 0, by rw [hv, hn]⟩
        · exact ⟨_, cap, hv⟩
      subst hv
      clear hb1 hR HXH HX HB0 G hr ho
      clear W0
      go_wp2_with (go_at_call 101; refine (is_nil ev _).mono ?_; rintro e w2 ⟨rfl, rfl⟩)
      refine (pkgOf_any _ _ ps 0 (unhide HO) hpos hps).mono ?_
      rintro e w3 ⟨fv, dv, rfl, hof, hod, hb3⟩
      have hR3 : w3.heap[w.heap.size]? = _ := (hb3.block _ (heap_lt (unhide HR))).trans (unhide HR)
      have HB3 : Hid (Below w.heap.size w w3) := (unhide HB1).trans (hb3.mono (unhide HB1).size)
      have HOF := hide (own2_base hof (unhide HB1).size)
      have HOD := hide (own2_base hod (unhide HB1).size)
      obtain ⟨fl1, fl2⟩ := Pk.fold_len ps
      have HR3 := hide hR3
      have HONLY : Hid (∀ nm vr fs ds, Pk.pkgOk nm vr fs ds = true → Pk.text nm vr fs ds = s.data.toList → Pk.foldW ps = (nm, vr, fs, ds)) := fun nm vr fs ds ho e => Pk.reads_only (unhide HRD) ho e
      obtain ⟨⟨nm, vr, fs, ds⟩, hfw⟩ : ∃ x, Pk.foldW ps = x := ⟨_, rfl⟩
      rw [hfw] at HOF HOD HONLY fl1 fl2 ⊢
      dsimp only at HOF HOD fl1 fl2 ⊢
      clear hb3 hR3 HR HB1 hof hod HO HRD he hfw
      obtain ⟨fa, fc, rfl⟩ := own_form (unhide HOF)
      obtain ⟨da, dc, rfl⟩ := own_form (unhide HOD)
      have P1 : Hid (Prs w3 (.slice fa fs.length fc) fs) := Prs.own (unhide HOF) (by omega)
      have P2 : Hid (Prs w3 (.slice da ds.length dc) ds) := Prs.own (unhide HOD) (by omega)
      have hB4 : Below w3.heap.size w3 (w3.alloc (.cells #[.int .i64 nm, .int .i64 vr, .slice fa fs.length fc, .slice da ds.length dc] 42)) := (Below.refl _ _).alloc (Nat.le_refl _) _
      have HB4 := hide hB4
      have HP4 := hide (heap_alloc_new w3 (.cells #[.int .i64 nm, .int .i64 vr, .slice fa fs.length fc, .slice da ds.length dc] 42))
      have HZ4 := hide (sz1 w3 (.cells #[.int .i64 nm, .int .i64 vr, .slice fa fs.length fc, .slice da ds.length dc] 42))
      clear hB4
      go_wp2_with fail
      refine (implPkgOk_any _ nm vr _ _ fs ds ((unhide P1).later (unhide HB4)) ((unhide P2).later (unhide HB4))).mono ?_
      generalize w3.alloc _ = W4 at *
      rintro e w5 ⟨rfl, hb5⟩
      have hne : w.heap.size < w3.heap.size := heap_lt (unhide HR3)
      have hb35 : Below w3.heap.size w3 w5 := (unhide HB4).trans (hb5.mono (by have := unhide HZ4; omega))
      have HR5 : Hid (w5.heap[w.heap.size]? = _) := (hb35.block _ hne).trans (unhide HR3)
      have HP5 : Hid (w5.heap[w3.heap.size]? = _) := (hb5.block _ (by have := unhide HZ4; omega)).trans (unhide HP4)
      have HB5 : Hid (Below w.heap.size w w5) := (unhide HB3).trans (hb35.mono (Nat.le_of_lt hne))
      have HOF5 := hide (own2_later (unhide HOF) hb35)
      have HOD5 := hide (own2_later (unhide HOD) hb35)
      have P15 := hide ((unhide P1).later hb35)
      have P25 := hide ((unhide P2).later hb35)
      clear hb5 hb35 HB4 HP4 HZ4 HOF HOD P1 P2 HR3 HB3
      clear W4
      cases hok : Pk.pkgOk nm vr fs ds
      · have HN : Hid (∀ nm vr fs ds, Pk.pkgOk nm vr fs ds = true → Pk.text nm vr fs ds ≠ s.data.toList) := fun nm' vr' fs' ds' ho e => by
          have := (unhide HONLY) nm' vr' fs' ds' ho e
          injection this with e1 e2
          injection e2 with e2 e3
          injection e3 with e3 e4
          subst e1 e2 e3 e4
          rw [ho] at hok
          cases hok
        obtain ⟨⟨r0, r1, r2, r3⟩, ⟨q0, q1, q2, q3⟩⟩ := box_cells (unhide HR5)
        have hRlt := heap_lt (unhide HR5)
        clear hok HONLY
        go_wp2_with fail
        have HFIN := hide (box_fin (unhide HR5) rfl (a' := .int .i64 0) (b' := .int .i64 0) (c' := .slice none 0 0) (d' := .slice none 0 0))
        generalize World.setCell _ _ _ = w7 at *
        obtain ⟨⟨z0, z1, z2, z3⟩, hfar, hb⟩ := unhide HFIN
        have HB : Hid (Below w.heap.size w w7) := (unhide HB5).trans hb
        clear hb hfar HFIN
        exact bodyPost_ret (v := .tuple #[.agg #[.int .i64 0, .int .i64 0, .slice none 0 0, .slice none 0 0], .bool false]) (by simp [results, Tryz.results50, go_sem, z0, z1, z2, z3]) rfl ⟨.inr ⟨rfl, unhide HN⟩, unhide HB⟩
      · have HOK := hide hok
        obtain ⟨⟨p0, p1, p2, p3⟩, _⟩ := box_cells (unhide HP5)
        clear hok
        go_wp2_with fail
        refine (implText_any _ nm vr _ _ fs ds (unhide P15) (unhide P25)).mono ?_
        rintro e w6 ⟨rfl, hb6⟩
        have HR6 : Hid (w6.heap[w.heap.size]? = _) := (hb6.block _ (heap_lt (unhide HR5))).trans (unhide HR5)
        have HP6 : Hid (w6.heap[w3.heap.size]? = _) := (hb6.block _ (heap_lt (unhide HP5))).trans (unhide HP5)
        have HB6 : Hid (Below w.heap.size w w6) := (unhide HB5).trans (hb6.mono (unhide HB5).size)
        have HOF6 := hide (own2_later (unhide HOF5) hb6)
        have HOD6 := hide (own2_later (unhide HOD5) hb6)
        clear hb6 HR5 HP5 HB5 HOF5 HOD5 P15 P25 p0 p1 p2 p3
        obtain ⟨⟨p0, p1, p2, p3⟩, _⟩ := box_cells (unhide HP6)
        obtain ⟨⟨r0, r1, r2, r3⟩, ⟨q0, q1, q2, q3⟩⟩ := box_cells (unhide HR6)
        have hRlt := heap_lt (unhide HR6)
        obtain ⟨T, hT⟩ : ∃ T, (⟨(Pk.text nm vr fs ds).toArray⟩ : ByteArray) = T := ⟨_, rfl⟩
        have HT : Hid (Pk.text nm vr fs ds = T.data.toList) := by show _ = _; rw [← hT]
        rw [hT]
        clear hT
        by_cases hE : T = s
        · have hnb : (T == s) = true := by rw [hE, beq_toListBytes]; exact beq_self_eq_true _
          have hnc : (T.toList == s.toList) = true := by rw [hE]; exact beq_self_eq_true _
          have HE := hide hE
          clear hE
          go_wp2_with fail
          have HFIN := hide (box_fin (unhide HR6) rfl (a' := .int .i64 nm) (b' := .int .i64 vr) (c' := .slice fa fs.length fc) (d' := .slice da ds.length dc))
          generalize World.setCell _ _ _ = w7 at *
          obtain ⟨⟨z0, z1, z2, z3⟩, hfar, hb⟩ := unhide HFIN
          have HB : Hid (Below w.heap.size w w7) := (unhide HB6).trans hb
          have HF7 : Hid (w7.ownsRow w.heap.size 132 2 (.slice fa fs.length fc) fs.length (flat fs)) := own_keep (unhide HOF6) (fun k _ _ _ hk => hfar k (fun e => by subst e; exact pkg_not_file (unhide HR6) hk))
          have HD7 : Hid (w7.ownsRow w.heap.size 134 2 (.slice da ds.length dc) ds.length (flat ds)) := own_keep (unhide HOD6) (fun k _ _ _ hk => hfar k (fun e => by subst e; exact pkg_not_dep (unhide HR6) hk))
          clear hb hfar HFIN
          exact bodyPost_ret (v := .tuple #[.agg #[.int .i64 nm, .int .i64 vr, .slice fa fs.length fc, .slice da ds.length dc], .bool true]) (by simp [results, Tryz.results50, go_sem, z0, z1, z2, z3]) rfl ⟨.inl ⟨nm, vr, fs, ds, _, _, rfl, unhide HOK, by rw [unhide HT, unhide HE], unhide HF7, unhide HD7⟩, unhide HB⟩
        · have hnb : (T == s) = false := by rw [beq_toListBytes, ByteArray.toList_eq, ByteArray.toList_eq]; exact beq_eq_false_iff_ne.2 (fun e => hE (ByteArray.ext (Array.ext' e)))
          have hnc : (T.toList == s.toList) = false := by rw [← beq_toListBytes]; exact hnb
          have HN : Hid (∀ nm vr fs ds, Pk.pkgOk nm vr fs ds = true → Pk.text nm vr fs ds ≠ s.data.toList) := fun nm' vr' fs' ds' ho e => by
            have := (unhide HONLY) nm' vr' fs' ds' ho e
            injection this with e1 e2
            injection e2 with e2 e3
            injection e3 with e3 e4
            subst e1 e2 e3 e4
            rw [unhide HT] at e
            exact hE (ByteArray.ext (Array.ext' e))
          clear hE HONLY
          go_wp2_with fail
          have HFIN := hide (box_fin (unhide HR6) rfl (a' := .int .i64 0) (b' := .int .i64 0) (c' := .slice none 0 0) (d' := .slice none 0 0))
          generalize World.setCell _ _ _ = w7 at *
          obtain ⟨⟨z0, z1, z2, z3⟩, hfar, hb⟩ := unhide HFIN
          have HB : Hid (Below w.heap.size w w7) := (unhide HB6).trans hb
          clear hb hfar HFIN
          exact bodyPost_ret (v := .tuple #[.agg #[.int .i64 0, .int .i64 0, .slice none 0 0, .slice none 0 0], .bool false]) (by simp [results, Tryz.results50, go_sem, z0, z1, z2, z3]) rfl ⟨.inr ⟨rfl, unhide HN⟩, unhide HB⟩
end Go.Proofs.YtlnieobmhofkdaaGreatDoor

/- Laws on regions that draw their order and end in one store that waits for all else: what holds ahead of that store serves all that come up ahead of it. -/
namespace Go.Proofs.YtlnieobmhofkdaaGreatDoor
section
variable {P : Program} {ops : Array Oper} {Q : Exit → Act → World → Prop} {md : Region.Mode} {S : World → Prop} {s : Nat}

/-- Whatever comes up from here on; S holds behind each but number s. -/
def AnyL (P : Program) (md : Region.Mode) (ops : Array Oper) (Q : Exit → Act → World → Prop) (S : World → Prop) (s : Nat) : Nat → Array Bool → Act → World → Prop
  | 0, L, a, w => Region.ready md ops L = [] ∧ Q .normal a w
  | n + 1, L, a, w => (Region.ready md ops L = [] → Q .normal a w) ∧ ∀ i ∈ Region.ready md ops L, wpOp P ops Q i (fun a' w' => (i ≠ s → S w') ∧ AnyL P md ops Q S s n (L.setIfInBounds i true) a' w') a w
theorem AnyL.any : ∀ (n : Nat) (L : Array Bool) (a : Act) (w : World), AnyL P md ops Q S s n L a w → wpAny P md ops Q n L a w
  | 0, _, _, _, h => h
  | n + 1, _, _, _, h => ⟨h.1, fun i hi => wpOp_mono (fun a' w' h' => AnyL.any n _ a' w' h'.2) (h.2 i hi)⟩

/-- What has come up has all behind it for which it waited. -/
def Down (md : Region.Mode) (ops : Array Oper) (L : Array Bool) : Prop := ∀ (k : Nat) (o : Oper), ops[k]? = some o → L.getD k false = true → ∀ e ∈ o.after, Region.binds md e = true → L.getD e.on false = true
/-- Number y waits, by steps, for number i. -/
def reachB (md : Region.Mode) (ops : Array Oper) (i : Nat) : Nat → Nat → Bool
  | 0, _ => false
  | n + 1, y => match ops[y]? with
    | some o => o.after.any fun e => Region.binds md e && (e.on == i || reachB md ops i n e.on)
    | none => false
theorem reach {L : Array Bool} (hd : Down md ops L) {i : Nat} : ∀ (n y : Nat) (o : Oper), ops[y]? = some o → reachB md ops i n y = true → (∀ e ∈ o.after, Region.binds md e = true → L.getD e.on false = true) → L.getD i false = true
  | 0, _, _, _, h, _ => by cases h
  | n + 1, y, o, ho, h, he => by
    unfold reachB at h
    rw [ho] at h
    simp only [Array.any_eq_true'] at h
    obtain ⟨e, hm, h⟩ := h
    rw [Bool.and_eq_true, Bool.or_eq_true] at h
    obtain ⟨hb, h | h⟩ := h
    · have : e.on = i := by simpa using h
      rw [← this]
      exact he e hm hb
    · have h1 := he e hm hb
      cases ho' : ops[e.on]? with
      | none =>
        cases n with
        | zero => cases h
        | succ n => unfold reachB at h; rw [ho'] at h; cases h
      | some o' => exact reach hd n e.on o' ho' h (fun e' hm' hb' => hd e.on o' ho' h1 e' hm' hb')
/-- Number s does not come up ahead of number i. -/
theorem not_last {L : Array Bool} (hd : Down md ops L) {i n : Nat} (hr : reachB md ops i n s = true) (hi : L.getD i true = false) : s ∉ Region.ready md ops L := by
  intro h
  obtain ⟨_, o, ho, hall⟩ := mem_ready.1 h
  have := reach hd n s o ho hr hall
  rcases Nat.lt_or_ge i L.size with h' | h'
  · simp [h'] at hi this; rw [hi] at this; cases this
  · simp [Array.getElem?_eq_none h'] at hi
theorem Down.step {L : Array Bool} (hd : Down md ops L) {j : Nat} (hj : j ∈ Region.ready md ops L) : Down md ops (L.setIfInBounds j true) := by
  intro k o ho hk e he hb
  by_cases hjk : j = k
  · subst hjk
    obtain ⟨_, o', ho', hall⟩ := mem_ready.1 hj
    rw [ho] at ho'
    injection ho' with ho'
    subst ho'
    exact getD_set_true (hall e he hb)
  · exact getD_set_true (hd k o ho (by rw [getD_set_ne false hjk] at hk; exact hk) e he hb)

/-- A number that may come up, and whose value is the same in all worlds that meet S, comes up first. -/
theorem AnyL.first {i : Nat} {oi : Oper} {v : Value} {m : Nat} (hi : ops[i]? = some oi) (hsel : ∀ (j : Nat) (o : Oper) cs b, ops[j]? = some o → o.op ≠ .select cs b)
    (hQ : ∀ c a w, Q (.panic c) (a.put oi.dst v) w → Q (.panic c) a w) (hr : reachB md ops i m s = true) :
    ∀ (n : Nat) (L : Array Bool) (a : Act) (w : World), Down md ops L →
      (∀ j oj, ops[j]? = some oj → j ≠ i → L.getD j true = false → (∀ e ∈ oj.after, Region.binds md e = true → e.on ≠ i) → oi.apart ops oj = true) →
      i ∈ Region.ready md ops L → YieldsIf P ops S oi v a → S w → AnyL P md ops Q S s n (L.setIfInBounds i true) (a.put oi.dst v) w → AnyL P md ops Q S s (n + 1) L a w := by
  intro n
  induction n with
  | zero =>
    intro L a w _ _ hir hy hS H
    refine ⟨fun h => (by rw [h] at hir; cases hir), fun j hj => ?_⟩
    rcases Nat.decEq j i with hji | hji
    · have := ready_mono hj hji
      rw [H.1] at this
      cases this
    · subst hji
      exact hy.wpOp hi hS ⟨fun _ => hS, H⟩
  | succ n ih =>
    intro L a w hd hfree hir hy hS H
    refine ⟨fun h => (by rw [h] at hir; cases hir), fun j hj => ?_⟩
    rcases Nat.decEq j i with hji | hji
    · have hjs : j ≠ s := fun e => not_last hd hr (mem_ready.1 hir).1 (e ▸ hj)
      obtain ⟨hjun, oj, hoj, hall⟩ := mem_ready.1 hj
      have hnot : ∀ e ∈ oj.after, Region.binds md e = true → e.on ≠ i := fun e he hb heq => by
        have h1 := hall e he hb
        have h0 := (mem_ready.1 hir).1
        rw [heq] at h1
        rcases Nat.lt_or_ge i L.size with h' | h'
        · simp [h'] at h0 h1; rw [h0] at h1; cases h1
        · simp [Array.getElem?_eq_none h'] at h1
      refine wpOp_mono (fun a' w' h3 => ?_) (wpOp_putIf hoj (hfree j oj hoj hji hjun hnot) (fun cs b => hsel i oi cs b hi) (fun cs b => hsel j oj cs b hoj) hQ hy (H.2 j (ready_mono hj hji)))
      have hS' := h3.2.1 hjs
      refine ⟨fun _ => hS', ih _ a' w' (hd.step hj) (fun k ok hk hki hun hno => hfree k ok hk hki ?_ hno) (ready_mono hir (Ne.symm hji)) h3.1 hS' ?_⟩
      · rcases Nat.decEq j k with hjk | hjk
        · rw [getD_set_ne true hjk] at hun; exact hun
        · subst hjk; exact hjun
      · rw [Array.setIfInBounds_comm _ _ hji]
        exact h3.2.2
    · subst hji
      exact hy.wpOp hi hS ⟨fun _ => hS, H⟩

/-- The walk, shut (so that nobody unfolds it). -/
structure WL (P : Program) (ops : Array Oper) (Q : Exit → Act → World → Prop) (S : World → Prop) (s n : Nat) (L : Array Bool) (a : Act) (w : World) : Prop where
  out : AnyL P .any ops Q S s n L a w
def downB (ops : Array Oper) (L : Array Bool) : Bool := (List.range ops.size).all fun k => !L.getD k false || (match ops[k]? with
  | some o => o.after.all fun e => !Region.binds .any e || L.getD e.on false
  | none => true)
theorem down_of {L : Array Bool} (h : downB ops L = true) : Down .any ops L := by
  intro k o ho hk e he hb
  unfold downB at h
  rw [List.all_eq_true] at h
  have hlt : k < ops.size := by
    rcases Nat.lt_or_ge k ops.size with h1 | h1
    · exact h1
    · rw [Array.getElem?_eq_none h1] at ho; cases ho
  have := h k (List.mem_range.2 hlt)
  rw [hk, ho] at this
  simp only [Bool.not_true, Bool.false_or] at this
  rw [Array.all_eq_true'] at this
  have := this e he
  rw [hb] at this
  simpa using this
variable {a : Act} {w : World} {n : Nat} {L : Array Bool}
theorem wl_take {i : Nat} {oi : Oper} {v : Value} {d : Option Tmp} (hi : ops[i]? = some oi) (hd : oi.dst = d) (hs : Region.noSelect ops = true) (hf : Region.free .any ops L i = true) (hr : (Region.ready .any ops L).contains i = true)
    (hw : downB ops L = true) (hre : reachB .any ops i ops.size s = true) (hQ : ∀ c a w, Q (.panic c) (a.put oi.dst v) w → Q (.panic c) a w) (hwn : Region.wanted oi (yielded ops a.tmps) = true) (hy : ∀ w, S w → (execOp a.eval oi).run P w = .ok (.value v) w) (hS : S w)
    (h : WL P ops Q S s n (L.setIfInBounds i true) (a.put d v) w) : WL P ops Q S s (n + 1) L a w := by
  subst hd
  exact ⟨AnyL.first hi (Region.noSelect_spec hs) hQ hre n L a w (down_of hw) (Region.free_spec hi hf) (by simpa using hr) (.inl ⟨hwn, hy⟩) hS h.out⟩
theorem wl_one {i : Nat} {o : Oper} (hr : Region.ready .any ops L = [i]) (ho : ops[i]? = some o) (hwn : Region.wanted o (yielded ops a.tmps) = true)
    (h : ∀ K : Act → World → Prop, Shut (∀ a w, (i ≠ s → S w) → WL P ops Q S s n (L.setIfInBounds i true) a w → K a w) → Oper.wp P o a w K Q) : WL P ops Q S s (n + 1) L a w := by
  refine ⟨⟨fun h0 => (by rw [hr] at h0; cases h0), fun j hj => ?_⟩⟩
  rw [hr] at hj
  obtain rfl : j = i := by simpa using hj
  refine wpOp_step ho (fun K' hK => ?_)
  rw [if_pos hwn]
  exact h K' (fun a w hS hW => hK a w ⟨hS, hW.out⟩)
theorem wl_done (hr : Region.ready .any ops L = []) (h : Q .normal a w) : WL P ops Q S s n L a w := by
  cases n with
  | zero => exact ⟨⟨hr, h⟩⟩
  | succ n => exact ⟨⟨fun _ => h, fun i hi => by rw [hr] at hi; cases hi⟩⟩
theorem wl_region {id : Nat} (hm : P.follows .mixedOrders = true) (hS : S w.drew) (h : S w.drew → WL P ops Q S s ops.size (Array.replicate ops.size false) a w.drew) : (Code.region id ops true).wp P Q a w :=
  wp_region_any hm (AnyL.any _ _ _ _ (h hS).out)
end
end Go.Proofs.YtlnieobmhofkdaaGreatDoor

/- What impl.SumOf and spec.SumOf return: the sum of the text, byte by byte; for every text; nothing is written. -/
namespace Go.Proofs.YtlnieobmhofkdaaGreatDoor
open Go.RowKit

set_option maxHeartbeats 400000 in
theorem implSum_any (s : ByteArray) (w : World) (hs : s.size ≤ maxLen) :
    Calls Tryz.prog 105 #[.string s] w fun e w' => e = .returned (.int .i64 (Sm.sum s.data.toList)) ∧ w' = w := by
  unfold maxLen at hs
  go_enter Tryz.func105, Tryz.ntmps105
  go_wp2
  go_loop [3, 4] (fun n i => ∃ k : Nat, k ≤ s.size ∧ i = .int .i64 k ∧ n = .int .i64 (Sm.sum (s.data.toList.take k))) (fun _ i => s.size - (intOf i).toNat)
  case atStart => exact ⟨0, Nat.zero_le _, rfl, rfl⟩
  case round =>
    obtain ⟨k, hk, rfl, rfl⟩ := hrel
    obtain ⟨hd0, hd1⟩ := Sm.sum_bd (s.data.toList.take k)
    by_cases hlt : k < s.size
    · have hb : s[k].toNat < 256 := s[k].toNat_lt
      have HS : Hid (Sm.sum (s.data.toList.take (k + 1)) = (31 * Sm.sum (s.data.toList.take k) + (s[k].toNat : Int) + 1) % 9973) := Sm.sum_take s k hlt
      generalize Sm.sum (s.data.toList.take k) = z at *
      go_wp2
      go_round
      case rel => exact ⟨k + 1, by omega, by go_num, by rw [HS.out]⟩
      case measure => simp [intOf]; omega
    · go_wp2
      go_ret
      exact ⟨ret_int (by rw [List.take_of_length_le (by simp; omega)]), rfl⟩

set_option maxHeartbeats 400000 in
theorem specSum_any (s : ByteArray) (w : World) (hs : s.size ≤ maxLen) :
    Calls Tryz.prog 62 #[.string s] w fun e w' => e = .returned (.int .i64 (Sm.sum s.data.toList)) ∧ w' = w := by
  unfold maxLen at hs
  go_enter Tryz.func62, Tryz.ntmps62
  go_wp2
  go_loop [3, 4] (fun n i => ∃ k : Nat, k ≤ s.size ∧ i = .int .i64 k ∧ n = .int .i64 (Sm.sum (s.data.toList.take k))) (fun _ i => s.size - (intOf i).toNat)
  case atStart => exact ⟨0, Nat.zero_le _, rfl, rfl⟩
  case round =>
    obtain ⟨k, hk, rfl, rfl⟩ := hrel
    obtain ⟨hd0, hd1⟩ := Sm.sum_bd (s.data.toList.take k)
    by_cases hlt : k < s.size
    · have hb : s[k].toNat < 256 := s[k].toNat_lt
      have HS : Hid (Sm.sum (s.data.toList.take (k + 1)) = (31 * Sm.sum (s.data.toList.take k) + (s[k].toNat : Int) + 1) % 9973) := Sm.sum_take s k hlt
      generalize Sm.sum (s.data.toList.take k) = z at *
      go_wp2
      go_round
      case rel => exact ⟨k + 1, by omega, by go_num, by rw [HS.out]⟩
      case measure => simp [intOf]; omega
    · go_wp2
      go_ret
      exact ⟨ret_int (by rw [List.take_of_length_le (by simp; omega)]), rfl⟩
end Go.Proofs.YtlnieobmhofkdaaGreatDoor
