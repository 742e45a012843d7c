import Derived.Test.YtpjpgofllnnemaaDoorMix1
import Derived.Laws.StructEq
import Derived.Test.YtpjpgofllnnemaaDoorPksW
import Derived.Test.YtpjpgofllnnemaaDoorMix12
import Derived.Test.YtpjpgofllnnemaaDoorDiskOkW
/- What laws.luPkg returns: whether two packages are the same. -/
namespace Go.Proofs.YtpjpgofllnnemaaDoor
open Go.RowKit

theorem list_ext {l l' : List (Int × Int)} (hl : l.length = l'.length) (h : ∀ i, i < l.length → Pk.fst l i = Pk.fst l' i ∧ Pk.snd l i = Pk.snd l' i) : l = l' := by
  apply List.ext_getElem hl
  intro i h1 h2
  have := h i h1
  simp only [Pk.fst, Pk.snd, List.getD_eq_getElem?_getD, List.getElem?_eq_getElem h1, List.getElem?_eq_getElem h2, Option.getD_some] at this
  exact Prod.ext this.1 this.2

/-- Two packages are the same. -/
def same (nm vr nm' vr' : Int) (fs ds fs' ds' : List (Int × Int)) : Bool := decide (nm = nm' ∧ vr = vr' ∧ fs = fs' ∧ ds = ds')
theorem same_no {nm vr nm' vr' : Int} {fs ds fs' ds' : List (Int × Int)} (h : ¬ (nm = nm' ∧ vr = vr' ∧ fs = fs' ∧ ds = ds')) : same nm vr nm' vr' fs ds fs' ds' = false := decide_eq_false h
theorem same_yes {nm vr nm' vr' : Int} {fs ds fs' ds' : List (Int × Int)} (h : nm = nm' ∧ vr = vr' ∧ fs = fs' ∧ ds = ds') : same nm vr nm' vr' fs ds fs' ds' = true := decide_eq_true h
theorem sz1l (w : World) (o : Obj) : (w.alloc o).heap.size = w.heap.size + 1 := by simp

set_option maxHeartbeats 4000000 in
set_option maxRecDepth 100000 in
theorem lu_any (w : World) (nm vr nm' vr' : Int) (fv dv fv' dv' : Value) (fs ds fs' ds' : List (Int × Int)) (hf : Prs w fv fs) (hd : Prs w dv ds) (hf' : Prs w fv' fs') (hd' : Prs w dv' ds') :
    Calls Tryd.prog 36 #[.agg #[.int .i64 nm, .int .i64 vr, fv, dv], .agg #[.int .i64 nm', .int .i64 vr', fv', dv']] w fun e w' => e = .returned (.bool (same nm vr nm' vr' fs ds fs' ds')) ∧ Below w.heap.size w w' := by
  have hbel : ∀ o1 o2 : Obj, Below w.heap.size w ((w.alloc o1).alloc o2) := fun o1 o2 => ((Below.refl _ _).alloc (Nat.le_refl _) _).alloc (by rw [sz1l]; omega) _
  have HF : Hid (∀ o1 o2 : Obj, Prs ((w.alloc o1).alloc o2) fv fs) := fun o1 o2 => hf.later (hbel o1 o2)
  have HF' : Hid (∀ o1 o2 : Obj, Prs ((w.alloc o1).alloc o2) fv' fs') := fun o1 o2 => hf'.later (hbel o1 o2)
  have HD : Hid (∀ o1 o2 : Obj, Prs ((w.alloc o1).alloc o2) dv ds) := fun o1 o2 => hd.later (hbel o1 o2)
  have HD' : Hid (∀ o1 o2 : Obj, Prs ((w.alloc o1).alloc o2) dv' ds') := fun o1 o2 => hd'.later (hbel o1 o2)
  have HB := hide hbel
  obtain ⟨fa, fc, e1⟩ := hf.slice
  obtain ⟨da, dc, e2⟩ := hd.slice
  obtain ⟨fa', fc', e3⟩ := hf'.slice
  obtain ⟨da', dc', e4⟩ := hd'.slice
  clear hf hd hf' hd' hbel
  subst e1 e2 e3 e4
  by_cases hn : nm = nm'
  case neg =>
    have hnb : (nm != nm') = true := by simp [hn]
    have HE := hide (same_no (vr := vr) (vr' := vr') (fs := fs) (ds := ds) (fs' := fs') (ds' := ds') (fun h => hn h.1))
    clear hn
    go_enter Tryd.func36, Tryd.ntmps36
    go_wp2
    go_ret
    exact ⟨ret_bool (unhide HE).symm, (unhide HB) _ _⟩
  subst hn
  have hnb : (nm != nm) = false := by simp
  by_cases hv : vr = vr'
  case neg =>
    have hvb : (vr != vr') = true := by simp [hv]
    have HE := hide (same_no (nm := nm) (nm' := nm) (fs := fs) (ds := ds) (fs' := fs') (ds' := ds') (fun h => hv h.2.1))
    clear hv
    go_enter Tryd.func36, Tryd.ntmps36
    go_wp2
    go_ret
    exact ⟨ret_bool (unhide HE).symm, (unhide HB) _ _⟩
  subst hv
  have hvb : (vr != vr) = false := by simp
  by_cases hfl : fs.length = fs'.length
  case neg =>
    have hlb : ((fs.length : Int) != (fs'.length : Int)) = true := by simp; omega
    have HE := hide (same_no (nm := nm) (nm' := nm) (vr := vr) (vr' := vr) (ds := ds) (ds' := ds') (fun h => hfl (congrArg List.length h.2.2.1)))
    clear hfl
    go_enter Tryd.func36, Tryd.ntmps36
    go_wp2
    go_ret
    exact ⟨ret_bool (unhide HE).symm, (unhide HB) _ _⟩
  by_cases hdl : ds.length = ds'.length
  case neg =>
    have hlb : ((fs.length : Int) != (fs'.length : Int)) = false := by simp; omega
    have hmb : ((ds.length : Int) != (ds'.length : Int)) = true := by simp; omega
    have HE := hide (same_no (nm := nm) (nm' := nm) (vr := vr) (vr' := vr) (fs := fs) (fs' := fs') (fun h => hdl (congrArg List.length h.2.2.2)))
    clear hdl hfl
    go_enter Tryd.func36, Tryd.ntmps36
    go_wp2
    go_ret
    exact ⟨ret_bool (unhide HE).symm, (unhide HB) _ _⟩
  have hlb : ((fs.length : Int) != (fs'.length : Int)) = false := by simp; omega
  have hmb : ((ds.length : Int) != (ds'.length : Int)) = false := by simp; omega
  have HFL := hide hfl
  have HDL := hide hdl
  clear hfl hdl
  go_enter Tryd.func36, Tryd.ntmps36
  go_wp2_with fail
  have hx : ∀ (a b : Array Value) (t : TypeId) (i : Nat), ((w.alloc (.cells a t)).alloc (.cells b t)).cell? ⟨w.heap.size, i, none⟩ = a[i]? ∧ ((w.alloc (.cells a t)).alloc (.cells b t)).cell? ⟨w.heap.size + 1, i, none⟩ = b[i]? := fun a b t i => by
    constructor
    · rw [World.cell?_alloc_lt _ _ _ (by rw [sz1l]; exact Nat.lt_succ_self _), World.cell?_alloc_new]
    · have := World.cell?_alloc_new (w.alloc (.cells a t)) b t i
      rw [sz1l] at this
      exact this
  have hy2 := hx #[.int .i64 nm, .int .i64 vr, .slice fa fs.length fc, .slice da ds.length dc] #[.int .i64 nm, .int .i64 vr, .slice fa' fs'.length fc', .slice da' ds'.length dc'] 56 2
  have hy3 := hx #[.int .i64 nm, .int .i64 vr, .slice fa fs.length fc, .slice da ds.length dc] #[.int .i64 nm, .int .i64 vr, .slice fa' fs'.length fc', .slice da' ds'.length dc'] 56 3
  have HG : Hid (((w.alloc (.cells #[.int .i64 nm, .int .i64 vr, .slice fa fs.length fc, .slice da ds.length dc] 56)).alloc (.cells #[.int .i64 nm, .int .i64 vr, .slice fa' fs'.length fc', .slice da' ds'.length dc'] 56)).heap.size = w.heap.size + 2) := by show _ = _; rw [sz1l, sz1l]
  have hB0 := (unhide HB) (.cells #[.int .i64 nm, .int .i64 vr, .slice fa fs.length fc, .slice da ds.length dc] 56) (.cells #[.int .i64 nm, .int .i64 vr, .slice fa' fs'.length fc', .slice da' ds'.length dc'] 56)
  have P1 := (unhide HF) (.cells #[.int .i64 nm, .int .i64 vr, .slice fa fs.length fc, .slice da ds.length dc] 56) (.cells #[.int .i64 nm, .int .i64 vr, .slice fa' fs'.length fc', .slice da' ds'.length dc'] 56)
  have P2 := (unhide HF') (.cells #[.int .i64 nm, .int .i64 vr, .slice fa fs.length fc, .slice da ds.length dc] 56) (.cells #[.int .i64 nm, .int .i64 vr, .slice fa' fs'.length fc', .slice da' ds'.length dc'] 56)
  have P3 := (unhide HD) (.cells #[.int .i64 nm, .int .i64 vr, .slice fa fs.length fc, .slice da ds.length dc] 56) (.cells #[.int .i64 nm, .int .i64 vr, .slice fa' fs'.length fc', .slice da' ds'.length dc'] 56)
  have P4 := (unhide HD') (.cells #[.int .i64 nm, .int .i64 vr, .slice fa fs.length fc, .slice da ds.length dc] 56) (.cells #[.int .i64 nm, .int .i64 vr, .slice fa' fs'.length fc', .slice da' ds'.length dc'] 56)
  clear HF HF' HD HD' HB hx
  generalize (w.alloc _).alloc _ = W0 at *
  have x2 : W0.cell? ⟨w.heap.size, 2, none⟩ = some (.slice fa fs.length fc) := hy2.1
  have y2 : W0.cell? ⟨w.heap.size + 1, 2, none⟩ = some (.slice fa' fs'.length fc') := hy2.2
  have x3 : W0.cell? ⟨w.heap.size, 3, none⟩ = some (.slice da ds.length dc) := hy3.1
  have y3 : W0.cell? ⟨w.heap.size + 1, 3, none⟩ = some (.slice da' ds'.length dc') := hy3.2
  have hlt1 : w.heap.size < W0.heap.size := by have := unhide HG; omega
  have hlt2 : w.heap.size + 1 < W0.heap.size := by have := unhide HG; omega
  clear hy2 hy3 HG
  go_loopw [5] (fun i w' => ∃ k : Nat, k ≤ fs.length ∧ i = .int .i64 k ∧ Below W0.heap.size W0 w' ∧ ∀ j, j < k → Pk.fst fs j = Pk.fst fs' j ∧ Pk.snd fs j = Pk.snd fs' j) (fun i _ => fs.length - (intOf i).toNat)
  case atStart => exact ⟨0, Nat.zero_le _, rfl, Below.refl _ _, fun j hj => by omega⟩
  case round =>
    obtain ⟨k, hk, rfl, hw, hsame⟩ := hrel
    have HW := hide hw
    have HS := hide hsame
    have j1 : wr.cell? ⟨w.heap.size, 2, none⟩ = _ := (hw.cell hlt1).trans x2
    have j2 : wr.cell? ⟨w.heap.size + 1, 2, none⟩ = _ := (hw.cell hlt2).trans y2
    by_cases hlt : k < fs.length
    · have hlt' : k < fs'.length := by have := unhide HFL; omega
      obtain ⟨_, _, e1, _, hrow⟩ := P1
      injection e1 with e1 _ e3
      subst e1 e3
      obtain ⟨_, _, e1, _, hrow'⟩ := P2
      injection e1 with e1 _ e3
      subst e1 e3
      obtain ⟨b, off, rfl, hb, hc⟩ := hrow (by omega)
      obtain ⟨b', off', rfl, hb', hc'⟩ := hrow' (by omega)
      obtain ⟨c1, c2⟩ := hc k hlt
      obtain ⟨d1, d2⟩ := hc' k hlt'
      rw [← hw.cell hb] at c1 c2
      rw [← hw.cell hb'] at d1 d2
      clear hc hc' hrow hrow' hw hsame
      have hi0 : (0 : Int) ≤ (k : Int) := Int.natCast_nonneg _
      have hi1 : (k : Int) < (fs.length : Int) := by omega
      have hi2 : (k : Int) < (fs'.length : Int) := by omega
      by_cases hA : Pk.fst fs k = Pk.fst fs' k
      · by_cases hB : Pk.snd fs k = Pk.snd fs' k
        · have HA := hide hA
          have HBB := hide hB
          rw [hA] at c1
          rw [hB] at c2
          clear hA hB
          go_wp2_with fail
          go_quiet (fail)
          go_wp2
          go_roundw
          case rel => exact ⟨k + 1, by omega, by go_num, below_drewN (unhide HW) _, fun j hj => by
            rcases Nat.lt_or_ge j k with h | h
            · exact unhide HS j h
            · obtain rfl : j = k := by omega
              exact ⟨unhide HA, unhide HBB⟩⟩
          case measure => simp [intOf]; omega
        · go_wp2_with fail
          go_quiet (fail)
          go_wp2
          go_ret
          exact ⟨ret_bool (same_no (fun h => hB (by rw [h.2.2.1]))).symm, hB0.trans ((below_drewN (unhide HW) _).mono (Nat.le_of_lt hlt1))⟩
      · go_wp2_with fail
        go_quiet (fail)
        go_wp2
        go_ret
        exact ⟨ret_bool (same_no (fun h => hA (by rw [h.2.2.1]))).symm, hB0.trans ((below_drewN (unhide HW) _).mono (Nat.le_of_lt hlt1))⟩
    · obtain rfl : k = fs.length := by omega
      have HFS := hide (list_ext (unhide HFL) (unhide HS))
      have HW0 := hide hw
      have j3 : wr.cell? ⟨w.heap.size, 3, none⟩ = _ := (hw.cell hlt1).trans x3
      have j4 : wr.cell? ⟨w.heap.size + 1, 3, none⟩ = _ := (hw.cell hlt2).trans y3
      clear hw hsame hlt HW HS
      go_wp2_with fail
      go_loopw [6] (fun i w' => ∃ k : Nat, k ≤ ds.length ∧ i = .int .i64 k ∧ Below W0.heap.size W0 w' ∧ ∀ j, j < k → Pk.fst ds j = Pk.fst ds' j ∧ Pk.snd ds j = Pk.snd ds' j) (fun i _ => ds.length - (intOf i).toNat)
      case atStart => exact ⟨0, Nat.zero_le _, rfl, unhide HW0, fun j hj => by omega⟩
      case round =>
        obtain ⟨k, hk, rfl, hw, hsame⟩ := hrel
        have HW := hide hw
        have HS := hide hsame
        have j1 : wr.cell? ⟨w.heap.size, 3, none⟩ = _ := (hw.cell hlt1).trans x3
        have j2 : wr.cell? ⟨w.heap.size + 1, 3, none⟩ = _ := (hw.cell hlt2).trans y3
        by_cases hlt : k < ds.length
        · have hlt' : k < ds'.length := by have := unhide HDL; omega
          obtain ⟨_, _, e1, _, hrow⟩ := P3
          injection e1 with e1 _ e3
          subst e1 e3
          obtain ⟨_, _, e1, _, hrow'⟩ := P4
          injection e1 with e1 _ e3
          subst e1 e3
          obtain ⟨b, off, rfl, hb, hc⟩ := hrow (by omega)
          obtain ⟨b', off', rfl, hb', hc'⟩ := hrow' (by omega)
          obtain ⟨c1, c2⟩ := hc k hlt
          obtain ⟨d1, d2⟩ := hc' k hlt'
          rw [← hw.cell hb] at c1 c2
          rw [← hw.cell hb'] at d1 d2
          clear hc hc' hrow hrow' hw hsame
          have hi0 : (0 : Int) ≤ (k : Int) := Int.natCast_nonneg _
          have hi1 : (k : Int) < (ds.length : Int) := by omega
          have hi2 : (k : Int) < (ds'.length : Int) := by omega
          by_cases hA : Pk.fst ds k = Pk.fst ds' k
          · by_cases hB : Pk.snd ds k = Pk.snd ds' k
            · have HA := hide hA
              have HBB := hide hB
              rw [hA] at c1
              rw [hB] at c2
              clear hA hB
              go_wp2_with fail
              go_quiet (fail)
              go_wp2
              go_roundw
              case rel => exact ⟨k + 1, by omega, by go_num, below_drewN (unhide HW) _, fun j hj => by
                rcases Nat.lt_or_ge j k with h | h
                · exact unhide HS j h
                · obtain rfl : j = k := by omega
                  exact ⟨unhide HA, unhide HBB⟩⟩
              case measure => simp [intOf]; omega
            · go_wp2_with fail
              go_quiet (fail)
              go_wp2
              go_ret
              exact ⟨ret_bool (same_no (fun h => hB (by rw [h.2.2.2]))).symm, hB0.trans ((below_drewN (unhide HW) _).mono (Nat.le_of_lt hlt1))⟩
          · go_wp2_with fail
            go_quiet (fail)
            go_wp2
            go_ret
            exact ⟨ret_bool (same_no (fun h => hA (by rw [h.2.2.2]))).symm, hB0.trans ((below_drewN (unhide HW) _).mono (Nat.le_of_lt hlt1))⟩
        · obtain rfl : k = ds.length := by omega
          have HDS := hide (list_ext (unhide HDL) (unhide HS))
          clear hw hsame hlt
          go_wp2
          go_ret
          exact ⟨ret_bool (same_yes ⟨rfl, rfl, unhide HFS, unhide HDS⟩).symm, hB0.trans ((unhide HW).mono (Nat.le_of_lt hlt1))⟩
end Go.Proofs.YtpjpgofllnnemaaDoor

/- What laws.luPkgs returns: of the same packages true. -/
namespace Go.Proofs.YtpjpgofllnnemaaDoor
open Go.RowKit

set_option maxHeartbeats 4000000 in
set_option maxRecDepth 100000 in
theorem luPkgs_same {N M : Nat → Prop} (w : World) (v v' : Value) (l : List Ix.Pg) (h : Pks N w v l) (h' : Pks M w v' l) :
    Calls Tryd.prog 17 #[v, v'] w fun e w' => e = .returned (.bool true) ∧ Below w.heap.size w w' := by
  obtain ⟨a, cap, rfl, hlen, hrow⟩ := h
  obtain ⟨a', cap', rfl, _, hrow'⟩ := h'
  have hne : ((l.length : Int) != (l.length : Int)) = false := by simp
  go_enter Tryd.func17, Tryd.ntmps17
  go_wp2
  go_loopw [5] (fun i w' => ∃ k : Nat, k ≤ l.length ∧ i = .int .i64 k ∧ Below w.heap.size w w') (fun i _ => l.length - (intOf i).toNat)
  case atStart => exact ⟨0, Nat.zero_le _, rfl, Below.refl _ _⟩
  case round =>
    obtain ⟨k, hk, rfl, hw⟩ := hrel
    have HW := hide hw
    clear hw
    by_cases hlt : k < l.length
    · obtain ⟨b, off, rfl, hb, _, hc⟩ := hrow (by omega)
      obtain ⟨b', off', rfl, hb', _, hc'⟩ := hrow' (by omega)
      obtain ⟨fv, dv, hAt, hf, hd⟩ := hc k hlt
      obtain ⟨fv', dv', hAt', hf', hd'⟩ := hc' k hlt
      clear hc hc' hrow hrow'
      obtain ⟨nm, vr, fs, ds, hpk⟩ : ∃ nm vr fs ds, Ix.pg l k = (nm, vr, fs, ds) := ⟨_, _, _, _, rfl⟩
      rw [hpk] at hAt hf hd hAt' hf' hd'
      dsimp only at hf hd hf' hd'
      obtain ⟨fa, fc, e1⟩ := hf.slice
      obtain ⟨da, dc, e2⟩ := hd.slice
      obtain ⟨fa', fc', e3⟩ := hf'.slice
      obtain ⟨da', dc', e4⟩ := hd'.slice
      subst e1 e2 e3 e4
      have z1 : b < wr.heap.size := Nat.lt_of_lt_of_le hb (unhide HW).size
      have z2 : b' < wr.heap.size := Nat.lt_of_lt_of_le hb' (unhide HW).size
      have kk : ∀ w', Below wr.heap.size wr w' → (w'.cell? ⟨b, off + k * 4, none⟩ = some (.int .i64 nm) ∧ w'.cell? ⟨b, off + k * 4 + 1, none⟩ = some (.int .i64 vr) ∧ w'.cell? ⟨b, off + k * 4 + 2, none⟩ = some (.slice fa fs.length fc) ∧ w'.cell? ⟨b, off + k * 4 + 3, none⟩ = some (.slice da ds.length dc)) ∧ (w'.cell? ⟨b', off' + k * 4, none⟩ = some (.int .i64 nm) ∧ w'.cell? ⟨b', off' + k * 4 + 1, none⟩ = some (.int .i64 vr) ∧ w'.cell? ⟨b', off' + k * 4 + 2, none⟩ = some (.slice fa' fs.length fc') ∧ w'.cell? ⟨b', off' + k * 4 + 3, none⟩ = some (.slice da' ds.length dc')) := fun w' hw' =>
        ⟨hAt.keep (((unhide HW).trans (hw'.mono (unhide HW).size)).block b hb), hAt'.keep (((unhide HW).trans (hw'.mono (unhide HW).size)).block b' hb')⟩
      have HK := hide kk
      have cE : ∀ w', Below wr.heap.size wr w' → Calls Tryd.prog 36 #[.agg #[.int .i64 nm, .int .i64 vr, .slice fa fs.length fc, .slice da ds.length dc], .agg #[.int .i64 nm, .int .i64 vr, .slice fa' fs.length fc', .slice da' ds.length dc']] w' fun e w'' => e = .returned (.bool true) ∧ Below wr.heap.size wr w'' := fun w' hw' => by
        have hb2 := (unhide HW).trans (hw'.mono (unhide HW).size)
        have hsame : same nm vr nm vr fs ds fs ds = true := same_yes ⟨rfl, rfl, rfl, rfl⟩
        exact (lu_any w' nm vr nm vr _ _ _ _ fs ds fs ds (hf.prs.later hb2) (hd.prs.later hb2) (hf'.prs.later hb2) (hd'.prs.later hb2)).mono fun e w'' ⟨h1, h2⟩ => ⟨by rw [h1, hsame], hw'.trans (h2.mono hw'.size)⟩
      have CE := hide cE
      clear kk cE hAt hAt' hf hd hf' hd' hpk
      have hi0 : (0 : Int) ≤ (k : Int) := Int.natCast_nonneg _
      have hi1 : (k : Int) < (l.length : Int) := by omega
      go_wp2_with fail
      refine wq_region (by kernel_rfl) (by kernel_rfl) ?_
      refine wq_move (d := some 17) rfl rfl (by rfl) rfl ?_
      simp only [Act.put, List.setIfInBounds_toArray, List.set_cons_zero, List.set_cons_succ, List.getElem_toArray, List.getElem_cons_zero]
      refine wq_move (d := some 18) rfl rfl (by rfl) rfl ?_
      simp only [Act.put, List.setIfInBounds_toArray, List.set_cons_zero, List.set_cons_succ, List.getElem_toArray, List.getElem_cons_zero, List.getElem_cons_succ]
      refine wq_take (d := some 19) rfl (by rfl) (v := ?_) ?_ ?_
      rotate_left
      · (intro w hCw; have hKw := (unhide HK) w hCw; go_simp <;> with_reducible rfl)
      simp only [Act.put, List.setIfInBounds_toArray, List.set_cons_zero, List.set_cons_succ]
      refine wq_take (d := some 20) rfl (by rfl) (v := ?_) ?_ ?_
      rotate_left
      · (intro w hCw; have hKw := (unhide HK) w hCw; go_simp <;> with_reducible rfl)
      simp only [Act.put, List.setIfInBounds_toArray, List.set_cons_zero, List.set_cons_succ]
      refine wq_move (d := some 21) rfl rfl (by rfl) rfl ?_
      simp only [Act.put, List.setIfInBounds_toArray, List.set_cons_zero, List.set_cons_succ, List.getElem_toArray, List.getElem_cons_zero, List.getElem_cons_succ]
      refine wq_move (d := some 22) rfl rfl (by rfl) rfl ?_
      simp only [Act.put, List.setIfInBounds_toArray, List.set_cons_zero, List.set_cons_succ, List.getElem_toArray, List.getElem_cons_zero, List.getElem_cons_succ]
      refine wq_take (d := some 23) rfl (by rfl) (v := ?_) ?_ ?_
      rotate_left
      · (intro w hCw; have hKw := (unhide HK) w hCw; go_simp <;> with_reducible rfl)
      simp only [Act.put, List.setIfInBounds_toArray, List.set_cons_zero, List.set_cons_succ]
      refine wq_take (d := some 24) rfl (by rfl) (v := ?_) ?_ ?_
      rotate_left
      · (intro w hCw; have hKw := (unhide HK) w hCw; go_simp <;> with_reducible rfl)
      simp only [Act.put, List.setIfInBounds_toArray, List.set_cons_zero, List.set_cons_succ]
      refine wq_call (d := some 25) rfl (by rfl) (hc := (unhide CE)) ?_ ?_
      · (intro w hCw; go_simp)
      simp only [Act.put, List.setIfInBounds_toArray, List.set_cons_zero, List.set_cons_succ]
      refine wq_take (d := some 26) rfl (by rfl) (v := ?_) ?_ ?_
      rotate_left
      · (intro w hCw; have hKw := (unhide HK) w hCw; go_simp <;> with_reducible rfl)
      simp only [Act.put, List.setIfInBounds_toArray, List.set_cons_zero, List.set_cons_succ]
      refine wq_nil ?_
      intro w9 hw9
      go_wp2
      go_roundw
      case rel => exact ⟨k + 1, by omega, by go_num, (unhide HW).trans (hw9.mono (unhide HW).size)⟩
      case measure => simp [intOf]; omega
    · go_wp2
      go_ret
      exact ⟨rfl, unhide HW⟩
end Go.Proofs.YtpjpgofllnnemaaDoor

/- What laws.luDisk returns of the same data: true. -/
namespace Go.Proofs.YtpjpgofllnnemaaDoor
open Go.RowKit

theorem two_boxesD (w : World) (o1 o2 : Obj) : Below w.heap.size w ((w.alloc o1).alloc o2) ∧ ((w.alloc o1).alloc o2).heap[w.heap.size]? = some o1 ∧ ((w.alloc o1).alloc o2).heap[w.heap.size + 1]? = some o2 := by
  have z1 := sz1' w o1
  have B1 := below1 w o1
  have b2 := below1 (w.alloc o1) o2
  have h1 := heap_alloc_new w o1
  have h2 := heap_alloc_new (w.alloc o1) o2
  rw [z1] at h2
  refine ⟨B1.trans (b2.mono B1.size), ?_, h2⟩
  rw [b2.block _ (by omega)]
  exact h1

set_option maxHeartbeats 4000000 in
set_option maxRecDepth 100000 in
theorem luDisk_same {N1 M1 N2 M2 : Nat → Prop} (w : World) (d : Dk.D) (v1 vf v2 u1 uf u2 : Value) (p1 : Pks N1 w v1 d.db) (pf : Ins w vf d.fl) (p2 : Pks M1 w v2 d.jr) (q1 : Pks N2 w u1 d.db) (qf : Ins w uf d.fl) (q2 : Pks M2 w u2 d.jr) :
    Calls Tryd.prog 16 #[dkV v1 vf d.has v2, dkV u1 uf d.has u2] w fun e w' => e = .returned (.bool true) ∧ Below w.heap.size w w' := by
  obtain ⟨db, fl, has, jr⟩ := d
  dsimp only [dkV] at *
  obtain ⟨a1, c1, e1⟩ := p1.slice
  obtain ⟨af, cf, ef⟩ := pf.slice
  obtain ⟨a2, c2, e2⟩ := p2.slice
  obtain ⟨b1, s1, i1⟩ := q1.slice
  obtain ⟨bf, sf, iff'⟩ := qf.slice
  obtain ⟨b2, s2, i2⟩ := q2.slice
  subst e1 ef e2 i1 iff' i2
  obtain ⟨b0, k0, k1⟩ := two_boxesD w (.cells #[.slice a1 db.length c1, .slice af fl.length cf, .bool has, .slice a2 jr.length c2] 26) (.cells #[.slice b1 db.length s1, .slice bf fl.length sf, .bool has, .slice b2 jr.length s2] 26)
  have HA := hide k0
  have HB := hide k1
  have BW := hide b0
  have H0 := hide (And.intro p1 (And.intro pf p2))
  have H1 := hide (And.intro q1 (And.intro qf q2))
  have hh : (has == has) = true := by simp
  clear p1 pf p2 q1 qf q2 b0 k0 k1
  go_enter Tryd.func16, Tryd.ntmps16
  go_wp2_with fail
  generalize World.alloc _ _ = W0 at *
  refine (luPkgs_same _ _ _ db ((unhide H0).1.later (unhide BW)) ((unhide H1).1.later (unhide BW))).mono ?_
  rintro e w1 ⟨rfl, b⟩
  replace HA := hide ((b.block _ (heapLt (unhide HA))).trans (unhide HA))
  replace HB := hide ((b.block _ (heapLt (unhide HB))).trans (unhide HB))
  replace BW := hide ((unhide BW).trans (b.mono (unhide BW).size))
  clear b
  obtain ⟨x0, x1, x2, x3⟩ : _ ∧ _ ∧ _ ∧ _ := ⟨cellOf (unhide HA) 0, cellOf (unhide HA) 1, cellOf (unhide HA) 2, cellOf (unhide HA) 3⟩
  obtain ⟨y0, y1, y2, y3⟩ : _ ∧ _ ∧ _ ∧ _ := ⟨cellOf (unhide HB) 0, cellOf (unhide HB) 1, cellOf (unhide HB) 2, cellOf (unhide HB) 3⟩
  go_wp2_with fail
  refine (luInts_same _ _ _ fl ((unhide H0).2.1.later (unhide BW)) ((unhide H1).2.1.later (unhide BW))).mono ?_
  rintro e w2 ⟨rfl, b⟩
  clear x0 x1 x2 x3 y0 y1 y2 y3
  replace HA := hide ((b.block _ (heapLt (unhide HA))).trans (unhide HA))
  replace HB := hide ((b.block _ (heapLt (unhide HB))).trans (unhide HB))
  replace BW := hide ((unhide BW).trans (b.mono (unhide BW).size))
  clear b
  obtain ⟨x0, x1, x2, x3⟩ : _ ∧ _ ∧ _ ∧ _ := ⟨cellOf (unhide HA) 0, cellOf (unhide HA) 1, cellOf (unhide HA) 2, cellOf (unhide HA) 3⟩
  obtain ⟨y0, y1, y2, y3⟩ : _ ∧ _ ∧ _ ∧ _ := ⟨cellOf (unhide HB) 0, cellOf (unhide HB) 1, cellOf (unhide HB) 2, cellOf (unhide HB) 3⟩
  go_wp2_with fail
  refine (luPkgs_same _ _ _ jr ((unhide H0).2.2.later (unhide BW)) ((unhide H1).2.2.later (unhide BW))).mono ?_
  rintro e w3 ⟨rfl, b⟩
  replace BW := hide ((unhide BW).trans (b.mono (unhide BW).size))
  clear b x0 x1 x2 x3 y0 y1 y2 y3
  go_wp2
  go_ret
  exact ⟨rfl, unhide BW⟩
end Go.Proofs.YtpjpgofllnnemaaDoor
