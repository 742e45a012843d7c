import Derived.Test.YtoccijcngncghaaDoorCopyDkW
import Derived.Test.YtoccijcngncghaaDoorDiskTrueW
import Derived.Test.YtoccijcngncghaaDoorMix8
import Derived.Lib.SmallJoins
/- The walk of FnExactDiskTrue: it returns true and leaves what was there; for every disk. -/
namespace Go.Proofs.YtoccijcngncghaaDoor
open Go.RowKit

set_option maxHeartbeats 8000000 in
set_option maxRecDepth 100000 in
theorem exactDiskTrue_walk (w : World) (a1 : Option Addr) (n1 c1 : Nat) (af : Option Addr) (nf cf : Nat) (has : Bool) (a2 : Option Addr) (n2 c2 : Nat) (h : DiskIn w a1 n1 c1 af nf cf a2 n2 c2) :
    Calls Tryd.prog 8 #[.agg #[.slice a1 n1 c1, .slice af nf cf, .bool has, .slice a2 n2 c2]] w fun e w' => e = .returned (.bool true) ∧ Below w.heap.size w w' := by
  have b0 := below1 w (.cells #[.slice a1 n1 c1, .slice af nf cf, .bool has, .slice a2 n2 c2] 46)
  have XB := hide (heap_alloc_new w (.cells #[.slice a1 n1 c1, .slice af nf cf, .bool has, .slice a2 n2 c2] 46))
  have BW := hide b0
  have CZ := hide (szDisk_in _ a1 n1 c1 af nf cf has a2 n2 c2 1048576 (by omega) (by omega) (h.later b0))
  clear h b0
  go_enter Tryd.func8, Tryd.ntmps8
  go_wp2_with fail
  refine (unhide CZ).mono ?_
  generalize w.alloc _ = W0 at *
  rintro e w1 ⟨b, ⟨d, rfl, rfl, rfl, rfl, hat, r, rfl, r0, r1⟩ | rfl⟩
  rotate_left
  · replace BW := hide ((unhide BW).trans (b.mono (unhide BW).size))
    clear b CZ XB
    go_wp2
    go_ret
    exact ⟨rfl, unhide BW⟩
  have hr : ¬ r < 0 := by omega
  replace XB := hide ((b.block _ (heapLt (unhide XB))).trans (unhide XB))
  replace BW := hide ((unhide BW).trans (b.mono (unhide BW).size))
  have AT := hide hat
  clear hat b CZ
  have hok : Hid (d.tru = d.tru) := rfl
  obtain ⟨x0, x1, x2, x3⟩ : _ ∧ _ ∧ _ ∧ _ := ⟨cellOf (unhide XB) 0, cellOf (unhide XB) 1, cellOf (unhide XB) 2, cellOf (unhide XB) 3⟩
  go_wp2_with fail
  refine (toDisk_fill _ d _ _ _ (unhide AT)).mono ?_
  rintro e w2 ⟨k1, k2, k3, hg, rfl, hn, b⟩
  replace XB := hide ((b.block _ (heapLt (unhide XB))).trans (unhide XB))
  replace BW := hide ((unhide BW).trans (b.mono (unhide BW).size))
  have AT2 := hide (hn.at (unhide AT))
  replace AT := hide ((unhide AT).later b)
  clear hn b hg x0 x1 x2 x3
  go_wp2_with fail
  refine (specDiskTrue_any _ d _ _ _ (unhide AT2).p1 (unhide AT2).pf (unhide AT2).p2).mono ?_
  rintro e w3 ⟨rfl, b⟩
  replace XB := hide ((b.block _ (heapLt (unhide XB))).trans (unhide XB))
  replace BW := hide ((unhide BW).trans (b.mono (unhide BW).size))
  replace AT := hide ((unhide AT).later b)
  clear b AT2
  obtain ⟨x0, x1, x2, x3⟩ : _ ∧ _ ∧ _ ∧ _ := ⟨cellOf (unhide XB) 0, cellOf (unhide XB) 1, cellOf (unhide XB) 2, cellOf (unhide XB) 3⟩
  go_wp2_with fail
  refine (toDisk_fill _ d _ _ _ (unhide AT)).mono ?_
  rintro e w4 ⟨g1, g2, g3, hg, rfl, hn, b⟩
  have b4 := below1 w4 (.cells #[rowV g1 d.db.length, rowV g2 d.fl.length, .bool d.has, rowV g3 d.jr.length] 26)
  have b44 := b.trans (b4.mono b.size)
  have YB := hide (heap_alloc_new w4 (.cells #[rowV g1 d.db.length, rowV g2 d.fl.length, .bool d.has, rowV g3 d.jr.length] 26))
  replace XB := hide ((b44.block _ (heapLt (unhide XB))).trans (unhide XB))
  replace BW := hide ((unhide BW).trans (b44.mono (unhide BW).size))
  have AT2 := hide ((hn.at (unhide AT)).later b4)
  replace AT := hide ((unhide AT).later b44)
  clear hn b hg x0 x1 x2 x3 b4 b44
  go_wp2_with fail
  refine (implDiskTrue_any _ d _ _ _ (unhide AT2).p1 (fun _ _ e => by injection e with _ _ e; omega) (unhide AT2).pf (unhide AT2).p2 (fun _ _ e => by injection e with _ _ e; omega)).mono ?_
  generalize hYe : w4.heap.size = Y at *
  generalize w4.alloc _ = W4 at *
  clear hYe
  clear w4
  rintro e w5 ⟨rfl, b⟩
  replace XB := hide ((b.block _ (heapLt (unhide XB))).trans (unhide XB))
  replace YB := hide ((b.block _ (heapLt (unhide YB))).trans (unhide YB))
  replace BW := hide ((unhide BW).trans (b.mono (unhide BW).size))
  replace AT := hide ((unhide AT).later b)
  replace AT2 := hide ((unhide AT2).later b)
  clear b
  have hbb : (d.tru != d.tru) = false := by simp
  obtain ⟨⟨x0, y0⟩, ⟨x1, y1⟩, ⟨x2, y2⟩, x3, y3⟩ : (_ ∧ _) ∧ (_ ∧ _) ∧ (_ ∧ _) ∧ _ ∧ _ := ⟨⟨cellOf (unhide XB) 0, cellOf (unhide YB) 0⟩, ⟨cellOf (unhide XB) 1, cellOf (unhide YB) 1⟩, ⟨cellOf (unhide XB) 2, cellOf (unhide YB) 2⟩, cellOf (unhide XB) 3, cellOf (unhide YB) 3⟩
  go_wp2_with fail
  refine wp_region_held_drew (S := fun w' => (w'.cell? ⟨Y, 0, none⟩ = some (rowV g1 d.db.length) ∧ w'.cell? ⟨Y, 1, none⟩ = some (rowV g2 d.fl.length) ∧ w'.cell? ⟨Y, 2, none⟩ = some (.bool d.has) ∧ w'.cell? ⟨Y, 3, none⟩ = some (rowV g3 d.jr.length)) ∧ (w'.cell? ⟨w.heap.size, 0, none⟩ = some (.slice a1 d.db.length c1) ∧ w'.cell? ⟨w.heap.size, 1, none⟩ = some (.slice af d.fl.length cf) ∧ w'.cell? ⟨w.heap.size, 2, none⟩ = some (.bool d.has) ∧ w'.cell? ⟨w.heap.size, 3, none⟩ = some (.slice a2 d.jr.length c2))) (by kernel_rfl) ⟨⟨y0, y1, y2, y3⟩, x0, x1, x2, x3⟩ (fun hHeld => ?_)
  clear x0 x1 x2 x3 y0 y1 y2 y3
  refine anyH_at (i := 0) (d := some 22) rfl rfl (by kernel_rfl) (by kernel_rfl) (by kernel_rfl) (fun _ _ _ h => h) (by rfl) (v := ?_) ?_ (by assumption) ?_
  rotate_left
  · (intro w hSw; (try dsimp only at hSw); go_simp <;> with_reducible rfl)
  simp only [Act.put, List.setIfInBounds_toArray, List.set_cons_zero, List.set_cons_succ]
  refine anyH_at (i := 1) (d := some 23) rfl rfl (by kernel_rfl) (by kernel_rfl) (by kernel_rfl) (fun _ _ _ h => h) (by rfl) (v := ?_) ?_ (by assumption) ?_
  rotate_left
  · (intro w hSw; (try dsimp only at hSw); go_simp <;> with_reducible rfl)
  simp only [Act.put, List.setIfInBounds_toArray, List.set_cons_zero, List.set_cons_succ]
  refine wpAnyH_ready (rs := [2]) (by kernel_rfl) (by simp) ?_
  refine AllReadyH.cons rfl (fun K hK => ?_) AllReadyH.nil
  go_simp
  have hd := below_drew w5
  replace XB := hide ((hd.block _ (heapLt (unhide XB))).trans (unhide XB))
  replace YB := hide ((hd.block _ (heapLt (unhide YB))).trans (unhide YB))
  replace BW := hide ((unhide BW).trans (hd.mono (unhide BW).size))
  replace AT := hide ((unhide AT).later hd)
  replace AT2 := hide ((unhide AT2).later hd)
  clear hd
  refine (toDisk_fill _ d _ _ _ (unhide AT)).mono ?_
  rintro e w6 ⟨j1, j2, j3, hg, rfl, hn, b⟩
  replace XB := hide ((b.block _ (heapLt (unhide XB))).trans (unhide XB))
  replace YB := hide ((b.block _ (heapLt (unhide YB))).trans (unhide YB))
  replace BW := hide ((unhide BW).trans (b.mono (unhide BW).size))
  have AT3 := hide (hn.at (unhide AT))
  replace AT2 := hide ((unhide AT2).later b)
  clear hn b hg AT
  go_wp2_with fail
  refine hK.out _ _ ?_ (fun hHeldN => ?_)
  · exact ⟨⟨cellOf (unhide YB) 0, cellOf (unhide YB) 1, cellOf (unhide YB) 2, cellOf (unhide YB) 3⟩, cellOf (unhide XB) 0, cellOf (unhide XB) 1, cellOf (unhide XB) 2, cellOf (unhide XB) 3⟩
  clear hHeld
  have hHeld := hHeldN
  clear hHeldN
  clear hK K
  try simp only [Act.put, List.setIfInBounds_toArray, List.set_cons_zero, List.set_cons_succ]
  refine wpAnyH_ready (rs := [3]) (by kernel_rfl) (by simp) ?_
  refine AllReadyH.cons rfl (fun K hK => ?_) AllReadyH.nil
  go_simp
  refine (eqDisk_any _ d _ _ _ _ _ _ (unhide AT2).p1 (unhide AT2).pf (unhide AT2).p2 (unhide AT3).p1 (unhide AT3).pf (unhide AT3).p2).mono ?_
  rintro e w7 ⟨rfl, b⟩
  replace XB := hide ((b.block _ (heapLt (unhide XB))).trans (unhide XB))
  replace YB := hide ((b.block _ (heapLt (unhide YB))).trans (unhide YB))
  replace BW := hide ((unhide BW).trans (b.mono (unhide BW).size))
  clear b AT2 AT3
  go_wp2_with fail
  refine hK.out _ _ ?_ (fun hHeldN => ?_)
  · exact ⟨⟨cellOf (unhide YB) 0, cellOf (unhide YB) 1, cellOf (unhide YB) 2, cellOf (unhide YB) 3⟩, cellOf (unhide XB) 0, cellOf (unhide XB) 1, cellOf (unhide XB) 2, cellOf (unhide XB) 3⟩
  clear hHeld
  have hHeld := hHeldN
  clear hHeldN
  clear hK K
  try simp only [Act.put, List.setIfInBounds_toArray, List.set_cons_zero, List.set_cons_succ]
  refine anyH_at (i := 4) (d := some 26) rfl rfl (by kernel_rfl) (by kernel_rfl) (by kernel_rfl) (fun _ _ _ h => h) (by rfl) (v := ?_) ?_ (by assumption) ?_
  rotate_left
  · (intro w hSw; (try dsimp only at hSw); go_simp <;> with_reducible rfl)
  simp only [Act.put, List.setIfInBounds_toArray, List.set_cons_zero, List.set_cons_succ]
  refine wpAnyH_done (by kernel_rfl) ?_ _
  clear hHeld
  go_wp2
  go_ret
  exact ⟨rfl, unhide BW⟩
end Go.Proofs.YtoccijcngncghaaDoor

/- What a disk that came in is. -/
namespace Go.Proofs.YtoccijcngncghaaDoor
open Go.RowKit Go.ChangeShapes Go.WideShapes Go.Joins Go.Deep

theorem array4d {cs : Array Value} (h : cs.size = 4) : ∃ a b c d, cs = #[a, b, c, d] := by
  rcases cs with ⟨l⟩
  match l, h with
  | [a, b, c, d], _ => exact ⟨a, b, c, d, rfl⟩
set_option maxRecDepth 100000 in
theorem open_disk {H : Type} {enc : TypeId × Value → H} {W : World} {base b0 : Nat} {r : Reach} {spare : Nat → Bool} {held : Bool} {v : Value} {d : DataW H} {p : List MemPlace} (hv : Value.okWide Tryd.prog W r b0 46 v)
    (h : DataW.Trod enc Tryd.prog W base spare held 46 v d p) : ∃ a1 n1 c1 af nf cf has a2 n2 c2, v = .agg #[.slice a1 n1 c1, .slice af nf cf, .bool has, .slice a2 n2 c2] ∧ DiskIn W a1 n1 c1 af nf cf a2 n2 c2 := by
  obtain ⟨cs, rfl, hsz⟩ := okWide_struct Tryd.underlying46 hv
  obtain ⟨c0, c1, c2, c3, rfl⟩ := array4d (hsz.trans (by kernel_rfl))
  obtain ⟨fuel, hf⟩ := h
  obtain ⟨y0, y1, y2, y3, k, _, _, h0, h1, h2, h3⟩ := trod_struct4 Tryd.underlying46 hf
  have h0' : DataW.trod enc Tryd.prog W base spare held k 44 [c0] = some y0 := h0
  have h1' : DataW.trod enc Tryd.prog W base spare held k 24 [c1] = some y1 := h1
  have h2' : DataW.trod enc Tryd.prog W base spare held k 4 [c2] = some y2 := h2
  have h3' : DataW.trod enc Tryd.prog W base spare held k 44 [c3] = some y3 := h3
  obtain ⟨bb, e2, _⟩ := DataW.trod_bool Tryd.underlying4 h2'
  injection e2 with e2 _
  obtain ⟨a1, n1, k1, e0, hP⟩ := open_pkgs' h0'
  obtain ⟨af, nf, kf, e1, hR⟩ := open_cell h1'
  obtain ⟨a2, n2, k2, e3, hQ⟩ := open_pkgs' h3'
  exact ⟨a1, n1, k1, af, nf, kf, bb, a2, n2, k2, by rw [e0, e1, e2, e3], hP, hR, hQ⟩
end Go.Proofs.YtoccijcngncghaaDoor
