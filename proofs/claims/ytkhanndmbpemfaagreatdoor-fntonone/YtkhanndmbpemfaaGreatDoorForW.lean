import Derived.Test.YtkhanndmbpemfaaGreatDoorMix21
import Derived.Test.YtkhanndmbpemfaaGreatDoorMix8
import Derived.Test.YtkhanndmbpemfaaGreatDoorMix23
import Derived.Laws.OwnMore
/- What spec's l13For returns: what is to be in, in memory of its own; for all rows of packages that can be read, if each package is ok. -/
namespace Go.Proofs.YtkhanndmbpemfaaGreatDoor
open Go.RowKit

/-- A block of truth values. -/
def BoolB (w : World) (g : Nat) (a : List Bool) : Prop := w.heap[g]? = some (.cells (a.map Value.bool).toArray 4 (0, 0))
theorem BoolB.keep {w w' : World} {g : Nat} {a : List Bool} (h : BoolB w g a) (hb : w'.heap[g]? = w.heap[g]?) : BoolB w' g a := hb.trans h
theorem BoolB.lt {w : World} {g : Nat} {a : List Bool} (h : BoolB w g a) : g < w.heap.size := heapLt h
theorem BoolB.later {w w' : World} {g : Nat} {a : List Bool} (h : BoolB w g a) (hb : Below w.heap.size w w') : BoolB w' g a := h.keep (hb.block g h.lt)
theorem BoolB.set {w : World} {g i : Nat} {a : List Bool} {x : Bool} (h : BoolB w g a) : BoolB (w.setCell ⟨g, i, none⟩ (.bool x)) g (a.set i x) := by
  unfold BoolB at *
  rw [heapSet h]
  congr 2
  apply Array.ext'
  rw [Array.toList_setIfInBounds, List.toList_toArray, List.map_set]
theorem BoolB.cell {w : World} {g i : Nat} {a : List Bool} (h : BoolB w g a) (hi : i < a.length) : w.cell? ⟨g, i, none⟩ = some (.bool (a.getD i false)) ∧ w.frozen? ⟨g, i, none⟩ = false := by
  refine ⟨?_, frozenOf h i⟩
  rw [cellOf h, List.getElem?_toArray, List.getElem?_map, List.getElem?_eq_getElem hi, List.getD_eq_getElem?_getD, List.getElem?_eq_getElem hi]
  rfl
theorem infoB : (Tryz.prog.info? 4).map (fun i => (i.zero, i.size, i.bytes)) = some (some (.bool false), 1, 1) := by kernel_rfl
theorem mk_bools (w : World) :
    ∃ WA, (Instr.makeSlice 150 (.int .i64 5) (.int .i64 5)).run Tryz.prog w = .ok (.slice (some ⟨w.heap.size, 0, none⟩) 5 5) WA ∧ BoolB WA w.heap.size (List.replicate 5 false) ∧ Below w.heap.size w WA := by
  obtain ⟨i, hi0, hz0, hz1, hz2⟩ := info_parts infoB
  have h := run_make (P := Tryz.prog) w 150 4 i (.bool false) Tryz.underlying150 hi0 hz0 .i64 .i64 (5 : Int) (5 : Int) (by omega) (Int.le_refl _) (by rw [hz2]; omega) (by omega)
  rw [hz1] at h
  refine ⟨_, h, ?_, below1 w _⟩
  unfold BoolB
  rw [heap_alloc_new]
  have e : madeCells (Value.bool false).cells (Int.toNat 5 * 1) = ((List.replicate 5 false).map Value.bool).toArray := by
    apply Array.ext'
    exact toList_madeCells_one (Value.bool false) 5
  rw [e]
theorem POx.base2 {B B' : Nat} {w : World} {v : Value} {l : List El} (h : POx B w v l) (hB : B' ≤ B) : POx B' w v l :=
  POwn.weak ⟨own_baseP h.own hB, h.el⟩ (fun _ hb => ⟨Nat.le_trans hB hb.1, hb.2⟩)
theorem PrsN.setOut {B G o : Nat} {u : Value} {w : World} {v : Value} {l : List (Int × Int)} (h : PrsN (fun b => B ≤ b) w v l) (hG : G < B) : PrsN (fun b => B ≤ b) (w.setCell ⟨G, o, none⟩ u) v l :=
  h.keep (by simp only [World.setCell, Array.size_modify]; exact Nat.le_refl _) (fun k _ hN => Below.heap_setCell _ _ _ _ (by show k ≠ G; omega))
theorem POx.setOut {B G o : Nat} {u : Value} {w : World} {v : Value} {l : List El} (h : POx B w v l) (hG : G < B) : POx B (w.setCell ⟨G, o, none⟩ u) v l :=
  ⟨own_keepS h.own (fun g _ _ hB _ => Below.heap_setCell _ _ _ _ (by show g ≠ G; omega)), fun e he =>
    ⟨(h.el e he).1.keep (by simp only [World.setCell, Array.size_modify]; exact Nat.le_refl _) (fun k _ hN => Below.heap_setCell _ _ _ _ (by show k ≠ G; omega)),
     (h.el e he).2.keep (by simp only [World.setCell, Array.size_modify]; exact Nat.le_refl _) (fun k _ hN => Below.heap_setCell _ _ _ _ (by show k ≠ G; omega))⟩⟩
def lenOf : Value → Nat
  | .slice _ n _ => n
  | _ => 0
theorem Ix.map_fst_succ {ds : List (Int × Int)} {m : Nat} (hm : m < ds.length) : (ds.take (m + 1)).map (·.1) = (ds.take m).map (·.1) ++ [Pk.fst ds m] := by
  rw [List.take_add_one, (Ix.pair_mem hm).2, List.map_append]
  rfl
theorem Ix.map_name_succ {l : List Ix.Pg} {k : Nat} (hk : k < l.length) : (l.take (k + 1)).map (·.1) = (l.take k).map (·.1) ++ [(Ix.pg l k).1] := by
  rw [Ix.take_pgs hk, List.map_append]
  rfl

set_option maxHeartbeats 8000000 in
set_option maxRecDepth 100000 in
theorem l13For_any {N : Nat → Prop} (w : World) (v u : Value) (st ha : List Ix.Pg) (x : Int) (h : Pks N w v st) (h' : Pks N w u ha) (hst : ∀ p ∈ st, Ix.pOk p = true) (hha : ∀ p ∈ ha, Ix.pOk p = true) (x0 : 1 ≤ x) (x1 : x ≤ 4) :
    Calls Tryz.prog 106 #[v, u, .int .i64 x] w fun e w' => ∃ ov els, e = .returned (.tuple #[ov, .bool (Ix.forD st ha x).isSome]) ∧ POx w.heap.size w' ov els ∧ els.map (·.1) = (Ix.forD st ha x).getD [] ∧ Below w.heap.size w w' := by
  have HS := hide h
  have HH := hide h'
  have HST := hide hst
  have HHA := hide hha
  obtain ⟨va, vc, hv⟩ := h.slice
  subst hv
  obtain ⟨ua, uc, rfl, hulen, hurow⟩ := h'
  clear h hst hha
  obtain ⟨xn, rfl⟩ : ∃ xn : Nat, x = (xn : Int) := ⟨x.toNat, by omega⟩
  have hxn : xn < 5 := by omega
  have hx0 : (0 : Int) ≤ (xn : Int) := by omega
  have hx1 : (xn : Int) < 5 := by omega
  have hFD : Ix.forD st ha xn = Ix.forO (Ix.forF st ha 5 (Ix.forW ha xn) []) := rfl
  have HFD := hide hFD
  obtain ⟨WA, hmk, hG0, b0⟩ := mk_bools w
  obtain ⟨q0, q1⟩ := hG0.cell (i := xn) (by simp; omega)
  have HG1 := hide (hG0.set (i := xn) (x := true))
  have HB1 := hide (below_set (o := xn) (u := .bool true) b0 (Nat.le_refl _))
  have hlt0 := hG0.lt
  clear hFD hG0 b0
  go_enter Tryz.func106, Tryz.ntmps106
  go_wp2_with fail
  go_loopw [9] (fun i w' => ∃ k : Nat, k ≤ ha.length ∧ i = .int .i64 k ∧ BoolB w' w.heap.size (Ix.wAll (List.replicate 5 false) ((xn : Int) :: (ha.take k).map (·.1))) ∧ Below w.heap.size w w') (fun i _ => ha.length - (intOf i).toNat)
  case atStart => exact ⟨0, Nat.zero_le _, rfl, unhide HG1, unhide HB1⟩
  case round =>
    clear HG1 HB1 q0 q1 hmk hlt0
    clear WA
    obtain ⟨k, hk, rfl, hI, hw⟩ := hrel
    have HI := hide hI
    have HW := hide hw
    clear hI hw
    by_cases hlt : k < ha.length
    · obtain ⟨b, off, rfl, hb, _, hc⟩ := hurow (by omega)
      obtain ⟨fv, dv, hAt, hf, hd⟩ := hc k hlt
      have hnm := Ix.pOk_name (unhide HHA _ (Ix.pg_mem hlt))
      have hsu := Ix.map_name_succ hlt
      have hsn := Ix.wAll_snoc (List.replicate 5 false) ((xn : Int) :: (ha.take k).map (·.1)) (Ix.pg ha k).1
      have hwl := Ix.wAll_len ((xn : Int) :: (ha.take k).map (·.1)) (List.replicate 5 false)
      rw [List.cons_append, ← hsu] at hsn
      obtain ⟨c0, c1, c2, c3⟩ := hAt.keep ((unhide HW).block b hb)
      obtain ⟨nn, hnn⟩ : ∃ nn : Nat, (Ix.pg ha k).1 = (nn : Int) := ⟨(Ix.pg ha k).1.toNat, by omega⟩
      rw [hnn] at c0 hnm hsn
      rw [Int.toNat_natCast] at hsn
      have HSN := hide hsn
      generalize Ix.wAll (List.replicate 5 false) ((xn : Int) :: (ha.take k).map (·.1)) = A at *
      have hA5 : A.length = 5 := by rw [hwl]; rfl
      obtain ⟨p0, p1⟩ := (unhide HI).cell (i := nn) (by omega)
      have HI2 := hide ((unhide HI).set (i := nn) (x := true))
      have HW2 := hide (below_set (o := nn) (u := .bool true) (unhide HW) (Nat.le_refl _))
      have hn0 : (0 : Int) ≤ (nn : Int) := by omega
      have hn1 : (nn : Int) < 5 := by omega
      have hi0 : (0 : Int) ≤ (k : Int) := Int.natCast_nonneg _
      have hi1 : (k : Int) < (ha.length : Int) := by omega
      have er : IntKind.i64.wrap ((k : Int) + 1) = (k : Int) + 1 := by simp [IntKind.wrap, IntKind.bits, IntKind.signed]; omega
      clear hAt hf hd hc hurow hsu hsn hwl hnn c1 c2 c3 HI hA5
      go_wp2
      go_roundw
      case rel => exact ⟨k + 1, by omega, by go_num, by rw [unhide HSN]; exact unhide HI2, unhide HW2⟩
      case measure => simp [intOf]; omega
    · obtain rfl : k = ha.length := by omega
      rw [List.take_length] at HI
      have hwl := Ix.wAll_len ((xn : Int) :: ha.map (·.1)) (List.replicate 5 false)
      have HFW : Hid (Ix.forW ha xn = Ix.wAll (List.replicate 5 false) ((xn : Int) :: ha.map (·.1))) := rfl
      generalize Ix.wAll (List.replicate 5 false) ((xn : Int) :: ha.map (·.1)) = W0 at *
      rw [List.length_replicate] at hwl
      have bE := below1 wr (.cells #[] 94)
      have HE := hide (POwn.empty wr)
      have HIE := hide ((unhide HI).later bE)
      have HWE := hide ((unhide HW).trans (bE.mono (unhide HW).size))
      have hGlt := (unhide HI).lt
      clear hlt hurow bE HI HW hk
      go_wp2_with fail
      generalize hwe : wr.heap.size = hs at *
      clear hwe
      generalize wr.alloc _ = W1 at *
      clear wr
      go_loopw [10, 11] (fun o n w' => ∃ (els : List El) (W : List Bool) (k : Nat), n = .int .i64 k ∧ 1 ≤ k ∧ k ≤ 5 ∧ (∀ m, m < k → Ix.miss W (els.map (·.1)) m = false) ∧ W.length = 5 ∧ BoolB w' w.heap.size W ∧ POx (w.heap.size + 1) w' o els ∧ els.length + Ix.lackN (els.map (·.1)) = 4 ∧ Ix.forF st ha (5 - els.length) W (els.map (·.1)) = Ix.forF st ha 5 (Ix.forW ha xn) [] ∧ Below w.heap.size w w') (fun o n _ => (4 - lenOf o) * 6 + (5 - (intOf n).toNat))
      case atStart =>
        exact ⟨[], W0, 1, rfl, by omega, by omega, fun m hm => by obtain rfl : m = 0 := by omega
                                                                  rfl, hwl, unhide HIE, POx.base2 (unhide HE) (by omega), rfl, by rw [unhide HFW]; rfl, unhide HWE⟩
      case round =>
        clear HIE HE HWE HFW hwl
        clear W0 W1
        obtain ⟨els, W, k, rfl, k0, k5, hscan, hW5, hI, hO, hlack, hfor, hw⟩ := hrel
        have hel : els.length ≤ 4 := by omega
        have hpk := (POwn.weak hO (M := fun b => w.heap.size + 1 ≤ b) (fun b hb => hb.1)).pks (fun b hb => hb) (by omega)
        have hll : (els.map (·.1)).length = els.length := List.length_map _
        obtain ⟨out, hout⟩ : ∃ out, out = els.map (·.1) := ⟨_, rfl⟩
        rw [← hout] at hpk hll hscan hlack hfor
        rw [← hll] at hel hlack hfor
        obtain ⟨oa, oc, hov⟩ := hpk.slice
        subst hov
        have HOUT := hide hout
        have HLL := hide hll
        have HI := hide hI
        have HO := hide hO
        have HP := hide hpk
        have HW := hide hw
        have HSC := hide hscan
        have HLK := hide hlack
        have HFO := hide hfor
        have hsz := hw.size
        have hGlt := hI.lt
        clear hout hll hI hO hpk hw hscan hlack hfor
        by_cases hk4 : k ≤ 4
        · have hk0 : (0 : Int) ≤ (k : Int) := by omega
          have hk1 : (k : Int) < 5 := by omega
          have hk2 : (k : Int) ≤ 4 := by omega
          have er : IntKind.i64.wrap ((k : Int) + 1) = (k : Int) + 1 := by simp [IntKind.wrap, IntKind.bits, IntKind.signed]; omega
          obtain ⟨c0, c1⟩ := (unhide HI).cell (i := k) (by omega)
          have hmk : Ix.miss W out k = (W.getD k false && !Ix.isN out k) := by unfold Ix.miss; rw [decide_eq_true k0, Bool.true_and]
          have HMK := hide hmk
          clear hmk c1
          cases hWk : W.getD k false
          · rw [hWk] at c0 HMK
            go_wp2
            go_roundw
            case rel =>
              refine ⟨els, W, k + 1, by go_num, by omega, by omega, fun m hm => ?_, hW5, unhide HI, unhide HO, by rw [← unhide HOUT, ← unhide HLL]; exact unhide HLK, by rw [← unhide HOUT, ← unhide HLL]; exact unhide HFO, unhide HW⟩
              rw [← unhide HOUT]
              rcases Nat.lt_or_ge m k with h1 | h1
              · exact unhide HSC m h1
              · obtain rfl : m = k := by omega
                exact unhide HMK
            case measure => simp [intOf, lenOf]; omega
          rw [hWk] at c0 HMK
          have CI := hide (l13Is_any _ _ out k (unhide HP))
          cases hIs : Ix.isN out k
          · rw [hIs] at CI HMK
            have hfst := Ix.first_some (by omega) (unhide HMK) (unhide HSC)
            have hlk1 := Ix.lackN_pos k0 (by omega) hIs
            have hlk := unhide HLK
            have ho3 : out.length ≤ 3 := by omega
            have HFS := hide hfst
            have HIS := hide hIs
            clear hfst hlk1 hlk hIs HMK
            go_wp2_with fail
            refine (unhide CI).mono ?_
            rintro e w1 ⟨rfl, b1⟩
            have HB1 := hide b1
            clear b1 CI c0
            have HBw1 := hide ((unhide HW).trans ((unhide HB1).mono (unhide HW).size))
            have CP := hide (l13Pick_any w1 (.slice va st.length vc) (.slice ua ha.length uc) st ha k ((unhide HS).later (unhide HBw1)) ((unhide HH).later (unhide HBw1)))
            have hmem := fun hp => (Ix.pick13_mem (st := st) (ha := ha) (n := (k : Int)) hp)
            have HMEM := hide hmem
            have HGO := hide (fun hp => Ix.forF_go (st := st) (ha := ha) (f := 4 - out.length) (unhide HFS) hp)
            have HNO := hide (fun hp => Ix.forF_no (st := st) (ha := ha) (f := 4 - out.length) (unhide HFS) hp)
            clear hmem HFS
            generalize Ix.pick13 st ha k = pd at *
            obtain ⟨⟨nm, vr, fs, ds⟩, bo⟩ := pd
            dsimp only at HMEM HGO HNO
            go_wp2_with fail
            refine (unhide CP).mono ?_
            rintro e w2 ⟨r2, rfl, ⟨fv, dv, rfl, ho⟩, b2⟩
            obtain ⟨fa, fc, da, dc, h1, h2⟩ := ho.forms
            dsimp only at h1 h2
            subst h1 h2
            dsimp only
            have bX := below1 w2 (.cells #[.int .i64 nm, .int .i64 vr, .slice fa fs.length fc, .slice da ds.length dc] 94)
            have b13 := (unhide HB1).trans ((b2.trans (bX.mono b2.size)).mono (unhide HB1).size)
            have HX := hide (heap_alloc_new w2 (.cells #[.int .i64 nm, .int .i64 vr, .slice fa fs.length fc, .slice da ds.length dc] 94))
            have HI3 := hide ((unhide HI).later b13)
            have HO3 := hide ((unhide HO).later b13)
            have HP3 := hide ((unhide HP).later b13)
            have HW3 := hide ((unhide HW).trans (b13.mono (unhide HW).size))
            have HOP := hide (OwP.later ho bX)
            have hsz1 := (unhide HB1).size
            have hsz2 := b2.size
            clear ho b2 bX b13 CP HB1 HBw1 HI HO HP HW
            cases bo
            · have bE := below1 (w2.alloc (.cells #[.int .i64 nm, .int .i64 vr, .slice fa fs.length fc, .slice da ds.length dc] 94)) (.cells #[] 94)
              have hE := POwn.empty (w2.alloc (.cells #[.int .i64 nm, .int .i64 vr, .slice fa fs.length fc, .slice da ds.length dc] 94))
              have hszE := (unhide HW3).size
              rw [sz1] at hE hszE
              have HE := hide hE
              have HWE := hide ((unhide HW3).trans (bE.mono (unhide HW3).size))
              have hF := unhide HNO rfl
              rw [show 4 - out.length + 1 = 5 - out.length from by omega, unhide HFO] at hF
              rw [hF] at HFD
              have hD : Ix.forD st ha xn = none := unhide HFD
              have HD := hide hD
              clear hF hD bE hE
              go_wp2
              exact bodyPost_ret (v := .tuple #[.slice (some ⟨w2.heap.size + 1, 0, none⟩) 0 0, .bool false]) (by simp [results, Tryz.results106, go_sem]) rfl (by rw [unhide HD]; exact ⟨_, rfl, [], POx.base2 (unhide HE) hszE, rfl, unhide HWE⟩)
            · have hF := unhide HGO rfl
              obtain ⟨hm1, hm2⟩ := unhide HMEM rfl
              have hpok : Ix.pOk (nm, vr, fs, ds) = true := hm1.elim (unhide HST _) (unhide HHA _)
              obtain ⟨hl1, hl2⟩ := Ix.pOk_lens hpok
              have hdep := Ix.pOk_dep hpok
              dsimp only at hm2 hl1 hl2 hdep hF
              have HDEP := hide hdep
              have HF := hide hF
              have HM2 := hide hm2
              clear hF hm1 hm2 hpok hdep HGO HNO HMEM
              have hN3 : ∀ b, w.heap.size + 1 ≤ b → w.heap.size + 1 ≤ b := fun _ h => h
              have hf3 := PrsN.own (N := fun b => w.heap.size + 1 ≤ b) (l := fs) (unhide HOP).f (by omega) (fun b hb => by omega)
              have hd3 := PrsN.own (N := fun b => w.heap.size + 1 ≤ b) (l := ds) (unhide HOP).d (by omega) (fun b hb => by omega)
              have HFD3 := hide (And.intro hf3 hd3)
              have CW := hide (l12With_any _ _ out (nm, vr, fs, ds) _ _ (unhide HP3).bound hf3.bound hd3.bound (by omega))
              have hx3 := unhide HX
              obtain ⟨y0, y1, y2, y3⟩ : _ ∧ _ ∧ _ ∧ _ := ⟨cellOf hx3 0, cellOf hx3 1, cellOf hx3 2, cellOf hx3 3⟩
              have hisN : Ix.isN out (nm, vr, fs, ds).1 = false := by dsimp only; rw [unhide HM2]; exact unhide HIS
              have hmore := Ix.wth_more hisN
              have hlless := Ix.lackN_less (p := (nm, vr, fs, ds)) k0 (by omega) (unhide HM2) (unhide HIS)
              have HMORE := hide (And.intro hmore hlless)
              have hXw : w.heap.size < w2.heap.size := by omega
              clear hf3 hd3 hN3 hx3 hisN hmore hlless HOP HIS HM2 HO3 HP3
              go_wp2_with fail
              refine (unhide CW).mono ?_
              rintro e w4 ⟨ov, els4, rfl, hpo, hmap, hb4⟩
              have hlen4 : els4.length = out.length + 1 := by rw [← (unhide HMORE).1, ← hmap, List.length_map]
              have HL4 := hide hlen4
              clear hlen4
              have hszA := (unhide HW3).size
              have HP4 : Hid (POx (w.heap.size + 1) w4 ov els4) := POwn.weak ⟨own_baseP hpo.own (by have := unhide HX; have := heapLt this; omega), hpo.el⟩ (fun b hb => ⟨hb.1, fun e => by have := (own_row hpo.own b e).1; have := hb.2; omega⟩)
              have HX4 := hide ((hb4.block _ (heapLt (unhide HX))).trans (unhide HX))
              have HI4 := hide ((unhide HI3).later hb4)
              have HD4 := hide ((unhide HFD3).2.later hb4)
              have HW4 := hide ((unhide HW3).trans (hb4.mono (unhide HW3).size))
              have HMAP := hide hmap
              obtain ⟨pa, pc, hov⟩ := own_formS (unhide HP4).own
              subst hov
              clear hpo hmap hb4 CW y0 y1 y2 y3 HI3 HFD3 HW3 HX hszA
              generalize w2.heap.size = X at *
              go_wp2_with fail
              go_loopw [14] (fun i w' => ∃ j : Nat, j ≤ ds.length ∧ i = .int .i64 j ∧ BoolB w' w.heap.size (Ix.wAll W ((ds.take j).map (·.1))) ∧ POx (w.heap.size + 1) w' (.slice pa els4.length pc) els4 ∧ w'.heap[X]? = some (.cells #[.int .i64 nm, .int .i64 vr, .slice fa fs.length fc, .slice da ds.length dc] 94 (0, 0)) ∧ PrsN (fun b => w.heap.size + 1 ≤ b) w' (.slice da ds.length dc) ds ∧ Below w.heap.size w w') (fun i _ => ds.length - (intOf i).toNat)
              case atStart => exact ⟨0, Nat.zero_le _, rfl, unhide HI4, unhide HP4, unhide HX4, unhide HD4, unhide HW4⟩
              case round =>
                clear HI4 HP4 HX4 HD4 HW4
                obtain ⟨j, hj, rfl, hI, hO, hX, hD, hw⟩ := hrel
                have HI := hide hI
                have HO := hide hO
                have HXx := hide hX
                have HDx := hide hD
                have HW := hide hw
                have y3 := cellOf hX 3
                clear hI hO hX hw
                by_cases hlt : j < ds.length
                · obtain ⟨da', dc', hdv, _, hdr⟩ := hD
                  injection hdv with hdv1 _ hdv2
                  subst hdv1 hdv2
                  obtain ⟨db, dof, rfl, hdb, _, hdc⟩ := hdr (by omega)
                  obtain ⟨d0, d1⟩ := hdc j hlt
                  have hbd := (unhide HDEP j hlt).1
                  have hsu := Ix.map_fst_succ hlt
                  have hsn := Ix.wAll_snoc W ((ds.take j).map (·.1)) (Pk.fst ds j)
                  have hwl := Ix.wAll_len ((ds.take j).map (·.1)) W
                  rw [← hsu] at hsn
                  obtain ⟨nn, hnn⟩ : ∃ nn : Nat, Pk.fst ds j = (nn : Int) := ⟨(Pk.fst ds j).toNat, by omega⟩
                  rw [hnn] at d0 hbd hsn
                  rw [Int.toNat_natCast] at hsn
                  have HSN := hide hsn
                  generalize Ix.wAll W ((ds.take j).map (·.1)) = A at *
                  obtain ⟨p0, p1⟩ := (unhide HI).cell (i := nn) (by omega)
                  have HI2 := hide ((unhide HI).set (i := nn) (x := true))
                  have HO2 := hide ((unhide HO).setOut (o := nn) (u := .bool true) (Nat.lt_succ_self w.heap.size))
                  have HD2 := hide ((unhide HDx).setOut (o := nn) (u := .bool true) (Nat.lt_succ_self w.heap.size))
                  have HX2 := hide ((Below.heap_setCell wr ⟨w.heap.size, nn, none⟩ (.bool true) X (by show X ≠ w.heap.size; omega)).trans (unhide HXx))
                  have HW2 := hide (below_set (o := nn) (u := .bool true) (unhide HW) (Nat.le_refl _))
                  have hn0 : (0 : Int) ≤ (nn : Int) := by omega
                  have hn1 : (nn : Int) < 5 := by omega
                  have hi0 : (0 : Int) ≤ (j : Int) := Int.natCast_nonneg _
                  have hi1 : (j : Int) < (ds.length : Int) := by omega
                  have er2 : IntKind.i64.wrap ((j : Int) + 1) = (j : Int) + 1 := by simp [IntKind.wrap, IntKind.bits, IntKind.signed]; omega
                  clear hdr hdc hsu hsn hwl hnn d1 HI HO HDx HXx HW
                  go_wp2
                  go_roundw
                  case rel => exact ⟨j + 1, by omega, by go_num, by rw [unhide HSN]; exact unhide HI2, unhide HO2, unhide HX2, unhide HD2, unhide HW2⟩
                  case measure => simp [intOf]; omega
                · obtain rfl : j = ds.length := by omega
                  rw [List.take_length] at HI
                  have hwl := Ix.wAll_len (ds.map (·.1)) W
                  clear hlt hD
                  go_wp2
                  go_roundw
                  case rel =>
                    have hlen4 := unhide HL4
                    refine ⟨els4, _, 1, rfl, by omega, by omega, fun m hm => ?_, by rw [hwl]; exact hW5, unhide HI, unhide HO, ?_, ?_, unhide HW⟩
                    · obtain rfl : m = 0 := by omega
                      rfl
                    · have h1 := (unhide HMORE).2
                      have h2 := unhide HLK
                      rw [unhide HMAP]
                      omega
                    · have h1 := unhide HFO
                      have h2 := unhide HF
                      rw [show 4 - out.length + 1 = 5 - out.length from by omega, h1] at h2
                      rw [unhide HMAP, h2, show 5 - els4.length = 4 - out.length from by omega]
                  case measure => have hlen4 := unhide HL4; simp [intOf, lenOf]; omega
          · rw [hIs] at CI HMK
            go_wp2_with fail
            refine (unhide CI).mono ?_
            rintro e w1 ⟨rfl, b1⟩
            have HI1 := hide ((unhide HI).later b1)
            have HO1 := hide ((unhide HO).later b1)
            have HW1 := hide ((unhide HW).trans (b1.mono (unhide HW).size))
            clear b1 CI c0 HI HO HW
            go_wp2
            go_roundw
            case rel =>
              refine ⟨els, W, k + 1, by go_num, by omega, by omega, fun m hm => ?_, hW5, unhide HI1, unhide HO1, by rw [← unhide HOUT, ← unhide HLL]; exact unhide HLK, by rw [← unhide HOUT, ← unhide HLL]; exact unhide HFO, unhide HW1⟩
              rw [← unhide HOUT]
              rcases Nat.lt_or_ge m k with h1 | h1
              · exact unhide HSC m h1
              · obtain rfl : m = k := by omega
                exact unhide HMK
            case measure => simp [intOf, lenOf]; omega
        · obtain rfl : k = 5 := by omega
          have hk2 : ¬ ((5 : Nat) : Int) ≤ 4 := by omega
          have hfe := Ix.forF_end (st := st) (ha := ha) (f := 4 - out.length) (Ix.first_none (unhide HSC))
          rw [show 4 - out.length + 1 = 5 - out.length from by omega, unhide HFO] at hfe
          rw [hfe] at HFD
          have HFE : Hid (Ix.forD st ha xn = if Ix.planOk out = true then some out else none) := HFD
          clear hfe HFD HFO HSC HLK
          have CK := hide (specPlanOk_any _ _ out (unhide HP))
          cases hpo : Ix.planOk out
          · rw [hpo] at CK HFE
            have hD : Ix.forD st ha xn = none := unhide HFE
            have HD := hide hD
            clear hD hpo HFE
            go_wp2_with fail
            refine (unhide CK).mono ?_
            rintro e w1 ⟨rfl, b1⟩
            have bE := below1 w1 (.cells #[] 94)
            have HE := hide (POwn.empty w1)
            have hB1 := (unhide HW).trans (b1.mono (unhide HW).size)
            have HWE := hide (hB1.trans (bE.mono hB1.size))
            have hszE := hB1.size
            clear bE b1 CK hB1
            go_wp2
            exact bodyPost_ret (v := .tuple #[.slice (some ⟨w1.heap.size, 0, none⟩) 0 0, .bool false]) (by simp [results, Tryz.results106, go_sem]) rfl (by rw [unhide HD]; exact ⟨_, [], rfl, POx.base2 (unhide HE) hszE, rfl, unhide HWE⟩)
          · rw [hpo] at CK HFE
            have hD : Ix.forD st ha xn = some out := unhide HFE
            have HD := hide hD
            clear hD hpo HFE
            go_wp2_with fail
            refine (unhide CK).mono ?_
            rintro e w1 ⟨rfl, b1⟩
            have HO1 := hide (POx.base2 ((unhide HO).later b1) (Nat.le_succ _))
            have HW1 := hide ((unhide HW).trans (b1.mono (unhide HW).size))
            clear b1 CK HO HW
            go_wp2
            exact bodyPost_ret (v := .tuple #[.slice oa out.length oc, .bool true]) (by simp [results, Tryz.results106, go_sem]) rfl (by rw [unhide HD]; exact ⟨_, els, rfl, unhide HO1, (unhide HOUT).symm, unhide HW1⟩)
end Go.Proofs.YtkhanndmbpemfaaGreatDoor
