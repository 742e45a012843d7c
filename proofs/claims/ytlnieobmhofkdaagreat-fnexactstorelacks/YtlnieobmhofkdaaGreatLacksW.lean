import Derived.Test.YtlnieobmhofkdaaGreatMeetsW
import Derived.Test.YtlnieobmhofkdaaGreatMix12
import Derived.Test.YtlnieobmhofkdaaGreatMix15
import Derived.Test.YtlnieobmhofkdaaGreatMix6
import Derived.Test.YtlnieobmhofkdaaGreatStoreOkW
import Derived.RangeFuncBox
import Derived.OwnWalkIn
/- What impl.StoreLacks returns: of what an index tells that is not kept; for all trust and all packages that can be read; nothing old is written. -/
namespace Go.Proofs.YtlnieobmhofkdaaGreat
open Go.RowKit Go.Shelf

attribute [local go_sem] Oper.semAt_some

abbrev mP (x : Ix.M) : Prop := (1 ≤ x.1 ∧ x.1 ≤ 4) ∧ (1 ≤ x.2.1 ∧ x.2.1 ≤ 5) ∧ (0 ≤ x.2.2 ∧ x.2.2 ≤ 9972)

set_option maxHeartbeats 4000000 in
set_option maxRecDepth 100000 in
theorem implLacks_any {N : Nat → Prop} (w : World) (t : Tr.T) (kv mv v : Value) (l : List Ix.Pg) (hk : Ins w kv t.ks) (hm : Trs w mv t.ms) (h : Pks N w v l) :
    Calls Tryz.prog 9 #[tvT t kv mv, v] w fun e w' => ∃ u, e = .returned u ∧ OwM w.heap.size w' u (Ix.lacksA t l) ∧ Below w.heap.size w w' := by
  have hbad : t.ok = false → Ix.lacksA t l = [] := fun h => Ix.lacksA_bad h
  have hoff : Ix.pkgsOk l = false → Ix.lacksA t l = [] := fun h => Ix.lacksA_off h
  have hyes : t.ok = true → Ix.pkgsOk l = true → Ix.lacksA t l = Ix.lacks12 t.ms l := fun h1 h2 => Ix.lacksA_yes h1 h2
  have hms : t.ok = true → _ := fun h => Ix.ok_ms h
  have HA := hide (And.intro hbad (And.intro hoff (And.intro hyes hms)))
  clear hbad hoff hyes hms
  obtain ⟨n, ks, d, has, num, til, ms⟩ := t
  dsimp only at hk hm HA
  obtain ⟨ka, kc, hkv⟩ := hk.slice
  obtain ⟨ma, mc, hmv⟩ := hm.slice
  obtain ⟨va, vc, hv⟩ := h.slice
  subst hkv hmv hv
  have hlen : l.length ≤ 1000000000 := by obtain ⟨_, _, _, h, _⟩ := h; exact h
  have B0 := below1 w (.cells #[.int .i64 n, .slice ka ks.length kc, .int .i64 d, .bool has, .int .i64 num, .int .i64 til, .slice ma ms.length mc] 39)
  have HX := hide (heap_alloc_new w (.cells #[.int .i64 n, .slice ka ks.length kc, .int .i64 d, .bool has, .int .i64 num, .int .i64 til, .slice ma ms.length mc] 39))
  have IK := hide (hk.later B0)
  have IM := hide (hm.later B0)
  have IM0 := hide hm
  have PS := hide (h.later B0)
  have BW := hide B0
  have CT := hide (fun (W : World) h1 h2 => implTrustOk_any W n d (.slice ka ks.length kc) ks has num til (.slice ma ms.length mc) ms h1 h2)
  dsimp only [tvT, tv] at CT ⊢
  clear B0 hk hm h
  obtain ⟨x0, x1, x2, x3, x4, x5, x6⟩ : _ ∧ _ ∧ _ ∧ _ ∧ _ ∧ _ ∧ _ := ⟨cellOf (unhide HX) 0, cellOf (unhide HX) 1, cellOf (unhide HX) 2, cellOf (unhide HX) 3, cellOf (unhide HX) 4, cellOf (unhide HX) 5, cellOf (unhide HX) 6⟩
  cases hT : Tr.ok n ks d has num til ms
  · have HE := hide ((unhide HA).1 hT)
    rw [hT] at CT
    clear hT HA
    go_enter Tryz.func9, Tryz.ntmps9
    go_wp2_with fail
    refine (unhide CT _ (unhide IK) (unhide IM)).mono ?_
    rintro e w1 ⟨rfl, b⟩
    have BF := hide ((unhide BW).trans (b.mono (unhide BW).size))
    clear b CT HX IK IM IM0 PS BW x0 x1 x2 x3 x4 x5 x6
    go_wp2
    go_ret
    exact ⟨_, rfl, by rw [unhide HE]; exact World.ownsRow_nil _ _ _ _, unhide BF⟩
  cases hS : Ix.pkgsOk l
  · have HE := hide ((unhide HA).2.1 hS)
    rw [hT] at CT
    clear hT HA
    have CS := hide (fun (W : World) h1 => implStoreOk_any (N := N) W (.slice va l.length vc) l h1)
    rw [hS] at CS
    clear hS
    go_enter Tryz.func9, Tryz.ntmps9
    go_wp2_with fail
    refine (unhide CT _ (unhide IK) (unhide IM)).mono ?_
    rintro e w1 ⟨rfl, b⟩
    replace PS := hide ((unhide PS).later b)
    replace BW := hide ((unhide BW).trans (b.mono (unhide BW).size))
    clear b CT HX IK IM IM0 x0 x1 x2 x3 x4 x5 x6
    go_wp2_with fail
    refine (unhide CS _ (unhide PS)).mono ?_
    rintro e w2 ⟨rfl, b⟩
    have BF := hide ((unhide BW).trans (b.mono (unhide BW).size))
    clear b CS PS BW
    go_wp2
    go_ret
    exact ⟨_, rfl, by rw [unhide HE]; exact World.ownsRow_nil _ _ _ _, unhide BF⟩
  have HE := hide ((unhide HA).2.2.1 hT hS)
  obtain ⟨hml, hmem⟩ := (unhide HA).2.2.2 hT
  have HMEM := hide hmem
  rw [hT] at CT
  have CS := hide (fun (W : World) h1 => implStoreOk_any (N := N) W (.slice va l.length vc) l h1)
  rw [hS] at CS
  have CO := hide (fun (W : World) h1 => shelvesOf_any (N := N) W (.slice va l.length vc) l h1 hS)
  have hl20 := Ix.pkgs_len hS
  have HSM := hide (small_pkgs hS)
  clear hT hS HA hmem
  have hltx : w.heap.size < (w.alloc (.cells #[.int .i64 n, .slice ka ks.length kc, .int .i64 d, .bool has, .int .i64 num, .int .i64 til, .slice ma ms.length mc] 39)).heap.size := heapLt (unhide HX)
  refine (callsIn_wide (n := 5)).1 ?_
  refine callsIn_of_wp_marks Tryz.func9 rfl trivial ?_ rfl
  simp only [Tryz.ntmps9, List.size_toArray, List.length_cons, List.length_nil, Nat.reduceAdd, Nat.reduceSub, Array.replicate_succ, Array.replicate_zero, List.push_toArray, List.append_toArray, List.nil_append, List.cons_append]
  gi_wp2_with (refine ⟨trivial, ?_⟩; first
    | (gi_at_call 28; refine (callsIn_wide.2 (unhide CT _ (unhide IK) (unhide IM))).mono ?_; rintro e w1 ⟨rfl, b⟩; have PS1 := hide ((unhide PS).later b); have BW1 := hide ((unhide BW).trans (b.mono (unhide BW).size)); have HX1 := hide ((b.block _ (heapLt (unhide HX))).trans (unhide HX)); clear b)
    | (gi_at_call 29; refine (callsIn_wide.2 (unhide CS _ (unhide PS1))).mono ?_; rintro e w2 ⟨rfl, b⟩; have PS2 := hide ((unhide PS1).later b); have BW2 := hide ((unhide BW1).trans (b.mono (unhide BW1).size)); have HX2 := hide ((b.block _ (heapLt (unhide HX1))).trans (unhide HX1)); clear b)
    | (gi_at_call 30; refine (callsIn_wide.2 (unhide CO _ (unhide PS2))).mono ?_; rintro e w3 ⟨V, E, rfl, hMM, hSS, hDD, b⟩; have HM := hide hMM; have HS := hide hSS; have HD := hide hDD; have BW3 := hide ((unhide BW2).trans (b.mono (unhide BW2).size)); have HX3 := hide ((b.block _ (heapLt (unhide HX2))).trans (unhide HX2)); clear b hMM hSS hDD x0 x1 x2 x3 x4 x5 x6; have hlx3 := heapLt (unhide HX3); obtain ⟨x4, x5, x6⟩ : _ ∧ _ ∧ _ := ⟨cellOf (unhide HX3) 4, cellOf (unhide HX3) 5, cellOf (unhide HX3) 6⟩)
    | (gi_at_call 31; refine (metasOf_in _ _ _ _ _ _ _).mono ?_; rintro e w' ⟨rfl, rfl⟩))
  have hkz : (w3.alloc (.cells #[.map (some w2.heap.size)] 72)).heap.size = w3.heap.size + 1 := by simp
  have HKB := hide (heap_alloc_new w3 (.cells #[.map (some w2.heap.size)] 72))
  have bk := below1 w3 (.cells #[.map (some w2.heap.size)] 72)
  have HMK := hide ((unhide HM).later bk)
  have HSK := hide ((unhide HS).later bk)
  have BWK := hide ((unhide BW3).trans (bk.mono (unhide BW3).size))
  have hsw := (unhide BW3).size
  obtain ⟨i0, hI0, hz0, hz1, hz2⟩ := info_parts infoMeta
  clear HM HS bk BW3 BW2 BW1 BW HX HX1 HX2 HX3 IK IM PS PS1 PS2 CT CS CO x4 x5 x6 hlx3 hltx
  generalize w3.alloc _ = Wk at *
  have HKZ := hide hkz
  have b1 : ((Wk.alloc (.cells #[.slice none 0 0] 33)).alloc (.cells #[.int .i64 num, .int .i64 til, .slice ma ms.length mc] 37)).heap[w3.heap.size + 1]? = some (.cells #[.slice none 0 0] 33 (0, 0)) := by
    have b := heap_alloc_new Wk (.cells #[.slice none 0 0] 33)
    rw [hkz] at b
    exact (Below.heap_alloc _ _ (w3.heap.size + 1) (by simp; omega)).trans b
  have b3 : ((Wk.alloc (.cells #[.slice none 0 0] 33)).alloc (.cells #[.int .i64 num, .int .i64 til, .slice ma ms.length mc] 37)).heap[w3.heap.size + 1 + 1]? = some (.cells #[.int .i64 num, .int .i64 til, .slice ma ms.length mc] 37 (0, 0)) := by
    have b := heap_alloc_new (Wk.alloc (.cells #[.slice none 0 0] 33)) (.cells #[.int .i64 num, .int .i64 til, .slice ma ms.length mc] 37)
    simp only [World.size_alloc] at b
    rw [hkz] at b
    exact b
  have hBk : Below (w3.heap.size + 1) Wk ((Wk.alloc (.cells #[.slice none 0 0] 33)).alloc (.cells #[.int .i64 num, .int .i64 til, .slice ma ms.length mc] 37)) := ((Below.refl _ Wk).alloc (by omega) _).alloc (by simp; omega) _
  have hB0 := (unhide BWK).trans (hBk.mono (by omega))
  have hsz : ((Wk.alloc (.cells #[.slice none 0 0] 33)).alloc (.cells #[.int .i64 num, .int .i64 til, .slice ma ms.length mc] 37)).heap.size = w3.heap.size + 3 := by simp; omega
  generalize (Wk.alloc _).alloc _ = W0 at *
  refine wpIn_rangeFunc_ownH rfl (by omega) (gf := 61) (lb := #[.pointer (some ⟨w3.heap.size + 1 + 1, 0, none⟩)]) rfl trivial (enters_of Tryz.func61 (by kernel_rfl) rfl)
    (metas_stopsP mP 4 (by omega) (w3.heap.size + 1 + 1) w.heap.size _ ms (unhide HMEM) W0 (by omega) (by omega) (cellOf b3 2) w rfl (unhide IM0) hB0) belowK_t (belowK_b (by omega)) (Below.refl _ _) (fun _ => rfl)
    (fun (pre : List { x : Ix.M // mP x }) W => (∃ v, Boxed W (w3.heap.size + 1) 33 v ∧ W.ownsRow (w3.heap.size + 1) 60 3 v (Ix.lacks12 (pre.map (fun x => x.1)) l).length (flat3 (Ix.lacks12 (pre.map (fun x => x.1)) l)) ∧ True) ∧ Below (w3.heap.size + 1) Wk W)
    (fun _ _ _ => False)
    (OwnFrom.and (Own.from (holdsRow_own _ _ _ _ _ (fun (pre : List { x : Ix.M // mP x }) => (Ix.lacks12 (List.map (fun x => x.1) pre) l).length) (fun (pre : List { x : Ix.M // mP x }) => flat3 (Ix.lacks12 (List.map (fun x => x.1) pre) l)) (fun _ _ => True)) _) (ownFrom_below (by omega) (by omega)))
    (fun _ _ _ _ _ hs _ _ => hs)
    ⟨⟨_, b1, World.ownsRow_nil _ _ _ _, trivial⟩, hBk⟩
    (fun (x : { x : Ix.M // mP x }) a' W => ∃ Bx, w3.heap.size + 1 < Bx ∧ W.heap[Bx]? = some (.cells #[.int .i64 x.1.1, .int .i64 x.1.2.1, .int .i64 x.1.2.2] 60 (0, 0)) ∧ ∃ e0 e1 e2 e3 e4 e8 e9 e10 e11 e12 e13 e14 e15 e16 e17 e18 e19 e20 e21 e22 e23 e24 e25 e26 e27 e28 e29 e30, a' = { tmps := #[e0, e1, e2, e3, e4, .pointer (some ⟨w3.heap.size, 0, none⟩), .pointer (some ⟨w3.heap.size + 1, 0, none⟩), .pointer (some ⟨Bx, 0, none⟩), e8, e9, e10, e11, e12, e13, e14, e15, e16, e17, e18, e19, e20, e21, e22, e23, e24, e25, e26, e27, e28, e29, e30], defers := [] })
    (fun x a' _ X Y row hs hg hr => by obtain ⟨Bx, e1, e2, e3⟩ := hs; exact ⟨Bx, e1, blk_own Bx 60 (fun (_ : Unit) => #[.int .i64 x.1.1, .int .i64 x.1.2.1, .int .i64 x.1.2.2]) () X Y row e2 hg (fun r e => (hr r e).2), e3⟩)
    ?assign ?body ?done ?stop
  case assign =>
    rintro l0 pre x W K ⟨⟨v, hbx, hrow, _⟩, hBW⟩ hK
    have hlb := hbx.lt
    have hsW := hBW.size
    gi_wp2
    exact hK _ _ ((KeepsOthers.alloc _ _).from _) ((Below.refl _ W).alloc (by omega) _) ⟨⟨v, hbx.alloc _, hrow.alloc _, trivial⟩, hBW.alloc (by omega) _⟩ ⟨W.heap.size, hlb, heap_alloc_new W _, _, _, _, _, _, _, _, _, _, _, _, _, _, _, _, _, _, _, _, _, _, _, _, _, _, _, _, _, rfl⟩
  case body =>
    rintro l0 pre x a' W hl ⟨r, hr⟩ ⟨⟨v, hbx, hrow, _⟩, hBW⟩ ⟨Bx, hBx, bX, e0, e1, e2, e3, e4, e8, e9, e10, e11, e12, e13, e14, e15, e16, e17, e18, e19, e20, e21, e22, e23, e24, e25, e26, e27, e28, e29, e30, rfl⟩ hlt
    obtain ⟨⟨p0, p1⟩, _, _⟩ := x.2
    have hsW := hBW.size
    have hlb := hbx.lt
    have hlk := Ix.lacks12_le (pre.map (fun x => x.1)) l
    rw [List.length_map] at hlk
    have hsn := Ix.lacks12_snoc (pre.map (fun x => x.1)) x.1 l
    have hmp : (pre ++ [x]).map (fun x => x.1) = pre.map (fun x => x.1) ++ [x.1] := by rw [List.map_append]; rfl
    rw [← hmp] at hsn
    have hEl : (E x.1.1).map (·.1) = Ix.shelf l x.1.1 := unhide HD x.1.1
    have hEn : (E x.1.1).length ≤ 900 := by
      have h1 := congrArg List.length hEl
      rw [List.length_map] at h1
      have h2 : (Ix.shelf l x.1.1).length ≤ l.length := List.length_filter_le _ _
      omega
    have hEs : ∀ e ∈ E x.1.1, e.1.2.2.1.length ≤ 1000 ∧ e.1.2.2.2.length ≤ 1000 := fun e he => by
      have h1 : e.1 ∈ Ix.shelf l x.1.1 := by rw [← hEl]; exact List.mem_map_of_mem he
      exact (unhide HSM).2 e.1 (List.mem_filter.1 h1).1
    have hbk2 : Below Wk.heap.size Wk W := by rw [unhide HKZ]; exact hBW
    have kb := (hBW.block w3.heap.size (by omega)).trans (unhide HKB)
    have CM := hide (meets_any W w2.heap.size l.length V E x.1.1 x.1.2.1 x.1.2.2 ((unhide HMK).later hbk2) ((unhide HSK).later hbk2) ⟨p0, p1⟩ hEn hEs)
    have hxx : (x.1.1, x.1.2.1, x.1.2.2) = x.1 := rfl
    rw [hEl, hxx, Ix.met_shelf rfl] at CM
    have k0 := cellOf kb 0
    have y0 := cellOf bX 0
    have y1 := cellOf bX 1
    have y2 := cellOf bX 2
    have HSN := hide hsn
    have HBX := hide hbx
    have HROW := hide hrow
    have HBW := hide hBW
    have HXB := hide bX
    clear hsn hmp hEl hEn hEs hbk2 kb hxx hbx hrow hBW bX hr b1 b3 hB0 hBk
    cases hq : metIn l x.1
    · rw [hq] at CM
      have hsn := unhide HSN
      rw [if_neg (by rw [hq]; simp)] at hsn
      have HSN2 := hide hsn
      clear hsn hq HSN
      have hW1 : ∀ W1 : World, Below W.heap.size W W1 → w3.heap.size + 1 ≤ W1.heap.size := fun W1 h => by have := h.size; omega
      gi_wp2_with (first
        | (refine ⟨trivial, ?_⟩; gi_at_call 32; refine (CallsIn.inRound l0 (callsIn_wide.2 (unhide CM))).mono ?_; rintro e W1 ⟨rfl, hb1⟩; have HB1 := hide hb1; have hbx1 : Boxed W1 (w3.heap.size + 1) 33 v := (hb1.block _ hlb).trans (unhide HBX); have HBX1 := hide hbx1; have HXB1 := hide ((hb1.block _ (heapLt (unhide HXB))).trans (unhide HXB)); have hrow1 := own_later (unhide HROW) hb1; have HROW1 := hide hrow1; have z0 := cellOf (unhide HXB1) 0; have z1 := cellOf (unhide HXB1) 1; have z2 := cellOf (unhide HXB1) 2; have c0 := hbx1.cell; have hs1 := hW1 _ hb1; clear hb1 hbx1 hrow1)
        | (gi_at_builtin; refine wpListIn_append_own _ rfl _ _ 33 rfl (w3.heap.size + 1) 60 i0 _ 3 24 Tryz.underlying33 hI0 hz0 hz1 hz2 rfl (by decide) v _ _ rfl ((unhide HROW1).alloc _) ⟨W1.heap.size, 0, none⟩ 1 1 [.int .i64 x.1.1, .int .i64 x.1.2.1, .int .i64 x.1.2.2] rfl rfl (World.news_of_block (heap_alloc_new W1 (.cells #[.int .i64 x.1.1, .int .i64 x.1.2.1, .int .i64 x.1.2.2] 60))) (by simp [Value.oneCell']) (by unfold maxLen; omega) (by omega) (by simp; omega) ?_; intro v' W2 hown hgrow _; obtain ⟨q1, q2, q3, q4, q5⟩ := Boxed.appended (tmp := .cells #[.int .i64 x.1.1, .int .i64 x.1.2.1, .int .i64 x.1.2.2] 60) (unhide HBX1) (by decide) (unhide HROW1) (by omega) (Nat.le_refl _) hown hgrow; obtain ⟨g9, c9, hv9⟩ := ownsRow_succ hown; subst hv9; have Q2 := hide q2; have Q3 := hide q3; have Q4 := hide q4; have Q5 := hide q5; have c2 := q1.cell; have f2 := q1.frozen; clear hown hgrow q1 q2 q3 q4 q5))
      exact ⟨((keeps_below (unhide HB1)).trans (unhide Q4)).from _, ((unhide HB1).mono (by omega)).trans ((unhide Q5).mono (by omega)), ⟨⟨_, unhide Q2, by rw [unhide HSN2, flat3_snoc, List.length_append]; exact unhide Q3, trivial⟩, ((unhide HBW).trans ((unhide HB1).mono (by omega))).trans (unhide Q5)⟩⟩
    · rw [hq] at CM
      have hsn := unhide HSN
      rw [if_pos hq] at hsn
      have HSN2 := hide hsn
      clear hsn hq HSN
      gi_wp2_with (refine ⟨trivial, ?_⟩; first
        | (gi_at_call 32; refine (CallsIn.inRound l0 (callsIn_wide.2 (unhide CM))).mono ?_; rintro e W1 ⟨rfl, hb1⟩; have HB1 := hide hb1; clear hb1))
      exact ⟨(keeps_below (unhide HB1)).from _, (unhide HB1).mono (by omega), ⟨⟨v, ((unhide HB1).block _ hlb).trans (unhide HBX), by rw [unhide HSN2]; exact own_later (unhide HROW) (unhide HB1), trivial⟩, (unhide HBW).trans ((unhide HB1).mono (by omega))⟩⟩
  case done =>
    rintro D zs W hD hzs ⟨⟨v, hbx, hrow, _⟩, hBW⟩ hK
    rw [hzs] at hrow
    have c0 := hbx.cell
    have hsW := hBW.size
    gi_wp2
    refine ⟨by simp, .inl ⟨_, _, rfl, run_takeDeferred hK, ?_⟩⟩
    exact ⟨_, results_tmp rfl _ _ _, ⟨v, rfl, by rw [unhide HE]; exact own_base' (ownsRow_putObj hrow _ hK rfl) (by omega), ((unhide BWK).trans (hBW.mono (by omega))).trans (belowK_b (w := w) (Nat.le_refl _) W D _ _ (by omega) hK rfl rfl)⟩⟩
  case stop =>
    rintro D c pre W _ _ h _
    exact h.elim
end Go.Proofs.YtlnieobmhofkdaaGreat
