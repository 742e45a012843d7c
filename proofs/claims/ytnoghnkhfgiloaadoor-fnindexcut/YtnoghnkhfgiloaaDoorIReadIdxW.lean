/- What impl.readIndex returns: what a text says, its row the call's own, or the one error; of texts of at most 120 bytes; nothing old is written. -/
import Derived.Test.YtnoghnkhfgiloaaDoorIReadW
import Derived.Test.YtnoghnkhfgiloaaDoorIndexOfW
namespace Go.Proofs.YtnoghnkhfgiloaaDoor
open Go.RowKit

attribute [local go_sem ↓] Go.wp_at_zero Go.wp_at_succ

/-- What a reader of an index answers. -/
def RdAns (s : ByteArray) (ev : Addr) (w : World) (e : Ending) (w' : World) : Prop :=
  ((∃ a b ms mv, Ix.readF s.data.toList = some (a, b, ms) ∧ ms.length ≤ 200 ∧ e = .returned (.tuple #[.agg #[.int .i64 a, .int .i64 b, mv], .nilIface]) ∧ w'.ownsRow w.heap.size 45 3 mv ms.length (flat3 ms))
    ∨ (Ix.readF s.data.toList = none ∧ e = .returned (.tuple #[.agg #[.int .i64 0, .int .i64 0, .slice none 0 0], .iface 128 (.pointer (some ev))]))) ∧ Below w.heap.size w w'
theorem str_nil (r : ByteArray) : (r.toList.isEmpty = true ↔ r.data.toList = []) := by
  rw [ByteArray.toList_eq]
  cases r.data.toList <;> simp
theorem rest_size {l : List UInt8} {n : Nat} (h : l.length ≤ n) : (⟨l.toArray⟩ : ByteArray).size ≤ n := h

set_option maxHeartbeats 4000000 in
set_option maxRecDepth 100000 in
theorem readIndex_any (s : ByteArray) (w : World) (ev : Addr) (g : Gl w ev) (hs : s.size ≤ 120) :
    Calls Tryd.prog 27 #[.string s] w (RdAns s ev w) := by
  obtain ⟨i0, hI0, hz0, hz1, hz2⟩ := info_parts infoMeta
  have hl := cut_lenC 10 s.data.toList
  obtain ⟨a, b, f, hc⟩ : ∃ a b f, Lib.cut s.data.toList [10] = (a, b, f) := ⟨_, _, _, rfl⟩
  have hF : Ix.readF s.data.toList = match Ix.headF a with
    | some (x, y) => (Ix.metasF s.data.toList.length b).map (fun ms => (x, y, ms))
    | none => none := by unfold Ix.readF; rw [hc]; rfl
  rw [hc] at hl
  dsimp only at hl
  have hz : s.data.toList.length = s.size := Array.length_toList
  rw [hz] at hF
  have ha : (⟨a.toArray⟩ : ByteArray).size ≤ 1000 := size_of (by omega)
  have hb : b.length ≤ s.size := by omega
  have BW := hide (below1 w (.cells #[.int .i64 0, .int .i64 0, .slice none 0 0] 25))
  have HR := hide (heap_alloc_new w (.cells #[.int .i64 0, .int .i64 0, .slice none 0 0] 25))
  have G := hide (g.later (unhide BW))
  have G0 := hide g
  have HC := hide (fun (W : World) (gW : Gl W ev) => cutS_any 10 s W ev gW (by omega) a b f hc)
  have HF := hide hF
  clear hl hc hz g hF
  go_enter Tryd.func27, Tryd.ntmps27
  go_wp2_with fail
  refine (unhide HC _ (unhide G)).mono ?_
  generalize w.alloc _ = W0 at *
  rintro e w1 ⟨rfl, b1⟩
  replace G := hide ((unhide G).later b1)
  replace HR := hide ((b1.block _ (heapLt (unhide HR))).trans (unhide HR))
  replace BW := hide ((unhide BW).trans (b1.mono (unhide BW).size))
  clear b1 HC
  go_wp2_with fail
  have HA := hide (readHead_any _ _ ev (unhide G) ha)
  rw [show (⟨a.toArray⟩ : ByteArray).data.toList = a from rfl] at HA
  cases h1 : Ix.headF a with
  | none =>
    have HN : Hid (Ix.readF s.data.toList = none) := by show _ = _; rw [unhide HF, h1]
    rw [h1] at HA
    clear h1
    refine (unhide HA).mono ?_
    unfold headV
    rintro e w2 ⟨rfl, b1⟩
    replace HR := hide ((b1.block _ (heapLt (unhide HR))).trans (unhide HR))
    replace BW := hide ((unhide BW).trans (b1.mono (unhide BW).size))
    clear b1 HA HF G
    obtain ⟨⟨r0, s0⟩, ⟨r1, s1⟩, r2, s2⟩ : (_ ∧ _) ∧ (_ ∧ _) ∧ _ ∧ _ := ⟨⟨cellOf (unhide HR) 0, frozenOf (unhide HR) 0⟩, ⟨cellOf (unhide HR) 1, frozenOf (unhide HR) 1⟩, cellOf (unhide HR) 2, frozenOf (unhide HR) 2⟩
    have hRlt := heapLt (unhide HR)
    go_wp2_with fail
    obtain ⟨_, hR7, _, hb⟩ := box_fin3 (a' := .int .i64 0) (b' := .int .i64 0) (c' := .slice none 0 0) (unhide HR) rfl
    generalize World.setCell _ _ _ = w7 at *
    have bx := below1 w7 (.cells #[.int .i64 0, .int .i64 0, .slice none 0 0] 25)
    have hR8 := (bx.block _ (heapLt hR7)).trans hR7
    obtain ⟨z0, z1, z2⟩ : _ ∧ _ ∧ _ := ⟨cellOf hR8 0, cellOf hR8 1, cellOf hR8 2⟩
    have BB := hide ((unhide BW).trans ((hb.mono (Nat.le_refl _)).trans (bx.mono (by have := (unhide BW).size; have := hb.size; omega))))
    clear hR7 hR8 hb bx
    exact bodyPost_ret (v := .tuple #[.agg #[.int .i64 0, .int .i64 0, .slice none 0 0], .iface 128 (.pointer (some ev))]) (by simp [results, Tryd.results27, go_sem, z0, z1, z2]) rfl ⟨.inr ⟨unhide HN, rfl⟩, unhide BB⟩
  | some xy =>
    obtain ⟨x, y⟩ := xy
    have HFF : Hid (Ix.readF s.data.toList = (Ix.metasF s.size b).map (fun ms => (x, y, ms))) := by show _ = _; rw [unhide HF, h1]
    rw [h1] at HA
    clear h1
    refine (unhide HA).mono ?_
    unfold headV
    rintro e w2 ⟨rfl, b1⟩
    have bx := below1 w2 (.cells #[.int .i64 x, .int .i64 y, .slice none 0 0] 25)
    have hlt := heapLt (unhide HR)
    have HXS : Hid (Xs w (w2.alloc (.cells #[.int .i64 x, .int .i64 y, .slice none 0 0] 25)) w2.heap.size w.heap.size x y (.slice none 0 0) []) := by
      have hb12 := b1.trans (bx.mono b1.size)
      exact ⟨heap_alloc_new w2 _, (hb12.block _ hlt).trans (unhide HR), Nat.le_trans (unhide BW).size b1.size, Nat.le_refl _, by have := b1.size; omega, World.ownsRow_nil _ _ _ _, (unhide BW).trans (hb12.mono (unhide BW).size)⟩
    clear b1 bx hlt HA HF G HR BW ha
    go_wp2_with fail
    generalize hX : w2.heap.size = X at *
    generalize w2.alloc _ = W2 at *
    clear hX
    clear w2
    obtain ⟨B, hB⟩ : ∃ B : ByteArray, B = ⟨b.toArray⟩ := ⟨_, rfl⟩
    have hBl : B.data.toList = b := by rw [hB]
    have hBs : B.size ≤ s.size := by rw [hB]; exact rest_size hb
    rw [← hB]
    rw [← hBl] at HFF
    have HBL := hide hBl
    clear hB hBl hb
    go_loopw [5] (fun o w' => ∃ (r : ByteArray) (acc : List Ix.M) (mv : Value) (k : Nat), o = .string r ∧ Ix.metasF s.size B.data.toList = (Ix.metasF k r.data.toList).map (acc ++ ·) ∧ r.size ≤ k ∧ k ≤ s.size ∧ acc.length + r.size ≤ 120 ∧ Xs w w' X w.heap.size x y mv acc) (fun o _ => match o with | .string r => r.size | _ => 0)
    case atStart => exact ⟨B, [], _, s.size, rfl, by cases Ix.metasF s.size B.data.toList <;> simp, hBs, Nat.le_refl _, by simp; omega, unhide HXS⟩
    case round =>
      obtain ⟨r, acc, mv, k, rfl, hm, hrk, hks, hlen, hx⟩ := hrel
      have HM := hide hm
      have HX := hide hx
      clear hm hx HXS
      by_cases hr0 : r.data.toList = []
      · have he : r.toList.isEmpty = true := (str_nil r).2 hr0
        have HOK : Hid (Ix.readF s.data.toList = some (x, y, acc)) := by
          show _ = _
          rw [unhide HFF, unhide HM, hr0, Ix.metasF_nil]
          simp
        clear hr0
        obtain ⟨ma, mc, hmv⟩ := own_formS (unhide HX).own
        subst hmv
        obtain ⟨⟨r0, s0⟩, ⟨r1, s1⟩, r2, s2⟩ : (_ ∧ _) ∧ (_ ∧ _) ∧ _ ∧ _ := ⟨⟨cellOf (unhide HX).hR 0, frozenOf (unhide HX).hR 0⟩, ⟨cellOf (unhide HX).hR 1, frozenOf (unhide HX).hR 1⟩, cellOf (unhide HX).hR 2, frozenOf (unhide HX).hR 2⟩
        obtain ⟨x0, x1, x2⟩ : _ ∧ _ ∧ _ := ⟨cellOf (unhide HX).hX 0, cellOf (unhide HX).hX 1, cellOf (unhide HX).hX 2⟩
        go_wp2_with fail
        obtain ⟨⟨q0, q1, q2⟩, hbel, hfar⟩ := fin3 (a := .int .i64 x) (b := .int .i64 y) (c := .slice ma acc.length mc) (unhide HX).hR (unhide HX).lR (unhide HX).bel rfl
        have ho := own_keepS (unhide HX).own (fun g cur _ _ hg => hfar g (fun e => by rw [e] at hg; rw [(unhide HX).hR] at hg; injection hg with hg; injection hg with _ hg _; exact absurd hg (by decide)))
        exact bodyPost_ret (v := .tuple #[.agg #[.int .i64 x, .int .i64 y, .slice ma acc.length mc], .nilIface]) (by simp [results, Tryd.results27, go_sem, q0, q1, q2]) rfl ⟨.inl ⟨x, y, acc, _, unhide HOK, by omega, rfl, ho⟩, hbel⟩
      · have he : r.toList.isEmpty = false := by
          rw [Bool.eq_false_iff]
          exact fun h => hr0 ((str_nil r).1 h)
        obtain ⟨k', rfl⟩ : ∃ k', k = k' + 1 := ⟨k - 1, by
          have : 0 < r.data.toList.length := List.length_pos_iff.2 hr0
          rw [Array.length_toList] at this
          have : 0 < r.size := this
          omega⟩
        have hcl := Ix.cut_less (c := 10) hr0
        have hl := cut_lenC 10 r.data.toList
        obtain ⟨la, lb, lf, hc⟩ : ∃ a b f, Lib.cut r.data.toList [10] = (a, b, f) := ⟨_, _, _, rfl⟩
        rw [hc] at hcl hl
        dsimp only at hcl hl
        have hzr : r.data.toList.length = r.size := Array.length_toList
        have hla : (⟨la.toArray⟩ : ByteArray).size ≤ 1000 := size_of (by omega)
        obtain ⟨r', hr'⟩ : ∃ r' : ByteArray, r' = ⟨lb.toArray⟩ := ⟨_, rfl⟩
        have hrl : r'.data.toList = lb := by rw [hr']
        have hrs : r'.size < r.size := by rw [hr']; have : (⟨lb.toArray⟩ : ByteArray).size = lb.length := rfl; omega
        have HCT := hide (fun (W : World) (gW : Gl W ev) => cutS_any 10 r W ev gW (by omega) la lb lf hc)
        rw [← hr'] at HCT
        have GW := hide ((unhide G0).later (unhide HX).bel)
        have HM1 := fun m => hide (fun hm => Ix.metasF_some (k := k') (m := m) hr0 hm)
        have HM0 := hide (fun hm => Ix.metasF_none (k := k') hr0 hm)
        rw [hc] at HM0
        simp only [hc] at HM1
        rw [← hrl] at HM1
        clear hr0 hcl hl hc hzr hr' hrl
        go_wp2_with fail
        refine (unhide HCT _ (unhide GW)).mono ?_
        rintro e w3 ⟨rfl, b3⟩
        replace HX := hide ((unhide HX).later b3)
        replace GW := hide ((unhide GW).later b3)
        clear b3 HCT
        go_wp2_with fail
        have HA := hide (readMeta_any _ _ ev (unhide GW) hla)
        rw [show (⟨la.toArray⟩ : ByteArray).data.toList = la from rfl] at HA
        cases hmt : Ix.metaF la with
        | none =>
          have HN : Hid (Ix.readF s.data.toList = none) := by
            show _ = _
            rw [unhide HFF, unhide HM, unhide HM0 hmt]
            rfl
          rw [hmt] at HA
          clear hmt
          refine (unhide HA).mono ?_
          unfold metaV
          rintro e w4 ⟨rfl, b4⟩
          replace HX := hide ((unhide HX).later b4)
          clear b4 HA HFF HM HM0 HM1 GW
          obtain ⟨⟨r0, s0⟩, ⟨r1, s1⟩, r2, s2⟩ : (_ ∧ _) ∧ (_ ∧ _) ∧ _ ∧ _ := ⟨⟨cellOf (unhide HX).hR 0, frozenOf (unhide HX).hR 0⟩, ⟨cellOf (unhide HX).hR 1, frozenOf (unhide HX).hR 1⟩, cellOf (unhide HX).hR 2, frozenOf (unhide HX).hR 2⟩
          have hRlt := heapLt (unhide HX).hR
          go_wp2_with fail
          obtain ⟨_, hR7, _, hb⟩ := box_fin3 (a' := .int .i64 0) (b' := .int .i64 0) (c' := .slice none 0 0) (unhide HX).hR rfl
          have BX := hide (unhide HX).bel
          generalize World.setCell _ _ _ = w7 at *
          have bx := below1 w7 (.cells #[.int .i64 0, .int .i64 0, .int .i64 0] 45)
          have hR8 := (bx.block _ (heapLt hR7)).trans hR7
          obtain ⟨z0, z1, z2⟩ : _ ∧ _ ∧ _ := ⟨cellOf hR8 0, cellOf hR8 1, cellOf hR8 2⟩
          have BB := hide ((unhide BX).trans ((hb.mono (Nat.le_refl _)).trans (bx.mono (by have := (unhide BX).size; have := hb.size; omega))))
          clear hR7 hR8 hb bx
          exact bodyPost_ret (v := .tuple #[.agg #[.int .i64 0, .int .i64 0, .slice none 0 0], .iface 128 (.pointer (some ev))]) (by simp [results, Tryd.results27, go_sem, z0, z1, z2]) rfl ⟨.inr ⟨unhide HN, rfl⟩, unhide BB⟩
        | some m =>
          obtain ⟨m1, m2, m3⟩ := m
          have HMN : Hid (Ix.metasF s.size B.data.toList = (Ix.metasF k' r'.data.toList).map ((acc ++ [(m1, m2, m3)]) ++ ·)) := by
            show _ = _
            rw [unhide HM, unhide (HM1 _) hmt, Option.map_map]
            congr 1
            funext z
            simp
          rw [hmt] at HA
          clear hmt
          refine (unhide HA).mono ?_
          unfold metaV
          rintro e w4 ⟨rfl, b4⟩
          have bm := below1 w4 (.cells #[.int .i64 m1, .int .i64 m2, .int .i64 m3] 45)
          replace HX := hide ((unhide HX).later (b4.trans (bm.mono b4.size)))
          have HMB := hide (heap_alloc_new w4 (.cells #[.int .i64 m1, .int .i64 m2, .int .i64 m3] 45))
          clear b4 bm HA HM HM0 HM1 GW
          obtain ⟨x0, x1, x2⟩ : _ ∧ _ ∧ _ := ⟨cellOf (unhide HX).hX 0, cellOf (unhide HX).hX 1, cellOf (unhide HX).hX 2⟩
          have fX := frozenOf (unhide HX).hX 2
          dsimp only
          have hnw := World.news_of_block (cs := #[.int .i64 m1, .int .i64 m2, .int .i64 m3]) (t := 45) (fr := (0, 0)) (heap_alloc_new (w4.alloc (.cells #[.int .i64 m1, .int .i64 m2, .int .i64 m3] 45)) (.cells #[.int .i64 m1, .int .i64 m2, .int .i64 m3] 45))
          have hnw0 := hnw
          rw [sz1] at hnw
          have hX5 := (unhide HX).alloc (.cells #[.int .i64 m1, .int .i64 m2, .int .i64 m3] 45)
          go_wp2_with (at_builtin; refine wpList_append_lies _ rfl _ _ _ rfl w.heap.size 45 i0 _ 3 24 Tryd.underlying23 hI0 hz0 hz1 hz2 rfl (by omega) mv acc.length (flat3 acc) rfl hX5.own _ 1 1 [.int .i64 m1, .int .i64 m2, .int .i64 m3] rfl rfl (by first | exact hnw | exact hnw0) (by simp [Value.oneCell']) (by omega) (by unfold maxLen; omega) (by omega) hX5.bel.size (w4.heap.size + 1 + 1) (by rw [sz1, sz1]) ?_; intro gg gcap w6 hown hgrow hat hlt6; have hX6 := (grown_other hX5.own hgrow hX5.hX (by decide)).trans hX5.hX; have f2 := frozenOf hX6 2; have x2' := cellOf hX6 2; have HY := hide (Xs.app (x := (m1, m2, m3)) hX5 hgrow hown); clear hgrow hown hat hlt6 hX6 hnw hnw0 hX5)
          generalize w6.setCell _ _ = w7 at *
          go_roundw
          case rel =>
            refine ⟨r', acc ++ [(m1, m2, m3)], _, k', rfl, unhide HMN, by omega, by omega, ?_, unhide HY⟩
            rw [List.length_append]
            simp only [List.length_cons, List.length_nil]
            omega
          case measure => simpa using hrs
end Go.Proofs.YtnoghnkhfgiloaaDoor
