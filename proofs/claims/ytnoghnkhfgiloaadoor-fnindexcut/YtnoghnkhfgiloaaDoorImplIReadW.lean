/- What impl.IndexRead returns: the index that is ok and has this text, its row the call's own, and yes; or nothing, and no, where there is none; for every text; nothing old is written. -/
import Derived.Test.YtnoghnkhfgiloaaDoorIReadIdxW
import Derived.Test.YtnoghnkhfgiloaaDoorImplIdxTextW
import Derived.Test.YtnoghnkhfgiloaaDoorImplIndexOkW
import Derived.Test.YtnoghnkhfgiloaaDoorInjW
namespace Go.Proofs.YtnoghnkhfgiloaaDoor
open Go.RowKit

attribute [local go_sem ↓] Go.wp_at_zero Go.wp_at_succ

theorem own_baseI {w : World} {B B' sz n : Nat} {t : TypeId} {v : Value} {xs : List Value} (h : w.ownsRow B t sz v n xs) (hB : B' ≤ B) : w.ownsRow B' t sz v n xs := by
  refine ⟨h.1, ?_⟩
  rcases h.2 with hn | ⟨g, cap, cur, rfl, hb1, rest⟩
  · exact .inl hn
  · exact .inr ⟨g, cap, cur, rfl, Nat.le_trans hB hb1, rest⟩
/-- What a reader of texts of indexes answers. -/
def RxAns (s : ByteArray) (w : World) (e : Ending) (w' : World) : Prop :=
  ∃ mv, e = .returned (.tuple #[.agg #[.int .i64 (Ix.rxD s.data.toList).1, .int .i64 (Ix.rxD s.data.toList).2.1, mv], .bool (Ix.rx s.data.toList).isSome]) ∧ w'.ownsRow w.heap.size 45 3 mv (Ix.rxD s.data.toList).2.2.length (flat3 (Ix.rxD s.data.toList).2.2) ∧ Below w.heap.size w w'
theorem RxAns.no {s : ByteArray} {w w' : World} (h : Ix.rx s.data.toList = none) (hb : Below w.heap.size w w') : RxAns s w (.returned (.tuple #[.agg #[.int .i64 0, .int .i64 0, .slice none 0 0], .bool false])) w' := by
  unfold RxAns Ix.rxD
  rw [h]
  exact ⟨_, rfl, World.ownsRow_nil _ _ _ _, hb⟩
theorem RxAns.yes {s : ByteArray} {w w' : World} {a b : Int} {ms : List Ix.M} {mv : Value} (h : Ix.rx s.data.toList = some (a, b, ms)) (ho : w'.ownsRow w.heap.size 45 3 mv ms.length (flat3 ms)) (hb : Below w.heap.size w w') : RxAns s w (.returned (.tuple #[.agg #[.int .i64 a, .int .i64 b, mv], .bool true])) w' := by
  unfold RxAns Ix.rxD
  rw [h]
  exact ⟨_, rfl, ho, hb⟩
theorem not_meta {w : World} {R : Nat} {c : Array Value} {B n : Nat} {v : Value} {xs : List Value} (h : w.heap[R]? = some (.cells c 25 (0, 0))) (ho : w.ownsRow B 45 3 v n xs) {w' : World} (hf : ∀ k, k ≠ R → w'.heap[k]? = w.heap[k]?) : w'.ownsRow B 45 3 v n xs :=
  own_keepS ho (fun g cur _ _ hg => hf g (fun e => by rw [e] at hg; rw [h] at hg; injection hg with hg; injection hg with _ hg _; exact absurd hg (by decide)))

set_option maxHeartbeats 4000000 in
set_option maxRecDepth 100000 in
theorem implIRead_any (s : ByteArray) (w : World) (ev : Addr) (g : Gl w ev) (hTab : Tab w) : Calls Tryd.prog 11 #[.string s] w (RxAns s w) := by
  have hlen : s.data.toList.length = s.size := Array.length_toList
  have BW := hide (below1 w (.cells #[.int .i64 0, .int .i64 0, .slice none 0 0] 25))
  have HR := hide (heap_alloc_new w (.cells #[.int .i64 0, .int .i64 0, .slice none 0 0] 25))
  by_cases hs : s.size ≤ 120
  case neg =>
    have hlt : (120 : Int) < (s.size : Int) := by omega
    have HN := hide (Ix.rx_long (s := s.data.toList) (by omega))
    clear hlen hs g hTab
    obtain ⟨⟨r0, s0⟩, ⟨r1, s1⟩, r2, s2⟩ : (_ ∧ _) ∧ (_ ∧ _) ∧ _ ∧ _ := ⟨⟨cellOf (unhide HR) 0, frozenOf (unhide HR) 0⟩, ⟨cellOf (unhide HR) 1, frozenOf (unhide HR) 1⟩, cellOf (unhide HR) 2, frozenOf (unhide HR) 2⟩
    go_enter Tryd.func11, Tryd.ntmps11
    go_wp2_with fail
    exact bodyPost_ret (v := .tuple #[.agg #[.int .i64 0, .int .i64 0, .slice none 0 0], .bool false]) (by simp [results, Tryd.results11, go_sem]) rfl (RxAns.no (unhide HN) (unhide BW))
  case pos =>
    have hs' : ¬ (120 : Int) < (s.size : Int) := by omega
    have G := hide (And.intro (g.later (unhide BW)) (hTab.later (unhide BW)))
    clear hlen g hTab
    go_enter Tryd.func11, Tryd.ntmps11
    go_wp2_with fail
    refine (readIndex_any s _ ev (unhide G).1 hs).mono ?_
    generalize w.alloc _ = W0 at *
    rintro e w2 ⟨⟨a, b, ms, mv, hrd, hml, rfl, ho⟩ | ⟨hrd, rfl⟩, b2⟩
    rotate_left
    · have HN := hide (Ix.rx_unread hrd)
      have bx := below1 w2 (.cells #[.int .i64 0, .int .i64 0, .slice none 0 0] 25)
      have b3 := b2.trans (bx.mono b2.size)
      replace HR := hide ((b3.block _ (heapLt (unhide HR))).trans (unhide HR))
      replace BW := hide ((unhide BW).trans (b3.mono (unhide BW).size))
      obtain ⟨⟨r0, s0⟩, ⟨r1, s1⟩, r2, s2⟩ : (_ ∧ _) ∧ (_ ∧ _) ∧ _ ∧ _ := ⟨⟨cellOf (unhide HR) 0, frozenOf (unhide HR) 0⟩, ⟨cellOf (unhide HR) 1, frozenOf (unhide HR) 1⟩, cellOf (unhide HR) 2, frozenOf (unhide HR) 2⟩
      clear b2 bx b3 hrd G
      go_wp2_with fail
      generalize w2.alloc _ = W3 at *
      obtain ⟨⟨z0, z1, z2⟩, _, _, hb⟩ := box_fin3 (a' := .int .i64 0) (b' := .int .i64 0) (c' := .slice none 0 0) (unhide HR) rfl
      generalize World.setCell _ _ _ = w7 at *
      exact bodyPost_ret (v := .tuple #[.agg #[.int .i64 0, .int .i64 0, .slice none 0 0], .bool false]) (by simp [results, Tryd.results11, go_sem, z0, z1, z2]) rfl (RxAns.no (unhide HN) ((unhide BW).trans (hb.mono (Nat.le_refl _))))
    · obtain ⟨fa, fc, rfl⟩ := own_formS ho
      have bx := below1 w2 (.cells #[.int .i64 a, .int .i64 b, .slice fa ms.length fc] 25)
      have b3 := b2.trans (bx.mono b2.size)
      replace HR := hide ((b3.block _ (heapLt (unhide HR))).trans (unhide HR))
      have OW := hide (own_later (own_baseI ho (unhide BW).size) bx)
      replace BW := hide ((unhide BW).trans (b3.mono (unhide BW).size))
      replace G := hide (And.intro ((unhide G).1.later b3) ((unhide G).2.later b3))
      have HX := hide (heap_alloc_new w2 (.cells #[.int .i64 a, .int .i64 b, .slice fa ms.length fc] 25))
      have HRD := hide hrd
      clear b2 bx b3 hrd ho
      go_wp2_with fail
      refine (implIndexOk_any _ a b _ ms (Trs.own (unhide OW) (by omega))).mono ?_
      generalize hX : w2.heap.size = X at *
      generalize w2.alloc _ = W3 at *
      clear hX
      clear w2
      rintro e w4 ⟨rfl, b4⟩
      replace HR := hide ((b4.block _ (heapLt (unhide HR))).trans (unhide HR))
      replace HX := hide ((b4.block _ (heapLt (unhide HX))).trans (unhide HX))
      replace OW := hide (own_later (unhide OW) b4)
      replace BW := hide ((unhide BW).trans (b4.mono (unhide BW).size))
      replace G := hide (And.intro ((unhide G).1.later b4) ((unhide G).2.later b4))
      clear b4
      cases hok : Ix.idxOk a b ms
      · have HN := hide (Ix.rx_bad (unhide HRD) (fun h => by have h1 := h.1; dsimp only at h1; rw [hok] at h1; cases h1))
        obtain ⟨⟨r0, s0⟩, ⟨r1, s1⟩, r2, s2⟩ : (_ ∧ _) ∧ (_ ∧ _) ∧ _ ∧ _ := ⟨⟨cellOf (unhide HR) 0, frozenOf (unhide HR) 0⟩, ⟨cellOf (unhide HR) 1, frozenOf (unhide HR) 1⟩, cellOf (unhide HR) 2, frozenOf (unhide HR) 2⟩
        clear hok
        go_wp2_with fail
        obtain ⟨⟨z0, z1, z2⟩, _, _, hb⟩ := box_fin3 (a' := .int .i64 0) (b' := .int .i64 0) (c' := .slice none 0 0) (unhide HR) rfl
        generalize World.setCell _ _ _ = w7 at *
        exact bodyPost_ret (v := .tuple #[.agg #[.int .i64 0, .int .i64 0, .slice none 0 0], .bool false]) (by simp [results, Tryd.results11, go_sem, z0, z1, z2]) rfl (RxAns.no (unhide HN) ((unhide BW).trans (hb.mono (Nat.le_refl _))))
      · have HOK := hide hok
        clear hok
        obtain ⟨x0, x1, x2⟩ : _ ∧ _ ∧ _ := ⟨cellOf (unhide HX) 0, cellOf (unhide HX) 1, cellOf (unhide HX) 2⟩
        go_wp2_with fail
        refine (implIdxText_any _ a b _ ms (Trs.own (unhide OW) (by omega)) (unhide G).2).mono ?_
        rintro e w5 ⟨rfl, b4⟩
        replace HR := hide ((b4.block _ (heapLt (unhide HR))).trans (unhide HR))
        replace HX := hide ((b4.block _ (heapLt (unhide HX))).trans (unhide HX))
        replace OW := hide (own_later (unhide OW) b4)
        replace BW := hide ((unhide BW).trans (b4.mono (unhide BW).size))
        clear b4 G x0 x1 x2
        obtain ⟨x0, x1, x2⟩ : _ ∧ _ ∧ _ := ⟨cellOf (unhide HX) 0, cellOf (unhide HX) 1, cellOf (unhide HX) 2⟩
        obtain ⟨⟨r0, s0⟩, ⟨r1, s1⟩, r2, s2⟩ : (_ ∧ _) ∧ (_ ∧ _) ∧ _ ∧ _ := ⟨⟨cellOf (unhide HR) 0, frozenOf (unhide HR) 0⟩, ⟨cellOf (unhide HR) 1, frozenOf (unhide HR) 1⟩, cellOf (unhide HR) 2, frozenOf (unhide HR) 2⟩
        obtain ⟨T, hT⟩ : ∃ T, (⟨(Ix.text a b ms).toArray⟩ : ByteArray) = T := ⟨_, rfl⟩
        have HT : Hid (Ix.text a b ms = T.data.toList) := by show _ = _; rw [← hT]
        rw [hT]
        clear hT
        by_cases hE : T = s
        · have hnb : (T == s) = true := by rw [hE, beq_toListBytes]; exact beq_self_eq_true _
          have hnc : (T.toList == s.toList) = true := by rw [hE]; exact beq_self_eq_true _
          have HY : Hid (Ix.rx s.data.toList = some (a, b, ms)) := Ix.rx_some.2 ⟨unhide HOK, by rw [← hE]; exact unhide HT⟩
          clear hE
          go_wp2_with fail
          obtain ⟨⟨z0, z1, z2⟩, hR7, hfar, hb⟩ := box_fin3 (a' := .int .i64 a) (b' := .int .i64 b) (c' := .slice fa ms.length fc) (unhide HR) rfl
          generalize World.setCell _ _ _ = w7 at *
          exact bodyPost_ret (v := .tuple #[.agg #[.int .i64 a, .int .i64 b, .slice fa ms.length fc], .bool true]) (by simp [results, Tryd.results11, go_sem, z0, z1, z2]) rfl (RxAns.yes (unhide HY) (not_meta (unhide HR) (unhide OW) hfar) ((unhide BW).trans (hb.mono (Nat.le_refl _))))
        · have hnb : (T == s) = false := by rw [beq_toListBytes, ByteArray.toList_eq, ByteArray.toList_eq]; exact beq_eq_false_iff_ne.2 (fun e => hE (ByteArray.ext (Array.ext' e)))
          have hnc : (T.toList == s.toList) = false := by rw [← beq_toListBytes]; exact hnb
          have HN := hide (Ix.rx_bad (unhide HRD) (fun h => hE (by have h2 := h.2; dsimp only at h2; rw [unhide HT] at h2; exact ByteArray.ext (Array.ext' h2))))
          clear hE
          go_wp2_with fail
          obtain ⟨⟨z0, z1, z2⟩, _, _, hb⟩ := box_fin3 (a' := .int .i64 0) (b' := .int .i64 0) (c' := .slice none 0 0) (unhide HR) rfl
          generalize World.setCell _ _ _ = w7 at *
          exact bodyPost_ret (v := .tuple #[.agg #[.int .i64 0, .int .i64 0, .slice none 0 0], .bool false]) (by simp [results, Tryd.results11, go_sem, z0, z1, z2]) rfl (RxAns.no (unhide HN) ((unhide BW).trans (hb.mono (Nat.le_refl _))))
end Go.Proofs.YtnoghnkhfgiloaaDoor
