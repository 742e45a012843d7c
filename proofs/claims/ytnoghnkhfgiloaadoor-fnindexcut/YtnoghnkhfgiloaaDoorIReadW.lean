/- What impl.readHead and readMeta return: what a line says, or the one error; of lines of at most 1000 bytes; nothing old is written. -/
import Derived.Test.YtnoghnkhfgiloaaDoorReadW
import Derived.Test.YtnoghnkhfgiloaaDoorIdxReadMath
namespace Go.Proofs.YtnoghnkhfgiloaaDoor
open Go.RowKit

attribute [local go_sem ↓] Go.wp_at_zero Go.wp_at_succ

/-- strings.Cut at a byte. -/
theorem cutS_any (c : UInt8) (s : ByteArray) (w : World) (ev : Addr) (g : Gl w ev) (hs : s.size ≤ 1000) (a b : List UInt8) (f : Bool) (h : Lib.cut s.data.toList [c] = (a, b, f)) :
    Calls Tryd.prog 44 #[.string s, .string ⟨#[c]⟩] w fun e w' => e = .returned (.tuple #[.string ⟨a.toArray⟩, .string ⟨b.toArray⟩, .bool f]) ∧ Below w.heap.size w w' := by
  obtain ⟨m, hm⟩ := g.m
  have := Tryd.strings_Cut s ⟨#[c]⟩ m w (by omega) hm
  have e : Lib.cut s.data.toList (⟨#[c]⟩ : ByteArray).data.toList = (a, b, f) := h
  rw [e] at this
  refine this.mono ?_
  rintro e w' ⟨he, q, rfl⟩
  exact ⟨he, below_drewN (Below.refl _ _) q⟩
theorem cut_lenC (c : UInt8) (l : List UInt8) : (Lib.cut l [c]).1.length ≤ l.length ∧ (Lib.cut l [c]).2.1.length ≤ l.length := by
  unfold Lib.cut
  split
  · simp only [List.length_take, List.length_drop]; omega
  · simp
theorem box_fin3 {w w' : World} {R : Nat} {a b c a' b' c' : Value} {t : TypeId} (h : w.heap[R]? = some (.cells #[a, b, c] t (0, 0))) (hw : w' = ((w.setCell ⟨R, 0, none⟩ a').setCell ⟨R, 1, none⟩ b').setCell ⟨R, 2, none⟩ c') :
    (w'.cell? ⟨R, 0, none⟩ = some a' ∧ w'.cell? ⟨R, 1, none⟩ = some b' ∧ w'.cell? ⟨R, 2, none⟩ = some c') ∧ w'.heap[R]? = some (.cells #[a', b', c'] t (0, 0)) ∧ (∀ k, k ≠ R → w'.heap[k]? = w.heap[k]?) ∧ Below R w w' := by
  have hR : w'.heap[R]? = some (.cells #[a', b', c'] t (0, 0)) := by
    rw [hw, heapSet (heapSet (heapSet h))]
    rfl
  refine ⟨⟨cellOf hR 0, cellOf hR 1, cellOf hR 2⟩, hR, fun k hk => ?_, ?_⟩
  · rw [hw, Below.heap_setCell _ _ _ _ hk, Below.heap_setCell _ _ _ _ hk, Below.heap_setCell _ _ _ _ hk]
  · rw [hw]
    have st : ∀ (u : World) (o : Nat) (v : Value), Below R w u → Below R w (u.setCell ⟨R, o, none⟩ v) := fun u o v h => h.setCell (p := ⟨R, o, none⟩) (Nat.le_refl R) v
    exact st _ _ _ (st _ _ _ (st _ _ _ (Below.refl _ _)))

/-- What a reader of a line answers. -/
def headV (ev : Addr) : Option (Int × Int) → Value
  | some (a, b) => .tuple #[.agg #[.int .i64 a, .int .i64 b, .slice none 0 0], .nilIface]
  | none => .tuple #[.agg #[.int .i64 0, .int .i64 0, .slice none 0 0], .iface 128 (.pointer (some ev))]
def metaV (ev : Addr) : Option Ix.M → Value
  | some (a, b, c) => .tuple #[.agg #[.int .i64 a, .int .i64 b, .int .i64 c], .nilIface]
  | none => .tuple #[.agg #[.int .i64 0, .int .i64 0, .int .i64 0], .iface 128 (.pointer (some ev))]

set_option maxHeartbeats 2000000 in
set_option maxRecDepth 100000 in
theorem readHead_any (s : ByteArray) (w : World) (ev : Addr) (g : Gl w ev) (hs : s.size ≤ 1000) :
    Calls Tryd.prog 45 #[.string s] w fun e w' => e = .returned (headV ev (Ix.headF s.data.toList)) ∧ Below w.heap.size w w' := by
  have hl := cut_lenC 32 s.data.toList
  obtain ⟨a, b, f, hc⟩ : ∃ a b f, Lib.cut s.data.toList [32] = (a, b, f) := ⟨_, _, _, rfl⟩
  have hF : Ix.headF s.data.toList = match Pk.numF a, Pk.numF b with
    | some x, some y => some (x, y)
    | _, _ => none := by unfold Ix.headF; rw [hc]; rfl
  rw [hc] at hl
  dsimp only at hl
  have hz : s.data.toList.length = s.size := Array.length_toList
  have ha : (⟨a.toArray⟩ : ByteArray).size ≤ 1000 := size_of (by omega)
  have hb : (⟨b.toArray⟩ : ByteArray).size ≤ 1000 := size_of (by omega)
  have BW := hide (below1 w (.cells #[.int .i64 0, .int .i64 0, .slice none 0 0] 25))
  have HX := hide (heap_alloc_new w (.cells #[.int .i64 0, .int .i64 0, .slice none 0 0] 25))
  have G := hide (g.later (unhide BW))
  have HC := hide (fun (W : World) (gW : Gl W ev) => cutS_any 32 s W ev gW hs a b f hc)
  have HF := hide hF
  clear hl hc hz g hF
  go_enter Tryd.func45, Tryd.ntmps45
  go_wp2_with fail
  refine (unhide HC _ (unhide G)).mono ?_
  generalize w.alloc _ = W0 at *
  rintro e w1 ⟨rfl, b1⟩
  replace G := hide ((unhide G).later b1)
  replace HX := hide ((b1.block _ (heapLt (unhide HX))).trans (unhide HX))
  replace BW := hide ((unhide BW).trans (b1.mono (unhide BW).size))
  clear b1 HC
  cases h1 : Pk.numF a with
  | none =>
    have H1 := hide h1
    have HR : Hid (Ix.headF s.data.toList = none) := by show _ = _; rw [unhide HF, h1]
    clear h1
    go_wp2_with fail
    refine (readNumber_no _ _ ev (unhide G) ha (unhide H1)).mono ?_
    rintro e w2 ⟨rfl, b2⟩
    replace HX := hide ((b2.block _ (heapLt (unhide HX))).trans (unhide HX))
    replace BW := hide ((unhide BW).trans (b2.mono (unhide BW).size))
    obtain ⟨⟨r0, s0⟩, ⟨r1, s1⟩, r2, s2⟩ : (_ ∧ _) ∧ (_ ∧ _) ∧ _ ∧ _ := ⟨⟨cellOf (unhide HX) 0, frozenOf (unhide HX) 0⟩, ⟨cellOf (unhide HX) 1, frozenOf (unhide HX) 1⟩, cellOf (unhide HX) 2, frozenOf (unhide HX) 2⟩
    clear b2
    go_wp2_with fail
    obtain ⟨⟨z0, z1, z2⟩, _, _, hb⟩ := box_fin3 (a' := .int .i64 0) (b' := .int .i64 0) (c' := .slice none 0 0) (unhide HX) rfl
    generalize World.setCell _ _ _ = w7 at *
    exact bodyPost_ret (v := headV ev none) (by simp [headV, results, Tryd.results45, go_sem, z0, z1, z2]) rfl ⟨by rw [unhide HR], (unhide BW).trans (hb.mono (Nat.le_refl _))⟩
  | some x =>
    have H1 := hide h1
    cases h2 : Pk.numF b with
    | none =>
      have H2 := hide h2
      have HR : Hid (Ix.headF s.data.toList = none) := by show _ = _; rw [unhide HF, h1, h2]
      clear h1 h2
      go_wp2_with fail
      refine (readNumber_ok _ x _ ha (unhide H1)).mono ?_
      rintro e w2 ⟨rfl, b2⟩
      replace G := hide ((unhide G).later b2)
      replace HX := hide ((b2.block _ (heapLt (unhide HX))).trans (unhide HX))
      replace BW := hide ((unhide BW).trans (b2.mono (unhide BW).size))
      clear b2
      go_wp2_with fail
      refine (readNumber_no _ _ ev (unhide G) hb (unhide H2)).mono ?_
      rintro e w3 ⟨rfl, b2⟩
      replace HX := hide ((b2.block _ (heapLt (unhide HX))).trans (unhide HX))
      replace BW := hide ((unhide BW).trans (b2.mono (unhide BW).size))
      obtain ⟨⟨r0, s0⟩, ⟨r1, s1⟩, r2, s2⟩ : (_ ∧ _) ∧ (_ ∧ _) ∧ _ ∧ _ := ⟨⟨cellOf (unhide HX) 0, frozenOf (unhide HX) 0⟩, ⟨cellOf (unhide HX) 1, frozenOf (unhide HX) 1⟩, cellOf (unhide HX) 2, frozenOf (unhide HX) 2⟩
      clear b2
      go_wp2_with fail
      obtain ⟨⟨z0, z1, z2⟩, _, _, hb⟩ := box_fin3 (a' := .int .i64 0) (b' := .int .i64 0) (c' := .slice none 0 0) (unhide HX) rfl
      generalize World.setCell _ _ _ = w7 at *
      exact bodyPost_ret (v := headV ev none) (by simp [headV, results, Tryd.results45, go_sem, z0, z1, z2]) rfl ⟨by rw [unhide HR], (unhide BW).trans (hb.mono (Nat.le_refl _))⟩
    | some y =>
      have H2 := hide h2
      have HR : Hid (Ix.headF s.data.toList = some (x, y)) := by show _ = _; rw [unhide HF, h1, h2]
      clear h1 h2
      go_wp2_with fail
      refine (readNumber_ok _ x _ ha (unhide H1)).mono ?_
      rintro e w2 ⟨rfl, b2⟩
      replace HX := hide ((b2.block _ (heapLt (unhide HX))).trans (unhide HX))
      replace BW := hide ((unhide BW).trans (b2.mono (unhide BW).size))
      clear b2
      go_wp2_with fail
      refine (readNumber_ok _ y _ hb (unhide H2)).mono ?_
      rintro e w3 ⟨rfl, b2⟩
      replace HX := hide ((b2.block _ (heapLt (unhide HX))).trans (unhide HX))
      replace BW := hide ((unhide BW).trans (b2.mono (unhide BW).size))
      obtain ⟨⟨r0, s0⟩, ⟨r1, s1⟩, r2, s2⟩ : (_ ∧ _) ∧ (_ ∧ _) ∧ _ ∧ _ := ⟨⟨cellOf (unhide HX) 0, frozenOf (unhide HX) 0⟩, ⟨cellOf (unhide HX) 1, frozenOf (unhide HX) 1⟩, cellOf (unhide HX) 2, frozenOf (unhide HX) 2⟩
      clear b2
      go_wp2_with fail
      obtain ⟨⟨z0, z1, z2⟩, _, _, hb⟩ := box_fin3 (a' := .int .i64 x) (b' := .int .i64 y) (c' := .slice none 0 0) (unhide HX) rfl
      generalize World.setCell _ _ _ = w7 at *
      exact bodyPost_ret (v := headV ev (some (x, y))) (by simp [headV, results, Tryd.results45, go_sem, z0, z1, z2]) rfl ⟨by rw [unhide HR], (unhide BW).trans (hb.mono (Nat.le_refl _))⟩

set_option maxHeartbeats 2000000 in
set_option maxRecDepth 100000 in
theorem readMeta_any (s : ByteArray) (w : World) (ev : Addr) (g : Gl w ev) (hs : s.size ≤ 1000) :
    Calls Tryd.prog 46 #[.string s] w fun e w' => e = .returned (metaV ev (Ix.metaF s.data.toList)) ∧ Below w.heap.size w w' := by
  have hl := cut_lenC 32 s.data.toList
  obtain ⟨a, b, f, hc⟩ : ∃ a b f, Lib.cut s.data.toList [32] = (a, b, f) := ⟨_, _, _, rfl⟩
  have hF : Ix.metaF s.data.toList = match Pk.namedF a, Pk.numF b with
    | some (n, v), some u => some (n, v, u)
    | _, _ => none := by unfold Ix.metaF; rw [hc]; rfl
  rw [hc] at hl
  dsimp only at hl
  have hz : s.data.toList.length = s.size := Array.length_toList
  have ha : (⟨a.toArray⟩ : ByteArray).size ≤ 1000 := size_of (by omega)
  have hb : (⟨b.toArray⟩ : ByteArray).size ≤ 1000 := size_of (by omega)
  have BW := hide (below1 w (.cells #[.int .i64 0, .int .i64 0, .int .i64 0] 45))
  have HX := hide (heap_alloc_new w (.cells #[.int .i64 0, .int .i64 0, .int .i64 0] 45))
  have G := hide (g.later (unhide BW))
  have HC := hide (fun (W : World) (gW : Gl W ev) => cutS_any 32 s W ev gW hs a b f hc)
  have HF := hide hF
  clear hl hc hz g hF
  go_enter Tryd.func46, Tryd.ntmps46
  go_wp2_with fail
  refine (unhide HC _ (unhide G)).mono ?_
  generalize w.alloc _ = W0 at *
  rintro e w1 ⟨rfl, b1⟩
  replace G := hide ((unhide G).later b1)
  replace HX := hide ((b1.block _ (heapLt (unhide HX))).trans (unhide HX))
  replace BW := hide ((unhide BW).trans (b1.mono (unhide BW).size))
  clear b1 HC
  cases h1 : Pk.namedF a with
  | none =>
    have H1 := hide h1
    have HR : Hid (Ix.metaF s.data.toList = none) := by show _ = _; rw [unhide HF, h1]
    clear h1
    go_wp2_with fail
    refine (readNamed_no _ _ ev (unhide G) ha (unhide H1)).mono ?_
    rintro e w2 ⟨rfl, b2⟩
    replace HX := hide ((b2.block _ (heapLt (unhide HX))).trans (unhide HX))
    replace BW := hide ((unhide BW).trans (b2.mono (unhide BW).size))
    obtain ⟨⟨r0, s0⟩, ⟨r1, s1⟩, r2, s2⟩ : (_ ∧ _) ∧ (_ ∧ _) ∧ _ ∧ _ := ⟨⟨cellOf (unhide HX) 0, frozenOf (unhide HX) 0⟩, ⟨cellOf (unhide HX) 1, frozenOf (unhide HX) 1⟩, cellOf (unhide HX) 2, frozenOf (unhide HX) 2⟩
    clear b2
    go_wp2_with fail
    obtain ⟨⟨z0, z1, z2⟩, _, _, hb⟩ := box_fin3 (a' := .int .i64 0) (b' := .int .i64 0) (c' := .int .i64 0) (unhide HX) rfl
    generalize World.setCell _ _ _ = w7 at *
    exact bodyPost_ret (v := metaV ev none) (by simp [metaV, results, Tryd.results46, go_sem, z0, z1, z2]) rfl ⟨by rw [unhide HR], (unhide BW).trans (hb.mono (Nat.le_refl _))⟩
  | some xv =>
    obtain ⟨x, v⟩ := xv
    have H1 := hide h1
    cases h2 : Pk.numF b with
    | none =>
      have H2 := hide h2
      have HR : Hid (Ix.metaF s.data.toList = none) := by show _ = _; rw [unhide HF, h1, h2]
      clear h1 h2
      go_wp2_with fail
      refine (readNamed_ok _ x v _ ha (unhide H1)).mono ?_
      rintro e w2 ⟨rfl, b2⟩
      replace G := hide ((unhide G).later b2)
      replace HX := hide ((b2.block _ (heapLt (unhide HX))).trans (unhide HX))
      replace BW := hide ((unhide BW).trans (b2.mono (unhide BW).size))
      clear b2
      go_wp2_with fail
      refine (readNumber_no _ _ ev (unhide G) hb (unhide H2)).mono ?_
      rintro e w3 ⟨rfl, b2⟩
      replace HX := hide ((b2.block _ (heapLt (unhide HX))).trans (unhide HX))
      replace BW := hide ((unhide BW).trans (b2.mono (unhide BW).size))
      obtain ⟨⟨r0, s0⟩, ⟨r1, s1⟩, r2, s2⟩ : (_ ∧ _) ∧ (_ ∧ _) ∧ _ ∧ _ := ⟨⟨cellOf (unhide HX) 0, frozenOf (unhide HX) 0⟩, ⟨cellOf (unhide HX) 1, frozenOf (unhide HX) 1⟩, cellOf (unhide HX) 2, frozenOf (unhide HX) 2⟩
      clear b2
      go_wp2_with fail
      obtain ⟨⟨z0, z1, z2⟩, _, _, hb⟩ := box_fin3 (a' := .int .i64 0) (b' := .int .i64 0) (c' := .int .i64 0) (unhide HX) rfl
      generalize World.setCell _ _ _ = w7 at *
      exact bodyPost_ret (v := metaV ev none) (by simp [metaV, results, Tryd.results46, go_sem, z0, z1, z2]) rfl ⟨by rw [unhide HR], (unhide BW).trans (hb.mono (Nat.le_refl _))⟩
    | some y =>
      have H2 := hide h2
      have HR : Hid (Ix.metaF s.data.toList = some (x, v, y)) := by show _ = _; rw [unhide HF, h1, h2]
      clear h1 h2
      go_wp2_with fail
      refine (readNamed_ok _ x v _ ha (unhide H1)).mono ?_
      rintro e w2 ⟨rfl, b2⟩
      replace HX := hide ((b2.block _ (heapLt (unhide HX))).trans (unhide HX))
      replace BW := hide ((unhide BW).trans (b2.mono (unhide BW).size))
      clear b2
      go_wp2_with fail
      refine (readNumber_ok _ y _ hb (unhide H2)).mono ?_
      rintro e w3 ⟨rfl, b2⟩
      replace HX := hide ((b2.block _ (heapLt (unhide HX))).trans (unhide HX))
      replace BW := hide ((unhide BW).trans (b2.mono (unhide BW).size))
      obtain ⟨⟨r0, s0⟩, ⟨r1, s1⟩, r2, s2⟩ : (_ ∧ _) ∧ (_ ∧ _) ∧ _ ∧ _ := ⟨⟨cellOf (unhide HX) 0, frozenOf (unhide HX) 0⟩, ⟨cellOf (unhide HX) 1, frozenOf (unhide HX) 1⟩, cellOf (unhide HX) 2, frozenOf (unhide HX) 2⟩
      clear b2
      go_wp2_with fail
      obtain ⟨⟨z0, z1, z2⟩, _, _, hb⟩ := box_fin3 (a' := .int .i64 x) (b' := .int .i64 v) (c' := .int .i64 y) (unhide HX) rfl
      generalize World.setCell _ _ _ = w7 at *
      exact bodyPost_ret (v := metaV ev (some (x, v, y))) (by simp [metaV, results, Tryd.results46, go_sem, z0, z1, z2]) rfl ⟨by rw [unhide HR], (unhide BW).trans (hb.mono (Nat.le_refl _))⟩
end Go.Proofs.YtnoghnkhfgiloaaDoor
