import Derived.Test.YtcdbgkdccflbgaaGreatDoorMix0
import Derived.Test.YtcdbgkdccflbgaaGreatDoorMix2
/- What impl.readNumber, readNamed, readFile and readWord return: what the text says, or the one error; of texts of at most 1000 bytes; nothing old is written. -/
namespace Go.Proofs.YtcdbgkdccflbgaaGreatDoor
open Go.RowKit

/-- The variables that are read while a text is read. -/
structure Gl (w : World) (ev : Addr) : Prop where
  e : w.cell? ⟨0, 0, none⟩ = some (.iface 252 (.pointer (some ev)))
  s : ∃ x, w.cell? ⟨4, 0, none⟩ = some x ∧ (x = .nilIface ∨ ∃ te pe, x = .iface te pe)
  r : ∃ x, w.cell? ⟨5, 0, none⟩ = some x ∧ (x = .nilIface ∨ ∃ te pe, x = .iface te pe)
  m : ∃ m : Int, w.cell? ⟨1, 0, none⟩ = some (.int .i64 m)
theorem Gl.later {w w' : World} {ev : Addr} (h : Gl w ev) (hb : Below w.heap.size w w') : Gl w' ev := by
  obtain ⟨e, ⟨x, s1, s2⟩, ⟨y, r1, r2⟩, ⟨m, hm⟩⟩ := h
  exact ⟨by rw [hb.cell (Lib.lt_of_cell e)]; exact e, ⟨x, by rw [hb.cell (Lib.lt_of_cell s1)]; exact s1, s2⟩, ⟨y, by rw [hb.cell (Lib.lt_of_cell r1)]; exact r1, r2⟩, ⟨m, by rw [hb.cell (Lib.lt_of_cell hm)]; exact hm⟩⟩

theorem atoi_ok (s : ByteArray) (v : Int) (w : World) (hs : s.size ≤ 1000) (h : Pk.numF s.data.toList = some v) :
    Calls Tryz.prog 176 #[.string s] w fun e w' => e = .returned (.tuple #[.int .i64 v, .nilIface]) ∧ Below w.heap.size w w' := by
  have h' : Lib.atoiAll s.data.toList = .ok v := by
    unfold Pk.numF at h
    split at h
    · rename_i u hu; injection h with h; rw [hu, h]
    · cases h
  refine (Tryz.strconv_Atoi_ok s (by omega) v h' w).mono fun e w' ⟨h1, h2⟩ => ⟨h1, ?_⟩
  rcases h2 with rfl | ⟨t, rfl⟩
  · exact Below.refl _ _
  · exact Lib.bytesWorld_below _ _ _
theorem atoi_no (s : ByteArray) (w : World) (ev : Addr) (g : Gl w ev) (hs : s.size ≤ 1000) (h : Pk.numF s.data.toList = none) :
    Calls Tryz.prog 176 #[.string s] w fun e w' => (∃ n t N, e = .returned (.tuple #[.int .i64 n, .iface t (.pointer (some ⟨N, 0, none⟩))])) ∧ Below w.heap.size w w' := by
  obtain ⟨x, s1, s2⟩ := g.s
  obtain ⟨y, r1, r2⟩ := g.r
  cases h' : Lib.atoiAll s.data.toList with
  | ok v => unfold Pk.numF at h; rw [h'] at h; cases h
  | «syntax» => exact (Tryz.strconv_Atoi_syntax s (by omega) h' x w s1 s2).mono fun e w' ⟨N, h1, _, _, hb⟩ => ⟨⟨_, _, N, h1⟩, hb⟩
  | range => exact (Tryz.strconv_Atoi_range s (by omega) h' y w r1 r2).mono fun e w' ⟨N, h1, _, _, hb⟩ => ⟨⟨_, _, N, h1⟩, hb⟩

theorem readNumber_ok (s : ByteArray) (v : Int) (w : World) (hs : s.size ≤ 1000) (h : Pk.numF s.data.toList = some v) :
    Calls Tryz.prog 171 #[.string s] w fun e w' => e = .returned (.tuple #[.int .i64 v, .nilIface]) ∧ Below w.heap.size w w' := by
  go_enter Tryz.func171, Tryz.ntmps171
  go_wp2_with (go_at_call 176; refine (atoi_ok s v _ hs h).mono ?_; rintro e w1 ⟨rfl, hb⟩)
  go_ret2
  exact ⟨rfl, hb⟩
theorem readNumber_no (s : ByteArray) (w : World) (ev : Addr) (g : Gl w ev) (hs : s.size ≤ 1000) (h : Pk.numF s.data.toList = none) :
    Calls Tryz.prog 171 #[.string s] w fun e w' => e = .returned (.tuple #[.int .i64 0, .iface 252 (.pointer (some ev))]) ∧ Below w.heap.size w w' := by
  have G := hide g
  clear g
  go_enter Tryz.func171, Tryz.ntmps171
  go_wp2_with (go_at_call 176; refine (atoi_no s _ ev (unhide G) hs h).mono ?_)
  rintro e w1 ⟨⟨n, t, N, rfl⟩, hb⟩
  have he := ((unhide G).later hb).e
  have HB := hide hb
  clear hb
  go_wp2_with fail
  go_quiet (fail)
  go_wp2
  go_ret2
  exact ⟨rfl, below_drewN (unhide HB) _⟩

theorem extract_tail {s : ByteArray} {c : UInt8} {r : List UInt8} (h : s.data.toList = c :: r) : (s.extract 1 s.size).data.toList = r ∧ 0 < s.size := by
  have hz : s.size = r.length + 1 := by
    have := congrArg List.length h
    rw [Array.length_toList, List.length_cons] at this
    exact this
  refine ⟨?_, by omega⟩
  rw [ByteArray.data_extract, Array.toList_extract, h, List.extract_eq_take_drop, hz]
  simp
theorem at_zero {s : ByteArray} {c : UInt8} {r : List UInt8} (h : s.data.toList = c :: r) (h0 : 0 < s.size) : s[0].toNat = c.toNat := by
  have : s[0] = c := by
    show s.data[0] = c
    have := List.getElem_of_eq h (i := 0) (by rw [Array.length_toList]; exact h0)
    rw [Array.getElem_toList] at this
    exact this
  rw [this]
theorem str_empty {s : ByteArray} (h : 0 < s.size) : s.toList.isEmpty = false := by
  rw [ByteArray.toList_eq, List.isEmpty_eq_false_iff]
  intro e
  have := congrArg List.length e
  rw [Array.length_toList, List.length_nil] at this
  have e2 : s.size = 0 := this
  omega

theorem named_split {l : List UInt8} {n v : Int} (h : Pk.namedF l = some (n, v)) : ∃ c r, l = c :: r ∧ Pk.numF r = some v ∧ n = (c.toNat : Int) - 97 + 1 := by
  match l with
  | [] => cases h
  | c :: r =>
    simp only [Pk.namedF] at h
    split at h
    · rename_i u hu
      injection h with h
      injection h with h1 h2
      exact ⟨c, r, rfl, by rw [hu, h2], h1.symm⟩
    · cases h
set_option maxRecDepth 100000 in
theorem readNamed_ok (s : ByteArray) (n v : Int) (w : World) (hs : s.size ≤ 1000) (h : Pk.namedF s.data.toList = some (n, v)) :
    Calls Tryz.prog 163 #[.string s] w fun e w' => e = .returned (.tuple #[.int .i64 n, .int .i64 v, .nilIface]) ∧ Below w.heap.size w w' := by
  obtain ⟨c, r, hl, hn, rfl⟩ := named_split h
  obtain ⟨ht, h0⟩ := extract_tail hl
  have he := str_empty h0
  have HZ := hide (at_zero hl h0)
  have HN : Hid (Pk.numF (s.extract 1 s.size).data.toList = some v) := by rw [ht]; exact hn
  have hz : (s.extract 1 s.size).size ≤ 1000 := by rw [ByteArray.size_extract]; omega
  have hc : ((s[0].toNat : Nat) : Int) < 256 := by have := s[0].toNat_lt; omega
  have hc0 : (0 : Int) ≤ ((s[0].toNat : Nat) : Int) := Int.natCast_nonneg _
  clear ht hl hn h
  go_enter Tryz.func163, Tryz.ntmps163
  go_wp2_with (go_at_call 171; refine (readNumber_ok _ v _ hz (unhide HN)).mono ?_; rintro e w1 ⟨rfl, hb⟩)
  refine bodyPost_ret (v := .tuple #[.int .i64 ((s[0].toNat : Int) - 97 + 1), .int .i64 v, .nilIface]) (by simp [results, Tryz.results163, go_sem]) rfl ⟨by rw [unhide HZ], hb⟩
set_option maxRecDepth 100000 in
theorem readNamed_no (s : ByteArray) (w : World) (ev : Addr) (g : Gl w ev) (hs : s.size ≤ 1000) (h : Pk.namedF s.data.toList = none) :
    Calls Tryz.prog 163 #[.string s] w fun e w' => e = .returned (.tuple #[.int .i64 0, .int .i64 0, .iface 252 (.pointer (some ev))]) ∧ Below w.heap.size w w' := by
  cases hl : s.data.toList with
  | nil =>
    have he : s.toList.isEmpty = true := by rw [ByteArray.toList_eq, hl]; rfl
    have hg := g.e
    have HB : Hid (∀ q, Below w.heap.size w (w.drewN q)) := fun q => below_drewN (Below.refl _ _) q
    clear g h hl hs
    go_enter Tryz.func163, Tryz.ntmps163
    go_wp2_with fail
    go_quiet (fail)
    go_wp2
    refine bodyPost_ret (v := .tuple #[.int .i64 0, .int .i64 0, .iface 252 (.pointer (some ev))]) (by simp [results, Tryz.results163, go_sem]) rfl ⟨rfl, (unhide HB) _⟩
  | cons c r =>
    obtain ⟨ht, h0⟩ := extract_tail hl
    have he := str_empty h0
    have HN : Hid (Pk.numF (s.extract 1 s.size).data.toList = none) := by
      show _ = _
      rw [hl, Pk.namedF] at h
      rw [ht]
      split at h
      · cases h
      · rename_i hr; exact hr
    have hz : (s.extract 1 s.size).size ≤ 1000 := by rw [ByteArray.size_extract]; omega
    have G := hide g
    clear ht hl h g
    go_enter Tryz.func163, Tryz.ntmps163
    go_wp2_with (go_at_call 171; refine (readNumber_no _ _ ev (unhide G) hz (unhide HN)).mono ?_; rintro e w1 ⟨rfl, hb⟩)
    refine bodyPost_ret (v := .tuple #[.int .i64 0, .int .i64 0, .iface 252 (.pointer (some ev))]) (by simp [results, Tryz.results163, go_sem]) rfl ⟨rfl, hb⟩

set_option maxRecDepth 100000 in
theorem readFile_ok (s t : ByteArray) (a b : Int) (w : World) (hs : s.size ≤ 1000) (ht : t.size ≤ 1000) (h1 : Pk.numF s.data.toList = some a) (h2 : Pk.numF t.data.toList = some b) :
    Calls Tryz.prog 162 #[.string s, .string t] w fun e w' => e = .returned (.tuple #[.iface 156 (.agg #[.int .i64 a, .int .i64 b]), .nilIface]) ∧ Below w.heap.size w w' := by
  have H1 := hide h1
  have H2 := hide h2
  clear h1 h2
  go_enter Tryz.func162, Tryz.ntmps162
  go_wp2_with fail
  refine (readNumber_ok s a _ hs (unhide H1)).mono ?_
  rintro e w1 ⟨rfl, hb⟩
  have HB := hide hb
  clear hb
  go_wp2_with fail
  refine (readNumber_ok t b _ ht (unhide H2)).mono ?_
  rintro e w2 ⟨rfl, hb⟩
  have HB2 : Hid (Below w.heap.size w w2) := (unhide HB).trans (hb.mono (unhide HB).size)
  clear hb HB
  go_wp2_with fail
  go_ret2
  exact ⟨rfl, unhide HB2⟩
set_option maxRecDepth 100000 in
theorem readFile_no (s t : ByteArray) (w : World) (ev : Addr) (g : Gl w ev) (hs : s.size ≤ 1000) (ht : t.size ≤ 1000) (h : Pk.fileF s.data.toList t.data.toList = none) :
    Calls Tryz.prog 162 #[.string s, .string t] w fun e w' => e = .returned (.tuple #[.nilIface, .iface 252 (.pointer (some ev))]) ∧ Below w.heap.size w w' := by
  have G := hide g
  clear g
  cases h1 : Pk.numF s.data.toList with
  | none =>
    have H1 := hide h1
    clear h1 h
    go_enter Tryz.func162, Tryz.ntmps162
    go_wp2_with fail
    refine (readNumber_no s _ ev (unhide G) hs (unhide H1)).mono ?_
    rintro e w1 ⟨rfl, hb⟩
    have HB := hide hb
    clear hb
    go_wp2_with fail
    go_ret2
    exact ⟨rfl, unhide HB⟩
  | some a =>
    have h2 : Pk.numF t.data.toList = none := by
      unfold Pk.fileF at h
      rw [h1] at h
      cases h2 : Pk.numF t.data.toList with
      | none => rfl
      | some b => rw [h2] at h; cases h
    have H1 := hide h1
    have H2 := hide h2
    clear h1 h2 h
    go_enter Tryz.func162, Tryz.ntmps162
    go_wp2_with fail
    refine (readNumber_ok s a _ hs (unhide H1)).mono ?_
    rintro e w1 ⟨rfl, hb⟩
    have HB := hide hb
    have G2 := hide ((unhide G).later hb)
    clear hb
    go_wp2_with fail
    refine (readNumber_no t _ ev (unhide G2) ht (unhide H2)).mono ?_
    rintro e w2 ⟨rfl, hb⟩
    have HB2 : Hid (Below w.heap.size w w2) := (unhide HB).trans (hb.mono (unhide HB).size)
    clear hb HB
    go_wp2_with fail
    go_ret2
    exact ⟨rfl, unhide HB2⟩

theorem cut_len (l c : List UInt8) : (Lib.cut l c).1.length ≤ l.length ∧ (Lib.cut l c).2.1.length ≤ l.length := by
  unfold Lib.cut
  split
  · simp only [List.length_take, List.length_drop]; omega
  · simp
/-- strings.Cut at ':'. -/
theorem cut_any (s : ByteArray) (w : World) (ev : Addr) (g : Gl w ev) (hs : s.size ≤ 1000) (a b : List UInt8) (f : Bool) (h : Lib.cut s.data.toList [58] = (a, b, f)) :
    Calls Tryz.prog 161 #[.string s, .string ⟨#[58]⟩] w fun e w' => e = .returned (.tuple #[.string ⟨a.toArray⟩, .string ⟨b.toArray⟩, .bool f]) ∧ ∃ q, w' = w.drewN q := by
  obtain ⟨m, hm⟩ := g.m
  have := Tryz.strings_Cut s ⟨#[58]⟩ m w (by omega) hm
  have e : Lib.cut s.data.toList (⟨#[58]⟩ : ByteArray).data.toList = (a, b, f) := h
  rw [e] at this
  exact this
theorem size_of {a : List UInt8} {n : Nat} (h : a.length ≤ n) : (⟨a.toArray⟩ : ByteArray).size ≤ n := h

set_option maxHeartbeats 1000000 in
set_option maxRecDepth 100000 in
theorem readWord_ok (first : Bool) (s : ByteArray) (x : Nat × Int × Int) (w : World) (ev : Addr) (g : Gl w ev) (hs : s.size ≤ 1000) (h : Pk.wordF first s.data.toList = some x) :
    Calls Tryz.prog 144 #[.string s, .bool first] w fun e w' => e = .returned (.tuple #[wordV x, .nilIface]) ∧ Below w.heap.size w w' := by
  have hl := cut_len s.data.toList [58]
  unfold Pk.wordF at h
  obtain ⟨a, b, f, hc⟩ : ∃ a b f, Lib.cut s.data.toList [58] = (a, b, f) := ⟨_, _, _, rfl⟩
  rw [hc] at h hl
  dsimp only at hl
  have hz : s.data.toList.length = s.size := Array.length_toList
  have ha : (⟨a.toArray⟩ : ByteArray).size ≤ 1000 := size_of (by have := hl.1; omega)
  have hb : (⟨b.toArray⟩ : ByteArray).size ≤ 1000 := size_of (by have := hl.2; omega)
  have HC := hide (cut_any s w ev g hs a b f hc)
  clear hl hc hz g
  cases f with
  | true =>
    rw [if_pos rfl] at h
    obtain ⟨u, v, h1, h2, rfl⟩ : ∃ u v, Pk.numF a = some u ∧ Pk.numF b = some v ∧ x = (1, u, v) := by
      simp only [Pk.fileF] at h
      split at h
      · rename_i u v hu hv; injection h with h; exact ⟨u, v, hu, hv, h.symm⟩
      · cases h
    have H1 := hide h1
    have H2 := hide h2
    clear h h1 h2
    go_enter Tryz.func144, Tryz.ntmps144
    go_wp2_with fail
    refine (unhide HC).mono ?_
    rintro e w1 ⟨rfl, q, hw⟩
    have HW := hide hw
    clear hw
    go_wp2_with fail
    refine (readFile_ok _ _ u v _ ha hb (unhide H1) (unhide H2)).mono ?_
    rintro e w2 ⟨rfl, hb⟩
    have HB2 : Hid (Below w.heap.size w w2) := by
      have hw := unhide HW
      subst hw
      exact (below_drewN (Below.refl _ _) q).trans hb
    clear hb HW
    go_wp2_with fail
    go_ret2
    exact ⟨rfl, unhide HB2⟩
  | false =>
    rw [if_neg (by simp)] at h
    obtain ⟨n, v, h1, rfl⟩ : ∃ n v, Pk.namedF s.data.toList = some (n, v) ∧ x = (bif first then 0 else 2, n, v) := by
      split at h
      · rename_i n v hu; injection h with h; exact ⟨n, v, hu, h.symm⟩
      · cases h
    have H1 := hide h1
    clear h h1
    cases first with
    | true =>
      go_enter Tryz.func144, Tryz.ntmps144
      go_wp2_with fail
      refine (unhide HC).mono ?_
      rintro e w1 ⟨rfl, q, hw⟩
      have HW := hide hw
      clear hw
      go_wp2_with fail
      refine (readNamed_ok s n v _ hs (unhide H1)).mono ?_
      rintro e w2 ⟨rfl, hb⟩
      have HB2 : Hid (Below w.heap.size w w2) := by
        have hw := unhide HW
        subst hw
        exact (below_drewN (Below.refl _ _) q).trans hb
      clear hb HW
      go_wp2_with fail
      go_ret2
      exact ⟨rfl, unhide HB2⟩
    | false =>
      go_enter Tryz.func144, Tryz.ntmps144
      go_wp2_with fail
      refine (unhide HC).mono ?_
      rintro e w1 ⟨rfl, q, hw⟩
      have HW := hide hw
      clear hw
      go_wp2_with fail
      refine (readNamed_ok s n v _ hs (unhide H1)).mono ?_
      rintro e w2 ⟨rfl, hb⟩
      have HB2 : Hid (Below w.heap.size w w2) := by
        have hw := unhide HW
        subst hw
        exact (below_drewN (Below.refl _ _) q).trans hb
      clear hb HW
      go_wp2_with fail
      go_ret2
      exact ⟨rfl, unhide HB2⟩

set_option maxHeartbeats 1000000 in
set_option maxRecDepth 100000 in
theorem readWord_no (first : Bool) (s : ByteArray) (w : World) (ev : Addr) (g : Gl w ev) (hs : s.size ≤ 1000) (h : Pk.wordF first s.data.toList = none) :
    Calls Tryz.prog 144 #[.string s, .bool first] w fun e w' => e = .returned (.tuple #[.nilIface, .iface 252 (.pointer (some ev))]) ∧ Below w.heap.size w w' := by
  have hl := cut_len s.data.toList [58]
  unfold Pk.wordF at h
  obtain ⟨a, b, f, hc⟩ : ∃ a b f, Lib.cut s.data.toList [58] = (a, b, f) := ⟨_, _, _, rfl⟩
  rw [hc] at h hl
  dsimp only at hl
  have hz : s.data.toList.length = s.size := Array.length_toList
  have ha : (⟨a.toArray⟩ : ByteArray).size ≤ 1000 := size_of (by have := hl.1; omega)
  have hb : (⟨b.toArray⟩ : ByteArray).size ≤ 1000 := size_of (by have := hl.2; omega)
  have HC := hide (cut_any s w ev g hs a b f hc)
  have G := hide g
  clear hl hc hz g
  cases f with
  | true =>
    rw [if_pos rfl] at h
    have H1 : Hid (Pk.fileF a b = none) := h
    clear h
    go_enter Tryz.func144, Tryz.ntmps144
    go_wp2_with fail
    refine (unhide HC).mono ?_
    rintro e w1 ⟨rfl, q, hw⟩
    have HW := hide hw
    clear hw
    go_wp2_with fail
    refine (readFile_no _ _ _ ev (by have hw := unhide HW; subst hw; exact (unhide G).later (below_drewN (Below.refl _ _) q)) ha hb (unhide H1)).mono ?_
    rintro e w2 ⟨rfl, hb⟩
    have HB2 : Hid (Below w.heap.size w w2) := by
      have hw := unhide HW
      subst hw
      exact (below_drewN (Below.refl _ _) q).trans hb
    clear hb HW
    go_wp2_with fail
    go_ret2
    exact ⟨rfl, unhide HB2⟩
  | false =>
    rw [if_neg (by simp)] at h
    have H1 : Hid (Pk.namedF s.data.toList = none) := by
      show _ = _
      split at h
      · cases h
      · rename_i hu; exact hu
    clear h
    go_enter Tryz.func144, Tryz.ntmps144
    go_wp2_with fail
    refine (unhide HC).mono ?_
    rintro e w1 ⟨rfl, q, hw⟩
    have HW := hide hw
    clear hw
    go_wp2_with fail
    refine (readNamed_no s _ ev (by have hw := unhide HW; subst hw; exact (unhide G).later (below_drewN (Below.refl _ _) q)) hs (unhide H1)).mono ?_
    rintro e w2 ⟨rfl, hb⟩
    have HB2 : Hid (Below w.heap.size w w2) := by
      have hw := unhide HW
      subst hw
      exact (below_drewN (Below.refl _ _) q).trans hb
    clear hb HW
    go_wp2_with fail
    go_ret2
    exact ⟨rfl, unhide HB2⟩
end Go.Proofs.YtcdbgkdccflbgaaGreatDoor
