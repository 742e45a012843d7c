import Derived.Test.YtnoghnkhfgiloaaDoorReadMath
import Derived.Test.YtnoghnkhfgiloaaDoorMixC
/- What impl.readNumber, readNamed, readFile and readWord return: what the text says, or the one error; of texts of at most 1000 bytes; nothing old is written. -/
namespace Go.Proofs.YtnoghnkhfgiloaaDoor
open Go.RowKit

/-- The variables that are read while a text is read. -/
structure Gl (w : World) (ev : Addr) : Prop where
  e : w.cell? ⟨0, 0, none⟩ = some (.iface 128 (.pointer (some ev)))
  s : ∃ x, w.cell? ⟨5, 0, none⟩ = some x ∧ (x = .nilIface ∨ ∃ te pe, x = .iface te pe)
  r : ∃ x, w.cell? ⟨6, 0, none⟩ = some x ∧ (x = .nilIface ∨ ∃ te pe, x = .iface te pe)
  m : ∃ m : Int, w.cell? ⟨2, 0, none⟩ = some (.int .i64 m)
theorem Gl.later {w w' : World} {ev : Addr} (h : Gl w ev) (hb : Below w.heap.size w w') : Gl w' ev := by
  obtain ⟨e, ⟨x, s1, s2⟩, ⟨y, r1, r2⟩, ⟨m, hm⟩⟩ := h
  exact ⟨by rw [hb.cell (Lib.lt_of_cell e)]; exact e, ⟨x, by rw [hb.cell (Lib.lt_of_cell s1)]; exact s1, s2⟩, ⟨y, by rw [hb.cell (Lib.lt_of_cell r1)]; exact r1, r2⟩, ⟨m, by rw [hb.cell (Lib.lt_of_cell hm)]; exact hm⟩⟩

theorem atoi_ok (s : ByteArray) (v : Int) (w : World) (hs : s.size ≤ 1000) (h : Pk.numF s.data.toList = some v) :
    Calls Tryd.prog 66 #[.string s] w fun e w' => e = .returned (.tuple #[.int .i64 v, .nilIface]) ∧ Below w.heap.size w w' := by
  have h' : Lib.atoiAll s.data.toList = .ok v := by
    unfold Pk.numF at h
    split at h
    · rename_i u hu; injection h with h; rw [hu, h]
    · cases h
  refine (Tryd.strconv_Atoi_ok s (by omega) v h' w).mono fun e w' ⟨h1, h2⟩ => ⟨h1, ?_⟩
  rcases h2 with rfl | ⟨t, rfl⟩
  · exact Below.refl _ _
  · exact Lib.bytesWorld_below _ _ _
theorem atoi_no (s : ByteArray) (w : World) (ev : Addr) (g : Gl w ev) (hs : s.size ≤ 1000) (h : Pk.numF s.data.toList = none) :
    Calls Tryd.prog 66 #[.string s] w fun e w' => (∃ n t N, e = .returned (.tuple #[.int .i64 n, .iface t (.pointer (some ⟨N, 0, none⟩))])) ∧ Below w.heap.size w w' := by
  obtain ⟨x, s1, s2⟩ := g.s
  obtain ⟨y, r1, r2⟩ := g.r
  cases h' : Lib.atoiAll s.data.toList with
  | ok v => unfold Pk.numF at h; rw [h'] at h; cases h
  | «syntax» => exact (Tryd.strconv_Atoi_syntax s (by omega) h' x w s1 s2).mono fun e w' ⟨N, h1, _, _, hb⟩ => ⟨⟨_, _, N, h1⟩, hb⟩
  | range => exact (Tryd.strconv_Atoi_range s (by omega) h' y w r1 r2).mono fun e w' ⟨N, h1, _, _, hb⟩ => ⟨⟨_, _, N, h1⟩, hb⟩

theorem readNumber_ok (s : ByteArray) (v : Int) (w : World) (hs : s.size ≤ 1000) (h : Pk.numF s.data.toList = some v) :
    Calls Tryd.prog 58 #[.string s] w fun e w' => e = .returned (.tuple #[.int .i64 v, .nilIface]) ∧ Below w.heap.size w w' := by
  go_enter Tryd.func58, Tryd.ntmps58
  go_wp2_with (go_at_call 66; refine (atoi_ok s v _ hs h).mono ?_; rintro e w1 ⟨rfl, hb⟩)
  go_ret2
  exact ⟨rfl, hb⟩
theorem readNumber_no (s : ByteArray) (w : World) (ev : Addr) (g : Gl w ev) (hs : s.size ≤ 1000) (h : Pk.numF s.data.toList = none) :
    Calls Tryd.prog 58 #[.string s] w fun e w' => e = .returned (.tuple #[.int .i64 0, .iface 128 (.pointer (some ev))]) ∧ Below w.heap.size w w' := by
  have G := hide g
  clear g
  go_enter Tryd.func58, Tryd.ntmps58
  go_wp2_with (go_at_call 66; refine (atoi_no s _ ev (unhide G) hs h).mono ?_)
  rintro e w1 ⟨⟨n, t, N, rfl⟩, hb⟩
  have he := ((unhide G).later hb).e
  have HB := hide hb
  clear hb
  go_wp2_with fail
  go_quiet (fail)
  go_wp2
  go_ret2
  exact ⟨rfl, below_drewN (unhide HB) _⟩

theorem extract_tail {s : ByteArray} {c : UInt8} {r : List UInt8} (h : s.data.toList = c :: r) : (s.extract 1 s.size).data.toList = r ∧ 0 < s.size := by
  have hz : s.size = r.length + 1 := by
    have := congrArg List.length h
    rw [Array.length_toList, List.length_cons] at this
    exact this
  refine ⟨?_, by omega⟩
  rw [ByteArray.data_extract, Array.toList_extract, h, List.extract_eq_take_drop, hz]
  simp
theorem at_zero {s : ByteArray} {c : UInt8} {r : List UInt8} (h : s.data.toList = c :: r) (h0 : 0 < s.size) : s[0].toNat = c.toNat := by
  have : s[0] = c := by
    show s.data[0] = c
    have := List.getElem_of_eq h (i := 0) (by rw [Array.length_toList]; exact h0)
    rw [Array.getElem_toList] at this
    exact this
  rw [this]
theorem str_empty {s : ByteArray} (h : 0 < s.size) : s.toList.isEmpty = false := by
  rw [ByteArray.toList_eq, List.isEmpty_eq_false_iff]
  intro e
  have := congrArg List.length e
  rw [Array.length_toList, List.length_nil] at this
  have e2 : s.size = 0 := this
  omega

theorem named_split {l : List UInt8} {n v : Int} (h : Pk.namedF l = some (n, v)) : ∃ c r, l = c :: r ∧ Pk.numF r = some v ∧ n = (c.toNat : Int) - 97 + 1 := by
  match l with
  | [] => cases h
  | c :: r =>
    simp only [Pk.namedF] at h
    split at h
    · rename_i u hu
      injection h with h
      injection h with h1 h2
      exact ⟨c, r, rfl, by rw [hu, h2], h1.symm⟩
    · cases h
set_option maxRecDepth 100000 in
theorem readNamed_ok (s : ByteArray) (n v : Int) (w : World) (hs : s.size ≤ 1000) (h : Pk.namedF s.data.toList = some (n, v)) :
    Calls Tryd.prog 59 #[.string s] w fun e w' => e = .returned (.tuple #[.int .i64 n, .int .i64 v, .nilIface]) ∧ Below w.heap.size w w' := by
  obtain ⟨c, r, hl, hn, rfl⟩ := named_split h
  obtain ⟨ht, h0⟩ := extract_tail hl
  have he := str_empty h0
  have HZ := hide (at_zero hl h0)
  have HN : Hid (Pk.numF (s.extract 1 s.size).data.toList = some v) := by rw [ht]; exact hn
  have hz : (s.extract 1 s.size).size ≤ 1000 := by rw [ByteArray.size_extract]; omega
  have hc : ((s[0].toNat : Nat) : Int) < 256 := by have := s[0].toNat_lt; omega
  have hc0 : (0 : Int) ≤ ((s[0].toNat : Nat) : Int) := Int.natCast_nonneg _
  clear ht hl hn h
  go_enter Tryd.func59, Tryd.ntmps59
  go_wp2_with (go_at_call 58; refine (readNumber_ok _ v _ hz (unhide HN)).mono ?_; rintro e w1 ⟨rfl, hb⟩)
  refine bodyPost_ret (v := .tuple #[.int .i64 ((s[0].toNat : Int) - 97 + 1), .int .i64 v, .nilIface]) (by simp [results, Tryd.results59, go_sem]) rfl ⟨by rw [unhide HZ], hb⟩
set_option maxRecDepth 100000 in
theorem readNamed_no (s : ByteArray) (w : World) (ev : Addr) (g : Gl w ev) (hs : s.size ≤ 1000) (h : Pk.namedF s.data.toList = none) :
    Calls Tryd.prog 59 #[.string s] w fun e w' => e = .returned (.tuple #[.int .i64 0, .int .i64 0, .iface 128 (.pointer (some ev))]) ∧ Below w.heap.size w w' := by
  cases hl : s.data.toList with
  | nil =>
    have he : s.toList.isEmpty = true := by rw [ByteArray.toList_eq, hl]; rfl
    have hg := g.e
    have HB : Hid (∀ q, Below w.heap.size w (w.drewN q)) := fun q => below_drewN (Below.refl _ _) q
    clear g h hl hs
    go_enter Tryd.func59, Tryd.ntmps59
    go_wp2_with fail
    go_quiet (fail)
    go_wp2
    refine bodyPost_ret (v := .tuple #[.int .i64 0, .int .i64 0, .iface 128 (.pointer (some ev))]) (by simp [results, Tryd.results59, go_sem]) rfl ⟨rfl, (unhide HB) _⟩
  | cons c r =>
    obtain ⟨ht, h0⟩ := extract_tail hl
    have he := str_empty h0
    have HN : Hid (Pk.numF (s.extract 1 s.size).data.toList = none) := by
      show _ = _
      rw [hl, Pk.namedF] at h
      rw [ht]
      split at h
      · cases h
      · rename_i hr; exact hr
    have hz : (s.extract 1 s.size).size ≤ 1000 := by rw [ByteArray.size_extract]; omega
    have G := hide g
    clear ht hl h g
    go_enter Tryd.func59, Tryd.ntmps59
    go_wp2_with (go_at_call 58; refine (readNumber_no _ _ ev (unhide G) hz (unhide HN)).mono ?_; rintro e w1 ⟨rfl, hb⟩)
    refine bodyPost_ret (v := .tuple #[.int .i64 0, .int .i64 0, .iface 128 (.pointer (some ev))]) (by simp [results, Tryd.results59, go_sem]) rfl ⟨rfl, hb⟩

theorem cut_len (l c : List UInt8) : (Lib.cut l c).1.length ≤ l.length ∧ (Lib.cut l c).2.1.length ≤ l.length := by
  unfold Lib.cut
  split
  · simp only [List.length_take, List.length_drop]; omega
  · simp
/-- strings.Cut at ':'. -/
theorem cut_any (s : ByteArray) (w : World) (ev : Addr) (g : Gl w ev) (hs : s.size ≤ 1000) (a b : List UInt8) (f : Bool) (h : Lib.cut s.data.toList [58] = (a, b, f)) :
    Calls Tryd.prog 44 #[.string s, .string ⟨#[58]⟩] w fun e w' => e = .returned (.tuple #[.string ⟨a.toArray⟩, .string ⟨b.toArray⟩, .bool f]) ∧ ∃ q, w' = w.drewN q := by
  obtain ⟨m, hm⟩ := g.m
  have := Tryd.strings_Cut s ⟨#[58]⟩ m w (by omega) hm
  have e : Lib.cut s.data.toList (⟨#[58]⟩ : ByteArray).data.toList = (a, b, f) := h
  rw [e] at this
  exact this
theorem size_of {a : List UInt8} {n : Nat} (h : a.length ≤ n) : (⟨a.toArray⟩ : ByteArray).size ≤ n := h

end Go.Proofs.YtnoghnkhfgiloaaDoor
