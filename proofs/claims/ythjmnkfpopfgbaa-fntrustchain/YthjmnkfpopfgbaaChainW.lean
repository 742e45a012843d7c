/- What the laws of chapter 2 say of keys and roots as plain data. What spec's DrawTrustNew returns: a root that can be read. The walk of FnTrustChain: it returns true; for every two codes. -/
import Derived.Test.YthjmnkfpopfgbaaKeyMath
import Derived.Test.YthjmnkfpopfgbaaRootDrawW
import Derived.Test.YthjmnkfpopfgbaaOpenW
import Derived.Test.YthjmnkfpopfgbaaBoxW
import Derived.Test.YthjmnkfpopfgbaaLawTrustRootW
namespace Go.Proofs.Ythjmnkfpopfgbaa.Ky
open Pk

theorem rootOk_get {n d : Int} {k : List Int} (h : rootOk n k d = true) : (1 ≤ n ∧ n ≤ 9) ∧ keysOk k = true ∧ 1 ≤ d ∧ d ≤ (k.length : Int) := by
  unfold rootOk at h
  rw [Bool.and_eq_true, Bool.and_eq_true, inB_true, inB_true] at h
  exact ⟨h.1.1, h.1.2, h.2⟩
theorem rootOk_mk {n d : Int} {k : List Int} (h1 : 1 ≤ n ∧ n ≤ 9) (h2 : keysOk k = true) (h3 : 1 ≤ d ∧ d ≤ (k.length : Int)) : rootOk n k d = true := by
  unfold rootOk
  rw [Bool.and_eq_true, Bool.and_eq_true, inB_true, inB_true]
  exact ⟨⟨h1, h2⟩, h3⟩
theorem signed_own {n d : Int} {k : List Int} (h : rootOk n k d = true) : signed n k d k = true := by
  obtain ⟨_, hk, _, hd⟩ := rootOk_get h
  unfold signed
  rw [h, hk, cnt_self, decide_eq_true hd]
  rfl
theorem signed_few {n d : Int} {k by' : List Int} (hc : (cnt k by' : Int) < d) : signed n k d by' = false := by
  unfold signed
  rw [decide_eq_false (by omega), Bool.and_false]
theorem signed_none {n d : Int} {k : List Int} (h : rootOk n k d = true) : signed n k d [] = false := signed_few (by obtain ⟨_, _, hd, _⟩ := rootOk_get h; rw [cnt_nil]; omega)

theorem signed_mk {n d : Int} {k by' : List Int} (h : rootOk n k d = true) (hb : keysOk by' = true) : signed n k d by' = decide (d ≤ (cnt k by' : Int)) := by unfold signed; rw [h, hb]; rfl
theorem signed_get {n d : Int} {k by' : List Int} (h : signed n k d by' = true) : rootOk n k d = true ∧ keysOk by' = true ∧ d ≤ (cnt k by' : Int) := by
  unfold signed at h
  rw [Bool.and_eq_true, Bool.and_eq_true] at h
  exact ⟨h.1.1, h.1.2, of_decide_eq_true h.2⟩
theorem next_get {n d n2 d2 : Int} {k k2 by' : List Int} (h : next n k d n2 k2 d2 by' = true) : signed n k d by' = true ∧ signed n2 k2 d2 by' = true ∧ n2 = n + 1 := by
  unfold next at h
  rw [Bool.and_eq_true, Bool.and_eq_true] at h
  exact ⟨h.1.1, h.1.2, of_decide_eq_true h.2⟩
theorem next_num {n d n2 d2 : Int} {k k2 by' : List Int} (h : n2 ≠ n + 1) : next n k d n2 k2 d2 by' = false := by unfold next; rw [decide_eq_false h, Bool.and_false]
theorem next_few {n d n2 d2 : Int} {k k2 by' : List Int} (h : signed n k d by' = false) : next n k d n2 k2 d2 by' = false := by unfold next; rw [h]; rfl
/-- Signed by the keys of the one ahead alone, and by its own alone. -/
theorem next_old {n d n2 d2 : Int} {k k2 by' : List Int} (h : next n k d n2 k2 d2 by' = true) : next n k d n2 k2 d2 k = decide (d2 ≤ (cnt k k2 : Int)) := by
  obtain ⟨h1, h2, h3⟩ := next_get h
  obtain ⟨r1, _, _⟩ := signed_get h1
  obtain ⟨r2, _, _⟩ := signed_get h2
  obtain ⟨_, k1, _⟩ := rootOk_get r1
  obtain ⟨_, k2', _⟩ := rootOk_get r2
  unfold next
  rw [signed_own r1, signed_mk r2 k1, decide_eq_true h3, cnt_comm k2' k1]
  simp
theorem next_own {n d n2 d2 : Int} {k k2 by' : List Int} (h : next n k d n2 k2 d2 by' = true) : next n k d n2 k2 d2 k2 = decide (d ≤ (cnt k k2 : Int)) := by
  obtain ⟨h1, h2, h3⟩ := next_get h
  obtain ⟨r1, _, _⟩ := signed_get h1
  obtain ⟨r2, _, _⟩ := signed_get h2
  obtain ⟨_, k2', _⟩ := rootOk_get r2
  unfold next
  rw [signed_own r2, signed_mk r1 k2', decide_eq_true h3]
  simp

/-- Keys without the one at a place. -/
def without (k : List Int) (i : Nat) : List Int := k.take i ++ k.drop (i + 1)
theorem without_len {k : List Int} {i : Nat} (hi : i < k.length) : (without k i).length = k.length - 1 := by unfold without; rw [List.length_append, List.length_take, List.length_drop]; omega
theorem without_ok {k : List Int} {i : Nat} (h : keysOk k = true) (hi : i < k.length) : keysOk (without k i) = true := by
  have h6 := ok_len h
  exact List.all_eq_true.1 (ok_all (p := fun k => (List.range 6).all fun i => keysOk (without k i)) (by decide +kernel) h) i (List.mem_range.2 (by omega))
theorem twice_bad {k : List Int} {i : Nat} (h : keysOk k = true) (hi : i < k.length) : keysOk (k ++ [nth k i]) = false := by
  have h6 := ok_len h
  have := List.all_eq_true.1 (ok_all (p := fun k => (List.range 6).all fun i => !decide (i < k.length) || !keysOk (k ++ [nth k i])) (by decide +kernel) h) i (List.mem_range.2 (by omega))
  simpa [hi] using this
theorem root_less {n d : Int} {k : List Int} {i : Nat} (h : rootOk n k d = true) (hi : i < k.length) : rootOk n (without k i) d = decide (d < (k.length : Int)) := by
  obtain ⟨hn, hk, d0, d1⟩ := rootOk_get h
  rw [Bool.eq_iff_iff]
  constructor
  · intro h'
    obtain ⟨_, _, _, d2⟩ := rootOk_get h'
    rw [without_len hi] at d2
    exact decide_eq_true (by omega)
  · intro h'
    have h' := of_decide_eq_true h'
    exact rootOk_mk hn (without_ok hk hi) ⟨d0, by rw [without_len hi]; omega⟩
theorem root_one {n d : Int} {k : List Int} (h : rootOk n k d = true) : rootOk n k 1 = true := by
  obtain ⟨hn, hk, d0, d1⟩ := rootOk_get h
  exact rootOk_mk hn hk ⟨by omega, by omega⟩
theorem root_zero (n : Int) (k : List Int) : rootOk n k 0 = false := by
  rw [Bool.eq_false_iff]
  intro h
  obtain ⟨_, _, d0, _⟩ := rootOk_get h
  omega
theorem cnt_take {k : List Int} {m : Nat} (h : keysOk k = true) (hm : m ≤ 6) : cnt k (k.take m) ≤ m :=
  of_decide_eq_true (List.all_eq_true.1 (ok_all (p := fun k => (List.range 7).all fun m => decide (cnt k (k.take m) ≤ m)) (by decide +kernel) h) m (List.mem_range.2 (by omega)))
theorem same_next {n d : Int} {k : List Int} (h : rootOk n k d = true) : next n k d (n + 1) k d k = decide (n < 9) := by
  obtain ⟨hn, hk, d0, d1⟩ := rootOk_get h
  unfold next
  rw [signed_own h, decide_eq_true rfl, Bool.and_true, Bool.true_and, Bool.eq_iff_iff]
  constructor
  · intro h'
    obtain ⟨r, _, _⟩ := signed_get h'
    obtain ⟨h1, _⟩ := rootOk_get r
    exact decide_eq_true (by omega)
  · intro h'
    have h' := of_decide_eq_true h'
    exact signed_own (rootOk_mk ⟨by omega, by omega⟩ hk ⟨d0, d1⟩)
theorem same_few {n d : Int} {k : List Int} {m : Nat} (h : rootOk n k d = true) (hm : (m : Int) = d - 1) : next n k d (n + 1) k d (k.take m) = false := by
  obtain ⟨hn, hk, d0, d1⟩ := rootOk_get h
  have h6 := ok_len hk
  exact next_few (signed_few (by have := cnt_take (m := m) hk (by omega); omega))

/-- The keys from 1 to k. -/
def upTo (k : Nat) : List Int := (List.range k).map fun (j : Nat) => (j : Int) + 1
theorem upTo_succ (k : Nat) : upTo (k + 1) = upTo k ++ [(k : Int) + 1] := by unfold upTo; rw [List.range_succ, List.map_append]; rfl
/-- Those that sign, and one more; those that sign, without one. -/
def plus (b : List Int) (key : Int) (k : Nat) : List Int := (upTo k).filter fun n => isIn b n || n == key
def less (b : List Int) (key : Int) (k : Nat) : List Int := (upTo k).filter fun n => isIn b n && n != key
theorem plus_succ (b : List Int) (key : Int) (k : Nat) : plus b key (k + 1) = plus b key k ++ (if (isIn b ((k : Int) + 1) || ((k : Int) + 1) == key) then [(k : Int) + 1] else []) := by
  unfold plus
  rw [upTo_succ, List.filter_append]
  congr 1
  simp only [List.filter_cons, List.filter_nil]
theorem less_succ (b : List Int) (key : Int) (k : Nat) : less b key (k + 1) = less b key k ++ (if (isIn b ((k : Int) + 1) && ((k : Int) + 1) != key) then [(k : Int) + 1] else []) := by
  unfold less
  rw [upTo_succ, List.filter_append]
  congr 1
  simp only [List.filter_cons, List.filter_nil]
theorem upTo_len (k : Nat) : (upTo k).length = k := by simp [upTo]
theorem plus_len (b : List Int) (key : Int) (k : Nat) : (plus b key k).length ≤ k := Nat.le_trans (List.length_filter_le _ _) (Nat.le_of_eq (upTo_len k))
theorem less_len (b : List Int) (key : Int) (k : Nat) : (less b key k).length ≤ k := Nat.le_trans (List.length_filter_le _ _) (Nat.le_of_eq (upTo_len k))
theorem plus_ok {b : List Int} {key : Int} (h : keysOk b = true) (h0 : 1 ≤ key) (h1 : key ≤ 6) : keysOk (plus b key 6) = true ∧ keysOk (less b key 6) = true ∧ ∀ x ∈ b, x ∈ plus b key 6 := by
  have := List.all_eq_true.1 (ok_all (p := fun b => (upTo 6).all fun key => keysOk (plus b key 6) && keysOk (less b key 6) && b.all fun x => decide (x ∈ plus b key 6)) (by decide +kernel) h) key (by
    have : key = 1 ∨ key = 2 ∨ key = 3 ∨ key = 4 ∨ key = 5 ∨ key = 6 := by omega
    rcases this with rfl | rfl | rfl | rfl | rfl | rfl <;> decide)
  rw [Bool.and_eq_true, Bool.and_eq_true, List.all_eq_true] at this
  exact ⟨this.1.1, this.1.2, fun x hx => of_decide_eq_true (this.2 x hx)⟩
theorem has_is {b : List Int} {k : Nat} (h : keysOk b = true) (hk : k < 6) : ((cnt b [(k : Int) + 1] : Int) == 1) = isIn b ((k : Int) + 1) :=
  of_decide_eq_true (List.all_eq_true.1 (ok_all (p := fun b => (List.range 6).all fun (k : Nat) => decide (((cnt b [(k : Int) + 1] : Int) == 1) = isIn b ((k : Int) + 1))) (by decide +kernel) h) k (List.mem_range.2 hk))
theorem signed_plus {n d key : Int} {k b : List Int} (h : signed n k d b = true) (h0 : 1 ≤ key) (h1 : key ≤ 6) : signed n k d (plus b key 6) = true := by
  obtain ⟨r, hb, hc⟩ := signed_get h
  obtain ⟨p1, _, p3⟩ := plus_ok hb h0 h1
  rw [signed_mk r p1]
  have := cnt_mono (a := k) p3
  exact decide_eq_true (by omega)
theorem all_ok : keysOk (upTo 6) = true := by decide +kernel
theorem all_both {a : List Int} (h : keysOk a = true) : kboth (upTo 6) a = (a.length : Int) := by
  rw [kboth_ok all_ok h, cnt_comm all_ok h]
  have := of_decide_eq_true (ok_all (p := fun a => decide (cnt a (upTo 6) = a.length)) (by decide +kernel) h)
  rw [this]
theorem nine_bad (a : List Int) : kboth a (upTo 6 ++ [9]) = -1 := kboth_bad (by rw [show keysOk (upTo 6 ++ [9]) = false by decide +kernel, Bool.and_false])
theorem nil_both {a : List Int} (h : keysOk a = true) : kboth a [] = 0 := by rw [kboth_ok h rfl, cnt_nil]; rfl
end Go.Proofs.Ythjmnkfpopfgbaa.Ky
namespace Go.Proofs.Ythjmnkfpopfgbaa
open Go.RowKit

set_option maxHeartbeats 2000000 in
set_option maxRecDepth 100000 in
theorem drawTrustNew_any (w : World) (a : Option Addr) (len cap : Nat) (h : Bytes w a len cap) :
    Calls Try.prog 16 #[.slice a len cap] w fun e w' => ∃ (n d : Int) (kv : Value) (ks : List Int), e = .returned (.agg #[.int .i64 n, kv, .int .i64 d]) ∧ 0 ≤ n ∧ n ≤ 10 ∧ 0 ≤ d ∧ d ≤ 8 ∧ ks.length ≤ 7 ∧ Ins w' kv ks ∧ Below w.heap.size w w' := by
  have CO := hide (open_behind w a len cap h (.cells #[.int .i64 0, .slice none 0 0, .int .i64 0] 25))
  clear h
  go_enter Try.func16, Try.ntmps16
  go_wp2_with fail
  refine (unhide CO).mono ?_
  generalize w.alloc _ = W0 at *
  rintro e w1 ⟨rfl, hr1, hR1, b1, hs1⟩
  have HR1 := hide hR1
  have B1 := hide b1
  have HRD := hide hr1
  clear hR1 b1 hr1 CO
  clear W0
  go_wp2_with fail
  refine (l71Root_any _ (w.heap.size + 1) 0 (unhide HRD) (by omega) (by omega)).mono ?_
  rintro e w2 ⟨n, d, kv, ks, q2, rfl, n0, n1, d0, d1, hks, hq2, hst⟩
  obtain ⟨ka, kc, hkv⟩ := hst.own.form
  subst hkv
  have hR2 := (hst.kp.block w.heap.size (by omega) (by omega)).trans (unhide HR1)
  have B2 := hide ((unhide B1).trans ((hst.kp.mono (unhide B1).size).below (by omega)))
  have HO := hide hst.own
  have r0 := cellOf hR2 0
  have r1 := cellOf hR2 1
  have r2 := cellOf hR2 2
  have s0 := frozenOf hR2 0
  have s1 := frozenOf hR2 1
  have s2 := frozenOf hR2 2
  have HR2 := hide hR2
  clear hst hR2 HRD HR1
  go_wp2
  obtain ⟨⟨q0, q1, q2'⟩, hbel, hfar⟩ := fin3 (a := .int .i64 n) (b := .slice ka ks.length kc) (c := .int .i64 d) (W := w) (unhide HR2) (Nat.le_refl _) (unhide B2) rfl
  exact bodyPost_ret (v := .agg #[.int .i64 n, .slice ka ks.length kc, .int .i64 d]) (by simp [results, Try.results16, go_sem, q0, q1, q2']) rfl ⟨_, _, _, ks, rfl, n0, n1, d0, d1, hks, ((unhide HO).keep (fun g _ _ hg _ => hfar g (by omega))).ins (by omega), hbel⟩
end Go.Proofs.Ythjmnkfpopfgbaa
namespace Go.Proofs.Ythjmnkfpopfgbaa
open Go.RowKit

theorem Ky.signed_all {n d : Int} {k : List Int} : Ky.signed n k d (Ky.upTo 6) = Ky.rootOk n k d := by
  cases hA : Ky.rootOk n k d
  · unfold Ky.signed; rw [hA]; rfl
  · obtain ⟨_, hk, _, hd⟩ := Ky.rootOk_get hA
    rw [Ky.signed_mk hA Ky.all_ok, decide_eq_true]
    have : Ky.cnt k (Ky.upTo 6) = k.length := of_decide_eq_true (Ky.ok_all (p := fun k => decide (Ky.cnt k (Ky.upTo 6) = k.length)) (by decide +kernel) hk)
    rw [this]
    exact hd
theorem Tr.chain_skip {t : Tr.T} {n2 d3 : Int} {k3 : List Int} (h : n2 = t.n + 1) : (Tr.root t (n2 + 1) k3 d3 (Ky.upTo 6)).2 = false := by
  unfold Tr.root
  rw [Ky.next_num (by omega)]
  split
  · rfl
  · rfl
theorem Tr.chain_next {t : Tr.T} {d3 : Int} {k3 : List Int} (ho : t.ok = true) (hr : Ky.rootOk t.n t.ks t.d = true) : Tr.root t (t.n + 1) k3 d3 (Ky.upTo 6) = if Ky.rootOk (t.n + 1) k3 d3 = true then ({ t with n := t.n + 1, ks := k3, d := d3 }, true) else (t, false) := by
  unfold Tr.root
  rw [if_pos ho]
  have : Ky.next t.n t.ks t.d (t.n + 1) k3 d3 (Ky.upTo 6) = Ky.rootOk (t.n + 1) k3 d3 := by
    unfold Ky.next
    rw [Ky.signed_all, Ky.signed_all, hr, decide_eq_true rfl, Bool.true_and, Bool.and_true]
  rw [this]

set_option maxHeartbeats 8000000 in
set_option maxRecDepth 100000 in
theorem trustChain_walk (w : World) (a : Option Addr) (len cap : Nat) (aM : Option Addr) (lenM capM : Nat) (h : Bytes w a len cap) (hM : Bytes w aM lenM capM) :
    Calls Try.prog 8 #[.slice a len cap, .slice aM lenM capM] w fun e w' => e = .returned (.bool true) ∧ Below w.heap.size w w' := by
  obtain ⟨iI, hI0, hz0, hz1, hz2⟩ := info_parts infoI'
  by_cases hbig : (1048576 : Int) < (len : Int)
  · go_enter Try.func8, Try.ntmps8
    go_wp2
    go_ret
    exact ⟨rfl, Below.refl _ _⟩
  have hbig' : decide ((1048576 : Int) < (len : Int)) = false := by simpa using hbig
  by_cases hbig2 : (1048576 : Int) < (lenM : Int)
  · go_enter Try.func8, Try.ntmps8
    go_wp2
    go_ret
    exact ⟨rfl, Below.refl _ _⟩
  have CD := hide (drawTrustRoot_any w a len cap h)
  have HM := hide hM
  unfold tv at CD
  clear h hM
  go_enter Try.func8, Try.ntmps8
  go_wp2_with fail
  refine (unhide CD).mono ?_
  clear CD
  rintro e w1 ⟨n, d, kv, ks, has, num, til, mv, ms, n2, d2, v2, vb, k2, by', rfl, ⟨m0, m1⟩, hks, hms, hk2, hby, i1, i2, i3, i4, b1⟩
  obtain ⟨ka, kc, e1⟩ := i1.slice
  obtain ⟨ma, mc, e2⟩ := i2.slice
  obtain ⟨a2, c2, e3⟩ := i3.slice
  obtain ⟨ab, cb, e4⟩ := i4.slice
  subst e1 e2 e3 e4
  have M1 := hide ((unhide HM).later b1)
  have b1' := b1
  have X2 := Tb.new (n := n) (d := d) (has := has) (num := num) (til := til) i1 i2 31
  have c1 := below1 w1 (.cells #[.int .i64 n, .slice ka ks.length kc, .int .i64 d, .bool has, .int .i64 num, .int .i64 til, .slice ma ms.length mc] 31)
  have z1 := sz1' w1 (.cells #[.int .i64 n, .slice ka ks.length kc, .int .i64 d, .bool has, .int .i64 num, .int .i64 til, .slice ma ms.length mc] 31)
  have S3 := Sx.new (n := n2) (d := d2) (i3.later c1) (i4.later c1) 40
  rw [z1] at S3
  have c2' := below1 (w1.alloc (.cells #[.int .i64 n, .slice ka ks.length kc, .int .i64 d, .bool has, .int .i64 num, .int .i64 til, .slice ma ms.length mc] 31)) (.cells #[.int .i64 n2, .slice a2 k2.length c2, .int .i64 d2, .slice ab by'.length cb] 40)
  have X3 := hide (X2.later c2')
  have S3' := hide S3
  have B3 := hide ((b1.trans (c1.mono b1.size)).trans (c2'.mono (Nat.le_trans b1.size c1.size)))
  have M3 := hide (((unhide M1).later c1).later c2')
  clear X2 c1 z1 S3 c2' b1 b1' i1 i2 i3 i4 M1 HM
  obtain ⟨t0, ht0⟩ : ∃ t0 : Tr.T, t0 = ⟨n, ks, d, has, num, til, ms⟩ := ⟨_, rfl⟩
  obtain ⟨hl1, hl2⟩ := Tr.root_len (t := ⟨n, ks, d, has, num, til, ms⟩) (n := n2) (d := d2) (ks := k2) (by' := by') hks hms hk2
  have CS := hide (fun (W : World) h1 h2 h3 h4 => specTrustRoot_any W ⟨n, ks, d, has, num, til, ms⟩ (.slice ka ks.length kc) (.slice ma ms.length mc) n2 d2 (.slice a2 k2.length c2) (.slice ab by'.length cb) k2 by' h1 h2 h3 h4 (show ks.length ≤ 1000000 by omega) (show ms.length ≤ 1000000 by omega))
  have CI := hide (fun (W : World) h1 h2 h3 h4 => implTrustRoot_any W ⟨n, ks, d, has, num, til, ms⟩ (.slice ka ks.length kc) (.slice ma ms.length mc) n2 d2 (.slice a2 k2.length c2) (.slice ab by'.length cb) k2 by' h1 h2 h3 h4)
  have HC := hide (Tr.root_cases ⟨n, ks, d, has, num, til, ms⟩ n2 d2 k2 by')
  generalize Tr.root ⟨n, ks, d, has, num, til, ms⟩ n2 k2 d2 by' = r at *
  obtain ⟨t, b⟩ := r
  dsimp only [tvT, tv] at *
  clear ht0
  clear t0
  go_wp2_with fail
  refine (unhide CS _ (unhide X3).ins (unhide X3).trs (unhide S3').ins (unhide S3').inb).mono ?_
  generalize w1.heap.size = X at *
  generalize World.alloc _ _ = W3 at *
  clear w1
  rintro e w4 ⟨kv4, mv4, rfl, ok4, om4, b4⟩
  have r4 := OwnI.ins (B := W3.heap.size) ok4 (show t.ks.length ≤ 1000000 by omega)
  have q4 := Trs.own om4 (show t.ms.length ≤ 1000000000 by omega)
  obtain ⟨xa, xc, e5⟩ := r4.slice
  obtain ⟨ya, yc, e6⟩ := q4.slice
  subst e5 e6
  have X4 := (unhide X3).later b4
  have S4 := (unhide S3').later b4
  have B4 := (unhide B3).trans (b4.mono (unhide B3).size)
  have Y5 := hide (Tb.new (n := t.n) (d := t.d) (has := t.has) (num := t.num) (til := t.til) r4 q4 31)
  have b5 := below1 w4 (.cells #[.int .i64 t.n, .slice xa t.ks.length xc, .int .i64 t.d, .bool t.has, .int .i64 t.num, .int .i64 t.til, .slice ya t.ms.length yc] 31)
  have X5 := hide (X4.later b5)
  have S5 := hide (S4.later b5)
  have M5 := hide (((unhide M3).later b4).later b5)
  have B5 := hide (B4.trans (b5.mono B4.size))
  clear ok4 om4 b4 b5 X4 S4 B4 r4 q4 X3 S3' B3 CS M3
  obtain ⟨x0, x1, x2, x3, x4, x5, x6⟩ := (unhide X5).cells
  obtain ⟨s0, s1, s2, s3⟩ := Sx.cells' (unhide S5)
  go_wp2_with fail
  refine (unhide CI _ (unhide X5).ins (unhide X5).trs (unhide S5).ins (unhide S5).inb).mono ?_
  generalize w4.heap.size = Y at *
  generalize World.alloc _ _ = W5 at *
  clear w4
  clear W3
  rintro e w6 ⟨kv6, mv6, rfl, ok6, om6, b6⟩
  have r6 := OwnI.ins (B := W5.heap.size) ok6 (show t.ks.length ≤ 1000000 by omega)
  have q6 := Trs.own om6 (show t.ms.length ≤ 1000000000 by omega)
  obtain ⟨va, vc, e5⟩ := r6.slice
  obtain ⟨ua, uc, e6⟩ := q6.slice
  subst e5 e6
  have X6 := (unhide X5).later b6
  have S6 := (unhide S5).later b6
  have Y6 := (unhide Y5).later b6
  have B6 := (unhide B5).trans (b6.mono (unhide B5).size)
  have Z7 := hide (Tb.new (n := t.n) (d := t.d) (has := t.has) (num := t.num) (til := t.til) r6 q6 31)
  have b7 := below1 w6 (.cells #[.int .i64 t.n, .slice va t.ks.length vc, .int .i64 t.d, .bool t.has, .int .i64 t.num, .int .i64 t.til, .slice ua t.ms.length uc] 31)
  have X7 := hide (X6.later b7)
  have S7 := hide (S6.later b7)
  have M7 := hide (((unhide M5).later b6).later b7)
  have Y7 := hide (Y6.later b7)
  have B7 := hide (B6.trans (b7.mono B6.size))
  clear ok6 om6 b6 b7 X6 S6 Y6 B6 r6 q6 X5 S5 Y5 B5 CI M5 x0 x1 x2 x3 x4 x5 x6 s0 s1 s2 s3
  obtain ⟨y0, y1, y2, y3, y4, y5, y6⟩ := (unhide Y7).cells
  obtain ⟨z0, z1, z2, z3, z4, z5, z6⟩ := (unhide Z7).cells
  have CL := hide (fun (W : World) hk1 hm1 hk2 hm2 => luTrust_same W t (.slice va t.ks.length vc) (.slice ua t.ms.length uc) (.slice xa t.ks.length xc) (.slice ya t.ms.length yc) hk1 hm1 hk2 hm2)
  dsimp only [tvT, tv] at CL
  have hne : (b != b) = false := by simp
  have heq : (b == b) = true := by simp
  go_wp2_with fail
  refine (unhide CL _ (unhide Z7).ins (unhide Z7).trs (unhide Y7).ins (unhide Y7).trs).mono ?_
  generalize w6.heap.size = Z at *
  generalize World.alloc _ _ = W7 at *
  clear w6
  clear W5
  rintro e w8 ⟨rfl, b8⟩
  have X8 := hide ((unhide X7).later b8)
  have S8 := hide ((unhide S7).later b8)
  have Y8 := hide ((unhide Y7).later b8)
  have Z8 := hide ((unhide Z7).later b8)
  have M8 := hide ((unhide M7).later b8)
  have B8 := hide ((unhide B7).trans (b8.mono (unhide B7).size))
  clear b8 X7 S7 Y7 Z7 B7 M7 y0 y1 y2 y3 y4 y5 y6 z0 z1 z2 z3 z4 z5 z6
  clear W7
  obtain ⟨x0, x1, x2, x3, x4, x5, x6⟩ := (unhide X8).cells
  obtain ⟨s0, s1, s2, s3⟩ := Sx.cells' (unhide S8)
  obtain ⟨y0, y1, y2, y3, y4, y5, y6⟩ := (unhide Y8).cells
  obtain ⟨z0, z1, z2, z3, z4, z5, z6⟩ := (unhide Z8).cells
  have hb : b = false ∨ b = true := by cases b <;> simp
  rcases hb with rfl | rfl
  · go_wp2_with fail
    refine (unhide CL _ (unhide Z8).ins (unhide Z8).trs (unhide Y8).ins (unhide Y8).trs).mono ?_
    rintro e w10 ⟨rfl, b10⟩
    have B10 := hide ((unhide B8).trans (b10.mono (unhide B8).size))
    clear b10
    go_wp2
    go_ret
    exact ⟨rfl, unhide B10⟩
  by_cases h9 : n2 = 9
  · have h9' : (n2 == 9) = true := by simpa using h9
    have H9 := hide h9
    clear h9
    go_wp2_with fail
    refine (unhide CL _ (unhide Z8).ins (unhide Z8).trs (unhide Y8).ins (unhide Y8).trs).mono ?_
    rintro e w10 ⟨rfl, b10⟩
    have B10 := hide ((unhide B8).trans (b10.mono (unhide B8).size))
    clear b10
    go_wp2
    go_ret
    exact ⟨rfl, unhide B10⟩
  have h9' : (n2 == 9) = false := by simpa using h9
  rcases unhide HC with ⟨hO, hc⟩ | ⟨hO, hN, hc⟩ | ⟨hO, hN, hc, hO2⟩
  · injection hc with _ hc2; cases hc2
  · injection hc with _ hc2; cases hc2
  injection hc with hc1 _
  subst hc1
  dsimp only at *
  obtain ⟨_, hsg, hnum⟩ := Ky.next_get hN
  have hrt := (Ky.signed_get hsg).1
  obtain ⟨⟨g0, g1⟩, _⟩ := Ky.rootOk_get hrt
  have FACTS := hide (And.intro hO (And.intro hnum (And.intro hO2 hrt)))
  have CD2 := hide (fun (W : World) hW => drawTrustNew_any W aM lenM capM hW)
  have en : IntKind.i64.wrap (n2 + 1) = n2 + 1 := wrap_in' (by omega) (by omega)
  clear HC hO hN hO2 hsg hnum hrt hne heq CL Y8 y0 y1 y2 y3 y4 y5 y6 h9
  go_wp2_with fail
  refine (unhide CD2 _ (unhide M8)).mono ?_
  clear CD2
  rintro e w9 ⟨n3, d3, v3, k3, rfl, _, _, _, _, hk3, i3, b9⟩
  obtain ⟨a3, c3, e3⟩ := i3.slice
  subst e3
  have b10 := below1 w9 (.cells #[.int .i64 n3, .slice a3 k3.length c3, .int .i64 d3] 25)
  have HSX := hide (((unhide S8).later b9).later b10)
  have hq := heap_alloc_new w9 (.cells #[.int .i64 n3, .slice a3 k3.length c3, .int .i64 d3] 25)
  have B9 := (unhide B8).trans (b9.mono (unhide B8).size)
  have X9 := (unhide X8).later b9
  have Z9 := (unhide Z8).later b9
  have hXlt : X < w9.heap.size := X9.lt
  have hZlt : Z < w9.heap.size := Z9.lt
  have b10' := below1 w9 (.cells #[.int .i64 (n2 + 1), .slice a3 k3.length c3, .int .i64 d3] 25)
  have XL := X9.later b10'
  have ZL := Z9.later b10'
  have QL := Bx.new (n := n2 + 1) (d := d3) i3 25
  have BL := B9.trans (b10'.mono B9.size)
  have zL := sz1' w9 (.cells #[.int .i64 (n2 + 1), .slice a3 k3.length c3, .int .i64 d3] 25)
  have heL := heap_alloc_new (w9.alloc (.cells #[.int .i64 (n2 + 1), .slice a3 k3.length c3, .int .i64 d3] 25)) (.cells #[] 3)
  rw [zL] at heL
  have HL := hide (And.intro XL (And.intro ZL (And.intro QL (And.intro BL (And.intro zL heL)))))
  have q0 := cellOf hq 0
  have qf := frozenOf hq 0
  obtain ⟨s0, s1, s2, s3⟩ := Sx.cells' (unhide HSX)
  clear XL ZL QL BL zL heL b10' X9 Z9 B9 hq b9 b10 i3 X8 S8 Z8 B8 M8 x0 x1 x2 x3 x4 x5 x6 z0 z1 z2 z3 z4 z5 z6
  have C1 := hide (fun (W : World) (vb : Value) h1 h2 h3 (h4 : Ins W vb (Ky.upTo 6)) => implTrustRoot_any W ⟨n, ks, d, has, num, til, ms⟩ (.slice ka ks.length kc) (.slice ma ms.length mc) (n2 + 1) d3 (.slice a3 k3.length c3) vb k3 (Ky.upTo 6) h1 h2 h3 h4)
  have C2 := hide (fun (W : World) (vb : Value) h1 h2 h3 (h4 : Ins W vb (Ky.upTo 6)) => implTrustRoot_any W ⟨n2, k2, d2, has, num, til, ms⟩ (.slice va k2.length vc) (.slice ua ms.length uc) (n2 + 1) d3 (.slice a3 k3.length c3) vb k3 (Ky.upTo 6) h1 h2 h3 h4)
  have hs1 := Tr.chain_skip (t := ⟨n, ks, d, has, num, til, ms⟩) (d3 := d3) (k3 := k3) (unhide FACTS).2.1
  have hs2 := Tr.chain_next (t := ⟨n2, k2, d2, has, num, til, ms⟩) (d3 := d3) (k3 := k3) (unhide FACTS).2.2.1 (unhide FACTS).2.2.2
  dsimp only at hs1 hs2
  rw [hs2] at C2
  generalize Tr.root ⟨n, ks, d, has, num, til, ms⟩ (n2 + 1) k3 d3 (Ky.upTo 6) = r1 at *
  obtain ⟨t1, bb1⟩ := r1
  dsimp only at hs1
  subst hs1
  clear hs2 FACTS
  dsimp only [tvT, tv] at *
  go_wp2_with fail
  generalize w9.alloc (.cells #[.int .i64 (n2 + 1), .slice a3 k3.length c3, .int .i64 d3] 25) = WL at *
  clear q0 qf s0 s1 s2 s3 HSX
  go_loopw [12, 13] (fun o i w' => ∃ k : Nat, k ≤ 6 ∧ i = .int .i64 ((k : Int) + 1) ∧ OwI (w9.heap.size + 1) w' o (Ky.upTo k) ∧ Below WL.heap.size WL w') (fun _ i _ => (7 - intOf i).toNat)
  case atStart => exact ⟨0, by omega, rfl, empty_own (unhide HL).2.2.2.2.2 (Nat.le_refl _), below1 _ _⟩
  case round =>
    obtain ⟨k, hk, rfl, ho, hbl⟩ := hrel
    have HO := hide ho
    have HBL := hide hbl
    have hszl := hbl.size
    have hzL := (unhide HL).2.2.2.2.1
    have hul := Ky.upTo_len k
    clear ho hbl
    by_cases hlt : k < 6
    · have hle : (k : Int) + 1 ≤ 6 := by omega
      obtain ⟨oa, oc, hoo⟩ := own_formS (unhide HO)
      subst hoo
      have HOA := hide (own_later (unhide HO) (below1 wr (.cells #[.int .i64 ((k : Int) + 1)] 3)))
      have hszr : w9.heap.size + 1 ≤ wr.heap.size := by omega
      have HULL := hide hul
      clear hul HO
      go_wp2_with (at_builtin; refine wpList_append_lies _ rfl _ _ _ rfl (w9.heap.size + 1) 3 iI _ 1 8 Try.underlying23 hI0 hz0 hz1 hz2 rfl (by omega) (.slice oa (Ky.upTo k).length oc) (Ky.upTo k).length ((Ky.upTo k).map (Value.int .i64)) rfl (unhide HOA) ⟨wr.heap.size, 0, none⟩ 1 1 [.int .i64 ((k : Int) + 1)] rfl rfl (World.news_of_block (cs := #[.int .i64 ((k : Int) + 1)]) (t := 3) (fr := (0, 0)) (heap_alloc_new _ _)) (by simp [Value.oneCell']) (by omega) (by rw [unhide HULL]; unfold maxLen; omega) (by rw [unhide HULL]; omega) (by rw [sz1']; omega) (wr.heap.size + 1) (by rw [sz1']) ?_; intro gg gcap w10 hown hgrow hat hlt10)
      have HO2 : Hid (OwI (w9.heap.size + 1) w10 (.slice (some ⟨gg, 0, none⟩) ((Ky.upTo k).length + 1) gcap) (Ky.upTo (k + 1))) := by
        show World.ownsRow _ _ _ _ _ _ _
        rw [Ky.upTo_succ, List.map_append, List.length_append]
        exact hown
      have HB2 : Hid (Below WL.heap.size WL w10) := by
        have h1 := (unhide HBL).trans ((below1 wr (.cells #[.int .i64 ((k : Int) + 1)] 3)).mono (unhide HBL).size)
        exact grown_below (B := WL.heap.size) (own_base' (unhide HOA) (by omega)) hgrow h1 h1.size
      clear hown hgrow hat hlt10 HOA
      go_roundw
      case rel => exact ⟨k + 1, by omega, by go_num, unhide HO2, unhide HB2⟩
      case measure => simp [intOf]; omega
    · obtain rfl : k = 6 := by omega
      obtain ⟨oa, oc, hoo⟩ := own_formS (unhide HO)
      subst hoo
      have iall := OwnI.ins (B := w9.heap.size + 1) (unhide HO) (by omega)
      have XR := (unhide HL).1.later (unhide HBL)
      have ZR := (unhide HL).2.1.later (unhide HBL)
      have QR := (unhide HL).2.2.1.later (unhide HBL)
      have BR := (unhide HL).2.2.2.1.trans ((unhide HBL).mono (unhide HL).2.2.2.1.size)
      have b12 := below1 wr (.cells #[.int .i64 (n2 + 1), .slice a3 k3.length c3, .int .i64 d3, .slice oa (Ky.upTo 6).length oc] 40)
      have SG := Sx.new (n := n2 + 1) (d := d3) QR.ins iall 40
      have X12 := hide (XR.later b12)
      have Z12 := hide (ZR.later b12)
      have Q12 := hide (QR.later b12)
      have B12 := hide (BR.trans (b12.mono BR.size))
      have S12 := hide SG
      obtain ⟨u0, u1, u2⟩ := QR.cells
      obtain ⟨x0, x1, x2, x3, x4, x5, x6⟩ := XR.cells
      have hQlt := QR.lt
      have hXlt2 := XR.lt
      clear iall XR ZR QR BR b12 SG HO HBL HL hul
      go_wp2_with fail
      refine (unhide C1 _ _ (unhide X12).ins (unhide X12).trs (unhide S12).ins (unhide S12).inb).mono ?_
      generalize wr.heap.size = G at *
      generalize World.alloc _ _ = W12 at *
      rintro e w13 ⟨kv13, mv13, rfl, ok13, om13, b13⟩
      obtain ⟨pa, pc, e7⟩ := own_formS ok13
      obtain ⟨pb, pd, e8⟩ := own_formS om13
      subst e7 e8
      dsimp only [tvT, tv]
      have b14 := below1 w13 (.cells #[.int .i64 t1.n, .slice pa t1.ks.length pc, .int .i64 t1.d, .bool t1.has, .int .i64 t1.num, .int .i64 t1.til, .slice pb t1.ms.length pd] 31)
      have Z14 := hide (((unhide Z12).later b13).later b14)
      have S14 := hide (((unhide S12).later b13).later b14)
      have Q14 := hide (((unhide Q12).later b13).later b14)
      have B13 := (unhide B12).trans (b13.mono (unhide B12).size)
      have B14 := hide (B13.trans (b14.mono B13.size))
      clear b13 b14 B13 ok13 om13 X12 S12 Z12 Q12 B12 x0 x1 x2 x3 x4 x5 x6 u0 u1 u2 C1
      obtain ⟨z0, z1, z2, z3, z4, z5, z6⟩ := (unhide Z14).cells
      obtain ⟨s0, s1, s2, s3⟩ := Sx.cells' (unhide S14)
      go_wp2_with fail
      refine (unhide C2 _ _ (unhide Z14).ins (unhide Z14).trs (unhide S14).ins (unhide S14).inb).mono ?_
      generalize World.alloc _ _ = W14 at *
      rintro e w15 ⟨kv15, mv15, rfl, ok15, om15, b15⟩
      have C3 := hide (fun (W : World) h => implRootOk_any W (n2 + 1) d3 (.slice a3 k3.length c3) k3 h)
      cases hA : Ky.rootOk (n2 + 1) k3 d3
      · rw [hA] at ok15 om15 C3
        rw [if_neg Bool.false_ne_true] at ok15 om15
        rw [if_neg Bool.false_ne_true]
        obtain ⟨ra, rc, e9⟩ := own_formS ok15
        obtain ⟨rb, rd, e10⟩ := own_formS om15
        subst e9 e10
        dsimp only [tvT, tv]
        have b16 := below1 w15 (.cells #[.int .i64 n2, .slice ra k2.length rc, .int .i64 d2, .bool has, .int .i64 num, .int .i64 til, .slice rb ms.length rd] 31)
        have Q16 := hide (((unhide Q14).later b15).later b16)
        have B15 := (unhide B14).trans (b15.mono (unhide B14).size)
        have B16 := hide (B15.trans (b16.mono B15.size))
        clear b15 b16 B15 ok15 om15 Z14 S14 Q14 B14 z0 z1 z2 z3 z4 z5 z6 s0 s1 s2 s3 C2
        obtain ⟨u0, u1, u2⟩ := (unhide Q16).cells
        go_wp2_with fail
        refine (unhide C3 _ (unhide Q16).ins).mono ?_
        generalize World.alloc _ _ = W16 at *
        rintro e w17 ⟨rfl, b17⟩
        have B17 := hide ((unhide B16).trans (b17.mono (unhide B16).size))
        clear b17 Q16 B16 u0 u1 u2
        go_wp2
        go_ret
        exact ⟨rfl, unhide B17⟩
      · rw [hA] at ok15 om15 C3
        rw [if_pos rfl] at ok15 om15
        rw [if_pos rfl]
        have i15 := OwnI.ins (B := W14.heap.size) ok15 (show k3.length ≤ 1000000 by omega)
        have j15 := Trs.own om15 (show ms.length ≤ 1000000000 by omega)
        obtain ⟨ra, rc, e9⟩ := i15.slice
        obtain ⟨rb, rd, e10⟩ := j15.slice
        subst e9 e10
        dsimp only [tvT, tv]
        have b16 := below1 w15 (.cells #[.int .i64 (n2 + 1), .slice ra k3.length rc, .int .i64 d3, .bool has, .int .i64 num, .int .i64 til, .slice rb ms.length rd] 31)
        have R16 := hide (Tb.new (n := n2 + 1) (d := d3) (has := has) (num := num) (til := til) i15 j15 31)
        have Q16 := hide (((unhide Q14).later b15).later b16)
        have B15 := (unhide B14).trans (b15.mono (unhide B14).size)
        have B16 := hide (B15.trans (b16.mono B15.size))
        clear b15 b16 B15 ok15 om15 i15 j15 Z14 S14 Q14 B14 z0 z1 z2 z3 z4 z5 z6 s0 s1 s2 s3 C2
        obtain ⟨u0, u1, u2⟩ := (unhide Q16).cells
        go_wp2_with fail
        refine (unhide C3 _ (unhide Q16).ins).mono ?_
        generalize w15.heap.size = G2 at *
        generalize World.alloc _ _ = W16 at *
        rintro e w17 ⟨rfl, b17⟩
        have Q17 := hide ((unhide Q16).later b17)
        have R17 := hide ((unhide R16).later b17)
        have B17 := hide ((unhide B16).trans (b17.mono (unhide B16).size))
        clear b17 Q16 R16 B16 u0 u1 u2
        obtain ⟨u0, u1, u2⟩ := (unhide Q17).cells
        obtain ⟨z0, z1, z2, z3, z4, z5, z6⟩ := (unhide R17).cells
        go_wp2_with fail
        refine (luRoot_same _ (n2 + 1) d3 _ _ k3 (unhide R17).ins (unhide Q17).ins).mono ?_
        rintro e w18 ⟨rfl, b18⟩
        have B18 := hide ((unhide B17).trans (b18.mono (unhide B17).size))
        clear b18
        go_wp2
        go_ret
        exact ⟨rfl, unhide B18⟩
end Go.Proofs.Ythjmnkfpopfgbaa
