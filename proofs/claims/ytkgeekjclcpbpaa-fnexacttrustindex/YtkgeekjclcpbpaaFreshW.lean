/- What spec's and impl's TrustFresh return; impl.allSo asks function values one behind the other. -/
import Derived.Test.YtkgeekjclcpbpaaTrustOkW
namespace Go.Proofs.Ytkgeekjclcpbpaa
open Go.RowKit

set_option maxHeartbeats 2000000 in
set_option maxRecDepth 100000 in
/-- Questions that each answer r i, if those ahead are so. -/
theorem allSo_any (w : World) (b off n cap : Nat) (fs : Nat → FuncId) (cs : Nat → Array Value) (r : Nat → Bool) (hn : n ≤ 1000) (hb : b < w.heap.size) (hc : ∀ i, i < n → w.cell? ⟨b, off + i, none⟩ = some (.func (.func (fs i)) #[] (cs i)))
    (hcf : ∀ i, i < n → ∀ w', (callFunc (fs i) (cs i)).run Try.prog w' = .ok (.enter (fs i) (cs i)) w')
    (hq : ∀ i, i < n → (∀ j, j < i → r j = true) → ∀ w', Below w.heap.size w w' → Calls Try.prog (fs i) (cs i) w' fun e w'' => e = .returned (.bool (r i)) ∧ Below w.heap.size w w'') :
    Calls Try.prog 52 #[.slice (some ⟨b, off, none⟩) n cap] w fun e w' => e = .returned (.bool ((List.range n).all r)) ∧ Below w.heap.size w w' := by
  have HC := hide hc
  have HQ := hide hq
  clear hc hq
  go_enter Try.func52, Try.ntmps52
  go_wp2_with fail
  go_loopw [7] (fun i w' => ∃ k : Nat, k ≤ n ∧ i = .int .i64 k ∧ Below w.heap.size w w' ∧ ∀ j, j < k → r j = true) (fun i _ => n - (intOf i).toNat)
  case atStart => exact ⟨0, Nat.zero_le _, rfl, Below.refl _ _, fun j hj => by omega⟩
  case round =>
    obtain ⟨k, hk, rfl, hw, hr⟩ := hrel
    have HW := hide hw
    have HR := hide hr
    clear hw hr
    by_cases hlt : k < n
    · have c0 := ((unhide HW).cell (p := ⟨b, off + k, none⟩) hb).trans (unhide HC k hlt)
      have hi0 : (0 : Int) ≤ (k : Int) := Int.natCast_nonneg _
      have hi1 : (k : Int) < (n : Int) := by omega
      have cq := unhide HQ k hlt (unhide HR) wr (unhide HW)
      have CQ := hide cq
      clear cq
      have hf := hcf k hlt wr
      have hrk : ∃ x, x = r k := ⟨_, rfl⟩
      obtain ⟨x, hrk⟩ := hrk
      rw [← hrk] at CQ
      have HRK := hide hrk
      clear hrk
      generalize fs k = f at *
      generalize cs k = c at *
      go_wp2_with fail
      refine (unhide CQ).mono ?_
      rintro e w2 ⟨rfl, b2⟩
      have B2 := hide b2
      clear hf b2 CQ
      cases hx : x
      · go_wp2
        go_ret
        exact ⟨ret_bool (Pk.all_bad hlt (by rw [← unhide HRK, hx])).symm, unhide B2⟩
      · go_wp2
        go_roundw
        case rel => exact ⟨k + 1, by omega, by go_num, unhide B2, fun j hj => by
          rcases Nat.lt_or_ge j k with h | h
          · exact unhide HR j h
          · obtain rfl : j = k := by omega
            rw [← unhide HRK, hx]⟩
        case measure => simp [intOf]; omega
    · go_wp2
      go_ret
      exact ⟨ret_bool (Pk.all_good (fun i hi => unhide HR i (by omega))).symm, unhide HW⟩

set_option maxHeartbeats 2000000 in
theorem counts_any (w : World) (num til now : Int) (mv : Value) :
    Calls Try.prog 65 #[.agg #[.int .i64 num, .int .i64 til, mv], .int .i64 now] w fun e w' => e = .returned (.bool (Pk.inB now 0 til)) ∧ Below w.heap.size w w' := by
  have B0 := hide (below1 w (.cells #[.int .i64 num, .int .i64 til, mv] 28))
  go_enter Try.func65, Try.ntmps65
  go_wp2_with (go_at_call 50; refine (between_any _ _ _ _).mono ?_; rintro e w' ⟨rfl, rfl⟩)
  go_ret
  exact ⟨rfl, unhide B0⟩

/-- The questions of TrustFresh. -/
theorem fresh1_any (w : World) (g : Nat) (n d : Int) (kv : Value) (ks : List Int) (has : Bool) (num til : Int) (mv : Value) (ms : List Ix.M) (h : Tb w g n d kv ks has num til mv ms) :
    Calls Try.prog 62 #[.pointer (some ⟨g, 0, none⟩)] w fun e w' => e = .returned (.bool (Tr.ok n ks d has num til ms)) ∧ Below w.heap.size w w' := by
  obtain ⟨ka, kc, hkv⟩ := h.ins.slice
  obtain ⟨ma, mc, hmv⟩ := h.trs.slice
  subst hkv hmv
  have X := hide h
  obtain ⟨c0, c1, c2, c3, c4, c5, c6⟩ := h.cells
  have hlt := h.lt
  have CT := hide (implTrustOk_any w n d _ ks has num til _ ms h.ins h.trs)
  unfold tv at CT
  clear h
  go_enter Try.func62, Try.ntmps62
  go_wp2_with fail
  refine (unhide CT).mono ?_
  rintro e w1 ⟨rfl, b1⟩
  have B1 := hide b1
  clear b1
  go_wp2
  go_ret
  exact ⟨rfl, unhide B1⟩
theorem fresh2_any (w : World) (g : Nat) (n d : Int) (kv : Value) (ks : List Int) (has : Bool) (num til : Int) (mv : Value) (ms : List Ix.M) (h : Tb w g n d kv ks has num til mv ms) :
    Calls Try.prog 63 #[.pointer (some ⟨g, 0, none⟩)] w fun e w' => e = .returned (.bool has) ∧ Below w.heap.size w w' := by
  have c3 := h.c3
  have hlt := h.lt
  clear h
  go_enter Try.func63, Try.ntmps63
  go_wp2
  go_ret
  exact ⟨rfl, Below.refl _ _⟩
theorem fresh3_any (w : World) (g t : Nat) (n d now : Int) (kv : Value) (ks : List Int) (has : Bool) (num til : Int) (mv : Value) (ms : List Ix.M) (h : Tb w g n d kv ks has num til mv ms) (ht : w.cell? ⟨t, 0, none⟩ = some (.int .i64 now)) :
    Calls Try.prog 64 #[.pointer (some ⟨g, 0, none⟩), .pointer (some ⟨t, 0, none⟩)] w fun e w' => e = .returned (.bool (Pk.inB now 0 til)) ∧ Below w.heap.size w w' := by
  obtain ⟨ma, mc, hmv⟩ := h.trs.slice
  subst hmv
  obtain ⟨c0, c1, c2, c3, c4, c5, c6⟩ := h.cells
  have hlt := h.lt
  clear h
  go_enter Try.func64, Try.ntmps64
  go_wp2_with fail
  refine (counts_any _ num til now _).mono ?_
  rintro e w1 ⟨rfl, b1⟩
  have B1 := hide b1
  clear b1
  go_wp2
  go_ret
  exact ⟨rfl, unhide B1⟩
theorem cf1 (g : Nat) (w : World) : (callFunc 62 #[.pointer (some ⟨g, 0, none⟩)]).run Try.prog w = .ok (.enter 62 #[.pointer (some ⟨g, 0, none⟩)]) w := by kernel_rfl
theorem cf2 (g : Nat) (w : World) : (callFunc 63 #[.pointer (some ⟨g, 0, none⟩)]).run Try.prog w = .ok (.enter 63 #[.pointer (some ⟨g, 0, none⟩)]) w := by kernel_rfl
theorem cf3 (g t : Nat) (w : World) : (callFunc 64 #[.pointer (some ⟨g, 0, none⟩), .pointer (some ⟨t, 0, none⟩)]).run Try.prog w = .ok (.enter 64 #[.pointer (some ⟨g, 0, none⟩), .pointer (some ⟨t, 0, none⟩)]) w := by kernel_rfl
def frF : Nat → FuncId
  | 0 => 62
  | 1 => 63
  | _ => 64
def frC (g t : Nat) : Nat → Array Value
  | 0 => #[.pointer (some ⟨g, 0, none⟩)]
  | 1 => #[.pointer (some ⟨g, 0, none⟩)]
  | _ => #[.pointer (some ⟨g, 0, none⟩), .pointer (some ⟨t, 0, none⟩)]
def frR (a b c : Bool) : Nat → Bool
  | 0 => a
  | 1 => b
  | _ => c

set_option maxHeartbeats 2000000 in
set_option maxRecDepth 100000 in
theorem implTrustFresh_any (w : World) (n d : Int) (kv : Value) (ks : List Int) (has : Bool) (num til : Int) (mv : Value) (ms : List Ix.M) (now : Int) (hk : Ins w kv ks) (hm : Trs w mv ms) :
    Calls Try.prog 18 #[tv n d kv has num til mv, .int .i64 now] w fun e w' => e = .returned (.bool (Tr.fresh n ks d has num til ms now)) ∧ Below w.heap.size w w' := by
  obtain ⟨ka, kc, hkv⟩ := hk.slice
  obtain ⟨ma, mc, hmv⟩ := hm.slice
  subst hkv hmv
  have X0 := Tb.new (n := n) (d := d) (has := has) (num := num) (til := til) hk hm 30
  have B0 := below1 w (.cells #[.int .i64 n, .slice ka ks.length kc, .int .i64 d, .bool has, .int .i64 num, .int .i64 til, .slice ma ms.length mc] 30)
  have z0 := sz1' w (.cells #[.int .i64 n, .slice ka ks.length kc, .int .i64 d, .bool has, .int .i64 num, .int .i64 til, .slice ma ms.length mc] 30)
  unfold tv
  clear hk hm
  have key : ∀ W0 : World, W0.heap.size = w.heap.size + 1 → Tb W0 w.heap.size n d (.slice ka ks.length kc) ks has num til (.slice ma ms.length mc) ms → Below w.heap.size w W0 →
      Calls Try.prog 52 #[.slice (some ⟨w.heap.size + 1 + 1, 0, none⟩) 3 3] ((W0.alloc (.cells #[.int .i64 now] 3)).alloc (.cells #[.func (.func 62) #[] #[.pointer (some ⟨w.heap.size, 0, none⟩)], .func (.func 63) #[] #[.pointer (some ⟨w.heap.size, 0, none⟩)], .func (.func 64) #[] #[.pointer (some ⟨w.heap.size, 0, none⟩), .pointer (some ⟨w.heap.size + 1, 0, none⟩)]] 126)) fun e w' => e = .returned (.bool (Tr.fresh n ks d has num til ms now)) ∧ Below w.heap.size w w' := by
    intro W0 z0 X0 B0
    have z1 := sz1' W0 (.cells #[.int .i64 now] 3)
    have X1 := X0.later (below1 W0 (.cells #[.int .i64 now] 3))
    have B1 := B0.trans ((below1 W0 (.cells #[.int .i64 now] 3)).mono B0.size)
    have t1 : (W0.alloc (.cells #[.int .i64 now] 3)).cell? ⟨w.heap.size + 1, 0, none⟩ = some (.int .i64 now) := by rw [← z0, World.cell?_alloc_new]; rfl
    generalize W0.alloc _ = W1 at *
    have hA := heap_alloc_new W1 (.cells #[.func (.func 62) #[] #[.pointer (some ⟨w.heap.size, 0, none⟩)], .func (.func 63) #[] #[.pointer (some ⟨w.heap.size, 0, none⟩)], .func (.func 64) #[] #[.pointer (some ⟨w.heap.size, 0, none⟩), .pointer (some ⟨w.heap.size + 1, 0, none⟩)]] 126)
    have b2 := below1 W1 (.cells #[.func (.func 62) #[] #[.pointer (some ⟨w.heap.size, 0, none⟩)], .func (.func 63) #[] #[.pointer (some ⟨w.heap.size, 0, none⟩)], .func (.func 64) #[] #[.pointer (some ⟨w.heap.size, 0, none⟩), .pointer (some ⟨w.heap.size + 1, 0, none⟩)]] 126)
    have X2 := X1.later b2
    have B2 := B1.trans (b2.mono B1.size)
    have t2 := (b2.cell (p := ⟨w.heap.size + 1, 0, none⟩) (by show w.heap.size + 1 < _; omega)).trans t1
    rw [show W1.heap.size = w.heap.size + 1 + 1 by omega] at hA
    have hlt2 := heapLt hA
    generalize W1.alloc _ = W2 at *
    refine (allSo_any W2 (w.heap.size + 1 + 1) 0 3 3 frF (frC w.heap.size (w.heap.size + 1)) (frR (Tr.ok n ks d has num til ms) has (Pk.inB now 0 til)) (by omega) hlt2 ?_ ?_ ?_).mono ?_
    · intro i hi
      obtain rfl | rfl | rfl : i = 0 ∨ i = 1 ∨ i = 2 := by omega
      · exact cellOf hA 0
      · exact cellOf hA 1
      · exact cellOf hA 2
    · intro i hi w'
      obtain rfl | rfl | rfl : i = 0 ∨ i = 1 ∨ i = 2 := by omega
      · exact cf1 _ _
      · exact cf2 _ _
      · exact cf3 _ _ _
    · intro i hi _ w' hw'
      have fin : ∀ {f : FuncId} {c : Array Value} {x : Bool}, (Calls Try.prog f c w' fun e w'' => e = .returned (.bool x) ∧ Below w'.heap.size w' w'') → Calls Try.prog f c w' fun e w'' => e = .returned (.bool x) ∧ Below W2.heap.size W2 w'' := fun h => h.mono fun e w'' ⟨h1, h2⟩ => ⟨h1, hw'.trans (h2.mono hw'.size)⟩
      obtain rfl | rfl | rfl : i = 0 ∨ i = 1 ∨ i = 2 := by omega
      · exact fin (fresh1_any _ _ _ _ _ _ _ _ _ _ _ (X2.later hw'))
      · exact fin (fresh2_any _ _ _ _ _ _ _ _ _ _ _ (X2.later hw'))
      · exact fin (fresh3_any _ _ _ _ _ _ _ _ _ _ _ _ _ (X2.later hw') ((hw'.cell (by show w.heap.size + 1 < _; omega)).trans t2))
    · rintro e w' ⟨rfl, hb⟩
      refine ⟨ret_bool ?_, B2.trans (hb.mono B2.size)⟩
      simp [List.range, List.range.loop, frR, Tr.fresh]
  have KEY := hide (key _ z0 X0 B0)
  clear key X0 B0 z0
  go_enter Try.func18, Try.ntmps18
  go_wp2_with fail
  refine (unhide KEY).mono ?_
  rintro e w1 ⟨rfl, b1⟩
  have B1 := hide b1
  clear b1 KEY
  go_wp2
  go_ret
  exact ⟨rfl, unhide B1⟩
end Go.Proofs.Ytkgeekjclcpbpaa
