import Derived.Test.YtlnieobmhofkdaaGreatDoorMix45
import Derived.Test.YtlnieobmhofkdaaGreatDoorMix14
import Derived.Test.YtlnieobmhofkdaaGreatDoorMix12
import Derived.Test.YtlnieobmhofkdaaGreatDoorImplHasW
import Derived.Test.YtlnieobmhofkdaaGreatDoorMix13
/- What impl.shelves.all returns: all packages, one name behind the other. -/
namespace Go.Proofs.YtlnieobmhofkdaaGreatDoor
open Go.RowKit

section
variable {P : Program}
theorem run_append_none2 (w : World) (t ty e : TypeId) (i : TypeInfo) (ht : P.underlying t = some (.slice e)) (hi : P.info? e = some i) (g n cap : Nat) (x : Option Addr) (c : Nat) (hn : n ≤ cap) :
    (Builtin.append_ #[t, t] ty #[.slice (some ⟨g, 0, none⟩) n cap, .slice x 0 c]).run P w = .ok (.slice (some ⟨g, 0, none⟩) n cap) w := by
  have hf : (Builtin.firstCells i.size 0 (.slice x 0 c)).run P w = .ok #[] w := by
    cases x <;> simp [Builtin.firstCells, loadCells, loadCellsFrom]
  simp [Builtin.append_, run_underlying ht, sizeOf, typeInfo, hi, Builtin.lenOf, hf, storeCells, hn]
/-- An append of a row, empty or not, to a row of one's own. -/
theorem wp_append_row2 (w : World) {o : Oper} {a : Act} {K : Act → World → Prop} {Q : Exit → Act → World → Prop} (s x : Operand) (t : TypeId)
    (ho : o.op = .call { callee := .builtin .append, args := #[s, x], argTypes := #[t, t] })
    (base base2 : Nat) (e : TypeId) (i : TypeInfo) (z : Value) (size bytes : Nat) (ht : P.underlying t = some (.slice e)) (hi : P.info? e = some i) (hz : i.zero = some z)
    (hsize : i.size = size) (hby : i.bytes = bytes) (hzs : z.cells.size = size) (hsz : 0 < size)
    (v : Value) (n : Nat) (xs : List Value) (hs : a.eval s = v) (hown : w.ownsRow base e size v n xs)
    (u : Value) (m : Nat) (news : List Value) (hx : a.eval x = u) (hu : w.ownsRow base2 e size u m news) (h1 : ∀ u ∈ news, u.oneCell' = true)
    (h63 : n + m ≤ maxLen) (hbytes : (n + m) * bytes ≤ 140737488355328) (hbase : base ≤ w.heap.size)
    (h : ∀ v' w', w'.ownsRow base e size v' (n + m) (xs ++ news) → w.grownBy w' v.ownBlock → K (a.put o.dst v') w') : o.wp P a w K Q := by
  rcases hu.2 with ⟨rfl, rfl⟩ | ⟨g, cap, cur, rfl, hbg, hg, hnc, hcm, hcs, htake⟩
  · obtain rfl : news = [] := List.eq_nil_of_length_eq_zero (by simpa using hu.1)
    rcases hown.2 with ⟨rfl, rfl⟩ | ⟨g, cap, cur, rfl, hbg, hg, hnc, hcm, hcs, htake⟩
    · have hr := run_append_zero (P := P) w t o.type e i ht hi none none 0 0
      unfold Oper.wp execOp
      simp only [ho, resolve, invoke, builtin, Sem.run_bind, Sem.run_pure, Result.andThen_ok, List.map_toArray, List.map_cons, List.map_nil, hs, hx, hr]
      exact h _ _ (by simpa using hown) (grown_refl _ _)
    · have hr := run_append_none2 (P := P) w t o.type e i ht hi g n cap none 0 hnc
      unfold Oper.wp execOp
      simp only [ho, resolve, invoke, builtin, Sem.run_bind, Sem.run_pure, Result.andThen_ok, List.map_toArray, List.map_cons, List.map_nil, hs, hx, hr]
      exact h _ _ (by simpa using hown) (grown_refl _ _)
  · exact wp_append_own w s x t ho base e i z size bytes ht hi hz hsize hby hzs hsz v n xs hs hown ⟨g, 0, none⟩ m cap news hx hu.1 (hu.cells (g := g) rfl) h1 h63 hbytes hbase fun v' w' h2 h3 _ => h v' w' h2 h3
theorem wpList_append_row2 (w : World) {ops : Array Oper} {rest : List Oper} {o : Oper} {a : Act} {Q : Exit → Act → World → Prop} (hgd : o.guard = none) (s x : Operand) (t : TypeId)
    (ho : o.op = .call { callee := .builtin .append, args := #[s, x], argTypes := #[t, t] })
    (base base2 : Nat) (e : TypeId) (i : TypeInfo) (z : Value) (size bytes : Nat) (ht : P.underlying t = some (.slice e)) (hi : P.info? e = some i) (hz : i.zero = some z)
    (hsize : i.size = size) (hby : i.bytes = bytes) (hzs : z.cells.size = size) (hsz : 0 < size)
    (v : Value) (n : Nat) (xs : List Value) (hs : a.eval s = v) (hown : w.ownsRow base e size v n xs)
    (u : Value) (m : Nat) (news : List Value) (hx : a.eval x = u) (hu : w.ownsRow base2 e size u m news) (h1 : ∀ u ∈ news, u.oneCell' = true)
    (h63 : n + m ≤ maxLen) (hbytes : (n + m) * bytes ≤ 140737488355328) (hbase : base ≤ w.heap.size)
    (h : ∀ v' w', w'.ownsRow base e size v' (n + m) (xs ++ news) → w.grownBy w' v.ownBlock → wpList P ops Q rest (a.put o.dst v') w') : wpList P ops Q (o :: rest) a w :=
  wpList_plain hgd fun _ hK => wp_append_row2 w s x t ho base base2 e i z size bytes ht hi hz hsize hby hzs hsz v n xs hs hown u m news hx hu h1 h63 hbytes hbase fun v' w' h2 h3 => hK _ _ (h v' w' h2 h3)
end
/-- The first k names' packages, one name behind the other. -/
def catE (E : Int → List El) : Nat → List El
  | 0 => []
  | k + 1 => catE E k ++ E ((k : Int) + 1)
theorem catE_mem {E : Int → List El} {x : El} : ∀ {k : Nat}, x ∈ catE E k → ∃ j : Nat, j < k ∧ x ∈ E ((j : Int) + 1)
  | 0, h => by cases h
  | k + 1, h => by
    rcases List.mem_append.1 h with h | h
    · obtain ⟨j, hj, hx⟩ := catE_mem h
      exact ⟨j, by omega, hx⟩
    · exact ⟨k, by omega, h⟩
theorem catE_far {B : Nat} {w : World} {V : Int → Value} {E : Int → List El} (h : Shv B w V E) : ∀ k : Nat, (catE E k).Pairwise farE
  | 0 => List.Pairwise.nil
  | k + 1 => by
    refine List.pairwise_append.2 ⟨catE_far h k, h.far _, fun a ha b hb => ?_⟩
    obtain ⟨j, hj, hx⟩ := catE_mem ha
    exact h.farther _ _ (by omega) a hx b hb
theorem catE_len {E : Int → List El} (h : ∀ n, (E n).length ≤ 1000) : ∀ k : Nat, (catE E k).length ≤ k * 1000
  | 0 => by simp [catE]
  | k + 1 => by
    have := catE_len h k
    have := h ((k : Int) + 1)
    show (catE E k ++ E ((k : Int) + 1)).length ≤ _
    rw [List.length_append]
    omega

set_option linter.unusedSimpArgs false in
set_option maxHeartbeats 4000000 in
set_option maxRecDepth 100000 in
theorem all_any {B : Nat} (w : World) (M cnt : Nat) (V : Int → Value) (E : Int → List El) (hM : MapV w M cnt V) (hS : Shv B w V E) (hB : B ≤ w.heap.size) (hl : ∀ n, (E n).length ≤ 1000) :
    Calls Tryz.prog 45 #[.map (some M)] w fun e w' => ∃ v, e = .returned v ∧ PAns B w' v (catE E 4) ∧ Below w.heap.size w w' := by
  obtain ⟨i0, hI0, hz0, hz1, hz2⟩ := info_parts infoPkg
  have HM := hide hM
  have HS := hide hS
  clear hM hS
  go_enter Tryz.func45, Tryz.ntmps45
  go_wp2
  go_loopw [3, 4] (fun lv i wr => ∃ k : Nat, k ≤ 4 ∧ i = .int .i64 ((k : Int) + 1) ∧ wr.ownsRow w.heap.size 42 4 lv (catE E k).length (flat4 (catE E k)) ∧ Below w.heap.size w wr) (fun _ i _ => 5 - (intOf i).toNat)
  case atStart => exact ⟨0, by omega, rfl, World.ownsRow_nil _ _ _ _, Below.refl _ _⟩
  case round =>
    obtain ⟨k, hk, rfl, hown, hw⟩ := hrel
    have HO := hide hown
    have HW := hide hw
    obtain ⟨la, lc, hlv⟩ := own_formS hown
    subst hlv
    have hcl := catE_len hl k
    clear hown hw
    by_cases hlt : k < 4
    · have hi1 : (k : Int) + 1 ≤ 4 := by omega
      have er : IntKind.i64.wrap ((k : Int) + 1 + 1) = (k : Int) + 1 + 1 := by simp [IntKind.wrap, IntKind.bits, IntKind.signed]; omega
      have hln := hl ((k : Int) + 1)
      have HSW := hide ((unhide HS).later (unhide HW))
      have HMW := hide ((unhide HM).later (unhide HW))
      go_wp2_with (first
        | (at_lookup; refine wpList_lookV _ rfl _ _ _ rfl 31 Tryz.underlying81 (zeroP _) M cnt V rfl (unhide HMW) ((k : Int) + 1) rfl (by omega) (by omega) ?_)
        | (at_builtin; refine wpList_append_row2 _ rfl _ _ _ rfl w.heap.size B 42 i0 _ 4 64 Tryz.underlying31 hI0 hz0 hz1 hz2 rfl (by omega) (.slice la (catE E k).length lc) (catE E k).length (flat4 (catE E k)) rfl (unhide HO) (V ((k : Int) + 1)) (E ((k : Int) + 1)).length (flat4 (E ((k : Int) + 1))) rfl ((unhide HSW).own _) (flat4_one (PAns.sl ((unhide HSW).ans _)) (fun _ h => h)) (by unfold maxLen; omega) (by omega) (unhide HW).size ?_; intro v2 w2 hown2 hgrow2))
      have HW2 := hide (grown_below (B := w.heap.size) (unhide HO) hgrow2 (unhide HW) (unhide HW).size)
      have HO2 : Hid (w2.ownsRow w.heap.size 42 4 v2 (catE E (k + 1)).length (flat4 (catE E (k + 1)))) := by
        show w2.ownsRow w.heap.size 42 4 v2 (catE E k ++ E ((k : Int) + 1)).length (flat4 (catE E k ++ E ((k : Int) + 1)))
        rw [List.length_append, flat4_app]
        exact hown2
      clear hown2 hgrow2
      go_wp2
      go_roundw
      case rel => exact ⟨k + 1, by omega, by go_num, unhide HO2, unhide HW2⟩
      case measure => simp [intOf]; omega
    · obtain rfl : k = 4 := by omega
      have hi1 : ¬ ((4 : Nat) : Int) + 1 ≤ 4 := by omega
      clear hlt
      go_wp2
      go_ret
      have hS9 := (unhide HS).later (unhide HW)
      exact ⟨_, rfl, ⟨own_base' (unhide HO) hB, fun e he => by obtain ⟨j, _, hx⟩ := catE_mem he; exact hS9.el _ e hx, catE_far hS9 4⟩, unhide HW⟩
end Go.Proofs.YtlnieobmhofkdaaGreatDoor

/- What impl.StoreAdd returns: what is kept, with the package that the text is, if the trusted index tells of it and none of its name and version is kept; for every trust, every row of packages and every text. -/
namespace Go.Proofs.YtlnieobmhofkdaaGreatDoor
open Go.RowKit

namespace Ix
theorem hasB_ok {num til : Int} {ms : List M} {s : List UInt8} (h : hasB num til ms s = true) : pOk (hasD num til ms s) = true := by
  cases hh : has num til ms s with
  | none => rw [(hasD_none hh).2] at h; cases h
  | some p => rw [(hasD_some hh).1]; exact (has_some.1 hh).1.1
theorem addA_bad {b : Bool} {num til : Int} {ms : List M} {l : List Pg} {s : List UInt8} (h : b = false) : addA b num til ms l s = ([], false) := by unfold addA; rw [if_neg (by rw [h]; simp)]
theorem addA_off {b : Bool} {num til : Int} {ms : List M} {l : List Pg} {s : List UInt8} (h : pkgsOk l = false) : addA b num til ms l s = ([], false) := by unfold addA; rw [if_neg (by rw [h]; simp)]
theorem addA_yes {b : Bool} {num til : Int} {ms : List M} {l : List Pg} {s : List UInt8} (hb : b = true) (h : pkgsOk l = true) : addA b num til ms l s = addD num til ms l s := by unfold addA; rw [if_pos ⟨hb, h⟩]
theorem addD_no {num til : Int} {ms : List M} {l : List Pg} {s : List UInt8} (h : hasB num til ms s = false) : addD num til ms l s = (l, false) := by unfold addD; rw [if_neg (by rw [h]; simp)]
theorem addD_is {num til : Int} {ms : List M} {l : List Pg} {s : List UInt8} (h : found l (hasD num til ms s).1 (hasD num til ms s).2.1 = true) : addD num til ms l s = (l, false) := by unfold addD; rw [if_neg (by rw [h]; simp)]
theorem addD_yes {num til : Int} {ms : List M} {l : List Pg} {s : List UInt8} (h : hasB num til ms s = true) (h2 : found l (hasD num til ms s).1 (hasD num til ms s).2.1 = false) : addD num til ms l s = (wth l (hasD num til ms s), true) := by unfold addD; rw [if_pos ⟨h, h2⟩]
theorem shelf_le (l : List Pg) (n : Int) : (shelf l n).length ≤ l.length := List.length_filter_le _ _
end Ix
theorem catE_map (E : Int → List El) : (catE E 4).map (·.1) = (E 1).map (·.1) ++ ((E 2).map (·.1) ++ ((E 3).map (·.1) ++ (E 4).map (·.1))) := by
  show ((((([] : List El) ++ E ((0 : Nat) + 1)) ++ E ((1 : Nat) + 1)) ++ E ((2 : Nat) + 1)) ++ E ((3 : Nat) + 1)).map (·.1) = _
  simp only [List.nil_append, List.map_append, List.append_assoc]
  rfl
theorem catE_all {E : Int → List El} {l : List Ix.Pg} (h : Ix.pkgsOk l = true) (hE : ∀ n, (E n).map (·.1) = Ix.shelf l n) : (catE E 4).map (·.1) = l := by
  rw [catE_map, hE, hE, hE, hE]
  exact Ix.all_shelves h

set_option linter.unusedSimpArgs false in
set_option maxHeartbeats 8000000 in
set_option maxRecDepth 100000 in
theorem implAdd_any {N : Nat → Prop} (w : World) (t : Tr.T) (kv mv v : Value) (l : List Ix.Pg) (s : ByteArray) (ev : Addr) (g : Gl w ev) (hk : Ins w kv t.ks) (hm : Trs w mv t.ms) (h : Pks N w v l) :
    Calls Tryz.prog 11 #[tvT t kv mv, v, .string s] w fun e w' => ∃ u els, e = .returned (.tuple #[u, .bool (Ix.addA t.ok t.num t.til t.ms l s.data.toList).2]) ∧ PAns w.heap.size w' u els ∧ els.map (·.1) = (Ix.addA t.ok t.num t.til t.ms l s.data.toList).1 ∧ Below w.heap.size w w' := by
  obtain ⟨n, ks, d, has, num, til, ms⟩ := t
  dsimp only at hk hm
  obtain ⟨ka, kc, hkv⟩ := hk.slice
  obtain ⟨ma, mc, hmv⟩ := hm.slice
  obtain ⟨a, cap, hv⟩ := h.slice
  subst hkv hmv hv
  have B0 := below1 w (.cells #[.int .i64 n, .slice ka ks.length kc, .int .i64 d, .bool has, .int .i64 num, .int .i64 til, .slice ma ms.length mc] 30)
  have X0 := hide (Tb.new (n := n) (d := d) (has := has) (num := num) (til := til) hk hm 30)
  have H0 := hide (And.intro (h.later B0) (g.later B0))
  have BW := hide B0
  clear hk hm h g B0
  dsimp only [tvT, tv, Tr.T.ok]
  go_enter Tryz.func11, Tryz.ntmps11
  go_wp2_with fail
  refine (implTrustOk_any _ n d _ ks has num til _ ms (unhide X0).ins (unhide X0).trs).mono ?_
  generalize w.alloc _ = W0 at *
  rintro e w1 ⟨rfl, b⟩
  replace X0 := hide ((unhide X0).later b)
  replace H0 := hide (And.intro ((unhide H0).1.later b) ((unhide H0).2.later b))
  replace BW := hide ((unhide BW).trans (b.mono (unhide BW).size))
  clear b
  clear W0
  cases hA : Tr.ok n ks d has num til ms
  · have HT := hide hA
    clear hA
    go_wp2
    go_ret2
    exact ⟨_, [], by rw [Ix.addA_bad (unhide HT)]; rfl, PAns.nil _ _, by rw [Ix.addA_bad (unhide HT)]; rfl, unhide BW⟩
  have HTO := hide hA
  clear hA
  go_wp2_with fail
  refine (implStoreOk_any _ _ l (unhide H0).1).mono ?_
  rintro e w2 ⟨rfl, b⟩
  replace X0 := hide ((unhide X0).later b)
  replace H0 := hide (And.intro ((unhide H0).1.later b) ((unhide H0).2.later b))
  replace BW := hide ((unhide BW).trans (b.mono (unhide BW).size))
  clear b
  clear w1
  cases hB : Ix.pkgsOk l
  · have HT := hide hB
    clear hB
    go_wp2
    go_ret2
    exact ⟨_, [], by rw [Ix.addA_off (unhide HT)]; rfl, PAns.nil _ _, by rw [Ix.addA_off (unhide HT)]; rfl, unhide BW⟩
  have HOK := hide hB
  have hl20 := Ix.pkgs_len hB
  clear hB
  go_wp2_with fail
  refine (shelvesOf_any _ _ l (unhide H0).1 (unhide HOK)).mono ?_
  rintro e w3 ⟨V, E, rfl, hM, hS, hD, b⟩
  replace X0 := hide ((unhide X0).later b)
  have HG := hide ((unhide H0).2.later b)
  have hlo : w.heap.size ≤ w2.heap.size := (unhide BW).size
  replace BW := hide ((unhide BW).trans (b.mono (unhide BW).size))
  have HM := hide hM
  have HS := hide hS
  have HD := hide hD
  have HLO := hide hlo
  clear b hM hS hD H0 hlo
  have HEL : Hid (∀ n, (E n).length ≤ 20) := fun n => by
    have h1 := congrArg List.length (unhide HD n)
    rw [List.length_map] at h1
    rw [h1]
    exact Nat.le_trans (Ix.shelf_le l n) hl20
  obtain ⟨x4, x5, x6⟩ : _ ∧ _ ∧ _ := ⟨(unhide X0).c4, (unhide X0).c5, (unhide X0).c6⟩
  go_wp2_with fail
  refine (implHas_any _ num til _ ms s ev (unhide HG) (unhide X0).trs).mono ?_
  rintro e w4 ⟨fv, dv, rfl, hf, hd, b⟩
  have hdn := Ix.hasD_len num til ms s.data.toList
  obtain ⟨fa, fc, rfl⟩ := own_form hf
  obtain ⟨da, dc, rfl⟩ := own_form hd
  clear x4 x5 x6
  have HO := hide (show OwP w3.heap.size w4 _ _ _ _ from ⟨hf, hd⟩)
  have HBB := hide (fun (h : Ix.hasB num til ms s.data.toList = true) => Ix.hasB_ok h)
  have HNO := hide (fun (h : Ix.hasB num til ms s.data.toList = false) => Ix.addD_no (l := l) h)
  have HIS := hide (fun h => Ix.addD_is (num := num) (til := til) (ms := ms) (l := l) (s := s.data.toList) h)
  have HYE := hide (fun (h : Ix.hasB num til ms s.data.toList = true) h2 => Ix.addD_yes (l := l) h h2)
  have HAD := hide (Ix.addA_yes (num := num) (til := til) (ms := ms) (l := l) (s := s.data.toList) (unhide HTO) (unhide HOK))
  clear HTO
  generalize Ix.addD num til ms l s.data.toList = AD at *
  generalize Ix.hasB num til ms s.data.toList = hb at *
  generalize Ix.hasD num til ms s.data.toList = hp at *
  obtain ⟨nm, vr, fs, ds⟩ := hp
  dsimp only at fa fc da dc hdn HO HBB HIS HYE ⊢
  have HFA := hide (fun n a (ha : a ∈ E n) => farE.new (w := w3) (w' := w4) (e := ((nm, vr, fs, ds), .slice fa fs.length fc, .slice da ds.length dc)) ((unhide HS).el n a ha) (unhide HO))
  have bx := below1 w4 (.cells #[.int .i64 nm, .int .i64 vr, .slice fa fs.length fc, .slice da ds.length dc] 42)
  have HX := hide (heap_alloc_new w4 (.cells #[.int .i64 nm, .int .i64 vr, .slice fa fs.length fc, .slice da ds.length dc] 42))
  have bb := b.trans (bx.mono b.size)
  have hm3 : w.heap.size ≤ w3.heap.size := (unhide BW).size
  have HO5 := hide (((unhide HO).later bx).base (show w2.heap.size ≤ w3.heap.size from Nat.le_of_lt (unhide HM).lt))
  have HM5 := hide ((unhide HM).later bb)
  have HS5 := hide ((unhide HS).later bb)
  have BW5 := hide ((unhide BW).trans (bb.mono (unhide BW).size))
  have HLX : Hid (w2.heap.size ≤ (w4.alloc (.cells #[.int .i64 nm, .int .i64 vr, .slice fa fs.length fc, .slice da ds.length dc] 42)).heap.size) := Nat.le_of_lt (unhide HM5).lt
  clear HO HM HS BW HG X0 bx bb b hf hd
  clear hm3
  have HDN := hide hdn
  have HL20 := hide hl20
  clear hdn hl20
  cases hb with
  | false =>
    go_wp2_with fail
    refine (all_any _ w2.heap.size l.length V E (unhide HM5) (unhide HS5) (unhide HLX) (fun n => Nat.le_trans (unhide HEL n) (by omega))).mono ?_
    generalize w4.alloc _ = W5 at *
    rintro e w6 ⟨u, rfl, hP, b⟩
    have HP := hide (hP.base (unhide HLO))
    have BW6 := hide ((unhide BW5).trans (b.mono (unhide BW5).size))
    clear b hP
    go_wp2
    go_ret2
    exact ⟨u, catE E 4, by rw [unhide HAD, unhide HNO (by trivial)]; rfl, unhide HP, by rw [unhide HAD, unhide HNO (by trivial)]; exact catE_all (unhide HOK) (unhide HD), unhide BW6⟩
  | true =>
    have hpo := unhide HBB (by trivial)
    have hnn := Ix.pOk_name hpo
    have HPO := hide hpo
    obtain ⟨y0, y1, y2, y3⟩ : _ ∧ _ ∧ _ ∧ _ := ⟨cellOf (unhide HX) 0, cellOf (unhide HX) 1, cellOf (unhide HX) 2, cellOf (unhide HX) 3⟩
    clear hpo
    go_wp2_with fail
    refine (put_any _ w2.heap.size l.length V E nm vr fa da fc dc fs ds (unhide HM5) (unhide HS5) (Nat.le_refl _) (by have := unhide HL20; omega) hnn (by have := unhide HEL nm; omega) (fun e he => ?_) (by rw [unhide HD nm]; exact Ix.shelf_asc (unhide HOK) nm) (fun p hp => by rw [unhide HD nm] at hp; exact (Ix.shelf_mem hp).2) (unhide HO5) (unhide HFA)).mono ?_
    · have hm : e.1 ∈ Ix.shelf l nm := by rw [← unhide HD nm]; exact List.mem_map_of_mem he
      have := Ix.pOk_lens ((Ix.pkgsOk_pair.1 (unhide HOK)).1 _ (Ix.shelf_mem hm).1)
      omega
    generalize w4.alloc _ = W5 at *
    rintro e w6 ⟨cnt', V', E', rfl, hM6, hc6, hS6, hE6, b⟩
    have hbs : w2.heap.size ≤ w6.heap.size := Nat.le_of_lt hM6.lt
    have HM6 := hide hM6
    have HS6 := hide hS6
    have HE6 := hide hE6
    have BW6 := hide ((unhide BW5).trans (b.mono (by
      have h1 := (unhide BW5).size
      have h2 := b.size
      have h3 := unhide HLO
      omega)))
    have HFS := hide (Ix.found_shelf (l := l) (n := nm) (u := vr))
    rw [unhide HD nm] at HE6 ⊢
    generalize (Ix.shelf l nm).any (fun p => decide (p.2.1 = vr)) = fl at *
    have HLB : Hid (w2.heap.size ≤ w6.heap.size) := hbs
    clear b hM6 hS6 hE6 y0 y1 y2 y3 hnn hbs
    have hWE : ∀ n, (E' n).map (·.1) = Ix.shelf (if fl = true then l else Ix.wth l (nm, vr, fs, ds)) n := fun n => by
      rw [unhide HE6 n, unhide HD n]
      cases fl with
      | true => rw [if_neg (fun h => by cases h.2), if_pos rfl]
      | false =>
        rw [if_neg (by simp : ¬ (false = true)), Ix.shelf_wth]
        by_cases e : n = nm
        · rw [if_pos ⟨e, rfl⟩, if_pos e.symm]
        · rw [if_neg (fun h => e h.1), if_neg (fun h => e h.symm)]
    have hok' : Ix.pkgsOk (if fl = true then l else Ix.wth l (nm, vr, fs, ds)) = true := by
      cases fl with
      | true => rw [if_pos rfl]; exact unhide HOK
      | false => rw [if_neg (by simp)]; exact Ix.wth_ok (unhide HOK) (unhide HPO)
    have hlE : ∀ n, (E' n).length ≤ 1000 := fun n => by
      have h1 := congrArg List.length (hWE n)
      rw [List.length_map] at h1
      have h2 := Ix.shelf_le (if fl = true then l else Ix.wth l (nm, vr, fs, ds)) n
      have h3 := Ix.pkgs_len hok'
      omega
    have hfin := catE_all hok' hWE
    have HFIN := hide hfin
    have HLE := hide hlE
    clear hWE hok' hlE hfin HD HE6
    cases fl with
    | true =>
      go_wp2_with fail
      refine (all_any _ w2.heap.size cnt' V' E' (unhide HM6) (unhide HS6) (unhide HLB) (unhide HLE)).mono ?_
      rintro e w7 ⟨u, rfl, hP, b⟩
      have HP := hide (hP.base (unhide HLO))
      have BW7 := hide ((unhide BW6).trans (b.mono (unhide BW6).size))
      clear b hP
      go_wp2
      go_ret2
      exact ⟨u, catE E' 4, by rw [unhide HAD, unhide HIS (unhide HFS)]; rfl, unhide HP, by rw [unhide HAD, unhide HIS (unhide HFS)]; exact unhide HFIN, unhide BW7⟩
    | false =>
      go_wp2_with fail
      refine (all_any _ w2.heap.size cnt' V' E' (unhide HM6) (unhide HS6) (unhide HLB) (unhide HLE)).mono ?_
      rintro e w7 ⟨u, rfl, hP, b⟩
      have HP := hide (hP.base (unhide HLO))
      have BW7 := hide ((unhide BW6).trans (b.mono (unhide BW6).size))
      clear b hP
      go_wp2
      go_ret2
      exact ⟨u, catE E' 4, by rw [unhide HAD, unhide HYE (by trivial) (unhide HFS)]; rfl, unhide HP, by rw [unhide HAD, unhide HYE (by trivial) (unhide HFS)]; exact unhide HFIN, unhide BW7⟩
end Go.Proofs.YtlnieobmhofkdaaGreatDoor
