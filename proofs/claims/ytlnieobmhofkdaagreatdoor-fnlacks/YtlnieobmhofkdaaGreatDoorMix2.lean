import Derived.Test.YtlnieobmhofkdaaGreatDoorMix1
import Derived.Test.YtlnieobmhofkdaaGreatDoorShelf
import Derived.LaidEql
import Derived.Stop.Asserts
import Derived.RowKitTokens
import Derived.Test.YtlnieobmhofkdaaGreatDoorMix0
/- What impl.spellNamed writes: a name as a letter, and a version; strconv.Itoa of one figure. -/
namespace Go.Proofs.YtlnieobmhofkdaaGreatDoor
open Go.RowKit

attribute [local go_sem ↓] Go.wp_at_zero Go.wp_at_succ

theorem itoa_any (n : Int) (w : World) (h0 : 0 ≤ n) (h1 : n ≤ 9) : Calls Tryz.prog 190 #[.int .i64 n] w fun e w' => e = .returned (.string ⟨#[Pk.b8 (48 + n)]⟩) ∧ w' = w := by
  obtain ⟨i, rfl⟩ := Int.eq_ofNat_of_zero_le h0
  have hi : i < 10 := by omega
  have e : Lib.decDigits i = [Pk.b8 (48 + (i : Int))] := by
    rw [Lib.decDigits, dif_pos hi]
    unfold Pk.b8
    rw [show (48 + (i : Int)).toNat = 48 + i from by omega]
  refine (Tryz.strconv_Itoa_small i (by omega) w).mono fun e' w' ⟨h1, h2⟩ => ⟨?_, h2⟩
  rw [h1, e]

theorem enc_letter (nm : Int) (h0 : 1 ≤ nm) (h1 : nm ≤ 4) : Utf8.encode (97 + nm - 1) = ⟨#[Pk.b8 (96 + nm)]⟩ := by
  have h : nm = 1 ∨ nm = 2 ∨ nm = 3 ∨ nm = 4 := by omega
  rcases h with rfl | rfl | rfl | rfl <;> decide

set_option maxHeartbeats 1000000 in
set_option maxRecDepth 100000 in
theorem spellNamed_any (nm vr : Int) (w : World) (h0 : 1 ≤ nm) (h1 : nm ≤ 4) (h2 : 0 ≤ vr) (h3 : vr ≤ 9) : Calls Tryz.prog 223 #[.int .i64 nm, .int .i64 vr] w fun e w' => e = .returned (.string ⟨(Pk.nameT nm vr).toArray⟩) ∧ w' = w := by
  have henc := enc_letter nm h0 h1
  have hsz : ¬ 9223372036854775807 < (1 + 1 : Nat) := by omega
  go_enter Tryz.func223, Tryz.ntmps223
  go_wp2_with (go_at_call 190; refine (itoa_any _ _ h2 h3).mono ?_; rintro e w' ⟨rfl, rfl⟩)
  go_ret
  exact ⟨ret_str (app_data [Pk.b8 (96 + nm)] [Pk.b8 (48 + vr)]), rfl⟩
end Go.Proofs.YtlnieobmhofkdaaGreatDoor

/- What impl's words spell: a name and a number, or a place and what is in it; of numbers of one figure. -/
namespace Go.Proofs.YtlnieobmhofkdaaGreatDoor
open Go.RowKit

attribute [local go_sem ↓] Go.wp_at_zero Go.wp_at_succ

set_option maxHeartbeats 1000000 in
set_option maxRecDepth 100000 in
theorem headSpell_any (nm vr : Int) (w : World) (h0 : 1 ≤ nm) (h1 : nm ≤ 4) (h2 : 0 ≤ vr) (h3 : vr ≤ 9) : Calls Tryz.prog 222 #[.agg #[.int .i64 nm, .int .i64 vr]] w fun e w' => e = .returned (.string ⟨(Pk.nameT nm vr).toArray⟩) ∧ Below w.heap.size w w' := by
  go_enter Tryz.func222, Tryz.ntmps222
  go_wp2_with (go_at_call 223; refine (spellNamed_any _ _ _ h0 h1 h2 h3).mono ?_; rintro e w' ⟨rfl, rfl⟩)
  go_ret
  exact ⟨rfl, (Below.refl _ _).alloc (Nat.le_refl _) _⟩

set_option maxHeartbeats 1000000 in
set_option maxRecDepth 100000 in
theorem needSpell_any (nm vr : Int) (w : World) (h0 : 1 ≤ nm) (h1 : nm ≤ 4) (h2 : 0 ≤ vr) (h3 : vr ≤ 9) : Calls Tryz.prog 225 #[.agg #[.int .i64 nm, .int .i64 vr]] w fun e w' => e = .returned (.string ⟨(Pk.nameT nm vr).toArray⟩) ∧ Below w.heap.size w w' := by
  go_enter Tryz.func225, Tryz.ntmps225
  go_wp2_with (go_at_call 223; refine (spellNamed_any _ _ _ h0 h1 h2 h3).mono ?_; rintro e w' ⟨rfl, rfl⟩)
  go_ret
  exact ⟨rfl, (Below.refl _ _).alloc (Nat.le_refl _) _⟩

/-- A place and what is in it. -/
def fileS (a b : Int) : List UInt8 := [Pk.b8 (48 + a), 58, Pk.b8 (48 + b)]

set_option maxHeartbeats 1000000 in
set_option maxRecDepth 100000 in
theorem fileSpell_any (a b : Int) (w : World) (h0 : 0 ≤ a) (h1 : a ≤ 9) (h2 : 0 ≤ b) (h3 : b ≤ 9) : Calls Tryz.prog 224 #[.agg #[.int .i64 a, .int .i64 b]] w fun e w' => e = .returned (.string ⟨(fileS a b).toArray⟩) ∧ Below w.heap.size w w' := by
  have HB : Hid (∀ (o : Obj) (q : Nat), Below w.heap.size w ((w.alloc o).drewN q)) := fun o q => below_drewN ((Below.refl _ _).alloc (Nat.le_refl _) o) q
  go_enter Tryz.func224, Tryz.ntmps224
  go_wp2_with fail
  go_quiet ((go_at_call 190; exact Calls.quiet_of_same (itoa_any _ _ (by assumption) (by assumption))))
  go_wp2
  go_ret
  exact ⟨ret_str (by apply ByteArray.ext; simp [fileS]), (unhide HB) _ _⟩
end Go.Proofs.YtlnieobmhofkdaaGreatDoor

/- What impl.wordsOf returns: the words of a package, in a row of its own. -/
namespace Go.Proofs.YtlnieobmhofkdaaGreatDoor
open Go.RowKit

theorem infoWord : (Tryz.prog.info? 96).map (fun i => (i.zero, i.size, i.bytes)) = some (some .nilIface, 1, 16) := by kernel_rfl
theorem infoStr : (Tryz.prog.info? 9).map (fun i => (i.zero, i.size, i.bytes)) = some (some (.string ⟨#[]⟩), 1, 16) := by kernel_rfl

/-- A word: which kind, and its two numbers. -/
def wordV : Nat × Int × Int → Value
  | (0, a, b) => .iface 154 (.agg #[.int .i64 a, .int .i64 b])
  | (1, a, b) => .iface 155 (.agg #[.int .i64 a, .int .i64 b])
  | (_, a, b) => .iface 156 (.agg #[.int .i64 a, .int .i64 b])
def wordS : Nat × Int × Int → List UInt8
  | (0, a, b) => Pk.nameT a b
  | (1, a, b) => fileS a b
  | (_, a, b) => Pk.nameT a b
def fileWs (l : List (Int × Int)) : List (Nat × Int × Int) := l.map fun x => (1, x.1, x.2)
def needWs (l : List (Int × Int)) : List (Nat × Int × Int) := l.map fun x => (2, x.1, x.2)

theorem take_map (f : Int × Int → Nat × Int × Int) (l : List (Int × Int)) (k : Nat) (h : k < l.length) : (l.take (k + 1)).map f = (l.take k).map f ++ [f (Pk.fst l k, Pk.snd l k)] := by
  rw [List.take_succ_eq_append_getElem h, List.map_append]
  simp [Pk.fst, Pk.snd, h]

/-- A row of words, or of texts, stays over whatever leaves old blocks as they were. -/
theorem own1_keep {w w' : World} {B : Nat} {t : TypeId} {v : Value} {n : Nat} {xs : List Value} (h : w.ownsRow B t 1 v n xs) (hb : ∀ g, v.ownBlock = some g → w'.heap[g]? = w.heap[g]?) : w'.ownsRow B t 1 v n xs := by
  refine ⟨h.1, ?_⟩
  rcases h.2 with hn | ⟨g, cap, cur, rfl, hb1, hgg, rest⟩
  · exact .inl hn
  · exact .inr ⟨g, cap, cur, rfl, hb1, by rw [hb g rfl]; exact hgg, rest⟩
theorem own1_later {w w' : World} {B : Nat} {t : TypeId} {v : Value} {n : Nat} {xs : List Value} (h : w.ownsRow B t 1 v n xs) (hb : Below w.heap.size w w') : w'.ownsRow B t 1 v n xs :=
  own1_keep h (fun g hg => hb.block g (h.lt g hg).2)
theorem one_word (w : World) (v : Value) (t : TypeId) (B : Nat) (hB : B ≤ w.heap.size) : (w.alloc (.cells #[v] t)).ownsRow B t 1 (.slice (some ⟨w.heap.size, 0, none⟩) 1 1) 1 [v] :=
  ⟨rfl, .inr ⟨w.heap.size, 1, #[v], rfl, hB, heap_alloc_new w _, Nat.le_refl _, by unfold maxLen; omega, rfl, rfl⟩⟩
theorem sz1w (w : World) (o : Obj) : (w.alloc o).heap.size = w.heap.size + 1 := by simp

set_option maxHeartbeats 2000000 in
set_option maxRecDepth 100000 in
theorem wordsOf_any (w : World) (nm vr : Int) (fv dv : Value) (fs ds : List (Int × Int)) (hf : Prs w fv fs) (hd : Prs w dv ds) (hfl : fs.length ≤ 2) (hdl : ds.length ≤ 2) :
    Calls Tryz.prog 56 #[.agg #[.int .i64 nm, .int .i64 vr, fv, dv]] w fun e w' => ∃ v, e = .returned v ∧ w'.ownsRow w.heap.size 96 1 v (1 + fs.length + ds.length) (((0, nm, vr) :: fileWs fs ++ needWs ds).map wordV) ∧ Below w.heap.size w w' := by
  obtain ⟨i0, hi0, hz0, hz1, hz2⟩ := info_parts infoWord
  have hB0 : Below w.heap.size w (w.alloc (.cells #[.int .i64 nm, .int .i64 vr, fv, dv] 42)) := (Below.refl _ _).alloc (Nat.le_refl _) _
  have H0 := hide (And.intro hB0 (box4 w (.int .i64 nm) (.int .i64 vr) fv dv 42))
  have HF : Hid (Prs _ _ _) := hf.later hB0
  have HD : Hid (Prs _ _ _) := hd.later hB0
  obtain ⟨fa, fc, hfv⟩ := hf.slice
  obtain ⟨da, dc, hdv⟩ := hd.slice
  subst hfv hdv
  clear hf hd hB0
  go_enter Tryz.func56, Tryz.ntmps56
  go_wp2_with fail
  generalize w.alloc _ = W0 at *
  obtain ⟨hB0, z0, _, _, x2, x3⟩ := unhide H0
  have HS : Hid (Below W0.heap.size W0 (W0.alloc (.cells #[.iface 154 (.agg #[.int .i64 nm, .int .i64 vr])] 96)) ∧ (W0.alloc (.cells #[.iface 154 (.agg #[.int .i64 nm, .int .i64 vr])] 96)).ownsRow W0.heap.size 96 1 (.slice (some ⟨W0.heap.size, 0, none⟩) 1 1) 1 [.iface 154 (.agg #[.int .i64 nm, .int .i64 vr])]) := ⟨(Below.refl _ _).alloc (Nat.le_refl _) _, one_word _ _ _ _ (Nat.le_refl _)⟩
  rw [z0] at HS
  go_loopw [3, 18] (fun s i w' => ∃ k : Nat, k ≤ fs.length ∧ i = .int .i64 k ∧ Below (w.heap.size + 1) W0 w' ∧ w'.ownsRow (w.heap.size + 1) 96 1 s (1 + k) (((0, nm, vr) :: fileWs (fs.take k)).map wordV)) (fun _ i _ => fs.length - (intOf i).toNat)
  case atStart => exact ⟨0, Nat.zero_le _, rfl, (unhide HS).1, (unhide HS).2⟩
  case round =>
    clear HS
    obtain ⟨k, hk, rfl, hw, hown⟩ := hrel
    have HW := hide hw
    have HO := hide hown
    have hz1' := hw.size
    by_cases hlt : k < fs.length
    · obtain ⟨fa', fc', e1, _, hrow⟩ := unhide HF
      injection e1 with e1 _ e3
      subst e1 e3
      obtain ⟨b, off, rfl, hbs, hc⟩ := hrow (by omega)
      obtain ⟨c1, c2⟩ := hc k hlt
      rw [z0] at hbs
      rw [← hw.cell hbs] at c1 c2
      have hbw : b < wr.heap.size := by omega
      clear hc hrow hw hown
      have hi0' : (0 : Int) ≤ (k : Int) := Int.natCast_nonneg _
      have hi1 : (k : Int) < (fs.length : Int) := by omega
      go_wp2_with (at_builtin; refine wpList_append_lies _ rfl _ _ _ rfl (w.heap.size + 1) 96 i0 _ 1 16 Tryz.underlying93 hi0 hz0 hz1 hz2 rfl (by omega) u3 (1 + k) (((0, nm, vr) :: fileWs (fs.take k)).map wordV) rfl (((unhide HO).alloc _).alloc _) ⟨wr.heap.size + 1, 0, none⟩ 1 1 [.iface 155 (.agg #[.int .i64 (Pk.fst fs k), .int .i64 (Pk.snd fs k)])] rfl rfl (World.news_of_block (cs := #[.iface 155 (.agg #[.int .i64 (Pk.fst fs k), .int .i64 (Pk.snd fs k)])]) (t := 96) (fr := (0, 0)) (by rw [← sz1w wr (.cells #[.int .i64 (Pk.fst fs k), .int .i64 (Pk.snd fs k)] 132)]; exact heap_alloc_new _ _)) (by simp [Value.oneCell']) (by omega) (by unfold maxLen; omega) (by omega) (by rw [sz1w, sz1w]; omega) (wr.heap.size + 1 + 1) (by rw [sz1w, sz1w]) ?_; intro gg cap w4 hown1 hgrow hat hlt4)
      go_roundw
      case rel => exact ⟨k + 1, by omega, by go_num, (((unhide HW).alloc (by omega) _).alloc (by rw [sz1w]; omega) _).grown hgrow (by rw [sz1w, sz1w]; omega) (fun g hg => ((unhide HO).lt g hg).1), by
        have e : ((0, nm, vr) :: fileWs (fs.take (k + 1))).map wordV = ((0, nm, vr) :: fileWs (fs.take k)).map wordV ++ [.iface 155 (.agg #[.int .i64 (Pk.fst fs k), .int .i64 (Pk.snd fs k)])] := by
          unfold fileWs
          rw [take_map _ _ _ hlt, ← List.cons_append, List.map_append]
          rfl
        rw [e, show 1 + (k + 1) = 1 + k + 1 from rfl]
        exact hown1⟩
      case measure => simp [intOf]; omega
    · obtain rfl : k = fs.length := by omega
      clear hlt
      have j3 : wr.cell? ⟨w.heap.size, 3, none⟩ = _ := (hw.cell (Nat.lt_succ_self _)).trans x3
      rw [List.take_length] at HO
      clear hw hown
      go_wp2_with fail
      go_loopw [3, 31] (fun s i w' => ∃ k : Nat, k ≤ ds.length ∧ i = .int .i64 k ∧ Below (w.heap.size + 1) W0 w' ∧ w'.ownsRow (w.heap.size + 1) 96 1 s (1 + fs.length + k) (((0, nm, vr) :: fileWs fs ++ needWs (ds.take k)).map wordV)) (fun _ i _ => ds.length - (intOf i).toNat)
      case atStart => exact ⟨0, Nat.zero_le _, rfl, unhide HW, by rw [List.take_zero]; simpa [needWs] using unhide HO⟩
      case round =>
        clear HW HO j3 hz1'
        obtain ⟨k, hk, rfl, hw, hown⟩ := hrel
        have HW := hide hw
        have HO := hide hown
        have hz1' := hw.size
        by_cases hlt : k < ds.length
        · obtain ⟨da', dc', e1, _, hrow⟩ := unhide HD
          injection e1 with e1 _ e3
          subst e1 e3
          obtain ⟨b, off, rfl, hbs, hc⟩ := hrow (by omega)
          obtain ⟨c1, c2⟩ := hc k hlt
          rw [z0] at hbs
          rw [← hw.cell hbs] at c1 c2
          have hbw : b < wr.heap.size := by omega
          clear hc hrow hw hown
          have hi0' : (0 : Int) ≤ (k : Int) := Int.natCast_nonneg _
          have hi1 : (k : Int) < (ds.length : Int) := by omega
          go_wp2_with (at_builtin; refine wpList_append_lies _ rfl _ _ _ rfl (w.heap.size + 1) 96 i0 _ 1 16 Tryz.underlying93 hi0 hz0 hz1 hz2 rfl (by omega) u3 (1 + fs.length + k) (((0, nm, vr) :: fileWs fs ++ needWs (ds.take k)).map wordV) rfl (((unhide HO).alloc _).alloc _) ⟨wr.heap.size + 1, 0, none⟩ 1 1 [.iface 156 (.agg #[.int .i64 (Pk.fst ds k), .int .i64 (Pk.snd ds k)])] rfl rfl (World.news_of_block (cs := #[.iface 156 (.agg #[.int .i64 (Pk.fst ds k), .int .i64 (Pk.snd ds k)])]) (t := 96) (fr := (0, 0)) (by rw [← sz1w wr (.cells #[.int .i64 (Pk.fst ds k), .int .i64 (Pk.snd ds k)] 134)]; exact heap_alloc_new _ _)) (by simp [Value.oneCell']) (by omega) (by unfold maxLen; omega) (by omega) (by rw [sz1w, sz1w]; omega) (wr.heap.size + 1 + 1) (by rw [sz1w, sz1w]) ?_; intro gg cap w4 hown1 hgrow hat hlt4)
          go_roundw
          case rel => exact ⟨k + 1, by omega, by go_num, (((unhide HW).alloc (by omega) _).alloc (by rw [sz1w]; omega) _).grown hgrow (by rw [sz1w, sz1w]; omega) (fun g hg => ((unhide HO).lt g hg).1), by
            have e : ((0, nm, vr) :: fileWs fs ++ needWs (ds.take (k + 1))).map wordV = ((0, nm, vr) :: fileWs fs ++ needWs (ds.take k)).map wordV ++ [.iface 156 (.agg #[.int .i64 (Pk.fst ds k), .int .i64 (Pk.snd ds k)])] := by
              unfold needWs
              rw [take_map _ _ _ hlt, ← List.append_assoc, List.map_append]
              rfl
            rw [e, show 1 + fs.length + (k + 1) = 1 + fs.length + k + 1 from rfl]
            exact hown1⟩
          case measure => simp [intOf]; omega
        · obtain rfl : k = ds.length := by omega
          rw [List.take_length] at HO
          clear hw hown hlt
          go_wp2
          go_ret
          refine ⟨_, rfl, ?_, hB0.trans ((unhide HW).mono (Nat.le_succ _))⟩
          obtain ⟨h1, h2⟩ := unhide HO
          refine ⟨h1, ?_⟩
          rcases h2 with h2 | ⟨g, cap, cur, hv, hb, rest⟩
          · exact .inl h2
          · exact .inr ⟨g, cap, cur, hv, by omega, rest⟩
end Go.Proofs.YtlnieobmhofkdaaGreatDoor

/- What errors.Is answers of nothing, and of the one error itself: no, and yes. -/
namespace Go.Proofs.YtlnieobmhofkdaaGreatDoor
open Go.RowKit Go.Extern.Stop Go.Stop Go.Extern

theorem isTypeOf (v : Value) (w : World) : (Extern.ReflectliteType.typeOf #[.iface 251 v]).run Tryz.prog w = .ok (.iface 209 (.agg #[.pointer (some ⟨9, 251, none⟩)])) w := by kernel_rfl
def cmpX := Extern.ReflectliteType.method fun t => do Extern.Rtype.noPackHeld "Comparable" t; pure (.bool (← typeInfo t).comparable)
theorem isComparable (w : World) : (cmpX #[.agg #[.pointer (some ⟨9, 251, none⟩)]]).run Tryz.prog w = .ok (.bool true) w := by kernel_rfl
theorem isMethodComparable (v : Value) (w : World) : (Go.method 397 209 v "Comparable").run Tryz.prog w = .ok (230, v) w := by kernel_rfl
theorem isComp : (Tryz.prog.info? 251).map (·.comparable) = some true := by kernel_rfl
theorem isSize : (Tryz.prog.info? 253).map (·.size) = some 1 := by kernel_rfl

set_option maxHeartbeats 1000000 in
set_option maxRecDepth 100000 in
/-- errors.Is of an error and itself. -/
theorem is_same (a : Addr) (w : World) :
    Calls Tryz.prog 101 #[.iface 251 (.pointer (some a)), .iface 251 (.pointer (some a))] w fun e w' => e = .returned (.bool true) ∧ w' = w := by
  obtain ⟨i, hi, hcmp⟩ := Option.map_eq_some_iff.1 isComp
  obtain ⟨j, hj, hjs⟩ := Option.map_eq_some_iff.1 isSize
  have h8 := @run_callFunc_extern Tryz.prog 141 _ Extern.ReflectliteType.typeOf Tryz.func141 (by kernel_rfl) (by kernel_rfl) (by kernel_rfl) (by kernel_rfl)
  have h32 := @run_callFunc_extern Tryz.prog 230 _ cmpX Tryz.func230 (by kernel_rfl) (by kernel_rfl) (by kernel_rfl) (by kernel_rfl)
  have tT := isTypeOf
  have cT := isComparable
  have mR := isMethodComparable
  have heq := run_eql_iface_ptr_same (P := Tryz.prog) w a Tryz.underlying146 Tryz.underlying251 hi hcmp hj
  go_enter Tryz.func101, Tryz.ntmps101
  go_wp2
  refine wp_loop_rounds 1 ?_
  rw [rounds_succ]
  go_wp2
  go_ret
  exact ⟨rfl, rfl⟩

/-- errors.Is of nothing. -/
theorem is_nil (b : Addr) (w : World) :
    Calls Tryz.prog 101 #[.nilIface, .iface 251 (.pointer (some b))] w fun e w' => e = .returned (.bool false) ∧ w' = w := by
  have hn := run_eql_iface_nil_left (P := Tryz.prog) w 251 (.pointer (some b)) Tryz.underlying146
  go_enter Tryz.func101, Tryz.ntmps101
  go_wp2
  go_ret
  exact ⟨rfl, rfl⟩
end Go.Proofs.YtlnieobmhofkdaaGreatDoor

/- What impl.readNumber, readNamed, readFile and readWord return: what the text says, or the one error; of texts of at most 1000 bytes; nothing old is written. -/
namespace Go.Proofs.YtlnieobmhofkdaaGreatDoor
open Go.RowKit

/-- The variables that are read while a text is read. -/
structure Gl (w : World) (ev : Addr) : Prop where
  e : w.cell? ⟨0, 0, none⟩ = some (.iface 251 (.pointer (some ev)))
  s : ∃ x, w.cell? ⟨4, 0, none⟩ = some x ∧ (x = .nilIface ∨ ∃ te pe, x = .iface te pe)
  r : ∃ x, w.cell? ⟨5, 0, none⟩ = some x ∧ (x = .nilIface ∨ ∃ te pe, x = .iface te pe)
  m : ∃ m : Int, w.cell? ⟨1, 0, none⟩ = some (.int .i64 m)
theorem Gl.later {w w' : World} {ev : Addr} (h : Gl w ev) (hb : Below w.heap.size w w') : Gl w' ev := by
  obtain ⟨e, ⟨x, s1, s2⟩, ⟨y, r1, r2⟩, ⟨m, hm⟩⟩ := h
  exact ⟨by rw [hb.cell (Lib.lt_of_cell e)]; exact e, ⟨x, by rw [hb.cell (Lib.lt_of_cell s1)]; exact s1, s2⟩, ⟨y, by rw [hb.cell (Lib.lt_of_cell r1)]; exact r1, r2⟩, ⟨m, by rw [hb.cell (Lib.lt_of_cell hm)]; exact hm⟩⟩

theorem atoi_ok (s : ByteArray) (v : Int) (w : World) (hs : s.size ≤ 1000) (h : Pk.numF s.data.toList = some v) :
    Calls Tryz.prog 172 #[.string s] w fun e w' => e = .returned (.tuple #[.int .i64 v, .nilIface]) ∧ Below w.heap.size w w' := by
  have h' : Lib.atoiAll s.data.toList = .ok v := by
    unfold Pk.numF at h
    split at h
    · rename_i u hu; injection h with h; rw [hu, h]
    · cases h
  refine (Tryz.strconv_Atoi_ok s (by omega) v h' w).mono fun e w' ⟨h1, h2⟩ => ⟨h1, ?_⟩
  rcases h2 with rfl | ⟨t, rfl⟩
  · exact Below.refl _ _
  · exact Lib.bytesWorld_below _ _ _
theorem atoi_no (s : ByteArray) (w : World) (ev : Addr) (g : Gl w ev) (hs : s.size ≤ 1000) (h : Pk.numF s.data.toList = none) :
    Calls Tryz.prog 172 #[.string s] w fun e w' => (∃ n t N, e = .returned (.tuple #[.int .i64 n, .iface t (.pointer (some ⟨N, 0, none⟩))])) ∧ Below w.heap.size w w' := by
  obtain ⟨x, s1, s2⟩ := g.s
  obtain ⟨y, r1, r2⟩ := g.r
  cases h' : Lib.atoiAll s.data.toList with
  | ok v => unfold Pk.numF at h; rw [h'] at h; cases h
  | «syntax» => exact (Tryz.strconv_Atoi_syntax s (by omega) h' x w s1 s2).mono fun e w' ⟨N, h1, _, _, hb⟩ => ⟨⟨_, _, N, h1⟩, hb⟩
  | range => exact (Tryz.strconv_Atoi_range s (by omega) h' y w r1 r2).mono fun e w' ⟨N, h1, _, _, hb⟩ => ⟨⟨_, _, N, h1⟩, hb⟩

theorem readNumber_ok (s : ByteArray) (v : Int) (w : World) (hs : s.size ≤ 1000) (h : Pk.numF s.data.toList = some v) :
    Calls Tryz.prog 167 #[.string s] w fun e w' => e = .returned (.tuple #[.int .i64 v, .nilIface]) ∧ Below w.heap.size w w' := by
  go_enter Tryz.func167, Tryz.ntmps167
  go_wp2_with (go_at_call 172; refine (atoi_ok s v _ hs h).mono ?_; rintro e w1 ⟨rfl, hb⟩)
  go_ret2
  exact ⟨rfl, hb⟩
theorem readNumber_no (s : ByteArray) (w : World) (ev : Addr) (g : Gl w ev) (hs : s.size ≤ 1000) (h : Pk.numF s.data.toList = none) :
    Calls Tryz.prog 167 #[.string s] w fun e w' => e = .returned (.tuple #[.int .i64 0, .iface 251 (.pointer (some ev))]) ∧ Below w.heap.size w w' := by
  have G := hide g
  clear g
  go_enter Tryz.func167, Tryz.ntmps167
  go_wp2_with (go_at_call 172; refine (atoi_no s _ ev (unhide G) hs h).mono ?_)
  rintro e w1 ⟨⟨n, t, N, rfl⟩, hb⟩
  have he := ((unhide G).later hb).e
  have HB := hide hb
  clear hb
  go_wp2_with fail
  go_quiet (fail)
  go_wp2
  go_ret2
  exact ⟨rfl, below_drewN (unhide HB) _⟩

theorem extract_tail {s : ByteArray} {c : UInt8} {r : List UInt8} (h : s.data.toList = c :: r) : (s.extract 1 s.size).data.toList = r ∧ 0 < s.size := by
  have hz : s.size = r.length + 1 := by
    have := congrArg List.length h
    rw [Array.length_toList, List.length_cons] at this
    exact this
  refine ⟨?_, by omega⟩
  rw [ByteArray.data_extract, Array.toList_extract, h, List.extract_eq_take_drop, hz]
  simp
theorem at_zero {s : ByteArray} {c : UInt8} {r : List UInt8} (h : s.data.toList = c :: r) (h0 : 0 < s.size) : s[0].toNat = c.toNat := by
  have : s[0] = c := by
    show s.data[0] = c
    have := List.getElem_of_eq h (i := 0) (by rw [Array.length_toList]; exact h0)
    rw [Array.getElem_toList] at this
    exact this
  rw [this]
theorem str_empty {s : ByteArray} (h : 0 < s.size) : s.toList.isEmpty = false := by
  rw [ByteArray.toList_eq, List.isEmpty_eq_false_iff]
  intro e
  have := congrArg List.length e
  rw [Array.length_toList, List.length_nil] at this
  have e2 : s.size = 0 := this
  omega

theorem named_split {l : List UInt8} {n v : Int} (h : Pk.namedF l = some (n, v)) : ∃ c r, l = c :: r ∧ Pk.numF r = some v ∧ n = (c.toNat : Int) - 97 + 1 := by
  match l with
  | [] => cases h
  | c :: r =>
    simp only [Pk.namedF] at h
    split at h
    · rename_i u hu
      injection h with h
      injection h with h1 h2
      exact ⟨c, r, rfl, by rw [hu, h2], h1.symm⟩
    · cases h
set_option maxRecDepth 100000 in
theorem readNamed_ok (s : ByteArray) (n v : Int) (w : World) (hs : s.size ≤ 1000) (h : Pk.namedF s.data.toList = some (n, v)) :
    Calls Tryz.prog 159 #[.string s] w fun e w' => e = .returned (.tuple #[.int .i64 n, .int .i64 v, .nilIface]) ∧ Below w.heap.size w w' := by
  obtain ⟨c, r, hl, hn, rfl⟩ := named_split h
  obtain ⟨ht, h0⟩ := extract_tail hl
  have he := str_empty h0
  have HZ := hide (at_zero hl h0)
  have HN : Hid (Pk.numF (s.extract 1 s.size).data.toList = some v) := by rw [ht]; exact hn
  have hz : (s.extract 1 s.size).size ≤ 1000 := by rw [ByteArray.size_extract]; omega
  have hc : ((s[0].toNat : Nat) : Int) < 256 := by have := s[0].toNat_lt; omega
  have hc0 : (0 : Int) ≤ ((s[0].toNat : Nat) : Int) := Int.natCast_nonneg _
  clear ht hl hn h
  go_enter Tryz.func159, Tryz.ntmps159
  go_wp2_with (go_at_call 167; refine (readNumber_ok _ v _ hz (unhide HN)).mono ?_; rintro e w1 ⟨rfl, hb⟩)
  refine bodyPost_ret (v := .tuple #[.int .i64 ((s[0].toNat : Int) - 97 + 1), .int .i64 v, .nilIface]) (by simp [results, Tryz.results159, go_sem]) rfl ⟨by rw [unhide HZ], hb⟩
set_option maxRecDepth 100000 in
theorem readNamed_no (s : ByteArray) (w : World) (ev : Addr) (g : Gl w ev) (hs : s.size ≤ 1000) (h : Pk.namedF s.data.toList = none) :
    Calls Tryz.prog 159 #[.string s] w fun e w' => e = .returned (.tuple #[.int .i64 0, .int .i64 0, .iface 251 (.pointer (some ev))]) ∧ Below w.heap.size w w' := by
  cases hl : s.data.toList with
  | nil =>
    have he : s.toList.isEmpty = true := by rw [ByteArray.toList_eq, hl]; rfl
    have hg := g.e
    have HB : Hid (∀ q, Below w.heap.size w (w.drewN q)) := fun q => below_drewN (Below.refl _ _) q
    clear g h hl hs
    go_enter Tryz.func159, Tryz.ntmps159
    go_wp2_with fail
    go_quiet (fail)
    go_wp2
    refine bodyPost_ret (v := .tuple #[.int .i64 0, .int .i64 0, .iface 251 (.pointer (some ev))]) (by simp [results, Tryz.results159, go_sem]) rfl ⟨rfl, (unhide HB) _⟩
  | cons c r =>
    obtain ⟨ht, h0⟩ := extract_tail hl
    have he := str_empty h0
    have HN : Hid (Pk.numF (s.extract 1 s.size).data.toList = none) := by
      show _ = _
      rw [hl, Pk.namedF] at h
      rw [ht]
      split at h
      · cases h
      · rename_i hr; exact hr
    have hz : (s.extract 1 s.size).size ≤ 1000 := by rw [ByteArray.size_extract]; omega
    have G := hide g
    clear ht hl h g
    go_enter Tryz.func159, Tryz.ntmps159
    go_wp2_with (go_at_call 167; refine (readNumber_no _ _ ev (unhide G) hz (unhide HN)).mono ?_; rintro e w1 ⟨rfl, hb⟩)
    refine bodyPost_ret (v := .tuple #[.int .i64 0, .int .i64 0, .iface 251 (.pointer (some ev))]) (by simp [results, Tryz.results159, go_sem]) rfl ⟨rfl, hb⟩

set_option maxRecDepth 100000 in
theorem readFile_ok (s t : ByteArray) (a b : Int) (w : World) (hs : s.size ≤ 1000) (ht : t.size ≤ 1000) (h1 : Pk.numF s.data.toList = some a) (h2 : Pk.numF t.data.toList = some b) :
    Calls Tryz.prog 158 #[.string s, .string t] w fun e w' => e = .returned (.tuple #[.iface 155 (.agg #[.int .i64 a, .int .i64 b]), .nilIface]) ∧ Below w.heap.size w w' := by
  have H1 := hide h1
  have H2 := hide h2
  clear h1 h2
  go_enter Tryz.func158, Tryz.ntmps158
  go_wp2_with fail
  refine (readNumber_ok s a _ hs (unhide H1)).mono ?_
  rintro e w1 ⟨rfl, hb⟩
  have HB := hide hb
  clear hb
  go_wp2_with fail
  refine (readNumber_ok t b _ ht (unhide H2)).mono ?_
  rintro e w2 ⟨rfl, hb⟩
  have HB2 : Hid (Below w.heap.size w w2) := (unhide HB).trans (hb.mono (unhide HB).size)
  clear hb HB
  go_wp2_with fail
  go_ret2
  exact ⟨rfl, unhide HB2⟩
set_option maxRecDepth 100000 in
theorem readFile_no (s t : ByteArray) (w : World) (ev : Addr) (g : Gl w ev) (hs : s.size ≤ 1000) (ht : t.size ≤ 1000) (h : Pk.fileF s.data.toList t.data.toList = none) :
    Calls Tryz.prog 158 #[.string s, .string t] w fun e w' => e = .returned (.tuple #[.nilIface, .iface 251 (.pointer (some ev))]) ∧ Below w.heap.size w w' := by
  have G := hide g
  clear g
  cases h1 : Pk.numF s.data.toList with
  | none =>
    have H1 := hide h1
    clear h1 h
    go_enter Tryz.func158, Tryz.ntmps158
    go_wp2_with fail
    refine (readNumber_no s _ ev (unhide G) hs (unhide H1)).mono ?_
    rintro e w1 ⟨rfl, hb⟩
    have HB := hide hb
    clear hb
    go_wp2_with fail
    go_ret2
    exact ⟨rfl, unhide HB⟩
  | some a =>
    have h2 : Pk.numF t.data.toList = none := by
      unfold Pk.fileF at h
      rw [h1] at h
      cases h2 : Pk.numF t.data.toList with
      | none => rfl
      | some b => rw [h2] at h; cases h
    have H1 := hide h1
    have H2 := hide h2
    clear h1 h2 h
    go_enter Tryz.func158, Tryz.ntmps158
    go_wp2_with fail
    refine (readNumber_ok s a _ hs (unhide H1)).mono ?_
    rintro e w1 ⟨rfl, hb⟩
    have HB := hide hb
    have G2 := hide ((unhide G).later hb)
    clear hb
    go_wp2_with fail
    refine (readNumber_no t _ ev (unhide G2) ht (unhide H2)).mono ?_
    rintro e w2 ⟨rfl, hb⟩
    have HB2 : Hid (Below w.heap.size w w2) := (unhide HB).trans (hb.mono (unhide HB).size)
    clear hb HB
    go_wp2_with fail
    go_ret2
    exact ⟨rfl, unhide HB2⟩

theorem cut_len (l c : List UInt8) : (Lib.cut l c).1.length ≤ l.length ∧ (Lib.cut l c).2.1.length ≤ l.length := by
  unfold Lib.cut
  split
  · simp only [List.length_take, List.length_drop]; omega
  · simp
/-- strings.Cut at ':'. -/
theorem cut_any (s : ByteArray) (w : World) (ev : Addr) (g : Gl w ev) (hs : s.size ≤ 1000) (a b : List UInt8) (f : Bool) (h : Lib.cut s.data.toList [58] = (a, b, f)) :
    Calls Tryz.prog 157 #[.string s, .string ⟨#[58]⟩] w fun e w' => e = .returned (.tuple #[.string ⟨a.toArray⟩, .string ⟨b.toArray⟩, .bool f]) ∧ ∃ q, w' = w.drewN q := by
  obtain ⟨m, hm⟩ := g.m
  have := Tryz.strings_Cut s ⟨#[58]⟩ m w (by omega) hm
  have e : Lib.cut s.data.toList (⟨#[58]⟩ : ByteArray).data.toList = (a, b, f) := h
  rw [e] at this
  exact this
theorem size_of {a : List UInt8} {n : Nat} (h : a.length ≤ n) : (⟨a.toArray⟩ : ByteArray).size ≤ n := h

set_option maxHeartbeats 1000000 in
set_option maxRecDepth 100000 in
theorem readWord_ok (first : Bool) (s : ByteArray) (x : Nat × Int × Int) (w : World) (ev : Addr) (g : Gl w ev) (hs : s.size ≤ 1000) (h : Pk.wordF first s.data.toList = some x) :
    Calls Tryz.prog 140 #[.string s, .bool first] w fun e w' => e = .returned (.tuple #[wordV x, .nilIface]) ∧ Below w.heap.size w w' := by
  have hl := cut_len s.data.toList [58]
  unfold Pk.wordF at h
  obtain ⟨a, b, f, hc⟩ : ∃ a b f, Lib.cut s.data.toList [58] = (a, b, f) := ⟨_, _, _, rfl⟩
  rw [hc] at h hl
  dsimp only at hl
  have hz : s.data.toList.length = s.size := Array.length_toList
  have ha : (⟨a.toArray⟩ : ByteArray).size ≤ 1000 := size_of (by have := hl.1; omega)
  have hb : (⟨b.toArray⟩ : ByteArray).size ≤ 1000 := size_of (by have := hl.2; omega)
  have HC := hide (cut_any s w ev g hs a b f hc)
  clear hl hc hz g
  cases f with
  | true =>
    rw [if_pos rfl] at h
    obtain ⟨u, v, h1, h2, rfl⟩ : ∃ u v, Pk.numF a = some u ∧ Pk.numF b = some v ∧ x = (1, u, v) := by
      simp only [Pk.fileF] at h
      split at h
      · rename_i u v hu hv; injection h with h; exact ⟨u, v, hu, hv, h.symm⟩
      · cases h
    have H1 := hide h1
    have H2 := hide h2
    clear h h1 h2
    go_enter Tryz.func140, Tryz.ntmps140
    go_wp2_with fail
    refine (unhide HC).mono ?_
    rintro e w1 ⟨rfl, q, hw⟩
    have HW := hide hw
    clear hw
    go_wp2_with fail
    refine (readFile_ok _ _ u v _ ha hb (unhide H1) (unhide H2)).mono ?_
    rintro e w2 ⟨rfl, hb⟩
    have HB2 : Hid (Below w.heap.size w w2) := by
      have hw := unhide HW
      subst hw
      exact (below_drewN (Below.refl _ _) q).trans hb
    clear hb HW
    go_wp2_with fail
    go_ret2
    exact ⟨rfl, unhide HB2⟩
  | false =>
    rw [if_neg (by simp)] at h
    obtain ⟨n, v, h1, rfl⟩ : ∃ n v, Pk.namedF s.data.toList = some (n, v) ∧ x = (bif first then 0 else 2, n, v) := by
      split at h
      · rename_i n v hu; injection h with h; exact ⟨n, v, hu, h.symm⟩
      · cases h
    have H1 := hide h1
    clear h h1
    cases first with
    | true =>
      go_enter Tryz.func140, Tryz.ntmps140
      go_wp2_with fail
      refine (unhide HC).mono ?_
      rintro e w1 ⟨rfl, q, hw⟩
      have HW := hide hw
      clear hw
      go_wp2_with fail
      refine (readNamed_ok s n v _ hs (unhide H1)).mono ?_
      rintro e w2 ⟨rfl, hb⟩
      have HB2 : Hid (Below w.heap.size w w2) := by
        have hw := unhide HW
        subst hw
        exact (below_drewN (Below.refl _ _) q).trans hb
      clear hb HW
      go_wp2_with fail
      go_ret2
      exact ⟨rfl, unhide HB2⟩
    | false =>
      go_enter Tryz.func140, Tryz.ntmps140
      go_wp2_with fail
      refine (unhide HC).mono ?_
      rintro e w1 ⟨rfl, q, hw⟩
      have HW := hide hw
      clear hw
      go_wp2_with fail
      refine (readNamed_ok s n v _ hs (unhide H1)).mono ?_
      rintro e w2 ⟨rfl, hb⟩
      have HB2 : Hid (Below w.heap.size w w2) := by
        have hw := unhide HW
        subst hw
        exact (below_drewN (Below.refl _ _) q).trans hb
      clear hb HW
      go_wp2_with fail
      go_ret2
      exact ⟨rfl, unhide HB2⟩

set_option maxHeartbeats 1000000 in
set_option maxRecDepth 100000 in
theorem readWord_no (first : Bool) (s : ByteArray) (w : World) (ev : Addr) (g : Gl w ev) (hs : s.size ≤ 1000) (h : Pk.wordF first s.data.toList = none) :
    Calls Tryz.prog 140 #[.string s, .bool first] w fun e w' => e = .returned (.tuple #[.nilIface, .iface 251 (.pointer (some ev))]) ∧ Below w.heap.size w w' := by
  have hl := cut_len s.data.toList [58]
  unfold Pk.wordF at h
  obtain ⟨a, b, f, hc⟩ : ∃ a b f, Lib.cut s.data.toList [58] = (a, b, f) := ⟨_, _, _, rfl⟩
  rw [hc] at h hl
  dsimp only at hl
  have hz : s.data.toList.length = s.size := Array.length_toList
  have ha : (⟨a.toArray⟩ : ByteArray).size ≤ 1000 := size_of (by have := hl.1; omega)
  have hb : (⟨b.toArray⟩ : ByteArray).size ≤ 1000 := size_of (by have := hl.2; omega)
  have HC := hide (cut_any s w ev g hs a b f hc)
  have G := hide g
  clear hl hc hz g
  cases f with
  | true =>
    rw [if_pos rfl] at h
    have H1 : Hid (Pk.fileF a b = none) := h
    clear h
    go_enter Tryz.func140, Tryz.ntmps140
    go_wp2_with fail
    refine (unhide HC).mono ?_
    rintro e w1 ⟨rfl, q, hw⟩
    have HW := hide hw
    clear hw
    go_wp2_with fail
    refine (readFile_no _ _ _ ev (by have hw := unhide HW; subst hw; exact (unhide G).later (below_drewN (Below.refl _ _) q)) ha hb (unhide H1)).mono ?_
    rintro e w2 ⟨rfl, hb⟩
    have HB2 : Hid (Below w.heap.size w w2) := by
      have hw := unhide HW
      subst hw
      exact (below_drewN (Below.refl _ _) q).trans hb
    clear hb HW
    go_wp2_with fail
    go_ret2
    exact ⟨rfl, unhide HB2⟩
  | false =>
    rw [if_neg (by simp)] at h
    have H1 : Hid (Pk.namedF s.data.toList = none) := by
      show _ = _
      split at h
      · cases h
      · rename_i hu; exact hu
    clear h
    go_enter Tryz.func140, Tryz.ntmps140
    go_wp2_with fail
    refine (unhide HC).mono ?_
    rintro e w1 ⟨rfl, q, hw⟩
    have HW := hide hw
    clear hw
    go_wp2_with fail
    refine (readNamed_no s _ ev (by have hw := unhide HW; subst hw; exact (unhide G).later (below_drewN (Below.refl _ _) q)) hs (unhide H1)).mono ?_
    rintro e w2 ⟨rfl, hb⟩
    have HB2 : Hid (Below w.heap.size w w2) := by
      have hw := unhide HW
      subst hw
      exact (below_drewN (Below.refl _ _) q).trans hb
    clear hb HW
    go_wp2_with fail
    go_ret2
    exact ⟨rfl, unhide HB2⟩
end Go.Proofs.YtlnieobmhofkdaaGreatDoor
