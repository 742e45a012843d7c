import Derived.Test.YtlnieobmhofkdaaGreatPkgTextW
import Derived.Test.YtlnieobmhofkdaaGreatShelf
/- What impl.spellNamed writes: a name as a letter, and a version; strconv.Itoa of one figure. -/
namespace Go.Proofs.YtlnieobmhofkdaaGreat
open Go.RowKit

attribute [local go_sem ↓] Go.wp_at_zero Go.wp_at_succ

theorem itoa_any (n : Int) (w : World) (h0 : 0 ≤ n) (h1 : n ≤ 9) : Calls Tryz.prog 118 #[.int .i64 n] w fun e w' => e = .returned (.string ⟨#[Pk.b8 (48 + n)]⟩) ∧ w' = w := by
  obtain ⟨i, rfl⟩ := Int.eq_ofNat_of_zero_le h0
  have hi : i < 10 := by omega
  have e : Lib.decDigits i = [Pk.b8 (48 + (i : Int))] := by
    rw [Lib.decDigits, dif_pos hi]
    unfold Pk.b8
    rw [show (48 + (i : Int)).toNat = 48 + i from by omega]
  refine (Tryz.strconv_Itoa_small i (by omega) w).mono fun e' w' ⟨h1, h2⟩ => ⟨?_, h2⟩
  rw [h1, e]

theorem enc_letter (nm : Int) (h0 : 1 ≤ nm) (h1 : nm ≤ 4) : Utf8.encode (97 + nm - 1) = ⟨#[Pk.b8 (96 + nm)]⟩ := by
  have h : nm = 1 ∨ nm = 2 ∨ nm = 3 ∨ nm = 4 := by omega
  rcases h with rfl | rfl | rfl | rfl <;> decide

set_option maxHeartbeats 1000000 in
set_option maxRecDepth 100000 in
theorem spellNamed_any (nm vr : Int) (w : World) (h0 : 1 ≤ nm) (h1 : nm ≤ 4) (h2 : 0 ≤ vr) (h3 : vr ≤ 9) : Calls Tryz.prog 117 #[.int .i64 nm, .int .i64 vr] w fun e w' => e = .returned (.string ⟨(Pk.nameT nm vr).toArray⟩) ∧ w' = w := by
  have henc := enc_letter nm h0 h1
  have hsz : ¬ 9223372036854775807 < (1 + 1 : Nat) := by omega
  go_enter Tryz.func117, Tryz.ntmps117
  go_wp2_with (go_at_call 118; refine (itoa_any _ _ h2 h3).mono ?_; rintro e w' ⟨rfl, rfl⟩)
  go_ret
  exact ⟨ret_str (app_data [Pk.b8 (96 + nm)] [Pk.b8 (48 + vr)]), rfl⟩
end Go.Proofs.YtlnieobmhofkdaaGreat

/- What impl's words spell: a name and a number, or a place and what is in it; of numbers of one figure. -/
namespace Go.Proofs.YtlnieobmhofkdaaGreat
open Go.RowKit

attribute [local go_sem ↓] Go.wp_at_zero Go.wp_at_succ

set_option maxHeartbeats 1000000 in
set_option maxRecDepth 100000 in
theorem headSpell_any (nm vr : Int) (w : World) (h0 : 1 ≤ nm) (h1 : nm ≤ 4) (h2 : 0 ≤ vr) (h3 : vr ≤ 9) : Calls Tryz.prog 116 #[.agg #[.int .i64 nm, .int .i64 vr]] w fun e w' => e = .returned (.string ⟨(Pk.nameT nm vr).toArray⟩) ∧ Below w.heap.size w w' := by
  go_enter Tryz.func116, Tryz.ntmps116
  go_wp2_with (go_at_call 117; refine (spellNamed_any _ _ _ h0 h1 h2 h3).mono ?_; rintro e w' ⟨rfl, rfl⟩)
  go_ret
  exact ⟨rfl, (Below.refl _ _).alloc (Nat.le_refl _) _⟩

set_option maxHeartbeats 1000000 in
set_option maxRecDepth 100000 in
theorem needSpell_any (nm vr : Int) (w : World) (h0 : 1 ≤ nm) (h1 : nm ≤ 4) (h2 : 0 ≤ vr) (h3 : vr ≤ 9) : Calls Tryz.prog 133 #[.agg #[.int .i64 nm, .int .i64 vr]] w fun e w' => e = .returned (.string ⟨(Pk.nameT nm vr).toArray⟩) ∧ Below w.heap.size w w' := by
  go_enter Tryz.func133, Tryz.ntmps133
  go_wp2_with (go_at_call 117; refine (spellNamed_any _ _ _ h0 h1 h2 h3).mono ?_; rintro e w' ⟨rfl, rfl⟩)
  go_ret
  exact ⟨rfl, (Below.refl _ _).alloc (Nat.le_refl _) _⟩

/-- A place and what is in it. -/
def fileS (a b : Int) : List UInt8 := [Pk.b8 (48 + a), 58, Pk.b8 (48 + b)]

set_option maxHeartbeats 1000000 in
set_option maxRecDepth 100000 in
theorem fileSpell_any (a b : Int) (w : World) (h0 : 0 ≤ a) (h1 : a ≤ 9) (h2 : 0 ≤ b) (h3 : b ≤ 9) : Calls Tryz.prog 132 #[.agg #[.int .i64 a, .int .i64 b]] w fun e w' => e = .returned (.string ⟨(fileS a b).toArray⟩) ∧ Below w.heap.size w w' := by
  have HB : Hid (∀ (o : Obj) (q : Nat), Below w.heap.size w ((w.alloc o).drewN q)) := fun o q => below_drewN ((Below.refl _ _).alloc (Nat.le_refl _) o) q
  go_enter Tryz.func132, Tryz.ntmps132
  go_wp2_with fail
  go_quiet ((go_at_call 118; exact Calls.quiet_of_same (itoa_any _ _ (by assumption) (by assumption))))
  go_wp2
  go_ret
  exact ⟨ret_str (by apply ByteArray.ext; simp [fileS]), (unhide HB) _ _⟩
end Go.Proofs.YtlnieobmhofkdaaGreat

/- What impl.wordsOf returns: the words of a package, in a row of its own. -/
namespace Go.Proofs.YtlnieobmhofkdaaGreat
open Go.RowKit

theorem infoWord : (Tryz.prog.info? 130).map (fun i => (i.zero, i.size, i.bytes)) = some (some .nilIface, 1, 16) := by kernel_rfl
theorem infoStr : (Tryz.prog.info? 9).map (fun i => (i.zero, i.size, i.bytes)) = some (some (.string ⟨#[]⟩), 1, 16) := by kernel_rfl

/-- A word: which kind, and its two numbers. -/
def wordV : Nat × Int × Int → Value
  | (0, a, b) => .iface 134 (.agg #[.int .i64 a, .int .i64 b])
  | (1, a, b) => .iface 135 (.agg #[.int .i64 a, .int .i64 b])
  | (_, a, b) => .iface 136 (.agg #[.int .i64 a, .int .i64 b])
def wordS : Nat × Int × Int → List UInt8
  | (0, a, b) => Pk.nameT a b
  | (1, a, b) => fileS a b
  | (_, a, b) => Pk.nameT a b
def fileWs (l : List (Int × Int)) : List (Nat × Int × Int) := l.map fun x => (1, x.1, x.2)
def needWs (l : List (Int × Int)) : List (Nat × Int × Int) := l.map fun x => (2, x.1, x.2)

theorem take_map (f : Int × Int → Nat × Int × Int) (l : List (Int × Int)) (k : Nat) (h : k < l.length) : (l.take (k + 1)).map f = (l.take k).map f ++ [f (Pk.fst l k, Pk.snd l k)] := by
  rw [List.take_succ_eq_append_getElem h, List.map_append]
  simp [Pk.fst, Pk.snd, h]

/-- A row of words, or of texts, stays over whatever leaves old blocks as they were. -/
theorem own1_keep {w w' : World} {B : Nat} {t : TypeId} {v : Value} {n : Nat} {xs : List Value} (h : w.ownsRow B t 1 v n xs) (hb : ∀ g, v.ownBlock = some g → w'.heap[g]? = w.heap[g]?) : w'.ownsRow B t 1 v n xs := by
  refine ⟨h.1, ?_⟩
  rcases h.2 with hn | ⟨g, cap, cur, rfl, hb1, hgg, rest⟩
  · exact .inl hn
  · exact .inr ⟨g, cap, cur, rfl, hb1, by rw [hb g rfl]; exact hgg, rest⟩
theorem own1_later {w w' : World} {B : Nat} {t : TypeId} {v : Value} {n : Nat} {xs : List Value} (h : w.ownsRow B t 1 v n xs) (hb : Below w.heap.size w w') : w'.ownsRow B t 1 v n xs :=
  own1_keep h (fun g hg => hb.block g (h.lt g hg).2)
theorem one_word (w : World) (v : Value) (t : TypeId) (B : Nat) (hB : B ≤ w.heap.size) : (w.alloc (.cells #[v] t)).ownsRow B t 1 (.slice (some ⟨w.heap.size, 0, none⟩) 1 1) 1 [v] :=
  ⟨rfl, .inr ⟨w.heap.size, 1, #[v], rfl, hB, heap_alloc_new w _, Nat.le_refl _, by unfold maxLen; omega, rfl, rfl⟩⟩
theorem sz1w (w : World) (o : Obj) : (w.alloc o).heap.size = w.heap.size + 1 := by simp

set_option maxHeartbeats 2000000 in
set_option maxRecDepth 100000 in
theorem wordsOf_any (w : World) (nm vr : Int) (fv dv : Value) (fs ds : List (Int × Int)) (hf : Prs w fv fs) (hd : Prs w dv ds) (hfl : fs.length ≤ 2) (hdl : ds.length ≤ 2) :
    Calls Tryz.prog 90 #[.agg #[.int .i64 nm, .int .i64 vr, fv, dv]] w fun e w' => ∃ v, e = .returned v ∧ w'.ownsRow w.heap.size 130 1 v (1 + fs.length + ds.length) (((0, nm, vr) :: fileWs fs ++ needWs ds).map wordV) ∧ Below w.heap.size w w' := by
  obtain ⟨i0, hi0, hz0, hz1, hz2⟩ := info_parts infoWord
  have hB0 : Below w.heap.size w (w.alloc (.cells #[.int .i64 nm, .int .i64 vr, fv, dv] 67)) := (Below.refl _ _).alloc (Nat.le_refl _) _
  have H0 := hide (And.intro hB0 (box4 w (.int .i64 nm) (.int .i64 vr) fv dv 67))
  have HF : Hid (Prs _ _ _) := hf.later hB0
  have HD : Hid (Prs _ _ _) := hd.later hB0
  obtain ⟨fa, fc, hfv⟩ := hf.slice
  obtain ⟨da, dc, hdv⟩ := hd.slice
  subst hfv hdv
  clear hf hd hB0
  go_enter Tryz.func90, Tryz.ntmps90
  go_wp2_with fail
  generalize w.alloc _ = W0 at *
  obtain ⟨hB0, z0, _, _, x2, x3⟩ := unhide H0
  have HS : Hid (Below W0.heap.size W0 (W0.alloc (.cells #[.iface 134 (.agg #[.int .i64 nm, .int .i64 vr])] 130)) ∧ (W0.alloc (.cells #[.iface 134 (.agg #[.int .i64 nm, .int .i64 vr])] 130)).ownsRow W0.heap.size 130 1 (.slice (some ⟨W0.heap.size, 0, none⟩) 1 1) 1 [.iface 134 (.agg #[.int .i64 nm, .int .i64 vr])]) := ⟨(Below.refl _ _).alloc (Nat.le_refl _) _, one_word _ _ _ _ (Nat.le_refl _)⟩
  rw [z0] at HS
  go_loopw [3, 18] (fun s i w' => ∃ k : Nat, k ≤ fs.length ∧ i = .int .i64 k ∧ Below (w.heap.size + 1) W0 w' ∧ w'.ownsRow (w.heap.size + 1) 130 1 s (1 + k) (((0, nm, vr) :: fileWs (fs.take k)).map wordV)) (fun _ i _ => fs.length - (intOf i).toNat)
  case atStart => exact ⟨0, Nat.zero_le _, rfl, (unhide HS).1, (unhide HS).2⟩
  case round =>
    clear HS
    obtain ⟨k, hk, rfl, hw, hown⟩ := hrel
    have HW := hide hw
    have HO := hide hown
    have hz1' := hw.size
    by_cases hlt : k < fs.length
    · obtain ⟨fa', fc', e1, _, hrow⟩ := unhide HF
      injection e1 with e1 _ e3
      subst e1 e3
      obtain ⟨b, off, rfl, hbs, hc⟩ := hrow (by omega)
      obtain ⟨c1, c2⟩ := hc k hlt
      rw [z0] at hbs
      rw [← hw.cell hbs] at c1 c2
      have hbw : b < wr.heap.size := by omega
      clear hc hrow hw hown
      have hi0' : (0 : Int) ≤ (k : Int) := Int.natCast_nonneg _
      have hi1 : (k : Int) < (fs.length : Int) := by omega
      go_wp2_with (at_builtin; refine wpList_append_lies _ rfl _ _ _ rfl (w.heap.size + 1) 130 i0 _ 1 16 Tryz.underlying127 hi0 hz0 hz1 hz2 rfl (by omega) u3 (1 + k) (((0, nm, vr) :: fileWs (fs.take k)).map wordV) rfl (((unhide HO).alloc _).alloc _) ⟨wr.heap.size + 1, 0, none⟩ 1 1 [.iface 135 (.agg #[.int .i64 (Pk.fst fs k), .int .i64 (Pk.snd fs k)])] rfl rfl (World.news_of_block (cs := #[.iface 135 (.agg #[.int .i64 (Pk.fst fs k), .int .i64 (Pk.snd fs k)])]) (t := 130) (fr := (0, 0)) (by rw [← sz1w wr (.cells #[.int .i64 (Pk.fst fs k), .int .i64 (Pk.snd fs k)] 96)]; exact heap_alloc_new _ _)) (by simp [Value.oneCell']) (by omega) (by unfold maxLen; omega) (by omega) (by rw [sz1w, sz1w]; omega) (wr.heap.size + 1 + 1) (by rw [sz1w, sz1w]) ?_; intro gg cap w4 hown1 hgrow hat hlt4)
      go_roundw
      case rel => exact ⟨k + 1, by omega, by go_num, (((unhide HW).alloc (by omega) _).alloc (by rw [sz1w]; omega) _).grown hgrow (by rw [sz1w, sz1w]; omega) (fun g hg => ((unhide HO).lt g hg).1), by
        have e : ((0, nm, vr) :: fileWs (fs.take (k + 1))).map wordV = ((0, nm, vr) :: fileWs (fs.take k)).map wordV ++ [.iface 135 (.agg #[.int .i64 (Pk.fst fs k), .int .i64 (Pk.snd fs k)])] := by
          unfold fileWs
          rw [take_map _ _ _ hlt, ← List.cons_append, List.map_append]
          rfl
        rw [e, show 1 + (k + 1) = 1 + k + 1 from rfl]
        exact hown1⟩
      case measure => simp [intOf]; omega
    · obtain rfl : k = fs.length := by omega
      clear hlt
      have j3 : wr.cell? ⟨w.heap.size, 3, none⟩ = _ := (hw.cell (Nat.lt_succ_self _)).trans x3
      rw [List.take_length] at HO
      clear hw hown
      go_wp2_with fail
      go_loopw [3, 31] (fun s i w' => ∃ k : Nat, k ≤ ds.length ∧ i = .int .i64 k ∧ Below (w.heap.size + 1) W0 w' ∧ w'.ownsRow (w.heap.size + 1) 130 1 s (1 + fs.length + k) (((0, nm, vr) :: fileWs fs ++ needWs (ds.take k)).map wordV)) (fun _ i _ => ds.length - (intOf i).toNat)
      case atStart => exact ⟨0, Nat.zero_le _, rfl, unhide HW, by rw [List.take_zero]; simpa [needWs] using unhide HO⟩
      case round =>
        clear HW HO j3 hz1'
        obtain ⟨k, hk, rfl, hw, hown⟩ := hrel
        have HW := hide hw
        have HO := hide hown
        have hz1' := hw.size
        by_cases hlt : k < ds.length
        · obtain ⟨da', dc', e1, _, hrow⟩ := unhide HD
          injection e1 with e1 _ e3
          subst e1 e3
          obtain ⟨b, off, rfl, hbs, hc⟩ := hrow (by omega)
          obtain ⟨c1, c2⟩ := hc k hlt
          rw [z0] at hbs
          rw [← hw.cell hbs] at c1 c2
          have hbw : b < wr.heap.size := by omega
          clear hc hrow hw hown
          have hi0' : (0 : Int) ≤ (k : Int) := Int.natCast_nonneg _
          have hi1 : (k : Int) < (ds.length : Int) := by omega
          go_wp2_with (at_builtin; refine wpList_append_lies _ rfl _ _ _ rfl (w.heap.size + 1) 130 i0 _ 1 16 Tryz.underlying127 hi0 hz0 hz1 hz2 rfl (by omega) u3 (1 + fs.length + k) (((0, nm, vr) :: fileWs fs ++ needWs (ds.take k)).map wordV) rfl (((unhide HO).alloc _).alloc _) ⟨wr.heap.size + 1, 0, none⟩ 1 1 [.iface 136 (.agg #[.int .i64 (Pk.fst ds k), .int .i64 (Pk.snd ds k)])] rfl rfl (World.news_of_block (cs := #[.iface 136 (.agg #[.int .i64 (Pk.fst ds k), .int .i64 (Pk.snd ds k)])]) (t := 130) (fr := (0, 0)) (by rw [← sz1w wr (.cells #[.int .i64 (Pk.fst ds k), .int .i64 (Pk.snd ds k)] 98)]; exact heap_alloc_new _ _)) (by simp [Value.oneCell']) (by omega) (by unfold maxLen; omega) (by omega) (by rw [sz1w, sz1w]; omega) (wr.heap.size + 1 + 1) (by rw [sz1w, sz1w]) ?_; intro gg cap w4 hown1 hgrow hat hlt4)
          go_roundw
          case rel => exact ⟨k + 1, by omega, by go_num, (((unhide HW).alloc (by omega) _).alloc (by rw [sz1w]; omega) _).grown hgrow (by rw [sz1w, sz1w]; omega) (fun g hg => ((unhide HO).lt g hg).1), by
            have e : ((0, nm, vr) :: fileWs fs ++ needWs (ds.take (k + 1))).map wordV = ((0, nm, vr) :: fileWs fs ++ needWs (ds.take k)).map wordV ++ [.iface 136 (.agg #[.int .i64 (Pk.fst ds k), .int .i64 (Pk.snd ds k)])] := by
              unfold needWs
              rw [take_map _ _ _ hlt, ← List.append_assoc, List.map_append]
              rfl
            rw [e, show 1 + fs.length + (k + 1) = 1 + fs.length + k + 1 from rfl]
            exact hown1⟩
          case measure => simp [intOf]; omega
        · obtain rfl : k = ds.length := by omega
          rw [List.take_length] at HO
          clear hw hown hlt
          go_wp2
          go_ret
          refine ⟨_, rfl, ?_, hB0.trans ((unhide HW).mono (Nat.le_succ _))⟩
          obtain ⟨h1, h2⟩ := unhide HO
          refine ⟨h1, ?_⟩
          rcases h2 with h2 | ⟨g, cap, cur, hv, hb, rest⟩
          · exact .inl h2
          · exact .inr ⟨g, cap, cur, hv, by omega, rest⟩
end Go.Proofs.YtlnieobmhofkdaaGreat
