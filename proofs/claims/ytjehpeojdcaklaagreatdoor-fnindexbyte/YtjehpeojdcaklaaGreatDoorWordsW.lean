import Derived.Test.YtjehpeojdcaklaaGreatDoorMixB
/- What impl.wordsOf returns: the words of a package, in a row of its own. -/
namespace Go.Proofs.YtjehpeojdcaklaaGreatDoor
open Go.RowKit

theorem infoWord : (Tryz.prog.info? 70).map (fun i => (i.zero, i.size, i.bytes)) = some (some .nilIface, 1, 16) := by kernel_rfl
theorem infoStr : (Tryz.prog.info? 9).map (fun i => (i.zero, i.size, i.bytes)) = some (some (.string ⟨#[]⟩), 1, 16) := by kernel_rfl

/-- A word: which kind, and its two numbers. -/
def wordV : Nat × Int × Int → Value
  | (0, a, b) => .iface 105 (.agg #[.int .i64 a, .int .i64 b])
  | (1, a, b) => .iface 106 (.agg #[.int .i64 a, .int .i64 b])
  | (_, a, b) => .iface 107 (.agg #[.int .i64 a, .int .i64 b])
def wordS : Nat × Int × Int → List UInt8
  | (0, a, b) => Pk.nameT a b
  | (1, a, b) => fileS a b
  | (_, a, b) => Pk.nameT a b
def fileWs (l : List (Int × Int)) : List (Nat × Int × Int) := l.map fun x => (1, x.1, x.2)
def needWs (l : List (Int × Int)) : List (Nat × Int × Int) := l.map fun x => (2, x.1, x.2)

theorem take_map (f : Int × Int → Nat × Int × Int) (l : List (Int × Int)) (k : Nat) (h : k < l.length) : (l.take (k + 1)).map f = (l.take k).map f ++ [f (Pk.fst l k, Pk.snd l k)] := by
  rw [List.take_succ_eq_append_getElem h, List.map_append]
  simp [Pk.fst, Pk.snd, h]

/-- A row of words, or of texts, stays over whatever leaves old blocks as they were. -/
theorem own1_keep {w w' : World} {B : Nat} {t : TypeId} {v : Value} {n : Nat} {xs : List Value} (h : w.ownsRow B t 1 v n xs) (hb : ∀ g, v.ownBlock = some g → w'.heap[g]? = w.heap[g]?) : w'.ownsRow B t 1 v n xs := by
  refine ⟨h.1, ?_⟩
  rcases h.2 with hn | ⟨g, cap, cur, rfl, hb1, hgg, rest⟩
  · exact .inl hn
  · exact .inr ⟨g, cap, cur, rfl, hb1, by rw [hb g rfl]; exact hgg, rest⟩
theorem own1_later {w w' : World} {B : Nat} {t : TypeId} {v : Value} {n : Nat} {xs : List Value} (h : w.ownsRow B t 1 v n xs) (hb : Below w.heap.size w w') : w'.ownsRow B t 1 v n xs :=
  own1_keep h (fun g hg => hb.block g (h.lt g hg).2)
theorem one_word (w : World) (v : Value) (t : TypeId) (B : Nat) (hB : B ≤ w.heap.size) : (w.alloc (.cells #[v] t)).ownsRow B t 1 (.slice (some ⟨w.heap.size, 0, none⟩) 1 1) 1 [v] :=
  ⟨rfl, .inr ⟨w.heap.size, 1, #[v], rfl, hB, heap_alloc_new w _, Nat.le_refl _, by unfold maxLen; omega, rfl, rfl⟩⟩
theorem sz1w (w : World) (o : Obj) : (w.alloc o).heap.size = w.heap.size + 1 := by simp

set_option maxHeartbeats 2000000 in
set_option maxRecDepth 100000 in
theorem wordsOf_any (w : World) (nm vr : Int) (fv dv : Value) (fs ds : List (Int × Int)) (hf : Prs w fv fs) (hd : Prs w dv ds) (hfl : fs.length ≤ 2) (hdl : ds.length ≤ 2) :
    Calls Tryz.prog 38 #[.agg #[.int .i64 nm, .int .i64 vr, fv, dv]] w fun e w' => ∃ v, e = .returned v ∧ w'.ownsRow w.heap.size 70 1 v (1 + fs.length + ds.length) (((0, nm, vr) :: fileWs fs ++ needWs ds).map wordV) ∧ Below w.heap.size w w' := by
  obtain ⟨i0, hi0, hz0, hz1, hz2⟩ := info_parts infoWord
  have hB0 : Below w.heap.size w (w.alloc (.cells #[.int .i64 nm, .int .i64 vr, fv, dv] 35)) := (Below.refl _ _).alloc (Nat.le_refl _) _
  have H0 := hide (And.intro hB0 (box4 w (.int .i64 nm) (.int .i64 vr) fv dv 35))
  have HF : Hid (Prs _ _ _) := hf.later hB0
  have HD : Hid (Prs _ _ _) := hd.later hB0
  obtain ⟨fa, fc, hfv⟩ := hf.slice
  obtain ⟨da, dc, hdv⟩ := hd.slice
  subst hfv hdv
  clear hf hd hB0
  go_enter Tryz.func38, Tryz.ntmps38
  go_wp2_with fail
  generalize w.alloc _ = W0 at *
  obtain ⟨hB0, z0, _, _, x2, x3⟩ := unhide H0
  have HS : Hid (Below W0.heap.size W0 (W0.alloc (.cells #[.iface 105 (.agg #[.int .i64 nm, .int .i64 vr])] 70)) ∧ (W0.alloc (.cells #[.iface 105 (.agg #[.int .i64 nm, .int .i64 vr])] 70)).ownsRow W0.heap.size 70 1 (.slice (some ⟨W0.heap.size, 0, none⟩) 1 1) 1 [.iface 105 (.agg #[.int .i64 nm, .int .i64 vr])]) := ⟨(Below.refl _ _).alloc (Nat.le_refl _) _, one_word _ _ _ _ (Nat.le_refl _)⟩
  rw [z0] at HS
  go_loopw [3, 18] (fun s i w' => ∃ k : Nat, k ≤ fs.length ∧ i = .int .i64 k ∧ Below (w.heap.size + 1) W0 w' ∧ w'.ownsRow (w.heap.size + 1) 70 1 s (1 + k) (((0, nm, vr) :: fileWs (fs.take k)).map wordV)) (fun _ i _ => fs.length - (intOf i).toNat)
  case atStart => exact ⟨0, Nat.zero_le _, rfl, (unhide HS).1, (unhide HS).2⟩
  case round =>
    clear HS
    obtain ⟨k, hk, rfl, hw, hown⟩ := hrel
    have HW := hide hw
    have HO := hide hown
    have hz1' := hw.size
    by_cases hlt : k < fs.length
    · obtain ⟨fa', fc', e1, _, hrow⟩ := unhide HF
      injection e1 with e1 _ e3
      subst e1 e3
      obtain ⟨b, off, rfl, hbs, hc⟩ := hrow (by omega)
      obtain ⟨c1, c2⟩ := hc k hlt
      rw [z0] at hbs
      rw [← hw.cell hbs] at c1 c2
      have hbw : b < wr.heap.size := by omega
      clear hc hrow hw hown
      have hi0' : (0 : Int) ≤ (k : Int) := Int.natCast_nonneg _
      have hi1 : (k : Int) < (fs.length : Int) := by omega
      go_wp2_with (at_builtin; refine wpList_append_lies _ rfl _ _ _ rfl (w.heap.size + 1) 70 i0 _ 1 16 Tryz.underlying67 hi0 hz0 hz1 hz2 rfl (by omega) u3 (1 + k) (((0, nm, vr) :: fileWs (fs.take k)).map wordV) rfl (((unhide HO).alloc _).alloc _) ⟨wr.heap.size + 1, 0, none⟩ 1 1 [.iface 106 (.agg #[.int .i64 (Pk.fst fs k), .int .i64 (Pk.snd fs k)])] rfl rfl (World.news_of_block (cs := #[.iface 106 (.agg #[.int .i64 (Pk.fst fs k), .int .i64 (Pk.snd fs k)])]) (t := 70) (fr := (0, 0)) (by rw [← sz1w wr (.cells #[.int .i64 (Pk.fst fs k), .int .i64 (Pk.snd fs k)] 74)]; exact heap_alloc_new _ _)) (by simp [Value.oneCell']) (by omega) (by unfold maxLen; omega) (by omega) (by rw [sz1w, sz1w]; omega) (wr.heap.size + 1 + 1) (by rw [sz1w, sz1w]) ?_; intro gg cap w4 hown1 hgrow hat hlt4)
      go_roundw
      case rel => exact ⟨k + 1, by omega, by go_num, (((unhide HW).alloc (by omega) _).alloc (by rw [sz1w]; omega) _).grown hgrow (by rw [sz1w, sz1w]; omega) (fun g hg => ((unhide HO).lt g hg).1), by
        have e : ((0, nm, vr) :: fileWs (fs.take (k + 1))).map wordV = ((0, nm, vr) :: fileWs (fs.take k)).map wordV ++ [.iface 106 (.agg #[.int .i64 (Pk.fst fs k), .int .i64 (Pk.snd fs k)])] := by
          unfold fileWs
          rw [take_map _ _ _ hlt, ← List.cons_append, List.map_append]
          rfl
        rw [e, show 1 + (k + 1) = 1 + k + 1 from rfl]
        exact hown1⟩
      case measure => simp [intOf]; omega
    · obtain rfl : k = fs.length := by omega
      clear hlt
      have j3 : wr.cell? ⟨w.heap.size, 3, none⟩ = _ := (hw.cell (Nat.lt_succ_self _)).trans x3
      rw [List.take_length] at HO
      clear hw hown
      go_wp2_with fail
      go_loopw [3, 31] (fun s i w' => ∃ k : Nat, k ≤ ds.length ∧ i = .int .i64 k ∧ Below (w.heap.size + 1) W0 w' ∧ w'.ownsRow (w.heap.size + 1) 70 1 s (1 + fs.length + k) (((0, nm, vr) :: fileWs fs ++ needWs (ds.take k)).map wordV)) (fun _ i _ => ds.length - (intOf i).toNat)
      case atStart => exact ⟨0, Nat.zero_le _, rfl, unhide HW, by rw [List.take_zero]; simpa [needWs] using unhide HO⟩
      case round =>
        clear HW HO j3 hz1'
        obtain ⟨k, hk, rfl, hw, hown⟩ := hrel
        have HW := hide hw
        have HO := hide hown
        have hz1' := hw.size
        by_cases hlt : k < ds.length
        · obtain ⟨da', dc', e1, _, hrow⟩ := unhide HD
          injection e1 with e1 _ e3
          subst e1 e3
          obtain ⟨b, off, rfl, hbs, hc⟩ := hrow (by omega)
          obtain ⟨c1, c2⟩ := hc k hlt
          rw [z0] at hbs
          rw [← hw.cell hbs] at c1 c2
          have hbw : b < wr.heap.size := by omega
          clear hc hrow hw hown
          have hi0' : (0 : Int) ≤ (k : Int) := Int.natCast_nonneg _
          have hi1 : (k : Int) < (ds.length : Int) := by omega
          go_wp2_with (at_builtin; refine wpList_append_lies _ rfl _ _ _ rfl (w.heap.size + 1) 70 i0 _ 1 16 Tryz.underlying67 hi0 hz0 hz1 hz2 rfl (by omega) u3 (1 + fs.length + k) (((0, nm, vr) :: fileWs fs ++ needWs (ds.take k)).map wordV) rfl (((unhide HO).alloc _).alloc _) ⟨wr.heap.size + 1, 0, none⟩ 1 1 [.iface 107 (.agg #[.int .i64 (Pk.fst ds k), .int .i64 (Pk.snd ds k)])] rfl rfl (World.news_of_block (cs := #[.iface 107 (.agg #[.int .i64 (Pk.fst ds k), .int .i64 (Pk.snd ds k)])]) (t := 70) (fr := (0, 0)) (by rw [← sz1w wr (.cells #[.int .i64 (Pk.fst ds k), .int .i64 (Pk.snd ds k)] 76)]; exact heap_alloc_new _ _)) (by simp [Value.oneCell']) (by omega) (by unfold maxLen; omega) (by omega) (by rw [sz1w, sz1w]; omega) (wr.heap.size + 1 + 1) (by rw [sz1w, sz1w]) ?_; intro gg cap w4 hown1 hgrow hat hlt4)
          go_roundw
          case rel => exact ⟨k + 1, by omega, by go_num, (((unhide HW).alloc (by omega) _).alloc (by rw [sz1w]; omega) _).grown hgrow (by rw [sz1w, sz1w]; omega) (fun g hg => ((unhide HO).lt g hg).1), by
            have e : ((0, nm, vr) :: fileWs fs ++ needWs (ds.take (k + 1))).map wordV = ((0, nm, vr) :: fileWs fs ++ needWs (ds.take k)).map wordV ++ [.iface 107 (.agg #[.int .i64 (Pk.fst ds k), .int .i64 (Pk.snd ds k)])] := by
              unfold needWs
              rw [take_map _ _ _ hlt, ← List.append_assoc, List.map_append]
              rfl
            rw [e, show 1 + fs.length + (k + 1) = 1 + fs.length + k + 1 from rfl]
            exact hown1⟩
          case measure => simp [intOf]; omega
        · obtain rfl : k = ds.length := by omega
          rw [List.take_length] at HO
          clear hw hown hlt
          go_wp2
          go_ret
          refine ⟨_, rfl, ?_, hB0.trans ((unhide HW).mono (Nat.le_succ _))⟩
          obtain ⟨h1, h2⟩ := unhide HO
          refine ⟨h1, ?_⟩
          rcases h2 with h2 | ⟨g, cap, cur, hv, hb, rest⟩
          · exact .inl h2
          · exact .inr ⟨g, cap, cur, hv, by omega, rest⟩
end Go.Proofs.YtjehpeojdcaklaaGreatDoor
