import Derived.Test.YtlnieobmhofkdaaGreatMix11
import Derived.Test.YtlnieobmhofkdaaGreatMix2
/- What impl.PkgText returns: the text of the package, or nothing; for every package; nothing old is written. -/
namespace Go.Proofs.YtlnieobmhofkdaaGreat
open Go.RowKit

attribute [local go_sem ↓] Go.wp_at_zero Go.wp_at_succ

theorem heapLtW {w : World} {k : Nat} {o : Obj} (h : w.heap[k]? = some o) : k < w.heap.size := by
  rcases Nat.lt_or_ge k w.heap.size with h1 | h1
  · exact h1
  · rw [Array.getElem?_eq_none h1] at h; cases h

def strV (x : Nat × Int × Int) : Value := .string ⟨(wordS x).toArray⟩
/-- The numbers of a word are such as are written. -/
def WordOk : Nat × Int × Int → Prop
  | (0, a, b) => 1 ≤ a ∧ a ≤ 4 ∧ 0 ≤ b ∧ b ≤ 9
  | (1, a, b) => 0 ≤ a ∧ a ≤ 9 ∧ 0 ≤ b ∧ b ≤ 9
  | (_, a, b) => 1 ≤ a ∧ a ≤ 4 ∧ 0 ≤ b ∧ b ≤ 9

theorem own1_base {w : World} {B B' : Nat} {t : TypeId} {v : Value} {n : Nat} {xs : List Value} (h : w.ownsRow B t 1 v n xs) (hB : B' ≤ B) : w.ownsRow B' t 1 v n xs := by
  refine ⟨h.1, ?_⟩
  rcases h.2 with hn | ⟨g, cap, cur, hv, hb, rest⟩
  · exact .inl hn
  · exact .inr ⟨g, cap, cur, hv, Nat.le_trans hB hb, rest⟩
theorem fst_mem {l : List (Int × Int)} {P : Int → Int → Prop} (h : ∀ i, i < l.length → P (Pk.fst l i) (Pk.snd l i)) : ∀ x ∈ l, P x.1 x.2 := by
  intro x hx
  obtain ⟨i, hi, rfl⟩ := List.getElem_of_mem hx
  have := h i hi
  simpa [Pk.fst, Pk.snd, hi] using this
theorem words_ok {nm vr : Int} {fs ds : List (Int × Int)} (h : Pk.pkgOk nm vr fs ds = true) : ∀ x ∈ ((0, nm, vr) :: fileWs fs ++ needWs ds), WordOk x := by
  obtain ⟨⟨n0, n1⟩, ⟨v0, v1⟩, hfo, hdo⟩ := pkgOk_get h
  have fb := fst_mem (P := fun a b => (0 ≤ a ∧ a ≤ 5) ∧ (0 ≤ b ∧ b ≤ 9)) (Pk.filesOk_get hfo).2
  have db := fst_mem (P := fun a b => (1 ≤ a ∧ a ≤ 4) ∧ (1 ≤ b ∧ b ≤ 5)) (Pk.depsOk_get hdo).2
  intro x hx
  rw [List.cons_append, List.mem_cons, List.mem_append] at hx
  rcases hx with rfl | hx | hx
  · exact ⟨n0, n1, by omega, by omega⟩
  · obtain ⟨y, hy, rfl⟩ := List.mem_map.1 hx
    have := fb y hy
    exact ⟨by omega, by omega, by omega, by omega⟩
  · obtain ⟨y, hy, rfl⟩ := List.mem_map.1 hx
    have := db y hy
    exact ⟨by omega, by omega, by omega, by omega⟩
theorem take_strV (ws : List (Nat × Int × Int)) (k : Nat) (h : k < ws.length) : (ws.take (k + 1)).map strV = (ws.take k).map strV ++ [strV ws[k]] := by
  rw [List.take_succ_eq_append_getElem h, List.map_append]
  rfl

/-- Two rows of two kinds do not lie in one block. -/
theorem rows_ne {w : World} {B B' : Nat} {t t' : TypeId} {v v' : Value} {n n' : Nat} {xs xs' : List Value} (h : w.ownsRow B t 1 v n xs) (h' : w.ownsRow B' t' 1 v' n' xs') (ht : t ≠ t') : ∀ g, v.ownBlock = some g → v'.ownBlock ≠ some g := by
  intro g hg hg'
  rcases h.2 with ⟨rfl, _⟩ | ⟨g1, c1, cur1, rfl, _, hb1, _⟩
  · cases hg
  rcases h'.2 with ⟨rfl, _⟩ | ⟨g2, c2, cur2, rfl, _, hb2, _⟩
  · cases hg'
  simp only [Value.ownBlock, Option.some.injEq] at hg hg'
  subst hg hg'
  rw [hb1] at hb2
  injection hb2 with hb2
  injection hb2 with _ hb2 _
  exact ht hb2

/-- One text more behind the others, the words as they were. -/
theorem more_text {w w5 w6 : World} {H : Nat} {ws : List (Nat × Int × Int)} {v u : Value} {k gg cap : Nat} {x : Value} (hb : Below H w w5) (hH : H ≤ w5.heap.size) (h1 : w5.ownsRow H 130 1 v ws.length (ws.map wordV)) (h2 : w5.ownsRow H 9 1 u k ((ws.take k).map strV))
    (hg : (w5.alloc (.cells #[x] 9)).grownBy w6 u.ownBlock) (hx : (ws.take (k + 1)).map strV = (ws.take k).map strV ++ [x]) (ho : w6.ownsRow H 9 1 (.slice (some ⟨gg, 0, none⟩) (k + 1) cap) (k + 1) ((ws.take k).map strV ++ [x])) :
    Below H w w6 ∧ w6.ownsRow H 130 1 v ws.length (ws.map wordV) ∧ w6.ownsRow H 9 1 (.slice (some ⟨gg, 0, none⟩) (k + 1) cap) (k + 1) ((ws.take (k + 1)).map strV) := by
  refine ⟨(hb.alloc hH _).grown hg (by rw [sz1w]; omega) (fun g hg => (h2.lt g hg).1), ?_, by rw [hx]; exact ho⟩
  refine own1_keep (h1.alloc _) (fun g hv => hg.block g ((h1.alloc _).lt g hv).2 (fun e => ?_))
  exact rows_ne h1 h2 (by decide) g hv e.symm

theorem text_le (nm vr : Int) (fs ds : List (Int × Int)) : (Pk.text nm vr fs ds).length ≤ 100 := by
  cases h : Pk.pkgOk nm vr fs ds
  · rw [text_bad h]; simp
  · obtain ⟨_, _, hf, hd⟩ := pkgOk_get h
    have h1 := (Pk.filesOk_get hf).1
    have h2 := (Pk.depsOk_get hd).1
    rw [text_ok h, List.length_append, List.length_append, flat_len Pk.fileT 4 (fun _ => rfl), flat_len Pk.depT 3 (fun _ => rfl)]
    simp only [Pk.nameT, List.length_cons, List.length_nil]
    omega
theorem join_words (nm vr : Int) (fs ds : List (Int × Int)) : Lib.join ((((0, nm, vr) :: fileWs fs ++ needWs ds).map fun x => (⟨(wordS x).toArray⟩ : ByteArray)).map (·.data.toList)) (⟨#[32]⟩ : ByteArray).data.toList = Pk.nameT nm vr ++ fs.flatMap Pk.fileT ++ ds.flatMap Pk.depT := by
  rw [List.map_map, List.cons_append, List.map_cons, Lib.join_cons]
  have e1 : ∀ l : List (Int × Int), ((fileWs l).map ((fun b : ByteArray => b.data.toList) ∘ fun x => (⟨(wordS x).toArray⟩ : ByteArray))).map ((⟨#[32]⟩ : ByteArray).data.toList ++ ·) = l.map Pk.fileT := by
    intro l
    unfold fileWs
    rw [List.map_map, List.map_map]
    rfl
  have e2 : ∀ l : List (Int × Int), ((needWs l).map ((fun b : ByteArray => b.data.toList) ∘ fun x => (⟨(wordS x).toArray⟩ : ByteArray))).map ((⟨#[32]⟩ : ByteArray).data.toList ++ ·) = l.map Pk.depT := by
    intro l
    unfold needWs
    rw [List.map_map, List.map_map]
    rfl
  unfold Lib.joinTail
  rw [List.map_append, List.map_append, e1, e2, List.flatten_append, List.append_assoc]
  rfl

theorem meth0 (a b : Int) (w : World) : (method 281 134 (.agg #[.int .i64 a, .int .i64 b]) "loop.example/purser/impl.spell").run Tryz.prog w = .ok (116, .agg #[.int .i64 a, .int .i64 b]) w := by kernel_rfl
theorem meth1 (a b : Int) (w : World) : (method 281 135 (.agg #[.int .i64 a, .int .i64 b]) "loop.example/purser/impl.spell").run Tryz.prog w = .ok (132, .agg #[.int .i64 a, .int .i64 b]) w := by kernel_rfl
theorem meth2 (a b : Int) (w : World) : (method 281 136 (.agg #[.int .i64 a, .int .i64 b]) "loop.example/purser/impl.spell").run Tryz.prog w = .ok (133, .agg #[.int .i64 a, .int .i64 b]) w := by kernel_rfl

set_option maxHeartbeats 4000000 in
set_option maxRecDepth 100000 in
theorem implText_any (w : World) (nm vr : Int) (fv dv : Value) (fs ds : List (Int × Int)) (hf : Prs w fv fs) (hd : Prs w dv ds) :
    Calls Tryz.prog 86 #[.agg #[.int .i64 nm, .int .i64 vr, fv, dv]] w fun e w' => e = .returned (.string ⟨(Pk.text nm vr fs ds).toArray⟩) ∧ Below w.heap.size w w' := by
  obtain ⟨i0, hi0, hz0, hz1, hz2⟩ := info_parts infoStr
  have hB0 : Below w.heap.size w (w.alloc (.cells #[.int .i64 nm, .int .i64 vr, fv, dv] 67)) := (Below.refl _ _).alloc (Nat.le_refl _) _
  have H0 := hide (And.intro hB0 (box4 w (.int .i64 nm) (.int .i64 vr) fv dv 67))
  have HF : Hid (Prs _ _ _) := hf.later hB0
  have HD : Hid (Prs _ _ _) := hd.later hB0
  obtain ⟨fa, fc, hfv⟩ := hf.slice
  obtain ⟨da, dc, hdv⟩ := hd.slice
  subst hfv hdv
  clear hf hd hB0
  go_enter Tryz.func86, Tryz.ntmps86
  go_wp2_with fail
  refine (implPkgOk_any _ nm vr _ _ fs ds (unhide HF) (unhide HD)).mono ?_
  generalize w.alloc _ = W0 at *
  rintro e w1 ⟨rfl, hb1⟩
  obtain ⟨hB0, z0, x0, x1, x2, x3⟩ := unhide H0
  have HB1 : Hid (Below w.heap.size w w1) := hB0.trans (hb1.mono (by omega))
  cases hok : Pk.pkgOk nm vr fs ds
  · have HT := hide (text_bad hok)
    clear H0 hB0 z0 x0 x1 x2 x3 hb1
    go_wp2
    go_ret
    exact ⟨ret_str (by rw [unhide HT]), unhide HB1⟩
  · have hlt0 : w.heap.size < W0.heap.size := by omega
    have HOK := hide hok
    obtain ⟨⟨n0, n1⟩, ⟨v0, v1⟩, hfo, hdo⟩ := pkgOk_get hok
    obtain ⟨fl, fb⟩ := Pk.filesOk_get hfo
    obtain ⟨dl, db⟩ := Pk.depsOk_get hdo
    have FB := hide fb
    have DB := hide db
    have k0 : w1.cell? ⟨w.heap.size, 0, none⟩ = _ := (hb1.cell hlt0).trans x0
    have k1 : w1.cell? ⟨w.heap.size, 1, none⟩ = _ := (hb1.cell hlt0).trans x1
    have k2 : w1.cell? ⟨w.heap.size, 2, none⟩ = _ := (hb1.cell hlt0).trans x2
    have k3 : w1.cell? ⟨w.heap.size, 3, none⟩ = _ := (hb1.cell hlt0).trans x3
    have P1 : Hid (Prs w1 _ _) := (unhide HF).later hb1
    have P2 : Hid (Prs w1 _ _) := (unhide HD).later hb1
    have hbk : w.heap.size < w1.heap.size := Nat.lt_of_lt_of_le hlt0 hb1.size
    clear H0 hB0 z0 x0 x1 x2 x3 hb1 fb db hfo hdo HF HD hlt0
    clear W0
    go_wp2_with fail
    have hb2 : Below w1.heap.size w1 (w1.alloc (.cells #[] 9)) := (Below.refl _ _).alloc (Nat.le_refl _) _
    have HE := hide (heap_alloc_new w1 (.cells #[] 9))
    have HB2 := hide hb2
    refine (wordsOf_any _ nm vr _ _ fs ds ((unhide P1).later hb2) ((unhide P2).later hb2) fl dl).mono ?_
    generalize w1.alloc _ = W2 at *
    rintro e w3 ⟨v, rfl, hown, hb3⟩
    obtain ⟨ws, hws⟩ : ∃ ws, ((0, nm, vr) :: fileWs fs ++ needWs ds) = ws := ⟨_, rfl⟩
    have hlen : ws.length = 1 + fs.length + ds.length := by rw [← hws]; simp [fileWs, needWs]; omega
    rw [hws, ← hlen] at hown
    have HWS := hide hws
    clear hws
    obtain ⟨g, cap, rfl, hg1, hg2⟩ := hown.form (by omega)
    have hle : ws.length ≤ 5 := by omega
    have HPOS : Hid (0 < ws.length) := by show 0 < ws.length; omega
    have hzz := hb2.size
    have hs0 : w3.ownsRow w.heap.size 9 1 (.slice (some ⟨w1.heap.size, 0, none⟩) 0 0) 0 [] := ⟨rfl, .inr ⟨w1.heap.size, 0, #[], rfl, by omega, by rw [hb3.block _ (by have := heapLtW (unhide HE); omega)]; exact unhide HE, Nat.le_refl _, by unfold maxLen; omega, rfl, rfl⟩⟩
    have HS0 := hide hs0
    have HO : Hid (w3.ownsRow w.heap.size _ _ _ _ _) := own1_base hown (by omega)
    have HB3 : Hid (Below w.heap.size w w3) := (unhide HB1).trans ((hb2.mono (by omega)).trans (hb3.mono (by omega)))
    have HWO := hide (words_ok (unhide HOK))
    rw [unhide HWS] at HWO
    clear hown hb2 hb3 HE HB2 hs0 HB1 P1 P2 k0 k1 k2 k3 hg1 hg2 hlen FB DB hzz
    clear W2
    generalize w1.heap.size = b1 at *
    go_wp2_with fail
    go_loopw [3, 13] (fun s i w' => ∃ k : Nat, k ≤ ws.length ∧ i = .int .i64 k ∧ Below w.heap.size w w' ∧ w'.ownsRow w.heap.size 130 1 (.slice (some ⟨g, 0, none⟩) ws.length cap) ws.length (ws.map wordV) ∧ w'.ownsRow w.heap.size 9 1 s k ((ws.take k).map strV)) (fun _ i _ => ws.length - (intOf i).toNat)
    case atStart => exact ⟨0, Nat.zero_le _, rfl, unhide HB3, unhide HO, unhide HS0⟩
    case round =>
      clear HS0 HO HB3
      obtain ⟨k, hk, rfl, hw, ho1, ho2⟩ := hrel
      have HW := hide hw
      have HO1 := hide ho1
      have HO2 := hide ho2
      have hzw := hw.size
      by_cases hlt : k < ws.length
      · have hc : wr.cell? ⟨g, k, none⟩ = some (wordV ws[k]) := by
          have := ho1.cells (g := g) rfl k (wordV ws[k]) (by simp [hlt])
          have hadd : (⟨g, 0, none⟩ : Addr).add k = ⟨g, k, none⟩ := by unfold Addr.add; split <;> simp_all
          rwa [hadd] at this
        have hwo := (unhide HWO) ws[k] (List.getElem_mem hlt)
        have HT := hide (take_strV ws k hlt)
        clear hw ho1 ho2
        have hi0' : (0 : Int) ≤ (k : Int) := Int.natCast_nonneg _
        have hi1 : (k : Int) < (ws.length : Int) := by omega
        generalize ws[k] = x at *
        obtain ⟨kd, a, b⟩ := x
        match kd, hwo with
        | 0, ⟨p0, p1, p2, p3⟩ =>
          have hc' : wr.cell? ⟨g, k, none⟩ = some (.iface 134 (.agg #[.int .i64 a, .int .i64 b])) := hc
          clear hc
          have hm := meth0 a b wr
          go_wp2_with fail
          refine (headSpell_any a b _ p0 p1 p2 p3).mono ?_
          rintro e w5 ⟨rfl, hb5⟩
          have HW5 : Hid (Below w.heap.size w w5) := (unhide HW).trans (hb5.mono hzw)
          have HO5 : Hid (w5.ownsRow _ _ _ _ _ _) := own1_later (unhide HO1) hb5
          have HP5 : Hid (w5.ownsRow _ _ _ _ _ _) := own1_later (unhide HO2) hb5
          have hz5 : w.heap.size ≤ w5.heap.size := (unhide HW5).size
          clear hb5 HW HO1 HO2 hm hc'
          go_wp2_with (at_builtin; refine wpList_append_lies _ rfl _ _ _ rfl w.heap.size 9 i0 _ 1 16 Tryz.underlying126 hi0 hz0 hz1 hz2 rfl (by omega) u3 k ((ws.take k).map strV) rfl ((unhide HP5).alloc _) ⟨w5.heap.size, 0, none⟩ 1 1 [.string ⟨(Pk.nameT a b).toArray⟩] rfl rfl (World.news_of_block (cs := #[.string ⟨(Pk.nameT a b).toArray⟩]) (t := 9) (fr := (0, 0)) (heap_alloc_new _ _)) (by simp [Value.oneCell']) (by omega) (by unfold maxLen; omega) (by omega) (by rw [sz1w]; omega) (w5.heap.size + 1) (by rw [sz1w]) ?_; intro gg cap' w6 hown1 hgrow hat hlt4)
          obtain ⟨r1, r2, r3⟩ := more_text (unhide HW5) hz5 (unhide HO5) (unhide HP5) hgrow (unhide HT) hown1
          go_roundw
          case rel => exact ⟨k + 1, by omega, by go_num, r1, r2, r3⟩
          case measure => simp [intOf]; omega
        | 1, ⟨p0, p1, p2, p3⟩ =>
          have hc' : wr.cell? ⟨g, k, none⟩ = some (.iface 135 (.agg #[.int .i64 a, .int .i64 b])) := hc
          clear hc
          have hm := meth1 a b wr
          go_wp2_with fail
          refine (fileSpell_any a b _ p0 p1 p2 p3).mono ?_
          rintro e w5 ⟨rfl, hb5⟩
          have HW5 : Hid (Below w.heap.size w w5) := (unhide HW).trans (hb5.mono hzw)
          have HO5 : Hid (w5.ownsRow _ _ _ _ _ _) := own1_later (unhide HO1) hb5
          have HP5 : Hid (w5.ownsRow _ _ _ _ _ _) := own1_later (unhide HO2) hb5
          have hz5 : w.heap.size ≤ w5.heap.size := (unhide HW5).size
          clear hb5 HW HO1 HO2 hm hc'
          go_wp2_with (at_builtin; refine wpList_append_lies _ rfl _ _ _ rfl w.heap.size 9 i0 _ 1 16 Tryz.underlying126 hi0 hz0 hz1 hz2 rfl (by omega) u3 k ((ws.take k).map strV) rfl ((unhide HP5).alloc _) ⟨w5.heap.size, 0, none⟩ 1 1 [.string ⟨(fileS a b).toArray⟩] rfl rfl (World.news_of_block (cs := #[.string ⟨(fileS a b).toArray⟩]) (t := 9) (fr := (0, 0)) (heap_alloc_new _ _)) (by simp [Value.oneCell']) (by omega) (by unfold maxLen; omega) (by omega) (by rw [sz1w]; omega) (w5.heap.size + 1) (by rw [sz1w]) ?_; intro gg cap' w6 hown1 hgrow hat hlt4)
          obtain ⟨r1, r2, r3⟩ := more_text (unhide HW5) hz5 (unhide HO5) (unhide HP5) hgrow (unhide HT) hown1
          go_roundw
          case rel => exact ⟨k + 1, by omega, by go_num, r1, r2, r3⟩
          case measure => simp [intOf]; omega
        | n + 2, ⟨p0, p1, p2, p3⟩ =>
          have hc' : wr.cell? ⟨g, k, none⟩ = some (.iface 136 (.agg #[.int .i64 a, .int .i64 b])) := hc
          clear hc
          have hm := meth2 a b wr
          go_wp2_with fail
          refine (needSpell_any a b _ p0 p1 p2 p3).mono ?_
          rintro e w5 ⟨rfl, hb5⟩
          have HW5 : Hid (Below w.heap.size w w5) := (unhide HW).trans (hb5.mono hzw)
          have HO5 : Hid (w5.ownsRow _ _ _ _ _ _) := own1_later (unhide HO1) hb5
          have HP5 : Hid (w5.ownsRow _ _ _ _ _ _) := own1_later (unhide HO2) hb5
          have hz5 : w.heap.size ≤ w5.heap.size := (unhide HW5).size
          clear hb5 HW HO1 HO2 hm hc'
          go_wp2_with (at_builtin; refine wpList_append_lies _ rfl _ _ _ rfl w.heap.size 9 i0 _ 1 16 Tryz.underlying126 hi0 hz0 hz1 hz2 rfl (by omega) u3 k ((ws.take k).map strV) rfl ((unhide HP5).alloc _) ⟨w5.heap.size, 0, none⟩ 1 1 [.string ⟨(Pk.nameT a b).toArray⟩] rfl rfl (World.news_of_block (cs := #[.string ⟨(Pk.nameT a b).toArray⟩]) (t := 9) (fr := (0, 0)) (heap_alloc_new _ _)) (by simp [Value.oneCell']) (by omega) (by unfold maxLen; omega) (by omega) (by rw [sz1w]; omega) (w5.heap.size + 1) (by rw [sz1w]) ?_; intro gg cap' w6 hown1 hgrow hat hlt4)
          obtain ⟨r1, r2, r3⟩ := more_text (unhide HW5) hz5 (unhide HO5) (unhide HP5) hgrow (unhide HT) hown1
          go_roundw
          case rel => exact ⟨k + 1, by omega, by go_num, r1, r2, r3⟩
          case measure => simp [intOf]; omega
      · obtain rfl : k = ws.length := by omega
        rw [List.take_length] at HO2
        clear hlt hw ho1 ho2
        obtain ⟨g2, cap2, rfl, hg1, hg2⟩ := (unhide HO2).form (by have := unhide HPOS; omega)
        have hj := Tryz.strings_Join g2 0 cap2 (ws.map fun x => (⟨(wordS x).toArray⟩ : ByteArray)) ⟨#[32]⟩ wr (fun j x hx => by
          have hx' : (ws.map strV)[j]? = some (.string x) := by
            rw [List.getElem?_map] at hx ⊢
            cases h : ws[j]? with
            | none => rw [h] at hx; cases hx
            | some y => rw [h] at hx; injection hx with hx; rw [← hx]; rfl
          have := (unhide HO2).cells (g := g2) rfl j _ hx'
          have hadd : (⟨g2, 0, none⟩ : Addr).add j = ⟨g2, 0 + j, none⟩ := by unfold Addr.add; split <;> simp_all
          rwa [hadd] at this) hg2 (by rw [List.length_map]; omega) (by
          rw [List.length_map]
          rcases (unhide HO2).2 with ⟨h, _⟩ | ⟨g3, c3, cur, h, _, _, hc, _⟩
          · cases h
          · injection h with _ _ h; rw [h]; exact hc) (by
          rw [← unhide HWS, join_words, ← text_ok (unhide HOK)]
          exact Nat.le_trans (text_le nm vr fs ds) (by omega))
        rw [List.length_map, ← unhide HWS, join_words, ← text_ok (unhide HOK), unhide HWS] at hj
        have HJ := hide hj
        clear hj
        go_wp2_with fail
        refine (unhide HJ).mono ?_
        rintro e w7 ⟨rfl, hb7⟩
        have HB7 : Hid (Below w.heap.size w w7) := (unhide HW).trans (hb7.mono hzw)
        clear hb7
        go_wp2
        go_ret
        exact ⟨rfl, unhide HB7⟩
end Go.Proofs.YtlnieobmhofkdaaGreat
