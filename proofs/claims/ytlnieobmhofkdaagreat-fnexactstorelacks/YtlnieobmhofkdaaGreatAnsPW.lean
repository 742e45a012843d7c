/- A row of packages that is answered with, all its rows its own, no two in one block: the laws' markPkgS lays marks into these blocks alone, and heldPkgS reads them again. -/
import Derived.Test.YtlnieobmhofkdaaGreatPksMarkW
import Derived.Test.YtlnieobmhofkdaaGreatCopyPW
import Derived.Test.YtlnieobmhofkdaaGreatRowNW
namespace Go.Proofs.YtlnieobmhofkdaaGreat
open Go.RowKit

/-- The blocks of a row of packages. -/
def blkP (v : Value) (l : List El) (g : Nat) : Prop := v.ownBlock = some g ∨ ∃ e ∈ l, e.2.1.ownBlock = some g ∨ e.2.2.ownBlock = some g
/-- Two packages lie apart. -/
def farE (a b : El) : Prop := (∀ g, a.2.1.ownBlock = some g → b.2.1.ownBlock ≠ some g) ∧ ∀ g, a.2.2.ownBlock = some g → b.2.2.ownBlock ≠ some g
structure PAns (B : Nat) (w : World) (v : Value) (l : List El) : Prop where
  own : w.ownsRow B 67 4 v l.length (flat4 l)
  el : ∀ e ∈ l, OwP B w e.2.1 e.2.2 e.1.2.2.1 e.1.2.2.2
  apart : l.Pairwise farE
theorem farE.symm {a b : El} (h : farE a b) : farE b a := ⟨fun g h1 h2 => h.1 g h2 h1, fun g h1 h2 => h.2 g h2 h1⟩
theorem PAns.lt {B : Nat} {w : World} {v : Value} {l : List El} (h : PAns B w v l) : ∀ g, blkP v l g → B ≤ g ∧ g < w.heap.size := fun g hg => by
  rcases hg with hg | ⟨e, he, hg | hg⟩
  · exact h.own.lt g hg
  · exact (h.el e he).f.lt g hg
  · exact (h.el e he).d.lt g hg
theorem PAns.keep {B : Nat} {w w' : World} {v : Value} {l : List El} (h : PAns B w v l) (hb : ∀ g, blkP v l g → w'.heap[g]? = w.heap[g]?) : PAns B w' v l :=
  ⟨own_keepS h.own (fun g _ hg _ _ => hb g (.inl hg)), fun e he => ⟨own_keepS (h.el e he).f (fun g _ hg _ _ => hb g (.inr ⟨e, he, .inl hg⟩)), own_keepS (h.el e he).d (fun g _ hg _ _ => hb g (.inr ⟨e, he, .inr hg⟩))⟩, h.apart⟩
theorem PAns.later {B : Nat} {w w' : World} {v : Value} {l : List El} (h : PAns B w v l) (hb : Below w.heap.size w w') : PAns B w' v l := h.keep (fun g hg => hb.block g (h.lt g hg).2)
theorem PAns.stays {N : Nat → Prop} {B : Nat} {w w' : World} {v : Value} {l : List El} (h : PAns B w v l) (hs : Stays N w w') (hN : ∀ g, blkP v l g → ¬ N g) : PAns B w' v l := h.keep (fun g hg => hs.block g (h.lt g hg).2 (hN g hg))
theorem PAns.base {B B' : Nat} {w : World} {v : Value} {l : List El} (h : PAns B w v l) (hB : B' ≤ B) : PAns B' w v l := ⟨own_base' h.own hB, fun e he => (h.el e he).base hB, h.apart⟩
theorem PAns.nil (B : Nat) (w : World) : PAns B w (.slice none 0 0) [] := ⟨World.ownsRow_nil _ _ _ _, fun _ he => (by cases he), List.Pairwise.nil⟩
theorem Prs.toN {w : World} {B : Nat} {t : TypeId} {v : Value} {l : List (Int × Int)} (h : w.ownsRow B t 2 v l.length (flat l)) (hl : l.length ≤ 1000) : PrsN (fun b => B ≤ b) w v l := PrsN.own h (by omega) (fun _ hb => hb)
theorem PAns.pks {B : Nat} {w : World} {v : Value} {l : List El} (h : PAns B w v l) (hl : l.length ≤ 1000) (hls : ∀ e ∈ l, e.1.2.2.1.length ≤ 1000 ∧ e.1.2.2.2.length ≤ 1000) : Pks (fun b => B ≤ b) w v (l.map (·.1)) :=
  POwn.pks (B := B) ⟨h.own, fun e he => ⟨Prs.toN (h.el e he).f (hls e he).1, Prs.toN (h.el e he).d (hls e he).2⟩⟩ (fun _ hb => hb) (by omega)
/-- One more behind, all of it new. -/
theorem PAns.snoc {B : Nat} {w w2 : World} {v v' : Value} {l : List El} {e : El} (h : PAns B w v l) (hg : w.grownBy w2 v.ownBlock) (ho : w2.ownsRow B 67 4 v' (l.length + 1) (flat4 l ++ [.int .i64 e.1.1, .int .i64 e.1.2.1, e.2.1, e.2.2]))
    (he : OwP B w e.2.1 e.2.2 e.1.2.2.1 e.1.2.2.2) (hf : ∀ x ∈ l, farE x e) : PAns B w2 v' (l ++ [e]) := by
  have kp : ∀ {fv dv : Value} {fs ds : List (Int × Int)}, OwP B w fv dv fs ds → OwP B w2 fv dv fs ds := fun hp => ⟨own_keepS hp.f (fun g _ _ _ hgg => grown_other h.own hg hgg (by decide)), own_keepS hp.d (fun g _ _ _ hgg => grown_other h.own hg hgg (by decide))⟩
  refine ⟨by rw [flat4_snoc, List.length_append]; exact ho, fun x hx => ?_, List.pairwise_append.2 ⟨h.apart, List.pairwise_singleton _ _, fun a ha b hb => by rw [List.mem_singleton] at hb; rw [hb]; exact hf a ha⟩⟩
  rcases List.mem_append.1 hx with hx | hx
  · exact kp (h.el x hx)
  · rw [List.mem_singleton] at hx
    rw [hx]
    exact kp he
/-- What is new lies apart from what was there. -/
theorem farE.new {B : Nat} {w w' : World} {a e : El} (ha : OwP B w a.2.1 a.2.2 a.1.2.2.1 a.1.2.2.2) (he : OwP w.heap.size w' e.2.1 e.2.2 e.1.2.2.1 e.1.2.2.2) : farE a e :=
  ⟨fun g h1 h2 => by have := (ha.f.lt g h1).2; have := (he.f.lt g h2).1; omega, fun g h1 h2 => by have := (ha.d.lt g h1).2; have := (he.d.lt g h2).1; omega⟩

/-- Marks. -/
def markE (k : Int) (e : El) : El := ((k, k + 1, marks (k + 1 + 1) e.1.2.2.1.length, marks (k + 1 + 1 + 2 * (e.1.2.2.1.length : Int)) e.1.2.2.2.length), e.2)
def stepE (k : Int) (e : El) : Int := k + 1 + 1 + 2 * (e.1.2.2.1.length : Int) + 2 * (e.1.2.2.2.length : Int)
def markK (k : Int) (l : List El) : Int := l.foldl stepE k
def markL : Int → List El → List El
  | _, [] => []
  | k, e :: t => markE k e :: markL (stepE k e) t
theorem markL_len : ∀ (l : List El) (k : Int), (markL k l).length = l.length
  | [], _ => rfl
  | e :: t, k => by show (markL (stepE k e) t).length + 1 = _; rw [markL_len t]; rfl
theorem markL_app : ∀ (a b : List El) (k : Int), markL k (a ++ b) = markL k a ++ markL (markK k a) b
  | [], _, _ => rfl
  | e :: t, b, k => by show markE k e :: markL (stepE k e) (t ++ b) = _; rw [markL_app t b]; rfl
theorem markK_snoc (a : List El) (e : El) (k : Int) : markK k (a ++ [e]) = stepE (markK k a) e := by unfold markK; rw [List.foldl_append]; rfl
theorem markL_blk : ∀ (l : List El) (k : Int), ∀ x ∈ markL k l, ∃ e ∈ l, x.2 = e.2
  | [], _, _, hx => by cases hx
  | e :: t, k, x, hx => by
    rcases List.mem_cons.1 hx with rfl | hx
    · exact ⟨e, List.mem_cons_self, rfl⟩
    · obtain ⟨y, hy, e2⟩ := markL_blk t _ x hx
      exact ⟨y, List.mem_cons_of_mem _ hy, e2⟩
theorem markK_le : ∀ (l : List El) (k : Int), (∀ e ∈ l, e.1.2.2.1.length ≤ 1000 ∧ e.1.2.2.2.length ≤ 1000) → k ≤ markK k l ∧ markK k l ≤ k + 5000 * l.length
  | [], _, _ => by unfold markK; simp
  | e :: t, k, h => by
    obtain ⟨h1, h2⟩ := markK_le t (stepE k e) (fun x hx => h x (List.mem_cons_of_mem _ hx))
    have h3 := h e List.mem_cons_self
    have e1 : markK k (e :: t) = markK (stepE k e) t := rfl
    rw [e1]
    unfold stepE at h1 h2 ⊢
    simp only [List.length_cons]
    omega
theorem markL_at {l : List El} {j : Nat} (k : Int) (hj : j < l.length) : (markL k l)[j]? = some (markE (markK k (l.take j)) l[j]) := by
  have e0 : l = l.take j ++ l[j] :: l.drop (j + 1) := by rw [← List.drop_eq_getElem_cons hj, List.take_append_drop]
  have e1 : markL k l = markL k (l.take j) ++ markE (markK k (l.take j)) l[j] :: markL (stepE (markK k (l.take j)) l[j]) (l.drop (j + 1)) := by
    conv => lhs; rw [e0]
    rw [markL_app]
    rfl
  rw [e1, List.getElem?_append_right (by rw [markL_len, List.length_take]; omega), markL_len, List.length_take, Nat.min_eq_left (by omega), Nat.sub_self]
  rfl
/-- The packages, the first so many of them marked. -/
def markTo (k : Int) (l : List El) (j : Nat) : List El := markL k (l.take j) ++ l.drop j
theorem markTo_len (k : Int) (l : List El) {j : Nat} (hj : j ≤ l.length) : (markTo k l j).length = l.length := by
  unfold markTo
  rw [List.length_append, markL_len, List.length_take, List.length_drop]
  omega
theorem markTo_at {k : Int} {l : List El} {j : Nat} (hj : j < l.length) : markTo k l j = markL k (l.take j) ++ l[j] :: l.drop (j + 1) ∧ markTo k l (j + 1) = markL k (l.take j) ++ markE (markK k (l.take j)) l[j] :: l.drop (j + 1) := by
  refine ⟨?_, ?_⟩
  · unfold markTo
    rw [← List.drop_eq_getElem_cons hj]
  · unfold markTo
    have : l.take (j + 1) = l.take j ++ [l[j]] := by rw [List.take_add_one, List.getElem?_eq_getElem hj]; rfl
    rw [this, markL_app, List.append_assoc]
    rfl
theorem markTo_blk {k : Int} {l : List El} {j : Nat} {v : Value} {g : Nat} (h : blkP v (markTo k l j) g) : blkP v l g := by
  rcases h with h | ⟨x, hx, h⟩
  · exact .inl h
  · refine .inr ?_
    unfold markTo at hx
    rcases List.mem_append.1 hx with hx | hx
    · obtain ⟨e, he, e2⟩ := markL_blk _ _ x hx
      exact ⟨e, List.mem_of_mem_take he, by rw [← e2]; exact h⟩
    · exact ⟨x, List.mem_of_mem_drop hx, h⟩
theorem flat4_appA (a b : List El) : flat4 (a ++ b) = flat4 a ++ flat4 b := by unfold flat4; rw [List.flatMap_append]
theorem flat4_lenA : ∀ l : List El, (flat4 l).length = l.length * 4
  | [] => rfl
  | e :: t => by
    have := flat4_lenA t
    show (Value.int .i64 e.1.1 :: .int .i64 e.1.2.1 :: e.2.1 :: e.2.2 :: flat4 t).length = _
    simp only [List.length_cons, this]
    omega
theorem flat4_mark (A T : List El) (e : El) (k : Int) : ((flat4 (A ++ e :: T)).set (A.length * 4) (.int .i64 k)).set (A.length * 4 + 1) (.int .i64 (k + 1)) = flat4 (A ++ markE k e :: T) := by
  rw [flat4_appA, flat4_appA, List.set_append_right _ _ (by rw [flat4_lenA]; exact Nat.le_refl _), List.set_append_right _ _ (by rw [flat4_lenA]; omega), flat4_lenA, Nat.sub_self, Nat.add_sub_cancel_left]
  rfl
theorem PAns.mark {B : Nat} {w w1 w2 w3 : World} {v : Value} {A T : List El} {e : El} {k : Int} (h : PAns B w v (A ++ e :: T))
    (h1 : w1.ownsRow B 67 4 v (A ++ e :: T).length (flat4 (A ++ markE k e :: T))) (g1 : w.grownBy w1 v.ownBlock)
    (h2 : w2.ownsRow B 96 2 e.2.1 e.1.2.2.1.length (flat (marks (k + 1 + 1) e.1.2.2.1.length))) (g2 : w1.grownBy w2 e.2.1.ownBlock)
    (h3 : w3.ownsRow B 98 2 e.2.2 e.1.2.2.2.length (flat (marks (k + 1 + 1 + 2 * (e.1.2.2.1.length : Int)) e.1.2.2.2.length))) (g3 : w2.grownBy w3 e.2.2.ownBlock) :
    PAns B w3 v (A ++ markE k e :: T) ∧ Stays (blkP v (A ++ e :: T)) w w3 := by
  have he : e ∈ A ++ e :: T := by simp
  have hE := h.el e he
  -- what lies apart stays
  have far : ∀ j, j < w.heap.size → v.ownBlock ≠ some j → e.2.1.ownBlock ≠ some j → e.2.2.ownBlock ≠ some j → w3.heap[j]? = w.heap[j]? := fun j hj a b c =>
    (g3.block j (Nat.lt_of_lt_of_le hj (Nat.le_trans g1.size g2.size)) (fun x => c x.symm)).trans ((g2.block j (Nat.lt_of_lt_of_le hj g1.size) (fun x => b x.symm)).trans (g1.block j hj (fun x => a x.symm)))
  obtain ⟨pA, pT, pX⟩ := List.pairwise_append.1 h.apart
  obtain ⟨pe, pT⟩ := List.pairwise_cons.1 pT
  have keepX : ∀ x, x ∈ A ++ e :: T → (farE e x) → OwP B w3 x.2.1 x.2.2 x.1.2.2.1 x.1.2.2.2 := fun x hx hf => by
    have hX := h.el x hx
    exact ⟨own_keepS hX.f (fun g _ hg _ hgg => far g (heapLt hgg) (own_ne h.own hgg (by decide)) (fun e2 => hf.1 g e2 hg) (own_ne hE.d hgg (by decide))),
      own_keepS hX.d (fun g _ hg _ hgg => far g (heapLt hgg) (own_ne h.own hgg (by decide)) (own_ne hE.f hgg (by decide)) (fun e2 => hf.2 g e2 hg))⟩
  have o2 : w3.ownsRow B 96 2 e.2.1 e.1.2.2.1.length (flat (marks (k + 1 + 1) e.1.2.2.1.length)) := own_keepS h2 (fun g _ hg _ hgg => g3.block g (heapLt hgg) (fun x => by
    have hg' := g2.block
    obtain ⟨_, c, hc⟩ := own_row hE.d g x.symm
    obtain ⟨_, c', hc'⟩ := own_row hE.f g hg
    rw [hc] at hc'
    injection hc' with hc'
    injection hc' with _ hc' _
    revert hc'
    decide))
  have oV : w3.ownsRow B 67 4 v (A ++ markE k e :: T).length (flat4 (A ++ markE k e :: T)) := by
    have el : (A ++ markE k e :: T).length = (A ++ e :: T).length := by simp
    rw [el]
    exact own_keepS h1 (fun g _ hg _ hgg => by
      obtain ⟨_, c, hc⟩ := own_row h.own g hg
      exact (g3.block g (Nat.lt_of_lt_of_le (heapLt hgg) g2.size) (fun x => own_ne hE.d hc (by decide) x.symm)).trans (g2.block g (heapLt hgg) (fun x => own_ne hE.f hc (by decide) x.symm)))
  refine ⟨⟨oV, fun x hx => ?_, ?_⟩, ⟨g3.os.trans (g2.os.trans g1.os), g3.tape.trans (g2.tape.trans g1.tape), g3.output.trans (g2.output.trans g1.output), Nat.le_trans g1.size (Nat.le_trans g2.size g3.size), fun j hj hn => far j hj (fun x => hn (.inl x)) (fun x => hn (.inr ⟨e, he, .inl x⟩)) (fun x => hn (.inr ⟨e, he, .inr x⟩))⟩⟩
  · rcases List.mem_append.1 hx with hx | hx
    · exact keepX x (List.mem_append_left _ hx) (pX x hx e List.mem_cons_self).symm
    · rcases List.mem_cons.1 hx with rfl | hx
      · refine ⟨?_, ?_⟩
        · show w3.ownsRow B _ 2 e.2.1 (marks _ _).length (flat (marks _ _))
          rw [marks_len]
          exact o2
        · show w3.ownsRow B _ 2 e.2.2 (marks _ _).length (flat (marks _ _))
          rw [marks_len]
          exact h3
      · exact keepX x (List.mem_append_right _ (List.mem_cons_of_mem _ hx)) (pe x hx)
  · refine List.pairwise_append.2 ⟨pA, List.pairwise_cons.2 ⟨fun x hx => pe x hx, pT⟩, fun a ha b hb => ?_⟩
    rcases List.mem_cons.1 hb with rfl | hb
    · exact pX a ha e List.mem_cons_self
    · exact pX a ha b (List.mem_cons_of_mem _ hb)

set_option maxHeartbeats 4000000 in
set_option maxRecDepth 100000 in
theorem markPkgS_own (w : World) (v : Value) (l : List El) (B : Nat) (k : Int) (h : PAns B w v l) (hl : l.length ≤ 1000) (hls : ∀ e ∈ l, e.1.2.2.1.length ≤ 1000 ∧ e.1.2.2.2.length ≤ 1000) (k0 : 0 ≤ k) (k1 : k ≤ 1000000000) :
    Calls Tryz.prog 14 #[v, .int .i64 k] w fun e w' => e = .returned (.int .i64 (markK k l)) ∧ PAns B w' v (markL k l) ∧ Stays (blkP v l) w w' := by
  obtain ⟨a, cap, rfl⟩ := own_formS h.own
  have H := hide h
  have HLS := hide hls
  clear h hls
  go_enter Tryz.func14, Tryz.ntmps14
  go_wp2_with fail
  go_loopw [1, 5] (fun kv i w' => ∃ j : Nat, j ≤ l.length ∧ i = .int .i64 j ∧ kv = .int .i64 (markK k (l.take j)) ∧ PAns B w' (.slice a l.length cap) (markTo k l j) ∧ Stays (blkP (.slice a l.length cap) l) w w') (fun _ i _ => l.length - (intOf i).toNat)
  case atStart => exact ⟨0, Nat.zero_le _, rfl, rfl, unhide H, Stays.refl _ _⟩
  case round =>
    clear H
    obtain ⟨j, hj, rfl, rfl, hP, hS⟩ := hrel
    have HS := hide hS
    clear hS
    by_cases hlt : j < l.length
    · obtain ⟨e0, e1⟩ := markTo_at (k := k) hlt
      have hkk := markK_le (l.take j) k (fun e he => unhide HLS e (List.mem_of_mem_take he))
      rw [List.length_take, Nat.min_eq_left (by omega)] at hkk
      have hlsj := unhide HLS l[j] (List.getElem_mem hlt)
      have hks : markK k (l.take (j + 1)) = stepE (markK k (l.take j)) l[j] := by
        rw [List.take_add_one, List.getElem?_eq_getElem hlt]
        exact markK_snoc _ _ _
      have HKS := hide hks
      rw [e0] at hP
      have HE1 := hide e1
      have hbl : ∀ g, blkP (.slice a l.length cap) (markL k (l.take j) ++ l[j] :: l.drop (j + 1)) g → blkP (.slice a l.length cap) l g := fun g hg => by rw [← e0] at hg; exact markTo_blk hg
      have HBL := hide hbl
      have hAl : (markL k (l.take j)).length = j := by rw [markL_len, List.length_take]; omega
      have hml : (markL k (l.take j) ++ l[j] :: l.drop (j + 1)).length = l.length := by rw [← e0]; exact markTo_len k l hj
      clear e0 e1 hks hbl
      generalize hkj : markK k (l.take j) = kj at *
      generalize markL k (l.take j) = A at *
      generalize l.drop (j + 1) = T at *
      clear hkj
      obtain ⟨⟨⟨nm, vr, fs, ds⟩, fv, dv⟩, hej⟩ : ∃ e : El, l[j] = e := ⟨_, rfl⟩
      rw [hej] at hP hlsj HE1 HBL HKS hml
      clear hej
      dsimp only at hlsj
      obtain ⟨fa, fc, da, dc, hfv, hdv⟩ := (hP.el _ (by simp : ((nm, vr, fs, ds), fv, dv) ∈ A ++ ((nm, vr, fs, ds), fv, dv) :: T)).forms
      dsimp only at hfv hdv
      subst hfv hdv
      have hown := hP.own
      rw [hml] at hown
      obtain ⟨gb, cp, e, hBg, hgl⟩ := hown.form (by omega)
      injection e with e1 _ e3
      subst e1 e3
      have hmark := flat4_mark A T ((nm, vr, fs, ds), .slice fa fs.length fc, .slice da ds.length dc) kj
      rw [hAl] at hmark
      have hcell := flat4_at (A ++ ((nm, vr, fs, ds), .slice fa fs.length fc, .slice da ds.length dc) :: T) j ((nm, vr, fs, ds), .slice fa fs.length fc, .slice da ds.length dc) (by rw [List.getElem?_append_right (by omega), hAl, Nat.sub_self]; rfl)
      obtain ⟨t0, t1, t2, t3⟩ := hcell
      have c0 : wr.cell? ⟨gb, j * 4, none⟩ = some (.int .i64 nm) := by rw [hown.cellAt _ (by omega)]; exact t0
      have c1 : wr.cell? ⟨gb, j * 4 + 1, none⟩ = some (.int .i64 vr) := by rw [hown.cellAt _ (by omega)]; exact t1
      have c2 : wr.cell? ⟨gb, j * 4 + 2, none⟩ = some (.slice fa fs.length fc) := by rw [hown.cellAt _ (by omega)]; exact t2
      have c3 : wr.cell? ⟨gb, j * 4 + 3, none⟩ = some (.slice da ds.length dc) := by rw [hown.cellAt _ (by omega)]; exact t3
      have f0 : wr.frozen? ⟨gb, j * 4, none⟩ = false := hown.frozenAt _
      have f1 : wr.frozen? ⟨gb, j * 4 + 1, none⟩ = false := hown.frozenAt _
      have s1 := hown.stored (j * 4) (.int .i64 kj)
      have s2 := s1.1.stored (j * 4 + 1) (.int .i64 (kj + 1))
      have g12 := s1.2.trans s2.2
      have o2 := s2.1
      rw [hmark] at o2
      have d3 : ((wr.setCell ⟨gb, j * 4, none⟩ (.int .i64 kj)).setCell ⟨gb, j * 4 + 1, none⟩ (.int .i64 (kj + 1))).cell? ⟨gb, j * 4 + 3, none⟩ = some (.slice da ds.length dc) := by
        rw [o2.cellAt _ (by omega)]
        exact (flat4_at (A ++ markE kj ((nm, vr, fs, ds), .slice fa fs.length fc, .slice da ds.length dc) :: T) j (markE kj ((nm, vr, fs, ds), .slice fa fs.length fc, .slice da ds.length dc)) (by rw [List.getElem?_append_right (by omega), hAl, Nat.sub_self]; rfl)).2.2.2
      have hE := hP.el _ (by simp : ((nm, vr, fs, ds), Value.slice fa fs.length fc, Value.slice da ds.length dc) ∈ A ++ ((nm, vr, fs, ds), Value.slice fa fs.length fc, Value.slice da ds.length dc) :: T)
      dsimp only at hE
      have hF1 := own_keepS hE.f (w' := (wr.setCell ⟨gb, j * 4, none⟩ (.int .i64 kj)).setCell ⟨gb, j * 4 + 1, none⟩ (.int .i64 (kj + 1))) (fun g _ hg _ hgg => g12.block g (heapLt hgg) (fun x => own_ne hown hgg (by decide) (by rw [x]; rfl)))
      have hD1 := own_keepS hE.d (w' := (wr.setCell ⟨gb, j * 4, none⟩ (.int .i64 kj)).setCell ⟨gb, j * 4 + 1, none⟩ (.int .i64 (kj + 1))) (fun g _ hg _ hgg => g12.block g (heapLt hgg) (fun x => own_ne hown hgg (by decide) (by rw [x]; rfl)))
      have hneF : ∀ g, (Value.slice fa fs.length fc).ownBlock = some g → some g ≠ (Value.slice da ds.length dc).ownBlock := fun g hg x => by
        obtain ⟨_, c, hc⟩ := own_row hE.f g hg
        exact own_ne hE.d hc (by decide) x.symm
      have hneG : some gb ≠ (Value.slice fa fs.length fc).ownBlock := fun x => by
        obtain ⟨_, c, hc⟩ := own_row hE.f gb x.symm
        exact own_ne hown hc (by decide) rfl
      have HP := hide hP
      have HO2 := hide o2
      have HG12 := hide g12
      have HF1 := hide hF1
      have HD1 := hide hD1
      have HD3 := hide d3
      have HNE := hide (And.intro hneF hneG)
      have hi0 : (0 : Int) ≤ (j : Int) := Int.natCast_nonneg _
      have hi1 : (j : Int) < (l.length : Int) := by omega
      have w1 : IntKind.i64.wrap (kj + 1) = kj + 1 := by simp [IntKind.wrap, IntKind.bits, IntKind.signed]; omega
      have w2 : IntKind.i64.wrap (kj + 1 + 1) = kj + 1 + 1 := by simp [IntKind.wrap, IntKind.bits, IntKind.signed]; omega
      have hgl2 : gb < ((wr.setCell ⟨gb, j * 4, none⟩ (.int .i64 kj)).setCell ⟨gb, j * 4 + 1, none⟩ (.int .i64 (kj + 1))).heap.size := Nat.lt_of_lt_of_le hgl g12.size
      clear hP o2 g12 hF1 hD1 d3 hneF hneG hE hown hmark t0 t1 t2 t3 s1 s2 c3 hBg
      go_wp2_with fail
      have CM := hide (markFileS_any _ _ fs B (kj + 1 + 1) (unhide HF1) (by omega) (by omega) (by omega))
      refine (unhide CM).mono ?_
      generalize World.setCell _ _ _ = W2 at *
      rintro e w3 ⟨rfl, hf3, hg3⟩
      have d3 : w3.cell? ⟨gb, j * 4 + 3, none⟩ = some (.slice da ds.length dc) := (World.cell?_of_block (a := ⟨gb, j * 4 + 3, none⟩) (hg3.block gb hgl2 (unhide HNE).2)).trans (unhide HD3)
      have HD4 := hide (own_keepS (unhide HD1) (w' := w3) (fun g _ hg _ hgg => hg3.block g (heapLt hgg) (fun x => (unhide HNE).1 g x.symm (by rw [hg]))))
      have HF3 := hide hf3
      have HG3 := hide hg3
      clear hf3 hg3 CM HD1 HF1 HD3 c0 c1 c2 f0 f1 hgl2
      go_wp2_with fail
      have CM := hide (markDepS_any _ _ ds B (kj + 1 + 1 + 2 * (fs.length : Int)) (unhide HD4) (by omega) (by omega) (by omega))
      refine (unhide CM).mono ?_
      rintro e w4 ⟨rfl, hd4, hg4⟩
      have hm := PAns.mark (unhide HP) (k := kj) (by rw [hml]; exact unhide HO2) (unhide HG12) (unhide HF3) (unhide HG3) hd4 hg4
      have HM := hide hm
      clear hd4 hg4 hm CM HD4 HF3 HG3 HP HO2 HG12 d3
      go_wp2
      go_roundw
      case rel =>
        refine ⟨j + 1, by omega, by go_num, by rw [unhide HKS]; rfl, by rw [unhide HE1]; exact (unhide HM).1, (unhide HS).trans ⟨(unhide HM).2.os, (unhide HM).2.tape, (unhide HM).2.output, (unhide HM).2.size, fun g hg hn => (unhide HM).2.block g hg (fun hb => hn (unhide HBL g hb))⟩⟩
      case measure => simp [intOf]; omega
    · obtain rfl : j = l.length := by omega
      have hT : markTo k l l.length = markL k l := by unfold markTo; rw [List.take_length, List.drop_length, List.append_nil]
      rw [hT] at hP
      rw [List.take_length]
      have HP := hide hP
      clear hP hT hlt
      go_wp2
      go_ret
      exact ⟨rfl, unhide HP, unhide HS⟩

end Go.Proofs.YtlnieobmhofkdaaGreat
