/- A row of pairs of one's own is one whose blocks are of a kind. -/
import Derived.Test.YtlnieobmhofkdaaGreatBoxW
import Derived.Test.YtlnieobmhofkdaaGreatPksW
namespace Go.Proofs.YtlnieobmhofkdaaGreat
open Go.RowKit

theorem PrsN.own {N : Nat → Prop} {w : World} {B : Nat} {t : TypeId} {v : Value} {l : List (Int × Int)} (h : w.ownsRow B t 2 v l.length (flat l)) (hl : l.length ≤ 1000000) (hN : ∀ b, B ≤ b → N b) : PrsN N w v l := by
  rcases own_shape h with ⟨hv, hn⟩ | ⟨g, cap, hv, hb, hg⟩
  · exact ⟨none, 0, by rw [hv, hn], by omega, fun hp => by omega⟩
  · subst hv
    refine ⟨some ⟨g, 0, none⟩, cap, rfl, by omega, fun _ => ⟨g, 0, rfl, hg, hN g hb, fun i hi => ?_⟩⟩
    obtain ⟨h0, h1⟩ := flat_at l i hi
    rw [Nat.zero_add]
    exact ⟨own_cell h _ _ h0, own_cell h _ _ h1⟩
theorem PrsN.bound {N : Nat → Prop} {w : World} {v : Value} {l : List (Int × Int)} (h : PrsN N w v l) : PrsN (fun b => N b ∧ b < w.heap.size) w v l := by
  obtain ⟨a, cap, hv, hl, hr⟩ := h
  refine ⟨a, cap, hv, hl, fun hp => ?_⟩
  obtain ⟨b, off, ha, hbs, hN, hc⟩ := hr hp
  exact ⟨b, off, ha, hbs, ⟨hN, hbs⟩, hc⟩
theorem Pks.bound {N : Nat → Prop} {w : World} {v : Value} {l : List Ix.Pg} (h : Pks N w v l) : Pks (fun b => N b ∧ b < w.heap.size) w v l := by
  obtain ⟨a, cap, hv, hl, hr⟩ := h
  refine ⟨a, cap, hv, hl, fun hp => ?_⟩
  obtain ⟨b, off, ha, hbs, hN, hc⟩ := hr hp
  refine ⟨b, off, ha, hbs, ⟨hN, hbs⟩, fun i hi => ?_⟩
  obtain ⟨fv, dv, h1, h2, h3⟩ := hc i hi
  exact ⟨fv, dv, h1, h2.bound, h3.bound⟩
theorem PrsN.weak {N N' : Nat → Prop} {w : World} {v : Value} {l : List (Int × Int)} (h : PrsN N w v l) (hN : ∀ b, N b → N' b) : PrsN N' w v l := by
  obtain ⟨a, cap, hv, hl, hr⟩ := h
  refine ⟨a, cap, hv, hl, fun hp => ?_⟩
  obtain ⟨b, off, ha, hbs, h1, hc⟩ := hr hp
  exact ⟨b, off, ha, hbs, hN b h1, hc⟩
theorem Pks.weak {N N' : Nat → Prop} {w : World} {v : Value} {l : List Ix.Pg} (h : Pks N w v l) (hN : ∀ b, N b → N' b) : Pks N' w v l := by
  obtain ⟨a, cap, hv, hl, hr⟩ := h
  refine ⟨a, cap, hv, hl, fun hp => ?_⟩
  obtain ⟨b, off, ha, hbs, h1, hc⟩ := hr hp
  refine ⟨b, off, ha, hbs, hN b h1, fun i hi => ?_⟩
  obtain ⟨fv, dv, h2, h3, h4⟩ := hc i hi
  exact ⟨fv, dv, h2, h3.weak hN, h4.weak hN⟩
theorem POwn.weak {N M : Nat → Prop} {B : Nat} {w : World} {v : Value} {l : List El} (h : POwn N B w v l) (hN : ∀ b, N b → M b) : POwn M B w v l :=
  ⟨h.own, fun e he => ⟨(h.el e he).1.weak hN, (h.el e he).2.weak hN⟩⟩
theorem POwn.later {N : Nat → Prop} {B : Nat} {w w' : World} {v : Value} {l : List El} (h : POwn N B w v l) (hb : Below w.heap.size w w') : POwn N B w' v l :=
  ⟨own_later h.own hb, fun e he => ⟨(h.el e he).1.later hb, (h.el e he).2.later hb⟩⟩
end Go.Proofs.YtlnieobmhofkdaaGreat
