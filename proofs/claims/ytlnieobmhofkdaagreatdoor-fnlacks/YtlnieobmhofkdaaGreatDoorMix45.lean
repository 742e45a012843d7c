import Derived.Test.YtlnieobmhofkdaaGreatDoorInsertW
import Derived.Test.YtlnieobmhofkdaaGreatDoorMix43
import Derived.Test.YtlnieobmhofkdaaGreatDoorMix27
import Derived.Test.YtlnieobmhofkdaaGreatDoorMix10
import Derived.Test.YtlnieobmhofkdaaGreatDoorMix44
import Derived.Test.YtlnieobmhofkdaaGreatDoorMix18
import Derived.Laws.StructEq
/- What impl.shelves.put and impl.shelves.all do: one more package among those of its name; all of them, one name behind the other. -/
namespace Go.Proofs.YtlnieobmhofkdaaGreatDoor
open Go.RowKit

theorem flat4_take : ∀ (l : List El) (k : Nat), (flat4 l).take (k * 4) = flat4 (l.take k)
  | [], k => by simp [flat4]
  | e :: t, 0 => by simp [flat4]
  | e :: t, k + 1 => by
    have h := flat4_take t k
    show ([Value.int .i64 e.1.1, .int .i64 e.1.2.1, e.2.1, e.2.2] ++ flat4 t).take ((k + 1) * 4) = [Value.int .i64 e.1.1, .int .i64 e.1.2.1, e.2.1, e.2.2] ++ flat4 (t.take k)
    rw [show (k + 1) * 4 = k * 4 + 4 by omega, ← h]
    simp
theorem flat4_drop : ∀ (l : List El) (k : Nat), (flat4 l).drop (k * 4) = flat4 (l.drop k)
  | [], k => by simp [flat4]
  | e :: t, 0 => by simp
  | e :: t, k + 1 => by
    have h := flat4_drop t k
    show ([Value.int .i64 e.1.1, .int .i64 e.1.2.1, e.2.1, e.2.2] ++ flat4 t).drop ((k + 1) * 4) = flat4 (t.drop k)
    rw [show (k + 1) * 4 = k * 4 + 4 by omega, ← h]
    simp
theorem flat4_ins (l : List El) (e : El) (k : Nat) : (flat4 l).take (k * 4) ++ [.int .i64 e.1.1, .int .i64 e.1.2.1, e.2.1, e.2.2] ++ (flat4 l).drop (k * 4) = flat4 (l.take k ++ [e] ++ l.drop k) := by
  rw [flat4_take, flat4_drop, flat4_app, flat4_app]
  rfl
theorem Shv.ans {B : Nat} {w : World} {V : Int → Value} {E : Int → List El} (h : Shv B w V E) (n : Int) : PAns B w (V n) (E n) := ⟨h.own n, h.el n, h.far n⟩
/-- One shelf is written anew. -/
theorem Shv.upd {B : Nat} {w w2 : World} {V : Int → Value} {E : Int → List El} {nm : Int} {v' : Value} {l' : List El} (h : Shv B w V E) (hg : w.grownBy w2 (V nm).ownBlock) (ho : w2.ownsRow B 42 4 v' l'.length (flat4 l'))
    (hat : v'.ownBlock = (V nm).ownBlock ∨ ∃ g, v'.ownBlock = some g ∧ w.heap.size ≤ g) (he : ∀ x ∈ l', OwP B w x.2.1 x.2.2 x.1.2.2.1 x.1.2.2.2) (hp : l'.Pairwise farE) (hf : ∀ n, n ≠ nm → ∀ a ∈ E n, ∀ b ∈ l', farE a b) :
    Shv B w2 (fun j => if j = nm then v' else V j) (fun j => if j = nm then l' else E j) := by
  have kp : ∀ {fv dv : Value} {fs ds : List (Int × Int)}, OwP B w fv dv fs ds → OwP B w2 fv dv fs ds := fun hp => ⟨own_keepS hp.f (fun g _ _ _ hgg => grown_other (h.own _) hg hgg (by decide)), own_keepS hp.d (fun g _ _ _ hgg => grown_other (h.own _) hg hgg (by decide))⟩
  have lt : ∀ j k, (V j).ownBlock = some k → k < w.heap.size := fun j k hj => by
    obtain ⟨_, c, hc⟩ := own_row (h.own j) k hj
    exact heapLt hc
  refine ⟨fun n => ?_, fun n x hx => ?_, fun n m k hne hn => ?_, fun n => ?_, fun n m hne a ha b hb => ?_⟩
  · by_cases hn : n = nm
    · simp only [if_pos hn]; exact ho
    · simp only [if_neg hn]
      exact own_keepS (h.own n) (fun k _ hk _ hx => hg.block k (heapLt hx) (fun e2 => h.apart n _ k hn hk e2.symm))
  · by_cases hn : n = nm
    · simp only [if_pos hn] at hx; exact kp (he x hx)
    · simp only [if_neg hn] at hx; exact kp (h.el n x hx)
  · have key : ∀ j, j ≠ nm → ∀ k, (V j).ownBlock = some k → v'.ownBlock ≠ some k := fun j hj k hk e => by
      rcases hat with ha | ⟨g, hg1, hg2⟩
      · rw [ha] at e
        exact h.apart j nm k hj hk e
      · have := lt j k hk
        rw [hg1] at e
        have := Option.some.inj e
        omega
    by_cases h1 : n = nm
    · have h2 : m ≠ nm := fun h => hne (h1.trans h.symm)
      simp only [if_pos h1] at hn
      simp only [if_neg h2]
      exact fun hm => key m h2 k hm hn
    · simp only [if_neg h1] at hn
      by_cases h2 : m = nm
      · simp only [if_pos h2]
        exact key n h1 k hn
      · simp only [if_neg h2]
        exact h.apart n m k hne hn
  · by_cases hn : n = nm
    · simp only [if_pos hn]; exact hp
    · simp only [if_neg hn]; exact h.far n
  · by_cases h1 : n = nm
    · have h2 : m ≠ nm := fun h => hne (h1.trans h.symm)
      simp only [if_pos h1] at ha
      simp only [if_neg h2] at hb
      exact (hf m h2 b hb a ha).symm
    · simp only [if_neg h1] at ha
      by_cases h2 : m = nm
      · simp only [if_pos h2] at hb
        exact hf n h1 a ha b hb
      · simp only [if_neg h2] at hb
        exact h.farther n m hne a ha b hb
theorem PAns.sl {B : Nat} {w : World} {v : Value} {l : List El} (h : PAns B w v l) : Sl l := fun e he => by
  obtain ⟨a, c, a2, c2, h1, h2⟩ := (h.el e he).forms
  rw [h1, h2]
  exact ⟨rfl, rfl⟩
theorem pairwise_ins {l : List El} {e : El} {k : Nat} (h : l.Pairwise farE) (he : ∀ a ∈ l, farE a e) : (l.take k ++ [e] ++ l.drop k).Pairwise farE := by
  rw [List.append_assoc, List.pairwise_append]
  refine ⟨h.sublist (List.take_sublist k l), List.pairwise_cons.2 ⟨fun b hb => (he b (List.mem_of_mem_drop hb)).symm, h.sublist (List.drop_sublist k l)⟩, fun a ha b hb => ?_⟩
  rcases List.mem_cons.1 hb with rfl | hb
  · exact he a (List.mem_of_mem_take ha)
  · rw [← List.take_append_drop k l, List.pairwise_append] at h
    exact h.2.2 a ha b hb
theorem mem_ins {l : List El} {e x : El} {k : Nat} (h : x ∈ l.take k ++ [e] ++ l.drop k) : x ∈ l ∨ x = e := by
  rcases List.mem_append.1 h with h | h
  · rcases List.mem_append.1 h with h | h
    · exact .inl (List.mem_of_mem_take h)
    · exact .inr (List.mem_singleton.1 h)
  · exact .inl (List.mem_of_mem_drop h)

/-- Whether a version is there, by the place where it would be. -/
theorem any_place {L : List Ix.Pg} {k : Nat} {x : Int} (hlo : ∀ i, i < k → (Ix.pg L i).2.1 < x) (hhi : ∀ i, k ≤ i → i < L.length → x ≤ (Ix.pg L i).2.1) (hasc : ∀ i j, i < j → j < L.length → (Ix.pg L i).2.1 < (Ix.pg L j).2.1) :
    L.any (fun p => decide (p.2.1 = x)) = (decide (k < L.length) && decide ((Ix.pg L k).2.1 = x)) := by
  rw [Bool.eq_iff_iff, List.any_eq_true, Bool.and_eq_true, decide_eq_true_eq, decide_eq_true_eq]
  constructor
  · rintro ⟨p, hp, e⟩
    rw [decide_eq_true_eq] at e
    obtain ⟨i, hi, ei⟩ := List.getElem_of_mem hp
    have hpi : (Ix.pg L i).2.1 = x := by rw [Ix.pg_get hi, ei]; exact e
    rcases Nat.lt_trichotomy i k with h | h | h
    · have := hlo i h; omega
    · subst h; exact ⟨hi, hpi⟩
    · have h2 := hasc k i h hi
      have h3 := hhi k (Nat.le_refl _) (by omega)
      omega
  · rintro ⟨h1, h2⟩
    exact ⟨Ix.pg L k, Ix.pg_mem h1, by rw [decide_eq_true_eq]; exact h2⟩

set_option linter.unusedSimpArgs false in
set_option maxHeartbeats 4000000 in
set_option maxRecDepth 100000 in
theorem put_any {B : Nat} (w : World) (M cnt : Nat) (V : Int → Value) (E : Int → List El) (nm vr : Int) (fa da : Option Addr) (fc dc : Nat) (fs ds : List (Int × Int)) (hM : MapV w M cnt V) (hS : Shv B w V E) (hB : B ≤ M) (hcnt : cnt ≤ 1000) (hn : 1 ≤ nm ∧ nm ≤ 4)
    (hl : (E nm).length ≤ 900) (hsm : ∀ e ∈ E nm, e.1.2.2.1.length ≤ 1000 ∧ e.1.2.2.2.length ≤ 1000) (hasc : ((E nm).map (·.1)).Pairwise (fun p q => p.2.1 < q.2.1)) (hnames : ∀ p ∈ (E nm).map (·.1), p.1 = nm)
    (ho : OwP B w (.slice fa fs.length fc) (.slice da ds.length dc) fs ds) (hfar : ∀ n, ∀ a ∈ E n, farE a ((nm, vr, fs, ds), .slice fa fs.length fc, .slice da ds.length dc)) :
    Calls Tryz.prog 44 #[.map (some M), .agg #[.int .i64 nm, .int .i64 vr, .slice fa fs.length fc, .slice da ds.length dc]] w fun e w' => ∃ cnt' V' E', e = .returned (.bool (!((E nm).map (·.1)).any (fun p => decide (p.2.1 = vr)))) ∧ MapV w' M cnt' V' ∧ cnt' ≤ cnt + 1 ∧ Shv B w' V' E' ∧
      (∀ n, (E' n).map (·.1) = if n = nm ∧ ((E nm).map (·.1)).any (fun p => decide (p.2.1 = vr)) = false then Ix.wth ((E n).map (·.1)) (nm, vr, fs, ds) else (E n).map (·.1)) ∧ Below B w w' := by
  obtain ⟨L, hL⟩ : ∃ L, L = (E nm).map (·.1) := ⟨_, rfl⟩
  have hLl : L.length = (E nm).length := by rw [hL, List.length_map]
  have hpk : Pks (fun b => B ≤ b) w (V nm) L := by rw [hL]; exact (hS.ans nm).pks (by omega) hsm
  have hasc2 : ∀ i j, i < j → j < L.length → (Ix.pg L i).2.1 < (Ix.pg L j).2.1 := fun i j hij hj => by
    rw [← hL] at hasc
    have := List.pairwise_iff_getElem.1 hasc i j (by omega) hj hij
    rwa [← Ix.pg_get (by omega), ← Ix.pg_get hj] at this
  rw [← hL] at hnames hasc ⊢
  have HLE := hide hL
  have HASC := hide hasc2
  have HNM := hide hnames
  have HFAR := hide hfar
  have HSM := hide hsm
  obtain ⟨sa, sc, hsv⟩ := hpk.slice
  have HSV := hide hsv
  rw [hsv] at hpk
  have b0 := below1 w (.cells #[.int .i64 nm, .int .i64 vr, .slice fa fs.length fc, .slice da ds.length dc] 42)
  have hbm : B ≤ w.heap.size := Nat.le_trans hB (Nat.le_of_lt hM.lt)
  have HX := hide (heap_alloc_new w (.cells #[.int .i64 nm, .int .i64 vr, .slice fa fs.length fc, .slice da ds.length dc] 42))
  have HM := hide (hM.later b0)
  have HS := hide (hS.later b0)
  have HO := hide (ho.later b0)
  have HP := hide (hpk.later b0)
  have BW := hide (b0.mono hbm)
  have HXN : Hid (∀ n, (V n).ownBlock ≠ some w.heap.size) := fun n e => by
    obtain ⟨_, c, hc⟩ := own_row (hS.own n) _ e
    have := heapLt hc
    omega
  have HBM := hide (Nat.le_trans hbm b0.size)
  have HLX : Hid (w.heap.size < (w.alloc (.cells #[.int .i64 nm, .int .i64 vr, .slice fa fs.length fc, .slice da ds.length dc] 42)).heap.size) := heapLt (unhide HX)
  clear hL hasc hasc2 hnames hfar hsm hsv b0 hM hS ho hpk hbm
  have hll : L.length ≤ 1000 := by omega
  have HLL := hide hLl
  clear hLl
  go_enter Tryz.func44, Tryz.ntmps44
  go_wp2_with (at_lookup; refine wpList_lookV _ rfl _ _ _ rfl 31 Tryz.underlying81 (zeroP _) M cnt V rfl (unhide HM) nm rfl (by omega) (by omega) ?_; rw [unhide HSV])
  refine (search_any _ _ L vr (unhide HP) hll (unhide HASC)).mono ?_
  generalize hX : w.heap.size = X at *
  have HXX := hide hX
  clear hX
  generalize World.alloc _ _ = W0 at *
  rintro e w2 ⟨k, rfl, hkl, hlo, hhi, b⟩
  have hany := any_place hlo hhi (unhide HASC)
  replace HX := hide ((b.block _ (heapLt (unhide HX))).trans (unhide HX))
  replace HM := hide ((unhide HM).later b)
  replace HS := hide ((unhide HS).later b)
  replace HO := hide ((unhide HO).later b)
  replace BW := hide ((unhide BW).trans (b.mono (unhide HBM)))
  replace HBM := hide (Nat.le_trans (unhide HBM) b.size)
  have HLO := hide hlo
  have HHI := hide hhi
  have HKL := hide hkl
  clear b HP hlo hhi hkl HLX
  clear W0
  generalize hfl : (decide (k < L.length) && decide ((Ix.pg L k).2.1 = vr)) = fl at *
  have HFL := hide hfl
  have HANY := hide hany
  clear hfl hany
  cases fl with
  | true =>
    go_wp2
    go_ret
    exact ⟨cnt, V, E, by rw [unhide HANY]; rfl, unhide HM, by omega, unhide HS, fun n => by rw [if_neg (by rw [unhide HANY]; simp)], unhide BW⟩
  | false =>
    have SOF := hide (show ∀ w', Below w2.heap.size w2 w' → (w'.cell? ⟨X, 0, none⟩ = some (.int .i64 nm) ∧ w'.cell? ⟨X, 1, none⟩ = some (.int .i64 vr) ∧ w'.cell? ⟨X, 2, none⟩ = some (.slice fa fs.length fc) ∧ w'.cell? ⟨X, 3, none⟩ = some (.slice da ds.length dc)) ∧ MapV w' M cnt V from fun w' hb => by
      have hx := (hb.block _ (heapLt (unhide HX))).trans (unhide HX)
      exact ⟨⟨cellOf hx 0, cellOf hx 1, cellOf hx 2, cellOf hx 3⟩, (unhide HM).later hb⟩)
    go_wp2_with fail
    refine wl_region (S := fun w' => (w'.cell? ⟨X, 0, none⟩ = some (.int .i64 nm) ∧ w'.cell? ⟨X, 1, none⟩ = some (.int .i64 vr) ∧ w'.cell? ⟨X, 2, none⟩ = some (.slice fa fs.length fc) ∧ w'.cell? ⟨X, 3, none⟩ = some (.slice da ds.length dc)) ∧ MapV w' M cnt V) (s := 8) (by kernel_rfl) (unhide SOF _ (below_drew w2)) (fun hHeld => ?_)
    refine wl_take (i := 0) (d := some 20) rfl rfl (by kernel_rfl) (by kernel_rfl) (by kernel_rfl) (by kernel_rfl) (by kernel_rfl) (fun _ _ _ h => h) (by rfl) (fun w _ => run_move rfl rfl w) (by assumption) ?_
    simp only [Act.put, List.setIfInBounds_toArray, List.set_cons_zero, List.set_cons_succ, List.getElem_toArray, List.getElem_cons_zero]
    refine wl_take (i := 1) (d := some 21) rfl rfl (by kernel_rfl) (by kernel_rfl) (by kernel_rfl) (by kernel_rfl) (by kernel_rfl) (fun _ _ _ h => h) (by rfl) (v := ?_) ?_ (by assumption) ?_
    rotate_left
    · (intro w hSw; (try dsimp only at hSw); go_simp <;> with_reducible rfl)
    simp only [Act.put, List.setIfInBounds_toArray, List.set_cons_zero, List.set_cons_succ]
    refine wl_take (i := 2) (d := some 22) rfl rfl (by kernel_rfl) (by kernel_rfl) (by kernel_rfl) (by kernel_rfl) (by kernel_rfl) (fun _ _ _ h => h) (by rfl) (v := ?_) ?_ (by assumption) ?_
    rotate_left
    · (intro w hSw; (try dsimp only at hSw); go_simp <;> with_reducible rfl)
    simp only [Act.put, List.setIfInBounds_toArray, List.set_cons_zero, List.set_cons_succ]
    refine wl_take (i := 3) (d := some 23) rfl rfl (by kernel_rfl) (by kernel_rfl) (by kernel_rfl) (by kernel_rfl) (by kernel_rfl) (fun _ _ _ h => h) (by rfl) (fun w _ => run_move rfl rfl w) (by assumption) ?_
    simp only [Act.put, List.setIfInBounds_toArray, List.set_cons_zero, List.set_cons_succ, List.getElem_toArray, List.getElem_cons_zero, List.getElem_cons_succ]
    refine wl_take (i := 4) (d := some 24) rfl rfl (by kernel_rfl) (by kernel_rfl) (by kernel_rfl) (by kernel_rfl) (by kernel_rfl) (fun _ _ _ h => h) (by rfl) (fun w _ => run_move rfl rfl w) (by assumption) ?_
    simp only [Act.put, List.setIfInBounds_toArray, List.set_cons_zero, List.set_cons_succ, List.getElem_toArray, List.getElem_cons_zero, List.getElem_cons_succ]
    refine wl_take (i := 5) (d := some 25) rfl rfl (by kernel_rfl) (by kernel_rfl) (by kernel_rfl) (by kernel_rfl) (by kernel_rfl) (fun _ _ _ h => h) (by rfl) (v := ?_) ?_ (by assumption) ?_
    rotate_left
    · (intro w hSw; (try dsimp only at hSw); go_simp <;> with_reducible rfl)
    simp only [Act.put, List.setIfInBounds_toArray, List.set_cons_zero, List.set_cons_succ]
    refine wl_one (i := 6) (by kernel_rfl) rfl (by rfl) (fun K hK => ?_)
    go_simp
    clear hHeld
    have b3 : Below w2.heap.size w2 (w2.alloc (.cells #[.int .i64 nm, .int .i64 vr, .slice fa fs.length fc, .slice da ds.length dc] 42)).drew := (below1 w2 (.cells #[.int .i64 nm, .int .i64 vr, .slice fa fs.length fc, .slice da ds.length dc] 42)).trans ((below_drew _).mono (below1 w2 (.cells #[.int .i64 nm, .int .i64 vr, .slice fa fs.length fc, .slice da ds.length dc] 42)).size)
    have hH3 := unhide SOF _ b3
    have HV3 : Hid ((w2.alloc (.cells #[.int .i64 nm, .int .i64 vr, .slice fa fs.length fc, .slice da ds.length dc] 42)).drew.heap[w2.heap.size]? = some (.cells #[.int .i64 nm, .int .i64 vr, .slice fa fs.length fc, .slice da ds.length dc] 42)) := heap_alloc_new w2 (.cells #[.int .i64 nm, .int .i64 vr, .slice fa fs.length fc, .slice da ds.length dc] 42)
    have HS3 := hide ((unhide HS).later b3)
    have HO3 := hide ((unhide HO).later b3)
    have HM3 := hide ((unhide HM).later b3)
    have HX3 := hide ((b3.block _ (heapLt (unhide HX))).trans (unhide HX))
    have BW3 := hide ((unhide BW).trans (b3.mono (unhide HBM)))
    have HBM3 := hide (Nat.le_trans (unhide HBM) b3.size)
    have HVN : Hid (∀ n, (V n).ownBlock ≠ some w2.heap.size) := fun n e => by
      obtain ⟨_, c, hc⟩ := own_row ((unhide HS).own n) _ e
      have := heapLt hc
      omega
    clear b3 HS HO HM BW HBM HX SOF
    generalize w2.heap.size = Y at *
    generalize (w2.alloc (.cells #[.int .i64 nm, .int .i64 vr, .slice fa fs.length fc, .slice da ds.length dc] 42)).drew = w3 at *
    have hown : w3.ownsRow B 42 4 (.slice sa L.length sc) L.length (flat4 (E nm)) := by
      have h := (unhide HS3).own nm
      rw [unhide HSV, ← unhide HLL] at h
      exact h
    have hsl := PAns.sl ((unhide HS3).ans nm)
    obtain ⟨i0, hI0, hz0, hz1, hz2⟩ := info_parts infoPkg
    refine hK.out _ _ (fun _ => (by assumption)) ?_
    clear hK K
    try simp only [Act.put, List.setIfInBounds_toArray, List.set_cons_zero, List.set_cons_succ]
    refine wl_one (i := 7) (by kernel_rfl) rfl (by rfl) (fun K hK => ?_)
    go_simp
    refine (insert_any w3 (.slice sa L.length sc) (flat4 (E nm)) [.int .i64 nm, .int .i64 vr, .slice fa fs.length fc, .slice da ds.length dc] L.length k Y hown (unhide HKL) hll (flat4_one hsl (fun _ h => h)) (unhide HV3) rfl (one4 (x := ((nm, vr, fs, ds), .slice fa fs.length fc, .slice da ds.length dc)) rfl rfl) (by have := unhide HVN nm; rwa [unhide HSV] at this) (unhide HBM3)).mono ?_
    rintro e w4 ⟨v', rfl, ho4, hg4, hat4⟩
    have hg4' : w3.grownBy w4 (V nm).ownBlock := by rw [unhide HSV]; exact hg4
    have hS4 : Shv B w4 (fun j => if j = nm then v' else V j) (fun j => if j = nm then (E nm).take k ++ [((nm, vr, fs, ds), .slice fa fs.length fc, .slice da ds.length dc)] ++ (E nm).drop k else E j) := by
      refine Shv.upd (unhide HS3) hg4' ?_ ?_ (fun x hx => ?_) (pairwise_ins ((unhide HS3).far nm) (unhide HFAR nm)) (fun n hn a ha b hb => ?_)
      · have hlen : ((E nm).take k ++ [((nm, vr, fs, ds), (Value.slice fa fs.length fc), (Value.slice da ds.length dc))] ++ (E nm).drop k).length = L.length + 1 := by
          have := unhide HLL
          have := unhide HKL
          rw [List.length_append, List.length_append, List.length_take, List.length_drop]
          simp only [List.length_cons, List.length_nil]
          omega
        rw [hlen, ← flat4_ins]
        exact ho4
      · rw [unhide HSV]; exact hat4
      · rcases mem_ins hx with h | rfl
        · exact (unhide HS3).el nm x h
        · exact unhide HO3
      · rcases mem_ins hb with h | rfl
        · exact (unhide HS3).farther n nm hn a ha b h
        · exact unhide HFAR n a ha
    have hM4 : MapV w4 M cnt V := hH3.2.keep (hg4'.block _ hH3.2.lt (fun e => by
      obtain ⟨_, c, hc⟩ := own_row ((unhide HS3).own nm) _ e.symm
      exact hH3.2.notCells hc))
    have hX4 := (hg4'.block _ (heapLt (unhide HX3)) (fun e => unhide HXN nm e.symm)).trans (unhide HX3)
    have hH4 : (w4.cell? ⟨X, 0, none⟩ = some (.int .i64 nm) ∧ w4.cell? ⟨X, 1, none⟩ = some (.int .i64 vr) ∧ w4.cell? ⟨X, 2, none⟩ = some (.slice fa fs.length fc) ∧ w4.cell? ⟨X, 3, none⟩ = some (.slice da ds.length dc)) ∧ MapV w4 M cnt V := ⟨⟨cellOf hX4 0, cellOf hX4 1, cellOf hX4 2, cellOf hX4 3⟩, hM4⟩
    have HB4 := hide (grown_below (B := B) ((unhide HS3).own nm) hg4' (unhide BW3) (unhide HBM3))
    have HS4 := hide hS4
    have HM4 := hide hM4
    clear hS4 hX4 hg4 hg4' ho4 hat4 hM4 hH3 hsl hown HX3
    go_wp2_with fail
    refine hK.out _ _ (fun _ => (by assumption)) ?_
    clear hK K
    try simp only [Act.put, List.setIfInBounds_toArray, List.set_cons_zero, List.set_cons_succ]
    refine wl_one (i := 8) (by kernel_rfl) rfl (by rfl) (fun K hK => ?_)
    refine wp_putV _ _ _ _ _ rfl 31 Tryz.underlying81 M cnt V rfl (unhide HM4) (by unfold maxLen; omega) nm rfl _ rfl (by omega) (by omega) ?_
    intro w5 hM5 hg5
    have HM5 := hide hM5
    have HS5 := hide ((unhide HS4).keepC (w' := w5) (fun g c t hg => hg5.block g (heapLt hg) (fun e => (unhide HM4).notCells (by rw [Option.some.inj e] at hg; exact hg))))
    have HB5 : Hid (Below B w w5) := (unhide HB4).trans ⟨hg5.os, hg5.tape, hg5.output, hg5.size, fun j hj => hg5.block j (Nat.lt_of_lt_of_le hj (by have := (unhide HM4).lt; omega)) (fun e => by have := Option.some.inj e; omega)⟩
    clear hM5 hg5
    refine hK.out _ _ (fun h => absurd rfl h) ?_
    clear hK K
    refine wl_done (by kernel_rfl) ?_
    clear hH4
    go_wp2
    go_ret
    refine ⟨cnt + 1, _, _, by rw [unhide HANY]; rfl, unhide HM5, Nat.le_refl _, unhide HS5, fun n => ?_, unhide HB5⟩
    show List.map _ (if n = nm then _ else _) = _
    by_cases hne : n = nm
    · subst hne
      rw [if_pos rfl, if_pos ⟨rfl, unhide HANY⟩, ← unhide HLE]
      have hp := Ix.wth_place (l := L) (p := (n, vr, fs, ds)) (k := k) (unhide HNM) (unhide HKL) (unhide HLO) (fun i h1 h2 => by
        have h3 := unhide HHI i h1 h2
        have h4 := unhide HANY
        rcases Int.lt_or_eq_of_le h3 with h5 | h5
        · exact h5
        · rw [List.any_eq_false] at h4
          exact absurd (by rw [decide_eq_true_eq]; exact h5.symm) (h4 _ (Ix.pg_mem h2)))
      rw [hp, unhide HLE, List.map_append, List.map_append, List.map_take, List.map_drop]
      rfl
    · rw [if_neg hne, if_neg (fun h => hne h.1)]
end Go.Proofs.YtlnieobmhofkdaaGreatDoor

/- What (impl.shelves).meets returns: whether among what is kept of a name there is a package of which a meta tells. -/
namespace Go.Proofs.YtlnieobmhofkdaaGreatDoor
open Go.RowKit

theorem metaP_is (nm vr : Int) (fs ds : List (Int × Int)) (n v s : Int) : decide (Ix.metaP (nm, vr, fs, ds) = (n, v, s)) = (decide (nm = n) && (decide (vr = v) && decide (Sm.sum (Pk.text nm vr fs ds) = s))) := by
  have e : Ix.metaP (nm, vr, fs, ds) = (nm, vr, Sm.sum (Pk.text nm vr fs ds)) := rfl
  rw [e]
  simp only [Prod.mk.injEq]
  simp only [Bool.decide_and]

set_option maxHeartbeats 4000000 in
set_option maxRecDepth 100000 in
theorem meets1_any (w : World) (Bm : Nat) (n v s : Int) (nm vr : Int) (fv dv : Value) (fs ds : List (Int × Int)) (hm : w.heap[Bm]? = some (.cells #[.int .i64 n, .int .i64 v, .int .i64 s] 55 (0, 0))) (hf : Prs w fv fs) (hd : Prs w dv ds) :
    Calls Tryz.prog 113 #[.agg #[.int .i64 nm, .int .i64 vr, fv, dv], .pointer (some ⟨Bm, 0, none⟩)] w fun e w' => e = .returned (.bool (decide (Ix.metaP (nm, vr, fs, ds) = (n, v, s)))) ∧ Below w.heap.size w w' := by
  obtain ⟨fa, fc, hfv⟩ := hf.slice
  obtain ⟨da, dc, hdv⟩ := hd.slice
  subst hfv hdv
  rw [metaP_is]
  have CM := hide (fun W h1 h2 => metaOf_any W nm vr (.slice fa fs.length fc) (.slice da ds.length dc) fs ds h1 h2)
  obtain ⟨sm, hsm⟩ : ∃ sm, Sm.sum (Pk.text nm vr fs ds) = sm := ⟨_, rfl⟩
  rw [hsm] at CM ⊢
  clear hsm
  have b0 := below1 w (.cells #[.int .i64 nm, .int .i64 vr, .slice fa fs.length fc, .slice da ds.length dc] 42)
  have HX := hide (heap_alloc_new w (.cells #[.int .i64 nm, .int .i64 vr, .slice fa fs.length fc, .slice da ds.length dc] 42))
  have HM := hide ((b0.block _ (heapLt hm)).trans hm)
  have HF := hide (And.intro (hf.later b0) (hd.later b0))
  have BW := hide b0
  clear b0 hm hf hd
  go_enter Tryz.func113, Tryz.ntmps113
  go_wp2_with fail
  generalize w.alloc _ = W1 at *
  obtain ⟨x0, x1, x2, x3⟩ : _ ∧ _ ∧ _ ∧ _ := ⟨cellOf (unhide HX) 0, cellOf (unhide HX) 1, cellOf (unhide HX) 2, cellOf (unhide HX) 3⟩
  obtain ⟨m0, m1, m2⟩ : _ ∧ _ ∧ _ := ⟨cellOf (unhide HM) 0, cellOf (unhide HM) 1, cellOf (unhide HM) 2⟩
  refine wp_region_held_drew (S := fun w' => (w'.cell? ⟨w.heap.size, 0, none⟩ = some (.int .i64 nm) ∧ w'.cell? ⟨w.heap.size, 1, none⟩ = some (.int .i64 vr) ∧ w'.cell? ⟨w.heap.size, 2, none⟩ = some (.slice fa fs.length fc) ∧ w'.cell? ⟨w.heap.size, 3, none⟩ = some (.slice da ds.length dc)) ∧ (w'.cell? ⟨Bm, 0, none⟩ = some (.int .i64 n) ∧ w'.cell? ⟨Bm, 1, none⟩ = some (.int .i64 v) ∧ w'.cell? ⟨Bm, 2, none⟩ = some (.int .i64 s))) (by kernel_rfl) ⟨⟨x0, x1, x2, x3⟩, m0, m1, m2⟩ (fun hHeld => ?_)
  clear x0 x1 x2 x3 m0 m1 m2
  refine anyH_at (i := 0) (d := some 4) rfl rfl (by kernel_rfl) (by kernel_rfl) (by kernel_rfl) (fun _ _ _ h => h) (by rfl) (v := ?_) ?_ (by assumption) ?_
  rotate_left
  · (intro w hSw; (try dsimp only at hSw); go_simp <;> with_reducible rfl)
  simp only [Act.put, List.setIfInBounds_toArray, List.set_cons_zero, List.set_cons_succ]
  refine anyH_at (i := 2) (d := some 6) rfl rfl (by kernel_rfl) (by kernel_rfl) (by kernel_rfl) (fun _ _ _ h => h) (by rfl) (v := ?_) ?_ (by assumption) ?_
  rotate_left
  · (intro w hSw; (try dsimp only at hSw); go_simp <;> with_reducible rfl)
  simp only [Act.put, List.setIfInBounds_toArray, List.set_cons_zero, List.set_cons_succ]
  refine wpAnyH_ready (rs := [1]) (by kernel_rfl) (by simp) ?_
  refine AllReadyH.cons rfl (fun K hK => ?_) AllReadyH.nil
  go_simp
  have hd := below_drew W1
  replace HX := hide ((hd.block _ (heapLt (unhide HX))).trans (unhide HX))
  replace HM := hide ((hd.block _ (heapLt (unhide HM))).trans (unhide HM))
  replace HF := hide (And.intro ((unhide HF).1.later hd) ((unhide HF).2.later hd))
  replace BW := hide ((unhide BW).trans (hd.mono (unhide BW).size))
  clear hd
  refine (unhide CM _ (unhide HF).1 (unhide HF).2).mono ?_
  rintro e w2 ⟨rfl, b⟩
  replace HX := hide ((b.block _ (heapLt (unhide HX))).trans (unhide HX))
  replace HM := hide ((b.block _ (heapLt (unhide HM))).trans (unhide HM))
  replace BW := hide ((unhide BW).trans (b.mono (unhide BW).size))
  clear b HF
  try go_wp2_with fail
  refine hK.out _ _ ?_ (fun hHeldN => ?_)
  · exact ⟨⟨cellOf (unhide HX) 0, cellOf (unhide HX) 1, cellOf (unhide HX) 2, cellOf (unhide HX) 3⟩, cellOf (unhide HM) 0, cellOf (unhide HM) 1, cellOf (unhide HM) 2⟩
  clear hHeld
  have hHeld := hHeldN
  clear hHeldN
  clear hK K
  try simp only [Act.put, List.setIfInBounds_toArray, List.set_cons_zero, List.set_cons_succ]
  by_cases h1 : nm = n
  · by_cases h2 : vr = v
    · by_cases h3 : sm = s
      · subst h1 h2 h3
        refine anyH_at (i := 3) (d := some 7) rfl rfl (by kernel_rfl) (by kernel_rfl) (by kernel_rfl) (fun _ _ _ h => h) (by rfl) (v := ?_) ?_ (by assumption) ?_
        rotate_left
        · (intro w hSw; (try dsimp only at hSw); go_simp <;> with_reducible rfl)
        simp only [Act.put, List.setIfInBounds_toArray, List.set_cons_zero, List.set_cons_succ]
        refine anyH_at (i := 4) (d := some 3) rfl rfl (by kernel_rfl) (by kernel_rfl) (by kernel_rfl) (fun _ _ _ h => h) (by rfl) (v := ?_) ?_ (by assumption) ?_
        rotate_left
        · (intro w hSw; (try dsimp only at hSw); go_simp <;> with_reducible rfl)
        simp only [Act.put, List.setIfInBounds_toArray, List.set_cons_zero, List.set_cons_succ]
        refine wpAnyH_done (by kernel_rfl) ?_ _
        clear hHeld
        go_wp2
        go_ret
        exact ⟨by simp, unhide BW⟩
      · skip
        refine anyH_at (i := 3) (d := some 7) rfl rfl (by kernel_rfl) (by kernel_rfl) (by kernel_rfl) (fun _ _ _ h => h) (by rfl) (v := ?_) ?_ (by assumption) ?_
        rotate_left
        · (intro w hSw; (try dsimp only at hSw); go_simp <;> with_reducible rfl)
        simp only [Act.put, List.setIfInBounds_toArray, List.set_cons_zero, List.set_cons_succ]
        refine anyH_at (i := 4) (d := some 3) rfl rfl (by kernel_rfl) (by kernel_rfl) (by kernel_rfl) (fun _ _ _ h => h) (by rfl) (v := ?_) ?_ (by assumption) ?_
        rotate_left
        · (intro w hSw; (try dsimp only at hSw); go_simp <;> with_reducible rfl)
        simp only [Act.put, List.setIfInBounds_toArray, List.set_cons_zero, List.set_cons_succ]
        refine wpAnyH_done (by kernel_rfl) ?_ _
        clear hHeld
        go_wp2
        go_ret
        exact ⟨by simp [h3], unhide BW⟩
    · skip
      refine anyH_at (i := 3) (d := some 7) rfl rfl (by kernel_rfl) (by kernel_rfl) (by kernel_rfl) (fun _ _ _ h => h) (by rfl) (v := ?_) ?_ (by assumption) ?_
      rotate_left
      · (intro w hSw; (try dsimp only at hSw); go_simp <;> with_reducible rfl)
      simp only [Act.put, List.setIfInBounds_toArray, List.set_cons_zero, List.set_cons_succ]
      refine anyH_at (i := 4) (d := some 3) rfl rfl (by kernel_rfl) (by kernel_rfl) (by kernel_rfl) (fun _ _ _ h => h) (by rfl) (v := ?_) ?_ (by assumption) ?_
      rotate_left
      · (intro w hSw; (try dsimp only at hSw); go_simp <;> with_reducible rfl)
      simp only [Act.put, List.setIfInBounds_toArray, List.set_cons_zero, List.set_cons_succ]
      refine wpAnyH_done (by kernel_rfl) ?_ _
      clear hHeld
      go_wp2
      go_ret
      exact ⟨by simp [h2], unhide BW⟩
  · skip
    refine anyH_at (i := 3) (d := some 7) rfl rfl (by kernel_rfl) (by kernel_rfl) (by kernel_rfl) (fun _ _ _ h => h) (by rfl) (v := ?_) ?_ (by assumption) ?_
    rotate_left
    · (intro w hSw; (try dsimp only at hSw); go_simp <;> with_reducible rfl)
    simp only [Act.put, List.setIfInBounds_toArray, List.set_cons_zero, List.set_cons_succ]
    refine anyH_at (i := 4) (d := some 3) rfl rfl (by kernel_rfl) (by kernel_rfl) (by kernel_rfl) (fun _ _ _ h => h) (by rfl) (v := ?_) ?_ (by assumption) ?_
    rotate_left
    · (intro w hSw; (try dsimp only at hSw); go_simp <;> with_reducible rfl)
    simp only [Act.put, List.setIfInBounds_toArray, List.set_cons_zero, List.set_cons_succ]
    refine wpAnyH_done (by kernel_rfl) ?_ _
    clear hHeld
    go_wp2
    go_ret
    exact ⟨by simp [h1], unhide BW⟩


set_option maxHeartbeats 4000000 in
set_option maxRecDepth 100000 in
theorem indexMeets_any {N : Nat → Prop} (w : World) (v : Value) (l : List Ix.Pg) (Bm : Nat) (m0 m1 m2 : Int) (h : Pks N w v l) (hm : w.heap[Bm]? = some (.cells #[.int .i64 m0, .int .i64 m1, .int .i64 m2] 55 (0, 0))) :
    Calls Tryz.prog 146 #[v, .func (.func 113) #[] #[.pointer (some ⟨Bm, 0, none⟩)]] w fun e w' => ∃ r : Int, e = .returned (.int .i64 r) ∧ ((r = -1 ∧ metIn l (m0, m1, m2) = false) ∨ (0 ≤ r ∧ metIn l (m0, m1, m2) = true)) ∧ Below w.heap.size w w' := by
  obtain ⟨a, cap, rfl, hlen, hrow⟩ := h
  have HM := hide hm
  clear hm
  go_enter Tryz.func146, Tryz.ntmps146
  go_wp2
  go_loopw [8] (fun i wr => ∃ k : Nat, k ≤ l.length ∧ i = .int .i64 k ∧ (∀ j, j < k → Ix.metaP (Ix.pg l j) ≠ (m0, m1, m2)) ∧ Below w.heap.size w wr) (fun i _ => l.length - (intOf i).toNat)
  case atStart => exact ⟨0, Nat.zero_le _, rfl, fun j hj => absurd hj (Nat.not_lt_zero _), Below.refl _ _⟩
  case round =>
    obtain ⟨k, hk, rfl, hno, hw⟩ := hrel
    have HNO := hide hno
    have HW := hide hw
    clear hno hw
    by_cases hlt : k < l.length
    · obtain ⟨b, off, rfl, hb, _, hc⟩ := hrow (by omega)
      obtain ⟨fv, dv, hAt, hf, hd⟩ := hc k hlt
      have hpm := Ix.pg_mem hlt
      obtain ⟨nm, vr, fs, ds, hpk⟩ : ∃ nm vr fs ds, Ix.pg l k = (nm, vr, fs, ds) := ⟨_, _, _, _, rfl⟩
      rw [hpk] at hAt hf hd hpm
      dsimp only at hf hd
      obtain ⟨fa, fc, hfv⟩ := hf.slice
      obtain ⟨da, dc, hdv⟩ := hd.slice
      subst hfv hdv
      have CM := hide (meets1_any wr Bm m0 m1 m2 nm vr _ _ fs ds (((unhide HW).block _ (heapLt (unhide HM))).trans (unhide HM)) (hf.prs.later (unhide HW)) (hd.prs.later (unhide HW)))
      obtain ⟨c0, c1, c2, c3⟩ := hAt.keep ((unhide HW).block b hb)
      dsimp only at c0 c1 c2 c3
      have hi0 : (0 : Int) ≤ (k : Int) := Int.natCast_nonneg _
      have hi1 : (k : Int) < (l.length : Int) := by omega
      have HPK := hide hpk
      have HPM := hide hpm
      clear hAt hf hd hc hrow hpk hpm
      by_cases hq : Ix.metaP (nm, vr, fs, ds) = (m0, m1, m2)
      · rw [decide_eq_true hq] at CM
        have hany : metIn l (m0, m1, m2) = true := by unfold metIn; rw [List.any_eq_true]; exact ⟨_, unhide HPM, decide_eq_true hq⟩
        have HANY := hide hany
        clear hq hany
        go_wp2_with fail
        refine (unhide CM).mono ?_
        rintro e w2 ⟨rfl, b2⟩
        have HB2 := hide ((unhide HW).trans (b2.mono (unhide HW).size))
        clear b2 CM c0 c1 c2 c3
        go_wp2
        go_ret
        exact ⟨k, rfl, .inr ⟨hi0, unhide HANY⟩, unhide HB2⟩
      · rw [decide_eq_false hq] at CM
        have HQ := hide hq
        clear hq
        go_wp2_with fail
        refine (unhide CM).mono ?_
        rintro e w2 ⟨rfl, b2⟩
        have HB2 := hide ((unhide HW).trans (b2.mono (unhide HW).size))
        clear b2 CM c0 c1 c2 c3
        go_wp2
        go_roundw
        case rel => exact ⟨k + 1, by omega, by go_num, fun j hj => by
          rcases Nat.lt_or_ge j k with h1 | h1
          · exact unhide HNO j h1
          · obtain rfl : j = k := by omega
            rw [unhide HPK]; exact unhide HQ, unhide HB2⟩
        case measure => simp [intOf]; omega
    · obtain rfl : k = l.length := by omega
      have hany : metIn l (m0, m1, m2) = false := by
        unfold metIn
        rw [List.any_eq_false]
        intro p hp
        obtain ⟨i, hi, e⟩ := List.getElem_of_mem hp
        have := unhide HNO i hi
        rw [Ix.pg_get hi, e] at this
        simpa using this
      have HANY := hide hany
      clear hany hlt
      go_wp2
      go_ret
      exact ⟨-1, rfl, .inl ⟨rfl, unhide HANY⟩, unhide HW⟩

set_option maxHeartbeats 4000000 in
set_option maxRecDepth 100000 in
theorem containsMeets_any {N : Nat → Prop} (w : World) (v : Value) (l : List Ix.Pg) (Bm : Nat) (m0 m1 m2 : Int) (h : Pks N w v l) (hm : w.heap[Bm]? = some (.cells #[.int .i64 m0, .int .i64 m1, .int .i64 m2] 55 (0, 0))) :
    Calls Tryz.prog 112 #[v, .func (.func 113) #[] #[.pointer (some ⟨Bm, 0, none⟩)]] w fun e w' => e = .returned (.bool (metIn l (m0, m1, m2))) ∧ Below w.heap.size w w' := by
  have CI := hide (indexMeets_any w v l Bm m0 m1 m2 h hm)
  generalize metIn l (m0, m1, m2) = q at *
  clear h hm
  go_enter Tryz.func112, Tryz.ntmps112
  go_wp2_with fail
  refine (unhide CI).mono ?_
  rintro e w2 ⟨r, rfl, hr, b⟩
  have HB := hide b
  clear b CI
  rcases hr with ⟨rfl, rfl⟩ | ⟨hr0, rfl⟩
  · go_wp2
    go_ret
    exact ⟨rfl, unhide HB⟩
  · have hr1 : decide (0 ≤ r) = true := decide_eq_true hr0
    go_wp2
    go_ret
    exact ⟨rfl, unhide HB⟩

set_option maxHeartbeats 4000000 in
set_option maxRecDepth 100000 in
theorem meets_any {B : Nat} (w : World) (M cnt : Nat) (V : Int → Value) (E : Int → List El) (m0 m1 m2 : Int) (hM : MapV w M cnt V) (hS : Shv B w V E) (hn : 1 ≤ m0 ∧ m0 ≤ 4) (hl : (E m0).length ≤ 900) (hsm : ∀ e ∈ E m0, e.1.2.2.1.length ≤ 1000 ∧ e.1.2.2.2.length ≤ 1000) :
    Calls Tryz.prog 60 #[.map (some M), .agg #[.int .i64 m0, .int .i64 m1, .int .i64 m2]] w fun e w' => e = .returned (.bool (metIn ((E m0).map (·.1)) (m0, m1, m2))) ∧ Below w.heap.size w w' := by
  have hpk : Pks (fun b => B ≤ b) w (V m0) ((E m0).map (·.1)) := (hS.ans m0).pks (by omega) hsm
  obtain ⟨sa, sc, hsv⟩ := hpk.slice
  rw [List.length_map] at hsv
  have HSV := hide hsv
  rw [hsv] at hpk
  have b0 := below1 w (.cells #[.int .i64 m0, .int .i64 m1, .int .i64 m2] 55)
  have hx := heap_alloc_new w (.cells #[.int .i64 m0, .int .i64 m1, .int .i64 m2] 55)
  have CC := hide (fun W v h1 h2 => containsMeets_any (N := fun b => B ≤ b) W v ((E m0).map (·.1)) w.heap.size m0 m1 m2 h1 h2)
  generalize metIn ((E m0).map (·.1)) (m0, m1, m2) = q at *
  have HX := hide hx
  have HM := hide (hM.later b0)
  have HP := hide (hpk.later b0)
  have BW := hide b0
  clear b0 hM hS hpk hsv hsm hl hx
  obtain ⟨hn0, hn1⟩ := hn
  obtain ⟨x0, x1, x2⟩ : _ ∧ _ ∧ _ := ⟨cellOf (unhide HX) 0, cellOf (unhide HX) 1, cellOf (unhide HX) 2⟩
  go_enter Tryz.func60, Tryz.ntmps60
  go_wp2_with (at_lookup; refine wpList_lookV _ rfl _ _ _ rfl 31 Tryz.underlying81 (zeroP _) M cnt V rfl (unhide HM) m0 rfl (by omega) (by omega) ?_; rw [unhide HSV])
  refine (unhide CC _ _ (unhide HP) (unhide HX)).mono ?_
  rintro e w2 ⟨rfl, b⟩
  have HB := hide ((unhide BW).trans (b.mono (unhide BW).size))
  clear b CC x0 x1 x2
  go_wp2
  go_ret
  exact ⟨rfl, unhide HB⟩
end Go.Proofs.YtlnieobmhofkdaaGreatDoor
