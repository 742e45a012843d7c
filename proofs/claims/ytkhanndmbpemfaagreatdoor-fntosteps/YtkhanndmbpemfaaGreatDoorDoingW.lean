import Derived.Test.YtkhanndmbpemfaaGreatDoorMix17
import Derived.Test.YtkhanndmbpemfaaGreatDoorMix4
/- What impl's two tables of method values are: a map of the call's own, at each kind of step the method that does it, bound to the disk that is written to. -/
namespace Go.Proofs.YtkhanndmbpemfaaGreatDoor
open Go.RowKit Go.Maps

set_option linter.unusedSimpArgs false in
set_option maxHeartbeats 8000000 in
set_option maxRecDepth 100000 in
theorem doing_any (w : World) (O : Nat) :
    Calls Tryz.prog 34 #[.pointer (some ⟨O, 0, none⟩)] w fun e w' => ∃ V, e = .returned (.map (some w.heap.size)) ∧ MapF w' w.heap.size 4 V ∧ (V 1 = .func (.func 66) #[.pointer (some ⟨O, 0, none⟩)] #[] ∧ V 2 = .func (.func 67) #[.pointer (some ⟨O, 0, none⟩)] #[] ∧ V 3 = .func (.func 68) #[.pointer (some ⟨O, 0, none⟩)] #[] ∧ V 4 = .func (.func 69) #[.pointer (some ⟨O, 0, none⟩)] #[]) ∧ Below w.heap.size w w' := by
  have hmm := @run_makeMap Tryz.prog
  go_enter Tryz.func34, Tryz.ntmps34
  go_wp2_with fail
  refine wp_region_held_drew (S := fun _ => True) (by kernel_rfl) trivial (fun hHeld => ?_)
  refine anyH_at (i := 1) (d := some 4) rfl rfl (by kernel_rfl) (by kernel_rfl) (by kernel_rfl) (fun _ _ _ h => h) (by rfl) (v := ?_) ?_ (by assumption) ?_
  rotate_left
  · (intro w hSw; (try dsimp only at hSw); go_simp <;> with_reducible rfl)
  simp only [Act.put, List.setIfInBounds_toArray, List.set_cons_zero, List.set_cons_succ]
  refine anyH_at (i := 2) (d := some 5) rfl rfl (by kernel_rfl) (by kernel_rfl) (by kernel_rfl) (fun _ _ _ h => h) (by rfl) (v := ?_) ?_ (by assumption) ?_
  rotate_left
  · (intro w hSw; (try dsimp only at hSw); go_simp <;> with_reducible rfl)
  simp only [Act.put, List.setIfInBounds_toArray, List.set_cons_zero, List.set_cons_succ]
  refine anyH_at (i := 3) (d := some 6) rfl rfl (by kernel_rfl) (by kernel_rfl) (by kernel_rfl) (fun _ _ _ h => h) (by rfl) (v := ?_) ?_ (by assumption) ?_
  rotate_left
  · (intro w hSw; (try dsimp only at hSw); go_simp <;> with_reducible rfl)
  simp only [Act.put, List.setIfInBounds_toArray, List.set_cons_zero, List.set_cons_succ]
  refine anyH_at (i := 4) (d := some 7) rfl rfl (by kernel_rfl) (by kernel_rfl) (by kernel_rfl) (fun _ _ _ h => h) (by rfl) (v := ?_) ?_ (by assumption) ?_
  rotate_left
  · (intro w hSw; (try dsimp only at hSw); go_simp <;> with_reducible rfl)
  simp only [Act.put, List.setIfInBounds_toArray, List.set_cons_zero, List.set_cons_succ]
  refine anyH_at (i := 6) (d := some 8) rfl rfl (by kernel_rfl) (by kernel_rfl) (by kernel_rfl) (fun _ _ _ h => h) (by rfl) (v := ?_) ?_ (by assumption) ?_
  rotate_left
  · (intro w hSw; (try dsimp only at hSw); go_simp <;> with_reducible rfl)
  simp only [Act.put, List.setIfInBounds_toArray, List.set_cons_zero, List.set_cons_succ]
  refine anyH_at (i := 7) (d := some 9) rfl rfl (by kernel_rfl) (by kernel_rfl) (by kernel_rfl) (fun _ _ _ h => h) (by rfl) (v := ?_) ?_ (by assumption) ?_
  rotate_left
  · (intro w hSw; (try dsimp only at hSw); go_simp <;> with_reducible rfl)
  simp only [Act.put, List.setIfInBounds_toArray, List.set_cons_zero, List.set_cons_succ]
  refine anyH_at (i := 9) (d := some 10) rfl rfl (by kernel_rfl) (by kernel_rfl) (by kernel_rfl) (fun _ _ _ h => h) (by rfl) (v := ?_) ?_ (by assumption) ?_
  rotate_left
  · (intro w hSw; (try dsimp only at hSw); go_simp <;> with_reducible rfl)
  simp only [Act.put, List.setIfInBounds_toArray, List.set_cons_zero, List.set_cons_succ]
  refine anyH_at (i := 10) (d := some 11) rfl rfl (by kernel_rfl) (by kernel_rfl) (by kernel_rfl) (fun _ _ _ h => h) (by rfl) (v := ?_) ?_ (by assumption) ?_
  rotate_left
  · (intro w hSw; (try dsimp only at hSw); go_simp <;> with_reducible rfl)
  simp only [Act.put, List.setIfInBounds_toArray, List.set_cons_zero, List.set_cons_succ]
  refine anyH_at (i := 12) (d := some 12) rfl rfl (by kernel_rfl) (by kernel_rfl) (by kernel_rfl) (fun _ _ _ h => h) (by rfl) (v := ?_) ?_ (by assumption) ?_
  rotate_left
  · (intro w hSw; (try dsimp only at hSw); go_simp <;> with_reducible rfl)
  simp only [Act.put, List.setIfInBounds_toArray, List.set_cons_zero, List.set_cons_succ]
  refine anyH_at (i := 13) (d := some 13) rfl rfl (by kernel_rfl) (by kernel_rfl) (by kernel_rfl) (fun _ _ _ h => h) (by rfl) (v := ?_) ?_ (by assumption) ?_
  rotate_left
  · (intro w hSw; (try dsimp only at hSw); go_simp <;> with_reducible rfl)
  simp only [Act.put, List.setIfInBounds_toArray, List.set_cons_zero, List.set_cons_succ]
  refine anyH_at (i := 14) (d := some 14) rfl rfl (by kernel_rfl) (by kernel_rfl) (by kernel_rfl) (fun _ _ _ h => h) (by rfl) (v := ?_) ?_ (by assumption) ?_
  rotate_left
  · (intro w hSw; (try dsimp only at hSw); go_simp <;> with_reducible rfl)
  simp only [Act.put, List.setIfInBounds_toArray, List.set_cons_zero, List.set_cons_succ]
  refine anyH_at (i := 15) (d := some 15) rfl rfl (by kernel_rfl) (by kernel_rfl) (by kernel_rfl) (fun _ _ _ h => h) (by rfl) (v := ?_) ?_ (by assumption) ?_
  rotate_left
  · (intro w hSw; (try dsimp only at hSw); go_simp <;> with_reducible rfl)
  simp only [Act.put, List.setIfInBounds_toArray, List.set_cons_zero, List.set_cons_succ]
  refine wpAnyH_ready (rs := [0]) (by kernel_rfl) (by simp) ?_
  refine AllReadyH.cons rfl (fun K hK => ?_) AllReadyH.nil
  go_simp
  have hM0 : MapF (World.alloc w (Obj.map #[] 0)).drew w.heap.size 0 (fun _ => nilF) := MapF.made w
  have hB0 : Below w.heap.size w (World.alloc w (Obj.map #[] 0)).drew := (below1 w _).drew
  clear hmm
  refine hK.out _ _ trivial (fun hHeldN => ?_)
  clear hHeld
  have hHeld := hHeldN
  clear hHeldN
  clear hK K
  try simp only [Act.put, List.setIfInBounds_toArray, List.set_cons_zero, List.set_cons_succ]
  generalize (World.alloc w (Obj.map #[] 0)).drew = u0 at *
  refine wpAnyH_ready (rs := [5, 8, 11, 16]) (by kernel_rfl) (by simp) ?_
  refine (AllReadyH.cons rfl (fun K hK => ?_) (AllReadyH.cons rfl (fun K hK => ?_) (AllReadyH.cons rfl (fun K hK => ?_) (AllReadyH.cons rfl (fun K hK => ?_) AllReadyH.nil))))
  · rw [if_pos (by rfl)]
    refine wp_putF _ _ _ _ _ rfl 66 Tryz.underlying64 w.heap.size 0 _ rfl hM0 (by unfold maxLen; omega) 1 rfl (.func (.func 66) #[.pointer (some ⟨O, 0, none⟩)] #[]) rfl (by omega) (by omega) ?_
    intro u1 hM1 hg1
    have hB1 : Below w.heap.size w u1 := hB0.grown hg1 hB0.size (fun q hq => by have := Option.some.inj hq; omega)
    refine hK.out _ _ trivial (fun hHeldN => ?_)
    clear hHeld
    have hHeld := hHeldN
    clear hHeldN
    clear hK K hM0 hB0 hg1
    try simp only [Act.put, List.setIfInBounds_toArray, List.set_cons_zero, List.set_cons_succ]
    refine wpAnyH_ready (rs := [8, 11, 16]) (by kernel_rfl) (by simp) ?_
    refine (AllReadyH.cons rfl (fun K hK => ?_) (AllReadyH.cons rfl (fun K hK => ?_) (AllReadyH.cons rfl (fun K hK => ?_) AllReadyH.nil)))
    · rw [if_pos (by rfl)]
      refine wp_putF _ _ _ _ _ rfl 66 Tryz.underlying64 w.heap.size 1 _ rfl hM1 (by unfold maxLen; omega) 2 rfl (.func (.func 67) #[.pointer (some ⟨O, 0, none⟩)] #[]) rfl (by omega) (by omega) ?_
      intro u2 hM2 hg2
      have hB2 : Below w.heap.size w u2 := hB1.grown hg2 hB1.size (fun q hq => by have := Option.some.inj hq; omega)
      refine hK.out _ _ trivial (fun hHeldN => ?_)
      clear hHeld
      have hHeld := hHeldN
      clear hHeldN
      clear hK K hM1 hB1 hg2
      try simp only [Act.put, List.setIfInBounds_toArray, List.set_cons_zero, List.set_cons_succ]
      refine wpAnyH_ready (rs := [11, 16]) (by kernel_rfl) (by simp) ?_
      refine (AllReadyH.cons rfl (fun K hK => ?_) (AllReadyH.cons rfl (fun K hK => ?_) AllReadyH.nil))
      · rw [if_pos (by rfl)]
        refine wp_putF _ _ _ _ _ rfl 66 Tryz.underlying64 w.heap.size 2 _ rfl hM2 (by unfold maxLen; omega) 3 rfl (.func (.func 68) #[.pointer (some ⟨O, 0, none⟩)] #[]) rfl (by omega) (by omega) ?_
        intro u3 hM3 hg3
        have hB3 : Below w.heap.size w u3 := hB2.grown hg3 hB2.size (fun q hq => by have := Option.some.inj hq; omega)
        refine hK.out _ _ trivial (fun hHeldN => ?_)
        clear hHeld
        have hHeld := hHeldN
        clear hHeldN
        clear hK K hM2 hB2 hg3
        try simp only [Act.put, List.setIfInBounds_toArray, List.set_cons_zero, List.set_cons_succ]
        refine wpAnyH_ready (rs := [16]) (by kernel_rfl) (by simp) ?_
        refine (AllReadyH.cons rfl (fun K hK => ?_) AllReadyH.nil)
        · rw [if_pos (by rfl)]
          refine wp_putF _ _ _ _ _ rfl 66 Tryz.underlying64 w.heap.size 3 _ rfl hM3 (by unfold maxLen; omega) 4 rfl (.func (.func 69) #[.pointer (some ⟨O, 0, none⟩)] #[]) rfl (by omega) (by omega) ?_
          intro u4 hM4 hg4
          have hB4 : Below w.heap.size w u4 := hB3.grown hg4 hB3.size (fun q hq => by have := Option.some.inj hq; omega)
          refine hK.out _ _ trivial (fun hHeldN => ?_)
          clear hHeld
          have hHeld := hHeldN
          clear hHeldN
          clear hK K hM3 hB3 hg4
          try simp only [Act.put, List.setIfInBounds_toArray, List.set_cons_zero, List.set_cons_succ]
          refine anyH_at (i := 17) (d := some 16) rfl rfl (by kernel_rfl) (by kernel_rfl) (by kernel_rfl) (fun _ _ _ h => h) (by rfl) (v := ?_) ?_ (by assumption) ?_
          rotate_left
          · (intro w hSw; (try dsimp only at hSw); go_simp <;> with_reducible rfl)
          simp only [Act.put, List.setIfInBounds_toArray, List.set_cons_zero, List.set_cons_succ]
          refine anyH_at (i := 18) (d := some 2) rfl rfl (by kernel_rfl) (by kernel_rfl) (by kernel_rfl) (fun _ _ _ h => h) (by rfl) (v := ?_) ?_ (by assumption) ?_
          rotate_left
          · (intro w hSw; (try dsimp only at hSw); go_simp <;> with_reducible rfl)
          simp only [Act.put, List.setIfInBounds_toArray, List.set_cons_zero, List.set_cons_succ]
          refine wpAnyH_done (by kernel_rfl) ?_ _
          go_wp2
          go_ret
          exact ⟨rfl, _, hM4, by refine ⟨?_, ?_, ?_, ?_⟩ <;> simp, hB4⟩
      · rw [if_pos (by rfl)]
        refine wp_putF _ _ _ _ _ rfl 66 Tryz.underlying64 w.heap.size 2 _ rfl hM2 (by unfold maxLen; omega) 4 rfl (.func (.func 69) #[.pointer (some ⟨O, 0, none⟩)] #[]) rfl (by omega) (by omega) ?_
        intro u3 hM3 hg3
        have hB3 : Below w.heap.size w u3 := hB2.grown hg3 hB2.size (fun q hq => by have := Option.some.inj hq; omega)
        refine hK.out _ _ trivial (fun hHeldN => ?_)
        clear hHeld
        have hHeld := hHeldN
        clear hHeldN
        clear hK K hM2 hB2 hg3
        try simp only [Act.put, List.setIfInBounds_toArray, List.set_cons_zero, List.set_cons_succ]
        refine wpAnyH_ready (rs := [11]) (by kernel_rfl) (by simp) ?_
        refine (AllReadyH.cons rfl (fun K hK => ?_) AllReadyH.nil)
        · rw [if_pos (by rfl)]
          refine wp_putF _ _ _ _ _ rfl 66 Tryz.underlying64 w.heap.size 3 _ rfl hM3 (by unfold maxLen; omega) 3 rfl (.func (.func 68) #[.pointer (some ⟨O, 0, none⟩)] #[]) rfl (by omega) (by omega) ?_
          intro u4 hM4 hg4
          have hB4 : Below w.heap.size w u4 := hB3.grown hg4 hB3.size (fun q hq => by have := Option.some.inj hq; omega)
          refine hK.out _ _ trivial (fun hHeldN => ?_)
          clear hHeld
          have hHeld := hHeldN
          clear hHeldN
          clear hK K hM3 hB3 hg4
          try simp only [Act.put, List.setIfInBounds_toArray, List.set_cons_zero, List.set_cons_succ]
          refine anyH_at (i := 17) (d := some 16) rfl rfl (by kernel_rfl) (by kernel_rfl) (by kernel_rfl) (fun _ _ _ h => h) (by rfl) (v := ?_) ?_ (by assumption) ?_
          rotate_left
          · (intro w hSw; (try dsimp only at hSw); go_simp <;> with_reducible rfl)
          simp only [Act.put, List.setIfInBounds_toArray, List.set_cons_zero, List.set_cons_succ]
          refine anyH_at (i := 18) (d := some 2) rfl rfl (by kernel_rfl) (by kernel_rfl) (by kernel_rfl) (fun _ _ _ h => h) (by rfl) (v := ?_) ?_ (by assumption) ?_
          rotate_left
          · (intro w hSw; (try dsimp only at hSw); go_simp <;> with_reducible rfl)
          simp only [Act.put, List.setIfInBounds_toArray, List.set_cons_zero, List.set_cons_succ]
          refine wpAnyH_done (by kernel_rfl) ?_ _
          go_wp2
          go_ret
          exact ⟨rfl, _, hM4, by refine ⟨?_, ?_, ?_, ?_⟩ <;> simp, hB4⟩
    · rw [if_pos (by rfl)]
      refine wp_putF _ _ _ _ _ rfl 66 Tryz.underlying64 w.heap.size 1 _ rfl hM1 (by unfold maxLen; omega) 3 rfl (.func (.func 68) #[.pointer (some ⟨O, 0, none⟩)] #[]) rfl (by omega) (by omega) ?_
      intro u2 hM2 hg2
      have hB2 : Below w.heap.size w u2 := hB1.grown hg2 hB1.size (fun q hq => by have := Option.some.inj hq; omega)
      refine hK.out _ _ trivial (fun hHeldN => ?_)
      clear hHeld
      have hHeld := hHeldN
      clear hHeldN
      clear hK K hM1 hB1 hg2
      try simp only [Act.put, List.setIfInBounds_toArray, List.set_cons_zero, List.set_cons_succ]
      refine wpAnyH_ready (rs := [8, 16]) (by kernel_rfl) (by simp) ?_
      refine (AllReadyH.cons rfl (fun K hK => ?_) (AllReadyH.cons rfl (fun K hK => ?_) AllReadyH.nil))
      · rw [if_pos (by rfl)]
        refine wp_putF _ _ _ _ _ rfl 66 Tryz.underlying64 w.heap.size 2 _ rfl hM2 (by unfold maxLen; omega) 2 rfl (.func (.func 67) #[.pointer (some ⟨O, 0, none⟩)] #[]) rfl (by omega) (by omega) ?_
        intro u3 hM3 hg3
        have hB3 : Below w.heap.size w u3 := hB2.grown hg3 hB2.size (fun q hq => by have := Option.some.inj hq; omega)
        refine hK.out _ _ trivial (fun hHeldN => ?_)
        clear hHeld
        have hHeld := hHeldN
        clear hHeldN
        clear hK K hM2 hB2 hg3
        try simp only [Act.put, List.setIfInBounds_toArray, List.set_cons_zero, List.set_cons_succ]
        refine wpAnyH_ready (rs := [16]) (by kernel_rfl) (by simp) ?_
        refine (AllReadyH.cons rfl (fun K hK => ?_) AllReadyH.nil)
        · rw [if_pos (by rfl)]
          refine wp_putF _ _ _ _ _ rfl 66 Tryz.underlying64 w.heap.size 3 _ rfl hM3 (by unfold maxLen; omega) 4 rfl (.func (.func 69) #[.pointer (some ⟨O, 0, none⟩)] #[]) rfl (by omega) (by omega) ?_
          intro u4 hM4 hg4
          have hB4 : Below w.heap.size w u4 := hB3.grown hg4 hB3.size (fun q hq => by have := Option.some.inj hq; omega)
          refine hK.out _ _ trivial (fun hHeldN => ?_)
          clear hHeld
          have hHeld := hHeldN
          clear hHeldN
          clear hK K hM3 hB3 hg4
          try simp only [Act.put, List.setIfInBounds_toArray, List.set_cons_zero, List.set_cons_succ]
          refine anyH_at (i := 17) (d := some 16) rfl rfl (by kernel_rfl) (by kernel_rfl) (by kernel_rfl) (fun _ _ _ h => h) (by rfl) (v := ?_) ?_ (by assumption) ?_
          rotate_left
          · (intro w hSw; (try dsimp only at hSw); go_simp <;> with_reducible rfl)
          simp only [Act.put, List.setIfInBounds_toArray, List.set_cons_zero, List.set_cons_succ]
          refine anyH_at (i := 18) (d := some 2) rfl rfl (by kernel_rfl) (by kernel_rfl) (by kernel_rfl) (fun _ _ _ h => h) (by rfl) (v := ?_) ?_ (by assumption) ?_
          rotate_left
          · (intro w hSw; (try dsimp only at hSw); go_simp <;> with_reducible rfl)
          simp only [Act.put, List.setIfInBounds_toArray, List.set_cons_zero, List.set_cons_succ]
          refine wpAnyH_done (by kernel_rfl) ?_ _
          go_wp2
          go_ret
          exact ⟨rfl, _, hM4, by refine ⟨?_, ?_, ?_, ?_⟩ <;> simp, hB4⟩
      · rw [if_pos (by rfl)]
        refine wp_putF _ _ _ _ _ rfl 66 Tryz.underlying64 w.heap.size 2 _ rfl hM2 (by unfold maxLen; omega) 4 rfl (.func (.func 69) #[.pointer (some ⟨O, 0, none⟩)] #[]) rfl (by omega) (by omega) ?_
        intro u3 hM3 hg3
        have hB3 : Below w.heap.size w u3 := hB2.grown hg3 hB2.size (fun q hq => by have := Option.some.inj hq; omega)
        refine hK.out _ _ trivial (fun hHeldN => ?_)
        clear hHeld
        have hHeld := hHeldN
        clear hHeldN
        clear hK K hM2 hB2 hg3
        try simp only [Act.put, List.setIfInBounds_toArray, List.set_cons_zero, List.set_cons_succ]
        refine wpAnyH_ready (rs := [8]) (by kernel_rfl) (by simp) ?_
        refine (AllReadyH.cons rfl (fun K hK => ?_) AllReadyH.nil)
        · rw [if_pos (by rfl)]
          refine wp_putF _ _ _ _ _ rfl 66 Tryz.underlying64 w.heap.size 3 _ rfl hM3 (by unfold maxLen; omega) 2 rfl (.func (.func 67) #[.pointer (some ⟨O, 0, none⟩)] #[]) rfl (by omega) (by omega) ?_
          intro u4 hM4 hg4
          have hB4 : Below w.heap.size w u4 := hB3.grown hg4 hB3.size (fun q hq => by have := Option.some.inj hq; omega)
          refine hK.out _ _ trivial (fun hHeldN => ?_)
          clear hHeld
          have hHeld := hHeldN
          clear hHeldN
          clear hK K hM3 hB3 hg4
          try simp only [Act.put, List.setIfInBounds_toArray, List.set_cons_zero, List.set_cons_succ]
          refine anyH_at (i := 17) (d := some 16) rfl rfl (by kernel_rfl) (by kernel_rfl) (by kernel_rfl) (fun _ _ _ h => h) (by rfl) (v := ?_) ?_ (by assumption) ?_
          rotate_left
          · (intro w hSw; (try dsimp only at hSw); go_simp <;> with_reducible rfl)
          simp only [Act.put, List.setIfInBounds_toArray, List.set_cons_zero, List.set_cons_succ]
          refine anyH_at (i := 18) (d := some 2) rfl rfl (by kernel_rfl) (by kernel_rfl) (by kernel_rfl) (fun _ _ _ h => h) (by rfl) (v := ?_) ?_ (by assumption) ?_
          rotate_left
          · (intro w hSw; (try dsimp only at hSw); go_simp <;> with_reducible rfl)
          simp only [Act.put, List.setIfInBounds_toArray, List.set_cons_zero, List.set_cons_succ]
          refine wpAnyH_done (by kernel_rfl) ?_ _
          go_wp2
          go_ret
          exact ⟨rfl, _, hM4, by refine ⟨?_, ?_, ?_, ?_⟩ <;> simp, hB4⟩
    · rw [if_pos (by rfl)]
      refine wp_putF _ _ _ _ _ rfl 66 Tryz.underlying64 w.heap.size 1 _ rfl hM1 (by unfold maxLen; omega) 4 rfl (.func (.func 69) #[.pointer (some ⟨O, 0, none⟩)] #[]) rfl (by omega) (by omega) ?_
      intro u2 hM2 hg2
      have hB2 : Below w.heap.size w u2 := hB1.grown hg2 hB1.size (fun q hq => by have := Option.some.inj hq; omega)
      refine hK.out _ _ trivial (fun hHeldN => ?_)
      clear hHeld
      have hHeld := hHeldN
      clear hHeldN
      clear hK K hM1 hB1 hg2
      try simp only [Act.put, List.setIfInBounds_toArray, List.set_cons_zero, List.set_cons_succ]
      refine wpAnyH_ready (rs := [8, 11]) (by kernel_rfl) (by simp) ?_
      refine (AllReadyH.cons rfl (fun K hK => ?_) (AllReadyH.cons rfl (fun K hK => ?_) AllReadyH.nil))
      · rw [if_pos (by rfl)]
        refine wp_putF _ _ _ _ _ rfl 66 Tryz.underlying64 w.heap.size 2 _ rfl hM2 (by unfold maxLen; omega) 2 rfl (.func (.func 67) #[.pointer (some ⟨O, 0, none⟩)] #[]) rfl (by omega) (by omega) ?_
        intro u3 hM3 hg3
        have hB3 : Below w.heap.size w u3 := hB2.grown hg3 hB2.size (fun q hq => by have := Option.some.inj hq; omega)
        refine hK.out _ _ trivial (fun hHeldN => ?_)
        clear hHeld
        have hHeld := hHeldN
        clear hHeldN
        clear hK K hM2 hB2 hg3
        try simp only [Act.put, List.setIfInBounds_toArray, List.set_cons_zero, List.set_cons_succ]
        refine wpAnyH_ready (rs := [11]) (by kernel_rfl) (by simp) ?_
        refine (AllReadyH.cons rfl (fun K hK => ?_) AllReadyH.nil)
        · rw [if_pos (by rfl)]
          refine wp_putF _ _ _ _ _ rfl 66 Tryz.underlying64 w.heap.size 3 _ rfl hM3 (by unfold maxLen; omega) 3 rfl (.func (.func 68) #[.pointer (some ⟨O, 0, none⟩)] #[]) rfl (by omega) (by omega) ?_
          intro u4 hM4 hg4
          have hB4 : Below w.heap.size w u4 := hB3.grown hg4 hB3.size (fun q hq => by have := Option.some.inj hq; omega)
          refine hK.out _ _ trivial (fun hHeldN => ?_)
          clear hHeld
          have hHeld := hHeldN
          clear hHeldN
          clear hK K hM3 hB3 hg4
          try simp only [Act.put, List.setIfInBounds_toArray, List.set_cons_zero, List.set_cons_succ]
          refine anyH_at (i := 17) (d := some 16) rfl rfl (by kernel_rfl) (by kernel_rfl) (by kernel_rfl) (fun _ _ _ h => h) (by rfl) (v := ?_) ?_ (by assumption) ?_
          rotate_left
          · (intro w hSw; (try dsimp only at hSw); go_simp <;> with_reducible rfl)
          simp only [Act.put, List.setIfInBounds_toArray, List.set_cons_zero, List.set_cons_succ]
          refine anyH_at (i := 18) (d := some 2) rfl rfl (by kernel_rfl) (by kernel_rfl) (by kernel_rfl) (fun _ _ _ h => h) (by rfl) (v := ?_) ?_ (by assumption) ?_
          rotate_left
          · (intro w hSw; (try dsimp only at hSw); go_simp <;> with_reducible rfl)
          simp only [Act.put, List.setIfInBounds_toArray, List.set_cons_zero, List.set_cons_succ]
          refine wpAnyH_done (by kernel_rfl) ?_ _
          go_wp2
          go_ret
          exact ⟨rfl, _, hM4, by refine ⟨?_, ?_, ?_, ?_⟩ <;> simp, hB4⟩
      · rw [if_pos (by rfl)]
        refine wp_putF _ _ _ _ _ rfl 66 Tryz.underlying64 w.heap.size 2 _ rfl hM2 (by unfold maxLen; omega) 3 rfl (.func (.func 68) #[.pointer (some ⟨O, 0, none⟩)] #[]) rfl (by omega) (by omega) ?_
        intro u3 hM3 hg3
        have hB3 : Below w.heap.size w u3 := hB2.grown hg3 hB2.size (fun q hq => by have := Option.some.inj hq; omega)
        refine hK.out _ _ trivial (fun hHeldN => ?_)
        clear hHeld
        have hHeld := hHeldN
        clear hHeldN
        clear hK K hM2 hB2 hg3
        try simp only [Act.put, List.setIfInBounds_toArray, List.set_cons_zero, List.set_cons_succ]
        refine wpAnyH_ready (rs := [8]) (by kernel_rfl) (by simp) ?_
        refine (AllReadyH.cons rfl (fun K hK => ?_) AllReadyH.nil)
        · rw [if_pos (by rfl)]
          refine wp_putF _ _ _ _ _ rfl 66 Tryz.underlying64 w.heap.size 3 _ rfl hM3 (by unfold maxLen; omega) 2 rfl (.func (.func 67) #[.pointer (some ⟨O, 0, none⟩)] #[]) rfl (by omega) (by omega) ?_
          intro u4 hM4 hg4
          have hB4 : Below w.heap.size w u4 := hB3.grown hg4 hB3.size (fun q hq => by have := Option.some.inj hq; omega)
          refine hK.out _ _ trivial (fun hHeldN => ?_)
          clear hHeld
          have hHeld := hHeldN
          clear hHeldN
          clear hK K hM3 hB3 hg4
          try simp only [Act.put, List.setIfInBounds_toArray, List.set_cons_zero, List.set_cons_succ]
          refine anyH_at (i := 17) (d := some 16) rfl rfl (by kernel_rfl) (by kernel_rfl) (by kernel_rfl) (fun _ _ _ h => h) (by rfl) (v := ?_) ?_ (by assumption) ?_
          rotate_left
          · (intro w hSw; (try dsimp only at hSw); go_simp <;> with_reducible rfl)
          simp only [Act.put, List.setIfInBounds_toArray, List.set_cons_zero, List.set_cons_succ]
          refine anyH_at (i := 18) (d := some 2) rfl rfl (by kernel_rfl) (by kernel_rfl) (by kernel_rfl) (fun _ _ _ h => h) (by rfl) (v := ?_) ?_ (by assumption) ?_
          rotate_left
          · (intro w hSw; (try dsimp only at hSw); go_simp <;> with_reducible rfl)
          simp only [Act.put, List.setIfInBounds_toArray, List.set_cons_zero, List.set_cons_succ]
          refine wpAnyH_done (by kernel_rfl) ?_ _
          go_wp2
          go_ret
          exact ⟨rfl, _, hM4, by refine ⟨?_, ?_, ?_, ?_⟩ <;> simp, hB4⟩
  · rw [if_pos (by rfl)]
    refine wp_putF _ _ _ _ _ rfl 66 Tryz.underlying64 w.heap.size 0 _ rfl hM0 (by unfold maxLen; omega) 2 rfl (.func (.func 67) #[.pointer (some ⟨O, 0, none⟩)] #[]) rfl (by omega) (by omega) ?_
    intro u1 hM1 hg1
    have hB1 : Below w.heap.size w u1 := hB0.grown hg1 hB0.size (fun q hq => by have := Option.some.inj hq; omega)
    refine hK.out _ _ trivial (fun hHeldN => ?_)
    clear hHeld
    have hHeld := hHeldN
    clear hHeldN
    clear hK K hM0 hB0 hg1
    try simp only [Act.put, List.setIfInBounds_toArray, List.set_cons_zero, List.set_cons_succ]
    refine wpAnyH_ready (rs := [5, 11, 16]) (by kernel_rfl) (by simp) ?_
    refine (AllReadyH.cons rfl (fun K hK => ?_) (AllReadyH.cons rfl (fun K hK => ?_) (AllReadyH.cons rfl (fun K hK => ?_) AllReadyH.nil)))
    · rw [if_pos (by rfl)]
      refine wp_putF _ _ _ _ _ rfl 66 Tryz.underlying64 w.heap.size 1 _ rfl hM1 (by unfold maxLen; omega) 1 rfl (.func (.func 66) #[.pointer (some ⟨O, 0, none⟩)] #[]) rfl (by omega) (by omega) ?_
      intro u2 hM2 hg2
      have hB2 : Below w.heap.size w u2 := hB1.grown hg2 hB1.size (fun q hq => by have := Option.some.inj hq; omega)
      refine hK.out _ _ trivial (fun hHeldN => ?_)
      clear hHeld
      have hHeld := hHeldN
      clear hHeldN
      clear hK K hM1 hB1 hg2
      try simp only [Act.put, List.setIfInBounds_toArray, List.set_cons_zero, List.set_cons_succ]
      refine wpAnyH_ready (rs := [11, 16]) (by kernel_rfl) (by simp) ?_
      refine (AllReadyH.cons rfl (fun K hK => ?_) (AllReadyH.cons rfl (fun K hK => ?_) AllReadyH.nil))
      · rw [if_pos (by rfl)]
        refine wp_putF _ _ _ _ _ rfl 66 Tryz.underlying64 w.heap.size 2 _ rfl hM2 (by unfold maxLen; omega) 3 rfl (.func (.func 68) #[.pointer (some ⟨O, 0, none⟩)] #[]) rfl (by omega) (by omega) ?_
        intro u3 hM3 hg3
        have hB3 : Below w.heap.size w u3 := hB2.grown hg3 hB2.size (fun q hq => by have := Option.some.inj hq; omega)
        refine hK.out _ _ trivial (fun hHeldN => ?_)
        clear hHeld
        have hHeld := hHeldN
        clear hHeldN
        clear hK K hM2 hB2 hg3
        try simp only [Act.put, List.setIfInBounds_toArray, List.set_cons_zero, List.set_cons_succ]
        refine wpAnyH_ready (rs := [16]) (by kernel_rfl) (by simp) ?_
        refine (AllReadyH.cons rfl (fun K hK => ?_) AllReadyH.nil)
        · rw [if_pos (by rfl)]
          refine wp_putF _ _ _ _ _ rfl 66 Tryz.underlying64 w.heap.size 3 _ rfl hM3 (by unfold maxLen; omega) 4 rfl (.func (.func 69) #[.pointer (some ⟨O, 0, none⟩)] #[]) rfl (by omega) (by omega) ?_
          intro u4 hM4 hg4
          have hB4 : Below w.heap.size w u4 := hB3.grown hg4 hB3.size (fun q hq => by have := Option.some.inj hq; omega)
          refine hK.out _ _ trivial (fun hHeldN => ?_)
          clear hHeld
          have hHeld := hHeldN
          clear hHeldN
          clear hK K hM3 hB3 hg4
          try simp only [Act.put, List.setIfInBounds_toArray, List.set_cons_zero, List.set_cons_succ]
          refine anyH_at (i := 17) (d := some 16) rfl rfl (by kernel_rfl) (by kernel_rfl) (by kernel_rfl) (fun _ _ _ h => h) (by rfl) (v := ?_) ?_ (by assumption) ?_
          rotate_left
          · (intro w hSw; (try dsimp only at hSw); go_simp <;> with_reducible rfl)
          simp only [Act.put, List.setIfInBounds_toArray, List.set_cons_zero, List.set_cons_succ]
          refine anyH_at (i := 18) (d := some 2) rfl rfl (by kernel_rfl) (by kernel_rfl) (by kernel_rfl) (fun _ _ _ h => h) (by rfl) (v := ?_) ?_ (by assumption) ?_
          rotate_left
          · (intro w hSw; (try dsimp only at hSw); go_simp <;> with_reducible rfl)
          simp only [Act.put, List.setIfInBounds_toArray, List.set_cons_zero, List.set_cons_succ]
          refine wpAnyH_done (by kernel_rfl) ?_ _
          go_wp2
          go_ret
          exact ⟨rfl, _, hM4, by refine ⟨?_, ?_, ?_, ?_⟩ <;> simp, hB4⟩
      · rw [if_pos (by rfl)]
        refine wp_putF _ _ _ _ _ rfl 66 Tryz.underlying64 w.heap.size 2 _ rfl hM2 (by unfold maxLen; omega) 4 rfl (.func (.func 69) #[.pointer (some ⟨O, 0, none⟩)] #[]) rfl (by omega) (by omega) ?_
        intro u3 hM3 hg3
        have hB3 : Below w.heap.size w u3 := hB2.grown hg3 hB2.size (fun q hq => by have := Option.some.inj hq; omega)
        refine hK.out _ _ trivial (fun hHeldN => ?_)
        clear hHeld
        have hHeld := hHeldN
        clear hHeldN
        clear hK K hM2 hB2 hg3
        try simp only [Act.put, List.setIfInBounds_toArray, List.set_cons_zero, List.set_cons_succ]
        refine wpAnyH_ready (rs := [11]) (by kernel_rfl) (by simp) ?_
        refine (AllReadyH.cons rfl (fun K hK => ?_) AllReadyH.nil)
        · rw [if_pos (by rfl)]
          refine wp_putF _ _ _ _ _ rfl 66 Tryz.underlying64 w.heap.size 3 _ rfl hM3 (by unfold maxLen; omega) 3 rfl (.func (.func 68) #[.pointer (some ⟨O, 0, none⟩)] #[]) rfl (by omega) (by omega) ?_
          intro u4 hM4 hg4
          have hB4 : Below w.heap.size w u4 := hB3.grown hg4 hB3.size (fun q hq => by have := Option.some.inj hq; omega)
          refine hK.out _ _ trivial (fun hHeldN => ?_)
          clear hHeld
          have hHeld := hHeldN
          clear hHeldN
          clear hK K hM3 hB3 hg4
          try simp only [Act.put, List.setIfInBounds_toArray, List.set_cons_zero, List.set_cons_succ]
          refine anyH_at (i := 17) (d := some 16) rfl rfl (by kernel_rfl) (by kernel_rfl) (by kernel_rfl) (fun _ _ _ h => h) (by rfl) (v := ?_) ?_ (by assumption) ?_
          rotate_left
          · (intro w hSw; (try dsimp only at hSw); go_simp <;> with_reducible rfl)
          simp only [Act.put, List.setIfInBounds_toArray, List.set_cons_zero, List.set_cons_succ]
          refine anyH_at (i := 18) (d := some 2) rfl rfl (by kernel_rfl) (by kernel_rfl) (by kernel_rfl) (fun _ _ _ h => h) (by rfl) (v := ?_) ?_ (by assumption) ?_
          rotate_left
          · (intro w hSw; (try dsimp only at hSw); go_simp <;> with_reducible rfl)
          simp only [Act.put, List.setIfInBounds_toArray, List.set_cons_zero, List.set_cons_succ]
          refine wpAnyH_done (by kernel_rfl) ?_ _
          go_wp2
          go_ret
          exact ⟨rfl, _, hM4, by refine ⟨?_, ?_, ?_, ?_⟩ <;> simp, hB4⟩
    · rw [if_pos (by rfl)]
      refine wp_putF _ _ _ _ _ rfl 66 Tryz.underlying64 w.heap.size 1 _ rfl hM1 (by unfold maxLen; omega) 3 rfl (.func (.func 68) #[.pointer (some ⟨O, 0, none⟩)] #[]) rfl (by omega) (by omega) ?_
      intro u2 hM2 hg2
      have hB2 : Below w.heap.size w u2 := hB1.grown hg2 hB1.size (fun q hq => by have := Option.some.inj hq; omega)
      refine hK.out _ _ trivial (fun hHeldN => ?_)
      clear hHeld
      have hHeld := hHeldN
      clear hHeldN
      clear hK K hM1 hB1 hg2
      try simp only [Act.put, List.setIfInBounds_toArray, List.set_cons_zero, List.set_cons_succ]
      refine wpAnyH_ready (rs := [5, 16]) (by kernel_rfl) (by simp) ?_
      refine (AllReadyH.cons rfl (fun K hK => ?_) (AllReadyH.cons rfl (fun K hK => ?_) AllReadyH.nil))
      · rw [if_pos (by rfl)]
        refine wp_putF _ _ _ _ _ rfl 66 Tryz.underlying64 w.heap.size 2 _ rfl hM2 (by unfold maxLen; omega) 1 rfl (.func (.func 66) #[.pointer (some ⟨O, 0, none⟩)] #[]) rfl (by omega) (by omega) ?_
        intro u3 hM3 hg3
        have hB3 : Below w.heap.size w u3 := hB2.grown hg3 hB2.size (fun q hq => by have := Option.some.inj hq; omega)
        refine hK.out _ _ trivial (fun hHeldN => ?_)
        clear hHeld
        have hHeld := hHeldN
        clear hHeldN
        clear hK K hM2 hB2 hg3
        try simp only [Act.put, List.setIfInBounds_toArray, List.set_cons_zero, List.set_cons_succ]
        refine wpAnyH_ready (rs := [16]) (by kernel_rfl) (by simp) ?_
        refine (AllReadyH.cons rfl (fun K hK => ?_) AllReadyH.nil)
        · rw [if_pos (by rfl)]
          refine wp_putF _ _ _ _ _ rfl 66 Tryz.underlying64 w.heap.size 3 _ rfl hM3 (by unfold maxLen; omega) 4 rfl (.func (.func 69) #[.pointer (some ⟨O, 0, none⟩)] #[]) rfl (by omega) (by omega) ?_
          intro u4 hM4 hg4
          have hB4 : Below w.heap.size w u4 := hB3.grown hg4 hB3.size (fun q hq => by have := Option.some.inj hq; omega)
          refine hK.out _ _ trivial (fun hHeldN => ?_)
          clear hHeld
          have hHeld := hHeldN
          clear hHeldN
          clear hK K hM3 hB3 hg4
          try simp only [Act.put, List.setIfInBounds_toArray, List.set_cons_zero, List.set_cons_succ]
          refine anyH_at (i := 17) (d := some 16) rfl rfl (by kernel_rfl) (by kernel_rfl) (by kernel_rfl) (fun _ _ _ h => h) (by rfl) (v := ?_) ?_ (by assumption) ?_
          rotate_left
          · (intro w hSw; (try dsimp only at hSw); go_simp <;> with_reducible rfl)
          simp only [Act.put, List.setIfInBounds_toArray, List.set_cons_zero, List.set_cons_succ]
          refine anyH_at (i := 18) (d := some 2) rfl rfl (by kernel_rfl) (by kernel_rfl) (by kernel_rfl) (fun _ _ _ h => h) (by rfl) (v := ?_) ?_ (by assumption) ?_
          rotate_left
          · (intro w hSw; (try dsimp only at hSw); go_simp <;> with_reducible rfl)
          simp only [Act.put, List.setIfInBounds_toArray, List.set_cons_zero, List.set_cons_succ]
          refine wpAnyH_done (by kernel_rfl) ?_ _
          go_wp2
          go_ret
          exact ⟨rfl, _, hM4, by refine ⟨?_, ?_, ?_, ?_⟩ <;> simp, hB4⟩
      · rw [if_pos (by rfl)]
        refine wp_putF _ _ _ _ _ rfl 66 Tryz.underlying64 w.heap.size 2 _ rfl hM2 (by unfold maxLen; omega) 4 rfl (.func (.func 69) #[.pointer (some ⟨O, 0, none⟩)] #[]) rfl (by omega) (by omega) ?_
        intro u3 hM3 hg3
        have hB3 : Below w.heap.size w u3 := hB2.grown hg3 hB2.size (fun q hq => by have := Option.some.inj hq; omega)
        refine hK.out _ _ trivial (fun hHeldN => ?_)
        clear hHeld
        have hHeld := hHeldN
        clear hHeldN
        clear hK K hM2 hB2 hg3
        try simp only [Act.put, List.setIfInBounds_toArray, List.set_cons_zero, List.set_cons_succ]
        refine wpAnyH_ready (rs := [5]) (by kernel_rfl) (by simp) ?_
        refine (AllReadyH.cons rfl (fun K hK => ?_) AllReadyH.nil)
        · rw [if_pos (by rfl)]
          refine wp_putF _ _ _ _ _ rfl 66 Tryz.underlying64 w.heap.size 3 _ rfl hM3 (by unfold maxLen; omega) 1 rfl (.func (.func 66) #[.pointer (some ⟨O, 0, none⟩)] #[]) rfl (by omega) (by omega) ?_
          intro u4 hM4 hg4
          have hB4 : Below w.heap.size w u4 := hB3.grown hg4 hB3.size (fun q hq => by have := Option.some.inj hq; omega)
          refine hK.out _ _ trivial (fun hHeldN => ?_)
          clear hHeld
          have hHeld := hHeldN
          clear hHeldN
          clear hK K hM3 hB3 hg4
          try simp only [Act.put, List.setIfInBounds_toArray, List.set_cons_zero, List.set_cons_succ]
          refine anyH_at (i := 17) (d := some 16) rfl rfl (by kernel_rfl) (by kernel_rfl) (by kernel_rfl) (fun _ _ _ h => h) (by rfl) (v := ?_) ?_ (by assumption) ?_
          rotate_left
          · (intro w hSw; (try dsimp only at hSw); go_simp <;> with_reducible rfl)
          simp only [Act.put, List.setIfInBounds_toArray, List.set_cons_zero, List.set_cons_succ]
          refine anyH_at (i := 18) (d := some 2) rfl rfl (by kernel_rfl) (by kernel_rfl) (by kernel_rfl) (fun _ _ _ h => h) (by rfl) (v := ?_) ?_ (by assumption) ?_
          rotate_left
          · (intro w hSw; (try dsimp only at hSw); go_simp <;> with_reducible rfl)
          simp only [Act.put, List.setIfInBounds_toArray, List.set_cons_zero, List.set_cons_succ]
          refine wpAnyH_done (by kernel_rfl) ?_ _
          go_wp2
          go_ret
          exact ⟨rfl, _, hM4, by refine ⟨?_, ?_, ?_, ?_⟩ <;> simp, hB4⟩
    · rw [if_pos (by rfl)]
      refine wp_putF _ _ _ _ _ rfl 66 Tryz.underlying64 w.heap.size 1 _ rfl hM1 (by unfold maxLen; omega) 4 rfl (.func (.func 69) #[.pointer (some ⟨O, 0, none⟩)] #[]) rfl (by omega) (by omega) ?_
      intro u2 hM2 hg2
      have hB2 : Below w.heap.size w u2 := hB1.grown hg2 hB1.size (fun q hq => by have := Option.some.inj hq; omega)
      refine hK.out _ _ trivial (fun hHeldN => ?_)
      clear hHeld
      have hHeld := hHeldN
      clear hHeldN
      clear hK K hM1 hB1 hg2
      try simp only [Act.put, List.setIfInBounds_toArray, List.set_cons_zero, List.set_cons_succ]
      refine wpAnyH_ready (rs := [5, 11]) (by kernel_rfl) (by simp) ?_
      refine (AllReadyH.cons rfl (fun K hK => ?_) (AllReadyH.cons rfl (fun K hK => ?_) AllReadyH.nil))
      · rw [if_pos (by rfl)]
        refine wp_putF _ _ _ _ _ rfl 66 Tryz.underlying64 w.heap.size 2 _ rfl hM2 (by unfold maxLen; omega) 1 rfl (.func (.func 66) #[.pointer (some ⟨O, 0, none⟩)] #[]) rfl (by omega) (by omega) ?_
        intro u3 hM3 hg3
        have hB3 : Below w.heap.size w u3 := hB2.grown hg3 hB2.size (fun q hq => by have := Option.some.inj hq; omega)
        refine hK.out _ _ trivial (fun hHeldN => ?_)
        clear hHeld
        have hHeld := hHeldN
        clear hHeldN
        clear hK K hM2 hB2 hg3
        try simp only [Act.put, List.setIfInBounds_toArray, List.set_cons_zero, List.set_cons_succ]
        refine wpAnyH_ready (rs := [11]) (by kernel_rfl) (by simp) ?_
        refine (AllReadyH.cons rfl (fun K hK => ?_) AllReadyH.nil)
        · rw [if_pos (by rfl)]
          refine wp_putF _ _ _ _ _ rfl 66 Tryz.underlying64 w.heap.size 3 _ rfl hM3 (by unfold maxLen; omega) 3 rfl (.func (.func 68) #[.pointer (some ⟨O, 0, none⟩)] #[]) rfl (by omega) (by omega) ?_
          intro u4 hM4 hg4
          have hB4 : Below w.heap.size w u4 := hB3.grown hg4 hB3.size (fun q hq => by have := Option.some.inj hq; omega)
          refine hK.out _ _ trivial (fun hHeldN => ?_)
          clear hHeld
          have hHeld := hHeldN
          clear hHeldN
          clear hK K hM3 hB3 hg4
          try simp only [Act.put, List.setIfInBounds_toArray, List.set_cons_zero, List.set_cons_succ]
          refine anyH_at (i := 17) (d := some 16) rfl rfl (by kernel_rfl) (by kernel_rfl) (by kernel_rfl) (fun _ _ _ h => h) (by rfl) (v := ?_) ?_ (by assumption) ?_
          rotate_left
          · (intro w hSw; (try dsimp only at hSw); go_simp <;> with_reducible rfl)
          simp only [Act.put, List.setIfInBounds_toArray, List.set_cons_zero, List.set_cons_succ]
          refine anyH_at (i := 18) (d := some 2) rfl rfl (by kernel_rfl) (by kernel_rfl) (by kernel_rfl) (fun _ _ _ h => h) (by rfl) (v := ?_) ?_ (by assumption) ?_
          rotate_left
          · (intro w hSw; (try dsimp only at hSw); go_simp <;> with_reducible rfl)
          simp only [Act.put, List.setIfInBounds_toArray, List.set_cons_zero, List.set_cons_succ]
          refine wpAnyH_done (by kernel_rfl) ?_ _
          go_wp2
          go_ret
          exact ⟨rfl, _, hM4, by refine ⟨?_, ?_, ?_, ?_⟩ <;> simp, hB4⟩
      · rw [if_pos (by rfl)]
        refine wp_putF _ _ _ _ _ rfl 66 Tryz.underlying64 w.heap.size 2 _ rfl hM2 (by unfold maxLen; omega) 3 rfl (.func (.func 68) #[.pointer (some ⟨O, 0, none⟩)] #[]) rfl (by omega) (by omega) ?_
        intro u3 hM3 hg3
        have hB3 : Below w.heap.size w u3 := hB2.grown hg3 hB2.size (fun q hq => by have := Option.some.inj hq; omega)
        refine hK.out _ _ trivial (fun hHeldN => ?_)
        clear hHeld
        have hHeld := hHeldN
        clear hHeldN
        clear hK K hM2 hB2 hg3
        try simp only [Act.put, List.setIfInBounds_toArray, List.set_cons_zero, List.set_cons_succ]
        refine wpAnyH_ready (rs := [5]) (by kernel_rfl) (by simp) ?_
        refine (AllReadyH.cons rfl (fun K hK => ?_) AllReadyH.nil)
        · rw [if_pos (by rfl)]
          refine wp_putF _ _ _ _ _ rfl 66 Tryz.underlying64 w.heap.size 3 _ rfl hM3 (by unfold maxLen; omega) 1 rfl (.func (.func 66) #[.pointer (some ⟨O, 0, none⟩)] #[]) rfl (by omega) (by omega) ?_
          intro u4 hM4 hg4
          have hB4 : Below w.heap.size w u4 := hB3.grown hg4 hB3.size (fun q hq => by have := Option.some.inj hq; omega)
          refine hK.out _ _ trivial (fun hHeldN => ?_)
          clear hHeld
          have hHeld := hHeldN
          clear hHeldN
          clear hK K hM3 hB3 hg4
          try simp only [Act.put, List.setIfInBounds_toArray, List.set_cons_zero, List.set_cons_succ]
          refine anyH_at (i := 17) (d := some 16) rfl rfl (by kernel_rfl) (by kernel_rfl) (by kernel_rfl) (fun _ _ _ h => h) (by rfl) (v := ?_) ?_ (by assumption) ?_
          rotate_left
          · (intro w hSw; (try dsimp only at hSw); go_simp <;> with_reducible rfl)
          simp only [Act.put, List.setIfInBounds_toArray, List.set_cons_zero, List.set_cons_succ]
          refine anyH_at (i := 18) (d := some 2) rfl rfl (by kernel_rfl) (by kernel_rfl) (by kernel_rfl) (fun _ _ _ h => h) (by rfl) (v := ?_) ?_ (by assumption) ?_
          rotate_left
          · (intro w hSw; (try dsimp only at hSw); go_simp <;> with_reducible rfl)
          simp only [Act.put, List.setIfInBounds_toArray, List.set_cons_zero, List.set_cons_succ]
          refine wpAnyH_done (by kernel_rfl) ?_ _
          go_wp2
          go_ret
          exact ⟨rfl, _, hM4, by refine ⟨?_, ?_, ?_, ?_⟩ <;> simp, hB4⟩
  · rw [if_pos (by rfl)]
    refine wp_putF _ _ _ _ _ rfl 66 Tryz.underlying64 w.heap.size 0 _ rfl hM0 (by unfold maxLen; omega) 3 rfl (.func (.func 68) #[.pointer (some ⟨O, 0, none⟩)] #[]) rfl (by omega) (by omega) ?_
    intro u1 hM1 hg1
    have hB1 : Below w.heap.size w u1 := hB0.grown hg1 hB0.size (fun q hq => by have := Option.some.inj hq; omega)
    refine hK.out _ _ trivial (fun hHeldN => ?_)
    clear hHeld
    have hHeld := hHeldN
    clear hHeldN
    clear hK K hM0 hB0 hg1
    try simp only [Act.put, List.setIfInBounds_toArray, List.set_cons_zero, List.set_cons_succ]
    refine wpAnyH_ready (rs := [5, 8, 16]) (by kernel_rfl) (by simp) ?_
    refine (AllReadyH.cons rfl (fun K hK => ?_) (AllReadyH.cons rfl (fun K hK => ?_) (AllReadyH.cons rfl (fun K hK => ?_) AllReadyH.nil)))
    · rw [if_pos (by rfl)]
      refine wp_putF _ _ _ _ _ rfl 66 Tryz.underlying64 w.heap.size 1 _ rfl hM1 (by unfold maxLen; omega) 1 rfl (.func (.func 66) #[.pointer (some ⟨O, 0, none⟩)] #[]) rfl (by omega) (by omega) ?_
      intro u2 hM2 hg2
      have hB2 : Below w.heap.size w u2 := hB1.grown hg2 hB1.size (fun q hq => by have := Option.some.inj hq; omega)
      refine hK.out _ _ trivial (fun hHeldN => ?_)
      clear hHeld
      have hHeld := hHeldN
      clear hHeldN
      clear hK K hM1 hB1 hg2
      try simp only [Act.put, List.setIfInBounds_toArray, List.set_cons_zero, List.set_cons_succ]
      refine wpAnyH_ready (rs := [8, 16]) (by kernel_rfl) (by simp) ?_
      refine (AllReadyH.cons rfl (fun K hK => ?_) (AllReadyH.cons rfl (fun K hK => ?_) AllReadyH.nil))
      · rw [if_pos (by rfl)]
        refine wp_putF _ _ _ _ _ rfl 66 Tryz.underlying64 w.heap.size 2 _ rfl hM2 (by unfold maxLen; omega) 2 rfl (.func (.func 67) #[.pointer (some ⟨O, 0, none⟩)] #[]) rfl (by omega) (by omega) ?_
        intro u3 hM3 hg3
        have hB3 : Below w.heap.size w u3 := hB2.grown hg3 hB2.size (fun q hq => by have := Option.some.inj hq; omega)
        refine hK.out _ _ trivial (fun hHeldN => ?_)
        clear hHeld
        have hHeld := hHeldN
        clear hHeldN
        clear hK K hM2 hB2 hg3
        try simp only [Act.put, List.setIfInBounds_toArray, List.set_cons_zero, List.set_cons_succ]
        refine wpAnyH_ready (rs := [16]) (by kernel_rfl) (by simp) ?_
        refine (AllReadyH.cons rfl (fun K hK => ?_) AllReadyH.nil)
        · rw [if_pos (by rfl)]
          refine wp_putF _ _ _ _ _ rfl 66 Tryz.underlying64 w.heap.size 3 _ rfl hM3 (by unfold maxLen; omega) 4 rfl (.func (.func 69) #[.pointer (some ⟨O, 0, none⟩)] #[]) rfl (by omega) (by omega) ?_
          intro u4 hM4 hg4
          have hB4 : Below w.heap.size w u4 := hB3.grown hg4 hB3.size (fun q hq => by have := Option.some.inj hq; omega)
          refine hK.out _ _ trivial (fun hHeldN => ?_)
          clear hHeld
          have hHeld := hHeldN
          clear hHeldN
          clear hK K hM3 hB3 hg4
          try simp only [Act.put, List.setIfInBounds_toArray, List.set_cons_zero, List.set_cons_succ]
          refine anyH_at (i := 17) (d := some 16) rfl rfl (by kernel_rfl) (by kernel_rfl) (by kernel_rfl) (fun _ _ _ h => h) (by rfl) (v := ?_) ?_ (by assumption) ?_
          rotate_left
          · (intro w hSw; (try dsimp only at hSw); go_simp <;> with_reducible rfl)
          simp only [Act.put, List.setIfInBounds_toArray, List.set_cons_zero, List.set_cons_succ]
          refine anyH_at (i := 18) (d := some 2) rfl rfl (by kernel_rfl) (by kernel_rfl) (by kernel_rfl) (fun _ _ _ h => h) (by rfl) (v := ?_) ?_ (by assumption) ?_
          rotate_left
          · (intro w hSw; (try dsimp only at hSw); go_simp <;> with_reducible rfl)
          simp only [Act.put, List.setIfInBounds_toArray, List.set_cons_zero, List.set_cons_succ]
          refine wpAnyH_done (by kernel_rfl) ?_ _
          go_wp2
          go_ret
          exact ⟨rfl, _, hM4, by refine ⟨?_, ?_, ?_, ?_⟩ <;> simp, hB4⟩
      · rw [if_pos (by rfl)]
        refine wp_putF _ _ _ _ _ rfl 66 Tryz.underlying64 w.heap.size 2 _ rfl hM2 (by unfold maxLen; omega) 4 rfl (.func (.func 69) #[.pointer (some ⟨O, 0, none⟩)] #[]) rfl (by omega) (by omega) ?_
        intro u3 hM3 hg3
        have hB3 : Below w.heap.size w u3 := hB2.grown hg3 hB2.size (fun q hq => by have := Option.some.inj hq; omega)
        refine hK.out _ _ trivial (fun hHeldN => ?_)
        clear hHeld
        have hHeld := hHeldN
        clear hHeldN
        clear hK K hM2 hB2 hg3
        try simp only [Act.put, List.setIfInBounds_toArray, List.set_cons_zero, List.set_cons_succ]
        refine wpAnyH_ready (rs := [8]) (by kernel_rfl) (by simp) ?_
        refine (AllReadyH.cons rfl (fun K hK => ?_) AllReadyH.nil)
        · rw [if_pos (by rfl)]
          refine wp_putF _ _ _ _ _ rfl 66 Tryz.underlying64 w.heap.size 3 _ rfl hM3 (by unfold maxLen; omega) 2 rfl (.func (.func 67) #[.pointer (some ⟨O, 0, none⟩)] #[]) rfl (by omega) (by omega) ?_
          intro u4 hM4 hg4
          have hB4 : Below w.heap.size w u4 := hB3.grown hg4 hB3.size (fun q hq => by have := Option.some.inj hq; omega)
          refine hK.out _ _ trivial (fun hHeldN => ?_)
          clear hHeld
          have hHeld := hHeldN
          clear hHeldN
          clear hK K hM3 hB3 hg4
          try simp only [Act.put, List.setIfInBounds_toArray, List.set_cons_zero, List.set_cons_succ]
          refine anyH_at (i := 17) (d := some 16) rfl rfl (by kernel_rfl) (by kernel_rfl) (by kernel_rfl) (fun _ _ _ h => h) (by rfl) (v := ?_) ?_ (by assumption) ?_
          rotate_left
          · (intro w hSw; (try dsimp only at hSw); go_simp <;> with_reducible rfl)
          simp only [Act.put, List.setIfInBounds_toArray, List.set_cons_zero, List.set_cons_succ]
          refine anyH_at (i := 18) (d := some 2) rfl rfl (by kernel_rfl) (by kernel_rfl) (by kernel_rfl) (fun _ _ _ h => h) (by rfl) (v := ?_) ?_ (by assumption) ?_
          rotate_left
          · (intro w hSw; (try dsimp only at hSw); go_simp <;> with_reducible rfl)
          simp only [Act.put, List.setIfInBounds_toArray, List.set_cons_zero, List.set_cons_succ]
          refine wpAnyH_done (by kernel_rfl) ?_ _
          go_wp2
          go_ret
          exact ⟨rfl, _, hM4, by refine ⟨?_, ?_, ?_, ?_⟩ <;> simp, hB4⟩
    · rw [if_pos (by rfl)]
      refine wp_putF _ _ _ _ _ rfl 66 Tryz.underlying64 w.heap.size 1 _ rfl hM1 (by unfold maxLen; omega) 2 rfl (.func (.func 67) #[.pointer (some ⟨O, 0, none⟩)] #[]) rfl (by omega) (by omega) ?_
      intro u2 hM2 hg2
      have hB2 : Below w.heap.size w u2 := hB1.grown hg2 hB1.size (fun q hq => by have := Option.some.inj hq; omega)
      refine hK.out _ _ trivial (fun hHeldN => ?_)
      clear hHeld
      have hHeld := hHeldN
      clear hHeldN
      clear hK K hM1 hB1 hg2
      try simp only [Act.put, List.setIfInBounds_toArray, List.set_cons_zero, List.set_cons_succ]
      refine wpAnyH_ready (rs := [5, 16]) (by kernel_rfl) (by simp) ?_
      refine (AllReadyH.cons rfl (fun K hK => ?_) (AllReadyH.cons rfl (fun K hK => ?_) AllReadyH.nil))
      · rw [if_pos (by rfl)]
        refine wp_putF _ _ _ _ _ rfl 66 Tryz.underlying64 w.heap.size 2 _ rfl hM2 (by unfold maxLen; omega) 1 rfl (.func (.func 66) #[.pointer (some ⟨O, 0, none⟩)] #[]) rfl (by omega) (by omega) ?_
        intro u3 hM3 hg3
        have hB3 : Below w.heap.size w u3 := hB2.grown hg3 hB2.size (fun q hq => by have := Option.some.inj hq; omega)
        refine hK.out _ _ trivial (fun hHeldN => ?_)
        clear hHeld
        have hHeld := hHeldN
        clear hHeldN
        clear hK K hM2 hB2 hg3
        try simp only [Act.put, List.setIfInBounds_toArray, List.set_cons_zero, List.set_cons_succ]
        refine wpAnyH_ready (rs := [16]) (by kernel_rfl) (by simp) ?_
        refine (AllReadyH.cons rfl (fun K hK => ?_) AllReadyH.nil)
        · rw [if_pos (by rfl)]
          refine wp_putF _ _ _ _ _ rfl 66 Tryz.underlying64 w.heap.size 3 _ rfl hM3 (by unfold maxLen; omega) 4 rfl (.func (.func 69) #[.pointer (some ⟨O, 0, none⟩)] #[]) rfl (by omega) (by omega) ?_
          intro u4 hM4 hg4
          have hB4 : Below w.heap.size w u4 := hB3.grown hg4 hB3.size (fun q hq => by have := Option.some.inj hq; omega)
          refine hK.out _ _ trivial (fun hHeldN => ?_)
          clear hHeld
          have hHeld := hHeldN
          clear hHeldN
          clear hK K hM3 hB3 hg4
          try simp only [Act.put, List.setIfInBounds_toArray, List.set_cons_zero, List.set_cons_succ]
          refine anyH_at (i := 17) (d := some 16) rfl rfl (by kernel_rfl) (by kernel_rfl) (by kernel_rfl) (fun _ _ _ h => h) (by rfl) (v := ?_) ?_ (by assumption) ?_
          rotate_left
          · (intro w hSw; (try dsimp only at hSw); go_simp <;> with_reducible rfl)
          simp only [Act.put, List.setIfInBounds_toArray, List.set_cons_zero, List.set_cons_succ]
          refine anyH_at (i := 18) (d := some 2) rfl rfl (by kernel_rfl) (by kernel_rfl) (by kernel_rfl) (fun _ _ _ h => h) (by rfl) (v := ?_) ?_ (by assumption) ?_
          rotate_left
          · (intro w hSw; (try dsimp only at hSw); go_simp <;> with_reducible rfl)
          simp only [Act.put, List.setIfInBounds_toArray, List.set_cons_zero, List.set_cons_succ]
          refine wpAnyH_done (by kernel_rfl) ?_ _
          go_wp2
          go_ret
          exact ⟨rfl, _, hM4, by refine ⟨?_, ?_, ?_, ?_⟩ <;> simp, hB4⟩
      · rw [if_pos (by rfl)]
        refine wp_putF _ _ _ _ _ rfl 66 Tryz.underlying64 w.heap.size 2 _ rfl hM2 (by unfold maxLen; omega) 4 rfl (.func (.func 69) #[.pointer (some ⟨O, 0, none⟩)] #[]) rfl (by omega) (by omega) ?_
        intro u3 hM3 hg3
        have hB3 : Below w.heap.size w u3 := hB2.grown hg3 hB2.size (fun q hq => by have := Option.some.inj hq; omega)
        refine hK.out _ _ trivial (fun hHeldN => ?_)
        clear hHeld
        have hHeld := hHeldN
        clear hHeldN
        clear hK K hM2 hB2 hg3
        try simp only [Act.put, List.setIfInBounds_toArray, List.set_cons_zero, List.set_cons_succ]
        refine wpAnyH_ready (rs := [5]) (by kernel_rfl) (by simp) ?_
        refine (AllReadyH.cons rfl (fun K hK => ?_) AllReadyH.nil)
        · rw [if_pos (by rfl)]
          refine wp_putF _ _ _ _ _ rfl 66 Tryz.underlying64 w.heap.size 3 _ rfl hM3 (by unfold maxLen; omega) 1 rfl (.func (.func 66) #[.pointer (some ⟨O, 0, none⟩)] #[]) rfl (by omega) (by omega) ?_
          intro u4 hM4 hg4
          have hB4 : Below w.heap.size w u4 := hB3.grown hg4 hB3.size (fun q hq => by have := Option.some.inj hq; omega)
          refine hK.out _ _ trivial (fun hHeldN => ?_)
          clear hHeld
          have hHeld := hHeldN
          clear hHeldN
          clear hK K hM3 hB3 hg4
          try simp only [Act.put, List.setIfInBounds_toArray, List.set_cons_zero, List.set_cons_succ]
          refine anyH_at (i := 17) (d := some 16) rfl rfl (by kernel_rfl) (by kernel_rfl) (by kernel_rfl) (fun _ _ _ h => h) (by rfl) (v := ?_) ?_ (by assumption) ?_
          rotate_left
          · (intro w hSw; (try dsimp only at hSw); go_simp <;> with_reducible rfl)
          simp only [Act.put, List.setIfInBounds_toArray, List.set_cons_zero, List.set_cons_succ]
          refine anyH_at (i := 18) (d := some 2) rfl rfl (by kernel_rfl) (by kernel_rfl) (by kernel_rfl) (fun _ _ _ h => h) (by rfl) (v := ?_) ?_ (by assumption) ?_
          rotate_left
          · (intro w hSw; (try dsimp only at hSw); go_simp <;> with_reducible rfl)
          simp only [Act.put, List.setIfInBounds_toArray, List.set_cons_zero, List.set_cons_succ]
          refine wpAnyH_done (by kernel_rfl) ?_ _
          go_wp2
          go_ret
          exact ⟨rfl, _, hM4, by refine ⟨?_, ?_, ?_, ?_⟩ <;> simp, hB4⟩
    · rw [if_pos (by rfl)]
      refine wp_putF _ _ _ _ _ rfl 66 Tryz.underlying64 w.heap.size 1 _ rfl hM1 (by unfold maxLen; omega) 4 rfl (.func (.func 69) #[.pointer (some ⟨O, 0, none⟩)] #[]) rfl (by omega) (by omega) ?_
      intro u2 hM2 hg2
      have hB2 : Below w.heap.size w u2 := hB1.grown hg2 hB1.size (fun q hq => by have := Option.some.inj hq; omega)
      refine hK.out _ _ trivial (fun hHeldN => ?_)
      clear hHeld
      have hHeld := hHeldN
      clear hHeldN
      clear hK K hM1 hB1 hg2
      try simp only [Act.put, List.setIfInBounds_toArray, List.set_cons_zero, List.set_cons_succ]
      refine wpAnyH_ready (rs := [5, 8]) (by kernel_rfl) (by simp) ?_
      refine (AllReadyH.cons rfl (fun K hK => ?_) (AllReadyH.cons rfl (fun K hK => ?_) AllReadyH.nil))
      · rw [if_pos (by rfl)]
        refine wp_putF _ _ _ _ _ rfl 66 Tryz.underlying64 w.heap.size 2 _ rfl hM2 (by unfold maxLen; omega) 1 rfl (.func (.func 66) #[.pointer (some ⟨O, 0, none⟩)] #[]) rfl (by omega) (by omega) ?_
        intro u3 hM3 hg3
        have hB3 : Below w.heap.size w u3 := hB2.grown hg3 hB2.size (fun q hq => by have := Option.some.inj hq; omega)
        refine hK.out _ _ trivial (fun hHeldN => ?_)
        clear hHeld
        have hHeld := hHeldN
        clear hHeldN
        clear hK K hM2 hB2 hg3
        try simp only [Act.put, List.setIfInBounds_toArray, List.set_cons_zero, List.set_cons_succ]
        refine wpAnyH_ready (rs := [8]) (by kernel_rfl) (by simp) ?_
        refine (AllReadyH.cons rfl (fun K hK => ?_) AllReadyH.nil)
        · rw [if_pos (by rfl)]
          refine wp_putF _ _ _ _ _ rfl 66 Tryz.underlying64 w.heap.size 3 _ rfl hM3 (by unfold maxLen; omega) 2 rfl (.func (.func 67) #[.pointer (some ⟨O, 0, none⟩)] #[]) rfl (by omega) (by omega) ?_
          intro u4 hM4 hg4
          have hB4 : Below w.heap.size w u4 := hB3.grown hg4 hB3.size (fun q hq => by have := Option.some.inj hq; omega)
          refine hK.out _ _ trivial (fun hHeldN => ?_)
          clear hHeld
          have hHeld := hHeldN
          clear hHeldN
          clear hK K hM3 hB3 hg4
          try simp only [Act.put, List.setIfInBounds_toArray, List.set_cons_zero, List.set_cons_succ]
          refine anyH_at (i := 17) (d := some 16) rfl rfl (by kernel_rfl) (by kernel_rfl) (by kernel_rfl) (fun _ _ _ h => h) (by rfl) (v := ?_) ?_ (by assumption) ?_
          rotate_left
          · (intro w hSw; (try dsimp only at hSw); go_simp <;> with_reducible rfl)
          simp only [Act.put, List.setIfInBounds_toArray, List.set_cons_zero, List.set_cons_succ]
          refine anyH_at (i := 18) (d := some 2) rfl rfl (by kernel_rfl) (by kernel_rfl) (by kernel_rfl) (fun _ _ _ h => h) (by rfl) (v := ?_) ?_ (by assumption) ?_
          rotate_left
          · (intro w hSw; (try dsimp only at hSw); go_simp <;> with_reducible rfl)
          simp only [Act.put, List.setIfInBounds_toArray, List.set_cons_zero, List.set_cons_succ]
          refine wpAnyH_done (by kernel_rfl) ?_ _
          go_wp2
          go_ret
          exact ⟨rfl, _, hM4, by refine ⟨?_, ?_, ?_, ?_⟩ <;> simp, hB4⟩
      · rw [if_pos (by rfl)]
        refine wp_putF _ _ _ _ _ rfl 66 Tryz.underlying64 w.heap.size 2 _ rfl hM2 (by unfold maxLen; omega) 2 rfl (.func (.func 67) #[.pointer (some ⟨O, 0, none⟩)] #[]) rfl (by omega) (by omega) ?_
        intro u3 hM3 hg3
        have hB3 : Below w.heap.size w u3 := hB2.grown hg3 hB2.size (fun q hq => by have := Option.some.inj hq; omega)
        refine hK.out _ _ trivial (fun hHeldN => ?_)
        clear hHeld
        have hHeld := hHeldN
        clear hHeldN
        clear hK K hM2 hB2 hg3
        try simp only [Act.put, List.setIfInBounds_toArray, List.set_cons_zero, List.set_cons_succ]
        refine wpAnyH_ready (rs := [5]) (by kernel_rfl) (by simp) ?_
        refine (AllReadyH.cons rfl (fun K hK => ?_) AllReadyH.nil)
        · rw [if_pos (by rfl)]
          refine wp_putF _ _ _ _ _ rfl 66 Tryz.underlying64 w.heap.size 3 _ rfl hM3 (by unfold maxLen; omega) 1 rfl (.func (.func 66) #[.pointer (some ⟨O, 0, none⟩)] #[]) rfl (by omega) (by omega) ?_
          intro u4 hM4 hg4
          have hB4 : Below w.heap.size w u4 := hB3.grown hg4 hB3.size (fun q hq => by have := Option.some.inj hq; omega)
          refine hK.out _ _ trivial (fun hHeldN => ?_)
          clear hHeld
          have hHeld := hHeldN
          clear hHeldN
          clear hK K hM3 hB3 hg4
          try simp only [Act.put, List.setIfInBounds_toArray, List.set_cons_zero, List.set_cons_succ]
          refine anyH_at (i := 17) (d := some 16) rfl rfl (by kernel_rfl) (by kernel_rfl) (by kernel_rfl) (fun _ _ _ h => h) (by rfl) (v := ?_) ?_ (by assumption) ?_
          rotate_left
          · (intro w hSw; (try dsimp only at hSw); go_simp <;> with_reducible rfl)
          simp only [Act.put, List.setIfInBounds_toArray, List.set_cons_zero, List.set_cons_succ]
          refine anyH_at (i := 18) (d := some 2) rfl rfl (by kernel_rfl) (by kernel_rfl) (by kernel_rfl) (fun _ _ _ h => h) (by rfl) (v := ?_) ?_ (by assumption) ?_
          rotate_left
          · (intro w hSw; (try dsimp only at hSw); go_simp <;> with_reducible rfl)
          simp only [Act.put, List.setIfInBounds_toArray, List.set_cons_zero, List.set_cons_succ]
          refine wpAnyH_done (by kernel_rfl) ?_ _
          go_wp2
          go_ret
          exact ⟨rfl, _, hM4, by refine ⟨?_, ?_, ?_, ?_⟩ <;> simp, hB4⟩
  · rw [if_pos (by rfl)]
    refine wp_putF _ _ _ _ _ rfl 66 Tryz.underlying64 w.heap.size 0 _ rfl hM0 (by unfold maxLen; omega) 4 rfl (.func (.func 69) #[.pointer (some ⟨O, 0, none⟩)] #[]) rfl (by omega) (by omega) ?_
    intro u1 hM1 hg1
    have hB1 : Below w.heap.size w u1 := hB0.grown hg1 hB0.size (fun q hq => by have := Option.some.inj hq; omega)
    refine hK.out _ _ trivial (fun hHeldN => ?_)
    clear hHeld
    have hHeld := hHeldN
    clear hHeldN
    clear hK K hM0 hB0 hg1
    try simp only [Act.put, List.setIfInBounds_toArray, List.set_cons_zero, List.set_cons_succ]
    refine wpAnyH_ready (rs := [5, 8, 11]) (by kernel_rfl) (by simp) ?_
    refine (AllReadyH.cons rfl (fun K hK => ?_) (AllReadyH.cons rfl (fun K hK => ?_) (AllReadyH.cons rfl (fun K hK => ?_) AllReadyH.nil)))
    · rw [if_pos (by rfl)]
      refine wp_putF _ _ _ _ _ rfl 66 Tryz.underlying64 w.heap.size 1 _ rfl hM1 (by unfold maxLen; omega) 1 rfl (.func (.func 66) #[.pointer (some ⟨O, 0, none⟩)] #[]) rfl (by omega) (by omega) ?_
      intro u2 hM2 hg2
      have hB2 : Below w.heap.size w u2 := hB1.grown hg2 hB1.size (fun q hq => by have := Option.some.inj hq; omega)
      refine hK.out _ _ trivial (fun hHeldN => ?_)
      clear hHeld
      have hHeld := hHeldN
      clear hHeldN
      clear hK K hM1 hB1 hg2
      try simp only [Act.put, List.setIfInBounds_toArray, List.set_cons_zero, List.set_cons_succ]
      refine wpAnyH_ready (rs := [8, 11]) (by kernel_rfl) (by simp) ?_
      refine (AllReadyH.cons rfl (fun K hK => ?_) (AllReadyH.cons rfl (fun K hK => ?_) AllReadyH.nil))
      · rw [if_pos (by rfl)]
        refine wp_putF _ _ _ _ _ rfl 66 Tryz.underlying64 w.heap.size 2 _ rfl hM2 (by unfold maxLen; omega) 2 rfl (.func (.func 67) #[.pointer (some ⟨O, 0, none⟩)] #[]) rfl (by omega) (by omega) ?_
        intro u3 hM3 hg3
        have hB3 : Below w.heap.size w u3 := hB2.grown hg3 hB2.size (fun q hq => by have := Option.some.inj hq; omega)
        refine hK.out _ _ trivial (fun hHeldN => ?_)
        clear hHeld
        have hHeld := hHeldN
        clear hHeldN
        clear hK K hM2 hB2 hg3
        try simp only [Act.put, List.setIfInBounds_toArray, List.set_cons_zero, List.set_cons_succ]
        refine wpAnyH_ready (rs := [11]) (by kernel_rfl) (by simp) ?_
        refine (AllReadyH.cons rfl (fun K hK => ?_) AllReadyH.nil)
        · rw [if_pos (by rfl)]
          refine wp_putF _ _ _ _ _ rfl 66 Tryz.underlying64 w.heap.size 3 _ rfl hM3 (by unfold maxLen; omega) 3 rfl (.func (.func 68) #[.pointer (some ⟨O, 0, none⟩)] #[]) rfl (by omega) (by omega) ?_
          intro u4 hM4 hg4
          have hB4 : Below w.heap.size w u4 := hB3.grown hg4 hB3.size (fun q hq => by have := Option.some.inj hq; omega)
          refine hK.out _ _ trivial (fun hHeldN => ?_)
          clear hHeld
          have hHeld := hHeldN
          clear hHeldN
          clear hK K hM3 hB3 hg4
          try simp only [Act.put, List.setIfInBounds_toArray, List.set_cons_zero, List.set_cons_succ]
          refine anyH_at (i := 17) (d := some 16) rfl rfl (by kernel_rfl) (by kernel_rfl) (by kernel_rfl) (fun _ _ _ h => h) (by rfl) (v := ?_) ?_ (by assumption) ?_
          rotate_left
          · (intro w hSw; (try dsimp only at hSw); go_simp <;> with_reducible rfl)
          simp only [Act.put, List.setIfInBounds_toArray, List.set_cons_zero, List.set_cons_succ]
          refine anyH_at (i := 18) (d := some 2) rfl rfl (by kernel_rfl) (by kernel_rfl) (by kernel_rfl) (fun _ _ _ h => h) (by rfl) (v := ?_) ?_ (by assumption) ?_
          rotate_left
          · (intro w hSw; (try dsimp only at hSw); go_simp <;> with_reducible rfl)
          simp only [Act.put, List.setIfInBounds_toArray, List.set_cons_zero, List.set_cons_succ]
          refine wpAnyH_done (by kernel_rfl) ?_ _
          go_wp2
          go_ret
          exact ⟨rfl, _, hM4, by refine ⟨?_, ?_, ?_, ?_⟩ <;> simp, hB4⟩
      · rw [if_pos (by rfl)]
        refine wp_putF _ _ _ _ _ rfl 66 Tryz.underlying64 w.heap.size 2 _ rfl hM2 (by unfold maxLen; omega) 3 rfl (.func (.func 68) #[.pointer (some ⟨O, 0, none⟩)] #[]) rfl (by omega) (by omega) ?_
        intro u3 hM3 hg3
        have hB3 : Below w.heap.size w u3 := hB2.grown hg3 hB2.size (fun q hq => by have := Option.some.inj hq; omega)
        refine hK.out _ _ trivial (fun hHeldN => ?_)
        clear hHeld
        have hHeld := hHeldN
        clear hHeldN
        clear hK K hM2 hB2 hg3
        try simp only [Act.put, List.setIfInBounds_toArray, List.set_cons_zero, List.set_cons_succ]
        refine wpAnyH_ready (rs := [8]) (by kernel_rfl) (by simp) ?_
        refine (AllReadyH.cons rfl (fun K hK => ?_) AllReadyH.nil)
        · rw [if_pos (by rfl)]
          refine wp_putF _ _ _ _ _ rfl 66 Tryz.underlying64 w.heap.size 3 _ rfl hM3 (by unfold maxLen; omega) 2 rfl (.func (.func 67) #[.pointer (some ⟨O, 0, none⟩)] #[]) rfl (by omega) (by omega) ?_
          intro u4 hM4 hg4
          have hB4 : Below w.heap.size w u4 := hB3.grown hg4 hB3.size (fun q hq => by have := Option.some.inj hq; omega)
          refine hK.out _ _ trivial (fun hHeldN => ?_)
          clear hHeld
          have hHeld := hHeldN
          clear hHeldN
          clear hK K hM3 hB3 hg4
          try simp only [Act.put, List.setIfInBounds_toArray, List.set_cons_zero, List.set_cons_succ]
          refine anyH_at (i := 17) (d := some 16) rfl rfl (by kernel_rfl) (by kernel_rfl) (by kernel_rfl) (fun _ _ _ h => h) (by rfl) (v := ?_) ?_ (by assumption) ?_
          rotate_left
          · (intro w hSw; (try dsimp only at hSw); go_simp <;> with_reducible rfl)
          simp only [Act.put, List.setIfInBounds_toArray, List.set_cons_zero, List.set_cons_succ]
          refine anyH_at (i := 18) (d := some 2) rfl rfl (by kernel_rfl) (by kernel_rfl) (by kernel_rfl) (fun _ _ _ h => h) (by rfl) (v := ?_) ?_ (by assumption) ?_
          rotate_left
          · (intro w hSw; (try dsimp only at hSw); go_simp <;> with_reducible rfl)
          simp only [Act.put, List.setIfInBounds_toArray, List.set_cons_zero, List.set_cons_succ]
          refine wpAnyH_done (by kernel_rfl) ?_ _
          go_wp2
          go_ret
          exact ⟨rfl, _, hM4, by refine ⟨?_, ?_, ?_, ?_⟩ <;> simp, hB4⟩
    · rw [if_pos (by rfl)]
      refine wp_putF _ _ _ _ _ rfl 66 Tryz.underlying64 w.heap.size 1 _ rfl hM1 (by unfold maxLen; omega) 2 rfl (.func (.func 67) #[.pointer (some ⟨O, 0, none⟩)] #[]) rfl (by omega) (by omega) ?_
      intro u2 hM2 hg2
      have hB2 : Below w.heap.size w u2 := hB1.grown hg2 hB1.size (fun q hq => by have := Option.some.inj hq; omega)
      refine hK.out _ _ trivial (fun hHeldN => ?_)
      clear hHeld
      have hHeld := hHeldN
      clear hHeldN
      clear hK K hM1 hB1 hg2
      try simp only [Act.put, List.setIfInBounds_toArray, List.set_cons_zero, List.set_cons_succ]
      refine wpAnyH_ready (rs := [5, 11]) (by kernel_rfl) (by simp) ?_
      refine (AllReadyH.cons rfl (fun K hK => ?_) (AllReadyH.cons rfl (fun K hK => ?_) AllReadyH.nil))
      · rw [if_pos (by rfl)]
        refine wp_putF _ _ _ _ _ rfl 66 Tryz.underlying64 w.heap.size 2 _ rfl hM2 (by unfold maxLen; omega) 1 rfl (.func (.func 66) #[.pointer (some ⟨O, 0, none⟩)] #[]) rfl (by omega) (by omega) ?_
        intro u3 hM3 hg3
        have hB3 : Below w.heap.size w u3 := hB2.grown hg3 hB2.size (fun q hq => by have := Option.some.inj hq; omega)
        refine hK.out _ _ trivial (fun hHeldN => ?_)
        clear hHeld
        have hHeld := hHeldN
        clear hHeldN
        clear hK K hM2 hB2 hg3
        try simp only [Act.put, List.setIfInBounds_toArray, List.set_cons_zero, List.set_cons_succ]
        refine wpAnyH_ready (rs := [11]) (by kernel_rfl) (by simp) ?_
        refine (AllReadyH.cons rfl (fun K hK => ?_) AllReadyH.nil)
        · rw [if_pos (by rfl)]
          refine wp_putF _ _ _ _ _ rfl 66 Tryz.underlying64 w.heap.size 3 _ rfl hM3 (by unfold maxLen; omega) 3 rfl (.func (.func 68) #[.pointer (some ⟨O, 0, none⟩)] #[]) rfl (by omega) (by omega) ?_
          intro u4 hM4 hg4
          have hB4 : Below w.heap.size w u4 := hB3.grown hg4 hB3.size (fun q hq => by have := Option.some.inj hq; omega)
          refine hK.out _ _ trivial (fun hHeldN => ?_)
          clear hHeld
          have hHeld := hHeldN
          clear hHeldN
          clear hK K hM3 hB3 hg4
          try simp only [Act.put, List.setIfInBounds_toArray, List.set_cons_zero, List.set_cons_succ]
          refine anyH_at (i := 17) (d := some 16) rfl rfl (by kernel_rfl) (by kernel_rfl) (by kernel_rfl) (fun _ _ _ h => h) (by rfl) (v := ?_) ?_ (by assumption) ?_
          rotate_left
          · (intro w hSw; (try dsimp only at hSw); go_simp <;> with_reducible rfl)
          simp only [Act.put, List.setIfInBounds_toArray, List.set_cons_zero, List.set_cons_succ]
          refine anyH_at (i := 18) (d := some 2) rfl rfl (by kernel_rfl) (by kernel_rfl) (by kernel_rfl) (fun _ _ _ h => h) (by rfl) (v := ?_) ?_ (by assumption) ?_
          rotate_left
          · (intro w hSw; (try dsimp only at hSw); go_simp <;> with_reducible rfl)
          simp only [Act.put, List.setIfInBounds_toArray, List.set_cons_zero, List.set_cons_succ]
          refine wpAnyH_done (by kernel_rfl) ?_ _
          go_wp2
          go_ret
          exact ⟨rfl, _, hM4, by refine ⟨?_, ?_, ?_, ?_⟩ <;> simp, hB4⟩
      · rw [if_pos (by rfl)]
        refine wp_putF _ _ _ _ _ rfl 66 Tryz.underlying64 w.heap.size 2 _ rfl hM2 (by unfold maxLen; omega) 3 rfl (.func (.func 68) #[.pointer (some ⟨O, 0, none⟩)] #[]) rfl (by omega) (by omega) ?_
        intro u3 hM3 hg3
        have hB3 : Below w.heap.size w u3 := hB2.grown hg3 hB2.size (fun q hq => by have := Option.some.inj hq; omega)
        refine hK.out _ _ trivial (fun hHeldN => ?_)
        clear hHeld
        have hHeld := hHeldN
        clear hHeldN
        clear hK K hM2 hB2 hg3
        try simp only [Act.put, List.setIfInBounds_toArray, List.set_cons_zero, List.set_cons_succ]
        refine wpAnyH_ready (rs := [5]) (by kernel_rfl) (by simp) ?_
        refine (AllReadyH.cons rfl (fun K hK => ?_) AllReadyH.nil)
        · rw [if_pos (by rfl)]
          refine wp_putF _ _ _ _ _ rfl 66 Tryz.underlying64 w.heap.size 3 _ rfl hM3 (by unfold maxLen; omega) 1 rfl (.func (.func 66) #[.pointer (some ⟨O, 0, none⟩)] #[]) rfl (by omega) (by omega) ?_
          intro u4 hM4 hg4
          have hB4 : Below w.heap.size w u4 := hB3.grown hg4 hB3.size (fun q hq => by have := Option.some.inj hq; omega)
          refine hK.out _ _ trivial (fun hHeldN => ?_)
          clear hHeld
          have hHeld := hHeldN
          clear hHeldN
          clear hK K hM3 hB3 hg4
          try simp only [Act.put, List.setIfInBounds_toArray, List.set_cons_zero, List.set_cons_succ]
          refine anyH_at (i := 17) (d := some 16) rfl rfl (by kernel_rfl) (by kernel_rfl) (by kernel_rfl) (fun _ _ _ h => h) (by rfl) (v := ?_) ?_ (by assumption) ?_
          rotate_left
          · (intro w hSw; (try dsimp only at hSw); go_simp <;> with_reducible rfl)
          simp only [Act.put, List.setIfInBounds_toArray, List.set_cons_zero, List.set_cons_succ]
          refine anyH_at (i := 18) (d := some 2) rfl rfl (by kernel_rfl) (by kernel_rfl) (by kernel_rfl) (fun _ _ _ h => h) (by rfl) (v := ?_) ?_ (by assumption) ?_
          rotate_left
          · (intro w hSw; (try dsimp only at hSw); go_simp <;> with_reducible rfl)
          simp only [Act.put, List.setIfInBounds_toArray, List.set_cons_zero, List.set_cons_succ]
          refine wpAnyH_done (by kernel_rfl) ?_ _
          go_wp2
          go_ret
          exact ⟨rfl, _, hM4, by refine ⟨?_, ?_, ?_, ?_⟩ <;> simp, hB4⟩
    · rw [if_pos (by rfl)]
      refine wp_putF _ _ _ _ _ rfl 66 Tryz.underlying64 w.heap.size 1 _ rfl hM1 (by unfold maxLen; omega) 3 rfl (.func (.func 68) #[.pointer (some ⟨O, 0, none⟩)] #[]) rfl (by omega) (by omega) ?_
      intro u2 hM2 hg2
      have hB2 : Below w.heap.size w u2 := hB1.grown hg2 hB1.size (fun q hq => by have := Option.some.inj hq; omega)
      refine hK.out _ _ trivial (fun hHeldN => ?_)
      clear hHeld
      have hHeld := hHeldN
      clear hHeldN
      clear hK K hM1 hB1 hg2
      try simp only [Act.put, List.setIfInBounds_toArray, List.set_cons_zero, List.set_cons_succ]
      refine wpAnyH_ready (rs := [5, 8]) (by kernel_rfl) (by simp) ?_
      refine (AllReadyH.cons rfl (fun K hK => ?_) (AllReadyH.cons rfl (fun K hK => ?_) AllReadyH.nil))
      · rw [if_pos (by rfl)]
        refine wp_putF _ _ _ _ _ rfl 66 Tryz.underlying64 w.heap.size 2 _ rfl hM2 (by unfold maxLen; omega) 1 rfl (.func (.func 66) #[.pointer (some ⟨O, 0, none⟩)] #[]) rfl (by omega) (by omega) ?_
        intro u3 hM3 hg3
        have hB3 : Below w.heap.size w u3 := hB2.grown hg3 hB2.size (fun q hq => by have := Option.some.inj hq; omega)
        refine hK.out _ _ trivial (fun hHeldN => ?_)
        clear hHeld
        have hHeld := hHeldN
        clear hHeldN
        clear hK K hM2 hB2 hg3
        try simp only [Act.put, List.setIfInBounds_toArray, List.set_cons_zero, List.set_cons_succ]
        refine wpAnyH_ready (rs := [8]) (by kernel_rfl) (by simp) ?_
        refine (AllReadyH.cons rfl (fun K hK => ?_) AllReadyH.nil)
        · rw [if_pos (by rfl)]
          refine wp_putF _ _ _ _ _ rfl 66 Tryz.underlying64 w.heap.size 3 _ rfl hM3 (by unfold maxLen; omega) 2 rfl (.func (.func 67) #[.pointer (some ⟨O, 0, none⟩)] #[]) rfl (by omega) (by omega) ?_
          intro u4 hM4 hg4
          have hB4 : Below w.heap.size w u4 := hB3.grown hg4 hB3.size (fun q hq => by have := Option.some.inj hq; omega)
          refine hK.out _ _ trivial (fun hHeldN => ?_)
          clear hHeld
          have hHeld := hHeldN
          clear hHeldN
          clear hK K hM3 hB3 hg4
          try simp only [Act.put, List.setIfInBounds_toArray, List.set_cons_zero, List.set_cons_succ]
          refine anyH_at (i := 17) (d := some 16) rfl rfl (by kernel_rfl) (by kernel_rfl) (by kernel_rfl) (fun _ _ _ h => h) (by rfl) (v := ?_) ?_ (by assumption) ?_
          rotate_left
          · (intro w hSw; (try dsimp only at hSw); go_simp <;> with_reducible rfl)
          simp only [Act.put, List.setIfInBounds_toArray, List.set_cons_zero, List.set_cons_succ]
          refine anyH_at (i := 18) (d := some 2) rfl rfl (by kernel_rfl) (by kernel_rfl) (by kernel_rfl) (fun _ _ _ h => h) (by rfl) (v := ?_) ?_ (by assumption) ?_
          rotate_left
          · (intro w hSw; (try dsimp only at hSw); go_simp <;> with_reducible rfl)
          simp only [Act.put, List.setIfInBounds_toArray, List.set_cons_zero, List.set_cons_succ]
          refine wpAnyH_done (by kernel_rfl) ?_ _
          go_wp2
          go_ret
          exact ⟨rfl, _, hM4, by refine ⟨?_, ?_, ?_, ?_⟩ <;> simp, hB4⟩
      · rw [if_pos (by rfl)]
        refine wp_putF _ _ _ _ _ rfl 66 Tryz.underlying64 w.heap.size 2 _ rfl hM2 (by unfold maxLen; omega) 2 rfl (.func (.func 67) #[.pointer (some ⟨O, 0, none⟩)] #[]) rfl (by omega) (by omega) ?_
        intro u3 hM3 hg3
        have hB3 : Below w.heap.size w u3 := hB2.grown hg3 hB2.size (fun q hq => by have := Option.some.inj hq; omega)
        refine hK.out _ _ trivial (fun hHeldN => ?_)
        clear hHeld
        have hHeld := hHeldN
        clear hHeldN
        clear hK K hM2 hB2 hg3
        try simp only [Act.put, List.setIfInBounds_toArray, List.set_cons_zero, List.set_cons_succ]
        refine wpAnyH_ready (rs := [5]) (by kernel_rfl) (by simp) ?_
        refine (AllReadyH.cons rfl (fun K hK => ?_) AllReadyH.nil)
        · rw [if_pos (by rfl)]
          refine wp_putF _ _ _ _ _ rfl 66 Tryz.underlying64 w.heap.size 3 _ rfl hM3 (by unfold maxLen; omega) 1 rfl (.func (.func 66) #[.pointer (some ⟨O, 0, none⟩)] #[]) rfl (by omega) (by omega) ?_
          intro u4 hM4 hg4
          have hB4 : Below w.heap.size w u4 := hB3.grown hg4 hB3.size (fun q hq => by have := Option.some.inj hq; omega)
          refine hK.out _ _ trivial (fun hHeldN => ?_)
          clear hHeld
          have hHeld := hHeldN
          clear hHeldN
          clear hK K hM3 hB3 hg4
          try simp only [Act.put, List.setIfInBounds_toArray, List.set_cons_zero, List.set_cons_succ]
          refine anyH_at (i := 17) (d := some 16) rfl rfl (by kernel_rfl) (by kernel_rfl) (by kernel_rfl) (fun _ _ _ h => h) (by rfl) (v := ?_) ?_ (by assumption) ?_
          rotate_left
          · (intro w hSw; (try dsimp only at hSw); go_simp <;> with_reducible rfl)
          simp only [Act.put, List.setIfInBounds_toArray, List.set_cons_zero, List.set_cons_succ]
          refine anyH_at (i := 18) (d := some 2) rfl rfl (by kernel_rfl) (by kernel_rfl) (by kernel_rfl) (fun _ _ _ h => h) (by rfl) (v := ?_) ?_ (by assumption) ?_
          rotate_left
          · (intro w hSw; (try dsimp only at hSw); go_simp <;> with_reducible rfl)
          simp only [Act.put, List.setIfInBounds_toArray, List.set_cons_zero, List.set_cons_succ]
          refine wpAnyH_done (by kernel_rfl) ?_ _
          go_wp2
          go_ret
          exact ⟨rfl, _, hM4, by refine ⟨?_, ?_, ?_, ?_⟩ <;> simp, hB4⟩
set_option linter.unusedSimpArgs false in
set_option maxHeartbeats 8000000 in
set_option maxRecDepth 100000 in
theorem tearing_any (w : World) (O : Nat) :
    Calls Tryz.prog 35 #[.pointer (some ⟨O, 0, none⟩)] w fun e w' => ∃ V, e = .returned (.map (some w.heap.size)) ∧ MapF w' w.heap.size 4 V ∧ (V 1 = .func (.func 70) #[.pointer (some ⟨O, 0, none⟩)] #[] ∧ V 2 = .func (.func 71) #[.pointer (some ⟨O, 0, none⟩)] #[] ∧ V 3 = .func (.func 72) #[.pointer (some ⟨O, 0, none⟩)] #[] ∧ V 4 = .func (.func 70) #[.pointer (some ⟨O, 0, none⟩)] #[]) ∧ Below w.heap.size w w' := by
  have hmm := @run_makeMap Tryz.prog
  go_enter Tryz.func35, Tryz.ntmps35
  go_wp2_with fail
  refine wp_region_held_drew (S := fun _ => True) (by kernel_rfl) trivial (fun hHeld => ?_)
  refine anyH_at (i := 1) (d := some 4) rfl rfl (by kernel_rfl) (by kernel_rfl) (by kernel_rfl) (fun _ _ _ h => h) (by rfl) (v := ?_) ?_ (by assumption) ?_
  rotate_left
  · (intro w hSw; (try dsimp only at hSw); go_simp <;> with_reducible rfl)
  simp only [Act.put, List.setIfInBounds_toArray, List.set_cons_zero, List.set_cons_succ]
  refine anyH_at (i := 2) (d := some 5) rfl rfl (by kernel_rfl) (by kernel_rfl) (by kernel_rfl) (fun _ _ _ h => h) (by rfl) (v := ?_) ?_ (by assumption) ?_
  rotate_left
  · (intro w hSw; (try dsimp only at hSw); go_simp <;> with_reducible rfl)
  simp only [Act.put, List.setIfInBounds_toArray, List.set_cons_zero, List.set_cons_succ]
  refine anyH_at (i := 3) (d := some 6) rfl rfl (by kernel_rfl) (by kernel_rfl) (by kernel_rfl) (fun _ _ _ h => h) (by rfl) (v := ?_) ?_ (by assumption) ?_
  rotate_left
  · (intro w hSw; (try dsimp only at hSw); go_simp <;> with_reducible rfl)
  simp only [Act.put, List.setIfInBounds_toArray, List.set_cons_zero, List.set_cons_succ]
  refine anyH_at (i := 4) (d := some 7) rfl rfl (by kernel_rfl) (by kernel_rfl) (by kernel_rfl) (fun _ _ _ h => h) (by rfl) (v := ?_) ?_ (by assumption) ?_
  rotate_left
  · (intro w hSw; (try dsimp only at hSw); go_simp <;> with_reducible rfl)
  simp only [Act.put, List.setIfInBounds_toArray, List.set_cons_zero, List.set_cons_succ]
  refine anyH_at (i := 6) (d := some 8) rfl rfl (by kernel_rfl) (by kernel_rfl) (by kernel_rfl) (fun _ _ _ h => h) (by rfl) (v := ?_) ?_ (by assumption) ?_
  rotate_left
  · (intro w hSw; (try dsimp only at hSw); go_simp <;> with_reducible rfl)
  simp only [Act.put, List.setIfInBounds_toArray, List.set_cons_zero, List.set_cons_succ]
  refine anyH_at (i := 7) (d := some 9) rfl rfl (by kernel_rfl) (by kernel_rfl) (by kernel_rfl) (fun _ _ _ h => h) (by rfl) (v := ?_) ?_ (by assumption) ?_
  rotate_left
  · (intro w hSw; (try dsimp only at hSw); go_simp <;> with_reducible rfl)
  simp only [Act.put, List.setIfInBounds_toArray, List.set_cons_zero, List.set_cons_succ]
  refine anyH_at (i := 9) (d := some 10) rfl rfl (by kernel_rfl) (by kernel_rfl) (by kernel_rfl) (fun _ _ _ h => h) (by rfl) (v := ?_) ?_ (by assumption) ?_
  rotate_left
  · (intro w hSw; (try dsimp only at hSw); go_simp <;> with_reducible rfl)
  simp only [Act.put, List.setIfInBounds_toArray, List.set_cons_zero, List.set_cons_succ]
  refine anyH_at (i := 10) (d := some 11) rfl rfl (by kernel_rfl) (by kernel_rfl) (by kernel_rfl) (fun _ _ _ h => h) (by rfl) (v := ?_) ?_ (by assumption) ?_
  rotate_left
  · (intro w hSw; (try dsimp only at hSw); go_simp <;> with_reducible rfl)
  simp only [Act.put, List.setIfInBounds_toArray, List.set_cons_zero, List.set_cons_succ]
  refine anyH_at (i := 12) (d := some 12) rfl rfl (by kernel_rfl) (by kernel_rfl) (by kernel_rfl) (fun _ _ _ h => h) (by rfl) (v := ?_) ?_ (by assumption) ?_
  rotate_left
  · (intro w hSw; (try dsimp only at hSw); go_simp <;> with_reducible rfl)
  simp only [Act.put, List.setIfInBounds_toArray, List.set_cons_zero, List.set_cons_succ]
  refine anyH_at (i := 13) (d := some 13) rfl rfl (by kernel_rfl) (by kernel_rfl) (by kernel_rfl) (fun _ _ _ h => h) (by rfl) (v := ?_) ?_ (by assumption) ?_
  rotate_left
  · (intro w hSw; (try dsimp only at hSw); go_simp <;> with_reducible rfl)
  simp only [Act.put, List.setIfInBounds_toArray, List.set_cons_zero, List.set_cons_succ]
  refine anyH_at (i := 14) (d := some 14) rfl rfl (by kernel_rfl) (by kernel_rfl) (by kernel_rfl) (fun _ _ _ h => h) (by rfl) (v := ?_) ?_ (by assumption) ?_
  rotate_left
  · (intro w hSw; (try dsimp only at hSw); go_simp <;> with_reducible rfl)
  simp only [Act.put, List.setIfInBounds_toArray, List.set_cons_zero, List.set_cons_succ]
  refine anyH_at (i := 15) (d := some 15) rfl rfl (by kernel_rfl) (by kernel_rfl) (by kernel_rfl) (fun _ _ _ h => h) (by rfl) (v := ?_) ?_ (by assumption) ?_
  rotate_left
  · (intro w hSw; (try dsimp only at hSw); go_simp <;> with_reducible rfl)
  simp only [Act.put, List.setIfInBounds_toArray, List.set_cons_zero, List.set_cons_succ]
  refine wpAnyH_ready (rs := [0]) (by kernel_rfl) (by simp) ?_
  refine AllReadyH.cons rfl (fun K hK => ?_) AllReadyH.nil
  go_simp
  have hM0 : MapF (World.alloc w (Obj.map #[] 0)).drew w.heap.size 0 (fun _ => nilF) := MapF.made w
  have hB0 : Below w.heap.size w (World.alloc w (Obj.map #[] 0)).drew := (below1 w _).drew
  clear hmm
  refine hK.out _ _ trivial (fun hHeldN => ?_)
  clear hHeld
  have hHeld := hHeldN
  clear hHeldN
  clear hK K
  try simp only [Act.put, List.setIfInBounds_toArray, List.set_cons_zero, List.set_cons_succ]
  generalize (World.alloc w (Obj.map #[] 0)).drew = u0 at *
  refine wpAnyH_ready (rs := [5, 8, 11, 16]) (by kernel_rfl) (by simp) ?_
  refine (AllReadyH.cons rfl (fun K hK => ?_) (AllReadyH.cons rfl (fun K hK => ?_) (AllReadyH.cons rfl (fun K hK => ?_) (AllReadyH.cons rfl (fun K hK => ?_) AllReadyH.nil))))
  · rw [if_pos (by rfl)]
    refine wp_putF _ _ _ _ _ rfl 66 Tryz.underlying64 w.heap.size 0 _ rfl hM0 (by unfold maxLen; omega) 1 rfl (.func (.func 70) #[.pointer (some ⟨O, 0, none⟩)] #[]) rfl (by omega) (by omega) ?_
    intro u1 hM1 hg1
    have hB1 : Below w.heap.size w u1 := hB0.grown hg1 hB0.size (fun q hq => by have := Option.some.inj hq; omega)
    refine hK.out _ _ trivial (fun hHeldN => ?_)
    clear hHeld
    have hHeld := hHeldN
    clear hHeldN
    clear hK K hM0 hB0 hg1
    try simp only [Act.put, List.setIfInBounds_toArray, List.set_cons_zero, List.set_cons_succ]
    refine wpAnyH_ready (rs := [8, 11, 16]) (by kernel_rfl) (by simp) ?_
    refine (AllReadyH.cons rfl (fun K hK => ?_) (AllReadyH.cons rfl (fun K hK => ?_) (AllReadyH.cons rfl (fun K hK => ?_) AllReadyH.nil)))
    · rw [if_pos (by rfl)]
      refine wp_putF _ _ _ _ _ rfl 66 Tryz.underlying64 w.heap.size 1 _ rfl hM1 (by unfold maxLen; omega) 2 rfl (.func (.func 71) #[.pointer (some ⟨O, 0, none⟩)] #[]) rfl (by omega) (by omega) ?_
      intro u2 hM2 hg2
      have hB2 : Below w.heap.size w u2 := hB1.grown hg2 hB1.size (fun q hq => by have := Option.some.inj hq; omega)
      refine hK.out _ _ trivial (fun hHeldN => ?_)
      clear hHeld
      have hHeld := hHeldN
      clear hHeldN
      clear hK K hM1 hB1 hg2
      try simp only [Act.put, List.setIfInBounds_toArray, List.set_cons_zero, List.set_cons_succ]
      refine wpAnyH_ready (rs := [11, 16]) (by kernel_rfl) (by simp) ?_
      refine (AllReadyH.cons rfl (fun K hK => ?_) (AllReadyH.cons rfl (fun K hK => ?_) AllReadyH.nil))
      · rw [if_pos (by rfl)]
        refine wp_putF _ _ _ _ _ rfl 66 Tryz.underlying64 w.heap.size 2 _ rfl hM2 (by unfold maxLen; omega) 3 rfl (.func (.func 72) #[.pointer (some ⟨O, 0, none⟩)] #[]) rfl (by omega) (by omega) ?_
        intro u3 hM3 hg3
        have hB3 : Below w.heap.size w u3 := hB2.grown hg3 hB2.size (fun q hq => by have := Option.some.inj hq; omega)
        refine hK.out _ _ trivial (fun hHeldN => ?_)
        clear hHeld
        have hHeld := hHeldN
        clear hHeldN
        clear hK K hM2 hB2 hg3
        try simp only [Act.put, List.setIfInBounds_toArray, List.set_cons_zero, List.set_cons_succ]
        refine wpAnyH_ready (rs := [16]) (by kernel_rfl) (by simp) ?_
        refine (AllReadyH.cons rfl (fun K hK => ?_) AllReadyH.nil)
        · rw [if_pos (by rfl)]
          refine wp_putF _ _ _ _ _ rfl 66 Tryz.underlying64 w.heap.size 3 _ rfl hM3 (by unfold maxLen; omega) 4 rfl (.func (.func 70) #[.pointer (some ⟨O, 0, none⟩)] #[]) rfl (by omega) (by omega) ?_
          intro u4 hM4 hg4
          have hB4 : Below w.heap.size w u4 := hB3.grown hg4 hB3.size (fun q hq => by have := Option.some.inj hq; omega)
          refine hK.out _ _ trivial (fun hHeldN => ?_)
          clear hHeld
          have hHeld := hHeldN
          clear hHeldN
          clear hK K hM3 hB3 hg4
          try simp only [Act.put, List.setIfInBounds_toArray, List.set_cons_zero, List.set_cons_succ]
          refine anyH_at (i := 17) (d := some 16) rfl rfl (by kernel_rfl) (by kernel_rfl) (by kernel_rfl) (fun _ _ _ h => h) (by rfl) (v := ?_) ?_ (by assumption) ?_
          rotate_left
          · (intro w hSw; (try dsimp only at hSw); go_simp <;> with_reducible rfl)
          simp only [Act.put, List.setIfInBounds_toArray, List.set_cons_zero, List.set_cons_succ]
          refine anyH_at (i := 18) (d := some 2) rfl rfl (by kernel_rfl) (by kernel_rfl) (by kernel_rfl) (fun _ _ _ h => h) (by rfl) (v := ?_) ?_ (by assumption) ?_
          rotate_left
          · (intro w hSw; (try dsimp only at hSw); go_simp <;> with_reducible rfl)
          simp only [Act.put, List.setIfInBounds_toArray, List.set_cons_zero, List.set_cons_succ]
          refine wpAnyH_done (by kernel_rfl) ?_ _
          go_wp2
          go_ret
          exact ⟨rfl, _, hM4, by refine ⟨?_, ?_, ?_, ?_⟩ <;> simp, hB4⟩
      · rw [if_pos (by rfl)]
        refine wp_putF _ _ _ _ _ rfl 66 Tryz.underlying64 w.heap.size 2 _ rfl hM2 (by unfold maxLen; omega) 4 rfl (.func (.func 70) #[.pointer (some ⟨O, 0, none⟩)] #[]) rfl (by omega) (by omega) ?_
        intro u3 hM3 hg3
        have hB3 : Below w.heap.size w u3 := hB2.grown hg3 hB2.size (fun q hq => by have := Option.some.inj hq; omega)
        refine hK.out _ _ trivial (fun hHeldN => ?_)
        clear hHeld
        have hHeld := hHeldN
        clear hHeldN
        clear hK K hM2 hB2 hg3
        try simp only [Act.put, List.setIfInBounds_toArray, List.set_cons_zero, List.set_cons_succ]
        refine wpAnyH_ready (rs := [11]) (by kernel_rfl) (by simp) ?_
        refine (AllReadyH.cons rfl (fun K hK => ?_) AllReadyH.nil)
        · rw [if_pos (by rfl)]
          refine wp_putF _ _ _ _ _ rfl 66 Tryz.underlying64 w.heap.size 3 _ rfl hM3 (by unfold maxLen; omega) 3 rfl (.func (.func 72) #[.pointer (some ⟨O, 0, none⟩)] #[]) rfl (by omega) (by omega) ?_
          intro u4 hM4 hg4
          have hB4 : Below w.heap.size w u4 := hB3.grown hg4 hB3.size (fun q hq => by have := Option.some.inj hq; omega)
          refine hK.out _ _ trivial (fun hHeldN => ?_)
          clear hHeld
          have hHeld := hHeldN
          clear hHeldN
          clear hK K hM3 hB3 hg4
          try simp only [Act.put, List.setIfInBounds_toArray, List.set_cons_zero, List.set_cons_succ]
          refine anyH_at (i := 17) (d := some 16) rfl rfl (by kernel_rfl) (by kernel_rfl) (by kernel_rfl) (fun _ _ _ h => h) (by rfl) (v := ?_) ?_ (by assumption) ?_
          rotate_left
          · (intro w hSw; (try dsimp only at hSw); go_simp <;> with_reducible rfl)
          simp only [Act.put, List.setIfInBounds_toArray, List.set_cons_zero, List.set_cons_succ]
          refine anyH_at (i := 18) (d := some 2) rfl rfl (by kernel_rfl) (by kernel_rfl) (by kernel_rfl) (fun _ _ _ h => h) (by rfl) (v := ?_) ?_ (by assumption) ?_
          rotate_left
          · (intro w hSw; (try dsimp only at hSw); go_simp <;> with_reducible rfl)
          simp only [Act.put, List.setIfInBounds_toArray, List.set_cons_zero, List.set_cons_succ]
          refine wpAnyH_done (by kernel_rfl) ?_ _
          go_wp2
          go_ret
          exact ⟨rfl, _, hM4, by refine ⟨?_, ?_, ?_, ?_⟩ <;> simp, hB4⟩
    · rw [if_pos (by rfl)]
      refine wp_putF _ _ _ _ _ rfl 66 Tryz.underlying64 w.heap.size 1 _ rfl hM1 (by unfold maxLen; omega) 3 rfl (.func (.func 72) #[.pointer (some ⟨O, 0, none⟩)] #[]) rfl (by omega) (by omega) ?_
      intro u2 hM2 hg2
      have hB2 : Below w.heap.size w u2 := hB1.grown hg2 hB1.size (fun q hq => by have := Option.some.inj hq; omega)
      refine hK.out _ _ trivial (fun hHeldN => ?_)
      clear hHeld
      have hHeld := hHeldN
      clear hHeldN
      clear hK K hM1 hB1 hg2
      try simp only [Act.put, List.setIfInBounds_toArray, List.set_cons_zero, List.set_cons_succ]
      refine wpAnyH_ready (rs := [8, 16]) (by kernel_rfl) (by simp) ?_
      refine (AllReadyH.cons rfl (fun K hK => ?_) (AllReadyH.cons rfl (fun K hK => ?_) AllReadyH.nil))
      · rw [if_pos (by rfl)]
        refine wp_putF _ _ _ _ _ rfl 66 Tryz.underlying64 w.heap.size 2 _ rfl hM2 (by unfold maxLen; omega) 2 rfl (.func (.func 71) #[.pointer (some ⟨O, 0, none⟩)] #[]) rfl (by omega) (by omega) ?_
        intro u3 hM3 hg3
        have hB3 : Below w.heap.size w u3 := hB2.grown hg3 hB2.size (fun q hq => by have := Option.some.inj hq; omega)
        refine hK.out _ _ trivial (fun hHeldN => ?_)
        clear hHeld
        have hHeld := hHeldN
        clear hHeldN
        clear hK K hM2 hB2 hg3
        try simp only [Act.put, List.setIfInBounds_toArray, List.set_cons_zero, List.set_cons_succ]
        refine wpAnyH_ready (rs := [16]) (by kernel_rfl) (by simp) ?_
        refine (AllReadyH.cons rfl (fun K hK => ?_) AllReadyH.nil)
        · rw [if_pos (by rfl)]
          refine wp_putF _ _ _ _ _ rfl 66 Tryz.underlying64 w.heap.size 3 _ rfl hM3 (by unfold maxLen; omega) 4 rfl (.func (.func 70) #[.pointer (some ⟨O, 0, none⟩)] #[]) rfl (by omega) (by omega) ?_
          intro u4 hM4 hg4
          have hB4 : Below w.heap.size w u4 := hB3.grown hg4 hB3.size (fun q hq => by have := Option.some.inj hq; omega)
          refine hK.out _ _ trivial (fun hHeldN => ?_)
          clear hHeld
          have hHeld := hHeldN
          clear hHeldN
          clear hK K hM3 hB3 hg4
          try simp only [Act.put, List.setIfInBounds_toArray, List.set_cons_zero, List.set_cons_succ]
          refine anyH_at (i := 17) (d := some 16) rfl rfl (by kernel_rfl) (by kernel_rfl) (by kernel_rfl) (fun _ _ _ h => h) (by rfl) (v := ?_) ?_ (by assumption) ?_
          rotate_left
          · (intro w hSw; (try dsimp only at hSw); go_simp <;> with_reducible rfl)
          simp only [Act.put, List.setIfInBounds_toArray, List.set_cons_zero, List.set_cons_succ]
          refine anyH_at (i := 18) (d := some 2) rfl rfl (by kernel_rfl) (by kernel_rfl) (by kernel_rfl) (fun _ _ _ h => h) (by rfl) (v := ?_) ?_ (by assumption) ?_
          rotate_left
          · (intro w hSw; (try dsimp only at hSw); go_simp <;> with_reducible rfl)
          simp only [Act.put, List.setIfInBounds_toArray, List.set_cons_zero, List.set_cons_succ]
          refine wpAnyH_done (by kernel_rfl) ?_ _
          go_wp2
          go_ret
          exact ⟨rfl, _, hM4, by refine ⟨?_, ?_, ?_, ?_⟩ <;> simp, hB4⟩
      · rw [if_pos (by rfl)]
        refine wp_putF _ _ _ _ _ rfl 66 Tryz.underlying64 w.heap.size 2 _ rfl hM2 (by unfold maxLen; omega) 4 rfl (.func (.func 70) #[.pointer (some ⟨O, 0, none⟩)] #[]) rfl (by omega) (by omega) ?_
        intro u3 hM3 hg3
        have hB3 : Below w.heap.size w u3 := hB2.grown hg3 hB2.size (fun q hq => by have := Option.some.inj hq; omega)
        refine hK.out _ _ trivial (fun hHeldN => ?_)
        clear hHeld
        have hHeld := hHeldN
        clear hHeldN
        clear hK K hM2 hB2 hg3
        try simp only [Act.put, List.setIfInBounds_toArray, List.set_cons_zero, List.set_cons_succ]
        refine wpAnyH_ready (rs := [8]) (by kernel_rfl) (by simp) ?_
        refine (AllReadyH.cons rfl (fun K hK => ?_) AllReadyH.nil)
        · rw [if_pos (by rfl)]
          refine wp_putF _ _ _ _ _ rfl 66 Tryz.underlying64 w.heap.size 3 _ rfl hM3 (by unfold maxLen; omega) 2 rfl (.func (.func 71) #[.pointer (some ⟨O, 0, none⟩)] #[]) rfl (by omega) (by omega) ?_
          intro u4 hM4 hg4
          have hB4 : Below w.heap.size w u4 := hB3.grown hg4 hB3.size (fun q hq => by have := Option.some.inj hq; omega)
          refine hK.out _ _ trivial (fun hHeldN => ?_)
          clear hHeld
          have hHeld := hHeldN
          clear hHeldN
          clear hK K hM3 hB3 hg4
          try simp only [Act.put, List.setIfInBounds_toArray, List.set_cons_zero, List.set_cons_succ]
          refine anyH_at (i := 17) (d := some 16) rfl rfl (by kernel_rfl) (by kernel_rfl) (by kernel_rfl) (fun _ _ _ h => h) (by rfl) (v := ?_) ?_ (by assumption) ?_
          rotate_left
          · (intro w hSw; (try dsimp only at hSw); go_simp <;> with_reducible rfl)
          simp only [Act.put, List.setIfInBounds_toArray, List.set_cons_zero, List.set_cons_succ]
          refine anyH_at (i := 18) (d := some 2) rfl rfl (by kernel_rfl) (by kernel_rfl) (by kernel_rfl) (fun _ _ _ h => h) (by rfl) (v := ?_) ?_ (by assumption) ?_
          rotate_left
          · (intro w hSw; (try dsimp only at hSw); go_simp <;> with_reducible rfl)
          simp only [Act.put, List.setIfInBounds_toArray, List.set_cons_zero, List.set_cons_succ]
          refine wpAnyH_done (by kernel_rfl) ?_ _
          go_wp2
          go_ret
          exact ⟨rfl, _, hM4, by refine ⟨?_, ?_, ?_, ?_⟩ <;> simp, hB4⟩
    · rw [if_pos (by rfl)]
      refine wp_putF _ _ _ _ _ rfl 66 Tryz.underlying64 w.heap.size 1 _ rfl hM1 (by unfold maxLen; omega) 4 rfl (.func (.func 70) #[.pointer (some ⟨O, 0, none⟩)] #[]) rfl (by omega) (by omega) ?_
      intro u2 hM2 hg2
      have hB2 : Below w.heap.size w u2 := hB1.grown hg2 hB1.size (fun q hq => by have := Option.some.inj hq; omega)
      refine hK.out _ _ trivial (fun hHeldN => ?_)
      clear hHeld
      have hHeld := hHeldN
      clear hHeldN
      clear hK K hM1 hB1 hg2
      try simp only [Act.put, List.setIfInBounds_toArray, List.set_cons_zero, List.set_cons_succ]
      refine wpAnyH_ready (rs := [8, 11]) (by kernel_rfl) (by simp) ?_
      refine (AllReadyH.cons rfl (fun K hK => ?_) (AllReadyH.cons rfl (fun K hK => ?_) AllReadyH.nil))
      · rw [if_pos (by rfl)]
        refine wp_putF _ _ _ _ _ rfl 66 Tryz.underlying64 w.heap.size 2 _ rfl hM2 (by unfold maxLen; omega) 2 rfl (.func (.func 71) #[.pointer (some ⟨O, 0, none⟩)] #[]) rfl (by omega) (by omega) ?_
        intro u3 hM3 hg3
        have hB3 : Below w.heap.size w u3 := hB2.grown hg3 hB2.size (fun q hq => by have := Option.some.inj hq; omega)
        refine hK.out _ _ trivial (fun hHeldN => ?_)
        clear hHeld
        have hHeld := hHeldN
        clear hHeldN
        clear hK K hM2 hB2 hg3
        try simp only [Act.put, List.setIfInBounds_toArray, List.set_cons_zero, List.set_cons_succ]
        refine wpAnyH_ready (rs := [11]) (by kernel_rfl) (by simp) ?_
        refine (AllReadyH.cons rfl (fun K hK => ?_) AllReadyH.nil)
        · rw [if_pos (by rfl)]
          refine wp_putF _ _ _ _ _ rfl 66 Tryz.underlying64 w.heap.size 3 _ rfl hM3 (by unfold maxLen; omega) 3 rfl (.func (.func 72) #[.pointer (some ⟨O, 0, none⟩)] #[]) rfl (by omega) (by omega) ?_
          intro u4 hM4 hg4
          have hB4 : Below w.heap.size w u4 := hB3.grown hg4 hB3.size (fun q hq => by have := Option.some.inj hq; omega)
          refine hK.out _ _ trivial (fun hHeldN => ?_)
          clear hHeld
          have hHeld := hHeldN
          clear hHeldN
          clear hK K hM3 hB3 hg4
          try simp only [Act.put, List.setIfInBounds_toArray, List.set_cons_zero, List.set_cons_succ]
          refine anyH_at (i := 17) (d := some 16) rfl rfl (by kernel_rfl) (by kernel_rfl) (by kernel_rfl) (fun _ _ _ h => h) (by rfl) (v := ?_) ?_ (by assumption) ?_
          rotate_left
          · (intro w hSw; (try dsimp only at hSw); go_simp <;> with_reducible rfl)
          simp only [Act.put, List.setIfInBounds_toArray, List.set_cons_zero, List.set_cons_succ]
          refine anyH_at (i := 18) (d := some 2) rfl rfl (by kernel_rfl) (by kernel_rfl) (by kernel_rfl) (fun _ _ _ h => h) (by rfl) (v := ?_) ?_ (by assumption) ?_
          rotate_left
          · (intro w hSw; (try dsimp only at hSw); go_simp <;> with_reducible rfl)
          simp only [Act.put, List.setIfInBounds_toArray, List.set_cons_zero, List.set_cons_succ]
          refine wpAnyH_done (by kernel_rfl) ?_ _
          go_wp2
          go_ret
          exact ⟨rfl, _, hM4, by refine ⟨?_, ?_, ?_, ?_⟩ <;> simp, hB4⟩
      · rw [if_pos (by rfl)]
        refine wp_putF _ _ _ _ _ rfl 66 Tryz.underlying64 w.heap.size 2 _ rfl hM2 (by unfold maxLen; omega) 3 rfl (.func (.func 72) #[.pointer (some ⟨O, 0, none⟩)] #[]) rfl (by omega) (by omega) ?_
        intro u3 hM3 hg3
        have hB3 : Below w.heap.size w u3 := hB2.grown hg3 hB2.size (fun q hq => by have := Option.some.inj hq; omega)
        refine hK.out _ _ trivial (fun hHeldN => ?_)
        clear hHeld
        have hHeld := hHeldN
        clear hHeldN
        clear hK K hM2 hB2 hg3
        try simp only [Act.put, List.setIfInBounds_toArray, List.set_cons_zero, List.set_cons_succ]
        refine wpAnyH_ready (rs := [8]) (by kernel_rfl) (by simp) ?_
        refine (AllReadyH.cons rfl (fun K hK => ?_) AllReadyH.nil)
        · rw [if_pos (by rfl)]
          refine wp_putF _ _ _ _ _ rfl 66 Tryz.underlying64 w.heap.size 3 _ rfl hM3 (by unfold maxLen; omega) 2 rfl (.func (.func 71) #[.pointer (some ⟨O, 0, none⟩)] #[]) rfl (by omega) (by omega) ?_
          intro u4 hM4 hg4
          have hB4 : Below w.heap.size w u4 := hB3.grown hg4 hB3.size (fun q hq => by have := Option.some.inj hq; omega)
          refine hK.out _ _ trivial (fun hHeldN => ?_)
          clear hHeld
          have hHeld := hHeldN
          clear hHeldN
          clear hK K hM3 hB3 hg4
          try simp only [Act.put, List.setIfInBounds_toArray, List.set_cons_zero, List.set_cons_succ]
          refine anyH_at (i := 17) (d := some 16) rfl rfl (by kernel_rfl) (by kernel_rfl) (by kernel_rfl) (fun _ _ _ h => h) (by rfl) (v := ?_) ?_ (by assumption) ?_
          rotate_left
          · (intro w hSw; (try dsimp only at hSw); go_simp <;> with_reducible rfl)
          simp only [Act.put, List.setIfInBounds_toArray, List.set_cons_zero, List.set_cons_succ]
          refine anyH_at (i := 18) (d := some 2) rfl rfl (by kernel_rfl) (by kernel_rfl) (by kernel_rfl) (fun _ _ _ h => h) (by rfl) (v := ?_) ?_ (by assumption) ?_
          rotate_left
          · (intro w hSw; (try dsimp only at hSw); go_simp <;> with_reducible rfl)
          simp only [Act.put, List.setIfInBounds_toArray, List.set_cons_zero, List.set_cons_succ]
          refine wpAnyH_done (by kernel_rfl) ?_ _
          go_wp2
          go_ret
          exact ⟨rfl, _, hM4, by refine ⟨?_, ?_, ?_, ?_⟩ <;> simp, hB4⟩
  · rw [if_pos (by rfl)]
    refine wp_putF _ _ _ _ _ rfl 66 Tryz.underlying64 w.heap.size 0 _ rfl hM0 (by unfold maxLen; omega) 2 rfl (.func (.func 71) #[.pointer (some ⟨O, 0, none⟩)] #[]) rfl (by omega) (by omega) ?_
    intro u1 hM1 hg1
    have hB1 : Below w.heap.size w u1 := hB0.grown hg1 hB0.size (fun q hq => by have := Option.some.inj hq; omega)
    refine hK.out _ _ trivial (fun hHeldN => ?_)
    clear hHeld
    have hHeld := hHeldN
    clear hHeldN
    clear hK K hM0 hB0 hg1
    try simp only [Act.put, List.setIfInBounds_toArray, List.set_cons_zero, List.set_cons_succ]
    refine wpAnyH_ready (rs := [5, 11, 16]) (by kernel_rfl) (by simp) ?_
    refine (AllReadyH.cons rfl (fun K hK => ?_) (AllReadyH.cons rfl (fun K hK => ?_) (AllReadyH.cons rfl (fun K hK => ?_) AllReadyH.nil)))
    · rw [if_pos (by rfl)]
      refine wp_putF _ _ _ _ _ rfl 66 Tryz.underlying64 w.heap.size 1 _ rfl hM1 (by unfold maxLen; omega) 1 rfl (.func (.func 70) #[.pointer (some ⟨O, 0, none⟩)] #[]) rfl (by omega) (by omega) ?_
      intro u2 hM2 hg2
      have hB2 : Below w.heap.size w u2 := hB1.grown hg2 hB1.size (fun q hq => by have := Option.some.inj hq; omega)
      refine hK.out _ _ trivial (fun hHeldN => ?_)
      clear hHeld
      have hHeld := hHeldN
      clear hHeldN
      clear hK K hM1 hB1 hg2
      try simp only [Act.put, List.setIfInBounds_toArray, List.set_cons_zero, List.set_cons_succ]
      refine wpAnyH_ready (rs := [11, 16]) (by kernel_rfl) (by simp) ?_
      refine (AllReadyH.cons rfl (fun K hK => ?_) (AllReadyH.cons rfl (fun K hK => ?_) AllReadyH.nil))
      · rw [if_pos (by rfl)]
        refine wp_putF _ _ _ _ _ rfl 66 Tryz.underlying64 w.heap.size 2 _ rfl hM2 (by unfold maxLen; omega) 3 rfl (.func (.func 72) #[.pointer (some ⟨O, 0, none⟩)] #[]) rfl (by omega) (by omega) ?_
        intro u3 hM3 hg3
        have hB3 : Below w.heap.size w u3 := hB2.grown hg3 hB2.size (fun q hq => by have := Option.some.inj hq; omega)
        refine hK.out _ _ trivial (fun hHeldN => ?_)
        clear hHeld
        have hHeld := hHeldN
        clear hHeldN
        clear hK K hM2 hB2 hg3
        try simp only [Act.put, List.setIfInBounds_toArray, List.set_cons_zero, List.set_cons_succ]
        refine wpAnyH_ready (rs := [16]) (by kernel_rfl) (by simp) ?_
        refine (AllReadyH.cons rfl (fun K hK => ?_) AllReadyH.nil)
        · rw [if_pos (by rfl)]
          refine wp_putF _ _ _ _ _ rfl 66 Tryz.underlying64 w.heap.size 3 _ rfl hM3 (by unfold maxLen; omega) 4 rfl (.func (.func 70) #[.pointer (some ⟨O, 0, none⟩)] #[]) rfl (by omega) (by omega) ?_
          intro u4 hM4 hg4
          have hB4 : Below w.heap.size w u4 := hB3.grown hg4 hB3.size (fun q hq => by have := Option.some.inj hq; omega)
          refine hK.out _ _ trivial (fun hHeldN => ?_)
          clear hHeld
          have hHeld := hHeldN
          clear hHeldN
          clear hK K hM3 hB3 hg4
          try simp only [Act.put, List.setIfInBounds_toArray, List.set_cons_zero, List.set_cons_succ]
          refine anyH_at (i := 17) (d := some 16) rfl rfl (by kernel_rfl) (by kernel_rfl) (by kernel_rfl) (fun _ _ _ h => h) (by rfl) (v := ?_) ?_ (by assumption) ?_
          rotate_left
          · (intro w hSw; (try dsimp only at hSw); go_simp <;> with_reducible rfl)
          simp only [Act.put, List.setIfInBounds_toArray, List.set_cons_zero, List.set_cons_succ]
          refine anyH_at (i := 18) (d := some 2) rfl rfl (by kernel_rfl) (by kernel_rfl) (by kernel_rfl) (fun _ _ _ h => h) (by rfl) (v := ?_) ?_ (by assumption) ?_
          rotate_left
          · (intro w hSw; (try dsimp only at hSw); go_simp <;> with_reducible rfl)
          simp only [Act.put, List.setIfInBounds_toArray, List.set_cons_zero, List.set_cons_succ]
          refine wpAnyH_done (by kernel_rfl) ?_ _
          go_wp2
          go_ret
          exact ⟨rfl, _, hM4, by refine ⟨?_, ?_, ?_, ?_⟩ <;> simp, hB4⟩
      · rw [if_pos (by rfl)]
        refine wp_putF _ _ _ _ _ rfl 66 Tryz.underlying64 w.heap.size 2 _ rfl hM2 (by unfold maxLen; omega) 4 rfl (.func (.func 70) #[.pointer (some ⟨O, 0, none⟩)] #[]) rfl (by omega) (by omega) ?_
        intro u3 hM3 hg3
        have hB3 : Below w.heap.size w u3 := hB2.grown hg3 hB2.size (fun q hq => by have := Option.some.inj hq; omega)
        refine hK.out _ _ trivial (fun hHeldN => ?_)
        clear hHeld
        have hHeld := hHeldN
        clear hHeldN
        clear hK K hM2 hB2 hg3
        try simp only [Act.put, List.setIfInBounds_toArray, List.set_cons_zero, List.set_cons_succ]
        refine wpAnyH_ready (rs := [11]) (by kernel_rfl) (by simp) ?_
        refine (AllReadyH.cons rfl (fun K hK => ?_) AllReadyH.nil)
        · rw [if_pos (by rfl)]
          refine wp_putF _ _ _ _ _ rfl 66 Tryz.underlying64 w.heap.size 3 _ rfl hM3 (by unfold maxLen; omega) 3 rfl (.func (.func 72) #[.pointer (some ⟨O, 0, none⟩)] #[]) rfl (by omega) (by omega) ?_
          intro u4 hM4 hg4
          have hB4 : Below w.heap.size w u4 := hB3.grown hg4 hB3.size (fun q hq => by have := Option.some.inj hq; omega)
          refine hK.out _ _ trivial (fun hHeldN => ?_)
          clear hHeld
          have hHeld := hHeldN
          clear hHeldN
          clear hK K hM3 hB3 hg4
          try simp only [Act.put, List.setIfInBounds_toArray, List.set_cons_zero, List.set_cons_succ]
          refine anyH_at (i := 17) (d := some 16) rfl rfl (by kernel_rfl) (by kernel_rfl) (by kernel_rfl) (fun _ _ _ h => h) (by rfl) (v := ?_) ?_ (by assumption) ?_
          rotate_left
          · (intro w hSw; (try dsimp only at hSw); go_simp <;> with_reducible rfl)
          simp only [Act.put, List.setIfInBounds_toArray, List.set_cons_zero, List.set_cons_succ]
          refine anyH_at (i := 18) (d := some 2) rfl rfl (by kernel_rfl) (by kernel_rfl) (by kernel_rfl) (fun _ _ _ h => h) (by rfl) (v := ?_) ?_ (by assumption) ?_
          rotate_left
          · (intro w hSw; (try dsimp only at hSw); go_simp <;> with_reducible rfl)
          simp only [Act.put, List.setIfInBounds_toArray, List.set_cons_zero, List.set_cons_succ]
          refine wpAnyH_done (by kernel_rfl) ?_ _
          go_wp2
          go_ret
          exact ⟨rfl, _, hM4, by refine ⟨?_, ?_, ?_, ?_⟩ <;> simp, hB4⟩
    · rw [if_pos (by rfl)]
      refine wp_putF _ _ _ _ _ rfl 66 Tryz.underlying64 w.heap.size 1 _ rfl hM1 (by unfold maxLen; omega) 3 rfl (.func (.func 72) #[.pointer (some ⟨O, 0, none⟩)] #[]) rfl (by omega) (by omega) ?_
      intro u2 hM2 hg2
      have hB2 : Below w.heap.size w u2 := hB1.grown hg2 hB1.size (fun q hq => by have := Option.some.inj hq; omega)
      refine hK.out _ _ trivial (fun hHeldN => ?_)
      clear hHeld
      have hHeld := hHeldN
      clear hHeldN
      clear hK K hM1 hB1 hg2
      try simp only [Act.put, List.setIfInBounds_toArray, List.set_cons_zero, List.set_cons_succ]
      refine wpAnyH_ready (rs := [5, 16]) (by kernel_rfl) (by simp) ?_
      refine (AllReadyH.cons rfl (fun K hK => ?_) (AllReadyH.cons rfl (fun K hK => ?_) AllReadyH.nil))
      · rw [if_pos (by rfl)]
        refine wp_putF _ _ _ _ _ rfl 66 Tryz.underlying64 w.heap.size 2 _ rfl hM2 (by unfold maxLen; omega) 1 rfl (.func (.func 70) #[.pointer (some ⟨O, 0, none⟩)] #[]) rfl (by omega) (by omega) ?_
        intro u3 hM3 hg3
        have hB3 : Below w.heap.size w u3 := hB2.grown hg3 hB2.size (fun q hq => by have := Option.some.inj hq; omega)
        refine hK.out _ _ trivial (fun hHeldN => ?_)
        clear hHeld
        have hHeld := hHeldN
        clear hHeldN
        clear hK K hM2 hB2 hg3
        try simp only [Act.put, List.setIfInBounds_toArray, List.set_cons_zero, List.set_cons_succ]
        refine wpAnyH_ready (rs := [16]) (by kernel_rfl) (by simp) ?_
        refine (AllReadyH.cons rfl (fun K hK => ?_) AllReadyH.nil)
        · rw [if_pos (by rfl)]
          refine wp_putF _ _ _ _ _ rfl 66 Tryz.underlying64 w.heap.size 3 _ rfl hM3 (by unfold maxLen; omega) 4 rfl (.func (.func 70) #[.pointer (some ⟨O, 0, none⟩)] #[]) rfl (by omega) (by omega) ?_
          intro u4 hM4 hg4
          have hB4 : Below w.heap.size w u4 := hB3.grown hg4 hB3.size (fun q hq => by have := Option.some.inj hq; omega)
          refine hK.out _ _ trivial (fun hHeldN => ?_)
          clear hHeld
          have hHeld := hHeldN
          clear hHeldN
          clear hK K hM3 hB3 hg4
          try simp only [Act.put, List.setIfInBounds_toArray, List.set_cons_zero, List.set_cons_succ]
          refine anyH_at (i := 17) (d := some 16) rfl rfl (by kernel_rfl) (by kernel_rfl) (by kernel_rfl) (fun _ _ _ h => h) (by rfl) (v := ?_) ?_ (by assumption) ?_
          rotate_left
          · (intro w hSw; (try dsimp only at hSw); go_simp <;> with_reducible rfl)
          simp only [Act.put, List.setIfInBounds_toArray, List.set_cons_zero, List.set_cons_succ]
          refine anyH_at (i := 18) (d := some 2) rfl rfl (by kernel_rfl) (by kernel_rfl) (by kernel_rfl) (fun _ _ _ h => h) (by rfl) (v := ?_) ?_ (by assumption) ?_
          rotate_left
          · (intro w hSw; (try dsimp only at hSw); go_simp <;> with_reducible rfl)
          simp only [Act.put, List.setIfInBounds_toArray, List.set_cons_zero, List.set_cons_succ]
          refine wpAnyH_done (by kernel_rfl) ?_ _
          go_wp2
          go_ret
          exact ⟨rfl, _, hM4, by refine ⟨?_, ?_, ?_, ?_⟩ <;> simp, hB4⟩
      · rw [if_pos (by rfl)]
        refine wp_putF _ _ _ _ _ rfl 66 Tryz.underlying64 w.heap.size 2 _ rfl hM2 (by unfold maxLen; omega) 4 rfl (.func (.func 70) #[.pointer (some ⟨O, 0, none⟩)] #[]) rfl (by omega) (by omega) ?_
        intro u3 hM3 hg3
        have hB3 : Below w.heap.size w u3 := hB2.grown hg3 hB2.size (fun q hq => by have := Option.some.inj hq; omega)
        refine hK.out _ _ trivial (fun hHeldN => ?_)
        clear hHeld
        have hHeld := hHeldN
        clear hHeldN
        clear hK K hM2 hB2 hg3
        try simp only [Act.put, List.setIfInBounds_toArray, List.set_cons_zero, List.set_cons_succ]
        refine wpAnyH_ready (rs := [5]) (by kernel_rfl) (by simp) ?_
        refine (AllReadyH.cons rfl (fun K hK => ?_) AllReadyH.nil)
        · rw [if_pos (by rfl)]
          refine wp_putF _ _ _ _ _ rfl 66 Tryz.underlying64 w.heap.size 3 _ rfl hM3 (by unfold maxLen; omega) 1 rfl (.func (.func 70) #[.pointer (some ⟨O, 0, none⟩)] #[]) rfl (by omega) (by omega) ?_
          intro u4 hM4 hg4
          have hB4 : Below w.heap.size w u4 := hB3.grown hg4 hB3.size (fun q hq => by have := Option.some.inj hq; omega)
          refine hK.out _ _ trivial (fun hHeldN => ?_)
          clear hHeld
          have hHeld := hHeldN
          clear hHeldN
          clear hK K hM3 hB3 hg4
          try simp only [Act.put, List.setIfInBounds_toArray, List.set_cons_zero, List.set_cons_succ]
          refine anyH_at (i := 17) (d := some 16) rfl rfl (by kernel_rfl) (by kernel_rfl) (by kernel_rfl) (fun _ _ _ h => h) (by rfl) (v := ?_) ?_ (by assumption) ?_
          rotate_left
          · (intro w hSw; (try dsimp only at hSw); go_simp <;> with_reducible rfl)
          simp only [Act.put, List.setIfInBounds_toArray, List.set_cons_zero, List.set_cons_succ]
          refine anyH_at (i := 18) (d := some 2) rfl rfl (by kernel_rfl) (by kernel_rfl) (by kernel_rfl) (fun _ _ _ h => h) (by rfl) (v := ?_) ?_ (by assumption) ?_
          rotate_left
          · (intro w hSw; (try dsimp only at hSw); go_simp <;> with_reducible rfl)
          simp only [Act.put, List.setIfInBounds_toArray, List.set_cons_zero, List.set_cons_succ]
          refine wpAnyH_done (by kernel_rfl) ?_ _
          go_wp2
          go_ret
          exact ⟨rfl, _, hM4, by refine ⟨?_, ?_, ?_, ?_⟩ <;> simp, hB4⟩
    · rw [if_pos (by rfl)]
      refine wp_putF _ _ _ _ _ rfl 66 Tryz.underlying64 w.heap.size 1 _ rfl hM1 (by unfold maxLen; omega) 4 rfl (.func (.func 70) #[.pointer (some ⟨O, 0, none⟩)] #[]) rfl (by omega) (by omega) ?_
      intro u2 hM2 hg2
      have hB2 : Below w.heap.size w u2 := hB1.grown hg2 hB1.size (fun q hq => by have := Option.some.inj hq; omega)
      refine hK.out _ _ trivial (fun hHeldN => ?_)
      clear hHeld
      have hHeld := hHeldN
      clear hHeldN
      clear hK K hM1 hB1 hg2
      try simp only [Act.put, List.setIfInBounds_toArray, List.set_cons_zero, List.set_cons_succ]
      refine wpAnyH_ready (rs := [5, 11]) (by kernel_rfl) (by simp) ?_
      refine (AllReadyH.cons rfl (fun K hK => ?_) (AllReadyH.cons rfl (fun K hK => ?_) AllReadyH.nil))
      · rw [if_pos (by rfl)]
        refine wp_putF _ _ _ _ _ rfl 66 Tryz.underlying64 w.heap.size 2 _ rfl hM2 (by unfold maxLen; omega) 1 rfl (.func (.func 70) #[.pointer (some ⟨O, 0, none⟩)] #[]) rfl (by omega) (by omega) ?_
        intro u3 hM3 hg3
        have hB3 : Below w.heap.size w u3 := hB2.grown hg3 hB2.size (fun q hq => by have := Option.some.inj hq; omega)
        refine hK.out _ _ trivial (fun hHeldN => ?_)
        clear hHeld
        have hHeld := hHeldN
        clear hHeldN
        clear hK K hM2 hB2 hg3
        try simp only [Act.put, List.setIfInBounds_toArray, List.set_cons_zero, List.set_cons_succ]
        refine wpAnyH_ready (rs := [11]) (by kernel_rfl) (by simp) ?_
        refine (AllReadyH.cons rfl (fun K hK => ?_) AllReadyH.nil)
        · rw [if_pos (by rfl)]
          refine wp_putF _ _ _ _ _ rfl 66 Tryz.underlying64 w.heap.size 3 _ rfl hM3 (by unfold maxLen; omega) 3 rfl (.func (.func 72) #[.pointer (some ⟨O, 0, none⟩)] #[]) rfl (by omega) (by omega) ?_
          intro u4 hM4 hg4
          have hB4 : Below w.heap.size w u4 := hB3.grown hg4 hB3.size (fun q hq => by have := Option.some.inj hq; omega)
          refine hK.out _ _ trivial (fun hHeldN => ?_)
          clear hHeld
          have hHeld := hHeldN
          clear hHeldN
          clear hK K hM3 hB3 hg4
          try simp only [Act.put, List.setIfInBounds_toArray, List.set_cons_zero, List.set_cons_succ]
          refine anyH_at (i := 17) (d := some 16) rfl rfl (by kernel_rfl) (by kernel_rfl) (by kernel_rfl) (fun _ _ _ h => h) (by rfl) (v := ?_) ?_ (by assumption) ?_
          rotate_left
          · (intro w hSw; (try dsimp only at hSw); go_simp <;> with_reducible rfl)
          simp only [Act.put, List.setIfInBounds_toArray, List.set_cons_zero, List.set_cons_succ]
          refine anyH_at (i := 18) (d := some 2) rfl rfl (by kernel_rfl) (by kernel_rfl) (by kernel_rfl) (fun _ _ _ h => h) (by rfl) (v := ?_) ?_ (by assumption) ?_
          rotate_left
          · (intro w hSw; (try dsimp only at hSw); go_simp <;> with_reducible rfl)
          simp only [Act.put, List.setIfInBounds_toArray, List.set_cons_zero, List.set_cons_succ]
          refine wpAnyH_done (by kernel_rfl) ?_ _
          go_wp2
          go_ret
          exact ⟨rfl, _, hM4, by refine ⟨?_, ?_, ?_, ?_⟩ <;> simp, hB4⟩
      · rw [if_pos (by rfl)]
        refine wp_putF _ _ _ _ _ rfl 66 Tryz.underlying64 w.heap.size 2 _ rfl hM2 (by unfold maxLen; omega) 3 rfl (.func (.func 72) #[.pointer (some ⟨O, 0, none⟩)] #[]) rfl (by omega) (by omega) ?_
        intro u3 hM3 hg3
        have hB3 : Below w.heap.size w u3 := hB2.grown hg3 hB2.size (fun q hq => by have := Option.some.inj hq; omega)
        refine hK.out _ _ trivial (fun hHeldN => ?_)
        clear hHeld
        have hHeld := hHeldN
        clear hHeldN
        clear hK K hM2 hB2 hg3
        try simp only [Act.put, List.setIfInBounds_toArray, List.set_cons_zero, List.set_cons_succ]
        refine wpAnyH_ready (rs := [5]) (by kernel_rfl) (by simp) ?_
        refine (AllReadyH.cons rfl (fun K hK => ?_) AllReadyH.nil)
        · rw [if_pos (by rfl)]
          refine wp_putF _ _ _ _ _ rfl 66 Tryz.underlying64 w.heap.size 3 _ rfl hM3 (by unfold maxLen; omega) 1 rfl (.func (.func 70) #[.pointer (some ⟨O, 0, none⟩)] #[]) rfl (by omega) (by omega) ?_
          intro u4 hM4 hg4
          have hB4 : Below w.heap.size w u4 := hB3.grown hg4 hB3.size (fun q hq => by have := Option.some.inj hq; omega)
          refine hK.out _ _ trivial (fun hHeldN => ?_)
          clear hHeld
          have hHeld := hHeldN
          clear hHeldN
          clear hK K hM3 hB3 hg4
          try simp only [Act.put, List.setIfInBounds_toArray, List.set_cons_zero, List.set_cons_succ]
          refine anyH_at (i := 17) (d := some 16) rfl rfl (by kernel_rfl) (by kernel_rfl) (by kernel_rfl) (fun _ _ _ h => h) (by rfl) (v := ?_) ?_ (by assumption) ?_
          rotate_left
          · (intro w hSw; (try dsimp only at hSw); go_simp <;> with_reducible rfl)
          simp only [Act.put, List.setIfInBounds_toArray, List.set_cons_zero, List.set_cons_succ]
          refine anyH_at (i := 18) (d := some 2) rfl rfl (by kernel_rfl) (by kernel_rfl) (by kernel_rfl) (fun _ _ _ h => h) (by rfl) (v := ?_) ?_ (by assumption) ?_
          rotate_left
          · (intro w hSw; (try dsimp only at hSw); go_simp <;> with_reducible rfl)
          simp only [Act.put, List.setIfInBounds_toArray, List.set_cons_zero, List.set_cons_succ]
          refine wpAnyH_done (by kernel_rfl) ?_ _
          go_wp2
          go_ret
          exact ⟨rfl, _, hM4, by refine ⟨?_, ?_, ?_, ?_⟩ <;> simp, hB4⟩
  · rw [if_pos (by rfl)]
    refine wp_putF _ _ _ _ _ rfl 66 Tryz.underlying64 w.heap.size 0 _ rfl hM0 (by unfold maxLen; omega) 3 rfl (.func (.func 72) #[.pointer (some ⟨O, 0, none⟩)] #[]) rfl (by omega) (by omega) ?_
    intro u1 hM1 hg1
    have hB1 : Below w.heap.size w u1 := hB0.grown hg1 hB0.size (fun q hq => by have := Option.some.inj hq; omega)
    refine hK.out _ _ trivial (fun hHeldN => ?_)
    clear hHeld
    have hHeld := hHeldN
    clear hHeldN
    clear hK K hM0 hB0 hg1
    try simp only [Act.put, List.setIfInBounds_toArray, List.set_cons_zero, List.set_cons_succ]
    refine wpAnyH_ready (rs := [5, 8, 16]) (by kernel_rfl) (by simp) ?_
    refine (AllReadyH.cons rfl (fun K hK => ?_) (AllReadyH.cons rfl (fun K hK => ?_) (AllReadyH.cons rfl (fun K hK => ?_) AllReadyH.nil)))
    · rw [if_pos (by rfl)]
      refine wp_putF _ _ _ _ _ rfl 66 Tryz.underlying64 w.heap.size 1 _ rfl hM1 (by unfold maxLen; omega) 1 rfl (.func (.func 70) #[.pointer (some ⟨O, 0, none⟩)] #[]) rfl (by omega) (by omega) ?_
      intro u2 hM2 hg2
      have hB2 : Below w.heap.size w u2 := hB1.grown hg2 hB1.size (fun q hq => by have := Option.some.inj hq; omega)
      refine hK.out _ _ trivial (fun hHeldN => ?_)
      clear hHeld
      have hHeld := hHeldN
      clear hHeldN
      clear hK K hM1 hB1 hg2
      try simp only [Act.put, List.setIfInBounds_toArray, List.set_cons_zero, List.set_cons_succ]
      refine wpAnyH_ready (rs := [8, 16]) (by kernel_rfl) (by simp) ?_
      refine (AllReadyH.cons rfl (fun K hK => ?_) (AllReadyH.cons rfl (fun K hK => ?_) AllReadyH.nil))
      · rw [if_pos (by rfl)]
        refine wp_putF _ _ _ _ _ rfl 66 Tryz.underlying64 w.heap.size 2 _ rfl hM2 (by unfold maxLen; omega) 2 rfl (.func (.func 71) #[.pointer (some ⟨O, 0, none⟩)] #[]) rfl (by omega) (by omega) ?_
        intro u3 hM3 hg3
        have hB3 : Below w.heap.size w u3 := hB2.grown hg3 hB2.size (fun q hq => by have := Option.some.inj hq; omega)
        refine hK.out _ _ trivial (fun hHeldN => ?_)
        clear hHeld
        have hHeld := hHeldN
        clear hHeldN
        clear hK K hM2 hB2 hg3
        try simp only [Act.put, List.setIfInBounds_toArray, List.set_cons_zero, List.set_cons_succ]
        refine wpAnyH_ready (rs := [16]) (by kernel_rfl) (by simp) ?_
        refine (AllReadyH.cons rfl (fun K hK => ?_) AllReadyH.nil)
        · rw [if_pos (by rfl)]
          refine wp_putF _ _ _ _ _ rfl 66 Tryz.underlying64 w.heap.size 3 _ rfl hM3 (by unfold maxLen; omega) 4 rfl (.func (.func 70) #[.pointer (some ⟨O, 0, none⟩)] #[]) rfl (by omega) (by omega) ?_
          intro u4 hM4 hg4
          have hB4 : Below w.heap.size w u4 := hB3.grown hg4 hB3.size (fun q hq => by have := Option.some.inj hq; omega)
          refine hK.out _ _ trivial (fun hHeldN => ?_)
          clear hHeld
          have hHeld := hHeldN
          clear hHeldN
          clear hK K hM3 hB3 hg4
          try simp only [Act.put, List.setIfInBounds_toArray, List.set_cons_zero, List.set_cons_succ]
          refine anyH_at (i := 17) (d := some 16) rfl rfl (by kernel_rfl) (by kernel_rfl) (by kernel_rfl) (fun _ _ _ h => h) (by rfl) (v := ?_) ?_ (by assumption) ?_
          rotate_left
          · (intro w hSw; (try dsimp only at hSw); go_simp <;> with_reducible rfl)
          simp only [Act.put, List.setIfInBounds_toArray, List.set_cons_zero, List.set_cons_succ]
          refine anyH_at (i := 18) (d := some 2) rfl rfl (by kernel_rfl) (by kernel_rfl) (by kernel_rfl) (fun _ _ _ h => h) (by rfl) (v := ?_) ?_ (by assumption) ?_
          rotate_left
          · (intro w hSw; (try dsimp only at hSw); go_simp <;> with_reducible rfl)
          simp only [Act.put, List.setIfInBounds_toArray, List.set_cons_zero, List.set_cons_succ]
          refine wpAnyH_done (by kernel_rfl) ?_ _
          go_wp2
          go_ret
          exact ⟨rfl, _, hM4, by refine ⟨?_, ?_, ?_, ?_⟩ <;> simp, hB4⟩
      · rw [if_pos (by rfl)]
        refine wp_putF _ _ _ _ _ rfl 66 Tryz.underlying64 w.heap.size 2 _ rfl hM2 (by unfold maxLen; omega) 4 rfl (.func (.func 70) #[.pointer (some ⟨O, 0, none⟩)] #[]) rfl (by omega) (by omega) ?_
        intro u3 hM3 hg3
        have hB3 : Below w.heap.size w u3 := hB2.grown hg3 hB2.size (fun q hq => by have := Option.some.inj hq; omega)
        refine hK.out _ _ trivial (fun hHeldN => ?_)
        clear hHeld
        have hHeld := hHeldN
        clear hHeldN
        clear hK K hM2 hB2 hg3
        try simp only [Act.put, List.setIfInBounds_toArray, List.set_cons_zero, List.set_cons_succ]
        refine wpAnyH_ready (rs := [8]) (by kernel_rfl) (by simp) ?_
        refine (AllReadyH.cons rfl (fun K hK => ?_) AllReadyH.nil)
        · rw [if_pos (by rfl)]
          refine wp_putF _ _ _ _ _ rfl 66 Tryz.underlying64 w.heap.size 3 _ rfl hM3 (by unfold maxLen; omega) 2 rfl (.func (.func 71) #[.pointer (some ⟨O, 0, none⟩)] #[]) rfl (by omega) (by omega) ?_
          intro u4 hM4 hg4
          have hB4 : Below w.heap.size w u4 := hB3.grown hg4 hB3.size (fun q hq => by have := Option.some.inj hq; omega)
          refine hK.out _ _ trivial (fun hHeldN => ?_)
          clear hHeld
          have hHeld := hHeldN
          clear hHeldN
          clear hK K hM3 hB3 hg4
          try simp only [Act.put, List.setIfInBounds_toArray, List.set_cons_zero, List.set_cons_succ]
          refine anyH_at (i := 17) (d := some 16) rfl rfl (by kernel_rfl) (by kernel_rfl) (by kernel_rfl) (fun _ _ _ h => h) (by rfl) (v := ?_) ?_ (by assumption) ?_
          rotate_left
          · (intro w hSw; (try dsimp only at hSw); go_simp <;> with_reducible rfl)
          simp only [Act.put, List.setIfInBounds_toArray, List.set_cons_zero, List.set_cons_succ]
          refine anyH_at (i := 18) (d := some 2) rfl rfl (by kernel_rfl) (by kernel_rfl) (by kernel_rfl) (fun _ _ _ h => h) (by rfl) (v := ?_) ?_ (by assumption) ?_
          rotate_left
          · (intro w hSw; (try dsimp only at hSw); go_simp <;> with_reducible rfl)
          simp only [Act.put, List.setIfInBounds_toArray, List.set_cons_zero, List.set_cons_succ]
          refine wpAnyH_done (by kernel_rfl) ?_ _
          go_wp2
          go_ret
          exact ⟨rfl, _, hM4, by refine ⟨?_, ?_, ?_, ?_⟩ <;> simp, hB4⟩
    · rw [if_pos (by rfl)]
      refine wp_putF _ _ _ _ _ rfl 66 Tryz.underlying64 w.heap.size 1 _ rfl hM1 (by unfold maxLen; omega) 2 rfl (.func (.func 71) #[.pointer (some ⟨O, 0, none⟩)] #[]) rfl (by omega) (by omega) ?_
      intro u2 hM2 hg2
      have hB2 : Below w.heap.size w u2 := hB1.grown hg2 hB1.size (fun q hq => by have := Option.some.inj hq; omega)
      refine hK.out _ _ trivial (fun hHeldN => ?_)
      clear hHeld
      have hHeld := hHeldN
      clear hHeldN
      clear hK K hM1 hB1 hg2
      try simp only [Act.put, List.setIfInBounds_toArray, List.set_cons_zero, List.set_cons_succ]
      refine wpAnyH_ready (rs := [5, 16]) (by kernel_rfl) (by simp) ?_
      refine (AllReadyH.cons rfl (fun K hK => ?_) (AllReadyH.cons rfl (fun K hK => ?_) AllReadyH.nil))
      · rw [if_pos (by rfl)]
        refine wp_putF _ _ _ _ _ rfl 66 Tryz.underlying64 w.heap.size 2 _ rfl hM2 (by unfold maxLen; omega) 1 rfl (.func (.func 70) #[.pointer (some ⟨O, 0, none⟩)] #[]) rfl (by omega) (by omega) ?_
        intro u3 hM3 hg3
        have hB3 : Below w.heap.size w u3 := hB2.grown hg3 hB2.size (fun q hq => by have := Option.some.inj hq; omega)
        refine hK.out _ _ trivial (fun hHeldN => ?_)
        clear hHeld
        have hHeld := hHeldN
        clear hHeldN
        clear hK K hM2 hB2 hg3
        try simp only [Act.put, List.setIfInBounds_toArray, List.set_cons_zero, List.set_cons_succ]
        refine wpAnyH_ready (rs := [16]) (by kernel_rfl) (by simp) ?_
        refine (AllReadyH.cons rfl (fun K hK => ?_) AllReadyH.nil)
        · rw [if_pos (by rfl)]
          refine wp_putF _ _ _ _ _ rfl 66 Tryz.underlying64 w.heap.size 3 _ rfl hM3 (by unfold maxLen; omega) 4 rfl (.func (.func 70) #[.pointer (some ⟨O, 0, none⟩)] #[]) rfl (by omega) (by omega) ?_
          intro u4 hM4 hg4
          have hB4 : Below w.heap.size w u4 := hB3.grown hg4 hB3.size (fun q hq => by have := Option.some.inj hq; omega)
          refine hK.out _ _ trivial (fun hHeldN => ?_)
          clear hHeld
          have hHeld := hHeldN
          clear hHeldN
          clear hK K hM3 hB3 hg4
          try simp only [Act.put, List.setIfInBounds_toArray, List.set_cons_zero, List.set_cons_succ]
          refine anyH_at (i := 17) (d := some 16) rfl rfl (by kernel_rfl) (by kernel_rfl) (by kernel_rfl) (fun _ _ _ h => h) (by rfl) (v := ?_) ?_ (by assumption) ?_
          rotate_left
          · (intro w hSw; (try dsimp only at hSw); go_simp <;> with_reducible rfl)
          simp only [Act.put, List.setIfInBounds_toArray, List.set_cons_zero, List.set_cons_succ]
          refine anyH_at (i := 18) (d := some 2) rfl rfl (by kernel_rfl) (by kernel_rfl) (by kernel_rfl) (fun _ _ _ h => h) (by rfl) (v := ?_) ?_ (by assumption) ?_
          rotate_left
          · (intro w hSw; (try dsimp only at hSw); go_simp <;> with_reducible rfl)
          simp only [Act.put, List.setIfInBounds_toArray, List.set_cons_zero, List.set_cons_succ]
          refine wpAnyH_done (by kernel_rfl) ?_ _
          go_wp2
          go_ret
          exact ⟨rfl, _, hM4, by refine ⟨?_, ?_, ?_, ?_⟩ <;> simp, hB4⟩
      · rw [if_pos (by rfl)]
        refine wp_putF _ _ _ _ _ rfl 66 Tryz.underlying64 w.heap.size 2 _ rfl hM2 (by unfold maxLen; omega) 4 rfl (.func (.func 70) #[.pointer (some ⟨O, 0, none⟩)] #[]) rfl (by omega) (by omega) ?_
        intro u3 hM3 hg3
        have hB3 : Below w.heap.size w u3 := hB2.grown hg3 hB2.size (fun q hq => by have := Option.some.inj hq; omega)
        refine hK.out _ _ trivial (fun hHeldN => ?_)
        clear hHeld
        have hHeld := hHeldN
        clear hHeldN
        clear hK K hM2 hB2 hg3
        try simp only [Act.put, List.setIfInBounds_toArray, List.set_cons_zero, List.set_cons_succ]
        refine wpAnyH_ready (rs := [5]) (by kernel_rfl) (by simp) ?_
        refine (AllReadyH.cons rfl (fun K hK => ?_) AllReadyH.nil)
        · rw [if_pos (by rfl)]
          refine wp_putF _ _ _ _ _ rfl 66 Tryz.underlying64 w.heap.size 3 _ rfl hM3 (by unfold maxLen; omega) 1 rfl (.func (.func 70) #[.pointer (some ⟨O, 0, none⟩)] #[]) rfl (by omega) (by omega) ?_
          intro u4 hM4 hg4
          have hB4 : Below w.heap.size w u4 := hB3.grown hg4 hB3.size (fun q hq => by have := Option.some.inj hq; omega)
          refine hK.out _ _ trivial (fun hHeldN => ?_)
          clear hHeld
          have hHeld := hHeldN
          clear hHeldN
          clear hK K hM3 hB3 hg4
          try simp only [Act.put, List.setIfInBounds_toArray, List.set_cons_zero, List.set_cons_succ]
          refine anyH_at (i := 17) (d := some 16) rfl rfl (by kernel_rfl) (by kernel_rfl) (by kernel_rfl) (fun _ _ _ h => h) (by rfl) (v := ?_) ?_ (by assumption) ?_
          rotate_left
          · (intro w hSw; (try dsimp only at hSw); go_simp <;> with_reducible rfl)
          simp only [Act.put, List.setIfInBounds_toArray, List.set_cons_zero, List.set_cons_succ]
          refine anyH_at (i := 18) (d := some 2) rfl rfl (by kernel_rfl) (by kernel_rfl) (by kernel_rfl) (fun _ _ _ h => h) (by rfl) (v := ?_) ?_ (by assumption) ?_
          rotate_left
          · (intro w hSw; (try dsimp only at hSw); go_simp <;> with_reducible rfl)
          simp only [Act.put, List.setIfInBounds_toArray, List.set_cons_zero, List.set_cons_succ]
          refine wpAnyH_done (by kernel_rfl) ?_ _
          go_wp2
          go_ret
          exact ⟨rfl, _, hM4, by refine ⟨?_, ?_, ?_, ?_⟩ <;> simp, hB4⟩
    · rw [if_pos (by rfl)]
      refine wp_putF _ _ _ _ _ rfl 66 Tryz.underlying64 w.heap.size 1 _ rfl hM1 (by unfold maxLen; omega) 4 rfl (.func (.func 70) #[.pointer (some ⟨O, 0, none⟩)] #[]) rfl (by omega) (by omega) ?_
      intro u2 hM2 hg2
      have hB2 : Below w.heap.size w u2 := hB1.grown hg2 hB1.size (fun q hq => by have := Option.some.inj hq; omega)
      refine hK.out _ _ trivial (fun hHeldN => ?_)
      clear hHeld
      have hHeld := hHeldN
      clear hHeldN
      clear hK K hM1 hB1 hg2
      try simp only [Act.put, List.setIfInBounds_toArray, List.set_cons_zero, List.set_cons_succ]
      refine wpAnyH_ready (rs := [5, 8]) (by kernel_rfl) (by simp) ?_
      refine (AllReadyH.cons rfl (fun K hK => ?_) (AllReadyH.cons rfl (fun K hK => ?_) AllReadyH.nil))
      · rw [if_pos (by rfl)]
        refine wp_putF _ _ _ _ _ rfl 66 Tryz.underlying64 w.heap.size 2 _ rfl hM2 (by unfold maxLen; omega) 1 rfl (.func (.func 70) #[.pointer (some ⟨O, 0, none⟩)] #[]) rfl (by omega) (by omega) ?_
        intro u3 hM3 hg3
        have hB3 : Below w.heap.size w u3 := hB2.grown hg3 hB2.size (fun q hq => by have := Option.some.inj hq; omega)
        refine hK.out _ _ trivial (fun hHeldN => ?_)
        clear hHeld
        have hHeld := hHeldN
        clear hHeldN
        clear hK K hM2 hB2 hg3
        try simp only [Act.put, List.setIfInBounds_toArray, List.set_cons_zero, List.set_cons_succ]
        refine wpAnyH_ready (rs := [8]) (by kernel_rfl) (by simp) ?_
        refine (AllReadyH.cons rfl (fun K hK => ?_) AllReadyH.nil)
        · rw [if_pos (by rfl)]
          refine wp_putF _ _ _ _ _ rfl 66 Tryz.underlying64 w.heap.size 3 _ rfl hM3 (by unfold maxLen; omega) 2 rfl (.func (.func 71) #[.pointer (some ⟨O, 0, none⟩)] #[]) rfl (by omega) (by omega) ?_
          intro u4 hM4 hg4
          have hB4 : Below w.heap.size w u4 := hB3.grown hg4 hB3.size (fun q hq => by have := Option.some.inj hq; omega)
          refine hK.out _ _ trivial (fun hHeldN => ?_)
          clear hHeld
          have hHeld := hHeldN
          clear hHeldN
          clear hK K hM3 hB3 hg4
          try simp only [Act.put, List.setIfInBounds_toArray, List.set_cons_zero, List.set_cons_succ]
          refine anyH_at (i := 17) (d := some 16) rfl rfl (by kernel_rfl) (by kernel_rfl) (by kernel_rfl) (fun _ _ _ h => h) (by rfl) (v := ?_) ?_ (by assumption) ?_
          rotate_left
          · (intro w hSw; (try dsimp only at hSw); go_simp <;> with_reducible rfl)
          simp only [Act.put, List.setIfInBounds_toArray, List.set_cons_zero, List.set_cons_succ]
          refine anyH_at (i := 18) (d := some 2) rfl rfl (by kernel_rfl) (by kernel_rfl) (by kernel_rfl) (fun _ _ _ h => h) (by rfl) (v := ?_) ?_ (by assumption) ?_
          rotate_left
          · (intro w hSw; (try dsimp only at hSw); go_simp <;> with_reducible rfl)
          simp only [Act.put, List.setIfInBounds_toArray, List.set_cons_zero, List.set_cons_succ]
          refine wpAnyH_done (by kernel_rfl) ?_ _
          go_wp2
          go_ret
          exact ⟨rfl, _, hM4, by refine ⟨?_, ?_, ?_, ?_⟩ <;> simp, hB4⟩
      · rw [if_pos (by rfl)]
        refine wp_putF _ _ _ _ _ rfl 66 Tryz.underlying64 w.heap.size 2 _ rfl hM2 (by unfold maxLen; omega) 2 rfl (.func (.func 71) #[.pointer (some ⟨O, 0, none⟩)] #[]) rfl (by omega) (by omega) ?_
        intro u3 hM3 hg3
        have hB3 : Below w.heap.size w u3 := hB2.grown hg3 hB2.size (fun q hq => by have := Option.some.inj hq; omega)
        refine hK.out _ _ trivial (fun hHeldN => ?_)
        clear hHeld
        have hHeld := hHeldN
        clear hHeldN
        clear hK K hM2 hB2 hg3
        try simp only [Act.put, List.setIfInBounds_toArray, List.set_cons_zero, List.set_cons_succ]
        refine wpAnyH_ready (rs := [5]) (by kernel_rfl) (by simp) ?_
        refine (AllReadyH.cons rfl (fun K hK => ?_) AllReadyH.nil)
        · rw [if_pos (by rfl)]
          refine wp_putF _ _ _ _ _ rfl 66 Tryz.underlying64 w.heap.size 3 _ rfl hM3 (by unfold maxLen; omega) 1 rfl (.func (.func 70) #[.pointer (some ⟨O, 0, none⟩)] #[]) rfl (by omega) (by omega) ?_
          intro u4 hM4 hg4
          have hB4 : Below w.heap.size w u4 := hB3.grown hg4 hB3.size (fun q hq => by have := Option.some.inj hq; omega)
          refine hK.out _ _ trivial (fun hHeldN => ?_)
          clear hHeld
          have hHeld := hHeldN
          clear hHeldN
          clear hK K hM3 hB3 hg4
          try simp only [Act.put, List.setIfInBounds_toArray, List.set_cons_zero, List.set_cons_succ]
          refine anyH_at (i := 17) (d := some 16) rfl rfl (by kernel_rfl) (by kernel_rfl) (by kernel_rfl) (fun _ _ _ h => h) (by rfl) (v := ?_) ?_ (by assumption) ?_
          rotate_left
          · (intro w hSw; (try dsimp only at hSw); go_simp <;> with_reducible rfl)
          simp only [Act.put, List.setIfInBounds_toArray, List.set_cons_zero, List.set_cons_succ]
          refine anyH_at (i := 18) (d := some 2) rfl rfl (by kernel_rfl) (by kernel_rfl) (by kernel_rfl) (fun _ _ _ h => h) (by rfl) (v := ?_) ?_ (by assumption) ?_
          rotate_left
          · (intro w hSw; (try dsimp only at hSw); go_simp <;> with_reducible rfl)
          simp only [Act.put, List.setIfInBounds_toArray, List.set_cons_zero, List.set_cons_succ]
          refine wpAnyH_done (by kernel_rfl) ?_ _
          go_wp2
          go_ret
          exact ⟨rfl, _, hM4, by refine ⟨?_, ?_, ?_, ?_⟩ <;> simp, hB4⟩
  · rw [if_pos (by rfl)]
    refine wp_putF _ _ _ _ _ rfl 66 Tryz.underlying64 w.heap.size 0 _ rfl hM0 (by unfold maxLen; omega) 4 rfl (.func (.func 70) #[.pointer (some ⟨O, 0, none⟩)] #[]) rfl (by omega) (by omega) ?_
    intro u1 hM1 hg1
    have hB1 : Below w.heap.size w u1 := hB0.grown hg1 hB0.size (fun q hq => by have := Option.some.inj hq; omega)
    refine hK.out _ _ trivial (fun hHeldN => ?_)
    clear hHeld
    have hHeld := hHeldN
    clear hHeldN
    clear hK K hM0 hB0 hg1
    try simp only [Act.put, List.setIfInBounds_toArray, List.set_cons_zero, List.set_cons_succ]
    refine wpAnyH_ready (rs := [5, 8, 11]) (by kernel_rfl) (by simp) ?_
    refine (AllReadyH.cons rfl (fun K hK => ?_) (AllReadyH.cons rfl (fun K hK => ?_) (AllReadyH.cons rfl (fun K hK => ?_) AllReadyH.nil)))
    · rw [if_pos (by rfl)]
      refine wp_putF _ _ _ _ _ rfl 66 Tryz.underlying64 w.heap.size 1 _ rfl hM1 (by unfold maxLen; omega) 1 rfl (.func (.func 70) #[.pointer (some ⟨O, 0, none⟩)] #[]) rfl (by omega) (by omega) ?_
      intro u2 hM2 hg2
      have hB2 : Below w.heap.size w u2 := hB1.grown hg2 hB1.size (fun q hq => by have := Option.some.inj hq; omega)
      refine hK.out _ _ trivial (fun hHeldN => ?_)
      clear hHeld
      have hHeld := hHeldN
      clear hHeldN
      clear hK K hM1 hB1 hg2
      try simp only [Act.put, List.setIfInBounds_toArray, List.set_cons_zero, List.set_cons_succ]
      refine wpAnyH_ready (rs := [8, 11]) (by kernel_rfl) (by simp) ?_
      refine (AllReadyH.cons rfl (fun K hK => ?_) (AllReadyH.cons rfl (fun K hK => ?_) AllReadyH.nil))
      · rw [if_pos (by rfl)]
        refine wp_putF _ _ _ _ _ rfl 66 Tryz.underlying64 w.heap.size 2 _ rfl hM2 (by unfold maxLen; omega) 2 rfl (.func (.func 71) #[.pointer (some ⟨O, 0, none⟩)] #[]) rfl (by omega) (by omega) ?_
        intro u3 hM3 hg3
        have hB3 : Below w.heap.size w u3 := hB2.grown hg3 hB2.size (fun q hq => by have := Option.some.inj hq; omega)
        refine hK.out _ _ trivial (fun hHeldN => ?_)
        clear hHeld
        have hHeld := hHeldN
        clear hHeldN
        clear hK K hM2 hB2 hg3
        try simp only [Act.put, List.setIfInBounds_toArray, List.set_cons_zero, List.set_cons_succ]
        refine wpAnyH_ready (rs := [11]) (by kernel_rfl) (by simp) ?_
        refine (AllReadyH.cons rfl (fun K hK => ?_) AllReadyH.nil)
        · rw [if_pos (by rfl)]
          refine wp_putF _ _ _ _ _ rfl 66 Tryz.underlying64 w.heap.size 3 _ rfl hM3 (by unfold maxLen; omega) 3 rfl (.func (.func 72) #[.pointer (some ⟨O, 0, none⟩)] #[]) rfl (by omega) (by omega) ?_
          intro u4 hM4 hg4
          have hB4 : Below w.heap.size w u4 := hB3.grown hg4 hB3.size (fun q hq => by have := Option.some.inj hq; omega)
          refine hK.out _ _ trivial (fun hHeldN => ?_)
          clear hHeld
          have hHeld := hHeldN
          clear hHeldN
          clear hK K hM3 hB3 hg4
          try simp only [Act.put, List.setIfInBounds_toArray, List.set_cons_zero, List.set_cons_succ]
          refine anyH_at (i := 17) (d := some 16) rfl rfl (by kernel_rfl) (by kernel_rfl) (by kernel_rfl) (fun _ _ _ h => h) (by rfl) (v := ?_) ?_ (by assumption) ?_
          rotate_left
          · (intro w hSw; (try dsimp only at hSw); go_simp <;> with_reducible rfl)
          simp only [Act.put, List.setIfInBounds_toArray, List.set_cons_zero, List.set_cons_succ]
          refine anyH_at (i := 18) (d := some 2) rfl rfl (by kernel_rfl) (by kernel_rfl) (by kernel_rfl) (fun _ _ _ h => h) (by rfl) (v := ?_) ?_ (by assumption) ?_
          rotate_left
          · (intro w hSw; (try dsimp only at hSw); go_simp <;> with_reducible rfl)
          simp only [Act.put, List.setIfInBounds_toArray, List.set_cons_zero, List.set_cons_succ]
          refine wpAnyH_done (by kernel_rfl) ?_ _
          go_wp2
          go_ret
          exact ⟨rfl, _, hM4, by refine ⟨?_, ?_, ?_, ?_⟩ <;> simp, hB4⟩
      · rw [if_pos (by rfl)]
        refine wp_putF _ _ _ _ _ rfl 66 Tryz.underlying64 w.heap.size 2 _ rfl hM2 (by unfold maxLen; omega) 3 rfl (.func (.func 72) #[.pointer (some ⟨O, 0, none⟩)] #[]) rfl (by omega) (by omega) ?_
        intro u3 hM3 hg3
        have hB3 : Below w.heap.size w u3 := hB2.grown hg3 hB2.size (fun q hq => by have := Option.some.inj hq; omega)
        refine hK.out _ _ trivial (fun hHeldN => ?_)
        clear hHeld
        have hHeld := hHeldN
        clear hHeldN
        clear hK K hM2 hB2 hg3
        try simp only [Act.put, List.setIfInBounds_toArray, List.set_cons_zero, List.set_cons_succ]
        refine wpAnyH_ready (rs := [8]) (by kernel_rfl) (by simp) ?_
        refine (AllReadyH.cons rfl (fun K hK => ?_) AllReadyH.nil)
        · rw [if_pos (by rfl)]
          refine wp_putF _ _ _ _ _ rfl 66 Tryz.underlying64 w.heap.size 3 _ rfl hM3 (by unfold maxLen; omega) 2 rfl (.func (.func 71) #[.pointer (some ⟨O, 0, none⟩)] #[]) rfl (by omega) (by omega) ?_
          intro u4 hM4 hg4
          have hB4 : Below w.heap.size w u4 := hB3.grown hg4 hB3.size (fun q hq => by have := Option.some.inj hq; omega)
          refine hK.out _ _ trivial (fun hHeldN => ?_)
          clear hHeld
          have hHeld := hHeldN
          clear hHeldN
          clear hK K hM3 hB3 hg4
          try simp only [Act.put, List.setIfInBounds_toArray, List.set_cons_zero, List.set_cons_succ]
          refine anyH_at (i := 17) (d := some 16) rfl rfl (by kernel_rfl) (by kernel_rfl) (by kernel_rfl) (fun _ _ _ h => h) (by rfl) (v := ?_) ?_ (by assumption) ?_
          rotate_left
          · (intro w hSw; (try dsimp only at hSw); go_simp <;> with_reducible rfl)
          simp only [Act.put, List.setIfInBounds_toArray, List.set_cons_zero, List.set_cons_succ]
          refine anyH_at (i := 18) (d := some 2) rfl rfl (by kernel_rfl) (by kernel_rfl) (by kernel_rfl) (fun _ _ _ h => h) (by rfl) (v := ?_) ?_ (by assumption) ?_
          rotate_left
          · (intro w hSw; (try dsimp only at hSw); go_simp <;> with_reducible rfl)
          simp only [Act.put, List.setIfInBounds_toArray, List.set_cons_zero, List.set_cons_succ]
          refine wpAnyH_done (by kernel_rfl) ?_ _
          go_wp2
          go_ret
          exact ⟨rfl, _, hM4, by refine ⟨?_, ?_, ?_, ?_⟩ <;> simp, hB4⟩
    · rw [if_pos (by rfl)]
      refine wp_putF _ _ _ _ _ rfl 66 Tryz.underlying64 w.heap.size 1 _ rfl hM1 (by unfold maxLen; omega) 2 rfl (.func (.func 71) #[.pointer (some ⟨O, 0, none⟩)] #[]) rfl (by omega) (by omega) ?_
      intro u2 hM2 hg2
      have hB2 : Below w.heap.size w u2 := hB1.grown hg2 hB1.size (fun q hq => by have := Option.some.inj hq; omega)
      refine hK.out _ _ trivial (fun hHeldN => ?_)
      clear hHeld
      have hHeld := hHeldN
      clear hHeldN
      clear hK K hM1 hB1 hg2
      try simp only [Act.put, List.setIfInBounds_toArray, List.set_cons_zero, List.set_cons_succ]
      refine wpAnyH_ready (rs := [5, 11]) (by kernel_rfl) (by simp) ?_
      refine (AllReadyH.cons rfl (fun K hK => ?_) (AllReadyH.cons rfl (fun K hK => ?_) AllReadyH.nil))
      · rw [if_pos (by rfl)]
        refine wp_putF _ _ _ _ _ rfl 66 Tryz.underlying64 w.heap.size 2 _ rfl hM2 (by unfold maxLen; omega) 1 rfl (.func (.func 70) #[.pointer (some ⟨O, 0, none⟩)] #[]) rfl (by omega) (by omega) ?_
        intro u3 hM3 hg3
        have hB3 : Below w.heap.size w u3 := hB2.grown hg3 hB2.size (fun q hq => by have := Option.some.inj hq; omega)
        refine hK.out _ _ trivial (fun hHeldN => ?_)
        clear hHeld
        have hHeld := hHeldN
        clear hHeldN
        clear hK K hM2 hB2 hg3
        try simp only [Act.put, List.setIfInBounds_toArray, List.set_cons_zero, List.set_cons_succ]
        refine wpAnyH_ready (rs := [11]) (by kernel_rfl) (by simp) ?_
        refine (AllReadyH.cons rfl (fun K hK => ?_) AllReadyH.nil)
        · rw [if_pos (by rfl)]
          refine wp_putF _ _ _ _ _ rfl 66 Tryz.underlying64 w.heap.size 3 _ rfl hM3 (by unfold maxLen; omega) 3 rfl (.func (.func 72) #[.pointer (some ⟨O, 0, none⟩)] #[]) rfl (by omega) (by omega) ?_
          intro u4 hM4 hg4
          have hB4 : Below w.heap.size w u4 := hB3.grown hg4 hB3.size (fun q hq => by have := Option.some.inj hq; omega)
          refine hK.out _ _ trivial (fun hHeldN => ?_)
          clear hHeld
          have hHeld := hHeldN
          clear hHeldN
          clear hK K hM3 hB3 hg4
          try simp only [Act.put, List.setIfInBounds_toArray, List.set_cons_zero, List.set_cons_succ]
          refine anyH_at (i := 17) (d := some 16) rfl rfl (by kernel_rfl) (by kernel_rfl) (by kernel_rfl) (fun _ _ _ h => h) (by rfl) (v := ?_) ?_ (by assumption) ?_
          rotate_left
          · (intro w hSw; (try dsimp only at hSw); go_simp <;> with_reducible rfl)
          simp only [Act.put, List.setIfInBounds_toArray, List.set_cons_zero, List.set_cons_succ]
          refine anyH_at (i := 18) (d := some 2) rfl rfl (by kernel_rfl) (by kernel_rfl) (by kernel_rfl) (fun _ _ _ h => h) (by rfl) (v := ?_) ?_ (by assumption) ?_
          rotate_left
          · (intro w hSw; (try dsimp only at hSw); go_simp <;> with_reducible rfl)
          simp only [Act.put, List.setIfInBounds_toArray, List.set_cons_zero, List.set_cons_succ]
          refine wpAnyH_done (by kernel_rfl) ?_ _
          go_wp2
          go_ret
          exact ⟨rfl, _, hM4, by refine ⟨?_, ?_, ?_, ?_⟩ <;> simp, hB4⟩
      · rw [if_pos (by rfl)]
        refine wp_putF _ _ _ _ _ rfl 66 Tryz.underlying64 w.heap.size 2 _ rfl hM2 (by unfold maxLen; omega) 3 rfl (.func (.func 72) #[.pointer (some ⟨O, 0, none⟩)] #[]) rfl (by omega) (by omega) ?_
        intro u3 hM3 hg3
        have hB3 : Below w.heap.size w u3 := hB2.grown hg3 hB2.size (fun q hq => by have := Option.some.inj hq; omega)
        refine hK.out _ _ trivial (fun hHeldN => ?_)
        clear hHeld
        have hHeld := hHeldN
        clear hHeldN
        clear hK K hM2 hB2 hg3
        try simp only [Act.put, List.setIfInBounds_toArray, List.set_cons_zero, List.set_cons_succ]
        refine wpAnyH_ready (rs := [5]) (by kernel_rfl) (by simp) ?_
        refine (AllReadyH.cons rfl (fun K hK => ?_) AllReadyH.nil)
        · rw [if_pos (by rfl)]
          refine wp_putF _ _ _ _ _ rfl 66 Tryz.underlying64 w.heap.size 3 _ rfl hM3 (by unfold maxLen; omega) 1 rfl (.func (.func 70) #[.pointer (some ⟨O, 0, none⟩)] #[]) rfl (by omega) (by omega) ?_
          intro u4 hM4 hg4
          have hB4 : Below w.heap.size w u4 := hB3.grown hg4 hB3.size (fun q hq => by have := Option.some.inj hq; omega)
          refine hK.out _ _ trivial (fun hHeldN => ?_)
          clear hHeld
          have hHeld := hHeldN
          clear hHeldN
          clear hK K hM3 hB3 hg4
          try simp only [Act.put, List.setIfInBounds_toArray, List.set_cons_zero, List.set_cons_succ]
          refine anyH_at (i := 17) (d := some 16) rfl rfl (by kernel_rfl) (by kernel_rfl) (by kernel_rfl) (fun _ _ _ h => h) (by rfl) (v := ?_) ?_ (by assumption) ?_
          rotate_left
          · (intro w hSw; (try dsimp only at hSw); go_simp <;> with_reducible rfl)
          simp only [Act.put, List.setIfInBounds_toArray, List.set_cons_zero, List.set_cons_succ]
          refine anyH_at (i := 18) (d := some 2) rfl rfl (by kernel_rfl) (by kernel_rfl) (by kernel_rfl) (fun _ _ _ h => h) (by rfl) (v := ?_) ?_ (by assumption) ?_
          rotate_left
          · (intro w hSw; (try dsimp only at hSw); go_simp <;> with_reducible rfl)
          simp only [Act.put, List.setIfInBounds_toArray, List.set_cons_zero, List.set_cons_succ]
          refine wpAnyH_done (by kernel_rfl) ?_ _
          go_wp2
          go_ret
          exact ⟨rfl, _, hM4, by refine ⟨?_, ?_, ?_, ?_⟩ <;> simp, hB4⟩
    · rw [if_pos (by rfl)]
      refine wp_putF _ _ _ _ _ rfl 66 Tryz.underlying64 w.heap.size 1 _ rfl hM1 (by unfold maxLen; omega) 3 rfl (.func (.func 72) #[.pointer (some ⟨O, 0, none⟩)] #[]) rfl (by omega) (by omega) ?_
      intro u2 hM2 hg2
      have hB2 : Below w.heap.size w u2 := hB1.grown hg2 hB1.size (fun q hq => by have := Option.some.inj hq; omega)
      refine hK.out _ _ trivial (fun hHeldN => ?_)
      clear hHeld
      have hHeld := hHeldN
      clear hHeldN
      clear hK K hM1 hB1 hg2
      try simp only [Act.put, List.setIfInBounds_toArray, List.set_cons_zero, List.set_cons_succ]
      refine wpAnyH_ready (rs := [5, 8]) (by kernel_rfl) (by simp) ?_
      refine (AllReadyH.cons rfl (fun K hK => ?_) (AllReadyH.cons rfl (fun K hK => ?_) AllReadyH.nil))
      · rw [if_pos (by rfl)]
        refine wp_putF _ _ _ _ _ rfl 66 Tryz.underlying64 w.heap.size 2 _ rfl hM2 (by unfold maxLen; omega) 1 rfl (.func (.func 70) #[.pointer (some ⟨O, 0, none⟩)] #[]) rfl (by omega) (by omega) ?_
        intro u3 hM3 hg3
        have hB3 : Below w.heap.size w u3 := hB2.grown hg3 hB2.size (fun q hq => by have := Option.some.inj hq; omega)
        refine hK.out _ _ trivial (fun hHeldN => ?_)
        clear hHeld
        have hHeld := hHeldN
        clear hHeldN
        clear hK K hM2 hB2 hg3
        try simp only [Act.put, List.setIfInBounds_toArray, List.set_cons_zero, List.set_cons_succ]
        refine wpAnyH_ready (rs := [8]) (by kernel_rfl) (by simp) ?_
        refine (AllReadyH.cons rfl (fun K hK => ?_) AllReadyH.nil)
        · rw [if_pos (by rfl)]
          refine wp_putF _ _ _ _ _ rfl 66 Tryz.underlying64 w.heap.size 3 _ rfl hM3 (by unfold maxLen; omega) 2 rfl (.func (.func 71) #[.pointer (some ⟨O, 0, none⟩)] #[]) rfl (by omega) (by omega) ?_
          intro u4 hM4 hg4
          have hB4 : Below w.heap.size w u4 := hB3.grown hg4 hB3.size (fun q hq => by have := Option.some.inj hq; omega)
          refine hK.out _ _ trivial (fun hHeldN => ?_)
          clear hHeld
          have hHeld := hHeldN
          clear hHeldN
          clear hK K hM3 hB3 hg4
          try simp only [Act.put, List.setIfInBounds_toArray, List.set_cons_zero, List.set_cons_succ]
          refine anyH_at (i := 17) (d := some 16) rfl rfl (by kernel_rfl) (by kernel_rfl) (by kernel_rfl) (fun _ _ _ h => h) (by rfl) (v := ?_) ?_ (by assumption) ?_
          rotate_left
          · (intro w hSw; (try dsimp only at hSw); go_simp <;> with_reducible rfl)
          simp only [Act.put, List.setIfInBounds_toArray, List.set_cons_zero, List.set_cons_succ]
          refine anyH_at (i := 18) (d := some 2) rfl rfl (by kernel_rfl) (by kernel_rfl) (by kernel_rfl) (fun _ _ _ h => h) (by rfl) (v := ?_) ?_ (by assumption) ?_
          rotate_left
          · (intro w hSw; (try dsimp only at hSw); go_simp <;> with_reducible rfl)
          simp only [Act.put, List.setIfInBounds_toArray, List.set_cons_zero, List.set_cons_succ]
          refine wpAnyH_done (by kernel_rfl) ?_ _
          go_wp2
          go_ret
          exact ⟨rfl, _, hM4, by refine ⟨?_, ?_, ?_, ?_⟩ <;> simp, hB4⟩
      · rw [if_pos (by rfl)]
        refine wp_putF _ _ _ _ _ rfl 66 Tryz.underlying64 w.heap.size 2 _ rfl hM2 (by unfold maxLen; omega) 2 rfl (.func (.func 71) #[.pointer (some ⟨O, 0, none⟩)] #[]) rfl (by omega) (by omega) ?_
        intro u3 hM3 hg3
        have hB3 : Below w.heap.size w u3 := hB2.grown hg3 hB2.size (fun q hq => by have := Option.some.inj hq; omega)
        refine hK.out _ _ trivial (fun hHeldN => ?_)
        clear hHeld
        have hHeld := hHeldN
        clear hHeldN
        clear hK K hM2 hB2 hg3
        try simp only [Act.put, List.setIfInBounds_toArray, List.set_cons_zero, List.set_cons_succ]
        refine wpAnyH_ready (rs := [5]) (by kernel_rfl) (by simp) ?_
        refine (AllReadyH.cons rfl (fun K hK => ?_) AllReadyH.nil)
        · rw [if_pos (by rfl)]
          refine wp_putF _ _ _ _ _ rfl 66 Tryz.underlying64 w.heap.size 3 _ rfl hM3 (by unfold maxLen; omega) 1 rfl (.func (.func 70) #[.pointer (some ⟨O, 0, none⟩)] #[]) rfl (by omega) (by omega) ?_
          intro u4 hM4 hg4
          have hB4 : Below w.heap.size w u4 := hB3.grown hg4 hB3.size (fun q hq => by have := Option.some.inj hq; omega)
          refine hK.out _ _ trivial (fun hHeldN => ?_)
          clear hHeld
          have hHeld := hHeldN
          clear hHeldN
          clear hK K hM3 hB3 hg4
          try simp only [Act.put, List.setIfInBounds_toArray, List.set_cons_zero, List.set_cons_succ]
          refine anyH_at (i := 17) (d := some 16) rfl rfl (by kernel_rfl) (by kernel_rfl) (by kernel_rfl) (fun _ _ _ h => h) (by rfl) (v := ?_) ?_ (by assumption) ?_
          rotate_left
          · (intro w hSw; (try dsimp only at hSw); go_simp <;> with_reducible rfl)
          simp only [Act.put, List.setIfInBounds_toArray, List.set_cons_zero, List.set_cons_succ]
          refine anyH_at (i := 18) (d := some 2) rfl rfl (by kernel_rfl) (by kernel_rfl) (by kernel_rfl) (fun _ _ _ h => h) (by rfl) (v := ?_) ?_ (by assumption) ?_
          rotate_left
          · (intro w hSw; (try dsimp only at hSw); go_simp <;> with_reducible rfl)
          simp only [Act.put, List.setIfInBounds_toArray, List.set_cons_zero, List.set_cons_succ]
          refine wpAnyH_done (by kernel_rfl) ?_ _
          go_wp2
          go_ret
          exact ⟨rfl, _, hM4, by refine ⟨?_, ?_, ?_, ?_⟩ <;> simp, hB4⟩
end Go.Proofs.YtkhanndmbpemfaaGreatDoor
