/- Proved: whatever text FnExactPkgRead is called with, it returns true and leaves it as it was. The listed package-level variables hold what the program's text lays into them (the card ties that). -/
import Derived.Test.YtomnbbegpobaiaaGreatDoorRows
import Derived.Test.YtomnbbegpobaiaaGreatDoorCards
import Derived.Test.YtomnbbegpobaiaaGreatDoorTie
import Derived.Test.YtomnbbegpobaiaaGreatDoorLaidW
import Derived.Test.YtomnbbegpobaiaaGreatDoorLawExactPkgReadW
import Derived.WalkKit
import Derived.ProofKit
import Derived.OpenShut
import Derived.ShutString
import Derived.ChangeOld
import Derived.Below
import Derived.SevenTiedAt
namespace Go.Proofs.YtomnbbegpobaiaaGreatDoor.fnExactPkgRead
open Go.ChangeShapes Go.WideShapes Go.ChangeAt Go.RowKit
open Go.ChangeMaps (open_string shut_string)
set_option linter.unusedVariables false

theorem own : ownKnob Tryz.prog.godebug = none := by kernel_rfl
theorem laidOut : laidOutB Tryz.prog = true := by kernel_rfl

set_option maxRecDepth 100000 in
theorem lifted (os : Os) (started : os.Started) (H : Type) (enc : TypeId × Value → H) :
    ReturnsInHanded {} Tryz.checked os 6 .any (fun w args => (Rows.fnExactPkgReadSpec.pre enc Tryz.prog Tryz.f6 [] false w args ∧ laidMetH Tryz.prog laidL w) ∧ sizedMet enc Tryz.prog Tryz.f6 (OpenSpec.ofChange Rows.fnExactPkgReadSpec) false w args)
      (Rows.fnExactPkgReadSpec.post enc Tryz.prog Tryz.f6 false true false false) := by
  refine wrap (C := Tryz.checked) (X := fun w _ => laidMetH Tryz.prog laidL w) (fun _ _ _ hh h => h.of_heap hh) own started (by kernel_rfl) Tryz.func6
    (ChangeSpec.witness_shaped (enc := enc) (C := Tryz.checked) (os := os) (X := fun w _ => laidMetH Tryz.prog laidL w) false (World.laidAll Tryz.prog os laidL) #[.string ByteArray.empty] 8 (World.laidAll_os _ _ _)
      (World.shaped_of_ZipB (by kernel_rfl) (by kernel_rfl)) (by kernel_rfl) (by kernel_rfl) (by kernel_rfl)
      (by rw [MakeChecks.laidMetH_plain _ _ _ (by kernel_rfl)]; exact laidMet_laidAll _ (by kernel_rfl) (by kernel_rfl))) ?_
  intro W base args ds gs before hval0 hW hsh hL
  have hval : ∀ (j : Nat) t v, Tryz.f6.params[j]? = some t → args[j]? = some v → Value.okWide Tryz.prog W .any base t v := hval0
  have hW' := hW
  obtain ⟨p, q, hA0, hV0, rfl, hfz, hnd⟩ := hW
  have hA : DataW.TrodAll enc Tryz.prog W 0 (fun _ => true) true Tryz.f6.params.toList args.toList ds p := hA0
  have hV : DataW.TrodVars enc Tryz.prog W (fun _ => true) ["loop.example/purser/impl.errNoWord"] gs q := hV0
  rw [Tryz.params6] at hA hval
  obtain ⟨ev, hgl, hvar⟩ := gl_of_laid hsh hL
  have vr : ∀ {X : World}, X.var? Tryz.prog "loop.example/purser/impl.errNoWord" = some #[.iface 143 (.pointer (some ev))] → ∀ sp : Nat → Bool, DataW.TrodVars enc Tryz.prog X sp ["loop.example/purser/impl.errNoWord"] [tok enc (.iface 143 (.pointer (some ev)))] [.cell 0 0] :=
    fun hx sp => vars_read1 enc gNo tNo Tryz.underlying54 hx trivial sp
  obtain ⟨rfl, rfl⟩ := hV.unique (vr hvar _)
  obtain ⟨v0, d0, rfl, rfl, h0⟩ := trodAll_one hA
  obtain ⟨s, rfl, rfl, rfl, w0⟩ := open_string Tryz.underlying9 (hval 0 9 v0 rfl rfl) h0
  clear hA0 hV0 hval0
  refine (exactPkgRead_walk s W ev hgl).mono fun e W' ⟨he, bel⟩ => ?_
  subst he
  have hvar' : W'.var? Tryz.prog "loop.example/purser/impl.errNoWord" = some #[.iface 143 (.pointer (some ev))] := var_below bel gNo hvar
  exact ⟨_, rfl, _, _, _, [], _, [.cell 0 0], hW', trodAll_mk1 (shut_bool Tryz.underlying4 _), trodAll_mk1 (shut_string Tryz.underlying9 w0), vr hvar' _, bel.frame _, fun h => by cases h⟩

theorem over : Rows.fnExactPkgReadRow.holds Tryz.pinned (OpenSpec.ofChange Rows.fnExactPkgReadSpec) :=
  OpenClaim.holds_of_wide 6 Tryz.f6 rfl rfl rfl rfl rfl rfl rfl ⟨rfl, rfl, rfl, rfl, rfl⟩ rfl rfl rfl rfl rfl (by kernel_rfl) Tryz.func6 (by kernel_rfl)
    (of_decide_eq_true (by kernel_rfl)) (by unfold Func.isWrapper; first | (rw [if_pos (by decide +kernel)]; kernel_rfl) | (rw [if_neg (by decide +kernel)]; exact ⟨rfl, rfl⟩))
    (fun os started H enc _ => lifted os started H enc)

theorem proved : Rows.FnExactPkgReadCardSaid :=
  Claim7.holds_tied_plain_at .later [] [.data, .data, .data, .data, .sentinel, .sentinel, .sentinel, .pinned] true (true, "375a402ea8a782044627915d2ebc87e7216d60b4d57479ddd8e59e1f7b1e7fb6") true
    over (fun _ h => by cases h) (by kernel_rfl) (fun _ h => by cases h) fnExactPkgRead_row_tie rfl ⟨rfl, rfl⟩ (by kernel_rfl) rfl
    (fun f fn hf hfn => by
      obtain rfl : f = 6 := Option.some.inj ((show Tryz.prog.funcNamed "loop.example/purser/laws.FnExactPkgRead" = some 6 by kernel_rfl).symm.trans hf) |>.symm
      obtain rfl : fn = Tryz.f6 := (Option.some.inj (Tryz.func6.symm.trans hfn)).symm
      exact ⟨by kernel_rfl, fun j t ht => by
        rw [Tryz.params6] at ht
        have hm : t ∈ [9] := by simpa using Array.mem_of_getElem? ht
        have hall : ([9].all fun u => !Tryz.prog.wantsStandIn u) = true := by kernel_rfl
        exact (show Tryz.prog.wantsStandIn t = false by simpa using List.all_eq_true.1 hall t hm)⟩)
    (by kernel_rfl)
end Go.Proofs.YtomnbbegpobaiaaGreatDoor.fnExactPkgRead
namespace Go.Proofs.YtomnbbegpobaiaaGreatDoor
/-- The statement. -/
theorem FnExactPkgRead_holds : Rows.FnExactPkgReadCardSaid := fnExactPkgRead.proved
end Go.Proofs.YtomnbbegpobaiaaGreatDoor
