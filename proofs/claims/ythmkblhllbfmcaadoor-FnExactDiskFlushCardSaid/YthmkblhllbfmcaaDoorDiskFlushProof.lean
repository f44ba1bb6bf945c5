/- The exact law of DiskFlush: at every disk (of at most 2^20 things, else the law lets it by) the program's DiskFlush and the model's answer alike, the argument is left as it was, and the answer is memory of its own; the package's errors stand as their own text lays them (the card ties them). -/
import Derived.Test.YthmkblhllbfmcaaDoorLOuts
import Derived.Test.YthmkblhllbfmcaaDoorSents
import Derived.Test.YthmkblhllbfmcaaDoorCards
import Derived.Test.YthmkblhllbfmcaaDoorTie
import Derived.ProofKit
import Derived.OpenShut
import Derived.ShutString
import Derived.OpenVars
import Derived.Carry
import Derived.LaidMore
import Derived.Stop.Joined
import Derived.SevenTiedAt
namespace Go.Proofs.YthmkblhllbfmcaaDoor.fnExactDiskFlush
open Go.ChangeShapes Go.WideShapes Go.ChangeAt Go.RowKit
open Go.ChangeMaps (open_string shut_string)
set_option linter.unusedVariables false
theorem door_met (os : Os) (args : Array Value) : laidMetH Tryd.prog [("loop.example/g00416/impl.errDiskForm", Rows.laid_loop_example_g00416_impl_errDiskForm), ("loop.example/g00416/impl.errDiskRange", Rows.laid_loop_example_g00416_impl_errDiskRange), ("loop.example/g00416/impl.errDiskFull", Rows.laid_loop_example_g00416_impl_errDiskFull)] ((World.doorLaid Tryd.prog 66 os).forCall (fun _ _ => 0) ⟨#[], args, []⟩).memory :=
  laidMetH_of_parts3 (fuel := 8) (laidMet_of_run' 8 (by kernel_rfl) (by kernel_rfl)) (by kernel_rfl) (by kernel_rfl)

set_option maxRecDepth 100000 in
theorem lifted (os : Os) (started : os.Started) (H : Type) (enc : TypeId × Value → H) :
    ReturnsInHanded {} Tryd.checked os 7 .any (fun w args => (Rows.fnExactDiskFlushSpec.pre enc Tryd.prog Tryd.f7 [] false w args ∧ laidMetH Tryd.prog [("loop.example/g00416/impl.errDiskForm", Rows.laid_loop_example_g00416_impl_errDiskForm), ("loop.example/g00416/impl.errDiskRange", Rows.laid_loop_example_g00416_impl_errDiskRange), ("loop.example/g00416/impl.errDiskFull", Rows.laid_loop_example_g00416_impl_errDiskFull)] w) ∧ sizedMet enc Tryd.prog Tryd.f7 (OpenSpec.ofChange Rows.fnExactDiskFlushSpec) false w args)
      (Rows.fnExactDiskFlushSpec.post enc Tryd.prog Tryd.f7 false true false false) := by
  refine returnsInHanded_of_change_and (C := Tryd.checked) (X := fun w _ => laidMetH Tryd.prog [("loop.example/g00416/impl.errDiskForm", Rows.laid_loop_example_g00416_impl_errDiskForm), ("loop.example/g00416/impl.errDiskRange", Rows.laid_loop_example_g00416_impl_errDiskRange), ("loop.example/g00416/impl.errDiskFull", Rows.laid_loop_example_g00416_impl_errDiskFull)] w) (fun _ _ _ hh h => h.of_heap hh) own started (by kernel_rfl) Tryd.func7
    (ChangeSpec.witness_shaped (enc := enc) (C := Tryd.checked) (os := os) (X := fun w _ => laidMetH Tryd.prog [("loop.example/g00416/impl.errDiskForm", Rows.laid_loop_example_g00416_impl_errDiskForm), ("loop.example/g00416/impl.errDiskRange", Rows.laid_loop_example_g00416_impl_errDiskRange), ("loop.example/g00416/impl.errDiskFull", Rows.laid_loop_example_g00416_impl_errDiskFull)] w) false (World.doorLaid Tryd.prog 66 os) #[.agg #[.slice none 0 0, .slice none 0 0]] 8 rfl (World.shaped_of_RefB (by kernel_rfl) (by kernel_rfl)) (by kernel_rfl) (by kernel_rfl) (by kernel_rfl) (door_met os _)) ?_
  intro W base args ds gs before hval0 hW _ _ hL _
  have hval : ∀ (j : Nat) t v, Tryd.f7.params[j]? = some t → args[j]? = some v → Value.okWide Tryd.prog W .any base t v := hval0
  have hW' := hW
  obtain ⟨p, q, hA0, hV0, rfl, hfz, hnd⟩ := hW
  have hlt : ∀ x ∈ p, x.block < W.heap.size := fun x hx => hW'.lt x (List.mem_append_left _ hx)
  have hA : DataW.TrodAll enc Tryd.prog W 0 (fun _ => true) true Tryd.f7.params.toList args.toList ds p := hA0
  have hV : DataW.TrodVars enc Tryd.prog W (fun _ => true) ["loop.example/g00416/impl.errDiskForm", "loop.example/g00416/impl.errDiskRange", "loop.example/g00416/impl.errDiskFull"] gs q := hV0
  rw [Tryd.params7] at hA hval
  obtain ⟨v0, vs_0, d0, ds0, p0, q0, hargs, rfl, hp_0, h0, r0⟩ := trodAll_cons hA
  obtain ⟨rfl, rfl, rfl⟩ := trodAll_nil r0
  obtain rfl : args = #[v0] := by cases args; simp_all
  obtain ⟨g1, g2, g3, rfl⟩ := list3 (trodVars_len hV)
  obtain ⟨vs0, vp0, y00, y10, n0, rfl, _, _, t00, t10⟩ := Joins.open_agg2 Tryd.underlying50 (by kernel_rfl) (by kernel_rfl) (hval 0 50 v0 rfl rfl) h0
  obtain ⟨xs0, hr0⟩ := reads_of_trod Tryd.underlying23 Tryd.underlying9 (by kernel_rfl) t00
  obtain ⟨ps0, hp0⟩ := readsP_of_trod Tryd.underlying48 Tryd.underlying95 (by kernel_rfl) rfl rfl (by kernel_rfl) (by kernel_rfl) Tryd.underlying2 Tryd.underlying9 t10
  rw [MakeChecks.laidMetH_plain _ _ _ (by kernel_rfl)] at hL
  obtain ⟨aF, aR, aU, hS⟩ := sents_of hL
  clear hA0 hval0
  subst hp_0
  refine (flushLaw aF aR aU W hS vs0 vp0 xs0 ps0 hr0 hp0).mono fun e W' ⟨he, bel⟩ => ?_
  subst he
  exact ⟨_, rfl, _, _, _, [], _, q, hW', (trodAll_cons_mk (shut_bool Tryd.underlying4 _) trodAll_mk0), (trodAll_cons_mk (Below.trod laidOut (by kernel_rfl) (of_decide_eq_true (by kernel_rfl)) h0 bel (fun x hx => hlt x (by simp [hx]))) trodAll_mk0), Below.trodVars laidOut bel (by kernel_rfl) hV, bel.frame _, fun h => by cases h⟩

theorem over : Rows.fnExactDiskFlushRow.holds Tryd.pinned (OpenSpec.ofChange Rows.fnExactDiskFlushSpec) :=
  OpenClaim.holds_of_wide 7 Tryd.f7 rfl rfl rfl rfl rfl rfl rfl ⟨rfl, rfl, rfl, rfl, rfl⟩ rfl rfl rfl rfl rfl (by kernel_rfl) Tryd.func7 (by kernel_rfl)
    (of_decide_eq_true (by kernel_rfl)) (by unfold Func.isWrapper; rw [if_neg (of_decide_eq_false (by kernel_rfl))]; exact ⟨rfl, rfl⟩)
    (fun os started H enc _ => lifted os started H enc)

theorem card : Rows.FnExactDiskFlushCardSaid :=
  Claim7.holds_tied_plain_at .later [] [.sentinel, .sentinel, .sentinel] true (true, "c960806a4452fc0edddcb42b06c1736f57c5c3481f6c02a31ad79e03e129740a") true
    over (fun _ h => by cases h) (by kernel_rfl) (fun _ h => by cases h) fnExactDiskFlush_row_tie rfl ⟨rfl, rfl⟩ (by kernel_rfl) rfl
    (fun f fn hf hfn => by
      obtain rfl : f = 7 := Option.some.inj ((show Tryd.prog.funcNamed "loop.example/g00416/laws.FnExactDiskFlush" = some 7 by kernel_rfl).symm.trans hf) |>.symm
      obtain rfl : fn = Tryd.f7 := (Option.some.inj (Tryd.func7.symm.trans hfn)).symm
      exact ⟨by kernel_rfl, fun j t ht => by
        rw [Tryd.params7] at ht
        match j, ht with
          | 0, ht => exact (show Tryd.prog.wantsStandIn t = false by obtain rfl := (Option.some.inj ht).symm; kernel_rfl)
          | j + 1, ht => simp at ht⟩)
    (by kernel_rfl)
end Go.Proofs.YthmkblhllbfmcaaDoor.fnExactDiskFlush
namespace Go.Proofs.YthmkblhllbfmcaaDoor
theorem fnExactDiskFlush_holds : Rows.FnExactDiskFlushCardSaid := fnExactDiskFlush.card
#print axioms fnExactDiskFlush_holds
end Go.Proofs.YthmkblhllbfmcaaDoor
