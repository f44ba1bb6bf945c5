/- The law FnDisk, for all bytes that are handed in: no condition beyond the row's own. -/
import Derived.Test.YtdnbfnahhkmmnaaDoorFnDiskLaw
import Derived.Test.YtdnbfnahhkmmnaaDoorOpenB
import Derived.Test.YtdnbfnahhkmmnaaDoorOpen
import Derived.Test.YtdnbfnahhkmmnaaDoorSents
import Derived.Test.YtdnbfnahhkmmnaaDoorCards
import Derived.Test.YtdnbfnahhkmmnaaDoorTie
import Derived.ProofKit
import Derived.OpenShut
import Derived.ShutString
import Derived.OpenVars
import Derived.Carry
import Derived.LaidMore
import Derived.Stop.Joined
import Derived.SevenTiedAt
namespace Go.Proofs.YtdnbfnahhkmmnaaDoor.fnDisk
open Go.ChangeShapes Go.WideShapes Go.ChangeAt Go.RowKit
open Go.ChangeMaps (open_string shut_string)
set_option linter.unusedVariables false
theorem door_met (os : Os) (args : Array Value) : laidMetH Tryd.prog [("loop.example/g00416/impl.errDiskForm", Rows.laid_loop_example_g00416_impl_errDiskForm), ("loop.example/g00416/impl.errDiskRange", Rows.laid_loop_example_g00416_impl_errDiskRange), ("loop.example/g00416/impl.errDiskFull", Rows.laid_loop_example_g00416_impl_errDiskFull)] ((World.doorLaid Tryd.prog 66 os).forCall (fun _ _ => 0) ⟨#[], args, []⟩).memory :=
  laidMetH_of_parts3 (fuel := 8) (laidMet_of_run' 8 (by kernel_rfl) (by kernel_rfl)) (by kernel_rfl) (by kernel_rfl)

set_option maxRecDepth 100000 in
theorem lifted (os : Os) (started : os.Started) (H : Type) (enc : TypeId × Value → H) :
    ReturnsInHanded {} Tryd.checked os 3 .any (fun w args => (Rows.fnDiskSpec.pre enc Tryd.prog Tryd.f3 [] false w args ∧ laidMetH Tryd.prog [("loop.example/g00416/impl.errDiskForm", Rows.laid_loop_example_g00416_impl_errDiskForm), ("loop.example/g00416/impl.errDiskRange", Rows.laid_loop_example_g00416_impl_errDiskRange), ("loop.example/g00416/impl.errDiskFull", Rows.laid_loop_example_g00416_impl_errDiskFull)] w) ∧ sizedMet enc Tryd.prog Tryd.f3 (OpenSpec.ofChange Rows.fnDiskSpec) false w args)
      (Rows.fnDiskSpec.post enc Tryd.prog Tryd.f3 false true false false) := by
  refine returnsInHanded_of_change_and (C := Tryd.checked) (X := fun w _ => laidMetH Tryd.prog [("loop.example/g00416/impl.errDiskForm", Rows.laid_loop_example_g00416_impl_errDiskForm), ("loop.example/g00416/impl.errDiskRange", Rows.laid_loop_example_g00416_impl_errDiskRange), ("loop.example/g00416/impl.errDiskFull", Rows.laid_loop_example_g00416_impl_errDiskFull)] w) (fun _ _ _ hh h => h.of_heap hh) own started (by kernel_rfl) Tryd.func3
    (ChangeSpec.witness_shaped (enc := enc) (C := Tryd.checked) (os := os) (X := fun w _ => laidMetH Tryd.prog [("loop.example/g00416/impl.errDiskForm", Rows.laid_loop_example_g00416_impl_errDiskForm), ("loop.example/g00416/impl.errDiskRange", Rows.laid_loop_example_g00416_impl_errDiskRange), ("loop.example/g00416/impl.errDiskFull", Rows.laid_loop_example_g00416_impl_errDiskFull)] w) false (World.doorLaid Tryd.prog 66 os) #[.slice none 0 0, .slice none 0 0] 8 rfl (World.shaped_of_RefB (by kernel_rfl) (by kernel_rfl)) (by kernel_rfl) (by kernel_rfl) (by kernel_rfl) (door_met os _)) ?_
  intro W base args ds gs before hval0 hW _ _ hL _
  have hval : ∀ (j : Nat) t v, Tryd.f3.params[j]? = some t → args[j]? = some v → Value.okWide Tryd.prog W .any base t v := hval0
  have hW' := hW
  obtain ⟨p, q, hA0, hV0, rfl, hfz, hnd⟩ := hW
  have hlt : ∀ x ∈ p, x.block < W.heap.size := fun x hx => hW'.lt x (List.mem_append_left _ hx)
  have hA : DataW.TrodAll enc Tryd.prog W 0 (fun _ => true) true Tryd.f3.params.toList args.toList ds p := hA0
  have hV : DataW.TrodVars enc Tryd.prog W (fun _ => true) ["loop.example/g00416/impl.errDiskFull", "loop.example/g00416/impl.errDiskForm", "loop.example/g00416/impl.errDiskRange"] gs q := hV0
  rw [Tryd.params3] at hA hval
  obtain ⟨v0, vs_0, d0, ds0, p0, q0, hargs, rfl, hp_0, h0, r0⟩ := trodAll_cons hA
  obtain ⟨v1, vs_1, d1, ds1, p1, q1, rfl, rfl, hp_1, h1, r1⟩ := trodAll_cons r0
  obtain ⟨rfl, rfl, rfl⟩ := trodAll_nil r1
  obtain rfl : args = #[v0, v1] := by cases args; simp_all
  obtain ⟨g1, g2, g3, rfl⟩ := list3 (trodVars_len hV)
  obtain ⟨bs0, hb0⟩ := readsB_of_trod Tryd.underlying22 Tryd.underlying5 (by kernel_rfl) (hval 0 22 v0 rfl rfl) h0
  obtain ⟨bs1, hb1⟩ := readsB_of_trod Tryd.underlying22 Tryd.underlying5 (by kernel_rfl) (hval 1 22 v1 rfl rfl) h1
  rw [MakeChecks.laidMetH_plain _ _ _ (by kernel_rfl)] at hL
  obtain ⟨aF, aR, aU, hS⟩ := sents_of hL
  clear hA0 hval0
  subst hp_0 hp_1
  refine (fnDiskLaw aF aR aU W hS v0 v1 bs0 bs1 hb0 hb1).mono fun e W' ⟨he, bel⟩ => ?_
  subst he
  exact ⟨_, rfl, _, _, _, [], _, q, hW', (trodAll_cons_mk (shut_bool Tryd.underlying4 _) trodAll_mk0), (trodAll_cons_mk (Below.trod laidOut (by kernel_rfl) (of_decide_eq_true (by kernel_rfl)) h0 bel (fun x hx => hlt x (by simp [hx]))) (trodAll_cons_mk (Below.trod laidOut (by kernel_rfl) (of_decide_eq_true (by kernel_rfl)) h1 bel (fun x hx => hlt x (by simp [hx]))) trodAll_mk0)), Below.trodVars laidOut bel (by kernel_rfl) hV, bel.frame _, fun h => by cases h⟩

theorem over : Rows.fnDiskRow.holds Tryd.pinned (OpenSpec.ofChange Rows.fnDiskSpec) :=
  OpenClaim.holds_of_wide 3 Tryd.f3 rfl rfl rfl rfl rfl rfl rfl ⟨rfl, rfl, rfl, rfl, rfl⟩ rfl rfl rfl rfl rfl (by kernel_rfl) Tryd.func3 (by kernel_rfl)
    (of_decide_eq_true (by kernel_rfl)) (by unfold Func.isWrapper; rw [if_neg (of_decide_eq_false (by kernel_rfl))]; exact ⟨rfl, rfl⟩)
    (fun os started H enc _ => lifted os started H enc)

theorem card : Rows.FnDiskCardSaid :=
  Claim7.holds_tied_plain_at .later [] [.sentinel, .sentinel, .sentinel] true (true, "54da8b4d49730600c62fd6a60442eb0c880f58bfe3e37ece3690ed75794fdcdb") true
    over (fun _ h => by cases h) (by kernel_rfl) (fun _ h => by cases h) fnDisk_row_tie rfl ⟨rfl, rfl⟩ (by kernel_rfl) rfl
    (fun f fn hf hfn => by
      obtain rfl : f = 3 := Option.some.inj ((show Tryd.prog.funcNamed "loop.example/g00416/laws.FnDisk" = some 3 by kernel_rfl).symm.trans hf) |>.symm
      obtain rfl : fn = Tryd.f3 := (Option.some.inj (Tryd.func3.symm.trans hfn)).symm
      exact ⟨by kernel_rfl, fun j t ht => by
        rw [Tryd.params3] at ht
        match j, ht with
          | 0, ht => exact (show Tryd.prog.wantsStandIn t = false by obtain rfl := (Option.some.inj ht).symm; kernel_rfl)
          | 1, ht => exact (show Tryd.prog.wantsStandIn t = false by obtain rfl := (Option.some.inj ht).symm; kernel_rfl)
          | j + 2, ht => simp at ht⟩)
    (by kernel_rfl)
end Go.Proofs.YtdnbfnahhkmmnaaDoor.fnDisk
namespace Go.Proofs.YtdnbfnahhkmmnaaDoor
theorem fnDisk_holds : Rows.FnDiskCardSaid := fnDisk.card
#print axioms fnDisk_holds
end Go.Proofs.YtdnbfnahhkmmnaaDoor
