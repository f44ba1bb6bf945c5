/- The handle of the type 'error', as the program's text lays it; the program's own errors beside it. -/
import Derived.Test.YtkmehbgepkilkaaGreatDoorRows
import Derived.Test.YtkmehbgepkilkaaGreatDoorXGSents
import Derived.Test.YtkmehbgepkilkaaGreatDoorXGGAs
import Derived.LaidHandle
import Derived.LaidLaws
namespace Go.Proofs.YtkmehbgepkilkaaGreatDoor
open Go.RowKit Go.ChangeShapes Go.WideShapes
theorem hEt : Tryz.prog.globalNamed "errors.errorType" = some 3 := by kernel_rfl
theorem hRt : (Tryz.prog.cutTypes.find? (·.1 == "internal/reflectlite.rtype")).map (·.2) = some 127 := by kernel_rfl
theorem hOneRow : ((List.range 193).filter fun t => Tryz.prog.rowNamed t [101, 114, 114, 111, 114]) = [94] := by kernel_rfl
theorem hTsize : Tryz.prog.types.size = 193 := by kernel_rfl
theorem handle_of {W : World} (h : handlesMet Tryz.prog [("errors.errorType", Rows.laid_errors_errorType)] W) : St3.Laid W := by
  obtain ⟨name, u, ty, e1, e2, e3, e4, e5⟩ := h _ (List.mem_singleton.2 rfl)
  have en : name = [101, 114, 114, 111, 114] := (Option.some.inj e1).symm
  subst en
  obtain rfl := Option.some.inj (hRt.symm.trans e2)
  have hm : ty ∈ (List.range 193).filter fun t => Tryz.prog.rowNamed t [101, 114, 114, 111, 114] := List.mem_filter.2 ⟨List.mem_range.2 (by rw [← hTsize]; exact e3), e4⟩
  rw [hOneRow] at hm
  obtain rfl := List.mem_singleton.1 hm
  have hh : typeHandle Tryz.prog 94 = .pointer (some ⟨4, 94, none⟩) := by kernel_rfl
  rw [hh] at e5
  simpa [St3.Laid] using World.var?_cell hEt e5 0
theorem four_of {W : World} (h : laidMetH Tryz.prog [("errors.errorType", Rows.laid_errors_errorType), ("loop.example/g00416/impl.errDiskForm", Rows.laid_loop_example_g00416_impl_errDiskForm), ("loop.example/g00416/impl.errDiskRange", Rows.laid_loop_example_g00416_impl_errDiskRange), ("loop.example/g00416/impl.errDiskFull", Rows.laid_loop_example_g00416_impl_errDiskFull)] W) :
    ∃ aF aR aU, Sents aF aR aU W ∧ St3.Laid W := by
  have h' : laidMet Tryz.prog [("loop.example/g00416/impl.errDiskForm", Rows.laid_loop_example_g00416_impl_errDiskForm), ("loop.example/g00416/impl.errDiskRange", Rows.laid_loop_example_g00416_impl_errDiskRange), ("loop.example/g00416/impl.errDiskFull", Rows.laid_loop_example_g00416_impl_errDiskFull)] W ∧ handlesMet Tryz.prog [("errors.errorType", Rows.laid_errors_errorType)] W := h
  obtain ⟨aF, aR, aU, hS⟩ := sents_of h'.1
  exact ⟨aF, aR, aU, hS, handle_of h'.2⟩
end Go.Proofs.YtkmehbgepkilkaaGreatDoor
