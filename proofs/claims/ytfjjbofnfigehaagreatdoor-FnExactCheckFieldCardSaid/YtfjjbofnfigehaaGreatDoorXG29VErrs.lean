/- strconv's two errors, as its text lays them. -/
import Derived.Test.YtfjjbofnfigehaaGreatDoorRows
import Derived.Test.YtfjjbofnfigehaaGreatDoorXG12VDay
import Derived.Stop.LaidTwo
import Derived.LaidSub
import Derived.MakeChecks
import Derived.LaidMore
import Derived.ProofKit
namespace Go.Proofs.YtfjjbofnfigehaaGreatDoor
open Go.RowKit Go.ChangeShapes Go.WideShapes
theorem gSyn : Tryz.prog.globalNamed "strconv.ErrSyntax" = some 1 := by kernel_rfl
theorem gRng : Tryz.prog.globalNamed "strconv.ErrRange" = some 2 := by kernel_rfl
theorem tSyn : (Tryz.prog.globals[1]?).map (·.type) = some 115 := by kernel_rfl
theorem tRng : (Tryz.prog.globals[2]?).map (·.type) = some 115 := by kernel_rfl
theorem eCellsP : Tryz.prog.cellsOf 167 = 1 := by kernel_rfl
theorem sCellsP : Tryz.prog.cellsOf 9 = 1 := by kernel_rfl
theorem eStarP : "*" ++ "errors.errorString" = "*errors.errorString" := by decide
theorem eRowP (u : TypeId) (h : Tryz.prog.typeName? 3 u = some "*errors.errorString") : u = 165 :=
  typeName_ptr_named (nm := "errors.errorString") (by rw [eStarP]; kernel_rfl) (by kernel_rfl) (by decide) u (by rw [eStarP]; exact h)
theorem errs_of0 {W : World} {r : List (String × DataW Unit)} (h : laidMet Tryz.prog (("strconv.ErrRange", Rows.laid_strconv_ErrRange) :: ("strconv.ErrSyntax", Rows.laid_strconv_ErrSyntax) :: r) W) : ErrsV W := by
  obtain ⟨a0, a1, s0, s1, c0, c1, t0, t1, hv0, hv1, _⟩ := laid_sentinels2 h gRng tRng gSyn tSyn Tryz.underlying115 eRowP Tryz.underlying165 Tryz.underlying167 rfl rfl Tryz.underlying9 eCellsP sCellsP
  have h0 : W.cell? ⟨2, 0, none⟩ = some (.iface 165 (.pointer (some a0))) := by simpa using World.var?_cell gRng hv0 0
  have h1 : W.cell? ⟨1, 0, none⟩ = some (.iface 165 (.pointer (some a1))) := by simpa using World.var?_cell gSyn hv1 0
  have l0 := World.block_lt_of_cell? W _ h0
  have l1 := World.block_lt_of_cell? W _ h1
  exact ⟨by first | exact l0 | exact l1, ⟨_, _, h1⟩, _, _, h0⟩
theorem errs_of3 {W : World} {a b c : String × DataW Unit} {r : List (String × DataW Unit)} (h : laidMet Tryz.prog (a :: b :: c :: ("strconv.ErrRange", Rows.laid_strconv_ErrRange) :: ("strconv.ErrSyntax", Rows.laid_strconv_ErrSyntax) :: r) W) : ErrsV W := errs_of0 h.tail.tail.tail
theorem errs_of4 {W : World} {a b c d : String × DataW Unit} {r : List (String × DataW Unit)} (h : laidMet Tryz.prog (a :: b :: c :: d :: ("strconv.ErrRange", Rows.laid_strconv_ErrRange) :: ("strconv.ErrSyntax", Rows.laid_strconv_ErrSyntax) :: r) W) : ErrsV W := errs_of0 h.tail.tail.tail.tail
end Go.Proofs.YtfjjbofnfigehaaGreatDoor
