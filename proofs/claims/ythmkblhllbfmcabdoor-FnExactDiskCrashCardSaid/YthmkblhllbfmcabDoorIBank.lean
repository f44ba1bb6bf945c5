/- The bank's disk; the codes of errors. -/
import Derived.Test.YthmkblhllbfmcabDoorISettle
import Derived.Test.YthmkblhllbfmcabDoorSents
import Derived.LaidEql
import Derived.Stop.Asserts
import Derived.RowKitTokens
namespace Go.Proofs.YthmkblhllbfmcabDoor
open Go.RowKit

theorem Row.readsBank {w : World} {g : Nat} {T : TypeId} {ys : List ByteArray} (h : Row w g T (bank ys)) (hm : ∀ x ∈ ys, x.size ≤ maxLen) (hl : ys.length ≤ 64) : Reads w (.slice (Option.some ⟨g, 0, none⟩) ys.length 64) ys :=
  ⟨_, _, rfl, hl, by unfold maxLen; omega, hm, fun _ => ⟨g, 0, rfl, h.lt, fun i hi => by rw [Nat.zero_add, h.cell i, bank_at ys i hi]⟩⟩

set_option maxHeartbeats 4000000 in
set_option maxRecDepth 100000 in
theorem bankDisk_any (ys : List ByteArray) (w : World) (hl : ys.length ≤ 64) (hm : ∀ x ∈ ys, x.size ≤ 1048576) :
    Calls Tryd.prog 24 #[.agg (bank ys).toArray] w fun e w' => DiskIs w.heap.size e w' ys [] ∧ Below w.heap.size w w' := by
  obtain ⟨C, hC⟩ : ∃ C : Array Value, C = (bank ys).toArray := ⟨_, rfl⟩
  have hm' : ∀ x ∈ ys, x.size ≤ maxLen := fun x hx => by have := hm x hx; unfold maxLen; omega
  have r0 : Row ((w.alloc (.cells C 49)).alloc (.cells #[.slice none 0 0, .slice none 0 0] 30)) w.heap.size 49 (bank ys) := by
    rw [hC]; exact (row_new w (bank ys) 49).alloc _
  have r1 := row_new (w.alloc (.cells C 49)) [.slice none 0 0, .slice none 0 0] 30
  simp only [World.size_alloc] at r1
  have HB0 := hide (show Below w.heap.size w ((w.alloc (.cells C 49)).alloc (.cells #[.slice none 0 0, .slice none 0 0] 30)) from ((Below.refl _ _).alloc (Nat.le_refl _) _).alloc (by simp) _)
  have a64 : ((w.alloc (.cells C 49)).alloc (.cells #[.slice none 0 0, .slice none 0 0] 30)).cell? ⟨w.heap.size, 64, none⟩ = some (.int .i64 ys.length) := by rw [r0.cell 64]; exact bank_last hl
  have HRd := hide (r0.readsBank hm' hl)
  have HR1 := hide r1
  have hcs : C.size = 65 := by rw [hC]; simp [bank_len hl]
  have hli : (ys.length : Int) ≤ 64 := by omega
  have HM := hide hm
  have HM' := hide hm'
  rw [← hC]
  clear hC r0 r1 hm hm'
  go_enter Tryd.func24, Tryd.ntmps24
  go_wp2_with fail
  refine (copyTexts_any _ ys _ (by omega) HM.out HRd.out).mono ?_
  rintro e w3 ⟨rfl, hrow3, hb3⟩
  have HB3 := hide (HB0.out.trans (hb3.mono HB0.out.size))
  have R3 := Row.after hb3 HR1.out
  have HT3 := hide hrow3
  have c0 : w3.cell? ⟨w.heap.size + 1, 0, none⟩ = some (.slice none 0 0) := R3.cell 0
  have c1' : w3.cell? ⟨w.heap.size + 1, 1, none⟩ = some (.slice none 0 0) := R3.cell 1
  have f0 := R3.free 0
  have f1 := R3.free 1
  have HR3 := hide R3
  clear hrow3 hb3 R3 a64
  simp only [World.size_alloc] at HT3 ⊢
  go_wp2
  obtain ⟨z0, z1, KF⟩ := two HR3.out (.slice (some ⟨w.heap.size + 1 + 1, 0, none⟩) ys.length ys.length) (.slice none 0 0)
  exact bodyPost_ret (v := .agg #[.slice (some ⟨w.heap.size + 1 + 1, 0, none⟩) ys.length ys.length, .slice none 0 0]) (by simp [results, Tryd.results24, go_sem, z0, z1]) rfl
    ⟨⟨_, _, rfl, ⟨HM'.out, .inr ⟨w.heap.size + 1 + 1, [], by simp, by simp; unfold maxLen; omega, by omega, by simpa using KF.row HT3.out (by simp)⟩⟩, OwnP.none _ _ _, fun _ _ h => by cases h⟩, KF.toBelow HB3.out HB3.out.size (by simp)⟩

theorem Tryd.isComp : (Tryd.prog.info? 70).map (·.comparable) = some true := by kernel_rfl
theorem Tryd.isSize : (Tryd.prog.info? 87).map (·.size) = some 1 := by kernel_rfl
end Go.Proofs.YthmkblhllbfmcabDoor
