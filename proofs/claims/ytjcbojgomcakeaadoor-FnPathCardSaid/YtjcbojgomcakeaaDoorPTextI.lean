/- The text of a Path: of the program. -/
import Derived.Test.YtjcbojgomcakeaaDoorPText
import Derived.Test.YtjcbojgomcakeaaDoorShelf
import Derived.BigQuiet
import Derived.OrdersHeld
namespace Go.Proofs.YtjcbojgomcakeaaDoor
open Go.RowKit
theorem decDigits_digs (n : Nat) (h0 : n ≠ 0) (h1 : n < 100) : Lib.decDigits n = digs n := by
  unfold Lib.decDigits
  by_cases h : n < 10
  · simp [h, digs, h0]
  · rw [dif_neg h]
    unfold Lib.decDigits
    rw [dif_pos (show n / 10 < 10 by omega)]
    simp [digs, h, h0]
set_option maxHeartbeats 1000000 in
theorem digitsOf_any (n : Nat) (w : World) (h0 : n ≠ 0) (h1 : n < 100) :
    Calls Tryd.prog 16 #[.int .i64 (n : Int)] w fun e w' => e = .returned (.string ⟨(digs n).toArray⟩) ∧ w' = w := by
  have H := hide (decDigits_digs n h0 h1)
  go_enter Tryd.func16, Tryd.ntmps16
  go_wp2_with fail
  refine (Tryd.strconv_FormatInt_10_small n h1 _).mono ?_
  rintro e w1 ⟨rfl, rfl⟩
  rw [H.out]
  go_wp2
  go_ret
  exact ⟨rfl, rfl⟩
theorem join_none (xs : List (List UInt8)) : Lib.join xs [] = xs.flatten := by
  induction xs with
  | nil => rfl
  | cons x r ih => rw [Lib.join_cons]; simp [Lib.joinTail]
/-- Pieces put together, out of a row of the caller's. -/
theorem together_any (g c : Nat) (xs : List ByteArray) (w : World) (hr : Row w g 9 (xs.map Value.string)) (hN : xs.length ≤ 100) (hcap : xs.length ≤ c) (hlen : ((xs.map (·.data.toList)).flatten).length ≤ 1000) :
    Calls Tryd.prog 14 #[.slice (some ⟨g, 0, none⟩) xs.length c] w fun e w' => e = .returned (.string ⟨((xs.map (·.data.toList)).flatten).toArray⟩) ∧ Below w.heap.size w w' := by
  have H := hide (show Lib.join (xs.map (·.data.toList)) (⟨#[]⟩ : ByteArray).data.toList = (xs.map (·.data.toList)).flatten from join_none _)
  have hc : ∀ (j : Nat) x, xs[j]? = some x → w.cell? ⟨g, 0 + j, none⟩ = some (.string x) := fun j x h => by rw [Nat.zero_add, hr.cell j]; simp [h]
  have HC := hide (Tryd.strings_Join g 0 c xs ⟨#[]⟩ w hc hr.lt (by omega) hcap (by rw [H.out]; omega))
  clear hc hr
  go_enter Tryd.func14, Tryd.ntmps14
  go_wp2_with fail
  refine HC.out.mono ?_
  rintro e w1 ⟨rfl, hb1⟩
  rw [H.out]
  have HB := hide hb1
  clear hb1
  go_wp2
  go_ret
  exact ⟨rfl, HB.out⟩
set_option maxHeartbeats 2000000 in
theorem unlessFirst_any (n : Nat) (o c : List UInt8) (w : World) (h0 : n ≠ 0) (h1 : n < 100) (ho : o.length ≤ 2) (hc : c.length ≤ 2) :
    Calls Tryd.prog 15 #[.int .i64 (n : Int), .string ⟨o.toArray⟩, .string ⟨c.toArray⟩] w fun e w' => e = .returned (.string ⟨(optL o n c).toArray⟩) ∧ Below w.heap.size w w' := by
  by_cases hn : n = 1
  · have HE := hide (show optL o n c = [] by simp [optL, hn])
    have hx : ((n : Int) == 1) = true := by simp [hn]
    clear hn
    go_enter Tryd.func15, Tryd.ntmps15
    go_wp2
    go_ret
    exact ⟨by rw [HE.out]; rfl, Below.refl _ _⟩
  · have HE := hide (show optL o n c = o ++ digs n ++ c by simp [optL, hn])
    have hx : ((n : Int) == 1) = false := by simp; omega
    have ln := digs_len n h1
    have HN := hide (And.intro h0 h1)
    clear hn h0 h1
    go_enter Tryd.func15, Tryd.ntmps15
    go_wp2_with fail
    refine (digitsOf_any n _ HN.out.1 HN.out.2).mono ?_
    rintro e w1 ⟨rfl, rfl⟩
    have HL := hide (show (([⟨o.toArray⟩, ⟨(digs n).toArray⟩, ⟨c.toArray⟩] : List ByteArray).map (·.data.toList)).flatten = optL o n c by rw [HE.out]; simp)
    have HT := hide (together_any w1.heap.size 3 [⟨o.toArray⟩, ⟨(digs n).toArray⟩, ⟨c.toArray⟩] (w1.alloc (.cells #[.string ⟨o.toArray⟩, .string ⟨(digs n).toArray⟩, .string ⟨c.toArray⟩] 9)) (row_new w1 _ _) (by simp) (by simp) (by rw [HL.out, HE.out]; simp; omega))
    rw [HL.out] at HT
    have HB := hide (show Below w1.heap.size w1 (w1.alloc (.cells #[.string ⟨o.toArray⟩, .string ⟨(digs n).toArray⟩, .string ⟨c.toArray⟩] 9)) from (Below.refl _ _).alloc (Nat.le_refl _) _)
    go_wp2_with fail
    refine HT.out.mono ?_
    rintro e w2 ⟨rfl, hb2⟩
    have HB2 := hide (HB.out.trans (hb2.mono HB.out.size))
    clear hb2
    go_wp2
    go_ret
    exact ⟨rfl, HB2.out⟩
end Go.Proofs.YtjcbojgomcakeaaDoor
