/- The program's PlainOf; the law of PlainOf. -/
import Derived.Test.YtenadacfpdfbkaaFPlainP
namespace Go.Proofs.Ytenadacfpdfbkaa
open Go.RowKit

theorem unescP_len {m : ByteArray} {l u : List UInt8} (hm : marksB m = true) (h : plainL m l = some u) : u.length ≤ l.length := by
  have := (plain_iff hm _ _).1 h
  rw [← this.1]
  exact unesc_len m _ _ (Nat.le_refl _)

set_option maxHeartbeats 4000000 in
theorem implPlainOf_any (m t : ByteArray) (w : World) (hm : m.size ≤ maxLen) (ht : t.size ≤ maxLen) :
    Calls Try.prog 7 #[.string m, .string t] w fun e w' => e = .returned (plainV m t) ∧ Below w.heap.size w w' := by
  go_enter Try.func7, Try.ntmps7
  go_wp2_with fail
  refine (readCode_any m t _ hm ht).mono ?_
  rintro e w1 ⟨rfl, hb1⟩
  obtain ⟨c0, c1, c2⟩ := out_cellsF _ _ _ _ hb1
  have HB1 := hideF hb1
  obtain ⟨hc1, hf1⟩ := bcellF hb1
  clear hb1
  by_cases h8 : 8000 < m.size ∨ 8000 < t.size
  · rw [if_pos h8]
    have HV := hideF (plainV_size h8)
    clear h8
    obtain ⟨q0, q1, q2⟩ := threeF c0 c1 c2 (.string ⟨#[]⟩) (.int .i64 0) (.int .i64 2)
    clear c0 c1 c2
    go_wp2
    exact bodyPost_ret (v := .agg #[.string ⟨#[]⟩, .int .i64 0, .int .i64 2]) (by simp [results, Try.results7, go_sem, q0, q1, q2]) rfl ⟨by rw [HV.out], three_belowF HB1.out _ _ _⟩
  rw [if_neg h8]
  by_cases hq : marksB m = false
  · rw [if_pos hq]
    have HV := hideF (plainV_form h8 hq)
    clear h8
    obtain ⟨q0, q1, q2⟩ := threeF c0 c1 c2 (.string ⟨#[]⟩) (.int .i64 0) (.int .i64 1)
    clear c0 c1 c2
    go_wp2
    exact bodyPost_ret (v := .agg #[.string ⟨#[]⟩, .int .i64 0, .int .i64 1]) (by simp [results, Try.results7, go_sem, q0, q1, q2]) rfl ⟨by rw [HV.out], three_belowF HB1.out _ _ _⟩
  rw [if_neg hq]
  have hq' : marksB m = true := by simpa using hq
  clear hq
  clear c0 c1 c2 hc1 hf1
  go_wp2_with fail
  refine (plain_any m t _ hq' (by omega)).mono ?_
  rintro e w2 ⟨rfl, hb2⟩
  have hb4 := HB1.out.trans (hb2.mono HB1.out.size)
  clear hb2
  obtain ⟨c0, c1, c2⟩ := out_cellsF _ _ _ _ hb4
  have HB4 := hideF hb4
  obtain ⟨hc1, hf1⟩ := bcellF hb4
  clear hb4
  cases hp : plainL m t.data.toList with
  | none =>
    have HV := hideF (plainV_none h8 hq' hp)
    obtain ⟨q0, q1, q2⟩ := threeF c0 c1 c2 (.string ⟨#[]⟩) (.int .i64 0) (.int .i64 3)
    clear c0 c1 c2 h8 hp
    simp only [plainRes]
    go_wp2
    exact bodyPost_ret (v := .agg #[.string ⟨#[]⟩, .int .i64 0, .int .i64 3]) (by simp [results, Try.results7, go_sem, q0, q1, q2]) rfl ⟨by rw [HV.out], three_belowF HB4.out _ _ _⟩
  | some u =>
    have hus : (⟨u.toArray⟩ : ByteArray).size = u.length := by simp [ByteArray.size]
    by_cases h4 : u.length ≤ 400
    · have HV := hideF (plainV_yes h8 hq' hp h4)
      simp only [plainRes]
      have h4' : ¬ 400 < ((⟨u.toArray⟩ : ByteArray).size : Int) := by omega
      generalize (⟨u.toArray⟩ : ByteArray) = U at *
      obtain ⟨q0, q1, q2⟩ := threeF c0 c1 c2 (.string U) (.int .i64 0) (.int .i64 0)
      clear c0 c1 c2 h8 hp hus h4
      go_wp2
      exact bodyPost_ret (v := .agg #[.string U, .int .i64 0, .int .i64 0]) (by simp [results, Try.results7, go_sem, q0, q1, q2]) rfl ⟨by rw [HV.out], three_belowF HB4.out _ _ _⟩
    · have HV := hideF (plainV_long h8 hq' hp h4)
      simp only [plainRes]
      have h4' : 400 < ((⟨u.toArray⟩ : ByteArray).size : Int) := by omega
      generalize (⟨u.toArray⟩ : ByteArray) = U at *
      obtain ⟨q0, q1, q2⟩ := threeF c0 c1 c2 (.string ⟨#[]⟩) (.int .i64 0) (.int .i64 3)
      clear c0 c1 c2 h8 hp hus h4
      go_wp2
      exact bodyPost_ret (v := .agg #[.string ⟨#[]⟩, .int .i64 0, .int .i64 3]) (by simp [results, Try.results7, go_sem, q0, q1, q2]) rfl ⟨by rw [HV.out], three_belowF HB4.out _ _ _⟩

end Go.Proofs.Ytenadacfpdfbkaa
