/- The model's PlainOf. -/
import Derived.Test.YtenadacfpdfbkaaFPlainS
import Derived.Test.YtenadacfpdfbkaaFText
namespace Go.Proofs.Ytenadacfpdfbkaa
open Go.RowKit

/-- What PlainOf answers: the text and the code. -/
def plainText (m t : ByteArray) : ByteArray :=
  if 8000 < m.size ∨ 8000 < t.size then ⟨#[]⟩ else if marksB m = false then ⟨#[]⟩ else
  match plainL m t.data.toList with
  | some u => if u.length ≤ 400 then ⟨u.toArray⟩ else ⟨#[]⟩
  | none => ⟨#[]⟩
def plainCode (m t : ByteArray) : Int :=
  if 8000 < m.size ∨ 8000 < t.size then 2 else if marksB m = false then 1 else
  match plainL m t.data.toList with
  | some u => if u.length ≤ 400 then 0 else 3
  | none => 3
def plainV (m t : ByteArray) : Value := .agg #[.string (plainText m t), .int .i64 0, .int .i64 (plainCode m t)]
theorem plainV_size {m t : ByteArray} (h : 8000 < m.size ∨ 8000 < t.size) : plainV m t = .agg #[.string ⟨#[]⟩, .int .i64 0, .int .i64 2] := by simp [plainV, plainText, plainCode, h]
theorem plainV_form {m t : ByteArray} (h : ¬ (8000 < m.size ∨ 8000 < t.size)) (h2 : marksB m = false) : plainV m t = .agg #[.string ⟨#[]⟩, .int .i64 0, .int .i64 1] := by simp [plainV, plainText, plainCode, h, h2]
theorem plainV_yes {m t : ByteArray} {u : List UInt8} (h : ¬ (8000 < m.size ∨ 8000 < t.size)) (h2 : marksB m = true) (h3 : plainL m t.data.toList = some u) (h4 : u.length ≤ 400) : plainV m t = .agg #[.string ⟨u.toArray⟩, .int .i64 0, .int .i64 0] := by
  simp [plainV, plainText, plainCode, h, h2, h3, h4]
theorem plainV_long {m t : ByteArray} {u : List UInt8} (h : ¬ (8000 < m.size ∨ 8000 < t.size)) (h2 : marksB m = true) (h3 : plainL m t.data.toList = some u) (h4 : ¬ u.length ≤ 400) : plainV m t = .agg #[.string ⟨#[]⟩, .int .i64 0, .int .i64 3] := by
  simp only [plainV, plainText, plainCode, h, h2, h3, h4]
  simp
theorem plainV_none {m t : ByteArray} (h : ¬ (8000 < m.size ∨ 8000 < t.size)) (h2 : marksB m = true) (h3 : plainL m t.data.toList = none) : plainV m t = .agg #[.string ⟨#[]⟩, .int .i64 0, .int .i64 3] := by
  simp [plainV, plainText, plainCode, h, h2, h3]
theorem plainB_iff (u : List UInt8) : plainB ⟨u.toArray⟩ = true ↔ ∀ c ∈ u, plainR (c.toNat : Int) = true := by
  constructor
  · intro h c hc
    obtain ⟨j, hj, rfl⟩ := List.getElem_of_mem hc
    have hj' : j < (⟨u.toArray⟩ : ByteArray).size := by simpa [ByteArray.size] using hj
    have := List.all_eq_true.1 h j (List.mem_range.2 hj')
    rw [plainAt_eq _ j hj'] at this
    have e : (⟨u.toArray⟩ : ByteArray)[j]'hj' = u[j] := by rw [ByteArray.getElem_eq_getElem_data]; simp
    rw [e] at this
    exact this
  · intro h
    refine plainB_yes _ (fun j hj => ?_)
    have hj' : j < u.length := by simpa [ByteArray.size] using hj
    rw [plainAt_eq _ j hj]
    have e : (⟨u.toArray⟩ : ByteArray)[j]'hj = u[j] := by rw [ByteArray.getElem_eq_getElem_data]; simp
    rw [e]
    exact h _ (List.getElem_mem hj')

theorem no_of {m t : ByteArray} (hq : marksB m = true) (h1 : ¬ (8000 < m.size ∨ 8000 < t.size)) (h : ¬ ((∀ c ∈ unescL m t.data.toList, plainR (c.toNat : Int) = true) ∧ (unescL m t.data.toList).length ≤ 400 ∧ escL m (unescL m t.data.toList) = t.data.toList)) :
    plainV m t = .agg #[.string ⟨#[]⟩, .int .i64 0, .int .i64 3] := by
  cases hp : plainL m t.data.toList with
  | none => exact plainV_none h1 hq hp
  | some u =>
    obtain ⟨e1, e2, e3⟩ := (plain_iff hq _ _).1 hp
    refine plainV_long h1 hq hp (fun hl => h ?_)
    rw [e1]
    exact ⟨e2, hl, e3⟩

set_option maxHeartbeats 4000000 in
theorem specPlainOf_any (m t : ByteArray) (w : World) (hm : m.size ≤ maxLen) (ht : t.size ≤ maxLen) :
    Calls Try.prog 10 #[.string m, .string t] w fun e w' => e = .returned (plainV m t) ∧ Below w.heap.size w w' := by
  have hm' := hm
  unfold maxLen at hm ht
  by_cases h8 : 8000 < (m.size : Int)
  · go_enter Try.func10, Try.ntmps10
    go_wp2
    exact bodyPost_ret (v := .agg #[.string ⟨#[]⟩, .int .i64 0, .int .i64 2]) (by simp [results, Try.results10, go_sem]) rfl ⟨by rw [plainV_size (by omega)], (Below.refl _ _).alloc (Nat.le_refl _) _⟩
  by_cases h9 : 8000 < (t.size : Int)
  · go_enter Try.func10, Try.ntmps10
    go_wp2
    exact bodyPost_ret (v := .agg #[.string ⟨#[]⟩, .int .i64 0, .int .i64 2]) (by simp [results, Try.results10, go_sem]) rfl ⟨by rw [plainV_size (by omega)], (Below.refl _ _).alloc (Nat.le_refl _) _⟩
  have H89 := hideF (show ¬ (8000 < m.size ∨ 8000 < t.size) by omega)
  go_enter Try.func10, Try.ntmps10
  go_wp2_with fail
  refine (specMarksRight_any _ _ hm').mono ?_
  rintro e w' ⟨rfl, rfl⟩
  cases hq : marksB m
  · go_wp2
    exact bodyPost_ret (v := .agg #[.string ⟨#[]⟩, .int .i64 0, .int .i64 1]) (by simp [results, Try.results10, go_sem]) rfl ⟨by rw [plainV_form H89.out hq], (Below.refl _ _).alloc (Nat.le_refl _) _⟩
  go_wp2_with fail
  refine (l04Unescape_any m t _ (marksB_five hq) (by omega)).mono ?_
  rintro e w1 ⟨rfl, hb1⟩
  have hul := unesc_len m t.data.toList.length t.data.toList (Nat.le_refl _)
  rw [bytes_len] at hul
  have HNO := hideF (no_of hq H89.out)
  have HYES := hideF (show ∀ (e1 : ∀ c ∈ unescL m t.data.toList, plainR (c.toNat : Int) = true) (e2 : (unescL m t.data.toList).length ≤ 400) (e3 : escL m (unescL m t.data.toList) = t.data.toList), plainV m t = .agg #[.string ⟨(unescL m t.data.toList).toArray⟩, .int .i64 0, .int .i64 0] from
    fun e1 e2 e3 => plainV_yes H89.out hq ((plain_iff hq _ _).2 ⟨rfl, e1, e3⟩) e2)
  have HM5 := hideF (marksB_five hq)
  generalize unescL m t.data.toList = u at *
  have hus : (⟨u.toArray⟩ : ByteArray).size = u.length := by simp [ByteArray.size]
  have hpi := hideF (plainB_iff u)
  have hud : (⟨u.toArray⟩ : ByteArray).data.toList = u := by simp
  have HUD := hideF hud
  clear hud
  generalize hU : (⟨u.toArray⟩ : ByteArray) = U at *
  clear hU
  obtain ⟨c0, c1, c2⟩ := out_cellsF _ _ _ _ hb1
  have HB1 := hideF hb1
  obtain ⟨hc1, hf1⟩ := bcellF hb1
  go_wp2_with fail
  refine (l04Plain_any U 400 _ (by unfold maxLen; omega)).mono ?_
  rintro e w2 ⟨rfl, rfl⟩
  cases hp : (plainB U && decide ((U.size : Int) ≤ 400))
  · obtain ⟨q0, q1, q2⟩ := threeF c0 c1 c2 (.string ⟨#[]⟩) (.int .i64 0) (.int .i64 3)
    clear c0 c1 c2
    have HP := hideF hp
    clear hp
    go_wp2
    exact bodyPost_ret (v := .agg #[.string ⟨#[]⟩, .int .i64 0, .int .i64 3]) (by simp [results, Try.results10, go_sem, q0, q1, q2]) rfl ⟨by
      rw [HNO.out (fun hh => by
        have h1 := hpi.out.2 hh.1
        have h2 := HP.out
        rw [h1] at h2
        have h3 := hh.2.1
        simp at h2
        omega)], three_belowF HB1.out _ _ _⟩
  · have HP := hideF hp
    clear hp
    have hp' := HP.out
    simp only [Bool.and_eq_true, decide_eq_true_eq] at hp'
    have HPL := hideF (hpi.out.1 hp'.1)
    have hu4 : u.length ≤ 400 := by omega
    have HU4 := hideF hu4
    clear hp' HP c0 c1 c2 hc1 hf1
    go_wp2_with fail
    refine (l04Escape_any m U _ HM5.out (by omega)).mono ?_
    rintro e w3 ⟨rfl, hb3⟩
    rw [HUD.out]
    have hb4 := HB1.out.trans (hb3.mono HB1.out.size)
    clear hb3
    obtain ⟨c0, c1, c2⟩ := out_cellsF _ _ _ _ hb4
    have HB4 := hideF hb4
    obtain ⟨hc1, hf1⟩ := bcellF hb4
    clear hb4
    by_cases he : escL m u = t.data.toList
    · have et : (⟨(escL m u).toArray⟩ : ByteArray) = t := by rw [he]
      rw [et]
      obtain ⟨q0, q1, q2⟩ := threeF c0 c1 c2 (.string U) (.int .i64 0) (.int .i64 0)
      clear c0 c1 c2
      have HV := hideF (HYES.out HPL.out HU4.out he)
      clear he et
      go_wp2
      exact bodyPost_ret (v := .agg #[.string U, .int .i64 0, .int .i64 0]) (by simp [results, Try.results10, go_sem, q0, q1, q2]) rfl ⟨by rw [HV.out], three_belowF HB4.out _ _ _⟩
    · have et : (⟨(escL m u).toArray⟩ : ByteArray) ≠ t := fun h => he (by rw [← h])
      have hn := toList_neF et
      obtain ⟨q0, q1, q2⟩ := threeF c0 c1 c2 (.string ⟨#[]⟩) (.int .i64 0) (.int .i64 3)
      clear c0 c1 c2
      have HV := hideF (HNO.out (fun hh => he hh.2.2))
      have HHE := hideF he
      clear he
      generalize (⟨(escL m u).toArray⟩ : ByteArray) = V at *
      go_wp2
      exact bodyPost_ret (v := .agg #[.string ⟨#[]⟩, .int .i64 0, .int .i64 3]) (by simp [results, Try.results10, go_sem, q0, q1, q2]) rfl ⟨by rw [HV.out], three_belowF HB4.out _ _ _⟩
end Go.Proofs.Ytenadacfpdfbkaa
