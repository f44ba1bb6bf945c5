/- A sealed text with one byte turned is no seal. -/
import Derived.Test.YtkbmhkgkdfeljaaCCrcM
import Derived.Test.YtkbmhkgkdfeljaaCSeal
namespace Go.Proofs.Ytkbmhkgkdfeljaa.St1
open Go.RowKit
theorem ofNat_inj {a b : Nat} (ha : a < 256) (hb : b < 256) (h : UInt8.ofNat a = UInt8.ofNat b) : a = b := by
  have := congrArg UInt8.toNat h
  rwa [UInt8.toNat_ofNat_of_lt' (by simpa [UInt8.size] using ha), UInt8.toNat_ofNat_of_lt' (by simpa [UInt8.size] using hb)] at this
theorem four_inj (m n : Int) (hm : 0 ≤ m ∧ m ≤ 4294967295) (hn : 0 ≤ n ∧ n ≤ 4294967295) (h : four m = four n) : m = n := by
  have h1 := congrArg (fun b : ByteArray => b.data.toList) h
  simp only [four, List.cons.injEq, and_true] at h1
  obtain ⟨a, b, c, d⟩ := h1
  have a' := ofNat_inj (by omega) (by omega) a
  have b' := ofNat_inj (by omega) (by omega) b
  have c' := ofNat_inj (by omega) (by omega) c
  have d' := ofNat_inj (by omega) (by omega) d
  omega
theorem extract_front (T F : List UInt8) (h : F.length = 4) : (⟨(T ++ F).toArray⟩ : ByteArray).extract 0 ((⟨(T ++ F).toArray⟩ : ByteArray).size - 4) = ⟨T.toArray⟩ := by
  apply ByteArray.ext
  apply Array.ext'
  simp only [ByteArray.data_extract, Array.toList_extract, ByteArray.size, List.extract_eq_take_drop, List.drop_zero, Nat.sub_zero, List.size_toArray, List.length_append, h, Nat.add_sub_cancel]
  exact List.take_left
theorem seal_list (t : ByteArray) : (sealOf t).data.toList = t.data.toList ++ (four (crcOf 0 t)).data.toList := by
  unfold sealOf
  rw [ByteArray.data_append, Array.toList_append]
theorem back (t : ByteArray) : (⟨t.data.toList.toArray⟩ : ByteArray) = t := rfl
theorem turned (t : ByteArray) (i : Nat) (d : UInt8) (h : i < (sealOf t).data.toList.length) (hd : (sealOf t).data.toList[i] ≠ d) :
    ¬ sealOf ((⟨((sealOf t).data.toList.set i d).toArray⟩ : ByteArray).extract 0 ((⟨((sealOf t).data.toList.set i d).toArray⟩ : ByteArray).size - 4)) = ⟨((sealOf t).data.toList.set i d).toArray⟩ := by
  intro hq
  have hS := seal_list t
  have hF : (four (crcOf 0 t)).data.toList.length = 4 := rfl
  have hbd := crcOf_bd 0 t
  by_cases hi : i < t.data.toList.length
  · have hset : (sealOf t).data.toList.set i d = t.data.toList.set i d ++ (four (crcOf 0 t)).data.toList := by rw [hS, List.set_append_left _ _ hi]
    rw [hset, extract_front _ _ hF] at hq
    have h2 := congrArg (fun b : ByteArray => b.data.toList) hq
    simp only [seal_list] at h2
    have h3 := List.append_cancel_left h2
    have h4 : four (crcOf 0 ⟨(t.data.toList.set i d).toArray⟩) = four (crcOf 0 t) := ByteArray.ext (Array.ext' h3)
    have h5 := four_inj _ _ (crcOf_bd 0 _) hbd h4
    have hset2 : t.data.toList.set i d = t.data.toList.take i ++ d :: t.data.toList.drop (i + 1) := List.set_eq_take_append_cons_drop ▸ by rw [if_pos hi]
    have hid : t.data.toList = t.data.toList.take i ++ t.data.toList[i] :: t.data.toList.drop (i + 1) := by
      rw [← List.drop_eq_getElem_cons hi, List.take_append_drop]
    have hne : t.data.toList[i] ≠ d := by
      intro e
      apply hd
      rw [← e]
      simp only [hS]
      rw [List.getElem_append_left hi]
    rw [hset2] at h5
    have h6 := crcOf_turn (t.data.toList.take i) (t.data.toList.drop (i + 1)) d t.data.toList[i] (fun e => hne e.symm)
    apply h6
    rw [h5, ← hid]
  · have hset : (sealOf t).data.toList.set i d = t.data.toList ++ (four (crcOf 0 t)).data.toList.set (i - t.data.toList.length) d := by rw [hS, List.set_append_right _ _ (by omega)]
    have hl : ((four (crcOf 0 t)).data.toList.set (i - t.data.toList.length) d).length = 4 := by rw [List.length_set, hF]
    rw [hset, extract_front _ _ hl] at hq
    have h2 := congrArg (fun b : ByteArray => b.data.toList) hq
    simp only [seal_list, back] at h2
    have h3 := List.append_cancel_left h2
    have hlt : i - t.data.toList.length < (four (crcOf 0 t)).data.toList.length := by
      rw [hS, List.length_append] at h; omega
    have h4 : (four (crcOf 0 t)).data.toList[i - t.data.toList.length]'hlt = d := by
      have h5 : ((four (crcOf 0 t)).data.toList.set (i - t.data.toList.length) d)[i - t.data.toList.length]'(by rw [hl]; rw [hF] at hlt; exact hlt) = d := List.getElem_set_self _
      simp only [← h3] at h5
      exact h5
    apply hd
    rw [← h4]
    simp only [hS]
    rw [List.getElem_append_right (by omega)]
end Go.Proofs.Ytkbmhkgkdfeljaa.St1
