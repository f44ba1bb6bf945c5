/- The law of promise 1: a drawn number, or text, is got back from its bytes, with the place behind it; of bytes that end too early nothing is got. -/
import Derived.Test.YtcnndiomljjmnaaDoorDNums
import Derived.Test.YtcnndiomljjmnaaDoorNText
import Derived.Test.YtcnndiomljjmnaaDoorNMath
namespace Go.Proofs.YtcnndiomljjmnaaDoor
open Go.RowKit St2 St3 St4
theorem hideN {p : Prop} (h : p) : Hid p := h
theorem len_bytesOf (L : List Int) : (St2.bytesOf L).data.toList.length = L.length := by simp [St2.bytesOf]
theorem size_bytesOf (L : List Int) : (St2.bytesOf L).size = L.length := by simp [St2.bytesOf, ByteArray.size]
theorem enc_pos (n : Int) : 0 < (enc n).length := List.length_pos_iff.2 (encF_ne 9 _)
theorem xy_eq (t : ByteArray) : ((⟨#[120, 121]⟩ : ByteArray) ++ t) ++ ⟨#[122]⟩ = ⟨([120, 121] ++ t.data.toList ++ [122]).toArray⟩ := by
  apply ByteArray.ext
  apply Array.ext'
  simp
theorem x_eq (t u : ByteArray) : (⟨#[120]⟩ : ByteArray) ++ (t ++ u) = ⟨([120] ++ t.data.toList ++ u.data.toList).toArray⟩ := by
  apply ByteArray.ext
  apply Array.ext'
  simp
theorem front_eq (t : ByteArray) (k : Nat) : t.extract 0 k = ⟨(t.data.toList.take k).toArray⟩ := by
  apply ByteArray.ext
  apply Array.ext'
  simp [ByteArray.data_extract]
theorem front2_eq (t u : ByteArray) (k : Nat) : (t ++ u).extract 0 (t.size + k) = ⟨([] ++ t.data.toList ++ u.data.toList.take k).toArray⟩ := by
  apply ByteArray.ext
  apply Array.ext'
  have h : t.size = t.data.toList.length := by simp
  simp only [ByteArray.data_extract, Array.toList_extract, ByteArray.data_append, Array.toList_append, List.extract_eq_take_drop, List.drop_zero, Nat.sub_zero, List.nil_append]
  rw [h, List.take_length_add_append]
theorem mid_eq (t u : ByteArray) : ((⟨#[120]⟩ : ByteArray) ++ (t ++ u)).extract (1 + t.size) (1 + t.size + u.size) = u := by
  apply ByteArray.ext
  apply Array.ext'
  have h : t.size = t.data.toList.length := by simp
  have h2 : u.size = u.data.toList.length := by simp
  have e : List.drop (1 + t.data.toList.length) (120 :: (t.data.toList ++ u.data.toList)) = u.data.toList := by rw [Nat.add_comm, List.drop_succ_cons, List.drop_left]
  simp only [ByteArray.data_extract, Array.toList_extract, ByteArray.data_append, Array.toList_append, List.extract_eq_take_drop]
  rw [Nat.add_sub_cancel_left]
  show List.take u.size (List.drop (1 + t.size) (120 :: (t.data.toList ++ u.data.toList))) = _
  rw [h, e, h2]
  exact List.take_length
theorem Tryd.outCodeN (a b c : Value) (w : World) : (Instr.field 26 (.agg #[a, b, c]) 2).run Tryd.prog w = .ok c w := by kernel_rfl
theorem Tryd.outCodeT (a b c : Value) (w : World) : (Instr.field 31 (.agg #[a, b, c]) 2).run Tryd.prog w = .ok c w := by kernel_rfl
/-- What is got of a number's bytes within a text, and of its bytes torn. -/
theorem gotNum (n : Int) (w : World) (h0 : -9223372036854775808 ≤ n) (h1 : n ≤ 9223372036854775807) :
    Calls Tryd.prog 7 #[.string (((⟨#[120, 121]⟩ : ByteArray) ++ St2.bytesOf (enc n)) ++ ⟨#[122]⟩), .int .i64 2] w fun e w' => e = .returned (.agg #[.int .i64 n, .int .i64 (((St2.bytesOf (enc n)).size : Int) + 2), .int .i64 0]) ∧ Below w.heap.size w w' := by
  have hs := scan_in [120, 121] [122] n h0 h1
  rw [xy_eq]
  rw [show (([120, 121] : List UInt8).length : Int) + (enc n).length = ((St2.bytesOf (enc n)).size : Int) + 2 by rw [size_bytesOf]; simp; omega] at hs
  refine implGetNum_yes _ 2 n _ w ?_ (by omega) hs
  have := enc_len n
  simp [ByteArray.size, St2.bytesOf]
  omega
theorem tornNum (n : Int) (w : World) (h0 : -9223372036854775808 ≤ n) (h1 : n ≤ 9223372036854775807) (hg : Laid w) :
    Calls Tryd.prog 7 #[.string ((St2.bytesOf (enc n)).extract 0 ((St2.bytesOf (enc n)).size - 1)), .int .i64 0] w fun e w' => e = .returned (.agg #[.int .i64 0, .int .i64 0, .int .i64 4]) ∧ Below w.heap.size w w' := by
  have hs := scan_torn n h0 h1
  rw [front_eq, size_bytesOf]
  refine implGetNum_no _ 0 4 w ?_ (by omega) hg (.inr rfl) hs
  have := enc_len n
  simp [ByteArray.size, St2.bytesOf]
  omega
theorem gotText (u : ByteArray) (w : World) (hp : (St2.bytesOf (enc (u.size : Int)) ++ u).size + 1 ≤ 8000) :
    Calls Tryd.prog 11 #[.string ((⟨#[120]⟩ : ByteArray) ++ (St2.bytesOf (enc (u.size : Int)) ++ u)), .int .i64 1] w fun e w' => e = .returned (.agg #[.string u, .int .i64 (((St2.bytesOf (enc (u.size : Int)) ++ u).size : Int) + 1), .int .i64 0]) ∧ Below w.heap.size w w' := by
  rw [ByteArray.size_append] at hp
  have hs := scan_in [120] u.data.toList (u.size : Int) (by omega) (by omega)
  have hE := size_bytesOf (enc (u.size : Int))
  rw [← x_eq, ← hE] at hs
  have hS : ((⟨#[120]⟩ : ByteArray) ++ (St2.bytesOf (enc (u.size : Int)) ++ u)).size = 1 + (St2.bytesOf (enc (u.size : Int))).size + u.size := by
    rw [ByteArray.size_append, ByteArray.size_append]
    have h1 : (⟨#[120]⟩ : ByteArray).size = 1 := rfl
    omega
  have hm := mid_eq (St2.bytesOf (enc (u.size : Int))) u
  obtain ⟨b, hb⟩ : ∃ b, b = St2.bytesOf (enc (u.size : Int)) := ⟨_, rfl⟩
  rw [← hb] at hs hE hS hm hp ⊢
  clear hb
  rw [show (([120] : List UInt8).length : Int) + (b.size : Int) = ((1 + b.size : Nat) : Int) by simp] at hs
  refine (implGetText_ok _ 1 u ((((1 + b.size : Nat) : Int)) + (u.size : Int)) w (by omega) (fun X => ?_)).mono ?_
  · have h := readText_ok _ 1 u.size (1 + b.size) X (by omega) (by omega) (by omega) (by omega) hs
    rw [hm] at h
    exact h
  · rintro e w' ⟨rfl, hb⟩
    exact ⟨by rw [ByteArray.size_append, show (((1 + b.size : Nat) : Int)) + (u.size : Int) = ((b.size + u.size : Nat) : Int) + 1 by omega], hb⟩
theorem tornText (u : ByteArray) (w : World) (hp : (St2.bytesOf (enc (u.size : Int)) ++ u).size + 1 ≤ 8000) (hg : Laid w) :
    Calls Tryd.prog 11 #[.string ((St2.bytesOf (enc (u.size : Int)) ++ u).extract 0 ((St2.bytesOf (enc (u.size : Int)) ++ u).size - 1)), .int .i64 0] w fun e w' => e = .returned (.agg #[.string ⟨#[]⟩, .int .i64 0, .int .i64 4]) ∧ Below w.heap.size w w' := by
  rw [ByteArray.size_append] at hp
  have hE := size_bytesOf (enc (u.size : Int))
  have hpos := enc_pos (u.size : Int)
  by_cases h0 : u.size = 0
  · have hu : u = ⟨#[]⟩ := by
      apply ByteArray.ext
      exact Array.eq_empty_of_size_eq_zero h0
    have hs := scan_torn (u.size : Int) (by omega) (by omega)
    rw [ByteArray.size_append, h0, Nat.add_zero]
    rw [show St2.bytesOf (enc ((0 : Nat) : Int)) ++ u = St2.bytesOf (enc ((0 : Nat) : Int)) by rw [hu]; exact append_nothing _]
    rw [h0] at hs hE hp
    rw [front_eq, hE]
    have hl10 := enc_len ((0 : Nat) : Int)
    have hsz : (⟨((St2.bytesOf (enc ((0 : Nat) : Int))).data.toList.take ((enc ((0 : Nat) : Int)).length - 1)).toArray⟩ : ByteArray).size ≤ 8000 := by
      simp only [ByteArray.size, List.size_toArray, List.length_take, len_bytesOf]
      omega
    exact implGetText_no _ 0 4 w hsz hg (fun X => readText_fault _ 0 4 X hsz (by omega) (.inr rfl) hs)
  · have hs := scan_in [] (u.data.toList.take (u.size - 1)) (u.size : Int) (by omega) (by omega)
    rw [← front2_eq, ← hE] at hs
    have hS : ((St2.bytesOf (enc (u.size : Int)) ++ u).extract 0 ((St2.bytesOf (enc (u.size : Int))).size + (u.size - 1))).size = (St2.bytesOf (enc (u.size : Int))).size + (u.size - 1) := by
      rw [ByteArray.size_extract, ByteArray.size_append]; omega
    rw [ByteArray.size_append, show (St2.bytesOf (enc (u.size : Int))).size + u.size - 1 = (St2.bytesOf (enc (u.size : Int))).size + (u.size - 1) by omega]
    obtain ⟨b, hb⟩ : ∃ b, b = St2.bytesOf (enc (u.size : Int)) := ⟨_, rfl⟩
    rw [← hb] at hs hE hS hp ⊢
    clear hb
    obtain ⟨s, hss⟩ : ∃ s, s = (b ++ u).extract 0 (b.size + (u.size - 1)) := ⟨_, rfl⟩
    rw [← hss] at hs hS ⊢
    clear hss
    rw [show ((([] : List UInt8).length : Nat) : Int) + (b.size : Int) = (b.size : Int) by simp] at hs
    refine implGetText_no s 0 4 w (by omega) hg (fun X => ?_)
    have h := readText_short s 0 (u.size : Int) (b.size : Int) X (by omega) (by omega) (by omega) (by omega) (by omega) (by omega) hs
    exact h
end Go.Proofs.YtcnndiomljjmnaaDoor
