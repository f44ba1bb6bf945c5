/- The walk of the law of promise 1. -/
import Derived.Test.YtcnndiomljjmnaaDoorFnNumsL
namespace Go.Proofs.YtcnndiomljjmnaaDoor
open Go.RowKit St2 St3 St4
set_option maxHeartbeats 16000000 in
set_option maxRecDepth 100000 in
theorem lawFnNums (v1 v2 : Value) (bs1 bs2 : List Int) (w : World) (h1 : ReadsB w v1 bs1) (h2 : ReadsB w v2 bs2) (hg : Laid w) :
    Calls Tryd.prog 3 #[v1, v2] w fun e w' => e = .returned (.bool true) ∧ Below w.heap.size w w' := by
  have H1 := hideN h1
  have H2 := hideN h2
  have HG := hideN (fun (X : World) (hB : Below w.heap.size w X) => laid_below hg hB (laid_lt hg))
  obtain ⟨p1, k1, rfl, _⟩ := h1
  obtain ⟨p2, k2, rfl, _⟩ := h2
  clear hg
  by_cases hc1 : (1048576 : Int) < (bs1.length : Int)
  · go_enter Tryd.func3, Tryd.ntmps3
    go_wp2
    go_ret
    exact ⟨rfl, Below.refl _ _⟩
  by_cases hc2 : (1048576 : Int) < (bs2.length : Int)
  · go_enter Tryd.func3, Tryd.ntmps3
    go_wp2
    go_ret
    exact ⟨rfl, Below.refl _ _⟩
  have HL1 := hideN (show bs1.length ≤ 1048576 by omega)
  have HL2 := hideN (show bs2.length ≤ 1048576 by omega)
  go_enter Tryd.func3, Tryd.ntmps3
  go_wp2_with fail
  refine (drawPutNum_any _ bs1 _ H1.out HL1.out).mono ?_
  rintro e w1 ⟨⟨n, rfl, hn0, hn1⟩, hb1⟩
  have HB1 := hideN hb1
  have HN := hideN (show -9223372036854775808 ≤ n ∧ n ≤ 9223372036854775807 from ⟨hn0, hn1⟩)
  clear hb1 hn0 hn1
  have GN := hideN (fun X => gotNum n X HN.out.1 HN.out.2)
  have TN := hideN (fun X hL => tornNum n X HN.out.1 HN.out.2 hL)
  have PI := hideN (fun X => implPutNum_any n X HN.out.1 HN.out.2)
  have PS := hideN (fun X => specPutNum_any n X HN.out.1 HN.out.2)
  have hl1 : 1 ≤ (St2.bytesOf (enc n)).size := by rw [size_bytesOf]; exact enc_pos n
  have hl2 : (St2.bytesOf (enc n)).size ≤ 10 := by rw [size_bytesOf]; exact enc_len n
  generalize St2.bytesOf (enc n) = t at *
  have htt : (t.toList == t.toList) = true := by simp
  have ha1 : ¬ (t.size : Int) < 1 := by omega
  have ha2 : ¬ 10 < (t.size : Int) := by omega
  have ha3 : ((t.size : Int) - 1) = ((t.size - 1 : Nat) : Int) := by omega
  have hnc := Tryd.outCodeN
  go_wp2_with fail
  refine (PI.out _).mono ?_
  rintro e w2 ⟨rfl, hb2⟩
  have HB2 := hideN (HB1.out.trans (hb2.mono HB1.out.size))
  clear hb2
  go_wp2_with fail
  refine (PS.out _).mono ?_
  rintro e w3 ⟨rfl, hb3⟩
  have HB3 := hideN (HB2.out.trans (hb3.mono HB2.out.size))
  clear hb3 PI PS
  go_wp2_with fail
  refine (GN.out _).mono ?_
  rintro e w4 ⟨rfl, hb4⟩
  have HB4 := hideN (HB3.out.trans (hb4.mono HB3.out.size))
  have HA4 := hideN (row_new w4 [.int .i64 n, .int .i64 ((t.size : Int) + 2), .int .i64 0] 26)
  have HB5 := hideN (HB4.out.alloc HB4.out.size (.cells #[.int .i64 n, .int .i64 ((t.size : Int) + 2), .int .i64 0] 26))
  clear hb4 GN
  go_wp2_with fail
  refine (TN.out _ (HG.out _ HB5.out)).mono ?_
  rintro e w6 ⟨rfl, hb6⟩
  have HB6 := hideN (HB5.out.trans (hb6.mono HB5.out.size))
  clear hb6 TN
  go_wp2_with fail
  refine (drawPutText_any _ bs2 _ (H2.out.below HB6.out (Nat.le_refl _)) HL2.out).mono ?_
  rintro e w7 ⟨⟨u, rfl, hu⟩, hb7⟩
  have HB7 := hideN (HB6.out.trans (hb7.mono HB6.out.size))
  clear hb7 htt ha1 ha2 ha3 hl1 hl2
  by_cases h8 : u.size ≤ 8000
  · have H8 := hideN h8
    have QI := hideN (fun X => implPutText_any u X H8.out)
    have QS := hideN (fun X => specPutText_any u X H8.out)
    have GT := hideN (fun X h => gotText u X h)
    have TT := hideN (fun X h hL => tornText u X h hL)
    have hps : 0 < (St2.bytesOf (enc (u.size : Int)) ++ u).size := by
      rw [ByteArray.size_append, size_bytesOf]; have := enc_pos (u.size : Int); omega
    have hpl : (St2.bytesOf (enc (u.size : Int)) ++ u).size ≤ 9000 := by
      rw [ByteArray.size_append, size_bytesOf]; have := enc_len (u.size : Int); omega
    generalize St2.bytesOf (enc (u.size : Int)) ++ u = p at *
    have hpp : (p.toList == p.toList) = true := by simp
    have huu : (u.toList == u.toList) = true := by simp
    have hp0 : (p.toList == []) = false := by
      rw [Lib.toList_data]
      cases hq : p.data.toList with
      | nil =>
        have hz : p.size = 0 := by rw [show p.size = p.data.toList.length by simp, hq]; rfl
        omega
      | cons b r => rfl
    have hp1 : ((p.size : Int) - 1) = ((p.size - 1 : Nat) : Int) := by omega
    have htc := Tryd.outCodeT
    go_wp2_with fail
    refine (QI.out _).mono ?_
    rintro e w8 ⟨rfl, hb8⟩
    have HB8 := hideN (HB7.out.trans (hb8.mono HB7.out.size))
    clear hb8
    go_wp2_with fail
    refine (QS.out _).mono ?_
    rintro e w9 ⟨rfl, hb9⟩
    have HB9 := hideN (HB8.out.trans (hb9.mono HB8.out.size))
    clear hb9 QI QS
    by_cases hbig : 8000 < (p.size : Int) + 1
    · go_wp2
      go_ret
      exact ⟨rfl, HB9.out⟩
    · have HPS := hideN (show p.size + 1 ≤ 8000 by omega)
      go_wp2_with fail
      refine (GT.out _ HPS.out).mono ?_
      rintro e wa ⟨rfl, hba⟩
      have HBa := hideN (HB9.out.trans (hba.mono HB9.out.size))
      clear hba GT
      go_wp2_with fail
      refine (TT.out _ HPS.out (HG.out _ HBa.out)).mono ?_
      rintro e wb ⟨rfl, hbb⟩
      have HBb := hideN (HBa.out.trans (hbb.mono HBa.out.size))
      clear hbb TT
      go_wp2
      go_ret
      exact ⟨rfl, HBb.out⟩
  · have HS8 := hideN (show 8000 < u.size by omega)
    have HSM := hideN (show u.size ≤ maxLen by unfold maxLen; omega)
    have he1 : ((⟨#[]⟩ : ByteArray).toList == []) = true := by rw [Lib.toList_data]; rfl
    have he2 : ((⟨#[]⟩ : ByteArray).toList == (⟨#[]⟩ : ByteArray).toList) = true := by simp
    go_wp2_with fail
    refine (implPutText_not u _ HSM.out HS8.out).mono ?_
    rintro e w8 ⟨rfl, rfl⟩
    go_wp2_with fail
    refine (specPutText_not u _ HSM.out HS8.out).mono ?_
    rintro e w9 ⟨rfl, rfl⟩
    go_wp2_with fail
    refine (specPutText_not u _ HSM.out HS8.out).mono ?_
    rintro e wa ⟨rfl, rfl⟩
    go_wp2
    go_ret
    exact ⟨rfl, HB7.out⟩
end Go.Proofs.YtcnndiomljjmnaaDoor
