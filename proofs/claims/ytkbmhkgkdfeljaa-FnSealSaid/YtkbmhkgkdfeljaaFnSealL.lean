/- The law of promise 2: a drawn text is got back from its seal; with any one byte turned it is refused; a CRC goes on from text to text. -/
import Derived.Test.YtkbmhkgkdfeljaaDSeal
import Derived.Test.YtkbmhkgkdfeljaaCTurn
import Derived.Deep.RegionWith
namespace Go.Proofs.Ytkbmhkgkdfeljaa
open Go.RowKit
def crcMoreV (r : Int) (u : ByteArray) : Int := if 0 ≤ r ∧ r ≤ 4294967295 then St1.crcOf r u else 0
theorem crcMoreI (r : Int) (u : ByteArray) (w : World) (hu : u.size ≤ 8000) : Calls Try.prog 10 #[.int .i64 r, .string u] w fun e w' => e = .returned (.int .i64 (crcMoreV r u)) ∧ w' = w := by
  unfold crcMoreV
  by_cases h0 : 0 ≤ r
  · by_cases h1 : r ≤ 4294967295
    · rw [if_pos ⟨h0, h1⟩]; exact St1.implCrcMore_any r u w hu h0 h1
    · rw [if_neg (by omega)]; exact St1.implCrcMore_not r u w (by unfold maxLen; omega) (.inr (.inr ⟨hu, h0, by omega⟩))
  · rw [if_neg (by omega)]; exact St1.implCrcMore_not r u w (by unfold maxLen; omega) (.inr (.inl ⟨hu, by omega⟩))
theorem crcMoreS (r : Int) (u : ByteArray) (w : World) (hu : u.size ≤ 8000) : Calls Try.prog 11 #[.int .i64 r, .string u] w fun e w' => e = .returned (.int .i64 (crcMoreV r u)) ∧ w' = w := by
  unfold crcMoreV
  by_cases h0 : 0 ≤ r
  · by_cases h1 : r ≤ 4294967295
    · rw [if_pos ⟨h0, h1⟩]; exact St1.specCrcMore_any r u w hu h0 h1
    · rw [if_neg (by omega)]; exact St1.specCrcMore_not r u w (by unfold maxLen; omega) (.inr (.inr ⟨hu, h0, by omega⟩))
  · rw [if_neg (by omega)]; exact St1.specCrcMore_not r u w (by unfold maxLen; omega) (.inr (.inl ⟨hu, by omega⟩))
theorem wrap_u8S (n : Int) : IntKind.u8.wrap n = n % 256 := by simp [IntKind.wrap, IntKind.bits, IntKind.signed]
theorem xor8 (b : UInt8) (x : Nat) (hx : x < 256) : bits .xor .u8 (b.toNat : Int) (x : Int) = ((b ^^^ UInt8.ofNat x).toNat : Int) := by
  have hb := UInt8.toNat_lt b
  have hl : b.toNat ^^^ x < 2 ^ 8 := Nat.xor_lt_two_pow (by omega) (by omega)
  have h1 : (BitVec.ofInt 8 (b.toNat : Int)).toNat = b.toNat := by
    rw [BitVec.ofInt_natCast, BitVec.toNat_ofNat]; exact Nat.mod_eq_of_lt (by omega)
  have h2 : (BitVec.ofInt 8 (x : Int)).toNat = x := by
    rw [BitVec.ofInt_natCast, BitVec.toNat_ofNat]; exact Nat.mod_eq_of_lt (by omega)
  show IntKind.u8.wrap ((BitVec.ofInt 8 (b.toNat : Int) ^^^ BitVec.ofInt 8 (x : Int)).toNat : Int) = _
  rw [BitVec.toNat_xor, h1, h2, wrap_u8S, UInt8.toNat_xor, UInt8.toNat_ofNat_of_lt' (by simpa [UInt8.size] using hx)]
  omega
theorem xor8_ne (b : UInt8) (x : Nat) (hx : x < 256) (h0 : 0 < x) : b ≠ b ^^^ UInt8.ofNat x := by
  intro e
  have h := congrArg UInt8.toNat e
  rw [UInt8.toNat_xor, UInt8.toNat_ofNat_of_lt' (by simpa [UInt8.size] using hx)] at h
  have h2 : b.toNat ^^^ (b.toNat ^^^ x) = b.toNat ^^^ b.toNat := by rw [← h]
  rw [← Nat.xor_assoc, Nat.xor_self, Nat.zero_xor] at h2
  omega
theorem turn8 (b : UInt8) (x : Nat) (hx : x < 255) : bits .xor .u8 (b.toNat : Int) (IntKind.u8.wrap (IntKind.i64.wrap (1 + (x : Int)))) = ((b ^^^ UInt8.ofNat (1 + x)).toNat : Int) := by
  rw [show IntKind.u8.wrap (IntKind.i64.wrap (1 + (x : Int))) = ((1 + x : Nat) : Int) by rw [IntKind.wrap_i64, wrap_u8S]; omega]
  exact xor8 b (1 + x) (by omega)
theorem raw_cellS (w : World) (s : ByteArray) (T : TypeId) (j : Nat) (hj : j < s.data.toList.length) : (w.drew.alloc (.cells (bytesRow s (grownCap w s.size 0 T)) T ((bytesRow s (grownCap w s.size 0 T)).size, (bytesRow s (grownCap w s.size 0 T)).size + 1))).cell? ⟨w.heap.size, j, none⟩ = some (.int .u8 ((s.data.toList[j]'hj).toNat : Int)) := by
  have hb : (w.drew.alloc (.cells (bytesRow s (grownCap w s.size 0 T)) T ((bytesRow s (grownCap w s.size 0 T)).size, (bytesRow s (grownCap w s.size 0 T)).size + 1))).heap[w.heap.size]? = some (.cells (bytesRow s (grownCap w s.size 0 T)) T ((bytesRow s (grownCap w s.size 0 T)).size, (bytesRow s (grownCap w s.size 0 T)).size + 1)) := heap_alloc_new w.drew _
  rw [cell_of_row _ w.heap.size j _ T _ hb]
  have hj' : j < s.data.size := by simpa using hj
  unfold bytesRow
  rw [Array.getElem?_append_left (by rw [Array.size_map]; exact hj'), Array.getElem?_map, Array.getElem?_eq_getElem hj', Option.map_some, Array.getElem_toList]
theorem raw_free (w : World) (s : ByteArray) (T : TypeId) (j : Nat) (hj : j < s.data.toList.length) : (w.drew.alloc (.cells (bytesRow s (grownCap w s.size 0 T)) T ((bytesRow s (grownCap w s.size 0 T)).size, (bytesRow s (grownCap w s.size 0 T)).size + 1))).frozen? ⟨w.heap.size, j, none⟩ = false := by
  have h := World.frozen?_alloc_mark w.drew (bytesRow s (grownCap w s.size 0 T)) T (bytesRow s (grownCap w s.size 0 T)).size ((bytesRow s (grownCap w s.size 0 T)).size + 1) j
  have hs : j < (bytesRow s (grownCap w s.size 0 T)).size := by
    unfold bytesRow
    have hj' : j < s.data.size := by simpa using hj
    rw [Array.size_append, Array.size_map]
    omega
  rw [show (w.drew.heap.size) = w.heap.size from rfl] at h
  rw [h, decide_eq_false (by omega)]
  rfl
theorem seal_back (t : ByteArray) : (St1.sealOf t).extract 0 ((St1.sealOf t).size - 4) = t := by
  have h := St1.extract_front t.data.toList (St1.four (St1.crcOf 0 t)).data.toList rfl
  have e : (⟨(t.data.toList ++ (St1.four (St1.crcOf 0 t)).data.toList).toArray⟩ : ByteArray) = St1.sealOf t := by
    rw [← St1.seal_list]
  rw [e] at h
  exact h
theorem Try.outCode2 (a b c : Value) (w : World) : (Instr.field 27 (.agg #[a, b, c]) 2).run Try.prog w = .ok c w := by kernel_rfl
set_option maxHeartbeats 8000000 in
set_option maxRecDepth 100000 in
theorem lawFnSeal (v1 v2 : Value) (bs1 bs2 : List Int) (w : World) (h1 : ReadsB w v1 bs1) (h2 : ReadsB w v2 bs2) :
    Calls Try.prog 3 #[v1, v2] w fun e w' => e = .returned (.bool true) ∧ Below w.heap.size w w' := by
  have H1 := hide h1
  have H2 := hide h2
  obtain ⟨p1, k1, rfl, _⟩ := h1
  obtain ⟨p2, k2, rfl, _⟩ := h2
  by_cases hc1 : (1048576 : Int) < (bs1.length : Int)
  · go_enter Try.func3, Try.ntmps3
    go_wp2
    go_ret
    exact ⟨rfl, Below.refl _ _⟩
  by_cases hc2 : (1048576 : Int) < (bs2.length : Int)
  · go_enter Try.func3, Try.ntmps3
    go_wp2
    go_ret
    exact ⟨rfl, Below.refl _ _⟩
  have HL1 := hide (show bs1.length ≤ 1048576 by omega)
  have HL2 := hide (show bs2.length ≤ 1048576 by omega)
  go_enter Try.func3, Try.ntmps3
  go_wp2_with fail
  refine (drawSeal_any _ bs1 _ H1.out HL1.out).mono ?_
  rintro e w1 ⟨⟨t, rfl, ht⟩, hb1⟩
  have HB1 := hide hb1
  clear hb1
  by_cases hs : t.size ≤ 7996
  · have HSZ := hide hs
    go_wp2_with fail
    refine (St1.implSeal_any t _ HSZ.out).mono ?_
    rintro e w2 ⟨rfl, hb2⟩
    have HB2 := hide (HB1.out.trans (hb2.mono HB1.out.size))
    clear hb2
    go_wp2_with fail
    refine (St1.specSeal_any t _ HSZ.out).mono ?_
    rintro e w3 ⟨rfl, hb3⟩
    have HB3 := hide (HB2.out.trans (hb3.mono HB2.out.size))
    clear hb3
    have HSL := hide (St1.seal_list t)
    have HBK := hide (seal_back t)
    have HTU := hide (fun i d hi hd => St1.turned t i d hi hd)
    have hlen : (St1.sealOf t).data.toList.length = t.size + 4 := by rw [HSL.out, List.length_append, show (St1.four (St1.crcOf 0 t)).data.toList.length = 4 from rfl]; simp
    have hsz : (St1.sealOf t).size = t.size + 4 := by rw [← hlen]; simp
    have HUS := hide (fun X => St1.implUnseal_ok (St1.sealOf t) X (by omega) (by omega) (by rw [HBK.out]))
    rw [HBK.out] at HUS
    generalize St1.sealOf t = s at *
    have hst : (s.toList == s.toList) = true := by simp
    have hs0 : (s.toList == []) = false := by
      rw [Lib.toList_data]
      cases hq : s.data.toList with
      | nil => rw [hq] at hlen; simp at hlen
      | cons b r => rfl
    have hcv := run_bytes_of_string (P := Try.prog) w3 9 22 5 s Try.underlying9 Try.underlying22 Try.underlying5
    obtain ⟨C, hC⟩ : ∃ C, C = grownCap w3 s.size 0 5 := ⟨_, rfl⟩
    have hCT : s.size ≤ C := by rw [hC]; exact grownCap_ge _ _ _ _
    obtain ⟨W, hW⟩ : ∃ W, W = w3.drew.alloc (.cells (bytesRow s (grownCap w3 s.size 0 5)) 5 ((bytesRow s (grownCap w3 s.size 0 5)).size, (bytesRow s (grownCap w3 s.size 0 5)).size + 1)) := ⟨_, rfl⟩
    have HCELL := hide (show ∀ j (hj : j < s.data.toList.length), W.cell? ⟨w3.heap.size, j, none⟩ = some (.int .u8 ((s.data.toList[j]'hj).toNat : Int)) from fun j hj => by rw [hW]; exact raw_cellS w3 s _ j hj)
    have HFREE := hide (show ∀ j (hj : j < s.data.toList.length), W.frozen? ⟨w3.heap.size, j, none⟩ = false from fun j hj => by rw [hW]; exact raw_free w3 s _ j hj)
    have HBW := hide (show Below w.heap.size w W by rw [hW]; exact (HB3.out.drew).alloc HB3.out.size _)
    have HBI := hide (show w.heap.size ≤ w3.heap.size from HB3.out.size)
    have HWS := hide (show w3.heap.size < W.heap.size by rw [hW]; simp)
    rw [← hW, ← hC] at hcv
    clear hW hC
    have hszI : (s.size : Int) = (t.size : Int) + 4 := by omega
    have hm1 : (1 : Int) < (s.size : Int) := by omega
    have HM2 := hide (show (s.size : Int) ≤ 100000 by omega)
    clear hszI
    have HSZ2 := hide hsz
    have HLEN := hide hlen
    clear hsz hlen
    go_wp2_with fail
    generalize w3.heap.size = B at *
    refine (lwAt_any _ bs2 0 (s.size : Int) _ (H2.out.below HBW.out (Nat.le_refl _)) HL2.out hm1 HM2.out).mono ?_
    rintro e w4 ⟨⟨r0, rfl, hr0, hr1⟩, rfl⟩
    obtain ⟨i, rfl⟩ := Int.eq_ofNat_of_zero_le hr0
    have hil : i < s.data.toList.length := by have := HLEN.out; have := HSZ2.out; omega
    have hci := HCELL.out i hil
    have hfi := HFREE.out i hil
    have HNE := hide (fun d hd => HTU.out i d hil hd)
    have H2W := hide (H2.out.below HBW.out (Nat.le_refl _))
    clear HTU hr0
    obtain ⟨b, hb⟩ : ∃ b, b = s.data.toList[i]'hil := ⟨_, rfl⟩
    rw [← hb] at hci HNE
    have HB' := hide hb
    clear hb
    go_wp2_with fail
    go_region_with (go_at_call 7; refine (lwAt_any _ bs2 1 255 _ ?_ HL2.out (by omega) (by omega)).mono ?_; exact H2W.out; rintro e w5 ⟨⟨r1, rfl, hq0, hq1⟩, rfl⟩; obtain ⟨x, rfl⟩ := Int.eq_ofNat_of_zero_le hq0)
    all_goals
      have hxx := turn8 b x (by omega)
      have hdn := xor8_ne b (1 + x) (by omega) (by omega)
      rw [hxx]
      clear hxx
      generalize b ^^^ UInt8.ofNat (1 + x) = d at *
      have HQ := hide (HNE.out d hdn)
      have HBX := hide (show Below w.heap.size w (w4.setCell ⟨B, i, none⟩ (.int .u8 (d.toNat : Int))).drew from (HBW.out.setCell (p := ⟨B, i, none⟩) HBI.out _).drew)
      have HXC := hide (show ∀ j (hj : j < (s.data.toList.set i d).length), (w4.setCell ⟨B, i, none⟩ (.int .u8 (d.toNat : Int))).drew.cell? ⟨B, j, none⟩ = some (.int .u8 (((s.data.toList.set i d)[j]'hj).toNat : Int)) from fun j hj => by
        show (w4.setCell ⟨B, i, none⟩ (.int .u8 (d.toNat : Int))).cell? ⟨B, j, none⟩ = _
        have hj' : j < s.data.toList.length := by rwa [List.length_set] at hj
        by_cases hji : j = i
        · subst hji
          rw [World.cell?_setCell_same _ _ _ hci, List.getElem_set_self]
        · rw [World.cell?_setCell_other _ _ _ _ (fun e => hji (by injection e with _ e2 _; exact e2.symm)), List.getElem_set_ne (fun e => hji e.symm)]
          exact HCELL.out j hj')
      have HBXL := hide (show B < (w4.setCell ⟨B, i, none⟩ (.int .u8 (d.toNat : Int))).drew.heap.size by have := HWS.out; simpa [World.setCell] using this)
      obtain ⟨X, hX⟩ : ∃ X, X = (w4.setCell ⟨B, i, none⟩ (.int .u8 (d.toNat : Int))).drew := ⟨_, rfl⟩
      rw [← hX] at HBX HXC HBXL ⊢
      clear hX hdn hci hfi
      have HLN : Hid ((s.data.toList.set i d).length = s.size) := hide (by rw [List.length_set, Array.length_toList]; rfl)
      have HCV := hide (fun (Y : World) (hY : Below X.heap.size X Y) => show (convert 22 9 (.slice (some ⟨B, 0, none⟩) s.size C)).run Try.prog Y = .ok (.string ⟨(s.data.toList.set i d).toArray⟩) Y by
        have h := run_convert_bytes_back (P := Try.prog) Y 22 9 5 ⟨B, 0, none⟩ C (s.data.toList.set i d) Try.underlying22 Try.underlying5 Try.underlying9 (fun j hj => by
          rw [Addr.add_lit, Nat.zero_add, hY.cell (p := ⟨B, j, none⟩) HBXL.out]
          exact HXC.out j hj)
        rwa [HLN.out] at h)
      generalize s.data.toList.set i d = l at *
      have HLS := hide (show (⟨l.toArray⟩ : ByteArray).size = s.size by rw [← HLN.out]; simp [ByteArray.size])
      have htt : (t.toList == t.toList) = true := by simp
      have hfc := Try.outCode2
      go_wp2_with fail
      refine (HUS.out _).mono ?_
      rintro e w5 ⟨rfl, hb5⟩
      have HB5 := hide (HBX.out.trans (hb5.mono HBX.out.size))
      have hcv5 := HCV.out _ hb5
      clear hb5
      go_wp2_with fail
      refine (St1.implUnseal_sum ⟨l.toArray⟩ _ (by rw [HLS.out]; have := HSZ2.out; omega) (by rw [HLS.out]; have := HSZ2.out; have := HSZ.out; omega) HQ.out).mono ?_
      rintro e w6 ⟨rfl, hb6⟩
      have HB6 := hide (HB5.out.trans (hb6.mono HB5.out.size))
      clear hb6 hcv5
      go_wp2_with fail
      refine (drawCrcMore_any _ bs2 _ (H2.out.below HB6.out (Nat.le_refl _)) HL2.out).mono ?_
      rintro e wa ⟨⟨r, u, rfl, hu⟩, hba⟩
      have HBa := hide (HB6.out.trans (hba.mono HB6.out.size))
      clear hba
      by_cases h8 : t.size + u.size ≤ 8000
      · have h8I : ¬ 8000 < (t.size : Int) + (u.size : Int) := by omega
        have hwr : IntKind.i64.wrap ((t.size : Int) + (u.size : Int)) = (t.size : Int) + (u.size : Int) := by rw [IntKind.wrap_i64]; omega
        have HT8 := hide (show t.size ≤ 8000 ∧ u.size ≤ 8000 by omega)
        have HTU := hide (show (t ++ u).size ≤ 8000 by rw [ByteArray.size_append]; omega)
        have HM := hide (St1.crcOf_more t u)
        have HC0 := hide (St1.crcOf_bd 0 t)
        have CC := hide (fun X => crcMoreI r u X HT8.out.2)
        have CD := hide (fun X => crcMoreS r u X HT8.out.2)
        generalize crcMoreV r u = V at *
        go_wp2_with fail
        refine (CC.out _).mono ?_
        rintro e wb ⟨rfl, rfl⟩
        go_wp2_with fail
        refine (CD.out _).mono ?_
        rintro e wb ⟨rfl, rfl⟩
        clear CC CD
        go_wp2_with fail
        refine (St1.implCrcOf_any t _ HT8.out.1).mono ?_
        rintro e wb ⟨rfl, rfl⟩
        go_wp2_with fail
        refine (St1.implCrcMore_any (St1.crcOf 0 t) u _ HT8.out.2 HC0.out.1 HC0.out.2).mono ?_
        rintro e wb ⟨rfl, rfl⟩
        rw [HM.out]
        go_wp2_with fail
        refine (St1.implCrcOf_any (t ++ u) _ HTU.out).mono ?_
        rintro e wb ⟨rfl, rfl⟩
        generalize St1.crcOf 0 (t ++ u) = Z at *
        go_wp2
        go_ret
        exact ⟨rfl, HBa.out⟩
      · have h8I : 8000 < (t.size : Int) + (u.size : Int) := by omega
        have hwr : IntKind.i64.wrap ((t.size : Int) + (u.size : Int)) = (t.size : Int) + (u.size : Int) := by rw [IntKind.wrap_i64]; omega
        go_wp2
        go_ret
        exact ⟨rfl, HBa.out⟩
  · have HSZ := hide (show 7996 < t.size by omega)
    have HTM := hide (show t.size ≤ maxLen by unfold maxLen; omega)
    go_wp2_with fail
    refine (St1.implSeal_not t _ HTM.out HSZ.out).mono ?_
    rintro e w2 ⟨rfl, rfl⟩
    go_wp2_with fail
    refine (St1.specSeal_not t _ HTM.out HSZ.out).mono ?_
    rintro e w3 ⟨rfl, rfl⟩
    have he1 : (ByteArray.empty.toList == []) = true := by rw [Lib.toList_data]; rfl
    have he2 : (ByteArray.empty.toList == ByteArray.empty.toList) = true := by simp
    go_wp2_with fail
    refine (drawCrcMore_any _ bs2 _ (H2.out.below HB1.out (Nat.le_refl _)) HL2.out).mono ?_
    rintro e wa ⟨⟨r, u, rfl, hu⟩, hba⟩
    have HBa := hide (HB1.out.trans (hba.mono HB1.out.size))
    clear hba
    by_cases h8 : t.size + u.size ≤ 8000
    · have h8I : ¬ 8000 < (t.size : Int) + (u.size : Int) := by omega
      have hwr : IntKind.i64.wrap ((t.size : Int) + (u.size : Int)) = (t.size : Int) + (u.size : Int) := by rw [IntKind.wrap_i64]; omega
      have HT8 := hide (show t.size ≤ 8000 ∧ u.size ≤ 8000 by omega)
      have HTU := hide (show (t ++ u).size ≤ 8000 by rw [ByteArray.size_append]; omega)
      have HM := hide (St1.crcOf_more t u)
      have HC0 := hide (St1.crcOf_bd 0 t)
      have CC := hide (fun X => crcMoreI r u X HT8.out.2)
      have CD := hide (fun X => crcMoreS r u X HT8.out.2)
      generalize crcMoreV r u = V at *
      go_wp2_with fail
      refine (CC.out _).mono ?_
      rintro e wb ⟨rfl, rfl⟩
      go_wp2_with fail
      refine (CD.out _).mono ?_
      rintro e wb ⟨rfl, rfl⟩
      clear CC CD
      go_wp2_with fail
      refine (St1.implCrcOf_any t _ HT8.out.1).mono ?_
      rintro e wb ⟨rfl, rfl⟩
      go_wp2_with fail
      refine (St1.implCrcMore_any (St1.crcOf 0 t) u _ HT8.out.2 HC0.out.1 HC0.out.2).mono ?_
      rintro e wb ⟨rfl, rfl⟩
      rw [HM.out]
      go_wp2_with fail
      refine (St1.implCrcOf_any (t ++ u) _ HTU.out).mono ?_
      rintro e wb ⟨rfl, rfl⟩
      generalize St1.crcOf 0 (t ++ u) = Z at *
      go_wp2
      go_ret
      exact ⟨rfl, HBa.out⟩
    · have h8I : 8000 < (t.size : Int) + (u.size : Int) := by omega
      have hwr : IntKind.i64.wrap ((t.size : Int) + (u.size : Int)) = (t.size : Int) + (u.size : Int) := by rw [IntKind.wrap_i64]; omega
      go_wp2
      go_ret
      exact ⟨rfl, HBa.out⟩
end Go.Proofs.Ytkbmhkgkdfeljaa
