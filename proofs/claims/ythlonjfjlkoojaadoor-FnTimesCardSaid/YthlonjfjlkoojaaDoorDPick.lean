/- Draws: one of some texts; a text that is changed a little. -/
import Derived.Test.YthlonjfjlkoojaaDoorDraw3
import Derived.BigQuiet
namespace Go.Proofs.YthlonjfjlkoojaaDoor
open Go.RowKit
theorem Kept.setNew {S : List Nat} {a b : World} {G j : Nat} (h : Kept S a b) (hG : a.heap.size ≤ G) (v : Value) : Kept S a (b.setCell ⟨G, j, none⟩ v) := by
  refine ⟨h.os, h.tape, h.output, ?_, fun k hk hn => ?_⟩
  · simpa [World.setCell] using h.size
  · rw [Below.heap_setCell b ⟨G, j, none⟩ v k (by show k ≠ G; omega)]
    exact h.block k hk hn
theorem Kept.drewNQ {S : List Nat} {w w' : World} (h : Kept S w w') (n : Nat) : Kept S w (w'.drewN n) := ⟨h.os, h.tape, h.output, h.size, h.block⟩
theorem Src.drewNQ {v : Value} {bs : List Int} {g : Nat} {w : World} (h : Src v bs g w) (n : Nat) : Src v bs g (w.drewN n) := h.kept (S := []) ((Kept.refl [] w).drewNQ n) (by simp) (by simp)
set_option maxHeartbeats 2000000 in
theorem pick_any (v : Value) (bs : List Int) (g b c : Nat) (xs : List ByteArray) (w : World) (h : Src v bs g w) (hl : bs.length ≤ 1048576) (hr : Row w b 9 (xs.map Value.string)) (hb : b ≠ g) (h0 : 0 < xs.length) (h1 : xs.length ≤ 100) :
    Calls Tryd.prog 17 #[.pointer (some ⟨g, 0, none⟩), .slice (some ⟨b, 0, none⟩) xs.length c] w fun e w' => (∃ t : ByteArray, e = .returned (.string t) ∧ t ∈ xs) ∧ Src v bs g w' ∧ Kept [g] w w' := by
  have HS := hide h
  have HR := hide hr
  clear h hr
  go_enter Tryd.func17, Tryd.ntmps17
  go_wp2_with fail
  refine (n_any v bs g xs.length w HS.out (by omega) hl).mono ?_
  rintro e w1 ⟨⟨r, rfl, hr0, hr1⟩, hs1, hk1⟩
  obtain ⟨n, rfl⟩ := Int.eq_ofNat_of_zero_le hr0
  have hn : n < xs.length := by omega
  have HR1 := hide (hk1.row HR.out (by simp; exact hb))
  have hc : w1.cell? ⟨b, n, none⟩ = some (.string (xs[n]'hn)) := by rw [HR1.out.cell n]; simp [hn]
  have HS1 := hide hs1
  have HK1 := hide hk1
  have hnI : ¬ ((xs.length : Int) ≤ (n : Int)) := by omega
  clear hs1 hk1 hr0 hr1
  go_wp2
  go_ret
  exact ⟨⟨_, rfl, List.getElem_mem hn⟩, HS1.out, HK1.out⟩
theorem oneCell_text (X : World) (c : Int) (h0 : 0 ≤ c) (h1 : c < 256) : ∃ t : ByteArray, t.size = 1 ∧ (convert 22 9 (.slice (some ⟨X.heap.size, 0, none⟩) 1 1)).run Tryd.prog (X.alloc (.cells #[.int .u8 c] 5)) = .ok (.string t) (X.alloc (.cells #[.int .u8 c] 5)) := by
  refine ⟨⟨#[UInt8.ofNat c.toNat]⟩, rfl, ?_⟩
  have h := run_convert_bytes_back (P := Tryd.prog) (X.alloc (.cells #[.int .u8 c] 5)) 22 9 5 ⟨X.heap.size, 0, none⟩ 1 [UInt8.ofNat c.toNat] Tryd.underlying22 Tryd.underlying5 Tryd.underlying9 (fun j hj => by
    obtain rfl : j = 0 := by simpa using hj
    have e : (((UInt8.ofNat c.toNat).toNat : Nat) : Int) = c := by
      rw [UInt8.toNat_ofNat_of_lt' (show c.toNat < 256 by omega)]; omega
    have r := (row_new X [.int .u8 c] 5).cell 0
    simp only [List.getElem_cons_zero, e]
    first | exact r | simp [Addr.add])
  exact h
theorem ext_sizeQ (t : ByteArray) (a b : Nat) (h : a ≤ b) (hb : b ≤ t.size) : (t.extract a b).size = b - a := by rw [ByteArray.size_extract]; omega
set_option maxHeartbeats 4000000 in
set_option maxRecDepth 100000 in
theorem spoil_any (v : Value) (bs : List Int) (g : Nat) (t : ByteArray) (w : World) (h : Src v bs g w) (hl : bs.length ≤ 1048576) (ht : t.size ≤ 100000) :
    Calls Tryd.prog 16 #[.pointer (some ⟨g, 0, none⟩), .string t] w fun e w' => (∃ t' : ByteArray, e = .returned (.string t') ∧ t'.size ≤ t.size + 1) ∧ Src v bs g w' ∧ Kept [g] w w' := by
  have HS := hide h
  clear h
  have hwr : IntKind.i64.wrap ((t.size : Int) + 1) = (t.size : Int) + 1 := by rw [IntKind.wrap_i64]; omega
  go_enter Tryd.func16, Tryd.ntmps16
  go_wp2_with fail
  refine (n_any v bs g ((t.size : Int) + 1) w HS.out (by omega) hl).mono ?_
  rintro e w1 ⟨⟨r, rfl, hr0, hr1⟩, hs1, hk1⟩
  obtain ⟨k, rfl⟩ := Int.eq_ofNat_of_zero_le hr0
  have hk : k ≤ t.size := by omega
  have HS1 := hide hs1
  have HK1 := hide hk1
  clear hs1 hk1 hr0 hr1
  go_wp2_with fail
  refine (n_any v bs g 17 _ HS1.out (by omega) hl).mono ?_
  rintro e w2 ⟨⟨r, rfl, hr0, hr1⟩, hs2, hk2⟩
  obtain ⟨m, rfl⟩ := Int.eq_ofNat_of_zero_le hr0
  have hm : m < 17 := by omega
  have HS2 := hide (hs2.below (below_new w2 (.cells #[.int .u8 (((⟨#[32, 10, 48, 97, 45, 110, 44, 58, 93, 255, 40, 120, 126, 49, 128, 225, 59]⟩ : ByteArray)[m]'hm).toNat : Int)] 5)))
  have HK2 := hide ((HK1.out.trans hk2).below (below_new w2 (.cells #[.int .u8 (((⟨#[32, 10, 48, 97, 45, 110, 44, 58, 93, 255, 40, 120, 126, 49, 128, 225, 59]⟩ : ByteArray)[m]'hm).toNat : Int)] 5)))
  obtain ⟨cb, hcb⟩ : ∃ c : Int, c = (((⟨#[32, 10, 48, 97, 45, 110, 44, 58, 93, 255, 40, 120, 126, 49, 128, 225, 59]⟩ : ByteArray)[m]'hm).toNat : Int) := ⟨_, rfl⟩
  have hlt := UInt8.toNat_lt ((⟨#[32, 10, 48, 97, 45, 110, 44, 58, 93, 255, 40, 120, 126, 49, 128, 225, 59]⟩ : ByteArray)[m]'hm)
  rw [← hcb] at HS2 HK2
  obtain ⟨ct, hct, hcv⟩ := oneCell_text w2 cb (by rw [hcb]; omega) (by rw [hcb]; omega)
  clear hs2 hk2 hr0 hr1 hlt
  have hix := hcb.symm
  clear hcb
  have hmI : (m : Int) < 17 := by omega
  have e1 : (t.extract 0 k).size = k := by rw [ext_sizeQ t 0 k (by omega) hk]; omega
  have e2 : (t.extract k t.size).size = t.size - k := ext_sizeQ t k t.size hk (Nat.le_refl _)
  have HSZ := hide (show ((t.extract 0 k ++ ct) ++ t.extract k t.size).size ≤ t.size + 1 by rw [ByteArray.size_append, ByteArray.size_append, e1, e2, hct]; omega)
  by_cases hkt : k = t.size
  · have hke : ((k : Int) == (t.size : Int)) = true := by simp [hkt]
    go_wp2_with fail
    go_quiet (fail)
    go_wp2
    go_ret
    exact ⟨⟨_, rfl, by first | exact HSZ.out | (rw [ByteArray.size_append, hct]; exact Nat.le_refl _)⟩, HS2.out.drewNQ nq, HK2.out.drewNQ nq⟩
  · have hke : ((k : Int) == (t.size : Int)) = false := by simp; omega
    have hk1 : k + 1 ≤ t.size := by omega
    have hkw : IntKind.i64.wrap ((k : Int) + 1) = ((k + 1 : Nat) : Int) := by rw [IntKind.wrap_i64]; omega
    have e3 : (t.extract (k + 1) t.size).size = t.size - (k + 1) := ext_sizeQ t (k + 1) t.size hk1 (Nat.le_refl _)
    have HSZ2 := hide (show (t.extract 0 k ++ t.extract (k + 1) t.size).size ≤ t.size + 1 by rw [ByteArray.size_append, e1, e3]; omega)
    have HSZ3 := hide (show ((t.extract 0 k ++ ct) ++ t.extract (k + 1) t.size).size ≤ t.size + 1 by rw [ByteArray.size_append, ByteArray.size_append, e1, e3, hct]; omega)
    go_wp2_with fail
    refine (one_any v bs g 3 _ HS2.out (by omega) hl).mono ?_
    rintro e w3 ⟨⟨b1, rfl⟩, hs3, hk3⟩
    have HS3 := hide hs3
    have HK3 := hide (HK2.out.trans hk3)
    clear hs3 hk3
    cases b1
    · go_wp2_with fail
      refine (one_any v bs g 2 _ HS3.out (by omega) hl).mono ?_
      rintro e w4 ⟨⟨b2, rfl⟩, hs4, hk4⟩
      have HS4 := hide hs4
      have HK4 := hide (HK3.out.trans hk4)
      clear hs4 hk4
      cases b2
      · go_wp2_with fail
        go_quiet (fail)
        go_wp2
        go_ret
        exact ⟨⟨_, rfl, HSZ3.out⟩, HS4.out.drewNQ nq, HK4.out.drewNQ nq⟩
      · go_wp2_with fail
        go_quiet (fail)
        go_wp2
        go_ret
        exact ⟨⟨_, rfl, HSZ2.out⟩, HS4.out.drewNQ nq, HK4.out.drewNQ nq⟩
    · go_wp2_with fail
      go_quiet (fail)
      go_wp2
      go_ret
      exact ⟨⟨_, rfl, HSZ.out⟩, HS3.out.drewNQ nq, HK3.out.drewNQ nq⟩
end Go.Proofs.YthlonjfjlkoojaaDoor
