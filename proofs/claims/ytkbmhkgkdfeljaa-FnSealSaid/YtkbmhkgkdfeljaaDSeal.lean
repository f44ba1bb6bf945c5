/- Draws: a text to be sealed, a CRC and a text behind it; a number out of a code. -/
import Derived.Test.YtkbmhkgkdfeljaaDraw3
import Derived.Test.YtkbmhkgkdfeljaaDrawEdge
import Derived.Test.YtkbmhkgkdfeljaaCUnseal
import Derived.Laws.IdiomStrings
import Derived.Laws.MakeOwn
import Derived.Laws.OwnMore
import Derived.BigQuiet
namespace Go.Proofs.Ytkbmhkgkdfeljaa
open Go.RowKit
theorem madeText (n : Nat) (i : Int) (hni : i = n) (hn : n ≤ 100000) : ∃ (M : Array Value) (Z : ByteArray), Z.size = n ∧ (∀ W : World, (Instr.makeSlice 22 (.int .i64 i) (.int .i64 i)).run Try.prog W = .ok (.slice (some ⟨W.heap.size, 0, none⟩) n n) (W.alloc (.cells M 5))) ∧
    (∀ (W : World) (B : Nat), W.heap[B]? = some (.cells M 5 (0, 0)) → (convert 22 9 (.slice (some ⟨B, 0, none⟩) n n)).run Try.prog W = .ok (.string Z) W) := by
  subst hni
  obtain ⟨i0, hi, hz0, hz1, hz2⟩ := info_parts Try.infoByte
  refine ⟨madeCells (Value.int .u8 0).cells (n * i0.size), ⟨(List.replicate n (0 : UInt8)).toArray⟩, by simp [ByteArray.size], fun W => ?_, fun W B hW => ?_⟩
  · have h := run_make (P := Try.prog) W 22 5 i0 (.int .u8 0) Try.underlying22 hi hz0 .i64 .i64 (n : Int) (n : Int) (by omega) (by omega) (by rw [hz2]; omega) (by omega)
    simpa using h
  · have h := run_convert_bytes_back (P := Try.prog) W 22 9 5 ⟨B, 0, none⟩ n (List.replicate n (0 : UInt8)) Try.underlying22 Try.underlying5 Try.underlying9 (fun j hj => by
      rw [List.length_replicate] at hj
      rw [add_addr, Nat.zero_add, cell_of_row _ B j _ 5 (0, 0) hW, hz1, Nat.mul_one, ← Array.getElem?_toList, show (Value.int .u8 0).cells = #[.int .u8 0] from rfl, toList_madeCells_one]
      simp [hj])
    rw [List.length_replicate] at h
    exact h
set_option maxHeartbeats 4000000 in
theorem drawSeal_any (v : Value) (bs : List Int) (w : World) (h : ReadsB w v bs) (hl : bs.length ≤ 1048576) :
    Calls Try.prog 4 #[v] w fun e w' => (∃ t : ByteArray, e = .returned (.string t) ∧ t.size ≤ 100000) ∧ Below w.heap.size w w' := by
  have HV := hide h
  clear h
  go_enter Try.func4, Try.ntmps4
  go_wp2_with fail
  refine (source_any v bs w HV.out hl).mono ?_
  rintro e w1 ⟨rfl, hs1, hb1⟩
  have HB1 := hide hb1
  have HS1 := hide hs1
  clear hs1 hb1
  obtain ⟨g, hg⟩ : ∃ g, g = w.heap.size := ⟨_, rfl⟩
  rw [← hg] at HS1 ⊢
  have HG := hide (show w.heap.size ≤ g by omega)
  clear hg
  go_wp2_with fail
  refine (one_any v bs g 30 _ HS1.out (by omega) hl).mono ?_
  rintro e w2 ⟨⟨b, rfl⟩, hs2, hk2⟩
  have HS2 := hide hs2
  have HK2 := hide hk2
  clear hs2 hk2
  cases b
  · go_wp2_with fail
    refine (n_any v bs g 20 _ HS2.out (by omega) hl).mono ?_
    rintro e w3 ⟨⟨r, rfl, hr0, hr1⟩, hs3, hk3⟩
    have HS3 := hide hs3
    have HK3 := hide (HK2.out.trans hk3)
    have hr2 : r ≤ 20 := by omega
    clear hs3 hk3 hr1
    go_wp2_with fail
    refine (bytes_any v bs g r _ HS3.out (by omega) hl).mono ?_
    rintro e w4 ⟨⟨t, rfl, ht1, _⟩, hs4, hk4⟩
    have HBE := hide ((HK3.out.trans hk4).toBelow HB1.out HB1.out.size (by have := HG.out; simp; omega))
    clear hs4 hk4
    go_wp2
    go_ret
    exact ⟨⟨t, rfl, ht1⟩, HBE.out⟩
  · go_wp2_with fail
    refine (n_any v bs g 3 _ HS2.out (by omega) hl).mono ?_
    rintro e w3 ⟨⟨r, rfl, hr0, hr1⟩, hs3, hk3⟩
    obtain ⟨n, rfl⟩ := Int.eq_ofNat_of_zero_le hr0
    have hn2 : n ≤ 2 := by omega
    have HB3 := hide ((HK2.out.trans hk3).toBelow HB1.out HB1.out.size (by have := HG.out; simp; omega))
    clear hs3 hk3 hr1 hr0
    obtain ⟨M, Z, hZ, hmk, hcv'⟩ := madeText (19995 + n) (19995 + (n : Int)) (by simp) (by omega)
    have hcv := fun W : World => hcv' (W.alloc (.cells M 5)) W.heap.size (heap_alloc_new W _)
    clear hcv'
    have HZ := hide hZ
    clear hZ
    have hw2 : IntKind.i64.wrap (19995 + (n : Int)) = 19995 + (n : Int) := by rw [IntKind.wrap_i64]; omega
    have HBE := hide (HB3.out.alloc HB3.out.size (.cells M 5))
    go_wp2
    go_ret
    exact ⟨⟨Z, rfl, by have := HZ.out; omega⟩, HBE.out⟩
set_option maxHeartbeats 4000000 in
theorem drawCrcMore_any (v : Value) (bs : List Int) (w : World) (h : ReadsB w v bs) (hl : bs.length ≤ 1048576) :
    Calls Try.prog 9 #[v] w fun e w' => (∃ (r : Int) (t : ByteArray), e = .returned (.tuple #[.int .i64 r, .string t]) ∧ t.size ≤ 100) ∧ Below w.heap.size w w' := by
  have HV := hide h
  clear h
  go_enter Try.func9, Try.ntmps9
  go_wp2_with fail
  refine (source_any v bs w HV.out hl).mono ?_
  rintro e w1 ⟨rfl, hs1, hb1⟩
  have HB1 := hide hb1
  have HS1 := hide hs1
  clear hs1 hb1
  obtain ⟨g, hg⟩ : ∃ g, g = w.heap.size := ⟨_, rfl⟩
  rw [← hg] at HS1 ⊢
  have HG := hide (show w.heap.size ≤ g by omega)
  clear hg
  go_wp2_with fail
  refine (n_any v bs g 9 _ HS1.out (by omega) hl).mono ?_
  rintro e w2 ⟨⟨r, rfl, hr0, hr1⟩, hs2, hk2⟩
  have HS2 := hide hs2
  have HK2 := hide hk2
  have hr2 : r ≤ 9 := by omega
  clear hs2 hk2 hr1
  go_wp2_with fail
  refine (bytes_any v bs g r _ HS2.out (by omega) hl).mono ?_
  rintro e w3 ⟨⟨t, rfl, _, ht2⟩, hs3, hk3⟩
  have HS3 := hide hs3
  have HK3 := hide (HK2.out.trans hk3)
  have HT := hide (show t.size ≤ 100 by omega)
  clear hs3 hk3 ht2 hr0 hr2
  go_wp2_with fail
  refine (one_any v bs g 5 _ HS3.out (by omega) hl).mono ?_
  rintro e w4 ⟨⟨b, rfl⟩, hs4, hk4⟩
  have HS4 := hide hs4
  have HK4 := hide (HK3.out.trans hk4)
  clear hs4 hk4
  cases b
  · go_wp2_with fail
    refine (n_any v bs g 9 _ HS4.out (by omega) hl).mono ?_
    rintro e w5 ⟨⟨r, rfl, hr0, hr1⟩, hs5, hk5⟩
    have HS5 := hide hs5
    have HK5 := hide (HK4.out.trans hk5)
    have hr2 : r ≤ 9 := by omega
    clear hs5 hk5 hr1
    go_wp2_with fail
    refine (bytes_any v bs g r _ HS5.out (by omega) hl).mono ?_
    rintro e w6 ⟨⟨u, rfl, _, hu2⟩, hs6, hk6⟩
    have HBE := hide ((HK5.out.trans hk6).toBelow HB1.out HB1.out.size (by have := HG.out; simp; omega))
    have HU := hide (show u.size ≤ 8000 by omega)
    clear hs6 hk6 hu2 hr0 hr2
    go_wp2_with fail
    refine (St1.specCrcOf_any u _ HU.out).mono ?_
    rintro e w7 ⟨rfl, rfl⟩
    go_wp2
    exact bodyPost_ret (v := .tuple #[.int .i64 (St1.crcOf 0 u), .string t]) (by simp [results, Try.results9, go_sem]) rfl ⟨⟨_, t, rfl, HT.out⟩, HBE.out⟩
  · go_wp2_with fail
    refine (edge_any v bs g _ HS4.out hl).mono ?_
    rintro e w5 ⟨⟨r, rfl, _, _⟩, hs5, hk5⟩
    have HBE := hide ((HK4.out.trans hk5).toBelow HB1.out HB1.out.size (by have := HG.out; simp; omega))
    clear hs5 hk5
    go_wp2
    exact bodyPost_ret (v := .tuple #[.int .i64 r, .string t]) (by simp [results, Try.results9, go_sem]) rfl ⟨⟨r, t, rfl, HT.out⟩, HBE.out⟩
set_option maxHeartbeats 2000000 in
theorem lwAt_any (v : Value) (bs : List Int) (a : Nat) (m : Int) (w : World) (h : ReadsB w v bs) (hl : bs.length ≤ 1048576) (hm : 1 < m) (hm2 : m ≤ 100000) :
    Calls Try.prog 7 #[v, .int .i64 (a : Int), .int .i64 m] w fun e w' => (∃ r : Int, e = .returned (.int .i64 r) ∧ 0 ≤ r ∧ r < m) ∧ w' = w := by
  obtain ⟨p, cap, rfl, h1, h2, h3, h4⟩ := h
  by_cases h0 : bs.length = 0
  · have hb0 : ((bs.length : Int) == 0) = true := beq_iff_eq.2 (by omega)
    have hmI : ¬ m ≤ 1 := by omega
    clear h4 h3
    go_enter Try.func7, Try.ntmps7
    go_wp2
    go_ret
    exact ⟨⟨0, rfl, by omega, by omega⟩, rfl⟩
  · have hb0 : ((bs.length : Int) == 0) = false := beq_eq_false_iff_ne.2 (by omega)
    have hmI : ¬ m ≤ 1 := by omega
    obtain ⟨G, off, rfl, hg, hc⟩ := h4 (by omega)
    obtain ⟨j, hj⟩ : ∃ j : Nat, j = a % bs.length := ⟨_, rfl⟩
    have hjl : j < bs.length := by rw [hj]; exact Nat.mod_lt _ (by omega)
    have hjI : Int.tmod (a : Int) (bs.length : Int) = (j : Int) := by rw [hj]; exact (Int.ofNat_tmod a bs.length)
    have hcj := hc j hjl
    have hb := h3 _ (List.getElem_mem hjl)
    generalize bs[j] = x at *
    have hjI2 : ((a : Int) % (bs.length : Int)) = (j : Int) := by rw [hj]; exact (Int.natCast_emod a bs.length).symm
    clear hj hc h3 h4
    go_enter Try.func7, Try.ntmps7
    go_wp2
    go_ret
    exact ⟨⟨x % m, rfl, Int.emod_nonneg _ (by omega), Int.emod_lt_of_pos _ (by omega)⟩, rfl⟩
end Go.Proofs.Ytkbmhkgkdfeljaa
