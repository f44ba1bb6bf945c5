/- Draws: a number of any size, a text to be put. -/
import Derived.Test.YtcnndiomljjmnaaDoorDraw3
import Derived.Test.YtcnndiomljjmnaaDoorDrawEdge
import Derived.Laws.IdiomStrings
import Derived.Laws.MakeOwn
import Derived.Laws.OwnMore
import Derived.BigQuiet
namespace Go.Proofs.YtcnndiomljjmnaaDoor
open Go.RowKit
theorem madeTextN (n : Nat) (i : Int) (hni : i = n) (hn : n ≤ 100000) : ∃ (M : Array Value) (Z : ByteArray), Z.size = n ∧ (∀ W : World, (Instr.makeSlice 22 (.int .i64 i) (.int .i64 i)).run Tryd.prog W = .ok (.slice (some ⟨W.heap.size, 0, none⟩) n n) (W.alloc (.cells M 5))) ∧
    (∀ (W : World) (B : Nat), W.heap[B]? = some (.cells M 5 (0, 0)) → (convert 22 9 (.slice (some ⟨B, 0, none⟩) n n)).run Tryd.prog W = .ok (.string Z) W) := by
  subst hni
  obtain ⟨i0, hi, hz0, hz1, hz2⟩ := info_parts Tryd.infoByte
  refine ⟨madeCells (Value.int .u8 0).cells (n * i0.size), ⟨(List.replicate n (0 : UInt8)).toArray⟩, by simp [ByteArray.size], fun W => ?_, fun W B hW => ?_⟩
  · have h := run_make (P := Tryd.prog) W 22 5 i0 (.int .u8 0) Tryd.underlying22 hi hz0 .i64 .i64 (n : Int) (n : Int) (by omega) (by omega) (by rw [hz2]; omega) (by omega)
    simpa using h
  · have h := run_convert_bytes_back (P := Tryd.prog) W 22 9 5 ⟨B, 0, none⟩ n (List.replicate n (0 : UInt8)) Tryd.underlying22 Tryd.underlying5 Tryd.underlying9 (fun j hj => by
      rw [List.length_replicate] at hj
      rw [add_addr, Nat.zero_add, cell_of_row _ B j _ 5 (0, 0) hW, hz1, Nat.mul_one, ← Array.getElem?_toList, show (Value.int .u8 0).cells = #[.int .u8 0] from rfl, toList_madeCells_one]
      simp [hj])
    rw [List.length_replicate] at h
    exact h
set_option maxHeartbeats 4000000 in
theorem drawPutText_any (v : Value) (bs : List Int) (w : World) (h : ReadsB w v bs) (hl : bs.length ≤ 1048576) :
    Calls Tryd.prog 8 #[v] w fun e w' => (∃ t : ByteArray, e = .returned (.string t) ∧ t.size ≤ 100000) ∧ Below w.heap.size w w' := by
  have HV := hide h
  clear h
  go_enter Tryd.func8, Tryd.ntmps8
  go_wp2_with fail
  refine (source_any v bs w HV.out hl).mono ?_
  rintro e w1 ⟨rfl, hs1, hb1⟩
  have HB1 := hide hb1
  have HS1 := hide hs1
  clear hs1 hb1
  obtain ⟨g, hg⟩ : ∃ g, g = w.heap.size := ⟨_, rfl⟩
  rw [← hg] at HS1 ⊢
  have HG := hide (show w.heap.size ≤ g by omega)
  clear hg
  go_wp2_with fail
  refine (one_any v bs g 8 _ HS1.out (by omega) hl).mono ?_
  rintro e w2 ⟨⟨b, rfl⟩, hs2, hk2⟩
  have HS2 := hide hs2
  have HK2 := hide hk2
  clear hs2 hk2
  cases b
  · go_wp2_with fail
    refine (n_any v bs g 20 _ HS2.out (by omega) hl).mono ?_
    rintro e w3 ⟨⟨r, rfl, hr0, hr1⟩, hs3, hk3⟩
    have HS3 := hide hs3
    have HK3 := hide (HK2.out.trans hk3)
    have hr2 : r ≤ 20 := by omega
    clear hs3 hk3 hr1
    go_wp2_with fail
    refine (bytes_any v bs g r _ HS3.out (by omega) hl).mono ?_
    rintro e w4 ⟨⟨t, rfl, ht1, _⟩, hs4, hk4⟩
    have HBE := hide ((HK3.out.trans hk4).toBelow HB1.out HB1.out.size (by have := HG.out; simp; omega))
    clear hs4 hk4
    go_wp2
    go_ret
    exact ⟨⟨t, rfl, ht1⟩, HBE.out⟩
  · go_wp2_with fail
    refine (n_any v bs g 3 _ HS2.out (by omega) hl).mono ?_
    rintro e w3 ⟨⟨r, rfl, hr0, hr1⟩, hs3, hk3⟩
    obtain ⟨n, rfl⟩ := Int.eq_ofNat_of_zero_le hr0
    have hn2 : n ≤ 2 := by omega
    have HB3 := hide ((HK2.out.trans hk3).toBelow HB1.out HB1.out.size (by have := HG.out; simp; omega))
    clear hs3 hk3 hr1 hr0
    obtain ⟨M, Z, hZ, hmk, hcv'⟩ := madeTextN (19999 + n) (19999 + (n : Int)) (by simp) (by omega)
    have hcv := fun W : World => hcv' (W.alloc (.cells M 5)) W.heap.size (heap_alloc_new W _)
    clear hcv'
    have HZ := hide hZ
    clear hZ
    have hw2 : IntKind.i64.wrap (19999 + (n : Int)) = 19999 + (n : Int) := by rw [IntKind.wrap_i64]; omega
    have HBE := hide (HB3.out.alloc HB3.out.size (.cells M 5))
    go_wp2
    go_ret
    exact ⟨⟨Z, rfl, by have := HZ.out; omega⟩, HBE.out⟩
set_option maxHeartbeats 4000000 in
theorem l01Any_any (v : Value) (bs : List Int) (g : Nat) (w : World) (h : Src v bs g w) (hl : bs.length ≤ 1048576) :
    Calls Tryd.prog 13 #[.pointer (some ⟨g, 0, none⟩)] w fun e w' => (∃ r : Int, e = .returned (.int .i64 r) ∧ -9223372036854775808 ≤ r ∧ r ≤ 9223372036854775807) ∧ Src v bs g w' ∧ Kept [g] w w' := by
  have HS := hide h
  clear h
  go_enter Tryd.func13, Tryd.ntmps13
  go_wp2_with fail
  refine (one_any v bs g 4 _ HS.out (by omega) hl).mono ?_
  rintro e w2 ⟨⟨b, rfl⟩, hs2, hk2⟩
  have HS2 := hide hs2
  have HK2 := hide hk2
  clear hs2 hk2
  cases b
  · go_wp2_with fail
    refine (n_any v bs g 1099511627776 _ HS2.out (by omega) hl).mono ?_
    rintro e w3 ⟨⟨r, rfl, hr0, hr1⟩, hs3, hk3⟩
    have HS3 := hide hs3
    have HK3 := hide (HK2.out.trans hk3)
    have hr2 : r ≤ 1099511627776 := by omega
    have hw : IntKind.i64.wrap (r - 1048576) = r - 1048576 := by rw [IntKind.wrap_i64]; omega
    clear hs3 hk3 hr1
    go_wp2
    go_ret
    exact ⟨⟨_, rfl, by omega, by omega⟩, HS3.out, HK3.out⟩
  · go_wp2_with fail
    refine (edge_any v bs g _ HS2.out hl).mono ?_
    rintro e w3 ⟨⟨r, rfl, hr0, hr1⟩, hs3, hk3⟩
    have HS3 := hide hs3
    have HK3 := hide (HK2.out.trans hk3)
    clear hs3 hk3
    go_wp2
    go_ret
    exact ⟨⟨_, rfl, hr0, hr1⟩, HS3.out, HK3.out⟩
theorem drawPutNum_any (v : Value) (bs : List Int) (w : World) (h : ReadsB w v bs) (hl : bs.length ≤ 1048576) :
    Calls Tryd.prog 4 #[v] w fun e w' => (∃ r : Int, e = .returned (.int .i64 r) ∧ -9223372036854775808 ≤ r ∧ r ≤ 9223372036854775807) ∧ Below w.heap.size w w' := by
  have HV := hide h
  clear h
  go_enter Tryd.func4, Tryd.ntmps4
  go_wp2_with fail
  refine (source_any v bs w HV.out hl).mono ?_
  rintro e w1 ⟨rfl, hs1, hb1⟩
  have HB1 := hide hb1
  have HS1 := hide hs1
  clear hs1 hb1
  obtain ⟨g, hg⟩ : ∃ g, g = w.heap.size := ⟨_, rfl⟩
  rw [← hg] at HS1 ⊢
  have HG := hide (show w.heap.size ≤ g by omega)
  clear hg
  go_wp2_with fail
  refine (l01Any_any v bs g _ HS1.out hl).mono ?_
  rintro e w2 ⟨⟨r, rfl, hr0, hr1⟩, _, hk2⟩
  have HBE := hide (hk2.toBelow HB1.out HB1.out.size (by have := HG.out; simp; omega))
  clear hk2
  go_wp2
  go_ret
  exact ⟨⟨r, rfl, hr0, hr1⟩, HBE.out⟩
end Go.Proofs.YtcnndiomljjmnaaDoor
