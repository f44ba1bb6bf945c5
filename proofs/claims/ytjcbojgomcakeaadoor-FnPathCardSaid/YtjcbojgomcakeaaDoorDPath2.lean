/- Draws: DrawPathText, DrawPathRead. -/
import Derived.Test.YtjcbojgomcakeaaDoorDPath
namespace Go.Proofs.YtjcbojgomcakeaaDoor
open Go.RowKit
theorem pathT_small (q : PathM) : (pathT q).size ≤ 1000 := by
  cases hq : q.right
  · simp [pathT, hq, ByteArray.size]
  · obtain ⟨s, n, f, r, c, b, rfl, hs, hn, hf, hr, hc, hb⟩ := right_nats hq
    have h1 := optL_len [91] n [93] (by simp) (by simp) hn.2
    have h2 := digs_len f hf.2
    have h3 := optL_len [40] r [41] (by simp) (by simp) hr.2
    have h4 := compL_len c b hc.2 hb.2
    have hl : s.data.toList.length = 3 := by rw [← hs]; exact (Lib.size_eq s).symm
    rw [Lib.size_eq]
    simp only [pathT, hq, if_true, Int.toNat_natCast, pathL, List.length_append, hl, List.length_cons, List.length_nil]
    omega
set_option maxHeartbeats 2000000 in
theorem drawPathText_any (v : Value) (bs : List Int) (w : World) (h : ReadsB w v bs) (hl : bs.length ≤ 1048576) :
    Calls Tryd.prog 4 #[v] w fun e w' => (∃ q : PathM, e = .returned q.v ∧ q.seg.size ≤ 20) ∧ Below w.heap.size w w' := by
  obtain ⟨W, hW⟩ : ∃ W, W = w.alloc (.cells #[.string ⟨#[]⟩, .int .i64 0, .int .i64 0, .int .i64 0, .int .i64 0, .int .i64 0] 24) := ⟨_, rfl⟩
  have hb0 : Below w.heap.size w W := by rw [hW]; exact (Below.refl _ _).alloc (Nat.le_refl _) _
  have HB0 := hide hb0
  have HA0 : Hid (Row W w.heap.size 24 [.string ⟨#[]⟩, .int .i64 0, .int .i64 0, .int .i64 0, .int .i64 0, .int .i64 0]) := by rw [hW]; exact row_new w _ 24
  have HV := hide (h.below hb0 (Nat.le_refl _))
  clear hb0 h
  go_enter Tryd.func4, Tryd.ntmps4
  go_wp2_with fail
  rw [← hW]
  clear hW
  refine (source_any v bs W HV.out hl).mono ?_
  rintro e w1 ⟨rfl, hs1, hb1⟩
  have HB1 := hide (HB0.out.trans (hb1.mono HB0.out.size))
  have HA1 := hide (HA0.out.below hb1 HA0.out.lt)
  have HS1 := hide hs1
  have HG := hide (show w.heap.size < W.heap.size from HA0.out.lt)
  clear hs1 hb1
  generalize W.heap.size = g at *
  go_wp2_with fail
  refine (l05Path_any v bs g _ HS1.out hl).mono ?_
  rintro e w2 ⟨⟨q, rfl, hq⟩, _, hk2⟩
  have HQ := hide hq
  have HB2 := hide (hk2.toBelow HB1.out HB1.out.size (by have := HG.out; simp; omega))
  have HA2 := hide (hk2.row HA1.out (by have := HG.out; simp; omega))
  clear hk2 hq
  have HVV : Hid (q.v = .agg #[.string q.seg, .int .i64 q.nth, .int .i64 q.fld, .int .i64 q.rep, .int .i64 q.comp, .int .i64 q.sub]) := rfl
  rw [HVV.out]
  have HF : Hid (Row (w2.setRow w.heap.size #[.string q.seg, .int .i64 q.nth, .int .i64 q.fld, .int .i64 q.rep, .int .i64 q.comp, .int .i64 q.sub]) w.heap.size 24 [.string q.seg, .int .i64 q.nth, .int .i64 q.fld, .int .i64 q.rep, .int .i64 q.comp, .int .i64 q.sub]) := setRow_heap _ _ _ _ 24 (0, 0) HA2.out
  have HBF := hide (below_setRow HB2.out (Nat.le_refl _) #[.string q.seg, .int .i64 q.nth, .int .i64 q.fld, .int .i64 q.rep, .int .i64 q.comp, .int .i64 q.sub])
  go_wp2_with (refine wpList_store_row rfl 24 _ _ rfl w.heap.size #[.string q.seg, .int .i64 q.nth, .int .i64 q.fld, .int .i64 q.rep, .int .i64 q.comp, .int .i64 q.sub] rfl rfl 24 _ HA2.out (by kernel_rfl) rfl (by first | kernel_rfl | simp [Value.oneCell']) ?_)
  obtain ⟨V, hV⟩ : ∃ V, V = w2.setRow w.heap.size #[.string q.seg, .int .i64 q.nth, .int .i64 q.fld, .int .i64 q.rep, .int .i64 q.comp, .int .i64 q.sub] := ⟨_, rfl⟩
  rw [← hV] at HF HBF ⊢
  clear hV
  have u0 : V.cell? ⟨w.heap.size, 0, none⟩ = some (.string q.seg) := HF.out.cell 0
  have u1 : V.cell? ⟨w.heap.size, 1, none⟩ = some (.int .i64 q.nth) := HF.out.cell 1
  have u2 : V.cell? ⟨w.heap.size, 2, none⟩ = some (.int .i64 q.fld) := HF.out.cell 2
  have u3 : V.cell? ⟨w.heap.size, 3, none⟩ = some (.int .i64 q.rep) := HF.out.cell 3
  have u4 : V.cell? ⟨w.heap.size, 4, none⟩ = some (.int .i64 q.comp) := HF.out.cell 4
  have u5 : V.cell? ⟨w.heap.size, 5, none⟩ = some (.int .i64 q.sub) := HF.out.cell 5
  exact bodyPost_ret (v := q.v) (by simp [results, Tryd.results4, go_sem, PathM.v, u0, u1, u2, u3, u4, u5]) rfl ⟨⟨q, rfl, HQ.out⟩, HBF.out⟩
set_option maxHeartbeats 4000000 in
set_option maxRecDepth 100000 in
theorem drawPathRead_any (v : Value) (bs : List Int) (w : World) (h : ReadsB w v bs) (hl : bs.length ≤ 1048576) :
    Calls Tryd.prog 6 #[v] w fun e w' => (∃ t : ByteArray, e = .returned (.string t) ∧ t.size ≤ 2000) ∧ Below w.heap.size w w' := by
  have HV := hide h
  clear h
  go_enter Tryd.func6, Tryd.ntmps6
  go_wp2_with fail
  refine (source_any v bs w HV.out hl).mono ?_
  rintro e w1 ⟨rfl, hs1, hb1⟩
  have HB1 := hide hb1
  have HS1 := hide hs1
  clear hs1 hb1
  obtain ⟨g, hg⟩ : ∃ g, g = w.heap.size := ⟨_, rfl⟩
  rw [← hg] at HS1 ⊢
  have HG := hide (show w.heap.size ≤ g by omega)
  clear hg
  go_wp2_with fail
  refine (l05Path_any v bs g _ HS1.out hl).mono ?_
  rintro e w2 ⟨⟨q, rfl, _⟩, hs2, hk2⟩
  have HB2 := hide (hk2.toBelow HB1.out HB1.out.size (by have := HG.out; simp; omega))
  have HS2 := hide hs2
  clear hs2 hk2
  go_wp2_with fail
  refine (specPathText_any q _).mono ?_
  rintro e w3 ⟨rfl, hb3⟩
  have HB3 := hide (HB2.out.trans (hb3.mono HB2.out.size))
  have HS3 := hide (HS2.out.below hb3)
  have hps := pathT_small q
  clear hb3
  generalize pathT q = t at *
  go_wp2_with fail
  refine (n_any v bs g 4 _ HS3.out (by omega) hl).mono ?_
  rintro e w4 ⟨⟨rr, rfl, hr0, hr1⟩, hs4, hk4⟩
  have HB4 := hide (hk4.toBelow HB3.out HB3.out.size (by have := HG.out; simp; omega))
  have HS4 := hide hs4
  clear hs4 hk4
  by_cases ha : rr = 0
  · have t0 : (rr == (0 : Int)) = true := by simp [ha]
    clear ha
    go_wp2_with fail
    refine (spoil_any v bs g t _ HS4.out hl (by omega)).mono ?_
    rintro e w5 ⟨⟨t', rfl, hts⟩, _, hk5⟩
    have HB5 := hide (hk5.toBelow HB4.out HB4.out.size (by have := HG.out; simp; omega))
    clear hk5
    go_wp2
    go_ret
    exact ⟨⟨t', rfl, by omega⟩, HB5.out⟩
  have t0 : (rr == (0 : Int)) = false := by simpa using ha
  by_cases hb : rr = 1
  · have t1 : (rr == (1 : Int)) = true := by simp [hb]
    clear ha hb
    obtain ⟨L, hL⟩ : ∃ L, L = w4.alloc (.cells #[.string ⟨#[]⟩, .string ⟨#[80, 73, 68]⟩, .string ⟨#[80, 73, 68, 45]⟩, .string ⟨#[80, 73, 68, 45, 48, 51]⟩, .string ⟨#[80, 73, 68, 91, 49, 93, 45, 51]⟩, .string ⟨#[80, 73, 68, 45, 51, 40, 49, 41]⟩, .string ⟨#[80, 73, 68, 45, 51, 46, 49]⟩, .string ⟨#[80, 73, 68, 45, 51, 46, 49, 46, 49]⟩, .string ⟨#[80, 73, 68, 45, 51, 46, 50]⟩, .string ⟨#[77, 83, 72, 45, 50]⟩] 9) := ⟨_, rfl⟩
    have hlb : Below w4.heap.size w4 L := by rw [hL]; exact (Below.refl _ _).alloc (Nat.le_refl _) _
    have HSl := hide (HS4.out.below hlb)
    have HBl := hide (HB4.out.trans (hlb.mono HB4.out.size))
    have HLR : Hid (Row L w4.heap.size 9 [.string ⟨#[]⟩, .string ⟨#[80, 73, 68]⟩, .string ⟨#[80, 73, 68, 45]⟩, .string ⟨#[80, 73, 68, 45, 48, 51]⟩, .string ⟨#[80, 73, 68, 91, 49, 93, 45, 51]⟩, .string ⟨#[80, 73, 68, 45, 51, 40, 49, 41]⟩, .string ⟨#[80, 73, 68, 45, 51, 46, 49]⟩, .string ⟨#[80, 73, 68, 45, 51, 46, 49, 46, 49]⟩, .string ⟨#[80, 73, 68, 45, 51, 46, 50]⟩, .string ⟨#[77, 83, 72, 45, 50]⟩]) := by rw [hL]; exact row_new w4 _ 9
    have HGN := hide (show w4.heap.size ≠ g by have h1 := HS4.out.lt; omega)
    clear hlb
    go_wp2_with fail
    rw [← hL]
    clear hL
    generalize w4.heap.size = LB at *
    refine (pick_any v bs g LB 10 [⟨#[]⟩, ⟨#[80, 73, 68]⟩, ⟨#[80, 73, 68, 45]⟩, ⟨#[80, 73, 68, 45, 48, 51]⟩, ⟨#[80, 73, 68, 91, 49, 93, 45, 51]⟩, ⟨#[80, 73, 68, 45, 51, 40, 49, 41]⟩, ⟨#[80, 73, 68, 45, 51, 46, 49]⟩, ⟨#[80, 73, 68, 45, 51, 46, 49, 46, 49]⟩, ⟨#[80, 73, 68, 45, 51, 46, 50]⟩, ⟨#[77, 83, 72, 45, 50]⟩] _ HSl.out hl HLR.out HGN.out (by simp) (by simp)).mono ?_
    rintro e w5 ⟨⟨t', rfl, htm⟩, _, hk5⟩
    have HSZ := hide (show t'.size ≤ 20 from size_of_mem htm (by decide))
    have HB5 := hide (hk5.toBelow HBl.out HBl.out.size (by have := HG.out; simp; omega))
    clear hk5 htm
    go_wp2
    go_ret
    exact ⟨⟨t', rfl, by have := HSZ.out; omega⟩, HB5.out⟩
  have t1 : (rr == (1 : Int)) = false := by simpa using hb
  clear ha hb
  go_wp2
  go_ret
  exact ⟨⟨t, rfl, by omega⟩, HB4.out⟩
end Go.Proofs.YtjcbojgomcakeaaDoor
