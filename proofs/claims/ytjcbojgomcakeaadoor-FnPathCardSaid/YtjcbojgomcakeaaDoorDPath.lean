/- Draws: a Path; a text to read one of. -/
import Derived.Test.YtjcbojgomcakeaaDoorDPick
import Derived.Test.YtjcbojgomcakeaaDoorPReadJ
import Derived.Deep.DeepCutAuto
namespace Go.Proofs.YtjcbojgomcakeaaDoor
open Go.RowKit
theorem kept_setRow (w : World) (g : Nat) (cs : Array Value) : Kept [g] w (w.setRow g cs) :=
  ⟨rfl, rfl, rfl, by rw [size_setRow]; exact Nat.le_refl _, fun k _ hn => setRow_other w g k cs (fun e => hn (by rw [e]; exact List.mem_singleton.2 rfl))⟩
theorem kept_through {g : Nat} {w z V : World} (h : Kept [g] w z) (k : Kept [w.heap.size] z V) : Kept [g] w V :=
  ⟨k.os.trans h.os, k.tape.trans h.tape, k.output.trans h.output, Nat.le_trans h.size k.size, fun i hi hn => (k.block i (Nat.lt_of_lt_of_le hi h.size) (by simp; omega)).trans (h.block i hi hn)⟩
theorem size_of_mem {xs : List ByteArray} {t : ByteArray} (h : t ∈ xs) (hx : ∀ x ∈ xs, x.size ≤ 20) : t.size ≤ 20 := hx t h
set_option maxHeartbeats 8000000 in
set_option maxRecDepth 100000 in
theorem l05Path_any (v : Value) (bs : List Int) (g : Nat) (w : World) (h : Src v bs g w) (hl : bs.length ≤ 1048576) :
    Calls Tryd.prog 13 #[.pointer (some ⟨g, 0, none⟩)] w fun e w' => (∃ q : PathM, e = .returned q.v ∧ q.seg.size ≤ 20) ∧ Src v bs g w' ∧ Kept [g] w w' := by
  obtain ⟨W, hW⟩ : ∃ W, W = (w.alloc (.cells #[.string ⟨#[]⟩, .int .i64 0, .int .i64 0, .int .i64 0, .int .i64 0, .int .i64 0] 24)).alloc (.cells #[.string ⟨#[77, 83, 72]⟩, .string ⟨#[80, 73, 68]⟩, .string ⟨#[79, 66, 88]⟩, .string ⟨#[90, 90, 49]⟩] 9) := ⟨_, rfl⟩
  have hB0 : Below w.heap.size w W := by rw [hW]; exact ((Below.refl _ _).alloc (Nat.le_refl _) _).alloc (by simp) _
  have HS0 := hide (h.below hB0)
  have HG := hide h.lt
  have HVL := hide (show ∀ x ∈ Go.Proofs.YtjcbojgomcakeaaDoor.leads v, x < w.heap.size from h.leads)
  have HK0 := hide ((Kept.refl [g] w).below hB0)
  have HA0 : Hid (Row W w.heap.size 24 [.string ⟨#[]⟩, .int .i64 0, .int .i64 0, .int .i64 0, .int .i64 0, .int .i64 0]) := by rw [hW]; exact (row_new w _ 24).alloc _
  have HL0 : Hid (Row W (w.heap.size + 1) 9 (([⟨#[77, 83, 72]⟩, ⟨#[80, 73, 68]⟩, ⟨#[79, 66, 88]⟩, ⟨#[90, 90, 49]⟩] : List ByteArray).map Value.string)) := by
    rw [hW]
    have := row_new (w.alloc (.cells #[.string ⟨#[]⟩, .int .i64 0, .int .i64 0, .int .i64 0, .int .i64 0, .int .i64 0] 24)) [.string ⟨#[77, 83, 72]⟩, .string ⟨#[80, 73, 68]⟩, .string ⟨#[79, 66, 88]⟩, .string ⟨#[90, 90, 49]⟩] 9
    exact hide (by simpa using this)
  clear hB0 h
  go_enter Tryd.func13, Tryd.ntmps13
  go_wp2_with fail
  rw [← hW]
  clear hW
  refine (pick_any v bs g (w.heap.size + 1) 4 [⟨#[77, 83, 72]⟩, ⟨#[80, 73, 68]⟩, ⟨#[79, 66, 88]⟩, ⟨#[90, 90, 49]⟩] _ HS0.out hl HL0.out (by have := HG.out; omega) (by simp) (by simp)).mono ?_
  rintro e w1 ⟨⟨s, rfl, hsm⟩, hs1, hk1⟩
  have HSZ := hide (show s.size ≤ 20 from size_of_mem hsm (by decide))
  have HS1 := hide hs1
  have HK1 := hide (HK0.out.trans hk1)
  have HA1 := hide (hk1.row HA0.out (by have := HG.out; simp; omega))
  clear hs1 hk1 hsm
  go_wp2_with fail
  refine (n_any v bs g 3 _ HS1.out (by omega) hl).mono ?_
  rintro e w2 ⟨⟨ra, rfl, hra0, hra1⟩, hs2, hk2⟩
  have HS2 := hide hs2
  have HK2 := hide (HK1.out.trans hk2)
  have HA2 := hide (hk2.row HA1.out (by have := HG.out; simp; omega))
  clear hs2 hk2
  go_wp2_with fail
  refine (n_any v bs g 4 _ HS2.out (by omega) hl).mono ?_
  rintro e w3 ⟨⟨rb, rfl, hrb0, hrb1⟩, hs3, hk3⟩
  have HS3 := hide hs3
  have HK3 := hide (HK2.out.trans hk3)
  have HA3 := hide (hk3.row HA2.out (by have := HG.out; simp; omega))
  clear hs3 hk3
  go_wp2_with fail
  refine (n_any v bs g 3 _ HS3.out (by omega) hl).mono ?_
  rintro e w4 ⟨⟨rc, rfl, hrc0, hrc1⟩, hs4, hk4⟩
  have HS4 := hide hs4
  have HK4 := hide (HK3.out.trans hk4)
  have HA4 := hide (hk4.row HA3.out (by have := HG.out; simp; omega))
  clear hs4 hk4
  have wa : IntKind.i64.wrap (1 + ra) = 1 + ra := by rw [IntKind.wrap_i64]; omega
  have wb : IntKind.i64.wrap (1 + rb) = 1 + rb := by rw [IntKind.wrap_i64]; omega
  have wc : IntKind.i64.wrap (1 + rc) = 1 + rc := by rw [IntKind.wrap_i64]; omega
  obtain ⟨X, hX⟩ : ∃ X, X = w4.alloc (.cells #[.string s, .int .i64 1, .int .i64 0, .int .i64 (1 + ra), .int .i64 (1 + rb), .int .i64 (1 + rc)] 24) := ⟨_, rfl⟩
  have hxb : Below w4.heap.size w4 X := by rw [hX]; exact (Below.refl _ _).alloc (Nat.le_refl _) _
  have HSX := hide (HS4.out.below hxb)
  have HKX := hide (HK4.out.below hxb)
  have HAX := hide (HA4.out.below hxb HA4.out.lt)
  have HPX : Hid (Row X w4.heap.size 24 [.string s, .int .i64 1, .int .i64 0, .int .i64 (1 + ra), .int .i64 (1 + rb), .int .i64 (1 + rc)]) := by rw [hX]; exact row_new w4 _ 24
  have HWP := hide (show w.heap.size < w4.heap.size from HA4.out.lt)
  clear hxb
  go_wp2_with fail
  rw [← hX]
  clear hX
  generalize hPP : w4.heap.size = P at *
  clear hPP
  refine (shift_any s _).mono ?_
  rintro e w5 ⟨rfl, rfl⟩
  have hsh : shiftB s = 1 ∨ shiftB s = 3 := by unfold shiftB; split <;> simp
  generalize shiftB s = SH at *
  go_wp2_with fail
  refine (n_any v bs g 6 _ HSX.out (by omega) hl).mono ?_
  rintro e w6 ⟨⟨rd, rfl, hd0, hd1⟩, hs6, hk6⟩
  have wd : IntKind.i64.wrap (SH + rd) = SH + rd := by rw [IntKind.wrap_i64]; omega
  have HNP := hide (show P ∉ [g] by have := HG.out; have := HWP.out; simp; omega)
  have HNA := hide (show w.heap.size ∉ [g] by have := HG.out; simp; omega)
  have HPa := hide (hk6.row HPX.out HNP.out)
  have p0 := HPa.out.cell 2
  have p1 := HPa.out.free 2
  have HP6 : Hid (Row (w6.setCell ⟨P, 2, none⟩ (.int .i64 (SH + rd))) P 24 [.string s, .int .i64 1, .int .i64 (SH + rd), .int .i64 (1 + ra), .int .i64 (1 + rb), .int .i64 (1 + rc)]) := HPa.out.set (j := 2) (.int .i64 (SH + rd))
  have HAa := hide (Row.other (w := w6) (b := P) (j := 2) (hk6.row HAX.out HNA.out) (by have := HWP.out; omega) (.int .i64 (SH + rd)))
  have HKa := hide ((HKX.out.trans hk6).setNew (G := P) (j := 2) (by have := HWP.out; omega) (.int .i64 (SH + rd)))
  have HSa : Hid (Src v bs g (w6.setCell ⟨P, 2, none⟩ (.int .i64 (SH + rd)))) := hs6.kept (Kept.ofSet _ _ _ _) (by have := HG.out; have := HWP.out; simp; omega) (fun x hx => by have h2 := HVL.out x hx; have := HWP.out; simp; omega)
  clear hs6 hk6
  obtain ⟨Y, hY⟩ : ∃ Y, Y = w6.setCell ⟨P, 2, none⟩ (.int .i64 (SH + rd)) := ⟨_, rfl⟩
  go_wp2_with fail
  rw [← hY] at HP6 HAa HKa HSa ⊢
  clear hY p0 p1
  refine (one_any v bs g 4 _ HSa.out (by omega) hl).mono ?_
  rintro e w7 ⟨⟨b1, rfl⟩, hs7, hk7⟩
  have HS7 := hide hs7
  have HK7 := hide (HKa.out.trans hk7)
  have HP7 := hide (hk7.row HP6.out HNP.out)
  have HA7 := hide (hk7.row HAa.out HNA.out)
  clear hs7 hk7
  go_upto_if 25 with fail
  go_cut [] (fun wz => ∃ (wx : World) (s' : ByteArray) (n' f' r' c' b' : Int), wx = wz ∧ Hid (s'.size ≤ 20) ∧ Hid (Row wx P 24 [.string s', .int .i64 n', .int .i64 f', .int .i64 r', .int .i64 c', .int .i64 b']) ∧ Hid (Row wx w.heap.size 24 [.string ⟨#[]⟩, .int .i64 0, .int .i64 0, .int .i64 0, .int .i64 0, .int .i64 0]) ∧ Hid (Src v bs g wx) ∧ Hid (Kept [g] w wx))
  case first =>
    cases b1
    · go_wp2_with fail
      go_meet
      exact ⟨_, s, 1, SH + rd, 1 + ra, 1 + rb, 1 + rc, rfl, HSZ, HP7, HA7, HS7, HK7⟩
    · have q0 := HP7.out.cell 1
      have q1 := HP7.out.free 1
      have HP8 : Hid (Row (w7.setCell ⟨P, 1, none⟩ (.int .i64 2)) P 24 [.string s, .int .i64 2, .int .i64 (SH + rd), .int .i64 (1 + ra), .int .i64 (1 + rb), .int .i64 (1 + rc)]) := HP7.out.set (j := 1) (.int .i64 2)
      have HA8 := hide (Row.other (w := w7) (b := P) (j := 1) HA7.out (by have := HWP.out; omega) (.int .i64 2))
      have HK8 := hide (HK7.out.setNew (G := P) (j := 1) (by have := HWP.out; omega) (.int .i64 2))
      have HS8 : Hid (Src v bs g (w7.setCell ⟨P, 1, none⟩ (.int .i64 2))) := HS7.out.kept (Kept.ofSet _ _ _ _) (by have := HG.out; have := HWP.out; simp; omega) (fun x hx => by have h2 := HVL.out x hx; have := HWP.out; simp; omega)
      go_wp2_with fail
      go_meet
      exact ⟨_, s, 2, SH + rd, 1 + ra, 1 + rb, 1 + rc, rfl, HSZ, HP8, HA8, HS8, HK8⟩
  case rest =>
    obtain ⟨y, s1, n1, f1, r1, c1, b1, rfl, HSZ1, HPy, HAy, HSy, HKy⟩ := hcut
    go_wp2_with fail
    refine (one_any v bs g 15 _ HSy.out (by omega) hl).mono ?_
    rintro e w8 ⟨⟨b2, rfl⟩, hs8, hk8⟩
    have HS8 := hide hs8
    have HK8 := hide (HKy.out.trans hk8)
    have HP8 := hide (hk8.row HPy.out HNP.out)
    have HA8 := hide (hk8.row HAy.out HNA.out)
    clear hs8 hk8
    go_upto_if 28 with fail
    go_cut [] (fun wz => ∃ (wx : World) (s' : ByteArray) (n' f' r' c' b' : Int), wx = wz ∧ Hid (s'.size ≤ 20) ∧ Hid (Row wx P 24 [.string s', .int .i64 n', .int .i64 f', .int .i64 r', .int .i64 c', .int .i64 b']) ∧ Hid (Row wx w.heap.size 24 [.string ⟨#[]⟩, .int .i64 0, .int .i64 0, .int .i64 0, .int .i64 0, .int .i64 0]) ∧ Hid (Src v bs g wx) ∧ Hid (Kept [g] w wx))
    case first =>
      cases b2
      · go_wp2_with fail
        go_meet
        exact ⟨_, s1, n1, f1, r1, c1, b1, rfl, HSZ1, HP8, HA8, HS8, HK8⟩
      · go_wp2_with fail
        refine (n_any v bs g 4 _ HS8.out (by omega) hl).mono ?_
        rintro e w9 ⟨⟨rr, rfl, hrr0, hrr1⟩, hs9, hk9⟩
        have HS9 := hide hs9
        have HK9 := hide (HK8.out.trans hk9)
        have HP9 := hide (hk9.row HP8.out HNP.out)
        have HA9 := hide (hk9.row HA8.out HNA.out)
        clear hs9 hk9
        by_cases hr : rr = 0
        · have t0 : (rr == (0 : Int)) = true := by simp [hr]
          clear hr
          obtain ⟨L, hL⟩ : ∃ L, L = w9.alloc (.cells #[.string ⟨#[]⟩, .string ⟨#[112, 105, 100]⟩, .string ⟨#[65, 66, 67, 68]⟩] 9) := ⟨_, rfl⟩
          have hlb : Below w9.heap.size w9 L := by rw [hL]; exact (Below.refl _ _).alloc (Nat.le_refl _) _
          have HSl := hide (HS9.out.below hlb)
          have HKl := hide (HK9.out.below hlb)
          have HPl := hide (HP9.out.below hlb HP9.out.lt)
          have HAl := hide (HA9.out.below hlb HA9.out.lt)
          have HLR : Hid (Row L w9.heap.size 9 [.string ⟨#[]⟩, .string ⟨#[112, 105, 100]⟩, .string ⟨#[65, 66, 67, 68]⟩]) := by rw [hL]; exact row_new w9 _ 9
          have HGN := hide (show w9.heap.size ≠ g by have h1 := HA9.out.lt; have h2 := HG.out; omega)
          clear hlb
          go_wp2_with fail
          rw [← hL]
          clear hL
          generalize w9.heap.size = LB at *
          refine (pick_any v bs g LB 3 [⟨#[]⟩, ⟨#[112, 105, 100]⟩, ⟨#[65, 66, 67, 68]⟩] _ HSl.out hl HLR.out HGN.out (by simp) (by simp)).mono ?_
          rintro e wb ⟨⟨s3, rfl, hsm⟩, hsb, hkb⟩
          have HSZ3 := hide (show s3.size ≤ 20 from size_of_mem hsm (by decide))
          have HSb := hide hsb
          have HKb := hide (HKl.out.trans hkb)
          have HPb := hide (hkb.row HPl.out HNP.out)
          have HAb := hide (hkb.row HAl.out HNA.out)
          clear hsb hkb hsm
          have q0 := HPb.out.cell 0
          have q1 := HPb.out.free 0
          have HPc : Hid (Row (wb.setCell ⟨P, 0, none⟩ (.string s3)) P 24 [.string s3, .int .i64 n1, .int .i64 f1, .int .i64 r1, .int .i64 c1, .int .i64 b1]) := HPb.out.set (j := 0) (.string s3)
          have HAc := hide (Row.other (w := wb) (b := P) (j := 0) HAb.out (by have := HWP.out; omega) (.string s3))
          have HKc := hide (HKb.out.setNew (G := P) (j := 0) (by have := HWP.out; omega) (.string s3))
          have HSc : Hid (Src v bs g (wb.setCell ⟨P, 0, none⟩ (.string s3))) := HSb.out.kept (Kept.ofSet _ _ _ _) (by have := HG.out; have := HWP.out; simp; omega) (fun x hx => by have h2 := HVL.out x hx; have := HWP.out; simp; omega)
          go_wp2_with fail
          go_meet
          exact ⟨_, s3, n1, f1, r1, c1, b1, rfl, HSZ3, HPc, HAc, HSc, HKc⟩
        by_cases hr1 : rr = 1
        · have t0 : (rr == (0 : Int)) = false := by simpa using hr
          have t1 : (rr == (1 : Int)) = true := by simp [hr1]
          clear hr hr1
          obtain ⟨L, hL⟩ : ∃ L, L = w9.alloc (.cells #[.int .i64 0, .int .i64 2, .int .i64 30, .int .i64 31, .int .i64 32, .int .i64 33] 2) := ⟨_, rfl⟩
          have hlb : Below w9.heap.size w9 L := by rw [hL]; exact (Below.refl _ _).alloc (Nat.le_refl _) _
          have HSl := hide (HS9.out.below hlb)
          have HKl := hide (HK9.out.below hlb)
          have HPl := hide (HP9.out.below hlb HP9.out.lt)
          have HAl := hide (HA9.out.below hlb HA9.out.lt)
          have HLR : Hid (Row L w9.heap.size 2 [.int .i64 0, .int .i64 2, .int .i64 30, .int .i64 31, .int .i64 32, .int .i64 33]) := by rw [hL]; exact row_new w9 _ 2
          have HGN := hide (show w9.heap.size ≠ g by have h1 := HA9.out.lt; have h2 := HG.out; omega)
          clear hlb
          go_wp2_with fail
          rw [← hL]
          clear hL
          generalize w9.heap.size = LB at *
          refine (n_any v bs g 6 _ HSl.out (by omega) hl).mono ?_
          rintro e wb ⟨⟨ri, rfl, hi0, hi1⟩, hsb, hkb⟩
          obtain ⟨k, rfl⟩ := Int.eq_ofNat_of_zero_le hi0
          have hk : k < 6 := by omega
          have HSb := hide hsb
          have HKb := hide (HKl.out.trans hkb)
          have HPb := hide (hkb.row HPl.out HNP.out)
          have HAb := hide (hkb.row HAl.out HNA.out)
          have HLb := hide (hkb.row HLR.out (by simp; exact HGN.out))
          clear hsb hkb hi0 hi1
          obtain ⟨zi, hzi⟩ : ∃ zi : Int, wb.cell? ⟨LB, k, none⟩ = some (.int .i64 zi) := by
            rw [HLb.out.cell k]
            match k, hk with
            | 0, _ => exact ⟨_, rfl⟩
            | 1, _ => exact ⟨_, rfl⟩
            | 2, _ => exact ⟨_, rfl⟩
            | 3, _ => exact ⟨_, rfl⟩
            | 4, _ => exact ⟨_, rfl⟩
            | 5, _ => exact ⟨_, rfl⟩
          have hkI : ¬ ((6 : Int) ≤ (k : Int)) := by omega
          have q0 := HPb.out.cell 2
          have q1 := HPb.out.free 2
          have HPc : Hid (Row (wb.setCell ⟨P, 2, none⟩ (.int .i64 zi)) P 24 [.string s1, .int .i64 n1, .int .i64 zi, .int .i64 r1, .int .i64 c1, .int .i64 b1]) := HPb.out.set (j := 2) (.int .i64 zi)
          have HAc := hide (Row.other (w := wb) (b := P) (j := 2) HAb.out (by have := HWP.out; omega) (.int .i64 zi))
          have HKc := hide (HKb.out.setNew (G := P) (j := 2) (by have := HWP.out; omega) (.int .i64 zi))
          have HSc : Hid (Src v bs g (wb.setCell ⟨P, 2, none⟩ (.int .i64 zi))) := HSb.out.kept (Kept.ofSet _ _ _ _) (by have := HG.out; have := HWP.out; simp; omega) (fun x hx => by have h2 := HVL.out x hx; have := HWP.out; simp; omega)
          go_wp2_with fail
          go_meet
          exact ⟨_, s1, n1, zi, r1, c1, b1, rfl, HSZ1, HPc, HAc, HSc, HKc⟩
        by_cases hr2 : rr = 2
        · have t0 : (rr == (0 : Int)) = false := by simpa using hr
          have t1 : (rr == (1 : Int)) = false := by simpa using hr1
          have t2 : (rr == (2 : Int)) = true := by simp [hr2]
          clear hr hr1 hr2
          obtain ⟨L, hL⟩ : ∃ L, L = w9.alloc (.cells #[.int .i64 0, .int .i64 6, .int .i64 20, .int .i64 21] 2) := ⟨_, rfl⟩
          have hlb : Below w9.heap.size w9 L := by rw [hL]; exact (Below.refl _ _).alloc (Nat.le_refl _) _
          have HSl := hide (HS9.out.below hlb)
          have HKl := hide (HK9.out.below hlb)
          have HPl := hide (HP9.out.below hlb HP9.out.lt)
          have HAl := hide (HA9.out.below hlb HA9.out.lt)
          have HLR : Hid (Row L w9.heap.size 2 [.int .i64 0, .int .i64 6, .int .i64 20, .int .i64 21]) := by rw [hL]; exact row_new w9 _ 2
          have HGN := hide (show w9.heap.size ≠ g by have h1 := HA9.out.lt; have h2 := HG.out; omega)
          clear hlb
          go_wp2_with fail
          rw [← hL]
          clear hL
          generalize w9.heap.size = LB at *
          refine (n_any v bs g 4 _ HSl.out (by omega) hl).mono ?_
          rintro e wb ⟨⟨ri, rfl, hi0, hi1⟩, hsb, hkb⟩
          obtain ⟨k, rfl⟩ := Int.eq_ofNat_of_zero_le hi0
          have hk : k < 4 := by omega
          have HSb := hide hsb
          have HKb := hide (HKl.out.trans hkb)
          have HPb := hide (hkb.row HPl.out HNP.out)
          have HAb := hide (hkb.row HAl.out HNA.out)
          have HLb := hide (hkb.row HLR.out (by simp; exact HGN.out))
          clear hsb hkb hi0 hi1
          obtain ⟨zi, hzi⟩ : ∃ zi : Int, wb.cell? ⟨LB, k, none⟩ = some (.int .i64 zi) := by
            rw [HLb.out.cell k]
            match k, hk with
            | 0, _ => exact ⟨_, rfl⟩
            | 1, _ => exact ⟨_, rfl⟩
            | 2, _ => exact ⟨_, rfl⟩
            | 3, _ => exact ⟨_, rfl⟩
          have hkI : ¬ ((4 : Int) ≤ (k : Int)) := by omega
          have q0 := HPb.out.cell 3
          have q1 := HPb.out.free 3
          have HPc : Hid (Row (wb.setCell ⟨P, 3, none⟩ (.int .i64 zi)) P 24 [.string s1, .int .i64 n1, .int .i64 f1, .int .i64 zi, .int .i64 c1, .int .i64 b1]) := HPb.out.set (j := 3) (.int .i64 zi)
          have HAc := hide (Row.other (w := wb) (b := P) (j := 3) HAb.out (by have := HWP.out; omega) (.int .i64 zi))
          have HKc := hide (HKb.out.setNew (G := P) (j := 3) (by have := HWP.out; omega) (.int .i64 zi))
          have HSc : Hid (Src v bs g (wb.setCell ⟨P, 3, none⟩ (.int .i64 zi))) := HSb.out.kept (Kept.ofSet _ _ _ _) (by have := HG.out; have := HWP.out; simp; omega) (fun x hx => by have h2 := HVL.out x hx; have := HWP.out; simp; omega)
          go_wp2_with fail
          go_meet
          exact ⟨_, s1, n1, f1, zi, c1, b1, rfl, HSZ1, HPc, HAc, HSc, HKc⟩
        have t0 : (rr == (0 : Int)) = false := by simpa using hr
        have t1 : (rr == (1 : Int)) = false := by simpa using hr1
        have t2 : (rr == (2 : Int)) = false := by simpa using hr2
        clear hr hr1 hr2
        obtain ⟨L, hL⟩ : ∃ L, L = w9.alloc (.cells #[.int .i64 0, .int .i64 10, .int .i64 11, .int .i64 20, .int .i64 21] 2) := ⟨_, rfl⟩
        have hlb : Below w9.heap.size w9 L := by rw [hL]; exact (Below.refl _ _).alloc (Nat.le_refl _) _
        have HSl := hide (HS9.out.below hlb)
        have HKl := hide (HK9.out.below hlb)
        have HPl := hide (HP9.out.below hlb HP9.out.lt)
        have HAl := hide (HA9.out.below hlb HA9.out.lt)
        have HLR : Hid (Row L w9.heap.size 2 [.int .i64 0, .int .i64 10, .int .i64 11, .int .i64 20, .int .i64 21]) := by rw [hL]; exact row_new w9 _ 2
        have HGN := hide (show w9.heap.size ≠ g by have h1 := HA9.out.lt; have h2 := HG.out; omega)
        clear hlb
        go_wp2_with fail
        rw [← hL]
        clear hL
        generalize w9.heap.size = LB at *
        refine (n_any v bs g 5 _ HSl.out (by omega) hl).mono ?_
        rintro e wb ⟨⟨ri, rfl, hi0, hi1⟩, hsb, hkb⟩
        obtain ⟨k, rfl⟩ := Int.eq_ofNat_of_zero_le hi0
        have hk : k < 5 := by omega
        have HSb := hide hsb
        have HKb := hide (HKl.out.trans hkb)
        have HPb := hide (hkb.row HPl.out HNP.out)
        have HAb := hide (hkb.row HAl.out HNA.out)
        have HLb := hide (hkb.row HLR.out (by simp; exact HGN.out))
        clear hsb hkb hi0 hi1
        obtain ⟨zi, hzi⟩ : ∃ zi : Int, wb.cell? ⟨LB, k, none⟩ = some (.int .i64 zi) := by
          rw [HLb.out.cell k]
          match k, hk with
          | 0, _ => exact ⟨_, rfl⟩
          | 1, _ => exact ⟨_, rfl⟩
          | 2, _ => exact ⟨_, rfl⟩
          | 3, _ => exact ⟨_, rfl⟩
          | 4, _ => exact ⟨_, rfl⟩
        have hkI : ¬ ((5 : Int) ≤ (k : Int)) := by omega
        have q0 := HPb.out.cell 4
        have q1 := HPb.out.free 4
        have HPc : Hid (Row (wb.setCell ⟨P, 4, none⟩ (.int .i64 zi)) P 24 [.string s1, .int .i64 n1, .int .i64 f1, .int .i64 r1, .int .i64 zi, .int .i64 b1]) := HPb.out.set (j := 4) (.int .i64 zi)
        have HAc := hide (Row.other (w := wb) (b := P) (j := 4) HAb.out (by have := HWP.out; omega) (.int .i64 zi))
        have HKc := hide (HKb.out.setNew (G := P) (j := 4) (by have := HWP.out; omega) (.int .i64 zi))
        have HSc : Hid (Src v bs g (wb.setCell ⟨P, 4, none⟩ (.int .i64 zi))) := HSb.out.kept (Kept.ofSet _ _ _ _) (by have := HG.out; have := HWP.out; simp; omega) (fun x hx => by have h2 := HVL.out x hx; have := HWP.out; simp; omega)
        go_wp2_with fail
        go_meet
        exact ⟨_, s1, n1, f1, r1, zi, b1, rfl, HSZ1, HPc, HAc, HSc, HKc⟩
    case rest =>
      obtain ⟨z, s2, n2, f2, r2, c2, b2, rfl, HSZ2, HPz, HAz, HSz, HKz⟩ := hcut
      have z0 : z.cell? ⟨P, 0, none⟩ = some (.string s2) := HPz.out.cell 0
      have z1 : z.cell? ⟨P, 1, none⟩ = some (.int .i64 n2) := HPz.out.cell 1
      have z2 : z.cell? ⟨P, 2, none⟩ = some (.int .i64 f2) := HPz.out.cell 2
      have z3 : z.cell? ⟨P, 3, none⟩ = some (.int .i64 r2) := HPz.out.cell 3
      have z4 : z.cell? ⟨P, 4, none⟩ = some (.int .i64 c2) := HPz.out.cell 4
      have z5 : z.cell? ⟨P, 5, none⟩ = some (.int .i64 b2) := HPz.out.cell 5
      have HF : Hid (Row (z.setRow w.heap.size #[.string s2, .int .i64 n2, .int .i64 f2, .int .i64 r2, .int .i64 c2, .int .i64 b2]) w.heap.size 24 [.string s2, .int .i64 n2, .int .i64 f2, .int .i64 r2, .int .i64 c2, .int .i64 b2]) := setRow_heap _ _ _ _ 24 (0, 0) HAz.out
      have HKF := hide (show Kept [w.heap.size] z (z.setRow w.heap.size #[.string s2, .int .i64 n2, .int .i64 f2, .int .i64 r2, .int .i64 c2, .int .i64 b2]) from kept_setRow _ _ _)
      go_wp2_with (refine wpList_store_row rfl 24 _ _ rfl w.heap.size #[.string s2, .int .i64 n2, .int .i64 f2, .int .i64 r2, .int .i64 c2, .int .i64 b2] rfl rfl 24 _ HAz.out (by kernel_rfl) rfl (by first | kernel_rfl | simp [Value.oneCell']) ?_)
      obtain ⟨V, hV⟩ : ∃ V, V = z.setRow w.heap.size #[.string s2, .int .i64 n2, .int .i64 f2, .int .i64 r2, .int .i64 c2, .int .i64 b2] := ⟨_, rfl⟩
      rw [← hV] at HF HKF ⊢
      clear hV
      have u0 : V.cell? ⟨w.heap.size, 0, none⟩ = some (.string s2) := HF.out.cell 0
      have u1 : V.cell? ⟨w.heap.size, 1, none⟩ = some (.int .i64 n2) := HF.out.cell 1
      have u2 : V.cell? ⟨w.heap.size, 2, none⟩ = some (.int .i64 f2) := HF.out.cell 2
      have u3 : V.cell? ⟨w.heap.size, 3, none⟩ = some (.int .i64 r2) := HF.out.cell 3
      have u4 : V.cell? ⟨w.heap.size, 4, none⟩ = some (.int .i64 c2) := HF.out.cell 4
      have u5 : V.cell? ⟨w.heap.size, 5, none⟩ = some (.int .i64 b2) := HF.out.cell 5
      exact bodyPost_ret (v := (PathM.mk s2 n2 f2 r2 c2 b2).v) (by simp [results, Tryd.results13, go_sem, PathM.v, u0, u1, u2, u3, u4, u5]) rfl ⟨⟨⟨s2, n2, f2, r2, c2, b2⟩, rfl, HSZ2.out⟩, HSz.out.kept HKF.out (by have := HG.out; simp; omega) (fun x hx => by have h2 := HVL.out x hx; simp; omega), kept_through HKz.out HKF.out⟩
end Go.Proofs.YtjcbojgomcakeaaDoor
