/- PathText of the program and of the model: both answer the same Lean function; the law. -/
import Derived.Test.YtjcbojgomcakeaaDoorPTextJ
import Derived.Test.YtjcbojgomcakeaaDoorPLaw
namespace Go.Proofs.YtjcbojgomcakeaaDoor
open Go.RowKit
def pathT (q : PathM) : ByteArray := if q.right then ⟨(pathL q.seg q.nth.toNat q.fld.toNat q.rep.toNat q.comp.toNat q.sub.toNat).toArray⟩ else ⟨#[]⟩
theorem name3_len {s : ByteArray} (h : name3 s = true) : s.size = 3 := by
  simp only [name3, Bool.and_eq_true, decide_eq_true_eq] at h
  exact h.1
/-- A right Path, its numbers as natural ones. -/
theorem right_nats {q : PathM} (h : q.right = true) : ∃ (s : ByteArray) (n f r c b : Nat), q = ⟨s, n, f, r, c, b⟩ ∧ s.size = 3 ∧ (n ≠ 0 ∧ n < 100) ∧ (f ≠ 0 ∧ f < 100) ∧ (r ≠ 0 ∧ r < 100) ∧ (c ≠ 0 ∧ c < 100) ∧ (b ≠ 0 ∧ b < 100) := by
  have h0 := h
  simp only [PathM.right, placeB, Bool.and_eq_true, decide_eq_true_eq] at h
  obtain ⟨⟨⟨⟨⟨hn, h1⟩, h2⟩, h3⟩, h4⟩, h5⟩ := h
  obtain ⟨s, n, f, r, c, b⟩ := q
  have hs : shiftB s = 1 ∨ shiftB s = 3 := by unfold shiftB; split <;> simp
  simp only at hn h1 h2 h3 h4 h5
  obtain ⟨n, rfl⟩ := Int.eq_ofNat_of_zero_le (show 0 ≤ n by omega)
  obtain ⟨f, rfl⟩ := Int.eq_ofNat_of_zero_le (show 0 ≤ f by omega)
  obtain ⟨r, rfl⟩ := Int.eq_ofNat_of_zero_le (show 0 ≤ r by omega)
  obtain ⟨c, rfl⟩ := Int.eq_ofNat_of_zero_le (show 0 ≤ c by omega)
  obtain ⟨b, rfl⟩ := Int.eq_ofNat_of_zero_le (show 0 ≤ b by omega)
  exact ⟨s, n, f, r, c, b, rfl, name3_len hn, by omega, by omega, by omega, by omega, by omega⟩
theorem ret_stringT {a b : ByteArray} (h : a = b) : Ending.returned (.string a) = Ending.returned (.string b) := by rw [h]
set_option maxHeartbeats 2000000 in
theorem implPathText_any (q : PathM) (w : World) :
    Calls Tryd.prog 5 #[q.v] w fun e w' => e = .returned (.string (pathT q)) ∧ Below w.heap.size w w' := by
  cases hq : q.right
  · have HE := hide (show pathT q = ⟨#[]⟩ by simp [pathT, hq])
    have HQ := hide hq
    clear hq
    have HV : Hid (q.v = .agg #[.string q.seg, .int .i64 q.nth, .int .i64 q.fld, .int .i64 q.rep, .int .i64 q.comp, .int .i64 q.sub]) := rfl
    have HB := hide (show Below w.heap.size w (w.alloc (.cells #[.string q.seg, .int .i64 q.nth, .int .i64 q.fld, .int .i64 q.rep, .int .i64 q.comp, .int .i64 q.sub] 24)) from (Below.refl _ _).alloc (Nat.le_refl _) _)
    rw [HV.out]
    go_enter Tryd.func5, Tryd.ntmps5
    go_wp2_with fail
    rw [← HV.out]
    refine (implPathRight_any q _).mono ?_
    rw [HQ.out]
    rintro e w1 ⟨rfl, hb1⟩
    have HB1 := hide (HB.out.trans (hb1.mono HB.out.size))
    clear hb1
    go_wp2
    go_ret
    exact ⟨ret_stringT HE.out.symm, HB1.out⟩
  · obtain ⟨s, n, f, r, c, b, rfl, hs, hn, hf, hr, hc, hb⟩ := right_nats hq
    refine (implText_right s n f r c b w hs hn.1 hn.2 hf.1 hf.2 hr.1 hr.2 hc.1 hc.2 hb.1 hb.2 hq).mono ?_
    rintro e w1 ⟨rfl, hb1⟩
    exact ⟨ret_stringT (by simp [pathT, hq]), hb1⟩
set_option maxHeartbeats 2000000 in
theorem specPathText_any (q : PathM) (w : World) :
    Calls Tryd.prog 8 #[q.v] w fun e w' => e = .returned (.string (pathT q)) ∧ Below w.heap.size w w' := by
  have HV : Hid (q.v = .agg #[.string q.seg, .int .i64 q.nth, .int .i64 q.fld, .int .i64 q.rep, .int .i64 q.comp, .int .i64 q.sub]) := rfl
  obtain ⟨W, hW⟩ : ∃ W, W = w.alloc (.cells #[.string q.seg, .int .i64 q.nth, .int .i64 q.fld, .int .i64 q.rep, .int .i64 q.comp, .int .i64 q.sub] 24) := ⟨_, rfl⟩
  have HB := hide (show Below w.heap.size w W by rw [hW]; exact (Below.refl _ _).alloc (Nat.le_refl _) _)
  have HR : Hid (Row W w.heap.size 24 [.string q.seg, .int .i64 q.nth, .int .i64 q.fld, .int .i64 q.rep, .int .i64 q.comp, .int .i64 q.sub]) := by rw [hW]; exact row_new w _ 24
  obtain ⟨OUT, hO⟩ : ∃ O, O = pathT q := ⟨_, rfl⟩
  rw [← hO, HV.out]
  have HO := hide hO
  clear hO
  go_enter Tryd.func8, Tryd.ntmps8
  go_wp2_with fail
  rw [← hW, ← HV.out]
  clear hW
  refine (specPathRight_any q _).mono ?_
  cases hq : q.right
  · have HE := hide (show OUT = ⟨#[]⟩ by rw [HO.out]; simp [pathT, hq])
    rintro e w1 ⟨rfl, hb1⟩
    have HB1 := hide (HB.out.trans (hb1.mono HB.out.size))
    clear hb1 hq
    go_wp2
    go_ret
    exact ⟨ret_stringT HE.out.symm, HB1.out⟩
  · rintro e w1 ⟨rfl, hb1⟩
    have HB1 := hide (HB.out.trans (hb1.mono HB.out.size))
    have HR1 := hide (HR.out.below hb1 HR.out.lt)
    have a0 : w1.cell? ⟨w.heap.size, 0, none⟩ = some (.string q.seg) := HR1.out.cell 0
    have a1 : w1.cell? ⟨w.heap.size, 1, none⟩ = some (.int .i64 q.nth) := HR1.out.cell 1
    have a2 : w1.cell? ⟨w.heap.size, 2, none⟩ = some (.int .i64 q.fld) := HR1.out.cell 2
    have a3 : w1.cell? ⟨w.heap.size, 3, none⟩ = some (.int .i64 q.rep) := HR1.out.cell 3
    have a4 : w1.cell? ⟨w.heap.size, 4, none⟩ = some (.int .i64 q.comp) := HR1.out.cell 4
    have a5 : w1.cell? ⟨w.heap.size, 5, none⟩ = some (.int .i64 q.sub) := HR1.out.cell 5
    clear hb1
    have HQ := hide hq
    clear hq
    have HT : Hid (Calls Tryd.prog 23 #[q.v] w1 fun e w' => e = .returned (.string OUT) ∧ Below w1.heap.size w1 w') := by
      obtain ⟨s, n, f, r, c, b, e0, hs, hn, hf, hr, hc, hb⟩ := right_nats HQ.out
      have HQ2 := HQ.out
      rw [HO.out]
      subst e0
      refine hide ((l05Text_any s n f r c b w1 hs hn.1 hn.2 hf.1 hf.2 hr.1 hr.2 hc.1 hc.2 hb.1 hb.2).mono ?_)
      rintro e w2 ⟨rfl, hb2⟩
      exact ⟨ret_stringT (by simp [pathT, HQ2]), hb2⟩
    go_wp2_with fail
    rw [← HV.out]
    refine HT.out.mono ?_
    rintro e w2 ⟨rfl, hb2⟩
    have HB2 := hide (HB1.out.trans (hb2.mono HB1.out.size))
    clear hb2 a0 a1 a2 a3 a4 a5
    go_wp2
    go_ret
    exact ⟨rfl, HB2.out⟩

end Go.Proofs.YtjcbojgomcakeaaDoor
