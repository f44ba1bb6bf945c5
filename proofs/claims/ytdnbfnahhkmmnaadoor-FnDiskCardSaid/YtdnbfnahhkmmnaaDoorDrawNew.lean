/- Draws: how many sectors; bounds of what the disk's functions answer; facts that outlast a call. -/
import Derived.Test.YtdnbfnahhkmmnaaDoorLwDisk
import Derived.Test.YtdnbfnahhkmmnaaDoorSCrash
import Derived.Test.YtdnbfnahhkmmnaaDoorINew
import Derived.Test.YtdnbfnahhkmmnaaDoorICrash
import Derived.Test.YtdnbfnahhkmmnaaDoorIWrite
import Derived.Test.YtdnbfnahhkmmnaaDoorIRead2
namespace Go.Proofs.YtdnbfnahhkmmnaaDoor
open Go.RowKit

instance stab_readsB (v : Value) (bs : List Int) : Stab (fun w => ReadsB w v bs) := ⟨fun hb h => h.below hb (Nat.le_refl _)⟩
instance stab_readsI' (v : Value) (ks : List Int) : Stab (fun w => ReadsI w v ks) := ⟨fun hb h => h.below hb (Nat.le_refl _)⟩
/-- A disk lies at block b. -/
structure PD (b : Nat) (us up : Value) (xs : List ByteArray) (ps : List (Int × ByteArray)) (w : World) : Prop where
  row : Row w b 26 [us, up]
  rs : Reads w us xs
  rp : ReadsP w up ps
/-- An answer about a disk lies at block b. -/
structure PO (b : Nat) (us up : Value) (o : Out) (w : World) : Prop where
  row : Row w b 30 [us, up, .string o.t, .int .i64 o.c]
  rs : Reads w us o.xs
  rp : ReadsP w up o.ps
instance stab_pd (b : Nat) (us up : Value) (xs : List ByteArray) (ps : List (Int × ByteArray)) : Stab (fun w => PD b us up xs ps w) := ⟨fun hb h => ⟨Row.after hb h.row, h.rs.below hb (Nat.le_refl _), h.rp.below hb (Nat.le_refl _)⟩⟩
instance stab_po (b : Nat) (us up : Value) (o : Out) : Stab (fun w => PO b us up o w) := ⟨fun hb h => ⟨Row.after hb h.row, h.rs.below hb (Nat.le_refl _), h.rp.below hb (Nat.le_refl _)⟩⟩
theorem readOut_len {xs : List ByteArray} {ps : List (Int × ByteArray)} (a : Int) (h : Small xs ps) : (readOut xs ps a).xs.length ≤ 1048576 ∧ (readOut xs ps a).ps.length ≤ 1048576 := by
  unfold readOut
  split
  · split
    · exact ⟨h.1, h.2.2.1⟩
    · exact ⟨by simp [illOut], by simp [illOut]⟩
  · exact ⟨by simp [illOut], by simp [illOut]⟩
theorem flushOut_len {xs : List ByteArray} {ps : List (Int × ByteArray)} (h : Small xs ps) : (flushOut xs ps).xs.length ≤ 1048576 ∧ (flushOut xs ps).ps.length ≤ 1048576 := by
  unfold flushOut
  split
  · exact ⟨by rw [show (Out.mk (applyP ps xs) [] ⟨#[]⟩ 0).xs = applyP ps xs from rfl, applyP_lenS]; exact h.1, by simp⟩
  · exact ⟨by simp [illOut], by simp [illOut]⟩
theorem writeOut_len {xs : List ByteArray} {ps : List (Int × ByteArray)} (a : Int) (d : ByteArray) (h : Small xs ps) : (writeOut xs ps a d).xs.length ≤ 1048576 ∧ (writeOut xs ps a d).ps.length ≤ 1048576 := by
  unfold writeOut
  split
  · exact ⟨by simp [illOut], by simp [illOut]⟩
  · split
    · exact ⟨by simp [illOut], by simp [illOut]⟩
    · split
      · split
        · exact ⟨by simp [illOut], by simp [illOut]⟩
        · exact ⟨h.1, by simp; omega⟩
      · exact ⟨by simp [illOut], by simp [illOut]⟩
theorem readOut_right {xs : List ByteArray} {ps : List (Int × ByteArray)} (a : Int) (h : (readOut xs ps a).c = 0) : right (readOut xs ps a).xs (readOut xs ps a).ps = true := by
  unfold readOut at h ⊢
  split
  · rename_i h1
    split
    · exact h1
    · rename_i h2
      rw [if_pos h1, if_neg h2] at h
      simp [illOut] at h
  · rename_i h1
    rw [if_neg h1] at h
    simp [illOut] at h
theorem flushOut_right {xs : List ByteArray} {ps : List (Int × ByteArray)} (h : (flushOut xs ps).c = 0) : right xs ps = true ∧ right (flushOut xs ps).xs (flushOut xs ps).ps = true := by
  unfold flushOut at h ⊢
  split
  · rename_i h1; exact ⟨h1, rightFlush h1⟩
  · rename_i h1
    rw [if_neg h1] at h
    simp [illOut] at h
theorem writeOut_right {xs : List ByteArray} {ps : List (Int × ByteArray)} (a : Int) (d : ByteArray) (h : (writeOut xs ps a d).c = 0) : right xs ps = true ∧ writeOut xs ps a d = ⟨xs, ps ++ [(a, d)], ⟨#[]⟩, 0⟩ ∧ right xs (ps ++ [(a, d)]) = true := by
  unfold writeOut at h ⊢
  split at h
  · simp [illOut] at h
  · split at h
    · simp [illOut] at h
    · split at h
      · split at h
        · simp [illOut] at h
        · rename_i h1 h2 h3 h4
          have hr : right xs ps = true := by
            cases e : right xs ps with
            | true => rfl
            | false => exact absurd (.inl e) h2
          rw [if_neg h1, if_neg h2, if_pos h3, if_neg h4]
          exact ⟨hr, rfl, rightPush hr (by omega) h3.1 h3.2 (by omega)⟩
      · simp [illOut] at h

set_option maxHeartbeats 4000000 in
theorem drawNew_any (v : Value) (bs : List Int) (w : World) (h : ReadsB w v bs) (hl : bs.length ≤ 1048576) :
    Calls Tryd.prog 9 #[v] w fun e w' => (∃ r : Int, e = .returned (.int .i64 r)) ∧ Below w.heap.size w w' := by
  have HV := hide h
  clear h
  go_enter Tryd.func9, Tryd.ntmps9
  go_wp2_with fail
  refine (source_any v bs _ HV.out hl).mono ?_
  rintro e w1 ⟨rfl, hs1, hb1⟩
  have HB1 := hide hb1
  have HS1 := hide hs1
  clear hs1 hb1
  go_wp2_with fail
  refine (one_any v bs w.heap.size 3 _ HS1.out (by omega) hl).mono ?_
  rintro e w2 ⟨⟨b, rfl⟩, hs2, hk2⟩
  have HB2 := hide (hk2.toBelow HB1.out HB1.out.size (by simp))
  have HS2 := hide hs2
  clear hs2 hk2 HB1 HS1
  cases b with
  | true =>
    go_wp2_with fail
    refine (edge_any v bs w.heap.size _ HS2.out hl).mono ?_
    rintro e w3 ⟨⟨r, rfl, hr0, hr1⟩, hs3, hk3⟩
    have b3 := hk3.toBelow HB2.out HB2.out.size (by simp)
    have HB3 := hide (b3.alloc b3.size (.cells #[.int .i64 0, .int .i64 1, .int .i64 64, .int .i64 65, .int .i64 r] 2))
    have HS3 := hide (hs3.below (below_new w3 (.cells #[.int .i64 0, .int .i64 1, .int .i64 64, .int .i64 65, .int .i64 r] 2)))
    have HR3 := hide (row_new w3 [.int .i64 0, .int .i64 1, .int .i64 64, .int .i64 65, .int .i64 r] 2)
    have hz3 := b3.size
    have hs := hs3.lt
    clear hs3 hk3 b3 HB2 HS2
    go_wp2_with fail
    refine (n_any v bs w.heap.size 5 _ HS3.out (by omega) hl).mono ?_
    rintro e w4 ⟨⟨k, rfl, hk0, hk1⟩, hs4, hk4⟩
    have HB4 := hide (hk4.toBelow HB3.out HB3.out.size (by simp))
    have HR4 := hide (hk4.row HR3.out (by simp; omega))
    clear hs4 hk4
    have c0 : w4.cell? ⟨w3.heap.size, 0, none⟩ = some (.int .i64 0) := HR4.out.cell 0
    have c1 : w4.cell? ⟨w3.heap.size, 1, none⟩ = some (.int .i64 1) := HR4.out.cell 1
    have c2 : w4.cell? ⟨w3.heap.size, 2, none⟩ = some (.int .i64 64) := HR4.out.cell 2
    have c3 : w4.cell? ⟨w3.heap.size, 3, none⟩ = some (.int .i64 65) := HR4.out.cell 3
    have c4 : w4.cell? ⟨w3.heap.size, 4, none⟩ = some (.int .i64 r) := HR4.out.cell 4
    rcases (show k = 0 ∨ k = 1 ∨ k = 2 ∨ k = 3 ∨ k = 4 by omega) with rfl | rfl | rfl | rfl | rfl
    all_goals
      go_wp2
      go_ret
      exact ⟨⟨_, rfl⟩, HB4.out⟩
  | false =>
    go_wp2_with fail
    refine (n_any v bs w.heap.size 20 _ HS2.out (by omega) hl).mono ?_
    rintro e w4 ⟨⟨k, rfl, hk0, hk1⟩, hs4, hk4⟩
    have HB4 := hide (hk4.toBelow HB2.out HB2.out.size (by simp))
    clear hs4 hk4
    go_wp2
    go_ret
    exact ⟨⟨_, rfl⟩, HB4.out⟩
end Go.Proofs.YtdnbfnahhkmmnaaDoor
