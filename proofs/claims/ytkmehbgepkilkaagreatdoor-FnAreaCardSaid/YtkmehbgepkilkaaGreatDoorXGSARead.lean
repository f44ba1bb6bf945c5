/- The specification's AreaRead. -/
import Derived.Test.YtkmehbgepkilkaaGreatDoorXGSSeen7
import Derived.Test.YtkmehbgepkilkaaGreatDoorXGSFormat
import Derived.Laws.IdiomStrings
import Derived.Lib.AppendStr
import Derived.Test.YtkmehbgepkilkaaGreatDoorXGSCopy
import Derived.Maps.AppendAt
namespace Go.Proofs.YtkmehbgepkilkaaGreatDoor
open Go.RowKit

theorem Tryz.infoB : (Tryz.prog.info? 5).map (fun i => (i.zero, i.size, i.bytes)) = some (some (.int .u8 0), 1, 1) := by kernel_rfl
/-- What was last written to the sector k. -/
def secAt (xs : List ByteArray) (ps : List (Int × ByteArray)) (k : Nat) : ByteArray := lastAt (k : Int) ps (xs.getD k ⟨#[]⟩)
/-- How many bytes of a text stand in its sector j. -/
def want (size j : Nat) : Nat := min 64 (size - 64 * j)
def gath (f : Nat → ByteArray) (size : Nat) : Nat → ByteArray
  | 0 => ⟨#[]⟩
  | k + 1 => gath f size k ++ (f k).extract 0 (want size k)
def full (f : Nat → ByteArray) (size m : Nat) : Bool := (List.range m).all fun j => decide (want size j ≤ (f j).size)
theorem full_step (f : Nat → ByteArray) (size m : Nat) : full f size (m + 1) = (full f size m && decide (want size m ≤ (f m).size)) := by
  unfold full; rw [List.range_succ, List.all_append]; simp
theorem full_not {f : Nat → ByteArray} {size k m : Nat} (h : k < m) (hk : ¬ want size k ≤ (f k).size) : full f size m = false := by
  unfold full
  rw [← Bool.not_eq_true, List.all_eq_true]
  intro h2
  have := h2 k (by simpa using h)
  simp at this
  exact hk this
theorem gath_size {f : Nat → ByteArray} {size : Nat} : ∀ k, full f size k = true → (gath f size k).size = min (64 * k) size
  | 0 => fun _ => by simp [gath, ByteArray.size]
  | k + 1 => fun h => by
    rw [full_step, Bool.and_eq_true] at h
    have h1 := gath_size k h.1
    have h2 : want size k ≤ (f k).size := by simpa using h.2
    rw [gath, ByteArray.size_append, h1, ByteArray.size_extract]
    unfold want at h2 ⊢
    omega
/-- The sectors of the side that the head names. -/
def sideAt (xs : List ByteArray) (ps : List (Int × ByteArray)) (side : Int) (j : Nat) : ByteArray := secAt xs ps (1 + side.toNat * (half xs.length).toNat + j)
def areaOut (xs : List ByteArray) (ps : List (Int × ByteArray)) : AOut :=
  if right xs ps = false then aill 1
  else if (seen xs ps).2.2.2 ≠ 0 then aill (seen xs ps).2.2.2
  else if full (sideAt xs ps (seen xs ps).2.1) (seen xs ps).2.2.1.toNat (((seen xs ps).2.2.1.toNat + 63) / 64) then ⟨xs, ps, gath (sideAt xs ps (seen xs ps).2.1) (seen xs ps).2.2.1.toNat (((seen xs ps).2.2.1.toNat + 63) / 64), (seen xs ps).1, 0⟩
  else aill 5
theorem seen_ok {xs : List ByteArray} {ps : List (Int × ByteArray)} (h : (seen xs ps).2.2.2 = 0) : 0 ≤ (seen xs ps).1 ∧ (0 ≤ (seen xs ps).2.1 ∧ (seen xs ps).2.1 ≤ 1) ∧ (0 ≤ (seen xs ps).2.2.1 ∧ (seen xs ps).2.2.1 ≤ 64 * half xs.length) := by
  unfold seen at h ⊢
  simp only at h ⊢
  split
  · rename_i h4; rw [if_pos h4] at h; simp at h
  · rename_i h4
    rw [if_neg h4] at h
    split
    · rename_i h5; rw [if_pos h5] at h; simp at h
    · rename_i h5
      rw [if_neg h5] at h
      split
      · rename_i h6; exact ⟨h6.2.2.2.2.1, h6.2.2.2.2.2.1, h6.2.2.2.2.2.2⟩
      · rename_i h6; rw [if_neg h6] at h; simp at h
theorem text_of_row {P : Program} {e t T B : Nat} {w : World} {v : Value} {b : ByteArray} (h : w.ownsRow B e 1 v b.size (Lib.strCells b)) (hne : v ≠ .slice none 0 0)
    (ht : P.underlying t = some (.slice e)) (he : P.underlying e = some (.int .u8)) (hT : P.underlying T = some .string) : (convert t T v).run P w = .ok (.string b) w := by
  obtain ⟨h0, hv⟩ := h
  rcases hv with ⟨rfl, hn⟩ | ⟨g, cap, cur, rfl, _, hh, hnc, _, hcs, htk⟩
  · exact absurd rfl hne
  · have hbl : b.data.toList.length = b.size := by rw [Array.length_toList]; rfl
    have := run_convert_bytes_back (P := P) w t T e ⟨g, 0, none⟩ cap b.data.toList ht he hT (fun j hj => by
      rw [Addr.add_lit, Nat.zero_add, cell_of_row w g j _ e (0, 0) hh]
      have e1 : cur[j]? = (cur.toList.take (b.size * 1))[j]? := by
        rw [List.getElem?_take_of_lt (by omega)]; simp
      rw [e1, htk, Lib.strCells, List.getElem?_map, List.getElem?_eq_getElem hj]
      simp)
    rw [hbl] at this
    exact this

set_option maxHeartbeats 400000 in
theorem l03First_any (vs vp : Value) (xs : List ByteArray) (s : Int) (w : World) (hx : 1 ≤ xs.length) (hn : xs.length ≤ 1048576) (hs : 0 ≤ s ∧ s ≤ 1) (hr : Reads w vs xs) (hv : ∃ p n k, vp = .slice p n k) :
    Calls Tryz.prog 42 #[.agg #[vs, vp], .int .i64 s] w fun e w' => e = .returned (.int .i64 (1 + s * half xs.length)) ∧ Below w.heap.size w w' := by
  have hb0 : Below w.heap.size w (w.alloc (.cells #[vs, vp] 26)) := (Below.refl _ _).alloc (Nat.le_refl _) _
  have HR := hide (hr.below hb0 (Nat.le_refl _))
  have HB0 := hide hb0
  obtain ⟨p1, c1, rfl, hq⟩ := hr
  obtain ⟨p2, m2, c2, rfl⟩ := hv
  clear hq hb0
  have hh : 0 ≤ half xs.length ∧ half xs.length ≤ 1048576 := by unfold half; omega
  have hm : s * half xs.length = 0 ∨ s * half xs.length = half xs.length := by
    rcases (show s = 0 ∨ s = 1 by omega) with rfl | rfl
    · left; simp
    · right; simp
  have hw1 : IntKind.i64.wrap (s * half xs.length) = s * half xs.length := by rw [IntKind.wrap_i64]; omega
  have hw2 : IntKind.i64.wrap (1 + s * half xs.length) = 1 + s * half xs.length := by rw [IntKind.wrap_i64]; omega
  clear hm hs
  go_enter Tryz.func42, Tryz.ntmps42
  go_wp2_with fail
  refine (l03Half_any _ _ xs _ hx hn HR.out).mono ?_
  rintro e w2 ⟨rfl, hb2⟩
  have HB2 := hide (HB0.out.trans (hb2.mono HB0.out.size))
  clear hb2
  go_wp2
  go_ret
  exact ⟨rfl, HB2.out⟩
theorem l01Min_any (a b : Int) (w : World) :
    Calls Tryz.prog 43 #[.int .i64 a, .int .i64 b] w fun e w' => e = .returned (.int .i64 (min a b)) ∧ w' = w := by
  by_cases h : a < b
  · go_enter Tryz.func43, Tryz.ntmps43
    go_wp2
    go_ret
    exact ⟨ret_int (by omega), rfl⟩
  · go_enter Tryz.func43, Tryz.ntmps43
    go_wp2
    go_ret
    exact ⟨ret_int (by omega), rfl⟩
end Go.Proofs.YtkmehbgepkilkaaGreatDoor

/- The specification's AreaRead: the walk. -/
namespace Go.Proofs.YtkmehbgepkilkaaGreatDoor
open Go.RowKit

theorem row_form {w : World} {B n : Nat} {e : TypeId} {v : Value} {xs : List Value} (h : w.ownsRow B e 1 v n xs) (hne : v ≠ .slice none 0 0) : ∃ g cap, v = .slice (some ⟨g, 0, none⟩) n cap ∧ B ≤ g := by
  obtain ⟨_, ⟨rfl, _⟩ | ⟨g, cap, cur, rfl, hB, _⟩⟩ := h
  · exact absurd rfl hne
  · exact ⟨g, cap, rfl, hB⟩
theorem below_grown {B : Nat} {w0 w w' : World} {row : Option Nat} (h : Below B w0 w) (hB : B ≤ w.heap.size) (hg : w.grownBy w' row) (hr : ∀ k, row = some k → B ≤ k) : Below B w0 w' :=
  ⟨hg.os.trans h.os, hg.tape.trans h.tape, hg.output.trans h.output, Nat.le_trans h.size hg.size, fun k hk => (hg.block k (Nat.lt_of_lt_of_le hk hB) (fun e => absurd (hr k e.symm) (by omega))).trans (h.block k hk)⟩
theorem row_grown {w w' : World} {g : Nat} {T : TypeId} {cs : List Value} {row : Option Nat} (h : Row w g T cs) (hg : w.grownBy w' row) (hr : row ≠ some g) : Row w' g T cs := by
  unfold Row; rw [hg.block g h.lt (fun e => hr e.symm)]; exact h
theorem ownsRow_after {w w' : World} {B n : Nat} {e : TypeId} {v : Value} {xs : List Value} (h : w.ownsRow B e 1 v n xs) (hb : Below w.heap.size w w') : w'.ownsRow B e 1 v n xs := by
  obtain ⟨h0, h1 | ⟨g, cap, cur, hv, hB, hh, hr⟩⟩ := h
  · exact ⟨h0, .inl h1⟩
  · have hlt : g < w.heap.size := (Array.getElem?_eq_some_iff.1 hh).1
    exact ⟨h0, .inr ⟨g, cap, cur, hv, hB, by rw [hb.block g hlt]; exact hh, hr⟩⟩
theorem ownsRow_keptN {S : List Nat} {w w' : World} {B n : Nat} {e : TypeId} {v : Value} {xs : List Value} (h : w.ownsRow B e 1 v n xs) (hk : Kept S w w') (hS : ∀ g c, v = .slice (some ⟨g, 0, none⟩) n c → g ∉ S) : w'.ownsRow B e 1 v n xs := by
  obtain ⟨h0, h1 | ⟨g, cap, cur, hv, hB, hh, hr⟩⟩ := h
  · exact ⟨h0, .inl h1⟩
  · have hlt : g < w.heap.size := (Array.getElem?_eq_some_iff.1 hh).1
    exact ⟨h0, .inr ⟨g, cap, cur, hv, hB, by rw [hk.block g hlt (hS g cap hv)]; exact hh, hr⟩⟩
theorem strCells_append (a b : ByteArray) : Lib.strCells (a ++ b) = Lib.strCells a ++ Lib.strCells b := by
  unfold Lib.strCells; simp
set_option maxHeartbeats 4000000 in
theorem specAreaRead_ill (vs vp : Value) (xs : List ByteArray) (ps : List (Int × ByteArray)) (w : World) (hn : xs.length ≤ 1048576) (hn2 : ps.length ≤ 1048576) (hr : Reads w vs xs) (hp : ReadsP w vp ps) (hok : right xs ps = false) :
    Calls Tryz.prog 12 #[.agg #[vs, vp]] w fun e w' => AOutIs w.heap.size e w' (aill 1) ∧ Below w.heap.size w w' := by
  have hb0 : Below w.heap.size w ((w.alloc (.cells #[vs, vp] 26)).alloc (.cells #[.slice none 0 0, .slice none 0 0, .string ⟨#[]⟩, .int .i64 0, .int .i64 0] 31)) :=
    ((Below.refl _ _).alloc (Nat.le_refl _) _).alloc (by simp) _
  have HR := hide (hr.below hb0 (Nat.le_refl _))
  have HP := hide (hp.below hb0 (Nat.le_refl _))
  have HB0 := hide hb0
  obtain ⟨p1, c1, rfl, hq⟩ := hr
  obtain ⟨p2, c2, rfl, hq2⟩ := hp
  have R1 := row_new (w.alloc (.cells #[.slice p1 xs.length c1, .slice p2 ps.length c2] 26)) [.slice none 0 0, .slice none 0 0, .string ⟨#[]⟩, .int .i64 0, .int .i64 0] 31
  simp only [World.size_alloc] at R1
  have HR1 := hide R1
  clear hb0 hq hq2 R1
  go_enter Tryz.func12, Tryz.ntmps12
  go_wp2_with fail
  refine (specRight_any _ _ xs ps _ hn hn2 HR.out HP.out).mono ?_
  rw [hok]
  rintro e w1 ⟨rfl, hb1⟩
  have HB1 := hide (HB0.out.trans (hb1.mono HB0.out.size))
  have HX1 := hide (HR1.out.below hb1 (by simp))
  clear hb1 HR HP HR1 HB0
  go_wp2_with fail
  refine (l03Ill_any _ _).mono ?_
  rintro e w2 ⟨rfl, hb2⟩
  have R3 := HX1.out.below hb2 HX1.out.lt
  have HB2 := hide (HB1.out.trans (hb2.mono HB1.out.size))
  have c0 : w2.cell? ⟨w.heap.size + 1, 0, none⟩ = some (.slice none 0 0) := R3.cell 0
  have c1' : w2.cell? ⟨w.heap.size + 1, 1, none⟩ = some (.slice none 0 0) := R3.cell 1
  have c2' : w2.cell? ⟨w.heap.size + 1, 2, none⟩ = some (.string ⟨#[]⟩) := R3.cell 2
  have c3 : w2.cell? ⟨w.heap.size + 1, 3, none⟩ = some (.int .i64 0) := R3.cell 3
  have c4 : w2.cell? ⟨w.heap.size + 1, 4, none⟩ = some (.int .i64 0) := R3.cell 4
  have f0 := R3.free 0
  have f1 := R3.free 1
  have f2 := R3.free 2
  have f3 := R3.free 3
  have f4 := R3.free 4
  have HR3 := hide R3
  clear hb2 R3
  go_wp2
  obtain ⟨q0, q1, q2, q3, q4, KF⟩ := five HR3.out (.slice none 0 0) (.slice none 0 0) (.string ⟨#[]⟩) (.int .i64 0) (.int .i64 1)
  exact bodyPost_ret (v := .agg #[.slice none 0 0, .slice none 0 0, .string ⟨#[]⟩, .int .i64 0, .int .i64 1]) (by simp [results, Tryz.results12, go_sem, q0, q1, q2, q3, q4]) rfl
    ⟨AOutIs.ill _ _ _, KF.toBelow HB2.out HB2.out.size (by simp)⟩

set_option maxRecDepth 100000 in
set_option maxHeartbeats 8000000 in
theorem specAreaRead_rest (vs vp : Value) (xs : List ByteArray) (ps : List (Int × ByteArray)) (w : World) (hn : xs.length ≤ 1048576) (hn2 : ps.length ≤ 1048576) (hr : Reads w vs xs) (hp : ReadsP w vp ps) (hok : right xs ps = true) :
    Calls Tryz.prog 12 #[.agg #[vs, vp]] w fun e w' => AOutIs w.heap.size e w' (areaOut xs ps) ∧ Below w.heap.size w w' := by
  obtain ⟨i0, hi, hz0, hz1, hz2⟩ := info_parts Tryz.infoB
  have hb0 : Below w.heap.size w ((w.alloc (.cells #[vs, vp] 26)).alloc (.cells #[.slice none 0 0, .slice none 0 0, .string ⟨#[]⟩, .int .i64 0, .int .i64 0] 31)) :=
    ((Below.refl _ _).alloc (Nat.le_refl _) _).alloc (by simp) _
  have HR := hide (hr.below hb0 (Nat.le_refl _))
  have HP := hide (hp.below hb0 (Nat.le_refl _))
  have HRw := hide hr
  have HPw := hide hp
  have HB0 := hide hb0
  have HOK := hide hok
  have hlen := right_ge hok
  obtain ⟨p1, c1, rfl, hq⟩ := hr
  obtain ⟨p2, c2, rfl, hq2⟩ := hp
  have R0 := (row_new w [.slice p1 xs.length c1, .slice p2 ps.length c2] 26).alloc (.cells #[.slice none 0 0, .slice none 0 0, .string ⟨#[]⟩, .int .i64 0, .int .i64 0] 31)
  have R1 := row_new (w.alloc (.cells #[.slice p1 xs.length c1, .slice p2 ps.length c2] 26)) [.slice none 0 0, .slice none 0 0, .string ⟨#[]⟩, .int .i64 0, .int .i64 0] 31
  simp only [World.size_alloc] at R1
  have HR0 := hide R0
  have HR1 := hide R1
  clear hb0 hq hq2 R1 R0
  go_enter Tryz.func12, Tryz.ntmps12
  go_wp2_with fail
  refine (specRight_any _ _ xs ps _ hn hn2 HR.out HP.out).mono ?_
  rw [hok]
  rintro e w1 ⟨rfl, hb1⟩
  have HB1 := hide (HB0.out.trans (hb1.mono HB0.out.size))
  have HX1 := hide (HR1.out.below hb1 (by simp))
  have HX0 := hide (HR0.out.below hb1 (by simp; omega))
  have HRa := hide (HR.out.below hb1 (Nat.le_refl _))
  have HPa := hide (HP.out.below hb1 (Nat.le_refl _))
  have a0 : w1.cell? ⟨w.heap.size, 0, none⟩ = some (.slice p1 xs.length c1) := HX0.out.cell 0
  have a1 : w1.cell? ⟨w.heap.size, 1, none⟩ = some (.slice p2 ps.length c2) := HX0.out.cell 1
  clear hb1 HR HP HR1 HR0 HB0 hok
  go_wp2_with fail
  obtain ⟨r, Hr⟩ : ∃ r, Hid (r = seen xs ps) := ⟨_, rfl⟩
  refine (specSeen_any _ _ xs ps _ HOK.out hn hn2 HRa.out HPa.out).mono ?_
  rw [← Hr.out]
  obtain ⟨gen, side, size, code⟩ := r
  rintro e w2 ⟨he, hb2⟩
  rw [show seenV (gen, side, size, code) = .tuple #[.int .i64 gen, .int .i64 side, .int .i64 size, .int .i64 code] from rfl] at he
  subst he
  have HB2 := hide (HB1.out.trans (hb2.mono HB1.out.size))
  have HX2 := hide (Row.after hb2 HX1.out)
  have HY2 := hide (Row.after hb2 HX0.out)
  clear hb2 a0 a1 HX1 HX0 HRa HPa
  by_cases hc : code = 0
  · subst hc
    have hsk := seen_ok (xs := xs) (ps := ps) (by rw [← Hr.out])
    rw [← Hr.out] at hsk
    obtain ⟨hg0, ⟨hs0, hs1⟩, hz0', hz1'⟩ := hsk
    simp only at hg0 hs0 hs1 hz0' hz1'
    obtain ⟨sz, rfl⟩ := Int.eq_ofNat_of_zero_le hz0'
    have hh : 0 ≤ half xs.length ∧ half xs.length ≤ 1048576 ∧ 2 * half xs.length ≤ (xs.length : Int) - 1 := by unfold half; omega
    obtain ⟨f, Hf⟩ : ∃ f, Hid (f = sideAt xs ps side) := ⟨_, rfl⟩
    obtain ⟨m, Hm⟩ : ∃ m, m = (sz + 63) / 64 := ⟨_, rfl⟩
    have hm64 : sz ≤ 64 * m ∧ 64 * m ≤ sz + 63 := by omega
    have hmh : (m : Int) ≤ half xs.length := by omega
    have HFO := hide (show areaOut xs ps = if full f sz m then ⟨xs, ps, gath f sz m, gen, 0⟩ else aill 5 by
      unfold areaOut; rw [HOK.out, ← Hr.out, if_neg (by simp), if_neg (by simp), Hf.out, Hm]; rfl)
    have hsx : side * half xs.length = 0 ∨ side * half xs.length = half xs.length := by
      rcases (show side = 0 ∨ side = 1 by omega) with rfl | rfl
      · left; simp
      · right; simp
    have HRD := hide (show ∀ k : Nat, k < m → readOut xs ps (1 + side * half xs.length + k) = ⟨xs, ps, f k, 0⟩ from fun k hk => by
      have hcast : (1 + side * half xs.length + (k : Int)) = ((1 + side.toNat * (half xs.length).toNat + k : Nat) : Int) := by
        have e1 : ((side.toNat * (half xs.length).toNat : Nat) : Int) = side * half xs.length := by
          rw [Int.natCast_mul, Int.toNat_of_nonneg hs0, Int.toNat_of_nonneg hh.1]
        rw [Int.natCast_add, Int.natCast_add, e1]; rfl
      unfold readOut
      rw [HOK.out, if_pos rfl, if_pos (by omega), hcast, Hf.out]
      rfl)
    clear Hm Hr Hf
    have HBn := hide (HB2.out.alloc HB2.out.size (.cells #[] 5))
    have HXn := hide (HX2.out.alloc (.cells #[] 5))
    have HYn := hide (HY2.out.alloc (.cells #[] 5))
    have HOn := hide (World.ownsRow_made (e := 5) (base := w2.heap.size) (size := 1) w2 #[] 0 (Nat.le_refl _) (by unfold maxLen; omega) rfl)
    have hbase := HX2.out.lt
    go_wp2_with fail
    go_loopw [7, 8] (fun u i wr => ∃ (k : Nat), k ≤ m ∧ i = .int .i64 k ∧ Hid (full f sz k = true) ∧ Hid (wr.ownsRow w2.heap.size 5 1 u (gath f sz k).size (Lib.strCells (gath f sz k))) ∧ Hid (u ≠ .slice none 0 0) ∧ Hid (Below w.heap.size w wr) ∧ Hid (Row wr w.heap.size 26 [.slice p1 xs.length c1, .slice p2 ps.length c2]) ∧ Hid (Row wr (w.heap.size + 1) 31 [.slice none 0 0, .slice none 0 0, .string ⟨#[]⟩, .int .i64 0, .int .i64 0]) ∧ w2.heap.size ≤ wr.heap.size) (fun _ i _ => m - (intOf i).toNat)
    case atStart => exact ⟨0, Nat.zero_le _, rfl, rfl, HOn, hide (by simp), HBn, HYn, HXn, by simp⟩
    case round =>
      obtain ⟨k, hk, rfl, HFk, HOw, HNe, HBr, HYr, HXr, hwz⟩ := hrel
      obtain ⟨g, cap, rfl, hgB⟩ := row_form HOw.out HNe.out
      have hgs := gath_size k HFk.out
      obtain ⟨b, Hb⟩ : ∃ b, Hid (b = gath f sz k) := ⟨_, rfl⟩
      rw [← Hb.out] at hgs HOw
      obtain ⟨N, hN⟩ : ∃ N, N = b.size := ⟨_, rfl⟩
      rw [← Hb.out, ← hN]
      rw [← hN] at hgs HOw
      have HNN := hide hN
      clear hN
      have hNw : IntKind.i64.wrap ((sz : Int) - (N : Int)) = (sz : Int) - (N : Int) := by rw [IntKind.wrap_i64]; omega
      by_cases hlt : k < m
      · have hNk : N = 64 * k := by omega
        have hl1 : (N : Int) < (sz : Int) := by omega
        have c0 : wr.cell? ⟨w.heap.size, 0, none⟩ = some (.slice p1 xs.length c1) := HYr.out.cell 0
        have c1' : wr.cell? ⟨w.heap.size, 1, none⟩ = some (.slice p2 ps.length c2) := HYr.out.cell 1
        have hkw : IntKind.i64.wrap (1 + side * half xs.length + (k : Int)) = 1 + side * half xs.length + (k : Int) := by rw [IntKind.wrap_i64]; omega
        have HWT := hide (show min (64 : Int) ((sz : Int) - (N : Int)) = ((want sz k : Nat) : Int) by unfold want; omega)
        have hwt : want sz k ≤ 64 := by unfold want; omega
        have HG := hide (show gath f sz (k + 1) = b ++ (f k).extract 0 (want sz k) by rw [Hb.out]; rfl)
        have HRk := hide (HRD.out k hlt)
        have HFS := hide (full_step f sz k)
        have HSS := hide (show ∀ x, Below wr.heap.size wr x → x.cell? ⟨w.heap.size, 0, none⟩ = some (.slice p1 xs.length c1) ∧ x.cell? ⟨w.heap.size, 1, none⟩ = some (.slice p2 ps.length c2) ∧ Below wr.heap.size wr x from
          fun x h => ⟨(Row.after h HYr.out).cell 0, (Row.after h HYr.out).cell 1, h⟩)
        have HSI := hide (And.intro hs0 hs1)
        have hfd := Tryz.outData
        have hszb : (sz : Int) ≤ 100000000 := by omega
        have HNk := hide hNk
        clear hz0' hz1' hm64 hgs hs0 hs1 hNk
        go_wp2_with fail
        go_region_held3 (fun x => x.cell? ⟨w.heap.size, 0, none⟩ = some (.slice p1 xs.length c1) ∧ x.cell? ⟨w.heap.size, 1, none⟩ = some (.slice p2 ps.length c2) ∧ Below wr.heap.size wr x)
          ((go_split_ands; refine HSS.out _ ?_; repeat (first | with_reducible assumption | with_reducible exact Below.refl _ _ | with_reducible refine Below.drew ?_)))
          ((first
            | (go_at_call 42; go_split_ands; refine (l03First_any _ _ xs side _ (by omega) hn HSI.out (HRw.out.below (HBr.out.trans (Below.mono (by assumption) HBr.out.size)) (Nat.le_refl _)) ⟨_, _, _, rfl⟩).mono ?_; rintro e w3 ⟨rfl, hb3⟩
               have hB3 : Below wr.heap.size wr w3 := Below.trans (by assumption) (hb3.mono (Below.size (by assumption))); clear hb3)
            | (go_at_call 41; go_split_ands; refine (specRead_any _ _ xs ps _ _ hn hn2 (HRw.out.below (HBr.out.trans (Below.mono (by assumption) HBr.out.size)) (Nat.le_refl _)) (HPw.out.below (HBr.out.trans (Below.mono (by assumption) HBr.out.size)) (Nat.le_refl _))).mono ?_; rw [HRk.out]; rintro e w4 ⟨⟨us, up, rfl, o1, o2, dd⟩, hb4⟩
               have hB4 : Below wr.heap.size wr w4 := Below.trans (by assumption) (hb4.mono (Below.size (by assumption)))
               obtain ⟨s1, s2, s3, rfl⟩ := o1.isSlice
               obtain ⟨s4, s5, s6, rfl⟩ := o2.isSlice
               clear hb4 o1 o2 dd)))
        have HB4 := hide (HBr.out.trans (hB4.mono HBr.out.size))
        have HY4 := hide (Row.after hB4 HYr.out)
        have HX4 := hide (Row.after hB4 HXr.out)
        have hz4 := Nat.le_trans hwz hB4.size
        have HO4 := hide (ownsRow_after HOw.out hB4)
        clear hB3 hB4
        go_wp2_with fail
        refine (l01Min_any _ _ _).mono ?_
        rw [HWT.out]
        rintro e w5 ⟨rfl, rfl⟩
        by_cases hshort : (f k).size < want sz k
        · have hsi : ((f k).size : Int) < ((want sz k : Nat) : Int) := by omega
          have HF5 := hide (show areaOut xs ps = aill 5 by rw [HFO.out, full_not hlt (by omega)]; rfl)
          go_wp2_with fail
          refine (l03Ill_any _ _).mono ?_
          rintro e w3 ⟨rfl, hb3⟩
          have R3 := Row.after hb3 HX4.out
          have HB3 := hide (HB4.out.trans (hb3.mono HB4.out.size))
          have d0 : w3.cell? ⟨w.heap.size + 1, 0, none⟩ = some (.slice none 0 0) := R3.cell 0
          have d1 : w3.cell? ⟨w.heap.size + 1, 1, none⟩ = some (.slice none 0 0) := R3.cell 1
          have d2 : w3.cell? ⟨w.heap.size + 1, 2, none⟩ = some (.string ⟨#[]⟩) := R3.cell 2
          have d3 : w3.cell? ⟨w.heap.size + 1, 3, none⟩ = some (.int .i64 0) := R3.cell 3
          have d4 : w3.cell? ⟨w.heap.size + 1, 4, none⟩ = some (.int .i64 0) := R3.cell 4
          have f0 := R3.free 0
          have f1 := R3.free 1
          have f2 := R3.free 2
          have f3 := R3.free 3
          have f4 := R3.free 4
          have HR3 := hide R3
          clear hb3 R3
          go_wp2
          obtain ⟨q0, q1, q2, q3, q4, KF⟩ := five HR3.out (.slice none 0 0) (.slice none 0 0) (.string ⟨#[]⟩) (.int .i64 0) (.int .i64 5)
          exact bodyPost_ret (v := .agg #[.slice none 0 0, .slice none 0 0, .string ⟨#[]⟩, .int .i64 0, .int .i64 5]) (by simp [results, Tryz.results12, go_sem, q0, q1, q2, q3, q4]) rfl
            ⟨by rw [HF5.out]; exact AOutIs.ill _ _ _, KF.toBelow HB3.out HB3.out.size (by simp)⟩
        · have hsi : ¬ ((f k).size : Int) < ((want sz k : Nat) : Int) := by omega
          have hle : ((want sz k : Nat) : Int) ≤ ((f k).size : Int) := by omega
          have hpos : (0 : Int) ≤ ((want sz k : Nat) : Int) := by omega
          have hts : ((f k).extract 0 (want sz k)).size = want sz k := by rw [ByteArray.size_extract]; omega
          go_wp2_with (at_builtin; refine Lib.wpList_append_own_string _ rfl _ _ 22 9 rfl w2.heap.size 5 i0 Tryz.underlying22 Tryz.underlying9 hi hz0 hz1 hz2 (.slice (some ⟨g, 0, none⟩) N cap) N (Lib.strCells b) rfl HO4.out ((f k).extract 0 (want sz k)) rfl (by unfold maxLen; omega) (by omega) hz4 ?_
                       intro v' w6 ho6 hg6 hn6
                       have HO6 := hide ho6
                       have HG6 : Hid (World.grownBy _ w6 (some g)) := hide hg6
                       have HN6 := hide hn6
                       clear ho6 hg6 hn6)
          have HE := hide (show (gath f sz (k + 1)).size = N + ((f k).extract 0 (want sz k)).size ∧ Lib.strCells (gath f sz (k + 1)) = Lib.strCells b ++ Lib.strCells ((f k).extract 0 (want sz k)) by rw [HG.out, ByteArray.size_append, strCells_append, HNN.out]; exact ⟨rfl, rfl⟩)
          go_roundw
          case rel =>
            refine ⟨k + 1, by omega, by go_num, by rw [HFS.out, HFk.out]; simp [Hid]; omega, by rw [HE.out.1, HE.out.2]; exact HO6, ?_, ?_, ?_, ?_, Nat.le_trans hz4 HG6.out.size⟩
            · intro hv
              have := (HN6.out.1 hv).1
              cases this
            · exact below_grown HB4.out HB4.out.size HG6.out (fun j hj => by cases hj; omega)
            · exact row_grown HY4.out HG6.out (fun hj => by cases hj; omega)
            · exact row_grown HX4.out HG6.out (fun hj => by cases hj; omega)
          case measure => simp [intOf]; omega
      · have hNs : ¬ (N : Int) < (sz : Int) := by omega
        have hkm : k = m := by omega
        subst hkm
        have HF5 := hide (show areaOut xs ps = ⟨xs, ps, b, gen, 0⟩ by rw [HFO.out, HFk.out, Hb.out]; rfl)
        have hgl : g ≠ w.heap.size + 1 := by omega
        have HSS := hide (show ∀ x, Kept [w.heap.size + 1] wr x → x.cell? ⟨w.heap.size, 0, none⟩ = some (.slice p1 xs.length c1) ∧ x.cell? ⟨w.heap.size, 1, none⟩ = some (.slice p2 ps.length c2) ∧ (convert 22 9 (.slice (some ⟨g, 0, none⟩) N cap)).run Tryz.prog x = .ok (.string b) x ∧ Kept [w.heap.size + 1] wr x from
          fun x h => ⟨(h.row HYr.out (by simp)).cell 0, (h.row HYr.out (by simp)).cell 1, text_of_row (by rw [← HNN.out]; exact ownsRow_keptN HOw.out h (fun j c hj => by cases hj; simpa using hgl)) (by intro hv; cases hv) Tryz.underlying22 Tryz.underlying5 Tryz.underlying9, h⟩)
        clear hz0' hz1' hm64 hgs hs0 hs1 hgl
        go_wp2_with fail
        go_region_held3 (fun x => x.cell? ⟨w.heap.size, 0, none⟩ = some (.slice p1 xs.length c1) ∧ x.cell? ⟨w.heap.size, 1, none⟩ = some (.slice p2 ps.length c2) ∧ (convert 22 9 (.slice (some ⟨g, 0, none⟩) N cap)).run Tryz.prog x = .ok (.string b) x ∧ Kept [w.heap.size + 1] wr x)
          ((go_split_ands; refine HSS.out _ ?_; repeat (first | with_reducible assumption | with_reducible exact Kept.refl _ _ | with_reducible refine Kept.drew ?_ | with_reducible refine Kept.set ?_ (by simp) _)))
          ((first
            | (go_at_call 44; go_split_ands; refine (l02Copy_any _ _ xs ps _ hn hn2 (Kept.reads (S := [w.heap.size + 1]) (by assumption) (HRw.out.below HBr.out (Nat.le_refl _)) (fun x hx => by have := HRw.out.leads x hx; simp; omega)) (Kept.readsP (S := [w.heap.size + 1]) (by assumption) (HPw.out.below HBr.out (Nat.le_refl _)) (fun x hx => by have := HPw.out.leads x hx; simp; omega))).mono ?_; rintro e w7 ⟨us, up, rfl, o1, o2, dd, _, hb7⟩
               have hK7 : Kept [w.heap.size + 1] wr w7 := Kept.below (by assumption) hb7
               obtain ⟨s1, s2, s3, rfl⟩ := o1.isSlice
               obtain ⟨s4, s5, s6, rfl⟩ := o2.isSlice
               have r7 : Row w7 (w.heap.size + 1) 31 [.slice none 0 0, .slice none 0 0, .string ⟨#[]⟩, .int .i64 0, .int .i64 0] := Row.after hb7 HXr.out.drew
               have d0 : w7.cell? ⟨w.heap.size + 1, 0, none⟩ = some (.slice none 0 0) := r7.cell 0
               have d1 : w7.cell? ⟨w.heap.size + 1, 1, none⟩ = some (.slice none 0 0) := r7.cell 1
               have d2 : w7.cell? ⟨w.heap.size + 1, 2, none⟩ = some (.string ⟨#[]⟩) := r7.cell 2
               have d3 : w7.cell? ⟨w.heap.size + 1, 3, none⟩ = some (.int .i64 0) := r7.cell 3
               have d4 : w7.cell? ⟨w.heap.size + 1, 4, none⟩ = some (.int .i64 0) := r7.cell 4
               have f0 := r7.free 0
               have f1 := r7.free 1
               have f2 := r7.free 2
               have f3 := r7.free 3
               have f4 := r7.free 4
               have HR7 := hide r7
               have HB7 := hide (HBr.out.trans ((below_drew hb7).mono HBr.out.size))
               have O1 := hide o1
               have O2 := hide o2
               have DD := hide dd
               clear hb7 r7 o1 o2 dd)))
        all_goals
          obtain ⟨q0, q1, q2, q3, q4, KF⟩ := five HR7.out (.slice s1 s2 s3) (.slice s4 s5 s6) (.string b) (.int .i64 gen) (.int .i64 0)
          have hwl := HXr.out.lt
          clear d0 d1 d2 d3 d4 f0 f1 f2 f3 f4
          go_wp2
          exact bodyPost_ret (v := .agg #[.slice s1 s2 s3, .slice s4 s5 s6, .string b, .int .i64 gen, .int .i64 0]) (by simp [results, Tryz.results12, go_sem, q0, q1, q2, q3, q4]) rfl
            ⟨by rw [HF5.out]; exact ⟨_, _, rfl, (O1.out.kept KF (fun x hx => by have := (O1.out.leads x hx).1; simp at this ⊢; omega)).mono HBr.out.size, (O2.out.kept KF (fun x hx => by have := (O2.out.leads x hx).1; simp at this ⊢; omega)).mono HBr.out.size, DD.out⟩, KF.toBelow HB7.out HB7.out.size (by simp)⟩
  · have HF := hide (show areaOut xs ps = aill code by unfold areaOut; rw [HOK.out, ← Hr.out, if_neg (by simp), if_pos hc])
    have hc' : (code != 0) = true := by simpa using hc
    go_wp2_with fail
    refine (l03Ill_any _ _).mono ?_
    rintro e w3 ⟨rfl, hb3⟩
    have R3 := Row.after hb3 HX2.out
    have HB3 := hide (HB2.out.trans (hb3.mono HB2.out.size))
    have c0 : w3.cell? ⟨w.heap.size + 1, 0, none⟩ = some (.slice none 0 0) := R3.cell 0
    have c1' : w3.cell? ⟨w.heap.size + 1, 1, none⟩ = some (.slice none 0 0) := R3.cell 1
    have c2' : w3.cell? ⟨w.heap.size + 1, 2, none⟩ = some (.string ⟨#[]⟩) := R3.cell 2
    have c3 : w3.cell? ⟨w.heap.size + 1, 3, none⟩ = some (.int .i64 0) := R3.cell 3
    have c4 : w3.cell? ⟨w.heap.size + 1, 4, none⟩ = some (.int .i64 0) := R3.cell 4
    have f0 := R3.free 0
    have f1 := R3.free 1
    have f2 := R3.free 2
    have f3 := R3.free 3
    have f4 := R3.free 4
    have HR3 := hide R3
    clear hb3 R3
    go_wp2
    obtain ⟨q0, q1, q2, q3, q4, KF⟩ := five HR3.out (.slice none 0 0) (.slice none 0 0) (.string ⟨#[]⟩) (.int .i64 0) (.int .i64 code)
    exact bodyPost_ret (v := .agg #[.slice none 0 0, .slice none 0 0, .string ⟨#[]⟩, .int .i64 0, .int .i64 code]) (by simp [results, Tryz.results12, go_sem, q0, q1, q2, q3, q4]) rfl
      ⟨by rw [HF.out]; exact AOutIs.ill _ _ _, KF.toBelow HB3.out HB3.out.size (by simp)⟩

theorem specAreaRead_any (vs vp : Value) (xs : List ByteArray) (ps : List (Int × ByteArray)) (w : World) (hn : xs.length ≤ 1048576) (hn2 : ps.length ≤ 1048576) (hr : Reads w vs xs) (hp : ReadsP w vp ps) :
    Calls Tryz.prog 12 #[.agg #[vs, vp]] w fun e w' => AOutIs w.heap.size e w' (areaOut xs ps) ∧ Below w.heap.size w w' := by
  cases hok : right xs ps with
  | false =>
    have h : areaOut xs ps = aill 1 := by unfold areaOut; rw [if_pos hok]
    rw [h]; exact specAreaRead_ill vs vp xs ps w hn hn2 hr hp hok
  | true => exact specAreaRead_rest vs vp xs ps w hn hn2 hr hp hok
end Go.Proofs.YtkmehbgepkilkaaGreatDoor

/- The specification's AreaPut: the steps, and the calls ahead of them. -/
namespace Go.Proofs.YtkmehbgepkilkaaGreatDoor
open Go.RowKit

/-- The piece of a text that stands in its sector k. -/
def piece (d : ByteArray) (k : Nat) : ByteArray := d.extract (64 * k) (min d.size (64 * (k + 1)))
def cuts (d : ByteArray) : Nat := (d.size + 63) / 64
/-- The steps of a text that is put: each sector, a flush, the head, a flush. -/
def putList (h : Int) (side gen : Int) (d : ByteArray) : List (Bool × Int × ByteArray) :=
  (List.range (cuts d)).map (fun (k : Nat) => (false, 1 + (1 - side) * h + (k : Int), piece d k)) ++ [(true, 0, ⟨#[]⟩), (false, 0, headOf (gen + 1) (1 - side) d.size), (true, 0, ⟨#[]⟩)]
theorem putList_len (h side gen : Int) (d : ByteArray) : (putList h side gen d).length = cuts d + 3 := by unfold putList; simp
theorem putList_write (h side gen : Int) (d : ByteArray) (k : Nat) (hk : k < cuts d) (hl : k < (putList h side gen d).length) : (putList h side gen d)[k] = (false, 1 + (1 - side) * h + (k : Int), piece d k) := by
  unfold putList at hl ⊢
  rw [List.getElem_append_left (by simpa using hk)]
  simp
theorem putList_head (h side gen : Int) (d : ByteArray) (hl : cuts d + 1 < (putList h side gen d).length) : (putList h side gen d)[cuts d + 1] = (false, 0, headOf (gen + 1) (1 - side) d.size) := by
  unfold putList at hl ⊢
  rw [List.getElem_append_right (by simp)]
  simp
theorem putList_flush (h side gen : Int) (d : ByteArray) (k : Nat) (h1 : cuts d ≤ k) (h2 : k ≠ cuts d + 1) (hl : k < (putList h side gen d).length) : ((putList h side gen d)[k]).1 = true := by
  have hl' := hl
  rw [putList_len] at hl'
  unfold putList at hl ⊢
  rw [List.getElem_append_right (by simpa using h1)]
  simp only [List.length_map, List.length_range]
  rcases (show k - cuts d = 0 ∨ k - cuts d = 2 by omega) with e | e
  · simp only [e]; rfl
  · simp only [e]; rfl
def putOut (xs : List ByteArray) (ps : List (Int × ByteArray)) (d : ByteArray) (a : Int) : AOut :=
  if 8000 < d.size then aill 2
  else if right xs ps = false then aill 1
  else if (areaOut xs ps).c ≠ 0 then aill (areaOut xs ps).c
  else if 64 * half xs.length < (d.size : Int) ∨ 1000000 ≤ (areaOut xs ps).g then aill 9
  else if (runOut ((putList (half xs.length) (seen xs ps).2.1 (areaOut xs ps).g d).take a.toNat) xs ps).c = 0 then
    ⟨(runOut ((putList (half xs.length) (seen xs ps).2.1 (areaOut xs ps).g d).take a.toNat) xs ps).xs, (runOut ((putList (half xs.length) (seen xs ps).2.1 (areaOut xs ps).g d).take a.toNat) xs ps).ps, ⟨#[]⟩, 0, 0⟩
  else aill (runOut ((putList (half xs.length) (seen xs ps).2.1 (areaOut xs ps).g d).take a.toNat) xs ps).c
theorem areaOut_ok {xs : List ByteArray} {ps : List (Int × ByteArray)} (hok : right xs ps = true) (h : (areaOut xs ps).c = 0) : (seen xs ps).2.2.2 = 0 ∧ (areaOut xs ps).g = (seen xs ps).1 ∧ (areaOut xs ps).xs = xs ∧ (areaOut xs ps).ps = ps := by
  unfold areaOut at h ⊢
  rw [hok] at h ⊢
  simp only [Bool.true_eq_false, if_false] at h ⊢
  by_cases hs : (seen xs ps).2.2.2 = 0
  · rw [if_neg (by simpa using hs)] at h ⊢
    split
    · exact ⟨hs, rfl, rfl, rfl⟩
    · rename_i hf; rw [if_neg hf] at h; simp [aill] at h
  · rw [if_pos hs] at h; exact absurd h (by simpa [aill] using hs)
end Go.Proofs.YtkmehbgepkilkaaGreatDoor

/- The specification's AreaPut: the walk. -/
namespace Go.Proofs.YtkmehbgepkilkaaGreatDoor
open Go.RowKit

set_option maxHeartbeats 4000000 in
theorem specAreaPut_size (vs vp : Value) (xs : List ByteArray) (ps : List (Int × ByteArray)) (d : ByteArray) (a : Int) (w : World) (hd : d.size ≤ 1048576) (hr : Reads w vs xs) (hp : ReadsP w vp ps) (hz : 8000 < d.size) :
    Calls Tryz.prog 13 #[.agg #[vs, vp], .string d, .int .i64 a] w fun e w' => AOutIs w.heap.size e w' (aill 2) ∧ Below w.heap.size w w' := by
  have hz' : (8000 : Int) < (d.size : Int) := by omega
  have hb0 : Below w.heap.size w ((w.alloc (.cells #[vs, vp] 26)).alloc (.cells #[.slice none 0 0, .slice none 0 0, .string ⟨#[]⟩, .int .i64 0, .int .i64 0] 31)) :=
    ((Below.refl _ _).alloc (Nat.le_refl _) _).alloc (by simp) _
  have HB0 := hide hb0
  obtain ⟨p1, c1, rfl, hq⟩ := hr
  obtain ⟨p2, c2, rfl, hq2⟩ := hp
  have R0 := (row_new w [.slice p1 xs.length c1, .slice p2 ps.length c2] 26).alloc (.cells #[.slice none 0 0, .slice none 0 0, .string ⟨#[]⟩, .int .i64 0, .int .i64 0] 31)
  have R1 := row_new (w.alloc (.cells #[.slice p1 xs.length c1, .slice p2 ps.length c2] 26)) [.slice none 0 0, .slice none 0 0, .string ⟨#[]⟩, .int .i64 0, .int .i64 0] 31
  simp only [World.size_alloc] at R1
  have HR0 := hide R0
  have HR1 := hide R1
  clear hb0 hq hq2 R1 R0
  go_enter Tryz.func13, Tryz.ntmps13
  go_wp2_with fail
  refine (l03Ill_any _ _).mono ?_
  rintro e wz ⟨rfl, hbz⟩
  have Rz := Row.after hbz HR1.out
  have HBz := hide (HB0.out.trans (hbz.mono HB0.out.size))
  have c0 : wz.cell? ⟨w.heap.size + 1, 0, none⟩ = some (.slice none 0 0) := Rz.cell 0
  have c1' : wz.cell? ⟨w.heap.size + 1, 1, none⟩ = some (.slice none 0 0) := Rz.cell 1
  have c2' : wz.cell? ⟨w.heap.size + 1, 2, none⟩ = some (.string ⟨#[]⟩) := Rz.cell 2
  have c3 : wz.cell? ⟨w.heap.size + 1, 3, none⟩ = some (.int .i64 0) := Rz.cell 3
  have c4 : wz.cell? ⟨w.heap.size + 1, 4, none⟩ = some (.int .i64 0) := Rz.cell 4
  have f0 := Rz.free 0
  have f1 := Rz.free 1
  have f2 := Rz.free 2
  have f3 := Rz.free 3
  have f4 := Rz.free 4
  have HRz := hide Rz
  clear hbz Rz
  go_wp2
  obtain ⟨q0, q1, q2, q3, q4, KF⟩ := five HRz.out (.slice none 0 0) (.slice none 0 0) (.string ⟨#[]⟩) (.int .i64 0) (.int .i64 2)
  exact bodyPost_ret (v := .agg #[.slice none 0 0, .slice none 0 0, .string ⟨#[]⟩, .int .i64 0, .int .i64 2]) (by simp [results, Tryz.results13, go_sem, q0, q1, q2, q3, q4]) rfl
    ⟨AOutIs.ill _ _ _, KF.toBelow HBz.out HBz.out.size (by simp)⟩

set_option maxHeartbeats 4000000 in
theorem specAreaPut_ill (vs vp : Value) (xs : List ByteArray) (ps : List (Int × ByteArray)) (d : ByteArray) (a : Int) (w : World) (hn : xs.length ≤ 1048576) (hn2 : ps.length ≤ 1048576) (hd : d.size ≤ 1048576) (hr : Reads w vs xs) (hp : ReadsP w vp ps) (hz : d.size ≤ 8000) (hok : right xs ps = false) :
    Calls Tryz.prog 13 #[.agg #[vs, vp], .string d, .int .i64 a] w fun e w' => AOutIs w.heap.size e w' (aill 1) ∧ Below w.heap.size w w' := by
  have hz' : ¬ (8000 : Int) < (d.size : Int) := by omega
  have hb0 : Below w.heap.size w ((w.alloc (.cells #[vs, vp] 26)).alloc (.cells #[.slice none 0 0, .slice none 0 0, .string ⟨#[]⟩, .int .i64 0, .int .i64 0] 31)) :=
    ((Below.refl _ _).alloc (Nat.le_refl _) _).alloc (by simp) _
  have HR := hide (hr.below hb0 (Nat.le_refl _))
  have HP := hide (hp.below hb0 (Nat.le_refl _))
  have HRw := hide hr
  have HPw := hide hp
  have HB0 := hide hb0
  obtain ⟨p1, c1, rfl, hq⟩ := hr
  obtain ⟨p2, c2, rfl, hq2⟩ := hp
  have R0 := (row_new w [.slice p1 xs.length c1, .slice p2 ps.length c2] 26).alloc (.cells #[.slice none 0 0, .slice none 0 0, .string ⟨#[]⟩, .int .i64 0, .int .i64 0] 31)
  have R1 := row_new (w.alloc (.cells #[.slice p1 xs.length c1, .slice p2 ps.length c2] 26)) [.slice none 0 0, .slice none 0 0, .string ⟨#[]⟩, .int .i64 0, .int .i64 0] 31
  simp only [World.size_alloc] at R1
  have HR0 := hide R0
  have HR1 := hide R1
  clear hb0 hq hq2 R1 R0
  go_enter Tryz.func13, Tryz.ntmps13
  go_wp2_with fail
  refine (specRight_any _ _ xs ps _ hn hn2 HR.out HP.out).mono ?_
  rw [hok]
  rintro e w1 ⟨rfl, hb1⟩
  have HB1 := hide (HB0.out.trans (hb1.mono HB0.out.size))
  have HX1 := hide (HR1.out.below hb1 (by simp))
  have HY1 := hide (HR0.out.below hb1 (by simp; omega))
  have HRa := hide (HR.out.below hb1 (Nat.le_refl _))
  have HPa := hide (HP.out.below hb1 (Nat.le_refl _))
  have a0 : w1.cell? ⟨w.heap.size, 0, none⟩ = some (.slice p1 xs.length c1) := HY1.out.cell 0
  have a1 : w1.cell? ⟨w.heap.size, 1, none⟩ = some (.slice p2 ps.length c2) := HY1.out.cell 1
  clear hb1 HR HP HR1 HR0 HB0
  go_wp2_with fail
  refine (l03Ill_any _ _).mono ?_
  rintro e wz ⟨rfl, hbz⟩
  have Rz := Row.after hbz HX1.out
  have HBz := hide (HB1.out.trans (hbz.mono HB1.out.size))
  have c0 : wz.cell? ⟨w.heap.size + 1, 0, none⟩ = some (.slice none 0 0) := Rz.cell 0
  have c1' : wz.cell? ⟨w.heap.size + 1, 1, none⟩ = some (.slice none 0 0) := Rz.cell 1
  have c2' : wz.cell? ⟨w.heap.size + 1, 2, none⟩ = some (.string ⟨#[]⟩) := Rz.cell 2
  have c3 : wz.cell? ⟨w.heap.size + 1, 3, none⟩ = some (.int .i64 0) := Rz.cell 3
  have c4 : wz.cell? ⟨w.heap.size + 1, 4, none⟩ = some (.int .i64 0) := Rz.cell 4
  have f0 := Rz.free 0
  have f1 := Rz.free 1
  have f2 := Rz.free 2
  have f3 := Rz.free 3
  have f4 := Rz.free 4
  have HRz := hide Rz
  clear hbz Rz
  go_wp2
  obtain ⟨q0, q1, q2, q3, q4, KF⟩ := five HRz.out (.slice none 0 0) (.slice none 0 0) (.string ⟨#[]⟩) (.int .i64 0) (.int .i64 1)
  exact bodyPost_ret (v := .agg #[.slice none 0 0, .slice none 0 0, .string ⟨#[]⟩, .int .i64 0, .int .i64 1]) (by simp [results, Tryz.results13, go_sem, q0, q1, q2, q3, q4]) rfl
    ⟨AOutIs.ill _ _ _, KF.toBelow HBz.out HBz.out.size (by simp)⟩

set_option maxRecDepth 100000 in
set_option maxHeartbeats 8000000 in
theorem specAreaPut_rest (vs vp : Value) (xs : List ByteArray) (ps : List (Int × ByteArray)) (d : ByteArray) (a : Int) (w : World) (hn : xs.length ≤ 1048576) (hn2 : ps.length ≤ 1048576) (hd : d.size ≤ 1048576) (hr : Reads w vs xs) (hp : ReadsP w vp ps) (hz : d.size ≤ 8000) (hok : right xs ps = true) :
    Calls Tryz.prog 13 #[.agg #[vs, vp], .string d, .int .i64 a] w fun e w' => AOutIs w.heap.size e w' (putOut xs ps d a) ∧ Below w.heap.size w w' := by
  have hz' : ¬ (8000 : Int) < (d.size : Int) := by omega
  have HOK := hide hok
  have hlen := right_ge hok
  have hb0 : Below w.heap.size w ((w.alloc (.cells #[vs, vp] 26)).alloc (.cells #[.slice none 0 0, .slice none 0 0, .string ⟨#[]⟩, .int .i64 0, .int .i64 0] 31)) :=
    ((Below.refl _ _).alloc (Nat.le_refl _) _).alloc (by simp) _
  have HR := hide (hr.below hb0 (Nat.le_refl _))
  have HP := hide (hp.below hb0 (Nat.le_refl _))
  have HRw := hide hr
  have HPw := hide hp
  have HB0 := hide hb0
  obtain ⟨p1, c1, rfl, hq⟩ := hr
  obtain ⟨p2, c2, rfl, hq2⟩ := hp
  have R0 := (row_new w [.slice p1 xs.length c1, .slice p2 ps.length c2] 26).alloc (.cells #[.slice none 0 0, .slice none 0 0, .string ⟨#[]⟩, .int .i64 0, .int .i64 0] 31)
  have R1 := row_new (w.alloc (.cells #[.slice p1 xs.length c1, .slice p2 ps.length c2] 26)) [.slice none 0 0, .slice none 0 0, .string ⟨#[]⟩, .int .i64 0, .int .i64 0] 31
  simp only [World.size_alloc] at R1
  have HR0 := hide R0
  have HR1 := hide R1
  clear hb0 hq hq2 R1 R0
  go_enter Tryz.func13, Tryz.ntmps13
  go_wp2_with fail
  refine (specRight_any _ _ xs ps _ hn hn2 HR.out HP.out).mono ?_
  rw [HOK.out]
  clear hok
  rintro e w1 ⟨rfl, hb1⟩
  have HB1 := hide (HB0.out.trans (hb1.mono HB0.out.size))
  have HX1 := hide (HR1.out.below hb1 (by simp))
  have HY1 := hide (HR0.out.below hb1 (by simp; omega))
  have HRa := hide (HR.out.below hb1 (Nat.le_refl _))
  have HPa := hide (HP.out.below hb1 (Nat.le_refl _))
  have a0 : w1.cell? ⟨w.heap.size, 0, none⟩ = some (.slice p1 xs.length c1) := HY1.out.cell 0
  have a1 : w1.cell? ⟨w.heap.size, 1, none⟩ = some (.slice p2 ps.length c2) := HY1.out.cell 1
  clear hb1 HR HP HR1 HR0 HB0
  go_wp2_with fail
  obtain ⟨x, Hx⟩ : ∃ x, Hid (x = areaOut xs ps) := ⟨_, rfl⟩
  refine (specAreaRead_any _ _ xs ps _ hn hn2 HRa.out HPa.out).mono ?_
  rw [← Hx.out]
  rintro e w2 ⟨⟨us, up, rfl, o1, o2, dd⟩, hb2⟩
  obtain ⟨s1, s2, s3, rfl⟩ := o1.isSlice
  obtain ⟨s4, s5, s6, rfl⟩ := o2.isSlice
  have bn := below_new w2 (.cells #[.slice s1 s2 s3, .slice s4 s5 s6, .string x.t, .int .i64 x.g, .int .i64 x.c] 31)
  have hb2a := hb2.trans (bn.mono hb2.size)
  have HB2 := hide (HB1.out.trans (hb2a.mono HB1.out.size))
  have HX2 := hide (Row.after hb2a HX1.out)
  have HY2 := hide (Row.after hb2a HY1.out)
  have HZ2 := hide (row_new w2 [.slice s1 s2 s3, .slice s4 s5 s6, .string x.t, .int .i64 x.g, .int .i64 x.c] 31)
  have hzz : w.heap.size + 1 < w2.heap.size := Nat.lt_of_lt_of_le HX1.out.lt hb2.size
  clear bn hb2 hb2a o1 o2 dd a0 a1 HX1 HY1 HRa HPa
  by_cases hc : x.c = 0
  · have hco := areaOut_ok HOK.out (by rw [← Hx.out]; exact hc)
    rw [← Hx.out] at hco
    obtain ⟨hs0, hg, hxx, hxp⟩ := hco
    have hsk := seen_ok hs0
    obtain ⟨r, Hr⟩ : ∃ r, Hid (r = seen xs ps) := ⟨_, rfl⟩
    rw [← Hr.out] at hg hsk hs0
    obtain ⟨gen, side, size, code⟩ := r
    simp only at hg hsk hs0
    obtain ⟨k1, ⟨k2, k3⟩, k4, k5⟩ := hsk
    have HHC := hide hc
    have HHG := hide hg
    have hc0 : (x.c != 0) = false := by rw [hc]; rfl
    have hh : 0 ≤ half xs.length ∧ half xs.length ≤ 1048576 ∧ 2 * half xs.length ≤ (xs.length : Int) - 1 := by unfold half; omega
    have HKK := hide (And.intro k1 (And.intro k2 k3))
    have e0 : (w2.alloc (.cells #[.slice s1 s2 s3, .slice s4 s5 s6, .string x.t, .int .i64 x.g, .int .i64 x.c] 31)).cell? ⟨w.heap.size, 0, none⟩ = some (.slice p1 xs.length c1) := HY2.out.cell 0
    have e1 : (w2.alloc (.cells #[.slice s1 s2 s3, .slice s4 s5 s6, .string x.t, .int .i64 x.g, .int .i64 x.c] 31)).cell? ⟨w.heap.size, 1, none⟩ = some (.slice p2 ps.length c2) := HY2.out.cell 1
    clear hc hg hs0 hxx hxp k4 k5 k1
    go_wp2_with fail
    refine (specSeen_any _ _ xs ps _ HOK.out hn hn2 (HRw.out.below HB2.out (Nat.le_refl _)) (HPw.out.below HB2.out (Nat.le_refl _))).mono ?_
    rw [← Hr.out]
    rintro e w3 ⟨he, hb3⟩
    rw [show seenV (gen, side, size, code) = .tuple #[.int .i64 gen, .int .i64 side, .int .i64 size, .int .i64 code] from rfl] at he
    subst he
    have HB3 := hide (HB2.out.trans (hb3.mono HB2.out.size))
    have HX3 := hide (Row.after hb3 HX2.out)
    have HY3 := hide (Row.after hb3 HY2.out)
    have HZ3 := hide (Row.after hb3 HZ2.out)
    have g0 : w3.cell? ⟨w.heap.size, 0, none⟩ = some (.slice p1 xs.length c1) := HY3.out.cell 0
    have g1 : w3.cell? ⟨w.heap.size, 1, none⟩ = some (.slice p2 ps.length c2) := HY3.out.cell 1
    clear hb3 e0 e1 HX2 HY2 HZ2
    go_wp2_with fail
    refine (l03Half_any _ _ xs _ hlen.1 hn (HRw.out.below HB3.out (Nat.le_refl _))).mono ?_
    rintro e w4 ⟨rfl, hb4⟩
    have HB4 := hide (HB3.out.trans (hb4.mono HB3.out.size))
    have HX4 := hide (Row.after hb4 HX3.out)
    have HY4 := hide (Row.after hb4 HY3.out)
    have HZ4 := hide (Row.after hb4 HZ3.out)
    have h0 : w4.cell? ⟨w.heap.size, 0, none⟩ = some (.slice p1 xs.length c1) := HY4.out.cell 0
    have h1 : w4.cell? ⟨w.heap.size, 1, none⟩ = some (.slice p2 ps.length c2) := HY4.out.cell 1
    have z3 : w4.cell? ⟨w2.heap.size, 3, none⟩ = some (.int .i64 x.g) := HZ4.out.cell 3
    have hw : IntKind.i64.wrap (64 * half xs.length) = 64 * half xs.length := by rw [IntKind.wrap_i64]; omega
    have HZL := hide HZ4.out.lt
    clear hb4 g0 g1 HX3 HY3 HZ3
    by_cases hroom : 64 * half xs.length < (d.size : Int)
    · have HF := hide (show putOut xs ps d a = aill 9 by unfold putOut; rw [if_neg (by omega), HOK.out, if_neg (by simp), ← Hx.out, if_neg (fun h => h HHC.out), if_pos (.inl hroom)])
      have hrd : decide (64 * half xs.length < (d.size : Int)) = true := decide_eq_true hroom
      go_wp2_with fail
      refine (l03Ill_any _ _).mono ?_
      rintro e wz ⟨rfl, hbz⟩
      have Rz := Row.after hbz HX4.out
      have HBz := hide (HB4.out.trans (hbz.mono HB4.out.size))
      have c0 : wz.cell? ⟨w.heap.size + 1, 0, none⟩ = some (.slice none 0 0) := Rz.cell 0
      have c1' : wz.cell? ⟨w.heap.size + 1, 1, none⟩ = some (.slice none 0 0) := Rz.cell 1
      have c2' : wz.cell? ⟨w.heap.size + 1, 2, none⟩ = some (.string ⟨#[]⟩) := Rz.cell 2
      have c3 : wz.cell? ⟨w.heap.size + 1, 3, none⟩ = some (.int .i64 0) := Rz.cell 3
      have c4 : wz.cell? ⟨w.heap.size + 1, 4, none⟩ = some (.int .i64 0) := Rz.cell 4
      have f0 := Rz.free 0
      have f1 := Rz.free 1
      have f2 := Rz.free 2
      have f3 := Rz.free 3
      have f4 := Rz.free 4
      have HRz := hide Rz
      clear hbz Rz
      go_wp2
      obtain ⟨q0, q1, q2, q3, q4, KF⟩ := five HRz.out (.slice none 0 0) (.slice none 0 0) (.string ⟨#[]⟩) (.int .i64 0) (.int .i64 9)
      exact bodyPost_ret (v := .agg #[.slice none 0 0, .slice none 0 0, .string ⟨#[]⟩, .int .i64 0, .int .i64 9]) (by simp [results, Tryz.results13, go_sem, q0, q1, q2, q3, q4]) rfl
        ⟨by rw [HF.out]; exact AOutIs.ill _ _ _, KF.toBelow HBz.out HBz.out.size (by simp)⟩
    · have hrd : decide (64 * half xs.length < (d.size : Int)) = false := decide_eq_false hroom
      by_cases hgen : 1000000 ≤ x.g
      · have HF := hide (show putOut xs ps d a = aill 9 by unfold putOut; rw [if_neg (by omega), HOK.out, if_neg (by simp), ← Hx.out, if_neg (fun h => h HHC.out), if_pos (.inr hgen)])
        have hgd : decide (1000000 ≤ x.g) = true := decide_eq_true hgen
        go_wp2_with fail
        refine (l03Ill_any _ _).mono ?_
        rintro e wz ⟨rfl, hbz⟩
        have Rz := Row.after hbz HX4.out
        have HBz := hide (HB4.out.trans (hbz.mono HB4.out.size))
        have c0 : wz.cell? ⟨w.heap.size + 1, 0, none⟩ = some (.slice none 0 0) := Rz.cell 0
        have c1' : wz.cell? ⟨w.heap.size + 1, 1, none⟩ = some (.slice none 0 0) := Rz.cell 1
        have c2' : wz.cell? ⟨w.heap.size + 1, 2, none⟩ = some (.string ⟨#[]⟩) := Rz.cell 2
        have c3 : wz.cell? ⟨w.heap.size + 1, 3, none⟩ = some (.int .i64 0) := Rz.cell 3
        have c4 : wz.cell? ⟨w.heap.size + 1, 4, none⟩ = some (.int .i64 0) := Rz.cell 4
        have f0 := Rz.free 0
        have f1 := Rz.free 1
        have f2 := Rz.free 2
        have f3 := Rz.free 3
        have f4 := Rz.free 4
        have HRz := hide Rz
        clear hbz Rz
        go_wp2
        obtain ⟨q0, q1, q2, q3, q4, KF⟩ := five HRz.out (.slice none 0 0) (.slice none 0 0) (.string ⟨#[]⟩) (.int .i64 0) (.int .i64 9)
        exact bodyPost_ret (v := .agg #[.slice none 0 0, .slice none 0 0, .string ⟨#[]⟩, .int .i64 0, .int .i64 9]) (by simp [results, Tryz.results13, go_sem, q0, q1, q2, q3, q4]) rfl
          ⟨by rw [HF.out]; exact AOutIs.ill _ _ _, KF.toBelow HBz.out HBz.out.size (by simp)⟩
      · have hgd : decide (1000000 ≤ x.g) = false := decide_eq_false hgen
        have HSZ := hide (And.intro hroom hgen)
        clear hroom hgen
        go_wp2_with fail
        refine (l02Copy_any _ _ xs ps _ hn hn2 (HRw.out.below HB4.out (Nat.le_refl _)) (HPw.out.below HB4.out (Nat.le_refl _))).mono ?_
        rintro e w5 ⟨vs5, vp5, rfl, o1, o2, dd, _, hb5⟩
        obtain ⟨u1, u2, u3, rfl⟩ := o1.isSlice
        obtain ⟨u4, u5, u6, rfl⟩ := o2.isSlice
        have bn := below_new w5 (.cells #[.slice u1 u2 u3, .slice u4 u5 u6] 26)
        have hb5a := hb5.trans (bn.mono hb5.size)
        have HB5 := hide (HB4.out.trans (hb5a.mono HB4.out.size))
        have HX5 := hide (Row.after hb5a HX4.out)
        have HY5 := hide (Row.after hb5a HY4.out)
        have HZ5 := hide (Row.after hb5a HZ4.out)
        have HD5 := hide (row_new w5 [.slice u1 u2 u3, .slice u4 u5 u6] 26)
        have O1 := hide ((o1.below bn (Nat.le_refl _)).mono (B' := w2.heap.size + 1) HZL.out)
        have O2 := hide ((o2.below bn (Nat.le_refl _)).mono (B' := w2.heap.size + 1) HZL.out)
        have NL := hide (And.intro (fun h => Nat.lt_irrefl _ (o1.leads _ h).2) (fun h => Nat.lt_irrefl _ (o2.leads _ h).2) : w5.heap.size ∉ leads (.slice u1 u2 u3) ∧ w5.heap.size ∉ leads (.slice u4 u5 u6))
        have DD := hide dd
        have hD5 : w2.heap.size < w5.heap.size := Nat.lt_of_lt_of_le HZL.out hb5.size
        obtain ⟨D, hD⟩ : ∃ D, D = w5.heap.size := ⟨_, rfl⟩
        rw [← hD] at HD5 NL hD5
        have HDD := hide hD
        obtain ⟨SS, HSS0⟩ : ∃ SS, Hid (SS = (putList (half xs.length) side x.g d).take a.toNat) := ⟨_, rfl⟩
        have hSL : SS.length = min a.toNat (cuts d + 3) := by rw [HSS0.out, List.length_take, putList_len]
        have HF := hide (show putOut xs ps d a = if (runOut SS xs ps).c = 0 then ⟨(runOut SS xs ps).xs, (runOut SS xs ps).ps, ⟨#[]⟩, 0, 0⟩ else aill (runOut SS xs ps).c by
          unfold putOut; rw [if_neg (by omega), HOK.out, if_neg (by simp), ← Hx.out, ← Hr.out, if_neg (fun h => h HHC.out), if_neg (by have := HSZ.out; omega), HSS0.out])
        have hcd : cuts d ≤ 200 := by unfold cuts; omega
        have hdv1 : IntKind.i64.wrap ((d.size : Int) + 64) = (d.size : Int) + 64 := by rw [IntKind.wrap_i64]; omega
        have hdv2 : IntKind.i64.wrap ((d.size : Int) + 64 - 1) = (d.size : Int) + 64 - 1 := by rw [IntKind.wrap_i64]; omega
        have hdv3 : ((d.size : Int) + 64 - 1).tdiv 64 = (cuts d : Int) := by unfold cuts; rw [Int.tdiv_eq_ediv_of_nonneg (by omega)]; omega
        have hdv4 : ((d.size : Int) + 64 - 1) / 64 = (cuts d : Int) := by unfold cuts; omega
        clear bn hb5 hb5a o1 o2 dd h0 h1 z3 hD hc0 hgd hrd
        go_wp2_with fail
        rw [← HDD.out]
        go_loopw [15] (fun i wr => ∃ (k : Nat) (ys : List ByteArray) (qs : List (Int × ByteArray)) (vs' vp' : Value), k ≤ SS.length ∧ i = .int .i64 k ∧ Hid (right ys qs = true) ∧ ys.length = xs.length ∧ Hid (runOut SS xs ps = runOut (SS.drop k) ys qs) ∧ Hid (Row wr D 26 [vs', vp']) ∧ Hid (OwnS 9 (w2.heap.size + 1) wr vs' ys) ∧ Hid (OwnP 61 (w2.heap.size + 1) wr vp' qs) ∧ Hid (∀ x ∈ leads vs', x ∉ leads vp') ∧ Hid (D ∉ leads vs' ∧ D ∉ leads vp') ∧
          Hid (Row wr w.heap.size 26 [.slice p1 xs.length c1, .slice p2 ps.length c2]) ∧ Hid (Row wr (w.heap.size + 1) 31 [.slice none 0 0, .slice none 0 0, .string ⟨#[]⟩, .int .i64 0, .int .i64 0]) ∧ Hid (Row wr w2.heap.size 31 [.slice s1 s2 s3, .slice s4 s5 s6, .string x.t, .int .i64 x.g, .int .i64 x.c]) ∧ Hid (Below w.heap.size w wr)) (fun i _ => SS.length - (intOf i).toNat)
        case atStart => exact ⟨0, xs, ps, _, _, Nat.zero_le _, rfl, HOK, rfl, rfl, HD5, O1, O2, DD, NL, HY5, HX5, HZ5, HB5⟩
        case round =>
          obtain ⟨k, ys, qs, vs', vp', hk, rfl, HOKk, hyl, HE, HDr, HO1, HO2, HDJ, HNL, HYr, HXr, HZr, HBr⟩ := hrel
          obtain ⟨l1, m1, n1, rfl⟩ := HO1.out.isSlice
          obtain ⟨l2, m2, n2, rfl⟩ := HO2.out.isSlice
          have d0 : wr.cell? ⟨D, 0, none⟩ = some (.slice l1 m1 n1) := HDr.out.cell 0
          have d1 : wr.cell? ⟨D, 1, none⟩ = some (.slice l2 m2 n2) := HDr.out.cell 1
          have hwl := HXr.out.lt
          by_cases hlt : k < SS.length
          · have ht1 : decide ((k : Int) < (cuts d : Int) + 3) = true := decide_eq_true (by omega)
            have ht2 : decide ((k : Int) < a) = true := decide_eq_true (by omega)
            have hSk : SS[k] = (putList (half xs.length) side x.g d)[k]'(by rw [putList_len]; omega) := by simp only [HSS0.out, List.getElem_take]
            have HRS0 := hide (show runOut SS xs ps = if (stepOut SS[k] ys qs).c = 0 then runOut (SS.drop (k + 1)) (stepOut SS[k] ys qs).xs (stepOut SS[k] ys qs).ps else illOut (stepOut SS[k] ys qs).c by rw [HE.out]; exact runOut_step SS k hlt ys qs)
            have HRT0 := hide (fun h : (stepOut SS[k] ys qs).c = 0 => stepOut_right (s := SS[k]) HOKk.out h)
            have HLN0 := hide (fun h : (stepOut SS[k] ys qs).c = 0 => stepOut_len (s := SS[k]) (xs := ys) (ps := qs) h)
            have hqs := right_len HOKk.out
            have bn := below_new wr (.cells #[.slice none 0 0, .slice none 0 0, .string ⟨#[]⟩, .int .i64 0] 69)
            have HBn := hide (HBr.out.trans (bn.mono HBr.out.size))
            have HDn := hide (Row.after bn HDr.out)
            have HXn := hide (Row.after bn HXr.out)
            have HYn := hide (Row.after bn HYr.out)
            have HZn := hide (Row.after bn HZr.out)
            have HYY := hide (row_new wr [.slice none 0 0, .slice none 0 0, .string ⟨#[]⟩, .int .i64 0] 69)
            have HRy := hide (HO1.out.reads.below bn (Nat.le_refl _))
            have HPy := hide (HO2.out.reads.below bn (Nat.le_refl _))
            have hdl := HDr.out.lt
            have b0 : (wr.alloc (.cells #[.slice none 0 0, .slice none 0 0, .string ⟨#[]⟩, .int .i64 0] 69)).cell? ⟨D, 0, none⟩ = some (.slice l1 m1 n1) := HDn.out.cell 0
            have b1 : (wr.alloc (.cells #[.slice none 0 0, .slice none 0 0, .string ⟨#[]⟩, .int .i64 0] 69)).cell? ⟨D, 1, none⟩ = some (.slice l2 m2 n2) := HDn.out.cell 1
            clear bn d0 d1
            obtain ⟨hq1, hq2, hq3⟩ := hqs
            by_cases hkn : k < cuts d
            · have tkn : decide ((k : Int) < (cuts d : Int)) = true := decide_eq_true (by omega)
              have hst := putList_write (half xs.length) side x.g d k hkn (by rw [putList_len]; omega)
              obtain ⟨pc, Hpc⟩ : ∃ h, Hid (h = piece d k) := ⟨_, rfl⟩
              have hps : pc.size ≤ 64 := by rw [Hpc.out]; unfold piece; rw [ByteArray.size_extract]; omega
              obtain ⟨o, Ho⟩ : ∃ o, Hid (o = writeOut ys qs (1 + (1 - side) * half xs.length + k) pc) := ⟨_, rfl⟩
              have hso : stepOut SS[k] ys qs = o := by rw [Ho.out, Hpc.out]; unfold stepOut; rw [hSk, hst]; rfl
              rw [hso] at HRS0 HRT0 HLN0
              have HRS := HRS0
              have HRT := HRT0
              have HLN := HLN0
              have hkk := HKK.out
              have hcs : 64 * k < d.size := by have := hkn; unfold cuts at this; omega
              have hws : IntKind.i64.wrap (1 - side) = 1 - side := by rw [IntKind.wrap_i64]; omega
              have hmm : (1 - side) * half xs.length = 0 ∨ (1 - side) * half xs.length = half xs.length := by
                rcases (show side = 0 ∨ side = 1 by omega) with e | e
                · right; rw [e]; simp
                · left; rw [e]; simp
              have hwf : IntKind.i64.wrap (1 + (1 - side) * half xs.length + (k : Int)) = 1 + (1 - side) * half xs.length + (k : Int) := by rw [IntKind.wrap_i64]; omega
              have hwk : IntKind.i64.wrap ((k : Int) * 64) = (k : Int) * 64 := by rw [IntKind.wrap_i64]; omega
              have hwk1 : IntKind.i64.wrap ((k : Int) + 1) = (k : Int) + 1 := by rw [IntKind.wrap_i64]; omega
              have hwk2 : IntKind.i64.wrap (((k : Int) + 1) * 64) = ((k : Int) + 1) * 64 := by rw [IntKind.wrap_i64]; omega
              have HMI := hide (show min (d.size : Int) (((k : Int) + 1) * 64) = ((min d.size (64 * (k + 1)) : Nat) : Int) by omega)
              obtain ⟨M, hM⟩ : ∃ M, M = min d.size (64 * (k + 1)) := ⟨_, rfl⟩
              rw [← hM] at HMI
              have hm1 : (k : Int) * 64 ≤ (M : Int) := by omega
              have hm2 : (M : Int) ≤ (d.size : Int) := by omega
              have hm3 : (0 : Int) ≤ (k : Int) * 64 := by omega
              have hm4 : ((k : Int) * 64).toNat = 64 * k := by omega
              have HPC := hide (show d.extract (64 * k) M = pc by rw [Hpc.out, hM]; rfl)
              have HSI := hide (show 0 ≤ 1 - side ∧ 1 - side ≤ 1 by omega)
              have HSS := hide (show ∀ x', Kept [wr.heap.size] (wr.alloc (.cells #[.slice none 0 0, .slice none 0 0, .string ⟨#[]⟩, .int .i64 0] 69)) x' → x'.cell? ⟨D, 0, none⟩ = some (.slice l1 m1 n1) ∧ x'.cell? ⟨D, 1, none⟩ = some (.slice l2 m2 n2) ∧ x'.cell? ⟨w.heap.size, 0, none⟩ = some (.slice p1 xs.length c1) ∧ x'.cell? ⟨w.heap.size, 1, none⟩ = some (.slice p2 ps.length c2) ∧ Kept [wr.heap.size] (wr.alloc (.cells #[.slice none 0 0, .slice none 0 0, .string ⟨#[]⟩, .int .i64 0] 69)) x' from
                fun x' h => ⟨(h.row HDn.out (by simp; omega)).cell 0, (h.row HDn.out (by simp; omega)).cell 1, (h.row HYn.out (by simp; omega)).cell 0, (h.row HYn.out (by simp; omega)).cell 1, h⟩)
              have HM := hide hM
              clear hso hst hSk hkk hkn k2 k3 hM hmm
              go_wp2_with fail
              go_region_held3 (fun x' => x'.cell? ⟨D, 0, none⟩ = some (.slice l1 m1 n1) ∧ x'.cell? ⟨D, 1, none⟩ = some (.slice l2 m2 n2) ∧ x'.cell? ⟨w.heap.size, 0, none⟩ = some (.slice p1 xs.length c1) ∧ x'.cell? ⟨w.heap.size, 1, none⟩ = some (.slice p2 ps.length c2) ∧ Kept [wr.heap.size] (wr.alloc (.cells #[.slice none 0 0, .slice none 0 0, .string ⟨#[]⟩, .int .i64 0] 69)) x')
                ((go_split_ands; refine HSS.out _ ?_; repeat (first | with_reducible assumption | with_reducible exact Kept.refl _ _ | with_reducible refine Kept.drew ?_ | with_reducible refine Kept.set ?_ (by simp) _)))
                ((first
                  | (go_at_call 42; go_split_ands; refine (l03First_any _ _ xs (1 - side) _ (by omega) hn HSI.out (HRw.out.below HBn.out.drew (Nat.le_refl _)) ⟨_, _, _, rfl⟩).mono ?_; rintro e w5h ⟨rfl, hbh⟩
                     have hBh := below_drew hbh
                     have hKh : Kept [wr.heap.size] (wr.alloc (.cells #[.slice none 0 0, .slice none 0 0, .string ⟨#[]⟩, .int .i64 0] 69)) w5h := (Kept.ofBelow hBh).mono (by simp)
                     have HBh := hide hBh
                     clear hbh hBh)
                  | (go_at_call 43; go_split_ands; refine (l01Min_any _ _ _).mono ?_; rw [HMI.out]; rintro e w5i ⟨rfl, rfl⟩)
                  | (go_at_call 46; go_split_ands; rw [HPC.out]; refine (specWrite_any _ _ ys qs _ pc _ (by omega) (by omega) (by omega) (HRy.out.below HBh.out (Nat.le_refl _)) (HPy.out.below HBh.out (Nat.le_refl _))).mono ?_; rw [← Ho.out]; rintro e w6 ⟨⟨us6, up6, rfl, o1, o2, dd⟩, hb6'⟩
                     have hb6 := HBh.out.trans (hb6'.mono HBh.out.size)
                     have hK6 : Kept [wr.heap.size] (wr.alloc (.cells #[.slice none 0 0, .slice none 0 0, .string ⟨#[]⟩, .int .i64 0] 69)) w6 := (Kept.ofBelow hb6).mono (by simp)
                     replace o1 := o1.mono HBh.out.size
                     replace o2 := o2.mono HBh.out.size
                     clear hb6'
                     have r3 : Row w6 wr.heap.size 69 [.slice none 0 0, .slice none 0 0, .string ⟨#[]⟩, .int .i64 0] := Row.after hb6 HYY.out
                     have y0 : w6.cell? ⟨wr.heap.size, 0, none⟩ = some (.slice none 0 0) := r3.cell 0
                     have y1 : w6.cell? ⟨wr.heap.size, 1, none⟩ = some (.slice none 0 0) := r3.cell 1
                     have y2 : w6.cell? ⟨wr.heap.size, 2, none⟩ = some (.string ⟨#[]⟩) := r3.cell 2
                     have y3 : w6.cell? ⟨wr.heap.size, 3, none⟩ = some (.int .i64 0) := r3.cell 3
                     have f0 := r3.free 0
                     have f1 := r3.free 1
                     have f2 := r3.free 2
                     have f3 := r3.free 3
                     have R3 := hide r3
                     have T1 := hide o1
                     have T2 := hide o2
                     have TD := hide dd
                     have hbw := HBn.out.trans (hb6.mono HBn.out.size)
                     have HB6 := hide hbw
                     have HD6 := hide (Row.after hb6 HDn.out)
                     have HX6 := hide (Row.after hb6 HXn.out)
                     have HY6 := hide (Row.after hb6 HYn.out)
                     have HZ6 := hide (Row.after hb6 HZn.out)
                     have hL1 := hide (fun x hx => (o1.leads x hx).1)
                     have hL2 := hide (fun x hx => (o2.leads x hx).1)
                     obtain ⟨i1, j1, t1, rfl⟩ := o1.isSlice
                     obtain ⟨i2, j2, t2, rfl⟩ := o2.isSlice
                     clear o1 o2 dd hbw r3 hb6
                     clear hKh)))
              obtain ⟨q0, q1, q2, q3, KF⟩ := four R3.out (.slice i1 j1 t1) (.slice i2 j2 t2) (.string o.t) (.int .i64 o.c)
              obtain ⟨X, hX⟩ : ∃ X, X = ((((w6.setCell ⟨wr.heap.size, 0, none⟩ (.slice i1 j1 t1)).setCell ⟨wr.heap.size, 1, none⟩ (.slice i2 j2 t2)).setCell ⟨wr.heap.size, 2, none⟩ (.string o.t)).setCell ⟨wr.heap.size, 3, none⟩ (.int .i64 o.c)) := ⟨_, rfl⟩
              rw [← hX] at q0 q1 q2 q3 KF
              have HBX := hide (KF.toBelow HB6.out HB6.out.size (by simp; omega))
              have HDX := hide (KF.row HD6.out (by simp; omega))
              have HXX := hide (KF.row HX6.out (by simp; omega))
              have HYX := hide (KF.row HY6.out (by simp; omega))
              have HZX := hide (KF.row HZ6.out (by simp; omega))
              have T1X := hide (T1.out.kept KF (fun x hx => by have := hL1.out x hx; simp at this ⊢; omega))
              have T2X := hide (T2.out.kept KF (fun x hx => by have := hL2.out x hx; simp at this ⊢; omega))
              have v0 : w6.cell? ⟨D, 0, none⟩ = some (.slice l1 m1 n1) := HD6.out.cell 0
              have v1 : w6.cell? ⟨D, 1, none⟩ = some (.slice l2 m2 n2) := HD6.out.cell 1
              have e0 := HD6.out.free 0
              have e1 := HD6.out.free 1
              have hne1 : ¬ D = wr.heap.size := by omega
              have hne2 : ¬ wr.heap.size = D := by omega
              clear q0 q1 q2 q3 KF
              subst hX
              by_cases hco : o.c = 0
              · have hco0 : (o.c != 0) = false := by rw [hco]; rfl
                have HE' := hide (show runOut SS xs ps = runOut (SS.drop (k + 1)) o.xs o.ps by rw [HRS.out, if_pos hco])
                have HOK' := hide (HRT.out hco)
                have hyl' : o.xs.length = xs.length := by rw [HLN.out hco]; exact hyl
                obtain ⟨z0, z1, KG⟩ := two HDX.out (.slice i1 j1 t1) (.slice i2 j2 t2)
                have HD' := hide (show Row ((((((w6.setCell ⟨wr.heap.size, 0, none⟩ (.slice i1 j1 t1)).setCell ⟨wr.heap.size, 1, none⟩ (.slice i2 j2 t2)).setCell ⟨wr.heap.size, 2, none⟩ (.string o.t)).setCell ⟨wr.heap.size, 3, none⟩ (.int .i64 o.c)).setCell ⟨D, 0, none⟩ (.slice i1 j1 t1)).setCell ⟨D, 1, none⟩ (.slice i2 j2 t2)) D 26 [.slice i1 j1 t1, .slice i2 j2 t2] from (HDX.out.set (j := 0) _).set (j := 1) _)
                have HB' := hide (KG.toBelow HBX.out HBX.out.size (by simp; omega))
                have HX' := hide (KG.row HXX.out (by simp; omega))
                have HY' := hide (KG.row HYX.out (by simp; omega))
                have HZ' := hide (KG.row HZX.out (by simp; omega))
                have T1' := hide ((T1X.out.kept KG (fun x hx => by have := hL1.out x hx; simp at this ⊢; omega)).mono (B' := w2.heap.size + 1) (by simp; omega))
                have T2' := hide ((T2X.out.kept KG (fun x hx => by have := hL2.out x hx; simp at this ⊢; omega)).mono (B' := w2.heap.size + 1) (by simp; omega))
                have NL' := hide (show D ∉ leads (.slice i1 j1 t1) ∧ D ∉ leads (.slice i2 j2 t2) from ⟨fun h => by have := hL1.out _ h; simp at this; omega, fun h => by have := hL2.out _ h; simp at this; omega⟩)
                clear hco KG z0 z1
                go_wp2_with fail
                go_roundw
                case rel => exact ⟨k + 1, o.xs, o.ps, _, _, by omega, by go_num, HOK', hyl', HE', HD', T1', T2', TD, NL', HY', HX', HZ', HB'⟩
                case measure => simp [intOf]; omega
              · have hco' : (o.c != 0) = true := by simpa using hco
                have HFF := hide (show putOut xs ps d a = aill o.c by rw [HF.out, HRS.out, if_neg hco, if_neg (by simpa [illOut] using hco)]; rfl)
                go_wp2_with fail
                refine (l03Ill_any _ _).mono ?_
                rintro e wz ⟨rfl, hbz⟩
                have Rz := Row.after hbz HXX.out
                have HBz := hide (HBX.out.trans (hbz.mono HBX.out.size))
                have c0 : wz.cell? ⟨w.heap.size + 1, 0, none⟩ = some (.slice none 0 0) := Rz.cell 0
                have c1' : wz.cell? ⟨w.heap.size + 1, 1, none⟩ = some (.slice none 0 0) := Rz.cell 1
                have c2' : wz.cell? ⟨w.heap.size + 1, 2, none⟩ = some (.string ⟨#[]⟩) := Rz.cell 2
                have c3 : wz.cell? ⟨w.heap.size + 1, 3, none⟩ = some (.int .i64 0) := Rz.cell 3
                have c4 : wz.cell? ⟨w.heap.size + 1, 4, none⟩ = some (.int .i64 0) := Rz.cell 4
                have f0 := Rz.free 0
                have f1 := Rz.free 1
                have f2 := Rz.free 2
                have f3 := Rz.free 3
                have f4 := Rz.free 4
                have HRz := hide Rz
                clear hbz Rz
                go_wp2
                obtain ⟨q0, q1, q2, q3, q4, KF⟩ := five HRz.out (.slice none 0 0) (.slice none 0 0) (.string ⟨#[]⟩) (.int .i64 0) (.int .i64 o.c)
                exact bodyPost_ret (v := .agg #[.slice none 0 0, .slice none 0 0, .string ⟨#[]⟩, .int .i64 0, .int .i64 o.c]) (by simp [results, Tryz.results13, go_sem, q0, q1, q2, q3, q4]) rfl
                  ⟨by rw [HFF.out]; exact AOutIs.ill _ _ _, KF.toBelow HBz.out HBz.out.size (by simp)⟩
            · have tkn : decide ((k : Int) < (cuts d : Int)) = false := decide_eq_false (by omega)
              by_cases hkh : k = cuts d + 1
              · have tkh : ((k : Int) == (cuts d : Int) + 1) = true := by simp; omega
                have hst : (putList (half xs.length) side x.g d)[k]'(by rw [putList_len]; omega) = (false, 0, headOf (x.g + 1) (1 - side) d.size) := by simp only [hkh]; exact putList_head (half xs.length) side x.g d (by rw [putList_len]; omega)
                obtain ⟨hd', Hh⟩ : ∃ h, Hid (h = headOf (x.g + 1) (1 - side) d.size) := ⟨_, rfl⟩
                have hhs : hd'.size ≤ 34 := by rw [Hh.out]; exact headOf_size _ _ _
                obtain ⟨o, Ho⟩ : ∃ o, Hid (o = writeOut ys qs 0 hd') := ⟨_, rfl⟩
                have hso : stepOut SS[k] ys qs = o := by rw [Ho.out, Hh.out]; unfold stepOut; rw [hSk, hst]; rfl
                rw [hso] at HRS0 HRT0 HLN0
                have HRS := HRS0
                have HRT := HRT0
                have HLN := HLN0
                have hkk := HKK.out
                have hgg := HHG.out
                have hsz2 := HSZ.out
                have hwg : IntKind.i64.wrap (x.g + 1) = x.g + 1 := by rw [IntKind.wrap_i64]; omega
                have hws : IntKind.i64.wrap (1 - side) = 1 - side := by rw [IntKind.wrap_i64]; omega
                have HAR := hide (show (-9223372036854775808 ≤ x.g + 1 ∧ x.g + 1 ≤ 9223372036854775807) ∧ (-9223372036854775808 ≤ 1 - side ∧ 1 - side ≤ 9223372036854775807) ∧ (-9223372036854775808 ≤ (d.size : Int) ∧ (d.size : Int) ≤ 9223372036854775807) by omega)
                have HSS := hide (show ∀ x', Kept [wr.heap.size] (wr.alloc (.cells #[.slice none 0 0, .slice none 0 0, .string ⟨#[]⟩, .int .i64 0] 69)) x' → x'.cell? ⟨D, 0, none⟩ = some (.slice l1 m1 n1) ∧ x'.cell? ⟨D, 1, none⟩ = some (.slice l2 m2 n2) ∧ x'.cell? ⟨w2.heap.size, 3, none⟩ = some (.int .i64 x.g) ∧ Kept [wr.heap.size] (wr.alloc (.cells #[.slice none 0 0, .slice none 0 0, .string ⟨#[]⟩, .int .i64 0] 69)) x' from
                  fun x' h => ⟨(h.row HDn.out (by simp; omega)).cell 0, (h.row HDn.out (by simp; omega)).cell 1, (h.row HZn.out (by simp; omega)).cell 3, h⟩)
                clear hso hst hSk hkk hgg hsz2 hkh k2 k3
                go_wp2_with fail
                go_region_held3 (fun x' => x'.cell? ⟨D, 0, none⟩ = some (.slice l1 m1 n1) ∧ x'.cell? ⟨D, 1, none⟩ = some (.slice l2 m2 n2) ∧ x'.cell? ⟨w2.heap.size, 3, none⟩ = some (.int .i64 x.g) ∧ Kept [wr.heap.size] (wr.alloc (.cells #[.slice none 0 0, .slice none 0 0, .string ⟨#[]⟩, .int .i64 0] 69)) x')
                  ((go_split_ands; refine HSS.out _ ?_; repeat (first | with_reducible assumption | with_reducible exact Kept.refl _ _ | with_reducible refine Kept.drew ?_ | with_reducible refine Kept.set ?_ (by simp) _)))
                  ((first
                    | (go_at_call 47; go_split_ands; refine (l03Head_any (x.g + 1) (1 - side) d.size _ HAR.out.1 HAR.out.2.1 HAR.out.2.2).mono ?_; rw [← Hh.out]; rintro e w5h ⟨rfl, hbh⟩
                       have hBh := below_drew hbh
                       have hKh : Kept [wr.heap.size] (wr.alloc (.cells #[.slice none 0 0, .slice none 0 0, .string ⟨#[]⟩, .int .i64 0] 69)) w5h := (Kept.ofBelow hBh).mono (by simp)
                       have HBh := hide hBh
                       clear hbh hBh)
                    | (go_at_call 46; go_split_ands; refine (specWrite_any _ _ ys qs 0 hd' _ (by omega) (by omega) (by omega) (HRy.out.below HBh.out (Nat.le_refl _)) (HPy.out.below HBh.out (Nat.le_refl _))).mono ?_; rw [← Ho.out]; rintro e w6 ⟨⟨us6, up6, rfl, o1, o2, dd⟩, hb6'⟩
                       have hb6 := HBh.out.trans (hb6'.mono HBh.out.size)
                       have hK6 : Kept [wr.heap.size] (wr.alloc (.cells #[.slice none 0 0, .slice none 0 0, .string ⟨#[]⟩, .int .i64 0] 69)) w6 := (Kept.ofBelow hb6).mono (by simp)
                       replace o1 := o1.mono HBh.out.size
                       replace o2 := o2.mono HBh.out.size
                       clear hb6'
                       have r3 : Row w6 wr.heap.size 69 [.slice none 0 0, .slice none 0 0, .string ⟨#[]⟩, .int .i64 0] := Row.after hb6 HYY.out
                       have y0 : w6.cell? ⟨wr.heap.size, 0, none⟩ = some (.slice none 0 0) := r3.cell 0
                       have y1 : w6.cell? ⟨wr.heap.size, 1, none⟩ = some (.slice none 0 0) := r3.cell 1
                       have y2 : w6.cell? ⟨wr.heap.size, 2, none⟩ = some (.string ⟨#[]⟩) := r3.cell 2
                       have y3 : w6.cell? ⟨wr.heap.size, 3, none⟩ = some (.int .i64 0) := r3.cell 3
                       have f0 := r3.free 0
                       have f1 := r3.free 1
                       have f2 := r3.free 2
                       have f3 := r3.free 3
                       have R3 := hide r3
                       have T1 := hide o1
                       have T2 := hide o2
                       have TD := hide dd
                       have hbw := HBn.out.trans (hb6.mono HBn.out.size)
                       have HB6 := hide hbw
                       have HD6 := hide (Row.after hb6 HDn.out)
                       have HX6 := hide (Row.after hb6 HXn.out)
                       have HY6 := hide (Row.after hb6 HYn.out)
                       have HZ6 := hide (Row.after hb6 HZn.out)
                       have hL1 := hide (fun x hx => (o1.leads x hx).1)
                       have hL2 := hide (fun x hx => (o2.leads x hx).1)
                       obtain ⟨i1, j1, t1, rfl⟩ := o1.isSlice
                       obtain ⟨i2, j2, t2, rfl⟩ := o2.isSlice
                       clear o1 o2 dd hbw r3 hb6
                       clear hKh)))
                obtain ⟨q0, q1, q2, q3, KF⟩ := four R3.out (.slice i1 j1 t1) (.slice i2 j2 t2) (.string o.t) (.int .i64 o.c)
                obtain ⟨X, hX⟩ : ∃ X, X = ((((w6.setCell ⟨wr.heap.size, 0, none⟩ (.slice i1 j1 t1)).setCell ⟨wr.heap.size, 1, none⟩ (.slice i2 j2 t2)).setCell ⟨wr.heap.size, 2, none⟩ (.string o.t)).setCell ⟨wr.heap.size, 3, none⟩ (.int .i64 o.c)) := ⟨_, rfl⟩
                rw [← hX] at q0 q1 q2 q3 KF
                have HBX := hide (KF.toBelow HB6.out HB6.out.size (by simp; omega))
                have HDX := hide (KF.row HD6.out (by simp; omega))
                have HXX := hide (KF.row HX6.out (by simp; omega))
                have HYX := hide (KF.row HY6.out (by simp; omega))
                have HZX := hide (KF.row HZ6.out (by simp; omega))
                have T1X := hide (T1.out.kept KF (fun x hx => by have := hL1.out x hx; simp at this ⊢; omega))
                have T2X := hide (T2.out.kept KF (fun x hx => by have := hL2.out x hx; simp at this ⊢; omega))
                have v0 : w6.cell? ⟨D, 0, none⟩ = some (.slice l1 m1 n1) := HD6.out.cell 0
                have v1 : w6.cell? ⟨D, 1, none⟩ = some (.slice l2 m2 n2) := HD6.out.cell 1
                have e0 := HD6.out.free 0
                have e1 := HD6.out.free 1
                have hne1 : ¬ D = wr.heap.size := by omega
                have hne2 : ¬ wr.heap.size = D := by omega
                clear q0 q1 q2 q3 KF
                subst hX
                by_cases hco : o.c = 0
                · have hco0 : (o.c != 0) = false := by rw [hco]; rfl
                  have HE' := hide (show runOut SS xs ps = runOut (SS.drop (k + 1)) o.xs o.ps by rw [HRS.out, if_pos hco])
                  have HOK' := hide (HRT.out hco)
                  have hyl' : o.xs.length = xs.length := by rw [HLN.out hco]; exact hyl
                  obtain ⟨z0, z1, KG⟩ := two HDX.out (.slice i1 j1 t1) (.slice i2 j2 t2)
                  have HD' := hide (show Row ((((((w6.setCell ⟨wr.heap.size, 0, none⟩ (.slice i1 j1 t1)).setCell ⟨wr.heap.size, 1, none⟩ (.slice i2 j2 t2)).setCell ⟨wr.heap.size, 2, none⟩ (.string o.t)).setCell ⟨wr.heap.size, 3, none⟩ (.int .i64 o.c)).setCell ⟨D, 0, none⟩ (.slice i1 j1 t1)).setCell ⟨D, 1, none⟩ (.slice i2 j2 t2)) D 26 [.slice i1 j1 t1, .slice i2 j2 t2] from (HDX.out.set (j := 0) _).set (j := 1) _)
                  have HB' := hide (KG.toBelow HBX.out HBX.out.size (by simp; omega))
                  have HX' := hide (KG.row HXX.out (by simp; omega))
                  have HY' := hide (KG.row HYX.out (by simp; omega))
                  have HZ' := hide (KG.row HZX.out (by simp; omega))
                  have T1' := hide ((T1X.out.kept KG (fun x hx => by have := hL1.out x hx; simp at this ⊢; omega)).mono (B' := w2.heap.size + 1) (by simp; omega))
                  have T2' := hide ((T2X.out.kept KG (fun x hx => by have := hL2.out x hx; simp at this ⊢; omega)).mono (B' := w2.heap.size + 1) (by simp; omega))
                  have NL' := hide (show D ∉ leads (.slice i1 j1 t1) ∧ D ∉ leads (.slice i2 j2 t2) from ⟨fun h => by have := hL1.out _ h; simp at this; omega, fun h => by have := hL2.out _ h; simp at this; omega⟩)
                  clear hco KG z0 z1
                  go_wp2_with fail
                  go_roundw
                  case rel => exact ⟨k + 1, o.xs, o.ps, _, _, by omega, by go_num, HOK', hyl', HE', HD', T1', T2', TD, NL', HY', HX', HZ', HB'⟩
                  case measure => simp [intOf]; omega
                · have hco' : (o.c != 0) = true := by simpa using hco
                  have HFF := hide (show putOut xs ps d a = aill o.c by rw [HF.out, HRS.out, if_neg hco, if_neg (by simpa [illOut] using hco)]; rfl)
                  go_wp2_with fail
                  refine (l03Ill_any _ _).mono ?_
                  rintro e wz ⟨rfl, hbz⟩
                  have Rz := Row.after hbz HXX.out
                  have HBz := hide (HBX.out.trans (hbz.mono HBX.out.size))
                  have c0 : wz.cell? ⟨w.heap.size + 1, 0, none⟩ = some (.slice none 0 0) := Rz.cell 0
                  have c1' : wz.cell? ⟨w.heap.size + 1, 1, none⟩ = some (.slice none 0 0) := Rz.cell 1
                  have c2' : wz.cell? ⟨w.heap.size + 1, 2, none⟩ = some (.string ⟨#[]⟩) := Rz.cell 2
                  have c3 : wz.cell? ⟨w.heap.size + 1, 3, none⟩ = some (.int .i64 0) := Rz.cell 3
                  have c4 : wz.cell? ⟨w.heap.size + 1, 4, none⟩ = some (.int .i64 0) := Rz.cell 4
                  have f0 := Rz.free 0
                  have f1 := Rz.free 1
                  have f2 := Rz.free 2
                  have f3 := Rz.free 3
                  have f4 := Rz.free 4
                  have HRz := hide Rz
                  clear hbz Rz
                  go_wp2
                  obtain ⟨q0, q1, q2, q3, q4, KF⟩ := five HRz.out (.slice none 0 0) (.slice none 0 0) (.string ⟨#[]⟩) (.int .i64 0) (.int .i64 o.c)
                  exact bodyPost_ret (v := .agg #[.slice none 0 0, .slice none 0 0, .string ⟨#[]⟩, .int .i64 0, .int .i64 o.c]) (by simp [results, Tryz.results13, go_sem, q0, q1, q2, q3, q4]) rfl
                    ⟨by rw [HFF.out]; exact AOutIs.ill _ _ _, KF.toBelow HBz.out HBz.out.size (by simp)⟩
              · have tkh : ((k : Int) == (cuts d : Int) + 1) = false := by simp; omega
                have hst := putList_flush (half xs.length) side x.g d k (by omega) hkh (by rw [putList_len]; omega)
                obtain ⟨o, Ho⟩ : ∃ o, Hid (o = flushOut ys qs) := ⟨_, rfl⟩
                have hso : stepOut SS[k] ys qs = o := by rw [Ho.out]; unfold stepOut; rw [hSk, if_pos hst]
                rw [hso] at HRS0 HRT0 HLN0
                have HRS := HRS0
                have HRT := HRT0
                have HLN := HLN0
                clear hso hst hSk
                go_wp2_with fail
                refine (specFlush_any _ _ ys qs _ (by omega) (by omega) HRy.out HPy.out).mono ?_
                rw [← Ho.out]
                rintro e w6 ⟨⟨us6, up6, rfl, o1, o2, dd⟩, hb6⟩
                have r3 : Row w6 wr.heap.size 69 [.slice none 0 0, .slice none 0 0, .string ⟨#[]⟩, .int .i64 0] := Row.after hb6 HYY.out
                have y0 : w6.cell? ⟨wr.heap.size, 0, none⟩ = some (.slice none 0 0) := r3.cell 0
                have y1 : w6.cell? ⟨wr.heap.size, 1, none⟩ = some (.slice none 0 0) := r3.cell 1
                have y2 : w6.cell? ⟨wr.heap.size, 2, none⟩ = some (.string ⟨#[]⟩) := r3.cell 2
                have y3 : w6.cell? ⟨wr.heap.size, 3, none⟩ = some (.int .i64 0) := r3.cell 3
                have f0 := r3.free 0
                have f1 := r3.free 1
                have f2 := r3.free 2
                have f3 := r3.free 3
                have R3 := hide r3
                have T1 := hide o1
                have T2 := hide o2
                have TD := hide dd
                have hbw := HBn.out.trans (hb6.mono HBn.out.size)
                have HB6 := hide hbw
                have HD6 := hide (Row.after hb6 HDn.out)
                have HX6 := hide (Row.after hb6 HXn.out)
                have HY6 := hide (Row.after hb6 HYn.out)
                have HZ6 := hide (Row.after hb6 HZn.out)
                have hL1 := hide (fun x hx => (o1.leads x hx).1)
                have hL2 := hide (fun x hx => (o2.leads x hx).1)
                obtain ⟨i1, j1, t1, rfl⟩ := o1.isSlice
                obtain ⟨i2, j2, t2, rfl⟩ := o2.isSlice
                clear o1 o2 dd hbw r3 hb6
                obtain ⟨q0, q1, q2, q3, KF⟩ := four R3.out (.slice i1 j1 t1) (.slice i2 j2 t2) (.string o.t) (.int .i64 o.c)
                obtain ⟨X, hX⟩ : ∃ X, X = ((((w6.setCell ⟨wr.heap.size, 0, none⟩ (.slice i1 j1 t1)).setCell ⟨wr.heap.size, 1, none⟩ (.slice i2 j2 t2)).setCell ⟨wr.heap.size, 2, none⟩ (.string o.t)).setCell ⟨wr.heap.size, 3, none⟩ (.int .i64 o.c)) := ⟨_, rfl⟩
                rw [← hX] at q0 q1 q2 q3 KF
                have HBX := hide (KF.toBelow HB6.out HB6.out.size (by simp; omega))
                have HDX := hide (KF.row HD6.out (by simp; omega))
                have HXX := hide (KF.row HX6.out (by simp; omega))
                have HYX := hide (KF.row HY6.out (by simp; omega))
                have HZX := hide (KF.row HZ6.out (by simp; omega))
                have T1X := hide (T1.out.kept KF (fun x hx => by have := hL1.out x hx; simp at this ⊢; omega))
                have T2X := hide (T2.out.kept KF (fun x hx => by have := hL2.out x hx; simp at this ⊢; omega))
                have v0 : w6.cell? ⟨D, 0, none⟩ = some (.slice l1 m1 n1) := HD6.out.cell 0
                have v1 : w6.cell? ⟨D, 1, none⟩ = some (.slice l2 m2 n2) := HD6.out.cell 1
                have e0 := HD6.out.free 0
                have e1 := HD6.out.free 1
                have hne1 : ¬ D = wr.heap.size := by omega
                have hne2 : ¬ wr.heap.size = D := by omega
                clear q0 q1 q2 q3 KF
                subst hX
                by_cases hco : o.c = 0
                · have hco0 : (o.c != 0) = false := by rw [hco]; rfl
                  have HE' := hide (show runOut SS xs ps = runOut (SS.drop (k + 1)) o.xs o.ps by rw [HRS.out, if_pos hco])
                  have HOK' := hide (HRT.out hco)
                  have hyl' : o.xs.length = xs.length := by rw [HLN.out hco]; exact hyl
                  obtain ⟨z0, z1, KG⟩ := two HDX.out (.slice i1 j1 t1) (.slice i2 j2 t2)
                  have HD' := hide (show Row ((((((w6.setCell ⟨wr.heap.size, 0, none⟩ (.slice i1 j1 t1)).setCell ⟨wr.heap.size, 1, none⟩ (.slice i2 j2 t2)).setCell ⟨wr.heap.size, 2, none⟩ (.string o.t)).setCell ⟨wr.heap.size, 3, none⟩ (.int .i64 o.c)).setCell ⟨D, 0, none⟩ (.slice i1 j1 t1)).setCell ⟨D, 1, none⟩ (.slice i2 j2 t2)) D 26 [.slice i1 j1 t1, .slice i2 j2 t2] from (HDX.out.set (j := 0) _).set (j := 1) _)
                  have HB' := hide (KG.toBelow HBX.out HBX.out.size (by simp; omega))
                  have HX' := hide (KG.row HXX.out (by simp; omega))
                  have HY' := hide (KG.row HYX.out (by simp; omega))
                  have HZ' := hide (KG.row HZX.out (by simp; omega))
                  have T1' := hide ((T1X.out.kept KG (fun x hx => by have := hL1.out x hx; simp at this ⊢; omega)).mono (B' := w2.heap.size + 1) (by simp; omega))
                  have T2' := hide ((T2X.out.kept KG (fun x hx => by have := hL2.out x hx; simp at this ⊢; omega)).mono (B' := w2.heap.size + 1) (by simp; omega))
                  have NL' := hide (show D ∉ leads (.slice i1 j1 t1) ∧ D ∉ leads (.slice i2 j2 t2) from ⟨fun h => by have := hL1.out _ h; simp at this; omega, fun h => by have := hL2.out _ h; simp at this; omega⟩)
                  clear hco KG z0 z1
                  go_wp2_with fail
                  go_roundw
                  case rel => exact ⟨k + 1, o.xs, o.ps, _, _, by omega, by go_num, HOK', hyl', HE', HD', T1', T2', TD, NL', HY', HX', HZ', HB'⟩
                  case measure => simp [intOf]; omega
                · have hco' : (o.c != 0) = true := by simpa using hco
                  have HFF := hide (show putOut xs ps d a = aill o.c by rw [HF.out, HRS.out, if_neg hco, if_neg (by simpa [illOut] using hco)]; rfl)
                  go_wp2_with fail
                  refine (l03Ill_any _ _).mono ?_
                  rintro e wz ⟨rfl, hbz⟩
                  have Rz := Row.after hbz HXX.out
                  have HBz := hide (HBX.out.trans (hbz.mono HBX.out.size))
                  have c0 : wz.cell? ⟨w.heap.size + 1, 0, none⟩ = some (.slice none 0 0) := Rz.cell 0
                  have c1' : wz.cell? ⟨w.heap.size + 1, 1, none⟩ = some (.slice none 0 0) := Rz.cell 1
                  have c2' : wz.cell? ⟨w.heap.size + 1, 2, none⟩ = some (.string ⟨#[]⟩) := Rz.cell 2
                  have c3 : wz.cell? ⟨w.heap.size + 1, 3, none⟩ = some (.int .i64 0) := Rz.cell 3
                  have c4 : wz.cell? ⟨w.heap.size + 1, 4, none⟩ = some (.int .i64 0) := Rz.cell 4
                  have f0 := Rz.free 0
                  have f1 := Rz.free 1
                  have f2 := Rz.free 2
                  have f3 := Rz.free 3
                  have f4 := Rz.free 4
                  have HRz := hide Rz
                  clear hbz Rz
                  go_wp2
                  obtain ⟨q0, q1, q2, q3, q4, KF⟩ := five HRz.out (.slice none 0 0) (.slice none 0 0) (.string ⟨#[]⟩) (.int .i64 0) (.int .i64 o.c)
                  exact bodyPost_ret (v := .agg #[.slice none 0 0, .slice none 0 0, .string ⟨#[]⟩, .int .i64 0, .int .i64 o.c]) (by simp [results, Tryz.results13, go_sem, q0, q1, q2, q3, q4]) rfl
                    ⟨by rw [HFF.out]; exact AOutIs.ill _ _ _, KF.toBelow HBz.out HBz.out.size (by simp)⟩
          · have HRU := hide (show runOut SS xs ps = ⟨ys, qs, ⟨#[]⟩, 0⟩ by rw [HE.out, List.drop_eq_nil_of_le (by omega)]; rfl)
            have HFF := hide (show putOut xs ps d a = ⟨ys, qs, ⟨#[]⟩, 0, 0⟩ by rw [HF.out, HRU.out]; rfl)
            have c0 : wr.cell? ⟨w.heap.size + 1, 0, none⟩ = some (.slice none 0 0) := HXr.out.cell 0
            have c1' : wr.cell? ⟨w.heap.size + 1, 1, none⟩ = some (.slice none 0 0) := HXr.out.cell 1
            have c2' : wr.cell? ⟨w.heap.size + 1, 2, none⟩ = some (.string ⟨#[]⟩) := HXr.out.cell 2
            have c3 : wr.cell? ⟨w.heap.size + 1, 3, none⟩ = some (.int .i64 0) := HXr.out.cell 3
            have c4 : wr.cell? ⟨w.heap.size + 1, 4, none⟩ = some (.int .i64 0) := HXr.out.cell 4
            have f0 := HXr.out.free 0
            have f1 := HXr.out.free 1
            have f2 := HXr.out.free 2
            have f3 := HXr.out.free 3
            have f4 := HXr.out.free 4
            have HEND := hide (show ∀ X : World, Kept [w.heap.size + 1] wr X → AOutIs w.heap.size (.returned (.agg #[.slice l1 m1 n1, .slice l2 m2 n2, .string ⟨#[]⟩, .int .i64 0, .int .i64 0])) X (putOut xs ps d a) ∧ Below w.heap.size w X from fun X K => by
              refine ⟨?_, K.toBelow HBr.out HBr.out.size (by simp)⟩
              rw [HFF.out]
              exact ⟨_, _, rfl, (HO1.out.kept K (fun x hx => by have := (HO1.out.leads x hx).1; simp; omega)).mono (by omega), (HO2.out.kept K (fun x hx => by have := (HO2.out.leads x hx).1; simp; omega)).mono (by omega), HDJ.out⟩)
            by_cases hg1 : k < cuts d + 3
            · have ht1 : decide ((k : Int) < (cuts d : Int) + 3) = true := decide_eq_true (by omega)
              have ht2 : decide ((k : Int) < a) = false := decide_eq_false (by omega)
              go_wp2
              obtain ⟨q0, q1, q2, q3, q4, KF⟩ := five HXr.out (.slice l1 m1 n1) (.slice l2 m2 n2) (.string ⟨#[]⟩) (.int .i64 0) (.int .i64 0)
              exact bodyPost_ret (v := .agg #[.slice l1 m1 n1, .slice l2 m2 n2, .string ⟨#[]⟩, .int .i64 0, .int .i64 0]) (by simp [results, Tryz.results13, go_sem, q0, q1, q2, q3, q4]) rfl (HEND.out _ KF)
            · have ht1 : decide ((k : Int) < (cuts d : Int) + 3) = false := decide_eq_false (by omega)
              go_wp2
              obtain ⟨q0, q1, q2, q3, q4, KF⟩ := five HXr.out (.slice l1 m1 n1) (.slice l2 m2 n2) (.string ⟨#[]⟩) (.int .i64 0) (.int .i64 0)
              exact bodyPost_ret (v := .agg #[.slice l1 m1 n1, .slice l2 m2 n2, .string ⟨#[]⟩, .int .i64 0, .int .i64 0]) (by simp [results, Tryz.results13, go_sem, q0, q1, q2, q3, q4]) rfl (HEND.out _ KF)
  · have HF := hide (show putOut xs ps d a = aill x.c by unfold putOut; rw [if_neg (by omega), HOK.out, if_neg (by simp), ← Hx.out, if_pos hc])
    have hc' : (x.c != 0) = true := by simpa using hc
    go_wp2_with fail
    refine (l03Ill_any _ _).mono ?_
    rintro e wz ⟨rfl, hbz⟩
    have Rz := Row.after hbz HX2.out
    have HBz := hide (HB2.out.trans (hbz.mono HB2.out.size))
    have c0 : wz.cell? ⟨w.heap.size + 1, 0, none⟩ = some (.slice none 0 0) := Rz.cell 0
    have c1' : wz.cell? ⟨w.heap.size + 1, 1, none⟩ = some (.slice none 0 0) := Rz.cell 1
    have c2' : wz.cell? ⟨w.heap.size + 1, 2, none⟩ = some (.string ⟨#[]⟩) := Rz.cell 2
    have c3 : wz.cell? ⟨w.heap.size + 1, 3, none⟩ = some (.int .i64 0) := Rz.cell 3
    have c4 : wz.cell? ⟨w.heap.size + 1, 4, none⟩ = some (.int .i64 0) := Rz.cell 4
    have f0 := Rz.free 0
    have f1 := Rz.free 1
    have f2 := Rz.free 2
    have f3 := Rz.free 3
    have f4 := Rz.free 4
    have HRz := hide Rz
    clear hbz Rz
    go_wp2
    obtain ⟨q0, q1, q2, q3, q4, KF⟩ := five HRz.out (.slice none 0 0) (.slice none 0 0) (.string ⟨#[]⟩) (.int .i64 0) (.int .i64 x.c)
    exact bodyPost_ret (v := .agg #[.slice none 0 0, .slice none 0 0, .string ⟨#[]⟩, .int .i64 0, .int .i64 x.c]) (by simp [results, Tryz.results13, go_sem, q0, q1, q2, q3, q4]) rfl
      ⟨by rw [HF.out]; exact AOutIs.ill _ _ _, KF.toBelow HBz.out HBz.out.size (by simp)⟩

theorem specAreaPut_any (vs vp : Value) (xs : List ByteArray) (ps : List (Int × ByteArray)) (d : ByteArray) (a : Int) (w : World) (hn : xs.length ≤ 1048576) (hn2 : ps.length ≤ 1048576) (hd : d.size ≤ 1048576) (hr : Reads w vs xs) (hp : ReadsP w vp ps) :
    Calls Tryz.prog 13 #[.agg #[vs, vp], .string d, .int .i64 a] w fun e w' => AOutIs w.heap.size e w' (putOut xs ps d a) ∧ Below w.heap.size w w' := by
  by_cases hz : 8000 < d.size
  · have h : putOut xs ps d a = aill 2 := by unfold putOut; rw [if_pos hz]
    rw [h]; exact specAreaPut_size vs vp xs ps d a w hd hr hp hz
  · cases hok : right xs ps with
    | false =>
      have h : putOut xs ps d a = aill 1 := by unfold putOut; rw [if_neg hz, if_pos hok]
      rw [h]; exact specAreaPut_ill vs vp xs ps d a w hn hn2 hd hr hp (by omega) hok
    | true => exact specAreaPut_rest vs vp xs ps d a w hn hn2 hd hr hp (by omega) hok
end Go.Proofs.YtkmehbgepkilkaaGreatDoor

/- How the program cuts a text into what each sector takes. -/
namespace Go.Proofs.YtkmehbgepkilkaaGreatDoor
open Go.RowKit

theorem own_ge {w : World} {B n : Nat} {e : TypeId} {v : Value} {xs : List Value} (h : w.ownsRow B e 1 v n xs) {j : Nat} (hj : v.ownBlock = some j) : B ≤ j := by
  obtain ⟨_, ⟨rfl, _⟩ | ⟨g, cap, cur, rfl, hB, _⟩⟩ := h
  · cases hj
  · cases hj; exact hB
def pieces (d : ByteArray) (k : Nat) : List ByteArray := (List.range k).map (piece d)
theorem pieces_len (d : ByteArray) (k : Nat) : (pieces d k).length = k := by simp [pieces]
theorem pieces_snoc (d : ByteArray) (k : Nat) : pieces d (k + 1) = pieces d k ++ [piece d k] := by simp [pieces, List.range_succ]
theorem pieces_size (d : ByteArray) (k : Nat) : ∀ x ∈ pieces d k, x.size ≤ 64 := by
  intro x hx
  obtain ⟨j, _, rfl⟩ := List.mem_map.1 hx
  unfold piece
  rw [ByteArray.size_extract]
  omega
theorem reads_of_row {w : World} {B : Nat} {v : Value} {xs : List ByteArray} (hx : ∀ x ∈ xs, x.size ≤ maxLen) (h : w.ownsRow B 9 1 v xs.length (strs xs)) : Reads w v xs := by
  by_cases h0 : 0 < xs.length
  · exact (OwnS.ofRow hx h0 h).reads
  · have e : xs = [] := List.eq_nil_of_length_eq_zero (by omega)
    subst e
    obtain ⟨_, ⟨rfl, _⟩ | ⟨g, cap, cur, rfl, _, _, h1, h2, _⟩⟩ := h
    · exact ⟨_, _, rfl, Nat.le_refl _, by unfold maxLen; omega, by simp, fun h => by simp at h⟩
    · exact ⟨_, _, rfl, h1, h2, by simp, fun h => by simp at h⟩

/-- The bytes of a text, in a row of their own. -/
theorem raw_cell (w : World) (d : ByteArray) (e : TypeId) (j : Nat) (hj : j < d.size) :
    (w.drew.alloc (.cells (bytesRow d (grownCap w d.size 0 e)) e ((bytesRow d (grownCap w d.size 0 e)).size, (bytesRow d (grownCap w d.size 0 e)).size + 1))).cell? ⟨w.heap.size, j, none⟩ = some (.int .u8 ((d[j]'hj).toNat : Int)) := by
  refine (cell_of_row _ w.heap.size j _ e _ (heap_alloc_new w.drew _)).trans ?_
  unfold bytesRow
  have hj' : j < d.data.size := hj
  rw [Array.getElem?_append_left (by simpa using hj'), Array.getElem?_map, Array.getElem?_eq_getElem hj']
  rfl
theorem piece_list (d : ByteArray) (k M : Nat) (hM : M = min d.size (64 * (k + 1))) : (⟨((d.data.toList.drop (64 * k)).take (M - 64 * k)).toArray⟩ : ByteArray) = piece d k := by
  unfold piece
  rw [← hM]
  apply ByteArray.ext
  apply Array.ext'
  simp [ByteArray.data_extract, Array.toList_extract]

set_option maxRecDepth 100000 in
set_option maxHeartbeats 4000000 in
theorem cutSectors_any (d : ByteArray) (w : World) (hd : d.size ≤ 8000) :
    Calls Tryz.prog 67 #[.string d] w fun e w' => (∃ v, e = .returned v ∧ Reads w' v (pieces d (cuts d))) ∧ Below w.heap.size w w' := by
  obtain ⟨i0, hi, hz0, hz1, hz2⟩ := info_parts Tryz.infoStr
  have hcv := run_bytes_of_string (P := Tryz.prog) w 9 22 5 d Tryz.underlying9 Tryz.underlying22 Tryz.underlying5
  obtain ⟨C, hC⟩ : ∃ C, C = grownCap w d.size 0 5 := ⟨_, rfl⟩
  obtain ⟨W, hW⟩ : ∃ W, W = w.drew.alloc (.cells (bytesRow d (grownCap w d.size 0 5)) 5 ((bytesRow d (grownCap w d.size 0 5)).size, (bytesRow d (grownCap w d.size 0 5)).size + 1)) := ⟨_, rfl⟩
  have HCELL := hide (show ∀ j (hj : j < d.size), W.cell? ⟨w.heap.size, j, none⟩ = some (.int .u8 ((d[j]'hj).toNat : Int)) from fun j hj => by rw [hW]; exact raw_cell w d _ j hj)
  have HBW := hide (show Below w.heap.size w W by rw [hW]; exact ((Below.refl _ _).drew).alloc (Nat.le_refl _) _)
  have hWs : w.heap.size < W.heap.size := by rw [hW]; simp
  have hCd : d.size ≤ C := by rw [hC]; exact grownCap_ge _ _ _ _
  rw [← hW, ← hC] at hcv
  clear hW hC
  have HO0 := hide (show W.ownsRow W.heap.size 9 1 (.slice none 0 0) 0 (strs (pieces d 0)) from ⟨rfl, .inl ⟨rfl, rfl⟩⟩)
  have hcd : cuts d ≤ 200 := by unfold cuts; omega
  go_enter Tryz.func67, Tryz.ntmps67
  go_wp2_with fail
  go_loopw [4, 5] (fun u i wr => ∃ k : Nat, k ≤ cuts d ∧ i = .int .i64 ((64 * k : Nat) : Int) ∧ Hid (wr.ownsRow W.heap.size 9 1 u k (strs (pieces d k))) ∧ Hid (Below W.heap.size W wr)) (fun _ i _ => 64 * cuts d - (intOf i).toNat)
  case atStart => exact ⟨0, Nat.zero_le _, rfl, HO0, Below.refl _ _⟩
  case round =>
    obtain ⟨k, hk, rfl, HOw, HB⟩ := hrel
    obtain ⟨F, hF⟩ : ∃ F : Nat, F = 64 * k := ⟨_, rfl⟩
    rw [← hF]
    by_cases hlt : k < cuts d
    · have hfd : F < d.size := by rw [hF]; unfold cuts at hlt; omega
      have hfi : (F : Int) < (d.size : Int) := by omega
      obtain ⟨M, hM⟩ : ∃ M, M = min d.size (64 * (k + 1)) := ⟨_, rfl⟩
      have hMi : min ((F : Int) + 64) (d.size : Int) = (M : Int) := by omega
      have HM := hide hM
      have HF := hide hF
      have hm1 : (F : Int) ≤ (M : Int) := by omega
      have hm2 : (M : Int) ≤ (C : Int) := by omega
      have hm0 : (0 : Int) ≤ (F : Int) := by omega
      clear hM hF
      by_cases hfl : F + 64 ≤ d.size
      · have hx1 : (F : Int) + 64 ≤ (d.size : Int) := by omega
        have hto : ((F : Int) + 64).toNat = F + 64 := by omega
        have hcb : (convert 22 9 (.slice (some ⟨w.heap.size, F, none⟩) (64) (64))).run Tryz.prog wr = .ok (.string (piece d k)) wr := by
          have hl : ((d.data.toList.drop F).take (64)).length = 64 := by
            rw [List.length_take, List.length_drop, Array.length_toList]
            have : d.data.size = d.size := rfl
            omega
          have h := run_convert_bytes_back (P := Tryz.prog) wr 22 9 5 ⟨w.heap.size, F, none⟩ (64) ((d.data.toList.drop F).take (64)) Tryz.underlying22 Tryz.underlying5 Tryz.underlying9 (fun j hj => by
            rw [hl] at hj
            rw [add_addr, HB.out.cell (p := ⟨w.heap.size, F + j, none⟩) hWs, HCELL.out (F + j) (by omega)]
            simp
            rfl)
          rw [hl] at h
          rw [h, ← piece_list d k M HM.out, ← HF.out, show M - F = 64 by have := HM.out; have := HF.out; omega]
        have HNL := hide (show ∀ j u, ([Value.string (piece d k)] : List Value)[j]? = some u → (wr.alloc (.cells #[.string (piece d k)] 9)).cell? ((⟨wr.heap.size, 0, none⟩ : Addr).add j) = some u from fun j u hu => by
          rw [add_addr, Nat.zero_add, (row_new wr [.string (piece d k)] 9).cell]; exact hu)
        have HOA := hide (HOw.out.alloc (.cells #[.string (piece d k)] 9))
        have HBA := hide (HB.out.alloc HB.out.size (.cells #[.string (piece d k)] 9))
        go_wp2_with (at_builtin; refine wpList_append_own_at _ rfl _ _ 23 rfl W.heap.size 9 i0 (.string ⟨#[]⟩) 1 16 Tryz.underlying23 hi hz0 hz1 hz2 rfl (by omega) _ k (strs (pieces d k)) rfl HOA.out ⟨wr.heap.size, 0, none⟩ 1 1 [.string (piece d k)] rfl rfl HNL.out (by simp [Value.oneCell']) (by unfold maxLen; omega) (by omega) (by have := HB.out.size; simp; omega) ?_
                     intro v' w1 ho1 hg1 _ _
                     have HO1 := hide ho1
                     have HG1 := hide hg1
                     clear ho1 hg1)
        have HP := hide (show strs (pieces d (k + 1)) = strs (pieces d k) ++ [.string (piece d k)] by rw [pieces_snoc]; simp [strs])
        go_roundw
        case rel =>
          refine ⟨k + 1, by omega, by have := HF.out; rw [this]; go_num, by rw [HP.out]; exact HO1, ?_⟩
          exact below_grown HBA.out HBA.out.size HG1.out (fun j hj => own_ge HOA.out hj)
        case measure => have := HF.out; simp [intOf]; omega
      · have hx1 : (d.size : Int) < (F : Int) + 64 := by omega
        have hcb : (convert 22 9 (.slice (some ⟨w.heap.size, F, none⟩) (d.size - F) (d.size - F))).run Tryz.prog wr = .ok (.string (piece d k)) wr := by
          have hl : ((d.data.toList.drop F).take (d.size - F)).length = d.size - F := by
            rw [List.length_take, List.length_drop, Array.length_toList]
            have : d.data.size = d.size := rfl
            omega
          have h := run_convert_bytes_back (P := Tryz.prog) wr 22 9 5 ⟨w.heap.size, F, none⟩ (d.size - F) ((d.data.toList.drop F).take (d.size - F)) Tryz.underlying22 Tryz.underlying5 Tryz.underlying9 (fun j hj => by
            rw [hl] at hj
            rw [add_addr, HB.out.cell (p := ⟨w.heap.size, F + j, none⟩) hWs, HCELL.out (F + j) (by omega)]
            simp
            rfl)
          rw [hl] at h
          rw [h, ← piece_list d k M HM.out, ← HF.out, show M - F = d.size - F by have := HM.out; have := HF.out; omega]
        have HNL := hide (show ∀ j u, ([Value.string (piece d k)] : List Value)[j]? = some u → (wr.alloc (.cells #[.string (piece d k)] 9)).cell? ((⟨wr.heap.size, 0, none⟩ : Addr).add j) = some u from fun j u hu => by
          rw [add_addr, Nat.zero_add, (row_new wr [.string (piece d k)] 9).cell]; exact hu)
        have HOA := hide (HOw.out.alloc (.cells #[.string (piece d k)] 9))
        have HBA := hide (HB.out.alloc HB.out.size (.cells #[.string (piece d k)] 9))
        go_wp2_with (at_builtin; refine wpList_append_own_at _ rfl _ _ 23 rfl W.heap.size 9 i0 (.string ⟨#[]⟩) 1 16 Tryz.underlying23 hi hz0 hz1 hz2 rfl (by omega) _ k (strs (pieces d k)) rfl HOA.out ⟨wr.heap.size, 0, none⟩ 1 1 [.string (piece d k)] rfl rfl HNL.out (by simp [Value.oneCell']) (by unfold maxLen; omega) (by omega) (by have := HB.out.size; simp; omega) ?_
                     intro v' w1 ho1 hg1 _ _
                     have HO1 := hide ho1
                     have HG1 := hide hg1
                     clear ho1 hg1)
        have HP := hide (show strs (pieces d (k + 1)) = strs (pieces d k) ++ [.string (piece d k)] by rw [pieces_snoc]; simp [strs])
        go_roundw
        case rel =>
          refine ⟨k + 1, by omega, by have := HF.out; rw [this]; go_num, by rw [HP.out]; exact HO1, ?_⟩
          exact below_grown HBA.out HBA.out.size HG1.out (fun j hj => own_ge HOA.out hj)
        case measure => have := HF.out; simp [intOf]; omega
    · have hfi : ¬ (F : Int) < (d.size : Int) := by rw [hF]; unfold cuts at hlt; omega
      have hkc : k = cuts d := by omega
      have HR := hide (reads_of_row (fun x hx => by have := pieces_size d k x hx; unfold maxLen; omega) (by rw [pieces_len]; exact HOw.out))
      have HBB := hide (HBW.out.trans (HB.out.mono HBW.out.size))
      clear hF
      go_wp2
      go_ret
      exact ⟨⟨_, rfl, by rw [← hkc]; exact HR.out⟩, HBB.out⟩
end Go.Proofs.YtkmehbgepkilkaaGreatDoor
