/- The specification's AreaRead. -/
import Derived.Test.YtfdgifflnmpmaaaGreatDoorXSSeenAll
import Derived.Test.YtfdgifflnmpmaaaGreatDoorXSteps
import Derived.Laws.IdiomStrings
import Derived.Lib.AppendStr
namespace Go.Proofs.YtfdgifflnmpmaaaGreatDoor
open Go.RowKit

theorem Tryz.infoB : (Tryz.prog.info? 5).map (fun i => (i.zero, i.size, i.bytes)) = some (some (.int .u8 0), 1, 1) := by kernel_rfl
/-- What was last written to the sector k. -/
def secAt (xs : List ByteArray) (ps : List (Int × ByteArray)) (k : Nat) : ByteArray := lastAt (k : Int) ps (xs.getD k ⟨#[]⟩)
/-- How many bytes of a text stand in its sector j. -/
def want (size j : Nat) : Nat := min 64 (size - 64 * j)
def gath (f : Nat → ByteArray) (size : Nat) : Nat → ByteArray
  | 0 => ⟨#[]⟩
  | k + 1 => gath f size k ++ (f k).extract 0 (want size k)
def full (f : Nat → ByteArray) (size m : Nat) : Bool := (List.range m).all fun j => decide (want size j ≤ (f j).size)
theorem full_step (f : Nat → ByteArray) (size m : Nat) : full f size (m + 1) = (full f size m && decide (want size m ≤ (f m).size)) := by
  unfold full; rw [List.range_succ, List.all_append]; simp
theorem full_not {f : Nat → ByteArray} {size k m : Nat} (h : k < m) (hk : ¬ want size k ≤ (f k).size) : full f size m = false := by
  unfold full
  rw [← Bool.not_eq_true, List.all_eq_true]
  intro h2
  have := h2 k (by simpa using h)
  simp at this
  exact hk this
theorem gath_size {f : Nat → ByteArray} {size : Nat} : ∀ k, full f size k = true → (gath f size k).size = min (64 * k) size
  | 0 => fun _ => by simp [gath, ByteArray.size]
  | k + 1 => fun h => by
    rw [full_step, Bool.and_eq_true] at h
    have h1 := gath_size k h.1
    have h2 : want size k ≤ (f k).size := by simpa using h.2
    rw [gath, ByteArray.size_append, h1, ByteArray.size_extract]
    unfold want at h2 ⊢
    omega
/-- The sectors of the side that the head names. -/
def sideAt (xs : List ByteArray) (ps : List (Int × ByteArray)) (side : Int) (j : Nat) : ByteArray := secAt xs ps (1 + side.toNat * (half xs.length).toNat + j)
def areaOut (xs : List ByteArray) (ps : List (Int × ByteArray)) : AOut :=
  if right xs ps = false then aill 1
  else if (seen xs ps).2.2.2 ≠ 0 then aill (seen xs ps).2.2.2
  else if full (sideAt xs ps (seen xs ps).2.1) (seen xs ps).2.2.1.toNat (((seen xs ps).2.2.1.toNat + 63) / 64) then ⟨xs, ps, gath (sideAt xs ps (seen xs ps).2.1) (seen xs ps).2.2.1.toNat (((seen xs ps).2.2.1.toNat + 63) / 64), (seen xs ps).1, 0⟩
  else aill 5
theorem seen_ok {xs : List ByteArray} {ps : List (Int × ByteArray)} (h : (seen xs ps).2.2.2 = 0) : 0 ≤ (seen xs ps).1 ∧ (0 ≤ (seen xs ps).2.1 ∧ (seen xs ps).2.1 ≤ 1) ∧ (0 ≤ (seen xs ps).2.2.1 ∧ (seen xs ps).2.2.1 ≤ 64 * half xs.length) := by
  unfold seen at h ⊢
  simp only at h ⊢
  split
  · rename_i h4; rw [if_pos h4] at h; simp at h
  · rename_i h4
    rw [if_neg h4] at h
    split
    · rename_i h5; rw [if_pos h5] at h; simp at h
    · rename_i h5
      rw [if_neg h5] at h
      split
      · rename_i h6; exact ⟨h6.2.2.2.2.1, h6.2.2.2.2.2.1, h6.2.2.2.2.2.2⟩
      · rename_i h6; rw [if_neg h6] at h; simp at h
theorem text_of_row {P : Program} {e t T B : Nat} {w : World} {v : Value} {b : ByteArray} (h : w.ownsRow B e 1 v b.size (Lib.strCells b)) (hne : v ≠ .slice none 0 0)
    (ht : P.underlying t = some (.slice e)) (he : P.underlying e = some (.int .u8)) (hT : P.underlying T = some .string) : (convert t T v).run P w = .ok (.string b) w := by
  obtain ⟨h0, hv⟩ := h
  rcases hv with ⟨rfl, hn⟩ | ⟨g, cap, cur, rfl, _, hh, hnc, _, hcs, htk⟩
  · exact absurd rfl hne
  · have hbl : b.data.toList.length = b.size := by rw [Array.length_toList]; rfl
    have := run_convert_bytes_back (P := P) w t T e ⟨g, 0, none⟩ cap b.data.toList ht he hT (fun j hj => by
      rw [Addr.add_lit, Nat.zero_add, cell_of_row w g j _ e (0, 0) hh]
      have e1 : cur[j]? = (cur.toList.take (b.size * 1))[j]? := by
        rw [List.getElem?_take_of_lt (by omega)]; simp
      rw [e1, htk, Lib.strCells, List.getElem?_map, List.getElem?_eq_getElem hj]
      simp)
    rw [hbl] at this
    exact this

set_option maxHeartbeats 400000 in
theorem l03First_any (vs vp : Value) (xs : List ByteArray) (s : Int) (w : World) (hx : 1 ≤ xs.length) (hn : xs.length ≤ 1048576) (hs : 0 ≤ s ∧ s ≤ 1) (hr : Reads w vs xs) (hv : ∃ p n k, vp = .slice p n k) :
    Calls Tryz.prog 22 #[.agg #[vs, vp], .int .i64 s] w fun e w' => e = .returned (.int .i64 (1 + s * half xs.length)) ∧ Below w.heap.size w w' := by
  have hb0 : Below w.heap.size w (w.alloc (.cells #[vs, vp] 29)) := (Below.refl _ _).alloc (Nat.le_refl _) _
  have HR := hide (hr.below hb0 (Nat.le_refl _))
  have HB0 := hide hb0
  obtain ⟨p1, c1, rfl, hq⟩ := hr
  obtain ⟨p2, m2, c2, rfl⟩ := hv
  clear hq hb0
  have hh : 0 ≤ half xs.length ∧ half xs.length ≤ 1048576 := by unfold half; omega
  have hm : s * half xs.length = 0 ∨ s * half xs.length = half xs.length := by
    rcases (show s = 0 ∨ s = 1 by omega) with rfl | rfl
    · left; simp
    · right; simp
  have hw1 : IntKind.i64.wrap (s * half xs.length) = s * half xs.length := by rw [IntKind.wrap_i64]; omega
  have hw2 : IntKind.i64.wrap (1 + s * half xs.length) = 1 + s * half xs.length := by rw [IntKind.wrap_i64]; omega
  clear hm hs
  go_enter Tryz.func22, Tryz.ntmps22
  go_wp2_with fail
  refine (l03Half_any _ _ xs _ hx hn HR.out).mono ?_
  rintro e w2 ⟨rfl, hb2⟩
  have HB2 := hide (HB0.out.trans (hb2.mono HB0.out.size))
  clear hb2
  go_wp2
  go_ret
  exact ⟨rfl, HB2.out⟩
theorem l01Min_any (a b : Int) (w : World) :
    Calls Tryz.prog 23 #[.int .i64 a, .int .i64 b] w fun e w' => e = .returned (.int .i64 (min a b)) ∧ w' = w := by
  by_cases h : a < b
  · go_enter Tryz.func23, Tryz.ntmps23
    go_wp2
    go_ret
    exact ⟨ret_int (by omega), rfl⟩
  · go_enter Tryz.func23, Tryz.ntmps23
    go_wp2
    go_ret
    exact ⟨ret_int (by omega), rfl⟩
end Go.Proofs.YtfdgifflnmpmaaaGreatDoor
/- The specification's AreaRead: the walk. -/
namespace Go.Proofs.YtfdgifflnmpmaaaGreatDoor
open Go.RowKit

theorem row_form {w : World} {B n : Nat} {e : TypeId} {v : Value} {xs : List Value} (h : w.ownsRow B e 1 v n xs) (hne : v ≠ .slice none 0 0) : ∃ g cap, v = .slice (some ⟨g, 0, none⟩) n cap ∧ B ≤ g := by
  obtain ⟨_, ⟨rfl, _⟩ | ⟨g, cap, cur, rfl, hB, _⟩⟩ := h
  · exact absurd rfl hne
  · exact ⟨g, cap, rfl, hB⟩
theorem below_grown {B : Nat} {w0 w w' : World} {row : Option Nat} (h : Below B w0 w) (hB : B ≤ w.heap.size) (hg : w.grownBy w' row) (hr : ∀ k, row = some k → B ≤ k) : Below B w0 w' :=
  ⟨hg.os.trans h.os, hg.tape.trans h.tape, hg.output.trans h.output, Nat.le_trans h.size hg.size, fun k hk => (hg.block k (Nat.lt_of_lt_of_le hk hB) (fun e => absurd (hr k e.symm) (by omega))).trans (h.block k hk)⟩
theorem row_grown {w w' : World} {g : Nat} {T : TypeId} {cs : List Value} {row : Option Nat} (h : Row w g T cs) (hg : w.grownBy w' row) (hr : row ≠ some g) : Row w' g T cs := by
  unfold Row; rw [hg.block g h.lt (fun e => hr e.symm)]; exact h
theorem ownsRow_after {w w' : World} {B n : Nat} {e : TypeId} {v : Value} {xs : List Value} (h : w.ownsRow B e 1 v n xs) (hb : Below w.heap.size w w') : w'.ownsRow B e 1 v n xs := by
  obtain ⟨h0, h1 | ⟨g, cap, cur, hv, hB, hh, hr⟩⟩ := h
  · exact ⟨h0, .inl h1⟩
  · have hlt : g < w.heap.size := (Array.getElem?_eq_some_iff.1 hh).1
    exact ⟨h0, .inr ⟨g, cap, cur, hv, hB, by rw [hb.block g hlt]; exact hh, hr⟩⟩
theorem ownsRow_keptN {S : List Nat} {w w' : World} {B n : Nat} {e : TypeId} {v : Value} {xs : List Value} (h : w.ownsRow B e 1 v n xs) (hk : Kept S w w') (hS : ∀ g c, v = .slice (some ⟨g, 0, none⟩) n c → g ∉ S) : w'.ownsRow B e 1 v n xs := by
  obtain ⟨h0, h1 | ⟨g, cap, cur, hv, hB, hh, hr⟩⟩ := h
  · exact ⟨h0, .inl h1⟩
  · have hlt : g < w.heap.size := (Array.getElem?_eq_some_iff.1 hh).1
    exact ⟨h0, .inr ⟨g, cap, cur, hv, hB, by rw [hk.block g hlt (hS g cap hv)]; exact hh, hr⟩⟩
theorem strCells_append (a b : ByteArray) : Lib.strCells (a ++ b) = Lib.strCells a ++ Lib.strCells b := by
  unfold Lib.strCells; simp
set_option maxHeartbeats 4000000 in
theorem specAreaRead_ill (vs vp : Value) (xs : List ByteArray) (ps : List (Int × ByteArray)) (w : World) (hn : xs.length ≤ 1048576) (hn2 : ps.length ≤ 1048576) (hr : Reads w vs xs) (hp : ReadsP w vp ps) (hok : right xs ps = false) :
    Calls Tryz.prog 6 #[.agg #[vs, vp]] w fun e w' => AOutIs w.heap.size e w' (aill 1) ∧ Below w.heap.size w w' := by
  have hb0 : Below w.heap.size w ((w.alloc (.cells #[vs, vp] 29)).alloc (.cells #[.slice none 0 0, .slice none 0 0, .string ⟨#[]⟩, .int .i64 0, .int .i64 0] 31)) :=
    ((Below.refl _ _).alloc (Nat.le_refl _) _).alloc (by simp) _
  have HR := hide (hr.below hb0 (Nat.le_refl _))
  have HP := hide (hp.below hb0 (Nat.le_refl _))
  have HB0 := hide hb0
  obtain ⟨p1, c1, rfl, hq⟩ := hr
  obtain ⟨p2, c2, rfl, hq2⟩ := hp
  have R1 := row_new (w.alloc (.cells #[.slice p1 xs.length c1, .slice p2 ps.length c2] 29)) [.slice none 0 0, .slice none 0 0, .string ⟨#[]⟩, .int .i64 0, .int .i64 0] 31
  simp only [World.size_alloc] at R1
  have HR1 := hide R1
  clear hb0 hq hq2 R1
  go_enter Tryz.func6, Tryz.ntmps6
  go_wp2_with fail
  refine (specRight_any _ _ xs ps _ hn hn2 HR.out HP.out).mono ?_
  rw [hok]
  rintro e w1 ⟨rfl, hb1⟩
  have HB1 := hide (HB0.out.trans (hb1.mono HB0.out.size))
  have HX1 := hide (HR1.out.below hb1 (by simp))
  clear hb1 HR HP HR1 HB0
  go_wp2_with fail
  refine (l03Ill_any _ _).mono ?_
  rintro e w2 ⟨rfl, hb2⟩
  have R3 := HX1.out.below hb2 HX1.out.lt
  have HB2 := hide (HB1.out.trans (hb2.mono HB1.out.size))
  have c0 : w2.cell? ⟨w.heap.size + 1, 0, none⟩ = some (.slice none 0 0) := R3.cell 0
  have c1' : w2.cell? ⟨w.heap.size + 1, 1, none⟩ = some (.slice none 0 0) := R3.cell 1
  have c2' : w2.cell? ⟨w.heap.size + 1, 2, none⟩ = some (.string ⟨#[]⟩) := R3.cell 2
  have c3 : w2.cell? ⟨w.heap.size + 1, 3, none⟩ = some (.int .i64 0) := R3.cell 3
  have c4 : w2.cell? ⟨w.heap.size + 1, 4, none⟩ = some (.int .i64 0) := R3.cell 4
  have f0 := R3.free 0
  have f1 := R3.free 1
  have f2 := R3.free 2
  have f3 := R3.free 3
  have f4 := R3.free 4
  have HR3 := hide R3
  clear hb2 R3
  go_wp2
  obtain ⟨q0, q1, q2, q3, q4, KF⟩ := five HR3.out (.slice none 0 0) (.slice none 0 0) (.string ⟨#[]⟩) (.int .i64 0) (.int .i64 1)
  exact bodyPost_ret (v := .agg #[.slice none 0 0, .slice none 0 0, .string ⟨#[]⟩, .int .i64 0, .int .i64 1]) (by simp [results, Tryz.results6, go_sem, q0, q1, q2, q3, q4]) rfl
    ⟨AOutIs.ill _ _ _, KF.toBelow HB2.out HB2.out.size (by simp)⟩

set_option maxRecDepth 100000 in
set_option maxHeartbeats 8000000 in
theorem specAreaRead_rest (vs vp : Value) (xs : List ByteArray) (ps : List (Int × ByteArray)) (w : World) (hn : xs.length ≤ 1048576) (hn2 : ps.length ≤ 1048576) (hr : Reads w vs xs) (hp : ReadsP w vp ps) (hok : right xs ps = true) :
    Calls Tryz.prog 6 #[.agg #[vs, vp]] w fun e w' => AOutIs w.heap.size e w' (areaOut xs ps) ∧ Below w.heap.size w w' := by
  obtain ⟨i0, hi, hz0, hz1, hz2⟩ := info_parts Tryz.infoB
  have hb0 : Below w.heap.size w ((w.alloc (.cells #[vs, vp] 29)).alloc (.cells #[.slice none 0 0, .slice none 0 0, .string ⟨#[]⟩, .int .i64 0, .int .i64 0] 31)) :=
    ((Below.refl _ _).alloc (Nat.le_refl _) _).alloc (by simp) _
  have HR := hide (hr.below hb0 (Nat.le_refl _))
  have HP := hide (hp.below hb0 (Nat.le_refl _))
  have HRw := hide hr
  have HPw := hide hp
  have HB0 := hide hb0
  have HOK := hide hok
  have hlen := right_ge hok
  obtain ⟨p1, c1, rfl, hq⟩ := hr
  obtain ⟨p2, c2, rfl, hq2⟩ := hp
  have R0 := (row_new w [.slice p1 xs.length c1, .slice p2 ps.length c2] 29).alloc (.cells #[.slice none 0 0, .slice none 0 0, .string ⟨#[]⟩, .int .i64 0, .int .i64 0] 31)
  have R1 := row_new (w.alloc (.cells #[.slice p1 xs.length c1, .slice p2 ps.length c2] 29)) [.slice none 0 0, .slice none 0 0, .string ⟨#[]⟩, .int .i64 0, .int .i64 0] 31
  simp only [World.size_alloc] at R1
  have HR0 := hide R0
  have HR1 := hide R1
  clear hb0 hq hq2 R1 R0
  go_enter Tryz.func6, Tryz.ntmps6
  go_wp2_with fail
  refine (specRight_any _ _ xs ps _ hn hn2 HR.out HP.out).mono ?_
  rw [hok]
  rintro e w1 ⟨rfl, hb1⟩
  have HB1 := hide (HB0.out.trans (hb1.mono HB0.out.size))
  have HX1 := hide (HR1.out.below hb1 (by simp))
  have HX0 := hide (HR0.out.below hb1 (by simp; omega))
  have HRa := hide (HR.out.below hb1 (Nat.le_refl _))
  have HPa := hide (HP.out.below hb1 (Nat.le_refl _))
  have a0 : w1.cell? ⟨w.heap.size, 0, none⟩ = some (.slice p1 xs.length c1) := HX0.out.cell 0
  have a1 : w1.cell? ⟨w.heap.size, 1, none⟩ = some (.slice p2 ps.length c2) := HX0.out.cell 1
  clear hb1 HR HP HR1 HR0 HB0 hok
  go_wp2_with fail
  obtain ⟨r, Hr⟩ : ∃ r, Hid (r = seen xs ps) := ⟨_, rfl⟩
  refine (specSeen_any _ _ xs ps _ HOK.out hn hn2 HRa.out HPa.out).mono ?_
  rw [← Hr.out]
  obtain ⟨gen, side, size, code⟩ := r
  rintro e w2 ⟨he, hb2⟩
  rw [show seenV (gen, side, size, code) = .tuple #[.int .i64 gen, .int .i64 side, .int .i64 size, .int .i64 code] from rfl] at he
  subst he
  have HB2 := hide (HB1.out.trans (hb2.mono HB1.out.size))
  have HX2 := hide (Row.after hb2 HX1.out)
  have HY2 := hide (Row.after hb2 HX0.out)
  clear hb2 a0 a1 HX1 HX0 HRa HPa
  by_cases hc : code = 0
  · subst hc
    have hsk := seen_ok (xs := xs) (ps := ps) (by rw [← Hr.out])
    rw [← Hr.out] at hsk
    obtain ⟨hg0, ⟨hs0, hs1⟩, hz0', hz1'⟩ := hsk
    simp only at hg0 hs0 hs1 hz0' hz1'
    obtain ⟨sz, rfl⟩ := Int.eq_ofNat_of_zero_le hz0'
    have hh : 0 ≤ half xs.length ∧ half xs.length ≤ 1048576 ∧ 2 * half xs.length ≤ (xs.length : Int) - 1 := by unfold half; omega
    obtain ⟨f, Hf⟩ : ∃ f, Hid (f = sideAt xs ps side) := ⟨_, rfl⟩
    obtain ⟨m, Hm⟩ : ∃ m, m = (sz + 63) / 64 := ⟨_, rfl⟩
    have hm64 : sz ≤ 64 * m ∧ 64 * m ≤ sz + 63 := by omega
    have hmh : (m : Int) ≤ half xs.length := by omega
    have HFO := hide (show areaOut xs ps = if full f sz m then ⟨xs, ps, gath f sz m, gen, 0⟩ else aill 5 by
      unfold areaOut; rw [HOK.out, ← Hr.out, if_neg (by simp), if_neg (by simp), Hf.out, Hm]; rfl)
    have hsx : side * half xs.length = 0 ∨ side * half xs.length = half xs.length := by
      rcases (show side = 0 ∨ side = 1 by omega) with rfl | rfl
      · left; simp
      · right; simp
    have HRD := hide (show ∀ k : Nat, k < m → readOut xs ps (1 + side * half xs.length + k) = ⟨xs, ps, f k, 0⟩ from fun k hk => by
      have hcast : (1 + side * half xs.length + (k : Int)) = ((1 + side.toNat * (half xs.length).toNat + k : Nat) : Int) := by
        have e1 : ((side.toNat * (half xs.length).toNat : Nat) : Int) = side * half xs.length := by
          rw [Int.natCast_mul, Int.toNat_of_nonneg hs0, Int.toNat_of_nonneg hh.1]
        rw [Int.natCast_add, Int.natCast_add, e1]; rfl
      unfold readOut
      rw [HOK.out, if_pos rfl, if_pos (by omega), hcast, Hf.out]
      rfl)
    clear Hm Hr Hf
    have HBn := hide (HB2.out.alloc HB2.out.size (.cells #[] 5))
    have HXn := hide (HX2.out.alloc (.cells #[] 5))
    have HYn := hide (HY2.out.alloc (.cells #[] 5))
    have HOn := hide (World.ownsRow_made (e := 5) (base := w2.heap.size) (size := 1) w2 #[] 0 (Nat.le_refl _) (by unfold maxLen; omega) rfl)
    have hbase := HX2.out.lt
    go_wp2_with fail
    go_loopw [7, 8] (fun u i wr => ∃ (k : Nat), k ≤ m ∧ i = .int .i64 k ∧ Hid (full f sz k = true) ∧ Hid (wr.ownsRow w2.heap.size 5 1 u (gath f sz k).size (Lib.strCells (gath f sz k))) ∧ Hid (u ≠ .slice none 0 0) ∧ Hid (Below w.heap.size w wr) ∧ Hid (Row wr w.heap.size 29 [.slice p1 xs.length c1, .slice p2 ps.length c2]) ∧ Hid (Row wr (w.heap.size + 1) 31 [.slice none 0 0, .slice none 0 0, .string ⟨#[]⟩, .int .i64 0, .int .i64 0]) ∧ w2.heap.size ≤ wr.heap.size) (fun _ i _ => m - (intOf i).toNat)
    case atStart => exact ⟨0, Nat.zero_le _, rfl, rfl, HOn, hide (by simp), HBn, HYn, HXn, by simp⟩
    case round =>
      obtain ⟨k, hk, rfl, HFk, HOw, HNe, HBr, HYr, HXr, hwz⟩ := hrel
      obtain ⟨g, cap, rfl, hgB⟩ := row_form HOw.out HNe.out
      have hgs := gath_size k HFk.out
      obtain ⟨b, Hb⟩ : ∃ b, Hid (b = gath f sz k) := ⟨_, rfl⟩
      rw [← Hb.out] at hgs HOw
      obtain ⟨N, hN⟩ : ∃ N, N = b.size := ⟨_, rfl⟩
      rw [← Hb.out, ← hN]
      rw [← hN] at hgs HOw
      have HNN := hide hN
      clear hN
      have hNw : IntKind.i64.wrap ((sz : Int) - (N : Int)) = (sz : Int) - (N : Int) := by rw [IntKind.wrap_i64]; omega
      by_cases hlt : k < m
      · have hNk : N = 64 * k := by omega
        have hl1 : (N : Int) < (sz : Int) := by omega
        have c0 : wr.cell? ⟨w.heap.size, 0, none⟩ = some (.slice p1 xs.length c1) := HYr.out.cell 0
        have c1' : wr.cell? ⟨w.heap.size, 1, none⟩ = some (.slice p2 ps.length c2) := HYr.out.cell 1
        have hkw : IntKind.i64.wrap (1 + side * half xs.length + (k : Int)) = 1 + side * half xs.length + (k : Int) := by rw [IntKind.wrap_i64]; omega
        have HWT := hide (show min (64 : Int) ((sz : Int) - (N : Int)) = ((want sz k : Nat) : Int) by unfold want; omega)
        have hwt : want sz k ≤ 64 := by unfold want; omega
        have HG := hide (show gath f sz (k + 1) = b ++ (f k).extract 0 (want sz k) by rw [Hb.out]; rfl)
        have HRk := hide (HRD.out k hlt)
        have HFS := hide (full_step f sz k)
        have HSS := hide (show ∀ x, Below wr.heap.size wr x → x.cell? ⟨w.heap.size, 0, none⟩ = some (.slice p1 xs.length c1) ∧ x.cell? ⟨w.heap.size, 1, none⟩ = some (.slice p2 ps.length c2) ∧ Below wr.heap.size wr x from
          fun x h => ⟨(Row.after h HYr.out).cell 0, (Row.after h HYr.out).cell 1, h⟩)
        have HSI := hide (And.intro hs0 hs1)
        have hfd := Tryz.outData
        have hszb : (sz : Int) ≤ 100000000 := by omega
        have HNk := hide hNk
        clear hz0' hz1' hm64 hgs hs0 hs1 hNk
        go_wp2_with fail
        go_region_held3 (fun x => x.cell? ⟨w.heap.size, 0, none⟩ = some (.slice p1 xs.length c1) ∧ x.cell? ⟨w.heap.size, 1, none⟩ = some (.slice p2 ps.length c2) ∧ Below wr.heap.size wr x)
          ((go_split_ands; refine HSS.out _ ?_; repeat (first | with_reducible assumption | with_reducible exact Below.refl _ _ | with_reducible refine Below.drew ?_)))
          ((first
            | (go_at_call 22; go_split_ands; refine (l03First_any _ _ xs side _ (by omega) hn HSI.out (HRw.out.below (HBr.out.trans (Below.mono (by assumption) HBr.out.size)) (Nat.le_refl _)) ⟨_, _, _, rfl⟩).mono ?_; rintro e w3 ⟨rfl, hb3⟩
               have hB3 : Below wr.heap.size wr w3 := Below.trans (by assumption) (hb3.mono (Below.size (by assumption))); clear hb3)
            | (go_at_call 21; go_split_ands; refine (specRead_any _ _ xs ps _ _ hn hn2 (HRw.out.below (HBr.out.trans (Below.mono (by assumption) HBr.out.size)) (Nat.le_refl _)) (HPw.out.below (HBr.out.trans (Below.mono (by assumption) HBr.out.size)) (Nat.le_refl _))).mono ?_; rw [HRk.out]; rintro e w4 ⟨⟨us, up, rfl, o1, o2, dd⟩, hb4⟩
               have hB4 : Below wr.heap.size wr w4 := Below.trans (by assumption) (hb4.mono (Below.size (by assumption)))
               obtain ⟨s1, s2, s3, rfl⟩ := o1.isSlice
               obtain ⟨s4, s5, s6, rfl⟩ := o2.isSlice
               clear hb4 o1 o2 dd)))
        have HB4 := hide (HBr.out.trans (hB4.mono HBr.out.size))
        have HY4 := hide (Row.after hB4 HYr.out)
        have HX4 := hide (Row.after hB4 HXr.out)
        have hz4 := Nat.le_trans hwz hB4.size
        have HO4 := hide (ownsRow_after HOw.out hB4)
        clear hB3 hB4
        go_wp2_with fail
        refine (l01Min_any _ _ _).mono ?_
        rw [HWT.out]
        rintro e w5 ⟨rfl, rfl⟩
        by_cases hshort : (f k).size < want sz k
        · have hsi : ((f k).size : Int) < ((want sz k : Nat) : Int) := by omega
          have HF5 := hide (show areaOut xs ps = aill 5 by rw [HFO.out, full_not hlt (by omega)]; rfl)
          go_wp2_with fail
          refine (l03Ill_any _ _).mono ?_
          rintro e w3 ⟨rfl, hb3⟩
          have R3 := Row.after hb3 HX4.out
          have HB3 := hide (HB4.out.trans (hb3.mono HB4.out.size))
          have d0 : w3.cell? ⟨w.heap.size + 1, 0, none⟩ = some (.slice none 0 0) := R3.cell 0
          have d1 : w3.cell? ⟨w.heap.size + 1, 1, none⟩ = some (.slice none 0 0) := R3.cell 1
          have d2 : w3.cell? ⟨w.heap.size + 1, 2, none⟩ = some (.string ⟨#[]⟩) := R3.cell 2
          have d3 : w3.cell? ⟨w.heap.size + 1, 3, none⟩ = some (.int .i64 0) := R3.cell 3
          have d4 : w3.cell? ⟨w.heap.size + 1, 4, none⟩ = some (.int .i64 0) := R3.cell 4
          have f0 := R3.free 0
          have f1 := R3.free 1
          have f2 := R3.free 2
          have f3 := R3.free 3
          have f4 := R3.free 4
          have HR3 := hide R3
          clear hb3 R3
          go_wp2
          obtain ⟨q0, q1, q2, q3, q4, KF⟩ := five HR3.out (.slice none 0 0) (.slice none 0 0) (.string ⟨#[]⟩) (.int .i64 0) (.int .i64 5)
          exact bodyPost_ret (v := .agg #[.slice none 0 0, .slice none 0 0, .string ⟨#[]⟩, .int .i64 0, .int .i64 5]) (by simp [results, Tryz.results6, go_sem, q0, q1, q2, q3, q4]) rfl
            ⟨by rw [HF5.out]; exact AOutIs.ill _ _ _, KF.toBelow HB3.out HB3.out.size (by simp)⟩
        · have hsi : ¬ ((f k).size : Int) < ((want sz k : Nat) : Int) := by omega
          have hle : ((want sz k : Nat) : Int) ≤ ((f k).size : Int) := by omega
          have hpos : (0 : Int) ≤ ((want sz k : Nat) : Int) := by omega
          have hts : ((f k).extract 0 (want sz k)).size = want sz k := by rw [ByteArray.size_extract]; omega
          go_wp2_with (at_builtin; refine Lib.wpList_append_own_string _ rfl _ _ 47 9 rfl w2.heap.size 5 i0 Tryz.underlying47 Tryz.underlying9 hi hz0 hz1 hz2 (.slice (some ⟨g, 0, none⟩) N cap) N (Lib.strCells b) rfl HO4.out ((f k).extract 0 (want sz k)) rfl (by unfold maxLen; omega) (by omega) hz4 ?_
                       intro v' w6 ho6 hg6 hn6
                       have HO6 := hide ho6
                       have HG6 : Hid (World.grownBy _ w6 (some g)) := hide hg6
                       have HN6 := hide hn6
                       clear ho6 hg6 hn6)
          have HE := hide (show (gath f sz (k + 1)).size = N + ((f k).extract 0 (want sz k)).size ∧ Lib.strCells (gath f sz (k + 1)) = Lib.strCells b ++ Lib.strCells ((f k).extract 0 (want sz k)) by rw [HG.out, ByteArray.size_append, strCells_append, HNN.out]; exact ⟨rfl, rfl⟩)
          go_roundw
          case rel =>
            refine ⟨k + 1, by omega, by go_num, by rw [HFS.out, HFk.out]; simp [Hid]; omega, by rw [HE.out.1, HE.out.2]; exact HO6, ?_, ?_, ?_, ?_, Nat.le_trans hz4 HG6.out.size⟩
            · intro hv
              have := (HN6.out.1 hv).1
              cases this
            · exact below_grown HB4.out HB4.out.size HG6.out (fun j hj => by cases hj; omega)
            · exact row_grown HY4.out HG6.out (fun hj => by cases hj; omega)
            · exact row_grown HX4.out HG6.out (fun hj => by cases hj; omega)
          case measure => simp [intOf]; omega
      · have hNs : ¬ (N : Int) < (sz : Int) := by omega
        have hkm : k = m := by omega
        subst hkm
        have HF5 := hide (show areaOut xs ps = ⟨xs, ps, b, gen, 0⟩ by rw [HFO.out, HFk.out, Hb.out]; rfl)
        have hgl : g ≠ w.heap.size + 1 := by omega
        have HSS := hide (show ∀ x, Kept [w.heap.size + 1] wr x → x.cell? ⟨w.heap.size, 0, none⟩ = some (.slice p1 xs.length c1) ∧ x.cell? ⟨w.heap.size, 1, none⟩ = some (.slice p2 ps.length c2) ∧ (convert 47 9 (.slice (some ⟨g, 0, none⟩) N cap)).run Tryz.prog x = .ok (.string b) x ∧ Kept [w.heap.size + 1] wr x from
          fun x h => ⟨(h.row HYr.out (by simp)).cell 0, (h.row HYr.out (by simp)).cell 1, text_of_row (by rw [← HNN.out]; exact ownsRow_keptN HOw.out h (fun j c hj => by cases hj; simpa using hgl)) (by intro hv; cases hv) Tryz.underlying47 Tryz.underlying5 Tryz.underlying9, h⟩)
        clear hz0' hz1' hm64 hgs hs0 hs1 hgl
        go_wp2_with fail
        go_region_held3 (fun x => x.cell? ⟨w.heap.size, 0, none⟩ = some (.slice p1 xs.length c1) ∧ x.cell? ⟨w.heap.size, 1, none⟩ = some (.slice p2 ps.length c2) ∧ (convert 47 9 (.slice (some ⟨g, 0, none⟩) N cap)).run Tryz.prog x = .ok (.string b) x ∧ Kept [w.heap.size + 1] wr x)
          ((go_split_ands; refine HSS.out _ ?_; repeat (first | with_reducible assumption | with_reducible exact Kept.refl _ _ | with_reducible refine Kept.drew ?_ | with_reducible refine Kept.set ?_ (by simp) _)))
          ((first
            | (go_at_call 24; go_split_ands; refine (l02Copy_any _ _ xs ps _ hn hn2 (Kept.reads (S := [w.heap.size + 1]) (by assumption) (HRw.out.below HBr.out (Nat.le_refl _)) (fun x hx => by have := HRw.out.leads x hx; simp; omega)) (Kept.readsP (S := [w.heap.size + 1]) (by assumption) (HPw.out.below HBr.out (Nat.le_refl _)) (fun x hx => by have := HPw.out.leads x hx; simp; omega))).mono ?_; rintro e w7 ⟨us, up, rfl, o1, o2, dd, _, hb7⟩
               have hK7 : Kept [w.heap.size + 1] wr w7 := Kept.below (by assumption) hb7
               obtain ⟨s1, s2, s3, rfl⟩ := o1.isSlice
               obtain ⟨s4, s5, s6, rfl⟩ := o2.isSlice
               have r7 : Row w7 (w.heap.size + 1) 31 [.slice none 0 0, .slice none 0 0, .string ⟨#[]⟩, .int .i64 0, .int .i64 0] := Row.after hb7 HXr.out.drew
               have d0 : w7.cell? ⟨w.heap.size + 1, 0, none⟩ = some (.slice none 0 0) := r7.cell 0
               have d1 : w7.cell? ⟨w.heap.size + 1, 1, none⟩ = some (.slice none 0 0) := r7.cell 1
               have d2 : w7.cell? ⟨w.heap.size + 1, 2, none⟩ = some (.string ⟨#[]⟩) := r7.cell 2
               have d3 : w7.cell? ⟨w.heap.size + 1, 3, none⟩ = some (.int .i64 0) := r7.cell 3
               have d4 : w7.cell? ⟨w.heap.size + 1, 4, none⟩ = some (.int .i64 0) := r7.cell 4
               have f0 := r7.free 0
               have f1 := r7.free 1
               have f2 := r7.free 2
               have f3 := r7.free 3
               have f4 := r7.free 4
               have HR7 := hide r7
               have HB7 := hide (HBr.out.trans ((below_drew hb7).mono HBr.out.size))
               have O1 := hide o1
               have O2 := hide o2
               have DD := hide dd
               clear hb7 r7 o1 o2 dd)))
        all_goals
          obtain ⟨q0, q1, q2, q3, q4, KF⟩ := five HR7.out (.slice s1 s2 s3) (.slice s4 s5 s6) (.string b) (.int .i64 gen) (.int .i64 0)
          have hwl := HXr.out.lt
          clear d0 d1 d2 d3 d4 f0 f1 f2 f3 f4
          go_wp2
          exact bodyPost_ret (v := .agg #[.slice s1 s2 s3, .slice s4 s5 s6, .string b, .int .i64 gen, .int .i64 0]) (by simp [results, Tryz.results6, go_sem, q0, q1, q2, q3, q4]) rfl
            ⟨by rw [HF5.out]; exact ⟨_, _, rfl, (O1.out.kept KF (fun x hx => by have := (O1.out.leads x hx).1; simp at this ⊢; omega)).mono HBr.out.size, (O2.out.kept KF (fun x hx => by have := (O2.out.leads x hx).1; simp at this ⊢; omega)).mono HBr.out.size, DD.out⟩, KF.toBelow HB7.out HB7.out.size (by simp)⟩
  · have HF := hide (show areaOut xs ps = aill code by unfold areaOut; rw [HOK.out, ← Hr.out, if_neg (by simp), if_pos hc])
    have hc' : (code != 0) = true := by simpa using hc
    go_wp2_with fail
    refine (l03Ill_any _ _).mono ?_
    rintro e w3 ⟨rfl, hb3⟩
    have R3 := Row.after hb3 HX2.out
    have HB3 := hide (HB2.out.trans (hb3.mono HB2.out.size))
    have c0 : w3.cell? ⟨w.heap.size + 1, 0, none⟩ = some (.slice none 0 0) := R3.cell 0
    have c1' : w3.cell? ⟨w.heap.size + 1, 1, none⟩ = some (.slice none 0 0) := R3.cell 1
    have c2' : w3.cell? ⟨w.heap.size + 1, 2, none⟩ = some (.string ⟨#[]⟩) := R3.cell 2
    have c3 : w3.cell? ⟨w.heap.size + 1, 3, none⟩ = some (.int .i64 0) := R3.cell 3
    have c4 : w3.cell? ⟨w.heap.size + 1, 4, none⟩ = some (.int .i64 0) := R3.cell 4
    have f0 := R3.free 0
    have f1 := R3.free 1
    have f2 := R3.free 2
    have f3 := R3.free 3
    have f4 := R3.free 4
    have HR3 := hide R3
    clear hb3 R3
    go_wp2
    obtain ⟨q0, q1, q2, q3, q4, KF⟩ := five HR3.out (.slice none 0 0) (.slice none 0 0) (.string ⟨#[]⟩) (.int .i64 0) (.int .i64 code)
    exact bodyPost_ret (v := .agg #[.slice none 0 0, .slice none 0 0, .string ⟨#[]⟩, .int .i64 0, .int .i64 code]) (by simp [results, Tryz.results6, go_sem, q0, q1, q2, q3, q4]) rfl
      ⟨by rw [HF.out]; exact AOutIs.ill _ _ _, KF.toBelow HB3.out HB3.out.size (by simp)⟩

theorem specAreaRead_any (vs vp : Value) (xs : List ByteArray) (ps : List (Int × ByteArray)) (w : World) (hn : xs.length ≤ 1048576) (hn2 : ps.length ≤ 1048576) (hr : Reads w vs xs) (hp : ReadsP w vp ps) :
    Calls Tryz.prog 6 #[.agg #[vs, vp]] w fun e w' => AOutIs w.heap.size e w' (areaOut xs ps) ∧ Below w.heap.size w w' := by
  cases hok : right xs ps with
  | false =>
    have h : areaOut xs ps = aill 1 := by unfold areaOut; rw [if_pos hok]
    rw [h]; exact specAreaRead_ill vs vp xs ps w hn hn2 hr hp hok
  | true => exact specAreaRead_rest vs vp xs ps w hn hn2 hr hp hok
end Go.Proofs.YtfdgifflnmpmaaaGreatDoor
/- The specification's AreaPut: the steps, and the calls ahead of them. -/
namespace Go.Proofs.YtfdgifflnmpmaaaGreatDoor
open Go.RowKit

/-- The piece of a text that stands in its sector k. -/
def piece (d : ByteArray) (k : Nat) : ByteArray := d.extract (64 * k) (min d.size (64 * (k + 1)))
def cuts (d : ByteArray) : Nat := (d.size + 63) / 64
/-- The steps of a text that is put: each sector, a flush, the head, a flush. -/
def putList (h : Int) (side gen : Int) (d : ByteArray) : List (Bool × Int × ByteArray) :=
  (List.range (cuts d)).map (fun (k : Nat) => (false, 1 + (1 - side) * h + (k : Int), piece d k)) ++ [(true, 0, ⟨#[]⟩), (false, 0, headOf (gen + 1) (1 - side) d.size), (true, 0, ⟨#[]⟩)]
theorem putList_len (h side gen : Int) (d : ByteArray) : (putList h side gen d).length = cuts d + 3 := by unfold putList; simp
theorem putList_write (h side gen : Int) (d : ByteArray) (k : Nat) (hk : k < cuts d) (hl : k < (putList h side gen d).length) : (putList h side gen d)[k] = (false, 1 + (1 - side) * h + (k : Int), piece d k) := by
  unfold putList at hl ⊢
  rw [List.getElem_append_left (by simpa using hk)]
  simp
theorem putList_head (h side gen : Int) (d : ByteArray) (hl : cuts d + 1 < (putList h side gen d).length) : (putList h side gen d)[cuts d + 1] = (false, 0, headOf (gen + 1) (1 - side) d.size) := by
  unfold putList at hl ⊢
  rw [List.getElem_append_right (by simp)]
  simp
theorem putList_flush (h side gen : Int) (d : ByteArray) (k : Nat) (h1 : cuts d ≤ k) (h2 : k ≠ cuts d + 1) (hl : k < (putList h side gen d).length) : ((putList h side gen d)[k]).1 = true := by
  have hl' := hl
  rw [putList_len] at hl'
  unfold putList at hl ⊢
  rw [List.getElem_append_right (by simpa using h1)]
  simp only [List.length_map, List.length_range]
  rcases (show k - cuts d = 0 ∨ k - cuts d = 2 by omega) with e | e
  · simp only [e]; rfl
  · simp only [e]; rfl
def putOut (xs : List ByteArray) (ps : List (Int × ByteArray)) (d : ByteArray) (a : Int) : AOut :=
  if 8000 < d.size then aill 2
  else if right xs ps = false then aill 1
  else if (areaOut xs ps).c ≠ 0 then aill (areaOut xs ps).c
  else if 64 * half xs.length < (d.size : Int) ∨ 1000000 ≤ (areaOut xs ps).g then aill 9
  else if (runOut ((putList (half xs.length) (seen xs ps).2.1 (areaOut xs ps).g d).take a.toNat) xs ps).c = 0 then
    ⟨(runOut ((putList (half xs.length) (seen xs ps).2.1 (areaOut xs ps).g d).take a.toNat) xs ps).xs, (runOut ((putList (half xs.length) (seen xs ps).2.1 (areaOut xs ps).g d).take a.toNat) xs ps).ps, ⟨#[]⟩, 0, 0⟩
  else aill (runOut ((putList (half xs.length) (seen xs ps).2.1 (areaOut xs ps).g d).take a.toNat) xs ps).c
theorem areaOut_ok {xs : List ByteArray} {ps : List (Int × ByteArray)} (hok : right xs ps = true) (h : (areaOut xs ps).c = 0) : (seen xs ps).2.2.2 = 0 ∧ (areaOut xs ps).g = (seen xs ps).1 ∧ (areaOut xs ps).xs = xs ∧ (areaOut xs ps).ps = ps := by
  unfold areaOut at h ⊢
  rw [hok] at h ⊢
  simp only [Bool.true_eq_false, if_false] at h ⊢
  by_cases hs : (seen xs ps).2.2.2 = 0
  · rw [if_neg (by simpa using hs)] at h ⊢
    split
    · exact ⟨hs, rfl, rfl, rfl⟩
    · rename_i hf; rw [if_neg hf] at h; simp [aill] at h
  · rw [if_pos hs] at h; exact absurd h (by simpa [aill] using hs)
end Go.Proofs.YtfdgifflnmpmaaaGreatDoor
