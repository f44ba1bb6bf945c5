/- A number of a place's text taken off: of the program. -/
import Derived.Test.YtjcbojgomcakeaaDoorPReadM
import Derived.Test.YtjcbojgomcakeaaDoorShelfR
import Derived.Lib.SmallJoins
namespace Go.Proofs.YtjcbojgomcakeaaDoor
open Go.RowKit
/-- The two errors of strconv lie where they were laid. -/
def Errs (w : World) : Prop := 2 < w.heap.size ∧ (∃ te pe, w.cell? ⟨1, 0, none⟩ = some (.iface te pe)) ∧ ∃ te pe, w.cell? ⟨2, 0, none⟩ = some (.iface te pe)
theorem Errs.below {w w' : World} {B : Nat} (h : Errs w) (hb : Below B w w') (hB : 2 < B) : Errs w' := by
  obtain ⟨h0, ⟨t1, p1, h1⟩, t2, p2, h2⟩ := h
  exact ⟨Nat.lt_of_lt_of_le h0 hb.size, ⟨t1, p1, by rw [hb.cell (p := ⟨1, 0, none⟩) (by show 1 < B; omega)]; exact h1⟩, t2, p2, by rw [hb.cell (p := ⟨2, 0, none⟩) (by show 2 < B; omega)]; exact h2⟩
theorem Errs.kept {w w' : World} {S : List Nat} (h : Errs w) (hk : Kept S w w') (hS : ∀ x ∈ S, 2 < x) : Errs w' := by
  obtain ⟨h0, ⟨t1, p1, h1⟩, t2, p2, h2⟩ := h
  refine ⟨Nat.lt_of_lt_of_le h0 hk.size, ⟨t1, p1, hk.cell h1 fun hm => ?_⟩, t2, p2, hk.cell h2 fun hm => ?_⟩
  · exact absurd (hS _ hm) (by decide)
  · exact absurd (hS _ hm) (by decide)
theorem cloneP_any (s : ByteArray) (w : World) (hlim : s.size ≤ 281474976710656) :
    Calls Tryd.prog 21 #[.string s] w fun e w' => e = .returned (.string s) ∧ Below w.heap.size w w' := by
  go_enter Tryd.func21, Tryd.ntmps21
  go_wp2_with fail
  refine (Tryd.stringslite_Clone s _ hlim).mono ?_
  rintro e w1 ⟨rfl, hb⟩
  have HB := hide hb
  clear hb
  go_wp2
  go_ret
  exact ⟨rfl, HB.out⟩
theorem parseInt_any (d : List UInt8) (w : World) (hd : d.length ≤ 100000) (he : Errs w) :
    Calls Tryd.prog 38 #[.string ⟨d.toArray⟩, .int .i64 10, .int .i64 64] w fun e w' => (∃ v, e = .returned (.tuple #[.int .i64 (parseN d), v])) ∧ Below w.heap.size w w' := by
  obtain ⟨_, ⟨t1, p1, h1⟩, t2, p2, h2⟩ := he
  have hsz : (⟨d.toArray⟩ : ByteArray).size = d.length := by simp [ByteArray.size]
  cases hp : Lib.parseIntB 64 d with
  | ok v =>
    refine (Tryd.strconv_ParseInt_10_at64_ok ⟨d.toArray⟩ (by rw [hsz]; omega) v (by simpa using hp) w).mono ?_
    rintro e w' ⟨rfl, hw⟩
    refine ⟨⟨_, by rw [show parseN d = v by simp [parseN, hp]]⟩, ?_⟩
    rcases hw with rfl | ⟨t, rfl⟩
    · exact Below.refl _ _
    · exact Go.Joins.below_bytesWorld _ w _ t (Nat.le_refl _)
  | «syntax» =>
    refine (Tryd.strconv_ParseInt_10_at64_syntax ⟨d.toArray⟩ (by rw [hsz]; omega) (by simpa using hp) _ w h1 (.inr ⟨_, _, rfl⟩)).mono ?_
    rintro e w' ⟨N, rfl, _, _, hb⟩
    exact ⟨⟨_, by rw [show parseN d = 0 by simp [parseN, hp]]⟩, hb⟩
  | range =>
    refine (Tryd.strconv_ParseInt_10_at64_range ⟨d.toArray⟩ (by rw [hsz]; omega) (by simpa using hp) _ w h2 (.inr ⟨_, _, rfl⟩)).mono ?_
    rintro e w' ⟨N, rfl, _, _, hb⟩
    exact ⟨⟨_, by rw [show parseN d = Lib.intSat 64 d by simp [parseN, hp]]⟩, hb⟩
theorem trimDigits_any (l : List UInt8) (w : World) :
    Calls Tryd.prog 36 #[.string ⟨l.toArray⟩, .string ⟨#[48, 49, 50, 51, 52, 53, 54, 55, 56, 57]⟩] w fun e w' => e = .returned (.string ⟨(Lib.trimLeftS l digC).toArray⟩) ∧ Below w.heap.size w w' :=
  Any.strings_TrimLeft_laid Tryd.lays161 (by kernel_rfl) ⟨l.toArray⟩ ⟨#[48, 49, 50, 51, 52, 53, 54, 55, 56, 57]⟩ w (by decide) (ascii_of_all (by decide))
theorem ext_take (l : List UInt8) (k : Nat) : (⟨l.toArray⟩ : ByteArray).extract 0 k = ⟨(l.take k).toArray⟩ := by
  apply ByteArray.ext
  apply Array.ext'
  simp [ByteArray.data_extract]
theorem ext_drop (l : List UInt8) (k : Nat) : (⟨l.toArray⟩ : ByteArray).extract k l.length = ⟨(l.drop k).toArray⟩ := by
  apply ByteArray.ext
  apply Array.ext'
  simp only [ByteArray.data_extract, Array.toList_extract]
  simp only [List.extract]
  exact List.take_of_length_le (by simp)
set_option maxHeartbeats 2000000 in
set_option maxRecDepth 100000 in
theorem number_any (R : Nat) (rest a b : List UInt8) (w : World) (hR : Row w R 44 [.string ⟨rest.toArray⟩]) (hl : rest.length ≤ 8000) (he : Errs w) (hR2 : 2 < R) :
    Calls Tryd.prog 22 #[.pointer (some ⟨R, 0, none⟩), .string ⟨a.toArray⟩, .string ⟨b.toArray⟩] w fun e w' => e = .returned (.int .i64 (numI a b rest).1) ∧ Row w' R 44 [.string ⟨(numI a b rest).2.toArray⟩] ∧ Kept [R] w w' := by
  have HR := hide hR
  have HE := hide he
  have c0 : w.cell? ⟨R, 0, none⟩ = some (.string ⟨rest.toArray⟩) := hR.cell 0
  clear hR he
  obtain ⟨O, hO⟩ : ∃ O, O = numI a b rest := ⟨_, rfl⟩
  rw [← hO]
  have HO := hide hO
  clear hO
  go_enter Tryd.func22, Tryd.ntmps22
  go_wp2_with fail
  refine (Tryd.strings_CutPrefix ⟨rest.toArray⟩ ⟨a.toArray⟩ _).mono ?_
  rintro e w1 ⟨rfl, rfl⟩
  simp only []
  cases hp : Lib.hasPrefix rest a
  · have HN := hide (show O = (1, rest) by rw [HO.out]; simp [numI, hp])
    go_wp2
    go_ret
    exact ⟨by rw [HN.out]; rfl, by rw [HN.out]; exact HR.out, Kept.refl _ _⟩
  · have HP := hide hp
    have HN := hide (show O = (parseN ((Lib.trimPrefix rest a).take ((Lib.trimPrefix rest a).length - (Lib.trimLeftS (Lib.trimPrefix rest a) digC).length)), Lib.trimPrefix ((Lib.trimPrefix rest a).drop ((Lib.trimPrefix rest a).length - (Lib.trimLeftS (Lib.trimPrefix rest a) digC).length)) b) by rw [HO.out]; simp [numI, hp])
    have hll : (Lib.trimPrefix rest a).length ≤ 8000 := by
      have : (Lib.trimPrefix rest a).length ≤ rest.length := by unfold Lib.trimPrefix; split <;> simp
      omega
    generalize Lib.trimPrefix rest a = l at *
    have htl : (Lib.trimLeftS l digC).length ≤ l.length := by unfold Lib.trimLeftS; exact (List.dropWhile_sublist _).length_le
    clear hp HO
    go_wp2_with fail
    refine (trimDigits_any l _).mono ?_
    rintro e w2 ⟨rfl, hb2⟩
    generalize Lib.trimLeftS l digC = t at *
    obtain ⟨k, hk⟩ : ∃ k : Nat, k = l.length - t.length := ⟨_, rfl⟩
    rw [← hk] at HN
    have hkI : ((l.length : Int) - (t.length : Int)) = (k : Int) := by omega
    have hkl : k ≤ l.length := by omega
    clear hk
    have HR2 := hide (HR.out.below hb2 HR.out.lt)
    have HB2 := hide hb2
    have d0 : w2.cell? ⟨R, 0, none⟩ = some (.string ⟨rest.toArray⟩) := HR2.out.cell 0
    have p0 := HR2.out.free 0
    clear hb2
    go_wp2_with fail
    rw [ext_drop]
    refine (Tryd.strings_TrimPrefix ⟨(l.drop k).toArray⟩ ⟨b.toArray⟩ _).mono ?_
    rintro e w3 ⟨rfl, rfl⟩
    rw [show (Lib.trimPrefix (⟨(l.drop k).toArray⟩ : ByteArray).data.toList (⟨b.toArray⟩ : ByteArray).data.toList) = Lib.trimPrefix (l.drop k) b from rfl]
    generalize Lib.trimPrefix (l.drop k) b = NEW at *
    have HB3 := hide (show Kept [R] w1 (w3.setCell ⟨R, 0, none⟩ (.string ⟨NEW.toArray⟩)) from ((Kept.ofBelow HB2.out).mono (by simp)).trans (Kept.ofSet _ _ _ _))
    have HR3 := hide (HR2.out.set (j := 0) (.string ⟨NEW.toArray⟩))
    have HE3 := hide (HE.out.kept HB3.out (by simp; exact hR2))
    go_wp2_with fail
    rw [ext_take]
    generalize hW : w3.setCell ⟨R, 0, none⟩ (.string ⟨NEW.toArray⟩) = W at *
    clear hW
    refine (parseInt_any (l.take k) _ (by rw [List.length_take]; omega) HE3.out).mono ?_
    rintro e w4 ⟨⟨v, rfl⟩, hb4⟩
    have HB4 := hide (HB3.out.below hb4)
    have HR4 := hide (HR3.out.below hb4 HR3.out.lt)
    clear hb4 d0 p0 c0
    generalize parseN (l.take k) = PN at *
    go_wp2
    go_ret
    exact ⟨by rw [HN.out]; rfl, by rw [HN.out]; exact HR4.out, HB4.out⟩

def PathM.vOut (q : PathM) (c : Int) : Value := .agg #[.string q.seg, .int .i64 q.nth, .int .i64 q.fld, .int .i64 q.rep, .int .i64 q.comp, .int .i64 q.sub, .int .i64 c]
end Go.Proofs.YtjcbojgomcakeaaDoor
