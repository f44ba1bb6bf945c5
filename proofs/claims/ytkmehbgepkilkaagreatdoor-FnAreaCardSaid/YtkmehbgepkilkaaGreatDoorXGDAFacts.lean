/- What the laws of one text on a disk need: facts that outlast a call, bounds of what is answered, the contracts in one form. -/
import Derived.Test.YtkmehbgepkilkaaGreatDoorXGLwDisk
import Derived.Test.YtkmehbgepkilkaaGreatDoorXGAMath
import Derived.Test.YtkmehbgepkilkaaGreatDoorXGIAPut
import Derived.Test.YtkmehbgepkilkaaGreatDoorXGIARead
import Derived.Test.YtkmehbgepkilkaaGreatDoorXGIFormat
import Derived.Test.YtkmehbgepkilkaaGreatDoorXGIRoom
import Derived.Test.YtkmehbgepkilkaaGreatDoorXGSARead
import Derived.Test.YtkmehbgepkilkaaGreatDoorXGIBank
namespace Go.Proofs.YtkmehbgepkilkaaGreatDoor
open Go.RowKit

instance stab_readsBA (v : Value) (bs : List Int) : Stab (fun w => ReadsB w v bs) := ⟨fun hb h => h.below hb (Nat.le_refl _)⟩
/-- A disk lies at block b. -/
structure PDA (b : Nat) (us up : Value) (xs : List ByteArray) (ps : List (Int × ByteArray)) (w : World) : Prop where
  row : Row w b 26 [us, up]
  rs : Reads w us xs
  rp : ReadsP w up ps
/-- An answer about a text on a disk lies at block b. -/
structure POA (b : Nat) (us up : Value) (o : AOut) (w : World) : Prop where
  row : Row w b 31 [us, up, .string o.t, .int .i64 o.g, .int .i64 o.c]
  rs : Reads w us o.xs
  rp : ReadsP w up o.ps
instance stab_pda (b : Nat) (us up : Value) (xs : List ByteArray) (ps : List (Int × ByteArray)) : Stab (fun w => PDA b us up xs ps w) := ⟨fun hb h => ⟨Row.after hb h.row, h.rs.below hb (Nat.le_refl _), h.rp.below hb (Nat.le_refl _)⟩⟩
instance stab_poa (b : Nat) (us up : Value) (o : AOut) : Stab (fun w => POA b us up o w) := ⟨fun hb h => ⟨Row.after hb h.row, h.rs.below hb (Nat.le_refl _), h.rp.below hb (Nat.le_refl _)⟩⟩
theorem areaO_len {xs : List ByteArray} {ps : List (Int × ByteArray)} (h : Small xs ps) : (areaOut xs ps).xs.length ≤ 1048576 ∧ (areaOut xs ps).ps.length ≤ 1048576 := by
  unfold areaOut
  split
  · exact ⟨by simp [aill], by simp [aill]⟩
  · split
    · exact ⟨by simp [aill], by simp [aill]⟩
    · split
      · exact ⟨h.1, h.2.2.1⟩
      · exact ⟨by simp [aill], by simp [aill]⟩
theorem formatO_len {xs : List ByteArray} {ps : List (Int × ByteArray)} (h : Small xs ps) : (formatOut xs ps).xs.length ≤ 1048576 ∧ (formatOut xs ps).ps.length ≤ 1048576 := by
  unfold formatOut
  split
  · exact ⟨by simp [aill], by simp [aill]⟩
  · split
    · exact ⟨by simp [aill], by simp [aill]⟩
    · exact ⟨by rw [show (AOut.mk (applyP (ps ++ [(0, headOf 0 0 0)]) xs) [] ⟨#[]⟩ 0 0).xs = applyP (ps ++ [(0, headOf 0 0 0)]) xs from rfl, applyP_lenS]; exact h.1, by simp⟩
theorem putO_ill {xs : List ByteArray} {ps : List (Int × ByteArray)} {d : ByteArray} {a : Int} (h : (putOut xs ps d a).c ≠ 0) : (putOut xs ps d a).xs = [] ∧ (putOut xs ps d a).ps = [] := by
  unfold putOut at h ⊢
  by_cases h1 : 8000 < d.size
  · rw [if_pos h1]; exact ⟨rfl, rfl⟩
  rw [if_neg h1] at h ⊢
  by_cases h2 : right xs ps = false
  · rw [if_pos h2]; exact ⟨rfl, rfl⟩
  rw [if_neg h2] at h ⊢
  by_cases h3 : (areaOut xs ps).c ≠ 0
  · rw [if_pos h3]; exact ⟨rfl, rfl⟩
  rw [if_neg h3] at h ⊢
  by_cases h4 : 64 * half xs.length < (d.size : Int) ∨ 1000000 ≤ (areaOut xs ps).g
  · rw [if_pos h4]; exact ⟨rfl, rfl⟩
  rw [if_neg h4] at h ⊢
  by_cases h5 : (runOut ((putList (half xs.length) (seen xs ps).2.1 (areaOut xs ps).g d).take a.toNat) xs ps).c = 0
  · rw [if_pos h5] at h; exact absurd rfl h
  · rw [if_neg h5]; exact ⟨rfl, rfl⟩
theorem putO_len (xs : List ByteArray) (ps : List (Int × ByteArray)) (d : ByteArray) (a : Int) : (putOut xs ps d a).xs.length ≤ 1048576 ∧ (putOut xs ps d a).ps.length ≤ 1048576 := by
  by_cases h : (putOut xs ps d a).c = 0
  · have h1 := (putA_ok d a h).1
    have h2 := right_len h1
    have h3 := right_ge h1
    omega
  · obtain ⟨h1, h2⟩ := putO_ill h
    rw [h1, h2]
    exact ⟨by simp, by simp⟩
/-- A text that has no room is refused. -/
theorem put_full {xs : List ByteArray} {ps : List (Int × ByteArray)} {d : ByteArray} {a : Int} (hd : d.size ≤ 8000) (h : (areaOut xs ps).c = 0) (hr : room xs ps < (d.size : Int)) : (putOut xs ps d a).c = 9 := by
  have h2 : right xs ps = true := by
    by_cases h2 : right xs ps = false
    · unfold areaOut at h; rw [if_pos h2] at h; simp [aill] at h
    · simpa using h2
  unfold room at hr
  rw [if_pos h2] at hr
  unfold putOut
  rw [if_neg (by omega), if_neg (by rw [h2]; simp), if_neg (by omega), if_pos (.inl hr)]
  rfl
/-- The number of a text that is read. -/
theorem area_gen {xs : List ByteArray} {ps : List (Int × ByteArray)} (hok : right xs ps = true) (h : (areaOut xs ps).c = 0) : 0 ≤ (areaOut xs ps).g := by
  obtain ⟨h1, h2, _⟩ := areaOut_ok hok h
  rw [h2]
  exact (seen_ok h1).1
theorem implRd (vs vp : Value) (xs : List ByteArray) (ps : List (Int × ByteArray)) (aF aR aU : Addr) (w : World) (h : Small xs ps) (hr : Reads w vs xs) (hp : ReadsP w vp ps) (hS : Sents aF aR aU w) (hG : St3.Laid w) :
    Calls Tryz.prog 8 #[.agg #[vs, vp]] w fun e w' => AOutIs w.heap.size e w' (areaOut xs ps) ∧ Below w.heap.size w w' :=
  implARead_any vs vp xs ps aF aR aU w h.1 h.2.2.1 hr hp hS (fun hok vs vp w'' hb' hr hp => readArea_any vs vp xs ps w'' hr hp hok (Stab.go hb' hG))
theorem implPt (vs vp : Value) (xs : List ByteArray) (ps : List (Int × ByteArray)) (d : ByteArray) (a : Int) (aF aR aU : Addr) (w : World) (h : Small xs ps) (hd : d.size ≤ 1048576) (hr : Reads w vs xs) (hp : ReadsP w vp ps) (hS : Sents aF aR aU w) (hG : St3.Laid w) :
    Calls Tryz.prog 9 #[.agg #[vs, vp], .string d, .int .i64 a] w fun e w' => AOutIs w.heap.size e w' (putOut xs ps d a) ∧ Below w.heap.size w w' :=
  implAPut_any vs vp xs ps d a aF aR aU w h.1 h.2.2.1 hd hr hp hS (fun hok vs vp w'' hb' hr hp => readArea_any vs vp xs ps w'' hr hp hok (Stab.go hb' hG))
end Go.Proofs.YtkmehbgepkilkaaGreatDoor
