/- How the program reads a text back: readCode, escaped, standsForItself. -/
import Derived.Test.YtckcfjibiidafaaGreatXG9FPlainT
namespace Go.Proofs.YtckcfjibiidafaaGreat
open Go.RowKit

theorem extract_data (s : ByteArray) (k : Nat) : (s.extract k s.size).data.toList = s.data.toList.drop k := by
  rw [ByteArray.data_extract, Array.toList_extract]
  rw [List.extract_eq_take_drop]
  exact List.take_of_length_le (by simp)
theorem escAt_short {m : ByteArray} {l : List UInt8} (h : l.length < 3) : escAt m l = none := by
  unfold escAt
  split
  · simp at h; omega
  · rfl
theorem escAt_get {m s : ByteArray} (h : 3 ≤ s.size) : escAt m s.data.toList = if s[0]'(by omega) = bAt m 3 ∧ s[2]'(by omega) = bAt m 3 ∧ 0 ≤ lidx (s[1]'(by omega)) then some (bAt m (lidx (s[1]'(by omega))).toNat) else none := by
  have e := drop_cons s 0 (by omega)
  rw [List.drop_zero] at e
  rw [e, drop_cons s 1 (by omega), drop_cons s 2 (by omega)]
  rfl

set_option maxHeartbeats 2000000 in
set_option maxRecDepth 100000 in
theorem escaped_yes (m s : ByteArray) (b : Bool) (x : UInt8) (w : World) (hm : m.size = 5) (h : escAt m s.data.toList = some x) :
    Calls Tryz.prog 104 #[.agg #[.string m, .bool b], .string s] w fun e w' => e = .returned (.tuple #[.int .u8 (x.toNat : Int), .bool true]) ∧ Below w.heap.size w w' := by
  have h3m : 3 < m.size := by omega
  have hs3 : 3 ≤ s.size := by
    rcases Nat.lt_or_ge s.size 3 with h' | h'
    · rw [escAt_short (by rw [bytes_len]; exact h')] at h; cases h
    · exact h'
  rw [escAt_get hs3] at h
  split at h
  · rename_i hh
    obtain ⟨h0, h2, h1⟩ := hh
    simp only [Option.some.injEq] at h
    obtain ⟨q, hq⟩ : ∃ q : Nat, lidx (s[1]'(by omega)) = q := ⟨_, (Int.toNat_of_nonneg h1).symm⟩
    have hq5 : q < m.size := by have := lidx_lt (s[1]'(by omega)); omega
    have hq5i : (q : Int) < 5 := by omega
    rw [hq, Int.toNat_natCast, bAt_get m q hq5] at h
    rw [bAt_get m 3 h3m] at h0 h2
    have HX := hideF h
    have HQ := hideF hq
    have k0 : (((s[0]'(by omega)).toNat : Int) != ((m[3]'h3m).toNat : Int)) = false := by rw [h0]; simp
    have k2 : (((s[2]'(by omega)).toNat : Int) != ((m[3]'h3m).toNat : Int)) = false := by rw [h2]; simp
    have b0 : 0 < s.size := by omega
    have b1 : 1 < s.size := by omega
    have b2 : 2 < s.size := by omega
    have nb : ¬ (s.size : Int) < 3 := by omega
    clear h0 h2 h1 h hq
    go_enter Tryz.func104, Tryz.ntmps104
    go_wp2_with fail
    refine (indexByte_any _ _ _).mono ?_
    rintro e w' ⟨rfl, rfl⟩
    rw [u8_back, letters_data]
    rw [show Lib.indexByte letters (s[1]'b1) = (q : Int) from HQ.out]
    go_wp2
    exact bodyPost_ret (v := .tuple #[.int .u8 ((m[q]'hq5).toNat : Int), .bool true]) (by simp [results, Tryz.results104, go_sem]) rfl ⟨by rw [HX.out], (Below.refl _ _).alloc (Nat.le_refl _) _⟩
  · cases h

set_option maxHeartbeats 2000000 in
set_option maxRecDepth 100000 in
theorem escaped_no (m s : ByteArray) (b : Bool) (w : World) (hm : m.size = 5) (h : escAt m s.data.toList = none) :
    Calls Tryz.prog 104 #[.agg #[.string m, .bool b], .string s] w fun e w' => e = .returned (.tuple #[.int .u8 0, .bool false]) ∧ Below w.heap.size w w' := by
  have h3m : 3 < m.size := by omega
  by_cases hs3 : (s.size : Int) < 3
  · go_enter Tryz.func104, Tryz.ntmps104
    go_wp2
    exact bodyPost_ret (v := .tuple #[.int .u8 0, .bool false]) (by simp [results, Tryz.results104, go_sem]) rfl ⟨rfl, (Below.refl _ _).alloc (Nat.le_refl _) _⟩
  have b0 : 0 < s.size := by omega
  have b1 : 1 < s.size := by omega
  have b2 : 2 < s.size := by omega
  rw [escAt_get (by omega), bAt_get m 3 h3m] at h
  cases k0 : (((s[0]'b0).toNat : Int) != ((m[3]'h3m).toNat : Int))
  · cases k2 : (((s[2]'b2).toNat : Int) != ((m[3]'h3m).toNat : Int))
    · have hl : lidx (s[1]'b1) < 0 := by
        by_cases h' : lidx (s[1]'b1) < 0
        · exact h'
        · have h' : 0 ≤ lidx (s[1]'b1) := by omega
          rw [if_pos ⟨u8_eq (by simpa using k0), u8_eq (by simpa using k2), h'⟩] at h
          cases h
      have HL := hideF hl
      clear h hl
      go_enter Tryz.func104, Tryz.ntmps104
      go_wp2_with fail
      refine (indexByte_any _ _ _).mono ?_
      rintro e w' ⟨rfl, rfl⟩
      rw [u8_back, letters_data]
      have hneg : Lib.indexByte letters (s[1]'b1) < 0 := HL.out
      generalize Lib.indexByte letters (s[1]'b1) = z at hneg
      go_wp2
      exact bodyPost_ret (v := .tuple #[.int .u8 0, .bool false]) (by simp [results, Tryz.results104, go_sem]) rfl ⟨rfl, (Below.refl _ _).alloc (Nat.le_refl _) _⟩
    · clear h
      go_enter Tryz.func104, Tryz.ntmps104
      go_wp2
      exact bodyPost_ret (v := .tuple #[.int .u8 0, .bool false]) (by simp [results, Tryz.results104, go_sem]) rfl ⟨rfl, (Below.refl _ _).alloc (Nat.le_refl _) _⟩
  · clear h
    go_enter Tryz.func104, Tryz.ntmps104
    go_wp2
    exact bodyPost_ret (v := .tuple #[.int .u8 0, .bool false]) (by simp [results, Tryz.results104, go_sem]) rfl ⟨rfl, (Below.refl _ _).alloc (Nat.le_refl _) _⟩

set_option maxHeartbeats 2000000 in
set_option maxRecDepth 100000 in
theorem stands_low (m : ByteArray) (a : UInt8) (w : World) (ha : a.toNat < 128) :
    Calls Tryz.prog 105 #[.agg #[.string m, .bool false], .int .i32 (a.toNat : Int)] w fun e w' => e = .returned (.bool (okSelf m a)) ∧ Below w.heap.size w w' := by
  obtain ⟨R, hR⟩ : ∃ R, R = okSelf m a := ⟨_, rfl⟩
  rw [← hR]
  unfold okSelf at hR
  have HR := hideF hR
  clear hR
  go_enter Tryz.func105, Tryz.ntmps105
  go_wp2_with fail
  refine (indexRune_low _ _ _ (by omega) (by omega)).mono ?_
  rintro e w' ⟨rfl, rfl⟩
  rw [u8_back]
  generalize Lib.indexByte m.data.toList a = z at HR
  go_wp2_with fail
  refine (isPlain_any _ _).mono ?_
  rintro e w' ⟨rfl, rfl⟩
  cases hp : plainR (a.toNat : Int)
  · rw [hp] at HR
    clear hp
    go_wp2
    go_ret
    exact ⟨by rw [HR.out]; rfl, (Below.refl _ _).alloc (Nat.le_refl _) _⟩
  · rw [hp] at HR
    clear hp
    by_cases hz : z < 0
    · go_wp2
      go_ret
      exact ⟨by rw [HR.out]; simp [hz], (Below.refl _ _).alloc (Nat.le_refl _) _⟩
    · go_wp2
      go_ret
      exact ⟨by rw [HR.out]; simp, (Below.refl _ _).alloc (Nat.le_refl _) _⟩

set_option maxHeartbeats 2000000 in
set_option maxRecDepth 100000 in
theorem stands_high (m : ByteArray) (b : Bool) (r : Int) (w : World) (hm : m.size = 5) (hlow : ∀ b ∈ m.data.toList, b.toNat < 128) (h0 : 128 ≤ r) :
    Calls Tryz.prog 105 #[.agg #[.string m, .bool b], .int .i32 r] w fun e w' => e = .returned (.bool false) ∧ Below w.heap.size w w' := by
  have hp := plainR_high r h0
  go_enter Tryz.func105, Tryz.ntmps105
  go_wp2_with fail
  refine (indexRune_high m r _ hm hlow h0).mono ?_
  rintro e w1 ⟨⟨i, rfl⟩, hb1⟩
  have HB := hideF (((Below.refl w.heap.size w).alloc (Nat.le_refl _) (.cells #[.string m, .bool b] 47)).trans (hb1.mono (by simp)))
  clear hb1
  go_wp2_with fail
  refine (isPlain_any _ _).mono ?_
  rintro e w' ⟨rfl, rfl⟩
  rw [hp]
  go_wp2
  go_ret
  exact ⟨rfl, HB.out⟩
end Go.Proofs.YtckcfjibiidafaaGreat
/- The program's plain and PlainOf. -/
namespace Go.Proofs.YtckcfjibiidafaaGreat
open Go.RowKit

theorem letter_low (b : UInt8) (h : 0 ≤ lidx b) : b.toNat < 128 := by
  have h5 := lidx_lt b
  obtain ⟨q, hq⟩ : ∃ q : Nat, lidx b = q := ⟨_, (Int.toNat_of_nonneg h).symm⟩
  have e := indexByte_get letters b q hq
  have hq5 : q < 5 := by omega
  rw [← e]
  match q, hq5 with
  | 0, _ => decide
  | 1, _ => decide
  | 2, _ => decide
  | 3, _ => decide
  | 4, _ => decide
theorem marks_low {m : ByteArray} (h : marksB m = true) : ∀ b ∈ m.data.toList, b.toNat < 128 := by
  intro b hb
  obtain ⟨j, hj, rfl⟩ := List.getElem_of_mem hb
  have hj' : j < m.size := by simpa using hj
  rw [data_get m j hj']
  have := markR_low _ (markAt_of h j hj').1
  omega
/-- Where an escaped one begins at k: its three bytes are there, and are below 128. -/
theorem escAt_drop {m s : ByteArray} (hm : marksB m = true) {k : Nat} {x : UInt8} (h : escAt m (s.data.toList.drop k) = some x) : ∃ h3 : k + 2 < s.size, (s[k]'(by omega)).toNat < 128 ∧ (s[k+1]'(by omega)).toNat < 128 ∧ (s[k+2]'h3).toNat < 128 := by
  have h3 : k + 2 < s.size := by
    rcases Nat.lt_or_ge (k + 2) s.size with h' | h'
    · exact h'
    · rw [escAt_short (by simp; omega)] at h; cases h
  refine ⟨h3, ?_⟩
  rw [drop_cons s k (by omega), drop_cons s (k + 1) (by omega), drop_cons s (k + 1 + 1) h3] at h
  simp only [escAt] at h
  split at h
  · rename_i hh
    have h5 := marksB_five hm
    have hl : (bAt m 3).toNat < 128 := by
      rw [bAt_get m 3 (by omega)]
      exact marks_low hm _ (by rw [← data_get m 3 (by omega)]; exact List.getElem_mem _)
    exact ⟨by rw [hh.1]; exact hl, letter_low _ hh.2.2, by rw [hh.2.1]; exact hl⟩
  · cases h
theorem escAt_high {m s : ByteArray} (hm : marksB m = true) {k : Nat} (hk : k < s.size) (h : 128 ≤ (s[k]'hk).toNat) : escAt m (s.data.toList.drop k) = none := by
  cases he : escAt m (s.data.toList.drop k) with
  | none => rfl
  | some x =>
    obtain ⟨h3, h4, _⟩ := escAt_drop hm he
    omega
def plainRes (o : Option (List UInt8)) : Value := match o with
  | some u => .tuple #[.string ⟨u.toArray⟩, .bool true]
  | none => .tuple #[.string ⟨#[]⟩, .bool false]
/-- How far the reading is: the first p bytes are read into A. -/
def Far (m s : ByteArray) (p : Nat) (A : List UInt8) : Prop := A.length ≤ p ∧ (plainL m (s.data.toList.drop p)).map (A ++ ·) = plainL m s.data.toList
theorem Far.esc {m s : ByteArray} {k : Nat} {A : List UInt8} {x : UInt8} (h : Far m s k A) (hk : k < s.size) (he : escAt m (s.data.toList.drop k) = some x) : Far m s (k + 3) (A ++ [x]) := by
  refine ⟨by have := h.1; simp; omega, ?_⟩
  rw [← h.2, drop_cons s k hk] 
  rw [drop_cons s k hk] at he
  rw [plainL_esc he, List.drop_drop, Option.map_map]
  congr 1
  funext l
  simp
theorem Far.self {m s : ByteArray} {k : Nat} {A : List UInt8} (h : Far m s k A) (hk : k < s.size) (he : escAt m (s.data.toList.drop k) = none) (ho : okSelf m (s[k]'hk) = true) : Far m s (k + 1) (A ++ [s[k]'hk]) := by
  refine ⟨by have := h.1; simp; omega, ?_⟩
  rw [drop_cons s k hk] at he
  rw [← h.2, drop_cons s k hk, plainL_self he ho, Option.map_map]
  congr 1
  funext l
  simp
theorem Far.no {m s : ByteArray} {k : Nat} {A : List UInt8} (h : Far m s k A) (hk : k < s.size) (he : escAt m (s.data.toList.drop k) = none) (ho : okSelf m (s[k]'hk) = false) : plainL m s.data.toList = none := by
  rw [drop_cons s k hk] at he
  rw [← h.2, drop_cons s k hk, plainL_no he ho]
  rfl
theorem Far.done {m s : ByteArray} {A : List UInt8} (h : Far m s s.size A) : plainL m s.data.toList = some A := by
  rw [← h.2, List.drop_eq_nil_of_le (by simp), plainL_nil]
  simp

theorem readerS {w Y : World} {m : ByteArray} {T : TypeId} (h : Y.heap[w.heap.size]? = some (.cells #[.string m, .bool false] T (0, 0))) :
    ∀ x, Below Y.heap.size Y x → x.cell? ⟨w.heap.size, 0, none⟩ = some (.string m) ∧ x.cell? ⟨w.heap.size, 1, none⟩ = some (.bool false) ∧ Below Y.heap.size Y x := by
  intro x hx
  have e := (hx.block w.heap.size (Array.getElem?_eq_some_iff.1 h).1).trans h
  exact ⟨cell_of_row x w.heap.size 0 _ T (0, 0) e, cell_of_row x w.heap.size 1 _ T (0, 0) e, hx⟩
theorem reader_kept {B : Nat} {w w' : World} {v : Value} {L : List UInt8} (h : Buf 5 B w w' v L) {k : Nat} {m : ByteArray} {fz : Nat × Nat} (hk : w.heap[k]? = some (.cells #[.string m, .bool false] 47 fz)) : w'.heap[k]? = some (.cells #[.string m, .bool false] 47 fz) :=
  h.kept k _ hk (by simp) (fun _ _ e1 => by simp at e1)

set_option maxHeartbeats 8000000 in
set_option maxRecDepth 100000 in
theorem plain_any (m s : ByteArray) (w : World) (hm : marksB m = true) (hs : s.size ≤ 20000000) :
    Calls Tryz.prog 101 #[.agg #[.string m, .bool false], .string s] w fun e w' => e = .returned (plainRes (plainL m s.data.toList)) ∧ Below w.heap.size w w' := by
  have hm5 := marksB_five hm
  have HLOW := hideF (marks_low hm)
  obtain ⟨R, hR⟩ : ∃ R, R = plainRes (plainL m s.data.toList) := ⟨_, rfl⟩
  rw [← hR]
  have HR := hideF hR
  clear hR
  have HM := hideF hm
  clear hm
  go_enter Tryz.func101, Tryz.ntmps101
  go_wp2
  go_loopw [6, 7] (fun v' d' w' => ∃ (X : World) (k d : Nat) (A : List UInt8), X = w' ∧ k ≤ s.size ∧ d ≤ s.size ∧ d' = .int .i64 d ∧ X.heap[w.heap.size + 1]? = some (.stringIter s k) ∧ X.heap[w.heap.size]? = some (.cells #[.string m, .bool false] 47 (0, 0)) ∧
      Buf 5 w.heap.size w X v' A ∧ Far m s (max k d) A ∧ ∀ j (hj : j < s.size), k ≤ j → j < d → (s[j]'hj).toNat < 128) (fun _ _ w' => s.size - w'.iterPos (w.heap.size + 1))
  case atStart =>
    refine ⟨_, 0, 0, [], rfl, Nat.zero_le _, Nat.zero_le _, rfl, ?_, ?_, ((Buf.nil _ (Nat.le_refl _)).alloc _).alloc _, ⟨by simp, by simp⟩, fun j hj h1 h2 => by omega⟩
    · have := World.iter_heap (w.alloc (.cells #[.string m, .bool false] 47)) s 0
      simpa using this
    · have := Below.heap_alloc (w.alloc (.cells #[.string m, .bool false] 47)) (.stringIter s 0) w.heap.size (by simp)
      exact this.trans (heap_alloc_new w _)
  case round =>
    obtain ⟨X, k, d, A, rfl, hk, hd, rfl, hit, hrow, hbuf, hfar, hlow⟩ := hrel
    have HBf := hideF hbuf
    have HF := hideF hfar
    have HLW := hideF hlow
    clear hbuf hfar hlow
    by_cases hlt : k < s.size
    · by_cases hkd : (k : Int) < (d : Int)
      · have hasc := HLW.out k hlt (Nat.le_refl _) (by omega)
        have hnx : ∀ ty, (Instr.next (.pointer (some ⟨w.heap.size + 1, 0, none⟩)) true ty).run Tryz.prog X = _ := fun ty => Lib.run_next_ascii_at X (w.heap.size + 1) s k ty hit hlt hasc
        have hit2 := Lib.iterAt_heap X (w.heap.size + 1) s k (k + 1) hit
        have HB2 := hideF (HBf.out.iterAt hit (by omega) (k + 1))
        have hrow2 := (Lib.iterAt_other X (w.heap.size + 1) w.heap.size s (k + 1) (by omega)).trans hrow
        go_wp2
        go_roundw
        case rel =>
          refine ⟨_, k + 1, d, A, rfl, by omega, hd, rfl, hit2, hrow2, HB2.out, ?_, fun j hj h1 h2 => HLW.out j hj (by omega) h2⟩
          rw [show max (k + 1) d = max k d by omega]
          exact HF.out
        case measure => rw [iterPos_of hit2, iterPos_of hit]; omega
      · have e1 : max k d = k := by omega
        rw [e1] at HF
        cases he : escAt m (s.data.toList.drop k) with
        | some x =>
          obtain ⟨h3, a0, a1, a2⟩ := escAt_drop HM.out he
          have HE := hideF (HF.out.esc hlt he)
          have HX := hideF (show escAt m (s.extract k s.size).data.toList = some x by rw [extract_data]; exact he)
          have hw3 : IntKind.i64.wrap ((k : Int) + 3) = (k : Int) + 3 := wrap_small _ (by omega) (by omega)
          have HA := hideF (show A.length + [x].length ≤ 100000000 by have := HF.out.1; simp only [List.length_cons, List.length_nil]; omega)
          clear he
          have hnx : ∀ ty, (Instr.next (.pointer (some ⟨w.heap.size + 1, 0, none⟩)) true ty).run Tryz.prog X = _ := fun ty => Lib.run_next_ascii_at X (w.heap.size + 1) s k ty hit hlt a0
          have HL3 := hideF (show ∀ j (hj : j < s.size), k + 1 ≤ j → j < k + 3 → (s[j]'hj).toNat < 128 from fun j hj h1 h2 => by
            rcases (show j = k + 1 ∨ j = k + 2 by omega) with rfl | rfl
            · exact a1
            · exact a2)
          clear a1 a2
          have hit2 := Lib.iterAt_heap X (w.heap.size + 1) s k (k + 1) hit
          have HB2 := hideF (HBf.out.iterAt hit (by omega) (k + 1))
          have hrow2 := (Lib.iterAt_other X (w.heap.size + 1) w.heap.size s (k + 1) (by omega)).trans hrow
          have b0 : (0 : Int) ≤ (k : Int) := by omega
          have b1 : (k : Int) ≤ (s.size : Int) := by omega
          go_wp2_with fail
          generalize X.iterAt (w.heap.size + 1) s (k + 1) = Y at *
          have RS := hideF (readerS hrow2)
          go_region_held3 (fun x => x.cell? ⟨w.heap.size, 0, none⟩ = some (.string m) ∧ x.cell? ⟨w.heap.size, 1, none⟩ = some (.bool false) ∧ Below Y.heap.size Y x)
            ((go_split_ands; refine RS.out _ ?_; repeat (first | with_reducible assumption | with_reducible exact Below.refl _ _ | with_reducible refine Below.drew ?_)))
            ((go_at_call 104; go_split_ands; refine (escaped_yes m _ false x _ hm5 HX.out).mono ?_; rintro e w3 ⟨rfl, hb3⟩; have hB3 : Below Y.heap.size Y w3 := Below.trans (by assumption) (hb3.mono (Below.size (by assumption))); clear hb3))
          all_goals
            have hit3 := (hB3.block (w.heap.size + 1) (Array.getElem?_eq_some_iff.1 hit2).1).trans hit2
            have hrow3 := (hB3.block w.heap.size (Array.getElem?_eq_some_iff.1 hrow2).1).trans hrow2
            have HB3 := hideF (HB2.out.onBelow hB3)
            have HBs := hideF (Buf.start HB3.out.own HB3.out.size)
            clear hB3
            go_wp2_with (at_builtin; refine wpList_buf (w0 := w3) rfl (.tmp 30) (.tmp 32) 74 rfl w.heap.size 5 Tryz.underlying74 Tryz.infoByte u6 A rfl (by (repeat (first | with_reducible exact HBs.out | with_reducible refine Buf.drewN ?_ _ | with_reducible refine Buf.drew ?_ | with_reducible refine Buf.alloc ?_ _))) w3.heap.size 1 [x] rfl rfl (by first | exact ⟨_, heap_alloc_new _ _⟩ | exact ⟨_, alloc_drew_new _ _⟩) HA.out ?_)
            intro v4 w4 hb4
            have hit4 := iter_kept hb4 hit3
            have hrow4 := reader_kept hb4 hrow3
            have HB4 := hideF (HB3.out.trans hb4)
            clear hb4
            go_wp2
            go_roundw
            case rel =>
              refine ⟨_, k + 1, k + 3, A ++ [x], rfl, by omega, by omega, by go_num, hit4, hrow4, HB4.out, ?_, HL3.out⟩
              rw [show max (k + 1) (k + 3) = k + 3 by omega]
              exact HE.out
            case measure => rw [iterPos_of hit4, iterPos_of hit]; omega
        | none =>
          have HX := hideF (show escAt m (s.extract k s.size).data.toList = none by rw [extract_data]; exact he)
          by_cases a0 : (s[k]'hlt).toNat < 128
          · have HSELF := hideF (HF.out.self hlt he)
            have HNO := hideF (HF.out.no hlt he)
            have HA := hideF (show A.length + [s[k]'hlt].length ≤ 100000000 by have := HF.out.1; simp only [List.length_cons, List.length_nil]; omega)
            clear he
            have hnx : ∀ ty, (Instr.next (.pointer (some ⟨w.heap.size + 1, 0, none⟩)) true ty).run Tryz.prog X = _ := fun ty => Lib.run_next_ascii_at X (w.heap.size + 1) s k ty hit hlt a0
            have hit2 := Lib.iterAt_heap X (w.heap.size + 1) s k (k + 1) hit
            have HB2 := hideF (HBf.out.iterAt hit (by omega) (k + 1))
            have hrow2 := (Lib.iterAt_other X (w.heap.size + 1) w.heap.size s (k + 1) (by omega)).trans hrow
            have b0 : (0 : Int) ≤ (k : Int) := by omega
            have b1 : (k : Int) ≤ (s.size : Int) := by omega
            go_wp2_with fail
            generalize X.iterAt (w.heap.size + 1) s (k + 1) = Y at *
            have RS := hideF (readerS hrow2)
            go_region_held3 (fun x => x.cell? ⟨w.heap.size, 0, none⟩ = some (.string m) ∧ x.cell? ⟨w.heap.size, 1, none⟩ = some (.bool false) ∧ Below Y.heap.size Y x)
              ((go_split_ands; refine RS.out _ ?_; repeat (first | with_reducible assumption | with_reducible exact Below.refl _ _ | with_reducible refine Below.drew ?_)))
              ((go_at_call 104; go_split_ands; refine (escaped_no m _ false _ hm5 HX.out).mono ?_; rintro e w3 ⟨rfl, hb3⟩; have hB3 : Below Y.heap.size Y w3 := Below.trans (by assumption) (hb3.mono (Below.size (by assumption))); clear hb3))
            all_goals
              have hit3 := (hB3.block (w.heap.size + 1) (Array.getElem?_eq_some_iff.1 hit2).1).trans hit2
              have hrow3 := (hB3.block w.heap.size (Array.getElem?_eq_some_iff.1 hrow2).1).trans hrow2
              have HB3 := hideF (HB2.out.onBelow hB3)
              obtain ⟨r0, r1, _⟩ := readerS hrow3 w3 (Below.refl _ _)
              clear hB3
              go_wp2_with fail
              refine (stands_low m (s[k]'hlt) _ a0).mono ?_
              rintro e w5 ⟨rfl, hb5⟩
              have hit5 := (hb5.block (w.heap.size + 1) (Array.getElem?_eq_some_iff.1 hit3).1).trans hit3
              have hrow5 := (hb5.block w.heap.size (Array.getElem?_eq_some_iff.1 hrow3).1).trans hrow3
              have HB5 := hideF (HB3.out.onBelow hb5)
              have HBs := hideF (Buf.start HB5.out.own HB5.out.size)
              clear hb5 r0 r1
              cases ho : okSelf m (s[k]'hlt)
              · have HN := hideF (HNO.out ho)
                go_wp2
                exact bodyPost_ret (v := .tuple #[.string ⟨#[]⟩, .bool false]) (by simp [results, Tryz.results101, go_sem]) rfl ⟨by rw [HR.out, HN.out]; rfl, HB5.out.below⟩
              · have HE := hideF (HSELF.out ho)
                go_wp2_with (at_builtin; refine wpList_buf (w0 := w5) rfl (.tmp 40) (.tmp 43) 74 rfl w.heap.size 5 Tryz.underlying74 Tryz.infoByte u6 A rfl (by (repeat (first | with_reducible exact HBs.out | with_reducible refine Buf.drewN ?_ _ | with_reducible refine Buf.drew ?_ | with_reducible refine Buf.alloc ?_ _))) w5.heap.size 1 [s[k]'hlt] rfl rfl (by first | exact ⟨_, heap_alloc_new _ _⟩ | exact ⟨_, alloc_drew_new _ _⟩) HA.out ?_)
                intro v4 w4 hb4
                have hit4 := iter_kept hb4 hit5
                have hrow4 := reader_kept hb4 hrow5
                have HB4 := hideF (HB5.out.trans hb4)
                clear hb4
                go_wp2
                go_roundw
                case rel =>
                  refine ⟨_, k + 1, d, A ++ [s[k]'hlt], rfl, by omega, by omega, rfl, hit4, hrow4, HB4.out, ?_, fun j hj h1 h2 => by omega⟩
                  rw [show max (k + 1) d = k + 1 by omega]
                  exact HE.out
                case measure => rw [iterPos_of hit4, iterPos_of hit]; omega
          · have hh := decode_high s k hlt (by omega)
            have HN := hideF (HF.out.no hlt he (by simp [okSelf, plainR_high ((s[k]'hlt).toNat : Int) (by omega)]))
            clear he
            have hnx : ∀ ty, (Instr.next (.pointer (some ⟨w.heap.size + 1, 0, none⟩)) true ty).run Tryz.prog X = _ := fun ty => Lib.run_next_any_at X (w.heap.size + 1) s k ty hit hlt
            obtain ⟨dw, hdw⟩ : ∃ dw, (Utf8.decode s k).2 = dw := ⟨_, rfl⟩
            rw [hdw] at hnx hh
            have hit2 := Lib.iterAt_heap X (w.heap.size + 1) s k (k + dw) hit
            have HB2 := hideF (HBf.out.iterAt hit (by omega) (k + dw))
            have hrow2 := (Lib.iterAt_other X (w.heap.size + 1) w.heap.size s (k + dw) (by omega)).trans hrow
            have b0 : (0 : Int) ≤ (k : Int) := by omega
            have b1 : (k : Int) ≤ (s.size : Int) := by omega
            go_wp2_with fail
            generalize X.iterAt (w.heap.size + 1) s (k + dw) = Y at *
            have RS := hideF (readerS hrow2)
            go_region_held3 (fun x => x.cell? ⟨w.heap.size, 0, none⟩ = some (.string m) ∧ x.cell? ⟨w.heap.size, 1, none⟩ = some (.bool false) ∧ Below Y.heap.size Y x)
              ((go_split_ands; refine RS.out _ ?_; repeat (first | with_reducible assumption | with_reducible exact Below.refl _ _ | with_reducible refine Below.drew ?_)))
              ((go_at_call 104; go_split_ands; refine (escaped_no m _ false _ hm5 HX.out).mono ?_; rintro e w3 ⟨rfl, hb3⟩; have hB3 : Below Y.heap.size Y w3 := Below.trans (by assumption) (hb3.mono (Below.size (by assumption))); clear hb3))
            all_goals
              have hit3 := (hB3.block (w.heap.size + 1) (Array.getElem?_eq_some_iff.1 hit2).1).trans hit2
              have hrow3 := (hB3.block w.heap.size (Array.getElem?_eq_some_iff.1 hrow2).1).trans hrow2
              have HB3 := hideF (HB2.out.onBelow hB3)
              obtain ⟨r0, r1, _⟩ := readerS hrow3 w3 (Below.refl _ _)
              clear hB3
              go_wp2_with fail
              refine (stands_high m false _ _ hm5 HLOW.out (by omega)).mono ?_
              rintro e w5 ⟨rfl, hb5⟩
              have HB5 := hideF (HB3.out.onBelow hb5)
              clear hb5 r0 r1
              go_wp2
              exact bodyPost_ret (v := .tuple #[.string ⟨#[]⟩, .bool false]) (by simp [results, Tryz.results101, go_sem]) rfl ⟨by rw [HR.out, HN.out]; rfl, HB5.out.below⟩
    · have hnx : ∀ ty, (Instr.next (.pointer (some ⟨w.heap.size + 1, 0, none⟩)) true ty).run Tryz.prog X = _ := fun ty => Lib.run_next_end_at X (w.heap.size + 1) s k ty hit hlt
      have e1 : max k d = s.size := by omega
      rw [e1] at HF
      have HD := hideF HF.out.done
      have hcv := HBf.out.text (P := Tryz.prog) Tryz.underlying74 Tryz.underlying5 Tryz.underlying9
      go_wp2
      exact bodyPost_ret (v := .tuple #[.string ⟨A.toArray⟩, .bool true]) (by simp [results, Tryz.results101, go_sem]) rfl ⟨by rw [HR.out, HD.out]; rfl, HBf.out.below⟩
end Go.Proofs.YtckcfjibiidafaaGreat
