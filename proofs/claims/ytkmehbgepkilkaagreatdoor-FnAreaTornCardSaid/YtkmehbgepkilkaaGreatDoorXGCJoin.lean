/- Two texts laid into new memory by copy are one text: joinTexts of the program answers the first text with the second behind it. -/
import Derived.Test.YtkmehbgepkilkaaGreatDoorRows
import Derived.WalkKit
import Derived.OpenShut
import Derived.Laws.CopyOwn
import Derived.Lib.BufferWrite
import Derived.Laws.IdiomStrings
import Derived.Test.YtkmehbgepkilkaaGreatDoorXGGScan
namespace Go.Proofs.YtkmehbgepkilkaaGreatDoor.St1
open Go.RowKit

/-- 'copy(dst, s)', s a text that fits, dst a cut of a row that the call itself made: the row is spliced. -/
theorem wpList_copy_text {P : Program} {w : World} {ops : Array Oper} {rest : List Oper} {o : Oper} {a : Act} {Q : Exit → Act → World → Prop} (hgd : o.guard = none) (d s : Operand) (dT sT : TypeId)
    (ho : o.op = .call { callee := .builtin .copy, args := #[d, s], argTypes := #[dT, sT] }) (elem : TypeId) (hu : P.underlying dT = some (.slice elem)) (hsz : (P.info? elem).map (·.size) = some 1)
    (dp : Option Addr) (dLen dCap : Nat) (x : ByteArray) (hd : a.eval d = .slice dp dLen dCap) (hs : a.eval s = .string x)
    (g off : Nat) (cur : List Value) (t : TypeId) (hg : w.heap[g]? = some (.cells cur.toArray t (0, 0))) (hle : x.size ≤ dLen)
    (hpos : 0 < x.size → dp = some ⟨g, off, none⟩) (hfit : off + x.size ≤ cur.length) (B : Nat) (w0 : World) (hb : Below B w0 w) (hBg : B ≤ g)
    (h : ∀ w', Hid (w'.heap[g]? = some (.cells (splice cur off (Lib.byteCells x.data.toList)).toArray t (0, 0))) → Below B w0 w' → wpList P ops Q rest (a.put o.dst (goInt x.size)) w') :
    wpList P ops Q (o :: rest) a w := by
  have hlen : (Lib.byteCells x.data.toList).length = x.size := by rw [Lib.byteCells_length, ← Lib.size_eq]
  by_cases h0 : x.size = 0
  · have hrun := Lib.run_copy_empty_string (P := P) w dT sT o.type elem dp dLen dCap x hu (by rw [hsz]; rfl) h0
    have hnil : Lib.byteCells x.data.toList = [] := List.eq_nil_of_length_eq_zero (by omega)
    refine wpList_plain hgd fun K hK => ?_
    unfold Oper.wp
    simp [execOp, ho, resolve, invoke, builtin, hd, hs, hrun, Result.andThen]
    have hh := h w (show _ = _ by rw [hnil]; simpa [splice] using hg) hb
    rw [h0] at hh
    exact hK _ _ hh
  · have hdp := hpos (by omega)
    subst hdp
    have hrun := Lib.run_copy_row_string (P := P) w dT sT o.type elem g off dLen dCap x cur.toArray t hu hsz hg hle (by simpa using hfit)
    refine wpList_plain hgd fun K hK => ?_
    unfold Oper.wp
    simp [execOp, ho, resolve, invoke, builtin, hd, hs, hrun, Result.andThen]
    refine hK _ _ (h _ (show _ = _ from ?_) (below_setRow hb hBg _))
    have := setRow_heap w g cur.toArray (cur.take off ++ (Lib.byteCells x.data.toList ++ cur.drop (off + x.size))).toArray t (0, 0) hg
    simpa [splice, hlen] using this

theorem splice2 {α : Type} (Z A B : List α) (h : Z.length = A.length + B.length) : splice (splice Z 0 A) A.length B = A ++ B := by
  have h1 : splice Z 0 A = A ++ Z.drop A.length := by simp [splice]
  have h2 : (A ++ Z.drop A.length).drop (A.length + B.length) = [] := List.drop_eq_nil_of_le (by simp; omega)
  rw [h1]
  unfold splice
  rw [h2]
  simp

theorem bytes_append (a b : ByteArray) : (⟨(a.data.toList ++ b.data.toList).toArray⟩ : ByteArray) = a ++ b := by
  apply ByteArray.ext
  simp

theorem Tryz.info5 : (Tryz.prog.info? 5).map (fun i => (i.zero, i.size, i.bytes)) = some (some (.int .u8 0), 1, 1) := by kernel_rfl
theorem Tryz.size5 : (Tryz.prog.info? 5).map (·.size) = some 1 := by kernel_rfl

theorem own_row {w1 : World} {base g n cap : Nat} {e : TypeId} {xs : List Value} (h : w1.ownsRow base e 1 (.slice (some ⟨g, 0, none⟩) n cap) n xs) :
    ∃ cur : List Value, w1.heap[g]? = some (.cells cur.toArray e (0, 0)) ∧ cur.length = cap := by
  obtain ⟨_, ⟨h1, _⟩ | ⟨g', cap', cur, hv, _, hh, _, _, hs, _⟩⟩ := h
  · simp at h1
  · simp at hv
    obtain ⟨rfl, rfl⟩ := hv
    exact ⟨cur.toList, by simpa using hh, by simpa using hs⟩

theorem cells_len (a : ByteArray) : (Lib.byteCells a.data.toList).length = a.size := by rw [Lib.byteCells_length, ← Lib.size_eq]
theorem splice_len {α : Type} (Z : List α) (off : Nat) (A : List α) (h : off + A.length ≤ Z.length) : (splice Z off A).length = Z.length := by
  simp [splice]; omega

theorem joined_run {w3 : World} {g : Nat} (a b : ByteArray) (Z : List Value) (hZ : Z.length = a.size + b.size)
    (h : w3.heap[g]? = some (.cells (splice (splice Z 0 (Lib.byteCells a.data.toList)) a.size (Lib.byteCells b.data.toList)).toArray 5 (0, 0))) :
    (convert 22 9 (.slice (some ⟨g, 0, none⟩) (a.size + b.size) (a.size + b.size))).run Tryz.prog w3 = .ok (.string (a ++ b)) w3 := by
  have e : splice (splice Z 0 (Lib.byteCells a.data.toList)) a.size (Lib.byteCells b.data.toList) = Lib.byteCells (a.data.toList ++ b.data.toList) := by
    have := splice2 Z (Lib.byteCells a.data.toList) (Lib.byteCells b.data.toList) (by rw [cells_len, cells_len]; exact hZ)
    rw [cells_len] at this
    rw [this]
    simp [Lib.byteCells]
  rw [e] at h
  have hl : (a.data.toList ++ b.data.toList).length = a.size + b.size := by rw [List.length_append, ← Lib.size_eq, ← Lib.size_eq]
  have := run_convert_bytes_back (P := Tryz.prog) w3 22 9 5 ⟨g, 0, none⟩ (a.size + b.size) (a.data.toList ++ b.data.toList) Tryz.underlying22 Tryz.underlying5 Tryz.underlying9 (fun j hj => by
    have ea : (⟨g, 0, none⟩ : Addr).add j = ⟨g, j, none⟩ := by unfold Addr.add; split <;> simp_all
    rw [ea, cell_of_row w3 g j _ 5 (0, 0) h]
    simp only [List.getElem?_toArray, Lib.byteCells, List.getElem?_map, List.getElem?_eq_getElem hj, Option.map_some])
  rw [hl, bytes_append] at this
  exact this

set_option maxHeartbeats 1000000 in
theorem joinTexts_any (a b : ByteArray) (w : World) (ha : a.size ≤ 1000000) (hb : b.size ≤ 1000000) :
    Calls Tryz.prog 84 #[.string a, .string b] w fun e w' => e = .returned (.string (a ++ b)) ∧ Below w.heap.size w w' := by
  obtain ⟨i0, hi, hz0, hz1, hz2⟩ := info_parts Tryz.info5
  go_enter Tryz.func84, Tryz.ntmps84
  go_wp2_with (at_make; refine wpList_make_full _ rfl _ _ 22 rfl w.heap.size 5 i0 (.int .u8 0) 1 Tryz.underlying22 hi hz0 hz1 _ _ _ _ (a.size + b.size) rfl rfl (by omega) (by omega) ?b2 ?b3 (by omega) ?_)
  case b2 => rw [hz2]; omega
  case b3 => unfold maxLen; omega
  intro w1 hown hgrow
  obtain ⟨Z, hZ, hZl⟩ := own_row hown
  have hb1 : Below w.heap.size w w1 := (Below.refl _ _).grown hgrow (Nat.le_refl _) (by simp)
  have HZ : Hid (w1.heap[w.heap.size]? = some (.cells Z.toArray 5 (0, 0))) := hZ
  clear hZ hown hgrow
  go_wp2_with (refine wpList_copy_text rfl (.tmp 12) (.tmp 13) 22 9 rfl 5 Tryz.underlying22 Tryz.size5 _ _ _ a rfl rfl w.heap.size 0 Z 5 HZ.out (by omega) (fun _ => rfl) (by omega) w.heap.size w hb1 (Nat.le_refl _) ?_)
  intro w2 HZ2 hb2
  clear hb1 HZ
  by_cases hb0 : b.size = 0
  · go_wp2_with (refine wpList_copy_text rfl (.tmp 18) (.tmp 19) 22 9 rfl 5 Tryz.underlying22 Tryz.size5 _ _ _ b rfl rfl w.heap.size a.size _ 5 HZ2.out (by omega) (fun h => absurd h (by omega)) (by rw [splice_len _ _ _ (by rw [cells_len]; omega)]; omega) w.heap.size w hb2 (Nat.le_refl _) ?_)
    intro w3 HZ3 hb3
    have hcv := joined_run a b Z hZl HZ3.out
    simp only [hb0, Nat.add_zero] at hcv
    go_wp2
    go_ret
    exact ⟨rfl, hb3⟩
  · go_wp2_with (refine wpList_copy_text rfl (.tmp 18) (.tmp 19) 22 9 rfl 5 Tryz.underlying22 Tryz.size5 _ _ _ b rfl rfl w.heap.size a.size _ 5 HZ2.out (by omega) (fun _ => rfl) (by rw [splice_len _ _ _ (by rw [cells_len]; omega)]; omega) w.heap.size w hb2 (Nat.le_refl _) ?_)
    intro w3 HZ3 hb3
    have hcv := joined_run a b Z hZl HZ3.out
    clear hb0
    go_wp2
    go_ret
    exact ⟨rfl, hb3⟩
end Go.Proofs.YtkmehbgepkilkaaGreatDoor.St1

/- The four bytes of a CRC, and Seal of the program and of the model: both answer the text with the four bytes of its CRC behind it, or the empty text. -/
namespace Go.Proofs.YtkmehbgepkilkaaGreatDoor.St1
open Go.RowKit

def four (n : Int) : ByteArray := ⟨#[UInt8.ofNat (n % 256).toNat, UInt8.ofNat (n / 256 % 256).toNat, UInt8.ofNat (n / 65536 % 256).toNat, UInt8.ofNat (n / 16777216).toNat]⟩
theorem four_size (n : Int) : (four n).size = 4 := rfl

theorem four_run (w : World) (a b c d : Int) (ha : 0 ≤ a ∧ a < 256) (hb : 0 ≤ b ∧ b < 256) (hc : 0 ≤ c ∧ c < 256) (hd : 0 ≤ d ∧ d < 256) :
    (convert 22 9 (.slice (some ⟨w.heap.size, 0, none⟩) 4 4)).run Tryz.prog (w.alloc (.cells #[.int .u8 a, .int .u8 b, .int .u8 c, .int .u8 d] 5)) =
      .ok (.string ⟨#[UInt8.ofNat a.toNat, UInt8.ofNat b.toNat, UInt8.ofNat c.toNat, UInt8.ofNat d.toNat]⟩) (w.alloc (.cells #[.int .u8 a, .int .u8 b, .int .u8 c, .int .u8 d] 5)) := by
  refine run_convert_bytes_back (P := Tryz.prog) _ 22 9 5 ⟨w.heap.size, 0, none⟩ 4 [UInt8.ofNat a.toNat, UInt8.ofNat b.toNat, UInt8.ofNat c.toNat, UInt8.ofNat d.toNat] Tryz.underlying22 Tryz.underlying5 Tryz.underlying9 (fun j hj => ?_)
  have ea : (⟨w.heap.size, 0, none⟩ : Addr).add j = ⟨w.heap.size, j, none⟩ := by unfold Addr.add; split <;> simp_all
  rw [ea, cell_of_row _ w.heap.size j _ 5 (0, 0) (heap_alloc_new w _)]
  match j, hj with
  | 0, _ => simp; omega
  | 1, _ => simp; omega
  | 2, _ => simp; omega
  | 3, _ => simp; omega

set_option maxHeartbeats 400000 in
theorem specFour_any (n : Int) (w : World) (h0 : 0 ≤ n) (h1 : n ≤ 4294967295) :
    Calls Tryz.prog 88 #[.int .i64 n] w fun e w' => e = .returned (.string (four n)) ∧ Below w.heap.size w w' := by
  have hr := four_run w (n % 256) (n / 256 % 256) (n / 65536 % 256) (n / 16777216) (by omega) (by omega) (by omega) (by omega)
  go_enter Tryz.func88, Tryz.ntmps88
  go_wp2
  go_ret
  exact ⟨rfl, (Below.refl _ _).alloc (Nat.le_refl _) _⟩

set_option maxHeartbeats 400000 in
theorem implFour_any (n : Int) (w : World) (h0 : 0 ≤ n) (h1 : n ≤ 4294967295) :
    Calls Tryz.prog 85 #[.int .i64 n] w fun e w' => e = .returned (.string (four n)) ∧ Below w.heap.size w w' := by
  have hr := four_run w (n % 256) (n / 256 % 256) (n / 65536 % 256) (n / 16777216) (by omega) (by omega) (by omega) (by omega)
  go_enter Tryz.func85, Tryz.ntmps85
  go_wp2
  go_ret
  exact ⟨rfl, (Below.refl _ _).alloc (Nat.le_refl _) _⟩

def sealOf (s : ByteArray) : ByteArray := s ++ four (crcOf 0 s)

set_option maxHeartbeats 400000 in
theorem specSeal_any (s : ByteArray) (w : World) (hs : s.size ≤ 7996) :
    Calls Tryz.prog 75 #[.string s] w fun e w' => e = .returned (.string (sealOf s)) ∧ Below w.heap.size w w' := by
  have hb := crcOf_bd 0 s
  go_enter Tryz.func75, Tryz.ntmps75
  go_wp2_with fail
  refine (specCrc_any _ s _ (by unfold maxLen; omega) (by omega) (by omega)).mono ?_
  rintro e w' ⟨rfl, rfl⟩
  go_wp2_with fail
  refine (specFour_any _ _ hb.1 hb.2).mono ?_
  rintro e w1 ⟨rfl, hb1⟩
  have hf : (four (crcOf 0 s)).size ≤ 4 := Nat.le_of_eq (four_size _)
  go_wp2
  go_ret
  exact ⟨rfl, hb1⟩

set_option maxHeartbeats 400000 in
theorem implSeal_any (s : ByteArray) (w : World) (hs : s.size ≤ 7996) :
    Calls Tryz.prog 69 #[.string s] w fun e w' => e = .returned (.string (sealOf s)) ∧ Below w.heap.size w w' := by
  have hb := crcOf_bd 0 s
  go_enter Tryz.func69, Tryz.ntmps69
  go_wp2_with fail
  refine (implCrcOf_any s _ (by omega)).mono ?_
  rintro e w' ⟨rfl, rfl⟩
  go_wp2_with fail
  refine (implFour_any _ _ hb.1 hb.2).mono ?_
  rintro e w1 ⟨rfl, hb1⟩
  have hf : (four (crcOf 0 s)).size ≤ 4 := Nat.le_of_eq (four_size _)
  go_wp2_with fail
  refine (joinTexts_any s _ _ (by omega) (by omega)).mono ?_
  rintro e w2 ⟨rfl, hb2⟩
  go_wp2
  go_ret
  exact ⟨rfl, hb1.trans (hb2.mono hb1.size)⟩

end Go.Proofs.YtkmehbgepkilkaaGreatDoor.St1
