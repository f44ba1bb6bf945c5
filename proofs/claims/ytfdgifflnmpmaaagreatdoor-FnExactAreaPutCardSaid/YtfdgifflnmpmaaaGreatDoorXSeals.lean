/- Two texts laid into new memory by copy are one text: joinTexts of the program answers the first text with the second behind it. -/
import Derived.Test.YtfdgifflnmpmaaaGreatDoorRows
import Derived.WalkKit
import Derived.OpenShut
import Derived.Laws.CopyOwn
import Derived.Lib.BufferWrite
import Derived.Laws.IdiomStrings
namespace Go.Proofs.YtfdgifflnmpmaaaGreatDoor.St1
open Go.RowKit

/-- 'copy(dst, s)', s a text that fits, dst a cut of a row that the call itself made: the row is spliced. -/
theorem wpList_copy_text {P : Program} {w : World} {ops : Array Oper} {rest : List Oper} {o : Oper} {a : Act} {Q : Exit → Act → World → Prop} (hgd : o.guard = none) (d s : Operand) (dT sT : TypeId)
    (ho : o.op = .call { callee := .builtin .copy, args := #[d, s], argTypes := #[dT, sT] }) (elem : TypeId) (hu : P.underlying dT = some (.slice elem)) (hsz : (P.info? elem).map (·.size) = some 1)
    (dp : Option Addr) (dLen dCap : Nat) (x : ByteArray) (hd : a.eval d = .slice dp dLen dCap) (hs : a.eval s = .string x)
    (g off : Nat) (cur : List Value) (t : TypeId) (hg : w.heap[g]? = some (.cells cur.toArray t (0, 0))) (hle : x.size ≤ dLen)
    (hpos : 0 < x.size → dp = some ⟨g, off, none⟩) (hfit : off + x.size ≤ cur.length) (B : Nat) (w0 : World) (hb : Below B w0 w) (hBg : B ≤ g)
    (h : ∀ w', Hid (w'.heap[g]? = some (.cells (splice cur off (Lib.byteCells x.data.toList)).toArray t (0, 0))) → Below B w0 w' → wpList P ops Q rest (a.put o.dst (goInt x.size)) w') :
    wpList P ops Q (o :: rest) a w := by
  have hlen : (Lib.byteCells x.data.toList).length = x.size := by rw [Lib.byteCells_length, ← Lib.size_eq]
  by_cases h0 : x.size = 0
  · have hrun := Lib.run_copy_empty_string (P := P) w dT sT o.type elem dp dLen dCap x hu (by rw [hsz]; rfl) h0
    have hnil : Lib.byteCells x.data.toList = [] := List.eq_nil_of_length_eq_zero (by omega)
    refine wpList_plain hgd fun K hK => ?_
    unfold Oper.wp
    simp [execOp, ho, resolve, invoke, builtin, hd, hs, hrun, Result.andThen]
    have hh := h w (show _ = _ by rw [hnil]; simpa [splice] using hg) hb
    rw [h0] at hh
    exact hK _ _ hh
  · have hdp := hpos (by omega)
    subst hdp
    have hrun := Lib.run_copy_row_string (P := P) w dT sT o.type elem g off dLen dCap x cur.toArray t hu hsz hg hle (by simpa using hfit)
    refine wpList_plain hgd fun K hK => ?_
    unfold Oper.wp
    simp [execOp, ho, resolve, invoke, builtin, hd, hs, hrun, Result.andThen]
    refine hK _ _ (h _ (show _ = _ from ?_) (below_setRow hb hBg _))
    have := setRow_heap w g cur.toArray (cur.take off ++ (Lib.byteCells x.data.toList ++ cur.drop (off + x.size))).toArray t (0, 0) hg
    simpa [splice, hlen] using this

theorem splice2 {α : Type} (Z A B : List α) (h : Z.length = A.length + B.length) : splice (splice Z 0 A) A.length B = A ++ B := by
  have h1 : splice Z 0 A = A ++ Z.drop A.length := by simp [splice]
  have h2 : (A ++ Z.drop A.length).drop (A.length + B.length) = [] := List.drop_eq_nil_of_le (by simp; omega)
  rw [h1]
  unfold splice
  rw [h2]
  simp

theorem bytes_append (a b : ByteArray) : (⟨(a.data.toList ++ b.data.toList).toArray⟩ : ByteArray) = a ++ b := by
  apply ByteArray.ext
  simp

theorem Tryz.info5 : (Tryz.prog.info? 5).map (fun i => (i.zero, i.size, i.bytes)) = some (some (.int .u8 0), 1, 1) := by kernel_rfl
theorem Tryz.size5 : (Tryz.prog.info? 5).map (·.size) = some 1 := by kernel_rfl

theorem own_row {w1 : World} {base g n cap : Nat} {e : TypeId} {xs : List Value} (h : w1.ownsRow base e 1 (.slice (some ⟨g, 0, none⟩) n cap) n xs) :
    ∃ cur : List Value, w1.heap[g]? = some (.cells cur.toArray e (0, 0)) ∧ cur.length = cap := by
  obtain ⟨_, ⟨h1, _⟩ | ⟨g', cap', cur, hv, _, hh, _, _, hs, _⟩⟩ := h
  · simp at h1
  · simp at hv
    obtain ⟨rfl, rfl⟩ := hv
    exact ⟨cur.toList, by simpa using hh, by simpa using hs⟩

theorem cells_len (a : ByteArray) : (Lib.byteCells a.data.toList).length = a.size := by rw [Lib.byteCells_length, ← Lib.size_eq]
theorem splice_len {α : Type} (Z : List α) (off : Nat) (A : List α) (h : off + A.length ≤ Z.length) : (splice Z off A).length = Z.length := by
  simp [splice]; omega

theorem joined_run {w3 : World} {g : Nat} (a b : ByteArray) (Z : List Value) (hZ : Z.length = a.size + b.size)
    (h : w3.heap[g]? = some (.cells (splice (splice Z 0 (Lib.byteCells a.data.toList)) a.size (Lib.byteCells b.data.toList)).toArray 5 (0, 0))) :
    (convert 47 9 (.slice (some ⟨g, 0, none⟩) (a.size + b.size) (a.size + b.size))).run Tryz.prog w3 = .ok (.string (a ++ b)) w3 := by
  have e : splice (splice Z 0 (Lib.byteCells a.data.toList)) a.size (Lib.byteCells b.data.toList) = Lib.byteCells (a.data.toList ++ b.data.toList) := by
    have := splice2 Z (Lib.byteCells a.data.toList) (Lib.byteCells b.data.toList) (by rw [cells_len, cells_len]; exact hZ)
    rw [cells_len] at this
    rw [this]
    simp [Lib.byteCells]
  rw [e] at h
  have hl : (a.data.toList ++ b.data.toList).length = a.size + b.size := by rw [List.length_append, ← Lib.size_eq, ← Lib.size_eq]
  have := run_convert_bytes_back (P := Tryz.prog) w3 47 9 5 ⟨g, 0, none⟩ (a.size + b.size) (a.data.toList ++ b.data.toList) Tryz.underlying47 Tryz.underlying5 Tryz.underlying9 (fun j hj => by
    have ea : (⟨g, 0, none⟩ : Addr).add j = ⟨g, j, none⟩ := by unfold Addr.add; split <;> simp_all
    rw [ea, cell_of_row w3 g j _ 5 (0, 0) h]
    simp only [List.getElem?_toArray, Lib.byteCells, List.getElem?_map, List.getElem?_eq_getElem hj, Option.map_some])
  rw [hl, bytes_append] at this
  exact this

set_option maxHeartbeats 1000000 in
theorem joinTexts_any (a b : ByteArray) (w : World) (ha : a.size ≤ 1000000) (hb : b.size ≤ 1000000) :
    Calls Tryz.prog 86 #[.string a, .string b] w fun e w' => e = .returned (.string (a ++ b)) ∧ Below w.heap.size w w' := by
  obtain ⟨i0, hi, hz0, hz1, hz2⟩ := info_parts Tryz.info5
  go_enter Tryz.func86, Tryz.ntmps86
  go_wp2_with (at_make; refine wpList_make_full _ rfl _ _ 47 rfl w.heap.size 5 i0 (.int .u8 0) 1 Tryz.underlying47 hi hz0 hz1 _ _ _ _ (a.size + b.size) rfl rfl (by omega) (by omega) ?b2 ?b3 (by omega) ?_)
  case b2 => rw [hz2]; omega
  case b3 => unfold maxLen; omega
  intro w1 hown hgrow
  obtain ⟨Z, hZ, hZl⟩ := own_row hown
  have hb1 : Below w.heap.size w w1 := (Below.refl _ _).grown hgrow (Nat.le_refl _) (by simp)
  have HZ : Hid (w1.heap[w.heap.size]? = some (.cells Z.toArray 5 (0, 0))) := hZ
  clear hZ hown hgrow
  go_wp2_with (refine wpList_copy_text rfl (.tmp 12) (.tmp 13) 47 9 rfl 5 Tryz.underlying47 Tryz.size5 _ _ _ a rfl rfl w.heap.size 0 Z 5 HZ.out (by omega) (fun _ => rfl) (by omega) w.heap.size w hb1 (Nat.le_refl _) ?_)
  intro w2 HZ2 hb2
  clear hb1 HZ
  by_cases hb0 : b.size = 0
  · go_wp2_with (refine wpList_copy_text rfl (.tmp 18) (.tmp 19) 47 9 rfl 5 Tryz.underlying47 Tryz.size5 _ _ _ b rfl rfl w.heap.size a.size _ 5 HZ2.out (by omega) (fun h => absurd h (by omega)) (by rw [splice_len _ _ _ (by rw [cells_len]; omega)]; omega) w.heap.size w hb2 (Nat.le_refl _) ?_)
    intro w3 HZ3 hb3
    have hcv := joined_run a b Z hZl HZ3.out
    simp only [hb0, Nat.add_zero] at hcv
    go_wp2
    go_ret
    exact ⟨rfl, hb3⟩
  · go_wp2_with (refine wpList_copy_text rfl (.tmp 18) (.tmp 19) 47 9 rfl 5 Tryz.underlying47 Tryz.size5 _ _ _ b rfl rfl w.heap.size a.size _ 5 HZ2.out (by omega) (fun _ => rfl) (by rw [splice_len _ _ _ (by rw [cells_len]; omega)]; omega) w.heap.size w hb2 (Nat.le_refl _) ?_)
    intro w3 HZ3 hb3
    have hcv := joined_run a b Z hZl HZ3.out
    clear hb0
    go_wp2
    go_ret
    exact ⟨rfl, hb3⟩
end Go.Proofs.YtfdgifflnmpmaaaGreatDoor.St1
/- The register of the CRC: the program's crcRegister and the model's l01Crc go through the same numbers, bit by bit. -/
namespace Go.Proofs.YtfdgifflnmpmaaaGreatDoor.St1
open Go.RowKit
theorem hide {p : Prop} (h : p) : Hid p := h
theorem ret_int {k : IntKind} {a b : Int} (h : a = b) : Ending.returned (.int k a) = .returned (.int k b) := by rw [h]

/-- One bit goes out of the register. -/
def crcBit (R : Int) : Int := if bits .and .u32 R 1 == 1 then bits .xor .u32 (R / 2) 3988292384 else R / 2
def crcBits : Nat → Int → Int
  | 0, R => R
  | n + 1, R => crcBit (crcBits n R)
/-- One byte goes in. -/
def crcByte (R b : Int) : Int := crcBits 8 (bits .xor .u32 R (b % 4294967296))
/-- The first k bytes of s go in. -/
def crcTo (s : ByteArray) : Nat → Int → Int
  | 0, R => R
  | k + 1, R => if h : k < s.size then crcByte (crcTo s k R) ((s[k]'h).toNat : Int) else crcTo s k R
/-- The CRC of what stands behind a text of the CRC c. -/
def crcOf (c : Int) (s : ByteArray) : Int := bits .xor .u32 (crcTo s s.size (bits .xor .u32 c 4294967295)) 4294967295

theorem bits_bd (op : BinOp) (x y : Int) : 0 ≤ bits op .u32 x y ∧ bits op .u32 x y ≤ 4294967295 := bounds_u32 (wf_bits op .u32 x y)
theorem crcBit_yes (R : Int) (h : (bits .and .u32 R 1 == 1) = true) : crcBit R = bits .xor .u32 (R / 2) 3988292384 := by
  unfold crcBit; rw [h]; rfl
theorem crcBit_no (R : Int) (h : (bits .and .u32 R 1 == 1) = false) : crcBit R = R / 2 := by
  unfold crcBit; rw [h]; rfl
theorem crcBit_bd (R : Int) (h0 : 0 ≤ R) (h1 : R ≤ 4294967295) : 0 ≤ crcBit R ∧ crcBit R ≤ 4294967295 := by
  cases h : (bits .and .u32 R 1 == 1)
  · rw [crcBit_no R h]; omega
  · rw [crcBit_yes R h]; exact bits_bd _ _ _
theorem crcTo_succ (s : ByteArray) (k : Nat) (R : Int) (h : k < s.size) : crcTo s (k + 1) R = crcBits 8 (bits .xor .u32 (crcTo s k R) (((s[k]'h).toNat : Int) % 4294967296)) := by
  rw [crcTo, dif_pos h]; rfl
theorem crcOf_bd (c : Int) (s : ByteArray) : 0 ≤ crcOf c s ∧ crcOf c s ≤ 4294967295 := bits_bd _ _ _
theorem xor_turn (c : Int) : bits .xor .u32 IntKind.u32.max c = bits .xor .u32 c 4294967295 := by
  have e : IntKind.u32.max = 4294967295 := by decide
  rw [e]
  unfold bits
  simp only [BitVec.xor_comm]
theorem wrap64_crc (c : Int) (s : ByteArray) : wrap64 (crcOf c s) = crcOf c s := by
  have := crcOf_bd c s
  exact IntWalk.wrap64_in _ ⟨by omega, by omega⟩

set_option maxHeartbeats 1000000 in
theorem specCrc_any (c : Int) (s : ByteArray) (w : World) (hs : s.size ≤ maxLen) (h0 : 0 ≤ c) (h1 : c ≤ 4294967295) :
    Calls Tryz.prog 72 #[.int .i64 c, .string s] w fun e w' => e = .returned (.int .i64 (crcOf c s)) ∧ w' = w := by
  unfold maxLen at hs
  have hb := bits_bd .xor c 4294967295
  obtain ⟨R0, HR0⟩ : ∃ R0, Hid (R0 = bits .xor .u32 c 4294967295) := ⟨_, rfl⟩
  have HF : Hid (crcOf c s = bits .xor .u32 (crcTo s s.size R0) 4294967295) := by rw [HR0.out]; exact rfl
  have HW := hide (wrap64_crc c s)
  go_enter Tryz.func72, Tryz.ntmps72
  go_wp2
  go_loop [5, 6] (fun r i => ∃ k : Nat, k ≤ s.size ∧ i = .int .i64 k ∧ ∃ R : Int, 0 ≤ R ∧ R ≤ 4294967295 ∧ Hid (R = crcTo s k R0) ∧ r = .int .u32 R) (fun _ i => s.size - (intOf i).toNat)
  case atStart => exact ⟨0, Nat.zero_le _, rfl, _, hb.1, hb.2, HR0.out.symm, rfl⟩
  case round =>
    obtain ⟨k, hk, rfl, R, hR0, hR1, HR, rfl⟩ := hrel
    by_cases hlt : k < s.size
    · have hb2 := bits_bd .xor R (((s[k]'hlt).toNat : Int) % 4294967296)
      have HS : Hid (crcTo s (k + 1) R0 = crcBits 8 (bits .xor .u32 R (((s[k]'hlt).toNat : Int) % 4294967296))) := by
        rw [HR.out]; exact crcTo_succ s k R0 hlt
      go_wp2
      go_loop [5, 7] (fun r i => ∃ j : Nat, j ≤ 8 ∧ i = .int .i64 j ∧ ∃ T : Int, 0 ≤ T ∧ T ≤ 4294967295 ∧ Hid (T = crcBits j (bits .xor .u32 R (((s[k]'hlt).toNat : Int) % 4294967296))) ∧ r = .int .u32 T) (fun _ i => 8 - (intOf i).toNat)
      case atStart => exact ⟨0, Nat.zero_le _, rfl, _, hb2.1, hb2.2, rfl, rfl⟩
      case round =>
        obtain ⟨j, hj, rfl, T, hT0, hT1, HT, rfl⟩ := hrel
        by_cases hj8 : j < 8
        · have hb3 := crcBit_bd T hT0 hT1
          have HB : Hid (crcBits (j + 1) (bits .xor .u32 R (((s[k]'hlt).toNat : Int) % 4294967296)) = crcBit T) := by rw [HT.out]; exact rfl
          cases ht : (bits .and .u32 T 1 == 1)
          · have HN := hide (crcBit_no T ht)
            rw [HN.out] at hb3 HB
            go_wp2
            go_round
            case rel => exact ⟨j + 1, by omega, by go_num, _, hb3.1, hb3.2, HB.out.symm, rfl⟩
            case measure => simp [intOf]; omega
          · have HN := hide (crcBit_yes T ht)
            rw [HN.out] at hb3 HB
            go_wp2
            go_round
            case rel => exact ⟨j + 1, by omega, by go_num, _, hb3.1, hb3.2, HB.out.symm, rfl⟩
            case measure => simp [intOf]; omega
        · have e8 : j = 8 := by omega
          subst e8
          go_wp2
          go_round
          case rel => exact ⟨k + 1, by omega, by go_num, _, hT0, hT1, HT.out.trans HS.out.symm, rfl⟩
          case measure => simp [intOf]; omega
    · have ek : k = s.size := by omega
      have HE : Hid (R = crcTo s s.size R0) := by rw [← ek]; exact HR
      clear ek HR
      go_wp2
      go_ret
      refine ⟨ret_int ?_, rfl⟩
      rw [HE.out, ← HF.out]
      exact HW.out

set_option maxHeartbeats 1000000 in
theorem implReg_any (R0 : Int) (s : ByteArray) (w : World) (hs : s.size ≤ maxLen) (h0 : 0 ≤ R0) (h1 : R0 ≤ 4294967295) :
    Calls Tryz.prog 99 #[.int .u32 R0, .string s] w fun e w' => e = .returned (.int .u32 (crcTo s s.size R0)) ∧ w' = w := by
  unfold maxLen at hs
  go_enter Tryz.func99, Tryz.ntmps99
  go_wp2
  go_loop [0, 5] (fun r i => ∃ k : Nat, k ≤ s.size ∧ i = .int .i64 k ∧ ∃ R : Int, 0 ≤ R ∧ R ≤ 4294967295 ∧ Hid (R = crcTo s k R0) ∧ r = .int .u32 R) (fun _ i => s.size - (intOf i).toNat)
  case atStart => exact ⟨0, Nat.zero_le _, rfl, _, h0, h1, rfl, rfl⟩
  case round =>
    obtain ⟨k, hk, rfl, R, hR0, hR1, HR, rfl⟩ := hrel
    by_cases hlt : k < s.size
    · have hb2 := bits_bd .xor R (((s[k]'hlt).toNat : Int) % 4294967296)
      have HS : Hid (crcTo s (k + 1) R0 = crcBits 8 (bits .xor .u32 R (((s[k]'hlt).toNat : Int) % 4294967296))) := by
        rw [HR.out]; exact crcTo_succ s k R0 hlt
      go_wp2
      go_loop [0, 19] (fun r i => ∃ j : Nat, j ≤ 8 ∧ i = .int .i64 j ∧ ∃ T : Int, 0 ≤ T ∧ T ≤ 4294967295 ∧ Hid (T = crcBits j (bits .xor .u32 R (((s[k]'hlt).toNat : Int) % 4294967296))) ∧ r = .int .u32 T) (fun _ i => 8 - (intOf i).toNat)
      case atStart => exact ⟨0, Nat.zero_le _, rfl, _, hb2.1, hb2.2, rfl, rfl⟩
      case round =>
        obtain ⟨j, hj, rfl, T, hT0, hT1, HT, rfl⟩ := hrel
        by_cases hj8 : j < 8
        · have hb3 := crcBit_bd T hT0 hT1
          have HB : Hid (crcBits (j + 1) (bits .xor .u32 R (((s[k]'hlt).toNat : Int) % 4294967296)) = crcBit T) := by rw [HT.out]; exact rfl
          cases ht : (bits .and .u32 T 1 == 1)
          · have HN := hide (crcBit_no T ht)
            rw [HN.out] at hb3 HB
            go_wp2
            go_round
            case rel => exact ⟨j + 1, by omega, by go_num, _, hb3.1, hb3.2, HB.out.symm, rfl⟩
            case measure => simp [intOf]; omega
          · have HN := hide (crcBit_yes T ht)
            rw [HN.out] at hb3 HB
            go_wp2
            go_round
            case rel => exact ⟨j + 1, by omega, by go_num, _, hb3.1, hb3.2, HB.out.symm, rfl⟩
            case measure => simp [intOf]; omega
        · have e8 : j = 8 := by omega
          subst e8
          go_wp2
          go_round
          case rel => exact ⟨k + 1, by omega, by go_num, _, hT0, hT1, HT.out.trans HS.out.symm, rfl⟩
          case measure => simp [intOf]; omega
    · have ek : k = s.size := by omega
      have HE : Hid (R = crcTo s s.size R0) := by rw [← ek]; exact HR
      clear ek HR
      go_wp2
      go_ret
      exact ⟨ret_int HE.out, rfl⟩

set_option maxHeartbeats 1000000 in
theorem implCrcMore_any (c : Int) (s : ByteArray) (w : World) (hs : s.size ≤ 8000) (h0 : 0 ≤ c) (h1 : c ≤ 4294967295) :
    Calls Tryz.prog 96 #[.int .i64 c, .string s] w fun e w' => e = .returned (.int .i64 (crcOf c s)) ∧ w' = w := by
  have HW := hide (wrap64_crc c s)
  have hb := bits_bd .xor c 4294967295
  go_enter Tryz.func96, Tryz.ntmps96
  go_wp2_with fail
  rw [xor_turn]
  refine (implReg_any _ s _ (by unfold maxLen; omega) hb.1 hb.2).mono ?_
  rintro e w' ⟨rfl, rfl⟩
  go_wp2
  go_ret
  refine ⟨ret_int ?_, rfl⟩
  rw [xor_turn]
  exact HW.out

set_option maxHeartbeats 400000 in
theorem implCrcMore_not (c : Int) (s : ByteArray) (w : World) (hs : s.size ≤ maxLen) (h : 8000 < s.size ∨ (s.size ≤ 8000 ∧ c < 0) ∨ (s.size ≤ 8000 ∧ 0 ≤ c ∧ 4294967295 < c)) :
    Calls Tryz.prog 96 #[.int .i64 c, .string s] w fun e w' => e = .returned (.int .i64 0) ∧ w' = w := by
  unfold maxLen at hs
  rcases h with h | ⟨h, h'⟩ | ⟨h, h', h''⟩
  all_goals
    go_enter Tryz.func96, Tryz.ntmps96
    go_wp2
    go_ret
    exact ⟨rfl, rfl⟩

set_option maxHeartbeats 400000 in
theorem implCrcOf_any (s : ByteArray) (w : World) (hs : s.size ≤ 8000) :
    Calls Tryz.prog 89 #[.string s] w fun e w' => e = .returned (.int .i64 (crcOf 0 s)) ∧ w' = w := by
  go_enter Tryz.func89, Tryz.ntmps89
  go_wp2_with fail
  refine (implCrcMore_any _ s _ hs (by omega) (by omega)).mono ?_
  rintro e w' ⟨rfl, rfl⟩
  go_wp2
  go_ret
  exact ⟨rfl, rfl⟩

set_option maxHeartbeats 400000 in
theorem implCrcOf_not (s : ByteArray) (w : World) (hm : s.size ≤ maxLen) (hs : 8000 < s.size) :
    Calls Tryz.prog 89 #[.string s] w fun e w' => e = .returned (.int .i64 0) ∧ w' = w := by
  go_enter Tryz.func89, Tryz.ntmps89
  go_wp2_with fail
  refine (implCrcMore_not _ s _ hm (.inl hs)).mono ?_
  rintro e w' ⟨rfl, rfl⟩
  go_wp2
  go_ret
  exact ⟨rfl, rfl⟩

end Go.Proofs.YtfdgifflnmpmaaaGreatDoor.St1
/- The four bytes of a CRC, and Seal of the program and of the model: both answer the text with the four bytes of its CRC behind it, or the empty text. -/
namespace Go.Proofs.YtfdgifflnmpmaaaGreatDoor.St1
open Go.RowKit

def four (n : Int) : ByteArray := ⟨#[UInt8.ofNat (n % 256).toNat, UInt8.ofNat (n / 256 % 256).toNat, UInt8.ofNat (n / 65536 % 256).toNat, UInt8.ofNat (n / 16777216).toNat]⟩
theorem four_size (n : Int) : (four n).size = 4 := rfl

theorem four_run (w : World) (a b c d : Int) (ha : 0 ≤ a ∧ a < 256) (hb : 0 ≤ b ∧ b < 256) (hc : 0 ≤ c ∧ c < 256) (hd : 0 ≤ d ∧ d < 256) :
    (convert 47 9 (.slice (some ⟨w.heap.size, 0, none⟩) 4 4)).run Tryz.prog (w.alloc (.cells #[.int .u8 a, .int .u8 b, .int .u8 c, .int .u8 d] 5)) =
      .ok (.string ⟨#[UInt8.ofNat a.toNat, UInt8.ofNat b.toNat, UInt8.ofNat c.toNat, UInt8.ofNat d.toNat]⟩) (w.alloc (.cells #[.int .u8 a, .int .u8 b, .int .u8 c, .int .u8 d] 5)) := by
  refine run_convert_bytes_back (P := Tryz.prog) _ 47 9 5 ⟨w.heap.size, 0, none⟩ 4 [UInt8.ofNat a.toNat, UInt8.ofNat b.toNat, UInt8.ofNat c.toNat, UInt8.ofNat d.toNat] Tryz.underlying47 Tryz.underlying5 Tryz.underlying9 (fun j hj => ?_)
  have ea : (⟨w.heap.size, 0, none⟩ : Addr).add j = ⟨w.heap.size, j, none⟩ := by unfold Addr.add; split <;> simp_all
  rw [ea, cell_of_row _ w.heap.size j _ 5 (0, 0) (heap_alloc_new w _)]
  match j, hj with
  | 0, _ => simp; omega
  | 1, _ => simp; omega
  | 2, _ => simp; omega
  | 3, _ => simp; omega

set_option maxHeartbeats 400000 in
theorem specFour_any (n : Int) (w : World) (h0 : 0 ≤ n) (h1 : n ≤ 4294967295) :
    Calls Tryz.prog 71 #[.int .i64 n] w fun e w' => e = .returned (.string (four n)) ∧ Below w.heap.size w w' := by
  have hr := four_run w (n % 256) (n / 256 % 256) (n / 65536 % 256) (n / 16777216) (by omega) (by omega) (by omega) (by omega)
  go_enter Tryz.func71, Tryz.ntmps71
  go_wp2
  go_ret
  exact ⟨rfl, (Below.refl _ _).alloc (Nat.le_refl _) _⟩

set_option maxHeartbeats 400000 in
theorem implFour_any (n : Int) (w : World) (h0 : 0 ≤ n) (h1 : n ≤ 4294967295) :
    Calls Tryz.prog 88 #[.int .i64 n] w fun e w' => e = .returned (.string (four n)) ∧ Below w.heap.size w w' := by
  have hr := four_run w (n % 256) (n / 256 % 256) (n / 65536 % 256) (n / 16777216) (by omega) (by omega) (by omega) (by omega)
  go_enter Tryz.func88, Tryz.ntmps88
  go_wp2
  go_ret
  exact ⟨rfl, (Below.refl _ _).alloc (Nat.le_refl _) _⟩

def sealOf (s : ByteArray) : ByteArray := s ++ four (crcOf 0 s)

set_option maxHeartbeats 400000 in
theorem specSeal_any (s : ByteArray) (w : World) (hs : s.size ≤ 7996) :
    Calls Tryz.prog 66 #[.string s] w fun e w' => e = .returned (.string (sealOf s)) ∧ Below w.heap.size w w' := by
  have hb := crcOf_bd 0 s
  go_enter Tryz.func66, Tryz.ntmps66
  go_wp2_with fail
  refine (specCrc_any _ s _ (by unfold maxLen; omega) (by omega) (by omega)).mono ?_
  rintro e w' ⟨rfl, rfl⟩
  go_wp2_with fail
  refine (specFour_any _ _ hb.1 hb.2).mono ?_
  rintro e w1 ⟨rfl, hb1⟩
  have hf : (four (crcOf 0 s)).size ≤ 4 := Nat.le_of_eq (four_size _)
  go_wp2
  go_ret
  exact ⟨rfl, hb1⟩

set_option maxHeartbeats 400000 in
theorem specSeal_not (s : ByteArray) (w : World) (hm : s.size ≤ maxLen) (hs : 7996 < s.size) :
    Calls Tryz.prog 66 #[.string s] w fun e w' => e = .returned (.string ByteArray.empty) ∧ w' = w := by
  unfold maxLen at hm
  go_enter Tryz.func66, Tryz.ntmps66
  go_wp2
  go_ret
  exact ⟨rfl, rfl⟩

set_option maxHeartbeats 400000 in
theorem implSeal_any (s : ByteArray) (w : World) (hs : s.size ≤ 7996) :
    Calls Tryz.prog 79 #[.string s] w fun e w' => e = .returned (.string (sealOf s)) ∧ Below w.heap.size w w' := by
  have hb := crcOf_bd 0 s
  go_enter Tryz.func79, Tryz.ntmps79
  go_wp2_with fail
  refine (implCrcOf_any s _ (by omega)).mono ?_
  rintro e w' ⟨rfl, rfl⟩
  go_wp2_with fail
  refine (implFour_any _ _ hb.1 hb.2).mono ?_
  rintro e w1 ⟨rfl, hb1⟩
  have hf : (four (crcOf 0 s)).size ≤ 4 := Nat.le_of_eq (four_size _)
  go_wp2_with fail
  refine (joinTexts_any s _ _ (by omega) (by omega)).mono ?_
  rintro e w2 ⟨rfl, hb2⟩
  go_wp2
  go_ret
  exact ⟨rfl, hb1.trans (hb2.mono hb1.size)⟩

set_option maxHeartbeats 400000 in
theorem implSeal_not (s : ByteArray) (w : World) (hm : s.size ≤ maxLen) (hs : 7996 < s.size) :
    Calls Tryz.prog 79 #[.string s] w fun e w' => e = .returned (.string ByteArray.empty) ∧ w' = w := by
  unfold maxLen at hm
  go_enter Tryz.func79, Tryz.ntmps79
  go_wp2
  go_ret
  exact ⟨rfl, rfl⟩
end Go.Proofs.YtfdgifflnmpmaaaGreatDoor.St1
