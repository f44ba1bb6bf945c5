/- What GetNum reads at a place, byte by byte: plain mathematics. -/
import Derived.WalkKit
import Derived.OpenShut
import Derived.Laws.IdiomStrings
import Derived.Laws.BytesString
import Derived.Test.YtnpbmaajgiapmaaGreatDoorRows
namespace Go.Proofs.YtnpbmaajgiapmaaGreatDoor.St3
open Go.RowKit

/-- The number that u stands for. -/
def unf (u : Int) : Int := if u % 2 = 1 then -(u / 2) - 1 else u / 2
theorem unf_bd (u : Int) (h0 : 0 ≤ u) (h1 : u ≤ 18446744073709551615) : -9223372036854775808 ≤ unf u ∧ unf u ≤ 9223372036854775807 := by
  unfold unf; split <;> omega

/-- From byte k on, u being what the bytes ahead of it hold: the number, the place behind it, the code. -/
def scan (s : ByteArray) (a : Nat) : Nat → Nat → Int → Int × Int × Int
  | 0, _, _ => (0, 0, 3)
  | f + 1, k, u =>
    if h : a + k < s.size then
      if ((s[a + k]'h).toNat : Int) < 128 ∨ k = 9 then
        if (k = 9 ∧ 1 < ((s[a + k]'h).toNat : Int)) ∨ (0 < k ∧ ((s[a + k]'h).toNat : Int) = 0) then (0, 0, 3)
        else (unf (u + ((s[a + k]'h).toNat : Int) * 128 ^ k), (a : Int) + k + 1, 0)
      else scan s a f (k + 1) (u + ((s[a + k]'h).toNat : Int) % 128 * 128 ^ k)
    else (0, 0, 4)

theorem scan_short (s : ByteArray) (a f k : Nat) (u : Int) (h : ¬ a + k < s.size) : scan s a (f + 1) k u = (0, 0, 4) := by rw [scan, dif_neg h]
theorem scan_bad (s : ByteArray) (a f k : Nat) (u : Int) (h : a + k < s.size) (h1 : ((s[a + k]'h).toNat : Int) < 128 ∨ k = 9)
    (h2 : (k = 9 ∧ 1 < ((s[a + k]'h).toNat : Int)) ∨ (0 < k ∧ ((s[a + k]'h).toNat : Int) = 0)) : scan s a (f + 1) k u = (0, 0, 3) := by rw [scan, dif_pos h, if_pos h1, if_pos h2]
theorem scan_last (s : ByteArray) (a f k : Nat) (u : Int) (h : a + k < s.size) (h1 : ((s[a + k]'h).toNat : Int) < 128 ∨ k = 9)
    (h2 : ¬ ((k = 9 ∧ 1 < ((s[a + k]'h).toNat : Int)) ∨ (0 < k ∧ ((s[a + k]'h).toNat : Int) = 0))) : scan s a (f + 1) k u = (unf (u + ((s[a + k]'h).toNat : Int) * 128 ^ k), (a : Int) + k + 1, 0) := by
  rw [scan, dif_pos h, if_pos h1, if_neg h2]
theorem scan_more (s : ByteArray) (a f k : Nat) (u : Int) (h : a + k < s.size) (h1 : 128 ≤ ((s[a + k]'h).toNat : Int)) (h9 : k < 9) :
    scan s a (f + 1) k u = scan s a f (k + 1) (u + ((s[a + k]'h).toNat : Int) % 128 * 128 ^ k) := by
  rw [scan, dif_pos h, if_neg (by omega)]

theorem byte_lt (s : ByteArray) (i : Nat) (h : i < s.size) : ((s[i]'h).toNat : Int) ≤ 255 := by have := (s[i]'h).toNat_lt; omega
end Go.Proofs.YtnpbmaajgiapmaaGreatDoor.St3
/- A row of bytes that the call itself makes by append: what is owned behind each append, and the text that it is made into. Nothing here speaks of one program. -/
namespace Go.Proofs.YtnpbmaajgiapmaaGreatDoor.St2
open Go.RowKit
theorem hide {p : Prop} (h : p) : Hid p := h

/-- The slice v owns the bytes L in the world w, in blocks from B on; below B all is as in w0. -/
def Own (e : TypeId) (B : Nat) (w0 w : World) (v : Value) (L : List Int) : Prop :=
  w.ownsRow B e 1 v L.length (L.map (Value.int .u8)) ∧ Below B w0 w ∧ B ≤ w.heap.size

theorem own_nil (e : TypeId) (w : World) : Own e w.heap.size w w (.slice none 0 0) [] :=
  ⟨World.ownsRow_nil w _ _ _, Below.refl _ _, Nat.le_refl _⟩
theorem own_empty (e : TypeId) (w : World) : Own e w.heap.size w (w.alloc (.cells #[] e)) (.slice (some ⟨w.heap.size, 0, none⟩) 0 0) [] :=
  ⟨World.ownsRow_made w #[] 0 (Nat.le_refl _) (by unfold maxLen; omega) rfl, (Below.refl _ _).alloc (Nat.le_refl _) _, by simp⟩

/-- 'append(b, c)' of one byte: the byte lies in a block of its own first. -/
theorem wpList_push {P : Program} {w w0 : World} {ops : Array Oper} {rest : List Oper} {o : Oper} {a : Act} {Q : Exit → Act → World → Prop} (hgd : o.guard = none) (s x : Operand) (t : TypeId)
    (ho : o.op = .call { callee := .builtin .append, args := #[s, x], argTypes := #[t, t] })
    (B : Nat) (e : TypeId) (ht : P.underlying t = some (.slice e)) (hi : (P.info? e).map (fun i => (i.zero, i.size, i.bytes)) = some (some (.int .u8 0), 1, 1))
    (v : Value) (L : List Int) (c : Int) (hs : a.eval s = v) (hx : a.eval x = .slice (some ⟨w.heap.size, 0, none⟩) 1 1) (hown : Own e B w0 w v L) (hlen : L.length ≤ 1000000)
    (h : ∀ v' w', Own e B w0 w' v' (L ++ [c]) → wpList P ops Q rest (a.put o.dst v') w') : wpList P ops Q (o :: rest) a (w.alloc (.cells #[.int .u8 c] e)) := by
  obtain ⟨i0, hi0, hz0, hz1, hz2⟩ := info_parts hi
  obtain ⟨h1, h2, h3⟩ := hown
  refine wpList_append_own (w.alloc (.cells #[.int .u8 c] e)) hgd s x t ho B e i0 (.int .u8 0) 1 1 ht hi0 hz0 hz1 hz2 rfl (by decide) v L.length (L.map (Value.int .u8)) hs (h1.alloc _) ⟨w.heap.size, 0, none⟩ 1 1 [.int .u8 c] hx rfl ?_ ?_ ?_ ?_ ?_ ?_
  · intro j u hj
    match j, hj with
    | 0, hj =>
      simp at hj
      subst hj
      have ea : (⟨w.heap.size, 0, none⟩ : Addr).add 0 = ⟨w.heap.size, 0, none⟩ := by simp [Addr.add]
      rw [ea, cell_of_row _ w.heap.size 0 _ e (0, 0) (heap_alloc_new w _)]
      rfl
  · intro u hu
    simp at hu
    subst hu
    rfl
  · unfold maxLen; omega
  · omega
  · simp; omega
  · intro v' w' hown' hgrow _
    refine h v' w' ⟨?_, ?_, ?_⟩
    · simpa using hown'
    · exact (h2.alloc h3 _).grown hgrow (by simp; omega) (fun k hk => (h1.lt k hk).1)
    · have := hgrow.size
      simp at this
      omega

def bytesOf (L : List Int) : ByteArray := ⟨(L.map fun x => UInt8.ofNat x.toNat).toArray⟩

theorem own_string {P : Program} {e t T B : Nat} {w0 w : World} {v : Value} {L : List Int} (h : Own e B w0 w v L) (hr : ∀ x ∈ L, 0 ≤ x ∧ x ≤ 255) (hne : L ≠ [])
    (ht : P.underlying t = some (.slice e)) (he : P.underlying e = some (.int .u8)) (hT : P.underlying T = some .string) :
    (convert t T v).run P w = .ok (.string (bytesOf L)) w := by
  obtain ⟨⟨h0, hv⟩, _, _⟩ := h
  rcases hv with ⟨rfl, hn⟩ | ⟨g, cap, cur, rfl, _, hh, hnc, _, hcs, htk⟩
  · exact absurd (List.eq_nil_of_length_eq_zero hn) hne
  · have := run_convert_bytes_back (P := P) w t T e ⟨g, 0, none⟩ cap (L.map fun x => UInt8.ofNat x.toNat) ht he hT (fun j hj => by
      have hjL : j < L.length := by simpa using hj
      have ea : (⟨g, 0, none⟩ : Addr).add j = ⟨g, j, none⟩ := by unfold Addr.add; split <;> simp_all
      rw [ea, cell_of_row w g j _ e (0, 0) hh]
      have e1 : cur[j]? = (cur.toList.take (L.length * 1))[j]? := by
        rw [List.getElem?_take_of_lt (by omega)]; simp
      rw [e1, htk, List.getElem?_map, List.getElem?_eq_getElem hjL]
      have hb := hr L[j] (List.getElem_mem hjL)
      simp
      omega)
    rw [List.length_map] at this
    exact this
end Go.Proofs.YtnpbmaajgiapmaaGreatDoor.St2
/- A number's bytes: PutNum of the program and of the model both answer the same list of bytes, seven bits a byte. -/
namespace Go.Proofs.YtnpbmaajgiapmaaGreatDoor.St2
open Go.RowKit

/-- The number from 0 to 2^64-1 that stands for n. -/
def fold (n : Int) : Int := if n < 0 then 2 * -(n + 1) + 1 else 2 * n
theorem fold_bd (n : Int) (h0 : -9223372036854775808 ≤ n) (h1 : n ≤ 9223372036854775807) : 0 ≤ fold n ∧ fold n ≤ 18446744073709551615 := by
  unfold fold; split <;> omega

def encF : Nat → Int → List Int
  | 0, _ => []
  | m + 1, u => if u < 128 then [u] else (u % 128 + 128) :: encF m (u / 128)
def enc (n : Int) : List Int := encF 10 (fold n)

theorem encF_last (m : Nat) (u : Int) (h : u < 128) : encF (m + 1) u = [u] := by rw [encF, if_pos h]
theorem encF_more (m : Nat) (u : Int) (h : 128 ≤ u) : encF (m + 1) u = (u % 128 + 128) :: encF m (u / 128) := by rw [encF, if_neg (by omega)]
theorem encF_len (m : Nat) : ∀ u, (encF m u).length ≤ m := by
  induction m with
  | zero => intro u; simp [encF]
  | succ m ih =>
    intro u
    rw [encF]
    split
    · simp
    · have := ih (u / 128)
      simp; omega
theorem encF_rng (m : Nat) : ∀ u, 0 ≤ u → ∀ x ∈ encF m u, 0 ≤ x ∧ x ≤ 255 := by
  induction m with
  | zero => intro u _ x hx; simp [encF] at hx
  | succ m ih =>
    intro u hu x hx
    rw [encF] at hx
    split at hx
    · simp at hx; omega
    · simp at hx
      rcases hx with rfl | hx
      · omega
      · exact ih (u / 128) (by omega) x hx
theorem enc_len (n : Int) : (enc n).length ≤ 10 := encF_len 10 _
theorem encF_ne (m : Nat) (u : Int) : encF (m + 1) u ≠ [] := by rw [encF]; split <;> simp

theorem and127 (u : Int) (h0 : 0 ≤ u) (h1 : u ≤ 18446744073709551615) : bits .and .u64 u 127 = u % 128 := by
  obtain ⟨m, rfl⟩ := Int.eq_ofNat_of_zero_le h0
  have hm : m < 18446744073709551616 := by omega
  have e1 : (BitVec.ofInt 64 (m : Int)).toNat = m := by simp; omega
  have e2 : (BitVec.ofInt 64 127).toNat = 127 := by decide
  have e0 : bits .and .u64 (m : Int) 127 = IntKind.u64.wrap (((BitVec.ofInt 64 (m : Int)) &&& (BitVec.ofInt 64 127)).toNat : Int) := rfl
  rw [e0, BitVec.toNat_and, e1, e2]
  have e3 : m &&& 127 = m % 128 := Nat.and_two_pow_sub_one_eq_mod m 7
  rw [e3]
  have : m % 128 < 128 := Nat.mod_lt _ (by decide)
  simp [IntKind.wrap, IntKind.signed, IntKind.bits]
  omega
theorem or128 (x : Int) (h0 : 0 ≤ x) (h1 : x < 128) : bits .or .u8 x 128 = x + 128 := by
  obtain ⟨m, rfl⟩ := Int.eq_ofNat_of_zero_le h0
  have key : ∀ m : Fin 128, bits .or .u8 (m.val : Int) 128 = (m.val : Int) + 128 := by decide +kernel
  exact key ⟨m, by omega⟩
theorem xorall (x : Int) (h0 : 0 ≤ x) (h1 : x ≤ 18446744073709551615) : bits .xor .u64 IntKind.u64.max x = 18446744073709551615 - x := by
  obtain ⟨m, rfl⟩ := Int.eq_ofNat_of_zero_le h0
  have e0 : BitVec.ofInt 64 IntKind.u64.max = BitVec.allOnes 64 := by decide
  have e2 : bits .xor .u64 IntKind.u64.max (m : Int) = IntKind.u64.wrap (((BitVec.ofInt 64 IntKind.u64.max) ^^^ (BitVec.ofInt 64 (m : Int))).toNat : Int) := rfl
  have e1 : (BitVec.ofInt 64 (m : Int)).toNat = m := by simp; omega
  rw [e2, e0, BitVec.allOnes_xor, BitVec.toNat_not, e1]
  simp [IntKind.wrap, IntKind.signed, IntKind.bits]
  omega
theorem fold_neg (n : Int) (h0 : -9223372036854775808 ≤ n) (h : n < 0) : bits .xor .u64 IntKind.u64.max (IntKind.u64.wrap (IntKind.u64.wrap n * 2)) = 2 * -(n + 1) + 1 := by
  have e : IntKind.u64.wrap (IntKind.u64.wrap n * 2) = (n * 2) % 18446744073709551616 := by
    simp [IntKind.wrap, IntKind.signed, IntKind.bits]
    omega
  rw [e, xorall _ (by omega) (by omega)]
  omega
theorem ret_int {k : IntKind} {a b : Int} (h : a = b) : Ending.returned (.int k a) = .returned (.int k b) := by rw [h]

set_option maxHeartbeats 400000 in
theorem specFold_any (n : Int) (w : World) (h0 : -9223372036854775808 ≤ n) (h1 : n ≤ 9223372036854775807) :
    Calls Tryz.prog 98 #[.int .i64 n] w fun e w' => e = .returned (.int .u64 (fold n)) ∧ w' = w := by
  by_cases hn : n < 0
  · go_enter Tryz.func98, Tryz.ntmps98
    go_wp2
    go_ret
    exact ⟨ret_int (by rw [fold, if_pos hn]), rfl⟩
  · have hn' : 0 ≤ n := by omega
    go_enter Tryz.func98, Tryz.ntmps98
    go_wp2
    go_ret
    exact ⟨ret_int (by rw [fold, if_neg (by omega)]), rfl⟩

set_option maxHeartbeats 400000 in
theorem implFold_any (n : Int) (w : World) (h0 : -9223372036854775808 ≤ n) (h1 : n ≤ 9223372036854775807) :
    Calls Tryz.prog 130 #[.int .i64 n] w fun e w' => e = .returned (.int .u64 (fold n)) ∧ w' = w := by
  by_cases hn : n < 0
  · go_enter Tryz.func130, Tryz.ntmps130
    go_wp2
    go_ret
    exact ⟨ret_int (by rw [fold, if_pos hn]; exact fold_neg n h0 hn), rfl⟩
  · have hn' : 0 ≤ n := by omega
    go_enter Tryz.func130, Tryz.ntmps130
    go_wp2
    go_ret
    exact ⟨ret_int (by rw [fold, if_neg (by omega)]; omega), rfl⟩
end Go.Proofs.YtnpbmaajgiapmaaGreatDoor.St2
