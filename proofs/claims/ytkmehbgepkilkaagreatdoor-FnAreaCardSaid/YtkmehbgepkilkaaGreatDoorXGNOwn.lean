/- A row of bytes that the call itself makes by append: what is owned behind each append, and the text that it is made into. Nothing here speaks of one program. -/
import Derived.WalkKit
import Derived.OpenShut
import Derived.Laws.IdiomStrings
import Derived.Laws.BytesString
import Derived.Test.YtkmehbgepkilkaaGreatDoorRows
import Derived.Test.YtkmehbgepkilkaaGreatDoorXGGScan
namespace Go.Proofs.YtkmehbgepkilkaaGreatDoor.St2
open Go.RowKit
theorem hide {p : Prop} (h : p) : Hid p := h

/-- The slice v owns the bytes L in the world w, in blocks from B on; below B all is as in w0. -/
def Own (e : TypeId) (B : Nat) (w0 w : World) (v : Value) (L : List Int) : Prop :=
  w.ownsRow B e 1 v L.length (L.map (Value.int .u8)) ∧ Below B w0 w ∧ B ≤ w.heap.size

theorem own_nil (e : TypeId) (w : World) : Own e w.heap.size w w (.slice none 0 0) [] :=
  ⟨World.ownsRow_nil w _ _ _, Below.refl _ _, Nat.le_refl _⟩
theorem own_empty (e : TypeId) (w : World) : Own e w.heap.size w (w.alloc (.cells #[] e)) (.slice (some ⟨w.heap.size, 0, none⟩) 0 0) [] :=
  ⟨World.ownsRow_made w #[] 0 (Nat.le_refl _) (by unfold maxLen; omega) rfl, (Below.refl _ _).alloc (Nat.le_refl _) _, by simp⟩

/-- 'append(b, c)' of one byte: the byte lies in a block of its own first. -/
theorem wpList_push {P : Program} {w w0 : World} {ops : Array Oper} {rest : List Oper} {o : Oper} {a : Act} {Q : Exit → Act → World → Prop} (hgd : o.guard = none) (s x : Operand) (t : TypeId)
    (ho : o.op = .call { callee := .builtin .append, args := #[s, x], argTypes := #[t, t] })
    (B : Nat) (e : TypeId) (ht : P.underlying t = some (.slice e)) (hi : (P.info? e).map (fun i => (i.zero, i.size, i.bytes)) = some (some (.int .u8 0), 1, 1))
    (v : Value) (L : List Int) (c : Int) (hs : a.eval s = v) (hx : a.eval x = .slice (some ⟨w.heap.size, 0, none⟩) 1 1) (hown : Own e B w0 w v L) (hlen : L.length ≤ 1000000)
    (h : ∀ v' w', Own e B w0 w' v' (L ++ [c]) → wpList P ops Q rest (a.put o.dst v') w') : wpList P ops Q (o :: rest) a (w.alloc (.cells #[.int .u8 c] e)) := by
  obtain ⟨i0, hi0, hz0, hz1, hz2⟩ := info_parts hi
  obtain ⟨h1, h2, h3⟩ := hown
  refine wpList_append_own (w.alloc (.cells #[.int .u8 c] e)) hgd s x t ho B e i0 (.int .u8 0) 1 1 ht hi0 hz0 hz1 hz2 rfl (by decide) v L.length (L.map (Value.int .u8)) hs (h1.alloc _) ⟨w.heap.size, 0, none⟩ 1 1 [.int .u8 c] hx rfl ?_ ?_ ?_ ?_ ?_ ?_
  · intro j u hj
    match j, hj with
    | 0, hj =>
      simp at hj
      subst hj
      have ea : (⟨w.heap.size, 0, none⟩ : Addr).add 0 = ⟨w.heap.size, 0, none⟩ := by simp [Addr.add]
      rw [ea, cell_of_row _ w.heap.size 0 _ e (0, 0) (heap_alloc_new w _)]
      rfl
  · intro u hu
    simp at hu
    subst hu
    rfl
  · unfold maxLen; omega
  · omega
  · simp; omega
  · intro v' w' hown' hgrow _
    refine h v' w' ⟨?_, ?_, ?_⟩
    · simpa using hown'
    · exact (h2.alloc h3 _).grown hgrow (by simp; omega) (fun k hk => (h1.lt k hk).1)
    · have := hgrow.size
      simp at this
      omega

def bytesOf (L : List Int) : ByteArray := ⟨(L.map fun x => UInt8.ofNat x.toNat).toArray⟩

theorem own_string {P : Program} {e t T B : Nat} {w0 w : World} {v : Value} {L : List Int} (h : Own e B w0 w v L) (hr : ∀ x ∈ L, 0 ≤ x ∧ x ≤ 255) (hne : L ≠ [])
    (ht : P.underlying t = some (.slice e)) (he : P.underlying e = some (.int .u8)) (hT : P.underlying T = some .string) :
    (convert t T v).run P w = .ok (.string (bytesOf L)) w := by
  obtain ⟨⟨h0, hv⟩, _, _⟩ := h
  rcases hv with ⟨rfl, hn⟩ | ⟨g, cap, cur, rfl, _, hh, hnc, _, hcs, htk⟩
  · exact absurd (List.eq_nil_of_length_eq_zero hn) hne
  · have := run_convert_bytes_back (P := P) w t T e ⟨g, 0, none⟩ cap (L.map fun x => UInt8.ofNat x.toNat) ht he hT (fun j hj => by
      have hjL : j < L.length := by simpa using hj
      have ea : (⟨g, 0, none⟩ : Addr).add j = ⟨g, j, none⟩ := by unfold Addr.add; split <;> simp_all
      rw [ea, cell_of_row w g j _ e (0, 0) hh]
      have e1 : cur[j]? = (cur.toList.take (L.length * 1))[j]? := by
        rw [List.getElem?_take_of_lt (by omega)]; simp
      rw [e1, htk, List.getElem?_map, List.getElem?_eq_getElem hjL]
      have hb := hr L[j] (List.getElem_mem hjL)
      simp
      omega)
    rw [List.length_map] at this
    exact this
end Go.Proofs.YtkmehbgepkilkaaGreatDoor.St2

/- A number's bytes: PutNum of the program and of the model both answer the same list of bytes, seven bits a byte. -/
namespace Go.Proofs.YtkmehbgepkilkaaGreatDoor.St2
open Go.RowKit

/-- The number from 0 to 2^64-1 that stands for n. -/
def fold (n : Int) : Int := if n < 0 then 2 * -(n + 1) + 1 else 2 * n
theorem fold_bd (n : Int) (h0 : -9223372036854775808 ≤ n) (h1 : n ≤ 9223372036854775807) : 0 ≤ fold n ∧ fold n ≤ 18446744073709551615 := by
  unfold fold; split <;> omega

def encF : Nat → Int → List Int
  | 0, _ => []
  | m + 1, u => if u < 128 then [u] else (u % 128 + 128) :: encF m (u / 128)
def enc (n : Int) : List Int := encF 10 (fold n)

theorem encF_last (m : Nat) (u : Int) (h : u < 128) : encF (m + 1) u = [u] := by rw [encF, if_pos h]
theorem encF_more (m : Nat) (u : Int) (h : 128 ≤ u) : encF (m + 1) u = (u % 128 + 128) :: encF m (u / 128) := by rw [encF, if_neg (by omega)]
theorem encF_len (m : Nat) : ∀ u, (encF m u).length ≤ m := by
  induction m with
  | zero => intro u; simp [encF]
  | succ m ih =>
    intro u
    rw [encF]
    split
    · simp
    · have := ih (u / 128)
      simp; omega
theorem encF_rng (m : Nat) : ∀ u, 0 ≤ u → ∀ x ∈ encF m u, 0 ≤ x ∧ x ≤ 255 := by
  induction m with
  | zero => intro u _ x hx; simp [encF] at hx
  | succ m ih =>
    intro u hu x hx
    rw [encF] at hx
    split at hx
    · simp at hx; omega
    · simp at hx
      rcases hx with rfl | hx
      · omega
      · exact ih (u / 128) (by omega) x hx
theorem enc_len (n : Int) : (enc n).length ≤ 10 := encF_len 10 _
theorem and127 (u : Int) (h0 : 0 ≤ u) (h1 : u ≤ 18446744073709551615) : bits .and .u64 u 127 = u % 128 := by
  obtain ⟨m, rfl⟩ := Int.eq_ofNat_of_zero_le h0
  have hm : m < 18446744073709551616 := by omega
  have e1 : (BitVec.ofInt 64 (m : Int)).toNat = m := by simp; omega
  have e2 : (BitVec.ofInt 64 127).toNat = 127 := by decide
  have e0 : bits .and .u64 (m : Int) 127 = IntKind.u64.wrap (((BitVec.ofInt 64 (m : Int)) &&& (BitVec.ofInt 64 127)).toNat : Int) := rfl
  rw [e0, BitVec.toNat_and, e1, e2]
  have e3 : m &&& 127 = m % 128 := Nat.and_two_pow_sub_one_eq_mod m 7
  rw [e3]
  have : m % 128 < 128 := Nat.mod_lt _ (by decide)
  simp [IntKind.wrap, IntKind.signed, IntKind.bits]
  omega
theorem or128 (x : Int) (h0 : 0 ≤ x) (h1 : x < 128) : bits .or .u8 x 128 = x + 128 := by
  obtain ⟨m, rfl⟩ := Int.eq_ofNat_of_zero_le h0
  have key : ∀ m : Fin 128, bits .or .u8 (m.val : Int) 128 = (m.val : Int) + 128 := by decide +kernel
  exact key ⟨m, by omega⟩
theorem xorall (x : Int) (h0 : 0 ≤ x) (h1 : x ≤ 18446744073709551615) : bits .xor .u64 IntKind.u64.max x = 18446744073709551615 - x := by
  obtain ⟨m, rfl⟩ := Int.eq_ofNat_of_zero_le h0
  have e0 : BitVec.ofInt 64 IntKind.u64.max = BitVec.allOnes 64 := by decide
  have e2 : bits .xor .u64 IntKind.u64.max (m : Int) = IntKind.u64.wrap (((BitVec.ofInt 64 IntKind.u64.max) ^^^ (BitVec.ofInt 64 (m : Int))).toNat : Int) := rfl
  have e1 : (BitVec.ofInt 64 (m : Int)).toNat = m := by simp; omega
  rw [e2, e0, BitVec.allOnes_xor, BitVec.toNat_not, e1]
  simp [IntKind.wrap, IntKind.signed, IntKind.bits]
  omega
theorem fold_neg (n : Int) (h0 : -9223372036854775808 ≤ n) (h : n < 0) : bits .xor .u64 IntKind.u64.max (IntKind.u64.wrap (IntKind.u64.wrap n * 2)) = 2 * -(n + 1) + 1 := by
  have e : IntKind.u64.wrap (IntKind.u64.wrap n * 2) = (n * 2) % 18446744073709551616 := by
    simp [IntKind.wrap, IntKind.signed, IntKind.bits]
    omega
  rw [e, xorall _ (by omega) (by omega)]
  omega
theorem ret_int {k : IntKind} {a b : Int} (h : a = b) : Ending.returned (.int k a) = .returned (.int k b) := by rw [h]

set_option maxHeartbeats 400000 in
theorem specFold_any (n : Int) (w : World) (h0 : -9223372036854775808 ≤ n) (h1 : n ≤ 9223372036854775807) :
    Calls Tryz.prog 90 #[.int .i64 n] w fun e w' => e = .returned (.int .u64 (fold n)) ∧ w' = w := by
  by_cases hn : n < 0
  · go_enter Tryz.func90, Tryz.ntmps90
    go_wp2
    go_ret
    exact ⟨ret_int (by rw [fold, if_pos hn]), rfl⟩
  · have hn' : 0 ≤ n := by omega
    go_enter Tryz.func90, Tryz.ntmps90
    go_wp2
    go_ret
    exact ⟨ret_int (by rw [fold, if_neg (by omega)]), rfl⟩

set_option maxHeartbeats 400000 in
theorem implFold_any (n : Int) (w : World) (h0 : -9223372036854775808 ≤ n) (h1 : n ≤ 9223372036854775807) :
    Calls Tryz.prog 87 #[.int .i64 n] w fun e w' => e = .returned (.int .u64 (fold n)) ∧ w' = w := by
  by_cases hn : n < 0
  · go_enter Tryz.func87, Tryz.ntmps87
    go_wp2
    go_ret
    exact ⟨ret_int (by rw [fold, if_pos hn]; exact fold_neg n h0 hn), rfl⟩
  · have hn' : 0 ≤ n := by omega
    go_enter Tryz.func87, Tryz.ntmps87
    go_wp2
    go_ret
    exact ⟨ret_int (by rw [fold, if_neg (by omega)]; omega), rfl⟩
end Go.Proofs.YtkmehbgepkilkaaGreatDoor.St2

/- What is read as a number was written so: plain mathematics. -/
namespace Go.Proofs.YtkmehbgepkilkaaGreatDoor
open Go.RowKit St2 St3

theorem pow128 (k : Nat) : (128 : Int) ^ (k + 1) = 128 ^ k * 128 := Int.pow_succ _ _
theorem pow128_pos (k : Nat) : (0 : Int) < 128 ^ k := Int.pow_pos (by omega)
theorem fold_unf (v : Int) (h : 0 ≤ v) : fold (unf v) = v := by
  unfold fold unf
  split <;> split <;> omega
theorem pow_le (k : Nat) (h : k ≤ 8) : (128 : Int) ^ (k + 1) ≤ 9223372036854775808 := by
  match k, h with
  | 0, _ => decide
  | 1, _ => decide
  | 2, _ => decide
  | 3, _ => decide
  | 4, _ => decide
  | 5, _ => decide
  | 6, _ => decide
  | 7, _ => decide
  | 8, _ => decide
  | k + 9, h => omega

theorem scan_back (s : ByteArray) (a : Nat) (n p : Int) : ∀ (f k : Nat) (u : Int), k + f = 10 → 0 ≤ u → u < 128 ^ k → scan s a f k u = (n, p, 0) →
    ∃ v : Int, 0 ≤ v ∧ (0 < k → 1 ≤ v) ∧ n = unf (u + v * 128 ^ k) ∧ u + v * 128 ^ k ≤ 18446744073709551615 ∧ p = (a : Int) + k + (encF f v).length ∧ a + k + (encF f v).length ≤ s.size ∧
      ∀ j (h : j < (encF f v).length) (h2 : a + k + j < s.size), ((s[a + k + j]'h2).toNat : Int) = (encF f v)[j]
  | 0, k, u => fun _ _ _ h => by rw [scan] at h; simp at h
  | f + 1, k, u => fun hk hu hu2 h => by
    rw [scan] at h
    by_cases hlt : a + k < s.size
    · rw [dif_pos hlt] at h
      obtain ⟨c, hc⟩ : ∃ c : Int, c = ((s[a + k]'hlt).toNat : Int) := ⟨_, rfl⟩
      have hc0 : 0 ≤ c ∧ c ≤ 255 := by
        have := (s[a + k]'hlt).toNat_lt
        omega
      rw [← hc] at h
      by_cases hl : c < 128 ∨ k = 9
      · rw [if_pos hl] at h
        by_cases hb : (k = 9 ∧ 1 < c) ∨ (0 < k ∧ c = 0)
        · rw [if_pos hb] at h; simp at h
        · rw [if_neg hb] at h
          have hc1 : c < 128 := by omega
          have he : encF (f + 1) c = [c] := encF_last f c hc1
          refine ⟨c, hc0.1, by omega, ?_, ?_, ?_, ?_, ?_⟩
          · have := congrArg Prod.fst h; exact this.symm
          · by_cases h9 : k = 9
            · subst h9
              have : c ≤ 1 := by omega
              have e : (128 : Int) ^ 9 = 9223372036854775808 := by decide
              rw [e] at hu2 ⊢
              omega
            · have hp := pow_le k (by omega)
              rw [pow128] at hp
              have h1 : c * 128 ^ k ≤ 127 * 128 ^ k := Int.mul_le_mul_of_nonneg_right (by omega) (Int.le_of_lt (pow128_pos k))
              omega
          · have := congrArg (fun x => x.2.1) h
            simp only at this
            rw [he]; simp; omega
          · rw [he]; simp; omega
          · intro j hj h2
            rw [he] at hj
            have : j = 0 := by simpa using hj
            subst this
            simp only [he]
            exact hc.symm
      · rw [if_neg hl] at h
        have hk9 : k < 9 := by omega
        have hm : 0 ≤ c % 128 ∧ c % 128 ≤ 127 := by omega
        have hp := pow128_pos k
        have h1 : c % 128 * 128 ^ k ≤ 127 * 128 ^ k := Int.mul_le_mul_of_nonneg_right hm.2 (Int.le_of_lt hp)
        have h0 : 0 ≤ c % 128 * 128 ^ k := Int.mul_nonneg hm.1 (Int.le_of_lt hp)
        obtain ⟨v, hv0, hv1, hn, hbd, hpp, hsz, hall⟩ := scan_back s a n p f (k + 1) _ (by omega) (by omega) (by rw [pow128]; omega) h
        have hv1 := hv1 (by omega)
        have he : encF (f + 1) (c % 128 + 128 * v) = c :: encF f v := by
          rw [encF_more f _ (by omega)]
          have e1 : (c % 128 + 128 * v) % 128 + 128 = c := by omega
          have e2 : (c % 128 + 128 * v) / 128 = v := by omega
          rw [e1, e2]
        have hval : u + (c % 128 + 128 * v) * 128 ^ k = u + c % 128 * 128 ^ k + v * 128 ^ (k + 1) := by
          rw [pow128, Int.add_mul, Int.add_assoc, show 128 * v * 128 ^ k = v * (128 ^ k * 128) by rw [Int.mul_comm 128 v, Int.mul_assoc, Int.mul_comm 128]]
        refine ⟨c % 128 + 128 * v, by omega, by omega, ?_, ?_, ?_, ?_, ?_⟩
        · rw [hval]; exact hn
        · rw [hval]; exact hbd
        · rw [he, hpp]; simp; omega
        · rw [he]; simp only [List.length_cons]; omega
        · intro j hj h2
          match j with
          | 0 => simp only [he, List.getElem_cons_zero]; exact hc.symm
          | j + 1 =>
            have hj' : j < (encF f v).length := by rw [he] at hj; simpa using hj
            have := hall j hj' (by omega)
            simp only [he, List.getElem_cons_succ]
            rw [← this]
            congr 2
            simp [Nat.add_assoc, Nat.add_comm 1 j]
    · rw [dif_neg hlt] at h; simp at h

/-- What is read as n stands there as n's bytes. -/
theorem scan_enc {s : ByteArray} {a : Nat} {n p : Int} (h : scan s a 10 0 0 = (n, p, 0)) :
    p = (a : Int) + (enc n).length ∧ a + (enc n).length ≤ s.size ∧ -9223372036854775808 ≤ n ∧ n ≤ 9223372036854775807 ∧ ∀ j (h : j < (enc n).length) (h2 : a + j < s.size), ((s[a + j]'h2).toNat : Int) = (enc n)[j] := by
  obtain ⟨v, hv0, _, hn, hbd, hpp, hsz, hall⟩ := scan_back s a n p 10 0 0 rfl (by omega) (by decide) h
  simp only [Int.pow_zero, Int.mul_one, Int.zero_add] at hn hbd
  have he : enc n = encF 10 v := by unfold enc; rw [hn, fold_unf v hv0]
  have hb := unf_bd v hv0 hbd
  rw [he, hn]
  refine ⟨by rw [hpp]; simp, by simpa using hsz, hb.1, hb.2, fun j hj h2 => ?_⟩
  exact hall j hj (by simpa using h2)
end Go.Proofs.YtkmehbgepkilkaaGreatDoor

/- PutNum of the program and of the model: both answer the bytes 'enc' of the number, in new memory. -/
namespace Go.Proofs.YtkmehbgepkilkaaGreatDoor.St2
open Go.RowKit

theorem Tryz.info5 : (Tryz.prog.info? 5).map (fun i => (i.zero, i.size, i.bytes)) = some (some (.int .u8 0), 1, 1) := by kernel_rfl

/-- What holds at the head of the loop: of the number's bytes the first are in the row, and those of u are left. -/
def Left (n : Int) (w0 w : World) (v : Value) (u : Int) (m : Nat) : Prop :=
  ∃ L, Own 5 w0.heap.size w0 w v L ∧ L.length + m ≤ 9 ∧ (∀ x ∈ L, 0 ≤ x ∧ x ≤ 255) ∧ enc n = L ++ encF (m + 1) u ∧ u < 128 ^ (m + 1)

theorem left_step {n : Int} {w0 w' : World} {v' : Value} {u : Int} {m : Nat} {L : List Int} (h0 : 128 ≤ u) (hown : Own 5 w0.heap.size w0 w' v' (L ++ [u % 128 + 128]))
    (hl : L.length + m ≤ 9) (hr : ∀ x ∈ L, 0 ≤ x ∧ x ≤ 255) (he : enc n = L ++ encF (m + 1) u) (hp : u < 128 ^ (m + 1)) : ∃ m', m = m' + 1 ∧ Left n w0 w' v' (u / 128) m' := by
  cases m with
  | zero => simp at hp; omega
  | succ m' =>
    refine ⟨m', rfl, L ++ [u % 128 + 128], hown, by simp; omega, ?_, ?_, ?_⟩
    · intro x hx
      simp at hx
      rcases hx with hx | rfl
      · exact hr x hx
      · omega
    · rw [he, encF_more _ _ h0]; simp
    · have e : (128 : Int) ^ (m' + 1 + 1) = 128 ^ (m' + 1) * 128 := Int.pow_succ ..
      rw [e] at hp
      exact Int.ediv_lt_of_lt_mul (by omega) hp

theorem left_end {n : Int} {w0 w' : World} {v' : Value} {u : Int} {m : Nat} {L : List Int} (hu : 0 ≤ u) (h0 : u < 128) (hown : Own 5 w0.heap.size w0 w' v' (L ++ [u]))
    (hr : ∀ x ∈ L, 0 ≤ x ∧ x ≤ 255) (he : enc n = L ++ encF (m + 1) u) :
    (convert 22 9 v').run Tryz.prog w' = .ok (.string (bytesOf (enc n))) w' ∧ Below w0.heap.size w0 w' := by
  rw [encF_last _ _ h0] at he
  rw [he]
  refine ⟨own_string hown ?_ (by simp) Tryz.underlying22 Tryz.underlying5 Tryz.underlying9, hown.2.1⟩
  intro x hx
  simp at hx
  rcases hx with hx | rfl
  · exact hr x hx
  · omega

set_option maxHeartbeats 1000000 in
theorem specPutNum_any (n : Int) (w : World) (h0 : -9223372036854775808 ≤ n) (h1 : n ≤ 9223372036854775807) :
    Calls Tryz.prog 76 #[.int .i64 n] w fun e w' => e = .returned (.string (bytesOf (enc n))) ∧ Below w.heap.size w w' := by
  have hb := fold_bd n h0 h1
  have HS : Hid (Left n w (w.alloc (.cells #[] 5)) (.slice (some ⟨w.heap.size, 0, none⟩) 0 0) (fold n) 9) :=
    ⟨[], own_empty 5 w, by simp, by simp, rfl, by have : (128 : Int) ^ (9 + 1) = 1180591620717411303424 := by decide
                                                  omega⟩
  go_enter Tryz.func76, Tryz.ntmps76
  go_wp2_with fail
  refine (specFold_any _ _ h0 h1).mono ?_
  rintro e w' ⟨rfl, rfl⟩
  go_wp2_with fail
  go_loopw [3, 4] (fun x v wr => ∃ u : Int, 0 ≤ u ∧ u ≤ 18446744073709551615 ∧ x = .int .u64 u ∧ ∃ m, Hid (Left n w' wr v u m)) (fun x _ _ => (intOf x).toNat)
  case atStart => exact ⟨_, hb.1, hb.2, rfl, 9, HS⟩
  case round =>
    obtain ⟨u, hu0, hu1, rfl, m, HL⟩ := hrel
    obtain ⟨L, hown, hl, hr, he, hp⟩ := HL.out
    have HR := hide hr
    have HE := hide he
    have HP := hide hp
    clear hr he hp HL
    by_cases hlt : 128 ≤ u
    · go_wp2_with (at_builtin; refine wpList_push rfl (.tmp 10) (.tmp 15) 22 rfl w'.heap.size 5 Tryz.underlying22 Tryz.info5 _ L _ rfl rfl hown (by omega) ?_)
      intro v2 w2 hown2
      obtain ⟨m', em, hL2⟩ := left_step hlt hown2 hl HR.out HE.out HP.out
      have HL2 := hide hL2
      clear hL2 em hown hown2 HE HP HR hl
      go_wp2
      go_roundw
      case rel => exact ⟨u / 128, by omega, by omega, rfl, m', HL2⟩
      case measure => simp [intOf]; omega
    · have hlt' : u < 128 := by omega
      go_wp2_with (at_builtin; refine wpList_push rfl (.tmp 19) (.tmp 22) 22 rfl w'.heap.size 5 Tryz.underlying22 Tryz.info5 _ L _ rfl rfl hown (by omega) ?_)
      intro v2 w2 hown2
      obtain ⟨hcv, hbl⟩ := left_end hu0 hlt' hown2 HR.out HE.out
      clear hown hown2 HE HP HR hl
      go_wp2
      go_ret
      exact ⟨rfl, hbl⟩

set_option maxHeartbeats 1000000 in
theorem implPutNum_any (n : Int) (w : World) (h0 : -9223372036854775808 ≤ n) (h1 : n ≤ 9223372036854775807) :
    Calls Tryz.prog 70 #[.int .i64 n] w fun e w' => e = .returned (.string (bytesOf (enc n))) ∧ Below w.heap.size w w' := by
  have hb := fold_bd n h0 h1
  have HS : Hid (Left n w w (.slice none 0 0) (fold n) 9) :=
    ⟨[], own_nil 5 w, by simp, by simp, rfl, by have : (128 : Int) ^ (9 + 1) = 1180591620717411303424 := by decide
                                                omega⟩
  go_enter Tryz.func70, Tryz.ntmps70
  go_wp2_with fail
  refine (implFold_any _ _ h0 h1).mono ?_
  rintro e w' ⟨rfl, rfl⟩
  go_wp2_with fail
  go_loopw [4, 3] (fun x v wr => ∃ u : Int, 0 ≤ u ∧ u ≤ 18446744073709551615 ∧ x = .int .u64 u ∧ ∃ m, Hid (Left n w' wr v u m)) (fun x _ _ => (intOf x).toNat)
  case atStart => exact ⟨_, hb.1, hb.2, rfl, 9, HS⟩
  case round =>
    obtain ⟨u, hu0, hu1, rfl, m, HL⟩ := hrel
    obtain ⟨L, hown, hl, hr, he, hp⟩ := HL.out
    have HR := hide hr
    have HE := hide he
    have HP := hide hp
    clear hr he hp HL
    have ha := and127 u hu0 hu1
    have hx := or128 (u % 128) (by omega) (by omega)
    by_cases hlt : 128 ≤ u
    · go_wp2_with (at_builtin; refine wpList_push rfl (.tmp 9) (.tmp 14) 22 rfl w'.heap.size 5 Tryz.underlying22 Tryz.info5 _ L _ rfl rfl hown (by omega) ?_)
      intro v2 w2 hown2
      obtain ⟨m', em, hL2⟩ := left_step hlt hown2 hl HR.out HE.out HP.out
      have HL2 := hide hL2
      clear hL2 em hown hown2 HE HP HR hl
      go_wp2
      go_roundw
      case rel => exact ⟨u / 128, by omega, by omega, rfl, m', HL2⟩
      case measure => simp [intOf]; omega
    · have hlt' : u < 128 := by omega
      go_wp2_with (at_builtin; refine wpList_push rfl (.tmp 18) (.tmp 21) 22 rfl w'.heap.size 5 Tryz.underlying22 Tryz.info5 _ L _ rfl rfl hown (by omega) ?_)
      intro v2 w2 hown2
      obtain ⟨hcv, hbl⟩ := left_end hu0 hlt' hown2 HR.out HE.out
      clear hown hown2 HE HP HR hl
      go_wp2
      go_ret
      exact ⟨rfl, hbl⟩
end Go.Proofs.YtkmehbgepkilkaaGreatDoor.St2

/- What is written as a number is read so; of bytes that end too early nothing is read: plain mathematics. -/
namespace Go.Proofs.YtkmehbgepkilkaaGreatDoor.St4
open Go.RowKit St2 St3
theorem pow9 : (128 : Int) ^ 9 = 9223372036854775808 := by decide
theorem top_small (u v : Int) (k : Nat) (hu : 0 ≤ u) (hk : k ≤ 9) (hv : 128 ≤ v) (hb : u + v * 128 ^ k ≤ 18446744073709551615) : k < 9 := by
  rcases Nat.lt_or_ge k 9 with h | h
  · exact h
  · obtain rfl : k = 9 := by omega
    rw [pow9] at hb
    omega
theorem scan_fwd (s : ByteArray) (a : Nat) : ∀ (f k : Nat) (u v : Int), k + (f + 1) = 10 → 0 ≤ u → 0 ≤ v → (0 < k → 1 ≤ v) → u + v * 128 ^ k ≤ 18446744073709551615 → a + k + (encF (f + 1) v).length ≤ s.size →
    (∀ j (h : j < (encF (f + 1) v).length) (h2 : a + k + j < s.size), ((s[a + k + j]'h2).toNat : Int) = (encF (f + 1) v)[j]) → scan s a (f + 1) k u = (unf (u + v * 128 ^ k), (a : Int) + k + (encF (f + 1) v).length, 0)
  | f, k, u, v, hk, hu, hv, hv1, hb, hsz, hall => by
    by_cases hl : v < 128
    · have he := encF_last f v hl
      rw [he] at hsz hall ⊢
      have hlt : a + k < s.size := by simp at hsz; omega
      have hc := hall 0 (by simp) hlt
      simp only [List.getElem_cons_zero, Nat.add_zero] at hc
      have h1 : ((s[a + k]'hlt).toNat : Int) < 128 ∨ k = 9 := .inl (by omega)
      have h2 : ¬ ((k = 9 ∧ 1 < ((s[a + k]'hlt).toNat : Int)) ∨ (0 < k ∧ ((s[a + k]'hlt).toNat : Int) = 0)) := by
        rintro (⟨rfl, h⟩ | ⟨h, h'⟩)
        · rw [pow9] at hb; omega
        · have := hv1 h; omega
      rw [scan_last s a f k u hlt h1 h2, hc]
      rfl
    · have hk9 := top_small u v k hu (by omega) (by omega) hb
      obtain ⟨f', rfl⟩ : ∃ f', f = f' + 1 := ⟨f - 1, by omega⟩
      have he := encF_more (f' + 1) v (by omega)
      rw [he] at hsz hall ⊢
      simp only [List.length_cons] at hsz
      have hlt : a + k < s.size := by omega
      have hc := hall 0 (by simp) hlt
      simp only [List.getElem_cons_zero, Nat.add_zero] at hc
      have hp := pow128_pos k
      have hm : 0 ≤ v % 128 * 128 ^ k := Int.mul_nonneg (by omega) (Int.le_of_lt hp)
      have hval : u + v % 128 * 128 ^ k + v / 128 * 128 ^ (k + 1) = u + v * 128 ^ k := by
        rw [pow128, Int.add_assoc, ← Int.mul_assoc (v / 128), Int.mul_right_comm (v / 128), ← Int.add_mul, show v % 128 + v / 128 * 128 = v by omega]
      rw [scan_more s a (f' + 1) k u hlt (by omega) hk9, show (((s[a + k]'hlt).toNat : Int) % 128) = v % 128 by omega]
      rw [scan_fwd s a f' (k + 1) (u + v % 128 * 128 ^ k) (v / 128) (by omega) (by omega) (by omega) (by omega) (by rw [hval]; exact hb) (by omega) (fun j h h2 => ?_), hval]
      · simp only [List.length_cons, Prod.mk.injEq, and_true, true_and]
        omega
      · have h3 := hall (j + 1) (by simpa using h) (by omega)
        simp only [List.getElem_cons_succ] at h3
        rw [← h3]
        congr 2
        simp [Nat.add_assoc, Nat.add_comm 1 j]
theorem unf_fold (n : Int) : unf (fold n) = n := by
  unfold unf fold
  split <;> split <;> omega
theorem bytesOf_at (L : List Int) (j : Nat) (h : j < L.length) (hr : ∀ x ∈ L, 0 ≤ x ∧ x ≤ 255) : (((bytesOf L).data.toList[j]'(by simpa [bytesOf] using h)).toNat : Int) = L[j] := by
  have := hr L[j] (List.getElem_mem h)
  simp [bytesOf]
  omega
/-- A number's bytes between two texts are read as it, with the place behind it. -/
theorem scan_in (A Z : List UInt8) (n : Int) (h0 : -9223372036854775808 ≤ n) (h1 : n ≤ 9223372036854775807) :
    scan ⟨(A ++ (bytesOf (enc n)).data.toList ++ Z).toArray⟩ A.length 10 0 0 = (n, (A.length : Int) + (enc n).length, 0) := by
  have hf := fold_bd n h0 h1
  have hr : ∀ x ∈ enc n, 0 ≤ x ∧ x ≤ 255 := encF_rng 10 _ hf.1
  have hbl : (bytesOf (enc n)).data.toList.length = (enc n).length := by simp [bytesOf]
  have h := scan_fwd ⟨(A ++ (bytesOf (enc n)).data.toList ++ Z).toArray⟩ A.length 9 0 0 (fold n) rfl (by omega) hf.1 (by omega) (by simpa using hf.2) (by
    show A.length + 0 + (enc n).length ≤ _
    simp [ByteArray.size, bytesOf] <;> omega) (fun j hj h2 => by
      have hj' : j < (enc n).length := hj
      refine Eq.trans ?_ (bytesOf_at (enc n) j hj' hr)
      congr 1
      simp only [ByteArray.getElem_eq_getElem_data, List.getElem_toArray, Nat.add_zero]
      rw [List.getElem_append_left (by rw [List.length_append, hbl]; omega), List.getElem_append_right (by omega)]
      simp)
  rw [show (9 + 1 : Nat) = 10 from rfl] at h
  rw [h]
  simp only [Int.pow_zero, Int.mul_one, Int.zero_add, unf_fold]
  simp [enc]
end Go.Proofs.YtkmehbgepkilkaaGreatDoor.St4
