/- The model's PlainOf. -/
import Derived.Test.YtckcfjibiidafaaGreatXG8FCut
import Derived.Test.YtckcfjibiidafaaGreatXG3FText
import Derived.Test.YtckcfjibiidafaaGreatXG1FIdx
import Derived.Laws.Runes
import Derived.Deep.RegionHeld3
namespace Go.Proofs.YtckcfjibiidafaaGreat
open Go.RowKit

/-- What PlainOf answers: the text and the code. -/
def plainText (m t : ByteArray) : ByteArray :=
  if 8000 < m.size ∨ 8000 < t.size then ⟨#[]⟩ else if marksB m = false then ⟨#[]⟩ else
  match plainL m t.data.toList with
  | some u => if u.length ≤ 400 then ⟨u.toArray⟩ else ⟨#[]⟩
  | none => ⟨#[]⟩
def plainCode (m t : ByteArray) : Int :=
  if 8000 < m.size ∨ 8000 < t.size then 2 else if marksB m = false then 1 else
  match plainL m t.data.toList with
  | some u => if u.length ≤ 400 then 0 else 3
  | none => 3
def plainV (m t : ByteArray) : Value := .agg #[.string (plainText m t), .int .i64 0, .int .i64 (plainCode m t)]
theorem plainV_size {m t : ByteArray} (h : 8000 < m.size ∨ 8000 < t.size) : plainV m t = .agg #[.string ⟨#[]⟩, .int .i64 0, .int .i64 2] := by simp [plainV, plainText, plainCode, h]
theorem plainV_form {m t : ByteArray} (h : ¬ (8000 < m.size ∨ 8000 < t.size)) (h2 : marksB m = false) : plainV m t = .agg #[.string ⟨#[]⟩, .int .i64 0, .int .i64 1] := by simp [plainV, plainText, plainCode, h, h2]
theorem plainV_yes {m t : ByteArray} {u : List UInt8} (h : ¬ (8000 < m.size ∨ 8000 < t.size)) (h2 : marksB m = true) (h3 : plainL m t.data.toList = some u) (h4 : u.length ≤ 400) : plainV m t = .agg #[.string ⟨u.toArray⟩, .int .i64 0, .int .i64 0] := by
  simp [plainV, plainText, plainCode, h, h2, h3, h4]
theorem plainV_long {m t : ByteArray} {u : List UInt8} (h : ¬ (8000 < m.size ∨ 8000 < t.size)) (h2 : marksB m = true) (h3 : plainL m t.data.toList = some u) (h4 : ¬ u.length ≤ 400) : plainV m t = .agg #[.string ⟨#[]⟩, .int .i64 0, .int .i64 3] := by
  simp only [plainV, plainText, plainCode, h, h2, h3, h4]
  simp
theorem plainV_none {m t : ByteArray} (h : ¬ (8000 < m.size ∨ 8000 < t.size)) (h2 : marksB m = true) (h3 : plainL m t.data.toList = none) : plainV m t = .agg #[.string ⟨#[]⟩, .int .i64 0, .int .i64 3] := by
  simp [plainV, plainText, plainCode, h, h2, h3]
theorem plainB_iff (u : List UInt8) : plainB ⟨u.toArray⟩ = true ↔ ∀ c ∈ u, plainR (c.toNat : Int) = true := by
  constructor
  · intro h c hc
    obtain ⟨j, hj, rfl⟩ := List.getElem_of_mem hc
    have hj' : j < (⟨u.toArray⟩ : ByteArray).size := by simpa [ByteArray.size] using hj
    have := List.all_eq_true.1 h j (List.mem_range.2 hj')
    rw [plainAt_eq _ j hj'] at this
    have e : (⟨u.toArray⟩ : ByteArray)[j]'hj' = u[j] := by rw [ByteArray.getElem_eq_getElem_data]; simp
    rw [e] at this
    exact this
  · intro h
    refine plainB_yes _ (fun j hj => ?_)
    have hj' : j < u.length := by simpa [ByteArray.size] using hj
    rw [plainAt_eq _ j hj]
    have e : (⟨u.toArray⟩ : ByteArray)[j]'hj = u[j] := by rw [ByteArray.getElem_eq_getElem_data]; simp
    rw [e]
    exact h _ (List.getElem_mem hj')

theorem no_of {m t : ByteArray} (hq : marksB m = true) (h1 : ¬ (8000 < m.size ∨ 8000 < t.size)) (h : ¬ ((∀ c ∈ unescL m t.data.toList, plainR (c.toNat : Int) = true) ∧ (unescL m t.data.toList).length ≤ 400 ∧ escL m (unescL m t.data.toList) = t.data.toList)) :
    plainV m t = .agg #[.string ⟨#[]⟩, .int .i64 0, .int .i64 3] := by
  cases hp : plainL m t.data.toList with
  | none => exact plainV_none h1 hq hp
  | some u =>
    obtain ⟨e1, e2, e3⟩ := (plain_iff hq _ _).1 hp
    refine plainV_long h1 hq hp (fun hl => h ?_)
    rw [e1]
    exact ⟨e2, hl, e3⟩

end Go.Proofs.YtckcfjibiidafaaGreat
/- strings.IndexRune at a rune of 128 or more, in a text of five bytes below 128: it ends, and nothing but new memory is made. -/
namespace Go.Proofs.YtckcfjibiidafaaGreat
open Go.RowKit

theorem valid_parts (r : Int) : (0 ≤ r ∧ r < 55296) ∨ (55296 ≤ r ∧ r ≤ 57343) ∨ (57343 < r ∧ r ≤ 1114111) ∨ 1114111 < r ∨ r < 0 := by omega
def validR (r : Int) : Bool := decide (0 ≤ r ∧ r < 55296) || decide (57343 < r ∧ r ≤ 1114111)
set_option maxHeartbeats 1000000 in
theorem validRune_any (r : Int) (w : World) :
    Calls Tryz.prog 60 #[.int .i32 r] w fun e w' => e = .returned (.bool (validR r)) ∧ w' = w := by
  rcases valid_parts r with ⟨h, h'⟩ | ⟨h, h'⟩ | ⟨h, h'⟩ | h | h
  all_goals
    go_enter Tryz.func60, Tryz.ntmps60
    go_wp2
    go_ret
    refine ⟨ret_boolF ?_, rfl⟩
    rw [Bool.eq_iff_iff]
    simp [validR] <;> omega
theorem valid_of (r : Int) (h : validR r = true) : Utf8.valid r = true := by
  simp [validR] at h
  simp [Utf8.valid]
  omega
theorem indexByte_high (t : ByteArray) (c : UInt8) (h : ∀ b ∈ t.data.toList, b.toNat < 128) (hc : 128 ≤ c.toNat) : Lib.indexByte t.data.toList c = -1 := by
  refine indexByte_no _ _ (fun j hj e => ?_)
  have := h _ (List.getElem_mem hj)
  rw [e] at this
  omega

def runeAt (k : Nat) (s : ByteArray) (w w' : World) : Prop := ∃ p, w' = w.iter s p ∧ k = k
set_option maxHeartbeats 4000000 in
set_option maxRecDepth 100000 in
theorem indexRune_high (m : ByteArray) (r : Int) (w : World) (hm : m.size = 5) (hlow : ∀ b ∈ m.data.toList, b.toNat < 128) (h0 : 128 ≤ r) :
    Calls Tryz.prog 45 #[.string m, .int .i32 r] w fun e w' => (∃ i, e = .returned (.int .i64 i)) ∧ Below w.heap.size w w' := by
  have hn : ¬ r < 128 := by omega
  by_cases he : r = 65533
  · subst he
    go_enter Tryz.func45, Tryz.ntmps45
    go_wp2
    go_loopw [] (fun w' => ∃ k : Nat, k ≤ m.size ∧ w' = w.iter m k) (fun w' => m.size - w'.iterPos w.heap.size)
    case atStart => exact ⟨0, Nat.zero_le _, rfl⟩
    case round =>
      obtain ⟨k, hk, rfl⟩ := hrel
      by_cases hlt : k < m.size
      · have hasc : (m[k]'hlt).toNat < 128 := hlow _ (by rw [← data_get m k hlt]; exact List.getElem_mem _)
        have hnx : ∀ ty, (Instr.next (.pointer (some ⟨w.heap.size, 0, none⟩)) true ty).run Tryz.prog (w.iter m k) = _ := fun ty => run_next_ascii w m k ty hlt hasc
        have hne : (((m[k]'hlt).toNat : Int) == 65533) = false := by simp; omega
        go_wp2
        go_roundw
        case rel => exact ⟨k + 1, by omega, rfl⟩
        case measure => simp; omega
      · have hnx : ∀ ty, (Instr.next (.pointer (some ⟨w.heap.size, 0, none⟩)) true ty).run Tryz.prog (w.iter m k) = _ := fun ty => run_next_end w m k ty hlt
        go_wp2
        go_ret
        exact ⟨⟨_, rfl⟩, below_iter _ _ _⟩
  have he' : (r == 65533) = false := by simpa using he
  clear he
  cases hv : validR r
  · go_enter Tryz.func45, Tryz.ntmps45
    go_wp2_with fail
    refine (validRune_any _ _).mono ?_
    rintro e w' ⟨rfl, rfl⟩
    rw [hv]
    go_wp2
    go_ret
    exact ⟨⟨_, rfl⟩, Below.refl _ _⟩
  · obtain ⟨f1, f2, f3⟩ := encode_facts r (valid_of r hv) h0
    generalize hE : Utf8.encode r = E at f1 f2 f3
    obtain ⟨n, hn2⟩ : ∃ n, E.size = n + 1 := ⟨E.size - 1, by omega⟩
    have hl : n < E.size := by omega
    have hl5 : n < m.size := by omega
    have f4 : 128 ≤ (E[n]'hl).toNat := by
      have := f3 (by omega)
      simp only [hn2, Nat.add_sub_cancel] at this
      exact this
    have f5 : (m[n]'hl5).toNat < 128 := hlow _ (by rw [← data_get m n hl5]; exact List.getElem_mem _)
    have f6 : (((m[n]'hl5).toNat : Int) != ((E[n]'hl).toNat : Int)) = true := by simp; omega
    have f7 := indexByte_high (m.extract (n + 1) m.size) (E[n]'hl) (fun b hb => hlow b (mem_extract hb)) f4
    clear f3
    go_enter Tryz.func45, Tryz.ntmps45
    go_wp2_with fail
    refine (validRune_any _ _).mono ?_
    rintro e w' ⟨rfl, rfl⟩
    rw [hv]
    go_wp2_with fail
    refine wp_scope_straight ?_
    have HF7 := hideF f7
    have HN := hideF hn2
    have i1 : (n : Int) < (m.size : Int) := by omega
    have i2 : IntKind.i64.wrap ((n : Int) + 1) = (n : Int) + 1 := wrap_small _ (by omega) (by omega)
    have hsz : (((n + 1 : Nat) : Int) - 1) = (n : Int) := by omega
    have i3 : IntKind.i64.wrap ((E.size : Int) - 1) = (n : Int) := by rw [hn2, hsz]; exact wrap_small _ (by omega) (by omega)
    clear f7 hn2 hv
    go_wp2_with fail
    refine wp_loop_rounds 1 ?_
    rw [rounds_succ]
    go_wp2_with fail
    refine wp_scope_straight ?_
    go_wp2_with fail
    go_region
    go_wp2_with fail
    have t1 : ((n : Int) + 1).toNat = n + 1 := by omega
    have t2 : (0 : Int) ≤ (n : Int) + 1 := by omega
    have t3 : (n : Int) + 1 ≤ (m.size : Int) := by omega
    have t4 : n + 1 ≤ m.size := by omega
    have t5 : (n : Int) + 1 ≤ 5 := by omega
    have t6 : n + 1 ≤ 5 := by omega
    rw [hm] at HF7
    go_region_held3 (fun _ => True) (trivial) ((go_at_call 59; refine (indexByte_any _ _ _).mono ?_; rintro e w3 ⟨rfl, rfl⟩; rw [u8_back, HF7.out]))
    all_goals
      go_wp2
      simp only [Exit.noGoto, Exit.inBlock, Exit.then]
      go_ret
      exact ⟨⟨_, rfl⟩, by (repeat (first | with_reducible exact Below.refl _ _ | with_reducible refine Below.drew ?_))⟩
end Go.Proofs.YtckcfjibiidafaaGreat
