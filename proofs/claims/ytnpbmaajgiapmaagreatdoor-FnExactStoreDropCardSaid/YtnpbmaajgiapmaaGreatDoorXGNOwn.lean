/- A row of bytes that the call itself makes by append: what is owned behind each append, and the text that it is made into. Nothing here speaks of one program. -/
import Derived.WalkKit
import Derived.OpenShut
import Derived.Laws.IdiomStrings
import Derived.Laws.BytesString
namespace Go.Proofs.YtnpbmaajgiapmaaGreatDoor.St2
open Go.RowKit
theorem hide {p : Prop} (h : p) : Hid p := h

/-- The slice v owns the bytes L in the world w, in blocks from B on; below B all is as in w0. -/
def Own (e : TypeId) (B : Nat) (w0 w : World) (v : Value) (L : List Int) : Prop :=
  w.ownsRow B e 1 v L.length (L.map (Value.int .u8)) ∧ Below B w0 w ∧ B ≤ w.heap.size

theorem own_nil (e : TypeId) (w : World) : Own e w.heap.size w w (.slice none 0 0) [] :=
  ⟨World.ownsRow_nil w _ _ _, Below.refl _ _, Nat.le_refl _⟩
theorem own_empty (e : TypeId) (w : World) : Own e w.heap.size w (w.alloc (.cells #[] e)) (.slice (some ⟨w.heap.size, 0, none⟩) 0 0) [] :=
  ⟨World.ownsRow_made w #[] 0 (Nat.le_refl _) (by unfold maxLen; omega) rfl, (Below.refl _ _).alloc (Nat.le_refl _) _, by simp⟩

/-- 'append(b, c)' of one byte: the byte lies in a block of its own first. -/
theorem wpList_push {P : Program} {w w0 : World} {ops : Array Oper} {rest : List Oper} {o : Oper} {a : Act} {Q : Exit → Act → World → Prop} (hgd : o.guard = none) (s x : Operand) (t : TypeId)
    (ho : o.op = .call { callee := .builtin .append, args := #[s, x], argTypes := #[t, t] })
    (B : Nat) (e : TypeId) (ht : P.underlying t = some (.slice e)) (hi : (P.info? e).map (fun i => (i.zero, i.size, i.bytes)) = some (some (.int .u8 0), 1, 1))
    (v : Value) (L : List Int) (c : Int) (hs : a.eval s = v) (hx : a.eval x = .slice (some ⟨w.heap.size, 0, none⟩) 1 1) (hown : Own e B w0 w v L) (hlen : L.length ≤ 1000000)
    (h : ∀ v' w', Own e B w0 w' v' (L ++ [c]) → wpList P ops Q rest (a.put o.dst v') w') : wpList P ops Q (o :: rest) a (w.alloc (.cells #[.int .u8 c] e)) := by
  obtain ⟨i0, hi0, hz0, hz1, hz2⟩ := info_parts hi
  obtain ⟨h1, h2, h3⟩ := hown
  refine wpList_append_own (w.alloc (.cells #[.int .u8 c] e)) hgd s x t ho B e i0 (.int .u8 0) 1 1 ht hi0 hz0 hz1 hz2 rfl (by decide) v L.length (L.map (Value.int .u8)) hs (h1.alloc _) ⟨w.heap.size, 0, none⟩ 1 1 [.int .u8 c] hx rfl ?_ ?_ ?_ ?_ ?_ ?_
  · intro j u hj
    match j, hj with
    | 0, hj =>
      simp at hj
      subst hj
      have ea : (⟨w.heap.size, 0, none⟩ : Addr).add 0 = ⟨w.heap.size, 0, none⟩ := by simp [Addr.add]
      rw [ea, cell_of_row _ w.heap.size 0 _ e (0, 0) (heap_alloc_new w _)]
      rfl
  · intro u hu
    simp at hu
    subst hu
    rfl
  · unfold maxLen; omega
  · omega
  · simp; omega
  · intro v' w' hown' hgrow _
    refine h v' w' ⟨?_, ?_, ?_⟩
    · simpa using hown'
    · exact (h2.alloc h3 _).grown hgrow (by simp; omega) (fun k hk => (h1.lt k hk).1)
    · have := hgrow.size
      simp at this
      omega

def bytesOf (L : List Int) : ByteArray := ⟨(L.map fun x => UInt8.ofNat x.toNat).toArray⟩

theorem own_string {P : Program} {e t T B : Nat} {w0 w : World} {v : Value} {L : List Int} (h : Own e B w0 w v L) (hr : ∀ x ∈ L, 0 ≤ x ∧ x ≤ 255) (hne : L ≠ [])
    (ht : P.underlying t = some (.slice e)) (he : P.underlying e = some (.int .u8)) (hT : P.underlying T = some .string) :
    (convert t T v).run P w = .ok (.string (bytesOf L)) w := by
  obtain ⟨⟨h0, hv⟩, _, _⟩ := h
  rcases hv with ⟨rfl, hn⟩ | ⟨g, cap, cur, rfl, _, hh, hnc, _, hcs, htk⟩
  · exact absurd (List.eq_nil_of_length_eq_zero hn) hne
  · have := run_convert_bytes_back (P := P) w t T e ⟨g, 0, none⟩ cap (L.map fun x => UInt8.ofNat x.toNat) ht he hT (fun j hj => by
      have hjL : j < L.length := by simpa using hj
      have ea : (⟨g, 0, none⟩ : Addr).add j = ⟨g, j, none⟩ := by unfold Addr.add; split <;> simp_all
      rw [ea, cell_of_row w g j _ e (0, 0) hh]
      have e1 : cur[j]? = (cur.toList.take (L.length * 1))[j]? := by
        rw [List.getElem?_take_of_lt (by omega)]; simp
      rw [e1, htk, List.getElem?_map, List.getElem?_eq_getElem hjL]
      have hb := hr L[j] (List.getElem_mem hjL)
      simp
      omega)
    rw [List.length_map] at this
    exact this
end Go.Proofs.YtnpbmaajgiapmaaGreatDoor.St2
