/- Draws: texts, numbers at limits, the source itself. -/
import Derived.Test.YthlonjfjlkoojaaDoorDraw
import Derived.Test.YthlonjfjlkoojaaDoorIClone
import Derived.Laws.IdiomStrings
import Derived.Laws.BytesString
namespace Go.Proofs.YthlonjfjlkoojaaDoor
open Go.RowKit

theorem ownsRow_kept {S : List Nat} {B sz n : Nat} {e : TypeId} {w w' : World} {v : Value} {xs : List Value} (h : w.ownsRow B e sz v n xs) (hk : Kept S w w') (hS : ∀ x ∈ S, x < B) : w'.ownsRow B e sz v n xs := by
  obtain ⟨h0, h1 | ⟨g, cap, cur, hv, hB, hh, hr⟩⟩ := h
  · exact ⟨h0, .inl h1⟩
  · have hlt : g < w.heap.size := (Array.getElem?_eq_some_iff.1 hh).1
    exact ⟨h0, .inr ⟨g, cap, cur, hv, hB, by rw [hk.block g hlt (fun hm => absurd (hS g hm) (by omega))]; exact hh, hr⟩⟩
theorem Kept.grown {S : List Nat} {w0 w w' : World} {row : Option Nat} (h : Kept S w0 w) (hg : w.grownBy w' row) (hr : ∀ k, row = some k → w0.heap.size ≤ k) : Kept S w0 w' :=
  ⟨hg.os.trans h.os, hg.tape.trans h.tape, hg.output.trans h.output, Nat.le_trans h.size hg.size, fun k hk hn => (hg.block k (Nat.lt_of_lt_of_le hk h.size) (fun e => absurd (hr k e.symm) (by omega))).trans (h.block k hk hn)⟩
def bytesOf (L : List Int) : ByteArray := ⟨(L.map fun x => UInt8.ofNat x.toNat).toArray⟩
theorem bytesOf_size (L : List Int) : (bytesOf L).size = L.length := by unfold bytesOf; rw [ByteArray.size]; simp
theorem own_string {P : Program} {e t T B : Nat} {w : World} {v : Value} {L : List Int} (h : w.ownsRow B e 1 v L.length (L.map (Value.int .u8))) (hr : ∀ x ∈ L, 0 ≤ x ∧ x ≤ 255) (hne : v ≠ .slice none 0 0)
    (ht : P.underlying t = some (.slice e)) (he : P.underlying e = some (.int .u8)) (hT : P.underlying T = some .string) :
    (convert t T v).run P w = .ok (.string (bytesOf L)) w := by
  obtain ⟨h0, hv⟩ := h
  rcases hv with ⟨rfl, hn⟩ | ⟨g, cap, cur, rfl, _, hh, hnc, _, hcs, htk⟩
  · exact absurd rfl hne
  · have := run_convert_bytes_back (P := P) w t T e ⟨g, 0, none⟩ cap (L.map fun x => UInt8.ofNat x.toNat) ht he hT (fun j hj => by
      have hjL : j < L.length := by simpa using hj
      rw [Addr.add_lit, Nat.zero_add, cell_of_row w g j _ e (0, 0) hh]
      have e1 : cur[j]? = (cur.toList.take (L.length * 1))[j]? := by
        rw [List.getElem?_take_of_lt (by omega)]; simp
      rw [e1, htk, List.getElem?_map, List.getElem?_eq_getElem hjL]
      have hb := hr L[j] (List.getElem_mem hjL)
      simp
      omega)
    rw [List.length_map] at this
    exact this

end Go.Proofs.YthlonjfjlkoojaaDoor
