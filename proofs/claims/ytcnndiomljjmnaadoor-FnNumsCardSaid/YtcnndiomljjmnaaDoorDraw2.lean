/- Draws: texts, numbers at limits, the source itself. -/
import Derived.Test.YtcnndiomljjmnaaDoorDraw
import Derived.Test.YtcnndiomljjmnaaDoorIClone
import Derived.Laws.IdiomStrings
import Derived.Laws.BytesString
namespace Go.Proofs.YtcnndiomljjmnaaDoor
open Go.RowKit

theorem ownsRow_kept {S : List Nat} {B sz n : Nat} {e : TypeId} {w w' : World} {v : Value} {xs : List Value} (h : w.ownsRow B e sz v n xs) (hk : Kept S w w') (hS : ∀ x ∈ S, x < B) : w'.ownsRow B e sz v n xs := by
  obtain ⟨h0, h1 | ⟨g, cap, cur, hv, hB, hh, hr⟩⟩ := h
  · exact ⟨h0, .inl h1⟩
  · have hlt : g < w.heap.size := (Array.getElem?_eq_some_iff.1 hh).1
    exact ⟨h0, .inr ⟨g, cap, cur, hv, hB, by rw [hk.block g hlt (fun hm => absurd (hS g hm) (by omega))]; exact hh, hr⟩⟩
theorem Kept.grown {S : List Nat} {w0 w w' : World} {row : Option Nat} (h : Kept S w0 w) (hg : w.grownBy w' row) (hr : ∀ k, row = some k → w0.heap.size ≤ k) : Kept S w0 w' :=
  ⟨hg.os.trans h.os, hg.tape.trans h.tape, hg.output.trans h.output, Nat.le_trans h.size hg.size, fun k hk hn => (hg.block k (Nat.lt_of_lt_of_le hk h.size) (fun e => absurd (hr k e.symm) (by omega))).trans (h.block k hk hn)⟩
def bytesOf (L : List Int) : ByteArray := ⟨(L.map fun x => UInt8.ofNat x.toNat).toArray⟩
theorem bytesOf_size (L : List Int) : (bytesOf L).size = L.length := by unfold bytesOf; rw [ByteArray.size]; simp
theorem own_string {P : Program} {e t T B : Nat} {w : World} {v : Value} {L : List Int} (h : w.ownsRow B e 1 v L.length (L.map (Value.int .u8))) (hr : ∀ x ∈ L, 0 ≤ x ∧ x ≤ 255) (hne : v ≠ .slice none 0 0)
    (ht : P.underlying t = some (.slice e)) (he : P.underlying e = some (.int .u8)) (hT : P.underlying T = some .string) :
    (convert t T v).run P w = .ok (.string (bytesOf L)) w := by
  obtain ⟨h0, hv⟩ := h
  rcases hv with ⟨rfl, hn⟩ | ⟨g, cap, cur, rfl, _, hh, hnc, _, hcs, htk⟩
  · exact absurd rfl hne
  · have := run_convert_bytes_back (P := P) w t T e ⟨g, 0, none⟩ cap (L.map fun x => UInt8.ofNat x.toNat) ht he hT (fun j hj => by
      have hjL : j < L.length := by simpa using hj
      rw [Addr.add_lit, Nat.zero_add, cell_of_row w g j _ e (0, 0) hh]
      have e1 : cur[j]? = (cur.toList.take (L.length * 1))[j]? := by
        rw [List.getElem?_take_of_lt (by omega)]; simp
      rw [e1, htk, List.getElem?_map, List.getElem?_eq_getElem hjL]
      have hb := hr L[j] (List.getElem_mem hjL)
      simp
      omega)
    rw [List.length_map] at this
    exact this

set_option maxHeartbeats 4000000 in
theorem bytes_any (v : Value) (bs : List Int) (g : Nat) (n : Int) (w : World) (h : Src v bs g w) (hn : n ≤ 100000) (hl : bs.length ≤ 1048576) :
    Calls Tryd.prog 21 #[.pointer (some ⟨g, 0, none⟩), .int .i64 n] w fun e w' => (∃ t : ByteArray, e = .returned (.string t) ∧ t.size ≤ 100000 ∧ (t.size : Int) ≤ max n 0) ∧ Src v bs g w' ∧ Kept [g] w w' := by
  obtain ⟨i0, hi, hz0, hz1, hz2⟩ := info_parts Tryd.infoByte
  have HS := hide (h.below (below_new w (.cells #[] 5)))
  have HL := hide h.leads
  have HG := hide h.lt
  have HGN := hide (show g ∉ leads v by obtain ⟨_, _, _, _, _, _, h⟩ := h; exact h)
  have HO := hide (World.ownsRow_made (e := 5) (base := w.heap.size) (size := 1) w #[] 0 (Nat.le_refl _) (by unfold maxLen; omega) rfl)
  clear h
  go_enter Tryd.func21, Tryd.ntmps21
  go_wp2_with fail
  go_loopw [5, 6] (fun u i wr => ∃ (k : Nat) (L : List Int), i = .int .i64 k ∧ (k = 0 ∨ (k : Int) ≤ n) ∧ L.length = k ∧ Hid (∀ x ∈ L, 0 ≤ x ∧ x ≤ 255) ∧ Hid (wr.ownsRow w.heap.size 5 1 u L.length (L.map (Value.int .u8))) ∧ Hid (u ≠ .slice none 0 0) ∧ Hid (Src v bs g wr) ∧ Hid (Kept [g] w wr)) (fun _ i _ => n.toNat - (intOf i).toNat)
  case atStart => exact ⟨0, [], rfl, .inl rfl, rfl, by simp [Hid], HO, hide (by simp), HS, (Kept.refl _ _).alloc _⟩
  case round =>
    obtain ⟨k, L, rfl, hk, hLl, HR, HOw, HN, HSr, HK⟩ := hrel
    by_cases hlt : (k : Int) < n
    · go_wp2_with fail
      refine (n_any v bs g 256 _ HSr.out (by omega) hl).mono ?_
      rintro e w1 ⟨⟨r, rfl, hr0, hr1⟩, hs1, hk1⟩
      have hr2 : r < 256 := by omega
      have HS1 := hide (hs1.below (below_new w1 (.cells #[.int .u8 r] 5)))
      have HO1 := hide ((ownsRow_kept HOw.out hk1 (fun x hx => by have := HG.out; rw [List.mem_singleton.1 hx]; exact this)).alloc (.cells #[.int .u8 r] 5))
      have HK1 := hide ((HK.out.trans hk1).alloc (.cells #[.int .u8 r] 5))
      have hsz := HK1.out.size
      have HX := hide (row_new w1 [.int .u8 r] 5)
      clear hr1 hs1 hk1 HOw HSr HK
      go_wp2_with (at_builtin; refine wpList_append_own _ rfl _ _ 22 rfl w.heap.size 5 i0 (.int .u8 0) 1 1 Tryd.underlying22 hi hz0 hz1 hz2 rfl (by decide) _ L.length (L.map (Value.int .u8)) rfl HO1.out ⟨w1.heap.size, 0, none⟩ 1 1 [.int .u8 r] rfl rfl ?_ ?_ ?_ ?_ hsz ?_)
      · intro j u hj
        rw [Addr.add_lit, Nat.zero_add, HX.out.cell j]; exact hj
      · intro u hu; simp at hu; subst hu; rfl
      · unfold maxLen; omega
      · omega
      · intro v' w' hown' hgrow hnn
        have HR2 := hide (show ∀ x ∈ L ++ [r], 0 ≤ x ∧ x ≤ 255 from fun x hx => by
          rcases List.mem_append.1 hx with h' | h'
          · exact HR.out x h'
          · rw [List.mem_singleton.1 h']; omega)
        have HO2 := hide (show w'.ownsRow w.heap.size 5 1 v' (L ++ [r]).length ((L ++ [r]).map (Value.int .u8)) by rw [List.length_append, List.length_singleton, hLl, List.map_append]; exact hown')
        have HN2 := hide (show v' ≠ .slice none 0 0 from fun e => by first | exact hnn e | exact HN.out (hnn.1 e).1)
        have hown := HO1.out.lt
        have HK2 := hide (HK1.out.grown hgrow (fun k hk => (hown k hk).1))
        have HS2 := hide (HS1.out.kept (S := (_ : Value).ownBlock.toList) ⟨hgrow.os, hgrow.tape, hgrow.output, hgrow.size, fun k hk hn => hgrow.block k hk (fun e => hn (by rw [← e]; simp))⟩
          (fun hm => by
            have := hown g (by simpa using hm)
            have := HG.out; omega)
          (fun x hx hm => by
            have := hown x (by simpa using hm)
            have := HL.out x hx; omega))
        clear hown' hgrow hnn hown HO1 HS1 HK1 HX hsz
        go_wp2
        go_roundw
        case rel => exact ⟨k + 1, L ++ [r], by go_num, .inr (by omega), by simp [hLl], HR2, HO2, HN2, HS2, HK2⟩
        case measure => simp [intOf]; omega
    · have hcv := own_string (T := 9) HOw.out HR.out HN.out Tryd.underlying22 Tryd.underlying5 Tryd.underlying9
      go_wp2
      go_ret
      exact ⟨⟨_, rfl, by rw [bytesOf_size]; omega, by rw [bytesOf_size]; omega⟩, HSr.out, HK.out⟩
end Go.Proofs.YtcnndiomljjmnaaDoor
