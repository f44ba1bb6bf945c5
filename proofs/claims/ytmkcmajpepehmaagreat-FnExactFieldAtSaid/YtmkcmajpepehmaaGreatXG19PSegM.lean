/- The place of the nth Segment of a name, and what stands at a place of a Message: lists alone. -/
import Derived.Test.YtmkcmajpepehmaaGreatXG18FMsgR
import Derived.BigQuiet
import Derived.OrdersHeld
namespace Go.Proofs.YtmkcmajpepehmaaGreat
open Go.RowKit

/-- The number of the nth Segment of that name, counted from k on; -1, if there is none. -/
def segIx : List Seg → ByteArray → Int → Nat → Int
  | [], _, _, _ => -1
  | s :: r, g, n, k => if s.1 = g then (if n - 1 = 0 then (k : Int) else segIx r g (n - 1) (k + 1)) else segIx r g n (k + 1)
theorem segIx_end {x : List Seg} {k : Nat} (h : x.length ≤ k) (g : ByteArray) (n : Int) : segIx (x.drop k) g n k = -1 := by
  rw [List.drop_eq_nil_of_le h]; rfl
theorem segIx_no {x : List Seg} {k : Nat} (h : k < x.length) {g : ByteArray} (n : Int) (hne : (x[k]'h).1 ≠ g) : segIx (x.drop k) g n k = segIx (x.drop (k + 1)) g n (k + 1) := by
  rw [List.drop_eq_getElem_cons h]; simp [segIx, hne]
theorem segIx_it {x : List Seg} {k : Nat} (h : k < x.length) {g : ByteArray} (n : Int) (he : (x[k]'h).1 = g) (hn : n - 1 = 0) : segIx (x.drop k) g n k = k := by
  rw [List.drop_eq_getElem_cons h]; simp [segIx, he, hn]
theorem segIx_on {x : List Seg} {k : Nat} (h : k < x.length) {g : ByteArray} (n : Int) (he : (x[k]'h).1 = g) (hn : ¬ n - 1 = 0) : segIx (x.drop k) g n k = segIx (x.drop (k + 1)) g (n - 1) (k + 1) := by
  rw [List.drop_eq_getElem_cons h]; simp [segIx, he, hn]
/-- What is found has that name. -/
theorem segIx_name : ∀ (x : List Seg) (g : ByteArray) (n : Int) (k : Nat), segIx x g n k = -1 ∨ ∃ j, ∃ h : j < x.length, segIx x g n k = ((k + j : Nat) : Int) ∧ (x[j]'h).1 = g
  | [], _, _, _ => .inl rfl
  | s :: r, g, n, k => by
    unfold segIx
    by_cases h : s.1 = g
    · rw [if_pos h]
      by_cases hn : n - 1 = 0
      · rw [if_pos hn]; exact .inr ⟨0, by simp, rfl, h⟩
      · rw [if_neg hn]
        rcases segIx_name r g (n - 1) (k + 1) with e | ⟨j, hj, e, he⟩
        · exact .inl e
        · exact .inr ⟨j + 1, by simpa using hj, by rw [e]; congr 1; omega, by simpa using he⟩
    · rw [if_neg h]
      rcases segIx_name r g n (k + 1) with e | ⟨j, hj, e, he⟩
      · exact .inl e
      · exact .inr ⟨j + 1, by simpa using hj, by rw [e]; congr 1; omega, by simpa using he⟩

/-- The item at a number, the empty one where there is none. -/
def itemL {α : Type} (xs : List (List α)) (a : Int) : List α := if 0 ≤ a then xs.getD a.toNat [] else []
def itemS (xs : List ByteArray) (a : Int) : ByteArray := if 0 ≤ a then xs.getD a.toNat ⟨#[]⟩ else ⟨#[]⟩
theorem itemL_yes {α : Type} {xs : List (List α)} {k : Nat} (h : k < xs.length) : itemL xs (k : Int) = xs[k] := by simp [itemL, h]
theorem itemS_yes {xs : List ByteArray} {k : Nat} (h : k < xs.length) : itemS xs (k : Int) = xs[k] := by simp [itemS, h]
theorem itemL_no {α : Type} {xs : List (List α)} {a : Int} (h : ¬ (0 ≤ a ∧ a < xs.length)) : itemL xs a = [] := by
  unfold itemL
  by_cases h0 : 0 ≤ a
  · rw [if_pos h0]; simp [List.getD, List.getElem?_eq_none (show xs.length ≤ a.toNat by omega)]
  · rw [if_neg h0]
theorem itemS_no {xs : List ByteArray} {a : Int} (h : ¬ (0 ≤ a ∧ a < xs.length)) : itemS xs a = ⟨#[]⟩ := by
  unfold itemS
  by_cases h0 : 0 ≤ a
  · rw [if_pos h0]; simp [List.getD, List.getElem?_eq_none (show xs.length ≤ a.toNat by omega)]
  · rw [if_neg h0]
/-- The Fields of the Segment at a number. -/
def fldsAt (x : List Seg) (a : Int) : Flds := itemL (x.map (·.2)) a
def fldAt (x : List Seg) (p : PathM) : List (List (List ByteArray)) := itemL (fldsAt x (segIx x p.seg p.nth 0)) (p.fld - shiftB p.seg)
def valAt (f : List (List (List ByteArray))) (p : PathM) : ByteArray := itemS (itemL (itemL f (p.rep - 1)) (p.comp - 1)) (p.sub - 1)
theorem right_nums {p : PathM} (h : p.right = true) : (1 ≤ p.nth ∧ p.nth ≤ 20) ∧ (shiftB p.seg ≤ p.fld ∧ p.fld < shiftB p.seg + 30) ∧ (1 ≤ p.rep ∧ p.rep ≤ 20) ∧ (1 ≤ p.comp ∧ p.comp ≤ 20) ∧ (1 ≤ p.sub ∧ p.sub ≤ 20) := by
  simp only [PathM.right, placeB, Bool.and_eq_true, decide_eq_true_eq] at h
  obtain ⟨⟨⟨⟨⟨_, h1⟩, h2⟩, h3⟩, h4⟩, h5⟩ := h
  exact ⟨h1, h2, h3, h4, h5⟩
theorem shiftB_small (s : ByteArray) : shiftB s = 1 ∨ shiftB s = 3 := by unfold shiftB; split <;> simp
end Go.Proofs.YtmkcmajpepehmaaGreat
/- The look for a Segment: of the model and of the program; an item of a list. -/
namespace Go.Proofs.YtmkcmajpepehmaaGreat
open Go.RowKit

theorem toList_eqF {s t : ByteArray} (h : s = t) : (s.toList == t.toList) = true := by rw [h]; simp

set_option maxHeartbeats 2000000 in
theorem l05Seg_any (m : ByteArray) (u : Value) (x : List Seg) (g : ByteArray) (n : Int) (B : Nat) (w : World) (hn1 : 1 ≤ n) (hn2 : n ≤ 20) (hx : x.length ≤ 1048576) (hr : RSegs B w u x) :
    Calls Tryz.prog 50 #[.agg #[.string m, u], .string g, .int .i64 n] w fun e w' => e = .returned (.int .i64 (segIx x g n 0)) ∧ Below w.heap.size w w' := by
  obtain ⟨p, cap, rfl, h1, h2, h4⟩ := hr
  have H4 := hide h4
  clear h4 h1 h2
  obtain ⟨R, hR⟩ : ∃ R, R = segIx x g n 0 := ⟨_, rfl⟩
  rw [← hR]
  have HR := hide hR
  clear hR
  obtain ⟨W, hW⟩ : ∃ W, W = w.alloc (.cells #[.string m, .slice p x.length cap] 35) := ⟨_, rfl⟩
  have hb0 : Below w.heap.size w W := by rw [hW]; exact (Below.refl _ _).alloc (Nat.le_refl _) _
  have HB0 := hide hb0
  have RW : Row W w.heap.size 35 [.string m, .slice p x.length cap] := by rw [hW]; exact row_new w [.string m, .slice p x.length cap] 35
  have c1 : W.cell? ⟨w.heap.size, 1, none⟩ = some (.slice p x.length cap) := RW.cell 1
  clear RW hb0
  go_enter Tryz.func50, Tryz.ntmps50
  go_wp2_with fail
  rw [← hW]
  clear hW
  go_loop [2, 7] (fun a i => ∃ (k : Nat) (n' : Int), k ≤ x.length ∧ i = .int .i64 k ∧ a = .int .i64 n' ∧ 1 ≤ n' ∧ n' ≤ 20 ∧ Hid (R = segIx (x.drop k) g n' k)) (fun a i => x.length - (intOf i).toNat)
  case atStart => exact ⟨0, n, Nat.zero_le _, rfl, rfl, hn1, hn2, by simpa using HR⟩
  case round =>
    obtain ⟨k, n', hk, rfl, rfl, hl, hh, HS⟩ := hrel
    by_cases hlt : k < x.length
    · obtain ⟨gg, off, hp, hg, _, hc⟩ := H4.out (by omega)
      subst hp
      obtain ⟨hu, _, _⟩ := hc k hlt
      have hck : W.cell? ⟨gg, off + k * 2, none⟩ = some (.string (x[k]'hlt).1) := by rw [HB0.out.cell (p := ⟨gg, off + k * 2, none⟩) hg]; exact hu
      clear hu hc
      by_cases he : (x[k]'hlt).1 = g
      · by_cases hz : n' - 1 = 0
        · have HN := hide (show R = (k : Int) by rw [HS.out]; exact segIx_it hlt n' he hz)
          have hz' : IntKind.i64.wrap (n' - 1) = 0 := by rw [hz]; rfl
          rw [he] at hck
          clear he hz
          go_wp2
          go_ret
          exact ⟨ret_intF HN.out.symm, HB0.out⟩
        · have HN := hide (show R = segIx (x.drop (k + 1)) g (n' - 1) (k + 1) by rw [HS.out]; exact segIx_on hlt n' he hz)
          have hz' : IntKind.i64.wrap (n' - 1) = n' - 1 := wrap_small _ (by omega) (by omega)
          have hz2 : ((n' - 1) == (0 : Int)) = false := by simpa using hz
          rw [he] at hck
          clear he
          go_wp2
          go_round
          case rel => exact ⟨k + 1, n' - 1, by omega, by go_num, rfl, by omega, by omega, HN⟩
          case measure => simp [intOf]; omega
      · have HN := hide (show R = segIx (x.drop (k + 1)) g n' (k + 1) by rw [HS.out]; exact segIx_no hlt n' he)
        have he2 := toList_neF he
        have he3 : ((x[k]'hlt).1.toList == g.toList) = false := by simpa using he2
        generalize (x[k]'hlt).1 = nm at *
        clear he he2
        go_wp2
        go_round
        case rel => exact ⟨k + 1, n', by omega, by go_num, rfl, hl, hh, HN⟩
        case measure => simp [intOf]; omega
    · have HN := hide (show R = -1 by rw [HS.out]; exact segIx_end (by omega) _ _)
      go_wp2
      go_ret
      exact ⟨ret_intF HN.out.symm, HB0.out⟩

set_option maxHeartbeats 1000000 in
theorem itemAtField_any (v : Value) (xs : List (List (List (List ByteArray)))) (a : Int) (w : World) (hr : RL 0 (RFld 0) w v xs) :
    Calls Tryz.prog 72 #[v, .int .i64 a] w fun e w' => ∃ p c, e = .returned (.agg #[.slice p (itemL xs a).length c]) ∧ (RFld 0) w (.slice p (itemL xs a).length c) (itemL xs a) ∧ Below w.heap.size w w' := by
  obtain ⟨p, cap, rfl, h1, h2, h4⟩ := hr
  have H4 := hide h4
  clear h4
  unfold maxLen at h2
  have hA : Below w.heap.size w (w.alloc (.cells #[.slice none 0 0] 31)) := (Below.refl _ _).alloc (Nat.le_refl _) _
  by_cases hin : 0 ≤ a ∧ a < xs.length
  · obtain ⟨k, rfl⟩ := Int.eq_ofNat_of_zero_le hin.1
    have hk : k < xs.length := by omega
    rw [itemL_yes hk]
    obtain ⟨g, off, hp, hg, _, hc⟩ := H4.out (by omega)
    subst hp
    obtain ⟨u, hu, hru⟩ := hc k hk
    obtain ⟨up, uc, rfl⟩ := RL.isSlice hru
    have HRU := hide hru
    have hne : g ≠ w.heap.size := by omega
    have hB : Hid (Below w.heap.size w (w.alloc (.cells #[.slice up (xs[k]'hk).length uc] 31))) := (Below.refl _ _).alloc (Nat.le_refl _) _
    have hi0 : ¬ ((k : Int) < 0) := by omega
    have hi1 : ¬ ((xs.length : Int) ≤ (k : Int)) := by omega
    clear hc hru hin hA
    go_enter Tryz.func72, Tryz.ntmps72
    go_wp2
    exact bodyPost_ret (v := .agg #[.slice up (xs[k]'hk).length uc]) (by simp [results, Tryz.results72, go_sem]) rfl ⟨up, uc, rfl, HRU.out, hB.out⟩
  · rw [itemL_no hin]
    have HZ : Hid ((RFld 0) w (.slice none ([] : List (List (List ByteArray))).length 0) []) := ⟨none, 0, rfl, Nat.le_refl _, Nat.zero_le _, fun h => absurd h (Nat.lt_irrefl 0)⟩
    have HB := hide (hA.alloc (by simp) (.cells #[.slice none 0 0] 31))
    clear hA
    by_cases h0 : a < 0
    · clear hin
      go_enter Tryz.func72, Tryz.ntmps72
      go_wp2
      exact bodyPost_ret (v := .agg #[.slice none 0 0]) (by simp [results, Tryz.results72, go_sem]) rfl ⟨none, 0, rfl, HZ.out, HB.out⟩
    · have h3 : (xs.length : Int) ≤ a := by omega
      clear hin
      go_enter Tryz.func72, Tryz.ntmps72
      go_wp2
      exact bodyPost_ret (v := .agg #[.slice none 0 0]) (by simp [results, Tryz.results72, go_sem]) rfl ⟨none, 0, rfl, HZ.out, HB.out⟩

set_option maxHeartbeats 1000000 in
theorem itemAtSegment_any (v : Value) (xs : List Seg) (a : Int) (w : World) (hr : RSegs 0 w v xs) :
    Calls Tryz.prog 70 #[v, .int .i64 a] w fun e w' => ∃ nm p c, e = .returned (.agg #[.string nm, .slice p (fldsAt xs a).length c]) ∧ RFlds 0 w (.slice p (fldsAt xs a).length c) (fldsAt xs a) ∧ Below w.heap.size w w' := by
  obtain ⟨p, cap, rfl, h1, h2, h4⟩ := hr
  have H4 := hide h4
  clear h4
  unfold maxLen at h2
  have hA : Below w.heap.size w (w.alloc (.cells #[.string ⟨#[]⟩, .slice none 0 0] 83)) := (Below.refl _ _).alloc (Nat.le_refl _) _
  by_cases hin : 0 ≤ a ∧ a < xs.length
  · obtain ⟨k, rfl⟩ := Int.eq_ofNat_of_zero_le hin.1
    have hk : k < xs.length := by omega
    rw [show fldsAt xs (k : Int) = (xs[k]'hk).2 by unfold fldsAt; rw [itemL_yes (by simpa using hk)]; simp]
    obtain ⟨g, off, hp, hg, _, hc⟩ := H4.out (by omega)
    subst hp
    obtain ⟨hn, _, u, hu, hru⟩ := hc k hk
    obtain ⟨up, uc, rfl⟩ := RL.isSlice hru
    have HRU := hide hru
    have hne : g ≠ w.heap.size := by omega
    have hB : Hid (Below w.heap.size w (w.alloc (.cells #[.string (xs[k]'hk).1, .slice up (xs[k]'hk).2.length uc] 83))) := (Below.refl _ _).alloc (Nat.le_refl _) _
    have hi0 : ¬ ((k : Int) < 0) := by omega
    have hi1 : ¬ ((xs.length : Int) ≤ (k : Int)) := by omega
    clear hc hru hin hA
    go_enter Tryz.func70, Tryz.ntmps70
    go_wp2
    exact bodyPost_ret (v := .agg #[.string (xs[k]'hk).1, .slice up (xs[k]'hk).2.length uc]) (by simp [results, Tryz.results70, go_sem]) rfl ⟨_, up, uc, rfl, HRU.out, hB.out⟩
  · rw [show fldsAt xs a = [] from itemL_no (by simpa using hin)]
    have HZ : Hid (RFlds 0 w (.slice none ([] : Flds).length 0) []) := ⟨none, 0, rfl, Nat.le_refl _, Nat.zero_le _, fun h => absurd h (Nat.lt_irrefl 0)⟩
    have HB := hide (hA.alloc (by simp) (.cells #[.string ⟨#[]⟩, .slice none 0 0] 83))
    clear hA
    by_cases h0 : a < 0
    · clear hin
      go_enter Tryz.func70, Tryz.ntmps70
      go_wp2
      exact bodyPost_ret (v := .agg #[.string ⟨#[]⟩, .slice none 0 0]) (by simp [results, Tryz.results70, go_sem]) rfl ⟨_, none, 0, rfl, HZ.out, HB.out⟩
    · have h3 : (xs.length : Int) ≤ a := by omega
      clear hin
      go_enter Tryz.func70, Tryz.ntmps70
      go_wp2
      exact bodyPost_ret (v := .agg #[.string ⟨#[]⟩, .slice none 0 0]) (by simp [results, Tryz.results70, go_sem]) rfl ⟨_, none, 0, rfl, HZ.out, HB.out⟩
end Go.Proofs.YtmkcmajpepehmaaGreat
