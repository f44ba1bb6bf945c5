/- The prefix of a text, cut off. -/
import Derived.Test.YtckcfjibiidafaaXG33OSegM
import Derived.Test.YtckcfjibiidafaaXG17FMsgT
namespace Go.Proofs.Ytckcfjibiidafaa
open Go.RowKit
set_option maxHeartbeats 1000000 in
theorem hasPre_any (s p : ByteArray) (w : World) :
    Calls Try.prog 84 #[.string s, .string p] w fun e w' => e = .returned (.bool (decide (p.size ≤ s.size ∧ (s.extract 0 p.size : ByteArray) = p))) ∧ w' = w := by
  by_cases h : p.size ≤ s.size
  · have hi : (p.size : Int) ≤ (s.size : Int) := by omega
    have hp : (0 : Int) ≤ (p.size : Int) := by omega
    by_cases he : (s.extract 0 p.size : ByteArray) = p
    · have heb : ((s.extract 0 p.size : ByteArray).toList == p.toList) = true := by rw [he]; simp
      have HD := hide (show decide (p.size ≤ s.size ∧ (s.extract 0 p.size : ByteArray) = p) = true by simp [h, he])
      rw [HD.out]
      clear he
      go_enter Try.func84, Try.ntmps84
      go_wp2
      go_ret
      exact ⟨rfl, rfl⟩
    · have heb : ((s.extract 0 p.size : ByteArray).toList == p.toList) = false := by simpa using toList_neF he
      have HD := hide (show decide (p.size ≤ s.size ∧ (s.extract 0 p.size : ByteArray) = p) = false by simp [he])
      rw [HD.out]
      clear he
      go_enter Try.func84, Try.ntmps84
      go_wp2
      go_ret
      exact ⟨rfl, rfl⟩
  · have hi : ¬ (p.size : Int) ≤ (s.size : Int) := by omega
    have HD := hide (show decide (p.size ≤ s.size ∧ (s.extract 0 p.size : ByteArray) = p) = false by simp [h])
    rw [HD.out]
    go_enter Try.func84, Try.ntmps84
    go_wp2
    go_ret
    exact ⟨rfl, rfl⟩
set_option maxHeartbeats 1000000 in
theorem liteCutPre_yes (s p : ByteArray) (w : World) (h : p.size ≤ s.size ∧ (s.extract 0 p.size : ByteArray) = p) :
    Calls Try.prog 66 #[.string s, .string p] w fun e w' => e = .returned (.tuple #[.string (s.extract p.size s.size), .bool true]) ∧ w' = w := by
  have HD := hide (show decide (p.size ≤ s.size ∧ (s.extract 0 p.size : ByteArray) = p) = true by simp [h])
  have hi : (p.size : Int) ≤ (s.size : Int) := by omega
  have hp : (0 : Int) ≤ (p.size : Int) := by omega
  clear h
  go_enter Try.func66, Try.ntmps66
  go_wp2_with fail
  refine (hasPre_any s p _).mono ?_
  rintro e w1 ⟨rfl, rfl⟩
  rw [HD.out]
  go_wp2
  exact bodyPost_ret (v := .tuple #[.string (s.extract p.size s.size), .bool true]) (by simp [results, Try.results66, go_sem]) rfl ⟨rfl, rfl⟩
set_option maxHeartbeats 1000000 in
theorem liteCutPre_no (s p : ByteArray) (w : World) (h : ¬ (p.size ≤ s.size ∧ (s.extract 0 p.size : ByteArray) = p)) :
    Calls Try.prog 66 #[.string s, .string p] w fun e w' => e = .returned (.tuple #[.string s, .bool false]) ∧ w' = w := by
  have HD := hide (decide_eq_false h)
  clear h
  go_enter Try.func66, Try.ntmps66
  go_wp2_with fail
  refine (hasPre_any s p _).mono ?_
  rintro e w1 ⟨rfl, rfl⟩
  rw [HD.out]
  go_wp2
  exact bodyPost_ret (v := .tuple #[.string s, .bool false]) (by simp [results, Try.results66, go_sem]) rfl ⟨rfl, rfl⟩
set_option maxHeartbeats 1000000 in
theorem cutPre_yes (s p : ByteArray) (w : World) (h : p.size ≤ s.size ∧ (s.extract 0 p.size : ByteArray) = p) :
    Calls Try.prog 46 #[.string s, .string p] w fun e w' => e = .returned (.tuple #[.string (s.extract p.size s.size), .bool true]) ∧ w' = w := by
  have H := hide h
  clear h
  go_enter Try.func46, Try.ntmps46
  go_wp2_with fail
  refine (liteCutPre_yes s p _ H.out).mono ?_
  rintro e w1 ⟨rfl, rfl⟩
  go_wp2
  exact bodyPost_ret (v := .tuple #[.string (s.extract p.size s.size), .bool true]) (by simp [results, Try.results46, go_sem]) rfl ⟨rfl, rfl⟩
set_option maxHeartbeats 1000000 in
theorem cutPre_no (s p : ByteArray) (w : World) (h : ¬ (p.size ≤ s.size ∧ (s.extract 0 p.size : ByteArray) = p)) :
    Calls Try.prog 46 #[.string s, .string p] w fun e w' => e = .returned (.tuple #[.string s, .bool false]) ∧ w' = w := by
  have H := hide h
  clear h
  go_enter Try.func46, Try.ntmps46
  go_wp2_with fail
  refine (liteCutPre_no s p _ H.out).mono ?_
  rintro e w1 ⟨rfl, rfl⟩
  go_wp2
  exact bodyPost_ret (v := .tuple #[.string s, .bool false]) (by simp [results, Try.results46, go_sem]) rfl ⟨rfl, rfl⟩
end Go.Proofs.Ytckcfjibiidafaa
/- Segments and Messages in memory of one's own; their marks; the laws' own copies of them. -/
namespace Go.Proofs.Ytckcfjibiidafaa
open Go.RowKit
def OSegs (lo hi : Nat) (w : World) (v : Value) (xs : List Seg) : Prop :=
  ∃ p cap, v = .slice p xs.length cap ∧ xs.length ≤ cap ∧ cap ≤ maxLen ∧
    (0 < xs.length → ∃ (g : Nat) (cs : List Value) (A B : Nat → Nat), p = some ⟨g, 0, none⟩ ∧ lo ≤ g ∧ g < hi ∧ Row w g 33 cs ∧ xs.length * 2 ≤ cs.length ∧
      (∀ j (h2 : j < xs.length), cs[j * 2]? = some (.string xs[j].1) ∧ xs[j].1.size ≤ maxLen ∧ lo ≤ A j ∧ B j ≤ hi ∧ (B j ≤ g ∨ g < A j) ∧ ∃ u, cs[j * 2 + 1]? = some u ∧ OFlds (A j) (B j) w u xs[j].2) ∧ (∀ i j, i < j → j < xs.length → B i ≤ A j))
theorem OSegs.keep {lo hi : Nat} {w w' : World} {v : Value} {xs : List Seg} (h : OSegs lo hi w v xs) (hs : SameIn lo hi w w') : OSegs lo hi w' v xs := by
  obtain ⟨p, cap, rfl, h1, h2, h4⟩ := h
  refine ⟨p, cap, rfl, h1, h2, fun h0 => ?_⟩
  obtain ⟨g, cs, A, B, rfl, a, b, hr, hl, hE, hD⟩ := h4 h0
  refine ⟨g, cs, A, B, rfl, a, b, hs.row hr a b, hl, fun i k2 => ?_, hD⟩
  obtain ⟨e0, e1, e2, e3, e4, u, e5, e6⟩ := hE i k2
  exact ⟨e0, e1, e2, e3, e4, u, e5, Keeps.go (hs.mono e2 e3) e6⟩
theorem OSegs.wide {lo hi lo' hi' : Nat} {w : World} {v : Value} {xs : List Seg} (h : OSegs lo hi w v xs) (hl : lo' ≤ lo) (hh : hi ≤ hi') : OSegs lo' hi' w v xs := by
  obtain ⟨p, cap, rfl, h1, h2, h4⟩ := h
  refine ⟨p, cap, rfl, h1, h2, fun h0 => ?_⟩
  obtain ⟨g, cs, A, B, rfl, a, b, hr, hln, hE, hD⟩ := h4 h0
  refine ⟨g, cs, A, B, rfl, by omega, by omega, hr, hln, fun i k2 => ?_, hD⟩
  obtain ⟨e0, e1, e2, e3, e4, u, e5, e6⟩ := hE i k2
  exact ⟨e0, e1, by omega, by omega, e4, u, e5, e6⟩
theorem OSegs.isSlice {lo hi : Nat} {w : World} {v : Value} {xs : List Seg} (h : OSegs lo hi w v xs) : ∃ p c, v = .slice p xs.length c := by
  obtain ⟨p, c, e, _⟩ := h
  exact ⟨p, c, e⟩
theorem OFlds.rl {lo hi : Nat} {w : World} {v : Value} {xs : List (List (List (List ByteArray)))} (h : OFlds lo hi w v xs) : RFlds lo w v xs := OL.rl h fun _ _ _ _ ha h => RFld.mono (OFld.rl h) ha
theorem OSegs.rl {lo hi : Nat} {w : World} {v : Value} {xs : List Seg} (h : OSegs lo hi w v xs) : RSegs lo w v xs := by
  obtain ⟨p, cap, rfl, h1, h2, h4⟩ := h
  refine ⟨p, cap, rfl, h1, h2, fun h0 => ?_⟩
  obtain ⟨g, cs, A, B, rfl, a, b, hr, hl, hE, hD⟩ := h4 h0
  refine ⟨g, 0, rfl, hr.lt, a, fun i hi => ?_⟩
  obtain ⟨e0, e1, e2, e3, e4, u, e5, e6⟩ := hE i hi
  exact ⟨by rw [Nat.zero_add, hr.cell]; exact e0, e1, u, by rw [Nat.zero_add, hr.cell]; exact e5, RFlds.mono (OFlds.rl e6) e2⟩
def cntSeg (x : Seg) : Nat := 1 + cntFs x.2
def mkSeg (k : Nat) (x : Seg) : Seg := (markOf k, mkFs (k + 1) x.2)
def cntSegs : List Seg → Nat := cntL cntSeg
def mkSegs : Nat → List Seg → List Seg := mkL cntSeg mkSeg
theorem cntFs_le (x : List (List (List (List ByteArray)))) : cntFs x ≤ wFlds x := cntL_le _ _ cntF_le x
theorem seg_step : ∀ (xs : List Seg) (i : Nat) (hi : i < xs.length), cntL cntSeg (xs.take i) + 1 + wFlds xs[i].2 ≤ wSegs xs
  | x :: r, 0, _ => by
    simp only [List.take_zero, cntL, List.map_nil, List.sum_nil, List.getElem_cons_zero, wSegs, wL, List.map_cons, List.sum_cons, List.length_cons, wSeg]
    omega
  | x :: r, i + 1, hi => by
    have h1 := cntFs_le x.2
    have h2 := seg_step r i (by simpa using hi)
    simp only [List.take_succ_cons, cntL, List.map_cons, List.sum_cons, List.getElem_cons_succ, wSegs, wL, List.length_cons, wSeg, cntSeg] at h2 ⊢
    omega
theorem markOf_small (k : Nat) (h : k ≤ 10000000) : (markOf k).size ≤ maxLen := by
  have := markOf_sizeO k
  unfold maxLen; omega
end Go.Proofs.Ytckcfjibiidafaa
