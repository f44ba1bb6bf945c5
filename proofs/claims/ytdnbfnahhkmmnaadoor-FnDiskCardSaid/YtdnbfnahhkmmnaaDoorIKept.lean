/- What is kept of the pending things, and DiskCrash, as the program does them. -/
import Derived.Test.YtdnbfnahhkmmnaaDoorIBank
import Derived.Test.YtdnbfnahhkmmnaaDoorPush
import Derived.Test.YtdnbfnahhkmmnaaDoorSCrash
import Derived.Test.YtdnbfnahhkmmnaaDoorIRight
namespace Go.Proofs.YtdnbfnahhkmmnaaDoor
open Go.RowKit

/-- What is kept of ps. -/
def keptOf : List Int → List (Int × ByteArray) → List (Int × ByteArray)
  | _, [] => []
  | ks, x :: r => (if 0 < ks.getD 0 0 then [x] else []) ++ keptOf (ks.drop 1) r
theorem keptOf_step (ks : List Int) (ps : List (Int × ByteArray)) (k : Nat) (h : k < ps.length) :
    keptOf (ks.drop k) (ps.drop k) = (if 0 < ks.getD k 0 then [ps[k]'h] else []) ++ keptOf (ks.drop (k + 1)) (ps.drop (k + 1)) := by
  rw [List.drop_eq_getElem_cons h, keptOf, List.drop_drop]
  simp
theorem keptOf_mem : ∀ (ks : List Int) (ps : List (Int × ByteArray)) (x : Int × ByteArray), x ∈ keptOf ks ps → x ∈ ps
  | _, [], _, h => h
  | ks, y :: r, x, h => by
    rw [keptOf] at h
    rcases List.mem_append.1 h with h | h
    · split at h
      · rw [List.mem_singleton.1 h]; exact List.mem_cons_self ..
      · cases h
    · exact List.mem_cons_of_mem _ (keptOf_mem _ r x h)
theorem keptOf_len : ∀ (ks : List Int) (ps : List (Int × ByteArray)), (keptOf ks ps).length ≤ ps.length
  | _, [] => Nat.le_refl _
  | ks, y :: r => by
    rw [keptOf, List.length_append]
    have := keptOf_len (ks.drop 1) r
    split
    · simp only [List.length_cons, List.length_nil]; omega
    · simp only [List.length_cons, List.length_nil]; omega
theorem applyP_append : ∀ (a b : List (Int × ByteArray)) (xs : List ByteArray), applyP (a ++ b) xs = applyP b (applyP a xs)
  | [], _, _ => rfl
  | x :: r, b, xs => by rw [List.cons_append, applyP, applyP_append r b, applyP]
theorem applyK_kept : ∀ (ks : List Int) (ps : List (Int × ByteArray)) (xs : List ByteArray), applyK ks ps xs = applyP (keptOf ks ps) xs
  | _, [], _ => rfl
  | ks, x :: r, xs => by
    rw [applyK, keptOf, applyP_append, applyK_kept (ks.drop 1) r]
    congr 1
    split <;> rfl

set_option maxRecDepth 100000 in
set_option maxHeartbeats 4000000 in
theorem keptPending_any (vp vk : Value) (ps : List (Int × ByteArray)) (ks : List Int) (w : World) (hp : ReadsP w vp ps) (hk : ReadsI w vk ks) (hn : ps.length ≤ 200) (hn2 : ks.length ≤ 400) :
    Calls Tryd.prog 33 #[vp, vk] w fun e w' => (∃ up, e = .returned up ∧ OwnP 46 w.heap.size w' up (keptOf ks ps)) ∧ Below w.heap.size w w' := by
  obtain ⟨j0, hj, hy0, hy1, hy2⟩ := info_parts Tryd.infoPend
  have hzp : (Value.agg #[.int .i64 0, .string ⟨#[]⟩]).cells.size = 2 := by simp [Value.cells]
  have HP := hide hp
  have HK := hide hk
  obtain ⟨p2, c2, rfl, h2r⟩ := hp
  obtain ⟨p3, c3, rfl, h3r⟩ := hk
  clear h2r h3r
  go_enter Tryd.func33, Tryd.ntmps33
  go_wp2_with fail
  go_loopw [5, 10] (fun v i wr => ∃ (k : Nat) (qs : List (Int × ByteArray)), k ≤ ps.length ∧ i = .int .i64 k ∧ qs.length ≤ k ∧ Hid (keptOf ks ps = qs ++ keptOf (ks.drop k) (ps.drop k)) ∧ Hid (OwnP 46 w.heap.size wr v qs) ∧ Hid (qs = [] → v = .slice none 0 0) ∧ Hid (Below w.heap.size w wr)) (fun _ i _ => ps.length - (intOf i).toNat)
  case atStart => exact ⟨0, [], Nat.zero_le _, rfl, Nat.le_refl _, rfl, OwnP.none _ _ _, fun _ => rfl, Below.refl _ _⟩
  case round =>
    obtain ⟨k, qs, hk, rfl, hql, HA, HO, HE, HB⟩ := hrel
    obtain ⟨q1, m1, d1, rfl⟩ := HO.out.isSlice
    by_cases hlt : k < ps.length
    · obtain ⟨g, off, hp, hg, hc⟩ : ∃ g off, p2 = some ⟨g, off, none⟩ ∧ _ := by
        obtain ⟨p, cap, he, _, _, _, h4⟩ := HP.out
        cases he
        exact h4 (by omega)
      subst hp
      obtain ⟨hc0, hc1⟩ := hc k hlt
      have hk0 := (HB.out.cell (p := ⟨g, off + k * 2, none⟩) hg).trans hc0
      have hk1 := (HB.out.cell (p := ⟨g, off + k * 2 + 1, none⟩) hg).trans hc1
      have hki : (k : Int) < (ps.length : Int) := by omega
      have HST := hide (keptOf_step ks ps k hlt)
      have hsz : (ps[k]'hlt).2.size ≤ maxLen := by obtain ⟨p, cap, he, _, _, h3, _⟩ := HP.out; exact h3 _ (List.getElem_mem hlt)
      obtain ⟨A, hA⟩ : ∃ A, A = (ps[k]'hlt).1 := ⟨_, rfl⟩
      obtain ⟨D, hD⟩ : ∃ D, D = (ps[k]'hlt).2 := ⟨_, rfl⟩
      have HAD := hide (show ps[k]'hlt = (A, D) by rw [hA, hD])
      rw [← hA] at hk0
      rw [← hD] at hk1 hsz
      rw [HAD.out] at HST
      have bn := below_new wr (.cells #[.int .i64 A, .string D] 46)
      have HPn := hide (row_new wr [.int .i64 A, .string D] 46)
      have HBn := hide (HB.out.trans (bn.mono HB.out.size))
      have HOn := hide (HO.out.below bn (Nat.le_refl _))
      have HSZ := hide hsz
      clear hA hD hc hc0 hc1 bn hsz hg
      by_cases hkk : k < ks.length ∧ 0 < ks.getD k 0
      · obtain ⟨g3, o3, rfl, hg3, hc3⟩ : ∃ g off, p3 = some ⟨g, off, none⟩ ∧ _ := by
          obtain ⟨p, cap, he, _, _, h4⟩ := HK.out
          cases he
          exact h4 (by omega)
        have hck := (HBn.out.cell (p := ⟨g3, o3 + k, none⟩) hg3).trans (hc3 k hkk.1)
        have e1 : ks.getD k 0 = ks[k]'hkk.1 := by simp [List.getD, hkk.1]
        have tpos : 0 < ks[k]'hkk.1 := by rw [← e1]; exact hkk.2
        obtain ⟨z, hz⟩ : ∃ z, z = ks[k]'hkk.1 := ⟨_, rfl⟩
        rw [← hz] at hck tpos
        have HU := hide (show keptOf ks ps = (qs ++ [(A, D)]) ++ keptOf (ks.drop (k + 1)) (ps.drop (k + 1)) by rw [HA.out, HST.out, if_pos hkk.2, List.append_assoc])
        have tk : (k : Int) < (ks.length : Int) := by omega
        have bx := below_new (wr.alloc (.cells #[.int .i64 A, .string D] 46)) (.cells #[.int .i64 A, .string D] 46)
        have HOX := hide (HOn.out.below bx (Nat.le_refl _))
        have HBX := hide (HBn.out.trans (bx.mono HBn.out.size))
        have RX := row_new (wr.alloc (.cells #[.int .i64 A, .string D] 46)) [.int .i64 A, .string D] 46
        simp only [World.size_alloc] at RX
        have HRX := hide RX
        clear hz e1 hc3 hg3 hkk bx RX
        go_wp2_with (at_builtin; refine wpList_pushQ _ rfl _ _ 24 rfl w.heap.size 46 j0 (.agg #[.int .i64 0, .string ⟨#[]⟩]) Tryd.underlying24 hj hy0 hy1 hy2 hzp (.slice q1 m1 d1) rfl qs HOX.out HE.out (by omega) HBX.out.size A D HSZ.out (wr.heap.size + 1) 1 rfl HRX.out ?_
                     intro q3 d3 w4 ho3 hk3 hl3
                     have HO3 := hide ho3
                     have HB4 := hide (hk3.toBelow HBX.out HBX.out.size (fun x hx => (HO.out.leads x hx).1))
                     clear ho3 hk3 hl3)
        go_roundw
        case rel => exact ⟨k + 1, qs ++ [(A, D)], by omega, by go_num, by simp; omega, HU, by simpa using HO3, hide (fun h => by simp at h), HB4⟩
        case measure => simp [intOf]; omega
      · have HU := hide (show keptOf ks ps = qs ++ keptOf (ks.drop (k + 1)) (ps.drop (k + 1)) by
          rw [HA.out, HST.out, if_neg (fun h => hkk ⟨by
            rcases Nat.lt_or_ge k ks.length with h' | h'
            · exact h'
            · simp [List.getD, List.getElem?_eq_none h'] at h, h⟩), List.nil_append])
        by_cases hlk : k < ks.length
        · obtain ⟨g3, o3, rfl, hg3, hc3⟩ : ∃ g off, p3 = some ⟨g, off, none⟩ ∧ _ := by
            obtain ⟨p, cap, he, _, _, h4⟩ := HK.out
            cases he
            exact h4 (by omega)
          have hck := (HBn.out.cell (p := ⟨g3, o3 + k, none⟩) hg3).trans (hc3 k hlk)
          have tneg : ¬ 0 < ks[k]'hlk := fun h => hkk ⟨hlk, by simpa [List.getD, hlk] using h⟩
          obtain ⟨z, hz⟩ : ∃ z, z = ks[k]'hlk := ⟨_, rfl⟩
          rw [← hz] at hck tneg
          have tk : (k : Int) < (ks.length : Int) := by omega
          clear hz hc3 hg3 hkk
          go_wp2
          go_roundw
          case rel => exact ⟨k + 1, qs, by omega, by go_num, by omega, HU, HOn, HE, HBn⟩
          case measure => simp [intOf]; omega
        · have tk : decide ((k : Int) < (ks.length : Int)) = false := decide_eq_false (by omega)
          clear hkk
          go_wp2
          go_roundw
          case rel => exact ⟨k + 1, qs, by omega, by go_num, by omega, HU, HOn, HE, HBn⟩
          case measure => simp [intOf]; omega
    · have HF := hide (show keptOf ks ps = qs by
        have e : ps.drop k = [] := List.drop_eq_nil_of_le (by omega)
        rw [HA.out, e]; simp [keptOf])
      go_wp2
      go_ret
      exact ⟨⟨_, rfl, by rw [HF.out]; exact HO.out⟩, HB.out⟩
end Go.Proofs.YtdnbfnahhkmmnaaDoor
