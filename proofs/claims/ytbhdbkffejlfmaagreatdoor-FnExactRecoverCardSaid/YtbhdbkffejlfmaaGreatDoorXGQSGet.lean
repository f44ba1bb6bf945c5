/- What the store's faces answer, as lists; l09Begin, l09At and StoreGet of the model. -/
import Derived.Test.YtbhdbkffejlfmaaGreatDoorXGQSRead
import Derived.Test.YtbhdbkffejlfmaaGreatDoorXGIRArea
import Derived.Test.YtbhdbkffejlfmaaGreatDoorXGSCopy
namespace Go.Proofs.YtbhdbkffejlfmaaGreatDoor
open Go.RowKit

/-- Why a store can't be asked for an id. -/
def forC (xs : List ByteArray) (ps : List (Int × ByteArray)) (i : ByteArray) : Int :=
  if 8000 < i.size then 2 else if (keptO xs ps).isSome = false then 1 else if idB i = false then 1 else 0
def itemsO (xs : List ByteArray) (ps : List (Int × ByteArray)) : List Item := (keptO xs ps).getD []
def getO (xs : List ByteArray) (ps : List (Int × ByteArray)) (i : ByteArray) : KOut :=
  if forC xs ps i ≠ 0 then kill (forC xs ps i) else match (itemsO xs ps).find? (sameId i) with
    | none => kill 6
    | some p => ⟨xs, ps, p.2, 0⟩
theorem forC_ok {xs : List ByteArray} {ps : List (Int × ByteArray)} {i : ByteArray} (h : forC xs ps i = 0) : i.size ≤ 8000 ∧ keptO xs ps = some (itemsO xs ps) ∧ idB i = true := by
  unfold forC at h
  split at h
  · exact absurd h (by decide)
  · rename_i h1
    split at h
    · exact absurd h (by decide)
    · rename_i h2
      split at h
      · exact absurd h (by decide)
      · rename_i h3
        refine ⟨by omega, ?_, by simpa using h3⟩
        unfold itemsO
        cases hk : keptO xs ps with
        | none => rw [hk] at h2; simp at h2
        | some L => rfl
theorem keptO_right {xs : List ByteArray} {ps : List (Int × ByteArray)} {L : List Item} (h : keptO xs ps = some L) : right xs ps = true := by
  unfold keptO at h
  split at h
  · cases h
  · rename_i h1
    cases hr : right xs ps with
    | true => rfl
    | false => exact absurd (show (areaOut xs ps).c = 1 by unfold areaOut; rw [if_pos hr]; rfl) (by simp at h1; omega)
theorem keptO_items {xs : List ByteArray} {ps : List (Int × ByteArray)} {L : List Item} (h : keptO xs ps = some L) : Rises L ∧ (∀ x ∈ L, OkI x) ∧ L.length ≤ 12 := by
  unfold keptO at h
  split at h
  · cases h
  · obtain ⟨h1, h2, h3, _⟩ := keptS_ok h
    exact ⟨h1, h2, h3⟩
/-- The number of the item of an id, or -1. -/
def atL (L : List Item) (i : ByteArray) : Int := if L.findIdx (sameId i) < L.length then (L.findIdx (sameId i) : Int) else -1
theorem atL_hit {L : List Item} {i : ByteArray} (k : Nat) (hk : k < L.length) (h1 : (L[k]'hk).1 = i) (h2 : ∀ j (h : j < k), (L[j]'(by omega)).1 ≠ i) : atL L i = k ∧ L.find? (sameId i) = some (L[k]'hk) := by
  have h3 : ∀ j (h : j < k), sameId i (L[j]'(by omega)) = false := fun j h => by
    cases hs : sameId i (L[j]'(by omega)) with
    | false => rfl
    | true => exact absurd (sameId_iff.1 hs) (h2 j h)
  have hf : L.findIdx (sameId i) = k := (List.findIdx_eq hk).2 ⟨sameId_iff.2 h1, h3⟩
  refine ⟨by unfold atL; rw [hf, if_pos hk], ?_⟩
  rw [List.find?_eq_some_iff_getElem]
  exact ⟨sameId_iff.2 h1, k, hk, rfl, fun j hj => by rw [h3 j hj]; rfl⟩
theorem atL_miss {L : List Item} {i : ByteArray} (h : ∀ j (h : j < L.length), (L[j]'h).1 ≠ i) : atL L i = -1 ∧ L.find? (sameId i) = none := by
  have hn : ∀ x ∈ L, sameId i x = false := fun x hx => by
    obtain ⟨j, hj, rfl⟩ := List.getElem_of_mem hx
    cases hs : sameId i (L[j]'hj) with
    | false => rfl
    | true => exact absurd (sameId_iff.1 hs) (h j hj)
  refine ⟨?_, List.find?_eq_none.2 fun x hx => by rw [hn x hx]; simp⟩
  unfold atL
  rw [if_neg]
  intro hlt
  have := hn _ (List.getElem_mem hlt)
  rw [List.findIdx_getElem (w := hlt)] at this
  cases this
theorem atL_cases (L : List Item) (i : ByteArray) : (∃ (k : Nat) (hk : k < L.length), atL L i = k ∧ (L[k]'hk).1 = i ∧ L.find? (sameId i) = some (L[k]'hk) ∧ ∀ j (h : j < k), (L[j]'(by omega)).1 ≠ i) ∨ (atL L i = -1 ∧ L.find? (sameId i) = none) := by
  by_cases h : ∀ j (h : j < L.length), (L[j]'h).1 ≠ i
  · exact .inr (atL_miss h)
  · refine .inl ?_
    have hlt : L.findIdx (sameId i) < L.length := by
      rw [List.findIdx_lt_length]
      apply Classical.byContradiction
      intro hc
      exact h fun j hj e => hc ⟨_, List.getElem_mem hj, sameId_iff.2 e⟩
    have h1 := sameId_iff.1 (List.findIdx_getElem (w := hlt))
    have h2 : ∀ j (h : j < L.findIdx (sameId i)), (L[j]'(by omega)).1 ≠ i := fun j hj e => by
      have := List.not_of_lt_findIdx hj
      simp [sameId_iff.2 e] at this
    obtain ⟨a, b⟩ := atL_hit _ hlt h1 h2
    exact ⟨_, hlt, a, h1, b, h2⟩

theorem l09Ill_any (c : Int) (w : World) :
    Calls Tryz.prog 45 #[.int .i64 c] w fun e w' => e = .returned (.agg #[.slice none 0 0, .slice none 0 0, .string ⟨#[]⟩, .int .i64 c]) ∧ Below w.heap.size w w' := by
  go_enter Tryz.func45, Tryz.ntmps45
  go_wp2
  exact bodyPost_ret (v := .agg #[.slice none 0 0, .slice none 0 0, .string ⟨#[]⟩, .int .i64 c]) (by simp [results, Tryz.results45, go_sem]) rfl ⟨rfl, (Below.refl _ _).alloc (Nat.le_refl _) _⟩

set_option maxHeartbeats 4000000 in
theorem l09At_any (v : Value) (L : List Item) (i : ByteArray) (w : World) (hr : ReadsIt w v L) (hl : L.length ≤ 1000) :
    Calls Tryz.prog 46 #[v, .string i] w fun e w' => e = .returned (.int .i64 (atL L i)) ∧ Below w.heap.size w w' := by
  obtain ⟨p, cap, rfl, h1, h2, h4⟩ := hr
  unfold maxLen at h2
  have H4 := hide h4
  clear h4
  go_enter Tryz.func46, Tryz.ntmps46
  go_wp2
  go_loopw [5] (fun x wr => ∃ (X : World) (k : Nat), X = wr ∧ x = .int .i64 (k : Int) ∧ k ≤ L.length ∧ Hid (∀ j (h : j < k) (h' : j < L.length), (L[j]'h').1 ≠ i) ∧ Hid (Below w.heap.size w X)) (fun x _ => L.length - (intOf x).toNat)
  case atStart => exact ⟨_, 0, rfl, rfl, Nat.zero_le _, hide (fun j h => by omega), hide (Below.refl _ _)⟩
  case round =>
    obtain ⟨X, k, rfl, rfl, hk, HN, HB⟩ := hrel
    by_cases hlt : k < L.length
    · obtain ⟨g, off, rfl, hg, hc⟩ := H4.out (by omega)
      have hki : (k : Int) < (L.length : Int) := by omega
      have c0 := (HB.out.cell (p := ⟨g, off + k * 2, none⟩) hg).trans (hc k hlt).1
      have hse := str_eql (L[k]'hlt).1 i
      by_cases he : (L[k]'hlt).1 = i
      · have HE := hide (atL_hit k hlt he (fun j h => HN.out j h (by omega))).1
        rw [decide_eq_true he] at hse
        clear he hc
        go_wp2
        go_ret
        exact ⟨by rw [HE.out]; rfl, HB.out⟩
      · have HN2 := hide (show ∀ j (h : j < k + 1) (h' : j < L.length), (L[j]'h').1 ≠ i from fun j h h' => by
          by_cases e : j = k
          · subst e; exact he
          · exact HN.out j (by omega) h')
        rw [decide_eq_false he] at hse
        clear he hc
        go_wp2
        go_roundw
        case rel => exact ⟨X, k + 1, rfl, by go_num, by omega, HN2, HB⟩
        case measure => simp [intOf]; omega
    · have HE := hide (atL_miss (L := L) (i := i) (fun j h => HN.out j (by omega) h)).1
      go_wp2
      go_ret
      exact ⟨by rw [HE.out]; rfl, HB.out⟩

set_option maxHeartbeats 4000000 in
theorem l09Begin_any (vs vp : Value) (xs : List ByteArray) (ps : List (Int × ByteArray)) (d : ByteArray) (w : World) (hn : xs.length ≤ 1048576) (hn2 : ps.length ≤ 1048576) (hd : d.size ≤ 1048576) (hr : Reads w vs xs) (hp : ReadsP w vp ps) :
    Calls Tryz.prog 44 #[.agg #[vs, vp], .string d] w fun e w' => (∃ v, e = .returned (.tuple #[v, .int .i64 (forC xs ps d)]) ∧ (forC xs ps d = 0 → w'.ownsRow w.heap.size 72 2 v (itemsO xs ps).length (itc (itemsO xs ps)))) ∧ Below w.heap.size w w' := by
  have hb0 : Below w.heap.size w (w.alloc (.cells #[vs, vp] 29)) := (Below.refl _ _).alloc (Nat.le_refl _) _
  have HB0 := hide hb0
  have HR := hide (hr.below hb0 (Nat.le_refl _))
  have HP := hide (hp.below hb0 (Nat.le_refl _))
  obtain ⟨p1, c1, rfl, _⟩ := hr
  obtain ⟨p2, c2, rfl, _⟩ := hp
  clear hb0
  have hdm : d.size ≤ maxLen := by unfold maxLen; omega
  by_cases h8 : 8000 < d.size
  · have hE : forC xs ps d = 2 := by unfold forC; rw [if_pos h8]
    rw [hE]
    have h8i : (8000 : Int) < (d.size : Int) := by omega
    clear hE
    go_enter Tryz.func44, Tryz.ntmps44
    go_wp2
    go_ret2
    exact ⟨⟨_, rfl, fun h => absurd h (by decide)⟩, HB0.out⟩
  have h8i : ¬ (8000 : Int) < (d.size : Int) := by omega
  have HC := hide (l09Read_any (.slice p1 xs.length c1) (.slice p2 ps.length c2) xs ps _ hn hn2 HR.out HP.out)
  cases hk : keptO xs ps with
  | none =>
    have hE : forC xs ps d = 1 := by unfold forC; rw [if_neg h8, hk]; rfl
    rw [hE]
    rw [hk] at HC
    clear hE hk
    go_enter Tryz.func44, Tryz.ntmps44
    go_wp2_with fail
    refine HC.out.mono ?_
    rintro e w1 ⟨⟨v, rfl, _⟩, hb1⟩
    have HB1 := hide (HB0.out.trans (hb1.mono HB0.out.size))
    clear hb1
    go_wp2
    go_ret2
    exact ⟨⟨_, rfl, fun h => absurd h (by decide)⟩, HB1.out⟩
  | some L =>
    have HIT := hide (show itemsO xs ps = L by unfold itemsO; rw [hk]; rfl)
    rw [HIT.out]
    cases hid : idB d with
    | false =>
      have hE : forC xs ps d = 1 := by unfold forC; rw [if_neg h8, hk, if_neg (by simp), if_pos hid]
      rw [hE]
      rw [hk] at HC
      have HNR := hide (fun X : World => specNameRight_any d X hdm)
      rw [hid] at HNR
      clear hE hk hid
      go_enter Tryz.func44, Tryz.ntmps44
      go_wp2_with fail
      refine HC.out.mono ?_
      rintro e w1 ⟨⟨v, rfl, _⟩, hb1⟩
      have HB1 := hide (HB0.out.trans (hb1.mono HB0.out.size))
      clear hb1
      go_wp2_with fail
      refine (HNR.out _).mono ?_
      rintro e w2 ⟨rfl, h2⟩
      obtain rfl := h2.symm
      go_wp2
      go_ret2
      exact ⟨⟨_, rfl, fun h => absurd h (by decide)⟩, HB1.out⟩
    | true =>
      have hE : forC xs ps d = 0 := by unfold forC; rw [if_neg h8, hk, if_neg (by simp), if_neg (by rw [hid]; simp)]
      rw [hE]
      rw [hk] at HC
      have HNR := hide (fun X : World => specNameRight_any d X hdm)
      rw [hid] at HNR
      clear hE hk hid
      go_enter Tryz.func44, Tryz.ntmps44
      go_wp2_with fail
      refine HC.out.mono ?_
      rintro e w1 ⟨⟨v, rfl, hO⟩, hb1⟩
      have HB1 := hide (HB0.out.trans (hb1.mono HB0.out.size))
      have HOI := hide (own_baseX (hO L rfl) HB0.out.size)
      clear hb1 hO
      go_wp2_with fail
      refine (HNR.out _).mono ?_
      rintro e w2 ⟨rfl, h2⟩
      obtain rfl := h2.symm
      go_wp2
      go_ret2
      exact ⟨⟨_, rfl, fun _ => HOI.out⟩, HB1.out⟩

theorem getEnd {w W Z V : World} {us up : Value} {xs : List ByteArray} {ps : List (Int × ByteArray)} {t : ByteArray} (h0 : Below w.heap.size w W) (hz : Below W.heap.size W Z) (hws : w.heap.size + 2 = W.heap.size) (k : Kept [w.heap.size + 1] Z V)
    (o1 : OwnS 9 (w.heap.size + 2) Z us xs) (o2 : OwnP 73 (w.heap.size + 2) Z up ps) (dd : ∀ x ∈ leads us, x ∉ leads up) :
    KOutIs w.heap.size (.returned (.agg #[us, up, .string t, .int .i64 0])) V ⟨xs, ps, t, 0⟩ ∧ Below w.heap.size w V := by
  have hb := h0.trans (hz.mono h0.size)
  refine ⟨⟨us, up, rfl, (o1.kept k ?_).mono (by omega), (o2.kept k ?_).mono (by omega), dd⟩, k.toBelow hb hb.size (by simp)⟩
  · intro x hx
    have := (o1.leads x hx).1
    simp
    omega
  · intro x hx
    have := (o2.leads x hx).1
    simp
    omega

set_option maxHeartbeats 8000000 in
set_option maxRecDepth 100000 in
theorem specStoreGet_any (vs vp : Value) (xs : List ByteArray) (ps : List (Int × ByteArray)) (d : ByteArray) (w : World) (hn : xs.length ≤ 1048576) (hn2 : ps.length ≤ 1048576) (hd : d.size ≤ 1048576) (hr : Reads w vs xs) (hp : ReadsP w vp ps) :
    Calls Tryz.prog 25 #[.agg #[vs, vp], .string d] w fun e w' => KOutIs w.heap.size e w' (getO xs ps d) ∧ Below w.heap.size w w' := by
  have HR := hide hr
  have HP := hide hp
  obtain ⟨p1, c1, rfl, _⟩ := hr
  obtain ⟨p2, c2, rfl, _⟩ := hp
  obtain ⟨W, hW⟩ : ∃ W, W = (w.alloc (.cells #[.slice p1 xs.length c1, .slice p2 ps.length c2] 29)).alloc (.cells #[.slice none 0 0, .slice none 0 0, .string ⟨#[]⟩, .int .i64 0] 51) := ⟨_, rfl⟩
  have HB0 := hide (show Below w.heap.size w W by rw [hW]; exact ((Below.refl _ _).alloc (Nat.le_refl _) _).alloc (by simp) _)
  have HWS := hide (show w.heap.size + 2 = W.heap.size by rw [hW]; simp)
  have HRD := hide (show Row W w.heap.size 29 [.slice p1 xs.length c1, .slice p2 ps.length c2] by rw [hW]; exact (row_new w _ _).alloc _)
  have HRO := hide (show Row W (w.heap.size + 1) 51 [.slice none 0 0, .slice none 0 0, .string ⟨#[]⟩, .int .i64 0] by
    rw [hW]
    have := row_new (w.alloc (.cells #[.slice p1 xs.length c1, .slice p2 ps.length c2] 29)) [.slice none 0 0, .slice none 0 0, .string ⟨#[]⟩, .int .i64 0] 51
    simpa using this)
  have HR1 := hide (HR.out.below HB0.out (Nat.le_refl _))
  have HP1 := hide (HP.out.below HB0.out (Nat.le_refl _))
  obtain ⟨C, hC⟩ : ∃ C, C = forC xs ps d := ⟨_, rfl⟩
  have HCE := hide hC
  obtain ⟨o, ho⟩ : ∃ o, o = getO xs ps d := ⟨_, rfl⟩
  have HOE := hide ho
  rw [← ho]
  clear hC ho
  go_enter Tryz.func25, Tryz.ntmps25
  go_wp2_with fail
  rw [← hW]
  clear hW
  refine (l09Begin_any _ _ xs ps d _ hn hn2 hd HR1.out HP1.out).mono ?_
  rw [← HCE.out]
  rintro e w1 ⟨⟨v, rfl, hO⟩, hb1⟩
  have HZ1 := hide hb1
  have HB1 := hide (HB0.out.trans (hb1.mono HB0.out.size))
  have HRO1 := hide (HRO.out.below hb1 HRO.out.lt)
  have HRD1 := hide (HRD.out.below hb1 HRD.out.lt)
  have HOI := hide hO
  clear hb1 hO
  by_cases hc : C = 0
  rotate_left
  · have HE := hide (show o = kill C by rw [HOE.out, getO, ← HCE.out, if_pos hc])
    have hcb : (C != 0) = true := by simpa using hc
    clear hc
    go_wp2_with fail
    refine (l09Ill_any C _).mono ?_
    rintro e w2 ⟨rfl, hb2⟩
    have HB2 := hide (HB1.out.trans (hb2.mono HB1.out.size))
    have HRO2 := hide (HRO1.out.below hb2 HRO1.out.lt)
    clear hb2
    have g0 : w2.cell? ⟨w.heap.size + 1, 0, none⟩ = some (.slice none 0 0) := HRO2.out.cell 0
    have h0 := HRO2.out.free 0
    have g1 : w2.cell? ⟨w.heap.size + 1, 1, none⟩ = some (.slice none 0 0) := HRO2.out.cell 1
    have h1 := HRO2.out.free 1
    have g2 : w2.cell? ⟨w.heap.size + 1, 2, none⟩ = some (.string ⟨#[]⟩) := HRO2.out.cell 2
    have h2 := HRO2.out.free 2
    have g3 : w2.cell? ⟨w.heap.size + 1, 3, none⟩ = some (.int .i64 0) := HRO2.out.cell 3
    have h3 := HRO2.out.free 3
    go_wp2
    obtain ⟨r0, r1, r2, r3, KG⟩ := four HRO2.out (.slice none 0 0) (.slice none 0 0) (.string ⟨#[]⟩) (.int .i64 C)
    exact bodyPost_ret (v := .agg #[.slice none 0 0, .slice none 0 0, .string ⟨#[]⟩, .int .i64 C]) (by simp [results, Tryz.results25, go_sem, r0, r1, r2, r3]) rfl ⟨by rw [HE.out]; exact KOutIs.ill _ _ _, KG.toBelow HB2.out HB2.out.size (by simp)⟩
  subst hc
  obtain ⟨_, hkk, _⟩ := forC_ok HCE.out.symm
  obtain ⟨L, hL⟩ : ∃ L, L = itemsO xs ps := ⟨_, rfl⟩
  rw [← hL] at hkk HOI
  have hlen := (keptO_items hkk).2.2
  have HOJ := hide (HOI.out rfl)
  have HRI := hide (readsIt_of HOJ.out)
  have HGE := hide (show o = match L.find? (sameId d) with
    | none => kill 6
    | some p => ⟨xs, ps, p.2, 0⟩ by rw [HOE.out, getO, ← HCE.out, if_neg (by simp), hL])
  clear hL hkk
  go_wp2_with fail
  refine (l09At_any _ L d _ HRI.out (by omega)).mono ?_
  rcases atL_cases L d with ⟨k, hk, e1, e2, e3, _⟩ | ⟨e1, e2⟩
  rotate_left
  · have HE := hide (show o = kill 6 by rw [HGE.out, e2])
    rw [e1]
    clear e1 e2
    rintro e w2 ⟨rfl, hb2⟩
    have HB2 := hide (HB1.out.trans (hb2.mono HB1.out.size))
    have HRO2 := hide (HRO1.out.below hb2 HRO1.out.lt)
    clear hb2
    go_wp2_with fail
    refine (l09Ill_any 6 _).mono ?_
    rintro e w3 ⟨rfl, hb3⟩
    have HB3 := hide (HB2.out.trans (hb3.mono HB2.out.size))
    have HRO3 := hide (HRO2.out.below hb3 HRO2.out.lt)
    clear hb3
    have g0 : w3.cell? ⟨w.heap.size + 1, 0, none⟩ = some (.slice none 0 0) := HRO3.out.cell 0
    have h0 := HRO3.out.free 0
    have g1 : w3.cell? ⟨w.heap.size + 1, 1, none⟩ = some (.slice none 0 0) := HRO3.out.cell 1
    have h1 := HRO3.out.free 1
    have g2 : w3.cell? ⟨w.heap.size + 1, 2, none⟩ = some (.string ⟨#[]⟩) := HRO3.out.cell 2
    have h2 := HRO3.out.free 2
    have g3 : w3.cell? ⟨w.heap.size + 1, 3, none⟩ = some (.int .i64 0) := HRO3.out.cell 3
    have h3 := HRO3.out.free 3
    go_wp2
    obtain ⟨r0, r1, r2, r3, KG⟩ := four HRO3.out (.slice none 0 0) (.slice none 0 0) (.string ⟨#[]⟩) (.int .i64 6)
    exact bodyPost_ret (v := .agg #[.slice none 0 0, .slice none 0 0, .string ⟨#[]⟩, .int .i64 6]) (by simp [results, Tryz.results25, go_sem, r0, r1, r2, r3]) rfl ⟨by rw [HE.out]; exact KOutIs.ill _ _ _, KG.toBelow HB3.out HB3.out.size (by simp)⟩
  rw [e1]
  have HE := hide (show o = ⟨xs, ps, (L[k]'hk).2, 0⟩ by rw [HGE.out, e3])
  clear e1 e2 e3
  rintro e X ⟨rfl, hb2⟩
  have HX0 := hide (HZ1.out.trans (hb2.mono HZ1.out.size))
  have HDX := hide (HRD1.out.below hb2 HRD1.out.lt)
  have HRIX := hide (HRI.out.below hb2 (Nat.le_refl _))
  clear HZ1
  clear hb2
  obtain ⟨pp, cap, rfl, _, hcm, h4⟩ := HRIX.out
  obtain ⟨g, off, rfl, hg, hcc⟩ := h4 (by omega)
  have HCX := hide (hcc k hk).2
  obtain ⟨tX, htX⟩ : ∃ tX, tX = (L[k]'hk).2 := ⟨_, rfl⟩
  rw [← htX] at HCX HE
  have hki : (k : Int) < (L.length : Int) := by omega
  have hkn : ¬ (k : Int) < 0 := by omega
  unfold maxLen at hcm
  have HGB := hide (show w.heap.size + 2 ≤ g from by have := (HOJ.out.lt g rfl).1; have := HWS.out; omega)
  clear htX hcc h4
  go_upto_region 7 with fail
  refine wp_region_held (S := fun y : World => y.cell? ⟨w.heap.size, 0, none⟩ = some (.slice p1 xs.length c1) ∧ y.cell? ⟨w.heap.size, 1, none⟩ = some (.slice p2 ps.length c2) ∧ y.cell? ⟨g, off + k * 2 + 1, none⟩ = some (.string tX)) (by kernel_rfl) ?_
  have HSS := hide (show ∀ y : World, Below X.heap.size X y → (y.cell? ⟨w.heap.size, 0, none⟩ = some (.slice p1 xs.length c1) ∧ y.cell? ⟨w.heap.size, 1, none⟩ = some (.slice p2 ps.length c2) ∧ y.cell? ⟨g, off + k * 2 + 1, none⟩ = some (.string tX)) from
    fun y hb => ⟨(HDX.out.below hb HDX.out.lt).cell 0, (HDX.out.below hb HDX.out.lt).cell 1, (hb.cell (p := ⟨g, off + k * 2 + 1, none⟩) hg).trans HCX.out⟩)
  have HSK := hide (show ∀ (y v : World), Below X.heap.size X y → Kept [w.heap.size + 1] y v → (v.cell? ⟨w.heap.size, 0, none⟩ = some (.slice p1 xs.length c1) ∧ v.cell? ⟨w.heap.size, 1, none⟩ = some (.slice p2 ps.length c2) ∧ v.cell? ⟨g, off + k * 2 + 1, none⟩ = some (.string tX)) from
    fun y v hb kk => ⟨(kk.row (HDX.out.below hb HDX.out.lt) (by simp)).cell 0, (kk.row (HDX.out.below hb HDX.out.lt) (by simp)).cell 1, kk.cell ((hb.cell (p := ⟨g, off + k * 2 + 1, none⟩) hg).trans HCX.out) (by have := HGB.out; simp; omega)⟩)
  have HZ1 := hide (show Below X.heap.size X { X with drawn := X.drawn + 1 } from (Below.refl _ X).drew)
  generalize ({ X with drawn := X.drawn + 1 } : World) = Z1 at HZ1 ⊢
  have HS := hide (HSS.out _ HZ1.out)
  refine wpAnyH_take (i := 0) (oi := _) (v := .agg #[.slice p1 xs.length c1, .slice p2 ps.length c2]) rfl (by kernel_rfl) (by kernel_rfl) (by kernel_rfl) (fun _ _ _ h => h) (Or.inl ⟨by rfl, by intro w hSw; go_split_ands; go_simp <;> omega⟩) HS.out ?_
  simp only [Act.put, List.getElem_toArray, List.getElem_cons_zero, List.setIfInBounds_toArray, List.set_cons_zero, List.set_cons_succ]
  refine wpAnyH_take (i := 2) (oi := _) (v := .slice (some ⟨g, off, none⟩) L.length cap) rfl (by kernel_rfl) (by kernel_rfl) (by kernel_rfl) (fun _ _ _ h => h) (Or.inl ⟨by rfl, by intro w hSw; go_split_ands; go_simp <;> omega⟩) HS.out ?_
  simp only [Act.put, List.getElem_toArray, List.getElem_cons_zero, List.getElem_cons_succ, List.setIfInBounds_toArray, List.set_cons_zero, List.set_cons_succ]
  refine wpAnyH_take (i := 3) (oi := _) (v := .int .i64 (k : Int)) rfl (by kernel_rfl) (by kernel_rfl) (by kernel_rfl) (fun _ _ _ h => h) (Or.inl ⟨by rfl, by intro w hSw; go_split_ands; go_simp <;> omega⟩) HS.out ?_
  simp only [Act.put, List.getElem_toArray, List.getElem_cons_zero, List.getElem_cons_succ, List.setIfInBounds_toArray, List.set_cons_zero, List.set_cons_succ]
  refine wpAnyH_take (i := 4) (oi := _) (v := .pointer (some ⟨g, off + k * 2, none⟩)) rfl (by kernel_rfl) (by kernel_rfl) (by kernel_rfl) (fun _ _ _ h => h) (Or.inl ⟨by rfl, by intro w hSw; go_split_ands; go_simp <;> omega⟩) HS.out ?_
  simp only [Act.put, List.getElem_toArray, List.getElem_cons_zero, List.getElem_cons_succ, List.setIfInBounds_toArray, List.set_cons_zero, List.set_cons_succ]
  refine wpAnyH_take (i := 5) (oi := _) (v := .pointer (some ⟨g, off + k * 2 + 1, none⟩)) rfl (by kernel_rfl) (by kernel_rfl) (by kernel_rfl) (fun _ _ _ h => h) (Or.inl ⟨by rfl, by intro w hSw; go_split_ands; go_simp <;> omega⟩) HS.out ?_
  simp only [Act.put, List.getElem_toArray, List.getElem_cons_zero, List.getElem_cons_succ, List.setIfInBounds_toArray, List.set_cons_zero, List.set_cons_succ]
  refine wpAnyH_take (i := 6) (oi := _) (v := .string tX) rfl (by kernel_rfl) (by kernel_rfl) (by kernel_rfl) (fun _ _ _ h => h) (Or.inl ⟨by rfl, by intro w hSw; go_split_ands; go_simp <;> omega⟩) HS.out ?_
  simp only [Act.put, List.getElem_toArray, List.getElem_cons_zero, List.getElem_cons_succ, List.setIfInBounds_toArray, List.set_cons_zero, List.set_cons_succ]
  refine wpAnyH_ready (rs := [1]) (by kernel_rfl) (by simp) ?_
  refine AllReadyH.cons (o := _) rfl (fun K hK => ?_) AllReadyH.nil
  go_simp
  refine (l02Copy_any _ _ xs ps _ hn hn2 (HR1.out.below (HX0.out.trans (HZ1.out.mono HX0.out.size)) (Nat.le_refl _)) (HP1.out.below (HX0.out.trans (HZ1.out.mono HX0.out.size)) (Nat.le_refl _))).mono ?_
  rintro e Z2 ⟨us, up, rfl, o1, o2, dd, _, hbc⟩
  obtain ⟨s1, s2, s3, rfl⟩ := o1.isSlice
  obtain ⟨s4, s5, s6, rfl⟩ := o2.isSlice
  have hge : w.heap.size + 2 ≤ Z1.heap.size := by
    have h1 := HWS.out
    have h2 := HX0.out.size
    have h3 := HZ1.out.size
    omega
  have O1 := hide (o1.mono hge)
  have O2 := hide (o2.mono hge)
  have DD := hide dd
  have HZ2 := hide (HZ1.out.trans (hbc.mono HZ1.out.size))
  have HZW := hide (HX0.out.trans (HZ2.out.mono HX0.out.size))
  have HRZ := hide (HRO.out.below HZW.out HRO.out.lt)
  clear hbc o1 o2 dd hge
  refine hK.out _ _ (HSS.out _ HZ2.out) (fun _ => ?_)
  clear hK K HS
  have HS := hide (HSS.out _ HZ2.out)
  try simp only [Act.put, List.getElem_toArray, List.getElem_cons_zero, List.getElem_cons_succ, List.setIfInBounds_toArray, List.set_cons_zero, List.set_cons_succ]
  refine wpAnyH_take (i := 7) (oi := _) (v := .agg #[.slice s1 s2 s3, .slice s4 s5 s6, .string tX, .int .i64 0]) rfl (by kernel_rfl) (by kernel_rfl) (by kernel_rfl) (fun _ _ _ h => h) (Or.inl ⟨by rfl, by intro w hSw; go_split_ands; go_simp <;> omega⟩) HS.out ?_
  simp only [Act.put, List.getElem_toArray, List.getElem_cons_zero, List.getElem_cons_succ, List.setIfInBounds_toArray, List.set_cons_zero, List.set_cons_succ]
  refine wpAnyH_ready (rs := [8]) (by kernel_rfl) (by simp) ?_
  refine AllReadyH.cons (o := _) rfl (fun K hK => ?_) AllReadyH.nil
  have d0 : Z2.cell? ⟨w.heap.size + 1, 0, none⟩ = some (.slice none 0 0) := HRZ.out.cell 0
  have d1 : Z2.cell? ⟨w.heap.size + 1, 1, none⟩ = some (.slice none 0 0) := HRZ.out.cell 1
  have d2 : Z2.cell? ⟨w.heap.size + 1, 2, none⟩ = some (.string ⟨#[]⟩) := HRZ.out.cell 2
  have d3 : Z2.cell? ⟨w.heap.size + 1, 3, none⟩ = some (.int .i64 0) := HRZ.out.cell 3
  have f0 := HRZ.out.free 0
  have f1 := HRZ.out.free 1
  have f2 := HRZ.out.free 2
  have f3 := HRZ.out.free 3
  obtain ⟨r0, r1, r2, r3, KG⟩ := four HRZ.out (.slice s1 s2 s3) (.slice s4 s5 s6) (.string tX) (.int .i64 0)
  have HSF := hide (HSK.out _ _ HZ2.out KG)
  have HQ := hide (And.intro r0 (And.intro r1 (And.intro r2 r3)))
  have HKG := hide KG
  clear r0 r1 r2 r3 KG
  go_simp
  refine hK.out _ _ HSF.out (fun _ => ?_)
  clear hK K d0 d1 d2 d3 f0 f1 f2 f3 HS
  refine wpAnyH_done (by kernel_rfl) ?_ _
  go_wp2
  exact bodyPost_ret (v := .agg #[.slice s1 s2 s3, .slice s4 s5 s6, .string tX, .int .i64 0]) (by simp [results, Tryz.results25, go_sem, HQ.out.1, HQ.out.2.1, HQ.out.2.2.1, HQ.out.2.2.2]) rfl
    (by rw [HE.out]; exact getEnd HB0.out HZW.out HWS.out HKG.out O1.out O2.out DD.out)
end Go.Proofs.YtbhdbkffejlfmaaGreatDoor
