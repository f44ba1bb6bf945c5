/- What is read of an area behind a put, wherever the power goes: plain mathematics. -/
import Derived.Test.YtkmehbgepkilkaaGreatDoorXGSARead
import Derived.Test.YtkmehbgepkilkaaGreatDoorXGNOwn
import Derived.Test.YtkmehbgepkilkaaGreatDoorXGSCopy
import Derived.Test.YtkmehbgepkilkaaGreatDoorXGIBank
import Derived.Test.YtkmehbgepkilkaaGreatDoorXGDrawDisk2
import Derived.Test.YtkmehbgepkilkaaGreatDoorXGDraw2
import Derived.Test.YtkmehbgepkilkaaGreatDoorXGSFormat
import Derived.Test.YtkmehbgepkilkaaGreatDoorXGSSeen
namespace Go.Proofs.YtkmehbgepkilkaaGreatDoor
open Go.RowKit
theorem lastAt_app (i : Int) : ∀ (a b : List (Int × ByteArray)) (x : ByteArray), lastAt i (a ++ b) x = lastAt i b (lastAt i a x)
  | [], _, _ => rfl
  | p :: r, b, x => by rw [List.cons_append, lastAt, lastAt_app i r b, lastAt]
theorem lastAt_not (i : Int) : ∀ (ps : List (Int × ByteArray)) (x : ByteArray), (∀ p ∈ ps, p.1 ≠ i) → lastAt i ps x = x
  | [], _, _ => rfl
  | p :: r, x, h => by
    rw [lastAt, if_neg (h p List.mem_cons_self)]
    exact lastAt_not i r x (fun q hq => h q (List.mem_cons_of_mem _ hq))
/-- Writes to sectors one behind the other. -/
def rowW (base : Int) (f : Nat → ByteArray) (n : Nat) : List (Int × ByteArray) := (List.range n).map fun (k : Nat) => (base + (k : Int), f k)
theorem rowW_len (base : Int) (f : Nat → ByteArray) (n : Nat) : (rowW base f n).length = n := by simp [rowW]
theorem lastAt_range (base : Int) (f : Nat → ByteArray) (x : ByteArray) : ∀ (n j : Nat), j < n → lastAt (base + (j : Int)) (rowW base f n) x = f j
  | 0, _, h => absurd h (Nat.not_lt_zero _)
  | n + 1, j, h => by
    unfold rowW
    rw [List.range_succ, List.map_append, List.map_singleton, lastAt_app]
    by_cases hj : n = j
    · subst hj; simp [lastAt]
    · have := lastAt_range base f x n j (by omega)
      unfold rowW at this
      rw [this, lastAt, lastAt, if_neg (by simp only; omega)]
theorem rowW_mem {base : Int} {f : Nat → ByteArray} {n : Nat} {p : Int × ByteArray} (h : p ∈ rowW base f n) : ∃ k : Nat, k < n ∧ p.1 = base + (k : Int) := by
  unfold rowW at h
  obtain ⟨k, hk, rfl⟩ := List.mem_map.1 h
  exact ⟨k, List.mem_range.1 hk, rfl⟩
theorem full_same {f g : Nat → ByteArray} {size m : Nat} (h : ∀ j < m, f j = g j) : full f size m = full g size m := by
  unfold full
  rw [Bool.eq_iff_iff, List.all_eq_true, List.all_eq_true]
  constructor <;> intro H j hj
  · have := H j hj; rw [h j (List.mem_range.1 hj)] at this; exact this
  · have := H j hj; rw [h j (List.mem_range.1 hj)]; exact this
theorem gath_same {f g : Nat → ByteArray} {size : Nat} : ∀ m, (∀ j < m, f j = g j) → gath f size m = gath g size m
  | 0, _ => rfl
  | m + 1, h => by rw [gath, gath, gath_same m (fun j hj => h j (by omega)), h m (by omega)]
theorem piece_size {d : ByteArray} {k : Nat} (h : k < cuts d) : (piece d k).size = want d.size k := by
  unfold piece want
  unfold cuts at h
  rw [ByteArray.size_extract]
  omega
theorem full_piece (d : ByteArray) : full (piece d) d.size (cuts d) = true := by
  unfold full
  rw [List.all_eq_true]
  intro j hj
  rw [piece_size (List.mem_range.1 hj)]
  simp
theorem ext_whole (a : ByteArray) (n : Nat) (h : a.size = n) : a.extract 0 n = a := by rw [← h]; exact ByteArray.extract_zero_size
theorem gath_piece (d : ByteArray) : ∀ m, m ≤ cuts d → gath (piece d) d.size m = d.extract 0 (min d.size (64 * m))
  | 0, _ => by rw [gath]; simp; rfl
  | m + 1, h => by
    rw [gath, gath_piece d m (by omega), ext_whole _ _ (piece_size (by omega))]
    unfold piece
    unfold cuts at h
    rw [show min d.size (64 * m) = 64 * m by omega, ByteArray.extract_append_extract]
    congr 1 <;> omega
theorem seal_size (t : ByteArray) : (St1.sealOf t).size = t.size + 4 := by unfold St1.sealOf; rw [ByteArray.size_append, St1.four_size]
theorem seal_front (t : ByteArray) : (St1.sealOf t).extract 0 ((St1.sealOf t).size - 4) = t := by
  rw [seal_size, Nat.add_sub_cancel]
  unfold St1.sealOf
  exact ByteArray.extract_append_eq_left rfl
theorem app_lists (a b c : ByteArray) : a ++ b ++ c = ⟨(a.data.toList ++ b.data.toList ++ c.data.toList).toArray⟩ := by
  apply ByteArray.ext
  simp
theorem numText_len (n : Int) : (numText n).data.toList.length = (St2.enc n).length := by simp [numText, St2.bytesOf]
theorem nums_of (g s z : Int) (g0 : 0 ≤ g) (g1 : g ≤ 9223372036854775807) (s0 : 0 ≤ s) (s1 : s ≤ 1) (z0 : 0 ≤ z) (z1 : z ≤ 8000) : ∃ a b c, nums (numText g ++ numText s ++ numText z) = ((g, a, 0), (s, b, 0), (z, c, 0)) := by
  have h1 := St4.scan_in [] ((numText s).data.toList ++ (numText z).data.toList) g (by omega) (by omega)
  have h2 := St4.scan_in (numText g).data.toList (numText z).data.toList s (by omega) (by omega)
  have h3 := St4.scan_in ((numText g).data.toList ++ (numText s).data.toList) [] z (by omega) (by omega)
  have e1 : (⟨([] ++ (St2.bytesOf (St2.enc g)).data.toList ++ ((numText s).data.toList ++ (numText z).data.toList)).toArray⟩ : ByteArray) = numText g ++ numText s ++ numText z := by rw [app_lists]; simp [numText]
  have e2 : (⟨((numText g).data.toList ++ (St2.bytesOf (St2.enc s)).data.toList ++ (numText z).data.toList).toArray⟩ : ByteArray) = numText g ++ numText s ++ numText z := by rw [app_lists]; simp [numText]
  have e3 : (⟨((numText g).data.toList ++ (numText s).data.toList ++ (St2.bytesOf (St2.enc z)).data.toList ++ []).toArray⟩ : ByteArray) = numText g ++ numText s ++ numText z := by rw [app_lists]; simp [numText]
  rw [e1] at h1
  rw [e2, numText_len] at h2
  rw [e3, List.length_append, numText_len, numText_len] at h3
  simp only [List.length_nil, Int.natCast_zero, Int.zero_add] at h1
  refine ⟨((St2.enc g).length : Int), ((St2.enc g).length : Int) + (St2.enc s).length, (((St2.enc g).length + (St2.enc s).length : Nat) : Int) + (St2.enc z).length, ?_⟩
  unfold nums
  simp only [h1, Int.toNat_natCast, h2]
  rw [show ((((St2.enc g).length : Int) + ((St2.enc s).length : Int)).toNat) = (St2.enc g).length + (St2.enc s).length by omega, h3]
theorem seen_headA {xs : List ByteArray} {ps : List (Int × ByteArray)} {g s z : Int} (h : headText xs ps = headOf g s z) (g0 : 0 ≤ g) (g1 : g ≤ 9223372036854775807) (s0 : 0 ≤ s) (s1 : s ≤ 1) (z0 : 0 ≤ z) (z1 : z ≤ 64 * half xs.length) (z2 : z ≤ 8000) : seen xs ps = (g, s, z, 0) := by
  unfold seen
  simp only
  have hsz : ¬ (headOf g s z).size < 4 := by unfold headOf; rw [seal_size]; omega
  have hf : (headOf g s z).extract 0 ((headOf g s z).size - 4) = numText g ++ numText s ++ numText z := by unfold headOf; exact seal_front _
  rw [h, if_neg hsz, hf, if_neg (by unfold headOf; simp)]
  obtain ⟨a, b, c, hn⟩ := nums_of g s z g0 g1 s0 s1 z0 z2
  rw [hn]
  simp only
  rw [if_pos (by simp only [true_and]; exact ⟨g0, ⟨s0, s1⟩, z0, z1⟩)]
theorem seen_same {xs xs' : List ByteArray} {ps ps' : List (Int × ByteArray)} (hh : headText xs' ps' = headText xs ps) (hl : xs'.length = xs.length) : seen xs' ps' = seen xs ps := by
  unfold seen
  simp only [hh, hl]
theorem read_new {xs : List ByteArray} {ps : List (Int × ByteArray)} {d : ByteArray} {g s : Int} (hr : right xs ps = true) (hd : (d.size : Int) ≤ 64 * half xs.length) (h8 : d.size ≤ 8000) (g0 : 0 ≤ g) (g1 : g ≤ 9223372036854775807) (s0 : 0 ≤ s) (s1 : s ≤ 1)
    (hh : headText xs ps = headOf g s d.size) (hs : ∀ j < cuts d, sideAt xs ps s j = piece d j) : areaOut xs ps = ⟨xs, ps, d, g, 0⟩ := by
  have hse := seen_headA hh g0 g1 s0 s1 (by omega) hd (by omega)
  unfold areaOut
  rw [if_neg (by rw [hr]; simp), hse]
  simp only [Int.toNat_natCast]
  rw [if_neg (by simp), full_same (m := (d.size + 63) / 64) (fun j hj => hs j hj), gath_same ((d.size + 63) / 64) (fun j hj => hs j hj)]
  have := full_piece d
  have e := gath_piece d (cuts d) (Nat.le_refl _)
  unfold cuts at this e
  rw [if_pos this, e, ext_whole d _ (by omega)]
theorem read_old {xs xs' : List ByteArray} {ps ps' : List (Int × ByteArray)} (hr : right xs ps = true) (hr' : right xs' ps' = true) (hc : (areaOut xs ps).c = 0) (hl : xs'.length = xs.length) (hh : headText xs' ps' = headText xs ps)
    (hs : ∀ j : Nat, (j : Int) < half xs.length → sideAt xs' ps' (seen xs ps).2.1 j = sideAt xs ps (seen xs ps).2.1 j) : areaOut xs' ps' = ⟨xs', ps', (areaOut xs ps).t, (areaOut xs ps).g, 0⟩ := by
  have hse := seen_same hh hl
  obtain ⟨hc4, _⟩ := areaOut_ok hr hc
  have hz := (seen_ok hc4).2.2
  have hj : ∀ j < ((seen xs ps).2.2.1.toNat + 63) / 64, sideAt xs' ps' (seen xs ps).2.1 j = sideAt xs ps (seen xs ps).2.1 j := fun j hj => hs j (by omega)
  have e : areaOut xs ps = if full (sideAt xs ps (seen xs ps).2.1) (seen xs ps).2.2.1.toNat (((seen xs ps).2.2.1.toNat + 63) / 64) = true then ⟨xs, ps, gath (sideAt xs ps (seen xs ps).2.1) (seen xs ps).2.2.1.toNat (((seen xs ps).2.2.1.toNat + 63) / 64), (seen xs ps).1, 0⟩ else aill 5 := by
    unfold areaOut
    rw [if_neg (by rw [hr]; simp), if_neg (by simpa using hc4)]
  have e' : areaOut xs' ps' = if full (sideAt xs ps (seen xs ps).2.1) (seen xs ps).2.2.1.toNat (((seen xs ps).2.2.1.toNat + 63) / 64) = true then ⟨xs', ps', gath (sideAt xs ps (seen xs ps).2.1) (seen xs ps).2.2.1.toNat (((seen xs ps).2.2.1.toNat + 63) / 64), (seen xs ps).1, 0⟩ else aill 5 := by
    unfold areaOut
    rw [if_neg (by rw [hr']; simp), hse, if_neg (by simpa using hc4), full_same hj, gath_same _ hj]
  rw [e] at hc ⊢
  rw [e']
  split at hc
  · rename_i h; rw [if_pos h, if_pos h]
  · simp [aill] at hc
theorem run_cons {s : Bool × Int × ByteArray} {r : List (Bool × Int × ByteArray)} {xs : List ByteArray} {ps : List (Int × ByteArray)} (h : (runOut (s :: r) xs ps).c = 0) : (stepOut s xs ps).c = 0 ∧ runOut (s :: r) xs ps = runOut r (stepOut s xs ps).xs (stepOut s xs ps).ps := by
  rw [runOut] at h ⊢
  by_cases hc : (stepOut s xs ps).c = 0
  · rw [if_pos hc]; exact ⟨hc, rfl⟩
  · rw [if_neg hc] at h; exact absurd h hc
theorem run_app : ∀ (a b : List (Bool × Int × ByteArray)) (xs : List ByteArray) (ps : List (Int × ByteArray)), (runOut (a ++ b) xs ps).c = 0 → runOut (a ++ b) xs ps = runOut b (runOut a xs ps).xs (runOut a xs ps).ps ∧ (runOut a xs ps).c = 0
  | [], _, _, _, _ => ⟨rfl, rfl⟩
  | s :: r, b, xs, ps, h => by
    rw [List.cons_append] at h ⊢
    obtain ⟨h1, h2⟩ := run_cons h
    rw [h2] at h ⊢
    have := run_app r b _ _ h
    rw [runOut, if_pos h1]
    exact this
def asW (ws : List (Int × ByteArray)) : List (Bool × Int × ByteArray) := ws.map fun p => (false, p.1, p.2)
theorem write_state {xs : List ByteArray} {ps : List (Int × ByteArray)} {a : Int} {t : ByteArray} (h : (stepOut (false, a, t) xs ps).c = 0) : stepOut (false, a, t) xs ps = ⟨xs, ps ++ [(a, t)], ⟨#[]⟩, 0⟩ ∧ 0 ≤ a ∧ a ≤ (xs.length : Int) - 1 := by
  unfold stepOut at h ⊢
  rw [if_neg (by simp)] at h ⊢
  unfold writeOut at h ⊢
  split at h
  · simp [illOut] at h
  · rename_i h1
    split at h
    · simp [illOut] at h
    · rename_i h2
      split at h
      · rename_i h3
        split at h
        · simp [illOut] at h
        · rename_i h4
          rw [if_neg h1, if_neg h2, if_pos h3, if_neg h4]
          exact ⟨rfl, h3⟩
      · simp [illOut] at h
theorem run_writes : ∀ (ws : List (Int × ByteArray)) (xs : List ByteArray) (ps : List (Int × ByteArray)), (runOut (asW ws) xs ps).c = 0 → runOut (asW ws) xs ps = ⟨xs, ps ++ ws, ⟨#[]⟩, 0⟩
  | [], xs, ps, _ => by simp [asW, runOut]
  | p :: r, xs, ps, h => by
    obtain ⟨h1, h2⟩ := run_cons (s := (false, p.1, p.2)) (r := asW r) h
    obtain ⟨h3, _⟩ := write_state h1
    have e : asW (p :: r) = (false, p.1, p.2) :: asW r := rfl
    rw [e] at h ⊢
    rw [h2] at h ⊢
    rw [h3] at h ⊢
    rw [run_writes r _ _ h, List.append_assoc]
    rfl
theorem run_flush {xs : List ByteArray} {ps : List (Int × ByteArray)} {a : Int} {t : ByteArray} (h : right xs ps = true) : runOut [(true, a, t)] xs ps = ⟨applyP ps xs, [], ⟨#[]⟩, 0⟩ := by
  have e : stepOut (true, a, t) xs ps = ⟨applyP ps xs, [], ⟨#[]⟩, 0⟩ := by unfold stepOut; rw [if_pos rfl]; unfold flushOut; rw [if_pos h]
  rw [runOut, e, if_pos rfl, runOut]
theorem run_right : ∀ (ss : List (Bool × Int × ByteArray)) (xs : List ByteArray) (ps : List (Int × ByteArray)), right xs ps = true → (runOut ss xs ps).c = 0 → right (runOut ss xs ps).xs (runOut ss xs ps).ps = true ∧ (runOut ss xs ps).xs.length = xs.length
  | [], _, _, h, _ => ⟨h, rfl⟩
  | s :: r, xs, ps, h, hc => by
    obtain ⟨h1, h2⟩ := run_cons hc
    rw [h2] at hc ⊢
    obtain ⟨h3, h4⟩ := run_right r _ _ (stepOut_right h h1) hc
    exact ⟨h3, h4.trans (stepOut_len h1)⟩
/-- The writes of a put to the other side. -/
def putW (h side : Int) (d : ByteArray) : List (Int × ByteArray) := rowW (1 + (1 - side) * h) (piece d) (cuts d)
theorem putList_eqA (h side gen : Int) (d : ByteArray) : putList h side gen d = asW (putW h side d) ++ [(true, 0, ⟨#[]⟩), (false, 0, headOf (gen + 1) (1 - side) d.size), (true, 0, ⟨#[]⟩)] := by
  unfold putList asW putW rowW
  rw [List.map_map]
  rfl
theorem asW_take (ws : List (Int × ByteArray)) (k : Nat) : (asW ws).take k = asW (ws.take k) := by unfold asW; rw [List.map_take]
theorem asW_len (ws : List (Int × ByteArray)) : (asW ws).length = ws.length := by simp [asW]
/-- Where a put stands behind its first steps. -/
theorem run_put {xs : List ByteArray} {ps : List (Int × ByteArray)} (h side gen : Int) (d : ByteArray) (a : Nat) (hr : right xs ps = true) (hc : (runOut ((putList h side gen d).take a) xs ps).c = 0) (o : Out) (ho : o = runOut ((putList h side gen d).take a) xs ps) :
    (∃ k, a ≤ cuts d ∧ o.xs = xs ∧ o.ps = ps ++ (putW h side d).take k) ∨
    (a = cuts d + 1 ∧ o.xs = applyP (ps ++ putW h side d) xs ∧ o.ps = []) ∨
    (a = cuts d + 2 ∧ o.xs = applyP (ps ++ putW h side d) xs ∧ o.ps = [(0, headOf (gen + 1) (1 - side) d.size)]) ∨
    (cuts d + 3 ≤ a ∧ o.xs = applyP [(0, headOf (gen + 1) (1 - side) d.size)] (applyP (ps ++ putW h side d) xs) ∧ o.ps = []) := by
  have hlen : (asW (putW h side d)).length = cuts d := by rw [asW_len]; unfold putW; rw [rowW_len]
  rw [putList_eqA] at hc ho
  by_cases h1 : a ≤ cuts d
  · left
    rw [List.take_append_of_le_length (by omega), asW_take] at hc ho
    rw [run_writes _ _ _ hc] at ho
    exact ⟨a, h1, by rw [ho], by rw [ho]⟩
  · right
    rw [List.take_append, List.take_of_length_le (by omega), hlen] at hc ho
    obtain ⟨e, hc1⟩ := run_app _ _ _ _ hc
    have hrr := (run_right _ _ _ hr hc1).1
    rw [e] at hc ho
    have hw := run_writes _ _ _ hc1
    rw [hw] at hc ho hrr
    simp only at hc ho hrr
    have hf := run_flush (a := 0) (t := ⟨#[]⟩) hrr
    have hr1 := rightFlush hrr
    obtain ⟨m, rfl⟩ : ∃ m, a = cuts d + 1 + m := ⟨a - cuts d - 1, by omega⟩
    rw [show cuts d + 1 + m - cuts d = m + 1 by omega, List.take_succ_cons] at hc ho
    obtain ⟨e2, hc2⟩ := run_app [(true, 0, ⟨#[]⟩)] _ _ _ hc
    rw [List.singleton_append] at e2
    rw [e2] at hc ho
    rw [hf] at hc ho
    simp only at hc ho
    rcases m with _ | _ | m
    · left
      rw [List.take_zero, runOut] at ho
      exact ⟨rfl, by rw [ho], by rw [ho]⟩
    · right; left
      rw [List.take_succ_cons, List.take_zero] at hc ho
      obtain ⟨h5, h6⟩ := run_cons hc
      obtain ⟨h7, _⟩ := write_state h5
      rw [h6, h7, runOut] at ho
      exact ⟨rfl, by rw [ho], by rw [ho]; rfl⟩
    · right; right
      rw [List.take_succ_cons, List.take_succ_cons, List.take_nil] at hc ho
      obtain ⟨h5, h6⟩ := run_cons hc
      obtain ⟨h7, h8, h9⟩ := write_state h5
      have hr2 := stepOut_right hr1 h5
      rw [h7] at h6 hr2
      simp only [List.nil_append] at h6 hr2
      rw [h6, run_flush hr2] at ho
      exact ⟨by omega, by rw [ho], by rw [ho]⟩
theorem half_bd {n : Nat} (h : 1 ≤ n) : 0 ≤ half n ∧ 2 * half n ≤ (n : Int) - 1 := by unfold half; omega
theorem cuts_le {d : ByteArray} {h : Int} (hd : (d.size : Int) ≤ 64 * h) : (cuts d : Int) ≤ h := by unfold cuts; omega
theorem right_sub {xs : List ByteArray} {ps qs : List (Int × ByteArray)} (h : right xs ps = true) (hl : qs.length ≤ ps.length) (hs : ∀ q ∈ qs, q ∈ ps) : right xs qs = true := by
  unfold right okP at h ⊢
  simp only [Bool.and_eq_true, decide_eq_true_eq, List.all_eq_true] at h ⊢
  exact ⟨⟨⟨h.1.1.1, by omega⟩, h.1.2⟩, fun q hq => h.2 q (hs q hq)⟩
theorem right_pos {xs : List ByteArray} {ps : List (Int × ByteArray)} (h : right xs ps = true) : ∀ p ∈ ps, 0 ≤ p.1 := by
  intro p hp
  obtain ⟨j, hj, rfl⟩ := List.getElem_of_mem hp
  exact (right_at h j hj).1
theorem putW_mem {h s : Int} {d : ByteArray} {q : Int × ByteArray} (hq : q ∈ putW h s d) : ∃ k : Nat, k < cuts d ∧ q.1 = 1 + (1 - s) * h + (k : Int) := rowW_mem hq
theorem putW_pos {h s : Int} {d : ByteArray} (hh : 0 ≤ h) (s0 : 0 ≤ s) (s1 : s ≤ 1) {q : Int × ByteArray} (hq : q ∈ putW h s d) : 0 < q.1 := by
  obtain ⟨k, _, e⟩ := putW_mem hq
  have : 0 ≤ (1 - s) * h := Int.mul_nonneg (by omega) hh
  omega
/-- What was written to the other side leaves what is read as it was. -/
theorem old_read {xs : List ByteArray} {qs : List (Int × ByteArray)} {d : ByteArray} (hr : right xs [] = true) (hc : (areaOut xs []).c = 0) (hd : (d.size : Int) ≤ 64 * half xs.length) (hq : ∀ q ∈ qs, q ∈ putW (half xs.length) (seen xs []).2.1 d) (hr' : right (applyP qs xs) [] = true) :
    areaOut (applyP qs xs) [] = ⟨applyP qs xs, [], (areaOut xs []).t, (areaOut xs []).g, 0⟩ := by
  have hl := (right_len hr).1
  obtain ⟨b1, b2⟩ := half_bd hl
  obtain ⟨hc4, _⟩ := areaOut_ok hr hc
  obtain ⟨_, ⟨s0, s1⟩, _⟩ := seen_ok hc4
  have hcut := cuts_le hd
  have hp : ∀ q ∈ qs, 0 ≤ q.1 := fun q h => Int.le_of_lt (putW_pos b1 s0 s1 (hq q h))
  refine read_old hr hr' hc (applyP_lenS qs xs) ?_ (fun j hj => ?_)
  · show (applyP qs xs).getD 0 ⟨#[]⟩ = xs.getD 0 ⟨#[]⟩
    rw [applyP_at qs xs 0 hl hp]
    exact lastAt_not _ _ _ (fun q h => by have := putW_pos b1 s0 s1 (hq q h); simp; omega)
  · generalize (seen xs []).2.1 = s at s0 s1 hq
    generalize hH : half xs.length = H at b1 b2 hj hcut hq
    unfold sideAt
    rw [applyP_lenS, hH]
    show (applyP qs xs).getD _ ⟨#[]⟩ = xs.getD _ ⟨#[]⟩
    have hi : 1 + s.toNat * H.toNat + j < xs.length := by
      rcases (show s = 0 ∨ s = 1 by omega) with rfl | rfl
      · simp; omega
      · simp; omega
    rw [applyP_at qs xs _ hi hp]
    refine lastAt_not _ _ _ (fun q h => ?_)
    obtain ⟨k, hk, e⟩ := putW_mem (hq q h)
    rw [e]
    rcases (show s = 0 ∨ s = 1 by omega) with rfl | rfl
    · simp; omega
    · simp; omega
theorem new_read {xs X : List ByteArray} {ps : List (Int × ByteArray)} {d : ByteArray} (hr : right xs ps = true) (hc : (areaOut xs ps).c = 0) (hd : (d.size : Int) ≤ 64 * half xs.length) (h8 : d.size ≤ 8000) (hg : (areaOut xs ps).g < 1000000)
    (hX : X = applyP [(0, headOf ((areaOut xs ps).g + 1) (1 - (seen xs ps).2.1) d.size)] (applyP (ps ++ putW (half xs.length) (seen xs ps).2.1 d) xs)) (hr' : right X [] = true) :
    areaOut X [] = ⟨X, [], d, (areaOut xs ps).g + 1, 0⟩ := by
  have hl := (right_len hr).1
  obtain ⟨b1, b2⟩ := half_bd hl
  obtain ⟨hc4, hge, _⟩ := areaOut_ok hr hc
  obtain ⟨g0, ⟨s0, s1⟩, _⟩ := seen_ok hc4
  rw [← hge] at g0
  generalize (areaOut xs ps).g = g at g0 hg hX
  have hcut := cuts_le hd
  generalize (seen xs ps).2.1 = s at s0 s1 hX
  have hlX : X.length = xs.length := by rw [hX, applyP_lenS, applyP_lenS]
  have hp : ∀ q ∈ ps ++ putW (half xs.length) s d, 0 ≤ q.1 := by
    intro q h
    rcases List.mem_append.1 h with h | h
    · exact right_pos hr q h
    · exact Int.le_of_lt (putW_pos b1 s0 s1 h)
  have h1 : ∀ q ∈ [((0 : Int), headOf (g + 1) (1 - s) d.size)], 0 ≤ q.1 := by simp
  refine read_new hr' (by rw [hlX]; exact hd) h8 (s := 1 - s) (by omega) (by omega) (by omega) (by omega) ?_ (fun j hj => ?_)
  · show X.getD 0 ⟨#[]⟩ = _
    rw [hX, applyP_at _ _ 0 (by rw [applyP_lenS]; omega) h1]
    simp [lastAt]
  · unfold sideAt
    rw [hlX]
    generalize hH : half xs.length = H at b1 b2 hcut hp hX hd
    show X.getD _ ⟨#[]⟩ = _
    have hi : 1 + (1 - s).toNat * H.toNat + j < xs.length := by
      rcases (show s = 0 ∨ s = 1 by omega) with rfl | rfl
      · simp; omega
      · simp; omega
    have hci : ((1 + (1 - s).toNat * H.toNat + j : Nat) : Int) = 1 + (1 - s) * H + (j : Int) := by
      rcases (show s = 0 ∨ s = 1 by omega) with rfl | rfl
      · simp; omega
      · simp
    rw [hX, applyP_at _ _ _ (by rw [applyP_lenS]; exact hi) h1, lastAt, lastAt, if_neg (by simp only; omega), applyP_at _ _ _ hi hp, lastAt_app, hci]
    exact lastAt_range _ (piece d) _ _ _ hj
/-- What a put that told no code knew. -/
theorem put_ok {xs : List ByteArray} {ps : List (Int × ByteArray)} {d : ByteArray} {a : Int} (h : (putOut xs ps d a).c = 0) : d.size ≤ 8000 ∧ right xs ps = true ∧ (areaOut xs ps).c = 0 ∧ (d.size : Int) ≤ 64 * half xs.length ∧ (areaOut xs ps).g < 1000000 ∧
    (runOut ((putList (half xs.length) (seen xs ps).2.1 (areaOut xs ps).g d).take a.toNat) xs ps).c = 0 ∧
    putOut xs ps d a = ⟨(runOut ((putList (half xs.length) (seen xs ps).2.1 (areaOut xs ps).g d).take a.toNat) xs ps).xs, (runOut ((putList (half xs.length) (seen xs ps).2.1 (areaOut xs ps).g d).take a.toNat) xs ps).ps, ⟨#[]⟩, 0, 0⟩ := by
  unfold putOut at h ⊢
  by_cases h1 : 8000 < d.size
  · rw [if_pos h1] at h; simp [aill] at h
  rw [if_neg h1] at h ⊢
  by_cases h2 : right xs ps = false
  · rw [if_pos h2] at h; simp [aill] at h
  rw [if_neg h2] at h ⊢
  by_cases h3 : (areaOut xs ps).c ≠ 0
  · rw [if_pos h3] at h; exact absurd h (by simpa [aill] using h3)
  rw [if_neg h3] at h ⊢
  by_cases h4 : 64 * half xs.length < (d.size : Int) ∨ 1000000 ≤ (areaOut xs ps).g
  · rw [if_pos h4] at h; simp [aill] at h
  rw [if_neg h4] at h ⊢
  by_cases h5 : (runOut ((putList (half xs.length) (seen xs ps).2.1 (areaOut xs ps).g d).take a.toNat) xs ps).c = 0
  · rw [if_pos h5] at h ⊢
    exact ⟨by omega, by simpa using h2, by simpa using h3, by omega, by omega, h5, rfl⟩
  · rw [if_neg h5] at h; exact absurd h (by simpa [aill] using h5)
/-- A text that was put with all steps is read again. -/
theorem put_read {xs : List ByteArray} {ps : List (Int × ByteArray)} {d : ByteArray} {a : Int} (ha : 200 ≤ a) (h : (putOut xs ps d a).c = 0) : ∃ X, putOut xs ps d a = ⟨X, [], ⟨#[]⟩, 0, 0⟩ ∧ right X [] = true ∧ X.length = xs.length ∧ areaOut X [] = ⟨X, [], d, (areaOut xs ps).g + 1, 0⟩ := by
  obtain ⟨h8, hr, hc, hd, hg, hrc, he⟩ := put_ok h
  have hcut : cuts d ≤ 125 := by unfold cuts; omega
  obtain ⟨hr2, hl2⟩ := run_right _ _ _ hr hrc
  generalize ho : runOut ((putList (half xs.length) (seen xs ps).2.1 (areaOut xs ps).g d).take a.toNat) xs ps = o at hrc he hr2 hl2
  rcases run_put (half xs.length) (seen xs ps).2.1 (areaOut xs ps).g d a.toNat hr (by rw [ho]; exact hrc) o ho.symm with ⟨k, h1, _⟩ | ⟨h1, _⟩ | ⟨h1, _⟩ | ⟨_, h1, h2⟩
  · omega
  · omega
  · omega
  · rw [h2] at he hr2
    exact ⟨o.xs, he, hr2, hl2, new_read hr hc hd h8 hg h1 hr2⟩
theorem crash_right {xs : List ByteArray} {ps : List (Int × ByteArray)} (ks : List Int) (h : right xs ps = true) : right (applyP (keptOf ks ps) xs) [] = true :=
  rightFlush (right_sub h (keptOf_len ks ps) (fun q hq => keptOf_mem ks ps q hq))
theorem crash_of {xs : List ByteArray} {ps : List (Int × ByteArray)} {ks : List Int} (hk : ks.length ≤ 400) (h : right xs ps = true) : crashXs xs ps ks = applyP (keptOf ks ps) xs ∧ crashPs xs ps ks = [] := by
  constructor
  · unfold crashXs; rw [if_neg (by omega), h, if_pos rfl, applyK_kept]
  · unfold crashPs; rw [if_neg (by omega), h, if_pos rfl]
theorem kept_one (ks : List Int) (p : Int × ByteArray) : keptOf ks [p] = [] ∨ keptOf ks [p] = [p] := by
  rw [keptOf, keptOf]
  split
  · exact .inr rfl
  · exact .inl rfl
theorem kept_nil (ks : List Int) : keptOf ks [] = [] := by cases ks <;> rfl
/-- Wherever the power goes while a text is put: the text ahead is read, or the new one. -/
theorem torn_read {xs : List ByteArray} {d : ByteArray} {a : Int} {ks : List Int} (hk : ks.length ≤ 400) (h : (putOut xs [] d a).c = 0) :
    ∃ X, right (putOut xs [] d a).xs (putOut xs [] d a).ps = true ∧ (putOut xs [] d a).xs.length = xs.length ∧ crashXs (putOut xs [] d a).xs (putOut xs [] d a).ps ks = X ∧ crashPs (putOut xs [] d a).xs (putOut xs [] d a).ps ks = [] ∧ right X [] = true ∧ X.length = xs.length ∧
      (areaOut X [] = ⟨X, [], (areaOut xs []).t, (areaOut xs []).g, 0⟩ ∨ areaOut X [] = ⟨X, [], d, (areaOut xs []).g + 1, 0⟩) := by
  obtain ⟨h8, hr, hc, hd, hg, hrc, he⟩ := put_ok h
  obtain ⟨hr2, hl2⟩ := run_right _ _ _ hr hrc
  generalize ho : runOut ((putList (half xs.length) (seen xs []).2.1 (areaOut xs []).g d).take a.toNat) xs [] = o at hrc he hr2 hl2
  rw [he]
  simp only
  obtain ⟨hx, hp⟩ := crash_of hk hr2
  have hrX := crash_right ks hr2
  refine ⟨_, hr2, hl2, rfl, hp, by rw [hx]; exact hrX, by rw [hx, applyP_lenS]; exact hl2, ?_⟩
  rw [hx]
  rcases run_put (half xs.length) (seen xs []).2.1 (areaOut xs []).g d a.toNat hr (by rw [ho]; exact hrc) o ho.symm with ⟨k, _, h1, h2⟩ | ⟨_, h1, h2⟩ | ⟨_, h1, h2⟩ | ⟨_, h1, h2⟩
  · rw [h1, h2] at hrX ⊢
    exact .inl (old_read hr hc hd (fun q hq => List.mem_of_mem_take (by simpa using keptOf_mem _ _ _ hq)) hrX)
  · rw [h1, h2, kept_nil] at hrX ⊢
    simp only [List.nil_append, applyP] at hrX ⊢
    exact .inl (old_read hr hc hd (fun q hq => hq) hrX)
  · rw [h1, h2] at hrX ⊢
    rcases kept_one ks (0, headOf ((areaOut xs []).g + 1) (1 - (seen xs []).2.1) d.size) with e | e
    · rw [e] at hrX ⊢
      simp only [List.nil_append, applyP] at hrX ⊢
      exact .inl (old_read hr hc hd (fun q hq => hq) hrX)
    · rw [e] at hrX ⊢
      exact .inr (new_read hr hc hd h8 hg rfl hrX)
  · rw [h2, kept_nil] at hrX ⊢
    simp only [applyP] at hrX ⊢
    exact .inr (new_read hr hc hd h8 hg h1 hrX)
theorem format_read {xs : List ByteArray} {ps : List (Int × ByteArray)} (h : (formatOut xs ps).c = 0) : ∃ X, formatOut xs ps = ⟨X, [], ⟨#[]⟩, 0, 0⟩ ∧ right X [] = true ∧ X.length = xs.length ∧ areaOut X [] = ⟨X, [], ⟨#[]⟩, 0, 0⟩ := by
  unfold formatOut at h ⊢
  by_cases h2 : right xs ps = false
  · rw [if_pos h2] at h; simp [aill] at h
  rw [if_neg h2] at h ⊢
  have hr : right xs ps = true := by simpa using h2
  have hl := (right_len hr).1
  by_cases h3 : xs.length < 3 ∨ 200 ≤ ps.length
  · rw [if_pos h3] at h; simp [aill] at h
  rw [if_neg h3] at h ⊢
  have hhs : (headOf 0 0 0).size ≤ 64 := by
    unfold headOf numText
    rw [seal_size, ByteArray.size_append, ByteArray.size_append]
    have : (St2.bytesOf (St2.enc 0)).size ≤ 10 := by
      have := St2.enc_len 0
      simp [St2.bytesOf, ByteArray.size]
      exact this
    omega
  have hp := rightPush hr (by omega) (Int.le_refl 0) (by omega) hhs
  have hr' := rightFlush hp
  refine ⟨_, rfl, hr', applyP_lenS _ _, ?_⟩
  have := half_bd hl
  refine read_new (d := ⟨#[]⟩) (s := 0) hr' (by rw [applyP_lenS]; show (0 : Int) ≤ _; omega) (by show 0 ≤ 8000; omega) (Int.le_refl 0) (by omega) (Int.le_refl 0) (by omega) ?_ (fun j hj => ?_)
  · show (applyP (ps ++ [(0, headOf 0 0 0)]) xs).getD 0 ⟨#[]⟩ = headOf 0 0 0
    rw [applyP_at _ xs 0 hl (right_pos hp), lastAt_app]
    simp [lastAt]
  · exact absurd hj (by show ¬ j < 0; omega)
end Go.Proofs.YtkmehbgepkilkaaGreatDoor

/- Draws: a disk with an area in the making. -/
namespace Go.Proofs.YtkmehbgepkilkaaGreatDoor
open Go.RowKit
/-- A disk in the making: at block D, in memory of the call's own; the source at g goes along. -/
structure AInv (w0 : World) (v : Value) (bs : List Int) (g D : Nat) (us up : Value) (xs : List ByteArray) (ps : List (Int × ByteArray)) (w : World) : Prop where
  row : Row w D 26 [us, up]
  os : OwnS 9 (w0.heap.size + 1) w us xs
  op : OwnP 61 (w0.heap.size + 1) w up ps
  dj : ∀ x ∈ leads us, x ∉ leads up
  nu : D ∉ leads us
  np : D ∉ leads up
  src : Src v bs g w
  kp : Kept [g] w0 w
  res : Row w w0.heap.size 26 [.slice none 0 0, .slice none 0 0]
  dg : w0.heap.size < D
  gl : g < w0.heap.size
  vl : ∀ x ∈ leads v, x < w0.heap.size
theorem AInv.drawn {w0 : World} {v : Value} {bs : List Int} {g D : Nat} {us up : Value} {xs : List ByteArray} {ps : List (Int × ByteArray)} {w w' : World} (h : AInv w0 v bs g D us up xs ps w) (hk : Kept [g] w w') (hs : Src v bs g w') : AInv w0 v bs g D us up xs ps w' :=
  have hg := h.gl
  have hd := h.dg
  ⟨hk.row h.row (by simp; omega), h.os.kept hk (fun x hx => by have := (h.os.leads x hx).1; simp; omega), h.op.kept hk (fun x hx => by have := (h.op.leads x hx).1; simp; omega), h.dj, h.nu, h.np, hs, h.kp.trans hk, hk.row h.res (by simp; omega), hd, hg, h.vl⟩
theorem AInv.below {w0 : World} {v : Value} {bs : List Int} {g D : Nat} {us up : Value} {xs : List ByteArray} {ps : List (Int × ByteArray)} {w w' : World} (h : AInv w0 v bs g D us up xs ps w) (hb : Below w.heap.size w w') : AInv w0 v bs g D us up xs ps w' :=
  h.drawn ((Kept.ofBelow hb).mono (by simp)) (h.src.below hb)
theorem AInv.size {w0 : World} {v : Value} {bs : List Int} {g D : Nat} {us up : Value} {xs : List ByteArray} {ps : List (Int × ByteArray)} {w : World} (h : AInv w0 v bs g D us up xs ps w) : w0.heap.size + 1 < w.heap.size := by
  have := h.row.lt
  have := h.dg
  omega
/-- Another disk, made later, is put in its place. -/
theorem AInv.put {w0 : World} {v : Value} {bs : List Int} {g D : Nat} {us up us' up' : Value} {xs xs' : List ByteArray} {ps ps' : List (Int × ByteArray)} {w : World} (h : AInv w0 v bs g D us up xs ps w) {B : Nat} (hB : D < B)
    (o1 : OwnS 9 B w us' xs') (o2 : OwnP 61 B w up' ps') (dj : ∀ x ∈ leads us', x ∉ leads up') :
    AInv w0 v bs g D us' up' xs' ps' ((w.setCell ⟨D, 0, none⟩ us').setCell ⟨D, 1, none⟩ up') := by
  have hd := h.dg
  have hg := h.gl
  have K : Kept [D] w ((w.setCell ⟨D, 0, none⟩ us').setCell ⟨D, 1, none⟩ up') := ((Kept.refl _ _).set (by simp) _).set (by simp) _
  have L1 := o1.leads
  have L2 := o2.leads
  have hbd : w0.heap.size + 1 ≤ B := by omega
  refine ⟨(h.row.set (j := 0) us').set (j := 1) up', (o1.kept K (fun x hx => by have := (L1 x hx).1; simp; omega)).mono hbd, (o2.kept K (fun x hx => by have := (L2 x hx).1; simp; omega)).mono hbd, dj,
    fun hm => by have := (L1 _ hm).1; omega, fun hm => by have := (L2 _ hm).1; omega, h.src.kept K (by simp; omega) (fun x hx => ?_), ⟨h.kp.os, h.kp.tape, h.kp.output, by have := h.kp.size; simpa [World.setCell] using this, fun k hk hn => (K.block k (Nat.lt_of_lt_of_le hk h.kp.size) (by simp; omega)).trans (h.kp.block k hk hn)⟩, K.row h.res (by simp; omega), hd, hg, h.vl⟩
  have := h.vl x hx
  simp; omega
theorem AInv.drew {w0 : World} {v : Value} {bs : List Int} {g D : Nat} {us up : Value} {xs : List ByteArray} {ps : List (Int × ByteArray)} {w : World} (h : AInv w0 v bs g D us up xs ps w) : AInv w0 v bs g D us up xs ps w.drew := h.below (Below.refl _ _).drew
theorem AInv.alloc {w0 : World} {v : Value} {bs : List Int} {g D : Nat} {us up : Value} {xs : List ByteArray} {ps : List (Int × ByteArray)} {w : World} (h : AInv w0 v bs g D us up xs ps w) (o : Obj) : AInv w0 v bs g D us up xs ps (w.alloc o) := h.below (below_new w o)
/-- A store into a block that came later. -/
theorem AInv.other {w0 : World} {v : Value} {bs : List Int} {g D B j : Nat} {us up : Value} {xs : List ByteArray} {ps : List (Int × ByteArray)} {wA w : World} (h : AInv w0 v bs g D us up xs ps w) (hA : AInv w0 v bs g D us up xs ps wA) (hB : wA.heap.size ≤ B) (u : Value) : AInv w0 v bs g D us up xs ps (w.setCell ⟨B, j, none⟩ u) := by
  have K : Kept [B] w (w.setCell ⟨B, j, none⟩ u) := (Kept.refl _ _).set (by simp) _
  have hd := hA.row.lt
  have hd0 := hA.dg
  have hg := hA.gl
  have L1 := hA.os.leads
  have L2 := hA.op.leads
  exact ⟨K.row h.row (by simp; omega), h.os.kept K (fun x hx => by have := (L1 x hx).2; simp; omega), h.op.kept K (fun x hx => by have := (L2 x hx).2; simp; omega), h.dj, h.nu, h.np,
    h.src.kept K (by simp; omega) (fun x hx => by have := h.vl x hx; simp; omega), ⟨h.kp.os, h.kp.tape, h.kp.output, by have := h.kp.size; simpa [World.setCell] using this, fun k hk hn => (K.block k (Nat.lt_of_lt_of_le hk h.kp.size) (by simp; omega)).trans (h.kp.block k hk hn)⟩, K.row h.res (by simp; omega), hd0, hg, h.vl⟩

/-- One sector gets another text. -/
theorem AInv.sector {w0 : World} {v : Value} {bs : List Int} {g D G c : Nat} {up : Value} {xs : List ByteArray} {ps : List (Int × ByteArray)} {w : World} (h : AInv w0 v bs g D (.slice (some ⟨G, 0, none⟩) xs.length c) up xs ps w) (k : Nat) (hx : k < xs.length) (T : ByteArray) (hT : T.size ≤ 65) :
    AInv w0 v bs g D (.slice (some ⟨G, 0, none⟩) xs.length c) up (xs.set k T) ps (w.setCell ⟨G, k, none⟩ (.string T)) := by
  have hd := h.dg
  have hg := h.gl
  have hm : leads (.slice (some ⟨G, 0, none⟩) xs.length c) = [G] := by
    cases hn : xs.length with
    | zero => omega
    | succ n => rfl
  have L1 := h.os.leads G (by rw [hm]; simp)
  have nG : D ≠ G := fun e => h.nu (by rw [hm]; simp [e])
  have K : Kept [G] w (w.setCell ⟨G, k, none⟩ (.string T)) := (Kept.refl _ _).set (by simp) _
  refine ⟨K.row h.row (by simpa using nG), ?_, h.op.kept K (fun x hx' e => h.dj G (by rw [hm]; simp) (by rw [List.mem_singleton.1 e] at hx'; exact hx')), h.dj, h.nu, h.np, h.src.kept K (by simp; omega) (fun x hx' => by have := h.vl x hx'; simp; omega),
    ⟨h.kp.os, h.kp.tape, h.kp.output, by have := h.kp.size; simpa [World.setCell] using this, fun k hk hn => (K.block k (Nat.lt_of_lt_of_le hk h.kp.size) (by simp; omega)).trans (h.kp.block k hk hn)⟩, K.row h.res (by simp; omega), hd, hg, h.vl⟩
  obtain ⟨hs, ⟨p, cap, e, _, e2⟩ | ⟨G', rest, e, hmx, hB, hR⟩⟩ := h.os
  · rw [e2] at hx; simp at hx
  · injection e with e1 e2 e3
    injection e1 with e1
    injection e1 with e1
    subst e1
    have hl : (xs.set k T).length = xs.length := List.length_set
    refine ⟨fun x hx' => ?_, .inr ⟨G, rest, by rw [hl, ← e3], by rw [hl]; exact hmx, hB, ?_⟩⟩
    · rcases List.mem_or_eq_of_mem_set hx' with h' | rfl
      · exact hs x h'
      · unfold maxLen; omega
    · have := hR.set (j := k) (.string T)
      rw [strs_set _ _ _ _ hx] at this
      exact this
/-- What is handed back at the end. -/
theorem AInv.done {w0 : World} {v : Value} {bs : List Int} {g D : Nat} {us up : Value} {xs : List ByteArray} {ps : List (Int × ByteArray)} {w : World} (h : AInv w0 v bs g D us up xs ps w) :
    ((w.setCell ⟨w0.heap.size, 0, none⟩ us).setCell ⟨w0.heap.size, 1, none⟩ up).cell? ⟨w0.heap.size, 0, none⟩ = some us ∧ ((w.setCell ⟨w0.heap.size, 0, none⟩ us).setCell ⟨w0.heap.size, 1, none⟩ up).cell? ⟨w0.heap.size, 1, none⟩ = some up ∧
    OwnS 9 w0.heap.size ((w.setCell ⟨w0.heap.size, 0, none⟩ us).setCell ⟨w0.heap.size, 1, none⟩ up) us xs ∧ OwnP 61 w0.heap.size ((w.setCell ⟨w0.heap.size, 0, none⟩ us).setCell ⟨w0.heap.size, 1, none⟩ up) up ps ∧
    Src v bs g ((w.setCell ⟨w0.heap.size, 0, none⟩ us).setCell ⟨w0.heap.size, 1, none⟩ up) ∧ Kept [g] w0 ((w.setCell ⟨w0.heap.size, 0, none⟩ us).setCell ⟨w0.heap.size, 1, none⟩ up) := by
  have hg := h.gl
  have K : Kept [w0.heap.size] w ((w.setCell ⟨w0.heap.size, 0, none⟩ us).setCell ⟨w0.heap.size, 1, none⟩ up) := ((Kept.refl _ _).set (by simp) _).set (by simp) _
  have R := (h.res.set (j := 0) us).set (j := 1) up
  refine ⟨R.cell 0, R.cell 1, (h.os.kept K (fun x hx => by have := (h.os.leads x hx).1; simp; omega)).mono (by omega), (h.op.kept K (fun x hx => by have := (h.op.leads x hx).1; simp; omega)).mono (by omega), h.src.kept K (by simp; omega) (fun x hx => by have := h.vl x hx; simp; omega),
    ⟨h.kp.os, h.kp.tape, h.kp.output, by have := h.kp.size; simpa [World.setCell] using this, fun k hk hn => (K.block k (Nat.lt_of_lt_of_le hk h.kp.size) (by simp; omega)).trans (h.kp.block k hk hn)⟩⟩


theorem AInv.ret {w0 : World} {v : Value} {bs : List Int} {g D : Nat} {us up us' up' : Value} {xs xs' : List ByteArray} {ps ps' : List (Int × ByteArray)} {w : World} (h : AInv w0 v bs g D us up xs ps w) {B : Nat} (hB : w0.heap.size < B) (o1 : OwnS 9 B w us' xs') (o2 : OwnP 61 B w up' ps') :
    ((w.setCell ⟨w0.heap.size, 0, none⟩ us').setCell ⟨w0.heap.size, 1, none⟩ up').cell? ⟨w0.heap.size, 0, none⟩ = some us' ∧ ((w.setCell ⟨w0.heap.size, 0, none⟩ us').setCell ⟨w0.heap.size, 1, none⟩ up').cell? ⟨w0.heap.size, 1, none⟩ = some up' ∧
    OwnS 9 w0.heap.size ((w.setCell ⟨w0.heap.size, 0, none⟩ us').setCell ⟨w0.heap.size, 1, none⟩ up') us' xs' ∧ OwnP 61 w0.heap.size ((w.setCell ⟨w0.heap.size, 0, none⟩ us').setCell ⟨w0.heap.size, 1, none⟩ up') up' ps' ∧
    Src v bs g ((w.setCell ⟨w0.heap.size, 0, none⟩ us').setCell ⟨w0.heap.size, 1, none⟩ up') ∧ Kept [g] w0 ((w.setCell ⟨w0.heap.size, 0, none⟩ us').setCell ⟨w0.heap.size, 1, none⟩ up') := by
  have hg := h.gl
  have K : Kept [w0.heap.size] w ((w.setCell ⟨w0.heap.size, 0, none⟩ us').setCell ⟨w0.heap.size, 1, none⟩ up') := ((Kept.refl _ _).set (by simp) _).set (by simp) _
  have R := (h.res.set (j := 0) us').set (j := 1) up'
  refine ⟨R.cell 0, R.cell 1, (o1.kept K (fun x hx => by have := (o1.leads x hx).1; simp; omega)).mono (by omega), (o2.kept K (fun x hx => by have := (o2.leads x hx).1; simp; omega)).mono (by omega), h.src.kept K (by simp; omega) (fun x hx => by have := h.vl x hx; simp; omega),
    ⟨h.kp.os, h.kp.tape, h.kp.output, by have := h.kp.size; simpa [World.setCell] using this, fun k hk hn => (K.block k (Nat.lt_of_lt_of_le hk h.kp.size) (by simp; omega)).trans (h.kp.block k hk hn)⟩⟩
/-- The answer of a put, at block B, in memory that came behind wr. -/
structure YArea (wr : World) (B : Nat) (ys yp : Value) (n : Nat) (o : AOut) (w : World) : Prop where
  row : Row w B 31 [ys, yp, .string o.t, .int .i64 o.g, .int .i64 o.c]
  os : OwnS 9 wr.heap.size w ys o.xs
  op : OwnP 61 wr.heap.size w yp o.ps
  dj : ∀ x ∈ leads ys, x ∉ leads yp
  lo : wr.heap.size ≤ B
  ok : o.c = 0 → right o.xs o.ps = true ∧ o.xs.length = n
theorem YArea.kept {wr : World} {B g : Nat} {ys yp : Value} {n : Nat} {o : AOut} {w w' : World} (h : YArea wr B ys yp n o w) (hg : g < wr.heap.size) (hk : Kept [g] w w') : YArea wr B ys yp n o w' := by
  have hl := h.lo
  exact ⟨hk.row h.row (by simp; omega), h.os.kept hk (fun x hx => by have := (h.os.leads x hx).1; simp; omega), h.op.kept hk (fun x hx => by have := (h.op.leads x hx).1; simp; omega), h.dj, h.lo, h.ok⟩
theorem putA_ok {xs : List ByteArray} {ps : List (Int × ByteArray)} (d : ByteArray) (a : Int) (h : (putOut xs ps d a).c = 0) : right (putOut xs ps d a).xs (putOut xs ps d a).ps = true ∧ (putOut xs ps d a).xs.length = xs.length := by
  obtain ⟨_, hr, _, _, _, hc, he⟩ := put_ok h
  rw [he]
  exact run_right _ _ _ hr hc
theorem store5 {w0 wA wr : World} {v : Value} {bs : List Int} {g D B : Nat} {us up ys yp : Value} {xs : List ByteArray} {ps : List (Int × ByteArray)} {w : World} {a0 a1 a2 a3 a4 : Value} {o : AOut} (h : AInv w0 v bs g D us up xs ps w) (hA : AInv w0 v bs g D us up xs ps wA) (hB : wA.heap.size ≤ B) (hw : wr.heap.size ≤ wA.heap.size)
    (R : Row w B 31 [a0, a1, a2, a3, a4]) (o1 : OwnS 9 wr.heap.size w ys o.xs) (o2 : OwnP 61 wr.heap.size w yp o.ps) (n1 : B ∉ leads ys) (n2 : B ∉ leads yp) (dj : ∀ x ∈ leads ys, x ∉ leads yp)
    (ok : o.c = 0 → right o.xs o.ps = true ∧ o.xs.length = xs.length) :
    YArea wr B ys yp xs.length o (((((w.setCell ⟨B, 0, none⟩ ys).setCell ⟨B, 1, none⟩ yp).setCell ⟨B, 2, none⟩ (.string o.t)).setCell ⟨B, 3, none⟩ (.int .i64 o.g)).setCell ⟨B, 4, none⟩ (.int .i64 o.c)) ∧
    AInv w0 v bs g D us up xs ps (((((w.setCell ⟨B, 0, none⟩ ys).setCell ⟨B, 1, none⟩ yp).setCell ⟨B, 2, none⟩ (.string o.t)).setCell ⟨B, 3, none⟩ (.int .i64 o.g)).setCell ⟨B, 4, none⟩ (.int .i64 o.c)) := by
  have K : Kept [B] w (((((w.setCell ⟨B, 0, none⟩ ys).setCell ⟨B, 1, none⟩ yp).setCell ⟨B, 2, none⟩ (.string o.t)).setCell ⟨B, 3, none⟩ (.int .i64 o.g)).setCell ⟨B, 4, none⟩ (.int .i64 o.c)) := (((((Kept.refl _ _).set (by simp) _).set (by simp) _).set (by simp) _).set (by simp) _).set (by simp) _
  have hd := h.row.lt
  refine ⟨⟨((((R.set (j := 0) ys).set (j := 1) yp).set (j := 2) (.string o.t)).set (j := 3) (.int .i64 o.g)).set (j := 4) (.int .i64 o.c), o1.kept K (fun x hx e => n1 (by rw [List.mem_singleton.1 e] at hx; exact hx)), o2.kept K (fun x hx e => n2 (by rw [List.mem_singleton.1 e] at hx; exact hx)), dj, by omega, ok⟩, ?_⟩
  exact ((((h.other hA hB _).other hA hB _).other hA hB _).other hA hB _).other hA hB _
theorem alloc5d {w0 wr : World} {v : Value} {bs : List Int} {g D : Nat} {us up ys yp : Value} {xs : List ByteArray} {ps : List (Int × ByteArray)} {w : World} {o : AOut} (h : AInv w0 v bs g D us up xs ps w) (hw : wr.heap.size ≤ w.heap.size)
    (o1 : OwnS 9 wr.heap.size w ys o.xs) (o2 : OwnP 61 wr.heap.size w yp o.ps) (dj : ∀ x ∈ leads ys, x ∉ leads yp)
    (ok : o.c = 0 → right o.xs o.ps = true ∧ o.xs.length = xs.length) :
    YArea wr w.heap.size ys yp xs.length o (w.alloc (.cells #[ys, yp, .string o.t, .int .i64 o.g, .int .i64 o.c] 31)) ∧ AInv w0 v bs g D us up xs ps (w.alloc (.cells #[ys, yp, .string o.t, .int .i64 o.g, .int .i64 o.c] 31)) :=
  ⟨⟨row_new w _ _, o1.below (below_new w _) (Nat.le_refl _), o2.below (below_new w _) (Nat.le_refl _), dj, hw, ok⟩, h.alloc _⟩
theorem right_format {xs : List ByteArray} (h : right xs [] = true) (h3 : 3 ≤ xs.length) : ∃ X, formatOut xs [] = ⟨X, [], ⟨#[]⟩, 0, 0⟩ ∧ right X [] = true ∧ X.length = xs.length := by
  have hc : (formatOut xs []).c = 0 := by
    unfold formatOut
    rw [if_neg (by rw [h]; simp), if_neg (by simp; omega)]
  obtain ⟨X, h1, h2, h4, _⟩ := format_read hc
  exact ⟨X, h1, h2, h4⟩
/-- A disk in memory of its own, from block B on, of at most 14 sectors; it need not be right. -/
def DrawnA (B : Nat) (e : Ending) (w : World) : Prop :=
  ∃ us up xs ps, e = .returned (.agg #[us, up]) ∧ OwnS 9 B w us xs ∧ OwnP 61 B w up ps ∧ (∀ x ∈ leads us, x ∉ leads up) ∧ xs.length ≤ 14 ∧ ps.length ≤ 201 ∧ (∀ x ∈ xs, x.size ≤ 65) ∧ (∀ x ∈ ps, x.2.size ≤ 64)

end Go.Proofs.YtkmehbgepkilkaaGreatDoor

/- Draws: a disk with an area. -/
namespace Go.Proofs.YtkmehbgepkilkaaGreatDoor
open Go.RowKit

set_option maxRecDepth 100000 in
set_option maxHeartbeats 16000000 in
theorem area_any (v : Value) (bs : List Int) (g : Nat) (w : World) (h : Src v bs g w) (hl : bs.length ≤ 1048576) :
    Calls Tryz.prog 21 #[.pointer (some ⟨g, 0, none⟩)] w fun e w' => DrawnA w.heap.size e w' ∧ Src v bs g w' ∧ Kept [g] w w' := by
  obtain ⟨j0, hj, hy0, hy1, hy2⟩ := info_parts Tryz.infoPend
  have hb0 := below_new w (.cells #[.slice none 0 0, .slice none 0 0] 26)
  have HS := hide (h.below hb0)
  have HL := hide h.leads
  have HG := hide h.lt
  have HR := hide (row_new w [.slice none 0 0, .slice none 0 0] 26)
  have HB0 := hide hb0
  have hfd := fun (a b c d e : Value) (w : World) => (show (Instr.field 31 (.agg #[a, b, c, d, e]) 0).run Tryz.prog w = .ok (.agg #[a, b]) w by kernel_rfl)
  clear h hb0 hj hy0 hy1 hy2
  go_enter Tryz.func21, Tryz.ntmps21
  go_wp2_with fail
  refine (n_any v bs g 12 _ HS.out (by omega) hl).mono ?_
  rintro e w1 ⟨⟨r, rfl, hr0, hr1⟩, hs1, hk1⟩
  have HS1 := hide hs1
  have HK1 := hide (((Kept.ofBelow HB0.out).mono (S' := [g]) (by simp)).trans hk1)
  have HR1 := hide (hk1.row HR.out (by have := HG.out; simp; omega))
  have hr2 : r < 12 := by omega
  have hw3 : IntKind.i64.wrap (3 + r) = 3 + r := by rw [IntKind.wrap_i64]; omega
  clear hs1 hk1 hr1 HS HR HB0
  go_wp2_with fail
  refine (specNew_nil (3 + r) _).mono ?_
  rintro e w2 ⟨⟨us, rfl, o1⟩, hb2⟩
  obtain ⟨q1, m1, d1, rfl⟩ := o1.isSlice
  have hxl := newDisk_length (3 + r) (by omega) (by omega)
  have HFO := right_format (right_new (3 + r) (by omega) (by omega)) (by omega)
  have HRD := hide o1.reads
  have HB2 := hide hb2
  clear o1 hb2
  go_wp2_with fail
  refine (specFormat_any _ _ (newDisk (3 + r)) [] _ (by omega) (by simp) HRD.out (OwnP.none 61 0 w2).reads).mono ?_
  obtain ⟨X, hFO, hXR, hXL⟩ := HFO
  rw [hFO]
  rintro e w3 ⟨⟨us, up, rfl, o1, o2, dd⟩, hb3⟩
  obtain ⟨q1, m1, d1, rfl⟩ := o1.isSlice
  obtain ⟨q2, m2, d2, rfl⟩ := o2.isSlice
  have hb23 := HB2.out.trans (hb3.mono HB2.out.size)
  have bn := below_new w3 (.cells #[.slice q1 m1 d1, .slice q2 m2 d2] 26)
  have hbx := hb23.trans (bn.mono hb23.size)
  have hz1 := HR1.out.lt
  have hz2 := HB2.out.size
  have hz3 := hb3.size
  have HD := hide (show AInv w v bs g w3.heap.size (.slice q1 m1 d1) (.slice q2 m2 d2) X [] (w3.alloc (.cells #[.slice q1 m1 d1, .slice q2 m2 d2] 26)) from
    ⟨row_new w3 _ _, (o1.below bn (Nat.le_refl _)).mono (by omega), (o2.below bn (Nat.le_refl _)).mono (by omega), dd, (fun hm => Nat.lt_irrefl _ (o1.leads _ hm).2), (fun hm => Nat.lt_irrefl _ (o2.leads _ hm).2), HS1.out.below hbx, HK1.out.below hbx, Row.after hbx HR1.out, by omega, HG.out, HL.out⟩)
  have HRT := hide hXR
  have hxl2 : 3 ≤ X.length ∧ X.length ≤ 14 := by omega
  obtain ⟨D, hDD⟩ : ∃ D, D = w3.heap.size := ⟨_, rfl⟩
  rw [← hDD] at HD
  have HDD := hide hDD
  clear o1 o2 dd bn hb23 hb3 hbx hz1 hz2 hz3 HS1 HK1 HR1 hXR hDD hFO hXL hxl HRD HB2
  go_wp2_with fail
  rw [← HDD.out]
  refine (n_any v bs g 5 _ HD.out.src (by omega) hl).mono ?_
  rintro e w4 ⟨⟨k0, rfl, hk0, hk1⟩, hs3, hk3⟩
  have HD3 := hide (HD.out.drawn hk3 hs3)
  have hk2 : k0 < 5 := by omega
  clear hs3 hk3 hk1 HD
  go_wp2_with fail
  go_loopw [4] (fun i wr => ∃ (k : Int) (us up : Value) (xs : List ByteArray) (ps : List (Int × ByteArray)), i = .int .i64 k ∧ 0 ≤ k ∧ k ≤ 5 ∧ 3 ≤ xs.length ∧ xs.length ≤ 14 ∧ ps.length ≤ 200 ∧ Hid (right xs ps = true) ∧ Hid (AInv w v bs g D us up xs ps wr)) (fun i _ => (intOf i).toNat)
  case atStart => exact ⟨k0, _, _, X, [], rfl, hk0, by omega, hxl2.1, hxl2.2, by simp, HRT, HD3⟩
  case round =>
    obtain ⟨k, us, up, xs, ps, rfl, hk0', hk5, hx3, hx14, hpl, HRt, HDr⟩ := hrel
    obtain ⟨s1, s2, s3, rfl⟩ := HDr.out.os.isSlice
    obtain ⟨t1, t2, t3, rfl⟩ := HDr.out.op.isSlice
    clear HD3 HRT
    by_cases hlt : 0 < k
    · have hki : decide (0 < k) = true := decide_eq_true hlt
      have hkw : IntKind.i64.wrap (k - 1) = k - 1 := by rw [IntKind.wrap_i64]; omega
      go_wp2_with fail
      go_cut [5] (fun t5 wx => ∃ (B : Nat) (ys yp : Value) (o : AOut), t5 = .pointer (some ⟨B, 0, none⟩) ∧ Hid (YArea wr B ys yp xs.length o wx) ∧ Hid (AInv w v bs g D (.slice s1 s2 s3) (.slice t1 t2 t3) xs ps wx))
      case first =>
        have HSS := hide (show ∀ x, AInv w v bs g D (.slice s1 s2 s3) (.slice t1 t2 t3) xs ps x → x.cell? ⟨D, 0, none⟩ = some (.slice s1 s2 s3) ∧ x.cell? ⟨D, 1, none⟩ = some (.slice t1 t2 t3) ∧ AInv w v bs g D (.slice s1 s2 s3) (.slice t1 t2 t3) xs ps x from
          fun x h => ⟨h.row.cell 0, h.row.cell 1, h⟩)
        have hDr := HDr.out
        have hgW : g < wr.heap.size := by have := hDr.gl; have := hDr.kp.size; omega
        go_region_held3 (fun x => x.cell? ⟨D, 0, none⟩ = some (.slice s1 s2 s3) ∧ x.cell? ⟨D, 1, none⟩ = some (.slice t1 t2 t3) ∧ AInv w v bs g D (.slice s1 s2 s3) (.slice t1 t2 t3) xs ps x)
          ((go_split_ands; refine HSS.out _ ?_; repeat (first | with_reducible assumption | with_reducible refine AInv.drew ?_ | with_reducible refine AInv.alloc ?_ _ | with_reducible refine AInv.other ?_ (by assumption) (Nat.le_refl _) _)))
          ((first
            | (go_at_call 23; go_split_ands; (with_reducible refine (n_any v bs g 90 _ (AInv.src (by assumption)) (by omega) hl).mono ?_); rintro e w5 ⟨⟨b, rfl, hb0, hb1⟩, hs5, hk5q⟩
               have hD5 : AInv w v bs g D (.slice s1 s2 s3) (.slice t1 t2 t3) xs ps w5 := AInv.drawn (by assumption) hk5q hs5
               have hz5 : wr.heap.size ≤ w5.heap.size := by have := hk5q.size; first | omega | (simp at this; omega)
               first
                 | have R5 : Row w5 wr.heap.size 31 [.slice none 0 0, .slice none 0 0, .string ⟨#[]⟩, .int .i64 0, .int .i64 0] := hk5q.row (row_new wr [.slice none 0 0, .slice none 0 0, .string ⟨#[]⟩, .int .i64 0, .int .i64 0] 31).drew (by simp; omega)
                 | skip
               clear hs5 hk5q)
            | (go_at_call 22; go_split_ands; refine (bytes_any v bs g b _ (AInv.src (by assumption)) (by omega) hl).mono ?_; rintro e w6 ⟨⟨T, rfl, hT0, hT1⟩, hs6, hk6⟩
               have hD6 : AInv w v bs g D (.slice s1 s2 s3) (.slice t1 t2 t3) xs ps w6 := AInv.drawn (by assumption) hk6 hs6
               have hz6 : w5.heap.size ≤ w6.heap.size := by have := hk6.size; first | omega | (simp at this; omega)
               first
                 | have R6 := hk6.row R5 (by simp; omega)
                 | have R6 : Row w6 w5.heap.size 31 [.slice none 0 0, .slice none 0 0, .string ⟨#[]⟩, .int .i64 0, .int .i64 0] := hk6.row (row_new w5 [.slice none 0 0, .slice none 0 0, .string ⟨#[]⟩, .int .i64 0, .int .i64 0] 31) (by simp; omega)
                 | skip
               clear hs6 hk6)
            | (go_at_call 13; go_split_ands; refine (specAreaPut_any _ _ xs ps T 100 _ (by omega) (by omega) (by omega) (OwnS.reads (AInv.os (by assumption))) (OwnP.reads (AInv.op (by assumption)))).mono ?_; rintro e w7 ⟨⟨ys, yp, rfl, o1, o2, dd⟩, hb7⟩
               obtain ⟨i1, i2, i3, rfl⟩ := o1.isSlice
               obtain ⟨j1, j2, j3, rfl⟩ := o2.isSlice
               have L1 := hide (fun x hx => (o1.leads x hx).1)
               have L2 := hide (fun x hx => (o2.leads x hx).1)
               have hz7 : w6.heap.size ≤ w7.heap.size := by have := hb7.size; first | omega | (simp at this; omega)
               have HO1 := hide (o1.mono (B' := wr.heap.size) (by first | omega | (simp; omega)))
               have HO2 := hide (o2.mono (B' := wr.heap.size) (by first | omega | (simp; omega)))
               have HDJ := hide dd
               have HOK := hide (putA_ok (xs := xs) (ps := ps) T 100)
               first
                 | (have R7 := Row.after hb7 R6; have g0 : w7.cell? ⟨_, 0, none⟩ = some (.slice none 0 0) := R7.cell 0; have g1 : w7.cell? ⟨_, 1, none⟩ = some (.slice none 0 0) := R7.cell 1; have g2 : w7.cell? ⟨_, 2, none⟩ = some (.string ⟨#[]⟩) := R7.cell 2; have g3 : w7.cell? ⟨_, 3, none⟩ = some (.int .i64 0) := R7.cell 3; have g4 : w7.cell? ⟨_, 4, none⟩ = some (.int .i64 0) := R7.cell 4; have e0 := R7.free 0; have e1 := R7.free 1; have e2 := R7.free 2; have e3 := R7.free 3; have e4 := R7.free 4)
                 | (have R7 : Row w7 w6.heap.size 31 [.slice none 0 0, .slice none 0 0, .string ⟨#[]⟩, .int .i64 0, .int .i64 0] := Row.after hb7 (row_new w6 [.slice none 0 0, .slice none 0 0, .string ⟨#[]⟩, .int .i64 0, .int .i64 0] 31); have g0 : w7.cell? ⟨_, 0, none⟩ = some (.slice none 0 0) := R7.cell 0; have g1 : w7.cell? ⟨_, 1, none⟩ = some (.slice none 0 0) := R7.cell 1; have g2 : w7.cell? ⟨_, 2, none⟩ = some (.string ⟨#[]⟩) := R7.cell 2; have g3 : w7.cell? ⟨_, 3, none⟩ = some (.int .i64 0) := R7.cell 3; have g4 : w7.cell? ⟨_, 4, none⟩ = some (.int .i64 0) := R7.cell 4; have e0 := R7.free 0; have e1 := R7.free 1; have e2 := R7.free 2; have e3 := R7.free 3; have e4 := R7.free 4)
                 | skip
               have hD7 : AInv w v bs g D (.slice s1 s2 s3) (.slice t1 t2 t3) xs ps w7 := AInv.below (by assumption) hb7
               clear o1 o2 dd hb7)))
        all_goals go_wp2_with fail
        all_goals go_meet
        all_goals first
          | (obtain ⟨y, dd⟩ := alloc5d (wr := wr) (o := putOut xs ps T 100) hD7 (by omega) HO1.out HO2.out HDJ.out HOK.out; exact ⟨_, _, _, _, rfl, y, dd⟩)
          | (obtain ⟨y, dd⟩ := store5 (wr := wr) (o := putOut xs ps T 100) hD7 hDr (Nat.le_refl _) (by omega) R7 HO1.out HO2.out (fun hm => by have h1 := L1.out _ hm; first | (have h2 := R6.lt; omega) | (simp at h1; omega) | omega) (fun hm => by have h1 := L2.out _ hm; first | (have h2 := R6.lt; omega) | (simp at h1; omega) | omega) HDJ.out HOK.out; exact ⟨_, _, _, _, rfl, y, dd⟩)
          | (obtain ⟨y, dd⟩ := store5 (wr := wr) (o := putOut xs ps T 100) hD7 hD5 (Nat.le_refl _) (by omega) R7 HO1.out HO2.out (fun hm => by have h1 := L1.out _ hm; first | (have h2 := R6.lt; omega) | (simp at h1; omega) | omega) (fun hm => by have h1 := L2.out _ hm; first | (have h2 := R6.lt; omega) | (simp at h1; omega) | omega) HDJ.out HOK.out; exact ⟨_, _, _, _, rfl, y, dd⟩)
          | (obtain ⟨y, dd⟩ := store5 (wr := wr) (o := putOut xs ps T 100) hD7 hD6 (Nat.le_refl _) (by omega) R7 HO1.out HO2.out (fun hm => by have h1 := L1.out _ hm; first | (have h2 := R6.lt; omega) | (simp at h1; omega) | omega) (fun hm => by have h1 := L2.out _ hm; first | (have h2 := R6.lt; omega) | (simp at h1; omega) | omega) HDJ.out HOK.out; exact ⟨_, _, _, _, rfl, y, dd⟩)
      case rest =>
        obtain ⟨B, ys, yp, o, rfl, HY, HD⟩ := hcut
        have hgW : g < wr.heap.size := by have := HDr.out.gl; have := HDr.out.kp.size; omega
        have hDW : D < wr.heap.size := HDr.out.row.lt
        have hDr := HDr
        have hBW := HY.out.lo
        go_wp2_with fail
        refine (one_any v bs g 4 _ HD.out.src (by omega) hl).mono ?_
        rintro e w8 ⟨⟨b, rfl⟩, hs8, hk8⟩
        have HD8 := hide (HD.out.drawn hk8 hs8)
        have HY8 := hide (HY.out.kept hgW hk8)
        clear hs8 hk8 HD HY
        cases b with
        | false =>
          obtain ⟨i1, i2, i3, rfl⟩ := HY8.out.os.isSlice
          obtain ⟨j1, j2, j3, rfl⟩ := HY8.out.op.isSlice
          have hDB : ¬ D = B := by omega
          have hBD : ¬ B = D := by omega
          have g0 : w8.cell? ⟨B, 0, none⟩ = some (.slice i1 i2 i3) := HY8.out.row.cell 0
          have g1 : w8.cell? ⟨B, 1, none⟩ = some (.slice j1 j2 j3) := HY8.out.row.cell 1
          have g2 : w8.cell? ⟨B, 2, none⟩ = some (.string o.t) := HY8.out.row.cell 2
          have g3 : w8.cell? ⟨B, 3, none⟩ = some (.int .i64 o.g) := HY8.out.row.cell 3
          have g4 : w8.cell? ⟨B, 4, none⟩ = some (.int .i64 o.c) := HY8.out.row.cell 4
          have c0 : w8.cell? ⟨D, 0, none⟩ = some (.slice s1 s2 s3) := HD8.out.row.cell 0
          have c1 : w8.cell? ⟨D, 1, none⟩ = some (.slice t1 t2 t3) := HD8.out.row.cell 1
          have p0 := HD8.out.row.free 0
          have p1 := HD8.out.row.free 1
          by_cases hc : o.c = 0
          · have hce : (o.c == 0) = true := by simpa using hc
            obtain ⟨r1, r2⟩ := HY8.out.ok hc
            have HPT := hide (HD8.out.put (B := wr.heap.size) hDW HY8.out.os HY8.out.op HY8.out.dj)
            have HR2 := hide r1
            have hpl2 : o.ps.length ≤ 200 := (right_len r1).2.2
            clear r1 hc
            go_wp2_with fail
            refine (one_any v bs g 5 _ HPT.out.src (by omega) hl).mono ?_
            rintro e x1 ⟨⟨b, rfl⟩, hs, hk⟩
            have HE := hide (HPT.out.drawn hk hs)
            clear hs hk HPT
            cases b with
            | false =>
              go_wp2
              go_roundw
              case rel => exact ⟨k - 1, _, _, o.xs, o.ps, rfl, by omega, by omega, by omega, by omega, by omega, HR2, HE⟩
              case measure => simp [intOf]; omega
            | true =>
              have c0 : x1.cell? ⟨D, 0, none⟩ = some (.slice i1 i2 i3) := HE.out.row.cell 0
              have c1 : x1.cell? ⟨D, 1, none⟩ = some (.slice j1 j2 j3) := HE.out.row.cell 1
              have HSE := hide (fun x (h : AInv w v bs g D (.slice i1 i2 i3) (.slice j1 j2 j3) (o.xs) (o.ps) x) => (show x.cell? ⟨D, 0, none⟩ = some (.slice i1 i2 i3) ∧ x.cell? ⟨D, 1, none⟩ = some (.slice j1 j2 j3) from ⟨h.row.cell 0, h.row.cell 1⟩))
              have hEd := HE.out.drew
              have HCR := hide (show ∀ ks : List Int, ks.length ≤ 400 → crashXs (o.xs) (o.ps) ks = applyP (keptOf ks (o.ps)) (o.xs) ∧ crashPs (o.xs) (o.ps) ks = [] from fun ks hk => crash_of hk HR2.out)
              go_wp2_with fail
              go_region_with (first
                | (go_at_call 50; refine (keep_any v bs g _ hEd.src hl).mono ?_; rintro e x2 ⟨⟨u, ks, rfl, hks, ou⟩, hs, hk⟩; have hE2 := hEd.drawn hk hs; have HU := hide ou.reads; obtain ⟨c0, c1⟩ := HSE.out _ hE2; clear hs hk ou)
                | (go_at_call 56; refine (specCrash_any _ _ (o.xs) (o.ps) _ (by omega) (by omega) _ ks hE2.os.reads hE2.op.reads HU.out).mono ?_; rw [(HCR.out ks (by omega)).1, (HCR.out ks (by omega)).2]; rintro e x3 ⟨⟨fs, fp, rfl, o1, o2, dd⟩, hb⟩
                   obtain ⟨f1, f2, f3, rfl⟩ := o1.isSlice
                   obtain ⟨f4, f5, f6, rfl⟩ := o2.isSlice
                   have hE3 := hE2.below hb
                   have hDx : D < x2.heap.size := hE2.row.lt
                   have HPX := hide (hE3.put hDx o1 o2 dd)
                   obtain ⟨c0, c1⟩ := HSE.out _ hE3
                   have d0 := hE3.row.free 0
                   have d1 := hE3.row.free 1
                   clear o1 o2 dd hb))
              all_goals go_wp2
              all_goals go_roundw
              all_goals first
                | exact ⟨k - 1, _, _, _, [], rfl, by omega, by omega, by rw [applyP_lenS]; omega, by rw [applyP_lenS]; omega, by simp, crash_right ks HR2.out, HPX⟩
                | (simp [intOf]; omega)
          · have hce : (o.c == 0) = false := by simpa using hc
            clear hc
            go_wp2_with fail
            refine (one_any v bs g 5 _ HD8.out.src (by omega) hl).mono ?_
            rintro e x1 ⟨⟨b, rfl⟩, hs, hk⟩
            have HE := hide (HD8.out.drawn hk hs)
            clear hs hk HD8
            cases b with
            | false =>
              go_wp2
              go_roundw
              case rel => exact ⟨k - 1, _, _, xs, ps, rfl, by omega, by omega, hx3, hx14, hpl, HRt, HE⟩
              case measure => simp [intOf]; omega
            | true =>
              have c0 : x1.cell? ⟨D, 0, none⟩ = some (.slice s1 s2 s3) := HE.out.row.cell 0
              have c1 : x1.cell? ⟨D, 1, none⟩ = some (.slice t1 t2 t3) := HE.out.row.cell 1
              have HSE := hide (fun x (h : AInv w v bs g D (.slice s1 s2 s3) (.slice t1 t2 t3) (xs) (ps) x) => (show x.cell? ⟨D, 0, none⟩ = some (.slice s1 s2 s3) ∧ x.cell? ⟨D, 1, none⟩ = some (.slice t1 t2 t3) from ⟨h.row.cell 0, h.row.cell 1⟩))
              have hEd := HE.out.drew
              have HCR := hide (show ∀ ks : List Int, ks.length ≤ 400 → crashXs (xs) (ps) ks = applyP (keptOf ks (ps)) (xs) ∧ crashPs (xs) (ps) ks = [] from fun ks hk => crash_of hk HRt.out)
              go_wp2_with fail
              go_region_with (first
                | (go_at_call 50; refine (keep_any v bs g _ hEd.src hl).mono ?_; rintro e x2 ⟨⟨u, ks, rfl, hks, ou⟩, hs, hk⟩; have hE2 := hEd.drawn hk hs; have HU := hide ou.reads; obtain ⟨c0, c1⟩ := HSE.out _ hE2; clear hs hk ou)
                | (go_at_call 56; refine (specCrash_any _ _ (xs) (ps) _ (by omega) (by omega) _ ks hE2.os.reads hE2.op.reads HU.out).mono ?_; rw [(HCR.out ks (by omega)).1, (HCR.out ks (by omega)).2]; rintro e x3 ⟨⟨fs, fp, rfl, o1, o2, dd⟩, hb⟩
                   obtain ⟨f1, f2, f3, rfl⟩ := o1.isSlice
                   obtain ⟨f4, f5, f6, rfl⟩ := o2.isSlice
                   have hE3 := hE2.below hb
                   have hDx : D < x2.heap.size := hE2.row.lt
                   have HPX := hide (hE3.put hDx o1 o2 dd)
                   obtain ⟨c0, c1⟩ := HSE.out _ hE3
                   have d0 := hE3.row.free 0
                   have d1 := hE3.row.free 1
                   clear o1 o2 dd hb))
              all_goals go_wp2
              all_goals go_roundw
              all_goals first
                | exact ⟨k - 1, _, _, _, [], rfl, by omega, by omega, by rw [applyP_lenS]; omega, by rw [applyP_lenS]; omega, by simp, crash_right ks HRt.out, HPX⟩
                | (simp [intOf]; omega)
        | true =>
          have HSS := hide (show ∀ x, AInv w v bs g D (.slice s1 s2 s3) (.slice t1 t2 t3) xs ps x → x.cell? ⟨D, 0, none⟩ = some (.slice s1 s2 s3) ∧ x.cell? ⟨D, 1, none⟩ = some (.slice t1 t2 t3) ∧ AInv w v bs g D (.slice s1 s2 s3) (.slice t1 t2 t3) xs ps x from
            fun x h => ⟨h.row.cell 0, h.row.cell 1, h⟩)
          go_wp2_with fail
          refine wp_region_held (S := fun x : World => x.cell? ⟨D, 0, none⟩ = some (.slice s1 s2 s3) ∧ x.cell? ⟨D, 1, none⟩ = some (.slice t1 t2 t3) ∧ AInv w v bs g D (.slice s1 s2 s3) (.slice t1 t2 t3) xs ps x) (by kernel_rfl) ?_
          have HDa := hide HD8.out.drew
          have HKa := hide ((Kept.refl [g] w8).drew)
          have HS := hide (HSS.out { w8 with drawn := w8.drawn + 1 } HDa.out)
          refine wpAnyH_take (i := 0) (oi := _) (v := .agg #[.slice s1 s2 s3, .slice t1 t2 t3]) rfl (by kernel_rfl) (by kernel_rfl) (by kernel_rfl) (fun _ _ _ h => h) (Or.inl ⟨by rfl, by intro w hSw; go_split_ands; go_simp <;> omega⟩) HS.out ?_
          simp only [Act.put, List.getElem_toArray, List.getElem_cons_zero, List.setIfInBounds_toArray, List.set_cons_zero, List.set_cons_succ]
          refine wpAnyH_take (i := 1) (oi := _) (v := .pointer (some ⟨g, 0, none⟩)) rfl (by kernel_rfl) (by kernel_rfl) (by kernel_rfl) (fun _ _ _ h => h) (Or.inl ⟨by rfl, by intro w hSw; go_split_ands; go_simp <;> omega⟩) HS.out ?_
          simp only [Act.put, List.getElem_toArray, List.getElem_cons_zero, List.getElem_cons_succ, List.setIfInBounds_toArray, List.set_cons_zero, List.set_cons_succ]
          refine wpAnyH_take (i := 2) (oi := _) (v := .pointer (some ⟨g, 0, none⟩)) rfl (by kernel_rfl) (by kernel_rfl) (by kernel_rfl) (fun _ _ _ h => h) (Or.inl ⟨by rfl, by intro w hSw; go_split_ands; go_simp <;> omega⟩) HS.out ?_
          simp only [Act.put, List.getElem_toArray, List.getElem_cons_zero, List.getElem_cons_succ, List.setIfInBounds_toArray, List.set_cons_zero, List.set_cons_succ]
          refine wpAnyH_take (i := 5) (oi := _) (v := .pointer (some ⟨g, 0, none⟩)) rfl (by kernel_rfl) (by kernel_rfl) (by kernel_rfl) (fun _ _ _ h => h) (Or.inl ⟨by rfl, by intro w hSw; go_split_ands; go_simp <;> omega⟩) HS.out ?_
          simp only [Act.put, List.getElem_toArray, List.getElem_cons_zero, List.getElem_cons_succ, List.setIfInBounds_toArray, List.set_cons_zero, List.set_cons_succ]
          refine wpAnyH_ready (rs := [3]) (by kernel_rfl) (by simp) ?_
          refine AllReadyH.cons (o := _) rfl (fun K hK => ?_) AllReadyH.nil
          go_simp
          refine (n_any v bs g 90 _ HDa.out.src (by omega) hl).mono ?_
          rintro e v1 ⟨⟨b, rfl, hb0, hb1⟩, hs, hk⟩
          have HDb := hide (HDa.out.drawn hk hs)
          have HKb := hide (HKa.out.trans hk)
          clear hs hk
          refine hK.out _ _ (HSS.out _ HDb.out) (fun _ => ?_)
          clear hK K HS
          have HS := hide (HSS.out _ HDb.out)
          refine wpAnyH_ready (rs := [4]) (by kernel_rfl) (by simp) ?_
          refine AllReadyH.cons (o := _) rfl (fun K hK => ?_) AllReadyH.nil
          go_simp
          refine (bytes_any v bs g b _ HDb.out.src (by omega) hl).mono ?_
          rintro e v2 ⟨⟨T, rfl, hT0, hT1⟩, hs, hk⟩
          have HDc := hide (HDb.out.drawn hk hs)
          have HKc := hide (HKb.out.trans hk)
          clear hs hk
          refine hK.out _ _ (HSS.out _ HDc.out) (fun _ => ?_)
          clear hK K HS
          have HS := hide (HSS.out _ HDc.out)
          refine wpAnyH_ready (rs := [6]) (by kernel_rfl) (by simp) ?_
          refine AllReadyH.cons (o := _) rfl (fun K hK => ?_) AllReadyH.nil
          go_simp
          refine (n_any v bs g 6 _ HDc.out.src (by omega) hl).mono ?_
          rintro e v3 ⟨⟨b6, rfl, hb60, hb61⟩, hs, hk⟩
          have HDd := hide (HDc.out.drawn hk hs)
          have HKd := hide (HKc.out.trans hk)
          clear hs hk
          refine hK.out _ _ (HSS.out _ HDd.out) (fun _ => ?_)
          clear hK K HS
          have HS := hide (HSS.out _ HDd.out)
          refine wpAnyH_ready (rs := [7]) (by kernel_rfl) (by simp) ?_
          refine AllReadyH.cons (o := _) rfl (fun K hK => ?_) AllReadyH.nil
          go_simp
          refine (specAreaPut_any _ _ xs ps T b6 _ (by omega) (by omega) (by omega) HDd.out.os.reads HDd.out.op.reads).mono ?_
          rintro e v4 ⟨⟨zs, zp, rfl, o1, o2, dd⟩, hb7⟩
          obtain ⟨i1, i2, i3, rfl⟩ := o1.isSlice
          obtain ⟨j1, j2, j3, rfl⟩ := o2.isSlice
          have HDe := hide (HDd.out.below hb7)
          have HYe := hide (((HY8.out.kept hgW HKd.out).row).below hb7 (HY8.out.kept hgW HKd.out).row.lt)
          have hl7 := (HY8.out.kept hgW HKd.out).row.lt
          have hz7 : wr.heap.size ≤ v3.heap.size := by have := HY8.out.lo; omega
          obtain ⟨y, dd5⟩ := store5 (wr := wr) (o := putOut xs ps T b6) (B := B) HDe.out hDr.out hBW (Nat.le_refl _) HYe.out (o1.mono hz7) (o2.mono hz7) (fun hm => by have := (o1.leads _ hm).1; omega) (fun hm => by have := (o2.leads _ hm).1; omega) dd (putA_ok T b6)
          have HYf := hide y
          have HDf := hide dd5
          clear o1 o2 dd hb7 y dd5 hz7 hl7
          refine hK.out _ _ (HSS.out _ HDe.out) (fun _ => ?_)
          clear hK K HS
          have g0 : v4.cell? ⟨B, 0, none⟩ = some (ys) := HYe.out.cell 0
          have e0 := HYe.out.free 0
          have g1 : v4.cell? ⟨B, 1, none⟩ = some (yp) := HYe.out.cell 1
          have e1 := HYe.out.free 1
          have g2 : v4.cell? ⟨B, 2, none⟩ = some (.string o.t) := HYe.out.cell 2
          have e2 := HYe.out.free 2
          have g3 : v4.cell? ⟨B, 3, none⟩ = some (.int .i64 o.g) := HYe.out.cell 3
          have e3 := HYe.out.free 3
          have g4 : v4.cell? ⟨B, 4, none⟩ = some (.int .i64 o.c) := HYe.out.cell 4
          have e4 := HYe.out.free 4
          have HS := hide (HSS.out _ HDe.out)
          refine wpAnyH_ready (rs := [8]) (by kernel_rfl) (by simp) ?_
          refine AllReadyH.cons (o := _) rfl (fun K hK => ?_) AllReadyH.nil
          go_simp
          refine hK.out _ _ (HSS.out _ HDf.out) (fun _ => ?_)
          clear hK K g0 g1 g2 g3 g4 e0 e1 e2 e3 e4
          refine wpAnyH_done (by kernel_rfl) ?_ _
          obtain ⟨V8, hV8⟩ : ∃ V, V = ((((v4.setCell ⟨B, 0, none⟩ (.slice i1 i2 i3)).setCell ⟨B, 1, none⟩ (.slice j1 j2 j3)).setCell ⟨B, 2, none⟩ (.string (putOut xs ps T b6).t)).setCell ⟨B, 3, none⟩ (.int .i64 (putOut xs ps T b6).g)).setCell ⟨B, 4, none⟩ (.int .i64 (putOut xs ps T b6).c) := ⟨_, rfl⟩
          rw [← hV8] at HYf HDf ⊢
          clear hV8 HS HSS HDa HDb HDc HDd HDe HKa HKb HKc HKd HYe HD8 HY8
          obtain ⟨o9, ho9⟩ : ∃ o9, o9 = putOut xs ps T b6 := ⟨_, rfl⟩
          rw [← ho9] at HYf
          clear ho9
          have hDB : ¬ D = B := by omega
          have hBD : ¬ B = D := by omega
          have g0 : V8.cell? ⟨B, 0, none⟩ = some (.slice i1 i2 i3) := HYf.out.row.cell 0
          have g1 : V8.cell? ⟨B, 1, none⟩ = some (.slice j1 j2 j3) := HYf.out.row.cell 1
          have g2 : V8.cell? ⟨B, 2, none⟩ = some (.string o9.t) := HYf.out.row.cell 2
          have g3 : V8.cell? ⟨B, 3, none⟩ = some (.int .i64 o9.g) := HYf.out.row.cell 3
          have g4 : V8.cell? ⟨B, 4, none⟩ = some (.int .i64 o9.c) := HYf.out.row.cell 4
          have c0 : V8.cell? ⟨D, 0, none⟩ = some (.slice s1 s2 s3) := HDf.out.row.cell 0
          have c1 : V8.cell? ⟨D, 1, none⟩ = some (.slice t1 t2 t3) := HDf.out.row.cell 1
          have p0 := HDf.out.row.free 0
          have p1 := HDf.out.row.free 1
          by_cases hc : o9.c = 0
          · have hce : (o9.c == 0) = true := by simpa using hc
            obtain ⟨r1, r2⟩ := HYf.out.ok hc
            have HPT := hide (HDf.out.put (B := wr.heap.size) hDW HYf.out.os HYf.out.op HYf.out.dj)
            have HR2 := hide r1
            have hpl2 : o9.ps.length ≤ 200 := (right_len r1).2.2
            clear r1 hc
            go_wp2_with fail
            refine (one_any v bs g 5 _ HPT.out.src (by omega) hl).mono ?_
            rintro e x1 ⟨⟨b, rfl⟩, hs, hk⟩
            have HE := hide (HPT.out.drawn hk hs)
            clear hs hk HPT
            cases b with
            | false =>
              go_wp2
              go_roundw
              case rel => exact ⟨k - 1, _, _, o9.xs, o9.ps, rfl, by omega, by omega, by omega, by omega, by omega, HR2, HE⟩
              case measure => simp [intOf]; omega
            | true =>
              have c0 : x1.cell? ⟨D, 0, none⟩ = some (.slice i1 i2 i3) := HE.out.row.cell 0
              have c1 : x1.cell? ⟨D, 1, none⟩ = some (.slice j1 j2 j3) := HE.out.row.cell 1
              have HSE := hide (fun x (h : AInv w v bs g D (.slice i1 i2 i3) (.slice j1 j2 j3) (o9.xs) (o9.ps) x) => (show x.cell? ⟨D, 0, none⟩ = some (.slice i1 i2 i3) ∧ x.cell? ⟨D, 1, none⟩ = some (.slice j1 j2 j3) from ⟨h.row.cell 0, h.row.cell 1⟩))
              have hEd := HE.out.drew
              have HCR := hide (show ∀ ks : List Int, ks.length ≤ 400 → crashXs (o9.xs) (o9.ps) ks = applyP (keptOf ks (o9.ps)) (o9.xs) ∧ crashPs (o9.xs) (o9.ps) ks = [] from fun ks hk => crash_of hk HR2.out)
              go_wp2_with fail
              go_region_with (first
                | (go_at_call 50; refine (keep_any v bs g _ hEd.src hl).mono ?_; rintro e x2 ⟨⟨u, ks, rfl, hks, ou⟩, hs, hk⟩; have hE2 := hEd.drawn hk hs; have HU := hide ou.reads; obtain ⟨c0, c1⟩ := HSE.out _ hE2; clear hs hk ou)
                | (go_at_call 56; refine (specCrash_any _ _ (o9.xs) (o9.ps) _ (by omega) (by omega) _ ks hE2.os.reads hE2.op.reads HU.out).mono ?_; rw [(HCR.out ks (by omega)).1, (HCR.out ks (by omega)).2]; rintro e x3 ⟨⟨fs, fp, rfl, o1, o2, dd⟩, hb⟩
                   obtain ⟨f1, f2, f3, rfl⟩ := o1.isSlice
                   obtain ⟨f4, f5, f6, rfl⟩ := o2.isSlice
                   have hE3 := hE2.below hb
                   have hDx : D < x2.heap.size := hE2.row.lt
                   have HPX := hide (hE3.put hDx o1 o2 dd)
                   obtain ⟨c0, c1⟩ := HSE.out _ hE3
                   have d0 := hE3.row.free 0
                   have d1 := hE3.row.free 1
                   clear o1 o2 dd hb))
              all_goals go_wp2
              all_goals go_roundw
              all_goals first
                | exact ⟨k - 1, _, _, _, [], rfl, by omega, by omega, by rw [applyP_lenS]; omega, by rw [applyP_lenS]; omega, by simp, crash_right ks HR2.out, HPX⟩
                | (simp [intOf]; omega)
          · have hce : (o9.c == 0) = false := by simpa using hc
            clear hc
            go_wp2_with fail
            refine (one_any v bs g 5 _ HDf.out.src (by omega) hl).mono ?_
            rintro e x1 ⟨⟨b, rfl⟩, hs, hk⟩
            have HE := hide (HDf.out.drawn hk hs)
            clear hs hk HDf
            cases b with
            | false =>
              go_wp2
              go_roundw
              case rel => exact ⟨k - 1, _, _, xs, ps, rfl, by omega, by omega, hx3, hx14, hpl, HRt, HE⟩
              case measure => simp [intOf]; omega
            | true =>
              have c0 : x1.cell? ⟨D, 0, none⟩ = some (.slice s1 s2 s3) := HE.out.row.cell 0
              have c1 : x1.cell? ⟨D, 1, none⟩ = some (.slice t1 t2 t3) := HE.out.row.cell 1
              have HSE := hide (fun x (h : AInv w v bs g D (.slice s1 s2 s3) (.slice t1 t2 t3) (xs) (ps) x) => (show x.cell? ⟨D, 0, none⟩ = some (.slice s1 s2 s3) ∧ x.cell? ⟨D, 1, none⟩ = some (.slice t1 t2 t3) from ⟨h.row.cell 0, h.row.cell 1⟩))
              have hEd := HE.out.drew
              have HCR := hide (show ∀ ks : List Int, ks.length ≤ 400 → crashXs (xs) (ps) ks = applyP (keptOf ks (ps)) (xs) ∧ crashPs (xs) (ps) ks = [] from fun ks hk => crash_of hk HRt.out)
              go_wp2_with fail
              go_region_with (first
                | (go_at_call 50; refine (keep_any v bs g _ hEd.src hl).mono ?_; rintro e x2 ⟨⟨u, ks, rfl, hks, ou⟩, hs, hk⟩; have hE2 := hEd.drawn hk hs; have HU := hide ou.reads; obtain ⟨c0, c1⟩ := HSE.out _ hE2; clear hs hk ou)
                | (go_at_call 56; refine (specCrash_any _ _ (xs) (ps) _ (by omega) (by omega) _ ks hE2.os.reads hE2.op.reads HU.out).mono ?_; rw [(HCR.out ks (by omega)).1, (HCR.out ks (by omega)).2]; rintro e x3 ⟨⟨fs, fp, rfl, o1, o2, dd⟩, hb⟩
                   obtain ⟨f1, f2, f3, rfl⟩ := o1.isSlice
                   obtain ⟨f4, f5, f6, rfl⟩ := o2.isSlice
                   have hE3 := hE2.below hb
                   have hDx : D < x2.heap.size := hE2.row.lt
                   have HPX := hide (hE3.put hDx o1 o2 dd)
                   obtain ⟨c0, c1⟩ := HSE.out _ hE3
                   have d0 := hE3.row.free 0
                   have d1 := hE3.row.free 1
                   clear o1 o2 dd hb))
              all_goals go_wp2
              all_goals go_roundw
              all_goals first
                | exact ⟨k - 1, _, _, _, [], rfl, by omega, by omega, by rw [applyP_lenS]; omega, by rw [applyP_lenS]; omega, by simp, crash_right ks HRt.out, HPX⟩
                | (simp [intOf]; omega)
    · have hki : decide (0 < k) = false := decide_eq_false hlt
      have c0 : wr.cell? ⟨D, 0, none⟩ = some (.slice s1 s2 s3) := HDr.out.row.cell 0
      have c1 : wr.cell? ⟨D, 1, none⟩ = some (.slice t1 t2 t3) := HDr.out.row.cell 1
      go_wp2_with fail
      refine (one_any v bs g 12 _ HDr.out.src (by omega) hl).mono ?_
      rintro e w8 ⟨⟨b, rfl⟩, hs8, hk8⟩
      have HD8 := hide (HDr.out.drawn hk8 hs8)
      have HSZ := hide (right_sizes HRt.out)
      clear hs8 hk8 c0 c1 HDr
      cases b with
      | false =>
        go_wp2_with fail
        refine (one_any v bs g 20 _ HD8.out.src (by omega) hl).mono ?_
        rintro e y1 ⟨⟨b, rfl⟩, hs, hk⟩
        have HE := hide (HD8.out.drawn hk hs)
        clear hs hk HD8
        cases b with
        | false =>
          have c0 : y1.cell? ⟨D, 0, none⟩ = some (.slice s1 s2 s3) := HE.out.row.cell 0
          have c1 : y1.cell? ⟨D, 1, none⟩ = some (.slice t1 t2 t3) := HE.out.row.cell 1
          have r0 : y1.cell? ⟨w.heap.size, 0, none⟩ = some (.slice none 0 0) := HE.out.res.cell 0
          have r1 : y1.cell? ⟨w.heap.size, 1, none⟩ = some (.slice none 0 0) := HE.out.res.cell 1
          have p0 := HE.out.res.free 0
          have p1 := HE.out.res.free 1
          go_wp2
          obtain ⟨z0, z1, f1, f2, f3, f4⟩ := HE.out.done
          exact bodyPost_ret (v := .agg #[.slice s1 s2 s3, .slice t1 t2 t3]) (by simp [results, Tryz.results21, go_sem, z0, z1]) rfl ⟨⟨_, _, xs, ps, rfl, f1, f2, HE.out.dj, by omega, by omega, fun x hx => Nat.le_trans (HSZ.out.1 x hx) (by omega), HSZ.out.2⟩, f3, f4⟩
        | true =>
          go_wp2_with fail
          refine (disk_any v bs g _ HE.out.src hl).mono ?_
          rintro e y2 ⟨⟨fs, fp, xf, pf, rfl, o1, o2, dj, xl, pl, xz, pz⟩, hs, hk⟩
          obtain ⟨f1, f2, f3, rfl⟩ := o1.isSlice
          obtain ⟨f4, f5, f6, rfl⟩ := o2.isSlice
          have hE2 := HE.out.drawn hk hs
          have hgt : w.heap.size < y1.heap.size := by have := HE.out.size; omega
          have r0 : y2.cell? ⟨w.heap.size, 0, none⟩ = some (.slice none 0 0) := hE2.res.cell 0
          have r1 : y2.cell? ⟨w.heap.size, 1, none⟩ = some (.slice none 0 0) := hE2.res.cell 1
          have p0 := hE2.res.free 0
          have p1 := hE2.res.free 1
          have HRT9 := hide (hE2.ret hgt o1 o2)
          have HDJ := hide dj
          have HXZ := hide xz
          have HPZ := hide pz
          clear o1 o2 hs hk hE2 dj xz pz
          go_wp2
          obtain ⟨z0, z1, k1, k2, k3, k4⟩ := HRT9.out
          exact bodyPost_ret (v := .agg #[.slice f1 f2 f3, .slice f4 f5 f6]) (by simp [results, Tryz.results21, go_sem, z0, z1]) rfl ⟨⟨_, _, xf, pf, rfl, k1, k2, HDJ.out, by omega, by omega, HXZ.out, HPZ.out⟩, k3, k4⟩
      | true =>
        obtain ⟨G, c, hG⟩ : ∃ G c, Value.slice s1 s2 s3 = .slice (some ⟨G, 0, none⟩) xs.length c := by
          obtain ⟨_, ⟨p, cap, e, _, e2⟩ | ⟨G', rest, e, _⟩⟩ := HD8.out.os
          · rw [e2] at hx3; simp at hx3
          · exact ⟨_, _, e⟩
        injection hG with e1 e2 e3
        subst e1 e2 e3
        have c0 : w8.cell? ⟨D, 0, none⟩ = some (.slice (some ⟨G, 0, none⟩) xs.length s3) := HD8.out.row.cell 0
        go_wp2_with fail
        refine (n_any v bs g xs.length _ HD8.out.src (by omega) hl).mono ?_
        rintro e w9 ⟨⟨r, rfl, hq0, hq1⟩, hs9, hk9⟩
        have HD9 := hide (HD8.out.drawn hk9 hs9)
        obtain ⟨m, rfl⟩ := Int.eq_ofNat_of_zero_le hq0
        have hm : m < xs.length := by omega
        have hmI : (m : Int) < (xs.length : Int) := by omega
        clear hs9 hk9 HD8 hq1 c0
        obtain ⟨S, hS⟩ : ∃ S, S = xs[m]'hm := ⟨_, rfl⟩
        have HSL := hide (show S.size ≤ 64 by rw [hS]; exact HSZ.out.1 _ (List.getElem_mem hm))
        have HSE := hide hS
        clear hS
        have HSX := hide (show ∀ x (ys : List ByteArray) (hy : m < ys.length), AInv w v bs g D (.slice (some ⟨G, 0, none⟩) xs.length s3) (.slice t1 t2 t3) ys ps x → ys.length = xs.length → x.cell? ⟨G, m, none⟩ = some (.string (ys[m]'hy)) ∧ x.frozen? ⟨G, m, none⟩ = false from fun x ys hy h hyl => by
          obtain ⟨_, ⟨p, c, e, _, e2⟩ | ⟨G', rest, e, _, _, hR⟩⟩ := h.os
          · rw [e2] at hy; simp at hy
          · injection e with e1
            injection e1 with e1
            injection e1 with e1
            subst e1
            have := hR.cell m
            rw [List.getElem?_append_left (by rw [strs_len]; exact hy)] at this
            refine ⟨?_, hR.free m⟩
            rw [this]
            simp [strs, hy])
        have HSD := hide (show ∀ x (ys : List ByteArray), AInv w v bs g D (.slice (some ⟨G, 0, none⟩) xs.length s3) (.slice t1 t2 t3) ys ps x → x.cell? ⟨D, 0, none⟩ = some (.slice (some ⟨G, 0, none⟩) xs.length s3) ∧ x.cell? ⟨D, 1, none⟩ = some (.slice t1 t2 t3) from fun x ys h => ⟨h.row.cell 0, h.row.cell 1⟩)
        go_wp2_with fail
        refine wp_region_held (S := fun x : World => x.cell? ⟨D, 0, none⟩ = some (.slice (some ⟨G, 0, none⟩) xs.length s3) ∧ x.cell? ⟨D, 1, none⟩ = some (.slice t1 t2 t3)) (by kernel_rfl) ?_
        have HDa := hide HD9.out.drew
        have HS := hide (HSD.out { w9 with drawn := w9.drawn + 1 } _ HDa.out)
        refine wpAnyH_take (i := 0) (oi := _) (v := .pointer (some ⟨D, 0, none⟩)) rfl (by kernel_rfl) (by kernel_rfl) (by kernel_rfl) (fun _ _ _ h => h) (Or.inl ⟨by rfl, by intro w hSw; go_split_ands; go_simp <;> omega⟩) HS.out ?_
        simp only [Act.put, List.getElem_toArray, List.getElem_cons_zero, List.setIfInBounds_toArray, List.set_cons_zero, List.set_cons_succ]
        refine wpAnyH_take (i := 1) (oi := _) (v := .slice (some ⟨G, 0, none⟩) xs.length s3) rfl (by kernel_rfl) (by kernel_rfl) (by kernel_rfl) (fun _ _ _ h => h) (Or.inl ⟨by rfl, by intro w hSw; go_split_ands; go_simp <;> omega⟩) HS.out ?_
        simp only [Act.put, List.getElem_toArray, List.getElem_cons_zero, List.getElem_cons_succ, List.setIfInBounds_toArray, List.set_cons_zero, List.set_cons_succ]
        refine wpAnyH_take (i := 2) (oi := _) (v := .int .i64 (m : Int)) rfl (by kernel_rfl) (by kernel_rfl) (by kernel_rfl) (fun _ _ _ h => h) (Or.inl ⟨by rfl, by intro w hSw; go_split_ands; go_simp <;> omega⟩) HS.out ?_
        simp only [Act.put, List.getElem_toArray, List.getElem_cons_zero, List.getElem_cons_succ, List.setIfInBounds_toArray, List.set_cons_zero, List.set_cons_succ]
        refine wpAnyH_take (i := 3) (oi := _) (v := .pointer (some ⟨g, 0, none⟩)) rfl (by kernel_rfl) (by kernel_rfl) (by kernel_rfl) (fun _ _ _ h => h) (Or.inl ⟨by rfl, by intro w hSw; go_split_ands; go_simp <;> omega⟩) HS.out ?_
        simp only [Act.put, List.getElem_toArray, List.getElem_cons_zero, List.getElem_cons_succ, List.setIfInBounds_toArray, List.set_cons_zero, List.set_cons_succ]
        refine wpAnyH_take (i := 4) (oi := _) (v := .pointer (some ⟨D, 0, none⟩)) rfl (by kernel_rfl) (by kernel_rfl) (by kernel_rfl) (fun _ _ _ h => h) (Or.inl ⟨by rfl, by intro w hSw; go_split_ands; go_simp <;> omega⟩) HS.out ?_
        simp only [Act.put, List.getElem_toArray, List.getElem_cons_zero, List.getElem_cons_succ, List.setIfInBounds_toArray, List.set_cons_zero, List.set_cons_succ]
        refine wpAnyH_take (i := 5) (oi := _) (v := .slice (some ⟨G, 0, none⟩) xs.length s3) rfl (by kernel_rfl) (by kernel_rfl) (by kernel_rfl) (fun _ _ _ h => h) (Or.inl ⟨by rfl, by intro w hSw; go_split_ands; go_simp <;> omega⟩) HS.out ?_
        simp only [Act.put, List.getElem_toArray, List.getElem_cons_zero, List.getElem_cons_succ, List.setIfInBounds_toArray, List.set_cons_zero, List.set_cons_succ]
        refine wpAnyH_take (i := 6) (oi := _) (v := .int .i64 (m : Int)) rfl (by kernel_rfl) (by kernel_rfl) (by kernel_rfl) (fun _ _ _ h => h) (Or.inl ⟨by rfl, by intro w hSw; go_split_ands; go_simp <;> omega⟩) HS.out ?_
        simp only [Act.put, List.getElem_toArray, List.getElem_cons_zero, List.getElem_cons_succ, List.setIfInBounds_toArray, List.set_cons_zero, List.set_cons_succ]
        refine wpAnyH_take (i := 7) (oi := _) (v := .pointer (some ⟨G, m, none⟩)) rfl (by kernel_rfl) (by kernel_rfl) (by kernel_rfl) (fun _ _ _ h => h) (Or.inl ⟨by rfl, by intro w hSw; go_split_ands; go_simp <;> omega⟩) HS.out ?_
        simp only [Act.put, List.getElem_toArray, List.getElem_cons_zero, List.getElem_cons_succ, List.setIfInBounds_toArray, List.set_cons_zero, List.set_cons_succ]
        have m0 := (HSX.out _ xs hm HDa.out rfl).1
        rw [← HSE.out] at m0
        refine wpAnyH_ready (rs := [8]) (by kernel_rfl) (by simp) ?_
        refine AllReadyH.cons (o := _) rfl (fun K hK => ?_) AllReadyH.nil
        go_simp
        refine hK.out _ _ (HSD.out _ _ HDa.out) (fun _ => ?_)
        clear hK K m0
        refine wpAnyH_ready (rs := [9]) (by kernel_rfl) (by simp) ?_
        refine AllReadyH.cons (o := _) rfl (fun K hK => ?_) AllReadyH.nil
        go_simp
        refine (spoil_any v bs g S _ HDa.out.src hl (by have := HSL.out; omega)).mono ?_
        rintro e x1 ⟨⟨T, rfl, hT⟩, hs, hk⟩
        have HDb := hide (HDa.out.drawn hk hs)
        have hT65 : T.size ≤ 65 := by have := HSL.out; omega
        clear hs hk
        refine hK.out _ _ (HSD.out _ _ HDb.out) (fun _ => ?_)
        clear hK K HS
        have HS := hide (HSD.out _ _ HDb.out)
        refine wpAnyH_take (i := 10) (oi := _) (v := .pointer (some ⟨G, m, none⟩)) rfl (by kernel_rfl) (by kernel_rfl) (by kernel_rfl) (fun _ _ _ h => h) (Or.inl ⟨by rfl, by intro w hSw; go_split_ands; go_simp <;> omega⟩) HS.out ?_
        simp only [Act.put, List.getElem_toArray, List.getElem_cons_zero, List.getElem_cons_succ, List.setIfInBounds_toArray, List.set_cons_zero, List.set_cons_succ]
        obtain ⟨m0, mf⟩ := HSX.out _ xs hm HDb.out rfl
        have HDc := hide (HDb.out.sector m hm T hT65)
        refine wpAnyH_ready (rs := [11]) (by kernel_rfl) (by simp) ?_
        refine AllReadyH.cons (o := _) rfl (fun K hK => ?_) AllReadyH.nil
        go_simp
        refine hK.out _ _ (HSD.out _ _ HDc.out) (fun _ => ?_)
        clear hK K m0 mf
        refine wpAnyH_done (by kernel_rfl) ?_ _
        obtain ⟨x2, hx2⟩ : ∃ W, W = x1.setCell ⟨G, m, none⟩ (.string T) := ⟨_, rfl⟩
        rw [← hx2] at HDc ⊢
        clear hx2 HS HDa HDb HD9
        have hml : m < (xs.set m T).length := by rw [List.length_set]; exact hm
        obtain ⟨m0, mf⟩ := HSX.out _ _ hml HDc.out List.length_set
        rw [List.getElem_set_self] at m0
        have HSZ2 := hide (show ∀ x ∈ xs.set m T, x.size ≤ 65 from fun x hx => by
          rcases List.mem_or_eq_of_mem_set hx with h' | rfl
          · exact Nat.le_trans (HSZ.out.1 x h') (by omega)
          · exact hT65)
        have c0 : x2.cell? ⟨D, 0, none⟩ = some (.slice (some ⟨G, 0, none⟩) xs.length s3) := HDc.out.row.cell 0
        have c1 : x2.cell? ⟨D, 1, none⟩ = some (.slice t1 t2 t3) := HDc.out.row.cell 1
        by_cases h64 : 64 < T.size
        · have h64i : (64 : Int) < (T.size : Int) := by omega
          have HDd := hide (show AInv w v bs g D (.slice (some ⟨G, 0, none⟩) xs.length s3) (.slice t1 t2 t3) ((xs.set m T).set m (T.extract 0 64)) ps (x2.drew.setCell ⟨G, m, none⟩ (.string (T.extract 0 64))) by
            have h1 := HDc.out.drew
            have e : Value.slice (some ⟨G, 0, none⟩) xs.length s3 = .slice (some ⟨G, 0, none⟩) (xs.set m T).length s3 := by rw [List.length_set]
            rw [e] at h1 ⊢
            exact h1.sector m hml _ (by rw [ByteArray.size_extract]; omega))
          go_wp2_with fail
          go_region
          have HSZ3 := hide (show ∀ x ∈ (xs.set m T).set m (T.extract 0 64), x.size ≤ 65 from fun x hx => by
            rcases List.mem_or_eq_of_mem_set hx with h' | rfl
            · exact HSZ2.out x h'
            · rw [ByteArray.size_extract]; omega)
          clear c0 c1 m0 mf HDc
          go_wp2_with fail
          refine (one_any v bs g 20 _ HDd.out.src (by omega) hl).mono ?_
          rintro e y1 ⟨⟨b, rfl⟩, hs, hk⟩
          have HE := hide (HDd.out.drawn hk hs)
          clear hs hk HDd
          cases b with
          | false =>
            have c0 : y1.cell? ⟨D, 0, none⟩ = some (.slice (some ⟨G, 0, none⟩) xs.length s3) := HE.out.row.cell 0
            have c1 : y1.cell? ⟨D, 1, none⟩ = some (.slice t1 t2 t3) := HE.out.row.cell 1
            have r0 : y1.cell? ⟨w.heap.size, 0, none⟩ = some (.slice none 0 0) := HE.out.res.cell 0
            have r1 : y1.cell? ⟨w.heap.size, 1, none⟩ = some (.slice none 0 0) := HE.out.res.cell 1
            have p0 := HE.out.res.free 0
            have p1 := HE.out.res.free 1
            go_wp2
            obtain ⟨z0, z1, f1, f2, f3, f4⟩ := HE.out.done
            exact bodyPost_ret (v := .agg #[.slice (some ⟨G, 0, none⟩) xs.length s3, .slice t1 t2 t3]) (by simp [results, Tryz.results21, go_sem, z0, z1]) rfl ⟨⟨_, _, ((xs.set m T).set m (T.extract 0 64)), ps, rfl, f1, f2, HE.out.dj, by rw [List.length_set, List.length_set]; omega, by omega, HSZ3.out, HSZ.out.2⟩, f3, f4⟩
          | true =>
            go_wp2_with fail
            refine (disk_any v bs g _ HE.out.src hl).mono ?_
            rintro e y2 ⟨⟨fs, fp, xf, pf, rfl, o1, o2, dj, xl, pl, xz, pz⟩, hs, hk⟩
            obtain ⟨f1, f2, f3, rfl⟩ := o1.isSlice
            obtain ⟨f4, f5, f6, rfl⟩ := o2.isSlice
            have hE2 := HE.out.drawn hk hs
            have hgt : w.heap.size < y1.heap.size := by have := HE.out.size; omega
            have r0 : y2.cell? ⟨w.heap.size, 0, none⟩ = some (.slice none 0 0) := hE2.res.cell 0
            have r1 : y2.cell? ⟨w.heap.size, 1, none⟩ = some (.slice none 0 0) := hE2.res.cell 1
            have p0 := hE2.res.free 0
            have p1 := hE2.res.free 1
            have HRT9 := hide (hE2.ret hgt o1 o2)
            have HDJ := hide dj
            have HXZ := hide xz
            have HPZ := hide pz
            clear o1 o2 hs hk hE2 dj xz pz
            go_wp2
            obtain ⟨z0, z1, k1, k2, k3, k4⟩ := HRT9.out
            exact bodyPost_ret (v := .agg #[.slice f1 f2 f3, .slice f4 f5 f6]) (by simp [results, Tryz.results21, go_sem, z0, z1]) rfl ⟨⟨_, _, xf, pf, rfl, k1, k2, HDJ.out, by omega, by omega, HXZ.out, HPZ.out⟩, k3, k4⟩
        · have h64i : ¬ (64 : Int) < (T.size : Int) := by omega
          go_wp2_with fail
          refine (one_any v bs g 20 _ HDc.out.src (by omega) hl).mono ?_
          rintro e y1 ⟨⟨b, rfl⟩, hs, hk⟩
          have HE := hide (HDc.out.drawn hk hs)
          clear hs hk HDc
          cases b with
          | false =>
            have c0 : y1.cell? ⟨D, 0, none⟩ = some (.slice (some ⟨G, 0, none⟩) xs.length s3) := HE.out.row.cell 0
            have c1 : y1.cell? ⟨D, 1, none⟩ = some (.slice t1 t2 t3) := HE.out.row.cell 1
            have r0 : y1.cell? ⟨w.heap.size, 0, none⟩ = some (.slice none 0 0) := HE.out.res.cell 0
            have r1 : y1.cell? ⟨w.heap.size, 1, none⟩ = some (.slice none 0 0) := HE.out.res.cell 1
            have p0 := HE.out.res.free 0
            have p1 := HE.out.res.free 1
            go_wp2
            obtain ⟨z0, z1, f1, f2, f3, f4⟩ := HE.out.done
            exact bodyPost_ret (v := .agg #[.slice (some ⟨G, 0, none⟩) xs.length s3, .slice t1 t2 t3]) (by simp [results, Tryz.results21, go_sem, z0, z1]) rfl ⟨⟨_, _, (xs.set m T), ps, rfl, f1, f2, HE.out.dj, by rw [List.length_set]; omega, by omega, HSZ2.out, HSZ.out.2⟩, f3, f4⟩
          | true =>
            go_wp2_with fail
            refine (disk_any v bs g _ HE.out.src hl).mono ?_
            rintro e y2 ⟨⟨fs, fp, xf, pf, rfl, o1, o2, dj, xl, pl, xz, pz⟩, hs, hk⟩
            obtain ⟨f1, f2, f3, rfl⟩ := o1.isSlice
            obtain ⟨f4, f5, f6, rfl⟩ := o2.isSlice
            have hE2 := HE.out.drawn hk hs
            have hgt : w.heap.size < y1.heap.size := by have := HE.out.size; omega
            have r0 : y2.cell? ⟨w.heap.size, 0, none⟩ = some (.slice none 0 0) := hE2.res.cell 0
            have r1 : y2.cell? ⟨w.heap.size, 1, none⟩ = some (.slice none 0 0) := hE2.res.cell 1
            have p0 := hE2.res.free 0
            have p1 := hE2.res.free 1
            have HRT9 := hide (hE2.ret hgt o1 o2)
            have HDJ := hide dj
            have HXZ := hide xz
            have HPZ := hide pz
            clear o1 o2 hs hk hE2 dj xz pz
            go_wp2
            obtain ⟨z0, z1, k1, k2, k3, k4⟩ := HRT9.out
            exact bodyPost_ret (v := .agg #[.slice f1 f2 f3, .slice f4 f5 f6]) (by simp [results, Tryz.results21, go_sem, z0, z1]) rfl ⟨⟨_, _, xf, pf, rfl, k1, k2, HDJ.out, by omega, by omega, HXZ.out, HPZ.out⟩, k3, k4⟩
end Go.Proofs.YtkmehbgepkilkaaGreatDoor

/- Draws: what the laws of one text on a disk draw. -/
namespace Go.Proofs.YtkmehbgepkilkaaGreatDoor
open Go.RowKit

/-- A disk in memory of its own, from block B on, of at most 14 sectors. -/
structure DA (B : Nat) (us up : Value) (xs : List ByteArray) (ps : List (Int × ByteArray)) (w : World) : Prop where
  os : OwnS 9 B w us xs
  op : OwnP 61 B w up ps
  dj : ∀ x ∈ leads us, x ∉ leads up
  xl : xs.length ≤ 14
  pl : ps.length ≤ 201
  xz : ∀ x ∈ xs, x.size ≤ 65
  pz : ∀ x ∈ ps, x.2.size ≤ 64
theorem DA.kept {B : Nat} {us up : Value} {xs : List ByteArray} {ps : List (Int × ByteArray)} {S : List Nat} {w w' : World} (h : DA B us up xs ps w) (hk : Kept S w w') (hS : ∀ x ∈ S, x < B) : DA B us up xs ps w' :=
  ⟨h.os.kept hk (fun x hx e => by have h1 := (h.os.leads x hx).1; have h2 := hS x e; omega), h.op.kept hk (fun x hx e => by have h1 := (h.op.leads x hx).1; have h2 := hS x e; omega), h.dj, h.xl, h.pl, h.xz, h.pz⟩
theorem DA.below {B : Nat} {us up : Value} {xs : List ByteArray} {ps : List (Int × ByteArray)} {w w' : World} (h : DA B us up xs ps w) (hb : Below w.heap.size w w') : DA B us up xs ps w' := h.kept (Kept.ofBelow hb) (by simp)
theorem DA.mono {B B' : Nat} {us up : Value} {xs : List ByteArray} {ps : List (Int × ByteArray)} {w : World} (h : DA B us up xs ps w) (hB : B' ≤ B) : DA B' us up xs ps w := ⟨h.os.mono hB, h.op.mono hB, h.dj, h.xl, h.pl, h.xz, h.pz⟩
instance stab_da (B : Nat) (us up : Value) (xs : List ByteArray) (ps : List (Int × ByteArray)) : Stab (fun w => DA B us up xs ps w) := ⟨fun hb h => h.below hb⟩
theorem DA.small {B : Nat} {us up : Value} {xs : List ByteArray} {ps : List (Int × ByteArray)} {w : World} (h : DA B us up xs ps w) : Small xs ps :=
  ⟨Nat.le_trans h.xl (by omega), fun x hx => Nat.le_trans (h.xz x hx) (by omega), Nat.le_trans h.pl (by omega), fun x hx => Nat.le_trans (h.pz x hx) (by omega)⟩
def DrawnAD (B : Nat) (e : Ending) (w : World) : Prop := ∃ us up xs ps, e = .returned (.agg #[us, up]) ∧ DA B us up xs ps w
def DrawnAP (B : Nat) (e : Ending) (w : World) : Prop := ∃ us up xs ps t a, e = .returned (.tuple #[.agg #[us, up], .string t, .int .i64 a]) ∧ t.size ≤ 1000 ∧ DA B us up xs ps w
/-- The disk is handed back in the result's block. -/
theorem da_ret {w0 w : World} {us up us' up' : Value} {xs : List ByteArray} {ps : List (Int × ByteArray)} {B : Nat} (hR : Row w w0.heap.size 26 [us', up']) (hd : DA B us up xs ps w) (hB : w0.heap.size < B) (hb : Below w0.heap.size w0 w) :
    ((w.setCell ⟨w0.heap.size, 0, none⟩ us).setCell ⟨w0.heap.size, 1, none⟩ up).cell? ⟨w0.heap.size, 0, none⟩ = some us ∧ ((w.setCell ⟨w0.heap.size, 0, none⟩ us).setCell ⟨w0.heap.size, 1, none⟩ up).cell? ⟨w0.heap.size, 1, none⟩ = some up ∧
    DA w0.heap.size us up xs ps ((w.setCell ⟨w0.heap.size, 0, none⟩ us).setCell ⟨w0.heap.size, 1, none⟩ up) ∧ Below w0.heap.size w0 ((w.setCell ⟨w0.heap.size, 0, none⟩ us).setCell ⟨w0.heap.size, 1, none⟩ up) := by
  have K : Kept [w0.heap.size] w ((w.setCell ⟨w0.heap.size, 0, none⟩ us).setCell ⟨w0.heap.size, 1, none⟩ up) := ((Kept.refl _ _).set (by simp) _).set (by simp) _
  have R := (hR.set (j := 0) us).set (j := 1) up
  exact ⟨R.cell 0, R.cell 1, (hd.kept K (by simp; omega)).mono (by omega), K.toBelow hb hb.size (by simp)⟩
theorem half_le (n : Nat) (h : n ≤ 14) : half n ≤ 6 := by unfold half; omega
theorem room_in {xs : List ByteArray} {ps : List (Int × ByteArray)} (h : xs.length ≤ 14) : 0 ≤ room xs ps ∧ room xs ps ≤ 384 := by
  unfold room
  split
  · rename_i h1
    have h2 := right_ge h1
    have := half_le xs.length h
    have h3 : 0 ≤ half xs.length := by unfold half; omega
    omega
  · omega

set_option maxRecDepth 100000 in
set_option maxHeartbeats 8000000 in
theorem drawARead_any (v : Value) (bs : List Int) (w : World) (h : ReadsB w v bs) (hl : bs.length ≤ 1048576) :
    Calls Tryz.prog 7 #[v] w fun e w' => DrawnAD w.heap.size e w' ∧ Below w.heap.size w w' := by
  have hb0 := below_new w (.cells #[.slice none 0 0, .slice none 0 0] 26)
  have HV := hide (h.below hb0 (Nat.le_refl _))
  have HR := hide (row_new w [.slice none 0 0, .slice none 0 0] 26)
  have HB0 := hide hb0
  clear h hb0
  go_enter Tryz.func7, Tryz.ntmps7
  go_wp2_with fail
  refine (source_any v bs _ HV.out hl).mono ?_
  rintro e w1 ⟨rfl, hs1, hb1⟩
  have HB1 := hide (HB0.out.trans (hb1.mono HB0.out.size))
  have HR1 := hide (Row.after hb1 HR.out)
  obtain ⟨g, hg⟩ : ∃ g, g = (w.alloc (.cells #[.slice none 0 0, .slice none 0 0] 26)).heap.size := ⟨_, rfl⟩
  have hgw : w.heap.size < g := by rw [hg]; simp
  rw [← hg] at hs1 ⊢
  have HS1 := hide hs1
  have hg1 := hs1.lt
  clear hs1 hb1 HB0 HR HV hg
  go_wp2_with fail
  refine (area_any v bs g _ HS1.out hl).mono ?_
  rintro e y ⟨⟨us, up, xs, ps, rfl, o1, o2, dj, xl, pl, xz, pz⟩, hs2, hk2⟩
  obtain ⟨s1, s2, s3, rfl⟩ := o1.isSlice
  obtain ⟨t1, t2, t3, rfl⟩ := o2.isSlice
  have HRy := hide (hk2.row HR1.out (by simp; omega))
  have hwz : w.heap.size < w1.heap.size := HR1.out.lt
  have HRT := hide (da_ret HRy.out (DA.mk o1 o2 dj (by omega) (by omega) xz pz) hwz (hk2.toBelow HB1.out HB1.out.size (by simp; omega)))
  have r0 : y.cell? ⟨w.heap.size, 0, none⟩ = some (.slice none 0 0) := HRy.out.cell 0
  have r1 : y.cell? ⟨w.heap.size, 1, none⟩ = some (.slice none 0 0) := HRy.out.cell 1
  have p0 := HRy.out.free 0
  have p1 := HRy.out.free 1
  clear o1 o2 dj xl pl xz pz hs2 hk2 hwz
  go_wp2
  obtain ⟨z0, z1, hd, hb⟩ := HRT.out
  exact bodyPost_ret (v := .agg #[.slice s1 s2 s3, .slice t1 t2 t3]) (by simp [results, Tryz.results7, go_sem, z0, z1]) rfl ⟨⟨_, _, xs, ps, rfl, hd⟩, hb⟩

set_option maxRecDepth 100000 in
set_option maxHeartbeats 8000000 in
theorem drawAFormat_any (v : Value) (bs : List Int) (w : World) (h : ReadsB w v bs) (hl : bs.length ≤ 1048576) :
    Calls Tryz.prog 6 #[v] w fun e w' => DrawnAD w.heap.size e w' ∧ Below w.heap.size w w' := by
  have hb0 := below_new w (.cells #[.slice none 0 0, .slice none 0 0] 26)
  have HV := hide (h.below hb0 (Nat.le_refl _))
  have HR := hide (row_new w [.slice none 0 0, .slice none 0 0] 26)
  have HB0 := hide hb0
  clear h hb0
  go_enter Tryz.func6, Tryz.ntmps6
  go_wp2_with fail
  refine (source_any v bs _ HV.out hl).mono ?_
  rintro e w1 ⟨rfl, hs1, hb1⟩
  have HB1 := hide (HB0.out.trans (hb1.mono HB0.out.size))
  have HR1 := hide (Row.after hb1 HR.out)
  obtain ⟨g, hg⟩ : ∃ g, g = (w.alloc (.cells #[.slice none 0 0, .slice none 0 0] 26)).heap.size := ⟨_, rfl⟩
  have hgw : w.heap.size < g := by rw [hg]; simp
  rw [← hg] at hs1 ⊢
  have HS1 := hide hs1
  have hg1 := hs1.lt
  clear hs1 hb1 HB0 HR HV hg
  go_wp2_with fail
  refine (one_any v bs g 2 _ HS1.out (by omega) hl).mono ?_
  rintro e w4 ⟨⟨b, rfl⟩, hs, hk⟩
  have HS4 := hide hs
  have HB4 := hide (hk.toBelow HB1.out HB1.out.size (by simp; omega))
  have HR4 := hide (hk.row HR1.out (by simp; omega))
  clear hs hk HS1 HB1 HR1 hg1
  cases b with
  | true =>
    go_wp2_with fail
    refine (disk_any v bs g _ HS4.out hl).mono ?_
    rintro e y ⟨⟨us, up, xs, ps, rfl, o1, o2, dj, xl, pl, xz, pz⟩, hs2, hk2⟩
    obtain ⟨s1, s2, s3, rfl⟩ := o1.isSlice
    obtain ⟨t1, t2, t3, rfl⟩ := o2.isSlice
    have HRy := hide (hk2.row HR4.out (by simp; omega))
    have hwz : w.heap.size < w4.heap.size := HR4.out.lt
    have HRT := hide (da_ret HRy.out (DA.mk o1 o2 dj (by omega) (by omega) xz pz) hwz (hk2.toBelow HB4.out HB4.out.size (by simp; omega)))
    have r0 : y.cell? ⟨w.heap.size, 0, none⟩ = some (.slice none 0 0) := HRy.out.cell 0
    have r1 : y.cell? ⟨w.heap.size, 1, none⟩ = some (.slice none 0 0) := HRy.out.cell 1
    have p0 := HRy.out.free 0
    have p1 := HRy.out.free 1
    clear o1 o2 dj xl pl xz pz hs2 hk2 hwz
    go_wp2
    obtain ⟨z0, z1, hd, hb⟩ := HRT.out
    exact bodyPost_ret (v := .agg #[.slice s1 s2 s3, .slice t1 t2 t3]) (by simp [results, Tryz.results6, go_sem, z0, z1]) rfl ⟨⟨_, _, xs, ps, rfl, hd⟩, hb⟩
  | false =>
    go_wp2_with fail
    refine (area_any v bs g _ HS4.out hl).mono ?_
    rintro e y ⟨⟨us, up, xs, ps, rfl, o1, o2, dj, xl, pl, xz, pz⟩, hs2, hk2⟩
    obtain ⟨s1, s2, s3, rfl⟩ := o1.isSlice
    obtain ⟨t1, t2, t3, rfl⟩ := o2.isSlice
    have HRy := hide (hk2.row HR4.out (by simp; omega))
    have hwz : w.heap.size < w4.heap.size := HR4.out.lt
    have HRT := hide (da_ret HRy.out (DA.mk o1 o2 dj (by omega) (by omega) xz pz) hwz (hk2.toBelow HB4.out HB4.out.size (by simp; omega)))
    have r0 : y.cell? ⟨w.heap.size, 0, none⟩ = some (.slice none 0 0) := HRy.out.cell 0
    have r1 : y.cell? ⟨w.heap.size, 1, none⟩ = some (.slice none 0 0) := HRy.out.cell 1
    have p0 := HRy.out.free 0
    have p1 := HRy.out.free 1
    clear o1 o2 dj xl pl xz pz hs2 hk2 hwz
    go_wp2
    obtain ⟨z0, z1, hd, hb⟩ := HRT.out
    exact bodyPost_ret (v := .agg #[.slice s1 s2 s3, .slice t1 t2 t3]) (by simp [results, Tryz.results6, go_sem, z0, z1]) rfl ⟨⟨_, _, xs, ps, rfl, hd⟩, hb⟩

set_option maxRecDepth 100000 in
set_option maxHeartbeats 8000000 in
theorem drawAPut_any (v : Value) (bs : List Int) (w : World) (h : ReadsB w v bs) (hl : bs.length ≤ 1048576) :
    Calls Tryz.prog 5 #[v] w fun e w' => DrawnAP w.heap.size e w' ∧ Below w.heap.size w w' := by
  have hb0 := below_new w (.cells #[.slice none 0 0, .slice none 0 0] 26)
  have HV := hide (h.below hb0 (Nat.le_refl _))
  have HR := hide (row_new w [.slice none 0 0, .slice none 0 0] 26)
  have HB0 := hide hb0
  clear h hb0
  go_enter Tryz.func5, Tryz.ntmps5
  go_wp2_with fail
  refine (source_any v bs _ HV.out hl).mono ?_
  rintro e w1 ⟨rfl, hs1, hb1⟩
  have HB1 := hide (HB0.out.trans (hb1.mono HB0.out.size))
  have HR1 := hide (Row.after hb1 HR.out)
  obtain ⟨g, hg⟩ : ∃ g, g = (w.alloc (.cells #[.slice none 0 0, .slice none 0 0] 26)).heap.size := ⟨_, rfl⟩
  have hgw : w.heap.size < g := by rw [hg]; simp
  rw [← hg] at hs1 ⊢
  have HS1 := hide hs1
  have hg1 := hs1.lt
  clear hs1 hb1 HB0 HR HV hg
  go_wp2_with fail
  refine (area_any v bs g _ HS1.out hl).mono ?_
  rintro e w2 ⟨⟨us, up, xs, ps, rfl, o1, o2, dj, xl, pl, xz, pz⟩, hs2, hk2⟩
  obtain ⟨s1, s2, s3, rfl⟩ := o1.isSlice
  obtain ⟨t1, t2, t3, rfl⟩ := o2.isSlice
  have bn := below_new w2 (.cells #[.slice s1 s2 s3, .slice t1 t2 t3] 26)
  have HDK2 := hide ((DA.mk o1 o2 dj xl pl xz pz).below bn)
  have HS2 := hide (hs2.below bn)
  have HB2 := hide (show Below w.heap.size w (w2.alloc (.cells #[.slice s1 s2 s3, .slice t1 t2 t3] 26)) from (hk2.toBelow HB1.out HB1.out.size (by simp; omega)).alloc (hk2.toBelow HB1.out HB1.out.size (by simp; omega)).size _)
  have HR2 := hide ((hk2.row HR1.out (by simp; omega)).alloc (.cells #[.slice s1 s2 s3, .slice t1 t2 t3] 26))
  have HD2 := hide (row_new w2 [.slice s1 s2 s3, .slice t1 t2 t3] 26)
  have HRM := hide (room_in (xs := xs) (ps := ps) xl)
  have HXL := hide xl
  have HPL := hide pl
  have hz2 := hk2.size
  have hr1 := HR1.out.lt
  obtain ⟨d, hd⟩ : ∃ d, d = w2.heap.size := ⟨_, rfl⟩
  have hdz : w1.heap.size ≤ d := by omega
  obtain ⟨W0, hW0⟩ : ∃ W, W = w2.alloc (.cells #[.slice s1 s2 s3, .slice t1 t2 t3] 26) := ⟨_, rfl⟩
  rw [← hd] at HD2
  rw [← hW0] at HDK2 HS2 HB2 HR2 HD2
  obtain ⟨D0, hD0⟩ : ∃ n, n = w1.heap.size := ⟨_, rfl⟩
  rw [← hD0] at HDK2 hdz hr1 hg1
  clear o1 o2 dj xl pl xz pz hs2 hk2 HB1 HR1 HS1 bn hz2 hD0
  go_wp2_with fail
  rw [← hW0, ← hd]
  clear hW0 hd
  refine (n_any v bs g 90 _ HS2.out (by omega) hl).mono ?_
  rintro e W3 ⟨⟨b, rfl, hb0, hb1⟩, hs, hk⟩
  have HDK3 := hide (HDK2.out.kept hk (by simp; omega))
  have HS3 := hide hs
  have HB3 := hide (hk.toBelow HB2.out HB2.out.size (by simp; omega))
  have HR3 := hide (hk.row HR2.out (by simp; omega))
  have HD3 := hide (hk.row HD2.out (by simp; omega))
  clear hs hk
  clear HDK2 HS2 HB2 HR2 HD2
  go_wp2_with fail
  refine (bytes_any v bs g b _ HS3.out (by omega) hl).mono ?_
  rintro e W4 ⟨⟨T, rfl, hT0, hT1⟩, hs, hk⟩
  have HDK4 := hide (HDK3.out.kept hk (by simp; omega))
  have HS4 := hide hs
  have HB4 := hide (hk.toBelow HB3.out HB3.out.size (by simp; omega))
  have HR4 := hide (hk.row HR3.out (by simp; omega))
  have HD4 := hide (hk.row HD3.out (by simp; omega))
  clear hs hk
  clear HDK3 HS3 HB3 HR3 HD3
  have hT : T.size ≤ 1000 := by omega
  clear hT0 hT1 hb0 hb1
  go_wp2_with fail
  refine (one_any v bs g 8 _ HS4.out (by omega) hl).mono ?_
  rintro e W5 ⟨⟨b, rfl⟩, hs, hk⟩
  have HDK5 := hide (HDK4.out.kept hk (by simp; omega))
  have HS5 := hide hs
  have HB5 := hide (hk.toBelow HB4.out HB4.out.size (by simp; omega))
  have HR5 := hide (hk.row HR4.out (by simp; omega))
  have HD5 := hide (hk.row HD4.out (by simp; omega))
  clear hs hk
  clear HDK4 HS4 HB4 HR4 HD4
  cases b with
  | false =>
    have HSS := hide (show ∀ x, Kept [g, w.heap.size] W5 x → x.cell? ⟨d, 0, none⟩ = some (.slice s1 s2 s3) ∧ x.cell? ⟨d, 1, none⟩ = some (.slice t1 t2 t3) ∧ Kept [g, w.heap.size] W5 x from fun x h => ⟨(h.row HD5.out (by simp; omega)).cell 0, (h.row HD5.out (by simp; omega)).cell 1, h⟩)
    have HSd := hide (HS5.out.below (Below.refl _ _).drew)
    have HRd := hide HR5.out.drew
    have HWZ := hide HR5.out.lt
    go_wp2_with fail
    refine wp_region_held (S := fun x : World => x.cell? ⟨d, 0, none⟩ = some (.slice s1 s2 s3) ∧ x.cell? ⟨d, 1, none⟩ = some (.slice t1 t2 t3) ∧ Kept [g, w.heap.size] W5 x) (by kernel_rfl) ?_
    have HS := hide (HSS.out { W5 with drawn := W5.drawn + 1 } ((Kept.refl _ _).drew))
    refine wpAnyH_take (i := 0) (oi := _) (v := .agg #[.slice s1 s2 s3, .slice t1 t2 t3]) rfl (by kernel_rfl) (by kernel_rfl) (by kernel_rfl) (fun _ _ _ h => h) (Or.inl ⟨by rfl, by intro w hSw; go_split_ands; go_simp <;> omega⟩) HS.out ?_
    simp only [Act.put, List.getElem_toArray, List.getElem_cons_zero, List.setIfInBounds_toArray, List.set_cons_zero, List.set_cons_succ]
    refine wpAnyH_take (i := 1) (oi := _) (v := .string T) rfl (by kernel_rfl) (by kernel_rfl) (by kernel_rfl) (fun _ _ _ h => h) (Or.inl ⟨by rfl, by intro w hSw; go_split_ands; go_simp <;> omega⟩) HS.out ?_
    simp only [Act.put, List.getElem_toArray, List.getElem_cons_zero, List.getElem_cons_succ, List.setIfInBounds_toArray, List.set_cons_zero, List.set_cons_succ]
    refine wpAnyH_take (i := 2) (oi := _) (v := .pointer (some ⟨g, 0, none⟩)) rfl (by kernel_rfl) (by kernel_rfl) (by kernel_rfl) (fun _ _ _ h => h) (Or.inl ⟨by rfl, by intro w hSw; go_split_ands; go_simp <;> omega⟩) HS.out ?_
    simp only [Act.put, List.getElem_toArray, List.getElem_cons_zero, List.getElem_cons_succ, List.setIfInBounds_toArray, List.set_cons_zero, List.set_cons_succ]
    refine wpAnyH_ready (rs := [3]) (by kernel_rfl) (by simp) ?_
    refine AllReadyH.cons (o := _) rfl (fun K hK => ?_) AllReadyH.nil
    go_simp
    refine (n_any v bs g 8 _ HSd.out (by omega) hl).mono ?_
    rintro e V ⟨⟨a, rfl, ha0, ha1⟩, hsV, hkV⟩
    have HKV := hide (show Kept [g, w.heap.size] _ V from ((Kept.refl _ _).drew).trans (hkV.mono (by simp)))
    have HRV := hide (hkV.row HRd.out (by simp; omega))
    have haw : IntKind.i64.wrap (a - 1) = a - 1 := by rw [IntKind.wrap_i64]; omega
    clear hsV hkV
    refine hK.out _ _ (HSS.out _ HKV.out) (fun _ => ?_)
    clear hK K HS
    have HS := hide (HSS.out _ HKV.out)
    refine wpAnyH_take (i := 4) (oi := _) (v := .int .i64 (a - 1)) rfl (by kernel_rfl) (by kernel_rfl) (by kernel_rfl) (fun _ _ _ h => h) (Or.inl ⟨by rfl, by intro w hSw; go_split_ands; go_simp <;> omega⟩) HS.out ?_
    simp only [Act.put, List.getElem_toArray, List.getElem_cons_zero, List.getElem_cons_succ, List.setIfInBounds_toArray, List.set_cons_zero, List.set_cons_succ]
    have r0 : V.cell? ⟨w.heap.size, 0, none⟩ = some (.slice none 0 0) := HRV.out.cell 0
    have r1 : V.cell? ⟨w.heap.size, 1, none⟩ = some (.slice none 0 0) := HRV.out.cell 1
    have p0 := HRV.out.free 0
    have p1 := HRV.out.free 1
    have K2 : Kept [g, w.heap.size] V ((V.setCell ⟨w.heap.size, 0, none⟩ (.slice s1 s2 s3)).setCell ⟨w.heap.size, 1, none⟩ (.slice t1 t2 t3)) := ((Kept.refl _ _).set (by simp) _).set (by simp) _
    have HK2 := hide (HKV.out.trans K2)
    have RR := (HRV.out.set (j := 0) (.slice s1 s2 s3)).set (j := 1) (.slice t1 t2 t3)
    have HRR := hide RR
    clear K2 RR
    refine wpAnyH_ready (rs := [5]) (by kernel_rfl) (by simp) ?_
    refine AllReadyH.cons (o := _) rfl (fun K hK => ?_) AllReadyH.nil
    go_simp
    refine hK.out _ _ (HSS.out _ HK2.out) (fun _ => ?_)
    clear hK K r0 r1 p0 p1
    have HS := hide (HSS.out _ HK2.out)
    refine wpAnyH_take (i := 6) (oi := _) (v := .string T) rfl (by kernel_rfl) (by kernel_rfl) (by kernel_rfl) (fun _ _ _ h => h) (Or.inl ⟨by rfl, by intro w hSw; go_split_ands; go_simp <;> omega⟩) HS.out ?_
    simp only [Act.put, List.getElem_toArray, List.getElem_cons_zero, List.getElem_cons_succ, List.setIfInBounds_toArray, List.set_cons_zero, List.set_cons_succ]
    refine wpAnyH_take (i := 7) (oi := _) (v := .int .i64 (a - 1)) rfl (by kernel_rfl) (by kernel_rfl) (by kernel_rfl) (fun _ _ _ h => h) (Or.inl ⟨by rfl, by intro w hSw; go_split_ands; go_simp <;> omega⟩) HS.out ?_
    simp only [Act.put, List.getElem_toArray, List.getElem_cons_zero, List.getElem_cons_succ, List.setIfInBounds_toArray, List.set_cons_zero, List.set_cons_succ]
    refine wpAnyH_done (by kernel_rfl) ?_ _
    obtain ⟨W9, hW9⟩ : ∃ W, W = (V.setCell ⟨w.heap.size, 0, none⟩ (.slice s1 s2 s3)).setCell ⟨w.heap.size, 1, none⟩ (.slice t1 t2 t3) := ⟨_, rfl⟩
    rw [← hW9] at HK2 HRR ⊢
    clear hW9 HS HSS
    have q0 : W9.cell? ⟨w.heap.size, 0, none⟩ = some (.slice s1 s2 s3) := HRR.out.cell 0
    have q1 : W9.cell? ⟨w.heap.size, 1, none⟩ = some (.slice t1 t2 t3) := HRR.out.cell 1
    go_wp2
    exact bodyPost_ret (v := .tuple #[.agg #[.slice s1 s2 s3, .slice t1 t2 t3], .string T, .int .i64 (a - 1)]) (by simp [results, Tryz.results5, go_sem, q0, q1]) rfl ⟨⟨_, _, xs, ps, T, a - 1, rfl, hT, (HDK5.out.kept HK2.out (by simp; omega)).mono (by omega)⟩, HK2.out.toBelow HB5.out HB5.out.size (by simp; omega)⟩
  | true =>
    have c0 : W5.cell? ⟨d, 0, none⟩ = some (.slice s1 s2 s3) := HD5.out.cell 0
    have c1 : W5.cell? ⟨d, 1, none⟩ = some (.slice t1 t2 t3) := HD5.out.cell 1
    clear hT
    go_wp2_with fail
    refine (specRoom_any _ _ xs ps _ (by have := HXL.out; omega) (by have := HPL.out; omega) HDK5.out.os.reads HDK5.out.op.reads).mono ?_
    rintro e W6 ⟨rfl, hb⟩
    have HDK6 := hide (HDK5.out.below hb)
    have HS6 := hide (HS5.out.below hb)
    have HB6 := hide (HB5.out.trans (hb.mono HB5.out.size))
    have HR6 := hide (Row.after hb HR5.out)
    have HD6 := hide (Row.after hb HD5.out)
    clear hb HDK5 HS5 HB5 HR5 HD5 c0 c1
    obtain ⟨r, hr⟩ : ∃ r, r = room xs ps := ⟨_, rfl⟩
    rw [← hr] at HRM ⊢
    clear hr
    go_wp2_with fail
    refine (n_any v bs g 2 _ HS6.out (by omega) hl).mono ?_
    rintro e W7 ⟨⟨c, rfl, hc0, hc1⟩, hs, hk⟩
    have HDK7 := hide (HDK6.out.kept hk (by simp; omega))
    have HS7 := hide hs
    have HB7 := hide (hk.toBelow HB6.out HB6.out.size (by simp; omega))
    have HR7 := hide (hk.row HR6.out (by simp; omega))
    have HD7 := hide (hk.row HD6.out (by simp; omega))
    clear hs hk
    clear HDK6 HS6 HB6 HR6 HD6
    obtain ⟨n, hn⟩ := Int.eq_ofNat_of_zero_le (show 0 ≤ r + c from by have := HRM.out; omega)
    have hn1 : n ≤ 1000 := by have := HRM.out; omega
    have hw2 : IntKind.i64.wrap (r + c) = (n : Int) := by rw [IntKind.wrap_i64]; omega
    obtain ⟨M, Z, hZ, hmk, hcv⟩ := made_text n (n : Int) rfl (by omega)
    have hcw := hcv (W7.alloc (.cells M 5)) W7.heap.size (heap_alloc_new W7 (.cells M 5))
    have hmw := hmk W7
    have bn := below_new W7 (.cells M 5)
    have HDK8 := hide (HDK7.out.below bn)
    have HS8 := hide (HS7.out.below bn)
    have HB8 := hide (HB7.out.trans (bn.mono HB7.out.size))
    have HR8 := hide (Row.after bn HR7.out)
    have HD8 := hide (Row.after bn HD7.out)
    have hZ2 : Z.size ≤ 1000 := by omega
    clear bn hmk hcv HDK7 HS7 HB7 HR7 HD7 hn hZ
    go_wp2_with fail
    obtain ⟨W8, hW8⟩ : ∃ W, W = W7.alloc (.cells M 5) := ⟨_, rfl⟩
    rw [← hW8] at HDK8 HS8 HB8 HR8 HD8 ⊢
    clear hW8 hcw hmw
    have HSS := hide (show ∀ x, Kept [g, w.heap.size] W8 x → x.cell? ⟨d, 0, none⟩ = some (.slice s1 s2 s3) ∧ x.cell? ⟨d, 1, none⟩ = some (.slice t1 t2 t3) ∧ Kept [g, w.heap.size] W8 x from fun x h => ⟨(h.row HD8.out (by simp; omega)).cell 0, (h.row HD8.out (by simp; omega)).cell 1, h⟩)
    have HSd := hide (HS8.out.below (Below.refl _ _).drew)
    have HRd := hide HR8.out.drew
    have HWZ := hide HR8.out.lt
    go_wp2_with fail
    refine wp_region_held (S := fun x : World => x.cell? ⟨d, 0, none⟩ = some (.slice s1 s2 s3) ∧ x.cell? ⟨d, 1, none⟩ = some (.slice t1 t2 t3) ∧ Kept [g, w.heap.size] W8 x) (by kernel_rfl) ?_
    have HS := hide (HSS.out { W8 with drawn := W8.drawn + 1 } ((Kept.refl _ _).drew))
    refine wpAnyH_take (i := 0) (oi := _) (v := .agg #[.slice s1 s2 s3, .slice t1 t2 t3]) rfl (by kernel_rfl) (by kernel_rfl) (by kernel_rfl) (fun _ _ _ h => h) (Or.inl ⟨by rfl, by intro w hSw; go_split_ands; go_simp <;> omega⟩) HS.out ?_
    simp only [Act.put, List.getElem_toArray, List.getElem_cons_zero, List.setIfInBounds_toArray, List.set_cons_zero, List.set_cons_succ]
    refine wpAnyH_take (i := 1) (oi := _) (v := .string Z) rfl (by kernel_rfl) (by kernel_rfl) (by kernel_rfl) (fun _ _ _ h => h) (Or.inl ⟨by rfl, by intro w hSw; go_split_ands; go_simp <;> omega⟩) HS.out ?_
    simp only [Act.put, List.getElem_toArray, List.getElem_cons_zero, List.getElem_cons_succ, List.setIfInBounds_toArray, List.set_cons_zero, List.set_cons_succ]
    refine wpAnyH_take (i := 2) (oi := _) (v := .pointer (some ⟨g, 0, none⟩)) rfl (by kernel_rfl) (by kernel_rfl) (by kernel_rfl) (fun _ _ _ h => h) (Or.inl ⟨by rfl, by intro w hSw; go_split_ands; go_simp <;> omega⟩) HS.out ?_
    simp only [Act.put, List.getElem_toArray, List.getElem_cons_zero, List.getElem_cons_succ, List.setIfInBounds_toArray, List.set_cons_zero, List.set_cons_succ]
    refine wpAnyH_ready (rs := [3]) (by kernel_rfl) (by simp) ?_
    refine AllReadyH.cons (o := _) rfl (fun K hK => ?_) AllReadyH.nil
    go_simp
    refine (n_any v bs g 8 _ HSd.out (by omega) hl).mono ?_
    rintro e V ⟨⟨a, rfl, ha0, ha1⟩, hsV, hkV⟩
    have HKV := hide (show Kept [g, w.heap.size] _ V from ((Kept.refl _ _).drew).trans (hkV.mono (by simp)))
    have HRV := hide (hkV.row HRd.out (by simp; omega))
    have haw : IntKind.i64.wrap (a - 1) = a - 1 := by rw [IntKind.wrap_i64]; omega
    clear hsV hkV
    refine hK.out _ _ (HSS.out _ HKV.out) (fun _ => ?_)
    clear hK K HS
    have HS := hide (HSS.out _ HKV.out)
    refine wpAnyH_take (i := 4) (oi := _) (v := .int .i64 (a - 1)) rfl (by kernel_rfl) (by kernel_rfl) (by kernel_rfl) (fun _ _ _ h => h) (Or.inl ⟨by rfl, by intro w hSw; go_split_ands; go_simp <;> omega⟩) HS.out ?_
    simp only [Act.put, List.getElem_toArray, List.getElem_cons_zero, List.getElem_cons_succ, List.setIfInBounds_toArray, List.set_cons_zero, List.set_cons_succ]
    have r0 : V.cell? ⟨w.heap.size, 0, none⟩ = some (.slice none 0 0) := HRV.out.cell 0
    have r1 : V.cell? ⟨w.heap.size, 1, none⟩ = some (.slice none 0 0) := HRV.out.cell 1
    have p0 := HRV.out.free 0
    have p1 := HRV.out.free 1
    have K2 : Kept [g, w.heap.size] V ((V.setCell ⟨w.heap.size, 0, none⟩ (.slice s1 s2 s3)).setCell ⟨w.heap.size, 1, none⟩ (.slice t1 t2 t3)) := ((Kept.refl _ _).set (by simp) _).set (by simp) _
    have HK2 := hide (HKV.out.trans K2)
    have RR := (HRV.out.set (j := 0) (.slice s1 s2 s3)).set (j := 1) (.slice t1 t2 t3)
    have HRR := hide RR
    clear K2 RR
    refine wpAnyH_ready (rs := [5]) (by kernel_rfl) (by simp) ?_
    refine AllReadyH.cons (o := _) rfl (fun K hK => ?_) AllReadyH.nil
    go_simp
    refine hK.out _ _ (HSS.out _ HK2.out) (fun _ => ?_)
    clear hK K r0 r1 p0 p1
    have HS := hide (HSS.out _ HK2.out)
    refine wpAnyH_take (i := 6) (oi := _) (v := .string Z) rfl (by kernel_rfl) (by kernel_rfl) (by kernel_rfl) (fun _ _ _ h => h) (Or.inl ⟨by rfl, by intro w hSw; go_split_ands; go_simp <;> omega⟩) HS.out ?_
    simp only [Act.put, List.getElem_toArray, List.getElem_cons_zero, List.getElem_cons_succ, List.setIfInBounds_toArray, List.set_cons_zero, List.set_cons_succ]
    refine wpAnyH_take (i := 7) (oi := _) (v := .int .i64 (a - 1)) rfl (by kernel_rfl) (by kernel_rfl) (by kernel_rfl) (fun _ _ _ h => h) (Or.inl ⟨by rfl, by intro w hSw; go_split_ands; go_simp <;> omega⟩) HS.out ?_
    simp only [Act.put, List.getElem_toArray, List.getElem_cons_zero, List.getElem_cons_succ, List.setIfInBounds_toArray, List.set_cons_zero, List.set_cons_succ]
    refine wpAnyH_done (by kernel_rfl) ?_ _
    obtain ⟨W9, hW9⟩ : ∃ W, W = (V.setCell ⟨w.heap.size, 0, none⟩ (.slice s1 s2 s3)).setCell ⟨w.heap.size, 1, none⟩ (.slice t1 t2 t3) := ⟨_, rfl⟩
    rw [← hW9] at HK2 HRR ⊢
    clear hW9 HS HSS
    have q0 : W9.cell? ⟨w.heap.size, 0, none⟩ = some (.slice s1 s2 s3) := HRR.out.cell 0
    have q1 : W9.cell? ⟨w.heap.size, 1, none⟩ = some (.slice t1 t2 t3) := HRR.out.cell 1
    go_wp2
    exact bodyPost_ret (v := .tuple #[.agg #[.slice s1 s2 s3, .slice t1 t2 t3], .string Z, .int .i64 (a - 1)]) (by simp [results, Tryz.results5, go_sem, q0, q1]) rfl ⟨⟨_, _, xs, ps, Z, a - 1, rfl, hZ2, (HDK8.out.kept HK2.out (by simp; omega)).mono (by omega)⟩, HK2.out.toBelow HB8.out HB8.out.size (by simp; omega)⟩
end Go.Proofs.YtkmehbgepkilkaaGreatDoor

/- The program's readSide: the bytes of a side's sectors, each asked for its own share. -/
namespace Go.Proofs.YtkmehbgepkilkaaGreatDoor
open Go.RowKit

theorem row_slice {w : World} {B n : Nat} {e : TypeId} {v : Value} {xs : List Value} (h : w.ownsRow B e 1 v n xs) : ∃ p cap, v = .slice p n cap := by
  obtain ⟨_, ⟨rfl, rfl⟩ | ⟨g, cap, cur, rfl, _⟩⟩ := h
  · exact ⟨_, _, rfl⟩
  · exact ⟨_, _, rfl⟩
theorem text_of_any {P : Program} {e t T B : Nat} {w : World} {v : Value} {b : ByteArray} (h : w.ownsRow B e 1 v b.size (Lib.strCells b))
    (ht : P.underlying t = some (.slice e)) (he : P.underlying e = some (.int .u8)) (hT : P.underlying T = some .string) : (convert t T v).run P w = .ok (.string b) w := by
  by_cases hv : v = .slice none 0 0
  · subst hv
    have hb : b = ⟨#[]⟩ := by
      obtain ⟨_, ⟨_, hn⟩ | ⟨g, cap, cur, hh, _⟩⟩ := h
      · exact ByteArray.size_eq_zero_iff.1 hn
      · cases hh
    subst hb
    rw [run_convert_bytes_string w t T e none 0 0 ht he hT]
    simp [Conv.bytesToString]
    rfl
  · exact text_of_row h hv ht he hT
theorem strCells_len (b : ByteArray) : (Lib.strCells b).length = b.size := by
  unfold Lib.strCells
  rw [List.length_map, Array.length_toList]
  rfl
theorem strCells_one (b : ByteArray) : ∀ u ∈ Lib.strCells b, u.oneCell' = true := by
  unfold Lib.strCells
  intro u hu
  obtain ⟨x, _, rfl⟩ := List.mem_map.1 hu
  rfl
theorem raw_cells (w : World) (d : ByteArray) (e : TypeId) (n : Nat) (hn : n ≤ d.size) (j : Nat) (u : Value) (hu : (Lib.strCells (d.extract 0 n))[j]? = some u) :
    (w.drew.alloc (.cells (bytesRow d (grownCap w d.size 0 e)) e ((bytesRow d (grownCap w d.size 0 e)).size, (bytesRow d (grownCap w d.size 0 e)).size + 1))).cell? ((⟨w.heap.size, 0, none⟩ : Addr).add j) = some u := by
  obtain ⟨hj, hu'⟩ := List.getElem?_eq_some_iff.1 hu
  rw [strCells_len, ByteArray.size_extract] at hj
  rw [add_addr, Nat.zero_add, raw_cell w d e j (by omega), ← hu']
  unfold Lib.strCells
  simp [ByteArray.getElem_eq_getElem_data]

set_option maxRecDepth 100000 in
set_option maxHeartbeats 4000000 in
theorem readSide_any (v : Value) (ys : List ByteArray) (sz : Nat) (w : World) (hr : Reads w v ys) (hn : ys.length ≤ 64) (hsz : sz ≤ 4096) :
    Calls Tryz.prog 63 #[v, .int .i64 sz] w fun e w' => ((full (fun j => ys.getD j ⟨#[]⟩) sz ys.length = true ∧ e = .returned (.string (gath (fun j => ys.getD j ⟨#[]⟩) sz ys.length))) ∨ (full (fun j => ys.getD j ⟨#[]⟩) sz ys.length = false ∧ e = .panicked (fault 5))) ∧ Below w.heap.size w w' := by
  obtain ⟨f, Hf⟩ : ∃ f, Hid (f = (fun j => ys.getD j (⟨#[]⟩ : ByteArray))) := ⟨_, rfl⟩
  rw [← Hf.out]
  obtain ⟨i0, hi, hz0, hz1, hz2⟩ := info_parts Tryz.infoB
  have HR := hide hr
  obtain ⟨p, c, rfl, hq⟩ := hr
  clear hq
  have HO0 := hide (show w.ownsRow w.heap.size 5 1 (.slice none 0 0) (gath f sz 0).size (Lib.strCells (gath f sz 0)) from ⟨rfl, .inl ⟨rfl, rfl⟩⟩)
  go_enter Tryz.func63, Tryz.ntmps63
  go_wp2_with fail
  go_loopw [5, 11] (fun u i wr => ∃ k : Nat, k ≤ ys.length ∧ i = .int .i64 k ∧ Hid (full f sz k = true) ∧ Hid (wr.ownsRow w.heap.size 5 1 u (gath f sz k).size (Lib.strCells (gath f sz k))) ∧ Hid (Below w.heap.size w wr)) (fun _ i _ => ys.length - (intOf i).toNat)
  case atStart => exact ⟨0, Nat.zero_le _, rfl, rfl, HO0, Below.refl _ _⟩
  case round =>
    obtain ⟨k, hk, rfl, HFk, HOw, HB⟩ := hrel
    have hgs := gath_size k HFk.out
    obtain ⟨b, Hb⟩ : ∃ b, Hid (b = gath f sz k) := ⟨_, rfl⟩
    rw [← Hb.out] at hgs HOw
    by_cases hlt : k < ys.length
    · obtain ⟨g, off, rfl, hg, hc⟩ : ∃ g off, p = some ⟨g, off, none⟩ ∧ _ := by
        obtain ⟨p', cap, he, _, _, _, h4⟩ := HR.out.below HB.out (Nat.le_refl _)
        cases he
        exact h4 (by omega)
      have hck := hc k hlt
      obtain ⟨T, hT⟩ : ∃ T, T = ys[k]'hlt := ⟨_, rfl⟩
      rw [← hT] at hck
      have HfT := hide (show f k = T by rw [Hf.out, hT]; simp [hlt])
      clear hc hg hT
      have hki : (k : Int) < (ys.length : Int) := by omega
      obtain ⟨N, hN⟩ : ∃ N, N = b.size := ⟨_, rfl⟩
      rw [← hN] at hgs HOw
      have HNN := hide hN
      clear hN
      obtain ⟨pu, cu, rfl⟩ := row_slice HOw.out
      obtain ⟨D, hD⟩ : ∃ D, D = sz - N := ⟨_, rfl⟩
      have hNw : IntKind.i64.wrap ((sz : Int) - (N : Int)) = (D : Int) := by rw [IntKind.wrap_i64]; omega
      have HFS := hide (full_step f sz k)
      have HG := hide (show gath f sz (k + 1) = b ++ T.extract 0 (want sz k) by rw [Hb.out, ← HfT.out]; rfl)
      have HFN := hide (show ∀ m, want sz k = m → T.size < m → full f sz ys.length = false from fun m hm h => full_not hlt (by rw [HfT.out, hm]; omega))
      have hNs : N ≤ 4096 := by omega
      have hcv := run_bytes_of_string (P := Tryz.prog) wr 9 22 5 T Tryz.underlying9 Tryz.underlying22 Tryz.underlying5
      have HRC := hide (raw_cells wr T 5)
      have bW : Below wr.heap.size wr (wr.drew.alloc (.cells (bytesRow T (grownCap wr T.size 0 5)) 5 ((bytesRow T (grownCap wr T.size 0 5)).size, (bytesRow T (grownCap wr T.size 0 5)).size + 1))) := ((Below.refl _ _).drew).alloc (Nat.le_refl _) _
      obtain ⟨C, hC⟩ : ∃ C, C = grownCap wr T.size 0 5 := ⟨_, rfl⟩
      have hCT : T.size ≤ C := by rw [hC]; exact grownCap_ge _ _ _ _
      obtain ⟨W, hW⟩ : ∃ W, W = wr.drew.alloc (.cells (bytesRow T (grownCap wr T.size 0 5)) 5 ((bytesRow T (grownCap wr T.size 0 5)).size, (bytesRow T (grownCap wr T.size 0 5)).size + 1)) := ⟨_, rfl⟩
      rw [← hW] at bW
      rw [← hW] at HRC
      rw [← hW, ← hC] at hcv
      have HBW := hide (HB.out.trans (bW.mono HB.out.size))
      have HOW := hide (ownsRow_after HOw.out bW)
      have hWs := HBW.out.size
      have HWT0 := hide (show want sz k = min 64 D by unfold want; omega)
      clear hW hC bW hD hgs
      by_cases h64 : 64 < D
      · have h64i : (64 : Int) < (D : Int) := by omega
        have HWT := hide (show want sz k = 64 by rw [HWT0.out]; omega)
        by_cases hshort : T.size < 64
        · have hsi : decide ((T.size : Int) < 64) = true := decide_eq_true (by omega)
          have HF5 := hide (HFN.out _ HWT.out hshort)
          go_wp2_with fail
          refine (refuse_yes 5 _).mono ?_
          rintro e w3 ⟨rfl, rfl⟩
          go_wp2
          exact ⟨rfl, .inr ⟨HF5.out, rfl⟩, HB.out⟩
        · have hsi : decide ((T.size : Int) < 64) = false := decide_eq_false (by omega)
          have hcI : 64 ≤ (C : Int) := by omega
          have hts : (T.extract 0 64).size = 64 := by rw [ByteArray.size_extract]; omega
          have HNL := hide (HRC.out 64 (by omega))
          go_wp2_with fail
          refine (refuse_no 5 _).mono ?_
          rintro e w3 ⟨rfl, rfl⟩
          go_wp2_with (at_builtin; refine wpList_append_own_at _ rfl _ _ 22 rfl w.heap.size 5 i0 (.int .u8 0) 1 1 Tryz.underlying22 hi hz0 hz1 hz2 rfl (by omega) _ N (Lib.strCells b) rfl HOW.out ⟨w3.heap.size, 0, none⟩ 64 64 (Lib.strCells (T.extract 0 64)) rfl (by rw [strCells_len, hts, Nat.mul_one]) HNL.out (strCells_one _) (by unfold maxLen; omega) (by omega) hWs ?_
                       intro v' w6 ho6 hg6 _ _
                       have HO6 := hide ho6
                       have HG6 := hide hg6
                       clear ho6 hg6)
          have HE := hide (show (gath f sz (k + 1)).size = N + 64 ∧ Lib.strCells (gath f sz (k + 1)) = Lib.strCells b ++ Lib.strCells (T.extract 0 64) by rw [HG.out, HWT.out, ByteArray.size_append, strCells_append, HNN.out, hts]; exact ⟨rfl, rfl⟩)
          go_roundw
          case rel =>
            refine ⟨k + 1, by omega, by go_num, by rw [HFS.out, HFk.out, HfT.out, HWT.out]; simp [Hid]; omega, by rw [HE.out.1, HE.out.2]; exact HO6, ?_⟩
            exact below_grown HBW.out HBW.out.size HG6.out (fun j hj => own_ge HOW.out hj)
          case measure => simp [intOf]; omega
      · have h64i : ¬ (64 : Int) < (D : Int) := by omega
        have hD0 : (0 : Int) ≤ (D : Int) := by omega
        have HWT := hide (show want sz k = D by rw [HWT0.out]; omega)
        by_cases hshort : T.size < D
        · have hsi : decide ((T.size : Int) < (D : Int)) = true := decide_eq_true (by omega)
          have HF5 := hide (HFN.out _ HWT.out hshort)
          go_wp2_with fail
          refine (refuse_yes 5 _).mono ?_
          rintro e w3 ⟨rfl, rfl⟩
          go_wp2
          exact ⟨rfl, .inr ⟨HF5.out, rfl⟩, HB.out⟩
        · have hsi : decide ((T.size : Int) < (D : Int)) = false := decide_eq_false (by omega)
          have hcI : (D : Int) ≤ (C : Int) := by omega
          have hts : (T.extract 0 D).size = D := by rw [ByteArray.size_extract]; omega
          have HNL := hide (HRC.out D (by omega))
          go_wp2_with fail
          refine (refuse_no 5 _).mono ?_
          rintro e w3 ⟨rfl, rfl⟩
          go_wp2_with (at_builtin; refine wpList_append_own_at _ rfl _ _ 22 rfl w.heap.size 5 i0 (.int .u8 0) 1 1 Tryz.underlying22 hi hz0 hz1 hz2 rfl (by omega) _ N (Lib.strCells b) rfl HOW.out ⟨w3.heap.size, 0, none⟩ D D (Lib.strCells (T.extract 0 D)) rfl (by rw [strCells_len, hts, Nat.mul_one]) HNL.out (strCells_one _) (by unfold maxLen; omega) (by omega) hWs ?_
                       intro v' w6 ho6 hg6 _ _
                       have HO6 := hide ho6
                       have HG6 := hide hg6
                       clear ho6 hg6)
          have HE := hide (show (gath f sz (k + 1)).size = N + D ∧ Lib.strCells (gath f sz (k + 1)) = Lib.strCells b ++ Lib.strCells (T.extract 0 D) by rw [HG.out, HWT.out, ByteArray.size_append, strCells_append, HNN.out, hts]; exact ⟨rfl, rfl⟩)
          go_roundw
          case rel =>
            refine ⟨k + 1, by omega, by go_num, by rw [HFS.out, HFk.out, HfT.out, HWT.out]; simp [Hid]; omega, by rw [HE.out.1, HE.out.2]; exact HO6, ?_⟩
            exact below_grown HBW.out HBW.out.size HG6.out (fun j hj => own_ge HOW.out hj)
          case measure => simp [intOf]; omega
    · have hki : ¬ (k : Int) < (ys.length : Int) := by omega
      have hke : k = ys.length := by omega
      have hcb := text_of_any HOw.out Tryz.underlying22 Tryz.underlying5 Tryz.underlying9
      have HE := hide (show full f sz ys.length = true ∧ b = gath f sz ys.length by rw [← hke]; exact ⟨HFk.out, Hb.out⟩)
      obtain ⟨pu, cu, rfl⟩ := row_slice HOw.out
      clear hgs
      go_wp2
      go_ret
      exact ⟨.inl ⟨HE.out.1, by rw [← HE.out.2]; rfl⟩, HB.out⟩
end Go.Proofs.YtkmehbgepkilkaaGreatDoor
