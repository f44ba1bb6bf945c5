/- What a store keeps, as a list of ids with their texts: its bytes, how they are read, and a list that rises. Plain mathematics. -/
import Derived.Test.YtnpbmaajgiapmaaGreatDoorXG2NNum
import Derived.Test.YtnpbmaajgiapmaaGreatDoorXG6KText
import Derived.Test.YtnpbmaajgiapmaaGreatDoorXG7FIdx
import Derived.WideShapes
import Derived.Shelf.SlIter.Nil
import Derived.Shelf.SortM.Plain
import Derived.Shelf.SortM.SortNone
import Derived.Ground.GgzProg
import Derived.Ground.SlgmProg
import Derived.Test.YtnpbmaajgiapmaaGreatDoorChecked
namespace Go.Proofs.YtnpbmaajgiapmaaGreatDoor
open Go.RowKit

abbrev Item := ByteArray × ByteArray
def txtB (t : ByteArray) : ByteArray := numText t.size ++ t
def catB : ByteArray → List Item → ByteArray
  | t, [] => t
  | t, x :: r => catB ((t ++ txtB x.1) ++ txtB x.2) r
def storeB (L : List Item) : ByteArray := catB (numText L.length) L
def ltB (a b : ByteArray) : Bool := bytesBefore a.data.toList b.data.toList
theorem ltB_trans {a b c : ByteArray} (h : ltB a b = true) (h' : ltB b c = true) : ltB a c = true := Go.WideShapes.bytes_trans _ _ _ h h'
theorem ltB_irrefl (a : ByteArray) : ltB a a = false := Go.WideAt.bytes_irrefl _
theorem toList_inj {a b : ByteArray} (h : a.data.toList = b.data.toList) : a = b := by
  apply ByteArray.ext
  exact Array.toList_inj.1 h
theorem ltB_total {a b : ByteArray} (h : a ≠ b) : ltB a b = true ∨ ltB b a = true := Go.WideAt.bytes_total _ _ (fun e => h (toList_inj e))
theorem ltB_ne {a b : ByteArray} (h : ltB a b = true) : a ≠ b := fun e => by rw [e, ltB_irrefl] at h; cases h
/-- One more, at its place. -/
def insL (x : Item) : List Item → List Item
  | [] => [x]
  | y :: r => if ltB x.1 y.1 then x :: y :: r else y :: insL x r
def sameId (i : ByteArray) (p : Item) : Bool := p.1.data.toList == i.data.toList
def delL (L : List Item) (i : ByteArray) : List Item := L.filter fun p => !sameId i p
def putL (L : List Item) (i t : ByteArray) : List Item := insL (i, t) (delL L i)
def Rises (L : List Item) : Prop := L.Pairwise fun p q => ltB p.1 q.1 = true
theorem sameId_iff {i : ByteArray} {p : Item} : sameId i p = true ↔ p.1 = i := by
  unfold sameId
  constructor
  · intro h; exact toList_inj (by simpa using h)
  · rintro rfl; simp
theorem insL_mem {x z : Item} : ∀ {L : List Item}, z ∈ insL x L ↔ z = x ∨ z ∈ L
  | [] => by simp [insL]
  | y :: r => by
    rw [insL]
    split
    · simp
    · rw [List.mem_cons, insL_mem]; simp; constructor <;> (intro h; rcases h with h | h | h <;> simp [h])
theorem insL_rises {x : Item} : ∀ {L : List Item}, Rises L → (∀ p ∈ L, p.1 ≠ x.1) → Rises (insL x L)
  | [], _, _ => by simp [insL, Rises]
  | y :: r, h, hne => by
    unfold Rises at h
    rw [List.pairwise_cons] at h
    rw [insL]
    split
    · rename_i hlt
      unfold Rises
      rw [List.pairwise_cons]
      refine ⟨fun p hp => ?_, List.pairwise_cons.2 h⟩
      rcases List.mem_cons.1 hp with rfl | hp
      · exact hlt
      · exact ltB_trans hlt (h.1 p hp)
    · rename_i hlt
      unfold Rises
      rw [List.pairwise_cons]
      refine ⟨fun p hp => ?_, insL_rises h.2 (fun p hp => hne p (List.mem_cons_of_mem _ hp))⟩
      rcases insL_mem.1 hp with rfl | hp
      · rcases ltB_total (hne y (List.mem_cons_self ..)) with h1 | h1
        · exact h1
        · exact absurd h1 hlt
      · exact h.1 p hp
theorem delL_rises {L : List Item} (h : Rises L) (i : ByteArray) : Rises (delL L i) := List.Pairwise.filter _ h
theorem putL_rises {L : List Item} (h : Rises L) (i t : ByteArray) : Rises (putL L i t) :=
  insL_rises (delL_rises h i) (fun p hp e => by
    have := (List.mem_filter.1 hp).2
    simp [sameId_iff.2 e] at this)
theorem putL_mem {L : List Item} {i t : ByteArray} {z : Item} (h : z ∈ putL L i t) : z = (i, t) ∨ z ∈ L := by
  rcases insL_mem.1 h with h | h
  · exact .inl h
  · exact .inr (List.mem_filter.1 h).1
/-- The last one, behind all. -/
theorem insL_last {x : Item} : ∀ {L : List Item}, (∀ p ∈ L, ltB p.1 x.1 = true) → insL x L = L ++ [x]
  | [], _ => rfl
  | y :: r, h => by
    rw [insL, if_neg, insL_last (fun p hp => h p (List.mem_cons_of_mem _ hp))]
    · rfl
    · intro h1
      have := ltB_trans h1 (h y (List.mem_cons_self ..))
      rw [ltB_irrefl] at this
      cases this
theorem putL_last {L : List Item} {i t : ByteArray} (h : ∀ p ∈ L, ltB p.1 i = true) : putL L i t = L ++ [(i, t)] := by
  have hd : delL L i = L := List.filter_eq_self.2 fun p hp => by
    have : ¬ sameId i p = true := fun e => ltB_ne (h p hp) (sameId_iff.1 e)
    simp [this]
  unfold putL
  rw [hd, insL_last h]
def putsL : List Item → List Item → List Item
  | M, [] => M
  | M, x :: r => putsL (putL M x.1 x.2) r
theorem putsL_snoc (x : Item) : ∀ (L M : List Item), putsL M (L ++ [x]) = putL (putsL M L) x.1 x.2
  | [], _ => rfl
  | _ :: r, M => by rw [List.cons_append, putsL, putsL, putsL_snoc x r]
theorem putsL_rises : ∀ (L M : List Item), Rises M → Rises (putsL M L)
  | [], _, h => h
  | x :: r, M, h => by rw [putsL]; exact putsL_rises r _ (putL_rises h _ _)
theorem putsL_mem : ∀ (L M : List Item) {z : Item}, z ∈ putsL M L → z ∈ M ∨ z ∈ L
  | [], _, _, h => .inl h
  | x :: r, M, z, h => by
    rw [putsL] at h
    rcases putsL_mem r _ h with h | h
    · rcases putL_mem h with rfl | h
      · exact .inr (List.mem_cons_self ..)
      · exact .inl h
    · exact .inr (List.mem_cons_of_mem _ h)
/-- What rises is put as it stands. -/
theorem putsL_same : ∀ (L M : List Item), Rises (M ++ L) → putsL M L = M ++ L
  | [], M, _ => by simp [putsL]
  | x :: r, M, h => by
    have hp : ∀ p ∈ M, ltB p.1 x.1 = true := fun p hp => (List.pairwise_append.1 h).2.2 p hp x (List.mem_cons_self ..)
    rw [putsL, putL_last hp, putsL_same r (M ++ [(x.1, x.2)]) (by simpa using h)]
    simp
theorem putL_len {L : List Item} (i t : ByteArray) : (putL L i t).length ≤ L.length + 1 := by
  have h1 : ∀ (x : Item) (L : List Item), (insL x L).length = L.length + 1 := by
    intro x L
    induction L with
    | nil => rfl
    | cons y r ih => rw [insL]; split <;> simp [ih]
  unfold putL
  rw [h1]
  have := List.length_filter_le (fun p => !sameId i p) L
  unfold delL
  omega
theorem putsL_len : ∀ (L M : List Item), (putsL M L).length ≤ M.length + L.length
  | [], M => by simp [putsL]
  | x :: r, M => by
    rw [putsL]
    have := putsL_len r (putL M x.1 x.2)
    have := putL_len (L := M) x.1 x.2
    simp only [List.length_cons]
    omega

/-- What is read, k items from a place on, behind what was read. -/
def readK (s : ByteArray) : Nat → Nat → List Item → Option (List Item)
  | 0, _, acc => some acc
  | k + 1, a, acc =>
    if (St4.textO s a).2.2 ≠ 0 then none
    else if (St4.textO s (St4.textO s a).2.1.toNat).2.2 ≠ 0 then none
    else if idB (St4.textO s a).1 = false then none
    else readK s k (St4.textO s (St4.textO s a).2.1.toNat).2.1.toNat (acc ++ [((St4.textO s a).1, (St4.textO s (St4.textO s a).2.1.toNat).1)])
/-- Is what was read last below a further id? -/
def belowB (acc : List Item) (i : ByteArray) : Bool := match acc.getLast? with
  | some x => ltB x.1 i
  | none => true
/-- The same, of ids that rise alone. -/
def readU (s : ByteArray) : Nat → Nat → List Item → Option (List Item)
  | 0, _, acc => some acc
  | k + 1, a, acc =>
    if (St4.textO s a).2.2 ≠ 0 then none
    else if (St4.textO s (St4.textO s a).2.1.toNat).2.2 ≠ 0 then none
    else if idB (St4.textO s a).1 = false then none
    else if belowB acc (St4.textO s a).1 = false then none
    else readU s k (St4.textO s (St4.textO s a).2.1.toNat).2.1.toNat (acc ++ [((St4.textO s a).1, (St4.textO s (St4.textO s a).2.1.toNat).1)])
/-- An item that a store may have. -/
def OkI (x : Item) : Prop := idB x.1 = true ∧ x.2.size ≤ 8000
theorem readK_ok (s : ByteArray) : ∀ (k a : Nat) (acc L : List Item), readK s k a acc = some L → (∀ x ∈ acc, OkI x) → (∀ x ∈ L, OkI x) ∧ L.length = acc.length + k
  | 0, _, acc, L, h, ha => by
    rw [readK] at h
    cases h
    exact ⟨ha, rfl⟩
  | k + 1, a, acc, L, h, ha => by
    rw [readK] at h
    split at h
    · cases h
    split at h
    · cases h
    split at h
    · cases h
    · rename_i h1 h2 h3
      obtain ⟨r1, r2⟩ := readK_ok s k _ _ L h (fun x hx => by
        rcases List.mem_append.1 hx with hx | hx
        · exact ha x hx
        · obtain rfl : x = _ := by simpa using hx
          exact ⟨by simpa using h3, (St4.textO_at s _ (by simpa using h2)).2.2⟩)
      refine ⟨r1, ?_⟩
      rw [r2]
      simp
      omega
theorem rises_snoc {acc : List Item} {x : Item} (h : Rises acc) (hb : belowB acc x.1 = true) : Rises (acc ++ [x]) := by
  unfold Rises
  rw [List.pairwise_append]
  refine ⟨h, by simp, fun p hp q hq => ?_⟩
  obtain rfl : q = x := by simpa using hq
  unfold belowB at hb
  rcases List.eq_nil_or_concat acc with rfl | ⟨r, y, rfl⟩
  · cases hp
  · simp at hb hp
    unfold Rises at h
    rw [List.concat_eq_append, List.pairwise_append] at h
    rcases hp with hp | rfl
    · exact ltB_trans (h.2.2 p hp y (by simp)) hb
    · exact hb
theorem below_of_rises {acc : List Item} {x : Item} {L : List Item} (h : Rises (acc ++ x :: L)) : belowB acc x.1 = true := by
  unfold belowB
  cases he : acc.getLast? with
  | none => rfl
  | some y => exact (List.pairwise_append.1 h).2.2 y (List.mem_of_getLast? he) x (List.mem_cons_self ..)
theorem readU_rises (s : ByteArray) : ∀ (k a : Nat) (acc L : List Item), readU s k a acc = some L → Rises acc → Rises L ∧ readK s k a acc = some L
  | 0, _, acc, L, h, ha => by
    rw [readU] at h
    cases h
    exact ⟨ha, rfl⟩
  | k + 1, a, acc, L, h, ha => by
    rw [readU] at h
    rw [readK]
    split at h
    · cases h
    rename_i h1
    rw [if_neg h1]
    split at h
    · cases h
    rename_i h2
    rw [if_neg h2]
    split at h
    · cases h
    rename_i h3
    rw [if_neg h3]
    split at h
    · cases h
    rename_i h4
    exact readU_rises s k _ _ L h (rises_snoc ha (by simpa using h4))
theorem readK_pre (s : ByteArray) : ∀ (k a : Nat) (acc L : List Item), readK s k a acc = some L → ∃ r, L = acc ++ r
  | 0, _, acc, L, h => by
    rw [readK] at h
    cases h
    exact ⟨[], by simp⟩
  | k + 1, a, acc, L, h => by
    rw [readK] at h
    split at h
    · cases h
    split at h
    · cases h
    split at h
    · cases h
    obtain ⟨r, rfl⟩ := readK_pre s k _ _ L h
    exact ⟨_, List.append_assoc ..⟩
theorem readU_of (s : ByteArray) : ∀ (k a : Nat) (acc L : List Item), readK s k a acc = some L → Rises L → readU s k a acc = some L
  | 0, _, acc, L, h, _ => by
    rw [readK] at h
    rw [readU]
    exact h
  | k + 1, a, acc, L, h, hr => by
    have h0 := h
    rw [readK] at h
    rw [readU]
    split at h
    · cases h
    rename_i h1
    rw [if_neg h1]
    split at h
    · cases h
    rename_i h2
    rw [if_neg h2]
    split at h
    · cases h
    rename_i h3
    rw [if_neg h3]
    obtain ⟨r, hr'⟩ := readK_pre s k _ _ L h
    rw [if_neg, readU_of s k _ _ L h hr]
    rw [hr', List.append_assoc] at hr
    have := below_of_rises hr
    simp only at this
    rw [this]
    simp
end Go.Proofs.YtnpbmaajgiapmaaGreatDoor
/- A store's bytes are read as what they were made of; so what is read and written again is the same just if it rises. Plain mathematics. -/
namespace Go.Proofs.YtnpbmaajgiapmaaGreatDoor
open Go.RowKit

def flatL : List Item → List UInt8
  | [] => []
  | x :: r => (txtB x.1).data.toList ++ ((txtB x.2).data.toList ++ flatL r)
theorem catB_list : ∀ (L : List Item) (t : ByteArray), (catB t L).data.toList = t.data.toList ++ flatL L
  | [], t => by simp [catB, flatL]
  | x :: r, t => by rw [catB, catB_list r, flatL]; simp
theorem txtB_list (t : ByteArray) : (txtB t).data.toList = (St2.bytesOf (St2.enc (t.size : Int))).data.toList ++ t.data.toList := by
  unfold txtB numText; simp
theorem textO_in (s : ByteArray) (A Z : List UInt8) (t : ByteArray) (hs : s.data.toList = A ++ ((txtB t).data.toList ++ Z)) (ht : t.size ≤ 8000) :
    St4.textO s A.length = (t, ((A ++ (txtB t).data.toList).length : Int), 0) := by
  have hbl : (St2.bytesOf (St2.enc (t.size : Int))).data.toList.length = (St2.enc (t.size : Int)).length := by simp [St2.bytesOf]
  have e : s = ⟨(A ++ (St2.bytesOf (St2.enc (t.size : Int))).data.toList ++ (t.data.toList ++ Z)).toArray⟩ := by
    apply toList_inj
    rw [hs, txtB_list]
    simp
  have hsc := St4.scan_in A (t.data.toList ++ Z) (t.size : Int) (by omega) (by omega)
  rw [← e] at hsc
  have hsz : s.size = A.length + (St2.enc (t.size : Int)).length + (t.size + Z.length) := by
    have : s.size = s.data.toList.length := by simp
    rw [this, hs, txtB_list]
    simp [hbl]
    omega
  have e2 : St3.scan s A.length 10 0 0 = ((t.size : Int), ((A.length + (St2.enc (t.size : Int)).length : Nat) : Int), 0) := by
    rw [hsc]; simp
  rw [St4.textO_ok e2 ht (by omega)]
  have h3 : s.extract (A.length + (St2.enc (t.size : Int)).length) (A.length + (St2.enc (t.size : Int)).length + t.size) = t := by
    apply toList_inj
    have : (s.extract (A.length + (St2.enc (t.size : Int)).length) (A.length + (St2.enc (t.size : Int)).length + t.size)).data.toList = (s.data.toList.drop (A.length + (St2.enc (t.size : Int)).length)).take t.size := by
      simp [ByteArray.data_extract, Array.toList_extract, List.extract]
    rw [this, hs, txtB_list]
    rw [show A ++ ((St2.bytesOf (St2.enc (t.size : Int))).data.toList ++ t.data.toList ++ Z) = (A ++ (St2.bytesOf (St2.enc (t.size : Int))).data.toList) ++ (t.data.toList ++ Z) by simp]
    rw [List.drop_left' (by simp [hbl]), List.take_left' (by simp)]
  rw [h3]
  rw [List.length_append, txtB_list, List.length_append, hbl]
  simp
  omega
theorem readK_in (s : ByteArray) : ∀ (L : List Item) (A : List UInt8) (acc : List Item), s.data.toList = A ++ flatL L → (∀ x ∈ L, OkI x) → readK s L.length A.length acc = some (acc ++ L)
  | [], A, acc, _, _ => by simp [readK]
  | x :: r, A, acc, hs, ho => by
    obtain ⟨o1, o2⟩ := ho x (List.mem_cons_self ..)
    have hi : x.1.size ≤ 8000 := by
      rcases Nat.lt_or_ge 20 x.1.size with h | h
      · rw [idB_long _ h] at o1; cases o1
      · omega
    rw [flatL] at hs
    have h1 := textO_in s A ((txtB x.2).data.toList ++ flatL r) x.1 hs hi
    have hs2 : s.data.toList = (A ++ (txtB x.1).data.toList) ++ ((txtB x.2).data.toList ++ flatL r) := by rw [hs]; simp
    have h2 := textO_in s (A ++ (txtB x.1).data.toList) (flatL r) x.2 hs2 o2
    have hs3 : s.data.toList = ((A ++ (txtB x.1).data.toList) ++ (txtB x.2).data.toList) ++ flatL r := by rw [hs2]; simp
    have h3 := readK_in s r _ (acc ++ [x]) hs3 (fun y hy => ho y (List.mem_cons_of_mem _ hy))
    rw [List.length_cons, readK, h1]
    simp only [Int.toNat_natCast]
    rw [h2]
    simp only [Int.toNat_natCast]
    rw [if_neg (by simp), if_neg (by simp), if_neg (by rw [o1]; simp)]
    rw [show ((x.1, x.2) : Item) = x from rfl, h3]
    simp
/-- What a store's bytes begin with, and what they hold. -/
theorem store_head (M : List Item) : St3.scan (storeB M) 0 10 0 0 = ((M.length : Int), ((numText M.length).size : Int), 0) ∨ 9223372036854775807 < M.length := by
  by_cases h : 9223372036854775807 < M.length
  · exact .inr h
  refine .inl ?_
  have e : storeB M = ⟨(([] : List UInt8) ++ (St2.bytesOf (St2.enc (M.length : Int))).data.toList ++ flatL M).toArray⟩ := by
    apply toList_inj
    unfold storeB
    rw [catB_list]
    simp [numText]
  have hsc := St4.scan_in [] (flatL M) (M.length : Int) (by omega) (by omega)
  rw [← e] at hsc
  rw [show ([] : List UInt8).length = 0 from rfl] at hsc
  rw [hsc]
  simp [numText, St4.bytesOf_size]
theorem store_read (M : List Item) (ho : ∀ x ∈ M, OkI x) : readK (storeB M) M.length (numText M.length).size [] = some M := by
  have h := readK_in (storeB M) M (numText M.length).data.toList [] (by unfold storeB; rw [catB_list]) ho
  rw [show (numText M.length).data.toList.length = (numText M.length).size by simp] at h
  simpa using h
/-- What a text keeps: the ids with their texts. -/
def keptI (s : ByteArray) : Option (List Item) :=
  if (St3.scan s 0 10 0 0).2.2 ≠ 0 ∨ 12 < (St3.scan s 0 10 0 0).1 then none
  else match readK s (St3.scan s 0 10 0 0).1.toNat (St3.scan s 0 10 0 0).2.1.toNat [] with
    | none => none
    | some L => if storeB (putsL [] L) = s then some (putsL [] L) else none
def keptS (s : ByteArray) : Option (List Item) :=
  if (St3.scan s 0 10 0 0).2.2 ≠ 0 ∨ ¬ (0 ≤ (St3.scan s 0 10 0 0).1 ∧ (St3.scan s 0 10 0 0).1 ≤ 12) then none
  else match readU s (St3.scan s 0 10 0 0).1.toNat (St3.scan s 0 10 0 0).2.1.toNat [] with
    | none => none
    | some L => if storeB L = s then some L else none
theorem rises_nil : Rises [] := List.Pairwise.nil
/-- The program's way of reading a store and the model's tell the same. -/
theorem kept_same (s : ByteArray) : keptI s = keptS s := by
  unfold keptI keptS
  by_cases hc : (St3.scan s 0 10 0 0).2.2 ≠ 0
  · rw [if_pos (.inl hc), if_pos (.inl hc)]
  by_cases hm : 12 < (St3.scan s 0 10 0 0).1
  · rw [if_pos (.inr hm), if_pos (.inr (by omega))]
  rw [if_neg (by rintro (h | h); exact hc h; exact hm h)]
  by_cases hn : (St3.scan s 0 10 0 0).1 < 0
  · rw [if_pos (.inr (by omega)), show (St3.scan s 0 10 0 0).1.toNat = 0 by omega, readK]
    show (if storeB (putsL [] []) = s then some (putsL [] []) else none) = none
    rw [if_neg]
    intro e'
    have e : storeB [] = s := e'
    rcases store_head [] with h | h
    · rw [e] at h
      rw [h] at hn
      exact absurd hn (by simp)
    · simp at h
  rw [if_neg (by rintro (h | h); exact hc h; omega)]
  cases hr : readK s (St3.scan s 0 10 0 0).1.toNat (St3.scan s 0 10 0 0).2.1.toNat [] with
  | none =>
    cases hu : readU s (St3.scan s 0 10 0 0).1.toNat (St3.scan s 0 10 0 0).2.1.toNat [] with
    | none => rfl
    | some L =>
      have := (readU_rises s _ _ _ L hu rises_nil).2
      rw [hr] at this
      cases this
  | some L =>
    simp only
    cases hu : readU s (St3.scan s 0 10 0 0).1.toNat (St3.scan s 0 10 0 0).2.1.toNat [] with
    | some L' =>
      obtain ⟨h1, h2⟩ := readU_rises s _ _ _ L' hu rises_nil
      rw [hr] at h2
      cases h2
      have h3 : putsL [] L = L := putsL_same L [] h1
      rw [h3]
    | none =>
      simp only
      rw [if_neg]
      intro e
      obtain ⟨ok, hlen⟩ := readK_ok s _ _ _ L hr (by simp)
      have okM : ∀ x ∈ putsL [] L, OkI x := fun x hx => by
        rcases putsL_mem L [] hx with h | h
        · cases h
        · exact ok x h
      have hlM := putsL_len L []
      simp only [List.length_nil] at hlM hlen
      rcases store_head (putsL [] L) with h | h
      · rw [e] at h
        have h2 := store_read (putsL [] L) okM
        rw [e] at h2
        have hr0 := hr
        rw [h] at hr
        simp only [Int.toNat_natCast] at hr
        rw [hr] at h2
        have h3 : L = putsL [] L := Option.some.inj h2
        have h4 : Rises L := by rw [h3]; exact putsL_rises L [] rises_nil
        have := readU_of s _ _ _ L hr0 h4
        rw [hu] at this
        cases this
      · omega
theorem keptS_ok {s : ByteArray} {L : List Item} (h : keptS s = some L) : Rises L ∧ (∀ x ∈ L, OkI x) ∧ L.length ≤ 12 ∧ storeB L = s := by
  unfold keptS at h
  split at h
  · cases h
  rename_i h1
  cases hu : readU s (St3.scan s 0 10 0 0).1.toNat (St3.scan s 0 10 0 0).2.1.toNat [] with
  | none => rw [hu] at h; cases h
  | some L' =>
    rw [hu] at h
    simp only at h
    split at h
    · rename_i h2
      cases h
      obtain ⟨r1, r2⟩ := readU_rises s _ _ _ L hu rises_nil
      obtain ⟨r3, r4⟩ := readK_ok s _ _ _ L r2 (by simp)
      refine ⟨r1, r3, ?_, h2⟩
      rw [r4]
      simp only [List.length_nil]
      omega
    · cases h
end Go.Proofs.YtnpbmaajgiapmaaGreatDoor
/- What the library says of slices.Sorted(maps.Keys(m)) at this program, each body held against the one that the contract was proved of; and idsOf. -/
namespace Go.Proofs.YtnpbmaajgiapmaaGreatDoor
open Go.RowKit Go.Maps Go.Sort Go.Shelf
def Tryz.keys135_ren : Go.Shelf.Ren := ⟨fun | 7 => 135 | 10 => 153 | n => n, fun | 23 => 54 | 26 => 9 | 3 => 79 | 28 => 165 | 0 => 0 | 27 => 164 | 33 => 91 | 4 => 4 | n => n, fun | n => n⟩
theorem Tryz.keys135 : Go.Proofs.SlLaysZ.n7 Tryz.prog Tryz.keys135_ren := {
  mixed := by kernel_rfl
  f7 := ⟨Tryz.f135.name, by decide, Tryz.func135.trans (congrArg some (by kernel_rfl))⟩
  f10 := ⟨Tryz.f153.name, by decide, Tryz.func153.trans (congrArg some (by kernel_rfl))⟩
  t0 := Tryz.underlying0
  a0 := Tryz.isAgg0
  z0 := Tryz.sizeOf0
  v0 := Tryz.zeroValue0
  t4 := Tryz.underlying4
  a4 := Tryz.isAgg4
  z4 := Tryz.sizeOf4
  v4 := Tryz.zeroValue4
  t23 := Tryz.underlying54
  a23 := Tryz.isAgg54
  z23 := Tryz.sizeOf54
  v23 := Tryz.zeroValue54
  t26 := Tryz.underlying9
  a26 := Tryz.isAgg9
  z26 := Tryz.sizeOf9
  v26 := Tryz.zeroValue9
  t27 := Tryz.underlying164
  a27 := Tryz.isAgg164
  z27 := Tryz.sizeOf164
  v27 := Tryz.zeroValue164
  t28 := Tryz.underlying165
  a28 := Tryz.isAgg165
  z28 := Tryz.sizeOf165
  v28 := Tryz.zeroValue165
  t33 := Tryz.underlying91
  a33 := Tryz.isAgg91
  z33 := Tryz.sizeOf91
  v33 := Tryz.zeroValue91 }
def Tryz.sorted134_ren : Go.Shelf.Ren := ⟨fun | 6 => 134 | 8 => 151 | 9 => 152 | 11 => 160 | 13 => 162 | 12 => 161 | 23 => 174 | 24 => 175 | 14 => 165 | 15 => 166 | 16 => 167 | 17 => 168 | 18 => 169 | 19 => 170 | 20 => 171 | 21 => 172 | 22 => 173 | 25 => 178 | 26 => 179 | 27 => 180 | 28 => 181 | 29 => 182 | 30 => 183 | 31 => 184 | n => n, fun | 26 => 9 | 28 => 165 | 24 => 22 | 0 => 0 | 3 => 3 | 37 => 129 | 48 => 189 | 50 => 128 | 4 => 4 | 40 => 225 | 39 => 224 | 45 => 230 | 5 => 5 | 9 => 9 | 51 => 236 | 55 => 240 | 57 => 242 | 58 => 243 | 33 => 91 | n => n, fun | n => n⟩
theorem Tryz.sorted134 : Go.Proofs.SlLaysZ.n6 Tryz.prog Tryz.sorted134_ren := {
  mixed := by kernel_rfl
  f6 := ⟨Tryz.f134.name, by decide, Tryz.func134.trans (congrArg some (by kernel_rfl))⟩
  f8 := ⟨Tryz.f151.name, by decide, Tryz.func151.trans (congrArg some (by kernel_rfl))⟩
  f11 := ⟨Tryz.f160.name, by decide, Tryz.func160.trans (congrArg some (by kernel_rfl))⟩
  t0 := Tryz.underlying0
  a0 := Tryz.isAgg0
  z0 := Tryz.sizeOf0
  v0 := Tryz.zeroValue0
  t24 := Tryz.underlying22
  a24 := Tryz.isAgg22
  z24 := Tryz.sizeOf22
  v24 := Tryz.zeroValue22
  t26 := Tryz.underlying9
  a26 := Tryz.isAgg9
  z26 := Tryz.sizeOf9
  v26 := Tryz.zeroValue9
  t28 := Tryz.underlying165
  a28 := Tryz.isAgg165
  z28 := Tryz.sizeOf165
  v28 := Tryz.zeroValue165
  i26 := by kernel_rfl }
def Tryz.sort152_ren : Go.Shelf.Ren := ⟨fun | 6 => 152 | 8 => 162 | 9 => 161 | 19 => 174 | 20 => 175 | 21 => 165 | 22 => 166 | 23 => 167 | 24 => 168 | 25 => 169 | 26 => 170 | 27 => 171 | 28 => 172 | 29 => 173 | 36 => 178 | 31 => 179 | 32 => 180 | 37 => 181 | 38 => 182 | 39 => 183 | 41 => 184 | n => n, fun | 27 => 22 | 29 => 9 | 3 => 3 | 32 => 129 | 26 => 22 | 0 => 0 | 44 => 189 | 46 => 128 | 4 => 4 | 36 => 225 | 35 => 224 | 41 => 230 | 5 => 5 | 9 => 9 | 53 => 236 | 57 => 240 | 63 => 242 | 64 => 243 | n => n, fun | n => n⟩
theorem Tryz.sort152 : Go.Proofs.SlLaysM.n6 Tryz.prog Tryz.sort152_ren := {
  mixed := by kernel_rfl
  f6 := ⟨Tryz.f152.name, by decide, Tryz.func152.trans (congrArg some (by kernel_rfl))⟩
  f8 := Tryz.func162.trans (congrArg some (by kernel_rfl))
  f9 := ⟨Tryz.f161.name, by decide, Tryz.func161.trans (congrArg some (by kernel_rfl))⟩
  f19 := Tryz.func174.trans (congrArg some (by kernel_rfl))
  f20 := Tryz.func175.trans (congrArg some (by kernel_rfl))
  f21 := ⟨Tryz.f165.name, by decide, Tryz.func165.trans (congrArg some (by kernel_rfl))⟩
  f22 := ⟨Tryz.f166.name, by decide, Tryz.func166.trans (congrArg some (by kernel_rfl))⟩
  f23 := ⟨Tryz.f167.name, by decide, Tryz.func167.trans (congrArg some (by kernel_rfl))⟩
  f24 := ⟨Tryz.f168.name, by decide, Tryz.func168.trans (congrArg some (by kernel_rfl))⟩
  f25 := ⟨Tryz.f169.name, by decide, Tryz.func169.trans (congrArg some (by kernel_rfl))⟩
  f26 := ⟨Tryz.f170.name, by decide, Tryz.func170.trans (congrArg some (by kernel_rfl))⟩
  f27 := ⟨Tryz.f171.name, by decide, Tryz.func171.trans (congrArg some (by kernel_rfl))⟩
  f28 := ⟨Tryz.f172.name, by decide, Tryz.func172.trans (congrArg some (by kernel_rfl))⟩
  f29 := ⟨Tryz.f173.name, by decide, Tryz.func173.trans (congrArg some (by kernel_rfl))⟩
  f31 := Tryz.func179.trans (congrArg some (by kernel_rfl))
  f32 := Tryz.func180.trans (congrArg some (by kernel_rfl))
  f36 := ⟨Tryz.f178.name, by decide, Tryz.func178.trans (congrArg some (by kernel_rfl))⟩
  f37 := ⟨Tryz.f181.name, by decide, Tryz.func181.trans (congrArg some (by kernel_rfl))⟩
  f38 := ⟨Tryz.f182.name, by decide, Tryz.func182.trans (congrArg some (by kernel_rfl))⟩
  f39 := ⟨Tryz.f183.name, by decide, Tryz.func183.trans (congrArg some (by kernel_rfl))⟩
  f41 := ⟨Tryz.f184.name, by decide, Tryz.func184.trans (congrArg some (by kernel_rfl))⟩
  t0 := Tryz.underlying0
  a0 := Tryz.isAgg0
  z0 := Tryz.sizeOf0
  v0 := Tryz.zeroValue0
  t3 := Tryz.underlying3
  a3 := Tryz.isAgg3
  z3 := Tryz.sizeOf3
  v3 := Tryz.zeroValue3
  t4 := Tryz.underlying4
  a4 := Tryz.isAgg4
  z4 := Tryz.sizeOf4
  v4 := Tryz.zeroValue4
  t5 := Tryz.underlying5
  a5 := Tryz.isAgg5
  z5 := Tryz.sizeOf5
  v5 := Tryz.zeroValue5
  t9 := Tryz.underlying9
  a9 := Tryz.isAgg9
  z9 := Tryz.sizeOf9
  v9 := Tryz.zeroValue9
  t26 := Tryz.underlying22
  a26 := Tryz.isAgg22
  z26 := Tryz.sizeOf22
  v26 := Tryz.zeroValue22
  t27 := Tryz.underlying22
  a27 := Tryz.isAgg22
  z27 := Tryz.sizeOf22
  v27 := Tryz.zeroValue22
  t29 := Tryz.underlying9
  a29 := Tryz.isAgg9
  z29 := Tryz.sizeOf9
  v29 := Tryz.zeroValue9
  t32 := Tryz.underlying129
  a32 := Tryz.isAgg129
  z32 := Tryz.sizeOf129
  v32 := Tryz.zeroValue129
  t35 := Tryz.underlying224
  a35 := Tryz.isAgg224
  z35 := Tryz.sizeOf224
  v35 := Tryz.zeroValue224
  t36 := Tryz.underlying225
  a36 := Tryz.isAgg225
  z36 := Tryz.sizeOf225
  v36 := Tryz.zeroValue225
  t41 := Tryz.underlying230
  a41 := Tryz.isAgg230
  z41 := Tryz.sizeOf230
  v41 := Tryz.zeroValue230
  t44 := Tryz.underlying189
  a44 := Tryz.isAgg189
  z44 := Tryz.sizeOf189
  v44 := Tryz.zeroValue189
  t46 := Tryz.underlying128
  a46 := Tryz.isAgg128
  z46 := Tryz.sizeOf128
  v46 := Tryz.zeroValue128
  t53 := Tryz.underlying236
  a53 := Tryz.isAgg236
  z53 := Tryz.sizeOf236
  v53 := Tryz.zeroValue236
  t57 := Tryz.underlying240
  a57 := Tryz.isAgg240
  z57 := Tryz.sizeOf240
  v57 := Tryz.zeroValue240
  t63 := Tryz.underlying242
  a63 := Tryz.isAgg242
  z63 := Tryz.sizeOf242
  v63 := Tryz.zeroValue242
  t64 := Tryz.underlying243
  a64 := Tryz.isAgg243
  z64 := Tryz.sizeOf243
  v64 := Tryz.zeroValue243 }

theorem Tryz.sorts134 (m : Nat) : AnyZ.SortsIn Tryz.prog Tryz.sorted134_ren Fence.wide m :=
  ⟨fun blk off cap ss W hH hblk hsz => callsIn_wide.2 (AnyM.slices_Sort_string Tryz.sort152 blk off cap ss W hH hblk hsz),
   fun p cap W => callsIn_wide.2 (AnyM.slices_Sort_string_none Tryz.sort152 p cap W)⟩

theorem Tryz.maps_Keys_135 (mb : Option Nat) (W : World) : CallsIn Fence.wide 5 Tryz.prog 135 #[.map mb] W fun e w' => e = .returned (.func (.func 153) #[] #[.pointer (some ⟨W.heap.size, 0, none⟩)]) ∧ w' = W.alloc (.cells #[.map mb] 54) :=
  AnyZ.keys_in Tryz.keys135 Fence.wide 5 trivial rfl mb W

set_option maxHeartbeats 1000000 in
theorem Tryz.slices_Sorted_keys_134_135 {H : Type} (b nn : Nat) (D0 : DataW H) (R : Value → Option (DataW H × List MemPlace)) (w : World) (hown : w.ownsMap Tryz.prog 9 R b nn D0) (hmax : Maps.size D0 ≤ maxLen) (hbytes : Maps.size D0 * 16 ≤ 140737488355328) :
    CallsIn Fence.wide 5 Tryz.prog 134 #[.func (.func 153) #[] #[.pointer (some ⟨w.heap.size, 0, none⟩)]] (w.alloc (.cells #[.map (some b)] 54)) fun e w' => ∃ (v : Value) (ss : List (List UInt8)), e = .returned v ∧ ss.Perm (strKeys D0) ∧
      w'.ownsRow (w.alloc (.cells #[.map (some b)] 54)).heap.size 9 1 v ss.length ((ss.mergeSort (fun x y => decide (x ≤ y))).map encStr) ∧ (v = .slice none 0 0 ↔ ss = []) ∧ Below (w.alloc (.cells #[.map (some b)] 54)).heap.size (w.alloc (.cells #[.map (some b)] 54)) w' := by
  have hbl := hown.lt
  have hseq : SeqGives Fence.wide 2 Tryz.prog 153 #[.pointer (some ⟨w.heap.size, 0, none⟩)] encStr (fun ss => ss.Perm (strKeys D0)) (Maps.size D0) (w.alloc (.cells #[.map (some b)] 54)) :=
    AnyZ.keys_gives (ρ := Tryz.keys135_ren) { Tryz.keys135 with } Fence.wide _ trivial rfl (by omega) w.heap.size b nn D0 _ (by simp) (by simp) (by
      obtain ⟨es, clock, hb, Ft, hs, hD⟩ := hown
      exact ⟨es, clock, (Below.heap_alloc _ _ b hbl).trans hb, Ft, hs, hD⟩)
  exact AnyZ.sorted_in Tryz.sorted134 Fence.wide 5 trivial trivial trivial trivial rfl (by omega) (Tryz.sorts134 _) (enters_of Tryz.func152 (by kernel_rfl) rfl) 153 #[.pointer (some ⟨w.heap.size, 0, none⟩)] trivial (enters_of Tryz.func153 (by kernel_rfl) rfl) _ _ hmax hbytes _ hseq

set_option maxHeartbeats 1000000 in
theorem Tryz.slices_Sorted_keys_nil_134_135 (w : World) :
    CallsIn Fence.wide 5 Tryz.prog 134 #[.func (.func 153) #[] #[.pointer (some ⟨w.heap.size, 0, none⟩)]] (w.alloc (.cells #[.map none] 54)) fun e w' => ∃ (v : Value) (ss : List (List UInt8)), e = .returned v ∧ ss = [] ∧
      w'.ownsRow (w.alloc (.cells #[.map none] 54)).heap.size 9 1 v ss.length ((ss.mergeSort (fun x y => decide (x ≤ y))).map encStr) ∧ (v = .slice none 0 0 ↔ ss = []) ∧ Below (w.alloc (.cells #[.map none] 54)).heap.size (w.alloc (.cells #[.map none] 54)) w' := by
  have hseq : SeqGives Fence.wide 2 Tryz.prog 153 #[.pointer (some ⟨w.heap.size, 0, none⟩)] encStr (fun ss : List (List UInt8) => ss = []) 0 (w.alloc (.cells #[.map none] 54)) :=
    AnyZ.keys_gives_nil (ρ := Tryz.keys135_ren) { Tryz.keys135 with } Fence.wide _ trivial rfl w.heap.size _ (by simp) (by simp)
  exact AnyZ.sorted_in Tryz.sorted134 Fence.wide 5 trivial trivial trivial trivial rfl (by omega) (Tryz.sorts134 _) (enters_of Tryz.func152 (by kernel_rfl) rfl) 153 #[.pointer (some ⟨w.heap.size, 0, none⟩)] trivial (enters_of Tryz.func153 (by kernel_rfl) rfl) _ 0 (Nat.zero_le _) (by omega) _ hseq


set_option maxHeartbeats 1000000 in
/-- idsOf at a map that is not nil: a new slice that holds its keys, sorted. -/
theorem idsOf_own {H : Type} (b nn : Nat) (D0 : DataW H) (R : Value → Option (DataW H × List MemPlace)) (w : World) (hown : w.ownsMap Tryz.prog 9 R b nn D0) (hmax : Maps.size D0 ≤ maxLen) (hbytes : Maps.size D0 * 16 ≤ 140737488355328) :
    Calls Tryz.prog 108 #[.map (some b)] w fun e w' => ∃ (v : Value) (ss : List (List UInt8)), e = .returned v ∧ ss.Perm (strKeys D0) ∧
      w'.ownsRow w.heap.size 9 1 v ss.length ((ss.mergeSort (fun x y => decide (x ≤ y))).map encStr) ∧ (v = .slice none 0 0 ↔ ss = []) ∧ Below w.heap.size w w' := by
  refine (callsIn_wide (n := 6)).1 ?_
  have hfK : Fence.wide.fn 135 := trivial
  have hfS : Fence.wide.fn 134 := trivial
  refine callsIn_of_wp Tryz.func108 rfl trivial ?_ rfl
  simp only [Tryz.ntmps108, List.size_toArray, List.length_cons, List.length_nil, Nat.reduceAdd, Nat.reduceSub, Array.replicate_succ, Array.replicate_zero, List.push_toArray, List.append_toArray, List.nil_append, List.cons_append]
  gi_wp2_with (first
    | (gi_at_call 135; refine (Tryz.maps_Keys_135 _ _).mono ?_; rintro e w' ⟨rfl, rfl⟩)
    | (gi_at_call 134; refine (Tryz.slices_Sorted_keys_134_135 b nn D0 R w hown hmax hbytes).mono ?_; rintro e w' ⟨v, ss, rfl, hS, hrow, hnil, hb⟩))
  go_ret
  exact ⟨v, ss, rfl, hS, ownsRow_base_a hrow (by simp), hnil, ((Below.refl _ w).alloc (Nat.le_refl _) _).trans (hb.mono (by simp))⟩
set_option maxHeartbeats 1000000 in
/-- idsOf at the nil map: nil. -/
theorem idsOf_nil (w : World) : Calls Tryz.prog 108 #[.map none] w fun e w' => e = .returned (.slice none 0 0) ∧ Below w.heap.size w w' := by
  refine (callsIn_wide (n := 6)).1 ?_
  have hfK : Fence.wide.fn 135 := trivial
  have hfS : Fence.wide.fn 134 := trivial
  refine callsIn_of_wp Tryz.func108 rfl trivial ?_ rfl
  simp only [Tryz.ntmps108, List.size_toArray, List.length_cons, List.length_nil, Nat.reduceAdd, Nat.reduceSub, Array.replicate_succ, Array.replicate_zero, List.push_toArray, List.append_toArray, List.nil_append, List.cons_append]
  gi_wp2_with (first
    | (gi_at_call 135; refine (Tryz.maps_Keys_135 _ _).mono ?_; rintro e w' ⟨rfl, rfl⟩)
    | (gi_at_call 134; refine (Tryz.slices_Sorted_keys_nil_134_135 w).mono ?_; rintro e w' ⟨v, ss, rfl, hS, hrow, hnil, hb⟩))
  go_ret
  exact ⟨by rw [hnil.2 hS]; rfl, ((Below.refl _ w).alloc (Nat.le_refl _) _).trans (hb.mono (by simp))⟩
end Go.Proofs.YtnpbmaajgiapmaaGreatDoor
