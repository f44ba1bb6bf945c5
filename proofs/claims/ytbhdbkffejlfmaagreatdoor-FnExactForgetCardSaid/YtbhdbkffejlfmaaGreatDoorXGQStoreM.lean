/- What a store keeps, as a list of ids with their texts: its bytes, how they are read, and a list that rises. Plain mathematics. -/
import Derived.Test.YtbhdbkffejlfmaaGreatDoorXGSArea
import Derived.Test.YtbhdbkffejlfmaaGreatDoorXGNText
import Derived.Test.YtbhdbkffejlfmaaGreatDoorXGNOwn
import Derived.Test.YtbhdbkffejlfmaaGreatDoorXGFIdx
import Derived.WideShapes
namespace Go.Proofs.YtbhdbkffejlfmaaGreatDoor
open Go.RowKit

abbrev Item := ByteArray × ByteArray
def txtB (t : ByteArray) : ByteArray := numText t.size ++ t
def catB : ByteArray → List Item → ByteArray
  | t, [] => t
  | t, x :: r => catB ((t ++ txtB x.1) ++ txtB x.2) r
def storeB (L : List Item) : ByteArray := catB (numText L.length) L
def ltB (a b : ByteArray) : Bool := bytesBefore a.data.toList b.data.toList
theorem ltB_trans {a b c : ByteArray} (h : ltB a b = true) (h' : ltB b c = true) : ltB a c = true := Go.WideShapes.bytes_trans _ _ _ h h'
theorem ltB_irrefl (a : ByteArray) : ltB a a = false := Go.WideAt.bytes_irrefl _
theorem toList_inj {a b : ByteArray} (h : a.data.toList = b.data.toList) : a = b := by
  apply ByteArray.ext
  exact Array.toList_inj.1 h
theorem ltB_total {a b : ByteArray} (h : a ≠ b) : ltB a b = true ∨ ltB b a = true := Go.WideAt.bytes_total _ _ (fun e => h (toList_inj e))
theorem ltB_ne {a b : ByteArray} (h : ltB a b = true) : a ≠ b := fun e => by rw [e, ltB_irrefl] at h; cases h
/-- One more, at its place. -/
def insL (x : Item) : List Item → List Item
  | [] => [x]
  | y :: r => if ltB x.1 y.1 then x :: y :: r else y :: insL x r
def sameId (i : ByteArray) (p : Item) : Bool := p.1.data.toList == i.data.toList
def delL (L : List Item) (i : ByteArray) : List Item := L.filter fun p => !sameId i p
def putL (L : List Item) (i t : ByteArray) : List Item := insL (i, t) (delL L i)
def Rises (L : List Item) : Prop := L.Pairwise fun p q => ltB p.1 q.1 = true
theorem sameId_iff {i : ByteArray} {p : Item} : sameId i p = true ↔ p.1 = i := by
  unfold sameId
  constructor
  · intro h; exact toList_inj (by simpa using h)
  · rintro rfl; simp
theorem insL_mem {x z : Item} : ∀ {L : List Item}, z ∈ insL x L ↔ z = x ∨ z ∈ L
  | [] => by simp [insL]
  | y :: r => by
    rw [insL]
    split
    · simp
    · rw [List.mem_cons, insL_mem]; simp; constructor <;> (intro h; rcases h with h | h | h <;> simp [h])
theorem insL_rises {x : Item} : ∀ {L : List Item}, Rises L → (∀ p ∈ L, p.1 ≠ x.1) → Rises (insL x L)
  | [], _, _ => by simp [insL, Rises]
  | y :: r, h, hne => by
    unfold Rises at h
    rw [List.pairwise_cons] at h
    rw [insL]
    split
    · rename_i hlt
      unfold Rises
      rw [List.pairwise_cons]
      refine ⟨fun p hp => ?_, List.pairwise_cons.2 h⟩
      rcases List.mem_cons.1 hp with rfl | hp
      · exact hlt
      · exact ltB_trans hlt (h.1 p hp)
    · rename_i hlt
      unfold Rises
      rw [List.pairwise_cons]
      refine ⟨fun p hp => ?_, insL_rises h.2 (fun p hp => hne p (List.mem_cons_of_mem _ hp))⟩
      rcases insL_mem.1 hp with rfl | hp
      · rcases ltB_total (hne y (List.mem_cons_self ..)) with h1 | h1
        · exact h1
        · exact absurd h1 hlt
      · exact h.1 p hp
theorem delL_rises {L : List Item} (h : Rises L) (i : ByteArray) : Rises (delL L i) := List.Pairwise.filter _ h
theorem putL_rises {L : List Item} (h : Rises L) (i t : ByteArray) : Rises (putL L i t) :=
  insL_rises (delL_rises h i) (fun p hp e => by
    have := (List.mem_filter.1 hp).2
    simp [sameId_iff.2 e] at this)
theorem putL_mem {L : List Item} {i t : ByteArray} {z : Item} (h : z ∈ putL L i t) : z = (i, t) ∨ z ∈ L := by
  rcases insL_mem.1 h with h | h
  · exact .inl h
  · exact .inr (List.mem_filter.1 h).1
/-- The last one, behind all. -/
theorem insL_last {x : Item} : ∀ {L : List Item}, (∀ p ∈ L, ltB p.1 x.1 = true) → insL x L = L ++ [x]
  | [], _ => rfl
  | y :: r, h => by
    rw [insL, if_neg, insL_last (fun p hp => h p (List.mem_cons_of_mem _ hp))]
    · rfl
    · intro h1
      have := ltB_trans h1 (h y (List.mem_cons_self ..))
      rw [ltB_irrefl] at this
      cases this
theorem putL_last {L : List Item} {i t : ByteArray} (h : ∀ p ∈ L, ltB p.1 i = true) : putL L i t = L ++ [(i, t)] := by
  have hd : delL L i = L := List.filter_eq_self.2 fun p hp => by
    have : ¬ sameId i p = true := fun e => ltB_ne (h p hp) (sameId_iff.1 e)
    simp [this]
  unfold putL
  rw [hd, insL_last h]
def putsL : List Item → List Item → List Item
  | M, [] => M
  | M, x :: r => putsL (putL M x.1 x.2) r
theorem putsL_snoc (x : Item) : ∀ (L M : List Item), putsL M (L ++ [x]) = putL (putsL M L) x.1 x.2
  | [], _ => rfl
  | _ :: r, M => by rw [List.cons_append, putsL, putsL, putsL_snoc x r]
theorem putsL_rises : ∀ (L M : List Item), Rises M → Rises (putsL M L)
  | [], _, h => h
  | x :: r, M, h => by rw [putsL]; exact putsL_rises r _ (putL_rises h _ _)
theorem putsL_mem : ∀ (L M : List Item) {z : Item}, z ∈ putsL M L → z ∈ M ∨ z ∈ L
  | [], _, _, h => .inl h
  | x :: r, M, z, h => by
    rw [putsL] at h
    rcases putsL_mem r _ h with h | h
    · rcases putL_mem h with rfl | h
      · exact .inr (List.mem_cons_self ..)
      · exact .inl h
    · exact .inr (List.mem_cons_of_mem _ h)
/-- What rises is put as it stands. -/
theorem putsL_same : ∀ (L M : List Item), Rises (M ++ L) → putsL M L = M ++ L
  | [], M, _ => by simp [putsL]
  | x :: r, M, h => by
    have hp : ∀ p ∈ M, ltB p.1 x.1 = true := fun p hp => (List.pairwise_append.1 h).2.2 p hp x (List.mem_cons_self ..)
    rw [putsL, putL_last hp, putsL_same r (M ++ [(x.1, x.2)]) (by simpa using h)]
    simp
theorem putL_len {L : List Item} (i t : ByteArray) : (putL L i t).length ≤ L.length + 1 := by
  have h1 : ∀ (x : Item) (L : List Item), (insL x L).length = L.length + 1 := by
    intro x L
    induction L with
    | nil => rfl
    | cons y r ih => rw [insL]; split <;> simp [ih]
  unfold putL
  rw [h1]
  have := List.length_filter_le (fun p => !sameId i p) L
  unfold delL
  omega
theorem putsL_len : ∀ (L M : List Item), (putsL M L).length ≤ M.length + L.length
  | [], M => by simp [putsL]
  | x :: r, M => by
    rw [putsL]
    have := putsL_len r (putL M x.1 x.2)
    have := putL_len (L := M) x.1 x.2
    simp only [List.length_cons]
    omega

/-- What is read, k items from a place on, behind what was read. -/
def readK (s : ByteArray) : Nat → Nat → List Item → Option (List Item)
  | 0, _, acc => some acc
  | k + 1, a, acc =>
    if (St4.textO s a).2.2 ≠ 0 then none
    else if (St4.textO s (St4.textO s a).2.1.toNat).2.2 ≠ 0 then none
    else if idB (St4.textO s a).1 = false then none
    else readK s k (St4.textO s (St4.textO s a).2.1.toNat).2.1.toNat (acc ++ [((St4.textO s a).1, (St4.textO s (St4.textO s a).2.1.toNat).1)])
/-- Is what was read last below a further id? -/
def belowB (acc : List Item) (i : ByteArray) : Bool := match acc.getLast? with
  | some x => ltB x.1 i
  | none => true
/-- The same, of ids that rise alone. -/
def readU (s : ByteArray) : Nat → Nat → List Item → Option (List Item)
  | 0, _, acc => some acc
  | k + 1, a, acc =>
    if (St4.textO s a).2.2 ≠ 0 then none
    else if (St4.textO s (St4.textO s a).2.1.toNat).2.2 ≠ 0 then none
    else if idB (St4.textO s a).1 = false then none
    else if belowB acc (St4.textO s a).1 = false then none
    else readU s k (St4.textO s (St4.textO s a).2.1.toNat).2.1.toNat (acc ++ [((St4.textO s a).1, (St4.textO s (St4.textO s a).2.1.toNat).1)])
/-- An item that a store may have. -/
def OkI (x : Item) : Prop := idB x.1 = true ∧ x.2.size ≤ 8000
theorem readK_ok (s : ByteArray) : ∀ (k a : Nat) (acc L : List Item), readK s k a acc = some L → (∀ x ∈ acc, OkI x) → (∀ x ∈ L, OkI x) ∧ L.length = acc.length + k
  | 0, _, acc, L, h, ha => by
    rw [readK] at h
    cases h
    exact ⟨ha, rfl⟩
  | k + 1, a, acc, L, h, ha => by
    rw [readK] at h
    split at h
    · cases h
    split at h
    · cases h
    split at h
    · cases h
    · rename_i h1 h2 h3
      obtain ⟨r1, r2⟩ := readK_ok s k _ _ L h (fun x hx => by
        rcases List.mem_append.1 hx with hx | hx
        · exact ha x hx
        · obtain rfl : x = _ := by simpa using hx
          exact ⟨by simpa using h3, (St4.textO_at s _ (by simpa using h2)).2.2⟩)
      refine ⟨r1, ?_⟩
      rw [r2]
      simp
      omega
theorem rises_snoc {acc : List Item} {x : Item} (h : Rises acc) (hb : belowB acc x.1 = true) : Rises (acc ++ [x]) := by
  unfold Rises
  rw [List.pairwise_append]
  refine ⟨h, by simp, fun p hp q hq => ?_⟩
  obtain rfl : q = x := by simpa using hq
  unfold belowB at hb
  rcases List.eq_nil_or_concat acc with rfl | ⟨r, y, rfl⟩
  · cases hp
  · simp at hb hp
    unfold Rises at h
    rw [List.concat_eq_append, List.pairwise_append] at h
    rcases hp with hp | rfl
    · exact ltB_trans (h.2.2 p hp y (by simp)) hb
    · exact hb
theorem below_of_rises {acc : List Item} {x : Item} {L : List Item} (h : Rises (acc ++ x :: L)) : belowB acc x.1 = true := by
  unfold belowB
  cases he : acc.getLast? with
  | none => rfl
  | some y => exact (List.pairwise_append.1 h).2.2 y (List.mem_of_getLast? he) x (List.mem_cons_self ..)
theorem readU_rises (s : ByteArray) : ∀ (k a : Nat) (acc L : List Item), readU s k a acc = some L → Rises acc → Rises L ∧ readK s k a acc = some L
  | 0, _, acc, L, h, ha => by
    rw [readU] at h
    cases h
    exact ⟨ha, rfl⟩
  | k + 1, a, acc, L, h, ha => by
    rw [readU] at h
    rw [readK]
    split at h
    · cases h
    rename_i h1
    rw [if_neg h1]
    split at h
    · cases h
    rename_i h2
    rw [if_neg h2]
    split at h
    · cases h
    rename_i h3
    rw [if_neg h3]
    split at h
    · cases h
    rename_i h4
    exact readU_rises s k _ _ L h (rises_snoc ha (by simpa using h4))
theorem readK_pre (s : ByteArray) : ∀ (k a : Nat) (acc L : List Item), readK s k a acc = some L → ∃ r, L = acc ++ r
  | 0, _, acc, L, h => by
    rw [readK] at h
    cases h
    exact ⟨[], by simp⟩
  | k + 1, a, acc, L, h => by
    rw [readK] at h
    split at h
    · cases h
    split at h
    · cases h
    split at h
    · cases h
    obtain ⟨r, rfl⟩ := readK_pre s k _ _ L h
    exact ⟨_, List.append_assoc ..⟩
theorem readU_of (s : ByteArray) : ∀ (k a : Nat) (acc L : List Item), readK s k a acc = some L → Rises L → readU s k a acc = some L
  | 0, _, acc, L, h, _ => by
    rw [readK] at h
    rw [readU]
    exact h
  | k + 1, a, acc, L, h, hr => by
    have h0 := h
    rw [readK] at h
    rw [readU]
    split at h
    · cases h
    rename_i h1
    rw [if_neg h1]
    split at h
    · cases h
    rename_i h2
    rw [if_neg h2]
    split at h
    · cases h
    rename_i h3
    rw [if_neg h3]
    obtain ⟨r, hr'⟩ := readK_pre s k _ _ L h
    rw [if_neg, readU_of s k _ _ L h hr]
    rw [hr', List.append_assoc] at hr
    have := below_of_rises hr
    simp only at this
    rw [this]
    simp
end Go.Proofs.YtbhdbkffejlfmaaGreatDoor

/- A store's bytes are read as what they were made of; so what is read and written again is the same just if it rises. Plain mathematics. -/
namespace Go.Proofs.YtbhdbkffejlfmaaGreatDoor
open Go.RowKit

def flatL : List Item → List UInt8
  | [] => []
  | x :: r => (txtB x.1).data.toList ++ ((txtB x.2).data.toList ++ flatL r)
theorem catB_list : ∀ (L : List Item) (t : ByteArray), (catB t L).data.toList = t.data.toList ++ flatL L
  | [], t => by simp [catB, flatL]
  | x :: r, t => by rw [catB, catB_list r, flatL]; simp
theorem txtB_list (t : ByteArray) : (txtB t).data.toList = (St2.bytesOf (St2.enc (t.size : Int))).data.toList ++ t.data.toList := by
  unfold txtB numText; simp
theorem textO_in (s : ByteArray) (A Z : List UInt8) (t : ByteArray) (hs : s.data.toList = A ++ ((txtB t).data.toList ++ Z)) (ht : t.size ≤ 8000) :
    St4.textO s A.length = (t, ((A ++ (txtB t).data.toList).length : Int), 0) := by
  have hbl : (St2.bytesOf (St2.enc (t.size : Int))).data.toList.length = (St2.enc (t.size : Int)).length := by simp [St2.bytesOf]
  have e : s = ⟨(A ++ (St2.bytesOf (St2.enc (t.size : Int))).data.toList ++ (t.data.toList ++ Z)).toArray⟩ := by
    apply toList_inj
    rw [hs, txtB_list]
    simp
  have hsc := St4.scan_in A (t.data.toList ++ Z) (t.size : Int) (by omega) (by omega)
  rw [← e] at hsc
  have hsz : s.size = A.length + (St2.enc (t.size : Int)).length + (t.size + Z.length) := by
    have : s.size = s.data.toList.length := by simp
    rw [this, hs, txtB_list]
    simp [hbl]
    omega
  have e2 : St3.scan s A.length 10 0 0 = ((t.size : Int), ((A.length + (St2.enc (t.size : Int)).length : Nat) : Int), 0) := by
    rw [hsc]; simp
  rw [St4.textO_ok e2 ht (by omega)]
  have h3 : s.extract (A.length + (St2.enc (t.size : Int)).length) (A.length + (St2.enc (t.size : Int)).length + t.size) = t := by
    apply toList_inj
    have : (s.extract (A.length + (St2.enc (t.size : Int)).length) (A.length + (St2.enc (t.size : Int)).length + t.size)).data.toList = (s.data.toList.drop (A.length + (St2.enc (t.size : Int)).length)).take t.size := by
      simp [ByteArray.data_extract, Array.toList_extract, List.extract]
    rw [this, hs, txtB_list]
    rw [show A ++ ((St2.bytesOf (St2.enc (t.size : Int))).data.toList ++ t.data.toList ++ Z) = (A ++ (St2.bytesOf (St2.enc (t.size : Int))).data.toList) ++ (t.data.toList ++ Z) by simp]
    rw [List.drop_left' (by simp [hbl]), List.take_left' (by simp)]
  rw [h3]
  rw [List.length_append, txtB_list, List.length_append, hbl]
  simp
  omega
theorem readK_in (s : ByteArray) : ∀ (L : List Item) (A : List UInt8) (acc : List Item), s.data.toList = A ++ flatL L → (∀ x ∈ L, OkI x) → readK s L.length A.length acc = some (acc ++ L)
  | [], A, acc, _, _ => by simp [readK]
  | x :: r, A, acc, hs, ho => by
    obtain ⟨o1, o2⟩ := ho x (List.mem_cons_self ..)
    have hi : x.1.size ≤ 8000 := by
      rcases Nat.lt_or_ge 20 x.1.size with h | h
      · rw [idB_long _ h] at o1; cases o1
      · omega
    rw [flatL] at hs
    have h1 := textO_in s A ((txtB x.2).data.toList ++ flatL r) x.1 hs hi
    have hs2 : s.data.toList = (A ++ (txtB x.1).data.toList) ++ ((txtB x.2).data.toList ++ flatL r) := by rw [hs]; simp
    have h2 := textO_in s (A ++ (txtB x.1).data.toList) (flatL r) x.2 hs2 o2
    have hs3 : s.data.toList = ((A ++ (txtB x.1).data.toList) ++ (txtB x.2).data.toList) ++ flatL r := by rw [hs2]; simp
    have h3 := readK_in s r _ (acc ++ [x]) hs3 (fun y hy => ho y (List.mem_cons_of_mem _ hy))
    rw [List.length_cons, readK, h1]
    simp only [Int.toNat_natCast]
    rw [h2]
    simp only [Int.toNat_natCast]
    rw [if_neg (by simp), if_neg (by simp), if_neg (by rw [o1]; simp)]
    rw [show ((x.1, x.2) : Item) = x from rfl, h3]
    simp
/-- What a store's bytes begin with, and what they hold. -/
theorem store_head (M : List Item) : St3.scan (storeB M) 0 10 0 0 = ((M.length : Int), ((numText M.length).size : Int), 0) ∨ 9223372036854775807 < M.length := by
  by_cases h : 9223372036854775807 < M.length
  · exact .inr h
  refine .inl ?_
  have e : storeB M = ⟨(([] : List UInt8) ++ (St2.bytesOf (St2.enc (M.length : Int))).data.toList ++ flatL M).toArray⟩ := by
    apply toList_inj
    unfold storeB
    rw [catB_list]
    simp [numText]
  have hsc := St4.scan_in [] (flatL M) (M.length : Int) (by omega) (by omega)
  rw [← e] at hsc
  rw [show ([] : List UInt8).length = 0 from rfl] at hsc
  rw [hsc]
  simp [numText, St4.bytesOf_size]
theorem store_read (M : List Item) (ho : ∀ x ∈ M, OkI x) : readK (storeB M) M.length (numText M.length).size [] = some M := by
  have h := readK_in (storeB M) M (numText M.length).data.toList [] (by unfold storeB; rw [catB_list]) ho
  rw [show (numText M.length).data.toList.length = (numText M.length).size by simp] at h
  simpa using h
/-- What a text keeps: the ids with their texts. -/
def keptI (s : ByteArray) : Option (List Item) :=
  if (St3.scan s 0 10 0 0).2.2 ≠ 0 ∨ 12 < (St3.scan s 0 10 0 0).1 then none
  else match readK s (St3.scan s 0 10 0 0).1.toNat (St3.scan s 0 10 0 0).2.1.toNat [] with
    | none => none
    | some L => if storeB (putsL [] L) = s then some (putsL [] L) else none
def keptS (s : ByteArray) : Option (List Item) :=
  if (St3.scan s 0 10 0 0).2.2 ≠ 0 ∨ ¬ (0 ≤ (St3.scan s 0 10 0 0).1 ∧ (St3.scan s 0 10 0 0).1 ≤ 12) then none
  else match readU s (St3.scan s 0 10 0 0).1.toNat (St3.scan s 0 10 0 0).2.1.toNat [] with
    | none => none
    | some L => if storeB L = s then some L else none
theorem rises_nil : Rises [] := List.Pairwise.nil
/-- The program's way of reading a store and the model's tell the same. -/
theorem kept_same (s : ByteArray) : keptI s = keptS s := by
  unfold keptI keptS
  by_cases hc : (St3.scan s 0 10 0 0).2.2 ≠ 0
  · rw [if_pos (.inl hc), if_pos (.inl hc)]
  by_cases hm : 12 < (St3.scan s 0 10 0 0).1
  · rw [if_pos (.inr hm), if_pos (.inr (by omega))]
  rw [if_neg (by rintro (h | h); exact hc h; exact hm h)]
  by_cases hn : (St3.scan s 0 10 0 0).1 < 0
  · rw [if_pos (.inr (by omega)), show (St3.scan s 0 10 0 0).1.toNat = 0 by omega, readK]
    show (if storeB (putsL [] []) = s then some (putsL [] []) else none) = none
    rw [if_neg]
    intro e'
    have e : storeB [] = s := e'
    rcases store_head [] with h | h
    · rw [e] at h
      rw [h] at hn
      exact absurd hn (by simp)
    · simp at h
  rw [if_neg (by rintro (h | h); exact hc h; omega)]
  cases hr : readK s (St3.scan s 0 10 0 0).1.toNat (St3.scan s 0 10 0 0).2.1.toNat [] with
  | none =>
    cases hu : readU s (St3.scan s 0 10 0 0).1.toNat (St3.scan s 0 10 0 0).2.1.toNat [] with
    | none => rfl
    | some L =>
      have := (readU_rises s _ _ _ L hu rises_nil).2
      rw [hr] at this
      cases this
  | some L =>
    simp only
    cases hu : readU s (St3.scan s 0 10 0 0).1.toNat (St3.scan s 0 10 0 0).2.1.toNat [] with
    | some L' =>
      obtain ⟨h1, h2⟩ := readU_rises s _ _ _ L' hu rises_nil
      rw [hr] at h2
      cases h2
      have h3 : putsL [] L = L := putsL_same L [] h1
      rw [h3]
    | none =>
      simp only
      rw [if_neg]
      intro e
      obtain ⟨ok, hlen⟩ := readK_ok s _ _ _ L hr (by simp)
      have okM : ∀ x ∈ putsL [] L, OkI x := fun x hx => by
        rcases putsL_mem L [] hx with h | h
        · cases h
        · exact ok x h
      have hlM := putsL_len L []
      simp only [List.length_nil] at hlM hlen
      rcases store_head (putsL [] L) with h | h
      · rw [e] at h
        have h2 := store_read (putsL [] L) okM
        rw [e] at h2
        have hr0 := hr
        rw [h] at hr
        simp only [Int.toNat_natCast] at hr
        rw [hr] at h2
        have h3 : L = putsL [] L := Option.some.inj h2
        have h4 : Rises L := by rw [h3]; exact putsL_rises L [] rises_nil
        have := readU_of s _ _ _ L hr0 h4
        rw [hu] at this
        cases this
      · omega
theorem keptS_ok {s : ByteArray} {L : List Item} (h : keptS s = some L) : Rises L ∧ (∀ x ∈ L, OkI x) ∧ L.length ≤ 12 ∧ storeB L = s := by
  unfold keptS at h
  split at h
  · cases h
  rename_i h1
  cases hu : readU s (St3.scan s 0 10 0 0).1.toNat (St3.scan s 0 10 0 0).2.1.toNat [] with
  | none => rw [hu] at h; cases h
  | some L' =>
    rw [hu] at h
    simp only at h
    split at h
    · rename_i h2
      cases h
      obtain ⟨r1, r2⟩ := readU_rises s _ _ _ L hu rises_nil
      obtain ⟨r3, r4⟩ := readK_ok s _ _ _ L r2 (by simp)
      refine ⟨r1, r3, ?_, h2⟩
      rw [r4]
      simp only [List.length_nil]
      omega
    · cases h
end Go.Proofs.YtbhdbkffejlfmaaGreatDoor
