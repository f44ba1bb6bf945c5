/- A Path read out of its text: lists alone; both readings give a right Path back from its own text. -/
import Derived.Test.YtjcbojgomcakeaaDoorPText
import Derived.Lib.ParseIntB
import Derived.Lib.Strings
import Derived.Lib.SlTrimSet
namespace Go.Proofs.YtjcbojgomcakeaaDoor
open Go.RowKit
def digC : List UInt8 := [48, 49, 50, 51, 52, 53, 54, 55, 56, 57]
def parseN (d : List UInt8) : Int := match Lib.parseIntB 64 d with
  | .ok v => v
  | .«syntax» => 0
  | .range => Lib.intSat 64 d
theorem parse_digs : ∀ n : Nat, n < 100 → n ≠ 0 → parseN (digs n) = (n : Int) := by decide +kernel
theorem digs_all : ∀ n : Nat, n < 100 → (digs n).all (digC.contains ·) = true := by decide +kernel
/-- No digit stands first. -/
def noDig (l : List UInt8) : Prop := ∀ x r, l = x :: r → digC.contains x = false
theorem dropWhile_all {p : UInt8 → Bool} : ∀ (a b : List UInt8), a.all p = true → (∀ x r, b = x :: r → p x = false) → (a ++ b).dropWhile p = b
  | [], [], _, _ => rfl
  | [], x :: r, _, h => by simp [h x r rfl]
  | y :: a, b, ha, h => by
    simp only [List.all_cons, Bool.and_eq_true] at ha
    simp only [List.cons_append, List.dropWhile_cons, ha.1, if_true]
    exact dropWhile_all a b ha.2 h
def numI (a b l : List UInt8) : Int × List UInt8 :=
  if Lib.hasPrefix l a then (parseN ((Lib.trimPrefix l a).take ((Lib.trimPrefix l a).length - (Lib.trimLeftS (Lib.trimPrefix l a) digC).length)), Lib.trimPrefix ((Lib.trimPrefix l a).drop ((Lib.trimPrefix l a).length - (Lib.trimLeftS (Lib.trimPrefix l a) digC).length)) b)
  else (1, l)
theorem has_own (a b : List UInt8) : Lib.hasPrefix (a ++ b) a = true := by simp [Lib.hasPrefix]
theorem trim_own (a b : List UInt8) : Lib.trimPrefix (a ++ b) a = b := by simp [Lib.trimPrefix, has_own]
theorem numI_num (o : UInt8) (cl : List UInt8) (n : Nat) (tail : List UInt8) (h0 : n ≠ 0) (h1 : n < 100) (hd : noDig (cl ++ tail)) :
    numI [o] cl ([o] ++ (digs n ++ (cl ++ tail))) = ((n : Int), tail) := by
  unfold numI
  rw [if_pos (has_own _ _), trim_own]
  have e : Lib.trimLeftS (digs n ++ (cl ++ tail)) digC = cl ++ tail := dropWhile_all _ _ (digs_all n h1) hd
  rw [e]
  have e2 : (digs n ++ (cl ++ tail)).length - (cl ++ tail).length = (digs n).length := by simp
  rw [e2, List.take_left, List.drop_left, trim_own, parse_digs n h1 h0]
theorem numI_one (o : UInt8) (cl l : List UInt8) (h : ∀ x r, l = x :: r → x ≠ o) : numI [o] cl l = (1, l) := by
  unfold numI
  rw [if_neg]
  simp only [Lib.hasPrefix]
  cases l with
  | nil => simp
  | cons x r => simpa using fun e => h x r rfl e.symm
theorem numI_opt (o : UInt8) (cl : List UInt8) (n : Nat) (tail : List UInt8) (h0 : n ≠ 0) (h1 : n < 100) (hd : noDig (cl ++ tail)) (ht : ∀ x r, tail = x :: r → x ≠ o) :
    numI [o] cl (optL [o] n cl ++ tail) = ((n : Int), tail) := by
  by_cases hn : n = 1
  · simp only [optL, hn, if_true, List.nil_append]
    rw [numI_one o cl tail ht]
    rfl
  · simp only [optL, hn, if_false]
    rw [show [o] ++ digs n ++ cl ++ tail = [o] ++ (digs n ++ (cl ++ tail)) by simp]
    exact numI_num o cl n tail h0 h1 hd
def readI (l : List UInt8) : PathM :=
  ⟨⟨(l.take 3).toArray⟩, (numI [91] [93] (l.drop 3)).1, (numI [45] [] (numI [91] [93] (l.drop 3)).2).1, (numI [40] [41] (numI [45] [] (numI [91] [93] (l.drop 3)).2).2).1,
    (numI [46] [] (numI [40] [41] (numI [45] [] (numI [91] [93] (l.drop 3)).2).2).2).1, (numI [46] [] (numI [46] [] (numI [40] [41] (numI [45] [] (numI [91] [93] (l.drop 3)).2).2).2).2).1⟩
/-- What stands first behind the number of a Field. -/
theorem comp_first (c b : Nat) : ∀ x r, compL c b = x :: r → x = 46 := by
  intro x r h
  unfold compL at h
  split at h
  · cases h
  · simp at h; exact h.1.symm
theorem opt_first (o : UInt8) (n : Nat) (cl tail : List UInt8) : ∀ x r, optL [o] n cl ++ tail = x :: r → x = o ∨ tail = x :: r := by
  intro x r h
  unfold optL at h
  split at h
  · exact .inr (by simpa using h)
  · simp at h; exact .inl h.1.symm
theorem tail_first (r c b : Nat) : ∀ x t, optL [40] r [41] ++ compL c b = x :: t → x = 40 ∨ x = 46 := by
  intro x t h
  rcases opt_first 40 r [41] _ x t h with e | e
  · exact .inl e
  · exact .inr (comp_first c b x t e)
theorem sub_first (b : Nat) : noDig ([] ++ optL [46] b []) := by
  intro x t h
  rcases opt_first 46 b [] [] x t (by simpa using h) with e | e
  · subst e; decide
  · cases e
theorem drop_path (s : ByteArray) (n f r c b : Nat) (hs : s.size = 3) : (pathL s n f r c b).drop 3 = optL [91] n [93] ++ ([45] ++ (digs f ++ ([] ++ (optL [40] r [41] ++ compL c b)))) ∧ (pathL s n f r c b).take 3 = s.data.toList := by
  have hl : s.data.toList.length = 3 := by rw [← hs]; exact (Lib.size_eq s).symm
  unfold pathL
  constructor
  · rw [List.append_assoc, List.append_assoc, List.append_assoc, List.append_assoc, List.drop_left' hl]
    simp
  · rw [List.append_assoc, List.append_assoc, List.append_assoc, List.append_assoc, List.take_left' hl]
theorem readI_text (s : ByteArray) (n f r c b : Nat) (hs : s.size = 3) (hn : n ≠ 0 ∧ n < 100) (hf : f ≠ 0 ∧ f < 100) (hr : r ≠ 0 ∧ r < 100) (hc : c ≠ 0 ∧ c < 100) (hb : b ≠ 0 ∧ b < 100) :
    readI (pathL s n f r c b) = ⟨s, n, f, r, c, b⟩ := by
  obtain ⟨hd, ht⟩ := drop_path s n f r c b hs
  have e1 : numI [91] [93] ((pathL s n f r c b).drop 3) = ((n : Int), [45] ++ (digs f ++ ([] ++ (optL [40] r [41] ++ compL c b)))) := by
    rw [hd]
    exact numI_opt 91 [93] n _ hn.1 hn.2 (fun x t h => by simp at h; rw [← h.1]; decide) (fun x t h => by simp at h; rw [← h.1]; decide)
  have e2 : numI [45] [] ([45] ++ (digs f ++ ([] ++ (optL [40] r [41] ++ compL c b)))) = ((f : Int), optL [40] r [41] ++ compL c b) :=
    numI_num 45 [] f _ hf.1 hf.2 (fun x t h => by rcases tail_first r c b x t (by simpa using h) with e | e <;> subst e <;> decide)
  have e3 : numI [40] [41] (optL [40] r [41] ++ compL c b) = ((r : Int), compL c b) :=
    numI_opt 40 [41] r _ hr.1 hr.2 (fun x t h => by simp at h; rw [← h.1]; decide) (fun x t h => by rw [comp_first c b x t h]; decide)
  have e4 : numI [46] [] (compL c b) = ((c : Int), if c = 1 ∧ b = 1 then [] else optL [46] b []) := by
    unfold compL
    by_cases h : c = 1 ∧ b = 1
    · rw [if_pos h, if_pos h, numI_one 46 [] [] (fun x r h => by cases h), h.1]; rfl
    · rw [if_neg h, if_neg h]
      have := numI_num 46 [] c (optL [46] b []) hc.1 hc.2 (sub_first b)
      simpa using this
  have e5 : numI [46] [] (if c = 1 ∧ b = 1 then [] else optL [46] b []) = ((b : Int), []) := by
    by_cases h : c = 1 ∧ b = 1
    · rw [if_pos h, numI_one 46 [] [] (fun x r h => by cases h), h.2]; rfl
    · rw [if_neg h]
      have := numI_opt 46 [] b [] hb.1 hb.2 (fun x t h => by simp at h) (fun x t h => by cases h)
      simpa using this
  unfold readI
  rw [e1]
  simp only [e2, e3, e4, e5, ht]
/-- The model's reading. -/
def isS (c : UInt8) : List UInt8 → Bool × List UInt8
  | [] => (false, [])
  | x :: r => if x = c then (true, r) else (false, x :: r)
def numS : Nat → Int → List UInt8 → Int × List UInt8
  | 0, n, l => (n, l)
  | _ + 1, n, [] => (n, [])
  | k + 1, n, x :: r => if 48 ≤ x.toNat ∧ x.toNat ≤ 57 then numS k (10 * n + ((x.toNat : Int) - 48)) r else (n, x :: r)
def closeS : List UInt8 → List UInt8 → List UInt8
  | [], l => l
  | c :: _, l => (isS c l).2
def optS (o : UInt8) (cl l : List UInt8) : Int × List UInt8 := if (isS o l).1 then ((numS 3 0 (isS o l).2).1, closeS cl (numS 3 0 (isS o l).2).2) else (1, (isS o l).2)
theorem dig_range (x : UInt8) (h : digC.contains x = false) : ¬ (48 ≤ x.toNat ∧ x.toNat ≤ 57) := by
  intro ⟨h1, h2⟩
  have : x = UInt8.ofNat x.toNat := by simp
  rw [this] at h
  generalize x.toNat = k at h h1 h2
  have : k = 48 ∨ k = 49 ∨ k = 50 ∨ k = 51 ∨ k = 52 ∨ k = 53 ∨ k = 54 ∨ k = 55 ∨ k = 56 ∨ k = 57 := by omega
  rcases this with rfl | rfl | rfl | rfl | rfl | rfl | rfl | rfl | rfl | rfl <;> exact absurd h (by decide)
theorem numS_stop (k : Nat) (n : Int) (l : List UInt8) (h : noDig l) : numS k n l = (n, l) := by
  cases k with
  | zero => rfl
  | succ k =>
    cases l with
    | nil => rfl
    | cons x r => simp only [numS]; rw [if_neg (dig_range x (h x r rfl))]
theorem numS_digs (n : Nat) (l : List UInt8) (h0 : n ≠ 0) (h1 : n < 100) (h : noDig l) : numS 3 0 (digs n ++ l) = ((n : Int), l) := by
  unfold digs
  rw [if_neg h0]
  by_cases h2 : n < 10
  · rw [if_pos h2]
    have e : (UInt8.ofNat (48 + n)).toNat = 48 + n := UInt8.toNat_ofNat_of_lt' (show 48 + n < 256 by omega)
    simp only [List.cons_append, List.nil_append, numS, e]
    rw [if_pos (by omega), numS_stop 2 _ l h]
    congr 1
    omega
  · rw [if_neg h2]
    have e : (UInt8.ofNat (48 + n / 10)).toNat = 48 + n / 10 := UInt8.toNat_ofNat_of_lt' (show 48 + n / 10 < 256 by omega)
    have e' : (UInt8.ofNat (48 + n % 10)).toNat = 48 + n % 10 := UInt8.toNat_ofNat_of_lt' (show 48 + n % 10 < 256 by omega)
    simp only [List.cons_append, List.nil_append, numS, e, e']
    rw [if_pos (by omega), if_pos (by omega), numS_stop 1 _ l h]
    congr 1
    omega
theorem isS_no (o : UInt8) (l : List UInt8) (h : ∀ x r, l = x :: r → x ≠ o) : isS o l = (false, l) := by
  cases l with
  | nil => rfl
  | cons x r => simp only [isS]; rw [if_neg (h x r rfl)]
theorem isS_yes (o : UInt8) (l : List UInt8) : isS o (o :: l) = (true, l) := by simp [isS]
theorem closeS_own (cl tail : List UInt8) (h : cl.length ≤ 1) : closeS cl (cl ++ tail) = tail := by
  match cl, h with
  | [], _ => rfl
  | [c], _ => simp [closeS, isS]
theorem optS_num (o : UInt8) (cl : List UInt8) (n : Nat) (tail : List UInt8) (h0 : n ≠ 0) (h1 : n < 100) (hl : cl.length ≤ 1) (hd : noDig (cl ++ tail)) : optS o cl ([o] ++ (digs n ++ (cl ++ tail))) = ((n : Int), tail) := by
  unfold optS
  rw [show [o] ++ (digs n ++ (cl ++ tail)) = o :: (digs n ++ (cl ++ tail)) from rfl, isS_yes]
  simp only [if_true]
  rw [numS_digs n _ h0 h1 hd, closeS_own cl tail hl]
theorem optS_one (o : UInt8) (cl l : List UInt8) (h : ∀ x r, l = x :: r → x ≠ o) : optS o cl l = (1, l) := by
  unfold optS
  rw [isS_no o l h]
  simp
theorem optS_opt (o : UInt8) (cl : List UInt8) (n : Nat) (tail : List UInt8) (h0 : n ≠ 0) (h1 : n < 100) (hl : cl.length ≤ 1) (hd : noDig (cl ++ tail)) (ht : ∀ x r, tail = x :: r → x ≠ o) :
    optS o cl (optL [o] n cl ++ tail) = ((n : Int), tail) := by
  by_cases hn : n = 1
  · simp only [optL, hn, if_true, List.nil_append]
    rw [optS_one o cl tail ht]
    rfl
  · simp only [optL, hn, if_false]
    rw [show [o] ++ digs n ++ cl ++ tail = [o] ++ (digs n ++ (cl ++ tail)) by simp]
    exact optS_num o cl n tail h0 h1 hl hd
def fldS (l : List UInt8) : Int × List UInt8 := numS 3 0 (isS 45 l).2
def readS (l : List UInt8) : PathM :=
  if l.length < 3 then ⟨⟨#[]⟩, 1, 0, 1, 1, 1⟩
  else ⟨⟨(l.take 3).toArray⟩, (optS 91 [93] (l.drop 3)).1, (fldS (optS 91 [93] (l.drop 3)).2).1, (optS 40 [41] (fldS (optS 91 [93] (l.drop 3)).2).2).1,
    (optS 46 [] (optS 40 [41] (fldS (optS 91 [93] (l.drop 3)).2).2).2).1, (optS 46 [] (optS 46 [] (optS 40 [41] (fldS (optS 91 [93] (l.drop 3)).2).2).2).2).1⟩
theorem readS_text (s : ByteArray) (n f r c b : Nat) (hs : s.size = 3) (hn : n ≠ 0 ∧ n < 100) (hf : f ≠ 0 ∧ f < 100) (hr : r ≠ 0 ∧ r < 100) (hc : c ≠ 0 ∧ c < 100) (hb : b ≠ 0 ∧ b < 100) :
    readS (pathL s n f r c b) = ⟨s, n, f, r, c, b⟩ := by
  obtain ⟨hd, ht⟩ := drop_path s n f r c b hs
  have hl : ¬ (pathL s n f r c b).length < 3 := by
    have hl : s.data.toList.length = 3 := by rw [← hs]; exact (Lib.size_eq s).symm
    unfold pathL
    simp only [List.length_append, hl]
    omega
  have e1 : optS 91 [93] ((pathL s n f r c b).drop 3) = ((n : Int), [45] ++ (digs f ++ ([] ++ (optL [40] r [41] ++ compL c b)))) := by
    rw [hd]
    exact optS_opt 91 [93] n _ hn.1 hn.2 (by simp) (fun x t h => by simp at h; rw [← h.1]; decide) (fun x t h => by simp at h; rw [← h.1]; decide)
  have e2 : fldS ([45] ++ (digs f ++ ([] ++ (optL [40] r [41] ++ compL c b)))) = ((f : Int), optL [40] r [41] ++ compL c b) := by
    unfold fldS
    rw [show [45] ++ (digs f ++ ([] ++ (optL [40] r [41] ++ compL c b))) = 45 :: (digs f ++ (optL [40] r [41] ++ compL c b)) by simp, isS_yes]
    exact numS_digs f _ hf.1 hf.2 (fun x t h => by rcases tail_first r c b x t h with e | e <;> subst e <;> decide)
  have e3 : optS 40 [41] (optL [40] r [41] ++ compL c b) = ((r : Int), compL c b) :=
    optS_opt 40 [41] r _ hr.1 hr.2 (by simp) (fun x t h => by simp at h; rw [← h.1]; decide) (fun x t h => by rw [comp_first c b x t h]; decide)
  have e4 : optS 46 [] (compL c b) = ((c : Int), if c = 1 ∧ b = 1 then [] else optL [46] b []) := by
    unfold compL
    by_cases h : c = 1 ∧ b = 1
    · rw [if_pos h, if_pos h, optS_one 46 [] [] (fun x r h => by cases h), h.1]; rfl
    · rw [if_neg h, if_neg h]
      have := optS_num 46 [] c (optL [46] b []) hc.1 hc.2 (by simp) (sub_first b)
      simpa using this
  have e5 : optS 46 [] (if c = 1 ∧ b = 1 then [] else optL [46] b []) = ((b : Int), []) := by
    by_cases h : c = 1 ∧ b = 1
    · rw [if_pos h, optS_one 46 [] [] (fun x r h => by cases h), h.2]; rfl
    · rw [if_neg h]
      have := optS_opt 46 [] b [] hb.1 hb.2 (by simp) (fun x t h => by simp at h) (fun x t h => by cases h)
      simpa using this
  unfold readS
  rw [if_neg hl, e1]
  simp only [e2, e3, e4, e5, ht]
end Go.Proofs.YtjcbojgomcakeaaDoor
