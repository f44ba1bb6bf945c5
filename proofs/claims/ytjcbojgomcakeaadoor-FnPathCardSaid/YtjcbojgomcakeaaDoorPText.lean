/- The text of a Path: numbers written out, of the model. -/
import Derived.Test.YtjcbojgomcakeaaDoorPRight
namespace Go.Proofs.YtjcbojgomcakeaaDoor
open Go.RowKit
/-- A number below 100, written out; none at all for nought. -/
def digs (m : Nat) : List UInt8 := if m = 0 then [] else if m < 10 then [UInt8.ofNat (48 + m)] else [UInt8.ofNat (48 + m / 10), UInt8.ofNat (48 + m % 10)]
theorem digs_step : ∀ m : Nat, m < 100 → m ≠ 0 → digs m = digs (m / 10) ++ [UInt8.ofNat (48 + m % 10)] := by decide
theorem cat_lists (a b : List UInt8) : (⟨a.toArray⟩ : ByteArray) ++ (⟨b.toArray⟩ : ByteArray) = ⟨(a ++ b).toArray⟩ := by
  apply ByteArray.ext
  simp
theorem digs_len : ∀ m : Nat, m < 100 → (digs m).length ≤ 2 := by decide
theorem oneDigit (X : World) (m : Nat) : (convert 22 9 (.slice (some ⟨X.heap.size, 0, none⟩) 1 1)).run Tryd.prog (X.alloc (.cells #[.int .u8 (48 + (m : Int) % 10)] 5)) = .ok (.string ⟨#[UInt8.ofNat (48 + m % 10)]⟩) (X.alloc (.cells #[.int .u8 (48 + (m : Int) % 10)] 5)) := by
  have h := run_convert_bytes_back (P := Tryd.prog) (X.alloc (.cells #[.int .u8 (48 + (m : Int) % 10)] 5)) 22 9 5 ⟨X.heap.size, 0, none⟩ 1 [UInt8.ofNat (48 + m % 10)] Tryd.underlying22 Tryd.underlying5 Tryd.underlying9 (fun j hj => by
    obtain rfl : j = 0 := by simpa using hj
    have e : (((UInt8.ofNat (48 + m % 10)).toNat : Nat) : Int) = 48 + (m : Int) % 10 := by
      rw [UInt8.toNat_ofNat_of_lt' (show 48 + m % 10 < 256 by omega)]; omega
    have r := (row_new X [.int .u8 (48 + (m : Int) % 10)] 5).cell 0
    simp only [List.getElem_cons_zero, e]
    first | exact r | simp [Addr.add])
  exact h
set_option maxHeartbeats 2000000 in
set_option maxRecDepth 100000 in
theorem l01Dec_any (n : Nat) (w : World) (h0 : n ≠ 0) (h1 : n < 100) :
    Calls Tryd.prog 39 #[.int .i64 (n : Int)] w fun e w' => e = .returned (.string ⟨(digs n).toArray⟩) ∧ Below w.heap.size w w' := by
  have hz : ((n : Int) == 0) = false := by simp; omega
  have hneg : ¬ (n : Int) < 0 := by omega
  go_enter Tryd.func39, Tryd.ntmps39
  go_wp2_with fail
  go_loopw [0, 4] (fun a s wr => ∃ (X : World) (m : Nat) (acc : List UInt8), X = wr ∧ m < 100 ∧ a = .int .i64 (m : Int) ∧ s = .string ⟨acc.toArray⟩ ∧ Hid (digs n = digs m ++ acc) ∧ Hid (Below w.heap.size w X)) (fun a _ _ => (intOf a).toNat)
  case atStart => exact ⟨_, n, [], rfl, h1, rfl, rfl, hide (by simp), Below.refl _ _⟩
  case round =>
    obtain ⟨X, m, acc, rfl, hm, rfl, rfl, HD, HB⟩ := hrel
    by_cases hm0 : m = 0
    · subst hm0
      have HE := hide (show digs n = acc by rw [HD.out]; rfl)
      go_wp2
      go_ret
      exact ⟨by rw [HE.out]; rfl, HB.out⟩
    · have hmb : ((m : Int) != 0) = true := by simp; omega
      have hcv0 := oneDigit X m
      obtain ⟨b, hb⟩ : ∃ b, b = UInt8.ofNat (48 + m % 10) := ⟨_, rfl⟩
      rw [← hb] at hcv0
      have hcv := hcv0
      have hr0 : decide ((m : Int) % 10 < 0) = false := decide_eq_false (by omega)
      have hal : acc.length ≤ 2 := by have := digs_len n h1; rw [HD.out] at this; simp at this; omega
      have HD2 := hide (show digs n = digs (m / 10) ++ (b :: acc) by rw [HD.out, digs_step m hm hm0, hb]; simp)
      have HB2 := hide (HB.out.alloc HB.out.size (.cells #[.int .u8 (48 + (m : Int) % 10)] 5))
      have HS : Hid ((⟨#[b]⟩ : ByteArray) ++ (⟨acc.toArray⟩ : ByteArray) = ⟨(b :: acc).toArray⟩) := cat_lists [b] acc
      have HM0 := hide (show 0 < m by omega)
      clear hcv0 hb hm0
      go_wp2
      go_roundw
      case rel => exact ⟨_, m / 10, b :: acc, rfl, by omega, by go_num, by rw [HS.out], HD2, HB2⟩
      case measure => have := HM0.out; simp [intOf]; omega
/-- Of a first one nothing stands. -/
def optL (o : List UInt8) (n : Nat) (c : List UInt8) : List UInt8 := if n = 1 then [] else o ++ digs n ++ c
def compL (c b : Nat) : List UInt8 := if c = 1 ∧ b = 1 then [] else [46] ++ digs c ++ optL [46] b []
def pathL (s : ByteArray) (n f r c b : Nat) : List UInt8 := s.data.toList ++ optL [91] n [93] ++ [45] ++ digs f ++ optL [40] r [41] ++ compL c b
theorem of_bytes {a : ByteArray} {l : List UInt8} (h : a.data.toList = l) : a = ⟨l.toArray⟩ := by
  apply ByteArray.ext
  simp [← h]
theorem ret_bytes {a : ByteArray} {l : List UInt8} (h : a.data.toList = l) : Ending.returned (.string a) = Ending.returned (.string ⟨l.toArray⟩) := by rw [of_bytes h]

set_option maxHeartbeats 8000000 in
set_option maxRecDepth 100000 in
theorem l05Text_any (s : ByteArray) (n f r c b : Nat) (w : World) (hs : s.size = 3) (n0 : n ≠ 0) (n1 : n < 100) (f0 : f ≠ 0) (f1 : f < 100) (r0 : r ≠ 0) (r1 : r < 100) (c0 : c ≠ 0) (c1 : c < 100) (b0 : b ≠ 0) (b1 : b < 100) :
    Calls Tryd.prog 23 #[.agg #[.string s, .int .i64 (n : Int), .int .i64 (f : Int), .int .i64 (r : Int), .int .i64 (c : Int), .int .i64 (b : Int)]] w fun e w' => e = .returned (.string ⟨(pathL s n f r c b).toArray⟩) ∧ Below w.heap.size w w' := by
  obtain ⟨W, hW⟩ : ∃ W, W = w.alloc (.cells #[.string s, .int .i64 (n : Int), .int .i64 (f : Int), .int .i64 (r : Int), .int .i64 (c : Int), .int .i64 (b : Int)] 24) := ⟨_, rfl⟩
  have hB : Below w.heap.size w W := by rw [hW]; exact (Below.refl _ _).alloc (Nat.le_refl _) _
  have HB := hide hB
  have HR : Hid (Row W w.heap.size 24 [.string s, .int .i64 (n : Int), .int .i64 (f : Int), .int .i64 (r : Int), .int .i64 (c : Int), .int .i64 (b : Int)]) := by rw [hW]; exact row_new w [.string s, .int .i64 (n : Int), .int .i64 (f : Int), .int .i64 (r : Int), .int .i64 (c : Int), .int .i64 (b : Int)] 24
  have N := hide (And.intro n0 n1)
  have F := hide (And.intro f0 f1)
  have R := hide (And.intro r0 r1)
  have C := hide (And.intro c0 c1)
  have B := hide (And.intro b0 b1)
  have ln := digs_len n n1
  have lf := digs_len f f1
  have lr := digs_len r r1
  have lc := digs_len c c1
  have lb := digs_len b b1
  clear hB n0 n1 f0 f1 r0 r1 c0 c1 b0 b1
  obtain ⟨T, hT⟩ : ∃ T, T = pathL s n f r c b := ⟨_, rfl⟩
  rw [← hT]
  have HT := hide hT
  clear hT
  by_cases hn : n = 1 <;> by_cases hr : r = 1 <;> by_cases hc : c = 1 <;> by_cases hb : b = 1
  · have HE := hide (show T = s.data.toList ++ ([]) ++ [45] ++ digs f ++ ([]) ++ ([]) by rw [HT.out]; simp [pathL, optL, compL, hn, hr, hc, hb])
    have hnx : ((n : Int) != 1) = false := by simp [hn]
    have hrx : ((r : Int) != 1) = false := by simp [hr]
    have hcx : ((c : Int) != 1) = false := by simp [hc]
    have hbx : ((b : Int) != 1) = false := by simp [hb]
    clear hn hr hc hb
    go_enter Tryd.func23, Tryd.ntmps23
    have a0 : W.cell? ⟨w.heap.size, 0, none⟩ = some (.string s) := HR.out.cell 0
    have a1 : W.cell? ⟨w.heap.size, 1, none⟩ = some (.int .i64 (n : Int)) := HR.out.cell 1
    have a2 : W.cell? ⟨w.heap.size, 2, none⟩ = some (.int .i64 (f : Int)) := HR.out.cell 2
    have a3 : W.cell? ⟨w.heap.size, 3, none⟩ = some (.int .i64 (r : Int)) := HR.out.cell 3
    have a4 : W.cell? ⟨w.heap.size, 4, none⟩ = some (.int .i64 (c : Int)) := HR.out.cell 4
    have a5 : W.cell? ⟨w.heap.size, 5, none⟩ = some (.int .i64 (b : Int)) := HR.out.cell 5
    go_wp2_with fail
    rw [← hW]
    clear hW
    refine (l01Dec_any f _ F.out.1 F.out.2).mono ?_
    rintro e w1 ⟨rfl, hb1⟩
    have HB1 := hide (HB.out.trans (hb1.mono HB.out.size))
    have HR1 := hide (HR.out.below hb1 HR.out.lt)
    clear hb1 a0 a1 a2 a3 a4 a5
    have a0 : w1.cell? ⟨w.heap.size, 0, none⟩ = some (.string s) := HR1.out.cell 0
    have a1 : w1.cell? ⟨w.heap.size, 1, none⟩ = some (.int .i64 (n : Int)) := HR1.out.cell 1
    have a2 : w1.cell? ⟨w.heap.size, 2, none⟩ = some (.int .i64 (f : Int)) := HR1.out.cell 2
    have a3 : w1.cell? ⟨w.heap.size, 3, none⟩ = some (.int .i64 (r : Int)) := HR1.out.cell 3
    have a4 : w1.cell? ⟨w.heap.size, 4, none⟩ = some (.int .i64 (c : Int)) := HR1.out.cell 4
    have a5 : w1.cell? ⟨w.heap.size, 5, none⟩ = some (.int .i64 (b : Int)) := HR1.out.cell 5
    generalize digs n = dn at *
    generalize digs f = df at *
    generalize digs r = dr at *
    generalize digs c = dc at *
    generalize digs b = db at *
    go_wp2
    go_ret
    exact ⟨ret_bytes (by rw [HE.out]; simp), HB1.out⟩
  · have HE := hide (show T = s.data.toList ++ ([]) ++ [45] ++ digs f ++ ([]) ++ ([46] ++ digs c ++ [46] ++ digs b) by rw [HT.out]; simp [pathL, optL, compL, hn, hr, hc, hb])
    have hnx : ((n : Int) != 1) = false := by simp [hn]
    have hrx : ((r : Int) != 1) = false := by simp [hr]
    have hcx : ((c : Int) != 1) = false := by simp [hc]
    have hbx : ((b : Int) != 1) = true := by simp; omega
    clear hn hr hc hb
    go_enter Tryd.func23, Tryd.ntmps23
    have a0 : W.cell? ⟨w.heap.size, 0, none⟩ = some (.string s) := HR.out.cell 0
    have a1 : W.cell? ⟨w.heap.size, 1, none⟩ = some (.int .i64 (n : Int)) := HR.out.cell 1
    have a2 : W.cell? ⟨w.heap.size, 2, none⟩ = some (.int .i64 (f : Int)) := HR.out.cell 2
    have a3 : W.cell? ⟨w.heap.size, 3, none⟩ = some (.int .i64 (r : Int)) := HR.out.cell 3
    have a4 : W.cell? ⟨w.heap.size, 4, none⟩ = some (.int .i64 (c : Int)) := HR.out.cell 4
    have a5 : W.cell? ⟨w.heap.size, 5, none⟩ = some (.int .i64 (b : Int)) := HR.out.cell 5
    go_wp2_with fail
    rw [← hW]
    clear hW
    refine (l01Dec_any f _ F.out.1 F.out.2).mono ?_
    rintro e w1 ⟨rfl, hb1⟩
    have HB1 := hide (HB.out.trans (hb1.mono HB.out.size))
    have HR1 := hide (HR.out.below hb1 HR.out.lt)
    clear hb1 a0 a1 a2 a3 a4 a5
    have a0 : w1.cell? ⟨w.heap.size, 0, none⟩ = some (.string s) := HR1.out.cell 0
    have a1 : w1.cell? ⟨w.heap.size, 1, none⟩ = some (.int .i64 (n : Int)) := HR1.out.cell 1
    have a2 : w1.cell? ⟨w.heap.size, 2, none⟩ = some (.int .i64 (f : Int)) := HR1.out.cell 2
    have a3 : w1.cell? ⟨w.heap.size, 3, none⟩ = some (.int .i64 (r : Int)) := HR1.out.cell 3
    have a4 : w1.cell? ⟨w.heap.size, 4, none⟩ = some (.int .i64 (c : Int)) := HR1.out.cell 4
    have a5 : w1.cell? ⟨w.heap.size, 5, none⟩ = some (.int .i64 (b : Int)) := HR1.out.cell 5
    go_wp2_with fail
    refine (l01Dec_any c _ C.out.1 C.out.2).mono ?_
    rintro e w2 ⟨rfl, hb2⟩
    have HB2 := hide (HB1.out.trans (hb2.mono HB1.out.size))
    have HR2 := hide (HR1.out.below hb2 HR1.out.lt)
    clear hb2 a0 a1 a2 a3 a4 a5
    have a0 : w2.cell? ⟨w.heap.size, 0, none⟩ = some (.string s) := HR2.out.cell 0
    have a1 : w2.cell? ⟨w.heap.size, 1, none⟩ = some (.int .i64 (n : Int)) := HR2.out.cell 1
    have a2 : w2.cell? ⟨w.heap.size, 2, none⟩ = some (.int .i64 (f : Int)) := HR2.out.cell 2
    have a3 : w2.cell? ⟨w.heap.size, 3, none⟩ = some (.int .i64 (r : Int)) := HR2.out.cell 3
    have a4 : w2.cell? ⟨w.heap.size, 4, none⟩ = some (.int .i64 (c : Int)) := HR2.out.cell 4
    have a5 : w2.cell? ⟨w.heap.size, 5, none⟩ = some (.int .i64 (b : Int)) := HR2.out.cell 5
    go_wp2_with fail
    refine (l01Dec_any b _ B.out.1 B.out.2).mono ?_
    rintro e w3 ⟨rfl, hb3⟩
    have HB3 := hide (HB2.out.trans (hb3.mono HB2.out.size))
    have HR3 := hide (HR2.out.below hb3 HR2.out.lt)
    clear hb3 a0 a1 a2 a3 a4 a5
    have a0 : w3.cell? ⟨w.heap.size, 0, none⟩ = some (.string s) := HR3.out.cell 0
    have a1 : w3.cell? ⟨w.heap.size, 1, none⟩ = some (.int .i64 (n : Int)) := HR3.out.cell 1
    have a2 : w3.cell? ⟨w.heap.size, 2, none⟩ = some (.int .i64 (f : Int)) := HR3.out.cell 2
    have a3 : w3.cell? ⟨w.heap.size, 3, none⟩ = some (.int .i64 (r : Int)) := HR3.out.cell 3
    have a4 : w3.cell? ⟨w.heap.size, 4, none⟩ = some (.int .i64 (c : Int)) := HR3.out.cell 4
    have a5 : w3.cell? ⟨w.heap.size, 5, none⟩ = some (.int .i64 (b : Int)) := HR3.out.cell 5
    generalize digs n = dn at *
    generalize digs f = df at *
    generalize digs r = dr at *
    generalize digs c = dc at *
    generalize digs b = db at *
    go_wp2
    go_ret
    exact ⟨ret_bytes (by rw [HE.out]; simp), HB3.out⟩
  · have HE := hide (show T = s.data.toList ++ ([]) ++ [45] ++ digs f ++ ([]) ++ ([46] ++ digs c) by rw [HT.out]; simp [pathL, optL, compL, hn, hr, hc, hb])
    have hnx : ((n : Int) != 1) = false := by simp [hn]
    have hrx : ((r : Int) != 1) = false := by simp [hr]
    have hcx : ((c : Int) != 1) = true := by simp; omega
    have hbx : ((b : Int) != 1) = false := by simp [hb]
    clear hn hr hc hb
    go_enter Tryd.func23, Tryd.ntmps23
    have a0 : W.cell? ⟨w.heap.size, 0, none⟩ = some (.string s) := HR.out.cell 0
    have a1 : W.cell? ⟨w.heap.size, 1, none⟩ = some (.int .i64 (n : Int)) := HR.out.cell 1
    have a2 : W.cell? ⟨w.heap.size, 2, none⟩ = some (.int .i64 (f : Int)) := HR.out.cell 2
    have a3 : W.cell? ⟨w.heap.size, 3, none⟩ = some (.int .i64 (r : Int)) := HR.out.cell 3
    have a4 : W.cell? ⟨w.heap.size, 4, none⟩ = some (.int .i64 (c : Int)) := HR.out.cell 4
    have a5 : W.cell? ⟨w.heap.size, 5, none⟩ = some (.int .i64 (b : Int)) := HR.out.cell 5
    go_wp2_with fail
    rw [← hW]
    clear hW
    refine (l01Dec_any f _ F.out.1 F.out.2).mono ?_
    rintro e w1 ⟨rfl, hb1⟩
    have HB1 := hide (HB.out.trans (hb1.mono HB.out.size))
    have HR1 := hide (HR.out.below hb1 HR.out.lt)
    clear hb1 a0 a1 a2 a3 a4 a5
    have a0 : w1.cell? ⟨w.heap.size, 0, none⟩ = some (.string s) := HR1.out.cell 0
    have a1 : w1.cell? ⟨w.heap.size, 1, none⟩ = some (.int .i64 (n : Int)) := HR1.out.cell 1
    have a2 : w1.cell? ⟨w.heap.size, 2, none⟩ = some (.int .i64 (f : Int)) := HR1.out.cell 2
    have a3 : w1.cell? ⟨w.heap.size, 3, none⟩ = some (.int .i64 (r : Int)) := HR1.out.cell 3
    have a4 : w1.cell? ⟨w.heap.size, 4, none⟩ = some (.int .i64 (c : Int)) := HR1.out.cell 4
    have a5 : w1.cell? ⟨w.heap.size, 5, none⟩ = some (.int .i64 (b : Int)) := HR1.out.cell 5
    go_wp2_with fail
    refine (l01Dec_any c _ C.out.1 C.out.2).mono ?_
    rintro e w2 ⟨rfl, hb2⟩
    have HB2 := hide (HB1.out.trans (hb2.mono HB1.out.size))
    have HR2 := hide (HR1.out.below hb2 HR1.out.lt)
    clear hb2 a0 a1 a2 a3 a4 a5
    have a0 : w2.cell? ⟨w.heap.size, 0, none⟩ = some (.string s) := HR2.out.cell 0
    have a1 : w2.cell? ⟨w.heap.size, 1, none⟩ = some (.int .i64 (n : Int)) := HR2.out.cell 1
    have a2 : w2.cell? ⟨w.heap.size, 2, none⟩ = some (.int .i64 (f : Int)) := HR2.out.cell 2
    have a3 : w2.cell? ⟨w.heap.size, 3, none⟩ = some (.int .i64 (r : Int)) := HR2.out.cell 3
    have a4 : w2.cell? ⟨w.heap.size, 4, none⟩ = some (.int .i64 (c : Int)) := HR2.out.cell 4
    have a5 : w2.cell? ⟨w.heap.size, 5, none⟩ = some (.int .i64 (b : Int)) := HR2.out.cell 5
    generalize digs n = dn at *
    generalize digs f = df at *
    generalize digs r = dr at *
    generalize digs c = dc at *
    generalize digs b = db at *
    go_wp2
    go_ret
    exact ⟨ret_bytes (by rw [HE.out]; simp), HB2.out⟩
  · have HE := hide (show T = s.data.toList ++ ([]) ++ [45] ++ digs f ++ ([]) ++ ([46] ++ digs c ++ [46] ++ digs b) by rw [HT.out]; simp [pathL, optL, compL, hn, hr, hc, hb])
    have hnx : ((n : Int) != 1) = false := by simp [hn]
    have hrx : ((r : Int) != 1) = false := by simp [hr]
    have hcx : ((c : Int) != 1) = true := by simp; omega
    have hbx : ((b : Int) != 1) = true := by simp; omega
    clear hn hr hc hb
    go_enter Tryd.func23, Tryd.ntmps23
    have a0 : W.cell? ⟨w.heap.size, 0, none⟩ = some (.string s) := HR.out.cell 0
    have a1 : W.cell? ⟨w.heap.size, 1, none⟩ = some (.int .i64 (n : Int)) := HR.out.cell 1
    have a2 : W.cell? ⟨w.heap.size, 2, none⟩ = some (.int .i64 (f : Int)) := HR.out.cell 2
    have a3 : W.cell? ⟨w.heap.size, 3, none⟩ = some (.int .i64 (r : Int)) := HR.out.cell 3
    have a4 : W.cell? ⟨w.heap.size, 4, none⟩ = some (.int .i64 (c : Int)) := HR.out.cell 4
    have a5 : W.cell? ⟨w.heap.size, 5, none⟩ = some (.int .i64 (b : Int)) := HR.out.cell 5
    go_wp2_with fail
    rw [← hW]
    clear hW
    refine (l01Dec_any f _ F.out.1 F.out.2).mono ?_
    rintro e w1 ⟨rfl, hb1⟩
    have HB1 := hide (HB.out.trans (hb1.mono HB.out.size))
    have HR1 := hide (HR.out.below hb1 HR.out.lt)
    clear hb1 a0 a1 a2 a3 a4 a5
    have a0 : w1.cell? ⟨w.heap.size, 0, none⟩ = some (.string s) := HR1.out.cell 0
    have a1 : w1.cell? ⟨w.heap.size, 1, none⟩ = some (.int .i64 (n : Int)) := HR1.out.cell 1
    have a2 : w1.cell? ⟨w.heap.size, 2, none⟩ = some (.int .i64 (f : Int)) := HR1.out.cell 2
    have a3 : w1.cell? ⟨w.heap.size, 3, none⟩ = some (.int .i64 (r : Int)) := HR1.out.cell 3
    have a4 : w1.cell? ⟨w.heap.size, 4, none⟩ = some (.int .i64 (c : Int)) := HR1.out.cell 4
    have a5 : w1.cell? ⟨w.heap.size, 5, none⟩ = some (.int .i64 (b : Int)) := HR1.out.cell 5
    go_wp2_with fail
    refine (l01Dec_any c _ C.out.1 C.out.2).mono ?_
    rintro e w2 ⟨rfl, hb2⟩
    have HB2 := hide (HB1.out.trans (hb2.mono HB1.out.size))
    have HR2 := hide (HR1.out.below hb2 HR1.out.lt)
    clear hb2 a0 a1 a2 a3 a4 a5
    have a0 : w2.cell? ⟨w.heap.size, 0, none⟩ = some (.string s) := HR2.out.cell 0
    have a1 : w2.cell? ⟨w.heap.size, 1, none⟩ = some (.int .i64 (n : Int)) := HR2.out.cell 1
    have a2 : w2.cell? ⟨w.heap.size, 2, none⟩ = some (.int .i64 (f : Int)) := HR2.out.cell 2
    have a3 : w2.cell? ⟨w.heap.size, 3, none⟩ = some (.int .i64 (r : Int)) := HR2.out.cell 3
    have a4 : w2.cell? ⟨w.heap.size, 4, none⟩ = some (.int .i64 (c : Int)) := HR2.out.cell 4
    have a5 : w2.cell? ⟨w.heap.size, 5, none⟩ = some (.int .i64 (b : Int)) := HR2.out.cell 5
    go_wp2_with fail
    refine (l01Dec_any b _ B.out.1 B.out.2).mono ?_
    rintro e w3 ⟨rfl, hb3⟩
    have HB3 := hide (HB2.out.trans (hb3.mono HB2.out.size))
    have HR3 := hide (HR2.out.below hb3 HR2.out.lt)
    clear hb3 a0 a1 a2 a3 a4 a5
    have a0 : w3.cell? ⟨w.heap.size, 0, none⟩ = some (.string s) := HR3.out.cell 0
    have a1 : w3.cell? ⟨w.heap.size, 1, none⟩ = some (.int .i64 (n : Int)) := HR3.out.cell 1
    have a2 : w3.cell? ⟨w.heap.size, 2, none⟩ = some (.int .i64 (f : Int)) := HR3.out.cell 2
    have a3 : w3.cell? ⟨w.heap.size, 3, none⟩ = some (.int .i64 (r : Int)) := HR3.out.cell 3
    have a4 : w3.cell? ⟨w.heap.size, 4, none⟩ = some (.int .i64 (c : Int)) := HR3.out.cell 4
    have a5 : w3.cell? ⟨w.heap.size, 5, none⟩ = some (.int .i64 (b : Int)) := HR3.out.cell 5
    generalize digs n = dn at *
    generalize digs f = df at *
    generalize digs r = dr at *
    generalize digs c = dc at *
    generalize digs b = db at *
    go_wp2
    go_ret
    exact ⟨ret_bytes (by rw [HE.out]; simp), HB3.out⟩
  · have HE := hide (show T = s.data.toList ++ ([]) ++ [45] ++ digs f ++ ([40] ++ digs r ++ [41]) ++ ([]) by rw [HT.out]; simp [pathL, optL, compL, hn, hr, hc, hb])
    have hnx : ((n : Int) != 1) = false := by simp [hn]
    have hrx : ((r : Int) != 1) = true := by simp; omega
    have hcx : ((c : Int) != 1) = false := by simp [hc]
    have hbx : ((b : Int) != 1) = false := by simp [hb]
    clear hn hr hc hb
    go_enter Tryd.func23, Tryd.ntmps23
    have a0 : W.cell? ⟨w.heap.size, 0, none⟩ = some (.string s) := HR.out.cell 0
    have a1 : W.cell? ⟨w.heap.size, 1, none⟩ = some (.int .i64 (n : Int)) := HR.out.cell 1
    have a2 : W.cell? ⟨w.heap.size, 2, none⟩ = some (.int .i64 (f : Int)) := HR.out.cell 2
    have a3 : W.cell? ⟨w.heap.size, 3, none⟩ = some (.int .i64 (r : Int)) := HR.out.cell 3
    have a4 : W.cell? ⟨w.heap.size, 4, none⟩ = some (.int .i64 (c : Int)) := HR.out.cell 4
    have a5 : W.cell? ⟨w.heap.size, 5, none⟩ = some (.int .i64 (b : Int)) := HR.out.cell 5
    go_wp2_with fail
    rw [← hW]
    clear hW
    refine (l01Dec_any f _ F.out.1 F.out.2).mono ?_
    rintro e w1 ⟨rfl, hb1⟩
    have HB1 := hide (HB.out.trans (hb1.mono HB.out.size))
    have HR1 := hide (HR.out.below hb1 HR.out.lt)
    clear hb1 a0 a1 a2 a3 a4 a5
    have a0 : w1.cell? ⟨w.heap.size, 0, none⟩ = some (.string s) := HR1.out.cell 0
    have a1 : w1.cell? ⟨w.heap.size, 1, none⟩ = some (.int .i64 (n : Int)) := HR1.out.cell 1
    have a2 : w1.cell? ⟨w.heap.size, 2, none⟩ = some (.int .i64 (f : Int)) := HR1.out.cell 2
    have a3 : w1.cell? ⟨w.heap.size, 3, none⟩ = some (.int .i64 (r : Int)) := HR1.out.cell 3
    have a4 : w1.cell? ⟨w.heap.size, 4, none⟩ = some (.int .i64 (c : Int)) := HR1.out.cell 4
    have a5 : w1.cell? ⟨w.heap.size, 5, none⟩ = some (.int .i64 (b : Int)) := HR1.out.cell 5
    go_wp2_with fail
    refine (l01Dec_any r _ R.out.1 R.out.2).mono ?_
    rintro e w2 ⟨rfl, hb2⟩
    have HB2 := hide (HB1.out.trans (hb2.mono HB1.out.size))
    have HR2 := hide (HR1.out.below hb2 HR1.out.lt)
    clear hb2 a0 a1 a2 a3 a4 a5
    have a0 : w2.cell? ⟨w.heap.size, 0, none⟩ = some (.string s) := HR2.out.cell 0
    have a1 : w2.cell? ⟨w.heap.size, 1, none⟩ = some (.int .i64 (n : Int)) := HR2.out.cell 1
    have a2 : w2.cell? ⟨w.heap.size, 2, none⟩ = some (.int .i64 (f : Int)) := HR2.out.cell 2
    have a3 : w2.cell? ⟨w.heap.size, 3, none⟩ = some (.int .i64 (r : Int)) := HR2.out.cell 3
    have a4 : w2.cell? ⟨w.heap.size, 4, none⟩ = some (.int .i64 (c : Int)) := HR2.out.cell 4
    have a5 : w2.cell? ⟨w.heap.size, 5, none⟩ = some (.int .i64 (b : Int)) := HR2.out.cell 5
    generalize digs n = dn at *
    generalize digs f = df at *
    generalize digs r = dr at *
    generalize digs c = dc at *
    generalize digs b = db at *
    go_wp2
    go_ret
    exact ⟨ret_bytes (by rw [HE.out]; simp), HB2.out⟩
  · have HE := hide (show T = s.data.toList ++ ([]) ++ [45] ++ digs f ++ ([40] ++ digs r ++ [41]) ++ ([46] ++ digs c ++ [46] ++ digs b) by rw [HT.out]; simp [pathL, optL, compL, hn, hr, hc, hb])
    have hnx : ((n : Int) != 1) = false := by simp [hn]
    have hrx : ((r : Int) != 1) = true := by simp; omega
    have hcx : ((c : Int) != 1) = false := by simp [hc]
    have hbx : ((b : Int) != 1) = true := by simp; omega
    clear hn hr hc hb
    go_enter Tryd.func23, Tryd.ntmps23
    have a0 : W.cell? ⟨w.heap.size, 0, none⟩ = some (.string s) := HR.out.cell 0
    have a1 : W.cell? ⟨w.heap.size, 1, none⟩ = some (.int .i64 (n : Int)) := HR.out.cell 1
    have a2 : W.cell? ⟨w.heap.size, 2, none⟩ = some (.int .i64 (f : Int)) := HR.out.cell 2
    have a3 : W.cell? ⟨w.heap.size, 3, none⟩ = some (.int .i64 (r : Int)) := HR.out.cell 3
    have a4 : W.cell? ⟨w.heap.size, 4, none⟩ = some (.int .i64 (c : Int)) := HR.out.cell 4
    have a5 : W.cell? ⟨w.heap.size, 5, none⟩ = some (.int .i64 (b : Int)) := HR.out.cell 5
    go_wp2_with fail
    rw [← hW]
    clear hW
    refine (l01Dec_any f _ F.out.1 F.out.2).mono ?_
    rintro e w1 ⟨rfl, hb1⟩
    have HB1 := hide (HB.out.trans (hb1.mono HB.out.size))
    have HR1 := hide (HR.out.below hb1 HR.out.lt)
    clear hb1 a0 a1 a2 a3 a4 a5
    have a0 : w1.cell? ⟨w.heap.size, 0, none⟩ = some (.string s) := HR1.out.cell 0
    have a1 : w1.cell? ⟨w.heap.size, 1, none⟩ = some (.int .i64 (n : Int)) := HR1.out.cell 1
    have a2 : w1.cell? ⟨w.heap.size, 2, none⟩ = some (.int .i64 (f : Int)) := HR1.out.cell 2
    have a3 : w1.cell? ⟨w.heap.size, 3, none⟩ = some (.int .i64 (r : Int)) := HR1.out.cell 3
    have a4 : w1.cell? ⟨w.heap.size, 4, none⟩ = some (.int .i64 (c : Int)) := HR1.out.cell 4
    have a5 : w1.cell? ⟨w.heap.size, 5, none⟩ = some (.int .i64 (b : Int)) := HR1.out.cell 5
    go_wp2_with fail
    refine (l01Dec_any r _ R.out.1 R.out.2).mono ?_
    rintro e w2 ⟨rfl, hb2⟩
    have HB2 := hide (HB1.out.trans (hb2.mono HB1.out.size))
    have HR2 := hide (HR1.out.below hb2 HR1.out.lt)
    clear hb2 a0 a1 a2 a3 a4 a5
    have a0 : w2.cell? ⟨w.heap.size, 0, none⟩ = some (.string s) := HR2.out.cell 0
    have a1 : w2.cell? ⟨w.heap.size, 1, none⟩ = some (.int .i64 (n : Int)) := HR2.out.cell 1
    have a2 : w2.cell? ⟨w.heap.size, 2, none⟩ = some (.int .i64 (f : Int)) := HR2.out.cell 2
    have a3 : w2.cell? ⟨w.heap.size, 3, none⟩ = some (.int .i64 (r : Int)) := HR2.out.cell 3
    have a4 : w2.cell? ⟨w.heap.size, 4, none⟩ = some (.int .i64 (c : Int)) := HR2.out.cell 4
    have a5 : w2.cell? ⟨w.heap.size, 5, none⟩ = some (.int .i64 (b : Int)) := HR2.out.cell 5
    go_wp2_with fail
    refine (l01Dec_any c _ C.out.1 C.out.2).mono ?_
    rintro e w3 ⟨rfl, hb3⟩
    have HB3 := hide (HB2.out.trans (hb3.mono HB2.out.size))
    have HR3 := hide (HR2.out.below hb3 HR2.out.lt)
    clear hb3 a0 a1 a2 a3 a4 a5
    have a0 : w3.cell? ⟨w.heap.size, 0, none⟩ = some (.string s) := HR3.out.cell 0
    have a1 : w3.cell? ⟨w.heap.size, 1, none⟩ = some (.int .i64 (n : Int)) := HR3.out.cell 1
    have a2 : w3.cell? ⟨w.heap.size, 2, none⟩ = some (.int .i64 (f : Int)) := HR3.out.cell 2
    have a3 : w3.cell? ⟨w.heap.size, 3, none⟩ = some (.int .i64 (r : Int)) := HR3.out.cell 3
    have a4 : w3.cell? ⟨w.heap.size, 4, none⟩ = some (.int .i64 (c : Int)) := HR3.out.cell 4
    have a5 : w3.cell? ⟨w.heap.size, 5, none⟩ = some (.int .i64 (b : Int)) := HR3.out.cell 5
    go_wp2_with fail
    refine (l01Dec_any b _ B.out.1 B.out.2).mono ?_
    rintro e w4 ⟨rfl, hb4⟩
    have HB4 := hide (HB3.out.trans (hb4.mono HB3.out.size))
    have HR4 := hide (HR3.out.below hb4 HR3.out.lt)
    clear hb4 a0 a1 a2 a3 a4 a5
    have a0 : w4.cell? ⟨w.heap.size, 0, none⟩ = some (.string s) := HR4.out.cell 0
    have a1 : w4.cell? ⟨w.heap.size, 1, none⟩ = some (.int .i64 (n : Int)) := HR4.out.cell 1
    have a2 : w4.cell? ⟨w.heap.size, 2, none⟩ = some (.int .i64 (f : Int)) := HR4.out.cell 2
    have a3 : w4.cell? ⟨w.heap.size, 3, none⟩ = some (.int .i64 (r : Int)) := HR4.out.cell 3
    have a4 : w4.cell? ⟨w.heap.size, 4, none⟩ = some (.int .i64 (c : Int)) := HR4.out.cell 4
    have a5 : w4.cell? ⟨w.heap.size, 5, none⟩ = some (.int .i64 (b : Int)) := HR4.out.cell 5
    generalize digs n = dn at *
    generalize digs f = df at *
    generalize digs r = dr at *
    generalize digs c = dc at *
    generalize digs b = db at *
    go_wp2
    go_ret
    exact ⟨ret_bytes (by rw [HE.out]; simp), HB4.out⟩
  · have HE := hide (show T = s.data.toList ++ ([]) ++ [45] ++ digs f ++ ([40] ++ digs r ++ [41]) ++ ([46] ++ digs c) by rw [HT.out]; simp [pathL, optL, compL, hn, hr, hc, hb])
    have hnx : ((n : Int) != 1) = false := by simp [hn]
    have hrx : ((r : Int) != 1) = true := by simp; omega
    have hcx : ((c : Int) != 1) = true := by simp; omega
    have hbx : ((b : Int) != 1) = false := by simp [hb]
    clear hn hr hc hb
    go_enter Tryd.func23, Tryd.ntmps23
    have a0 : W.cell? ⟨w.heap.size, 0, none⟩ = some (.string s) := HR.out.cell 0
    have a1 : W.cell? ⟨w.heap.size, 1, none⟩ = some (.int .i64 (n : Int)) := HR.out.cell 1
    have a2 : W.cell? ⟨w.heap.size, 2, none⟩ = some (.int .i64 (f : Int)) := HR.out.cell 2
    have a3 : W.cell? ⟨w.heap.size, 3, none⟩ = some (.int .i64 (r : Int)) := HR.out.cell 3
    have a4 : W.cell? ⟨w.heap.size, 4, none⟩ = some (.int .i64 (c : Int)) := HR.out.cell 4
    have a5 : W.cell? ⟨w.heap.size, 5, none⟩ = some (.int .i64 (b : Int)) := HR.out.cell 5
    go_wp2_with fail
    rw [← hW]
    clear hW
    refine (l01Dec_any f _ F.out.1 F.out.2).mono ?_
    rintro e w1 ⟨rfl, hb1⟩
    have HB1 := hide (HB.out.trans (hb1.mono HB.out.size))
    have HR1 := hide (HR.out.below hb1 HR.out.lt)
    clear hb1 a0 a1 a2 a3 a4 a5
    have a0 : w1.cell? ⟨w.heap.size, 0, none⟩ = some (.string s) := HR1.out.cell 0
    have a1 : w1.cell? ⟨w.heap.size, 1, none⟩ = some (.int .i64 (n : Int)) := HR1.out.cell 1
    have a2 : w1.cell? ⟨w.heap.size, 2, none⟩ = some (.int .i64 (f : Int)) := HR1.out.cell 2
    have a3 : w1.cell? ⟨w.heap.size, 3, none⟩ = some (.int .i64 (r : Int)) := HR1.out.cell 3
    have a4 : w1.cell? ⟨w.heap.size, 4, none⟩ = some (.int .i64 (c : Int)) := HR1.out.cell 4
    have a5 : w1.cell? ⟨w.heap.size, 5, none⟩ = some (.int .i64 (b : Int)) := HR1.out.cell 5
    go_wp2_with fail
    refine (l01Dec_any r _ R.out.1 R.out.2).mono ?_
    rintro e w2 ⟨rfl, hb2⟩
    have HB2 := hide (HB1.out.trans (hb2.mono HB1.out.size))
    have HR2 := hide (HR1.out.below hb2 HR1.out.lt)
    clear hb2 a0 a1 a2 a3 a4 a5
    have a0 : w2.cell? ⟨w.heap.size, 0, none⟩ = some (.string s) := HR2.out.cell 0
    have a1 : w2.cell? ⟨w.heap.size, 1, none⟩ = some (.int .i64 (n : Int)) := HR2.out.cell 1
    have a2 : w2.cell? ⟨w.heap.size, 2, none⟩ = some (.int .i64 (f : Int)) := HR2.out.cell 2
    have a3 : w2.cell? ⟨w.heap.size, 3, none⟩ = some (.int .i64 (r : Int)) := HR2.out.cell 3
    have a4 : w2.cell? ⟨w.heap.size, 4, none⟩ = some (.int .i64 (c : Int)) := HR2.out.cell 4
    have a5 : w2.cell? ⟨w.heap.size, 5, none⟩ = some (.int .i64 (b : Int)) := HR2.out.cell 5
    go_wp2_with fail
    refine (l01Dec_any c _ C.out.1 C.out.2).mono ?_
    rintro e w3 ⟨rfl, hb3⟩
    have HB3 := hide (HB2.out.trans (hb3.mono HB2.out.size))
    have HR3 := hide (HR2.out.below hb3 HR2.out.lt)
    clear hb3 a0 a1 a2 a3 a4 a5
    have a0 : w3.cell? ⟨w.heap.size, 0, none⟩ = some (.string s) := HR3.out.cell 0
    have a1 : w3.cell? ⟨w.heap.size, 1, none⟩ = some (.int .i64 (n : Int)) := HR3.out.cell 1
    have a2 : w3.cell? ⟨w.heap.size, 2, none⟩ = some (.int .i64 (f : Int)) := HR3.out.cell 2
    have a3 : w3.cell? ⟨w.heap.size, 3, none⟩ = some (.int .i64 (r : Int)) := HR3.out.cell 3
    have a4 : w3.cell? ⟨w.heap.size, 4, none⟩ = some (.int .i64 (c : Int)) := HR3.out.cell 4
    have a5 : w3.cell? ⟨w.heap.size, 5, none⟩ = some (.int .i64 (b : Int)) := HR3.out.cell 5
    generalize digs n = dn at *
    generalize digs f = df at *
    generalize digs r = dr at *
    generalize digs c = dc at *
    generalize digs b = db at *
    go_wp2
    go_ret
    exact ⟨ret_bytes (by rw [HE.out]; simp), HB3.out⟩
  · have HE := hide (show T = s.data.toList ++ ([]) ++ [45] ++ digs f ++ ([40] ++ digs r ++ [41]) ++ ([46] ++ digs c ++ [46] ++ digs b) by rw [HT.out]; simp [pathL, optL, compL, hn, hr, hc, hb])
    have hnx : ((n : Int) != 1) = false := by simp [hn]
    have hrx : ((r : Int) != 1) = true := by simp; omega
    have hcx : ((c : Int) != 1) = true := by simp; omega
    have hbx : ((b : Int) != 1) = true := by simp; omega
    clear hn hr hc hb
    go_enter Tryd.func23, Tryd.ntmps23
    have a0 : W.cell? ⟨w.heap.size, 0, none⟩ = some (.string s) := HR.out.cell 0
    have a1 : W.cell? ⟨w.heap.size, 1, none⟩ = some (.int .i64 (n : Int)) := HR.out.cell 1
    have a2 : W.cell? ⟨w.heap.size, 2, none⟩ = some (.int .i64 (f : Int)) := HR.out.cell 2
    have a3 : W.cell? ⟨w.heap.size, 3, none⟩ = some (.int .i64 (r : Int)) := HR.out.cell 3
    have a4 : W.cell? ⟨w.heap.size, 4, none⟩ = some (.int .i64 (c : Int)) := HR.out.cell 4
    have a5 : W.cell? ⟨w.heap.size, 5, none⟩ = some (.int .i64 (b : Int)) := HR.out.cell 5
    go_wp2_with fail
    rw [← hW]
    clear hW
    refine (l01Dec_any f _ F.out.1 F.out.2).mono ?_
    rintro e w1 ⟨rfl, hb1⟩
    have HB1 := hide (HB.out.trans (hb1.mono HB.out.size))
    have HR1 := hide (HR.out.below hb1 HR.out.lt)
    clear hb1 a0 a1 a2 a3 a4 a5
    have a0 : w1.cell? ⟨w.heap.size, 0, none⟩ = some (.string s) := HR1.out.cell 0
    have a1 : w1.cell? ⟨w.heap.size, 1, none⟩ = some (.int .i64 (n : Int)) := HR1.out.cell 1
    have a2 : w1.cell? ⟨w.heap.size, 2, none⟩ = some (.int .i64 (f : Int)) := HR1.out.cell 2
    have a3 : w1.cell? ⟨w.heap.size, 3, none⟩ = some (.int .i64 (r : Int)) := HR1.out.cell 3
    have a4 : w1.cell? ⟨w.heap.size, 4, none⟩ = some (.int .i64 (c : Int)) := HR1.out.cell 4
    have a5 : w1.cell? ⟨w.heap.size, 5, none⟩ = some (.int .i64 (b : Int)) := HR1.out.cell 5
    go_wp2_with fail
    refine (l01Dec_any r _ R.out.1 R.out.2).mono ?_
    rintro e w2 ⟨rfl, hb2⟩
    have HB2 := hide (HB1.out.trans (hb2.mono HB1.out.size))
    have HR2 := hide (HR1.out.below hb2 HR1.out.lt)
    clear hb2 a0 a1 a2 a3 a4 a5
    have a0 : w2.cell? ⟨w.heap.size, 0, none⟩ = some (.string s) := HR2.out.cell 0
    have a1 : w2.cell? ⟨w.heap.size, 1, none⟩ = some (.int .i64 (n : Int)) := HR2.out.cell 1
    have a2 : w2.cell? ⟨w.heap.size, 2, none⟩ = some (.int .i64 (f : Int)) := HR2.out.cell 2
    have a3 : w2.cell? ⟨w.heap.size, 3, none⟩ = some (.int .i64 (r : Int)) := HR2.out.cell 3
    have a4 : w2.cell? ⟨w.heap.size, 4, none⟩ = some (.int .i64 (c : Int)) := HR2.out.cell 4
    have a5 : w2.cell? ⟨w.heap.size, 5, none⟩ = some (.int .i64 (b : Int)) := HR2.out.cell 5
    go_wp2_with fail
    refine (l01Dec_any c _ C.out.1 C.out.2).mono ?_
    rintro e w3 ⟨rfl, hb3⟩
    have HB3 := hide (HB2.out.trans (hb3.mono HB2.out.size))
    have HR3 := hide (HR2.out.below hb3 HR2.out.lt)
    clear hb3 a0 a1 a2 a3 a4 a5
    have a0 : w3.cell? ⟨w.heap.size, 0, none⟩ = some (.string s) := HR3.out.cell 0
    have a1 : w3.cell? ⟨w.heap.size, 1, none⟩ = some (.int .i64 (n : Int)) := HR3.out.cell 1
    have a2 : w3.cell? ⟨w.heap.size, 2, none⟩ = some (.int .i64 (f : Int)) := HR3.out.cell 2
    have a3 : w3.cell? ⟨w.heap.size, 3, none⟩ = some (.int .i64 (r : Int)) := HR3.out.cell 3
    have a4 : w3.cell? ⟨w.heap.size, 4, none⟩ = some (.int .i64 (c : Int)) := HR3.out.cell 4
    have a5 : w3.cell? ⟨w.heap.size, 5, none⟩ = some (.int .i64 (b : Int)) := HR3.out.cell 5
    go_wp2_with fail
    refine (l01Dec_any b _ B.out.1 B.out.2).mono ?_
    rintro e w4 ⟨rfl, hb4⟩
    have HB4 := hide (HB3.out.trans (hb4.mono HB3.out.size))
    have HR4 := hide (HR3.out.below hb4 HR3.out.lt)
    clear hb4 a0 a1 a2 a3 a4 a5
    have a0 : w4.cell? ⟨w.heap.size, 0, none⟩ = some (.string s) := HR4.out.cell 0
    have a1 : w4.cell? ⟨w.heap.size, 1, none⟩ = some (.int .i64 (n : Int)) := HR4.out.cell 1
    have a2 : w4.cell? ⟨w.heap.size, 2, none⟩ = some (.int .i64 (f : Int)) := HR4.out.cell 2
    have a3 : w4.cell? ⟨w.heap.size, 3, none⟩ = some (.int .i64 (r : Int)) := HR4.out.cell 3
    have a4 : w4.cell? ⟨w.heap.size, 4, none⟩ = some (.int .i64 (c : Int)) := HR4.out.cell 4
    have a5 : w4.cell? ⟨w.heap.size, 5, none⟩ = some (.int .i64 (b : Int)) := HR4.out.cell 5
    generalize digs n = dn at *
    generalize digs f = df at *
    generalize digs r = dr at *
    generalize digs c = dc at *
    generalize digs b = db at *
    go_wp2
    go_ret
    exact ⟨ret_bytes (by rw [HE.out]; simp), HB4.out⟩
  · have HE := hide (show T = s.data.toList ++ ([91] ++ digs n ++ [93]) ++ [45] ++ digs f ++ ([]) ++ ([]) by rw [HT.out]; simp [pathL, optL, compL, hn, hr, hc, hb])
    have hnx : ((n : Int) != 1) = true := by simp; omega
    have hrx : ((r : Int) != 1) = false := by simp [hr]
    have hcx : ((c : Int) != 1) = false := by simp [hc]
    have hbx : ((b : Int) != 1) = false := by simp [hb]
    clear hn hr hc hb
    go_enter Tryd.func23, Tryd.ntmps23
    have a0 : W.cell? ⟨w.heap.size, 0, none⟩ = some (.string s) := HR.out.cell 0
    have a1 : W.cell? ⟨w.heap.size, 1, none⟩ = some (.int .i64 (n : Int)) := HR.out.cell 1
    have a2 : W.cell? ⟨w.heap.size, 2, none⟩ = some (.int .i64 (f : Int)) := HR.out.cell 2
    have a3 : W.cell? ⟨w.heap.size, 3, none⟩ = some (.int .i64 (r : Int)) := HR.out.cell 3
    have a4 : W.cell? ⟨w.heap.size, 4, none⟩ = some (.int .i64 (c : Int)) := HR.out.cell 4
    have a5 : W.cell? ⟨w.heap.size, 5, none⟩ = some (.int .i64 (b : Int)) := HR.out.cell 5
    go_wp2_with fail
    rw [← hW]
    clear hW
    refine (l01Dec_any n _ N.out.1 N.out.2).mono ?_
    rintro e w1 ⟨rfl, hb1⟩
    have HB1 := hide (HB.out.trans (hb1.mono HB.out.size))
    have HR1 := hide (HR.out.below hb1 HR.out.lt)
    clear hb1 a0 a1 a2 a3 a4 a5
    have a0 : w1.cell? ⟨w.heap.size, 0, none⟩ = some (.string s) := HR1.out.cell 0
    have a1 : w1.cell? ⟨w.heap.size, 1, none⟩ = some (.int .i64 (n : Int)) := HR1.out.cell 1
    have a2 : w1.cell? ⟨w.heap.size, 2, none⟩ = some (.int .i64 (f : Int)) := HR1.out.cell 2
    have a3 : w1.cell? ⟨w.heap.size, 3, none⟩ = some (.int .i64 (r : Int)) := HR1.out.cell 3
    have a4 : w1.cell? ⟨w.heap.size, 4, none⟩ = some (.int .i64 (c : Int)) := HR1.out.cell 4
    have a5 : w1.cell? ⟨w.heap.size, 5, none⟩ = some (.int .i64 (b : Int)) := HR1.out.cell 5
    go_wp2_with fail
    refine (l01Dec_any f _ F.out.1 F.out.2).mono ?_
    rintro e w2 ⟨rfl, hb2⟩
    have HB2 := hide (HB1.out.trans (hb2.mono HB1.out.size))
    have HR2 := hide (HR1.out.below hb2 HR1.out.lt)
    clear hb2 a0 a1 a2 a3 a4 a5
    have a0 : w2.cell? ⟨w.heap.size, 0, none⟩ = some (.string s) := HR2.out.cell 0
    have a1 : w2.cell? ⟨w.heap.size, 1, none⟩ = some (.int .i64 (n : Int)) := HR2.out.cell 1
    have a2 : w2.cell? ⟨w.heap.size, 2, none⟩ = some (.int .i64 (f : Int)) := HR2.out.cell 2
    have a3 : w2.cell? ⟨w.heap.size, 3, none⟩ = some (.int .i64 (r : Int)) := HR2.out.cell 3
    have a4 : w2.cell? ⟨w.heap.size, 4, none⟩ = some (.int .i64 (c : Int)) := HR2.out.cell 4
    have a5 : w2.cell? ⟨w.heap.size, 5, none⟩ = some (.int .i64 (b : Int)) := HR2.out.cell 5
    generalize digs n = dn at *
    generalize digs f = df at *
    generalize digs r = dr at *
    generalize digs c = dc at *
    generalize digs b = db at *
    go_wp2
    go_ret
    exact ⟨ret_bytes (by rw [HE.out]; simp), HB2.out⟩
  · have HE := hide (show T = s.data.toList ++ ([91] ++ digs n ++ [93]) ++ [45] ++ digs f ++ ([]) ++ ([46] ++ digs c ++ [46] ++ digs b) by rw [HT.out]; simp [pathL, optL, compL, hn, hr, hc, hb])
    have hnx : ((n : Int) != 1) = true := by simp; omega
    have hrx : ((r : Int) != 1) = false := by simp [hr]
    have hcx : ((c : Int) != 1) = false := by simp [hc]
    have hbx : ((b : Int) != 1) = true := by simp; omega
    clear hn hr hc hb
    go_enter Tryd.func23, Tryd.ntmps23
    have a0 : W.cell? ⟨w.heap.size, 0, none⟩ = some (.string s) := HR.out.cell 0
    have a1 : W.cell? ⟨w.heap.size, 1, none⟩ = some (.int .i64 (n : Int)) := HR.out.cell 1
    have a2 : W.cell? ⟨w.heap.size, 2, none⟩ = some (.int .i64 (f : Int)) := HR.out.cell 2
    have a3 : W.cell? ⟨w.heap.size, 3, none⟩ = some (.int .i64 (r : Int)) := HR.out.cell 3
    have a4 : W.cell? ⟨w.heap.size, 4, none⟩ = some (.int .i64 (c : Int)) := HR.out.cell 4
    have a5 : W.cell? ⟨w.heap.size, 5, none⟩ = some (.int .i64 (b : Int)) := HR.out.cell 5
    go_wp2_with fail
    rw [← hW]
    clear hW
    refine (l01Dec_any n _ N.out.1 N.out.2).mono ?_
    rintro e w1 ⟨rfl, hb1⟩
    have HB1 := hide (HB.out.trans (hb1.mono HB.out.size))
    have HR1 := hide (HR.out.below hb1 HR.out.lt)
    clear hb1 a0 a1 a2 a3 a4 a5
    have a0 : w1.cell? ⟨w.heap.size, 0, none⟩ = some (.string s) := HR1.out.cell 0
    have a1 : w1.cell? ⟨w.heap.size, 1, none⟩ = some (.int .i64 (n : Int)) := HR1.out.cell 1
    have a2 : w1.cell? ⟨w.heap.size, 2, none⟩ = some (.int .i64 (f : Int)) := HR1.out.cell 2
    have a3 : w1.cell? ⟨w.heap.size, 3, none⟩ = some (.int .i64 (r : Int)) := HR1.out.cell 3
    have a4 : w1.cell? ⟨w.heap.size, 4, none⟩ = some (.int .i64 (c : Int)) := HR1.out.cell 4
    have a5 : w1.cell? ⟨w.heap.size, 5, none⟩ = some (.int .i64 (b : Int)) := HR1.out.cell 5
    go_wp2_with fail
    refine (l01Dec_any f _ F.out.1 F.out.2).mono ?_
    rintro e w2 ⟨rfl, hb2⟩
    have HB2 := hide (HB1.out.trans (hb2.mono HB1.out.size))
    have HR2 := hide (HR1.out.below hb2 HR1.out.lt)
    clear hb2 a0 a1 a2 a3 a4 a5
    have a0 : w2.cell? ⟨w.heap.size, 0, none⟩ = some (.string s) := HR2.out.cell 0
    have a1 : w2.cell? ⟨w.heap.size, 1, none⟩ = some (.int .i64 (n : Int)) := HR2.out.cell 1
    have a2 : w2.cell? ⟨w.heap.size, 2, none⟩ = some (.int .i64 (f : Int)) := HR2.out.cell 2
    have a3 : w2.cell? ⟨w.heap.size, 3, none⟩ = some (.int .i64 (r : Int)) := HR2.out.cell 3
    have a4 : w2.cell? ⟨w.heap.size, 4, none⟩ = some (.int .i64 (c : Int)) := HR2.out.cell 4
    have a5 : w2.cell? ⟨w.heap.size, 5, none⟩ = some (.int .i64 (b : Int)) := HR2.out.cell 5
    go_wp2_with fail
    refine (l01Dec_any c _ C.out.1 C.out.2).mono ?_
    rintro e w3 ⟨rfl, hb3⟩
    have HB3 := hide (HB2.out.trans (hb3.mono HB2.out.size))
    have HR3 := hide (HR2.out.below hb3 HR2.out.lt)
    clear hb3 a0 a1 a2 a3 a4 a5
    have a0 : w3.cell? ⟨w.heap.size, 0, none⟩ = some (.string s) := HR3.out.cell 0
    have a1 : w3.cell? ⟨w.heap.size, 1, none⟩ = some (.int .i64 (n : Int)) := HR3.out.cell 1
    have a2 : w3.cell? ⟨w.heap.size, 2, none⟩ = some (.int .i64 (f : Int)) := HR3.out.cell 2
    have a3 : w3.cell? ⟨w.heap.size, 3, none⟩ = some (.int .i64 (r : Int)) := HR3.out.cell 3
    have a4 : w3.cell? ⟨w.heap.size, 4, none⟩ = some (.int .i64 (c : Int)) := HR3.out.cell 4
    have a5 : w3.cell? ⟨w.heap.size, 5, none⟩ = some (.int .i64 (b : Int)) := HR3.out.cell 5
    go_wp2_with fail
    refine (l01Dec_any b _ B.out.1 B.out.2).mono ?_
    rintro e w4 ⟨rfl, hb4⟩
    have HB4 := hide (HB3.out.trans (hb4.mono HB3.out.size))
    have HR4 := hide (HR3.out.below hb4 HR3.out.lt)
    clear hb4 a0 a1 a2 a3 a4 a5
    have a0 : w4.cell? ⟨w.heap.size, 0, none⟩ = some (.string s) := HR4.out.cell 0
    have a1 : w4.cell? ⟨w.heap.size, 1, none⟩ = some (.int .i64 (n : Int)) := HR4.out.cell 1
    have a2 : w4.cell? ⟨w.heap.size, 2, none⟩ = some (.int .i64 (f : Int)) := HR4.out.cell 2
    have a3 : w4.cell? ⟨w.heap.size, 3, none⟩ = some (.int .i64 (r : Int)) := HR4.out.cell 3
    have a4 : w4.cell? ⟨w.heap.size, 4, none⟩ = some (.int .i64 (c : Int)) := HR4.out.cell 4
    have a5 : w4.cell? ⟨w.heap.size, 5, none⟩ = some (.int .i64 (b : Int)) := HR4.out.cell 5
    generalize digs n = dn at *
    generalize digs f = df at *
    generalize digs r = dr at *
    generalize digs c = dc at *
    generalize digs b = db at *
    go_wp2
    go_ret
    exact ⟨ret_bytes (by rw [HE.out]; simp), HB4.out⟩
  · have HE := hide (show T = s.data.toList ++ ([91] ++ digs n ++ [93]) ++ [45] ++ digs f ++ ([]) ++ ([46] ++ digs c) by rw [HT.out]; simp [pathL, optL, compL, hn, hr, hc, hb])
    have hnx : ((n : Int) != 1) = true := by simp; omega
    have hrx : ((r : Int) != 1) = false := by simp [hr]
    have hcx : ((c : Int) != 1) = true := by simp; omega
    have hbx : ((b : Int) != 1) = false := by simp [hb]
    clear hn hr hc hb
    go_enter Tryd.func23, Tryd.ntmps23
    have a0 : W.cell? ⟨w.heap.size, 0, none⟩ = some (.string s) := HR.out.cell 0
    have a1 : W.cell? ⟨w.heap.size, 1, none⟩ = some (.int .i64 (n : Int)) := HR.out.cell 1
    have a2 : W.cell? ⟨w.heap.size, 2, none⟩ = some (.int .i64 (f : Int)) := HR.out.cell 2
    have a3 : W.cell? ⟨w.heap.size, 3, none⟩ = some (.int .i64 (r : Int)) := HR.out.cell 3
    have a4 : W.cell? ⟨w.heap.size, 4, none⟩ = some (.int .i64 (c : Int)) := HR.out.cell 4
    have a5 : W.cell? ⟨w.heap.size, 5, none⟩ = some (.int .i64 (b : Int)) := HR.out.cell 5
    go_wp2_with fail
    rw [← hW]
    clear hW
    refine (l01Dec_any n _ N.out.1 N.out.2).mono ?_
    rintro e w1 ⟨rfl, hb1⟩
    have HB1 := hide (HB.out.trans (hb1.mono HB.out.size))
    have HR1 := hide (HR.out.below hb1 HR.out.lt)
    clear hb1 a0 a1 a2 a3 a4 a5
    have a0 : w1.cell? ⟨w.heap.size, 0, none⟩ = some (.string s) := HR1.out.cell 0
    have a1 : w1.cell? ⟨w.heap.size, 1, none⟩ = some (.int .i64 (n : Int)) := HR1.out.cell 1
    have a2 : w1.cell? ⟨w.heap.size, 2, none⟩ = some (.int .i64 (f : Int)) := HR1.out.cell 2
    have a3 : w1.cell? ⟨w.heap.size, 3, none⟩ = some (.int .i64 (r : Int)) := HR1.out.cell 3
    have a4 : w1.cell? ⟨w.heap.size, 4, none⟩ = some (.int .i64 (c : Int)) := HR1.out.cell 4
    have a5 : w1.cell? ⟨w.heap.size, 5, none⟩ = some (.int .i64 (b : Int)) := HR1.out.cell 5
    go_wp2_with fail
    refine (l01Dec_any f _ F.out.1 F.out.2).mono ?_
    rintro e w2 ⟨rfl, hb2⟩
    have HB2 := hide (HB1.out.trans (hb2.mono HB1.out.size))
    have HR2 := hide (HR1.out.below hb2 HR1.out.lt)
    clear hb2 a0 a1 a2 a3 a4 a5
    have a0 : w2.cell? ⟨w.heap.size, 0, none⟩ = some (.string s) := HR2.out.cell 0
    have a1 : w2.cell? ⟨w.heap.size, 1, none⟩ = some (.int .i64 (n : Int)) := HR2.out.cell 1
    have a2 : w2.cell? ⟨w.heap.size, 2, none⟩ = some (.int .i64 (f : Int)) := HR2.out.cell 2
    have a3 : w2.cell? ⟨w.heap.size, 3, none⟩ = some (.int .i64 (r : Int)) := HR2.out.cell 3
    have a4 : w2.cell? ⟨w.heap.size, 4, none⟩ = some (.int .i64 (c : Int)) := HR2.out.cell 4
    have a5 : w2.cell? ⟨w.heap.size, 5, none⟩ = some (.int .i64 (b : Int)) := HR2.out.cell 5
    go_wp2_with fail
    refine (l01Dec_any c _ C.out.1 C.out.2).mono ?_
    rintro e w3 ⟨rfl, hb3⟩
    have HB3 := hide (HB2.out.trans (hb3.mono HB2.out.size))
    have HR3 := hide (HR2.out.below hb3 HR2.out.lt)
    clear hb3 a0 a1 a2 a3 a4 a5
    have a0 : w3.cell? ⟨w.heap.size, 0, none⟩ = some (.string s) := HR3.out.cell 0
    have a1 : w3.cell? ⟨w.heap.size, 1, none⟩ = some (.int .i64 (n : Int)) := HR3.out.cell 1
    have a2 : w3.cell? ⟨w.heap.size, 2, none⟩ = some (.int .i64 (f : Int)) := HR3.out.cell 2
    have a3 : w3.cell? ⟨w.heap.size, 3, none⟩ = some (.int .i64 (r : Int)) := HR3.out.cell 3
    have a4 : w3.cell? ⟨w.heap.size, 4, none⟩ = some (.int .i64 (c : Int)) := HR3.out.cell 4
    have a5 : w3.cell? ⟨w.heap.size, 5, none⟩ = some (.int .i64 (b : Int)) := HR3.out.cell 5
    generalize digs n = dn at *
    generalize digs f = df at *
    generalize digs r = dr at *
    generalize digs c = dc at *
    generalize digs b = db at *
    go_wp2
    go_ret
    exact ⟨ret_bytes (by rw [HE.out]; simp), HB3.out⟩
  · have HE := hide (show T = s.data.toList ++ ([91] ++ digs n ++ [93]) ++ [45] ++ digs f ++ ([]) ++ ([46] ++ digs c ++ [46] ++ digs b) by rw [HT.out]; simp [pathL, optL, compL, hn, hr, hc, hb])
    have hnx : ((n : Int) != 1) = true := by simp; omega
    have hrx : ((r : Int) != 1) = false := by simp [hr]
    have hcx : ((c : Int) != 1) = true := by simp; omega
    have hbx : ((b : Int) != 1) = true := by simp; omega
    clear hn hr hc hb
    go_enter Tryd.func23, Tryd.ntmps23
    have a0 : W.cell? ⟨w.heap.size, 0, none⟩ = some (.string s) := HR.out.cell 0
    have a1 : W.cell? ⟨w.heap.size, 1, none⟩ = some (.int .i64 (n : Int)) := HR.out.cell 1
    have a2 : W.cell? ⟨w.heap.size, 2, none⟩ = some (.int .i64 (f : Int)) := HR.out.cell 2
    have a3 : W.cell? ⟨w.heap.size, 3, none⟩ = some (.int .i64 (r : Int)) := HR.out.cell 3
    have a4 : W.cell? ⟨w.heap.size, 4, none⟩ = some (.int .i64 (c : Int)) := HR.out.cell 4
    have a5 : W.cell? ⟨w.heap.size, 5, none⟩ = some (.int .i64 (b : Int)) := HR.out.cell 5
    go_wp2_with fail
    rw [← hW]
    clear hW
    refine (l01Dec_any n _ N.out.1 N.out.2).mono ?_
    rintro e w1 ⟨rfl, hb1⟩
    have HB1 := hide (HB.out.trans (hb1.mono HB.out.size))
    have HR1 := hide (HR.out.below hb1 HR.out.lt)
    clear hb1 a0 a1 a2 a3 a4 a5
    have a0 : w1.cell? ⟨w.heap.size, 0, none⟩ = some (.string s) := HR1.out.cell 0
    have a1 : w1.cell? ⟨w.heap.size, 1, none⟩ = some (.int .i64 (n : Int)) := HR1.out.cell 1
    have a2 : w1.cell? ⟨w.heap.size, 2, none⟩ = some (.int .i64 (f : Int)) := HR1.out.cell 2
    have a3 : w1.cell? ⟨w.heap.size, 3, none⟩ = some (.int .i64 (r : Int)) := HR1.out.cell 3
    have a4 : w1.cell? ⟨w.heap.size, 4, none⟩ = some (.int .i64 (c : Int)) := HR1.out.cell 4
    have a5 : w1.cell? ⟨w.heap.size, 5, none⟩ = some (.int .i64 (b : Int)) := HR1.out.cell 5
    go_wp2_with fail
    refine (l01Dec_any f _ F.out.1 F.out.2).mono ?_
    rintro e w2 ⟨rfl, hb2⟩
    have HB2 := hide (HB1.out.trans (hb2.mono HB1.out.size))
    have HR2 := hide (HR1.out.below hb2 HR1.out.lt)
    clear hb2 a0 a1 a2 a3 a4 a5
    have a0 : w2.cell? ⟨w.heap.size, 0, none⟩ = some (.string s) := HR2.out.cell 0
    have a1 : w2.cell? ⟨w.heap.size, 1, none⟩ = some (.int .i64 (n : Int)) := HR2.out.cell 1
    have a2 : w2.cell? ⟨w.heap.size, 2, none⟩ = some (.int .i64 (f : Int)) := HR2.out.cell 2
    have a3 : w2.cell? ⟨w.heap.size, 3, none⟩ = some (.int .i64 (r : Int)) := HR2.out.cell 3
    have a4 : w2.cell? ⟨w.heap.size, 4, none⟩ = some (.int .i64 (c : Int)) := HR2.out.cell 4
    have a5 : w2.cell? ⟨w.heap.size, 5, none⟩ = some (.int .i64 (b : Int)) := HR2.out.cell 5
    go_wp2_with fail
    refine (l01Dec_any c _ C.out.1 C.out.2).mono ?_
    rintro e w3 ⟨rfl, hb3⟩
    have HB3 := hide (HB2.out.trans (hb3.mono HB2.out.size))
    have HR3 := hide (HR2.out.below hb3 HR2.out.lt)
    clear hb3 a0 a1 a2 a3 a4 a5
    have a0 : w3.cell? ⟨w.heap.size, 0, none⟩ = some (.string s) := HR3.out.cell 0
    have a1 : w3.cell? ⟨w.heap.size, 1, none⟩ = some (.int .i64 (n : Int)) := HR3.out.cell 1
    have a2 : w3.cell? ⟨w.heap.size, 2, none⟩ = some (.int .i64 (f : Int)) := HR3.out.cell 2
    have a3 : w3.cell? ⟨w.heap.size, 3, none⟩ = some (.int .i64 (r : Int)) := HR3.out.cell 3
    have a4 : w3.cell? ⟨w.heap.size, 4, none⟩ = some (.int .i64 (c : Int)) := HR3.out.cell 4
    have a5 : w3.cell? ⟨w.heap.size, 5, none⟩ = some (.int .i64 (b : Int)) := HR3.out.cell 5
    go_wp2_with fail
    refine (l01Dec_any b _ B.out.1 B.out.2).mono ?_
    rintro e w4 ⟨rfl, hb4⟩
    have HB4 := hide (HB3.out.trans (hb4.mono HB3.out.size))
    have HR4 := hide (HR3.out.below hb4 HR3.out.lt)
    clear hb4 a0 a1 a2 a3 a4 a5
    have a0 : w4.cell? ⟨w.heap.size, 0, none⟩ = some (.string s) := HR4.out.cell 0
    have a1 : w4.cell? ⟨w.heap.size, 1, none⟩ = some (.int .i64 (n : Int)) := HR4.out.cell 1
    have a2 : w4.cell? ⟨w.heap.size, 2, none⟩ = some (.int .i64 (f : Int)) := HR4.out.cell 2
    have a3 : w4.cell? ⟨w.heap.size, 3, none⟩ = some (.int .i64 (r : Int)) := HR4.out.cell 3
    have a4 : w4.cell? ⟨w.heap.size, 4, none⟩ = some (.int .i64 (c : Int)) := HR4.out.cell 4
    have a5 : w4.cell? ⟨w.heap.size, 5, none⟩ = some (.int .i64 (b : Int)) := HR4.out.cell 5
    generalize digs n = dn at *
    generalize digs f = df at *
    generalize digs r = dr at *
    generalize digs c = dc at *
    generalize digs b = db at *
    go_wp2
    go_ret
    exact ⟨ret_bytes (by rw [HE.out]; simp), HB4.out⟩
  · have HE := hide (show T = s.data.toList ++ ([91] ++ digs n ++ [93]) ++ [45] ++ digs f ++ ([40] ++ digs r ++ [41]) ++ ([]) by rw [HT.out]; simp [pathL, optL, compL, hn, hr, hc, hb])
    have hnx : ((n : Int) != 1) = true := by simp; omega
    have hrx : ((r : Int) != 1) = true := by simp; omega
    have hcx : ((c : Int) != 1) = false := by simp [hc]
    have hbx : ((b : Int) != 1) = false := by simp [hb]
    clear hn hr hc hb
    go_enter Tryd.func23, Tryd.ntmps23
    have a0 : W.cell? ⟨w.heap.size, 0, none⟩ = some (.string s) := HR.out.cell 0
    have a1 : W.cell? ⟨w.heap.size, 1, none⟩ = some (.int .i64 (n : Int)) := HR.out.cell 1
    have a2 : W.cell? ⟨w.heap.size, 2, none⟩ = some (.int .i64 (f : Int)) := HR.out.cell 2
    have a3 : W.cell? ⟨w.heap.size, 3, none⟩ = some (.int .i64 (r : Int)) := HR.out.cell 3
    have a4 : W.cell? ⟨w.heap.size, 4, none⟩ = some (.int .i64 (c : Int)) := HR.out.cell 4
    have a5 : W.cell? ⟨w.heap.size, 5, none⟩ = some (.int .i64 (b : Int)) := HR.out.cell 5
    go_wp2_with fail
    rw [← hW]
    clear hW
    refine (l01Dec_any n _ N.out.1 N.out.2).mono ?_
    rintro e w1 ⟨rfl, hb1⟩
    have HB1 := hide (HB.out.trans (hb1.mono HB.out.size))
    have HR1 := hide (HR.out.below hb1 HR.out.lt)
    clear hb1 a0 a1 a2 a3 a4 a5
    have a0 : w1.cell? ⟨w.heap.size, 0, none⟩ = some (.string s) := HR1.out.cell 0
    have a1 : w1.cell? ⟨w.heap.size, 1, none⟩ = some (.int .i64 (n : Int)) := HR1.out.cell 1
    have a2 : w1.cell? ⟨w.heap.size, 2, none⟩ = some (.int .i64 (f : Int)) := HR1.out.cell 2
    have a3 : w1.cell? ⟨w.heap.size, 3, none⟩ = some (.int .i64 (r : Int)) := HR1.out.cell 3
    have a4 : w1.cell? ⟨w.heap.size, 4, none⟩ = some (.int .i64 (c : Int)) := HR1.out.cell 4
    have a5 : w1.cell? ⟨w.heap.size, 5, none⟩ = some (.int .i64 (b : Int)) := HR1.out.cell 5
    go_wp2_with fail
    refine (l01Dec_any f _ F.out.1 F.out.2).mono ?_
    rintro e w2 ⟨rfl, hb2⟩
    have HB2 := hide (HB1.out.trans (hb2.mono HB1.out.size))
    have HR2 := hide (HR1.out.below hb2 HR1.out.lt)
    clear hb2 a0 a1 a2 a3 a4 a5
    have a0 : w2.cell? ⟨w.heap.size, 0, none⟩ = some (.string s) := HR2.out.cell 0
    have a1 : w2.cell? ⟨w.heap.size, 1, none⟩ = some (.int .i64 (n : Int)) := HR2.out.cell 1
    have a2 : w2.cell? ⟨w.heap.size, 2, none⟩ = some (.int .i64 (f : Int)) := HR2.out.cell 2
    have a3 : w2.cell? ⟨w.heap.size, 3, none⟩ = some (.int .i64 (r : Int)) := HR2.out.cell 3
    have a4 : w2.cell? ⟨w.heap.size, 4, none⟩ = some (.int .i64 (c : Int)) := HR2.out.cell 4
    have a5 : w2.cell? ⟨w.heap.size, 5, none⟩ = some (.int .i64 (b : Int)) := HR2.out.cell 5
    go_wp2_with fail
    refine (l01Dec_any r _ R.out.1 R.out.2).mono ?_
    rintro e w3 ⟨rfl, hb3⟩
    have HB3 := hide (HB2.out.trans (hb3.mono HB2.out.size))
    have HR3 := hide (HR2.out.below hb3 HR2.out.lt)
    clear hb3 a0 a1 a2 a3 a4 a5
    have a0 : w3.cell? ⟨w.heap.size, 0, none⟩ = some (.string s) := HR3.out.cell 0
    have a1 : w3.cell? ⟨w.heap.size, 1, none⟩ = some (.int .i64 (n : Int)) := HR3.out.cell 1
    have a2 : w3.cell? ⟨w.heap.size, 2, none⟩ = some (.int .i64 (f : Int)) := HR3.out.cell 2
    have a3 : w3.cell? ⟨w.heap.size, 3, none⟩ = some (.int .i64 (r : Int)) := HR3.out.cell 3
    have a4 : w3.cell? ⟨w.heap.size, 4, none⟩ = some (.int .i64 (c : Int)) := HR3.out.cell 4
    have a5 : w3.cell? ⟨w.heap.size, 5, none⟩ = some (.int .i64 (b : Int)) := HR3.out.cell 5
    generalize digs n = dn at *
    generalize digs f = df at *
    generalize digs r = dr at *
    generalize digs c = dc at *
    generalize digs b = db at *
    go_wp2
    go_ret
    exact ⟨ret_bytes (by rw [HE.out]; simp), HB3.out⟩
  · have HE := hide (show T = s.data.toList ++ ([91] ++ digs n ++ [93]) ++ [45] ++ digs f ++ ([40] ++ digs r ++ [41]) ++ ([46] ++ digs c ++ [46] ++ digs b) by rw [HT.out]; simp [pathL, optL, compL, hn, hr, hc, hb])
    have hnx : ((n : Int) != 1) = true := by simp; omega
    have hrx : ((r : Int) != 1) = true := by simp; omega
    have hcx : ((c : Int) != 1) = false := by simp [hc]
    have hbx : ((b : Int) != 1) = true := by simp; omega
    clear hn hr hc hb
    go_enter Tryd.func23, Tryd.ntmps23
    have a0 : W.cell? ⟨w.heap.size, 0, none⟩ = some (.string s) := HR.out.cell 0
    have a1 : W.cell? ⟨w.heap.size, 1, none⟩ = some (.int .i64 (n : Int)) := HR.out.cell 1
    have a2 : W.cell? ⟨w.heap.size, 2, none⟩ = some (.int .i64 (f : Int)) := HR.out.cell 2
    have a3 : W.cell? ⟨w.heap.size, 3, none⟩ = some (.int .i64 (r : Int)) := HR.out.cell 3
    have a4 : W.cell? ⟨w.heap.size, 4, none⟩ = some (.int .i64 (c : Int)) := HR.out.cell 4
    have a5 : W.cell? ⟨w.heap.size, 5, none⟩ = some (.int .i64 (b : Int)) := HR.out.cell 5
    go_wp2_with fail
    rw [← hW]
    clear hW
    refine (l01Dec_any n _ N.out.1 N.out.2).mono ?_
    rintro e w1 ⟨rfl, hb1⟩
    have HB1 := hide (HB.out.trans (hb1.mono HB.out.size))
    have HR1 := hide (HR.out.below hb1 HR.out.lt)
    clear hb1 a0 a1 a2 a3 a4 a5
    have a0 : w1.cell? ⟨w.heap.size, 0, none⟩ = some (.string s) := HR1.out.cell 0
    have a1 : w1.cell? ⟨w.heap.size, 1, none⟩ = some (.int .i64 (n : Int)) := HR1.out.cell 1
    have a2 : w1.cell? ⟨w.heap.size, 2, none⟩ = some (.int .i64 (f : Int)) := HR1.out.cell 2
    have a3 : w1.cell? ⟨w.heap.size, 3, none⟩ = some (.int .i64 (r : Int)) := HR1.out.cell 3
    have a4 : w1.cell? ⟨w.heap.size, 4, none⟩ = some (.int .i64 (c : Int)) := HR1.out.cell 4
    have a5 : w1.cell? ⟨w.heap.size, 5, none⟩ = some (.int .i64 (b : Int)) := HR1.out.cell 5
    go_wp2_with fail
    refine (l01Dec_any f _ F.out.1 F.out.2).mono ?_
    rintro e w2 ⟨rfl, hb2⟩
    have HB2 := hide (HB1.out.trans (hb2.mono HB1.out.size))
    have HR2 := hide (HR1.out.below hb2 HR1.out.lt)
    clear hb2 a0 a1 a2 a3 a4 a5
    have a0 : w2.cell? ⟨w.heap.size, 0, none⟩ = some (.string s) := HR2.out.cell 0
    have a1 : w2.cell? ⟨w.heap.size, 1, none⟩ = some (.int .i64 (n : Int)) := HR2.out.cell 1
    have a2 : w2.cell? ⟨w.heap.size, 2, none⟩ = some (.int .i64 (f : Int)) := HR2.out.cell 2
    have a3 : w2.cell? ⟨w.heap.size, 3, none⟩ = some (.int .i64 (r : Int)) := HR2.out.cell 3
    have a4 : w2.cell? ⟨w.heap.size, 4, none⟩ = some (.int .i64 (c : Int)) := HR2.out.cell 4
    have a5 : w2.cell? ⟨w.heap.size, 5, none⟩ = some (.int .i64 (b : Int)) := HR2.out.cell 5
    go_wp2_with fail
    refine (l01Dec_any r _ R.out.1 R.out.2).mono ?_
    rintro e w3 ⟨rfl, hb3⟩
    have HB3 := hide (HB2.out.trans (hb3.mono HB2.out.size))
    have HR3 := hide (HR2.out.below hb3 HR2.out.lt)
    clear hb3 a0 a1 a2 a3 a4 a5
    have a0 : w3.cell? ⟨w.heap.size, 0, none⟩ = some (.string s) := HR3.out.cell 0
    have a1 : w3.cell? ⟨w.heap.size, 1, none⟩ = some (.int .i64 (n : Int)) := HR3.out.cell 1
    have a2 : w3.cell? ⟨w.heap.size, 2, none⟩ = some (.int .i64 (f : Int)) := HR3.out.cell 2
    have a3 : w3.cell? ⟨w.heap.size, 3, none⟩ = some (.int .i64 (r : Int)) := HR3.out.cell 3
    have a4 : w3.cell? ⟨w.heap.size, 4, none⟩ = some (.int .i64 (c : Int)) := HR3.out.cell 4
    have a5 : w3.cell? ⟨w.heap.size, 5, none⟩ = some (.int .i64 (b : Int)) := HR3.out.cell 5
    go_wp2_with fail
    refine (l01Dec_any c _ C.out.1 C.out.2).mono ?_
    rintro e w4 ⟨rfl, hb4⟩
    have HB4 := hide (HB3.out.trans (hb4.mono HB3.out.size))
    have HR4 := hide (HR3.out.below hb4 HR3.out.lt)
    clear hb4 a0 a1 a2 a3 a4 a5
    have a0 : w4.cell? ⟨w.heap.size, 0, none⟩ = some (.string s) := HR4.out.cell 0
    have a1 : w4.cell? ⟨w.heap.size, 1, none⟩ = some (.int .i64 (n : Int)) := HR4.out.cell 1
    have a2 : w4.cell? ⟨w.heap.size, 2, none⟩ = some (.int .i64 (f : Int)) := HR4.out.cell 2
    have a3 : w4.cell? ⟨w.heap.size, 3, none⟩ = some (.int .i64 (r : Int)) := HR4.out.cell 3
    have a4 : w4.cell? ⟨w.heap.size, 4, none⟩ = some (.int .i64 (c : Int)) := HR4.out.cell 4
    have a5 : w4.cell? ⟨w.heap.size, 5, none⟩ = some (.int .i64 (b : Int)) := HR4.out.cell 5
    go_wp2_with fail
    refine (l01Dec_any b _ B.out.1 B.out.2).mono ?_
    rintro e w5 ⟨rfl, hb5⟩
    have HB5 := hide (HB4.out.trans (hb5.mono HB4.out.size))
    have HR5 := hide (HR4.out.below hb5 HR4.out.lt)
    clear hb5 a0 a1 a2 a3 a4 a5
    have a0 : w5.cell? ⟨w.heap.size, 0, none⟩ = some (.string s) := HR5.out.cell 0
    have a1 : w5.cell? ⟨w.heap.size, 1, none⟩ = some (.int .i64 (n : Int)) := HR5.out.cell 1
    have a2 : w5.cell? ⟨w.heap.size, 2, none⟩ = some (.int .i64 (f : Int)) := HR5.out.cell 2
    have a3 : w5.cell? ⟨w.heap.size, 3, none⟩ = some (.int .i64 (r : Int)) := HR5.out.cell 3
    have a4 : w5.cell? ⟨w.heap.size, 4, none⟩ = some (.int .i64 (c : Int)) := HR5.out.cell 4
    have a5 : w5.cell? ⟨w.heap.size, 5, none⟩ = some (.int .i64 (b : Int)) := HR5.out.cell 5
    generalize digs n = dn at *
    generalize digs f = df at *
    generalize digs r = dr at *
    generalize digs c = dc at *
    generalize digs b = db at *
    go_wp2
    go_ret
    exact ⟨ret_bytes (by rw [HE.out]; simp), HB5.out⟩
  · have HE := hide (show T = s.data.toList ++ ([91] ++ digs n ++ [93]) ++ [45] ++ digs f ++ ([40] ++ digs r ++ [41]) ++ ([46] ++ digs c) by rw [HT.out]; simp [pathL, optL, compL, hn, hr, hc, hb])
    have hnx : ((n : Int) != 1) = true := by simp; omega
    have hrx : ((r : Int) != 1) = true := by simp; omega
    have hcx : ((c : Int) != 1) = true := by simp; omega
    have hbx : ((b : Int) != 1) = false := by simp [hb]
    clear hn hr hc hb
    go_enter Tryd.func23, Tryd.ntmps23
    have a0 : W.cell? ⟨w.heap.size, 0, none⟩ = some (.string s) := HR.out.cell 0
    have a1 : W.cell? ⟨w.heap.size, 1, none⟩ = some (.int .i64 (n : Int)) := HR.out.cell 1
    have a2 : W.cell? ⟨w.heap.size, 2, none⟩ = some (.int .i64 (f : Int)) := HR.out.cell 2
    have a3 : W.cell? ⟨w.heap.size, 3, none⟩ = some (.int .i64 (r : Int)) := HR.out.cell 3
    have a4 : W.cell? ⟨w.heap.size, 4, none⟩ = some (.int .i64 (c : Int)) := HR.out.cell 4
    have a5 : W.cell? ⟨w.heap.size, 5, none⟩ = some (.int .i64 (b : Int)) := HR.out.cell 5
    go_wp2_with fail
    rw [← hW]
    clear hW
    refine (l01Dec_any n _ N.out.1 N.out.2).mono ?_
    rintro e w1 ⟨rfl, hb1⟩
    have HB1 := hide (HB.out.trans (hb1.mono HB.out.size))
    have HR1 := hide (HR.out.below hb1 HR.out.lt)
    clear hb1 a0 a1 a2 a3 a4 a5
    have a0 : w1.cell? ⟨w.heap.size, 0, none⟩ = some (.string s) := HR1.out.cell 0
    have a1 : w1.cell? ⟨w.heap.size, 1, none⟩ = some (.int .i64 (n : Int)) := HR1.out.cell 1
    have a2 : w1.cell? ⟨w.heap.size, 2, none⟩ = some (.int .i64 (f : Int)) := HR1.out.cell 2
    have a3 : w1.cell? ⟨w.heap.size, 3, none⟩ = some (.int .i64 (r : Int)) := HR1.out.cell 3
    have a4 : w1.cell? ⟨w.heap.size, 4, none⟩ = some (.int .i64 (c : Int)) := HR1.out.cell 4
    have a5 : w1.cell? ⟨w.heap.size, 5, none⟩ = some (.int .i64 (b : Int)) := HR1.out.cell 5
    go_wp2_with fail
    refine (l01Dec_any f _ F.out.1 F.out.2).mono ?_
    rintro e w2 ⟨rfl, hb2⟩
    have HB2 := hide (HB1.out.trans (hb2.mono HB1.out.size))
    have HR2 := hide (HR1.out.below hb2 HR1.out.lt)
    clear hb2 a0 a1 a2 a3 a4 a5
    have a0 : w2.cell? ⟨w.heap.size, 0, none⟩ = some (.string s) := HR2.out.cell 0
    have a1 : w2.cell? ⟨w.heap.size, 1, none⟩ = some (.int .i64 (n : Int)) := HR2.out.cell 1
    have a2 : w2.cell? ⟨w.heap.size, 2, none⟩ = some (.int .i64 (f : Int)) := HR2.out.cell 2
    have a3 : w2.cell? ⟨w.heap.size, 3, none⟩ = some (.int .i64 (r : Int)) := HR2.out.cell 3
    have a4 : w2.cell? ⟨w.heap.size, 4, none⟩ = some (.int .i64 (c : Int)) := HR2.out.cell 4
    have a5 : w2.cell? ⟨w.heap.size, 5, none⟩ = some (.int .i64 (b : Int)) := HR2.out.cell 5
    go_wp2_with fail
    refine (l01Dec_any r _ R.out.1 R.out.2).mono ?_
    rintro e w3 ⟨rfl, hb3⟩
    have HB3 := hide (HB2.out.trans (hb3.mono HB2.out.size))
    have HR3 := hide (HR2.out.below hb3 HR2.out.lt)
    clear hb3 a0 a1 a2 a3 a4 a5
    have a0 : w3.cell? ⟨w.heap.size, 0, none⟩ = some (.string s) := HR3.out.cell 0
    have a1 : w3.cell? ⟨w.heap.size, 1, none⟩ = some (.int .i64 (n : Int)) := HR3.out.cell 1
    have a2 : w3.cell? ⟨w.heap.size, 2, none⟩ = some (.int .i64 (f : Int)) := HR3.out.cell 2
    have a3 : w3.cell? ⟨w.heap.size, 3, none⟩ = some (.int .i64 (r : Int)) := HR3.out.cell 3
    have a4 : w3.cell? ⟨w.heap.size, 4, none⟩ = some (.int .i64 (c : Int)) := HR3.out.cell 4
    have a5 : w3.cell? ⟨w.heap.size, 5, none⟩ = some (.int .i64 (b : Int)) := HR3.out.cell 5
    go_wp2_with fail
    refine (l01Dec_any c _ C.out.1 C.out.2).mono ?_
    rintro e w4 ⟨rfl, hb4⟩
    have HB4 := hide (HB3.out.trans (hb4.mono HB3.out.size))
    have HR4 := hide (HR3.out.below hb4 HR3.out.lt)
    clear hb4 a0 a1 a2 a3 a4 a5
    have a0 : w4.cell? ⟨w.heap.size, 0, none⟩ = some (.string s) := HR4.out.cell 0
    have a1 : w4.cell? ⟨w.heap.size, 1, none⟩ = some (.int .i64 (n : Int)) := HR4.out.cell 1
    have a2 : w4.cell? ⟨w.heap.size, 2, none⟩ = some (.int .i64 (f : Int)) := HR4.out.cell 2
    have a3 : w4.cell? ⟨w.heap.size, 3, none⟩ = some (.int .i64 (r : Int)) := HR4.out.cell 3
    have a4 : w4.cell? ⟨w.heap.size, 4, none⟩ = some (.int .i64 (c : Int)) := HR4.out.cell 4
    have a5 : w4.cell? ⟨w.heap.size, 5, none⟩ = some (.int .i64 (b : Int)) := HR4.out.cell 5
    generalize digs n = dn at *
    generalize digs f = df at *
    generalize digs r = dr at *
    generalize digs c = dc at *
    generalize digs b = db at *
    go_wp2
    go_ret
    exact ⟨ret_bytes (by rw [HE.out]; simp), HB4.out⟩
  · have HE := hide (show T = s.data.toList ++ ([91] ++ digs n ++ [93]) ++ [45] ++ digs f ++ ([40] ++ digs r ++ [41]) ++ ([46] ++ digs c ++ [46] ++ digs b) by rw [HT.out]; simp [pathL, optL, compL, hn, hr, hc, hb])
    have hnx : ((n : Int) != 1) = true := by simp; omega
    have hrx : ((r : Int) != 1) = true := by simp; omega
    have hcx : ((c : Int) != 1) = true := by simp; omega
    have hbx : ((b : Int) != 1) = true := by simp; omega
    clear hn hr hc hb
    go_enter Tryd.func23, Tryd.ntmps23
    have a0 : W.cell? ⟨w.heap.size, 0, none⟩ = some (.string s) := HR.out.cell 0
    have a1 : W.cell? ⟨w.heap.size, 1, none⟩ = some (.int .i64 (n : Int)) := HR.out.cell 1
    have a2 : W.cell? ⟨w.heap.size, 2, none⟩ = some (.int .i64 (f : Int)) := HR.out.cell 2
    have a3 : W.cell? ⟨w.heap.size, 3, none⟩ = some (.int .i64 (r : Int)) := HR.out.cell 3
    have a4 : W.cell? ⟨w.heap.size, 4, none⟩ = some (.int .i64 (c : Int)) := HR.out.cell 4
    have a5 : W.cell? ⟨w.heap.size, 5, none⟩ = some (.int .i64 (b : Int)) := HR.out.cell 5
    go_wp2_with fail
    rw [← hW]
    clear hW
    refine (l01Dec_any n _ N.out.1 N.out.2).mono ?_
    rintro e w1 ⟨rfl, hb1⟩
    have HB1 := hide (HB.out.trans (hb1.mono HB.out.size))
    have HR1 := hide (HR.out.below hb1 HR.out.lt)
    clear hb1 a0 a1 a2 a3 a4 a5
    have a0 : w1.cell? ⟨w.heap.size, 0, none⟩ = some (.string s) := HR1.out.cell 0
    have a1 : w1.cell? ⟨w.heap.size, 1, none⟩ = some (.int .i64 (n : Int)) := HR1.out.cell 1
    have a2 : w1.cell? ⟨w.heap.size, 2, none⟩ = some (.int .i64 (f : Int)) := HR1.out.cell 2
    have a3 : w1.cell? ⟨w.heap.size, 3, none⟩ = some (.int .i64 (r : Int)) := HR1.out.cell 3
    have a4 : w1.cell? ⟨w.heap.size, 4, none⟩ = some (.int .i64 (c : Int)) := HR1.out.cell 4
    have a5 : w1.cell? ⟨w.heap.size, 5, none⟩ = some (.int .i64 (b : Int)) := HR1.out.cell 5
    go_wp2_with fail
    refine (l01Dec_any f _ F.out.1 F.out.2).mono ?_
    rintro e w2 ⟨rfl, hb2⟩
    have HB2 := hide (HB1.out.trans (hb2.mono HB1.out.size))
    have HR2 := hide (HR1.out.below hb2 HR1.out.lt)
    clear hb2 a0 a1 a2 a3 a4 a5
    have a0 : w2.cell? ⟨w.heap.size, 0, none⟩ = some (.string s) := HR2.out.cell 0
    have a1 : w2.cell? ⟨w.heap.size, 1, none⟩ = some (.int .i64 (n : Int)) := HR2.out.cell 1
    have a2 : w2.cell? ⟨w.heap.size, 2, none⟩ = some (.int .i64 (f : Int)) := HR2.out.cell 2
    have a3 : w2.cell? ⟨w.heap.size, 3, none⟩ = some (.int .i64 (r : Int)) := HR2.out.cell 3
    have a4 : w2.cell? ⟨w.heap.size, 4, none⟩ = some (.int .i64 (c : Int)) := HR2.out.cell 4
    have a5 : w2.cell? ⟨w.heap.size, 5, none⟩ = some (.int .i64 (b : Int)) := HR2.out.cell 5
    go_wp2_with fail
    refine (l01Dec_any r _ R.out.1 R.out.2).mono ?_
    rintro e w3 ⟨rfl, hb3⟩
    have HB3 := hide (HB2.out.trans (hb3.mono HB2.out.size))
    have HR3 := hide (HR2.out.below hb3 HR2.out.lt)
    clear hb3 a0 a1 a2 a3 a4 a5
    have a0 : w3.cell? ⟨w.heap.size, 0, none⟩ = some (.string s) := HR3.out.cell 0
    have a1 : w3.cell? ⟨w.heap.size, 1, none⟩ = some (.int .i64 (n : Int)) := HR3.out.cell 1
    have a2 : w3.cell? ⟨w.heap.size, 2, none⟩ = some (.int .i64 (f : Int)) := HR3.out.cell 2
    have a3 : w3.cell? ⟨w.heap.size, 3, none⟩ = some (.int .i64 (r : Int)) := HR3.out.cell 3
    have a4 : w3.cell? ⟨w.heap.size, 4, none⟩ = some (.int .i64 (c : Int)) := HR3.out.cell 4
    have a5 : w3.cell? ⟨w.heap.size, 5, none⟩ = some (.int .i64 (b : Int)) := HR3.out.cell 5
    go_wp2_with fail
    refine (l01Dec_any c _ C.out.1 C.out.2).mono ?_
    rintro e w4 ⟨rfl, hb4⟩
    have HB4 := hide (HB3.out.trans (hb4.mono HB3.out.size))
    have HR4 := hide (HR3.out.below hb4 HR3.out.lt)
    clear hb4 a0 a1 a2 a3 a4 a5
    have a0 : w4.cell? ⟨w.heap.size, 0, none⟩ = some (.string s) := HR4.out.cell 0
    have a1 : w4.cell? ⟨w.heap.size, 1, none⟩ = some (.int .i64 (n : Int)) := HR4.out.cell 1
    have a2 : w4.cell? ⟨w.heap.size, 2, none⟩ = some (.int .i64 (f : Int)) := HR4.out.cell 2
    have a3 : w4.cell? ⟨w.heap.size, 3, none⟩ = some (.int .i64 (r : Int)) := HR4.out.cell 3
    have a4 : w4.cell? ⟨w.heap.size, 4, none⟩ = some (.int .i64 (c : Int)) := HR4.out.cell 4
    have a5 : w4.cell? ⟨w.heap.size, 5, none⟩ = some (.int .i64 (b : Int)) := HR4.out.cell 5
    go_wp2_with fail
    refine (l01Dec_any b _ B.out.1 B.out.2).mono ?_
    rintro e w5 ⟨rfl, hb5⟩
    have HB5 := hide (HB4.out.trans (hb5.mono HB4.out.size))
    have HR5 := hide (HR4.out.below hb5 HR4.out.lt)
    clear hb5 a0 a1 a2 a3 a4 a5
    have a0 : w5.cell? ⟨w.heap.size, 0, none⟩ = some (.string s) := HR5.out.cell 0
    have a1 : w5.cell? ⟨w.heap.size, 1, none⟩ = some (.int .i64 (n : Int)) := HR5.out.cell 1
    have a2 : w5.cell? ⟨w.heap.size, 2, none⟩ = some (.int .i64 (f : Int)) := HR5.out.cell 2
    have a3 : w5.cell? ⟨w.heap.size, 3, none⟩ = some (.int .i64 (r : Int)) := HR5.out.cell 3
    have a4 : w5.cell? ⟨w.heap.size, 4, none⟩ = some (.int .i64 (c : Int)) := HR5.out.cell 4
    have a5 : w5.cell? ⟨w.heap.size, 5, none⟩ = some (.int .i64 (b : Int)) := HR5.out.cell 5
    generalize digs n = dn at *
    generalize digs f = df at *
    generalize digs r = dr at *
    generalize digs c = dc at *
    generalize digs b = db at *
    go_wp2
    go_ret
    exact ⟨ret_bytes (by rw [HE.out]; simp), HB5.out⟩
end Go.Proofs.YtjcbojgomcakeaaDoor
