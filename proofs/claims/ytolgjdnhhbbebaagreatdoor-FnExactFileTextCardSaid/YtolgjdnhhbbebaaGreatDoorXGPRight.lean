/- A Path: what is right of it, of the model and of the program. -/
import Derived.Test.YtolgjdnhhbbebaaGreatDoorXGFIdx
import Derived.Test.YtolgjdnhhbbebaaGreatDoorXGMem
import Derived.BigQuiet
import Derived.OrdersHeld
namespace Go.Proofs.YtolgjdnhhbbebaaGreatDoor
open Go.RowKit

def shiftB (s : ByteArray) : Int := if s.toList == [77, 83, 72] then 3 else 1
def placeB (n : Int) : Bool := decide (1 ≤ n) && decide (n ≤ 20)
structure PathM where
  seg : ByteArray
  nth : Int
  fld : Int
  rep : Int
  comp : Int
  sub : Int
def PathM.v (p : PathM) : Value := .agg #[.string p.seg, .int .i64 p.nth, .int .i64 p.fld, .int .i64 p.rep, .int .i64 p.comp, .int .i64 p.sub]
def PathM.cells (p : PathM) : List Value := [.string p.seg, .int .i64 p.nth, .int .i64 p.fld, .int .i64 p.rep, .int .i64 p.comp, .int .i64 p.sub]
def PathM.right (p : PathM) : Bool := name3 p.seg && placeB p.nth && (decide (shiftB p.seg ≤ p.fld) && decide (p.fld < shiftB p.seg + 30)) && placeB p.rep && placeB p.comp && placeB p.sub

end Go.Proofs.YtolgjdnhhbbebaaGreatDoor
/- The text of a Path: numbers written out, of the model. -/
namespace Go.Proofs.YtolgjdnhhbbebaaGreatDoor
open Go.RowKit
/-- A number below 100, written out; none at all for nought. -/
def digs (m : Nat) : List UInt8 := if m = 0 then [] else if m < 10 then [UInt8.ofNat (48 + m)] else [UInt8.ofNat (48 + m / 10), UInt8.ofNat (48 + m % 10)]
theorem digs_step : ∀ m : Nat, m < 100 → m ≠ 0 → digs m = digs (m / 10) ++ [UInt8.ofNat (48 + m % 10)] := by decide
theorem cat_lists (a b : List UInt8) : (⟨a.toArray⟩ : ByteArray) ++ (⟨b.toArray⟩ : ByteArray) = ⟨(a ++ b).toArray⟩ := by
  apply ByteArray.ext
  simp
theorem digs_len : ∀ m : Nat, m < 100 → (digs m).length ≤ 2 := by decide
theorem oneDigit (X : World) (m : Nat) : (convert 63 9 (.slice (some ⟨X.heap.size, 0, none⟩) 1 1)).run Tryz.prog (X.alloc (.cells #[.int .u8 (48 + (m : Int) % 10)] 5)) = .ok (.string ⟨#[UInt8.ofNat (48 + m % 10)]⟩) (X.alloc (.cells #[.int .u8 (48 + (m : Int) % 10)] 5)) := by
  have h := run_convert_bytes_back (P := Tryz.prog) (X.alloc (.cells #[.int .u8 (48 + (m : Int) % 10)] 5)) 63 9 5 ⟨X.heap.size, 0, none⟩ 1 [UInt8.ofNat (48 + m % 10)] Tryz.underlying63 Tryz.underlying5 Tryz.underlying9 (fun j hj => by
    obtain rfl : j = 0 := by simpa using hj
    have e : (((UInt8.ofNat (48 + m % 10)).toNat : Nat) : Int) = 48 + (m : Int) % 10 := by
      rw [UInt8.toNat_ofNat_of_lt' (show 48 + m % 10 < 256 by omega)]; omega
    have r := (row_new X [.int .u8 (48 + (m : Int) % 10)] 5).cell 0
    simp only [List.getElem_cons_zero, e]
    first | exact r | simp [Addr.add])
  exact h
set_option maxHeartbeats 2000000 in
set_option maxRecDepth 100000 in
theorem l01Dec_any (n : Nat) (w : World) (h0 : n ≠ 0) (h1 : n < 100) :
    Calls Tryz.prog 13 #[.int .i64 (n : Int)] w fun e w' => e = .returned (.string ⟨(digs n).toArray⟩) ∧ Below w.heap.size w w' := by
  have hz : ((n : Int) == 0) = false := by simp; omega
  have hneg : ¬ (n : Int) < 0 := by omega
  go_enter Tryz.func13, Tryz.ntmps13
  go_wp2_with fail
  go_loopw [0, 4] (fun a s wr => ∃ (X : World) (m : Nat) (acc : List UInt8), X = wr ∧ m < 100 ∧ a = .int .i64 (m : Int) ∧ s = .string ⟨acc.toArray⟩ ∧ Hid (digs n = digs m ++ acc) ∧ Hid (Below w.heap.size w X)) (fun a _ _ => (intOf a).toNat)
  case atStart => exact ⟨_, n, [], rfl, h1, rfl, rfl, hide (by simp), Below.refl _ _⟩
  case round =>
    obtain ⟨X, m, acc, rfl, hm, rfl, rfl, HD, HB⟩ := hrel
    by_cases hm0 : m = 0
    · subst hm0
      have HE := hide (show digs n = acc by rw [HD.out]; rfl)
      go_wp2
      go_ret
      exact ⟨by rw [HE.out]; rfl, HB.out⟩
    · have hmb : ((m : Int) != 0) = true := by simp; omega
      have hcv0 := oneDigit X m
      obtain ⟨b, hb⟩ : ∃ b, b = UInt8.ofNat (48 + m % 10) := ⟨_, rfl⟩
      rw [← hb] at hcv0
      have hcv := hcv0
      have hr0 : decide ((m : Int) % 10 < 0) = false := decide_eq_false (by omega)
      have hal : acc.length ≤ 2 := by have := digs_len n h1; rw [HD.out] at this; simp at this; omega
      have HD2 := hide (show digs n = digs (m / 10) ++ (b :: acc) by rw [HD.out, digs_step m hm hm0, hb]; simp)
      have HB2 := hide (HB.out.alloc HB.out.size (.cells #[.int .u8 (48 + (m : Int) % 10)] 5))
      have HS : Hid ((⟨#[b]⟩ : ByteArray) ++ (⟨acc.toArray⟩ : ByteArray) = ⟨(b :: acc).toArray⟩) := cat_lists [b] acc
      have HM0 := hide (show 0 < m by omega)
      clear hcv0 hb hm0
      go_wp2
      go_roundw
      case rel => exact ⟨_, m / 10, b :: acc, rfl, by omega, by go_num, by rw [HS.out], HD2, HB2⟩
      case measure => have := HM0.out; simp [intOf]; omega
/-- Of a first one nothing stands. -/
def optL (o : List UInt8) (n : Nat) (c : List UInt8) : List UInt8 := if n = 1 then [] else o ++ digs n ++ c
def compL (c b : Nat) : List UInt8 := if c = 1 ∧ b = 1 then [] else [46] ++ digs c ++ optL [46] b []
def pathL (s : ByteArray) (n f r c b : Nat) : List UInt8 := s.data.toList ++ optL [91] n [93] ++ [45] ++ digs f ++ optL [40] r [41] ++ compL c b
theorem of_bytes {a : ByteArray} {l : List UInt8} (h : a.data.toList = l) : a = ⟨l.toArray⟩ := by
  apply ByteArray.ext
  simp [← h]
theorem ret_bytes {a : ByteArray} {l : List UInt8} (h : a.data.toList = l) : Ending.returned (.string a) = Ending.returned (.string ⟨l.toArray⟩) := by rw [of_bytes h]

end Go.Proofs.YtolgjdnhhbbebaaGreatDoor
