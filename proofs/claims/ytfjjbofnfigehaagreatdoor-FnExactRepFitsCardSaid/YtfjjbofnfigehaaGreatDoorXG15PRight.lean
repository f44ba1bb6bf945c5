/- A Path: what is right of it, of the model and of the program. -/
import Derived.Test.YtfjjbofnfigehaaGreatDoorXG5VCap
import Derived.Test.YtfjjbofnfigehaaGreatDoorXG0Mem
import Derived.BigQuiet
import Derived.OrdersHeld
namespace Go.Proofs.YtfjjbofnfigehaaGreatDoor
open Go.RowKit

def shiftB (s : ByteArray) : Int := if s.toList == [77, 83, 72] then 3 else 1
def placeB (n : Int) : Bool := decide (1 ≤ n) && decide (n ≤ 20)
structure PathM where
  seg : ByteArray
  nth : Int
  fld : Int
  rep : Int
  comp : Int
  sub : Int
def PathM.v (p : PathM) : Value := .agg #[.string p.seg, .int .i64 p.nth, .int .i64 p.fld, .int .i64 p.rep, .int .i64 p.comp, .int .i64 p.sub]
def PathM.cells (p : PathM) : List Value := [.string p.seg, .int .i64 p.nth, .int .i64 p.fld, .int .i64 p.rep, .int .i64 p.comp, .int .i64 p.sub]
def PathM.right (p : PathM) : Bool := name3 p.seg && placeB p.nth && (decide (shiftB p.seg ≤ p.fld) && decide (p.fld < shiftB p.seg + 30)) && placeB p.rep && placeB p.comp && placeB p.sub

theorem l02Is_b (n lo hi : Int) (w : World) : Calls Tryz.prog 35 #[.int .i64 n, .int .i64 lo, .int .i64 hi] w fun e w' => e = .returned (.bool (decide (lo ≤ n) && decide (n ≤ hi))) ∧ w' = w := by
  by_cases h1 : lo ≤ n
  · by_cases h2 : n ≤ hi
    · go_enter Tryz.func35, Tryz.ntmps35
      go_wp2
      go_ret
      exact ⟨ret_boolF (by rw [decide_eq_true h1, decide_eq_true h2]; rfl), rfl⟩
    · go_enter Tryz.func35, Tryz.ntmps35
      go_wp2
      go_ret
      exact ⟨ret_boolF (by rw [decide_eq_false (by omega : ¬ n ≤ hi)]; first | done | rfl | simp), rfl⟩
  · go_enter Tryz.func35, Tryz.ntmps35
    go_wp2
    go_ret
    exact ⟨ret_boolF (by rw [decide_eq_false (by omega : ¬ lo ≤ n)]; rfl), rfl⟩
end Go.Proofs.YtfjjbofnfigehaaGreatDoor
/- The text of a Path: numbers written out, of the model. -/
namespace Go.Proofs.YtfjjbofnfigehaaGreatDoor
open Go.RowKit
/-- A number below 100, written out; none at all for nought. -/
def digs (m : Nat) : List UInt8 := if m = 0 then [] else if m < 10 then [UInt8.ofNat (48 + m)] else [UInt8.ofNat (48 + m / 10), UInt8.ofNat (48 + m % 10)]
theorem digs_step : ∀ m : Nat, m < 100 → m ≠ 0 → digs m = digs (m / 10) ++ [UInt8.ofNat (48 + m % 10)] := by decide
theorem cat_lists (a b : List UInt8) : (⟨a.toArray⟩ : ByteArray) ++ (⟨b.toArray⟩ : ByteArray) = ⟨(a ++ b).toArray⟩ := by
  apply ByteArray.ext
  simp
theorem digs_len : ∀ m : Nat, m < 100 → (digs m).length ≤ 2 := by decide
theorem oneDigit (X : World) (m : Nat) : (convert 131 9 (.slice (some ⟨X.heap.size, 0, none⟩) 1 1)).run Tryz.prog (X.alloc (.cells #[.int .u8 (48 + (m : Int) % 10)] 5)) = .ok (.string ⟨#[UInt8.ofNat (48 + m % 10)]⟩) (X.alloc (.cells #[.int .u8 (48 + (m : Int) % 10)] 5)) := by
  have h := run_convert_bytes_back (P := Tryz.prog) (X.alloc (.cells #[.int .u8 (48 + (m : Int) % 10)] 5)) 131 9 5 ⟨X.heap.size, 0, none⟩ 1 [UInt8.ofNat (48 + m % 10)] Tryz.underlying131 Tryz.underlying5 Tryz.underlying9 (fun j hj => by
    obtain rfl : j = 0 := by simpa using hj
    have e : (((UInt8.ofNat (48 + m % 10)).toNat : Nat) : Int) = 48 + (m : Int) % 10 := by
      rw [UInt8.toNat_ofNat_of_lt' (show 48 + m % 10 < 256 by omega)]; omega
    have r := (row_new X [.int .u8 (48 + (m : Int) % 10)] 5).cell 0
    simp only [List.getElem_cons_zero, e]
    first | exact r | simp [Addr.add])
  exact h
/-- Of a first one nothing stands. -/
def optL (o : List UInt8) (n : Nat) (c : List UInt8) : List UInt8 := if n = 1 then [] else o ++ digs n ++ c
def compL (c b : Nat) : List UInt8 := if c = 1 ∧ b = 1 then [] else [46] ++ digs c ++ optL [46] b []
def pathL (s : ByteArray) (n f r c b : Nat) : List UInt8 := s.data.toList ++ optL [91] n [93] ++ [45] ++ digs f ++ optL [40] r [41] ++ compL c b
theorem of_bytes {a : ByteArray} {l : List UInt8} (h : a.data.toList = l) : a = ⟨l.toArray⟩ := by
  apply ByteArray.ext
  simp [← h]
theorem ret_bytes {a : ByteArray} {l : List UInt8} (h : a.data.toList = l) : Ending.returned (.string a) = Ending.returned (.string ⟨l.toArray⟩) := by rw [of_bytes h]

end Go.Proofs.YtfjjbofnfigehaaGreatDoor
