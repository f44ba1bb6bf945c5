/- The marks that the laws put into memory that an answer owns: the text of a number, put into each place, and looked for again. -/
import Derived.Test.YtkmehbgepkilkaaGreatDoorXGMem
import Derived.Laws.IdiomStrings
import Derived.Deep.RegionWith
namespace Go.Proofs.YtkmehbgepkilkaaGreatDoor
open Go.RowKit

def oneByte (c : Int) : ByteArray := ⟨#[UInt8.ofNat c.toNat]⟩
def markTo : Nat → Nat → ByteArray → ByteArray
  | 0, _, out => out
  | f + 1, k, out => if k = 0 then out else markTo f (k / 10) (oneByte (48 + (k : Int) % 10) ++ out)
/-- The text that marks the number k. -/
def markOf (k : Nat) : ByteArray := if k = 0 then ⟨#[109, 48]⟩ else (⟨#[109]⟩ : ByteArray) ++ markTo k k ⟨#[]⟩

def marks (k n : Nat) : List ByteArray := (List.range n).map fun i => markOf (k + i)
end Go.Proofs.YtkmehbgepkilkaaGreatDoor

/- The laws' own helpers over lists of a number and a text each (what is pending): how much they take, a copy, are two alike. -/
namespace Go.Proofs.YtkmehbgepkilkaaGreatDoor
open Go.RowKit

theorem Tryz.infoPend : (Tryz.prog.info? 61).map (fun i => (i.zero, i.size, i.bytes)) = some (some (.agg #[.int .i64 0, .string ⟨#[]⟩]), 2, 24) := by kernel_rfl

end Go.Proofs.YtkmehbgepkilkaaGreatDoor

/- The laws' own helpers over disks: how much one takes, a copy, are two alike, marks put in and looked for again. -/
namespace Go.Proofs.YtkmehbgepkilkaaGreatDoor
open Go.RowKit

theorem bcell {W w1 : World} (hb : Below W.heap.size W w1) : (∀ b o, b < W.heap.size → w1.cell? ⟨b, o, none⟩ = W.cell? ⟨b, o, none⟩) ∧ (∀ b o, b < W.heap.size → w1.frozen? ⟨b, o, none⟩ = W.frozen? ⟨b, o, none⟩) :=
  ⟨fun b o h => hb.cell (p := ⟨b, o, none⟩) h, fun b o h => hb.frozen (p := ⟨b, o, none⟩) h⟩

/-- What a disk that is small enough for the laws is. -/
def Small (xs : List ByteArray) (ps : List (Int × ByteArray)) : Prop :=
  xs.length ≤ 1048576 ∧ (∀ x ∈ xs, x.size ≤ 1048576) ∧ ps.length ≤ 1048576 ∧ ∀ x ∈ ps, x.2.size ≤ 1048576

end Go.Proofs.YtkmehbgepkilkaaGreatDoor

/- A copy of a disk, made by the laws. -/
namespace Go.Proofs.YtkmehbgepkilkaaGreatDoor
open Go.RowKit

theorem leads_eq {g o n c x : Nat} (h : x ∈ leads (.slice (some ⟨g, o, none⟩) n c)) : x = g := by
  cases n with
  | zero => cases h
  | succ m => exact List.mem_singleton.1 h

end Go.Proofs.YtkmehbgepkilkaaGreatDoor

/- Are two disks alike; marks put into one, and looked for again. -/
namespace Go.Proofs.YtkmehbgepkilkaaGreatDoor
open Go.RowKit

end Go.Proofs.YtkmehbgepkilkaaGreatDoor

/- The same of what the disk's functions hand back: a disk, a text, a code. -/
namespace Go.Proofs.YtkmehbgepkilkaaGreatDoor
open Go.RowKit

end Go.Proofs.YtkmehbgepkilkaaGreatDoor
