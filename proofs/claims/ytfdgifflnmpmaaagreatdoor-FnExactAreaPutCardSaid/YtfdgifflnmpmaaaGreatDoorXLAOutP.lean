/- The law of AreaPut from the program's contracts. -/
import Derived.Test.YtfdgifflnmpmaaaGreatDoorXLAPut
import Derived.Test.YtfdgifflnmpmaaaGreatDoorXIAPut
import Derived.Test.YtfdgifflnmpmaaaGreatDoorXHead
namespace Go.Proofs.YtfdgifflnmpmaaaGreatDoor
open Go.RowKit

theorem runOut_right : ∀ (ss : List (Bool × Int × ByteArray)) (xs : List ByteArray) (ps : List (Int × ByteArray)), right xs ps = true → (runOut ss xs ps).c = 0 → right (runOut ss xs ps).xs (runOut ss xs ps).ps = true
  | [], xs, ps, h, _ => h
  | s :: r, xs, ps, h, hc => by
    rw [runOut] at hc ⊢
    split
    · rename_i h0
      rw [if_pos h0] at hc
      exact runOut_right r _ _ (stepOut_right h h0) hc
    · rename_i h0
      rw [if_neg h0] at hc
      exact absurd hc h0
theorem putOut_len {xs : List ByteArray} {ps : List (Int × ByteArray)} (d : ByteArray) (a : Int) : (putOut xs ps d a).xs.length ≤ 1048576 ∧ (putOut xs ps d a).ps.length ≤ 1048576 := by
  unfold putOut
  split
  · exact ⟨by simp [aill], by simp [aill]⟩
  · split
    · exact ⟨by simp [aill], by simp [aill]⟩
    · rename_i hok
      split
      · exact ⟨by simp [aill], by simp [aill]⟩
      · split
        · exact ⟨by simp [aill], by simp [aill]⟩
        · split
          · rename_i hc
            have := right_len (runOut_right _ _ _ (by simpa using hok) hc)
            exact ⟨by show (runOut _ _ _).xs.length ≤ _; omega, by show (runOut _ _ _).ps.length ≤ _; omega⟩
          · exact ⟨by simp [aill], by simp [aill]⟩
set_option maxHeartbeats 2000000 in
theorem areaPutLaw_long (w : World) (a : Int) (d : ByteArray) (hd : 1048576 < d.size) (hm : d.size ≤ maxLen) (vs vp : Value) :
    Calls Tryz.prog 4 #[.agg #[vs, vp], .string d, .int .i64 a] w fun e w' => e = .returned (.bool true) ∧ Below w.heap.size w w' := by
  have HB0 := hide (below_new w (.cells #[vs, vp] 25))
  unfold maxLen at hm
  have t : (1048576 : Int) < (d.size : Int) := by omega
  go_enter Tryz.func4, Tryz.ntmps4
  go_wp2
  go_ret
  exact ⟨rfl, HB0.out⟩
theorem areaPutLaw (aF aR aU : Addr) (w : World) (hS : Sents aF aR aU w) (hG : St3.Laid w) (d : ByteArray) (hm : d.size ≤ maxLen) (a : Int) (vs vp : Value) (xs : List ByteArray) (ps : List (Int × ByteArray)) (hr : Reads w vs xs) (hp : ReadsP w vp ps) :
    Calls Tryz.prog 4 #[.agg #[vs, vp], .string d, .int .i64 a] w fun e w' => e = .returned (.bool true) ∧ Below w.heap.size w w' := by
  by_cases hd : 1048576 < d.size
  · exact areaPutLaw_long w a d hd hm vs vp
  · exact lawAPut w d a (by omega) (fun vs vp xs ps w' hb h1 h2 h3 h4 => implAPut_any vs vp xs ps d a aF aR aU w' h1 h2 (by omega) h3 h4 (Stab.go hb hS)
      (fun hok vs vp w'' hb' hr hp => readArea_any vs vp xs ps w'' hr hp hok (Stab.go hb' (Stab.go hb hG)))) vs vp xs ps hr hp (fun _ => putOut_len d a)
end Go.Proofs.YtfdgifflnmpmaaaGreatDoor
