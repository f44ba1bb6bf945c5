/- What stands within what, behind the program's interface: inner, partEmpty, partLimits, leaveOutEnd. -/
import Derived.Test.YtholbhjfmfanbaaGreatXG7FText
namespace Go.Proofs.YtholbhjfmfanbaaGreat
open Go.RowKit

/-- A part that holds a list. -/
def RI {α : Type} (T : TypeId) (R : World → Value → α → Prop) (w : World) (v : Value) (x : α) : Prop := ∃ u, v = .iface T (.agg #[u]) ∧ R w u x
def RIs (_ : World) (v : Value) (x : ByteArray) : Prop := v = .iface 160 (.string x) ∧ x.size ≤ maxLen
instance {α : Type} (B : Nat) (T : TypeId) (R : World → Value → α → Prop) [Lasts B R] : Lasts B (RI T R) := ⟨fun hs ⟨u, e, h⟩ => ⟨u, e, Lasts.go hs h⟩⟩
instance (B : Nat) : Lasts B RIs := ⟨fun _ h => h⟩
abbrev PSub : World → Value → ByteArray → Prop := RIs
abbrev PComp : World → Value → List ByteArray → Prop := RI 138 (RComp 0)
abbrev PRep : World → Value → List (List ByteArray) → Prop := RI 126 (RRep 0)
abbrev PField : World → Value → List (List (List ByteArray)) → Prop := RI 108 (RFld 0)

theorem Tryz.infoPart : (Tryz.prog.info? 159).map (fun i => (i.zero, i.size, i.bytes)) = some (some .nilIface, 1, 16) := by kernel_rfl
def lenOf : Value → Nat
  | .slice _ n _ => n
  | _ => 0
theorem set_snocP (vs Z : List Value) (k n : Nat) (u : Value) (h : vs.length = k) (hk : k < n) (hZ : Z.length = n) : (vs ++ Z.drop k).set k u = (vs ++ [u]) ++ Z.drop (k + 1) := by
  rw [List.set_append_right _ _ (by omega), h, Nat.sub_self, List.drop_eq_getElem_cons (by omega : k < Z.length), List.set_cons_zero, List.append_assoc]
  rfl
theorem Tryz.innerField (v : Value) (w : World) : (Go.method 312 108 v "loop.example/g00416/impl.inner").run Tryz.prog w = .ok (179, v) w := by kernel_rfl
theorem Tryz.asFieldField (v : Value) (xT : TypeId) (w : World) : (Instr.typeAssert (.iface 108 v) xT 108 true).run Tryz.prog w = .ok (.tuple #[v, .bool true]) w := by kernel_rfl
theorem Tryz.asFieldRep (v : Value) (xT : TypeId) (w : World) : (Instr.typeAssert (.iface 108 v) xT 126 true).run Tryz.prog w = .ok (.tuple #[.agg #[.slice none 0 0], .bool false]) w := by kernel_rfl
theorem Tryz.asFieldComp (v : Value) (xT : TypeId) (w : World) : (Instr.typeAssert (.iface 108 v) xT 138 true).run Tryz.prog w = .ok (.tuple #[.agg #[.slice none 0 0], .bool false]) w := by kernel_rfl
theorem Tryz.asFieldsubPart (v : Value) (xT : TypeId) (w : World) : (Instr.typeAssert (.iface 108 v) xT 160 true).run Tryz.prog w = .ok (.tuple #[.string ⟨#[]⟩, .bool false]) w := by kernel_rfl
theorem Tryz.innerRep (v : Value) (w : World) : (Go.method 312 126 v "loop.example/g00416/impl.inner").run Tryz.prog w = .ok (181, v) w := by kernel_rfl
theorem Tryz.asRepField (v : Value) (xT : TypeId) (w : World) : (Instr.typeAssert (.iface 126 v) xT 108 true).run Tryz.prog w = .ok (.tuple #[.agg #[.slice none 0 0], .bool false]) w := by kernel_rfl
theorem Tryz.asRepRep (v : Value) (xT : TypeId) (w : World) : (Instr.typeAssert (.iface 126 v) xT 126 true).run Tryz.prog w = .ok (.tuple #[v, .bool true]) w := by kernel_rfl
theorem Tryz.asRepComp (v : Value) (xT : TypeId) (w : World) : (Instr.typeAssert (.iface 126 v) xT 138 true).run Tryz.prog w = .ok (.tuple #[.agg #[.slice none 0 0], .bool false]) w := by kernel_rfl
theorem Tryz.asRepsubPart (v : Value) (xT : TypeId) (w : World) : (Instr.typeAssert (.iface 126 v) xT 160 true).run Tryz.prog w = .ok (.tuple #[.string ⟨#[]⟩, .bool false]) w := by kernel_rfl
theorem Tryz.innerComp (v : Value) (w : World) : (Go.method 312 138 v "loop.example/g00416/impl.inner").run Tryz.prog w = .ok (183, v) w := by kernel_rfl
theorem Tryz.asCompField (v : Value) (xT : TypeId) (w : World) : (Instr.typeAssert (.iface 138 v) xT 108 true).run Tryz.prog w = .ok (.tuple #[.agg #[.slice none 0 0], .bool false]) w := by kernel_rfl
theorem Tryz.asCompRep (v : Value) (xT : TypeId) (w : World) : (Instr.typeAssert (.iface 138 v) xT 126 true).run Tryz.prog w = .ok (.tuple #[.agg #[.slice none 0 0], .bool false]) w := by kernel_rfl
theorem Tryz.asCompComp (v : Value) (xT : TypeId) (w : World) : (Instr.typeAssert (.iface 138 v) xT 138 true).run Tryz.prog w = .ok (.tuple #[v, .bool true]) w := by kernel_rfl
theorem Tryz.asCompsubPart (v : Value) (xT : TypeId) (w : World) : (Instr.typeAssert (.iface 138 v) xT 160 true).run Tryz.prog w = .ok (.tuple #[.string ⟨#[]⟩, .bool false]) w := by kernel_rfl
theorem Tryz.innersubPart (v : Value) (w : World) : (Go.method 312 160 v "loop.example/g00416/impl.inner").run Tryz.prog w = .ok (186, v) w := by kernel_rfl
theorem Tryz.assubPartField (v : Value) (xT : TypeId) (w : World) : (Instr.typeAssert (.iface 160 v) xT 108 true).run Tryz.prog w = .ok (.tuple #[.agg #[.slice none 0 0], .bool false]) w := by kernel_rfl
theorem Tryz.assubPartRep (v : Value) (xT : TypeId) (w : World) : (Instr.typeAssert (.iface 160 v) xT 126 true).run Tryz.prog w = .ok (.tuple #[.agg #[.slice none 0 0], .bool false]) w := by kernel_rfl
theorem Tryz.assubPartComp (v : Value) (xT : TypeId) (w : World) : (Instr.typeAssert (.iface 160 v) xT 138 true).run Tryz.prog w = .ok (.tuple #[.agg #[.slice none 0 0], .bool false]) w := by kernel_rfl
theorem Tryz.assubPartsubPart (v : Value) (xT : TypeId) (w : World) : (Instr.typeAssert (.iface 160 v) xT 160 true).run Tryz.prog w = .ok (.tuple #[v, .bool true]) w := by kernel_rfl

set_option maxHeartbeats 400000 in
set_option maxRecDepth 100000 in
theorem limitsField (v : Value) (w : World) : Calls Tryz.prog 139 #[.iface 108 v] w fun e w' => e = .returned (.tuple #[.int .i64 5, .int .i64 2]) ∧ w' = w := by
  have a1 := Tryz.asFieldField
  have a2 := Tryz.asFieldRep
  have a3 := Tryz.asFieldComp
  go_enter Tryz.func139, Tryz.ntmps139
  go_wp2
  exact bodyPost_ret (v := .tuple #[.int .i64 5, .int .i64 2]) (by simp [results, Tryz.results139, go_sem]) rfl ⟨rfl, rfl⟩

set_option maxHeartbeats 400000 in
set_option maxRecDepth 100000 in
theorem limitsRep (v : Value) (w : World) : Calls Tryz.prog 139 #[.iface 126 v] w fun e w' => e = .returned (.tuple #[.int .i64 10, .int .i64 1]) ∧ w' = w := by
  have a1 := Tryz.asRepField
  have a2 := Tryz.asRepRep
  have a3 := Tryz.asRepComp
  go_enter Tryz.func139, Tryz.ntmps139
  go_wp2
  exact bodyPost_ret (v := .tuple #[.int .i64 10, .int .i64 1]) (by simp [results, Tryz.results139, go_sem]) rfl ⟨rfl, rfl⟩

set_option maxHeartbeats 400000 in
set_option maxRecDepth 100000 in
theorem limitsComp (v : Value) (w : World) : Calls Tryz.prog 139 #[.iface 138 v] w fun e w' => e = .returned (.tuple #[.int .i64 5, .int .i64 4]) ∧ w' = w := by
  have a1 := Tryz.asCompField
  have a2 := Tryz.asCompRep
  have a3 := Tryz.asCompComp
  go_enter Tryz.func139, Tryz.ntmps139
  go_wp2
  exact bodyPost_ret (v := .tuple #[.int .i64 5, .int .i64 4]) (by simp [results, Tryz.results139, go_sem]) rfl ⟨rfl, rfl⟩

set_option maxHeartbeats 2000000 in
theorem partsOfRep_row {R : World → Value → List (List ByteArray) → Prop} [Lasts 0 R] (hsl : ∀ w u x, R w u x → ∃ p c, u = .slice p x.length c) (v : Value) (xs : List (List (List ByteArray))) (w : World) (hn : xs.length ≤ 1048576) (hr : RL 0 R w v xs) :
    Calls Tryz.prog 180 #[v] w fun e w' => ∃ g vs, e = .returned (.slice (some ⟨g, 0, none⟩) xs.length xs.length) ∧ Row w' g 159 vs ∧ w.heap.size ≤ g ∧ vs.length = xs.length ∧ (∀ j (h1 : j < vs.length) (h2 : j < xs.length), RI 126 R w' vs[j] xs[j]) ∧ Below w.heap.size w w' := by
  obtain ⟨i0, hi, hz0, hz1, hz2⟩ := info_parts Tryz.infoPart
  obtain ⟨p, cap, rfl, h1, h2, h4⟩ := hr
  have H4 := hide h4
  have HSL := hide hsl
  clear h4 hsl
  go_enter Tryz.func180, Tryz.ntmps180
  go_wp2_with (at_make; refine wpList_make_full _ rfl _ _ 161 rfl w.heap.size 159 i0 .nilIface 1 Tryz.underlying161 hi hz0 hz1 _ _ _ _ xs.length rfl rfl rfl rfl ?b2 ?b3 (Nat.le_refl _) ?_)
  case b2 => rw [hz2]; omega
  case b3 => unfold maxLen; omega
  intro w1 hown hgrow
  obtain ⟨Z, hZ, hZl⟩ := own_row hown
  rw [Nat.mul_one] at hZl
  have hb1 : Below w.heap.size w w1 := (Below.refl _ _).grown hgrow (Nat.le_refl _) (by simp)
  have HZ := hide hZ
  have HB := hide hb1
  have HL := hide hZl
  clear hZ hown hgrow hb1 hZl
  go_wp2_with fail
  go_loopw [11] (fun i wr => ∃ (X : World) (k : Nat) (vs : List Value), X = wr ∧ k ≤ xs.length ∧ i = .int .i64 k ∧ Hid (Row X w.heap.size 159 (vs ++ Z.drop k)) ∧ Hid (Below w.heap.size w X) ∧ Hid (vs.length = k) ∧ Hid (∀ j (h1 : j < vs.length) (h2 : j < xs.length), RI 126 R w vs[j] xs[j])) (fun i _ => xs.length - (intOf i).toNat)
  case atStart => exact ⟨_, 0, [], rfl, Nat.zero_le _, rfl, hide (by simpa using HZ.out), HB, hide rfl, hide (fun j h1 _ => absurd h1 (by simp))⟩
  case round =>
    obtain ⟨X, k, vs, rfl, hk, rfl, HRow, HBel, HLn, HEl⟩ := hrel
    by_cases hlt : k < xs.length
    · obtain ⟨g, off, hp, hg, _, hc⟩ := H4.out (by omega)
      subst hp
      obtain ⟨u, hu, hru⟩ := hc k hlt
      have hck : X.cell? ⟨g, off + k, none⟩ = some u := by rw [HBel.out.cell (p := ⟨g, off + k, none⟩) hg]; exact hu
      have HRU := hide hru
      obtain ⟨up, uc, rfl⟩ := HSL.out _ _ _ hru
      have hlt0 := HRow.out.lt
      clear hu hru hc
      have hX1 : Below X.heap.size X (X.alloc (.cells #[.slice up (xs[k]'hlt).length uc] 126)) := (Below.refl _ _).alloc (Nat.le_refl _) _
      have row2 := HRow.out.below hX1 hlt0
      have hll : (vs ++ Z.drop k).length = xs.length := by rw [List.length_append, HLn.out, List.length_drop, HL.out]; omega
      obtain ⟨z, hz⟩ := row2.some k (by rw [hll]; exact hlt)
      have hf := row2.free k
      have hnext := row2.set (j := k) (.iface 126 (.agg #[.slice up (xs[k]'hlt).length uc]))
      rw [set_snocP vs Z k xs.length _ HLn.out hlt HL.out] at hnext
      clear hnext
      have hnext := HRow.out.set (j := k) (.iface 126 (.agg #[.slice up (xs[k]'hlt).length uc]))
      rw [set_snocP vs Z k xs.length _ HLn.out hlt HL.out] at hnext
      have HN := hide (hnext.alloc (.cells #[.slice up (xs[k]'hlt).length uc] 126))
      have HMB := hide ((HBel.out.setCell (p := ⟨w.heap.size, k, none⟩) (Nat.le_refl _) (.iface 126 (.agg #[.slice up (xs[k]'hlt).length uc]))).alloc (by have := HBel.out.size; simpa [World.setCell] using this) (.cells #[.slice up (xs[k]'hlt).length uc] 126))
      have HLn2 : Hid ((vs ++ [Value.iface 126 (.agg #[.slice up (xs[k]'hlt).length uc])]).length = k + 1) := by rw [List.length_append, HLn.out]; exact rfl
      have HEl2 : Hid (∀ j (h1 : j < (vs ++ [Value.iface 126 (.agg #[.slice up (xs[k]'hlt).length uc])]).length) (h2 : j < xs.length), RI 126 R w (vs ++ [Value.iface 126 (.agg #[.slice up (xs[k]'hlt).length uc])])[j] xs[j]) := by
        intro j h1 h2
        rw [HLn2.out] at h1
        by_cases hj : j < k
        · rw [List.getElem_append_left (by rw [HLn.out]; exact hj)]
          exact HEl.out j (by rw [HLn.out]; exact hj) h2
        · have e : j = k := by omega
          subst e
          rw [List.getElem_append_right (by rw [HLn.out]; exact Nat.le_refl _)]
          simp only [HLn.out, Nat.sub_self, List.getElem_cons_zero]
          exact ⟨_, rfl, HRU.out⟩
      clear hnext row2 hll hX1
      go_wp2
      go_roundw
      case rel => exact ⟨_, k + 1, _, rfl, by omega, by go_num, HN, HMB, HLn2, HEl2⟩
      case measure => simp [intOf]; omega
    · have HE : Hid (Row X w.heap.size 159 vs) := by
        have := HRow.out
        rw [List.drop_eq_nil_of_le (by rw [HL.out]; omega), List.append_nil] at this
        exact this
      have HLn3 : Hid (vs.length = xs.length) := by rw [HLn.out]; exact (show k = xs.length by omega)
      go_wp2
      go_ret
      exact ⟨_, vs, rfl, HE.out, Nat.le_refl _, HLn3.out, fun j h1 h2 => Lasts.go (B := 0) (Same.of HBel.out) (HEl.out j h1 h2), HBel.out⟩

set_option maxHeartbeats 1000000 in
theorem innerField_row {R : World → Value → List (List ByteArray) → Prop} [Lasts 0 R] (hsl : ∀ w u x, R w u x → ∃ p c, u = .slice p x.length c) (u : Value) (xs : List (List (List ByteArray))) (w : World) (hn : xs.length ≤ 1048576) (hr : RL 0 R w u xs) :
    Calls Tryz.prog 179 #[.agg #[u]] w fun e w' => ∃ g vs, e = .returned (.slice (some ⟨g, 0, none⟩) xs.length xs.length) ∧ Row w' g 159 vs ∧ w.heap.size ≤ g ∧ vs.length = xs.length ∧ (∀ j (h1 : j < vs.length) (h2 : j < xs.length), RI 126 R w' vs[j] xs[j]) ∧ Below w.heap.size w w' := by
  have HR := hide hr
  obtain ⟨p, c, rfl⟩ := hr.isSlice
  clear hr
  go_enter Tryz.func179, Tryz.ntmps179
  go_wp2_with fail
  refine (partsOfRep_row hsl _ xs _ hn (HR.out.below ((Below.refl _ _).alloc (Nat.le_refl _) _))).mono ?_
  rintro e w1 ⟨g1, vs1, rfl, hrow1, hg1, hl1, hel1, hb1⟩
  have HB := hide (((Below.refl w.heap.size w).alloc (Nat.le_refl _) (.cells #[.slice p xs.length c] 108)).trans (hb1.mono (by simp)))
  have HR1 := hide hrow1
  have HG1 : Hid (w.heap.size ≤ g1) := by simp at hg1; exact (by omega : w.heap.size ≤ g1)
  have HL1 := hide hl1
  have HEL := hide hel1
  clear hb1 hrow1 hl1 hel1 hg1
  go_wp2
  go_ret
  exact ⟨_, vs1, rfl, HR1.out, HG1.out, HL1.out, HEL.out, HB.out⟩

theorem innerField_any (u : Value) (xs : List (List (List ByteArray))) (w : World) (hn : xs.length ≤ 1048576) (hr : RL 0 (RRep 0) w u xs) :
    Calls Tryz.prog 179 #[.agg #[u]] w fun e w' => ∃ p c, e = .returned (.slice p xs.length c) ∧ RL 0 PRep w' (.slice p xs.length c) xs ∧ Below w.heap.size w w' := by
  refine (innerField_row (fun _ _ _ h => RL.isSlice h) u xs w hn hr).mono ?_
  rintro e w' ⟨g, vs, rfl, hrow, _, hl, hel, hb⟩
  exact ⟨_, _, rfl, rl_row hrow hl (by unfold maxLen; omega) (Nat.zero_le _) (fun i hi => hel i (by omega) hi), hb⟩

set_option maxHeartbeats 2000000 in
theorem partsOfComp_row {R : World → Value → List ByteArray → Prop} [Lasts 0 R] (hsl : ∀ w u x, R w u x → ∃ p c, u = .slice p x.length c) (v : Value) (xs : List (List ByteArray)) (w : World) (hn : xs.length ≤ 1048576) (hr : RL 0 R w v xs) :
    Calls Tryz.prog 182 #[v] w fun e w' => ∃ g vs, e = .returned (.slice (some ⟨g, 0, none⟩) xs.length xs.length) ∧ Row w' g 159 vs ∧ w.heap.size ≤ g ∧ vs.length = xs.length ∧ (∀ j (h1 : j < vs.length) (h2 : j < xs.length), RI 138 R w' vs[j] xs[j]) ∧ Below w.heap.size w w' := by
  obtain ⟨i0, hi, hz0, hz1, hz2⟩ := info_parts Tryz.infoPart
  obtain ⟨p, cap, rfl, h1, h2, h4⟩ := hr
  have H4 := hide h4
  have HSL := hide hsl
  clear h4 hsl
  go_enter Tryz.func182, Tryz.ntmps182
  go_wp2_with (at_make; refine wpList_make_full _ rfl _ _ 161 rfl w.heap.size 159 i0 .nilIface 1 Tryz.underlying161 hi hz0 hz1 _ _ _ _ xs.length rfl rfl rfl rfl ?b2 ?b3 (Nat.le_refl _) ?_)
  case b2 => rw [hz2]; omega
  case b3 => unfold maxLen; omega
  intro w1 hown hgrow
  obtain ⟨Z, hZ, hZl⟩ := own_row hown
  rw [Nat.mul_one] at hZl
  have hb1 : Below w.heap.size w w1 := (Below.refl _ _).grown hgrow (Nat.le_refl _) (by simp)
  have HZ := hide hZ
  have HB := hide hb1
  have HL := hide hZl
  clear hZ hown hgrow hb1 hZl
  go_wp2_with fail
  go_loopw [11] (fun i wr => ∃ (X : World) (k : Nat) (vs : List Value), X = wr ∧ k ≤ xs.length ∧ i = .int .i64 k ∧ Hid (Row X w.heap.size 159 (vs ++ Z.drop k)) ∧ Hid (Below w.heap.size w X) ∧ Hid (vs.length = k) ∧ Hid (∀ j (h1 : j < vs.length) (h2 : j < xs.length), RI 138 R w vs[j] xs[j])) (fun i _ => xs.length - (intOf i).toNat)
  case atStart => exact ⟨_, 0, [], rfl, Nat.zero_le _, rfl, hide (by simpa using HZ.out), HB, hide rfl, hide (fun j h1 _ => absurd h1 (by simp))⟩
  case round =>
    obtain ⟨X, k, vs, rfl, hk, rfl, HRow, HBel, HLn, HEl⟩ := hrel
    by_cases hlt : k < xs.length
    · obtain ⟨g, off, hp, hg, _, hc⟩ := H4.out (by omega)
      subst hp
      obtain ⟨u, hu, hru⟩ := hc k hlt
      have hck : X.cell? ⟨g, off + k, none⟩ = some u := by rw [HBel.out.cell (p := ⟨g, off + k, none⟩) hg]; exact hu
      have HRU := hide hru
      obtain ⟨up, uc, rfl⟩ := HSL.out _ _ _ hru
      have hlt0 := HRow.out.lt
      clear hu hru hc
      have hX1 : Below X.heap.size X (X.alloc (.cells #[.slice up (xs[k]'hlt).length uc] 138)) := (Below.refl _ _).alloc (Nat.le_refl _) _
      have row2 := HRow.out.below hX1 hlt0
      have hll : (vs ++ Z.drop k).length = xs.length := by rw [List.length_append, HLn.out, List.length_drop, HL.out]; omega
      obtain ⟨z, hz⟩ := row2.some k (by rw [hll]; exact hlt)
      have hf := row2.free k
      have hnext := row2.set (j := k) (.iface 138 (.agg #[.slice up (xs[k]'hlt).length uc]))
      rw [set_snocP vs Z k xs.length _ HLn.out hlt HL.out] at hnext
      clear hnext
      have hnext := HRow.out.set (j := k) (.iface 138 (.agg #[.slice up (xs[k]'hlt).length uc]))
      rw [set_snocP vs Z k xs.length _ HLn.out hlt HL.out] at hnext
      have HN := hide (hnext.alloc (.cells #[.slice up (xs[k]'hlt).length uc] 138))
      have HMB := hide ((HBel.out.setCell (p := ⟨w.heap.size, k, none⟩) (Nat.le_refl _) (.iface 138 (.agg #[.slice up (xs[k]'hlt).length uc]))).alloc (by have := HBel.out.size; simpa [World.setCell] using this) (.cells #[.slice up (xs[k]'hlt).length uc] 138))
      have HLn2 : Hid ((vs ++ [Value.iface 138 (.agg #[.slice up (xs[k]'hlt).length uc])]).length = k + 1) := by rw [List.length_append, HLn.out]; exact rfl
      have HEl2 : Hid (∀ j (h1 : j < (vs ++ [Value.iface 138 (.agg #[.slice up (xs[k]'hlt).length uc])]).length) (h2 : j < xs.length), RI 138 R w (vs ++ [Value.iface 138 (.agg #[.slice up (xs[k]'hlt).length uc])])[j] xs[j]) := by
        intro j h1 h2
        rw [HLn2.out] at h1
        by_cases hj : j < k
        · rw [List.getElem_append_left (by rw [HLn.out]; exact hj)]
          exact HEl.out j (by rw [HLn.out]; exact hj) h2
        · have e : j = k := by omega
          subst e
          rw [List.getElem_append_right (by rw [HLn.out]; exact Nat.le_refl _)]
          simp only [HLn.out, Nat.sub_self, List.getElem_cons_zero]
          exact ⟨_, rfl, HRU.out⟩
      clear hnext row2 hll hX1
      go_wp2
      go_roundw
      case rel => exact ⟨_, k + 1, _, rfl, by omega, by go_num, HN, HMB, HLn2, HEl2⟩
      case measure => simp [intOf]; omega
    · have HE : Hid (Row X w.heap.size 159 vs) := by
        have := HRow.out
        rw [List.drop_eq_nil_of_le (by rw [HL.out]; omega), List.append_nil] at this
        exact this
      have HLn3 : Hid (vs.length = xs.length) := by rw [HLn.out]; exact (show k = xs.length by omega)
      go_wp2
      go_ret
      exact ⟨_, vs, rfl, HE.out, Nat.le_refl _, HLn3.out, fun j h1 h2 => Lasts.go (B := 0) (Same.of HBel.out) (HEl.out j h1 h2), HBel.out⟩

set_option maxHeartbeats 1000000 in
theorem innerRep_row {R : World → Value → List ByteArray → Prop} [Lasts 0 R] (hsl : ∀ w u x, R w u x → ∃ p c, u = .slice p x.length c) (u : Value) (xs : List (List ByteArray)) (w : World) (hn : xs.length ≤ 1048576) (hr : RL 0 R w u xs) :
    Calls Tryz.prog 181 #[.agg #[u]] w fun e w' => ∃ g vs, e = .returned (.slice (some ⟨g, 0, none⟩) xs.length xs.length) ∧ Row w' g 159 vs ∧ w.heap.size ≤ g ∧ vs.length = xs.length ∧ (∀ j (h1 : j < vs.length) (h2 : j < xs.length), RI 138 R w' vs[j] xs[j]) ∧ Below w.heap.size w w' := by
  have HR := hide hr
  obtain ⟨p, c, rfl⟩ := hr.isSlice
  clear hr
  go_enter Tryz.func181, Tryz.ntmps181
  go_wp2_with fail
  refine (partsOfComp_row hsl _ xs _ hn (HR.out.below ((Below.refl _ _).alloc (Nat.le_refl _) _))).mono ?_
  rintro e w1 ⟨g1, vs1, rfl, hrow1, hg1, hl1, hel1, hb1⟩
  have HB := hide (((Below.refl w.heap.size w).alloc (Nat.le_refl _) (.cells #[.slice p xs.length c] 126)).trans (hb1.mono (by simp)))
  have HR1 := hide hrow1
  have HG1 : Hid (w.heap.size ≤ g1) := by simp at hg1; exact (by omega : w.heap.size ≤ g1)
  have HL1 := hide hl1
  have HEL := hide hel1
  clear hb1 hrow1 hl1 hel1 hg1
  go_wp2
  go_ret
  exact ⟨_, vs1, rfl, HR1.out, HG1.out, HL1.out, HEL.out, HB.out⟩

theorem innerRep_any (u : Value) (xs : List (List ByteArray)) (w : World) (hn : xs.length ≤ 1048576) (hr : RL 0 (RComp 0) w u xs) :
    Calls Tryz.prog 181 #[.agg #[u]] w fun e w' => ∃ p c, e = .returned (.slice p xs.length c) ∧ RL 0 PComp w' (.slice p xs.length c) xs ∧ Below w.heap.size w w' := by
  refine (innerRep_row (fun _ _ _ h => RL.isSlice h) u xs w hn hr).mono ?_
  rintro e w' ⟨g, vs, rfl, hrow, _, hl, hel, hb⟩
  exact ⟨_, _, rfl, rl_row hrow hl (by unfold maxLen; omega) (Nat.zero_le _) (fun i hi => hel i (by omega) hi), hb⟩

theorem Tryz.infoSub : (Tryz.prog.info? 160).map (fun i => (i.zero, i.size, i.bytes)) = some (some (.string ⟨#[]⟩), 1, 16) := by kernel_rfl
set_option maxHeartbeats 2000000 in
theorem subsOf_row (u : Value) (xs : List ByteArray) (w : World) (hn : xs.length ≤ 1048576) (hr : RComp 0 w u xs) :
    Calls Tryz.prog 185 #[.agg #[u]] w fun e w' => ∃ g vs, e = .returned (.slice (some ⟨g, 0, none⟩) xs.length xs.length) ∧ Row w' g 160 vs ∧ w.heap.size ≤ g ∧ vs.length = xs.length ∧ (∀ j (h1 : j < vs.length) (h2 : j < xs.length), RS w' vs[j] xs[j]) ∧ Below w.heap.size w w' := by
  obtain ⟨i0, hi, hz0, hz1, hz2⟩ := info_parts Tryz.infoSub
  obtain ⟨p, cap, rfl, h1, h2, h4⟩ := hr
  have H4 := hide h4
  clear h4
  obtain ⟨W, hW⟩ : ∃ W, W = w.alloc (.cells #[.slice p xs.length cap] 138) := ⟨_, rfl⟩
  have HW := hide (show Below w.heap.size w W by rw [hW]; exact (Below.refl _ _).alloc (Nat.le_refl _) _)
  have RW : Row W w.heap.size 138 [.slice p xs.length cap] := by rw [hW]; exact row_new w [.slice p xs.length cap] 138
  have HRW := hide RW
  have c0 : W.cell? ⟨w.heap.size, 0, none⟩ = some (.slice p xs.length cap) := RW.cell 0
  have hWs : W.heap.size = w.heap.size + 1 := by rw [hW]; simp
  have HWs := hide hWs
  clear RW hWs
  go_enter Tryz.func185, Tryz.ntmps185
  go_wp2_with (at_make; refine wpList_make_full _ rfl _ _ 208 rfl W.heap.size 160 i0 (.string ⟨#[]⟩) 1 Tryz.underlying208 hi hz0 hz1 _ _ _ _ xs.length rfl rfl rfl rfl ?b2 ?b3 (by rw [hW]; exact Nat.le_refl _) ?_)
  case b2 => rw [hz2]; omega
  case b3 => unfold maxLen; omega
  intro w1 hown hgrow
  rw [← hW] at hgrow
  clear hW
  obtain ⟨Z, hZ, hZl⟩ := own_row hown
  rw [Nat.mul_one] at hZl
  have hb0 : Below W.heap.size W w1 := (Below.refl _ _).grown hgrow (Nat.le_refl _) (by simp)
  have hb1 : Below w.heap.size w w1 := HW.out.trans (hb0.mono HW.out.size)
  have row1 := HRW.out.below hb0 HRW.out.lt
  have c1 : w1.cell? ⟨w.heap.size, 0, none⟩ = some (.slice p xs.length cap) := row1.cell 0
  have HZ := hide hZ
  have HB := hide hb1
  have HL := hide hZl
  clear hZ hown hgrow hb1 hZl hb0 row1
  go_wp2_with fail
  go_loopw [13] (fun i wr => ∃ (X : World) (k : Nat) (vs : List Value), X = wr ∧ k ≤ xs.length ∧ i = .int .i64 k ∧ Hid (Row X (w.heap.size + 1) 160 (vs ++ Z.drop k)) ∧ Hid (Below w.heap.size w X) ∧ Hid (vs.length = k) ∧ Hid (∀ j (h1 : j < vs.length) (h2 : j < xs.length), RS w vs[j] xs[j])) (fun i _ => xs.length - (intOf i).toNat)
  case atStart => exact ⟨_, 0, [], rfl, Nat.zero_le _, rfl, hide (by simpa using HZ.out), HB, hide rfl, hide (fun j h1 _ => absurd h1 (by simp))⟩
  case round =>
    obtain ⟨X, k, vs, rfl, hk, rfl, HRow, HBel, HLn, HEl⟩ := hrel
    by_cases hlt : k < xs.length
    · obtain ⟨g, off, hp, hg, _, hc⟩ := H4.out (by omega)
      subst hp
      obtain ⟨u, hu, rfl, hus⟩ := hc k hlt
      have hck : X.cell? ⟨g, off + k, none⟩ = some (.string (xs[k]'hlt)) := by rw [HBel.out.cell (p := ⟨g, off + k, none⟩) hg]; exact hu
      have hlt0 := HRow.out.lt
      clear hu hc
      have hll : (vs ++ Z.drop k).length = xs.length := by rw [List.length_append, HLn.out, List.length_drop, HL.out]; omega
      obtain ⟨z, hz⟩ := HRow.out.some k (by rw [hll]; exact hlt)
      have hf := HRow.out.free k
      have hnext := HRow.out.set (j := k) (.string (xs[k]'hlt))
      rw [set_snocP vs Z k xs.length _ HLn.out hlt HL.out] at hnext
      have HN := hide hnext
      have HMB := hide (HBel.out.setCell (p := ⟨w.heap.size + 1, k, none⟩) (by show w.heap.size ≤ w.heap.size + 1; omega) (.string (xs[k]'hlt)))
      have HLn2 : Hid ((vs ++ [Value.string (xs[k]'hlt)]).length = k + 1) := by rw [List.length_append, HLn.out]; exact rfl
      have HEl2 : Hid (∀ j (h1 : j < (vs ++ [Value.string (xs[k]'hlt)]).length) (h2 : j < xs.length), RS w (vs ++ [Value.string (xs[k]'hlt)])[j] xs[j]) := by
        intro j h1 h2
        rw [HLn2.out] at h1
        by_cases hj : j < k
        · rw [List.getElem_append_left (by rw [HLn.out]; exact hj)]
          exact HEl.out j (by rw [HLn.out]; exact hj) h2
        · have e : j = k := by omega
          subst e
          rw [List.getElem_append_right (by rw [HLn.out]; exact Nat.le_refl _)]
          simp only [HLn.out, Nat.sub_self, List.getElem_cons_zero]
          exact ⟨rfl, hus⟩
      clear hnext hll
      go_wp2
      go_roundw
      case rel => exact ⟨_, k + 1, _, rfl, by omega, by go_num, HN, HMB, HLn2, HEl2⟩
      case measure => simp [intOf]; omega
    · have HE : Hid (Row X (w.heap.size + 1) 160 vs) := by
        have := HRow.out
        rw [List.drop_eq_nil_of_le (by rw [HL.out]; omega), List.append_nil] at this
        exact this
      have HLn3 : Hid (vs.length = xs.length) := by rw [HLn.out]; exact (show k = xs.length by omega)
      go_wp2
      go_ret
      exact ⟨_, vs, rfl, HE.out, by omega, HLn3.out, HEl.out, HBel.out⟩


set_option maxHeartbeats 2000000 in
theorem partsOfSub_row (u : Value) (xs : List ByteArray) (w : World) (hn : xs.length ≤ 1048576) (hr : RComp 0 w u xs) :
    Calls Tryz.prog 184 #[u] w fun e w' => ∃ g vs, e = .returned (.slice (some ⟨g, 0, none⟩) xs.length xs.length) ∧ Row w' g 159 vs ∧ w.heap.size ≤ g ∧ vs.length = xs.length ∧ (∀ j (h1 : j < vs.length) (h2 : j < xs.length), PSub w' vs[j] xs[j]) ∧ Below w.heap.size w w' := by
  obtain ⟨i0, hi, hz0, hz1, hz2⟩ := info_parts Tryz.infoPart
  obtain ⟨p, cap, rfl, h1, h2, h4⟩ := hr
  have H4 := hide h4
  clear h4
  go_enter Tryz.func184, Tryz.ntmps184
  go_wp2_with (at_make; refine wpList_make_full _ rfl _ _ 161 rfl w.heap.size 159 i0 .nilIface 1 Tryz.underlying161 hi hz0 hz1 _ _ _ _ xs.length rfl rfl rfl rfl ?b2 ?b3 (Nat.le_refl _) ?_)
  case b2 => rw [hz2]; omega
  case b3 => unfold maxLen; omega
  intro w1 hown hgrow
  obtain ⟨Z, hZ, hZl⟩ := own_row hown
  rw [Nat.mul_one] at hZl
  have hb1 : Below w.heap.size w w1 := (Below.refl _ _).grown hgrow (Nat.le_refl _) (by simp)
  have HZ := hide hZ
  have HB := hide hb1
  have HL := hide hZl
  clear hZ hown hgrow hb1 hZl
  go_wp2_with fail
  go_loopw [11] (fun i wr => ∃ (X : World) (k : Nat) (vs : List Value), X = wr ∧ k ≤ xs.length ∧ i = .int .i64 k ∧ Hid (Row X w.heap.size 159 (vs ++ Z.drop k)) ∧ Hid (Below w.heap.size w X) ∧ Hid (vs.length = k) ∧ Hid (∀ j (h1 : j < vs.length) (h2 : j < xs.length), PSub w vs[j] xs[j])) (fun i _ => xs.length - (intOf i).toNat)
  case atStart => exact ⟨_, 0, [], rfl, Nat.zero_le _, rfl, hide (by simpa using HZ.out), HB, hide rfl, hide (fun j h1 _ => absurd h1 (by simp))⟩
  case round =>
    obtain ⟨X, k, vs, rfl, hk, rfl, HRow, HBel, HLn, HEl⟩ := hrel
    by_cases hlt : k < xs.length
    · obtain ⟨g, off, hp, hg, _, hc⟩ := H4.out (by omega)
      subst hp
      obtain ⟨u, hu, rfl, hus⟩ := hc k hlt
      have hck : X.cell? ⟨g, off + k, none⟩ = some (.string (xs[k]'hlt)) := by rw [HBel.out.cell (p := ⟨g, off + k, none⟩) hg]; exact hu
      have hlt0 := HRow.out.lt
      clear hu hc
      have hll : (vs ++ Z.drop k).length = xs.length := by rw [List.length_append, HLn.out, List.length_drop, HL.out]; omega
      obtain ⟨z, hz⟩ := HRow.out.some k (by rw [hll]; exact hlt)
      have hf := HRow.out.free k
      have hnext := HRow.out.set (j := k) (.iface 160 (.string (xs[k]'hlt)))
      rw [set_snocP vs Z k xs.length _ HLn.out hlt HL.out] at hnext
      have HN := hide hnext
      have HMB := hide (HBel.out.setCell (p := ⟨w.heap.size, k, none⟩) (Nat.le_refl _) (.iface 160 (.string (xs[k]'hlt))))
      have HLn2 : Hid ((vs ++ [Value.iface 160 (.string (xs[k]'hlt))]).length = k + 1) := by rw [List.length_append, HLn.out]; exact rfl
      have HEl2 : Hid (∀ j (h1 : j < (vs ++ [Value.iface 160 (.string (xs[k]'hlt))]).length) (h2 : j < xs.length), PSub w (vs ++ [Value.iface 160 (.string (xs[k]'hlt))])[j] xs[j]) := by
        intro j h1 h2
        rw [HLn2.out] at h1
        by_cases hj : j < k
        · rw [List.getElem_append_left (by rw [HLn.out]; exact hj)]
          exact HEl.out j (by rw [HLn.out]; exact hj) h2
        · have e : j = k := by omega
          subst e
          rw [List.getElem_append_right (by rw [HLn.out]; exact Nat.le_refl _)]
          simp only [HLn.out, Nat.sub_self, List.getElem_cons_zero]
          exact ⟨rfl, hus⟩
      clear hnext hll
      go_wp2
      go_roundw
      case rel => exact ⟨_, k + 1, _, rfl, by omega, by go_num, HN, HMB, HLn2, HEl2⟩
      case measure => simp [intOf]; omega
    · have HE : Hid (Row X w.heap.size 159 vs) := by
        have := HRow.out
        rw [List.drop_eq_nil_of_le (by rw [HL.out]; omega), List.append_nil] at this
        exact this
      have HLn3 : Hid (vs.length = xs.length) := by rw [HLn.out]; exact (show k = xs.length by omega)
      go_wp2
      go_ret
      exact ⟨_, vs, rfl, HE.out, Nat.le_refl _, HLn3.out, HEl.out, HBel.out⟩


set_option maxHeartbeats 1000000 in
theorem innerComp_row (u : Value) (xs : List ByteArray) (w : World) (hn : xs.length ≤ 1048576) (hr : RComp 0 w u xs) :
    Calls Tryz.prog 183 #[.agg #[u]] w fun e w' => ∃ g vs, e = .returned (.slice (some ⟨g, 0, none⟩) xs.length xs.length) ∧ Row w' g 159 vs ∧ w.heap.size ≤ g ∧ vs.length = xs.length ∧ (∀ j (h1 : j < vs.length) (h2 : j < xs.length), PSub w' vs[j] xs[j]) ∧ Below w.heap.size w w' := by
  have HR := hide hr
  obtain ⟨p, c, rfl⟩ := hr.isSlice
  clear hr
  go_enter Tryz.func183, Tryz.ntmps183
  go_wp2_with fail
  refine (subsOf_row _ xs _ hn (HR.out.below ((Below.refl _ _).alloc (Nat.le_refl _) _))).mono ?_
  rintro e w1 ⟨g1, vs1, rfl, hrow1, hg1, hl1, hel1, hb1⟩
  have HB := hide (((Below.refl w.heap.size w).alloc (Nat.le_refl _) (.cells #[.slice p xs.length c] 138)).trans (hb1.mono (by simp)))
  have HR1 : Hid (RComp 0 w1 (.slice (some ⟨g1, 0, none⟩) xs.length xs.length) xs) := rl_row hrow1 hl1 (by unfold maxLen; omega) (Nat.zero_le _) (fun i hi => hel1 i (by omega) hi)
  clear hb1 hrow1 hl1 hel1 hg1
  go_wp2_with fail
  refine (partsOfSub_row _ xs _ hn HR1.out).mono ?_
  rintro e w2 ⟨g2, vs2, rfl, hrow2, hg2, hl2, hel2, hb2⟩
  have HB2 := hide (HB.out.trans (hb2.mono HB.out.size))
  have HR2 := hide hrow2
  have HG2 : Hid (w.heap.size ≤ g2) := Nat.le_trans HB.out.size hg2
  have HL2 := hide hl2
  have HEL := hide hel2
  clear hb2 hrow2 hl2 hel2 hg2
  go_wp2
  go_ret
  exact ⟨_, vs2, rfl, HR2.out, HG2.out, HL2.out, HEL.out, HB2.out⟩

theorem innerComp_any (u : Value) (xs : List ByteArray) (w : World) (hn : xs.length ≤ 1048576) (hr : RComp 0 w u xs) :
    Calls Tryz.prog 183 #[.agg #[u]] w fun e w' => ∃ p c, e = .returned (.slice p xs.length c) ∧ RL 0 PSub w' (.slice p xs.length c) xs ∧ Below w.heap.size w w' := by
  refine (innerComp_row u xs w hn hr).mono ?_
  rintro e w' ⟨g, vs, rfl, hrow, _, hl, hel, hb⟩
  exact ⟨_, _, rfl, rl_row hrow hl (by unfold maxLen; omega) (Nat.zero_le _) (fun i hi => hel i (by omega) hi), hb⟩

set_option maxHeartbeats 1000000 in
set_option maxRecDepth 100000 in
theorem emptySub (u : Value) (x : ByteArray) (w : World) (hr : PSub w u x) :
    Calls Tryz.prog 127 #[u] w fun e w' => e = .returned (.bool (empS x)) ∧ Below w.heap.size w w' := by
  obtain ⟨rfl, _⟩ := hr
  have a1 := Tryz.assubPartsubPart
  by_cases he : x.size = 0
  · have he2 : x = ⟨#[]⟩ := ByteArray.ext (Array.eq_empty_of_size_eq_zero he)
    subst he2
    go_enter Tryz.func127, Tryz.ntmps127
    go_wp2
    go_ret
    exact ⟨ret_boolF rfl, Below.refl _ _⟩
  · have he2 : x ≠ ⟨#[]⟩ := fun h => he (by rw [h]; rfl)
    have he3 := toList_neF he2
    have HE := hide (show empS x = false by simp [empS, he])
    clear he2
    go_enter Tryz.func127, Tryz.ntmps127
    go_wp2
    go_ret
    exact ⟨ret_boolF (by rw [HE.out]; first | done | simpa using he3), Below.refl _ _⟩

set_option maxHeartbeats 1000000 in
set_option maxRecDepth 100000 in
theorem emptyComp (u : Value) (x : List (ByteArray)) (w : World) (hn : x.length ≤ 1048576) (hr : PComp w u x) :
    Calls Tryz.prog 127 #[u] w fun e w' => e = .returned (.bool (empL x)) ∧ Below w.heap.size w w' := by
  obtain ⟨v, rfl, hv⟩ := hr
  have a1 := Tryz.asCompsubPart
  have a2 := Tryz.innerComp
  go_enter Tryz.func127, Tryz.ntmps127
  go_wp2_with fail
  refine (innerComp_any _ x _ hn hv).mono ?_
  rintro e w1 ⟨p1, c1, rfl, hr1, hb1⟩
  have HB := hide hb1
  clear hb1 hr1
  by_cases he : x.length = 0
  · have he' : ((x.length : Int) == 0) = true := by simp [he]
    have HE := hide (show empL x = true by simp [empL, he])
    clear he
    go_wp2
    go_ret
    exact ⟨ret_boolF (by rw [HE.out]; first | done | exact he'), HB.out⟩
  · have he' : ((x.length : Int) == 0) = false := by simpa using he
    have HE := hide (show empL x = false by simp [empL, he])
    clear he
    go_wp2
    go_ret
    exact ⟨ret_boolF (by rw [HE.out]; first | done | exact he'), HB.out⟩

set_option maxHeartbeats 1000000 in
set_option maxRecDepth 100000 in
theorem emptyRep (u : Value) (x : List (List ByteArray)) (w : World) (hn : x.length ≤ 1048576) (hr : PRep w u x) :
    Calls Tryz.prog 127 #[u] w fun e w' => e = .returned (.bool (empL x)) ∧ Below w.heap.size w w' := by
  obtain ⟨v, rfl, hv⟩ := hr
  have a1 := Tryz.asRepsubPart
  have a2 := Tryz.innerRep
  go_enter Tryz.func127, Tryz.ntmps127
  go_wp2_with fail
  refine (innerRep_any _ x _ hn hv).mono ?_
  rintro e w1 ⟨p1, c1, rfl, hr1, hb1⟩
  have HB := hide hb1
  clear hb1 hr1
  by_cases he : x.length = 0
  · have he' : ((x.length : Int) == 0) = true := by simp [he]
    have HE := hide (show empL x = true by simp [empL, he])
    clear he
    go_wp2
    go_ret
    exact ⟨ret_boolF (by rw [HE.out]; first | done | exact he'), HB.out⟩
  · have he' : ((x.length : Int) == 0) = false := by simpa using he
    have HE := hide (show empL x = false by simp [empL, he])
    clear he
    go_wp2
    go_ret
    exact ⟨ret_boolF (by rw [HE.out]; first | done | exact he'), HB.out⟩

set_option maxHeartbeats 2000000 in
set_option maxRecDepth 100000 in
theorem leaveOut_any {α : Type} (RE : World → Value → α → Prop) [Lasts 0 RE] (emp : α → Bool) (xs : List α)
    (hE : ∀ (X : World) (u : Value) (i : Nat) (h : i < xs.length), RE X u xs[i] → Calls Tryz.prog 127 #[u] X fun e w' => e = .returned (.bool (emp xs[i])) ∧ Below X.heap.size X w')
    (v : Value) (w : World) (hr : RL 0 RE w v xs) :
    Calls Tryz.prog 140 #[v] w fun e w' => (∃ p c k, e = .returned (.slice p k c) ∧ k ≤ xs.length ∧ (k = xs.length ↔ endEmpty emp xs = false)) ∧ Below w.heap.size w w' := by
  have HEE := hide hE
  clear hE
  obtain ⟨p, cap, rfl, h1, h2, h4⟩ := hr
  have H4 := hide h4
  clear h4
  unfold maxLen at h2
  go_enter Tryz.func140, Tryz.ntmps140
  go_wp2
  go_loopw [0] (fun l wr => ∃ (X : World) (k : Nat), X = wr ∧ k ≤ xs.length ∧ l = .slice p k cap ∧ Hid (Below w.heap.size w X) ∧ Hid (k < xs.length → endEmpty emp xs = true)) (fun l _ => lenOf l)
  case atStart => exact ⟨_, _, rfl, Nat.le_refl _, rfl, Below.refl _ _, fun h => absurd h (by omega)⟩
  case round =>
    obtain ⟨X, k, rfl, hk, rfl, HB, HK⟩ := hrel
    by_cases h0 : k = 0
    · subst h0
      have HZ := hide (show (0 = xs.length ↔ endEmpty emp xs = false) from ⟨fun h => endEmpty_nil h.symm, fun h => by
        rcases Nat.eq_zero_or_pos xs.length with e | e
        · exact e.symm
        · rw [HK.out e] at h; cases h⟩)
      go_wp2
      go_ret
      exact ⟨⟨_, _, _, rfl, hk, HZ.out⟩, HB.out⟩
    · obtain ⟨n, rfl⟩ : ∃ n, k = n + 1 := ⟨k - 1, by omega⟩
      obtain ⟨g, off, hp, hg, _, hc⟩ := H4.out (by omega)
      subst hp
      have hnl : n < xs.length := by omega
      obtain ⟨u, hu, hru⟩ := hc n hnl
      have hck : X.cell? ⟨g, off + n, none⟩ = some u := by rw [HB.out.cell (p := ⟨g, off + n, none⟩) hg]; exact hu
      have HRU : Hid (RE X u xs[n]) := Lasts.go (B := 0) (Same.of HB.out) hru
      have hw1 : IntKind.i64.wrap (((n + 1 : Nat) : Int) - 1) = (n : Int) := by rw [show (((n + 1 : Nat) : Int) - 1) = (n : Int) by omega]; exact wrap_small _ (by omega) (by omega)
      have hpos : (0 : Int) < ((n + 1 : Nat) : Int) := by omega
      clear hu hru hc h0
      go_wp2_with fail
      refine (HEE.out _ u n hnl HRU.out).mono ?_
      rintro e w2 ⟨rfl, hb2⟩
      have HB2 := hide (HB.out.trans (hb2.mono HB.out.size))
      clear hb2
      cases he : emp (xs[n]'hnl)
      · have HZ := hide (show (n + 1 = xs.length ↔ endEmpty emp xs = false) from ⟨fun h => by rw [endEmpty_last n hnl h.symm]; exact he, fun h => by
          rcases Nat.lt_or_ge (n + 1) xs.length with e | e
          · rw [HK.out e] at h; cases h
          · omega⟩)
        go_wp2
        go_ret
        exact ⟨⟨_, _, _, rfl, hk, HZ.out⟩, HB2.out⟩
      · have HK2 : Hid (n < xs.length → endEmpty emp xs = true) := fun _ => by
          rcases Nat.lt_or_ge (n + 1) xs.length with e | e
          · exact HK.out e
          · rw [endEmpty_last n hnl (by omega)]; exact he
        go_wp2
        go_roundw
        case rel => exact ⟨_, n, rfl, by omega, rfl, HB2, HK2⟩
        case measure => simp [lenOf]
end Go.Proofs.YtholbhjfmfanbaaGreat
/- The program's partRight and FieldRight. -/
namespace Go.Proofs.YtholbhjfmfanbaaGreat
open Go.RowKit
theorem right_many {α : Type} {f emp : α → Bool} {most : Nat} {xs : List α} (h : most < xs.length) : rightB f emp most xs = false := by
  have : ¬ xs.length ≤ most := by omega
  simp [rightB, this]
theorem right_end {α : Type} {f emp : α → Bool} {most : Nat} {xs : List α} (h : endEmpty emp xs = true) : rightB f emp most xs = false := by simp [rightB, h]
theorem right_yes {α : Type} {f emp : α → Bool} {most : Nat} {xs : List α} (h1 : xs.length ≤ most) (h2 : endEmpty emp xs = false) (h : ∀ k (hk : k < xs.length), f xs[k] = true) : rightB f emp most xs = true := by
  rw [right_all h]
  simp [h1, h2]

set_option maxHeartbeats 1000000 in
theorem subRight_any (s : ByteArray) (w : World) :
    Calls Tryz.prog 138 #[.string s] w fun e w' => e = .returned (.bool (subB s)) ∧ Below w.heap.size w w' := by
  by_cases h6 : (s.size : Int) ≤ 60
  · have HS := hide (show subB s = plainB s by simp [subB, h6])
    go_enter Tryz.func138, Tryz.ntmps138
    go_wp2_with fail
    refine (allPlain_any s _).mono ?_
    rintro e w1 ⟨rfl, hb1⟩
    go_wp2
    go_ret
    exact ⟨ret_boolF HS.out.symm, hb1⟩
  · have HS := hide (show subB s = false by simp [subB, h6])
    go_enter Tryz.func138, Tryz.ntmps138
    go_wp2
    go_ret
    exact ⟨ret_boolF HS.out.symm, Below.refl _ _⟩

set_option maxHeartbeats 1000000 in
set_option maxRecDepth 100000 in
theorem rightSub (u : Value) (x : ByteArray) (w : World) (hr : PSub w u x) :
    Calls Tryz.prog 128 #[u] w fun e w' => e = .returned (.bool (subB x)) ∧ Below w.heap.size w w' := by
  obtain ⟨rfl, _⟩ := hr
  have a1 := Tryz.assubPartsubPart
  go_enter Tryz.func128, Tryz.ntmps128
  go_wp2_with fail
  refine (subRight_any x _).mono ?_
  rintro e w1 ⟨rfl, hb1⟩
  go_wp2
  go_ret
  exact ⟨rfl, hb1⟩

set_option maxHeartbeats 4000000 in
set_option maxRecDepth 100000 in
theorem rightComp (u : Value) (x : List (ByteArray)) (w : World) (hn : x.length ≤ 1048576) (hr : PComp w u x) :
    Calls Tryz.prog 128 #[u] w fun e w' => e = .returned (.bool (compB x)) ∧ Below w.heap.size w w' := by
  obtain ⟨v, rfl, hv⟩ := hr
  have HV := hide hv
  obtain ⟨vp, vc, rfl⟩ := hv.isSlice
  clear hv
  obtain ⟨R, hR⟩ : ∃ R, R = compB x := ⟨_, rfl⟩
  rw [← hR]
  have HR := hide hR
  clear hR
  have a1 := Tryz.asCompsubPart
  have a2 := Tryz.innerComp
  go_enter Tryz.func128, Tryz.ntmps128
  go_wp2_with fail
  refine (limitsComp _ _).mono ?_
  rintro e w1 ⟨rfl, rfl⟩
  go_wp2_with fail
  refine (innerComp_any _ x _ hn HV.out).mono ?_
  rintro e w1 ⟨p1, c1, rfl, hr1, hb1⟩
  have HB1 := hide hb1
  have HL := hide hr1
  clear hb1 hr1
  by_cases h5 : 5 < (x.length : Int)
  · have HN := hide (show R = false by rw [HR.out]; exact right_many (by omega))
    go_wp2
    go_ret
    exact ⟨ret_boolF HN.out.symm, HB1.out⟩
  go_wp2_with fail
  refine (leaveOut_any PSub empS x (fun X u i h hu => emptySub u _ X hu) _ _ HL.out).mono ?_
  rintro e w2 ⟨⟨p2, c2, k2, rfl, hk2, hiff⟩, hb2⟩
  have HB2 := hide (HB1.out.trans (hb2.mono HB1.out.size))
  have HL2 := hide (HL.out.below hb2)
  have HI := hide hiff
  clear hb2 hiff
  by_cases hke : k2 = x.length
  · have HEE := hide (HI.out.1 hke)
    subst hke
    have hlm : x.length ≤ 5 := by omega
    obtain ⟨q, cap, hqe, h1, h2, h4⟩ := HL2.out
    have H4 := hide h4
    simp only [Value.slice.injEq, true_and] at hqe
    obtain ⟨rfl, rfl⟩ := hqe
    clear h4
    go_wp2
    go_loopw [39] (fun i wr => ∃ (X : World) (k : Nat), X = wr ∧ k ≤ x.length ∧ i = .int .i64 k ∧ Hid (Below w2.heap.size w2 X) ∧ Hid (∀ j (hj : j < x.length), j < k → subB x[j] = true)) (fun i _ => x.length - (intOf i).toNat)
    case atStart => exact ⟨_, 0, rfl, Nat.zero_le _, rfl, Below.refl _ _, fun j _ h => absurd h (by omega)⟩
    case round =>
      obtain ⟨X, k, rfl, hk, rfl, HB, HA⟩ := hrel
      by_cases hlt : k < x.length
      · obtain ⟨g, off, hp, hg, _, hc⟩ := H4.out (by omega)
        subst hp
        obtain ⟨u, hu, hru⟩ := hc k hlt
        have hck : X.cell? ⟨g, off + k, none⟩ = some u := by rw [HB.out.cell (p := ⟨g, off + k, none⟩) hg]; exact hu
        have HRU : Hid (PSub X u x[k]) := Lasts.go (B := 0) (Same.of HB.out) hru
        clear hu hru hc
        go_wp2_with fail
        refine (rightSub u (x[k]'hlt) _ HRU.out).mono ?_
        rintro e w3 ⟨rfl, hb3⟩
        have HB3 := hide (HB.out.trans (hb3.mono HB.out.size))
        clear hb3
        cases ho : subB (x[k]'hlt)
        · have HN := hide (show R = false by rw [HR.out]; exact right_no k hlt ho)
          go_wp2
          go_ret
          exact ⟨ret_boolF HN.out.symm, HB2.out.trans (HB3.out.mono HB2.out.size)⟩
        · have HA2 := hide (all_succ HA.out (fun _ => ho))
          go_wp2
          go_roundw
          case rel => exact ⟨_, k + 1, rfl, by omega, by go_num, HB3, HA2⟩
          case measure => simp [intOf]; omega
      · have HY := hide (show R = true by rw [HR.out]; exact right_yes hlm HEE.out (fun j hj => HA.out j hj (by omega)))
        go_wp2
        go_ret
        exact ⟨ret_boolF HY.out.symm, HB2.out.trans (HB.out.mono HB2.out.size)⟩
  · have HN := hide (show R = false by
      rw [HR.out]
      refine right_end ?_
      cases h : endEmpty empS x
      · exact absurd (HI.out.2 h) hke
      · rfl)
    have hne : ((x.length : Int) != (k2 : Int)) = true := by simp; omega
    go_wp2
    go_ret
    exact ⟨ret_boolF HN.out.symm, HB2.out⟩

set_option maxHeartbeats 4000000 in
set_option maxRecDepth 100000 in
theorem rightRep (u : Value) (x : List (List ByteArray)) (w : World) (hn : x.length ≤ 1048576) (hm : ∀ i (h : i < x.length), x[i].length ≤ 1048576) (hr : PRep w u x) :
    Calls Tryz.prog 128 #[u] w fun e w' => e = .returned (.bool (repB x)) ∧ Below w.heap.size w w' := by
  obtain ⟨v, rfl, hv⟩ := hr
  have HV := hide hv
  obtain ⟨vp, vc, rfl⟩ := hv.isSlice
  clear hv
  have HM := hide hm
  clear hm
  obtain ⟨R, hR⟩ : ∃ R, R = repB x := ⟨_, rfl⟩
  rw [← hR]
  have HR := hide hR
  clear hR
  have a1 := Tryz.asRepsubPart
  have a2 := Tryz.innerRep
  go_enter Tryz.func128, Tryz.ntmps128
  go_wp2_with fail
  refine (limitsRep _ _).mono ?_
  rintro e w1 ⟨rfl, rfl⟩
  go_wp2_with fail
  refine (innerRep_any _ x _ hn HV.out).mono ?_
  rintro e w1 ⟨p1, c1, rfl, hr1, hb1⟩
  have HB1 := hide hb1
  have HL := hide hr1
  clear hb1 hr1
  by_cases h5 : 10 < (x.length : Int)
  · have HN := hide (show R = false by rw [HR.out]; exact right_many (by omega))
    go_wp2
    go_ret
    exact ⟨ret_boolF HN.out.symm, HB1.out⟩
  go_wp2_with fail
  refine (leaveOut_any PComp empL x (fun X u i h hu => emptyComp u _ X (HM.out i h) hu) _ _ HL.out).mono ?_
  rintro e w2 ⟨⟨p2, c2, k2, rfl, hk2, hiff⟩, hb2⟩
  have HB2 := hide (HB1.out.trans (hb2.mono HB1.out.size))
  have HL2 := hide (HL.out.below hb2)
  have HI := hide hiff
  clear hb2 hiff
  by_cases hke : k2 = x.length
  · have HEE := hide (HI.out.1 hke)
    subst hke
    have hlm : x.length ≤ 10 := by omega
    obtain ⟨q, cap, hqe, h1, h2, h4⟩ := HL2.out
    have H4 := hide h4
    simp only [Value.slice.injEq, true_and] at hqe
    obtain ⟨rfl, rfl⟩ := hqe
    clear h4
    go_wp2
    go_loopw [39] (fun i wr => ∃ (X : World) (k : Nat), X = wr ∧ k ≤ x.length ∧ i = .int .i64 k ∧ Hid (Below w2.heap.size w2 X) ∧ Hid (∀ j (hj : j < x.length), j < k → compB x[j] = true)) (fun i _ => x.length - (intOf i).toNat)
    case atStart => exact ⟨_, 0, rfl, Nat.zero_le _, rfl, Below.refl _ _, fun j _ h => absurd h (by omega)⟩
    case round =>
      obtain ⟨X, k, rfl, hk, rfl, HB, HA⟩ := hrel
      by_cases hlt : k < x.length
      · obtain ⟨g, off, hp, hg, _, hc⟩ := H4.out (by omega)
        subst hp
        obtain ⟨u, hu, hru⟩ := hc k hlt
        have hck : X.cell? ⟨g, off + k, none⟩ = some u := by rw [HB.out.cell (p := ⟨g, off + k, none⟩) hg]; exact hu
        have HRU : Hid (PComp X u x[k]) := Lasts.go (B := 0) (Same.of HB.out) hru
        clear hu hru hc
        go_wp2_with fail
        refine (rightComp u (x[k]'hlt) _ (HM.out k hlt) HRU.out).mono ?_
        rintro e w3 ⟨rfl, hb3⟩
        have HB3 := hide (HB.out.trans (hb3.mono HB.out.size))
        clear hb3
        cases ho : compB (x[k]'hlt)
        · have HN := hide (show R = false by rw [HR.out]; exact right_no k hlt ho)
          go_wp2
          go_ret
          exact ⟨ret_boolF HN.out.symm, HB2.out.trans (HB3.out.mono HB2.out.size)⟩
        · have HA2 := hide (all_succ HA.out (fun _ => ho))
          go_wp2
          go_roundw
          case rel => exact ⟨_, k + 1, rfl, by omega, by go_num, HB3, HA2⟩
          case measure => simp [intOf]; omega
      · have HY := hide (show R = true by rw [HR.out]; exact right_yes hlm HEE.out (fun j hj => HA.out j hj (by omega)))
        go_wp2
        go_ret
        exact ⟨ret_boolF HY.out.symm, HB2.out.trans (HB.out.mono HB2.out.size)⟩
  · have HN := hide (show R = false by
      rw [HR.out]
      refine right_end ?_
      cases h : endEmpty empL x
      · exact absurd (HI.out.2 h) hke
      · rfl)
    have hne : ((x.length : Int) != (k2 : Int)) = true := by simp; omega
    go_wp2
    go_ret
    exact ⟨ret_boolF HN.out.symm, HB2.out⟩

set_option maxHeartbeats 4000000 in
set_option maxRecDepth 100000 in
theorem rightField (u : Value) (x : List (List (List ByteArray))) (w : World) (hn : x.length ≤ 1048576) (hm : ∀ i (h : i < x.length), x[i].length ≤ 1048576) (hm2 : ∀ i (h : i < x.length) j (hj : j < x[i].length), x[i][j].length ≤ 1048576) (hr : PField w u x) :
    Calls Tryz.prog 128 #[u] w fun e w' => e = .returned (.bool (fldB x)) ∧ Below w.heap.size w w' := by
  obtain ⟨v, rfl, hv⟩ := hr
  have HV := hide hv
  obtain ⟨vp, vc, rfl⟩ := hv.isSlice
  clear hv
  have HM := hide hm
  have HM2 := hide hm2
  clear hm hm2
  obtain ⟨R, hR⟩ : ∃ R, R = fldB x := ⟨_, rfl⟩
  rw [← hR]
  have HR := hide hR
  clear hR
  have a1 := Tryz.asFieldsubPart
  have a2 := Tryz.innerField
  go_enter Tryz.func128, Tryz.ntmps128
  go_wp2_with fail
  refine (limitsField _ _).mono ?_
  rintro e w1 ⟨rfl, rfl⟩
  go_wp2_with fail
  refine (innerField_any _ x _ hn HV.out).mono ?_
  rintro e w1 ⟨p1, c1, rfl, hr1, hb1⟩
  have HB1 := hide hb1
  have HL := hide hr1
  clear hb1 hr1
  by_cases h5 : 5 < (x.length : Int)
  · have HN := hide (show R = false by rw [HR.out]; exact right_many (by omega))
    go_wp2
    go_ret
    exact ⟨ret_boolF HN.out.symm, HB1.out⟩
  go_wp2_with fail
  refine (leaveOut_any PRep empL x (fun X u i h hu => emptyRep u _ X (HM.out i h) hu) _ _ HL.out).mono ?_
  rintro e w2 ⟨⟨p2, c2, k2, rfl, hk2, hiff⟩, hb2⟩
  have HB2 := hide (HB1.out.trans (hb2.mono HB1.out.size))
  have HL2 := hide (HL.out.below hb2)
  have HI := hide hiff
  clear hb2 hiff
  by_cases hke : k2 = x.length
  · have HEE := hide (HI.out.1 hke)
    subst hke
    have hlm : x.length ≤ 5 := by omega
    obtain ⟨q, cap, hqe, h1, h2, h4⟩ := HL2.out
    have H4 := hide h4
    simp only [Value.slice.injEq, true_and] at hqe
    obtain ⟨rfl, rfl⟩ := hqe
    clear h4
    go_wp2
    go_loopw [39] (fun i wr => ∃ (X : World) (k : Nat), X = wr ∧ k ≤ x.length ∧ i = .int .i64 k ∧ Hid (Below w2.heap.size w2 X) ∧ Hid (∀ j (hj : j < x.length), j < k → repB x[j] = true)) (fun i _ => x.length - (intOf i).toNat)
    case atStart => exact ⟨_, 0, rfl, Nat.zero_le _, rfl, Below.refl _ _, fun j _ h => absurd h (by omega)⟩
    case round =>
      obtain ⟨X, k, rfl, hk, rfl, HB, HA⟩ := hrel
      by_cases hlt : k < x.length
      · obtain ⟨g, off, hp, hg, _, hc⟩ := H4.out (by omega)
        subst hp
        obtain ⟨u, hu, hru⟩ := hc k hlt
        have hck : X.cell? ⟨g, off + k, none⟩ = some u := by rw [HB.out.cell (p := ⟨g, off + k, none⟩) hg]; exact hu
        have HRU : Hid (PRep X u x[k]) := Lasts.go (B := 0) (Same.of HB.out) hru
        clear hu hru hc
        go_wp2_with fail
        refine (rightRep u (x[k]'hlt) _ (HM.out k hlt) (HM2.out k hlt) HRU.out).mono ?_
        rintro e w3 ⟨rfl, hb3⟩
        have HB3 := hide (HB.out.trans (hb3.mono HB.out.size))
        clear hb3
        cases ho : repB (x[k]'hlt)
        · have HN := hide (show R = false by rw [HR.out]; exact right_no k hlt ho)
          go_wp2
          go_ret
          exact ⟨ret_boolF HN.out.symm, HB2.out.trans (HB3.out.mono HB2.out.size)⟩
        · have HA2 := hide (all_succ HA.out (fun _ => ho))
          go_wp2
          go_roundw
          case rel => exact ⟨_, k + 1, rfl, by omega, by go_num, HB3, HA2⟩
          case measure => simp [intOf]; omega
      · have HY := hide (show R = true by rw [HR.out]; exact right_yes hlm HEE.out (fun j hj => HA.out j hj (by omega)))
        go_wp2
        go_ret
        exact ⟨ret_boolF HY.out.symm, HB2.out.trans (HB.out.mono HB2.out.size)⟩
  · have HN := hide (show R = false by
      rw [HR.out]
      refine right_end ?_
      cases h : endEmpty empL x
      · exact absurd (HI.out.2 h) hke
      · rfl)
    have hne : ((x.length : Int) != (k2 : Int)) = true := by simp; omega
    go_wp2
    go_ret
    exact ⟨ret_boolF HN.out.symm, HB2.out⟩

set_option maxHeartbeats 1000000 in
theorem implFieldRight_any (u : Value) (x : List (List (List ByteArray))) (w : World) (hn : x.length ≤ 1048576) (hm : ∀ i (h : i < x.length), x[i].length ≤ 1048576) (hm2 : ∀ i (h : i < x.length) j (hj : j < x[i].length), x[i][j].length ≤ 1048576) (hr : RFld 0 w u x) :
    Calls Tryz.prog 116 #[.agg #[u]] w fun e w' => e = .returned (.bool (fldB x)) ∧ Below w.heap.size w w' := by
  have HR := hide hr
  obtain ⟨p, c, rfl⟩ := hr.isSlice
  have HM := hide hm
  have HM2 := hide hm2
  clear hr hm hm2
  go_enter Tryz.func116, Tryz.ntmps116
  go_wp2_with fail
  refine (rightField _ x _ hn HM.out HM2.out ⟨_, rfl, HR.out.below ((Below.refl _ _).alloc (Nat.le_refl _) _)⟩).mono ?_
  rintro e w1 ⟨rfl, hb1⟩
  have HB := hide (((Below.refl w.heap.size w).alloc (Nat.le_refl _) (.cells #[.slice p x.length c] 108)).trans (hb1.mono (by simp)))
  clear hb1
  go_wp2
  go_ret
  exact ⟨rfl, HB.out⟩
end Go.Proofs.YtholbhjfmfanbaaGreat
