/- The bank's disk; the codes of errors. -/
import Derived.Test.YtkmehbgepkilkaaGreatDoorXGISettle
import Derived.Test.YtkmehbgepkilkaaGreatDoorXGSents
import Derived.LaidEql
import Derived.Stop.Asserts
import Derived.RowKitTokens
import Derived.Test.YtkmehbgepkilkaaGreatDoorXGSCopy
import Derived.Test.YtkmehbgepkilkaaGreatDoorXGDraw
import Derived.Recover
import Derived.WalkLawsBesides
import Derived.Deep.RegionWith
namespace Go.Proofs.YtkmehbgepkilkaaGreatDoor
open Go.RowKit

theorem Row.readsBank {w : World} {g : Nat} {T : TypeId} {ys : List ByteArray} (h : Row w g T (bank ys)) (hm : ∀ x ∈ ys, x.size ≤ maxLen) (hl : ys.length ≤ 64) : Reads w (.slice (Option.some ⟨g, 0, none⟩) ys.length 64) ys :=
  ⟨_, _, rfl, hl, by unfold maxLen; omega, hm, fun _ => ⟨g, 0, rfl, h.lt, fun i hi => by rw [Nat.zero_add, h.cell i, bank_at ys i hi]⟩⟩

set_option maxHeartbeats 4000000 in
set_option maxRecDepth 100000 in
theorem bankDisk_any (ys : List ByteArray) (w : World) (hl : ys.length ≤ 64) (hm : ∀ x ∈ ys, x.size ≤ 1048576) :
    Calls Tryz.prog 54 #[.agg (bank ys).toArray] w fun e w' => DiskIs w.heap.size e w' ys [] ∧ Below w.heap.size w w' := by
  obtain ⟨C, hC⟩ : ∃ C : Array Value, C = (bank ys).toArray := ⟨_, rfl⟩
  have hm' : ∀ x ∈ ys, x.size ≤ maxLen := fun x hx => by have := hm x hx; unfold maxLen; omega
  have r0 : Row ((w.alloc (.cells C 80)).alloc (.cells #[.slice none 0 0, .slice none 0 0] 26)) w.heap.size 80 (bank ys) := by
    rw [hC]; exact (row_new w (bank ys) 80).alloc _
  have r1 := row_new (w.alloc (.cells C 80)) [.slice none 0 0, .slice none 0 0] 26
  simp only [World.size_alloc] at r1
  have HB0 := hide (show Below w.heap.size w ((w.alloc (.cells C 80)).alloc (.cells #[.slice none 0 0, .slice none 0 0] 26)) from ((Below.refl _ _).alloc (Nat.le_refl _) _).alloc (by simp) _)
  have a64 : ((w.alloc (.cells C 80)).alloc (.cells #[.slice none 0 0, .slice none 0 0] 26)).cell? ⟨w.heap.size, 64, none⟩ = some (.int .i64 ys.length) := by rw [r0.cell 64]; exact bank_last hl
  have HRd := hide (r0.readsBank hm' hl)
  have HR1 := hide r1
  have hcs : C.size = 65 := by rw [hC]; simp [bank_len hl]
  have hli : (ys.length : Int) ≤ 64 := by omega
  have HM := hide hm
  have HM' := hide hm'
  rw [← hC]
  clear hC r0 r1 hm hm'
  go_enter Tryz.func54, Tryz.ntmps54
  go_wp2_with fail
  refine (copyTexts_any _ ys _ (by omega) HM.out HRd.out).mono ?_
  rintro e w3 ⟨rfl, hrow3, hb3⟩
  have HB3 := hide (HB0.out.trans (hb3.mono HB0.out.size))
  have R3 := Row.after hb3 HR1.out
  have HT3 := hide hrow3
  have c0 : w3.cell? ⟨w.heap.size + 1, 0, none⟩ = some (.slice none 0 0) := R3.cell 0
  have c1' : w3.cell? ⟨w.heap.size + 1, 1, none⟩ = some (.slice none 0 0) := R3.cell 1
  have f0 := R3.free 0
  have f1 := R3.free 1
  have HR3 := hide R3
  clear hrow3 hb3 R3 a64
  simp only [World.size_alloc] at HT3 ⊢
  go_wp2
  obtain ⟨z0, z1, KF⟩ := two HR3.out (.slice (some ⟨w.heap.size + 1 + 1, 0, none⟩) ys.length ys.length) (.slice none 0 0)
  exact bodyPost_ret (v := .agg #[.slice (some ⟨w.heap.size + 1 + 1, 0, none⟩) ys.length ys.length, .slice none 0 0]) (by simp [results, Tryz.results54, go_sem, z0, z1]) rfl
    ⟨⟨_, _, rfl, ⟨HM'.out, .inr ⟨w.heap.size + 1 + 1, [], by simp, by simp; unfold maxLen; omega, by omega, by simpa using KF.row HT3.out (by simp)⟩⟩, OwnP.none _ _ _, fun _ _ h => by cases h⟩, KF.toBelow HB3.out HB3.out.size (by simp)⟩

theorem Tryz.isTypeOf (v : Value) (w : World) : (Extern.ReflectliteType.typeOf #[.iface 160 v]).run Tryz.prog w = .ok (.iface 127 (.agg #[.pointer (some ⟨4, 160, none⟩)])) w := by kernel_rfl
theorem Tryz.callTypeOf (v : Value) (w : World) : (callFunc 91 #[.iface 160 v]).run Tryz.prog w = .ok (.value (.iface 127 (.agg #[.pointer (some ⟨4, 160, none⟩)]))) w := by
  rw [@run_callFunc_extern Tryz.prog 91 _ Extern.ReflectliteType.typeOf Tryz.func91 (by kernel_rfl) (by kernel_rfl) (by kernel_rfl) (by kernel_rfl), Tryz.isTypeOf]
  rfl
theorem Tryz.isComparable /- 77 -/ (w : World) : ((Extern.ReflectliteType.method fun t => do Extern.Rtype.noPackHeld "Comparable" t; pure (.bool (← typeInfo t).comparable)) #[.agg #[.pointer (some ⟨4, 160, none⟩)]]).run Tryz.prog w = .ok (.bool true) w := by kernel_rfl
theorem Tryz.callComparable (w : World) : (callFunc 129 #[.agg #[.pointer (some ⟨4, 160, none⟩)]]).run Tryz.prog w = .ok (.value (.bool true)) w := by
  rw [@run_callFunc_extern Tryz.prog 129 _ (Extern.ReflectliteType.method fun t => do Extern.Rtype.noPackHeld "Comparable" t; pure (.bool (← typeInfo t).comparable)) Tryz.func129 (by kernel_rfl) (by kernel_rfl) (by kernel_rfl) (by kernel_rfl), Tryz.isComparable]
  rfl
theorem Tryz.isMethodComparable (v : Value) (w : World) : (Go.method 293 127 v "Comparable").run Tryz.prog w = .ok (129, v) w := by kernel_rfl
theorem Tryz.isComp : (Tryz.prog.info? 160).map (·.comparable) = some true := by kernel_rfl
theorem Tryz.isSize : (Tryz.prog.info? 181).map (·.size) = some 1 := by kernel_rfl
theorem Tryz.noIsE /- 77 -/ (v : Value) (xT : TypeId) (w : World) : (Instr.typeAssert (.iface 160 v) xT 129 true).run Tryz.prog w = .ok (.tuple #[.nilIface, .bool false]) w := run_typeAssert_lacksB Tryz.underlying129 (by kernel_rfl) (by kernel_rfl) v xT w
theorem Tryz.noUnwrapE /- 77 -/ (v : Value) (xT : TypeId) (w : World) : (Instr.typeAssert (.iface 160 v) xT 132 true).run Tryz.prog w = .ok (.tuple #[.nilIface, .bool false]) w := run_typeAssert_lacksB Tryz.underlying132 (by kernel_rfl) (by kernel_rfl) v xT w
theorem Tryz.noUnwrapsE /- 77 -/ (v : Value) (xT : TypeId) (w : World) : (Instr.typeAssert (.iface 160 v) xT 134 true).run Tryz.prog w = .ok (.tuple #[.nilIface, .bool false]) w := run_typeAssert_lacksB Tryz.underlying134 (by kernel_rfl) (by kernel_rfl) v xT w

set_option maxHeartbeats 2000000 in
theorem is_same (a : Addr) (w : World) :
    Calls Tryz.prog 77 #[.iface 160 (.pointer (some a)), .iface 160 (.pointer (some a))] w fun e w' => e = .returned (.bool true) ∧ w' = w := by
  obtain ⟨i, hi, hcmp⟩ := Option.map_eq_some_iff.1 Tryz.isComp
  obtain ⟨j, hj, hjs⟩ := Option.map_eq_some_iff.1 Tryz.isSize
  have tT := Tryz.callTypeOf
  have cT := Tryz.callComparable
  have mR := Tryz.isMethodComparable
  have heq := run_eql_iface_ptr_same (P := Tryz.prog) w a Tryz.underlying94 Tryz.underlying160 hi hcmp hj
  go_enter Tryz.func77, Tryz.ntmps77
  go_wp2
  refine wp_loop_rounds 1 ?_
  rw [rounds_succ]
  go_wp2
  go_ret
  exact ⟨rfl, rfl⟩
set_option maxHeartbeats 2000000 in
theorem is_other (a b : Addr) (w : World) (hne : a ≠ b) (ha : ∃ c t, w.heap[a.block]? = some (.cells c t (0, 0))) (hb : ∃ c t, w.heap[b.block]? = some (.cells c t (0, 0))) :
    Calls Tryz.prog 77 #[.iface 160 (.pointer (some a)), .iface 160 (.pointer (some b))] w fun e w' => e = .returned (.bool false) ∧ w' = w := by
  obtain ⟨ca, ta, ha⟩ := ha
  obtain ⟨cb, tb, hb⟩ := hb
  obtain ⟨i, hi, hcmp⟩ := Option.map_eq_some_iff.1 Tryz.isComp
  obtain ⟨j, hj, hjs⟩ := Option.map_eq_some_iff.1 Tryz.isSize
  have tT := Tryz.callTypeOf
  have cT := Tryz.callComparable
  have mR := Tryz.isMethodComparable
  have nE := Tryz.noIsE
  have uE := Tryz.noUnwrapE
  have vE := Tryz.noUnwrapsE
  have heq := run_eql_iface_ptr_other (P := Tryz.prog) w Tryz.underlying94 Tryz.underlying160 hi hcmp hj (by rw [hjs]; decide) hne ha hb
  go_enter Tryz.func77, Tryz.ntmps77
  go_wp2
  refine wp_loop_rounds 1 ?_
  rw [rounds_succ]
  go_wp2
  go_ret
  exact ⟨rfl, rfl⟩
end Go.Proofs.YtkmehbgepkilkaaGreatDoor

/- What is kept of the pending things, and DiskCrash, as the program does them. -/
namespace Go.Proofs.YtkmehbgepkilkaaGreatDoor
open Go.RowKit

/-- What is kept of ps. -/
def keptOf : List Int → List (Int × ByteArray) → List (Int × ByteArray)
  | _, [] => []
  | ks, x :: r => (if 0 < ks.getD 0 0 then [x] else []) ++ keptOf (ks.drop 1) r
theorem keptOf_step (ks : List Int) (ps : List (Int × ByteArray)) (k : Nat) (h : k < ps.length) :
    keptOf (ks.drop k) (ps.drop k) = (if 0 < ks.getD k 0 then [ps[k]'h] else []) ++ keptOf (ks.drop (k + 1)) (ps.drop (k + 1)) := by
  rw [List.drop_eq_getElem_cons h, keptOf, List.drop_drop]
  simp
theorem keptOf_mem : ∀ (ks : List Int) (ps : List (Int × ByteArray)) (x : Int × ByteArray), x ∈ keptOf ks ps → x ∈ ps
  | _, [], _, h => h
  | ks, y :: r, x, h => by
    rw [keptOf] at h
    rcases List.mem_append.1 h with h | h
    · split at h
      · rw [List.mem_singleton.1 h]; exact List.mem_cons_self ..
      · cases h
    · exact List.mem_cons_of_mem _ (keptOf_mem _ r x h)
theorem keptOf_len : ∀ (ks : List Int) (ps : List (Int × ByteArray)), (keptOf ks ps).length ≤ ps.length
  | _, [] => Nat.le_refl _
  | ks, y :: r => by
    rw [keptOf, List.length_append]
    have := keptOf_len (ks.drop 1) r
    split
    · simp only [List.length_cons, List.length_nil]; omega
    · simp only [List.length_cons, List.length_nil]; omega
theorem applyP_append : ∀ (a b : List (Int × ByteArray)) (xs : List ByteArray), applyP (a ++ b) xs = applyP b (applyP a xs)
  | [], _, _ => rfl
  | x :: r, b, xs => by rw [List.cons_append, applyP, applyP_append r b, applyP]
theorem applyK_kept : ∀ (ks : List Int) (ps : List (Int × ByteArray)) (xs : List ByteArray), applyK ks ps xs = applyP (keptOf ks ps) xs
  | _, [], _ => rfl
  | ks, x :: r, xs => by
    rw [applyK, keptOf, applyP_append, applyK_kept (ks.drop 1) r]
    congr 1
    split <;> rfl

set_option maxRecDepth 100000 in
set_option maxHeartbeats 4000000 in
theorem keptPending_any (vp vk : Value) (ps : List (Int × ByteArray)) (ks : List Int) (w : World) (hp : ReadsP w vp ps) (hk : ReadsI w vk ks) (hn : ps.length ≤ 200) (hn2 : ks.length ≤ 400) :
    Calls Tryz.prog 53 #[vp, vk] w fun e w' => (∃ up, e = .returned up ∧ OwnP 61 w.heap.size w' up (keptOf ks ps)) ∧ Below w.heap.size w w' := by
  obtain ⟨j0, hj, hy0, hy1, hy2⟩ := info_parts Tryz.infoPend
  have hzp : (Value.agg #[.int .i64 0, .string ⟨#[]⟩]).cells.size = 2 := by simp [Value.cells]
  have HP := hide hp
  have HK := hide hk
  obtain ⟨p2, c2, rfl, h2r⟩ := hp
  obtain ⟨p3, c3, rfl, h3r⟩ := hk
  clear h2r h3r
  go_enter Tryz.func53, Tryz.ntmps53
  go_wp2_with fail
  go_loopw [5, 10] (fun v i wr => ∃ (k : Nat) (qs : List (Int × ByteArray)), k ≤ ps.length ∧ i = .int .i64 k ∧ qs.length ≤ k ∧ Hid (keptOf ks ps = qs ++ keptOf (ks.drop k) (ps.drop k)) ∧ Hid (OwnP 61 w.heap.size wr v qs) ∧ Hid (qs = [] → v = .slice none 0 0) ∧ Hid (Below w.heap.size w wr)) (fun _ i _ => ps.length - (intOf i).toNat)
  case atStart => exact ⟨0, [], Nat.zero_le _, rfl, Nat.le_refl _, rfl, OwnP.none _ _ _, fun _ => rfl, Below.refl _ _⟩
  case round =>
    obtain ⟨k, qs, hk, rfl, hql, HA, HO, HE, HB⟩ := hrel
    obtain ⟨q1, m1, d1, rfl⟩ := HO.out.isSlice
    by_cases hlt : k < ps.length
    · obtain ⟨g, off, hp, hg, hc⟩ : ∃ g off, p2 = some ⟨g, off, none⟩ ∧ _ := by
        obtain ⟨p, cap, he, _, _, _, h4⟩ := HP.out
        cases he
        exact h4 (by omega)
      subst hp
      obtain ⟨hc0, hc1⟩ := hc k hlt
      have hk0 := (HB.out.cell (p := ⟨g, off + k * 2, none⟩) hg).trans hc0
      have hk1 := (HB.out.cell (p := ⟨g, off + k * 2 + 1, none⟩) hg).trans hc1
      have hki : (k : Int) < (ps.length : Int) := by omega
      have HST := hide (keptOf_step ks ps k hlt)
      have hsz : (ps[k]'hlt).2.size ≤ maxLen := by obtain ⟨p, cap, he, _, _, h3, _⟩ := HP.out; exact h3 _ (List.getElem_mem hlt)
      obtain ⟨A, hA⟩ : ∃ A, A = (ps[k]'hlt).1 := ⟨_, rfl⟩
      obtain ⟨D, hD⟩ : ∃ D, D = (ps[k]'hlt).2 := ⟨_, rfl⟩
      have HAD := hide (show ps[k]'hlt = (A, D) by rw [hA, hD])
      rw [← hA] at hk0
      rw [← hD] at hk1 hsz
      rw [HAD.out] at HST
      have bn := below_new wr (.cells #[.int .i64 A, .string D] 61)
      have HPn := hide (row_new wr [.int .i64 A, .string D] 61)
      have HBn := hide (HB.out.trans (bn.mono HB.out.size))
      have HOn := hide (HO.out.below bn (Nat.le_refl _))
      have HSZ := hide hsz
      clear hA hD hc hc0 hc1 bn hsz hg
      by_cases hkk : k < ks.length ∧ 0 < ks.getD k 0
      · obtain ⟨g3, o3, rfl, hg3, hc3⟩ : ∃ g off, p3 = some ⟨g, off, none⟩ ∧ _ := by
          obtain ⟨p, cap, he, _, _, h4⟩ := HK.out
          cases he
          exact h4 (by omega)
        have hck := (HBn.out.cell (p := ⟨g3, o3 + k, none⟩) hg3).trans (hc3 k hkk.1)
        have e1 : ks.getD k 0 = ks[k]'hkk.1 := by simp [List.getD, hkk.1]
        have tpos : 0 < ks[k]'hkk.1 := by rw [← e1]; exact hkk.2
        obtain ⟨z, hz⟩ : ∃ z, z = ks[k]'hkk.1 := ⟨_, rfl⟩
        rw [← hz] at hck tpos
        have HU := hide (show keptOf ks ps = (qs ++ [(A, D)]) ++ keptOf (ks.drop (k + 1)) (ps.drop (k + 1)) by rw [HA.out, HST.out, if_pos hkk.2, List.append_assoc])
        have tk : (k : Int) < (ks.length : Int) := by omega
        have bx := below_new (wr.alloc (.cells #[.int .i64 A, .string D] 61)) (.cells #[.int .i64 A, .string D] 61)
        have HOX := hide (HOn.out.below bx (Nat.le_refl _))
        have HBX := hide (HBn.out.trans (bx.mono HBn.out.size))
        have RX := row_new (wr.alloc (.cells #[.int .i64 A, .string D] 61)) [.int .i64 A, .string D] 61
        simp only [World.size_alloc] at RX
        have HRX := hide RX
        clear hz e1 hc3 hg3 hkk bx RX
        go_wp2_with (at_builtin; refine wpList_pushQ _ rfl _ _ 24 rfl w.heap.size 61 j0 (.agg #[.int .i64 0, .string ⟨#[]⟩]) Tryz.underlying24 hj hy0 hy1 hy2 hzp (.slice q1 m1 d1) rfl qs HOX.out HE.out (by omega) HBX.out.size A D HSZ.out (wr.heap.size + 1) 1 rfl HRX.out ?_
                     intro q3 d3 w4 ho3 hk3 hl3
                     have HO3 := hide ho3
                     have HB4 := hide (hk3.toBelow HBX.out HBX.out.size (fun x hx => (HO.out.leads x hx).1))
                     clear ho3 hk3 hl3)
        go_roundw
        case rel => exact ⟨k + 1, qs ++ [(A, D)], by omega, by go_num, by simp; omega, HU, by simpa using HO3, hide (fun h => by simp at h), HB4⟩
        case measure => simp [intOf]; omega
      · have HU := hide (show keptOf ks ps = qs ++ keptOf (ks.drop (k + 1)) (ps.drop (k + 1)) by
          rw [HA.out, HST.out, if_neg (fun h => hkk ⟨by
            rcases Nat.lt_or_ge k ks.length with h' | h'
            · exact h'
            · simp [List.getD, List.getElem?_eq_none h'] at h, h⟩), List.nil_append])
        by_cases hlk : k < ks.length
        · obtain ⟨g3, o3, rfl, hg3, hc3⟩ : ∃ g off, p3 = some ⟨g, off, none⟩ ∧ _ := by
            obtain ⟨p, cap, he, _, _, h4⟩ := HK.out
            cases he
            exact h4 (by omega)
          have hck := (HBn.out.cell (p := ⟨g3, o3 + k, none⟩) hg3).trans (hc3 k hlk)
          have tneg : ¬ 0 < ks[k]'hlk := fun h => hkk ⟨hlk, by simpa [List.getD, hlk] using h⟩
          obtain ⟨z, hz⟩ : ∃ z, z = ks[k]'hlk := ⟨_, rfl⟩
          rw [← hz] at hck tneg
          have tk : (k : Int) < (ks.length : Int) := by omega
          clear hz hc3 hg3 hkk
          go_wp2
          go_roundw
          case rel => exact ⟨k + 1, qs, by omega, by go_num, by omega, HU, HOn, HE, HBn⟩
          case measure => simp [intOf]; omega
        · have tk : decide ((k : Int) < (ks.length : Int)) = false := decide_eq_false (by omega)
          clear hkk
          go_wp2
          go_roundw
          case rel => exact ⟨k + 1, qs, by omega, by go_num, by omega, HU, HOn, HE, HBn⟩
          case measure => simp [intOf]; omega
    · have HF := hide (show keptOf ks ps = qs by
        have e : ps.drop k = [] := List.drop_eq_nil_of_le (by omega)
        rw [HA.out, e]; simp [keptOf])
      go_wp2
      go_ret
      exact ⟨⟨_, rfl, by rw [HF.out]; exact HO.out⟩, HB.out⟩
end Go.Proofs.YtkmehbgepkilkaaGreatDoor

/- The codes of the program's errors; what it says of a read and of a write. -/
namespace Go.Proofs.YtkmehbgepkilkaaGreatDoor
open Go.RowKit

/-- An error of the three, and its code. -/
abbrev errV (a : Addr) : Value := .iface 160 (.pointer (some a))
set_option maxHeartbeats 2000000 in
theorem code_form (aF aR aU : Addr) (w : World) (hS : Sents aF aR aU w) :
    Calls Tryz.prog 59 #[.iface 160 (.pointer (some aF))] w fun e w' => e = .returned (.int .i64 1) ∧ w' = w := by
  obtain ⟨⟨c1, c2⟩, c3, n1, n2, n3, r1, r2, r3⟩ := hS
  clear n1 n2 n3 r1 r2 r3
  go_enter Tryz.func59, Tryz.ntmps59
  go_wp2_with fail
  refine (is_same aF w).mono ?_
  rintro e w1 ⟨rfl, rfl⟩
  go_wp2
  go_ret
  exact ⟨rfl, rfl⟩
set_option maxHeartbeats 2000000 in
theorem code_range (aF aR aU : Addr) (w : World) (hS : Sents aF aR aU w) :
    Calls Tryz.prog 59 #[.iface 160 (.pointer (some aR))] w fun e w' => e = .returned (.int .i64 8) ∧ w' = w := by
  obtain ⟨⟨c1, c2⟩, c3, n1, n2, n3, r1, r2, r3⟩ := hS
  have N1 := hide n1
  clear n1 n2 n3
  go_enter Tryz.func59, Tryz.ntmps59
  go_wp2_with fail
  refine (is_other aR aF w (fun e => N1.out e.symm) r2 r1).mono ?_
  rintro e w1 ⟨rfl, rfl⟩
  go_wp2_with fail
  refine (is_same aR w1).mono ?_
  rintro e w2 ⟨rfl, rfl⟩
  go_wp2
  go_ret
  exact ⟨rfl, rfl⟩
set_option maxHeartbeats 2000000 in
theorem code_full (aF aR aU : Addr) (w : World) (hS : Sents aF aR aU w) :
    Calls Tryz.prog 59 #[.iface 160 (.pointer (some aU))] w fun e w' => e = .returned (.int .i64 9) ∧ w' = w := by
  obtain ⟨⟨c1, c2⟩, c3, n1, n2, n3, r1, r2, r3⟩ := hS
  have N2 := hide n2
  have N3 := hide n3
  clear n1 n2 n3
  go_enter Tryz.func59, Tryz.ntmps59
  go_wp2_with fail
  refine (is_other aU aF w (fun e => N2.out e.symm) r3 r1).mono ?_
  rintro e w1 ⟨rfl, rfl⟩
  go_wp2_with fail
  refine (is_other aU aR w1 (fun e => N3.out e.symm) r3 r2).mono ?_
  rintro e w2 ⟨rfl, rfl⟩
  go_wp2_with fail
  refine (is_same aU w2).mono ?_
  rintro e w3 ⟨rfl, rfl⟩
  go_wp2
  go_ret
  exact ⟨rfl, rfl⟩
/-- The address a is one of the three errors, c its code. -/
def CodeIs (aF aR aU a : Addr) (c : Int) : Prop := (a = aF ∧ c = 1) ∨ (a = aR ∧ c = 8) ∨ (a = aU ∧ c = 9)
theorem code_any (aF aR aU a : Addr) (c : Int) (w : World) (hS : Sents aF aR aU w) (h : CodeIs aF aR aU a c) :
    Calls Tryz.prog 59 #[.iface 160 (.pointer (some a))] w fun e w' => e = .returned (.int .i64 c) ∧ w' = w := by
  rcases h with ⟨rfl, rfl⟩ | ⟨rfl, rfl⟩ | ⟨rfl, rfl⟩
  · exact code_form _ _ _ w hS
  · exact code_range _ _ _ w hS
  · exact code_full _ _ _ w hS

/-- What is told of a write. -/
def writeFaultOf (vF vR vU : Value) (xs : List ByteArray) (ps : List (Int × ByteArray)) (a : Int) (d : ByteArray) : Value :=
  if right xs ps then (if d.size ≤ 64 then (if 0 ≤ a ∧ a ≤ (xs.length : Int) - 1 then (if ps.length = 200 then vU else .nilIface) else vR) else vF) else vF
set_option maxHeartbeats 4000000 in
theorem writeFault_any (vs vp : Value) (xs : List ByteArray) (ps : List (Int × ByteArray)) (a : Int) (d : ByteArray) (tF : TypeId) (uF : Value) (tR : TypeId) (uR : Value) (tU : TypeId) (uU : Value) (w : World) (hn : xs.length ≤ 1048576) (hn2 : ps.length ≤ 1048576) (hd : d.size ≤ maxLen) (hr : Reads w vs xs) (hp : ReadsP w vp ps)
    (hF : w.cell? ⟨0, 0, none⟩ = some (.iface tF uF)) (hR : w.cell? ⟨1, 0, none⟩ = some (.iface tR uR)) (hU : w.cell? ⟨2, 0, none⟩ = some (.iface tU uU)) :
    Calls Tryz.prog 95 #[.agg #[vs, vp], .agg #[.int .i64 a, .string d]] w fun e w' => e = .returned (writeFaultOf (.iface tF uF) (.iface tR uR) (.iface tU uU) xs ps a d) ∧ Below w.heap.size w w' := by
  have hb0 : Below w.heap.size w ((w.alloc (.cells #[vs, vp] 26)).alloc (.cells #[.int .i64 a, .string d] 61)) := ((Below.refl _ _).alloc (Nat.le_refl _) _).alloc (by simp) _
  have HR := hide (hr.below hb0 (Nat.le_refl _))
  have HP := hide (hp.below hb0 (Nat.le_refl _))
  have HCF := hide (cell_old hb0 hF)
  have HCR := hide (cell_old hb0 hR)
  have HCU := hide (cell_old hb0 hU)
  have HD := hide hd
  obtain ⟨p1, c1, rfl, hq⟩ := hr
  obtain ⟨p2, c2, rfl, hq2⟩ := hp
  have HB0 := hide hb0
  have HN0 := hide ((row_new w [.slice p1 xs.length c1, .slice p2 ps.length c2] 26).alloc (.cells #[.int .i64 a, .string d] 61))
  have R1 := row_new (w.alloc (.cells #[.slice p1 xs.length c1, .slice p2 ps.length c2] 26)) [.int .i64 a, .string d] 61
  simp only [World.size_alloc] at R1
  have HN1 := hide R1
  clear hb0 hq hq2 hF hR hU R1 hd
  cases hok : right xs ps with
  | false =>
    have HE := hide (show diskFaultOf (.iface tF uF) xs ps = .iface tF uF by unfold diskFaultOf; rw [hok]; rfl)
    have HF := hide (show writeFaultOf (.iface tF uF) (.iface tR uR) (.iface tU uU) xs ps a d = .iface tF uF by unfold writeFaultOf; rw [hok]; rfl)
    rw [HF.out]
    go_enter Tryz.func95, Tryz.ntmps95
    go_wp2_with fail
    refine (diskFault_any _ _ xs ps tF uF tR uR _ hn hn2 HR.out HP.out HCF.out HCR.out).mono ?_
    rw [HE.out]
    rintro e w1 ⟨rfl, hb1⟩
    have HB1 := hide (HB0.out.trans (hb1.mono HB0.out.size))
    clear hb1
    go_wp2
    go_ret
    exact ⟨rfl, HB1.out⟩
  | true =>
    obtain ⟨l1, l2, l3⟩ := right_len hok
    have HE := hide (show diskFaultOf (.iface tF uF) xs ps = .nilIface by unfold diskFaultOf; rw [hok]; rfl)
    have HF := hide (show writeFaultOf (.iface tF uF) (.iface tR uR) (.iface tU uU) xs ps a d = if d.size ≤ 64 then (if 0 ≤ a ∧ a ≤ (xs.length : Int) - 1 then (if ps.length = 200 then .iface tU uU else .nilIface) else .iface tR uR) else .iface tF uF by unfold writeFaultOf; rw [hok, if_pos rfl])
    have HG := hide (show pendFault (.iface tF uF) (.iface tR uR) a d xs.length = if d.size ≤ 64 then (if 0 ≤ a ∧ a ≤ (xs.length : Int) - 1 then .nilIface else .iface tR uR) else .iface tF uF from rfl)
    rw [HF.out]
    go_enter Tryz.func95, Tryz.ntmps95
    go_wp2_with fail
    refine (diskFault_any _ _ xs ps tF uF tR uR _ hn hn2 HR.out HP.out HCF.out HCR.out).mono ?_
    rw [HE.out]
    rintro e w1 ⟨rfl, hb1⟩
    have HB1 := hide (HB0.out.trans (hb1.mono HB0.out.size))
    have HM1 := hide (Row.after hb1 HN0.out)
    have a0 : w1.cell? ⟨w.heap.size, 0, none⟩ = some (.slice p1 xs.length c1) := HM1.out.cell 0
    have b0 : w1.cell? ⟨w.heap.size + 1, 0, none⟩ = some (.int .i64 a) := (Row.after hb1 HN1.out).cell 0
    have b1 : w1.cell? ⟨w.heap.size + 1, 1, none⟩ = some (.string d) := (Row.after hb1 HN1.out).cell 1
    have HCF1 := hide (cell_old hb1 HCF.out)
    have HCR1 := hide (cell_old hb1 HCR.out)
    have HCU1 := hide (cell_old hb1 HCU.out)
    clear hb1
    go_wp2_with fail
    refine (pendingFault_any a d xs.length _ _ _ HD.out l1 l2 HCF1.out HCR1.out).mono ?_
    rw [HG.out]
    rintro e w2 ⟨rfl, hb2⟩
    have HB2 := hide (HB1.out.trans (hb2.mono HB1.out.size))
    have a1 : w2.cell? ⟨w.heap.size, 1, none⟩ = some (.slice p2 ps.length c2) := (Row.after hb2 HM1.out).cell 1
    have cU : w2.cell? ⟨2, 0, none⟩ = some (.iface tU uU) := cell_old hb2 HCU1.out
    clear hb2 a0 b0 b1 HF HG HE hok
    by_cases hz : d.size ≤ 64
    · by_cases hin : 0 ≤ a ∧ a ≤ (xs.length : Int) - 1
      · rw [if_pos hz, if_pos hin]
        have HZ := hide hz
        have HI := hide hin
        clear hz hin
        by_cases h2 : ps.length = 200
        · have HT := hide h2
          have t2 : (ps.length : Int) = 200 := by omega
          clear h2
          go_wp2
          go_ret
          exact ⟨rfl, HB2.out⟩
        · have HT := hide h2
          have t2 : ¬ ((ps.length : Int) = 200) := by omega
          clear h2
          go_wp2
          go_ret
          exact ⟨rfl, HB2.out⟩
      · rw [if_pos hz, if_neg hin]
        have HZ := hide hz
        have HI := hide hin
        clear hz hin
        go_wp2
        go_ret
        exact ⟨rfl, HB2.out⟩
    · rw [if_neg hz]
      have HZ := hide hz
      clear hz
      go_wp2
      go_ret
      exact ⟨rfl, HB2.out⟩
end Go.Proofs.YtkmehbgepkilkaaGreatDoor

/- What the program's area panics with, and what recovers it. -/
namespace Go.Proofs.YtkmehbgepkilkaaGreatDoor
open Go.RowKit

/-- The panic with a code. -/
abbrev fault (c : Int) : List PanicEntry := [{ v := .iface 90 (.agg #[.int .i64 c]), recovered := false }]

theorem refuse_no (c : Int) (w : World) :
    Calls Tryz.prog 32 #[.bool false, .int .i64 c] w fun e w' => e = .returned (.tuple #[]) ∧ w' = w := by
  go_enter Tryz.func32, Tryz.ntmps32
  go_wp2
  go_end0
  exact ⟨rfl, rfl⟩
theorem refuse_yes (c : Int) (w : World) :
    Calls Tryz.prog 32 #[.bool true, .int .i64 c] w fun e w' => e = .panicked (fault c) ∧ w' = w := by
  go_enter Tryz.func32, Tryz.ntmps32
  go_wp2
  exact ⟨rfl, rfl, rfl⟩
theorem refuseCode_no (w : World) :
    Calls Tryz.prog 58 #[.int .i64 0] w fun e w' => e = .returned (.tuple #[]) ∧ w' = w := by
  go_enter Tryz.func58, Tryz.ntmps58
  go_wp2_with fail
  refine (refuse_no _ _).mono ?_
  rintro e w1 ⟨rfl, rfl⟩
  go_wp2
  go_end0
  exact ⟨rfl, rfl⟩
theorem refuseCode_yes (c : Int) (w : World) (hc : c ≠ 0) :
    Calls Tryz.prog 58 #[.int .i64 c] w fun e w' => e = .panicked (fault c) ∧ w' = w := by
  have hc' : (c != 0) = true := by simpa using hc
  go_enter Tryz.func58, Tryz.ntmps58
  go_wp2_with fail
  refine (refuse_yes _ _).mono ?_
  rintro e w1 ⟨rfl, rfl⟩
  go_wp2
  exact ⟨rfl, rfl, rfl⟩

theorem Tryz.nilNot (T : TypeId) (v : Value) (w : World) : (binOp .eql 94 .nilIface (.iface T v)).run Tryz.prog w = .ok (.bool false) w := by kernel_rfl
set_option maxRecDepth 100000 in
theorem is_nil (a : Addr) (w : World) :
    Calls Tryz.prog 77 #[.nilIface, .iface 160 (.pointer (some a))] w fun e w' => e = .returned (.bool false) ∧ w' = w := by
  have hn := Tryz.nilNot
  go_enter Tryz.func77, Tryz.ntmps77
  go_wp2
  go_ret
  exact ⟨rfl, rfl⟩
set_option maxHeartbeats 2000000 in
theorem code_nil (aF aR aU : Addr) (w : World) (hS : Sents aF aR aU w) :
    Calls Tryz.prog 59 #[.nilIface] w fun e w' => e = .returned (.int .i64 0) ∧ w' = w := by
  obtain ⟨⟨c1, c2⟩, c3, n1, n2, n3, r1, r2, r3⟩ := hS
  clear n1 n2 n3 r1 r2 r3
  go_enter Tryz.func59, Tryz.ntmps59
  go_wp2_with fail
  refine (is_nil _ _).mono ?_
  rintro e w1 ⟨rfl, rfl⟩
  go_wp2_with fail
  refine (is_nil _ _).mono ?_
  rintro e w2 ⟨rfl, rfl⟩
  go_wp2_with fail
  refine (is_nil _ _).mono ?_
  rintro e w3 ⟨rfl, rfl⟩
  go_wp2
  go_ret
  exact ⟨rfl, rfl⟩

set_option maxHeartbeats 2000000 in
theorem refuseDisk_any (vs vp : Value) (xs : List ByteArray) (ps : List (Int × ByteArray)) (aF aR aU : Addr) (w : World) (hn : xs.length ≤ 1048576) (hn2 : ps.length ≤ 1048576) (hr : Reads w vs xs) (hp : ReadsP w vp ps) (hS : Sents aF aR aU w) :
    Calls Tryz.prog 28 #[.agg #[vs, vp]] w fun e w' => (if right xs ps = true then e = .returned (.tuple #[]) else e = .panicked (fault 1)) ∧ Below w.heap.size w w' := by
  have hb0 : Below w.heap.size w (w.alloc (.cells #[vs, vp] 26)) := (Below.refl _ _).alloc (Nat.le_refl _) _
  have HR := hide (hr.below hb0 (Nat.le_refl _))
  have HP := hide (hp.below hb0 (Nat.le_refl _))
  have HS := hide (Stab.go hb0 hS)
  have HB0 := hide hb0
  obtain ⟨p1, c1, rfl, hq⟩ := hr
  obtain ⟨p2, c2, rfl, hq2⟩ := hp
  clear hb0 hq hq2 hS
  cases hok : right xs ps with
  | true =>
    have HE := hide (show diskFaultOf (.iface 160 (.pointer (some aF))) xs ps = .nilIface by unfold diskFaultOf; rw [hok]; rfl)
    go_enter Tryz.func28, Tryz.ntmps28
    go_wp2_with fail
    refine (diskFault_any _ _ xs ps _ _ _ _ _ hn hn2 HR.out HP.out HS.out.1.1 HS.out.1.2).mono ?_
    rw [HE.out]
    rintro e w1 ⟨rfl, hb1⟩
    have HB1 := hide (HB0.out.trans (hb1.mono HB0.out.size))
    have HS1 := hide (Stab.go hb1 HS.out)
    clear hb1
    go_wp2_with fail
    refine (code_nil aF aR aU _ HS1.out).mono ?_
    rintro e w2 ⟨rfl, rfl⟩
    go_wp2_with fail
    refine (refuseCode_no _).mono ?_
    rintro e w3 ⟨rfl, rfl⟩
    go_wp2
    go_end0
    exact ⟨by simp, HB1.out⟩
  | false =>
    have HE := hide (show diskFaultOf (.iface 160 (.pointer (some aF))) xs ps = .iface 160 (.pointer (some aF)) by unfold diskFaultOf; rw [hok]; rfl)
    go_enter Tryz.func28, Tryz.ntmps28
    go_wp2_with fail
    refine (diskFault_any _ _ xs ps _ _ _ _ _ hn hn2 HR.out HP.out HS.out.1.1 HS.out.1.2).mono ?_
    rw [HE.out]
    rintro e w1 ⟨rfl, hb1⟩
    have HB1 := hide (HB0.out.trans (hb1.mono HB0.out.size))
    have HS1 := hide (Stab.go hb1 HS.out)
    clear hb1
    go_wp2_with fail
    refine (code_form aF aR aU _ HS1.out).mono ?_
    rintro e w2 ⟨rfl, rfl⟩
    go_wp2_with fail
    refine (refuseCode_yes 1 _ (by omega)).mono ?_
    rintro e w3 ⟨rfl, rfl⟩
    go_wp2
    exact ⟨rfl, by simp, HB1.out⟩

set_option maxHeartbeats 2000000 in
theorem recovered_nil (a b : Value) (t : ByteArray) (g c : Int) (w : World) (h1 : ∃ p n k, a = .slice p n k) (h2 : ∃ p n k, b = .slice p n k) :
    Calls Tryz.prog 27 #[.agg #[a, b, .string t, .int .i64 g, .int .i64 c], .nilIface] w fun e w' => e = .returned (.agg #[a, b, .string t, .int .i64 g, .int .i64 c]) ∧ Below w.heap.size w w' := by
  obtain ⟨p1, n1, k1, rfl⟩ := h1
  obtain ⟨p2, n2, k2, rfl⟩ := h2
  go_enter Tryz.func27, Tryz.ntmps27
  go_wp2
  exact bodyPost_ret (v := .agg #[.slice p1 n1 k1, .slice p2 n2 k2, .string t, .int .i64 g, .int .i64 c]) (by simp [results, Tryz.results27, go_sem]) rfl ⟨rfl, ((Below.refl _ _).alloc (Nat.le_refl _) _).alloc (by simp) _⟩
theorem Tryz.faultOf (v : Value) (xT : TypeId) (w : World) : (Instr.typeAssert (.iface 90 v) xT 90 false).run Tryz.prog w = .ok v w := by kernel_rfl
theorem Tryz.faultCode (v : Value) (w : World) : (Instr.field 90 (.agg #[v]) 0).run Tryz.prog w = .ok v w := by kernel_rfl
set_option maxRecDepth 100000 in
set_option maxHeartbeats 2000000 in
theorem recovered_fault (a b : Value) (t : ByteArray) (g c n : Int) (w : World) (h1 : ∃ p n k, a = .slice p n k) (h2 : ∃ p n k, b = .slice p n k) :
    Calls Tryz.prog 27 #[.agg #[a, b, .string t, .int .i64 g, .int .i64 c], .iface 90 (.agg #[.int .i64 n])] w fun e w' => e = .returned (.agg #[.slice none 0 0, .slice none 0 0, .string ⟨#[]⟩, .int .i64 0, .int .i64 n]) ∧ Below w.heap.size w w' := by
  obtain ⟨p1, n1, k1, rfl⟩ := h1
  obtain ⟨p2, n2, k2, rfl⟩ := h2
  have hf := Tryz.faultOf
  have hg := Tryz.faultCode
  go_enter Tryz.func27, Tryz.ntmps27
  go_wp2
  exact bodyPost_ret (v := .agg #[.slice none 0 0, .slice none 0 0, .string ⟨#[]⟩, .int .i64 0, .int .i64 n]) (by simp [results, Tryz.results27, go_sem]) rfl ⟨rfl, ((Below.refl _ _).alloc (Nat.le_refl _) _).alloc (by simp) _⟩
end Go.Proofs.YtkmehbgepkilkaaGreatDoor

/- DiskRead and DiskFlush, as the program does them. -/
namespace Go.Proofs.YtkmehbgepkilkaaGreatDoor
open Go.RowKit

set_option maxRecDepth 100000 in
set_option maxHeartbeats 4000000 in
theorem implFlush_any (vs vp : Value) (xs : List ByteArray) (ps : List (Int × ByteArray)) (aF aR aU : Addr) (w : World) (hn : xs.length ≤ 1048576) (hn2 : ps.length ≤ 1048576) (hr : Reads w vs xs) (hp : ReadsP w vp ps) (hS : Sents aF aR aU w) :
    Calls Tryz.prog 82 #[.agg #[vs, vp]] w fun e w' => OutIs w.heap.size e w' (flushOut xs ps) ∧ Below w.heap.size w w' := by
  have hb0 : Below w.heap.size w ((w.alloc (.cells #[vs, vp] 26)).alloc (.cells #[.slice none 0 0, .slice none 0 0, .string ⟨#[]⟩, .int .i64 0] 69)) :=
    ((Below.refl _ _).alloc (Nat.le_refl _) _).alloc (by simp) _
  have HR := hide (hr.below hb0 (Nat.le_refl _))
  have HP := hide (hp.below hb0 (Nat.le_refl _))
  have HS := hide (Stab.go hb0 hS)
  have HB0 := hide hb0
  obtain ⟨p1, c1, rfl, hq⟩ := hr
  obtain ⟨p2, c2, rfl, hq2⟩ := hp
  have HN0 := hide ((row_new w [.slice p1 xs.length c1, .slice p2 ps.length c2] 26).alloc (.cells #[.slice none 0 0, .slice none 0 0, .string ⟨#[]⟩, .int .i64 0] 69))
  have R1 := row_new (w.alloc (.cells #[.slice p1 xs.length c1, .slice p2 ps.length c2] 26)) [.slice none 0 0, .slice none 0 0, .string ⟨#[]⟩, .int .i64 0] 69
  simp only [World.size_alloc] at R1
  have HR1 := hide R1
  clear hb0 hq hq2 R1 hS
  cases hok : right xs ps with
  | false =>
    have HE := hide (show diskFaultOf (errV aF) xs ps = .iface 160 (.pointer (some aF)) by unfold diskFaultOf; rw [hok]; rfl)
    have HF := hide (show flushOut xs ps = illOut 1 by unfold flushOut; rw [hok]; rfl)
    rw [HF.out]
    go_enter Tryz.func82, Tryz.ntmps82
    go_wp2_with fail
    refine (diskFault_any _ _ xs ps _ _ _ _ _ hn hn2 HR.out HP.out HS.out.1.1 HS.out.1.2).mono ?_
    rw [show diskFaultOf _ xs ps = Value.iface 160 (.pointer (some aF)) from HE.out]
    rintro e w1 ⟨rfl, hb1⟩
    have HB1 := hide (HB0.out.trans (hb1.mono HB0.out.size))
    have HX1 := hide (Row.after hb1 HR1.out)
    have HS1 := hide (Stab.go hb1 HS.out)
    clear hb1
    go_wp2_with fail
    refine (code_form aF aR aU _ HS1.out).mono ?_
    rintro e w2 ⟨rfl, rfl⟩
    have c0 : w2.cell? ⟨w.heap.size + 1, 0, none⟩ = some (.slice none 0 0) := HX1.out.cell 0
    have c1' : w2.cell? ⟨w.heap.size + 1, 1, none⟩ = some (.slice none 0 0) := HX1.out.cell 1
    have c2' : w2.cell? ⟨w.heap.size + 1, 2, none⟩ = some (.string ⟨#[]⟩) := HX1.out.cell 2
    have c3 : w2.cell? ⟨w.heap.size + 1, 3, none⟩ = some (.int .i64 0) := HX1.out.cell 3
    have f0 := HX1.out.free 0
    have f1 := HX1.out.free 1
    have f2 := HX1.out.free 2
    have f3 := HX1.out.free 3
    go_wp2
    obtain ⟨q0, q1, q2, q3, KF⟩ := four HX1.out (.slice none 0 0) (.slice none 0 0) (.string ⟨#[]⟩) (.int .i64 1)
    exact bodyPost_ret (v := .agg #[.slice none 0 0, .slice none 0 0, .string ⟨#[]⟩, .int .i64 1]) (by simp [results, Tryz.results82, go_sem, q0, q1, q2, q3]) rfl
      ⟨⟨_, _, rfl, OwnS.none _ _ _, OwnP.none _ _ _, fun _ h => by cases h⟩, KF.toBelow HB1.out HB1.out.size (by simp)⟩
  | true =>
    obtain ⟨l1, l2, l3⟩ := right_len hok
    have HSM := hide (small_of_right hok)
    have HAT := hide (fun j hj => And.intro (right_at hok j hj).1 (right_at hok j hj).2.1)
    have HE := hide (show diskFaultOf (errV aF) xs ps = .nilIface by unfold diskFaultOf; rw [hok]; rfl)
    have HF := hide (show flushOut xs ps = ⟨applyP ps xs, [], ⟨#[]⟩, 0⟩ by unfold flushOut; rw [hok]; rfl)
    rw [HF.out]
    go_enter Tryz.func82, Tryz.ntmps82
    go_wp2_with fail
    refine (diskFault_any _ _ xs ps _ _ _ _ _ hn hn2 HR.out HP.out HS.out.1.1 HS.out.1.2).mono ?_
    rw [show diskFaultOf _ xs ps = Value.nilIface from HE.out]
    rintro e w1 ⟨rfl, hb1⟩
    have HB1 := hide (HB0.out.trans (hb1.mono HB0.out.size))
    have HX1 := hide (Row.after hb1 HR1.out)
    have a0 : w1.cell? ⟨w.heap.size, 0, none⟩ = some (.slice p1 xs.length c1) := (Row.after hb1 HN0.out).cell 0
    have a1 : w1.cell? ⟨w.heap.size, 1, none⟩ = some (.slice p2 ps.length c2) := (Row.after hb1 HN0.out).cell 1
    have HRa := hide (HR.out.below hb1 (Nat.le_refl _))
    have HPa := hide (HP.out.below hb1 (Nat.le_refl _))
    clear hb1 hok
    go_wp2_with fail
    refine (settle_any _ _ xs ps _ HRa.out HPa.out l1 l2 l3 HAT.out).mono ?_
    rintro e w2 ⟨rfl, hb2⟩
    have HB2 := hide (HB1.out.trans (hb2.mono HB1.out.size))
    have HX2 := hide (Row.after hb2 HX1.out)
    clear hb2 a0 a1
    go_wp2_with fail
    refine (bankDisk_any (applyP ps xs) _ (by rw [applyP_len]; exact l2) (applyP_mem ps xs _ HSM.out.2.1 HSM.out.2.2.2)).mono ?_
    rintro e w3 ⟨⟨us, up, rfl, o1, o2, dd⟩, hb3⟩
    obtain ⟨q1, m1, d1, rfl⟩ := o1.isSlice
    obtain ⟨q2, m2, d2, rfl⟩ := o2.isSlice
    have hl2 := HX2.out.lt
    have HB3 := hide (HB2.out.trans (hb3.mono HB2.out.size))
    have R3 := Row.after hb3 HX2.out
    have c0 : w3.cell? ⟨w.heap.size + 1, 0, none⟩ = some (.slice none 0 0) := R3.cell 0
    have c1' : w3.cell? ⟨w.heap.size + 1, 1, none⟩ = some (.slice none 0 0) := R3.cell 1
    have c2' : w3.cell? ⟨w.heap.size + 1, 2, none⟩ = some (.string ⟨#[]⟩) := R3.cell 2
    have c3 : w3.cell? ⟨w.heap.size + 1, 3, none⟩ = some (.int .i64 0) := R3.cell 3
    have f0 := R3.free 0
    have f1 := R3.free 1
    have f2 := R3.free 2
    have f3 := R3.free 3
    have HR3 := hide R3
    have HO1 := hide o1
    have HO2 := hide o2
    have HD := hide dd
    clear hb3 R3 o1 o2 dd
    go_wp2
    obtain ⟨z0, z1, z2, z3, KF⟩ := four HR3.out (.slice q1 m1 d1) (.slice q2 m2 d2) (.string ⟨#[]⟩) (.int .i64 0)
    exact bodyPost_ret (v := .agg #[.slice q1 m1 d1, .slice q2 m2 d2, .string ⟨#[]⟩, .int .i64 0]) (by simp [results, Tryz.results82, go_sem, z0, z1, z2, z3]) rfl
      ⟨⟨_, _, rfl, (HO1.out.kept KF (fun x hx => by have := HO1.out.leads x hx; simp; omega)).mono (by omega), (HO2.out.kept KF (fun x hx => by have := HO2.out.leads x hx; simp; omega)).mono (by omega), HD.out⟩, KF.toBelow HB3.out HB3.out.size (by simp)⟩
end Go.Proofs.YtkmehbgepkilkaaGreatDoor

/- DiskWrite, as the program does it. -/
namespace Go.Proofs.YtkmehbgepkilkaaGreatDoor
open Go.RowKit

set_option maxHeartbeats 4000000 in
theorem implWrite_size (vs vp : Value) (xs : List ByteArray) (ps : List (Int × ByteArray)) (a : Int) (d : ByteArray) (w : World) (hr : Reads w vs xs) (hp : ReadsP w vp ps) (hd : d.size ≤ 1048576) (hz : 8000 < d.size) :
    Calls Tryz.prog 83 #[.agg #[vs, vp], .int .i64 a, .string d] w fun e w' => OutIs w.heap.size e w' (illOut 2) ∧ Below w.heap.size w w' := by
  have HB0 := hide (show Below w.heap.size w ((w.alloc (.cells #[vs, vp] 26)).alloc (.cells #[.slice none 0 0, .slice none 0 0, .string ⟨#[]⟩, .int .i64 2] 69)) from ((Below.refl _ _).alloc (Nat.le_refl _) _).alloc (by simp) _)
  obtain ⟨p1, c1, rfl, hq⟩ := hr
  obtain ⟨p2, c2, rfl, hq2⟩ := hp
  have t1 : (8000 : Int) < (d.size : Int) := by omega
  clear hq hq2
  go_enter Tryz.func83, Tryz.ntmps83
  go_wp2
  exact bodyPost_ret (v := .agg #[.slice none 0 0, .slice none 0 0, .string ⟨#[]⟩, .int .i64 2]) (by simp [results, Tryz.results83, go_sem]) rfl
    ⟨⟨_, _, rfl, OwnS.none _ _ _, OwnP.none _ _ _, fun _ h => by cases h⟩, HB0.out⟩

set_option maxHeartbeats 4000000 in
theorem implWrite_ill (vs vp : Value) (xs : List ByteArray) (ps : List (Int × ByteArray)) (a : Int) (d : ByteArray) (aF aR aU b : Addr) (c : Int) (w : World) (hn : xs.length ≤ 1048576) (hn2 : ps.length ≤ 1048576) (hz : d.size ≤ 8000) (hr : Reads w vs xs) (hp : ReadsP w vp ps) (hS : Sents aF aR aU w)
    (hf : writeFaultOf (errV aF) (errV aR) (errV aU) xs ps a d = errV b) (hc : CodeIs aF aR aU b c) :
    Calls Tryz.prog 83 #[.agg #[vs, vp], .int .i64 a, .string d] w fun e w' => OutIs w.heap.size e w' (illOut c) ∧ Below w.heap.size w w' := by
  have hb0 : Below w.heap.size w ((w.alloc (.cells #[vs, vp] 26)).alloc (.cells #[.slice none 0 0, .slice none 0 0, .string ⟨#[]⟩, .int .i64 0] 69)) :=
    ((Below.refl _ _).alloc (Nat.le_refl _) _).alloc (by simp) _
  have HR := hide (hr.below hb0 (Nat.le_refl _))
  have HP := hide (hp.below hb0 (Nat.le_refl _))
  have HS := hide (Stab.go hb0 hS)
  have HB0 := hide hb0
  have HF := hide hf
  have HC := hide hc
  have HZ := hide hz
  obtain ⟨p1, c1, rfl, hq⟩ := hr
  obtain ⟨p2, c2, rfl, hq2⟩ := hp
  have HN0 := hide ((row_new w [.slice p1 xs.length c1, .slice p2 ps.length c2] 26).alloc (.cells #[.slice none 0 0, .slice none 0 0, .string ⟨#[]⟩, .int .i64 0] 69))
  have R1 := row_new (w.alloc (.cells #[.slice p1 xs.length c1, .slice p2 ps.length c2] 26)) [.slice none 0 0, .slice none 0 0, .string ⟨#[]⟩, .int .i64 0] 69
  simp only [World.size_alloc] at R1
  have HR1 := hide R1
  have t1 : ¬ ((8000 : Int) < (d.size : Int)) := by omega
  clear hb0 hq hq2 R1 hf hc hS hz
  go_enter Tryz.func83, Tryz.ntmps83
  go_wp2_with fail
  refine (clone_any d _ (by have := HZ.out; omega)).mono ?_
  rintro e w1 ⟨rfl, hb1⟩
  have bn := below_new w1 (.cells #[.int .i64 a, .string d] 61)
  have hb2 := hb1.trans (bn.mono hb1.size)
  have HB2 := hide (HB0.out.trans (hb2.mono HB0.out.size))
  have HM2 := hide (Row.after hb2 HN0.out)
  have HX2 := hide (Row.after hb2 HR1.out)
  have HS2 := hide (Stab.go hb2 HS.out)
  have HRa := hide (HR.out.below hb2 (Nat.le_refl _))
  have HPa := hide (HP.out.below hb2 (Nat.le_refl _))
  have a0 : (w1.alloc (.cells #[.int .i64 a, .string d] 61)).cell? ⟨w.heap.size, 0, none⟩ = some (.slice p1 xs.length c1) := HM2.out.cell 0
  have a1 : (w1.alloc (.cells #[.int .i64 a, .string d] 61)).cell? ⟨w.heap.size, 1, none⟩ = some (.slice p2 ps.length c2) := HM2.out.cell 1
  clear hb1 bn hb2 HN0 HR1 HS HR HP HM2
  go_wp2_with fail
  refine (writeFault_any _ _ xs ps a d _ _ _ _ _ _ _ hn hn2 (by have := HZ.out; unfold maxLen; omega) HRa.out HPa.out HS2.out.1.1 HS2.out.1.2 HS2.out.2.1).mono ?_
  rw [show writeFaultOf _ _ _ xs ps a d = Value.iface 160 (.pointer (some b)) from HF.out]
  rintro e w3 ⟨rfl, hb3⟩
  have HB3 := hide (HB2.out.trans (hb3.mono HB2.out.size))
  have HX3 := hide (Row.after hb3 HX2.out)
  have HS3 := hide (Stab.go hb3 HS2.out)
  clear hb3 a0 a1
  go_wp2_with fail
  refine (code_any aF aR aU b c _ HS3.out HC.out).mono ?_
  rintro e w4 ⟨rfl, rfl⟩
  have c0 : w4.cell? ⟨w.heap.size + 1, 0, none⟩ = some (.slice none 0 0) := HX3.out.cell 0
  have c1' : w4.cell? ⟨w.heap.size + 1, 1, none⟩ = some (.slice none 0 0) := HX3.out.cell 1
  have c2' : w4.cell? ⟨w.heap.size + 1, 2, none⟩ = some (.string ⟨#[]⟩) := HX3.out.cell 2
  have c3 : w4.cell? ⟨w.heap.size + 1, 3, none⟩ = some (.int .i64 0) := HX3.out.cell 3
  have f0 := HX3.out.free 0
  have f1 := HX3.out.free 1
  have f2 := HX3.out.free 2
  have f3 := HX3.out.free 3
  go_wp2
  obtain ⟨q0, q1, q2, q3, KF⟩ := four HX3.out (.slice none 0 0) (.slice none 0 0) (.string ⟨#[]⟩) (.int .i64 c)
  exact bodyPost_ret (v := .agg #[.slice none 0 0, .slice none 0 0, .string ⟨#[]⟩, .int .i64 c]) (by simp [results, Tryz.results83, go_sem, q0, q1, q2, q3]) rfl
    ⟨⟨_, _, rfl, OwnS.none _ _ _, OwnP.none _ _ _, fun _ h => by cases h⟩, KF.toBelow HB3.out HB3.out.size (by simp)⟩

set_option maxRecDepth 100000 in
set_option maxHeartbeats 4000000 in
theorem implWrite_good (vs vp : Value) (xs : List ByteArray) (ps : List (Int × ByteArray)) (a : Int) (d : ByteArray) (aF aR aU : Addr) (w : World) (hn : xs.length ≤ 1048576) (hn2 : ps.length ≤ 1048576) (hz : d.size ≤ 64) (hr : Reads w vs xs) (hp : ReadsP w vp ps) (hS : Sents aF aR aU w)
    (hok : right xs ps = true) (hf : writeFaultOf (errV aF) (errV aR) (errV aU) xs ps a d = .nilIface) :
    Calls Tryz.prog 83 #[.agg #[vs, vp], .int .i64 a, .string d] w fun e w' => OutIs w.heap.size e w' ⟨xs, ps ++ [(a, d)], ⟨#[]⟩, 0⟩ ∧ Below w.heap.size w w' := by
  obtain ⟨j0, hj, hy0, hy1, hy2⟩ := info_parts Tryz.infoPend
  have HSM := hide (small_of_right hok)
  have hb0 : Below w.heap.size w ((w.alloc (.cells #[vs, vp] 26)).alloc (.cells #[.slice none 0 0, .slice none 0 0, .string ⟨#[]⟩, .int .i64 0] 69)) :=
    ((Below.refl _ _).alloc (Nat.le_refl _) _).alloc (by simp) _
  have HR := hide (hr.below hb0 (Nat.le_refl _))
  have HP := hide (hp.below hb0 (Nat.le_refl _))
  have HS := hide (Stab.go hb0 hS)
  have HB0 := hide hb0
  have HF := hide hf
  have HZ := hide hz
  obtain ⟨p1, c1, rfl, hq⟩ := hr
  obtain ⟨p2, c2, rfl, hq2⟩ := hp
  have HN0 := hide ((row_new w [.slice p1 xs.length c1, .slice p2 ps.length c2] 26).alloc (.cells #[.slice none 0 0, .slice none 0 0, .string ⟨#[]⟩, .int .i64 0] 69))
  have R1 := row_new (w.alloc (.cells #[.slice p1 xs.length c1, .slice p2 ps.length c2] 26)) [.slice none 0 0, .slice none 0 0, .string ⟨#[]⟩, .int .i64 0] 69
  simp only [World.size_alloc] at R1
  have HR1 := hide R1
  have t1 : ¬ ((8000 : Int) < (d.size : Int)) := by omega
  clear hb0 hq hq2 R1 hf hS hz hok
  go_enter Tryz.func83, Tryz.ntmps83
  go_wp2_with fail
  refine (clone_any d _ (by have := HZ.out; omega)).mono ?_
  rintro e w1 ⟨rfl, hb1⟩
  have bn := below_new w1 (.cells #[.int .i64 a, .string d] 61)
  have hb2 := hb1.trans (bn.mono hb1.size)
  have HB2 := hide (HB0.out.trans (hb2.mono HB0.out.size))
  have HM2 := hide (Row.after hb2 HN0.out)
  have HX2 := hide (Row.after hb2 HR1.out)
  have HD2 := hide (row_new w1 [.int .i64 a, .string d] 61)
  have HS2 := hide (Stab.go hb2 HS.out)
  have HRa := hide (HR.out.below hb2 (Nat.le_refl _))
  have HPa := hide (HP.out.below hb2 (Nat.le_refl _))
  have a0 : (w1.alloc (.cells #[.int .i64 a, .string d] 61)).cell? ⟨w.heap.size, 0, none⟩ = some (.slice p1 xs.length c1) := HM2.out.cell 0
  have a1 : (w1.alloc (.cells #[.int .i64 a, .string d] 61)).cell? ⟨w.heap.size, 1, none⟩ = some (.slice p2 ps.length c2) := HM2.out.cell 1
  have HS1 := hide (show w.heap.size + 2 ≤ w1.heap.size by have := hb1.size; simpa using this)
  clear hb1 bn hb2 HN0 HR1 HS HR HP
  go_wp2_with fail
  refine (writeFault_any _ _ xs ps a d _ _ _ _ _ _ _ hn hn2 (by have := HZ.out; unfold maxLen; omega) HRa.out HPa.out HS2.out.1.1 HS2.out.1.2 HS2.out.2.1).mono ?_
  rw [show writeFaultOf _ _ _ xs ps a d = Value.nilIface from HF.out]
  rintro e w3 ⟨rfl, hb3⟩
  have HB3 := hide (HB2.out.trans (hb3.mono HB2.out.size))
  have HX3 := hide (Row.after hb3 HX2.out)
  have HM3 := hide (Row.after hb3 HM2.out)
  have HD3 := hide (Row.after hb3 HD2.out)
  have HRb := hide (HRa.out.below hb3 (Nat.le_refl _))
  have HPb := hide (HPa.out.below hb3 (Nat.le_refl _))
  have a0 : w3.cell? ⟨w.heap.size, 0, none⟩ = some (.slice p1 xs.length c1) := HM3.out.cell 0
  have a1 : w3.cell? ⟨w.heap.size, 1, none⟩ = some (.slice p2 ps.length c2) := HM3.out.cell 1
  clear hb3 HRa HPa HX2 HM2 HD2 HB2 HS2
  go_wp2_with fail
  refine (copyDisk_own _ _ xs ps _ HRb.out HPb.out HSM.out).mono ?_
  rintro e w2 ⟨⟨us, up, rfl, ow1, ow2, dd, he⟩, hb2⟩
  have HB4 := hide (HB3.out.trans (hb2.mono HB3.out.size))
  have HX4 := hide (Row.after hb2 HX3.out)
  have HD4 := hide (Row.after hb2 HD3.out)
  have HO1 := hide ow1
  have HO2 := hide ow2
  have HD := hide dd
  have HE := hide he
  have S3 := HD3.out.lt
  have S2 := hb2.size
  have hs1 := HS1.out
  obtain ⟨q1, m1, d1, rfl⟩ := ow1.isSlice
  obtain ⟨q2, m2, d2, rfl⟩ := ow2.isSlice
  clear ow1 ow2 dd hb2 he a0 a1
  have hzp : (Value.agg #[.int .i64 0, .string ⟨#[]⟩]).cells.size = 2 := by simp [Value.cells]
  have bx : Below w2.heap.size w2 ((w2.alloc (.cells #[.slice q1 m1 d1, .slice q2 m2 d2] 26)).alloc (.cells #[.int .i64 a, .string d] 61)) :=
    ((Below.refl _ _).alloc (Nat.le_refl _) _).alloc (by simp) _
  have HOX := hide ((HO2.out.mono (B' := w.heap.size) (by omega)).below bx (Nat.le_refl _))
  have HOS := hide ((HO1.out.mono (B' := w.heap.size) (by omega)).below bx (Nat.le_refl _))
  have RX := row_new (w2.alloc (.cells #[.slice q1 m1 d1, .slice q2 m2 d2] 26)) [.int .i64 a, .string d] 61
  simp only [World.size_alloc] at RX
  have HRX := hide RX
  have HG := hide ((row_new w2 [.slice q1 m1 d1, .slice q2 m2 d2] 26).alloc (.cells #[.int .i64 a, .string d] 61))
  have HN := hide ((HX4.out.alloc (.cells #[.slice q1 m1 d1, .slice q2 m2 d2] 26)).alloc (.cells #[.int .i64 a, .string d] 61))
  have HBX := hide (HB4.out.trans (bx.mono HB4.out.size))
  have hBX : w.heap.size ≤ ((w2.alloc (.cells #[.slice q1 m1 d1, .slice q2 m2 d2] 26)).alloc (.cells #[.int .i64 a, .string d] 61)).heap.size := HBX.out.size
  have hdm : d.size ≤ maxLen := by have := HZ.out; unfold maxLen; omega
  have e0 : (w2.alloc (.cells #[.slice q1 m1 d1, .slice q2 m2 d2] 26)).cell? ⟨w1.heap.size, 0, none⟩ = some (.int .i64 a) := (HD4.out.alloc _).cell 0
  have e1 : (w2.alloc (.cells #[.slice q1 m1 d1, .slice q2 m2 d2] 26)).cell? ⟨w1.heap.size, 1, none⟩ = some (.string d) := (HD4.out.alloc _).cell 1
  have hne1 : ¬ w2.heap.size = w.heap.size + 1 := by omega
  have hne2 : ¬ w.heap.size + 1 = w2.heap.size := by omega
  clear bx RX
  go_wp2_with (at_builtin; refine wpList_pushP _ rfl _ _ 24 rfl w.heap.size 61 j0 (.agg #[.int .i64 0, .string ⟨#[]⟩]) Tryz.underlying24 hj hy0 hy1 hy2 hzp (.slice q2 m2 d2) rfl ps HOX.out HE.out hn2 hBX a d hdm (w2.heap.size + 1) 1 rfl HRX.out ?_
               intro q3 d3 w4 ho3 hk3 hl3
               have HO3 := hide ho3
               have HK3 := hide hk3
               have HL3 := hide hl3
               have G3 := hk3.row HG.out (fun h => absurd (HO2.out.leads _ h).2 (Nat.lt_irrefl _))
               have N3 := hk3.row HN.out (fun h => absurd (HO2.out.leads _ h).1 (by omega))
               have o0 : w4.cell? ⟨w2.heap.size, 0, none⟩ = some (.slice q1 m1 d1) := G3.cell 0
               have o1 : w4.cell? ⟨w2.heap.size, 1, none⟩ = some (.slice q2 m2 d2) := G3.cell 1
               have o2 := G3.free 1
               have c0 : w4.cell? ⟨w.heap.size + 1, 0, none⟩ = some (.slice none 0 0) := N3.cell 0
               have c1' : w4.cell? ⟨w.heap.size + 1, 1, none⟩ = some (.slice none 0 0) := N3.cell 1
               have c2' : w4.cell? ⟨w.heap.size + 1, 2, none⟩ = some (.string ⟨#[]⟩) := N3.cell 2
               have c3 : w4.cell? ⟨w.heap.size + 1, 3, none⟩ = some (.int .i64 0) := N3.cell 3
               have f0 := N3.free 0
               have f1 := N3.free 1
               have f2 := N3.free 2
               have f3 := N3.free 3
               have HN3 := hide N3
               clear ho3 hk3 hl3 N3 G3)
  have KS := Kept.ofSet w4 w2.heap.size 1 (.slice q3 (ps.length + 1) d3)
  have R4 := HN3.out.other (b := w2.heap.size) (j := 1) (by omega) (.slice q3 (ps.length + 1) d3)
  obtain ⟨z0, z1, z2, z3, KF⟩ := four R4 (.slice q1 m1 d1) (.slice q3 (ps.length + 1) d3) (.string ⟨#[]⟩) (.int .i64 0)
  have LU : ∀ x ∈ leads (.slice q1 m1 d1), w.heap.size + 2 ≤ x ∧ x < w2.heap.size := fun x hx => by
    have := HO1.out.leads x hx
    omega
  have LP : ∀ x ∈ leads (.slice q2 m2 d2), w.heap.size + 2 ≤ x ∧ x < w2.heap.size := fun x hx => by
    have := HO2.out.leads x hx
    omega
  have LQ : ∀ x ∈ leads (.slice q3 (ps.length + 1) d3), x ∈ leads (.slice q2 m2 d2) ∨ w2.heap.size + 2 ≤ x := fun x hx => by
    rcases HL3.out x hx with h | h
    · exact .inl h
    · exact .inr (by simpa using h)
  have LR : ∀ x ∈ leads (.slice q3 (ps.length + 1) d3), x ≠ w2.heap.size ∧ w.heap.size + 2 ≤ x := fun x hx => by
    rcases LQ x hx with h | h
    · have := LP x h; omega
    · omega
  have k3 := HK3.out.toBelow HBX.out hBX (fun x hx => by have := LP x hx; omega)
  have k4 := KS.toBelow k3 k3.size (by simp; have := HB4.out.size; omega)
  have k5 := KF.toBelow k4 k4.size (by simp)
  have O1 := ((HOS.out.kept HK3.out HD.out).kept KS (fun x hx => by have := LU x hx; simp; omega)).kept KF (fun x hx => by have := LU x hx; simp; omega)
  have O2 := (HO3.out.kept KS (fun x hx => by have := LR x hx; simp; omega)).kept KF (fun x hx => by have := LR x hx; simp; omega)
  exact bodyPost_ret (v := .agg #[(.slice q1 m1 d1), (.slice q3 (ps.length + 1) d3), .string ⟨#[]⟩, .int .i64 0]) (by simp [results, Tryz.results83, go_sem, z0, z1, z2, z3]) rfl
    ⟨⟨_, _, rfl, O1, O2, fun x hx hy => by
      rcases LQ x hy with h | h
      · exact HD.out x hx h
      · have := LU x hx; omega⟩, k5⟩

theorem implWrite_any (vs vp : Value) (xs : List ByteArray) (ps : List (Int × ByteArray)) (a : Int) (d : ByteArray) (aF aR aU : Addr) (w : World) (hn : xs.length ≤ 1048576) (hn2 : ps.length ≤ 1048576) (hd : d.size ≤ 1048576) (hr : Reads w vs xs) (hp : ReadsP w vp ps) (hS : Sents aF aR aU w) :
    Calls Tryz.prog 83 #[.agg #[vs, vp], .int .i64 a, .string d] w fun e w' => OutIs w.heap.size e w' (writeOut xs ps a d) ∧ Below w.heap.size w w' := by
  by_cases h8 : 8000 < d.size
  · rw [show writeOut xs ps a d = illOut 2 by unfold writeOut; rw [if_pos h8]]
    exact implWrite_size vs vp xs ps a d w hr hp hd h8
  have h8' : d.size ≤ 8000 := by omega
  cases hok : right xs ps with
  | false =>
    rw [show writeOut xs ps a d = illOut 1 by unfold writeOut; rw [if_neg h8, if_pos (.inl hok)]]
    exact implWrite_ill vs vp xs ps a d aF aR aU aF 1 w hn hn2 h8' hr hp hS (by unfold writeFaultOf; rw [hok]; rfl) (.inl ⟨rfl, rfl⟩)
  | true =>
    obtain ⟨l1, l2, l3⟩ := right_len hok
    by_cases hz : d.size ≤ 64
    · have hno : ¬ (right xs ps = false ∨ 64 < d.size) := by
        rw [hok]
        rintro (h | h)
        · cases h
        · omega
      by_cases hin : 0 ≤ a ∧ a ≤ (xs.length : Int) - 1
      · by_cases h2 : ps.length = 200
        · rw [show writeOut xs ps a d = illOut 9 by unfold writeOut; rw [if_neg h8, if_neg hno, if_pos hin, if_pos (by omega)]]
          exact implWrite_ill vs vp xs ps a d aF aR aU aU 9 w hn hn2 h8' hr hp hS (by unfold writeFaultOf; rw [hok, if_pos rfl, if_pos hz, if_pos hin, if_pos h2]) (.inr (.inr ⟨rfl, rfl⟩))
        · rw [show writeOut xs ps a d = ⟨xs, ps ++ [(a, d)], ⟨#[]⟩, 0⟩ by unfold writeOut; rw [if_neg h8, if_neg hno, if_pos hin, if_neg (by omega)]]
          exact implWrite_good vs vp xs ps a d aF aR aU w hn hn2 hz hr hp hS hok (by unfold writeFaultOf; rw [hok, if_pos rfl, if_pos hz, if_pos hin, if_neg h2])
      · rw [show writeOut xs ps a d = illOut 8 by unfold writeOut; rw [if_neg h8, if_neg hno, if_neg hin]]
        exact implWrite_ill vs vp xs ps a d aF aR aU aR 8 w hn hn2 h8' hr hp hS (by unfold writeFaultOf; rw [hok, if_pos rfl, if_pos hz, if_neg hin]) (.inr (.inl ⟨rfl, rfl⟩))
    · rw [show writeOut xs ps a d = illOut 1 by unfold writeOut; rw [if_neg h8, if_pos (.inr (by omega))]]
      exact implWrite_ill vs vp xs ps a d aF aR aU aF 1 w hn hn2 h8' hr hp hS (by unfold writeFaultOf; rw [hok, if_pos rfl, if_neg hz]) (.inl ⟨rfl, rfl⟩)
end Go.Proofs.YtkmehbgepkilkaaGreatDoor

/- One step of the program's: a flush, or a write. -/
namespace Go.Proofs.YtkmehbgepkilkaaGreatDoor
open Go.RowKit

/-- The call ended with a disk of its own, or with the panic of o's code. -/
def StepIs (B : Nat) (e : Ending) (w : World) (o : Out) : Prop :=
  (o.c = 0 ∧ ∃ us up, e = .returned (.agg #[us, up]) ∧ OwnS 9 B w us o.xs ∧ OwnP 61 B w up o.ps ∧ ∀ x ∈ leads us, x ∉ leads up) ∨ (o.c ≠ 0 ∧ e = .panicked (fault o.c))

set_option maxRecDepth 100000 in
set_option maxHeartbeats 4000000 in
theorem runStep_any (vs vp : Value) (xs : List ByteArray) (ps : List (Int × ByteArray)) (f : Bool) (a : Int) (d : ByteArray) (aF aR aU : Addr) (w : World) (hn : xs.length ≤ 1048576) (hn2 : ps.length ≤ 1048576) (hd : d.size ≤ 1048576) (hr : Reads w vs xs) (hp : ReadsP w vp ps) (hS : Sents aF aR aU w) :
    Calls Tryz.prog 68 #[.agg #[vs, vp], .agg #[.bool f, .int .i64 a, .string d]] w fun e w' => StepIs w.heap.size e w' (stepOut (f, a, d) xs ps) ∧ Below w.heap.size w w' := by
  obtain ⟨p1, c1, rfl, hq⟩ := id hr
  obtain ⟨p2, c2, rfl, hq2⟩ := id hp
  obtain ⟨W, hW⟩ : ∃ W, W = (((w.alloc (.cells #[.slice p1 xs.length c1, .slice p2 ps.length c2] 26)).alloc (.cells #[.bool f, .int .i64 a, .string d] 63)).alloc (.cells #[.slice none 0 0, .slice none 0 0] 26)).alloc (.cells #[.slice none 0 0, .slice none 0 0, .string ⟨#[]⟩, .int .i64 0] 69) := ⟨_, rfl⟩
  have hb0 : Below w.heap.size w W := by rw [hW]; exact ((((Below.refl _ _).alloc (Nat.le_refl _) _).alloc (by simp) _).alloc (by simp; omega) _).alloc (by simp; omega) _
  have R0 : Row W w.heap.size 26 [.slice p1 xs.length c1, .slice p2 ps.length c2] := by rw [hW]; exact (((row_new w _ _).alloc _).alloc _).alloc _
  have R1 : Row W (w.heap.size + 1) 63 [.bool f, .int .i64 a, .string d] := by
    rw [hW]; have := row_new (w.alloc (.cells #[.slice p1 xs.length c1, .slice p2 ps.length c2] 26)) [.bool f, .int .i64 a, .string d] 63
    simp only [World.size_alloc] at this; exact (this.alloc _).alloc _
  have R2 : Row W (w.heap.size + 1 + 1) 26 [.slice none 0 0, .slice none 0 0] := by
    rw [hW]; have := row_new ((w.alloc (.cells #[.slice p1 xs.length c1, .slice p2 ps.length c2] 26)).alloc (.cells #[.bool f, .int .i64 a, .string d] 63)) [.slice none 0 0, .slice none 0 0] 26
    simp only [World.size_alloc] at this; exact this.alloc _
  have R3 : Row W (w.heap.size + 1 + 1 + 1) 69 [.slice none 0 0, .slice none 0 0, .string ⟨#[]⟩, .int .i64 0] := by
    rw [hW]; have := row_new (((w.alloc (.cells #[.slice p1 xs.length c1, .slice p2 ps.length c2] 26)).alloc (.cells #[.bool f, .int .i64 a, .string d] 63)).alloc (.cells #[.slice none 0 0, .slice none 0 0] 26)) [.slice none 0 0, .slice none 0 0, .string ⟨#[]⟩, .int .i64 0] 69
    simp only [World.size_alloc] at this; exact this
  have HR := hide (hr.below hb0 (Nat.le_refl _))
  have HP := hide (hp.below hb0 (Nat.le_refl _))
  have HS := hide (Stab.go hb0 hS)
  have HB0 := hide hb0
  have a0 : W.cell? ⟨w.heap.size, 0, none⟩ = some (.slice p1 xs.length c1) := R0.cell 0
  have a1 : W.cell? ⟨w.heap.size, 1, none⟩ = some (.slice p2 ps.length c2) := R0.cell 1
  have b0 : W.cell? ⟨w.heap.size + 1, 0, none⟩ = some (.bool f) := R1.cell 0
  have b1 : W.cell? ⟨w.heap.size + 1, 1, none⟩ = some (.int .i64 a) := R1.cell 1
  have b2 : W.cell? ⟨w.heap.size + 1, 2, none⟩ = some (.string d) := R1.cell 2
  have H2 := hide R2
  have H3 := hide R3
  have hsz : w.heap.size + 4 ≤ W.heap.size := by have := R3.lt; omega
  clear R0 R1 R2 R3 hb0 hr hp hS hq hq2
  obtain ⟨o, Ho⟩ : ∃ o, Hid (o = stepOut (f, a, d) xs ps) := ⟨_, rfl⟩
  have hrest : ∀ (us up : Value) (w1 : World), OwnS 9 W.heap.size w1 us o.xs → OwnP 61 W.heap.size w1 up o.ps → (∀ x ∈ leads us, x ∉ leads up) → Below W.heap.size W w1 →
      Hid (∃ p n k p' n' k', us = .slice p n k ∧ up = .slice p' n' k' ∧ Row w1 (w.heap.size + 1 + 1 + 1) 69 [.slice none 0 0, .slice none 0 0, .string ⟨#[]⟩, .int .i64 0] ∧ Row w1 (w.heap.size + 1 + 1) 26 [.slice none 0 0, .slice none 0 0] ∧ Below w.heap.size w w1 ∧ w.heap.size + 4 ≤ w1.heap.size) := by
    intro us up w1 o1 o2 _ hb
    obtain ⟨p, n, k, e⟩ := o1.isSlice
    obtain ⟨p', n', k', e'⟩ := o2.isSlice
    exact ⟨p, n, k, p', n', k', e, e', Row.after hb H3.out, Row.after hb H2.out, HB0.out.trans (hb.mono HB0.out.size), Nat.le_trans hsz hb.size⟩
  have HRest := hide hrest
  clear hrest
  rw [← Ho.out]
  go_enter Tryz.func68, Tryz.ntmps68
  cases f with
  | true =>
    have HO := hide (show flushOut xs ps = o by rw [Ho.out]; rfl)
    go_wp2_with fail
    rw [← hW]
    clear hW
    go_wp2_with fail
    refine (implFlush_any _ _ xs ps aF aR aU _ hn hn2 HR.out HP.out HS.out).mono ?_
    rw [HO.out]
    rintro e w1 ⟨⟨us, up, rfl, o1, o2, dd⟩, hb1⟩
    obtain ⟨i1, j1, k1, i2, j2, k2, rfl, rfl, r3, r2, hB, hz⟩ := (HRest.out us up w1 o1 o2 dd hb1).out
    have c0 : w1.cell? ⟨w.heap.size + 1 + 1 + 1, 0, none⟩ = some (.slice none 0 0) := r3.cell 0
    have c1' : w1.cell? ⟨w.heap.size + 1 + 1 + 1, 1, none⟩ = some (.slice none 0 0) := r3.cell 1
    have c2' : w1.cell? ⟨w.heap.size + 1 + 1 + 1, 2, none⟩ = some (.string ⟨#[]⟩) := r3.cell 2
    have c3 : w1.cell? ⟨w.heap.size + 1 + 1 + 1, 3, none⟩ = some (.int .i64 0) := r3.cell 3
    have f0 := r3.free 0
    have f1 := r3.free 1
    have f2 := r3.free 2
    have f3 := r3.free 3
    have O1 := hide o1
    have O2 := hide o2
    have DD := hide dd
    have R3 := hide r3
    have R2 := hide r2
    have HBw := hide hB
    clear o1 o2 dd r3 r2 hB hb1 HRest
    go_wp2_with fail
    obtain ⟨q0, q1, q2, q3, KF⟩ := four R3.out (.slice i1 j1 k1) (.slice i2 j2 k2) (.string o.t) (.int .i64 o.c)
    obtain ⟨X, hX⟩ : ∃ X, X = ((((w1.setCell ⟨w.heap.size + 1 + 1 + 1, 0, none⟩ (.slice i1 j1 k1)).setCell ⟨w.heap.size + 1 + 1 + 1, 1, none⟩ (.slice i2 j2 k2)).setCell ⟨w.heap.size + 1 + 1 + 1, 2, none⟩ (.string o.t)).setCell ⟨w.heap.size + 1 + 1 + 1, 3, none⟩ (.int .i64 o.c)) := ⟨_, rfl⟩
    rw [← hX] at q0 q1 q2 q3 KF ⊢
    have HBX := hide (KF.toBelow HBw.out HBw.out.size (by simp; omega))
    have R2X := hide (KF.row R2.out (by simp))
    have O1X := hide (O1.out.kept KF (fun x hx => by have := (O1.out.leads x hx).1; simp; omega))
    have O2X := hide (O2.out.kept KF (fun x hx => by have := (O2.out.leads x hx).1; simp; omega))
    clear KF hX c0 c1' c2' c3 f0 f1 f2 f3
    by_cases hc : o.c = 0
    · have hc0 := hc
      rw [hc] at q3
      rw [hc]
      refine (refuseCode_no _).mono ?_
      rintro e w2 ⟨rfl, rfl⟩
      have d0 : w2.cell? ⟨w.heap.size + 1 + 1, 0, none⟩ = some (.slice none 0 0) := R2X.out.cell 0
      have d1 : w2.cell? ⟨w.heap.size + 1 + 1, 1, none⟩ = some (.slice none 0 0) := R2X.out.cell 1
      have g0 := R2X.out.free 0
      have g1 := R2X.out.free 1
      have HC := hide hc0
      clear hc hc0
      go_wp2
      obtain ⟨z0, z1, KG⟩ := two R2X.out (.slice i1 j1 k1) (.slice i2 j2 k2)
      exact bodyPost_ret (v := .agg #[.slice i1 j1 k1, .slice i2 j2 k2]) (by simp [results, Tryz.results68, go_sem, z0, z1]) rfl
        ⟨.inl ⟨HC.out, _, _, rfl, (O1X.out.kept KG (fun x hx => by have := (O1X.out.leads x hx).1; simp; omega)).mono (by omega), (O2X.out.kept KG (fun x hx => by have := (O2X.out.leads x hx).1; simp; omega)).mono (by omega), DD.out⟩, KG.toBelow HBX.out HBX.out.size (by simp; omega)⟩
    · refine (refuseCode_yes _ _ hc).mono ?_
      rintro e w2 ⟨rfl, rfl⟩
      go_wp2
      exact ⟨rfl, .inr ⟨hc, rfl⟩, HBX.out⟩
  | false =>
    have HO := hide (show writeOut xs ps a d = o by rw [Ho.out]; rfl)
    go_wp2_with fail
    rw [← hW]
    clear hW
    go_wp2_with fail
    refine (implWrite_any _ _ xs ps a d aF aR aU _ hn hn2 hd HR.out HP.out HS.out).mono ?_
    rw [HO.out]
    rintro e w1 ⟨⟨us, up, rfl, o1, o2, dd⟩, hb1⟩
    obtain ⟨i1, j1, k1, i2, j2, k2, rfl, rfl, r3, r2, hB, hz⟩ := (HRest.out us up w1 o1 o2 dd hb1).out
    have c0 : w1.cell? ⟨w.heap.size + 1 + 1 + 1, 0, none⟩ = some (.slice none 0 0) := r3.cell 0
    have c1' : w1.cell? ⟨w.heap.size + 1 + 1 + 1, 1, none⟩ = some (.slice none 0 0) := r3.cell 1
    have c2' : w1.cell? ⟨w.heap.size + 1 + 1 + 1, 2, none⟩ = some (.string ⟨#[]⟩) := r3.cell 2
    have c3 : w1.cell? ⟨w.heap.size + 1 + 1 + 1, 3, none⟩ = some (.int .i64 0) := r3.cell 3
    have f0 := r3.free 0
    have f1 := r3.free 1
    have f2 := r3.free 2
    have f3 := r3.free 3
    have O1 := hide o1
    have O2 := hide o2
    have DD := hide dd
    have R3 := hide r3
    have R2 := hide r2
    have HBw := hide hB
    clear o1 o2 dd r3 r2 hB hb1 HRest
    go_wp2_with fail
    obtain ⟨q0, q1, q2, q3, KF⟩ := four R3.out (.slice i1 j1 k1) (.slice i2 j2 k2) (.string o.t) (.int .i64 o.c)
    obtain ⟨X, hX⟩ : ∃ X, X = ((((w1.setCell ⟨w.heap.size + 1 + 1 + 1, 0, none⟩ (.slice i1 j1 k1)).setCell ⟨w.heap.size + 1 + 1 + 1, 1, none⟩ (.slice i2 j2 k2)).setCell ⟨w.heap.size + 1 + 1 + 1, 2, none⟩ (.string o.t)).setCell ⟨w.heap.size + 1 + 1 + 1, 3, none⟩ (.int .i64 o.c)) := ⟨_, rfl⟩
    rw [← hX] at q0 q1 q2 q3 KF ⊢
    have HBX := hide (KF.toBelow HBw.out HBw.out.size (by simp; omega))
    have R2X := hide (KF.row R2.out (by simp))
    have O1X := hide (O1.out.kept KF (fun x hx => by have := (O1.out.leads x hx).1; simp; omega))
    have O2X := hide (O2.out.kept KF (fun x hx => by have := (O2.out.leads x hx).1; simp; omega))
    clear KF hX c0 c1' c2' c3 f0 f1 f2 f3
    by_cases hc : o.c = 0
    · have hc0 := hc
      rw [hc] at q3
      rw [hc]
      refine (refuseCode_no _).mono ?_
      rintro e w2 ⟨rfl, rfl⟩
      have d0 : w2.cell? ⟨w.heap.size + 1 + 1, 0, none⟩ = some (.slice none 0 0) := R2X.out.cell 0
      have d1 : w2.cell? ⟨w.heap.size + 1 + 1, 1, none⟩ = some (.slice none 0 0) := R2X.out.cell 1
      have g0 := R2X.out.free 0
      have g1 := R2X.out.free 1
      have HC := hide hc0
      clear hc hc0
      go_wp2
      obtain ⟨z0, z1, KG⟩ := two R2X.out (.slice i1 j1 k1) (.slice i2 j2 k2)
      exact bodyPost_ret (v := .agg #[.slice i1 j1 k1, .slice i2 j2 k2]) (by simp [results, Tryz.results68, go_sem, z0, z1]) rfl
        ⟨.inl ⟨HC.out, _, _, rfl, (O1X.out.kept KG (fun x hx => by have := (O1X.out.leads x hx).1; simp; omega)).mono (by omega), (O2X.out.kept KG (fun x hx => by have := (O2X.out.leads x hx).1; simp; omega)).mono (by omega), DD.out⟩, KG.toBelow HBX.out HBX.out.size (by simp; omega)⟩
    · refine (refuseCode_yes _ _ hc).mono ?_
      rintro e w2 ⟨rfl, rfl⟩
      go_wp2
      exact ⟨rfl, .inr ⟨hc, rfl⟩, HBX.out⟩
end Go.Proofs.YtkmehbgepkilkaaGreatDoor

/- DiskCrash, as the program does it. -/
namespace Go.Proofs.YtkmehbgepkilkaaGreatDoor
open Go.RowKit

set_option maxHeartbeats 4000000 in
theorem implCrash_size (vs vp vk : Value) (xs : List ByteArray) (ps : List (Int × ByteArray)) (ks : List Int) (w : World) (hr : Reads w vs xs) (hp : ReadsP w vp ps) (hk : ReadsI w vk ks) (hz : 400 < ks.length) :
    Calls Tryz.prog 19 #[.agg #[vs, vp], vk] w fun e w' => DiskIs w.heap.size e w' [] [] ∧ Below w.heap.size w w' := by
  have HB0 := hide (show Below w.heap.size w ((w.alloc (.cells #[vs, vp] 26)).alloc (.cells #[.slice none 0 0, .slice none 0 0] 26)) from ((Below.refl _ _).alloc (Nat.le_refl _) _).alloc (by simp) _)
  obtain ⟨p1, c1, rfl, hq⟩ := hr
  obtain ⟨p2, c2, rfl, hq2⟩ := hp
  obtain ⟨p3, c3, rfl, h3, h4, hq3⟩ := hk
  unfold maxLen at h4
  have t1 : (400 : Int) < (ks.length : Int) := by omega
  clear hq hq2 hq3
  go_enter Tryz.func19, Tryz.ntmps19
  go_wp2
  exact bodyPost_ret (v := .agg #[.slice none 0 0, .slice none 0 0]) (by simp [results, Tryz.results19, go_sem]) rfl
    ⟨⟨_, _, rfl, OwnS.none _ _ _, OwnP.none _ _ _, fun _ h => by cases h⟩, HB0.out⟩

set_option maxRecDepth 100000 in
set_option maxHeartbeats 4000000 in
theorem implCrash_any (vs vp vk : Value) (xs : List ByteArray) (ps : List (Int × ByteArray)) (ks : List Int) (tF : TypeId) (uF : Value) (tR : TypeId) (uR : Value) (w : World) (hr : Reads w vs xs) (hp : ReadsP w vp ps) (hk : ReadsI w vk ks) (hs : Small xs ps)
    (hF : w.cell? ⟨0, 0, none⟩ = some (.iface tF uF)) (hR : w.cell? ⟨1, 0, none⟩ = some (.iface tR uR)) :
    Calls Tryz.prog 19 #[.agg #[vs, vp], vk] w fun e w' => DiskIs w.heap.size e w' (crashXs xs ps ks) (crashPs xs ps ks) ∧ Below w.heap.size w w' := by
  by_cases h4 : 400 < ks.length
  · rw [show crashXs xs ps ks = [] by unfold crashXs; rw [if_pos h4], show crashPs xs ps ks = [] by unfold crashPs; rw [if_pos h4]]
    exact implCrash_size vs vp vk xs ps ks w hr hp hk h4
  have hb0 : Below w.heap.size w ((w.alloc (.cells #[vs, vp] 26)).alloc (.cells #[.slice none 0 0, .slice none 0 0] 26)) :=
    ((Below.refl _ _).alloc (Nat.le_refl _) _).alloc (by simp) _
  have HR := hide (hr.below hb0 (Nat.le_refl _))
  have HP := hide (hp.below hb0 (Nat.le_refl _))
  have HK := hide (hk.below hb0 (Nat.le_refl _))
  have HSM := hide hs
  have HCF := hide (cell_old hb0 hF)
  have HCR := hide (cell_old hb0 hR)
  have HB0 := hide hb0
  obtain ⟨p1, c1, rfl, hq⟩ := hr
  obtain ⟨p2, c2, rfl, hq2⟩ := hp
  obtain ⟨p3, c3, rfl, h3a, h3b, hq3⟩ := hk
  have HN0 := hide ((row_new w [.slice p1 xs.length c1, .slice p2 ps.length c2] 26).alloc (.cells #[.slice none 0 0, .slice none 0 0] 26))
  have R1 := row_new (w.alloc (.cells #[.slice p1 xs.length c1, .slice p2 ps.length c2] 26)) [.slice none 0 0, .slice none 0 0] 26
  simp only [World.size_alloc] at R1
  have HR1 := hide R1
  have t1 : ¬ ((400 : Int) < (ks.length : Int)) := by omega
  obtain ⟨s1, s2, s3, s4⟩ := hs
  clear hb0 hq hq2 hq3 R1 hF hR s2 s4 h3a h3b
  cases hok : right xs ps with
  | false =>
    rw [show crashXs xs ps ks = xs by unfold crashXs; rw [if_neg h4, hok]; rfl, show crashPs xs ps ks = ps by unfold crashPs; rw [if_neg h4, hok]; rfl]
    go_enter Tryz.func19, Tryz.ntmps19
    go_wp2_with fail
    refine (implRight_any _ _ xs ps _ _ _ _ _ s1 s3 HR.out HP.out HCF.out HCR.out).mono ?_
    rw [hok]
    rintro e w1 ⟨rfl, hb1⟩
    have HB1 := hide (HB0.out.trans (hb1.mono HB0.out.size))
    have HX1 := hide (Row.after hb1 HR1.out)
    have a0 : w1.cell? ⟨w.heap.size, 0, none⟩ = some (.slice p1 xs.length c1) := (Row.after hb1 HN0.out).cell 0
    have a1 : w1.cell? ⟨w.heap.size, 1, none⟩ = some (.slice p2 ps.length c2) := (Row.after hb1 HN0.out).cell 1
    have HRa := hide (HR.out.below hb1 (Nat.le_refl _))
    have HPa := hide (HP.out.below hb1 (Nat.le_refl _))
    clear hb1
    go_wp2_with fail
    refine (copyDisk_any _ _ xs ps _ HRa.out HPa.out HSM.out).mono ?_
    rintro e w3 ⟨⟨us, up, rfl, o1, o2, dd⟩, hb3⟩
    obtain ⟨q1, m1, d1, rfl⟩ := o1.isSlice
    obtain ⟨q2, m2, d2, rfl⟩ := o2.isSlice
    have hl2 := HX1.out.lt
    have HB3 := hide (HB1.out.trans (hb3.mono HB1.out.size))
    have R3 := Row.after hb3 HX1.out
    have c0 : w3.cell? ⟨w.heap.size + 1, 0, none⟩ = some (.slice none 0 0) := R3.cell 0
    have c1' : w3.cell? ⟨w.heap.size + 1, 1, none⟩ = some (.slice none 0 0) := R3.cell 1
    have f0 := R3.free 0
    have f1 := R3.free 1
    have HR3 := hide R3
    have HO1 := hide o1
    have HO2 := hide o2
    have HD := hide dd
    clear hb3 R3 o1 o2 dd a0 a1
    go_wp2
    obtain ⟨z0, z1, KF⟩ := two HR3.out (.slice q1 m1 d1) (.slice q2 m2 d2)
    exact bodyPost_ret (v := .agg #[.slice q1 m1 d1, .slice q2 m2 d2]) (by simp [results, Tryz.results19, go_sem, z0, z1]) rfl
      ⟨⟨_, _, rfl, (HO1.out.kept KF (fun x hx => by have := HO1.out.leads x hx; simp; omega)).mono (by omega), (HO2.out.kept KF (fun x hx => by have := HO2.out.leads x hx; simp; omega)).mono (by omega), HD.out⟩, KF.toBelow HB3.out HB3.out.size (by simp)⟩
  | true =>
    obtain ⟨l1, l2, l3⟩ := right_len hok
    have HAT := hide (show ∀ j (hj : j < (keptOf ks ps).length), 0 ≤ ((keptOf ks ps)[j]'hj).1 ∧ ((keptOf ks ps)[j]'hj).1 ≤ (xs.length : Int) - 1 from fun j hj => by
      obtain ⟨i, hi, e⟩ := List.getElem_of_mem (keptOf_mem ks ps _ (List.getElem_mem hj))
      rw [← e]
      exact ⟨(right_at hok i hi).1, (right_at hok i hi).2.1⟩)
    have HKL := hide (Nat.le_trans (keptOf_len ks ps) l3)
    have HMM := hide (applyP_mem (keptOf ks ps) xs 1048576 HSM.out.2.1 (fun x hx => HSM.out.2.2.2 x (keptOf_mem ks ps x hx)))
    rw [show crashXs xs ps ks = applyP (keptOf ks ps) xs by unfold crashXs; rw [if_neg h4, hok, if_pos rfl, applyK_kept], show crashPs xs ps ks = [] by unfold crashPs; rw [if_neg h4, hok]; rfl]
    go_enter Tryz.func19, Tryz.ntmps19
    go_wp2_with fail
    refine (implRight_any _ _ xs ps _ _ _ _ _ s1 s3 HR.out HP.out HCF.out HCR.out).mono ?_
    rw [hok]
    rintro e w1 ⟨rfl, hb1⟩
    have HB1 := hide (HB0.out.trans (hb1.mono HB0.out.size))
    have HX1 := hide (Row.after hb1 HR1.out)
    have HM1 := hide (Row.after hb1 HN0.out)
    have a0 : w1.cell? ⟨w.heap.size, 0, none⟩ = some (.slice p1 xs.length c1) := HM1.out.cell 0
    have a1 : w1.cell? ⟨w.heap.size, 1, none⟩ = some (.slice p2 ps.length c2) := HM1.out.cell 1
    have hbd := hb1.drew
    have HRd := hide (HR.out.below hbd (Nat.le_refl _))
    have HPd := hide (HP.out.below hbd (Nat.le_refl _))
    have HKd := hide (HK.out.below hbd (Nat.le_refl _))
    clear hb1 hbd
    go_wp2_with fail
    go_region_with (first
      | (go_at_call 53; refine (keptPending_any _ _ ps ks _ HPd.out HKd.out l3 (by omega)).mono ?_; rintro e w2 ⟨⟨up, rfl, o1⟩, hb2⟩; obtain ⟨q1, m1, d1, rfl⟩ := o1.isSlice; have HU := hide o1; have a2 : w2.cell? ⟨w.heap.size, 0, none⟩ = some (.slice p1 xs.length c1) := (Row.after hb2 HM1.out).cell 0; have HR2 := hide (HRd.out.below hb2 (Nat.le_refl _)); clear o1)
      | (go_at_call 52; refine (settle_any _ _ xs (keptOf ks ps) _ HR2.out HU.out.reads l1 l2 HKL.out HAT.out).mono ?_; rintro e w3 ⟨rfl, hb3⟩)
      | (go_at_call 54; refine (bankDisk_any (applyP (keptOf ks ps) xs) _ (by rw [applyP_len]; exact l2) HMM.out).mono ?_; rintro e w4 ⟨⟨us, up', rfl, o1, o2, dd⟩, hb4⟩; obtain ⟨q2, m2, d2, rfl⟩ := o1.isSlice; obtain ⟨q3, m3, d3, rfl⟩ := o2.isSlice; have R4 := Row.after hb4 (Row.after hb3 (Row.after hb2 HX1.out)); have c0 : w4.cell? ⟨w.heap.size + 1, 0, none⟩ = some (.slice none 0 0) := R4.cell 0; have c1' : w4.cell? ⟨w.heap.size + 1, 1, none⟩ = some (.slice none 0 0) := R4.cell 1; have f0 := R4.free 0; have f1 := R4.free 1; have HR4 := hide R4; have HO1 := hide o1; have HO2 := hide o2; have HD := hide dd; clear R4 o1 o2 dd))
    all_goals
      go_wp2
      have hl1 := HX1.out.lt
      have B2 := HB1.out.trans ((below_drew hb2).mono HB1.out.size)
      have B3 := B2.trans (hb3.mono B2.size)
      have B4 := B3.trans (hb4.mono B3.size)
      have S2 := (below_drew hb2).size
      have S3 := hb3.size
      obtain ⟨z0, z1, KF⟩ := two HR4.out (.slice q2 m2 d2) (.slice q3 m3 d3)
      exact bodyPost_ret (v := .agg #[.slice q2 m2 d2, .slice q3 m3 d3]) (by simp [results, Tryz.results19, go_sem, z0, z1]) rfl
        ⟨⟨_, _, rfl, (HO1.out.kept KF (fun x hx => by have := HO1.out.leads x hx; simp; omega)).mono B3.size, (HO2.out.kept KF (fun x hx => by have := HO2.out.leads x hx; simp; omega)).mono B3.size, HD.out⟩, KF.toBelow B4 B4.size (by simp)⟩
end Go.Proofs.YtkmehbgepkilkaaGreatDoor
