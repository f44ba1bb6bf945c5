/- The Rule of a place, of the program and of the model. -/
import Derived.Test.YtfjjbofnfigehaaGreatDoorXG3VSchM
import Derived.Laws.Tables
import Derived.Laws.CopyOwn
import Derived.Test.YtfjjbofnfigehaaGreatDoorXG0Mem
namespace Go.Proofs.YtfjjbofnfigehaaGreatDoor
open Go.RowKit
def zeroR : RuleM := ⟨⟨#[]⟩, 0, 0, false, false, 0⟩
def atR (s : ByteArray) (f : Int) (r : RuleM) : Bool := (r.seg.toList == s.toList) && decide (r.fld = f)
def ruleIn (l : List RuleM) (s : ByteArray) (f : Int) : RuleM := (l.find? (atR s f)).getD zeroR
def ruleL (n : Int) (s : ByteArray) (f : Int) : RuleM := if verB n = true then ruleIn (schL n) s f else zeroR
theorem find_take {α : Type} (p : α → Bool) (l : List α) (k : Nat) (hk : k < l.length) (h0 : ∀ x ∈ l.take k, p x = false) (h1 : p l[k] = true) : l.find? p = some l[k] := by
  have e : l = l.take k ++ l[k] :: l.drop (k + 1) := by rw [← List.drop_eq_getElem_cons hk, List.take_append_drop]
  have h2 : (l.take k).find? p = none := List.find?_eq_none.2 (fun x hx => by rw [h0 x hx]; simp)
  generalize l[k] = a at *
  rw [e, List.find?_append, h2]
  simp [h1]
theorem find_all {α : Type} (p : α → Bool) (l : List α) (h0 : ∀ x ∈ l, p x = false) : l.find? p = none := List.find?_eq_none.2 (fun x hx => by rw [h0 x hx]; simp)
theorem take_snoc_all {α : Type} (p : α → Bool) (l : List α) (k : Nat) (hk : k < l.length) (h0 : ∀ x ∈ l.take k, p x = false) (h1 : p l[k] = false) : ∀ x ∈ l.take (k + 1), p x = false := by
  rw [List.take_succ_eq_append_getElem hk]
  intro x hx
  rcases List.mem_append.1 hx with h | h
  · exact h0 x h
  · rw [List.mem_singleton.1 h]; exact h1
theorem rule_mem (n : Int) (s : ByteArray) (f : Int) : ruleL n s f = zeroR ∨ ruleL n s f ∈ rulesL := by
  unfold ruleL ruleIn
  split
  · cases h : (schL n).find? (atR s f)
    · exact .inl rfl
    · rename_i r
      exact .inr (List.mem_filter.1 (List.mem_of_find?_eq_some h)).1
  · exact .inl rfl
theorem rulesL_ty : ∀ r ∈ rulesL, 1 ≤ r.ty ∧ r.ty ≤ 9 := by decide
theorem find_filter {α : Type} (p q : α → Bool) (l : List α) : (l.filter q).find? p = l.find? fun x => p x && q x := by
  induction l with
  | nil => rfl
  | cons a l ih =>
    rw [List.filter_cons, List.find?_cons]
    cases hq : q a <;> cases hp : p a <;> simp [hp, ih]
theorem rule_all (n : Int) (s : ByteArray) (f : Int) (hv : verB n = true) : ruleL n s f = (rulesL.find? fun r => atR s f r && decide (r.since ≤ n)).getD zeroR := by
  unfold ruleL ruleIn schL
  rw [if_pos hv, find_filter]
theorem wpList_store_rowR {P : Program} {ops : Array Oper} {rest : List Oper} {o : Oper} {a : Act} {w : World} {Q : Exit → Act → World → Prop} (hgd : o.guard = none) (ty : TypeId) (x y : Operand) (ho : o.op = .store ty x y)
    (g : Nat) (cells : Array Value) (hx : a.eval x = .pointer (some ⟨g, 0, none⟩)) (hy : a.eval y = .agg cells) (t : TypeId) (old : Array Value) (hg : w.heap[g]? = some (.cells old t (0, 0))) (hi : (P.info? ty).map (·.size) = some cells.size)
    (hold : old.size = cells.size) (h1 : cells.all (·.oneCell') = true) (h : wpList P ops Q rest (a.put o.dst undef) (w.setRow g cells)) : wpList P ops Q (o :: rest) a w :=
  wpList_plain hgd fun _ hK => wp_store_row ty x y ho g cells hx hy t old hg hi hold h1 (hK _ _ h)
theorem row_setRow {w : World} {g : Nat} {old : List Value} {T : TypeId} (h : Row w g T old) (cs : List Value) : Row (w.setRow g cs.toArray) g T cs := by
  have := setRow_heap w g old.toArray cs.toArray T (0, 0) h
  exact this
set_option maxHeartbeats 4000000 in
set_option maxRecDepth 100000 in
theorem rule_any (n : Int) (s : ByteArray) (f : Int) (v : Value) (l : List RuleM) (w : World) (hl : l.length ≤ 28) (hr : RRules w v l) :
    Calls Tryz.prog 61 #[.agg #[.int .i64 n, v], .string s, .int .i64 f] w fun e w' => e = .returned (ruleIn l s f).v ∧ Below w.heap.size w w' := by
  have HFT := hide (fun k hk h0 h1 => find_take (atR s f) l k hk h0 h1)
  have HFN := hide (fun k hk h0 h1 => take_snoc_all (atR s f) l k hk h0 h1)
  have HFA := hide (fun h0 => find_all (atR s f) l h0)
  obtain ⟨p, cap, rfl, h1, h2, h4⟩ := hr
  have H4 := hide h4
  clear h4
  unfold maxLen at h2
  have hb0 := ((Below.refl w.heap.size w).alloc (Nat.le_refl _) (.cells #[.int .i64 n, .slice p l.length cap] 61)).alloc (by simp) (.cells #[.string ⟨#[]⟩, .int .i64 0, .int .i64 0, .bool false, .bool false, .int .i64 0] 88)
  have row0 := row_new (w.alloc (.cells #[.int .i64 n, .slice p l.length cap] 61)) zeroR.cells 88
  have HB0 := hide hb0
  have HRW : Hid (Row ((w.alloc (.cells #[.int .i64 n, .slice p l.length cap] 61)).alloc (.cells #[.string ⟨#[]⟩, .int .i64 0, .int .i64 0, .bool false, .bool false, .int .i64 0] 88)) (w.heap.size + 1) 88 zeroR.cells) := hide (by
    have esz : (w.alloc (.cells #[.int .i64 n, .slice p l.length cap] 61)).heap.size = w.heap.size + 1 := by simp
    rw [esz] at row0
    exact row0)
  clear hb0 row0
  go_enter Tryz.func61, Tryz.ntmps61
  go_wp2_with fail
  go_loopw [12] (fun i wr => ∃ (X : World) (k : Nat), X = wr ∧ k ≤ l.length ∧ i = .int .i64 (k : Int) ∧ Hid (∀ x ∈ l.take k, atR s f x = false) ∧ Hid (Below w.heap.size w X) ∧ Hid (Row X (w.heap.size + 1) 88 zeroR.cells)) (fun i _ => l.length - (intOf i).toNat)
  case atStart => exact ⟨_, 0, rfl, Nat.zero_le _, rfl, hide (by simp), HB0, HRW⟩
  case round =>
    obtain ⟨X, k, rfl, hk, rfl, HA, HB, HR⟩ := hrel
    by_cases hlt : k < l.length
    · obtain ⟨g, hp, hg, hc⟩ := H4.out (by omega)
      subst hp
      obtain ⟨a0, a1, a2, a3, a4, a5⟩ := hc k hlt
      rw [← HB.out.cell (p := ⟨g, k * 6, none⟩) hg] at a0
      rw [← HB.out.cell (p := ⟨g, k * 6 + 1, none⟩) hg] at a1
      rw [← HB.out.cell (p := ⟨g, k * 6 + 2, none⟩) hg] at a2
      rw [← HB.out.cell (p := ⟨g, k * 6 + 3, none⟩) hg] at a3
      rw [← HB.out.cell (p := ⟨g, k * 6 + 4, none⟩) hg] at a4
      rw [← HB.out.cell (p := ⟨g, k * 6 + 5, none⟩) hg] at a5
      have hki : (k : Int) < (l.length : Int) := by omega
      have HF1 := hide (HFT.out k hlt HA.out)
      have HF2 := hide (HFN.out k hlt HA.out)
      clear hc
      generalize (l[k]'hlt) = r at *
      have HB1 := hide (HB.out.alloc HB.out.size (.cells #[.string r.seg, .int .i64 r.fld, .int .i64 r.ty, .bool r.must, .bool r.many, .int .i64 r.since] 88))
      have HR1 := hide (HR.out.alloc (.cells #[.string r.seg, .int .i64 r.fld, .int .i64 r.ty, .bool r.must, .bool r.many, .int .i64 r.since] 88))
      cases hs : (r.seg.toList == s.toList)
      · have HN : Hid (∀ x ∈ l.take (k + 1), atR s f x = false) := HF2.out (by rw [atR, hs]; rfl)
        go_wp2
        go_roundw
        case rel => exact ⟨_, k + 1, rfl, by omega, by go_num, HN, HB1, HR1⟩
        case measure => simp [intOf]; omega
      · by_cases hf : r.fld = f
        · have hfb : (r.fld == f) = true := by simpa using hf
          have HE : Hid (ruleIn l s f = r) := by rw [ruleIn, HF1.out (by rw [atR, hs, decide_eq_true hf]; rfl)]; rfl
          have HQ := hide (row_setRow HR1.out r.cells)
          have HBQ := hide (below_setRow HB1.out (g := w.heap.size + 1) (by omega) r.cells.toArray)
          have HHz := hide HR1.out
          clear hf
          go_wp2_with (refine wpList_store_rowR rfl 88 _ _ rfl (w.heap.size + 1) #[.string r.seg, .int .i64 r.fld, .int .i64 r.ty, .bool r.must, .bool r.many, .int .i64 r.since] rfl rfl 88 #[.string ⟨#[]⟩, .int .i64 0, .int .i64 0, .bool false, .bool false, .int .i64 0] HHz.out (by kernel_rfl) rfl (by simp [Value.oneCell']) ?_)
          obtain ⟨V, hV⟩ : ∃ V, V = (X.alloc (.cells #[.string r.seg, .int .i64 r.fld, .int .i64 r.ty, .bool r.must, .bool r.many, .int .i64 r.since] 88)).setRow (w.heap.size + 1) #[.string r.seg, .int .i64 r.fld, .int .i64 r.ty, .bool r.must, .bool r.many, .int .i64 r.since] := ⟨_, rfl⟩
          rw [← hV]
          have HQV : Hid (Row V (w.heap.size + 1) 88 r.cells) := by rw [hV]; exact HQ
          have HBV : Hid (Below w.heap.size w V) := by rw [hV]; exact HBQ
          clear hV HQ HBQ
          have q0 : V.cell? ⟨w.heap.size + 1, 0, none⟩ = some (.string r.seg) := HQV.out.cell 0
          have q1 : V.cell? ⟨w.heap.size + 1, 1, none⟩ = some (.int .i64 r.fld) := HQV.out.cell 1
          have q2 : V.cell? ⟨w.heap.size + 1, 2, none⟩ = some (.int .i64 r.ty) := HQV.out.cell 2
          have q3 : V.cell? ⟨w.heap.size + 1, 3, none⟩ = some (.bool r.must) := HQV.out.cell 3
          have q4 : V.cell? ⟨w.heap.size + 1, 4, none⟩ = some (.bool r.many) := HQV.out.cell 4
          have q5 : V.cell? ⟨w.heap.size + 1, 5, none⟩ = some (.int .i64 r.since) := HQV.out.cell 5
          go_wp2
          refine bodyPost_ret (v := r.v) ?_ rfl ?_
          · simp [results, Tryz.results61, go_sem, RuleM.v, q0, q1, q2, q3, q4, q5]
          · exact ⟨by rw [HE.out], HBV.out⟩
        · have hfb : (r.fld == f) = false := by simpa using hf
          have HN : Hid (∀ x ∈ l.take (k + 1), atR s f x = false) := HF2.out (by rw [atR, hs, decide_eq_false hf]; rfl)
          clear hf
          go_wp2
          go_roundw
          case rel => exact ⟨_, k + 1, rfl, by omega, by go_num, HN, HB1, HR1⟩
          case measure => simp [intOf]; omega
    · have HE : Hid (ruleIn l s f = zeroR) := by rw [ruleIn, HFA.out (by have := HA.out; rw [List.take_of_length_le (by omega)] at this; exact this)]; rfl
      have HQ := hide (row_setRow HR.out zeroR.cells)
      have HBQ := hide (below_setRow HB.out (g := w.heap.size + 1) (by omega) zeroR.cells.toArray)
      go_wp2_with (refine wpList_store_rowR rfl 88 _ _ rfl (w.heap.size + 1) #[.string ⟨#[]⟩, .int .i64 0, .int .i64 0, .bool false, .bool false, .int .i64 0] rfl rfl 88 #[.string ⟨#[]⟩, .int .i64 0, .int .i64 0, .bool false, .bool false, .int .i64 0] HR.out (by kernel_rfl) rfl (by simp [Value.oneCell']) ?_)
      obtain ⟨V, hV⟩ : ∃ V, V = X.setRow (w.heap.size + 1) #[.string ⟨#[]⟩, .int .i64 0, .int .i64 0, .bool false, .bool false, .int .i64 0] := ⟨_, rfl⟩
      rw [← hV]
      have HQV : Hid (Row V (w.heap.size + 1) 88 zeroR.cells) := by rw [hV]; exact HQ
      have HBV : Hid (Below w.heap.size w V) := by rw [hV]; exact HBQ
      clear hV HQ HBQ
      have q0 : V.cell? ⟨w.heap.size + 1, 0, none⟩ = some (.string zeroR.seg) := HQV.out.cell 0
      have q1 : V.cell? ⟨w.heap.size + 1, 1, none⟩ = some (.int .i64 zeroR.fld) := HQV.out.cell 1
      have q2 : V.cell? ⟨w.heap.size + 1, 2, none⟩ = some (.int .i64 zeroR.ty) := HQV.out.cell 2
      have q3 : V.cell? ⟨w.heap.size + 1, 3, none⟩ = some (.bool zeroR.must) := HQV.out.cell 3
      have q4 : V.cell? ⟨w.heap.size + 1, 4, none⟩ = some (.bool zeroR.many) := HQV.out.cell 4
      have q5 : V.cell? ⟨w.heap.size + 1, 5, none⟩ = some (.int .i64 zeroR.since) := HQV.out.cell 5
      go_wp2
      refine bodyPost_ret (v := zeroR.v) ?_ rfl ?_
      · simp [results, Tryz.results61, go_sem, RuleM.v, q0, q1, q2, q3, q4, q5]
      · exact ⟨by rw [HE.out], HBV.out⟩
set_option maxHeartbeats 4000000 in
set_option maxRecDepth 100000 in
theorem specRuleOf_any (n : Int) (s : ByteArray) (f : Int) (w : World) :
    Calls Tryz.prog 58 #[.int .i64 n, .string s, .int .i64 f] w fun e w' => e = .returned (ruleL n s f).v ∧ Below w.heap.size w w' := by
  have HL28 := hide rulesL_len
  have HFT := hide (fun k hk h0 h1 => find_take (fun r => atR s f r && decide (r.since ≤ n)) rulesL k hk h0 h1)
  have HFN := hide (fun k hk h0 h1 => take_snoc_all (fun r => atR s f r && decide (r.since ≤ n)) rulesL k hk h0 h1)
  have HFA := hide (fun h0 => find_all (fun r => atR s f r && decide (r.since ≤ n)) rulesL h0)
  have hb0 := (Below.refl w.heap.size w).alloc (Nat.le_refl _) (.cells #[.string ⟨#[]⟩, .int .i64 0, .int .i64 0, .bool false, .bool false, .int .i64 0] 88)
  have HRW : Hid (Row (w.alloc (.cells #[.string ⟨#[]⟩, .int .i64 0, .int .i64 0, .bool false, .bool false, .int .i64 0] 88)) w.heap.size 88 zeroR.cells) := hide (row_new w zeroR.cells 88)
  have HB0 := hide hb0
  clear hb0
  go_enter Tryz.func58, Tryz.ntmps58
  go_wp2_with fail
  refine (specRules_any _).mono ?_
  rintro e w1 ⟨rfl, hrow, hb1⟩
  have HB := hide (HB0.out.trans (hb1.mono HB0.out.size))
  have HQ1 := hide (HRW.out.below hb1 HRW.out.lt)
  have HRR := hide hrow
  clear hb1 hrow HRW HB0
  generalize (w.alloc (.cells #[.string ⟨#[]⟩, .int .i64 0, .int .i64 0, .bool false, .bool false, .int .i64 0] 88)).heap.size = G at *
  have HV := hide (fun X => l06Version_any n X)
  cases hv : verB n
  · rw [hv] at HV
    have HE : Hid (ruleL n s f = zeroR) := by rw [ruleL, hv]; exact rfl
    have HQ := hide (row_setRow HQ1.out zeroR.cells)
    have HBQ := hide (below_setRow HB.out (g := w.heap.size) (Nat.le_refl _) zeroR.cells.toArray)
    go_wp2_with fail
    refine wp_loop_rounds 1 ?_
    rw [rounds_succ]
    go_wp2_with fail
    refine (HV.out _).mono ?_
    rintro e w2 ⟨rfl, rfl⟩
    go_wp2_with (refine wpList_store_rowR rfl 88 _ _ rfl w.heap.size #[.string ⟨#[]⟩, .int .i64 0, .int .i64 0, .bool false, .bool false, .int .i64 0] rfl rfl 88 #[.string ⟨#[]⟩, .int .i64 0, .int .i64 0, .bool false, .bool false, .int .i64 0] HQ1.out (by kernel_rfl) rfl (by simp [Value.oneCell']) ?_)
    obtain ⟨V, hV⟩ : ∃ V, V = w2.setRow w.heap.size #[.string ⟨#[]⟩, .int .i64 0, .int .i64 0, .bool false, .bool false, .int .i64 0] := ⟨_, rfl⟩
    rw [← hV]
    have HQV : Hid (Row V w.heap.size 88 zeroR.cells) := by rw [hV]; exact HQ
    have HBV : Hid (Below w.heap.size w V) := by rw [hV]; exact HBQ
    clear hV HQ HBQ
    have q0 : V.cell? ⟨w.heap.size, 0, none⟩ = some (.string zeroR.seg) := HQV.out.cell 0
    have q1 : V.cell? ⟨w.heap.size, 1, none⟩ = some (.int .i64 zeroR.fld) := HQV.out.cell 1
    have q2 : V.cell? ⟨w.heap.size, 2, none⟩ = some (.int .i64 zeroR.ty) := HQV.out.cell 2
    have q3 : V.cell? ⟨w.heap.size, 3, none⟩ = some (.bool zeroR.must) := HQV.out.cell 3
    have q4 : V.cell? ⟨w.heap.size, 4, none⟩ = some (.bool zeroR.many) := HQV.out.cell 4
    have q5 : V.cell? ⟨w.heap.size, 5, none⟩ = some (.int .i64 zeroR.since) := HQV.out.cell 5
    go_wp2
    refine bodyPost_ret (v := zeroR.v) ?_ rfl ?_
    · simp [results, Tryz.results58, go_sem, RuleM.v, q0, q1, q2, q3, q4, q5]
    · exact ⟨by rw [HE.out], HBV.out⟩
  · rw [hv] at HV
    have HRA := hide (rule_all n s f hv)
    go_wp2_with fail
    go_loopw [8] (fun i wr => ∃ (X : World) (k : Nat), X = wr ∧ k ≤ 28 ∧ i = .int .i64 (k : Int) ∧ Hid (∀ x ∈ rulesL.take k, (atR s f x && decide (x.since ≤ n)) = false) ∧ Hid (X = w1)) (fun i _ => 28 - (intOf i).toNat)
    case atStart => exact ⟨_, 0, rfl, Nat.zero_le _, rfl, hide (by simp), hide rfl⟩
    case round =>
      obtain ⟨X, k, rfl, hk, rfl, HA, HX⟩ := hrel
      obtain rfl := HX.out
      clear HX
      by_cases hlt : k < 28
      · have hkl : k < rulesL.length := hlt
        have HF1 := hide (HFT.out k hkl HA.out)
        have HF2 := hide (HFN.out k hkl HA.out)
        obtain ⟨a0, a1, a2, a3, a4, a5⟩ := rule_row6 HRR.out k hkl
        have hki : (k : Int) < 28 := by omega
        generalize (rulesL[k]'hkl) = r at *
        go_wp2_with fail
        refine (HV.out _).mono ?_
        rintro e w2 ⟨rfl, rfl⟩
        cases hs : (r.seg.toList == s.toList)
        · have HN : Hid (∀ x ∈ rulesL.take (k + 1), (atR s f x && decide (x.since ≤ n)) = false) := HF2.out (by rw [atR, hs]; rfl)
          go_wp2
          go_roundw
          case rel => exact ⟨_, k + 1, rfl, by omega, by go_num, HN, hide rfl⟩
          case measure => simp [intOf]; omega
        · by_cases hf : r.fld = f
          · have hfb : (r.fld == f) = true := by simpa using hf
            by_cases hsi : r.since ≤ n
            · have HE : Hid (ruleL n s f = r) := by rw [HRA.out, HF1.out (by rw [atR, hs, decide_eq_true hf, decide_eq_true hsi]; rfl)]; rfl
              have HQ := hide (row_setRow HQ1.out r.cells)
              have HBQ := hide (below_setRow HB.out (g := w.heap.size) (Nat.le_refl _) r.cells.toArray)
              clear hf
              go_wp2_with (refine wpList_store_rowR rfl 88 _ _ rfl w.heap.size #[.string r.seg, .int .i64 r.fld, .int .i64 r.ty, .bool r.must, .bool r.many, .int .i64 r.since] rfl rfl 88 #[.string ⟨#[]⟩, .int .i64 0, .int .i64 0, .bool false, .bool false, .int .i64 0] HQ1.out (by kernel_rfl) rfl (by simp [Value.oneCell']) ?_)
              obtain ⟨V, hV⟩ : ∃ V, V = w2.setRow w.heap.size #[.string r.seg, .int .i64 r.fld, .int .i64 r.ty, .bool r.must, .bool r.many, .int .i64 r.since] := ⟨_, rfl⟩
              rw [← hV]
              have HQV : Hid (Row V w.heap.size 88 r.cells) := by rw [hV]; exact HQ
              have HBV : Hid (Below w.heap.size w V) := by rw [hV]; exact HBQ
              clear hV HQ HBQ
              have q0 : V.cell? ⟨w.heap.size, 0, none⟩ = some (.string r.seg) := HQV.out.cell 0
              have q1 : V.cell? ⟨w.heap.size, 1, none⟩ = some (.int .i64 r.fld) := HQV.out.cell 1
              have q2 : V.cell? ⟨w.heap.size, 2, none⟩ = some (.int .i64 r.ty) := HQV.out.cell 2
              have q3 : V.cell? ⟨w.heap.size, 3, none⟩ = some (.bool r.must) := HQV.out.cell 3
              have q4 : V.cell? ⟨w.heap.size, 4, none⟩ = some (.bool r.many) := HQV.out.cell 4
              have q5 : V.cell? ⟨w.heap.size, 5, none⟩ = some (.int .i64 r.since) := HQV.out.cell 5
              go_wp2
              refine bodyPost_ret (v := r.v) ?_ rfl ?_
              · simp [results, Tryz.results58, go_sem, RuleM.v, q0, q1, q2, q3, q4, q5]
              · exact ⟨by rw [HE.out], HBV.out⟩
            · have HN : Hid (∀ x ∈ rulesL.take (k + 1), (atR s f x && decide (x.since ≤ n)) = false) := HF2.out (by rw [atR, hs, decide_eq_true hf, decide_eq_false hsi]; rfl)
              clear hf
              go_wp2
              go_roundw
              case rel => exact ⟨_, k + 1, rfl, by omega, by go_num, HN, hide rfl⟩
              case measure => simp [intOf]; omega
          · have hfb : (r.fld == f) = false := by simpa using hf
            have HN : Hid (∀ x ∈ rulesL.take (k + 1), (atR s f x && decide (x.since ≤ n)) = false) := HF2.out (by rw [atR, hs, decide_eq_false hf]; rfl)
            clear hf
            go_wp2
            go_roundw
            case rel => exact ⟨_, k + 1, rfl, by omega, by go_num, HN, hide rfl⟩
            case measure => simp [intOf]; omega
      · have HE : Hid (ruleL n s f = zeroR) := by rw [HRA.out, HFA.out (by have := HA.out; rw [List.take_of_length_le (by rw [HL28.out]; omega)] at this; exact this)]; rfl
        have HQ := hide (row_setRow HQ1.out zeroR.cells)
        have HBQ := hide (below_setRow HB.out (g := w.heap.size) (Nat.le_refl _) zeroR.cells.toArray)
        go_wp2_with (refine wpList_store_rowR rfl 88 _ _ rfl w.heap.size #[.string ⟨#[]⟩, .int .i64 0, .int .i64 0, .bool false, .bool false, .int .i64 0] rfl rfl 88 #[.string ⟨#[]⟩, .int .i64 0, .int .i64 0, .bool false, .bool false, .int .i64 0] HQ1.out (by kernel_rfl) rfl (by simp [Value.oneCell']) ?_)
        obtain ⟨V, hV⟩ : ∃ V, V = X.setRow w.heap.size #[.string ⟨#[]⟩, .int .i64 0, .int .i64 0, .bool false, .bool false, .int .i64 0] := ⟨_, rfl⟩
        rw [← hV]
        have HQV : Hid (Row V w.heap.size 88 zeroR.cells) := by rw [hV]; exact HQ
        have HBV : Hid (Below w.heap.size w V) := by rw [hV]; exact HBQ
        clear hV HQ HBQ
        have q0 : V.cell? ⟨w.heap.size, 0, none⟩ = some (.string zeroR.seg) := HQV.out.cell 0
        have q1 : V.cell? ⟨w.heap.size, 1, none⟩ = some (.int .i64 zeroR.fld) := HQV.out.cell 1
        have q2 : V.cell? ⟨w.heap.size, 2, none⟩ = some (.int .i64 zeroR.ty) := HQV.out.cell 2
        have q3 : V.cell? ⟨w.heap.size, 3, none⟩ = some (.bool zeroR.must) := HQV.out.cell 3
        have q4 : V.cell? ⟨w.heap.size, 4, none⟩ = some (.bool zeroR.many) := HQV.out.cell 4
        have q5 : V.cell? ⟨w.heap.size, 5, none⟩ = some (.int .i64 zeroR.since) := HQV.out.cell 5
        go_wp2
        refine bodyPost_ret (v := zeroR.v) ?_ rfl ?_
        · simp [results, Tryz.results58, go_sem, RuleM.v, q0, q1, q2, q3, q4, q5]
        · exact ⟨by rw [HE.out], HBV.out⟩
end Go.Proofs.YtfjjbofnfigehaaGreatDoor
/- Lists of lists of texts, as they lie in memory; what of them lasts. Nothing here speaks of one program. -/
namespace Go.Proofs.YtfjjbofnfigehaaGreatDoor
open Go.RowKit

/-- w' has what w has from block B on. -/
structure Same (B : Nat) (w w' : World) : Prop where
  size : w.heap.size ≤ w'.heap.size
  block : ∀ k, B ≤ k → k < w.heap.size → w'.heap[k]? = w.heap[k]?
theorem Same.refl (B : Nat) (w : World) : Same B w w := ⟨Nat.le_refl _, fun _ _ _ => rfl⟩
theorem Same.of {B : Nat} {w w' : World} (h : Below w.heap.size w w') : Same B w w' := ⟨h.size, fun k _ hk => h.block k hk⟩
theorem Same.trans {B : Nat} {a b c : World} (h : Same B a b) (k : Same B b c) : Same B a c :=
  ⟨Nat.le_trans h.size k.size, fun i h1 h2 => (k.block i h1 (Nat.lt_of_lt_of_le h2 h.size)).trans (h.block i h1 h2)⟩
theorem Same.set {B g j : Nat} (w : World) (v : Value) (h : g < B) : Same B w (w.setCell ⟨g, j, none⟩ v) :=
  ⟨by simp [World.setCell], fun k hk _ => Below.heap_setCell w ⟨g, j, none⟩ v k (by show k ≠ g; omega)⟩
theorem Same.cell {B g j : Nat} {w w' : World} (h : Same B w w') (h1 : B ≤ g) (h2 : g < w.heap.size) : w'.cell? ⟨g, j, none⟩ = w.cell? ⟨g, j, none⟩ :=
  World.cell?_of_block (w := w) (h.block g h1 h2)

class Lasts {α : Type} (B : Nat) (R : World → Value → α → Prop) : Prop where
  go : ∀ {w w' : World} {v : Value} {x : α}, Same B w w' → R w v x → R w' v x

def RS (_ : World) (v : Value) (x : ByteArray) : Prop := v = .string x ∧ x.size ≤ maxLen
/-- The slice v reads, element by element, as xs; its cells lie in a block from B on. -/
def RL {α : Type} (B : Nat) (R : World → Value → α → Prop) (w : World) (v : Value) (xs : List α) : Prop :=
  ∃ p cap, v = .slice p xs.length cap ∧ xs.length ≤ cap ∧ cap ≤ maxLen ∧
    (0 < xs.length → ∃ g off, p = some ⟨g, off, none⟩ ∧ g < w.heap.size ∧ B ≤ g ∧ ∀ i (h : i < xs.length), ∃ u, w.cell? ⟨g, off + i, none⟩ = some u ∧ R w u xs[i])
instance (B : Nat) : Lasts B RS := ⟨fun _ h => h⟩
instance {α : Type} (B : Nat) (R : World → Value → α → Prop) [Lasts B R] : Lasts B (RL B R) := ⟨fun {w w' v xs} hs h => by
  obtain ⟨p, cap, rfl, h1, h2, h4⟩ := h
  refine ⟨p, cap, rfl, h1, h2, fun h0 => ?_⟩
  obtain ⟨g, off, rfl, hg, hB, hc⟩ := h4 h0
  refine ⟨g, off, rfl, Nat.lt_of_lt_of_le hg hs.size, hB, fun i hi => ?_⟩
  obtain ⟨u, hu, hR⟩ := hc i hi
  exact ⟨u, by rw [hs.cell hB hg]; exact hu, Lasts.go hs hR⟩⟩
theorem RL.mono {α : Type} {B B' : Nat} {R R' : World → Value → α → Prop} {w : World} {v : Value} {xs : List α} (h : RL B R w v xs) (hB : B' ≤ B) (hR : ∀ u x, R w u x → R' w u x) : RL B' R' w v xs := by
  obtain ⟨p, cap, rfl, h1, h2, h4⟩ := h
  refine ⟨p, cap, rfl, h1, h2, fun h0 => ?_⟩
  obtain ⟨g, off, rfl, hg, hB2, hc⟩ := h4 h0
  refine ⟨g, off, rfl, hg, Nat.le_trans hB hB2, fun i hi => ?_⟩
  obtain ⟨u, hu, hr⟩ := hc i hi
  exact ⟨u, hu, hR _ _ hr⟩
theorem RL.below {α : Type} {B : Nat} {R : World → Value → α → Prop} [Lasts B R] {w w' : World} {v : Value} {xs : List α} (h : RL B R w v xs) (hb : Below w.heap.size w w') : RL B R w' v xs := Lasts.go (B := B) (Same.of hb) h
theorem RL.isSlice {α : Type} {B : Nat} {R : World → Value → α → Prop} {w : World} {v : Value} {xs : List α} (h : RL B R w v xs) : ∃ p c, v = .slice p xs.length c := by
  obtain ⟨p, c, e, _⟩ := h
  exact ⟨p, c, e⟩

abbrev RComp (B : Nat) : World → Value → List ByteArray → Prop := RL B RS
abbrev RRep (B : Nat) : World → Value → List (List ByteArray) → Prop := RL B (RComp B)
abbrev RFld (B : Nat) : World → Value → List (List (List ByteArray)) → Prop := RL B (RRep B)
theorem RComp.mono {B B' : Nat} {w : World} {v : Value} {x : List ByteArray} (h : RComp B w v x) (hB : B' ≤ B) : RComp B' w v x := RL.mono h hB fun _ _ h => h
theorem RRep.mono {B B' : Nat} {w : World} {v : Value} {x : List (List ByteArray)} (h : RRep B w v x) (hB : B' ≤ B) : RRep B' w v x := RL.mono h hB fun _ _ h => RComp.mono h hB
theorem RFld.mono {B B' : Nat} {w : World} {v : Value} {x : List (List (List ByteArray))} (h : RFld B w v x) (hB : B' ≤ B) : RFld B' w v x := RL.mono h hB fun _ _ h => RRep.mono h hB

theorem reads_of_comp {B : Nat} {w : World} {v : Value} {xs : List ByteArray} (h : RComp B w v xs) : (∀ x ∈ xs, x.size ≤ maxLen) → Reads w v xs := by
  intro hx
  obtain ⟨p, cap, rfl, h1, h2, h4⟩ := h
  refine ⟨p, cap, rfl, h1, h2, hx, fun h0 => ?_⟩
  obtain ⟨g, off, rfl, hg, _, hc⟩ := h4 h0
  refine ⟨g, off, rfl, hg, fun i hi => ?_⟩
  obtain ⟨u, hu, rfl, _⟩ := hc i hi
  exact hu
theorem RComp.sizes {B : Nat} {w : World} {v : Value} {xs : List ByteArray} (h : RComp B w v xs) : ∀ x ∈ xs, x.size ≤ maxLen := by
  intro x hx
  obtain ⟨i, hi, rfl⟩ := List.getElem_of_mem hx
  obtain ⟨p, cap, _, _, _, h4⟩ := h
  obtain ⟨g, off, _, _, _, hc⟩ := h4 (by omega)
  obtain ⟨u, _, _, h⟩ := hc i hi
  exact h
theorem RComp.reads {B : Nat} {w : World} {v : Value} {xs : List ByteArray} (h : RComp B w v xs) : Reads w v xs := reads_of_comp h h.sizes
theorem comp_of_reads {w : World} {v : Value} {xs : List ByteArray} (h : Reads w v xs) : RComp 0 w v xs := by
  obtain ⟨p, cap, rfl, h1, h2, h3, h4⟩ := h
  refine ⟨p, cap, rfl, h1, h2, fun h0 => ?_⟩
  obtain ⟨g, off, rfl, hg, hc⟩ := h4 h0
  exact ⟨g, off, rfl, hg, Nat.zero_le _, fun i hi => ⟨_, hc i hi, rfl, h3 _ (List.getElem_mem hi)⟩⟩
/-- A row of the call's own, read as a list. -/
theorem rl_row {α : Type} {B g : Nat} {R : World → Value → α → Prop} {w : World} {T : TypeId} {vs : List Value} {xs : List α} (h : Row w g T vs) (hl : vs.length = xs.length) (hm : xs.length ≤ maxLen) (hB : B ≤ g)
    (hR : ∀ i (hi : i < xs.length), R w (vs[i]'(by omega)) xs[i]) : RL B R w (.slice (some ⟨g, 0, none⟩) xs.length xs.length) xs :=
  ⟨_, _, rfl, Nat.le_refl _, hm, fun _ => ⟨g, 0, rfl, h.lt, hB, fun i hi => ⟨_, by rw [Nat.zero_add]; exact h.at i (by omega), hR i hi⟩⟩⟩

/-- How much texts and lists of them take together. -/
def wL {α : Type} (f : α → Nat) (xs : List α) : Nat := xs.length + (xs.map f).sum
def wComp : List ByteArray → Nat := wL ByteArray.size
def wRep : List (List ByteArray) → Nat := wL wComp
def wFld : List (List (List ByteArray)) → Nat := wL wRep
def szOf (n : Nat) (left : Int) : Int := if (n : Int) ≤ left then left - n else -1
theorem szOf_yes {n : Nat} {left : Int} (h : (n : Int) ≤ left) : szOf n left = left - n := if_pos h
theorem szOf_no {n : Nat} {left : Int} (h : ¬ (n : Int) ≤ left) : szOf n left = -1 := if_neg h
theorem szOf_zero {L : Int} (h : 0 ≤ L) : szOf 0 L = L := by simp [szOf, h]
theorem szOf_step {α : Type} (f : α → Nat) (xs : List α) (k : Nat) (h : k < xs.length) (L : Int) : szOf ((xs.drop k).map f).sum L = if (f xs[k] : Int) ≤ L then szOf ((xs.drop (k + 1)).map f).sum (L - f xs[k]) else -1 := by
  rw [List.drop_eq_getElem_cons h]
  simp only [List.map_cons, List.sum_cons, szOf]
  split <;> split <;> (try split) <;> omega
theorem le_sum_mem : ∀ (l : List Nat) (x : Nat), x ∈ l → x ≤ l.sum
  | [], _, h => by simp at h
  | y :: l, x, h => by
    rcases List.mem_cons.1 h with rfl | h
    · simp
    · have := le_sum_mem l x h
      simp
      omega
theorem wL_mem {α : Type} (f : α → Nat) {xs : List α} {x : α} (h : x ∈ xs) : f x + xs.length ≤ wL f xs := by
  unfold wL
  have : f x ≤ (xs.map f).sum := le_sum_mem _ _ (List.mem_map_of_mem h)
  omega
theorem wL_len {α : Type} (f : α → Nat) (xs : List α) : xs.length ≤ wL f xs := by unfold wL; omega
end Go.Proofs.YtfjjbofnfigehaaGreatDoor
