/- A list appended to an empty one that was just made: a copy of it, in memory of its own. -/
import Derived.Test.YtkmehbgepkilkaaGreatDoorXGMem
import Derived.Deep.RegionLawGrows
import Derived.Laws.OwnMore
import Derived.Maps.AppendAt
namespace Go.Proofs.YtkmehbgepkilkaaGreatDoor
open Go.RowKit

theorem OwnS.ofRow {T : TypeId} {B : Nat} {w : World} {v : Value} {xs : List ByteArray} (hx : ∀ x ∈ xs, x.size ≤ maxLen) (h0 : 0 < xs.length) (h : w.ownsRow B T 1 v xs.length (strs xs)) : OwnS T B w v xs := by
  obtain ⟨_, ⟨_, h1⟩ | ⟨g, cap, cur, rfl, hb, hh, hnc, hcm, hs, htake⟩⟩ := h
  · omega
  · have hl : cur.toList.length = cap := by simpa using hs
    have hd : (cur.toList.drop xs.length).length = cap - xs.length := by rw [List.length_drop, hl]
    have hc : strs xs ++ cur.toList.drop xs.length = cur.toList := by
      rw [← htake, Nat.mul_one]; exact List.take_append_drop _ _
    refine ⟨hx, .inr ⟨g, cur.toList.drop xs.length, by rw [hd, Nat.add_sub_cancel' hnc], by rw [hd, Nat.add_sub_cancel' hnc]; exact hcm, hb, ?_⟩⟩
    unfold Row
    rw [hc]
    simpa using hh
theorem OwnP.ofRow {T : TypeId} {B : Nat} {w : World} {v : Value} {ps : List (Int × ByteArray)} (hx : ∀ x ∈ ps, x.2.size ≤ maxLen) (h0 : 0 < ps.length) (h : w.ownsRow B T 2 v ps.length (pcs ps)) : OwnP T B w v ps := by
  obtain ⟨_, ⟨_, h1⟩ | ⟨g, cap, cur, rfl, hb, hh, hnc, hcm, hs, htake⟩⟩ := h
  · omega
  · have hl : cur.toList.length = cap * 2 := by simpa using hs
    have hd : (cur.toList.drop (ps.length * 2)).length = cap * 2 - ps.length * 2 := by rw [List.length_drop, hl]
    have hc : pcs ps ++ cur.toList.drop (ps.length * 2) = cur.toList := by
      rw [← htake]; exact List.take_append_drop _ _
    refine ⟨hx, .inr ⟨g, cap, cur.toList.drop (ps.length * 2), rfl, hnc, hcm, by rw [hd]; omega, hb, ?_⟩⟩
    unfold Row
    rw [hc]
    simpa using hh
theorem below_ofGrown {w w' : World} (h : w.grownBy w' none) : Below w.heap.size w w' :=
  ⟨h.os, h.tape, h.output, h.size, fun k hk => h.block k hk (by simp)⟩
theorem run_append_nothing {P : Program} (w : World) (t ty e : TypeId) (i : TypeInfo) (ht : P.underlying t = some (.slice e)) (hi : P.info? e = some i) (b : Addr) (p : Option Addr) (c : Nat) :
    (Builtin.append_ #[t, t] ty #[.slice (some b) 0 0, .slice p 0 c]).run P w = .ok (.slice (some b) 0 0) w := by
  cases p with
  | none => simp [Builtin.append_, run_underlying ht, sizeOf, typeInfo, hi, Builtin.lenOf, Builtin.firstCells, storeCells]
  | some ad =>
    have hfc := run_firstCells_some (P := P) w i.size 0 ad 0 c [] (by simp) (by simp)
    simp [Builtin.append_, run_underlying ht, sizeOf, typeInfo, hi, Builtin.lenOf, hfc, storeCells]
theorem add_addr (g off j : Nat) : (⟨g, off, none⟩ : Addr).add j = ⟨g, off + j, none⟩ := Addr.add_lit _ _ _

theorem run_copyS {P : Program} (w : World) (t ty e : TypeId) (i : TypeInfo) (z : Value) (ht : P.underlying t = some (.slice e)) (hi : P.info? e = some i) (hz : i.zero = some z) (hs : i.size = 1) (hb : i.bytes = 16) (hzs : z.cells.size = 1)
    (b : Addr) (v : Value) (xs : List ByteArray) (hr : Reads w v xs) (hn : xs.length ≤ 1048576) :
    ∃ p c w', (Builtin.append_ #[t, t] ty #[.slice (some b) 0 0, v]).run P w = .ok (.slice p xs.length c) w' ∧ OwnS e w.heap.size w' (.slice p xs.length c) xs ∧ Below w.heap.size w w' := by
  obtain ⟨p, c, rfl, h1, h2, h3, h4⟩ := hr
  cases hx : xs with
  | nil => exact ⟨some b, 0, w, run_append_nothing w t ty e i ht hi b p c, ⟨by simp, .inl ⟨_, _, rfl, by unfold maxLen; omega, rfl⟩⟩, Below.refl _ _⟩
  | cons x r =>
    rw [← hx]
    have h0 : 0 < xs.length := by rw [hx]; exact Nat.succ_pos _
    obtain ⟨g, off, rfl, hg, hc⟩ := h4 h0
    obtain ⟨v', w', hrun, r1, r2⟩ := run_append_arg_grows (P := P) w t ty e i z 1 16 ht hi hz hs hb hzs (by omega) b 0 0 [] rfl (by simp) ⟨g, off, none⟩ xs.length c (strs xs) (by rw [strs_len]; omega)
      (fun j u hu => by
        rw [add_addr]
        have hj : j < xs.length := by have := (List.getElem?_eq_some_iff.1 hu).1; rwa [strs_len] at this
        rw [hc j hj, ← hu]
        simp [strs, hj]) (by omega) (by unfold maxLen; omega) (by omega)
    rw [Nat.zero_add, List.nil_append] at r1
    have ho := OwnS.ofRow h3 h0 r1
    obtain ⟨p', c', e', _⟩ := ho.reads
    subst e'
    exact ⟨p', c', w', hrun, ho, below_ofGrown r2⟩
theorem run_copyP {P : Program} (w : World) (t ty e : TypeId) (i : TypeInfo) (z : Value) (ht : P.underlying t = some (.slice e)) (hi : P.info? e = some i) (hz : i.zero = some z) (hs : i.size = 2) (hb : i.bytes = 24) (hzs : z.cells.size = 2)
    (b : Addr) (v : Value) (ps : List (Int × ByteArray)) (hr : ReadsP w v ps) (hn : ps.length ≤ 1048576) :
    ∃ p c w', (Builtin.append_ #[t, t] ty #[.slice (some b) 0 0, v]).run P w = .ok (.slice p ps.length c) w' ∧ OwnP e w.heap.size w' (.slice p ps.length c) ps ∧ Below w.heap.size w w' ∧ (ps = [] → ∃ b, p = some b ∧ c = 0) := by
  obtain ⟨p, c, rfl, h1, h2, h3, h4⟩ := hr
  cases hx : ps with
  | nil => exact ⟨some b, 0, w, run_append_nothing w t ty e i ht hi b p c, ⟨by simp, .inl ⟨_, _, rfl, by unfold maxLen; omega, rfl⟩⟩, Below.refl _ _, fun _ => ⟨b, rfl, rfl⟩⟩
  | cons x r =>
    rw [← hx]
    have h0 : 0 < ps.length := by rw [hx]; exact Nat.succ_pos _
    obtain ⟨g, off, rfl, hg, hc⟩ := h4 h0
    obtain ⟨v', w', hrun, r1, r2⟩ := run_append_arg_grows (P := P) w t ty e i z 2 24 ht hi hz hs hb hzs (by omega) b 0 0 [] rfl (by simp) ⟨g, off, none⟩ ps.length c (pcs ps) (pcs_len ps)
      (fun j u hu => by
        rw [add_addr]
        have hj : j < ps.length * 2 := by have := (List.getElem?_eq_some_iff.1 hu).1; rwa [pcs_len] at this
        have hk : j / 2 < ps.length := by omega
        obtain ⟨c0, c1⟩ := hc (j / 2) hk
        obtain ⟨g0, g1⟩ := pcs_get ps (j / 2) hk
        rcases Nat.mod_two_eq_zero_or_one j with hm | hm
        · have e0 : j / 2 * 2 = j := by omega
          rw [e0] at c0 g0
          rw [c0, ← hu, g0]
        · have e0 : j / 2 * 2 + 1 = j := by omega
          rw [Nat.add_assoc, e0] at c1
          rw [e0] at g1
          rw [c1, ← hu, g1]) (by omega) (by unfold maxLen; omega) (by omega)
    rw [Nat.zero_add, List.nil_append] at r1
    have ho := OwnP.ofRow h3 h0 r1
    obtain ⟨p', c', e', _⟩ := ho.reads
    subst e'
    exact ⟨p', c', w', hrun, ho, below_ofGrown r2, fun h => by rw [h] at h0; cases h0⟩

theorem step_copyS {P : Program} {ops : Array Oper} {o : Oper} {a : Act} {w : World} {K : Act → World → Prop} {Q : Exit → Act → World → Prop} {E : Prop}
    (hg : o.guard = none) (s x : Operand) (t : TypeId) (hop : o.op = Op.call { callee := Callee.builtin Builtin.append, args := #[s, x], argTypes := #[t, t] })
    (e : TypeId) (i : TypeInfo) (z : Value) (ht : P.underlying t = some (.slice e)) (hi : P.info? e = some i) (hz : i.zero = some z) (hs : i.size = 1) (hb : i.bytes = 16) (hzs : z.cells.size = 1)
    (h1 : ∃ b, a.eval s = .slice (some b) 0 0) (v : Value) (h2 : a.eval x = v) (xs : List ByteArray) (hr : Reads w v xs) (hn : xs.length ≤ 1048576)
    (hK : ∀ p c w', OwnS e w.heap.size w' (.slice p xs.length c) xs → Below w.heap.size w w' → K (a.put o.dst (.slice p xs.length c)) w') :
    if Region.wanted o (yielded ops a.tmps) = true then Oper.wp P o a w K Q else E := by
  have hw : Region.wanted o (yielded ops a.tmps) = true := by simp [Region.wanted, hg]
  rw [if_pos hw]
  obtain ⟨b, h1⟩ := h1
  obtain ⟨p, c, w', hrun, r1, r2⟩ := run_copyS (P := P) w t o.type e i z ht hi hz hs hb hzs b v xs hr hn
  unfold Oper.wp
  simp [execOp, hop, resolve, invoke, builtin, h1, h2, hrun, Result.andThen]
  exact hK p c w' r1 r2
theorem step_copyP {P : Program} {ops : Array Oper} {o : Oper} {a : Act} {w : World} {K : Act → World → Prop} {Q : Exit → Act → World → Prop} {E : Prop}
    (hg : o.guard = none) (s x : Operand) (t : TypeId) (hop : o.op = Op.call { callee := Callee.builtin Builtin.append, args := #[s, x], argTypes := #[t, t] })
    (e : TypeId) (i : TypeInfo) (z : Value) (ht : P.underlying t = some (.slice e)) (hi : P.info? e = some i) (hz : i.zero = some z) (hs : i.size = 2) (hb : i.bytes = 24) (hzs : z.cells.size = 2)
    (h1 : ∃ b, a.eval s = .slice (some b) 0 0) (v : Value) (h2 : a.eval x = v) (ps : List (Int × ByteArray)) (hr : ReadsP w v ps) (hn : ps.length ≤ 1048576)
    (hK : ∀ p c w', OwnP e w.heap.size w' (.slice p ps.length c) ps → Below w.heap.size w w' → (ps = [] → ∃ b, p = some b ∧ c = 0) → K (a.put o.dst (.slice p ps.length c)) w') :
    if Region.wanted o (yielded ops a.tmps) = true then Oper.wp P o a w K Q else E := by
  have hw : Region.wanted o (yielded ops a.tmps) = true := by simp [Region.wanted, hg]
  rw [if_pos hw]
  obtain ⟨b, h1⟩ := h1
  obtain ⟨p, c, w', hrun, r1, r2, r3⟩ := run_copyP (P := P) w t o.type e i z ht hi hz hs hb hzs b v ps hr hn
  unfold Oper.wp
  simp [execOp, hop, resolve, invoke, builtin, h1, h2, hrun, Result.andThen]
  exact hK p c w' r1 r2 r3

/-- One more pair behind a list of the call's own. -/
theorem run_pushP {P : Program} (w : World) (B : Nat) (t ty e : TypeId) (i : TypeInfo) (z : Value) (ht : P.underlying t = some (.slice e)) (hi : P.info? e = some i) (hz : i.zero = some z) (hs : i.size = 2) (hb : i.bytes = 24) (hzs : z.cells.size = 2)
    (v : Value) (ps : List (Int × ByteArray)) (ho : OwnP e B w v ps) (he : ps = [] → ∃ b, v = .slice (some b) 0 0) (hn : ps.length ≤ 1048576) (hB : B ≤ w.heap.size) (a : Int) (d : ByteArray) (hd : d.size ≤ maxLen) (g c : Nat) (hr : Row w g e [.int .i64 a, .string d]) :
    ∃ p c' w', (Builtin.append_ #[t, t] ty #[v, .slice (some ⟨g, 0, none⟩) 1 c]).run P w = .ok (.slice p (ps.length + 1) c') w' ∧ OwnP e B w' (.slice p (ps.length + 1) c') (ps ++ [(a, d)]) ∧ Kept (leads v) w w' ∧ (∀ x ∈ leads (.slice p (ps.length + 1) c'), x ∈ leads v ∨ w.heap.size ≤ x) := by
  have hnews : ∀ j u, ([Value.int .i64 a, Value.string d] : List Value)[j]? = some u → w.cell? ((⟨g, 0, none⟩ : Addr).add j) = some u := fun j u hu => by
    rw [add_addr, Nat.zero_add, hr.cell]; exact hu
  have hlen : (ps ++ [(a, d)]).length = ps.length + 1 := by simp
  have hp : pcs (ps ++ [(a, d)]) = pcs ps ++ [.int .i64 a, .string d] := pcs_append ps _
  have hx' : (∀ x ∈ ps, x.2.size ≤ maxLen) → ∀ x ∈ ps ++ [(a, d)], x.2.size ≤ maxLen := fun h x hx => by
    rcases List.mem_append.1 hx with h' | h'
    · exact h x h'
    · rw [List.mem_singleton.1 h']; exact hd
  cases hps : ps with
  | nil =>
    subst hps
    obtain ⟨b, rfl⟩ := he rfl
    obtain ⟨v', w', hrun, r1, r2⟩ := run_append_arg_grows (P := P) w t ty e i z 2 24 ht hi hz hs hb hzs (by omega) b 0 0 [] rfl (by simp) ⟨g, 0, none⟩ 1 c [.int .i64 a, .string d] rfl hnews (by omega) (by unfold maxLen; omega) (by omega)
    have hown : OwnP e w.heap.size w' v' ([] ++ [(a, d)]) := OwnP.ofRow (hx' ho.1) (by simp) r1
    obtain ⟨p', c', e', _⟩ := hown.reads
    subst e'
    exact ⟨p', c', w', hrun, hown.mono hB, (Kept.ofBelow (below_ofGrown r2)).mono (by simp), fun x hx => .inr (hown.leads x hx).1⟩
  | cons x r =>
    rw [← hps]
    have h0 : 0 < ps.length := by rw [hps]; exact Nat.succ_pos _
    obtain ⟨hx, ⟨p, cap, _, _, hnil⟩ | ⟨G, cap, rest, rfl, hc, hm, hl2, hBG, hrow⟩⟩ := ho
    · rw [hnil] at h0; cases h0
    · have hown : w.ownsRow B e 2 (.slice (some ⟨G, 0, none⟩) ps.length cap) ps.length (pcs ps) :=
        ⟨pcs_len ps, .inr ⟨G, cap, (pcs ps ++ rest).toArray, rfl, hBG, hrow, hc, hm, by simp [pcs_len]; omega, by simp [← pcs_len]⟩⟩
      obtain ⟨v', w', hrun, r1, r2, _, r4⟩ := run_append_own_at (P := P) w B t ty e i z 2 24 ht hi hz hs hb hzs (by omega) _ ps.length (pcs ps) hown ⟨g, 0, none⟩ 1 c [.int .i64 a, .string d] rfl hnews (by simp [Value.oneCell']) (by unfold maxLen; omega) (by omega) hB
      have hown' : OwnP e B w' v' (ps ++ [(a, d)]) := OwnP.ofRow (hx' hx) (by simp) (by rw [hlen, hp]; exact r1)
      obtain ⟨p', c', e', _⟩ := hown'.reads
      rw [hlen] at e'
      subst e'
      obtain ⟨m, hm'⟩ : ∃ m, ps.length = m + 1 := ⟨ps.length - 1, by omega⟩
      have hl : leads (.slice (some ⟨G, 0, none⟩) ps.length cap) = [G] := by rw [hm']; rfl
      refine ⟨p', c', w', hrun, hown', ?_, fun x hx => ?_⟩
      rw [hl]
      exact ⟨r2.os, r2.tape, r2.output, r2.size, fun k hk hn => r2.block k hk (fun e => hn (by simpa [Value.ownBlock] using e))⟩
      cases p' with
      | none => cases hx
      | some ad =>
        obtain rfl := List.mem_singleton.1 hx
        rw [hl]
        rcases r4 with h | h
        · exact .inl (by simpa [Value.ownBlock] using h)
        · exact .inr (by have : ad.block = w.heap.size := by simpa [Value.ownBlock] using h
                         omega)
theorem wpList_pushP {P : Program} (w : World) {ops : Array Oper} {rest : List Oper} {o : Oper} {a : Act} {Q : Exit → Act → World → Prop} (hgd : o.guard = none) (s x : Operand) (t : TypeId)
    (hop : o.op = Op.call { callee := Callee.builtin Builtin.append, args := #[s, x], argTypes := #[t, t] })
    (B : Nat) (e : TypeId) (i : TypeInfo) (z : Value) (ht : P.underlying t = some (.slice e)) (hi : P.info? e = some i) (hz : i.zero = some z) (hs : i.size = 2) (hb : i.bytes = 24) (hzs : z.cells.size = 2)
    (v : Value) (h1 : a.eval s = v) (ps : List (Int × ByteArray)) (ho : OwnP e B w v ps) (he : ps = [] → ∃ b, v = .slice (some b) 0 0) (hn : ps.length ≤ 1048576) (hB : B ≤ w.heap.size) (n : Int) (d : ByteArray) (hd : d.size ≤ maxLen) (g c : Nat)
    (h2 : a.eval x = .slice (some ⟨g, 0, none⟩) 1 c) (hr : Row w g e [.int .i64 n, .string d])
    (hK : ∀ p c' w', OwnP e B w' (.slice p (ps.length + 1) c') (ps ++ [(n, d)]) → Kept (leads v) w w' → (∀ x ∈ leads (.slice p (ps.length + 1) c'), x ∈ leads v ∨ w.heap.size ≤ x) → wpList P ops Q rest (a.put o.dst (.slice p (ps.length + 1) c')) w') : wpList P ops Q (o :: rest) a w := by
  refine wpList_plain hgd fun K hK' => ?_
  obtain ⟨p, c', w', hrun, r1, r2, r3⟩ := run_pushP (P := P) w B t o.type e i z ht hi hz hs hb hzs v ps ho he hn hB n d hd g c hr
  unfold Oper.wp
  simp [execOp, hop, resolve, invoke, builtin, h1, h2, hrun, Result.andThen]
  exact hK' _ _ (hK p c' w' r1 r2 r3)
end Go.Proofs.YtkmehbgepkilkaaGreatDoor
