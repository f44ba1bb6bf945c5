/- A list appended to an empty one that was just made: a copy of it, in memory of its own. -/
import Derived.Test.YtnpbmaajgiapmaaGreatDoorXG0Mem
import Derived.Deep.RegionLawGrows
import Derived.Laws.OwnMore
import Derived.Maps.AppendAt
import Derived.Test.YtnpbmaajgiapmaaGreatDoorXG14DiskEq
import Derived.Deep.RegionHeld3
namespace Go.Proofs.YtnpbmaajgiapmaaGreatDoor
open Go.RowKit

theorem OwnS.ofRow {T : TypeId} {B : Nat} {w : World} {v : Value} {xs : List ByteArray} (hx : ∀ x ∈ xs, x.size ≤ maxLen) (h0 : 0 < xs.length) (h : w.ownsRow B T 1 v xs.length (strs xs)) : OwnS T B w v xs := by
  obtain ⟨_, ⟨_, h1⟩ | ⟨g, cap, cur, rfl, hb, hh, hnc, hcm, hs, htake⟩⟩ := h
  · omega
  · have hl : cur.toList.length = cap := by simpa using hs
    have hd : (cur.toList.drop xs.length).length = cap - xs.length := by rw [List.length_drop, hl]
    have hc : strs xs ++ cur.toList.drop xs.length = cur.toList := by
      rw [← htake, Nat.mul_one]; exact List.take_append_drop _ _
    refine ⟨hx, .inr ⟨g, cur.toList.drop xs.length, by rw [hd, Nat.add_sub_cancel' hnc], by rw [hd, Nat.add_sub_cancel' hnc]; exact hcm, hb, ?_⟩⟩
    unfold Row
    rw [hc]
    simpa using hh
theorem OwnP.ofRow {T : TypeId} {B : Nat} {w : World} {v : Value} {ps : List (Int × ByteArray)} (hx : ∀ x ∈ ps, x.2.size ≤ maxLen) (h0 : 0 < ps.length) (h : w.ownsRow B T 2 v ps.length (pcs ps)) : OwnP T B w v ps := by
  obtain ⟨_, ⟨_, h1⟩ | ⟨g, cap, cur, rfl, hb, hh, hnc, hcm, hs, htake⟩⟩ := h
  · omega
  · have hl : cur.toList.length = cap * 2 := by simpa using hs
    have hd : (cur.toList.drop (ps.length * 2)).length = cap * 2 - ps.length * 2 := by rw [List.length_drop, hl]
    have hc : pcs ps ++ cur.toList.drop (ps.length * 2) = cur.toList := by
      rw [← htake]; exact List.take_append_drop _ _
    refine ⟨hx, .inr ⟨g, cap, cur.toList.drop (ps.length * 2), rfl, hnc, hcm, by rw [hd]; omega, hb, ?_⟩⟩
    unfold Row
    rw [hc]
    simpa using hh
theorem below_ofGrown {w w' : World} (h : w.grownBy w' none) : Below w.heap.size w w' :=
  ⟨h.os, h.tape, h.output, h.size, fun k hk => h.block k hk (by simp)⟩
theorem run_append_nothing {P : Program} (w : World) (t ty e : TypeId) (i : TypeInfo) (ht : P.underlying t = some (.slice e)) (hi : P.info? e = some i) (b : Addr) (p : Option Addr) (c : Nat) :
    (Builtin.append_ #[t, t] ty #[.slice (some b) 0 0, .slice p 0 c]).run P w = .ok (.slice (some b) 0 0) w := by
  cases p with
  | none => simp [Builtin.append_, run_underlying ht, sizeOf, typeInfo, hi, Builtin.lenOf, Builtin.firstCells, storeCells]
  | some ad =>
    have hfc := run_firstCells_some (P := P) w i.size 0 ad 0 c [] (by simp) (by simp)
    simp [Builtin.append_, run_underlying ht, sizeOf, typeInfo, hi, Builtin.lenOf, hfc, storeCells]
theorem add_addr (g off j : Nat) : (⟨g, off, none⟩ : Addr).add j = ⟨g, off + j, none⟩ := Addr.add_lit _ _ _

theorem run_copyS {P : Program} (w : World) (t ty e : TypeId) (i : TypeInfo) (z : Value) (ht : P.underlying t = some (.slice e)) (hi : P.info? e = some i) (hz : i.zero = some z) (hs : i.size = 1) (hb : i.bytes = 16) (hzs : z.cells.size = 1)
    (b : Addr) (v : Value) (xs : List ByteArray) (hr : Reads w v xs) (hn : xs.length ≤ 1048576) :
    ∃ p c w', (Builtin.append_ #[t, t] ty #[.slice (some b) 0 0, v]).run P w = .ok (.slice p xs.length c) w' ∧ OwnS e w.heap.size w' (.slice p xs.length c) xs ∧ Below w.heap.size w w' := by
  obtain ⟨p, c, rfl, h1, h2, h3, h4⟩ := hr
  cases hx : xs with
  | nil => exact ⟨some b, 0, w, run_append_nothing w t ty e i ht hi b p c, ⟨by simp, .inl ⟨_, _, rfl, by unfold maxLen; omega, rfl⟩⟩, Below.refl _ _⟩
  | cons x r =>
    rw [← hx]
    have h0 : 0 < xs.length := by rw [hx]; exact Nat.succ_pos _
    obtain ⟨g, off, rfl, hg, hc⟩ := h4 h0
    obtain ⟨v', w', hrun, r1, r2⟩ := run_append_arg_grows (P := P) w t ty e i z 1 16 ht hi hz hs hb hzs (by omega) b 0 0 [] rfl (by simp) ⟨g, off, none⟩ xs.length c (strs xs) (by rw [strs_len]; omega)
      (fun j u hu => by
        rw [add_addr]
        have hj : j < xs.length := by have := (List.getElem?_eq_some_iff.1 hu).1; rwa [strs_len] at this
        rw [hc j hj, ← hu]
        simp [strs, hj]) (by omega) (by unfold maxLen; omega) (by omega)
    rw [Nat.zero_add, List.nil_append] at r1
    have ho := OwnS.ofRow h3 h0 r1
    obtain ⟨p', c', e', _⟩ := ho.reads
    subst e'
    exact ⟨p', c', w', hrun, ho, below_ofGrown r2⟩
theorem run_copyP {P : Program} (w : World) (t ty e : TypeId) (i : TypeInfo) (z : Value) (ht : P.underlying t = some (.slice e)) (hi : P.info? e = some i) (hz : i.zero = some z) (hs : i.size = 2) (hb : i.bytes = 24) (hzs : z.cells.size = 2)
    (b : Addr) (v : Value) (ps : List (Int × ByteArray)) (hr : ReadsP w v ps) (hn : ps.length ≤ 1048576) :
    ∃ p c w', (Builtin.append_ #[t, t] ty #[.slice (some b) 0 0, v]).run P w = .ok (.slice p ps.length c) w' ∧ OwnP e w.heap.size w' (.slice p ps.length c) ps ∧ Below w.heap.size w w' ∧ (ps = [] → ∃ b, p = some b ∧ c = 0) := by
  obtain ⟨p, c, rfl, h1, h2, h3, h4⟩ := hr
  cases hx : ps with
  | nil => exact ⟨some b, 0, w, run_append_nothing w t ty e i ht hi b p c, ⟨by simp, .inl ⟨_, _, rfl, by unfold maxLen; omega, rfl⟩⟩, Below.refl _ _, fun _ => ⟨b, rfl, rfl⟩⟩
  | cons x r =>
    rw [← hx]
    have h0 : 0 < ps.length := by rw [hx]; exact Nat.succ_pos _
    obtain ⟨g, off, rfl, hg, hc⟩ := h4 h0
    obtain ⟨v', w', hrun, r1, r2⟩ := run_append_arg_grows (P := P) w t ty e i z 2 24 ht hi hz hs hb hzs (by omega) b 0 0 [] rfl (by simp) ⟨g, off, none⟩ ps.length c (pcs ps) (pcs_len ps)
      (fun j u hu => by
        rw [add_addr]
        have hj : j < ps.length * 2 := by have := (List.getElem?_eq_some_iff.1 hu).1; rwa [pcs_len] at this
        have hk : j / 2 < ps.length := by omega
        obtain ⟨c0, c1⟩ := hc (j / 2) hk
        obtain ⟨g0, g1⟩ := pcs_get ps (j / 2) hk
        rcases Nat.mod_two_eq_zero_or_one j with hm | hm
        · have e0 : j / 2 * 2 = j := by omega
          rw [e0] at c0 g0
          rw [c0, ← hu, g0]
        · have e0 : j / 2 * 2 + 1 = j := by omega
          rw [Nat.add_assoc, e0] at c1
          rw [e0] at g1
          rw [c1, ← hu, g1]) (by omega) (by unfold maxLen; omega) (by omega)
    rw [Nat.zero_add, List.nil_append] at r1
    have ho := OwnP.ofRow h3 h0 r1
    obtain ⟨p', c', e', _⟩ := ho.reads
    subst e'
    exact ⟨p', c', w', hrun, ho, below_ofGrown r2, fun h => by rw [h] at h0; cases h0⟩

theorem step_copyS {P : Program} {ops : Array Oper} {o : Oper} {a : Act} {w : World} {K : Act → World → Prop} {Q : Exit → Act → World → Prop} {E : Prop}
    (hg : o.guard = none) (s x : Operand) (t : TypeId) (hop : o.op = Op.call { callee := Callee.builtin Builtin.append, args := #[s, x], argTypes := #[t, t] })
    (e : TypeId) (i : TypeInfo) (z : Value) (ht : P.underlying t = some (.slice e)) (hi : P.info? e = some i) (hz : i.zero = some z) (hs : i.size = 1) (hb : i.bytes = 16) (hzs : z.cells.size = 1)
    (h1 : ∃ b, a.eval s = .slice (some b) 0 0) (v : Value) (h2 : a.eval x = v) (xs : List ByteArray) (hr : Reads w v xs) (hn : xs.length ≤ 1048576)
    (hK : ∀ p c w', OwnS e w.heap.size w' (.slice p xs.length c) xs → Below w.heap.size w w' → K (a.put o.dst (.slice p xs.length c)) w') :
    if Region.wanted o (yielded ops a.tmps) = true then Oper.wp P o a w K Q else E := by
  have hw : Region.wanted o (yielded ops a.tmps) = true := by simp [Region.wanted, hg]
  rw [if_pos hw]
  obtain ⟨b, h1⟩ := h1
  obtain ⟨p, c, w', hrun, r1, r2⟩ := run_copyS (P := P) w t o.type e i z ht hi hz hs hb hzs b v xs hr hn
  unfold Oper.wp
  simp [execOp, hop, resolve, invoke, builtin, h1, h2, hrun, Result.andThen]
  exact hK p c w' r1 r2
theorem step_copyP {P : Program} {ops : Array Oper} {o : Oper} {a : Act} {w : World} {K : Act → World → Prop} {Q : Exit → Act → World → Prop} {E : Prop}
    (hg : o.guard = none) (s x : Operand) (t : TypeId) (hop : o.op = Op.call { callee := Callee.builtin Builtin.append, args := #[s, x], argTypes := #[t, t] })
    (e : TypeId) (i : TypeInfo) (z : Value) (ht : P.underlying t = some (.slice e)) (hi : P.info? e = some i) (hz : i.zero = some z) (hs : i.size = 2) (hb : i.bytes = 24) (hzs : z.cells.size = 2)
    (h1 : ∃ b, a.eval s = .slice (some b) 0 0) (v : Value) (h2 : a.eval x = v) (ps : List (Int × ByteArray)) (hr : ReadsP w v ps) (hn : ps.length ≤ 1048576)
    (hK : ∀ p c w', OwnP e w.heap.size w' (.slice p ps.length c) ps → Below w.heap.size w w' → (ps = [] → ∃ b, p = some b ∧ c = 0) → K (a.put o.dst (.slice p ps.length c)) w') :
    if Region.wanted o (yielded ops a.tmps) = true then Oper.wp P o a w K Q else E := by
  have hw : Region.wanted o (yielded ops a.tmps) = true := by simp [Region.wanted, hg]
  rw [if_pos hw]
  obtain ⟨b, h1⟩ := h1
  obtain ⟨p, c, w', hrun, r1, r2, r3⟩ := run_copyP (P := P) w t o.type e i z ht hi hz hs hb hzs b v ps hr hn
  unfold Oper.wp
  simp [execOp, hop, resolve, invoke, builtin, h1, h2, hrun, Result.andThen]
  exact hK p c w' r1 r2 r3

/-- One more pair behind a list of the call's own. -/
theorem run_pushP {P : Program} (w : World) (B : Nat) (t ty e : TypeId) (i : TypeInfo) (z : Value) (ht : P.underlying t = some (.slice e)) (hi : P.info? e = some i) (hz : i.zero = some z) (hs : i.size = 2) (hb : i.bytes = 24) (hzs : z.cells.size = 2)
    (v : Value) (ps : List (Int × ByteArray)) (ho : OwnP e B w v ps) (he : ps = [] → ∃ b, v = .slice (some b) 0 0) (hn : ps.length ≤ 1048576) (hB : B ≤ w.heap.size) (a : Int) (d : ByteArray) (hd : d.size ≤ maxLen) (g c : Nat) (hr : Row w g e [.int .i64 a, .string d]) :
    ∃ p c' w', (Builtin.append_ #[t, t] ty #[v, .slice (some ⟨g, 0, none⟩) 1 c]).run P w = .ok (.slice p (ps.length + 1) c') w' ∧ OwnP e B w' (.slice p (ps.length + 1) c') (ps ++ [(a, d)]) ∧ Kept (leads v) w w' ∧ (∀ x ∈ leads (.slice p (ps.length + 1) c'), x ∈ leads v ∨ w.heap.size ≤ x) := by
  have hnews : ∀ j u, ([Value.int .i64 a, Value.string d] : List Value)[j]? = some u → w.cell? ((⟨g, 0, none⟩ : Addr).add j) = some u := fun j u hu => by
    rw [add_addr, Nat.zero_add, hr.cell]; exact hu
  have hlen : (ps ++ [(a, d)]).length = ps.length + 1 := by simp
  have hp : pcs (ps ++ [(a, d)]) = pcs ps ++ [.int .i64 a, .string d] := pcs_append ps _
  have hx' : (∀ x ∈ ps, x.2.size ≤ maxLen) → ∀ x ∈ ps ++ [(a, d)], x.2.size ≤ maxLen := fun h x hx => by
    rcases List.mem_append.1 hx with h' | h'
    · exact h x h'
    · rw [List.mem_singleton.1 h']; exact hd
  cases hps : ps with
  | nil =>
    subst hps
    obtain ⟨b, rfl⟩ := he rfl
    obtain ⟨v', w', hrun, r1, r2⟩ := run_append_arg_grows (P := P) w t ty e i z 2 24 ht hi hz hs hb hzs (by omega) b 0 0 [] rfl (by simp) ⟨g, 0, none⟩ 1 c [.int .i64 a, .string d] rfl hnews (by omega) (by unfold maxLen; omega) (by omega)
    have hown : OwnP e w.heap.size w' v' ([] ++ [(a, d)]) := OwnP.ofRow (hx' ho.1) (by simp) r1
    obtain ⟨p', c', e', _⟩ := hown.reads
    subst e'
    exact ⟨p', c', w', hrun, hown.mono hB, (Kept.ofBelow (below_ofGrown r2)).mono (by simp), fun x hx => .inr (hown.leads x hx).1⟩
  | cons x r =>
    rw [← hps]
    have h0 : 0 < ps.length := by rw [hps]; exact Nat.succ_pos _
    obtain ⟨hx, ⟨p, cap, _, _, hnil⟩ | ⟨G, cap, rest, rfl, hc, hm, hl2, hBG, hrow⟩⟩ := ho
    · rw [hnil] at h0; cases h0
    · have hown : w.ownsRow B e 2 (.slice (some ⟨G, 0, none⟩) ps.length cap) ps.length (pcs ps) :=
        ⟨pcs_len ps, .inr ⟨G, cap, (pcs ps ++ rest).toArray, rfl, hBG, hrow, hc, hm, by simp [pcs_len]; omega, by simp [← pcs_len]⟩⟩
      obtain ⟨v', w', hrun, r1, r2, _, r4⟩ := run_append_own_at (P := P) w B t ty e i z 2 24 ht hi hz hs hb hzs (by omega) _ ps.length (pcs ps) hown ⟨g, 0, none⟩ 1 c [.int .i64 a, .string d] rfl hnews (by simp [Value.oneCell']) (by unfold maxLen; omega) (by omega) hB
      have hown' : OwnP e B w' v' (ps ++ [(a, d)]) := OwnP.ofRow (hx' hx) (by simp) (by rw [hlen, hp]; exact r1)
      obtain ⟨p', c', e', _⟩ := hown'.reads
      rw [hlen] at e'
      subst e'
      obtain ⟨m, hm'⟩ : ∃ m, ps.length = m + 1 := ⟨ps.length - 1, by omega⟩
      have hl : leads (.slice (some ⟨G, 0, none⟩) ps.length cap) = [G] := by rw [hm']; rfl
      refine ⟨p', c', w', hrun, hown', ?_, fun x hx => ?_⟩
      rw [hl]
      exact ⟨r2.os, r2.tape, r2.output, r2.size, fun k hk hn => r2.block k hk (fun e => hn (by simpa [Value.ownBlock] using e))⟩
      cases p' with
      | none => cases hx
      | some ad =>
        obtain rfl := List.mem_singleton.1 hx
        rw [hl]
        rcases r4 with h | h
        · exact .inl (by simpa [Value.ownBlock] using h)
        · exact .inr (by have : ad.block = w.heap.size := by simpa [Value.ownBlock] using h
                         omega)
theorem wpList_pushP {P : Program} (w : World) {ops : Array Oper} {rest : List Oper} {o : Oper} {a : Act} {Q : Exit → Act → World → Prop} (hgd : o.guard = none) (s x : Operand) (t : TypeId)
    (hop : o.op = Op.call { callee := Callee.builtin Builtin.append, args := #[s, x], argTypes := #[t, t] })
    (B : Nat) (e : TypeId) (i : TypeInfo) (z : Value) (ht : P.underlying t = some (.slice e)) (hi : P.info? e = some i) (hz : i.zero = some z) (hs : i.size = 2) (hb : i.bytes = 24) (hzs : z.cells.size = 2)
    (v : Value) (h1 : a.eval s = v) (ps : List (Int × ByteArray)) (ho : OwnP e B w v ps) (he : ps = [] → ∃ b, v = .slice (some b) 0 0) (hn : ps.length ≤ 1048576) (hB : B ≤ w.heap.size) (n : Int) (d : ByteArray) (hd : d.size ≤ maxLen) (g c : Nat)
    (h2 : a.eval x = .slice (some ⟨g, 0, none⟩) 1 c) (hr : Row w g e [.int .i64 n, .string d])
    (hK : ∀ p c' w', OwnP e B w' (.slice p (ps.length + 1) c') (ps ++ [(n, d)]) → Kept (leads v) w w' → (∀ x ∈ leads (.slice p (ps.length + 1) c'), x ∈ leads v ∨ w.heap.size ≤ x) → wpList P ops Q rest (a.put o.dst (.slice p (ps.length + 1) c')) w') : wpList P ops Q (o :: rest) a w := by
  refine wpList_plain hgd fun K hK' => ?_
  obtain ⟨p, c', w', hrun, r1, r2, r3⟩ := run_pushP (P := P) w B t o.type e i z ht hi hz hs hb hzs v ps ho he hn hB n d hd g c hr
  unfold Oper.wp
  simp [execOp, hop, resolve, invoke, builtin, h1, h2, hrun, Result.andThen]
  exact hK' _ _ (hK p c' w' r1 r2 r3)
end Go.Proofs.YtnpbmaajgiapmaaGreatDoor
/- A copy of a disk, as the specification makes it. -/
namespace Go.Proofs.YtnpbmaajgiapmaaGreatDoor
open Go.RowKit

theorem Kept.alloc {S : List Nat} {a b : World} (h : Kept S a b) (o : Obj) : Kept S a (b.alloc o) := h.below ((Below.refl b.heap.size b).alloc (Nat.le_refl _) o)
theorem Kept.drew {S : List Nat} {a b : World} (h : Kept S a b) : Kept S a b.drew := ⟨h.os, h.tape, h.output, h.size, h.block⟩
theorem Kept.set {S : List Nat} {a b : World} {G j : Nat} (h : Kept S a b) (hG : G ∈ S) (v : Value) : Kept S a (b.setCell ⟨G, j, none⟩ v) :=
  h.trans ((Kept.ofSet b G j v).mono (by simpa using hG))

theorem Row.after {w w' : World} {g : Nat} {T : TypeId} {cs : List Value} (hb : Below w.heap.size w w') (h : Row w g T cs) : Row w' g T cs := h.below hb h.lt
theorem Row.drew {w : World} {g : Nat} {T : TypeId} {cs : List Value} (h : Row w g T cs) : Row w.drew g T cs := h

theorem l02Ill_any (c : Int) (w : World) :
    Calls Tryz.prog 96 #[.int .i64 c] w fun e w' => e = .returned (.agg #[.slice none 0 0, .slice none 0 0, .string ⟨#[]⟩, .int .i64 c]) ∧ Below w.heap.size w w' := by
  go_enter Tryz.func96, Tryz.ntmps96
  go_wp2
  exact bodyPost_ret (v := .agg #[.slice none 0 0, .slice none 0 0, .string ⟨#[]⟩, .int .i64 c]) (by simp [results, Tryz.results96, go_sem]) rfl ⟨rfl, (Below.refl _ _).alloc (Nat.le_refl _) _⟩

set_option maxRecDepth 100000 in
set_option maxHeartbeats 3200000 in
theorem l02Copy_any (vs vp : Value) (xs : List ByteArray) (ps : List (Int × ByteArray)) (w : World) (hn : xs.length ≤ 1048576) (hn2 : ps.length ≤ 1048576) (hr : Reads w vs xs) (hp : ReadsP w vp ps) :
    Calls Tryz.prog 49 #[.agg #[vs, vp]] w fun e w' => ∃ us up, e = .returned (.agg #[us, up]) ∧ OwnS 9 w.heap.size w' us xs ∧ OwnP 92 w.heap.size w' up ps ∧ (∀ x ∈ leads us, x ∉ leads up) ∧ (ps = [] → ∃ b, up = .slice (some b) 0 0) ∧ Below w.heap.size w w' := by
  obtain ⟨i0, hi, hz0, hz1, hz2⟩ := info_parts Tryz.infoStr
  obtain ⟨j0, hj, hy0, hy1, hy2⟩ := info_parts Tryz.infoPend
  obtain ⟨W, hW⟩ : ∃ W, W = ((w.alloc (.cells #[vs, vp] 30)).alloc (.cells #[.slice none 0 0, .slice none 0 0] 30)) := ⟨_, rfl⟩
  have hb0 : Below w.heap.size w W := by rw [hW]; exact ((Below.refl _ _).alloc (Nat.le_refl _) _).alloc (by simp) _
  have HR := hide (hr.below hb0 (Nat.le_refl _))
  have HP := hide (hp.below hb0 (Nat.le_refl _))
  have HB0 := hide hb0
  have L1 := hr.leads
  have L2 := hp.leads
  obtain ⟨p1, c1, rfl, hq⟩ := hr
  obtain ⟨p2, c2, rfl, hq2⟩ := hp
  have R0 : Row W w.heap.size 30 [.slice p1 xs.length c1, .slice p2 ps.length c2] := by rw [hW]; exact (row_new w [.slice p1 xs.length c1, .slice p2 ps.length c2] 30).alloc _
  have R1 : Row W (w.heap.size + 1) 30 [.slice none 0 0, .slice none 0 0] := by
    rw [hW]
    have := row_new (w.alloc (.cells #[.slice p1 xs.length c1, .slice p2 ps.length c2] 30)) [.slice none 0 0, .slice none 0 0] 30
    simpa using this
  clear hq hq2 hb0
  have hzp : (Value.agg #[.int .i64 0, .string ⟨#[]⟩]).cells.size = 2 := by simp [Value.cells]
  go_enter Tryz.func49, Tryz.ntmps49
  go_wp2_with fail
  rw [← hW]
  have hsz : W.heap.size = w.heap.size + 2 := by rw [hW]; simp
  clear hW
  have HS : ∀ x, Kept [w.heap.size + 1] W x → x.cell? ⟨w.heap.size, 0, none⟩ = some (.slice p1 xs.length c1) ∧ x.cell? ⟨w.heap.size, 1, none⟩ = some (.slice p2 ps.length c2) ∧ Kept [w.heap.size + 1] W x :=
    fun x h => ⟨(h.row R0 (by simp)).cell 0, (h.row R0 (by simp)).cell 1, h⟩
  have HS' := hide HS
  have N1 : ∀ x ∈ leads (.slice p1 xs.length c1), x ∉ [w.heap.size + 1] := fun x hx => by have := L1 x hx; simp; omega
  have N2 : ∀ x ∈ leads (.slice p2 ps.length c2), x ∉ [w.heap.size + 1] := fun x hx => by have := L2 x hx; simp; omega
  clear L1 L2
  clear HS
  go_region_held3 (fun x => x.cell? ⟨w.heap.size, 0, none⟩ = some (.slice p1 xs.length c1) ∧ x.cell? ⟨w.heap.size, 1, none⟩ = some (.slice p2 ps.length c2) ∧ Kept [w.heap.size + 1] W x)
    ((go_split_ands; refine HS'.out _ ?_; repeat (first | with_reducible assumption | with_reducible exact Kept.refl _ _ | with_reducible refine Kept.drew ?_ | with_reducible refine Kept.alloc ?_ _ | with_reducible refine Kept.set ?_ (by simp) _ | with_reducible refine Kept.below ?_ (by assumption))))
    ((go_split_ands; first
      | (refine step_copyS (by rfl) (.tmp 3) (.tmp 5) 22 (by rfl) 9 i0 (.string ⟨#[]⟩) Tryz.underlying22 hi hz0 hz1 hz2 rfl (by exact ⟨_, rfl⟩) (.slice p1 xs.length c1) (by rfl) xs (by refine Kept.reads (S := [w.heap.size + 1]) ?_ HR.out N1; assumption) hn ?_; intro q1 d1 w1 ho1 hb1; have HO1 := hide ho1; clear ho1)
      | (refine step_copyP (by rfl) (.tmp 7) (.tmp 9) 28 (by rfl) 92 j0 (.agg #[.int .i64 0, .string ⟨#[]⟩]) Tryz.underlying28 hj hy0 hy1 hy2 hzp (by exact ⟨_, rfl⟩) (.slice p2 ps.length c2) (by rfl) ps (by refine Kept.readsP (S := [w.heap.size + 1]) ?_ HP.out N2; assumption) hn2 ?_; intro q2 d2 w2 ho2 hb2 hemp; have HE := hide hemp; clear hemp; have HO2 := hide ho2; clear ho2
         have R2 : Row w2 (w.heap.size + 1) 30 [.slice none 0 0, .slice none 0 0] := by
           refine Row.after hb2 ?_
           repeat (first | with_reducible exact R1 | with_reducible refine Row.after hb1 ?_ | with_reducible refine Row.drew ?_ | with_reducible refine Row.alloc ?_ _)
         have f0 : w2.cell? ⟨w.heap.size + 1, 0, none⟩ = some (.slice none 0 0) := R2.cell 0
         have f1 : w2.cell? ⟨w.heap.size + 1, 1, none⟩ = some (.slice none 0 0) := R2.cell 1
         have g0 := R2.free 0
         have g1 := R2.free 1)))
  all_goals
    rename_i hHeld
    have KW := hide hHeld.2.2
    have k12 : Below w1.heap.size w1 w2 := by
      first
        | with_reducible exact hb2
        | exact ((Below.refl w1.heap.size w1).alloc (Nat.le_refl _) _).trans (hb2.mono (by simp))
    have l1 : ∀ x ∈ leads (.slice q1 xs.length d1), w.heap.size + 2 ≤ x ∧ x < w1.heap.size := fun x hx => by
      have := HO1.out.leads x hx
      simp at this
      omega
    have l2 : ∀ x ∈ leads (.slice q2 ps.length d2), w1.heap.size ≤ x := fun x hx => by
      have := HO2.out.leads x hx
      try simp at this
      omega
    have z1 : w.heap.size + 2 ≤ w1.heap.size := by have := hb1.size; simp at this; omega
    have KF : Kept [w.heap.size + 1] w2 ((w2.setCell ⟨w.heap.size + 1, 0, none⟩ (.slice q1 xs.length d1)).setCell ⟨w.heap.size + 1, 1, none⟩ (.slice q2 ps.length d2)) := ((Kept.refl _ _).set (by simp) _).set (by simp) _
    have RF := (R2.set (j := 0) (.slice q1 xs.length d1)).set (j := 1) (.slice q2 ps.length d2)
    have q0' : ((w2.setCell ⟨w.heap.size + 1, 0, none⟩ (.slice q1 xs.length d1)).setCell ⟨w.heap.size + 1, 1, none⟩ (.slice q2 ps.length d2)).cell? ⟨w.heap.size + 1, 0, none⟩ = some (.slice q1 xs.length d1) := RF.cell 0
    have q1' : ((w2.setCell ⟨w.heap.size + 1, 0, none⟩ (.slice q1 xs.length d1)).setCell ⟨w.heap.size + 1, 1, none⟩ (.slice q2 ps.length d2)).cell? ⟨w.heap.size + 1, 1, none⟩ = some (.slice q2 ps.length d2) := RF.cell 1
    have O1 := ((HO1.out.below k12 (Nat.le_refl _)).kept KF (fun x hx => by have := l1 x hx; simp; omega)).mono (B' := w.heap.size) (by simp; omega)
    have O2 := (HO2.out.kept KF (fun x hx => by have := l2 x hx; simp; omega)).mono (B' := w.heap.size) (by (try simp); omega)
    have D12 : ∀ x ∈ leads (.slice q1 xs.length d1), x ∉ leads (.slice q2 ps.length d2) := fun x hx hy => by
      have h1 := l1 x hx
      have h2 := l2 x hy
      omega
    have KB := KW.out.toBelow HB0.out HB0.out.size (by simp)
    clear hHeld
    go_wp2
    exact bodyPost_ret (v := .agg #[.slice q1 xs.length d1, .slice q2 ps.length d2]) (by simp [results, Tryz.results49, go_sem, q0', q1']) rfl ⟨_, _, rfl, O1, O2, D12, fun h => by obtain ⟨b, rfl, rfl⟩ := HE.out h; exact ⟨b, by rw [h]; rfl⟩, KB⟩
end Go.Proofs.YtnpbmaajgiapmaaGreatDoor
/- DiskRead, as the specification does it. -/
namespace Go.Proofs.YtnpbmaajgiapmaaGreatDoor
open Go.RowKit

/-- What a function of the disk hands back. -/
structure Out where
  xs : List ByteArray
  ps : List (Int × ByteArray)
  t : ByteArray
  c : Int
def illOut (c : Int) : Out := ⟨[], [], ⟨#[]⟩, c⟩
/-- The call ended with the answer o, in memory of its own. -/
def OutIs (B : Nat) (e : Ending) (w : World) (o : Out) : Prop :=
  ∃ us up, e = .returned (.agg #[us, up, .string o.t, .int .i64 o.c]) ∧ OwnS 9 B w us o.xs ∧ OwnP 92 B w up o.ps ∧ ∀ x ∈ leads us, x ∉ leads up
theorem OwnS.none (T : TypeId) (B : Nat) (w : World) : OwnS T B w (.slice none 0 0) [] := ⟨by simp, .inl ⟨_, _, rfl, by unfold maxLen; omega, rfl⟩⟩
theorem OwnP.none (T : TypeId) (B : Nat) (w : World) : OwnP T B w (.slice none 0 0) [] := ⟨by simp, .inl ⟨_, _, rfl, by unfold maxLen; omega, rfl⟩⟩

def lastAt (at' : Int) : List (Int × ByteArray) → ByteArray → ByteArray
  | [], t => t
  | x :: r, t => lastAt at' r (if x.1 = at' then x.2 else t)
def readOut (xs : List ByteArray) (ps : List (Int × ByteArray)) (a : Int) : Out :=
  if right xs ps then (if 0 ≤ a ∧ a ≤ (xs.length : Int) - 1 then ⟨xs, ps, lastAt a ps (xs.getD a.toNat ⟨#[]⟩), 0⟩ else illOut 8) else illOut 1

theorem four {w : World} {G : Nat} {T : TypeId} {a b c d : Value} (R : Row w G T [a, b, c, d]) (A B C D : Value) :
    ((((w.setCell ⟨G, 0, none⟩ A).setCell ⟨G, 1, none⟩ B).setCell ⟨G, 2, none⟩ C).setCell ⟨G, 3, none⟩ D).cell? ⟨G, 0, none⟩ = some A ∧
    ((((w.setCell ⟨G, 0, none⟩ A).setCell ⟨G, 1, none⟩ B).setCell ⟨G, 2, none⟩ C).setCell ⟨G, 3, none⟩ D).cell? ⟨G, 1, none⟩ = some B ∧
    ((((w.setCell ⟨G, 0, none⟩ A).setCell ⟨G, 1, none⟩ B).setCell ⟨G, 2, none⟩ C).setCell ⟨G, 3, none⟩ D).cell? ⟨G, 2, none⟩ = some C ∧
    ((((w.setCell ⟨G, 0, none⟩ A).setCell ⟨G, 1, none⟩ B).setCell ⟨G, 2, none⟩ C).setCell ⟨G, 3, none⟩ D).cell? ⟨G, 3, none⟩ = some D ∧
    Kept [G] w ((((w.setCell ⟨G, 0, none⟩ A).setCell ⟨G, 1, none⟩ B).setCell ⟨G, 2, none⟩ C).setCell ⟨G, 3, none⟩ D) := by
  have R4 := (((R.set (j := 0) A).set (j := 1) B).set (j := 2) C).set (j := 3) D
  exact ⟨R4.cell 0, R4.cell 1, R4.cell 2, R4.cell 3, ((((Kept.refl _ _).set (by simp) _).set (by simp) _).set (by simp) _).set (by simp) _⟩

set_option maxHeartbeats 2000000 in
theorem specRead_ill (vs vp : Value) (xs : List ByteArray) (ps : List (Int × ByteArray)) (a : Int) (w : World) (hn : xs.length ≤ 1048576) (hn2 : ps.length ≤ 1048576) (hr : Reads w vs xs) (hp : ReadsP w vp ps) (hbad : right xs ps = false) :
    Calls Tryz.prog 90 #[.agg #[vs, vp], .int .i64 a] w fun e w' => OutIs w.heap.size e w' (readOut xs ps a) ∧ Below w.heap.size w w' := by
  have HF : Hid (readOut xs ps a = illOut 1) := by unfold readOut; rw [hbad]; rfl
  rw [HF.out]
  have hb0 : Below w.heap.size w ((w.alloc (.cells #[vs, vp] 30)).alloc (.cells #[.slice none 0 0, .slice none 0 0, .string ⟨#[]⟩, .int .i64 0] 101)) :=
    ((Below.refl _ _).alloc (Nat.le_refl _) _).alloc (by simp) _
  have HR := hide (hr.below hb0 (Nat.le_refl _))
  have HP := hide (hp.below hb0 (Nat.le_refl _))
  have HB0 := hide hb0
  obtain ⟨p1, c1, rfl, hq⟩ := hr
  obtain ⟨p2, c2, rfl, hq2⟩ := hp
  have R1 := row_new (w.alloc (.cells #[.slice p1 xs.length c1, .slice p2 ps.length c2] 30)) [.slice none 0 0, .slice none 0 0, .string ⟨#[]⟩, .int .i64 0] 101
  simp only [World.size_alloc] at R1
  have HR1 := hide R1
  clear hb0 hq hq2 R1
  go_enter Tryz.func90, Tryz.ntmps90
  go_wp2_with fail
  refine (specRight_any _ _ xs ps _ hn hn2 HR.out HP.out).mono ?_
  rw [hbad]
  rintro e w1 ⟨rfl, hb1⟩
  have HB1 := hide hb1
  have HR2 := hide (HR1.out.below hb1 (by simp))
  clear hb1
  go_wp2_with fail
  refine (l02Ill_any _ _).mono ?_
  rintro e w2 ⟨rfl, hb2⟩
  have R3 := HR2.out.below hb2 HR2.out.lt
  have k1 := HB0.out.trans (HB1.out.mono HB0.out.size)
  have HB2 := hide (k1.trans (hb2.mono k1.size))
  have c0 : w2.cell? ⟨w.heap.size + 1, 0, none⟩ = some (.slice none 0 0) := R3.cell 0
  have c1' : w2.cell? ⟨w.heap.size + 1, 1, none⟩ = some (.slice none 0 0) := R3.cell 1
  have c2' : w2.cell? ⟨w.heap.size + 1, 2, none⟩ = some (.string ⟨#[]⟩) := R3.cell 2
  have c3 : w2.cell? ⟨w.heap.size + 1, 3, none⟩ = some (.int .i64 0) := R3.cell 3
  have f0 := R3.free 0
  have f1 := R3.free 1
  have f2 := R3.free 2
  have f3 := R3.free 3
  have HR3 := hide R3
  clear k1 hb2 R3
  go_wp2
  obtain ⟨q0, q1, q2, q3, KF⟩ := four HR3.out (.slice none 0 0) (.slice none 0 0) (.string ⟨#[]⟩) (.int .i64 1)
  exact bodyPost_ret (v := .agg #[.slice none 0 0, .slice none 0 0, .string ⟨#[]⟩, .int .i64 1]) (by simp [results, Tryz.results90, go_sem, q0, q1, q2, q3]) rfl
    ⟨⟨_, _, rfl, OwnS.none _ _ _, OwnP.none _ _ _, fun _ h => by cases h⟩, KF.toBelow HB2.out HB2.out.size (by simp)⟩

set_option maxHeartbeats 2000000 in
theorem specRead_far (vs vp : Value) (xs : List ByteArray) (ps : List (Int × ByteArray)) (a : Int) (w : World) (hn : xs.length ≤ 1048576) (hn2 : ps.length ≤ 1048576) (hr : Reads w vs xs) (hp : ReadsP w vp ps) (hok : right xs ps = true) (hfar : ¬ (0 ≤ a ∧ a ≤ (xs.length : Int) - 1)) :
    Calls Tryz.prog 90 #[.agg #[vs, vp], .int .i64 a] w fun e w' => OutIs w.heap.size e w' (readOut xs ps a) ∧ Below w.heap.size w w' := by
  have HF : Hid (readOut xs ps a = illOut 8) := hide (by unfold readOut; rw [hok, if_pos rfl, if_neg hfar])
  rw [HF.out]
  have hb0 : Below w.heap.size w ((w.alloc (.cells #[vs, vp] 30)).alloc (.cells #[.slice none 0 0, .slice none 0 0, .string ⟨#[]⟩, .int .i64 0] 101)) :=
    ((Below.refl _ _).alloc (Nat.le_refl _) _).alloc (by simp) _
  have HR := hide (hr.below hb0 (Nat.le_refl _))
  have HP := hide (hp.below hb0 (Nat.le_refl _))
  have HB0 := hide hb0
  obtain ⟨p1, c1, rfl, hq⟩ := hr
  obtain ⟨p2, c2, rfl, hq2⟩ := hp
  have R1 := row_new (w.alloc (.cells #[.slice p1 xs.length c1, .slice p2 ps.length c2] 30)) [.slice none 0 0, .slice none 0 0, .string ⟨#[]⟩, .int .i64 0] 101
  simp only [World.size_alloc] at R1
  have HR1 := hide R1
  clear hb0 hq hq2 R1
  go_enter Tryz.func90, Tryz.ntmps90
  go_wp2_with fail
  refine (specRight_any _ _ xs ps _ hn hn2 HR.out HP.out).mono ?_
  rw [hok]
  rintro e w1 ⟨rfl, hb1⟩
  have HB1 := hide hb1
  have HR2 := hide (HR1.out.below hb1 (by simp))
  obtain ⟨hc1, hf1⟩ := bcell hb1
  have e1 : IntKind.i64.wrap ((xs.length : Int) - 1) = (xs.length : Int) - 1 := by rw [IntKind.wrap_i64]; omega
  clear hb1
  go_wp2_with fail
  refine (l02Is_no _ _ _ _ hfar).mono ?_
  rintro e w1' ⟨rfl, rfl⟩
  clear hc1 hf1
  go_wp2_with fail
  refine (l02Ill_any _ _).mono ?_
  rintro e w2 ⟨rfl, hb2⟩
  have R3 := HR2.out.below hb2 HR2.out.lt
  have k1 := HB0.out.trans (HB1.out.mono HB0.out.size)
  have HB2 := hide (k1.trans (hb2.mono k1.size))
  have c0 : w2.cell? ⟨w.heap.size + 1, 0, none⟩ = some (.slice none 0 0) := R3.cell 0
  have c1' : w2.cell? ⟨w.heap.size + 1, 1, none⟩ = some (.slice none 0 0) := R3.cell 1
  have c2' : w2.cell? ⟨w.heap.size + 1, 2, none⟩ = some (.string ⟨#[]⟩) := R3.cell 2
  have c3 : w2.cell? ⟨w.heap.size + 1, 3, none⟩ = some (.int .i64 0) := R3.cell 3
  have f0 := R3.free 0
  have f1 := R3.free 1
  have f2 := R3.free 2
  have f3 := R3.free 3
  have HR3 := hide R3
  clear k1 hb2 R3
  go_wp2
  obtain ⟨q0, q1, q2, q3, KF⟩ := four HR3.out (.slice none 0 0) (.slice none 0 0) (.string ⟨#[]⟩) (.int .i64 8)
  exact bodyPost_ret (v := .agg #[.slice none 0 0, .slice none 0 0, .string ⟨#[]⟩, .int .i64 8]) (by simp [results, Tryz.results90, go_sem, q0, q1, q2, q3]) rfl
    ⟨⟨_, _, rfl, OwnS.none _ _ _, OwnP.none _ _ _, fun _ h => by cases h⟩, KF.toBelow HB2.out HB2.out.size (by simp)⟩

theorem lastAt_step (a : Int) (ps : List (Int × ByteArray)) (k : Nat) (h : k < ps.length) (t : ByteArray) : lastAt a (ps.drop k) t = lastAt a (ps.drop (k + 1)) (if (ps[k]'h).1 = a then (ps[k]'h).2 else t) := by
  rw [List.drop_eq_getElem_cons h]; rfl

set_option maxHeartbeats 4000000 in
theorem specRead_good (vs vp : Value) (xs : List ByteArray) (ps : List (Int × ByteArray)) (n : Nat) (w : World) (hn : xs.length ≤ 1048576) (hn2 : ps.length ≤ 1048576) (hr : Reads w vs xs) (hp : ReadsP w vp ps) (hok : right xs ps = true) (hlt : n < xs.length) :
    Calls Tryz.prog 90 #[.agg #[vs, vp], .int .i64 (n : Int)] w fun e w' => OutIs w.heap.size e w' (readOut xs ps (n : Int)) ∧ Below w.heap.size w w' := by
  have HF : Hid (readOut xs ps (n : Int) = ⟨xs, ps, lastAt n ps (xs[n]'hlt), 0⟩) := hide (by
    unfold readOut
    rw [hok, if_pos rfl, if_pos ⟨by omega, by omega⟩]
    simp [hlt])
  rw [HF.out]
  have hb0 : Below w.heap.size w ((w.alloc (.cells #[vs, vp] 30)).alloc (.cells #[.slice none 0 0, .slice none 0 0, .string ⟨#[]⟩, .int .i64 0] 101)) :=
    ((Below.refl _ _).alloc (Nat.le_refl _) _).alloc (by simp) _
  have HR := hide (hr.below hb0 (Nat.le_refl _))
  have HP := hide (hp.below hb0 (Nat.le_refl _))
  have HB0 := hide hb0
  obtain ⟨p1, c1, rfl, hq⟩ := hr
  obtain ⟨p2, c2, rfl, hq2⟩ := hp
  have R0 := (row_new w [.slice p1 xs.length c1, .slice p2 ps.length c2] 30).alloc (.cells #[.slice none 0 0, .slice none 0 0, .string ⟨#[]⟩, .int .i64 0] 101)
  have R1 := row_new (w.alloc (.cells #[.slice p1 xs.length c1, .slice p2 ps.length c2] 30)) [.slice none 0 0, .slice none 0 0, .string ⟨#[]⟩, .int .i64 0] 101
  simp only [World.size_alloc] at R1
  have HR0 := hide R0
  have HR1 := hide R1
  clear hb0 hq hq2 R1 R0
  go_enter Tryz.func90, Tryz.ntmps90
  go_wp2_with fail
  refine (specRight_any _ _ xs ps _ hn hn2 HR.out HP.out).mono ?_
  rw [hok]
  rintro e w1 ⟨rfl, hb1⟩
  have HB1 := hide (HB0.out.trans (hb1.mono HB0.out.size))
  have HX1 := hide (HR1.out.below hb1 (by simp))
  have HX0 := hide (HR0.out.below hb1 (by simp; omega))
  have HRa := hide (HR.out.below hb1 (Nat.le_refl _))
  have HPa := hide (HP.out.below hb1 (Nat.le_refl _))
  have a0 : w1.cell? ⟨w.heap.size, 0, none⟩ = some (.slice p1 xs.length c1) := HX0.out.cell 0
  have a1 : w1.cell? ⟨w.heap.size, 1, none⟩ = some (.slice p2 ps.length c2) := HX0.out.cell 1
  have e1 : IntKind.i64.wrap ((xs.length : Int) - 1) = (xs.length : Int) - 1 := by rw [IntKind.wrap_i64]; omega
  have i0 : (n : Int) < (xs.length : Int) := by omega
  clear hb1 HR HP HR0 HR1 HB0
  go_wp2_with fail
  refine (l02Is_yes _ _ _ _ (by omega) (by omega)).mono ?_
  rintro e w1' ⟨rfl, rfl⟩
  obtain ⟨g1, o1, rfl, hg1, hc1⟩ : ∃ g off, p1 = some ⟨g, off, none⟩ ∧ _ := by
    obtain ⟨p, cap, he, _, _, _, h4⟩ := HRa.out
    cases he
    exact h4 (by omega)
  have hcn := hc1 n hlt
  clear hc1 hg1
  go_wp2
  clear hcn e1
  go_loop [5, 6] (fun t i => ∃ (k : Nat) (T : ByteArray), k ≤ ps.length ∧ i = .int .i64 k ∧ t = .string T ∧ Hid (lastAt n ps (xs[n]'hlt) = lastAt n (ps.drop k) T)) (fun _ i => ps.length - (intOf i).toNat)
  case atStart => exact ⟨0, _, Nat.zero_le _, rfl, rfl, rfl⟩
  case round =>
    obtain ⟨j, T, hj, rfl, rfl, HS⟩ := hrel
    by_cases hlt2 : j < ps.length
    · obtain ⟨g2, o2, rfl, hg2, hc2⟩ : ∃ g off, p2 = some ⟨g, off, none⟩ ∧ _ := by
        obtain ⟨p, cap, he, _, _, _, h4⟩ := HPa.out
        cases he
        exact h4 (by omega)
      obtain ⟨hk0, hk1⟩ := hc2 j hlt2
      have HT := hide (lastAt_step n ps j hlt2 T)
      have hki : (j : Int) < (ps.length : Int) := by omega
      obtain ⟨A, hA⟩ : ∃ A, A = (ps[j]'hlt2).1 := ⟨_, rfl⟩
      obtain ⟨D, hD⟩ : ∃ D, D = (ps[j]'hlt2).2 := ⟨_, rfl⟩
      rw [← hA] at hk0
      rw [← hD] at hk1
      rw [← hA, ← hD] at HT
      clear hA hD hc2 hg2
      by_cases hin : A = (n : Int)
      · subst hin
        have HU := hide (HS.out.trans (HT.out.trans (by rw [if_pos rfl])))
        go_wp2
        go_round
        case rel => exact ⟨j + 1, D, by omega, by go_num, rfl, HU⟩
        case measure => simp [intOf]; omega
      · have HU := hide (HS.out.trans (HT.out.trans (by rw [if_neg hin])))
        have t1 : decide (A = (n : Int)) = false := by simpa using hin
        go_wp2
        go_round
        case rel => exact ⟨j + 1, T, by omega, by go_num, rfl, HU⟩
        case measure => simp [intOf]; omega
    · have HU := hide (show lastAt n ps (xs[n]'hlt) = T by rw [HS.out, List.drop_eq_nil_of_le (by omega)]; rfl)
      go_wp2_with fail
      refine (l02Copy_any _ _ xs ps _ hn hn2 HRa.out HPa.out).mono ?_
      rintro e w2 ⟨us, up, rfl, ow1, ow2, dd, _, hb2⟩
      have hl1 := HX1.out.lt
      have R3 := HX1.out.below hb2 hl1
      have c0 : w2.cell? ⟨w.heap.size + 1, 0, none⟩ = some (.slice none 0 0) := R3.cell 0
      have c1' : w2.cell? ⟨w.heap.size + 1, 1, none⟩ = some (.slice none 0 0) := R3.cell 1
      have c2' : w2.cell? ⟨w.heap.size + 1, 2, none⟩ = some (.string ⟨#[]⟩) := R3.cell 2
      have c3 : w2.cell? ⟨w.heap.size + 1, 3, none⟩ = some (.int .i64 0) := R3.cell 3
      have f0 := R3.free 0
      have f1 := R3.free 1
      have f2 := R3.free 2
      have f3 := R3.free 3
      have HR3 := hide R3
      have HB2 := hide (HB1.out.trans (hb2.mono HB1.out.size))
      have HO1 := hide ow1
      have HO2 := hide ow2
      have HD := hide dd
      obtain ⟨q1, m1, d1, rfl⟩ : ∃ p n c, us = .slice p n c := by obtain ⟨p, c, e, _⟩ := ow1.reads; exact ⟨_, _, _, e⟩
      obtain ⟨q2, m2, d2, rfl⟩ : ∃ p n c, up = .slice p n c := by obtain ⟨p, c, e, _⟩ := ow2.reads; exact ⟨_, _, _, e⟩
      clear ow1 ow2 dd hb2 R3
      go_wp2
      obtain ⟨z0, z1, z2, z3, KF⟩ := four HR3.out (.slice q1 m1 d1) (.slice q2 m2 d2) (.string T) (.int .i64 0)
      exact bodyPost_ret (v := .agg #[.slice q1 m1 d1, .slice q2 m2 d2, .string T, .int .i64 0]) (by simp [results, Tryz.results90, go_sem, z0, z1, z2, z3]) rfl
        ⟨⟨_, _, by rw [HU.out], (HO1.out.kept KF (fun x hx => by have := HO1.out.leads x hx; simp; omega)).mono (by omega), (HO2.out.kept KF (fun x hx => by have := HO2.out.leads x hx; simp; omega)).mono (by omega), HD.out⟩, KF.toBelow HB2.out HB2.out.size (by simp)⟩

theorem specRead_any (vs vp : Value) (xs : List ByteArray) (ps : List (Int × ByteArray)) (a : Int) (w : World) (hn : xs.length ≤ 1048576) (hn2 : ps.length ≤ 1048576) (hr : Reads w vs xs) (hp : ReadsP w vp ps) :
    Calls Tryz.prog 90 #[.agg #[vs, vp], .int .i64 a] w fun e w' => OutIs w.heap.size e w' (readOut xs ps a) ∧ Below w.heap.size w w' := by
  cases hok : right xs ps with
  | false => exact specRead_ill vs vp xs ps a w hn hn2 hr hp hok
  | true =>
    by_cases hin : 0 ≤ a ∧ a ≤ (xs.length : Int) - 1
    · obtain ⟨n, rfl⟩ := Int.eq_ofNat_of_zero_le hin.1
      exact specRead_good vs vp xs ps n w hn hn2 hr hp hok (by omega)
    · exact specRead_far vs vp xs ps a w hn hn2 hr hp hok hin
end Go.Proofs.YtnpbmaajgiapmaaGreatDoor
