/- What is there of a Rep, and how wide its Comps are: of the model and of the program. -/
import Derived.Test.YtfjjbofnfigehaaGreatDoorXG4VRuleOf
import Derived.Test.YtfjjbofnfigehaaGreatDoorXG6FBuf
import Derived.Lib.DecodeN
namespace Go.Proofs.YtfjjbofnfigehaaGreatDoor
open Go.RowKit
def thereL (x : List (List ByteArray)) : Bool := match x with | [] => false | c :: _ => decide (0 < c.length)
def noWide (x : List (List ByteArray)) : Bool := x.all fun c => decide (c.length ≤ 1)
theorem thereL_at (x : List (List ByteArray)) (h : 0 < x.length) : thereL x = decide (0 < x[0].length) := by
  cases x with
  | nil => simp at h
  | cons c r => rfl
theorem thereL_no (x : List (List ByteArray)) (h : ¬ 0 < x.length) : thereL x = false := by
  cases x with
  | nil => rfl
  | cons c r => simp at h
theorem noWide_no {x : List (List ByteArray)} (k : Nat) (hk : k < x.length) (h : 1 < x[k].length) : noWide x = false :=
  List.all_eq_false.2 ⟨x[k], List.getElem_mem hk, by simp; omega⟩
theorem noWide_yes {x : List (List ByteArray)} (h : ∀ j (hj : j < x.length), x[j].length ≤ 1) : noWide x = true := by
  unfold noWide
  refine List.all_eq_true.2 fun c hc => ?_
  obtain ⟨i, hi, rfl⟩ := List.getElem_of_mem hc
  simpa using h i hi

theorem all_le_succ {x : List (List ByteArray)} {k : Nat} (h : ∀ j (hj : j < x.length), j < k → x[j].length ≤ 1) (hk : k < x.length) (h1 : x[k].length ≤ 1) : ∀ j (hj : j < x.length), j < k + 1 → x[j].length ≤ 1 := by
  intro j hj h2
  by_cases e : j = k
  · subst e; exact h1
  · exact h j hj (by omega)

set_option maxHeartbeats 1000000 in
theorem firstThere_any (u : Value) (x : List (List ByteArray)) (B : Nat) (w : World) (hn : x.length ≤ 1048576) (hr : RRep B w u x) :
    Calls Tryz.prog 77 #[.agg #[u]] w fun e w' => e = .returned (.bool (thereL x)) ∧ Below w.heap.size w w' := by
  obtain ⟨R, hR⟩ : ∃ R, R = thereL x := ⟨_, rfl⟩
  rw [← hR]
  have HR := hideF hR
  clear hR
  obtain ⟨p, cap, rfl, h1, h2, h4⟩ := hr
  unfold maxLen at h2
  have H4 := hideF h4
  clear h4
  have r0 : (w.alloc (.cells #[.slice p x.length cap] 29)).cell? ⟨w.heap.size, 0, none⟩ = some (.slice p x.length cap) := (row_new w [.slice p x.length cap] 29).cell 0
  by_cases h0 : 0 < x.length
  · obtain ⟨g, off, hp, hg, _, hc⟩ := H4.out h0
    subst hp
    obtain ⟨v, hv, hrv⟩ := hc 0 h0
    obtain ⟨p2, cap2, rfl, k1, k2, k4⟩ := hrv
    clear k4
    have HT := hideF (thereL_at x h0)
    have hck : (w.alloc (.cells #[.slice (some ⟨g, off, none⟩) x.length cap] 29)).cell? ⟨g, off, none⟩ = some (.slice p2 (x[0]'h0).length cap2) := by
      rw [((Below.refl w.heap.size w).alloc (Nat.le_refl _) _).cell (p := ⟨g, off, none⟩) hg]; exact hv
    clear hv hc
    generalize (x[0]'h0).length = M at *
    unfold maxLen at k2
    have h0i : (0 : Int) < (x.length : Int) := by omega
    by_cases hm : 0 < M
    · have hmi : (0 : Int) < (M : Int) := by omega
      have HN := hideF (show R = true by rw [HR.out, HT.out]; simp [hm])
      go_enter Tryz.func77, Tryz.ntmps77
      go_wp2
      go_ret
      exact ⟨ret_boolF HN.out.symm, (Below.refl _ _).alloc (Nat.le_refl _) _⟩
    · have hmi : ¬ (0 : Int) < (M : Int) := by omega
      have HN := hideF (show R = false by rw [HR.out, HT.out]; simp [hm])
      go_enter Tryz.func77, Tryz.ntmps77
      go_wp2
      go_ret
      exact ⟨ret_boolF HN.out.symm, (Below.refl _ _).alloc (Nat.le_refl _) _⟩
  · have h0i : ¬ (0 : Int) < (x.length : Int) := by omega
    have HN := hideF (show R = false by rw [HR.out]; exact thereL_no x h0)
    go_enter Tryz.func77, Tryz.ntmps77
    go_wp2
    go_ret
    exact ⟨ret_boolF HN.out.symm, (Below.refl _ _).alloc (Nat.le_refl _) _⟩

set_option maxHeartbeats 1000000 in
theorem noneWide_any (u : Value) (x : List (List ByteArray)) (B : Nat) (w : World) (hn : x.length ≤ 1048576) (hr : RRep B w u x) :
    Calls Tryz.prog 78 #[u] w fun e w' => e = .returned (.bool (noWide x)) ∧ Below w.heap.size w w' := by
  obtain ⟨R, hR⟩ : ∃ R, R = noWide x := ⟨_, rfl⟩
  rw [← hR]
  have HR := hideF hR
  clear hR
  obtain ⟨p, cap, rfl, h1, h2, h4⟩ := hr
  unfold maxLen at h2
  have H4 := hideF h4
  clear h4
  go_enter Tryz.func78, Tryz.ntmps78
  go_wp2
  go_loopw [7] (fun i wr => ∃ (X : World) (k : Nat), X = wr ∧ k ≤ x.length ∧ i = .int .i64 k ∧ Hid (Below w.heap.size w X) ∧ Hid (∀ j (hj : j < x.length), j < k → x[j].length ≤ 1)) (fun i _ => x.length - (intOf i).toNat)
  case atStart => exact ⟨_, 0, rfl, Nat.zero_le _, rfl, Below.refl _ _, fun j _ h => absurd h (by omega)⟩
  case round =>
    obtain ⟨X, k, rfl, hk, rfl, HB, HA⟩ := hrel
    by_cases hlt : k < x.length
    · obtain ⟨g, off, hp, hg, _, hc⟩ := H4.out (by omega)
      subst hp
      obtain ⟨v, hv, hrv⟩ := hc k hlt
      obtain ⟨p2, cap2, rfl, k1, k2, k4⟩ := hrv
      clear k4
      have hck : X.cell? ⟨g, off + k, none⟩ = some (.slice p2 (x[k]'hlt).length cap2) := by rw [HB.out.cell (p := ⟨g, off + k, none⟩) hg]; exact hv
      clear hv hc
      unfold maxLen at k2
      have HM := hideF (show (x[k]'hlt).length ≤ 1 ∨ 1 < (x[k]'hlt).length by omega)
      have HNo := hideF (fun h => show R = false by rw [HR.out]; exact noWide_no k hlt h)
      have HYes := hideF (fun (h : (x[k]'hlt).length ≤ 1) => all_le_succ HA.out hlt h)
      have HB2 := hideF (fun o => HB.out.alloc HB.out.size o)
      generalize (x[k]'hlt).length = M at *
      have r1 : (X.alloc (.cells #[.slice p2 M cap2] 71)).cell? ⟨X.heap.size, 0, none⟩ = some (.slice p2 M cap2) := (row_new X [.slice p2 M cap2] 71).cell 0
      by_cases h5 : 1 < (M : Int)
      · have HN := hideF (HNo.out (by omega))
        go_wp2
        go_ret
        exact ⟨ret_boolF HN.out.symm, HB2.out _⟩
      · have HN := hideF (HYes.out (by omega))
        go_wp2
        go_roundw
        case rel => exact ⟨_, k + 1, rfl, by omega, by go_num, HB2.out _, HN.out⟩
        case measure => simp [intOf]; omega
    · have HN := hideF (show R = true by rw [HR.out]; exact noWide_yes (fun j hj => HA.out j hj (by omega)))
      go_wp2
      go_ret
      exact ⟨ret_boolF HN.out.symm, HB.out⟩
end Go.Proofs.YtfjjbofnfigehaaGreatDoor
/- Values of one cell each that a call puts together by append: as Buf, for any kind. -/
namespace Go.Proofs.YtfjjbofnfigehaaGreatDoor
open Go.RowKit
/-- The slice v owns the values L, of one cell each, in the world w, in a block from B on; from w0 on nothing below B has turned, nor any block that is no row of this kind. -/
structure VBuf (e : TypeId) (B : Nat) (w0 w : World) (v : Value) (L : List Value) : Prop where
  own : w.ownsRow B e 1 v L.length L
  below : Below B w0 w
  le : B ≤ w0.heap.size
  kept : Lib.OthersKept e none w0 w

theorem VBuf.start {e B : Nat} {w : World} {v : Value} {L : List Value} (h : w.ownsRow B e 1 v L.length L) (hB : B ≤ w.heap.size) : VBuf e B w w v L :=
  ⟨h, Below.refl _ _, hB, Lib.OthersKept.refl _ _ _⟩
theorem VBuf.nil (e : TypeId) {B : Nat} {w : World} (hB : B ≤ w.heap.size) : VBuf e B w w (.slice none 0 0) [] :=
  ⟨World.ownsRow_nil w _ _ _, Below.refl _ _, hB, Lib.OthersKept.refl _ _ _⟩
theorem VBuf.size {e B : Nat} {w0 w : World} {v : Value} {L : List Value} (h : VBuf e B w0 w v L) : B ≤ w.heap.size := Nat.le_trans h.le h.below.size
theorem VBuf.trans {e B : Nat} {w0 w1 w2 : World} {v u : Value} {L M : List Value} (h : VBuf e B w0 w1 v L) (k : VBuf e B w1 w2 u M) : VBuf e B w0 w2 u M :=
  ⟨k.own, h.below.trans k.below, h.le, h.kept.trans k.kept⟩
theorem VBuf.drew {e B : Nat} {w0 w : World} {v : Value} {L : List Value} (h : VBuf e B w0 w v L) : VBuf e B w0 w.drew v L :=
  ⟨h.own, h.below.drew, h.le, h.kept.drew⟩
theorem VBuf.alloc {e B : Nat} {w0 w : World} {v : Value} {L : List Value} (h : VBuf e B w0 w v L) (o : Obj) : VBuf e B w0 (w.alloc o) v L :=
  ⟨h.own.alloc _, h.below.alloc h.size _, h.le, h.kept.alloc _⟩
/-- A call that turns no row of this kind but makes new blocks. -/
theorem VBuf.onBelow {e B : Nat} {w0 w w' : World} {v : Value} {L : List Value} (h : VBuf e B w0 w v L) (hb : Below w.heap.size w w') : VBuf e B w0 w' v L := by
  refine ⟨h.own.kept (row := none) ⟨hb.os, hb.tape, hb.output, hb.size, fun k hk _ => hb.block k hk⟩ (by cases v.ownBlock <;> simp), h.below.trans (hb.mono h.size), h.le, ?_⟩
  intro k o hk hn ho
  have h1 := h.kept k o hk hn ho
  have hlt : k < w.heap.size := (Array.getElem?_eq_some_iff.1 h1).1
  rw [hb.block k hlt]
  exact h1
theorem VBuf.iterAt {e B : Nat} {w0 w : World} {v : Value} {L : List Value} (h : VBuf e B w0 w v L) {k : Nat} {s : ByteArray} {pos : Nat} (hk : w.heap[k]? = some (.stringIter s pos)) (hk0 : w0.heap.size ≤ k) (pos' : Nat) :
    VBuf e B w0 (w.iterAt k s pos') v L := by
  refine ⟨⟨h.own.1, ?_⟩, Lib.below_iterAt h.below (Nat.le_trans h.le hk0) s pos', h.le, ?_⟩
  · rcases h.own.2 with hn | ⟨g, cap, cur, hv, hbg, hg, rest⟩
    · exact .inl hn
    · have hkg : g ≠ k := by
        intro e1
        rw [e1, hk] at hg
        cases hg
      exact .inr ⟨g, cap, cur, hv, hbg, (Lib.iterAt_other w k g s pos' hkg).trans hg, rest⟩
  · intro j o hj hn ho
    have hjl : j < w0.heap.size := (Array.getElem?_eq_some_iff.1 hj).1
    rw [Lib.iterAt_other w k j s pos' (by omega)]
    exact h.kept j o hj hn ho

/-- What append of new values, that lie in a block of their own, does. -/
theorem vbuf_append {P : Program} {z : Value} {by8 : Nat} {N : List Value} {w w0 : World} {B : Nat} {e t ty : TypeId} (ht : P.underlying t = some (.slice e)) (hi : (P.info? e).map (fun i => (i.zero, i.size, i.bytes)) = some (some z, 1, by8)) (hzs : z.cells.size = 1) (hN : ∀ u ∈ N, u.oneCell' = true) (hby : by8 ≤ 100)
    {v : Value} {L : List Value} (h : VBuf e B w0 w v L) (g m : Nat) (hm : N.length = m) (hc : ∃ fz, w.heap[g]? = some (.cells N.toArray e fz)) (hlen : L.length + N.length ≤ 100000000) :
    ∃ v' w', (Builtin.append_ #[t, t] ty #[v, .slice (some ⟨g, 0, none⟩) m m]).run P w = .ok v' w' ∧ VBuf e B w0 w' v' (L ++ N) := by
  obtain ⟨i0, hi0, hz0, hz1, hz2⟩ := info_parts hi
  obtain ⟨fz, hc⟩ := hc
  obtain ⟨v', w', hr, ho, hg, _⟩ := run_append_own (P := P) w B t ty e i0 z 1 by8 ht hi0 hz0 hz1 hz2 hzs (by decide) v L.length L h.own ⟨g, 0, none⟩ m m N (by simp [hm])
    (by
      intro j u hj
      have ea : (⟨g, 0, none⟩ : Addr).add j = ⟨g, j, none⟩ := by unfold Addr.add; split <;> simp_all
      rw [ea, cell_of_row w g j _ e fz hc]
      simpa using hj)
    hN (by unfold maxLen; omega) (Nat.le_trans (Nat.mul_le_mul (show L.length + m ≤ 100000000 by omega) hby) (by decide)) h.size
  refine ⟨v', w', hr, ?_, h.below.grown hg h.size (fun k hk => (h.own.lt k hk).1), h.le, h.kept.grown hg (own_kindB h.own)⟩
  rw [List.length_append, hm]
  exact ho

theorem wpList_vbuf {P : Program} {z : Value} {by8 : Nat} (N : List Value) {ops : Array Oper} {rest : List Oper} {o : Oper} {a : Act} {w w0 : World} {Q : Exit → Act → World → Prop}
    (hg : o.guard = none) (s x : Operand) (t : TypeId) (hop : o.op = Op.call { callee := Callee.builtin Builtin.append, args := #[s, x], argTypes := #[t, t] })
    (B : Nat) (e : TypeId) (ht : P.underlying t = some (.slice e)) (hi : (P.info? e).map (fun i => (i.zero, i.size, i.bytes)) = some (some z, 1, by8)) (hzs : z.cells.size = 1) (hN : ∀ u ∈ N, u.oneCell' = true) (hby : by8 ≤ 100)
    (v : Value) (L : List Value) (hs : a.eval s = v) (hB : VBuf e B w0 w v L) (g m : Nat) (hx : a.eval x = .slice (some ⟨g, 0, none⟩) m m) (hm : N.length = m)
    (hc : ∃ fz, w.heap[g]? = some (.cells N.toArray e fz)) (hlen : L.length + N.length ≤ 100000000)
    (hK : ∀ v' w', VBuf e B w0 w' v' (L ++ N) → wpList P ops Q rest (a.put o.dst v') w') : wpList P ops Q (o :: rest) a w := by
  refine wpList_plain hg fun _ hK2 => ?_
  obtain ⟨v', w', hrun, h2⟩ := vbuf_append (P := P) (ty := o.type) ht hi hzs hN hby hB g m hm hc hlen
  unfold Oper.wp
  simp [execOp, hop, resolve, invoke, builtin, hs, hx, hrun, Result.andThen]
  exact hK2 _ _ (hK v' w' h2)


/-- What stands behind a byte from 128 on, in one rune, is from 128 on too. -/
theorem decode_run (s : ByteArray) (i j : Nat) (h8 : 128 ≤ (s.get! i).toNat) (h1 : i ≤ j) (h2 : j < i + (Utf8.decode s i).2) : 128 ≤ (s.get! j).toNat := by
  rw [Lib.decode_at] at h2
  rcases (by omega : j = i ∨ j = i + 1 ∨ j = i + 2 ∨ j = i + 3 ∨ i + 4 ≤ j) with e | e | e | e | e
  · rw [e]; exact h8
  all_goals
    try subst e
    unfold Lib.decodeN at h2
    revert h2
    repeat' split
    all_goals intro h2
    all_goals simp_all
    all_goals omega
end Go.Proofs.YtfjjbofnfigehaaGreatDoor
