/- The model's l01Split: a text that is cut at a byte, as a row of texts of its own. -/
import Derived.Test.YtckcfjibiidafaaGreatXG6FReadM
import Derived.Maps.AppendAt
import Derived.Test.YtckcfjibiidafaaGreatXG2FBuf
import Derived.Lib.DecodeN
namespace Go.Proofs.YtckcfjibiidafaaGreat
open Go.RowKit
theorem Tryz.infoStrF : (Tryz.prog.info? 9).map (fun i => (i.zero, i.size, i.bytes)) = some (some (.string ⟨#[]⟩), 1, 16) := by kernel_rfl
def asStr (p : List UInt8) : Value := .string ⟨p.toArray⟩
theorem extract_list (t : ByteArray) (b k : Nat) : t.extract b k = ⟨((t.data.toList.drop b).take (k - b)).toArray⟩ := by
  apply ByteArray.ext
  apply Array.ext'
  simp [ByteArray.data_extract, Array.toList_extract]
theorem extract_listE (t : ByteArray) (b : Nat) : t.extract b t.size = ⟨(t.data.toList.drop b).toArray⟩ := by
  rw [extract_list, List.take_of_length_le (by rw [List.length_drop]; simp)]
theorem new_cell (w : World) (v : Value) (e : TypeId) : ∀ j u, ([v] : List Value)[j]? = some u → (w.alloc (.cells #[v] e)).cell? ((⟨w.heap.size, 0, none⟩ : Addr).add j) = some u := fun j u hu => by
  have ea : (⟨w.heap.size, 0, none⟩ : Addr).add j = ⟨w.heap.size, j, none⟩ := by unfold Addr.add; split <;> simp_all
  rw [ea, (row_new w [v] e).cell]
  exact hu

set_option maxHeartbeats 4000000 in
set_option maxRecDepth 100000 in
theorem l01Split_any (t : ByteArray) (c : UInt8) (w : World) (ht : t.size ≤ 20000000) :
    Calls Tryz.prog 16 #[.string t, .int .u8 (c.toNat : Int)] w fun e w' => ∃ v, e = .returned v ∧ w'.ownsRow w.heap.size 9 1 v (cutL c t.data.toList).length ((cutL c t.data.toList).map asStr) ∧ Below w.heap.size w w' := by
  obtain ⟨i0, hi, hz0, hz1, hz2⟩ := info_parts Tryz.infoStrF
  have HO0 := hide (show (w.alloc (.cells #[] 9)).ownsRow w.heap.size 9 1 (.slice (some ⟨w.heap.size, 0, none⟩) 0 0) 0 [] from World.ownsRow_made w #[] 0 (Nat.le_refl _) (by unfold maxLen; omega) rfl)
  have HB0 := hide ((Below.refl w.heap.size w).alloc (Nat.le_refl _) (.cells #[] 9))
  go_enter Tryz.func16, Tryz.ntmps16
  go_wp2_with fail
  go_loopw [5, 6, 7] (fun u f i wr => ∃ (X : World) (k b : Nat) (D : List (List UInt8)), X = wr ∧ k ≤ t.size ∧ b ≤ k ∧ D.length ≤ b ∧ i = .int .i64 k ∧ f = .int .i64 b ∧ Hid (Cut c t.data.toList D b k) ∧ Hid (X.ownsRow w.heap.size 9 1 u D.length (D.map asStr)) ∧ Hid (Below w.heap.size w X)) (fun _ _ i _ => t.size - (intOf i).toNat)
  case atStart => exact ⟨_, 0, 0, [], rfl, Nat.zero_le _, Nat.le_refl _, Nat.le_refl _, rfl, rfl, Cut.zero _ _, HO0, HB0⟩
  case round =>
    obtain ⟨X, k, b, D, rfl, hk, hbk, hDb, rfl, rfl, HC, HO, HB⟩ := hrel
    by_cases hlt : k < t.size
    · have hki : (k : Int) < (t.size : Int) := by omega
      have hbi : (b : Int) ≤ (k : Int) := by omega
      have hll : k < t.data.toList.length := by simpa using hlt
      have HG := hide (data_get t k hlt)
      by_cases he : t[k]'hlt = c
      · have HC2 := hide (HC.out.mark hll (by rw [HG.out]; exact he))
        have hei : ((t[k]'hlt).toNat : Int) = (c.toNat : Int) := by rw [he]
        have HEX := hide (extract_list t b k)
        have HOA := hide (HO.out.alloc (.cells #[.string (t.extract b k)] 9))
        have HBA := hide (HB.out.alloc HB.out.size (.cells #[.string (t.extract b k)] 9))
        have HNC := hide (new_cell X (.string (t.extract b k)) 9)
        clear he
        go_wp2_with (at_builtin; refine wpList_append_own_at _ rfl _ _ 37 rfl w.heap.size 9 i0 (.string ⟨#[]⟩) 1 16 Tryz.underlying37 hi hz0 hz1 hz2 rfl (by omega) _ D.length (D.map asStr) rfl HOA.out ⟨X.heap.size, 0, none⟩ 1 1 [.string (t.extract b k)] rfl rfl HNC.out (by simp [Value.oneCell']) (by unfold maxLen; omega) (by omega) (by have := HB.out.size; simp; omega) ?_
                     intro v' w1 ho1 hg1 _ _
                     have HO1 := hide ho1
                     have HG1 := hide (HBA.out.grown hg1 HBA.out.size (fun j hj => (HOA.out.lt j hj).1))
                     clear ho1 hg1)
        have HO2 : Hid (w1.ownsRow w.heap.size 9 1 v' (D ++ [(t.data.toList.drop b).take (k - b)]).length ((D ++ [(t.data.toList.drop b).take (k - b)]).map asStr)) := by
          rw [List.map_append, List.length_append, List.map_cons, List.map_nil, asStr, ← HEX.out]
          exact HO1
        go_roundw
        case rel => exact ⟨_, k + 1, k + 1, _, rfl, by omega, Nat.le_refl _, by rw [List.length_append]; simp only [List.length_cons, List.length_nil]; omega, by go_num, by go_num, HC2, HO2, HG1⟩
        case measure => simp [intOf]; omega
      · have HC2 := hide (HC.out.go hll (by rw [HG.out]; exact he))
        have hei : ¬ ((t[k]'hlt).toNat : Int) = (c.toNat : Int) := fun e => he (UInt8.toNat_inj.1 (by omega))
        go_wp2
        go_roundw
        case rel => exact ⟨_, k + 1, b, _, rfl, by omega, by omega, hDb, by go_num, rfl, HC2, HO, HB⟩
        case measure => simp [intOf]; omega
    · have HE := hide (HC.out.end (by simp; omega))
      have hbt : (b : Int) ≤ (t.size : Int) := by omega
      have HEX := hide (extract_listE t b)
      have HOA := hide (HO.out.alloc (.cells #[.string (t.extract b t.size)] 9))
      have HBA := hide (HB.out.alloc HB.out.size (.cells #[.string (t.extract b t.size)] 9))
      have HNC := hide (new_cell X (.string (t.extract b t.size)) 9)
      go_wp2_with (at_builtin; refine wpList_append_own_at _ rfl _ _ 37 rfl w.heap.size 9 i0 (.string ⟨#[]⟩) 1 16 Tryz.underlying37 hi hz0 hz1 hz2 rfl (by omega) _ D.length (D.map asStr) rfl HOA.out ⟨X.heap.size, 0, none⟩ 1 1 [.string (t.extract b t.size)] rfl rfl HNC.out (by simp [Value.oneCell']) (by unfold maxLen; omega) (by omega) (by have := HB.out.size; simp; omega) ?_
                   intro v' w1 ho1 hg1 _ _
                   have HO1 := hide ho1
                   have HG1 := hide (HBA.out.grown hg1 HBA.out.size (fun j hj => (HOA.out.lt j hj).1))
                   clear ho1 hg1)
      have HO2 : Hid (w1.ownsRow w.heap.size 9 1 v' (cutL c t.data.toList).length ((cutL c t.data.toList).map asStr)) := by
        rw [← HE.out, List.map_append, List.length_append, List.map_cons, List.map_nil, asStr, ← HEX.out]
        exact HO1
      go_ret
      exact ⟨_, rfl, HO2.out, HG1.out⟩
end Go.Proofs.YtckcfjibiidafaaGreat
/- Values of one cell each that a call puts together by append: as Buf, for any kind. -/
namespace Go.Proofs.YtckcfjibiidafaaGreat
open Go.RowKit
/-- The slice v owns the values L, of one cell each, in the world w, in a block from B on; from w0 on nothing below B has turned, nor any block that is no row of this kind. -/
structure VBuf (e : TypeId) (B : Nat) (w0 w : World) (v : Value) (L : List Value) : Prop where
  own : w.ownsRow B e 1 v L.length L
  below : Below B w0 w
  le : B ≤ w0.heap.size
  kept : Lib.OthersKept e none w0 w

theorem VBuf.start {e B : Nat} {w : World} {v : Value} {L : List Value} (h : w.ownsRow B e 1 v L.length L) (hB : B ≤ w.heap.size) : VBuf e B w w v L :=
  ⟨h, Below.refl _ _, hB, Lib.OthersKept.refl _ _ _⟩
theorem VBuf.nil (e : TypeId) {B : Nat} {w : World} (hB : B ≤ w.heap.size) : VBuf e B w w (.slice none 0 0) [] :=
  ⟨World.ownsRow_nil w _ _ _, Below.refl _ _, hB, Lib.OthersKept.refl _ _ _⟩
theorem VBuf.size {e B : Nat} {w0 w : World} {v : Value} {L : List Value} (h : VBuf e B w0 w v L) : B ≤ w.heap.size := Nat.le_trans h.le h.below.size
theorem VBuf.trans {e B : Nat} {w0 w1 w2 : World} {v u : Value} {L M : List Value} (h : VBuf e B w0 w1 v L) (k : VBuf e B w1 w2 u M) : VBuf e B w0 w2 u M :=
  ⟨k.own, h.below.trans k.below, h.le, h.kept.trans k.kept⟩
theorem VBuf.drew {e B : Nat} {w0 w : World} {v : Value} {L : List Value} (h : VBuf e B w0 w v L) : VBuf e B w0 w.drew v L :=
  ⟨h.own, h.below.drew, h.le, h.kept.drew⟩
theorem VBuf.alloc {e B : Nat} {w0 w : World} {v : Value} {L : List Value} (h : VBuf e B w0 w v L) (o : Obj) : VBuf e B w0 (w.alloc o) v L :=
  ⟨h.own.alloc _, h.below.alloc h.size _, h.le, h.kept.alloc _⟩
/-- A call that turns no row of this kind but makes new blocks. -/
theorem VBuf.onBelow {e B : Nat} {w0 w w' : World} {v : Value} {L : List Value} (h : VBuf e B w0 w v L) (hb : Below w.heap.size w w') : VBuf e B w0 w' v L := by
  refine ⟨h.own.kept (row := none) ⟨hb.os, hb.tape, hb.output, hb.size, fun k hk _ => hb.block k hk⟩ (by cases v.ownBlock <;> simp), h.below.trans (hb.mono h.size), h.le, ?_⟩
  intro k o hk hn ho
  have h1 := h.kept k o hk hn ho
  have hlt : k < w.heap.size := (Array.getElem?_eq_some_iff.1 h1).1
  rw [hb.block k hlt]
  exact h1
theorem VBuf.iterAt {e B : Nat} {w0 w : World} {v : Value} {L : List Value} (h : VBuf e B w0 w v L) {k : Nat} {s : ByteArray} {pos : Nat} (hk : w.heap[k]? = some (.stringIter s pos)) (hk0 : w0.heap.size ≤ k) (pos' : Nat) :
    VBuf e B w0 (w.iterAt k s pos') v L := by
  refine ⟨⟨h.own.1, ?_⟩, Lib.below_iterAt h.below (Nat.le_trans h.le hk0) s pos', h.le, ?_⟩
  · rcases h.own.2 with hn | ⟨g, cap, cur, hv, hbg, hg, rest⟩
    · exact .inl hn
    · have hkg : g ≠ k := by
        intro e1
        rw [e1, hk] at hg
        cases hg
      exact .inr ⟨g, cap, cur, hv, hbg, (Lib.iterAt_other w k g s pos' hkg).trans hg, rest⟩
  · intro j o hj hn ho
    have hjl : j < w0.heap.size := (Array.getElem?_eq_some_iff.1 hj).1
    rw [Lib.iterAt_other w k j s pos' (by omega)]
    exact h.kept j o hj hn ho

/-- What append of new values, that lie in a block of their own, does. -/
theorem vbuf_append {P : Program} {z : Value} {by8 : Nat} {N : List Value} {w w0 : World} {B : Nat} {e t ty : TypeId} (ht : P.underlying t = some (.slice e)) (hi : (P.info? e).map (fun i => (i.zero, i.size, i.bytes)) = some (some z, 1, by8)) (hzs : z.cells.size = 1) (hN : ∀ u ∈ N, u.oneCell' = true) (hby : by8 ≤ 100)
    {v : Value} {L : List Value} (h : VBuf e B w0 w v L) (g m : Nat) (hm : N.length = m) (hc : ∃ fz, w.heap[g]? = some (.cells N.toArray e fz)) (hlen : L.length + N.length ≤ 100000000) :
    ∃ v' w', (Builtin.append_ #[t, t] ty #[v, .slice (some ⟨g, 0, none⟩) m m]).run P w = .ok v' w' ∧ VBuf e B w0 w' v' (L ++ N) := by
  obtain ⟨i0, hi0, hz0, hz1, hz2⟩ := info_parts hi
  obtain ⟨fz, hc⟩ := hc
  obtain ⟨v', w', hr, ho, hg, _⟩ := run_append_own (P := P) w B t ty e i0 z 1 by8 ht hi0 hz0 hz1 hz2 hzs (by decide) v L.length L h.own ⟨g, 0, none⟩ m m N (by simp [hm])
    (by
      intro j u hj
      have ea : (⟨g, 0, none⟩ : Addr).add j = ⟨g, j, none⟩ := by unfold Addr.add; split <;> simp_all
      rw [ea, cell_of_row w g j _ e fz hc]
      simpa using hj)
    hN (by unfold maxLen; omega) (Nat.le_trans (Nat.mul_le_mul (show L.length + m ≤ 100000000 by omega) hby) (by decide)) h.size
  refine ⟨v', w', hr, ?_, h.below.grown hg h.size (fun k hk => (h.own.lt k hk).1), h.le, h.kept.grown hg (own_kindB h.own)⟩
  rw [List.length_append, hm]
  exact ho

theorem wpList_vbuf {P : Program} {z : Value} {by8 : Nat} (N : List Value) {ops : Array Oper} {rest : List Oper} {o : Oper} {a : Act} {w w0 : World} {Q : Exit → Act → World → Prop}
    (hg : o.guard = none) (s x : Operand) (t : TypeId) (hop : o.op = Op.call { callee := Callee.builtin Builtin.append, args := #[s, x], argTypes := #[t, t] })
    (B : Nat) (e : TypeId) (ht : P.underlying t = some (.slice e)) (hi : (P.info? e).map (fun i => (i.zero, i.size, i.bytes)) = some (some z, 1, by8)) (hzs : z.cells.size = 1) (hN : ∀ u ∈ N, u.oneCell' = true) (hby : by8 ≤ 100)
    (v : Value) (L : List Value) (hs : a.eval s = v) (hB : VBuf e B w0 w v L) (g m : Nat) (hx : a.eval x = .slice (some ⟨g, 0, none⟩) m m) (hm : N.length = m)
    (hc : ∃ fz, w.heap[g]? = some (.cells N.toArray e fz)) (hlen : L.length + N.length ≤ 100000000)
    (hK : ∀ v' w', VBuf e B w0 w' v' (L ++ N) → wpList P ops Q rest (a.put o.dst v') w') : wpList P ops Q (o :: rest) a w := by
  refine wpList_plain hg fun _ hK2 => ?_
  obtain ⟨v', w', hrun, h2⟩ := vbuf_append (P := P) (ty := o.type) ht hi hzs hN hby hB g m hm hc hlen
  unfold Oper.wp
  simp [execOp, hop, resolve, invoke, builtin, hs, hx, hrun, Result.andThen]
  exact hK2 _ _ (hK v' w' h2)


/-- What stands behind a byte from 128 on, in one rune, is from 128 on too. -/
theorem decode_run (s : ByteArray) (i j : Nat) (h8 : 128 ≤ (s.get! i).toNat) (h1 : i ≤ j) (h2 : j < i + (Utf8.decode s i).2) : 128 ≤ (s.get! j).toNat := by
  rw [Lib.decode_at] at h2
  rcases (by omega : j = i ∨ j = i + 1 ∨ j = i + 2 ∨ j = i + 3 ∨ i + 4 ≤ j) with e | e | e | e | e
  · rw [e]; exact h8
  all_goals
    try subst e
    unfold Lib.decodeN at h2
    revert h2
    repeat' split
    all_goals intro h2
    all_goals simp_all
    all_goals omega
end Go.Proofs.YtckcfjibiidafaaGreat
