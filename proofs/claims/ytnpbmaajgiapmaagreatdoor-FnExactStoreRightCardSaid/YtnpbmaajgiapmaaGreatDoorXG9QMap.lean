/- A store's map, as the list of what it keeps. -/
import Derived.Test.YtnpbmaajgiapmaaGreatDoorXG8QStoreM
import Derived.Maps.OwnSet
import Derived.Shelf.Strings.OnBuilder
import Derived.Test.YtnpbmaajgiapmaaGreatDoorChecked
import Derived.OrdersHeld
import Derived.Deep.RegionHeld3
import Derived.Deep.DeepCutAuto
namespace Go.Proofs.YtnpbmaajgiapmaaGreatDoor
open Go.RowKit Go.Maps

/-- How a value of the map reads. -/
def keptR : Value → Option (DataW Unit × List MemPlace)
  | .agg a => match a.toList with
    | [.string s] => some (.lit (.string s.data.toList), [])
    | _ => none
  | _ => none
theorem keptR_mk (s : ByteArray) : keptR (.agg #[.string s]) = some (.lit (.string s.data.toList), []) := rfl
theorem keptR_inv {v : Value} {l : List UInt8} {ps : List MemPlace} (h : keptR v = some (.lit (.string l), ps)) : v = .agg #[.string ⟨l.toArray⟩] := by
  unfold keptR at h
  split at h
  · rename_i a
    split at h
    · rename_i s he
      simp only [Option.some.injEq, Prod.mk.injEq, DataW.lit.injEq, Lit.string.injEq] at h
      have : a = #[.string s] := by rw [← Array.toList_inj]; exact he
      rw [this, ← h.1]
    · cases h
  · cases h
def keyD (i : ByteArray) : Lit := .string i.data.toList
def valD (t : ByteArray) : DataW Unit := .lit (.string t.data.toList)
def entD (x : Item) : Lit × DataW Unit := (keyD x.1, valD x.2)
def datL (L : List Item) : DataW Unit := .map (L.map entD)
theorem datL_del (L : List Item) (i : ByteArray) : (datL L).del (keyD i) = datL (delL L i) := by
  unfold datL DataW.del delL
  simp only [List.filter_map]
  rfl
theorem insert_map (x : Item) : ∀ L : List Item, DataW.insert (entD x) (L.map entD) = (insL x L).map entD
  | [] => rfl
  | y :: r => by
    have ih := insert_map x r
    rw [List.map_cons, DataW.insert, insL]
    have : (entD x).1.before (entD y).1 = ltB x.1 y.1 := rfl
    rw [this]
    split
    · rfl
    · rw [ih]; rfl
theorem datL_put (L : List Item) (i t : ByteArray) : (datL L).put (keyD i) (valD t) = datL (putL L i t) := by
  have h : (datL L).put (keyD i) (valD t) = .map (DataW.insert (entD (i, t)) ((delL L i).map entD)) := by
    have := datL_del L i
    unfold datL DataW.del at this
    unfold datL DataW.put
    simp only [DataW.map.injEq] at this ⊢
    rw [this]
    rfl
  rw [h, insert_map]
  rfl
theorem datL_size (L : List Item) : Maps.size (datL L) = L.length := by simp [datL, Maps.size]
theorem datL_has (L : List Item) (i : ByteArray) : Maps.has (datL L) (keyD i) = L.any (sameId i) := by
  simp only [datL, Maps.has, List.any_map]
  rfl
theorem datL_at (L : List Item) (i : ByteArray) (z : DataW Unit) : (datL L).atKey (keyD i) z = match L.find? (sameId i) with | some p => valD p.2 | none => z := by
  unfold datL DataW.atKey
  simp only [List.find?_map]
  have : ((fun p : Lit × DataW Unit => p.1.sameKey (keyD i)) ∘ entD) = sameId i := rfl
  rw [this]
  cases L.find? (sameId i) <;> rfl
theorem strKeys_datL (L : List Item) : strKeys (datL L) = L.map (·.1.data.toList) := by
  simp [datL, strKeys, entD, keyD, strOf, Function.comp_def]
theorem before_le : ∀ (a b : List UInt8), bytesBefore a b = true → a ≤ b
  | [], _, _ => List.nil_le _
  | _ :: _, [], h => by simp [bytesBefore] at h
  | x :: r, y :: s, h => by
    simp only [bytesBefore, Bool.or_eq_true, Bool.and_eq_true, decide_eq_true_eq, beq_iff_eq] at h
    rw [List.cons_le_cons_iff]
    rcases h with h | ⟨rfl, h⟩
    · exact .inl h
    · exact .inr ⟨rfl, before_le r s h⟩
theorem sorted_datL {L : List Item} (h : Rises L) {ss : List (List UInt8)} (hp : ss.Perm (strKeys (datL L))) : ss.mergeSort (fun x y => decide (x ≤ y)) = L.map (·.1.data.toList) := by
  rw [strKeys_datL] at hp
  rw [show ss.mergeSort (fun x y => decide (x ≤ y)) = (L.map (·.1.data.toList)).mergeSort leB from mergeSort_of_perm hp]
  refine List.mergeSort_of_pairwise ?_
  rw [List.pairwise_map]
  exact h.imp fun {p q} hpq => by simpa [leB] using before_le _ _ hpq
/-- Block b is a map that keeps L. -/
def MapIs (w : World) (b n : Nat) (L : List Item) : Prop := w.ownsMap Tryz.prog 9 keptR b n (datL L)
theorem MapIs.below {w w' : World} {b n : Nat} {L : List Item} {B : Nat} (h : MapIs w b n L) (hb : Below B w w') (hB : b < B) : MapIs w' b n L := by
  obtain ⟨es, clock, hh, F, hs, hD⟩ := h
  exact ⟨es, clock, by rw [hb.block b hB]; exact hh, F, hs, hD⟩
theorem MapIs.lt {w : World} {b n : Nat} {L : List Item} (h : MapIs w b n L) : b < w.heap.size := World.ownsMap.lt h
theorem keyOf_mk (i : ByteArray) (h : i.size ≤ maxLen) : keyOf Tryz.prog 9 (.string i) = some (keyD i) := by
  have hk : Tryz.prog.underlying 9 = some .string := Tryz.underlying9
  simp [keyOf, hk, mapKey, h, keyD]
theorem keyed : Keyed Tryz.prog 9 := string_keyed Tryz.underlying9
theorem zeroKept (w : World) : (zeroValue 79).run Tryz.prog w = .ok (.agg #[.string ⟨#[]⟩]) w := by kernel_rfl
theorem look_any {w : World} {b n : Nat} {L : List Item} (h : MapIs w b n L) (i : ByteArray) (hi : i.size ≤ maxLen) :
    (Instr.lookup 54 (.map (some b)) (.string i) false).run Tryz.prog w = .ok (.agg #[.string (match L.find? (sameId i) with | some p => p.2 | none => ⟨#[]⟩)]) w := by
  obtain ⟨v, ps, hrun, hv⟩ := World.ownsMap.lookup h keyed Tryz.underlying54 (zeroKept w) (keptR_mk ⟨#[]⟩) (keyOf_mk i hi)
  rw [datL_at] at hv
  cases hf : L.find? (sameId i) with
  | none =>
    rw [hf] at hv
    obtain rfl := keptR_inv hv
    rw [hrun]
  | some p =>
    rw [hf] at hv
    obtain rfl := keptR_inv hv
    rw [hrun]
/-- idsOf, of a map that keeps L. -/
theorem idsOf_any (b n : Nat) (L : List Item) (w : World) (h : MapIs w b n L) (hr : Rises L) (hl : L.length ≤ 1000) :
    Calls Tryz.prog 108 #[.map (some b)] w fun e w' => ∃ v, e = .returned v ∧ w'.ownsRow w.heap.size 9 1 v L.length (strs (L.map (·.1))) ∧ (v = .slice none 0 0 ↔ L = []) ∧ Below w.heap.size w w' := by
  refine (idsOf_own b n (datL L) keptR w h (by rw [datL_size]; unfold maxLen; omega) (by rw [datL_size]; omega)).mono ?_
  rintro e w' ⟨v, ss, rfl, hp, hrow, hnil, hb⟩
  have hlen : ss.length = L.length := by rw [hp.length_eq, strKeys_datL]; simp
  rw [sorted_datL hr hp, hlen] at hrow
  refine ⟨v, rfl, ?_, ?_, hb⟩
  · have : (L.map (·.1.data.toList)).map encStr = strs (L.map (·.1)) := by
      simp [strs, encStr, Function.comp_def]
    rw [← this]
    exact hrow
  · rw [hnil]
    constructor
    · rintro rfl
      exact List.eq_nil_of_length_eq_zero (by rw [← hlen]; rfl)
    · rintro rfl
      exact List.eq_nil_of_length_eq_zero hlen
end Go.Proofs.YtnpbmaajgiapmaaGreatDoor
/- The library's contracts of strings_Join_none, strings_Join at this program: each body is held against the one that the contract was proved of. -/
namespace Go.Proofs.YtnpbmaajgiapmaaGreatDoor
open Go.Shelf
def Tryz.lays156_ren : Go.Shelf.Ren := ⟨fun | 156 => 136 | 165 => 154 | 166 => 155 | 169 => 156 | 240 => 163 | 241 => 164 | 276 => 176 | 277 => 177 | n => n, fun | 31 => 22 | 9 => 9 | 3 => 3 | 4 => 4 | 0 => 0 | 20 => 20 | 72 => 198 | 76 => 200 | 70 => 196 | 37 => 126 | 75 => 56 | 127 => 181 | 164 => 168 | 5 => 5 | 80 => 202 | n => n, fun | n => n⟩
theorem Tryz.lays156 : Go.Proofs.Lays.n156 Tryz.prog Tryz.lays156_ren := {
  mixed := by kernel_rfl
  f156 := Tryz.func136.trans (congrArg some (by kernel_rfl))
  f165 := Tryz.func154.trans (congrArg some (by kernel_rfl))
  f166 := Tryz.func155.trans (congrArg some (by kernel_rfl))
  f169 := Tryz.func156.trans (congrArg some (by kernel_rfl))
  f240 := Tryz.func163.trans (congrArg some (by kernel_rfl))
  f241 := Tryz.func164.trans (congrArg some (by kernel_rfl))
  f276 := Tryz.func176.trans (congrArg some (by kernel_rfl))
  f277 := Tryz.func177.trans (congrArg some (by kernel_rfl))
  t0 := Tryz.underlying0
  a0 := Tryz.isAgg0
  z0 := Tryz.sizeOf0
  v0 := Tryz.zeroValue0
  t3 := Tryz.underlying3
  a3 := Tryz.isAgg3
  z3 := Tryz.sizeOf3
  v3 := Tryz.zeroValue3
  t4 := Tryz.underlying4
  a4 := Tryz.isAgg4
  z4 := Tryz.sizeOf4
  v4 := Tryz.zeroValue4
  t9 := Tryz.underlying9
  a9 := Tryz.isAgg9
  z9 := Tryz.sizeOf9
  v9 := Tryz.zeroValue9
  t20 := Tryz.underlying20
  a20 := Tryz.isAgg20
  z20 := Tryz.sizeOf20
  v20 := Tryz.zeroValue20
  t31 := Tryz.underlying22
  a31 := Tryz.isAgg22
  z31 := Tryz.sizeOf22
  v31 := Tryz.zeroValue22
  t37 := Tryz.underlying126
  a37 := Tryz.isAgg126
  z37 := Tryz.sizeOf126
  v37 := Tryz.zeroValue126
  t70 := Tryz.underlying196
  a70 := Tryz.isAgg196
  z70 := Tryz.sizeOf196
  v70 := Tryz.zeroValue196
  t72 := Tryz.underlying198
  a72 := Tryz.isAgg198
  z72 := Tryz.sizeOf198
  v72 := Tryz.zeroValue198
  t75 := Tryz.underlying56
  a75 := Tryz.isAgg56
  z75 := Tryz.sizeOf56
  v75 := Tryz.zeroValue56
  t76 := Tryz.underlying200
  a76 := Tryz.isAgg200
  z76 := Tryz.sizeOf200
  v76 := Tryz.zeroValue200
  t127 := Tryz.underlying181
  a127 := Tryz.isAgg181
  z127 := Tryz.sizeOf181
  v127 := Tryz.zeroValue181
  t164 := Tryz.underlying168
  a164 := Tryz.isAgg168
  z164 := Tryz.sizeOf168
  v164 := Tryz.zeroValue168 }
theorem Tryz.Builder_Extra_156 : Builder.Extra Tryz.prog Tryz.lays156_ren := {
  sizeBuilder := by kernel_rfl
  liesBuilder := by kernel_rfl
  t5 := Tryz.underlying5
  a5 := Tryz.isAgg5
  z5 := Tryz.sizeOf5
  v5 := Tryz.zeroValue5
  infoByte := by kernel_rfl
  cellsByte := by kernel_rfl
  sizeByte := by kernel_rfl
  neB5 := by decide }
open Go.RowKit in
theorem Tryz.strings_Join_none (a : Option Addr) (c : Nat) (sep : ByteArray) (w : World) :
    Calls Tryz.prog 136 #[.slice a 0 c, .string sep] w fun e w' => e = .returned (.string ⟨#[]⟩) ∧ w' = w := Any.strings_Join_none Tryz.lays156 Tryz.Builder_Extra_156 a c sep w
open Go.RowKit in
theorem Tryz.strings_Join (bk o c : Nat) (xs : List ByteArray) (sep : ByteArray) (w : World) (hcells : ∀ (j : Nat) x, xs[j]? = some x → w.cell? ⟨bk, o + j, none⟩ = some (.string x)) (hbk : bk < w.heap.size) (hN : xs.length ≤ 140737488355328) (hcap : xs.length ≤ c) (hlen : (Lib.join (xs.map (·.data.toList)) sep.data.toList).length ≤ 140737488355328) :
    Calls Tryz.prog 136 #[.slice (some ⟨bk, o, none⟩) xs.length c, .string sep] w fun e w' => e = .returned (.string ⟨(Lib.join (xs.map (·.data.toList)) sep.data.toList).toArray⟩) ∧ Below w.heap.size w w' := Any.strings_Join Tryz.lays156 Tryz.Builder_Extra_156 bk o c xs sep w hcells hbk hN hcap hlen
end Go.Proofs.YtnpbmaajgiapmaaGreatDoor
/- storeText of the program: a map as bytes. -/
namespace Go.Proofs.YtnpbmaajgiapmaaGreatDoor
open Go.RowKit
theorem step_own {P : Program} {ops : Array Oper} {o : Oper} {a : Act} {w : World} {K : Act → World → Prop} {Q : Exit → Act → World → Prop} {E : Prop} (hgd : o.guard = none) (s x : Operand) (t : TypeId)
    (ho : o.op = .call { callee := .builtin .append, args := #[s, x], argTypes := #[t, t] })
    (base : Nat) (e : TypeId) (i : TypeInfo) (z : Value) (size bytes : Nat) (ht : P.underlying t = some (.slice e)) (hi : P.info? e = some i) (hz : i.zero = some z)
    (hsize : i.size = size) (hby : i.bytes = bytes) (hzs : z.cells.size = size) (hsz : 0 < size)
    (v : Value) (n : Nat) (xs : List Value) (hs : a.eval s = v) (hown : w.ownsRow base e size v n xs)
    (ad : Addr) (m c : Nat) (news : List Value) (hx : a.eval x = .slice (some ad) m c) (hl : news.length = m * size) (hnews : ∀ j u, news[j]? = some u → w.cell? (ad.add j) = some u) (h1 : ∀ u ∈ news, u.oneCell' = true)
    (h63 : n + m ≤ maxLen) (hbytes : (n + m) * bytes ≤ 140737488355328) (hbase : base ≤ w.heap.size)
    (h : ∀ v' w', w'.ownsRow base e size v' (n + m) (xs ++ news) → w.grownBy w' v.ownBlock → (v'.ownBlock = v.ownBlock ∨ v'.ownBlock = some w.heap.size) → K (a.put o.dst v') w') :
    if Region.wanted o (yielded ops a.tmps) = true then Oper.wp P o a w K Q else E := by
  have hw : Region.wanted o (yielded ops a.tmps) = true := by simp [Region.wanted, hgd]
  rw [if_pos hw]
  obtain ⟨v', w', hr, h2, h3, h4, h5⟩ := run_append_own_at (P := P) w base t o.type e i z size bytes ht hi hz hsize hby hzs hsz v n xs hown ad m c news hl hnews h1 h63 hbytes hbase
  unfold Oper.wp execOp
  simp only [ho, resolve, invoke, builtin, Sem.run_bind, Sem.run_pure, Result.andThen_ok, List.map_toArray, List.map_cons, List.map_nil, hs, hx, hr]
  exact h v' w' h2 h3 h5
theorem own_sliceX {w : World} {B : Nat} {T : TypeId} {sz n : Nat} {v : Value} {xs : List Value} (h : w.ownsRow B T sz v n xs) : ∃ p c, v = .slice p n c := by
  obtain ⟨_, ⟨rfl, rfl⟩ | ⟨g, cap, cur, rfl, _⟩⟩ := h
  · exact ⟨none, 0, rfl⟩
  · exact ⟨_, cap, rfl⟩
theorem own_belowX {w w' : World} {B n sz : Nat} {T : TypeId} {v : Value} {xs : List Value} (h : w.ownsRow B T sz v n xs) (hb : Below w.heap.size w w') : w'.ownsRow B T sz v n xs := by
  obtain ⟨h1, h2⟩ := h
  refine ⟨h1, ?_⟩
  rcases h2 with h2 | ⟨g, cap, cur, rfl, hB, hh, h3⟩
  · exact .inl h2
  · exact .inr ⟨g, cap, cur, rfl, hB, by rw [hb.block g (Array.getElem?_eq_some_iff.1 hh).1]; exact hh, h3⟩
theorem join_none (xs : List (List UInt8)) : Lib.join xs [] = xs.flatten := by
  induction xs with
  | nil => rfl
  | cons x r ih => rw [Lib.join_cons]; simp [Lib.joinTail]
/-- Pieces put together, out of a row of the caller's own. -/
theorem together_own (base : Nat) (v : Value) (xs : List ByteArray) (w : World) (hown : w.ownsRow base 9 1 v xs.length (strs xs)) (h0 : 0 < xs.length) (hN : xs.length ≤ 100) (hlen : ((xs.map (·.data.toList)).flatten).length ≤ 200000) :
    Calls Tryz.prog 110 #[v] w fun e w' => e = .returned (.string ⟨((xs.map (·.data.toList)).flatten).toArray⟩) ∧ Below w.heap.size w w' := by
  have hown' := hown
  obtain ⟨_, ⟨_, h1⟩ | ⟨g, cap, cur, rfl, _, hh, hcap, hcm, _, _⟩⟩ := hown'
  · omega
  have H := hide (show Lib.join (xs.map (·.data.toList)) (⟨#[]⟩ : ByteArray).data.toList = (xs.map (·.data.toList)).flatten from join_none _)
  have hc : ∀ (j : Nat) x, xs[j]? = some x → w.cell? ⟨g, 0 + j, none⟩ = some (.string x) := fun j x h => by
    have hj : j < xs.length := (List.getElem?_eq_some_iff.1 h).1
    rw [Nat.zero_add, hown.cellAt j (by omega)]
    simp [strs, h]
  have HC := hide (Tryz.strings_Join g 0 cap xs ⟨#[]⟩ w hc (Array.getElem?_eq_some_iff.1 hh).1 (by omega) hcap (by rw [H.out]; omega))
  clear hc hown hh
  go_enter Tryz.func110, Tryz.ntmps110
  go_wp2_with fail
  refine HC.out.mono ?_
  rintro e w1 ⟨rfl, hb1⟩
  rw [H.out]
  have HB := hide hb1
  clear hb1
  go_wp2
  go_ret
  exact ⟨rfl, HB.out⟩
theorem putText_any (s : ByteArray) (w : World) (hs : s.size ≤ 8000) : Calls Tryz.prog 109 #[.string s] w fun e w' => e = .returned (.string (txtB s)) ∧ Below w.heap.size w w' := St4.implPutText_any s w hs
theorem putNum_any (n : Int) (w : World) (h0 : -9223372036854775808 ≤ n) (h1 : n ≤ 9223372036854775807) : Calls Tryz.prog 103 #[.int .i64 n] w fun e w' => e = .returned (.string (numText n)) ∧ Below w.heap.size w w' := St2.implPutNum_any n w h0 h1
def piecesL (h : ByteArray) (L : List Item) : List ByteArray := h :: L.flatMap fun x => [txtB x.1, txtB x.2]
theorem piecesL_len (h : ByteArray) (L : List Item) : (piecesL h L).length = 1 + 2 * L.length := by
  unfold piecesL
  induction L with
  | nil => rfl
  | cons x r ih => simp [List.flatMap_cons] at ih ⊢; omega
theorem piecesL_flat (L : List Item) : ((piecesL (numText L.length) L).map (·.data.toList)).flatten = (storeB L).data.toList := by
  unfold storeB
  rw [catB_list]
  unfold piecesL
  simp only [List.map_cons, List.flatten_cons]
  congr 1
  generalize L = M
  induction M with
  | nil => rfl
  | cons x r ih => simp [flatL, List.flatMap_cons, ih]
theorem piecesL_next (h : ByteArray) (L : List Item) (k : Nat) (hk : k < L.length) : piecesL h (L.take (k + 1)) = piecesL h (L.take k) ++ [txtB (L[k]'hk).1, txtB (L[k]'hk).2] := by
  unfold piecesL
  rw [List.take_succ_eq_append_getElem hk, List.flatMap_append]
  simp
theorem OkI.id {x : Item} (h : OkI x) : x.1.size ≤ 20 := by
  rcases Nat.lt_or_ge 20 x.1.size with h1 | h1
  · have := h.1; rw [idB_long _ h1] at this; cases this
  · exact h1
theorem txtB_size (t : ByteArray) : (txtB t).size ≤ t.size + 10 := by
  unfold txtB
  have := numText_size t.size
  simp
  omega
theorem flatL_len : ∀ (L : List Item), (∀ x ∈ L, OkI x) → (flatL L).length ≤ L.length * 8040
  | [], _ => by simp [flatL]
  | x :: r, h => by
    have h1 := flatL_len r (fun y hy => h y (List.mem_cons_of_mem _ hy))
    have h2 := (h x (List.mem_cons_self ..)).id
    have h3 := (h x (List.mem_cons_self ..)).2
    have h4 := txtB_size x.1
    have h5 := txtB_size x.2
    rw [flatL]
    simp only [List.length_append, List.length_cons, Array.length_toList]
    have e1 : (txtB x.1).data.size = (txtB x.1).size := rfl
    have e2 : (txtB x.2).data.size = (txtB x.2).size := rfl
    omega
theorem storeB_size {L : List Item} (h : ∀ x ∈ L, OkI x) (hl : L.length ≤ 20) : (storeB L).size ≤ 170000 := by
  have e : (storeB L).size = (storeB L).data.toList.length := by simp
  rw [e]
  unfold storeB
  rw [catB_list]
  have h1 := flatL_len L h
  have h2 := numText_size (L.length : Int)
  have e2 : (numText (L.length : Int)).data.size = (numText (L.length : Int)).size := rfl
  simp only [List.length_append, Array.length_toList]
  omega
theorem storeB_len {L : List Item} (h : ∀ x ∈ L, OkI x) (hl : L.length ≤ 20) : (storeB L).data.toList.length ≤ 200000 := by
  have h1 := storeB_size h hl
  have e : (storeB L).data.toList.length = (storeB L).size := by simp
  omega
theorem bytes_back (s : ByteArray) : (⟨s.data.toList.toArray⟩ : ByteArray) = s := by simp
theorem fieldT (t : ByteArray) (w : World) : (Instr.field 79 (.agg #[.string t]) 0).run Tryz.prog w = .ok (.string t) w := by kernel_rfl
theorem find_at {L : List Item} (hr : Rises L) (k : Nat) (hk : k < L.length) : L.find? (sameId (L[k]'hk).1) = some (L[k]'hk) := by
  rw [List.find?_eq_some_iff_getElem]
  refine ⟨sameId_iff.2 rfl, k, hk, rfl, fun j hj => ?_⟩
  have h1 := List.pairwise_iff_getElem.1 hr j k (by omega) hk hj
  have h2 : ¬ sameId (L[k]'hk).1 (L[j]'(by omega)) = true := fun e => ltB_ne h1 (sameId_iff.1 e)
  simpa using h2

set_option maxHeartbeats 8000000 in
set_option maxRecDepth 100000 in
theorem storeText_own (b nn : Nat) (L : List Item) (w : World) (h : MapIs w b nn L) (hr : Rises L) (ho : ∀ x ∈ L, OkI x) (hl : L.length ≤ 20) :
    Calls Tryz.prog 83 #[.map (some b)] w fun e w' => e = .returned (.string (storeB L)) ∧ Below w.heap.size w w' := by
  obtain ⟨i0, hi, hz0, hz1, hz2⟩ := info_parts Tryz.infoStr
  have HZC := hide (show (Value.string ⟨#[]⟩).cells.size = 1 from rfl)
  have hlen : ∀ ty, (Builtin.len_ #[54] ty #[.map (some b)]).run Tryz.prog w = .ok (.int .i64 (L.length : Int)) w := fun ty => by
    have := World.ownsMap.len h Tryz.underlying54 ty
    rw [datL_size] at this
    exact this
  have HM := hide h
  have HBL := hide h.lt
  have HR := hide hr
  have HO := hide ho
  obtain ⟨hd, hhd⟩ : ∃ hd, hd = numText (L.length : Int) := ⟨_, rfl⟩
  have HHD := hide hhd
  clear h hr ho hhd
  go_enter Tryz.func83, Tryz.ntmps83
  go_wp2_with fail
  refine (putNum_any (L.length : Int) _ (by omega) (by omega)).mono ?_
  rw [← HHD.out]
  rintro e w1 ⟨rfl, hb1⟩
  have HB1 := hide hb1
  have HO1 := hide (show (w1.alloc (.cells #[.string hd] 9)).ownsRow w.heap.size 9 1 (.slice (some ⟨w1.heap.size, 0, none⟩) 1 1) 1 [.string hd] from by
    have := World.ownsRow_lit (e := 9) (base := w.heap.size) (size := 1) w1 #[.string hd] 1 hb1.size (by unfold maxLen; omega) rfl
    simpa using this)
  have HB2 := hide (show Below w.heap.size w (w1.alloc (.cells #[.string hd] 9)) from hb1.alloc hb1.size _)
  have HM2 := hide (HM.out.below HB2.out HBL.out)
  clear hb1 hlen
  go_wp2_with fail
  refine (idsOf_any b nn L _ HM2.out HR.out (by omega)).mono ?_
  rintro e w3 ⟨v, rfl, hids, hnil, hb3⟩
  have HB3 := hide (HB2.out.trans (hb3.mono HB2.out.size))
  have HO3 := hide (own_belowX HO1.out hb3)
  obtain ⟨pi, ci, rfl⟩ := own_sliceX hids
  have HPN := hide (show ∀ g, (Value.slice (some ⟨w1.heap.size, 0, none⟩) 1 1).ownBlock = some g → (Value.slice pi L.length ci).ownBlock ≠ some g from fun g hg e => by
    have h1 := (hids.lt g e).1
    simp at h1
    have h2 : some w1.heap.size = some g := hg
    have := Option.some.inj h2
    omega)
  have HIds3 := hide (show w3.ownsRow w.heap.size 9 1 (.slice pi L.length ci) L.length (strs (L.map (·.1))) from by
    obtain ⟨g1, g2⟩ := hids
    refine ⟨g1, ?_⟩
    rcases g2 with g2 | ⟨g, cap, cur, e1, e2, e3⟩
    · exact .inl g2
    · exact .inr ⟨g, cap, cur, e1, Nat.le_trans (Nat.le_trans HB1.out.size (by simp)) e2, e3⟩)
  clear hids hnil hb3
  by_cases hx0 : L.length = 0
  · have hL : L = [] := List.eq_nil_of_length_eq_zero hx0
    have HLH := hide hL
    have HFI := hide (show (([hd] : List ByteArray).map (·.data.toList)).flatten = (storeB L).data.toList by rw [← piecesL_flat, hL, HHD.out, hL]; rfl)
    have HFS := hide (storeB_len HO.out hl)
    rw [hx0]
    clear hL
    go_wp2
    refine wp_loop_rounds 1 ?_
    rw [rounds_succ]
    go_wp2_with fail
    refine (together_own w.heap.size _ [hd] _ HO3.out (by simp) (by simp) (by rw [HFI.out]; exact HFS.out)).mono ?_
    rw [HFI.out]
    rintro e w4 ⟨rfl, hb4⟩
    have HB4 := hide (HB3.out.trans (hb4.mono HB3.out.size))
    clear hb4
    go_wp2
    go_ret
    exact ⟨by rw [bytes_back]; rfl, HB4.out⟩
  obtain ⟨gi, rfl⟩ : ∃ gi, pi = some ⟨gi, 0, none⟩ := by
    obtain ⟨_, ⟨_, h1⟩ | ⟨g, cap, cur, e1, _⟩⟩ := HIds3.out
    · omega
    · cases e1; exact ⟨_, rfl⟩
  go_wp2
  go_loopw [3, 13] (fun l i wr => ∃ (X : World) (k : Nat) (pp : Option Addr) (cp : Nat), X = wr ∧ l = .slice pp (1 + 2 * k) cp ∧ k ≤ L.length ∧ i = .int .i64 (k : Int) ∧ Hid (X.ownsRow w.heap.size 9 1 (.slice pp (1 + 2 * k) cp) (1 + 2 * k) (strs (piecesL hd (L.take k)))) ∧ Hid (X.ownsRow w.heap.size 9 1 (.slice (some ⟨gi, 0, none⟩) L.length ci) L.length (strs (L.map (·.1)))) ∧ Hid (Below w.heap.size w X) ∧
    Hid (∀ g, (Value.slice pp (1 + 2 * k) cp).ownBlock = some g → (Value.slice (some ⟨gi, 0, none⟩) L.length ci).ownBlock ≠ some g)) (fun _ i _ => L.length - (intOf i).toNat)
  case atStart => exact ⟨_, 0, _, _, rfl, rfl, Nat.zero_le _, rfl, HO3, HIds3, HB3, HPN⟩
  case round =>
    obtain ⟨X, k, pp, cp, rfl, rfl, hk, rfl, HOw, HIds, HB, HNE⟩ := hrel
    by_cases hlt : k < L.length
    · have hki : (k : Int) < (L.length : Int) := by omega
      have HPS := hide (piecesL_next hd L k hlt)
      have HFD := hide (find_at HR.out k hlt)
      have hox := HO.out _ (List.getElem_mem hlt)
      have HC := hide (show X.cell? ⟨gi, k, none⟩ = some (.string (L[k]'hlt).1) by
        rw [HIds.out.cellAt k (by omega)]
        simp [strs, hlt])
      obtain ⟨x, hx⟩ : ∃ x, x = L[k]'hlt := ⟨_, rfl⟩
      rw [← hx] at HPS HFD HC hox
      clear hx
      obtain ⟨iD, tX⟩ := x
      have HS1 := hide (show iD.size ≤ 8000 from Nat.le_trans hox.id (by omega))
      have HSI := hide (show iD.size ≤ maxLen from Nat.le_trans hox.id (by unfold maxLen; omega))
      have HS2 := hide (show tX.size ≤ 8000 from hox.2)
      clear hox
      have hc1 : X.cell? ⟨gi, k, none⟩ = some (.string iD) := HC.out
      go_upto_region 5 with fail
      clear hc1
      refine wp_region_held (S := fun y : World => MapIs y b nn L) (by kernel_rfl) ?_
      have HSS := hide (show ∀ y : World, Below X.heap.size X y → MapIs y b nn L from fun y hb => (HM.out.below HB.out HBL.out).below hb (Nat.lt_of_lt_of_le HBL.out HB.out.size))
      have HZ1 := hide (show Below X.heap.size X { X with drawn := X.drawn + 1 } from (Below.refl _ X).drew)
      generalize ({ X with drawn := X.drawn + 1 } : World) = Z1 at HZ1 ⊢
      have HS := hide (HSS.out _ HZ1.out)
      refine wpAnyH_take (i := 0) (oi := _) (v := .slice pp (1 + 2 * k) cp) rfl (by kernel_rfl) (by kernel_rfl) (by kernel_rfl) (fun _ _ _ h => h) (Or.inl ⟨by rfl, by intro w hSw; go_split_ands; go_simp⟩) HS.out ?_
      simp only [Act.put, List.getElem_toArray, List.getElem_cons_zero, List.setIfInBounds_toArray, List.set_cons_zero, List.set_cons_succ]
      refine wpAnyH_take (i := 1) (oi := _) (v := .string iD) rfl (by kernel_rfl) (by kernel_rfl) (by kernel_rfl) (fun _ _ _ h => h) (Or.inl ⟨by rfl, by intro w hSw; go_split_ands; go_simp⟩) HS.out ?_
      simp only [Act.put, List.getElem_toArray, List.getElem_cons_zero, List.getElem_cons_succ, List.setIfInBounds_toArray, List.set_cons_zero, List.set_cons_succ]
      refine wpAnyH_take (i := 3) (oi := _) (v := .map (some b)) rfl (by kernel_rfl) (by kernel_rfl) (by kernel_rfl) (fun _ _ _ h => h) (Or.inl ⟨by rfl, by intro w hSw; go_split_ands; go_simp⟩) HS.out ?_
      simp only [Act.put, List.getElem_toArray, List.getElem_cons_zero, List.getElem_cons_succ, List.setIfInBounds_toArray, List.set_cons_zero, List.set_cons_succ]
      refine wpAnyH_take (i := 4) (oi := _) (v := .string iD) rfl (by kernel_rfl) (by kernel_rfl) (by kernel_rfl) (fun _ _ _ h => h) (Or.inl ⟨by rfl, by intro w hSw; go_split_ands; go_simp⟩) HS.out ?_
      simp only [Act.put, List.getElem_toArray, List.getElem_cons_zero, List.getElem_cons_succ, List.setIfInBounds_toArray, List.set_cons_zero, List.set_cons_succ]
      refine wpAnyH_take (i := 5) (oi := _) (v := .agg #[.string tX]) rfl (by kernel_rfl) (by kernel_rfl) (by kernel_rfl) (fun _ _ _ h => h) (Or.inl ⟨by rfl, by intro w hSw; go_split_ands; have hlk := look_any hSw iD HSI.out; rw [HFD.out] at hlk; go_simp⟩) HS.out ?_
      simp only [Act.put, List.getElem_toArray, List.getElem_cons_zero, List.getElem_cons_succ, List.setIfInBounds_toArray, List.set_cons_zero, List.set_cons_succ]
      refine wpAnyH_take (i := 6) (oi := _) (v := .string tX) rfl (by kernel_rfl) (by kernel_rfl) (by kernel_rfl) (fun _ _ _ h => h) (Or.inl ⟨by rfl, by intro w hSw; go_split_ands; have hfl := fieldT tX w; go_simp⟩) HS.out ?_
      simp only [Act.put, List.getElem_toArray, List.getElem_cons_zero, List.getElem_cons_succ, List.setIfInBounds_toArray, List.set_cons_zero, List.set_cons_succ]
      refine wpAnyH_ready (rs := [2]) (by kernel_rfl) (by simp) ?_
      refine AllReadyH.cons (o := _) rfl (fun K hK => ?_) AllReadyH.nil
      go_simp
      refine (putText_any iD _ HS1.out).mono ?_
      rintro e Z2 ⟨rfl, hbc⟩
      have HZ2 := hide (HZ1.out.trans (hbc.mono HZ1.out.size))
      clear hbc
      refine hK.out _ _ (HSS.out _ HZ2.out) (fun _ => ?_)
      clear hK K HS
      have HS := hide (HSS.out _ HZ2.out)
      try simp only [Act.put, List.getElem_toArray, List.getElem_cons_zero, List.getElem_cons_succ, List.setIfInBounds_toArray, List.set_cons_zero, List.set_cons_succ]
      refine wpAnyH_ready (rs := [7]) (by kernel_rfl) (by simp) ?_
      refine AllReadyH.cons (o := _) rfl (fun K hK => ?_) AllReadyH.nil
      go_simp
      refine (putText_any tX _ HS2.out).mono ?_
      rintro e Z3 ⟨rfl, hbc⟩
      have HZ3 := hide (HZ2.out.trans (hbc.mono HZ2.out.size))
      clear hbc
      refine hK.out _ _ (HSS.out _ HZ3.out) (fun _ => ?_)
      clear hK K HS
      have HS := hide (HSS.out _ HZ3.out)
      try simp only [Act.put, List.getElem_toArray, List.getElem_cons_zero, List.getElem_cons_succ, List.setIfInBounds_toArray, List.set_cons_zero, List.set_cons_succ]
      refine wpAnyH_ready (rs := [8]) (by kernel_rfl) (by simp) ?_
      refine AllReadyH.cons (o := _) rfl (fun K hK => ?_) AllReadyH.nil
      go_simp
      have HZ4 := hide (HZ3.out.alloc HZ3.out.size (.cells #[.string (txtB iD), .string (txtB tX)] 9))
      have HR1 := hide (row_new Z3 [.string (txtB iD), .string (txtB tX)] 9)
      refine hK.out _ _ (HSS.out _ HZ4.out) (fun _ => ?_)
      clear hK K HS
      generalize hZ : Z3.alloc (.cells #[.string (txtB iD), .string (txtB tX)] 9) = Z4 at HZ4 HR1 ⊢
      generalize Z3.heap.size = E5 at HR1 ⊢
      clear hZ
      have HS := hide (HSS.out _ HZ4.out)
      try simp only [Act.put, List.getElem_toArray, List.getElem_cons_zero, List.getElem_cons_succ, List.setIfInBounds_toArray, List.set_cons_zero, List.set_cons_succ]
      have HOZ := hide (own_belowX HOw.out HZ4.out)
      have HOI := hide (own_belowX HIds.out HZ4.out)
      have HSZ := hide (show w.heap.size ≤ Z4.heap.size from Nat.le_trans HB.out.size HZ4.out.size)
      have hnews : ∀ (j : Nat) u, ([Value.string (txtB iD), Value.string (txtB tX)] : List Value)[j]? = some u → Z4.cell? ((⟨E5, 0, none⟩ : Addr).add j) = some u := fun j u hu => by
        rw [Addr.add_lit, Nat.zero_add, HR1.out.cell]; exact hu
      have HNW := hide hnews
      clear hnews
      refine wpAnyH_ready (rs := [9]) (by kernel_rfl) (by simp) ?_
      refine AllReadyH.cons (o := _) rfl (fun K hK => ?_) AllReadyH.nil
      refine step_own (w := Z4) rfl (.tmp 17) (.tmp 25) 22 rfl w.heap.size 9 i0 _ 1 16 Tryz.underlying22 hi hz0 hz1 hz2 HZC.out (by omega) _ (1 + 2 * k) (strs (piecesL hd (L.take k))) rfl HOZ.out ⟨E5, 0, none⟩ 2 _ [.string (txtB iD), .string (txtB tX)] rfl rfl HNW.out (by simp [Value.oneCell']) (by unfold maxLen; omega) (by omega) HSZ.out ?_
      intro v9 Z9 hown9 hgrow hat
      obtain ⟨pv, cv, hv9⟩ := own_sliceX hown9
      subst hv9
      have HB9 := hide ((HB.out.trans (HZ4.out.mono HB.out.size)).grown hgrow HSZ.out (fun g hg => (HOZ.out.lt g hg).1))
      have HI9 := hide (HOI.out.kept hgrow (.inr (fun e => HNE.out gi e.symm rfl)))
      have HO9 := hide (show Z9.ownsRow w.heap.size 9 1 (.slice pv (1 + 2 * (k + 1)) cv) (1 + 2 * (k + 1)) (strs (piecesL hd (L.take (k + 1)))) by
        have e : strs (piecesL hd (L.take (k + 1))) = strs (piecesL hd (L.take k)) ++ [.string (txtB iD), .string (txtB tX)] := by rw [HPS.out]; simp [strs]
        rw [e, show 1 + 2 * (k + 1) = 1 + 2 * k + 2 by omega]
        exact hown9)
      have HN9 := hide (show ∀ g, (Value.slice pv (1 + 2 * (k + 1)) cv).ownBlock = some g → (Value.slice (some ⟨gi, 0, none⟩) L.length ci).ownBlock ≠ some g from fun g hg => by
        have hgI : gi < Z4.heap.size := (HOI.out.lt gi rfl).2
        rcases hat with h | h
        · exact HNE.out g (h.symm.trans hg)
        · intro e
          have e1 : some g = some Z4.heap.size := hg.symm.trans h
          have e2 : some gi = some g := e
          have := Option.some.inj e1
          have := Option.some.inj e2
          omega)
      clear hown9 hgrow hat
      have HS9 := hide (show MapIs Z9 b nn L from HM.out.below HB9.out HBL.out)
      refine hK.out _ _ HS9.out (fun _ => ?_)
      clear hK K HS
      have HS := HS9
      try simp only [Act.put, List.getElem_toArray, List.getElem_cons_zero, List.getElem_cons_succ, List.setIfInBounds_toArray, List.set_cons_zero, List.set_cons_succ]
      refine wpAnyH_take (i := 10) (oi := _) (v := .slice pv (1 + 2 * k + 2) cv) rfl (by kernel_rfl) (by kernel_rfl) (by kernel_rfl) (fun _ _ _ h => h) (Or.inl ⟨by rfl, by intro w hSw; go_split_ands; go_simp⟩) HS.out ?_
      simp only [Act.put, List.getElem_toArray, List.getElem_cons_zero, List.getElem_cons_succ, List.setIfInBounds_toArray, List.set_cons_zero, List.set_cons_succ]
      refine wpAnyH_done (by kernel_rfl) ?_ _
      rw [show 1 + 2 * k + 2 = 1 + 2 * (k + 1) by omega]
      go_wp2
      go_roundw
      case rel => exact ⟨Z9, k + 1, _, _, rfl, rfl, by omega, by go_num, HO9, HI9, HB9, HN9⟩
      case measure => simp [intOf]; omega
    · have hkn : k = L.length := by omega
      subst hkn
      have HFI := hide (show ((piecesL hd L).map (·.data.toList)).flatten = (storeB L).data.toList by rw [← piecesL_flat, HHD.out])
      have HFS := hide (storeB_len HO.out hl)
      have HOE := hide (show X.ownsRow w.heap.size 9 1 (.slice pp (1 + 2 * L.length) cp) (piecesL hd L).length (strs (piecesL hd L)) by
        have := HOw.out
        rw [List.take_length] at this
        rw [piecesL_len]
        exact this)
      go_wp2_with fail
      refine (together_own w.heap.size _ (piecesL hd L) _ HOE.out (by rw [piecesL_len]; omega) (by rw [piecesL_len]; omega) (by rw [HFI.out]; exact HFS.out)).mono ?_
      rw [HFI.out]
      rintro e w4 ⟨rfl, hb4⟩
      have HB4 := hide (HB.out.trans (hb4.mono HB.out.size))
      clear hb4
      go_wp2
      go_ret
      exact ⟨by rw [bytes_back]; rfl, HB4.out⟩
set_option maxHeartbeats 4000000 in
theorem storeText_nil (w : World) :
    Calls Tryz.prog 83 #[.map none] w fun e w' => e = .returned (.string (storeB [])) ∧ Below w.heap.size w w' := by
  have hlen : ∀ ty, (Builtin.len_ #[54] ty #[.map none]).run Tryz.prog w = .ok (.int .i64 0) w := fun ty => Go.Maps.len_nil Tryz.underlying54 ty
  obtain ⟨hd, hhd⟩ : ∃ hd, hd = numText 0 := ⟨_, rfl⟩
  have HHD := hide hhd
  clear hhd
  go_enter Tryz.func83, Tryz.ntmps83
  go_wp2_with fail
  refine (putNum_any 0 _ (by omega) (by omega)).mono ?_
  rw [← HHD.out]
  rintro e w1 ⟨rfl, hb1⟩
  have HO1 := hide (show (w1.alloc (.cells #[.string hd] 9)).ownsRow w.heap.size 9 1 (.slice (some ⟨w1.heap.size, 0, none⟩) 1 1) 1 [.string hd] from by
    have := World.ownsRow_lit (e := 9) (base := w.heap.size) (size := 1) w1 #[.string hd] 1 hb1.size (by unfold maxLen; omega) rfl
    simpa using this)
  have HB2 := hide (show Below w.heap.size w (w1.alloc (.cells #[.string hd] 9)) from hb1.alloc hb1.size _)
  clear hb1 hlen
  go_wp2_with fail
  refine (idsOf_nil _).mono ?_
  rintro e w3 ⟨rfl, hb3⟩
  have HB3 := hide (HB2.out.trans (hb3.mono HB2.out.size))
  have HO3 := hide (own_belowX HO1.out hb3)
  clear hb3
  have HFI := hide (show (([hd] : List ByteArray).map (·.data.toList)).flatten = (storeB []).data.toList by rw [← piecesL_flat, HHD.out]; rfl)
  have HFS := hide (show (storeB []).data.toList.length ≤ 200000 by
    have h1 := storeB_size (L := []) (by simp) (by simp)
    have e : (storeB []).data.toList.length = (storeB []).size := by simp
    omega)
  go_wp2
  refine wp_loop_rounds 1 ?_
  rw [rounds_succ]
  go_wp2_with fail
  refine (together_own w.heap.size _ [hd] _ HO3.out (by simp) (by simp) (by rw [HFI.out]; exact HFS.out)).mono ?_
  rw [HFI.out]
  rintro e w4 ⟨rfl, hb4⟩
  have HB4 := hide (HB3.out.trans (hb4.mono HB3.out.size))
  clear hb4
  go_wp2
  go_ret
  exact ⟨by rw [bytes_back]; rfl, HB4.out⟩
end Go.Proofs.YtnpbmaajgiapmaaGreatDoor
