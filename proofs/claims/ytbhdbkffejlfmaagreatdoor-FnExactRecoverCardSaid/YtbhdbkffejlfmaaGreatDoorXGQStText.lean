/- storeText of the program: a map as bytes. -/
import Derived.Test.YtbhdbkffejlfmaaGreatDoorXGQMap
import Derived.Test.YtbhdbkffejlfmaaGreatDoorXGShelf
import Derived.OrdersHeld
import Derived.Deep.RegionHeld3
import Derived.Deep.DeepCutAuto
namespace Go.Proofs.YtbhdbkffejlfmaaGreatDoor
open Go.RowKit
theorem step_own {P : Program} {ops : Array Oper} {o : Oper} {a : Act} {w : World} {K : Act → World → Prop} {Q : Exit → Act → World → Prop} {E : Prop} (hgd : o.guard = none) (s x : Operand) (t : TypeId)
    (ho : o.op = .call { callee := .builtin .append, args := #[s, x], argTypes := #[t, t] })
    (base : Nat) (e : TypeId) (i : TypeInfo) (z : Value) (size bytes : Nat) (ht : P.underlying t = some (.slice e)) (hi : P.info? e = some i) (hz : i.zero = some z)
    (hsize : i.size = size) (hby : i.bytes = bytes) (hzs : z.cells.size = size) (hsz : 0 < size)
    (v : Value) (n : Nat) (xs : List Value) (hs : a.eval s = v) (hown : w.ownsRow base e size v n xs)
    (ad : Addr) (m c : Nat) (news : List Value) (hx : a.eval x = .slice (some ad) m c) (hl : news.length = m * size) (hnews : ∀ j u, news[j]? = some u → w.cell? (ad.add j) = some u) (h1 : ∀ u ∈ news, u.oneCell' = true)
    (h63 : n + m ≤ maxLen) (hbytes : (n + m) * bytes ≤ 140737488355328) (hbase : base ≤ w.heap.size)
    (h : ∀ v' w', w'.ownsRow base e size v' (n + m) (xs ++ news) → w.grownBy w' v.ownBlock → (v'.ownBlock = v.ownBlock ∨ v'.ownBlock = some w.heap.size) → K (a.put o.dst v') w') :
    if Region.wanted o (yielded ops a.tmps) = true then Oper.wp P o a w K Q else E := by
  have hw : Region.wanted o (yielded ops a.tmps) = true := by simp [Region.wanted, hgd]
  rw [if_pos hw]
  obtain ⟨v', w', hr, h2, h3, h4, h5⟩ := run_append_own_at (P := P) w base t o.type e i z size bytes ht hi hz hsize hby hzs hsz v n xs hown ad m c news hl hnews h1 h63 hbytes hbase
  unfold Oper.wp execOp
  simp only [ho, resolve, invoke, builtin, Sem.run_bind, Sem.run_pure, Result.andThen_ok, List.map_toArray, List.map_cons, List.map_nil, hs, hx, hr]
  exact h v' w' h2 h3 h5
theorem own_sliceX {w : World} {B : Nat} {T : TypeId} {sz n : Nat} {v : Value} {xs : List Value} (h : w.ownsRow B T sz v n xs) : ∃ p c, v = .slice p n c := by
  obtain ⟨_, ⟨rfl, rfl⟩ | ⟨g, cap, cur, rfl, _⟩⟩ := h
  · exact ⟨none, 0, rfl⟩
  · exact ⟨_, cap, rfl⟩
theorem own_belowX {w w' : World} {B n sz : Nat} {T : TypeId} {v : Value} {xs : List Value} (h : w.ownsRow B T sz v n xs) (hb : Below w.heap.size w w') : w'.ownsRow B T sz v n xs := by
  obtain ⟨h1, h2⟩ := h
  refine ⟨h1, ?_⟩
  rcases h2 with h2 | ⟨g, cap, cur, rfl, hB, hh, h3⟩
  · exact .inl h2
  · exact .inr ⟨g, cap, cur, rfl, hB, by rw [hb.block g (Array.getElem?_eq_some_iff.1 hh).1]; exact hh, h3⟩
theorem join_none (xs : List (List UInt8)) : Lib.join xs [] = xs.flatten := by
  induction xs with
  | nil => rfl
  | cons x r ih => rw [Lib.join_cons]; simp [Lib.joinTail]
/-- Pieces put together, out of a row of the caller's own. -/
theorem together_own (base : Nat) (v : Value) (xs : List ByteArray) (w : World) (hown : w.ownsRow base 9 1 v xs.length (strs xs)) (h0 : 0 < xs.length) (hN : xs.length ≤ 100) (hlen : ((xs.map (·.data.toList)).flatten).length ≤ 200000) :
    Calls Tryz.prog 105 #[v] w fun e w' => e = .returned (.string ⟨((xs.map (·.data.toList)).flatten).toArray⟩) ∧ Below w.heap.size w w' := by
  have hown' := hown
  obtain ⟨_, ⟨_, h1⟩ | ⟨g, cap, cur, rfl, _, hh, hcap, hcm, _, _⟩⟩ := hown'
  · omega
  have H := hide (show Lib.join (xs.map (·.data.toList)) (⟨#[]⟩ : ByteArray).data.toList = (xs.map (·.data.toList)).flatten from join_none _)
  have hc : ∀ (j : Nat) x, xs[j]? = some x → w.cell? ⟨g, 0 + j, none⟩ = some (.string x) := fun j x h => by
    have hj : j < xs.length := (List.getElem?_eq_some_iff.1 h).1
    rw [Nat.zero_add, hown.cellAt j (by omega)]
    simp [strs, h]
  have HC := hide (Tryz.strings_Join g 0 cap xs ⟨#[]⟩ w hc (Array.getElem?_eq_some_iff.1 hh).1 (by omega) hcap (by rw [H.out]; omega))
  clear hc hown hh
  go_enter Tryz.func105, Tryz.ntmps105
  go_wp2_with fail
  refine HC.out.mono ?_
  rintro e w1 ⟨rfl, hb1⟩
  rw [H.out]
  have HB := hide hb1
  clear hb1
  go_wp2
  go_ret
  exact ⟨rfl, HB.out⟩
theorem putText_any (s : ByteArray) (w : World) (hs : s.size ≤ 8000) : Calls Tryz.prog 104 #[.string s] w fun e w' => e = .returned (.string (txtB s)) ∧ Below w.heap.size w w' := St4.implPutText_any s w hs
theorem putNum_any (n : Int) (w : World) (h0 : -9223372036854775808 ≤ n) (h1 : n ≤ 9223372036854775807) : Calls Tryz.prog 102 #[.int .i64 n] w fun e w' => e = .returned (.string (numText n)) ∧ Below w.heap.size w w' := St2.implPutNum_any n w h0 h1
def piecesL (h : ByteArray) (L : List Item) : List ByteArray := h :: L.flatMap fun x => [txtB x.1, txtB x.2]
theorem piecesL_len (h : ByteArray) (L : List Item) : (piecesL h L).length = 1 + 2 * L.length := by
  unfold piecesL
  induction L with
  | nil => rfl
  | cons x r ih => simp [List.flatMap_cons] at ih ⊢; omega
theorem piecesL_flat (L : List Item) : ((piecesL (numText L.length) L).map (·.data.toList)).flatten = (storeB L).data.toList := by
  unfold storeB
  rw [catB_list]
  unfold piecesL
  simp only [List.map_cons, List.flatten_cons]
  congr 1
  generalize L = M
  induction M with
  | nil => rfl
  | cons x r ih => simp [flatL, List.flatMap_cons, ih]
theorem piecesL_next (h : ByteArray) (L : List Item) (k : Nat) (hk : k < L.length) : piecesL h (L.take (k + 1)) = piecesL h (L.take k) ++ [txtB (L[k]'hk).1, txtB (L[k]'hk).2] := by
  unfold piecesL
  rw [List.take_succ_eq_append_getElem hk, List.flatMap_append]
  simp
theorem OkI.id {x : Item} (h : OkI x) : x.1.size ≤ 20 := by
  rcases Nat.lt_or_ge 20 x.1.size with h1 | h1
  · have := h.1; rw [idB_long _ h1] at this; cases this
  · exact h1
theorem txtB_size (t : ByteArray) : (txtB t).size ≤ t.size + 10 := by
  unfold txtB
  have := numText_size t.size
  simp
  omega
theorem flatL_len : ∀ (L : List Item), (∀ x ∈ L, OkI x) → (flatL L).length ≤ L.length * 8040
  | [], _ => by simp [flatL]
  | x :: r, h => by
    have h1 := flatL_len r (fun y hy => h y (List.mem_cons_of_mem _ hy))
    have h2 := (h x (List.mem_cons_self ..)).id
    have h3 := (h x (List.mem_cons_self ..)).2
    have h4 := txtB_size x.1
    have h5 := txtB_size x.2
    rw [flatL]
    simp only [List.length_append, List.length_cons, Array.length_toList]
    have e1 : (txtB x.1).data.size = (txtB x.1).size := rfl
    have e2 : (txtB x.2).data.size = (txtB x.2).size := rfl
    omega
theorem storeB_size {L : List Item} (h : ∀ x ∈ L, OkI x) (hl : L.length ≤ 20) : (storeB L).size ≤ 170000 := by
  have e : (storeB L).size = (storeB L).data.toList.length := by simp
  rw [e]
  unfold storeB
  rw [catB_list]
  have h1 := flatL_len L h
  have h2 := numText_size (L.length : Int)
  have e2 : (numText (L.length : Int)).data.size = (numText (L.length : Int)).size := rfl
  simp only [List.length_append, Array.length_toList]
  omega
theorem storeB_len {L : List Item} (h : ∀ x ∈ L, OkI x) (hl : L.length ≤ 20) : (storeB L).data.toList.length ≤ 200000 := by
  have h1 := storeB_size h hl
  have e : (storeB L).data.toList.length = (storeB L).size := by simp
  omega
theorem bytes_back (s : ByteArray) : (⟨s.data.toList.toArray⟩ : ByteArray) = s := by simp
theorem fieldT (t : ByteArray) (w : World) : (Instr.field 82 (.agg #[.string t]) 0).run Tryz.prog w = .ok (.string t) w := by kernel_rfl
theorem find_at {L : List Item} (hr : Rises L) (k : Nat) (hk : k < L.length) : L.find? (sameId (L[k]'hk).1) = some (L[k]'hk) := by
  rw [List.find?_eq_some_iff_getElem]
  refine ⟨sameId_iff.2 rfl, k, hk, rfl, fun j hj => ?_⟩
  have h1 := List.pairwise_iff_getElem.1 hr j k (by omega) hk hj
  have h2 : ¬ sameId (L[k]'hk).1 (L[j]'(by omega)) = true := fun e => ltB_ne h1 (sameId_iff.1 e)
  simpa using h2

set_option maxHeartbeats 8000000 in
set_option maxRecDepth 100000 in
theorem storeText_own (b nn : Nat) (L : List Item) (w : World) (h : MapIs w b nn L) (hr : Rises L) (ho : ∀ x ∈ L, OkI x) (hl : L.length ≤ 20) :
    Calls Tryz.prog 74 #[.map (some b)] w fun e w' => e = .returned (.string (storeB L)) ∧ Below w.heap.size w w' := by
  obtain ⟨i0, hi, hz0, hz1, hz2⟩ := info_parts Tryz.infoStr
  have HZC := hide (show (Value.string ⟨#[]⟩).cells.size = 1 from rfl)
  have hlen : ∀ ty, (Builtin.len_ #[75] ty #[.map (some b)]).run Tryz.prog w = .ok (.int .i64 (L.length : Int)) w := fun ty => by
    have := World.ownsMap.len h Tryz.underlying75 ty
    rw [datL_size] at this
    exact this
  have HM := hide h
  have HBL := hide h.lt
  have HR := hide hr
  have HO := hide ho
  obtain ⟨hd, hhd⟩ : ∃ hd, hd = numText (L.length : Int) := ⟨_, rfl⟩
  have HHD := hide hhd
  clear h hr ho hhd
  go_enter Tryz.func74, Tryz.ntmps74
  go_wp2_with fail
  refine (putNum_any (L.length : Int) _ (by omega) (by omega)).mono ?_
  rw [← HHD.out]
  rintro e w1 ⟨rfl, hb1⟩
  have HB1 := hide hb1
  have HO1 := hide (show (w1.alloc (.cells #[.string hd] 9)).ownsRow w.heap.size 9 1 (.slice (some ⟨w1.heap.size, 0, none⟩) 1 1) 1 [.string hd] from by
    have := World.ownsRow_lit (e := 9) (base := w.heap.size) (size := 1) w1 #[.string hd] 1 hb1.size (by unfold maxLen; omega) rfl
    simpa using this)
  have HB2 := hide (show Below w.heap.size w (w1.alloc (.cells #[.string hd] 9)) from hb1.alloc hb1.size _)
  have HM2 := hide (HM.out.below HB2.out HBL.out)
  clear hb1 hlen
  go_wp2_with fail
  refine (idsOf_any b nn L _ HM2.out HR.out (by omega)).mono ?_
  rintro e w3 ⟨v, rfl, hids, hnil, hb3⟩
  have HB3 := hide (HB2.out.trans (hb3.mono HB2.out.size))
  have HO3 := hide (own_belowX HO1.out hb3)
  obtain ⟨pi, ci, rfl⟩ := own_sliceX hids
  have HPN := hide (show ∀ g, (Value.slice (some ⟨w1.heap.size, 0, none⟩) 1 1).ownBlock = some g → (Value.slice pi L.length ci).ownBlock ≠ some g from fun g hg e => by
    have h1 := (hids.lt g e).1
    simp at h1
    have h2 : some w1.heap.size = some g := hg
    have := Option.some.inj h2
    omega)
  have HIds3 := hide (show w3.ownsRow w.heap.size 9 1 (.slice pi L.length ci) L.length (strs (L.map (·.1))) from by
    obtain ⟨g1, g2⟩ := hids
    refine ⟨g1, ?_⟩
    rcases g2 with g2 | ⟨g, cap, cur, e1, e2, e3⟩
    · exact .inl g2
    · exact .inr ⟨g, cap, cur, e1, Nat.le_trans (Nat.le_trans HB1.out.size (by simp)) e2, e3⟩)
  clear hids hnil hb3
  by_cases hx0 : L.length = 0
  · have hL : L = [] := List.eq_nil_of_length_eq_zero hx0
    have HLH := hide hL
    have HFI := hide (show (([hd] : List ByteArray).map (·.data.toList)).flatten = (storeB L).data.toList by rw [← piecesL_flat, hL, HHD.out, hL]; rfl)
    have HFS := hide (storeB_len HO.out hl)
    rw [hx0]
    clear hL
    go_wp2
    refine wp_loop_rounds 1 ?_
    rw [rounds_succ]
    go_wp2_with fail
    refine (together_own w.heap.size _ [hd] _ HO3.out (by simp) (by simp) (by rw [HFI.out]; exact HFS.out)).mono ?_
    rw [HFI.out]
    rintro e w4 ⟨rfl, hb4⟩
    have HB4 := hide (HB3.out.trans (hb4.mono HB3.out.size))
    clear hb4
    go_wp2
    go_ret
    exact ⟨by rw [bytes_back]; rfl, HB4.out⟩
  obtain ⟨gi, rfl⟩ : ∃ gi, pi = some ⟨gi, 0, none⟩ := by
    obtain ⟨_, ⟨_, h1⟩ | ⟨g, cap, cur, e1, _⟩⟩ := HIds3.out
    · omega
    · cases e1; exact ⟨_, rfl⟩
  go_wp2
  go_loopw [3, 13] (fun l i wr => ∃ (X : World) (k : Nat) (pp : Option Addr) (cp : Nat), X = wr ∧ l = .slice pp (1 + 2 * k) cp ∧ k ≤ L.length ∧ i = .int .i64 (k : Int) ∧ Hid (X.ownsRow w.heap.size 9 1 (.slice pp (1 + 2 * k) cp) (1 + 2 * k) (strs (piecesL hd (L.take k)))) ∧ Hid (X.ownsRow w.heap.size 9 1 (.slice (some ⟨gi, 0, none⟩) L.length ci) L.length (strs (L.map (·.1)))) ∧ Hid (Below w.heap.size w X) ∧
    Hid (∀ g, (Value.slice pp (1 + 2 * k) cp).ownBlock = some g → (Value.slice (some ⟨gi, 0, none⟩) L.length ci).ownBlock ≠ some g)) (fun _ i _ => L.length - (intOf i).toNat)
  case atStart => exact ⟨_, 0, _, _, rfl, rfl, Nat.zero_le _, rfl, HO3, HIds3, HB3, HPN⟩
  case round =>
    obtain ⟨X, k, pp, cp, rfl, rfl, hk, rfl, HOw, HIds, HB, HNE⟩ := hrel
    by_cases hlt : k < L.length
    · have hki : (k : Int) < (L.length : Int) := by omega
      have HPS := hide (piecesL_next hd L k hlt)
      have HFD := hide (find_at HR.out k hlt)
      have hox := HO.out _ (List.getElem_mem hlt)
      have HC := hide (show X.cell? ⟨gi, k, none⟩ = some (.string (L[k]'hlt).1) by
        rw [HIds.out.cellAt k (by omega)]
        simp [strs, hlt])
      obtain ⟨x, hx⟩ : ∃ x, x = L[k]'hlt := ⟨_, rfl⟩
      rw [← hx] at HPS HFD HC hox
      clear hx
      obtain ⟨iD, tX⟩ := x
      have HS1 := hide (show iD.size ≤ 8000 from Nat.le_trans hox.id (by omega))
      have HSI := hide (show iD.size ≤ maxLen from Nat.le_trans hox.id (by unfold maxLen; omega))
      have HS2 := hide (show tX.size ≤ 8000 from hox.2)
      clear hox
      have hc1 : X.cell? ⟨gi, k, none⟩ = some (.string iD) := HC.out
      go_upto_region 5 with fail
      clear hc1
      refine wp_region_held (S := fun y : World => MapIs y b nn L) (by kernel_rfl) ?_
      have HSS := hide (show ∀ y : World, Below X.heap.size X y → MapIs y b nn L from fun y hb => (HM.out.below HB.out HBL.out).below hb (Nat.lt_of_lt_of_le HBL.out HB.out.size))
      have HZ1 := hide (show Below X.heap.size X { X with drawn := X.drawn + 1 } from (Below.refl _ X).drew)
      generalize ({ X with drawn := X.drawn + 1 } : World) = Z1 at HZ1 ⊢
      have HS := hide (HSS.out _ HZ1.out)
      refine wpAnyH_take (i := 0) (oi := _) (v := .slice pp (1 + 2 * k) cp) rfl (by kernel_rfl) (by kernel_rfl) (by kernel_rfl) (fun _ _ _ h => h) (Or.inl ⟨by rfl, by intro w hSw; go_split_ands; go_simp⟩) HS.out ?_
      simp only [Act.put, List.getElem_toArray, List.getElem_cons_zero, List.setIfInBounds_toArray, List.set_cons_zero, List.set_cons_succ]
      refine wpAnyH_take (i := 1) (oi := _) (v := .string iD) rfl (by kernel_rfl) (by kernel_rfl) (by kernel_rfl) (fun _ _ _ h => h) (Or.inl ⟨by rfl, by intro w hSw; go_split_ands; go_simp⟩) HS.out ?_
      simp only [Act.put, List.getElem_toArray, List.getElem_cons_zero, List.getElem_cons_succ, List.setIfInBounds_toArray, List.set_cons_zero, List.set_cons_succ]
      refine wpAnyH_take (i := 3) (oi := _) (v := .map (some b)) rfl (by kernel_rfl) (by kernel_rfl) (by kernel_rfl) (fun _ _ _ h => h) (Or.inl ⟨by rfl, by intro w hSw; go_split_ands; go_simp⟩) HS.out ?_
      simp only [Act.put, List.getElem_toArray, List.getElem_cons_zero, List.getElem_cons_succ, List.setIfInBounds_toArray, List.set_cons_zero, List.set_cons_succ]
      refine wpAnyH_take (i := 4) (oi := _) (v := .string iD) rfl (by kernel_rfl) (by kernel_rfl) (by kernel_rfl) (fun _ _ _ h => h) (Or.inl ⟨by rfl, by intro w hSw; go_split_ands; go_simp⟩) HS.out ?_
      simp only [Act.put, List.getElem_toArray, List.getElem_cons_zero, List.getElem_cons_succ, List.setIfInBounds_toArray, List.set_cons_zero, List.set_cons_succ]
      refine wpAnyH_take (i := 5) (oi := _) (v := .agg #[.string tX]) rfl (by kernel_rfl) (by kernel_rfl) (by kernel_rfl) (fun _ _ _ h => h) (Or.inl ⟨by rfl, by intro w hSw; go_split_ands; have hlk := look_any hSw iD HSI.out; rw [HFD.out] at hlk; go_simp⟩) HS.out ?_
      simp only [Act.put, List.getElem_toArray, List.getElem_cons_zero, List.getElem_cons_succ, List.setIfInBounds_toArray, List.set_cons_zero, List.set_cons_succ]
      refine wpAnyH_take (i := 6) (oi := _) (v := .string tX) rfl (by kernel_rfl) (by kernel_rfl) (by kernel_rfl) (fun _ _ _ h => h) (Or.inl ⟨by rfl, by intro w hSw; go_split_ands; have hfl := fieldT tX w; go_simp⟩) HS.out ?_
      simp only [Act.put, List.getElem_toArray, List.getElem_cons_zero, List.getElem_cons_succ, List.setIfInBounds_toArray, List.set_cons_zero, List.set_cons_succ]
      refine wpAnyH_ready (rs := [2]) (by kernel_rfl) (by simp) ?_
      refine AllReadyH.cons (o := _) rfl (fun K hK => ?_) AllReadyH.nil
      go_simp
      refine (putText_any iD _ HS1.out).mono ?_
      rintro e Z2 ⟨rfl, hbc⟩
      have HZ2 := hide (HZ1.out.trans (hbc.mono HZ1.out.size))
      clear hbc
      refine hK.out _ _ (HSS.out _ HZ2.out) (fun _ => ?_)
      clear hK K HS
      have HS := hide (HSS.out _ HZ2.out)
      try simp only [Act.put, List.getElem_toArray, List.getElem_cons_zero, List.getElem_cons_succ, List.setIfInBounds_toArray, List.set_cons_zero, List.set_cons_succ]
      refine wpAnyH_ready (rs := [7]) (by kernel_rfl) (by simp) ?_
      refine AllReadyH.cons (o := _) rfl (fun K hK => ?_) AllReadyH.nil
      go_simp
      refine (putText_any tX _ HS2.out).mono ?_
      rintro e Z3 ⟨rfl, hbc⟩
      have HZ3 := hide (HZ2.out.trans (hbc.mono HZ2.out.size))
      clear hbc
      refine hK.out _ _ (HSS.out _ HZ3.out) (fun _ => ?_)
      clear hK K HS
      have HS := hide (HSS.out _ HZ3.out)
      try simp only [Act.put, List.getElem_toArray, List.getElem_cons_zero, List.getElem_cons_succ, List.setIfInBounds_toArray, List.set_cons_zero, List.set_cons_succ]
      refine wpAnyH_ready (rs := [8]) (by kernel_rfl) (by simp) ?_
      refine AllReadyH.cons (o := _) rfl (fun K hK => ?_) AllReadyH.nil
      go_simp
      have HZ4 := hide (HZ3.out.alloc HZ3.out.size (.cells #[.string (txtB iD), .string (txtB tX)] 9))
      have HR1 := hide (row_new Z3 [.string (txtB iD), .string (txtB tX)] 9)
      refine hK.out _ _ (HSS.out _ HZ4.out) (fun _ => ?_)
      clear hK K HS
      generalize hZ : Z3.alloc (.cells #[.string (txtB iD), .string (txtB tX)] 9) = Z4 at HZ4 HR1 ⊢
      generalize Z3.heap.size = E5 at HR1 ⊢
      clear hZ
      have HS := hide (HSS.out _ HZ4.out)
      try simp only [Act.put, List.getElem_toArray, List.getElem_cons_zero, List.getElem_cons_succ, List.setIfInBounds_toArray, List.set_cons_zero, List.set_cons_succ]
      have HOZ := hide (own_belowX HOw.out HZ4.out)
      have HOI := hide (own_belowX HIds.out HZ4.out)
      have HSZ := hide (show w.heap.size ≤ Z4.heap.size from Nat.le_trans HB.out.size HZ4.out.size)
      have hnews : ∀ (j : Nat) u, ([Value.string (txtB iD), Value.string (txtB tX)] : List Value)[j]? = some u → Z4.cell? ((⟨E5, 0, none⟩ : Addr).add j) = some u := fun j u hu => by
        rw [Addr.add_lit, Nat.zero_add, HR1.out.cell]; exact hu
      have HNW := hide hnews
      clear hnews
      refine wpAnyH_ready (rs := [9]) (by kernel_rfl) (by simp) ?_
      refine AllReadyH.cons (o := _) rfl (fun K hK => ?_) AllReadyH.nil
      refine step_own (w := Z4) rfl (.tmp 17) (.tmp 25) 22 rfl w.heap.size 9 i0 _ 1 16 Tryz.underlying22 hi hz0 hz1 hz2 HZC.out (by omega) _ (1 + 2 * k) (strs (piecesL hd (L.take k))) rfl HOZ.out ⟨E5, 0, none⟩ 2 _ [.string (txtB iD), .string (txtB tX)] rfl rfl HNW.out (by simp [Value.oneCell']) (by unfold maxLen; omega) (by omega) HSZ.out ?_
      intro v9 Z9 hown9 hgrow hat
      obtain ⟨pv, cv, hv9⟩ := own_sliceX hown9
      subst hv9
      have HB9 := hide ((HB.out.trans (HZ4.out.mono HB.out.size)).grown hgrow HSZ.out (fun g hg => (HOZ.out.lt g hg).1))
      have HI9 := hide (HOI.out.kept hgrow (.inr (fun e => HNE.out gi e.symm rfl)))
      have HO9 := hide (show Z9.ownsRow w.heap.size 9 1 (.slice pv (1 + 2 * (k + 1)) cv) (1 + 2 * (k + 1)) (strs (piecesL hd (L.take (k + 1)))) by
        have e : strs (piecesL hd (L.take (k + 1))) = strs (piecesL hd (L.take k)) ++ [.string (txtB iD), .string (txtB tX)] := by rw [HPS.out]; simp [strs]
        rw [e, show 1 + 2 * (k + 1) = 1 + 2 * k + 2 by omega]
        exact hown9)
      have HN9 := hide (show ∀ g, (Value.slice pv (1 + 2 * (k + 1)) cv).ownBlock = some g → (Value.slice (some ⟨gi, 0, none⟩) L.length ci).ownBlock ≠ some g from fun g hg => by
        have hgI : gi < Z4.heap.size := (HOI.out.lt gi rfl).2
        rcases hat with h | h
        · exact HNE.out g (h.symm.trans hg)
        · intro e
          have e1 : some g = some Z4.heap.size := hg.symm.trans h
          have e2 : some gi = some g := e
          have := Option.some.inj e1
          have := Option.some.inj e2
          omega)
      clear hown9 hgrow hat
      have HS9 := hide (show MapIs Z9 b nn L from HM.out.below HB9.out HBL.out)
      refine hK.out _ _ HS9.out (fun _ => ?_)
      clear hK K HS
      have HS := HS9
      try simp only [Act.put, List.getElem_toArray, List.getElem_cons_zero, List.getElem_cons_succ, List.setIfInBounds_toArray, List.set_cons_zero, List.set_cons_succ]
      refine wpAnyH_take (i := 10) (oi := _) (v := .slice pv (1 + 2 * k + 2) cv) rfl (by kernel_rfl) (by kernel_rfl) (by kernel_rfl) (fun _ _ _ h => h) (Or.inl ⟨by rfl, by intro w hSw; go_split_ands; go_simp⟩) HS.out ?_
      simp only [Act.put, List.getElem_toArray, List.getElem_cons_zero, List.getElem_cons_succ, List.setIfInBounds_toArray, List.set_cons_zero, List.set_cons_succ]
      refine wpAnyH_done (by kernel_rfl) ?_ _
      rw [show 1 + 2 * k + 2 = 1 + 2 * (k + 1) by omega]
      go_wp2
      go_roundw
      case rel => exact ⟨Z9, k + 1, _, _, rfl, rfl, by omega, by go_num, HO9, HI9, HB9, HN9⟩
      case measure => simp [intOf]; omega
    · have hkn : k = L.length := by omega
      subst hkn
      have HFI := hide (show ((piecesL hd L).map (·.data.toList)).flatten = (storeB L).data.toList by rw [← piecesL_flat, HHD.out])
      have HFS := hide (storeB_len HO.out hl)
      have HOE := hide (show X.ownsRow w.heap.size 9 1 (.slice pp (1 + 2 * L.length) cp) (piecesL hd L).length (strs (piecesL hd L)) by
        have := HOw.out
        rw [List.take_length] at this
        rw [piecesL_len]
        exact this)
      go_wp2_with fail
      refine (together_own w.heap.size _ (piecesL hd L) _ HOE.out (by rw [piecesL_len]; omega) (by rw [piecesL_len]; omega) (by rw [HFI.out]; exact HFS.out)).mono ?_
      rw [HFI.out]
      rintro e w4 ⟨rfl, hb4⟩
      have HB4 := hide (HB.out.trans (hb4.mono HB.out.size))
      clear hb4
      go_wp2
      go_ret
      exact ⟨by rw [bytes_back]; rfl, HB4.out⟩
end Go.Proofs.YtbhdbkffejlfmaaGreatDoor

/- The bytes of items, of the model. -/
namespace Go.Proofs.YtbhdbkffejlfmaaGreatDoor
open Go.RowKit
theorem putTextS_any (s : ByteArray) (w : World) (hs : s.size ≤ 8000) : Calls Tryz.prog 85 #[.string s] w fun e w' => e = .returned (.string (txtB s)) ∧ Below w.heap.size w w' := St4.specPutText_any s w hs
theorem putNumS_any (n : Int) (w : World) (h0 : -9223372036854775808 ≤ n) (h1 : n ≤ 9223372036854775807) : Calls Tryz.prog 84 #[.int .i64 n] w fun e w' => e = .returned (.string (numText n)) ∧ Below w.heap.size w w' := St2.specPutNum_any n w h0 h1
/-- A slice of items that can be read. -/
def ReadsIt (w : World) (v : Value) (L : List Item) : Prop :=
  ∃ p cap, v = .slice p L.length cap ∧ L.length ≤ cap ∧ cap ≤ maxLen ∧
    (0 < L.length → ∃ g off, p = some ⟨g, off, none⟩ ∧ g < w.heap.size ∧
      ∀ i (h : i < L.length), w.cell? ⟨g, off + i * 2, none⟩ = some (.string L[i].1) ∧ w.cell? ⟨g, off + i * 2 + 1, none⟩ = some (.string L[i].2))
theorem ReadsIt.below {w w' : World} {v : Value} {L : List Item} {B : Nat} (h : ReadsIt w v L) (hb : Below B w w') (hB : w.heap.size ≤ B) : ReadsIt w' v L := by
  obtain ⟨p, cap, rfl, h1, h2, h4⟩ := h
  refine ⟨p, cap, rfl, h1, h2, fun h0 => ?_⟩
  obtain ⟨g, off, rfl, hg, hc⟩ := h4 h0
  refine ⟨g, off, rfl, Nat.lt_of_lt_of_le hg (by have := hb.size; omega), fun i hi => ?_⟩
  obtain ⟨c0, c1⟩ := hc i hi
  exact ⟨(hb.cell (p := ⟨g, off + i * 2, none⟩) (Nat.lt_of_lt_of_le hg hB)).trans c0, (hb.cell (p := ⟨g, off + i * 2 + 1, none⟩) (Nat.lt_of_lt_of_le hg hB)).trans c1⟩
theorem ReadsIt.none (w : World) : ReadsIt w (.slice none 0 0) [] := ⟨Option.none, 0, rfl, Nat.le_refl _, Nat.zero_le _, fun h => absurd h (Nat.lt_irrefl 0)⟩
theorem catB_snoc (x : Item) : ∀ (L : List Item) (t : ByteArray), catB t (L ++ [x]) = (catB t L ++ txtB x.1) ++ txtB x.2
  | [], t => rfl
  | y :: r, t => by rw [List.cons_append, catB, catB_snoc x r, catB]
theorem catB_next (t : ByteArray) (L : List Item) (k : Nat) (hk : k < L.length) : catB t (L.take (k + 1)) = (catB t (L.take k) ++ txtB (L[k]'hk).1) ++ txtB (L[k]'hk).2 := by
  rw [List.take_succ_eq_append_getElem hk, catB_snoc]
theorem catB_len {L : List Item} (h : ∀ x ∈ L, OkI x) (hl : L.length ≤ 20) (n : Int) : (catB (numText n) L).size ≤ 170000 := by
  have e : (catB (numText n) L).size = (catB (numText n) L).data.toList.length := by simp
  rw [e, catB_list]
  have h1 := flatL_len L h
  have h2 := numText_size n
  have e2 : (numText n).data.size = (numText n).size := rfl
  simp only [List.length_append, Array.length_toList]
  omega

set_option maxHeartbeats 8000000 in
set_option maxRecDepth 100000 in
theorem specBytes_any (v : Value) (L : List Item) (w : World) (hr : ReadsIt w v L) (ho : ∀ x ∈ L, OkI x) (hl : L.length ≤ 20) :
    Calls Tryz.prog 71 #[v] w fun e w' => e = .returned (.string (storeB L)) ∧ Below w.heap.size w w' := by
  obtain ⟨p, cap, rfl, h1, h2, h4⟩ := hr
  unfold maxLen at h2
  have HO := hide ho
  have H4 := hide h4
  obtain ⟨hd, hhd⟩ : ∃ hd, hd = numText (L.length : Int) := ⟨_, rfl⟩
  have HHD := hide hhd
  have HST := hide (show storeB L = catB hd L by rw [hhd]; rfl)
  clear ho hhd h4
  go_enter Tryz.func71, Tryz.ntmps71
  go_wp2_with fail
  refine (putNumS_any (L.length : Int) _ (by omega) (by omega)).mono ?_
  rw [← HHD.out]
  rintro e w1 ⟨rfl, hb1⟩
  have HB1 := hide hb1
  clear hb1
  go_wp2
  go_loopw [3, 4] (fun l i wr => ∃ (X : World) (k : Nat) (T : ByteArray), X = wr ∧ l = .string T ∧ k ≤ L.length ∧ i = .int .i64 (k : Int) ∧ Hid (T = catB hd (L.take k)) ∧ Hid (Below w.heap.size w X)) (fun _ i _ => L.length - (intOf i).toNat)
  case atStart => exact ⟨_, 0, hd, rfl, rfl, Nat.zero_le _, rfl, hide rfl, HB1⟩
  case round =>
    obtain ⟨X, k, T, rfl, rfl, hk, rfl, HT, HB⟩ := hrel
    by_cases hlt : k < L.length
    · obtain ⟨g, off, rfl, hg, hc⟩ := H4.out (by omega)
      have hki : (k : Int) < (L.length : Int) := by omega
      have HNX := hide (catB_next hd L k hlt)
      have HC0 := hide (hc k hlt)
      have hox := HO.out _ (List.getElem_mem hlt)
      obtain ⟨x, hx⟩ : ∃ x, x = L[k]'hlt := ⟨_, rfl⟩
      rw [← hx] at HNX HC0 hox
      clear hx hc
      obtain ⟨iD, tX⟩ := x
      have HC := HC0
      clear HC0
      have hs1 : iD.size ≤ 20 := hox.id
      have hs2 : tX.size ≤ 8000 := hox.2
      have HS1 := hide (show iD.size ≤ 8000 by omega)
      have HS2 := hide hs2
      have hT0 := catB_len (L := L.take k) (fun x hx => HO.out x (List.mem_of_mem_take hx)) (by rw [List.length_take]; omega) (L.length : Int)
      rw [← HHD.out, ← HT.out] at hT0
      have hz1 := txtB_size iD
      have hz2 := txtB_size tX
      clear hox
      go_upto_region 5 with fail
      refine wp_region_held (S := fun y : World => y.cell? ⟨g, off + k * 2, none⟩ = some (.string iD) ∧ y.cell? ⟨g, off + k * 2 + 1, none⟩ = some (.string tX)) (by kernel_rfl) ?_
      have HSS := hide (show ∀ y : World, Below X.heap.size X y → (y.cell? ⟨g, off + k * 2, none⟩ = some (.string iD) ∧ y.cell? ⟨g, off + k * 2 + 1, none⟩ = some (.string tX)) from
        fun y hb => ⟨((HB.out.trans (hb.mono HB.out.size)).cell (p := ⟨g, off + k * 2, none⟩) hg).trans HC.out.1, ((HB.out.trans (hb.mono HB.out.size)).cell (p := ⟨g, off + k * 2 + 1, none⟩) hg).trans HC.out.2⟩)
      have HZ1 := hide (show Below X.heap.size X { X with drawn := X.drawn + 1 } from (Below.refl _ X).drew)
      generalize ({ X with drawn := X.drawn + 1 } : World) = Z1 at HZ1 ⊢
      have HS := hide (HSS.out _ HZ1.out)
      refine wpAnyH_take (i := 0) (oi := _) (v := .string T) rfl (by kernel_rfl) (by kernel_rfl) (by kernel_rfl) (fun _ _ _ h => h) (Or.inl ⟨by rfl, by intro w hSw; go_split_ands; go_simp <;> omega⟩) HS.out ?_
      simp only [Act.put, List.getElem_toArray, List.getElem_cons_zero, List.setIfInBounds_toArray, List.set_cons_zero, List.set_cons_succ]
      refine wpAnyH_take (i := 1) (oi := _) (v := .slice (some ⟨g, off, none⟩) L.length cap) rfl (by kernel_rfl) (by kernel_rfl) (by kernel_rfl) (fun _ _ _ h => h) (Or.inl ⟨by rfl, by intro w hSw; go_split_ands; go_simp <;> omega⟩) HS.out ?_
      simp only [Act.put, List.getElem_toArray, List.getElem_cons_zero, List.getElem_cons_succ, List.setIfInBounds_toArray, List.set_cons_zero, List.set_cons_succ]
      refine wpAnyH_take (i := 2) (oi := _) (v := .int .i64 (k : Int)) rfl (by kernel_rfl) (by kernel_rfl) (by kernel_rfl) (fun _ _ _ h => h) (Or.inl ⟨by rfl, by intro w hSw; go_split_ands; go_simp <;> omega⟩) HS.out ?_
      simp only [Act.put, List.getElem_toArray, List.getElem_cons_zero, List.getElem_cons_succ, List.setIfInBounds_toArray, List.set_cons_zero, List.set_cons_succ]
      refine wpAnyH_take (i := 3) (oi := _) (v := .pointer (some ⟨g, off + k * 2, none⟩)) rfl (by kernel_rfl) (by kernel_rfl) (by kernel_rfl) (fun _ _ _ h => h) (Or.inl ⟨by rfl, by intro w hSw; go_split_ands; go_simp <;> omega⟩) HS.out ?_
      simp only [Act.put, List.getElem_toArray, List.getElem_cons_zero, List.getElem_cons_succ, List.setIfInBounds_toArray, List.set_cons_zero, List.set_cons_succ]
      refine wpAnyH_take (i := 4) (oi := _) (v := .pointer (some ⟨g, off + k * 2, none⟩)) rfl (by kernel_rfl) (by kernel_rfl) (by kernel_rfl) (fun _ _ _ h => h) (Or.inl ⟨by rfl, by intro w hSw; go_split_ands; go_simp <;> omega⟩) HS.out ?_
      simp only [Act.put, List.getElem_toArray, List.getElem_cons_zero, List.getElem_cons_succ, List.setIfInBounds_toArray, List.set_cons_zero, List.set_cons_succ]
      refine wpAnyH_take (i := 5) (oi := _) (v := .string iD) rfl (by kernel_rfl) (by kernel_rfl) (by kernel_rfl) (fun _ _ _ h => h) (Or.inl ⟨by rfl, by intro w hSw; go_split_ands; go_simp <;> omega⟩) HS.out ?_
      simp only [Act.put, List.getElem_toArray, List.getElem_cons_zero, List.getElem_cons_succ, List.setIfInBounds_toArray, List.set_cons_zero, List.set_cons_succ]
      refine wpAnyH_take (i := 8) (oi := _) (v := .slice (some ⟨g, off, none⟩) L.length cap) rfl (by kernel_rfl) (by kernel_rfl) (by kernel_rfl) (fun _ _ _ h => h) (Or.inl ⟨by rfl, by intro w hSw; go_split_ands; go_simp <;> omega⟩) HS.out ?_
      simp only [Act.put, List.getElem_toArray, List.getElem_cons_zero, List.getElem_cons_succ, List.setIfInBounds_toArray, List.set_cons_zero, List.set_cons_succ]
      refine wpAnyH_take (i := 9) (oi := _) (v := .int .i64 (k : Int)) rfl (by kernel_rfl) (by kernel_rfl) (by kernel_rfl) (fun _ _ _ h => h) (Or.inl ⟨by rfl, by intro w hSw; go_split_ands; go_simp <;> omega⟩) HS.out ?_
      simp only [Act.put, List.getElem_toArray, List.getElem_cons_zero, List.getElem_cons_succ, List.setIfInBounds_toArray, List.set_cons_zero, List.set_cons_succ]
      refine wpAnyH_take (i := 10) (oi := _) (v := .pointer (some ⟨g, off + k * 2, none⟩)) rfl (by kernel_rfl) (by kernel_rfl) (by kernel_rfl) (fun _ _ _ h => h) (Or.inl ⟨by rfl, by intro w hSw; go_split_ands; go_simp <;> omega⟩) HS.out ?_
      simp only [Act.put, List.getElem_toArray, List.getElem_cons_zero, List.getElem_cons_succ, List.setIfInBounds_toArray, List.set_cons_zero, List.set_cons_succ]
      refine wpAnyH_take (i := 11) (oi := _) (v := .pointer (some ⟨g, off + k * 2 + 1, none⟩)) rfl (by kernel_rfl) (by kernel_rfl) (by kernel_rfl) (fun _ _ _ h => h) (Or.inl ⟨by rfl, by intro w hSw; go_split_ands; go_simp <;> omega⟩) HS.out ?_
      simp only [Act.put, List.getElem_toArray, List.getElem_cons_zero, List.getElem_cons_succ, List.setIfInBounds_toArray, List.set_cons_zero, List.set_cons_succ]
      refine wpAnyH_take (i := 12) (oi := _) (v := .string tX) rfl (by kernel_rfl) (by kernel_rfl) (by kernel_rfl) (fun _ _ _ h => h) (Or.inl ⟨by rfl, by intro w hSw; go_split_ands; go_simp <;> omega⟩) HS.out ?_
      simp only [Act.put, List.getElem_toArray, List.getElem_cons_zero, List.getElem_cons_succ, List.setIfInBounds_toArray, List.set_cons_zero, List.set_cons_succ]
      refine wpAnyH_ready (rs := [6]) (by kernel_rfl) (by simp) ?_
      refine AllReadyH.cons (o := _) rfl (fun K hK => ?_) AllReadyH.nil
      go_simp
      refine (putTextS_any iD _ HS1.out).mono ?_
      rintro e Z2 ⟨rfl, hbc⟩
      have HZ2 := hide (HZ1.out.trans (hbc.mono HZ1.out.size))
      clear hbc
      refine hK.out _ _ (HSS.out _ HZ2.out) (fun _ => ?_)
      clear hK K HS
      have HS := hide (HSS.out _ HZ2.out)
      try simp only [Act.put, List.getElem_toArray, List.getElem_cons_zero, List.getElem_cons_succ, List.setIfInBounds_toArray, List.set_cons_zero, List.set_cons_succ]
      refine wpAnyH_take (i := 7) (oi := _) (v := .string (T ++ txtB iD)) rfl (by kernel_rfl) (by kernel_rfl) (by kernel_rfl) (fun _ _ _ h => h) (Or.inl ⟨by rfl, by intro w hSw; go_split_ands; go_simp <;> omega⟩) HS.out ?_
      simp only [Act.put, List.getElem_toArray, List.getElem_cons_zero, List.getElem_cons_succ, List.setIfInBounds_toArray, List.set_cons_zero, List.set_cons_succ]
      refine wpAnyH_ready (rs := [13]) (by kernel_rfl) (by simp) ?_
      refine AllReadyH.cons (o := _) rfl (fun K hK => ?_) AllReadyH.nil
      go_simp
      refine (putTextS_any tX _ HS2.out).mono ?_
      rintro e Z3 ⟨rfl, hbc⟩
      have HZ3 := hide (HZ2.out.trans (hbc.mono HZ2.out.size))
      clear hbc
      refine hK.out _ _ (HSS.out _ HZ3.out) (fun _ => ?_)
      clear hK K HS
      have HS := hide (HSS.out _ HZ3.out)
      try simp only [Act.put, List.getElem_toArray, List.getElem_cons_zero, List.getElem_cons_succ, List.setIfInBounds_toArray, List.set_cons_zero, List.set_cons_succ]
      refine wpAnyH_take (i := 14) (oi := _) (v := .string ((T ++ txtB iD) ++ txtB tX)) rfl (by kernel_rfl) (by kernel_rfl) (by kernel_rfl) (fun _ _ _ h => h) (Or.inl ⟨by rfl, by intro w hSw; go_split_ands; go_simp <;> omega⟩) HS.out ?_
      simp only [Act.put, List.getElem_toArray, List.getElem_cons_zero, List.getElem_cons_succ, List.setIfInBounds_toArray, List.set_cons_zero, List.set_cons_succ]
      refine wpAnyH_take (i := 15) (oi := _) (v := .string ((T ++ txtB iD) ++ txtB tX)) rfl (by kernel_rfl) (by kernel_rfl) (by kernel_rfl) (fun _ _ _ h => h) (Or.inl ⟨by rfl, by intro w hSw; go_split_ands; go_simp <;> omega⟩) HS.out ?_
      simp only [Act.put, List.getElem_toArray, List.getElem_cons_zero, List.getElem_cons_succ, List.setIfInBounds_toArray, List.set_cons_zero, List.set_cons_succ]
      refine wpAnyH_done (by kernel_rfl) ?_ _
      have HB9 := hide (HB.out.trans (HZ3.out.mono HB.out.size))
      go_wp2
      go_roundw
      case rel => exact ⟨Z3, k + 1, _, rfl, rfl, by omega, by go_num, hide (by rw [HNX.out, HT.out]), HB9⟩
      case measure => simp [intOf]; omega
    · have hkn : k = L.length := by omega
      subst hkn
      have HE := hide (show T = storeB L by rw [HT.out, List.take_length, HST.out])
      go_wp2
      go_ret
      exact ⟨by rw [HE.out]; rfl, HB.out⟩
end Go.Proofs.YtbhdbkffejlfmaaGreatDoor
