/- The program's list of types and what fits them; RepFits (kindFits is a premise here). -/
import Derived.Test.YtfjjbofnfigehaaGreatDoorXG20PTextI
import Derived.Test.YtfjjbofnfigehaaGreatDoorXG10VKind
import Derived.Test.YtfjjbofnfigehaaGreatDoorXG21FParts
import Derived.Test.YtfjjbofnfigehaaGreatDoorXG2VRules
import Derived.Laws.CopyOwn
import Derived.Laws.Tables
import Derived.BigQuiet
import Derived.OrdersHeld
import Derived.Deep.RegionHeld3
namespace Go.Proofs.YtfjjbofnfigehaaGreatDoor
open Go.RowKit
def askFns : List Nat := [48, 49, 50, 51, 52, 53, 54, 55, 56]
theorem askFns_len : askFns.length = 9 := rfl
def askRow : List Value := [.int .i64 1, .func (.func 48) #[] #[], .int .i64 2, .func (.func 49) #[] #[], .int .i64 3, .func (.func 50) #[] #[], .int .i64 4, .func (.func 51) #[] #[], .int .i64 5, .func (.func 52) #[] #[], .int .i64 6, .func (.func 53) #[] #[], .int .i64 7, .func (.func 54) #[] #[], .int .i64 8, .func (.func 55) #[] #[], .int .i64 9, .func (.func 56) #[] #[]]
theorem askRow_at : ∀ j, j < 9 → askRow[j * 2]? = some (.int .i64 ((j : Int) + 1)) ∧ ∀ (h : j < askFns.length), askRow[j * 2 + 1]? = some (.func (.func askFns[j]) #[] #[]) := by
  intro j hj
  rcases (by omega : j = 0 ∨ j = 1 ∨ j = 2 ∨ j = 3 ∨ j = 4 ∨ j = 5 ∨ j = 6 ∨ j = 7 ∨ j = 8) with rfl | rfl | rfl | rfl | rfl | rfl | rfl | rfl | rfl
  all_goals exact ⟨rfl, fun _ => rfl⟩
set_option maxHeartbeats 1000000 in
set_option maxRecDepth 100000 in
theorem typeAsks_any (w : World) :
    Calls Tryz.prog 22 #[] w fun e w' => e = .returned (.slice (some ⟨w.heap.size, 0, none⟩) 9 9) ∧ Row w' w.heap.size 53 askRow ∧ Below w.heap.size w w' := by
  have HR := hide (row_new w askRow 53)
  have HB := hide ((Below.refl w.heap.size w).alloc (Nat.le_refl _) (.cells askRow.toArray 53))
  go_enter Tryz.func22, Tryz.ntmps22
  go_wp2
  go_ret
  exact ⟨rfl, HR.out, HB.out⟩
theorem sole_size {x : List (List ByteArray)} (h : repB x = true) (hs : soleL 1 x = true) : 1 ≤ (oneT x).size := by
  match x, hs, h with
  | [], hs, _ => simp [soleL] at hs
  | [c], hs, h =>
    have hc : c.length = 1 := by simpa [soleL] using hs
    match c, hc, hs, h with
    | [t], _, hs, h =>
      have ht : empS t = false := by
        simp [repB, compB, rightB, endEmpty] at h
        simpa using h.1.2
      have ho : oneT [[t]] = t := by simp [oneT, hs, headT]
      rw [ho]
      have h0 : ¬ t.size = 0 := of_decide_eq_false ht
      omega
  | a :: b :: r, hs, _ => simp [soleL] at hs
theorem asks_any (v : Int) (u : Value) (x : List (List ByteArray)) (w : World) (hn : x.length ≤ 1048576) (he : ErrsV w) (h1 : 1 ≤ v) (h3 : v ≤ 3) (hx : repB x = true)
    (hk : Calls Tryz.prog 55 #[.int .i64 v, .agg #[u]] w fun e w' => e = .returned (.bool (fitsL v 8 x)) ∧ Below w.heap.size w w')
    (hr : RRep 0 w u x) (j : Nat) (hj : j < askFns.length) :
    Calls Tryz.prog askFns[j] #[.int .i64 v, .agg #[u]] w fun e w' => e = .returned (.bool (fitsL v ((j : Int) + 1) x)) ∧ Below w.heap.size w w' := by
  rcases (by have : j < 9 := hj; omega : j = 0 ∨ j = 1 ∨ j = 2 ∨ j = 3 ∨ j = 4 ∨ j = 5 ∨ j = 6 ∨ j = 7 ∨ j = 8) with rfl | rfl | rfl | rfl | rfl | rfl | rfl | rfl | rfl
  · exact textFits_any v u x w hn hr
  · exact numberFits_any v u x w hn hr
  · exact dayFits_any v u x w hn he hr
  · exact timeFits_any v u x w hn he hr
  · exact codeFits_any v u x w hn h1 (sole_size hx) hr
  · exact nameFits_any v u x w hn hr
  · exact personFits_any v u x w hn hr
  · exact hk
  · refine (codedFits_any v u x w hn hr).mono ?_
    rintro e w1 ⟨rfl, hb⟩
    refine ⟨?_, hb⟩
    congr 2
    show _ = if v < 3 then compsL 6 0 x else compsL 9 0 x
    by_cases hv : v = 3
    · rw [if_pos hv, if_neg (by omega)]
    · rw [if_neg hv, if_pos (by omega)]
theorem wpList_store_rowA {P : Program} {ops : Array Oper} {rest : List Oper} {o : Oper} {a : Act} {w : World} {Q : Exit → Act → World → Prop} (hgd : o.guard = none) (ty : TypeId) (x y : Operand) (ho : o.op = .store ty x y)
    (g : Nat) (cells : Array Value) (hx : a.eval x = .pointer (some ⟨g, 0, none⟩)) (hy : a.eval y = .agg cells) (t : TypeId) (old : Array Value) (hg : w.heap[g]? = some (.cells old t (0, 0))) (hi : (P.info? ty).map (·.size) = some cells.size)
    (hold : old.size = cells.size) (h1 : cells.all (·.oneCell') = true) (h : wpList P ops Q rest (a.put o.dst undef) (w.setRow g cells)) : wpList P ops Q (o :: rest) a w :=
  wpList_plain hgd fun _ hK => wp_store_row ty x y ho g cells hx hy t old hg hi hold h1 (hK _ _ h)
theorem fits_none (v k : Int) (x : List (List ByteArray)) (h : ∀ j : Nat, j < 9 → (j : Int) + 1 ≠ k) : fitsL v k x = false := by
  have a := h 0 (by omega); have b := h 1 (by omega); have c := h 2 (by omega); have d := h 3 (by omega); have e := h 4 (by omega)
  have f := h 5 (by omega); have g := h 6 (by omega); have i := h 7 (by omega); have l := h 8 (by omega)
  unfold fitsL
  rw [if_neg (by omega), if_neg (by omega), if_neg (by omega), if_neg (by omega), if_neg (by omega), if_neg (by omega), if_neg (by omega), if_neg (by omega), if_neg (by omega)]
def repFitsB (v k : Int) (x : List (List ByteArray)) : Bool := verB v && repB x && fitsL v k x
set_option maxHeartbeats 4000000 in
set_option maxRecDepth 100000 in
theorem implRepFits_any (v k : Int) (u : Value) (x : List (List ByteArray)) (w : World) (hn : x.length ≤ 1048576) (hm : ∀ i (h : i < x.length), x[i].length ≤ 1048576) (he : ErrsV w)
    (hk : ∀ (X : World), 1 ≤ v → v ≤ 3 → RRep 0 X u x → Calls Tryz.prog 55 #[.int .i64 v, .agg #[u]] X fun e w' => e = .returned (.bool (fitsL v 8 x)) ∧ Below X.heap.size X w')
    (hr : RRep 0 w u x) :
    Calls Tryz.prog 8 #[.int .i64 v, .int .i64 k, .agg #[u]] w fun e w' => e = .returned (.bool (repFitsB v k x)) ∧ Below w.heap.size w w' := by
  have HB0 := hideF ((Below.refl w.heap.size w).alloc (Nat.le_refl _) (.cells #[u] 29))
  have HRX := hideF (hr.below ((Below.refl w.heap.size w).alloc (Nat.le_refl _) (.cells #[u] 29)))
  have HK := hideF hk
  have HE := hideF he
  clear hk he
  obtain ⟨p, cap, rfl⟩ := hr.isSlice
  have r0 := repCell w (.slice p x.length cap)
  obtain ⟨R, hR⟩ : ∃ R, R = repFitsB v k x := ⟨_, rfl⟩
  rw [← hR]
  have HR := hideF hR
  clear hR hr
  go_enter Tryz.func8, Tryz.ntmps8
  go_wp2_with fail
  refine (versionRight_any v _).mono ?_
  rintro e w1 ⟨rfl, rfl⟩
  cases hv : verB v
  · have HN := hideF (show R = false by rw [HR.out, repFitsB, hv]; rfl)
    go_wp2
    go_ret
    exact ⟨ret_boolF HN.out.symm, HB0.out⟩
  · have HV1 := hideF (show 1 ≤ v ∧ v ≤ 3 by simpa [verB] using hv)
    go_wp2_with fail
    refine (rightRep _ x _ hn hm ⟨_, rfl, HRX.out⟩).mono ?_
    rintro e w2 ⟨rfl, hb2⟩
    have HB2 := hideF (HB0.out.trans (hb2.mono HB0.out.size))
    have HRY := hideF (HRX.out.below hb2)
    have r2 : w2.cell? ⟨w.heap.size, 0, none⟩ = some (.slice p x.length cap) := by rw [hb2.cell (p := ⟨w.heap.size, 0, none⟩) (by simp [World.size_alloc])]; exact r0
    have hs2 : w.heap.size < w2.heap.size := by have := hb2.size; rw [World.size_alloc] at this; omega
    clear hb2 r0
    cases hrb : repB x
    · have HN := hideF (show R = false by rw [HR.out, repFitsB, hrb]; simp)
      go_wp2
      go_ret
      exact ⟨ret_boolF HN.out.symm, HB2.out⟩
    · have HF := hideF (show R = fitsL v k x by rw [HR.out, repFitsB, hrb, hv]; rfl)
      have HRB := hideF hrb
      clear HR hrb hv
      go_wp2_with fail
      refine (typeAsks_any _).mono ?_
      rintro e w3 ⟨rfl, hrow, hb3⟩
      have HROW := hideF hrow
      have HB3 := hideF (HB2.out.trans (hb3.mono HB2.out.size))
      have HRZ := hideF (HRY.out.below hb3)
      have r3 : w3.cell? ⟨w.heap.size, 0, none⟩ = some (.slice p x.length cap) := by rw [hb3.cell (p := ⟨w.heap.size, 0, none⟩) hs2]; exact r2
      have hs3 : w2.heap.size < w3.heap.size := hrow.lt
      clear hb3 hrow r2
      go_wp2
      go_loopw [20] (fun i wr => ∃ (X : World) (j : Nat), X = wr ∧ j ≤ 9 ∧ i = .int .i64 (j : Int) ∧ Hid (Below w3.heap.size w3 X) ∧ Hid (∀ i : Nat, i < j → (i : Int) + 1 ≠ k)) (fun i _ => 9 - (intOf i).toNat)
      case atStart => exact ⟨_, 0, rfl, Nat.zero_le _, rfl, Below.refl _ _, fun i h => absurd h (by omega)⟩
      case round =>
        obtain ⟨X, j, rfl, hj, rfl, HBX, HA⟩ := hrel
        by_cases hlt : j < 9
        · have hjl : j < askFns.length := hlt
          have c0 : X.cell? ⟨w2.heap.size, 0 + j * 2, none⟩ = some (.int .i64 ((j : Int) + 1)) := by
            rw [HBX.out.cell (p := ⟨w2.heap.size, 0 + j * 2, none⟩) hs3, Nat.zero_add, HROW.out.cell]
            exact (askRow_at j hlt).1
          have c1 : X.cell? ⟨w2.heap.size, 0 + j * 2 + 1, none⟩ = some (.func (.func askFns[j]) #[] #[]) := by
            rw [HBX.out.cell (p := ⟨w2.heap.size, 0 + j * 2 + 1, none⟩) hs3, Nat.zero_add, HROW.out.cell]
            exact (askRow_at j hlt).2 hjl
          have c0' := c0
          have c1' := c1
          rw [Nat.zero_add] at c0' c1'
          have hXs := HBX.out.size
          have r4 : X.cell? ⟨w.heap.size, 0, none⟩ = some (.slice p x.length cap) := by rw [HBX.out.cell (p := ⟨w.heap.size, 0, none⟩) (by show w.heap.size < w3.heap.size; omega)]; exact r3
          have HHz := hideF (heap_alloc_new X (.cells #[.int .i64 0, .nilFunc] 53))
          have HF0 := hideF (setRow_heap _ _ #[.int .i64 0, .nilFunc] #[.int .i64 ((j : Int) + 1), .func (.func askFns[j]) #[] #[]] 53 (0, 0) HHz.out)
          have HAY := hideF (below_setRow (HBX.out.alloc HBX.out.size (.cells #[.int .i64 0, .nilFunc] 53)) HBX.out.size #[.int .i64 ((j : Int) + 1), .func (.func askFns[j]) #[] #[]])
          have HROWT : Hid (Row ((X.alloc (.cells #[.int .i64 0, .nilFunc] 53)).setRow X.heap.size #[.int .i64 ((j : Int) + 1), .func (.func askFns[j]) #[] #[]]) X.heap.size 53 [.int .i64 ((j : Int) + 1), .func (.func askFns[j]) #[] #[]]) := HF0
          have HR4 := hideF r3
          have hw3 : w.heap.size < w3.heap.size := by omega
          by_cases hjk : (j : Int) + 1 = k
          · have hjb : ((j : Int) + 1 == k) = true := by simpa using hjk
            have HN := hideF (show R = fitsL v ((j : Int) + 1) x by rw [HF.out, hjk])
            have HBW := hideF (HB3.out.trans (HAY.out.mono HB3.out.size))
            have HCALL := hideF (asks_any v (.slice p x.length cap) x _ hn (HE.out.below HBW.out HE.out.1) HV1.out.1 HV1.out.2 HRB.out (HK.out _ HV1.out.1 HV1.out.2 (Lasts.go (B := 0) (R := RComp 0 |> RL 0) (Same.of HAY.out) HRZ.out)) (Lasts.go (B := 0) (R := RComp 0 |> RL 0) (Same.of HAY.out) HRZ.out) j hjl)
            clear hjk
            obtain ⟨F, hF⟩ : ∃ F, F = askFns[j] := ⟨_, rfl⟩
            rw [← hF] at c1 c1' HAY HROWT HCALL HBW HF0
            have hF9 : F ∈ askFns := by rw [hF]; exact List.getElem_mem _
            clear hF
            have a0 : World.cell? ((X.alloc (.cells #[.int .i64 0, .nilFunc] 53)).setRow X.heap.size #[.int .i64 ((j : Int) + 1), .func (.func F) #[] #[]]) ⟨X.heap.size, 0, none⟩ = some (.int .i64 ((j : Int) + 1)) := HROWT.out.cell 0
            have a1 : World.cell? ((X.alloc (.cells #[.int .i64 0, .nilFunc] 53)).setRow X.heap.size #[.int .i64 ((j : Int) + 1), .func (.func F) #[] #[]]) ⟨X.heap.size, 1, none⟩ = some (.func (.func F) #[] #[]) := HROWT.out.cell 1
            have r5 : World.cell? ((X.alloc (.cells #[.int .i64 0, .nilFunc] 53)).setRow X.heap.size #[.int .i64 ((j : Int) + 1), .func (.func F) #[] #[]]) ⟨w.heap.size, 0, none⟩ = some (.slice p x.length cap) := by rw [HAY.out.cell (p := ⟨w.heap.size, 0, none⟩) hw3]; exact HR4.out
            clear HROWT HF0
            simp only [askFns, List.mem_cons, List.not_mem_nil, or_false] at hF9
            rcases hF9 with rfl | rfl | rfl | rfl | rfl | rfl | rfl | rfl | rfl
            · go_wp2_with (first | (refine wpList_store_rowA rfl 53 _ _ rfl X.heap.size #[.int .i64 ((j : Int) + 1), .func (.func 48) #[] #[]] rfl rfl 53 #[.int .i64 0, .nilFunc] HHz.out (by kernel_rfl) rfl (by simp [Value.oneCell']) ?_) | fail)
              refine HCALL.out.mono ?_
              rintro e w5 ⟨rfl, hb5⟩
              have HB5 := hideF (HBW.out.trans (hb5.mono HBW.out.size))
              clear hb5
              go_wp2
              go_ret
              exact ⟨ret_boolF HN.out.symm, HB5.out⟩
            · go_wp2_with (first | (refine wpList_store_rowA rfl 53 _ _ rfl X.heap.size #[.int .i64 ((j : Int) + 1), .func (.func 49) #[] #[]] rfl rfl 53 #[.int .i64 0, .nilFunc] HHz.out (by kernel_rfl) rfl (by simp [Value.oneCell']) ?_) | fail)
              refine HCALL.out.mono ?_
              rintro e w5 ⟨rfl, hb5⟩
              have HB5 := hideF (HBW.out.trans (hb5.mono HBW.out.size))
              clear hb5
              go_wp2
              go_ret
              exact ⟨ret_boolF HN.out.symm, HB5.out⟩
            · go_wp2_with (first | (refine wpList_store_rowA rfl 53 _ _ rfl X.heap.size #[.int .i64 ((j : Int) + 1), .func (.func 50) #[] #[]] rfl rfl 53 #[.int .i64 0, .nilFunc] HHz.out (by kernel_rfl) rfl (by simp [Value.oneCell']) ?_) | fail)
              refine HCALL.out.mono ?_
              rintro e w5 ⟨rfl, hb5⟩
              have HB5 := hideF (HBW.out.trans (hb5.mono HBW.out.size))
              clear hb5
              go_wp2
              go_ret
              exact ⟨ret_boolF HN.out.symm, HB5.out⟩
            · go_wp2_with (first | (refine wpList_store_rowA rfl 53 _ _ rfl X.heap.size #[.int .i64 ((j : Int) + 1), .func (.func 51) #[] #[]] rfl rfl 53 #[.int .i64 0, .nilFunc] HHz.out (by kernel_rfl) rfl (by simp [Value.oneCell']) ?_) | fail)
              refine HCALL.out.mono ?_
              rintro e w5 ⟨rfl, hb5⟩
              have HB5 := hideF (HBW.out.trans (hb5.mono HBW.out.size))
              clear hb5
              go_wp2
              go_ret
              exact ⟨ret_boolF HN.out.symm, HB5.out⟩
            · go_wp2_with (first | (refine wpList_store_rowA rfl 53 _ _ rfl X.heap.size #[.int .i64 ((j : Int) + 1), .func (.func 52) #[] #[]] rfl rfl 53 #[.int .i64 0, .nilFunc] HHz.out (by kernel_rfl) rfl (by simp [Value.oneCell']) ?_) | fail)
              refine HCALL.out.mono ?_
              rintro e w5 ⟨rfl, hb5⟩
              have HB5 := hideF (HBW.out.trans (hb5.mono HBW.out.size))
              clear hb5
              go_wp2
              go_ret
              exact ⟨ret_boolF HN.out.symm, HB5.out⟩
            · go_wp2_with (first | (refine wpList_store_rowA rfl 53 _ _ rfl X.heap.size #[.int .i64 ((j : Int) + 1), .func (.func 53) #[] #[]] rfl rfl 53 #[.int .i64 0, .nilFunc] HHz.out (by kernel_rfl) rfl (by simp [Value.oneCell']) ?_) | fail)
              refine HCALL.out.mono ?_
              rintro e w5 ⟨rfl, hb5⟩
              have HB5 := hideF (HBW.out.trans (hb5.mono HBW.out.size))
              clear hb5
              go_wp2
              go_ret
              exact ⟨ret_boolF HN.out.symm, HB5.out⟩
            · go_wp2_with (first | (refine wpList_store_rowA rfl 53 _ _ rfl X.heap.size #[.int .i64 ((j : Int) + 1), .func (.func 54) #[] #[]] rfl rfl 53 #[.int .i64 0, .nilFunc] HHz.out (by kernel_rfl) rfl (by simp [Value.oneCell']) ?_) | fail)
              refine HCALL.out.mono ?_
              rintro e w5 ⟨rfl, hb5⟩
              have HB5 := hideF (HBW.out.trans (hb5.mono HBW.out.size))
              clear hb5
              go_wp2
              go_ret
              exact ⟨ret_boolF HN.out.symm, HB5.out⟩
            · go_wp2_with (first | (refine wpList_store_rowA rfl 53 _ _ rfl X.heap.size #[.int .i64 ((j : Int) + 1), .func (.func 55) #[] #[]] rfl rfl 53 #[.int .i64 0, .nilFunc] HHz.out (by kernel_rfl) rfl (by simp [Value.oneCell']) ?_) | fail)
              refine HCALL.out.mono ?_
              rintro e w5 ⟨rfl, hb5⟩
              have HB5 := hideF (HBW.out.trans (hb5.mono HBW.out.size))
              clear hb5
              go_wp2
              go_ret
              exact ⟨ret_boolF HN.out.symm, HB5.out⟩
            · go_wp2_with (first | (refine wpList_store_rowA rfl 53 _ _ rfl X.heap.size #[.int .i64 ((j : Int) + 1), .func (.func 56) #[] #[]] rfl rfl 53 #[.int .i64 0, .nilFunc] HHz.out (by kernel_rfl) rfl (by simp [Value.oneCell']) ?_) | fail)
              refine HCALL.out.mono ?_
              rintro e w5 ⟨rfl, hb5⟩
              have HB5 := hideF (HBW.out.trans (hb5.mono HBW.out.size))
              clear hb5
              go_wp2
              go_ret
              exact ⟨ret_boolF HN.out.symm, HB5.out⟩
          · have hjb : ((j : Int) + 1 == k) = false := by simpa using hjk
            have HA2 := hideF (show ∀ i : Nat, i < j + 1 → (i : Int) + 1 ≠ k from fun i hi => by
              by_cases e : i = j
              · subst e; exact hjk
              · exact HA.out i (by omega))
            clear hjk
            obtain ⟨F, hF⟩ : ∃ F, F = askFns[j] := ⟨_, rfl⟩
            rw [← hF] at c1 c1' HAY HROWT HF0
            clear hF
            have a0 : World.cell? ((X.alloc (.cells #[.int .i64 0, .nilFunc] 53)).setRow X.heap.size #[.int .i64 ((j : Int) + 1), .func (.func F) #[] #[]]) ⟨X.heap.size, 0, none⟩ = some (.int .i64 ((j : Int) + 1)) := HROWT.out.cell 0
            have a1 : World.cell? ((X.alloc (.cells #[.int .i64 0, .nilFunc] 53)).setRow X.heap.size #[.int .i64 ((j : Int) + 1), .func (.func F) #[] #[]]) ⟨X.heap.size, 1, none⟩ = some (.func (.func F) #[] #[]) := HROWT.out.cell 1
            have r5 : World.cell? ((X.alloc (.cells #[.int .i64 0, .nilFunc] 53)).setRow X.heap.size #[.int .i64 ((j : Int) + 1), .func (.func F) #[] #[]]) ⟨w.heap.size, 0, none⟩ = some (.slice p x.length cap) := by rw [HAY.out.cell (p := ⟨w.heap.size, 0, none⟩) hw3]; exact HR4.out
            clear HROWT HF0
            go_wp2_with (refine wpList_store_rowA rfl 53 _ _ rfl X.heap.size #[.int .i64 ((j : Int) + 1), .func (.func F) #[] #[]] rfl rfl 53 #[.int .i64 0, .nilFunc] HHz.out (by kernel_rfl) rfl (by simp [Value.oneCell']) ?_)
            go_roundw
            case rel => exact ⟨_, j + 1, rfl, by omega, by go_num, HAY.out, HA2.out⟩
            case measure => simp [intOf]; omega
        · have HN := hideF (show R = false by rw [HF.out]; exact fits_none v k x (fun i hi => HA.out i (by omega)))
          have HBY := hideF (HB3.out.trans (HBX.out.mono HB3.out.size))
          go_wp2
          go_ret
          exact ⟨ret_boolF HN.out.symm, HBY.out⟩
end Go.Proofs.YtfjjbofnfigehaaGreatDoor
/- The program's kindName and kindFits. -/
namespace Go.Proofs.YtfjjbofnfigehaaGreatDoor
open Go.RowKit
theorem soleN {n : Nat} {x : List (List ByteArray)} {B : Nat} {e : Ending} {w : World} (h0 : 0 < n) (h : SoleRes n x B e w) :
    (soleL n x = false ∧ ∃ v, e = .returned (.tuple #[v, .bool false])) ∨
    (soleL n x = true ∧ ∃ g off cap, e = .returned (.tuple #[.slice (some ⟨g, off, none⟩) n cap, .bool true]) ∧ n ≤ cap ∧ cap ≤ 2 ^ 63 - 1 ∧ g < w.heap.size ∧
      ∀ i (hi : i < x.length), w.cell? ⟨g, off + i, none⟩ = some (.string (headT x[i]))) := by
  unfold SoleRes at h
  split at h
  · rename_i hs
    obtain ⟨v, rfl, p, cap, rfl, h1, h2, h4⟩ := h
    have hx : x.length = n := by
      have := hs
      simp [soleL] at this
      exact this.1
    have hl : (textsOf x).length = n := by simp [textsOf, hx]
    obtain ⟨g, off, rfl, hg, _, hc⟩ := h4 (by omega)
    refine .inr ⟨hs, g, off, cap, by rw [hl], by omega, h2, hg, fun i hi => ?_⟩
    obtain ⟨u, hu, rfl, _⟩ := hc i (by omega)
    rw [hu]
    simp [textsOf]
  · rename_i hs
    obtain ⟨v, rfl⟩ := h
    exact .inl ⟨by simpa using hs, v, rfl⟩
theorem join3 (a b : ByteArray) : (⟨((([a, ⟨#[95]⟩, b] : List ByteArray).map (·.data.toList)).flatten).toArray⟩ : ByteArray) = a ++ ⟨#[95]⟩ ++ b := by
  apply ByteArray.ext
  simp [ByteArray.data_append]
set_option maxHeartbeats 2000000 in
theorem kindName_any (a b : ByteArray) (w : World) (ha : a.size ≤ 100) (hb : b.size ≤ 100) :
    Calls Tryz.prog 79 #[.string a, .string b] w fun e w' => e = .returned (.string (a ++ ⟨#[95]⟩ ++ b)) ∧ Below w.heap.size w w' := by
  have HJ := hideF (join3 a b)
  have hl : ((([a, ⟨#[95]⟩, b] : List ByteArray).map (·.data.toList)).flatten).length ≤ 1000 := by
    have e1 : a.data.toList.length = a.size := by simp
    have e2 : b.data.toList.length = b.size := by simp
    simp only [List.map_cons, List.map_nil, List.flatten_cons, List.flatten_nil, List.length_append, List.length_nil]
    rw [e1, e2]
    show a.size + (1 + (b.size + 0)) ≤ 1000
    omega
  have HT := hideF (together_any w.heap.size 3 [a, ⟨#[95]⟩, b] (w.alloc (.cells #[.string a, .string ⟨#[95]⟩, .string b] 9)) (row_new w [.string a, .string ⟨#[95]⟩, .string b] _) (by simp) (by simp) hl)
  rw [HJ.out] at HT
  have HB := hideF ((Below.refl w.heap.size w).alloc (Nat.le_refl _) (.cells #[.string a, .string ⟨#[95]⟩, .string b] 9))
  clear hl
  go_enter Tryz.func79, Tryz.ntmps79
  go_wp2_with fail
  refine HT.out.mono ?_
  rintro e w2 ⟨rfl, hb2⟩
  have HB2 := hideF (HB.out.trans (hb2.mono HB.out.size))
  clear hb2
  go_wp2
  go_ret
  exact ⟨rfl, HB2.out⟩
set_option maxHeartbeats 4000000 in
set_option maxRecDepth 100000 in
theorem kindFits_2 (v : Int) (u : Value) (x : List (List ByteArray)) (w : World) (hvb : (v == 1) = true) (hn : x.length ≤ 1048576) (hr : RRep 0 w u x) :
    Calls Tryz.prog 55 #[.int .i64 v, .agg #[u]] w fun e w' => e = .returned (.bool (kindL 2 x)) ∧ Below w.heap.size w w' := by
  have HB0 := hideF ((Below.refl w.heap.size w).alloc (Nat.le_refl _) (.cells #[u] 29))
  have HRX := hideF (hr.below ((Below.refl w.heap.size w).alloc (Nat.le_refl _) (.cells #[u] 29)))
  obtain ⟨p, cap, rfl⟩ := hr.isSlice
  have r0 := repCell w (.slice p x.length cap)
  obtain ⟨R, hR⟩ : ∃ R, R = kindL 2 x := ⟨_, rfl⟩
  rw [← hR]
  have HR := hideF hR
  clear hR hr
  go_enter Tryz.func55, Tryz.ntmps55
  go_wp2_with fail
  refine (soleTexts_any _ x 2 0 _ hn HRX.out).mono ?_
  rintro e w1 ⟨hres, hb1⟩
  have HB1 := hideF (HB0.out.trans (hb1.mono HB0.out.size))
  clear hb1
  rcases soleN (by decide) hres with ⟨hs, v1, rfl⟩ | ⟨hs, g, off, c1, rfl, hc0, hc1, hg, hcl⟩
  · clear hres
    have HN := hideF (show R = false by rw [HR.out, kindL, hs]; rfl)
    go_wp2
    go_ret
    exact ⟨ret_boolF HN.out.symm, HB1.out⟩
  · clear hres
    have hx : x.length = 2 := by simp [soleL] at hs; exact hs.1
    have HKL := hideF (show R = kindT 2 (textsOf x) by rw [HR.out, kindL, hs, Bool.true_and])
    have i0 : 0 < x.length := by omega
    have i1 : 1 < x.length := by omega
    have e0 := hcl 0 i0
    have e1 := hcl 1 i1
    rw [Nat.add_zero] at e0
    have T0 := hideF (texts_get x 0 i0)
    have T1 := hideF (texts_get x 1 i1)
    clear hcl hx hs
    generalize headT (x[0]'i0) = A0 at *
    generalize headT (x[1]'i1) = A1 at *
    have HE := hideF (show R = kindA 2 A0 A1 ⟨#[]⟩ by rw [HKL.out, kindT, T0.out, T1.out]; rfl)
    clear HKL HR T0 T1
    by_cases h3 : (A0.size : Int) = 3
    · have h3b : ((A0.size : Int) != 3) = false := by simp [h3]
      have HS3 := hideF (show decide (A0.size = 3) = true by simp; omega)
      clear h3
      go_wp2_with fail
      refine (allCapitals_any A0 _).mono ?_
      rintro e w2 ⟨rfl, hb2⟩
      have HB2 := hideF (HB1.out.trans (hb2.mono HB1.out.size))
      have f0 : w2.cell? ⟨g, off, none⟩ = some (.string A0) := by rw [hb2.cell (p := ⟨g, off, none⟩) hg]; exact e0
      have f1 : w2.cell? ⟨g, off + 1, none⟩ = some (.string A1) := by rw [hb2.cell (p := ⟨g, off + 1, none⟩) hg]; exact e1
      have hg2 : g < w2.heap.size := Nat.lt_of_lt_of_le hg hb2.size
      clear hb2 e0 e1
      cases hcap : capA A0
      · have HN := hideF (show R = false by rw [HE.out, kindA, hcap]; simp)
        go_wp2
        go_ret
        exact ⟨ret_boolF HN.out.symm, HB2.out⟩
      · go_wp2_with fail
        refine (nameRight3_any A1 _).mono ?_
        rintro e w3 ⟨rfl, hb3⟩
        have HB3 := hideF (HB2.out.trans (hb3.mono HB2.out.size))
        clear hb3 f0 f1
        cases hnam : name3 A1
        · have HN := hideF (show R = false by rw [HE.out, kindA, hnam]; simp)
          go_wp2
          go_ret
          exact ⟨ret_boolF HN.out.symm, HB3.out⟩
        · have HN := hideF (show R = true by rw [HE.out, kindA, hcap, hnam, HS3.out]; simp)
          clear HE hcap hnam HS3
          go_wp2
          go_quiet (fail)
          go_wp2
          go_ret
          exact ⟨ret_boolF HN.out.symm, ⟨HB3.out.os, HB3.out.tape, HB3.out.output, HB3.out.size, HB3.out.block⟩⟩
    · have h3b : ((A0.size : Int) != 3) = true := by simpa using h3
      have HN := hideF (show R = false by
        have hs : ¬ A0.size = 3 := by omega
        rw [HE.out, kindA]
        simp [hs])
      go_wp2
      go_ret
      exact ⟨ret_boolF HN.out.symm, HB1.out⟩
-- @3
set_option maxHeartbeats 4000000 in
set_option maxRecDepth 100000 in
theorem kindFits_3 (v : Int) (u : Value) (x : List (List ByteArray)) (w : World) (hvb : (v == 1) = false) (hn : x.length ≤ 1048576) (hr : RRep 0 w u x) :
    Calls Tryz.prog 55 #[.int .i64 v, .agg #[u]] w fun e w' => e = .returned (.bool (kindL 3 x)) ∧ Below w.heap.size w w' := by
  have HB0 := hideF ((Below.refl w.heap.size w).alloc (Nat.le_refl _) (.cells #[u] 29))
  have HRX := hideF (hr.below ((Below.refl w.heap.size w).alloc (Nat.le_refl _) (.cells #[u] 29)))
  obtain ⟨p, cap, rfl⟩ := hr.isSlice
  have r0 := repCell w (.slice p x.length cap)
  obtain ⟨R, hR⟩ : ∃ R, R = kindL 3 x := ⟨_, rfl⟩
  rw [← hR]
  have HR := hideF hR
  clear hR hr
  go_enter Tryz.func55, Tryz.ntmps55
  go_wp2_with fail
  refine (soleTexts_any _ x 3 0 _ hn HRX.out).mono ?_
  rintro e w1 ⟨hres, hb1⟩
  have HB1 := hideF (HB0.out.trans (hb1.mono HB0.out.size))
  clear hb1
  rcases soleN (by decide) hres with ⟨hs, v1, rfl⟩ | ⟨hs, g, off, c1, rfl, hc0, hc1, hg, hcl⟩
  · clear hres
    have HN := hideF (show R = false by rw [HR.out, kindL, hs]; rfl)
    go_wp2
    go_ret
    exact ⟨ret_boolF HN.out.symm, HB1.out⟩
  · clear hres
    have hx : x.length = 3 := by simp [soleL] at hs; exact hs.1
    have HKL := hideF (show R = kindT 3 (textsOf x) by rw [HR.out, kindL, hs, Bool.true_and])
    have i0 : 0 < x.length := by omega
    have i1 : 1 < x.length := by omega
    have i2 : 2 < x.length := by omega
    have e0 := hcl 0 i0
    have e1 := hcl 1 i1
    have e2 := hcl 2 i2
    rw [Nat.add_zero] at e0
    have T0 := hideF (texts_get x 0 i0)
    have T1 := hideF (texts_get x 1 i1)
    have T2 := hideF (texts_get x 2 i2)
    clear hcl hx hs
    generalize headT (x[0]'i0) = A0 at *
    generalize headT (x[1]'i1) = A1 at *
    generalize headT (x[2]'i2) = A2 at *
    have HE := hideF (show R = kindA 3 A0 A1 A2 by rw [HKL.out, kindT, T0.out, T1.out, T2.out]; rfl)
    clear HKL HR T0 T1 T2
    by_cases h3 : (A0.size : Int) = 3
    · have h3b : ((A0.size : Int) != 3) = false := by simp [h3]
      have HS3 := hideF (show decide (A0.size = 3) = true by simp; omega)
      clear h3
      go_wp2_with fail
      refine (allCapitals_any A0 _).mono ?_
      rintro e w2 ⟨rfl, hb2⟩
      have HB2 := hideF (HB1.out.trans (hb2.mono HB1.out.size))
      have f0 : w2.cell? ⟨g, off, none⟩ = some (.string A0) := by rw [hb2.cell (p := ⟨g, off, none⟩) hg]; exact e0
      have f1 : w2.cell? ⟨g, off + 1, none⟩ = some (.string A1) := by rw [hb2.cell (p := ⟨g, off + 1, none⟩) hg]; exact e1
      have f2 : w2.cell? ⟨g, off + 2, none⟩ = some (.string A2) := by rw [hb2.cell (p := ⟨g, off + 2, none⟩) hg]; exact e2
      have hg2 : g < w2.heap.size := Nat.lt_of_lt_of_le hg hb2.size
      clear hb2 e0 e1 e2
      cases hcap : capA A0
      · have HN := hideF (show R = false by rw [HE.out, kindA, hcap]; simp)
        go_wp2
        go_ret
        exact ⟨ret_boolF HN.out.symm, HB2.out⟩
      · go_wp2_with fail
        refine (nameRight3_any A1 _).mono ?_
        rintro e w3 ⟨rfl, hb3⟩
        have HB3 := hideF (HB2.out.trans (hb3.mono HB2.out.size))
        have k0 : w3.cell? ⟨g, off, none⟩ = some (.string A0) := by rw [hb3.cell (p := ⟨g, off, none⟩) hg2]; exact f0
        have k1 : w3.cell? ⟨g, off + 1, none⟩ = some (.string A1) := by rw [hb3.cell (p := ⟨g, off + 1, none⟩) hg2]; exact f1
        have k2 : w3.cell? ⟨g, off + 2, none⟩ = some (.string A2) := by rw [hb3.cell (p := ⟨g, off + 2, none⟩) hg2]; exact f2
        have hg3 : g < w3.heap.size := Nat.lt_of_lt_of_le hg2 hb3.size
        have HSS := hideF (show ∀ z, Below w3.heap.size w3 z → (fun z : World => z.cell? ⟨g, off, none⟩ = some (.string A0) ∧ z.cell? ⟨g, off + 1, none⟩ = some (.string A1) ∧ z.cell? ⟨g, off + 2, none⟩ = some (.string A2)) z from fun z h => ⟨(h.cell (p := ⟨g, off, none⟩) hg3).trans k0, (h.cell (p := ⟨g, off + 1, none⟩) hg3).trans k1, (h.cell (p := ⟨g, off + 2, none⟩) hg3).trans k2⟩)
        clear hb3 f0 f1 f2 k0 k1 k2
        cases hnam : name3 A1
        · have HN := hideF (show R = false by rw [HE.out, kindA, hnam]; simp)
          go_wp2
          go_ret
          exact ⟨ret_boolF HN.out.symm, HB3.out⟩
        · have HN := hideF (show R = (A2.toList == (A0 ++ ⟨#[95]⟩ ++ A1).toList) by rw [HE.out, kindA, hcap, hnam, HS3.out]; simp)
          have hs0 : A0.size ≤ 100 := by have := of_decide_eq_true HS3.out; omega
          have hs1 : A1.size ≤ 100 := by have := name3_le hnam; omega
          have HKN := hideF (fun X => kindName_any A0 A1 X hs0 hs1)
          clear HE hcap hnam HS3 hs0 hs1
          generalize (A0 ++ ⟨#[95]⟩ ++ A1) = AB at *
          go_wp2_with fail
          refine wp_region_held (S := fun z : World => z.cell? ⟨g, off, none⟩ = some (.string A0) ∧ z.cell? ⟨g, off + 1, none⟩ = some (.string A1) ∧ z.cell? ⟨g, off + 2, none⟩ = some (.string A2)) (by kernel_rfl) ?_
          have HS := hideF (show (fun z : World => z.cell? ⟨g, off, none⟩ = some (.string A0) ∧ z.cell? ⟨g, off + 1, none⟩ = some (.string A1) ∧ z.cell? ⟨g, off + 2, none⟩ = some (.string A2)) { w3 with drawn := w3.drawn + 1 } from HSS.out _ (Below.refl _ _).drew)
          refine wpAnyH_take (i := 0) (oi := _) (v := .int .i64 v) rfl (by kernel_rfl) (by kernel_rfl) (by kernel_rfl) (fun _ _ _ h => h) (Or.inl ⟨by rfl, by intro w hSw; go_split_ands; go_simp⟩) HS.out ?_
          simp only [Act.put, List.getElem_toArray, List.getElem_cons_zero, List.setIfInBounds_toArray, List.set_cons_zero, List.set_cons_succ]
          refine wpAnyH_take (i := 1) (oi := _) (v := .bool false) rfl (by kernel_rfl) (by kernel_rfl) (by kernel_rfl) (fun _ _ _ h => h) (Or.inl ⟨by rfl, by intro w hSw; go_split_ands; go_simp⟩) HS.out ?_
          simp only [Act.put, List.getElem_toArray, List.getElem_cons_zero, List.getElem_cons_succ, List.setIfInBounds_toArray, List.set_cons_zero, List.set_cons_succ]
          refine wpAnyH_take (i := 2) (oi := _) (v := .bool false) rfl (by kernel_rfl) (by kernel_rfl) (by kernel_rfl) (fun _ _ _ h => h) (Or.inl ⟨by rfl, by intro w hSw; go_split_ands; go_simp⟩) HS.out ?_
          simp only [Act.put, List.getElem_toArray, List.getElem_cons_zero, List.getElem_cons_succ, List.setIfInBounds_toArray, List.set_cons_zero, List.set_cons_succ]
          refine wpAnyH_take (i := 3) (oi := _) (v := .slice (some ⟨g, off, none⟩) 3 c1) rfl (by kernel_rfl) (by kernel_rfl) (by kernel_rfl) (fun _ _ _ h => h) (Or.inl ⟨by rfl, by intro w hSw; go_split_ands; go_simp⟩) HS.out ?_
          simp only [Act.put, List.getElem_toArray, List.getElem_cons_zero, List.getElem_cons_succ, List.setIfInBounds_toArray, List.set_cons_zero, List.set_cons_succ]
          refine wpAnyH_take (i := 4) (oi := _) (v := .pointer (some ⟨g, off + 2, none⟩)) rfl (by kernel_rfl) (by kernel_rfl) (by kernel_rfl) (fun _ _ _ h => h) (Or.inl ⟨by rfl, by intro w hSw; go_split_ands; go_simp⟩) HS.out ?_
          simp only [Act.put, List.getElem_toArray, List.getElem_cons_zero, List.getElem_cons_succ, List.setIfInBounds_toArray, List.set_cons_zero, List.set_cons_succ]
          refine wpAnyH_take (i := 5) (oi := _) (v := .string A2) rfl (by kernel_rfl) (by kernel_rfl) (by kernel_rfl) (fun _ _ _ h => h) (Or.inl ⟨by rfl, by intro w hSw; go_split_ands; go_simp⟩) HS.out ?_
          simp only [Act.put, List.getElem_toArray, List.getElem_cons_zero, List.getElem_cons_succ, List.setIfInBounds_toArray, List.set_cons_zero, List.set_cons_succ]
          refine wpAnyH_take (i := 6) (oi := _) (v := .slice (some ⟨g, off, none⟩) 3 c1) rfl (by kernel_rfl) (by kernel_rfl) (by kernel_rfl) (fun _ _ _ h => h) (Or.inl ⟨by rfl, by intro w hSw; go_split_ands; go_simp⟩) HS.out ?_
          simp only [Act.put, List.getElem_toArray, List.getElem_cons_zero, List.getElem_cons_succ, List.setIfInBounds_toArray, List.set_cons_zero, List.set_cons_succ]
          refine wpAnyH_take (i := 7) (oi := _) (v := .pointer (some ⟨g, off, none⟩)) rfl (by kernel_rfl) (by kernel_rfl) (by kernel_rfl) (fun _ _ _ h => h) (Or.inl ⟨by rfl, by intro w hSw; go_split_ands; go_simp⟩) HS.out ?_
          simp only [Act.put, List.getElem_toArray, List.getElem_cons_zero, List.getElem_cons_succ, List.setIfInBounds_toArray, List.set_cons_zero, List.set_cons_succ]
          refine wpAnyH_take (i := 8) (oi := _) (v := .string A0) rfl (by kernel_rfl) (by kernel_rfl) (by kernel_rfl) (fun _ _ _ h => h) (Or.inl ⟨by rfl, by intro w hSw; go_split_ands; go_simp⟩) HS.out ?_
          simp only [Act.put, List.getElem_toArray, List.getElem_cons_zero, List.getElem_cons_succ, List.setIfInBounds_toArray, List.set_cons_zero, List.set_cons_succ]
          refine wpAnyH_take (i := 9) (oi := _) (v := .slice (some ⟨g, off, none⟩) 3 c1) rfl (by kernel_rfl) (by kernel_rfl) (by kernel_rfl) (fun _ _ _ h => h) (Or.inl ⟨by rfl, by intro w hSw; go_split_ands; go_simp⟩) HS.out ?_
          simp only [Act.put, List.getElem_toArray, List.getElem_cons_zero, List.getElem_cons_succ, List.setIfInBounds_toArray, List.set_cons_zero, List.set_cons_succ]
          refine wpAnyH_take (i := 10) (oi := _) (v := .pointer (some ⟨g, off + 1, none⟩)) rfl (by kernel_rfl) (by kernel_rfl) (by kernel_rfl) (fun _ _ _ h => h) (Or.inl ⟨by rfl, by intro w hSw; go_split_ands; go_simp⟩) HS.out ?_
          simp only [Act.put, List.getElem_toArray, List.getElem_cons_zero, List.getElem_cons_succ, List.setIfInBounds_toArray, List.set_cons_zero, List.set_cons_succ]
          refine wpAnyH_take (i := 11) (oi := _) (v := .string A1) rfl (by kernel_rfl) (by kernel_rfl) (by kernel_rfl) (fun _ _ _ h => h) (Or.inl ⟨by rfl, by intro w hSw; go_split_ands; go_simp⟩) HS.out ?_
          simp only [Act.put, List.getElem_toArray, List.getElem_cons_zero, List.getElem_cons_succ, List.setIfInBounds_toArray, List.set_cons_zero, List.set_cons_succ]
          refine wpAnyH_ready (rs := [12]) (by kernel_rfl) (by simp) ?_
          refine AllReadyH.cons (o := _) rfl (fun K hK => ?_) AllReadyH.nil
          go_simp
          refine (HKN.out _).mono ?_
          rintro e w4 ⟨rfl, hb4⟩
          have HB4 := hideF (below_drew hb4)
          clear hb4
          have HS4 := hideF (show (fun z : World => z.cell? ⟨g, off, none⟩ = some (.string A0) ∧ z.cell? ⟨g, off + 1, none⟩ = some (.string A1) ∧ z.cell? ⟨g, off + 2, none⟩ = some (.string A2)) w4 from HSS.out _ HB4.out)
          refine hK.out _ _ HS4.out (fun _ => ?_)
          clear hK K HS
          have HS := HS4
          clear HS4
          cases heq : (A2.toList == AB.toList)
          · refine wpAnyH_take (i := 13) (oi := _) (v := .bool false) rfl (by kernel_rfl) (by kernel_rfl) (by kernel_rfl) (fun _ _ _ h => h) (Or.inl ⟨by rfl, by intro w hSw; go_split_ands; go_simp⟩) HS.out ?_
            simp only [Act.put, List.getElem_toArray, List.getElem_cons_zero, List.getElem_cons_succ, List.setIfInBounds_toArray, List.set_cons_zero, List.set_cons_succ]
            refine wpAnyH_take (i := 14) (oi := _) (v := .bool false) rfl (by kernel_rfl) (by kernel_rfl) (by kernel_rfl) (fun _ _ _ h => h) (Or.inl ⟨by rfl, by intro w hSw; go_split_ands; go_simp⟩) HS.out ?_
            simp only [Act.put, List.getElem_toArray, List.getElem_cons_zero, List.getElem_cons_succ, List.setIfInBounds_toArray, List.set_cons_zero, List.set_cons_succ]
            refine wpAnyH_take (i := 15) (oi := _) (v := .bool false) rfl (by kernel_rfl) (by kernel_rfl) (by kernel_rfl) (fun _ _ _ h => h) (Or.inl ⟨by rfl, by intro w hSw; go_split_ands; go_simp⟩) HS.out ?_
            simp only [Act.put, List.getElem_toArray, List.getElem_cons_zero, List.getElem_cons_succ, List.setIfInBounds_toArray, List.set_cons_zero, List.set_cons_succ]
            refine wpAnyH_done (by kernel_rfl) ?_ _
            clear HSS HS
            go_wp2
            go_ret
            exact ⟨ret_boolF (by rw [HN.out, heq]), HB3.out.trans (HB4.out.mono HB3.out.size)⟩
          · refine wpAnyH_take (i := 13) (oi := _) (v := .bool true) rfl (by kernel_rfl) (by kernel_rfl) (by kernel_rfl) (fun _ _ _ h => h) (Or.inl ⟨by rfl, by intro w hSw; go_split_ands; go_simp⟩) HS.out ?_
            simp only [Act.put, List.getElem_toArray, List.getElem_cons_zero, List.getElem_cons_succ, List.setIfInBounds_toArray, List.set_cons_zero, List.set_cons_succ]
            refine wpAnyH_take (i := 14) (oi := _) (v := .bool true) rfl (by kernel_rfl) (by kernel_rfl) (by kernel_rfl) (fun _ _ _ h => h) (Or.inl ⟨by rfl, by intro w hSw; go_split_ands; go_simp⟩) HS.out ?_
            simp only [Act.put, List.getElem_toArray, List.getElem_cons_zero, List.getElem_cons_succ, List.setIfInBounds_toArray, List.set_cons_zero, List.set_cons_succ]
            refine wpAnyH_take (i := 15) (oi := _) (v := .bool true) rfl (by kernel_rfl) (by kernel_rfl) (by kernel_rfl) (fun _ _ _ h => h) (Or.inl ⟨by rfl, by intro w hSw; go_split_ands; go_simp⟩) HS.out ?_
            simp only [Act.put, List.getElem_toArray, List.getElem_cons_zero, List.getElem_cons_succ, List.setIfInBounds_toArray, List.set_cons_zero, List.set_cons_succ]
            refine wpAnyH_done (by kernel_rfl) ?_ _
            clear HSS HS
            go_wp2
            go_ret
            exact ⟨ret_boolF (by rw [HN.out, heq]), HB3.out.trans (HB4.out.mono HB3.out.size)⟩
    · have h3b : ((A0.size : Int) != 3) = true := by simpa using h3
      have HN := hideF (show R = false by
        have hs : ¬ A0.size = 3 := by omega
        rw [HE.out, kindA]
        simp [hs])
      go_wp2
      go_ret
      exact ⟨ret_boolF HN.out.symm, HB1.out⟩
theorem kindFits_any (v : Int) (u : Value) (x : List (List ByteArray)) (w : World) (hn : x.length ≤ 1048576) (hr : RRep 0 w u x) :
    Calls Tryz.prog 55 #[.int .i64 v, .agg #[u]] w fun e w' => e = .returned (.bool (kindL (if v = 1 then 2 else 3) x)) ∧ Below w.heap.size w w' := by
  by_cases h : v = 1
  · rw [if_pos h]; exact kindFits_2 v u x w (by simpa using h) hn hr
  · rw [if_neg h]; exact kindFits_3 v u x w (by simpa using h) hn hr
end Go.Proofs.YtfjjbofnfigehaaGreatDoor
