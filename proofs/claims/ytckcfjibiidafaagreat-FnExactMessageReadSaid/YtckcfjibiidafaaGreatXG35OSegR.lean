/- The model's reading of a Segment. -/
import Derived.Test.YtckcfjibiidafaaGreatXG33OSegM
import Derived.Deep.DeepCutAuto
import Derived.Deep.RegionHeld3
import Derived.OrdersHeld
import Derived.Test.YtckcfjibiidafaaGreatXG17FMsgT
import Derived.Test.YtckcfjibiidafaaGreatXG31FSegR
namespace Go.Proofs.YtckcfjibiidafaaGreat
open Go.RowKit
theorem Tryz.infoFieldR : (Tryz.prog.info? 54).map (fun i => (i.zero, i.size, i.bytes)) = some (some (.agg #[.slice none 0 0]), 1, 24) := by kernel_rfl
def SegRes (lo : Nat) (R : Option (ByteArray × Flds)) (e : Ending) (w' : World) : Prop := match R with
  | none => ∃ n', e = .returned (.tuple #[.agg #[.string n', .slice none 0 0], .bool false])
  | some s => ∃ p c, e = .returned (.tuple #[.agg #[.string s.1, .slice p s.2.length c], .bool true]) ∧ RFlds lo w' (.slice p s.2.length c) s.2
def lenAt1 (w : World) (g : Nat) : Nat := match w.cell? ⟨g, 1, none⟩ with | some (.slice _ n _) => n | _ => 0
theorem lenAt1_of {w : World} {g n c : Nat} {p : Option Addr} (h : w.cell? ⟨g, 1, none⟩ = some (.slice p n c)) : lenAt1 w g = n := by unfold lenAt1; rw [h]
abbrev QFlds := QL 54 QFld
theorem QFlds.rl {lo hi : Nat} {w : World} {v : Value} {xs : Flds} (h : QFlds lo hi w v xs) : RFlds lo w v xs := QL.rl h fun _ _ _ _ ha h => RFld.mono (QFld.rl h) ha
theorem grow_step2 {α : Type} {R : Nat → Nat → World → Value → α → Prop} [Keeps R] {T E : TypeId} {base a b G : Nat} {X U Z : World} {l v' u a0 : Value} {vs : List Value} {xs : List α} {y : α}
    (hown0 : X.ownsRow base T 1 l xs.length vs) (hGE : GE R base X l vs xs) (hXU : Below X.heap.size X U) (hbase : base ≤ X.heap.size) (hG : G < base) (ha : X.heap.size ≤ a) (hb : b ≤ U.heap.size) (hR : R a b U u y) (hrow : Row U G E [a0, l])
    (hown : Z.ownsRow base T 1 v' (xs.length + 1) (vs ++ [u])) (hgrow : (U.alloc (.cells #[u] T)).grownBy Z l.ownBlock) (hat : v'.ownBlock = l.ownBlock ∨ v'.ownBlock = some (U.alloc (.cells #[u] T)).heap.size) :
    (Z.setCell ⟨G, 1, none⟩ v').ownsRow base T 1 v' (xs ++ [y]).length (vs ++ [u]) ∧ GE R base (Z.setCell ⟨G, 1, none⟩ v') v' (vs ++ [u]) (xs ++ [y]) ∧ Row (Z.setCell ⟨G, 1, none⟩ v') G E [a0, v'] ∧ Row Z G E [a0, l] := by
  have hUY : Below U.heap.size U (U.alloc (.cells #[u] T)) := (Below.refl _ _).alloc (Nat.le_refl _) _
  have hXY : Below X.heap.size X (U.alloc (.cells #[u] T)) := hXU.trans (hUY.mono hXU.size)
  have hlt := hown0.lt
  have hl : vs.length = xs.length := by have := hown0.1; omega
  have hge := hGE.snoc hl hlt (Same.of hXY) hbase ha (Nat.le_trans hb hUY.size) (Keeps.go (SameIn.ofBelow hUY) hR) hgrow hat
  have hs : Same base Z (Z.setCell ⟨G, 1, none⟩ v') := Same.set Z v' hG
  have hrZ : Row Z G E [a0, l] := row_grown (hrow.alloc (.cells #[u] T)) hgrow (fun k hk => (hlt k hk).1) hG
  refine ⟨?_, hge.same hs, by simpa using hrZ.set (j := 1) v', hrZ⟩
  rw [List.length_append]
  exact own_same2 hown hs
theorem Only.alloc' {G : Nat} {a b : World} (h : Only G a b) (o : Obj) : Only G a (b.alloc o) := h.below ((Below.refl _ _).alloc (Nat.le_refl _) o)

set_option maxHeartbeats 32000000 in
set_option maxRecDepth 100000 in
theorem l04ReadSeg_any (m t : ByteArray) (w : World) (hm : m.size = 5) (ht : t.size ≤ 8000) :
    Calls Tryz.prog 17 #[.string m, .string t] w fun e w' => SegRes (w.heap.size + 1) (segMd m t.data.toList) e w' ∧ Below w.heap.size w w' := by
  obtain ⟨i0, hi, hz0, hz1, hz2⟩ := info_parts Tryz.infoFieldR
  have HZC := hide (show (Value.agg #[.slice none 0 0]).cells.size = 1 from rfl)
  have h0m : 0 < m.size := by omega
  have htl : t.data.toList.length = t.size := by simp
  obtain ⟨R, hR⟩ : ∃ R, R = segMd m t.data.toList := ⟨_, rfl⟩
  rw [← hR]
  have HRX := hide hR
  clear hR
  by_cases h3 : t.size < 3
  · have HSM0 := hide (show segMd m t.data.toList = none by unfold segMd headR; rw [if_pos (by omega)]; rfl)
    have h3i : (t.size : Int) < 3 := by omega
    obtain rfl : R = none := by rw [HRX.out]; exact HSM0.out
    go_enter Tryz.func17, Tryz.ntmps17
    go_wp2
    exact bodyPost_ret (v := .tuple #[.agg #[.string ⟨#[]⟩, .slice none 0 0], .bool false]) (by simp [results, Tryz.results17, go_sem]) rfl ⟨⟨_, rfl⟩, (Below.refl _ _).alloc (Nat.le_refl _) _⟩
  have h3i : ¬ (t.size : Int) < 3 := by omega
  have h3j : (3 : Int) ≤ (t.size : Int) := by omega
  go_enter Tryz.func17, Tryz.ntmps17
  go_upto_region 5 with fail
  have HN3 := hide (show (t.extract 0 3 : ByteArray) = ⟨(t.data.toList.take 3).toArray⟩ by rw [extract_list]; rfl)
  have HRS3 := hide (show (t.extract 3 t.size : ByteArray).data.toList = t.data.toList.drop 3 by rw [extract_listE])
  have HRSs := hide (show (t.extract 3 t.size : ByteArray).size ≤ 8000 by rw [ByteArray.size_extract]; omega)
  obtain ⟨N3, hN3⟩ : ∃ N3, N3 = t.extract 0 3 := ⟨_, rfl⟩
  obtain ⟨RS, hRS⟩ : ∃ RS, RS = t.extract 3 t.size := ⟨_, rfl⟩
  rw [← hN3] at HN3
  rw [← hRS] at HRS3 HRSs
  rw [← hN3, ← hRS]
  clear hN3 hRS
  obtain ⟨W, hW⟩ : ∃ W, W = (w.alloc (.cells #[.string ⟨#[]⟩, .slice none 0 0] 41)).alloc (.cells #[.string N3, .slice none 0 0] 41) := ⟨_, rfl⟩
  have HBW := hide (show Below w.heap.size w W by rw [hW]; exact ((Below.refl _ _).alloc (Nat.le_refl _) _).alloc (by simp) _)
  have HRR := hide (show Row W w.heap.size 41 [.string ⟨#[]⟩, .slice none 0 0] by rw [hW]; exact (row_new w [.string ⟨#[]⟩, .slice none 0 0] 41).alloc _)
  obtain ⟨S6, hS6⟩ : ∃ S6, S6 = w.heap.size + 1 := ⟨_, rfl⟩
  have HRS := hide (show Row W S6 41 [.string N3, .slice none 0 0] by
    rw [hW, hS6]
    have := row_new (w.alloc (.cells #[.string ⟨#[]⟩, .slice none 0 0] 41)) [.string N3, .slice none 0 0] 41
    simpa using this)
  rw [← hW, ← hS6]
  have HS6e := hide hS6
  have c60 : W.cell? ⟨S6, 0, none⟩ = some (.string N3) := HRS.out.cell 0
  clear hW hS6
  by_cases hmsh : N3 = msh
  · have hb : (N3.toList == [77, 83, 72]) = true := by rw [hmsh]; unfold msh; simp
    have HMS := hide hmsh
    clear hmsh
    by_cases h5 : RS.size < 5
    · have h5i : (RS.size : Int) < 5 := by omega
      have HSM0 := hide (show segMd m t.data.toList = none by
        unfold segMd headR
        rw [if_neg (by omega), ← HN3.out, if_pos HMS.out, if_neg (fun e => by
          have h9 := congrArg List.length e
          rw [← HRS3.out, List.length_take] at h9
          have h10 : RS.data.toList.length = RS.size := by simp
          have h11 : m.data.toList.length = m.size := by simp
          omega)]
        rfl)
      obtain rfl : R = none := by rw [HRX.out]; exact HSM0.out
      clear c60
      have k0 : W.cell? ⟨w.heap.size, 0, none⟩ = some (.string ⟨#[]⟩) := HRR.out.cell 0
      have k1 : W.cell? ⟨w.heap.size, 1, none⟩ = some (.slice none 0 0) := HRR.out.cell 1
      have f0 := HRR.out.free 0
      have f1 := HRR.out.free 1
      have s0 : W.cell? ⟨S6, 0, none⟩ = some (.string N3) := HRS.out.cell 0
      have s1 : W.cell? ⟨S6, 1, none⟩ = some (.slice none 0 0) := HRS.out.cell 1
      have t2 := (HRR.out.set (j := 0) (.string N3)).set (j := 1) (.slice none 0 0)
      have q0 : ((W.setCell ⟨w.heap.size, 0, none⟩ (.string N3)).setCell ⟨w.heap.size, 1, none⟩ (.slice none 0 0)).cell? ⟨w.heap.size, 0, none⟩ = some (.string N3) := t2.cell 0
      have q1 : ((W.setCell ⟨w.heap.size, 0, none⟩ (.string N3)).setCell ⟨w.heap.size, 1, none⟩ (.slice none 0 0)).cell? ⟨w.heap.size, 1, none⟩ = some (.slice none 0 0) := t2.cell 1
      have HBF := hide ((HBW.out.setCell (p := ⟨w.heap.size, 0, none⟩) (Nat.le_refl _) (.string N3)).setCell (p := ⟨w.heap.size, 1, none⟩) (Nat.le_refl _) (.slice none 0 0))
      clear t2
      go_wp2
      exact bodyPost_ret (v := .tuple #[.agg #[.string N3, .slice none 0 0], .bool false]) (by simp [results, Tryz.results17, go_sem, q0, q1]) rfl ⟨⟨N3, rfl⟩, HBF.out⟩

    have h5i : ¬ (RS.size : Int) < 5 := by omega
    have h5j : (5 : Int) ≤ (RS.size : Int) := by omega
    by_cases h5m : (RS.extract 0 5 : ByteArray) = m
    case neg =>
      have he3 : ((RS.extract 0 5 : ByteArray).toList == m.toList) = false := by simpa using toList_neF h5m
      have HSM0 := hide (show segMd m t.data.toList = none by
        unfold segMd headR
        rw [if_neg (by omega), ← HN3.out, if_pos HMS.out, if_neg (fun e => h5m (by
          rw [extract_list, ← HRS3.out] at *
          apply ByteArray.ext
          apply Array.ext'
          rw [hm] at e
          simpa using e))]
        rfl)
      obtain rfl : R = none := by rw [HRX.out]; exact HSM0.out
      clear c60
      have k0 : W.cell? ⟨w.heap.size, 0, none⟩ = some (.string ⟨#[]⟩) := HRR.out.cell 0
      have k1 : W.cell? ⟨w.heap.size, 1, none⟩ = some (.slice none 0 0) := HRR.out.cell 1
      have f0 := HRR.out.free 0
      have f1 := HRR.out.free 1
      have s0 : W.cell? ⟨S6, 0, none⟩ = some (.string N3) := HRS.out.cell 0
      have s1 : W.cell? ⟨S6, 1, none⟩ = some (.slice none 0 0) := HRS.out.cell 1
      have t2 := (HRR.out.set (j := 0) (.string N3)).set (j := 1) (.slice none 0 0)
      have q0 : ((W.setCell ⟨w.heap.size, 0, none⟩ (.string N3)).setCell ⟨w.heap.size, 1, none⟩ (.slice none 0 0)).cell? ⟨w.heap.size, 0, none⟩ = some (.string N3) := t2.cell 0
      have q1 : ((W.setCell ⟨w.heap.size, 0, none⟩ (.string N3)).setCell ⟨w.heap.size, 1, none⟩ (.slice none 0 0)).cell? ⟨w.heap.size, 1, none⟩ = some (.slice none 0 0) := t2.cell 1
      have HBF := hide ((HBW.out.setCell (p := ⟨w.heap.size, 0, none⟩) (Nat.le_refl _) (.string N3)).setCell (p := ⟨w.heap.size, 1, none⟩) (Nat.le_refl _) (.slice none 0 0))
      clear t2
      go_wp2
      exact bodyPost_ret (v := .tuple #[.agg #[.string N3, .slice none 0 0], .bool false]) (by simp [results, Tryz.results17, go_sem, q0, q1]) rfl ⟨⟨N3, rfl⟩, HBF.out⟩

    have HHDa := hide (show headR m t.data.toList = some (N3, (RS.extract 5 RS.size).data.toList) by
      unfold headR
      rw [if_neg (by omega), ← HN3.out, if_pos HMS.out, ← HRS3.out, if_pos (by
        have e := congrArg (fun b : ByteArray => b.data.toList) h5m
        rw [extract_list] at e
        rw [hm]
        simpa using e), extract_listE, hm])
    go_upto_region 9 with fail
    have HRVs1 := hide (show (RS.extract 5 RS.size : ByteArray).size ≤ 8000 by rw [ByteArray.size_extract]; have := HRSs.out; omega)
    obtain ⟨RV, hRV⟩ : ∃ RV, RV = RS.extract 5 RS.size := ⟨_, rfl⟩
    rw [← hRV] at HHDa HRVs1 ⊢
    have HHD := HHDa
    have HRVs0 := HRVs1
    clear hRV c60 h5m hb h5i h5j
    have HRVs := HRVs0
    by_cases hr0 : RV.size = 0
    · have hre : RV = ⟨#[]⟩ := ByteArray.ext (Array.eq_empty_of_size_eq_zero hr0)
      have HSM0 := hide (show segMd m t.data.toList = some (N3, []) by unfold segMd; rw [HHD.out, hre]; rfl)
      have hrb : (RV.toList == []) = true := by rw [hre]; simp
      obtain rfl : R = some (N3, []) := by rw [HRX.out]; exact HSM0.out
      clear hr0 hre
      have k0 : W.cell? ⟨w.heap.size, 0, none⟩ = some (.string ⟨#[]⟩) := HRR.out.cell 0
      have k1 : W.cell? ⟨w.heap.size, 1, none⟩ = some (.slice none 0 0) := HRR.out.cell 1
      have f0 := HRR.out.free 0
      have f1 := HRR.out.free 1
      have s0 : W.cell? ⟨S6, 0, none⟩ = some (.string N3) := HRS.out.cell 0
      have s1 : W.cell? ⟨S6, 1, none⟩ = some (.slice none 0 0) := HRS.out.cell 1
      have t2 := (HRR.out.set (j := 0) (.string N3)).set (j := 1) (.slice none 0 0)
      have q0 : ((W.setCell ⟨w.heap.size, 0, none⟩ (.string N3)).setCell ⟨w.heap.size, 1, none⟩ (.slice none 0 0)).cell? ⟨w.heap.size, 0, none⟩ = some (.string N3) := t2.cell 0
      have q1 : ((W.setCell ⟨w.heap.size, 0, none⟩ (.string N3)).setCell ⟨w.heap.size, 1, none⟩ (.slice none 0 0)).cell? ⟨w.heap.size, 1, none⟩ = some (.slice none 0 0) := t2.cell 1
      have HBF := hide ((HBW.out.setCell (p := ⟨w.heap.size, 0, none⟩) (Nat.le_refl _) (.string N3)).setCell (p := ⟨w.heap.size, 1, none⟩) (Nat.le_refl _) (.slice none 0 0))
      clear t2
      go_wp2
      exact bodyPost_ret (v := .tuple #[.agg #[.string N3, .slice none 0 0], .bool true]) (by simp [results, Tryz.results17, go_sem, q0, q1]) rfl ⟨⟨none, 0, rfl, ⟨none, 0, rfl, Nat.le_refl _, Nat.zero_le _, fun h => absurd h (Nat.lt_irrefl 0)⟩⟩, HBF.out⟩

    have hr1 : 0 < RV.size := by omega
    have hrb : (RV.toList == []) = false := by
      have h := toList_neF (show RV ≠ ⟨#[]⟩ from fun h => hr0 (by rw [h]; rfl))
      simpa using h
    have HB0 := hide (bAt_get m 0 h0m)
    have HRL := hide (show RV.data.toList = (RV[0]'hr1) :: (RV.extract 1 RV.size).data.toList by
      rw [extract_listE]
      have h9 : 0 < RV.data.toList.length := by simpa using hr1
      have e := List.drop_eq_getElem_cons h9
      rw [List.drop_zero] at e
      exact e)
    have hrj : (1 : Int) ≤ (RV.size : Int) := by omega
    have hri : (0 : Int) < (RV.size : Int) := by omega
    by_cases h00 : RV[0]'hr1 = m[0]'h0m
    case neg =>
      have HSM0 := hide (show segMd m t.data.toList = none by unfold segMd; rw [HHD.out]; show (fldsM m RV.data.toList).bind _ = none; rw [HRL.out, fldsM, if_neg (by rw [HB0.out]; exact h00)]; rfl)
      have hne : ¬ ((RV[0]'hr1).toNat : Int) = ((m[0]'h0m).toNat : Int) := fun e => h00 (UInt8.toNat_inj.1 (by omega))
      have hneb : (((RV[0]'hr1).toNat : Int) != ((m[0]'h0m).toNat : Int)) = true := by simpa using hne
      obtain rfl : R = none := by rw [HRX.out]; exact HSM0.out
      clear h00 hr0
      go_wp2_with fail
      refine wp_region_held (S := (fun _ : World => True)) (by kernel_rfl) ?_
      have HZ0 := hide (show Below W.heap.size W { W with drawn := W.drawn + 1 } from (Below.refl _ _).drew)
      generalize ({ W with drawn := W.drawn + 1 } : World) = W0 at HZ0 ⊢
      have HS : Hid True := trivial
      refine wpAnyH_take (i := 0) (oi := _) (v := .string RV) rfl (by kernel_rfl) (by kernel_rfl) (by kernel_rfl) (fun _ _ _ h => h) (Or.inl ⟨by rfl, by intro w hSw; go_split_ands; go_simp⟩) HS.out ?_
      simp only [Act.put, List.getElem_toArray, List.getElem_cons_zero, List.setIfInBounds_toArray, List.set_cons_zero, List.set_cons_succ]
      refine wpAnyH_take (i := 1) (oi := _) (v := .int .u8 (((RV[0]'hr1).toNat : Nat) : Int)) rfl (by kernel_rfl) (by kernel_rfl) (by kernel_rfl) (fun _ _ _ h => h) (Or.inl ⟨by rfl, by intro w hSw; go_split_ands; go_simp⟩) HS.out ?_
      simp only [Act.put, List.getElem_toArray, List.getElem_cons_zero, List.getElem_cons_succ, List.setIfInBounds_toArray, List.set_cons_zero, List.set_cons_succ]
      refine wpAnyH_take (i := 2) (oi := _) (v := .string m) rfl (by kernel_rfl) (by kernel_rfl) (by kernel_rfl) (fun _ _ _ h => h) (Or.inl ⟨by rfl, by intro w hSw; go_split_ands; go_simp⟩) HS.out ?_
      simp only [Act.put, List.getElem_toArray, List.getElem_cons_zero, List.getElem_cons_succ, List.setIfInBounds_toArray, List.set_cons_zero, List.set_cons_succ]
      refine wpAnyH_take (i := 3) (oi := _) (v := .int .u8 (((m[0]'h0m).toNat : Nat) : Int)) rfl (by kernel_rfl) (by kernel_rfl) (by kernel_rfl) (fun _ _ _ h => h) (Or.inl ⟨by rfl, by intro w hSw; go_split_ands; go_simp⟩) HS.out ?_
      simp only [Act.put, List.getElem_toArray, List.getElem_cons_zero, List.getElem_cons_succ, List.setIfInBounds_toArray, List.set_cons_zero, List.set_cons_succ]
      refine wpAnyH_take (i := 4) (oi := _) (v := .bool true) rfl (by kernel_rfl) (by kernel_rfl) (by kernel_rfl) (fun _ _ _ h => h) (Or.inl ⟨by rfl, by intro w hSw; go_split_ands; go_simp⟩) HS.out ?_
      simp only [Act.put, List.getElem_toArray, List.getElem_cons_zero, List.getElem_cons_succ, List.setIfInBounds_toArray, List.set_cons_zero, List.set_cons_succ]
      refine wpAnyH_done (by kernel_rfl) ?_ _
      clear HS
      have HRR1 := hide (HRR.out.below HZ0.out HRR.out.lt)
      have HRS1 := hide (HRS.out.below HZ0.out HRS.out.lt)
      have HBW1 := hide (HBW.out.trans (HZ0.out.mono HBW.out.size))
      have k0 : W0.cell? ⟨w.heap.size, 0, none⟩ = some (.string ⟨#[]⟩) := HRR1.out.cell 0
      have k1 : W0.cell? ⟨w.heap.size, 1, none⟩ = some (.slice none 0 0) := HRR1.out.cell 1
      have f0 := HRR1.out.free 0
      have f1 := HRR1.out.free 1
      have s0 : W0.cell? ⟨S6, 0, none⟩ = some (.string N3) := HRS1.out.cell 0
      have s1 : W0.cell? ⟨S6, 1, none⟩ = some (.slice none 0 0) := HRS1.out.cell 1
      have t2 := (HRR1.out.set (j := 0) (.string N3)).set (j := 1) (.slice none 0 0)
      have q0 : ((W0.setCell ⟨w.heap.size, 0, none⟩ (.string N3)).setCell ⟨w.heap.size, 1, none⟩ (.slice none 0 0)).cell? ⟨w.heap.size, 0, none⟩ = some (.string N3) := t2.cell 0
      have q1 : ((W0.setCell ⟨w.heap.size, 0, none⟩ (.string N3)).setCell ⟨w.heap.size, 1, none⟩ (.slice none 0 0)).cell? ⟨w.heap.size, 1, none⟩ = some (.slice none 0 0) := t2.cell 1
      have HBF := hide ((HBW1.out.setCell (p := ⟨w.heap.size, 0, none⟩) (Nat.le_refl _) (.string N3)).setCell (p := ⟨w.heap.size, 1, none⟩) (Nat.le_refl _) (.slice none 0 0))
      clear t2
      go_wp2
      exact bodyPost_ret (v := .tuple #[.agg #[.string N3, .slice none 0 0], .bool false]) (by simp [results, Tryz.results17, go_sem, q0, q1]) rfl ⟨⟨N3, rfl⟩, HBF.out⟩

    have HFM := hide (show segMd m t.data.toList = some (N3, trimR empL ((cutL (bAt m 0) (RV.extract 1 RV.size).data.toList).map (fldM m))) by unfold segMd; rw [HHD.out]; show (fldsM m RV.data.toList).bind _ = _; rw [HRL.out, fldsM, if_pos (by rw [HB0.out]; exact h00)]; rfl)
    have heq : ((RV[0]'hr1).toNat : Int) = ((m[0]'h0m).toNat : Int) := by rw [h00]
    have heqb : (((RV[0]'hr1).toNat : Int) != ((m[0]'h0m).toNat : Int)) = false := by rw [heq]; simp
    clear hr0
    go_wp2_with fail
    refine wp_region_held (S := (fun _ : World => True)) (by kernel_rfl) ?_
    have HZ0 := hide (show Below W.heap.size W { W with drawn := W.drawn + 1 } from (Below.refl _ _).drew)
    generalize ({ W with drawn := W.drawn + 1 } : World) = W0 at HZ0 ⊢
    have HS : Hid True := trivial
    refine wpAnyH_take (i := 0) (oi := _) (v := .string RV) rfl (by kernel_rfl) (by kernel_rfl) (by kernel_rfl) (fun _ _ _ h => h) (Or.inl ⟨by rfl, by intro w hSw; go_split_ands; go_simp⟩) HS.out ?_
    simp only [Act.put, List.getElem_toArray, List.getElem_cons_zero, List.setIfInBounds_toArray, List.set_cons_zero, List.set_cons_succ]
    refine wpAnyH_take (i := 1) (oi := _) (v := .int .u8 (((RV[0]'hr1).toNat : Nat) : Int)) rfl (by kernel_rfl) (by kernel_rfl) (by kernel_rfl) (fun _ _ _ h => h) (Or.inl ⟨by rfl, by intro w hSw; go_split_ands; go_simp⟩) HS.out ?_
    simp only [Act.put, List.getElem_toArray, List.getElem_cons_zero, List.getElem_cons_succ, List.setIfInBounds_toArray, List.set_cons_zero, List.set_cons_succ]
    refine wpAnyH_take (i := 2) (oi := _) (v := .string m) rfl (by kernel_rfl) (by kernel_rfl) (by kernel_rfl) (fun _ _ _ h => h) (Or.inl ⟨by rfl, by intro w hSw; go_split_ands; go_simp⟩) HS.out ?_
    simp only [Act.put, List.getElem_toArray, List.getElem_cons_zero, List.getElem_cons_succ, List.setIfInBounds_toArray, List.set_cons_zero, List.set_cons_succ]
    refine wpAnyH_take (i := 3) (oi := _) (v := .int .u8 (((m[0]'h0m).toNat : Nat) : Int)) rfl (by kernel_rfl) (by kernel_rfl) (by kernel_rfl) (fun _ _ _ h => h) (Or.inl ⟨by rfl, by intro w hSw; go_split_ands; go_simp⟩) HS.out ?_
    simp only [Act.put, List.getElem_toArray, List.getElem_cons_zero, List.getElem_cons_succ, List.setIfInBounds_toArray, List.set_cons_zero, List.set_cons_succ]
    refine wpAnyH_take (i := 4) (oi := _) (v := .bool false) rfl (by kernel_rfl) (by kernel_rfl) (by kernel_rfl) (fun _ _ _ h => h) (Or.inl ⟨by rfl, by intro w hSw; go_split_ands; go_simp⟩) HS.out ?_
    simp only [Act.put, List.getElem_toArray, List.getElem_cons_zero, List.getElem_cons_succ, List.setIfInBounds_toArray, List.set_cons_zero, List.set_cons_succ]
    refine wpAnyH_done (by kernel_rfl) ?_ _
    clear HS
    have HRR1 := hide (HRR.out.below HZ0.out HRR.out.lt)
    have HRS1 := hide (HRS.out.below HZ0.out HRS.out.lt)
    have HBW1 := hide (HBW.out.trans (HZ0.out.mono HBW.out.size))
    go_wp2_with fail
    refine wp_region_held (S := (fun _ : World => True)) (by kernel_rfl) ?_
    have HZ1 := hide (show Below W0.heap.size W0 { W0 with drawn := W0.drawn + 1 } from (Below.refl _ _).drew)
    generalize ({ W0 with drawn := W0.drawn + 1 } : World) = W1 at HZ1 ⊢
    have HS : Hid True := trivial
    refine wpAnyH_take (i := 0) (oi := _) (v := .string RV) rfl (by kernel_rfl) (by kernel_rfl) (by kernel_rfl) (fun _ _ _ h => h) (Or.inl ⟨by rfl, by intro w hSw; go_split_ands; go_simp⟩) HS.out ?_
    simp only [Act.put, List.getElem_toArray, List.getElem_cons_zero, List.setIfInBounds_toArray, List.set_cons_zero, List.set_cons_succ]
    refine wpAnyH_take (i := 1) (oi := _) (v := .string (RV.extract 1 RV.size)) rfl (by kernel_rfl) (by kernel_rfl) (by kernel_rfl) (fun _ _ _ h => h) (Or.inl ⟨by rfl, by intro w hSw; go_split_ands; go_simp⟩) HS.out ?_
    simp only [Act.put, List.getElem_toArray, List.getElem_cons_zero, List.getElem_cons_succ, List.setIfInBounds_toArray, List.set_cons_zero, List.set_cons_succ]
    refine wpAnyH_take (i := 2) (oi := _) (v := .string m) rfl (by kernel_rfl) (by kernel_rfl) (by kernel_rfl) (fun _ _ _ h => h) (Or.inl ⟨by rfl, by intro w hSw; go_split_ands; go_simp⟩) HS.out ?_
    simp only [Act.put, List.getElem_toArray, List.getElem_cons_zero, List.getElem_cons_succ, List.setIfInBounds_toArray, List.set_cons_zero, List.set_cons_succ]
    refine wpAnyH_take (i := 3) (oi := _) (v := .int .u8 (((m[0]'h0m).toNat : Nat) : Int)) rfl (by kernel_rfl) (by kernel_rfl) (by kernel_rfl) (fun _ _ _ h => h) (Or.inl ⟨by rfl, by intro w hSw; go_split_ands; go_simp⟩) HS.out ?_
    simp only [Act.put, List.getElem_toArray, List.getElem_cons_zero, List.getElem_cons_succ, List.setIfInBounds_toArray, List.set_cons_zero, List.set_cons_succ]
    refine wpAnyH_ready (rs := [4]) (by kernel_rfl) (by simp) ?_
    refine AllReadyH.cons (o := _) rfl (fun K hK => ?_) AllReadyH.nil
    go_simp
    refine (l01Split_any (RV.extract 1 RV.size) (m[0]'h0m) _ (by have := HRVs.out; rw [ByteArray.size_extract]; omega)).mono ?_
    rintro e w2 ⟨v8, rfl, ho8, hb8⟩
    have HSPL := hide hb8
    have HOS := hide ho8
    refine hK.out _ _ trivial (fun _ => ?_)
    clear hK K HS ho8 hb8
    have HS : Hid True := trivial
    try simp only [Act.put, List.getElem_toArray, List.getElem_cons_zero, List.getElem_cons_succ, List.setIfInBounds_toArray, List.set_cons_zero, List.set_cons_succ]
    refine wpAnyH_take (i := 5) (oi := _) (v := v8) rfl (by kernel_rfl) (by kernel_rfl) (by kernel_rfl) (fun _ _ _ h => h) (Or.inl ⟨by rfl, by intro w hSw; go_split_ands; go_simp⟩) HS.out ?_
    simp only [Act.put, List.getElem_toArray, List.getElem_cons_zero, List.getElem_cons_succ, List.setIfInBounds_toArray, List.set_cons_zero, List.set_cons_succ]
    refine wpAnyH_done (by kernel_rfl) ?_ _
    clear HS
    have HRR2 := hide ((HRR1.out.below HZ1.out HRR1.out.lt).below HSPL.out (Nat.lt_of_lt_of_le HRR1.out.lt HZ1.out.size))
    have HRS2 := hide ((HRS1.out.below HZ1.out HRS1.out.lt).below HSPL.out (Nat.lt_of_lt_of_le HRS1.out.lt HZ1.out.size))
    have HBW2 := hide ((HBW1.out.trans (HZ1.out.mono HBW1.out.size)).trans (HSPL.out.mono (HBW1.out.trans (HZ1.out.mono HBW1.out.size)).size))
    have HW12 := hide (show S6 < W1.heap.size from Nat.lt_of_lt_of_le HRS1.out.lt HZ1.out.size)
    rw [← HB0.out] at HOS
    have HPL := hide (cutL_len (bAt m 0) (RV.extract 1 RV.size).data.toList)
    obtain ⟨g8, c8, hv8, hc81, hc82, hg81, hg82, cs8, hrow8, hcell8⟩ := pieces_row HOS.out
    subst hv8
    obtain ⟨P, hP⟩ : ∃ P, P = cutL (bAt m 0) (RV.extract 1 RV.size).data.toList := ⟨_, rfl⟩
    rw [← hP] at hcell8 HPL HFM hc82 ⊢
    have HPB := hide (show P.length ≤ 8001 ∧ ∀ p ∈ P, p.length ≤ 8000 by
      have h8 : (RV.extract 1 RV.size).data.toList.length ≤ 8000 := by
        have h9 : (RV.extract 1 RV.size).data.toList.length = (RV.extract 1 RV.size).size := by simp
        rw [h9, ByteArray.size_extract]; have := HRVs.out; omega
      exact ⟨by have := HPL.out.1; omega, fun p hp => by have := HPL.out.2 p hp; omega⟩)
    have HC8 := hide hcell8
    have HR8 := hide hrow8
    have HG8 := hide (show S6 < g8 by have h1 := HW12.out; omega)
    have HSB := hide (show S6 < w2.heap.size by have h1 := HW12.out; have h2 := HSPL.out.size; omega)
    unfold maxLen at hc81
    clear hP hcell8 hrow8 HPL HOS HSPL hg81 hg82 heq h00 hri
    go_wp2_with fail
    go_loopw [9] (fun i wr => ∃ (Z : World) (k : Nat) (lf : Value) (vs : List Value), Z = wr ∧ k ≤ P.length ∧ i = .int .i64 (k : Int) ∧ Hid (Row Z S6 41 [.string N3, lf]) ∧ Hid (Z.ownsRow w2.heap.size 54 1 lf ((P.take k).map (fldM m)).length vs) ∧ Hid (GE QFld w2.heap.size Z lf vs ((P.take k).map (fldM m))) ∧ Hid (Only S6 w2 Z)) (fun i _ => P.length - (intOf i).toNat)
    case atStart => exact ⟨_, 0, _, [], rfl, Nat.zero_le _, rfl, HRS2, hide (World.ownsRow_nil w2 w2.heap.size 54 1), hide GE.nil, hide (Only.refl _ _)⟩
    case round =>
      obtain ⟨Z, k, lf, vs, rfl, hk, rfl, HRC, HOF, HGF, HNZ⟩ := hrel
      by_cases hltk : k < P.length
      · have HLK := hide (show ((P.take k).map (fldM m)).length = k by rw [List.length_map, List.length_take]; omega)
        have HOK := hide (show Z.ownsRow w2.heap.size 54 1 lf k vs by have h := HOF.out; rw [HLK.out] at h; exact h)
        have HWB := hide (show w2.heap.size ≤ Z.heap.size from HNZ.out.size)
        have hki0 : (0 : Int) ≤ (k : Int) := by omega
        have hki : (k : Int) < (P.length : Int) := by omega
        go_wp2_with fail
        have HSS := hide (show ∀ y, Only S6 w2 y → (fun y : World => y.cell? ⟨g8, k, none⟩ = some (.string (asB (P[k]'hltk)))) y from fun y h => by
          show y.cell? ⟨g8, k, none⟩ = _
          rw [(h.row HR8.out (by have := HG8.out; omega)).cell]
          exact HC8.out k hltk)
        refine wp_region_held (S := (fun y : World => y.cell? ⟨g8, k, none⟩ = some (.string (asB (P[k]'hltk))))) (by kernel_rfl) ?_
        have HB0 := hide (show Below Z.heap.size Z { Z with drawn := Z.drawn + 1 } from (Below.refl _ _).drew)
        have HN0 := hide (HNZ.out.below HB0.out)
        have HRC0 := hide (HRC.out.below HB0.out HRC.out.lt)
        have HOC0 := hide (own_below HOK.out HB0.out)
        generalize ({ Z with drawn := Z.drawn + 1 } : World) = Z0 at HB0 HN0 HRC0 HOC0 ⊢
        have HS := hide (HSS.out _ HN0.out)
        refine wpAnyH_take (i := 0) (oi := _) (v := .pointer (some ⟨S6, 1, none⟩)) rfl (by kernel_rfl) (by kernel_rfl) (by kernel_rfl) (fun _ _ _ h => h) (Or.inl ⟨by rfl, by intro w hSw; go_split_ands; go_simp⟩) HS.out ?_
        simp only [Act.put, List.getElem_toArray, List.getElem_cons_zero, List.setIfInBounds_toArray, List.set_cons_zero, List.set_cons_succ]
        refine wpAnyH_take (i := 2) (oi := _) (v := .string m) rfl (by kernel_rfl) (by kernel_rfl) (by kernel_rfl) (fun _ _ _ h => h) (Or.inl ⟨by rfl, by intro w hSw; go_split_ands; go_simp⟩) HS.out ?_
        simp only [Act.put, List.getElem_toArray, List.getElem_cons_zero, List.getElem_cons_succ, List.setIfInBounds_toArray, List.set_cons_zero, List.set_cons_succ]
        refine wpAnyH_take (i := 3) (oi := _) (v := .slice (some ⟨g8, 0, none⟩) P.length c8) rfl (by kernel_rfl) (by kernel_rfl) (by kernel_rfl) (fun _ _ _ h => h) (Or.inl ⟨by rfl, by intro w hSw; go_split_ands; go_simp⟩) HS.out ?_
        simp only [Act.put, List.getElem_toArray, List.getElem_cons_zero, List.getElem_cons_succ, List.setIfInBounds_toArray, List.set_cons_zero, List.set_cons_succ]
        refine wpAnyH_take (i := 4) (oi := _) (v := .int .i64 (k : Int)) rfl (by kernel_rfl) (by kernel_rfl) (by kernel_rfl) (fun _ _ _ h => h) (Or.inl ⟨by rfl, by intro w hSw; go_split_ands; go_simp⟩) HS.out ?_
        simp only [Act.put, List.getElem_toArray, List.getElem_cons_zero, List.getElem_cons_succ, List.setIfInBounds_toArray, List.set_cons_zero, List.set_cons_succ]
        refine wpAnyH_take (i := 5) (oi := _) (v := .pointer (some ⟨g8, k, none⟩)) rfl (by kernel_rfl) (by kernel_rfl) (by kernel_rfl) (fun _ _ _ h => h) (Or.inl ⟨by rfl, by intro w hSw; go_split_ands; go_simp⟩) HS.out ?_
        simp only [Act.put, List.getElem_toArray, List.getElem_cons_zero, List.getElem_cons_succ, List.setIfInBounds_toArray, List.set_cons_zero, List.set_cons_succ]
        refine wpAnyH_take (i := 6) (oi := _) (v := .string (asB (P[k]'hltk))) rfl (by kernel_rfl) (by kernel_rfl) (by kernel_rfl) (fun _ _ _ h => h) (Or.inl ⟨by rfl, by intro w hSw; go_split_ands; go_simp⟩) HS.out ?_
        simp only [Act.put, List.getElem_toArray, List.getElem_cons_zero, List.getElem_cons_succ, List.setIfInBounds_toArray, List.set_cons_zero, List.set_cons_succ]
        refine wpAnyH_ready (rs := [1, 7]) (by kernel_rfl) (by simp) ?_
        refine AllReadyH.cons (o := _) rfl (fun K hK => ?_) (AllReadyH.cons (o := _) rfl (fun K hK => ?_) AllReadyH.nil)
        · have c5 : Z0.cell? ⟨S6, 1, none⟩ = some lf := (HRC0.out).cell 1
          go_simp
          refine hK.out _ _ HS.out (fun _ => ?_)
          clear hK K c5
          try simp only [Act.put, List.getElem_toArray, List.getElem_cons_zero, List.getElem_cons_succ, List.setIfInBounds_toArray, List.set_cons_zero, List.set_cons_succ]
          refine wpAnyH_ready (rs := [7]) (by kernel_rfl) (by simp) ?_
          refine AllReadyH.cons (o := _) rfl (fun K hK => ?_) AllReadyH.nil
          go_simp
          refine (l04Read_any m (asB (P[k]'hltk)) _ hm (by rw [asB_size]; have := HPB.out.2 _ (List.getElem_mem hltk); omega)).mono ?_
          rintro e Z1 ⟨pf, cf, rfl, hqf, hb1⟩
          rw [show (asB (P[k]'hltk)).data.toList = P[k]'hltk by simp [asB]] at hqf ⊢
          have HB1 := hide (HB0.out.trans (hb1.mono HB0.out.size))
          have HN1 := hide (HN0.out.below hb1)
          have HRC1 := hide (HRC0.out.below hb1 HRC0.out.lt)
          have HOC1 := hide (own_below HOC0.out hb1)
          have HQF := hide hqf
          have HQA := hide (show Z.heap.size ≤ Z0.heap.size from HB0.out.size)
          refine hK.out _ _ (HSS.out _ HN1.out) (fun _ => ?_)
          clear hK K HS hb1 hqf
          have HS := hide (HSS.out _ HN1.out)
          obtain ⟨FX, hFX⟩ : ∃ FX, FX = fldM m (P[k]'hltk) := ⟨_, rfl⟩
          rw [← hFX] at HQF ⊢
          have HFX := hide hFX
          clear hFX
          try simp only [Act.put, List.getElem_toArray, List.getElem_cons_zero, List.getElem_cons_succ, List.setIfInBounds_toArray, List.set_cons_zero, List.set_cons_succ]
          refine wpAnyH_ready (rs := [8]) (by kernel_rfl) (by simp) ?_
          refine AllReadyH.cons (o := _) rfl (fun K hK => ?_) AllReadyH.nil
          go_simp
          have HN2 := hide (HN1.out.alloc' (.cells #[.slice pf FX.length cf] 54))
          have HRU := HRC1
          have HBU := HB1
          have HRC2 := hide (HRC1.out.alloc (.cells #[.slice pf FX.length cf] 54))
          have HOC2 := hide (HOC1.out.alloc (.cells #[.slice pf FX.length cf] 54))
          have HR1 := hide (cell_one_new Z1 (.slice pf FX.length cf) 54)
          have HSZ2 := hide (show w2.heap.size ≤ (Z1.alloc (.cells #[.slice pf FX.length cf] 54)).heap.size from HN2.out.size)
          refine hK.out _ _ (HSS.out _ HN2.out) (fun _ => ?_)
          clear hK K HS
          obtain ⟨Z2, hZ⟩ : ∃ Z, Z = Z1.alloc (.cells #[.slice pf FX.length cf] 54) := ⟨_, rfl⟩
          rw [← hZ] at HN2 HRC2 HOC2 HR1 HSZ2 ⊢
          have HZZ := hide hZ
          obtain ⟨E5, hE5⟩ : ∃ E, E = Z1.heap.size := ⟨_, rfl⟩
          rw [← hE5] at HR1 ⊢
          clear hZ hE5
          have HS := hide (HSS.out _ HN2.out)
          try simp only [Act.put, List.getElem_toArray, List.getElem_cons_zero, List.getElem_cons_succ, List.setIfInBounds_toArray, List.set_cons_zero, List.set_cons_succ]
          refine wpAnyH_ready (rs := [9]) (by kernel_rfl) (by simp) ?_
          refine AllReadyH.cons (o := _) rfl (fun K hK => ?_) AllReadyH.nil
          refine step_own (w := Z2) rfl (.tmp 55) (.tmp 62) 39 rfl w2.heap.size 54 i0 _ 1 24 Tryz.underlying39 hi hz0 hz1 hz2 HZC.out (by omega) lf k _ rfl HOC2.out ⟨E5, 0, none⟩ 1 _ [.slice pf FX.length cf] rfl rfl HR1.out (by simp [Value.oneCell']) (by unfold maxLen; have := HPB.out.1; omega) (by have := HPB.out.1; omega) HSZ2.out ?_
          intro l3 Z9 hown9 hgrow hat
          obtain ⟨pl, cl, hl3⟩ := own_slice1 hown9
          subst hl3
          have HN9 := hide (HN2.out.grown hgrow (fun k hk => (HOC2.out.lt k hk).1))
          rw [HZZ.out] at hgrow hat
          obtain ⟨s1, s2, s3, s4⟩ := grow_step2 (G := S6) (E := 41) (T := 54) (R := QFld) (y := FX) HOF.out HGF.out HBU.out HWB.out HSB.out HQA.out (Nat.le_refl _) HQF.out HRU.out (by rw [HLK.out]; exact hown9) hgrow hat
          have HS1 := hide s1
          have HS2 := hide s2
          have HS3 := hide s3
          have HS4 := hide s4
          clear s1 s2 s3 s4 hown9 hgrow hat
          refine hK.out _ _ (HSS.out _ HN9.out) (fun _ => ?_)
          clear hK K HS
          have HS := hide (HSS.out _ HN9.out)
          try simp only [Act.put, List.getElem_toArray, List.getElem_cons_zero, List.getElem_cons_succ, List.setIfInBounds_toArray, List.set_cons_zero, List.set_cons_succ]
          refine wpAnyH_take (i := 10) (oi := _) (v := .pointer (some ⟨S6, 1, none⟩)) rfl (by kernel_rfl) (by kernel_rfl) (by kernel_rfl) (fun _ _ _ h => h) (Or.inl ⟨by rfl, by intro w hSw; go_split_ands; go_simp⟩) HS.out ?_
          simp only [Act.put, List.getElem_toArray, List.getElem_cons_zero, List.getElem_cons_succ, List.setIfInBounds_toArray, List.set_cons_zero, List.set_cons_succ]
          refine wpAnyH_ready (rs := [11]) (by kernel_rfl) (by simp) ?_
          refine AllReadyH.cons (o := _) rfl (fun K hK => ?_) AllReadyH.nil
          have c9 : Z9.cell? ⟨S6, 1, none⟩ = some lf := HS4.out.cell 1
          have f9 := HS4.out.free 1
          go_simp
          have HNF := hide (HN9.out.set (j := 1) (.slice pl (k + 1) cl))
          refine hK.out _ _ (HSS.out _ HNF.out) (fun _ => ?_)
          clear hK K HS c9 f9
          refine wpAnyH_done (by kernel_rfl) ?_ _
          have HM9 := hide (show (P.take (k + 1)).map (fldM m) = (P.take k).map (fldM m) ++ [FX] by rw [List.take_succ_eq_append_getElem hltk, List.map_append, HFX.out]; rfl)
          rw [← HM9.out] at HS1 HS2
          go_wp2
          go_roundw
          case rel => exact ⟨_, k + 1, _, _, rfl, by omega, by go_num, HS3, HS1, HS2, HNF⟩
          case measure => simp [intOf]; omega
        · go_simp
          refine (l04Read_any m (asB (P[k]'hltk)) _ hm (by rw [asB_size]; have := HPB.out.2 _ (List.getElem_mem hltk); omega)).mono ?_
          rintro e Z1 ⟨pf, cf, rfl, hqf, hb1⟩
          rw [show (asB (P[k]'hltk)).data.toList = P[k]'hltk by simp [asB]] at hqf ⊢
          have HB1 := hide (HB0.out.trans (hb1.mono HB0.out.size))
          have HN1 := hide (HN0.out.below hb1)
          have HRC1 := hide (HRC0.out.below hb1 HRC0.out.lt)
          have HOC1 := hide (own_below HOC0.out hb1)
          have HQF := hide hqf
          have HQA := hide (show Z.heap.size ≤ Z0.heap.size from HB0.out.size)
          refine hK.out _ _ (HSS.out _ HN1.out) (fun _ => ?_)
          clear hK K HS hb1 hqf
          have HS := hide (HSS.out _ HN1.out)
          obtain ⟨FX, hFX⟩ : ∃ FX, FX = fldM m (P[k]'hltk) := ⟨_, rfl⟩
          rw [← hFX] at HQF ⊢
          have HFX := hide hFX
          clear hFX
          try simp only [Act.put, List.getElem_toArray, List.getElem_cons_zero, List.getElem_cons_succ, List.setIfInBounds_toArray, List.set_cons_zero, List.set_cons_succ]
          refine wpAnyH_ready (rs := [1, 8]) (by kernel_rfl) (by simp) ?_
          refine AllReadyH.cons (o := _) rfl (fun K hK => ?_) (AllReadyH.cons (o := _) rfl (fun K hK => ?_) AllReadyH.nil)
          · have c5 : Z1.cell? ⟨S6, 1, none⟩ = some lf := (HRC1.out).cell 1
            go_simp
            refine hK.out _ _ HS.out (fun _ => ?_)
            clear hK K c5
            try simp only [Act.put, List.getElem_toArray, List.getElem_cons_zero, List.getElem_cons_succ, List.setIfInBounds_toArray, List.set_cons_zero, List.set_cons_succ]
            refine wpAnyH_ready (rs := [8]) (by kernel_rfl) (by simp) ?_
            refine AllReadyH.cons (o := _) rfl (fun K hK => ?_) AllReadyH.nil
            go_simp
            have HN2 := hide (HN1.out.alloc' (.cells #[.slice pf FX.length cf] 54))
            have HRU := HRC1
            have HBU := HB1
            have HRC2 := hide (HRC1.out.alloc (.cells #[.slice pf FX.length cf] 54))
            have HOC2 := hide (HOC1.out.alloc (.cells #[.slice pf FX.length cf] 54))
            have HR1 := hide (cell_one_new Z1 (.slice pf FX.length cf) 54)
            have HSZ2 := hide (show w2.heap.size ≤ (Z1.alloc (.cells #[.slice pf FX.length cf] 54)).heap.size from HN2.out.size)
            refine hK.out _ _ (HSS.out _ HN2.out) (fun _ => ?_)
            clear hK K HS
            obtain ⟨Z2, hZ⟩ : ∃ Z, Z = Z1.alloc (.cells #[.slice pf FX.length cf] 54) := ⟨_, rfl⟩
            rw [← hZ] at HN2 HRC2 HOC2 HR1 HSZ2 ⊢
            have HZZ := hide hZ
            obtain ⟨E5, hE5⟩ : ∃ E, E = Z1.heap.size := ⟨_, rfl⟩
            rw [← hE5] at HR1 ⊢
            clear hZ hE5
            have HS := hide (HSS.out _ HN2.out)
            try simp only [Act.put, List.getElem_toArray, List.getElem_cons_zero, List.getElem_cons_succ, List.setIfInBounds_toArray, List.set_cons_zero, List.set_cons_succ]
            refine wpAnyH_ready (rs := [9]) (by kernel_rfl) (by simp) ?_
            refine AllReadyH.cons (o := _) rfl (fun K hK => ?_) AllReadyH.nil
            refine step_own (w := Z2) rfl (.tmp 55) (.tmp 62) 39 rfl w2.heap.size 54 i0 _ 1 24 Tryz.underlying39 hi hz0 hz1 hz2 HZC.out (by omega) lf k _ rfl HOC2.out ⟨E5, 0, none⟩ 1 _ [.slice pf FX.length cf] rfl rfl HR1.out (by simp [Value.oneCell']) (by unfold maxLen; have := HPB.out.1; omega) (by have := HPB.out.1; omega) HSZ2.out ?_
            intro l3 Z9 hown9 hgrow hat
            obtain ⟨pl, cl, hl3⟩ := own_slice1 hown9
            subst hl3
            have HN9 := hide (HN2.out.grown hgrow (fun k hk => (HOC2.out.lt k hk).1))
            rw [HZZ.out] at hgrow hat
            obtain ⟨s1, s2, s3, s4⟩ := grow_step2 (G := S6) (E := 41) (T := 54) (R := QFld) (y := FX) HOF.out HGF.out HBU.out HWB.out HSB.out HQA.out (Nat.le_refl _) HQF.out HRU.out (by rw [HLK.out]; exact hown9) hgrow hat
            have HS1 := hide s1
            have HS2 := hide s2
            have HS3 := hide s3
            have HS4 := hide s4
            clear s1 s2 s3 s4 hown9 hgrow hat
            refine hK.out _ _ (HSS.out _ HN9.out) (fun _ => ?_)
            clear hK K HS
            have HS := hide (HSS.out _ HN9.out)
            try simp only [Act.put, List.getElem_toArray, List.getElem_cons_zero, List.getElem_cons_succ, List.setIfInBounds_toArray, List.set_cons_zero, List.set_cons_succ]
            refine wpAnyH_take (i := 10) (oi := _) (v := .pointer (some ⟨S6, 1, none⟩)) rfl (by kernel_rfl) (by kernel_rfl) (by kernel_rfl) (fun _ _ _ h => h) (Or.inl ⟨by rfl, by intro w hSw; go_split_ands; go_simp⟩) HS.out ?_
            simp only [Act.put, List.getElem_toArray, List.getElem_cons_zero, List.getElem_cons_succ, List.setIfInBounds_toArray, List.set_cons_zero, List.set_cons_succ]
            refine wpAnyH_ready (rs := [11]) (by kernel_rfl) (by simp) ?_
            refine AllReadyH.cons (o := _) rfl (fun K hK => ?_) AllReadyH.nil
            have c9 : Z9.cell? ⟨S6, 1, none⟩ = some lf := HS4.out.cell 1
            have f9 := HS4.out.free 1
            go_simp
            have HNF := hide (HN9.out.set (j := 1) (.slice pl (k + 1) cl))
            refine hK.out _ _ (HSS.out _ HNF.out) (fun _ => ?_)
            clear hK K HS c9 f9
            refine wpAnyH_done (by kernel_rfl) ?_ _
            have HM9 := hide (show (P.take (k + 1)).map (fldM m) = (P.take k).map (fldM m) ++ [FX] by rw [List.take_succ_eq_append_getElem hltk, List.map_append, HFX.out]; rfl)
            rw [← HM9.out] at HS1 HS2
            go_wp2
            go_roundw
            case rel => exact ⟨_, k + 1, _, _, rfl, by omega, by go_num, HS3, HS1, HS2, HNF⟩
            case measure => simp [intOf]; omega
          · go_simp
            have HN2 := hide (HN1.out.alloc' (.cells #[.slice pf FX.length cf] 54))
            have HRU := HRC1
            have HBU := HB1
            have HRC2 := hide (HRC1.out.alloc (.cells #[.slice pf FX.length cf] 54))
            have HOC2 := hide (HOC1.out.alloc (.cells #[.slice pf FX.length cf] 54))
            have HR1 := hide (cell_one_new Z1 (.slice pf FX.length cf) 54)
            have HSZ2 := hide (show w2.heap.size ≤ (Z1.alloc (.cells #[.slice pf FX.length cf] 54)).heap.size from HN2.out.size)
            refine hK.out _ _ (HSS.out _ HN2.out) (fun _ => ?_)
            clear hK K HS
            obtain ⟨Z2, hZ⟩ : ∃ Z, Z = Z1.alloc (.cells #[.slice pf FX.length cf] 54) := ⟨_, rfl⟩
            rw [← hZ] at HN2 HRC2 HOC2 HR1 HSZ2 ⊢
            have HZZ := hide hZ
            obtain ⟨E5, hE5⟩ : ∃ E, E = Z1.heap.size := ⟨_, rfl⟩
            rw [← hE5] at HR1 ⊢
            clear hZ hE5
            have HS := hide (HSS.out _ HN2.out)
            try simp only [Act.put, List.getElem_toArray, List.getElem_cons_zero, List.getElem_cons_succ, List.setIfInBounds_toArray, List.set_cons_zero, List.set_cons_succ]
            refine wpAnyH_ready (rs := [1]) (by kernel_rfl) (by simp) ?_
            refine AllReadyH.cons (o := _) rfl (fun K hK => ?_) AllReadyH.nil
            have c5 : Z2.cell? ⟨S6, 1, none⟩ = some lf := (HRC2.out).cell 1
            go_simp
            refine hK.out _ _ HS.out (fun _ => ?_)
            clear hK K c5
            try simp only [Act.put, List.getElem_toArray, List.getElem_cons_zero, List.getElem_cons_succ, List.setIfInBounds_toArray, List.set_cons_zero, List.set_cons_succ]
            refine wpAnyH_ready (rs := [9]) (by kernel_rfl) (by simp) ?_
            refine AllReadyH.cons (o := _) rfl (fun K hK => ?_) AllReadyH.nil
            refine step_own (w := Z2) rfl (.tmp 55) (.tmp 62) 39 rfl w2.heap.size 54 i0 _ 1 24 Tryz.underlying39 hi hz0 hz1 hz2 HZC.out (by omega) lf k _ rfl HOC2.out ⟨E5, 0, none⟩ 1 _ [.slice pf FX.length cf] rfl rfl HR1.out (by simp [Value.oneCell']) (by unfold maxLen; have := HPB.out.1; omega) (by have := HPB.out.1; omega) HSZ2.out ?_
            intro l3 Z9 hown9 hgrow hat
            obtain ⟨pl, cl, hl3⟩ := own_slice1 hown9
            subst hl3
            have HN9 := hide (HN2.out.grown hgrow (fun k hk => (HOC2.out.lt k hk).1))
            rw [HZZ.out] at hgrow hat
            obtain ⟨s1, s2, s3, s4⟩ := grow_step2 (G := S6) (E := 41) (T := 54) (R := QFld) (y := FX) HOF.out HGF.out HBU.out HWB.out HSB.out HQA.out (Nat.le_refl _) HQF.out HRU.out (by rw [HLK.out]; exact hown9) hgrow hat
            have HS1 := hide s1
            have HS2 := hide s2
            have HS3 := hide s3
            have HS4 := hide s4
            clear s1 s2 s3 s4 hown9 hgrow hat
            refine hK.out _ _ (HSS.out _ HN9.out) (fun _ => ?_)
            clear hK K HS
            have HS := hide (HSS.out _ HN9.out)
            try simp only [Act.put, List.getElem_toArray, List.getElem_cons_zero, List.getElem_cons_succ, List.setIfInBounds_toArray, List.set_cons_zero, List.set_cons_succ]
            refine wpAnyH_take (i := 10) (oi := _) (v := .pointer (some ⟨S6, 1, none⟩)) rfl (by kernel_rfl) (by kernel_rfl) (by kernel_rfl) (fun _ _ _ h => h) (Or.inl ⟨by rfl, by intro w hSw; go_split_ands; go_simp⟩) HS.out ?_
            simp only [Act.put, List.getElem_toArray, List.getElem_cons_zero, List.getElem_cons_succ, List.setIfInBounds_toArray, List.set_cons_zero, List.set_cons_succ]
            refine wpAnyH_ready (rs := [11]) (by kernel_rfl) (by simp) ?_
            refine AllReadyH.cons (o := _) rfl (fun K hK => ?_) AllReadyH.nil
            have c9 : Z9.cell? ⟨S6, 1, none⟩ = some lf := HS4.out.cell 1
            have f9 := HS4.out.free 1
            go_simp
            have HNF := hide (HN9.out.set (j := 1) (.slice pl (k + 1) cl))
            refine hK.out _ _ (HSS.out _ HNF.out) (fun _ => ?_)
            clear hK K HS c9 f9
            refine wpAnyH_done (by kernel_rfl) ?_ _
            have HM9 := hide (show (P.take (k + 1)).map (fldM m) = (P.take k).map (fldM m) ++ [FX] by rw [List.take_succ_eq_append_getElem hltk, List.map_append, HFX.out]; rfl)
            rw [← HM9.out] at HS1 HS2
            go_wp2
            go_roundw
            case rel => exact ⟨_, k + 1, _, _, rfl, by omega, by go_num, HS3, HS1, HS2, HNF⟩
            case measure => simp [intOf]; omega

      · have ek : P.take k = P := List.take_of_length_le (by omega)
        have HSM := hide (show segMd m t.data.toList = some (N3, trimR empL (P.map (fldM m))) from HFM.out)
        obtain ⟨fs, hfs⟩ : ∃ fs, fs = P.map (fldM m) := ⟨_, rfl⟩
        rw [ek, ← hfs] at HOF HGF
        rw [← hfs] at HSM
        have HQ0 := hide (HGF.out.ql HOF.out)
        obtain ⟨ps, cs, h1cs, hcaps⟩ : ∃ p c, lf = .slice p fs.length c ∧ (fs.length ≤ c ∧ c ≤ maxLen) := by
          obtain ⟨p, c, e, h1, h2, _⟩ := HQ0.out
          exact ⟨p, c, e, h1, h2⟩
        subst h1cs
        have HSL := hide (show fs.length ≤ 8001 by rw [hfs, List.length_map]; exact HPB.out.1)
        have HCAP := hide hcaps
        have hcms := hcaps.2
        unfold maxLen at hcms
        have HGB := HSB
        have HTR0 := HRC
        have HS6B := hide (show w.heap.size + 1 = S6 ∧ S6 < w2.heap.size from ⟨HS6e.out.symm, HSB.out⟩)
        clear hcaps ek hfs HGF HOF HRC
        go_wp2_with fail
        go_loopw [] (fun wr => ∃ (U : World) (n : Nat), U = wr ∧ n ≤ fs.length ∧ Hid (Row U S6 41 [.string N3, .slice ps n cs]) ∧ Hid (Only S6 Z U) ∧ Hid (trimR empL (fs.take n) = trimR empL fs)) (fun wr => lenAt1 wr S6)
        case atStart => exact ⟨_, _, rfl, Nat.le_refl _, HTR0, hide (Only.refl _ _), hide (by rw [List.take_length])⟩
        case round =>
          obtain ⟨U, n, rfl, hn, HTR, HTO, HTT⟩ := hrel
          have t0 : U.cell? ⟨S6, 1, none⟩ = some (.slice ps n cs) := HTR.out.cell 1
          have HTL := hide (lenAt1_of t0)
          have HQU := hide (Keeps.go (SameIn.ofOnly HTO.out (by have := HGB.out; omega)) HQ0.out)
          by_cases hn0 : n = 0
          · subst hn0
            have HLT := hide (show trimR empL fs = fs.take 0 by rw [← HTT.out]; rfl)
            have HQF := hide (QL.take HQU.out (Nat.zero_le _))
            obtain ⟨F, hF⟩ : ∃ F, F = fs.take 0 := ⟨_, rfl⟩
            have HFL5 := hide (show F.length = 0 by rw [hF]; rfl)
            rw [← hF] at HLT HQF
            clear hF
            have HOU := hide (HNZ.out.trans HTO.out)
            have HRU := hide (HOU.out.row HRR2.out (by have := HS6B.out; omega))
            have r0 : U.cell? ⟨w.heap.size, 0, none⟩ = some (.string ⟨#[]⟩) := HRU.out.cell 0
            have r1 : U.cell? ⟨w.heap.size, 1, none⟩ = some (.slice none 0 0) := HRU.out.cell 1
            have f0 := HRU.out.free 0
            have f1 := HRU.out.free 1
            have t1 : U.cell? ⟨S6, 0, none⟩ = some (.string N3) := HTR.out.cell 0
            have t2 := (HRU.out.set (j := 0) (.string N3)).set (j := 1) (.slice ps 0 cs)
            have q0 : ((U.setCell ⟨w.heap.size, 0, none⟩ (.string N3)).setCell ⟨w.heap.size, 1, none⟩ (.slice ps 0 cs)).cell? ⟨w.heap.size, 0, none⟩ = some (.string N3) := t2.cell 0
            have q1 : ((U.setCell ⟨w.heap.size, 0, none⟩ (.string N3)).setCell ⟨w.heap.size, 1, none⟩ (.slice ps 0 cs)).cell? ⟨w.heap.size, 1, none⟩ = some (.slice ps 0 cs) := t2.cell 1
            have HBE := hide (((HOU.out.toBelow HBW2.out HBW2.out.size (by have := HS6B.out; omega)).setCell (p := ⟨w.heap.size, 0, none⟩) (Nat.le_refl _) (.string N3)).setCell (p := ⟨w.heap.size, 1, none⟩) (Nat.le_refl _) (.slice ps 0 cs))
            have HRF := hide (show RFlds (w.heap.size + 1) ((U.setCell ⟨w.heap.size, 0, none⟩ (.string N3)).setCell ⟨w.heap.size, 1, none⟩ (.slice ps 0 cs)) (.slice ps F.length cs) F by
              rw [HFL5.out]
              exact Lasts.go (B := w.heap.size + 1) (Same.set _ _ (by omega)) (Lasts.go (B := w.heap.size + 1) (Same.set _ _ (by omega)) (RFlds.mono (QFlds.rl HQF.out) (by have := HS6B.out; omega)))
            )
            have HE9 := hide (show segMd m t.data.toList = some (N3, F) by rw [HSM.out, HLT.out])
            obtain rfl : R = some (N3, F) := by rw [HRX.out]; exact HE9.out
            rw [HFL5.out] at HRF
            clear t2
            go_wp2
            exact bodyPost_ret (v := .tuple #[.agg #[.string N3, .slice ps 0 cs], .bool true]) (by simp [results, Tryz.results17, go_sem, q0, q1]) rfl ⟨⟨ps, cs, by rw [HFL5.out], by rw [HFL5.out]; exact HRF.out⟩, HBE.out⟩
          · obtain ⟨n', hn'⟩ : ∃ n', n = n' + 1 := ⟨n - 1, by omega⟩
            have hnl : n' < fs.length := by omega
            have hw1 : IntKind.i64.wrap ((n : Int) - 1) = (n' : Int) := by rw [show ((n : Int) - 1) = (n' : Int) by omega]; have := HSL.out; exact wrap_small _ (by omega) (by omega)
            have hn0' : (0 : Int) < (n : Int) := by omega
            have hn1' : (0 : Int) ≤ (n' : Int) := by omega
            have hn2' : (n' : Int) < (n : Int) := by omega
            have hn3' : (n' : Int) ≤ (cs : Int) := by have := HCAP.out; omega
            have hfr := HTR.out.free 1
            obtain ⟨g5, hp5, HCL5⟩ : ∃ g5, ps = some ⟨g5, 0, none⟩ ∧ Hid (∃ p5 c5, U.cell? ⟨g5, n', none⟩ = some (.slice p5 (fs[n']'hnl).length c5)) := by
              obtain ⟨p', cap', e', _, _, h4'⟩ := HQU.out
              cases e'
              obtain ⟨g5, vs5, rest5, A5, B5, hp5, _, _, hr5, hl5, hE5⟩ := h4' (by omega)
              obtain ⟨_, _, _, h5⟩ := hE5 n' (by omega) hnl
              obtain ⟨p5, c5, hs5⟩ := h5.isSlice
              refine ⟨g5, hp5, hide ⟨p5, c5, ?_⟩⟩
              rw [hr5.cell, List.getElem?_append_left (by omega), List.getElem?_eq_getElem (by omega), hs5]
            subst hp5
            have HN' := hide hn'
            clear hn' hn0
            cases he : empL (fs[n']'hnl)
            · have HLT := hide (show trimR empL fs = fs.take n by rw [← HTT.out, HN'.out]; exact trimR_stop hnl he)
              have HQF := hide (QL.take HQU.out hn)
              have HFL5 := hide (show (fs.take n).length = n by rw [List.length_take]; omega)
              obtain ⟨F, hF⟩ : ∃ F, F = fs.take n := ⟨_, rfl⟩
              rw [← hF] at HLT HQF HFL5
              clear hF
              obtain ⟨p5, c5, hcl⟩ := HCL5.out
              have he4 : (((fs[n']'hnl).length : Int) == 0) = false := by simpa [empL] using he
              generalize (fs[n']'hnl).length = Y5 at hcl he4
              clear he
              have HOU := hide (HNZ.out.trans HTO.out)
              have HRU := hide (HOU.out.row HRR2.out (by have := HS6B.out; omega))
              have r0 : U.cell? ⟨w.heap.size, 0, none⟩ = some (.string ⟨#[]⟩) := HRU.out.cell 0
              have r1 : U.cell? ⟨w.heap.size, 1, none⟩ = some (.slice none 0 0) := HRU.out.cell 1
              have f0 := HRU.out.free 0
              have f1 := HRU.out.free 1
              have t1 : U.cell? ⟨S6, 0, none⟩ = some (.string N3) := HTR.out.cell 0
              have t2 := (HRU.out.set (j := 0) (.string N3)).set (j := 1) (.slice (some ⟨g5, 0, none⟩) n cs)
              have q0 : ((U.setCell ⟨w.heap.size, 0, none⟩ (.string N3)).setCell ⟨w.heap.size, 1, none⟩ (.slice (some ⟨g5, 0, none⟩) n cs)).cell? ⟨w.heap.size, 0, none⟩ = some (.string N3) := t2.cell 0
              have q1 : ((U.setCell ⟨w.heap.size, 0, none⟩ (.string N3)).setCell ⟨w.heap.size, 1, none⟩ (.slice (some ⟨g5, 0, none⟩) n cs)).cell? ⟨w.heap.size, 1, none⟩ = some (.slice (some ⟨g5, 0, none⟩) n cs) := t2.cell 1
              have HBE := hide (((HOU.out.toBelow HBW2.out HBW2.out.size (by have := HS6B.out; omega)).setCell (p := ⟨w.heap.size, 0, none⟩) (Nat.le_refl _) (.string N3)).setCell (p := ⟨w.heap.size, 1, none⟩) (Nat.le_refl _) (.slice (some ⟨g5, 0, none⟩) n cs))
              have HRF := hide (show RFlds (w.heap.size + 1) ((U.setCell ⟨w.heap.size, 0, none⟩ (.string N3)).setCell ⟨w.heap.size, 1, none⟩ (.slice (some ⟨g5, 0, none⟩) n cs)) (.slice (some ⟨g5, 0, none⟩) F.length cs) F by
                rw [HFL5.out]
                exact Lasts.go (B := w.heap.size + 1) (Same.set _ _ (by omega)) (Lasts.go (B := w.heap.size + 1) (Same.set _ _ (by omega)) (RFlds.mono (QFlds.rl HQF.out) (by have := HS6B.out; omega)))
              )
              have HE9 := hide (show segMd m t.data.toList = some (N3, F) by rw [HSM.out, HLT.out])
              obtain rfl : R = some (N3, F) := by rw [HRX.out]; exact HE9.out
              rw [HFL5.out] at HRF
              clear t2
              go_wp2
              exact bodyPost_ret (v := .tuple #[.agg #[.string N3, .slice (some ⟨g5, 0, none⟩) n cs], .bool true]) (by simp [results, Tryz.results17, go_sem, q0, q1]) rfl ⟨⟨(some ⟨g5, 0, none⟩), cs, by rw [HFL5.out], by rw [HFL5.out]; exact HRF.out⟩, HBE.out⟩
            · have HTT2 := hide (show trimR empL (fs.take n') = trimR empL fs by rw [← HTT.out, HN'.out, trimR_take hnl he])
              have HTR2 := hide (HTR.out.set (j := 1) (.slice (some ⟨g5, 0, none⟩) n' cs))
              have HTO2 := hide (HTO.out.set (j := 1) (.slice (some ⟨g5, 0, none⟩) n' cs))
              have HTL2 := hide (lenAt1_of (HTR2.out.cell 1 : (U.setCell ⟨S6, 1, none⟩ (.slice (some ⟨g5, 0, none⟩) n' cs)).cell? ⟨S6, 1, none⟩ = some (.slice (some ⟨g5, 0, none⟩) n' cs)))
              obtain ⟨p5, c5, hcl⟩ := HCL5.out
              have he4 : (((fs[n']'hnl).length : Int) == 0) = true := by simpa [empL] using he
              generalize (fs[n']'hnl).length = Y5 at hcl he4
              clear he
              go_wp2
              go_roundw
              case rel => exact ⟨_, n', rfl, by omega, HTR2, HTO2, HTT2⟩
              case measure => rw [HTL2.out, HTL.out]; have := HN'.out; omega



  · have hb : (N3.toList == [77, 83, 72]) = false := by simpa [msh] using toList_neF hmsh
    have HMS := hide hmsh
    clear hmsh
    have HHD := hide (show headR m t.data.toList = some (N3, RS.data.toList) by
      unfold headR
      rw [if_neg (by omega), ← HN3.out, if_neg HMS.out, ← HRS3.out])
    go_upto_region 9 with fail
    obtain ⟨RV, hRV⟩ : ∃ RV, RV = RS := ⟨_, rfl⟩
    rw [← hRV] at HHD HRSs ⊢
    have HRVs0 := HRSs
    clear hRV c60 hb
    have HRVs := HRVs0
    by_cases hr0 : RV.size = 0
    · have hre : RV = ⟨#[]⟩ := ByteArray.ext (Array.eq_empty_of_size_eq_zero hr0)
      have HSM0 := hide (show segMd m t.data.toList = some (N3, []) by unfold segMd; rw [HHD.out, hre]; rfl)
      have hrb : (RV.toList == []) = true := by rw [hre]; simp
      obtain rfl : R = some (N3, []) := by rw [HRX.out]; exact HSM0.out
      clear hr0 hre
      have k0 : W.cell? ⟨w.heap.size, 0, none⟩ = some (.string ⟨#[]⟩) := HRR.out.cell 0
      have k1 : W.cell? ⟨w.heap.size, 1, none⟩ = some (.slice none 0 0) := HRR.out.cell 1
      have f0 := HRR.out.free 0
      have f1 := HRR.out.free 1
      have s0 : W.cell? ⟨S6, 0, none⟩ = some (.string N3) := HRS.out.cell 0
      have s1 : W.cell? ⟨S6, 1, none⟩ = some (.slice none 0 0) := HRS.out.cell 1
      have t2 := (HRR.out.set (j := 0) (.string N3)).set (j := 1) (.slice none 0 0)
      have q0 : ((W.setCell ⟨w.heap.size, 0, none⟩ (.string N3)).setCell ⟨w.heap.size, 1, none⟩ (.slice none 0 0)).cell? ⟨w.heap.size, 0, none⟩ = some (.string N3) := t2.cell 0
      have q1 : ((W.setCell ⟨w.heap.size, 0, none⟩ (.string N3)).setCell ⟨w.heap.size, 1, none⟩ (.slice none 0 0)).cell? ⟨w.heap.size, 1, none⟩ = some (.slice none 0 0) := t2.cell 1
      have HBF := hide ((HBW.out.setCell (p := ⟨w.heap.size, 0, none⟩) (Nat.le_refl _) (.string N3)).setCell (p := ⟨w.heap.size, 1, none⟩) (Nat.le_refl _) (.slice none 0 0))
      clear t2
      go_wp2
      exact bodyPost_ret (v := .tuple #[.agg #[.string N3, .slice none 0 0], .bool true]) (by simp [results, Tryz.results17, go_sem, q0, q1]) rfl ⟨⟨none, 0, rfl, ⟨none, 0, rfl, Nat.le_refl _, Nat.zero_le _, fun h => absurd h (Nat.lt_irrefl 0)⟩⟩, HBF.out⟩

    have hr1 : 0 < RV.size := by omega
    have hrb : (RV.toList == []) = false := by
      have h := toList_neF (show RV ≠ ⟨#[]⟩ from fun h => hr0 (by rw [h]; rfl))
      simpa using h
    have HB0 := hide (bAt_get m 0 h0m)
    have HRL := hide (show RV.data.toList = (RV[0]'hr1) :: (RV.extract 1 RV.size).data.toList by
      rw [extract_listE]
      have h9 : 0 < RV.data.toList.length := by simpa using hr1
      have e := List.drop_eq_getElem_cons h9
      rw [List.drop_zero] at e
      exact e)
    have hrj : (1 : Int) ≤ (RV.size : Int) := by omega
    have hri : (0 : Int) < (RV.size : Int) := by omega
    by_cases h00 : RV[0]'hr1 = m[0]'h0m
    case neg =>
      have HSM0 := hide (show segMd m t.data.toList = none by unfold segMd; rw [HHD.out]; show (fldsM m RV.data.toList).bind _ = none; rw [HRL.out, fldsM, if_neg (by rw [HB0.out]; exact h00)]; rfl)
      have hne : ¬ ((RV[0]'hr1).toNat : Int) = ((m[0]'h0m).toNat : Int) := fun e => h00 (UInt8.toNat_inj.1 (by omega))
      have hneb : (((RV[0]'hr1).toNat : Int) != ((m[0]'h0m).toNat : Int)) = true := by simpa using hne
      obtain rfl : R = none := by rw [HRX.out]; exact HSM0.out
      clear h00 hr0
      go_wp2_with fail
      refine wp_region_held (S := (fun _ : World => True)) (by kernel_rfl) ?_
      have HZ0 := hide (show Below W.heap.size W { W with drawn := W.drawn + 1 } from (Below.refl _ _).drew)
      generalize ({ W with drawn := W.drawn + 1 } : World) = W0 at HZ0 ⊢
      have HS : Hid True := trivial
      refine wpAnyH_take (i := 0) (oi := _) (v := .string RV) rfl (by kernel_rfl) (by kernel_rfl) (by kernel_rfl) (fun _ _ _ h => h) (Or.inl ⟨by rfl, by intro w hSw; go_split_ands; go_simp⟩) HS.out ?_
      simp only [Act.put, List.getElem_toArray, List.getElem_cons_zero, List.setIfInBounds_toArray, List.set_cons_zero, List.set_cons_succ]
      refine wpAnyH_take (i := 1) (oi := _) (v := .int .u8 (((RV[0]'hr1).toNat : Nat) : Int)) rfl (by kernel_rfl) (by kernel_rfl) (by kernel_rfl) (fun _ _ _ h => h) (Or.inl ⟨by rfl, by intro w hSw; go_split_ands; go_simp⟩) HS.out ?_
      simp only [Act.put, List.getElem_toArray, List.getElem_cons_zero, List.getElem_cons_succ, List.setIfInBounds_toArray, List.set_cons_zero, List.set_cons_succ]
      refine wpAnyH_take (i := 2) (oi := _) (v := .string m) rfl (by kernel_rfl) (by kernel_rfl) (by kernel_rfl) (fun _ _ _ h => h) (Or.inl ⟨by rfl, by intro w hSw; go_split_ands; go_simp⟩) HS.out ?_
      simp only [Act.put, List.getElem_toArray, List.getElem_cons_zero, List.getElem_cons_succ, List.setIfInBounds_toArray, List.set_cons_zero, List.set_cons_succ]
      refine wpAnyH_take (i := 3) (oi := _) (v := .int .u8 (((m[0]'h0m).toNat : Nat) : Int)) rfl (by kernel_rfl) (by kernel_rfl) (by kernel_rfl) (fun _ _ _ h => h) (Or.inl ⟨by rfl, by intro w hSw; go_split_ands; go_simp⟩) HS.out ?_
      simp only [Act.put, List.getElem_toArray, List.getElem_cons_zero, List.getElem_cons_succ, List.setIfInBounds_toArray, List.set_cons_zero, List.set_cons_succ]
      refine wpAnyH_take (i := 4) (oi := _) (v := .bool true) rfl (by kernel_rfl) (by kernel_rfl) (by kernel_rfl) (fun _ _ _ h => h) (Or.inl ⟨by rfl, by intro w hSw; go_split_ands; go_simp⟩) HS.out ?_
      simp only [Act.put, List.getElem_toArray, List.getElem_cons_zero, List.getElem_cons_succ, List.setIfInBounds_toArray, List.set_cons_zero, List.set_cons_succ]
      refine wpAnyH_done (by kernel_rfl) ?_ _
      clear HS
      have HRR1 := hide (HRR.out.below HZ0.out HRR.out.lt)
      have HRS1 := hide (HRS.out.below HZ0.out HRS.out.lt)
      have HBW1 := hide (HBW.out.trans (HZ0.out.mono HBW.out.size))
      have k0 : W0.cell? ⟨w.heap.size, 0, none⟩ = some (.string ⟨#[]⟩) := HRR1.out.cell 0
      have k1 : W0.cell? ⟨w.heap.size, 1, none⟩ = some (.slice none 0 0) := HRR1.out.cell 1
      have f0 := HRR1.out.free 0
      have f1 := HRR1.out.free 1
      have s0 : W0.cell? ⟨S6, 0, none⟩ = some (.string N3) := HRS1.out.cell 0
      have s1 : W0.cell? ⟨S6, 1, none⟩ = some (.slice none 0 0) := HRS1.out.cell 1
      have t2 := (HRR1.out.set (j := 0) (.string N3)).set (j := 1) (.slice none 0 0)
      have q0 : ((W0.setCell ⟨w.heap.size, 0, none⟩ (.string N3)).setCell ⟨w.heap.size, 1, none⟩ (.slice none 0 0)).cell? ⟨w.heap.size, 0, none⟩ = some (.string N3) := t2.cell 0
      have q1 : ((W0.setCell ⟨w.heap.size, 0, none⟩ (.string N3)).setCell ⟨w.heap.size, 1, none⟩ (.slice none 0 0)).cell? ⟨w.heap.size, 1, none⟩ = some (.slice none 0 0) := t2.cell 1
      have HBF := hide ((HBW1.out.setCell (p := ⟨w.heap.size, 0, none⟩) (Nat.le_refl _) (.string N3)).setCell (p := ⟨w.heap.size, 1, none⟩) (Nat.le_refl _) (.slice none 0 0))
      clear t2
      go_wp2
      exact bodyPost_ret (v := .tuple #[.agg #[.string N3, .slice none 0 0], .bool false]) (by simp [results, Tryz.results17, go_sem, q0, q1]) rfl ⟨⟨N3, rfl⟩, HBF.out⟩

    have HFM := hide (show segMd m t.data.toList = some (N3, trimR empL ((cutL (bAt m 0) (RV.extract 1 RV.size).data.toList).map (fldM m))) by unfold segMd; rw [HHD.out]; show (fldsM m RV.data.toList).bind _ = _; rw [HRL.out, fldsM, if_pos (by rw [HB0.out]; exact h00)]; rfl)
    have heq : ((RV[0]'hr1).toNat : Int) = ((m[0]'h0m).toNat : Int) := by rw [h00]
    have heqb : (((RV[0]'hr1).toNat : Int) != ((m[0]'h0m).toNat : Int)) = false := by rw [heq]; simp
    clear hr0
    go_wp2_with fail
    refine wp_region_held (S := (fun _ : World => True)) (by kernel_rfl) ?_
    have HZ0 := hide (show Below W.heap.size W { W with drawn := W.drawn + 1 } from (Below.refl _ _).drew)
    generalize ({ W with drawn := W.drawn + 1 } : World) = W0 at HZ0 ⊢
    have HS : Hid True := trivial
    refine wpAnyH_take (i := 0) (oi := _) (v := .string RV) rfl (by kernel_rfl) (by kernel_rfl) (by kernel_rfl) (fun _ _ _ h => h) (Or.inl ⟨by rfl, by intro w hSw; go_split_ands; go_simp⟩) HS.out ?_
    simp only [Act.put, List.getElem_toArray, List.getElem_cons_zero, List.setIfInBounds_toArray, List.set_cons_zero, List.set_cons_succ]
    refine wpAnyH_take (i := 1) (oi := _) (v := .int .u8 (((RV[0]'hr1).toNat : Nat) : Int)) rfl (by kernel_rfl) (by kernel_rfl) (by kernel_rfl) (fun _ _ _ h => h) (Or.inl ⟨by rfl, by intro w hSw; go_split_ands; go_simp⟩) HS.out ?_
    simp only [Act.put, List.getElem_toArray, List.getElem_cons_zero, List.getElem_cons_succ, List.setIfInBounds_toArray, List.set_cons_zero, List.set_cons_succ]
    refine wpAnyH_take (i := 2) (oi := _) (v := .string m) rfl (by kernel_rfl) (by kernel_rfl) (by kernel_rfl) (fun _ _ _ h => h) (Or.inl ⟨by rfl, by intro w hSw; go_split_ands; go_simp⟩) HS.out ?_
    simp only [Act.put, List.getElem_toArray, List.getElem_cons_zero, List.getElem_cons_succ, List.setIfInBounds_toArray, List.set_cons_zero, List.set_cons_succ]
    refine wpAnyH_take (i := 3) (oi := _) (v := .int .u8 (((m[0]'h0m).toNat : Nat) : Int)) rfl (by kernel_rfl) (by kernel_rfl) (by kernel_rfl) (fun _ _ _ h => h) (Or.inl ⟨by rfl, by intro w hSw; go_split_ands; go_simp⟩) HS.out ?_
    simp only [Act.put, List.getElem_toArray, List.getElem_cons_zero, List.getElem_cons_succ, List.setIfInBounds_toArray, List.set_cons_zero, List.set_cons_succ]
    refine wpAnyH_take (i := 4) (oi := _) (v := .bool false) rfl (by kernel_rfl) (by kernel_rfl) (by kernel_rfl) (fun _ _ _ h => h) (Or.inl ⟨by rfl, by intro w hSw; go_split_ands; go_simp⟩) HS.out ?_
    simp only [Act.put, List.getElem_toArray, List.getElem_cons_zero, List.getElem_cons_succ, List.setIfInBounds_toArray, List.set_cons_zero, List.set_cons_succ]
    refine wpAnyH_done (by kernel_rfl) ?_ _
    clear HS
    have HRR1 := hide (HRR.out.below HZ0.out HRR.out.lt)
    have HRS1 := hide (HRS.out.below HZ0.out HRS.out.lt)
    have HBW1 := hide (HBW.out.trans (HZ0.out.mono HBW.out.size))
    go_wp2_with fail
    refine wp_region_held (S := (fun _ : World => True)) (by kernel_rfl) ?_
    have HZ1 := hide (show Below W0.heap.size W0 { W0 with drawn := W0.drawn + 1 } from (Below.refl _ _).drew)
    generalize ({ W0 with drawn := W0.drawn + 1 } : World) = W1 at HZ1 ⊢
    have HS : Hid True := trivial
    refine wpAnyH_take (i := 0) (oi := _) (v := .string RV) rfl (by kernel_rfl) (by kernel_rfl) (by kernel_rfl) (fun _ _ _ h => h) (Or.inl ⟨by rfl, by intro w hSw; go_split_ands; go_simp⟩) HS.out ?_
    simp only [Act.put, List.getElem_toArray, List.getElem_cons_zero, List.setIfInBounds_toArray, List.set_cons_zero, List.set_cons_succ]
    refine wpAnyH_take (i := 1) (oi := _) (v := .string (RV.extract 1 RV.size)) rfl (by kernel_rfl) (by kernel_rfl) (by kernel_rfl) (fun _ _ _ h => h) (Or.inl ⟨by rfl, by intro w hSw; go_split_ands; go_simp⟩) HS.out ?_
    simp only [Act.put, List.getElem_toArray, List.getElem_cons_zero, List.getElem_cons_succ, List.setIfInBounds_toArray, List.set_cons_zero, List.set_cons_succ]
    refine wpAnyH_take (i := 2) (oi := _) (v := .string m) rfl (by kernel_rfl) (by kernel_rfl) (by kernel_rfl) (fun _ _ _ h => h) (Or.inl ⟨by rfl, by intro w hSw; go_split_ands; go_simp⟩) HS.out ?_
    simp only [Act.put, List.getElem_toArray, List.getElem_cons_zero, List.getElem_cons_succ, List.setIfInBounds_toArray, List.set_cons_zero, List.set_cons_succ]
    refine wpAnyH_take (i := 3) (oi := _) (v := .int .u8 (((m[0]'h0m).toNat : Nat) : Int)) rfl (by kernel_rfl) (by kernel_rfl) (by kernel_rfl) (fun _ _ _ h => h) (Or.inl ⟨by rfl, by intro w hSw; go_split_ands; go_simp⟩) HS.out ?_
    simp only [Act.put, List.getElem_toArray, List.getElem_cons_zero, List.getElem_cons_succ, List.setIfInBounds_toArray, List.set_cons_zero, List.set_cons_succ]
    refine wpAnyH_ready (rs := [4]) (by kernel_rfl) (by simp) ?_
    refine AllReadyH.cons (o := _) rfl (fun K hK => ?_) AllReadyH.nil
    go_simp
    refine (l01Split_any (RV.extract 1 RV.size) (m[0]'h0m) _ (by have := HRVs.out; rw [ByteArray.size_extract]; omega)).mono ?_
    rintro e w2 ⟨v8, rfl, ho8, hb8⟩
    have HSPL := hide hb8
    have HOS := hide ho8
    refine hK.out _ _ trivial (fun _ => ?_)
    clear hK K HS ho8 hb8
    have HS : Hid True := trivial
    try simp only [Act.put, List.getElem_toArray, List.getElem_cons_zero, List.getElem_cons_succ, List.setIfInBounds_toArray, List.set_cons_zero, List.set_cons_succ]
    refine wpAnyH_take (i := 5) (oi := _) (v := v8) rfl (by kernel_rfl) (by kernel_rfl) (by kernel_rfl) (fun _ _ _ h => h) (Or.inl ⟨by rfl, by intro w hSw; go_split_ands; go_simp⟩) HS.out ?_
    simp only [Act.put, List.getElem_toArray, List.getElem_cons_zero, List.getElem_cons_succ, List.setIfInBounds_toArray, List.set_cons_zero, List.set_cons_succ]
    refine wpAnyH_done (by kernel_rfl) ?_ _
    clear HS
    have HRR2 := hide ((HRR1.out.below HZ1.out HRR1.out.lt).below HSPL.out (Nat.lt_of_lt_of_le HRR1.out.lt HZ1.out.size))
    have HRS2 := hide ((HRS1.out.below HZ1.out HRS1.out.lt).below HSPL.out (Nat.lt_of_lt_of_le HRS1.out.lt HZ1.out.size))
    have HBW2 := hide ((HBW1.out.trans (HZ1.out.mono HBW1.out.size)).trans (HSPL.out.mono (HBW1.out.trans (HZ1.out.mono HBW1.out.size)).size))
    have HW12 := hide (show S6 < W1.heap.size from Nat.lt_of_lt_of_le HRS1.out.lt HZ1.out.size)
    rw [← HB0.out] at HOS
    have HPL := hide (cutL_len (bAt m 0) (RV.extract 1 RV.size).data.toList)
    obtain ⟨g8, c8, hv8, hc81, hc82, hg81, hg82, cs8, hrow8, hcell8⟩ := pieces_row HOS.out
    subst hv8
    obtain ⟨P, hP⟩ : ∃ P, P = cutL (bAt m 0) (RV.extract 1 RV.size).data.toList := ⟨_, rfl⟩
    rw [← hP] at hcell8 HPL HFM hc82 ⊢
    have HPB := hide (show P.length ≤ 8001 ∧ ∀ p ∈ P, p.length ≤ 8000 by
      have h8 : (RV.extract 1 RV.size).data.toList.length ≤ 8000 := by
        have h9 : (RV.extract 1 RV.size).data.toList.length = (RV.extract 1 RV.size).size := by simp
        rw [h9, ByteArray.size_extract]; have := HRVs.out; omega
      exact ⟨by have := HPL.out.1; omega, fun p hp => by have := HPL.out.2 p hp; omega⟩)
    have HC8 := hide hcell8
    have HR8 := hide hrow8
    have HG8 := hide (show S6 < g8 by have h1 := HW12.out; omega)
    have HSB := hide (show S6 < w2.heap.size by have h1 := HW12.out; have h2 := HSPL.out.size; omega)
    unfold maxLen at hc81
    clear hP hcell8 hrow8 HPL HOS HSPL hg81 hg82 heq h00 hri
    go_wp2_with fail
    go_loopw [9] (fun i wr => ∃ (Z : World) (k : Nat) (lf : Value) (vs : List Value), Z = wr ∧ k ≤ P.length ∧ i = .int .i64 (k : Int) ∧ Hid (Row Z S6 41 [.string N3, lf]) ∧ Hid (Z.ownsRow w2.heap.size 54 1 lf ((P.take k).map (fldM m)).length vs) ∧ Hid (GE QFld w2.heap.size Z lf vs ((P.take k).map (fldM m))) ∧ Hid (Only S6 w2 Z)) (fun i _ => P.length - (intOf i).toNat)
    case atStart => exact ⟨_, 0, _, [], rfl, Nat.zero_le _, rfl, HRS2, hide (World.ownsRow_nil w2 w2.heap.size 54 1), hide GE.nil, hide (Only.refl _ _)⟩
    case round =>
      obtain ⟨Z, k, lf, vs, rfl, hk, rfl, HRC, HOF, HGF, HNZ⟩ := hrel
      by_cases hltk : k < P.length
      · have HLK := hide (show ((P.take k).map (fldM m)).length = k by rw [List.length_map, List.length_take]; omega)
        have HOK := hide (show Z.ownsRow w2.heap.size 54 1 lf k vs by have h := HOF.out; rw [HLK.out] at h; exact h)
        have HWB := hide (show w2.heap.size ≤ Z.heap.size from HNZ.out.size)
        have hki0 : (0 : Int) ≤ (k : Int) := by omega
        have hki : (k : Int) < (P.length : Int) := by omega
        go_wp2_with fail
        have HSS := hide (show ∀ y, Only S6 w2 y → (fun y : World => y.cell? ⟨g8, k, none⟩ = some (.string (asB (P[k]'hltk)))) y from fun y h => by
          show y.cell? ⟨g8, k, none⟩ = _
          rw [(h.row HR8.out (by have := HG8.out; omega)).cell]
          exact HC8.out k hltk)
        refine wp_region_held (S := (fun y : World => y.cell? ⟨g8, k, none⟩ = some (.string (asB (P[k]'hltk))))) (by kernel_rfl) ?_
        have HB0 := hide (show Below Z.heap.size Z { Z with drawn := Z.drawn + 1 } from (Below.refl _ _).drew)
        have HN0 := hide (HNZ.out.below HB0.out)
        have HRC0 := hide (HRC.out.below HB0.out HRC.out.lt)
        have HOC0 := hide (own_below HOK.out HB0.out)
        generalize ({ Z with drawn := Z.drawn + 1 } : World) = Z0 at HB0 HN0 HRC0 HOC0 ⊢
        have HS := hide (HSS.out _ HN0.out)
        refine wpAnyH_take (i := 0) (oi := _) (v := .pointer (some ⟨S6, 1, none⟩)) rfl (by kernel_rfl) (by kernel_rfl) (by kernel_rfl) (fun _ _ _ h => h) (Or.inl ⟨by rfl, by intro w hSw; go_split_ands; go_simp⟩) HS.out ?_
        simp only [Act.put, List.getElem_toArray, List.getElem_cons_zero, List.setIfInBounds_toArray, List.set_cons_zero, List.set_cons_succ]
        refine wpAnyH_take (i := 2) (oi := _) (v := .string m) rfl (by kernel_rfl) (by kernel_rfl) (by kernel_rfl) (fun _ _ _ h => h) (Or.inl ⟨by rfl, by intro w hSw; go_split_ands; go_simp⟩) HS.out ?_
        simp only [Act.put, List.getElem_toArray, List.getElem_cons_zero, List.getElem_cons_succ, List.setIfInBounds_toArray, List.set_cons_zero, List.set_cons_succ]
        refine wpAnyH_take (i := 3) (oi := _) (v := .slice (some ⟨g8, 0, none⟩) P.length c8) rfl (by kernel_rfl) (by kernel_rfl) (by kernel_rfl) (fun _ _ _ h => h) (Or.inl ⟨by rfl, by intro w hSw; go_split_ands; go_simp⟩) HS.out ?_
        simp only [Act.put, List.getElem_toArray, List.getElem_cons_zero, List.getElem_cons_succ, List.setIfInBounds_toArray, List.set_cons_zero, List.set_cons_succ]
        refine wpAnyH_take (i := 4) (oi := _) (v := .int .i64 (k : Int)) rfl (by kernel_rfl) (by kernel_rfl) (by kernel_rfl) (fun _ _ _ h => h) (Or.inl ⟨by rfl, by intro w hSw; go_split_ands; go_simp⟩) HS.out ?_
        simp only [Act.put, List.getElem_toArray, List.getElem_cons_zero, List.getElem_cons_succ, List.setIfInBounds_toArray, List.set_cons_zero, List.set_cons_succ]
        refine wpAnyH_take (i := 5) (oi := _) (v := .pointer (some ⟨g8, k, none⟩)) rfl (by kernel_rfl) (by kernel_rfl) (by kernel_rfl) (fun _ _ _ h => h) (Or.inl ⟨by rfl, by intro w hSw; go_split_ands; go_simp⟩) HS.out ?_
        simp only [Act.put, List.getElem_toArray, List.getElem_cons_zero, List.getElem_cons_succ, List.setIfInBounds_toArray, List.set_cons_zero, List.set_cons_succ]
        refine wpAnyH_take (i := 6) (oi := _) (v := .string (asB (P[k]'hltk))) rfl (by kernel_rfl) (by kernel_rfl) (by kernel_rfl) (fun _ _ _ h => h) (Or.inl ⟨by rfl, by intro w hSw; go_split_ands; go_simp⟩) HS.out ?_
        simp only [Act.put, List.getElem_toArray, List.getElem_cons_zero, List.getElem_cons_succ, List.setIfInBounds_toArray, List.set_cons_zero, List.set_cons_succ]
        refine wpAnyH_ready (rs := [1, 7]) (by kernel_rfl) (by simp) ?_
        refine AllReadyH.cons (o := _) rfl (fun K hK => ?_) (AllReadyH.cons (o := _) rfl (fun K hK => ?_) AllReadyH.nil)
        · have c5 : Z0.cell? ⟨S6, 1, none⟩ = some lf := (HRC0.out).cell 1
          go_simp
          refine hK.out _ _ HS.out (fun _ => ?_)
          clear hK K c5
          try simp only [Act.put, List.getElem_toArray, List.getElem_cons_zero, List.getElem_cons_succ, List.setIfInBounds_toArray, List.set_cons_zero, List.set_cons_succ]
          refine wpAnyH_ready (rs := [7]) (by kernel_rfl) (by simp) ?_
          refine AllReadyH.cons (o := _) rfl (fun K hK => ?_) AllReadyH.nil
          go_simp
          refine (l04Read_any m (asB (P[k]'hltk)) _ hm (by rw [asB_size]; have := HPB.out.2 _ (List.getElem_mem hltk); omega)).mono ?_
          rintro e Z1 ⟨pf, cf, rfl, hqf, hb1⟩
          rw [show (asB (P[k]'hltk)).data.toList = P[k]'hltk by simp [asB]] at hqf ⊢
          have HB1 := hide (HB0.out.trans (hb1.mono HB0.out.size))
          have HN1 := hide (HN0.out.below hb1)
          have HRC1 := hide (HRC0.out.below hb1 HRC0.out.lt)
          have HOC1 := hide (own_below HOC0.out hb1)
          have HQF := hide hqf
          have HQA := hide (show Z.heap.size ≤ Z0.heap.size from HB0.out.size)
          refine hK.out _ _ (HSS.out _ HN1.out) (fun _ => ?_)
          clear hK K HS hb1 hqf
          have HS := hide (HSS.out _ HN1.out)
          obtain ⟨FX, hFX⟩ : ∃ FX, FX = fldM m (P[k]'hltk) := ⟨_, rfl⟩
          rw [← hFX] at HQF ⊢
          have HFX := hide hFX
          clear hFX
          try simp only [Act.put, List.getElem_toArray, List.getElem_cons_zero, List.getElem_cons_succ, List.setIfInBounds_toArray, List.set_cons_zero, List.set_cons_succ]
          refine wpAnyH_ready (rs := [8]) (by kernel_rfl) (by simp) ?_
          refine AllReadyH.cons (o := _) rfl (fun K hK => ?_) AllReadyH.nil
          go_simp
          have HN2 := hide (HN1.out.alloc' (.cells #[.slice pf FX.length cf] 54))
          have HRU := HRC1
          have HBU := HB1
          have HRC2 := hide (HRC1.out.alloc (.cells #[.slice pf FX.length cf] 54))
          have HOC2 := hide (HOC1.out.alloc (.cells #[.slice pf FX.length cf] 54))
          have HR1 := hide (cell_one_new Z1 (.slice pf FX.length cf) 54)
          have HSZ2 := hide (show w2.heap.size ≤ (Z1.alloc (.cells #[.slice pf FX.length cf] 54)).heap.size from HN2.out.size)
          refine hK.out _ _ (HSS.out _ HN2.out) (fun _ => ?_)
          clear hK K HS
          obtain ⟨Z2, hZ⟩ : ∃ Z, Z = Z1.alloc (.cells #[.slice pf FX.length cf] 54) := ⟨_, rfl⟩
          rw [← hZ] at HN2 HRC2 HOC2 HR1 HSZ2 ⊢
          have HZZ := hide hZ
          obtain ⟨E5, hE5⟩ : ∃ E, E = Z1.heap.size := ⟨_, rfl⟩
          rw [← hE5] at HR1 ⊢
          clear hZ hE5
          have HS := hide (HSS.out _ HN2.out)
          try simp only [Act.put, List.getElem_toArray, List.getElem_cons_zero, List.getElem_cons_succ, List.setIfInBounds_toArray, List.set_cons_zero, List.set_cons_succ]
          refine wpAnyH_ready (rs := [9]) (by kernel_rfl) (by simp) ?_
          refine AllReadyH.cons (o := _) rfl (fun K hK => ?_) AllReadyH.nil
          refine step_own (w := Z2) rfl (.tmp 55) (.tmp 62) 39 rfl w2.heap.size 54 i0 _ 1 24 Tryz.underlying39 hi hz0 hz1 hz2 HZC.out (by omega) lf k _ rfl HOC2.out ⟨E5, 0, none⟩ 1 _ [.slice pf FX.length cf] rfl rfl HR1.out (by simp [Value.oneCell']) (by unfold maxLen; have := HPB.out.1; omega) (by have := HPB.out.1; omega) HSZ2.out ?_
          intro l3 Z9 hown9 hgrow hat
          obtain ⟨pl, cl, hl3⟩ := own_slice1 hown9
          subst hl3
          have HN9 := hide (HN2.out.grown hgrow (fun k hk => (HOC2.out.lt k hk).1))
          rw [HZZ.out] at hgrow hat
          obtain ⟨s1, s2, s3, s4⟩ := grow_step2 (G := S6) (E := 41) (T := 54) (R := QFld) (y := FX) HOF.out HGF.out HBU.out HWB.out HSB.out HQA.out (Nat.le_refl _) HQF.out HRU.out (by rw [HLK.out]; exact hown9) hgrow hat
          have HS1 := hide s1
          have HS2 := hide s2
          have HS3 := hide s3
          have HS4 := hide s4
          clear s1 s2 s3 s4 hown9 hgrow hat
          refine hK.out _ _ (HSS.out _ HN9.out) (fun _ => ?_)
          clear hK K HS
          have HS := hide (HSS.out _ HN9.out)
          try simp only [Act.put, List.getElem_toArray, List.getElem_cons_zero, List.getElem_cons_succ, List.setIfInBounds_toArray, List.set_cons_zero, List.set_cons_succ]
          refine wpAnyH_take (i := 10) (oi := _) (v := .pointer (some ⟨S6, 1, none⟩)) rfl (by kernel_rfl) (by kernel_rfl) (by kernel_rfl) (fun _ _ _ h => h) (Or.inl ⟨by rfl, by intro w hSw; go_split_ands; go_simp⟩) HS.out ?_
          simp only [Act.put, List.getElem_toArray, List.getElem_cons_zero, List.getElem_cons_succ, List.setIfInBounds_toArray, List.set_cons_zero, List.set_cons_succ]
          refine wpAnyH_ready (rs := [11]) (by kernel_rfl) (by simp) ?_
          refine AllReadyH.cons (o := _) rfl (fun K hK => ?_) AllReadyH.nil
          have c9 : Z9.cell? ⟨S6, 1, none⟩ = some lf := HS4.out.cell 1
          have f9 := HS4.out.free 1
          go_simp
          have HNF := hide (HN9.out.set (j := 1) (.slice pl (k + 1) cl))
          refine hK.out _ _ (HSS.out _ HNF.out) (fun _ => ?_)
          clear hK K HS c9 f9
          refine wpAnyH_done (by kernel_rfl) ?_ _
          have HM9 := hide (show (P.take (k + 1)).map (fldM m) = (P.take k).map (fldM m) ++ [FX] by rw [List.take_succ_eq_append_getElem hltk, List.map_append, HFX.out]; rfl)
          rw [← HM9.out] at HS1 HS2
          go_wp2
          go_roundw
          case rel => exact ⟨_, k + 1, _, _, rfl, by omega, by go_num, HS3, HS1, HS2, HNF⟩
          case measure => simp [intOf]; omega
        · go_simp
          refine (l04Read_any m (asB (P[k]'hltk)) _ hm (by rw [asB_size]; have := HPB.out.2 _ (List.getElem_mem hltk); omega)).mono ?_
          rintro e Z1 ⟨pf, cf, rfl, hqf, hb1⟩
          rw [show (asB (P[k]'hltk)).data.toList = P[k]'hltk by simp [asB]] at hqf ⊢
          have HB1 := hide (HB0.out.trans (hb1.mono HB0.out.size))
          have HN1 := hide (HN0.out.below hb1)
          have HRC1 := hide (HRC0.out.below hb1 HRC0.out.lt)
          have HOC1 := hide (own_below HOC0.out hb1)
          have HQF := hide hqf
          have HQA := hide (show Z.heap.size ≤ Z0.heap.size from HB0.out.size)
          refine hK.out _ _ (HSS.out _ HN1.out) (fun _ => ?_)
          clear hK K HS hb1 hqf
          have HS := hide (HSS.out _ HN1.out)
          obtain ⟨FX, hFX⟩ : ∃ FX, FX = fldM m (P[k]'hltk) := ⟨_, rfl⟩
          rw [← hFX] at HQF ⊢
          have HFX := hide hFX
          clear hFX
          try simp only [Act.put, List.getElem_toArray, List.getElem_cons_zero, List.getElem_cons_succ, List.setIfInBounds_toArray, List.set_cons_zero, List.set_cons_succ]
          refine wpAnyH_ready (rs := [1, 8]) (by kernel_rfl) (by simp) ?_
          refine AllReadyH.cons (o := _) rfl (fun K hK => ?_) (AllReadyH.cons (o := _) rfl (fun K hK => ?_) AllReadyH.nil)
          · have c5 : Z1.cell? ⟨S6, 1, none⟩ = some lf := (HRC1.out).cell 1
            go_simp
            refine hK.out _ _ HS.out (fun _ => ?_)
            clear hK K c5
            try simp only [Act.put, List.getElem_toArray, List.getElem_cons_zero, List.getElem_cons_succ, List.setIfInBounds_toArray, List.set_cons_zero, List.set_cons_succ]
            refine wpAnyH_ready (rs := [8]) (by kernel_rfl) (by simp) ?_
            refine AllReadyH.cons (o := _) rfl (fun K hK => ?_) AllReadyH.nil
            go_simp
            have HN2 := hide (HN1.out.alloc' (.cells #[.slice pf FX.length cf] 54))
            have HRU := HRC1
            have HBU := HB1
            have HRC2 := hide (HRC1.out.alloc (.cells #[.slice pf FX.length cf] 54))
            have HOC2 := hide (HOC1.out.alloc (.cells #[.slice pf FX.length cf] 54))
            have HR1 := hide (cell_one_new Z1 (.slice pf FX.length cf) 54)
            have HSZ2 := hide (show w2.heap.size ≤ (Z1.alloc (.cells #[.slice pf FX.length cf] 54)).heap.size from HN2.out.size)
            refine hK.out _ _ (HSS.out _ HN2.out) (fun _ => ?_)
            clear hK K HS
            obtain ⟨Z2, hZ⟩ : ∃ Z, Z = Z1.alloc (.cells #[.slice pf FX.length cf] 54) := ⟨_, rfl⟩
            rw [← hZ] at HN2 HRC2 HOC2 HR1 HSZ2 ⊢
            have HZZ := hide hZ
            obtain ⟨E5, hE5⟩ : ∃ E, E = Z1.heap.size := ⟨_, rfl⟩
            rw [← hE5] at HR1 ⊢
            clear hZ hE5
            have HS := hide (HSS.out _ HN2.out)
            try simp only [Act.put, List.getElem_toArray, List.getElem_cons_zero, List.getElem_cons_succ, List.setIfInBounds_toArray, List.set_cons_zero, List.set_cons_succ]
            refine wpAnyH_ready (rs := [9]) (by kernel_rfl) (by simp) ?_
            refine AllReadyH.cons (o := _) rfl (fun K hK => ?_) AllReadyH.nil
            refine step_own (w := Z2) rfl (.tmp 55) (.tmp 62) 39 rfl w2.heap.size 54 i0 _ 1 24 Tryz.underlying39 hi hz0 hz1 hz2 HZC.out (by omega) lf k _ rfl HOC2.out ⟨E5, 0, none⟩ 1 _ [.slice pf FX.length cf] rfl rfl HR1.out (by simp [Value.oneCell']) (by unfold maxLen; have := HPB.out.1; omega) (by have := HPB.out.1; omega) HSZ2.out ?_
            intro l3 Z9 hown9 hgrow hat
            obtain ⟨pl, cl, hl3⟩ := own_slice1 hown9
            subst hl3
            have HN9 := hide (HN2.out.grown hgrow (fun k hk => (HOC2.out.lt k hk).1))
            rw [HZZ.out] at hgrow hat
            obtain ⟨s1, s2, s3, s4⟩ := grow_step2 (G := S6) (E := 41) (T := 54) (R := QFld) (y := FX) HOF.out HGF.out HBU.out HWB.out HSB.out HQA.out (Nat.le_refl _) HQF.out HRU.out (by rw [HLK.out]; exact hown9) hgrow hat
            have HS1 := hide s1
            have HS2 := hide s2
            have HS3 := hide s3
            have HS4 := hide s4
            clear s1 s2 s3 s4 hown9 hgrow hat
            refine hK.out _ _ (HSS.out _ HN9.out) (fun _ => ?_)
            clear hK K HS
            have HS := hide (HSS.out _ HN9.out)
            try simp only [Act.put, List.getElem_toArray, List.getElem_cons_zero, List.getElem_cons_succ, List.setIfInBounds_toArray, List.set_cons_zero, List.set_cons_succ]
            refine wpAnyH_take (i := 10) (oi := _) (v := .pointer (some ⟨S6, 1, none⟩)) rfl (by kernel_rfl) (by kernel_rfl) (by kernel_rfl) (fun _ _ _ h => h) (Or.inl ⟨by rfl, by intro w hSw; go_split_ands; go_simp⟩) HS.out ?_
            simp only [Act.put, List.getElem_toArray, List.getElem_cons_zero, List.getElem_cons_succ, List.setIfInBounds_toArray, List.set_cons_zero, List.set_cons_succ]
            refine wpAnyH_ready (rs := [11]) (by kernel_rfl) (by simp) ?_
            refine AllReadyH.cons (o := _) rfl (fun K hK => ?_) AllReadyH.nil
            have c9 : Z9.cell? ⟨S6, 1, none⟩ = some lf := HS4.out.cell 1
            have f9 := HS4.out.free 1
            go_simp
            have HNF := hide (HN9.out.set (j := 1) (.slice pl (k + 1) cl))
            refine hK.out _ _ (HSS.out _ HNF.out) (fun _ => ?_)
            clear hK K HS c9 f9
            refine wpAnyH_done (by kernel_rfl) ?_ _
            have HM9 := hide (show (P.take (k + 1)).map (fldM m) = (P.take k).map (fldM m) ++ [FX] by rw [List.take_succ_eq_append_getElem hltk, List.map_append, HFX.out]; rfl)
            rw [← HM9.out] at HS1 HS2
            go_wp2
            go_roundw
            case rel => exact ⟨_, k + 1, _, _, rfl, by omega, by go_num, HS3, HS1, HS2, HNF⟩
            case measure => simp [intOf]; omega
          · go_simp
            have HN2 := hide (HN1.out.alloc' (.cells #[.slice pf FX.length cf] 54))
            have HRU := HRC1
            have HBU := HB1
            have HRC2 := hide (HRC1.out.alloc (.cells #[.slice pf FX.length cf] 54))
            have HOC2 := hide (HOC1.out.alloc (.cells #[.slice pf FX.length cf] 54))
            have HR1 := hide (cell_one_new Z1 (.slice pf FX.length cf) 54)
            have HSZ2 := hide (show w2.heap.size ≤ (Z1.alloc (.cells #[.slice pf FX.length cf] 54)).heap.size from HN2.out.size)
            refine hK.out _ _ (HSS.out _ HN2.out) (fun _ => ?_)
            clear hK K HS
            obtain ⟨Z2, hZ⟩ : ∃ Z, Z = Z1.alloc (.cells #[.slice pf FX.length cf] 54) := ⟨_, rfl⟩
            rw [← hZ] at HN2 HRC2 HOC2 HR1 HSZ2 ⊢
            have HZZ := hide hZ
            obtain ⟨E5, hE5⟩ : ∃ E, E = Z1.heap.size := ⟨_, rfl⟩
            rw [← hE5] at HR1 ⊢
            clear hZ hE5
            have HS := hide (HSS.out _ HN2.out)
            try simp only [Act.put, List.getElem_toArray, List.getElem_cons_zero, List.getElem_cons_succ, List.setIfInBounds_toArray, List.set_cons_zero, List.set_cons_succ]
            refine wpAnyH_ready (rs := [1]) (by kernel_rfl) (by simp) ?_
            refine AllReadyH.cons (o := _) rfl (fun K hK => ?_) AllReadyH.nil
            have c5 : Z2.cell? ⟨S6, 1, none⟩ = some lf := (HRC2.out).cell 1
            go_simp
            refine hK.out _ _ HS.out (fun _ => ?_)
            clear hK K c5
            try simp only [Act.put, List.getElem_toArray, List.getElem_cons_zero, List.getElem_cons_succ, List.setIfInBounds_toArray, List.set_cons_zero, List.set_cons_succ]
            refine wpAnyH_ready (rs := [9]) (by kernel_rfl) (by simp) ?_
            refine AllReadyH.cons (o := _) rfl (fun K hK => ?_) AllReadyH.nil
            refine step_own (w := Z2) rfl (.tmp 55) (.tmp 62) 39 rfl w2.heap.size 54 i0 _ 1 24 Tryz.underlying39 hi hz0 hz1 hz2 HZC.out (by omega) lf k _ rfl HOC2.out ⟨E5, 0, none⟩ 1 _ [.slice pf FX.length cf] rfl rfl HR1.out (by simp [Value.oneCell']) (by unfold maxLen; have := HPB.out.1; omega) (by have := HPB.out.1; omega) HSZ2.out ?_
            intro l3 Z9 hown9 hgrow hat
            obtain ⟨pl, cl, hl3⟩ := own_slice1 hown9
            subst hl3
            have HN9 := hide (HN2.out.grown hgrow (fun k hk => (HOC2.out.lt k hk).1))
            rw [HZZ.out] at hgrow hat
            obtain ⟨s1, s2, s3, s4⟩ := grow_step2 (G := S6) (E := 41) (T := 54) (R := QFld) (y := FX) HOF.out HGF.out HBU.out HWB.out HSB.out HQA.out (Nat.le_refl _) HQF.out HRU.out (by rw [HLK.out]; exact hown9) hgrow hat
            have HS1 := hide s1
            have HS2 := hide s2
            have HS3 := hide s3
            have HS4 := hide s4
            clear s1 s2 s3 s4 hown9 hgrow hat
            refine hK.out _ _ (HSS.out _ HN9.out) (fun _ => ?_)
            clear hK K HS
            have HS := hide (HSS.out _ HN9.out)
            try simp only [Act.put, List.getElem_toArray, List.getElem_cons_zero, List.getElem_cons_succ, List.setIfInBounds_toArray, List.set_cons_zero, List.set_cons_succ]
            refine wpAnyH_take (i := 10) (oi := _) (v := .pointer (some ⟨S6, 1, none⟩)) rfl (by kernel_rfl) (by kernel_rfl) (by kernel_rfl) (fun _ _ _ h => h) (Or.inl ⟨by rfl, by intro w hSw; go_split_ands; go_simp⟩) HS.out ?_
            simp only [Act.put, List.getElem_toArray, List.getElem_cons_zero, List.getElem_cons_succ, List.setIfInBounds_toArray, List.set_cons_zero, List.set_cons_succ]
            refine wpAnyH_ready (rs := [11]) (by kernel_rfl) (by simp) ?_
            refine AllReadyH.cons (o := _) rfl (fun K hK => ?_) AllReadyH.nil
            have c9 : Z9.cell? ⟨S6, 1, none⟩ = some lf := HS4.out.cell 1
            have f9 := HS4.out.free 1
            go_simp
            have HNF := hide (HN9.out.set (j := 1) (.slice pl (k + 1) cl))
            refine hK.out _ _ (HSS.out _ HNF.out) (fun _ => ?_)
            clear hK K HS c9 f9
            refine wpAnyH_done (by kernel_rfl) ?_ _
            have HM9 := hide (show (P.take (k + 1)).map (fldM m) = (P.take k).map (fldM m) ++ [FX] by rw [List.take_succ_eq_append_getElem hltk, List.map_append, HFX.out]; rfl)
            rw [← HM9.out] at HS1 HS2
            go_wp2
            go_roundw
            case rel => exact ⟨_, k + 1, _, _, rfl, by omega, by go_num, HS3, HS1, HS2, HNF⟩
            case measure => simp [intOf]; omega

      · have ek : P.take k = P := List.take_of_length_le (by omega)
        have HSM := hide (show segMd m t.data.toList = some (N3, trimR empL (P.map (fldM m))) from HFM.out)
        obtain ⟨fs, hfs⟩ : ∃ fs, fs = P.map (fldM m) := ⟨_, rfl⟩
        rw [ek, ← hfs] at HOF HGF
        rw [← hfs] at HSM
        have HQ0 := hide (HGF.out.ql HOF.out)
        obtain ⟨ps, cs, h1cs, hcaps⟩ : ∃ p c, lf = .slice p fs.length c ∧ (fs.length ≤ c ∧ c ≤ maxLen) := by
          obtain ⟨p, c, e, h1, h2, _⟩ := HQ0.out
          exact ⟨p, c, e, h1, h2⟩
        subst h1cs
        have HSL := hide (show fs.length ≤ 8001 by rw [hfs, List.length_map]; exact HPB.out.1)
        have HCAP := hide hcaps
        have hcms := hcaps.2
        unfold maxLen at hcms
        have HGB := HSB
        have HTR0 := HRC
        have HS6B := hide (show w.heap.size + 1 = S6 ∧ S6 < w2.heap.size from ⟨HS6e.out.symm, HSB.out⟩)
        clear hcaps ek hfs HGF HOF HRC
        go_wp2_with fail
        go_loopw [] (fun wr => ∃ (U : World) (n : Nat), U = wr ∧ n ≤ fs.length ∧ Hid (Row U S6 41 [.string N3, .slice ps n cs]) ∧ Hid (Only S6 Z U) ∧ Hid (trimR empL (fs.take n) = trimR empL fs)) (fun wr => lenAt1 wr S6)
        case atStart => exact ⟨_, _, rfl, Nat.le_refl _, HTR0, hide (Only.refl _ _), hide (by rw [List.take_length])⟩
        case round =>
          obtain ⟨U, n, rfl, hn, HTR, HTO, HTT⟩ := hrel
          have t0 : U.cell? ⟨S6, 1, none⟩ = some (.slice ps n cs) := HTR.out.cell 1
          have HTL := hide (lenAt1_of t0)
          have HQU := hide (Keeps.go (SameIn.ofOnly HTO.out (by have := HGB.out; omega)) HQ0.out)
          by_cases hn0 : n = 0
          · subst hn0
            have HLT := hide (show trimR empL fs = fs.take 0 by rw [← HTT.out]; rfl)
            have HQF := hide (QL.take HQU.out (Nat.zero_le _))
            obtain ⟨F, hF⟩ : ∃ F, F = fs.take 0 := ⟨_, rfl⟩
            have HFL5 := hide (show F.length = 0 by rw [hF]; rfl)
            rw [← hF] at HLT HQF
            clear hF
            have HOU := hide (HNZ.out.trans HTO.out)
            have HRU := hide (HOU.out.row HRR2.out (by have := HS6B.out; omega))
            have r0 : U.cell? ⟨w.heap.size, 0, none⟩ = some (.string ⟨#[]⟩) := HRU.out.cell 0
            have r1 : U.cell? ⟨w.heap.size, 1, none⟩ = some (.slice none 0 0) := HRU.out.cell 1
            have f0 := HRU.out.free 0
            have f1 := HRU.out.free 1
            have t1 : U.cell? ⟨S6, 0, none⟩ = some (.string N3) := HTR.out.cell 0
            have t2 := (HRU.out.set (j := 0) (.string N3)).set (j := 1) (.slice ps 0 cs)
            have q0 : ((U.setCell ⟨w.heap.size, 0, none⟩ (.string N3)).setCell ⟨w.heap.size, 1, none⟩ (.slice ps 0 cs)).cell? ⟨w.heap.size, 0, none⟩ = some (.string N3) := t2.cell 0
            have q1 : ((U.setCell ⟨w.heap.size, 0, none⟩ (.string N3)).setCell ⟨w.heap.size, 1, none⟩ (.slice ps 0 cs)).cell? ⟨w.heap.size, 1, none⟩ = some (.slice ps 0 cs) := t2.cell 1
            have HBE := hide (((HOU.out.toBelow HBW2.out HBW2.out.size (by have := HS6B.out; omega)).setCell (p := ⟨w.heap.size, 0, none⟩) (Nat.le_refl _) (.string N3)).setCell (p := ⟨w.heap.size, 1, none⟩) (Nat.le_refl _) (.slice ps 0 cs))
            have HRF := hide (show RFlds (w.heap.size + 1) ((U.setCell ⟨w.heap.size, 0, none⟩ (.string N3)).setCell ⟨w.heap.size, 1, none⟩ (.slice ps 0 cs)) (.slice ps F.length cs) F by
              rw [HFL5.out]
              exact Lasts.go (B := w.heap.size + 1) (Same.set _ _ (by omega)) (Lasts.go (B := w.heap.size + 1) (Same.set _ _ (by omega)) (RFlds.mono (QFlds.rl HQF.out) (by have := HS6B.out; omega)))
            )
            have HE9 := hide (show segMd m t.data.toList = some (N3, F) by rw [HSM.out, HLT.out])
            obtain rfl : R = some (N3, F) := by rw [HRX.out]; exact HE9.out
            rw [HFL5.out] at HRF
            clear t2
            go_wp2
            exact bodyPost_ret (v := .tuple #[.agg #[.string N3, .slice ps 0 cs], .bool true]) (by simp [results, Tryz.results17, go_sem, q0, q1]) rfl ⟨⟨ps, cs, by rw [HFL5.out], by rw [HFL5.out]; exact HRF.out⟩, HBE.out⟩
          · obtain ⟨n', hn'⟩ : ∃ n', n = n' + 1 := ⟨n - 1, by omega⟩
            have hnl : n' < fs.length := by omega
            have hw1 : IntKind.i64.wrap ((n : Int) - 1) = (n' : Int) := by rw [show ((n : Int) - 1) = (n' : Int) by omega]; have := HSL.out; exact wrap_small _ (by omega) (by omega)
            have hn0' : (0 : Int) < (n : Int) := by omega
            have hn1' : (0 : Int) ≤ (n' : Int) := by omega
            have hn2' : (n' : Int) < (n : Int) := by omega
            have hn3' : (n' : Int) ≤ (cs : Int) := by have := HCAP.out; omega
            have hfr := HTR.out.free 1
            obtain ⟨g5, hp5, HCL5⟩ : ∃ g5, ps = some ⟨g5, 0, none⟩ ∧ Hid (∃ p5 c5, U.cell? ⟨g5, n', none⟩ = some (.slice p5 (fs[n']'hnl).length c5)) := by
              obtain ⟨p', cap', e', _, _, h4'⟩ := HQU.out
              cases e'
              obtain ⟨g5, vs5, rest5, A5, B5, hp5, _, _, hr5, hl5, hE5⟩ := h4' (by omega)
              obtain ⟨_, _, _, h5⟩ := hE5 n' (by omega) hnl
              obtain ⟨p5, c5, hs5⟩ := h5.isSlice
              refine ⟨g5, hp5, hide ⟨p5, c5, ?_⟩⟩
              rw [hr5.cell, List.getElem?_append_left (by omega), List.getElem?_eq_getElem (by omega), hs5]
            subst hp5
            have HN' := hide hn'
            clear hn' hn0
            cases he : empL (fs[n']'hnl)
            · have HLT := hide (show trimR empL fs = fs.take n by rw [← HTT.out, HN'.out]; exact trimR_stop hnl he)
              have HQF := hide (QL.take HQU.out hn)
              have HFL5 := hide (show (fs.take n).length = n by rw [List.length_take]; omega)
              obtain ⟨F, hF⟩ : ∃ F, F = fs.take n := ⟨_, rfl⟩
              rw [← hF] at HLT HQF HFL5
              clear hF
              obtain ⟨p5, c5, hcl⟩ := HCL5.out
              have he4 : (((fs[n']'hnl).length : Int) == 0) = false := by simpa [empL] using he
              generalize (fs[n']'hnl).length = Y5 at hcl he4
              clear he
              have HOU := hide (HNZ.out.trans HTO.out)
              have HRU := hide (HOU.out.row HRR2.out (by have := HS6B.out; omega))
              have r0 : U.cell? ⟨w.heap.size, 0, none⟩ = some (.string ⟨#[]⟩) := HRU.out.cell 0
              have r1 : U.cell? ⟨w.heap.size, 1, none⟩ = some (.slice none 0 0) := HRU.out.cell 1
              have f0 := HRU.out.free 0
              have f1 := HRU.out.free 1
              have t1 : U.cell? ⟨S6, 0, none⟩ = some (.string N3) := HTR.out.cell 0
              have t2 := (HRU.out.set (j := 0) (.string N3)).set (j := 1) (.slice (some ⟨g5, 0, none⟩) n cs)
              have q0 : ((U.setCell ⟨w.heap.size, 0, none⟩ (.string N3)).setCell ⟨w.heap.size, 1, none⟩ (.slice (some ⟨g5, 0, none⟩) n cs)).cell? ⟨w.heap.size, 0, none⟩ = some (.string N3) := t2.cell 0
              have q1 : ((U.setCell ⟨w.heap.size, 0, none⟩ (.string N3)).setCell ⟨w.heap.size, 1, none⟩ (.slice (some ⟨g5, 0, none⟩) n cs)).cell? ⟨w.heap.size, 1, none⟩ = some (.slice (some ⟨g5, 0, none⟩) n cs) := t2.cell 1
              have HBE := hide (((HOU.out.toBelow HBW2.out HBW2.out.size (by have := HS6B.out; omega)).setCell (p := ⟨w.heap.size, 0, none⟩) (Nat.le_refl _) (.string N3)).setCell (p := ⟨w.heap.size, 1, none⟩) (Nat.le_refl _) (.slice (some ⟨g5, 0, none⟩) n cs))
              have HRF := hide (show RFlds (w.heap.size + 1) ((U.setCell ⟨w.heap.size, 0, none⟩ (.string N3)).setCell ⟨w.heap.size, 1, none⟩ (.slice (some ⟨g5, 0, none⟩) n cs)) (.slice (some ⟨g5, 0, none⟩) F.length cs) F by
                rw [HFL5.out]
                exact Lasts.go (B := w.heap.size + 1) (Same.set _ _ (by omega)) (Lasts.go (B := w.heap.size + 1) (Same.set _ _ (by omega)) (RFlds.mono (QFlds.rl HQF.out) (by have := HS6B.out; omega)))
              )
              have HE9 := hide (show segMd m t.data.toList = some (N3, F) by rw [HSM.out, HLT.out])
              obtain rfl : R = some (N3, F) := by rw [HRX.out]; exact HE9.out
              rw [HFL5.out] at HRF
              clear t2
              go_wp2
              exact bodyPost_ret (v := .tuple #[.agg #[.string N3, .slice (some ⟨g5, 0, none⟩) n cs], .bool true]) (by simp [results, Tryz.results17, go_sem, q0, q1]) rfl ⟨⟨(some ⟨g5, 0, none⟩), cs, by rw [HFL5.out], by rw [HFL5.out]; exact HRF.out⟩, HBE.out⟩
            · have HTT2 := hide (show trimR empL (fs.take n') = trimR empL fs by rw [← HTT.out, HN'.out, trimR_take hnl he])
              have HTR2 := hide (HTR.out.set (j := 1) (.slice (some ⟨g5, 0, none⟩) n' cs))
              have HTO2 := hide (HTO.out.set (j := 1) (.slice (some ⟨g5, 0, none⟩) n' cs))
              have HTL2 := hide (lenAt1_of (HTR2.out.cell 1 : (U.setCell ⟨S6, 1, none⟩ (.slice (some ⟨g5, 0, none⟩) n' cs)).cell? ⟨S6, 1, none⟩ = some (.slice (some ⟨g5, 0, none⟩) n' cs)))
              obtain ⟨p5, c5, hcl⟩ := HCL5.out
              have he4 : (((fs[n']'hnl).length : Int) == 0) = true := by simpa [empL] using he
              generalize (fs[n']'hnl).length = Y5 at hcl he4
              clear he
              go_wp2
              go_roundw
              case rel => exact ⟨_, n', rfl, by omega, HTR2, HTO2, HTT2⟩
              case measure => rw [HTL2.out, HTL.out]; have := HN'.out; omega



end Go.Proofs.YtckcfjibiidafaaGreat
/- MessageRight of the model and of the program. -/
namespace Go.Proofs.YtckcfjibiidafaaGreat
open Go.RowKit
/-- Is the Segment at k right, and MSH just if it is the first one? -/
def okSeg (xs : List Seg) (k : Nat) : Bool := if h : k < xs.length then segB xs[k].1 xs[k].2 && (decide (xs[k].1 = msh) == decide (k = 0)) else true
def msgB (m : ByteArray) (xs : List Seg) : Bool := marksB m && decide (1 ≤ xs.length ∧ xs.length ≤ 20) && (List.range xs.length).all (okSeg xs)
theorem msgB_marks {m : ByteArray} {xs : List Seg} (h : marksB m = false) : msgB m xs = false := by simp [msgB, h]
theorem msgB_len {m : ByteArray} {xs : List Seg} (h : ¬ (1 ≤ xs.length ∧ xs.length ≤ 20)) : msgB m xs = false := by
  have : decide (1 ≤ xs.length ∧ xs.length ≤ 20) = false := decide_eq_false h
  simp only [msgB, this, Bool.and_false, Bool.false_and]
theorem msgB_no {m : ByteArray} {xs : List Seg} (k : Nat) (hk : k < xs.length) (h : okSeg xs k = false) : msgB m xs = false := by
  have : (List.range xs.length).all (okSeg xs) = false := List.all_eq_false.2 ⟨k, List.mem_range.2 hk, by simp [h]⟩
  simp [msgB, this]
theorem msgB_yes {m : ByteArray} {xs : List Seg} (h1 : marksB m = true) (h2 : 1 ≤ xs.length ∧ xs.length ≤ 20) (h : ∀ j, j < xs.length → okSeg xs j = true) : msgB m xs = true := by
  have : (List.range xs.length).all (okSeg xs) = true := List.all_eq_true.2 fun j hj => h j (List.mem_range.1 hj)
  simp [msgB, this, h1, h2]
theorem okSeg_eq (xs : List Seg) (k : Nat) (h : k < xs.length) : okSeg xs k = (segB xs[k].1 xs[k].2 && (decide (xs[k].1 = msh) == decide (k = 0))) := by simp [okSeg, h]
theorem okSeg_succ (xs : List Seg) (k : Nat) (h : ∀ j, j < k → okSeg xs j = true) (hk : okSeg xs k = true) : ∀ j, j < k + 1 → okSeg xs j = true := by
  intro j hj
  by_cases e : j = k
  · rw [e]; exact hk
  · exact h j (by omega)
def FitsM (xs : List Seg) : Prop := xs.length ≤ 1048576 ∧ ∀ i (h : i < xs.length), Fits xs[i].2
theorem fitsM_of {xs : List Seg} (h : wSegs xs ≤ 1048576) : FitsM xs := ⟨(wSegs_mem h).1, fun i hi => fits_of ((wSegs_mem h).2 i hi).1⟩
/-- The two tests of a Segment's Name, as the walks meet them. -/
theorem name_tests (n : ByteArray) (k : Nat) : ∃ x y : Bool, (n.toList == [77, 83, 72]) = x ∧ ((k : Int) == 0) = y ∧ (decide (n = msh) == decide (k = 0)) = (x == y) := by
  refine ⟨_, _, rfl, rfl, ?_⟩
  have e1 : (n.toList == [77, 83, 72]) = decide (n = msh) := by
    by_cases h : n = msh
    · subst h; unfold msh; simp
    · have h0 := toList_neF (show n ≠ (⟨#[77, 83, 72]⟩ : ByteArray) from h)
      have h1 : (n.toList == [77, 83, 72]) = false := by simpa using h0
      rw [h1, decide_eq_false h]
  have e2 : ((k : Int) == 0) = decide (k = 0) := by
    by_cases h : k = 0
    · subst h; simp
    · rw [decide_eq_false h]; exact beq_eq_false_iff_ne.2 (by omega)
  rw [e1, e2]

set_option maxHeartbeats 4000000 in
set_option maxRecDepth 100000 in
theorem specMessage_any (m : ByteArray) (u : Value) (x : List Seg) (B : Nat) (w : World) (hm : m.size ≤ maxLen) (hf : FitsM x) (hr : RSegs B w u x) :
    Calls Tryz.prog 18 #[.agg #[.string m, u]] w fun e w' => e = .returned (.bool (msgB m x)) ∧ Below w.heap.size w w' := by
  obtain ⟨R, hR⟩ : ∃ R, R = msgB m x := ⟨_, rfl⟩
  rw [← hR]
  have HR := hide hR
  have HF := hide hf
  clear hR hf
  obtain ⟨p, cap, rfl, h1, h2, h4⟩ := hr
  unfold maxLen at h2
  have H4 := hide h4
  clear h4
  have HB0 := hide ((Below.refl w.heap.size w).alloc (Nat.le_refl _) (.cells #[.string m, .slice p x.length cap] 24))
  have HRow0 := hide (row_new w [.string m, .slice p x.length cap] 24)
  go_enter Tryz.func18, Tryz.ntmps18
  go_wp2_with fail
  refine (specMarksRight_any _ _ hm).mono ?_
  rintro e w' ⟨rfl, rfl⟩
  cases hq : marksB m
  · have HN := hide (show R = false by rw [HR.out]; exact msgB_marks hq)
    go_wp2
    go_ret
    exact ⟨ret_boolF HN.out.symm, HB0.out⟩
  by_cases hl1 : (x.length : Int) < 1
  · have HN := hide (show R = false by rw [HR.out]; exact msgB_len (by omega))
    go_wp2
    go_ret
    exact ⟨ret_boolF HN.out.symm, HB0.out⟩
  by_cases hl2 : 20 < (x.length : Int)
  · have HN := hide (show R = false by rw [HR.out]; exact msgB_len (by omega))
    go_wp2
    go_ret
    exact ⟨ret_boolF HN.out.symm, HB0.out⟩
  have HLL := hide (show 1 ≤ x.length ∧ x.length ≤ 20 by omega)
  go_wp2
  go_loopw [4] (fun i wr => ∃ (X : World) (k : Nat), X = wr ∧ k ≤ x.length ∧ i = .int .i64 k ∧ Hid (Below w.heap.size w X) ∧ Hid (Row X w.heap.size 24 [.string m, .slice p x.length cap]) ∧ Hid (∀ j, j < k → okSeg x j = true)) (fun i _ => x.length - (intOf i).toNat)
  case atStart => exact ⟨_, 0, rfl, Nat.zero_le _, rfl, HB0, HRow0, fun j h => absurd h (by omega)⟩
  case round =>
    obtain ⟨X, k, rfl, hk, rfl, HB, HRow, HA⟩ := hrel
    have c1 : X.cell? ⟨w.heap.size, 1, none⟩ = some (.slice p x.length cap) := HRow.out.cell 1
    by_cases hlt : k < x.length
    · obtain ⟨g, off, hp, hg, _, hc⟩ := H4.out (by omega)
      subst hp
      obtain ⟨ha, _, v, hv, hrv⟩ := hc k hlt
      have hk0 := (HB.out.cell (p := ⟨g, off + k * 2, none⟩) hg).trans ha
      have hk1 := (HB.out.cell (p := ⟨g, off + k * 2 + 1, none⟩) hg).trans hv
      have HAA := hide ha
      have HRV := hide (hrv.below HB.out)
      obtain ⟨vp, vc, rfl⟩ := hrv.isSlice
      have HO := hide (okSeg_eq x k hlt)
      clear hv hrv hc ha
      go_wp2_with fail
      refine (specSegment_any (x[k]'hlt).1 _ (x[k]'hlt).2 B _ (HF.out.2 k hlt) HRV.out).mono ?_
      rintro e w2 ⟨rfl, hb2⟩
      have HB2 := hide (HB.out.trans (hb2.mono HB.out.size))
      have HRow2 := hide (HRow.out.below hb2 HRow.out.lt)
      have d1 : w2.cell? ⟨w.heap.size, 1, none⟩ = some (.slice (some ⟨g, off, none⟩) x.length cap) := HRow2.out.cell 1
      have e0 := (HB2.out.cell (p := ⟨g, off + k * 2, none⟩) hg).trans HAA.out
      clear hb2 hk0 hk1 c1
      cases ho : segB (x[k]'hlt).1 (x[k]'hlt).2
      · have HN := hide (show R = false by rw [HR.out]; exact msgB_no k hlt (by rw [HO.out, ho]; rfl))
        go_wp2
        go_ret
        exact ⟨ret_boolF HN.out.symm, HB2.out⟩
      · obtain ⟨tx, ty, t1, t2, t3⟩ := name_tests (x[k]'hlt).1 k
        have HT3 := hide (show okSeg x k = (tx == ty) by rw [HO.out, ho, t3]; rfl)
        clear t3
        cases tx <;> cases ty
        · have HA2 := hide (okSeg_succ x k HA.out (by rw [HT3.out]; rfl))
          go_wp2
          go_roundw
          case rel => exact ⟨_, k + 1, rfl, by omega, by go_num, HB2, HRow2, HA2⟩
          case measure => simp [intOf]; omega
        · have HN := hide (show R = false by rw [HR.out]; exact msgB_no k hlt (by rw [HT3.out]; rfl))
          go_wp2
          go_ret
          exact ⟨ret_boolF HN.out.symm, HB2.out⟩
        · have HN := hide (show R = false by rw [HR.out]; exact msgB_no k hlt (by rw [HT3.out]; rfl))
          go_wp2
          go_ret
          exact ⟨ret_boolF HN.out.symm, HB2.out⟩
        · have HA2 := hide (okSeg_succ x k HA.out (by rw [HT3.out]; rfl))
          go_wp2
          go_roundw
          case rel => exact ⟨_, k + 1, rfl, by omega, by go_num, HB2, HRow2, HA2⟩
          case measure => simp [intOf]; omega
    · have HY := hide (show R = true by rw [HR.out]; exact msgB_yes hq HLL.out (fun j hj => HA.out j (by omega)))
      go_wp2
      go_ret
      exact ⟨ret_boolF HY.out.symm, HB.out⟩

set_option maxHeartbeats 4000000 in
set_option maxRecDepth 100000 in
theorem implMessage_any (m : ByteArray) (u : Value) (x : List Seg) (w : World) (hm : m.size ≤ maxLen) (hf : FitsM x) (hr : RSegs 0 w u x) :
    Calls Tryz.prog 52 #[.agg #[.string m, u]] w fun e w' => e = .returned (.bool (msgB m x)) ∧ Below w.heap.size w w' := by
  obtain ⟨R, hR⟩ : ∃ R, R = msgB m x := ⟨_, rfl⟩
  rw [← hR]
  have HR := hide hR
  have HF := hide hf
  clear hR hf
  obtain ⟨p, cap, rfl, h1, h2, h4⟩ := hr
  unfold maxLen at h2
  have H4 := hide h4
  clear h4
  have HB0 := hide ((Below.refl w.heap.size w).alloc (Nat.le_refl _) (.cells #[.string m, .slice p x.length cap] 24))
  have HRow0 := hide (row_new w [.string m, .slice p x.length cap] 24)
  go_enter Tryz.func52, Tryz.ntmps52
  go_wp2_with fail
  refine (implMarksRight_any _ _ hm).mono ?_
  rintro e w1 ⟨rfl, hb1⟩
  have HB1 := hide (HB0.out.trans (hb1.mono (by simp)))
  have row1 := HRow0.out.below hb1 HRow0.out.lt
  have c1 : w1.cell? ⟨w.heap.size, 1, none⟩ = some (.slice p x.length cap) := row1.cell 1
  clear hb1 row1
  cases hq : marksB m
  · have HN := hide (show R = false by rw [HR.out]; exact msgB_marks hq)
    go_wp2
    go_ret
    exact ⟨ret_boolF HN.out.symm, HB1.out⟩
  by_cases hl1 : (x.length : Int) < 1
  · have HN := hide (show R = false by rw [HR.out]; exact msgB_len (by omega))
    go_wp2
    go_ret
    exact ⟨ret_boolF HN.out.symm, HB1.out⟩
  by_cases hl2 : 20 < (x.length : Int)
  · have HN := hide (show R = false by rw [HR.out]; exact msgB_len (by omega))
    go_wp2
    go_ret
    exact ⟨ret_boolF HN.out.symm, HB1.out⟩
  have HLL := hide (show 1 ≤ x.length ∧ x.length ≤ 20 by omega)
  go_wp2_with fail
  go_loopw [24] (fun i wr => ∃ (X : World) (k : Nat), X = wr ∧ k ≤ x.length ∧ i = .int .i64 k ∧ Hid (Below w.heap.size w X) ∧ Hid (∀ j, j < k → okSeg x j = true)) (fun i _ => x.length - (intOf i).toNat)
  case atStart => exact ⟨_, 0, rfl, Nat.zero_le _, rfl, HB1, fun j h => absurd h (by omega)⟩
  case round =>
    obtain ⟨X, k, rfl, hk, rfl, HB, HA⟩ := hrel
    by_cases hlt : k < x.length
    · obtain ⟨g, off, hp, hg, _, hc⟩ := H4.out (by omega)
      subst hp
      obtain ⟨ha, _, v, hv, hrv⟩ := hc k hlt
      have hk0 := (HB.out.cell (p := ⟨g, off + k * 2, none⟩) hg).trans ha
      have hk1 := (HB.out.cell (p := ⟨g, off + k * 2 + 1, none⟩) hg).trans hv
      obtain ⟨vp, vc, rfl⟩ := hrv.isSlice
      have hXa : Below w.heap.size w (X.alloc (.cells #[.string (x[k]'hlt).1, .slice vp (x[k]'hlt).2.length vc] 41)) := HB.out.alloc HB.out.size _
      have HXA := hide hXa
      have HRV := hide (hrv.below hXa)
      have HO := hide (okSeg_eq x k hlt)
      clear hv hrv hc ha hXa
      obtain ⟨tx, ty, t1, t2, t3⟩ := name_tests (x[k]'hlt).1 k
      have HT3 := hide t3
      clear t3
      by_cases hxy : tx = ty
      · have hnb : (tx != ty) = false := by rw [hxy]; simp
        subst hxy
        cases tx
        all_goals
          go_wp2_with fail
          refine (implSegment_any (x[k]'hlt).1 _ (x[k]'hlt).2 _ (HF.out.2 k hlt) HRV.out).mono ?_
          rintro e w3 ⟨rfl, hb3⟩
          have HB3 := hide (HXA.out.trans (hb3.mono HXA.out.size))
          clear hb3 hk0 hk1
          cases ho : segB (x[k]'hlt).1 (x[k]'hlt).2
          · have HN := hide (show R = false by rw [HR.out]; exact msgB_no k hlt (by rw [HO.out, ho]; rfl))
            go_wp2
            go_ret
            exact ⟨ret_boolF HN.out.symm, HB3.out⟩
          · have HA2 := hide (okSeg_succ x k HA.out (by rw [HO.out, ho, HT3.out]; rfl))
            go_wp2
            go_roundw
            case rel => exact ⟨_, k + 1, rfl, by omega, by go_num, HB3, HA2⟩
            case measure => simp [intOf]; omega
      · have HN := hide (show R = false by rw [HR.out]; exact msgB_no k hlt (by rw [HO.out, HT3.out]; cases tx <;> cases ty <;> simp_all))
        cases tx <;> cases ty
        · exact absurd rfl hxy
        · go_wp2
          go_ret
          exact ⟨ret_boolF HN.out.symm, HXA.out⟩
        · go_wp2
          go_ret
          exact ⟨ret_boolF HN.out.symm, HXA.out⟩
        · exact absurd rfl hxy
    · have HY := hide (show R = true by rw [HR.out]; exact msgB_yes hq HLL.out (fun j hj => HA.out j (by omega)))
      go_wp2
      go_ret
      exact ⟨ret_boolF HY.out.symm, HB.out⟩
end Go.Proofs.YtckcfjibiidafaaGreat
