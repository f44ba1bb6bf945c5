/- The library's contracts of strings_HasPrefix at this program: each body is held against the one that the contract was proved of. -/
import Derived.Shelf.Small.Wraps
import Derived.Shelf.Strings.Prefix
import Derived.Test.YtfjjbofnfigehaaGreatDoorChecked
import Derived.Test.YtfjjbofnfigehaaGreatDoorXG4VRuleOf
import Derived.Test.YtfjjbofnfigehaaGreatDoorXG22VAskR
import Derived.Test.YtfjjbofnfigehaaGreatDoorXG25VRepL
import Derived.Test.YtfjjbofnfigehaaGreatDoorXG21FParts
import Derived.BigQuiet
namespace Go.Proofs.YtfjjbofnfigehaaGreatDoor
open Go.Shelf
def Tryz.lays99_ren : Go.Shelf.Ren := ⟨fun | 99 => 82 | 206 => 94 | n => n, fun | 9 => 9 | 4 => 4 | 3 => 3 | n => n, fun | n => n⟩
theorem Tryz.lays99 : Go.Proofs.Lays.n99 Tryz.prog Tryz.lays99_ren := {
  mixed := by kernel_rfl
  f99 := Tryz.func82.trans (congrArg some (by kernel_rfl))
  f206 := Tryz.func94.trans (congrArg some (by kernel_rfl))
  t3 := Tryz.underlying3
  a3 := Tryz.isAgg3
  z3 := Tryz.sizeOf3
  v3 := Tryz.zeroValue3
  t4 := Tryz.underlying4
  a4 := Tryz.isAgg4
  z4 := Tryz.sizeOf4
  v4 := Tryz.zeroValue4
  t9 := Tryz.underlying9
  a9 := Tryz.isAgg9
  z9 := Tryz.sizeOf9
  v9 := Tryz.zeroValue9 }
open Go.RowKit Go.Lib in
theorem Tryz.strings_HasPrefix (s p : ByteArray) (w : World) :
    Calls Tryz.prog 82 #[.string s, .string p] w fun e w' => e = .returned (.bool (Lib.hasPrefix s.data.toList p.data.toList)) ∧ w' = w := Any.strings_HasPrefix Tryz.lays99 s p w
end Go.Proofs.YtfjjbofnfigehaaGreatDoor
/- CheckField of the program. -/
namespace Go.Proofs.YtfjjbofnfigehaaGreatDoor
open Go.RowKit
def ownB (s : ByteArray) : Bool := ([90] : List UInt8).isPrefixOf s.data.toList
theorem isOwn_any (s : ByteArray) (w : World) : Calls Tryz.prog 62 #[.string s] w fun e w' => e = .returned (.bool (ownB s)) ∧ w' = w := by
  have HP := hideF (Tryz.strings_HasPrefix s ⟨#[90]⟩ w)
  go_enter Tryz.func62, Tryz.ntmps62
  go_wp2_with fail
  refine HP.out.mono ?_
  rintro e w1 ⟨rfl, rfl⟩
  go_wp2
  go_ret
  exact ⟨rfl, rfl⟩
def codeL (v : Int) (r : RuleM) (x : List (List (List ByteArray))) : Int :=
  if x.length = 0 ∧ r.must = true then 12 else if 0 < x.length ∧ r.ty = 0 then 12 else if 1 < x.length ∧ r.many = false then 12 else if x.all (fun p => repFitsB v r.ty p) = true then 0 else 12
def fieldCodeB (v : Int) (s : ByteArray) (r : RuleM) (x : List (List (List ByteArray))) : Int := if ownB s = true then 0 else codeL v r x
def checkB (v : Int) (s : ByteArray) (f : Int) (x : List (List (List ByteArray))) : Int :=
  if 8000 < s.size then 2 else if (fldB x && verB v && name3 s) = false then 1 else fieldCodeB v s (ruleL v s f) x
set_option maxHeartbeats 8000000 in
set_option maxRecDepth 100000 in
theorem fieldCode_any (v : Int) (s : ByteArray) (f : Int) (vr u : Value) (l : List RuleM) (x : List (List (List ByteArray))) (w : World) (hl : l.length ≤ 28) (hz : ruleIn l s f = zeroR ∨ 1 ≤ (ruleIn l s f).ty) (he : ErrsV w) (hn : wFld x ≤ 1048576) (hr : RRules w vr l) (hx : RFld 0 w u x) :
    Calls Tryz.prog 32 #[.agg #[.int .i64 v, vr], .string s, .int .i64 f, .agg #[u]] w fun e w' => e = .returned (.int .i64 (fieldCodeB v s (ruleIn l s f) x)) ∧ Below w.heap.size w w' := by
  obtain ⟨R, hR⟩ : ∃ R, R = fieldCodeB v s (ruleIn l s f) x := ⟨_, rfl⟩
  rw [← hR]
  have HSZ := hideF (wFld_sizes hn)
  have HM : Hid (∀ i (h : i < x.length), wRep x[i] ≤ 1048576) := fun i h => by have := wL_mem wRep (List.getElem_mem h); have : wL wRep x ≤ 1048576 := hn; omega
  have HR := hideF hR
  have HZ := hideF hz
  have HE := hideF he
  clear hR hz he hn
  obtain ⟨p, cap, rfl, x1, x2, x4⟩ := hx
  obtain ⟨pr, cr, rfl, y1, y2, y4⟩ := hr
  have HX := hideF (show RFld 0 w (.slice p x.length cap) x from ⟨_, _, rfl, x1, x2, x4⟩)
  have HRR := hideF (show RRules w (.slice pr l.length cr) l from ⟨_, _, rfl, y1, y2, y4⟩)
  clear x4 y4
  unfold maxLen at x2
  have hb0 := ((Below.refl w.heap.size w).alloc (Nat.le_refl _) (.cells #[.int .i64 v, .slice pr l.length cr] 61)).alloc (by simp) (.cells #[.slice p x.length cap] 40)
  have HB0 := hideF hb0
  have HRa := hideF ((row_new w [.int .i64 v, .slice pr l.length cr] 61).alloc (.cells #[.slice p x.length cap] 40))
  have HRb : Hid (Row ((w.alloc (.cells #[.int .i64 v, .slice pr l.length cr] 61)).alloc (.cells #[.slice p x.length cap] 40)) (w.heap.size + 1) 40 [.slice p x.length cap]) := hideF (by
    have row0 := row_new (w.alloc (.cells #[.int .i64 v, .slice pr l.length cr] 61)) [.slice p x.length cap] 40
    have esz : (w.alloc (.cells #[.int .i64 v, .slice pr l.length cr] 61)).heap.size = w.heap.size + 1 := by simp
    rw [esz] at row0
    exact row0)
  clear hb0
  obtain ⟨W, hW⟩ : ∃ W, W = (w.alloc (.cells #[.int .i64 v, .slice pr l.length cr] 61)).alloc (.cells #[.slice p x.length cap] 40) := ⟨_, rfl⟩
  rw [← hW] at HB0 HRa HRb
  have c0 : W.cell? ⟨w.heap.size, 0, none⟩ = some (.int .i64 v) := HRa.out.cell 0
  have c1 : W.cell? ⟨w.heap.size, 1, none⟩ = some (.slice pr l.length cr) := HRa.out.cell 1
  go_enter Tryz.func32, Tryz.ntmps32
  go_wp2_with fail
  rw [← hW]
  clear hW
  go_wp2_with fail
  refine (rule_any v s f _ l _ hl (HRR.out.below HB0.out (Nat.le_refl _))).mono ?_
  rintro e w1 ⟨rfl, hb1⟩
  have HRa1 := hideF (HRa.out.below hb1 HRa.out.lt)
  have HRb1 := hideF (HRb.out.below hb1 HRb.out.lt)
  have HB1 := hideF (HB0.out.trans (hb1.mono HB0.out.size))
  clear hb1 HRa HRb HB0 c0 c1
  obtain ⟨r, hr⟩ : ∃ r, r = ruleIn l s f := ⟨_, rfl⟩
  rw [← hr] at HR HZ ⊢
  clear hr
  unfold RuleM.v
  have HRr := hideF (row6 w1 r 88)
  have HRa2 := hideF (HRa1.out.alloc (.cells #[.string r.seg, .int .i64 r.fld, .int .i64 r.ty, .bool r.must, .bool r.many, .int .i64 r.since] 88))
  have HRb2 := hideF (HRb1.out.alloc (.cells #[.string r.seg, .int .i64 r.fld, .int .i64 r.ty, .bool r.must, .bool r.many, .int .i64 r.since] 88))
  have HB2 := hideF (HB1.out.alloc HB1.out.size (.cells #[.string r.seg, .int .i64 r.fld, .int .i64 r.ty, .bool r.must, .bool r.many, .int .i64 r.since] 88))
  obtain ⟨G, hG⟩ : ∃ G, G = w1.heap.size := ⟨_, rfl⟩
  rw [← hG] at HRr
  have HGG := hideF hG
  clear hG HRa1 HRb1 HB1
  go_wp2_with fail
  refine (isOwn_any s _).mono ?_
  rintro e w2 ⟨rfl, rfl⟩
  rw [← HGG.out]
  obtain ⟨X, hX⟩ : ∃ X, X = w1.alloc (.cells #[.string r.seg, .int .i64 r.fld, .int .i64 r.ty, .bool r.must, .bool r.many, .int .i64 r.since] 88) := ⟨_, rfl⟩
  rw [← hX] at HRr HRa2 HRb2 HB2 ⊢
  clear hX HGG
  cases ho : ownB s
  · have HF := hideF (show R = codeL v r x by rw [HR.out, fieldCodeB, ho]; rfl)
    clear HR ho
    have b0 : X.cell? ⟨w.heap.size + 1, 0, none⟩ = some (.slice p x.length cap) := HRb2.out.cell 0
    have g2 : X.cell? ⟨G, 2, none⟩ = some (.int .i64 r.ty) := HRr.out.cell 2
    have g3 : X.cell? ⟨G, 3, none⟩ = some (.bool r.must) := HRr.out.cell 3
    have g4 : X.cell? ⟨G, 4, none⟩ = some (.bool r.many) := HRr.out.cell 4
    have g0 : X.cell? ⟨G, 0, none⟩ = some (.string r.seg) := HRr.out.cell 0
    have g1 : X.cell? ⟨G, 1, none⟩ = some (.int .i64 r.fld) := HRr.out.cell 1
    have g5 : X.cell? ⟨G, 5, none⟩ = some (.int .i64 r.since) := HRr.out.cell 5
    by_cases h0 : x.length = 0
    · have hb : ((x.length : Int) == 0) = true := by simp [h0]
      have hb2 : decide (0 < (x.length : Int)) = false := by simp [h0]
      have hb3 : decide (1 < (x.length : Int)) = false := by simp [h0]
      have hb4 : ¬ (0 : Int) < (x.length : Int) := by omega
      obtain ⟨mu, hmu⟩ : ∃ mu, mu = r.must := ⟨_, rfl⟩
      rw [← hmu] at g3
      have HMU := hideF hmu
      clear hmu
      cases mu
      · have HN := hideF (show R = 0 by rw [HF.out, codeL, if_neg (by rw [← HMU.out]; simp), if_neg (by omega), if_neg (by omega), List.eq_nil_of_length_eq_zero h0]; rfl)
        clear h0
        go_wp2
        refine wp_loop_rounds 1 ?_
        rw [rounds_succ]
        go_wp2
        go_ret
        exact ⟨ret_int HN.out.symm, HB2.out⟩
      · have HN := hideF (show R = 12 by rw [HF.out, codeL, if_pos ⟨h0, HMU.out.symm⟩])
        clear h0
        go_wp2
        go_ret
        exact ⟨ret_int HN.out.symm, HB2.out⟩
    · have hb : ((x.length : Int) == 0) = false := beq_eq_false_iff_ne.2 (by omega)
      have hb2 : decide (0 < (x.length : Int)) = true := by simp; omega
      rcases HZ.out with hz | hz
      · have HN := hideF (show R = 12 by rw [HF.out, codeL, if_neg (fun h => h0 h.1), if_pos ⟨by omega, by rw [hz]; rfl⟩])
        subst hz
        simp only [zeroR] at g0 g1 g2 g3 g4 g5 ⊢
        clear HZ HF
        go_wp2
        go_ret
        exact ⟨ret_int HN.out.symm, HB2.out⟩
      · clear HZ
        by_cases h1 : 1 < x.length
        · have hb3 : decide (1 < (x.length : Int)) = true := by simp; omega
          have hb4 : (1 : Int) < (x.length : Int) := by omega
          obtain ⟨ma, hma⟩ : ∃ ma, ma = r.many := ⟨_, rfl⟩
          rw [← hma] at g4 ⊢
          have HMA := hideF hma
          clear hma
          cases ma
          · have HN := hideF (show R = 12 by rw [HF.out, codeL, if_neg (fun h => h0 h.1), if_neg (fun h => by have := h.2; omega), if_pos ⟨h1, HMA.out.symm⟩])
            clear h1
            go_wp2
            go_ret
            exact ⟨ret_int HN.out.symm, HB2.out⟩
          · have HS12 := hideF (show R = if x.all (fun p => repFitsB v r.ty p) = true then 0 else 12 by rw [HF.out, codeL, if_neg (fun h => h0 h.1), if_neg (fun h => by have := h.2; omega), if_neg (fun h => by have := h.2; rw [← HMA.out] at this; exact absurd this (by decide))])
            clear HF
            go_wp2
            go_loopw [51] (fun i wr => ∃ (Y : World) (j : Nat), Y = wr ∧ j ≤ x.length ∧ i = .int .i64 (j : Int) ∧ Hid (∀ q ∈ x.take j, repFitsB v r.ty q = true) ∧ Hid (Below X.heap.size X Y)) (fun i _ => x.length - (intOf i).toNat)
            case atStart => exact ⟨_, 0, rfl, Nat.zero_le _, rfl, hideF (by simp), hideF (Below.refl _ _)⟩
            case round =>
              obtain ⟨Y, j, rfl, hj, rfl, HA, HBY⟩ := hrel
              by_cases hlt : j < x.length
              · obtain ⟨_, _, e1, _, _, x4⟩ := HX.out
                cases e1
                obtain ⟨g, off, hp, hg, _, hc⟩ := x4 (by omega)
                subst hp
                obtain ⟨u, hu, hru⟩ := hc j hlt
                have HBW := hideF (HB2.out.trans (HBY.out.mono HB2.out.size))
                have hck : Y.cell? ⟨g, off + j, none⟩ = some u := by rw [HBW.out.cell (p := ⟨g, off + j, none⟩) hg]; exact hu
                have HRU := hideF (hru.below HBW.out)
                obtain ⟨up, uc, rfl⟩ := hru.isSlice
                have HBA := hideF (HBW.out.alloc HBW.out.size (.cells #[.slice up (x[j]'hlt).length uc] 29))
                have HBX := hideF (HBY.out.alloc HBY.out.size (.cells #[.slice up (x[j]'hlt).length uc] 29))
                have v0 : (Y.alloc (.cells #[.slice up (x[j]'hlt).length uc] 29)).cell? ⟨w.heap.size, 0, none⟩ = some (.int .i64 v) := (HRa2.out.below HBX.out HRa2.out.lt).cell 0
                have v2 : (Y.alloc (.cells #[.slice up (x[j]'hlt).length uc] 29)).cell? ⟨G, 2, none⟩ = some (.int .i64 r.ty) := (HRr.out.below HBX.out HRr.out.lt).cell 2
                have HRV := hideF (HRU.out.below ((Below.refl Y.heap.size Y).alloc (Nat.le_refl _) (.cells #[.slice up (x[j]'hlt).length uc] 29)))
                have HEV := hideF (HE.out.below HBA.out HE.out.1)
                have HZ1 := hideF (HSZ.out.2.1 j hlt)
                have HZ2 := hideF (HSZ.out.2.2 j hlt)
                have HT : Hid (∀ b, repFitsB v r.ty (x[j]'hlt) = b → (b = true → ∀ q ∈ x.take (j + 1), repFitsB v r.ty q = true) ∧ (b = false → R = 12)) := by
                  intro b hb
                  refine ⟨fun h => ?_, fun h => ?_⟩
                  · rw [List.take_succ_eq_append_getElem hlt]
                    intro q hq
                    rcases List.mem_append.1 hq with hq | hq
                    · exact HA.out q hq
                    · rw [List.mem_singleton.1 hq, hb, h]
                  · rw [HS12.out, if_neg]
                    intro ha
                    have := List.all_eq_true.1 ha (x[j]'hlt) (List.getElem_mem hlt)
                    rw [hb, h] at this
                    exact absurd this (by decide)
                clear hu hru hc x4
                generalize (x[j]'hlt) = rp at *
                go_wp2_with fail
                refine (implRepFits_any v r.ty _ rp _ HZ1.out HZ2.out HEV.out (fun Z h1 h3 hrZ => (kindFits_any v _ rp Z HZ1.out hrZ).mono (fun e w' h => ⟨h.1.trans (by rw [fits8]), h.2⟩)) HRV.out).mono ?_
                rintro e w5 ⟨rfl, hb5⟩
                have HB5 := hideF (HBX.out.trans (hb5.mono HBX.out.size))
                clear hb5 v0 v2 hck
                cases hq : repFitsB v r.ty rp
                · have HN := hideF ((HT.out _ hq).2 rfl)
                  go_wp2
                  go_ret
                  exact ⟨ret_int HN.out.symm, HB2.out.trans (HB5.out.mono HB2.out.size)⟩
                · have HN := hideF ((HT.out _ hq).1 rfl)
                  go_wp2
                  go_roundw
                  case rel => exact ⟨_, j + 1, rfl, by omega, by go_num, HN, HB5⟩
                  case measure => simp [intOf]; omega
              · have HN := hideF (show R = 0 by
                  rw [HS12.out, if_pos]
                  have := HA.out
                  rw [List.take_of_length_le (by omega)] at this
                  exact List.all_eq_true.2 this)
                have HBW := hideF (HB2.out.trans (HBY.out.mono HB2.out.size))
                go_wp2
                go_ret
                exact ⟨ret_int HN.out.symm, HBW.out⟩
        · have hb3 : decide (1 < (x.length : Int)) = false := by simp; omega
          have hb4 : ¬ (1 : Int) < (x.length : Int) := by omega
          have HS12 := hideF (show R = if x.all (fun p => repFitsB v r.ty p) = true then 0 else 12 by rw [HF.out, codeL, if_neg (fun h => h0 h.1), if_neg (fun h => by have := h.2; omega), if_neg (fun h => h1 h.1)])
          clear HF
          go_wp2
          go_loopw [51] (fun i wr => ∃ (Y : World) (j : Nat), Y = wr ∧ j ≤ x.length ∧ i = .int .i64 (j : Int) ∧ Hid (∀ q ∈ x.take j, repFitsB v r.ty q = true) ∧ Hid (Below X.heap.size X Y)) (fun i _ => x.length - (intOf i).toNat)
          case atStart => exact ⟨_, 0, rfl, Nat.zero_le _, rfl, hideF (by simp), hideF (Below.refl _ _)⟩
          case round =>
            obtain ⟨Y, j, rfl, hj, rfl, HA, HBY⟩ := hrel
            by_cases hlt : j < x.length
            · obtain ⟨_, _, e1, _, _, x4⟩ := HX.out
              cases e1
              obtain ⟨g, off, hp, hg, _, hc⟩ := x4 (by omega)
              subst hp
              obtain ⟨u, hu, hru⟩ := hc j hlt
              have HBW := hideF (HB2.out.trans (HBY.out.mono HB2.out.size))
              have hck : Y.cell? ⟨g, off + j, none⟩ = some u := by rw [HBW.out.cell (p := ⟨g, off + j, none⟩) hg]; exact hu
              have HRU := hideF (hru.below HBW.out)
              obtain ⟨up, uc, rfl⟩ := hru.isSlice
              have HBA := hideF (HBW.out.alloc HBW.out.size (.cells #[.slice up (x[j]'hlt).length uc] 29))
              have HBX := hideF (HBY.out.alloc HBY.out.size (.cells #[.slice up (x[j]'hlt).length uc] 29))
              have v0 : (Y.alloc (.cells #[.slice up (x[j]'hlt).length uc] 29)).cell? ⟨w.heap.size, 0, none⟩ = some (.int .i64 v) := (HRa2.out.below HBX.out HRa2.out.lt).cell 0
              have v2 : (Y.alloc (.cells #[.slice up (x[j]'hlt).length uc] 29)).cell? ⟨G, 2, none⟩ = some (.int .i64 r.ty) := (HRr.out.below HBX.out HRr.out.lt).cell 2
              have HRV := hideF (HRU.out.below ((Below.refl Y.heap.size Y).alloc (Nat.le_refl _) (.cells #[.slice up (x[j]'hlt).length uc] 29)))
              have HEV := hideF (HE.out.below HBA.out HE.out.1)
              have HZ1 := hideF (HSZ.out.2.1 j hlt)
              have HZ2 := hideF (HSZ.out.2.2 j hlt)
              have HT : Hid (∀ b, repFitsB v r.ty (x[j]'hlt) = b → (b = true → ∀ q ∈ x.take (j + 1), repFitsB v r.ty q = true) ∧ (b = false → R = 12)) := by
                intro b hb
                refine ⟨fun h => ?_, fun h => ?_⟩
                · rw [List.take_succ_eq_append_getElem hlt]
                  intro q hq
                  rcases List.mem_append.1 hq with hq | hq
                  · exact HA.out q hq
                  · rw [List.mem_singleton.1 hq, hb, h]
                · rw [HS12.out, if_neg]
                  intro ha
                  have := List.all_eq_true.1 ha (x[j]'hlt) (List.getElem_mem hlt)
                  rw [hb, h] at this
                  exact absurd this (by decide)
              clear hu hru hc x4
              generalize (x[j]'hlt) = rp at *
              go_wp2_with fail
              refine (implRepFits_any v r.ty _ rp _ HZ1.out HZ2.out HEV.out (fun Z h1 h3 hrZ => (kindFits_any v _ rp Z HZ1.out hrZ).mono (fun e w' h => ⟨h.1.trans (by rw [fits8]), h.2⟩)) HRV.out).mono ?_
              rintro e w5 ⟨rfl, hb5⟩
              have HB5 := hideF (HBX.out.trans (hb5.mono HBX.out.size))
              clear hb5 v0 v2 hck
              cases hq : repFitsB v r.ty rp
              · have HN := hideF ((HT.out _ hq).2 rfl)
                go_wp2
                go_ret
                exact ⟨ret_int HN.out.symm, HB2.out.trans (HB5.out.mono HB2.out.size)⟩
              · have HN := hideF ((HT.out _ hq).1 rfl)
                go_wp2
                go_roundw
                case rel => exact ⟨_, j + 1, rfl, by omega, by go_num, HN, HB5⟩
                case measure => simp [intOf]; omega
            · have HN := hideF (show R = 0 by
                rw [HS12.out, if_pos]
                have := HA.out
                rw [List.take_of_length_le (by omega)] at this
                exact List.all_eq_true.2 this)
              have HBW := hideF (HB2.out.trans (HBY.out.mono HB2.out.size))
              go_wp2
              go_ret
              exact ⟨ret_int HN.out.symm, HBW.out⟩
  · have HN := hideF (show R = 0 by rw [HR.out, fieldCodeB, ho]; rfl)
    go_wp2
    go_ret
    exact ⟨ret_int HN.out.symm, HB2.out⟩
theorem rule_ok (n : Int) (s : ByteArray) (f : Int) : ruleIn (schL n) s f = zeroR ∨ 1 ≤ (ruleIn (schL n) s f).ty := by
  unfold ruleIn
  cases h : (schL n).find? (atR s f)
  · exact .inl rfl
  · rename_i r
    exact .inr (rulesL_ty r (List.mem_filter.1 (List.mem_of_find?_eq_some h)).1).1
set_option maxHeartbeats 8000000 in
set_option maxRecDepth 100000 in
theorem implCheckField_any (v : Int) (s : ByteArray) (f : Int) (u : Value) (x : List (List (List ByteArray))) (w : World) (he : ErrsV w) (hn : wFld x ≤ 1048576) (hx : RFld 0 w u x) :
    Calls Tryz.prog 13 #[.int .i64 v, .string s, .int .i64 f, .agg #[u]] w fun e w' => e = .returned (.int .i64 (checkB v s f x)) ∧ Below w.heap.size w w' := by
  obtain ⟨R, hR⟩ : ∃ R, R = checkB v s f x := ⟨_, rfl⟩
  rw [← hR]
  have HR := hideF hR
  have HSZ := hideF (wFld_sizes hn)
  have HE := hideF he
  have HWN := hideF hn
  clear hR he hn
  obtain ⟨p, cap, rfl⟩ := hx.isSlice
  have hb0 : Below w.heap.size w (w.alloc (.cells #[.slice p x.length cap] 40)) := (Below.refl _ _).alloc (Nat.le_refl _) _
  have HB0 := hideF hb0
  have HX0 := hideF (hx.below hb0)
  have HRW := hideF (row_new w [.slice p x.length cap] 40)
  obtain ⟨W, hW⟩ : ∃ W, W = w.alloc (.cells #[.slice p x.length cap] 40) := ⟨_, rfl⟩
  rw [← hW] at HB0 HX0 HRW
  have c0 : W.cell? ⟨w.heap.size, 0, none⟩ = some (.slice p x.length cap) := HRW.out.cell 0
  clear hb0 hx
  by_cases h8 : 8000 < s.size
  · have h8' : (8000 : Int) < (s.size : Int) := by omega
    have HN := hideF (show R = 2 by rw [HR.out, checkB, if_pos h8])
    go_enter Tryz.func13, Tryz.ntmps13
    go_wp2_with fail
    rw [← hW]
    go_wp2
    go_ret
    exact ⟨ret_int HN.out.symm, HB0.out⟩
  · have h8' : ¬ (8000 : Int) < (s.size : Int) := by omega
    have HC := hideF (show R = if (fldB x && verB v && name3 s) = false then 1 else fieldCodeB v s (ruleL v s f) x by rw [HR.out, checkB, if_neg h8])
    clear HR h8
    go_enter Tryz.func13, Tryz.ntmps13
    go_wp2_with fail
    rw [← hW]
    clear hW
    go_wp2_with fail
    refine (implFieldRight_any _ x _ HSZ.out.1 HSZ.out.2.1 HSZ.out.2.2 HX0.out).mono ?_
    rintro e w1 ⟨rfl, hb1⟩
    have HB1 := hideF (HB0.out.trans (hb1.mono HB0.out.size))
    have HX1 := hideF (HX0.out.below hb1)
    have HR1 := hideF (HRW.out.below hb1 HRW.out.lt)
    have c1 : w1.cell? ⟨w.heap.size, 0, none⟩ = some (.slice p x.length cap) := HR1.out.cell 0
    clear hb1 c0 HRW HX0 HB0
    cases hf : fldB x
    · have HN := hideF (show R = 1 by rw [HC.out, hf]; rfl)
      go_wp2
      go_ret
      exact ⟨ret_int HN.out.symm, HB1.out⟩
    · go_wp2_with fail
      refine (versionRight_any v _).mono ?_
      rintro e w2 ⟨rfl, rfl⟩
      cases hv : verB v
      · have HN := hideF (show R = 1 by rw [HC.out, hf, hv]; rfl)
        go_wp2
        go_ret
        exact ⟨ret_int HN.out.symm, HB1.out⟩
      · go_wp2_with fail
        refine (nameRight3_any s _).mono ?_
        rintro e w3 ⟨rfl, hb3⟩
        have HB3 := hideF (HB1.out.trans (hb3.mono HB1.out.size))
        have HX3 := hideF (HX1.out.below hb3)
        have HR3 := hideF (HR1.out.below hb3 HR1.out.lt)
        have c3 : w3.cell? ⟨w.heap.size, 0, none⟩ = some (.slice p x.length cap) := HR3.out.cell 0
        clear hb3 c1 HR1 HX1 HB1
        cases hm : name3 s
        · have HN := hideF (show R = 1 by rw [HC.out, hf, hv, hm]; rfl)
          go_wp2
          go_ret
          exact ⟨ret_int HN.out.symm, HB3.out⟩
        · have HN := hideF (show R = fieldCodeB v s (ruleIn (schL v) s f) x by rw [HC.out, hf, hv, hm, ruleL, if_pos hv]; rfl)
          have HSS := hideF (show ∀ y, Below w3.heap.size w3 y → y.cell? ⟨w.heap.size, 0, none⟩ = some (.slice p x.length cap) ∧ Below w3.heap.size w3 y from fun y h => ⟨(HR3.out.below h HR3.out.lt).cell 0, h⟩)
          have HV := hideF hv
          have HWW := hideF HR3.out.lt
          clear hf hv hm HC HR3
          go_wp2_with fail
          go_region_held3 (fun y => y.cell? ⟨w.heap.size, 0, none⟩ = some (.slice p x.length cap) ∧ Below w3.heap.size w3 y)
            ((go_split_ands; refine HSS.out _ ?_; repeat (first | with_reducible assumption | with_reducible exact Below.refl _ _ | with_reducible refine Below.drew ?_)))
            ((first
              | (go_at_call 31; go_split_ands; refine (schemaOf_any v _).mono ?_; rintro e w6 ⟨sv, rfl, hsr, hb6⟩; have HSR := hideF hsr; rw [HV.out] at HSR ⊢; have hB6 : Below w3.heap.size w3 w6 := Below.trans (by assumption) (hb6.mono (Below.size (by assumption))); clear hsr hb6)
              | (go_at_call 32; go_split_ands; refine (fieldCode_any v s f _ _ (schL v) x _ (schL_len v) (rule_ok v s f) (HE.out.below (HB3.out.trans (Below.mono (by assumption) HB3.out.size)) HE.out.1) HWN.out (by first | exact HSR.out | exact HSR.out.below ((Below.refl _ _).drew) (Nat.le_refl _)) (HX3.out.below (by assumption))).mono ?_; rintro e w7 ⟨rfl, hb7⟩; have hB7 : Below w3.heap.size w3 w7 := Below.trans (by assumption) (hb7.mono (Below.size (by assumption))); clear hb7)))
          all_goals
            have HB7 := hideF (HB3.out.trans (hB7.mono HB3.out.size))
            clear hB7
            go_wp2
            go_ret
            exact ⟨ret_int HN.out.symm, HB7.out⟩
end Go.Proofs.YtfjjbofnfigehaaGreatDoor
