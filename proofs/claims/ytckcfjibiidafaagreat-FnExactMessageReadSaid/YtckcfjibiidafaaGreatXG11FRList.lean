/- What stands in pieces, one by one: subs of the program. -/
import Derived.Test.YtckcfjibiidafaaGreatXG8FCut
import Derived.Test.YtckcfjibiidafaaGreatXG6FReadM
import Derived.Test.YtckcfjibiidafaaGreatXG10FPlainI
import Derived.Shelf.Abstract
namespace Go.Proofs.YtckcfjibiidafaaGreat
open Go.RowKit Go.Shelf Go.Proofs
theorem plainRes_parts (o : Option (List UInt8)) : ∃ (p : ByteArray) (b : Bool), plainRes o = .tuple #[.string p, .bool b] := by
  cases o with
  | none => exact ⟨_, _, rfl⟩
  | some u => exact ⟨_, _, rfl⟩
set_option maxHeartbeats 1000000 in
theorem subR_any (m s : ByteArray) (w : World) (hm : marksB m = true) (hs : s.size ≤ 20000000) :
    Calls Tryz.prog 96 #[.agg #[.string m, .bool false], .string s] w fun e w' => e = .returned (plainRes (plainL m s.data.toList)) ∧ Below w.heap.size w w' := by
  have HB := hide (show Below w.heap.size w (w.alloc (.cells #[.string m, .bool false] 47)) from (Below.refl _ _).alloc (Nat.le_refl _) _)
  obtain ⟨p, b, hpb⟩ := plainRes_parts (plainL m s.data.toList)
  rw [hpb]
  have HP := hide hpb
  clear hpb
  go_enter Tryz.func96, Tryz.ntmps96
  go_wp2_with fail
  refine (plain_any m s _ hm hs).mono ?_
  rw [HP.out]
  rintro e w1 ⟨rfl, hb1⟩
  have HB1 := hide (HB.out.trans (hb1.mono HB.out.size))
  clear hb1
  go_wp2
  exact bodyPost_ret (v := .tuple #[.string p, .bool b]) (by simp [results, Tryz.results96, go_sem]) rfl ⟨rfl, HB1.out⟩
theorem enters_sub : ∀ args w, (callFunc 96 args).run Tryz.prog w = .ok (.enter 96 args) w := enters_of Tryz.func96 (by kernel_rfl) rfl
theorem Tryz.infoSubR : (Tryz.prog.info? 105).map (fun i => (i.zero, i.size, i.bytes)) = some (some (.string ⟨#[]⟩), 1, 16) := by kernel_rfl
def subO (m s : ByteArray) : Option ByteArray := (plainL m s.data.toList).map fun u => ⟨u.toArray⟩
theorem mapO_step {γ β : Type} (f : γ → Option β) (ps : List γ) (k : Nat) (h : k < ps.length) (D : List β) (R : Option (List β)) (e : R = (mapO f (ps.drop k)).map (D ++ ·)) :
    (f (ps[k]'h) = none → R = none) ∧ ∀ x, f (ps[k]'h) = some x → R = (mapO f (ps.drop (k + 1))).map ((D ++ [x]) ++ ·) := by
  rw [List.drop_eq_getElem_cons h] at e
  simp only [mapO] at e
  constructor
  · intro hn; rw [e, hn]; rfl
  · intro x hx
    rw [e, hx]
    cases mapO f (ps.drop (k + 1)) <;> simp
theorem mapO_end {γ β : Type} (f : γ → Option β) (ps : List γ) (k : Nat) (h : ps.length ≤ k) (D : List β) (R : Option (List β)) (e : R = (mapO f (ps.drop k)).map (D ++ ·)) : R = some D := by
  rw [e, List.drop_eq_nil_of_le h]; simp [mapO]
theorem sub_res (m s : ByteArray) : plainRes (plainL m s.data.toList) = match subO m s with
    | some x => .tuple #[.string x, .bool true]
    | none => .tuple #[.string ⟨#[]⟩, .bool false] := by
  unfold subO
  cases plainL m s.data.toList <;> rfl
/-- What readList hands back: none of it, or a row of its own. -/
def ReadRes (T : TypeId) (b0 : Nat) (R : Option (List Value)) (e : Ending) (w' : World) : Prop := match R with
  | none => e = .returned (.tuple #[.slice none 0 0, .bool false])
  | some vs => ∃ u B, e = .returned (.tuple #[u, .bool true]) ∧ b0 ≤ B ∧ w'.ownsRow B T 1 u vs.length vs
set_option maxHeartbeats 4000000 in
theorem readListSub_any (m : ByteArray) (v : Value) (ps : List ByteArray) (w : World) (hm : marksB m = true) (hn : ps.length ≤ 1000000) (hsz : ∀ x ∈ ps, x.size ≤ 20000000) (hr : RComp 0 w v ps) :
    Calls Tryz.prog 95 #[.agg #[.string m, .bool false], v, .func (.func 96) #[.agg #[.string m, .bool false]] #[]] w fun e w' =>
      ReadRes 105 w.heap.size ((mapO (subO m) ps).map (·.map Value.string)) e w' ∧ Below w.heap.size w w' := by
  obtain ⟨p, cap, rfl, q1, q2, q4⟩ := hr
  have H4 := hide q4
  have HSZ := hide hsz
  clear q4 q1 q2 hsz
  obtain ⟨R, hR⟩ : ∃ R, R = mapO (subO m) ps := ⟨_, rfl⟩
  rw [← hR]
  have HR0 := hide (show R = (mapO (subO m) (ps.drop 0)).map ([] ++ ·) by rw [hR, List.drop_zero]; cases mapO (subO m) ps <;> simp)
  clear hR
  obtain ⟨W, hW⟩ : ∃ W, W = w.alloc (.cells #[.string m, .bool false] 47) := ⟨_, rfl⟩
  have hb0 : Below w.heap.size w W := by rw [hW]; exact (Below.refl _ _).alloc (Nat.le_refl _) _
  have HB0 := hide hb0
  have HBX : Hid (Row W w.heap.size 47 [.string m, .bool false]) := by rw [hW]; exact row_new w _ _
  clear hb0
  have eg := enters_sub
  go_enter Tryz.func95, Tryz.ntmps95
  go_wp2_with fail
  rw [← hW]
  clear hW
  go_loopw [8, 15] (fun u i wr => ∃ (X : World) (k : Nat) (D : List ByteArray) (lv : Value), X = wr ∧ lv = u ∧ k ≤ ps.length ∧ D.length = k ∧ i = .int .i64 (k : Int) ∧ Hid (R = (mapO (subO m) (ps.drop k)).map (D ++ ·)) ∧ Hid (VBuf 105 W.heap.size W X lv (D.map Value.string))) (fun _ i _ => ps.length - (intOf i).toNat)
  case atStart => exact ⟨_, 0, [], _, rfl, rfl, Nat.zero_le _, rfl, rfl, HR0, VBuf.nil _ (Nat.le_refl _)⟩
  case round =>
    obtain ⟨X, k, D, lv, rfl, rfl, hk, hD, rfl, HS, HV⟩ := hrel
    have HBW := hide (HB0.out.trans (HV.out.below.mono HB0.out.size))
    by_cases hlt : k < ps.length
    · obtain ⟨gg, off, hp, hg, _, hc⟩ := H4.out (by omega)
      subst hp
      obtain ⟨u0, hu, rfl, _⟩ := hc k hlt
      have hck : X.cell? ⟨gg, off + k, none⟩ = some (.string (ps[k]'hlt)) := by rw [HBW.out.cell (p := ⟨gg, off + k, none⟩) hg]; exact hu
      have HSP := hide (HSZ.out _ (List.getElem_mem hlt))
      have HST := hide (mapO_step (subO m) ps k hlt D R HS.out)
      clear hu hc
      generalize hpk : (ps[k]'hlt) = pk at *
      clear hpk
      go_wp2_with fail
      refine (subR_any m pk _ hm HSP.out).mono ?_
      rw [sub_res]
      cases hsub : subO m pk with
      | none =>
        have HN := hide (HST.out.1 hsub)
        rintro e X2 ⟨rfl, hb2⟩
        have HB2 := hide (HBW.out.trans (hb2.mono HBW.out.size))
        clear hb2 hsub
        go_wp2
        exact bodyPost_ret (v := .tuple #[.slice none 0 0, .bool false]) (by simp [results, Tryz.results95, go_sem]) rfl ⟨by rw [HN.out]; exact rfl, HB2.out⟩
      | some x =>
        have HN := hide (HST.out.2 x hsub)
        rintro e X2 ⟨rfl, hb2⟩
        have HV2 := hide (HV.out.onBelow hb2)
        have HOA := hide (HV2.out.alloc (.cells #[.string x] 105))
        have HNC := hide (heap_alloc_new X2 (.cells #[.string x] 105))
        have HL3 := hide (show (D.map Value.string).length + [Value.string x].length ≤ 100000000 by simp only [List.length_map, List.length_cons, List.length_nil]; omega)
        clear hb2 hsub
        go_wp2_with (at_builtin; refine wpList_vbuf [.string x] (w0 := W) rfl (.tmp 27) (.tmp 29) 124 rfl W.heap.size 105 Tryz.underlying124 Tryz.infoSubR rfl (by simp [Value.oneCell']) (by decide) _ (D.map Value.string) rfl HOA.out _ 1 rfl rfl ⟨_, HNC.out⟩ HL3.out ?_)
        intro v1 w1 hb1
        have HB3 : Hid (VBuf 105 W.heap.size W w1 v1 ((D ++ [x]).map Value.string)) := by
          rw [List.map_append, List.map_cons, List.map_nil]
          exact hb1
        clear hb1
        go_wp2
        go_roundw
        case rel => exact ⟨_, k + 1, D ++ [x], _, rfl, rfl, by omega, by rw [List.length_append]; simp [hD], by go_num, HN, HB3⟩
        case measure => simp [intOf]; omega
    · have HN := hide (mapO_end (subO m) ps k (by omega) D R HS.out)
      have HBR := hide (HBX.out.below HV.out.below HBX.out.lt)
      have hcl : X.cell? ⟨w.heap.size, 1, none⟩ = some (.bool false) := HBR.out.cell 1
      have HOW := hide HV.out.own
      have hkI : (ps.length : Int) ≤ (k : Int) := by omega
      go_wp2
      exact bodyPost_ret (v := .tuple #[lv, .bool true]) (by simp [results, Tryz.results95, go_sem]) rfl ⟨by rw [HN.out]; exact ⟨_, W.heap.size, rfl, HB0.out.size, HOW.out⟩, HBW.out⟩
end Go.Proofs.YtckcfjibiidafaaGreat
/- A Comp out of what was read: of the program. -/
namespace Go.Proofs.YtckcfjibiidafaaGreat
open Go.RowKit
theorem own_sliceC {w1 : World} {base n sz : Nat} {e : TypeId} {v : Value} {xs : List Value} (h : w1.ownsRow base e sz v n xs) : ∃ p c, v = .slice p n c := by
  obtain ⟨_, ⟨h1, h2⟩ | ⟨g', cap', cur, hv, _⟩⟩ := h
  · refine ⟨none, 0, ?_⟩
    simp_all
  · exact ⟨_, _, hv⟩
theorem own_keptC {S : List Nat} {B sz n : Nat} {e : TypeId} {w w' : World} {v : Value} {xs : List Value} (h : w.ownsRow B e sz v n xs) (hk : Kept S w w') (hS : ∀ x ∈ S, x < B) : w'.ownsRow B e sz v n xs := by
  obtain ⟨h0, h1 | ⟨g, cap, cur, hv, hB, hh, hr⟩⟩ := h
  · exact ⟨h0, .inl h1⟩
  · have hlt : g < w.heap.size := (Array.getElem?_eq_some_iff.1 hh).1
    exact ⟨h0, .inr ⟨g, cap, cur, hv, hB, by rw [hk.block g hlt (fun hm => absurd (hS g hm) (by omega))]; exact hh, hr⟩⟩
set_option maxHeartbeats 4000000 in
theorem compOf_any (v : Value) (xs : List ByteArray) (w : World) (hn : xs.length ≤ 1000000) (hr : RComp 0 w v xs) :
    Calls Tryz.prog 97 #[v] w fun e w' => (∃ u B, e = .returned (.agg #[u]) ∧ w.heap.size ≤ B ∧ w'.ownsRow B 9 1 u (xs.map Value.string).length (xs.map Value.string)) ∧ Below w.heap.size w w' := by
  obtain ⟨p, cap, rfl, q1, q2, q4⟩ := hr
  have H4 := hide q4
  clear q4 q1 q2
  obtain ⟨W, hW⟩ : ∃ W, W = w.alloc (.cells #[.slice none 0 0] 71) := ⟨_, rfl⟩
  have hb0 : Below w.heap.size w W := by rw [hW]; exact (Below.refl _ _).alloc (Nat.le_refl _) _
  have HB0 := hide hb0
  have HBX : Hid (Row W w.heap.size 71 [.slice none 0 0]) := by rw [hW]; exact row_new w _ _
  clear hb0
  go_enter Tryz.func97, Tryz.ntmps97
  go_wp2_with fail
  rw [← hW]
  clear hW
  go_loopw [3, 8] (fun u i wr => ∃ (X : World) (k : Nat) (lv : Value), X = wr ∧ lv = u ∧ k ≤ xs.length ∧ i = .int .i64 (k : Int) ∧ Hid (VBuf 9 W.heap.size W X lv ((xs.take k).map Value.string))) (fun _ i _ => xs.length - (intOf i).toNat)
  case atStart => exact ⟨_, 0, _, rfl, rfl, Nat.zero_le _, rfl, VBuf.nil _ (Nat.le_refl _)⟩
  case round =>
    obtain ⟨X, k, lv, rfl, rfl, hk, rfl, HV⟩ := hrel
    have HBW := hide (HB0.out.trans (HV.out.below.mono HB0.out.size))
    by_cases hlt : k < xs.length
    · obtain ⟨gg, off, hp, hg, _, hc⟩ := H4.out (by omega)
      subst hp
      obtain ⟨u0, hu, rfl, _⟩ := hc k hlt
      have hck : X.cell? ⟨gg, off + k, none⟩ = some (.string (xs[k]'hlt)) := by rw [HBW.out.cell (p := ⟨gg, off + k, none⟩) hg]; exact hu
      have HTK := hide (show (xs.take (k + 1)).map Value.string = (xs.take k).map Value.string ++ [Value.string (xs[k]'hlt)] by rw [List.take_succ_eq_append_getElem hlt, List.map_append]; rfl)
      have HL3 := hide (show ((xs.take k).map Value.string).length + [Value.string (xs[k]'hlt)].length ≤ 100000000 by simp only [List.length_map, List.length_take, List.length_cons, List.length_nil]; omega)
      clear hu hc
      generalize (xs[k]'hlt) = x at *
      have HOA := hide (HV.out.alloc (.cells #[.string x] 9))
      have HNC := hide (heap_alloc_new X (.cells #[.string x] 9))
      generalize hTK : (xs.take k).map Value.string = TK at *
      clear hTK
      go_wp2_with (at_builtin; refine wpList_vbuf [.string x] (w0 := W) rfl (.tmp 12) (.tmp 14) 37 rfl W.heap.size 9 Tryz.underlying37 Tryz.infoStrF rfl (by simp [Value.oneCell']) (by decide) _ TK rfl HOA.out _ 1 rfl rfl ⟨_, HNC.out⟩ HL3.out ?_)
      intro v1 w1 hb1
      have HB3 : Hid (VBuf 9 W.heap.size W w1 v1 ((xs.take (k + 1)).map Value.string)) := by rw [HTK.out]; exact hb1
      clear hb1
      go_wp2
      go_roundw
      case rel => exact ⟨_, k + 1, _, rfl, rfl, by omega, by go_num, HB3⟩
      case measure => simp [intOf]; omega
    · have HBR := hide (HBX.out.below HV.out.below HBX.out.lt)
      rw [List.take_of_length_le (by omega)] at HV
      have HOW := hide HV.out.own
      have hsl := own_sliceC HV.out.own
      rw [List.length_map] at hsl
      obtain ⟨lp, lc, rfl⟩ := hsl
      have hw0 : X.cell? ⟨w.heap.size, 0, none⟩ = some (.slice none 0 0) := HBR.out.cell 0
      have hfr := HBR.out.free 0
      have hkI : (xs.length : Int) ≤ (k : Int) := by omega
      have HKS := hide (show Kept [w.heap.size] X (X.setCell ⟨w.heap.size, 0, none⟩ (.slice lp xs.length lc)) from Kept.ofSet _ _ _ _)
      have HBF := hide (HBW.out.setCell (p := ⟨w.heap.size, 0, none⟩) (Nat.le_refl _) (.slice lp xs.length lc))
      have HRF := hide (HBR.out.set (j := 0) (.slice lp xs.length lc))
      have HOF := hide (own_keptC HOW.out HKS.out (fun x hx => by rw [List.mem_singleton.1 hx]; exact HBX.out.lt))
      go_wp2
      obtain ⟨V, hV⟩ : ∃ V, V = X.setCell ⟨w.heap.size, 0, none⟩ (.slice lp xs.length lc) := ⟨_, rfl⟩
      rw [← hV] at HBF HRF HOF ⊢
      clear hV
      have v0 : V.cell? ⟨w.heap.size, 0, none⟩ = some (.slice lp xs.length lc) := HRF.out.cell 0
      exact bodyPost_ret (v := .agg #[.slice lp xs.length lc]) (by simp [results, Tryz.results97, go_sem, v0]) rfl ⟨⟨_, W.heap.size, rfl, HB0.out.size, HOF.out⟩, HBF.out⟩
end Go.Proofs.YtckcfjibiidafaaGreat
