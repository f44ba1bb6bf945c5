/- The model's l04Text and FieldText. -/
import Derived.Test.YtelhgpogfedchaaFTextM
import Derived.Test.YtelhgpogfedchaaFEsc2
import Derived.Lib.AppendStr
namespace Go.Proofs.Ytelhgpogfedchaa
open Go.RowKit

theorem wpList_bufS {P : Program} {ops : Array Oper} {rest : List Oper} {o : Oper} {a : Act} {w w0 : World} {Q : Exit → Act → World → Prop}
    (hg : o.guard = none) (s x : Operand) (t u : TypeId) (hop : o.op = Op.call { callee := Callee.builtin Builtin.append, args := #[s, x], argTypes := #[t, u] })
    (B : Nat) (e : TypeId) (ht : P.underlying t = some (.slice e)) (hu : P.underlying u = some .string) (hi : (P.info? e).map (fun i => (i.zero, i.size, i.bytes)) = some (some (.int .u8 0), 1, 1))
    (v : Value) (L : List UInt8) (hs : a.eval s = v) (hB : Buf e B w0 w v L) (S : ByteArray) (hx : a.eval x = .string S) (hlen : L.length + S.size ≤ 100000000)
    (hK : ∀ v' w', Buf e B w0 w' v' (L ++ S.data.toList) → wpList P ops Q rest (a.put o.dst v') w') : wpList P ops Q (o :: rest) a w := by
  obtain ⟨i0, hi0, hz0, hz1, hz2⟩ := info_parts hi
  refine Lib.wpList_append_own_string w hg s x t u hop B e i0 ht hu hi0 hz0 hz1 hz2 v L.length (u8s L) hs hB.own S hx (by unfold maxLen; omega) (by omega) hB.size ?_
  intro v' w' ho hgr _
  refine hK v' w' ⟨?_, hB.below.grown hgr hB.size (fun k hk => (hB.own.lt k hk).1), hB.le, hB.kept.grown hgr (own_kindB hB.own)⟩
  have e1 : u8s (L ++ S.data.toList) = u8s L ++ Lib.strCells S := by simp [u8s, Lib.strCells, u8v]
  rw [e1, List.length_append, bytes_len]
  exact ho
theorem fieldRow_kept {B : Nat} {w w' : World} {v : Value} {L : List UInt8} {g : Nat} {vs : List Value} (h : Buf 5 B w w' v L) (hr : Row w g 56 vs) : Row w' g 56 vs :=
  h.kept g _ hr (by simp) (fun _ _ e1 => by simp at e1)

set_option maxHeartbeats 8000000 in
set_option maxRecDepth 100000 in
theorem l04Text_any (m : ByteArray) (u : Value) (x : List (List (List ByteArray))) (w : World) (hm : m.size = 5) (hx : fldB x = true) (hr : RFld 0 w u x) :
    Calls Try.prog 26 #[.string m, .agg #[u]] w fun e w' => e = .returned (.string ⟨(fldT m x).toArray⟩) ∧ Below w.heap.size w w' := by
  have HLT := hideF (fldT_len (m := m) hx)
  obtain ⟨p, cap, rfl, h1, h2, h4⟩ := fld_under hr
  have H4 := hideF h4
  obtain ⟨hxe, hxl⟩ := right_mem hx
  have HXE := hideF hxe
  clear h4 hr hxe
  unfold maxLen at h2
  have hm2 : 2 < m.size := by omega
  have hm1 : 1 < m.size := by omega
  have hm4 : 4 < m.size := by omega
  have HM2 := hideF (bAt_get m 2 hm2)
  have HM1 := hideF (bAt_get m 1 hm1)
  have HM4 := hideF (bAt_get m 4 hm4)
  have HR0 := hideF (row_new w [.slice p x.length cap] 56)
  have HBE := hideF (bufEmpty 5 (w.alloc (.cells #[.slice p x.length cap] 56)))
  have HB0 : Hid (Buf 5 w.heap.size w ((w.alloc (.cells #[.slice p x.length cap] 56)).alloc (.cells #[] 5)) (.slice (some ⟨w.heap.size + 1, 0, none⟩) 0 0) []) := by
    have h := HBE.out
    refine ⟨?_, ((Below.refl _ _).alloc (Nat.le_refl _) _).alloc (by simp) _, Nat.le_refl _, ((Lib.OthersKept.refl _ _ _).alloc _).alloc _⟩
    have e : (w.alloc (.cells #[.slice p x.length cap] 56)).heap.size = w.heap.size + 1 := by simp
    have ho := h.own
    rw [e] at ho
    exact ⟨ho.1, ho.2.imp id fun ⟨g, c, cu, a1, a2, a3⟩ => ⟨g, c, cu, a1, Nat.le_trans (by omega) a2, a3⟩⟩
  have HR1 := hideF (HR0.out.alloc (.cells #[] 5))
  clear HBE HR0
  go_enter Try.func26, Try.ntmps26
  go_wp2
  go_loopw [5, 6] (fun v' i wr => ∃ (X : World) (k : Nat) (D : List UInt8), X = wr ∧ k ≤ x.length ∧ i = .int .i64 k ∧ Hid (Buf 5 w.heap.size w X v' D) ∧ Hid (Row X w.heap.size 56 [.slice p x.length cap]) ∧ Hid (Done (bAt m 2) (repT m) x k D)) (fun _ i _ => x.length - (intOf i).toNat)
  case atStart => exact ⟨_, 0, [], rfl, Nat.zero_le _, rfl, HB0, HR1, Done.zero _ _ _⟩
  case round =>
    obtain ⟨X, k, D, rfl, hk, rfl, HBf, HRw, HD⟩ := hrel
    have c0 : X.cell? ⟨w.heap.size, 0, none⟩ = some (.slice p x.length cap) := HRw.out.cell 0
    by_cases hlt : k < x.length
    · obtain ⟨g, off, hp, hg, hc⟩ := H4.out (by omega)
      subst hp
      obtain ⟨yu, hyu, hyr⟩ := hc k hlt
      obtain ⟨y, hy⟩ : ∃ y, y = x[k]'hlt := ⟨_, rfl⟩
      rw [← hy] at hyr
      have HYE := hideF (show ∀ i (hi : i < y.length), compB y[i] = true by rw [hy]; exact (right_mem (HXE.out k hlt)).1)
      have HLR := hideF (show (repT m y).length ≤ 9060 by rw [hy]; exact repT_len (HXE.out k hlt))
      have hy10 : y.length ≤ 10 := by rw [hy]; exact (right_mem (HXE.out k hlt)).2
      obtain ⟨yp, yc, rfl, hy1, hy2, hy4⟩ := hyr
      have HY4 := hideF hy4
      have HUK := hideF hyu
      have hcx : X.cell? ⟨g, off + k, none⟩ = some (.slice yp y.length yc) := by rw [HBf.out.below.cell (p := ⟨g, off + k, none⟩) hg]; exact hyu
      have HRM := hideF (HD.out.room hlt)
      have HLA := hideF (show D.length ≤ 46000 by have h1 := HRM.out; have h2 := HLT.out; have h4 : (fldT m x) = jnF (bAt m 2) (repT m) 0 x := rfl; rw [h4] at h2; omega)
      unfold maxLen at hy2
      clear hy4 hyu hc
      by_cases h0 : k = 0
      · have hneg : ¬ (0 : Int) < (k : Int) := by omega
        have HNX := hideF (HD.out.first' h0 hlt)
        clear h0
        rw [← hy] at HNX
        obtain ⟨A1, hA1⟩ : ∃ A1, A1 = D := ⟨_, rfl⟩
        have HN1 : Hid (∃ G, A1 ++ repT m y = G ∧ Done (bAt m 2) (repT m) x (k + 1) G) := ⟨D ++ repT m y, by rw [hA1], HNX.out⟩
        have HB1 : Hid (Buf 5 w.heap.size w X u5 A1) := by rw [hA1]; exact HBf
        have HLA1 : Hid (A1.length ≤ 47000) := by rw [hA1]; exact (by have := HLA.out; omega : D.length ≤ 47000)
        have HR1' := hideF HRw.out
        clear hA1 HNX hy
        go_wp2_with fail
        go_loopw [5, 7] (fun v' i wr => ∃ (Y : World) (l : Nat) (E : List UInt8), Y = wr ∧ l ≤ y.length ∧ i = .int .i64 l ∧ Hid (Buf 5 w.heap.size w Y v' (A1 ++ E)) ∧ Hid (Row Y w.heap.size 56 [.slice (some ⟨g, off, none⟩) x.length cap]) ∧ Hid (Done (bAt m 1) (compT m) y l E)) (fun _ i _ => y.length - (intOf i).toNat)
        case atStart => exact ⟨_, 0, [], rfl, Nat.zero_le _, rfl, by rw [List.append_nil]; exact HB1, HR1', Done.zero _ _ _⟩
        case round =>
          obtain ⟨Y, l, E, rfl, hl, rfl, HBy, HRy, HDy⟩ := hrel
          have c0 : Y.cell? ⟨w.heap.size, 0, none⟩ = some (.slice (some ⟨g, off, none⟩) x.length cap) := HRy.out.cell 0
          have hcy : Y.cell? ⟨g, off + k, none⟩ = some (.slice yp y.length yc) := by rw [HBy.out.below.cell (p := ⟨g, off + k, none⟩) hg]; exact HUK.out
          by_cases hlt2 : l < y.length
          · obtain ⟨g2, off2, hp2, hg2, hc2⟩ := HY4.out (by omega)
            subst hp2
            obtain ⟨zu, hzu, hzr⟩ := hc2 l hlt2
            obtain ⟨z, hz⟩ : ∃ z, z = y[l]'hlt2 := ⟨_, rfl⟩
            rw [← hz] at hzr
            have HZE := hideF (show ∀ i (hi : i < z.length), subB z[i] = true by rw [hz]; exact (right_mem (HYE.out l hlt2)).1)
            have HLC := hideF (show (compT m z).length ≤ 905 by rw [hz]; exact compT_len (HYE.out l hlt2))
            have hz5 : z.length ≤ 5 := by rw [hz]; exact (right_mem (HYE.out l hlt2)).2
            obtain ⟨zp, zc, rfl, hz1, hz2, hz4⟩ := hzr
            have HZ := hideF hz4
            have HZU := hideF hzu
            have hck2 : Y.cell? ⟨g2, off2 + l, none⟩ = some (.slice zp z.length zc) := by rw [HBy.out.below.cell (p := ⟨g2, off2 + l, none⟩) hg2]; exact hzu
            have HRMy := hideF (HDy.out.room hlt2)
            have HLA := hideF (show (A1 ++ E).length ≤ 58000 by have h1 := HRMy.out; have h2 := HLR.out; have h3 := HLA1.out; have h4 : (repT m y) = jnF (bAt m 1) (compT m) 0 y := rfl; rw [h4] at h2; rw [List.length_append]; omega)
            unfold maxLen at hz2
            clear hz4 hzu hc2
            by_cases h0 : l = 0
            · have hneg2 : ¬ (0 : Int) < (l : Int) := by omega
              have HNX := hideF (HDy.out.first' h0 hlt2)
              clear h0
              rw [← hz] at HNX
              obtain ⟨A2, hA2⟩ : ∃ A2, A2 = A1 ++ E := ⟨_, rfl⟩
              have HN2 : Hid (∃ G, A2 ++ compT m z = A1 ++ G ∧ Done (bAt m 1) (compT m) y (l + 1) G) := ⟨E ++ compT m z, by rw [hA2]; simp, HNX.out⟩
              have HB2 : Hid (Buf 5 w.heap.size w Y u5 A2) := by rw [hA2]; exact HBy
              have HLA2 : Hid (A2.length ≤ 59000) := by rw [hA2]; exact (by have := HLA.out; omega : (A1 ++ E).length ≤ 59000)
              have HR2 := hideF HRy.out
              clear hA2 HNX hz
              go_wp2_with fail
              go_loopw [5, 9] (fun v' i wr => ∃ (Z : World) (t : Nat) (F : List UInt8), Z = wr ∧ t ≤ z.length ∧ i = .int .i64 t ∧ Hid (Buf 5 w.heap.size w Z v' (A2 ++ F)) ∧ Hid (Row Z w.heap.size 56 [.slice (some ⟨g, off, none⟩) x.length cap]) ∧ Hid (Done (bAt m 4) (subT m) z t F)) (fun _ i _ => z.length - (intOf i).toNat)
              case atStart => exact ⟨_, 0, [], rfl, Nat.zero_le _, rfl, by rw [List.append_nil]; exact HB2, HR2, Done.zero _ _ _⟩
              case round =>
                obtain ⟨Z, t, F, rfl, ht, rfl, HB3, HR3, HD3⟩ := hrel
                by_cases hlt3 : t < z.length
                · obtain ⟨g3, off3, hp3, hg3, hc3⟩ := HZ.out (by omega)
                  subst hp3
                  obtain ⟨sv, hsv, rfl, _⟩ := hc3 t hlt3
                  have hck3 : Z.cell? ⟨g3, off3 + t, none⟩ = some (.string (z[t]'hlt3)) := by rw [HB3.out.below.cell (p := ⟨g3, off3 + t, none⟩) hg3]; exact hsv
                  have HOK3 := hideF (HZE.out t hlt3)
                  have HRM3 := hideF (HD3.out.room hlt3)
                  have HLA3 := hideF (show (A2 ++ F).length ≤ 60000 by have h1 := HRM3.out; have h2 := HLC.out; have h3 := HLA2.out; have h4 : (compT m z) = jnF (bAt m 4) (subT m) 0 z := rfl; rw [h4] at h2; rw [List.length_append]; omega)
                  clear hsv hc3
                  by_cases h0 : t = 0
                  · have hneg3 : ¬ (0 : Int) < (t : Int) := by omega
                    have HNX := hideF (HD3.out.first' h0 hlt3)
                    clear h0
                    have HBA := hideF HB3.out
                    have HRA := hideF HR3.out
                    obtain ⟨A3, hA3⟩ : ∃ A3, A3 = A2 ++ F := ⟨_, rfl⟩
                    have HNY : Hid (∃ G, A3 ++ subT m (z[t]'hlt3) = A2 ++ G ∧ Done (bAt m 4) (subT m) z (t + 1) G) := ⟨F ++ subT m (z[t]'hlt3), by rw [hA3]; simp, HNX.out⟩
                    rw [← hA3] at HBA HLA3
                    clear hA3 HNX
                    go_wp2_with fail
                    refine (l04Escape_any m (z[t]'hlt3) _ hm (by have := (subB_plain HOK3.out).2; omega)).mono ?_
                    rintro e w7 ⟨rfl, hb7⟩
                    have HB7 := hideF (HBA.out.onBelow hb7)
                    have HR7 := hideF (HRA.out.below hb7 HRA.out.lt)
                    have HBs7 := hideF (Buf.start HB7.out.own HB7.out.size)
                    have hSz : (⟨(escL m (z[t]'hlt3).data.toList).toArray⟩ : ByteArray).size = (subT m (z[t]'hlt3)).length := by simp [ByteArray.size, subT]
                    have HL7 := hideF (show A3.length + (⟨(escL m (z[t]'hlt3).data.toList).toArray⟩ : ByteArray).size ≤ 100000000 by have h1 := subT_len (m := m) HOK3.out; have h2 := HLA3.out; rw [hSz]; omega)
                    clear hb7 hSz
                    go_wp2_with (at_builtin; refine wpList_bufS (w0 := w7) rfl (.tmp 66) (.tmp 72) 59 9 rfl w.heap.size 5 Try.underlying59 Try.underlying9 Try.infoByte _ A3 rfl HBs7.out _ rfl HL7.out ?_)
                    intro v8 w8 hb8
                    have HB8 := hideF (HB7.out.trans hb8)
                    have HR8 := hideF (fieldRow_kept hb8 HR7.out)
                    clear hb8
                    obtain ⟨G', hg1, hg2⟩ := HNY.out
                    have HG1 := hideF hg1
                    have HG2 := hideF hg2
                    clear hg1 hg2
                    go_wp2
                    go_roundw
                    case rel => exact ⟨_, t + 1, G', rfl, by omega, by go_num, by rw [← HG1.out]; exact HB8, HR8, HG2⟩
                    case measure => simp [intOf]; omega
                  · have hpos : (0 : Int) < (t : Int) := by omega
                    have hk0 : 0 < t := by omega
                    have HNX := hideF (HD3.out.next hk0 hlt3)
                    have HBs := hideF (HB3.out.alloc (.cells #[.int .u8 ((m[4]'hm4).toNat : Int)] 5))
                    have HBt := hideF ((Buf.start HB3.out.own HB3.out.size).alloc (.cells #[.int .u8 ((m[4]'hm4).toNat : Int)] 5))
                    have HC := hideF (heap_alloc_new Z (.cells #[.int .u8 ((m[4]'hm4).toNat : Int)] 5))
                    have HL3 := hideF (show (A2 ++ F).length + [m[4]'hm4].length ≤ 100000000 by have h1 := HLA3.out; simp only [List.length_cons, List.length_nil]; omega)
                    go_wp2_with (at_builtin; refine wpList_buf (w0 := Z) rfl (.tmp 61) (.tmp 64) 59 rfl w.heap.size 5 Try.underlying59 Try.infoByte _ (A2 ++ F) rfl HBt.out Z.heap.size 1 [m[4]'hm4] rfl rfl ⟨_, HC.out⟩ HL3.out ?_)
                    clear HBs HBt HC HL3
                    intro v6 w6 hb6
                    have HBA := hideF (HB3.out.trans hb6)
                    have HRA := hideF (fieldRow_kept hb6 HR3.out)
                    have hck6 : w6.cell? ⟨g3, off3 + t, none⟩ = some (.string (z[t]'hlt3)) := by rw [hb6.below.cell (p := ⟨g3, off3 + t, none⟩) hg3]; exact hck3
                    clear hb6 hck3
                    obtain ⟨A3, hA3⟩ : ∃ A3, A3 = A2 ++ F ++ [m[4]'hm4] := ⟨_, rfl⟩
                    have HNY : Hid (∃ G, A3 ++ subT m (z[t]'hlt3) = A2 ++ G ∧ Done (bAt m 4) (subT m) z (t + 1) G) := ⟨F ++ [bAt m 4] ++ subT m (z[t]'hlt3), by rw [hA3, HM4.out]; simp, HNX.out⟩
                    have HLA4 := hideF (show A3.length ≤ 60001 by have := HLA3.out; rw [hA3, List.length_append]; simp only [List.length_cons, List.length_nil]; omega)
                    have HBA' : Hid (Buf 5 w.heap.size w w6 v6 A3) := by rw [hA3]; first | exact HBA | simpa only [List.append_assoc] using HBA
                    clear hA3 HNX HBA
                    go_wp2_with fail
                    refine (l04Escape_any m (z[t]'hlt3) _ hm (by have := (subB_plain HOK3.out).2; omega)).mono ?_
                    rintro e w7 ⟨rfl, hb7⟩
                    have HB7 := hideF (HBA'.out.onBelow hb7)
                    have HR7 := hideF (HRA.out.below hb7 HRA.out.lt)
                    have HBs7 := hideF (Buf.start HB7.out.own HB7.out.size)
                    have hSz : (⟨(escL m (z[t]'hlt3).data.toList).toArray⟩ : ByteArray).size = (subT m (z[t]'hlt3)).length := by simp [ByteArray.size, subT]
                    have HL7 := hideF (show A3.length + (⟨(escL m (z[t]'hlt3).data.toList).toArray⟩ : ByteArray).size ≤ 100000000 by have h1 := subT_len (m := m) HOK3.out; have h2 := HLA4.out; rw [hSz]; omega)
                    clear hb7 hSz
                    go_wp2_with (at_builtin; refine wpList_bufS (w0 := w7) rfl (.tmp 66) (.tmp 72) 59 9 rfl w.heap.size 5 Try.underlying59 Try.underlying9 Try.infoByte _ A3 rfl HBs7.out _ rfl HL7.out ?_)
                    intro v8 w8 hb8
                    have HB8 := hideF (HB7.out.trans hb8)
                    have HR8 := hideF (fieldRow_kept hb8 HR7.out)
                    clear hb8
                    obtain ⟨G', hg1, hg2⟩ := HNY.out
                    have HG1 := hideF hg1
                    have HG2 := hideF hg2
                    clear hg1 hg2
                    go_wp2
                    go_roundw
                    case rel => exact ⟨_, t + 1, G', rfl, by omega, by go_num, by rw [← HG1.out]; exact HB8, HR8, HG2⟩
                    case measure => simp [intOf]; omega
                · have HAL := hideF (HD3.out.all (by omega))
                  have HB3' : Hid (Buf 5 w.heap.size w Z u5 (A2 ++ compT m z)) := by rw [HAL.out] at HB3; exact HB3
                  obtain ⟨E', he1, he2⟩ := HN2.out
                  have HEQ := hideF he1
                  have HED := hideF he2
                  clear he1 he2
                  go_wp2
                  go_roundw
                  case rel => exact ⟨_, l + 1, E', rfl, by omega, by go_num, by rw [← HEQ.out]; exact HB3', HR3, HED⟩
                  case measure => simp [intOf]; omega
            · have hpos : (0 : Int) < (l : Int) := by omega
              have hk0 : 0 < l := by omega
              have HNX := hideF (HDy.out.next hk0 hlt2)
              rw [← hz] at HNX
              have HBs := hideF (HBy.out.alloc (.cells #[.int .u8 ((m[1]'hm1).toNat : Int)] 5))
              have HBt := hideF ((Buf.start HBy.out.own HBy.out.size).alloc (.cells #[.int .u8 ((m[1]'hm1).toNat : Int)] 5))
              have HC := hideF (heap_alloc_new Y (.cells #[.int .u8 ((m[1]'hm1).toNat : Int)] 5))
              have HL3 := hideF (show (A1 ++ E).length + [m[1]'hm1].length ≤ 100000000 by have h1 := HLA.out; simp only [List.length_cons, List.length_nil]; omega)
              go_wp2_with (at_builtin; refine wpList_buf (w0 := Y) rfl (.tmp 38) (.tmp 41) 59 rfl w.heap.size 5 Try.underlying59 Try.infoByte _ (A1 ++ E) rfl HBt.out Y.heap.size 1 [m[1]'hm1] rfl rfl ⟨_, HC.out⟩ HL3.out ?_)
              clear HBs HBt HC HL3
              intro v5 w5 hb5
              have HBA := hideF (HBy.out.trans hb5)
              have HR2 := hideF (fieldRow_kept hb5 HRy.out)
              have c5 : w5.cell? ⟨w.heap.size, 0, none⟩ = some (.slice (some ⟨g, off, none⟩) x.length cap) := HR2.out.cell 0
              have hcy5 : w5.cell? ⟨g, off + k, none⟩ = some (.slice (some ⟨g2, off2, none⟩) y.length yc) := by rw [HBA.out.below.cell (p := ⟨g, off + k, none⟩) hg]; exact HUK.out
              have hck5 : w5.cell? ⟨g2, off2 + l, none⟩ = some (.slice zp z.length zc) := by rw [HBA.out.below.cell (p := ⟨g2, off2 + l, none⟩) hg2]; exact HZU.out
              clear hb5 c0 hcy hck2
              obtain ⟨A2, hA2⟩ : ∃ A2, A2 = A1 ++ E ++ [m[1]'hm1] := ⟨_, rfl⟩
              have HN2 : Hid (∃ G, A2 ++ compT m z = A1 ++ G ∧ Done (bAt m 1) (compT m) y (l + 1) G) := ⟨E ++ [bAt m 1] ++ compT m z, by rw [hA2, HM1.out]; simp, HNX.out⟩
              have HB2 : Hid (Buf 5 w.heap.size w w5 v5 A2) := by rw [hA2]; first | exact HBA | simpa only [List.append_assoc] using HBA
              have HLA2 : Hid (A2.length ≤ 59000) := by rw [hA2]; exact (by have := HLA.out; rw [List.length_append]; simp only [List.length_cons, List.length_nil]; omega : (A1 ++ E ++ [m[1]'hm1]).length ≤ 59000)
              clear hA2 HNX hz HBA
              go_wp2_with fail
              go_loopw [5, 9] (fun v' i wr => ∃ (Z : World) (t : Nat) (F : List UInt8), Z = wr ∧ t ≤ z.length ∧ i = .int .i64 t ∧ Hid (Buf 5 w.heap.size w Z v' (A2 ++ F)) ∧ Hid (Row Z w.heap.size 56 [.slice (some ⟨g, off, none⟩) x.length cap]) ∧ Hid (Done (bAt m 4) (subT m) z t F)) (fun _ i _ => z.length - (intOf i).toNat)
              case atStart => exact ⟨_, 0, [], rfl, Nat.zero_le _, rfl, by rw [List.append_nil]; exact HB2, HR2, Done.zero _ _ _⟩
              case round =>
                obtain ⟨Z, t, F, rfl, ht, rfl, HB3, HR3, HD3⟩ := hrel
                by_cases hlt3 : t < z.length
                · obtain ⟨g3, off3, hp3, hg3, hc3⟩ := HZ.out (by omega)
                  subst hp3
                  obtain ⟨sv, hsv, rfl, _⟩ := hc3 t hlt3
                  have hck3 : Z.cell? ⟨g3, off3 + t, none⟩ = some (.string (z[t]'hlt3)) := by rw [HB3.out.below.cell (p := ⟨g3, off3 + t, none⟩) hg3]; exact hsv
                  have HOK3 := hideF (HZE.out t hlt3)
                  have HRM3 := hideF (HD3.out.room hlt3)
                  have HLA3 := hideF (show (A2 ++ F).length ≤ 60000 by have h1 := HRM3.out; have h2 := HLC.out; have h3 := HLA2.out; have h4 : (compT m z) = jnF (bAt m 4) (subT m) 0 z := rfl; rw [h4] at h2; rw [List.length_append]; omega)
                  clear hsv hc3
                  by_cases h0 : t = 0
                  · have hneg3 : ¬ (0 : Int) < (t : Int) := by omega
                    have HNX := hideF (HD3.out.first' h0 hlt3)
                    clear h0
                    have HBA := hideF HB3.out
                    have HRA := hideF HR3.out
                    obtain ⟨A3, hA3⟩ : ∃ A3, A3 = A2 ++ F := ⟨_, rfl⟩
                    have HNY : Hid (∃ G, A3 ++ subT m (z[t]'hlt3) = A2 ++ G ∧ Done (bAt m 4) (subT m) z (t + 1) G) := ⟨F ++ subT m (z[t]'hlt3), by rw [hA3]; simp, HNX.out⟩
                    rw [← hA3] at HBA HLA3
                    clear hA3 HNX
                    go_wp2_with fail
                    refine (l04Escape_any m (z[t]'hlt3) _ hm (by have := (subB_plain HOK3.out).2; omega)).mono ?_
                    rintro e w7 ⟨rfl, hb7⟩
                    have HB7 := hideF (HBA.out.onBelow hb7)
                    have HR7 := hideF (HRA.out.below hb7 HRA.out.lt)
                    have HBs7 := hideF (Buf.start HB7.out.own HB7.out.size)
                    have hSz : (⟨(escL m (z[t]'hlt3).data.toList).toArray⟩ : ByteArray).size = (subT m (z[t]'hlt3)).length := by simp [ByteArray.size, subT]
                    have HL7 := hideF (show A3.length + (⟨(escL m (z[t]'hlt3).data.toList).toArray⟩ : ByteArray).size ≤ 100000000 by have h1 := subT_len (m := m) HOK3.out; have h2 := HLA3.out; rw [hSz]; omega)
                    clear hb7 hSz
                    go_wp2_with (at_builtin; refine wpList_bufS (w0 := w7) rfl (.tmp 66) (.tmp 72) 59 9 rfl w.heap.size 5 Try.underlying59 Try.underlying9 Try.infoByte _ A3 rfl HBs7.out _ rfl HL7.out ?_)
                    intro v8 w8 hb8
                    have HB8 := hideF (HB7.out.trans hb8)
                    have HR8 := hideF (fieldRow_kept hb8 HR7.out)
                    clear hb8
                    obtain ⟨G', hg1, hg2⟩ := HNY.out
                    have HG1 := hideF hg1
                    have HG2 := hideF hg2
                    clear hg1 hg2
                    go_wp2
                    go_roundw
                    case rel => exact ⟨_, t + 1, G', rfl, by omega, by go_num, by rw [← HG1.out]; exact HB8, HR8, HG2⟩
                    case measure => simp [intOf]; omega
                  · have hpos : (0 : Int) < (t : Int) := by omega
                    have hk0 : 0 < t := by omega
                    have HNX := hideF (HD3.out.next hk0 hlt3)
                    have HBs := hideF (HB3.out.alloc (.cells #[.int .u8 ((m[4]'hm4).toNat : Int)] 5))
                    have HBt := hideF ((Buf.start HB3.out.own HB3.out.size).alloc (.cells #[.int .u8 ((m[4]'hm4).toNat : Int)] 5))
                    have HC := hideF (heap_alloc_new Z (.cells #[.int .u8 ((m[4]'hm4).toNat : Int)] 5))
                    have HL3 := hideF (show (A2 ++ F).length + [m[4]'hm4].length ≤ 100000000 by have h1 := HLA3.out; simp only [List.length_cons, List.length_nil]; omega)
                    go_wp2_with (at_builtin; refine wpList_buf (w0 := Z) rfl (.tmp 61) (.tmp 64) 59 rfl w.heap.size 5 Try.underlying59 Try.infoByte _ (A2 ++ F) rfl HBt.out Z.heap.size 1 [m[4]'hm4] rfl rfl ⟨_, HC.out⟩ HL3.out ?_)
                    clear HBs HBt HC HL3
                    intro v6 w6 hb6
                    have HBA := hideF (HB3.out.trans hb6)
                    have HRA := hideF (fieldRow_kept hb6 HR3.out)
                    have hck6 : w6.cell? ⟨g3, off3 + t, none⟩ = some (.string (z[t]'hlt3)) := by rw [hb6.below.cell (p := ⟨g3, off3 + t, none⟩) hg3]; exact hck3
                    clear hb6 hck3
                    obtain ⟨A3, hA3⟩ : ∃ A3, A3 = A2 ++ F ++ [m[4]'hm4] := ⟨_, rfl⟩
                    have HNY : Hid (∃ G, A3 ++ subT m (z[t]'hlt3) = A2 ++ G ∧ Done (bAt m 4) (subT m) z (t + 1) G) := ⟨F ++ [bAt m 4] ++ subT m (z[t]'hlt3), by rw [hA3, HM4.out]; simp, HNX.out⟩
                    have HLA4 := hideF (show A3.length ≤ 60001 by have := HLA3.out; rw [hA3, List.length_append]; simp only [List.length_cons, List.length_nil]; omega)
                    have HBA' : Hid (Buf 5 w.heap.size w w6 v6 A3) := by rw [hA3]; first | exact HBA | simpa only [List.append_assoc] using HBA
                    clear hA3 HNX HBA
                    go_wp2_with fail
                    refine (l04Escape_any m (z[t]'hlt3) _ hm (by have := (subB_plain HOK3.out).2; omega)).mono ?_
                    rintro e w7 ⟨rfl, hb7⟩
                    have HB7 := hideF (HBA'.out.onBelow hb7)
                    have HR7 := hideF (HRA.out.below hb7 HRA.out.lt)
                    have HBs7 := hideF (Buf.start HB7.out.own HB7.out.size)
                    have hSz : (⟨(escL m (z[t]'hlt3).data.toList).toArray⟩ : ByteArray).size = (subT m (z[t]'hlt3)).length := by simp [ByteArray.size, subT]
                    have HL7 := hideF (show A3.length + (⟨(escL m (z[t]'hlt3).data.toList).toArray⟩ : ByteArray).size ≤ 100000000 by have h1 := subT_len (m := m) HOK3.out; have h2 := HLA4.out; rw [hSz]; omega)
                    clear hb7 hSz
                    go_wp2_with (at_builtin; refine wpList_bufS (w0 := w7) rfl (.tmp 66) (.tmp 72) 59 9 rfl w.heap.size 5 Try.underlying59 Try.underlying9 Try.infoByte _ A3 rfl HBs7.out _ rfl HL7.out ?_)
                    intro v8 w8 hb8
                    have HB8 := hideF (HB7.out.trans hb8)
                    have HR8 := hideF (fieldRow_kept hb8 HR7.out)
                    clear hb8
                    obtain ⟨G', hg1, hg2⟩ := HNY.out
                    have HG1 := hideF hg1
                    have HG2 := hideF hg2
                    clear hg1 hg2
                    go_wp2
                    go_roundw
                    case rel => exact ⟨_, t + 1, G', rfl, by omega, by go_num, by rw [← HG1.out]; exact HB8, HR8, HG2⟩
                    case measure => simp [intOf]; omega
                · have HAL := hideF (HD3.out.all (by omega))
                  have HB3' : Hid (Buf 5 w.heap.size w Z u5 (A2 ++ compT m z)) := by rw [HAL.out] at HB3; exact HB3
                  obtain ⟨E', he1, he2⟩ := HN2.out
                  have HEQ := hideF he1
                  have HED := hideF he2
                  clear he1 he2
                  go_wp2
                  go_roundw
                  case rel => exact ⟨_, l + 1, E', rfl, by omega, by go_num, by rw [← HEQ.out]; exact HB3', HR3, HED⟩
                  case measure => simp [intOf]; omega
          · have HAL := hideF (HDy.out.all (by omega))
            have HBy' : Hid (Buf 5 w.heap.size w Y u5 (A1 ++ repT m y)) := by rw [HAL.out] at HBy; exact HBy
            obtain ⟨D', he1, he2⟩ := HN1.out
            have HEQ := hideF he1
            have HED := hideF he2
            clear he1 he2
            go_wp2
            go_roundw
            case rel => exact ⟨_, k + 1, D', rfl, by omega, by go_num, by rw [← HEQ.out]; exact HBy', HRy, HED⟩
            case measure => simp [intOf]; omega
      · have hpos : (0 : Int) < (k : Int) := by omega
        have hk0 : 0 < k := by omega
        have HNX := hideF (HD.out.next hk0 hlt)
        rw [← hy] at HNX
        have HBs := hideF (HBf.out.alloc (.cells #[.int .u8 ((m[2]'hm2).toNat : Int)] 5))
        have HBt := hideF ((Buf.start HBf.out.own HBf.out.size).alloc (.cells #[.int .u8 ((m[2]'hm2).toNat : Int)] 5))
        have HC := hideF (heap_alloc_new X (.cells #[.int .u8 ((m[2]'hm2).toNat : Int)] 5))
        have HL3 := hideF (show (D).length + [m[2]'hm2].length ≤ 100000000 by have h1 := HLA.out; simp only [List.length_cons, List.length_nil]; omega)
        go_wp2_with (at_builtin; refine wpList_buf (w0 := X) rfl (.tmp 20) (.tmp 23) 59 rfl w.heap.size 5 Try.underlying59 Try.infoByte _ (D) rfl HBt.out X.heap.size 1 [m[2]'hm2] rfl rfl ⟨_, HC.out⟩ HL3.out ?_)
        clear HBs HBt HC HL3
        intro v4 w4 hb4
        have HBA := hideF (HBf.out.trans hb4)
        have HR1' := hideF (fieldRow_kept hb4 HRw.out)
        clear hb4 c0 hcx
        obtain ⟨A1, hA1⟩ : ∃ A1, A1 = D ++ [m[2]'hm2] := ⟨_, rfl⟩
        have HN1 : Hid (∃ G, A1 ++ repT m y = G ∧ Done (bAt m 2) (repT m) x (k + 1) G) := ⟨D ++ [bAt m 2] ++ repT m y, by rw [hA1, HM2.out], HNX.out⟩
        have HB1 : Hid (Buf 5 w.heap.size w w4 v4 A1) := by rw [hA1]; exact HBA
        have HLA1 : Hid (A1.length ≤ 47000) := by rw [hA1]; exact (by have := HLA.out; rw [List.length_append]; simp only [List.length_cons, List.length_nil]; omega : (D ++ [m[2]'hm2]).length ≤ 47000)
        clear hA1 HNX hy HBA
        go_wp2_with fail
        go_loopw [5, 7] (fun v' i wr => ∃ (Y : World) (l : Nat) (E : List UInt8), Y = wr ∧ l ≤ y.length ∧ i = .int .i64 l ∧ Hid (Buf 5 w.heap.size w Y v' (A1 ++ E)) ∧ Hid (Row Y w.heap.size 56 [.slice (some ⟨g, off, none⟩) x.length cap]) ∧ Hid (Done (bAt m 1) (compT m) y l E)) (fun _ i _ => y.length - (intOf i).toNat)
        case atStart => exact ⟨_, 0, [], rfl, Nat.zero_le _, rfl, by rw [List.append_nil]; exact HB1, HR1', Done.zero _ _ _⟩
        case round =>
          obtain ⟨Y, l, E, rfl, hl, rfl, HBy, HRy, HDy⟩ := hrel
          have c0 : Y.cell? ⟨w.heap.size, 0, none⟩ = some (.slice (some ⟨g, off, none⟩) x.length cap) := HRy.out.cell 0
          have hcy : Y.cell? ⟨g, off + k, none⟩ = some (.slice yp y.length yc) := by rw [HBy.out.below.cell (p := ⟨g, off + k, none⟩) hg]; exact HUK.out
          by_cases hlt2 : l < y.length
          · obtain ⟨g2, off2, hp2, hg2, hc2⟩ := HY4.out (by omega)
            subst hp2
            obtain ⟨zu, hzu, hzr⟩ := hc2 l hlt2
            obtain ⟨z, hz⟩ : ∃ z, z = y[l]'hlt2 := ⟨_, rfl⟩
            rw [← hz] at hzr
            have HZE := hideF (show ∀ i (hi : i < z.length), subB z[i] = true by rw [hz]; exact (right_mem (HYE.out l hlt2)).1)
            have HLC := hideF (show (compT m z).length ≤ 905 by rw [hz]; exact compT_len (HYE.out l hlt2))
            have hz5 : z.length ≤ 5 := by rw [hz]; exact (right_mem (HYE.out l hlt2)).2
            obtain ⟨zp, zc, rfl, hz1, hz2, hz4⟩ := hzr
            have HZ := hideF hz4
            have HZU := hideF hzu
            have hck2 : Y.cell? ⟨g2, off2 + l, none⟩ = some (.slice zp z.length zc) := by rw [HBy.out.below.cell (p := ⟨g2, off2 + l, none⟩) hg2]; exact hzu
            have HRMy := hideF (HDy.out.room hlt2)
            have HLA := hideF (show (A1 ++ E).length ≤ 58000 by have h1 := HRMy.out; have h2 := HLR.out; have h3 := HLA1.out; have h4 : (repT m y) = jnF (bAt m 1) (compT m) 0 y := rfl; rw [h4] at h2; rw [List.length_append]; omega)
            unfold maxLen at hz2
            clear hz4 hzu hc2
            by_cases h0 : l = 0
            · have hneg2 : ¬ (0 : Int) < (l : Int) := by omega
              have HNX := hideF (HDy.out.first' h0 hlt2)
              clear h0
              rw [← hz] at HNX
              obtain ⟨A2, hA2⟩ : ∃ A2, A2 = A1 ++ E := ⟨_, rfl⟩
              have HN2 : Hid (∃ G, A2 ++ compT m z = A1 ++ G ∧ Done (bAt m 1) (compT m) y (l + 1) G) := ⟨E ++ compT m z, by rw [hA2]; simp, HNX.out⟩
              have HB2 : Hid (Buf 5 w.heap.size w Y u5 A2) := by rw [hA2]; exact HBy
              have HLA2 : Hid (A2.length ≤ 59000) := by rw [hA2]; exact (by have := HLA.out; omega : (A1 ++ E).length ≤ 59000)
              have HR2 := hideF HRy.out
              clear hA2 HNX hz
              go_wp2_with fail
              go_loopw [5, 9] (fun v' i wr => ∃ (Z : World) (t : Nat) (F : List UInt8), Z = wr ∧ t ≤ z.length ∧ i = .int .i64 t ∧ Hid (Buf 5 w.heap.size w Z v' (A2 ++ F)) ∧ Hid (Row Z w.heap.size 56 [.slice (some ⟨g, off, none⟩) x.length cap]) ∧ Hid (Done (bAt m 4) (subT m) z t F)) (fun _ i _ => z.length - (intOf i).toNat)
              case atStart => exact ⟨_, 0, [], rfl, Nat.zero_le _, rfl, by rw [List.append_nil]; exact HB2, HR2, Done.zero _ _ _⟩
              case round =>
                obtain ⟨Z, t, F, rfl, ht, rfl, HB3, HR3, HD3⟩ := hrel
                by_cases hlt3 : t < z.length
                · obtain ⟨g3, off3, hp3, hg3, hc3⟩ := HZ.out (by omega)
                  subst hp3
                  obtain ⟨sv, hsv, rfl, _⟩ := hc3 t hlt3
                  have hck3 : Z.cell? ⟨g3, off3 + t, none⟩ = some (.string (z[t]'hlt3)) := by rw [HB3.out.below.cell (p := ⟨g3, off3 + t, none⟩) hg3]; exact hsv
                  have HOK3 := hideF (HZE.out t hlt3)
                  have HRM3 := hideF (HD3.out.room hlt3)
                  have HLA3 := hideF (show (A2 ++ F).length ≤ 60000 by have h1 := HRM3.out; have h2 := HLC.out; have h3 := HLA2.out; have h4 : (compT m z) = jnF (bAt m 4) (subT m) 0 z := rfl; rw [h4] at h2; rw [List.length_append]; omega)
                  clear hsv hc3
                  by_cases h0 : t = 0
                  · have hneg3 : ¬ (0 : Int) < (t : Int) := by omega
                    have HNX := hideF (HD3.out.first' h0 hlt3)
                    clear h0
                    have HBA := hideF HB3.out
                    have HRA := hideF HR3.out
                    obtain ⟨A3, hA3⟩ : ∃ A3, A3 = A2 ++ F := ⟨_, rfl⟩
                    have HNY : Hid (∃ G, A3 ++ subT m (z[t]'hlt3) = A2 ++ G ∧ Done (bAt m 4) (subT m) z (t + 1) G) := ⟨F ++ subT m (z[t]'hlt3), by rw [hA3]; simp, HNX.out⟩
                    rw [← hA3] at HBA HLA3
                    clear hA3 HNX
                    go_wp2_with fail
                    refine (l04Escape_any m (z[t]'hlt3) _ hm (by have := (subB_plain HOK3.out).2; omega)).mono ?_
                    rintro e w7 ⟨rfl, hb7⟩
                    have HB7 := hideF (HBA.out.onBelow hb7)
                    have HR7 := hideF (HRA.out.below hb7 HRA.out.lt)
                    have HBs7 := hideF (Buf.start HB7.out.own HB7.out.size)
                    have hSz : (⟨(escL m (z[t]'hlt3).data.toList).toArray⟩ : ByteArray).size = (subT m (z[t]'hlt3)).length := by simp [ByteArray.size, subT]
                    have HL7 := hideF (show A3.length + (⟨(escL m (z[t]'hlt3).data.toList).toArray⟩ : ByteArray).size ≤ 100000000 by have h1 := subT_len (m := m) HOK3.out; have h2 := HLA3.out; rw [hSz]; omega)
                    clear hb7 hSz
                    go_wp2_with (at_builtin; refine wpList_bufS (w0 := w7) rfl (.tmp 66) (.tmp 72) 59 9 rfl w.heap.size 5 Try.underlying59 Try.underlying9 Try.infoByte _ A3 rfl HBs7.out _ rfl HL7.out ?_)
                    intro v8 w8 hb8
                    have HB8 := hideF (HB7.out.trans hb8)
                    have HR8 := hideF (fieldRow_kept hb8 HR7.out)
                    clear hb8
                    obtain ⟨G', hg1, hg2⟩ := HNY.out
                    have HG1 := hideF hg1
                    have HG2 := hideF hg2
                    clear hg1 hg2
                    go_wp2
                    go_roundw
                    case rel => exact ⟨_, t + 1, G', rfl, by omega, by go_num, by rw [← HG1.out]; exact HB8, HR8, HG2⟩
                    case measure => simp [intOf]; omega
                  · have hpos : (0 : Int) < (t : Int) := by omega
                    have hk0 : 0 < t := by omega
                    have HNX := hideF (HD3.out.next hk0 hlt3)
                    have HBs := hideF (HB3.out.alloc (.cells #[.int .u8 ((m[4]'hm4).toNat : Int)] 5))
                    have HBt := hideF ((Buf.start HB3.out.own HB3.out.size).alloc (.cells #[.int .u8 ((m[4]'hm4).toNat : Int)] 5))
                    have HC := hideF (heap_alloc_new Z (.cells #[.int .u8 ((m[4]'hm4).toNat : Int)] 5))
                    have HL3 := hideF (show (A2 ++ F).length + [m[4]'hm4].length ≤ 100000000 by have h1 := HLA3.out; simp only [List.length_cons, List.length_nil]; omega)
                    go_wp2_with (at_builtin; refine wpList_buf (w0 := Z) rfl (.tmp 61) (.tmp 64) 59 rfl w.heap.size 5 Try.underlying59 Try.infoByte _ (A2 ++ F) rfl HBt.out Z.heap.size 1 [m[4]'hm4] rfl rfl ⟨_, HC.out⟩ HL3.out ?_)
                    clear HBs HBt HC HL3
                    intro v6 w6 hb6
                    have HBA := hideF (HB3.out.trans hb6)
                    have HRA := hideF (fieldRow_kept hb6 HR3.out)
                    have hck6 : w6.cell? ⟨g3, off3 + t, none⟩ = some (.string (z[t]'hlt3)) := by rw [hb6.below.cell (p := ⟨g3, off3 + t, none⟩) hg3]; exact hck3
                    clear hb6 hck3
                    obtain ⟨A3, hA3⟩ : ∃ A3, A3 = A2 ++ F ++ [m[4]'hm4] := ⟨_, rfl⟩
                    have HNY : Hid (∃ G, A3 ++ subT m (z[t]'hlt3) = A2 ++ G ∧ Done (bAt m 4) (subT m) z (t + 1) G) := ⟨F ++ [bAt m 4] ++ subT m (z[t]'hlt3), by rw [hA3, HM4.out]; simp, HNX.out⟩
                    have HLA4 := hideF (show A3.length ≤ 60001 by have := HLA3.out; rw [hA3, List.length_append]; simp only [List.length_cons, List.length_nil]; omega)
                    have HBA' : Hid (Buf 5 w.heap.size w w6 v6 A3) := by rw [hA3]; first | exact HBA | simpa only [List.append_assoc] using HBA
                    clear hA3 HNX HBA
                    go_wp2_with fail
                    refine (l04Escape_any m (z[t]'hlt3) _ hm (by have := (subB_plain HOK3.out).2; omega)).mono ?_
                    rintro e w7 ⟨rfl, hb7⟩
                    have HB7 := hideF (HBA'.out.onBelow hb7)
                    have HR7 := hideF (HRA.out.below hb7 HRA.out.lt)
                    have HBs7 := hideF (Buf.start HB7.out.own HB7.out.size)
                    have hSz : (⟨(escL m (z[t]'hlt3).data.toList).toArray⟩ : ByteArray).size = (subT m (z[t]'hlt3)).length := by simp [ByteArray.size, subT]
                    have HL7 := hideF (show A3.length + (⟨(escL m (z[t]'hlt3).data.toList).toArray⟩ : ByteArray).size ≤ 100000000 by have h1 := subT_len (m := m) HOK3.out; have h2 := HLA4.out; rw [hSz]; omega)
                    clear hb7 hSz
                    go_wp2_with (at_builtin; refine wpList_bufS (w0 := w7) rfl (.tmp 66) (.tmp 72) 59 9 rfl w.heap.size 5 Try.underlying59 Try.underlying9 Try.infoByte _ A3 rfl HBs7.out _ rfl HL7.out ?_)
                    intro v8 w8 hb8
                    have HB8 := hideF (HB7.out.trans hb8)
                    have HR8 := hideF (fieldRow_kept hb8 HR7.out)
                    clear hb8
                    obtain ⟨G', hg1, hg2⟩ := HNY.out
                    have HG1 := hideF hg1
                    have HG2 := hideF hg2
                    clear hg1 hg2
                    go_wp2
                    go_roundw
                    case rel => exact ⟨_, t + 1, G', rfl, by omega, by go_num, by rw [← HG1.out]; exact HB8, HR8, HG2⟩
                    case measure => simp [intOf]; omega
                · have HAL := hideF (HD3.out.all (by omega))
                  have HB3' : Hid (Buf 5 w.heap.size w Z u5 (A2 ++ compT m z)) := by rw [HAL.out] at HB3; exact HB3
                  obtain ⟨E', he1, he2⟩ := HN2.out
                  have HEQ := hideF he1
                  have HED := hideF he2
                  clear he1 he2
                  go_wp2
                  go_roundw
                  case rel => exact ⟨_, l + 1, E', rfl, by omega, by go_num, by rw [← HEQ.out]; exact HB3', HR3, HED⟩
                  case measure => simp [intOf]; omega
            · have hpos : (0 : Int) < (l : Int) := by omega
              have hk0 : 0 < l := by omega
              have HNX := hideF (HDy.out.next hk0 hlt2)
              rw [← hz] at HNX
              have HBs := hideF (HBy.out.alloc (.cells #[.int .u8 ((m[1]'hm1).toNat : Int)] 5))
              have HBt := hideF ((Buf.start HBy.out.own HBy.out.size).alloc (.cells #[.int .u8 ((m[1]'hm1).toNat : Int)] 5))
              have HC := hideF (heap_alloc_new Y (.cells #[.int .u8 ((m[1]'hm1).toNat : Int)] 5))
              have HL3 := hideF (show (A1 ++ E).length + [m[1]'hm1].length ≤ 100000000 by have h1 := HLA.out; simp only [List.length_cons, List.length_nil]; omega)
              go_wp2_with (at_builtin; refine wpList_buf (w0 := Y) rfl (.tmp 38) (.tmp 41) 59 rfl w.heap.size 5 Try.underlying59 Try.infoByte _ (A1 ++ E) rfl HBt.out Y.heap.size 1 [m[1]'hm1] rfl rfl ⟨_, HC.out⟩ HL3.out ?_)
              clear HBs HBt HC HL3
              intro v5 w5 hb5
              have HBA := hideF (HBy.out.trans hb5)
              have HR2 := hideF (fieldRow_kept hb5 HRy.out)
              have c5 : w5.cell? ⟨w.heap.size, 0, none⟩ = some (.slice (some ⟨g, off, none⟩) x.length cap) := HR2.out.cell 0
              have hcy5 : w5.cell? ⟨g, off + k, none⟩ = some (.slice (some ⟨g2, off2, none⟩) y.length yc) := by rw [HBA.out.below.cell (p := ⟨g, off + k, none⟩) hg]; exact HUK.out
              have hck5 : w5.cell? ⟨g2, off2 + l, none⟩ = some (.slice zp z.length zc) := by rw [HBA.out.below.cell (p := ⟨g2, off2 + l, none⟩) hg2]; exact HZU.out
              clear hb5 c0 hcy hck2
              obtain ⟨A2, hA2⟩ : ∃ A2, A2 = A1 ++ E ++ [m[1]'hm1] := ⟨_, rfl⟩
              have HN2 : Hid (∃ G, A2 ++ compT m z = A1 ++ G ∧ Done (bAt m 1) (compT m) y (l + 1) G) := ⟨E ++ [bAt m 1] ++ compT m z, by rw [hA2, HM1.out]; simp, HNX.out⟩
              have HB2 : Hid (Buf 5 w.heap.size w w5 v5 A2) := by rw [hA2]; first | exact HBA | simpa only [List.append_assoc] using HBA
              have HLA2 : Hid (A2.length ≤ 59000) := by rw [hA2]; exact (by have := HLA.out; rw [List.length_append]; simp only [List.length_cons, List.length_nil]; omega : (A1 ++ E ++ [m[1]'hm1]).length ≤ 59000)
              clear hA2 HNX hz HBA
              go_wp2_with fail
              go_loopw [5, 9] (fun v' i wr => ∃ (Z : World) (t : Nat) (F : List UInt8), Z = wr ∧ t ≤ z.length ∧ i = .int .i64 t ∧ Hid (Buf 5 w.heap.size w Z v' (A2 ++ F)) ∧ Hid (Row Z w.heap.size 56 [.slice (some ⟨g, off, none⟩) x.length cap]) ∧ Hid (Done (bAt m 4) (subT m) z t F)) (fun _ i _ => z.length - (intOf i).toNat)
              case atStart => exact ⟨_, 0, [], rfl, Nat.zero_le _, rfl, by rw [List.append_nil]; exact HB2, HR2, Done.zero _ _ _⟩
              case round =>
                obtain ⟨Z, t, F, rfl, ht, rfl, HB3, HR3, HD3⟩ := hrel
                by_cases hlt3 : t < z.length
                · obtain ⟨g3, off3, hp3, hg3, hc3⟩ := HZ.out (by omega)
                  subst hp3
                  obtain ⟨sv, hsv, rfl, _⟩ := hc3 t hlt3
                  have hck3 : Z.cell? ⟨g3, off3 + t, none⟩ = some (.string (z[t]'hlt3)) := by rw [HB3.out.below.cell (p := ⟨g3, off3 + t, none⟩) hg3]; exact hsv
                  have HOK3 := hideF (HZE.out t hlt3)
                  have HRM3 := hideF (HD3.out.room hlt3)
                  have HLA3 := hideF (show (A2 ++ F).length ≤ 60000 by have h1 := HRM3.out; have h2 := HLC.out; have h3 := HLA2.out; have h4 : (compT m z) = jnF (bAt m 4) (subT m) 0 z := rfl; rw [h4] at h2; rw [List.length_append]; omega)
                  clear hsv hc3
                  by_cases h0 : t = 0
                  · have hneg3 : ¬ (0 : Int) < (t : Int) := by omega
                    have HNX := hideF (HD3.out.first' h0 hlt3)
                    clear h0
                    have HBA := hideF HB3.out
                    have HRA := hideF HR3.out
                    obtain ⟨A3, hA3⟩ : ∃ A3, A3 = A2 ++ F := ⟨_, rfl⟩
                    have HNY : Hid (∃ G, A3 ++ subT m (z[t]'hlt3) = A2 ++ G ∧ Done (bAt m 4) (subT m) z (t + 1) G) := ⟨F ++ subT m (z[t]'hlt3), by rw [hA3]; simp, HNX.out⟩
                    rw [← hA3] at HBA HLA3
                    clear hA3 HNX
                    go_wp2_with fail
                    refine (l04Escape_any m (z[t]'hlt3) _ hm (by have := (subB_plain HOK3.out).2; omega)).mono ?_
                    rintro e w7 ⟨rfl, hb7⟩
                    have HB7 := hideF (HBA.out.onBelow hb7)
                    have HR7 := hideF (HRA.out.below hb7 HRA.out.lt)
                    have HBs7 := hideF (Buf.start HB7.out.own HB7.out.size)
                    have hSz : (⟨(escL m (z[t]'hlt3).data.toList).toArray⟩ : ByteArray).size = (subT m (z[t]'hlt3)).length := by simp [ByteArray.size, subT]
                    have HL7 := hideF (show A3.length + (⟨(escL m (z[t]'hlt3).data.toList).toArray⟩ : ByteArray).size ≤ 100000000 by have h1 := subT_len (m := m) HOK3.out; have h2 := HLA3.out; rw [hSz]; omega)
                    clear hb7 hSz
                    go_wp2_with (at_builtin; refine wpList_bufS (w0 := w7) rfl (.tmp 66) (.tmp 72) 59 9 rfl w.heap.size 5 Try.underlying59 Try.underlying9 Try.infoByte _ A3 rfl HBs7.out _ rfl HL7.out ?_)
                    intro v8 w8 hb8
                    have HB8 := hideF (HB7.out.trans hb8)
                    have HR8 := hideF (fieldRow_kept hb8 HR7.out)
                    clear hb8
                    obtain ⟨G', hg1, hg2⟩ := HNY.out
                    have HG1 := hideF hg1
                    have HG2 := hideF hg2
                    clear hg1 hg2
                    go_wp2
                    go_roundw
                    case rel => exact ⟨_, t + 1, G', rfl, by omega, by go_num, by rw [← HG1.out]; exact HB8, HR8, HG2⟩
                    case measure => simp [intOf]; omega
                  · have hpos : (0 : Int) < (t : Int) := by omega
                    have hk0 : 0 < t := by omega
                    have HNX := hideF (HD3.out.next hk0 hlt3)
                    have HBs := hideF (HB3.out.alloc (.cells #[.int .u8 ((m[4]'hm4).toNat : Int)] 5))
                    have HBt := hideF ((Buf.start HB3.out.own HB3.out.size).alloc (.cells #[.int .u8 ((m[4]'hm4).toNat : Int)] 5))
                    have HC := hideF (heap_alloc_new Z (.cells #[.int .u8 ((m[4]'hm4).toNat : Int)] 5))
                    have HL3 := hideF (show (A2 ++ F).length + [m[4]'hm4].length ≤ 100000000 by have h1 := HLA3.out; simp only [List.length_cons, List.length_nil]; omega)
                    go_wp2_with (at_builtin; refine wpList_buf (w0 := Z) rfl (.tmp 61) (.tmp 64) 59 rfl w.heap.size 5 Try.underlying59 Try.infoByte _ (A2 ++ F) rfl HBt.out Z.heap.size 1 [m[4]'hm4] rfl rfl ⟨_, HC.out⟩ HL3.out ?_)
                    clear HBs HBt HC HL3
                    intro v6 w6 hb6
                    have HBA := hideF (HB3.out.trans hb6)
                    have HRA := hideF (fieldRow_kept hb6 HR3.out)
                    have hck6 : w6.cell? ⟨g3, off3 + t, none⟩ = some (.string (z[t]'hlt3)) := by rw [hb6.below.cell (p := ⟨g3, off3 + t, none⟩) hg3]; exact hck3
                    clear hb6 hck3
                    obtain ⟨A3, hA3⟩ : ∃ A3, A3 = A2 ++ F ++ [m[4]'hm4] := ⟨_, rfl⟩
                    have HNY : Hid (∃ G, A3 ++ subT m (z[t]'hlt3) = A2 ++ G ∧ Done (bAt m 4) (subT m) z (t + 1) G) := ⟨F ++ [bAt m 4] ++ subT m (z[t]'hlt3), by rw [hA3, HM4.out]; simp, HNX.out⟩
                    have HLA4 := hideF (show A3.length ≤ 60001 by have := HLA3.out; rw [hA3, List.length_append]; simp only [List.length_cons, List.length_nil]; omega)
                    have HBA' : Hid (Buf 5 w.heap.size w w6 v6 A3) := by rw [hA3]; first | exact HBA | simpa only [List.append_assoc] using HBA
                    clear hA3 HNX HBA
                    go_wp2_with fail
                    refine (l04Escape_any m (z[t]'hlt3) _ hm (by have := (subB_plain HOK3.out).2; omega)).mono ?_
                    rintro e w7 ⟨rfl, hb7⟩
                    have HB7 := hideF (HBA'.out.onBelow hb7)
                    have HR7 := hideF (HRA.out.below hb7 HRA.out.lt)
                    have HBs7 := hideF (Buf.start HB7.out.own HB7.out.size)
                    have hSz : (⟨(escL m (z[t]'hlt3).data.toList).toArray⟩ : ByteArray).size = (subT m (z[t]'hlt3)).length := by simp [ByteArray.size, subT]
                    have HL7 := hideF (show A3.length + (⟨(escL m (z[t]'hlt3).data.toList).toArray⟩ : ByteArray).size ≤ 100000000 by have h1 := subT_len (m := m) HOK3.out; have h2 := HLA4.out; rw [hSz]; omega)
                    clear hb7 hSz
                    go_wp2_with (at_builtin; refine wpList_bufS (w0 := w7) rfl (.tmp 66) (.tmp 72) 59 9 rfl w.heap.size 5 Try.underlying59 Try.underlying9 Try.infoByte _ A3 rfl HBs7.out _ rfl HL7.out ?_)
                    intro v8 w8 hb8
                    have HB8 := hideF (HB7.out.trans hb8)
                    have HR8 := hideF (fieldRow_kept hb8 HR7.out)
                    clear hb8
                    obtain ⟨G', hg1, hg2⟩ := HNY.out
                    have HG1 := hideF hg1
                    have HG2 := hideF hg2
                    clear hg1 hg2
                    go_wp2
                    go_roundw
                    case rel => exact ⟨_, t + 1, G', rfl, by omega, by go_num, by rw [← HG1.out]; exact HB8, HR8, HG2⟩
                    case measure => simp [intOf]; omega
                · have HAL := hideF (HD3.out.all (by omega))
                  have HB3' : Hid (Buf 5 w.heap.size w Z u5 (A2 ++ compT m z)) := by rw [HAL.out] at HB3; exact HB3
                  obtain ⟨E', he1, he2⟩ := HN2.out
                  have HEQ := hideF he1
                  have HED := hideF he2
                  clear he1 he2
                  go_wp2
                  go_roundw
                  case rel => exact ⟨_, l + 1, E', rfl, by omega, by go_num, by rw [← HEQ.out]; exact HB3', HR3, HED⟩
                  case measure => simp [intOf]; omega
          · have HAL := hideF (HDy.out.all (by omega))
            have HBy' : Hid (Buf 5 w.heap.size w Y u5 (A1 ++ repT m y)) := by rw [HAL.out] at HBy; exact HBy
            obtain ⟨D', he1, he2⟩ := HN1.out
            have HEQ := hideF he1
            have HED := hideF he2
            clear he1 he2
            go_wp2
            go_roundw
            case rel => exact ⟨_, k + 1, D', rfl, by omega, by go_num, by rw [← HEQ.out]; exact HBy', HRy, HED⟩
            case measure => simp [intOf]; omega
    · have HA := hideF (HD.out.all (by omega))
      rw [HA.out] at HBf
      have hcv := HBf.out.text (P := Try.prog) Try.underlying59 Try.underlying5 Try.underlying9
      go_wp2
      go_ret
      exact ⟨rfl, HBf.out.below⟩
end Go.Proofs.Ytelhgpogfedchaa
