/- The program's readSide: the bytes of a side's sectors, each asked for its own share. -/
import Derived.Test.YtnpbmaajgiapmaaGreatDoorXG30ICut
import Derived.Test.YtnpbmaajgiapmaaGreatDoorXG29IPanic
import Derived.Test.YtnpbmaajgiapmaaGreatDoorXG23SARead2
import Derived.Test.YtnpbmaajgiapmaaGreatDoorXG20SSeenAll
import Derived.Test.YtnpbmaajgiapmaaGreatDoorXG4GJump
import Derived.Test.YtnpbmaajgiapmaaGreatDoorXG16CUnseal
namespace Go.Proofs.YtnpbmaajgiapmaaGreatDoor
open Go.RowKit

theorem row_slice {w : World} {B n : Nat} {e : TypeId} {v : Value} {xs : List Value} (h : w.ownsRow B e 1 v n xs) : ∃ p cap, v = .slice p n cap := by
  obtain ⟨_, ⟨rfl, rfl⟩ | ⟨g, cap, cur, rfl, _⟩⟩ := h
  · exact ⟨_, _, rfl⟩
  · exact ⟨_, _, rfl⟩
theorem text_of_any {P : Program} {e t T B : Nat} {w : World} {v : Value} {b : ByteArray} (h : w.ownsRow B e 1 v b.size (Lib.strCells b))
    (ht : P.underlying t = some (.slice e)) (he : P.underlying e = some (.int .u8)) (hT : P.underlying T = some .string) : (convert t T v).run P w = .ok (.string b) w := by
  by_cases hv : v = .slice none 0 0
  · subst hv
    have hb : b = ⟨#[]⟩ := by
      obtain ⟨_, ⟨_, hn⟩ | ⟨g, cap, cur, hh, _⟩⟩ := h
      · exact ByteArray.size_eq_zero_iff.1 hn
      · cases hh
    subst hb
    rw [run_convert_bytes_string w t T e none 0 0 ht he hT]
    simp [Conv.bytesToString]
    rfl
  · exact text_of_row h hv ht he hT
theorem strCells_len (b : ByteArray) : (Lib.strCells b).length = b.size := by
  unfold Lib.strCells
  rw [List.length_map, Array.length_toList]
  rfl
theorem strCells_one (b : ByteArray) : ∀ u ∈ Lib.strCells b, u.oneCell' = true := by
  unfold Lib.strCells
  intro u hu
  obtain ⟨x, _, rfl⟩ := List.mem_map.1 hu
  rfl
theorem raw_cells (w : World) (d : ByteArray) (e : TypeId) (n : Nat) (hn : n ≤ d.size) (j : Nat) (u : Value) (hu : (Lib.strCells (d.extract 0 n))[j]? = some u) :
    (w.drew.alloc (.cells (bytesRow d (grownCap w d.size 0 e)) e ((bytesRow d (grownCap w d.size 0 e)).size, (bytesRow d (grownCap w d.size 0 e)).size + 1))).cell? ((⟨w.heap.size, 0, none⟩ : Addr).add j) = some u := by
  obtain ⟨hj, hu'⟩ := List.getElem?_eq_some_iff.1 hu
  rw [strCells_len, ByteArray.size_extract] at hj
  rw [add_addr, Nat.zero_add, raw_cell w d e j (by omega), ← hu']
  unfold Lib.strCells
  simp [ByteArray.getElem_eq_getElem_data]

set_option maxRecDepth 100000 in
set_option maxHeartbeats 4000000 in
theorem readSide_any (v : Value) (ys : List ByteArray) (sz : Nat) (w : World) (hr : Reads w v ys) (hn : ys.length ≤ 64) (hsz : sz ≤ 4096) :
    Calls Tryz.prog 121 #[v, .int .i64 sz] w fun e w' => ((full (fun j => ys.getD j ⟨#[]⟩) sz ys.length = true ∧ e = .returned (.string (gath (fun j => ys.getD j ⟨#[]⟩) sz ys.length))) ∨ (full (fun j => ys.getD j ⟨#[]⟩) sz ys.length = false ∧ e = .panicked (fault 5))) ∧ Below w.heap.size w w' := by
  obtain ⟨f, Hf⟩ : ∃ f, Hid (f = (fun j => ys.getD j (⟨#[]⟩ : ByteArray))) := ⟨_, rfl⟩
  rw [← Hf.out]
  obtain ⟨i0, hi, hz0, hz1, hz2⟩ := info_parts Tryz.infoB
  have HR := hide hr
  obtain ⟨p, c, rfl, hq⟩ := hr
  clear hq
  have HO0 := hide (show w.ownsRow w.heap.size 5 1 (.slice none 0 0) (gath f sz 0).size (Lib.strCells (gath f sz 0)) from ⟨rfl, .inl ⟨rfl, rfl⟩⟩)
  go_enter Tryz.func121, Tryz.ntmps121
  go_wp2_with fail
  go_loopw [5, 11] (fun u i wr => ∃ k : Nat, k ≤ ys.length ∧ i = .int .i64 k ∧ Hid (full f sz k = true) ∧ Hid (wr.ownsRow w.heap.size 5 1 u (gath f sz k).size (Lib.strCells (gath f sz k))) ∧ Hid (Below w.heap.size w wr)) (fun _ i _ => ys.length - (intOf i).toNat)
  case atStart => exact ⟨0, Nat.zero_le _, rfl, rfl, HO0, Below.refl _ _⟩
  case round =>
    obtain ⟨k, hk, rfl, HFk, HOw, HB⟩ := hrel
    have hgs := gath_size k HFk.out
    obtain ⟨b, Hb⟩ : ∃ b, Hid (b = gath f sz k) := ⟨_, rfl⟩
    rw [← Hb.out] at hgs HOw
    by_cases hlt : k < ys.length
    · obtain ⟨g, off, rfl, hg, hc⟩ : ∃ g off, p = some ⟨g, off, none⟩ ∧ _ := by
        obtain ⟨p', cap, he, _, _, _, h4⟩ := HR.out.below HB.out (Nat.le_refl _)
        cases he
        exact h4 (by omega)
      have hck := hc k hlt
      obtain ⟨T, hT⟩ : ∃ T, T = ys[k]'hlt := ⟨_, rfl⟩
      rw [← hT] at hck
      have HfT := hide (show f k = T by rw [Hf.out, hT]; simp [hlt])
      clear hc hg hT
      have hki : (k : Int) < (ys.length : Int) := by omega
      obtain ⟨N, hN⟩ : ∃ N, N = b.size := ⟨_, rfl⟩
      rw [← hN] at hgs HOw
      have HNN := hide hN
      clear hN
      obtain ⟨pu, cu, rfl⟩ := row_slice HOw.out
      obtain ⟨D, hD⟩ : ∃ D, D = sz - N := ⟨_, rfl⟩
      have hNw : IntKind.i64.wrap ((sz : Int) - (N : Int)) = (D : Int) := by rw [IntKind.wrap_i64]; omega
      have HFS := hide (full_step f sz k)
      have HG := hide (show gath f sz (k + 1) = b ++ T.extract 0 (want sz k) by rw [Hb.out, ← HfT.out]; rfl)
      have HFN := hide (show ∀ m, want sz k = m → T.size < m → full f sz ys.length = false from fun m hm h => full_not hlt (by rw [HfT.out, hm]; omega))
      have hNs : N ≤ 4096 := by omega
      have hcv := run_bytes_of_string (P := Tryz.prog) wr 9 126 5 T Tryz.underlying9 Tryz.underlying126 Tryz.underlying5
      have HRC := hide (raw_cells wr T 5)
      have bW : Below wr.heap.size wr (wr.drew.alloc (.cells (bytesRow T (grownCap wr T.size 0 5)) 5 ((bytesRow T (grownCap wr T.size 0 5)).size, (bytesRow T (grownCap wr T.size 0 5)).size + 1))) := ((Below.refl _ _).drew).alloc (Nat.le_refl _) _
      obtain ⟨C, hC⟩ : ∃ C, C = grownCap wr T.size 0 5 := ⟨_, rfl⟩
      have hCT : T.size ≤ C := by rw [hC]; exact grownCap_ge _ _ _ _
      obtain ⟨W, hW⟩ : ∃ W, W = wr.drew.alloc (.cells (bytesRow T (grownCap wr T.size 0 5)) 5 ((bytesRow T (grownCap wr T.size 0 5)).size, (bytesRow T (grownCap wr T.size 0 5)).size + 1)) := ⟨_, rfl⟩
      rw [← hW] at bW
      rw [← hW] at HRC
      rw [← hW, ← hC] at hcv
      have HBW := hide (HB.out.trans (bW.mono HB.out.size))
      have HOW := hide (ownsRow_after HOw.out bW)
      have hWs := HBW.out.size
      have HWT0 := hide (show want sz k = min 64 D by unfold want; omega)
      clear hW hC bW hD hgs
      by_cases h64 : 64 < D
      · have h64i : (64 : Int) < (D : Int) := by omega
        have HWT := hide (show want sz k = 64 by rw [HWT0.out]; omega)
        by_cases hshort : T.size < 64
        · have hsi : decide ((T.size : Int) < 64) = true := decide_eq_true (by omega)
          have HF5 := hide (HFN.out _ HWT.out hshort)
          go_wp2_with fail
          refine (refuse_yes 5 _).mono ?_
          rintro e w3 ⟨rfl, rfl⟩
          go_wp2
          exact ⟨rfl, .inr ⟨HF5.out, rfl⟩, HB.out⟩
        · have hsi : decide ((T.size : Int) < 64) = false := decide_eq_false (by omega)
          have hcI : 64 ≤ (C : Int) := by omega
          have hts : (T.extract 0 64).size = 64 := by rw [ByteArray.size_extract]; omega
          have HNL := hide (HRC.out 64 (by omega))
          go_wp2_with fail
          refine (refuse_no 5 _).mono ?_
          rintro e w3 ⟨rfl, rfl⟩
          go_wp2_with (at_builtin; refine wpList_append_own_at _ rfl _ _ 126 rfl w.heap.size 5 i0 (.int .u8 0) 1 1 Tryz.underlying126 hi hz0 hz1 hz2 rfl (by omega) _ N (Lib.strCells b) rfl HOW.out ⟨w3.heap.size, 0, none⟩ 64 64 (Lib.strCells (T.extract 0 64)) rfl (by rw [strCells_len, hts, Nat.mul_one]) HNL.out (strCells_one _) (by unfold maxLen; omega) (by omega) hWs ?_
                       intro v' w6 ho6 hg6 _ _
                       have HO6 := hide ho6
                       have HG6 := hide hg6
                       clear ho6 hg6)
          have HE := hide (show (gath f sz (k + 1)).size = N + 64 ∧ Lib.strCells (gath f sz (k + 1)) = Lib.strCells b ++ Lib.strCells (T.extract 0 64) by rw [HG.out, HWT.out, ByteArray.size_append, strCells_append, HNN.out, hts]; exact ⟨rfl, rfl⟩)
          go_roundw
          case rel =>
            refine ⟨k + 1, by omega, by go_num, by rw [HFS.out, HFk.out, HfT.out, HWT.out]; simp [Hid]; omega, by rw [HE.out.1, HE.out.2]; exact HO6, ?_⟩
            exact below_grown HBW.out HBW.out.size HG6.out (fun j hj => own_ge HOW.out hj)
          case measure => simp [intOf]; omega
      · have h64i : ¬ (64 : Int) < (D : Int) := by omega
        have hD0 : (0 : Int) ≤ (D : Int) := by omega
        have HWT := hide (show want sz k = D by rw [HWT0.out]; omega)
        by_cases hshort : T.size < D
        · have hsi : decide ((T.size : Int) < (D : Int)) = true := decide_eq_true (by omega)
          have HF5 := hide (HFN.out _ HWT.out hshort)
          go_wp2_with fail
          refine (refuse_yes 5 _).mono ?_
          rintro e w3 ⟨rfl, rfl⟩
          go_wp2
          exact ⟨rfl, .inr ⟨HF5.out, rfl⟩, HB.out⟩
        · have hsi : decide ((T.size : Int) < (D : Int)) = false := decide_eq_false (by omega)
          have hcI : (D : Int) ≤ (C : Int) := by omega
          have hts : (T.extract 0 D).size = D := by rw [ByteArray.size_extract]; omega
          have HNL := hide (HRC.out D (by omega))
          go_wp2_with fail
          refine (refuse_no 5 _).mono ?_
          rintro e w3 ⟨rfl, rfl⟩
          go_wp2_with (at_builtin; refine wpList_append_own_at _ rfl _ _ 126 rfl w.heap.size 5 i0 (.int .u8 0) 1 1 Tryz.underlying126 hi hz0 hz1 hz2 rfl (by omega) _ N (Lib.strCells b) rfl HOW.out ⟨w3.heap.size, 0, none⟩ D D (Lib.strCells (T.extract 0 D)) rfl (by rw [strCells_len, hts, Nat.mul_one]) HNL.out (strCells_one _) (by unfold maxLen; omega) (by omega) hWs ?_
                       intro v' w6 ho6 hg6 _ _
                       have HO6 := hide ho6
                       have HG6 := hide hg6
                       clear ho6 hg6)
          have HE := hide (show (gath f sz (k + 1)).size = N + D ∧ Lib.strCells (gath f sz (k + 1)) = Lib.strCells b ++ Lib.strCells (T.extract 0 D) by rw [HG.out, HWT.out, ByteArray.size_append, strCells_append, HNN.out, hts]; exact ⟨rfl, rfl⟩)
          go_roundw
          case rel =>
            refine ⟨k + 1, by omega, by go_num, by rw [HFS.out, HFk.out, HfT.out, HWT.out]; simp [Hid]; omega, by rw [HE.out.1, HE.out.2]; exact HO6, ?_⟩
            exact below_grown HBW.out HBW.out.size HG6.out (fun j hj => own_ge HOW.out hj)
          case measure => simp [intOf]; omega
    · have hki : ¬ (k : Int) < (ys.length : Int) := by omega
      have hke : k = ys.length := by omega
      have hcb := text_of_any HOw.out Tryz.underlying126 Tryz.underlying5 Tryz.underlying9
      have HE := hide (show full f sz ys.length = true ∧ b = gath f sz ys.length by rw [← hke]; exact ⟨HFk.out, Hb.out⟩)
      obtain ⟨pu, cu, rfl⟩ := row_slice HOw.out
      clear hgs
      go_wp2
      go_ret
      exact ⟨.inl ⟨HE.out.1, by rw [← HE.out.2]; rfl⟩, HB.out⟩
end Go.Proofs.YtnpbmaajgiapmaaGreatDoor
/- How the program reads a head. -/
namespace Go.Proofs.YtnpbmaajgiapmaaGreatDoor
open Go.RowKit

instance stab_laid : Stab St3.Laid := ⟨fun hb h => by
  have := St3.laid_lt h
  unfold St3.Laid at h ⊢
  rw [hb.cell (p := ⟨3, 0, none⟩) this]; exact h⟩

set_option maxRecDepth 100000 in
set_option maxHeartbeats 1000000 in
theorem headNum_yes (t : ByteArray) (a : Nat) (n p : Int) (w : World) (ht : t.size ≤ 8000) (ha : (a : Int) ≤ 9223372036854775807) (HR : Hid (St3.scan t a 10 0 0 = (n, p, 0))) :
    Calls Tryz.prog 144 #[.string t, .int .i64 a] w fun e w' => e = .returned (.tuple #[.int .i64 n, .int .i64 p]) ∧ Below w.heap.size w w' := by
  go_enter Tryz.func144, Tryz.ntmps144
  go_wp2_with fail
  refine (St3.implGetNum_yes t a n p _ ht ha HR).mono ?_
  rintro e w1 ⟨rfl, hb1⟩
  have HB := hide (hb1.alloc hb1.size (.cells #[.int .i64 n, .int .i64 p, .int .i64 0] 86))
  clear hb1
  go_wp2_with fail
  refine (refuse_no _ _).mono ?_
  rintro e w2 ⟨rfl, rfl⟩
  go_wp2_with fail
  go_region
  go_wp2
  exact bodyPost_ret (v := .tuple #[.int .i64 n, .int .i64 p]) (by simp [results, Tryz.results144, go_sem]) rfl ⟨rfl, HB.out.drew⟩
set_option maxHeartbeats 1000000 in
theorem headNum_no (t : ByteArray) (a : Nat) (c : Int) (w : World) (ht : t.size ≤ 8000) (ha : (a : Int) ≤ 9223372036854775807) (hg : St3.Laid w) (hc : c = 3 ∨ c = 4) (HR : Hid (St3.scan t a 10 0 0 = (0, 0, c))) :
    Calls Tryz.prog 144 #[.string t, .int .i64 a] w fun e w' => e = .panicked (fault 3) ∧ Below w.heap.size w w' := by
  have hc' : (c != 0) = true := by simp; omega
  have HC := hide hc
  clear hc
  go_enter Tryz.func144, Tryz.ntmps144
  go_wp2_with fail
  refine (St3.implGetNum_no t a c _ ht ha hg HC.out HR).mono ?_
  rintro e w1 ⟨rfl, hb1⟩
  have HB := hide (hb1.alloc hb1.size (.cells #[.int .i64 0, .int .i64 0, .int .i64 c] 86))
  clear hb1
  go_wp2_with fail
  refine (refuse_yes _ _).mono ?_
  rintro e w2 ⟨rfl, rfl⟩
  go_wp2
  exact ⟨rfl, rfl, HB.out⟩
end Go.Proofs.YtnpbmaajgiapmaaGreatDoor
/- The program's readHead: what it tells of a sector's text. -/
namespace Go.Proofs.YtnpbmaajgiapmaaGreatDoor
open Go.RowKit

/-- What the program tells of a text that may be a head: the number, the side, the bytes, the code. -/
def headSeen (s : ByteArray) : Int × Int × Int × Int :=
  if s.size < 4 then (0, 0, 0, 4)
  else if ¬ St1.sealOf (s.extract 0 (s.size - 4)) = s then (0, 0, 0, 5)
  else
    let r := nums (s.extract 0 (s.size - 4))
    if r.1.2.2 = 0 ∧ r.2.1.2.2 = 0 ∧ r.2.2.2.2 = 0 ∧ (0 ≤ r.1.1 ∧ 0 ≤ r.2.1.1 ∧ r.2.1.1 ≤ 1 ∧ 0 ≤ r.2.2.1) ∧ r.2.2.2.1 = ((s.extract 0 (s.size - 4)).size : Int) then (r.1.1, r.2.1.1, r.2.2.1, 0) else (0, 0, 0, 3)
def HeadIs (e : Ending) (r : Int × Int × Int × Int) : Prop :=
  (r.2.2.2 = 0 ∧ e = .returned (.agg #[.int .i64 r.1, .int .i64 r.2.1, .int .i64 r.2.2.1])) ∨ (r.2.2.2 ≠ 0 ∧ e = .panicked (fault r.2.2.2))

theorem three' {w : World} {G : Nat} {T : TypeId} {a b c : Value} (R : Row w G T [a, b, c]) (A B C : Value) :
    (((w.setCell ⟨G, 0, none⟩ A).setCell ⟨G, 1, none⟩ B).setCell ⟨G, 2, none⟩ C).cell? ⟨G, 0, none⟩ = some A ∧
    (((w.setCell ⟨G, 0, none⟩ A).setCell ⟨G, 1, none⟩ B).setCell ⟨G, 2, none⟩ C).cell? ⟨G, 1, none⟩ = some B ∧
    (((w.setCell ⟨G, 0, none⟩ A).setCell ⟨G, 1, none⟩ B).setCell ⟨G, 2, none⟩ C).cell? ⟨G, 2, none⟩ = some C ∧
    Kept [G] w (((w.setCell ⟨G, 0, none⟩ A).setCell ⟨G, 1, none⟩ B).setCell ⟨G, 2, none⟩ C) := by
  have R4 := ((R.set (j := 0) A).set (j := 1) B).set (j := 2) C
  exact ⟨R4.cell 0, R4.cell 1, R4.cell 2, (((Kept.refl _ _).set (by simp) _).set (by simp) _).set (by simp) _⟩

theorem scan_or (t : ByteArray) (a : Nat) {n p c : Int} (h : St3.scan t a 10 0 0 = (n, p, c)) : c = 0 ∨ ((n = 0 ∧ p = 0) ∧ (c = 3 ∨ c = 4)) := by
  rcases scan_codeP t a 10 0 0 with h1 | h1 | h1
  · left; rw [h] at h1; exact h1
  · right; rw [h] at h1; injection h1 with e1 e2; injection e2 with e2 e3; exact ⟨⟨e1, e2⟩, .inl e3⟩
  · right; rw [h] at h1; injection h1 with e1 e2; injection e2 with e2 e3; exact ⟨⟨e1, e2⟩, .inr e3⟩

set_option maxRecDepth 100000 in
set_option maxHeartbeats 4000000 in
theorem readHead_bad (s : ByteArray) (c : Int) (w : World) (hc : c ≠ 0) (hU : ∀ W : World, Calls Tryz.prog 143 #[.string s] W fun e w' => e = .returned (.agg #[.string ⟨#[]⟩, .int .i64 0, .int .i64 c]) ∧ Below W.heap.size W w') :
    Calls Tryz.prog 119 #[.string s] w fun e w' => e = .panicked (fault c) ∧ Below w.heap.size w w' := by
  have hb0 := below_new w (.cells #[.int .i64 0, .int .i64 0, .int .i64 0] 114)
  have HB0 := hide hb0
  have HU := hide hU
  clear hb0 hU
  go_enter Tryz.func119, Tryz.ntmps119
  go_wp2_with fail
  refine (HU.out _).mono ?_
  rintro e w1 ⟨rfl, hb1⟩
  have b1 := HB0.out.trans (hb1.mono HB0.out.size)
  have HB1 := hide (b1.alloc b1.size (.cells #[.string ⟨#[]⟩, .int .i64 0, .int .i64 c] 89))
  clear hb1 b1
  go_wp2_with fail
  refine (refuseCode_yes _ _ hc).mono ?_
  rintro e w2 ⟨rfl, rfl⟩
  go_wp2
  exact ⟨rfl, rfl, HB1.out⟩

set_option maxRecDepth 100000 in
set_option maxHeartbeats 8000000 in
theorem readHead_ok (s t : ByteArray) (A1 A3 B1 B3 C1 C3 n3 : Int) (n1 n2 : Nat) (w : World) (ht : t.size ≤ 8000) (hn1 : n1 ≤ 8000) (hn2 : n2 ≤ 8000) (hg : St3.Laid w)
    (HA : Hid (St3.scan t 0 10 0 0 = (A1, (n1 : Int), A3))) (HB : Hid (St3.scan t n1 10 0 0 = (B1, (n2 : Int), B3))) (HC : Hid (St3.scan t n2 10 0 0 = (C1, n3, C3)))
    (hU : ∀ W : World, Calls Tryz.prog 143 #[.string s] W fun e w' => e = .returned (.agg #[.string t, .int .i64 0, .int .i64 0]) ∧ Below W.heap.size W w') :
    Calls Tryz.prog 119 #[.string s] w fun e w' => HeadIs e (if A3 = 0 ∧ B3 = 0 ∧ C3 = 0 ∧ (0 ≤ A1 ∧ 0 ≤ B1 ∧ B1 ≤ 1 ∧ 0 ≤ C1) ∧ n3 = (t.size : Int) then (A1, B1, C1, 0) else (0, 0, 0, 3)) ∧ Below w.heap.size w w' := by
  have hb0 := below_new w (.cells #[.int .i64 0, .int .i64 0, .int .i64 0] 114)
  have HB0 := hide hb0
  have HU := hide hU
  have HG := hide (Stab.go hb0 hg)
  have HN := hide (row_new w [.int .i64 0, .int .i64 0, .int .i64 0] 114)
  clear hb0 hU hg
  have hSA := scan_or t 0 HA.out
  have hSB := scan_or t n1 HB.out
  have hSC := scan_or t n2 HC.out
  have HSA := hide hSA
  have HSB := hide hSB
  have HSC := hide hSC
  clear hSA hSB hSC
  obtain ⟨RR, HRR⟩ : ∃ RR : Int × Int × Int × Int, Hid (RR = if A3 = 0 ∧ B3 = 0 ∧ C3 = 0 ∧ (0 ≤ A1 ∧ 0 ≤ B1 ∧ B1 ≤ 1 ∧ 0 ≤ C1) ∧ n3 = (t.size : Int) then (A1, B1, C1, 0) else (0, 0, 0, 3)) := ⟨_, rfl⟩
  rw [← HRR.out]
  go_enter Tryz.func119, Tryz.ntmps119
  go_wp2_with fail
  refine (HU.out _).mono ?_
  rintro e w1 ⟨rfl, hb1⟩
  have b1 := HB0.out.trans (hb1.mono HB0.out.size)
  have HN1 := hide ((Row.after hb1 HN.out).alloc (.cells #[.string t, .int .i64 0, .int .i64 0] 89))
  have HG1 := hide (Stab.go (below_new w1 (.cells #[.string t, .int .i64 0, .int .i64 0] 89)) (Stab.go hb1 HG.out))
  have HB1 := hide (b1.alloc b1.size (.cells #[.string t, .int .i64 0, .int .i64 0] 89))
  have HX1 := hide (row_new w1 [.string t, .int .i64 0, .int .i64 0] 89)
  clear hb1 b1 HB0 HG HN
  go_wp2_with fail
  refine (refuseCode_no _).mono ?_
  rintro e w1' ⟨rfl, rfl⟩
  go_wp2_with fail
  by_cases hA : A3 = 0
  · have HA0 := hide (show St3.scan t 0 10 0 0 = (A1, (n1 : Int), 0) by rw [HA.out, hA])
    refine (headNum_yes t 0 A1 n1 _ ht (by omega) HA0).mono ?_
    rintro e w2 ⟨rfl, hb2⟩
    have HB2 := hide (HB1.out.trans (hb2.mono HB1.out.size))
    have HN2 := hide (Row.after hb2 HN1.out)
    have HG2 := hide (Stab.go hb2 HG1.out)
    have HX2 := hide (Row.after hb2 HX1.out)
    have x0 : w2.cell? ⟨w1.heap.size, 0, none⟩ = some (.string t) := HX2.out.cell 0
    have HhA := hide hA
    clear hb2 hA
    go_wp2_with fail
    by_cases hB : B3 = 0
    · have HB0' := hide (show St3.scan t n1 10 0 0 = (B1, (n2 : Int), 0) by rw [HB.out, hB])
      refine (headNum_yes t n1 B1 n2 _ ht (by omega) HB0').mono ?_
      rintro e w3 ⟨rfl, hb3⟩
      have HB3 := hide (HB2.out.trans (hb3.mono HB2.out.size))
      have HN3 := hide (Row.after hb3 HN2.out)
      have HG3 := hide (Stab.go hb3 HG2.out)
      have HX3 := hide (Row.after hb3 HX2.out)
      have y0 : w3.cell? ⟨w1.heap.size, 0, none⟩ = some (.string t) := HX3.out.cell 0
      have HhB := hide hB
      clear hb3 hB x0
      go_wp2_with fail
      by_cases hC : C3 = 0
      · have HC0 := hide (show St3.scan t n2 10 0 0 = (C1, n3, 0) by rw [HC.out, hC])
        refine (headNum_yes t n2 C1 n3 _ ht (by omega) HC0).mono ?_
        rintro e w4 ⟨rfl, hb4⟩
        have HB4 := hide (HB3.out.trans (hb4.mono HB3.out.size))
        have HN4 := hide (Row.after hb4 HN3.out)
        have HX4 := hide (Row.after hb4 HX3.out)
        have z0 : w4.cell? ⟨w1.heap.size, 0, none⟩ = some (.string t) := HX4.out.cell 0
        have HhC := hide hC
        clear hb4 hC y0
        by_cases hrng : 0 ≤ A1 ∧ 0 ≤ B1 ∧ B1 ≤ 1 ∧ 0 ≤ C1
        · obtain ⟨r1, r2, r3, r4⟩ := hrng
          have k1 : decide (A1 < 0) = false := decide_eq_false (by omega)
          have k2 : decide (B1 < 0) = false := decide_eq_false (by omega)
          have k3 : decide (1 < B1) = false := decide_eq_false (by omega)
          have k4 : decide (C1 < 0) = false := decide_eq_false (by omega)
          go_wp2_with fail
          refine (refuse_no _ _).mono ?_
          rintro e w5 ⟨rfl, rfl⟩
          by_cases hlen : n3 = (t.size : Int)
          · have hne : (n3 != (t.size : Int)) = false := by rw [hlen]; simp
            have HL := hide hlen
            clear hlen
            go_wp2_with fail
            refine (refuse_no _ _).mono ?_
            rintro e w6 ⟨rfl, rfl⟩
            have c0 : w6.cell? ⟨w.heap.size, 0, none⟩ = some (.int .i64 0) := HN4.out.cell 0
            have c1 : w6.cell? ⟨w.heap.size, 1, none⟩ = some (.int .i64 0) := HN4.out.cell 1
            have c2 : w6.cell? ⟨w.heap.size, 2, none⟩ = some (.int .i64 0) := HN4.out.cell 2
            have f0 := HN4.out.free 0
            have f1 := HN4.out.free 1
            have f2 := HN4.out.free 2
            have HR := hide (show 0 ≤ A1 ∧ 0 ≤ B1 ∧ B1 ≤ 1 ∧ 0 ≤ C1 from ⟨r1, r2, r3, r4⟩)
            go_wp2
            obtain ⟨q0, q1, q2, KF⟩ := three' HN4.out (.int .i64 A1) (.int .i64 B1) (.int .i64 C1)
            exact bodyPost_ret (v := .agg #[.int .i64 A1, .int .i64 B1, .int .i64 C1]) (by simp [results, Tryz.results119, go_sem, q0, q1, q2]) rfl
              ⟨by rw [HRR.out, if_pos ⟨HhA.out, HhB.out, HhC.out, HR.out, HL.out⟩]; exact .inl ⟨rfl, rfl⟩, KF.toBelow HB4.out HB4.out.size (by simp)⟩
          · have hne : (n3 != (t.size : Int)) = true := by simpa using hlen
            have HL := hide hlen
            clear hlen
            go_wp2_with fail
            refine (refuse_yes _ _).mono ?_
            rintro e w6 ⟨rfl, rfl⟩
            go_wp2
            exact ⟨rfl, by rw [HRR.out, if_neg (fun h => HL.out h.2.2.2.2)]; exact .inr ⟨by simp, rfl⟩, HB4.out⟩
        · have HRN := hide hrng
          have HEND := hide (show HeadIs (.panicked (fault 3)) RR by
            rw [HRR.out, if_neg (fun h => hrng h.2.2.2.1)]; exact .inr ⟨by simp, rfl⟩)
          by_cases g1 : A1 < 0
          · have k1 : decide (A1 < 0) = true := decide_eq_true g1
            clear hrng g1
            go_wp2_with fail
            refine (refuse_yes _ _).mono ?_
            rintro e w5 ⟨rfl, rfl⟩
            go_wp2
            exact ⟨rfl, HEND.out, HB4.out⟩
          · have k1 : decide (A1 < 0) = false := decide_eq_false g1
            by_cases g2 : B1 < 0
            · have k2 : decide (B1 < 0) = true := decide_eq_true g2
              clear hrng g1 g2
              go_wp2_with fail
              refine (refuse_yes _ _).mono ?_
              rintro e w5 ⟨rfl, rfl⟩
              go_wp2
              exact ⟨rfl, HEND.out, HB4.out⟩
            · have k2 : decide (B1 < 0) = false := decide_eq_false g2
              by_cases g3 : 1 < B1
              · have k3 : decide (1 < B1) = true := decide_eq_true g3
                clear hrng g1 g2 g3
                go_wp2_with fail
                refine (refuse_yes _ _).mono ?_
                rintro e w5 ⟨rfl, rfl⟩
                go_wp2
                exact ⟨rfl, HEND.out, HB4.out⟩
              · have k3 : decide (1 < B1) = false := decide_eq_false g3
                have k4 : decide (C1 < 0) = true := decide_eq_true (by omega)
                clear hrng g1 g2 g3
                go_wp2_with fail
                refine (refuse_yes _ _).mono ?_
                rintro e w5 ⟨rfl, rfl⟩
                go_wp2
                exact ⟨rfl, HEND.out, HB4.out⟩
      · obtain ⟨⟨rfl, rfl⟩, hc34⟩ := HSC.out.resolve_left hC
        refine (headNum_no t n2 C3 _ ht (by omega) HG3.out hc34 HC).mono ?_
        rintro e w4 ⟨rfl, hb4⟩
        have HB4 := hide (HB3.out.trans (hb4.mono HB3.out.size))
        clear hb4
        go_wp2
        exact ⟨rfl, by rw [HRR.out, if_neg (fun h => hC h.2.2.1)]; exact .inr ⟨by simp, rfl⟩, HB4.out⟩
    · obtain ⟨⟨e1, e2⟩, hc34⟩ := HSB.out.resolve_left hB
      have HB' := hide (show St3.scan t n1 10 0 0 = (0, 0, B3) by rw [HB.out, e1, e2])
      refine (headNum_no t n1 B3 _ ht (by omega) HG2.out hc34 HB').mono ?_
      rintro e w3 ⟨rfl, hb3⟩
      have HB3 := hide (HB2.out.trans (hb3.mono HB2.out.size))
      clear hb3 e1 e2
      go_wp2
      exact ⟨rfl, by rw [HRR.out, if_neg (fun h => hB h.2.1)]; exact .inr ⟨by simp, rfl⟩, HB3.out⟩
  · obtain ⟨⟨e1, e2⟩, hc34⟩ := HSA.out.resolve_left hA
    have HA' := hide (show St3.scan t 0 10 0 0 = (0, 0, A3) by rw [HA.out, e1, e2])
    refine (headNum_no t 0 A3 _ ht (by omega) HG1.out hc34 HA').mono ?_
    rintro e w2 ⟨rfl, hb2⟩
    have HB2 := hide (HB1.out.trans (hb2.mono HB1.out.size))
    clear hb2 e1 e2
    go_wp2
    exact ⟨rfl, by rw [HRR.out, if_neg (fun h => hA h.1)]; exact .inr ⟨by simp, rfl⟩, HB2.out⟩
end Go.Proofs.YtnpbmaajgiapmaaGreatDoor
