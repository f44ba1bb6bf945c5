/- l09Write of the model; lists of items cut and put together. -/
import Derived.Test.YtbhdbkffejlfmaaGreatDoorXGQSGet
import Derived.Test.YtbhdbkffejlfmaaGreatDoorXGSARead
import Derived.OrdersHeld
import Derived.Deep.RegionHeld3
namespace Go.Proofs.YtbhdbkffejlfmaaGreatDoor
open Go.RowKit

theorem putOut_bad {xs : List ByteArray} {ps : List (Int × ByteArray)} {d : ByteArray} {a : Int} (h : (putOut xs ps d a).c ≠ 0) : putOut xs ps d a = aill (putOut xs ps d a).c := by
  unfold putOut at h ⊢
  split
  · rfl
  · rename_i h1
    rw [if_neg h1] at h
    split
    · rfl
    · rename_i h2
      rw [if_neg h2] at h
      split
      · rfl
      · rename_i h3
        rw [if_neg h3] at h
        split
        · rfl
        · rename_i h4
          rw [if_neg h4] at h
          split
          · rename_i h5
            rw [if_pos h5] at h
            exact absurd rfl h
          · rfl
theorem kput_bad {xs : List ByteArray} {ps : List (Int × ByteArray)} {d : ByteArray} {a : Int} (h : (putOut xs ps d a).c ≠ 0) : kput xs ps d a = kill (putOut xs ps d a).c := by
  unfold kput
  rw [putOut_bad h]
  rfl
theorem kendK {w W Z V : World} {us up : Value} {o : KOut} (h0 : Below w.heap.size w W) (hz : Below W.heap.size W Z) (hws : w.heap.size + 2 = W.heap.size) (k : Kept [w.heap.size + 1] Z V)
    (o1 : OwnS 9 (w.heap.size + 2) Z us o.xs) (o2 : OwnP 73 (w.heap.size + 2) Z up o.ps) (dd : ∀ x ∈ leads us, x ∉ leads up) :
    KOutIs w.heap.size (.returned (.agg #[us, up, .string o.t, .int .i64 o.c])) V o ∧ Below w.heap.size w V := by
  have hb := h0.trans (hz.mono h0.size)
  refine ⟨⟨us, up, rfl, (o1.kept k ?_).mono (by omega), (o2.kept k ?_).mono (by omega), dd⟩, k.toBelow hb hb.size (by simp)⟩
  · intro x hx
    have := (o1.leads x hx).1
    simp
    omega
  · intro x hx
    have := (o2.leads x hx).1
    simp
    omega
def writeO (xs : List ByteArray) (ps : List (Int × ByteArray)) (M : List Item) (a : Int) : KOut := if 8000 < (storeB M).size then kill 9 else kput xs ps (storeB M) a

set_option maxHeartbeats 8000000 in
theorem l09Write_any (vs vp v : Value) (xs : List ByteArray) (ps : List (Int × ByteArray)) (M : List Item) (a : Int) (w : World) (hn : xs.length ≤ 1048576) (hn2 : ps.length ≤ 1048576) (hr : Reads w vs xs) (hp : ReadsP w vp ps) (hi : ReadsIt w v M) (ho : ∀ x ∈ M, OkI x) (hl : M.length ≤ 20) :
    Calls Tryz.prog 56 #[.agg #[vs, vp], v, .int .i64 a] w fun e w' => KOutIs w.heap.size e w' (writeO xs ps M a) ∧ Below w.heap.size w w' := by
  have HR := hide hr
  have HP := hide hp
  obtain ⟨p1, c1, rfl, _⟩ := hr
  obtain ⟨p2, c2, rfl, _⟩ := hp
  obtain ⟨W, hW⟩ : ∃ W, W = (w.alloc (.cells #[.slice p1 xs.length c1, .slice p2 ps.length c2] 29)).alloc (.cells #[.slice none 0 0, .slice none 0 0, .string ⟨#[]⟩, .int .i64 0] 51) := ⟨_, rfl⟩
  have HB0 := hide (show Below w.heap.size w W by rw [hW]; exact ((Below.refl _ _).alloc (Nat.le_refl _) _).alloc (by simp) _)
  have HWS := hide (show w.heap.size + 2 = W.heap.size by rw [hW]; simp)
  have HRD := hide (show Row W w.heap.size 29 [.slice p1 xs.length c1, .slice p2 ps.length c2] by rw [hW]; exact (row_new w _ _).alloc _)
  have HRO := hide (show Row W (w.heap.size + 1) 51 [.slice none 0 0, .slice none 0 0, .string ⟨#[]⟩, .int .i64 0] by
    rw [hW]
    have := row_new (w.alloc (.cells #[.slice p1 xs.length c1, .slice p2 ps.length c2] 29)) [.slice none 0 0, .slice none 0 0, .string ⟨#[]⟩, .int .i64 0] 51
    simpa using this)
  have HI0 := hide (hi.below HB0.out (Nat.le_refl _))
  have HOM := hide ho
  obtain ⟨T, hT⟩ : ∃ T, T = storeB M := ⟨_, rfl⟩
  have HTS := hide (show T.size ≤ 170000 by rw [hT]; exact storeB_size ho hl)
  have HC := hide (specBytes_any v M W HI0.out ho hl)
  obtain ⟨o, hoo⟩ : ∃ o, o = writeO xs ps M a := ⟨_, rfl⟩
  have HOE := hide (show o = if 8000 < T.size then kill 9 else kput xs ps T a by rw [hoo, hT]; rfl)
  rw [← hT] at HC
  rw [← hoo]
  clear hT hoo hi ho
  have hts := HTS.out
  go_enter Tryz.func56, Tryz.ntmps56
  go_wp2_with fail
  rw [← hW]
  clear hW
  refine HC.out.mono ?_
  rintro e w1 ⟨rfl, hb1⟩
  have HX0 := hide hb1
  have HB1 := hide (HB0.out.trans (hb1.mono HB0.out.size))
  have HRO1 := hide (HRO.out.below hb1 HRO.out.lt)
  have HRD1 := hide (HRD.out.below hb1 HRD.out.lt)
  clear hb1
  by_cases h8 : 8000 < T.size
  · have HE := hide (show o = kill 9 by rw [HOE.out, if_pos h8])
    have h8i : (8000 : Int) < (T.size : Int) := by omega
    go_wp2_with fail
    refine (l09Ill_any 9 _).mono ?_
    rintro e w2 ⟨rfl, hb2⟩
    have HB2 := hide (HB1.out.trans (hb2.mono HB1.out.size))
    have HR2 := hide (HRO1.out.below hb2 HRO1.out.lt)
    clear hb2
    have g0 : w2.cell? ⟨w.heap.size + 1, 0, none⟩ = some (.slice none 0 0) := HR2.out.cell 0
    have g1 : w2.cell? ⟨w.heap.size + 1, 1, none⟩ = some (.slice none 0 0) := HR2.out.cell 1
    have g2 : w2.cell? ⟨w.heap.size + 1, 2, none⟩ = some (.string ⟨#[]⟩) := HR2.out.cell 2
    have g3 : w2.cell? ⟨w.heap.size + 1, 3, none⟩ = some (.int .i64 0) := HR2.out.cell 3
    have h0 := HR2.out.free 0
    have h1 := HR2.out.free 1
    have h2 := HR2.out.free 2
    have h3 := HR2.out.free 3
    go_wp2
    obtain ⟨r0, r1, r2, r3, KG⟩ := four HR2.out (.slice none 0 0) (.slice none 0 0) (.string ⟨#[]⟩) (.int .i64 9)
    exact bodyPost_ret (v := .agg #[.slice none 0 0, .slice none 0 0, .string ⟨#[]⟩, .int .i64 9]) (by simp [results, Tryz.results56, go_sem, r0, r1, r2, r3]) rfl ⟨by rw [HE.out]; exact KOutIs.ill _ _ _, KG.toBelow HB2.out HB2.out.size (by simp)⟩
  have h8i : ¬ (8000 : Int) < (T.size : Int) := by omega
  obtain ⟨Y, hY⟩ : ∃ Y, Y = putOut xs ps T a := ⟨_, rfl⟩
  have HY := hide hY
  have HE0 := hide (show o = kput xs ps T a by rw [HOE.out, if_neg h8])
  clear hY
  have a0 : w1.cell? ⟨w.heap.size, 0, none⟩ = some (.slice p1 xs.length c1) := HRD1.out.cell 0
  have a1 : w1.cell? ⟨w.heap.size, 1, none⟩ = some (.slice p2 ps.length c2) := HRD1.out.cell 1
  go_wp2_with fail
  refine (specAreaPut_any _ _ xs ps T a _ hn hn2 (by omega) (HR.out.below HB1.out (Nat.le_refl _)) (HP.out.below HB1.out (Nat.le_refl _))).mono ?_
  rw [← HY.out]
  rintro e w2 ⟨⟨us, up, rfl, o1, o2, dd⟩, hb2⟩
  obtain ⟨s1, s2, s3, rfl⟩ := o1.isSlice
  obtain ⟨s4, s5, s6, rfl⟩ := o2.isSlice
  obtain ⟨yt, hyt⟩ : ∃ t, t = Y.t := ⟨_, rfl⟩
  obtain ⟨yg, hyg⟩ : ∃ t, t = Y.g := ⟨_, rfl⟩
  obtain ⟨yc, hyc⟩ : ∃ t, t = Y.c := ⟨_, rfl⟩
  rw [← hyt, ← hyg, ← hyc]
  have HYC := hide hyc
  clear hyt hyg hyc a0 a1
  have HB2 := hide (HB1.out.trans (hb2.mono HB1.out.size))
  have hge : w.heap.size + 2 ≤ w1.heap.size := by have := HWS.out; have := HX0.out.size; omega
  obtain ⟨X, hX⟩ : ∃ X, X = w2.alloc (.cells #[.slice s1 s2 s3, .slice s4 s5 s6, .string yt, .int .i64 yg, .int .i64 yc] 105) := ⟨_, rfl⟩
  have bn := below_new w2 (.cells #[.slice s1 s2 s3, .slice s4 s5 s6, .string yt, .int .i64 yg, .int .i64 yc] 105)
  have HXW := hide (show Below W.heap.size W X by rw [hX]; exact (HX0.out.trans (hb2.mono HX0.out.size)).trans (bn.mono (Nat.le_trans HX0.out.size hb2.size)))
  have HBX := hide (HB0.out.trans (HXW.out.mono HB0.out.size))
  have HROX := hide (HRO.out.below HXW.out HRO.out.lt)
  have O1 := hide (show OwnS 9 (w.heap.size + 2) X (.slice s1 s2 s3) Y.xs by rw [hX]; exact (o1.below bn (Nat.le_refl _)).mono hge)
  have O2 := hide (show OwnP 73 (w.heap.size + 2) X (.slice s4 s5 s6) Y.ps by rw [hX]; exact (o2.below bn (Nat.le_refl _)).mono hge)
  have DD := hide dd
  have HRA := hide (show Row X w2.heap.size 105 [.slice s1 s2 s3, .slice s4 s5 s6, .string yt, .int .i64 yg, .int .i64 yc] by rw [hX]; exact row_new w2 _ _)
  clear hb2 bn o1 o2 dd hge
  by_cases hc : yc = 0
  · subst hc
    have HE := hide (show o = ⟨Y.xs, Y.ps, ⟨#[]⟩, 0⟩ by rw [HE0.out]; unfold kput; rw [← HY.out, ← HYC.out])
    have q0 : (w2.alloc (.cells #[.slice s1 s2 s3, .slice s4 s5 s6, .string yt, .int .i64 yg, .int .i64 0] 105)).cell? ⟨w.heap.size + 1, 0, none⟩ = some (.slice none 0 0) := by rw [← hX]; exact HROX.out.cell 0
    have q1 : (w2.alloc (.cells #[.slice s1 s2 s3, .slice s4 s5 s6, .string yt, .int .i64 yg, .int .i64 0] 105)).cell? ⟨w.heap.size + 1, 1, none⟩ = some (.slice none 0 0) := by rw [← hX]; exact HROX.out.cell 1
    have q2 : (w2.alloc (.cells #[.slice s1 s2 s3, .slice s4 s5 s6, .string yt, .int .i64 yg, .int .i64 0] 105)).cell? ⟨w.heap.size + 1, 2, none⟩ = some (.string ⟨#[]⟩) := by rw [← hX]; exact HROX.out.cell 2
    have q3 : (w2.alloc (.cells #[.slice s1 s2 s3, .slice s4 s5 s6, .string yt, .int .i64 yg, .int .i64 0] 105)).cell? ⟨w.heap.size + 1, 3, none⟩ = some (.int .i64 0) := by rw [← hX]; exact HROX.out.cell 3
    have f0 : (w2.alloc (.cells #[.slice s1 s2 s3, .slice s4 s5 s6, .string yt, .int .i64 yg, .int .i64 0] 105)).frozen? ⟨w.heap.size + 1, 0, none⟩ = false := by rw [← hX]; exact HROX.out.free 0
    have f1 : (w2.alloc (.cells #[.slice s1 s2 s3, .slice s4 s5 s6, .string yt, .int .i64 yg, .int .i64 0] 105)).frozen? ⟨w.heap.size + 1, 1, none⟩ = false := by rw [← hX]; exact HROX.out.free 1
    have f2 : (w2.alloc (.cells #[.slice s1 s2 s3, .slice s4 s5 s6, .string yt, .int .i64 yg, .int .i64 0] 105)).frozen? ⟨w.heap.size + 1, 2, none⟩ = false := by rw [← hX]; exact HROX.out.free 2
    have f3 : (w2.alloc (.cells #[.slice s1 s2 s3, .slice s4 s5 s6, .string yt, .int .i64 yg, .int .i64 0] 105)).frozen? ⟨w.heap.size + 1, 3, none⟩ = false := by rw [← hX]; exact HROX.out.free 3
    go_wp2
    rw [← hX]
    obtain ⟨r0, r1, r2, r3, KG⟩ := four HROX.out (.slice s1 s2 s3) (.slice s4 s5 s6) (.string ⟨#[]⟩) (.int .i64 0)
    exact bodyPost_ret (v := .agg #[.slice s1 s2 s3, .slice s4 s5 s6, .string ⟨#[]⟩, .int .i64 0]) (by simp [results, Tryz.results56, go_sem, r0, r1, r2, r3]) rfl
      (by rw [HE.out]; exact kendK (o := ⟨Y.xs, Y.ps, ⟨#[]⟩, 0⟩) HB0.out HXW.out HWS.out KG O1.out O2.out DD.out)
  · have HE := hide (show o = kill yc by rw [HE0.out, kput_bad (by rw [← HY.out, ← HYC.out]; exact hc), ← HY.out, ← HYC.out])
    have hcb : (yc != 0) = true := by simpa using hc
    have k4 : (w2.alloc (.cells #[.slice s1 s2 s3, .slice s4 s5 s6, .string yt, .int .i64 yg, .int .i64 yc] 105)).cell? ⟨w2.heap.size, 4, none⟩ = some (.int .i64 yc) := by rw [← hX]; exact HRA.out.cell 4
    clear hc
    go_wp2_with fail
    rw [← hX]
    clear k4 hX
    refine (l09Ill_any yc _).mono ?_
    rintro e w3 ⟨rfl, hb3⟩
    have HB3 := hide (HBX.out.trans (hb3.mono HBX.out.size))
    have HR2 := hide (HROX.out.below hb3 HROX.out.lt)
    clear hb3
    have g0 : w3.cell? ⟨w.heap.size + 1, 0, none⟩ = some (.slice none 0 0) := HR2.out.cell 0
    have g1 : w3.cell? ⟨w.heap.size + 1, 1, none⟩ = some (.slice none 0 0) := HR2.out.cell 1
    have g2 : w3.cell? ⟨w.heap.size + 1, 2, none⟩ = some (.string ⟨#[]⟩) := HR2.out.cell 2
    have g3 : w3.cell? ⟨w.heap.size + 1, 3, none⟩ = some (.int .i64 0) := HR2.out.cell 3
    have h0 := HR2.out.free 0
    have h1 := HR2.out.free 1
    have h2 := HR2.out.free 2
    have h3 := HR2.out.free 3
    go_wp2
    obtain ⟨r0, r1, r2, r3, KG⟩ := four HR2.out (.slice none 0 0) (.slice none 0 0) (.string ⟨#[]⟩) (.int .i64 yc)
    exact bodyPost_ret (v := .agg #[.slice none 0 0, .slice none 0 0, .string ⟨#[]⟩, .int .i64 yc]) (by simp [results, Tryz.results56, go_sem, r0, r1, r2, r3]) rfl ⟨by rw [HE.out]; exact KOutIs.ill _ _ _, KG.toBelow HB3.out HB3.out.size (by simp)⟩
end Go.Proofs.YtbhdbkffejlfmaaGreatDoor

/- Lists of items cut and put together. -/
namespace Go.Proofs.YtbhdbkffejlfmaaGreatDoor
open Go.RowKit
theorem run_append_noneQ {P : Program} {w : World} (base : Nat) (t ty e : TypeId) (i : TypeInfo) (size c : Nat) (ht : P.underlying t = some (.slice e)) (hi : P.info? e = some i)
    (v : Value) (n : Nat) (xs : List Value) (hown : w.ownsRow base e size v n xs) : (Builtin.append_ #[t, t] ty #[v, .slice none 0 c]).run P w = .ok v w := by
  rcases hown.2 with ⟨rfl, rfl⟩ | ⟨g, cap, cur, rfl, _, _, hnc, _⟩
  · simp [Builtin.append_, run_underlying ht, sizeOf, typeInfo, hi, Builtin.lenOf, Builtin.firstCells]
  · simp [Builtin.append_, run_underlying ht, sizeOf, typeInfo, hi, Builtin.lenOf, Builtin.firstCells, hnc, storeCells]
/-- A slice, or an empty one, put behind a list of the call's own. -/
theorem run_append_any {P : Program} (w : World) (base : Nat) (t ty e : TypeId) (i : TypeInfo) (z : Value) (size bytes : Nat) (ht : P.underlying t = some (.slice e)) (hi : P.info? e = some i) (hz : i.zero = some z)
    (hs : i.size = size) (hby : i.bytes = bytes) (hzs : z.cells.size = size) (hsz : 0 < size) (v : Value) (n : Nat) (xs : List Value) (hown : w.ownsRow base e size v n xs)
    (p : Option Addr) (m c : Nat) (news : List Value) (hl : news.length = m * size) (hnews : 0 < m → ∃ g off, p = some ⟨g, off, none⟩ ∧ ∀ j u, news[j]? = some u → w.cell? ⟨g, off + j, none⟩ = some u) (h1 : ∀ u ∈ news, u.oneCell' = true)
    (h63 : n + m ≤ maxLen) (hbytes : (n + m) * bytes ≤ 140737488355328) (hbase : base ≤ w.heap.size) :
    ∃ v' w', (Builtin.append_ #[t, t] ty #[v, .slice p m c]).run P w = .ok v' w' ∧ w'.ownsRow base e size v' (n + m) (xs ++ news) ∧ w.grownBy w' v.ownBlock := by
  by_cases hm : m = 0
  · subst hm
    have hn : news = [] := List.eq_nil_of_length_eq_zero (by simpa using hl)
    subst hn
    cases p with
    | none => exact ⟨v, w, run_append_noneQ base t ty e i size c ht hi v n xs hown, by simpa using hown, ⟨rfl, rfl, rfl, Nat.le_refl _, fun _ _ _ => rfl⟩⟩
    | some ad =>
      obtain ⟨v', w', hr, r1, r2, _, _⟩ := run_append_own_at (P := P) w base t ty e i z size bytes ht hi hz hs hby hzs hsz v n xs hown ad 0 c [] (by simp) (fun j u hu => by simp at hu) (by simp) h63 hbytes hbase
      exact ⟨v', w', hr, r1, r2⟩
  · obtain ⟨g, off, rfl, hc⟩ := hnews (by omega)
    obtain ⟨v', w', hr, r1, r2, _, _⟩ := run_append_own_at (P := P) w base t ty e i z size bytes ht hi hz hs hby hzs hsz v n xs hown ⟨g, off, none⟩ m c news hl (fun j u hu => by rw [Addr.add_lit]; exact hc j u hu) h1 h63 hbytes hbase
    exact ⟨v', w', hr, r1, r2⟩
theorem step_any {P : Program} {ops : Array Oper} {o : Oper} {a : Act} {w : World} {K : Act → World → Prop} {Q : Exit → Act → World → Prop} {E : Prop} (hgd : o.guard = none) (s x : Operand) (t : TypeId)
    (ho : o.op = .call { callee := .builtin .append, args := #[s, x], argTypes := #[t, t] })
    (base : Nat) (e : TypeId) (i : TypeInfo) (z : Value) (size bytes : Nat) (ht : P.underlying t = some (.slice e)) (hi : P.info? e = some i) (hz : i.zero = some z)
    (hsize : i.size = size) (hby : i.bytes = bytes) (hzs : z.cells.size = size) (hsz : 0 < size) (v : Value) (n : Nat) (xs : List Value) (hs : a.eval s = v) (hown : w.ownsRow base e size v n xs)
    (p : Option Addr) (m c : Nat) (news : List Value) (hx : a.eval x = .slice p m c) (hl : news.length = m * size) (hnews : 0 < m → ∃ g off, p = some ⟨g, off, none⟩ ∧ ∀ j u, news[j]? = some u → w.cell? ⟨g, off + j, none⟩ = some u) (h1 : ∀ u ∈ news, u.oneCell' = true)
    (h63 : n + m ≤ maxLen) (hbytes : (n + m) * bytes ≤ 140737488355328) (hbase : base ≤ w.heap.size)
    (h : ∀ v' w', w'.ownsRow base e size v' (n + m) (xs ++ news) → w.grownBy w' v.ownBlock → K (a.put o.dst v') w') :
    if Region.wanted o (yielded ops a.tmps) = true then Oper.wp P o a w K Q else E := by
  have hw : Region.wanted o (yielded ops a.tmps) = true := by simp [Region.wanted, hgd]
  rw [if_pos hw]
  obtain ⟨v', w', hr, h2, h3⟩ := run_append_any (P := P) w base t o.type e i z size bytes ht hi hz hsize hby hzs hsz v n xs hown p m c news hl hnews h1 h63 hbytes hbase
  unfold Oper.wp execOp
  simp only [ho, resolve, invoke, builtin, Sem.run_bind, Sem.run_pure, Result.andThen_ok, List.map_toArray, List.map_cons, List.map_nil, hs, hx, hr]
  exact h v' w' h2 h3
def cutP (p : Option Addr) (cap l : Nat) : Option Addr := if cap = l then p else p.map (·.add (l * 2))
theorem run_cutFrom (p : Option Addr) (n cap l : Nat) (hl : l ≤ n) (w : World) : (Instr.slice 65 (.slice p n cap) (some (.int .i64 (l : Int))) none none).run Tryz.prog w = .ok (.slice (cutP p cap l) (n - l) (cap - l)) w := by
  have he : Tryz.prog.underlying 65 = some (.slice (Tryz.prog.elem 65)) := by kernel_rfl
  have hsz : ∀ w, (sizeOf (Tryz.prog.elem 65)).run Tryz.prog w = .ok 2 w := fun w => by kernel_rfl
  rw [run_slice_l w 65 p n cap he .i64 (l : Int) (by omega) (by omega), hsz]
  simp [Result.andThen, sliced, cutP]
theorem run_cutTo (p : Option Addr) (n cap k : Nat) (hk : k ≤ cap) (w : World) : (Instr.slice 65 (.slice p n cap) none (some (.int .i64 (k : Int))) none).run Tryz.prog w = .ok (.slice (cutP p cap 0) k cap) w := by
  have he : Tryz.prog.underlying 65 = some (.slice (Tryz.prog.elem 65)) := by kernel_rfl
  have hsz : ∀ w, (sizeOf (Tryz.prog.elem 65)).run Tryz.prog w = .ok 2 w := fun w => by kernel_rfl
  rw [run_slice_h w 65 p n cap he .i64 (k : Int) (by omega) (by omega), hsz]
  simp [Result.andThen, sliced, cutP]
theorem cutP_at {g off n cap l m : Nat} (h : l + m = n) (hc : n ≤ cap) (hm : 0 < m) : cutP (some ⟨g, off, none⟩) cap l = some ⟨g, off + l * 2, none⟩ := by
  unfold cutP
  rw [if_neg (by omega)]
  simp [Addr.add_lit]
theorem cutP_zero (g off cap : Nat) : cutP (some ⟨g, off, none⟩) cap 0 = some ⟨g, off, none⟩ := by
  unfold cutP
  split
  · rfl
  · simp [Addr.add_lit]
theorem itc_take (L : List Item) (k : Nat) : ∀ (j : Nat) (u : Value), (itc (L.take k))[j]? = some u → (itc L)[j]? = some u := fun j u h => by
  have e : itc L = itc (L.take k) ++ itc (L.drop k) := by rw [← itc_append, List.take_append_drop]
  rw [e, List.getElem?_append_left (List.getElem?_eq_some_iff.1 h).1]
  exact h
theorem itc_drop (L : List Item) (k : Nat) (hk : k ≤ L.length) : ∀ (j : Nat) (u : Value), (itc (L.drop k))[j]? = some u → (itc L)[k * 2 + j]? = some u := fun j u h => by
  have e : itc L = itc (L.take k) ++ itc (L.drop k) := by rw [← itc_append, List.take_append_drop]
  have hl : (itc (L.take k)).length = k * 2 := by rw [itc_len, List.length_take, Nat.min_eq_left hk]
  rw [e, List.getElem?_append_right (by omega), hl, show k * 2 + j - k * 2 = j by omega]
  exact h
theorem itc_cell {w : World} {g off : Nat} : ∀ {L : List Item}, (∀ i (h : i < L.length), w.cell? ⟨g, off + i * 2, none⟩ = some (.string L[i].1) ∧ w.cell? ⟨g, off + i * 2 + 1, none⟩ = some (.string L[i].2)) → ∀ j u, (itc L)[j]? = some u → w.cell? ⟨g, off + j, none⟩ = some u := by
  intro L h j u hu
  have hj : j < L.length * 2 := by have := (List.getElem?_eq_some_iff.1 hu).1; rw [itc_len] at this; exact this
  obtain ⟨c0, c1⟩ := h (j / 2) (by omega)
  obtain ⟨e0, e1⟩ := itc_at L (j / 2) (by omega)
  rcases (show j = j / 2 * 2 ∨ j = j / 2 * 2 + 1 by omega) with e | e
  · rw [e] at hu ⊢
    rw [hu] at e0
    rw [c0, e0]
  · rw [e] at hu ⊢
    rw [hu] at e1
    rw [← Nat.add_assoc, c1, e1]
/-- The items' cells, from a number on. -/
theorem it_news {w : World} {v : Value} {L : List Item} (h : ReadsIt w v L) : ∃ p cap, v = .slice p L.length cap ∧ L.length ≤ cap ∧ cap ≤ maxLen ∧
    (∀ k, k ≤ L.length → 0 < k → ∃ g off, cutP p cap 0 = some ⟨g, off, none⟩ ∧ ∀ j u, (itc (L.take k))[j]? = some u → w.cell? ⟨g, off + j, none⟩ = some u) ∧
    (∀ l, l ≤ L.length → 0 < L.length - l → ∃ g off, cutP p cap l = some ⟨g, off, none⟩ ∧ ∀ j u, (itc (L.drop l))[j]? = some u → w.cell? ⟨g, off + j, none⟩ = some u) := by
  obtain ⟨p, cap, rfl, h1, h2, h4⟩ := h
  refine ⟨p, cap, rfl, h1, h2, fun k hk h0 => ?_, fun l hl h0 => ?_⟩
  · obtain ⟨g, off, rfl, _, hc⟩ := h4 (by omega)
    exact ⟨g, off, cutP_zero g off cap, fun j u hu => itc_cell hc j u (itc_take L k j u hu)⟩
  · obtain ⟨g, off, rfl, _, hc⟩ := h4 (by omega)
    exact ⟨g, off + l * 2, cutP_at (n := L.length) (m := L.length - l) (Nat.add_sub_cancel' hl) h1 h0, fun j u hu => by rw [Nat.add_assoc]; exact itc_cell hc _ u (itc_drop L l hl j u hu)⟩
/-- Without the item of a number: what is left. -/
theorem delL_at {L : List Item} (hr : Rises L) (k : Nat) (hk : k < L.length) {i : ByteArray} (hi : (L[k]'hk).1 = i) : delL L i = L.take k ++ L.drop (k + 1) := by
  have e : L = L.take k ++ (L[k]'hk :: L.drop (k + 1)) := by rw [← List.drop_eq_getElem_cons hk, List.take_append_drop]
  have hr' := hr
  rw [e] at hr'
  obtain ⟨_, r2, r3⟩ := List.pairwise_append.1 hr'
  have n1 : ∀ p ∈ L.take k, sameId i p = false := fun p hp => by
    cases hs : sameId i p with
    | false => rfl
    | true => exact absurd ((sameId_iff.1 hs).trans hi.symm) (ltB_ne (r3 p hp _ (List.mem_cons_self ..)))
  have n2 : ∀ p ∈ L.drop (k + 1), sameId i p = false := fun p hp => by
    cases hs : sameId i p with
    | false => rfl
    | true => exact absurd (hi.trans (sameId_iff.1 hs).symm) (ltB_ne ((List.pairwise_cons.1 r2).1 p hp))
  unfold delL
  conv => lhs; rw [e]
  rw [List.filter_append, List.filter_cons, if_neg (by simp [sameId_iff.2 hi]), List.filter_eq_self.2 (fun p hp => by simp [n1 p hp]), List.filter_eq_self.2 (fun p hp => by simp [n2 p hp])]
theorem delL_size {L : List Item} (i : ByteArray) : (flatL (delL L i)).length ≤ (flatL L).length := by
  unfold delL
  induction L with
  | nil => simp
  | cons x r ih =>
    rw [List.filter_cons]
    split
    · rw [flatL, flatL]; simp only [List.length_append]; omega
    · rw [flatL]; simp only [List.length_append]; omega
theorem storeB_flat (L : List Item) : (storeB L).size = (numText L.length).size + (flatL L).length := by
  have e : (storeB L).size = (storeB L).data.toList.length := by simp
  rw [e]
  unfold storeB
  rw [catB_list, List.length_append]
  have e2 : (numText (L.length : Int)).data.toList.length = (numText (L.length : Int)).size := by simp
  rw [e2]
theorem delL_ok {L : List Item} (h : ∀ x ∈ L, OkI x) (i : ByteArray) : ∀ x ∈ delL L i, OkI x := fun x hx => h x (List.mem_filter.1 hx).1
theorem delL_len {L : List Item} (i : ByteArray) : (delL L i).length ≤ L.length := List.length_filter_le _ _
def dropO (xs : List ByteArray) (ps : List (Int × ByteArray)) (d : ByteArray) (a : Int) : KOut :=
  if forC xs ps d ≠ 0 then kill (forC xs ps d) else match (itemsO xs ps).find? (sameId d) with
    | none => kill 6
    | some _ => kput xs ps (storeB (delL (itemsO xs ps) d)) a
/-- What is left has no more bytes than a text may have. -/
theorem drop_small {xs : List ByteArray} {ps : List (Int × ByteArray)} {d : ByteArray} (h : forC xs ps d = 0) : (storeB (delL (itemsO xs ps) d)).size ≤ 8000 := by
  obtain ⟨_, hk, _⟩ := forC_ok h
  have h1 := storeB_flat (itemsO xs ps)
  have h2 := storeB_flat (delL (itemsO xs ps) d)
  have h3 := delL_size (L := itemsO xs ps) d
  have h4 := numText_size ((delL (itemsO xs ps) d).length : Int)
  have h5 : storeB (itemsO xs ps) = (areaOut xs ps).t := by
    unfold keptO at hk
    split at hk
    · cases hk
    · exact (keptS_ok hk).2.2.2
  have h6 := areaOut_t xs ps
  rw [h5] at h1
  omega
end Go.Proofs.YtbhdbkffejlfmaaGreatDoor

/- StoreDrop of the model. -/
namespace Go.Proofs.YtbhdbkffejlfmaaGreatDoor
open Go.RowKit
set_option maxHeartbeats 16000000 in
set_option maxRecDepth 100000 in
theorem specStoreDrop_any (vs vp : Value) (xs : List ByteArray) (ps : List (Int × ByteArray)) (d : ByteArray) (a : Int) (w : World) (hn : xs.length ≤ 1048576) (hn2 : ps.length ≤ 1048576) (hd : d.size ≤ 1048576) (hr : Reads w vs xs) (hp : ReadsP w vp ps) :
    Calls Tryz.prog 35 #[.agg #[vs, vp], .string d, .int .i64 a] w fun e w' => KOutIs w.heap.size e w' (dropO xs ps d a) ∧ Below w.heap.size w w' := by
  obtain ⟨i0, hi, hz0, hz1, hz2⟩ := info_parts Tryz.infoItem
  have HZC := hide (show (Value.agg #[.string ⟨#[]⟩, .string ⟨#[]⟩]).cells.size = 2 from rfl)
  have HR := hide hr
  have HP := hide hp
  obtain ⟨p1, c1, rfl, _⟩ := hr
  obtain ⟨p2, c2, rfl, _⟩ := hp
  obtain ⟨W, hW⟩ : ∃ W, W = (w.alloc (.cells #[.slice p1 xs.length c1, .slice p2 ps.length c2] 29)).alloc (.cells #[.slice none 0 0, .slice none 0 0, .string ⟨#[]⟩, .int .i64 0] 51) := ⟨_, rfl⟩
  have HB0 := hide (show Below w.heap.size w W by rw [hW]; exact ((Below.refl _ _).alloc (Nat.le_refl _) _).alloc (by simp) _)
  have HWS := hide (show w.heap.size + 2 = W.heap.size by rw [hW]; simp)
  have HRD := hide (show Row W w.heap.size 29 [.slice p1 xs.length c1, .slice p2 ps.length c2] by rw [hW]; exact (row_new w _ _).alloc _)
  have HRO := hide (show Row W (w.heap.size + 1) 51 [.slice none 0 0, .slice none 0 0, .string ⟨#[]⟩, .int .i64 0] by
    rw [hW]
    have := row_new (w.alloc (.cells #[.slice p1 xs.length c1, .slice p2 ps.length c2] 29)) [.slice none 0 0, .slice none 0 0, .string ⟨#[]⟩, .int .i64 0] 51
    simpa using this)
  have HR1 := hide (HR.out.below HB0.out (Nat.le_refl _))
  have HP1 := hide (HP.out.below HB0.out (Nat.le_refl _))
  obtain ⟨C, hC⟩ : ∃ C, C = forC xs ps d := ⟨_, rfl⟩
  have HCE := hide hC
  obtain ⟨o, ho⟩ : ∃ o, o = dropO xs ps d a := ⟨_, rfl⟩
  have HOE := hide ho
  rw [← ho]
  clear hC ho
  go_enter Tryz.func35, Tryz.ntmps35
  go_wp2_with fail
  rw [← hW]
  clear hW
  refine (l09Begin_any _ _ xs ps d _ hn hn2 hd HR1.out HP1.out).mono ?_
  rw [← HCE.out]
  rintro e w1 ⟨⟨v, rfl, hO⟩, hb1⟩
  have HZ1 := hide hb1
  have HB1 := hide (HB0.out.trans (hb1.mono HB0.out.size))
  have HRO1 := hide (HRO.out.below hb1 HRO.out.lt)
  have HRD1 := hide (HRD.out.below hb1 HRD.out.lt)
  have HOI := hide hO
  clear hb1 hO
  by_cases hc : C = 0
  rotate_left
  · have HE := hide (show o = kill C by rw [HOE.out, dropO, ← HCE.out, if_pos hc])
    have hcb : (C != 0) = true := by simpa using hc
    clear hc
    go_wp2_with fail
    refine (l09Ill_any C _).mono ?_
    rintro e w2 ⟨rfl, hb2⟩
    have HB2 := hide (HB1.out.trans (hb2.mono HB1.out.size))
    have HRO2 := hide (HRO1.out.below hb2 HRO1.out.lt)
    clear hb2
    have g0 : w2.cell? ⟨w.heap.size + 1, 0, none⟩ = some (.slice none 0 0) := HRO2.out.cell 0
    have h0 := HRO2.out.free 0
    have g1 : w2.cell? ⟨w.heap.size + 1, 1, none⟩ = some (.slice none 0 0) := HRO2.out.cell 1
    have h1 := HRO2.out.free 1
    have g2 : w2.cell? ⟨w.heap.size + 1, 2, none⟩ = some (.string ⟨#[]⟩) := HRO2.out.cell 2
    have h2 := HRO2.out.free 2
    have g3 : w2.cell? ⟨w.heap.size + 1, 3, none⟩ = some (.int .i64 0) := HRO2.out.cell 3
    have h3 := HRO2.out.free 3
    go_wp2
    obtain ⟨r0, r1, r2, r3, KG⟩ := four HRO2.out (.slice none 0 0) (.slice none 0 0) (.string ⟨#[]⟩) (.int .i64 C)
    exact bodyPost_ret (v := .agg #[.slice none 0 0, .slice none 0 0, .string ⟨#[]⟩, .int .i64 C]) (by simp [results, Tryz.results35, go_sem, r0, r1, r2, r3]) rfl ⟨by rw [HE.out]; exact KOutIs.ill _ _ _, KG.toBelow HB2.out HB2.out.size (by simp)⟩
  subst hc
  obtain ⟨_, hkk, _⟩ := forC_ok HCE.out.symm
  have HSMALL := hide (drop_small (d := d) HCE.out.symm)
  obtain ⟨L, hL⟩ : ∃ L, L = itemsO xs ps := ⟨_, rfl⟩
  rw [← hL] at hkk HOI HSMALL
  obtain ⟨hRS, hOK, hlen⟩ := keptO_items hkk
  have HRS := hide hRS
  have HOKL := hide hOK
  have HOJ := hide (HOI.out rfl)
  have HRI := hide (readsIt_of HOJ.out)
  have HGE := hide (show o = match L.find? (sameId d) with
    | none => kill 6
    | some _ => kput xs ps (storeB (delL L d)) a by rw [HOE.out, dropO, ← HCE.out, if_neg (by simp), hL]; all_goals (cases List.find? (sameId d) (itemsO xs ps) <;> rfl))
  clear hL hkk hRS hOK
  go_wp2_with fail
  refine (l09At_any _ L d _ HRI.out (by omega)).mono ?_
  rcases atL_cases L d with ⟨k, hk, e1, e2, e3, _⟩ | ⟨e1, e2⟩
  rotate_left
  · have HE := hide (show o = kill 6 by rw [HGE.out, e2])
    rw [e1]
    clear e1 e2
    rintro e w2 ⟨rfl, hb2⟩
    have HB2 := hide (HB1.out.trans (hb2.mono HB1.out.size))
    have HRO2 := hide (HRO1.out.below hb2 HRO1.out.lt)
    clear hb2
    go_wp2_with fail
    refine (l09Ill_any 6 _).mono ?_
    rintro e w3 ⟨rfl, hb3⟩
    have HB3 := hide (HB2.out.trans (hb3.mono HB2.out.size))
    have HRO3 := hide (HRO2.out.below hb3 HRO2.out.lt)
    clear hb3
    have g0 : w3.cell? ⟨w.heap.size + 1, 0, none⟩ = some (.slice none 0 0) := HRO3.out.cell 0
    have h0 := HRO3.out.free 0
    have g1 : w3.cell? ⟨w.heap.size + 1, 1, none⟩ = some (.slice none 0 0) := HRO3.out.cell 1
    have h1 := HRO3.out.free 1
    have g2 : w3.cell? ⟨w.heap.size + 1, 2, none⟩ = some (.string ⟨#[]⟩) := HRO3.out.cell 2
    have h2 := HRO3.out.free 2
    have g3 : w3.cell? ⟨w.heap.size + 1, 3, none⟩ = some (.int .i64 0) := HRO3.out.cell 3
    have h3 := HRO3.out.free 3
    go_wp2
    obtain ⟨r0, r1, r2, r3, KG⟩ := four HRO3.out (.slice none 0 0) (.slice none 0 0) (.string ⟨#[]⟩) (.int .i64 6)
    exact bodyPost_ret (v := .agg #[.slice none 0 0, .slice none 0 0, .string ⟨#[]⟩, .int .i64 6]) (by simp [results, Tryz.results35, go_sem, r0, r1, r2, r3]) rfl ⟨by rw [HE.out]; exact KOutIs.ill _ _ _, KG.toBelow HB3.out HB3.out.size (by simp)⟩
  rw [e1]
  obtain ⟨M, hM⟩ : ∃ M, M = delL L d := ⟨_, rfl⟩
  have hMe : M = L.take k ++ L.drop (k + 1) := by rw [hM]; exact delL_at HRS.out k hk e2
  have HME := hide hMe
  have HMI := hide (show itc M = itc (L.take k) ++ itc (L.drop (k + 1)) by rw [hMe, itc_append])
  have HMLn := hide (show M.length = k + (L.length - (k + 1)) by rw [hMe, List.length_append, List.length_take, List.length_drop, Nat.min_eq_left (Nat.le_of_lt hk)])
  have HOKM := hide (show ∀ x ∈ M, OkI x by rw [hM]; exact delL_ok HOKL.out d)
  have HLM := hide (show M.length ≤ 20 by rw [hM]; have := delL_len (L := L) d; omega)
  have HOW := hide (show o = writeO xs ps M a by rw [HGE.out, e3]; unfold writeO; rw [hM, if_neg (by have := HSMALL.out; omega)])
  clear e1 e2 e3 hM hMe
  rintro e X ⟨rfl, hb2⟩
  have HX0 := hide (HZ1.out.trans (hb2.mono HZ1.out.size))
  have HDX := hide (HRD1.out.below hb2 HRD1.out.lt)
  have HRIX := hide (HRI.out.below hb2 (Nat.le_refl _))
  clear hb2 HZ1
  obtain ⟨pp, cap, rfl, hcl, hcm, hn1x, hn2x⟩ := it_news HRIX.out
  have HN1 := hide (show ∀ y : World, Below X.heap.size X y → 0 < k → ∃ g off, cutP pp cap 0 = some ⟨g, off, none⟩ ∧ ∀ j u, (itc (L.take k))[j]? = some u → y.cell? ⟨g, off + j, none⟩ = some u from fun y hb h0 => by
    obtain ⟨g, off, e, hc⟩ := hn1x k (Nat.le_of_lt hk) h0
    exact ⟨g, off, e, fun j u hu => (hb.cell (p := ⟨g, off + j, none⟩) (World.block_lt_of_cell? X ⟨g, off + j, none⟩ (hc j u hu))).trans (hc j u hu)⟩)
  have HN2 := hide (show ∀ y : World, Below X.heap.size X y → 0 < L.length - (k + 1) → ∃ g off, cutP pp cap (k + 1) = some ⟨g, off, none⟩ ∧ ∀ j u, (itc (L.drop (k + 1)))[j]? = some u → y.cell? ⟨g, off + j, none⟩ = some u from fun y hb h0 => by
    obtain ⟨g, off, e, hc⟩ := hn2x (k + 1) hk h0
    exact ⟨g, off, e, fun j u hu => (hb.cell (p := ⟨g, off + j, none⟩) (World.block_lt_of_cell? X ⟨g, off + j, none⟩ (hc j u hu))).trans (hc j u hu)⟩)
  have HC1 := hide (run_cutTo pp L.length cap k (by omega))
  have HC2 := hide (show ∀ y : World, (Instr.slice 65 (.slice pp L.length cap) (some (.int .i64 ((k : Int) + 1))) none none).run Tryz.prog y = .ok (.slice (cutP pp cap (k + 1)) (L.length - (k + 1)) (cap - (k + 1))) y from fun y => by
    have := run_cutFrom pp L.length cap (k + 1) hk y
    rw [show ((k + 1 : Nat) : Int) = (k : Int) + 1 from by omega] at this
    exact this)
  have HTK := hide (show (itc (L.take k)).length = k * 2 by rw [itc_len, List.length_take, Nat.min_eq_left (Nat.le_of_lt hk)])
  have HDK := hide (show (itc (L.drop (k + 1))).length = (L.length - (k + 1)) * 2 by rw [itc_len, List.length_drop])
  have hkn : ¬ (k : Int) < 0 := by omega
  have hwk : IntKind.i64.wrap ((k : Int) + 1) = (k : Int) + 1 := by rw [IntKind.wrap_i64]; omega
  unfold maxLen at hcm
  clear hn1x hn2x
  go_upto_region 7 with fail
  refine wp_region_held (S := fun y : World => y.cell? ⟨w.heap.size, 0, none⟩ = some (.slice p1 xs.length c1) ∧ y.cell? ⟨w.heap.size, 1, none⟩ = some (.slice p2 ps.length c2)) (by kernel_rfl) ?_
  have HSS := hide (show ∀ y : World, Below X.heap.size X y → (y.cell? ⟨w.heap.size, 0, none⟩ = some (.slice p1 xs.length c1) ∧ y.cell? ⟨w.heap.size, 1, none⟩ = some (.slice p2 ps.length c2)) from fun y hb => ⟨(HDX.out.below hb HDX.out.lt).cell 0, (HDX.out.below hb HDX.out.lt).cell 1⟩)
  have HSK := hide (show ∀ (y v : World), Below X.heap.size X y → Kept [w.heap.size + 1] y v → (v.cell? ⟨w.heap.size, 0, none⟩ = some (.slice p1 xs.length c1) ∧ v.cell? ⟨w.heap.size, 1, none⟩ = some (.slice p2 ps.length c2)) from
    fun y v hb kk => ⟨(kk.row (HDX.out.below hb HDX.out.lt) (by simp)).cell 0, (kk.row (HDX.out.below hb HDX.out.lt) (by simp)).cell 1⟩)
  have HZ1 := hide (show Below X.heap.size X { X with drawn := X.drawn + 1 } from (Below.refl _ X).drew)
  generalize ({ X with drawn := X.drawn + 1 } : World) = Z1 at HZ1 ⊢
  have HS := hide (HSS.out _ HZ1.out)
  refine wpAnyH_take (i := 0) (oi := _) (v := .agg #[.slice p1 xs.length c1, .slice p2 ps.length c2]) rfl (by kernel_rfl) (by kernel_rfl) (by kernel_rfl) (fun _ _ _ h => h) (Or.inl ⟨by rfl, by intro w hSw; go_split_ands; go_simp <;> omega⟩) HS.out ?_
  simp only [Act.put, List.getElem_toArray, List.getElem_cons_zero, List.setIfInBounds_toArray, List.set_cons_zero, List.set_cons_succ]
  refine wpAnyH_take (i := 2) (oi := _) (v := .slice pp L.length cap) rfl (by kernel_rfl) (by kernel_rfl) (by kernel_rfl) (fun _ _ _ h => h) (Or.inl ⟨by rfl, by intro w hSw; go_split_ands; go_simp <;> omega⟩) HS.out ?_
  simp only [Act.put, List.getElem_toArray, List.getElem_cons_zero, List.getElem_cons_succ, List.setIfInBounds_toArray, List.set_cons_zero, List.set_cons_succ]
  refine wpAnyH_take (i := 3) (oi := _) (v := .int .i64 (k : Int)) rfl (by kernel_rfl) (by kernel_rfl) (by kernel_rfl) (fun _ _ _ h => h) (Or.inl ⟨by rfl, by intro w hSw; go_split_ands; go_simp <;> omega⟩) HS.out ?_
  simp only [Act.put, List.getElem_toArray, List.getElem_cons_zero, List.getElem_cons_succ, List.setIfInBounds_toArray, List.set_cons_zero, List.set_cons_succ]
  refine wpAnyH_take (i := 4) (oi := _) (v := .slice (cutP pp cap 0) k cap) rfl (by kernel_rfl) (by kernel_rfl) (by kernel_rfl) (fun _ _ _ h => h) (Or.inl ⟨by rfl, by intro w hSw; go_split_ands; have hsl := HC1.out w; go_simp⟩) HS.out ?_
  simp only [Act.put, List.getElem_toArray, List.getElem_cons_zero, List.getElem_cons_succ, List.setIfInBounds_toArray, List.set_cons_zero, List.set_cons_succ]
  refine wpAnyH_take (i := 6) (oi := _) (v := .slice pp L.length cap) rfl (by kernel_rfl) (by kernel_rfl) (by kernel_rfl) (fun _ _ _ h => h) (Or.inl ⟨by rfl, by intro w hSw; go_split_ands; go_simp <;> omega⟩) HS.out ?_
  simp only [Act.put, List.getElem_toArray, List.getElem_cons_zero, List.getElem_cons_succ, List.setIfInBounds_toArray, List.set_cons_zero, List.set_cons_succ]
  refine wpAnyH_take (i := 7) (oi := _) (v := .int .i64 (k : Int)) rfl (by kernel_rfl) (by kernel_rfl) (by kernel_rfl) (fun _ _ _ h => h) (Or.inl ⟨by rfl, by intro w hSw; go_split_ands; go_simp <;> omega⟩) HS.out ?_
  simp only [Act.put, List.getElem_toArray, List.getElem_cons_zero, List.getElem_cons_succ, List.setIfInBounds_toArray, List.set_cons_zero, List.set_cons_succ]
  refine wpAnyH_take (i := 8) (oi := _) (v := .int .i64 ((k : Int) + 1)) rfl (by kernel_rfl) (by kernel_rfl) (by kernel_rfl) (fun _ _ _ h => h) (Or.inl ⟨by rfl, by intro w hSw; go_split_ands; go_simp <;> omega⟩) HS.out ?_
  simp only [Act.put, List.getElem_toArray, List.getElem_cons_zero, List.getElem_cons_succ, List.setIfInBounds_toArray, List.set_cons_zero, List.set_cons_succ]
  refine wpAnyH_take (i := 9) (oi := _) (v := .slice (cutP pp cap (k + 1)) (L.length - (k + 1)) (cap - (k + 1))) rfl (by kernel_rfl) (by kernel_rfl) (by kernel_rfl) (fun _ _ _ h => h) (Or.inl ⟨by rfl, by intro w hSw; go_split_ands; have hsl := HC2.out w; go_simp⟩) HS.out ?_
  simp only [Act.put, List.getElem_toArray, List.getElem_cons_zero, List.getElem_cons_succ, List.setIfInBounds_toArray, List.set_cons_zero, List.set_cons_succ]
  refine wpAnyH_take (i := 11) (oi := _) (v := .int .i64 a) rfl (by kernel_rfl) (by kernel_rfl) (by kernel_rfl) (fun _ _ _ h => h) (Or.inl ⟨by rfl, by intro w hSw; go_split_ands; go_simp <;> omega⟩) HS.out ?_
  simp only [Act.put, List.getElem_toArray, List.getElem_cons_zero, List.getElem_cons_succ, List.setIfInBounds_toArray, List.set_cons_zero, List.set_cons_succ]
  refine wpAnyH_ready (rs := [1]) (by kernel_rfl) (by simp) ?_
  refine AllReadyH.cons (o := _) rfl (fun K hK => ?_) AllReadyH.nil
  go_simp
  have HZ2 := hide (HZ1.out.alloc HZ1.out.size (.cells #[] 72))
  have HO2 := hide (show (Z1.alloc (.cells #[] 72)).ownsRow X.heap.size 72 2 (.slice (some ⟨Z1.heap.size, 0, none⟩) 0 0) 0 [] by
    have := World.ownsRow_lit (e := 72) (base := X.heap.size) (size := 2) Z1 #[] 0 HZ1.out.size (by unfold maxLen; omega) rfl
    simpa using this)
  refine hK.out _ _ (HSS.out _ HZ2.out) (fun _ => ?_)
  clear hK K HS
  generalize hZ : Z1.alloc (.cells #[] 72) = Z2 at HZ2 HO2 ⊢
  generalize Z1.heap.size = E5 at HO2 ⊢
  clear hZ
  have HS := hide (HSS.out _ HZ2.out)
  try simp only [Act.put, List.getElem_toArray, List.getElem_cons_zero, List.getElem_cons_succ, List.setIfInBounds_toArray, List.set_cons_zero, List.set_cons_succ]
  refine wpAnyH_ready (rs := [5]) (by kernel_rfl) (by simp) ?_
  refine AllReadyH.cons (o := _) rfl (fun K hK => ?_) AllReadyH.nil
  have HSZ := hide (show X.heap.size ≤ Z2.heap.size from HZ2.out.size)
  refine step_any (w := Z2) rfl (.tmp 27) (.tmp 30) 65 rfl X.heap.size 72 i0 _ 2 32 Tryz.underlying65 hi hz0 hz1 hz2 HZC.out (by omega) _ 0 [] rfl HO2.out (cutP pp cap 0) k cap (itc (L.take k)) rfl HTK.out (HN1.out Z2 HZ2.out) (fun u hu => itc_one _ u hu) (by unfold maxLen; omega) (by omega) HSZ.out ?_
  intro v3 Z3 hown hgrow
  have HZ3 := hide (HZ2.out.grown hgrow HSZ.out (fun g hg => (HO2.out.lt g hg).1))
  have HO3 := hide (show Z3.ownsRow X.heap.size 72 2 v3 k (itc (L.take k)) by simpa using hown)
  clear hown hgrow
  refine hK.out _ _ (HSS.out _ HZ3.out) (fun _ => ?_)
  clear hK K HS
  have HS := hide (HSS.out _ HZ3.out)
  try simp only [Act.put, List.getElem_toArray, List.getElem_cons_zero, List.getElem_cons_succ, List.setIfInBounds_toArray, List.set_cons_zero, List.set_cons_succ]
  refine wpAnyH_ready (rs := [10]) (by kernel_rfl) (by simp) ?_
  refine AllReadyH.cons (o := _) rfl (fun K hK => ?_) AllReadyH.nil
  have HSZ := hide (show X.heap.size ≤ Z3.heap.size from HZ3.out.size)
  refine step_any (w := Z3) rfl (.tmp 31) (.tmp 35) 65 rfl X.heap.size 72 i0 _ 2 32 Tryz.underlying65 hi hz0 hz1 hz2 HZC.out (by omega) _ k (itc (L.take k)) rfl HO3.out (cutP pp cap (k + 1)) (L.length - (k + 1)) (cap - (k + 1)) (itc (L.drop (k + 1))) rfl HDK.out (HN2.out Z3 HZ3.out) (fun u hu => itc_one _ u hu) (by unfold maxLen; omega) (by omega) HSZ.out ?_
  intro v4 Z4 hown hgrow
  have HZ4 := hide (HZ3.out.grown hgrow HSZ.out (fun g hg => (HO3.out.lt g hg).1))
  have HOM := hide (show Z4.ownsRow X.heap.size 72 2 v4 M.length (itc M) by rw [HMI.out, HMLn.out]; exact hown)
  clear hown hgrow
  refine hK.out _ _ (HSS.out _ HZ4.out) (fun _ => ?_)
  clear hK K HS
  have HS := hide (HSS.out _ HZ4.out)
  try simp only [Act.put, List.getElem_toArray, List.getElem_cons_zero, List.getElem_cons_succ, List.setIfInBounds_toArray, List.set_cons_zero, List.set_cons_succ]
  refine wpAnyH_ready (rs := [12]) (by kernel_rfl) (by simp) ?_
  refine AllReadyH.cons (o := _) rfl (fun K hK => ?_) AllReadyH.nil
  go_simp
  refine (l09Write_any _ _ _ xs ps M a _ hn hn2 (HR1.out.below (HX0.out.trans (HZ4.out.mono HX0.out.size)) (Nat.le_refl _)) (HP1.out.below (HX0.out.trans (HZ4.out.mono HX0.out.size)) (Nat.le_refl _)) (readsIt_of HOM.out) HOKM.out HLM.out).mono ?_
  rw [← HOW.out]
  rintro e Z5 ⟨⟨us, up, rfl, o1, o2, dd⟩, hbc⟩
  obtain ⟨s1, s2, s3, rfl⟩ := o1.isSlice
  obtain ⟨s4, s5, s6, rfl⟩ := o2.isSlice
  have hge : w.heap.size + 2 ≤ Z4.heap.size := by
    have h1 := HWS.out
    have h2 := HX0.out.size
    have h3 := HZ4.out.size
    omega
  have O1 := hide (o1.mono hge)
  have O2 := hide (o2.mono hge)
  have DD := hide dd
  have HZ5 := hide (HZ4.out.trans (hbc.mono HZ4.out.size))
  have HZW := hide (HX0.out.trans (HZ5.out.mono HX0.out.size))
  have HRZ := hide (HRO.out.below HZW.out HRO.out.lt)
  clear hbc o1 o2 dd hge
  refine hK.out _ _ (HSS.out _ HZ5.out) (fun _ => ?_)
  clear hK K HS
  have HS := hide (HSS.out _ HZ5.out)
  try simp only [Act.put, List.getElem_toArray, List.getElem_cons_zero, List.getElem_cons_succ, List.setIfInBounds_toArray, List.set_cons_zero, List.set_cons_succ]
  refine wpAnyH_ready (rs := [13]) (by kernel_rfl) (by simp) ?_
  refine AllReadyH.cons (o := _) rfl (fun K hK => ?_) AllReadyH.nil
  have d0 : Z5.cell? ⟨w.heap.size + 1, 0, none⟩ = some (.slice none 0 0) := HRZ.out.cell 0
  have d1 : Z5.cell? ⟨w.heap.size + 1, 1, none⟩ = some (.slice none 0 0) := HRZ.out.cell 1
  have d2 : Z5.cell? ⟨w.heap.size + 1, 2, none⟩ = some (.string ⟨#[]⟩) := HRZ.out.cell 2
  have d3 : Z5.cell? ⟨w.heap.size + 1, 3, none⟩ = some (.int .i64 0) := HRZ.out.cell 3
  have f0 := HRZ.out.free 0
  have f1 := HRZ.out.free 1
  have f2 := HRZ.out.free 2
  have f3 := HRZ.out.free 3
  obtain ⟨r0, r1, r2, r3, KG⟩ := four HRZ.out (.slice s1 s2 s3) (.slice s4 s5 s6) (.string o.t) (.int .i64 o.c)
  have HSF := hide (HSK.out _ _ HZ5.out KG)
  have HQ := hide (And.intro r0 (And.intro r1 (And.intro r2 r3)))
  have HKG := hide KG
  clear r0 r1 r2 r3 KG
  go_simp
  refine hK.out _ _ HSF.out (fun _ => ?_)
  clear hK K d0 d1 d2 d3 f0 f1 f2 f3 HS
  refine wpAnyH_done (by kernel_rfl) ?_ _
  go_wp2
  exact bodyPost_ret (v := .agg #[.slice s1 s2 s3, .slice s4 s5 s6, .string o.t, .int .i64 o.c]) (by simp [results, Tryz.results35, go_sem, HQ.out.1, HQ.out.2.1, HQ.out.2.2.1, HQ.out.2.2.2]) rfl
    (kendK HB0.out HZW.out HWS.out HKG.out O1.out O2.out DD.out)
end Go.Proofs.YtbhdbkffejlfmaaGreatDoor
