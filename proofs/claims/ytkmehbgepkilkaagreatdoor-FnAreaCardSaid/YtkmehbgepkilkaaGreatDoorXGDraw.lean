/- Draws: a source of numbers. -/
import Derived.Test.YtkmehbgepkilkaaGreatDoorXGSCopy
import Derived.BigRegion
namespace Go.Proofs.YtkmehbgepkilkaaGreatDoor
open Go.RowKit

/-- The slice v reads as the bytes bs. -/
def ReadsB (w : World) (v : Value) (bs : List Int) : Prop :=
  ∃ p cap, v = .slice p bs.length cap ∧ bs.length ≤ cap ∧ cap ≤ maxLen ∧ (∀ b ∈ bs, 0 ≤ b ∧ b < 256) ∧
    (0 < bs.length → ∃ g off, p = some ⟨g, off, none⟩ ∧ g < w.heap.size ∧ ∀ i (h : i < bs.length), w.cell? ⟨g, off + i, none⟩ = some (.int .u8 bs[i]))
theorem Kept.readsB {S : List Nat} {w w' : World} {v : Value} {ks : List Int} (h : Kept S w w') (hr : ReadsB w v ks) (hn : ∀ x ∈ leads v, x ∉ S) : ReadsB w' v ks := by
  obtain ⟨p, cap, rfl, h1, h2, h3, h4⟩ := hr
  refine ⟨p, cap, rfl, h1, h2, h3, fun h0 => ?_⟩
  obtain ⟨g, off, rfl, hg, hc⟩ := h4 h0
  have hgS : g ∉ S := hn g (by obtain ⟨m, hm⟩ : ∃ m, ks.length = m + 1 := ⟨ks.length - 1, by omega⟩; rw [hm]; exact List.mem_singleton.2 rfl)
  exact ⟨g, off, rfl, Nat.lt_of_lt_of_le hg h.size, fun i hi => h.cell (hc i hi) hgS⟩
theorem ReadsB.below {w w' : World} {v : Value} {ks : List Int} {B : Nat} (h : ReadsB w v ks) (hb : Below B w w') (hB : w.heap.size ≤ B) : ReadsB w' v ks := (Kept.ofBelow (hb.mono hB)).readsB h (by simp)
theorem ReadsB.leads {w : World} {v : Value} {ks : List Int} (h : ReadsB w v ks) : ∀ x ∈ Go.Proofs.YtkmehbgepkilkaaGreatDoor.leads v, x < w.heap.size := by
  obtain ⟨p, cap, rfl, _, _, _, h4⟩ := h
  intro x hx
  cases hn : ks.length with
  | zero => rw [hn] at hx; cases p <;> cases hx
  | succ m =>
    obtain ⟨g, off, rfl, hg, _⟩ := h4 (by omega)
    rw [hn] at hx
    obtain rfl := List.mem_singleton.1 hx
    exact hg
/-- A source of numbers lies at block g: the bytes bs in the slice v, and how far it has come. -/
def Src (v : Value) (bs : List Int) (g : Nat) (w : World) : Prop :=
  ∃ (a : Nat) (mix size : Int), Row w g 85 [v, .int .i64 a, .int .u64 mix, .int .i64 size] ∧ a ≤ bs.length ∧ ReadsB w v bs ∧ g ∉ leads v
theorem Src.lt {v : Value} {bs : List Int} {g : Nat} {w : World} (h : Src v bs g w) : g < w.heap.size := by
  obtain ⟨a, m, s, hr, _⟩ := h
  exact hr.lt
theorem Src.kept {v : Value} {bs : List Int} {g : Nat} {S : List Nat} {w w' : World} (h : Src v bs g w) (hk : Kept S w w') (hg : g ∉ S) (hn : ∀ x ∈ leads v, x ∉ S) : Src v bs g w' := by
  obtain ⟨a, m, s, hr, ha, hv, hgl⟩ := h
  exact ⟨a, m, s, hk.row hr hg, ha, hk.readsB hv hn, hgl⟩
theorem Src.below {v : Value} {bs : List Int} {g : Nat} {w w' : World} (h : Src v bs g w) (hb : Below w.heap.size w w') : Src v bs g w' := h.kept (Kept.ofBelow hb) (by simp) (by simp)
theorem Src.leads {v : Value} {bs : List Int} {g : Nat} {w : World} (h : Src v bs g w) : ∀ x ∈ Go.Proofs.YtkmehbgepkilkaaGreatDoor.leads v, x < w.heap.size := by
  obtain ⟨a, m, s, hr, ha, hv, hgl⟩ := h
  exact hv.leads
instance stab_src (v : Value) (bs : List Int) (g : Nat) : Stab (fun w => Src v bs g w) := ⟨fun hb h => h.below hb⟩

theorem rem_in (x m : Int) (hx : 0 ≤ x) (hm : 1 < m) : 0 ≤ x.tmod m ∧ x.tmod m < m := ⟨Int.tmod_nonneg _ hx, Int.tmod_lt_of_pos _ (by omega)⟩
theorem wp_name {P : Program} {c : Code} {Q : Exit → Act → World → Prop} {a : Act} {w : World} (h : ∀ W, W = w → Code.wp P c Q a W) : Code.wp P c Q a w := h w rfl
theorem wrap_u64_nonneg (x : Int) : 0 ≤ IntKind.u64.wrap x := by rw [IntKind.wrap_u64]; omega
theorem draw_in (x m : Int) (hm : 1 < m) (hm2 : m ≤ 9223372036854775807) : 0 ≤ wrap64 ((IntKind.u64.wrap x).tmod m) ∧ wrap64 ((IntKind.u64.wrap x).tmod m) < m := by
  have h := rem_in _ m (wrap_u64_nonneg x) hm
  obtain ⟨y, hy⟩ : ∃ y, y = (IntKind.u64.wrap x).tmod m := ⟨_, rfl⟩
  rw [← hy] at h ⊢
  have : wrap64 y = y := by unfold wrap64; omega
  omega
set_option maxHeartbeats 4000000 in
theorem n_big (v : Value) (bs : List Int) (g : Nat) (m : Int) (w : World) (h : Src v bs g w) (hm : 1 < m) (hm2 : m ≤ 9223372036854775807) (hl : bs.length ≤ 1048576) :
    Calls Tryz.prog 23 #[.pointer (some ⟨g, 0, none⟩), .int .i64 m] w fun e w' => (∃ r : Int, e = .returned (.int .i64 r) ∧ 0 ≤ r ∧ r < m) ∧ Src v bs g w' ∧ Kept [g] w w' := by
  obtain ⟨a, mix, size, hr, ha, hv, hg⟩ := h
  have HV := hide hv
  have HR := hide hr
  have HG := hide hg
  obtain ⟨p, cap, rfl, h1, h2, h3, h4⟩ := hv
  have c0 : w.cell? ⟨g, 0, none⟩ = some (.slice p bs.length cap) := hr.cell 0
  have c1 : w.cell? ⟨g, 1, none⟩ = some (.int .i64 a) := hr.cell 1
  have c2 : w.cell? ⟨g, 2, none⟩ = some (.int .u64 mix) := hr.cell 2
  have f1 := hr.free 1
  have f2 := hr.free 2
  have H4 := hide h4
  have H3 := hide h3
  have e1 : IntKind.u64.wrap m = m := by rw [IntKind.wrap_u64]; omega
  clear h3 h4 hr hg
  by_cases hlt : a < bs.length
  · obtain ⟨gb, ob, rfl, hgb, hc⟩ := H4.out (by omega)
    have hca := hc a hlt
    have hne : ¬ gb = g := fun e => HG.out (by rw [e]; obtain ⟨k, hk⟩ : ∃ k, bs.length = k + 1 := ⟨bs.length - 1, by omega⟩; rw [hk]; exact List.mem_singleton.2 rfl)
    obtain ⟨b, hb⟩ : ∃ b, b = bs[a]'hlt := ⟨_, rfl⟩
    have hb0 := H3.out _ (List.getElem_mem hlt)
    rw [← hb] at hca hb0
    have t1 : (a : Int) < (bs.length : Int) := by omega
    clear hc hb
    go_enter Tryz.func23, Tryz.ntmps23
    go_wp2
    go_region
    go_wp2
    go_region
    go_wp2
    refine wp_name ?_
    intro W0 hW0
    have R0 : Row W0 g 85 [.slice (some ⟨gb, ob, none⟩) bs.length cap, .int .i64 ((a + 1 : Nat) : Int), .int .u64 mix, .int .i64 size] := by rw [hW0]; exact HR.out.set (j := 1) _
    have K0 : Kept [g] w W0 := by rw [hW0]; exact (((Kept.refl _ _).set (by simp) _).drew).drew
    have V0 := K0.readsB HV.out (fun x hx hm => HG.out (by rw [← List.mem_singleton.1 hm]; exact hx))
    clear hW0 c0 c1 c2 f1 f2 hca hne
    have c2 : W0.cell? ⟨g, 2, none⟩ = some (.int .u64 mix) := R0.cell 2
    have f2 := R0.free 2
    have HA := hide (show a + 1 ≤ bs.length from hlt)
    have HR0 := hide R0
    have HK0 := hide K0
    have HV0 := hide V0
    clear R0 K0 V0
    go_region
    go_wp2
    refine wp_name ?_
    intro W1 hW1
    obtain ⟨M1, R1⟩ : ∃ M1, Row W1 g 85 [.slice (some ⟨gb, ob, none⟩) bs.length cap, .int .i64 ((a + 1 : Nat) : Int), .int .u64 M1, .int .i64 size] := ⟨_, by rw [hW1]; exact HR0.out.set (j := 2) _⟩
    have K1 : Kept [g] W0 W1 := by rw [hW1]; exact ((Kept.refl _ _).set (by simp) _).drew
    have HR1 := hide R1
    have HK1 := hide (HK0.out.trans K1)
    have HV1 := hide (K1.readsB HV0.out (fun x hx hm => HG.out (by rw [← List.mem_singleton.1 hm]; exact hx)))
    clear hW1 c2 f2
    have c2 : W1.cell? ⟨g, 2, none⟩ = some (.int .u64 M1) := R1.cell 2
    have f2 := R1.free 2
    clear R1 K1 HR0 HK0 HV0
    go_region
    go_wp2
    refine wp_name ?_
    intro W2 hW2
    obtain ⟨M2, R2⟩ : ∃ M1, Row W2 g 85 [.slice (some ⟨gb, ob, none⟩) bs.length cap, .int .i64 ((a + 1 : Nat) : Int), .int .u64 M1, .int .i64 size] := ⟨_, by rw [hW2]; exact HR1.out.set (j := 2) _⟩
    have K2 : Kept [g] W1 W2 := by rw [hW2]; exact ((Kept.refl _ _).set (by simp) _).drew
    have HR2 := hide R2
    have HK2 := hide (HK1.out.trans K2)
    have HV2 := hide (K2.readsB HV1.out (fun x hx hm => HG.out (by rw [← List.mem_singleton.1 hm]; exact hx)))
    clear hW2 c2 f2
    have c2 : W2.cell? ⟨g, 2, none⟩ = some (.int .u64 M2) := R2.cell 2
    have f2 := R2.free 2
    clear R2 K2 HR1 HK1 HV1
    go_region
    go_wp2
    go_ret
    have RF := HR2.out.set (j := 2) (.int .u64 (bits BinOp.xor IntKind.u64 M2 (IntKind.u64.wrap (M2 * 131072))))
    have KF := ((Kept.refl [g] W2).set (G := g) (j := 2) (by simp) (.int .u64 (bits BinOp.xor IntKind.u64 M2 (IntKind.u64.wrap (M2 * 131072)))))
    exact ⟨⟨_, rfl, draw_in _ m hm hm2⟩, ⟨a + 1, _, _, Row.drew RF, HA.out, (KF.drew).readsB HV2.out (fun x hx hm => HG.out (by rw [← List.mem_singleton.1 hm]; exact hx)), HG.out⟩, HK2.out.trans KF.drew⟩
  · have t1 : ¬ ((a : Int) < (bs.length : Int)) := by omega
    go_enter Tryz.func23, Tryz.ntmps23
    go_wp2
    go_region
    go_wp2
    refine wp_name ?_
    intro W0 hW0
    have R0 : Row W0 g 85 [.slice p bs.length cap, .int .i64 (a : Int), .int .u64 mix, .int .i64 size] := by rw [hW0]; exact HR.out
    have K0 : Kept [g] w W0 := by rw [hW0]; exact (Kept.refl _ _).drew
    have V0 := K0.readsB HV.out (fun x hx hm => HG.out (by rw [← List.mem_singleton.1 hm]; exact hx))
    clear hW0 c0 c1 c2 f1 f2
    have c2 : W0.cell? ⟨g, 2, none⟩ = some (.int .u64 mix) := R0.cell 2
    have f2 := R0.free 2
    have HA := hide ha
    have HR0 := hide R0
    have HK0 := hide K0
    have HV0 := hide V0
    clear R0 K0 V0
    go_region
    go_wp2
    refine wp_name ?_
    intro W1 hW1
    obtain ⟨M1, R1⟩ : ∃ M1, Row W1 g 85 [.slice p bs.length cap, .int .i64 (a : Int), .int .u64 M1, .int .i64 size] := ⟨_, by rw [hW1]; exact HR0.out.set (j := 2) _⟩
    have K1 : Kept [g] W0 W1 := by rw [hW1]; exact ((Kept.refl _ _).set (by simp) _).drew
    have HR1 := hide R1
    have HK1 := hide (HK0.out.trans K1)
    have HV1 := hide (K1.readsB HV0.out (fun x hx hm => HG.out (by rw [← List.mem_singleton.1 hm]; exact hx)))
    clear hW1 c2 f2
    have c2 : W1.cell? ⟨g, 2, none⟩ = some (.int .u64 M1) := R1.cell 2
    have f2 := R1.free 2
    clear R1 K1 HR0 HK0 HV0
    go_region
    go_wp2
    refine wp_name ?_
    intro W2 hW2
    obtain ⟨M2, R2⟩ : ∃ M1, Row W2 g 85 [.slice p bs.length cap, .int .i64 (a : Int), .int .u64 M1, .int .i64 size] := ⟨_, by rw [hW2]; exact HR1.out.set (j := 2) _⟩
    have K2 : Kept [g] W1 W2 := by rw [hW2]; exact ((Kept.refl _ _).set (by simp) _).drew
    have HR2 := hide R2
    have HK2 := hide (HK1.out.trans K2)
    have HV2 := hide (K2.readsB HV1.out (fun x hx hm => HG.out (by rw [← List.mem_singleton.1 hm]; exact hx)))
    clear hW2 c2 f2
    have c2 : W2.cell? ⟨g, 2, none⟩ = some (.int .u64 M2) := R2.cell 2
    have f2 := R2.free 2
    clear R2 K2 HR1 HK1 HV1
    go_region
    go_wp2
    go_ret
    have RF := HR2.out.set (j := 2) (.int .u64 (bits BinOp.xor IntKind.u64 M2 (IntKind.u64.wrap (M2 * 131072))))
    have KF := ((Kept.refl [g] W2).set (G := g) (j := 2) (by simp) (.int .u64 (bits BinOp.xor IntKind.u64 M2 (IntKind.u64.wrap (M2 * 131072)))))
    exact ⟨⟨_, rfl, draw_in _ m hm hm2⟩, ⟨a, _, _, Row.drew RF, HA.out, (KF.drew).readsB HV2.out (fun x hx hm => HG.out (by rw [← List.mem_singleton.1 hm]; exact hx)), HG.out⟩, HK2.out.trans KF.drew⟩
set_option maxHeartbeats 1000000 in
theorem n_small (g : Nat) (m : Int) (w : World) (hm : m ≤ 1) :
    Calls Tryz.prog 23 #[.pointer (some ⟨g, 0, none⟩), .int .i64 m] w fun e w' => e = .returned (.int .i64 0) ∧ w' = w := by
  go_enter Tryz.func23, Tryz.ntmps23
  go_wp2
  go_ret
  exact ⟨rfl, rfl⟩
theorem n_any (v : Value) (bs : List Int) (g : Nat) (m : Int) (w : World) (h : Src v bs g w) (hm2 : m ≤ 9223372036854775807) (hl : bs.length ≤ 1048576) :
    Calls Tryz.prog 23 #[.pointer (some ⟨g, 0, none⟩), .int .i64 m] w fun e w' => (∃ r : Int, e = .returned (.int .i64 r) ∧ 0 ≤ r ∧ (r < m ∨ r = 0)) ∧ Src v bs g w' ∧ Kept [g] w w' := by
  by_cases hm : 1 < m
  · exact (n_big v bs g m w h hm hm2 hl).mono fun _ _ ⟨⟨r, e, h1, h2⟩, hs, hk⟩ => ⟨⟨r, e, h1, .inl h2⟩, hs, hk⟩
  · exact (n_small g m w (by omega)).mono fun _ _ ⟨e, hw⟩ => ⟨⟨0, e, by omega, .inr rfl⟩, hw ▸ h, hw ▸ Kept.refl _ _⟩
set_option maxHeartbeats 1000000 in
theorem one_any (v : Value) (bs : List Int) (g : Nat) (m : Int) (w : World) (h : Src v bs g w) (hm2 : m ≤ 9223372036854775807) (hl : bs.length ≤ 1048576) :
    Calls Tryz.prog 24 #[.pointer (some ⟨g, 0, none⟩), .int .i64 m] w fun e w' => (∃ b : Bool, e = .returned (.bool b)) ∧ Src v bs g w' ∧ Kept [g] w w' := by
  have HS := hide h
  clear h
  go_enter Tryz.func24, Tryz.ntmps24
  go_wp2_with fail
  refine (n_any v bs g m w HS.out hm2 hl).mono ?_
  rintro e w1 ⟨⟨r, rfl, h1, h2⟩, hs, hk⟩
  have HS1 := hide hs
  have HK1 := hide hk
  clear hs hk h2
  go_wp2
  go_ret
  exact ⟨⟨_, rfl⟩, HS1.out, HK1.out⟩
end Go.Proofs.YtkmehbgepkilkaaGreatDoor

/- What the program says of one pending thing. -/
namespace Go.Proofs.YtkmehbgepkilkaaGreatDoor
open Go.RowKit

/-- The nearest place that is there; the text's first bytes. -/
def fitA (A : Int) (n : Nat) : Int := if (n : Int) - 1 < (if A < 0 then 0 else A) then (n : Int) - 1 else (if A < 0 then 0 else A)
def fitD (D : ByteArray) : ByteArray := D.extract 0 (if 64 < (D.size : Int) then 64 else (D.size : Int)).toNat
theorem fitA_in {A : Int} {n : Nat} (h0 : 0 ≤ A) (h1 : A ≤ (n : Int) - 1) : fitA A n = A := by
  unfold fitA
  rw [if_neg (show ¬ A < 0 by omega), if_neg (by omega)]
theorem fitA_out {A : Int} {n : Nat} (hn : 1 ≤ n) (h : ¬ (0 ≤ A ∧ A ≤ (n : Int) - 1)) : fitA A n ≠ A := by
  unfold fitA
  split <;> split at * <;> omega
theorem fitD_in {D : ByteArray} (h : D.size ≤ 64) : fitD D = D := by
  unfold fitD
  rw [if_neg (by omega)]
  simp
theorem fitD_out {D : ByteArray} (h : ¬ D.size ≤ 64) : fitD D ≠ D := by
  unfold fitD
  rw [if_pos (by omega)]
  intro e
  have := congrArg ByteArray.size e
  simp at this
  omega

set_option maxHeartbeats 2000000 in
theorem fitPending_any (A : Int) (D : ByteArray) (n : Nat) (w : World) (hD : D.size ≤ maxLen) (h1 : 1 ≤ n) (h2 : n ≤ 64) :
    Calls Tryz.prog 93 #[.agg #[.int .i64 A, .string D], .int .i64 n] w fun e w' =>
      e = .returned (.agg #[.int .i64 (fitA A n), .string (fitD D)]) ∧ Below w.heap.size w w' := by
  unfold maxLen at hD
  have e1 : IntKind.i64.wrap ((n : Int) - 1) = (n : Int) - 1 := by rw [IntKind.wrap_i64]; omega
  have HF := hide (show fitA A n = if (n : Int) - 1 < (if A < 0 then 0 else A) then (n : Int) - 1 else (if A < 0 then 0 else A) from rfl)
  have HD := hide (show fitD D = D.extract 0 (if 64 < (D.size : Int) then 64 else (D.size : Int)).toNat from rfl)
  go_enter Tryz.func93, Tryz.ntmps93
  go_wp2
  go_region
  rw [← HF.out, ← HD.out]
  generalize (if A < 0 then 0 else A) = M
  generalize (if 64 < (D.size : Int) then 64 else (D.size : Int)) = L
  go_wp2
  exact bodyPost_ret (v := .agg #[.int .i64 (fitA A n), .string (fitD D)]) (by simp [results, Tryz.results93, go_sem]) rfl
    ⟨rfl, (((Below.refl _ _).alloc (Nat.le_refl _) _).alloc (by simp) _).drew⟩

/-- What is told of a pending thing: nothing, or one of two errors. -/
def pendFault (vF vR : Value) (A : Int) (D : ByteArray) (n : Nat) : Value :=
  if D.size ≤ 64 then (if 0 ≤ A ∧ A ≤ (n : Int) - 1 then .nilIface else vR) else vF

theorem fitD_lists {D : ByteArray} (h : ¬ D.size ≤ 64) : ((fitD D).toList == D.toList) = false := by
  rw [ByteArray.toList_eq, ByteArray.toList_eq]
  exact beq_eq_false_iff_ne.2 fun e => fitD_out h (ByteArray.ext (Array.ext' e))

set_option maxHeartbeats 2000000 in
theorem pendingFault_any (A : Int) (D : ByteArray) (n : Nat) (vF vR : Value) (w : World) (hD : D.size ≤ maxLen) (h1 : 1 ≤ n) (h2 : n ≤ 64)
    (hF : w.cell? ⟨0, 0, none⟩ = some vF) (hR : w.cell? ⟨1, 0, none⟩ = some vR) :
    Calls Tryz.prog 78 #[.agg #[.int .i64 A, .string D], .int .i64 n] w fun e w' =>
      e = .returned (pendFault vF vR A D n) ∧ Below w.heap.size w w' := by
  have hb0 : Below w.heap.size w (w.alloc (.cells #[.int .i64 A, .string D] 61)) := (Below.refl _ _).alloc (Nat.le_refl _) _
  have HB0 := hide hb0
  have HR0 := hide (row_new w [.int .i64 A, .string D] 61)
  have lF : 0 < w.heap.size := World.block_lt_of_cell? w ⟨0, 0, none⟩ hF
  have lR : 1 < w.heap.size := World.block_lt_of_cell? w ⟨1, 0, none⟩ hR
  clear hb0
  have HE := hide (show pendFault vF vR A D n = if D.size ≤ 64 then (if 0 ≤ A ∧ A ≤ (n : Int) - 1 then .nilIface else vR) else vF from rfl)
  by_cases hin : 0 ≤ A ∧ A ≤ (n : Int) - 1
  · by_cases hz : D.size ≤ 64
    · have HA := hide (fitA_in hin.1 hin.2)
      have HD := hide (fitD_in hz)
      rw [if_pos hz, if_pos hin] at HE
      rw [HE.out]
      go_enter Tryz.func78, Tryz.ntmps78
      go_wp2_with fail
      refine (fitPending_any A D n _ hD h1 h2).mono ?_
      try rw [HA.out]
      try rw [HD.out]
      rintro e w1 ⟨rfl, hb1⟩
      have bn := below_new w1 (.cells #[.int .i64 A, .string D] 61)
      have hb2 := hb1.trans (bn.mono hb1.size)
      have R1 := Row.after hb2 HR0.out
      have HB1 := hide (HB0.out.trans (hb2.mono HB0.out.size))
      have a0 : (w1.alloc (.cells #[.int .i64 A, .string D] 61)).cell? ⟨w.heap.size, 0, none⟩ = some (.int .i64 A) := R1.cell 0
      have a1 : (w1.alloc (.cells #[.int .i64 A, .string D] 61)).cell? ⟨w.heap.size, 1, none⟩ = some (.string D) := R1.cell 1
      have f1 : (w1.alloc (.cells #[.int .i64 A, .string D] 61)).cell? ⟨0, 0, none⟩ = some vF := by rw [HB1.out.cell (p := ⟨0, 0, none⟩) lF]; exact hF
      have f2 : (w1.alloc (.cells #[.int .i64 A, .string D] 61)).cell? ⟨1, 0, none⟩ = some vR := by rw [HB1.out.cell (p := ⟨1, 0, none⟩) lR]; exact hR
      clear hb1 hb2 bn R1 HR0
      go_wp2
      go_ret
      exact ⟨rfl, HB1.out⟩
    · have hne := fitD_out hz
      have HA := hide (fitA_in hin.1 hin.2)
      have HD := hide (show fitD D = fitD D from rfl)
      have hdl := fitD_lists hz
      rw [if_neg hz] at HE
      rw [HE.out]
      go_enter Tryz.func78, Tryz.ntmps78
      go_wp2_with fail
      refine (fitPending_any A D n _ hD h1 h2).mono ?_
      try rw [HA.out]
      try rw [HD.out]
      rintro e w1 ⟨rfl, hb1⟩
      have bn := below_new w1 (.cells #[.int .i64 A, .string (fitD D)] 61)
      have hb2 := hb1.trans (bn.mono hb1.size)
      have R1 := Row.after hb2 HR0.out
      have HB1 := hide (HB0.out.trans (hb2.mono HB0.out.size))
      have a0 : (w1.alloc (.cells #[.int .i64 A, .string (fitD D)] 61)).cell? ⟨w.heap.size, 0, none⟩ = some (.int .i64 A) := R1.cell 0
      have a1 : (w1.alloc (.cells #[.int .i64 A, .string (fitD D)] 61)).cell? ⟨w.heap.size, 1, none⟩ = some (.string D) := R1.cell 1
      have f1 : (w1.alloc (.cells #[.int .i64 A, .string (fitD D)] 61)).cell? ⟨0, 0, none⟩ = some vF := by rw [HB1.out.cell (p := ⟨0, 0, none⟩) lF]; exact hF
      have f2 : (w1.alloc (.cells #[.int .i64 A, .string (fitD D)] 61)).cell? ⟨1, 0, none⟩ = some vR := by rw [HB1.out.cell (p := ⟨1, 0, none⟩) lR]; exact hR
      clear hb1 hb2 bn R1 HR0
      go_wp2
      go_ret
      exact ⟨rfl, HB1.out⟩
  · have hna := fitA_out h1 hin
    by_cases hz : D.size ≤ 64
    · have HA := hide (show fitA A n = fitA A n from rfl)
      have HD := hide (fitD_in hz)
      rw [if_pos hz, if_neg hin] at HE
      rw [HE.out]
      go_enter Tryz.func78, Tryz.ntmps78
      go_wp2_with fail
      refine (fitPending_any A D n _ hD h1 h2).mono ?_
      try rw [HA.out]
      try rw [HD.out]
      rintro e w1 ⟨rfl, hb1⟩
      have bn := below_new w1 (.cells #[.int .i64 (fitA A n), .string D] 61)
      have hb2 := hb1.trans (bn.mono hb1.size)
      have R1 := Row.after hb2 HR0.out
      have HB1 := hide (HB0.out.trans (hb2.mono HB0.out.size))
      have a0 : (w1.alloc (.cells #[.int .i64 (fitA A n), .string D] 61)).cell? ⟨w.heap.size, 0, none⟩ = some (.int .i64 A) := R1.cell 0
      have a1 : (w1.alloc (.cells #[.int .i64 (fitA A n), .string D] 61)).cell? ⟨w.heap.size, 1, none⟩ = some (.string D) := R1.cell 1
      have f1 : (w1.alloc (.cells #[.int .i64 (fitA A n), .string D] 61)).cell? ⟨0, 0, none⟩ = some vF := by rw [HB1.out.cell (p := ⟨0, 0, none⟩) lF]; exact hF
      have f2 : (w1.alloc (.cells #[.int .i64 (fitA A n), .string D] 61)).cell? ⟨1, 0, none⟩ = some vR := by rw [HB1.out.cell (p := ⟨1, 0, none⟩) lR]; exact hR
      clear hb1 hb2 bn R1 HR0
      go_wp2
      go_ret
      exact ⟨rfl, HB1.out⟩
    · have hne := fitD_out hz
      have HA := hide (show fitA A n = fitA A n from rfl)
      have HD := hide (show fitD D = fitD D from rfl)
      have hdl := fitD_lists hz
      rw [if_neg hz] at HE
      rw [HE.out]
      go_enter Tryz.func78, Tryz.ntmps78
      go_wp2_with fail
      refine (fitPending_any A D n _ hD h1 h2).mono ?_
      try rw [HA.out]
      try rw [HD.out]
      rintro e w1 ⟨rfl, hb1⟩
      have bn := below_new w1 (.cells #[.int .i64 (fitA A n), .string (fitD D)] 61)
      have hb2 := hb1.trans (bn.mono hb1.size)
      have R1 := Row.after hb2 HR0.out
      have HB1 := hide (HB0.out.trans (hb2.mono HB0.out.size))
      have a0 : (w1.alloc (.cells #[.int .i64 (fitA A n), .string (fitD D)] 61)).cell? ⟨w.heap.size, 0, none⟩ = some (.int .i64 A) := R1.cell 0
      have a1 : (w1.alloc (.cells #[.int .i64 (fitA A n), .string (fitD D)] 61)).cell? ⟨w.heap.size, 1, none⟩ = some (.string D) := R1.cell 1
      have f1 : (w1.alloc (.cells #[.int .i64 (fitA A n), .string (fitD D)] 61)).cell? ⟨0, 0, none⟩ = some vF := by rw [HB1.out.cell (p := ⟨0, 0, none⟩) lF]; exact hF
      have f2 : (w1.alloc (.cells #[.int .i64 (fitA A n), .string (fitD D)] 61)).cell? ⟨1, 0, none⟩ = some vR := by rw [HB1.out.cell (p := ⟨1, 0, none⟩) lR]; exact hR
      clear hb1 hb2 bn R1 HR0
      go_wp2
      go_ret
      exact ⟨rfl, HB1.out⟩
end Go.Proofs.YtkmehbgepkilkaaGreatDoor

/- What the program says of a disk. -/
namespace Go.Proofs.YtkmehbgepkilkaaGreatDoor
open Go.RowKit

/-- What is told of a disk: nothing, or that it is not right. -/
def diskFaultOf (vF : Value) (xs : List ByteArray) (ps : List (Int × ByteArray)) : Value := if right xs ps then .nilIface else vF
theorem cell_old {w w' : World} {g : Nat} {v : Value} (hb : Below w.heap.size w w') (h : w.cell? ⟨g, 0, none⟩ = some v) : w'.cell? ⟨g, 0, none⟩ = some v := by
  rw [hb.cell (p := ⟨g, 0, none⟩) (World.block_lt_of_cell? w ⟨g, 0, none⟩ h)]; exact h
instance stab_cell (g : Nat) (v : Value) : Stab (fun w => w.cell? ⟨g, 0, none⟩ = some v) := ⟨fun hb h => cell_old hb h⟩

set_option maxHeartbeats 2000000 in
theorem diskFault_any (vs vp : Value) (xs : List ByteArray) (ps : List (Int × ByteArray)) (tF : TypeId) (uF : Value) (tR : TypeId) (uR : Value) (w : World) (hn : xs.length ≤ 1048576) (hn2 : ps.length ≤ 1048576) (hr : Reads w vs xs) (hp : ReadsP w vp ps)
    (hF : w.cell? ⟨0, 0, none⟩ = some (.iface tF uF)) (hR : w.cell? ⟨1, 0, none⟩ = some (.iface tR uR)) :
    Calls Tryz.prog 60 #[.agg #[vs, vp]] w fun e w' => e = .returned (diskFaultOf (.iface tF uF) xs ps) ∧ Below w.heap.size w w' := by
  have hb0 : Below w.heap.size w (w.alloc (.cells #[vs, vp] 26)) := (Below.refl _ _).alloc (Nat.le_refl _) _
  have HR := hide (hr.below hb0 (Nat.le_refl _))
  have HP := hide (hp.below hb0 (Nat.le_refl _))
  have HCF := hide (cell_old hb0 hF)
  have HCR := hide (cell_old hb0 hR)
  obtain ⟨p1, c1, rfl, hq⟩ := hr
  obtain ⟨p2, c2, rfl, hq2⟩ := hp
  have HB0 := hide hb0
  have HE := hide (show diskFaultOf (.iface tF uF) xs ps = if right xs ps then .nilIface else .iface tF uF from rfl)
  have hcF : (w.alloc (.cells #[.slice p1 xs.length c1, .slice p2 ps.length c2] 26)).cell? ⟨0, 0, none⟩ = some (.iface tF uF) := HCF.out
  clear hb0 hq hq2 hF hR
  by_cases h1 : xs.length < 1
  · have HF := hide (show right xs ps = false by unfold right; simp; omega)
    rw [HF.out] at HE
    have t1 : (xs.length : Int) < 1 := by omega
    go_enter Tryz.func60, Tryz.ntmps60
    go_wp2
    go_ret
    exact ⟨by rw [HE.out]; rfl, HB0.out⟩
  by_cases h2 : 64 < xs.length
  · have HF := hide (show right xs ps = false by unfold right; simp; omega)
    rw [HF.out] at HE
    have t1 : ¬ ((xs.length : Int) < 1) := by omega
    have t2 : (64 : Int) < (xs.length : Int) := by omega
    go_enter Tryz.func60, Tryz.ntmps60
    go_wp2
    go_ret
    exact ⟨by rw [HE.out]; rfl, HB0.out⟩
  have t1 : ¬ ((xs.length : Int) < 1) := by omega
  have t2 : ¬ ((64 : Int) < (xs.length : Int)) := by omega
  by_cases h3 : 200 < ps.length
  · have HF := hide (show right xs ps = false by unfold right; simp; omega)
    rw [HF.out] at HE
    have t3 : (200 : Int) < (ps.length : Int) := by omega
    go_enter Tryz.func60, Tryz.ntmps60
    go_wp2
    go_ret
    exact ⟨by rw [HE.out]; rfl, HB0.out⟩
  have t3 : ¬ ((200 : Int) < (ps.length : Int)) := by omega
  have HF := hide (show right xs ps = (okS xs && okP xs.length ps) by unfold right; simp [show 1 ≤ xs.length by omega, show xs.length ≤ 64 by omega, show ps.length ≤ 200 by omega])
  go_enter Tryz.func60, Tryz.ntmps60
  go_wp2
  obtain ⟨g1, o1, rfl, hg1, hc1⟩ : ∃ g off, p1 = some ⟨g, off, none⟩ ∧ _ := by
    obtain ⟨p, cap, he, _, _, _, h4⟩ := HR.out
    cases he
    exact h4 (by omega)
  have HC1 := hide hc1
  clear hc1
  go_loop [27] (fun i => ∃ k : Nat, k ≤ xs.length ∧ i = .int .i64 k ∧ Hid (okS xs = okS (xs.drop k))) (fun i => xs.length - (intOf i).toNat)
  case atStart => exact ⟨0, Nat.zero_le _, rfl, rfl⟩
  case round =>
    obtain ⟨k, hk, rfl, HS⟩ := hrel
    by_cases hlt : k < xs.length
    · have hck := HC1.out k hlt
      have HT := hide (okS_step xs k hlt)
      obtain ⟨D, hD⟩ : ∃ D, D = xs[k]'hlt := ⟨_, rfl⟩
      rw [← hD] at hck HT
      clear hD
      by_cases hz : D.size ≤ 64
      · have HU := hide (show okS xs = okS (xs.drop (k + 1)) by rw [HS.out.trans HT.out]; simp [hz])
        have T3 : ¬ ((64 : Int) < (D.size : Int)) := by omega
        go_wp2
        go_round
        case rel => exact ⟨k + 1, by omega, by go_num, HU⟩
        case measure => simp [intOf]; omega
      · have HU := hide (show right xs ps = false by rw [HF.out, HS.out, HT.out]; simp [hz])
        rw [HU.out] at HE
        have T3 : (64 : Int) < (D.size : Int) := by omega
        go_wp2
        go_ret
        exact ⟨by rw [HE.out]; rfl, HB0.out⟩
    · go_wp2
      have HG := hide (show right xs ps = okP xs.length ps by rw [HF.out, HS.out, List.drop_eq_nil_of_le (by omega)]; rfl)
      have RW := hide (row_new w [.slice (some ⟨g1, o1, none⟩) xs.length c1, .slice p2 ps.length c2] 26)
      clear HC1 HS HF hcF
      go_loopw [39] (fun i wr => ∃ k : Nat, k ≤ ps.length ∧ i = .int .i64 k ∧ Hid (right xs ps = okP xs.length (ps.drop k)) ∧ Hid (Below (w.alloc (.cells #[.slice (some ⟨g1, o1, none⟩) xs.length c1, .slice p2 ps.length c2] 26)).heap.size (w.alloc (.cells #[.slice (some ⟨g1, o1, none⟩) xs.length c1, .slice p2 ps.length c2] 26)) wr)) (fun i _ => ps.length - (intOf i).toNat)
      case atStart => exact ⟨0, Nat.zero_le _, rfl, HG.out, Below.refl _ _⟩
      case round =>
        obtain ⟨j, hj, rfl, HS, HB⟩ := hrel
        by_cases hlt2 : j < ps.length
        · obtain ⟨g2, o2, rfl, hg2, hc2⟩ : ∃ g off, p2 = some ⟨g, off, none⟩ ∧ _ := by
            obtain ⟨p, cap, he, _, _, _, h4⟩ := HP.out
            cases he
            exact h4 (by omega)
          obtain ⟨k0, k1⟩ := hc2 j hlt2
          have hk0 := (HB.out.cell (p := ⟨g2, o2 + j * 2, none⟩) hg2).trans k0
          have hk1 := (HB.out.cell (p := ⟨g2, o2 + j * 2 + 1, none⟩) hg2).trans k1
          have HT := hide (okP_step xs.length ps j hlt2)
          have hsz : (ps[j]'hlt2).2.size ≤ maxLen := by obtain ⟨p, cap, he, _, _, h3, _⟩ := HP.out; exact h3 _ (List.getElem_mem hlt2)
          have hki : (j : Int) < (ps.length : Int) := by omega
          obtain ⟨A, hA⟩ : ∃ A, A = (ps[j]'hlt2).1 := ⟨_, rfl⟩
          obtain ⟨D, hD⟩ : ∃ D, D = (ps[j]'hlt2).2 := ⟨_, rfl⟩
          rw [← hA] at hk0
          rw [← hD] at hk1 hsz
          rw [← hA, ← hD] at HT
          have bn := below_new wr (.cells #[.int .i64 A, .string D] 61)
          have HB1 := hide (HB.out.trans (bn.mono HB.out.size))
          have HSZ := hide hsz
          clear hA hD k0 k1 hc2 hg2 hg1 HR HP hsz
          go_wp2_with fail
          refine (pendingFault_any A D xs.length _ _ _ HSZ.out (by omega) (by omega) (cell_old HB1.out HCF.out) (cell_old HB1.out HCR.out)).mono ?_
          rintro e w2 ⟨rfl, hb2⟩
          have HB2 := hide (HB1.out.trans (hb2.mono HB1.out.size))
          have hcF2 := cell_old HB2.out HCF.out
          clear hb2 bn HB1 HB
          by_cases hin : (0 ≤ A ∧ A ≤ (xs.length : Int) - 1) ∧ D.size ≤ 64
          · have HU := hide (show right xs ps = okP xs.length (ps.drop (j + 1)) by rw [HS.out.trans HT.out]; simp [hin.1.1, hin.1.2, hin.2])
            have HV := hide (show pendFault (.iface tF uF) (.iface tR uR) A D xs.length = .nilIface by unfold pendFault; rw [if_pos hin.2, if_pos hin.1])
            rw [HV.out]
            clear hin
            go_wp2
            go_roundw
            case rel => exact ⟨j + 1, by omega, by go_num, HU, HB2⟩
            case measure => simp [intOf]; omega
          · have HU := hide (show right xs ps = false by
              rw [HS.out.trans HT.out]
              have : (decide (0 ≤ A) && decide (A ≤ (xs.length : Int) - 1) && decide (D.size ≤ 64)) = false := by
                cases h : (decide (0 ≤ A) && decide (A ≤ (xs.length : Int) - 1) && decide (D.size ≤ 64)) with
                | false => rfl
                | true => simp at h; exact absurd ⟨h.1, h.2⟩ hin
              rw [this]; rfl)
            rw [HU.out] at HE
            obtain ⟨t, u, HV⟩ : ∃ t u, Hid (pendFault (.iface tF uF) (.iface tR uR) A D xs.length = .iface t u) := by
              unfold pendFault
              split
              · split
                · exact absurd ⟨by assumption, by assumption⟩ hin
                · exact ⟨_, _, rfl⟩
              · exact ⟨_, _, rfl⟩
            rw [HV.out]
            clear hin
            have HB3 := hide (HB0.out.trans (HB2.out.mono HB0.out.size))
            go_wp2
            go_ret
            exact ⟨by rw [HE.out]; rfl, HB3.out⟩
        · have HU := hide (show right xs ps = true by rw [HS.out, List.drop_eq_nil_of_le (by omega)]; rfl)
          rw [HU.out] at HE
          have HB2 := hide (HB0.out.trans (HB.out.mono HB0.out.size))
          go_wp2
          go_ret
          exact ⟨by rw [HE.out]; rfl, HB2.out⟩
end Go.Proofs.YtkmehbgepkilkaaGreatDoor

/- DiskRight, as the program does it. -/
namespace Go.Proofs.YtkmehbgepkilkaaGreatDoor
open Go.RowKit

set_option maxHeartbeats 2000000 in
theorem implRight_any (vs vp : Value) (xs : List ByteArray) (ps : List (Int × ByteArray)) (tF : TypeId) (uF : Value) (tR : TypeId) (uR : Value) (w : World) (hn : xs.length ≤ 1048576) (hn2 : ps.length ≤ 1048576) (hr : Reads w vs xs) (hp : ReadsP w vp ps)
    (hF : w.cell? ⟨0, 0, none⟩ = some (.iface tF uF)) (hR : w.cell? ⟨1, 0, none⟩ = some (.iface tR uR)) :
    Calls Tryz.prog 49 #[.agg #[vs, vp]] w fun e w' => e = .returned (.bool (right xs ps)) ∧ Below w.heap.size w w' := by
  have hb0 : Below w.heap.size w (w.alloc (.cells #[vs, vp] 26)) := (Below.refl _ _).alloc (Nat.le_refl _) _
  have HR := hide (hr.below hb0 (Nat.le_refl _))
  have HP := hide (hp.below hb0 (Nat.le_refl _))
  have HCF := hide (cell_old hb0 hF)
  have HCR := hide (cell_old hb0 hR)
  obtain ⟨p1, c1, rfl, hq⟩ := hr
  obtain ⟨p2, c2, rfl, hq2⟩ := hp
  have HB0 := hide hb0
  clear hb0 hq hq2 hF hR
  cases hok : right xs ps with
  | true =>
    have HE := hide (show diskFaultOf (.iface tF uF) xs ps = .nilIface by unfold diskFaultOf; rw [hok]; rfl)
    go_enter Tryz.func49, Tryz.ntmps49
    go_wp2_with fail
    refine (diskFault_any _ _ xs ps tF uF tR uR _ hn hn2 HR.out HP.out HCF.out HCR.out).mono ?_
    rw [HE.out]
    rintro e w1 ⟨rfl, hb1⟩
    have HB1 := hide (HB0.out.trans (hb1.mono HB0.out.size))
    clear hb1
    go_wp2
    go_ret
    exact ⟨rfl, HB1.out⟩
  | false =>
    have HE := hide (show diskFaultOf (.iface tF uF) xs ps = .iface tF uF by unfold diskFaultOf; rw [hok]; rfl)
    go_enter Tryz.func49, Tryz.ntmps49
    go_wp2_with fail
    refine (diskFault_any _ _ xs ps tF uF tR uR _ hn hn2 HR.out HP.out HCF.out HCR.out).mono ?_
    rw [HE.out]
    rintro e w1 ⟨rfl, hb1⟩
    have HB1 := hide (HB0.out.trans (hb1.mono HB0.out.size))
    clear hb1
    go_wp2
    go_ret
    exact ⟨rfl, HB1.out⟩
end Go.Proofs.YtkmehbgepkilkaaGreatDoor
