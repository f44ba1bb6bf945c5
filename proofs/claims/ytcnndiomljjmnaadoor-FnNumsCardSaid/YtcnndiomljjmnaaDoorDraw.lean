/- Draws: a source of numbers. -/
import Derived.Test.YtcnndiomljjmnaaDoorStab
import Derived.BigRegion
namespace Go.Proofs.YtcnndiomljjmnaaDoor
open Go.RowKit

/-- The slice v reads as the bytes bs. -/
def ReadsB (w : World) (v : Value) (bs : List Int) : Prop :=
  ∃ p cap, v = .slice p bs.length cap ∧ bs.length ≤ cap ∧ cap ≤ maxLen ∧ (∀ b ∈ bs, 0 ≤ b ∧ b < 256) ∧
    (0 < bs.length → ∃ g off, p = some ⟨g, off, none⟩ ∧ g < w.heap.size ∧ ∀ i (h : i < bs.length), w.cell? ⟨g, off + i, none⟩ = some (.int .u8 bs[i]))
theorem Kept.readsB {S : List Nat} {w w' : World} {v : Value} {ks : List Int} (h : Kept S w w') (hr : ReadsB w v ks) (hn : ∀ x ∈ leads v, x ∉ S) : ReadsB w' v ks := by
  obtain ⟨p, cap, rfl, h1, h2, h3, h4⟩ := hr
  refine ⟨p, cap, rfl, h1, h2, h3, fun h0 => ?_⟩
  obtain ⟨g, off, rfl, hg, hc⟩ := h4 h0
  have hgS : g ∉ S := hn g (by obtain ⟨m, hm⟩ : ∃ m, ks.length = m + 1 := ⟨ks.length - 1, by omega⟩; rw [hm]; exact List.mem_singleton.2 rfl)
  exact ⟨g, off, rfl, Nat.lt_of_lt_of_le hg h.size, fun i hi => h.cell (hc i hi) hgS⟩
theorem ReadsB.below {w w' : World} {v : Value} {ks : List Int} {B : Nat} (h : ReadsB w v ks) (hb : Below B w w') (hB : w.heap.size ≤ B) : ReadsB w' v ks := (Kept.ofBelow (hb.mono hB)).readsB h (by simp)
theorem ReadsB.leads {w : World} {v : Value} {ks : List Int} (h : ReadsB w v ks) : ∀ x ∈ Go.Proofs.YtcnndiomljjmnaaDoor.leads v, x < w.heap.size := by
  obtain ⟨p, cap, rfl, _, _, _, h4⟩ := h
  intro x hx
  cases hn : ks.length with
  | zero => rw [hn] at hx; cases p <;> cases hx
  | succ m =>
    obtain ⟨g, off, rfl, hg, _⟩ := h4 (by omega)
    rw [hn] at hx
    obtain rfl := List.mem_singleton.1 hx
    exact hg
/-- A source of numbers lies at block g: the bytes bs in the slice v, and how far it has come. -/
def Src (v : Value) (bs : List Int) (g : Nat) (w : World) : Prop :=
  ∃ (a : Nat) (mix size : Int), Row w g 52 [v, .int .i64 a, .int .u64 mix, .int .i64 size] ∧ a ≤ bs.length ∧ ReadsB w v bs ∧ g ∉ leads v
theorem Src.lt {v : Value} {bs : List Int} {g : Nat} {w : World} (h : Src v bs g w) : g < w.heap.size := by
  obtain ⟨a, m, s, hr, _⟩ := h
  exact hr.lt
theorem Src.kept {v : Value} {bs : List Int} {g : Nat} {S : List Nat} {w w' : World} (h : Src v bs g w) (hk : Kept S w w') (hg : g ∉ S) (hn : ∀ x ∈ leads v, x ∉ S) : Src v bs g w' := by
  obtain ⟨a, m, s, hr, ha, hv, hgl⟩ := h
  exact ⟨a, m, s, hk.row hr hg, ha, hk.readsB hv hn, hgl⟩
theorem Src.below {v : Value} {bs : List Int} {g : Nat} {w w' : World} (h : Src v bs g w) (hb : Below w.heap.size w w') : Src v bs g w' := h.kept (Kept.ofBelow hb) (by simp) (by simp)
theorem Src.leads {v : Value} {bs : List Int} {g : Nat} {w : World} (h : Src v bs g w) : ∀ x ∈ Go.Proofs.YtcnndiomljjmnaaDoor.leads v, x < w.heap.size := by
  obtain ⟨a, m, s, hr, ha, hv, hgl⟩ := h
  exact hv.leads
instance stab_src (v : Value) (bs : List Int) (g : Nat) : Stab (fun w => Src v bs g w) := ⟨fun hb h => h.below hb⟩

theorem rem_in (x m : Int) (hx : 0 ≤ x) (hm : 1 < m) : 0 ≤ x.tmod m ∧ x.tmod m < m := ⟨Int.tmod_nonneg _ hx, Int.tmod_lt_of_pos _ (by omega)⟩
theorem wp_name {P : Program} {c : Code} {Q : Exit → Act → World → Prop} {a : Act} {w : World} (h : ∀ W, W = w → Code.wp P c Q a W) : Code.wp P c Q a w := h w rfl
theorem wrap_u64_nonneg (x : Int) : 0 ≤ IntKind.u64.wrap x := by rw [IntKind.wrap_u64]; omega
theorem draw_in (x m : Int) (hm : 1 < m) (hm2 : m ≤ 9223372036854775807) : 0 ≤ wrap64 ((IntKind.u64.wrap x).tmod m) ∧ wrap64 ((IntKind.u64.wrap x).tmod m) < m := by
  have h := rem_in _ m (wrap_u64_nonneg x) hm
  obtain ⟨y, hy⟩ : ∃ y, y = (IntKind.u64.wrap x).tmod m := ⟨_, rfl⟩
  rw [← hy] at h ⊢
  have : wrap64 y = y := by unfold wrap64; omega
  omega
set_option maxHeartbeats 4000000 in
theorem n_big (v : Value) (bs : List Int) (g : Nat) (m : Int) (w : World) (h : Src v bs g w) (hm : 1 < m) (hm2 : m ≤ 9223372036854775807) (hl : bs.length ≤ 1048576) :
    Calls Tryd.prog 20 #[.pointer (some ⟨g, 0, none⟩), .int .i64 m] w fun e w' => (∃ r : Int, e = .returned (.int .i64 r) ∧ 0 ≤ r ∧ r < m) ∧ Src v bs g w' ∧ Kept [g] w w' := by
  obtain ⟨a, mix, size, hr, ha, hv, hg⟩ := h
  have HV := hide hv
  have HR := hide hr
  have HG := hide hg
  obtain ⟨p, cap, rfl, h1, h2, h3, h4⟩ := hv
  have c0 : w.cell? ⟨g, 0, none⟩ = some (.slice p bs.length cap) := hr.cell 0
  have c1 : w.cell? ⟨g, 1, none⟩ = some (.int .i64 a) := hr.cell 1
  have c2 : w.cell? ⟨g, 2, none⟩ = some (.int .u64 mix) := hr.cell 2
  have f1 := hr.free 1
  have f2 := hr.free 2
  have H4 := hide h4
  have H3 := hide h3
  have e1 : IntKind.u64.wrap m = m := by rw [IntKind.wrap_u64]; omega
  clear h3 h4 hr hg
  by_cases hlt : a < bs.length
  · obtain ⟨gb, ob, rfl, hgb, hc⟩ := H4.out (by omega)
    have hca := hc a hlt
    have hne : ¬ gb = g := fun e => HG.out (by rw [e]; obtain ⟨k, hk⟩ : ∃ k, bs.length = k + 1 := ⟨bs.length - 1, by omega⟩; rw [hk]; exact List.mem_singleton.2 rfl)
    obtain ⟨b, hb⟩ : ∃ b, b = bs[a]'hlt := ⟨_, rfl⟩
    have hb0 := H3.out _ (List.getElem_mem hlt)
    rw [← hb] at hca hb0
    have t1 : (a : Int) < (bs.length : Int) := by omega
    clear hc hb
    go_enter Tryd.func20, Tryd.ntmps20
    go_wp2
    go_region
    go_wp2
    go_region
    go_wp2
    refine wp_name ?_
    intro W0 hW0
    have R0 : Row W0 g 52 [.slice (some ⟨gb, ob, none⟩) bs.length cap, .int .i64 ((a + 1 : Nat) : Int), .int .u64 mix, .int .i64 size] := by rw [hW0]; exact HR.out.set (j := 1) _
    have K0 : Kept [g] w W0 := by rw [hW0]; exact (((Kept.refl _ _).set (by simp) _).drew).drew
    have V0 := K0.readsB HV.out (fun x hx hm => HG.out (by rw [← List.mem_singleton.1 hm]; exact hx))
    clear hW0 c0 c1 c2 f1 f2 hca hne
    have c2 : W0.cell? ⟨g, 2, none⟩ = some (.int .u64 mix) := R0.cell 2
    have f2 := R0.free 2
    have HA := hide (show a + 1 ≤ bs.length from hlt)
    have HR0 := hide R0
    have HK0 := hide K0
    have HV0 := hide V0
    clear R0 K0 V0
    go_region
    go_wp2
    refine wp_name ?_
    intro W1 hW1
    obtain ⟨M1, R1⟩ : ∃ M1, Row W1 g 52 [.slice (some ⟨gb, ob, none⟩) bs.length cap, .int .i64 ((a + 1 : Nat) : Int), .int .u64 M1, .int .i64 size] := ⟨_, by rw [hW1]; exact HR0.out.set (j := 2) _⟩
    have K1 : Kept [g] W0 W1 := by rw [hW1]; exact ((Kept.refl _ _).set (by simp) _).drew
    have HR1 := hide R1
    have HK1 := hide (HK0.out.trans K1)
    have HV1 := hide (K1.readsB HV0.out (fun x hx hm => HG.out (by rw [← List.mem_singleton.1 hm]; exact hx)))
    clear hW1 c2 f2
    have c2 : W1.cell? ⟨g, 2, none⟩ = some (.int .u64 M1) := R1.cell 2
    have f2 := R1.free 2
    clear R1 K1 HR0 HK0 HV0
    go_region
    go_wp2
    refine wp_name ?_
    intro W2 hW2
    obtain ⟨M2, R2⟩ : ∃ M1, Row W2 g 52 [.slice (some ⟨gb, ob, none⟩) bs.length cap, .int .i64 ((a + 1 : Nat) : Int), .int .u64 M1, .int .i64 size] := ⟨_, by rw [hW2]; exact HR1.out.set (j := 2) _⟩
    have K2 : Kept [g] W1 W2 := by rw [hW2]; exact ((Kept.refl _ _).set (by simp) _).drew
    have HR2 := hide R2
    have HK2 := hide (HK1.out.trans K2)
    have HV2 := hide (K2.readsB HV1.out (fun x hx hm => HG.out (by rw [← List.mem_singleton.1 hm]; exact hx)))
    clear hW2 c2 f2
    have c2 : W2.cell? ⟨g, 2, none⟩ = some (.int .u64 M2) := R2.cell 2
    have f2 := R2.free 2
    clear R2 K2 HR1 HK1 HV1
    go_region
    go_wp2
    go_ret
    have RF := HR2.out.set (j := 2) (.int .u64 (bits BinOp.xor IntKind.u64 M2 (IntKind.u64.wrap (M2 * 131072))))
    have KF := ((Kept.refl [g] W2).set (G := g) (j := 2) (by simp) (.int .u64 (bits BinOp.xor IntKind.u64 M2 (IntKind.u64.wrap (M2 * 131072)))))
    exact ⟨⟨_, rfl, draw_in _ m hm hm2⟩, ⟨a + 1, _, _, Row.drew RF, HA.out, (KF.drew).readsB HV2.out (fun x hx hm => HG.out (by rw [← List.mem_singleton.1 hm]; exact hx)), HG.out⟩, HK2.out.trans KF.drew⟩
  · have t1 : ¬ ((a : Int) < (bs.length : Int)) := by omega
    go_enter Tryd.func20, Tryd.ntmps20
    go_wp2
    go_region
    go_wp2
    refine wp_name ?_
    intro W0 hW0
    have R0 : Row W0 g 52 [.slice p bs.length cap, .int .i64 (a : Int), .int .u64 mix, .int .i64 size] := by rw [hW0]; exact HR.out
    have K0 : Kept [g] w W0 := by rw [hW0]; exact (Kept.refl _ _).drew
    have V0 := K0.readsB HV.out (fun x hx hm => HG.out (by rw [← List.mem_singleton.1 hm]; exact hx))
    clear hW0 c0 c1 c2 f1 f2
    have c2 : W0.cell? ⟨g, 2, none⟩ = some (.int .u64 mix) := R0.cell 2
    have f2 := R0.free 2
    have HA := hide ha
    have HR0 := hide R0
    have HK0 := hide K0
    have HV0 := hide V0
    clear R0 K0 V0
    go_region
    go_wp2
    refine wp_name ?_
    intro W1 hW1
    obtain ⟨M1, R1⟩ : ∃ M1, Row W1 g 52 [.slice p bs.length cap, .int .i64 (a : Int), .int .u64 M1, .int .i64 size] := ⟨_, by rw [hW1]; exact HR0.out.set (j := 2) _⟩
    have K1 : Kept [g] W0 W1 := by rw [hW1]; exact ((Kept.refl _ _).set (by simp) _).drew
    have HR1 := hide R1
    have HK1 := hide (HK0.out.trans K1)
    have HV1 := hide (K1.readsB HV0.out (fun x hx hm => HG.out (by rw [← List.mem_singleton.1 hm]; exact hx)))
    clear hW1 c2 f2
    have c2 : W1.cell? ⟨g, 2, none⟩ = some (.int .u64 M1) := R1.cell 2
    have f2 := R1.free 2
    clear R1 K1 HR0 HK0 HV0
    go_region
    go_wp2
    refine wp_name ?_
    intro W2 hW2
    obtain ⟨M2, R2⟩ : ∃ M1, Row W2 g 52 [.slice p bs.length cap, .int .i64 (a : Int), .int .u64 M1, .int .i64 size] := ⟨_, by rw [hW2]; exact HR1.out.set (j := 2) _⟩
    have K2 : Kept [g] W1 W2 := by rw [hW2]; exact ((Kept.refl _ _).set (by simp) _).drew
    have HR2 := hide R2
    have HK2 := hide (HK1.out.trans K2)
    have HV2 := hide (K2.readsB HV1.out (fun x hx hm => HG.out (by rw [← List.mem_singleton.1 hm]; exact hx)))
    clear hW2 c2 f2
    have c2 : W2.cell? ⟨g, 2, none⟩ = some (.int .u64 M2) := R2.cell 2
    have f2 := R2.free 2
    clear R2 K2 HR1 HK1 HV1
    go_region
    go_wp2
    go_ret
    have RF := HR2.out.set (j := 2) (.int .u64 (bits BinOp.xor IntKind.u64 M2 (IntKind.u64.wrap (M2 * 131072))))
    have KF := ((Kept.refl [g] W2).set (G := g) (j := 2) (by simp) (.int .u64 (bits BinOp.xor IntKind.u64 M2 (IntKind.u64.wrap (M2 * 131072)))))
    exact ⟨⟨_, rfl, draw_in _ m hm hm2⟩, ⟨a, _, _, Row.drew RF, HA.out, (KF.drew).readsB HV2.out (fun x hx hm => HG.out (by rw [← List.mem_singleton.1 hm]; exact hx)), HG.out⟩, HK2.out.trans KF.drew⟩
set_option maxHeartbeats 1000000 in
theorem n_small (g : Nat) (m : Int) (w : World) (hm : m ≤ 1) :
    Calls Tryd.prog 20 #[.pointer (some ⟨g, 0, none⟩), .int .i64 m] w fun e w' => e = .returned (.int .i64 0) ∧ w' = w := by
  go_enter Tryd.func20, Tryd.ntmps20
  go_wp2
  go_ret
  exact ⟨rfl, rfl⟩
theorem n_any (v : Value) (bs : List Int) (g : Nat) (m : Int) (w : World) (h : Src v bs g w) (hm2 : m ≤ 9223372036854775807) (hl : bs.length ≤ 1048576) :
    Calls Tryd.prog 20 #[.pointer (some ⟨g, 0, none⟩), .int .i64 m] w fun e w' => (∃ r : Int, e = .returned (.int .i64 r) ∧ 0 ≤ r ∧ (r < m ∨ r = 0)) ∧ Src v bs g w' ∧ Kept [g] w w' := by
  by_cases hm : 1 < m
  · exact (n_big v bs g m w h hm hm2 hl).mono fun _ _ ⟨⟨r, e, h1, h2⟩, hs, hk⟩ => ⟨⟨r, e, h1, .inl h2⟩, hs, hk⟩
  · exact (n_small g m w (by omega)).mono fun _ _ ⟨e, hw⟩ => ⟨⟨0, e, by omega, .inr rfl⟩, hw ▸ h, hw ▸ Kept.refl _ _⟩
set_option maxHeartbeats 1000000 in
theorem one_any (v : Value) (bs : List Int) (g : Nat) (m : Int) (w : World) (h : Src v bs g w) (hm2 : m ≤ 9223372036854775807) (hl : bs.length ≤ 1048576) :
    Calls Tryd.prog 19 #[.pointer (some ⟨g, 0, none⟩), .int .i64 m] w fun e w' => (∃ b : Bool, e = .returned (.bool b)) ∧ Src v bs g w' ∧ Kept [g] w w' := by
  have HS := hide h
  clear h
  go_enter Tryd.func19, Tryd.ntmps19
  go_wp2_with fail
  refine (n_any v bs g m w HS.out hm2 hl).mono ?_
  rintro e w1 ⟨⟨r, rfl, h1, h2⟩, hs, hk⟩
  have HS1 := hide hs
  have HK1 := hide hk
  clear hs hk h2
  go_wp2
  go_ret
  exact ⟨⟨_, rfl⟩, HS1.out, HK1.out⟩
end Go.Proofs.YtcnndiomljjmnaaDoor
