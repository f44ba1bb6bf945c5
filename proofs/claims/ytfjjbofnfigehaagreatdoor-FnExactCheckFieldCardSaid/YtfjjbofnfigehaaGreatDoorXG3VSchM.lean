/- The Rules of a version: lists. -/
import Derived.Test.YtfjjbofnfigehaaGreatDoorXG2VRules
import Derived.Maps.AppendAt
import Derived.Deep.RegionWith
import Derived.Deep.DeepCutAuto
namespace Go.Proofs.YtfjjbofnfigehaaGreatDoor
open Go.RowKit
/-- The Rules that a version has. -/
def schL (n : Int) : List RuleM := rulesL.filter fun r => decide (r.since ≤ n)
def hasR (n : Int) (s : ByteArray) (r : RuleM) : Bool := (r.seg.toList == s.toList) && decide (r.since ≤ n)
def knownB (n : Int) (s : ByteArray) : Bool := verB n && rulesL.any (hasR n s)
def lastStep (s : ByteArray) (a : Int) (r : RuleM) : Int := if (r.seg.toList == s.toList) = true then (if a < r.fld then r.fld else a) else a
def lastL (s : ByteArray) (l : List RuleM) : Int := l.foldl (lastStep s) 0
theorem foldl_snoc {α β : Type} (f : α → β → α) (a : α) (l : List β) (k : Nat) (h : k < l.length) : (l.take (k + 1)).foldl f a = f ((l.take k).foldl f a) l[k] := by
  rw [List.take_succ_eq_append_getElem h, List.foldl_append]
  rfl
theorem lastL_snoc (s : ByteArray) (l : List RuleM) (k : Nat) (h : k < l.length) : lastL s (l.take (k + 1)) = lastStep s (lastL s (l.take k)) l[k] := foldl_snoc _ _ _ _ h
theorem last_mono (s : ByteArray) (l : List RuleM) : ∀ a : Int, 0 < a → 0 < l.foldl (lastStep s) a := by
  induction l with
  | nil => intro a h; exact h
  | cons r l ih =>
    intro a h
    refine ih _ ?_
    unfold lastStep
    split <;> (try split) <;> omega
theorem last_pos (s : ByteArray) (l : List RuleM) (hf : ∀ r ∈ l, 0 < r.fld) : decide (0 < l.foldl (lastStep s) 0) = l.any fun r => r.seg.toList == s.toList := by
  induction l with
  | nil => rfl
  | cons r l ih =>
    have h1 : 0 < r.fld := hf r (by simp)
    have h2 := ih fun x hx => hf x (by simp [hx])
    rw [List.foldl_cons, List.any_cons]
    by_cases h : (r.seg.toList == s.toList) = true
    · rw [h, Bool.true_or]
      have e : lastStep s 0 r = r.fld := by unfold lastStep; rw [if_pos h, if_pos h1]
      rw [e]
      exact decide_eq_true (last_mono s l _ (by omega))
    · have hb : (r.seg.toList == s.toList) = false := by simpa using h
      have e : lastStep s 0 r = 0 := by unfold lastStep; rw [if_neg h]
      rw [e, hb, Bool.false_or, h2]
theorem rulesL_fld : ∀ r ∈ rulesL, 0 < r.fld ∧ r.fld ≤ 30 ∧ 1 ≤ r.since ∧ r.since ≤ 3 := by decide
theorem schL_fld (n : Int) : ∀ r ∈ schL n, 0 < r.fld := fun r h => (rulesL_fld r (List.mem_filter.1 h).1).1
theorem known_eq (n : Int) (s : ByteArray) : decide (0 < lastL s (schL n)) = rulesL.any (hasR n s) := by
  unfold lastL
  rw [last_pos s _ (schL_fld n)]
  unfold schL hasR
  rw [List.any_filter]
  congr 1
  funext r
  exact Bool.and_comm _ _
theorem schL_snoc (n : Int) (k : Nat) (h : k < rulesL.length) : (rulesL.take (k + 1)).filter (fun r => decide (r.since ≤ n)) = (rulesL.take k).filter (fun r => decide (r.since ≤ n)) ++ (if rulesL[k].since ≤ n then [rulesL[k]] else []) := by
  rw [List.take_succ_eq_append_getElem h, List.filter_append]
  congr 1
  simp only [List.filter]
  split <;> simp_all
theorem any_snoc {α : Type} (f : α → Bool) (l : List α) (k : Nat) (h : k < l.length) : (l.take (k + 1)).any f = ((l.take k).any f || f l[k]) := by
  rw [List.take_succ_eq_append_getElem h, List.any_append]
  simp
theorem rulesL_all (k : Nat) (h : k < rulesL.length) : 0 < rulesL[k].fld ∧ rulesL[k].fld ≤ 30 ∧ 1 ≤ rulesL[k].since ∧ rulesL[k].since ≤ 3 := rulesL_fld _ (List.getElem_mem h)
theorem last_le (s : ByteArray) (l : List RuleM) (hf : ∀ r ∈ l, r.fld ≤ 30) : ∀ a : Int, 0 ≤ a → a ≤ 30 → 0 ≤ l.foldl (lastStep s) a ∧ l.foldl (lastStep s) a ≤ 30 := by
  induction l with
  | nil => intro a h0 h; exact ⟨h0, h⟩
  | cons r l ih =>
    intro a h0 h
    have h1 := hf r (by simp)
    refine ih (fun x hx => hf x (by simp [hx])) _ ?_ ?_ <;> (unfold lastStep; split <;> (try split) <;> omega)
theorem lastL_le (s : ByteArray) (l : List RuleM) (hf : ∀ r ∈ l, r.fld ≤ 30) : 0 ≤ lastL s l ∧ lastL s l ≤ 30 := last_le s l hf 0 (by omega) (by omega)

/-- The slice v reads as the Rules l. -/
def RRules (w : World) (v : Value) (l : List RuleM) : Prop :=
  ∃ p cap, v = .slice p l.length cap ∧ l.length ≤ cap ∧ cap ≤ maxLen ∧
    (0 < l.length → ∃ g, p = some ⟨g, 0, none⟩ ∧ g < w.heap.size ∧ ∀ k (h : k < l.length),
      w.cell? ⟨g, k * 6, none⟩ = some (.string l[k].seg) ∧ w.cell? ⟨g, k * 6 + 1, none⟩ = some (.int .i64 l[k].fld) ∧ w.cell? ⟨g, k * 6 + 2, none⟩ = some (.int .i64 l[k].ty) ∧ w.cell? ⟨g, k * 6 + 3, none⟩ = some (.bool l[k].must) ∧ w.cell? ⟨g, k * 6 + 4, none⟩ = some (.bool l[k].many) ∧ w.cell? ⟨g, k * 6 + 5, none⟩ = some (.int .i64 l[k].since))
theorem RRules.below {w w' : World} {v : Value} {l : List RuleM} {B : Nat} (h : RRules w v l) (hb : Below B w w') (hB : w.heap.size ≤ B) : RRules w' v l := by
  obtain ⟨p, cap, rfl, h1, h2, h4⟩ := h
  refine ⟨p, cap, rfl, h1, h2, fun h0 => ?_⟩
  obtain ⟨g, rfl, hg, hc⟩ := h4 h0
  refine ⟨g, rfl, Nat.lt_of_lt_of_le hg hb.size, fun i hi => ?_⟩
  have e : ∀ j, w'.cell? ⟨g, j, none⟩ = w.cell? ⟨g, j, none⟩ := fun j => hb.cell (p := ⟨g, j, none⟩) (Nat.lt_of_lt_of_le hg hB)
  simp only [e]
  exact hc i hi
theorem rules_of_own {w : World} {B : Nat} {T : TypeId} {v : Value} {l : List RuleM} (h : w.ownsRow B T 6 v l.length (rcs l))  : RRules w v l := by
  have hc := fun g p n (e : v = .slice (some ⟨g, 0, none⟩) p n) => World.ownsRow.cells (g := g) (e ▸ h) rfl
  rcases h.2 with ⟨rfl, hn⟩ | ⟨g, cap, cur, rfl, hbg, hg, hnc, hcm, hcs, htake⟩
  · exact ⟨none, 0, by rw [hn], by omega, by unfold maxLen; omega, fun h0 => by omega⟩
  · refine ⟨_, _, rfl, hnc, hcm, fun _ => ⟨g, rfl, ?_, fun k hk => ?_⟩⟩
    · rcases Nat.lt_or_ge g w.heap.size with h' | h'
      · exact h'
      · rw [Array.getElem?_eq_none h'] at hg; cases hg
    · have q := hc g _ _ rfl
      obtain ⟨p0, p1, p2, p3, p4, p5⟩ := rcs_get l k hk
      have ea : ∀ j, (⟨g, 0, none⟩ : Addr).add j = ⟨g, j, none⟩ := fun j => by unfold Addr.add; split <;> simp_all
      simp only [ea] at q
      exact ⟨q _ _ p0, q _ _ p1, q _ _ p2, q _ _ p3, q _ _ p4, q _ _ p5⟩
theorem schL_len (n : Int) : (schL n).length ≤ 28 := by
  have := List.length_filter_le (fun r : RuleM => decide (r.since ≤ n)) rulesL
  rw [rulesL_len] at this
  exact this
theorem schL_30 (n : Int) : ∀ r ∈ schL n, r.fld ≤ 30 := fun r h => (rulesL_fld r (List.mem_filter.1 h).1).2.1
end Go.Proofs.YtfjjbofnfigehaaGreatDoor
/- The schema of a version: what Rules it has, of the program. -/
namespace Go.Proofs.YtfjjbofnfigehaaGreatDoor
open Go.RowKit
theorem Tryz.infoRule : (Tryz.prog.info? 88).map (fun i => (i.zero, i.size, i.bytes)) = some (some (.agg #[.string ⟨#[]⟩, .int .i64 0, .int .i64 0, .bool false, .bool false, .int .i64 0]), 6, 48) := by kernel_rfl
/-- What schemaOf answers. -/
def SchRes (n : Int) (w : World) (e : Ending) (w' : World) : Prop :=
  ∃ v, e = .returned (.agg #[.int .i64 (if verB n = true then n else 0), v]) ∧ RRules w' v (if verB n = true then schL n else []) ∧ Below w.heap.size w w'
theorem rule_row6 {w : World} {G : Nat} {l : List RuleM} {T : TypeId} (h : Row w G T (rcs l)) (k : Nat) (hk : k < l.length) :
    w.cell? ⟨G, k * 6, none⟩ = Option.some (.string l[k].seg) ∧ w.cell? ⟨G, k * 6 + 1, none⟩ = Option.some (.int .i64 l[k].fld) ∧ w.cell? ⟨G, k * 6 + 2, none⟩ = Option.some (.int .i64 l[k].ty) ∧ w.cell? ⟨G, k * 6 + 3, none⟩ = Option.some (.bool l[k].must) ∧ w.cell? ⟨G, k * 6 + 4, none⟩ = Option.some (.bool l[k].many) ∧ w.cell? ⟨G, k * 6 + 5, none⟩ = Option.some (.int .i64 l[k].since) := by
  obtain ⟨p0, p1, p2, p3, p4, p5⟩ := rcs_get l k hk
  refine ⟨?_, ?_, ?_, ?_, ?_, ?_⟩
  all_goals rw [h.cell]; assumption
theorem own_slice {w : World} {B : Nat} {T : TypeId} {sz n : Nat} {v : Value} {xs : List Value} (h : w.ownsRow B T sz v n xs) : ∃ p c, v = .slice p n c := by
  rcases h.2 with ⟨rfl, hn⟩ | ⟨g, cap, cur, rfl, _⟩
  · exact ⟨none, 0, by rw [hn]⟩
  · exact ⟨_, _, rfl⟩
theorem row6 (w : World) (r : RuleM) (T : TypeId) : Row (w.alloc (.cells #[.string r.seg, .int .i64 r.fld, .int .i64 r.ty, .bool r.must, .bool r.many, .int .i64 r.since] T)) w.heap.size T r.cells := row_new w r.cells T
theorem row_cells {w : World} {g : Nat} {T : TypeId} {cs : List Value} (h : Row w g T cs) : ∀ j u, cs[j]? = some u → w.cell? ((⟨g, 0, none⟩ : Addr).add j) = some u := by
  intro j u hu
  have ea : (⟨g, 0, none⟩ : Addr).add j = ⟨g, j, none⟩ := by unfold Addr.add; split <;> simp_all
  rw [ea, h.cell, hu]
theorem cells_one (r : RuleM) : ∀ u ∈ r.cells, u.oneCell' = true := by
  intro u hu
  simp [RuleM.cells] at hu
  rcases hu with rfl | rfl | rfl | rfl | rfl | rfl <;> rfl
theorem Row.grown {w w' : World} {g : Nat} {T : TypeId} {cs : List Value} {row : Option Nat} (h : Row w g T cs) (hg : w.grownBy w' row) (hne : row ≠ Option.some g) : Row w' g T cs := by
  unfold Row; rw [hg.block g h.lt (fun e => hne e.symm)]; exact h
set_option maxHeartbeats 4000000 in
set_option maxRecDepth 100000 in
theorem schemaOf_any (n : Int) (w : World) : Calls Tryz.prog 31 #[.int .i64 n] w fun e w' => SchRes n w e w' := by
  obtain ⟨i0, hi, hz0, hz1, hz2⟩ := info_parts Tryz.infoRule
  have HL28 := hide rulesL_len
  go_enter Tryz.func31, Tryz.ntmps31
  go_wp2_with fail
  refine (versionRight_any n _).mono ?_
  rintro e w1 ⟨rfl, rfl⟩
  have HBv := hide (((Below.refl w.heap.size w).alloc (Nat.le_refl _) (.cells #[.int .i64 0, .slice none 0 0] 61)))
  have HR2v := hide (row_new w [.int .i64 0, .slice none 0 0] 61)
  cases hv : verB n
  · have q0 : (w.alloc (.cells #[.int .i64 0, .slice none 0 0] 61)).cell? ⟨w.heap.size, 0, none⟩ = some (.int .i64 0) := HR2v.out.cell 0
    have q1 : (w.alloc (.cells #[.int .i64 0, .slice none 0 0] 61)).cell? ⟨w.heap.size, 1, none⟩ = some (.slice none 0 0) := HR2v.out.cell 1
    have q2 := HR2v.out.free 0
    have q3 := HR2v.out.free 1
    go_wp2
    refine bodyPost_ret (v := .agg #[.int .i64 0, .slice none 0 0]) ?_ rfl ?_
    · simp [results, Tryz.results31, go_sem, q0, q1]
    · exact ⟨.slice none 0 0, by simp [hv], by rw [if_neg (by simp [hv])]; exact ⟨none, 0, rfl, by simp, by unfold maxLen; omega, fun h => absurd h (by simp)⟩, HBv.out⟩
  · have HB3 := hide (HBv.out.alloc (by simp) (.cells #[.int .i64 n, .slice none 0 0] 61))
    have HR2a := hide (HR2v.out.alloc (.cells #[.int .i64 n, .slice none 0 0] 61))
    have HR3a := hide (row_new (w.alloc (.cells #[.int .i64 0, .slice none 0 0] 61)) [.int .i64 n, .slice none 0 0] 61)
    go_wp2_with fail
    have esz : (w.alloc (.cells #[.int .i64 0, .slice none 0 0] 61)).heap.size = w.heap.size + 1 := by simp
    rw [esz] at HR3a
    clear esz
    refine (implRules_any _).mono ?_
    rintro e w2 ⟨rfl, hrow2, hb2⟩
    have HBw := hide (HB3.out.trans (hb2.mono HB3.out.size))
    have HR2 := hide (HR2a.out.below hb2 HR2a.out.lt)
    have HR3 := hide (HR3a.out.below hb2 HR3a.out.lt)
    have HRG := hide hrow2
    have HOW := hide (World.ownsRow_nil w2 w2.heap.size 88 6)
    clear HB3 HR2a HR3a HBv HR2v hb2
    have hG : w.heap.size + 1 < (((w.alloc (.cells #[.int .i64 0, .slice none 0 0] 61)).alloc (.cells #[.int .i64 n, .slice none 0 0] 61)).heap.size : Nat) := by simp
    generalize ((w.alloc (.cells #[.int .i64 0, .slice none 0 0] 61)).alloc (.cells #[.int .i64 n, .slice none 0 0] 61)).heap.size = G at *
    have HGs := hide hrow2.lt
    clear hrow2
    have HGG := hide hG
    clear hG
    go_wp2_with fail
    go_loopw [14] (fun i wr => ∃ (X : World) (k : Nat) (vl : Value) (l : List RuleM), X = wr ∧ k ≤ 28 ∧ i = .int .i64 (k : Int) ∧ l.length ≤ k ∧ Hid (l = (rulesL.take k).filter (fun r => decide (r.since ≤ n))) ∧ Hid (Below w.heap.size w X) ∧ Hid (Row X w.heap.size 61 [.int .i64 0, .slice none 0 0]) ∧ Hid (Row X (w.heap.size + 1) 61 [.int .i64 n, vl]) ∧ Hid (Row X G 88 (rcs rulesL)) ∧ Hid (X.ownsRow w2.heap.size 88 6 vl l.length (rcs l)) ∧ Hid (w2.heap.size ≤ X.heap.size)) (fun i _ => 28 - (intOf i).toNat)
    case atStart => exact ⟨_, 0, _, [], rfl, Nat.zero_le _, rfl, Nat.le_refl _, hide (by simp), HBw, HR2, HR3, HRG, HOW, hide (Nat.le_refl _)⟩
    case round =>
      obtain ⟨X, k, vl, l, rfl, hk, rfl, hlk, HL, HB, HA, HC, HD, HO, HZ⟩ := hrel
      by_cases hlt : k < 28
      · have hkl : k < rulesL.length := hlt
        obtain ⟨a0, a1, a2, a3, a4, a5⟩ := rule_row6 HD.out k hkl
        have HSN := hide (schL_snoc n k hkl)
        have HAL := hide (rulesL_all k hkl)
        have hki : (k : Int) < 28 := by omega
        generalize (rulesL[k]'hkl) = r at *
        have HB1 := hide (HB.out.alloc HB.out.size (.cells #[.string r.seg, .int .i64 r.fld, .int .i64 r.ty, .bool r.must, .bool r.many, .int .i64 r.since] 88))
        have HA1 := hide (HA.out.alloc (.cells #[.string r.seg, .int .i64 r.fld, .int .i64 r.ty, .bool r.must, .bool r.many, .int .i64 r.since] 88))
        have HC1 := hide (HC.out.alloc (.cells #[.string r.seg, .int .i64 r.fld, .int .i64 r.ty, .bool r.must, .bool r.many, .int .i64 r.since] 88))
        have HD1 := hide (HD.out.alloc (.cells #[.string r.seg, .int .i64 r.fld, .int .i64 r.ty, .bool r.must, .bool r.many, .int .i64 r.since] 88))
        have HO1 := hide (HO.out.alloc (.cells #[.string r.seg, .int .i64 r.fld, .int .i64 r.ty, .bool r.must, .bool r.many, .int .i64 r.since] 88))
        have HZ1 : Hid (w2.heap.size ≤ (X.alloc (.cells #[.string r.seg, .int .i64 r.fld, .int .i64 r.ty, .bool r.must, .bool r.many, .int .i64 r.since] 88)).heap.size) := hide (by have := HZ.out; simp; omega)
        by_cases hsi : r.since ≤ n
        · have HZC := hide (show (Value.agg #[.string ⟨#[]⟩, .int .i64 0, .int .i64 0, .bool false, .bool false, .int .i64 0]).cells.size = 6 from rfl)
          have HR5 := hide (row_new X r.cells 88)
          have HX1 : Hid (w.heap.size + 1 < X.heap.size) := hide (by have := HC.out.lt; exact this)
          have HXs : Hid ((X.alloc (.cells #[.string r.seg, .int .i64 r.fld, .int .i64 r.ty, .bool r.must, .bool r.many, .int .i64 r.since] 88)).heap.size = X.heap.size + 1) := hide (by simp)
          have c1 : (X.alloc (.cells #[.string r.seg, .int .i64 r.fld, .int .i64 r.ty, .bool r.must, .bool r.many, .int .i64 r.since] 88)).cell? ⟨w.heap.size + 1, 1, none⟩ = some vl := HC1.out.cell 1
          go_upto_region 8 with fail
          obtain ⟨X1, hX1⟩ : ∃ X1, X1 = X.alloc (.cells #[.string r.seg, .int .i64 r.fld, .int .i64 r.ty, .bool r.must, .bool r.many, .int .i64 r.since] 88) := ⟨_, rfl⟩
          rw [← hX1] at HB1 HA1 HC1 HD1 HO1 HZ1 HXs c1 ⊢
          have r0 : X1.cell? ⟨X.heap.size, 0, none⟩ = some (.string r.seg) := by rw [hX1]; exact HR5.out.cell 0
          have r1 : X1.cell? ⟨X.heap.size, 1, none⟩ = some (.int .i64 r.fld) := by rw [hX1]; exact HR5.out.cell 1
          have r2 : X1.cell? ⟨X.heap.size, 2, none⟩ = some (.int .i64 r.ty) := by rw [hX1]; exact HR5.out.cell 2
          have r3 : X1.cell? ⟨X.heap.size, 3, none⟩ = some (.bool r.must) := by rw [hX1]; exact HR5.out.cell 3
          have r4 : X1.cell? ⟨X.heap.size, 4, none⟩ = some (.bool r.many) := by rw [hX1]; exact HR5.out.cell 4
          have r5 : X1.cell? ⟨X.heap.size, 5, none⟩ = some (.int .i64 r.since) := by rw [hX1]; exact HR5.out.cell 5
          clear hX1 HR5
          have HRN := hide (row6 X1 r 88)
          have HO2 := hide (HO1.out.alloc (.cells #[.string r.seg, .int .i64 r.fld, .int .i64 r.ty, .bool r.must, .bool r.many, .int .i64 r.since] 88))
          have HB2 := hide (HB1.out.alloc HB1.out.size (.cells #[.string r.seg, .int .i64 r.fld, .int .i64 r.ty, .bool r.must, .bool r.many, .int .i64 r.since] 88))
          have HA2 := hide (HA1.out.alloc (.cells #[.string r.seg, .int .i64 r.fld, .int .i64 r.ty, .bool r.must, .bool r.many, .int .i64 r.since] 88))
          have HC2 := hide (HC1.out.alloc (.cells #[.string r.seg, .int .i64 r.fld, .int .i64 r.ty, .bool r.must, .bool r.many, .int .i64 r.since] 88))
          have HD2 := hide (HD1.out.alloc (.cells #[.string r.seg, .int .i64 r.fld, .int .i64 r.ty, .bool r.must, .bool r.many, .int .i64 r.since] 88))
          have HZ2 : Hid (w2.heap.size ≤ (X1.alloc (.cells #[.string r.seg, .int .i64 r.fld, .int .i64 r.ty, .bool r.must, .bool r.many, .int .i64 r.since] 88)).heap.size) := hide (by have := HZ1.out; simp; omega)
          go_wp2_with (at_builtin; refine wpList_append_own_at (X1.alloc (.cells #[.string r.seg, .int .i64 r.fld, .int .i64 r.ty, .bool r.must, .bool r.many, .int .i64 r.since] 88)) rfl (.tmp 23) (.tmp 25) 59 rfl w2.heap.size 88 i0 _ 6 48 Tryz.underlying59 hi hz0 hz1 hz2 HZC.out (by omega) vl l.length (rcs l) rfl HO2.out ⟨X1.heap.size, 0, none⟩ 1 _ r.cells rfl rfl (row_cells HRN.out) (cells_one r) (by unfold maxLen; omega) (by omega) HZ2.out ?_)
          intro v' w3 hown hgrow _ _
          obtain ⟨p', c', hv'⟩ := own_slice hown
          subst hv'
          have HLT := hide (HO2.out.lt)
          have hne : ∀ b, b ≤ G → vl.ownBlock ≠ some b := fun b hb e => by have h1 := HLT.out b e; have h2 := HGs.out; omega
          have HA3 := hide (HA2.out.grown hgrow (hne _ (by have := HGG.out; omega)))
          have HC3 := hide (HC2.out.grown hgrow (hne _ (by have := HGG.out; omega)))
          have HD3 := hide (HD2.out.grown hgrow (hne _ (by omega)))
          have HB3 := hide (HB2.out.grown hgrow HB2.out.size (fun k hk => by have h1 := HLT.out k hk; have h2 := HGs.out; have h3 := HGG.out; omega))
          have HZ3 : Hid (w2.heap.size ≤ w3.heap.size) := hide (Nat.le_trans HZ2.out hgrow.size)
          have hf := HC3.out.free 1
          have c3 : w3.cell? ⟨w.heap.size + 1, 1, none⟩ = some vl := HC3.out.cell 1
          have HA4 := hide (HA3.out.other (b := w.heap.size + 1) (j := 1) (by omega) (.slice p' (l.length + 1) c'))
          have HC4 := hide (HC3.out.set (j := 1) (.slice p' (l.length + 1) c'))
          have HD4 := hide (HD3.out.other (b := w.heap.size + 1) (j := 1) (by have := HGG.out; omega) (.slice p' (l.length + 1) c'))
          have HB4 := hide (HB3.out.setCell (p := ⟨w.heap.size + 1, 1, none⟩) (by show w.heap.size ≤ w.heap.size + 1; omega) (.slice p' (l.length + 1) c'))
          have HO4 := hide (ownsRow_setCell_below hown (a := ⟨w.heap.size + 1, 1, none⟩) (by show w.heap.size + 1 < w2.heap.size; have h2 := HGs.out; have h3 := HGG.out; omega) (.slice p' (l.length + 1) c'))
          have HZ4 : Hid (w2.heap.size ≤ (w3.setCell ⟨w.heap.size + 1, 1, none⟩ (.slice p' (l.length + 1) c')).heap.size) := hide (by have := HZ3.out; simpa [World.setCell] using this)
          have HO5 : Hid ((w3.setCell ⟨w.heap.size + 1, 1, none⟩ (.slice p' (l.length + 1) c')).ownsRow w2.heap.size 88 6 (.slice p' (l.length + 1) c') (l ++ [r]).length (rcs (l ++ [r]))) := hide (by rw [List.length_append, rcs_append]; exact HO4.out)
          have HN : Hid (l ++ [r] = (rulesL.take (k + 1)).filter (fun r => decide (r.since ≤ n))) := by rw [HSN.out, if_pos hsi, HL.out]; exact rfl
          clear hown hgrow HA3 HD3 HB3 HZ3 HO4 HLT hne
          go_wp2
          go_roundw
          case rel => exact ⟨_, k + 1, _, _, rfl, by omega, by go_num, by simp; omega, HN, HB4, HA4, HC4, HD4, HO5, HZ4⟩
          case measure => simp [intOf]; omega
        · have HN : Hid (l = (rulesL.take (k + 1)).filter (fun r => decide (r.since ≤ n))) := by rw [HSN.out, if_neg hsi, List.append_nil]; exact HL.out
          go_wp2
          go_roundw
          case rel => exact ⟨_, k + 1, _, _, rfl, by omega, by go_num, by omega, HN, HB1, HA1, HC1, HD1, HO1, HZ1⟩
          case measure => simp [intOf]; omega
      · have hk28 : k = 28 := by omega
        obtain ⟨p', c', hv'⟩ := own_slice HO.out
        subst hv'
        have HLE : Hid (l = schL n) := hide (by rw [HL.out, hk28, List.take_of_length_le (by rw [HL28.out]; omega)]; rfl)
        have c0 : X.cell? ⟨w.heap.size + 1, 0, none⟩ = some (.int .i64 n) := HC.out.cell 0
        have c1 : X.cell? ⟨w.heap.size + 1, 1, none⟩ = some (.slice p' l.length c') := HC.out.cell 1
        have a0 : X.cell? ⟨w.heap.size, 0, none⟩ = some (.int .i64 0) := HA.out.cell 0
        have a1 : X.cell? ⟨w.heap.size, 1, none⟩ = some (.slice none 0 0) := HA.out.cell 1
        have f0 := HA.out.free 0
        have f1 := HA.out.free 1
        have HB4 := hide ((HB.out.setCell (p := ⟨w.heap.size, 0, none⟩) (Nat.le_refl _) (.int .i64 n)).setCell (p := ⟨w.heap.size, 1, none⟩) (Nat.le_refl _) (.slice p' l.length c'))
        have HA4 := hide ((HA.out.set (j := 0) (.int .i64 n)).set (j := 1) (.slice p' l.length c'))
        have q0 : ((X.setCell ⟨w.heap.size, 0, none⟩ (.int .i64 n)).setCell ⟨w.heap.size, 1, none⟩ (.slice p' l.length c')).cell? ⟨w.heap.size, 0, none⟩ = some (.int .i64 n) := HA4.out.cell 0
        have q1 : ((X.setCell ⟨w.heap.size, 0, none⟩ (.int .i64 n)).setCell ⟨w.heap.size, 1, none⟩ (.slice p' l.length c')).cell? ⟨w.heap.size, 1, none⟩ = some (.slice p' l.length c') := HA4.out.cell 1
        have HO4 := hide (ownsRow_setCell_below (ownsRow_setCell_below HO.out (a := ⟨w.heap.size, 0, none⟩) (by show w.heap.size < w2.heap.size; have h2 := HGs.out; have h3 := HGG.out; omega) (.int .i64 n)) (a := ⟨w.heap.size, 1, none⟩) (by show w.heap.size < w2.heap.size; have h2 := HGs.out; have h3 := HGG.out; omega) (.slice p' l.length c'))
        have HRR := hide (rules_of_own HO4.out)
        go_wp2
        refine bodyPost_ret (v := .agg #[.int .i64 n, .slice p' l.length c']) ?_ rfl ?_
        · simp [results, Tryz.results31, go_sem, q0, q1]
        · exact ⟨.slice p' l.length c', by simp [hv], by rw [if_pos hv, ← HLE.out]; exact HRR.out, HB4.out⟩
end Go.Proofs.YtfjjbofnfigehaaGreatDoor
